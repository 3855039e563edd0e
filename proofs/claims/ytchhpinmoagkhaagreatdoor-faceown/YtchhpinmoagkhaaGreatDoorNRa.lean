/- The reference's reader in memory, and what its text answers. What the reference's Name and Sign answer: contracts. What the reference's Sign, must, name, whole, label and number answer: contracts. What the reference's name, whole and label answer: contracts. What the reference's number answers: a contract. -/
import Derived.Test.YtchhpinmoagkhaaGreatDoorProg
import Derived.WalkKit
import Derived.WalkLawsBesides
import Derived.Outline
import Derived.WalkSmall
import Derived.BigQuiet
import Derived.Deep.QuietTactic
import Derived.Test.YtchhpinmoagkhaaGreatDoorNLc
import Derived.Test.YtchhpinmoagkhaaGreatDoorNSa
import Derived.Test.YtchhpinmoagkhaaGreatDoorNLb
namespace Go.Proofs.YtchhpinmoagkhaaGreatDoor.syn
open Go.RowKit
open Go.Proofs.YtchhpinmoagkhaaGreatDoor.lexs (Tok cellsOf tok_cells own_shape numE)
set_option linter.unusedVariables false

/-- a reader lies in block r: its tokens, where it is, whether it has failed -/
structure Rd (w : World) (r : Nat) (L : Value) (ts : List Tok) (s : St) : Prop where
  c0 : w.cell? ⟨r, 0, none⟩ = some L
  c1 : w.cell? ⟨r, 1, none⟩ = some (.int .i64 (s.i : Int))
  c2 : w.cell? ⟨r, 2, none⟩ = some (.bool s.bad)
  f1 : w.frozen? ⟨r, 1, none⟩ = false
  f2 : w.frozen? ⟨r, 2, none⟩ = false
  own : w.ownsRow 0 58 3 L ts.length (cellsOf ts)
  ne : L.ownBlock ≠ some r
  len : ts.length ≤ 3000
  le : s.i ≤ ts.length
  num : ∀ t ∈ ts, t.kind = 2 → numE t.text = 0 ∧ t.text ≠ []
theorem Rd.drewN {w : World} {r : Nat} {L : Value} {ts : List Tok} {s : St} (h : Rd w r L ts s) (n : Nat) : Rd (w.drewN n) r L ts s :=
  ⟨h.c0, h.c1, h.c2, h.f1, h.f2, h.own, h.ne, h.len, h.le, h.num⟩
theorem Rd.setAt {w : World} {r : Nat} {L : Value} {ts : List Tok} {s : St} (h : Rd w r L ts s) (i : Nat) (hi : i ≤ ts.length) : Rd (w.setCell ⟨r, 1, none⟩ (.int .i64 (i : Int))) r L ts { s with i := i } :=
  ⟨by rw [World.cell?_setCell_other _ _ _ _ (by simp)]; exact h.c0, World.cell?_setCell_same _ _ _ h.c1, by rw [World.cell?_setCell_other _ _ _ _ (by simp)]; exact h.c2, by simp [h.f1], by simp [h.f2],
    ownsRow_setCell_other h.own h.ne _, h.ne, h.len, hi, h.num⟩
theorem Rd.setBad {w : World} {r : Nat} {L : Value} {ts : List Tok} {s : St} (h : Rd w r L ts s) : Rd (w.setCell ⟨r, 2, none⟩ (.bool true)) r L ts s.fail :=
  ⟨by rw [World.cell?_setCell_other _ _ _ _ (by simp)]; exact h.c0, by rw [World.cell?_setCell_other _ _ _ _ (by simp)]; exact h.c1, World.cell?_setCell_same _ _ _ h.c2, by simp [h.f1], by simp [h.f2],
    ownsRow_setCell_other h.own h.ne _, h.ne, h.len, h.le, h.num⟩
/-- what leaves all blocks that were there but the reader's -/
abbrev Fr (r : Nat) (w w' : World) : Prop := w.grownBy w' (some r)
theorem Fr.refl (r : Nat) (w : World) : Fr r w w := World.grownBy.refl _ _
theorem Fr.drewN {r : Nat} {w w' : World} (h : Fr r w w') (n : Nat) : Fr r w (w'.drewN n) := ⟨h.os, h.tape, h.output, h.size, h.block⟩
theorem Fr.trans {r : Nat} {a b c : World} (h : Fr r a b) (k : Fr r b c) : Fr r a c :=
  ⟨k.os.trans h.os, k.tape.trans h.tape, k.output.trans h.output, Nat.le_trans h.size k.size, fun j hj hn => (k.block j (Nat.lt_of_lt_of_le hj h.size) hn).trans (h.block j hj hn)⟩
theorem Fr.set {r : Nat} {w w' : World} (h : Fr r w w') (o : Nat) (v : Value) : Fr r w (w'.setCell ⟨r, o, none⟩ v) :=
  ⟨h.os, h.tape, h.output, by rw [World.size_setCell]; exact h.size, fun j hj hn => (Below.heap_setCell _ _ _ _ (fun e => hn (by rw [e]))).trans (h.block j hj hn)⟩
theorem eqS_empty {x : ByteArray} (h : eqS empty x = true) : x.size = 0 := by
  unfold eqS at h
  rw [beq_iff_eq, ByteArray.toList_eq, ByteArray.toList_eq] at h
  have h2 := congrArg List.length h
  rw [lexs.len_L, lexs.len_L] at h2
  exact h2.symm
/-- where something stands, a token does -/
theorem txt_lt {ts : List Tok} {s : St} {x : ByteArray} (hx : 0 < x.size) (h : eqS (txt ts s) x = true) : s.i < ts.length := by
  unfold txt here at h
  rcases Nat.lt_or_ge s.i ts.length with hl | hl
  · exact hl
  · exfalso
    rw [List.getElem?_eq_none hl] at h
    cases hb : s.bad <;> rw [hb] at h <;> simp at h <;> have := eqS_empty h <;> omega
set_option maxRecDepth 100000 in
set_option maxHeartbeats 1000000 in
theorem rtext (w : World) (r : Nat) (L : Value) (ts : List Tok) (s : St) (h : Rd w r L ts s) :
    Calls Tryz.prog 56 #[.pointer (some ⟨r, 0, none⟩)] w fun e w' => e = .returned (.string (txt ts s)) ∧ ∃ n, w' = w.drewN n := by
  have c29 : Tryz.prog.cellsOf 58 = 3 := by kernel_rfl
  obtain ⟨c0, c1, c2, f1, f2, own, ne, len, le, num⟩ := h
  obtain ⟨i, bad⟩ := s
  dsimp only at c1 c2 le
  obtain ⟨a, cp, rfl, hm, hg⟩ := own_shape own
  cases bad
  · by_cases hlt : i < ts.length
    · obtain ⟨g, rfl⟩ := hg (by omega)
      obtain ⟨y0, y1, y2⟩ := tok_cells own hlt
      have ht : txt ts ⟨i, false⟩ = if ts[i].kind == 2 then empty else ⟨ts[i].text.toArray⟩ := by
        unfold txt here
        simp [hlt]
      rw [ht]
      generalize ts[i].kind = tk at *
      generalize ts[i].text = tx at *
      have hd : decide ((i : Int) ≥ (ts.length : Int)) = false := by simp; omega
      cases hk : (tk == 2)
      · go_enter Tryz.func56, Tryz.ntmps56
        go_wp2
        go_quiet (fail)
        go_wp2
        go_quiet (fail)
        go_wp2
        go_ret
        exact ⟨rfl, _, rfl⟩
      · go_enter Tryz.func56, Tryz.ntmps56
        go_wp2
        go_quiet (fail)
        go_wp2
        go_ret
        exact ⟨rfl, _, rfl⟩
    · have ht : txt ts ⟨i, false⟩ = empty := by
        unfold txt here
        simp [hlt]
      rw [ht]
      have hd : decide ((i : Int) ≥ (ts.length : Int)) = true := by simp; omega
      go_enter Tryz.func56, Tryz.ntmps56
      go_wp2
      go_quiet (fail)
      go_wp2
      go_ret
      exact ⟨rfl, _, rfl⟩
  · have ht : txt ts ⟨i, true⟩ = empty := by unfold txt here; rfl
    rw [ht]
    go_enter Tryz.func56, Tryz.ntmps56
    go_wp2
    go_quiet (fail)
    go_wp2
    go_ret
    exact ⟨rfl, _, rfl⟩
theorem reat (w : World) (r : Nat) (L : Value) (ts : List Tok) (s : St) (hR : Rd w r L ts s) (x : ByteArray) (hx : 0 < x.size) :
    Calls Tryz.prog 25 #[.pointer (some ⟨r, 0, none⟩), .string x] w fun e w' => e = .returned (.bool (eat ts x s).1) ∧ Rd w' r L ts (eat ts x s).2 ∧ Fr r w w' := by
  have hT := rtext w r L ts s hR
  have c1 := hR.c1
  have f1 := hR.f1
  unfold eat
  cases he : eqS (txt ts s) x
  · generalize txt ts s = y at *
    unfold eqS at he
    go_enter Tryz.func25, Tryz.ntmps25
    go_wp2_with (go_at_call 56; refine hT.mono ?_; rintro e w1 ⟨rfl, n, rfl⟩)
    go_ret
    exact ⟨rfl, hR.drewN n, (Fr.refl _ _).drewN n⟩
  · have hlt := txt_lt hx he
    have hlen := hR.len
    generalize txt ts s = y at *
    unfold eqS at he
    go_enter Tryz.func25, Tryz.ntmps25
    go_wp2_with (go_at_call 56; refine hT.mono ?_; rintro e w1 ⟨rfl, n, rfl⟩)
    go_ret
    refine ⟨rfl, ?_, ?_⟩
    · exact (hR.setAt (s.i + 1) (by omega)).drewN n
    · exact ((Fr.refl _ _).set _ _).drewN n
end Go.Proofs.YtchhpinmoagkhaaGreatDoor.syn
namespace Go.Proofs.YtchhpinmoagkhaaGreatDoor.syn
open Go.RowKit
open Go.Proofs.YtchhpinmoagkhaaGreatDoor.lexs (Tok ltrI insI rletter rinside)
set_option linter.unusedVariables false

def rv (k : Nat) : ByteArray := reserved.getD k empty
theorem any_hit (x : ByteArray) (k : Nat) (hk : k < 14) (h : eqS (rv k) x = true) : (reserved.any fun y => eqS y x) = true := by
  rw [List.any_eq_true]
  refine ⟨rv k, ?_, h⟩
  unfold rv
  rw [List.getD_eq_getElem?_getD, List.getElem?_eq_getElem (show k < reserved.length from hk)]
  exact List.getElem_mem _
theorem any_none (x : ByteArray) (h : ∀ j, j < 14 → eqS (rv j) x = false) : (reserved.any fun y => eqS y x) = false := by
  rw [List.any_eq_false]
  intro y hy
  obtain ⟨k, hk, rfl⟩ := List.mem_iff_getElem.1 hy
  have := h k hk
  unfold rv at this
  rw [List.getD_eq_getElem?_getD, List.getElem?_eq_getElem hk] at this
  simpa using this
theorem ret_bool {x y : Bool} (h : x = y) : Ending.returned (.bool x) = .returned (.bool y) := by rw [h]
theorem isName_short {x : ByteArray} (h : ¬ (1 ≤ x.size ∧ x.size ≤ 16)) : isName x = false := by unfold isName; rw [decide_eq_false h]; rfl
theorem isName_letter {x : ByteArray} (h0 : 0 < x.size) (h : ltrI (x[0].toNat : Int) = false) : isName x = false := by
  unfold isName
  rw [lexs.headL x h0, h]
  simp
theorem isName_inside {x : ByteArray} (k : Nat) (hk : k < x.size) (h : insI (x[k].toNat : Int) = false) : isName x = false := by
  have : x.data.toList.all (fun c => insI (c.toNat : Int)) = false := by
    rw [List.all_eq_false]
    exact ⟨x[k], by rw [← lexs.getL x k hk]; exact List.getElem_mem _, by simp [h]⟩
  unfold isName
  rw [this]
  simp
theorem isName_rest {x : ByteArray} (h0 : 1 ≤ x.size ∧ x.size ≤ 16) (hl : ltrI (x[0].toNat : Int) = true) (ha : ∀ k (h : k < x.size), insI (x[k].toNat : Int) = true) : isName x = !(reserved.any fun y => eqS y x) := by
  have : x.data.toList.all (fun c => insI (c.toNat : Int)) = true := by
    rw [List.all_eq_true]
    intro c hc
    obtain ⟨k, hk, rfl⟩ := List.mem_iff_getElem.1 hc
    rw [lexs.len_L] at hk
    exact ha k hk
  unfold isName
  rw [this, lexs.headL x h0.1, hl, decide_eq_true h0]
  simp
set_option maxRecDepth 100000 in
set_option maxHeartbeats 1000000 in
theorem rName (x : ByteArray) (w : World) :
    Calls Tryz.prog 57 #[.string x] w fun e w' => e = .returned (.bool (isName x)) ∧ Below w.heap.size w w' := by
  by_cases hz : 1 ≤ x.size
  case neg =>
    rw [isName_short (fun h => hz h.1)]
    have hz' : (x.size : Int) < 1 := by omega
    go_enter Tryz.func57, Tryz.ntmps57
    go_wp2
    go_ret
    exact ⟨rfl, Below.refl _ _⟩
  by_cases h16 : x.size ≤ 16
  case neg =>
    rw [isName_short (fun h => h16 h.2)]
    go_enter Tryz.func57, Tryz.ntmps57
    go_wp2_with (go_at_call 52; refine (rletter _ _).mono ?_; rintro e w' ⟨rfl, hw⟩; obtain rfl := hw.symm)
    go_ret
    exact ⟨rfl, Below.refl _ _⟩
  cases hl : ltrI (x[0].toNat : Int)
  · rw [isName_letter hz hl]
    go_enter Tryz.func57, Tryz.ntmps57
    go_wp2_with (go_at_call 52; refine (rletter _ _).mono ?_; rintro e w' ⟨rfl, hw⟩; obtain rfl := hw.symm)
    go_ret
    exact ⟨rfl, Below.refl _ _⟩
  · obtain ⟨V, hV⟩ : ∃ V, V = isName x := ⟨_, rfl⟩
    rw [← hV]
    have HV : Hid (V = isName x) := hV
    clear hV
    go_enter Tryz.func57, Tryz.ntmps57
    go_wp2_with (go_at_call 52; refine (rletter _ _).mono ?_; rintro e w' ⟨rfl, hw⟩; obtain rfl := hw.symm)
    go_loop [3] (fun t => ∃ j : Nat, j ≤ x.size ∧ t = .int .i64 j ∧ Hid (∀ k (h : k < x.size), k < j → insI (x[k].toNat : Int) = true)) (fun t => x.size - (intOf t).toNat)
    case atStart => exact ⟨0, Nat.zero_le _, rfl, fun k _ h => by omega⟩
    case round =>
      obtain ⟨j, hj, rfl, HN⟩ := hrel
      by_cases hq : j < x.size
      · cases hin : insI (x[j].toNat : Int)
        · have HF : Hid (V = false) := HV.out.trans (isName_inside j hq hin)
          go_wp2_with (go_at_call 51; refine (rinside _ _).mono ?_; rintro e w' ⟨rfl, hw⟩; obtain rfl := hw.symm)
          go_ret
          exact ⟨ret_bool HF.out.symm, Below.refl _ _⟩
        · go_wp2_with (go_at_call 51; refine (rinside _ _).mono ?_; rintro e w' ⟨rfl, hw⟩; obtain rfl := hw.symm)
          go_round
          case rel => exact ⟨j + 1, by omega, by go_num, fun k h h1 => by
            rcases Nat.lt_or_ge k j with h3 | h3
            · exact HN.out k h h3
            · have : k = j := by omega
              subst this
              exact hin⟩
          case measure => simp [intOf]; omega
      · have HA : Hid (V = !(reserved.any fun y => eqS y x)) := HV.out.trans (isName_rest ⟨hz, h16⟩ hl (fun k h => HN.out k h (by omega)))
        clear HN HV hl
        go_wp2_with go_in
        go_loopw [5] (fun t wr => ∃ k : Nat, k ≤ 14 ∧ t = .int .i64 k ∧ (∀ j, j < 14 → wr.cell? ⟨w.heap.size, j, none⟩ = some (.string (rv j))) ∧ Below w.heap.size w wr ∧ Hid (∀ j, j < k → eqS (rv j) x = false)) (fun t _ => 14 - (intOf t).toNat)
        case atStart =>
          refine ⟨0, by omega, rfl, ?_, (Below.refl _ _).alloc (Nat.le_refl _) _, fun j hj => by omega⟩
          intro j hj
          have hc : j = 0 ∨ j = 1 ∨ j = 2 ∨ j = 3 ∨ j = 4 ∨ j = 5 ∨ j = 6 ∨ j = 7 ∨ j = 8 ∨ j = 9 ∨ j = 10 ∨ j = 11 ∨ j = 12 ∨ j = 13 := by omega
          rcases hc with rfl | rfl | rfl | rfl | rfl | rfl | rfl | rfl | rfl | rfl | rfl | rfl | rfl | rfl <;> simp <;> rfl
        case round =>
          obtain ⟨k, hk, rfl, hcells, hbw, HN⟩ := hrel
          by_cases hlt : k < 14
          · have hcell := hcells k hlt
            have HC : Hid (∀ j, j < 14 → wr.cell? ⟨w.heap.size, j, none⟩ = some (.string (rv j))) := hcells
            clear hcells
            cases he : eqS (rv k) x
            · have HE : Hid (eqS (rv k) x = false) := he
              unfold eqS at he
              generalize rv k = y at hcell he
              go_wp2
              go_roundw
              case rel => exact ⟨k + 1, by omega, by go_num, HC.out, hbw, fun j hj => by
                rcases Nat.lt_or_ge j k with h | h
                · exact HN.out j h
                · have : j = k := by omega
                  subst this
                  exact HE.out⟩
              case measure => simp [intOf]; omega
            · have HF : Hid (V = false) := by
                show _ = _
                rw [HA.out, any_hit x k hlt he]
                rfl
              unfold eqS at he
              generalize rv k = y at hcell he
              go_wp2
              go_ret
              exact ⟨ret_bool HF.out.symm, hbw⟩
          · have HF : Hid (V = true) := by
              show _ = _
              rw [HA.out, any_none x (fun j hj => HN.out j (by omega))]
              rfl
            go_wp2
            go_ret
            exact ⟨ret_bool HF.out.symm, hbw⟩
end Go.Proofs.YtchhpinmoagkhaaGreatDoor.syn
namespace Go.Proofs.YtchhpinmoagkhaaGreatDoor.syn
open Go.RowKit
open Go.Proofs.YtchhpinmoagkhaaGreatDoor.lexs (Tok ltrI insI)
set_option linter.unusedVariables false

def sv (k : Nat) : ByteArray := (signs.getD k (empty, 0, -1)).1
def so (k : Nat) : Int := (signs.getD k (empty, 0, -1)).2.1
def sl (k : Nat) : Int := (signs.getD k (empty, 0, -1)).2.2
theorem nine {k : Nat} (h : k < 9) : k = 0 ∨ k = 1 ∨ k = 2 ∨ k = 3 ∨ k = 4 ∨ k = 5 ∨ k = 6 ∨ k = 7 ∨ k = 8 := by omega
theorem find_first {α : Type} (p : α → Bool) : ∀ (l : List α) (k : Nat) (hk : k < l.length), (∀ j (hj : j < l.length), j < k → p l[j] = false) → p l[k] = true → l.find? p = some l[k]
  | [], k, hk, _, _ => by simp at hk
  | a :: l, 0, _, _, h => by rw [List.find?_cons_of_pos (by simpa using h)]; rfl
  | a :: l, k + 1, hk, h1, h2 => by
    have h0 := h1 0 (by simp) (by omega)
    simp only [List.getElem_cons_zero] at h0
    rw [List.find?_cons, h0]
    simpa using find_first p l k (by simpa using hk) (fun j hj hjk => h1 (j + 1) (by simp; omega) (by omega)) (by simpa using h2)
theorem sv_at {k : Nat} (h : k < signs.length) : sv k = signs[k].1 ∧ (so k, sl k) = signs[k].2 := by
  unfold sv so sl
  rw [List.getD_eq_getElem?_getD, List.getElem?_eq_getElem h]
  exact ⟨rfl, rfl⟩
theorem sign_hit (x : ByteArray) (k : Nat) (hk : k < 9) (h1 : ∀ j, j < k → eqS (sv j) x = false) (h2 : eqS (sv k) x = true) : sign x = (so k, sl k) := by
  have hk' : k < signs.length := hk
  unfold sign
  rw [find_first _ signs k hk' (fun j hj hjk => by have := h1 j hjk; rw [(sv_at hj).1] at this; exact this) (by rw [(sv_at hk').1] at h2; exact h2)]
  exact (sv_at hk').2.symm
theorem sign_none (x : ByteArray) (h : ∀ j, j < 9 → eqS (sv j) x = false) : sign x = (0, -1) := by
  unfold sign
  rw [List.find?_eq_none.2]
  · rfl
  · intro y hy
    obtain ⟨k, hk, rfl⟩ := List.mem_iff_getElem.1 hy
    have := h k hk
    rw [(sv_at hk).1] at this
    simpa using this
def SignCells (N : Nat) (w : World) : Prop := ∀ j, j < 9 → w.cell? ⟨N, j, none⟩ = some (.string (sv j)) ∧ w.cell? ⟨N + 1, j, none⟩ = some (.int .i64 (so j)) ∧ w.cell? ⟨N + 2, j, none⟩ = some (.int .i64 (sl j))
theorem rSigns (w : World) : Calls Tryz.prog 109 #[] w fun e w' => e = .returned (.tuple #[.slice (some ⟨w.heap.size, 0, none⟩) 9 9, .slice (some ⟨w.heap.size + 1, 0, none⟩) 9 9, .slice (some ⟨w.heap.size + 2, 0, none⟩) 9 9]) ∧ SignCells w.heap.size w' ∧ Below w.heap.size w w' := by
  go_enter Tryz.func109, Tryz.ntmps109
  go_wp2
  refine bodyPost_ret (v := .tuple #[.slice (some ⟨w.heap.size, 0, none⟩) 9 9, .slice (some ⟨w.heap.size + 1, 0, none⟩) 9 9, .slice (some ⟨w.heap.size + 2, 0, none⟩) 9 9]) (by simp [results, Tryz.results109, go_sem]) rfl ⟨rfl, ?_, (((Below.refl _ _).alloc (Nat.le_refl _) _).alloc (by simp) _).alloc (by simp <;> omega) _⟩
  intro j hj
  rcases nine hj with rfl | rfl | rfl | rfl | rfl | rfl | rfl | rfl | rfl
  all_goals refine ⟨?_, ?_, ?_⟩
  all_goals first | (simp [go_sem]; done) | (simp [go_sem]; rfl) | (simp [World.cell?, World.alloc]; rfl)
set_option maxRecDepth 100000 in
set_option maxHeartbeats 1000000 in
theorem rSign (x : ByteArray) (w : World) :
    Calls Tryz.prog 164 #[.string x] w fun e w' => e = .returned (.tuple #[.int .i64 (sign x).1, .int .i64 (sign x).2]) ∧ Below w.heap.size w w' := by
  obtain ⟨V, hV⟩ : ∃ V, V = sign x := ⟨_, rfl⟩
  rw [← hV]
  have HV : Hid (V = sign x) := hV
  clear hV
  go_enter Tryz.func164, Tryz.ntmps164
  go_wp2_with (go_at_call 109; refine (rSigns _).mono ?_; rintro e w1 ⟨rfl, hsc, hb1⟩)
  go_loopw [7] (fun t wr => ∃ k : Nat, k ≤ 9 ∧ t = .int .i64 k ∧ (∀ j, j < 9 → wr.cell? ⟨w.heap.size, j, none⟩ = some (.string (sv j)) ∧ wr.cell? ⟨w.heap.size + 1, j, none⟩ = some (.int .i64 (so j)) ∧ wr.cell? ⟨w.heap.size + 2, j, none⟩ = some (.int .i64 (sl j))) ∧ Below w.heap.size w wr ∧ Hid (∀ j, j < k → eqS (sv j) x = false)) (fun t _ => 9 - (intOf t).toNat)
  case atStart =>
    exact ⟨0, by omega, rfl, hsc, hb1, fun j hj => by omega⟩
  case round =>
    obtain ⟨k, hk, rfl, hcells, hbw, HN⟩ := hrel
    by_cases hlt : k < 9
    · obtain ⟨y0, y1, y2⟩ := hcells k hlt
      have HC : Hid (∀ j, j < 9 → wr.cell? ⟨w.heap.size, j, none⟩ = some (.string (sv j)) ∧ wr.cell? ⟨w.heap.size + 1, j, none⟩ = some (.int .i64 (so j)) ∧ wr.cell? ⟨w.heap.size + 2, j, none⟩ = some (.int .i64 (sl j))) := hcells
      clear hcells
      cases he : eqS (sv k) x
      · have HE : Hid (eqS (sv k) x = false) := he
        unfold eqS at he
        generalize sv k = y at y0 he
        go_wp2
        go_roundw
        case rel => exact ⟨k + 1, by omega, by go_num, HC.out, hbw, fun j hj => by
          rcases Nat.lt_or_ge j k with h | h
          · exact HN.out j h
          · have : j = k := by omega
            subst this
            exact HE.out⟩
        case measure => simp [intOf]; omega
      · have HF : Hid (V = (so k, sl k)) := HV.out.trans (sign_hit x k hlt HN.out he)
        unfold eqS at he
        generalize sv k = y at y0 he
        generalize so k = yo at *
        generalize sl k = yl at *
        go_wp2
        go_quiet (fail)
        go_wp2
        exact bodyPost_ret (v := .tuple #[.int .i64 yo, .int .i64 yl]) (by simp [results, Tryz.results164, go_sem]) rfl ⟨by rw [HF.out], below_drewN hbw _⟩
    · have HF : Hid (V = (0, -1)) := HV.out.trans (sign_none x (fun j hj => HN.out j (by omega)))
      go_wp2
      exact bodyPost_ret (v := .tuple #[.int .i64 0, .int .i64 (-1)]) (by simp [results, Tryz.results164, go_sem]) rfl ⟨by rw [HF.out], hbw⟩
section
variable {w : World} {r : Nat} {L : Value} {ts : List Tok} {s : St}
theorem Rd.below {w' : World} (h : Rd w r L ts s) (hb : Below w.heap.size w w') : Rd w' r L ts s := by
  have hr : r < w.heap.size := World.block_lt_of_cell? w ⟨r, 0, none⟩ h.c0
  exact ⟨(hb.cell (p := ⟨r, 0, none⟩) hr).trans h.c0, (hb.cell (p := ⟨r, 1, none⟩) hr).trans h.c1, (hb.cell (p := ⟨r, 2, none⟩) hr).trans h.c2, (hb.frozen (p := ⟨r, 1, none⟩) hr).trans h.f1, (hb.frozen (p := ⟨r, 2, none⟩) hr).trans h.f2,
    lexs.own_below h.own hb, h.ne, h.len, h.le, h.num⟩
theorem Fr.below {w' : World} (hb : Below w.heap.size w w') : Fr r w w' := ⟨hb.os, hb.tape, hb.output, hb.size, fun j hj _ => hb.block j hj⟩
theorem rmust (hR : Rd w r L ts s) (x : ByteArray) (hx : 0 < x.size) :
    Calls Tryz.prog 23 #[.pointer (some ⟨r, 0, none⟩), .string x] w fun e w' => e = .returned (.tuple #[]) ∧ Rd w' r L ts (must ts x s) ∧ Fr r w w' := by
  have hE := reat w r L ts s hR x hx
  unfold eat at hE
  unfold must
  cases he : eqS (txt ts s) x
  · rw [he] at hE
    simp only [Bool.false_eq_true, if_false] at hE ⊢
    go_enter Tryz.func23, Tryz.ntmps23
    go_wp2_with (go_at_call 25; refine hE.mono ?_; rintro e w1 ⟨rfl, hR1, hF1⟩; have c2 := hR1.c2; have f2 := hR1.f2)
    go_end0
    exact ⟨rfl, hR1.setBad, hF1.set _ _⟩
  · rw [he] at hE
    simp only [if_true] at hE ⊢
    go_enter Tryz.func23, Tryz.ntmps23
    go_wp2_with (go_at_call 25; refine hE.mono ?_; rintro e w1 ⟨rfl, hR1, hF1⟩)
    go_end0
    exact ⟨rfl, hR1, hF1⟩
end
end Go.Proofs.YtchhpinmoagkhaaGreatDoor.syn
namespace Go.Proofs.YtchhpinmoagkhaaGreatDoor.syn
open Go.RowKit
open Go.Proofs.YtchhpinmoagkhaaGreatDoor.lexs (Tok ltrI insI)
set_option linter.unusedVariables false

theorem ret_str {x y : ByteArray} (h : x = y) : Ending.returned (.string x) = .returned (.string y) := by rw [h]
theorem eqS_self (x : ByteArray) : eqS x x = true := by unfold eqS; exact beq_self_eq_true _
theorem name_lt {ts : List Tok} {s : St} (h : isName (txt ts s) = true) : s.i < ts.length := by
  have h1 : 0 < (txt ts s).size := by
    rcases Nat.lt_or_ge 0 (txt ts s).size with h1 | h1
    · exact h1
    · rw [isName_short (by omega)] at h
      exact absurd h (by decide)
  exact txt_lt h1 (eqS_self _)
theorem name_size (ts : List Tok) (s : St) : (name ts s).1.size ≤ 16 := by
  unfold name
  cases he : isName (txt ts s)
  · exact Nat.zero_le _
  · simp only [if_true]
    rcases Nat.lt_or_ge 16 (txt ts s).size with h | h
    · rw [isName_short (by omega)] at he
      exact absurd he (by decide)
    · exact h
section
variable {w : World} {r : Nat} {L : Value} {ts : List Tok} {s : St}
theorem rname (hR : Rd w r L ts s) :
    Calls Tryz.prog 24 #[.pointer (some ⟨r, 0, none⟩)] w fun e w' => e = .returned (.string (name ts s).1) ∧ Rd w' r L ts (name ts s).2 ∧ Fr r w w' := by
  have hT := rtext w r L ts s hR
  have hlen := hR.len
  unfold name
  cases he : isName (txt ts s)
  · have hN := rName (txt ts s)
    rw [he] at hN
    simp only [Bool.false_eq_true, if_false]
    generalize txt ts s = y at *
    clear he
    go_enter Tryz.func24, Tryz.ntmps24
    go_wp2_with (first
      | (go_at_call 56; refine hT.mono ?_; rintro e w1 ⟨rfl, n, rfl⟩)
      | (go_at_call 57; refine (hN _).mono ?_; rintro e w2 ⟨rfl, hb2⟩; have hR2 := (hR.drewN n).below hb2; have c2 := hR2.c2; have f2 := hR2.f2))
    go_ret
    exact ⟨rfl, hR2.setBad, (((Fr.refl _ _).drewN n).trans (Fr.below hb2)).set _ _⟩
  · have hlt := name_lt he
    have hN := rName (txt ts s)
    rw [he] at hN
    simp only [if_true]
    generalize txt ts s = y at *
    clear he
    go_enter Tryz.func24, Tryz.ntmps24
    go_wp2_with (first
      | (go_at_call 56; refine hT.mono ?_; rintro e w1 ⟨rfl, n, rfl⟩)
      | (go_at_call 57; refine (hN _).mono ?_; rintro e w2 ⟨rfl, hb2⟩; have hR2 := (hR.drewN n).below hb2; have c1 := hR2.c1; have f1 := hR2.f1))
    go_ret
    refine ⟨rfl, ?_, (((Fr.refl _ _).drewN n).trans (Fr.below hb2)).set _ _⟩
    exact hR2.setAt (s.i + 1) (by omega)
theorem rlabel (hR : Rd w r L ts s) :
    Calls Tryz.prog 58 #[.pointer (some ⟨r, 0, none⟩)] w fun e w' => e = .returned (.int .i64 (label ts s).1) ∧ Rd w' r L ts (label ts s).2 ∧ Fr r w w' := by
  have hE := reat w r L ts s hR ⟨#[104, 105, 103, 104]⟩ (by decide)
  unfold eat at hE
  unfold label
  cases he : eqS (txt ts s) ⟨#[104, 105, 103, 104]⟩
  · rw [he] at hE
    simp only [Bool.false_eq_true, if_false] at hE ⊢
    clear he
    go_enter Tryz.func58, Tryz.ntmps58
    go_wp2_with (first
      | (go_at_call 25; refine hE.mono ?_; rintro e w1 ⟨rfl, hR1, hF1⟩)
      | (go_at_call 23; refine (rmust hR1 ⟨#[108, 111, 119]⟩ (by decide)).mono ?_; rintro e w2 ⟨rfl, hR2, hF2⟩))
    go_ret
    exact ⟨rfl, hR2, hF1.trans hF2⟩
  · rw [he] at hE
    simp only [if_true] at hE ⊢
    clear he
    go_enter Tryz.func58, Tryz.ntmps58
    go_wp2_with (go_at_call 25; refine hE.mono ?_; rintro e w1 ⟨rfl, hR1, hF1⟩)
    go_ret
    exact ⟨rfl, hR1, hF1⟩
theorem rwhole (hR : Rd w r L ts s) :
    Calls Tryz.prog 127 #[.pointer (some ⟨r, 0, none⟩)] w fun e w' => e = .returned (.string (whole ts s).1) ∧ Rd w' r L ts (whole ts s).2 ∧ Fr r w w' := by
  have hN := rname hR
  have hx := name_size ts s
  unfold whole
  generalize name ts s = q at hN hx ⊢
  obtain ⟨x, s1⟩ := q
  simp only at hN hx ⊢
  cases he : (eat ts ⟨#[46]⟩ s1).1
  · simp only [Bool.false_eq_true, if_false]
    have e2 : (eat ts ⟨#[46]⟩ s1).2 = s1 := by unfold eat at he ⊢; split at he <;> simp_all
    have hE : ∀ {w : World}, Rd w r L ts s1 → Calls Tryz.prog 25 #[.pointer (some ⟨r, 0, none⟩), .string ⟨#[46]⟩] w fun e w' => e = .returned (.bool false) ∧ Rd w' r L ts s1 ∧ Fr r w w' := fun h => by
      have := reat _ _ _ _ _ h ⟨#[46]⟩ (by decide)
      rw [he, e2] at this
      exact this
    go_enter Tryz.func127, Tryz.ntmps127
    go_wp2_with (first
      | (go_at_call 24; refine hN.mono ?_; rintro e w1 ⟨rfl, hR1, hF1⟩)
      | (go_at_call 25; refine (hE hR1).mono ?_; rintro e w2 ⟨rfl, hR2, hF2⟩))
    go_ret
    exact ⟨rfl, hR2, hF1.trans hF2⟩
  · simp only [if_true]
    have hE : ∀ {w : World}, Rd w r L ts s1 → Calls Tryz.prog 25 #[.pointer (some ⟨r, 0, none⟩), .string ⟨#[46]⟩] w fun e w' => e = .returned (.bool true) ∧ Rd w' r L ts (eat ts ⟨#[46]⟩ s1).2 ∧ Fr r w w' := fun h => by
      have := reat _ _ _ _ _ h ⟨#[46]⟩ (by decide)
      rw [he] at this
      exact this
    have hM : ∀ {w : World}, Rd w r L ts (eat ts ⟨#[46]⟩ s1).2 → Calls Tryz.prog 24 #[.pointer (some ⟨r, 0, none⟩)] w fun e w' => e = .returned (.string (name ts (eat ts ⟨#[46]⟩ s1).2).1) ∧ Rd w' r L ts (name ts (eat ts ⟨#[46]⟩ s1).2).2 ∧ Fr r w w' := fun h => rname h
    have hy := name_size ts (eat ts ⟨#[46]⟩ s1).2
    generalize name ts (eat ts ⟨#[46]⟩ s1).2 = q at hM hy ⊢
    obtain ⟨y, s2⟩ := q
    simp only at hM hy ⊢
    go_enter Tryz.func127, Tryz.ntmps127
    go_wp2_with (fail)
    refine hN.mono ?_
    rintro e w1 ⟨rfl, hR1, hF1⟩
    go_wp2_with (go_at_call 25; refine (hE hR1).mono ?_; rintro e w2 ⟨rfl, hR2, hF2⟩)
    refine (hM hR2).mono ?_
    rintro e w3 ⟨rfl, hR3, hF3⟩
    go_wp2
    go_ret
    refine ⟨ret_str ?_, hR3, (hF1.trans hF2).trans hF3⟩
    first | rfl | simp
end
end Go.Proofs.YtchhpinmoagkhaaGreatDoor.syn
namespace Go.Proofs.YtchhpinmoagkhaaGreatDoor.syn
open Go.RowKit
open Go.Proofs.YtchhpinmoagkhaaGreatDoor.lexs (Tok ltrI insI digB val numE tok_cells own_shape)
set_option linter.unusedVariables false

theorem val_append (a b : List UInt8) : val (a ++ b) = val a * 10 ^ b.length + val b := by
  induction a with
  | nil => simp [val]
  | cons x a ih =>
    rw [List.cons_append, val, val, ih, List.length_append, Nat.pow_add, Nat.add_mul, Nat.mul_assoc, Nat.add_assoc]
theorem val_take (l : List UInt8) (j : Nat) (h : j < l.length) : val (l.take (j + 1)) = 10 * val (l.take j) + (l[j].toNat - 48) := by
  rw [List.take_succ_eq_append_getElem h, val_append]
  simp [val]
  omega
theorem val_take_le (l : List UInt8) (j : Nat) : val (l.take j) ≤ val l := by
  have e : val l = val (l.take j) * 10 ^ (l.drop j).length + val (l.drop j) := by rw [← val_append, List.take_append_drop]
  have := Nat.le_mul_of_pos_right (val (l.take j)) (Nat.pow_pos (show 0 < 10 by omega) (n := (l.drop j).length))
  omega
theorem num_len {l : List UInt8} (h : numE l = 0) : l.length ≤ 19 := by
  unfold numE at h
  split at h
  · exact absurd h (by decide)
  · split at h
    · exact absurd h (by decide)
    · split at h
      · exact absurd h (by decide)
      · rename_i h3
        simp at h3
        omega
theorem num_ok {l : List UInt8} (h : numE l = 0) (h0 : l ≠ []) : l.all digB = true ∧ val l < 9223372036854775808 := by
  cases ha : l.all digB
  · unfold numE at h
    rw [if_pos ha] at h
    exact absurd h (by decide)
  · refine ⟨rfl, ?_⟩
    cases hz : (decide (1 < l.length) && l.headD 0 == 48)
    · rw [lexs.numE_val l ha h0 hz] at h
      split at h
      · assumption
      · exact absurd h (by decide)
    · unfold numE at h
      rw [if_neg (by simp [ha]), if_pos hz] at h
      exact absurd h (by decide)
section
variable {w : World} {r : Nat} {L : Value} {ts : List Tok} {s : St}
theorem Rd.alloc (h : Rd w r L ts s) (o : Obj) : Rd (w.alloc o) r L ts s := h.below ((Below.refl _ _).alloc (Nat.le_refl _) o)
theorem Fr.alloc {w' : World} (h : Fr r w w') (o : Obj) : Fr r w (w'.alloc o) := h.trans (Fr.below ((Below.refl _ _).alloc (Nat.le_refl _) o))
/-- a node without kids lies wherever it is -/
theorem Lies.leaf (P : Nat → Prop) (w : World) (k : Int) (x : ByteArray) (m : Int) : Lies P w (.node k x m []) (.agg #[.int .i64 k, .string x, .int .i64 m, .slice none 0 0]) := by
  unfold Lies
  exact ⟨none, 0, rfl, by simp, fun h => absurd rfl h⟩
/-- four cells of a block of its own, that can be written -/
structure Box4 (w : World) (N : Nat) (x0 x1 x2 x3 : Value) : Prop where
  c0 : w.cell? ⟨N, 0, none⟩ = some x0
  c1 : w.cell? ⟨N, 1, none⟩ = some x1
  c2 : w.cell? ⟨N, 2, none⟩ = some x2
  c3 : w.cell? ⟨N, 3, none⟩ = some x3
  f0 : w.frozen? ⟨N, 0, none⟩ = false
  f1 : w.frozen? ⟨N, 1, none⟩ = false
  f2 : w.frozen? ⟨N, 2, none⟩ = false
  f3 : w.frozen? ⟨N, 3, none⟩ = false
theorem Box4.new (w : World) (x0 x1 x2 x3 : Value) (T : TypeId) : Box4 (w.alloc (.cells #[x0, x1, x2, x3] T)) w.heap.size x0 x1 x2 x3 := by
  constructor <;> simp
theorem Box4.lt {N : Nat} {x0 x1 x2 x3 : Value} (h : Box4 w N x0 x1 x2 x3) : N < w.heap.size := World.block_lt_of_cell? w ⟨N, 0, none⟩ h.c0
theorem Box4.fr {w' : World} {N : Nat} {x0 x1 x2 x3 : Value} (h : Box4 w N x0 x1 x2 x3) (hF : Fr r w w') (hN : N ≠ r) : Box4 w' N x0 x1 x2 x3 := by
  have hb := hF.block N h.lt (by simpa using hN)
  exact ⟨(World.cell?_of_block (a := ⟨N, 0, none⟩) hb).trans h.c0, (World.cell?_of_block (a := ⟨N, 1, none⟩) hb).trans h.c1, (World.cell?_of_block (a := ⟨N, 2, none⟩) hb).trans h.c2, (World.cell?_of_block (a := ⟨N, 3, none⟩) hb).trans h.c3,
    (World.frozen?_of_block (a := ⟨N, 0, none⟩) hb).trans h.f0, (World.frozen?_of_block (a := ⟨N, 1, none⟩) hb).trans h.f1, (World.frozen?_of_block (a := ⟨N, 2, none⟩) hb).trans h.f2, (World.frozen?_of_block (a := ⟨N, 3, none⟩) hb).trans h.f3⟩
theorem Box4.alloc {N : Nat} {x0 x1 x2 x3 : Value} (h : Box4 w N x0 x1 x2 x3) (o : Obj) : Box4 (w.alloc o) N x0 x1 x2 x3 :=
  h.fr (r := w.heap.size) (Fr.below ((Below.refl _ _).alloc (Nat.le_refl _) o)) (by have := h.lt; omega)
theorem Box4.drewN {N : Nat} {x0 x1 x2 x3 : Value} (h : Box4 w N x0 x1 x2 x3) (n : Nat) : Box4 (w.drewN n) N x0 x1 x2 x3 := ⟨h.c0, h.c1, h.c2, h.c3, h.f0, h.f1, h.f2, h.f3⟩
theorem Box4.other {N M o : Nat} {x0 x1 x2 x3 : Value} (h : Box4 w N x0 x1 x2 x3) (hM : M ≠ N) (v : Value) : Box4 (w.setCell ⟨M, o, none⟩ v) N x0 x1 x2 x3 :=
  h.fr (r := M) ((Fr.refl _ _).set o v) (by omega)
theorem Box4.set2 {N : Nat} {x0 x1 x2 x3 : Value} (h : Box4 w N x0 x1 x2 x3) (v : Value) : Box4 (w.setCell ⟨N, 2, none⟩ v) N x0 x1 v x3 :=
  ⟨by rw [World.cell?_setCell_other _ _ _ _ (by simp)]; exact h.c0, by rw [World.cell?_setCell_other _ _ _ _ (by simp)]; exact h.c1, World.cell?_setCell_same _ _ _ h.c2, by rw [World.cell?_setCell_other _ _ _ _ (by simp)]; exact h.c3, by simp [h.f0], by simp [h.f1], by simp [h.f2], by simp [h.f3]⟩
theorem Box4.set3 {N : Nat} {x0 x1 x2 x3 : Value} (h : Box4 w N x0 x1 x2 x3) (v : Value) : Box4 (w.setCell ⟨N, 3, none⟩ v) N x0 x1 x2 v :=
  ⟨by rw [World.cell?_setCell_other _ _ _ _ (by simp)]; exact h.c0, by rw [World.cell?_setCell_other _ _ _ _ (by simp)]; exact h.c1, by rw [World.cell?_setCell_other _ _ _ _ (by simp)]; exact h.c2, World.cell?_setCell_same _ _ _ h.c3, by simp [h.f0], by simp [h.f1], by simp [h.f2], by simp [h.f3]⟩
theorem Rd.setNew (h : Rd w r L ts s) {N o : Nat} (hr : N ≠ r) (hN : L.ownBlock ≠ some N) (v : Value) : Rd (w.setCell ⟨N, o, none⟩ v) r L ts s :=
  ⟨by rw [World.cell?_setCell_other _ _ _ _ (by simp <;> omega)]; exact h.c0, by rw [World.cell?_setCell_other _ _ _ _ (by simp <;> omega)]; exact h.c1, by rw [World.cell?_setCell_other _ _ _ _ (by simp <;> omega)]; exact h.c2, by simp [h.f1], by simp [h.f2],
    ownsRow_setCell_other h.own hN _, h.ne, h.len, h.le, h.num⟩
theorem Fr.setNew {w' : World} (h : Fr r w w') {N o : Nat} (hN : w.heap.size ≤ N) (v : Value) : Fr r w (w'.setCell ⟨N, o, none⟩ v) :=
  ⟨h.os, h.tape, h.output, by rw [World.size_setCell]; exact h.size, fun j hj hn => (Below.heap_setCell _ _ _ _ (by simp; omega)).trans (h.block j hj hn)⟩
/-- four stores into a box -/
theorem Rd.put4 (h : Rd w r L ts s) {N : Nat} (hr : N ≠ r) (hN : L.ownBlock ≠ some N) (x0 x1 x2 x3 : Value) : Rd ((((w.setCell ⟨N, 0, none⟩ x0).setCell ⟨N, 1, none⟩ x1).setCell ⟨N, 2, none⟩ x2).setCell ⟨N, 3, none⟩ x3) r L ts s :=
  (((h.setNew hr hN x0).setNew hr hN x1).setNew hr hN x2).setNew hr hN x3
theorem Fr.put4 {w' : World} (h : Fr r w w') {N : Nat} (hN : w.heap.size ≤ N) (x0 x1 x2 x3 : Value) : Fr r w ((((w'.setCell ⟨N, 0, none⟩ x0).setCell ⟨N, 1, none⟩ x1).setCell ⟨N, 2, none⟩ x2).setCell ⟨N, 3, none⟩ x3) :=
  (((h.setNew hN x0).setNew hN x1).setNew hN x2).setNew hN x3
/-- the tokens lie in none of the new blocks -/
theorem Rd.old (h : Rd w r L ts s) {N : Nat} (hN : w.heap.size ≤ N) : N ≠ r ∧ L.ownBlock ≠ some N := by
  have hr : r < w.heap.size := World.block_lt_of_cell? w ⟨r, 0, none⟩ h.c0
  exact ⟨by omega, fun e => by have := (h.own.lt N e).2; omega⟩
def numV (m : Int) : Value := .agg #[.int .i64 15, .string empty, .int .i64 m, .slice none 0 0]
def numN : Tree → Int
  | .node _ _ m _ => m
set_option maxRecDepth 100000 in
set_option maxHeartbeats 1000000 in
theorem rnumber (hR : Rd w r L ts s) :
    Calls Tryz.prog 59 #[.pointer (some ⟨r, 0, none⟩)] w fun e w' => e = .returned (numV (numN (number ts s).1)) ∧ Rd w' r L ts (number ts s).2 ∧ Fr r w w' := by
  have c29 : Tryz.prog.cellsOf 58 = 3 := by kernel_rfl
  have c24 : Tryz.prog.cellsOf 24 = 4 := by kernel_rfl
  have hB := hR.setBad
  have hR' := hR
  have hr : r < w.heap.size := World.block_lt_of_cell? w ⟨r, 0, none⟩ hR.c0
  obtain ⟨c0, c1, c2, f1, f2, own, ne, len, le, num⟩ := hR'
  obtain ⟨i, bad⟩ := s
  dsimp only at c1 c2 le
  obtain ⟨a, cp, rfl, hm, hg⟩ := own_shape own
  cases bad
  · by_cases hlt : i < ts.length
    · obtain ⟨g, rfl⟩ := hg (by omega)
      obtain ⟨y0, y1, y2⟩ := tok_cells own hlt
      have hgne : g ≠ r := fun e => ne (by rw [e]; rfl)
      have hglt : g < w.heap.size := World.block_lt_of_cell? w ⟨g, _, none⟩ y0
      have ht : number ts ⟨i, false⟩ = if ts[i].kind == 2 then (.node 15 empty (val ts[i].text : Int) [], St.next ⟨i, false⟩) else (.node 15 empty 0 [], St.fail ⟨i, false⟩) := by
        unfold number here
        simp [hlt]
      rw [ht]
      have hnum := num ts[i] (List.getElem_mem _)
      generalize ts[i].kind = tk at *
      generalize ts[i].text = tx at *
      have hd : decide ((i : Int) ≥ (ts.length : Int)) = false := by simp; omega
      cases hk : (tk == 2)
      · have hk' : (tk != 2) = true := by simp [bne, hk]
        go_enter Tryz.func59, Tryz.ntmps59
        go_wp2
        go_quiet (fail)
        go_wp2
        refine bodyPost_ret (v := numV 0) (by simp [results, Tryz.results59, go_sem, numV, empty]) rfl ⟨rfl, ?_, ?_⟩
        · exact ((((hR.alloc _).alloc _).drewN _).setBad).put4 (hR.old (Nat.le_refl _)).1 (hR.old (Nat.le_refl _)).2 _ _ _ _
        · exact (((((Fr.refl _ _).alloc _).alloc _).drewN _).set _ _).put4 (Nat.le_refl _) _ _ _ _
      · have hk' : (tk != 2) = false := by simp [bne, hk]
        obtain ⟨ha, hv⟩ := num_ok (hnum (by simpa using hk)).1 (hnum (by simpa using hk)).2
        have hln := num_len (hnum (by simpa using hk)).1
        obtain ⟨y, hy⟩ : ∃ y : ByteArray, y = ⟨tx.toArray⟩ := ⟨_, rfl⟩
        have hyl : y.data.toList = tx := by rw [hy]
        rw [← hy] at y1
        clear hy hnum
        subst hyl
        rw [lexs.len_L] at hln
        have HA : Hid (y.data.toList.all digB = true) := ha
        have HV : Hid (val y.data.toList < 9223372036854775808) := hv
        clear ha hv
        go_enter Tryz.func59, Tryz.ntmps59
        go_wp2
        go_quiet (fail)
        go_wp2
        go_quiet (fail)
        go_wp2
        go_loopw [5] (fun t wr => ∃ (j : Nat), j ≤ y.size ∧ t = .int .i64 j ∧ Box4 wr w.heap.size (.int .i64 0) (.string empty) (.int .i64 0) (.slice none 0 0) ∧ Box4 wr (w.heap.size + 1) (.int .i64 15) (.string empty) (.int .i64 (val (y.data.toList.take j) : Int)) (.slice none 0 0) ∧ Rd wr r (.slice (some ⟨g, 0, none⟩) ts.length cp) ts ⟨i, false⟩ ∧ Fr r w wr) (fun t _ => y.size - (intOf t).toNat)
        case atStart =>
          refine ⟨0, Nat.zero_le _, rfl, ?_, ?_, (((hR.alloc _).alloc _).drewN _).drewN _, ((((Fr.refl _ _).alloc _).alloc _).drewN _).drewN _⟩
          · exact (((Box4.new _ _ _ _ _ _).alloc _).drewN _).drewN _
          · have h := Box4.new (w.alloc (.cells #[.int .i64 0, .string empty, .int .i64 0, .slice none 0 0] 24)) (.int .i64 15) (.string empty) (.int .i64 0) (.slice none 0 0) 24
            rw [World.size_alloc] at h
            exact (h.drewN _).drewN _
        case round =>
          obtain ⟨j, hj, rfl, hb1, hb2, hRr, hFr⟩ := hrel
          have hsz := hb2.lt
          have HB2 : Hid (Box4 wr (w.heap.size + 1) (.int .i64 15) (.string empty) (.int .i64 (val (y.data.toList.take j) : Int)) (.slice none 0 0)) := hb2
          obtain ⟨p0, p1, p2, p3, g0, g1, g2, g3⟩ := hb2
          by_cases hq : j < y.size
          · have hd1 := lexs.dig_bounds (by have := List.all_eq_true.1 HA.out y[j] (by rw [← lexs.getL y j hq]; exact List.getElem_mem _); exact this : digB y[j] = true)
            have hvt := val_take y.data.toList j (by rw [lexs.len_L]; exact hq)
            have hvl := val_take_le y.data.toList (j + 1)
            rw [hvt, lexs.getL y j hq] at hvl
            rw [lexs.getL y j hq] at hvt
            have hv := HV.out
            have HT : Hid (((val (y.data.toList.take (j + 1)) : Nat) : Int) = 10 * (val (y.data.toList.take j) : Int) + ((y[j].toNat : Int) - 48)) := by show _ = _; rw [hvt]; omega
            have hj1 : Hid (j + 1 ≤ y.size) := hq
            have hw1 : IntKind.i64.wrap (10 * (val (y.data.toList.take j) : Int)) = 10 * (val (y.data.toList.take j) : Int) := by rw [IntKind.wrap_i64]; omega
            have hw2 : IntKind.u8.wrap ((y[j].toNat : Int) - 48) = (y[j].toNat : Int) - 48 := by rw [IntKind.wrap_u8]; omega
            have hw3 : IntKind.i64.wrap ((y[j].toNat : Int) - 48) = (y[j].toNat : Int) - 48 := by rw [IntKind.wrap_i64]; omega
            have hw4 : IntKind.i64.wrap (10 * (val (y.data.toList.take j) : Int) + ((y[j].toNat : Int) - 48)) = 10 * (val (y.data.toList.take j) : Int) + ((y[j].toNat : Int) - 48) := by rw [IntKind.wrap_i64]; omega
            have hvb : 10 * (val (y.data.toList.take j) : Int) + ((y[j].toNat : Int) - 48) ≤ 9223372036854775807 := by omega
            clear hvt hvl hv
            go_wp2
            go_region
            all_goals
              go_wp2
              go_roundw
              case rel =>
                refine ⟨j + 1, hj1.out, by go_num, ?_, ?_, ?_, ?_⟩
                · exact (hb1.other (by omega) _).drewN 1
                · rw [HT.out]; exact (HB2.out.set2 _).drewN 1
                · exact (hRr.setNew (by omega) (hR.old (by omega)).2 _).drewN 1
                · exact (hFr.setNew (by omega) _).drewN 1
              case measure => have := hj1.out; simp [intOf]; omega
          · have hje : j = y.size := by omega
            subst hje
            have HT : Hid (y.data.toList.take y.size = y.data.toList) := by show _ = _; rw [List.take_of_length_le (by rw [lexs.len_L]; exact Nat.le_refl _)]
            rw [HT.out] at p2
            have hc1 := hRr.c1
            have hf1 := hRr.f1
            obtain ⟨q0, q1, q2, q3, t0, t1, t2, t3⟩ := hb1
            go_wp2
            refine bodyPost_ret (v := numV (val y.data.toList : Int)) (by simp [results, Tryz.results59, go_sem, numV, empty, q0, q1, q2, q3]) rfl ⟨rfl, ?_, ?_⟩
            · exact (hRr.setAt (i + 1) (by omega)).put4 (hR.old (Nat.le_refl _)).1 (hR.old (Nat.le_refl _)).2 _ _ _ _
            · exact (hFr.set _ _).put4 (Nat.le_refl _) _ _ _ _
    · have ht : number ts ⟨i, false⟩ = (.node 15 empty 0 [], St.fail ⟨i, false⟩) := by
        unfold number here
        simp [hlt]
      rw [ht]
      have hd : decide ((i : Int) ≥ (ts.length : Int)) = true := by simp; omega
      go_enter Tryz.func59, Tryz.ntmps59
      go_wp2
      go_quiet (fail)
      go_wp2
      refine bodyPost_ret (v := numV 0) (by simp [results, Tryz.results59, go_sem, numV, empty]) rfl ⟨rfl, ?_, ?_⟩
      · exact ((((hR.alloc _).alloc _).drewN _).setBad).put4 (hR.old (Nat.le_refl _)).1 (hR.old (Nat.le_refl _)).2 _ _ _ _
      · exact (((((Fr.refl _ _).alloc _).alloc _).drewN _).set _ _).put4 (Nat.le_refl _) _ _ _ _
  · have ht : number ts ⟨i, true⟩ = (.node 15 empty 0 [], St.fail ⟨i, true⟩) := by unfold number here; rfl
    rw [ht]
    go_enter Tryz.func59, Tryz.ntmps59
    go_wp2
    go_quiet (fail)
    go_wp2
    refine bodyPost_ret (v := numV 0) (by simp [results, Tryz.results59, go_sem, numV, empty]) rfl ⟨rfl, ?_, ?_⟩
    · exact ((((hR.alloc _).alloc _).drewN _).setBad).put4 (hR.old (Nat.le_refl _)).1 (hR.old (Nat.le_refl _)).2 _ _ _ _
    · exact (((((Fr.refl _ _).alloc _).alloc _).drewN _).set _ _).put4 (Nat.le_refl _) _ _ _ _
end
end Go.Proofs.YtchhpinmoagkhaaGreatDoor.syn
