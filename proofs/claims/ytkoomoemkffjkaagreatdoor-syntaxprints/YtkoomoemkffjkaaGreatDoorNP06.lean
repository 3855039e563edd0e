/- A region that draws its order: an operation is taken first, its slot written out. -/
import Derived.Test.YtkoomoemkffjkaaGreatDoorNP05
import Derived.Test.YtkoomoemkffjkaaGreatDoorNP02
import Derived.Deep.RegionHeld
set_option linter.unusedVariables false
set_option linter.unusedSimpArgs false
set_option maxRecDepth 100000
namespace Go.Proofs.YtkoomoemkffjkaaGreatDoor
namespace face
open Go.RowKit
open Go.Proofs.YtkoomoemkffjkaaGreatDoor.lexs (Tok ltrI insI rletter rinside)
open Go.Proofs.YtkoomoemkffjkaaGreatDoor.syn

def rv (k : Nat) : ByteArray := reserved.getD k empty
theorem any_hit (x : ByteArray) (k : Nat) (hk : k < 14) (h : eqS (rv k) x = true) : (reserved.any fun y => eqS y x) = true := by
  rw [List.any_eq_true]
  refine ⟨rv k, ?_, h⟩
  unfold rv
  rw [List.getD_eq_getElem?_getD, List.getElem?_eq_getElem (show k < reserved.length from hk)]
  exact List.getElem_mem _
theorem any_none (x : ByteArray) (h : ∀ j, j < 14 → eqS (rv j) x = false) : (reserved.any fun y => eqS y x) = false := by
  rw [List.any_eq_false]
  intro y hy
  obtain ⟨k, hk, rfl⟩ := List.mem_iff_getElem.1 hy
  have := h k hk
  unfold rv at this
  rw [List.getD_eq_getElem?_getD, List.getElem?_eq_getElem hk] at this
  simpa using this
theorem ret_bool {x y : Bool} (h : x = y) : Ending.returned (.bool x) = .returned (.bool y) := by rw [h]
theorem isName_short {x : ByteArray} (h : ¬ (1 ≤ x.size ∧ x.size ≤ 16)) : isName x = false := by unfold isName; rw [decide_eq_false h]; rfl
theorem isName_letter {x : ByteArray} (h0 : 0 < x.size) (h : ltrI (x[0].toNat : Int) = false) : isName x = false := by
  unfold isName
  rw [lexs.headL x h0, h]
  simp
theorem isName_inside {x : ByteArray} (k : Nat) (hk : k < x.size) (h : insI (x[k].toNat : Int) = false) : isName x = false := by
  have : x.data.toList.all (fun c => insI (c.toNat : Int)) = false := by
    rw [List.all_eq_false]
    exact ⟨x[k], by rw [← lexs.getL x k hk]; exact List.getElem_mem _, by simp [h]⟩
  unfold isName
  rw [this]
  simp
theorem isName_rest {x : ByteArray} (h0 : 1 ≤ x.size ∧ x.size ≤ 16) (hl : ltrI (x[0].toNat : Int) = true) (ha : ∀ k (h : k < x.size), insI (x[k].toNat : Int) = true) : isName x = !(reserved.any fun y => eqS y x) := by
  have : x.data.toList.all (fun c => insI (c.toNat : Int)) = true := by
    rw [List.all_eq_true]
    intro c hc
    obtain ⟨k, hk, rfl⟩ := List.mem_iff_getElem.1 hc
    rw [lexs.len_L] at hk
    exact ha k hk
  unfold isName
  rw [this, lexs.headL x h0.1, hl, decide_eq_true h0]
  simp
set_option maxRecDepth 100000 in
set_option maxHeartbeats 1000000 in
theorem rName (x : ByteArray) (w : World) :
    Calls Tryz.prog 50 #[.string x] w fun e w' => e = .returned (.bool (isName x)) ∧ Below w.heap.size w w' := by
  by_cases hz : 1 ≤ x.size
  case neg =>
    rw [isName_short (fun h => hz h.1)]
    have hz' : (x.size : Int) < 1 := by omega
    go_enter Tryz.func50, Tryz.ntmps50
    go_wp2
    go_ret
    exact ⟨rfl, Below.refl _ _⟩
  by_cases h16 : x.size ≤ 16
  case neg =>
    rw [isName_short (fun h => h16 h.2)]
    go_enter Tryz.func50, Tryz.ntmps50
    go_wp2_with (go_at_call 87; refine (rletter _ _).mono ?_; rintro e w' ⟨rfl, hw⟩; obtain rfl := hw.symm)
    go_ret
    exact ⟨rfl, Below.refl _ _⟩
  cases hl : ltrI (x[0].toNat : Int)
  · rw [isName_letter hz hl]
    go_enter Tryz.func50, Tryz.ntmps50
    go_wp2_with (go_at_call 87; refine (rletter _ _).mono ?_; rintro e w' ⟨rfl, hw⟩; obtain rfl := hw.symm)
    go_ret
    exact ⟨rfl, Below.refl _ _⟩
  · obtain ⟨V, hV⟩ : ∃ V, V = isName x := ⟨_, rfl⟩
    rw [← hV]
    have HV : Hid (V = isName x) := hV
    clear hV
    go_enter Tryz.func50, Tryz.ntmps50
    go_wp2_with (go_at_call 87; refine (rletter _ _).mono ?_; rintro e w' ⟨rfl, hw⟩; obtain rfl := hw.symm)
    go_loop [3] (fun t => ∃ j : Nat, j ≤ x.size ∧ t = .int .i64 j ∧ Hid (∀ k (h : k < x.size), k < j → insI (x[k].toNat : Int) = true)) (fun t => x.size - (intOf t).toNat)
    case atStart => exact ⟨0, Nat.zero_le _, rfl, fun k _ h => by omega⟩
    case round =>
      obtain ⟨j, hj, rfl, HN⟩ := hrel
      by_cases hq : j < x.size
      · cases hin : insI (x[j].toNat : Int)
        · have HF : Hid (V = false) := HV.out.trans (isName_inside j hq hin)
          go_wp2_with (go_at_call 88; refine (rinside _ _).mono ?_; rintro e w' ⟨rfl, hw⟩; obtain rfl := hw.symm)
          go_ret
          exact ⟨ret_bool HF.out.symm, Below.refl _ _⟩
        · go_wp2_with (go_at_call 88; refine (rinside _ _).mono ?_; rintro e w' ⟨rfl, hw⟩; obtain rfl := hw.symm)
          go_round
          case rel => exact ⟨j + 1, by omega, by go_num, fun k h h1 => by
            rcases Nat.lt_or_ge k j with h3 | h3
            · exact HN.out k h h3
            · have : k = j := by omega
              subst this
              exact hin⟩
          case measure => simp [intOf]; omega
      · have HA : Hid (V = !(reserved.any fun y => eqS y x)) := HV.out.trans (isName_rest ⟨hz, h16⟩ hl (fun k h => HN.out k h (by omega)))
        clear HN HV hl
        go_wp2_with go_in
        go_loopw [5] (fun t wr => ∃ k : Nat, k ≤ 14 ∧ t = .int .i64 k ∧ (∀ j, j < 14 → wr.cell? ⟨w.heap.size, j, none⟩ = some (.string (rv j))) ∧ Below w.heap.size w wr ∧ Hid (∀ j, j < k → eqS (rv j) x = false)) (fun t _ => 14 - (intOf t).toNat)
        case atStart =>
          refine ⟨0, by omega, rfl, ?_, (Below.refl _ _).alloc (Nat.le_refl _) _, fun j hj => by omega⟩
          intro j hj
          have hc : j = 0 ∨ j = 1 ∨ j = 2 ∨ j = 3 ∨ j = 4 ∨ j = 5 ∨ j = 6 ∨ j = 7 ∨ j = 8 ∨ j = 9 ∨ j = 10 ∨ j = 11 ∨ j = 12 ∨ j = 13 := by omega
          rcases hc with rfl | rfl | rfl | rfl | rfl | rfl | rfl | rfl | rfl | rfl | rfl | rfl | rfl | rfl <;> simp <;> rfl
        case round =>
          obtain ⟨k, hk, rfl, hcells, hbw, HN⟩ := hrel
          by_cases hlt : k < 14
          · have hcell := hcells k hlt
            have HC : Hid (∀ j, j < 14 → wr.cell? ⟨w.heap.size, j, none⟩ = some (.string (rv j))) := hcells
            clear hcells
            cases he : eqS (rv k) x
            · have HE : Hid (eqS (rv k) x = false) := he
              unfold eqS at he
              generalize rv k = y at hcell he
              go_wp2
              go_roundw
              case rel => exact ⟨k + 1, by omega, by go_num, HC.out, hbw, fun j hj => by
                rcases Nat.lt_or_ge j k with h | h
                · exact HN.out j h
                · have : j = k := by omega
                  subst this
                  exact HE.out⟩
              case measure => simp [intOf]; omega
            · have HF : Hid (V = false) := by
                show _ = _
                rw [HA.out, any_hit x k hlt he]
                rfl
              unfold eqS at he
              generalize rv k = y at hcell he
              go_wp2
              go_ret
              exact ⟨ret_bool HF.out.symm, hbw⟩
          · have HF : Hid (V = true) := by
              show _ = _
              rw [HA.out, any_none x (fun j hj => HN.out j (by omega))]
              rfl
            go_wp2
            go_ret
            exact ⟨ret_bool HF.out.symm, hbw⟩
end face
namespace pr
open Go.RowKit
open Go.Proofs.YtkoomoemkffjkaaGreatDoor.syn Go.Proofs.YtkoomoemkffjkaaGreatDoor.face Go.Proofs.YtkoomoemkffjkaaGreatDoor.chk
/-- a text, as a string -/
def sx (l : List UInt8) : ByteArray := ⟨l.toArray⟩
theorem sx_app (a b : List UInt8) : sx a ++ sx b = sx (a ++ b) := by
  apply ByteArray.ext
  apply Array.toList_inj.1
  simp [sx, ByteArray.data_append]
theorem sx_size (a : List UInt8) : (sx a).size = a.length := by show a.toArray.size = _; simp
theorem sx_data (x : ByteArray) : sx x.data.toList = x := by
  apply ByteArray.ext
  apply Array.toList_inj.1
  simp [sx]
theorem rLabelP (m : Int) (h0 : 0 ≤ m) (w : World) : Calls Tryz.prog 36 #[.int .i64 m] w fun e w' => e = .returned (.string (sx (labR m))) ∧ w' = w := by
  by_cases hm : m % 2 = 1
  · have e : (m % 2 == 1) = true := by rw [hm]; rfl
    have HL : Hid (labR m = [104, 105, 103, 104, 32]) := if_pos hm
    clear hm
    go_enter Tryz.func36, Tryz.ntmps36
    go_wp2
    go_ret
    exact ⟨by rw [HL.out]; rfl, rfl⟩
  · have e : (m % 2 == 1) = false := by simpa using hm
    have HL : Hid (labR m = [108, 111, 119, 32]) := if_neg hm
    clear hm
    go_enter Tryz.func36, Tryz.ntmps36
    go_wp2
    go_ret
    exact ⟨by rw [HL.out]; rfl, rfl⟩
/-- an operation's sign and level -/
def sgnS (m : Int) : ByteArray := if 1 ≤ m ∧ m ≤ 9 then syn.opAt m.toNat else empty
def sgnL (m : Int) : Int := if 1 ≤ m ∧ m ≤ 9 then opIs m.toNat else -1
theorem sgn_hit {m : Int} {k : Nat} (hk : k < 9) (h : so k = m) : sgnS m = sv k ∧ sgnL m = sl k := by
  subst h
  rcases nine hk with rfl | rfl | rfl | rfl | rfl | rfl | rfl | rfl | rfl <;> exact ⟨rfl, rfl⟩
theorem sgn_none {m : Int} (h : ∀ k, k < 9 → ¬ so k = m) : sgnS m = empty ∧ sgnL m = -1 := by
  have hn : ¬ (1 ≤ m ∧ m ≤ 9) := by
    rintro ⟨h1, h2⟩
    have a0 : ¬ (9 : Int) = m := h 0 (by omega)
    have a1 : ¬ (8 : Int) = m := h 1 (by omega)
    have a2 : ¬ (1 : Int) = m := h 2 (by omega)
    have a3 : ¬ (2 : Int) = m := h 3 (by omega)
    have a4 : ¬ (7 : Int) = m := h 4 (by omega)
    have a5 : ¬ (3 : Int) = m := h 5 (by omega)
    have a6 : ¬ (4 : Int) = m := h 6 (by omega)
    have a7 : ¬ (5 : Int) = m := h 7 (by omega)
    have a8 : ¬ (6 : Int) = m := h 8 (by omega)
    omega
  unfold sgnS sgnL
  rw [if_neg hn, if_neg hn]
  exact ⟨rfl, rfl⟩
set_option maxHeartbeats 1000000 in
theorem rSignOf (m : Int) (w : World) : Calls Tryz.prog 34 #[.int .i64 m] w fun e w' => e = .returned (.tuple #[.string (sgnS m), .int .i64 (sgnL m)]) ∧ Below w.heap.size w w' := by
  obtain ⟨A, hA⟩ : ∃ A, A = sgnS m := ⟨_, rfl⟩
  obtain ⟨B, hB⟩ : ∃ B, B = sgnL m := ⟨_, rfl⟩
  rw [← hA, ← hB]
  replace hA : Hid (A = _) := hA
  replace hB : Hid (B = _) := hB
  go_enter Tryz.func34, Tryz.ntmps34
  go_wp2_with (go_at_call 68; refine (rSigns _).mono ?_; rintro e w1 ⟨rfl, hsc, hb1⟩)
  go_loopw [7] (fun t wr => ∃ k : Nat, k ≤ 9 ∧ t = .int .i64 k ∧ (∀ j, j < 9 → wr.cell? ⟨w.heap.size, j, none⟩ = some (.string (sv j)) ∧ wr.cell? ⟨w.heap.size + 1, j, none⟩ = some (.int .i64 (so j)) ∧ wr.cell? ⟨w.heap.size + 2, j, none⟩ = some (.int .i64 (sl j))) ∧ Below w.heap.size w wr ∧ Hid (∀ j, j < k → ¬ so j = m)) (fun t _ => 9 - (intOf t).toNat)
  case atStart =>
    exact ⟨0, by omega, rfl, hsc, hb1, fun j hj => by omega⟩
  case round =>
    obtain ⟨k, hk, rfl, hcells, hbw, HN⟩ := hrel
    by_cases hlt : k < 9
    · obtain ⟨y0, y1, y2⟩ := hcells k hlt
      have HC : Hid (∀ j, j < 9 → wr.cell? ⟨w.heap.size, j, none⟩ = some (.string (sv j)) ∧ wr.cell? ⟨w.heap.size + 1, j, none⟩ = some (.int .i64 (so j)) ∧ wr.cell? ⟨w.heap.size + 2, j, none⟩ = some (.int .i64 (sl j))) := hcells
      clear hcells
      cases he : (so k == m)
      · have HE : Hid (¬ so k = m) := show ¬ so k = m by simpa using he
        generalize so k = yo at y1 he
        go_wp2
        go_roundw
        case rel => exact ⟨k + 1, by omega, by go_num, HC.out, hbw, fun j hj => by
          rcases Nat.lt_or_ge j k with h | h
          · exact HN.out j h
          · have : j = k := by omega
            subst this
            exact HE.out⟩
        case measure => simp [intOf]; omega
      · have hh := sgn_hit hlt (by simpa using he)
        have HA : Hid (A = sv k) := hA.out.trans hh.1
        have HB : Hid (B = sl k) := hB.out.trans hh.2
        clear hh
        generalize sv k = y at *
        generalize so k = yo at *
        generalize sl k = yl at *
        go_wp2
        go_quiet (fail)
        go_wp2
        exact bodyPost_ret (v := .tuple #[.string y, .int .i64 yl]) (by simp [results, Tryz.results34, go_sem]) rfl ⟨by rw [HA.out, HB.out], below_drewN hbw _⟩
    · have hh := sgn_none (m := m) (fun j hj => HN.out j (by omega))
      have HA : Hid (A = empty) := hA.out.trans hh.1
      have HB : Hid (B = -1) := hB.out.trans hh.2
      clear hh
      go_wp2
      exact bodyPost_ret (v := .tuple #[.string ⟨#[]⟩, .int .i64 (-1)]) (by simp [results, Tryz.results34, go_sem]) rfl ⟨by rw [HA.out, HB.out]; rfl, hbw⟩
/-! Parts -/
theorem cut_at {l : List UInt8} {p : Nat} (hp : l[p]? = some 46) (h : ∀ i, i < p → l[i]? ≠ some 46) : cutL l = (l.take p, some (l.drop (p + 1))) := by
  have hlt : p < l.length := by
    rcases Nat.lt_or_ge p l.length with h' | h'
    · exact h'
    · rw [List.getElem?_eq_none h'] at hp; cases hp
  have e : l = l.take p ++ 46 :: l.drop (p + 1) := by
    have e1 : l[p] = 46 := by rw [List.getElem?_eq_getElem hlt] at hp; exact Option.some.inj hp
    rw [← e1, ← List.drop_eq_getElem_cons hlt, List.take_append_drop]
  have := cut_some (l.take p) (l.drop (p + 1)) (fun c hc e2 => by
    obtain ⟨i, hi, rfl⟩ := List.mem_iff_getElem.1 hc
    rw [List.length_take] at hi
    rw [List.getElem_take] at e2
    exact h i (by omega) (by rw [List.getElem?_eq_getElem (by omega), e2]))
  rw [← e] at this
  exact this
theorem parts_two {x : ByteArray} {p j : Nat} (hp : x.data.toList[p]? = some 46) (h : ∀ i, i < p → x.data.toList[i]? ≠ some 46) (hpj : p < j) (hj : x.data.toList[j]? = some 46) : partsR x = none := by
  unfold partsR
  rw [cut_at hp h]
  dsimp only
  rw [if_pos]
  rw [List.contains_iff_mem, List.mem_iff_getElem?]
  exact ⟨j - (p + 1), by rw [List.getElem?_drop, show p + 1 + (j - (p + 1)) = j by omega]; exact hj⟩
theorem parts_one {x : ByteArray} {p : Nat} (hp : x.data.toList[p]? = some 46) (h : ∀ i, i ≠ p → x.data.toList[i]? ≠ some 46) : partsR x = some (x.extract 0 p, x.extract (p + 1) x.size) := by
  unfold partsR
  rw [cut_at hp (fun i hi => h i (by omega))]
  dsimp only
  have hlt : p < x.data.toList.length := by
    rcases Nat.lt_or_ge p x.data.toList.length with h' | h'
    · exact h'
    · rw [List.getElem?_eq_none h'] at hp; cases hp
  have hnc : (x.data.toList.drop (p + 1)).contains 46 = false := nopoint_contains.2 fun c hc e => by
    obtain ⟨i, hi⟩ := List.mem_iff_getElem?.1 hc
    rw [List.getElem?_drop, e] at hi
    exact h (p + 1 + i) (by omega) hi
  rw [hnc]
  have e1 : x.extract 0 p = ⟨(x.data.toList.take p).toArray⟩ := by
    apply ByteArray.ext
    apply Array.toList_inj.1
    rw [← ByteArray.toList_eq, Lib.extract_toList]
    simp
  have e2 : x.extract (p + 1) x.size = ⟨(x.data.toList.drop (p + 1)).toArray⟩ := by
    apply ByteArray.ext
    apply Array.toList_inj.1
    have e : x.size = x.data.toList.length := size_data x
    rw [← ByteArray.toList_eq, Lib.extract_toList, List.take_of_length_le (by rw [List.length_drop]; omega)]
  rw [e1, e2]
  rfl
theorem parts_none {x : ByteArray} (h : ∀ i : Nat, x.data.toList[i]? ≠ some 46) : partsR x = some (empty, x) := by
  unfold partsR
  rw [cut_none _ (fun c hc e => by
    obtain ⟨i, hi⟩ := List.mem_iff_getElem?.1 hc
    exact h i (by rw [hi, e]))]
theorem pt_byte {x : ByteArray} {k : Nat} (hk : k < x.size) : x.data.toList[k]? = some x[k] := by
  rw [List.getElem?_eq_getElem (by rw [lexs.len_L]; exact hk)]
  exact congrArg some (lexs.getL x k hk)
theorem pt_is {x : ByteArray} {k : Nat} (hk : k < x.size) : x.data.toList[k]? = some 46 ↔ ((x[k].toNat : Int) == 46) = true := by
  rw [pt_byte hk]
  constructor
  · intro h
    have : x[k] = 46 := Option.some.inj h
    rw [this]; rfl
  · intro h
    have : x[k] = 46 := UInt8.toNat_inj.1 (by have : (x[k].toNat : Int) = 46 := by simpa using h
                                              show x[k].toNat = 46; omega)
    rw [this]
theorem pt_over {x : ByteArray} {k : Nat} (hk : ¬ k < x.size) : x.data.toList[k]? ≠ some 46 := by
  rw [List.getElem?_eq_none (by rw [lexs.len_L]; omega)]
  intro e; cases e
/-- what Parts answers -/
def PartsE (x : ByteArray) (e : Ending) : Prop := match partsR x with
  | none => e = .returned (.tuple #[.string ⟨#[]⟩, .string ⟨#[]⟩, .bool false])
  | some p => e = .returned (.tuple #[.string p.1, .string p.2, .bool true])
set_option maxHeartbeats 2000000 in
theorem rPartsP (x : ByteArray) (w : World) (hx : x.size < 4611686018427387904) : Calls Tryz.prog 67 #[.string x] w fun e w' => PartsE x e ∧ Below w.heap.size w w' := by
  go_enter Tryz.func67, Tryz.ntmps67
  go_wp2
  go_loopw [5, 6] (fun q t wr => ∃ (j : Nat) (p : Int), j ≤ x.size ∧ t = .int .i64 j ∧ q = .int .i64 p ∧ -1 ≤ p ∧ p < j ∧ Hid (∀ i : Nat, i < j → (x.data.toList[i]? = some 46 ↔ (i : Int) = p)) ∧ wr = w) (fun _ t _ => x.size - (intOf t).toNat)
  case atStart => exact ⟨0, -1, Nat.zero_le _, rfl, rfl, by omega, by omega, fun i h => by omega, rfl⟩
  case round =>
    obtain ⟨j, p, hj, rfl, rfl, hp1, hp2, HN, rfl⟩ := hrel
    by_cases hlt : j < x.size
    · have hb := pt_is hlt
      cases hc : ((x[j].toNat : Int) == 46)
      · have HN2 : Hid (∀ i : Nat, i < j + 1 → (x.data.toList[i]? = some 46 ↔ (i : Int) = p)) := fun i hi => by
          rcases Nat.lt_or_ge i j with h | h
          · exact HN.out i h
          · obtain rfl : i = j := by omega
            rw [hb, hc]
            constructor
            · intro e; cases e
            · intro e; omega
        clear hb HN
        go_wp2
        go_roundw
        case rel => exact ⟨j + 1, p, by omega, by go_num, rfl, hp1, by omega, HN2.out, trivial⟩
        case measure => simp [intOf]; omega
      · by_cases hq : 0 ≤ p
        · have HE : Hid (partsR x = none) := by
            have hpp : ((p.toNat : Nat) : Int) = p := by omega
            exact parts_two (p := p.toNat) (j := j) ((HN.out _ (by omega)).2 hpp) (fun i hi e => by have := (HN.out i (by omega)).1 e; omega) (by omega) (hb.2 hc)
          clear hb HN
          go_wp2
          refine bodyPost_ret (v := .tuple #[.string ⟨#[]⟩, .string ⟨#[]⟩, .bool false]) (by simp [results, Tryz.results67, go_sem]) rfl ⟨?_, Below.refl _ _⟩
          unfold PartsE
          rw [HE.out]
        · have HN2 : Hid (∀ i : Nat, i < j + 1 → (x.data.toList[i]? = some 46 ↔ (i : Int) = (j : Int))) := fun i hi => by
            rcases Nat.lt_or_ge i j with h | h
            · constructor
              · intro e; have := (HN.out i h).1 e; omega
              · intro e; omega
            · obtain rfl : i = j := by omega
              exact ⟨fun _ => rfl, fun _ => hb.2 hc⟩
          clear hb HN
          go_wp2
          go_roundw
          case rel => exact ⟨j + 1, j, by omega, by go_num, rfl, by omega, by omega, HN2.out, trivial⟩
          case measure => simp [intOf]; omega
    · obtain rfl : j = x.size := by omega
      by_cases hq : p < 0
      · have HE : Hid (partsR x = some (empty, x)) := parts_none fun i e => by
          by_cases hi : i < x.size
          · have := (HN.out i hi).1 e; omega
          · exact pt_over hi e
        clear HN
        go_wp2
        refine bodyPost_ret (v := .tuple #[.string ⟨#[]⟩, .string x, .bool true]) (by simp [results, Tryz.results67, go_sem]) rfl ⟨?_, Below.refl _ _⟩
        unfold PartsE
        rw [HE.out]
        rfl
      · obtain ⟨k, rfl⟩ : ∃ k : Nat, p = k := ⟨p.toNat, by omega⟩
        have HE : Hid (partsR x = some (x.extract 0 k, x.extract (k + 1) x.size)) := parts_one ((HN.out k (by omega)).2 rfl) fun i hne e => by
          by_cases hi : i < x.size
          · have := (HN.out i hi).1 e; omega
          · exact pt_over hi e
        clear HN
        go_wp2
        go_region
        all_goals
          go_wp2
          refine bodyPost_ret (v := .tuple #[.string (x.extract 0 k), .string (x.extract (k + 1) x.size), .bool true]) (by simp [results, Tryz.results67, go_sem]) rfl ⟨?_, (Below.refl _ _).drew⟩
          unfold PartsE
          rw [HE.out]
theorem parts_size {x : ByteArray} {a b : ByteArray} (h : partsR x = some (a, b)) : a.size ≤ x.size ∧ b.size ≤ x.size ∧ a.size + b.size ≤ x.size := by
  unfold partsR at h
  have hl := cutL_len x.data.toList
  rcases hc : cutL x.data.toList with ⟨u, _ | v⟩
  · rw [hc] at h
    simp only [Option.some.injEq, Prod.mk.injEq] at h
    obtain ⟨rfl, rfl⟩ := h
    exact ⟨Nat.zero_le _, Nat.le_refl _, by show 0 + _ ≤ _; omega⟩
  · rw [hc] at h hl
    simp only at h hl
    split at h
    · cases h
    · simp only [Option.some.injEq, Prod.mk.injEq] at h
      obtain ⟨rfl, rfl⟩ := h
      have e : x.size = u.length + (v.length + 1) := by rw [size_data, hl]; simp
      have e1 : (⟨u.toArray⟩ : ByteArray).size = u.length := size_arr u
      have e2 : (⟨v.toArray⟩ : ByteArray).size = v.length := size_arr v
      omega
set_option maxHeartbeats 2000000 in
theorem rTexts (x : ByteArray) (c : Int) (hc : c = 0 ∨ c = 1 ∨ c = 2) (w : World) (hx : x.size < 4611686018427387904) : Calls Tryz.prog 33 #[.string x, .int .i64 c] w fun e w' => e = .returned (.bool (textsR x c)) ∧ Below w.heap.size w w' := by
  rcases hc with rfl | rfl | rfl
  · have HT : Hid (textsR x 0 = eqS x empty) := by
      show _ = _
      unfold textsR eqS
      rw [if_pos rfl, size_data]
      rw [ByteArray.toList_eq, ByteArray.toList_eq]
      cases h : x.data.toList <;> rfl
    have e1 : ((x.toList == ([] : List UInt8)) = eqS x empty) := by unfold eqS; rw [ByteArray.toList_eq empty]; rfl
    cases he : eqS x empty
    all_goals
      rw [he] at HT e1
      go_enter Tryz.func33, Tryz.ntmps33
      go_wp2
      go_ret
      refine ⟨?_, Below.refl _ _⟩
      rw [HT.out]
      simp [e1]
  · have hN := face.rName x
    have HT : Hid (textsR x 1 = isName x) := rfl
    generalize isName x = b at hN HT
    go_enter Tryz.func33, Tryz.ntmps33
    go_wp2_with (go_at_call 50; refine (hN _).mono ?_; rintro e w2 ⟨rfl, hb2⟩)
    go_ret
    exact ⟨by rw [HT.out]; rfl, hb2⟩
  · have hP := rPartsP x w hx
    unfold PartsE at hP
    have HT : Hid (textsR x 2 = match partsR x with
      | none => false
      | some p => isName p.2 && (decide (p.1.size + p.2.size = x.size) || isName p.1)) := rfl
    cases hp : partsR x with
    | none =>
      rw [hp] at hP HT
      go_enter Tryz.func33, Tryz.ntmps33
      go_wp2_with (go_at_call 67; refine hP.mono ?_; rintro e w2 ⟨rfl, hb2⟩)
      go_ret
      exact ⟨by rw [HT.out]; rfl, hb2⟩
    | some q =>
      obtain ⟨a, b⟩ := q
      obtain ⟨s1, s2, s3⟩ := parts_size hp
      rw [hp] at hP HT
      dsimp only at hP HT
      have hN1 := face.rName b
      have hN2 := face.rName a
      clear hp
      cases hb : isName b
      · rw [hb] at hN1 HT
        go_enter Tryz.func33, Tryz.ntmps33
        go_wp2_with (first
          | (go_at_call 67; refine hP.mono ?_; rintro e w2 ⟨rfl, hb2⟩)
          | (go_at_call 50; refine (hN1 _).mono ?_; rintro e w3 ⟨rfl, hb3⟩))
        go_ret
        exact ⟨by rw [HT.out]; rfl, hb2.trans (hb3.mono hb2.size)⟩
      · rw [hb] at hN1 HT
        by_cases hs : a.size + b.size = x.size
        · rw [decide_eq_true hs] at HT
          have e1 : (((a.size : Int) + (b.size : Int)) == (x.size : Int)) = true := by simp; omega
          go_enter Tryz.func33, Tryz.ntmps33
          go_wp2_with (first
            | (go_at_call 67; refine hP.mono ?_; rintro e w2 ⟨rfl, hb2⟩)
            | (go_at_call 50; refine (hN1 _).mono ?_; rintro e w3 ⟨rfl, hb3⟩))
          go_ret
          exact ⟨by rw [HT.out]; first | rfl | simp [e1], hb2.trans (hb3.mono hb2.size)⟩
        · rw [decide_eq_false hs, Bool.false_or, Bool.true_and] at HT
          have e1 : (((a.size : Int) + (b.size : Int)) == (x.size : Int)) = false := by simp; omega
          have HN1 := (show Hid _ from hN1)
          have HN2 := (show Hid _ from hN2)
          clear hN1 hN2
          go_enter Tryz.func33, Tryz.ntmps33
          go_wp2_with (go_at_call 67; refine hP.mono ?_; rintro e w2 ⟨rfl, hb2⟩)
          refine (HN1.out _).mono ?_
          rintro e w3 ⟨rfl, hb3⟩
          go_wp2_with (fail)
          refine (HN2.out _).mono ?_
          rintro e w4 ⟨rfl, hb4⟩
          go_wp2
          go_ret
          exact ⟨by rw [HT.out]; first | rfl | simp [e1], (hb2.trans (hb3.mono hb2.size)).trans (hb4.mono (Nat.le_trans hb2.size hb3.size))⟩
theorem spaced_none {x : ByteArray} {a : ByteArray} (h : partsR x = some (a, x)) : spacedR x = x.data.toList := by
  unfold partsR at h
  unfold spacedR
  have hl := cutL_len x.data.toList
  rcases hc : cutL x.data.toList with ⟨u, _ | v⟩
  · rfl
  · exfalso
    rw [hc] at h hl
    simp only at h hl
    split at h
    · cases h
    · simp only [Option.some.injEq, Prod.mk.injEq] at h
      have e : x.data.toList.length = u.length + (v.length + 1) := by rw [hl]; simp
      have e2 : (⟨v.toArray⟩ : ByteArray).size = x.size := by rw [h.2]
      rw [size_arr, size_data] at e2
      omega
theorem parts_same {x a b : ByteArray} (h : partsR x = some (a, b)) (hs : b.size = x.size) : b = x := by
  unfold partsR at h
  have hl := cutL_len x.data.toList
  rcases hc : cutL x.data.toList with ⟨u, _ | v⟩
  · rw [hc] at h
    simp only [Option.some.injEq, Prod.mk.injEq] at h
    exact h.2.symm
  · exfalso
    rw [hc] at h hl
    simp only at h hl
    split at h
    · cases h
    · simp only [Option.some.injEq, Prod.mk.injEq] at h
      have e : x.data.toList.length = u.length + (v.length + 1) := by rw [hl]; simp
      rw [← h.2, size_arr, size_data] at hs
      omega
theorem spaced_some {x a b : ByteArray} (h : partsR x = some (a, b)) (hs : b.size ≠ x.size) : spacedR x = a.data.toList ++ [32, 46, 32] ++ b.data.toList := by
  unfold partsR at h
  unfold spacedR
  rcases hc : cutL x.data.toList with ⟨u, _ | v⟩
  · rw [hc] at h
    simp only [Option.some.injEq, Prod.mk.injEq] at h
    exact absurd (by rw [h.2]) hs
  · rw [hc] at h
    simp only at h
    split at h
    · cases h
    · simp only [Option.some.injEq, Prod.mk.injEq] at h
      rw [← h.1, ← h.2]
theorem texts_parts {x : ByteArray} (h : textsR x 2 = true) : ∃ a b, partsR x = some (a, b) := by
  unfold textsR at h
  rw [if_neg (by decide), if_neg (by decide)] at h
  cases hp : partsR x with
  | none => rw [hp] at h; cases h
  | some q => exact ⟨q.1, q.2, rfl⟩
set_option maxHeartbeats 2000000 in
theorem rSpaced (x : ByteArray) (w : World) (hx : x.size ≤ 1000) (h : textsR x 2 = true) : Calls Tryz.prog 40 #[.string x] w fun e w' => e = .returned (.string (sx (spacedR x))) ∧ Below w.heap.size w w' := by
  obtain ⟨a, b, hp⟩ := texts_parts h
  have hP := rPartsP x w (by omega)
  unfold PartsE at hP
  rw [hp] at hP
  dsimp only at hP
  obtain ⟨s1, s2, s3⟩ := parts_size hp
  by_cases hs : b.size = x.size
  · obtain rfl := parts_same hp hs
    have HS : Hid (sx (spacedR b) = b) := by show _ = _; rw [spaced_none hp, sx_data]
    clear hp h
    go_enter Tryz.func40, Tryz.ntmps40
    go_wp2_with (go_at_call 67; refine hP.mono ?_; rintro e w2 ⟨rfl, hb2⟩)
    go_ret
    exact ⟨by rw [HS.out]; rfl, hb2⟩
  · have HS : Hid (sx (spacedR x) = a ++ ⟨#[32, 46, 32]⟩ ++ b) := by
      show _ = _
      rw [spaced_some hp hs, ← sx_app, ← sx_app, sx_data, sx_data]
      rfl
    have e1 : ((b.size : Int) == (x.size : Int)) = false := by simp; omega
    clear hp h hs
    go_enter Tryz.func40, Tryz.ntmps40
    go_wp2_with (go_at_call 67; refine hP.mono ?_; rintro e w2 ⟨rfl, hb2⟩)
    go_ret
    exact ⟨by rw [HS.out]; rfl, hb2⟩
/-- what counts answers: least, most (-1: any), the number's most (-1: an operation's), class -/
def cntsM (k : Int) : Int := if (shapeF k).2.2.2.2 = 500 then -1 else (shapeF k).2.2.2.2
def cntsN (k : Int) : Int := if k = 19 then -1 else (shapeF k).2.2.1
def CountsE (k : Int) (e : Ending) : Prop := if 1 ≤ k ∧ k ≤ 21 then e = .returned (.tuple #[.int .i64 (shapeF k).2.2.2.1, .int .i64 (cntsM k), .int .i64 (cntsN k), .int .i64 (shapeF k).1, .bool true]) else e = .returned (.tuple #[.int .i64 0, .int .i64 0, .int .i64 0, .int .i64 0, .bool false])
theorem kinds21 {k : Int} (h : 1 ≤ k ∧ k ≤ 21) : k = 1 ∨ k = 2 ∨ k = 3 ∨ k = 4 ∨ k = 5 ∨ k = 6 ∨ k = 7 ∨ k = 8 ∨ k = 9 ∨ k = 10 ∨ k = 11 ∨ k = 12 ∨ k = 13 ∨ k = 14 ∨ k = 15 ∨ k = 16 ∨ k = 17 ∨ k = 18 ∨ k = 19 ∨ k = 20 ∨ k = 21 := by omega
set_option maxHeartbeats 4000000 in
theorem rCounts (k : Int) (w : World) : Calls Tryz.prog 32 #[.int .i64 k] w fun e w' => CountsE k e ∧ w' = w := by
  unfold CountsE
  by_cases h : 1 ≤ k ∧ k ≤ 21
  · simp only [if_pos h]
    rcases kinds21 h with rfl | rfl | rfl | rfl | rfl | rfl | rfl | rfl | rfl | rfl | rfl | rfl | rfl | rfl | rfl | rfl | rfl | rfl | rfl | rfl | rfl
    all_goals
      clear h
      go_enter Tryz.func32, Tryz.ntmps32
      go_wp2
      refine bodyPost_ret (by simp [results, Tryz.results32, go_sem]; decide) rfl ⟨rfl, rfl⟩
  · simp only [if_neg h]
    have hk : ∀ j : Int, 1 ≤ j → j ≤ 21 → (k == j) = false := fun j h1 h2 => by
      have : ¬ k = j := by omega
      simpa using this
    have k1 := hk 1 (by omega) (by omega)
    have k2 := hk 2 (by omega) (by omega)
    have k3 := hk 3 (by omega) (by omega)
    have k4 := hk 4 (by omega) (by omega)
    have k5 := hk 5 (by omega) (by omega)
    have k6 := hk 6 (by omega) (by omega)
    have k7 := hk 7 (by omega) (by omega)
    have k8 := hk 8 (by omega) (by omega)
    have k9 := hk 9 (by omega) (by omega)
    have k10 := hk 10 (by omega) (by omega)
    have k11 := hk 11 (by omega) (by omega)
    have k12 := hk 12 (by omega) (by omega)
    have k13 := hk 13 (by omega) (by omega)
    have k14 := hk 14 (by omega) (by omega)
    have k15 := hk 15 (by omega) (by omega)
    have k16 := hk 16 (by omega) (by omega)
    have k17 := hk 17 (by omega) (by omega)
    have k18 := hk 18 (by omega) (by omega)
    have k19 := hk 19 (by omega) (by omega)
    have k20 := hk 20 (by omega) (by omega)
    have k21 := hk 21 (by omega) (by omega)
    clear hk h
    go_enter Tryz.func32, Tryz.ntmps32
    go_wp2
    refine bodyPost_ret (by simp [results, Tryz.results32, go_sem]) rfl ⟨rfl, rfl⟩
theorem rIsStat (kd : Int) (w : World) : Calls Tryz.prog 69 #[.int .i64 kd] w fun e w' => e = .returned (.bool (statB kd)) ∧ w' = w := by
  by_cases h1 : 7 ≤ kd
  all_goals by_cases h2 : kd ≤ 14
  all_goals
    go_enter Tryz.func69, Tryz.ntmps69
    go_wp2
    go_ret
    exact ⟨by simp [statB, h1, h2], rfl⟩
theorem rIsExpr (kd : Int) (w : World) : Calls Tryz.prog 70 #[.int .i64 kd] w fun e w' => e = .returned (.bool (exprB kd)) ∧ w' = w := by
  by_cases h1 : 15 ≤ kd
  all_goals by_cases h2 : kd ≤ 21
  all_goals
    go_enter Tryz.func70, Tryz.ntmps70
    go_wp2
    go_ret
    exact ⟨by simp [exprB, h1, h2], rfl⟩
set_option maxHeartbeats 4000000 in
theorem rFitsP {k m : Int} {x : ByteArray} {ks : List Tree} {a : Option Addr} {c : Nat} (w : World) (hl : Lies (· < w.heap.size) w (.node k x m ks) (.agg #[.int .i64 k, .string x, .int .i64 m, .slice a ks.length c])) (i : Nat) (hi : i < ks.length) (p kd : Int) (hp : ∀ j, i = j + 1 → ∀ (h : j < ks.length), kindT ks[j] = p) :
    Calls Tryz.prog 35 #[.agg #[.int .i64 k, .string x, .int .i64 m, .slice a ks.length c], .int .i64 i, .int .i64 kd] w fun e w' => e = .returned (.bool (fitB k ks.length i p kd)) ∧ Below w.heap.size w w' := by
  have c4 : Tryz.prog.cellsOf 24 = 4 := by kernel_rfl
  have hB := (Below.refl w.heap.size w).alloc (Nat.le_refl _) (.cells #[.int .i64 k, .string x, .int .i64 m, .slice a ks.length c] 24)
  have hS := rIsStat kd
  have hE := rIsExpr kd
  unfold Lies at hl
  obtain ⟨a', c', e', ⟨hlen, hlc⟩, hat⟩ := hl
  simp only [Value.agg.injEq, Array.mk.injEq, List.cons.injEq, Value.slice.injEq, and_true, true_and] at e'
  obtain ⟨rfl, -, rfl⟩ := e'
  by_cases k1 : k = 1
  · subst k1
    cases k2 : (kd == 2)
    · have HF : Hid (fitB 1 ks.length i p kd = ((kd == 3) || (kd == 4))) := by
        show _ = _
        unfold fitB
        rw [if_pos rfl, if_neg (by simpa using k2)]
      clear hat
      cases k3 : (kd == 3)
      all_goals cases k4 : (kd == 4)
      all_goals
        rw [k3, k4] at HF
        go_enter Tryz.func35, Tryz.ntmps35
        go_wp2
        go_ret
        exact ⟨by rw [HF.out]; rfl, hB⟩
    · obtain rfl : kd = 2 := by simpa using k2
      cases i with
      | zero =>
        clear hat
        go_enter Tryz.func35, Tryz.ntmps35
        go_wp2
        go_ret
        exact ⟨rfl, hB⟩
      | succ j =>
        have hj : j < ks.length := by omega
        have hpj := hp j rfl hj
        obtain ⟨g, o, rfl, hg, hat⟩ := hat (by intro e; rw [e] at hj; simp at hj)
        obtain ⟨v, ⟨x0, x1, x2, x3, e0, q0, q1, q2, q3⟩, hlk⟩ := hat.get j hj
        have hx0 : x0 = .int .i64 p := by
          rw [← hpj]
          cases hkk : ks[j] with
          | node k' y' m' ks' =>
            rw [hkk] at hlk
            unfold Lies at hlk
            obtain ⟨_, _, e1, _⟩ := hlk
            rw [e1] at e0
            simp only [Value.agg.injEq, Array.mk.injEq, List.cons.injEq] at e0
            exact e0.1.symm
        subst hx0
        have hgl : g < w.heap.size := hg
        have q := (hB.cell (p := ⟨g, o + j * 4, none⟩) hg).trans q0
        have HF : Hid (fitB 1 ks.length (j + 1) p 2 = (p == 2)) := by
          show _ = _
          unfold fitB
          rw [if_pos rfl, if_pos rfl]
          rfl
        clear hat hlk hp hpj e0 q0 q1 q2 q3
        have ej : (((j : Int) + 1) == 0) = false := by simp; omega
        cases hp2 : (p == 2)
        all_goals
          rw [hp2] at HF
          go_enter Tryz.func35, Tryz.ntmps35
          go_wp2
          go_ret
          exact ⟨by rw [HF.out]; first | rfl | simp [ej], hB⟩
  have k1' : (k == 1) = false := by simpa using k1
  clear hat hp
  by_cases k3 : k = 3
  · subst k3
    have HF : Hid (fitB 3 ks.length i p kd = (kd == 15)) := rfl
    go_enter Tryz.func35, Tryz.ntmps35
    go_wp2
    go_ret
    exact ⟨by rw [HF.out]; rfl, hB⟩
  have k3' : (k == 3) = false := by simpa using k3
  by_cases k4 : k = 4
  · subst k4
    by_cases hq : i + 1 = ks.length
    · have HF : Hid (fitB 4 ks.length i p kd = (kd == 6)) := by
        show _ = _
        unfold fitB
        rw [if_neg (by decide), if_neg (by decide), if_pos rfl, if_pos hq]
      have e1 : ((i : Int) == (ks.length : Int) - 1) = true := by simp; omega
      go_enter Tryz.func35, Tryz.ntmps35
      go_wp2
      go_ret
      exact ⟨by rw [HF.out]; rfl, hB⟩
    · have HF : Hid (fitB 4 ks.length i p kd = (kd == 5)) := by
        show _ = _
        unfold fitB
        rw [if_neg (by decide), if_neg (by decide), if_pos rfl, if_neg hq]
      have e1 : ((i : Int) == (ks.length : Int) - 1) = false := by simp; omega
      go_enter Tryz.func35, Tryz.ntmps35
      go_wp2
      go_ret
      exact ⟨by rw [HF.out]; rfl, hB⟩
  have k4' : (k == 4) = false := by simpa using k4
  by_cases k6 : k = 6
  · subst k6
    have HF : Hid (fitB 6 ks.length i p kd = statB kd) := rfl
    generalize statB kd = b at hS HF
    go_enter Tryz.func35, Tryz.ntmps35
    go_wp2_with (go_at_call 69; refine (hS _).mono ?_; rintro e w2 ⟨rfl, rfl⟩)
    go_ret
    exact ⟨by rw [HF.out]; rfl, hB⟩
  have k6' : (k == 6) = false := by simpa using k6
  by_cases k10 : (k = 10 ∨ k = 11) ∧ 0 < i
  · obtain ⟨hk, h0⟩ := k10
    have HF : Hid (fitB k ks.length i p kd = (kd == 6)) := by
      show _ = _
      unfold fitB
      rw [if_neg k1, if_neg k3, if_neg k4, if_neg k6, if_pos ⟨hk, h0⟩]
    have h0' : (0 : Int) < (i : Int) := by omega
    have d0 : decide ((0 : Int) < (i : Int)) = true := decide_eq_true h0'
    rcases hk with rfl | rfl
    all_goals
      clear k1 k3 k4 k6 k1' k3' k4' k6'
      go_enter Tryz.func35, Tryz.ntmps35
      go_wp2
      go_ret
      exact ⟨by rw [HF.out]; rfl, hB⟩
  by_cases k8 : (k = 8 ∧ i = 0) ∨ k = 13
  · have HF : Hid (fitB k ks.length i p kd = ((kd == 16) || (kd == 17))) := by
      show _ = _
      unfold fitB
      rw [if_neg k1, if_neg k3, if_neg k4, if_neg k6, if_neg k10, if_pos k8]
    cases e16 : (kd == 16)
    all_goals cases e17 : (kd == 17)
    all_goals
      rw [e16, e17] at HF
      rcases k8 with ⟨rfl, rfl⟩ | rfl
    all_goals
      clear k1 k3 k4 k6 k1' k3' k4' k6'
      go_enter Tryz.func35, Tryz.ntmps35
      go_wp2
      go_ret
      exact ⟨by rw [HF.out]; rfl, hB⟩
  by_cases k9 : k = 9
  · subst k9
    have HF : Hid (fitB 9 ks.length i p kd = (kd == 18)) := by
      show _ = _
      unfold fitB
      rw [if_neg k1, if_neg k3, if_neg k4, if_neg k6, if_neg k10, if_neg k8, if_pos rfl]
    clear k1 k3 k4 k6 k1' k3' k4' k6' k10 k8
    go_enter Tryz.func35, Tryz.ntmps35
    go_wp2
    go_ret
    exact ⟨by rw [HF.out]; rfl, hB⟩
  have HF : Hid (fitB k ks.length i p kd = exprB kd) := by
    show _ = _
    unfold fitB
    rw [if_neg k1, if_neg k3, if_neg k4, if_neg k6, if_neg k10, if_neg k8, if_neg k9]
  have k9' : (k == 9) = false := by simpa using k9
  generalize exprB kd = b at hE HF
  by_cases h10 : k = 10 ∨ k = 11
  · obtain rfl : i = 0 := by
      rcases Nat.eq_zero_or_pos i with h | h
      · exact h
      · exact absurd ⟨h10, h⟩ k10
    rcases h10 with rfl | rfl
    all_goals
      clear k1 k3 k4 k6 k1' k3' k4' k6' k10 k8 k9 k9'
      go_enter Tryz.func35, Tryz.ntmps35
      go_wp2_with (go_at_call 70; refine (hE _).mono ?_; rintro e w2 ⟨rfl, rfl⟩)
      go_ret
      exact ⟨by rw [HF.out]; rfl, hB⟩
  have k10' : (k == 10) = false := by have : ¬ k = 10 := fun e => h10 (.inl e); simpa using this
  have k11' : (k == 11) = false := by have : ¬ k = 11 := fun e => h10 (.inr e); simpa using this
  have k13' : (k == 13) = false := by have : ¬ k = 13 := fun e => k8 (.inr e); simpa using this
  by_cases h8 : k = 8
  · subst h8
    have h0 : ¬ i = 0 := fun e => k8 (.inl ⟨rfl, e⟩)
    have h0' : ((i : Int) == 0) = false := by simp; omega
    clear k1 k3 k4 k6 k1' k3' k4' k6' k10 k8 k9 k9' k10' k11' k13'
    go_enter Tryz.func35, Tryz.ntmps35
    go_wp2_with (go_at_call 70; refine (hE _).mono ?_; rintro e w2 ⟨rfl, rfl⟩)
    go_ret
    exact ⟨by rw [HF.out]; rfl, hB⟩
  have k8' : (k == 8) = false := by simpa using h8
  clear k1 k3 k4 k6 k10 k8 k9 h10 h8
  go_enter Tryz.func35, Tryz.ntmps35
  go_wp2_with (go_at_call 70; refine (hE _).mono ?_; rintro e w2 ⟨rfl, rfl⟩)
  go_ret
  exact ⟨by rw [HF.out]; rfl, hB⟩
theorem dec_small {n : Nat} (h : n < 10) : Lib.decDigits n = [UInt8.ofNat (48 + n)] := by rw [Lib.decDigits, dif_pos h]
theorem dec_big {n : Nat} (h : ¬ n < 10) : Lib.decDigits n = Lib.decDigits (n / 10) ++ [UInt8.ofNat (48 + n % 10)] := by rw [Lib.decDigits, dif_neg h]
theorem conv1 (w : World) (z : Nat) (hz : z < 256) : (convert 63 9 (.slice (some ⟨w.heap.size, 0, none⟩) 1 1)).run Tryz.prog (w.alloc (.cells #[.int .u8 (z : Int)] 5)) = .ok (.string ⟨#[UInt8.ofNat z]⟩) (w.alloc (.cells #[.int .u8 (z : Int)] 5)) := by
  rw [run_convert_bytes_string _ 63 9 5 _ _ _ Tryz.underlying63 Tryz.underlying5 Tryz.underlying9]
  rw [run_bytesToString _ _ 1 1 [(z : Int)] (by simp [go_sem])]
  simp
  rfl
set_option maxHeartbeats 1000000 in
theorem rDigitsP (m : Int) (h0 : 0 ≤ m) (h1 : m ≤ 9223372036854775807) (w : World) : Calls Tryz.prog 71 #[.int .i64 m] w fun e w' => e = .returned (.string (numW m)) ∧ Below w.heap.size w w' := by
  obtain ⟨n, rfl⟩ : ∃ n : Nat, m = n := ⟨m.toNat, by omega⟩
  have cU : Tryz.prog.cellsOf 5 = 1 := by kernel_rfl
  have HN : Hid (numW (n : Int) = sx (Lib.decDigits n ++ (⟨#[]⟩ : ByteArray).data.toList)) := by
    show _ = _
    unfold numW Lib.itoa
    rw [if_neg (by omega)]
    simp [sx]
  have h19 : (10 : Nat) ^ (18 + 1) = 10000000000000000000 := by decide
  have hlen : Lib.nDigits n ≤ 19 := nd_le 18 n (by rw [h19]; omega)
  generalize numW (n : Int) = R at *
  clear h19
  have hn : (n : Int) < 0 → False := by omega
  clear hn
  go_enter Tryz.func71, Tryz.ntmps71
  go_wp2
  go_loopw [3, 4] (fun s l wr => ∃ (q : Nat) (y : ByteArray), s = .string y ∧ l = .int .i64 q ∧ q ≤ n ∧ Hid (R = sx (Lib.decDigits q ++ y.data.toList)) ∧ y.size + Lib.nDigits q ≤ 19 ∧ Below w.heap.size w wr) (fun _ l _ => (intOf l).toNat)
  case atStart => exact ⟨n, ⟨#[]⟩, rfl, rfl, Nat.le_refl _, HN, by show 0 + _ ≤ _; omega, Below.refl _ _⟩
  case round =>
    clear HN hlen
    obtain ⟨q, y, rfl, rfl, hq, HR, hy, hbr⟩ := hrel
    have hd : q % 10 < 10 := Nat.mod_lt _ (by decide)
    have hcv := conv1 wr (48 + q % 10) (by omega)
    have hA := hbr.alloc hbr.size (.cells #[.int .u8 ((48 + q % 10 : Nat) : Int)] 5)
    have ec : ((48 + q % 10 : Nat) : Int) = 48 + (q : Int) % 10 := by omega
    rw [ec] at hcv hA
    clear ec
    have hsz : ((⟨#[UInt8.ofNat (48 + q % 10)]⟩ : ByteArray) ++ y).size = 1 + y.size := ByteArray.size_append
    by_cases hz : q < 10
    · have HE : Hid (R = (⟨#[UInt8.ofNat (48 + q % 10)]⟩ : ByteArray) ++ y) := by
        show _ = _
        rw [HR.out, dec_small hz, ← sx_app, sx_data, Nat.mod_eq_of_lt hz]
        rfl
      have e1 : ((q : Int) / 10) = 0 := by omega
      clear HR
      generalize UInt8.ofNat (48 + q % 10) = bb at *
      go_wp2
      go_ret
      exact ⟨by rw [HE.out]; rfl, hA⟩
    · have HE : Hid (R = sx (Lib.decDigits (q / 10) ++ ((⟨#[UInt8.ofNat (48 + q % 10)]⟩ : ByteArray) ++ y).data.toList)) := by
        show _ = _
        rw [HR.out, dec_big hz]
        simp [ByteArray.data_append]
      have e1 : ¬ ((q : Int) / 10) = 0 := by omega
      have hn2 : Lib.nDigits q = Lib.nDigits (q / 10) + 1 := Lib.nDigits_big hz
      clear HR
      generalize UInt8.ofNat (48 + q % 10) = bb at *
      go_wp2
      go_roundw
      case rel => exact ⟨q / 10, _, rfl, by go_num, by omega, HE, by omega, hA⟩
      case measure => simp [intOf]; omega
theorem lies_kind2 {P : Nat → Prop} {w : World} {t : Tree} {x0 x1 x2 x3 : Value} (h : Lies P w t (.agg #[x0, x1, x2, x3])) : ∃ xx mm aa nn cc, x0 = .int .i64 (kindT t) ∧ x1 = .string xx ∧ x2 = .int .i64 mm ∧ x3 = .slice aa nn cc := by
  obtain ⟨k, x, m, ks⟩ := t
  unfold Lies at h
  obtain ⟨a, c, e, _⟩ := h
  simp only [Value.agg.injEq, Array.mk.injEq, List.cons.injEq, and_true] at e
  obtain ⟨rfl, rfl, rfl, rfl⟩ := e
  exact ⟨x, m, a, ks.length, c, rfl, rfl, rfl, rfl⟩
theorem pkeep {w w' : World} {a : Addr} {x : Value} (h : w.cell? a = some x) (hb : Below w.heap.size w w') : w'.cell? a = some x := (hb.cell (p := a) (World.block_lt_of_cell? w a h)).trans h
/-- Show tells a node's text -/
def ShowOk (t : Tree) : Prop := ∀ (w : World) (va : Value), Lies (· < w.heap.size) w t va → Calls Tryz.prog 15 #[va] w fun e w' => e = .returned (.string (sx (showT t))) ∧ Below w.heap.size w w'
/-- a row of nodes -/
def RowT (w : World) (v : Value) (ks : List Tree) : Prop := ∃ a c, v = .slice a ks.length c ∧ ks.length ≤ c ∧ ks.length ≤ 4611686018427387904 ∧ (ks ≠ [] → ∃ g o, a = some ⟨g, o, none⟩ ∧ g < w.heap.size ∧ LiesAt (· < w.heap.size) w ks g o)
theorem RowT.below {w w' : World} {v : Value} {ks : List Tree} (h : RowT w v ks) (hb : Below w.heap.size w w') : RowT w' v ks := by
  obtain ⟨a, c, e, h1, h2, h3⟩ := h
  refine ⟨a, c, e, h1, h2, fun hne => ?_⟩
  obtain ⟨g, o, e2, hg, hat⟩ := h3 hne
  exact ⟨g, o, e2, Nat.lt_of_lt_of_le hg hb.size, hat.below hg hb⟩
def sepL (sep : List UInt8) (l : List (List UInt8)) : Nat → List UInt8
  | 0 => []
  | j + 1 => sepL sep l j ++ (if j = 0 then [] else sep) ++ l.getD j []
theorem sepL_cons (sep s : List UInt8) (r : List (List UInt8)) : ∀ j, sepL sep (s :: r) (j + 1) = s ++ (r.take j).flatMap (sep ++ ·) ∨ r.length < j
  | 0 => .inl (by unfold sepL sepL; simp)
  | j + 1 => by
    rcases sepL_cons sep s r j with h | h
    · by_cases hj : j < r.length
      · left
        rw [sepL, h, if_neg (by omega), List.take_succ_eq_append_getElem hj, List.flatMap_append]
        simp [hj]
      · right; omega
    · right; omega
theorem sepL_all (sep : List UInt8) : ∀ l : List (List UInt8), sepL sep l l.length = listR sep l
  | [] => rfl
  | s :: r => by
    rcases sepL_cons sep s r r.length with h | h
    · rw [List.length_cons, h, List.take_length]
      rfl
    · omega
theorem sepL_le {sep : List UInt8} (hs : sep.length ≤ 8) (l : List (List UInt8)) : ∀ j, j ≤ l.length → ((sepL sep l j).length : Int) ≤ sum8 (l.take j)
  | 0, _ => by rw [List.take_zero, sum8_nil]; exact Int.le_refl _
  | j + 1, h => by
    have ih := sepL_le hs l j (by omega)
    rw [List.take_succ_eq_append_getElem h, sum8_split, sepL, List.length_append, List.length_append]
    have e : (if j = 0 then ([] : List UInt8) else sep).length ≤ 8 := by
      split
      · exact Nat.zero_le _
      · exact hs
    have e2 : (l.getD j []) = l[j] := by rw [List.getD_eq_getElem?_getD, List.getElem?_eq_getElem h]; rfl
    rw [e2]
    omega
theorem sum8_take : ∀ (l : List (List UInt8)) (j : Nat), sum8 (l.take j) ≤ sum8 l
  | [], j => by simp
  | s :: r, 0 => by rw [List.take_zero, sum8_nil]; exact sum8_pos _
  | s :: r, j + 1 => by rw [List.take_succ_cons, sum8_cons, sum8_cons]; have := sum8_take r j; omega
theorem showL_getD {ks : List Tree} {j : Nat} (h : j < ks.length) : (showL ks).getD j [] = showT ks[j] := by
  induction ks generalizing j with
  | nil => simp at h
  | cons t r ih =>
    rw [showL_cons]
    cases j with
    | zero => rfl
    | succ j => exact ih (by simpa using h)
set_option maxHeartbeats 2000000 in
theorem rListP (ks : List Tree) (hk : ∀ t ∈ ks, ShowOk t) (hsum : sum8 (showL ks) ≤ 60000) (sep : ByteArray) (hsep : sep.size ≤ 8) (v : Value) (w : World) (hv : RowT w v ks) :
    Calls Tryz.prog 38 #[v, .string sep] w fun e w' => e = .returned (.string (sx (listR sep.data.toList (showL ks)))) ∧ Below w.heap.size w w' := by
  have c24 : Tryz.prog.cellsOf 24 = 4 := by kernel_rfl
  obtain ⟨a, c, rfl, hlc, hlen, hka⟩ := hv
  replace hka := (show Hid _ from hka)
  replace hk := (show Hid _ from hk)
  go_enter Tryz.func38, Tryz.ntmps38
  go_wp2
  go_loopw [5, 6] (fun s t wr => ∃ (j : Nat) (y : ByteArray), j ≤ ks.length ∧ t = .int .i64 j ∧ s = .string y ∧ Hid (y = sx (sepL sep.data.toList (showL ks) j)) ∧ Below w.heap.size w wr) (fun _ t _ => ks.length - (intOf t).toNat)
  case atStart => exact ⟨0, ⟨#[]⟩, Nat.zero_le _, rfl, rfl, rfl, Below.refl _ _⟩
  case round =>
    obtain ⟨j, y, hj, rfl, rfl, HY, hbr⟩ := hrel
    by_cases hlt : j < ks.length
    · obtain ⟨g, o, rfl, hg, hat⟩ := hka.out (by intro e; rw [e] at hlt; simp at hlt)
      obtain ⟨x0, x1, x2, x3, c0, c1, c2, c3, hxk⟩ := hat.kid1 hg hbr hlt
      obtain ⟨xx, mm, aa, nn, cc, rfl, rfl, rfl, rfl⟩ := lies_kind2 hxk
      have hC := hk.out _ (List.getElem_mem hlt) wr _ hxk
      have hsl : (showL ks).length = ks.length := showL_len ks
      have hy : y.size ≤ 60000 := by
        have h1 := sepL_le (sep := sep.data.toList) (by rw [← size_data]; exact hsep) (showL ks) j (by omega)
        have h2 := sum8_take (showL ks) j
        rw [HY.out, sx_size]
        omega
      have hz : (sx (showT ks[j])).size ≤ 60000 := by
        have h1 := sum8_take (showL ks) (j + 1)
        have h3 := sum8_pos ((showL ks).take j)
        rw [List.take_succ_eq_append_getElem (by omega), sum8_split] at h1
        have e2 := showL_getD hlt
        rw [List.getD_eq_getElem?_getD, List.getElem?_eq_getElem (by omega)] at e2
        have e3 : (showL ks)[j]'(by omega) = showT ks[j] := e2
        rw [e3] at h1
        rw [sx_size]
        omega
      have HY2 : Hid ((if j = 0 then y else y ++ sep) ++ sx (showT ks[j]) = sx (sepL sep.data.toList (showL ks) (j + 1))) := by
        show _ = _
        rw [sepL, showL_getD hlt, ← sx_app, ← sx_app, HY.out]
        by_cases h0 : j = 0
        · rw [if_pos h0, if_pos h0]
          have : sx ([] : List UInt8) = ⟨#[]⟩ := rfl
          rw [this]
          congr 1
          apply ByteArray.ext
          simp [sx, ByteArray.data_append]
        · rw [if_neg h0, if_neg h0, sx_data]
      clear hxk hat HY hsum hsl
      generalize kindT ks[j] = kd at *
      generalize sx (showT ks[j]) = z at *
      by_cases h0 : j = 0
      · subst h0
        rw [if_pos rfl] at HY2
        simp only [Nat.zero_mul, Nat.add_zero] at c0 c1 c2 c3
        have hzz : (y ++ z).size = y.size + z.size := ByteArray.size_append
        go_wp2_with (go_at_call 15; refine hC.mono ?_; rintro e w1 ⟨rfl, hb1⟩)
        go_roundw
        case rel => exact ⟨1, y ++ z, by omega, by go_num, rfl, HY2.out, hbr.trans (hb1.mono hbr.size)⟩
        case measure => simp [intOf]; omega
      · rw [if_neg h0] at HY2
        have h0' : (0 : Int) < (j : Int) := by omega
        have d0 : decide ((0 : Int) < (j : Int)) = true := decide_eq_true h0'
        have hyy : (y ++ sep).size = y.size + sep.size := ByteArray.size_append
        have hzz : ((y ++ sep) ++ z).size = (y ++ sep).size + z.size := ByteArray.size_append
        go_wp2_with (go_at_call 15; refine hC.mono ?_; rintro e w1 ⟨rfl, hb1⟩)
        go_roundw
        case rel => exact ⟨j + 1, (y ++ sep) ++ z, by omega, by go_num, rfl, HY2.out, hbr.trans (hb1.mono hbr.size)⟩
        case measure => simp [intOf]; omega
    · obtain rfl : j = ks.length := by omega
      have HE : Hid (y = sx (listR sep.data.toList (showL ks))) := by
        show _ = _
        have := sepL_all sep.data.toList (showL ks)
        rw [showL_len] at this
        rw [HY.out, this]
      clear HY
      go_wp2
      go_ret
      exact ⟨by rw [← HE.out]; rfl, hbr⟩
set_option maxHeartbeats 1000000 in
theorem rRoundP (ks : List Tree) (hk : ∀ t ∈ ks, ShowOk t) (hsum : sum8 (showL ks) ≤ 60000) (v : Value) (w : World) (hv : RowT w v ks) :
    Calls Tryz.prog 37 #[v] w fun e w' => e = .returned (.string (sx (roundR (showL ks)))) ∧ Below w.heap.size w w' := by
  have hC := rListP ks hk hsum ⟨#[32, 44, 32]⟩ (by decide) v w hv
  have hl := list_len (⟨#[32, 44, 32]⟩ : ByteArray).data.toList (by decide) (showL ks)
  have hz : (sx (listR (⟨#[32, 44, 32]⟩ : ByteArray).data.toList (showL ks))).size ≤ 60000 := by rw [sx_size]; omega
  obtain ⟨a, c, rfl, hlc, hlen, hka⟩ := hv
  have HR : Hid (sx (roundR (showL ks)) = if ks.length = 0 then (⟨#[40, 32, 41]⟩ : ByteArray) else ⟨#[40, 32]⟩ ++ sx (listR (⟨#[32, 44, 32]⟩ : ByteArray).data.toList (showL ks)) ++ ⟨#[32, 41]⟩) := by
    show _ = _
    unfold roundR
    rw [showL_len]
    split
    · rfl
    · rw [← sx_app, ← sx_app]; rfl
  clear hl hsum hk hka
  generalize sx (listR (⟨#[32, 44, 32]⟩ : ByteArray).data.toList (showL ks)) = y at *
  generalize sx (roundR (showL ks)) = R at *
  by_cases h0 : ks.length = 0
  · rw [if_pos h0] at HR
    have e0 : ((ks.length : Int) == 0) = true := by simp; exact List.eq_nil_of_length_eq_zero h0
    rw [h0] at *
    go_enter Tryz.func37, Tryz.ntmps37
    go_wp2
    go_ret
    exact ⟨by rw [HR.out]; rfl, Below.refl _ _⟩
  · rw [if_neg h0] at HR
    have e0 : ((ks.length : Int) == 0) = false := by simp; intro e; rw [e] at h0; simp at h0
    have h1 : ((⟨#[40, 32]⟩ : ByteArray) ++ y).size = 2 + y.size := ByteArray.size_append
    have h2 : (((⟨#[40, 32]⟩ : ByteArray) ++ y) ++ ⟨#[32, 41]⟩).size = ((⟨#[40, 32]⟩ : ByteArray) ++ y).size + 2 := ByteArray.size_append
    go_enter Tryz.func37, Tryz.ntmps37
    go_wp2_with (go_at_call 38; refine hC.mono ?_; rintro e w1 ⟨rfl, hb1⟩)
    go_ret
    exact ⟨by rw [HR.out]; rfl, hb1⟩
set_option maxHeartbeats 1000000 in
theorem rAtP (t : Tree) (hk : ShowOk t) (hz : (showT t).length ≤ 60000) (h19 : kindT t = 19 → 1 ≤ numT t ∧ numT t ≤ 9) (least : Int) (v : Value) (w : World) (hv : Lies (· < w.heap.size) w t v) :
    Calls Tryz.prog 41 #[v, .int .i64 least] w fun e w' => e = .returned (.string (sx (atR t (showT t) least))) ∧ Below w.heap.size w w' := by
  have c24 : Tryz.prog.cellsOf 24 = 4 := by kernel_rfl
  obtain ⟨k, x, m, ks⟩ := t
  have hl := hv
  unfold Lies at hl
  obtain ⟨a, c, rfl, -, -⟩ := hl
  have hA := (Below.refl w.heap.size w).alloc (Nat.le_refl _) (.cells #[.int .i64 k, .string x, .int .i64 m, .slice a ks.length c] 24)
  have hC := hk _ _ (Lies.below hv hA)
  have hy : (sx (showT (.node k x m ks))).size ≤ 60000 := by rw [sx_size]; exact hz
  have HR : Hid (sx (atR (.node k x m ks) (showT (.node k x m ks)) least) = if k = 19 ∧ levelR m < least then ⟨#[40, 32]⟩ ++ sx (showT (.node k x m ks)) ++ ⟨#[32, 41]⟩ else sx (showT (.node k x m ks))) := by
    show _ = _
    unfold atR
    show sx (if k = 19 ∧ levelR m < least then _ else _) = _
    split
    · rw [← sx_app, ← sx_app]; rfl
    · rfl
  have h19' : k = 19 → sgnL m = levelR m := fun e => by
    have := h19 e
    unfold sgnL levelR
    exact if_pos this
  clear hk hv hz h19
  generalize sx (atR (.node k x m ks) (showT (.node k x m ks)) least) = R at *
  generalize sx (showT (.node k x m ks)) = y at *
  have h1 : ((⟨#[40, 32]⟩ : ByteArray) ++ y).size = 2 + y.size := ByteArray.size_append
  have h2 : (((⟨#[40, 32]⟩ : ByteArray) ++ y) ++ ⟨#[32, 41]⟩).size = ((⟨#[40, 32]⟩ : ByteArray) ++ y).size + 2 := ByteArray.size_append
  by_cases hk : k = 19
  · subst hk
    have hG := rSignOf m
    rw [h19' rfl] at hG
    clear h19'
    generalize levelR m = lv at *
    generalize sgnS m = sg at *
    by_cases hlv : lv < least
    · rw [if_pos ⟨rfl, hlv⟩] at HR
      have d0 : decide (lv < least) = true := decide_eq_true hlv
      go_enter Tryz.func41, Tryz.ntmps41
      go_wp2_with first
        | (go_at_call 15; refine hC.mono ?_; rintro e w1 ⟨rfl, hb1⟩; obtain ⟨q0, -, q2, -, -, -⟩ := one_box (hb1.mono (by simp) : Below (w.heap.size + 1) (w.alloc (.cells #[.int .i64 19, .string x, .int .i64 m, .slice a ks.length c] 24)) w1))
        | (go_at_call 34; refine (hG _).mono ?_; rintro e w2 ⟨rfl, hb2⟩)
      go_ret
      exact ⟨by rw [HR.out]; rfl, (hA.trans (hb1.mono hA.size)).trans (hb2.mono (Nat.le_trans hA.size hb1.size))⟩
    · rw [if_neg (fun h => hlv h.2)] at HR
      have d0 : decide (lv < least) = false := decide_eq_false hlv
      go_enter Tryz.func41, Tryz.ntmps41
      go_wp2_with first
        | (go_at_call 15; refine hC.mono ?_; rintro e w1 ⟨rfl, hb1⟩; obtain ⟨q0, -, q2, -, -, -⟩ := one_box (hb1.mono (by simp) : Below (w.heap.size + 1) (w.alloc (.cells #[.int .i64 19, .string x, .int .i64 m, .slice a ks.length c] 24)) w1))
        | (go_at_call 34; refine (hG _).mono ?_; rintro e w2 ⟨rfl, hb2⟩)
      go_ret
      exact ⟨by rw [HR.out]; rfl, (hA.trans (hb1.mono hA.size)).trans (hb2.mono (Nat.le_trans hA.size hb1.size))⟩
  · rw [if_neg (fun h => hk h.1)] at HR
    have e0 : (k == 19) = false := by simpa using hk
    go_enter Tryz.func41, Tryz.ntmps41
    go_wp2_with (go_at_call 15; refine hC.mono ?_; rintro e w1 ⟨rfl, hb1⟩; obtain ⟨q0, -, -, -, -, -⟩ := one_box (hb1.mono (by simp) : Below (w.heap.size + 1) (w.alloc (.cells #[.int .i64 k, .string x, .int .i64 m, .slice a ks.length c] 24)) w1))
    go_ret
    exact ⟨by rw [HR.out]; rfl, hA.trans (hb1.mono hA.size)⟩
end pr
namespace ord
/-- an operation that yields its value in every world that meets S is taken first; its slot is written out -/
theorem tkd {P : Program} {ops : Array Oper} {Q : Exit → Act → World → Prop} {md : Region.Mode} {S : World → Prop} {i d : Nat} {oi : Oper} {v : Value} {fuel : Nat} {listed : Array Bool} {a : Act} {w : World} (hi : ops[i]? = some oi) (hd : oi.dst = some d)
    (hs : Region.noSelect ops = true) (hf : Region.free md ops listed i = true) (hr : (Region.ready md ops listed).contains i = true)
    (hQ : ∀ c a w, Q (.panic c) (a.put oi.dst v) w → Q (.panic c) a w) (hy : YieldsIf P ops S oi v a) (hS : S w)
    (h : wpAnyH P md ops Q S fuel (listed.setIfInBounds i true) { tmps := a.tmps.setIfInBounds d v, defers := a.defers } w) : wpAnyH P md ops Q S (fuel + 1) listed a w := by
  refine wpAnyH_take hi hs hf hr hQ hy hS ?_
  rw [hd]
  exact h
end ord
end Go.Proofs.YtkoomoemkffjkaaGreatDoor
