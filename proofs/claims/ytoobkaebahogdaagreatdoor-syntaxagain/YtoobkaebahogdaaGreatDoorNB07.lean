/- What the program's enclosed and place answer, once expr does: contracts. -/
import Derived.Test.YtoobkaebahogdaaGreatDoorNB06
set_option linter.unusedVariables false
set_option linter.unusedSimpArgs false
set_option maxRecDepth 100000
namespace Go.Proofs.YtoobkaebahogdaaGreatDoor
namespace syn
open Go.RowKit
open Go.Proofs.YtoobkaebahogdaaGreatDoor.lexs (Tok Fine)

theorem eqS_comm (x y : ByteArray) : eqS x y = eqS y x := by unfold eqS; rw [Bool.eq_iff_iff]; simp only [beq_iff_eq]; exact eq_comm
section
variable {w w' : World} {r G : Nat} {ts : List Tok} {s : St}
theorem Ld.below (h : Ld w r G ts s) (hb : Below w.heap.size w w') : Ld w' r G ts s := h.keep (row := none) ⟨hb.os, hb.tape, hb.output, hb.size, fun j hj _ => hb.block j hj⟩ (by simp)
theorem reserved_any (x : ByteArray) : (reserved.any fun y => eqS y x) = ((x.toList == [100, 111]) || (x.toList == [101, 108, 115, 101]) || (x.toList == [103, 105, 118, 101, 115]) || (x.toList == [104, 105, 103, 104]) || (x.toList == [105, 102]) || (x.toList == [105, 109, 112, 111, 114, 116]) || (x.toList == [105, 110]) || (x.toList == [108, 111, 119]) || (x.toList == [109, 111, 100, 117, 108, 101]) || (x.toList == [111, 117, 116]) || (x.toList == [112, 114, 111, 99]) || (x.toList == [112, 117, 98]) || (x.toList == [114, 101, 116, 117, 114, 110]) || (x.toList == [119, 104, 105, 108, 101])) := by
  have h : (reserved.any fun y => eqS y x) = (reserved.any fun y => eqS x y) := by
    rw [Bool.eq_iff_iff, List.any_eq_true, List.any_eq_true]
    constructor
    · rintro ⟨y, h1, h2⟩; exact ⟨y, h1, by rw [eqS_comm]; exact h2⟩
    · rintro ⟨y, h1, h2⟩; exact ⟨y, h1, by rw [eqS_comm]; exact h2⟩
  rw [h]
  unfold reserved
  simp only [List.any_cons, List.any_nil, Bool.or_false]
  rw [show eqS x ⟨#[100, 111]⟩ = (x.toList == [100, 111]) from eqS_lit x [100, 111], show eqS x ⟨#[101, 108, 115, 101]⟩ = (x.toList == [101, 108, 115, 101]) from eqS_lit x [101, 108, 115, 101], show eqS x ⟨#[103, 105, 118, 101, 115]⟩ = (x.toList == [103, 105, 118, 101, 115]) from eqS_lit x [103, 105, 118, 101, 115], show eqS x ⟨#[104, 105, 103, 104]⟩ = (x.toList == [104, 105, 103, 104]) from eqS_lit x [104, 105, 103, 104], show eqS x ⟨#[105, 102]⟩ = (x.toList == [105, 102]) from eqS_lit x [105, 102], show eqS x ⟨#[105, 109, 112, 111, 114, 116]⟩ = (x.toList == [105, 109, 112, 111, 114, 116]) from eqS_lit x [105, 109, 112, 111, 114, 116], show eqS x ⟨#[105, 110]⟩ = (x.toList == [105, 110]) from eqS_lit x [105, 110], show eqS x ⟨#[108, 111, 119]⟩ = (x.toList == [108, 111, 119]) from eqS_lit x [108, 111, 119], show eqS x ⟨#[109, 111, 100, 117, 108, 101]⟩ = (x.toList == [109, 111, 100, 117, 108, 101]) from eqS_lit x [109, 111, 100, 117, 108, 101], show eqS x ⟨#[111, 117, 116]⟩ = (x.toList == [111, 117, 116]) from eqS_lit x [111, 117, 116], show eqS x ⟨#[112, 114, 111, 99]⟩ = (x.toList == [112, 114, 111, 99]) from eqS_lit x [112, 114, 111, 99], show eqS x ⟨#[112, 117, 98]⟩ = (x.toList == [112, 117, 98]) from eqS_lit x [112, 117, 98], show eqS x ⟨#[114, 101, 116, 117, 114, 110]⟩ = (x.toList == [114, 101, 116, 117, 114, 110]) from eqS_lit x [114, 101, 116, 117, 114, 110], show eqS x ⟨#[119, 104, 105, 108, 101]⟩ = (x.toList == [119, 104, 105, 108, 101]) from eqS_lit x [119, 104, 105, 108, 101]]
  simp only [Bool.or_assoc]
theorem oisName (k a : Int) (x : ByteArray) (w : World) :
    Calls Tryz.prog 98 #[.agg #[.int .i64 k, .string x, .int .i64 a]] w fun e w' => e = .returned (.bool (!(reserved.any fun y => eqS y x) && k == 1)) ∧ Below w.heap.size w w' := by
  have c29 : Tryz.prog.cellsOf 70 = 3 := by kernel_rfl
  rw [reserved_any]
  cases h0 : (x.toList == [100, 111])
  case true =>
    simp only [Bool.true_or, Bool.or_true, Bool.false_or, Bool.not_true, Bool.false_and]
    go_enter Tryz.func98, Tryz.ntmps98
    go_wp2
    go_ret
    exact ⟨rfl, (Below.refl _ _).alloc (Nat.le_refl _) _⟩
  cases h1 : (x.toList == [101, 108, 115, 101])
  case true =>
    simp only [Bool.true_or, Bool.or_true, Bool.false_or, Bool.not_true, Bool.false_and]
    go_enter Tryz.func98, Tryz.ntmps98
    go_wp2
    go_ret
    exact ⟨rfl, (Below.refl _ _).alloc (Nat.le_refl _) _⟩
  cases h2 : (x.toList == [103, 105, 118, 101, 115])
  case true =>
    simp only [Bool.true_or, Bool.or_true, Bool.false_or, Bool.not_true, Bool.false_and]
    go_enter Tryz.func98, Tryz.ntmps98
    go_wp2
    go_ret
    exact ⟨rfl, (Below.refl _ _).alloc (Nat.le_refl _) _⟩
  cases h3 : (x.toList == [104, 105, 103, 104])
  case true =>
    simp only [Bool.true_or, Bool.or_true, Bool.false_or, Bool.not_true, Bool.false_and]
    go_enter Tryz.func98, Tryz.ntmps98
    go_wp2
    go_ret
    exact ⟨rfl, (Below.refl _ _).alloc (Nat.le_refl _) _⟩
  cases h4 : (x.toList == [105, 102])
  case true =>
    simp only [Bool.true_or, Bool.or_true, Bool.false_or, Bool.not_true, Bool.false_and]
    go_enter Tryz.func98, Tryz.ntmps98
    go_wp2
    go_ret
    exact ⟨rfl, (Below.refl _ _).alloc (Nat.le_refl _) _⟩
  cases h5 : (x.toList == [105, 109, 112, 111, 114, 116])
  case true =>
    simp only [Bool.true_or, Bool.or_true, Bool.false_or, Bool.not_true, Bool.false_and]
    go_enter Tryz.func98, Tryz.ntmps98
    go_wp2
    go_ret
    exact ⟨rfl, (Below.refl _ _).alloc (Nat.le_refl _) _⟩
  cases h6 : (x.toList == [105, 110])
  case true =>
    simp only [Bool.true_or, Bool.or_true, Bool.false_or, Bool.not_true, Bool.false_and]
    go_enter Tryz.func98, Tryz.ntmps98
    go_wp2
    go_ret
    exact ⟨rfl, (Below.refl _ _).alloc (Nat.le_refl _) _⟩
  cases h7 : (x.toList == [108, 111, 119])
  case true =>
    simp only [Bool.true_or, Bool.or_true, Bool.false_or, Bool.not_true, Bool.false_and]
    go_enter Tryz.func98, Tryz.ntmps98
    go_wp2
    go_ret
    exact ⟨rfl, (Below.refl _ _).alloc (Nat.le_refl _) _⟩
  cases h8 : (x.toList == [109, 111, 100, 117, 108, 101])
  case true =>
    simp only [Bool.true_or, Bool.or_true, Bool.false_or, Bool.not_true, Bool.false_and]
    go_enter Tryz.func98, Tryz.ntmps98
    go_wp2
    go_ret
    exact ⟨rfl, (Below.refl _ _).alloc (Nat.le_refl _) _⟩
  cases h9 : (x.toList == [111, 117, 116])
  case true =>
    simp only [Bool.true_or, Bool.or_true, Bool.false_or, Bool.not_true, Bool.false_and]
    go_enter Tryz.func98, Tryz.ntmps98
    go_wp2
    go_ret
    exact ⟨rfl, (Below.refl _ _).alloc (Nat.le_refl _) _⟩
  cases h10 : (x.toList == [112, 114, 111, 99])
  case true =>
    simp only [Bool.true_or, Bool.or_true, Bool.false_or, Bool.not_true, Bool.false_and]
    go_enter Tryz.func98, Tryz.ntmps98
    go_wp2
    go_ret
    exact ⟨rfl, (Below.refl _ _).alloc (Nat.le_refl _) _⟩
  cases h11 : (x.toList == [112, 117, 98])
  case true =>
    simp only [Bool.true_or, Bool.or_true, Bool.false_or, Bool.not_true, Bool.false_and]
    go_enter Tryz.func98, Tryz.ntmps98
    go_wp2
    go_ret
    exact ⟨rfl, (Below.refl _ _).alloc (Nat.le_refl _) _⟩
  cases h12 : (x.toList == [114, 101, 116, 117, 114, 110])
  case true =>
    simp only [Bool.true_or, Bool.or_true, Bool.false_or, Bool.not_true, Bool.false_and]
    go_enter Tryz.func98, Tryz.ntmps98
    go_wp2
    go_ret
    exact ⟨rfl, (Below.refl _ _).alloc (Nat.le_refl _) _⟩
  cases h13 : (x.toList == [119, 104, 105, 108, 101])
  case true =>
    simp only [Bool.true_or, Bool.or_true, Bool.false_or, Bool.not_true, Bool.false_and]
    go_enter Tryz.func98, Tryz.ntmps98
    go_wp2
    go_ret
    exact ⟨rfl, (Below.refl _ _).alloc (Nat.le_refl _) _⟩
  simp only [Bool.or_false, Bool.not_false, Bool.true_and]
  go_enter Tryz.func98, Tryz.ntmps98
  go_wp2
  go_ret
  exact ⟨rfl, (Below.refl _ _).alloc (Nat.le_refl _) _⟩
/-- what a call of the program's reader answers: a value, or it gives up -/
def OVal (w : World) (r G : Nat) (ts : List Tok) (v : Value) (s' : St) (e : Ending) (w' : World) : Prop :=
  (s'.bad = true ∧ e = .panicked (Pan ts s') ∧ Fr r w w') ∨ (s'.bad = false ∧ e = .returned v ∧ Ld w' r G ts s' ∧ Fr r w w')
theorem lt_get (hlt : s.i < ts.length) : ts[s.i]? = some ts[s.i] := List.getElem?_eq_getElem hlt
theorem oname (hL : Ld w r G ts s) : Calls Tryz.prog 119 #[.pointer (some ⟨r, 0, none⟩)] w (OVal w r G ts (.string (name ts s).1) (name ts s).2) := by
  have c29 : Tryz.prog.cellsOf 70 = 3 := by kernel_rfl
  have hlen := hL.len
  have hr := hL.lt
  obtain ⟨a, cp, h0, h1, h2⟩ := hL.c0
  unfold name
  by_cases hlt : s.i < ts.length
  · obtain rfl := h2 hlt
    obtain ⟨y0, y1, y2⟩ := hL.tok s.i hlt
    have hn : 0 < ts.length - s.i := by omega
    have hn' : ts.length - s.i ≤ 3000 := by omega
    have hI := fun w => oisName ts[s.i].kind (ts[s.i].at_ : Int) (raw ts[s.i]) w
    have hNR := name_raw (hL.good _ (List.getElem_mem hlt)) hL.ok (lt_get hlt)
    rw [hNR]
    have hX : ownName ts[s.i] = true → txt ts s = raw ts[s.i] := by
      intro h
      unfold ownName at h
      simp only [Bool.and_eq_true, beq_iff_eq] at h
      unfold txt
      rw [here_is hL.ok, lt_get hlt]
      simp only
      rw [h.2, if_neg (by decide)]
      rfl
    have hI2 : ∀ w : World, Calls Tryz.prog 98 #[.agg #[.int .i64 ts[s.i].kind, .string (raw ts[s.i]), .int .i64 (ts[s.i].at_ : Int)]] w fun e w' => e = .returned (.bool (ownName ts[s.i])) ∧ Below w.heap.size w w' := hI
    clear hI hNR
    cases hO : ownName ts[s.i]
    · rw [hO] at hI2
      simp only [Bool.false_eq_true, if_false]
      have hg : ∀ w', Fr r w w' → Ld w' r G ts s → Calls Tryz.prog 155 #[.pointer (some ⟨r, 0, none⟩)] w' fun e w'' => e = .panicked (Pan ts s) ∧ w'' = w' := fun w' _ h => ogiveUp h
      have HL : Hid (Ld w r G ts s) := hL
      clear hX hL
      generalize ts[s.i].kind = tk at *
      generalize raw ts[s.i] = tx at *
      generalize ts[s.i].at_ = ta at *
      generalize ts.length - s.i = n at *
      go_enter Tryz.func119, Tryz.ntmps119
      go_wp2_with (fail)
      refine (hI2 _).mono ?_
      rintro e w1 ⟨rfl, hb1⟩
      have hF1 : Fr r w w1 := Fr.below hb1
      have hL1 : Ld w1 r G ts s := HL.out.below hb1
      go_wp2_with (fail)
      refine (hg _ hF1 hL1).mono ?_
      rintro e w2 ⟨rfl, hw2⟩
      obtain rfl := hw2.symm
      go_wp2
      exact ⟨rfl, .inl ⟨rfl, rfl, hF1⟩⟩
    · rw [hO] at hI2
      simp only [if_true]
      rw [hX hO]
      have hg : ∀ w', Ld w' r G ts s → Calls Tryz.prog 156 #[.pointer (some ⟨r, 0, none⟩)] w' fun e w'' => e = .returned (.string (raw ts[s.i])) ∧ Ld w'' r G ts s.next ∧ Fr r w' w'' := fun w' h => onext h hlt
      have HL : Hid (Ld w r G ts s) := hL
      have hok : s.next.bad = false := hL.ok
      clear hX hL
      generalize ts[s.i].kind = tk at *
      generalize raw ts[s.i] = tx at *
      generalize ts[s.i].at_ = ta at *
      generalize ts.length - s.i = n at *
      go_enter Tryz.func119, Tryz.ntmps119
      go_wp2_with (fail)
      refine (hI2 _).mono ?_
      rintro e w1 ⟨rfl, hb1⟩
      have hF1 : Fr r w w1 := Fr.below hb1
      have hL1 : Ld w1 r G ts s := HL.out.below hb1
      go_wp2_with (fail)
      refine (hg _ hL1).mono ?_
      rintro e w2 ⟨rfl, hL2, hF2⟩
      go_wp2
      go_ret
      exact .inr ⟨hok, rfl, hL2, hF1.trans hF2⟩
  · have hn : ts.length - s.i = 0 := by omega
    rw [hn] at h0
    rw [name_none (List.getElem?_eq_none (by omega))]
    simp only [Bool.false_eq_true, if_false]
    have hg := ogiveUp hL
    go_enter Tryz.func119, Tryz.ntmps119
    go_wp2_with (fail)
    refine hg.mono ?_
    rintro e w2 ⟨rfl, hw2⟩
    obtain rfl := hw2.symm
    go_wp2
    exact ⟨rfl, .inl ⟨rfl, rfl, Fr.refl _ _⟩⟩
end
end syn
namespace syn
open Go.RowKit

theorem hasOps_below {w w' : World} (h : HasOps w) (hb : Below w.heap.size w w') : HasOps w' := by
  obtain ⟨cs, t, fr, h1, h2, h3⟩ := h
  have hlt : 5 < w.heap.size := by
    rcases Nat.lt_or_ge 5 w.heap.size with h | h
    · exact h
    · rw [Array.getElem?_eq_none h] at h1
      simp at h1
  exact ⟨cs, t, fr, by rw [hb.block _ hlt]; exact h1, h2, h3⟩
theorem ops_index (cs : Array Value) (hs : cs.size = 20) (hc : ∀ k, k < 10 → cs[k * 2]? = some (.string (opAt k)) ∧ cs[k * 2 + 1]? = some (.int .i64 (opIs k))) (k : Nat) (hk : k < 10) (w : World) :
    (Instr.index 283 (.agg cs) (.int .i64 (k : Int))).run Tryz.prog w = .ok (.agg #[.string (opAt k), .int .i64 (opIs k)]) w := by
  have c171 : Tryz.prog.cellsOf 282 = 2 := by kernel_rfl
  obtain ⟨h1, h2⟩ := hc k hk
  have he : cs.extract (k * 2) (k * 2 + 2) = #[.string (opAt k), .int .i64 (opIs k)] := by
    apply Array.ext_getElem?
    intro i
    rw [Array.getElem?_extract]
    by_cases hi : i < 2
    · have hm : min (k * 2 + 2) cs.size = k * 2 + 2 := by omega
      rw [if_pos (by omega)]
      rcases (show i = 0 ∨ i = 1 by omega) with rfl | rfl
      · simpa using h1
      · simpa using h2
    · rw [if_neg (by omega)]
      simp
      omega
  simp [Instr.index, go_sem, Tryz.underlying283, hk, he]
theorem ten {k : Nat} (h : k < 10) : k = 0 ∨ k = 1 ∨ k = 2 ∨ k = 3 ∨ k = 4 ∨ k = 5 ∨ k = 6 ∨ k = 7 ∨ k = 8 ∨ k = 9 := by omega
theorem eqS_eq {x y : ByteArray} (h : eqS x y = true) : y = x := by
  unfold eqS at h
  rw [beq_iff_eq, ByteArray.toList_eq, ByteArray.toList_eq] at h
  exact WideShapes.bytes_inj h.symm
theorem eqS_data (x y : ByteArray) : eqS x y = (x.data.toList == y.data.toList) := by unfold eqS; rw [ByteArray.toList_eq, ByteArray.toList_eq]
theorem sign_data (x : ByteArray) : sign x = ((signs.find? fun y => y.1.data.toList == x.data.toList).map (·.2)).getD (0, -1) := by
  unfold sign
  simp only [eqS_data]
/-- the sign at k means k -/
theorem op_hit {x : ByteArray} {k : Nat} (hk : k < 10) (h : eqS (opAt k) x = true) (hs : 0 ≤ (sign x).2) : (k : Int) = (sign x).1 := by
  obtain rfl := eqS_eq h
  rw [sign_data] at hs ⊢
  rcases ten hk with rfl | rfl | rfl | rfl | rfl | rfl | rfl | rfl | rfl | rfl <;> revert hs <;> decide
theorem op_none {x : ByteArray} (h : ∀ j, j < 10 → eqS (opAt j) x = false) : (sign x).2 < 0 := by
  have e : sign x = (0, -1) := by
    refine sign_none x (fun j hj => ?_)
    have hj' : j < 9 := hj
    rcases nine hj' with rfl | rfl | rfl | rfl | rfl | rfl | rfl | rfl | rfl
    · exact h 9 (by omega)
    · exact h 8 (by omega)
    · exact h 1 (by omega)
    · exact h 2 (by omega)
    · exact h 7 (by omega)
    · exact h 3 (by omega)
    · exact h 4 (by omega)
    · exact h 5 (by omega)
    · exact h 6 (by omega)
  rw [e]
  decide
set_option maxHeartbeats 1000000 in
theorem oopOf (x : ByteArray) (w : World) (hO : HasOps w) (hx : 0 ≤ (sign x).2) :
    Calls Tryz.prog 262 #[.string x] w fun e w' => e = .returned (.int .i64 (sign x).1) ∧ Below w.heap.size w w' := by
  have c171 : Tryz.prog.cellsOf 282 = 2 := by kernel_rfl
  have hi : (Tryz.prog.info? 283).map (·.size) = some 20 := by kernel_rfl
  obtain ⟨cs, t, fr, hg, hs, hc⟩ := hO
  have hI := fun k hk w => ops_index cs hs hc k hk w
  clear hc
  rw [← hs] at hi
  have HX : Hid (0 ≤ (sign x).2) := hx
  clear hx
  obtain ⟨V, hV⟩ : ∃ V, V = (sign x).1 := ⟨_, rfl⟩
  rw [← hV]
  have HV : Hid (V = (sign x).1) := hV
  clear hV
  go_enter Tryz.func262, Tryz.ntmps262
  go_wp2_with (refine wpList_load_row rfl 283 _ rfl 5 rfl t cs fr _ hg Tryz.underlying283 rfl hi ?_)
  go_loopw [6] (fun v wr => ∃ k : Nat, k ≤ 10 ∧ v = .int .i64 k ∧ Below w.heap.size w wr ∧ Hid (∀ j, j < k → eqS (opAt j) x = false)) (fun v _ => 10 - (intOf v).toNat)
  case atStart => exact ⟨0, by omega, rfl, Below.refl _ _, fun j hj => by omega⟩
  case round =>
    obtain ⟨k, hk, rfl, hbw, HN⟩ := hrel
    by_cases hlt : k < 10
    · have hI' := hI k hlt wr
      have hkz : (k : Int) < 10 := by omega
      cases he : eqS (opAt k) x
      · have HE : Hid (eqS (opAt k) x = false) := he
        unfold eqS at he
        clear hI
        generalize opAt k = y at hI' he
        generalize opIs k = z at hI'
        go_wp2
        go_roundw
        case rel => exact ⟨k + 1, by omega, by go_num, hbw.alloc hbw.size _, fun j hj => by
          rcases Nat.lt_or_ge j k with h | h
          · exact HN.out j h
          · have : j = k := by omega
            subst this
            exact HE.out⟩
        case measure => simp [intOf]; omega
      · have HE : Hid ((k : Int) = V) := (op_hit hlt he HX.out).trans HV.out.symm
        unfold eqS at he
        clear hI
        generalize opAt k = y at hI' he
        generalize opIs k = z at hI'
        go_wp2
        go_ret
        exact ⟨by rw [← HE.out]; rfl, hbw.alloc hbw.size _⟩
    · have := op_none (x := x) (fun j hj => HN.out j (by omega))
      have := HX.out
      omega
end syn
namespace syn
open Go.RowKit
open Go.Proofs.YtoobkaebahogdaaGreatDoor.lexs (Tok Fine)

section
variable {w w' : World} {r G : Nat} {ts : List Tok} {s : St}
theorem Words.one (w : World) (x : ByteArray) (T : TypeId) {M : Nat} (hM : M = w.heap.size) : Words (w.alloc (.cells #[.string x] T)) M [x] := by
  subst hM
  intro k hk
  obtain rfl : k = 0 := by simpa using hk
  simp
theorem Words.two (w : World) (x y : ByteArray) (T : TypeId) {M : Nat} (hM : M = w.heap.size) : Words (w.alloc (.cells #[.string x, .string y] T)) M [x, y] := by
  subst hM
  intro k hk
  have : k = 0 ∨ k = 1 := by simp at hk; omega
  rcases this with rfl | rfl <;> simp
theorem has_one {x : ByteArray} {b : Bool} (h : eqS (txt ts s) x = b) : hasW ts s [x] = b := by unfold hasW; simp [h]
/-- one word asked for, laid in a new row -/
theorem skip_yes (hL : Ld w r G ts s) (x : ByteArray) (hx : [x].all wordy = true) (h : eqS (txt ts s) x = true) {M : Nat} {T : TypeId} (hM : M = w.heap.size) :
    Calls Tryz.prog 120 #[.pointer (some ⟨r, 0, none⟩), .slice (some ⟨M, 0, none⟩) 1 1] (w.alloc (.cells #[.string x] T)) fun e w' => e = .returned (.bool true) ∧ Ld w' r G ts s.next ∧ Fr r w w' :=
  (oskip_yes (hL.alloc _) [x] M 1 (by simp) hx (Words.one w x T hM) (has_one h)).mono fun e w' ⟨h1, h2, h3⟩ => ⟨h1, h2, (Fr.al _ _).trans h3⟩
theorem skip_no (hL : Ld w r G ts s) (x : ByteArray) (hx : [x].all wordy = true) (h : eqS (txt ts s) x = false) {M : Nat} {T : TypeId} (hM : M = w.heap.size) :
    Calls Tryz.prog 120 #[.pointer (some ⟨r, 0, none⟩), .slice (some ⟨M, 0, none⟩) 1 1] (w.alloc (.cells #[.string x] T)) fun e w' => e = .returned (.bool false) ∧ Ld w' r G ts s ∧ Fr r w w' :=
  (oskip_no (hL.alloc _) [x] M 1 (by simp) hx (Words.one w x T hM) (has_one h)).mono fun e w' ⟨h1, h2⟩ => ⟨h1, by rw [h2]; exact hL.alloc _, by rw [h2]; exact Fr.al _ _⟩
theorem must_next {x : ByteArray} (h : eqS (txt ts s) x = true) : must ts x s = s.next := by unfold must; rw [h, if_pos rfl]
theorem must_fail {x : ByteArray} (h : eqS (txt ts s) x = false) : must ts x s = s.fail := by unfold must; rw [h, if_neg (by decide)]
/-- a word that must stand here -/
theorem take_must (hL : Ld w r G ts s) (x : ByteArray) (hx : [x].all wordy = true) {M : Nat} {T : TypeId} (hM : M = w.heap.size) :
    Calls Tryz.prog 118 #[.pointer (some ⟨r, 0, none⟩), .slice (some ⟨M, 0, none⟩) 1 1] (w.alloc (.cells #[.string x] T)) fun e w' => ∃ y, OVal w r G ts (.string y) (must ts x s) e w' := by
  cases h : eqS (txt ts s) x
  · rw [must_fail h]
    refine (otake_no (hL.alloc _) [x] M 1 (by simp) hx (Words.one w x T hM) (has_one h)).mono ?_
    rintro e w' ⟨rfl, rfl⟩
    exact ⟨empty, .inl ⟨rfl, rfl, Fr.al _ _⟩⟩
  · rw [must_next h]
    refine (otake_yes (hL.alloc _) [x] M 1 (by simp) hx (Words.one w x T hM) (has_one h)).mono ?_
    rintro e w' ⟨rfl, h2, h3⟩
    exact ⟨_, .inr ⟨hL.ok, rfl, h2, (Fr.al _ _).trans h3⟩⟩
theorem olabel (hL : Ld w r G ts s) : Calls Tryz.prog 158 #[.pointer (some ⟨r, 0, none⟩)] w (OVal w r G ts (.int .i64 (label ts s).1) (label ts s).2) := by
  have hW : ([⟨#[108, 111, 119]⟩, ⟨#[104, 105, 103, 104]⟩] : List ByteArray).all wordy = true := by decide
  unfold label
  cases hh : eqS (txt ts s) ⟨#[104, 105, 103, 104]⟩
  · simp only [Bool.false_eq_true, if_false]
    cases hl : eqS (txt ts s) ⟨#[108, 111, 119]⟩
    · rw [must_fail hl]
      have hT := fun M (hM : M = w.heap.size) => otake_no (hL.alloc (.cells #[.string ⟨#[108, 111, 119]⟩, .string ⟨#[104, 105, 103, 104]⟩] 9)) [⟨#[108, 111, 119]⟩, ⟨#[104, 105, 103, 104]⟩] M 2 (by simp) hW (Words.two w _ _ _ hM) (by unfold hasW; simp [hh, hl])
      go_enter Tryz.func158, Tryz.ntmps158
      go_wp2_with (fail)
      refine (hT _ rfl).mono ?_
      rintro e w2 ⟨rfl, hw2⟩
      obtain rfl := hw2.symm
      go_wp2
      exact ⟨rfl, .inl ⟨rfl, rfl, Fr.al _ _⟩⟩
    · rw [must_next hl]
      have hx : hasW ts s [⟨#[108, 111, 119]⟩, ⟨#[104, 105, 103, 104]⟩] = true := by unfold hasW; simp [hl]
      have hT := fun M (hM : M = w.heap.size) => otake_yes (hL.alloc (.cells #[.string ⟨#[108, 111, 119]⟩, .string ⟨#[104, 105, 103, 104]⟩] 9)) [⟨#[108, 111, 119]⟩, ⟨#[104, 105, 103, 104]⟩] M 2 (by simp) hW (Words.two w _ _ _ hM) hx
      have hlt := hasW_lt hW hx
      have hraw : ((raw (ts[s.i]'hlt)).toList == [104, 105, 103, 104]) = false := by
        rw [← eqS_lit, ← eq_raw (hL.good _ (List.getElem_mem hlt)) hL.ok (lt_get hlt) (by decide)]
        exact hh
      have hok : s.next.bad = false := hL.ok
      generalize raw (ts[s.i]'hlt) = y at *
      go_enter Tryz.func158, Tryz.ntmps158
      go_wp2_with (fail)
      refine (hT _ rfl).mono ?_
      rintro e w2 ⟨rfl, hL2, hF2⟩
      go_wp2
      go_ret
      exact .inr ⟨hok, rfl, hL2, (Fr.al _ _).trans hF2⟩
  · simp only [if_true]
    have hx : hasW ts s [⟨#[108, 111, 119]⟩, ⟨#[104, 105, 103, 104]⟩] = true := by unfold hasW; simp [hh]
    have hT := fun M (hM : M = w.heap.size) => otake_yes (hL.alloc (.cells #[.string ⟨#[108, 111, 119]⟩, .string ⟨#[104, 105, 103, 104]⟩] 9)) [⟨#[108, 111, 119]⟩, ⟨#[104, 105, 103, 104]⟩] M 2 (by simp) hW (Words.two w _ _ _ hM) hx
    have hlt := hasW_lt hW hx
    have hraw : ((raw (ts[s.i]'hlt)).toList == [104, 105, 103, 104]) = true := by
      rw [← eqS_lit, ← eq_raw (hL.good _ (List.getElem_mem hlt)) hL.ok (lt_get hlt) (by decide)]
      exact hh
    have hok : s.next.bad = false := hL.ok
    generalize raw (ts[s.i]'hlt) = y at *
    go_enter Tryz.func158, Tryz.ntmps158
    go_wp2_with (fail)
    refine (hT _ rfl).mono ?_
    rintro e w2 ⟨rfl, hL2, hF2⟩
    go_wp2
    go_ret
    exact .inr ⟨hok, rfl, hL2, (Fr.al _ _).trans hF2⟩
theorem olongName (hL : Ld w r G ts s) : Calls Tryz.prog 231 #[.pointer (some ⟨r, 0, none⟩)] w (OVal w r G ts (.string (whole ts s).1) (whole ts s).2) := by
  have hN := oname hL
  have hst : (name ts s).2.bad = true → (whole ts s).2 = (name ts s).2 := by
    intro h
    unfold whole
    dsimp only
    rw [eat_st (by decide) h]
    simp
  by_cases hb : (name ts s).2.bad = true
  · rw [hst hb]
    go_enter Tryz.func231, Tryz.ntmps231
    go_wp2_with (fail)
    refine hN.mono ?_
    rintro e w1 (⟨_, rfl, hF1⟩ | ⟨h, _, _, _⟩)
    · go_wp2
      exact ⟨rfl, .inl ⟨hb, rfl, hF1⟩⟩
    · rw [hb] at h
      cases h
  · have hb' : (name ts s).2.bad = false := by simpa using hb
    clear hst hb
    have hx := name_size ts s
    unfold whole
    generalize name ts s = q at hN hx hb' ⊢
    obtain ⟨x, s1⟩ := q
    simp only at hN hx hb' ⊢
    unfold eat
    cases he : eqS (txt ts s1) ⟨#[46]⟩
    · simp only [Bool.false_eq_true, if_false]
      go_enter Tryz.func231, Tryz.ntmps231
      go_wp2_with (fail)
      refine hN.mono ?_
      rintro e w1 (⟨h, _, _⟩ | ⟨_, rfl, hL1, hF1⟩)
      · rw [hb'] at h
        cases h
      go_wp2_with (fail)
      refine (skip_no hL1 ⟨#[46]⟩ (by decide) he rfl).mono ?_
      rintro e w2 ⟨rfl, hL2, hF2⟩
      go_wp2
      go_ret
      exact .inr ⟨hb', rfl, hL2, hF1.trans hF2⟩
    · simp only [if_true]
      have hy := name_size ts s1.next
      have hM : ∀ {w : World}, Ld w r G ts s1.next → Calls Tryz.prog 119 #[.pointer (some ⟨r, 0, none⟩)] w (OVal w r G ts (.string (name ts s1.next).1) (name ts s1.next).2) := fun h => oname h
      generalize name ts s1.next = q at hM hy ⊢
      obtain ⟨y, s2⟩ := q
      simp only at hM hy ⊢
      go_enter Tryz.func231, Tryz.ntmps231
      go_wp2_with (fail)
      refine hN.mono ?_
      rintro e w1 (⟨h, _, _⟩ | ⟨_, rfl, hL1, hF1⟩)
      · rw [hb'] at h
        cases h
      go_wp2_with (fail)
      refine (skip_yes hL1 ⟨#[46]⟩ (by decide) he rfl).mono ?_
      rintro e w2 ⟨rfl, hL2, hF2⟩
      go_wp2_with (fail)
      refine (hM hL2).mono ?_
      rintro e w3 (⟨h3, rfl, hF3⟩ | ⟨h3, rfl, hL3, hF3⟩)
      · go_wp2
        exact ⟨rfl, .inl ⟨h3, rfl, (hF1.trans hF2).trans hF3⟩⟩
      · go_wp2
        go_ret
        refine .inr ⟨h3, ret_str ?_, hL3, (hF1.trans hF2).trans hF3⟩
        apply WideShapes.bytes_inj
        simp
end
end syn
namespace syn
open Go.RowKit
open Go.Proofs.YtoobkaebahogdaaGreatDoor.lexs (Tok Fine val numE digB)

/-- what a call of the program's reader answers: a node, in new memory, or it gives up -/
def OAns (w : World) (r G : Nat) (ts : List Tok) (q : Tree × St) (e : Ending) (w' : World) : Prop :=
  (q.2.bad = true ∧ e = .panicked (Pan ts q.2) ∧ Fr r w w') ∨ (q.2.bad = false ∧ ∃ v, e = .returned v ∧ Lies (fun b => w.heap.size ≤ b ∧ b < w'.heap.size) w' q.1 v ∧ Ld w' r G ts q.2 ∧ Fr r w w')
section
variable {w w' : World} {r G : Nat} {ts : List Tok} {s : St}
theorem OVal.lost {v : Value} {s' s1 : St} (hq : s' = s1) (hb : s1.bad = true) (hF : Fr r w w') : OVal w r G ts v s' (.panicked (Pan ts s1)) w' := .inl ⟨by rw [hq]; exact hb, by rw [hq], hF⟩
theorem OAns.lost {q : Tree × St} {s1 : St} (hq : q.2 = s1) (hb : s1.bad = true) (hF : Fr r w w') : OAns w r G ts q (.panicked (Pan ts s1)) w' := .inl ⟨by rw [hq]; exact hb, by rw [hq], hF⟩
theorem Ld.put4 (h : Ld w r G ts s) {N : Nat} (hN : r < N) (x0 x1 x2 x3 : Value) : Ld ((((w.setCell ⟨N, 0, none⟩ x0).setCell ⟨N, 1, none⟩ x1).setCell ⟨N, 2, none⟩ x2).setCell ⟨N, 3, none⟩ x3) r G ts s :=
  (((h.set hN 0 x0).set hN 1 x1).set hN 2 x2).set hN 3 x3
/-- the end: the node is put into the box that was laid first -/
theorem OAns.fin {w3 : World} {s3 : St} {t : Tree} {x0 x1 x2 x3 : Value} {B N : Nat} (hr : r < w.heap.size) (hF : Fr r w w3) (hL3 : Ld w3 r G ts s3) (hN : w.heap.size ≤ N) (hB : N < B) (hL : Lies (fun b => B ≤ b ∧ b < w3.heap.size) w3 t (.agg #[x0, x1, x2, x3])) :
    OAns w r G ts (t, s3) (.returned (.agg #[x0, x1, x2, x3])) ((((w3.setCell ⟨N, 0, none⟩ x0).setCell ⟨N, 1, none⟩ x1).setCell ⟨N, 2, none⟩ x2).setCell ⟨N, 3, none⟩ x3) :=
  .inr ⟨hL3.ok, _, rfl, (hL.fr hB (Fr.put _ _ _ _ _ _)).low (by omega), hL3.put4 (by omega) _ _ _ _, hF.put4 hN _ _ _ _⟩
/-- a node over one, whose row is laid now -/
theorem Lies.rowed {W : World} {B : Nat} {t : Tree} {y0 y1 y2 y3 : Value} {T : TypeId} {M c : Nat} {k m : Int} {x : ByteArray} (h : Lies (fun b => B ≤ b ∧ b < W.heap.size) W t (.agg #[y0, y1, y2, y3])) (hB : B ≤ W.heap.size) (hM : M = W.heap.size) (hc : 1 ≤ c := by omega) :
    Lies (fun b => B ≤ b ∧ b < (W.alloc (.cells #[y0, y1, y2, y3] T)).heap.size) (W.alloc (.cells #[y0, y1, y2, y3] T)) (.node k x m [t]) (.agg #[.int .i64 k, .string x, .int .i64 m, .slice (some ⟨M, 0, none⟩) 1 c]) := by
  refine Lies.one ⟨by omega, by rw [World.size_alloc]; omega⟩ (cell4_new _ hM) ?_
  exact h.to (fun b hb => ⟨hb.1, by rw [World.size_alloc]; omega⟩) (fun b hb o => ((Below.refl W.heap.size W).alloc (Nat.le_refl _) _).cell (p := ⟨b, o, none⟩) hb.2)
/-- ended: the node that came in, behind a ';' -/
theorem oended (hL : Ld w r G ts s) (k m : Int) (x : ByteArray) (a : Option Addr) (n c : Nat) :
    Calls Tryz.prog 121 #[.pointer (some ⟨r, 0, none⟩), .agg #[.int .i64 k, .string x, .int .i64 m, .slice a n c]] w (OVal w r G ts (.agg #[.int .i64 k, .string x, .int .i64 m, .slice a n c]) (must ts ⟨#[59]⟩ s)) := by
  have c24 : Tryz.prog.cellsOf 24 = 4 := by kernel_rfl
  have hr := hL.lt
  have hB1 := Box4.new w (.int .i64 k) (.string x) (.int .i64 m) (.slice a n c) 24
  have hB2 := Box4.new (w.alloc (.cells #[.int .i64 k, .string x, .int .i64 m, .slice a n c] 24)) (.int .i64 0) (.string empty) (.int .i64 0) (.slice none 0 0) 24
  have hB1' := hB1.alloc (.cells #[.int .i64 0, .string empty, .int .i64 0, .slice none 0 0] 24)
  go_enter Tryz.func121, Tryz.ntmps121
  go_wp2_with (fail)
  refine (take_must ((hL.alloc _).alloc _) ⟨#[59]⟩ (by decide) (by simp)).mono ?_
  rintro e w1 ⟨y, ⟨hb, rfl, hF⟩ | ⟨hb, rfl, hL1, hF⟩⟩
  · go_wp2
    exact ⟨rfl, OVal.lost rfl hb (((Fr.al _ _).trans (Fr.al _ _)).trans hF)⟩
  · obtain ⟨q0, q1', q2, q3, t0, t1, t2, t3⟩ := hB2.fr hF (by simp <;> omega)
    obtain ⟨p0, p1, p2, p3, _, _, _, _⟩ := hB1'.fr hF (by omega)
    simp only [World.size_alloc] at q0 q1' q2 q3 t0 t1 t2 t3
    have hz := hF.size
    simp only [World.size_alloc] at hz
    go_wp2
    exact bodyPost_ret (v := .agg #[.int .i64 k, .string x, .int .i64 m, .slice a n c]) (by simp [results, Tryz.results121, go_sem, q0, q1', q2, q3]) rfl
      (.inr ⟨hb, rfl, hL1.put4 (by omega) _ _ _ _, (((Fr.al _ _).trans (Fr.al _ _)).trans hF).put4 (by omega) _ _ _ _⟩)
theorem oparam (hL : Ld w r G ts s) :
    Calls Tryz.prog 188 #[.pointer (some ⟨r, 0, none⟩)] w (OAns w r G ts (.node 5 (name ts (label ts s).2).1 (label ts s).1 [], (name ts (label ts s).2).2)) := by
  have c24 : Tryz.prog.cellsOf 24 = 4 := by kernel_rfl
  have hr := hL.lt
  have hB0 := Box4.new w (.int .i64 0) (.string empty) (.int .i64 0) (.slice none 0 0) 24
  go_enter Tryz.func188, Tryz.ntmps188
  go_wp2_with (fail)
  refine (olabel (hL.alloc _)).mono ?_
  rintro e w1 (⟨hb, rfl, hF1⟩ | ⟨hb, rfl, hL1, hF1⟩)
  · go_wp2
    exact ⟨rfl, OAns.lost (name_st hb) hb ((Fr.al _ _).trans hF1)⟩
  go_wp2_with (fail)
  refine (oname hL1).mono ?_
  rintro e w2 (⟨hb2, rfl, hF2⟩ | ⟨hb2, rfl, hL2, hF2⟩)
  · go_wp2
    exact ⟨rfl, OAns.lost rfl hb2 (((Fr.al _ _).trans hF1).trans hF2)⟩
  obtain ⟨q0, q1', q2, q3, t0, t1, t2, t3⟩ := (hB0.fr hF1 (by omega)).fr hF2 (by omega)
  go_wp2
  exact bodyPost_ret (v := .agg #[.int .i64 5, .string (name ts (label ts s).2).1, .int .i64 (label ts s).1, .slice none 0 0]) (by simp [results, Tryz.results188, go_sem, q0, q1', q2, q3]) rfl
    (OAns.fin hr (((Fr.al _ _).trans hF1).trans hF2) hL2 (Nat.le_refl _) (Nat.lt_succ_self _) (Lies.leaf _ _ _ _ _))
theorem fine_num {l : List UInt8} (h : numE l = 0) (h0 : l ≠ []) : l.all digB = true ∧ val l < 9223372036854775808 ∧ l.length ≤ 3000 := by
  have hd := num_digits h
  have hz : (decide (1 < l.length) && l.headD 0 == 48) = false := by
    cases hz : (decide (1 < l.length) && l.headD 0 == 48)
    · rfl
    · unfold numE at h
      rw [hd, hz] at h
      simp at h
  have hv := lexs.numE_val l hd h0 hz
  rw [h] at hv
  refine ⟨hd, ?_, ?_⟩
  · rcases Nat.lt_or_ge (val l) 9223372036854775808 with h1 | h1
    · exact h1
    · rw [if_neg (by omega)] at hv; simp at hv
  · unfold numE at h
    rw [hd, hz] at h
    simp only [Bool.true_eq_false, Bool.false_eq_true, if_false] at h
    rcases Nat.lt_or_ge 19 l.length with h1 | h1
    · rw [decide_eq_true h1] at h; simp at h
    · omega
theorem onumber (hL : Ld w r G ts s) :
    Calls Tryz.prog 159 #[.pointer (some ⟨r, 0, none⟩)] w (OAns w r G ts (number ts s)) := by
  have c29 : Tryz.prog.cellsOf 70 = 3 := by kernel_rfl
  have c24 : Tryz.prog.cellsOf 24 = 4 := by kernel_rfl
  have hlen := hL.len
  have hr := hL.lt
  have hB0 := Box4.new w (.int .i64 0) (.string empty) (.int .i64 0) (.slice none 0 0) 24
  have hL0 := hL.alloc (.cells #[.int .i64 0, .string empty, .int .i64 0, .slice none 0 0] 24)
  obtain ⟨a, cp, h0, h1, h2⟩ := hL.c0
  unfold number
  rw [here_is hL.ok]
  by_cases hlt : s.i < ts.length
  · obtain rfl := h2 hlt
    rw [lt_get hlt]
    obtain ⟨y0, y1, y2⟩ := hL.tok s.i hlt
    have hG := hL.gt (by omega)
    have hn : 0 < ts.length - s.i := by omega
    have hn' : ts.length - s.i ≤ 3000 := by omega
    simp only
    cases hk : (ts[s.i].kind == 2)
    · simp only [Bool.false_eq_true, if_false]
      have hk' : (ts[s.i].kind != 2) = true := by simp only [bne, hk, Bool.not_false]
      have hg := ogiveUp hL0
      generalize ts[s.i].kind = tk at *
      generalize ts.length - s.i = n at *
      go_enter Tryz.func159, Tryz.ntmps159
      go_wp2_with (fail)
      refine hg.mono ?_
      rintro e w2 ⟨rfl, hw2⟩
      obtain rfl := hw2.symm
      go_wp2
      exact ⟨rfl, .inl ⟨rfl, rfl, Fr.al _ _⟩⟩
    · simp only [if_true]
      have hk' : (ts[s.i].kind != 2) = false := by simp only [bne, hk, Bool.not_true]
      have hfine := hL.good _ (List.getElem_mem hlt)
      obtain ⟨hd, hv, hl⟩ := fine_num (hfine.num (by simpa using hk)) hfine.ne
      have hN := onext hL0 hlt
      have hP := fun w => lexs.parse_ok (raw ts[s.i]) (by rw [raw_size]; exact hl) (by rw [raw_list]; exact hd) (by rw [raw_list]; exact hfine.ne) (by rw [raw_list]; exact hv) w
      rw [raw_list] at hP
      generalize ts[s.i].kind = tk at *
      generalize ts.length - s.i = n at *
      generalize raw ts[s.i] = x at *
      generalize val ts[s.i].text = m at *
      go_enter Tryz.func159, Tryz.ntmps159
      go_wp2_with (fail)
      refine hN.mono ?_
      rintro e w1 ⟨rfl, hL1, hF1⟩
      go_wp2_with (fail)
      refine (hP _).mono ?_
      rintro e w2 ⟨rfl, hb2⟩
      have hF2 : Fr r w1 w2 := Fr.below hb2
      obtain ⟨q0, q1', q2, q3, t0, t1, t2, t3⟩ := (hB0.fr hF1 (by omega)).fr hF2 (by omega)
      go_wp2
      exact bodyPost_ret (v := .agg #[.int .i64 15, .string empty, .int .i64 m, .slice none 0 0]) (by simp [results, Tryz.results159, go_sem, q0, q1', q2, q3, empty]) rfl
        (OAns.fin hr (((Fr.al _ _).trans hF1).trans hF2) (hL1.below hb2) (Nat.le_refl _) (Nat.lt_succ_self _) (Lies.leaf _ _ _ _ _))
  · rw [List.getElem?_eq_none (by omega)]
    have hn : ts.length - s.i = 0 := by omega
    rw [hn] at h0
    have hg := ogiveUp hL0
    go_enter Tryz.func159, Tryz.ntmps159
    go_wp2_with (fail)
    refine hg.mono ?_
    rintro e w2 ⟨rfl, hw2⟩
    obtain rfl := hw2.symm
    go_wp2
    exact ⟨rfl, .inl ⟨rfl, rfl, Fr.al _ _⟩⟩
end
end syn
namespace syn
open Go.RowKit
open Go.Proofs.YtoobkaebahogdaaGreatDoor.lexs (Tok Fine)

section
variable {w w' : World} {r G : Nat} {ts : List Tok} {s : St}
/-- what function F of the program's answers, by a plain function -/
def Gives (r G : Nat) (ts : List Tok) (F : Nat) (g : St → Option (Tree × St)) : Prop :=
  ∀ {w : World} {s : St} {q : Tree × St}, Ld w r G ts s → g s = some q → Calls Tryz.prog F #[.pointer (some ⟨r, 0, none⟩)] w (OAns w r G ts q)
set_option maxHeartbeats 1000000 in
theorem oenclosed {f : Nat} (ih : Gives r G ts 235 (exprF ts f)) : Gives r G ts 234 (askedF ts (f + 1)) := by
  intro w s q hL hq
  have c24 : Tryz.prog.cellsOf 24 = 4 := by kernel_rfl
  have hr := hL.lt
  have hB0 := Box4.new w (.int .i64 0) (.string empty) (.int .i64 0) (.slice none 0 0) 24
  unfold askedF at hq
  obtain ⟨q1, h1, h2⟩ := bind_some_is hq
  simp only [Option.some.injEq] at h2
  subst h2
  have hT := take_must (T := 9) (hL.alloc (.cells #[.int .i64 0, .string empty, .int .i64 0, .slice none 0 0] 24)) ⟨#[40]⟩ (by decide) (M := w.heap.size + 1) (by simp)
  have hst : Hid ((must ts ⟨#[40]⟩ s).bad = true → must ts ⟨#[41]⟩ q1.2 = must ts ⟨#[40]⟩ s) := fun hb => by
    rw [(stuck ts f).e _ _ hb h1]
    exact must_st (by decide) hb
  generalize must ts ⟨#[40]⟩ s = s1 at *
  go_enter Tryz.func234, Tryz.ntmps234
  go_wp2_with (fail)
  refine hT.mono ?_
  rintro e w1 ⟨y, ⟨hb, rfl, hF1⟩ | ⟨hb, rfl, hL1, hF1⟩⟩
  · go_wp2
    exact ⟨rfl, OAns.lost (hst.out hb) hb ((Fr.al _ _).trans hF1)⟩
  go_wp2_with (fail)
  refine (ih hL1 h1).mono ?_
  rintro e w2 (⟨hb2, rfl, hF2⟩ | ⟨hb2, v2, rfl, hl2, hL2, hF2⟩)
  · go_wp2
    exact ⟨rfl, OAns.lost (must_st (by decide) hb2) hb2 (((Fr.al _ _).trans hF1).trans hF2)⟩
  obtain ⟨k, x, m, _, rfl, a, n, c, rfl⟩ := hl2.shape
  go_wp2_with (fail)
  refine (take_must (hL2.alloc _) ⟨#[41]⟩ (by decide) (by simp)).mono ?_
  rintro e w3 ⟨y3, ⟨hb3, rfl, hF3⟩ | ⟨hb3, rfl, hL3, hF3⟩⟩
  · go_wp2
    exact ⟨rfl, OAns.lost rfl hb3 ((((Fr.al _ _).trans hF1).trans hF2).trans ((Fr.al _ _).trans hF3))⟩
  have z1 := hF1.size
  have z2 := hF2.size
  rw [World.size_alloc] at z1
  obtain ⟨q0, q1', q2, q3, t0, t1, t2, t3⟩ := (((hB0.fr hF1 (by omega)).fr hF2 (by omega)).alloc _).fr hF3 (by omega)
  obtain ⟨p0, p1, p2, p3, _, _, _, _⟩ := (Box4.new w2 (.int .i64 k) (.string x) (.int .i64 m) (.slice a n c) 24).fr hF3 (by omega)
  go_wp2
  exact bodyPost_ret (v := .agg #[.int .i64 k, .string x, .int .i64 m, .slice a n c]) (by simp [results, Tryz.results234, go_sem, q0, q1', q2, q3]) rfl
    (OAns.fin hr ((((Fr.al _ _).trans hF1).trans hF2).trans ((Fr.al _ _).trans hF3)) hL3 (Nat.le_refl _) (show w.heap.size < w1.heap.size by omega) (hl2.fr (by omega) ((Fr.al _ _).trans hF3)))
set_option maxHeartbeats 1000000 in
theorem oplace {f : Nat} (ih : Gives r G ts 235 (exprF ts f)) (x : ByteArray) {w : World} {s : St} {q : Tree × St} (hL : Ld w r G ts s) (hq : placeF ts (f + 1) x s = some q) :
    Calls Tryz.prog 236 #[.pointer (some ⟨r, 0, none⟩), .string x] w (OAns w r G ts q) := by
  have c24 : Tryz.prog.cellsOf 24 = 4 := by kernel_rfl
  have hr := hL.lt
  have hB0 := Box4.new w (.int .i64 0) (.string empty) (.int .i64 0) (.slice none 0 0) 24
  have hL0 := hL.alloc (.cells #[.int .i64 0, .string empty, .int .i64 0, .slice none 0 0] 24)
  unfold placeF at hq
  cases he : eqS (txt ts s) ⟨#[91]⟩
  · rw [he] at hq
    simp only [Bool.false_eq_true, if_false, Option.some.injEq] at hq
    subst hq
    have hE := skip_no (T := 9) hL0 ⟨#[91]⟩ (by decide) he (M := w.heap.size + 1) (by simp)
    clear he
    go_enter Tryz.func236, Tryz.ntmps236
    go_wp2_with (fail)
    refine hE.mono ?_
    rintro e w1 ⟨rfl, hL1, hF1⟩
    obtain ⟨q0, q1', q2, q3, t0, t1, t2, t3⟩ := hB0.fr hF1 (by omega)
    go_wp2
    exact bodyPost_ret (v := .agg #[.int .i64 16, .string x, .int .i64 0, .slice none 0 0]) (by simp [results, Tryz.results236, go_sem, q0, q1', q2, q3]) rfl
      (OAns.fin hr ((Fr.al _ _).trans hF1) hL1 (Nat.le_refl _) (Nat.lt_succ_self _) (Lies.leaf _ _ _ _ _))
  · rw [he] at hq
    simp only [if_true] at hq
    obtain ⟨q1, h1, h2⟩ := bind_some_is hq
    simp only [Option.some.injEq] at h2
    subst h2
    have hE := skip_yes (T := 9) hL0 ⟨#[91]⟩ (by decide) he (M := w.heap.size + 1) (by simp)
    clear he
    go_enter Tryz.func236, Tryz.ntmps236
    go_wp2_with (fail)
    refine hE.mono ?_
    rintro e w1 ⟨rfl, hL1, hF1⟩
    go_wp2_with (fail)
    refine (ih hL1 h1).mono ?_
    rintro e w2 (⟨hb2, rfl, hF2⟩ | ⟨hb2, v2, rfl, hl2, hL2, hF2⟩)
    · go_wp2
      exact ⟨rfl, OAns.lost (must_st (by decide) hb2) hb2 (((Fr.al _ _).trans hF1).trans hF2)⟩
    obtain ⟨k, y, m, _, rfl, a, n, c, rfl⟩ := hl2.shape
    have hrow := hl2.rowed (T := 24) (k := 17) (x := x) (m := 0) (c := 1) hF2.size rfl
    go_wp2_with (fail)
    refine (take_must ((hL2.alloc _).alloc _) ⟨#[93]⟩ (by decide) (by simp)).mono ?_
    rintro e w3 ⟨y3, ⟨hb3, rfl, hF3⟩ | ⟨hb3, rfl, hL3, hF3⟩⟩
    · go_wp2
      exact ⟨rfl, OAns.lost rfl hb3 ((((Fr.al _ _).trans hF1).trans hF2).trans (((Fr.al _ _).trans (Fr.al _ _)).trans hF3))⟩
    have z1 := hF1.size
    have z2 := hF2.size
    rw [World.size_alloc] at z1
    obtain ⟨q0, q1', q2, q3, t0, t1, t2, t3⟩ := ((((hB0.fr hF1 (by omega)).fr hF2 (by omega)).alloc _).alloc _).fr hF3 (by omega)
    obtain ⟨p0, p1, p2, p3, _, _, _, _⟩ := (Box4.new (w2.alloc (.cells #[.int .i64 k, .string y, .int .i64 m, .slice a n c] 24)) (.int .i64 17) (.string x) (.int .i64 0) (.slice (some ⟨w2.heap.size, 0, none⟩) 1 1) 24).fr hF3 (by simp <;> omega)
    simp only [World.size_alloc] at p0 p1 p2 p3
    go_wp2
    exact bodyPost_ret (v := .agg #[.int .i64 17, .string x, .int .i64 0, .slice (some ⟨w2.heap.size, 0, none⟩) 1 1]) (by simp [results, Tryz.results236, go_sem, q0, q1', q2, q3]) rfl
      (OAns.fin hr ((((Fr.al _ _).trans hF1).trans hF2).trans (((Fr.al _ _).trans (Fr.al _ _)).trans hF3)) hL3 (Nat.le_refl _) (show w.heap.size < w1.heap.size by omega) (hrow.fr (by omega) ((Fr.al _ _).trans hF3)))
end
end syn
end Go.Proofs.YtoobkaebahogdaaGreatDoor
