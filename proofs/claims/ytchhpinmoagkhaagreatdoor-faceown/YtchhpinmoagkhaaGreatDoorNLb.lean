/- What the reference's Letter, Digit, Inside, numeral and sign answer: contracts. What the reference's sign answers: a contract. -/
import Derived.Test.YtchhpinmoagkhaaGreatDoorProg
import Derived.WalkKit
import Derived.WalkLawsBesides
import Derived.Outline
import Derived.Test.YtchhpinmoagkhaaGreatDoorNLa
import Derived.BigQuiet
import Derived.WalkSmall
import Derived.Lib.Strings
import Derived.Deep.QuietTactic
namespace Go.Proofs.YtchhpinmoagkhaaGreatDoor.lexs
open Go.RowKit
set_option linter.unusedVariables false

theorem ret_bool {x y : Bool} (h : x = y) : Ending.returned (.bool x) = .returned (.bool y) := by rw [h]
theorem ret_i64 {x y : Int} (h : x = y) : Ending.returned (.int .i64 x) = .returned (.int .i64 y) := by rw [h]
theorem rletter (c : Int) (w : World) :
    Calls Tryz.prog 52 #[.int .u8 c] w fun e w' => e = .returned (.bool (ltrI c)) ∧ w' = w := by
  go_enter Tryz.func52, Tryz.ntmps52
  go_wp2
  all_goals
    go_ret
    exact ⟨ret_bool (by rw [Bool.eq_iff_iff]; simp [ltrI] <;> omega), rfl⟩
theorem rdigit (c : Int) (w : World) :
    Calls Tryz.prog 53 #[.int .u8 c] w fun e w' => e = .returned (.bool (digI c)) ∧ w' = w := by
  go_enter Tryz.func53, Tryz.ntmps53
  go_wp2
  all_goals
    go_ret
    exact ⟨ret_bool (by rw [Bool.eq_iff_iff]; simp [digI] <;> omega), rfl⟩
theorem rinside (c : Int) (w : World) :
    Calls Tryz.prog 51 #[.int .u8 c] w fun e w' => e = .returned (.bool (insI c)) ∧ w' = w := by
  cases h1 : ltrI c <;> cases h2 : digI c
  all_goals
    go_enter Tryz.func51, Tryz.ntmps51
    go_wp2_with (first | (go_at_call 52; refine (rletter _ _).mono ?_; rintro e w' ⟨rfl, rfl⟩) | (go_at_call 53; refine (rdigit _ _).mono ?_; rintro e w' ⟨rfl, rfl⟩))
    go_ret
    exact ⟨ret_bool (by unfold insI; rw [h1, h2]; simp), rfl⟩
/-! ### numeral's ways -/
theorem getL (s : ByteArray) (k : Nat) (h : k < s.size) : s.data.toList[k]'(by simpa using h) = s[k] := rfl
theorem lenL (s : ByteArray) : s.data.toList.length = s.size := by simp
theorem num_bad (s : ByteArray) (k : Nat) (h : k < s.size) (hd : digI (s[k].toNat : Int) = false) : 2 = numE s.data.toList := by
  have : s.data.toList.all digB = false := by
    rw [List.all_eq_false]
    exact ⟨s[k], by rw [← getL s k h]; exact List.getElem_mem _, by unfold digB; simp [hd]⟩
  unfold numE
  rw [if_pos this]
theorem num_more (s : ByteArray) (k : Nat) (h : k < s.size) (hd : digI (s[k].toNat : Int) = true) (ha : (s.data.toList.take k).all digB = true) : (s.data.toList.take (k + 1)).all digB = true := by
  rw [List.take_succ_eq_append_getElem (by simpa using h), List.all_append, ha, getL s k h]
  simp [digB, hd]
theorem headL (s : ByteArray) (h : 0 < s.size) : s.data.toList.headD 0 = s[0] := by
  rw [← getL s 0 h]
  have : s.data.toList ≠ [] := by intro e; have := lenL s; rw [e] at this; simp at this; omega
  obtain ⟨a, r, e⟩ := List.exists_cons_of_ne_nil this
  simp only [e, List.headD_cons, List.getElem_cons_zero]
theorem byte48 (b c : UInt8) (n : Int) (hn : n = (c.toNat : Int)) : ((b.toNat : Int) == n) = (b == c) := by
  subst hn
  rw [Bool.eq_iff_iff]
  simp only [beq_iff_eq]
  constructor
  · intro h; exact UInt8.toNat_inj.1 (by omega)
  · intro h; rw [h]
theorem numE_all (s : ByteArray) (h0 : 0 < s.size) (ha : s.data.toList.all digB = true) : numE s.data.toList =
    if decide (1 < s.size) && (s[0].toNat : Int) == 48 then 2 else if decide (19 < s.size) || (s.size == 19 && (!Op.bytesLess s.toList most && !(s.toList == most))) then 6 else 0 := by
  unfold numE
  rw [if_neg (by simp [ha]), headL s h0, lenL, ByteArray.toList_eq, byte48 _ 48 48 rfl]
theorem nA {s : ByteArray} (h0 : 0 < s.size) (ha : s.data.toList.all digB = true) (h1 : (1 : Int) < (s.size : Int)) (h2 : ((s[0].toNat : Int) == 48) = true) : 2 = numE s.data.toList := by
  rw [numE_all s h0 ha, h2, if_pos (by simp; omega)]
theorem nz {s : ByteArray} (h0 : 0 < s.size) (hz : ((s[0].toNat : Int) == 48) = false ∨ (s.size : Int) ≤ 1) : ¬ (decide (1 < s.size) && (s[0].toNat : Int) == 48) = true := by
  rcases hz with h | h
  · simp [h]
  · simp; omega
theorem nB {s : ByteArray} (h0 : 0 < s.size) (ha : s.data.toList.all digB = true) (hz : ((s[0].toNat : Int) == 48) = false ∨ (s.size : Int) ≤ 1) (h : (19 : Int) < (s.size : Int)) : 6 = numE s.data.toList := by
  rw [numE_all s h0 ha, if_neg (nz h0 hz), if_pos (by simp; omega)]
theorem nC {s : ByteArray} (h0 : 0 < s.size) (ha : s.data.toList.all digB = true) (hz : ((s[0].toNat : Int) == 48) = false ∨ (s.size : Int) ≤ 1) (h : (s.size : Int) = 19) (hc : (!Op.bytesLess s.toList most) = true ∧ (!(s.toList == most)) = true) : 6 = numE s.data.toList := by
  have e : s.size = 19 := by omega
  rw [numE_all s h0 ha, if_neg (nz h0 hz), if_pos (by rw [e, hc.1, hc.2]; rfl)]
theorem nD {s : ByteArray} (h0 : 0 < s.size) (ha : s.data.toList.all digB = true) (hz : ((s[0].toNat : Int) == 48) = false ∨ (s.size : Int) ≤ 1) (h : (s.size : Int) ≤ 19) (hc : ¬ (s.size : Int) = 19 ∨ ((!Op.bytesLess s.toList most) = false ∨ (!(s.toList == most)) = false)) : 0 = numE s.data.toList := by
  rw [numE_all s h0 ha, if_neg (nz h0 hz), if_neg]
  have : ¬ 19 < s.size := by omega
  simp only [this, decide_false, Bool.false_or]
  rcases hc with e | e | e
  · have : (s.size == 19) = false := by simp; omega
    simp [this]
  · rw [e]; simp
  · rw [e]; simp
theorem rnumeral (s : ByteArray) (hs : s.size ≤ maxLen) (h0 : 0 < s.size) (w : World) :
    Calls Tryz.prog 54 #[.string s] w fun e w' => e = .returned (.int .i64 (numE s.data.toList)) ∧ w' = w := by
  unfold maxLen at hs
  go_enter Tryz.func54, Tryz.ntmps54
  go_wp2
  go_loop [3] (fun i => ∃ k : Nat, k ≤ s.size ∧ i = .int .i64 k ∧ Hid ((s.data.toList.take k).all digB = true)) (fun i => s.size - (intOf i).toNat)
  case atStart => exact ⟨0, Nat.zero_le _, rfl, by show _ = _; simp⟩
  case round =>
    obtain ⟨k, hk, rfl, HD⟩ := hrel
    by_cases hlt : k < s.size
    · cases hd : digI (s[k].toNat : Int)
      all_goals
        go_wp2_with (go_at_call 53; refine (rdigit _ _).mono ?_; rintro e w' ⟨rfl, rfl⟩)
      · go_ret
        exact ⟨ret_i64 (num_bad s k hlt hd), rfl⟩
      · go_round
        case rel => exact ⟨k + 1, by omega, by go_num, num_more s k hlt hd HD.out⟩
        case measure => simp [intOf]; omega
    · have HA : Hid (s.data.toList.all digB = true) := by
        have h := HD.out
        rw [List.take_of_length_le (by rw [lenL]; omega)] at h
        exact h
      go_wp2
      all_goals
        go_ret
        first
          | exact ⟨ret_i64 (nA h0 HA.out ‹_› ‹_›), rfl⟩
          | exact ⟨ret_i64 (nB h0 HA.out (by first | exact .inl ‹_› | exact .inr (by omega)) ‹_›), rfl⟩
          | exact ⟨ret_i64 (nC h0 HA.out (by first | exact .inl ‹_› | exact .inr (by omega)) ‹_› ‹_›), rfl⟩
          | exact ⟨ret_i64 (nD h0 HA.out (by first | exact .inl ‹_› | exact .inr (by omega)) ‹_› (by first | exact .inl ‹_› | exact .inr ‹_›)), rfl⟩
end Go.Proofs.YtchhpinmoagkhaaGreatDoor.lexs
namespace Go.Proofs.YtchhpinmoagkhaaGreatDoor.lexs
open Go.RowKit
set_option linter.unusedVariables false

def sgL (k : Nat) : List UInt8 := if k = 0 then [61, 61] else [ones.getD (k - 1) 0]
def sg (k : Nat) : ByteArray := ⟨(sgL k).toArray⟩
theorem sg_size (k : Nat) : (sg k).size ≤ 2 := by unfold sg sgL; split <;> simp [ByteArray.size]
theorem sg_pos (k : Nat) : 0 < (sg k).size := by unfold sg sgL; split <;> simp [ByteArray.size]

theorem slice_is (t : TypeId) (ht : Tryz.prog.underlying t = some .string) (s : ByteArray) (i n : Nat) (h : i + n ≤ s.size) (w : World) :
    (Instr.slice t (.string s) (some (.int .i64 (i : Int))) (some (.int .i64 ((i : Int) + (n : Int)))) none).run Tryz.prog w = .ok (.string (s.extract i (i + n))) w := by
  have := run_slice_string (P := Tryz.prog) (w := w) t s .i64 .i64 (i : Int) ((i : Int) + (n : Int)) ht (by omega) (by omega) (by omega)
  rw [this]
  simp only [Int.toNat_natCast]
  congr 4
theorem getD_at (l : List UInt8) (j : Nat) (h : j < l.length) : l.getD j 0 = l[j] := by simp [List.getD, h]
/-- does the k-th sign stand there? -/
def stands (l : List UInt8) (k : Nat) : Bool := (sgL k).isPrefixOf l
theorem isP1 (c : UInt8) (hc : c ≠ 0) (l : List UInt8) : [c].isPrefixOf l = (l.headD 0 == c) := by
  cases l with
  | nil => simp [List.isPrefixOf, hc.symm]
  | cons a r => simp [List.isPrefixOf, Bool.beq_comm]
theorem isP2 (l : List UInt8) : [61, 61].isPrefixOf l = (l.headD 0 == 61 && (l.drop 1).headD 0 == 61) := by
  rcases l with _ | ⟨a, _ | ⟨b, r⟩⟩ <;> simp [List.isPrefixOf, Bool.beq_comm]
theorem ones_pos : ∀ j, j < 19 → ones.getD j 0 ≠ 0 := by decide
theorem stands_first (l : List UInt8) (k : Nat) (hk : k < 20) (h1 : ∀ j, j < k → stands l j = false) (h2 : stands l k = true) : signLen l = (sgL k).length := by
  unfold stands at h1 h2
  unfold signLen
  by_cases h0 : k = 0
  · subst h0
    have : sgL 0 = [61, 61] := rfl
    rw [this, isP2] at h2
    rw [if_pos h2, this]
    rfl
  · have e0 := h1 0 (by omega)
    have : sgL 0 = [61, 61] := rfl
    rw [this, isP2] at e0
    have hk' : sgL k = [ones.getD (k - 1) 0] := by unfold sgL; rw [if_neg h0]
    rw [hk', isP1 _ (ones_pos _ (by omega))] at h2
    have hm : ones.contains (l.headD 0) = true := by
      rw [beq_iff_eq.1 h2, List.contains_iff_mem, getD_at _ _ (show k - 1 < 19 by omega)]
      exact List.getElem_mem _
    rw [if_neg (by rw [e0]; simp), if_pos hm, hk']
    rfl
theorem stands_none (l : List UInt8) (h : ∀ j, j < 20 → stands l j = false) : signLen l = 0 := by
  unfold stands at h
  unfold signLen
  have e0 := h 0 (by omega)
  have : sgL 0 = [61, 61] := rfl
  rw [this, isP2] at e0
  rw [if_neg (by rw [e0]; simp), if_neg]
  intro hm
  rw [List.contains_iff_mem] at hm
  obtain ⟨j, hj, e⟩ := List.mem_iff_getElem.1 hm
  have hj' : j < 19 := hj
  have hs := h (j + 1) (by omega)
  have hk' : sgL (j + 1) = [ones.getD j 0] := rfl
  rw [hk', isP1 _ (ones_pos _ hj'), getD_at _ _ hj, e] at hs
  simp at hs
theorem sg_data (k : Nat) : (sg k).data.toList = sgL k := by simp [sg]
theorem stands_iff (s : ByteArray) (i k : Nat) (hi : i ≤ s.size) (x : ByteArray) (hx : x = sg k) : stands (s.data.toList.drop i) k = true ↔ i + x.size ≤ s.size ∧ ((s.extract i (i + x.size)).toList == x.toList) = true := by
  have hd : x.data.toList = sgL k := by rw [hx, sg_data]
  have hl : x.size = (sgL k).length := by rw [← hd, lenL]
  unfold stands
  rw [List.isPrefixOf_iff_prefix, List.prefix_iff_eq_take, beq_iff_eq, Lib.extract_toList, ByteArray.toList_eq, hd, hl, Nat.add_sub_cancel_left]
  constructor
  · intro h
    refine ⟨?_, h.symm⟩
    have h2 := congrArg List.length h
    rw [List.length_take, List.length_drop, lenL] at h2
    omega
  · intro h
    exact h.2.symm
theorem rsign (s : ByteArray) (i : Nat) (hs : s.size ≤ 3000) (hi : i < s.size) (w : World) :
    Calls Tryz.prog 55 #[.string s, .int .i64 i] w fun e w' => ∃ b : ByteArray, e = .returned (.string b) ∧ b.size = signLen (s.data.toList.drop i) ∧ Below w.heap.size w w' := by
  go_enter Tryz.func55, Tryz.ntmps55
  go_wp2
  go_loopw [6] (fun t wr => ∃ k : Nat, k ≤ 20 ∧ t = .int .i64 k ∧ (∀ j, j < 20 → wr.cell? ⟨w.heap.size, j, none⟩ = some (.string (sg j))) ∧ Below w.heap.size w wr ∧ Hid (∀ j, j < k → stands (s.data.toList.drop i) j = false)) (fun t _ => 20 - (intOf t).toNat)
  case atStart =>
    refine ⟨0, by omega, rfl, ?_, (Below.refl _ _).alloc (Nat.le_refl _) _, fun j hj => by omega⟩
    intro j hj
    have hc : j = 0 ∨ j = 1 ∨ j = 2 ∨ j = 3 ∨ j = 4 ∨ j = 5 ∨ j = 6 ∨ j = 7 ∨ j = 8 ∨ j = 9 ∨ j = 10 ∨ j = 11 ∨ j = 12 ∨ j = 13 ∨ j = 14 ∨ j = 15 ∨ j = 16 ∨ j = 17 ∨ j = 18 ∨ j = 19 := by omega
    rcases hc with rfl | rfl | rfl | rfl | rfl | rfl | rfl | rfl | rfl | rfl | rfl | rfl | rfl | rfl | rfl | rfl | rfl | rfl | rfl | rfl <;> simp <;> rfl
  case round =>
    obtain ⟨k, hk, rfl, hcells, hbw, HN⟩ := hrel
    by_cases hlt : k < 20
    · have hcell := hcells k hlt
      have hz := sg_size k
      have hp := sg_pos k
      have HC : Hid (∀ j, j < 20 → wr.cell? ⟨w.heap.size, j, none⟩ = some (.string (sg j))) := hcells
      clear hcells
      obtain ⟨x, hx⟩ : ∃ x, x = sg k := ⟨_, rfl⟩
      have hst := stands_iff s i k (by omega) x hx
      rw [← hx] at hcell hz hp
      have HX : Hid (x = sg k) := hx
      have HS : Hid (stands (s.data.toList.drop i) k = true ↔ i + x.size ≤ s.size ∧ ((s.extract i (i + x.size)).toList == x.toList) = true) := hst
      clear hx hst
      have hwr : IntKind.i64.wrap ((i : Int) + (x.size : Int)) = (i : Int) + (x.size : Int) := by rw [IntKind.wrap_i64]; omega
      by_cases hfit : (i : Int) + (x.size : Int) ≤ (s.size : Int)
      · have hsl := slice_is 9 Tryz.underlying9 s i x.size (by omega)
        go_wp2
        go_quiet (fail)
        go_wp2
        · go_ret
          have hst : stands (s.data.toList.drop i) k = true := HS.out.2 ⟨by omega, by assumption⟩
          refine ⟨x, rfl, ?_, below_drewN hbw _⟩
          rw [stands_first _ k hlt HN.out hst, ← lenL x, HX.out, sg_data]
        · have hst : stands (s.data.toList.drop i) k = false := by
            rw [Bool.eq_false_iff]
            intro h
            have h2 := (HS.out.1 h).2
            have h3 : ((s.extract i (i + x.size)).toList == x.toList) = false := by assumption
            rw [h3] at h2
            exact absurd h2 (by decide)
          go_roundw
          case rel => exact ⟨k + 1, by omega, by go_num, HC.out, below_drewN hbw _, fun j hj => by
            rcases Nat.lt_or_ge j k with h | h
            · exact HN.out j h
            · have : j = k := by omega
              rw [this]; exact hst⟩
          case measure => simp [intOf]; omega
      · have hd : decide ((i : Int) + (x.size : Int) ≤ (s.size : Int)) = false := by simpa using hfit
        go_wp2
        go_quiet (fail)
        go_wp2
        have hst : stands (s.data.toList.drop i) k = false := by
          rw [Bool.eq_false_iff]
          intro h
          have h2 := (HS.out.1 h).1
          omega
        go_roundw
        case rel => exact ⟨k + 1, by omega, by go_num, HC.out, below_drewN hbw _, fun j hj => by
          rcases Nat.lt_or_ge j k with h | h
          · exact HN.out j h
          · have : j = k := by omega
            rw [this]; exact hst⟩
        case measure => simp [intOf]; omega
    · have hk20 : k = 20 := by omega
      subst hk20
      go_wp2
      go_ret
      exact ⟨_, rfl, by rw [stands_none _ HN.out]; rfl, hbw⟩
end Go.Proofs.YtchhpinmoagkhaaGreatDoor.lexs
