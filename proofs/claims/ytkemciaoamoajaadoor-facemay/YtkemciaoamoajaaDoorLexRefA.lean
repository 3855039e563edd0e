/- What the reference's Letter, Digit, Inside, numeral and sign answer: contracts. -/
import Derived.Test.YtkemciaoamoajaaDoorProg
import Derived.WalkKit
import Derived.WalkLawsBesides
import Derived.Outline
import Derived.Test.YtkemciaoamoajaaDoorLexSpec
namespace Go.Proofs.YtkemciaoamoajaaDoor.lexs
open Go.RowKit
set_option linter.unusedVariables false

theorem ret_bool {x y : Bool} (h : x = y) : Ending.returned (.bool x) = .returned (.bool y) := by rw [h]
theorem ret_i64 {x y : Int} (h : x = y) : Ending.returned (.int .i64 x) = .returned (.int .i64 y) := by rw [h]
theorem rletter (c : Int) (w : World) :
    Calls Tryd.prog 18 #[.int .u8 c] w fun e w' => e = .returned (.bool (ltrI c)) ∧ w' = w := by
  go_enter Tryd.func18, Tryd.ntmps18
  go_wp2
  all_goals
    go_ret
    exact ⟨ret_bool (by rw [Bool.eq_iff_iff]; simp [ltrI] <;> omega), rfl⟩
theorem rdigit (c : Int) (w : World) :
    Calls Tryd.prog 19 #[.int .u8 c] w fun e w' => e = .returned (.bool (digI c)) ∧ w' = w := by
  go_enter Tryd.func19, Tryd.ntmps19
  go_wp2
  all_goals
    go_ret
    exact ⟨ret_bool (by rw [Bool.eq_iff_iff]; simp [digI] <;> omega), rfl⟩
theorem rinside (c : Int) (w : World) :
    Calls Tryd.prog 17 #[.int .u8 c] w fun e w' => e = .returned (.bool (insI c)) ∧ w' = w := by
  cases h1 : ltrI c <;> cases h2 : digI c
  all_goals
    go_enter Tryd.func17, Tryd.ntmps17
    go_wp2_with (first | (go_at_call 18; refine (rletter _ _).mono ?_; rintro e w' ⟨rfl, rfl⟩) | (go_at_call 19; refine (rdigit _ _).mono ?_; rintro e w' ⟨rfl, rfl⟩))
    go_ret
    exact ⟨ret_bool (by unfold insI; rw [h1, h2]; simp), rfl⟩
/-! ### numeral's ways -/
theorem getL (s : ByteArray) (k : Nat) (h : k < s.size) : s.data.toList[k]'(by simpa using h) = s[k] := rfl
theorem lenL (s : ByteArray) : s.data.toList.length = s.size := by simp
theorem num_bad (s : ByteArray) (k : Nat) (h : k < s.size) (hd : digI (s[k].toNat : Int) = false) : 2 = numE s.data.toList := by
  have : s.data.toList.all digB = false := by
    rw [List.all_eq_false]
    exact ⟨s[k], by rw [← getL s k h]; exact List.getElem_mem _, by unfold digB; simp [hd]⟩
  unfold numE
  rw [if_pos this]
theorem num_more (s : ByteArray) (k : Nat) (h : k < s.size) (hd : digI (s[k].toNat : Int) = true) (ha : (s.data.toList.take k).all digB = true) : (s.data.toList.take (k + 1)).all digB = true := by
  rw [List.take_succ_eq_append_getElem (by simpa using h), List.all_append, ha, getL s k h]
  simp [digB, hd]
theorem headL (s : ByteArray) (h : 0 < s.size) : s.data.toList.headD 0 = s[0] := by
  rw [← getL s 0 h]
  have : s.data.toList ≠ [] := by intro e; have := lenL s; rw [e] at this; simp at this; omega
  obtain ⟨a, r, e⟩ := List.exists_cons_of_ne_nil this
  simp only [e, List.headD_cons, List.getElem_cons_zero]
theorem byte48 (b c : UInt8) (n : Int) (hn : n = (c.toNat : Int)) : ((b.toNat : Int) == n) = (b == c) := by
  subst hn
  rw [Bool.eq_iff_iff]
  simp only [beq_iff_eq]
  constructor
  · intro h; exact UInt8.toNat_inj.1 (by omega)
  · intro h; rw [h]
theorem numE_all (s : ByteArray) (h0 : 0 < s.size) (ha : s.data.toList.all digB = true) : numE s.data.toList =
    if decide (1 < s.size) && (s[0].toNat : Int) == 48 then 2 else if decide (19 < s.size) || (s.size == 19 && (!Op.bytesLess s.toList most && !(s.toList == most))) then 6 else 0 := by
  unfold numE
  rw [if_neg (by simp [ha]), headL s h0, lenL, ByteArray.toList_eq, byte48 _ 48 48 rfl]
theorem nA {s : ByteArray} (h0 : 0 < s.size) (ha : s.data.toList.all digB = true) (h1 : (1 : Int) < (s.size : Int)) (h2 : ((s[0].toNat : Int) == 48) = true) : 2 = numE s.data.toList := by
  rw [numE_all s h0 ha, h2, if_pos (by simp; omega)]
theorem nz {s : ByteArray} (h0 : 0 < s.size) (hz : ((s[0].toNat : Int) == 48) = false ∨ (s.size : Int) ≤ 1) : ¬ (decide (1 < s.size) && (s[0].toNat : Int) == 48) = true := by
  rcases hz with h | h
  · simp [h]
  · simp; omega
theorem nB {s : ByteArray} (h0 : 0 < s.size) (ha : s.data.toList.all digB = true) (hz : ((s[0].toNat : Int) == 48) = false ∨ (s.size : Int) ≤ 1) (h : (19 : Int) < (s.size : Int)) : 6 = numE s.data.toList := by
  rw [numE_all s h0 ha, if_neg (nz h0 hz), if_pos (by simp; omega)]
theorem nC {s : ByteArray} (h0 : 0 < s.size) (ha : s.data.toList.all digB = true) (hz : ((s[0].toNat : Int) == 48) = false ∨ (s.size : Int) ≤ 1) (h : (s.size : Int) = 19) (hc : (!Op.bytesLess s.toList most) = true ∧ (!(s.toList == most)) = true) : 6 = numE s.data.toList := by
  have e : s.size = 19 := by omega
  rw [numE_all s h0 ha, if_neg (nz h0 hz), if_pos (by rw [e, hc.1, hc.2]; rfl)]
theorem nD {s : ByteArray} (h0 : 0 < s.size) (ha : s.data.toList.all digB = true) (hz : ((s[0].toNat : Int) == 48) = false ∨ (s.size : Int) ≤ 1) (h : (s.size : Int) ≤ 19) (hc : ¬ (s.size : Int) = 19 ∨ ((!Op.bytesLess s.toList most) = false ∨ (!(s.toList == most)) = false)) : 0 = numE s.data.toList := by
  rw [numE_all s h0 ha, if_neg (nz h0 hz), if_neg]
  have : ¬ 19 < s.size := by omega
  simp only [this, decide_false, Bool.false_or]
  rcases hc with e | e | e
  · have : (s.size == 19) = false := by simp; omega
    simp [this]
  · rw [e]; simp
  · rw [e]; simp
theorem rnumeral (s : ByteArray) (hs : s.size ≤ maxLen) (h0 : 0 < s.size) (w : World) :
    Calls Tryd.prog 20 #[.string s] w fun e w' => e = .returned (.int .i64 (numE s.data.toList)) ∧ w' = w := by
  unfold maxLen at hs
  go_enter Tryd.func20, Tryd.ntmps20
  go_wp2
  go_loop [3] (fun i => ∃ k : Nat, k ≤ s.size ∧ i = .int .i64 k ∧ Hid ((s.data.toList.take k).all digB = true)) (fun i => s.size - (intOf i).toNat)
  case atStart => exact ⟨0, Nat.zero_le _, rfl, by show _ = _; simp⟩
  case round =>
    obtain ⟨k, hk, rfl, HD⟩ := hrel
    by_cases hlt : k < s.size
    · cases hd : digI (s[k].toNat : Int)
      all_goals
        go_wp2_with (go_at_call 19; refine (rdigit _ _).mono ?_; rintro e w' ⟨rfl, rfl⟩)
      · go_ret
        exact ⟨ret_i64 (num_bad s k hlt hd), rfl⟩
      · go_round
        case rel => exact ⟨k + 1, by omega, by go_num, num_more s k hlt hd HD.out⟩
        case measure => simp [intOf]; omega
    · have HA : Hid (s.data.toList.all digB = true) := by
        have h := HD.out
        rw [List.take_of_length_le (by rw [lenL]; omega)] at h
        exact h
      go_wp2
      all_goals
        go_ret
        first
          | exact ⟨ret_i64 (nA h0 HA.out ‹_› ‹_›), rfl⟩
          | exact ⟨ret_i64 (nB h0 HA.out (by first | exact .inl ‹_› | exact .inr (by omega)) ‹_›), rfl⟩
          | exact ⟨ret_i64 (nC h0 HA.out (by first | exact .inl ‹_› | exact .inr (by omega)) ‹_› ‹_›), rfl⟩
          | exact ⟨ret_i64 (nD h0 HA.out (by first | exact .inl ‹_› | exact .inr (by omega)) ‹_› (by first | exact .inl ‹_› | exact .inr ‹_›)), rfl⟩
end Go.Proofs.YtkemciaoamoajaaDoor.lexs
