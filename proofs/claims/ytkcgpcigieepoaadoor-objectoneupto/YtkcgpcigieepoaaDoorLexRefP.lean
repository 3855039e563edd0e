/- What the reference's Letter, Digit, Inside, numeral and sign answer: contracts. -/
import Derived.Test.YtkcgpcigieepoaaDoorProg
import Derived.WalkKit
import Derived.WalkLawsBesides
import Derived.Outline
import Derived.Test.YtkcgpcigieepoaaDoorLexSpec
namespace Go.Proofs.YtkcgpcigieepoaaDoor.lexs
open Go.RowKit
set_option linter.unusedVariables false

theorem ret_bool {x y : Bool} (h : x = y) : Ending.returned (.bool x) = .returned (.bool y) := by rw [h]
theorem ret_i64 {x y : Int} (h : x = y) : Ending.returned (.int .i64 x) = .returned (.int .i64 y) := by rw [h]
/-! ### numeral's ways -/
theorem getL (s : ByteArray) (k : Nat) (h : k < s.size) : s.data.toList[k]'(by simpa using h) = s[k] := rfl
theorem lenL (s : ByteArray) : s.data.toList.length = s.size := by simp
theorem num_bad (s : ByteArray) (k : Nat) (h : k < s.size) (hd : digI (s[k].toNat : Int) = false) : 2 = numE s.data.toList := by
  have : s.data.toList.all digB = false := by
    rw [List.all_eq_false]
    exact ⟨s[k], by rw [← getL s k h]; exact List.getElem_mem _, by unfold digB; simp [hd]⟩
  unfold numE
  rw [if_pos this]
theorem num_more (s : ByteArray) (k : Nat) (h : k < s.size) (hd : digI (s[k].toNat : Int) = true) (ha : (s.data.toList.take k).all digB = true) : (s.data.toList.take (k + 1)).all digB = true := by
  rw [List.take_succ_eq_append_getElem (by simpa using h), List.all_append, ha, getL s k h]
  simp [digB, hd]
theorem headL (s : ByteArray) (h : 0 < s.size) : s.data.toList.headD 0 = s[0] := by
  rw [← getL s 0 h]
  have : s.data.toList ≠ [] := by intro e; have := lenL s; rw [e] at this; simp at this; omega
  obtain ⟨a, r, e⟩ := List.exists_cons_of_ne_nil this
  simp only [e, List.headD_cons, List.getElem_cons_zero]
theorem byte48 (b c : UInt8) (n : Int) (hn : n = (c.toNat : Int)) : ((b.toNat : Int) == n) = (b == c) := by
  subst hn
  rw [Bool.eq_iff_iff]
  simp only [beq_iff_eq]
  constructor
  · intro h; exact UInt8.toNat_inj.1 (by omega)
  · intro h; rw [h]
theorem numE_all (s : ByteArray) (h0 : 0 < s.size) (ha : s.data.toList.all digB = true) : numE s.data.toList =
    if decide (1 < s.size) && (s[0].toNat : Int) == 48 then 2 else if decide (19 < s.size) || (s.size == 19 && (!Op.bytesLess s.toList most && !(s.toList == most))) then 6 else 0 := by
  unfold numE
  rw [if_neg (by simp [ha]), headL s h0, lenL, ByteArray.toList_eq, byte48 _ 48 48 rfl]
theorem nA {s : ByteArray} (h0 : 0 < s.size) (ha : s.data.toList.all digB = true) (h1 : (1 : Int) < (s.size : Int)) (h2 : ((s[0].toNat : Int) == 48) = true) : 2 = numE s.data.toList := by
  rw [numE_all s h0 ha, h2, if_pos (by simp; omega)]
theorem nz {s : ByteArray} (h0 : 0 < s.size) (hz : ((s[0].toNat : Int) == 48) = false ∨ (s.size : Int) ≤ 1) : ¬ (decide (1 < s.size) && (s[0].toNat : Int) == 48) = true := by
  rcases hz with h | h
  · simp [h]
  · simp; omega
theorem nB {s : ByteArray} (h0 : 0 < s.size) (ha : s.data.toList.all digB = true) (hz : ((s[0].toNat : Int) == 48) = false ∨ (s.size : Int) ≤ 1) (h : (19 : Int) < (s.size : Int)) : 6 = numE s.data.toList := by
  rw [numE_all s h0 ha, if_neg (nz h0 hz), if_pos (by simp; omega)]
theorem nC {s : ByteArray} (h0 : 0 < s.size) (ha : s.data.toList.all digB = true) (hz : ((s[0].toNat : Int) == 48) = false ∨ (s.size : Int) ≤ 1) (h : (s.size : Int) = 19) (hc : (!Op.bytesLess s.toList most) = true ∧ (!(s.toList == most)) = true) : 6 = numE s.data.toList := by
  have e : s.size = 19 := by omega
  rw [numE_all s h0 ha, if_neg (nz h0 hz), if_pos (by rw [e, hc.1, hc.2]; rfl)]
theorem nD {s : ByteArray} (h0 : 0 < s.size) (ha : s.data.toList.all digB = true) (hz : ((s[0].toNat : Int) == 48) = false ∨ (s.size : Int) ≤ 1) (h : (s.size : Int) ≤ 19) (hc : ¬ (s.size : Int) = 19 ∨ ((!Op.bytesLess s.toList most) = false ∨ (!(s.toList == most)) = false)) : 0 = numE s.data.toList := by
  rw [numE_all s h0 ha, if_neg (nz h0 hz), if_neg]
  have : ¬ 19 < s.size := by omega
  simp only [this, decide_false, Bool.false_or]
  rcases hc with e | e | e
  · have : (s.size == 19) = false := by simp; omega
    simp [this]
  · rw [e]; simp
  · rw [e]; simp
end Go.Proofs.YtkcgpcigieepoaaDoor.lexs
