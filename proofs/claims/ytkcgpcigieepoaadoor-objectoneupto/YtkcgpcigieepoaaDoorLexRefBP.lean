/- What the reference's sign answers: a contract. -/
import Derived.Test.YtkcgpcigieepoaaDoorProg
import Derived.WalkKit
import Derived.WalkLawsBesides
import Derived.Outline
import Derived.BigQuiet
import Derived.WalkSmall
import Derived.Lib.Strings
import Derived.Deep.QuietTactic
import Derived.Test.YtkcgpcigieepoaaDoorLexSpec
import Derived.Test.YtkcgpcigieepoaaDoorLexRefP
namespace Go.Proofs.YtkcgpcigieepoaaDoor.lexs
open Go.RowKit
set_option linter.unusedVariables false

def sgL (k : Nat) : List UInt8 := if k = 0 then [61, 61] else [ones.getD (k - 1) 0]
def sg (k : Nat) : ByteArray := ⟨(sgL k).toArray⟩
theorem sg_size (k : Nat) : (sg k).size ≤ 2 := by unfold sg sgL; split <;> simp [ByteArray.size]
theorem sg_pos (k : Nat) : 0 < (sg k).size := by unfold sg sgL; split <;> simp [ByteArray.size]

theorem slice_is (t : TypeId) (ht : Tryd.prog.underlying t = some .string) (s : ByteArray) (i n : Nat) (h : i + n ≤ s.size) (w : World) :
    (Instr.slice t (.string s) (some (.int .i64 (i : Int))) (some (.int .i64 ((i : Int) + (n : Int)))) none).run Tryd.prog w = .ok (.string (s.extract i (i + n))) w := by
  have := run_slice_string (P := Tryd.prog) (w := w) t s .i64 .i64 (i : Int) ((i : Int) + (n : Int)) ht (by omega) (by omega) (by omega)
  rw [this]
  simp only [Int.toNat_natCast]
  congr 4
theorem getD_at (l : List UInt8) (j : Nat) (h : j < l.length) : l.getD j 0 = l[j] := by simp [List.getD, h]
/-- does the k-th sign stand there? -/
def stands (l : List UInt8) (k : Nat) : Bool := (sgL k).isPrefixOf l
theorem isP1 (c : UInt8) (hc : c ≠ 0) (l : List UInt8) : [c].isPrefixOf l = (l.headD 0 == c) := by
  cases l with
  | nil => simp [List.isPrefixOf, hc.symm]
  | cons a r => simp [List.isPrefixOf, Bool.beq_comm]
theorem isP2 (l : List UInt8) : [61, 61].isPrefixOf l = (l.headD 0 == 61 && (l.drop 1).headD 0 == 61) := by
  rcases l with _ | ⟨a, _ | ⟨b, r⟩⟩ <;> simp [List.isPrefixOf, Bool.beq_comm]
theorem ones_pos : ∀ j, j < 19 → ones.getD j 0 ≠ 0 := by decide
theorem stands_first (l : List UInt8) (k : Nat) (hk : k < 20) (h1 : ∀ j, j < k → stands l j = false) (h2 : stands l k = true) : signLen l = (sgL k).length := by
  unfold stands at h1 h2
  unfold signLen
  by_cases h0 : k = 0
  · subst h0
    have : sgL 0 = [61, 61] := rfl
    rw [this, isP2] at h2
    rw [if_pos h2, this]
    rfl
  · have e0 := h1 0 (by omega)
    have : sgL 0 = [61, 61] := rfl
    rw [this, isP2] at e0
    have hk' : sgL k = [ones.getD (k - 1) 0] := by unfold sgL; rw [if_neg h0]
    rw [hk', isP1 _ (ones_pos _ (by omega))] at h2
    have hm : ones.contains (l.headD 0) = true := by
      rw [beq_iff_eq.1 h2, List.contains_iff_mem, getD_at _ _ (show k - 1 < 19 by omega)]
      exact List.getElem_mem _
    rw [if_neg (by rw [e0]; simp), if_pos hm, hk']
    rfl
theorem stands_none (l : List UInt8) (h : ∀ j, j < 20 → stands l j = false) : signLen l = 0 := by
  unfold stands at h
  unfold signLen
  have e0 := h 0 (by omega)
  have : sgL 0 = [61, 61] := rfl
  rw [this, isP2] at e0
  rw [if_neg (by rw [e0]; simp), if_neg]
  intro hm
  rw [List.contains_iff_mem] at hm
  obtain ⟨j, hj, e⟩ := List.mem_iff_getElem.1 hm
  have hj' : j < 19 := hj
  have hs := h (j + 1) (by omega)
  have hk' : sgL (j + 1) = [ones.getD j 0] := rfl
  rw [hk', isP1 _ (ones_pos _ hj'), getD_at _ _ hj, e] at hs
  simp at hs
theorem sg_data (k : Nat) : (sg k).data.toList = sgL k := by simp [sg]
theorem stands_iff (s : ByteArray) (i k : Nat) (hi : i ≤ s.size) (x : ByteArray) (hx : x = sg k) : stands (s.data.toList.drop i) k = true ↔ i + x.size ≤ s.size ∧ ((s.extract i (i + x.size)).toList == x.toList) = true := by
  have hd : x.data.toList = sgL k := by rw [hx, sg_data]
  have hl : x.size = (sgL k).length := by rw [← hd, lenL]
  unfold stands
  rw [List.isPrefixOf_iff_prefix, List.prefix_iff_eq_take, beq_iff_eq, Lib.extract_toList, ByteArray.toList_eq, hd, hl, Nat.add_sub_cancel_left]
  constructor
  · intro h
    refine ⟨?_, h.symm⟩
    have h2 := congrArg List.length h
    rw [List.length_take, List.length_drop, lenL] at h2
    omega
  · intro h
    exact h.2.symm
end Go.Proofs.YtkcgpcigieepoaaDoor.lexs
