/- Plain facts on 64-bit division, no Go in sight. -/
import Derived.RowKit
namespace Go.Proofs.Ytjoebigdhocikaa.numOps
open Go.RowKit

theorem div_back (a b : Int) (ha : -9223372036854775808 ≤ a) (hA : a ≤ 9223372036854775807) :
    wrap64 (wrap64 (wrap64 (a.tdiv b) * b) + a.tmod b) = a := by
  have e : a.tdiv b * b + a.tmod b = a := by have := Int.tdiv_mul_add_tmod a b; omega
  have h1 : ∃ k, wrap64 (a.tdiv b) = a.tdiv b + 18446744073709551616 * k := ⟨-((a.tdiv b + 9223372036854775808) / 18446744073709551616), by unfold wrap64; omega⟩
  obtain ⟨k, hk⟩ := h1
  rw [hk]
  have e2 : (a.tdiv b + 18446744073709551616 * k) * b = a.tdiv b * b + 18446744073709551616 * (k * b) := by rw [Int.add_mul, Int.mul_assoc]
  rw [e2]
  generalize k * b = m at *
  generalize a.tdiv b * b = n at *
  unfold wrap64
  omega
theorem mod_sign (a b : Int) (hb : b ≠ 0) :
    a.tmod b = 0 ∨ (a < 0 ∧ a.tmod b < 0 ∧ (b < 0 ∧ b < a.tmod b ∨ 0 < b ∧ -b < a.tmod b)) ∨ (0 < a ∧ 0 < a.tmod b ∧ (b < 0 ∧ a.tmod b < -b ∨ 0 < b ∧ a.tmod b < b)) := by
  have h1 := Int.natAbs_tmod a b
  have h2 : a.natAbs % b.natAbs < b.natAbs := Nat.mod_lt _ (by omega)
  rcases Int.lt_or_le a 0 with h | h
  · have := Int.tmod_nonneg (a := -a) b (by omega)
    rw [Int.neg_tmod] at this
    omega
  · have := Int.tmod_nonneg (a := a) b h
    by_cases ha : a = 0
    · subst ha; simp
    · omega
end Go.Proofs.Ytjoebigdhocikaa.numOps
