/- Plain facts on the bits of 64-bit integers, no Go in sight: a number's bits by halving; two numbers joined bit by bit are the sum of the powers at which they are. -/
import Derived.RowKit
import Derived.Laws.Entries
import Derived.IntWalk
namespace Go.Proofs.Ytjoebigdhocikaa.numOps
open Go.RowKit

/-- a number, halved j times, downwards -/
def dv (a : Int) (j : Nat) : Int := a / 2 ^ j
/-- its bit -/
def bitB (a : Int) (j : Nat) : Bool := a / 2 ^ j % 2 == 1
def pw (k : Nat) : Int := wrap64 (2 ^ k)
def joinB (both : Bool) (x y : Bool) : Bool := if both then x && y else x || y
def sumB (both : Bool) (a b : Int) : Nat → Int
  | 0 => 0
  | k + 1 => sumB both a b k + if joinB both (bitB a k) (bitB b k) then 2 ^ k else 0
def sm (both : Bool) (a b : Int) (k : Nat) : Int := wrap64 (sumB both a b k)

theorem dv_zero (a : Int) : dv a 0 = a := by simp [dv]
theorem dv_succ (a : Int) (j : Nat) : dv a (j + 1) = dv a j / 2 := by
  unfold dv
  rw [Int.pow_succ, Int.ediv_ediv_of_nonneg]
  have : (0 : Int) < 2 ^ j := Int.pow_pos (by decide)
  omega
theorem dv_bounds (a : Int) (h1 : -9223372036854775808 ≤ a) (h2 : a ≤ 9223372036854775807) (j : Nat) : -9223372036854775808 ≤ dv a j ∧ dv a j ≤ 9223372036854775807 := by
  induction j with
  | zero => rw [dv_zero]; exact ⟨h1, h2⟩
  | succ j ih => rw [dv_succ]; omega
theorem bitB_dv (a : Int) (j : Nat) : bitB a j = (dv a j % 2 == 1) := rfl
theorem tmod2 (v : Int) : v.tmod 2 = if v < 0 ∧ v % 2 = 1 then -1 else v % 2 := by
  rw [Int.tmod_eq_emod]
  split <;> split <;> simp_all <;> omega
theorem tdiv2 (v : Int) (h : v % 2 = 0) : v.tdiv 2 = v / 2 := by
  rw [Int.tdiv_eq_ediv]
  split <;> simp_all <;> omega
theorem half_neg (v : Int) (h1 : -9223372036854775808 ≤ v) (h2 : v ≤ 9223372036854775807) (h : v.tmod 2 < 0) : wrap64 ((wrap64 (v - wrap64 (v.tmod 2 + 2))).tdiv 2) = v / 2 := by
  rw [tmod2] at h ⊢
  split at h
  · rename_i hc
    rw [if_pos hc]
    have e : wrap64 (v - wrap64 (-1 + 2)) = v - 1 := by unfold wrap64; omega
    rw [e, tdiv2 _ (by omega)]
    unfold wrap64
    omega
  · omega
theorem half_pos (v : Int) (h1 : -9223372036854775808 ≤ v) (h2 : v ≤ 9223372036854775807) (h : 0 ≤ v.tmod 2) : wrap64 ((wrap64 (v - v.tmod 2)).tdiv 2) = v / 2 := by
  rw [tmod2] at h ⊢
  split at h
  · omega
  · rename_i hc
    rw [if_neg hc]
    have e : wrap64 (v - v % 2) = v - v % 2 := by unfold wrap64; omega
    rw [e, tdiv2 _ (by omega)]
    unfold wrap64
    omega
theorem bitB_end (a : Int) (j : Nat) : ((dv a j).tmod 2 != 0) = bitB a j := by
  rw [bitB_dv, tmod2]
  generalize dv a j = v
  by_cases h : v % 2 = 1
  · by_cases h' : v < 0 <;> simp [h, h']
  · have : v % 2 = 0 := by omega
    simp [this]
theorem pw_succ (k : Nat) : wrap64 (pw k + pw k) = pw (k + 1) := by
  unfold pw wrap64
  rw [Int.pow_succ]
  omega
theorem sm_yes (both : Bool) (a b : Int) (k : Nat) (h : joinB both (bitB a k) (bitB b k) = true) : wrap64 (sm both a b k + pw k) = sm both a b (k + 1) := by
  unfold sm pw
  rw [sumB, h]
  unfold wrap64
  simp only [if_true]
  omega
theorem sm_no (both : Bool) (a b : Int) (k : Nat) (h : joinB both (bitB a k) (bitB b k) = false) : sm both a b k = sm both a b (k + 1) := by
  unfold sm
  rw [sumB, h]
  simp
theorem testBit_of (a : Int) (j : Nat) (hj : j < 64) : (BitVec.ofInt 64 a).toNat.testBit j = bitB a j := by
  rw [BitVec.toNat_ofInt, Nat.testBit_eq_decide_div_mod_eq]
  unfold bitB
  have hp : (2 : Int) ^ 64 = 2 ^ j * 2 ^ (64 - j) := by rw [← Int.pow_add]; congr 1; omega
  have hn : (0 : Int) ≤ a % 2 ^ 64 := Int.emod_nonneg _ (by decide)
  have e1 : (((a % ((2 ^ 64 : Nat) : Int)).toNat / 2 ^ j % 2 : Nat) : Int) = a % 2 ^ 64 / 2 ^ j % 2 := by
    rw [Int.natCast_emod, Int.natCast_ediv, Int.toNat_of_nonneg (by simpa using hn)]
    simp
  have hq : a % 2 ^ 64 / 2 ^ j % 2 = a / 2 ^ j % 2 := by
    have hd : a = a % 2 ^ 64 + 2 ^ j * (2 ^ (64 - j) * (a / 2 ^ 64)) := by
      rw [← Int.mul_assoc, ← hp]; exact (Int.emod_add_mul_ediv a _).symm
    have hpos : (2 : Int) ^ j ≠ 0 := by have : (0 : Int) < 2 ^ j := Int.pow_pos (by decide); omega
    have h2 : (2 : Int) ^ (64 - j) = 2 * 2 ^ (63 - j) := by rw [show 64 - j = (63 - j) + 1 by omega, Int.pow_succ, Int.mul_comm]
    conv => rhs; rw [hd]
    rw [Int.add_mul_ediv_left _ _ hpos, h2, Int.mul_assoc, Int.add_mul_emod_self_left]
  rw [hq] at e1
  by_cases h : a / 2 ^ j % 2 = 1
  · rw [h] at e1
    simp only [h, beq_self_eq_true, decide_eq_true_eq]
    omega
  · have h0 : ((a / 2 ^ j % 2) == 1) = false := by simpa using h
    rw [h0]
    simp only [decide_eq_false_iff_not]
    intro hc
    rw [hc] at e1
    exact h e1.symm
theorem sumB_nat (both : Bool) (a b : Int) (X : Nat) (hX : ∀ j, j < 64 → X.testBit j = joinB both (bitB a j) (bitB b j)) (k : Nat) (hk : k ≤ 64) : sumB both a b k = ((X % 2 ^ k : Nat) : Int) := by
  induction k with
  | zero => simp [sumB, Nat.mod_one]
  | succ k ih =>
    rw [sumB, ih (by omega), ← hX k (by omega), Nat.pow_succ, Nat.mod_mul, Nat.testBit_eq_decide_div_mod_eq]
    by_cases h : X / 2 ^ k % 2 = 1
    · simp [h]
    · have h0 : X / 2 ^ k % 2 = 0 := by omega
      simp [h0]
theorem sm_and (a b : Int) : sm true a b 64 = bits BinOp.and IntKind.i64 a b := by
  have h := sumB_nat true a b (BitVec.ofInt 64 a &&& BitVec.ofInt 64 b).toNat (fun j hj => by
    rw [BitVec.toNat_and, Nat.testBit_and, testBit_of a j hj, testBit_of b j hj]; rfl) 64 (Nat.le_refl _)
  unfold sm
  rw [h, Nat.mod_eq_of_lt (BitVec.isLt _)]
  exact (IntWalk.i64_left _).symm
theorem sm_or (a b : Int) : sm false a b 64 = bits BinOp.or IntKind.i64 a b := by
  have h := sumB_nat false a b (BitVec.ofInt 64 a ||| BitVec.ofInt 64 b).toNat (fun j hj => by
    rw [BitVec.toNat_or, Nat.testBit_or, testBit_of a j hj, testBit_of b j hj]; rfl) 64 (Nat.le_refl _)
  unfold sm
  rw [h, Nat.mod_eq_of_lt (BitVec.isLt _)]
  exact (IntWalk.i64_left _).symm
end Go.Proofs.Ytjoebigdhocikaa.numOps
