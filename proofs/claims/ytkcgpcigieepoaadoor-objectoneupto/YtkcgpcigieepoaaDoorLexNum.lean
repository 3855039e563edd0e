/- Rows of digits and the numbers that they spell: what chapter 2 says by length and order is what the library's parser says by value. No Go in sight. -/
import Derived.Test.YtkcgpcigieepoaaDoorLexSpec
import Derived.Lib.ParseIntB
namespace Go.Proofs.YtkcgpcigieepoaaDoor.lexs

def val : List UInt8 → Nat
  | [] => 0
  | c :: r => (c.toNat - 48) * 10 ^ r.length + val r
theorem dig_bounds {c : UInt8} (h : digB c = true) : 48 ≤ c.toNat ∧ c.toNat ≤ 57 := by
  unfold digB digI at h
  have := of_decide_eq_true h
  omega
theorem val_lt (l : List UInt8) (h : l.all digB = true) : val l < 10 ^ l.length := by
  induction l with
  | nil => simp [val]
  | cons c r ih =>
    rw [List.all_cons, Bool.and_eq_true] at h
    have hb := dig_bounds h.1
    have := ih h.2
    rw [val, List.length_cons, Nat.pow_succ]
    have h2 : (c.toNat - 48) * 10 ^ r.length ≤ 9 * 10 ^ r.length := Nat.mul_le_mul_right _ (by omega)
    omega
theorem parseM (l : List UInt8) (h : l.all digB = true) (acc : Nat) (ha : acc ≤ 18446744073709551615) :
    Lib.parseUintM (2 ^ 64 - 1) acc l = if acc * 10 ^ l.length + val l ≤ 18446744073709551615 then .ok (acc * 10 ^ l.length + val l) else .range := by
  induction l generalizing acc with
  | nil => simp [Lib.parseUintM, val, ha]
  | cons c r ih =>
    rw [List.all_cons, Bool.and_eq_true] at h
    have hb := dig_bounds h.1
    have hT : 1 ≤ 10 ^ r.length := Nat.pow_pos (by omega)
    have key : acc * 10 ^ (c :: r).length + val (c :: r) = (acc * 10 + (c.toNat - 48)) * 10 ^ r.length + val r := by
      rw [val, List.length_cons, Nat.pow_succ, Nat.add_mul, Nat.mul_comm (10 ^ r.length) 10, Nat.mul_assoc, Nat.add_assoc]
    have big : (acc * 10 + (c.toNat - 48)) ≤ (acc * 10 + (c.toNat - 48)) * 10 ^ r.length := Nat.le_mul_of_pos_right _ hT
    rw [key, Lib.parseUintM, if_pos hb]
    by_cases h1 : 1844674407370955162 ≤ acc
    · rw [if_pos h1, if_neg (by omega)]
    · rw [if_neg h1]
      by_cases h2 : 2 ^ 64 - 1 < acc * 10 + (c.toNat - 48)
      · rw [if_pos h2, if_neg (by omega)]
      · rw [if_neg h2, ih h.2 _ (by omega)]
theorem parse_all (l : List UInt8) (h : l.all digB = true) (h0 : l ≠ []) : Lib.parseIntB 64 l = if val l < 9223372036854775808 then .ok (val l : Int) else .range := by
  obtain ⟨c, r, rfl⟩ := List.exists_cons_of_ne_nil h0
  have hb := dig_bounds (by rw [List.all_cons, Bool.and_eq_true] at h; exact h.1 : digB c = true)
  have e := parseM (c :: r) h 0 (by omega)
  rw [Nat.zero_mul, Nat.zero_add] at e
  have n45 : ¬ c.toNat = 45 := by omega
  have n43 : ¬ (c.toNat = 43 ∨ c.toNat = 45) := by omega
  unfold Lib.parseIntB
  simp only [n43, if_false]
  rw [Lib.parseUintB, if_neg h0, e]
  by_cases hm : val (c :: r) ≤ 18446744073709551615
  · rw [if_pos hm]
    simp only [n45, not_false_eq_true, true_and, false_and, if_false]
    by_cases hv : val (c :: r) < 9223372036854775808
    · rw [if_pos hv, if_neg (by omega)]
    · rw [if_neg hv, if_pos (by omega)]
  · rw [if_neg hm, if_neg (by omega)]
theorem less_val (a b : List UInt8) (hl : a.length = b.length) (ha : a.all digB = true) (hb : b.all digB = true) : Op.bytesLess a b = decide (val a < val b) ∧ (a == b) = decide (val a = val b) := by
  induction a generalizing b with
  | nil =>
    have : b = [] := List.eq_nil_of_length_eq_zero (by simpa using hl.symm)
    subst this
    simp [Op.bytesLess, val]
  | cons x a ih =>
    obtain ⟨y, b, rfl⟩ : ∃ y r, b = y :: r := List.exists_cons_of_ne_nil (by intro e; rw [e] at hl; simp at hl)
    have hl' : a.length = b.length := by simpa using hl
    rw [List.all_cons, Bool.and_eq_true] at ha hb
    have hx := dig_bounds ha.1
    have hy := dig_bounds hb.1
    have va := val_lt a ha.2
    have vb := val_lt b hb.2
    obtain ⟨i1, i2⟩ := ih b hl' ha.2 hb.2
    rw [Op.bytesLess, i1, List.cons_beq_cons, i2, val, val, hl']
    rw [hl'] at va
    rcases Nat.lt_trichotomy x.toNat y.toNat with h | h | h
    · have h1 : x < y := h
      have h2 : ¬ x = y := by intro e; rw [e] at h; omega
      have hm : (x.toNat - 48 + 1) * 10 ^ b.length ≤ (y.toNat - 48) * 10 ^ b.length := Nat.mul_le_mul_right _ (by omega)
      rw [Nat.add_mul, Nat.one_mul] at hm
      have hA : (x.toNat - 48) * 10 ^ b.length + val a < (y.toNat - 48) * 10 ^ b.length + val b := by omega
      have h3 : (x == y) = false := by simp [h2]
      rw [decide_eq_true h1, decide_eq_true hA, decide_eq_false (Nat.ne_of_lt hA), h3]
      exact ⟨rfl, rfl⟩
    · have h1 : x = y := UInt8.toNat_inj.1 h
      subst h1
      simp
    · have h1 : ¬ x < y := by intro e; have : x.toNat < y.toNat := e; omega
      have h2 : ¬ x = y := by intro e; rw [e] at h; omega
      have hm : (y.toNat - 48 + 1) * 10 ^ b.length ≤ (x.toNat - 48) * 10 ^ b.length := Nat.mul_le_mul_right _ (by omega)
      rw [Nat.add_mul, Nat.one_mul] at hm
      have hA : (y.toNat - 48) * 10 ^ b.length + val b < (x.toNat - 48) * 10 ^ b.length + val a := by omega
      have h3 : (x == y) = false := by simp [h2]
      rw [decide_eq_false h1, decide_eq_false (Nat.lt_asymm hA), decide_eq_false (Nat.ne_of_gt hA), h3]
      exact ⟨rfl, rfl⟩
theorem numE_val (l : List UInt8) (h : l.all digB = true) (h0 : l ≠ []) (hz : (decide (1 < l.length) && l.headD 0 == 48) = false) : numE l = if val l < 9223372036854775808 then 0 else 6 := by
  have hv := val_lt l h
  rw [numE, if_neg (by simp [h]), if_neg (by rw [hz]; decide)]
  rcases Nat.lt_trichotomy l.length 19 with hl | hl | hl
  · have h1 : 10 ^ l.length ≤ 10 ^ 18 := Nat.pow_le_pow_right (by omega) (by omega)
    have h2 : (10 : Nat) ^ 18 = 1000000000000000000 := by decide
    have a1 : ¬ 19 < l.length := by omega
    have a2 : ¬ l.length = 19 := by omega
    rw [if_pos (show val l < 9223372036854775808 by omega), if_neg (by simp [a1, a2])]
  · have hm : most.length = 19 := by decide
    have vm : val most = 9223372036854775807 := by decide
    obtain ⟨e1, e2⟩ := less_val l most (by rw [hl, hm]) h (by decide)
    rw [e1, e2, vm, hl]
    by_cases hlt : val l < 9223372036854775808
    · rw [if_pos hlt, if_neg (by simp; omega)]
    · rw [if_neg hlt, if_pos (by simp; omega)]
  · obtain ⟨c, r, rfl⟩ := List.exists_cons_of_ne_nil h0
    have hc := dig_bounds (by rw [List.all_cons, Bool.and_eq_true] at h; exact h.1 : digB c = true)
    have hne : c.toNat ≠ 48 := by
      intro e
      have : c = 48 := UInt8.toNat_inj.1 e
      subst this
      have : 1 < (48 :: r : List UInt8).length := by omega
      rw [decide_eq_true this] at hz
      simp at hz
    have h2 : (10 : Nat) ^ 19 = 10000000000000000000 := by decide
    have h1 : 10 ^ 19 ≤ 10 ^ r.length := Nat.pow_le_pow_right (by omega) (by simp at hl; omega)
    have h3 : 1 * 10 ^ r.length ≤ (c.toNat - 48) * 10 ^ r.length := Nat.mul_le_mul_right _ (by omega)
    have hb : ¬ val (c :: r) < 9223372036854775808 := by rw [val]; omega
    rw [if_neg hb, if_pos (by simp only [hl, decide_true, Bool.true_or])]
end Go.Proofs.YtkcgpcigieepoaaDoor.lexs
