/- Of the tokens that a text has: those that are numbers are rows of digits that fit; and there are at most as many as there are bytes. No Go in sight. -/
import Derived.RowKit
import Derived.Lib.ParseIntB
import Derived.Lib.Strings
set_option linter.unusedVariables false
namespace Go.Proofs.YtoobkaebahogdaaGreatDoor
namespace lexs

/-- of a byte, as the program holds it -/
def ltrI (c : Int) : Bool := decide (97 ≤ c ∧ c ≤ 122) || decide (65 ≤ c ∧ c ≤ 90)
def digI (c : Int) : Bool := decide (48 ≤ c ∧ c ≤ 57)
def insI (c : Int) : Bool := ltrI c || digI c || c == 95
def ltrB (c : UInt8) : Bool := ltrI (c.toNat : Int)
def digB (c : UInt8) : Bool := digI (c.toNat : Int)
def insB (c : UInt8) : Bool := insI (c.toNat : Int)
def most : List UInt8 := [57, 50, 50, 51, 51, 55, 50, 48, 51, 54, 56, 53, 52, 55, 55, 53, 56, 48, 55]
/-- what is wrong with a row that begins with a digit -/
def numE (l : List UInt8) : Int :=
  if l.all digB = false then 2
  else if decide (1 < l.length) && l.headD 0 == 48 then 2
  else if decide (19 < l.length) || (l.length == 19 && (!Op.bytesLess l most && !(l == most))) then 6
  else 0
/-- the signs of one byte -/
def ones : List UInt8 := [123, 125, 40, 41, 91, 93, 59, 44, 46, 61, 60, 43, 45, 42, 47, 37, 38, 124, 33]
def signLen (l : List UInt8) : Nat :=
  if l.headD 0 == 61 && (l.drop 1).headD 0 == 61 then 2 else if ones.contains (l.headD 0) then 1 else 0
/-- how many bytes stand at the head that are such -/
def run (p : UInt8 → Bool) (l : List UInt8) : Nat := (l.takeWhile p).length

inductive Step where
  | skip (n : Nat)
  | fault (c : Int)
  | tok (k : Int) (n : Nat)

def stepB (c : UInt8) (l : List UInt8) : Step :=
  if c == 32 || c == 10 then .skip 1
  else if c == 35 then .skip (run (fun b => b != 10) l)
  else if ltrB c then (if 16 < run insB l then .fault 1 else .tok 1 (run insB l))
  else if digB c then (if numE (l.take (run insB l)) == 0 then .tok 2 (run insB l) else .fault (numE (l.take (run insB l))))
  else if signLen l == 0 then .fault 2 else .tok 3 (signLen l)

def stepL (l : List UInt8) : Step := stepB (l.headD 0) l

structure Tok where
  kind : Int
  text : List UInt8
  at_ : Nat

inductive Res where
  | ok (l : List Tok)
  | err (c : Int) (at_ : Nat)

def scanL : Nat → List UInt8 → Nat → List Tok → Res
  | 0, _, _, acc => .ok acc
  | _ + 1, [], _, acc => .ok acc
  | f + 1, b :: r, i, acc =>
    match stepL (b :: r) with
    | .skip n => scanL f ((b :: r).drop n) (i + n) acc
    | .fault c => .err c i
    | .tok k n => scanL f ((b :: r).drop n) (i + n) (acc ++ [⟨k, (b :: r).take n, i⟩])

def scan (l : List UInt8) : Res := if 3000 < l.length then .err 1 0 else scanL l.length l 0 []

/-! ### rows of bytes -/
theorem run_le (p : UInt8 → Bool) (l : List UInt8) : run p l ≤ l.length := (List.takeWhile_sublist p).length_le
theorem run_eq (p : UInt8 → Bool) (l : List UInt8) (n : Nat) (h1 : ∀ j (h : j < l.length), j < n → p l[j] = true) (h2 : n = l.length ∨ ∃ h : n < l.length, p l[n] = false) : run p l = n := by
  induction l generalizing n with
  | nil =>
    rcases h2 with h | ⟨h, _⟩
    · simp [run, h]
    · simp at h
  | cons c r ih =>
    unfold run at ih ⊢
    cases n with
    | zero =>
      rcases h2 with h | ⟨h, hp⟩
      · simp at h
      · simp only [List.getElem_cons_zero] at hp
        simp [hp]
    | succ n =>
      have h0 : p c = true := h1 0 (by simp) (by omega)
      rw [List.takeWhile_cons, if_pos h0, List.length_cons, ih n]
      · intro j hj hn
        exact h1 (j + 1) (by simp; omega) (by omega)
      · rcases h2 with h | ⟨h, hp⟩
        · left; simpa using h
        · right; exact ⟨by simpa using h, by simpa using hp⟩
theorem run_pos (p : UInt8 → Bool) (c : UInt8) (r : List UInt8) (h : p c = true) : 0 < run p (c :: r) := by
  simp [run, h]
theorem signLen_le (l : List UInt8) : signLen l ≤ l.length := by
  unfold signLen
  rcases l with _ | ⟨a, _ | ⟨b, r⟩⟩
  · simp [ones]
  · simp; split <;> simp
  · split <;> (try split) <;> simp
theorem ltrB_insB {c : UInt8} (h : ltrB c = true) : insB c = true := by unfold ltrB at h; unfold insB insI; simp [h]
theorem digB_insB {c : UInt8} (h : digB c = true) : insB c = true := by unfold digB at h; unfold insB insI; simp [h]
/-- each step goes on, and not beyond the end -/
theorem stepL_skip {b : UInt8} {r : List UInt8} {n : Nat} (h : stepL (b :: r) = .skip n) : 0 < n ∧ n ≤ r.length + 1 := by
  rw [stepL, List.headD_cons, stepB] at h
  by_cases h1 : (b == 32 || b == 10) = true
  · rw [if_pos h1] at h; injection h with h; omega
  rw [if_neg h1] at h
  by_cases h2 : (b == 35) = true
  · rw [if_pos h2] at h
    injection h with h
    have hb : b = 35 := by simpa using h2
    have := run_pos (fun b => b != 10) b r (by rw [hb]; decide)
    have h3 := run_le (fun b => b != 10) (b :: r)
    simp only [List.length_cons] at h3
    omega
  rw [if_neg h2] at h
  split at h
  · split at h <;> simp at h
  · split at h
    · split at h <;> simp at h
    · split at h <;> simp at h
theorem stepL_tok {b : UInt8} {r : List UInt8} {k : Int} {n : Nat} (h : stepL (b :: r) = .tok k n) : 0 < n ∧ n ≤ r.length + 1 := by
  rw [stepL, List.headD_cons, stepB] at h
  by_cases h1 : (b == 32 || b == 10) = true
  · rw [if_pos h1] at h; simp at h
  rw [if_neg h1] at h
  by_cases h2 : (b == 35) = true
  · rw [if_pos h2] at h; simp at h
  rw [if_neg h2] at h
  have hr := run_le insB (b :: r)
  simp only [List.length_cons] at hr
  split at h
  · rename_i hl
    have := run_pos insB b r (ltrB_insB hl)
    split at h
    · simp at h
    · injection h with _ h; omega
  · split at h
    · rename_i hd
      have := run_pos insB b r (digB_insB hd)
      split at h
      · injection h with _ h; omega
      · simp at h
    · split at h
      · simp at h
      · rename_i hs
        injection h with _ h
        have h3 := signLen_le (b :: r)
        simp only [List.length_cons] at h3
        have : signLen (b :: r) ≠ 0 := by simpa using hs
        omega
/-! ### one round of the scan, at whatever fuel is enough -/
theorem scanL_end (f : Nat) (i : Nat) (acc : List Tok) : scanL f [] i acc = .ok acc := by cases f <;> rfl
theorem scanL_skip {f : Nat} {b : UInt8} {r : List UInt8} {i n : Nat} {acc : List Tok} (h : stepL (b :: r) = .skip n) : scanL (f + 1) (b :: r) i acc = scanL f ((b :: r).drop n) (i + n) acc := by
  rw [scanL, h]
theorem scanL_fault {f : Nat} {b : UInt8} {r : List UInt8} {i : Nat} {c : Int} {acc : List Tok} (h : stepL (b :: r) = .fault c) : scanL (f + 1) (b :: r) i acc = .err c i := by
  rw [scanL, h]
theorem scanL_tok {f : Nat} {b : UInt8} {r : List UInt8} {i n : Nat} {k : Int} {acc : List Tok} (h : stepL (b :: r) = .tok k n) : scanL (f + 1) (b :: r) i acc = scanL f ((b :: r).drop n) (i + n) (acc ++ [⟨k, (b :: r).take n, i⟩]) := by
  rw [scanL, h]

def val : List UInt8 → Nat
  | [] => 0
  | c :: r => (c.toNat - 48) * 10 ^ r.length + val r
theorem dig_bounds {c : UInt8} (h : digB c = true) : 48 ≤ c.toNat ∧ c.toNat ≤ 57 := by
  unfold digB digI at h
  have := of_decide_eq_true h
  omega
theorem val_lt (l : List UInt8) (h : l.all digB = true) : val l < 10 ^ l.length := by
  induction l with
  | nil => simp [val]
  | cons c r ih =>
    rw [List.all_cons, Bool.and_eq_true] at h
    have hb := dig_bounds h.1
    have := ih h.2
    rw [val, List.length_cons, Nat.pow_succ]
    have h2 : (c.toNat - 48) * 10 ^ r.length ≤ 9 * 10 ^ r.length := Nat.mul_le_mul_right _ (by omega)
    omega
theorem parseM (l : List UInt8) (h : l.all digB = true) (acc : Nat) (ha : acc ≤ 18446744073709551615) :
    Lib.parseUintM (2 ^ 64 - 1) acc l = if acc * 10 ^ l.length + val l ≤ 18446744073709551615 then .ok (acc * 10 ^ l.length + val l) else .range := by
  induction l generalizing acc with
  | nil => simp [Lib.parseUintM, val, ha]
  | cons c r ih =>
    rw [List.all_cons, Bool.and_eq_true] at h
    have hb := dig_bounds h.1
    have hT : 1 ≤ 10 ^ r.length := Nat.pow_pos (by omega)
    have key : acc * 10 ^ (c :: r).length + val (c :: r) = (acc * 10 + (c.toNat - 48)) * 10 ^ r.length + val r := by
      rw [val, List.length_cons, Nat.pow_succ, Nat.add_mul, Nat.mul_comm (10 ^ r.length) 10, Nat.mul_assoc, Nat.add_assoc]
    have big : (acc * 10 + (c.toNat - 48)) ≤ (acc * 10 + (c.toNat - 48)) * 10 ^ r.length := Nat.le_mul_of_pos_right _ hT
    rw [key, Lib.parseUintM, if_pos hb]
    by_cases h1 : 1844674407370955162 ≤ acc
    · rw [if_pos h1, if_neg (by omega)]
    · rw [if_neg h1]
      by_cases h2 : 2 ^ 64 - 1 < acc * 10 + (c.toNat - 48)
      · rw [if_pos h2, if_neg (by omega)]
      · rw [if_neg h2, ih h.2 _ (by omega)]
theorem parse_all (l : List UInt8) (h : l.all digB = true) (h0 : l ≠ []) : Lib.parseIntB 64 l = if val l < 9223372036854775808 then .ok (val l : Int) else .range := by
  obtain ⟨c, r, rfl⟩ := List.exists_cons_of_ne_nil h0
  have hb := dig_bounds (by rw [List.all_cons, Bool.and_eq_true] at h; exact h.1 : digB c = true)
  have e := parseM (c :: r) h 0 (by omega)
  rw [Nat.zero_mul, Nat.zero_add] at e
  have n45 : ¬ c.toNat = 45 := by omega
  have n43 : ¬ (c.toNat = 43 ∨ c.toNat = 45) := by omega
  unfold Lib.parseIntB
  simp only [n43, if_false]
  rw [Lib.parseUintB, if_neg h0, e]
  by_cases hm : val (c :: r) ≤ 18446744073709551615
  · rw [if_pos hm]
    simp only [n45, not_false_eq_true, true_and, false_and, if_false]
    by_cases hv : val (c :: r) < 9223372036854775808
    · rw [if_pos hv, if_neg (by omega)]
    · rw [if_neg hv, if_pos (by omega)]
  · rw [if_neg hm, if_neg (by omega)]
theorem less_val (a b : List UInt8) (hl : a.length = b.length) (ha : a.all digB = true) (hb : b.all digB = true) : Op.bytesLess a b = decide (val a < val b) ∧ (a == b) = decide (val a = val b) := by
  induction a generalizing b with
  | nil =>
    have : b = [] := List.eq_nil_of_length_eq_zero (by simpa using hl.symm)
    subst this
    simp [Op.bytesLess, val]
  | cons x a ih =>
    obtain ⟨y, b, rfl⟩ : ∃ y r, b = y :: r := List.exists_cons_of_ne_nil (by intro e; rw [e] at hl; simp at hl)
    have hl' : a.length = b.length := by simpa using hl
    rw [List.all_cons, Bool.and_eq_true] at ha hb
    have hx := dig_bounds ha.1
    have hy := dig_bounds hb.1
    have va := val_lt a ha.2
    have vb := val_lt b hb.2
    obtain ⟨i1, i2⟩ := ih b hl' ha.2 hb.2
    rw [Op.bytesLess, i1, List.cons_beq_cons, i2, val, val, hl']
    rw [hl'] at va
    rcases Nat.lt_trichotomy x.toNat y.toNat with h | h | h
    · have h1 : x < y := h
      have h2 : ¬ x = y := by intro e; rw [e] at h; omega
      have hm : (x.toNat - 48 + 1) * 10 ^ b.length ≤ (y.toNat - 48) * 10 ^ b.length := Nat.mul_le_mul_right _ (by omega)
      rw [Nat.add_mul, Nat.one_mul] at hm
      have hA : (x.toNat - 48) * 10 ^ b.length + val a < (y.toNat - 48) * 10 ^ b.length + val b := by omega
      have h3 : (x == y) = false := by simp [h2]
      rw [decide_eq_true h1, decide_eq_true hA, decide_eq_false (Nat.ne_of_lt hA), h3]
      exact ⟨rfl, rfl⟩
    · have h1 : x = y := UInt8.toNat_inj.1 h
      subst h1
      simp
    · have h1 : ¬ x < y := by intro e; have : x.toNat < y.toNat := e; omega
      have h2 : ¬ x = y := by intro e; rw [e] at h; omega
      have hm : (y.toNat - 48 + 1) * 10 ^ b.length ≤ (x.toNat - 48) * 10 ^ b.length := Nat.mul_le_mul_right _ (by omega)
      rw [Nat.add_mul, Nat.one_mul] at hm
      have hA : (y.toNat - 48) * 10 ^ b.length + val b < (x.toNat - 48) * 10 ^ b.length + val a := by omega
      have h3 : (x == y) = false := by simp [h2]
      rw [decide_eq_false h1, decide_eq_false (Nat.lt_asymm hA), decide_eq_false (Nat.ne_of_gt hA), h3]
      exact ⟨rfl, rfl⟩
theorem numE_val (l : List UInt8) (h : l.all digB = true) (h0 : l ≠ []) (hz : (decide (1 < l.length) && l.headD 0 == 48) = false) : numE l = if val l < 9223372036854775808 then 0 else 6 := by
  have hv := val_lt l h
  rw [numE, if_neg (by simp [h]), if_neg (by rw [hz]; decide)]
  rcases Nat.lt_trichotomy l.length 19 with hl | hl | hl
  · have h1 : 10 ^ l.length ≤ 10 ^ 18 := Nat.pow_le_pow_right (by omega) (by omega)
    have h2 : (10 : Nat) ^ 18 = 1000000000000000000 := by decide
    have a1 : ¬ 19 < l.length := by omega
    have a2 : ¬ l.length = 19 := by omega
    rw [if_pos (show val l < 9223372036854775808 by omega), if_neg (by simp [a1, a2])]
  · have hm : most.length = 19 := by decide
    have vm : val most = 9223372036854775807 := by decide
    obtain ⟨e1, e2⟩ := less_val l most (by rw [hl, hm]) h (by decide)
    rw [e1, e2, vm, hl]
    by_cases hlt : val l < 9223372036854775808
    · rw [if_pos hlt, if_neg (by simp; omega)]
    · rw [if_neg hlt, if_pos (by simp; omega)]
  · obtain ⟨c, r, rfl⟩ := List.exists_cons_of_ne_nil h0
    have hc := dig_bounds (by rw [List.all_cons, Bool.and_eq_true] at h; exact h.1 : digB c = true)
    have hne : c.toNat ≠ 48 := by
      intro e
      have : c = 48 := UInt8.toNat_inj.1 e
      subst this
      have : 1 < (48 :: r : List UInt8).length := by omega
      rw [decide_eq_true this] at hz
      simp at hz
    have h2 : (10 : Nat) ^ 19 = 10000000000000000000 := by decide
    have h1 : 10 ^ 19 ≤ 10 ^ r.length := Nat.pow_le_pow_right (by omega) (by simp at hl; omega)
    have h3 : 1 * 10 ^ r.length ≤ (c.toNat - 48) * 10 ^ r.length := Nat.mul_le_mul_right _ (by omega)
    have hb : ¬ val (c :: r) < 9223372036854775808 := by rw [val]; omega
    rw [if_neg hb, if_pos (by simp only [hl, decide_true, Bool.true_or])]

theorem len_L (s : ByteArray) : s.data.toList.length = s.size := by simp
theorem byte_is (b c : UInt8) (n : Int) (hn : n = (c.toNat : Int)) : ((b.toNat : Int) == n) = (b == c) := by
  subst hn
  rw [Bool.eq_iff_iff]
  simp only [beq_iff_eq]
  constructor
  · intro h; exact UInt8.toNat_inj.1 (by omega)
  · intro h; rw [h]
theorem drop_cons (s : ByteArray) (p : Nat) (h : p < s.size) : s.data.toList.drop p = s[p] :: s.data.toList.drop (p + 1) := by
  rw [List.drop_eq_getElem_cons (by rw [len_L]; exact h)]
  rfl
theorem run_at (P : UInt8 → Bool) (s : ByteArray) (p n : Nat) (hp : p + n ≤ s.size) (h1 : ∀ j (h : j < s.size), p ≤ j → j < p + n → P s[j] = true)
    (h2 : p + n = s.size ∨ ∃ h : p + n < s.size, P s[p + n] = false) : run P (s.data.toList.drop p) = n := by
  apply run_eq
  · intro j hj hn
    rw [List.length_drop, len_L] at hj
    rw [List.getElem_drop]
    exact h1 (p + j) (by omega) (by omega) (by omega)
  · rcases h2 with h | ⟨h, hP⟩
    · left; rw [List.length_drop, len_L]; omega
    · right
      refine ⟨by rw [List.length_drop, len_L]; omega, ?_⟩
      rw [List.getElem_drop]
      exact hP
theorem extract_is (s : ByteArray) (p n : Nat) : s.extract p (p + n) = ⟨((s.data.toList.drop p).take n).toArray⟩ := by
  apply WideShapes.bytes_inj
  rw [Lib.extract_data]
  simp
/-! the ways of a step, c the byte at hand -/
section
variable {s : ByteArray} {p : Nat} (hp : p < s.size)
include hp
theorem st_blank (h : ((s[p].toNat : Int) == 32) = true ∨ ((s[p].toNat : Int) == 10) = true) : stepL (s.data.toList.drop p) = .skip 1 := by
  rw [byte_is _ 32 32 rfl, byte_is _ 10 10 rfl] at h
  rw [drop_cons s p hp, stepL, List.headD_cons, stepB, if_pos]
  rcases h with h | h <;> simp [h]
theorem st_note (h1 : ((s[p].toNat : Int) == 32) = false) (h2 : ((s[p].toNat : Int) == 10) = false) (h3 : ((s[p].toNat : Int) == 35) = true) {n : Nat} (hr : run (fun b => b != 10) (s.data.toList.drop p) = n) :
    stepL (s.data.toList.drop p) = .skip n := by
  rw [byte_is _ 32 32 rfl] at h1
  rw [byte_is _ 10 10 rfl] at h2
  rw [byte_is _ 35 35 rfl] at h3
  rw [← hr, drop_cons s p hp, stepL, List.headD_cons, stepB, if_neg (by simp [h1, h2]), if_pos h3]
theorem st_base (h1 : ((s[p].toNat : Int) == 32) = false) (h2 : ((s[p].toNat : Int) == 10) = false) (h3 : ((s[p].toNat : Int) == 35) = false) :
    stepL (s.data.toList.drop p) = (if ltrI (s[p].toNat : Int) then (if 16 < run insB (s.data.toList.drop p) then .fault 1 else .tok 1 (run insB (s.data.toList.drop p)))
      else if digI (s[p].toNat : Int) then (if numE ((s.data.toList.drop p).take (run insB (s.data.toList.drop p))) == 0 then .tok 2 (run insB (s.data.toList.drop p)) else .fault (numE ((s.data.toList.drop p).take (run insB (s.data.toList.drop p)))))
      else if signLen (s.data.toList.drop p) == 0 then .fault 2 else .tok 3 (signLen (s.data.toList.drop p))) := by
  rw [byte_is _ 32 32 rfl] at h1
  rw [byte_is _ 10 10 rfl] at h2
  rw [byte_is _ 35 35 rfl] at h3
  rw [stepL]
  have e : (s.data.toList.drop p).headD 0 = s[p] := by rw [drop_cons s p hp, List.headD_cons]
  rw [e, stepB, if_neg (by simp [h1, h2]), if_neg (by simp [h3])]
  rfl
theorem st_word (h1 : ((s[p].toNat : Int) == 32) = false) (h2 : ((s[p].toNat : Int) == 10) = false) (h3 : ((s[p].toNat : Int) == 35) = false) (hl : ltrI (s[p].toNat : Int) = true) {n : Nat} (hr : run insB (s.data.toList.drop p) = n) (hn : n ≤ 16) :
    stepL (s.data.toList.drop p) = .tok 1 n := by
  rw [st_base hp h1 h2 h3, if_pos hl, hr, if_neg (by omega)]
theorem st_long (h1 : ((s[p].toNat : Int) == 32) = false) (h2 : ((s[p].toNat : Int) == 10) = false) (h3 : ((s[p].toNat : Int) == 35) = false) (hl : ltrI (s[p].toNat : Int) = true) {n : Nat} (hr : run insB (s.data.toList.drop p) = n) (hn : 16 < n) :
    stepL (s.data.toList.drop p) = .fault 1 := by
  rw [st_base hp h1 h2 h3, if_pos hl, hr, if_pos hn]
theorem st_num (h1 : ((s[p].toNat : Int) == 32) = false) (h2 : ((s[p].toNat : Int) == 10) = false) (h3 : ((s[p].toNat : Int) == 35) = false) (hl : ltrI (s[p].toNat : Int) = false) (hd : digI (s[p].toNat : Int) = true) {n : Nat} (hr : run insB (s.data.toList.drop p) = n)
    (he : (numE ((s.data.toList.drop p).take n) == 0) = true) : stepL (s.data.toList.drop p) = .tok 2 n := by
  rw [st_base hp h1 h2 h3, if_neg (by simp [hl]), if_pos hd, hr, if_pos he]
theorem st_bad (h1 : ((s[p].toNat : Int) == 32) = false) (h2 : ((s[p].toNat : Int) == 10) = false) (h3 : ((s[p].toNat : Int) == 35) = false) (hl : ltrI (s[p].toNat : Int) = false) (hd : digI (s[p].toNat : Int) = true) {n : Nat} (hr : run insB (s.data.toList.drop p) = n)
    (he : (numE ((s.data.toList.drop p).take n) == 0) = false) : stepL (s.data.toList.drop p) = .fault (numE ((s.data.toList.drop p).take n)) := by
  rw [st_base hp h1 h2 h3, if_neg (by simp [hl]), if_pos hd, hr, if_neg (by simp [he])]
theorem st_sign (h1 : ((s[p].toNat : Int) == 32) = false) (h2 : ((s[p].toNat : Int) == 10) = false) (h3 : ((s[p].toNat : Int) == 35) = false) (hl : ltrI (s[p].toNat : Int) = false) (hd : digI (s[p].toNat : Int) = false) {n : Nat} (hn : signLen (s.data.toList.drop p) = n) (h0 : n ≠ 0) :
    stepL (s.data.toList.drop p) = .tok 3 n := by
  rw [st_base hp h1 h2 h3, if_neg (by simp [hl]), if_neg (by simp [hd]), hn, if_neg (by simpa using h0)]
theorem st_none (h1 : ((s[p].toNat : Int) == 32) = false) (h2 : ((s[p].toNat : Int) == 10) = false) (h3 : ((s[p].toNat : Int) == 35) = false) (hl : ltrI (s[p].toNat : Int) = false) (hd : digI (s[p].toNat : Int) = false) (hn : signLen (s.data.toList.drop p) = 0) :
    stepL (s.data.toList.drop p) = .fault 2 := by
  rw [st_base hp h1 h2 h3, if_neg (by simp [hl]), if_neg (by simp [hd]), hn, if_pos (by rfl)]
/-! the scan goes on -/
theorem go_skip {n f : Nat} {acc : List Tok} {R : Res} (h : stepL (s.data.toList.drop p) = .skip n) (hR : scanL (f + 1) (s.data.toList.drop p) p acc = R) : scanL f (s.data.toList.drop (p + n)) (p + n) acc = R ∧ 0 < n ∧ p + n ≤ s.size := by
  have hl : (s.data.toList.drop (p + 1)).length = s.size - (p + 1) := by rw [List.length_drop, len_L]
  have e := drop_cons s p hp
  rw [e] at h hR
  have hn := stepL_skip h
  rw [scanL_skip h, ← e, List.drop_drop] at hR
  refine ⟨hR, hn.1, by omega⟩
theorem go_tok {n f : Nat} {k : Int} {acc : List Tok} {R : Res} (h : stepL (s.data.toList.drop p) = .tok k n) (hR : scanL (f + 1) (s.data.toList.drop p) p acc = R) :
    scanL f (s.data.toList.drop (p + n)) (p + n) (acc ++ [⟨k, (s.data.toList.drop p).take n, p⟩]) = R ∧ 0 < n ∧ p + n ≤ s.size := by
  have hl : (s.data.toList.drop (p + 1)).length = s.size - (p + 1) := by rw [List.length_drop, len_L]
  have e := drop_cons s p hp
  rw [e] at h hR
  have hn := stepL_tok h
  rw [scanL_tok h, ← e, List.drop_drop] at hR
  refine ⟨hR, hn.1, by omega⟩
theorem go_fault {f : Nat} {c : Int} {acc : List Tok} {R : Res} (h : stepL (s.data.toList.drop p) = .fault c) (hR : scanL (f + 1) (s.data.toList.drop p) p acc = R) : R = .err c p := by
  rw [drop_cons s p hp] at h hR
  rw [scanL_fault h] at hR
  exact hR.symm
end
theorem go_end {s : ByteArray} {p f : Nat} {acc : List Tok} {R : Res} (hp : s.size ≤ p) (hR : scanL f (s.data.toList.drop p) p acc = R) : R = .ok acc := by
  rw [List.drop_eq_nil_of_le (by rw [len_L]; exact hp), scanL_end] at hR
  exact hR.symm
/-! what lies in memory -/
def cellsOf (l : List Tok) : List Value := l.flatMap fun t => [.int .i64 t.kind, .string ⟨t.text.toArray⟩, .int .i64 (t.at_ : Int)]
theorem cellsOf_snoc (l : List Tok) (t : Tok) : cellsOf (l ++ [t]) = cellsOf l ++ [.int .i64 t.kind, .string ⟨t.text.toArray⟩, .int .i64 (t.at_ : Int)] := by simp [cellsOf]
theorem cellsOf_length (l : List Tok) : (cellsOf l).length = l.length * 3 := by
  induction l with
  | nil => rfl
  | cons t l ih => simp only [cellsOf, List.flatMap_cons, List.length_append, List.length_cons] at ih ⊢; simp only [List.length_nil]; omega
def Res.toks : Res → List Tok
  | .ok l => l
  | .err _ _ => []
def Res.code : Res → Int
  | .ok _ => 0
  | .err c _ => c
def Res.place : Res → Int
  | .ok _ => 0
  | .err _ p => (p : Int)
end lexs
namespace syn
open Go.Proofs.YtoobkaebahogdaaGreatDoor.lexs (Tok ltrI insI val)

/-- a node and those under it -/
inductive Tree where
  | node (kind : Int) (text : ByteArray) (num : Int) (kids : List Tree)

/-- where a reader is, and whether it has failed -/
structure St where
  i : Nat
  bad : Bool

def St.fail (s : St) : St := { s with bad := true }
def St.next (s : St) : St := { s with i := s.i + 1 }
def empty : ByteArray := ⟨#[]⟩
/-- one string is another -/
def eqS (x y : ByteArray) : Bool := x.toList == y.toList

section
variable (ts : List Tok)
def here (s : St) : Option Tok := if s.bad then none else ts[s.i]?
def txt (s : St) : ByteArray :=
  match here ts s with
  | none => empty
  | some t => if t.kind == 2 then empty else ⟨t.text.toArray⟩
def eat (x : ByteArray) (s : St) : Bool × St := if eqS (txt ts s) x then (true, s.next) else (false, s)
def must (x : ByteArray) (s : St) : St := if eqS (txt ts s) x then s.next else s.fail
def reserved : List ByteArray := [⟨#[100, 111]⟩, ⟨#[101, 108, 115, 101]⟩, ⟨#[103, 105, 118, 101, 115]⟩, ⟨#[104, 105, 103, 104]⟩, ⟨#[105, 102]⟩, ⟨#[105, 109, 112, 111, 114, 116]⟩, ⟨#[105, 110]⟩, ⟨#[108, 111, 119]⟩, ⟨#[109, 111, 100, 117, 108, 101]⟩, ⟨#[111, 117, 116]⟩, ⟨#[112, 114, 111, 99]⟩, ⟨#[112, 117, 98]⟩, ⟨#[114, 101, 116, 117, 114, 110]⟩, ⟨#[119, 104, 105, 108, 101]⟩]
def isName (x : ByteArray) : Bool :=
  decide (1 ≤ x.size ∧ x.size ≤ 16) && ltrI ((x.data.toList.headD 0).toNat : Int) && x.data.toList.all (fun c => insI (c.toNat : Int)) && !(reserved.any fun y => eqS y x)
def name (s : St) : ByteArray × St := if isName (txt ts s) then (txt ts s, s.next) else (empty, s.fail)
def whole (s : St) : ByteArray × St :=
  let a := name ts s
  let e := eat ts ⟨#[46]⟩ a.2
  if e.1 then (a.1 ++ ⟨#[46]⟩ ++ (name ts e.2).1, (name ts e.2).2) else (a.1, a.2)
def label (s : St) : Int × St :=
  if eqS (txt ts s) ⟨#[104, 105, 103, 104]⟩ then (1, s.next) else (0, must ts ⟨#[108, 111, 119]⟩ s)

def isNum (s : St) : Bool := match here ts s with | none => false | some t => t.kind == 2
def number (s : St) : Tree × St :=
  match here ts s with
  | none => (.node 15 empty 0 [], s.fail)
  | some t => if t.kind == 2 then (.node 15 empty (val t.text : Int) [], s.next) else (.node 15 empty 0 [], s.fail)
def signs : List (ByteArray × Int × Int) := [(⟨#[61, 61]⟩, 9, 0), (⟨#[60]⟩, 8, 0), (⟨#[43]⟩, 1, 1), (⟨#[45]⟩, 2, 1), (⟨#[124]⟩, 7, 1), (⟨#[42]⟩, 3, 2), (⟨#[47]⟩, 4, 2), (⟨#[37]⟩, 5, 2), (⟨#[38]⟩, 6, 2)]
def sign (x : ByteArray) : Int × Int := ((signs.find? fun y => eqS y.1 x).map (·.2)).getD (0, -1)
end
end syn
namespace syn
open Go.Proofs.YtoobkaebahogdaaGreatDoor.lexs (Tok)
section
variable (ts : List Tok)
mutual
def exprF : Nat → St → Option (Tree × St)
  | 0, _ => none
  | f + 1, s => if s.bad then some (.node 0 empty 0 [], s) else boundF f 0 s
def boundF : Nat → Nat → St → Option (Tree × St)
  | 0, _, _ => none
  | f + 1, least, s => if 2 < least then unaryF f s else (boundF f (least + 1) s).bind fun q => boundL f least q.1 q.2
def boundL : Nat → Nat → Tree → St → Option (Tree × St)
  | 0, _, _, _ => none
  | f + 1, least, n, s =>
    if s.bad then some (n, s)
    else if (sign (txt ts s)).2 != (least : Int) then some (n, s)
    else (boundF f (least + 1) s.next).bind fun q =>
      if least == 0 then some (.node 19 empty (sign (txt ts s)).1 [n, q.1], q.2) else boundL f least (.node 19 empty (sign (txt ts s)).1 [n, q.1]) q.2
def unaryF : Nat → St → Option (Tree × St)
  | 0, _ => none
  | f + 1, s =>
    if eqS (txt ts s) ⟨#[45]⟩ then (unaryF f s.next).bind fun q => some (.node 20 empty 0 [q.1], q.2)
    else if eqS (txt ts s) ⟨#[33]⟩ then (unaryF f s.next).bind fun q => some (.node 21 empty 0 [q.1], q.2)
    else if eqS (txt ts s) ⟨#[40]⟩ then askedF f s
    else if isNum ts s then some (number ts s)
    else if eqS (txt ts (whole ts s).2) ⟨#[40]⟩ then callF f (whole ts s).1 (whole ts s).2 else placeF f (whole ts s).1 (whole ts s).2
def askedF : Nat → St → Option (Tree × St)
  | 0, _ => none
  | f + 1, s => (exprF f (must ts ⟨#[40]⟩ s)).bind fun q => some (q.1, must ts ⟨#[41]⟩ q.2)
def placeF : Nat → ByteArray → St → Option (Tree × St)
  | 0, _, _ => none
  | f + 1, x, s =>
    if eqS (txt ts s) ⟨#[91]⟩ then (exprF f s.next).bind fun q => some (.node 17 x 0 [q.1], must ts ⟨#[93]⟩ q.2) else some (.node 16 x 0 [], s)
def callF : Nat → ByteArray → St → Option (Tree × St)
  | 0, _, _ => none
  | f + 1, x, s =>
    if eqS (txt ts (must ts ⟨#[40]⟩ s)) ⟨#[41]⟩ then some (.node 18 x 0 [], (must ts ⟨#[40]⟩ s).next) else callL f x [] (must ts ⟨#[40]⟩ s) true
def callL : Nat → ByteArray → List Tree → St → Bool → Option (Tree × St)
  | 0, _, _, _, _ => none
  | f + 1, x, ks, s, on =>
    if on && !s.bad then (exprF f s).bind fun q => callL f x (ks ++ [q.1]) (eat ts ⟨#[44]⟩ q.2).2 (eat ts ⟨#[44]⟩ q.2).1
    else some (.node 18 x 0 ks, must ts ⟨#[41]⟩ s)
end
end

theorem eqS_empty {x : ByteArray} (h : eqS empty x = true) : x.size = 0 := by
  unfold eqS at h
  rw [beq_iff_eq, ByteArray.toList_eq, ByteArray.toList_eq] at h
  have h2 := congrArg List.length h
  rw [lexs.len_L, lexs.len_L] at h2
  exact h2.symm
/-- where something stands, a token does -/
theorem txt_lt {ts : List Tok} {s : St} {x : ByteArray} (hx : 0 < x.size) (h : eqS (txt ts s) x = true) : s.i < ts.length := by
  unfold txt here at h
  rcases Nat.lt_or_ge s.i ts.length with hl | hl
  · exact hl
  · exfalso
    rw [List.getElem?_eq_none hl] at h
    cases hb : s.bad <;> rw [hb] at h <;> simp at h <;> have := eqS_empty h <;> omega
def sv (k : Nat) : ByteArray := (signs.getD k (empty, 0, -1)).1
def so (k : Nat) : Int := (signs.getD k (empty, 0, -1)).2.1
def sl (k : Nat) : Int := (signs.getD k (empty, 0, -1)).2.2
theorem nine {k : Nat} (h : k < 9) : k = 0 ∨ k = 1 ∨ k = 2 ∨ k = 3 ∨ k = 4 ∨ k = 5 ∨ k = 6 ∨ k = 7 ∨ k = 8 := by omega
theorem sv_at {k : Nat} (h : k < signs.length) : sv k = signs[k].1 ∧ (so k, sl k) = signs[k].2 := by
  unfold sv so sl
  rw [List.getD_eq_getElem?_getD, List.getElem?_eq_getElem h]
  exact ⟨rfl, rfl⟩
theorem sign_none (x : ByteArray) (h : ∀ j, j < 9 → eqS (sv j) x = false) : sign x = (0, -1) := by
  unfold sign
  rw [List.find?_eq_none.2]
  · rfl
  · intro y hy
    obtain ⟨k, hk, rfl⟩ := List.mem_iff_getElem.1 hy
    have := h k hk
    rw [(sv_at hk).1] at this
    simpa using this
theorem eqS_lit (y : ByteArray) (l : List UInt8) : eqS y ⟨l.toArray⟩ = (y.toList == l) := by unfold eqS; rw [ByteArray.toList_eq ⟨l.toArray⟩]
theorem isName_short {x : ByteArray} (h : ¬ (1 ≤ x.size ∧ x.size ≤ 16)) : isName x = false := by unfold isName; rw [decide_eq_false h]; rfl
theorem eqS_self (x : ByteArray) : eqS x x = true := by unfold eqS; exact beq_self_eq_true _
section
variable {ts : List Tok} {s : St}
theorem sign_lt (h : 0 ≤ (sign (txt ts s)).2) : s.i < ts.length := by
  rcases Nat.lt_or_ge s.i ts.length with hl | hl
  · exact hl
  · exfalso
    have he : txt ts s = empty := by
      unfold txt here
      rw [List.getElem?_eq_none hl]
      cases s.bad <;> rfl
    rw [he, sign_none empty (fun j hj => ?_)] at h
    · exact absurd h (by decide)
    · rw [show empty = ⟨([] : List UInt8).toArray⟩ from rfl, eqS_lit (sv j) [], ByteArray.toList_eq]
      rcases nine hj with rfl | rfl | rfl | rfl | rfl | rfl | rfl | rfl | rfl <;> rfl
end

section
variable {ts : List Tok} {s : St}
/-- how many tokens are left to be read -/
def left (ts : List Tok) (s : St) : Nat := if s.bad then 0 else ts.length - s.i
theorem left_fail : left ts s.fail = 0 := rfl
theorem left_bad (h : s.bad = true) : left ts s = 0 := by unfold left; rw [h]; rfl
theorem left_next_le : left ts s.next ≤ left ts s := by
  unfold left St.next
  dsimp only
  split <;> omega
theorem left_hit {x : ByteArray} (hx : 0 < x.size) (h : eqS (txt ts s) x = true) : left ts s.next + 1 = left ts s := by
  have hl := txt_lt hx h
  have hb : s.bad = false := by
    cases hb : s.bad
    · rfl
    · exfalso
      have he : txt ts s = empty := by unfold txt here; rw [hb]; rfl
      rw [he] at h
      have := eqS_empty h
      omega
  unfold left St.next
  dsimp only
  rw [hb]
  simp
  omega
theorem left_must (x : ByteArray) (hx : 0 < x.size) : left ts (must ts x s) ≤ left ts s ∧ ((must ts x s).bad = true ∨ left ts (must ts x s) + 1 = left ts s) := by
  unfold must
  cases h : eqS (txt ts s) x
  · simp only [Bool.false_eq_true, if_false]
    exact ⟨by rw [left_fail]; omega, .inl rfl⟩
  · simp only [if_true]
    have := left_hit hx h
    exact ⟨by omega, .inr this⟩
theorem left_name : left ts (name ts s).2 ≤ left ts s := by
  unfold name
  split
  · exact left_next_le
  · simp only [left_fail]; omega
theorem left_eat (x : ByteArray) : left ts (eat ts x s).2 ≤ left ts s := by
  unfold eat
  split
  · exact left_next_le
  · exact Nat.le_refl _
theorem left_whole : left ts (whole ts s).2 ≤ left ts s := by
  unfold whole
  dsimp only
  split
  · exact Nat.le_trans left_name (Nat.le_trans (left_eat _) left_name)
  · exact left_name
theorem left_number : left ts (number ts s).2 ≤ left ts s := by
  unfold number
  split
  · simp only [left_fail]; omega
  · split
    · exact left_next_le
    · simp only [left_fail]; omega
/-- an answer, and no more left than before -/
def Has (ts : List Tok) (s : St) (o : Option (Tree × St)) : Prop := ∃ q, o = some q ∧ left ts q.2 ≤ left ts s
structure Enough (ts : List Tok) (f : Nat) : Prop where
  e : ∀ s : St, (s.bad = true ∧ 1 ≤ f) ∨ 10 * left ts s + 8 ≤ f → Has ts s (exprF ts f s)
  b : ∀ (s : St) (l : Nat), l ≤ 3 → 10 * left ts s + 7 ≤ f + l → Has ts s (boundF ts f l s)
  bl : ∀ (s : St) (l : Nat) (n : Tree), l ≤ 2 → 10 * left ts s + 6 ≤ f + l → Has ts s (boundL ts f l n s)
  u : ∀ s : St, 10 * left ts s + 3 ≤ f → Has ts s (unaryF ts f s)
  a : ∀ s : St, 10 * left ts s + 2 ≤ f → Has ts s (askedF ts f s)
  p : ∀ (s : St) (x : ByteArray), 10 * left ts s + 2 ≤ f → Has ts s (placeF ts f x s)
  c : ∀ (s : St) (x : ByteArray), 10 * left ts s + 2 ≤ f → Has ts s (callF ts f x s)
  cl : ∀ (s : St) (x : ByteArray) (ks : List Tree) (on : Bool), (((on && !s.bad) = false ∧ 1 ≤ f) ∨ 10 * left ts s + 9 ≤ f) → Has ts s (callL ts f x ks s on)
theorem enough (ts : List Tok) (f : Nat) : Enough ts f := by
  induction f with
  | zero => exact ⟨fun s h => by omega, fun s l h1 h2 => by omega, fun s l n h1 h2 => by omega, fun s h => by omega, fun s h => by omega, fun s x h => by omega, fun s x h => by omega, fun s x ks on h => by omega⟩
  | succ f ih =>
    refine ⟨fun s h => ?_, fun s l hl h => ?_, fun s l n hl h => ?_, fun s h => ?_, fun s h => ?_, fun s x h => ?_, fun s x h => ?_, fun s x ks on h => ?_⟩
    · unfold exprF
      cases hb : s.bad
      · simp only [Bool.false_eq_true, if_false]
        refine ih.b s 0 (by omega) ?_
        rcases h with ⟨h, _⟩ | h
        · rw [hb] at h; simp at h
        · omega
      · simp only [if_true]
        exact ⟨_, rfl, Nat.le_refl _⟩
    · unfold boundF
      split
      · exact ih.u s (by omega)
      · obtain ⟨q, hq, hle⟩ := ih.b s (l + 1) (by omega) (by omega)
        rw [hq]
        simp only [Option.bind_some]
        obtain ⟨q', hq', hle'⟩ := ih.bl q.2 l q.1 (by omega) (by omega)
        exact ⟨q', hq', by omega⟩
    · unfold boundL
      cases hb : s.bad
      · simp only [Bool.false_eq_true, if_false]
        split
        · exact ⟨_, rfl, Nat.le_refl _⟩
        · rename_i hne
          have hk : (sign (txt ts s)).2 = (l : Int) := by simpa using hne
          have hlt := sign_lt (ts := ts) (s := s) (by omega)
          have hn : left ts s.next + 1 = left ts s := by
            unfold left St.next
            dsimp only
            rw [hb]
            simp
            omega
          obtain ⟨q, hq, hle⟩ := ih.b s.next (l + 1) (by omega) (by omega)
          rw [hq]
          simp only [Option.bind_some]
          split
          · exact ⟨_, rfl, by dsimp only; omega⟩
          · obtain ⟨q', hq', hle'⟩ := ih.bl q.2 l (.node 19 empty (sign (txt ts s)).1 [n, q.1]) (by omega) (by omega)
            exact ⟨q', hq', by omega⟩
      · simp only [if_true]
        exact ⟨_, rfl, Nat.le_refl _⟩
    · unfold unaryF
      cases h1 : eqS (txt ts s) ⟨#[45]⟩
      · simp only [Bool.false_eq_true, if_false]
        cases h2 : eqS (txt ts s) ⟨#[33]⟩
        · simp only [Bool.false_eq_true, if_false]
          split
          · exact ih.a s (by omega)
          · split
            · exact ⟨_, rfl, left_number⟩
            · have hw := left_whole (ts := ts) (s := s)
              split
              · obtain ⟨q, hq, hle⟩ := ih.c (whole ts s).2 (whole ts s).1 (by omega)
                exact ⟨q, hq, by omega⟩
              · obtain ⟨q, hq, hle⟩ := ih.p (whole ts s).2 (whole ts s).1 (by omega)
                exact ⟨q, hq, by omega⟩
        · simp only [if_true]
          have hn := left_hit (by decide) h2
          obtain ⟨q, hq, hle⟩ := ih.u s.next (by omega)
          rw [hq]
          exact ⟨_, rfl, by dsimp only; omega⟩
      · simp only [if_true]
        have hn := left_hit (by decide) h1
        obtain ⟨q, hq, hle⟩ := ih.u s.next (by omega)
        rw [hq]
        exact ⟨_, rfl, by dsimp only; omega⟩
    · unfold askedF
      have hm := left_must (ts := ts) (s := s) ⟨#[40]⟩ (by decide)
      obtain ⟨q, hq, hle⟩ := ih.e (must ts ⟨#[40]⟩ s) (by rcases hm.2 with h1 | h1; exact .inl ⟨h1, by omega⟩; exact .inr (by omega))
      rw [hq]
      have hm2 := left_must (ts := ts) (s := q.2) ⟨#[41]⟩ (by decide)
      exact ⟨_, rfl, by dsimp only; omega⟩
    · unfold placeF
      split
      · rename_i h1
        have hn := left_hit (by decide) h1
        obtain ⟨q, hq, hle⟩ := ih.e s.next (.inr (by omega))
        rw [hq]
        have hm2 := left_must (ts := ts) (s := q.2) ⟨#[93]⟩ (by decide)
        exact ⟨_, rfl, by dsimp only; omega⟩
      · exact ⟨_, rfl, Nat.le_refl _⟩
    · unfold callF
      have hm := left_must (ts := ts) (s := s) ⟨#[40]⟩ (by decide)
      split
      · rename_i h1
        have hn := left_hit (by decide) h1
        exact ⟨_, rfl, by dsimp only; omega⟩
      · obtain ⟨q, hq, hle⟩ := ih.cl (must ts ⟨#[40]⟩ s) x [] true (by rcases hm.2 with h1 | h1; exact .inl ⟨by rw [h1]; rfl, by omega⟩; exact .inr (by omega))
        exact ⟨q, hq, by omega⟩
    · unfold callL
      cases hc : (on && !s.bad)
      · simp only [Bool.false_eq_true, if_false]
        exact ⟨_, rfl, (left_must (ts := ts) (s := s) ⟨#[41]⟩ (by decide)).1⟩
      · simp only [if_true]
        have h9 : 10 * left ts s + 9 ≤ f + 1 := by
          rcases h with ⟨h, _⟩ | h
          · rw [hc] at h; simp at h
          · exact h
        obtain ⟨q, hq, hle⟩ := ih.e s (.inr (by omega))
        rw [hq]
        simp only [Option.bind_some]
        cases he : eqS (txt ts q.2) ⟨#[44]⟩
        · have e1 : eat ts ⟨#[44]⟩ q.2 = (false, q.2) := by unfold eat; rw [he]; rfl
          rw [e1]
          obtain ⟨q', hq', hle'⟩ := ih.cl q.2 x (ks ++ [q.1]) false (.inl ⟨rfl, by omega⟩)
          exact ⟨q', hq', by omega⟩
        · have e1 : eat ts ⟨#[44]⟩ q.2 = (true, q.2.next) := by unfold eat; rw [he]; rfl
          rw [e1]
          have hn := left_hit (by decide) he
          obtain ⟨q', hq', hle'⟩ := ih.cl q.2.next x (ks ++ [q.1]) true (.inr (by omega))
          exact ⟨q', hq', by omega⟩
end
section
variable (ts : List Tok)
mutual
def blockF : Nat → St → Option (Tree × St)
  | 0, _ => none
  | f + 1, s => blockL f [] (must ts ⟨#[123]⟩ s)
def blockL : Nat → List Tree → St → Option (Tree × St)
  | 0, _, _ => none
  | f + 1, ks, s =>
    if s.bad then some (.node 6 empty 0 ks, s)
    else if eqS (txt ts s) ⟨#[125]⟩ then some (.node 6 empty 0 ks, s.next)
    else (statF f s).bind fun q => blockL f (ks ++ [q.1]) q.2
def statF : Nat → St → Option (Tree × St)
  | 0, _ => none
  | f + 1, s =>
    if eqS (txt ts s) ⟨#[105, 102]⟩ then
      (askedF ts f s.next).bind fun x => (blockF f x.2).bind fun b =>
        if eqS (txt ts b.2) ⟨#[101, 108, 115, 101]⟩ then (blockF f b.2.next).bind fun c => some (.node 10 empty 0 [x.1, b.1, c.1], c.2) else some (.node 10 empty 0 [x.1, b.1], b.2)
    else if eqS (txt ts s) ⟨#[119, 104, 105, 108, 101]⟩ then (askedF ts f s.next).bind fun x => (blockF f x.2).bind fun b => some (.node 11 empty 0 [x.1, b.1], b.2)
    else if eqS (txt ts s) ⟨#[108, 111, 119]⟩ || eqS (txt ts s) ⟨#[104, 105, 103, 104]⟩ then
      (exprF ts f (must ts ⟨#[61]⟩ (name ts (label ts s).2).2)).bind fun x => some (.node 7 (name ts (label ts s).2).1 (label ts s).1 [x.1], must ts ⟨#[59]⟩ x.2)
    else if eqS (txt ts s) ⟨#[100, 111]⟩ then (callF ts f (whole ts s.next).1 (whole ts s.next).2).bind fun x => some (.node 9 empty 0 [x.1], must ts ⟨#[59]⟩ x.2)
    else if eqS (txt ts s) ⟨#[111, 117, 116]⟩ then (exprF ts f (label ts s.next).2).bind fun x => some (.node 12 empty (label ts s.next).1 [x.1], must ts ⟨#[59]⟩ x.2)
    else if eqS (txt ts s) ⟨#[105, 110]⟩ then (placeF ts f (whole ts (label ts s.next).2).1 (whole ts (label ts s.next).2).2).bind fun x => some (.node 13 empty (label ts s.next).1 [x.1], must ts ⟨#[59]⟩ x.2)
    else if eqS (txt ts s) ⟨#[114, 101, 116, 117, 114, 110]⟩ then (exprF ts f s.next).bind fun x => some (.node 14 empty 0 [x.1], must ts ⟨#[59]⟩ x.2)
    else (placeF ts f (whole ts s).1 (whole ts s).2).bind fun x => (exprF ts f (must ts ⟨#[61]⟩ x.2)).bind fun y => some (.node 8 empty 0 [x.1, y.1], must ts ⟨#[59]⟩ y.2)
end
end
section
variable (ts : List Tok)
/-- behind 'pub', if it is there -/
def pubS (s : St) : St := if eqS (txt ts s) ⟨#[112, 117, 98]⟩ then s.next else s
def pubN (s : St) : Int := if eqS (txt ts s) ⟨#[112, 117, 98]⟩ then 2 else 0
def paramsL : Nat → List Tree → St → Option (List Tree × St)
  | 0, _, _ => none
  | f + 1, ks, s =>
    if eqS (txt ts (name ts (label ts s).2).2) ⟨#[44]⟩ then paramsL f (ks ++ [.node 5 (name ts (label ts s).2).1 (label ts s).1 []]) (name ts (label ts s).2).2.next
    else some (ks ++ [.node 5 (name ts (label ts s).2).1 (label ts s).1 []], (name ts (label ts s).2).2)
def params (f : Nat) (s : St) : Option (List Tree × St) := if eqS (txt ts s) ⟨#[41]⟩ then some ([], s) else paramsL ts f [] s
/-- the number behind the parameters, and where the block begins -/
def givesS (s : St) : St := if eqS (txt ts (label ts s).2) ⟨#[103, 105, 118, 101, 115]⟩ then (label ts (label ts s).2.next).2 else (label ts s).2
def givesN (n : Int) (s : St) : Int := if eqS (txt ts (label ts s).2) ⟨#[103, 105, 118, 101, 115]⟩ then n + (label ts s).1 + 4 + 4 * (label ts (label ts s).2.next).1 else n + (label ts s).1
def varS (s : St) : List Tree × St := if eqS (txt ts s) ⟨#[91]⟩ then ([(number ts s.next).1], must ts ⟨#[93]⟩ (number ts s.next).2) else ([], s)
def declF (f : Nat) (s : St) : Option (Tree × St) :=
  if eqS (txt ts (pubS ts s)) ⟨#[112, 114, 111, 99]⟩ then
    (params ts f (must ts ⟨#[40]⟩ (name ts (pubS ts s).next).2)).bind fun p =>
      (blockF ts f (givesS ts (must ts ⟨#[41]⟩ p.2))).bind fun b =>
        some (.node 4 (name ts (pubS ts s).next).1 (givesN ts (pubN ts s) (must ts ⟨#[41]⟩ p.2)) (p.1 ++ [b.1]), b.2)
  else some (.node 3 (name ts (label ts (pubS ts s)).2).1 (pubN ts s + (label ts (pubS ts s)).1) (varS ts (name ts (label ts (pubS ts s)).2).2).1, must ts ⟨#[59]⟩ (varS ts (name ts (label ts (pubS ts s)).2).2).2)
end

section
variable {ts : List Tok} {s : St}
theorem left_label : left ts (label ts s).2 ≤ left ts s := by
  unfold label
  split
  · exact left_next_le
  · exact (left_must ⟨#[108, 111, 119]⟩ (by decide)).1
theorem must_bad {x : ByteArray} (h : s.bad = true) : (must ts x s).bad = true := by
  unfold must
  split
  · exact h
  · rfl
theorem txt_bad (h : s.bad = true) : txt ts s = empty := by unfold txt here; rw [h]; rfl
theorem eqS_bad {x : ByteArray} (hx : 0 < x.size) (h : s.bad = true) : eqS (txt ts s) x = false := by
  cases he : eqS (txt ts s) x
  · rfl
  · rw [txt_bad h] at he
    have := eqS_empty he
    omega
/-- at no name the reader has failed -/
theorem whole_or : left ts (whole ts s).2 + 1 ≤ left ts s ∨ (whole ts s).2.bad = true := by
  cases hn : isName (txt ts s)
  · right
    have e : name ts s = (empty, s.fail) := by unfold name; rw [hn]; rfl
    unfold whole
    rw [e]
    have e2 : eat ts ⟨#[46]⟩ s.fail = (false, s.fail) := by unfold eat; rw [eqS_bad (by decide) rfl]; rfl
    dsimp only
    rw [e2]
    rfl
  · left
    have e : name ts s = (txt ts s, s.next) := by unfold name; rw [hn]; rfl
    have h1 : 0 < (txt ts s).size := by
      rcases Nat.lt_or_ge 0 (txt ts s).size with h1 | h1
      · exact h1
      · rw [isName_short (by omega)] at hn
        exact absurd hn (by decide)
    have h2 := left_hit h1 (eqS_self (txt ts s))
    have h3 : left ts (whole ts s).2 ≤ left ts s.next := by
      unfold whole
      rw [e]
      dsimp only
      split
      · exact Nat.le_trans left_name (left_eat _)
      · exact Nat.le_refl _
    omega
structure Enough2 (ts : List Tok) (f : Nat) : Prop where
  bk : ∀ s : St, 20 * left ts s + 12 ≤ f → Has ts s (blockF ts f s)
  bkl : ∀ (s : St) (ks : List Tree), (s.bad = true ∧ 1 ≤ f) ∨ 20 * left ts s + 11 ≤ f → Has ts s (blockL ts f ks s)
  st : ∀ s : St, 20 * left ts s + 10 ≤ f → ∃ q, statF ts f s = some q ∧ left ts q.2 ≤ left ts s ∧ (left ts q.2 + 1 ≤ left ts s ∨ q.2.bad = true)
theorem enough2 (ts : List Tok) (f : Nat) : Enough2 ts f := by
  induction f with
  | zero => exact ⟨fun s h => by omega, fun s ks h => by omega, fun s h => by omega⟩
  | succ f ih =>
    have E := enough ts f
    refine ⟨fun s h => ?_, fun s ks h => ?_, fun s h => ?_⟩
    · unfold blockF
      have hm := left_must (ts := ts) (s := s) ⟨#[123]⟩ (by decide)
      obtain ⟨q, hq, hle⟩ := ih.bkl (must ts ⟨#[123]⟩ s) [] (.inr (by omega))
      exact ⟨q, hq, by omega⟩
    · unfold blockL
      cases hb : s.bad
      · simp only [Bool.false_eq_true, if_false]
        have h9 : 20 * left ts s + 11 ≤ f + 1 := by
          rcases h with ⟨h, _⟩ | h
          · rw [hb] at h; simp at h
          · exact h
        split
        · exact ⟨_, rfl, left_next_le⟩
        · obtain ⟨q, hq, hle, hor⟩ := ih.st s (by omega)
          rw [hq]
          simp only [Option.bind_some]
          obtain ⟨q', hq', hle'⟩ := ih.bkl q.2 (ks ++ [q.1]) (by rcases hor with h1 | h1; exact .inr (by omega); exact .inl ⟨h1, by omega⟩)
          exact ⟨q', hq', by omega⟩
      · simp only [if_true]
        exact ⟨_, rfl, Nat.le_refl _⟩
    · unfold statF
      cases n1 : eqS (txt ts s) ⟨#[105, 102]⟩
      case true =>
        have hn := left_hit (by decide) n1
        rw [if_pos rfl]
        obtain ⟨x, hx, lx⟩ := E.a s.next (by omega)
        obtain ⟨b, hb, lb⟩ := ih.bk x.2 (by omega)
        rw [hx]
        simp only [Option.bind_some]
        rw [hb]
        simp only [Option.bind_some]
        split
        · obtain ⟨c, hc, lc⟩ := ih.bk b.2.next (by have := left_next_le (ts := ts) (s := b.2); omega)
          rw [hc]
          have := left_next_le (ts := ts) (s := b.2)
          exact ⟨_, rfl, by dsimp only; omega, .inl (by dsimp only; omega)⟩
        · exact ⟨_, rfl, by dsimp only; omega, .inl (by dsimp only; omega)⟩
      rw [if_neg (by decide)]
      cases n2 : eqS (txt ts s) ⟨#[119, 104, 105, 108, 101]⟩
      case true =>
        have hn := left_hit (by decide) n2
        rw [if_pos rfl]
        obtain ⟨x, hx, lx⟩ := E.a s.next (by omega)
        obtain ⟨b, hb, lb⟩ := ih.bk x.2 (by omega)
        rw [hx]
        simp only [Option.bind_some]
        rw [hb]
        exact ⟨_, rfl, by dsimp only; omega, .inl (by dsimp only; omega)⟩
      rw [if_neg (by decide)]
      cases n3 : (eqS (txt ts s) ⟨#[108, 111, 119]⟩ || eqS (txt ts s) ⟨#[104, 105, 103, 104]⟩)
      case true =>
        rw [if_pos rfl]
        have hl : left ts (label ts s).2 + 1 ≤ left ts s := by
          unfold label
          cases h1 : eqS (txt ts s) ⟨#[104, 105, 103, 104]⟩
          · simp only [Bool.false_eq_true, if_false]
            rw [h1, Bool.or_false] at n3
            unfold must
            rw [n3, if_pos rfl]
            have := left_hit (by decide) n3
            omega
          · simp only [if_true]
            have := left_hit (by decide) h1
            omega
        have hnm := left_name (ts := ts) (s := (label ts s).2)
        have hm := left_must (ts := ts) (s := (name ts (label ts s).2).2) ⟨#[61]⟩ (by decide)
        obtain ⟨x, hx, lx⟩ := E.e (must ts ⟨#[61]⟩ (name ts (label ts s).2).2) (.inr (by omega))
        rw [hx]
        have hm2 := left_must (ts := ts) (s := x.2) ⟨#[59]⟩ (by decide)
        exact ⟨_, rfl, by dsimp only; omega, .inl (by dsimp only; omega)⟩
      rw [if_neg (by decide)]
      cases n5 : eqS (txt ts s) ⟨#[100, 111]⟩
      case true =>
        have hn := left_hit (by decide) n5
        rw [if_pos rfl]
        have hw := left_whole (ts := ts) (s := s.next)
        obtain ⟨x, hx, lx⟩ := E.c (whole ts s.next).2 (whole ts s.next).1 (by omega)
        rw [hx]
        have hm2 := left_must (ts := ts) (s := x.2) ⟨#[59]⟩ (by decide)
        exact ⟨_, rfl, by dsimp only; omega, .inl (by dsimp only; omega)⟩
      rw [if_neg (by decide)]
      cases n6 : eqS (txt ts s) ⟨#[111, 117, 116]⟩
      case true =>
        have hn := left_hit (by decide) n6
        rw [if_pos rfl]
        have hw := left_label (ts := ts) (s := s.next)
        obtain ⟨x, hx, lx⟩ := E.e (label ts s.next).2 (.inr (by omega))
        rw [hx]
        have hm2 := left_must (ts := ts) (s := x.2) ⟨#[59]⟩ (by decide)
        exact ⟨_, rfl, by dsimp only; omega, .inl (by dsimp only; omega)⟩
      rw [if_neg (by decide)]
      cases n7 : eqS (txt ts s) ⟨#[105, 110]⟩
      case true =>
        have hn := left_hit (by decide) n7
        rw [if_pos rfl]
        have hw := left_label (ts := ts) (s := s.next)
        have hw2 := left_whole (ts := ts) (s := (label ts s.next).2)
        obtain ⟨x, hx, lx⟩ := E.p (whole ts (label ts s.next).2).2 (whole ts (label ts s.next).2).1 (by omega)
        rw [hx]
        have hm2 := left_must (ts := ts) (s := x.2) ⟨#[59]⟩ (by decide)
        exact ⟨_, rfl, by dsimp only; omega, .inl (by dsimp only; omega)⟩
      rw [if_neg (by decide)]
      cases n8 : eqS (txt ts s) ⟨#[114, 101, 116, 117, 114, 110]⟩
      case true =>
        have hn := left_hit (by decide) n8
        rw [if_pos rfl]
        obtain ⟨x, hx, lx⟩ := E.e s.next (.inr (by omega))
        rw [hx]
        have hm2 := left_must (ts := ts) (s := x.2) ⟨#[59]⟩ (by decide)
        exact ⟨_, rfl, by dsimp only; omega, .inl (by dsimp only; omega)⟩
      rw [if_neg (by decide)]
      have hw := left_whole (ts := ts) (s := s)
      rcases whole_or (ts := ts) (s := s) with hor | hor
      · obtain ⟨x, hx, lx⟩ := E.p (whole ts s).2 (whole ts s).1 (by omega)
        rw [hx]
        simp only [Option.bind_some]
        have hm := left_must (ts := ts) (s := x.2) ⟨#[61]⟩ (by decide)
        obtain ⟨y, hy, ly⟩ := E.e (must ts ⟨#[61]⟩ x.2) (.inr (by omega))
        rw [hy]
        have hm2 := left_must (ts := ts) (s := y.2) ⟨#[59]⟩ (by decide)
        exact ⟨_, rfl, by dsimp only; omega, .inl (by dsimp only; omega)⟩
      · obtain ⟨g, rfl⟩ : ∃ g, f = g + 1 := ⟨f - 1, by omega⟩
        have hpl : placeF ts (g + 1) (whole ts s).1 (whole ts s).2 = some (.node 16 (whole ts s).1 0 [], (whole ts s).2) := by
          unfold placeF
          rw [eqS_bad (by decide) hor, if_neg (by decide)]
        rw [hpl]
        simp only [Option.bind_some]
        have hb1 := must_bad (ts := ts) (x := ⟨#[61]⟩) hor
        have hex : exprF ts (g + 1) (must ts ⟨#[61]⟩ (whole ts s).2) = some (.node 0 empty 0 [], must ts ⟨#[61]⟩ (whole ts s).2) := by
          unfold exprF
          rw [hb1, if_pos rfl]
        rw [hex]
        have hb2 := must_bad (ts := ts) (x := ⟨#[59]⟩) hb1
        exact ⟨_, rfl, by dsimp only; rw [left_bad hb2]; omega, .inr hb2⟩
end

section
variable {ts : List Tok} {s : St}
theorem left_pub : left ts (pubS ts s) ≤ left ts s := by
  unfold pubS
  split
  · exact left_next_le
  · exact Nat.le_refl _
theorem left_gives : left ts (givesS ts s) ≤ left ts s := by
  unfold givesS
  split
  · exact Nat.le_trans left_label (Nat.le_trans left_next_le left_label)
  · exact left_label
theorem left_var : left ts (varS ts s).2 ≤ left ts s := by
  unfold varS
  split
  · exact Nat.le_trans (left_must ⟨#[93]⟩ (by decide)).1 (Nat.le_trans left_number left_next_le)
  · exact Nat.le_refl _
theorem name_bad (h : s.bad = true) : (name ts s).2.bad = true := by
  unfold name
  split
  · exact h
  · rfl
theorem var_bad (h : s.bad = true) : (varS ts s).2.bad = true := by
  unfold varS
  rw [eqS_bad (by decide) h, if_neg (by decide)]
  exact h
theorem label_or : left ts (label ts s).2 + 1 ≤ left ts s ∨ (label ts s).2.bad = true := by
  unfold label
  cases h1 : eqS (txt ts s) ⟨#[104, 105, 103, 104]⟩
  · simp only [Bool.false_eq_true, if_false]
    rcases (left_must (ts := ts) (s := s) ⟨#[108, 111, 119]⟩ (by decide)).2 with h | h
    · exact .inr h
    · exact .inl (by omega)
  · simp only [if_true]
    have := left_hit (by decide) h1
    exact .inl (by omega)
theorem paramsL_has (f : Nat) : ∀ (ks : List Tree) (s : St), left ts s + 1 ≤ f → ∃ p, paramsL ts f ks s = some p ∧ left ts p.2 ≤ left ts s := by
  induction f with
  | zero => intro ks s h; omega
  | succ f ih =>
    intro ks s h
    have h1 := left_label (ts := ts) (s := s)
    have h2 := left_name (ts := ts) (s := (label ts s).2)
    unfold paramsL
    split
    · rename_i h3
      have h4 := left_hit (by decide) h3
      obtain ⟨p, hp, hle⟩ := ih (ks ++ [.node 5 (name ts (label ts s).2).1 (label ts s).1 []]) (name ts (label ts s).2).2.next (by omega)
      exact ⟨p, hp, by omega⟩
    · exact ⟨_, rfl, by dsimp only; omega⟩
theorem declF_has {f : Nat} (h : 20 * left ts s + 12 ≤ f) : ∃ q, declF ts f s = some q ∧ left ts q.2 ≤ left ts s ∧ (left ts q.2 + 1 ≤ left ts s ∨ q.2.bad = true) := by
  have hp := left_pub (ts := ts) (s := s)
  unfold declF
  split
  · rename_i h1
    have hn := left_hit (by decide) h1
    have h2 := left_name (ts := ts) (s := (pubS ts s).next)
    have h3 := (left_must (ts := ts) (s := (name ts (pubS ts s).next).2) ⟨#[40]⟩ (by decide)).1
    obtain ⟨p, hpp, lp⟩ : ∃ p, params ts f (must ts ⟨#[40]⟩ (name ts (pubS ts s).next).2) = some p ∧ left ts p.2 ≤ left ts (must ts ⟨#[40]⟩ (name ts (pubS ts s).next).2) := by
      unfold params
      split
      · exact ⟨_, rfl, Nat.le_refl _⟩
      · exact paramsL_has f [] _ (by omega)
    rw [hpp]
    simp only [Option.bind_some]
    have h4 := (left_must (ts := ts) (s := p.2) ⟨#[41]⟩ (by decide)).1
    have h5 := left_gives (ts := ts) (s := must ts ⟨#[41]⟩ p.2)
    obtain ⟨b, hb, lb⟩ := (enough2 ts f).bk (givesS ts (must ts ⟨#[41]⟩ p.2)) (by omega)
    rw [hb]
    exact ⟨_, rfl, by dsimp only; omega, .inl (by dsimp only; omega)⟩
  · have h1 := left_label (ts := ts) (s := pubS ts s)
    have h2 := left_name (ts := ts) (s := (label ts (pubS ts s)).2)
    have h3 := left_var (ts := ts) (s := (name ts (label ts (pubS ts s)).2).2)
    have h4 := (left_must (ts := ts) (s := (varS ts (name ts (label ts (pubS ts s)).2).2).2) ⟨#[59]⟩ (by decide)).1
    refine ⟨_, rfl, by dsimp only; omega, ?_⟩
    rcases label_or (ts := ts) (s := pubS ts s) with hor | hor
    · exact .inl (by dsimp only; omega)
    · exact .inr (must_bad (var_bad (name_bad hor)))
end
section
variable (ts : List Tok)
def importsL : Nat → List Tree → St → Option (List Tree × St)
  | 0, _, _ => none
  | f + 1, ks, s => if eqS (txt ts s) ⟨#[105, 109, 112, 111, 114, 116]⟩ then importsL f (ks ++ [.node 2 (name ts s.next).1 0 []]) (must ts ⟨#[59]⟩ (name ts s.next).2) else some (ks, s)
def declsL : Nat → List Tree → St → Option (List Tree × St)
  | 0, _, _ => none
  | f + 1, ks, s => if s.bad || decide (ts.length ≤ s.i) then some (ks, s) else (declF ts 100000 s).bind fun q => declsL f (ks ++ [q.1]) q.2
/-- where the imports begin -/
def headS : St := must ts ⟨#[59]⟩ (name ts (must ts ⟨#[109, 111, 100, 117, 108, 101]⟩ ⟨0, false⟩)).2
def headX : ByteArray := (name ts (must ts ⟨#[109, 111, 100, 117, 108, 101]⟩ ⟨0, false⟩)).1
def moduleF : Option (Tree × St) :=
  (importsL ts 4000 [] (headS ts)).bind fun p => (declsL ts 4000 p.1 p.2).bind fun q => some (.node 1 (headX ts) 0 q.1, q.2)
end
end syn
namespace syn

mutual
/-- as the reference counts: up to a bound and a few -/
def manyT : Tree → Int → Int
  | .node _ _ _ ks, most => manyL ks 1 most
def manyL : List Tree → Int → Int → Int
  | [], k, _ => k
  | t :: r, k, most => if k ≤ most then manyL r (k + manyT t (most - k)) most else k
end
mutual
def deepT : Tree → Int → Int
  | .node _ _ _ ks, most => deepL ks 0 most + 1
def deepL : List Tree → Int → Int → Int
  | [], d, _ => d
  | t :: r, d, most => if 0 < most ∧ d ≤ most then deepL r (max d (deepT t (most - 1))) most else d
end
def fitsT (t : Tree) : Bool := if 500 < manyT t 500 then false else decide (deepT t 16 ≤ 16)
mutual
theorem manyT_bounds : ∀ (t : Tree) (most : Int), 0 ≤ most → 1 ≤ manyT t most ∧ manyT t most ≤ most + 1
  | .node _ _ _ ks, most, h => by
    unfold manyT
    exact manyL_bounds ks 1 most h (by omega) (by omega)
theorem manyL_bounds : ∀ (ks : List Tree) (k most : Int), 0 ≤ most → 1 ≤ k → k ≤ most + 1 → 1 ≤ manyL ks k most ∧ manyL ks k most ≤ most + 1
  | [], k, most, h, h1, h2 => by unfold manyL; exact ⟨h1, h2⟩
  | t :: r, k, most, h, h1, h2 => by
    unfold manyL
    split
    · have hm := manyT_bounds t (most - k) (by omega)
      exact manyL_bounds r _ most h (by omega) (by omega)
    · exact ⟨h1, h2⟩
end
mutual
theorem deepT_bounds : ∀ (t : Tree) (most : Int), 0 ≤ most → 1 ≤ deepT t most ∧ deepT t most ≤ most + 1
  | .node _ _ _ ks, most, h => by
    unfold deepT
    have := deepL_bounds ks 0 most h (by omega) (by omega)
    omega
theorem deepL_bounds : ∀ (ks : List Tree) (d most : Int), 0 ≤ most → 0 ≤ d → d ≤ most → 0 ≤ deepL ks d most ∧ deepL ks d most ≤ most
  | [], d, most, h, h1, h2 => by unfold deepL; exact ⟨h1, h2⟩
  | t :: r, d, most, h, h1, h2 => by
    unfold deepL
    split
    · rename_i hc
      have hm := deepT_bounds t (most - 1) (by omega)
      exact deepL_bounds r _ most h (by omega) (by omega)
    · exact ⟨h1, h2⟩
end
end syn
namespace lexs

theorem scanL_len : ∀ (f : Nat) (l : List UInt8) (i : Nat) (acc toks : List Tok), scanL f l i acc = .ok toks → toks.length ≤ acc.length + l.length
  | 0, l, i, acc, toks, h => by
    unfold scanL at h
    injection h with h
    subst h
    omega
  | f + 1, [], i, acc, toks, h => by
    unfold scanL at h
    injection h with h
    subst h
    simp
  | f + 1, b :: r, i, acc, toks, h => by
    cases hs : stepL (b :: r) with
    | skip n =>
      rw [scanL_skip hs] at h
      have := scanL_len f _ _ _ _ h
      rw [List.length_drop] at this
      omega
    | fault c => rw [scanL_fault hs] at h; simp at h
    | tok k n =>
      rw [scanL_tok hs] at h
      have h1 := scanL_len f _ _ _ _ h
      have h2 := (stepL_tok hs).1
      rw [List.length_drop, List.length_append] at h1
      simp at h1 ⊢
      omega
theorem scan_len {l : List UInt8} {toks : List Tok} (h : scan l = .ok toks) : toks.length ≤ 3000 := by
  unfold scan at h
  split at h
  · simp at h
  · have := scanL_len _ _ _ _ _ h
    simp at this
    omega
end lexs
end Go.Proofs.YtoobkaebahogdaaGreatDoor
