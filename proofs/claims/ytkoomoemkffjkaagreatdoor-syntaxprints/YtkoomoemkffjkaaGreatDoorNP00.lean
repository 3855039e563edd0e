/- Tokens, written one behind the other with a blank between, are read as the same: plain facts. -/
import Derived.RowKit
import Derived.Lib.ParseIntB
import Derived.Lib.Strings
import Derived.Lib.ItoaNum
set_option linter.unusedVariables false
namespace Go.Proofs.YtkoomoemkffjkaaGreatDoor
namespace face
end face
namespace lexs

/-- of a byte, as the program holds it -/
def ltrI (c : Int) : Bool := decide (97 ≤ c ∧ c ≤ 122) || decide (65 ≤ c ∧ c ≤ 90)
def digI (c : Int) : Bool := decide (48 ≤ c ∧ c ≤ 57)
def insI (c : Int) : Bool := ltrI c || digI c || c == 95
def ltrB (c : UInt8) : Bool := ltrI (c.toNat : Int)
def digB (c : UInt8) : Bool := digI (c.toNat : Int)
def insB (c : UInt8) : Bool := insI (c.toNat : Int)
def most : List UInt8 := [57, 50, 50, 51, 51, 55, 50, 48, 51, 54, 56, 53, 52, 55, 55, 53, 56, 48, 55]
/-- what is wrong with a row that begins with a digit -/
def numE (l : List UInt8) : Int :=
  if l.all digB = false then 2
  else if decide (1 < l.length) && l.headD 0 == 48 then 2
  else if decide (19 < l.length) || (l.length == 19 && (!Op.bytesLess l most && !(l == most))) then 6
  else 0
/-- the signs of one byte -/
def ones : List UInt8 := [123, 125, 40, 41, 91, 93, 59, 44, 46, 61, 60, 43, 45, 42, 47, 37, 38, 124, 33]
def signLen (l : List UInt8) : Nat :=
  if l.headD 0 == 61 && (l.drop 1).headD 0 == 61 then 2 else if ones.contains (l.headD 0) then 1 else 0
/-- how many bytes stand at the head that are such -/
def run (p : UInt8 → Bool) (l : List UInt8) : Nat := (l.takeWhile p).length

inductive Step where
  | skip (n : Nat)
  | fault (c : Int)
  | tok (k : Int) (n : Nat)

def stepB (c : UInt8) (l : List UInt8) : Step :=
  if c == 32 || c == 10 then .skip 1
  else if c == 35 then .skip (run (fun b => b != 10) l)
  else if ltrB c then (if 16 < run insB l then .fault 1 else .tok 1 (run insB l))
  else if digB c then (if numE (l.take (run insB l)) == 0 then .tok 2 (run insB l) else .fault (numE (l.take (run insB l))))
  else if signLen l == 0 then .fault 2 else .tok 3 (signLen l)

def stepL (l : List UInt8) : Step := stepB (l.headD 0) l

structure Tok where
  kind : Int
  text : List UInt8
  at_ : Nat

inductive Res where
  | ok (l : List Tok)
  | err (c : Int) (at_ : Nat)

def scanL : Nat → List UInt8 → Nat → List Tok → Res
  | 0, _, _, acc => .ok acc
  | _ + 1, [], _, acc => .ok acc
  | f + 1, b :: r, i, acc =>
    match stepL (b :: r) with
    | .skip n => scanL f ((b :: r).drop n) (i + n) acc
    | .fault c => .err c i
    | .tok k n => scanL f ((b :: r).drop n) (i + n) (acc ++ [⟨k, (b :: r).take n, i⟩])

def scan (l : List UInt8) : Res := if 3000 < l.length then .err 1 0 else scanL l.length l 0 []

/-! ### rows of bytes -/
theorem run_le (p : UInt8 → Bool) (l : List UInt8) : run p l ≤ l.length := (List.takeWhile_sublist p).length_le
theorem run_eq (p : UInt8 → Bool) (l : List UInt8) (n : Nat) (h1 : ∀ j (h : j < l.length), j < n → p l[j] = true) (h2 : n = l.length ∨ ∃ h : n < l.length, p l[n] = false) : run p l = n := by
  induction l generalizing n with
  | nil =>
    rcases h2 with h | ⟨h, _⟩
    · simp [run, h]
    · simp at h
  | cons c r ih =>
    unfold run at ih ⊢
    cases n with
    | zero =>
      rcases h2 with h | ⟨h, hp⟩
      · simp at h
      · simp only [List.getElem_cons_zero] at hp
        simp [hp]
    | succ n =>
      have h0 : p c = true := h1 0 (by simp) (by omega)
      rw [List.takeWhile_cons, if_pos h0, List.length_cons, ih n]
      · intro j hj hn
        exact h1 (j + 1) (by simp; omega) (by omega)
      · rcases h2 with h | ⟨h, hp⟩
        · left; simpa using h
        · right; exact ⟨by simpa using h, by simpa using hp⟩
theorem run_pos (p : UInt8 → Bool) (c : UInt8) (r : List UInt8) (h : p c = true) : 0 < run p (c :: r) := by
  simp [run, h]
theorem signLen_le (l : List UInt8) : signLen l ≤ l.length := by
  unfold signLen
  rcases l with _ | ⟨a, _ | ⟨b, r⟩⟩
  · simp [ones]
  · simp; split <;> simp
  · split <;> (try split) <;> simp
theorem ltrB_insB {c : UInt8} (h : ltrB c = true) : insB c = true := by unfold ltrB at h; unfold insB insI; simp [h]
theorem digB_insB {c : UInt8} (h : digB c = true) : insB c = true := by unfold digB at h; unfold insB insI; simp [h]
/-- each step goes on, and not beyond the end -/
theorem stepL_skip {b : UInt8} {r : List UInt8} {n : Nat} (h : stepL (b :: r) = .skip n) : 0 < n ∧ n ≤ r.length + 1 := by
  rw [stepL, List.headD_cons, stepB] at h
  by_cases h1 : (b == 32 || b == 10) = true
  · rw [if_pos h1] at h; injection h with h; omega
  rw [if_neg h1] at h
  by_cases h2 : (b == 35) = true
  · rw [if_pos h2] at h
    injection h with h
    have hb : b = 35 := by simpa using h2
    have := run_pos (fun b => b != 10) b r (by rw [hb]; decide)
    have h3 := run_le (fun b => b != 10) (b :: r)
    simp only [List.length_cons] at h3
    omega
  rw [if_neg h2] at h
  split at h
  · split at h <;> simp at h
  · split at h
    · split at h <;> simp at h
    · split at h <;> simp at h
theorem stepL_tok {b : UInt8} {r : List UInt8} {k : Int} {n : Nat} (h : stepL (b :: r) = .tok k n) : 0 < n ∧ n ≤ r.length + 1 := by
  rw [stepL, List.headD_cons, stepB] at h
  by_cases h1 : (b == 32 || b == 10) = true
  · rw [if_pos h1] at h; simp at h
  rw [if_neg h1] at h
  by_cases h2 : (b == 35) = true
  · rw [if_pos h2] at h; simp at h
  rw [if_neg h2] at h
  have hr := run_le insB (b :: r)
  simp only [List.length_cons] at hr
  split at h
  · rename_i hl
    have := run_pos insB b r (ltrB_insB hl)
    split at h
    · simp at h
    · injection h with _ h; omega
  · split at h
    · rename_i hd
      have := run_pos insB b r (digB_insB hd)
      split at h
      · injection h with _ h; omega
      · simp at h
    · split at h
      · simp at h
      · rename_i hs
        injection h with _ h
        have h3 := signLen_le (b :: r)
        simp only [List.length_cons] at h3
        have : signLen (b :: r) ≠ 0 := by simpa using hs
        omega
/-! ### one round of the scan, at whatever fuel is enough -/
theorem scanL_end (f : Nat) (i : Nat) (acc : List Tok) : scanL f [] i acc = .ok acc := by cases f <;> rfl
theorem scanL_skip {f : Nat} {b : UInt8} {r : List UInt8} {i n : Nat} {acc : List Tok} (h : stepL (b :: r) = .skip n) : scanL (f + 1) (b :: r) i acc = scanL f ((b :: r).drop n) (i + n) acc := by
  rw [scanL, h]
theorem scanL_fault {f : Nat} {b : UInt8} {r : List UInt8} {i : Nat} {c : Int} {acc : List Tok} (h : stepL (b :: r) = .fault c) : scanL (f + 1) (b :: r) i acc = .err c i := by
  rw [scanL, h]
theorem scanL_tok {f : Nat} {b : UInt8} {r : List UInt8} {i n : Nat} {k : Int} {acc : List Tok} (h : stepL (b :: r) = .tok k n) : scanL (f + 1) (b :: r) i acc = scanL f ((b :: r).drop n) (i + n) (acc ++ [⟨k, (b :: r).take n, i⟩]) := by
  rw [scanL, h]

def val : List UInt8 → Nat
  | [] => 0
  | c :: r => (c.toNat - 48) * 10 ^ r.length + val r
theorem dig_bounds {c : UInt8} (h : digB c = true) : 48 ≤ c.toNat ∧ c.toNat ≤ 57 := by
  unfold digB digI at h
  have := of_decide_eq_true h
  omega
theorem val_lt (l : List UInt8) (h : l.all digB = true) : val l < 10 ^ l.length := by
  induction l with
  | nil => simp [val]
  | cons c r ih =>
    rw [List.all_cons, Bool.and_eq_true] at h
    have hb := dig_bounds h.1
    have := ih h.2
    rw [val, List.length_cons, Nat.pow_succ]
    have h2 : (c.toNat - 48) * 10 ^ r.length ≤ 9 * 10 ^ r.length := Nat.mul_le_mul_right _ (by omega)
    omega
theorem parseM (l : List UInt8) (h : l.all digB = true) (acc : Nat) (ha : acc ≤ 18446744073709551615) :
    Lib.parseUintM (2 ^ 64 - 1) acc l = if acc * 10 ^ l.length + val l ≤ 18446744073709551615 then .ok (acc * 10 ^ l.length + val l) else .range := by
  induction l generalizing acc with
  | nil => simp [Lib.parseUintM, val, ha]
  | cons c r ih =>
    rw [List.all_cons, Bool.and_eq_true] at h
    have hb := dig_bounds h.1
    have hT : 1 ≤ 10 ^ r.length := Nat.pow_pos (by omega)
    have key : acc * 10 ^ (c :: r).length + val (c :: r) = (acc * 10 + (c.toNat - 48)) * 10 ^ r.length + val r := by
      rw [val, List.length_cons, Nat.pow_succ, Nat.add_mul, Nat.mul_comm (10 ^ r.length) 10, Nat.mul_assoc, Nat.add_assoc]
    have big : (acc * 10 + (c.toNat - 48)) ≤ (acc * 10 + (c.toNat - 48)) * 10 ^ r.length := Nat.le_mul_of_pos_right _ hT
    rw [key, Lib.parseUintM, if_pos hb]
    by_cases h1 : 1844674407370955162 ≤ acc
    · rw [if_pos h1, if_neg (by omega)]
    · rw [if_neg h1]
      by_cases h2 : 2 ^ 64 - 1 < acc * 10 + (c.toNat - 48)
      · rw [if_pos h2, if_neg (by omega)]
      · rw [if_neg h2, ih h.2 _ (by omega)]
theorem parse_all (l : List UInt8) (h : l.all digB = true) (h0 : l ≠ []) : Lib.parseIntB 64 l = if val l < 9223372036854775808 then .ok (val l : Int) else .range := by
  obtain ⟨c, r, rfl⟩ := List.exists_cons_of_ne_nil h0
  have hb := dig_bounds (by rw [List.all_cons, Bool.and_eq_true] at h; exact h.1 : digB c = true)
  have e := parseM (c :: r) h 0 (by omega)
  rw [Nat.zero_mul, Nat.zero_add] at e
  have n45 : ¬ c.toNat = 45 := by omega
  have n43 : ¬ (c.toNat = 43 ∨ c.toNat = 45) := by omega
  unfold Lib.parseIntB
  simp only [n43, if_false]
  rw [Lib.parseUintB, if_neg h0, e]
  by_cases hm : val (c :: r) ≤ 18446744073709551615
  · rw [if_pos hm]
    simp only [n45, not_false_eq_true, true_and, false_and, if_false]
    by_cases hv : val (c :: r) < 9223372036854775808
    · rw [if_pos hv, if_neg (by omega)]
    · rw [if_neg hv, if_pos (by omega)]
  · rw [if_neg hm, if_neg (by omega)]
theorem less_val (a b : List UInt8) (hl : a.length = b.length) (ha : a.all digB = true) (hb : b.all digB = true) : Op.bytesLess a b = decide (val a < val b) ∧ (a == b) = decide (val a = val b) := by
  induction a generalizing b with
  | nil =>
    have : b = [] := List.eq_nil_of_length_eq_zero (by simpa using hl.symm)
    subst this
    simp [Op.bytesLess, val]
  | cons x a ih =>
    obtain ⟨y, b, rfl⟩ : ∃ y r, b = y :: r := List.exists_cons_of_ne_nil (by intro e; rw [e] at hl; simp at hl)
    have hl' : a.length = b.length := by simpa using hl
    rw [List.all_cons, Bool.and_eq_true] at ha hb
    have hx := dig_bounds ha.1
    have hy := dig_bounds hb.1
    have va := val_lt a ha.2
    have vb := val_lt b hb.2
    obtain ⟨i1, i2⟩ := ih b hl' ha.2 hb.2
    rw [Op.bytesLess, i1, List.cons_beq_cons, i2, val, val, hl']
    rw [hl'] at va
    rcases Nat.lt_trichotomy x.toNat y.toNat with h | h | h
    · have h1 : x < y := h
      have h2 : ¬ x = y := by intro e; rw [e] at h; omega
      have hm : (x.toNat - 48 + 1) * 10 ^ b.length ≤ (y.toNat - 48) * 10 ^ b.length := Nat.mul_le_mul_right _ (by omega)
      rw [Nat.add_mul, Nat.one_mul] at hm
      have hA : (x.toNat - 48) * 10 ^ b.length + val a < (y.toNat - 48) * 10 ^ b.length + val b := by omega
      have h3 : (x == y) = false := by simp [h2]
      rw [decide_eq_true h1, decide_eq_true hA, decide_eq_false (Nat.ne_of_lt hA), h3]
      exact ⟨rfl, rfl⟩
    · have h1 : x = y := UInt8.toNat_inj.1 h
      subst h1
      simp
    · have h1 : ¬ x < y := by intro e; have : x.toNat < y.toNat := e; omega
      have h2 : ¬ x = y := by intro e; rw [e] at h; omega
      have hm : (y.toNat - 48 + 1) * 10 ^ b.length ≤ (x.toNat - 48) * 10 ^ b.length := Nat.mul_le_mul_right _ (by omega)
      rw [Nat.add_mul, Nat.one_mul] at hm
      have hA : (y.toNat - 48) * 10 ^ b.length + val b < (x.toNat - 48) * 10 ^ b.length + val a := by omega
      have h3 : (x == y) = false := by simp [h2]
      rw [decide_eq_false h1, decide_eq_false (Nat.lt_asymm hA), decide_eq_false (Nat.ne_of_gt hA), h3]
      exact ⟨rfl, rfl⟩
theorem numE_val (l : List UInt8) (h : l.all digB = true) (h0 : l ≠ []) (hz : (decide (1 < l.length) && l.headD 0 == 48) = false) : numE l = if val l < 9223372036854775808 then 0 else 6 := by
  have hv := val_lt l h
  rw [numE, if_neg (by simp [h]), if_neg (by rw [hz]; decide)]
  rcases Nat.lt_trichotomy l.length 19 with hl | hl | hl
  · have h1 : 10 ^ l.length ≤ 10 ^ 18 := Nat.pow_le_pow_right (by omega) (by omega)
    have h2 : (10 : Nat) ^ 18 = 1000000000000000000 := by decide
    have a1 : ¬ 19 < l.length := by omega
    have a2 : ¬ l.length = 19 := by omega
    rw [if_pos (show val l < 9223372036854775808 by omega), if_neg (by simp [a1, a2])]
  · have hm : most.length = 19 := by decide
    have vm : val most = 9223372036854775807 := by decide
    obtain ⟨e1, e2⟩ := less_val l most (by rw [hl, hm]) h (by decide)
    rw [e1, e2, vm, hl]
    by_cases hlt : val l < 9223372036854775808
    · rw [if_pos hlt, if_neg (by simp; omega)]
    · rw [if_neg hlt, if_pos (by simp; omega)]
  · obtain ⟨c, r, rfl⟩ := List.exists_cons_of_ne_nil h0
    have hc := dig_bounds (by rw [List.all_cons, Bool.and_eq_true] at h; exact h.1 : digB c = true)
    have hne : c.toNat ≠ 48 := by
      intro e
      have : c = 48 := UInt8.toNat_inj.1 e
      subst this
      have : 1 < (48 :: r : List UInt8).length := by omega
      rw [decide_eq_true this] at hz
      simp at hz
    have h2 : (10 : Nat) ^ 19 = 10000000000000000000 := by decide
    have h1 : 10 ^ 19 ≤ 10 ^ r.length := Nat.pow_le_pow_right (by omega) (by simp at hl; omega)
    have h3 : 1 * 10 ^ r.length ≤ (c.toNat - 48) * 10 ^ r.length := Nat.mul_le_mul_right _ (by omega)
    have hb : ¬ val (c :: r) < 9223372036854775808 := by rw [val]; omega
    rw [if_neg hb, if_pos (by simp only [hl, decide_true, Bool.true_or])]

theorem len_L (s : ByteArray) : s.data.toList.length = s.size := by simp
theorem byte_is (b c : UInt8) (n : Int) (hn : n = (c.toNat : Int)) : ((b.toNat : Int) == n) = (b == c) := by
  subst hn
  rw [Bool.eq_iff_iff]
  simp only [beq_iff_eq]
  constructor
  · intro h; exact UInt8.toNat_inj.1 (by omega)
  · intro h; rw [h]
theorem drop_cons (s : ByteArray) (p : Nat) (h : p < s.size) : s.data.toList.drop p = s[p] :: s.data.toList.drop (p + 1) := by
  rw [List.drop_eq_getElem_cons (by rw [len_L]; exact h)]
  rfl
theorem run_at (P : UInt8 → Bool) (s : ByteArray) (p n : Nat) (hp : p + n ≤ s.size) (h1 : ∀ j (h : j < s.size), p ≤ j → j < p + n → P s[j] = true)
    (h2 : p + n = s.size ∨ ∃ h : p + n < s.size, P s[p + n] = false) : run P (s.data.toList.drop p) = n := by
  apply run_eq
  · intro j hj hn
    rw [List.length_drop, len_L] at hj
    rw [List.getElem_drop]
    exact h1 (p + j) (by omega) (by omega) (by omega)
  · rcases h2 with h | ⟨h, hP⟩
    · left; rw [List.length_drop, len_L]; omega
    · right
      refine ⟨by rw [List.length_drop, len_L]; omega, ?_⟩
      rw [List.getElem_drop]
      exact hP
theorem extract_is (s : ByteArray) (p n : Nat) : s.extract p (p + n) = ⟨((s.data.toList.drop p).take n).toArray⟩ := by
  apply WideShapes.bytes_inj
  rw [Lib.extract_data]
  simp
/-! the ways of a step, c the byte at hand -/
section
variable {s : ByteArray} {p : Nat} (hp : p < s.size)
include hp
theorem st_blank (h : ((s[p].toNat : Int) == 32) = true ∨ ((s[p].toNat : Int) == 10) = true) : stepL (s.data.toList.drop p) = .skip 1 := by
  rw [byte_is _ 32 32 rfl, byte_is _ 10 10 rfl] at h
  rw [drop_cons s p hp, stepL, List.headD_cons, stepB, if_pos]
  rcases h with h | h <;> simp [h]
theorem st_note (h1 : ((s[p].toNat : Int) == 32) = false) (h2 : ((s[p].toNat : Int) == 10) = false) (h3 : ((s[p].toNat : Int) == 35) = true) {n : Nat} (hr : run (fun b => b != 10) (s.data.toList.drop p) = n) :
    stepL (s.data.toList.drop p) = .skip n := by
  rw [byte_is _ 32 32 rfl] at h1
  rw [byte_is _ 10 10 rfl] at h2
  rw [byte_is _ 35 35 rfl] at h3
  rw [← hr, drop_cons s p hp, stepL, List.headD_cons, stepB, if_neg (by simp [h1, h2]), if_pos h3]
theorem st_base (h1 : ((s[p].toNat : Int) == 32) = false) (h2 : ((s[p].toNat : Int) == 10) = false) (h3 : ((s[p].toNat : Int) == 35) = false) :
    stepL (s.data.toList.drop p) = (if ltrI (s[p].toNat : Int) then (if 16 < run insB (s.data.toList.drop p) then .fault 1 else .tok 1 (run insB (s.data.toList.drop p)))
      else if digI (s[p].toNat : Int) then (if numE ((s.data.toList.drop p).take (run insB (s.data.toList.drop p))) == 0 then .tok 2 (run insB (s.data.toList.drop p)) else .fault (numE ((s.data.toList.drop p).take (run insB (s.data.toList.drop p)))))
      else if signLen (s.data.toList.drop p) == 0 then .fault 2 else .tok 3 (signLen (s.data.toList.drop p))) := by
  rw [byte_is _ 32 32 rfl] at h1
  rw [byte_is _ 10 10 rfl] at h2
  rw [byte_is _ 35 35 rfl] at h3
  rw [stepL]
  have e : (s.data.toList.drop p).headD 0 = s[p] := by rw [drop_cons s p hp, List.headD_cons]
  rw [e, stepB, if_neg (by simp [h1, h2]), if_neg (by simp [h3])]
  rfl
theorem st_word (h1 : ((s[p].toNat : Int) == 32) = false) (h2 : ((s[p].toNat : Int) == 10) = false) (h3 : ((s[p].toNat : Int) == 35) = false) (hl : ltrI (s[p].toNat : Int) = true) {n : Nat} (hr : run insB (s.data.toList.drop p) = n) (hn : n ≤ 16) :
    stepL (s.data.toList.drop p) = .tok 1 n := by
  rw [st_base hp h1 h2 h3, if_pos hl, hr, if_neg (by omega)]
theorem st_long (h1 : ((s[p].toNat : Int) == 32) = false) (h2 : ((s[p].toNat : Int) == 10) = false) (h3 : ((s[p].toNat : Int) == 35) = false) (hl : ltrI (s[p].toNat : Int) = true) {n : Nat} (hr : run insB (s.data.toList.drop p) = n) (hn : 16 < n) :
    stepL (s.data.toList.drop p) = .fault 1 := by
  rw [st_base hp h1 h2 h3, if_pos hl, hr, if_pos hn]
theorem st_num (h1 : ((s[p].toNat : Int) == 32) = false) (h2 : ((s[p].toNat : Int) == 10) = false) (h3 : ((s[p].toNat : Int) == 35) = false) (hl : ltrI (s[p].toNat : Int) = false) (hd : digI (s[p].toNat : Int) = true) {n : Nat} (hr : run insB (s.data.toList.drop p) = n)
    (he : (numE ((s.data.toList.drop p).take n) == 0) = true) : stepL (s.data.toList.drop p) = .tok 2 n := by
  rw [st_base hp h1 h2 h3, if_neg (by simp [hl]), if_pos hd, hr, if_pos he]
theorem st_bad (h1 : ((s[p].toNat : Int) == 32) = false) (h2 : ((s[p].toNat : Int) == 10) = false) (h3 : ((s[p].toNat : Int) == 35) = false) (hl : ltrI (s[p].toNat : Int) = false) (hd : digI (s[p].toNat : Int) = true) {n : Nat} (hr : run insB (s.data.toList.drop p) = n)
    (he : (numE ((s.data.toList.drop p).take n) == 0) = false) : stepL (s.data.toList.drop p) = .fault (numE ((s.data.toList.drop p).take n)) := by
  rw [st_base hp h1 h2 h3, if_neg (by simp [hl]), if_pos hd, hr, if_neg (by simp [he])]
theorem st_sign (h1 : ((s[p].toNat : Int) == 32) = false) (h2 : ((s[p].toNat : Int) == 10) = false) (h3 : ((s[p].toNat : Int) == 35) = false) (hl : ltrI (s[p].toNat : Int) = false) (hd : digI (s[p].toNat : Int) = false) {n : Nat} (hn : signLen (s.data.toList.drop p) = n) (h0 : n ≠ 0) :
    stepL (s.data.toList.drop p) = .tok 3 n := by
  rw [st_base hp h1 h2 h3, if_neg (by simp [hl]), if_neg (by simp [hd]), hn, if_neg (by simpa using h0)]
theorem st_none (h1 : ((s[p].toNat : Int) == 32) = false) (h2 : ((s[p].toNat : Int) == 10) = false) (h3 : ((s[p].toNat : Int) == 35) = false) (hl : ltrI (s[p].toNat : Int) = false) (hd : digI (s[p].toNat : Int) = false) (hn : signLen (s.data.toList.drop p) = 0) :
    stepL (s.data.toList.drop p) = .fault 2 := by
  rw [st_base hp h1 h2 h3, if_neg (by simp [hl]), if_neg (by simp [hd]), hn, if_pos (by rfl)]
/-! the scan goes on -/
theorem go_skip {n f : Nat} {acc : List Tok} {R : Res} (h : stepL (s.data.toList.drop p) = .skip n) (hR : scanL (f + 1) (s.data.toList.drop p) p acc = R) : scanL f (s.data.toList.drop (p + n)) (p + n) acc = R ∧ 0 < n ∧ p + n ≤ s.size := by
  have hl : (s.data.toList.drop (p + 1)).length = s.size - (p + 1) := by rw [List.length_drop, len_L]
  have e := drop_cons s p hp
  rw [e] at h hR
  have hn := stepL_skip h
  rw [scanL_skip h, ← e, List.drop_drop] at hR
  refine ⟨hR, hn.1, by omega⟩
theorem go_tok {n f : Nat} {k : Int} {acc : List Tok} {R : Res} (h : stepL (s.data.toList.drop p) = .tok k n) (hR : scanL (f + 1) (s.data.toList.drop p) p acc = R) :
    scanL f (s.data.toList.drop (p + n)) (p + n) (acc ++ [⟨k, (s.data.toList.drop p).take n, p⟩]) = R ∧ 0 < n ∧ p + n ≤ s.size := by
  have hl : (s.data.toList.drop (p + 1)).length = s.size - (p + 1) := by rw [List.length_drop, len_L]
  have e := drop_cons s p hp
  rw [e] at h hR
  have hn := stepL_tok h
  rw [scanL_tok h, ← e, List.drop_drop] at hR
  refine ⟨hR, hn.1, by omega⟩
theorem go_fault {f : Nat} {c : Int} {acc : List Tok} {R : Res} (h : stepL (s.data.toList.drop p) = .fault c) (hR : scanL (f + 1) (s.data.toList.drop p) p acc = R) : R = .err c p := by
  rw [drop_cons s p hp] at h hR
  rw [scanL_fault h] at hR
  exact hR.symm
end
theorem go_end {s : ByteArray} {p f : Nat} {acc : List Tok} {R : Res} (hp : s.size ≤ p) (hR : scanL f (s.data.toList.drop p) p acc = R) : R = .ok acc := by
  rw [List.drop_eq_nil_of_le (by rw [len_L]; exact hp), scanL_end] at hR
  exact hR.symm
/-! what lies in memory -/
def cellsOf (l : List Tok) : List Value := l.flatMap fun t => [.int .i64 t.kind, .string ⟨t.text.toArray⟩, .int .i64 (t.at_ : Int)]
theorem cellsOf_snoc (l : List Tok) (t : Tok) : cellsOf (l ++ [t]) = cellsOf l ++ [.int .i64 t.kind, .string ⟨t.text.toArray⟩, .int .i64 (t.at_ : Int)] := by simp [cellsOf]
theorem cellsOf_length (l : List Tok) : (cellsOf l).length = l.length * 3 := by
  induction l with
  | nil => rfl
  | cons t l ih => simp only [cellsOf, List.flatMap_cons, List.length_append, List.length_cons] at ih ⊢; simp only [List.length_nil]; omega
def Res.toks : Res → List Tok
  | .ok l => l
  | .err _ _ => []
def Res.code : Res → Int
  | .ok _ => 0
  | .err c _ => c
def Res.place : Res → Int
  | .ok _ => 0
  | .err _ p => (p : Int)
end lexs
namespace syn
open Go.Proofs.YtkoomoemkffjkaaGreatDoor.lexs (Tok ltrI insI val)

/-- a node and those under it -/
inductive Tree where
  | node (kind : Int) (text : ByteArray) (num : Int) (kids : List Tree)

/-- where a reader is, and whether it has failed -/
structure St where
  i : Nat
  bad : Bool

def empty : ByteArray := ⟨#[]⟩
/-- one string is another -/
def eqS (x y : ByteArray) : Bool := x.toList == y.toList

section
variable (ts : List Tok)
def reserved : List ByteArray := [⟨#[100, 111]⟩, ⟨#[101, 108, 115, 101]⟩, ⟨#[103, 105, 118, 101, 115]⟩, ⟨#[104, 105, 103, 104]⟩, ⟨#[105, 102]⟩, ⟨#[105, 109, 112, 111, 114, 116]⟩, ⟨#[105, 110]⟩, ⟨#[108, 111, 119]⟩, ⟨#[109, 111, 100, 117, 108, 101]⟩, ⟨#[111, 117, 116]⟩, ⟨#[112, 114, 111, 99]⟩, ⟨#[112, 117, 98]⟩, ⟨#[114, 101, 116, 117, 114, 110]⟩, ⟨#[119, 104, 105, 108, 101]⟩]
def isName (x : ByteArray) : Bool :=
  decide (1 ≤ x.size ∧ x.size ≤ 16) && ltrI ((x.data.toList.headD 0).toNat : Int) && x.data.toList.all (fun c => insI (c.toNat : Int)) && !(reserved.any fun y => eqS y x)
def signs : List (ByteArray × Int × Int) := [(⟨#[61, 61]⟩, 9, 0), (⟨#[60]⟩, 8, 0), (⟨#[43]⟩, 1, 1), (⟨#[45]⟩, 2, 1), (⟨#[124]⟩, 7, 1), (⟨#[42]⟩, 3, 2), (⟨#[47]⟩, 4, 2), (⟨#[37]⟩, 5, 2), (⟨#[38]⟩, 6, 2)]
end
end syn
namespace syn
open Go.Proofs.YtkoomoemkffjkaaGreatDoor.lexs (Tok)

def sv (k : Nat) : ByteArray := (signs.getD k (empty, 0, -1)).1
def so (k : Nat) : Int := (signs.getD k (empty, 0, -1)).2.1
def sl (k : Nat) : Int := (signs.getD k (empty, 0, -1)).2.2
theorem nine {k : Nat} (h : k < 9) : k = 0 ∨ k = 1 ∨ k = 2 ∨ k = 3 ∨ k = 4 ∨ k = 5 ∨ k = 6 ∨ k = 7 ∨ k = 8 := by omega
end syn
namespace syn

mutual
/-- as the reference counts: up to a bound and a few -/
def manyT : Tree → Int → Int
  | .node _ _ _ ks, most => manyL ks 1 most
def manyL : List Tree → Int → Int → Int
  | [], k, _ => k
  | t :: r, k, most => if k ≤ most then manyL r (k + manyT t (most - k)) most else k
end
mutual
def deepT : Tree → Int → Int
  | .node _ _ _ ks, most => deepL ks 0 most + 1
def deepL : List Tree → Int → Int → Int
  | [], d, _ => d
  | t :: r, d, most => if 0 < most ∧ d ≤ most then deepL r (max d (deepT t (most - 1))) most else d
end
def fitsT (t : Tree) : Bool := if 500 < manyT t 500 then false else decide (deepT t 16 ≤ 16)
mutual
theorem manyT_bounds : ∀ (t : Tree) (most : Int), 0 ≤ most → 1 ≤ manyT t most ∧ manyT t most ≤ most + 1
  | .node _ _ _ ks, most, h => by
    unfold manyT
    exact manyL_bounds ks 1 most h (by omega) (by omega)
theorem manyL_bounds : ∀ (ks : List Tree) (k most : Int), 0 ≤ most → 1 ≤ k → k ≤ most + 1 → 1 ≤ manyL ks k most ∧ manyL ks k most ≤ most + 1
  | [], k, most, h, h1, h2 => by unfold manyL; exact ⟨h1, h2⟩
  | t :: r, k, most, h, h1, h2 => by
    unfold manyL
    split
    · have hm := manyT_bounds t (most - k) (by omega)
      exact manyL_bounds r _ most h (by omega) (by omega)
    · exact ⟨h1, h2⟩
end
mutual
theorem deepT_bounds : ∀ (t : Tree) (most : Int), 0 ≤ most → 1 ≤ deepT t most ∧ deepT t most ≤ most + 1
  | .node _ _ _ ks, most, h => by
    unfold deepT
    have := deepL_bounds ks 0 most h (by omega) (by omega)
    omega
theorem deepL_bounds : ∀ (ks : List Tree) (d most : Int), 0 ≤ most → 0 ≤ d → d ≤ most → 0 ≤ deepL ks d most ∧ deepL ks d most ≤ most
  | [], d, most, h, h1, h2 => by unfold deepL; exact ⟨h1, h2⟩
  | t :: r, d, most, h, h1, h2 => by
    unfold deepL
    split
    · rename_i hc
      have hm := deepT_bounds t (most - 1) (by omega)
      exact deepL_bounds r _ most h (by omega) (by omega)
    · exact ⟨h1, h2⟩
end
def opS : List ByteArray := [empty, ⟨#[43]⟩, ⟨#[45]⟩, ⟨#[42]⟩, ⟨#[47]⟩, ⟨#[37]⟩, ⟨#[38]⟩, ⟨#[124]⟩, ⟨#[60]⟩, ⟨#[61, 61]⟩]
def opB : List Int := [0, 1, 1, 2, 2, 2, 2, 1, 0, 0]
def opAt (k : Nat) : ByteArray := opS.getD k empty
def opIs (k : Nat) : Int := opB.getD k 0

mutual
def cntT : Tree → Int
  | .node _ _ _ ks => cntL ks + 1
def cntL : List Tree → Int
  | [] => 0
  | t :: r => cntT t + cntL r
end
mutual
def depT : Tree → Int
  | .node _ _ _ ks => depL ks + 1
def depL : List Tree → Int
  | [] => 0
  | t :: r => max (depT t) (depL r)
end
mutual
theorem cntT_pos : ∀ t : Tree, 1 ≤ cntT t
  | .node _ _ _ ks => by unfold cntT; have := cntL_pos ks; omega
theorem cntL_pos : ∀ ks : List Tree, 0 ≤ cntL ks
  | [] => by unfold cntL; omega
  | t :: r => by unfold cntL; have h1 := cntT_pos t; have h2 := cntL_pos r; omega
end
mutual
theorem depT_pos : ∀ t : Tree, 1 ≤ depT t
  | .node _ _ _ ks => by unfold depT; have := depL_pos ks; omega
theorem depL_pos : ∀ ks : List Tree, 0 ≤ depL ks
  | [] => by unfold depL; omega
  | t :: r => by unfold depL; have h1 := depT_pos t; have h2 := depL_pos r; omega
end
mutual
theorem manyT_is : ∀ (t : Tree) (most : Int), 0 ≤ most → (cntT t ≤ most → manyT t most = cntT t) ∧ (most < cntT t → most < manyT t most)
  | .node _ _ _ ks, most, h => by
    unfold manyT cntT
    have := manyL_is ks 1 most h (by omega) (by omega)
    exact ⟨fun h1 => by rw [this.1 (by omega)]; omega, fun h1 => this.2 (by omega)⟩
theorem manyL_is : ∀ (ks : List Tree) (k most : Int), 0 ≤ most → 1 ≤ k → k ≤ most + 1 → (k + cntL ks ≤ most → manyL ks k most = k + cntL ks) ∧ (most < k + cntL ks → most < manyL ks k most)
  | [], k, most, h, h1, h2 => by unfold manyL cntL; exact ⟨fun _ => by omega, fun h => by omega⟩
  | t :: r, k, most, h, h1, h2 => by
    unfold manyL cntL
    have p1 := cntT_pos t
    have p2 := cntL_pos r
    split
    · rename_i hc
      have hm := manyT_is t (most - k) (by omega)
      have hb := manyT_bounds t (most - k) (by omega)
      have hr := manyL_is r (k + manyT t (most - k)) most h (by omega) (by omega)
      refine ⟨fun h3 => ?_, fun h3 => ?_⟩
      · rw [hr.1 (by rw [hm.1 (by omega)]; omega), hm.1 (by omega)]
        omega
      · rcases Int.lt_or_le (most - k) (cntT t) with h4 | h4
        · have := hm.2 h4
          exact hr.2 (by omega)
        · have := hm.1 h4
          exact hr.2 (by omega)
    · exact ⟨fun h3 => by omega, fun h3 => by omega⟩
end
mutual
theorem deepT_is : ∀ (t : Tree) (most : Int), 0 ≤ most → (depT t ≤ most → deepT t most = depT t) ∧ (most < depT t → most < deepT t most)
  | .node _ _ _ ks, most, h => by
    unfold deepT depT
    have p := depL_pos ks
    rcases Int.lt_or_le 0 most with h0 | h0
    · have := deepL_is ks 0 most h0 (by omega) (by omega)
      have e : max 0 (depL ks) = depL ks := by omega
      rw [e] at this
      exact ⟨fun h1 => by rw [this.1 (by omega)], fun h1 => by have := this.2 (by omega); omega⟩
    · have hb := deepL_bounds ks 0 most h (by omega) (by omega)
      exact ⟨fun h1 => by omega, fun h1 => by omega⟩
theorem deepL_is : ∀ (ks : List Tree) (d most : Int), 0 < most → 0 ≤ d → d ≤ most → (max d (depL ks) ≤ most - 1 → deepL ks d most = max d (depL ks)) ∧ (most - 1 < max d (depL ks) → most ≤ deepL ks d most)
  | [], d, most, h, h1, h2 => by unfold deepL depL; exact ⟨fun _ => by omega, fun h => by omega⟩
  | t :: r, d, most, h, h1, h2 => by
    unfold deepL depL
    rw [if_pos ⟨h, h2⟩]
    have hm := deepT_is t (most - 1) (by omega)
    have hb := deepT_bounds t (most - 1) (by omega)
    have hr := deepL_is r (max d (deepT t (most - 1))) most h (by omega) (by omega)
    refine ⟨fun h3 => ?_, fun h3 => ?_⟩
    · have e := hm.1 (by omega)
      rw [hr.1 (by omega), e]
      omega
    · rcases Int.lt_or_le (most - 1) (depT t) with h4 | h4
      · have := hm.2 h4
        exact hr.2 (by omega)
      · have := hm.1 h4
        exact hr.2 (by omega)
end
mutual
/-- as the program counts: it stops at the first node beyond a limit -/
def withinT : Tree → Int → Int → Option Int
  | .node _ _ _ ks, d, c => if 16 < d ∨ 500 < c + 1 then none else withinL ks (d + 1) (c + 1)
def withinL : List Tree → Int → Int → Option Int
  | [], _, c => some c
  | t :: r, d, c => match withinT t d c with
    | none => none
    | some c' => withinL r d c'
end
mutual
theorem withinT_is : ∀ (t : Tree) (d c : Int), 0 ≤ c → c ≤ 500 → 1 ≤ d → d ≤ 17 → withinT t d c = if depT t + d ≤ 17 ∧ c + cntT t ≤ 500 then some (c + cntT t) else none
  | .node _ _ _ ks, d, c, h1, h2, h3, h4 => by
    unfold withinT depT cntT
    have p1 := depL_pos ks
    have p2 := cntL_pos ks
    by_cases hc : 16 < d ∨ 500 < c + 1
    · rw [if_pos hc, if_neg (by omega)]
    · rw [if_neg hc, withinL_is ks (d + 1) (c + 1) (by omega) (by omega) (by omega) (by omega)]
      by_cases hd : depL ks + (d + 1) ≤ 17 ∧ c + 1 + cntL ks ≤ 500
      · rw [if_pos hd, if_pos (by omega)]
        congr 1
        omega
      · rw [if_neg hd, if_neg (by omega)]
theorem withinL_is : ∀ (ks : List Tree) (d c : Int), 0 ≤ c → c ≤ 500 → 1 ≤ d → d ≤ 17 → withinL ks d c = if depL ks + d ≤ 17 ∧ c + cntL ks ≤ 500 then some (c + cntL ks) else none
  | [], d, c, h1, h2, h3, h4 => by
    unfold withinL depL cntL
    rw [if_pos (by omega)]
    congr 1
    omega
  | t :: r, d, c, h1, h2, h3, h4 => by
    unfold withinL depL cntL
    have p1 := cntT_pos t
    have p2 := cntL_pos r
    have p3 := depT_pos t
    have p4 := depL_pos r
    rw [withinT_is t d c h1 h2 h3 h4]
    by_cases hd : depT t + d ≤ 17 ∧ c + cntT t ≤ 500
    · rw [if_pos hd]
      simp only
      rw [withinL_is r d (c + cntT t) (by omega) (by omega) h3 h4]
      by_cases hr : depL r + d ≤ 17 ∧ c + cntT t + cntL r ≤ 500
      · rw [if_pos hr, if_pos (by omega)]
        congr 1
        omega
      · rw [if_neg hr, if_neg (by omega)]
    · rw [if_neg hd]
      simp only
      rw [if_neg (by omega)]
end
theorem within_fits (t : Tree) : (withinT t 1 0).isSome = fitsT t := by
  rw [withinT_is t 1 0 (by omega) (by omega) (by omega) (by omega)]
  unfold fitsT
  have hm := manyT_is t 500 (by omega)
  have hd := deepT_is t 16 (by omega)
  rcases Int.lt_or_le 500 (cntT t) with h | h
  · have a1 := hm.2 h
    have a2 : ¬ (depT t + 1 ≤ 17 ∧ 0 + cntT t ≤ 500) := by omega
    simp only [if_pos a1, if_neg a2]
    rfl
  · have a1 : ¬ 500 < manyT t 500 := by rw [hm.1 h]; omega
    simp only [if_neg a1]
    rcases Int.lt_or_le 16 (depT t) with h2 | h2
    · have a2 : ¬ (depT t + 1 ≤ 17 ∧ 0 + cntT t ≤ 500) := by omega
      have a3 : ¬ deepT t 16 ≤ 16 := by have := hd.2 h2; omega
      simp only [if_neg a2, decide_eq_false a3]
      rfl
    · have a2 : depT t + 1 ≤ 17 ∧ 0 + cntT t ≤ 500 := by omega
      have a3 : deepT t 16 ≤ 16 := by rw [hd.1 h2]; exact h2
      simp only [if_pos a2, decide_eq_true a3]
      rfl
end syn
namespace chk
def cutL : List UInt8 → List UInt8 × Option (List UInt8)
  | [] => ([], none)
  | c :: r => if c = 46 then ([], some r) else ((c :: (cutL r).1), (cutL r).2)
end chk
namespace chk
open Go.Proofs.YtkoomoemkffjkaaGreatDoor.syn Go.Proofs.YtkoomoemkffjkaaGreatDoor.face

theorem cutL_none : ∀ (l : List UInt8), (∀ c ∈ l, c ≠ 46) → cutL l = (l, none)
  | [], _ => rfl
  | c :: r, h => by
    unfold cutL
    rw [if_neg (h c (List.mem_cons_self)), cutL_none r (fun d hd => h d (List.mem_cons_of_mem _ hd))]
theorem cutL_some : ∀ (a b : List UInt8), (∀ c ∈ a, c ≠ 46) → cutL (a ++ 46 :: b) = (a, some b)
  | [], b, _ => by show cutL (46 :: b) = _; unfold cutL; rw [if_pos rfl]
  | c :: r, b, h => by
    show cutL (c :: (r ++ 46 :: b)) = _
    unfold cutL
    rw [if_neg (h c (List.mem_cons_self)), cutL_some r b (fun d hd => h d (List.mem_cons_of_mem _ hd))]
end chk
namespace face
open Go.Proofs.YtkoomoemkffjkaaGreatDoor.lexs Go.Proofs.YtkoomoemkffjkaaGreatDoor.syn

/-- what the tokens of a text look like -/
structure Fine (t : Tok) : Prop where
  kinds : t.kind = 1 ∨ t.kind = 2 ∨ t.kind = 3
  ne : t.text ≠ []
  word : t.kind = 1 → t.text.length ≤ 16 ∧ ltrB (t.text.headD 0) = true ∧ t.text.all insB = true
  num : t.kind = 2 → numE t.text = 0
  sign : t.kind = 3 → ltrB (t.text.headD 0) = false
theorem take_run (p : UInt8 → Bool) (l : List UInt8) : l.take (run p l) = l.takeWhile p := by
  unfold run
  induction l with
  | nil => rfl
  | cons b r ih =>
    rw [List.takeWhile_cons]
    cases p b
    · rfl
    · simp [ih]
theorem step_fine {b : UInt8} {r : List UInt8} {K : Int} {n i : Nat} (h : stepL (b :: r) = .tok K n) : Fine ⟨K, (b :: r).take n, i⟩ := by
  have hn := (stepL_tok h).1
  obtain ⟨m, rfl⟩ : ∃ m, n = m + 1 := ⟨n - 1, by omega⟩
  have hh : ((b :: r).take (m + 1)).headD 0 = b := by simp
  have hne : (b :: r).take (m + 1) ≠ [] := by simp
  rw [stepL, List.headD_cons, stepB] at h
  by_cases h1 : (b == 32 || b == 10) = true
  · rw [if_pos h1] at h; simp at h
  rw [if_neg h1] at h
  by_cases h2 : (b == 35) = true
  · rw [if_pos h2] at h; simp at h
  rw [if_neg h2] at h
  cases h3 : ltrB b
  · rw [h3] at h
    simp only [Bool.false_eq_true, if_false] at h
    cases h4 : digB b
    · rw [h4] at h
      simp only [Bool.false_eq_true, if_false] at h
      split at h
      · simp at h
      · injection h with hk hm
        subst hk
        refine ⟨.inr (.inr rfl), hne, fun e => by simp at e, fun e => by simp at e, fun _ => ?_⟩
        show ltrB (((b :: r).take (m + 1)).headD 0) = false
        rw [hh]
        exact h3
    · rw [h4] at h
      simp only [if_true] at h
      split at h
      · rename_i he
        injection h with hk hm
        subst hk
        refine ⟨.inr (.inl rfl), hne, fun e => by simp at e, fun _ => ?_, fun e => by simp at e⟩
        rw [← hm]
        simpa using he
      · simp at h
  · rw [h3] at h
    simp only [if_true] at h
    split at h
    · simp at h
    · rename_i h16
      injection h with hk hm
      subst hk
      refine ⟨.inl rfl, hne, fun _ => ⟨?_, ?_, ?_⟩, fun e => by simp at e, fun e => by simp at e⟩
      · show ((b :: r).take (m + 1)).length ≤ 16
        rw [List.length_take]
        omega
      · show ltrB (((b :: r).take (m + 1)).headD 0) = true
        rw [hh]
        exact h3
      · show ((b :: r).take (m + 1)).all insB = true
        rw [← hm, take_run]
        exact List.all_takeWhile
theorem scanL_fine : ∀ (f : Nat) (l : List UInt8) (i : Nat) (acc toks : List Tok), scanL f l i acc = .ok toks → (∀ t ∈ acc, Fine t) → ∀ t ∈ toks, Fine t
  | 0, l, i, acc, toks, h, ha => by
    unfold scanL at h
    injection h with h
    subst h
    exact ha
  | f + 1, [], i, acc, toks, h, ha => by
    unfold scanL at h
    injection h with h
    subst h
    exact ha
  | f + 1, b :: r, i, acc, toks, h, ha => by
    cases hs : stepL (b :: r) with
    | skip n => rw [scanL_skip hs] at h; exact scanL_fine f _ _ _ _ h ha
    | fault c => rw [scanL_fault hs] at h; simp at h
    | tok k n =>
      rw [scanL_tok hs] at h
      refine scanL_fine f _ _ _ _ h ?_
      intro t ht
      rw [List.mem_append] at ht
      rcases ht with ht | ht
      · exact ha t ht
      · simp only [List.mem_singleton] at ht
        subst ht
        exact step_fine hs
theorem scan_fine {l : List UInt8} {toks : List Tok} (h : scan l = .ok toks) : ∀ t ∈ toks, Fine t := by
  unfold scan at h
  split at h
  · simp at h
  · exact scanL_fine _ _ _ _ _ h (fun t ht => by simp at ht)
def raw (t : Tok) : ByteArray := ⟨t.text.toArray⟩
theorem raw_list (t : Tok) : (raw t).data.toList = t.text := rfl
theorem raw_size (t : Tok) : (raw t).size = t.text.length := by rw [← lexs.len_L, raw_list]
def ownName (t : Tok) : Bool := !(reserved.any fun y => eqS y (raw t)) && t.kind == 1
theorem bytes_ext {x y : ByteArray} (h : x.data.toList = y.data.toList) : x = y := WideShapes.bytes_inj h
theorem eqS_iff {x y : ByteArray} : eqS x y = true ↔ x = y := by
  unfold eqS
  rw [beq_iff_eq, ByteArray.toList_eq, ByteArray.toList_eq]
  exact ⟨bytes_ext, fun h => by rw [h]⟩
/-- what the program asks of a text's tokens -/
def tellsL (x : ByteArray) : List Tok → Bool
  | [t] => ownName t && eqS (raw t) x
  | _ => false
def tells (x : ByteArray) : Bool := tellsL x (scan x.data.toList).toks
theorem isName_fine {t : Tok} (hg : Fine t) (h : ownName t = true) : isName (raw t) = true := by
  unfold ownName at h
  simp only [Bool.and_eq_true, beq_iff_eq] at h
  obtain ⟨h1, h2, h3⟩ := hg.word h.2
  have hsz : 1 ≤ (raw t).size := by
    rw [raw_size]
    have := hg.ne
    cases hl : t.text with
    | nil => exact absurd hl this
    | cons b r => simp
  unfold isName
  rw [raw_list]
  have hl : ltrI ((t.text.headD 0).toNat : Int) = true := h2
  have ha : t.text.all (fun c => insI (c.toNat : Int)) = true := h3
  rw [hl, ha, decide_eq_true ⟨hsz, by rw [raw_size]; exact h1⟩, h.1]
  rfl
theorem run_all {l : List UInt8} (h : l.all insB = true) : run insB l = l.length := by
  apply run_eq
  · intro j hj _
    exact List.all_eq_true.1 h _ (List.getElem_mem hj)
  · exact .inl rfl
theorem scan_name {x : ByteArray} (h : isName x = true) : scan x.data.toList = .ok [⟨1, x.data.toList, 0⟩] := by
  unfold isName at h
  simp only [Bool.and_eq_true, decide_eq_true_eq] at h
  obtain ⟨⟨⟨⟨h1, h16⟩, hl⟩, ha⟩, _⟩ := h
  have hlen : x.data.toList.length = x.size := lexs.len_L x
  unfold scan
  rw [if_neg (by omega)]
  cases hx : x.data.toList with
  | nil => rw [hx] at hlen; simp at hlen; omega
  | cons b r =>
    rw [hx] at hl ha hlen
    have hlb : ltrB b = true := hl
    have hrun : run insB (b :: r) = (b :: r).length := run_all ha
    have hb32 : (b == 32 || b == 10) = false := by
      cases hb : (b == 32 || b == 10) with
      | false => rfl
      | true =>
        simp only [Bool.or_eq_true, beq_iff_eq] at hb
        rcases hb with rfl | rfl <;> simp [ltrB, ltrI] at hlb
    have hb35 : (b == 35) = false := by
      cases hb : (b == 35) with
      | false => rfl
      | true =>
        simp only [beq_iff_eq] at hb
        subst hb
        simp [ltrB, ltrI] at hlb
    have hs : stepL (b :: r) = .tok 1 (b :: r).length := by
      rw [stepL, List.headD_cons, stepB, hb32, hb35, hlb, hrun]
      simp only [Bool.false_eq_true, if_false, if_true]
      rw [if_neg (by omega)]
    rw [List.length_cons] at hs ⊢
    rw [scanL_tok hs]
    rw [List.drop_eq_nil_of_le (by simp), scanL_end, List.take_of_length_le (by simp)]
    rfl
theorem tells_eq (x : ByteArray) : tells x = isName x := by
  unfold tells
  cases hn : isName x with
  | true =>
    rw [scan_name hn]
    show (ownName _ && eqS _ x) = true
    have e : raw ⟨1, x.data.toList, 0⟩ = x := bytes_ext rfl
    rw [e]
    unfold ownName
    rw [e]
    unfold isName at hn
    simp only [Bool.and_eq_true] at hn
    rw [hn.2, eqS_iff.2 rfl]
    rfl
  | false =>
    cases hs : scan x.data.toList with
    | err c p => rfl
    | ok l =>
      show tellsL x l = false
      match l, hs with
      | [], _ => rfl
      | [t], hs =>
        show (ownName t && eqS (raw t) x) = false
        cases ho : ownName t with
        | false => rfl
        | true =>
          cases he : eqS (raw t) x with
          | false => rfl
          | true =>
            have h1 := isName_fine (scan_fine hs t (by simp)) ho
            rw [eqS_iff.1 he, hn] at h1
            cases h1
      | _ :: _ :: _, _ => rfl
end face
namespace pr
open Go.Proofs.YtkoomoemkffjkaaGreatDoor.syn Go.Proofs.YtkoomoemkffjkaaGreatDoor.face Go.Proofs.YtkoomoemkffjkaaGreatDoor.chk
/-- the words of a name -/
def wordsF (x : ByteArray) : Option (List ByteArray) := match cutL x.data.toList with
  | (a, none) => if isName x then some [x] else none
  | (a, some b) => if isName ⟨a.toArray⟩ && isName ⟨b.toArray⟩ then some [⟨a.toArray⟩, ⟨#[46]⟩, ⟨b.toArray⟩] else none
def textB (x : ByteArray) (names : Int) : Bool := if names = 0 then x.size == 0 else match wordsF x with
  | some l => decide ((l.length : Int) < 2 * names)
  | none => false
/-- what nodes of a kind have: names, least and most number, fewest and most kids -/
def shapeF (k : Int) : Int × Int × Int × Int × Int :=
  if k = 1 then (1, 0, 0, 0, 500) else if k = 2 then (1, 0, 0, 0, 0) else if k = 3 then (1, 0, 3, 0, 1) else if k = 4 then (1, 0, 11, 1, 500) else
  if k = 5 then (1, 0, 1, 0, 0) else if k = 6 then (0, 0, 0, 0, 500) else if k = 7 then (1, 0, 1, 1, 1) else if k = 8 then (0, 0, 0, 2, 2) else
  if k = 9 then (0, 0, 0, 1, 1) else if k = 10 then (0, 0, 0, 2, 3) else if k = 11 then (0, 0, 0, 2, 2) else if k = 12 then (0, 0, 1, 1, 1) else
  if k = 13 then (0, 0, 1, 1, 1) else if k = 14 then (0, 0, 0, 1, 1) else if k = 15 then (0, 0, 9223372036854775807, 0, 0) else if k = 16 then (2, 0, 0, 0, 0) else
  if k = 17 then (2, 0, 0, 1, 1) else if k = 18 then (2, 0, 0, 0, 500) else if k = 19 then (0, 1, 9, 2, 2) else if k = 20 then (0, 0, 0, 1, 1) else (0, 0, 0, 1, 1)
def lookB (kinds : List Int) : Tree → Bool
  | .node k x m ks => kinds.contains k && decide ((shapeF k).2.1 ≤ m) && decide (m ≤ (shapeF k).2.2.1) && decide ((shapeF k).2.2.2.1 ≤ ks.length) && decide ((ks.length : Int) ≤ (shapeF k).2.2.2.2) && textB x (shapeF k).1
def numW (m : Int) : ByteArray := ⟨(Lib.itoa m).toArray⟩
def exprKinds : List Int := [15, 16, 17, 18, 19, 20, 21]
def noT : Tree := .node 0 empty 0 []
def kidT (t : Tree) (i : Nat) : Tree := match t with
  | .node _ _ _ ks => ks.getD i noT
/-- items, with a comma between two -/
def itemsF (g : Tree → Option (List ByteArray)) : Nat → List Tree → Option (List ByteArray)
  | _, [] => some []
  | at_, t :: r => (g t).bind fun a => (itemsF g (at_ + 1) r).bind fun b => some ((if at_ = 0 then [] else [⟨#[44]⟩]) ++ a ++ b)
def bindsF (k m : Int) : Int := if k = 19 then opIs m.toNat else if k = 20 ∨ k = 21 then 3 else 4
/-- an expression without parentheses around it; g: an expression where it must bind so closely -/
def bareF (g : Int → Tree → Option (List ByteArray)) : Tree → Option (List ByteArray)
  | .node k x m ks =>
    if k = 15 then some [numW m] else
    if k = 16 then wordsF x else
    if k = 17 then (wordsF x).bind fun nm => (g 0 (ks.getD 0 noT)).bind fun e => some (nm ++ [⟨#[91]⟩] ++ e ++ [⟨#[93]⟩]) else
    if k = 18 then (wordsF x).bind fun nm => (itemsF (g 0) 0 ks).bind fun e => some (nm ++ [⟨#[40]⟩] ++ e ++ [⟨#[41]⟩]) else
    if k = 19 then (g (max (opIs m.toNat) 1) (ks.getD 0 noT)).bind fun a => (g (opIs m.toNat + 1) (ks.getD 1 noT)).bind fun b => some (a ++ [opAt m.toNat] ++ b) else
    if k = 20 then (g 3 (ks.getD 0 noT)).bind fun e => some ([⟨#[45]⟩] ++ e) else
    (g 3 (ks.getD 0 noT)).bind fun e => some ([⟨#[33]⟩] ++ e)
def opnF : Nat → Int → Tree → Option (List ByteArray)
  | 0, _, _ => none
  | f + 1, least, .node k x m ks => if lookB exprKinds (.node k x m ks) then
      (if least ≤ bindsF k m then bareF (opnF f) (.node k x m ks) else (bareF (opnF f) (.node k x m ks)).bind fun e => some ([⟨#[40]⟩] ++ e ++ [⟨#[41]⟩])) else none
def labW (m : Int) : ByteArray := if m = 1 then ⟨#[104, 105, 103, 104]⟩ else ⟨#[108, 111, 119]⟩
def roundF (g : Tree → Option (List ByteArray)) (ks : List Tree) : Option (List ByteArray) := (itemsF g 0 ks).bind fun e => some ([⟨#[40]⟩] ++ e ++ [⟨#[41]⟩])
def parW : Tree → Option (List ByteArray)
  | .node k x m ks => if lookB [5] (.node k x m ks) then some ([labW m] ++ [x]) else none
/-- one behind the other -/
def seqF (g : Tree → Option (List ByteArray)) : List Tree → Option (List ByteArray)
  | [] => some []
  | t :: r => (g t).bind fun a => (seqF g r).bind fun b => some (a ++ b)
def statKinds : List Int := [7, 8, 9, 10, 11, 12, 13, 14]
def placeW (f : Nat) (t : Tree) : Option (List ByteArray) := if lookB [16, 17] t then opnF f 0 t else none
def doW (f : Nat) (t : Tree) : Option (List ByteArray) := if lookB [18] t then opnF f 0 t else none
mutual
def blockW : Nat → Tree → Option (List ByteArray)
  | 0, _ => none
  | f + 1, .node k x m ks => if lookB [6] (.node k x m ks) then (seqF (statW f) ks).bind fun b => some ([⟨#[123]⟩] ++ b ++ [⟨#[125]⟩]) else none
def statW : Nat → Tree → Option (List ByteArray)
  | 0, _ => none
  | f + 1, .node k x m ks => if lookB statKinds (.node k x m ks) then
      (if k = 10 then (roundF (opnF f 0) (ks.take 1)).bind fun c => (blockW f (ks.getD 1 noT)).bind fun b =>
        if 2 < ks.length then (blockW f (ks.getD 2 noT)).bind fun d => some ([⟨#[105, 102]⟩] ++ c ++ b ++ [⟨#[101, 108, 115, 101]⟩] ++ d) else some ([⟨#[105, 102]⟩] ++ c ++ b)
      else if k = 11 then (roundF (opnF f 0) (ks.take 1)).bind fun c => (blockW f (ks.getD 1 noT)).bind fun b => some ([⟨#[119, 104, 105, 108, 101]⟩] ++ c ++ b)
      else if k = 7 then (opnF f 0 (ks.getD 0 noT)).bind fun e => some ([labW m] ++ [x, ⟨#[61]⟩] ++ e ++ [⟨#[59]⟩])
      else if k = 8 then (placeW f (ks.getD 0 noT)).bind fun p => (opnF f 0 (ks.getD 1 noT)).bind fun e => some (p ++ [⟨#[61]⟩] ++ e ++ [⟨#[59]⟩])
      else if k = 9 then (doW f (ks.getD 0 noT)).bind fun e => some ([⟨#[100, 111]⟩] ++ e ++ [⟨#[59]⟩])
      else if k = 12 then (opnF f 0 (ks.getD 0 noT)).bind fun e => some ([⟨#[111, 117, 116]⟩] ++ [labW m] ++ e ++ [⟨#[59]⟩])
      else if k = 13 then (placeW f (ks.getD 0 noT)).bind fun e => some ([⟨#[105, 110]⟩] ++ [labW m] ++ e ++ [⟨#[59]⟩])
      else (opnF f 0 (ks.getD 0 noT)).bind fun e => some ([⟨#[114, 101, 116, 117, 114, 110]⟩] ++ e ++ [⟨#[59]⟩]))
    else none
end
/-- what a procedure gives -/
def givW (m : Int) : List ByteArray := if m.toNat / 4 % 4 = 1 then [⟨#[103, 105, 118, 101, 115]⟩, ⟨#[108, 111, 119]⟩] else if m.toNat / 4 % 4 = 2 then [⟨#[103, 105, 118, 101, 115]⟩, ⟨#[104, 105, 103, 104]⟩] else []
def numK (t : Tree) : Option (List ByteArray) := match t with
  | .node k x m ks => if lookB [15] (.node k x m ks) then some [numW m] else none
def declW (f : Nat) (t : Tree) : Option (List ByteArray) := match t with
  | .node k x m ks => if lookB [3, 4] (.node k x m ks) then
      (if k = 4 then (roundF parW (ks.take (ks.length - 1))).bind fun p => (blockW f (ks.getD (ks.length - 1) noT)).bind fun b => some ((if m.toNat / 2 % 2 = 1 then [⟨#[112, 117, 98]⟩] else []) ++ [⟨#[112, 114, 111, 99]⟩, x] ++ p ++ [labW (m % 2)] ++ givW m ++ b)
      else (match ks with
        | [] => some ((if m.toNat / 2 % 2 = 1 then [⟨#[112, 117, 98]⟩] else []) ++ [labW (m % 2)] ++ [x] ++ [⟨#[59]⟩])
        | t0 :: _ => (numK t0).bind fun n => some ((if m.toNat / 2 % 2 = 1 then [⟨#[112, 117, 98]⟩] else []) ++ [labW (m % 2)] ++ [x] ++ [⟨#[91]⟩] ++ n ++ [⟨#[93]⟩] ++ [⟨#[59]⟩])))
    else none
def impB : Tree → Bool
  | .node k _ _ _ => k == 2
def impW (t : Tree) : Option (List ByteArray) := match t with
  | .node k x m ks => if lookB [2] (.node k x m ks) then some [⟨#[105, 109, 112, 111, 114, 116]⟩, x, ⟨#[59]⟩] else none
def moduleW (f : Nat) (t : Tree) : Option (List ByteArray) := match t with
  | .node k x m ks => if lookB [1] (.node k x m ks) then
      (seqF impW (ks.takeWhile impB)).bind fun a => (seqF (declW f) (ks.dropWhile impB)).bind fun b => some ([⟨#[109, 111, 100, 117, 108, 101]⟩, x, ⟨#[59]⟩] ++ a ++ b)
    else none
end pr
namespace pr
open Go.Proofs.YtkoomoemkffjkaaGreatDoor.lexs (Tok scan)
open Go.Proofs.YtkoomoemkffjkaaGreatDoor.syn Go.Proofs.YtkoomoemkffjkaaGreatDoor.face Go.Proofs.YtkoomoemkffjkaaGreatDoor.chk

theorem cntL_len : ∀ ks : List Tree, (ks.length : Int) ≤ cntL ks
  | [] => by unfold cntL; simp
  | t :: r => by
    unfold cntL
    have := cntL_len r
    have := cntT_pos t
    simp only [List.length_cons]
    omega
theorem cnt_kid {t : Tree} : ∀ {ks : List Tree}, t ∈ ks → cntT t ≤ cntL ks
  | [], h => by cases h
  | a :: r, h => by
    unfold cntL
    have h1 := cntT_pos a
    have h2 := cntL_pos r
    rcases List.mem_cons.1 h with rfl | h
    · omega
    · have := cnt_kid h; omega
theorem dep_kid {t : Tree} : ∀ {ks : List Tree}, t ∈ ks → depT t ≤ depL ks
  | [], h => by cases h
  | a :: r, h => by
    unfold depL
    rcases List.mem_cons.1 h with rfl | h
    · omega
    · have := dep_kid h; omega
theorem cut_none : ∀ (l : List UInt8), (∀ c ∈ l, c ≠ 46) → cutL l = (l, none)
  | [], _ => rfl
  | c :: r, h => by
    unfold cutL
    rw [if_neg (h c (List.mem_cons_self)), cut_none r (fun d hd => h d (List.mem_cons_of_mem _ hd))]
theorem cut_some : ∀ (a b : List UInt8), (∀ c ∈ a, c ≠ 46) → cutL (a ++ 46 :: b) = (a, some b)
  | [], b, _ => by show cutL (46 :: b) = _; unfold cutL; rw [if_pos rfl]
  | c :: r, b, h => by
    show cutL (c :: (r ++ 46 :: b)) = _
    unfold cutL
    rw [if_neg (h c (List.mem_cons_self)), cut_some r b (fun d hd => h d (List.mem_cons_of_mem _ hd))]

theorem fits_sz (t : Tree) (h : fitsT t = true) : cntT t ≤ 500 ∧ depT t ≤ 16 := by
  rw [← within_fits, withinT_is t 1 0 (by omega) (by omega) (by omega) (by omega)] at h
  split at h
  · rename_i hh; omega
  · cases h
end pr
namespace pr
open Go.Proofs.YtkoomoemkffjkaaGreatDoor.syn Go.Proofs.YtkoomoemkffjkaaGreatDoor.face Go.Proofs.YtkoomoemkffjkaaGreatDoor.chk
open Go.Proofs.YtkoomoemkffjkaaGreatDoor.lexs (Tok val digB ltrI digI)
def digW (x : ByteArray) : Bool := match x.data.toList with
  | [] => false
  | c :: _ => digB c
/-! numbers -/
theorem val_snoc : ∀ (l : List UInt8) (c : UInt8), val (l ++ [c]) = val l * 10 + (c.toNat - 48)
  | [], c => by simp [val]
  | d :: l, c => by
    have := val_snoc l c
    simp only [List.cons_append, val, List.length_append, List.length_cons, List.length_nil]
    rw [this, Nat.pow_succ]
    have e : (d.toNat - 48) * (10 ^ l.length * 10) = (d.toNat - 48) * 10 ^ l.length * 10 := by rw [Nat.mul_assoc]
    omega
theorem val_dec (u : Nat) : val (Lib.decDigits u) = u ∧ (∀ c ∈ Lib.decDigits u, digB c = true) ∧ Lib.decDigits u ≠ [] := by
  induction u using Nat.strongRecOn with
  | _ u ih =>
    rw [Lib.decDigits]
    by_cases h : u < 10
    · rw [dif_pos h]
      have e : (UInt8.ofNat (48 + u)).toNat = 48 + u := by simp; omega
      refine ⟨by simp only [val, e, List.length_nil]; omega, fun c hc => ?_, by simp⟩
      obtain rfl : c = UInt8.ofNat (48 + u) := by simpa using hc
      unfold digB digI
      rw [e]
      simp only [decide_eq_true_eq]
      omega
    · rw [dif_neg h]
      obtain ⟨h1, h2, h3⟩ := ih (u / 10) (by omega)
      have e : (UInt8.ofNat (48 + u % 10)).toNat = 48 + u % 10 := by simp; omega
      refine ⟨by rw [val_snoc, h1, e]; omega, fun c hc => ?_, by simp⟩
      rcases List.mem_append.1 hc with hc | hc
      · exact h2 c hc
      · obtain rfl : c = UInt8.ofNat (48 + u % 10) := by simpa using hc
        unfold digB digI
        rw [e]
        simp only [decide_eq_true_eq]
        omega
theorem num_list (m : Int) (h : 0 ≤ m) : (numW m).data.toList = Lib.decDigits m.toNat := by
  show (Lib.itoa m) = _
  unfold Lib.itoa
  rw [if_neg (by omega)]
theorem num_dig (m : Int) (h : 0 ≤ m) : digW (numW m) = true := by
  unfold digW
  rw [num_list m h]
  obtain ⟨_, h2, h3⟩ := val_dec m.toNat
  cases hd : Lib.decDigits m.toNat with
  | nil => exact absurd hd h3
  | cons c l => exact h2 c (by rw [hd]; simp)
section
variable {ts : List Tok} {f i : Nat} {t : Tree} {ws : List ByteArray}
theorem text_name {x : ByteArray} (h : textB x 1 = true) : isName x = true := by
  unfold textB at h
  rw [if_neg (by decide)] at h
  cases hw : wordsF x with
  | none => rw [hw] at h; cases h
  | some l =>
    rw [hw] at h
    have hl : (l.length : Int) < 2 * 1 := by simpa using h
    unfold wordsF at hw
    cases hc : cutL x.data.toList with
    | mk a ob =>
      rw [hc] at hw
      cases ob with
      | none =>
        dsimp only at hw
        by_cases hx : isName x = true
        · exact hx
        · rw [if_neg hx] at hw; cases hw
      | some bs =>
        dsimp only at hw
        by_cases hx : (isName ⟨a.toArray⟩ && isName ⟨bs.toArray⟩) = true
        · rw [if_pos hx] at hw
          obtain rfl := Option.some.inj hw
          simp at hl
        · rw [if_neg hx] at hw; cases hw
end
end pr
namespace syn
open Go.Proofs.YtkoomoemkffjkaaGreatDoor.lexs (Tok)
end syn
namespace pr
open Go.Proofs.YtkoomoemkffjkaaGreatDoor.syn Go.Proofs.YtkoomoemkffjkaaGreatDoor.face Go.Proofs.YtkoomoemkffjkaaGreatDoor.chk
open Go.Proofs.YtkoomoemkffjkaaGreatDoor.lexs (Tok val digB ltrI digI)
section
variable {ts : List Tok} {f i : Nat} {t : Tree} {ws : List ByteArray}
theorem par_parts (h : parW t = some ws) : ∃ x m, t = .node 5 x m [] ∧ ws = [labW m, x] ∧ isName x = true ∧ (m = 0 ∨ m = 1) := by
  obtain ⟨k, x, m, ks⟩ := t
  unfold parW at h
  dsimp only at h
  by_cases hl : lookB [5] (.node k x m ks) = true
  · rw [if_pos hl] at h
    obtain rfl := Option.some.inj h
    unfold lookB at hl
    simp only [Bool.and_eq_true, decide_eq_true_eq] at hl
    obtain ⟨⟨⟨⟨⟨hc, h1⟩, h2⟩, h3⟩, h4⟩, h5⟩ := hl
    obtain rfl : k = 5 := by
      have := List.contains_iff_mem.1 hc
      simpa using this
    have h1z : (0 : Int) ≤ m := h1
    have h2z : m ≤ 1 := h2
    have h4' : (ks.length : Int) ≤ 0 := h4
    obtain rfl : ks = [] := List.eq_nil_of_length_eq_zero (by omega)
    exact ⟨x, m, rfl, rfl, text_name h5, by omega⟩
  · rw [if_neg hl] at h; cases h
end
end pr
namespace pr
open Go.Proofs.YtkoomoemkffjkaaGreatDoor.syn Go.Proofs.YtkoomoemkffjkaaGreatDoor.face Go.Proofs.YtkoomoemkffjkaaGreatDoor.chk
open Go.Proofs.YtkoomoemkffjkaaGreatDoor.lexs (Tok val digB ltrI digI)
section
variable {ts : List Tok} {f i : Nat} {t : Tree} {ws : List ByteArray}
/-! a module -/
theorem imp_parts (h : impW t = some ws) : ∃ x, t = .node 2 x 0 [] ∧ ws = [⟨#[105, 109, 112, 111, 114, 116]⟩, x, ⟨#[59]⟩] ∧ isName x = true := by
  obtain ⟨k, x, m, ks⟩ := t
  unfold impW at h
  dsimp only at h
  by_cases hl : lookB [2] (.node k x m ks) = true
  · rw [if_pos hl] at h
    obtain rfl := Option.some.inj h
    unfold lookB at hl
    simp only [Bool.and_eq_true, decide_eq_true_eq] at hl
    obtain ⟨⟨⟨⟨⟨hc, h1⟩, h2⟩, h3⟩, h4⟩, h5⟩ := hl
    obtain rfl : k = 2 := by
      have := List.contains_iff_mem.1 hc
      simpa using this
    have h1z : (0 : Int) ≤ m := h1
    have h2z : m ≤ 0 := h2
    obtain rfl : m = 0 := by omega
    have h4' : (ks.length : Int) ≤ 0 := h4
    obtain rfl : ks = [] := List.eq_nil_of_length_eq_zero (by omega)
    exact ⟨x, rfl, rfl, text_name h5⟩
  · rw [if_neg hl] at h; cases h
end
end pr
namespace lexs

theorem run_blank (x : List UInt8) (h : ∀ c ∈ x, insB c = true) (R : List UInt8) : run insB (x ++ 32 :: R) = x.length := by
  induction x with
  | nil => simp only [List.nil_append, run]; rw [List.takeWhile_cons, if_neg (by decide)]
  | cons c x ih =>
    have hc := h c (by simp)
    have := ih (fun d hd => h d (by simp [hd]))
    unfold run at this ⊢
    rw [List.cons_append, List.takeWhile_cons, if_pos hc, List.length_cons, List.length_cons, this]
theorem headD_app (x R : List UInt8) (h : x ≠ []) : (x ++ R).headD 0 = x.headD 0 := by
  cases x with
  | nil => exact absurd rfl h
  | cons c x => simp
end lexs
end Go.Proofs.YtkoomoemkffjkaaGreatDoor
