/- What chapter 2 says of tokens, as plain functions on lists of bytes: no Go in sight. Rows of digits and the numbers that they spell: what chapter 2 says by length and order is what the library's parser says by value. No Go in sight. One round of a scan, by the tests that a walk meets: plain facts on byte arrays. -/
import Derived.RowKit
import Derived.Laws.Entries
import Derived.Lib.ParseIntB
import Derived.Lib.Strings
import Derived.WideShapes
namespace Go.Proofs.YthfeojjfehbgjaaGreatDoor.lexs

/-- of a byte, as the program holds it -/
def ltrI (c : Int) : Bool := decide (97 ≤ c ∧ c ≤ 122) || decide (65 ≤ c ∧ c ≤ 90)
def digI (c : Int) : Bool := decide (48 ≤ c ∧ c ≤ 57)
def insI (c : Int) : Bool := ltrI c || digI c || c == 95
def ltrB (c : UInt8) : Bool := ltrI (c.toNat : Int)
def digB (c : UInt8) : Bool := digI (c.toNat : Int)
def insB (c : UInt8) : Bool := insI (c.toNat : Int)
def most : List UInt8 := [57, 50, 50, 51, 51, 55, 50, 48, 51, 54, 56, 53, 52, 55, 55, 53, 56, 48, 55]
/-- what is wrong with a row that begins with a digit -/
def numE (l : List UInt8) : Int :=
  if l.all digB = false then 2
  else if decide (1 < l.length) && l.headD 0 == 48 then 2
  else if decide (19 < l.length) || (l.length == 19 && (!Op.bytesLess l most && !(l == most))) then 6
  else 0
/-- the signs of one byte -/
def ones : List UInt8 := [123, 125, 40, 41, 91, 93, 59, 44, 46, 61, 60, 43, 45, 42, 47, 37, 38, 124, 33]
def signLen (l : List UInt8) : Nat :=
  if l.headD 0 == 61 && (l.drop 1).headD 0 == 61 then 2 else if ones.contains (l.headD 0) then 1 else 0
/-- how many bytes stand at the head that are such -/
def run (p : UInt8 → Bool) (l : List UInt8) : Nat := (l.takeWhile p).length

inductive Step where
  | skip (n : Nat)
  | fault (c : Int)
  | tok (k : Int) (n : Nat)

def stepB (c : UInt8) (l : List UInt8) : Step :=
  if c == 32 || c == 10 then .skip 1
  else if c == 35 then .skip (run (fun b => b != 10) l)
  else if ltrB c then (if 16 < run insB l then .fault 1 else .tok 1 (run insB l))
  else if digB c then (if numE (l.take (run insB l)) == 0 then .tok 2 (run insB l) else .fault (numE (l.take (run insB l))))
  else if signLen l == 0 then .fault 2 else .tok 3 (signLen l)

def stepL (l : List UInt8) : Step := stepB (l.headD 0) l

structure Tok where
  kind : Int
  text : List UInt8
  at_ : Nat

inductive Res where
  | ok (l : List Tok)
  | err (c : Int) (at_ : Nat)

def scanL : Nat → List UInt8 → Nat → List Tok → Res
  | 0, _, _, acc => .ok acc
  | _ + 1, [], _, acc => .ok acc
  | f + 1, b :: r, i, acc =>
    match stepL (b :: r) with
    | .skip n => scanL f ((b :: r).drop n) (i + n) acc
    | .fault c => .err c i
    | .tok k n => scanL f ((b :: r).drop n) (i + n) (acc ++ [⟨k, (b :: r).take n, i⟩])

def scan (l : List UInt8) : Res := if 3000 < l.length then .err 1 0 else scanL l.length l 0 []

/-! ### rows of bytes -/
theorem run_le (p : UInt8 → Bool) (l : List UInt8) : run p l ≤ l.length := (List.takeWhile_sublist p).length_le
theorem run_eq (p : UInt8 → Bool) (l : List UInt8) (n : Nat) (h1 : ∀ j (h : j < l.length), j < n → p l[j] = true) (h2 : n = l.length ∨ ∃ h : n < l.length, p l[n] = false) : run p l = n := by
  induction l generalizing n with
  | nil =>
    rcases h2 with h | ⟨h, _⟩
    · simp [run, h]
    · simp at h
  | cons c r ih =>
    unfold run at ih ⊢
    cases n with
    | zero =>
      rcases h2 with h | ⟨h, hp⟩
      · simp at h
      · simp only [List.getElem_cons_zero] at hp
        simp [hp]
    | succ n =>
      have h0 : p c = true := h1 0 (by simp) (by omega)
      rw [List.takeWhile_cons, if_pos h0, List.length_cons, ih n]
      · intro j hj hn
        exact h1 (j + 1) (by simp; omega) (by omega)
      · rcases h2 with h | ⟨h, hp⟩
        · left; simpa using h
        · right; exact ⟨by simpa using h, by simpa using hp⟩
theorem run_pos (p : UInt8 → Bool) (c : UInt8) (r : List UInt8) (h : p c = true) : 0 < run p (c :: r) := by
  simp [run, h]
theorem signLen_le (l : List UInt8) : signLen l ≤ l.length := by
  unfold signLen
  rcases l with _ | ⟨a, _ | ⟨b, r⟩⟩
  · simp [ones]
  · simp; split <;> simp
  · split <;> (try split) <;> simp
theorem ltrB_insB {c : UInt8} (h : ltrB c = true) : insB c = true := by unfold ltrB at h; unfold insB insI; simp [h]
theorem digB_insB {c : UInt8} (h : digB c = true) : insB c = true := by unfold digB at h; unfold insB insI; simp [h]
/-- each step goes on, and not beyond the end -/
theorem stepL_skip {b : UInt8} {r : List UInt8} {n : Nat} (h : stepL (b :: r) = .skip n) : 0 < n ∧ n ≤ r.length + 1 := by
  rw [stepL, List.headD_cons, stepB] at h
  by_cases h1 : (b == 32 || b == 10) = true
  · rw [if_pos h1] at h; injection h with h; omega
  rw [if_neg h1] at h
  by_cases h2 : (b == 35) = true
  · rw [if_pos h2] at h
    injection h with h
    have hb : b = 35 := by simpa using h2
    have := run_pos (fun b => b != 10) b r (by rw [hb]; decide)
    have h3 := run_le (fun b => b != 10) (b :: r)
    simp only [List.length_cons] at h3
    omega
  rw [if_neg h2] at h
  split at h
  · split at h <;> simp at h
  · split at h
    · split at h <;> simp at h
    · split at h <;> simp at h
theorem stepL_tok {b : UInt8} {r : List UInt8} {k : Int} {n : Nat} (h : stepL (b :: r) = .tok k n) : 0 < n ∧ n ≤ r.length + 1 := by
  rw [stepL, List.headD_cons, stepB] at h
  by_cases h1 : (b == 32 || b == 10) = true
  · rw [if_pos h1] at h; simp at h
  rw [if_neg h1] at h
  by_cases h2 : (b == 35) = true
  · rw [if_pos h2] at h; simp at h
  rw [if_neg h2] at h
  have hr := run_le insB (b :: r)
  simp only [List.length_cons] at hr
  split at h
  · rename_i hl
    have := run_pos insB b r (ltrB_insB hl)
    split at h
    · simp at h
    · injection h with _ h; omega
  · split at h
    · rename_i hd
      have := run_pos insB b r (digB_insB hd)
      split at h
      · injection h with _ h; omega
      · simp at h
    · split at h
      · simp at h
      · rename_i hs
        injection h with _ h
        have h3 := signLen_le (b :: r)
        simp only [List.length_cons] at h3
        have : signLen (b :: r) ≠ 0 := by simpa using hs
        omega
/-! ### one round of the scan, at whatever fuel is enough -/
theorem scanL_end (f : Nat) (i : Nat) (acc : List Tok) : scanL f [] i acc = .ok acc := by cases f <;> rfl
theorem scanL_skip {f : Nat} {b : UInt8} {r : List UInt8} {i n : Nat} {acc : List Tok} (h : stepL (b :: r) = .skip n) : scanL (f + 1) (b :: r) i acc = scanL f ((b :: r).drop n) (i + n) acc := by
  rw [scanL, h]
theorem scanL_fault {f : Nat} {b : UInt8} {r : List UInt8} {i : Nat} {c : Int} {acc : List Tok} (h : stepL (b :: r) = .fault c) : scanL (f + 1) (b :: r) i acc = .err c i := by
  rw [scanL, h]
theorem scanL_tok {f : Nat} {b : UInt8} {r : List UInt8} {i n : Nat} {k : Int} {acc : List Tok} (h : stepL (b :: r) = .tok k n) : scanL (f + 1) (b :: r) i acc = scanL f ((b :: r).drop n) (i + n) (acc ++ [⟨k, (b :: r).take n, i⟩]) := by
  rw [scanL, h]
end Go.Proofs.YthfeojjfehbgjaaGreatDoor.lexs
namespace Go.Proofs.YthfeojjfehbgjaaGreatDoor.lexs

def val : List UInt8 → Nat
  | [] => 0
  | c :: r => (c.toNat - 48) * 10 ^ r.length + val r
theorem dig_bounds {c : UInt8} (h : digB c = true) : 48 ≤ c.toNat ∧ c.toNat ≤ 57 := by
  unfold digB digI at h
  have := of_decide_eq_true h
  omega
theorem val_lt (l : List UInt8) (h : l.all digB = true) : val l < 10 ^ l.length := by
  induction l with
  | nil => simp [val]
  | cons c r ih =>
    rw [List.all_cons, Bool.and_eq_true] at h
    have hb := dig_bounds h.1
    have := ih h.2
    rw [val, List.length_cons, Nat.pow_succ]
    have h2 : (c.toNat - 48) * 10 ^ r.length ≤ 9 * 10 ^ r.length := Nat.mul_le_mul_right _ (by omega)
    omega
theorem parseM (l : List UInt8) (h : l.all digB = true) (acc : Nat) (ha : acc ≤ 18446744073709551615) :
    Lib.parseUintM (2 ^ 64 - 1) acc l = if acc * 10 ^ l.length + val l ≤ 18446744073709551615 then .ok (acc * 10 ^ l.length + val l) else .range := by
  induction l generalizing acc with
  | nil => simp [Lib.parseUintM, val, ha]
  | cons c r ih =>
    rw [List.all_cons, Bool.and_eq_true] at h
    have hb := dig_bounds h.1
    have hT : 1 ≤ 10 ^ r.length := Nat.pow_pos (by omega)
    have key : acc * 10 ^ (c :: r).length + val (c :: r) = (acc * 10 + (c.toNat - 48)) * 10 ^ r.length + val r := by
      rw [val, List.length_cons, Nat.pow_succ, Nat.add_mul, Nat.mul_comm (10 ^ r.length) 10, Nat.mul_assoc, Nat.add_assoc]
    have big : (acc * 10 + (c.toNat - 48)) ≤ (acc * 10 + (c.toNat - 48)) * 10 ^ r.length := Nat.le_mul_of_pos_right _ hT
    rw [key, Lib.parseUintM, if_pos hb]
    by_cases h1 : 1844674407370955162 ≤ acc
    · rw [if_pos h1, if_neg (by omega)]
    · rw [if_neg h1]
      by_cases h2 : 2 ^ 64 - 1 < acc * 10 + (c.toNat - 48)
      · rw [if_pos h2, if_neg (by omega)]
      · rw [if_neg h2, ih h.2 _ (by omega)]
theorem parse_all (l : List UInt8) (h : l.all digB = true) (h0 : l ≠ []) : Lib.parseIntB 64 l = if val l < 9223372036854775808 then .ok (val l : Int) else .range := by
  obtain ⟨c, r, rfl⟩ := List.exists_cons_of_ne_nil h0
  have hb := dig_bounds (by rw [List.all_cons, Bool.and_eq_true] at h; exact h.1 : digB c = true)
  have e := parseM (c :: r) h 0 (by omega)
  rw [Nat.zero_mul, Nat.zero_add] at e
  have n45 : ¬ c.toNat = 45 := by omega
  have n43 : ¬ (c.toNat = 43 ∨ c.toNat = 45) := by omega
  unfold Lib.parseIntB
  simp only [n43, if_false]
  rw [Lib.parseUintB, if_neg h0, e]
  by_cases hm : val (c :: r) ≤ 18446744073709551615
  · rw [if_pos hm]
    simp only [n45, not_false_eq_true, true_and, false_and, if_false]
    by_cases hv : val (c :: r) < 9223372036854775808
    · rw [if_pos hv, if_neg (by omega)]
    · rw [if_neg hv, if_pos (by omega)]
  · rw [if_neg hm, if_neg (by omega)]
theorem less_val (a b : List UInt8) (hl : a.length = b.length) (ha : a.all digB = true) (hb : b.all digB = true) : Op.bytesLess a b = decide (val a < val b) ∧ (a == b) = decide (val a = val b) := by
  induction a generalizing b with
  | nil =>
    have : b = [] := List.eq_nil_of_length_eq_zero (by simpa using hl.symm)
    subst this
    simp [Op.bytesLess, val]
  | cons x a ih =>
    obtain ⟨y, b, rfl⟩ : ∃ y r, b = y :: r := List.exists_cons_of_ne_nil (by intro e; rw [e] at hl; simp at hl)
    have hl' : a.length = b.length := by simpa using hl
    rw [List.all_cons, Bool.and_eq_true] at ha hb
    have hx := dig_bounds ha.1
    have hy := dig_bounds hb.1
    have va := val_lt a ha.2
    have vb := val_lt b hb.2
    obtain ⟨i1, i2⟩ := ih b hl' ha.2 hb.2
    rw [Op.bytesLess, i1, List.cons_beq_cons, i2, val, val, hl']
    rw [hl'] at va
    rcases Nat.lt_trichotomy x.toNat y.toNat with h | h | h
    · have h1 : x < y := h
      have h2 : ¬ x = y := by intro e; rw [e] at h; omega
      have hm : (x.toNat - 48 + 1) * 10 ^ b.length ≤ (y.toNat - 48) * 10 ^ b.length := Nat.mul_le_mul_right _ (by omega)
      rw [Nat.add_mul, Nat.one_mul] at hm
      have hA : (x.toNat - 48) * 10 ^ b.length + val a < (y.toNat - 48) * 10 ^ b.length + val b := by omega
      have h3 : (x == y) = false := by simp [h2]
      rw [decide_eq_true h1, decide_eq_true hA, decide_eq_false (Nat.ne_of_lt hA), h3]
      exact ⟨rfl, rfl⟩
    · have h1 : x = y := UInt8.toNat_inj.1 h
      subst h1
      simp
    · have h1 : ¬ x < y := by intro e; have : x.toNat < y.toNat := e; omega
      have h2 : ¬ x = y := by intro e; rw [e] at h; omega
      have hm : (y.toNat - 48 + 1) * 10 ^ b.length ≤ (x.toNat - 48) * 10 ^ b.length := Nat.mul_le_mul_right _ (by omega)
      rw [Nat.add_mul, Nat.one_mul] at hm
      have hA : (y.toNat - 48) * 10 ^ b.length + val b < (x.toNat - 48) * 10 ^ b.length + val a := by omega
      have h3 : (x == y) = false := by simp [h2]
      rw [decide_eq_false h1, decide_eq_false (Nat.lt_asymm hA), decide_eq_false (Nat.ne_of_gt hA), h3]
      exact ⟨rfl, rfl⟩
theorem numE_val (l : List UInt8) (h : l.all digB = true) (h0 : l ≠ []) (hz : (decide (1 < l.length) && l.headD 0 == 48) = false) : numE l = if val l < 9223372036854775808 then 0 else 6 := by
  have hv := val_lt l h
  rw [numE, if_neg (by simp [h]), if_neg (by rw [hz]; decide)]
  rcases Nat.lt_trichotomy l.length 19 with hl | hl | hl
  · have h1 : 10 ^ l.length ≤ 10 ^ 18 := Nat.pow_le_pow_right (by omega) (by omega)
    have h2 : (10 : Nat) ^ 18 = 1000000000000000000 := by decide
    have a1 : ¬ 19 < l.length := by omega
    have a2 : ¬ l.length = 19 := by omega
    rw [if_pos (show val l < 9223372036854775808 by omega), if_neg (by simp [a1, a2])]
  · have hm : most.length = 19 := by decide
    have vm : val most = 9223372036854775807 := by decide
    obtain ⟨e1, e2⟩ := less_val l most (by rw [hl, hm]) h (by decide)
    rw [e1, e2, vm, hl]
    by_cases hlt : val l < 9223372036854775808
    · rw [if_pos hlt, if_neg (by simp; omega)]
    · rw [if_neg hlt, if_pos (by simp; omega)]
  · obtain ⟨c, r, rfl⟩ := List.exists_cons_of_ne_nil h0
    have hc := dig_bounds (by rw [List.all_cons, Bool.and_eq_true] at h; exact h.1 : digB c = true)
    have hne : c.toNat ≠ 48 := by
      intro e
      have : c = 48 := UInt8.toNat_inj.1 e
      subst this
      have : 1 < (48 :: r : List UInt8).length := by omega
      rw [decide_eq_true this] at hz
      simp at hz
    have h2 : (10 : Nat) ^ 19 = 10000000000000000000 := by decide
    have h1 : 10 ^ 19 ≤ 10 ^ r.length := Nat.pow_le_pow_right (by omega) (by simp at hl; omega)
    have h3 : 1 * 10 ^ r.length ≤ (c.toNat - 48) * 10 ^ r.length := Nat.mul_le_mul_right _ (by omega)
    have hb : ¬ val (c :: r) < 9223372036854775808 := by rw [val]; omega
    rw [if_neg hb, if_pos (by simp only [hl, decide_true, Bool.true_or])]
end Go.Proofs.YthfeojjfehbgjaaGreatDoor.lexs
namespace Go.Proofs.YthfeojjfehbgjaaGreatDoor.lexs

theorem len_L (s : ByteArray) : s.data.toList.length = s.size := by simp
theorem byte_is (b c : UInt8) (n : Int) (hn : n = (c.toNat : Int)) : ((b.toNat : Int) == n) = (b == c) := by
  subst hn
  rw [Bool.eq_iff_iff]
  simp only [beq_iff_eq]
  constructor
  · intro h; exact UInt8.toNat_inj.1 (by omega)
  · intro h; rw [h]
theorem drop_cons (s : ByteArray) (p : Nat) (h : p < s.size) : s.data.toList.drop p = s[p] :: s.data.toList.drop (p + 1) := by
  rw [List.drop_eq_getElem_cons (by rw [len_L]; exact h)]
  rfl
theorem run_at (P : UInt8 → Bool) (s : ByteArray) (p n : Nat) (hp : p + n ≤ s.size) (h1 : ∀ j (h : j < s.size), p ≤ j → j < p + n → P s[j] = true)
    (h2 : p + n = s.size ∨ ∃ h : p + n < s.size, P s[p + n] = false) : run P (s.data.toList.drop p) = n := by
  apply run_eq
  · intro j hj hn
    rw [List.length_drop, len_L] at hj
    rw [List.getElem_drop]
    exact h1 (p + j) (by omega) (by omega) (by omega)
  · rcases h2 with h | ⟨h, hP⟩
    · left; rw [List.length_drop, len_L]; omega
    · right
      refine ⟨by rw [List.length_drop, len_L]; omega, ?_⟩
      rw [List.getElem_drop]
      exact hP
theorem extract_is (s : ByteArray) (p n : Nat) : s.extract p (p + n) = ⟨((s.data.toList.drop p).take n).toArray⟩ := by
  apply WideShapes.bytes_inj
  rw [Lib.extract_data]
  simp
/-! the ways of a step, c the byte at hand -/
section
variable {s : ByteArray} {p : Nat} (hp : p < s.size)
include hp
theorem st_blank (h : ((s[p].toNat : Int) == 32) = true ∨ ((s[p].toNat : Int) == 10) = true) : stepL (s.data.toList.drop p) = .skip 1 := by
  rw [byte_is _ 32 32 rfl, byte_is _ 10 10 rfl] at h
  rw [drop_cons s p hp, stepL, List.headD_cons, stepB, if_pos]
  rcases h with h | h <;> simp [h]
theorem st_note (h1 : ((s[p].toNat : Int) == 32) = false) (h2 : ((s[p].toNat : Int) == 10) = false) (h3 : ((s[p].toNat : Int) == 35) = true) {n : Nat} (hr : run (fun b => b != 10) (s.data.toList.drop p) = n) :
    stepL (s.data.toList.drop p) = .skip n := by
  rw [byte_is _ 32 32 rfl] at h1
  rw [byte_is _ 10 10 rfl] at h2
  rw [byte_is _ 35 35 rfl] at h3
  rw [← hr, drop_cons s p hp, stepL, List.headD_cons, stepB, if_neg (by simp [h1, h2]), if_pos h3]
theorem st_base (h1 : ((s[p].toNat : Int) == 32) = false) (h2 : ((s[p].toNat : Int) == 10) = false) (h3 : ((s[p].toNat : Int) == 35) = false) :
    stepL (s.data.toList.drop p) = (if ltrI (s[p].toNat : Int) then (if 16 < run insB (s.data.toList.drop p) then .fault 1 else .tok 1 (run insB (s.data.toList.drop p)))
      else if digI (s[p].toNat : Int) then (if numE ((s.data.toList.drop p).take (run insB (s.data.toList.drop p))) == 0 then .tok 2 (run insB (s.data.toList.drop p)) else .fault (numE ((s.data.toList.drop p).take (run insB (s.data.toList.drop p)))))
      else if signLen (s.data.toList.drop p) == 0 then .fault 2 else .tok 3 (signLen (s.data.toList.drop p))) := by
  rw [byte_is _ 32 32 rfl] at h1
  rw [byte_is _ 10 10 rfl] at h2
  rw [byte_is _ 35 35 rfl] at h3
  rw [stepL]
  have e : (s.data.toList.drop p).headD 0 = s[p] := by rw [drop_cons s p hp, List.headD_cons]
  rw [e, stepB, if_neg (by simp [h1, h2]), if_neg (by simp [h3])]
  rfl
theorem st_word (h1 : ((s[p].toNat : Int) == 32) = false) (h2 : ((s[p].toNat : Int) == 10) = false) (h3 : ((s[p].toNat : Int) == 35) = false) (hl : ltrI (s[p].toNat : Int) = true) {n : Nat} (hr : run insB (s.data.toList.drop p) = n) (hn : n ≤ 16) :
    stepL (s.data.toList.drop p) = .tok 1 n := by
  rw [st_base hp h1 h2 h3, if_pos hl, hr, if_neg (by omega)]
theorem st_long (h1 : ((s[p].toNat : Int) == 32) = false) (h2 : ((s[p].toNat : Int) == 10) = false) (h3 : ((s[p].toNat : Int) == 35) = false) (hl : ltrI (s[p].toNat : Int) = true) {n : Nat} (hr : run insB (s.data.toList.drop p) = n) (hn : 16 < n) :
    stepL (s.data.toList.drop p) = .fault 1 := by
  rw [st_base hp h1 h2 h3, if_pos hl, hr, if_pos hn]
theorem st_num (h1 : ((s[p].toNat : Int) == 32) = false) (h2 : ((s[p].toNat : Int) == 10) = false) (h3 : ((s[p].toNat : Int) == 35) = false) (hl : ltrI (s[p].toNat : Int) = false) (hd : digI (s[p].toNat : Int) = true) {n : Nat} (hr : run insB (s.data.toList.drop p) = n)
    (he : (numE ((s.data.toList.drop p).take n) == 0) = true) : stepL (s.data.toList.drop p) = .tok 2 n := by
  rw [st_base hp h1 h2 h3, if_neg (by simp [hl]), if_pos hd, hr, if_pos he]
theorem st_bad (h1 : ((s[p].toNat : Int) == 32) = false) (h2 : ((s[p].toNat : Int) == 10) = false) (h3 : ((s[p].toNat : Int) == 35) = false) (hl : ltrI (s[p].toNat : Int) = false) (hd : digI (s[p].toNat : Int) = true) {n : Nat} (hr : run insB (s.data.toList.drop p) = n)
    (he : (numE ((s.data.toList.drop p).take n) == 0) = false) : stepL (s.data.toList.drop p) = .fault (numE ((s.data.toList.drop p).take n)) := by
  rw [st_base hp h1 h2 h3, if_neg (by simp [hl]), if_pos hd, hr, if_neg (by simp [he])]
theorem st_sign (h1 : ((s[p].toNat : Int) == 32) = false) (h2 : ((s[p].toNat : Int) == 10) = false) (h3 : ((s[p].toNat : Int) == 35) = false) (hl : ltrI (s[p].toNat : Int) = false) (hd : digI (s[p].toNat : Int) = false) {n : Nat} (hn : signLen (s.data.toList.drop p) = n) (h0 : n ≠ 0) :
    stepL (s.data.toList.drop p) = .tok 3 n := by
  rw [st_base hp h1 h2 h3, if_neg (by simp [hl]), if_neg (by simp [hd]), hn, if_neg (by simpa using h0)]
theorem st_none (h1 : ((s[p].toNat : Int) == 32) = false) (h2 : ((s[p].toNat : Int) == 10) = false) (h3 : ((s[p].toNat : Int) == 35) = false) (hl : ltrI (s[p].toNat : Int) = false) (hd : digI (s[p].toNat : Int) = false) (hn : signLen (s.data.toList.drop p) = 0) :
    stepL (s.data.toList.drop p) = .fault 2 := by
  rw [st_base hp h1 h2 h3, if_neg (by simp [hl]), if_neg (by simp [hd]), hn, if_pos (by rfl)]
/-! the scan goes on -/
theorem go_skip {n f : Nat} {acc : List Tok} {R : Res} (h : stepL (s.data.toList.drop p) = .skip n) (hR : scanL (f + 1) (s.data.toList.drop p) p acc = R) : scanL f (s.data.toList.drop (p + n)) (p + n) acc = R ∧ 0 < n ∧ p + n ≤ s.size := by
  have hl : (s.data.toList.drop (p + 1)).length = s.size - (p + 1) := by rw [List.length_drop, len_L]
  have e := drop_cons s p hp
  rw [e] at h hR
  have hn := stepL_skip h
  rw [scanL_skip h, ← e, List.drop_drop] at hR
  refine ⟨hR, hn.1, by omega⟩
theorem go_tok {n f : Nat} {k : Int} {acc : List Tok} {R : Res} (h : stepL (s.data.toList.drop p) = .tok k n) (hR : scanL (f + 1) (s.data.toList.drop p) p acc = R) :
    scanL f (s.data.toList.drop (p + n)) (p + n) (acc ++ [⟨k, (s.data.toList.drop p).take n, p⟩]) = R ∧ 0 < n ∧ p + n ≤ s.size := by
  have hl : (s.data.toList.drop (p + 1)).length = s.size - (p + 1) := by rw [List.length_drop, len_L]
  have e := drop_cons s p hp
  rw [e] at h hR
  have hn := stepL_tok h
  rw [scanL_tok h, ← e, List.drop_drop] at hR
  refine ⟨hR, hn.1, by omega⟩
theorem go_fault {f : Nat} {c : Int} {acc : List Tok} {R : Res} (h : stepL (s.data.toList.drop p) = .fault c) (hR : scanL (f + 1) (s.data.toList.drop p) p acc = R) : R = .err c p := by
  rw [drop_cons s p hp] at h hR
  rw [scanL_fault h] at hR
  exact hR.symm
end
theorem go_end {s : ByteArray} {p f : Nat} {acc : List Tok} {R : Res} (hp : s.size ≤ p) (hR : scanL f (s.data.toList.drop p) p acc = R) : R = .ok acc := by
  rw [List.drop_eq_nil_of_le (by rw [len_L]; exact hp), scanL_end] at hR
  exact hR.symm
/-! what lies in memory -/
def cellsOf (l : List Tok) : List Value := l.flatMap fun t => [.int .i64 t.kind, .string ⟨t.text.toArray⟩, .int .i64 (t.at_ : Int)]
theorem cellsOf_snoc (l : List Tok) (t : Tok) : cellsOf (l ++ [t]) = cellsOf l ++ [.int .i64 t.kind, .string ⟨t.text.toArray⟩, .int .i64 (t.at_ : Int)] := by simp [cellsOf]
theorem cellsOf_length (l : List Tok) : (cellsOf l).length = l.length * 3 := by
  induction l with
  | nil => rfl
  | cons t l ih => simp only [cellsOf, List.flatMap_cons, List.length_append, List.length_cons] at ih ⊢; simp only [List.length_nil]; omega
def Res.toks : Res → List Tok
  | .ok l => l
  | .err _ _ => []
def Res.code : Res → Int
  | .ok _ => 0
  | .err c _ => c
def Res.place : Res → Int
  | .ok _ => 0
  | .err _ p => (p : Int)
end Go.Proofs.YthfeojjfehbgjaaGreatDoor.lexs
