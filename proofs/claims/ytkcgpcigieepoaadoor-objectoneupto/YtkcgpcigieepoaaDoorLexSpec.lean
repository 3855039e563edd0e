/- What chapter 2 says of tokens, as plain functions on lists of bytes: no Go in sight. -/
import Derived.RowKit
import Derived.Laws.Entries
namespace Go.Proofs.YtkcgpcigieepoaaDoor.lexs

/-- of a byte, as the program holds it -/
def ltrI (c : Int) : Bool := decide (97 ≤ c ∧ c ≤ 122) || decide (65 ≤ c ∧ c ≤ 90)
def digI (c : Int) : Bool := decide (48 ≤ c ∧ c ≤ 57)
def insI (c : Int) : Bool := ltrI c || digI c || c == 95
def ltrB (c : UInt8) : Bool := ltrI (c.toNat : Int)
def digB (c : UInt8) : Bool := digI (c.toNat : Int)
def insB (c : UInt8) : Bool := insI (c.toNat : Int)
def most : List UInt8 := [57, 50, 50, 51, 51, 55, 50, 48, 51, 54, 56, 53, 52, 55, 55, 53, 56, 48, 55]
/-- what is wrong with a row that begins with a digit -/
def numE (l : List UInt8) : Int :=
  if l.all digB = false then 2
  else if decide (1 < l.length) && l.headD 0 == 48 then 2
  else if decide (19 < l.length) || (l.length == 19 && (!Op.bytesLess l most && !(l == most))) then 6
  else 0
/-- the signs of one byte -/
def ones : List UInt8 := [123, 125, 40, 41, 91, 93, 59, 44, 46, 61, 60, 43, 45, 42, 47, 37, 38, 124, 33]
def signLen (l : List UInt8) : Nat :=
  if l.headD 0 == 61 && (l.drop 1).headD 0 == 61 then 2 else if ones.contains (l.headD 0) then 1 else 0
/-- how many bytes stand at the head that are such -/
def run (p : UInt8 → Bool) (l : List UInt8) : Nat := (l.takeWhile p).length

inductive Step where
  | skip (n : Nat)
  | fault (c : Int)
  | tok (k : Int) (n : Nat)

def stepB (c : UInt8) (l : List UInt8) : Step :=
  if c == 32 || c == 10 then .skip 1
  else if c == 35 then .skip (run (fun b => b != 10) l)
  else if ltrB c then (if 16 < run insB l then .fault 1 else .tok 1 (run insB l))
  else if digB c then (if numE (l.take (run insB l)) == 0 then .tok 2 (run insB l) else .fault (numE (l.take (run insB l))))
  else if signLen l == 0 then .fault 2 else .tok 3 (signLen l)

def stepL (l : List UInt8) : Step := stepB (l.headD 0) l

structure Tok where
  kind : Int
  text : List UInt8
  at_ : Nat

inductive Res where
  | ok (l : List Tok)
  | err (c : Int) (at_ : Nat)

def scanL : Nat → List UInt8 → Nat → List Tok → Res
  | 0, _, _, acc => .ok acc
  | _ + 1, [], _, acc => .ok acc
  | f + 1, b :: r, i, acc =>
    match stepL (b :: r) with
    | .skip n => scanL f ((b :: r).drop n) (i + n) acc
    | .fault c => .err c i
    | .tok k n => scanL f ((b :: r).drop n) (i + n) (acc ++ [⟨k, (b :: r).take n, i⟩])

def scan (l : List UInt8) : Res := if 3000 < l.length then .err 1 0 else scanL l.length l 0 []

/-! ### rows of bytes -/
theorem run_le (p : UInt8 → Bool) (l : List UInt8) : run p l ≤ l.length := (List.takeWhile_sublist p).length_le
theorem run_eq (p : UInt8 → Bool) (l : List UInt8) (n : Nat) (h1 : ∀ j (h : j < l.length), j < n → p l[j] = true) (h2 : n = l.length ∨ ∃ h : n < l.length, p l[n] = false) : run p l = n := by
  induction l generalizing n with
  | nil =>
    rcases h2 with h | ⟨h, _⟩
    · simp [run, h]
    · simp at h
  | cons c r ih =>
    unfold run at ih ⊢
    cases n with
    | zero =>
      rcases h2 with h | ⟨h, hp⟩
      · simp at h
      · simp only [List.getElem_cons_zero] at hp
        simp [hp]
    | succ n =>
      have h0 : p c = true := h1 0 (by simp) (by omega)
      rw [List.takeWhile_cons, if_pos h0, List.length_cons, ih n]
      · intro j hj hn
        exact h1 (j + 1) (by simp; omega) (by omega)
      · rcases h2 with h | ⟨h, hp⟩
        · left; simpa using h
        · right; exact ⟨by simpa using h, by simpa using hp⟩
theorem run_pos (p : UInt8 → Bool) (c : UInt8) (r : List UInt8) (h : p c = true) : 0 < run p (c :: r) := by
  simp [run, h]
theorem signLen_le (l : List UInt8) : signLen l ≤ l.length := by
  unfold signLen
  rcases l with _ | ⟨a, _ | ⟨b, r⟩⟩
  · simp [ones]
  · simp; split <;> simp
  · split <;> (try split) <;> simp
theorem ltrB_insB {c : UInt8} (h : ltrB c = true) : insB c = true := by unfold ltrB at h; unfold insB insI; simp [h]
theorem digB_insB {c : UInt8} (h : digB c = true) : insB c = true := by unfold digB at h; unfold insB insI; simp [h]
/-- each step goes on, and not beyond the end -/
theorem stepL_skip {b : UInt8} {r : List UInt8} {n : Nat} (h : stepL (b :: r) = .skip n) : 0 < n ∧ n ≤ r.length + 1 := by
  rw [stepL, List.headD_cons, stepB] at h
  by_cases h1 : (b == 32 || b == 10) = true
  · rw [if_pos h1] at h; injection h with h; omega
  rw [if_neg h1] at h
  by_cases h2 : (b == 35) = true
  · rw [if_pos h2] at h
    injection h with h
    have hb : b = 35 := by simpa using h2
    have := run_pos (fun b => b != 10) b r (by rw [hb]; decide)
    have h3 := run_le (fun b => b != 10) (b :: r)
    simp only [List.length_cons] at h3
    omega
  rw [if_neg h2] at h
  split at h
  · split at h <;> simp at h
  · split at h
    · split at h <;> simp at h
    · split at h <;> simp at h
theorem stepL_tok {b : UInt8} {r : List UInt8} {k : Int} {n : Nat} (h : stepL (b :: r) = .tok k n) : 0 < n ∧ n ≤ r.length + 1 := by
  rw [stepL, List.headD_cons, stepB] at h
  by_cases h1 : (b == 32 || b == 10) = true
  · rw [if_pos h1] at h; simp at h
  rw [if_neg h1] at h
  by_cases h2 : (b == 35) = true
  · rw [if_pos h2] at h; simp at h
  rw [if_neg h2] at h
  have hr := run_le insB (b :: r)
  simp only [List.length_cons] at hr
  split at h
  · rename_i hl
    have := run_pos insB b r (ltrB_insB hl)
    split at h
    · simp at h
    · injection h with _ h; omega
  · split at h
    · rename_i hd
      have := run_pos insB b r (digB_insB hd)
      split at h
      · injection h with _ h; omega
      · simp at h
    · split at h
      · simp at h
      · rename_i hs
        injection h with _ h
        have h3 := signLen_le (b :: r)
        simp only [List.length_cons] at h3
        have : signLen (b :: r) ≠ 0 := by simpa using hs
        omega
/-! ### one round of the scan, at whatever fuel is enough -/
theorem scanL_end (f : Nat) (i : Nat) (acc : List Tok) : scanL f [] i acc = .ok acc := by cases f <;> rfl
theorem scanL_skip {f : Nat} {b : UInt8} {r : List UInt8} {i n : Nat} {acc : List Tok} (h : stepL (b :: r) = .skip n) : scanL (f + 1) (b :: r) i acc = scanL f ((b :: r).drop n) (i + n) acc := by
  rw [scanL, h]
theorem scanL_fault {f : Nat} {b : UInt8} {r : List UInt8} {i : Nat} {c : Int} {acc : List Tok} (h : stepL (b :: r) = .fault c) : scanL (f + 1) (b :: r) i acc = .err c i := by
  rw [scanL, h]
theorem scanL_tok {f : Nat} {b : UInt8} {r : List UInt8} {i n : Nat} {k : Int} {acc : List Tok} (h : stepL (b :: r) = .tok k n) : scanL (f + 1) (b :: r) i acc = scanL f ((b :: r).drop n) (i + n) (acc ++ [⟨k, (b :: r).take n, i⟩]) := by
  rw [scanL, h]
end Go.Proofs.YtkcgpcigieepoaaDoor.lexs
