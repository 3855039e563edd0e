/- One round of a scan, by the tests that a walk meets: plain facts on byte arrays. -/
import Derived.Test.YtkcgpcigieepoaaDoorLexSpec
import Derived.Lib.Strings
import Derived.WideShapes
namespace Go.Proofs.YtkcgpcigieepoaaDoor.lexs

theorem len_L (s : ByteArray) : s.data.toList.length = s.size := by simp
theorem byte_is (b c : UInt8) (n : Int) (hn : n = (c.toNat : Int)) : ((b.toNat : Int) == n) = (b == c) := by
  subst hn
  rw [Bool.eq_iff_iff]
  simp only [beq_iff_eq]
  constructor
  · intro h; exact UInt8.toNat_inj.1 (by omega)
  · intro h; rw [h]
theorem drop_cons (s : ByteArray) (p : Nat) (h : p < s.size) : s.data.toList.drop p = s[p] :: s.data.toList.drop (p + 1) := by
  rw [List.drop_eq_getElem_cons (by rw [len_L]; exact h)]
  rfl
theorem run_at (P : UInt8 → Bool) (s : ByteArray) (p n : Nat) (hp : p + n ≤ s.size) (h1 : ∀ j (h : j < s.size), p ≤ j → j < p + n → P s[j] = true)
    (h2 : p + n = s.size ∨ ∃ h : p + n < s.size, P s[p + n] = false) : run P (s.data.toList.drop p) = n := by
  apply run_eq
  · intro j hj hn
    rw [List.length_drop, len_L] at hj
    rw [List.getElem_drop]
    exact h1 (p + j) (by omega) (by omega) (by omega)
  · rcases h2 with h | ⟨h, hP⟩
    · left; rw [List.length_drop, len_L]; omega
    · right
      refine ⟨by rw [List.length_drop, len_L]; omega, ?_⟩
      rw [List.getElem_drop]
      exact hP
theorem extract_is (s : ByteArray) (p n : Nat) : s.extract p (p + n) = ⟨((s.data.toList.drop p).take n).toArray⟩ := by
  apply WideShapes.bytes_inj
  rw [Lib.extract_data]
  simp
/-! the ways of a step, c the byte at hand -/
section
variable {s : ByteArray} {p : Nat} (hp : p < s.size)
include hp
theorem st_blank (h : ((s[p].toNat : Int) == 32) = true ∨ ((s[p].toNat : Int) == 10) = true) : stepL (s.data.toList.drop p) = .skip 1 := by
  rw [byte_is _ 32 32 rfl, byte_is _ 10 10 rfl] at h
  rw [drop_cons s p hp, stepL, List.headD_cons, stepB, if_pos]
  rcases h with h | h <;> simp [h]
theorem st_note (h1 : ((s[p].toNat : Int) == 32) = false) (h2 : ((s[p].toNat : Int) == 10) = false) (h3 : ((s[p].toNat : Int) == 35) = true) {n : Nat} (hr : run (fun b => b != 10) (s.data.toList.drop p) = n) :
    stepL (s.data.toList.drop p) = .skip n := by
  rw [byte_is _ 32 32 rfl] at h1
  rw [byte_is _ 10 10 rfl] at h2
  rw [byte_is _ 35 35 rfl] at h3
  rw [← hr, drop_cons s p hp, stepL, List.headD_cons, stepB, if_neg (by simp [h1, h2]), if_pos h3]
theorem st_base (h1 : ((s[p].toNat : Int) == 32) = false) (h2 : ((s[p].toNat : Int) == 10) = false) (h3 : ((s[p].toNat : Int) == 35) = false) :
    stepL (s.data.toList.drop p) = (if ltrI (s[p].toNat : Int) then (if 16 < run insB (s.data.toList.drop p) then .fault 1 else .tok 1 (run insB (s.data.toList.drop p)))
      else if digI (s[p].toNat : Int) then (if numE ((s.data.toList.drop p).take (run insB (s.data.toList.drop p))) == 0 then .tok 2 (run insB (s.data.toList.drop p)) else .fault (numE ((s.data.toList.drop p).take (run insB (s.data.toList.drop p)))))
      else if signLen (s.data.toList.drop p) == 0 then .fault 2 else .tok 3 (signLen (s.data.toList.drop p))) := by
  rw [byte_is _ 32 32 rfl] at h1
  rw [byte_is _ 10 10 rfl] at h2
  rw [byte_is _ 35 35 rfl] at h3
  rw [stepL]
  have e : (s.data.toList.drop p).headD 0 = s[p] := by rw [drop_cons s p hp, List.headD_cons]
  rw [e, stepB, if_neg (by simp [h1, h2]), if_neg (by simp [h3])]
  rfl
theorem st_word (h1 : ((s[p].toNat : Int) == 32) = false) (h2 : ((s[p].toNat : Int) == 10) = false) (h3 : ((s[p].toNat : Int) == 35) = false) (hl : ltrI (s[p].toNat : Int) = true) {n : Nat} (hr : run insB (s.data.toList.drop p) = n) (hn : n ≤ 16) :
    stepL (s.data.toList.drop p) = .tok 1 n := by
  rw [st_base hp h1 h2 h3, if_pos hl, hr, if_neg (by omega)]
theorem st_long (h1 : ((s[p].toNat : Int) == 32) = false) (h2 : ((s[p].toNat : Int) == 10) = false) (h3 : ((s[p].toNat : Int) == 35) = false) (hl : ltrI (s[p].toNat : Int) = true) {n : Nat} (hr : run insB (s.data.toList.drop p) = n) (hn : 16 < n) :
    stepL (s.data.toList.drop p) = .fault 1 := by
  rw [st_base hp h1 h2 h3, if_pos hl, hr, if_pos hn]
theorem st_num (h1 : ((s[p].toNat : Int) == 32) = false) (h2 : ((s[p].toNat : Int) == 10) = false) (h3 : ((s[p].toNat : Int) == 35) = false) (hl : ltrI (s[p].toNat : Int) = false) (hd : digI (s[p].toNat : Int) = true) {n : Nat} (hr : run insB (s.data.toList.drop p) = n)
    (he : (numE ((s.data.toList.drop p).take n) == 0) = true) : stepL (s.data.toList.drop p) = .tok 2 n := by
  rw [st_base hp h1 h2 h3, if_neg (by simp [hl]), if_pos hd, hr, if_pos he]
theorem st_bad (h1 : ((s[p].toNat : Int) == 32) = false) (h2 : ((s[p].toNat : Int) == 10) = false) (h3 : ((s[p].toNat : Int) == 35) = false) (hl : ltrI (s[p].toNat : Int) = false) (hd : digI (s[p].toNat : Int) = true) {n : Nat} (hr : run insB (s.data.toList.drop p) = n)
    (he : (numE ((s.data.toList.drop p).take n) == 0) = false) : stepL (s.data.toList.drop p) = .fault (numE ((s.data.toList.drop p).take n)) := by
  rw [st_base hp h1 h2 h3, if_neg (by simp [hl]), if_pos hd, hr, if_neg (by simp [he])]
theorem st_sign (h1 : ((s[p].toNat : Int) == 32) = false) (h2 : ((s[p].toNat : Int) == 10) = false) (h3 : ((s[p].toNat : Int) == 35) = false) (hl : ltrI (s[p].toNat : Int) = false) (hd : digI (s[p].toNat : Int) = false) {n : Nat} (hn : signLen (s.data.toList.drop p) = n) (h0 : n ≠ 0) :
    stepL (s.data.toList.drop p) = .tok 3 n := by
  rw [st_base hp h1 h2 h3, if_neg (by simp [hl]), if_neg (by simp [hd]), hn, if_neg (by simpa using h0)]
theorem st_none (h1 : ((s[p].toNat : Int) == 32) = false) (h2 : ((s[p].toNat : Int) == 10) = false) (h3 : ((s[p].toNat : Int) == 35) = false) (hl : ltrI (s[p].toNat : Int) = false) (hd : digI (s[p].toNat : Int) = false) (hn : signLen (s.data.toList.drop p) = 0) :
    stepL (s.data.toList.drop p) = .fault 2 := by
  rw [st_base hp h1 h2 h3, if_neg (by simp [hl]), if_neg (by simp [hd]), hn, if_pos (by rfl)]
/-! the scan goes on -/
theorem go_skip {n f : Nat} {acc : List Tok} {R : Res} (h : stepL (s.data.toList.drop p) = .skip n) (hR : scanL (f + 1) (s.data.toList.drop p) p acc = R) : scanL f (s.data.toList.drop (p + n)) (p + n) acc = R ∧ 0 < n ∧ p + n ≤ s.size := by
  have hl : (s.data.toList.drop (p + 1)).length = s.size - (p + 1) := by rw [List.length_drop, len_L]
  have e := drop_cons s p hp
  rw [e] at h hR
  have hn := stepL_skip h
  rw [scanL_skip h, ← e, List.drop_drop] at hR
  refine ⟨hR, hn.1, by omega⟩
theorem go_tok {n f : Nat} {k : Int} {acc : List Tok} {R : Res} (h : stepL (s.data.toList.drop p) = .tok k n) (hR : scanL (f + 1) (s.data.toList.drop p) p acc = R) :
    scanL f (s.data.toList.drop (p + n)) (p + n) (acc ++ [⟨k, (s.data.toList.drop p).take n, p⟩]) = R ∧ 0 < n ∧ p + n ≤ s.size := by
  have hl : (s.data.toList.drop (p + 1)).length = s.size - (p + 1) := by rw [List.length_drop, len_L]
  have e := drop_cons s p hp
  rw [e] at h hR
  have hn := stepL_tok h
  rw [scanL_tok h, ← e, List.drop_drop] at hR
  refine ⟨hR, hn.1, by omega⟩
theorem go_fault {f : Nat} {c : Int} {acc : List Tok} {R : Res} (h : stepL (s.data.toList.drop p) = .fault c) (hR : scanL (f + 1) (s.data.toList.drop p) p acc = R) : R = .err c p := by
  rw [drop_cons s p hp] at h hR
  rw [scanL_fault h] at hR
  exact hR.symm
end
theorem go_end {s : ByteArray} {p f : Nat} {acc : List Tok} {R : Res} (hp : s.size ≤ p) (hR : scanL f (s.data.toList.drop p) p acc = R) : R = .ok acc := by
  rw [List.drop_eq_nil_of_le (by rw [len_L]; exact hp), scanL_end] at hR
  exact hR.symm
/-! what lies in memory -/
def cellsOf (l : List Tok) : List Value := l.flatMap fun t => [.int .i64 t.kind, .string ⟨t.text.toArray⟩, .int .i64 (t.at_ : Int)]
theorem cellsOf_snoc (l : List Tok) (t : Tok) : cellsOf (l ++ [t]) = cellsOf l ++ [.int .i64 t.kind, .string ⟨t.text.toArray⟩, .int .i64 (t.at_ : Int)] := by simp [cellsOf]
theorem cellsOf_length (l : List Tok) : (cellsOf l).length = l.length * 3 := by
  induction l with
  | nil => rfl
  | cons t l ih => simp only [cellsOf, List.flatMap_cons, List.length_append, List.length_cons] at ih ⊢; simp only [List.length_nil]; omega
def Res.toks : Res → List Tok
  | .ok l => l
  | .err _ _ => []
def Res.code : Res → Int
  | .ok _ => 0
  | .err c _ => c
def Res.place : Res → Int
  | .ok _ => 0
  | .err _ p => (p : Int)
end Go.Proofs.YtkcgpcigieepoaaDoor.lexs
