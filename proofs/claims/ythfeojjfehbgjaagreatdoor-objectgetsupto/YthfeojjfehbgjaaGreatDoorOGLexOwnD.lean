/- One row of the program's scan: what behind, reach and judge come to, together. -/
import Derived.Test.YthfeojjfehbgjaaGreatDoorProg
import Derived.WalkKit
import Derived.WalkLawsBesides
import Derived.Outline
import Derived.WalkSmall
import Derived.Test.YthfeojjfehbgjaaGreatDoorOGLexOwnC
namespace Go.Proofs.YthfeojjfehbgjaaGreatDoor.lexs
open Go.RowKit
set_option linter.unusedVariables false

theorem ext_size (s : ByteArray) (p n : Nat) (h : p + n ≤ s.size) : (s.extract p (p + n)).size = n := by
  rw [← len_L, Lib.extract_data, List.length_take, List.length_drop, len_L]; omega
theorem ext_data (s : ByteArray) (p n : Nat) : (s.extract p (p + n)).data.toList = (s.data.toList.drop p).take n := by
  rw [Lib.extract_data, Nat.add_sub_cancel_left]
theorem ext_head (s : ByteArray) (p n : Nat) (h : p + n ≤ s.size) (hn : 0 < n) : (s.extract p (p + n))[0]'(by rw [ext_size s p n h]; exact hn) = s[p] := by
  have h0 : 0 < (s.extract p (p + n)).size := by rw [ext_size s p n h]; exact hn
  have e := headL (s.extract p (p + n)) h0
  rw [← e, ext_data, drop_cons s p (by omega)]
  cases n with
  | zero => omega
  | succ n => rfl
theorem stops_back {P : UInt8 → Bool} {s : ByteArray} {p j : Nat} (hp : p < s.size) (h0 : P s[p] = true) (h : Stops P s (p + 1) j) : Stops P s p j :=
  ⟨by have := h.le; omega, h.top, fun k hk h1 h2 => by
    rcases Nat.lt_or_ge p k with h3 | h3
    · exact h.all k hk (by omega) h2
    · have : k = p := by omega
      subst this
      exact h0, h.stop⟩
theorem sign_one (s : ByteArray) (p : Nat) (hp : p < s.size) (hc : ones.contains s[p] = true) : signLen (s.data.toList.drop p) = 1 + more (s.data.toList.drop (p + 1)) (s[p].toNat : Int) := by
  unfold signLen more
  rw [drop_cons s p hp, List.headD_cons, List.drop_one, List.tail_cons, byte_is _ 61 61 rfl]
  rw [if_pos hc]
  split <;> rfl
theorem sign_zero (s : ByteArray) (p : Nat) (hp : p < s.size) (hc : ones.contains s[p] = false) : signLen (s.data.toList.drop p) = 0 := by
  unfold signLen
  rw [drop_cons s p hp, List.headD_cons, List.drop_one, List.tail_cons, if_neg, if_neg (by rw [hc]; decide)]
  intro h
  rw [Bool.and_eq_true, beq_iff_eq] at h
  rw [h.1] at hc
  exact absurd hc (by decide)
theorem more_le (s : ByteArray) (p : Nat) (c : Int) (hp : p < s.size) : p + (1 + more (s.data.toList.drop (p + 1)) c) ≤ s.size := by
  unfold more
  split
  · rename_i h
    rw [Bool.and_eq_true] at h
    rcases Nat.lt_or_ge (p + 1) s.size with h1 | h1
    · omega
    · have := head_end s (p + 1) h1
      rw [this] at h
      exact absurd h.2 (by decide)
  · omega
/-- what a row comes to: how long it is, its kind, its fault -/
def Rows' (s : ByteArray) (p n : Nat) (hp : p < s.size) (K E : Int) : Prop :=
  (∀ w, Calls Tryz.prog 93 #[.int .u8 (s[p].toNat : Int)] w fun e w1 => ∃ fv, e = .returned fv ∧ Below w.heap.size w w1 ∧
    Calls Tryz.prog 92 #[.string s, .int .i64 ((p : Int) + 1), fv] w1 fun e w2 => e = .returned (.int .i64 ((p : Int) + (n : Int))) ∧ Below w.heap.size w w2) ∧
  (∀ w, HasErr w → Calls Tryz.prog 94 #[.string (s.extract p (p + n))] w fun e w' => e = .returned (.tuple #[.int .i64 K, .int .i64 E]) ∧ Below w.heap.size w w')
theorem begin_row (s : ByteArray) (p : Nat) (hs : s.size ≤ 3000) (hp : p < s.size) (h : (ltrI (s[p].toNat : Int) || digI (s[p].toNat : Int)) = true) (w : World) :
    Calls Tryz.prog 93 #[.int .u8 (s[p].toNat : Int)] w fun e w1 => ∃ fv, e = .returned fv ∧ Below w.heap.size w w1 ∧
    Calls Tryz.prog 92 #[.string s, .int .i64 ((p : Int) + 1), fv] w1 fun e w2 => e = .returned (.int .i64 ((p : Int) + (run insB (s.data.toList.drop p) : Int))) ∧ Below w.heap.size w w2 := by
  refine (behind_row _ h w).mono ?_
  rintro e w1 ⟨rfl, hb⟩
  refine ⟨_, rfl, hb, ?_⟩
  refine (reach_inside s (p + 1) hs (by omega) w1).mono ?_
  rintro e w2 ⟨j, rfl, hj, rfl⟩
  have hi : insB s[p] = true := by
    rw [Bool.or_eq_true] at h
    rcases h with h | h
    · exact ltrB_insB h
    · exact digB_insB h
  have hr := (stops_back hp hi hj).run
  have hl := hj.le
  refine ⟨?_, hb⟩
  rw [hr]
  congr 2
  omega
theorem begin_sign (s : ByteArray) (p : Nat) (hs : s.size ≤ 3000) (hp : p < s.size) (hl : ltrI (s[p].toNat : Int) = false) (hd : digI (s[p].toNat : Int) = false) (w : World) :
    Calls Tryz.prog 93 #[.int .u8 (s[p].toNat : Int)] w fun e w1 => ∃ fv, e = .returned fv ∧ Below w.heap.size w w1 ∧
    Calls Tryz.prog 92 #[.string s, .int .i64 ((p : Int) + 1), fv] w1 fun e w2 => e = .returned (.int .i64 ((p : Int) + ((1 + more (s.data.toList.drop (p + 1)) (s[p].toNat : Int) : Nat) : Int))) ∧ Below w.heap.size w w2 := by
  refine (behind_sign _ hl hd w).mono ?_
  rintro e w1 ⟨rfl, h1, h2, h3, hb⟩
  refine ⟨_, rfl, hb, ?_⟩
  refine (reach_sign s (p + 1) (s[p].toNat : Int) _ _ hs (by omega) w1 h1 h2 h3 (by simp)).mono ?_
  rintro e w2 ⟨rfl, hb2⟩
  refine ⟨?_, hb.trans (hb2.mono (by simp))⟩
  congr 2
  omega
theorem row_any (s : ByteArray) (p : Nat) (hs : s.size ≤ 3000) (hp : p < s.size) (h32 : ((s[p].toNat : Int) == 32) = false) (h10 : ((s[p].toNat : Int) == 10) = false) (h35 : ((s[p].toNat : Int) == 35) = false) :
    ∃ (n : Nat) (K E : Int), 0 < n ∧ p + n ≤ s.size ∧ ((E != 0) = false → stepL (s.data.toList.drop p) = .tok K n) ∧ ((E != 0) = true → stepL (s.data.toList.drop p) = .fault E) ∧ Rows' s p n hp K E := by
  have hrl := run_le insB (s.data.toList.drop p)
  rw [List.length_drop, len_L] at hrl
  cases hl : ltrI (s[p].toNat : Int)
  · cases hd : digI (s[p].toNat : Int)
    · have hn : 0 < 1 + more (s.data.toList.drop (p + 1)) (s[p].toNat : Int) := by omega
      have hm := more_le s p (s[p].toNat : Int) hp
      have hx := ext_size s p _ hm
      have hh := ext_head s p _ hm hn
      cases hc : ones.contains s[p]
      · refine ⟨1 + more (s.data.toList.drop (p + 1)) (s[p].toNat : Int), 0, 2, hn, hm, fun h => absurd h (by decide), fun _ => st_none hp h32 h10 h35 hl hd (sign_zero s p hp hc), fun w => begin_sign s p hs hp hl hd w, fun w _ => ?_⟩
        exact judge_none _ (by omega) (by omega) w (by rw [hh]; exact hl) (by rw [hh]; exact hd) (by rw [hh]; exact hc)
      · refine ⟨1 + more (s.data.toList.drop (p + 1)) (s[p].toNat : Int), 3, 0, hn, hm, fun _ => st_sign hp h32 h10 h35 hl hd (sign_one s p hp hc) (by omega), fun h => absurd h (by decide), fun w => begin_sign s p hs hp hl hd w, fun w _ => ?_⟩
        exact judge_sign _ (by omega) (by omega) w (by rw [hh]; exact hl) (by rw [hh]; exact hd) (by rw [hh]; exact hc)
    · have hn : 0 < run insB (s.data.toList.drop p) := dig_pos hp hd rfl
      have hm : p + run insB (s.data.toList.drop p) ≤ s.size := by omega
      have hx := ext_size s p _ hm
      have hh := ext_head s p _ hm hn
      refine ⟨_, 2, numE ((s.data.toList.drop p).take (run insB (s.data.toList.drop p))), hn, hm, fun h => st_num hp h32 h10 h35 hl hd rfl (by simpa [bne] using h), fun h => st_bad hp h32 h10 h35 hl hd rfl (by simpa [bne] using h), fun w => begin_row s p hs hp (by rw [hd, Bool.or_true]) w, fun w he => ?_⟩
      have hj := judge_num (s.extract p (p + run insB (s.data.toList.drop p))) (by omega) (by omega) w he (by rw [hh]; exact hl) (by rw [hh]; exact hd)
      rw [ext_data] at hj
      exact hj
  · have hn : 0 < run insB (s.data.toList.drop p) := by rw [drop_cons s p hp]; exact run_pos _ _ _ (ltrB_insB hl)
    have hm : p + run insB (s.data.toList.drop p) ≤ s.size := by omega
    have hx := ext_size s p _ hm
    have hh := ext_head s p _ hm hn
    by_cases h16 : run insB (s.data.toList.drop p) ≤ 16
    · refine ⟨_, 1, 0, hn, hm, fun _ => st_word hp h32 h10 h35 hl rfl h16, fun h => absurd h (by decide), fun w => begin_row s p hs hp (by rw [hl, Bool.true_or]) w, fun w he => ?_⟩
      exact judge_word _ (by omega) (by omega) w (by rw [hh]; exact hl) (by omega)
    · refine ⟨_, 0, 1, hn, hm, fun h => absurd h (by decide), fun _ => st_long hp h32 h10 h35 hl rfl (by omega), fun w => begin_row s p hs hp (by rw [hl, Bool.true_or]) w, fun w he => ?_⟩
      exact judge_long _ (by omega) (by omega) w (by rw [hh]; exact hl) (by omega)
end Go.Proofs.YthfeojjfehbgjaaGreatDoor.lexs
