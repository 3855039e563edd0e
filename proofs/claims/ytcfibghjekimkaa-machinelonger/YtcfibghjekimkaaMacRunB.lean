/- What Run answers: a contract. -/
import Derived.Test.YtcfibghjekimkaaMacRun
namespace Go.Proofs.Ytcfibghjekimkaa.mac
open Go.RowKit
set_option linter.unusedVariables false
set_option linter.unusedSimpArgs false
set_option maxRecDepth 100000
/-- a state at its beginning -/
def s0 (lo hi : Nat) : St := ⟨[], [], 0, 0, 0, 0, List.replicate 8 0, List.replicate lo 0, List.replicate hi 0, []⟩
def zeroShown : Value := .agg #[.int .i64 0, .slice none 0 0, .slice none 0 0, .int .i64 0, .int .i64 0, .int .i64 0]
/-- what a run shows, and what is left -/
def ShowE (w' : World) (R : Nat × St) (e : Ending) : Prop :=
  ∃ vL vH vl vh g, e = .returned (.tuple #[.agg #[.int .i64 R.1, vL, vH, natV R.2.uL, natV R.2.uH, natV R.2.steps], .slice (some ⟨g, 0, none⟩) 2 2, .int .i64 0]) ∧ w'.cell? ⟨g, 0, none⟩ = some vl ∧ w'.cell? ⟨g, 1, none⟩ = some vh ∧ IntsIn w' vL R.2.oL ∧ IntsIn w' vH R.2.oH ∧ IntsIn w' vl R.2.lw ∧ IntsIn w' vh R.2.hw
/-- what is wrong with what Run was given -/
def runC (code : List Ins) (lo hi : Int) (nl nh : Nat) (fuel : Int) : Int := if mayB code lo hi then newC nl nh fuel 90000 else 2
def RunE (w : World) (code : List Ins) (lo hi : Int) (iL iH : List Int) (fuel : Int) (e : Ending) (w' : World) : Prop :=
  Below w.heap.size w w' ∧ (runC code lo hi iL.length iH.length fuel ≠ 0 → e = .returned (.tuple #[zeroShown, .slice none 0 0, .int .i64 (runC code lo hi iL.length iH.length fuel)])) ∧
    (runC code lo hi iL.length iH.length fuel = 0 → ShowE w' (runF iL iH code fuel.toNat (s0 lo.toNat hi.toNat)) e)
theorem runRes {W : World} {B : Nat} {T : TypeId} {x0 x1 x2 x3 x4 x5 a0 a1 a2 a3 a4 a5 a6 a7 a9 a10 : Value} (tl : List Value) (h : BoxC W B #[x0, x1, x2, x3, x4, x5] T) :
    (results Try.f4 (List.toArray (a0 :: a1 :: a2 :: a3 :: a4 :: a5 :: a6 :: a7 :: .pointer (some ⟨B, 0, none⟩) :: a9 :: a10 :: tl))).run Try.prog W = .ok (.tuple #[.agg #[x0, x1, x2, x3, x4, x5], a9, a10]) W := by
  have c27 : Try.prog.cellsOf 27 = 6 := by kernel_rfl
  have z0 := h.cell 0 rfl
  have z1 := h.cell 1 rfl
  have z2 := h.cell 2 rfl
  have z3 := h.cell 3 rfl
  have z4 := h.cell 4 rfl
  have z5 := h.cell 5 rfl
  simp [results, Try.f4, go_sem, z0, z1, z2, z3, z4, z5]
theorem BoxC.put6 {W : World} {B : Nat} {T : TypeId} {x0 x1 x2 x3 x4 x5 : Value} (h : BoxC W B #[x0, x1, x2, x3, x4, x5] T) (y0 y1 y2 y3 y4 y5 : Value) :
    BoxC ((((((W.setCell ⟨B, 0, none⟩ y0).setCell ⟨B, 1, none⟩ y1).setCell ⟨B, 2, none⟩ y2).setCell ⟨B, 3, none⟩ y3).setCell ⟨B, 4, none⟩ y4).setCell ⟨B, 5, none⟩ y5) B #[y0, y1, y2, y3, y4, y5] T := by
  have := (((((h.set 0 y0).set 1 y1).set 2 y2).set 3 y3).set 4 y4).set 5 y5
  simpa only [List.setIfInBounds_toArray, List.set_cons_zero, List.set_cons_succ] using this
theorem below_put6 {N B : Nat} {w W : World} (h : Below N w W) (hB : N ≤ B) (y0 y1 y2 y3 y4 y5 : Value) :
    Below N w ((((((W.setCell ⟨B, 0, none⟩ y0).setCell ⟨B, 1, none⟩ y1).setCell ⟨B, 2, none⟩ y2).setCell ⟨B, 3, none⟩ y3).setCell ⟨B, 4, none⟩ y4).setCell ⟨B, 5, none⟩ y5) :=
  (((((h.setCell hB _).setCell hB _).setCell hB _).setCell hB _).setCell hB _).setCell hB _
set_option maxHeartbeats 4000000 in
theorem oRunBad (code : List Ins) (cv : Value) (lo hi : Int) (il ih : Value) (fuel : Int) (w : World) (hc : CodeIn w cv code) (hm : mayB code lo hi = false) :
    Calls Try.prog 4 #[imgV cv lo hi, il, ih, .int .i64 fuel] w fun e w' => e = .returned (.tuple #[zeroShown, .slice none 0 0, .int .i64 2]) ∧ Below w.heap.size w w' := by
  have c24 : Try.prog.cellsOf 24 = 3 := by kernel_rfl
  have c27 : Try.prog.cellsOf 27 = 6 := by kernel_rfl
  have c36 : Try.prog.cellsOf 36 = 9 := by kernel_rfl
  have c42 : Try.prog.cellsOf 42 = 22 := by kernel_rfl
  obtain ⟨ca, cc, hcv⟩ : ∃ a c, cv = .slice a code.length c := by obtain ⟨a, c, e, _⟩ := hc; exact ⟨a, c, e⟩
  subst hcv
  unfold imgV
  obtain ⟨w2, hw2⟩ : ∃ w2, w2 = (w.alloc (.cells #[.slice ca code.length cc, .int .i64 lo, .int .i64 hi] 24)).alloc (.cells #[.int .i64 0, .slice none 0 0, .slice none 0 0, .int .i64 0, .int .i64 0, .int .i64 0] 27) := ⟨_, rfl⟩
  have hs2 : w2.heap.size = w.heap.size + 2 := by rw [hw2]; simp
  have hB2 : Below w.heap.size w w2 := by rw [hw2]; exact ((Below.refl _ _).alloc (Nat.le_refl _) _).alloc (by simp) _
  have b0 : BoxC w2 w.heap.size #[.slice ca code.length cc, .int .i64 lo, .int .i64 hi] 24 := by rw [hw2]; exact (BoxC.new _ _ _).alloc _
  have b1 : BoxC w2 (w.heap.size + 1) #[.int .i64 0, .slice none 0 0, .slice none 0 0, .int .i64 0, .int .i64 0, .int .i64 0] 27 := by
    have := BoxC.new (w.alloc (.cells #[.slice ca code.length cc, .int .i64 lo, .int .i64 hi] 24)) #[.int .i64 0, .slice none 0 0, .slice none 0 0, .int .i64 0, .int .i64 0, .int .i64 0] 27
    rw [World.size_alloc] at this
    rw [hw2]
    exact this
  have hMay := oMay code _ lo hi w2 (hc.below hB2)
  unfold imgV at hMay
  rw [hm] at hMay
  rw [hw2] at hMay
  clear hm
  go_enter Try.func4, Try.ntmps4
  go_wp2_with (go_at_call 7; refine hMay.mono ?_; rw [← hw2]; rintro e w3 ⟨rfl, hb3⟩; have b13 := b1.below hb3; have z0 := b13.cell 0 rfl; have z1 := b13.cell 1 rfl; have z2 := b13.cell 2 rfl; have z3 := b13.cell 3 rfl; have z4 := b13.cell 4 rfl; have z5 := b13.cell 5 rfl; have f0 := b13.fz 0; have f1 := b13.fz 1; have f2 := b13.fz 2; have f3 := b13.fz 3; have f4 := b13.fz 4; have f5 := b13.fz 5; have hB3 := hB2.trans (hb3.mono (by omega)); have hlt3 := b13.lt; clear hMay hw2)
  refine bodyPost_ret (v := .tuple #[zeroShown, .slice none 0 0, .int .i64 2]) (runRes _ (b13.put6 _ _ _ _ _ _)) rfl ?_
  exact ⟨rfl, below_put6 hB3 (Nat.le_succ _) _ _ _ _ _ _⟩
set_option maxHeartbeats 4000000 in
theorem oRunNew (code : List Ins) (cv : Value) (lo hi : Int) (a b : Option Addr) (nl nh cl ch : Nat) (fuel : Int) (w : World) (hc : CodeIn w cv code) (hm : mayB code lo hi = true) (k : Int) (hn : newC nl nh fuel 90000 = k) (hk : k ≠ 0) :
    Calls Try.prog 4 #[imgV cv lo hi, .slice a nl cl, .slice b nh ch, .int .i64 fuel] w fun e w' => e = .returned (.tuple #[zeroShown, .slice none 0 0, .int .i64 k]) ∧ Below w.heap.size w w' := by
  have c24 : Try.prog.cellsOf 24 = 3 := by kernel_rfl
  have c27 : Try.prog.cellsOf 27 = 6 := by kernel_rfl
  have c36 : Try.prog.cellsOf 36 = 9 := by kernel_rfl
  have c42 : Try.prog.cellsOf 42 = 22 := by kernel_rfl
  obtain ⟨ca, cc, hcv⟩ : ∃ a c, cv = .slice a code.length c := by obtain ⟨a, c, e, _⟩ := hc; exact ⟨a, c, e⟩
  subst hcv
  unfold imgV
  obtain ⟨w2, hw2⟩ : ∃ w2, w2 = (w.alloc (.cells #[.slice ca code.length cc, .int .i64 lo, .int .i64 hi] 24)).alloc (.cells #[.int .i64 0, .slice none 0 0, .slice none 0 0, .int .i64 0, .int .i64 0, .int .i64 0] 27) := ⟨_, rfl⟩
  have hs2 : w2.heap.size = w.heap.size + 2 := by rw [hw2]; simp
  have hB2 : Below w.heap.size w w2 := by rw [hw2]; exact ((Below.refl _ _).alloc (Nat.le_refl _) _).alloc (by simp) _
  have b0 : BoxC w2 w.heap.size #[.slice ca code.length cc, .int .i64 lo, .int .i64 hi] 24 := by rw [hw2]; exact (BoxC.new _ _ _).alloc _
  have b1 : BoxC w2 (w.heap.size + 1) #[.int .i64 0, .slice none 0 0, .slice none 0 0, .int .i64 0, .int .i64 0, .int .i64 0] 27 := by
    have := BoxC.new (w.alloc (.cells #[.slice ca code.length cc, .int .i64 lo, .int .i64 hi] 24)) #[.int .i64 0, .slice none 0 0, .slice none 0 0, .int .i64 0, .int .i64 0, .int .i64 0] 27
    rw [World.size_alloc] at this
    rw [hw2]
    exact this
  have hMay := oMay code _ lo hi w2 (hc.below hB2)
  unfold imgV at hMay
  rw [hm] at hMay
  rw [hw2] at hMay
  have hN := fun W => oNew a b nl nh cl ch fuel 90000 W
  unfold newR at hN
  rw [hn, if_neg hk] at hN
  unfold zeroRun runV at hN
  have HN := show Hid _ from hN
  have hk' : (k != 0) = true := by simpa using hk
  clear hm hN hn hk
  go_enter Try.func4, Try.ntmps4
  go_wp2_with first
    | (go_at_call 7; refine hMay.mono ?_; rw [← hw2]; rintro e w3 ⟨rfl, hb3⟩; have b13 := b1.below hb3; have hB3 := hB2.trans (hb3.mono (by omega)); clear hMay hw2)
    | (go_at_call 8; refine (HN.out w3).mono ?_; rintro e w4 ⟨rfl, hb4⟩; have b14 := b13.below hb4; have z0 := b14.cell 0 rfl; have z1 := b14.cell 1 rfl; have z2 := b14.cell 2 rfl; have z3 := b14.cell 3 rfl; have z4 := b14.cell 4 rfl; have z5 := b14.cell 5 rfl; have f0 := b14.fz 0; have f1 := b14.fz 1; have f2 := b14.fz 2; have f3 := b14.fz 3; have f4 := b14.fz 4; have f5 := b14.fz 5; have hB4 := hB3.trans (hb4.mono hB3.size); have hlt4 := b14.lt)
  refine bodyPost_ret (v := .tuple #[zeroShown, .slice none 0 0, .int .i64 k]) (runRes _ ((b14.put6 _ _ _ _ _ _).alloc _)) rfl ?_
  exact ⟨rfl, (below_put6 hB4 (Nat.le_succ _) _ _ _ _ _ _).alloc (by have := hB4.size; simpa using this) _⟩
end Go.Proofs.Ytcfibghjekimkaa.mac
