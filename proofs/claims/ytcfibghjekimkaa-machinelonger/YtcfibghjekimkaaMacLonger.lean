/- The law MachineLonger: its walk: two runs of one image, the second with no less fuel. -/
import Derived.Test.YtcfibghjekimkaaMacLongZ
import Derived.Test.YtcfibghjekimkaaMacLongS
namespace Go.Proofs.Ytcfibghjekimkaa.mac
open Go.RowKit
set_option linter.unusedVariables false
set_option linter.unusedSimpArgs false
set_option maxRecDepth 100000
set_option maxHeartbeats 4000000 in
theorem longer_walk (code : List Ins) (cv : Value) (lo hi : Int) (il ih : Value) (iL iH : List Int) (few more : Int) (w : World) (hc : CodeIn w cv code) (hL : IntsIn w il iL) (hH : IntsIn w ih iH) :
    Calls Try.prog 3 #[imgV cv lo hi, il, ih, .int .i64 few, .int .i64 more] w fun e w' => e = .returned (.bool true) ∧ Below w.heap.size w w' := by
  have c24 : Try.prog.cellsOf 24 = 3 := by kernel_rfl
  have c27 : Try.prog.cellsOf 27 = 6 := by kernel_rfl
  have hB1 : Below w.heap.size w (w.alloc (.cells #[cv, .int .i64 lo, .int .i64 hi] 24)) := (Below.refl _ _).alloc (Nat.le_refl _) _
  have bI := BoxC.new w #[cv, .int .i64 lo, .int .i64 hi] 24
  have HRun : Hid (∀ (W : World) (fuel : Int), Below w.heap.size w W → Calls Try.prog 4 #[.agg #[cv, .int .i64 lo, .int .i64 hi], il, ih, .int .i64 fuel] W (RunE W code lo hi iL iH fuel)) := fun W fuel hB => oRun code cv lo hi il ih iL iH fuel W (hc.below hB) (hL.below hB) (hH.below hB)
  have HC := show Hid _ from hc
  have HI1 := show Hid _ from hL
  have HI2 := show Hid _ from hH
  obtain ⟨ca, cc, hcv, hx1⟩ := hc
  obtain ⟨la, lc, hlv, hx2⟩ := hL
  obtain ⟨ha, hc', hhv, hx3⟩ := hH
  clear hx1 hx2 hx3
  subst hcv hlv hhv
  unfold imgV
  by_cases h1 : few < 0
  · clear HRun HC HI1 HI2
    go_enter Try.func3, Try.ntmps3
    go_wp2
    go_ret
    exact ⟨rfl, hB1⟩
  by_cases h2 : more < few
  · clear HRun HC HI1 HI2
    go_enter Try.func3, Try.ntmps3
    go_wp2
    go_ret
    exact ⟨rfl, hB1⟩
  by_cases h3 : 5000 < more
  · clear HRun HC HI1 HI2
    go_enter Try.func3, Try.ntmps3
    go_wp2
    go_ret
    exact ⟨rfl, hB1⟩
  obtain ⟨f, rfl⟩ : ∃ f : Nat, few = f := ⟨few.toNat, by omega⟩
  obtain ⟨m, rfl⟩ : ∃ m : Nat, more = m := ⟨more.toNat, by omega⟩
  have hsame : runC code lo hi iL.length iH.length f = runC code lo hi iL.length iH.length m := runC_same (by omega) (by omega)
  by_cases hk : runC code lo hi iL.length iH.length m = 0
  · by_cases h0 : (runF iL iH code f (s0 lo.toNat hi.toNat)).1 = 0
    · exact longer_zero code _ lo hi _ _ iL iH f m w HC.out HI1.out HI2.out h2 h3 hk h0
    · exact longer_same code _ lo hi _ _ iL iH f m w HC.out HI1.out HI2.out h2 h3 hk h0
  · have HK : Hid (runC code lo hi iL.length iH.length f ≠ 0) := by rw [hsame]; exact hk
    have HK2 : Hid (runC code lo hi iL.length iH.length m ≠ 0) := hk
    have HS : Hid (runC code lo hi iL.length iH.length f = runC code lo hi iL.length iH.length m) := hsame
    have hk' : (runC code lo hi iL.length iH.length m != 0) = true := by simpa using hk
    clear hk hsame HC HI1 HI2
    go_enter Try.func3, Try.ntmps3
    go_wp2_with first
      | (go_at_call 4; refine (HRun.out _ (m : Int) hB3).mono ?_; rintro e w4 ⟨hb4, hbad, _⟩; obtain rfl := hbad HK2.out; clear hbad; unfold zeroShown; have hB4 := hB3.trans (hb4.mono (by rw [World.size_alloc]; exact Nat.le_succ_of_le hB2.size)); have hlt4 := (bA.below hb4).lt)
      | (go_at_call 4; refine (HRun.out _ (f : Int) hB1).mono ?_; rintro e w2 ⟨hb2, hbad, _⟩; obtain rfl := hbad HK.out; clear hbad; rw [HS.out]; unfold zeroShown; have hB2 := hB1.trans (hb2.mono (by simp)); have bI2 := bI.below hb2; have y0 := bI2.cell 0 rfl; have y1 := bI2.cell 1 rfl; have y2 := bI2.cell 2 rfl; have hlt2 := bI2.lt; have hB3 := hB2.alloc hB2.size (.cells #[.int .i64 0, .slice none 0 0, .slice none 0 0, .int .i64 0, .int .i64 0, .int .i64 0] 27); have bA := BoxC.new w2 #[.int .i64 0, .slice none 0 0, .slice none 0 0, .int .i64 0, .int .i64 0, .int .i64 0] 27)
    go_ret
    exact ⟨rfl, hB4.alloc hB4.size _⟩
end Go.Proofs.Ytcfibghjekimkaa.mac
