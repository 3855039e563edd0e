/- The law MachineLonger: its walk where the first run has ended: two runs of one image, the second with no less fuel. -/
import Derived.Test.YtcfibghjekimkaaMacLongA
namespace Go.Proofs.Ytcfibghjekimkaa.mac
open Go.RowKit
set_option linter.unusedVariables false
set_option linter.unusedSimpArgs false
set_option maxRecDepth 100000
set_option maxHeartbeats 8000000 in
theorem longer_same (code : List Ins) (cv : Value) (lo hi : Int) (il ih : Value) (iL iH : List Int) (f m : Nat) (w : World) (hc : CodeIn w cv code) (hL : IntsIn w il iL) (hH : IntsIn w ih iH) (h2 : ¬ (m : Int) < (f : Int)) (h3 : ¬ (5000 : Int) < (m : Int)) (hk : runC code lo hi iL.length iH.length m = 0) (h0 : ¬ (runF iL iH code f (s0 lo.toNat hi.toNat)).1 = 0) :
    Calls Try.prog 3 #[imgV cv lo hi, il, ih, .int .i64 f, .int .i64 m] w fun e w' => e = .returned (.bool true) ∧ Below w.heap.size w w' := by
  have c24 : Try.prog.cellsOf 24 = 3 := by kernel_rfl
  have c27 : Try.prog.cellsOf 27 = 6 := by kernel_rfl
  have hB1 : Below w.heap.size w (w.alloc (.cells #[cv, .int .i64 lo, .int .i64 hi] 24)) := (Below.refl _ _).alloc (Nat.le_refl _) _
  have bI := BoxC.new w #[cv, .int .i64 lo, .int .i64 hi] 24
  have HRun : Hid (∀ (W : World) (fuel : Int), Below w.heap.size w W → Calls Try.prog 4 #[.agg #[cv, .int .i64 lo, .int .i64 hi], il, ih, .int .i64 fuel] W (RunE W code lo hi iL iH fuel)) := fun W fuel hB => oRun code cv lo hi il ih iL iH fuel W (hc.below hB) (hL.below hB) (hH.below hB)
  obtain ⟨ca, cc, hcv, hx1⟩ := hc
  obtain ⟨la, lc, hlv, hx2⟩ := hL
  obtain ⟨ha, hc', hhv, hx3⟩ := hH
  clear hx1 hx2 hx3
  subst hcv hlv hhv
  unfold imgV
  have hsame : runC code lo hi iL.length iH.length f = runC code lo hi iL.length iH.length m := runC_same (by omega) (by omega)
  have h1 : ¬ (f : Int) < 0 := by omega
  have HK : Hid (runC code lo hi iL.length iH.length f = 0) := by rw [hsame]; exact hk
  have HK2 : Hid (runC code lo hi iL.length iH.length m = 0) := hk
  clear hk hsame
  obtain ⟨hne, hz⟩ := two_runs iL iH code (show f ≤ m by omega) (s0 lo.toNat hi.toNat)
  obtain ⟨l1, l2⟩ := mem_len iL iH code f lo.toNat hi.toNat
  obtain ⟨l3, l4⟩ := mem_len iL iH code m lo.toNat hi.toNat
  obtain ⟨o1, o2⟩ := out_small (iL := iL) (iH := iH) (code := code) f (s0 lo.toNat hi.toNat)
  obtain ⟨o3, o4⟩ := out_small (iL := iL) (iH := iH) (code := code) m (s0 lo.toNat hi.toNat)
  have hQ := hne h0
  generalize hR1 : runF iL iH code f (s0 lo.toNat hi.toNat) = R at *
  obtain ⟨e1, s1⟩ := R
  dsimp only at h0 l1 l2 o1 o2
  have HR1 : Hid (runF iL iH code (f : Int).toNat (s0 lo.toNat hi.toNat) = (e1, s1)) := hR1
  have HR2 : Hid (runF iL iH code (m : Int).toNat (s0 lo.toNat hi.toNat) = (e1, s1)) := hQ
  have hne1 : ((e1 : Int) == 0) = false := by simp; omega
  have HO : Hid (s1.oL.length ≤ 90000 ∧ s1.oH.length ≤ 90000) := ⟨by have : (s0 lo.toNat hi.toNat).oL.length = 0 := rfl; omega, by have : (s0 lo.toNat hi.toNat).oH.length = 0 := rfl; omega⟩
  have HL1 : Hid (s1.lw.length = lo.toNat ∧ s1.lw.length = lo.toNat ∧ s1.hw.length = hi.toNat ∧ s1.hw.length = hi.toNat) := ⟨l1, l1, l2, l2⟩
  have HM : Hid (lo.toNat ≤ 90000 ∧ hi.toNat ≤ 90000) := by
    have := HK.out
    unfold runC at this
    cases hm : mayB code lo hi with
    | false => rw [hm] at this; cases this
    | true =>
      unfold mayB at hm
      rw [Bool.and_eq_true] at hm
      obtain ⟨_, _, h3, h4⟩ := head_yes hm.1
      simp [upB] at h3 h4
      exact ⟨by omega, by omega⟩
  clear hR1 hQ hne hz l1 l2 l3 l4 o1 o2 o3 o4 h0
  have HA1 : Hid (∀ W e w', RunE W code lo hi iL iH f e w' → ShowE w' (e1, s1) e) := fun W e w' h => by
    have := h.2.2 HK.out
    rw [HR1.out] at this
    exact this
  have HA2 : Hid (∀ W e w', RunE W code lo hi iL iH m e w' → ShowE w' (e1, s1) e) := fun W e w' h => by
    have := h.2.2 HK2.out
    rw [HR2.out] at this
    exact this
  clear HR1 HR2
  generalize lo.toNat = nl at *
  generalize hi.toNat = nh at *
  go_enter Try.func3, Try.ntmps3
  go_wp2_with (fail)
  refine (HRun.out _ (f : Int) hB1).mono ?_
  rintro e w2 hr
  have hb2 := hr.1
  obtain ⟨vL, vH, vl, vh, g, rfl, k1, k2, i1, i2, i3, i4⟩ := HA1.out _ _ _ hr
  obtain ⟨aL, cL, rfl, hx⟩ := id i1
  clear hx
  obtain ⟨aH, cH, rfl, hx⟩ := id i2
  clear hx
  obtain ⟨al, cl, rfl, hx⟩ := id i3
  clear hx
  obtain ⟨ah, ch, rfl, hx⟩ := id i4
  clear hx
  have hB2 := hB1.trans (hb2.mono (by simp))
  have bI2 := bI.below hb2
  have y0 := bI2.cell 0 rfl
  have y1 := bI2.cell 1 rfl
  have y2 := bI2.cell 2 rfl
  have hlt2 := bI2.lt
  have hB3 := hB2.alloc hB2.size (.cells #[.int .i64 e1, .slice aL s1.oL.length cL, .slice aH s1.oH.length cH, natV s1.uL, natV s1.uH, natV s1.steps] 27)
  have bA := BoxC.new w2 #[.int .i64 e1, .slice aL s1.oL.length cL, .slice aH s1.oH.length cH, natV s1.uL, natV s1.uH, natV s1.steps] 27
  clear hr
  dsimp only
  go_wp2_with (fail)
  refine (HRun.out _ (m : Int) hB3).mono ?_
  rintro e w4 hr
  have hb4 := hr.1
  obtain ⟨vL, vH, vl, vh, g2, rfl, k3, k4, j1, j2, j3, j4⟩ := HA2.out _ _ _ hr
  obtain ⟨aL2, cL2, rfl, hx⟩ := id j1
  clear hx
  obtain ⟨aH2, cH2, rfl, hx⟩ := id j2
  clear hx
  obtain ⟨al2, cl2, rfl, hx⟩ := id j3
  clear hx
  obtain ⟨ah2, ch2, rfl, hx⟩ := id j4
  clear hx hr
  have hB4 := hB3.trans (hb4.mono (by rw [World.size_alloc]; exact Nat.le_succ_of_le hB2.size))
  have bA4 := bA.below hb4
  dsimp only
  go_wp2
  have hal : Below w2.heap.size w2 (w2.alloc (.cells #[.int .i64 e1, .slice aL s1.oL.length cL, .slice aH s1.oH.length cH, natV s1.uL, natV s1.uH, natV s1.steps] 27)) := (Below.refl _ _).alloc (Nat.le_refl _) _
  have hal4 : Below w4.heap.size w4 (w4.alloc (.cells #[.int .i64 e1, .slice aL2 s1.oL.length cL2, .slice aH2 s1.oH.length cH2, natV s1.uL, natV s1.uH, natV s1.steps] 27)) := (Below.refl _ _).alloc (Nat.le_refl _) _
  replace i1 := ((i1.below hal).below hb4).below hal4
  replace i2 := ((i2.below hal).below hb4).below hal4
  replace i3 := ((i3.below hal).below hb4).below hal4
  replace i4 := ((i4.below hal).below hb4).below hal4
  replace k1 := keep (keep (keep k1 hal) hb4) hal4
  replace k2 := keep (keep (keep k2 hal) hb4) hal4
  replace j1 := j1.below hal4
  replace j2 := j2.below hal4
  replace j3 := j3.below hal4
  replace j4 := j4.below hal4
  replace k3 := keep k3 hal4
  replace k4 := keep k4 hal4
  have b1 := bA4.below hal4
  have b2 := BoxC.new w4 #[.int .i64 e1, .slice aL2 s1.oL.length cL2, .slice aH2 s1.oH.length cH2, natV s1.uL, natV s1.uH, natV s1.steps] 27
  have hBb := hB4.trans (hal4.mono hB4.size)
  clear y0 y1 y2 bI2 bA bA4 hB3 hB2 hb2 hb4 hal hal4 hB4 HA1 HA2 hlt2 bI hB1
  rw [HL1.out.1] at k1 i3
  rw [HL1.out.2.1] at k3 j3
  rw [HL1.out.2.2.1] at k2 i4
  rw [HL1.out.2.2.2] at k4 j4
  have Wdef := w4.alloc (.cells #[] 0)
  clear Wdef
  have hS := (Below.refl _ (w4.alloc (.cells #[.int .i64 e1, .slice aL2 s1.oL.length cL2, .slice aH2 s1.oH.length cH2, natV s1.uL, natV s1.uH, natV s1.steps] 27))).drew (B := (w4.alloc (.cells #[.int .i64 e1, .slice aL2 s1.oL.length cL2, .slice aH2 s1.oH.length cH2, natV s1.uL, natV s1.uH, natV s1.steps] 27)).heap.size)
  generalize hWb : w4.alloc (.cells #[.int .i64 e1, .slice aL2 s1.oL.length cL2, .slice aH2 s1.oH.length cH2, natV s1.uL, natV s1.uH, natV s1.steps] 27) = Wb at *
  refine wp_region_held_drew (S := fun W => Below Wb.heap.size Wb W) (by kernel_rfl) hS (fun hHeld => ?_)
  clear hHeld hWb
  generalize w2.heap.size = A at *
  generalize w4.heap.size = B at *
  generalize Wb.drew = Wc at *
  refine tkd (i := 0) (v := .int .i64 0 ) rfl rfl (by kernel_rfl) (by kernel_rfl) (by kernel_rfl) (fun _ _ _ h => h) (Or.inl ⟨by rfl, fun w hSw => by skip ; go_simp⟩) hS ?_
  simp only [List.setIfInBounds_toArray, List.set_cons_zero, List.set_cons_succ]
  refine tkd (i := 1) (v := .bool false ) rfl rfl (by kernel_rfl) (by kernel_rfl) (by kernel_rfl) (fun _ _ _ h => h) (Or.inl ⟨by rfl, fun w hSw => by skip ; go_simp⟩) hS ?_
  simp only [List.setIfInBounds_toArray, List.set_cons_zero, List.set_cons_succ]
  refine tkd (i := 2) (v := .bool false ) rfl rfl (by kernel_rfl) (by kernel_rfl) (by kernel_rfl) (fun _ _ _ h => h) (Or.inl ⟨by rfl, fun w hSw => by skip ; go_simp⟩) hS ?_
  simp only [List.setIfInBounds_toArray, List.set_cons_zero, List.set_cons_succ]
  refine tkd (i := 3) (v := .slice (some ⟨g, 0, none⟩) 2 2 ) rfl rfl (by kernel_rfl) (by kernel_rfl) (by kernel_rfl) (fun _ _ _ h => h) (Or.inl ⟨by rfl, fun w hSw => by skip ; go_simp⟩) hS ?_
  simp only [List.setIfInBounds_toArray, List.set_cons_zero, List.set_cons_succ]
  refine tkd (i := 4) (v := .int .i64 2 ) rfl rfl (by kernel_rfl) (by kernel_rfl) (by kernel_rfl) (fun _ _ _ h => h) (Or.inl ⟨by rfl, fun w hSw => by skip ; go_simp⟩) hS ?_
  simp only [List.setIfInBounds_toArray, List.set_cons_zero, List.set_cons_succ]
  refine tkd (i := 5) (v := .bool false ) rfl rfl (by kernel_rfl) (by kernel_rfl) (by kernel_rfl) (fun _ _ _ h => h) (Or.inl ⟨by rfl, fun w hSw => by skip ; go_simp⟩) hS ?_
  simp only [List.setIfInBounds_toArray, List.set_cons_zero, List.set_cons_succ]
  refine tkd (i := 6) (v := .bool false ) rfl rfl (by kernel_rfl) (by kernel_rfl) (by kernel_rfl) (fun _ _ _ h => h) (Or.inl ⟨by rfl, fun w hSw => by skip ; go_simp⟩) hS ?_
  simp only [List.setIfInBounds_toArray, List.set_cons_zero, List.set_cons_succ]
  refine tkd (i := 7) (v := .bool false ) rfl rfl (by kernel_rfl) (by kernel_rfl) (by kernel_rfl) (fun _ _ _ h => h) (Or.inl ⟨by rfl, fun w hSw => by skip ; go_simp⟩) hS ?_
  simp only [List.setIfInBounds_toArray, List.set_cons_zero, List.set_cons_succ]
  refine tkd (i := 8) (v := .slice (some ⟨g2, 0, none⟩) 2 2 ) rfl rfl (by kernel_rfl) (by kernel_rfl) (by kernel_rfl) (fun _ _ _ h => h) (Or.inl ⟨by rfl, fun w hSw => by skip ; go_simp⟩) hS ?_
  simp only [List.setIfInBounds_toArray, List.set_cons_zero, List.set_cons_succ]
  refine tkd (i := 9) (v := .int .i64 2 ) rfl rfl (by kernel_rfl) (by kernel_rfl) (by kernel_rfl) (fun _ _ _ h => h) (Or.inl ⟨by rfl, fun w hSw => by skip ; go_simp⟩) hS ?_
  simp only [List.setIfInBounds_toArray, List.set_cons_zero, List.set_cons_succ]
  refine tkd (i := 10) (v := .bool false ) rfl rfl (by kernel_rfl) (by kernel_rfl) (by kernel_rfl) (fun _ _ _ h => h) (Or.inl ⟨by rfl, fun w hSw => by skip ; go_simp⟩) hS ?_
  simp only [List.setIfInBounds_toArray, List.set_cons_zero, List.set_cons_succ]
  refine tkd (i := 11) (v := .bool false ) rfl rfl (by kernel_rfl) (by kernel_rfl) (by kernel_rfl) (fun _ _ _ h => h) (Or.inl ⟨by rfl, fun w hSw => by skip ; go_simp⟩) hS ?_
  simp only [List.setIfInBounds_toArray, List.set_cons_zero, List.set_cons_succ]
  refine tkd (i := 12) (v := .bool false ) rfl rfl (by kernel_rfl) (by kernel_rfl) (by kernel_rfl) (fun _ _ _ h => h) (Or.inl ⟨by rfl, fun w hSw => by skip ; go_simp⟩) hS ?_
  simp only [List.setIfInBounds_toArray, List.set_cons_zero, List.set_cons_succ]
  refine tkd (i := 13) (v := .slice (some ⟨g, 0, none⟩) 2 2 ) rfl rfl (by kernel_rfl) (by kernel_rfl) (by kernel_rfl) (fun _ _ _ h => h) (Or.inl ⟨by rfl, fun w hSw => by skip ; go_simp⟩) hS ?_
  simp only [List.setIfInBounds_toArray, List.set_cons_zero, List.set_cons_succ]
  refine tkd (i := 14) (v := .pointer (some ⟨g, 0, none⟩) ) rfl rfl (by kernel_rfl) (by kernel_rfl) (by kernel_rfl) (fun _ _ _ h => h) (Or.inl ⟨by rfl, fun w hSw => by skip ; go_simp⟩) hS ?_
  simp only [List.setIfInBounds_toArray, List.set_cons_zero, List.set_cons_succ]
  refine tkd (i := 15) (v := .slice al nl cl ) rfl rfl (by kernel_rfl) (by kernel_rfl) (by kernel_rfl) (fun _ _ _ h => h) (Or.inl ⟨by rfl, fun w hSw => by have z := keep k1 hSw ; go_simp⟩) hS ?_
  simp only [List.setIfInBounds_toArray, List.set_cons_zero, List.set_cons_succ]
  refine tkd (i := 16) (v := natV nl ) rfl rfl (by kernel_rfl) (by kernel_rfl) (by kernel_rfl) (fun _ _ _ h => h) (Or.inl ⟨by rfl, fun w hSw => by skip ; go_simp⟩) hS ?_
  simp only [List.setIfInBounds_toArray, List.set_cons_zero, List.set_cons_succ]
  refine tkd (i := 17) (v := .slice (some ⟨g2, 0, none⟩) 2 2 ) rfl rfl (by kernel_rfl) (by kernel_rfl) (by kernel_rfl) (fun _ _ _ h => h) (Or.inl ⟨by rfl, fun w hSw => by skip ; go_simp⟩) hS ?_
  simp only [List.setIfInBounds_toArray, List.set_cons_zero, List.set_cons_succ]
  refine tkd (i := 18) (v := .pointer (some ⟨g2, 0, none⟩) ) rfl rfl (by kernel_rfl) (by kernel_rfl) (by kernel_rfl) (fun _ _ _ h => h) (Or.inl ⟨by rfl, fun w hSw => by skip ; go_simp⟩) hS ?_
  simp only [List.setIfInBounds_toArray, List.set_cons_zero, List.set_cons_succ]
  refine tkd (i := 19) (v := .slice al2 nl cl2 ) rfl rfl (by kernel_rfl) (by kernel_rfl) (by kernel_rfl) (fun _ _ _ h => h) (Or.inl ⟨by rfl, fun w hSw => by have z := keep k3 hSw ; go_simp⟩) hS ?_
  simp only [List.setIfInBounds_toArray, List.set_cons_zero, List.set_cons_succ]
  refine tkd (i := 20) (v := natV nl ) rfl rfl (by kernel_rfl) (by kernel_rfl) (by kernel_rfl) (fun _ _ _ h => h) (Or.inl ⟨by rfl, fun w hSw => by skip ; go_simp⟩) hS ?_
  simp only [List.setIfInBounds_toArray, List.set_cons_zero, List.set_cons_succ]
  refine tkd (i := 21) (v := .bool false ) rfl rfl (by kernel_rfl) (by kernel_rfl) (by kernel_rfl) (fun _ _ _ h => h) (Or.inl ⟨by rfl, fun w hSw => by skip ; go_simp⟩) hS ?_
  simp only [List.setIfInBounds_toArray, List.set_cons_zero, List.set_cons_succ]
  refine tkd (i := 22) (v := .bool false ) rfl rfl (by kernel_rfl) (by kernel_rfl) (by kernel_rfl) (fun _ _ _ h => h) (Or.inl ⟨by rfl, fun w hSw => by skip ; go_simp⟩) hS ?_
  simp only [List.setIfInBounds_toArray, List.set_cons_zero, List.set_cons_succ]
  refine tkd (i := 23) (v := .bool false ) rfl rfl (by kernel_rfl) (by kernel_rfl) (by kernel_rfl) (fun _ _ _ h => h) (Or.inl ⟨by rfl, fun w hSw => by skip ; go_simp⟩) hS ?_
  simp only [List.setIfInBounds_toArray, List.set_cons_zero, List.set_cons_succ]
  refine tkd (i := 24) (v := .slice (some ⟨g, 0, none⟩) 2 2 ) rfl rfl (by kernel_rfl) (by kernel_rfl) (by kernel_rfl) (fun _ _ _ h => h) (Or.inl ⟨by rfl, fun w hSw => by skip ; go_simp⟩) hS ?_
  simp only [List.setIfInBounds_toArray, List.set_cons_zero, List.set_cons_succ]
  refine tkd (i := 25) (v := .pointer (some ⟨g, 1, none⟩) ) rfl rfl (by kernel_rfl) (by kernel_rfl) (by kernel_rfl) (fun _ _ _ h => h) (Or.inl ⟨by rfl, fun w hSw => by skip ; go_simp⟩) hS ?_
  simp only [List.setIfInBounds_toArray, List.set_cons_zero, List.set_cons_succ]
  refine tkd (i := 26) (v := .slice ah nh ch ) rfl rfl (by kernel_rfl) (by kernel_rfl) (by kernel_rfl) (fun _ _ _ h => h) (Or.inl ⟨by rfl, fun w hSw => by have z := keep k2 hSw ; go_simp⟩) hS ?_
  simp only [List.setIfInBounds_toArray, List.set_cons_zero, List.set_cons_succ]
  refine tkd (i := 27) (v := natV nh ) rfl rfl (by kernel_rfl) (by kernel_rfl) (by kernel_rfl) (fun _ _ _ h => h) (Or.inl ⟨by rfl, fun w hSw => by skip ; go_simp⟩) hS ?_
  simp only [List.setIfInBounds_toArray, List.set_cons_zero, List.set_cons_succ]
  refine tkd (i := 28) (v := .slice (some ⟨g2, 0, none⟩) 2 2 ) rfl rfl (by kernel_rfl) (by kernel_rfl) (by kernel_rfl) (fun _ _ _ h => h) (Or.inl ⟨by rfl, fun w hSw => by skip ; go_simp⟩) hS ?_
  simp only [List.setIfInBounds_toArray, List.set_cons_zero, List.set_cons_succ]
  refine tkd (i := 29) (v := .pointer (some ⟨g2, 1, none⟩) ) rfl rfl (by kernel_rfl) (by kernel_rfl) (by kernel_rfl) (fun _ _ _ h => h) (Or.inl ⟨by rfl, fun w hSw => by skip ; go_simp⟩) hS ?_
  simp only [List.setIfInBounds_toArray, List.set_cons_zero, List.set_cons_succ]
  refine tkd (i := 30) (v := .slice ah2 nh ch2 ) rfl rfl (by kernel_rfl) (by kernel_rfl) (by kernel_rfl) (fun _ _ _ h => h) (Or.inl ⟨by rfl, fun w hSw => by have z := keep k4 hSw ; go_simp⟩) hS ?_
  simp only [List.setIfInBounds_toArray, List.set_cons_zero, List.set_cons_succ]
  refine tkd (i := 31) (v := natV nh ) rfl rfl (by kernel_rfl) (by kernel_rfl) (by kernel_rfl) (fun _ _ _ h => h) (Or.inl ⟨by rfl, fun w hSw => by skip ; go_simp⟩) hS ?_
  simp only [List.setIfInBounds_toArray, List.set_cons_zero, List.set_cons_succ]
  refine tkd (i := 32) (v := .bool false ) rfl rfl (by kernel_rfl) (by kernel_rfl) (by kernel_rfl) (fun _ _ _ h => h) (Or.inl ⟨by rfl, fun w hSw => by skip ; go_simp⟩) hS ?_
  simp only [List.setIfInBounds_toArray, List.set_cons_zero, List.set_cons_succ]
  refine tkd (i := 33) (v := .bool false ) rfl rfl (by kernel_rfl) (by kernel_rfl) (by kernel_rfl) (fun _ _ _ h => h) (Or.inl ⟨by rfl, fun w hSw => by skip ; go_simp⟩) hS ?_
  simp only [List.setIfInBounds_toArray, List.set_cons_zero, List.set_cons_succ]
  refine wpAnyH_done (by kernel_rfl) ?_ _
  replace b1 := b1.below hS
  replace b2 := b2.below hS
  replace i1 := i1.below hS
  replace i2 := i2.below hS
  replace i3 := i3.below hS
  replace i4 := i4.below hS
  replace j1 := j1.below hS
  replace j2 := j2.below hS
  replace j3 := j3.below hS
  replace j4 := j4.below hS
  replace k1 := keep k1 hS
  replace k2 := keep k2 hS
  replace k3 := keep k3 hS
  replace k4 := keep k4 hS
  replace hBb := hBb.trans (hS.mono hBb.size)
  clear hS
  have y0 := b1.cell 0 rfl
  have hltA := b1.lt
  have hS := (Below.refl Wc.heap.size Wc).drew
  go_wp2
  refine wp_region_held_drew (S := fun W => Below Wc.heap.size Wc W) (by kernel_rfl) hS (fun hHeld => ?_)
  clear hHeld
  generalize Wc.drew = W at *
  refine tkd (i := 0) (v := .pointer (some ⟨A, 0, none⟩) ) rfl rfl (by kernel_rfl) (by kernel_rfl) (by kernel_rfl) (fun _ _ _ h => h) (Or.inl ⟨by rfl, fun w hSw => by skip ; go_simp⟩) hS ?_
  simp only [List.setIfInBounds_toArray, List.set_cons_zero, List.set_cons_succ]
  refine tkd (i := 1) (v := .int .i64 e1 ) rfl rfl (by kernel_rfl) (by kernel_rfl) (by kernel_rfl) (fun _ _ _ h => h) (Or.inl ⟨by rfl, fun w hSw => by have z := (b1.below hSw).cell 0 rfl ; go_simp⟩) hS ?_
  simp only [List.setIfInBounds_toArray, List.set_cons_zero, List.set_cons_succ]
  refine tkd (i := 2) (v := .pointer (some ⟨B, 0, none⟩) ) rfl rfl (by kernel_rfl) (by kernel_rfl) (by kernel_rfl) (fun _ _ _ h => h) (Or.inl ⟨by rfl, fun w hSw => by skip ; go_simp⟩) hS ?_
  simp only [List.setIfInBounds_toArray, List.set_cons_zero, List.set_cons_succ]
  refine tkd (i := 3) (v := .int .i64 e1 ) rfl rfl (by kernel_rfl) (by kernel_rfl) (by kernel_rfl) (fun _ _ _ h => h) (Or.inl ⟨by rfl, fun w hSw => by have z := (b2.below hSw).cell 0 rfl ; go_simp⟩) hS ?_
  simp only [List.setIfInBounds_toArray, List.set_cons_zero, List.set_cons_succ]
  refine tkd (i := 4) (v := .bool true ) rfl rfl (by kernel_rfl) (by kernel_rfl) (by kernel_rfl) (fun _ _ _ h => h) (Or.inl ⟨by rfl, fun w hSw => by skip ; go_simp⟩) hS ?_
  simp only [List.setIfInBounds_toArray, List.set_cons_zero, List.set_cons_succ]
  refine tkd (i := 5) (v := .bool true ) rfl rfl (by kernel_rfl) (by kernel_rfl) (by kernel_rfl) (fun _ _ _ h => h) (Or.inl ⟨by rfl, fun w hSw => by skip ; go_simp⟩) hS ?_
  simp only [List.setIfInBounds_toArray, List.set_cons_zero, List.set_cons_succ]
  refine tkd (i := 6) (v := .pointer (some ⟨A, 5, none⟩) ) rfl rfl (by kernel_rfl) (by kernel_rfl) (by kernel_rfl) (fun _ _ _ h => h) (Or.inl ⟨by rfl, fun w hSw => by skip ; go_simp⟩) hS ?_
  simp only [List.setIfInBounds_toArray, List.set_cons_zero, List.set_cons_succ]
  refine tkd (i := 7) (v := natV s1.steps ) rfl rfl (by kernel_rfl) (by kernel_rfl) (by kernel_rfl) (fun _ _ _ h => h) (Or.inl ⟨by rfl, fun w hSw => by have z := (b1.below hSw).cell 5 rfl ; go_simp⟩) hS ?_
  simp only [List.setIfInBounds_toArray, List.set_cons_zero, List.set_cons_succ]
  refine tkd (i := 8) (v := .pointer (some ⟨B, 5, none⟩) ) rfl rfl (by kernel_rfl) (by kernel_rfl) (by kernel_rfl) (fun _ _ _ h => h) (Or.inl ⟨by rfl, fun w hSw => by skip ; go_simp⟩) hS ?_
  simp only [List.setIfInBounds_toArray, List.set_cons_zero, List.set_cons_succ]
  refine tkd (i := 9) (v := natV s1.steps ) rfl rfl (by kernel_rfl) (by kernel_rfl) (by kernel_rfl) (fun _ _ _ h => h) (Or.inl ⟨by rfl, fun w hSw => by have z := (b2.below hSw).cell 5 rfl ; go_simp⟩) hS ?_
  simp only [List.setIfInBounds_toArray, List.set_cons_zero, List.set_cons_succ]
  refine tkd (i := 10) (v := .bool true ) rfl rfl (by kernel_rfl) (by kernel_rfl) (by kernel_rfl) (fun _ _ _ h => h) (Or.inl ⟨by rfl, fun w hSw => by skip ; go_simp⟩) hS ?_
  simp only [List.setIfInBounds_toArray, List.set_cons_zero, List.set_cons_succ]
  refine tkd (i := 11) (v := .bool true ) rfl rfl (by kernel_rfl) (by kernel_rfl) (by kernel_rfl) (fun _ _ _ h => h) (Or.inl ⟨by rfl, fun w hSw => by skip ; go_simp⟩) hS ?_
  simp only [List.setIfInBounds_toArray, List.set_cons_zero, List.set_cons_succ]
  refine tkd (i := 12) (v := .bool true ) rfl rfl (by kernel_rfl) (by kernel_rfl) (by kernel_rfl) (fun _ _ _ h => h) (Or.inl ⟨by rfl, fun w hSw => by skip ; go_simp⟩) hS ?_
  simp only [List.setIfInBounds_toArray, List.set_cons_zero, List.set_cons_succ]
  refine tkd (i := 13) (v := .pointer (some ⟨A, 1, none⟩) ) rfl rfl (by kernel_rfl) (by kernel_rfl) (by kernel_rfl) (fun _ _ _ h => h) (Or.inl ⟨by rfl, fun w hSw => by skip ; go_simp⟩) hS ?_
  simp only [List.setIfInBounds_toArray, List.set_cons_zero, List.set_cons_succ]
  refine tkd (i := 14) (v := .slice aL s1.oL.length cL ) rfl rfl (by kernel_rfl) (by kernel_rfl) (by kernel_rfl) (fun _ _ _ h => h) (Or.inl ⟨by rfl, fun w hSw => by have z := (b1.below hSw).cell 1 rfl ; go_simp⟩) hS ?_
  simp only [List.setIfInBounds_toArray, List.set_cons_zero, List.set_cons_succ]
  refine tkd (i := 15) (v := .pointer (some ⟨B, 1, none⟩) ) rfl rfl (by kernel_rfl) (by kernel_rfl) (by kernel_rfl) (fun _ _ _ h => h) (Or.inl ⟨by rfl, fun w hSw => by skip ; go_simp⟩) hS ?_
  simp only [List.setIfInBounds_toArray, List.set_cons_zero, List.set_cons_succ]
  refine tkd (i := 16) (v := .slice aL2 s1.oL.length cL2 ) rfl rfl (by kernel_rfl) (by kernel_rfl) (by kernel_rfl) (fun _ _ _ h => h) (Or.inl ⟨by rfl, fun w hSw => by have z := (b2.below hSw).cell 1 rfl ; go_simp⟩) hS ?_
  simp only [List.setIfInBounds_toArray, List.set_cons_zero, List.set_cons_succ]
  refine wpAnyH_ready (rs := [17]) (by kernel_rfl) (by simp) ?_
  refine AllReadyH.cons rfl (fun KK hK => ?_) AllReadyH.nil
  go_simp
  go_at_call 6
  refine (oSame s1.oL _ _ W (i1.below hS) (j1.below hS) HO.out.1).mono ?_
  rintro e W1 ⟨rfl, hb⟩
  replace hS := hS.trans (hb.mono hS.size)
  clear hb
  go_wp2
  refine hK.out _ _ hS (fun hHeld => ?_)
  clear hK KK hHeld
  refine tkd (i := 18) (v := .bool true ) rfl rfl (by kernel_rfl) (by kernel_rfl) (by kernel_rfl) (fun _ _ _ h => h) (Or.inl ⟨by rfl, fun w hSw => by skip ; go_simp⟩) hS ?_
  simp only [List.setIfInBounds_toArray, List.set_cons_zero, List.set_cons_succ]
  refine tkd (i := 19) (v := .bool true ) rfl rfl (by kernel_rfl) (by kernel_rfl) (by kernel_rfl) (fun _ _ _ h => h) (Or.inl ⟨by rfl, fun w hSw => by skip ; go_simp⟩) hS ?_
  simp only [List.setIfInBounds_toArray, List.set_cons_zero, List.set_cons_succ]
  refine tkd (i := 20) (v := .pointer (some ⟨A, 2, none⟩) ) rfl rfl (by kernel_rfl) (by kernel_rfl) (by kernel_rfl) (fun _ _ _ h => h) (Or.inl ⟨by rfl, fun w hSw => by skip ; go_simp⟩) hS ?_
  simp only [List.setIfInBounds_toArray, List.set_cons_zero, List.set_cons_succ]
  refine tkd (i := 21) (v := .slice aH s1.oH.length cH ) rfl rfl (by kernel_rfl) (by kernel_rfl) (by kernel_rfl) (fun _ _ _ h => h) (Or.inl ⟨by rfl, fun w hSw => by have z := (b1.below hSw).cell 2 rfl ; go_simp⟩) hS ?_
  simp only [List.setIfInBounds_toArray, List.set_cons_zero, List.set_cons_succ]
  refine tkd (i := 22) (v := .pointer (some ⟨B, 2, none⟩) ) rfl rfl (by kernel_rfl) (by kernel_rfl) (by kernel_rfl) (fun _ _ _ h => h) (Or.inl ⟨by rfl, fun w hSw => by skip ; go_simp⟩) hS ?_
  simp only [List.setIfInBounds_toArray, List.set_cons_zero, List.set_cons_succ]
  refine tkd (i := 23) (v := .slice aH2 s1.oH.length cH2 ) rfl rfl (by kernel_rfl) (by kernel_rfl) (by kernel_rfl) (fun _ _ _ h => h) (Or.inl ⟨by rfl, fun w hSw => by have z := (b2.below hSw).cell 2 rfl ; go_simp⟩) hS ?_
  simp only [List.setIfInBounds_toArray, List.set_cons_zero, List.set_cons_succ]
  refine wpAnyH_ready (rs := [24]) (by kernel_rfl) (by simp) ?_
  refine AllReadyH.cons rfl (fun KK hK => ?_) AllReadyH.nil
  go_simp
  go_at_call 6
  refine (oSame s1.oH _ _ W1 (i2.below hS) (j2.below hS) HO.out.2).mono ?_
  rintro e W2 ⟨rfl, hb⟩
  replace hS := hS.trans (hb.mono hS.size)
  clear hb
  go_wp2
  refine hK.out _ _ hS (fun hHeld => ?_)
  clear hK KK hHeld
  refine tkd (i := 25) (v := .bool true ) rfl rfl (by kernel_rfl) (by kernel_rfl) (by kernel_rfl) (fun _ _ _ h => h) (Or.inl ⟨by rfl, fun w hSw => by skip ; go_simp⟩) hS ?_
  simp only [List.setIfInBounds_toArray, List.set_cons_zero, List.set_cons_succ]
  refine tkd (i := 26) (v := .bool true ) rfl rfl (by kernel_rfl) (by kernel_rfl) (by kernel_rfl) (fun _ _ _ h => h) (Or.inl ⟨by rfl, fun w hSw => by skip ; go_simp⟩) hS ?_
  simp only [List.setIfInBounds_toArray, List.set_cons_zero, List.set_cons_succ]
  refine tkd (i := 27) (v := .slice (some ⟨g, 0, none⟩) 2 2 ) rfl rfl (by kernel_rfl) (by kernel_rfl) (by kernel_rfl) (fun _ _ _ h => h) (Or.inl ⟨by rfl, fun w hSw => by skip ; go_simp⟩) hS ?_
  simp only [List.setIfInBounds_toArray, List.set_cons_zero, List.set_cons_succ]
  refine tkd (i := 28) (v := .pointer (some ⟨g, 0, none⟩) ) rfl rfl (by kernel_rfl) (by kernel_rfl) (by kernel_rfl) (fun _ _ _ h => h) (Or.inl ⟨by rfl, fun w hSw => by skip ; go_simp⟩) hS ?_
  simp only [List.setIfInBounds_toArray, List.set_cons_zero, List.set_cons_succ]
  refine tkd (i := 29) (v := .slice al nl cl ) rfl rfl (by kernel_rfl) (by kernel_rfl) (by kernel_rfl) (fun _ _ _ h => h) (Or.inl ⟨by rfl, fun w hSw => by have z := keep k1 hSw ; go_simp⟩) hS ?_
  simp only [List.setIfInBounds_toArray, List.set_cons_zero, List.set_cons_succ]
  refine tkd (i := 30) (v := .slice (some ⟨g2, 0, none⟩) 2 2 ) rfl rfl (by kernel_rfl) (by kernel_rfl) (by kernel_rfl) (fun _ _ _ h => h) (Or.inl ⟨by rfl, fun w hSw => by skip ; go_simp⟩) hS ?_
  simp only [List.setIfInBounds_toArray, List.set_cons_zero, List.set_cons_succ]
  refine tkd (i := 31) (v := .pointer (some ⟨g2, 0, none⟩) ) rfl rfl (by kernel_rfl) (by kernel_rfl) (by kernel_rfl) (fun _ _ _ h => h) (Or.inl ⟨by rfl, fun w hSw => by skip ; go_simp⟩) hS ?_
  simp only [List.setIfInBounds_toArray, List.set_cons_zero, List.set_cons_succ]
  refine tkd (i := 32) (v := .slice al2 nl cl2 ) rfl rfl (by kernel_rfl) (by kernel_rfl) (by kernel_rfl) (fun _ _ _ h => h) (Or.inl ⟨by rfl, fun w hSw => by have z := keep k3 hSw ; go_simp⟩) hS ?_
  simp only [List.setIfInBounds_toArray, List.set_cons_zero, List.set_cons_succ]
  refine wpAnyH_ready (rs := [33]) (by kernel_rfl) (by simp) ?_
  refine AllReadyH.cons rfl (fun KK hK => ?_) AllReadyH.nil
  go_simp
  go_at_call 6
  refine (oSame s1.lw _ _ W2 (i3.below hS) (j3.below hS) (Nat.le_trans (Nat.le_of_eq HL1.out.1) HM.out.1)).mono ?_
  rintro e W3 ⟨rfl, hb⟩
  replace hS := hS.trans (hb.mono hS.size)
  clear hb
  go_wp2
  refine hK.out _ _ hS (fun hHeld => ?_)
  clear hK KK hHeld
  refine tkd (i := 34) (v := .bool true ) rfl rfl (by kernel_rfl) (by kernel_rfl) (by kernel_rfl) (fun _ _ _ h => h) (Or.inl ⟨by rfl, fun w hSw => by skip ; go_simp⟩) hS ?_
  simp only [List.setIfInBounds_toArray, List.set_cons_zero, List.set_cons_succ]
  refine tkd (i := 35) (v := .bool true ) rfl rfl (by kernel_rfl) (by kernel_rfl) (by kernel_rfl) (fun _ _ _ h => h) (Or.inl ⟨by rfl, fun w hSw => by skip ; go_simp⟩) hS ?_
  simp only [List.setIfInBounds_toArray, List.set_cons_zero, List.set_cons_succ]
  refine tkd (i := 36) (v := .slice (some ⟨g, 0, none⟩) 2 2 ) rfl rfl (by kernel_rfl) (by kernel_rfl) (by kernel_rfl) (fun _ _ _ h => h) (Or.inl ⟨by rfl, fun w hSw => by skip ; go_simp⟩) hS ?_
  simp only [List.setIfInBounds_toArray, List.set_cons_zero, List.set_cons_succ]
  refine tkd (i := 37) (v := .pointer (some ⟨g, 1, none⟩) ) rfl rfl (by kernel_rfl) (by kernel_rfl) (by kernel_rfl) (fun _ _ _ h => h) (Or.inl ⟨by rfl, fun w hSw => by skip ; go_simp⟩) hS ?_
  simp only [List.setIfInBounds_toArray, List.set_cons_zero, List.set_cons_succ]
  refine tkd (i := 38) (v := .slice ah nh ch ) rfl rfl (by kernel_rfl) (by kernel_rfl) (by kernel_rfl) (fun _ _ _ h => h) (Or.inl ⟨by rfl, fun w hSw => by have z := keep k2 hSw ; go_simp⟩) hS ?_
  simp only [List.setIfInBounds_toArray, List.set_cons_zero, List.set_cons_succ]
  refine tkd (i := 39) (v := .slice (some ⟨g2, 0, none⟩) 2 2 ) rfl rfl (by kernel_rfl) (by kernel_rfl) (by kernel_rfl) (fun _ _ _ h => h) (Or.inl ⟨by rfl, fun w hSw => by skip ; go_simp⟩) hS ?_
  simp only [List.setIfInBounds_toArray, List.set_cons_zero, List.set_cons_succ]
  refine tkd (i := 40) (v := .pointer (some ⟨g2, 1, none⟩) ) rfl rfl (by kernel_rfl) (by kernel_rfl) (by kernel_rfl) (fun _ _ _ h => h) (Or.inl ⟨by rfl, fun w hSw => by skip ; go_simp⟩) hS ?_
  simp only [List.setIfInBounds_toArray, List.set_cons_zero, List.set_cons_succ]
  refine tkd (i := 41) (v := .slice ah2 nh ch2 ) rfl rfl (by kernel_rfl) (by kernel_rfl) (by kernel_rfl) (fun _ _ _ h => h) (Or.inl ⟨by rfl, fun w hSw => by have z := keep k4 hSw ; go_simp⟩) hS ?_
  simp only [List.setIfInBounds_toArray, List.set_cons_zero, List.set_cons_succ]
  refine wpAnyH_ready (rs := [42]) (by kernel_rfl) (by simp) ?_
  refine AllReadyH.cons rfl (fun KK hK => ?_) AllReadyH.nil
  go_simp
  go_at_call 6
  refine (oSame s1.hw _ _ W3 (i4.below hS) (j4.below hS) (Nat.le_trans (Nat.le_of_eq HL1.out.2.2.1) HM.out.2)).mono ?_
  rintro e W4 ⟨rfl, hb⟩
  replace hS := hS.trans (hb.mono hS.size)
  clear hb
  go_wp2
  refine hK.out _ _ hS (fun hHeld => ?_)
  clear hK KK hHeld
  refine tkd (i := 43) (v := .bool true ) rfl rfl (by kernel_rfl) (by kernel_rfl) (by kernel_rfl) (fun _ _ _ h => h) (Or.inl ⟨by rfl, fun w hSw => by skip ; go_simp⟩) hS ?_
  simp only [List.setIfInBounds_toArray, List.set_cons_zero, List.set_cons_succ]
  refine tkd (i := 44) (v := .bool true ) rfl rfl (by kernel_rfl) (by kernel_rfl) (by kernel_rfl) (fun _ _ _ h => h) (Or.inl ⟨by rfl, fun w hSw => by skip ; go_simp⟩) hS ?_
  simp only [List.setIfInBounds_toArray, List.set_cons_zero, List.set_cons_succ]
  refine wpAnyH_done (by kernel_rfl) ?_ _
  go_wp2
  go_ret
  exact ⟨rfl, hBb.trans (hS.mono hBb.size)⟩
end Go.Proofs.Ytcfibghjekimkaa.mac
