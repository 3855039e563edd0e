/- What the reference's stat answers, once those that it calls do: the way of 'if' and 'else'. -/
import Derived.Test.YtchhpinmoagkhaaGreatDoorProg
import Derived.WalkKit
import Derived.WalkLawsBesides
import Derived.Outline
import Derived.WalkSmall
import Derived.Deep.RegionWith
import Derived.Test.YtchhpinmoagkhaaGreatDoorMRg
namespace Go.Proofs.YtchhpinmoagkhaaGreatDoor.syn
open Go.RowKit
open Go.Proofs.YtchhpinmoagkhaaGreatDoor.lexs (Tok own_shape)
set_option linter.unusedVariables false

section
variable {w : World} {r : Nat} {L : Value} {ts : List Tok} {s : St}
set_option maxRecDepth 100000 in
set_option maxHeartbeats 4000000 in
theorem rstat_ifelse {f : Nat} (ihA : ∀ {w : World} {s : St} {q : Tree × St}, Rd w r L ts s → askedF ts f s = some q → Calls Tryz.prog 124 #[.pointer (some ⟨r, 0, none⟩)] w (Ans w r L ts q))
    (ihB : ∀ {w : World} {s : St} {q : Tree × St}, Rd w r L ts s → blockF ts f s = some q → Calls Tryz.prog 60 #[.pointer (some ⟨r, 0, none⟩)] w (Ans w r L ts q))
    (hR : Rd w r L ts s) (y : eqS (txt ts s) ⟨#[105, 102]⟩ = true)
    {q1 q2 q3t : Tree × St} (h1 : askedF ts f s.next = some q1) (h2 : blockF ts f q1.2 = some q2) (ye : eqS (txt ts q2.2) ⟨#[101, 108, 115, 101]⟩ = true) (h3 : blockF ts f q2.2.next = some q3t) : Calls Tryz.prog 102 #[.pointer (some ⟨r, 0, none⟩)] w (Ans w r L ts (.node 10 empty 0 [q1.1, q2.1, q3t.1], q3t.2)) := by
  have c24 : Tryz.prog.cellsOf 24 = 4 := by kernel_rfl
  have hM := Mid.start hR
  go_enter Tryz.func102, Tryz.ntmps102
  go_wp2_with (fail)
  refine (reat_yes hM.rd ⟨#[105, 102]⟩ (by decide) y).mono ?_
  rintro e wb ⟨rfl, hRb, hFb⟩
  replace hM := hM.step hRb hFb
  clear hRb hFb
  obtain ⟨p0, p1, p2, p3, o0, o1, o2, o3⟩ := hM.b1
  replace hM := hM.kind 10
  go_wp2_with (fail)
  refine (ihA hM.rd h1).mono ?_
  rintro e w2 ⟨v2, rfl, hL2, hR2, hF2⟩
  obtain ⟨k2, y2, m2, _, rfl, a2, n2, c2, rfl⟩ := hL2.shape
  have hz0 := hM.size
  replace hM := (hM.step hR2 hF2).alloc (.cells #[.int .i64 k2, .string y2, .int .i64 m2, .slice a2 n2 c2] 24)
  have hb2 := Box4.new w2 (.int .i64 k2) (.string y2) (.int .i64 m2) (.slice a2 n2 c2) 24
  go_wp2_with (fail)
  refine (ihB hM.rd h2).mono ?_
  rintro e w4 ⟨v4, rfl, hL4, hR4, hF4⟩
  obtain ⟨k4, y4, m4, _, rfl, a4, n4, c4, rfl⟩ := hL4.shape
  have hz2 := hF2.size
  have hz4 := hF4.size
  rw [World.size_alloc] at hz4
  simp only [World.size_setCell] at hz0 hz2
  have hr := hR.lt
  replace hM := hM.step hR4 hF4
  have hb2' := hb2.fr hF4 (by omega)
  have hlt2 : w2.heap.size < w4.heap.size := by omega
  have hlt1 : w.heap.size + 1 < w4.heap.size := by omega
  have hlt0 : w.heap.size < w4.heap.size := by omega
  obtain ⟨p0, p1, p2, p3, o0, o1, o2, o3⟩ := hM.b1
  obtain ⟨x0, x1, x2, x3, _, _, _, _⟩ := hb2'
  have hA : Lies (fun b => w.heap.size + 2 ≤ b ∧ b < w4.heap.size) w4 q1.1 (.agg #[.int .i64 k2, .string y2, .int .i64 m2, .slice a2 n2 c2]) := (hL2.frP (x := w2.heap.size) (Q := fun b => w.heap.size + 2 ≤ b ∧ b < w2.heap.size) (Fr.al w2 (.cells #[.int .i64 k2, .string y2, .int .i64 m2, .slice a2 n2 c2] 24)) (fun b hb => ⟨hb.2, by omega⟩) (fun b hb => ⟨by simp only [World.size_setCell] at hb; omega, hb.2⟩)).frP hF4 (fun b hb => ⟨by rw [World.size_alloc]; omega, by omega⟩) (fun b hb => ⟨hb.1, by omega⟩)
  have hB : Lies (fun b => w.heap.size + 2 ≤ b ∧ b < w4.heap.size) w4 q2.1 (.agg #[.int .i64 k4, .string y4, .int .i64 m4, .slice a4 n4 c4]) := hL4.to (fun b hb => ⟨by rw [World.size_alloc] at hb; omega, hb.2⟩) (fun _ _ _ => rfl)
  have hM8 := (hM.alloc (.cells #[.int .i64 k4, .string y4, .int .i64 m4, .slice a4 n4 c4] 24)).drewN 1
  have hA8 : Lies (fun b => w.heap.size + 2 ≤ b ∧ b < ((w4.alloc (.cells #[.int .i64 k4, .string y4, .int .i64 m4, .slice a4 n4 c4] 24)).drewN 1).heap.size) ((w4.alloc (.cells #[.int .i64 k4, .string y4, .int .i64 m4, .slice a4 n4 c4] 24)).drewN 1) q1.1 (.agg #[.int .i64 k2, .string y2, .int .i64 m2, .slice a2 n2 c2]) := hA.frP (x := w4.heap.size) ((Fr.al w4 _).drewN 1) (fun b hb => ⟨hb.2, by omega⟩) (fun b hb => ⟨hb.1, by simp; omega⟩)
  have hB8 : Lies (fun b => w.heap.size + 2 ≤ b ∧ b < w4.heap.size) ((w4.alloc (.cells #[.int .i64 k4, .string y4, .int .i64 m4, .slice a4 n4 c4] 24)).drewN 1) q2.1 (.agg #[.int .i64 k4, .string y4, .int .i64 m4, .slice a4 n4 c4]) := hB.frP (x := w4.heap.size) ((Fr.al w4 _).drewN 1) (fun b hb => ⟨hb.2, by omega⟩) (fun b hb => hb)
  have hx8 := (Box4.new w4 (.int .i64 k4) (.string y4) (.int .i64 m4) (.slice a4 n4 c4) 24).drewN 1
  have hC := hM8.first (B := w.heap.size + 2) (Nat.le_refl _) hA8
  clear hA hB hA8 hL2 hL4
  go_wp2
  go_region_with (first
    | (go_at_call 125; refine (hM5.nextW (W0 := w4.heap.size + 1) (W1 := w4.heap.size + 1) hK5 (by simp) hfr5 (Nat.le_refl _) hs5 hB5).mono ?_; rintro e w6 ⟨a6, c6, rfl, hK6, hM6, hG6, hfr6⟩; obtain ⟨g0, g1, g2, g3, l0, l1, l2, l3'⟩ := hM6.b1; have hM7 := hM6.put 10 0 empty (.slice a6 2 c6))
    | (go_at_call 125; refine hC.mono ?_; rintro e w5 ⟨a5, c5, rfl, hK5, hM5, hG5, hfr5⟩; obtain ⟨z0, z1, z2, z3, _, _, _, _⟩ := hx8.grown hG5 (by simp); have hs5 : w4.heap.size + 1 ≤ w5.heap.size := by have := hG5.size; simpa using this
       have hK5 : Kids (w.heap.size + 2) (fun b => w.heap.size + 2 ≤ b ∧ b < w4.heap.size + 1) w5 (.slice a5 1 c5) [q1.1] := by simpa using hK5
       have hfr5 : ∀ g, (Value.slice a5 1 c5).ownBlock = some g → w4.heap.size + 1 ≤ g := by simpa using hfr5
       have hB5 : Lies (fun b => w.heap.size + 2 ≤ b ∧ b < w4.heap.size + 1 ∧ some b ≠ (Value.slice a5 1 c5).ownBlock) w5 q2.1 (.agg #[.int .i64 k4, .string y4, .int .i64 m4, .slice a4 n4 c4]) := hB8.to (fun b hb => ⟨hb.1, by omega, fun e => by have := hfr5 b e.symm; omega⟩) (fun b hb o => World.cell?_of_block (a := ⟨b, o, none⟩) (hG5.block b (by simp; omega) (by simp)))))
  all_goals
    go_wp2_with (fail)
    refine (reat_yes hM7.rd ⟨#[101, 108, 115, 101]⟩ (by decide) ye).mono ?_
    rintro e w9 ⟨rfl, hR9, hF9⟩
    have hM9 := hM7.step hR9 hF9
    have s6 := hG6.size
    have s9 := hF9.size
    simp only [World.size_setCell] at s9
    have hK7 := hK6.grown (Q := fun b => w.heap.size + 2 ≤ b ∧ b < w4.heap.size + 1) (Fr.put w6 (w.heap.size + 1) (.int .i64 10) (.string empty) (.int .i64 0) (.slice a6 2 c6)) (.inr fun e => by have := (hK6.blk e).1; omega) (fun b hb => ⟨by omega, by simp; omega⟩) (fun _ h => h)
    have hK9 := hK7.grown (Q := fun b => w.heap.size + 2 ≤ b ∧ b < w4.heap.size + 1) hF9 (.inr fun e => by have := (hK7.blk e).1; omega) (fun b hb => ⟨by simp only [World.size_setCell]; omega, by simp; omega⟩) (fun _ h => h)
    go_wp2_with (fail)
    refine (ihB hM9.rd h3).mono ?_
    rintro e wc ⟨vc, rfl, hLc, hRc, hFc⟩
    obtain ⟨kc, yc, mc, _, rfl, ac, nc, cc, rfl⟩ := hLc.shape
    have sc := hFc.size
    have hMc := (hM9.step hRc hFc).alloc (.cells #[.int .i64 kc, .string yc, .int .i64 mc, .slice ac nc cc] 24)
    have hKc := (hK9.grown (Q := fun b => w.heap.size + 2 ≤ b ∧ b < w4.heap.size + 1) hFc (.inr fun e => by have := (hK9.blk e).1; omega) (fun b hb => ⟨by omega, by simp; omega⟩) (fun _ h => h)).grown (Q := fun b => w.heap.size + 2 ≤ b ∧ b < w4.heap.size + 1) (World.grownBy_alloc wc (.cells #[.int .i64 kc, .string yc, .int .i64 mc, .slice ac nc cc] 24) none) (by cases h : (Value.slice a6 ([q1.1].length + 1) c6).ownBlock <;> simp) (fun b hb => ⟨by omega, by simp⟩) (fun _ h => h)
    have hLc' : Lies (fun b => w.heap.size + 2 ≤ b ∧ b < wc.heap.size ∧ some b ≠ (Value.slice a6 ([q1.1].length + 1) c6).ownBlock) (wc.alloc (.cells #[.int .i64 kc, .string yc, .int .i64 mc, .slice ac nc cc] 24)) q3t.1 (.agg #[.int .i64 kc, .string yc, .int .i64 mc, .slice ac nc cc]) :=
      hLc.frP (x := wc.heap.size) (Fr.al wc _) (fun b hb => ⟨hb.2, by omega⟩) (fun b hb => ⟨by omega, hb.2, fun e => by have := (hK9.blk e.symm).2; omega⟩)
    have hz1 : w.heap.size + 1 < wc.heap.size := by omega
    have hCc := hMc.nextW (W0 := w4.heap.size + 1) (W1 := wc.heap.size) hKc (by simp) hfr6 (by omega) (by rw [World.size_alloc]; omega) hLc'
    obtain ⟨p0, p1, p2, p3, o0, o1, o2, o3⟩ := (hM9.step hRc hFc).b1
    clear hK7 hK9 hLc hLc' hKc
    go_wp2_with (fail)
    refine hCc.mono ?_
    rintro e wd ⟨ad, cd, rfl, hKd, hMd, hGd, hfrd⟩
    obtain ⟨p0, p1, p2, p3, o0, o1, o2, o3⟩ := hMd.b1
    obtain ⟨q0, q1', q2', q3, t0, t1, t2, t3⟩ := hMd.b0
    have hMe := hMd.put 10 0 empty (.slice ad 3 cd)
    have sd := hGd.size
    rw [World.size_alloc] at sd
    have HL : Hid (Lies (fun b => w.heap.size + 1 ≤ b ∧ b < ((((wd.setCell ⟨w.heap.size + 1, 0, none⟩ (.int .i64 10)).setCell ⟨w.heap.size + 1, 1, none⟩ (.string empty)).setCell ⟨w.heap.size + 1, 2, none⟩ (.int .i64 0)).setCell ⟨w.heap.size + 1, 3, none⟩ (.slice ad 3 cd)).heap.size) ((((wd.setCell ⟨w.heap.size + 1, 0, none⟩ (.int .i64 10)).setCell ⟨w.heap.size + 1, 1, none⟩ (.string empty)).setCell ⟨w.heap.size + 1, 2, none⟩ (.int .i64 0)).setCell ⟨w.heap.size + 1, 3, none⟩ (.slice ad 3 cd)) (.node 10 empty 0 [q1.1, q2.1, q3t.1]) (.agg #[.int .i64 10, .string empty, .int .i64 0, .slice ad 3 cd])) := Kids.done (r := r) (ks := [q1.1, q2.1, q3t.1]) hKd (by omega) (by simp) (Fr.refl _ _) hR.lt
    go_wp2
    exact bodyPost_ret (v := .agg #[.int .i64 10, .string empty, .int .i64 0, .slice ad 3 cd]) (by simp [results, Tryz.results102, go_sem, q0, q1', q2', q3]) rfl
      (Ans.fin hR hMe.fr hMe.rd (Nat.lt_succ_self _) HL.out)
end
end Go.Proofs.YtchhpinmoagkhaaGreatDoor.syn
