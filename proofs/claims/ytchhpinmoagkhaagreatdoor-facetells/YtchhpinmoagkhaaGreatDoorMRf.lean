/- What the reference's stat answers, once those that it calls do: the way of two expressions. -/
import Derived.Test.YtchhpinmoagkhaaGreatDoorProg
import Derived.WalkKit
import Derived.WalkLawsBesides
import Derived.Outline
import Derived.WalkSmall
import Derived.Deep.RegionWith
import Derived.Test.YtchhpinmoagkhaaGreatDoorMRe
namespace Go.Proofs.YtchhpinmoagkhaaGreatDoor.syn
open Go.RowKit
open Go.Proofs.YtchhpinmoagkhaaGreatDoor.lexs (Tok own_shape)
set_option linter.unusedVariables false

section
variable {w : World} {r : Nat} {L : Value} {ts : List Tok} {s : St}
set_option maxRecDepth 100000 in
set_option maxHeartbeats 2000000 in
theorem rstat_set {f : Nat} (ihE : ∀ {w : World} {s : St} {q : Tree × St}, Rd w r L ts s → exprF ts f s = some q → Calls Tryz.prog 126 #[.pointer (some ⟨r, 0, none⟩)] w (Ans w r L ts q))
    (ihP : ∀ {w : World} {s : St} {q : Tree × St} (x : ByteArray), Rd w r L ts s → placeF ts f x s = some q → Calls Tryz.prog 129 #[.pointer (some ⟨r, 0, none⟩), .string x] w (Ans w r L ts q))
    (hR : Rd w r L ts s) (n1 : eqS (txt ts s) ⟨#[105, 102]⟩ = false) (n2 : eqS (txt ts s) ⟨#[119, 104, 105, 108, 101]⟩ = false) (n3 : eqS (txt ts s) ⟨#[108, 111, 119]⟩ = false) (n4 : eqS (txt ts s) ⟨#[104, 105, 103, 104]⟩ = false) (n5 : eqS (txt ts s) ⟨#[100, 111]⟩ = false) (n6 : eqS (txt ts s) ⟨#[111, 117, 116]⟩ = false) (n7 : eqS (txt ts s) ⟨#[105, 110]⟩ = false) (n8 : eqS (txt ts s) ⟨#[114, 101, 116, 117, 114, 110]⟩ = false)
    {q1 q2 : Tree × St} (h1 : placeF ts f (whole ts s).1 (whole ts s).2 = some q1) (h2 : exprF ts f (must ts ⟨#[61]⟩ q1.2) = some q2) : Calls Tryz.prog 102 #[.pointer (some ⟨r, 0, none⟩)] w (Ans w r L ts (.node 8 empty 0 [q1.1, q2.1], must ts ⟨#[59]⟩ q2.2)) := by
  have c24 : Tryz.prog.cellsOf 24 = 4 := by kernel_rfl
  have hM := Mid.start hR
  have l3 : ((txt ts s).toList == [108, 111, 119]) = false := (eqS_lit _ _).symm.trans n3
  have l4 : ((txt ts s).toList == [104, 105, 103, 104]) = false := (eqS_lit _ _).symm.trans n4
  go_enter Tryz.func102, Tryz.ntmps102
  go_wp2_with (fail)
  refine (reat_no hM.rd ⟨#[105, 102]⟩ (by decide) n1).mono ?_
  rintro e wb ⟨rfl, hRb, hFb⟩
  replace hM := hM.step hRb hFb
  clear hRb hFb
  go_wp2_with (fail)
  refine (reat_no hM.rd ⟨#[119, 104, 105, 108, 101]⟩ (by decide) n2).mono ?_
  rintro e wb ⟨rfl, hRb, hFb⟩
  replace hM := hM.step hRb hFb
  clear hRb hFb
  go_wp2_with (fail)
  refine (rtext _ r L ts s hM.rd).mono ?_
  rintro e wb ⟨rfl, nd, rfl⟩
  replace hM := hM.drewN nd
  go_wp2_with (fail)
  refine (rtext _ r L ts s hM.rd).mono ?_
  rintro e wb ⟨rfl, nd', rfl⟩
  replace hM := hM.drewN nd'
  rw [World.drewN_drewN] at hM
  go_wp2_with (fail)
  refine (reat_no hM.rd ⟨#[100, 111]⟩ (by decide) n5).mono ?_
  rintro e wb ⟨rfl, hRb, hFb⟩
  replace hM := hM.step hRb hFb
  clear hRb hFb
  go_wp2_with (fail)
  refine (reat_no hM.rd ⟨#[111, 117, 116]⟩ (by decide) n6).mono ?_
  rintro e wb ⟨rfl, hRb, hFb⟩
  replace hM := hM.step hRb hFb
  clear hRb hFb
  go_wp2_with (fail)
  refine (reat_no hM.rd ⟨#[105, 110]⟩ (by decide) n7).mono ?_
  rintro e wb ⟨rfl, hRb, hFb⟩
  replace hM := hM.step hRb hFb
  clear hRb hFb
  go_wp2_with (fail)
  refine (reat_no hM.rd ⟨#[114, 101, 116, 117, 114, 110]⟩ (by decide) n8).mono ?_
  rintro e wb ⟨rfl, hRb, hFb⟩
  replace hM := hM.step hRb hFb
  clear hRb hFb
  obtain ⟨p0, p1, p2, p3, o0, o1, o2, o3⟩ := hM.b1
  replace hM := hM.kind 8
  go_wp2_with (fail)
  refine (rwhole hM.rd).mono ?_
  rintro e wb ⟨rfl, hRb, hFb⟩
  replace hM := hM.step hRb hFb
  clear hRb hFb
  go_wp2_with (fail)
  refine (ihP _ hM.rd h1).mono ?_
  rintro e w2 ⟨v2, rfl, hL2, hR2, hF2⟩
  obtain ⟨k2, y2, m2, _, rfl, a2, n2, c2, rfl⟩ := hL2.shape
  have hz0 := hM.size
  replace hM := (hM.step hR2 hF2).alloc (.cells #[.int .i64 k2, .string y2, .int .i64 m2, .slice a2 n2 c2] 24)
  have hb2 := Box4.new w2 (.int .i64 k2) (.string y2) (.int .i64 m2) (.slice a2 n2 c2) 24
  go_wp2_with (fail)
  refine (rmust hM.rd ⟨#[61]⟩ (by decide)).mono ?_
  rintro e w3 ⟨rfl, hR3, hF3⟩
  replace hM := hM.step hR3 hF3
  go_wp2_with (fail)
  refine (ihE hM.rd h2).mono ?_
  rintro e w4 ⟨v4, rfl, hL4, hR4, hF4⟩
  obtain ⟨k4, y4, m4, _, rfl, a4, n4, c4, rfl⟩ := hL4.shape
  have hz2 := hF2.size
  have hz3 := hF3.size
  have hz4 := hF4.size
  rw [World.size_alloc] at hz3
  have hr := hR.lt
  replace hM := hM.step hR4 hF4
  have hb2' := (hb2.fr hF3 (by omega)).fr hF4 (by omega)
  have hlt2 : w2.heap.size < w4.heap.size := by omega
  have hlt1 : w.heap.size + 1 < w4.heap.size := by omega
  have hlt0 : w.heap.size < w4.heap.size := by omega
  obtain ⟨p0, p1, p2, p3, o0, o1, o2, o3⟩ := hM.b1
  obtain ⟨x0, x1, x2, x3, _, _, _, _⟩ := hb2'
  have hA : Lies (fun b => w.heap.size + 2 ≤ b ∧ b < w4.heap.size) w4 q1.1 (.agg #[.int .i64 k2, .string y2, .int .i64 m2, .slice a2 n2 c2]) := ((hL2.frP (x := w2.heap.size) (Q := fun b => w.heap.size + 2 ≤ b ∧ b < w2.heap.size) (Fr.al w2 (.cells #[.int .i64 k2, .string y2, .int .i64 m2, .slice a2 n2 c2] 24)) (fun b hb => ⟨hb.2, by omega⟩) (fun b hb => ⟨by omega, hb.2⟩)).frP (Q := fun b => w.heap.size + 2 ≤ b ∧ b < w2.heap.size) hF3 (fun b hb => ⟨by rw [World.size_alloc]; omega, by omega⟩) (fun b hb => hb)).frP hF4 (fun b hb => ⟨by omega, by omega⟩) (fun b hb => ⟨hb.1, by omega⟩)
  have hB : Lies (fun b => w.heap.size + 2 ≤ b ∧ b < w4.heap.size) w4 q2.1 (.agg #[.int .i64 k4, .string y4, .int .i64 m4, .slice a4 n4 c4]) := hL4.to (fun b hb => ⟨by omega, hb.2⟩) (fun _ _ _ => rfl)
  have hM8 := (hM.alloc (.cells #[.int .i64 k4, .string y4, .int .i64 m4, .slice a4 n4 c4] 24)).drewN 1
  have hA8 : Lies (fun b => w.heap.size + 2 ≤ b ∧ b < ((w4.alloc (.cells #[.int .i64 k4, .string y4, .int .i64 m4, .slice a4 n4 c4] 24)).drewN 1).heap.size) ((w4.alloc (.cells #[.int .i64 k4, .string y4, .int .i64 m4, .slice a4 n4 c4] 24)).drewN 1) q1.1 (.agg #[.int .i64 k2, .string y2, .int .i64 m2, .slice a2 n2 c2]) := hA.frP (x := w4.heap.size) ((Fr.al w4 _).drewN 1) (fun b hb => ⟨hb.2, by omega⟩) (fun b hb => ⟨hb.1, by simp; omega⟩)
  have hB8 : Lies (fun b => w.heap.size + 2 ≤ b ∧ b < w4.heap.size) ((w4.alloc (.cells #[.int .i64 k4, .string y4, .int .i64 m4, .slice a4 n4 c4] 24)).drewN 1) q2.1 (.agg #[.int .i64 k4, .string y4, .int .i64 m4, .slice a4 n4 c4]) := hB.frP (x := w4.heap.size) ((Fr.al w4 _).drewN 1) (fun b hb => ⟨hb.2, by omega⟩) (fun b hb => hb)
  have hx8 := (Box4.new w4 (.int .i64 k4) (.string y4) (.int .i64 m4) (.slice a4 n4 c4) 24).drewN 1
  have hC := hM8.first (B := w.heap.size + 2) (Nat.le_refl _) hA8
  clear hA hB hA8 hL2 hL4
  go_wp2
  go_region_with (first
    | (go_at_call 125; refine (hM5.next (W0 := w4.heap.size + 1) (W1 := w4.heap.size + 1) hK5 (by simp) hfr5 (Nat.le_refl _) hs5 hB5).mono ?_; rintro e w6 ⟨a6, c6, rfl, hK6, hM6, hG6⟩; obtain ⟨g0, g1, g2, g3, l0, l1, l2, l3'⟩ := hM6.b1; have hM7 := hM6.put 8 0 empty (.slice a6 2 c6))
    | (go_at_call 125; refine hC.mono ?_; rintro e w5 ⟨a5, c5, rfl, hK5, hM5, hG5, hfr5⟩; obtain ⟨z0, z1, z2, z3, _, _, _, _⟩ := hx8.grown hG5 (by simp); have hs5 : w4.heap.size + 1 ≤ w5.heap.size := by have := hG5.size; simpa using this
       have hK5 : Kids (w.heap.size + 2) (fun b => w.heap.size + 2 ≤ b ∧ b < w4.heap.size + 1) w5 (.slice a5 1 c5) [q1.1] := by simpa using hK5
       have hfr5 : ∀ g, (Value.slice a5 1 c5).ownBlock = some g → w4.heap.size + 1 ≤ g := by simpa using hfr5
       have hB5 : Lies (fun b => w.heap.size + 2 ≤ b ∧ b < w4.heap.size + 1 ∧ some b ≠ (Value.slice a5 1 c5).ownBlock) w5 q2.1 (.agg #[.int .i64 k4, .string y4, .int .i64 m4, .slice a4 n4 c4]) := hB8.to (fun b hb => ⟨hb.1, by omega, fun e => by have := hfr5 b e.symm; omega⟩) (fun b hb o => World.cell?_of_block (a := ⟨b, o, none⟩) (hG5.block b (by simp; omega) (by simp)))))
  all_goals
    go_wp2_with (fail)
    refine (rmust hM7.rd ⟨#[59]⟩ (by decide)).mono ?_
    rintro e w9 ⟨rfl, hR9, hF9⟩
    have hM9 := hM7.step hR9 hF9
    obtain ⟨q0, q1', q2', q3, t0, t1, t2, t3⟩ := hM9.b0
    obtain ⟨p0, p1, p2, p3, _, _, _, _⟩ := hM9.b1
    have HL : Hid (Lies (fun b => w.heap.size + 1 ≤ b ∧ b < w9.heap.size) w9 (.node 8 empty 0 [q1.1, q2.1]) (.agg #[.int .i64 8, .string empty, .int .i64 0, .slice a6 2 c6])) := Kids.done (ks := [q1.1, q2.1]) hK6 (by have := hG6.size; omega) (by simp) hF9 hR.lt
    go_wp2
    exact bodyPost_ret (v := .agg #[.int .i64 8, .string empty, .int .i64 0, .slice a6 2 c6]) (by simp [results, Tryz.results102, go_sem, q0, q1', q2', q3]) rfl
      (Ans.fin hR hM9.fr hM9.rd (Nat.lt_succ_self _) HL.out)
end
end Go.Proofs.YtchhpinmoagkhaaGreatDoor.syn
