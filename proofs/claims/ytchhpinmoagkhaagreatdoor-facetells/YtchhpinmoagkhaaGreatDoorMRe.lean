/- What the reference's stat answers, once those that it calls do: the ways of two expressions and blocks. -/
import Derived.Test.YtchhpinmoagkhaaGreatDoorProg
import Derived.WalkKit
import Derived.WalkLawsBesides
import Derived.Outline
import Derived.WalkSmall
import Derived.Deep.RegionWith
import Derived.Test.YtchhpinmoagkhaaGreatDoorMRd
namespace Go.Proofs.YtchhpinmoagkhaaGreatDoor.syn
open Go.RowKit
open Go.Proofs.YtchhpinmoagkhaaGreatDoor.lexs (Tok own_shape)
set_option linter.unusedVariables false

section
variable {w : World} {r : Nat} {L : Value} {ts : List Tok} {s : St}
/-- one kid more, behind others -/
theorem Mid.next {wk : World} {k m : Int} {x : ByteArray} {kv : Value} (h : Mid w r L ts wk s k x m kv) {ks : List Tree} {kv1 : Value} {W0 W1 : Nat} (hK : Kids (w.heap.size + 2) (fun b => w.heap.size + 2 ≤ b ∧ b < W0) wk kv1 ks) (hl : ks.length ≤ 100)
    (hfr : ∀ g, kv1.ownBlock = some g → W0 ≤ g) (hW : W0 ≤ W1) (hW1 : W1 ≤ wk.heap.size) {t : Tree} {y0 y2 : Int} {y1 : ByteArray} {ya : Option Addr} {yn yc : Nat} (hL : Lies (fun b => w.heap.size + 2 ≤ b ∧ b < W1 ∧ some b ≠ kv1.ownBlock) wk t (.agg #[.int .i64 y0, .string y1, .int .i64 y2, .slice ya yn yc])) :
    Calls Tryz.prog 125 #[.agg #[.int .i64 k, .string x, .int .i64 m, kv1], .agg #[.int .i64 y0, .string y1, .int .i64 y2, .slice ya yn yc]] wk fun e w' => ∃ a c, e = .returned (.agg #[.int .i64 k, .string x, .int .i64 m, .slice a (ks.length + 1) c]) ∧
      Kids (w.heap.size + 2) (fun b => w.heap.size + 2 ≤ b ∧ b < W1) w' (.slice a (ks.length + 1) c) (ks ++ [t]) ∧ Mid w r L ts w' s k x m kv ∧ wk.grownBy w' kv1.ownBlock := by
  have hz := h.size
  refine (rmore wk k m x kv1 ks (w.heap.size + 2) (fun b => w.heap.size + 2 ≤ b ∧ b < W1 ∧ some b ≠ kv1.ownBlock) t y0 y2 y1 ya yn yc ?_ (by omega) (by omega) hL (fun b hb => ⟨by omega, hb.2.2⟩)).mono ?_
  · obtain ⟨vs, ho, ha⟩ := hK
    exact ⟨vs, ho, ha.to (fun b hb => ⟨hb.1, by omega, fun e => by have := hfr b e.symm; omega⟩) (fun _ _ _ => rfl)⟩
  · rintro e w' ⟨kv', rfl, hK', hG, hfr'⟩
    obtain ⟨a, c, rfl⟩ := hK'.shape
    have hle : (ks ++ [t]).length = ks.length + 1 := by simp
    rw [hle] at hK' ⊢
    refine ⟨a, c, rfl, ?_, h.grown hG (fun g e => (hK.blk e).1), hG⟩
    obtain ⟨vs, ho, ha⟩ := hK'
    exact ⟨vs, ho, ha.to (fun b hb => ⟨hb.1, hb.2.1⟩) (fun _ _ _ => rfl)⟩
set_option maxRecDepth 100000 in
set_option maxHeartbeats 1000000 in
theorem rstat_while {f : Nat} (ihA : ∀ {w : World} {s : St} {q : Tree × St}, Rd w r L ts s → askedF ts f s = some q → Calls Tryz.prog 124 #[.pointer (some ⟨r, 0, none⟩)] w (Ans w r L ts q))
    (ihB : ∀ {w : World} {s : St} {q : Tree × St}, Rd w r L ts s → blockF ts f s = some q → Calls Tryz.prog 60 #[.pointer (some ⟨r, 0, none⟩)] w (Ans w r L ts q))
    (hR : Rd w r L ts s) (n1 : eqS (txt ts s) ⟨#[105, 102]⟩ = false) (y : eqS (txt ts s) ⟨#[119, 104, 105, 108, 101]⟩ = true)
    {q1 q2 : Tree × St} (h1 : askedF ts f s.next = some q1) (h2 : blockF ts f q1.2 = some q2) : Calls Tryz.prog 102 #[.pointer (some ⟨r, 0, none⟩)] w (Ans w r L ts (.node 11 empty 0 [q1.1, q2.1], q2.2)) := by
  have c24 : Tryz.prog.cellsOf 24 = 4 := by kernel_rfl
  have hM := Mid.start hR
  go_enter Tryz.func102, Tryz.ntmps102
  go_wp2_with (fail)
  refine (reat_no hM.rd ⟨#[105, 102]⟩ (by decide) n1).mono ?_
  rintro e wb ⟨rfl, hRb, hFb⟩
  replace hM := hM.step hRb hFb
  clear hRb hFb
  go_wp2_with (fail)
  refine (reat_yes hM.rd ⟨#[119, 104, 105, 108, 101]⟩ (by decide) y).mono ?_
  rintro e wb ⟨rfl, hRb, hFb⟩
  replace hM := hM.step hRb hFb
  clear hRb hFb
  obtain ⟨p0, p1, p2, p3, o0, o1, o2, o3⟩ := hM.b1
  replace hM := hM.kind 11
  go_wp2_with (fail)
  refine (ihA hM.rd h1).mono ?_
  rintro e w2 ⟨v2, rfl, hL2, hR2, hF2⟩
  obtain ⟨k2, y2, m2, _, rfl, a2, n2, c2, rfl⟩ := hL2.shape
  have hz0 := hM.size
  replace hM := (hM.step hR2 hF2).alloc (.cells #[.int .i64 k2, .string y2, .int .i64 m2, .slice a2 n2 c2] 24)
  have hb2 := Box4.new w2 (.int .i64 k2) (.string y2) (.int .i64 m2) (.slice a2 n2 c2) 24
  go_wp2_with (fail)
  refine (ihB hM.rd h2).mono ?_
  rintro e w4 ⟨v4, rfl, hL4, hR4, hF4⟩
  obtain ⟨k4, y4, m4, _, rfl, a4, n4, c4, rfl⟩ := hL4.shape
  have hz2 := hF2.size
  have hz4 := hF4.size
  rw [World.size_alloc] at hz4
  simp only [World.size_setCell] at hz0 hz2
  have hr := hR.lt
  replace hM := hM.step hR4 hF4
  have hb2' := hb2.fr hF4 (by omega)
  have hlt2 : w2.heap.size < w4.heap.size := by omega
  have hlt1 : w.heap.size + 1 < w4.heap.size := by omega
  have hlt0 : w.heap.size < w4.heap.size := by omega
  obtain ⟨p0, p1, p2, p3, o0, o1, o2, o3⟩ := hM.b1
  obtain ⟨x0, x1, x2, x3, _, _, _, _⟩ := hb2'
  have hA : Lies (fun b => w.heap.size + 2 ≤ b ∧ b < w4.heap.size) w4 q1.1 (.agg #[.int .i64 k2, .string y2, .int .i64 m2, .slice a2 n2 c2]) := (hL2.frP (x := w2.heap.size) (Q := fun b => w.heap.size + 2 ≤ b ∧ b < w2.heap.size) (Fr.al w2 (.cells #[.int .i64 k2, .string y2, .int .i64 m2, .slice a2 n2 c2] 24)) (fun b hb => ⟨hb.2, by omega⟩) (fun b hb => ⟨by simp only [World.size_setCell] at hb; omega, hb.2⟩)).frP hF4 (fun b hb => ⟨by rw [World.size_alloc]; omega, by omega⟩) (fun b hb => ⟨hb.1, by omega⟩)
  have hB : Lies (fun b => w.heap.size + 2 ≤ b ∧ b < w4.heap.size) w4 q2.1 (.agg #[.int .i64 k4, .string y4, .int .i64 m4, .slice a4 n4 c4]) := hL4.to (fun b hb => ⟨by rw [World.size_alloc] at hb; omega, hb.2⟩) (fun _ _ _ => rfl)
  have hM8 := (hM.alloc (.cells #[.int .i64 k4, .string y4, .int .i64 m4, .slice a4 n4 c4] 24)).drewN 1
  have hA8 : Lies (fun b => w.heap.size + 2 ≤ b ∧ b < ((w4.alloc (.cells #[.int .i64 k4, .string y4, .int .i64 m4, .slice a4 n4 c4] 24)).drewN 1).heap.size) ((w4.alloc (.cells #[.int .i64 k4, .string y4, .int .i64 m4, .slice a4 n4 c4] 24)).drewN 1) q1.1 (.agg #[.int .i64 k2, .string y2, .int .i64 m2, .slice a2 n2 c2]) := hA.frP (x := w4.heap.size) ((Fr.al w4 _).drewN 1) (fun b hb => ⟨hb.2, by omega⟩) (fun b hb => ⟨hb.1, by simp; omega⟩)
  have hB8 : Lies (fun b => w.heap.size + 2 ≤ b ∧ b < w4.heap.size) ((w4.alloc (.cells #[.int .i64 k4, .string y4, .int .i64 m4, .slice a4 n4 c4] 24)).drewN 1) q2.1 (.agg #[.int .i64 k4, .string y4, .int .i64 m4, .slice a4 n4 c4]) := hB.frP (x := w4.heap.size) ((Fr.al w4 _).drewN 1) (fun b hb => ⟨hb.2, by omega⟩) (fun b hb => hb)
  have hx8 := (Box4.new w4 (.int .i64 k4) (.string y4) (.int .i64 m4) (.slice a4 n4 c4) 24).drewN 1
  have hC := hM8.first (B := w.heap.size + 2) (Nat.le_refl _) hA8
  clear hA hB hA8 hL2 hL4
  go_wp2
  go_region_with (first
    | (go_at_call 125; refine (hM5.next (W0 := w4.heap.size + 1) (W1 := w4.heap.size + 1) hK5 (by simp) hfr5 (Nat.le_refl _) hs5 hB5).mono ?_; rintro e w6 ⟨a6, c6, rfl, hK6, hM6, hG6⟩; obtain ⟨q0, q1', q2', q3, t0, t1, t2, t3⟩ := hM6.b0; have HL : Hid (Lies (fun b => w.heap.size + 1 ≤ b ∧ b < w6.heap.size) w6 (.node 11 empty 0 [q1.1, q2.1]) (.agg #[.int .i64 11, .string empty, .int .i64 0, .slice a6 2 c6])) := hK6.lies (fun b hb => ⟨by omega, by have := hG6.size; omega⟩) (fun g hg => ⟨by have := (hK6.blk hg).1; omega, (hK6.blk hg).2⟩) (by simp))
    | (go_at_call 125; refine hC.mono ?_; rintro e w5 ⟨a5, c5, rfl, hK5, hM5, hG5, hfr5⟩; obtain ⟨z0, z1, z2, z3, _, _, _, _⟩ := hx8.grown hG5 (by simp); have hs5 : w4.heap.size + 1 ≤ w5.heap.size := by have := hG5.size; simpa using this
       have hK5 : Kids (w.heap.size + 2) (fun b => w.heap.size + 2 ≤ b ∧ b < w4.heap.size + 1) w5 (.slice a5 1 c5) [q1.1] := by simpa using hK5
       have hfr5 : ∀ g, (Value.slice a5 1 c5).ownBlock = some g → w4.heap.size + 1 ≤ g := by simpa using hfr5
       have hB5 : Lies (fun b => w.heap.size + 2 ≤ b ∧ b < w4.heap.size + 1 ∧ some b ≠ (Value.slice a5 1 c5).ownBlock) w5 q2.1 (.agg #[.int .i64 k4, .string y4, .int .i64 m4, .slice a4 n4 c4]) := hB8.to (fun b hb => ⟨hb.1, by omega, fun e => by have := hfr5 b e.symm; omega⟩) (fun b hb o => World.cell?_of_block (a := ⟨b, o, none⟩) (hG5.block b (by simp; omega) (by simp)))))
  all_goals
    go_wp2
    exact bodyPost_ret (v := .agg #[.int .i64 11, .string empty, .int .i64 0, .slice a6 2 c6]) (by simp [results, Tryz.results102, go_sem, q0, q1', q2', q3]) rfl
      (Ans.fin hR hM6.fr hM6.rd (Nat.lt_succ_self _) HL.out)
end
end Go.Proofs.YtchhpinmoagkhaaGreatDoor.syn
