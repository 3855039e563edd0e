/- What the reference's stat answers, once those that it calls do: the ways of one expression. -/
import Derived.Test.YtchhpinmoagkhaaGreatDoorProg
import Derived.WalkKit
import Derived.WalkLawsBesides
import Derived.Outline
import Derived.WalkSmall
import Derived.Test.YtchhpinmoagkhaaGreatDoorMRc
namespace Go.Proofs.YtchhpinmoagkhaaGreatDoor.syn
open Go.RowKit
open Go.Proofs.YtchhpinmoagkhaaGreatDoor.lexs (Tok own_shape)
set_option linter.unusedVariables false

section
variable {w : World} {r : Nat} {L : Value} {ts : List Tok} {s : St}
theorem Kids.done {w3 w5 : World} {W0 : Nat} {kv x0 x1 x2 x3 : Value} {ks : List Tree} {k m : Int} {x : ByteArray} (hK : Kids (w.heap.size + 2) (fun b => w.heap.size + 2 ≤ b ∧ b < W0) w3 kv ks) (hW : W0 ≤ w3.heap.size) (hl : ks.length ≤ 100)
    (hF : Fr r ((((w3.setCell ⟨w.heap.size + 1, 0, none⟩ x0).setCell ⟨w.heap.size + 1, 1, none⟩ x1).setCell ⟨w.heap.size + 1, 2, none⟩ x2).setCell ⟨w.heap.size + 1, 3, none⟩ x3) w5) (hr : r < w.heap.size) :
    Lies (fun b => w.heap.size + 1 ≤ b ∧ b < w5.heap.size) w5 (.node k x m ks) (.agg #[.int .i64 k, .string x, .int .i64 m, kv]) := by
  have h1 := hK.grown (Q := fun b => w.heap.size + 2 ≤ b ∧ b < W0) (Fr.put w3 (w.heap.size + 1) x0 x1 x2 x3) (.inr fun e => by have := (hK.blk e).1; omega) (fun b hb => ⟨by omega, by simp; omega⟩) (fun _ h => h)
  have hs := hF.size
  simp only [World.size_setCell] at hs
  have h2 := h1.grown (Q := fun b => w.heap.size + 2 ≤ b ∧ b < W0) hF (.inr fun e => by have := (h1.blk e).1; omega) (fun b hb => ⟨by simp only [World.size_setCell]; omega, by simp; omega⟩) (fun _ h => h)
  exact h2.lies (fun b hb => ⟨by omega, by omega⟩) (fun g hg => ⟨by have := (h2.blk hg).1; omega, (h2.blk hg).2⟩) (by omega)
set_option maxRecDepth 100000 in
set_option maxHeartbeats 1000000 in
theorem rstat_return {f : Nat} (ihE : ∀ {w : World} {s : St} {q : Tree × St}, Rd w r L ts s → exprF ts f s = some q → Calls Tryz.prog 126 #[.pointer (some ⟨r, 0, none⟩)] w (Ans w r L ts q))
    (hR : Rd w r L ts s) (n1 : eqS (txt ts s) ⟨#[105, 102]⟩ = false) (n2 : eqS (txt ts s) ⟨#[119, 104, 105, 108, 101]⟩ = false) (n3 : eqS (txt ts s) ⟨#[108, 111, 119]⟩ = false) (n4 : eqS (txt ts s) ⟨#[104, 105, 103, 104]⟩ = false) (n5 : eqS (txt ts s) ⟨#[100, 111]⟩ = false) (n6 : eqS (txt ts s) ⟨#[111, 117, 116]⟩ = false) (n7 : eqS (txt ts s) ⟨#[105, 110]⟩ = false) (y : eqS (txt ts s) ⟨#[114, 101, 116, 117, 114, 110]⟩ = true)
    {q1 : Tree × St} (h1 : exprF ts f s.next = some q1) : Calls Tryz.prog 102 #[.pointer (some ⟨r, 0, none⟩)] w (Ans w r L ts (.node 14 empty 0 [q1.1], must ts ⟨#[59]⟩ q1.2)) := by
  have c24 : Tryz.prog.cellsOf 24 = 4 := by kernel_rfl
  have hM := Mid.start hR
  have l3 : ((txt ts s).toList == [108, 111, 119]) = false := (eqS_lit _ _).symm.trans n3
  have l4 : ((txt ts s).toList == [104, 105, 103, 104]) = false := (eqS_lit _ _).symm.trans n4
  go_enter Tryz.func102, Tryz.ntmps102
  go_wp2_with (fail)
  refine (reat_no hM.rd ⟨#[105, 102]⟩ (by decide) n1).mono ?_
  rintro e wb ⟨rfl, hRb, hFb⟩
  replace hM := hM.step hRb hFb
  clear hRb hFb
  go_wp2_with (fail)
  refine (reat_no hM.rd ⟨#[119, 104, 105, 108, 101]⟩ (by decide) n2).mono ?_
  rintro e wb ⟨rfl, hRb, hFb⟩
  replace hM := hM.step hRb hFb
  clear hRb hFb
  go_wp2_with (fail)
  refine (rtext _ r L ts s hM.rd).mono ?_
  rintro e wb ⟨rfl, nd, rfl⟩
  replace hM := hM.drewN nd
  go_wp2_with (fail)
  refine (rtext _ r L ts s hM.rd).mono ?_
  rintro e wb ⟨rfl, nd', rfl⟩
  replace hM := hM.drewN nd'
  rw [World.drewN_drewN] at hM
  go_wp2_with (fail)
  refine (reat_no hM.rd ⟨#[100, 111]⟩ (by decide) n5).mono ?_
  rintro e wb ⟨rfl, hRb, hFb⟩
  replace hM := hM.step hRb hFb
  clear hRb hFb
  go_wp2_with (fail)
  refine (reat_no hM.rd ⟨#[111, 117, 116]⟩ (by decide) n6).mono ?_
  rintro e wb ⟨rfl, hRb, hFb⟩
  replace hM := hM.step hRb hFb
  clear hRb hFb
  go_wp2_with (fail)
  refine (reat_no hM.rd ⟨#[105, 110]⟩ (by decide) n7).mono ?_
  rintro e wb ⟨rfl, hRb, hFb⟩
  replace hM := hM.step hRb hFb
  clear hRb hFb
  go_wp2_with (fail)
  refine (reat_yes hM.rd ⟨#[114, 101, 116, 117, 114, 110]⟩ (by decide) y).mono ?_
  rintro e wb ⟨rfl, hRb, hFb⟩
  replace hM := hM.step hRb hFb
  clear hRb hFb
  obtain ⟨p0, p1, p2, p3, o0, o1, o2, o3⟩ := hM.b1
  replace hM := hM.kind 14
  go_wp2_with (fail)
  refine (ihE hM.rd h1).mono ?_
  rintro e w2 ⟨v2, rfl, hL2, hR2, hF2⟩
  obtain ⟨k3, y3, m3, _, rfl, a3, n3, c3, rfl⟩ := hL2.shape
  have hzk := hM.size
  have hMs := hM.step hR2 hF2
  have hz : w.heap.size + 1 < w2.heap.size := hMs.size
  obtain ⟨p0, p1, p2, p3, o0, o1, o2, o3⟩ := hMs.b1
  have hC := (hMs.alloc (.cells #[.int .i64 k3, .string y3, .int .i64 m3, .slice a3 n3 c3] 24)).first (B := w.heap.size + 2) (Nat.le_refl _) (hL2.frP (x := w2.heap.size) (Fr.al w2 _) (fun b hb => ⟨hb.2, by omega⟩) (fun b hb => ⟨by omega, by rw [World.size_alloc]; omega⟩))
  go_wp2_with (fail)
  refine hC.mono ?_
  rintro e w3 ⟨a4, c4, rfl, hK3, hM3, hG3, hfr3⟩
  obtain ⟨p0, p1, p2, p3, o0, o1, o2, o3⟩ := hM3.b1
  have hM4 := hM3.put 14 0 empty (.slice a4 1 c4)
  go_wp2_with (fail)
  refine (rmust hM4.rd ⟨#[59]⟩ (by decide)).mono ?_
  rintro e w5 ⟨rfl, hR5, hF5⟩
  have hM5 := hM4.step hR5 hF5
  obtain ⟨q0, q1', q2, q3, t0, t1, t2, t3⟩ := hM5.b0
  obtain ⟨p0, p1, p2, p3, o0, o1, o2, o3⟩ := hM5.b1
  have HL : Hid (Lies (fun b => w.heap.size + 1 ≤ b ∧ b < w5.heap.size) w5 (.node 14 empty 0 [q1.1]) (.agg #[.int .i64 14, .string empty, .int .i64 0, .slice a4 1 c4])) := hK3.done hG3.size (by simp) hF5 hR.lt
  go_wp2
  exact bodyPost_ret (v := .agg #[.int .i64 14, .string empty, .int .i64 0, .slice a4 1 c4]) (by simp [results, Tryz.results102, go_sem, q0, q1', q2, q3]) rfl
    (Ans.fin hR hM5.fr hM5.rd (Nat.lt_succ_self _) HL.out)
set_option maxRecDepth 100000 in
set_option maxHeartbeats 1000000 in
theorem rstat_do {f : Nat} (ihC : ∀ {w : World} {s : St} {q : Tree × St} (x : ByteArray), Rd w r L ts s → callF ts f x s = some q → Calls Tryz.prog 128 #[.pointer (some ⟨r, 0, none⟩), .string x] w (Ans w r L ts q))
    (hR : Rd w r L ts s) (n1 : eqS (txt ts s) ⟨#[105, 102]⟩ = false) (n2 : eqS (txt ts s) ⟨#[119, 104, 105, 108, 101]⟩ = false) (n3 : eqS (txt ts s) ⟨#[108, 111, 119]⟩ = false) (n4 : eqS (txt ts s) ⟨#[104, 105, 103, 104]⟩ = false) (y : eqS (txt ts s) ⟨#[100, 111]⟩ = true)
    {q1 : Tree × St} (h1 : callF ts f (whole ts s.next).1 (whole ts s.next).2 = some q1) : Calls Tryz.prog 102 #[.pointer (some ⟨r, 0, none⟩)] w (Ans w r L ts (.node 9 empty 0 [q1.1], must ts ⟨#[59]⟩ q1.2)) := by
  have c24 : Tryz.prog.cellsOf 24 = 4 := by kernel_rfl
  have hM := Mid.start hR
  have l3 : ((txt ts s).toList == [108, 111, 119]) = false := (eqS_lit _ _).symm.trans n3
  have l4 : ((txt ts s).toList == [104, 105, 103, 104]) = false := (eqS_lit _ _).symm.trans n4
  go_enter Tryz.func102, Tryz.ntmps102
  go_wp2_with (fail)
  refine (reat_no hM.rd ⟨#[105, 102]⟩ (by decide) n1).mono ?_
  rintro e wb ⟨rfl, hRb, hFb⟩
  replace hM := hM.step hRb hFb
  clear hRb hFb
  go_wp2_with (fail)
  refine (reat_no hM.rd ⟨#[119, 104, 105, 108, 101]⟩ (by decide) n2).mono ?_
  rintro e wb ⟨rfl, hRb, hFb⟩
  replace hM := hM.step hRb hFb
  clear hRb hFb
  go_wp2_with (fail)
  refine (rtext _ r L ts s hM.rd).mono ?_
  rintro e wb ⟨rfl, nd, rfl⟩
  replace hM := hM.drewN nd
  go_wp2_with (fail)
  refine (rtext _ r L ts s hM.rd).mono ?_
  rintro e wb ⟨rfl, nd', rfl⟩
  replace hM := hM.drewN nd'
  rw [World.drewN_drewN] at hM
  go_wp2_with (fail)
  refine (reat_yes hM.rd ⟨#[100, 111]⟩ (by decide) y).mono ?_
  rintro e wb ⟨rfl, hRb, hFb⟩
  replace hM := hM.step hRb hFb
  clear hRb hFb
  obtain ⟨p0, p1, p2, p3, o0, o1, o2, o3⟩ := hM.b1
  replace hM := hM.kind 9
  go_wp2_with (fail)
  refine (rwhole hM.rd).mono ?_
  rintro e wb ⟨rfl, hRb, hFb⟩
  replace hM := hM.step hRb hFb
  clear hRb hFb
  go_wp2_with (fail)
  refine (ihC _ hM.rd h1).mono ?_
  rintro e w2 ⟨v2, rfl, hL2, hR2, hF2⟩
  obtain ⟨k3, y3, m3, _, rfl, a3, n3, c3, rfl⟩ := hL2.shape
  have hzk := hM.size
  have hMs := hM.step hR2 hF2
  have hz : w.heap.size + 1 < w2.heap.size := hMs.size
  obtain ⟨p0, p1, p2, p3, o0, o1, o2, o3⟩ := hMs.b1
  have hC := (hMs.alloc (.cells #[.int .i64 k3, .string y3, .int .i64 m3, .slice a3 n3 c3] 24)).first (B := w.heap.size + 2) (Nat.le_refl _) (hL2.frP (x := w2.heap.size) (Fr.al w2 _) (fun b hb => ⟨hb.2, by omega⟩) (fun b hb => ⟨by omega, by rw [World.size_alloc]; omega⟩))
  go_wp2_with (fail)
  refine hC.mono ?_
  rintro e w3 ⟨a4, c4, rfl, hK3, hM3, hG3, hfr3⟩
  obtain ⟨p0, p1, p2, p3, o0, o1, o2, o3⟩ := hM3.b1
  have hM4 := hM3.put 9 0 empty (.slice a4 1 c4)
  go_wp2_with (fail)
  refine (rmust hM4.rd ⟨#[59]⟩ (by decide)).mono ?_
  rintro e w5 ⟨rfl, hR5, hF5⟩
  have hM5 := hM4.step hR5 hF5
  obtain ⟨q0, q1', q2, q3, t0, t1, t2, t3⟩ := hM5.b0
  obtain ⟨p0, p1, p2, p3, o0, o1, o2, o3⟩ := hM5.b1
  have HL : Hid (Lies (fun b => w.heap.size + 1 ≤ b ∧ b < w5.heap.size) w5 (.node 9 empty 0 [q1.1]) (.agg #[.int .i64 9, .string empty, .int .i64 0, .slice a4 1 c4])) := hK3.done hG3.size (by simp) hF5 hR.lt
  go_wp2
  exact bodyPost_ret (v := .agg #[.int .i64 9, .string empty, .int .i64 0, .slice a4 1 c4]) (by simp [results, Tryz.results102, go_sem, q0, q1', q2, q3]) rfl
    (Ans.fin hR hM5.fr hM5.rd (Nat.lt_succ_self _) HL.out)
set_option maxRecDepth 100000 in
set_option maxHeartbeats 1000000 in
theorem rstat_out {f : Nat} (ihE : ∀ {w : World} {s : St} {q : Tree × St}, Rd w r L ts s → exprF ts f s = some q → Calls Tryz.prog 126 #[.pointer (some ⟨r, 0, none⟩)] w (Ans w r L ts q))
    (hR : Rd w r L ts s) (n1 : eqS (txt ts s) ⟨#[105, 102]⟩ = false) (n2 : eqS (txt ts s) ⟨#[119, 104, 105, 108, 101]⟩ = false) (n3 : eqS (txt ts s) ⟨#[108, 111, 119]⟩ = false) (n4 : eqS (txt ts s) ⟨#[104, 105, 103, 104]⟩ = false) (n5 : eqS (txt ts s) ⟨#[100, 111]⟩ = false) (y : eqS (txt ts s) ⟨#[111, 117, 116]⟩ = true)
    {q1 : Tree × St} (h1 : exprF ts f (label ts s.next).2 = some q1) : Calls Tryz.prog 102 #[.pointer (some ⟨r, 0, none⟩)] w (Ans w r L ts (.node 12 empty (label ts s.next).1 [q1.1], must ts ⟨#[59]⟩ q1.2)) := by
  have c24 : Tryz.prog.cellsOf 24 = 4 := by kernel_rfl
  have hM := Mid.start hR
  have l3 : ((txt ts s).toList == [108, 111, 119]) = false := (eqS_lit _ _).symm.trans n3
  have l4 : ((txt ts s).toList == [104, 105, 103, 104]) = false := (eqS_lit _ _).symm.trans n4
  go_enter Tryz.func102, Tryz.ntmps102
  go_wp2_with (fail)
  refine (reat_no hM.rd ⟨#[105, 102]⟩ (by decide) n1).mono ?_
  rintro e wb ⟨rfl, hRb, hFb⟩
  replace hM := hM.step hRb hFb
  clear hRb hFb
  go_wp2_with (fail)
  refine (reat_no hM.rd ⟨#[119, 104, 105, 108, 101]⟩ (by decide) n2).mono ?_
  rintro e wb ⟨rfl, hRb, hFb⟩
  replace hM := hM.step hRb hFb
  clear hRb hFb
  go_wp2_with (fail)
  refine (rtext _ r L ts s hM.rd).mono ?_
  rintro e wb ⟨rfl, nd, rfl⟩
  replace hM := hM.drewN nd
  go_wp2_with (fail)
  refine (rtext _ r L ts s hM.rd).mono ?_
  rintro e wb ⟨rfl, nd', rfl⟩
  replace hM := hM.drewN nd'
  rw [World.drewN_drewN] at hM
  go_wp2_with (fail)
  refine (reat_no hM.rd ⟨#[100, 111]⟩ (by decide) n5).mono ?_
  rintro e wb ⟨rfl, hRb, hFb⟩
  replace hM := hM.step hRb hFb
  clear hRb hFb
  go_wp2_with (fail)
  refine (reat_yes hM.rd ⟨#[111, 117, 116]⟩ (by decide) y).mono ?_
  rintro e wb ⟨rfl, hRb, hFb⟩
  replace hM := hM.step hRb hFb
  clear hRb hFb
  obtain ⟨p0, p1, p2, p3, o0, o1, o2, o3⟩ := hM.b1
  replace hM := hM.kind 12
  go_wp2_with (fail)
  refine (rlabel hM.rd).mono ?_
  rintro e wb ⟨rfl, hRb, hFb⟩
  replace hM := hM.step hRb hFb
  clear hRb hFb
  obtain ⟨p0, p1, p2, p3, o0, o1, o2, o3⟩ := hM.b1
  replace hM := hM.num (label ts s.next).1
  go_wp2_with (fail)
  refine (ihE hM.rd h1).mono ?_
  rintro e w2 ⟨v2, rfl, hL2, hR2, hF2⟩
  obtain ⟨k3, y3, m3, _, rfl, a3, n3, c3, rfl⟩ := hL2.shape
  have hzk := hM.size
  have hMs := hM.step hR2 hF2
  have hz : w.heap.size + 1 < w2.heap.size := hMs.size
  obtain ⟨p0, p1, p2, p3, o0, o1, o2, o3⟩ := hMs.b1
  have hC := (hMs.alloc (.cells #[.int .i64 k3, .string y3, .int .i64 m3, .slice a3 n3 c3] 24)).first (B := w.heap.size + 2) (Nat.le_refl _) (hL2.frP (x := w2.heap.size) (Fr.al w2 _) (fun b hb => ⟨hb.2, by omega⟩) (fun b hb => ⟨by omega, by rw [World.size_alloc]; omega⟩))
  go_wp2_with (fail)
  refine hC.mono ?_
  rintro e w3 ⟨a4, c4, rfl, hK3, hM3, hG3, hfr3⟩
  obtain ⟨p0, p1, p2, p3, o0, o1, o2, o3⟩ := hM3.b1
  have hM4 := hM3.put 12 (label ts s.next).1 empty (.slice a4 1 c4)
  go_wp2_with (fail)
  refine (rmust hM4.rd ⟨#[59]⟩ (by decide)).mono ?_
  rintro e w5 ⟨rfl, hR5, hF5⟩
  have hM5 := hM4.step hR5 hF5
  obtain ⟨q0, q1', q2, q3, t0, t1, t2, t3⟩ := hM5.b0
  obtain ⟨p0, p1, p2, p3, o0, o1, o2, o3⟩ := hM5.b1
  have HL : Hid (Lies (fun b => w.heap.size + 1 ≤ b ∧ b < w5.heap.size) w5 (.node 12 empty (label ts s.next).1 [q1.1]) (.agg #[.int .i64 12, .string empty, .int .i64 (label ts s.next).1, .slice a4 1 c4])) := hK3.done hG3.size (by simp) hF5 hR.lt
  go_wp2
  exact bodyPost_ret (v := .agg #[.int .i64 12, .string empty, .int .i64 (label ts s.next).1, .slice a4 1 c4]) (by simp [results, Tryz.results102, go_sem, q0, q1', q2, q3]) rfl
    (Ans.fin hR hM5.fr hM5.rd (Nat.lt_succ_self _) HL.out)
set_option maxRecDepth 100000 in
set_option maxHeartbeats 1000000 in
theorem rstat_in {f : Nat} (ihP : ∀ {w : World} {s : St} {q : Tree × St} (x : ByteArray), Rd w r L ts s → placeF ts f x s = some q → Calls Tryz.prog 129 #[.pointer (some ⟨r, 0, none⟩), .string x] w (Ans w r L ts q))
    (hR : Rd w r L ts s) (n1 : eqS (txt ts s) ⟨#[105, 102]⟩ = false) (n2 : eqS (txt ts s) ⟨#[119, 104, 105, 108, 101]⟩ = false) (n3 : eqS (txt ts s) ⟨#[108, 111, 119]⟩ = false) (n4 : eqS (txt ts s) ⟨#[104, 105, 103, 104]⟩ = false) (n5 : eqS (txt ts s) ⟨#[100, 111]⟩ = false) (n6 : eqS (txt ts s) ⟨#[111, 117, 116]⟩ = false) (y : eqS (txt ts s) ⟨#[105, 110]⟩ = true)
    {q1 : Tree × St} (h1 : placeF ts f (whole ts (label ts s.next).2).1 (whole ts (label ts s.next).2).2 = some q1) : Calls Tryz.prog 102 #[.pointer (some ⟨r, 0, none⟩)] w (Ans w r L ts (.node 13 empty (label ts s.next).1 [q1.1], must ts ⟨#[59]⟩ q1.2)) := by
  have c24 : Tryz.prog.cellsOf 24 = 4 := by kernel_rfl
  have hM := Mid.start hR
  have l3 : ((txt ts s).toList == [108, 111, 119]) = false := (eqS_lit _ _).symm.trans n3
  have l4 : ((txt ts s).toList == [104, 105, 103, 104]) = false := (eqS_lit _ _).symm.trans n4
  go_enter Tryz.func102, Tryz.ntmps102
  go_wp2_with (fail)
  refine (reat_no hM.rd ⟨#[105, 102]⟩ (by decide) n1).mono ?_
  rintro e wb ⟨rfl, hRb, hFb⟩
  replace hM := hM.step hRb hFb
  clear hRb hFb
  go_wp2_with (fail)
  refine (reat_no hM.rd ⟨#[119, 104, 105, 108, 101]⟩ (by decide) n2).mono ?_
  rintro e wb ⟨rfl, hRb, hFb⟩
  replace hM := hM.step hRb hFb
  clear hRb hFb
  go_wp2_with (fail)
  refine (rtext _ r L ts s hM.rd).mono ?_
  rintro e wb ⟨rfl, nd, rfl⟩
  replace hM := hM.drewN nd
  go_wp2_with (fail)
  refine (rtext _ r L ts s hM.rd).mono ?_
  rintro e wb ⟨rfl, nd', rfl⟩
  replace hM := hM.drewN nd'
  rw [World.drewN_drewN] at hM
  go_wp2_with (fail)
  refine (reat_no hM.rd ⟨#[100, 111]⟩ (by decide) n5).mono ?_
  rintro e wb ⟨rfl, hRb, hFb⟩
  replace hM := hM.step hRb hFb
  clear hRb hFb
  go_wp2_with (fail)
  refine (reat_no hM.rd ⟨#[111, 117, 116]⟩ (by decide) n6).mono ?_
  rintro e wb ⟨rfl, hRb, hFb⟩
  replace hM := hM.step hRb hFb
  clear hRb hFb
  go_wp2_with (fail)
  refine (reat_yes hM.rd ⟨#[105, 110]⟩ (by decide) y).mono ?_
  rintro e wb ⟨rfl, hRb, hFb⟩
  replace hM := hM.step hRb hFb
  clear hRb hFb
  obtain ⟨p0, p1, p2, p3, o0, o1, o2, o3⟩ := hM.b1
  replace hM := hM.kind 13
  go_wp2_with (fail)
  refine (rlabel hM.rd).mono ?_
  rintro e wb ⟨rfl, hRb, hFb⟩
  replace hM := hM.step hRb hFb
  clear hRb hFb
  obtain ⟨p0, p1, p2, p3, o0, o1, o2, o3⟩ := hM.b1
  replace hM := hM.num (label ts s.next).1
  go_wp2_with (fail)
  refine (rwhole hM.rd).mono ?_
  rintro e wb ⟨rfl, hRb, hFb⟩
  replace hM := hM.step hRb hFb
  clear hRb hFb
  go_wp2_with (fail)
  refine (ihP _ hM.rd h1).mono ?_
  rintro e w2 ⟨v2, rfl, hL2, hR2, hF2⟩
  obtain ⟨k3, y3, m3, _, rfl, a3, n3, c3, rfl⟩ := hL2.shape
  have hzk := hM.size
  have hMs := hM.step hR2 hF2
  have hz : w.heap.size + 1 < w2.heap.size := hMs.size
  obtain ⟨p0, p1, p2, p3, o0, o1, o2, o3⟩ := hMs.b1
  have hC := (hMs.alloc (.cells #[.int .i64 k3, .string y3, .int .i64 m3, .slice a3 n3 c3] 24)).first (B := w.heap.size + 2) (Nat.le_refl _) (hL2.frP (x := w2.heap.size) (Fr.al w2 _) (fun b hb => ⟨hb.2, by omega⟩) (fun b hb => ⟨by omega, by rw [World.size_alloc]; omega⟩))
  go_wp2_with (fail)
  refine hC.mono ?_
  rintro e w3 ⟨a4, c4, rfl, hK3, hM3, hG3, hfr3⟩
  obtain ⟨p0, p1, p2, p3, o0, o1, o2, o3⟩ := hM3.b1
  have hM4 := hM3.put 13 (label ts s.next).1 empty (.slice a4 1 c4)
  go_wp2_with (fail)
  refine (rmust hM4.rd ⟨#[59]⟩ (by decide)).mono ?_
  rintro e w5 ⟨rfl, hR5, hF5⟩
  have hM5 := hM4.step hR5 hF5
  obtain ⟨q0, q1', q2, q3, t0, t1, t2, t3⟩ := hM5.b0
  obtain ⟨p0, p1, p2, p3, o0, o1, o2, o3⟩ := hM5.b1
  have HL : Hid (Lies (fun b => w.heap.size + 1 ≤ b ∧ b < w5.heap.size) w5 (.node 13 empty (label ts s.next).1 [q1.1]) (.agg #[.int .i64 13, .string empty, .int .i64 (label ts s.next).1, .slice a4 1 c4])) := hK3.done hG3.size (by simp) hF5 hR.lt
  go_wp2
  exact bodyPost_ret (v := .agg #[.int .i64 13, .string empty, .int .i64 (label ts s.next).1, .slice a4 1 c4]) (by simp [results, Tryz.results102, go_sem, q0, q1', q2, q3]) rfl
    (Ans.fin hR hM5.fr hM5.rd (Nat.lt_succ_self _) HL.out)
set_option maxRecDepth 100000 in
set_option maxHeartbeats 1000000 in
theorem rstat_low {f : Nat} (ihE : ∀ {w : World} {s : St} {q : Tree × St}, Rd w r L ts s → exprF ts f s = some q → Calls Tryz.prog 126 #[.pointer (some ⟨r, 0, none⟩)] w (Ans w r L ts q))
    (hR : Rd w r L ts s) (n1 : eqS (txt ts s) ⟨#[105, 102]⟩ = false) (n2 : eqS (txt ts s) ⟨#[119, 104, 105, 108, 101]⟩ = false) (y : eqS (txt ts s) ⟨#[108, 111, 119]⟩ = true)
    {q1 : Tree × St} (h1 : exprF ts f (must ts ⟨#[61]⟩ (name ts (label ts s).2).2) = some q1) : Calls Tryz.prog 102 #[.pointer (some ⟨r, 0, none⟩)] w (Ans w r L ts (.node 7 (name ts (label ts s).2).1 (label ts s).1 [q1.1], must ts ⟨#[59]⟩ q1.2)) := by
  have c24 : Tryz.prog.cellsOf 24 = 4 := by kernel_rfl
  have hM := Mid.start hR
  have l3 : ((txt ts s).toList == [108, 111, 119]) = true := (eqS_lit _ _).symm.trans y
  go_enter Tryz.func102, Tryz.ntmps102
  go_wp2_with (fail)
  refine (reat_no hM.rd ⟨#[105, 102]⟩ (by decide) n1).mono ?_
  rintro e wb ⟨rfl, hRb, hFb⟩
  replace hM := hM.step hRb hFb
  clear hRb hFb
  go_wp2_with (fail)
  refine (reat_no hM.rd ⟨#[119, 104, 105, 108, 101]⟩ (by decide) n2).mono ?_
  rintro e wb ⟨rfl, hRb, hFb⟩
  replace hM := hM.step hRb hFb
  clear hRb hFb
  go_wp2_with (fail)
  refine (rtext _ r L ts s hM.rd).mono ?_
  rintro e wb ⟨rfl, nd, rfl⟩
  replace hM := hM.drewN nd
  obtain ⟨p0, p1, p2, p3, o0, o1, o2, o3⟩ := hM.b1
  replace hM := hM.kind 7
  go_wp2_with (fail)
  refine (rlabel hM.rd).mono ?_
  rintro e wb ⟨rfl, hRb, hFb⟩
  replace hM := hM.step hRb hFb
  clear hRb hFb
  obtain ⟨p0, p1, p2, p3, o0, o1, o2, o3⟩ := hM.b1
  replace hM := hM.num (label ts s).1
  go_wp2_with (fail)
  refine (rname hM.rd).mono ?_
  rintro e wb ⟨rfl, hRb, hFb⟩
  replace hM := hM.step hRb hFb
  clear hRb hFb
  obtain ⟨p0, p1, p2, p3, o0, o1, o2, o3⟩ := hM.b1
  replace hM := hM.text (name ts (label ts s).2).1
  go_wp2_with (fail)
  refine (rmust hM.rd ⟨#[61]⟩ (by decide)).mono ?_
  rintro e wb ⟨rfl, hRb, hFb⟩
  replace hM := hM.step hRb hFb
  clear hRb hFb
  go_wp2_with (fail)
  refine (ihE hM.rd h1).mono ?_
  rintro e w2 ⟨v2, rfl, hL2, hR2, hF2⟩
  obtain ⟨k3, y3, m3, _, rfl, a3, n3, c3, rfl⟩ := hL2.shape
  have hzk := hM.size
  have hMs := hM.step hR2 hF2
  have hz : w.heap.size + 1 < w2.heap.size := hMs.size
  obtain ⟨p0, p1, p2, p3, o0, o1, o2, o3⟩ := hMs.b1
  have hC := (hMs.alloc (.cells #[.int .i64 k3, .string y3, .int .i64 m3, .slice a3 n3 c3] 24)).first (B := w.heap.size + 2) (Nat.le_refl _) (hL2.frP (x := w2.heap.size) (Fr.al w2 _) (fun b hb => ⟨hb.2, by omega⟩) (fun b hb => ⟨by omega, by rw [World.size_alloc]; omega⟩))
  go_wp2_with (fail)
  refine hC.mono ?_
  rintro e w3 ⟨a4, c4, rfl, hK3, hM3, hG3, hfr3⟩
  obtain ⟨p0, p1, p2, p3, o0, o1, o2, o3⟩ := hM3.b1
  have hM4 := hM3.put 7 (label ts s).1 (name ts (label ts s).2).1 (.slice a4 1 c4)
  go_wp2_with (fail)
  refine (rmust hM4.rd ⟨#[59]⟩ (by decide)).mono ?_
  rintro e w5 ⟨rfl, hR5, hF5⟩
  have hM5 := hM4.step hR5 hF5
  obtain ⟨q0, q1', q2, q3, t0, t1, t2, t3⟩ := hM5.b0
  obtain ⟨p0, p1, p2, p3, o0, o1, o2, o3⟩ := hM5.b1
  have HL : Hid (Lies (fun b => w.heap.size + 1 ≤ b ∧ b < w5.heap.size) w5 (.node 7 (name ts (label ts s).2).1 (label ts s).1 [q1.1]) (.agg #[.int .i64 7, .string (name ts (label ts s).2).1, .int .i64 (label ts s).1, .slice a4 1 c4])) := hK3.done hG3.size (by simp) hF5 hR.lt
  go_wp2
  exact bodyPost_ret (v := .agg #[.int .i64 7, .string (name ts (label ts s).2).1, .int .i64 (label ts s).1, .slice a4 1 c4]) (by simp [results, Tryz.results102, go_sem, q0, q1', q2, q3]) rfl
    (Ans.fin hR hM5.fr hM5.rd (Nat.lt_succ_self _) HL.out)
set_option maxRecDepth 100000 in
set_option maxHeartbeats 1000000 in
theorem rstat_high {f : Nat} (ihE : ∀ {w : World} {s : St} {q : Tree × St}, Rd w r L ts s → exprF ts f s = some q → Calls Tryz.prog 126 #[.pointer (some ⟨r, 0, none⟩)] w (Ans w r L ts q))
    (hR : Rd w r L ts s) (n1 : eqS (txt ts s) ⟨#[105, 102]⟩ = false) (n2 : eqS (txt ts s) ⟨#[119, 104, 105, 108, 101]⟩ = false) (n3 : eqS (txt ts s) ⟨#[108, 111, 119]⟩ = false) (y : eqS (txt ts s) ⟨#[104, 105, 103, 104]⟩ = true)
    {q1 : Tree × St} (h1 : exprF ts f (must ts ⟨#[61]⟩ (name ts (label ts s).2).2) = some q1) : Calls Tryz.prog 102 #[.pointer (some ⟨r, 0, none⟩)] w (Ans w r L ts (.node 7 (name ts (label ts s).2).1 (label ts s).1 [q1.1], must ts ⟨#[59]⟩ q1.2)) := by
  have c24 : Tryz.prog.cellsOf 24 = 4 := by kernel_rfl
  have hM := Mid.start hR
  have l3 : ((txt ts s).toList == [108, 111, 119]) = false := (eqS_lit _ _).symm.trans n3
  have l4 : ((txt ts s).toList == [104, 105, 103, 104]) = true := (eqS_lit _ _).symm.trans y
  go_enter Tryz.func102, Tryz.ntmps102
  go_wp2_with (fail)
  refine (reat_no hM.rd ⟨#[105, 102]⟩ (by decide) n1).mono ?_
  rintro e wb ⟨rfl, hRb, hFb⟩
  replace hM := hM.step hRb hFb
  clear hRb hFb
  go_wp2_with (fail)
  refine (reat_no hM.rd ⟨#[119, 104, 105, 108, 101]⟩ (by decide) n2).mono ?_
  rintro e wb ⟨rfl, hRb, hFb⟩
  replace hM := hM.step hRb hFb
  clear hRb hFb
  go_wp2_with (fail)
  refine (rtext _ r L ts s hM.rd).mono ?_
  rintro e wb ⟨rfl, nd, rfl⟩
  replace hM := hM.drewN nd
  go_wp2_with (fail)
  refine (rtext _ r L ts s hM.rd).mono ?_
  rintro e wb ⟨rfl, nd', rfl⟩
  replace hM := hM.drewN nd'
  rw [World.drewN_drewN] at hM
  obtain ⟨p0, p1, p2, p3, o0, o1, o2, o3⟩ := hM.b1
  replace hM := hM.kind 7
  go_wp2_with (fail)
  refine (rlabel hM.rd).mono ?_
  rintro e wb ⟨rfl, hRb, hFb⟩
  replace hM := hM.step hRb hFb
  clear hRb hFb
  obtain ⟨p0, p1, p2, p3, o0, o1, o2, o3⟩ := hM.b1
  replace hM := hM.num (label ts s).1
  go_wp2_with (fail)
  refine (rname hM.rd).mono ?_
  rintro e wb ⟨rfl, hRb, hFb⟩
  replace hM := hM.step hRb hFb
  clear hRb hFb
  obtain ⟨p0, p1, p2, p3, o0, o1, o2, o3⟩ := hM.b1
  replace hM := hM.text (name ts (label ts s).2).1
  go_wp2_with (fail)
  refine (rmust hM.rd ⟨#[61]⟩ (by decide)).mono ?_
  rintro e wb ⟨rfl, hRb, hFb⟩
  replace hM := hM.step hRb hFb
  clear hRb hFb
  go_wp2_with (fail)
  refine (ihE hM.rd h1).mono ?_
  rintro e w2 ⟨v2, rfl, hL2, hR2, hF2⟩
  obtain ⟨k3, y3, m3, _, rfl, a3, n3, c3, rfl⟩ := hL2.shape
  have hzk := hM.size
  have hMs := hM.step hR2 hF2
  have hz : w.heap.size + 1 < w2.heap.size := hMs.size
  obtain ⟨p0, p1, p2, p3, o0, o1, o2, o3⟩ := hMs.b1
  have hC := (hMs.alloc (.cells #[.int .i64 k3, .string y3, .int .i64 m3, .slice a3 n3 c3] 24)).first (B := w.heap.size + 2) (Nat.le_refl _) (hL2.frP (x := w2.heap.size) (Fr.al w2 _) (fun b hb => ⟨hb.2, by omega⟩) (fun b hb => ⟨by omega, by rw [World.size_alloc]; omega⟩))
  go_wp2_with (fail)
  refine hC.mono ?_
  rintro e w3 ⟨a4, c4, rfl, hK3, hM3, hG3, hfr3⟩
  obtain ⟨p0, p1, p2, p3, o0, o1, o2, o3⟩ := hM3.b1
  have hM4 := hM3.put 7 (label ts s).1 (name ts (label ts s).2).1 (.slice a4 1 c4)
  go_wp2_with (fail)
  refine (rmust hM4.rd ⟨#[59]⟩ (by decide)).mono ?_
  rintro e w5 ⟨rfl, hR5, hF5⟩
  have hM5 := hM4.step hR5 hF5
  obtain ⟨q0, q1', q2, q3, t0, t1, t2, t3⟩ := hM5.b0
  obtain ⟨p0, p1, p2, p3, o0, o1, o2, o3⟩ := hM5.b1
  have HL : Hid (Lies (fun b => w.heap.size + 1 ≤ b ∧ b < w5.heap.size) w5 (.node 7 (name ts (label ts s).2).1 (label ts s).1 [q1.1]) (.agg #[.int .i64 7, .string (name ts (label ts s).2).1, .int .i64 (label ts s).1, .slice a4 1 c4])) := hK3.done hG3.size (by simp) hF5 hR.lt
  go_wp2
  exact bodyPost_ret (v := .agg #[.int .i64 7, .string (name ts (label ts s).2).1, .int .i64 (label ts s).1, .slice a4 1 c4]) (by simp [results, Tryz.results102, go_sem, q0, q1', q2, q3]) rfl
    (Ans.fin hR hM5.fr hM5.rd (Nat.lt_succ_self _) HL.out)
end
end Go.Proofs.YtchhpinmoagkhaaGreatDoor.syn
