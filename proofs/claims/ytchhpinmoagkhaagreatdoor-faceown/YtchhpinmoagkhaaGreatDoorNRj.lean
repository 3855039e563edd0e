/- What the reference's decl answers of a procedure, once block does: a contract. -/
import Derived.Test.YtchhpinmoagkhaaGreatDoorProg
import Derived.WalkKit
import Derived.WalkLawsBesides
import Derived.Outline
import Derived.WalkSmall
import Derived.OneCell
import Derived.Deep.LoopGhost
import Derived.Test.YtchhpinmoagkhaaGreatDoorNRi
import Derived.Test.YtchhpinmoagkhaaGreatDoorNRc
namespace Go.Proofs.YtchhpinmoagkhaaGreatDoor.syn
open Go.RowKit
open Go.Proofs.YtchhpinmoagkhaaGreatDoor.lexs (Tok own_shape)
set_option linter.unusedVariables false

section
variable {w : World} {r : Nat} {L : Value} {ts : List Tok} {s : St}
theorem Mid.other {wk : World} {k m : Int} {x : ByteArray} {kv : Value} (h : Mid w r L ts wk s k x m kv) {M o : Nat} (hM : w.heap.size + 2 ≤ M) (v : Value) : Mid w r L ts (wk.setCell ⟨M, o, none⟩ v) s k x m kv :=
  ⟨h.rd.setNew (by have := h.old; omega) (fun e => by have := h.own _ e; omega) _, h.fr.setNew (by omega) _, h.b0.other (by omega) _, h.b1.other (by omega) _, h.old, h.own⟩
theorem MK.of {wk : World} {k m : Int} {x : ByteArray} {kv : Value} {ks : List Tree} {W0 : Nat} (h : Mid w r L ts wk s k x m kv) (hK : Kids (w.heap.size + 2) (fun b => w.heap.size + 2 ≤ b ∧ b < W0 ∧ some b ≠ kv.ownBlock) wk kv ks) (hW : W0 ≤ wk.heap.size) : MK w r L ts wk s k x m kv ks :=
  ⟨h, by
    obtain ⟨vs, ho, ha⟩ := hK
    exact ⟨vs, ho, ha.to (fun b hb => ⟨hb.1, by omega, hb.2.2⟩) (fun _ _ _ => rfl)⟩⟩
/-- the parameters -/
theorem paramsL_len {f : Nat} : ∀ {ks : List Tree} {s : St} {p : List Tree × St}, paramsL ts f ks s = some p → p.1.length ≤ ks.length + f := by
  induction f with
  | zero => intro ks s p h; unfold paramsL at h; simp at h
  | succ f ih =>
    intro ks s p h
    unfold paramsL at h
    split at h
    · have := ih h
      rw [List.length_append] at this
      simp at this
      omega
    · simp only [Option.some.injEq] at h
      rw [← h]
      simp
set_option maxRecDepth 100000 in
set_option maxHeartbeats 2000000 in
theorem rdecl_pub {f : Nat} (hf : f ≤ 100000) (ihB : ∀ {w : World} {s : St} {q : Tree × St}, Rd w r L ts s → blockF ts f s = some q → Calls Tryz.prog 60 #[.pointer (some ⟨r, 0, none⟩)] w (Ans w r L ts q))
    (hR : Rd w r L ts s) (hpub : eqS (txt ts s) ⟨#[112, 117, 98]⟩ = true) (hp : eqS (txt ts s.next) ⟨#[112, 114, 111, 99]⟩ = true) {nx : ByteArray} {s1 : St} (hnm : name ts s.next.next = (nx, s1)) (hc : eqS (txt ts (must ts ⟨#[40]⟩ s1)) ⟨#[41]⟩ = false)
    {p : List Tree × St} (hpar : paramsL ts f [] (must ts ⟨#[40]⟩ s1) = some p) {b : Tree × St} (hbl : blockF ts f (givesS ts (must ts ⟨#[41]⟩ p.2)) = some b) :
    Calls Tryz.prog 26 #[.pointer (some ⟨r, 0, none⟩)] w (Ans w r L ts (.node 4 nx (givesN ts 2 (must ts ⟨#[41]⟩ p.2)) (p.1 ++ [b.1]), b.2)) := by
  have c24 : Tryz.prog.cellsOf 24 = 4 := by kernel_rfl
  obtain ⟨i0, hi, hz0, hz1', hz2⟩ := info_parts nodeInfo
  have hM := MK.start hR
  have HP : Hid (paramsL ts f [] (must ts ⟨#[40]⟩ s1) = some p) := hpar
  have hc' : ((txt ts (must ts ⟨#[40]⟩ s1)).toList == [41]) = false := (eqS_lit _ _).symm.trans hc
  go_enter Tryz.func26, Tryz.ntmps26
  go_wp2_with (fail)
  refine (reat_yes hM.mid.rd ⟨#[112, 117, 98]⟩ (by decide) hpub).mono ?_
  rintro e wb ⟨rfl, hRb, hFb⟩
  replace hM := hM.step hRb hFb
  clear hRb hFb
  obtain ⟨p0, p1, p2, p3, o0, o1, o2, o3⟩ := hM.mid.b1
  replace hM := hM.num 2
  go_wp2_with (fail)
  refine (reat_yes hM.mid.rd ⟨#[112, 114, 111, 99]⟩ (by decide) hp).mono ?_
  rintro e wb ⟨rfl, hRb, hFb⟩
  replace hM := hM.step hRb hFb
  clear hRb hFb
  obtain ⟨p0, p1, p2, p3, o0, o1, o2, o3⟩ := hM.mid.b1
  replace hM := hM.kind 4
  have hN := rname hM.mid.rd
  rw [hnm] at hN
  go_wp2_with (fail)
  refine hN.mono ?_
  rintro e wb ⟨rfl, hRb, hFb⟩
  replace hM := hM.step hRb hFb
  clear hRb hFb hN
  obtain ⟨p0, p1, p2, p3, o0, o1, o2, o3⟩ := hM.mid.b1
  replace hM := hM.text nx
  go_wp2_with (fail)
  refine (rmust hM.mid.rd ⟨#[40]⟩ (by decide)).mono ?_
  rintro e wb ⟨rfl, hRb, hFb⟩
  replace hM := hM.step hRb hFb
  clear hRb hFb
  go_wp2_with (fail)
  refine (rtext _ r L ts _ hM.mid.rd).mono ?_
  rintro e wb ⟨rfl, nd, rfl⟩
  replace hM := hM.drewN nd
  go_wp2
  go_loopg [6] f (fun k mv wr => ∃ (ks : List Tree) (s3 : St) (kv : Value) (mb : Bool), mv = .bool mb ∧ Hid (if mb then paramsL ts k ks s3 = some p else (ks, s3) = p) ∧ ks.length + k ≤ f ∧ MK w r L ts wr s3 4 nx 2 kv ks)
  case atStart => exact ⟨[], _, .slice none 0 0, true, rfl, HP.out, by simp, hM⟩
  case round =>
    obtain ⟨ks, s3, kv, mb, rfl, HL, hkf, hM⟩ := hrel
    cases mb
    case false =>
      have hpe : (ks, s3) = p := by have := HL.out; simpa using this
      subst hpe
      obtain ⟨a, c, rfl⟩ := hM.kids.shape
      go_wp2_with (fail)
      have hlk : ks.length ≤ 100000 := by omega
      refine (rmust hM.mid.rd ⟨#[41]⟩ (by decide)).mono ?_
      rintro e wb ⟨rfl, hRb, hFb⟩
      replace hM := hM.step hRb hFb
      clear hRb hFb
      have h01 := label_01 ts (must ts ⟨#[41]⟩ s3)
      go_wp2_with (fail)
      refine (rlabel hM.mid.rd).mono ?_
      rintro e wb ⟨rfl, hRb, hFb⟩
      replace hM := hM.step hRb hFb
      clear hRb hFb
      obtain ⟨p0, p1, p2, p3, o0, o1, o2, o3⟩ := hM.mid.b1
      replace hM := hM.num (2 + (label ts (must ts ⟨#[41]⟩ s3)).1)
      go_wp2_with (fail)
      cases hg : eqS (txt ts (label ts (must ts ⟨#[41]⟩ s3)).2) ⟨#[103, 105, 118, 101, 115]⟩
      case false =>
        have hgN : givesN ts 2 (must ts ⟨#[41]⟩ s3) = 2 + (label ts (must ts ⟨#[41]⟩ s3)).1 := by unfold givesN; rw [hg, if_neg (by decide)] <;> simp
        have hgS : givesS ts (must ts ⟨#[41]⟩ s3) = (label ts (must ts ⟨#[41]⟩ s3)).2 := by unfold givesS; rw [hg, if_neg (by decide)]
        rw [hgS] at hbl
        refine (reat_no hM.mid.rd ⟨#[103, 105, 118, 101, 115]⟩ (by decide) hg).mono ?_
        rintro e wb ⟨rfl, hRb, hFb⟩
        replace hM := hM.step hRb hFb
        clear hRb hFb
        go_wp2_with (fail)
        refine (ihB hM.mid.rd hbl).mono ?_
        rintro e wc ⟨vc, rfl, hLc, hRc, hFc⟩
        obtain ⟨kc, yc, mc, _, rfl, ac, nc, cc, rfl⟩ := hLc.shape
        have hkb : ∀ g, (Value.slice a ks.length c).ownBlock = some g → w.heap.size + 2 ≤ g ∧ g < _ := fun g hg => hM.kids.blk hg
        have hsM := hM.mid.size
        replace hM := hM.step hRc hFc
        have hzz := hM.mid.size
        have hLc' : Lies (fun b => w.heap.size + 2 ≤ b ∧ b < (wc.alloc (.cells #[.int .i64 kc, .string yc, .int .i64 mc, .slice ac nc cc] 24)).heap.size ∧ some b ≠ (Value.slice a ks.length c).ownBlock) (wc.alloc (.cells #[.int .i64 kc, .string yc, .int .i64 mc, .slice ac nc cc] 24)) b.1 (.agg #[.int .i64 kc, .string yc, .int .i64 mc, .slice ac nc cc]) :=
          hLc.frP (x := wc.heap.size) (Fr.al wc _) (fun b hb => ⟨hb.2, by omega⟩) (fun b hb => ⟨by omega, by rw [World.size_alloc]; omega, fun e => by have := (hkb b e.symm).2; omega⟩)
        replace hM := hM.alloc (.cells #[.int .i64 kc, .string yc, .int .i64 mc, .slice ac nc cc] 24)
        obtain ⟨p0, p1, p2, p3, o0, o1, o2, o3⟩ := hM.mid.b1
        obtain ⟨vs, ho, ha⟩ := hM.kids
        have HA : Hid (AllLie (fun b => w.heap.size + 2 ≤ b ∧ b < (wc.alloc (.cells #[.int .i64 kc, .string yc, .int .i64 mc, .slice ac nc cc] 24)).heap.size ∧ some b ≠ (Value.slice a ks.length c).ownBlock) (wc.alloc (.cells #[.int .i64 kc, .string yc, .int .i64 mc, .slice ac nc cc] 24)) ks vs ∧ Lies (fun b => w.heap.size + 2 ≤ b ∧ b < (wc.alloc (.cells #[.int .i64 kc, .string yc, .int .i64 mc, .slice ac nc cc] 24)).heap.size ∧ some b ≠ (Value.slice a ks.length c).ownBlock) (wc.alloc (.cells #[.int .i64 kc, .string yc, .int .i64 mc, .slice ac nc cc] 24)) b.1 (.agg #[.int .i64 kc, .string yc, .int .i64 mc, .slice ac nc cc])) := ⟨ha, hLc'⟩
        clear ha hLc hLc' hkb
        go_wp2_with (at_builtin; refine wpList_append_fresh rfl (.tmp 92) (.tmp 94) 22 rfl (w.heap.size + 2) 24 i0 (.agg #[.int .i64 0, .string ⟨#[]⟩, .int .i64 0, .slice none 0 0]) 4 56 Tryz.underlying22 hi hz0 hz1' hz2 rfl (by decide) _ _ _ rfl (ho.alloc _) ⟨wc.heap.size + 1, 0, none⟩ 1 1 [.int .i64 kc, .string yc, .int .i64 mc, .slice ac nc cc] rfl rfl (cells4_new _ _ _ _ _ _ _ (by simp)) (by intro u hu; simp at hu; rcases hu with rfl | rfl | rfl | rfl <;> rfl) (by unfold maxLen; omega) (by omega) (by simp <;> omega) (by decide) ?_; intro v' w4 hown' hgrow hfr; obtain ⟨a4, c4, rfl, hmx', _⟩ := own_shape hown'; obtain ⟨g0, g1, g2, g3, l0, l1, l2, l3⟩ := (hM.mid.b1.alloc _).grown hgrow hM.nb; have hM4 := MK.pushed (q := (.int .i64 kc, .string yc, .int .i64 mc, .slice ac nc cc)) (t := b.1) hM.mid ho HA.out.1 HA.out.2 hown' hgrow (by rcases hfr with e | e; exact .inl e; exact .inr (by rw [e]; simp)); obtain ⟨q0, q1', q2', q3, t0, t1, t2, t3⟩ := (hM.mid.b0.alloc _).grown hgrow (fun e => by have := (hM.kids.blk e).1; omega))
        refine bodyPost_ret (v := .agg #[.int .i64 4, .string nx, .int .i64 (2 + (label ts (must ts ⟨#[41]⟩ s3)).1), .slice a4 (ks.length + 1) c4]) (by simp [results, Tryz.results26, go_sem, q0, q1', q2', q3]) rfl ?_
        rw [hgN]
        exact hM4.fin hR (by rw [List.length_append]; simp; omega)
      case true =>
        have hgN : givesN ts 2 (must ts ⟨#[41]⟩ s3) = 2 + (label ts (must ts ⟨#[41]⟩ s3)).1 + 4 + 4 * (label ts (label ts (must ts ⟨#[41]⟩ s3)).2.next).1 := by unfold givesN; rw [hg, if_pos rfl] <;> simp
        have hgS : givesS ts (must ts ⟨#[41]⟩ s3) = (label ts (label ts (must ts ⟨#[41]⟩ s3)).2.next).2 := by unfold givesS; rw [hg, if_pos rfl]
        rw [hgS] at hbl
        have h02 := label_01 ts (label ts (must ts ⟨#[41]⟩ s3)).2.next
        refine (reat_yes hM.mid.rd ⟨#[103, 105, 118, 101, 115]⟩ (by decide) hg).mono ?_
        rintro e wb ⟨rfl, hRb, hFb⟩
        replace hM := hM.step hRb hFb
        clear hRb hFb
        go_wp2_with (fail)
        refine (rlabel hM.mid.rd).mono ?_
        rintro e wb ⟨rfl, hRb, hFb⟩
        replace hM := hM.step hRb hFb
        clear hRb hFb
        obtain ⟨p0, p1, p2, p3, o0, o1, o2, o3⟩ := hM.mid.b1
        replace hM := hM.num (2 + (label ts (must ts ⟨#[41]⟩ s3)).1 + 4 + 4 * (label ts (label ts (must ts ⟨#[41]⟩ s3)).2.next).1)
        go_wp2_with (fail)
        refine (ihB hM.mid.rd hbl).mono ?_
        rintro e wc ⟨vc, rfl, hLc, hRc, hFc⟩
        obtain ⟨kc, yc, mc, _, rfl, ac, nc, cc, rfl⟩ := hLc.shape
        have hkb : ∀ g, (Value.slice a ks.length c).ownBlock = some g → w.heap.size + 2 ≤ g ∧ g < _ := fun g hg => hM.kids.blk hg
        have hsM := hM.mid.size
        replace hM := hM.step hRc hFc
        have hzz := hM.mid.size
        have hLc' : Lies (fun b => w.heap.size + 2 ≤ b ∧ b < (wc.alloc (.cells #[.int .i64 kc, .string yc, .int .i64 mc, .slice ac nc cc] 24)).heap.size ∧ some b ≠ (Value.slice a ks.length c).ownBlock) (wc.alloc (.cells #[.int .i64 kc, .string yc, .int .i64 mc, .slice ac nc cc] 24)) b.1 (.agg #[.int .i64 kc, .string yc, .int .i64 mc, .slice ac nc cc]) :=
          hLc.frP (x := wc.heap.size) (Fr.al wc _) (fun b hb => ⟨hb.2, by omega⟩) (fun b hb => ⟨by omega, by rw [World.size_alloc]; omega, fun e => by have := (hkb b e.symm).2; omega⟩)
        replace hM := hM.alloc (.cells #[.int .i64 kc, .string yc, .int .i64 mc, .slice ac nc cc] 24)
        obtain ⟨p0, p1, p2, p3, o0, o1, o2, o3⟩ := hM.mid.b1
        obtain ⟨vs, ho, ha⟩ := hM.kids
        have HA : Hid (AllLie (fun b => w.heap.size + 2 ≤ b ∧ b < (wc.alloc (.cells #[.int .i64 kc, .string yc, .int .i64 mc, .slice ac nc cc] 24)).heap.size ∧ some b ≠ (Value.slice a ks.length c).ownBlock) (wc.alloc (.cells #[.int .i64 kc, .string yc, .int .i64 mc, .slice ac nc cc] 24)) ks vs ∧ Lies (fun b => w.heap.size + 2 ≤ b ∧ b < (wc.alloc (.cells #[.int .i64 kc, .string yc, .int .i64 mc, .slice ac nc cc] 24)).heap.size ∧ some b ≠ (Value.slice a ks.length c).ownBlock) (wc.alloc (.cells #[.int .i64 kc, .string yc, .int .i64 mc, .slice ac nc cc] 24)) b.1 (.agg #[.int .i64 kc, .string yc, .int .i64 mc, .slice ac nc cc])) := ⟨ha, hLc'⟩
        clear ha hLc hLc' hkb
        go_wp2_with (at_builtin; refine wpList_append_fresh rfl (.tmp 92) (.tmp 94) 22 rfl (w.heap.size + 2) 24 i0 (.agg #[.int .i64 0, .string ⟨#[]⟩, .int .i64 0, .slice none 0 0]) 4 56 Tryz.underlying22 hi hz0 hz1' hz2 rfl (by decide) _ _ _ rfl (ho.alloc _) ⟨wc.heap.size + 1, 0, none⟩ 1 1 [.int .i64 kc, .string yc, .int .i64 mc, .slice ac nc cc] rfl rfl (cells4_new _ _ _ _ _ _ _ (by simp)) (by intro u hu; simp at hu; rcases hu with rfl | rfl | rfl | rfl <;> rfl) (by unfold maxLen; omega) (by omega) (by simp <;> omega) (by decide) ?_; intro v' w4 hown' hgrow hfr; obtain ⟨a4, c4, rfl, hmx', _⟩ := own_shape hown'; obtain ⟨g0, g1, g2, g3, l0, l1, l2, l3⟩ := (hM.mid.b1.alloc _).grown hgrow hM.nb; have hM4 := MK.pushed (q := (.int .i64 kc, .string yc, .int .i64 mc, .slice ac nc cc)) (t := b.1) hM.mid ho HA.out.1 HA.out.2 hown' hgrow (by rcases hfr with e | e; exact .inl e; exact .inr (by rw [e]; simp)); obtain ⟨q0, q1', q2', q3, t0, t1, t2, t3⟩ := (hM.mid.b0.alloc _).grown hgrow (fun e => by have := (hM.kids.blk e).1; omega))
        refine bodyPost_ret (v := .agg #[.int .i64 4, .string nx, .int .i64 (2 + (label ts (must ts ⟨#[41]⟩ s3)).1 + 4 + 4 * (label ts (label ts (must ts ⟨#[41]⟩ s3)).2.next).1), .slice a4 (ks.length + 1) c4]) (by simp [results, Tryz.results26, go_sem, q0, q1', q2', q3]) rfl ?_
        rw [hgN]
        exact hM4.fin hR (by rw [List.length_append]; simp; omega)
    case true =>
      cases gk with
      | zero => have := HL.out; simp [paramsL] at this
      | succ k =>
        have hq2 : paramsL ts (k + 1) ks s3 = some p := by have := HL.out; simpa using this
        clear HL
        unfold paramsL at hq2
        obtain ⟨a, c, rfl⟩ := hM.kids.shape
        have hnr := hM.nr
        have hkb : ∀ g, (Value.slice a ks.length c).ownBlock = some g → w.heap.size + 2 ≤ g ∧ g < wr.heap.size := fun g hg => hM.kids.blk hg
        have hK := hM.kids
        have hMm := hM.mid.alloc (.cells #[.int .i64 5, .string empty, .int .i64 0, .slice none 0 0] 24)
        have hsz := hM.mid.size
        have hold := hM.mid.old
        have hbp := Box4.new wr (.int .i64 5) (.string empty) (.int .i64 0) (.slice none 0 0) 24
        go_wp2_with (fail)
        refine (rlabel hMm.rd).mono ?_
        rintro e w2 ⟨rfl, hR2, hF2⟩
        have s2' := hF2.size
        rw [World.size_alloc] at s2'
        have hMm2 := (hMm.step hR2 hF2)
        have hbp2 := hbp.fr hF2 (by omega)
        obtain ⟨x0, x1, x2, x3, u0, u1, u2, u3⟩ := hbp2
        have hMm3 := hMm2.other (o := 2) (show w.heap.size + 2 ≤ wr.heap.size by omega) (.int .i64 (label ts s3).1)
        have hbp3 := (hbp.fr hF2 (by omega)).set2 (.int .i64 (label ts s3).1)
        go_wp2_with (fail)
        refine (rname hMm3.rd).mono ?_
        rintro e w3 ⟨rfl, hR3, hF3⟩
        have s3' := hF3.size
        simp only [World.size_setCell] at s3'
        have hMm4 := (hMm3.step hR3 hF3).other (o := 1) (show w.heap.size + 2 ≤ wr.heap.size by omega) (.string (name ts (label ts s3).2).1)
        have hbp4' := hbp3.fr hF3 (by omega)
        obtain ⟨x0, x1, x2, x3, u0, u1, u2, u3⟩ := hbp4'
        have hbp4 := (hbp3.fr hF3 (by omega)).set1 (.string (name ts (label ts s3).2).1)
        have hkr : (Value.slice a ks.length c).ownBlock ≠ some wr.heap.size := fun e => by have := (hkb _ e).2; omega
        have k1 := hK.grown (Q := fun b => w.heap.size + 2 ≤ b ∧ b < wr.heap.size ∧ some b ≠ (Value.slice a ks.length c).ownBlock) (World.grownBy_alloc wr (.cells #[.int .i64 5, .string empty, .int .i64 0, .slice none 0 0] 24) none) (by cases h : (Value.slice a ks.length c).ownBlock <;> simp) (fun b hb => ⟨hb.2.1, by simp⟩) (fun _ h => h)
        have k2 := k1.grown (Q := fun b => w.heap.size + 2 ≤ b ∧ b < wr.heap.size ∧ some b ≠ (Value.slice a ks.length c).ownBlock) hF2 (.inr hnr) (fun b hb => ⟨by rw [World.size_alloc]; omega, by simp; omega⟩) (fun _ h => h)
        have k3 := k2.grown (Q := fun b => w.heap.size + 2 ≤ b ∧ b < wr.heap.size ∧ some b ≠ (Value.slice a ks.length c).ownBlock) ((Fr.refl wr.heap.size w2).set 2 (.int .i64 (label ts s3).1)) (.inr hkr) (fun b hb => ⟨by omega, by simp; omega⟩) (fun _ h => h)
        have k4 := k3.grown (Q := fun b => w.heap.size + 2 ≤ b ∧ b < wr.heap.size ∧ some b ≠ (Value.slice a ks.length c).ownBlock) hF3 (.inr hnr) (fun b hb => ⟨by rw [World.size_setCell]; omega, by simp; omega⟩) (fun _ h => h)
        have k5 := k4.grown (Q := fun b => w.heap.size + 2 ≤ b ∧ b < wr.heap.size ∧ some b ≠ (Value.slice a ks.length c).ownBlock) ((Fr.refl wr.heap.size w3).set 1 (.string (name ts (label ts s3).2).1)) (.inr hkr) (fun b hb => ⟨by omega, by simp; omega⟩) (fun _ h => h)
        replace hM := MK.of hMm4 k5 (by rw [World.size_setCell]; omega)
        clear k1 k2 k3 k4 k5 hK
        have hlk : ks.length ≤ 100000 := by omega
        have hz3 : w.heap.size + 1 < w3.heap.size := by omega
        have hz4 : wr.heap.size < w3.heap.size := by omega
        obtain ⟨p0, p1, p2, p3, o0, o1, o2, o3⟩ := (hMm3.step hR3 hF3).b1
        obtain ⟨vs, ho, ha⟩ := hM.kids
        have HA : Hid (AllLie (fun b => w.heap.size + 2 ≤ b ∧ b < (w3.setCell ⟨wr.heap.size, 1, none⟩ (.string (name ts (label ts s3).2).1)).heap.size ∧ some b ≠ (Value.slice a ks.length c).ownBlock) (w3.setCell ⟨wr.heap.size, 1, none⟩ (.string (name ts (label ts s3).2).1)) ks vs) := ha
        clear ha
        go_wp2_with (at_builtin; refine wpList_append_fresh rfl (.tmp 64) (.tmp 66) 22 rfl (w.heap.size + 2) 24 i0 (.agg #[.int .i64 0, .string ⟨#[]⟩, .int .i64 0, .slice none 0 0]) 4 56 Tryz.underlying22 hi hz0 hz1' hz2 rfl (by decide) _ _ _ rfl (ho.alloc _) ⟨w3.heap.size, 0, none⟩ 1 1 [.int .i64 5, .string (name ts (label ts s3).2).1, .int .i64 (label ts s3).1, .slice none 0 0] rfl rfl (cells4_new _ _ _ _ _ _ _ (by simp)) (by intro u hu; simp at hu; rcases hu with rfl | rfl | rfl | rfl <;> rfl) (by unfold maxLen; omega) (by omega) (by simp <;> omega) (by decide) ?_; intro v' w4 hown' hgrow hfr; obtain ⟨a4, c4, rfl, hmx', _⟩ := own_shape hown'; obtain ⟨g0, g1, g2, g3, l0, l1, l2, l3⟩ := (hM.mid.b1.alloc _).grown hgrow hM.nb; have hM4 := MK.pushed (q := (.int .i64 5, .string (name ts (label ts s3).2).1, .int .i64 (label ts s3).1, .slice none 0 0)) (t := .node 5 (name ts (label ts s3).2).1 (label ts s3).1 []) hM.mid ho HA.out (Lies.leaf _ _ _ _ _) hown' hgrow (by rcases hfr with e | e; exact .inl e; exact .inr (by rw [e]; simp)))
        cases hcm : eqS (txt ts (name ts (label ts s3).2).2) ⟨#[44]⟩
        case true =>
          rw [hcm, if_pos rfl] at hq2
          refine (reat_yes hM4.mid.rd ⟨#[44]⟩ (by decide) hcm).mono ?_
          rintro e w6 ⟨rfl, hR6, hF6⟩
          have hM6 := hM4.step hR6 hF6
          go_wp2
          go_roundg k
          case measure => exact Nat.lt_succ_self _
          case rel => exact ⟨ks ++ [.node 5 (name ts (label ts s3).2).1 (label ts s3).1 []], _, .slice a4 (ks.length + 1) c4, true, rfl, (if_pos rfl).mpr hq2, by rw [List.length_append]; simp; omega, hM6⟩
        case false =>
          rw [hcm, if_neg (by decide)] at hq2
          simp only [Option.some.injEq] at hq2
          refine (reat_no hM4.mid.rd ⟨#[44]⟩ (by decide) hcm).mono ?_
          rintro e w6 ⟨rfl, hR6, hF6⟩
          have hM6 := hM4.step hR6 hF6
          go_wp2
          go_roundg k
          case measure => exact Nat.lt_succ_self _
          case rel => exact ⟨ks ++ [.node 5 (name ts (label ts s3).2).1 (label ts s3).1 []], _, .slice a4 (ks.length + 1) c4, false, rfl, (if_neg (by decide)).mpr hq2, by rw [List.length_append]; simp; omega, hM6⟩
set_option maxRecDepth 100000 in
set_option maxHeartbeats 2000000 in
theorem rdecl_pub0 {f : Nat} (hf : f ≤ 100000) (ihB : ∀ {w : World} {s : St} {q : Tree × St}, Rd w r L ts s → blockF ts f s = some q → Calls Tryz.prog 60 #[.pointer (some ⟨r, 0, none⟩)] w (Ans w r L ts q))
    (hR : Rd w r L ts s) (hpub : eqS (txt ts s) ⟨#[112, 117, 98]⟩ = true) (hp : eqS (txt ts s.next) ⟨#[112, 114, 111, 99]⟩ = true) {nx : ByteArray} {s1 : St} (hnm : name ts s.next.next = (nx, s1)) (hc : eqS (txt ts (must ts ⟨#[40]⟩ s1)) ⟨#[41]⟩ = true)
    {p : List Tree × St} (hpar : ([], must ts ⟨#[40]⟩ s1) = p) {b : Tree × St} (hbl : blockF ts f (givesS ts (must ts ⟨#[41]⟩ p.2)) = some b) :
    Calls Tryz.prog 26 #[.pointer (some ⟨r, 0, none⟩)] w (Ans w r L ts (.node 4 nx (givesN ts 2 (must ts ⟨#[41]⟩ p.2)) (p.1 ++ [b.1]), b.2)) := by
  have c24 : Tryz.prog.cellsOf 24 = 4 := by kernel_rfl
  obtain ⟨i0, hi, hz0, hz1', hz2⟩ := info_parts nodeInfo
  have hM := MK.start hR
  have hc' : ((txt ts (must ts ⟨#[40]⟩ s1)).toList == [41]) = true := (eqS_lit _ _).symm.trans hc
  go_enter Tryz.func26, Tryz.ntmps26
  go_wp2_with (fail)
  refine (reat_yes hM.mid.rd ⟨#[112, 117, 98]⟩ (by decide) hpub).mono ?_
  rintro e wb ⟨rfl, hRb, hFb⟩
  replace hM := hM.step hRb hFb
  clear hRb hFb
  obtain ⟨p0, p1, p2, p3, o0, o1, o2, o3⟩ := hM.mid.b1
  replace hM := hM.num 2
  go_wp2_with (fail)
  refine (reat_yes hM.mid.rd ⟨#[112, 114, 111, 99]⟩ (by decide) hp).mono ?_
  rintro e wb ⟨rfl, hRb, hFb⟩
  replace hM := hM.step hRb hFb
  clear hRb hFb
  obtain ⟨p0, p1, p2, p3, o0, o1, o2, o3⟩ := hM.mid.b1
  replace hM := hM.kind 4
  have hN := rname hM.mid.rd
  rw [hnm] at hN
  go_wp2_with (fail)
  refine hN.mono ?_
  rintro e wb ⟨rfl, hRb, hFb⟩
  replace hM := hM.step hRb hFb
  clear hRb hFb hN
  obtain ⟨p0, p1, p2, p3, o0, o1, o2, o3⟩ := hM.mid.b1
  replace hM := hM.text nx
  go_wp2_with (fail)
  refine (rmust hM.mid.rd ⟨#[40]⟩ (by decide)).mono ?_
  rintro e wb ⟨rfl, hRb, hFb⟩
  replace hM := hM.step hRb hFb
  clear hRb hFb
  go_wp2_with (fail)
  refine (rtext _ r L ts _ hM.mid.rd).mono ?_
  rintro e wb ⟨rfl, nd, rfl⟩
  replace hM := hM.drewN nd
  obtain ⟨ks, s3, kv, hks, hkf, hM⟩ : ∃ ks s3 kv, (ks, s3) = p ∧ ks.length ≤ f ∧ MK w r L ts _ s3 4 nx 2 kv ks := ⟨[], _, _, hpar, by simp, hM⟩
  clear hpar
  subst hks
  obtain ⟨a, c, rfl⟩ := hM.kids.shape
  go_wp2_with (fail)
  have hlk : ks.length ≤ 100000 := by omega
  refine (rmust hM.mid.rd ⟨#[41]⟩ (by decide)).mono ?_
  rintro e wb ⟨rfl, hRb, hFb⟩
  replace hM := hM.step hRb hFb
  clear hRb hFb
  have h01 := label_01 ts (must ts ⟨#[41]⟩ s3)
  go_wp2_with (fail)
  refine (rlabel hM.mid.rd).mono ?_
  rintro e wb ⟨rfl, hRb, hFb⟩
  replace hM := hM.step hRb hFb
  clear hRb hFb
  obtain ⟨p0, p1, p2, p3, o0, o1, o2, o3⟩ := hM.mid.b1
  replace hM := hM.num (2 + (label ts (must ts ⟨#[41]⟩ s3)).1)
  go_wp2_with (fail)
  cases hg : eqS (txt ts (label ts (must ts ⟨#[41]⟩ s3)).2) ⟨#[103, 105, 118, 101, 115]⟩
  case false =>
    have hgN : givesN ts 2 (must ts ⟨#[41]⟩ s3) = 2 + (label ts (must ts ⟨#[41]⟩ s3)).1 := by unfold givesN; rw [hg, if_neg (by decide)] <;> simp
    have hgS : givesS ts (must ts ⟨#[41]⟩ s3) = (label ts (must ts ⟨#[41]⟩ s3)).2 := by unfold givesS; rw [hg, if_neg (by decide)]
    rw [hgS] at hbl
    refine (reat_no hM.mid.rd ⟨#[103, 105, 118, 101, 115]⟩ (by decide) hg).mono ?_
    rintro e wb ⟨rfl, hRb, hFb⟩
    replace hM := hM.step hRb hFb
    clear hRb hFb
    go_wp2_with (fail)
    refine (ihB hM.mid.rd hbl).mono ?_
    rintro e wc ⟨vc, rfl, hLc, hRc, hFc⟩
    obtain ⟨kc, yc, mc, _, rfl, ac, nc, cc, rfl⟩ := hLc.shape
    have hkb : ∀ g, (Value.slice a ks.length c).ownBlock = some g → w.heap.size + 2 ≤ g ∧ g < _ := fun g hg => hM.kids.blk hg
    have hsM := hM.mid.size
    replace hM := hM.step hRc hFc
    have hzz := hM.mid.size
    have hLc' : Lies (fun b => w.heap.size + 2 ≤ b ∧ b < (wc.alloc (.cells #[.int .i64 kc, .string yc, .int .i64 mc, .slice ac nc cc] 24)).heap.size ∧ some b ≠ (Value.slice a ks.length c).ownBlock) (wc.alloc (.cells #[.int .i64 kc, .string yc, .int .i64 mc, .slice ac nc cc] 24)) b.1 (.agg #[.int .i64 kc, .string yc, .int .i64 mc, .slice ac nc cc]) :=
      hLc.frP (x := wc.heap.size) (Fr.al wc _) (fun b hb => ⟨hb.2, by omega⟩) (fun b hb => ⟨by omega, by rw [World.size_alloc]; omega, fun e => by have := (hkb b e.symm).2; omega⟩)
    replace hM := hM.alloc (.cells #[.int .i64 kc, .string yc, .int .i64 mc, .slice ac nc cc] 24)
    obtain ⟨p0, p1, p2, p3, o0, o1, o2, o3⟩ := hM.mid.b1
    obtain ⟨vs, ho, ha⟩ := hM.kids
    have HA : Hid (AllLie (fun b => w.heap.size + 2 ≤ b ∧ b < (wc.alloc (.cells #[.int .i64 kc, .string yc, .int .i64 mc, .slice ac nc cc] 24)).heap.size ∧ some b ≠ (Value.slice a ks.length c).ownBlock) (wc.alloc (.cells #[.int .i64 kc, .string yc, .int .i64 mc, .slice ac nc cc] 24)) ks vs ∧ Lies (fun b => w.heap.size + 2 ≤ b ∧ b < (wc.alloc (.cells #[.int .i64 kc, .string yc, .int .i64 mc, .slice ac nc cc] 24)).heap.size ∧ some b ≠ (Value.slice a ks.length c).ownBlock) (wc.alloc (.cells #[.int .i64 kc, .string yc, .int .i64 mc, .slice ac nc cc] 24)) b.1 (.agg #[.int .i64 kc, .string yc, .int .i64 mc, .slice ac nc cc])) := ⟨ha, hLc'⟩
    clear ha hLc hLc' hkb
    go_wp2_with (at_builtin; refine wpList_append_fresh rfl (.tmp 92) (.tmp 94) 22 rfl (w.heap.size + 2) 24 i0 (.agg #[.int .i64 0, .string ⟨#[]⟩, .int .i64 0, .slice none 0 0]) 4 56 Tryz.underlying22 hi hz0 hz1' hz2 rfl (by decide) _ _ _ rfl (ho.alloc _) ⟨wc.heap.size + 1, 0, none⟩ 1 1 [.int .i64 kc, .string yc, .int .i64 mc, .slice ac nc cc] rfl rfl (cells4_new _ _ _ _ _ _ _ (by simp)) (by intro u hu; simp at hu; rcases hu with rfl | rfl | rfl | rfl <;> rfl) (by unfold maxLen; omega) (by omega) (by simp <;> omega) (by decide) ?_; intro v' w4 hown' hgrow hfr; obtain ⟨a4, c4, rfl, hmx', _⟩ := own_shape hown'; obtain ⟨g0, g1, g2, g3, l0, l1, l2, l3⟩ := (hM.mid.b1.alloc _).grown hgrow hM.nb; have hM4 := MK.pushed (q := (.int .i64 kc, .string yc, .int .i64 mc, .slice ac nc cc)) (t := b.1) hM.mid ho HA.out.1 HA.out.2 hown' hgrow (by rcases hfr with e | e; exact .inl e; exact .inr (by rw [e]; simp)); obtain ⟨q0, q1', q2', q3, t0, t1, t2, t3⟩ := (hM.mid.b0.alloc _).grown hgrow (fun e => by have := (hM.kids.blk e).1; omega))
    refine bodyPost_ret (v := .agg #[.int .i64 4, .string nx, .int .i64 (2 + (label ts (must ts ⟨#[41]⟩ s3)).1), .slice a4 (ks.length + 1) c4]) (by simp [results, Tryz.results26, go_sem, q0, q1', q2', q3]) rfl ?_
    rw [hgN]
    exact hM4.fin hR (by rw [List.length_append]; simp; omega)
  case true =>
    have hgN : givesN ts 2 (must ts ⟨#[41]⟩ s3) = 2 + (label ts (must ts ⟨#[41]⟩ s3)).1 + 4 + 4 * (label ts (label ts (must ts ⟨#[41]⟩ s3)).2.next).1 := by unfold givesN; rw [hg, if_pos rfl] <;> simp
    have hgS : givesS ts (must ts ⟨#[41]⟩ s3) = (label ts (label ts (must ts ⟨#[41]⟩ s3)).2.next).2 := by unfold givesS; rw [hg, if_pos rfl]
    rw [hgS] at hbl
    have h02 := label_01 ts (label ts (must ts ⟨#[41]⟩ s3)).2.next
    refine (reat_yes hM.mid.rd ⟨#[103, 105, 118, 101, 115]⟩ (by decide) hg).mono ?_
    rintro e wb ⟨rfl, hRb, hFb⟩
    replace hM := hM.step hRb hFb
    clear hRb hFb
    go_wp2_with (fail)
    refine (rlabel hM.mid.rd).mono ?_
    rintro e wb ⟨rfl, hRb, hFb⟩
    replace hM := hM.step hRb hFb
    clear hRb hFb
    obtain ⟨p0, p1, p2, p3, o0, o1, o2, o3⟩ := hM.mid.b1
    replace hM := hM.num (2 + (label ts (must ts ⟨#[41]⟩ s3)).1 + 4 + 4 * (label ts (label ts (must ts ⟨#[41]⟩ s3)).2.next).1)
    go_wp2_with (fail)
    refine (ihB hM.mid.rd hbl).mono ?_
    rintro e wc ⟨vc, rfl, hLc, hRc, hFc⟩
    obtain ⟨kc, yc, mc, _, rfl, ac, nc, cc, rfl⟩ := hLc.shape
    have hkb : ∀ g, (Value.slice a ks.length c).ownBlock = some g → w.heap.size + 2 ≤ g ∧ g < _ := fun g hg => hM.kids.blk hg
    have hsM := hM.mid.size
    replace hM := hM.step hRc hFc
    have hzz := hM.mid.size
    have hLc' : Lies (fun b => w.heap.size + 2 ≤ b ∧ b < (wc.alloc (.cells #[.int .i64 kc, .string yc, .int .i64 mc, .slice ac nc cc] 24)).heap.size ∧ some b ≠ (Value.slice a ks.length c).ownBlock) (wc.alloc (.cells #[.int .i64 kc, .string yc, .int .i64 mc, .slice ac nc cc] 24)) b.1 (.agg #[.int .i64 kc, .string yc, .int .i64 mc, .slice ac nc cc]) :=
      hLc.frP (x := wc.heap.size) (Fr.al wc _) (fun b hb => ⟨hb.2, by omega⟩) (fun b hb => ⟨by omega, by rw [World.size_alloc]; omega, fun e => by have := (hkb b e.symm).2; omega⟩)
    replace hM := hM.alloc (.cells #[.int .i64 kc, .string yc, .int .i64 mc, .slice ac nc cc] 24)
    obtain ⟨p0, p1, p2, p3, o0, o1, o2, o3⟩ := hM.mid.b1
    obtain ⟨vs, ho, ha⟩ := hM.kids
    have HA : Hid (AllLie (fun b => w.heap.size + 2 ≤ b ∧ b < (wc.alloc (.cells #[.int .i64 kc, .string yc, .int .i64 mc, .slice ac nc cc] 24)).heap.size ∧ some b ≠ (Value.slice a ks.length c).ownBlock) (wc.alloc (.cells #[.int .i64 kc, .string yc, .int .i64 mc, .slice ac nc cc] 24)) ks vs ∧ Lies (fun b => w.heap.size + 2 ≤ b ∧ b < (wc.alloc (.cells #[.int .i64 kc, .string yc, .int .i64 mc, .slice ac nc cc] 24)).heap.size ∧ some b ≠ (Value.slice a ks.length c).ownBlock) (wc.alloc (.cells #[.int .i64 kc, .string yc, .int .i64 mc, .slice ac nc cc] 24)) b.1 (.agg #[.int .i64 kc, .string yc, .int .i64 mc, .slice ac nc cc])) := ⟨ha, hLc'⟩
    clear ha hLc hLc' hkb
    go_wp2_with (at_builtin; refine wpList_append_fresh rfl (.tmp 92) (.tmp 94) 22 rfl (w.heap.size + 2) 24 i0 (.agg #[.int .i64 0, .string ⟨#[]⟩, .int .i64 0, .slice none 0 0]) 4 56 Tryz.underlying22 hi hz0 hz1' hz2 rfl (by decide) _ _ _ rfl (ho.alloc _) ⟨wc.heap.size + 1, 0, none⟩ 1 1 [.int .i64 kc, .string yc, .int .i64 mc, .slice ac nc cc] rfl rfl (cells4_new _ _ _ _ _ _ _ (by simp)) (by intro u hu; simp at hu; rcases hu with rfl | rfl | rfl | rfl <;> rfl) (by unfold maxLen; omega) (by omega) (by simp <;> omega) (by decide) ?_; intro v' w4 hown' hgrow hfr; obtain ⟨a4, c4, rfl, hmx', _⟩ := own_shape hown'; obtain ⟨g0, g1, g2, g3, l0, l1, l2, l3⟩ := (hM.mid.b1.alloc _).grown hgrow hM.nb; have hM4 := MK.pushed (q := (.int .i64 kc, .string yc, .int .i64 mc, .slice ac nc cc)) (t := b.1) hM.mid ho HA.out.1 HA.out.2 hown' hgrow (by rcases hfr with e | e; exact .inl e; exact .inr (by rw [e]; simp)); obtain ⟨q0, q1', q2', q3, t0, t1, t2, t3⟩ := (hM.mid.b0.alloc _).grown hgrow (fun e => by have := (hM.kids.blk e).1; omega))
    refine bodyPost_ret (v := .agg #[.int .i64 4, .string nx, .int .i64 (2 + (label ts (must ts ⟨#[41]⟩ s3)).1 + 4 + 4 * (label ts (label ts (must ts ⟨#[41]⟩ s3)).2.next).1), .slice a4 (ks.length + 1) c4]) (by simp [results, Tryz.results26, go_sem, q0, q1', q2', q3]) rfl ?_
    rw [hgN]
    exact hM4.fin hR (by rw [List.length_append]; simp; omega)
set_option maxRecDepth 100000 in
set_option maxHeartbeats 2000000 in
theorem rdecl_own {f : Nat} (hf : f ≤ 100000) (ihB : ∀ {w : World} {s : St} {q : Tree × St}, Rd w r L ts s → blockF ts f s = some q → Calls Tryz.prog 60 #[.pointer (some ⟨r, 0, none⟩)] w (Ans w r L ts q))
    (hR : Rd w r L ts s) (hpub : eqS (txt ts s) ⟨#[112, 117, 98]⟩ = false) (hp : eqS (txt ts s) ⟨#[112, 114, 111, 99]⟩ = true) {nx : ByteArray} {s1 : St} (hnm : name ts s.next = (nx, s1)) (hc : eqS (txt ts (must ts ⟨#[40]⟩ s1)) ⟨#[41]⟩ = false)
    {p : List Tree × St} (hpar : paramsL ts f [] (must ts ⟨#[40]⟩ s1) = some p) {b : Tree × St} (hbl : blockF ts f (givesS ts (must ts ⟨#[41]⟩ p.2)) = some b) :
    Calls Tryz.prog 26 #[.pointer (some ⟨r, 0, none⟩)] w (Ans w r L ts (.node 4 nx (givesN ts 0 (must ts ⟨#[41]⟩ p.2)) (p.1 ++ [b.1]), b.2)) := by
  have c24 : Tryz.prog.cellsOf 24 = 4 := by kernel_rfl
  obtain ⟨i0, hi, hz0, hz1', hz2⟩ := info_parts nodeInfo
  have hM := MK.start hR
  have HP : Hid (paramsL ts f [] (must ts ⟨#[40]⟩ s1) = some p) := hpar
  have hc' : ((txt ts (must ts ⟨#[40]⟩ s1)).toList == [41]) = false := (eqS_lit _ _).symm.trans hc
  go_enter Tryz.func26, Tryz.ntmps26
  go_wp2_with (fail)
  refine (reat_no hM.mid.rd ⟨#[112, 117, 98]⟩ (by decide) hpub).mono ?_
  rintro e wb ⟨rfl, hRb, hFb⟩
  replace hM := hM.step hRb hFb
  clear hRb hFb
  go_wp2_with (fail)
  refine (reat_yes hM.mid.rd ⟨#[112, 114, 111, 99]⟩ (by decide) hp).mono ?_
  rintro e wb ⟨rfl, hRb, hFb⟩
  replace hM := hM.step hRb hFb
  clear hRb hFb
  obtain ⟨p0, p1, p2, p3, o0, o1, o2, o3⟩ := hM.mid.b1
  replace hM := hM.kind 4
  have hN := rname hM.mid.rd
  rw [hnm] at hN
  go_wp2_with (fail)
  refine hN.mono ?_
  rintro e wb ⟨rfl, hRb, hFb⟩
  replace hM := hM.step hRb hFb
  clear hRb hFb hN
  obtain ⟨p0, p1, p2, p3, o0, o1, o2, o3⟩ := hM.mid.b1
  replace hM := hM.text nx
  go_wp2_with (fail)
  refine (rmust hM.mid.rd ⟨#[40]⟩ (by decide)).mono ?_
  rintro e wb ⟨rfl, hRb, hFb⟩
  replace hM := hM.step hRb hFb
  clear hRb hFb
  go_wp2_with (fail)
  refine (rtext _ r L ts _ hM.mid.rd).mono ?_
  rintro e wb ⟨rfl, nd, rfl⟩
  replace hM := hM.drewN nd
  go_wp2
  go_loopg [6] f (fun k mv wr => ∃ (ks : List Tree) (s3 : St) (kv : Value) (mb : Bool), mv = .bool mb ∧ Hid (if mb then paramsL ts k ks s3 = some p else (ks, s3) = p) ∧ ks.length + k ≤ f ∧ MK w r L ts wr s3 4 nx 0 kv ks)
  case atStart => exact ⟨[], _, .slice none 0 0, true, rfl, HP.out, by simp, hM⟩
  case round =>
    obtain ⟨ks, s3, kv, mb, rfl, HL, hkf, hM⟩ := hrel
    cases mb
    case false =>
      have hpe : (ks, s3) = p := by have := HL.out; simpa using this
      subst hpe
      obtain ⟨a, c, rfl⟩ := hM.kids.shape
      go_wp2_with (fail)
      have hlk : ks.length ≤ 100000 := by omega
      refine (rmust hM.mid.rd ⟨#[41]⟩ (by decide)).mono ?_
      rintro e wb ⟨rfl, hRb, hFb⟩
      replace hM := hM.step hRb hFb
      clear hRb hFb
      have h01 := label_01 ts (must ts ⟨#[41]⟩ s3)
      go_wp2_with (fail)
      refine (rlabel hM.mid.rd).mono ?_
      rintro e wb ⟨rfl, hRb, hFb⟩
      replace hM := hM.step hRb hFb
      clear hRb hFb
      obtain ⟨p0, p1, p2, p3, o0, o1, o2, o3⟩ := hM.mid.b1
      replace hM := hM.num ((label ts (must ts ⟨#[41]⟩ s3)).1)
      go_wp2_with (fail)
      cases hg : eqS (txt ts (label ts (must ts ⟨#[41]⟩ s3)).2) ⟨#[103, 105, 118, 101, 115]⟩
      case false =>
        have hgN : givesN ts 0 (must ts ⟨#[41]⟩ s3) = (label ts (must ts ⟨#[41]⟩ s3)).1 := by unfold givesN; rw [hg, if_neg (by decide)] <;> simp
        have hgS : givesS ts (must ts ⟨#[41]⟩ s3) = (label ts (must ts ⟨#[41]⟩ s3)).2 := by unfold givesS; rw [hg, if_neg (by decide)]
        rw [hgS] at hbl
        refine (reat_no hM.mid.rd ⟨#[103, 105, 118, 101, 115]⟩ (by decide) hg).mono ?_
        rintro e wb ⟨rfl, hRb, hFb⟩
        replace hM := hM.step hRb hFb
        clear hRb hFb
        go_wp2_with (fail)
        refine (ihB hM.mid.rd hbl).mono ?_
        rintro e wc ⟨vc, rfl, hLc, hRc, hFc⟩
        obtain ⟨kc, yc, mc, _, rfl, ac, nc, cc, rfl⟩ := hLc.shape
        have hkb : ∀ g, (Value.slice a ks.length c).ownBlock = some g → w.heap.size + 2 ≤ g ∧ g < _ := fun g hg => hM.kids.blk hg
        have hsM := hM.mid.size
        replace hM := hM.step hRc hFc
        have hzz := hM.mid.size
        have hLc' : Lies (fun b => w.heap.size + 2 ≤ b ∧ b < (wc.alloc (.cells #[.int .i64 kc, .string yc, .int .i64 mc, .slice ac nc cc] 24)).heap.size ∧ some b ≠ (Value.slice a ks.length c).ownBlock) (wc.alloc (.cells #[.int .i64 kc, .string yc, .int .i64 mc, .slice ac nc cc] 24)) b.1 (.agg #[.int .i64 kc, .string yc, .int .i64 mc, .slice ac nc cc]) :=
          hLc.frP (x := wc.heap.size) (Fr.al wc _) (fun b hb => ⟨hb.2, by omega⟩) (fun b hb => ⟨by omega, by rw [World.size_alloc]; omega, fun e => by have := (hkb b e.symm).2; omega⟩)
        replace hM := hM.alloc (.cells #[.int .i64 kc, .string yc, .int .i64 mc, .slice ac nc cc] 24)
        obtain ⟨p0, p1, p2, p3, o0, o1, o2, o3⟩ := hM.mid.b1
        obtain ⟨vs, ho, ha⟩ := hM.kids
        have HA : Hid (AllLie (fun b => w.heap.size + 2 ≤ b ∧ b < (wc.alloc (.cells #[.int .i64 kc, .string yc, .int .i64 mc, .slice ac nc cc] 24)).heap.size ∧ some b ≠ (Value.slice a ks.length c).ownBlock) (wc.alloc (.cells #[.int .i64 kc, .string yc, .int .i64 mc, .slice ac nc cc] 24)) ks vs ∧ Lies (fun b => w.heap.size + 2 ≤ b ∧ b < (wc.alloc (.cells #[.int .i64 kc, .string yc, .int .i64 mc, .slice ac nc cc] 24)).heap.size ∧ some b ≠ (Value.slice a ks.length c).ownBlock) (wc.alloc (.cells #[.int .i64 kc, .string yc, .int .i64 mc, .slice ac nc cc] 24)) b.1 (.agg #[.int .i64 kc, .string yc, .int .i64 mc, .slice ac nc cc])) := ⟨ha, hLc'⟩
        clear ha hLc hLc' hkb
        go_wp2_with (at_builtin; refine wpList_append_fresh rfl (.tmp 92) (.tmp 94) 22 rfl (w.heap.size + 2) 24 i0 (.agg #[.int .i64 0, .string ⟨#[]⟩, .int .i64 0, .slice none 0 0]) 4 56 Tryz.underlying22 hi hz0 hz1' hz2 rfl (by decide) _ _ _ rfl (ho.alloc _) ⟨wc.heap.size + 1, 0, none⟩ 1 1 [.int .i64 kc, .string yc, .int .i64 mc, .slice ac nc cc] rfl rfl (cells4_new _ _ _ _ _ _ _ (by simp)) (by intro u hu; simp at hu; rcases hu with rfl | rfl | rfl | rfl <;> rfl) (by unfold maxLen; omega) (by omega) (by simp <;> omega) (by decide) ?_; intro v' w4 hown' hgrow hfr; obtain ⟨a4, c4, rfl, hmx', _⟩ := own_shape hown'; obtain ⟨g0, g1, g2, g3, l0, l1, l2, l3⟩ := (hM.mid.b1.alloc _).grown hgrow hM.nb; have hM4 := MK.pushed (q := (.int .i64 kc, .string yc, .int .i64 mc, .slice ac nc cc)) (t := b.1) hM.mid ho HA.out.1 HA.out.2 hown' hgrow (by rcases hfr with e | e; exact .inl e; exact .inr (by rw [e]; simp)); obtain ⟨q0, q1', q2', q3, t0, t1, t2, t3⟩ := (hM.mid.b0.alloc _).grown hgrow (fun e => by have := (hM.kids.blk e).1; omega))
        refine bodyPost_ret (v := .agg #[.int .i64 4, .string nx, .int .i64 ((label ts (must ts ⟨#[41]⟩ s3)).1), .slice a4 (ks.length + 1) c4]) (by simp [results, Tryz.results26, go_sem, q0, q1', q2', q3]) rfl ?_
        rw [hgN]
        exact hM4.fin hR (by rw [List.length_append]; simp; omega)
      case true =>
        have hgN : givesN ts 0 (must ts ⟨#[41]⟩ s3) = (label ts (must ts ⟨#[41]⟩ s3)).1 + 4 + 4 * (label ts (label ts (must ts ⟨#[41]⟩ s3)).2.next).1 := by unfold givesN; rw [hg, if_pos rfl] <;> simp
        have hgS : givesS ts (must ts ⟨#[41]⟩ s3) = (label ts (label ts (must ts ⟨#[41]⟩ s3)).2.next).2 := by unfold givesS; rw [hg, if_pos rfl]
        rw [hgS] at hbl
        have h02 := label_01 ts (label ts (must ts ⟨#[41]⟩ s3)).2.next
        refine (reat_yes hM.mid.rd ⟨#[103, 105, 118, 101, 115]⟩ (by decide) hg).mono ?_
        rintro e wb ⟨rfl, hRb, hFb⟩
        replace hM := hM.step hRb hFb
        clear hRb hFb
        go_wp2_with (fail)
        refine (rlabel hM.mid.rd).mono ?_
        rintro e wb ⟨rfl, hRb, hFb⟩
        replace hM := hM.step hRb hFb
        clear hRb hFb
        obtain ⟨p0, p1, p2, p3, o0, o1, o2, o3⟩ := hM.mid.b1
        replace hM := hM.num ((label ts (must ts ⟨#[41]⟩ s3)).1 + 4 + 4 * (label ts (label ts (must ts ⟨#[41]⟩ s3)).2.next).1)
        go_wp2_with (fail)
        refine (ihB hM.mid.rd hbl).mono ?_
        rintro e wc ⟨vc, rfl, hLc, hRc, hFc⟩
        obtain ⟨kc, yc, mc, _, rfl, ac, nc, cc, rfl⟩ := hLc.shape
        have hkb : ∀ g, (Value.slice a ks.length c).ownBlock = some g → w.heap.size + 2 ≤ g ∧ g < _ := fun g hg => hM.kids.blk hg
        have hsM := hM.mid.size
        replace hM := hM.step hRc hFc
        have hzz := hM.mid.size
        have hLc' : Lies (fun b => w.heap.size + 2 ≤ b ∧ b < (wc.alloc (.cells #[.int .i64 kc, .string yc, .int .i64 mc, .slice ac nc cc] 24)).heap.size ∧ some b ≠ (Value.slice a ks.length c).ownBlock) (wc.alloc (.cells #[.int .i64 kc, .string yc, .int .i64 mc, .slice ac nc cc] 24)) b.1 (.agg #[.int .i64 kc, .string yc, .int .i64 mc, .slice ac nc cc]) :=
          hLc.frP (x := wc.heap.size) (Fr.al wc _) (fun b hb => ⟨hb.2, by omega⟩) (fun b hb => ⟨by omega, by rw [World.size_alloc]; omega, fun e => by have := (hkb b e.symm).2; omega⟩)
        replace hM := hM.alloc (.cells #[.int .i64 kc, .string yc, .int .i64 mc, .slice ac nc cc] 24)
        obtain ⟨p0, p1, p2, p3, o0, o1, o2, o3⟩ := hM.mid.b1
        obtain ⟨vs, ho, ha⟩ := hM.kids
        have HA : Hid (AllLie (fun b => w.heap.size + 2 ≤ b ∧ b < (wc.alloc (.cells #[.int .i64 kc, .string yc, .int .i64 mc, .slice ac nc cc] 24)).heap.size ∧ some b ≠ (Value.slice a ks.length c).ownBlock) (wc.alloc (.cells #[.int .i64 kc, .string yc, .int .i64 mc, .slice ac nc cc] 24)) ks vs ∧ Lies (fun b => w.heap.size + 2 ≤ b ∧ b < (wc.alloc (.cells #[.int .i64 kc, .string yc, .int .i64 mc, .slice ac nc cc] 24)).heap.size ∧ some b ≠ (Value.slice a ks.length c).ownBlock) (wc.alloc (.cells #[.int .i64 kc, .string yc, .int .i64 mc, .slice ac nc cc] 24)) b.1 (.agg #[.int .i64 kc, .string yc, .int .i64 mc, .slice ac nc cc])) := ⟨ha, hLc'⟩
        clear ha hLc hLc' hkb
        go_wp2_with (at_builtin; refine wpList_append_fresh rfl (.tmp 92) (.tmp 94) 22 rfl (w.heap.size + 2) 24 i0 (.agg #[.int .i64 0, .string ⟨#[]⟩, .int .i64 0, .slice none 0 0]) 4 56 Tryz.underlying22 hi hz0 hz1' hz2 rfl (by decide) _ _ _ rfl (ho.alloc _) ⟨wc.heap.size + 1, 0, none⟩ 1 1 [.int .i64 kc, .string yc, .int .i64 mc, .slice ac nc cc] rfl rfl (cells4_new _ _ _ _ _ _ _ (by simp)) (by intro u hu; simp at hu; rcases hu with rfl | rfl | rfl | rfl <;> rfl) (by unfold maxLen; omega) (by omega) (by simp <;> omega) (by decide) ?_; intro v' w4 hown' hgrow hfr; obtain ⟨a4, c4, rfl, hmx', _⟩ := own_shape hown'; obtain ⟨g0, g1, g2, g3, l0, l1, l2, l3⟩ := (hM.mid.b1.alloc _).grown hgrow hM.nb; have hM4 := MK.pushed (q := (.int .i64 kc, .string yc, .int .i64 mc, .slice ac nc cc)) (t := b.1) hM.mid ho HA.out.1 HA.out.2 hown' hgrow (by rcases hfr with e | e; exact .inl e; exact .inr (by rw [e]; simp)); obtain ⟨q0, q1', q2', q3, t0, t1, t2, t3⟩ := (hM.mid.b0.alloc _).grown hgrow (fun e => by have := (hM.kids.blk e).1; omega))
        refine bodyPost_ret (v := .agg #[.int .i64 4, .string nx, .int .i64 ((label ts (must ts ⟨#[41]⟩ s3)).1 + 4 + 4 * (label ts (label ts (must ts ⟨#[41]⟩ s3)).2.next).1), .slice a4 (ks.length + 1) c4]) (by simp [results, Tryz.results26, go_sem, q0, q1', q2', q3]) rfl ?_
        rw [hgN]
        exact hM4.fin hR (by rw [List.length_append]; simp; omega)
    case true =>
      cases gk with
      | zero => have := HL.out; simp [paramsL] at this
      | succ k =>
        have hq2 : paramsL ts (k + 1) ks s3 = some p := by have := HL.out; simpa using this
        clear HL
        unfold paramsL at hq2
        obtain ⟨a, c, rfl⟩ := hM.kids.shape
        have hnr := hM.nr
        have hkb : ∀ g, (Value.slice a ks.length c).ownBlock = some g → w.heap.size + 2 ≤ g ∧ g < wr.heap.size := fun g hg => hM.kids.blk hg
        have hK := hM.kids
        have hMm := hM.mid.alloc (.cells #[.int .i64 5, .string empty, .int .i64 0, .slice none 0 0] 24)
        have hsz := hM.mid.size
        have hold := hM.mid.old
        have hbp := Box4.new wr (.int .i64 5) (.string empty) (.int .i64 0) (.slice none 0 0) 24
        go_wp2_with (fail)
        refine (rlabel hMm.rd).mono ?_
        rintro e w2 ⟨rfl, hR2, hF2⟩
        have s2' := hF2.size
        rw [World.size_alloc] at s2'
        have hMm2 := (hMm.step hR2 hF2)
        have hbp2 := hbp.fr hF2 (by omega)
        obtain ⟨x0, x1, x2, x3, u0, u1, u2, u3⟩ := hbp2
        have hMm3 := hMm2.other (o := 2) (show w.heap.size + 2 ≤ wr.heap.size by omega) (.int .i64 (label ts s3).1)
        have hbp3 := (hbp.fr hF2 (by omega)).set2 (.int .i64 (label ts s3).1)
        go_wp2_with (fail)
        refine (rname hMm3.rd).mono ?_
        rintro e w3 ⟨rfl, hR3, hF3⟩
        have s3' := hF3.size
        simp only [World.size_setCell] at s3'
        have hMm4 := (hMm3.step hR3 hF3).other (o := 1) (show w.heap.size + 2 ≤ wr.heap.size by omega) (.string (name ts (label ts s3).2).1)
        have hbp4' := hbp3.fr hF3 (by omega)
        obtain ⟨x0, x1, x2, x3, u0, u1, u2, u3⟩ := hbp4'
        have hbp4 := (hbp3.fr hF3 (by omega)).set1 (.string (name ts (label ts s3).2).1)
        have hkr : (Value.slice a ks.length c).ownBlock ≠ some wr.heap.size := fun e => by have := (hkb _ e).2; omega
        have k1 := hK.grown (Q := fun b => w.heap.size + 2 ≤ b ∧ b < wr.heap.size ∧ some b ≠ (Value.slice a ks.length c).ownBlock) (World.grownBy_alloc wr (.cells #[.int .i64 5, .string empty, .int .i64 0, .slice none 0 0] 24) none) (by cases h : (Value.slice a ks.length c).ownBlock <;> simp) (fun b hb => ⟨hb.2.1, by simp⟩) (fun _ h => h)
        have k2 := k1.grown (Q := fun b => w.heap.size + 2 ≤ b ∧ b < wr.heap.size ∧ some b ≠ (Value.slice a ks.length c).ownBlock) hF2 (.inr hnr) (fun b hb => ⟨by rw [World.size_alloc]; omega, by simp; omega⟩) (fun _ h => h)
        have k3 := k2.grown (Q := fun b => w.heap.size + 2 ≤ b ∧ b < wr.heap.size ∧ some b ≠ (Value.slice a ks.length c).ownBlock) ((Fr.refl wr.heap.size w2).set 2 (.int .i64 (label ts s3).1)) (.inr hkr) (fun b hb => ⟨by omega, by simp; omega⟩) (fun _ h => h)
        have k4 := k3.grown (Q := fun b => w.heap.size + 2 ≤ b ∧ b < wr.heap.size ∧ some b ≠ (Value.slice a ks.length c).ownBlock) hF3 (.inr hnr) (fun b hb => ⟨by rw [World.size_setCell]; omega, by simp; omega⟩) (fun _ h => h)
        have k5 := k4.grown (Q := fun b => w.heap.size + 2 ≤ b ∧ b < wr.heap.size ∧ some b ≠ (Value.slice a ks.length c).ownBlock) ((Fr.refl wr.heap.size w3).set 1 (.string (name ts (label ts s3).2).1)) (.inr hkr) (fun b hb => ⟨by omega, by simp; omega⟩) (fun _ h => h)
        replace hM := MK.of hMm4 k5 (by rw [World.size_setCell]; omega)
        clear k1 k2 k3 k4 k5 hK
        have hlk : ks.length ≤ 100000 := by omega
        have hz3 : w.heap.size + 1 < w3.heap.size := by omega
        have hz4 : wr.heap.size < w3.heap.size := by omega
        obtain ⟨p0, p1, p2, p3, o0, o1, o2, o3⟩ := (hMm3.step hR3 hF3).b1
        obtain ⟨vs, ho, ha⟩ := hM.kids
        have HA : Hid (AllLie (fun b => w.heap.size + 2 ≤ b ∧ b < (w3.setCell ⟨wr.heap.size, 1, none⟩ (.string (name ts (label ts s3).2).1)).heap.size ∧ some b ≠ (Value.slice a ks.length c).ownBlock) (w3.setCell ⟨wr.heap.size, 1, none⟩ (.string (name ts (label ts s3).2).1)) ks vs) := ha
        clear ha
        go_wp2_with (at_builtin; refine wpList_append_fresh rfl (.tmp 64) (.tmp 66) 22 rfl (w.heap.size + 2) 24 i0 (.agg #[.int .i64 0, .string ⟨#[]⟩, .int .i64 0, .slice none 0 0]) 4 56 Tryz.underlying22 hi hz0 hz1' hz2 rfl (by decide) _ _ _ rfl (ho.alloc _) ⟨w3.heap.size, 0, none⟩ 1 1 [.int .i64 5, .string (name ts (label ts s3).2).1, .int .i64 (label ts s3).1, .slice none 0 0] rfl rfl (cells4_new _ _ _ _ _ _ _ (by simp)) (by intro u hu; simp at hu; rcases hu with rfl | rfl | rfl | rfl <;> rfl) (by unfold maxLen; omega) (by omega) (by simp <;> omega) (by decide) ?_; intro v' w4 hown' hgrow hfr; obtain ⟨a4, c4, rfl, hmx', _⟩ := own_shape hown'; obtain ⟨g0, g1, g2, g3, l0, l1, l2, l3⟩ := (hM.mid.b1.alloc _).grown hgrow hM.nb; have hM4 := MK.pushed (q := (.int .i64 5, .string (name ts (label ts s3).2).1, .int .i64 (label ts s3).1, .slice none 0 0)) (t := .node 5 (name ts (label ts s3).2).1 (label ts s3).1 []) hM.mid ho HA.out (Lies.leaf _ _ _ _ _) hown' hgrow (by rcases hfr with e | e; exact .inl e; exact .inr (by rw [e]; simp)))
        cases hcm : eqS (txt ts (name ts (label ts s3).2).2) ⟨#[44]⟩
        case true =>
          rw [hcm, if_pos rfl] at hq2
          refine (reat_yes hM4.mid.rd ⟨#[44]⟩ (by decide) hcm).mono ?_
          rintro e w6 ⟨rfl, hR6, hF6⟩
          have hM6 := hM4.step hR6 hF6
          go_wp2
          go_roundg k
          case measure => exact Nat.lt_succ_self _
          case rel => exact ⟨ks ++ [.node 5 (name ts (label ts s3).2).1 (label ts s3).1 []], _, .slice a4 (ks.length + 1) c4, true, rfl, (if_pos rfl).mpr hq2, by rw [List.length_append]; simp; omega, hM6⟩
        case false =>
          rw [hcm, if_neg (by decide)] at hq2
          simp only [Option.some.injEq] at hq2
          refine (reat_no hM4.mid.rd ⟨#[44]⟩ (by decide) hcm).mono ?_
          rintro e w6 ⟨rfl, hR6, hF6⟩
          have hM6 := hM4.step hR6 hF6
          go_wp2
          go_roundg k
          case measure => exact Nat.lt_succ_self _
          case rel => exact ⟨ks ++ [.node 5 (name ts (label ts s3).2).1 (label ts s3).1 []], _, .slice a4 (ks.length + 1) c4, false, rfl, (if_neg (by decide)).mpr hq2, by rw [List.length_append]; simp; omega, hM6⟩
set_option maxRecDepth 100000 in
set_option maxHeartbeats 2000000 in
theorem rdecl_own0 {f : Nat} (hf : f ≤ 100000) (ihB : ∀ {w : World} {s : St} {q : Tree × St}, Rd w r L ts s → blockF ts f s = some q → Calls Tryz.prog 60 #[.pointer (some ⟨r, 0, none⟩)] w (Ans w r L ts q))
    (hR : Rd w r L ts s) (hpub : eqS (txt ts s) ⟨#[112, 117, 98]⟩ = false) (hp : eqS (txt ts s) ⟨#[112, 114, 111, 99]⟩ = true) {nx : ByteArray} {s1 : St} (hnm : name ts s.next = (nx, s1)) (hc : eqS (txt ts (must ts ⟨#[40]⟩ s1)) ⟨#[41]⟩ = true)
    {p : List Tree × St} (hpar : ([], must ts ⟨#[40]⟩ s1) = p) {b : Tree × St} (hbl : blockF ts f (givesS ts (must ts ⟨#[41]⟩ p.2)) = some b) :
    Calls Tryz.prog 26 #[.pointer (some ⟨r, 0, none⟩)] w (Ans w r L ts (.node 4 nx (givesN ts 0 (must ts ⟨#[41]⟩ p.2)) (p.1 ++ [b.1]), b.2)) := by
  have c24 : Tryz.prog.cellsOf 24 = 4 := by kernel_rfl
  obtain ⟨i0, hi, hz0, hz1', hz2⟩ := info_parts nodeInfo
  have hM := MK.start hR
  have hc' : ((txt ts (must ts ⟨#[40]⟩ s1)).toList == [41]) = true := (eqS_lit _ _).symm.trans hc
  go_enter Tryz.func26, Tryz.ntmps26
  go_wp2_with (fail)
  refine (reat_no hM.mid.rd ⟨#[112, 117, 98]⟩ (by decide) hpub).mono ?_
  rintro e wb ⟨rfl, hRb, hFb⟩
  replace hM := hM.step hRb hFb
  clear hRb hFb
  go_wp2_with (fail)
  refine (reat_yes hM.mid.rd ⟨#[112, 114, 111, 99]⟩ (by decide) hp).mono ?_
  rintro e wb ⟨rfl, hRb, hFb⟩
  replace hM := hM.step hRb hFb
  clear hRb hFb
  obtain ⟨p0, p1, p2, p3, o0, o1, o2, o3⟩ := hM.mid.b1
  replace hM := hM.kind 4
  have hN := rname hM.mid.rd
  rw [hnm] at hN
  go_wp2_with (fail)
  refine hN.mono ?_
  rintro e wb ⟨rfl, hRb, hFb⟩
  replace hM := hM.step hRb hFb
  clear hRb hFb hN
  obtain ⟨p0, p1, p2, p3, o0, o1, o2, o3⟩ := hM.mid.b1
  replace hM := hM.text nx
  go_wp2_with (fail)
  refine (rmust hM.mid.rd ⟨#[40]⟩ (by decide)).mono ?_
  rintro e wb ⟨rfl, hRb, hFb⟩
  replace hM := hM.step hRb hFb
  clear hRb hFb
  go_wp2_with (fail)
  refine (rtext _ r L ts _ hM.mid.rd).mono ?_
  rintro e wb ⟨rfl, nd, rfl⟩
  replace hM := hM.drewN nd
  obtain ⟨ks, s3, kv, hks, hkf, hM⟩ : ∃ ks s3 kv, (ks, s3) = p ∧ ks.length ≤ f ∧ MK w r L ts _ s3 4 nx 0 kv ks := ⟨[], _, _, hpar, by simp, hM⟩
  clear hpar
  subst hks
  obtain ⟨a, c, rfl⟩ := hM.kids.shape
  go_wp2_with (fail)
  have hlk : ks.length ≤ 100000 := by omega
  refine (rmust hM.mid.rd ⟨#[41]⟩ (by decide)).mono ?_
  rintro e wb ⟨rfl, hRb, hFb⟩
  replace hM := hM.step hRb hFb
  clear hRb hFb
  have h01 := label_01 ts (must ts ⟨#[41]⟩ s3)
  go_wp2_with (fail)
  refine (rlabel hM.mid.rd).mono ?_
  rintro e wb ⟨rfl, hRb, hFb⟩
  replace hM := hM.step hRb hFb
  clear hRb hFb
  obtain ⟨p0, p1, p2, p3, o0, o1, o2, o3⟩ := hM.mid.b1
  replace hM := hM.num ((label ts (must ts ⟨#[41]⟩ s3)).1)
  go_wp2_with (fail)
  cases hg : eqS (txt ts (label ts (must ts ⟨#[41]⟩ s3)).2) ⟨#[103, 105, 118, 101, 115]⟩
  case false =>
    have hgN : givesN ts 0 (must ts ⟨#[41]⟩ s3) = (label ts (must ts ⟨#[41]⟩ s3)).1 := by unfold givesN; rw [hg, if_neg (by decide)] <;> simp
    have hgS : givesS ts (must ts ⟨#[41]⟩ s3) = (label ts (must ts ⟨#[41]⟩ s3)).2 := by unfold givesS; rw [hg, if_neg (by decide)]
    rw [hgS] at hbl
    refine (reat_no hM.mid.rd ⟨#[103, 105, 118, 101, 115]⟩ (by decide) hg).mono ?_
    rintro e wb ⟨rfl, hRb, hFb⟩
    replace hM := hM.step hRb hFb
    clear hRb hFb
    go_wp2_with (fail)
    refine (ihB hM.mid.rd hbl).mono ?_
    rintro e wc ⟨vc, rfl, hLc, hRc, hFc⟩
    obtain ⟨kc, yc, mc, _, rfl, ac, nc, cc, rfl⟩ := hLc.shape
    have hkb : ∀ g, (Value.slice a ks.length c).ownBlock = some g → w.heap.size + 2 ≤ g ∧ g < _ := fun g hg => hM.kids.blk hg
    have hsM := hM.mid.size
    replace hM := hM.step hRc hFc
    have hzz := hM.mid.size
    have hLc' : Lies (fun b => w.heap.size + 2 ≤ b ∧ b < (wc.alloc (.cells #[.int .i64 kc, .string yc, .int .i64 mc, .slice ac nc cc] 24)).heap.size ∧ some b ≠ (Value.slice a ks.length c).ownBlock) (wc.alloc (.cells #[.int .i64 kc, .string yc, .int .i64 mc, .slice ac nc cc] 24)) b.1 (.agg #[.int .i64 kc, .string yc, .int .i64 mc, .slice ac nc cc]) :=
      hLc.frP (x := wc.heap.size) (Fr.al wc _) (fun b hb => ⟨hb.2, by omega⟩) (fun b hb => ⟨by omega, by rw [World.size_alloc]; omega, fun e => by have := (hkb b e.symm).2; omega⟩)
    replace hM := hM.alloc (.cells #[.int .i64 kc, .string yc, .int .i64 mc, .slice ac nc cc] 24)
    obtain ⟨p0, p1, p2, p3, o0, o1, o2, o3⟩ := hM.mid.b1
    obtain ⟨vs, ho, ha⟩ := hM.kids
    have HA : Hid (AllLie (fun b => w.heap.size + 2 ≤ b ∧ b < (wc.alloc (.cells #[.int .i64 kc, .string yc, .int .i64 mc, .slice ac nc cc] 24)).heap.size ∧ some b ≠ (Value.slice a ks.length c).ownBlock) (wc.alloc (.cells #[.int .i64 kc, .string yc, .int .i64 mc, .slice ac nc cc] 24)) ks vs ∧ Lies (fun b => w.heap.size + 2 ≤ b ∧ b < (wc.alloc (.cells #[.int .i64 kc, .string yc, .int .i64 mc, .slice ac nc cc] 24)).heap.size ∧ some b ≠ (Value.slice a ks.length c).ownBlock) (wc.alloc (.cells #[.int .i64 kc, .string yc, .int .i64 mc, .slice ac nc cc] 24)) b.1 (.agg #[.int .i64 kc, .string yc, .int .i64 mc, .slice ac nc cc])) := ⟨ha, hLc'⟩
    clear ha hLc hLc' hkb
    go_wp2_with (at_builtin; refine wpList_append_fresh rfl (.tmp 92) (.tmp 94) 22 rfl (w.heap.size + 2) 24 i0 (.agg #[.int .i64 0, .string ⟨#[]⟩, .int .i64 0, .slice none 0 0]) 4 56 Tryz.underlying22 hi hz0 hz1' hz2 rfl (by decide) _ _ _ rfl (ho.alloc _) ⟨wc.heap.size + 1, 0, none⟩ 1 1 [.int .i64 kc, .string yc, .int .i64 mc, .slice ac nc cc] rfl rfl (cells4_new _ _ _ _ _ _ _ (by simp)) (by intro u hu; simp at hu; rcases hu with rfl | rfl | rfl | rfl <;> rfl) (by unfold maxLen; omega) (by omega) (by simp <;> omega) (by decide) ?_; intro v' w4 hown' hgrow hfr; obtain ⟨a4, c4, rfl, hmx', _⟩ := own_shape hown'; obtain ⟨g0, g1, g2, g3, l0, l1, l2, l3⟩ := (hM.mid.b1.alloc _).grown hgrow hM.nb; have hM4 := MK.pushed (q := (.int .i64 kc, .string yc, .int .i64 mc, .slice ac nc cc)) (t := b.1) hM.mid ho HA.out.1 HA.out.2 hown' hgrow (by rcases hfr with e | e; exact .inl e; exact .inr (by rw [e]; simp)); obtain ⟨q0, q1', q2', q3, t0, t1, t2, t3⟩ := (hM.mid.b0.alloc _).grown hgrow (fun e => by have := (hM.kids.blk e).1; omega))
    refine bodyPost_ret (v := .agg #[.int .i64 4, .string nx, .int .i64 ((label ts (must ts ⟨#[41]⟩ s3)).1), .slice a4 (ks.length + 1) c4]) (by simp [results, Tryz.results26, go_sem, q0, q1', q2', q3]) rfl ?_
    rw [hgN]
    exact hM4.fin hR (by rw [List.length_append]; simp; omega)
  case true =>
    have hgN : givesN ts 0 (must ts ⟨#[41]⟩ s3) = (label ts (must ts ⟨#[41]⟩ s3)).1 + 4 + 4 * (label ts (label ts (must ts ⟨#[41]⟩ s3)).2.next).1 := by unfold givesN; rw [hg, if_pos rfl] <;> simp
    have hgS : givesS ts (must ts ⟨#[41]⟩ s3) = (label ts (label ts (must ts ⟨#[41]⟩ s3)).2.next).2 := by unfold givesS; rw [hg, if_pos rfl]
    rw [hgS] at hbl
    have h02 := label_01 ts (label ts (must ts ⟨#[41]⟩ s3)).2.next
    refine (reat_yes hM.mid.rd ⟨#[103, 105, 118, 101, 115]⟩ (by decide) hg).mono ?_
    rintro e wb ⟨rfl, hRb, hFb⟩
    replace hM := hM.step hRb hFb
    clear hRb hFb
    go_wp2_with (fail)
    refine (rlabel hM.mid.rd).mono ?_
    rintro e wb ⟨rfl, hRb, hFb⟩
    replace hM := hM.step hRb hFb
    clear hRb hFb
    obtain ⟨p0, p1, p2, p3, o0, o1, o2, o3⟩ := hM.mid.b1
    replace hM := hM.num ((label ts (must ts ⟨#[41]⟩ s3)).1 + 4 + 4 * (label ts (label ts (must ts ⟨#[41]⟩ s3)).2.next).1)
    go_wp2_with (fail)
    refine (ihB hM.mid.rd hbl).mono ?_
    rintro e wc ⟨vc, rfl, hLc, hRc, hFc⟩
    obtain ⟨kc, yc, mc, _, rfl, ac, nc, cc, rfl⟩ := hLc.shape
    have hkb : ∀ g, (Value.slice a ks.length c).ownBlock = some g → w.heap.size + 2 ≤ g ∧ g < _ := fun g hg => hM.kids.blk hg
    have hsM := hM.mid.size
    replace hM := hM.step hRc hFc
    have hzz := hM.mid.size
    have hLc' : Lies (fun b => w.heap.size + 2 ≤ b ∧ b < (wc.alloc (.cells #[.int .i64 kc, .string yc, .int .i64 mc, .slice ac nc cc] 24)).heap.size ∧ some b ≠ (Value.slice a ks.length c).ownBlock) (wc.alloc (.cells #[.int .i64 kc, .string yc, .int .i64 mc, .slice ac nc cc] 24)) b.1 (.agg #[.int .i64 kc, .string yc, .int .i64 mc, .slice ac nc cc]) :=
      hLc.frP (x := wc.heap.size) (Fr.al wc _) (fun b hb => ⟨hb.2, by omega⟩) (fun b hb => ⟨by omega, by rw [World.size_alloc]; omega, fun e => by have := (hkb b e.symm).2; omega⟩)
    replace hM := hM.alloc (.cells #[.int .i64 kc, .string yc, .int .i64 mc, .slice ac nc cc] 24)
    obtain ⟨p0, p1, p2, p3, o0, o1, o2, o3⟩ := hM.mid.b1
    obtain ⟨vs, ho, ha⟩ := hM.kids
    have HA : Hid (AllLie (fun b => w.heap.size + 2 ≤ b ∧ b < (wc.alloc (.cells #[.int .i64 kc, .string yc, .int .i64 mc, .slice ac nc cc] 24)).heap.size ∧ some b ≠ (Value.slice a ks.length c).ownBlock) (wc.alloc (.cells #[.int .i64 kc, .string yc, .int .i64 mc, .slice ac nc cc] 24)) ks vs ∧ Lies (fun b => w.heap.size + 2 ≤ b ∧ b < (wc.alloc (.cells #[.int .i64 kc, .string yc, .int .i64 mc, .slice ac nc cc] 24)).heap.size ∧ some b ≠ (Value.slice a ks.length c).ownBlock) (wc.alloc (.cells #[.int .i64 kc, .string yc, .int .i64 mc, .slice ac nc cc] 24)) b.1 (.agg #[.int .i64 kc, .string yc, .int .i64 mc, .slice ac nc cc])) := ⟨ha, hLc'⟩
    clear ha hLc hLc' hkb
    go_wp2_with (at_builtin; refine wpList_append_fresh rfl (.tmp 92) (.tmp 94) 22 rfl (w.heap.size + 2) 24 i0 (.agg #[.int .i64 0, .string ⟨#[]⟩, .int .i64 0, .slice none 0 0]) 4 56 Tryz.underlying22 hi hz0 hz1' hz2 rfl (by decide) _ _ _ rfl (ho.alloc _) ⟨wc.heap.size + 1, 0, none⟩ 1 1 [.int .i64 kc, .string yc, .int .i64 mc, .slice ac nc cc] rfl rfl (cells4_new _ _ _ _ _ _ _ (by simp)) (by intro u hu; simp at hu; rcases hu with rfl | rfl | rfl | rfl <;> rfl) (by unfold maxLen; omega) (by omega) (by simp <;> omega) (by decide) ?_; intro v' w4 hown' hgrow hfr; obtain ⟨a4, c4, rfl, hmx', _⟩ := own_shape hown'; obtain ⟨g0, g1, g2, g3, l0, l1, l2, l3⟩ := (hM.mid.b1.alloc _).grown hgrow hM.nb; have hM4 := MK.pushed (q := (.int .i64 kc, .string yc, .int .i64 mc, .slice ac nc cc)) (t := b.1) hM.mid ho HA.out.1 HA.out.2 hown' hgrow (by rcases hfr with e | e; exact .inl e; exact .inr (by rw [e]; simp)); obtain ⟨q0, q1', q2', q3, t0, t1, t2, t3⟩ := (hM.mid.b0.alloc _).grown hgrow (fun e => by have := (hM.kids.blk e).1; omega))
    refine bodyPost_ret (v := .agg #[.int .i64 4, .string nx, .int .i64 ((label ts (must ts ⟨#[41]⟩ s3)).1 + 4 + 4 * (label ts (label ts (must ts ⟨#[41]⟩ s3)).2.next).1), .slice a4 (ks.length + 1) c4]) (by simp [results, Tryz.results26, go_sem, q0, q1', q2', q3]) rfl ?_
    rw [hgN]
    exact hM4.fin hR (by rw [List.length_append]; simp; omega)
end
end Go.Proofs.YtchhpinmoagkhaaGreatDoor.syn
