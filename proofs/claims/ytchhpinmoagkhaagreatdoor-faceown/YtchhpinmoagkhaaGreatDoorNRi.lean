/- A node that is made in a box, kid by kid, with append: what stands behind each step. What the reference's decl answers of a variable: a contract. -/
import Derived.Test.YtchhpinmoagkhaaGreatDoorProg
import Derived.WalkKit
import Derived.WalkLawsBesides
import Derived.Outline
import Derived.WalkSmall
import Derived.Test.YtchhpinmoagkhaaGreatDoorNRc
import Derived.OneCell
import Derived.Test.YtchhpinmoagkhaaGreatDoorNSa
namespace Go.Proofs.YtchhpinmoagkhaaGreatDoor.syn
open Go.RowKit
open Go.Proofs.YtchhpinmoagkhaaGreatDoor.lexs (Tok own_shape)
set_option linter.unusedVariables false

section
variable {w : World} {r : Nat} {L : Value} {ts : List Tok} {s : St} {wk : World} {k m : Int} {x : ByteArray} {kv : Value} {ks : List Tree}
/-- a node in its box, its kids in a row of their own -/
structure MK (w : World) (r : Nat) (L : Value) (ts : List Tok) (wk : World) (s : St) (k : Int) (x : ByteArray) (m : Int) (kv : Value) (ks : List Tree) : Prop where
  mid : Mid w r L ts wk s k x m kv
  kids : Kids (w.heap.size + 2) (fun b => w.heap.size + 2 ≤ b ∧ b < wk.heap.size ∧ some b ≠ kv.ownBlock) wk kv ks
theorem MK.nr (h : MK w r L ts wk s k x m kv ks) : kv.ownBlock ≠ some r := fun e => by have h1 := (h.kids.blk e).1; have h2 := h.mid.old; omega
theorem MK.nb (h : MK w r L ts wk s k x m kv ks) : kv.ownBlock ≠ some (w.heap.size + 1) := fun e => by have h1 := (h.kids.blk e).1; omega
theorem MK.step (h : MK w r L ts wk s k x m kv ks) {w' : World} {s' : St} (hR : Rd w' r L ts s') (hF : Fr r wk w') : MK w r L ts w' s' k x m kv ks :=
  ⟨h.mid.step hR hF, h.kids.grown hF (.inr h.nr) (fun b hb => ⟨hb.2.1, by have := h.mid.old; simp; omega⟩) (fun b hb => ⟨hb.1, Nat.lt_of_lt_of_le hb.2.1 hF.size, hb.2.2⟩)⟩
theorem MK.alloc (h : MK w r L ts wk s k x m kv ks) (o : Obj) : MK w r L ts (wk.alloc o) s k x m kv ks := h.step (h.mid.rd.alloc o) (Fr.al _ _)
theorem MK.drewN (h : MK w r L ts wk s k x m kv ks) (n : Nat) : MK w r L ts (wk.drewN n) s k x m kv ks := h.step (h.mid.rd.drewN n) ((Fr.refl _ _).drewN n)
theorem MK.cell {o : Nat} (v : Value) (h : MK w r L ts wk s k x m kv ks) : Kids (w.heap.size + 2) (fun b => w.heap.size + 2 ≤ b ∧ b < (wk.setCell ⟨w.heap.size + 1, o, none⟩ v).heap.size ∧ some b ≠ kv.ownBlock) (wk.setCell ⟨w.heap.size + 1, o, none⟩ v) kv ks :=
  h.kids.grown ((Fr.refl (w.heap.size + 1) wk).set o v) (.inr h.nb) (fun b hb => ⟨hb.2.1, by simp; omega⟩) (fun b hb => ⟨hb.1, by rw [World.size_setCell]; exact hb.2.1, hb.2.2⟩)
theorem MK.kind (h : MK w r L ts wk s k x m kv ks) (k' : Int) : MK w r L ts (wk.setCell ⟨w.heap.size + 1, 0, none⟩ (.int .i64 k')) s k' x m kv ks := ⟨h.mid.kind k', h.cell _⟩
theorem MK.text (h : MK w r L ts wk s k x m kv ks) (x' : ByteArray) : MK w r L ts (wk.setCell ⟨w.heap.size + 1, 1, none⟩ (.string x')) s k x' m kv ks := ⟨h.mid.text x', h.cell _⟩
theorem MK.num (h : MK w r L ts wk s k x m kv ks) (m' : Int) : MK w r L ts (wk.setCell ⟨w.heap.size + 1, 2, none⟩ (.int .i64 m')) s k x m' kv ks := ⟨h.mid.num m', h.cell _⟩
theorem MK.start (hR : Rd w r L ts s) : MK w r L ts ((w.alloc (.cells #[.int .i64 0, .string empty, .int .i64 0, .slice none 0 0] 24)).alloc (.cells #[.int .i64 0, .string empty, .int .i64 0, .slice none 0 0] 24)) s 0 empty 0 (.slice none 0 0) [] := ⟨Mid.start hR, Kids.nil _ _ _⟩
/-- one kid has been appended, and the new row put into the box -/
theorem MK.pushed {vs : List Q4} (h : Mid w r L ts wk s k x m kv) (ho : wk.ownsRow (w.heap.size + 2) 24 4 kv ks.length (flat4 vs)) (ha : AllLie (fun b => w.heap.size + 2 ≤ b ∧ b < wk.heap.size ∧ some b ≠ kv.ownBlock) wk ks vs)
    {t : Tree} {q : Q4} (hL : Lies (fun b => w.heap.size + 2 ≤ b ∧ b < wk.heap.size ∧ some b ≠ kv.ownBlock) wk t q.v) {w4 : World} {v' : Value} {o : Obj} (hown' : w4.ownsRow (w.heap.size + 2) 24 4 v' (ks.length + 1) (flat4 vs ++ [q.1, q.2.1, q.2.2.1, q.2.2.2]))
    (hgrow : (wk.alloc o).grownBy w4 kv.ownBlock) (hfr : v'.ownBlock = kv.ownBlock ∨ v'.ownBlock = some (wk.heap.size + 1)) : MK w r L ts (w4.setCell ⟨w.heap.size + 1, 3, none⟩ v') s k x m v' (ks ++ [t]) := by
  have hz := h.size
  have hkb : ∀ g, kv.ownBlock = some g → w.heap.size + 2 ≤ g ∧ g < wk.heap.size := fun g hg => ho.lt g hg
  have hG : wk.grownBy w4 kv.ownBlock := grown_trans (World.grownBy_alloc wk _ _) hgrow
  have s4 := hG.size
  have n1 : v'.ownBlock ≠ some (w.heap.size + 1) := fun e => by
    have := (hown'.lt _ e).1
    omega
  have hm := h.grown hG (fun g e => (hkb g e).1)
  have hsame : ∀ b, (w.heap.size + 2 ≤ b ∧ b < wk.heap.size ∧ some b ≠ kv.ownBlock) → ∀ j, (w4.setCell ⟨w.heap.size + 1, 3, none⟩ v').cell? ⟨b, j, none⟩ = wk.cell? ⟨b, j, none⟩ := fun b hb j => by
    rw [World.cell?_setCell_other _ _ _ _ (by simp <;> omega)]
    exact World.cell?_of_block (a := ⟨b, j, none⟩) (hG.block b hb.2.1 hb.2.2)
  have hQ : ∀ b, (w.heap.size + 2 ≤ b ∧ b < wk.heap.size ∧ some b ≠ kv.ownBlock) → (w.heap.size + 2 ≤ b ∧ b < (w4.setCell ⟨w.heap.size + 1, 3, none⟩ v').heap.size ∧ some b ≠ v'.ownBlock) := fun b hb => ⟨hb.1, by rw [World.size_setCell]; omega, fun e => by
    rcases hfr with e' | e'
    · exact hb.2.2 (e.trans e')
    · rw [e'] at e
      have : b = wk.heap.size + 1 := by simpa using e
      omega⟩
  refine ⟨⟨hm.rd.setNew (by have := h.old; omega) (fun e => by have := h.own _ e; omega) _, hm.fr.setNew (by omega) _, hm.b0.other (by omega) _, hm.b1.set3 _, h.old, h.own⟩, vs ++ [q], ?_, AllLie.snoc (hL.to hQ hsame) (ha.to hQ hsame)⟩
  rw [flat4_snoc, List.length_append]
  exact ownsRow_setCell_other hown' n1 _
/-- the end -/
theorem MK.fin {s' : St} (h : MK w r L ts wk s k x m kv ks) (hR : Rd w r L ts s') (hl : ks.length ≤ 200000) : Ans w r L ts (.node k x m ks, s) (.returned (.agg #[.int .i64 k, .string x, .int .i64 m, kv])) ((((wk.setCell ⟨w.heap.size, 0, none⟩ (.int .i64 k)).setCell ⟨w.heap.size, 1, none⟩ (.string x)).setCell ⟨w.heap.size, 2, none⟩ (.int .i64 m)).setCell ⟨w.heap.size, 3, none⟩ kv) :=
  Ans.fin hR h.mid.fr h.mid.rd (Nat.lt_succ_self _) (h.kids.lies (fun b hb => ⟨by omega, hb.2.1⟩) (fun g hg => ⟨by have := (h.kids.blk hg).1; omega, (h.kids.blk hg).2⟩) (by omega))
end
end Go.Proofs.YtchhpinmoagkhaaGreatDoor.syn
namespace Go.Proofs.YtchhpinmoagkhaaGreatDoor.syn
open Go.RowKit
open Go.Proofs.YtchhpinmoagkhaaGreatDoor.lexs (Tok own_shape)
set_option linter.unusedVariables false

section
variable {w : World} {r : Nat} {L : Value} {ts : List Tok} {s : St}
theorem label_01 (ts : List Tok) (s : St) : 0 ≤ (label ts s).1 ∧ (label ts s).1 ≤ 1 := by
  unfold label
  split <;> simp
set_option maxRecDepth 100000 in
set_option maxHeartbeats 1000000 in
theorem rdecl_var (hR : Rd w r L ts s) (hp : eqS (txt ts (pubS ts s)) ⟨#[112, 114, 111, 99]⟩ = false) :
    Calls Tryz.prog 26 #[.pointer (some ⟨r, 0, none⟩)] w (Ans w r L ts (.node 3 (name ts (label ts (pubS ts s)).2).1 (pubN ts s + (label ts (pubS ts s)).1) (varS ts (name ts (label ts (pubS ts s)).2).2).1, must ts ⟨#[59]⟩ (varS ts (name ts (label ts (pubS ts s)).2).2).2)) := by
  have c24 : Tryz.prog.cellsOf 24 = 4 := by kernel_rfl
  obtain ⟨i0, hi, hz0, hz1', hz2⟩ := info_parts nodeInfo
  have hM := MK.start hR
  have hLb : ∀ {w : World}, Rd w r L ts (pubS ts s) → Calls Tryz.prog 58 #[.pointer (some ⟨r, 0, none⟩)] w fun e w' => e = .returned (.int .i64 (label ts (pubS ts s)).1) ∧ Rd w' r L ts (label ts (pubS ts s)).2 ∧ Fr r w w' := fun h => rlabel h
  have h01 := label_01 ts (pubS ts s)
  have es : pubS ts s = if eqS (txt ts s) ⟨#[112, 117, 98]⟩ then s.next else s := rfl
  have en : pubN ts s = if eqS (txt ts s) ⟨#[112, 117, 98]⟩ then 2 else 0 := rfl
  generalize pubS ts s = s0 at hp hLb h01 es ⊢
  generalize pubN ts s = n0 at en ⊢
  generalize label ts s0 = lb at hLb h01 ⊢
  obtain ⟨l, s1⟩ := lb
  dsimp only at hLb h01 ⊢
  have hNm : ∀ {w : World}, Rd w r L ts s1 → Calls Tryz.prog 24 #[.pointer (some ⟨r, 0, none⟩)] w fun e w' => e = .returned (.string (name ts s1).1) ∧ Rd w' r L ts (name ts s1).2 ∧ Fr r w w' := fun h => rname h
  generalize name ts s1 = nm at hNm ⊢
  obtain ⟨nx, s2⟩ := nm
  dsimp only at hNm ⊢
  cases hb : eqS (txt ts s2) ⟨#[91]⟩
  case false =>
    have e1 : varS ts s2 = ([], s2) := by unfold varS; rw [hb]; rfl
    rw [e1]
    cases hpub : eqS (txt ts s) ⟨#[112, 117, 98]⟩
    case true =>
      rw [hpub, if_pos rfl] at es en
      subst es en
      go_enter Tryz.func26, Tryz.ntmps26
      go_wp2_with (fail)
      refine (reat_yes hM.mid.rd ⟨#[112, 117, 98]⟩ (by decide) hpub).mono ?_
      rintro e wb ⟨rfl, hRb, hFb⟩
      replace hM := hM.step hRb hFb
      clear hRb hFb
      obtain ⟨p0, p1, p2, p3, o0, o1, o2, o3⟩ := hM.mid.b1
      replace hM := hM.num 2
      go_wp2_with (fail)
      refine (reat_no hM.mid.rd ⟨#[112, 114, 111, 99]⟩ (by decide) hp).mono ?_
      rintro e wb ⟨rfl, hRb, hFb⟩
      replace hM := hM.step hRb hFb
      clear hRb hFb
      obtain ⟨p0, p1, p2, p3, o0, o1, o2, o3⟩ := hM.mid.b1
      replace hM := hM.kind 3
      go_wp2_with (fail)
      refine (hLb hM.mid.rd).mono ?_
      rintro e wb ⟨rfl, hRb, hFb⟩
      replace hM := hM.step hRb hFb
      clear hRb hFb
      obtain ⟨p0, p1, p2, p3, o0, o1, o2, o3⟩ := hM.mid.b1
      replace hM := hM.num (2 + l)
      go_wp2_with (fail)
      refine (hNm hM.mid.rd).mono ?_
      rintro e wb ⟨rfl, hRb, hFb⟩
      replace hM := hM.step hRb hFb
      clear hRb hFb
      obtain ⟨p0, p1, p2, p3, o0, o1, o2, o3⟩ := hM.mid.b1
      replace hM := hM.text nx
      go_wp2_with (fail)
      refine (reat_no hM.mid.rd ⟨#[91]⟩ (by decide) hb).mono ?_
      rintro e wb ⟨rfl, hRb, hFb⟩
      replace hM := hM.step hRb hFb
      clear hRb hFb
      go_wp2_with (fail)
      refine (rmust hM.mid.rd ⟨#[59]⟩ (by decide)).mono ?_
      rintro e wb ⟨rfl, hRb, hFb⟩
      replace hM := hM.step hRb hFb
      clear hRb hFb
      obtain ⟨p0, p1, p2, p3, o0, o1, o2, o3⟩ := hM.mid.b1
      obtain ⟨q0, q1', q2', q3, t0, t1, t2, t3⟩ := hM.mid.b0
      go_wp2
      exact bodyPost_ret (v := .agg #[.int .i64 3, .string nx, .int .i64 (2 + l), .slice none 0 0]) (by simp [results, Tryz.results26, go_sem, q0, q1', q2', q3]) rfl (hM.fin hR (by simp))
    case false =>
      rw [hpub, if_neg (by decide)] at es en
      subst es en
      rw [Int.zero_add]
      go_enter Tryz.func26, Tryz.ntmps26
      go_wp2_with (fail)
      refine (reat_no hM.mid.rd ⟨#[112, 117, 98]⟩ (by decide) hpub).mono ?_
      rintro e wb ⟨rfl, hRb, hFb⟩
      replace hM := hM.step hRb hFb
      clear hRb hFb
      go_wp2_with (fail)
      refine (reat_no hM.mid.rd ⟨#[112, 114, 111, 99]⟩ (by decide) hp).mono ?_
      rintro e wb ⟨rfl, hRb, hFb⟩
      replace hM := hM.step hRb hFb
      clear hRb hFb
      obtain ⟨p0, p1, p2, p3, o0, o1, o2, o3⟩ := hM.mid.b1
      replace hM := hM.kind 3
      go_wp2_with (fail)
      refine (hLb hM.mid.rd).mono ?_
      rintro e wb ⟨rfl, hRb, hFb⟩
      replace hM := hM.step hRb hFb
      clear hRb hFb
      obtain ⟨p0, p1, p2, p3, o0, o1, o2, o3⟩ := hM.mid.b1
      replace hM := hM.num l
      go_wp2_with (fail)
      refine (hNm hM.mid.rd).mono ?_
      rintro e wb ⟨rfl, hRb, hFb⟩
      replace hM := hM.step hRb hFb
      clear hRb hFb
      obtain ⟨p0, p1, p2, p3, o0, o1, o2, o3⟩ := hM.mid.b1
      replace hM := hM.text nx
      go_wp2_with (fail)
      refine (reat_no hM.mid.rd ⟨#[91]⟩ (by decide) hb).mono ?_
      rintro e wb ⟨rfl, hRb, hFb⟩
      replace hM := hM.step hRb hFb
      clear hRb hFb
      go_wp2_with (fail)
      refine (rmust hM.mid.rd ⟨#[59]⟩ (by decide)).mono ?_
      rintro e wb ⟨rfl, hRb, hFb⟩
      replace hM := hM.step hRb hFb
      clear hRb hFb
      obtain ⟨p0, p1, p2, p3, o0, o1, o2, o3⟩ := hM.mid.b1
      obtain ⟨q0, q1', q2', q3, t0, t1, t2, t3⟩ := hM.mid.b0
      go_wp2
      exact bodyPost_ret (v := .agg #[.int .i64 3, .string nx, .int .i64 l, .slice none 0 0]) (by simp [results, Tryz.results26, go_sem, q0, q1', q2', q3]) rfl (hM.fin hR (by simp))
  case true =>
    have e1 : varS ts s2 = ([(number ts s2.next).1], must ts ⟨#[93]⟩ (number ts s2.next).2) := by unfold varS; rw [hb]; rfl
    rw [e1]
    have hNu : ∀ {w : World}, Rd w r L ts s2.next → Calls Tryz.prog 59 #[.pointer (some ⟨r, 0, none⟩)] w fun e w' => e = .returned (numV (numN (number ts s2.next).1)) ∧ Rd w' r L ts (number ts s2.next).2 ∧ Fr r w w' := fun h => rnumber h
    have hsh := number_shape ts s2.next
    unfold numV at hNu
    generalize number ts s2.next = nu at hNu hsh ⊢
    obtain ⟨nt, s3⟩ := nu
    dsimp only at hNu hsh ⊢
    generalize numN nt = nn at hNu hsh
    subst hsh
    cases hpub : eqS (txt ts s) ⟨#[112, 117, 98]⟩
    case true =>
      rw [hpub, if_pos rfl] at es en
      subst es en
      go_enter Tryz.func26, Tryz.ntmps26
      go_wp2_with (fail)
      refine (reat_yes hM.mid.rd ⟨#[112, 117, 98]⟩ (by decide) hpub).mono ?_
      rintro e wb ⟨rfl, hRb, hFb⟩
      replace hM := hM.step hRb hFb
      clear hRb hFb
      obtain ⟨p0, p1, p2, p3, o0, o1, o2, o3⟩ := hM.mid.b1
      replace hM := hM.num 2
      go_wp2_with (fail)
      refine (reat_no hM.mid.rd ⟨#[112, 114, 111, 99]⟩ (by decide) hp).mono ?_
      rintro e wb ⟨rfl, hRb, hFb⟩
      replace hM := hM.step hRb hFb
      clear hRb hFb
      obtain ⟨p0, p1, p2, p3, o0, o1, o2, o3⟩ := hM.mid.b1
      replace hM := hM.kind 3
      go_wp2_with (fail)
      refine (hLb hM.mid.rd).mono ?_
      rintro e wb ⟨rfl, hRb, hFb⟩
      replace hM := hM.step hRb hFb
      clear hRb hFb
      obtain ⟨p0, p1, p2, p3, o0, o1, o2, o3⟩ := hM.mid.b1
      replace hM := hM.num (2 + l)
      go_wp2_with (fail)
      refine (hNm hM.mid.rd).mono ?_
      rintro e wb ⟨rfl, hRb, hFb⟩
      replace hM := hM.step hRb hFb
      clear hRb hFb
      obtain ⟨p0, p1, p2, p3, o0, o1, o2, o3⟩ := hM.mid.b1
      replace hM := hM.text nx
      go_wp2_with (fail)
      refine (reat_yes hM.mid.rd ⟨#[91]⟩ (by decide) hb).mono ?_
      rintro e wb ⟨rfl, hRb, hFb⟩
      replace hM := hM.step hRb hFb
      clear hRb hFb
      go_wp2_with (fail)
      refine (hNu hM.mid.rd).mono ?_
      rintro e wn ⟨rfl, hRn, hFn⟩
      replace hM := hM.step hRn hFn
      have hzz := hM.mid.size
      replace hM := hM.alloc (.cells #[.int .i64 15, .string empty, .int .i64 nn, .slice none 0 0] 24)
      obtain ⟨p0, p1, p2, p3, o0, o1, o2, o3⟩ := hM.mid.b1
      obtain ⟨vs, ho, ha⟩ := hM.kids
      have HA : Hid (AllLie (fun b => w.heap.size + 2 ≤ b ∧ b < (wn.alloc (.cells #[.int .i64 15, .string empty, .int .i64 nn, .slice none 0 0] 24)).heap.size ∧ some b ≠ (Value.slice none 0 0).ownBlock) (wn.alloc (.cells #[.int .i64 15, .string empty, .int .i64 nn, .slice none 0 0] 24)) [] vs) := ha
      clear ha
      go_wp2_with (at_builtin; refine wpList_append_fresh rfl (.tmp 34) (.tmp 36) 22 rfl (w.heap.size + 2) 24 i0 (.agg #[.int .i64 0, .string ⟨#[]⟩, .int .i64 0, .slice none 0 0]) 4 56 Tryz.underlying22 hi hz0 hz1' hz2 rfl (by decide) _ _ _ rfl (ho.alloc _) ⟨wn.heap.size + 1, 0, none⟩ 1 1 [.int .i64 15, .string empty, .int .i64 nn, .slice none 0 0] rfl rfl (cells4_new _ _ _ _ _ _ _ (by simp)) (by intro u hu; simp at hu; rcases hu with rfl | rfl | rfl | rfl <;> rfl) (by unfold maxLen; simp) (by simp) (by simp <;> omega) (by decide) ?_; intro v' w4 hown' hgrow hfr; obtain ⟨a4, c4, rfl, hmx', _⟩ := own_shape hown'; obtain ⟨g0, g1, g2, g3, l0, l1, l2, l3⟩ := (hM.mid.b1.alloc _).grown hgrow hM.nb; have hM4 := MK.pushed (q := (.int .i64 15, .string empty, .int .i64 nn, .slice none 0 0)) (t := .node 15 empty nn []) hM.mid ho HA.out (Lies.leaf _ _ _ _ _) hown' hgrow (by rcases hfr with e | e; exact .inl e; exact .inr (by rw [e]; simp)))
      replace hM := hM4
      refine (rmust hM.mid.rd ⟨#[93]⟩ (by decide)).mono ?_
      rintro e wb ⟨rfl, hRb, hFb⟩
      replace hM := hM.step hRb hFb
      clear hRb hFb
      go_wp2_with (fail)
      refine (rmust hM.mid.rd ⟨#[59]⟩ (by decide)).mono ?_
      rintro e wb ⟨rfl, hRb, hFb⟩
      replace hM := hM.step hRb hFb
      clear hRb hFb
      obtain ⟨p0, p1, p2, p3, o0, o1, o2, o3⟩ := hM.mid.b1
      obtain ⟨q0, q1', q2', q3, t0, t1, t2, t3⟩ := hM.mid.b0
      go_wp2
      exact bodyPost_ret (v := .agg #[.int .i64 3, .string nx, .int .i64 (2 + l), .slice a4 1 c4]) (by simp [results, Tryz.results26, go_sem, q0, q1', q2', q3]) rfl (hM.fin hR (by simp))
    case false =>
      rw [hpub, if_neg (by decide)] at es en
      subst es en
      rw [Int.zero_add]
      go_enter Tryz.func26, Tryz.ntmps26
      go_wp2_with (fail)
      refine (reat_no hM.mid.rd ⟨#[112, 117, 98]⟩ (by decide) hpub).mono ?_
      rintro e wb ⟨rfl, hRb, hFb⟩
      replace hM := hM.step hRb hFb
      clear hRb hFb
      go_wp2_with (fail)
      refine (reat_no hM.mid.rd ⟨#[112, 114, 111, 99]⟩ (by decide) hp).mono ?_
      rintro e wb ⟨rfl, hRb, hFb⟩
      replace hM := hM.step hRb hFb
      clear hRb hFb
      obtain ⟨p0, p1, p2, p3, o0, o1, o2, o3⟩ := hM.mid.b1
      replace hM := hM.kind 3
      go_wp2_with (fail)
      refine (hLb hM.mid.rd).mono ?_
      rintro e wb ⟨rfl, hRb, hFb⟩
      replace hM := hM.step hRb hFb
      clear hRb hFb
      obtain ⟨p0, p1, p2, p3, o0, o1, o2, o3⟩ := hM.mid.b1
      replace hM := hM.num l
      go_wp2_with (fail)
      refine (hNm hM.mid.rd).mono ?_
      rintro e wb ⟨rfl, hRb, hFb⟩
      replace hM := hM.step hRb hFb
      clear hRb hFb
      obtain ⟨p0, p1, p2, p3, o0, o1, o2, o3⟩ := hM.mid.b1
      replace hM := hM.text nx
      go_wp2_with (fail)
      refine (reat_yes hM.mid.rd ⟨#[91]⟩ (by decide) hb).mono ?_
      rintro e wb ⟨rfl, hRb, hFb⟩
      replace hM := hM.step hRb hFb
      clear hRb hFb
      go_wp2_with (fail)
      refine (hNu hM.mid.rd).mono ?_
      rintro e wn ⟨rfl, hRn, hFn⟩
      replace hM := hM.step hRn hFn
      have hzz := hM.mid.size
      replace hM := hM.alloc (.cells #[.int .i64 15, .string empty, .int .i64 nn, .slice none 0 0] 24)
      obtain ⟨p0, p1, p2, p3, o0, o1, o2, o3⟩ := hM.mid.b1
      obtain ⟨vs, ho, ha⟩ := hM.kids
      have HA : Hid (AllLie (fun b => w.heap.size + 2 ≤ b ∧ b < (wn.alloc (.cells #[.int .i64 15, .string empty, .int .i64 nn, .slice none 0 0] 24)).heap.size ∧ some b ≠ (Value.slice none 0 0).ownBlock) (wn.alloc (.cells #[.int .i64 15, .string empty, .int .i64 nn, .slice none 0 0] 24)) [] vs) := ha
      clear ha
      go_wp2_with (at_builtin; refine wpList_append_fresh rfl (.tmp 34) (.tmp 36) 22 rfl (w.heap.size + 2) 24 i0 (.agg #[.int .i64 0, .string ⟨#[]⟩, .int .i64 0, .slice none 0 0]) 4 56 Tryz.underlying22 hi hz0 hz1' hz2 rfl (by decide) _ _ _ rfl (ho.alloc _) ⟨wn.heap.size + 1, 0, none⟩ 1 1 [.int .i64 15, .string empty, .int .i64 nn, .slice none 0 0] rfl rfl (cells4_new _ _ _ _ _ _ _ (by simp)) (by intro u hu; simp at hu; rcases hu with rfl | rfl | rfl | rfl <;> rfl) (by unfold maxLen; simp) (by simp) (by simp <;> omega) (by decide) ?_; intro v' w4 hown' hgrow hfr; obtain ⟨a4, c4, rfl, hmx', _⟩ := own_shape hown'; obtain ⟨g0, g1, g2, g3, l0, l1, l2, l3⟩ := (hM.mid.b1.alloc _).grown hgrow hM.nb; have hM4 := MK.pushed (q := (.int .i64 15, .string empty, .int .i64 nn, .slice none 0 0)) (t := .node 15 empty nn []) hM.mid ho HA.out (Lies.leaf _ _ _ _ _) hown' hgrow (by rcases hfr with e | e; exact .inl e; exact .inr (by rw [e]; simp)))
      replace hM := hM4
      refine (rmust hM.mid.rd ⟨#[93]⟩ (by decide)).mono ?_
      rintro e wb ⟨rfl, hRb, hFb⟩
      replace hM := hM.step hRb hFb
      clear hRb hFb
      go_wp2_with (fail)
      refine (rmust hM.mid.rd ⟨#[59]⟩ (by decide)).mono ?_
      rintro e wb ⟨rfl, hRb, hFb⟩
      replace hM := hM.step hRb hFb
      clear hRb hFb
      obtain ⟨p0, p1, p2, p3, o0, o1, o2, o3⟩ := hM.mid.b1
      obtain ⟨q0, q1', q2', q3, t0, t1, t2, t3⟩ := hM.mid.b0
      go_wp2
      exact bodyPost_ret (v := .agg #[.int .i64 3, .string nx, .int .i64 l, .slice a4 1 c4]) (by simp [results, Tryz.results26, go_sem, q0, q1', q2', q3]) rfl (hM.fin hR (by simp))
end
end Go.Proofs.YtchhpinmoagkhaaGreatDoor.syn
