/- What the program's proc answers: a contract. -/
import Derived.Test.YtoobkaebahogdaaGreatDoorNB11
set_option linter.unusedVariables false
set_option linter.unusedSimpArgs false
set_option maxRecDepth 100000
namespace Go.Proofs.YtoobkaebahogdaaGreatDoor
namespace syn
open Go.RowKit
open Go.Proofs.YtoobkaebahogdaaGreatDoor.lexs (Tok Fine own_shape)

section
variable {w w' w0 : World} {r G B : Nat} {ts : List Tok} {s : St}
def itemP (ts : List Tok) (_ : Nat) (s : St) : Option (Tree × St) := some (.node 5 (name ts (label ts s).2).1 (label ts s).1 [], (name ts (label ts s).2).2)
theorem paramsL_list {f : Nat} : ∀ {ks : List Tree} {s : St} {p : List Tree × St}, paramsL ts f ks s = some p → listL ts (itemP ts) f ks s = some (p.1, must ts ⟨#[41]⟩ p.2) := by
  induction f with
  | zero => intro ks s p h; unfold paramsL at h; simp at h
  | succ f ih =>
    intro ks s p h
    unfold paramsL at h
    unfold listL
    simp only [itemP, Option.bind_some]
    split at h
    · rename_i he
      rw [if_pos he]
      exact ih h
    · rename_i he
      rw [if_neg he]
      simp only [Option.some.injEq] at h
      rw [← h]
theorem params_list {f : Nat} {p : List Tree × St} (h : params ts f s = some p) : listF ts (itemP ts) f s = some (p.1, must ts ⟨#[41]⟩ p.2) := by
  unfold params at h
  unfold listF
  cases he : eqS (txt ts s) ⟨#[41]⟩
  · rw [he] at h
    simp only [Bool.false_eq_true, if_false] at h ⊢
    exact paramsL_list h
  · rw [he] at h
    simp only [if_true, Option.some.injEq] at h ⊢
    rw [← h, must_next he]
theorem itemP_st (g : Nat) (s : St) (q : Tree × St) (hb : s.bad = true) (h : itemP ts g s = some q) : q.2 = s := by
  unfold itemP at h
  simp only [Option.some.injEq] at h
  rw [← h]
  have e1 := label_st (ts := ts) hb
  show (name ts (label ts s).2).2 = s
  rw [e1]
  exact name_st hb
theorem params_st {f : Nat} {p : List Tree × St} (hb : s.bad = true) (h : params ts f s = some p) : p.2 = s := by
  unfold params at h
  rw [eqS_bad (by decide) hb, if_neg (by decide)] at h
  cases f with
  | zero => unfold paramsL at h; simp at h
  | succ f =>
    unfold paramsL at h
    have e1 := label_st (ts := ts) hb
    have e2 := name_st (ts := ts) hb
    rw [e1, e2, eqS_bad (by decide) hb, if_neg (by decide)] at h
    simp only [Option.some.injEq] at h
    rw [← h]
theorem gives_st (hb : s.bad = true) : givesS ts s = s := by
  unfold givesS
  have e1 := label_st (ts := ts) hb
  rw [e1, eqS_bad (by decide) hb, if_neg (by decide)]
def procF (ts : List Tok) (f : Nat) (n : Int) (s : St) : Option (Tree × St) :=
  (params ts f (must ts ⟨#[40]⟩ (name ts s).2)).bind fun p => (blockF ts f (givesS ts (must ts ⟨#[41]⟩ p.2))).bind fun b => some (.node 4 (name ts s).1 (givesN ts n (must ts ⟨#[41]⟩ p.2)) (p.1 ++ [b.1]), b.2)
theorem KO.rebase {wL : World} {kv : Value} {ks : List Tree} (h : KO wL B r G ts w s kv ks) (hF : Fr r w0 wL) (hr : r < w0.heap.size) : KO w0 B r G ts w s kv ks :=
  ⟨h.ld, hr, Nat.le_trans hF.size h.b0, hF.trans h.fr, h.kids⟩
set_option maxHeartbeats 8000000 in
theorem oproc {f : Nat} (hf : f ≤ 100000) (ihB : Gives r G ts 189 (blockF ts f)) {n : Int} (hn : 0 ≤ n ∧ n ≤ 2) (hL : Ld w r G ts s) {q : Tree × St} (hq : procF ts f n s = some q) :
    Calls Tryz.prog 157 #[.pointer (some ⟨r, 0, none⟩), .int .i64 n] w (OAns w r G ts q) := by
  have c24 : Tryz.prog.cellsOf 24 = 4 := by kernel_rfl
  have hmf : ∀ (fn : Fn) (first cap : Array Value) (w : World), (Instr.makeFunc fn first cap).run Tryz.prog w = .ok (.func fn first cap) w := fun _ _ _ _ => rfl
  have hr := hL.lt
  obtain ⟨i0, hi, hz0, hz1', hz2⟩ := info_parts nodeInfo
  have hB0 := Box4.new w (.int .i64 0) (.string empty) (.int .i64 0) (.slice none 0 0) 24
  unfold procF at hq
  obtain ⟨p, hp, h2⟩ := bind_some_is hq
  obtain ⟨b, hbl, h4⟩ := bind_some_is h2
  simp only [Option.some.injEq] at h4
  subst h4
  clear hq h2
  have hlist := params_list hp
  have S5 : Hid ((label ts (must ts ⟨#[41]⟩ p.2)).2.bad = true → b.2 = (label ts (must ts ⟨#[41]⟩ p.2)).2) := fun hb => by
    have e1 : givesS ts (must ts ⟨#[41]⟩ p.2) = (label ts (must ts ⟨#[41]⟩ p.2)).2 := by unfold givesS; rw [eqS_bad (by decide) hb, if_neg (by decide)]
    rw [e1] at hbl
    exact (stuck2 ts f).bk _ _ hb hbl
  have S4 : Hid ((must ts ⟨#[41]⟩ p.2).bad = true → b.2 = must ts ⟨#[41]⟩ p.2) := fun hb => by
    rw [gives_st hb] at hbl
    exact (stuck2 ts f).bk _ _ hb hbl
  have S3 : Hid ((must ts ⟨#[40]⟩ (name ts s).2).bad = true → b.2 = must ts ⟨#[40]⟩ (name ts s).2) := fun hb => by
    have e1 := params_st hb hp
    have e2 : must ts ⟨#[41]⟩ p.2 = must ts ⟨#[40]⟩ (name ts s).2 := by rw [e1]; exact must_st (by decide) hb
    rw [S4.out (by rw [e2]; exact hb), e2]
  have S2 : Hid ((name ts s).2.bad = true → b.2 = (name ts s).2) := fun hb => by
    have e1 : must ts ⟨#[40]⟩ (name ts s).2 = (name ts s).2 := must_st (by decide) hb
    rw [S3.out (by rw [e1]; exact hb), e1]
  have hNam := oname (hL.alloc (.cells #[.int .i64 0, .string empty, .int .i64 0, .slice none 0 0] 24))
  have hpl : p.1.length ≤ 100001 → True := fun _ => trivial
  generalize name ts s = nb at *
  obtain ⟨nx, ns⟩ := nb
  simp only at *
  generalize must ts ⟨#[41]⟩ p.2 = s3 at *
  obtain ⟨ks, ps⟩ := p
  simp only at *
  clear hpl hp
  go_enter Tryz.func157, Tryz.ntmps157
  go_wp2_with (fail)
  refine hNam.mono ?_
  rintro e w1 (⟨hb1, rfl, hF1⟩ | ⟨hb1, rfl, hL1, hF1⟩)
  · go_wp2
    exact ⟨rfl, OAns.lost (S2.out hb1) hb1 ((Fr.al _ _).trans hF1)⟩
  go_wp2_with (fail)
  refine (take_must (hL1.alloc _) ⟨#[40]⟩ (by decide) (by simp)).mono ?_
  rintro e w2 ⟨y2, ⟨hb2, rfl, hF2⟩ | ⟨hb2, rfl, hL2, hF2⟩⟩
  · go_wp2
    exact ⟨rfl, OAns.lost (S3.out hb2) hb2 (((Fr.al _ _).trans hF1).trans ((Fr.al _ _).trans hF2))⟩
  have z1 := hF1.size
  have z2 := hF2.size
  simp only [World.size_alloc] at z1 z2
  have hFw2 : Fr r w w2 := ((Fr.al _ _).trans hF1).trans ((Fr.al _ _).trans hF2)
  have hb52 := (Box4.new w1 (.int .i64 4) (.string nx) (.int .i64 0) (.slice none 0 0) 24).fr hF2 (by omega)
  have hb02 := ((hB0.fr hF1 (by omega)).alloc (.cells #[.int .i64 4, .string nx, .int .i64 0, .slice none 0 0] 24)).fr hF2 (by omega)
  go_wp2_with (fail)
  refine (olist_param (f := f) (fun {g} h {w s q} hL hq => by
    unfold itemP at hq
    simp only [Option.some.injEq] at hq
    rw [← hq]
    exact oparam hL) itemP_st hf hL2 hlist).mono ?_
  rintro e w3 (⟨hb3, rfl, hF3⟩ | ⟨hb3, hlen, kv, rfl, hK⟩)
  · go_wp2
    exact ⟨rfl, OAns.lost (S4.out hb3) hb3 (hFw2.trans hF3)⟩
  obtain ⟨a, c, rfl⟩ := hK.kids.shape
  have hF3 := hK.fr
  have hb53 := hb52.fr hF3 (by omega)
  have hb03 := hb02.fr hF3 (by omega)
  have hK3 := (hK.rebase hFw2 hr).set (N := w1.heap.size) (by omega) (by omega) 3 (.slice a ks.length c)
  have hb53' := hb53.set3 (.slice a ks.length c)
  have hb03' := hb03.other (M := w1.heap.size) (o := 3) (by omega) (.slice a ks.length c)
  have h01 := label_01 ts s3
  obtain ⟨p0, p1, p2, p3, o0, o1, o2, o3⟩ := id hb53
  go_wp2_with (fail)
  refine (olabel hK3.ld).mono ?_
  rintro e wl (⟨hbl0, rfl, hFl⟩ | ⟨hbl0, rfl, hLl, hFl⟩)
  · go_wp2
    exact ⟨rfl, OAns.lost (S5.out hbl0) hbl0 (hK3.fr.trans hFl)⟩
  have hKl := hK3.step hLl hFl
  have hb5l := hb53'.fr hFl (by omega)
  have hb0l := hb03'.fr hFl (by omega)
  obtain ⟨x0, x1, x2, x3, v0, v1, v2, v3⟩ := id hb5l
  cases hg : eqS (txt ts (label ts s3).2) ⟨#[103, 105, 118, 101, 115]⟩
  case false =>
    have egS : givesS ts s3 = (label ts s3).2 := by unfold givesS; rw [hg, if_neg (by decide)]
    have egN : Hid (givesN ts n s3 = (label ts s3).1 + n) := by show _ = _; unfold givesN; rw [hg, if_neg (by decide), Int.add_comm]
    rw [egS] at hbl
    generalize label ts s3 = lb at *
    obtain ⟨l1, sl⟩ := lb
    simp only at *
    have hKm := hKl.set (N := w1.heap.size) (by omega) (by omega) 2 (.int .i64 (l1 + n))
    have hb5m := hb5l.set2 (.int .i64 (l1 + n))
    have hb0m := hb0l.other (M := w1.heap.size) (o := 2) (by omega) (.int .i64 (l1 + n))
    go_wp2_with (fail)
    refine (skip_no hKm.ld ⟨#[103, 105, 118, 101, 115]⟩ (by decide) hg (by simp)).mono ?_
    rintro e wk ⟨rfl, hLk, hFk⟩
    have hKk := hKm.step hLk hFk
    have hb5 := hb5m.fr hFk (by omega)
    have hb0k := hb0m.fr hFk (by omega)
    have enum : Hid (l1 + n = givesN ts n s3) := egN.out.symm
    have zB : w2.heap.size ≤ wk.heap.size := by have a1 := hK.fr.size; have a2 := hFl.size; have a3 := hFk.size; simp only [World.size_setCell] at a2 a3; omega
    obtain ⟨p0, p1, p2, p3, _, _, _, _⟩ := id hb5
    by_cases hbq : b.2.bad = true
    · go_wp2
      refine wp_region_any (by kernel_rfl) ?_
      change wpAny _ _ _ _ _ _ _ (World.drew _)
      refine wpAny_take (i := 0) (v := .pointer (some ⟨w1.heap.size, 3, none⟩)) rfl (by kernel_rfl) (by kernel_rfl) (by kernel_rfl) (fun _ _ _ h => h) (Or.inl ⟨by rfl, fun w => by go_simp⟩) ?_
      refine wpAny_take (i := 2) (v := .pointer (some ⟨r, 0, none⟩)) rfl (by kernel_rfl) (by kernel_rfl) (by kernel_rfl) (fun _ _ _ h => h) (Or.inl ⟨by rfl, fun w => by go_simp⟩) ?_
      refine wpAny_ready (rs := [1, 3]) (by kernel_rfl) (by simp) ?_
      refine AllReady.cons rfl (fun K hK => ?_) ?_
      · go_simp
        refine hK _ _ ?_
        clear hK K
        refine wpAny_ready (rs := [3]) (by kernel_rfl) (by simp) ?_
        refine AllReady.cons rfl (fun K hK => ?_) AllReady.nil
        go_simp
        go_at_call 189
        refine (ihB.lost (hKk.ld.drewN 1) hbl hbq).mono ?_
        rintro e w5 ⟨rfl, hF5⟩
        go_wp2
        exact ⟨rfl, OAns.lost rfl hbq ((hKk.fr.drewN 1).trans hF5)⟩
      refine AllReady.cons rfl (fun K hK => ?_) AllReady.nil
      go_simp
      go_at_call 189
      refine (ihB.lost (hKk.ld.drewN 1) hbl hbq).mono ?_
      rintro e w5 ⟨rfl, hF5⟩
      go_wp2
      exact ⟨rfl, OAns.lost rfl hbq ((hKk.fr.drewN 1).trans hF5)⟩
    · have hbq' : b.2.bad = false := by simpa using hbq
      go_wp2
      refine wp_region_any (by kernel_rfl) ?_
      change wpAny _ _ _ _ _ _ _ (World.drew _)
      refine wpAny_take (i := 0) (v := .pointer (some ⟨w1.heap.size, 3, none⟩)) rfl (by kernel_rfl) (by kernel_rfl) (by kernel_rfl) (fun _ _ _ h => h) (Or.inl ⟨by rfl, fun w => by go_simp⟩) ?_
      refine wpAny_take (i := 2) (v := .pointer (some ⟨r, 0, none⟩)) rfl (by kernel_rfl) (by kernel_rfl) (by kernel_rfl) (fun _ _ _ h => h) (Or.inl ⟨by rfl, fun w => by go_simp⟩) ?_
      refine wpAny_ready (rs := [1, 3]) (by kernel_rfl) (by simp) ?_
      refine AllReady.cons rfl (fun K hK => ?_) ?_
      · go_simp
        refine hK _ _ ?_
        clear hK K
        refine wpAny_ready (rs := [3]) (by kernel_rfl) (by simp) ?_
        refine AllReady.cons rfl (fun K hK => ?_) AllReady.nil
        go_simp
        go_at_call 189
        refine (ihB.fine (hKk.ld.drewN 1) hbl hbq').mono ?_
        rintro e w4 ⟨v4, rfl, hl4, hL4, hF4⟩
        obtain ⟨kc, yc, mc, _, rfl, ac, nc, cc, rfl⟩ := hl4.shape
        have hF24 : Fr r wk w4 := ((Fr.refl r wk).drewN 1).trans hF4
        have hkb : ∀ g, (Value.slice a ks.length c).ownBlock = some g → w2.heap.size ≤ g ∧ g < wk.heap.size := fun g hg => hKk.kids.blk hg
        have hK4 := hKk.step hL4 hF24
        have zz := hF24.size
        have hbz := hKk.b0
        have zfr := hKk.fr.size
        have hlc : Lies (fun b => w2.heap.size ≤ b ∧ b < w4.heap.size ∧ some b ≠ (Value.slice a ks.length c).ownBlock) w4 b.1 (.agg #[.int .i64 kc, .string yc, .int .i64 mc, .slice ac nc cc]) :=
          hl4.to (fun b hb => by
            have h1 : wk.heap.size ≤ b := hb.1
            exact ⟨by omega, hb.2, fun e => by have := (hkb b e.symm).2; omega⟩) (fun _ _ _ => rfl)
        obtain ⟨vs, ho, ha⟩ := hK4.kids
        have HA : Hid (AllLie (fun b => w2.heap.size ≤ b ∧ b < w4.heap.size ∧ some b ≠ (Value.slice a ks.length c).ownBlock) w4 ks vs) := ha
        have hb14 := hb5.fr hF24 (by omega)
        have hb04 := hb0k.fr hF24 (by omega)
        obtain ⟨g0, g1, g2, g3, _, _, _, _⟩ := id hb14
        have z4 : w1.heap.size < w4.heap.size := hb14.lt
        have z4' : w.heap.size < w4.heap.size := hb04.lt
        clear ha
        go_wp2
        refine wpAny_ready (rs := [4]) (by kernel_rfl) (by simp) ?_
        refine AllReady.cons rfl (fun K hK => ?_) AllReady.nil
        go_simp
        refine hK _ _ ?_
        clear hK K
        refine wpAny_ready (rs := [5]) (by kernel_rfl) (by simp) ?_
        refine AllReady.cons rfl (fun K hK => ?_) AllReady.nil
        refine step_append_lies _ (by rfl) (.tmp 37) (.tmp 40) 22 (by rfl) w2.heap.size 24 i0 (.agg #[.int .i64 0, .string ⟨#[]⟩, .int .i64 0, .slice none 0 0]) 4 56 Tryz.underlying22 hi hz0 hz1' hz2 rfl (by decide) (.slice a ks.length c) ks.length (flat4 vs) rfl (ho.alloc _) ⟨w4.heap.size, 0, none⟩ 1 1 [.int .i64 kc, .string yc, .int .i64 mc, .slice ac nc cc] rfl rfl (cells4_new _ _ _ _ _ _ _ rfl) (by intro u hu; simp at hu; rcases hu with rfl | rfl | rfl | rfl <;> rfl) (by omega) (by unfold maxLen; omega) (by omega) (by simp; omega) (w4.heap.size + 1) (by simp) ?_
        intro g cap w5 hown' hgrow hat hlt
        refine hK _ _ ?_
        clear hK K
        have hK5 := KO.pushed (q := (.int .i64 kc, .string yc, .int .i64 mc, .slice ac nc cc)) (t := b.1) hK4 ho HA.out hlc hown' hgrow (by rcases hat with e | e; exact .inl e.symm; exact .inr (by rw [e]; rfl))
        have hnb : (Value.slice a ks.length c).ownBlock ≠ some w1.heap.size := fun e => by have := (hkb _ e).1; omega
        have hnb0 : (Value.slice a ks.length c).ownBlock ≠ some w.heap.size := fun e => by have := (hkb _ e).1; omega
        have hb15 := (hb14.alloc (.cells #[.int .i64 kc, .string yc, .int .i64 mc, .slice ac nc cc] 24)).grown hgrow hnb
        have hb05 := (hb04.alloc (.cells #[.int .i64 kc, .string yc, .int .i64 mc, .slice ac nc cc] 24)).grown hgrow hnb0
        obtain ⟨e0, e1, e2, e3, d0, d1, d2, d3⟩ := id hb15
        obtain ⟨j0, j1, j2, j3, jj0, jj1, jj2, jj3⟩ := id hb05
        refine wpAny_ready (rs := [6]) (by kernel_rfl) (by simp) ?_
        refine AllReady.cons rfl (fun K hK => ?_) AllReady.nil
        go_simp
        refine hK _ _ ?_
        clear hK K
        refine wpAny_ready (rs := [7]) (by kernel_rfl) (by simp) ?_
        refine AllReady.cons rfl (fun K hK => ?_) AllReady.nil
        go_simp
        refine hK _ _ ?_
        clear hK K
        refine wpAny_done (by kernel_rfl) ?_ _
        go_wp2
        have hK6 := hK5.set (N := w1.heap.size) (by omega) (by omega) 3 (.slice (some ⟨g, 0, none⟩) (ks.length + 1) cap)
        exact bodyPost_ret (v := .agg #[.int .i64 4, .string nx, .int .i64 (l1 + n), .slice (some ⟨g, 0, none⟩) (ks.length + 1) cap]) (by simp [results, Tryz.results157, go_sem, j0, j1, j2, j3]) rfl (by rw [← enum.out]; exact OAns.kids hr hK6 (Nat.le_refl _) (by omega) (by rw [List.length_append]; simp; omega))
      refine AllReady.cons rfl (fun K hK => ?_) AllReady.nil
      go_simp
      go_at_call 189
      refine (ihB.fine (hKk.ld.drewN 1) hbl hbq').mono ?_
      rintro e w4 ⟨v4, rfl, hl4, hL4, hF4⟩
      obtain ⟨kc, yc, mc, _, rfl, ac, nc, cc, rfl⟩ := hl4.shape
      have hF24 : Fr r wk w4 := ((Fr.refl r wk).drewN 1).trans hF4
      have hkb : ∀ g, (Value.slice a ks.length c).ownBlock = some g → w2.heap.size ≤ g ∧ g < wk.heap.size := fun g hg => hKk.kids.blk hg
      have hK4 := hKk.step hL4 hF24
      have zz := hF24.size
      have hbz := hKk.b0
      have zfr := hKk.fr.size
      have hlc : Lies (fun b => w2.heap.size ≤ b ∧ b < w4.heap.size ∧ some b ≠ (Value.slice a ks.length c).ownBlock) w4 b.1 (.agg #[.int .i64 kc, .string yc, .int .i64 mc, .slice ac nc cc]) :=
        hl4.to (fun b hb => by
          have h1 : wk.heap.size ≤ b := hb.1
          exact ⟨by omega, hb.2, fun e => by have := (hkb b e.symm).2; omega⟩) (fun _ _ _ => rfl)
      obtain ⟨vs, ho, ha⟩ := hK4.kids
      have HA : Hid (AllLie (fun b => w2.heap.size ≤ b ∧ b < w4.heap.size ∧ some b ≠ (Value.slice a ks.length c).ownBlock) w4 ks vs) := ha
      have hb14 := hb5.fr hF24 (by omega)
      have hb04 := hb0k.fr hF24 (by omega)
      obtain ⟨g0, g1, g2, g3, _, _, _, _⟩ := id hb14
      have z4 : w1.heap.size < w4.heap.size := hb14.lt
      have z4' : w.heap.size < w4.heap.size := hb04.lt
      clear ha
      go_wp2
      refine wpAny_ready (rs := [1, 4]) (by kernel_rfl) (by simp) ?_
      refine AllReady.cons rfl (fun K hK => ?_) ?_
      · go_simp
        refine hK _ _ ?_
        clear hK K
        refine wpAny_ready (rs := [4]) (by kernel_rfl) (by simp) ?_
        refine AllReady.cons rfl (fun K hK => ?_) AllReady.nil
        go_simp
        refine hK _ _ ?_
        clear hK K
        refine wpAny_ready (rs := [5]) (by kernel_rfl) (by simp) ?_
        refine AllReady.cons rfl (fun K hK => ?_) AllReady.nil
        refine step_append_lies _ (by rfl) (.tmp 37) (.tmp 40) 22 (by rfl) w2.heap.size 24 i0 (.agg #[.int .i64 0, .string ⟨#[]⟩, .int .i64 0, .slice none 0 0]) 4 56 Tryz.underlying22 hi hz0 hz1' hz2 rfl (by decide) (.slice a ks.length c) ks.length (flat4 vs) rfl (ho.alloc _) ⟨w4.heap.size, 0, none⟩ 1 1 [.int .i64 kc, .string yc, .int .i64 mc, .slice ac nc cc] rfl rfl (cells4_new _ _ _ _ _ _ _ rfl) (by intro u hu; simp at hu; rcases hu with rfl | rfl | rfl | rfl <;> rfl) (by omega) (by unfold maxLen; omega) (by omega) (by simp; omega) (w4.heap.size + 1) (by simp) ?_
        intro g cap w5 hown' hgrow hat hlt
        refine hK _ _ ?_
        clear hK K
        have hK5 := KO.pushed (q := (.int .i64 kc, .string yc, .int .i64 mc, .slice ac nc cc)) (t := b.1) hK4 ho HA.out hlc hown' hgrow (by rcases hat with e | e; exact .inl e.symm; exact .inr (by rw [e]; rfl))
        have hnb : (Value.slice a ks.length c).ownBlock ≠ some w1.heap.size := fun e => by have := (hkb _ e).1; omega
        have hnb0 : (Value.slice a ks.length c).ownBlock ≠ some w.heap.size := fun e => by have := (hkb _ e).1; omega
        have hb15 := (hb14.alloc (.cells #[.int .i64 kc, .string yc, .int .i64 mc, .slice ac nc cc] 24)).grown hgrow hnb
        have hb05 := (hb04.alloc (.cells #[.int .i64 kc, .string yc, .int .i64 mc, .slice ac nc cc] 24)).grown hgrow hnb0
        obtain ⟨e0, e1, e2, e3, d0, d1, d2, d3⟩ := id hb15
        obtain ⟨j0, j1, j2, j3, jj0, jj1, jj2, jj3⟩ := id hb05
        refine wpAny_ready (rs := [6]) (by kernel_rfl) (by simp) ?_
        refine AllReady.cons rfl (fun K hK => ?_) AllReady.nil
        go_simp
        refine hK _ _ ?_
        clear hK K
        refine wpAny_ready (rs := [7]) (by kernel_rfl) (by simp) ?_
        refine AllReady.cons rfl (fun K hK => ?_) AllReady.nil
        go_simp
        refine hK _ _ ?_
        clear hK K
        refine wpAny_done (by kernel_rfl) ?_ _
        go_wp2
        have hK6 := hK5.set (N := w1.heap.size) (by omega) (by omega) 3 (.slice (some ⟨g, 0, none⟩) (ks.length + 1) cap)
        exact bodyPost_ret (v := .agg #[.int .i64 4, .string nx, .int .i64 (l1 + n), .slice (some ⟨g, 0, none⟩) (ks.length + 1) cap]) (by simp [results, Tryz.results157, go_sem, j0, j1, j2, j3]) rfl (by rw [← enum.out]; exact OAns.kids hr hK6 (Nat.le_refl _) (by omega) (by rw [List.length_append]; simp; omega))
      refine AllReady.cons rfl (fun K hK => ?_) AllReady.nil
      go_simp
      refine hK _ _ ?_
      clear hK K
      refine wpAny_ready (rs := [1]) (by kernel_rfl) (by simp) ?_
      refine AllReady.cons rfl (fun K hK => ?_) AllReady.nil
      go_simp
      refine hK _ _ ?_
      clear hK K
      refine wpAny_ready (rs := [5]) (by kernel_rfl) (by simp) ?_
      refine AllReady.cons rfl (fun K hK => ?_) AllReady.nil
      refine step_append_lies _ (by rfl) (.tmp 37) (.tmp 40) 22 (by rfl) w2.heap.size 24 i0 (.agg #[.int .i64 0, .string ⟨#[]⟩, .int .i64 0, .slice none 0 0]) 4 56 Tryz.underlying22 hi hz0 hz1' hz2 rfl (by decide) (.slice a ks.length c) ks.length (flat4 vs) rfl (ho.alloc _) ⟨w4.heap.size, 0, none⟩ 1 1 [.int .i64 kc, .string yc, .int .i64 mc, .slice ac nc cc] rfl rfl (cells4_new _ _ _ _ _ _ _ rfl) (by intro u hu; simp at hu; rcases hu with rfl | rfl | rfl | rfl <;> rfl) (by omega) (by unfold maxLen; omega) (by omega) (by simp; omega) (w4.heap.size + 1) (by simp) ?_
      intro g cap w5 hown' hgrow hat hlt
      refine hK _ _ ?_
      clear hK K
      have hK5 := KO.pushed (q := (.int .i64 kc, .string yc, .int .i64 mc, .slice ac nc cc)) (t := b.1) hK4 ho HA.out hlc hown' hgrow (by rcases hat with e | e; exact .inl e.symm; exact .inr (by rw [e]; rfl))
      have hnb : (Value.slice a ks.length c).ownBlock ≠ some w1.heap.size := fun e => by have := (hkb _ e).1; omega
      have hnb0 : (Value.slice a ks.length c).ownBlock ≠ some w.heap.size := fun e => by have := (hkb _ e).1; omega
      have hb15 := (hb14.alloc (.cells #[.int .i64 kc, .string yc, .int .i64 mc, .slice ac nc cc] 24)).grown hgrow hnb
      have hb05 := (hb04.alloc (.cells #[.int .i64 kc, .string yc, .int .i64 mc, .slice ac nc cc] 24)).grown hgrow hnb0
      obtain ⟨e0, e1, e2, e3, d0, d1, d2, d3⟩ := id hb15
      obtain ⟨j0, j1, j2, j3, jj0, jj1, jj2, jj3⟩ := id hb05
      refine wpAny_ready (rs := [6]) (by kernel_rfl) (by simp) ?_
      refine AllReady.cons rfl (fun K hK => ?_) AllReady.nil
      go_simp
      refine hK _ _ ?_
      clear hK K
      refine wpAny_ready (rs := [7]) (by kernel_rfl) (by simp) ?_
      refine AllReady.cons rfl (fun K hK => ?_) AllReady.nil
      go_simp
      refine hK _ _ ?_
      clear hK K
      refine wpAny_done (by kernel_rfl) ?_ _
      go_wp2
      have hK6 := hK5.set (N := w1.heap.size) (by omega) (by omega) 3 (.slice (some ⟨g, 0, none⟩) (ks.length + 1) cap)
      exact bodyPost_ret (v := .agg #[.int .i64 4, .string nx, .int .i64 (l1 + n), .slice (some ⟨g, 0, none⟩) (ks.length + 1) cap]) (by simp [results, Tryz.results157, go_sem, j0, j1, j2, j3]) rfl (by rw [← enum.out]; exact OAns.kids hr hK6 (Nat.le_refl _) (by omega) (by rw [List.length_append]; simp; omega))
  case true =>
    have egS : givesS ts s3 = (label ts (label ts s3).2.next).2 := by unfold givesS; rw [hg, if_pos rfl]
    have egN : Hid (givesN ts n s3 = (label ts s3).1 + n + 4 + 4 * (label ts (label ts s3).2.next).1) := by show _ = _; unfold givesN; rw [hg, if_pos rfl, Int.add_comm n]
    rw [egS] at hbl
    have h02 := label_01 ts (label ts s3).2.next
    have S6 : Hid ((label ts (label ts s3).2.next).2.bad = true → b.2 = (label ts (label ts s3).2.next).2) := fun hb => (stuck2 ts f).bk _ _ hb hbl
    have hLab2 := fun (w : World) (h : Ld w r G ts (label ts s3).2.next) => olabel h
    generalize label ts (label ts s3).2.next = lb2 at *
    obtain ⟨l2, sl2⟩ := lb2
    generalize label ts s3 = lb at *
    obtain ⟨l1, sl⟩ := lb
    simp only at *
    have hKm := hKl.set (N := w1.heap.size) (by omega) (by omega) 2 (.int .i64 (l1 + n))
    have hb5m := hb5l.set2 (.int .i64 (l1 + n))
    have hb0m := hb0l.other (M := w1.heap.size) (o := 2) (by omega) (.int .i64 (l1 + n))
    go_wp2_with (fail)
    refine (skip_yes hKm.ld ⟨#[103, 105, 118, 101, 115]⟩ (by decide) hg (by simp)).mono ?_
    rintro e wg ⟨rfl, hLg, hFg⟩
    have hKg := hKm.step hLg hFg
    have hb5g := hb5m.fr hFg (by omega)
    have hb0g := hb0m.fr hFg (by omega)
    obtain ⟨g0', g1', g2', g3', k0', k1', k2', k3'⟩ := id hb5g
    have hKh := hKg.set (N := w1.heap.size) (by omega) (by omega) 2 (.int .i64 (l1 + n + 4))
    have hb5h := hb5g.set2 (.int .i64 (l1 + n + 4))
    have hb0h := hb0g.other (M := w1.heap.size) (o := 2) (by omega) (.int .i64 (l1 + n + 4))
    go_wp2_with (fail)
    refine (hLab2 _ hKh.ld).mono ?_
    rintro e wk (⟨hbk, rfl, hFk⟩ | ⟨hbk, rfl, hLk, hFk⟩)
    · go_wp2
      exact ⟨rfl, OAns.lost (S6.out hbk) hbk (hKh.fr.trans hFk)⟩
    have hKi := hKh.step hLk hFk
    have hb5i := hb5h.fr hFk (by omega)
    have hb0i := hb0h.fr hFk (by omega)
    have zB : w2.heap.size ≤ wk.heap.size := by have a1 := hK.fr.size; have a2 := hFl.size; have a3 := hFk.size; have a4 := hFg.size; simp only [World.size_setCell] at a2 a3 a4; omega
    rcases (show l2 = 0 ∨ l2 = 1 by omega) with rfl | rfl
    · have hKk := hKi
      have hb5 := hb5i
      have hb0k := hb0i
      have enum : Hid (l1 + n + 4 = givesN ts n s3) := by show _ = _; rw [egN.out]; omega
      obtain ⟨p0, p1, p2, p3, _, _, _, _⟩ := id hb5
      by_cases hbq : b.2.bad = true
      · go_wp2
        refine wp_region_any (by kernel_rfl) ?_
        change wpAny _ _ _ _ _ _ _ (World.drew _)
        refine wpAny_take (i := 0) (v := .pointer (some ⟨w1.heap.size, 3, none⟩)) rfl (by kernel_rfl) (by kernel_rfl) (by kernel_rfl) (fun _ _ _ h => h) (Or.inl ⟨by rfl, fun w => by go_simp⟩) ?_
        refine wpAny_take (i := 2) (v := .pointer (some ⟨r, 0, none⟩)) rfl (by kernel_rfl) (by kernel_rfl) (by kernel_rfl) (fun _ _ _ h => h) (Or.inl ⟨by rfl, fun w => by go_simp⟩) ?_
        refine wpAny_ready (rs := [1, 3]) (by kernel_rfl) (by simp) ?_
        refine AllReady.cons rfl (fun K hK => ?_) ?_
        · go_simp
          refine hK _ _ ?_
          clear hK K
          refine wpAny_ready (rs := [3]) (by kernel_rfl) (by simp) ?_
          refine AllReady.cons rfl (fun K hK => ?_) AllReady.nil
          go_simp
          go_at_call 189
          refine (ihB.lost (hKk.ld.drewN 1) hbl hbq).mono ?_
          rintro e w5 ⟨rfl, hF5⟩
          go_wp2
          exact ⟨rfl, OAns.lost rfl hbq ((hKk.fr.drewN 1).trans hF5)⟩
        refine AllReady.cons rfl (fun K hK => ?_) AllReady.nil
        go_simp
        go_at_call 189
        refine (ihB.lost (hKk.ld.drewN 1) hbl hbq).mono ?_
        rintro e w5 ⟨rfl, hF5⟩
        go_wp2
        exact ⟨rfl, OAns.lost rfl hbq ((hKk.fr.drewN 1).trans hF5)⟩
      · have hbq' : b.2.bad = false := by simpa using hbq
        go_wp2
        refine wp_region_any (by kernel_rfl) ?_
        change wpAny _ _ _ _ _ _ _ (World.drew _)
        refine wpAny_take (i := 0) (v := .pointer (some ⟨w1.heap.size, 3, none⟩)) rfl (by kernel_rfl) (by kernel_rfl) (by kernel_rfl) (fun _ _ _ h => h) (Or.inl ⟨by rfl, fun w => by go_simp⟩) ?_
        refine wpAny_take (i := 2) (v := .pointer (some ⟨r, 0, none⟩)) rfl (by kernel_rfl) (by kernel_rfl) (by kernel_rfl) (fun _ _ _ h => h) (Or.inl ⟨by rfl, fun w => by go_simp⟩) ?_
        refine wpAny_ready (rs := [1, 3]) (by kernel_rfl) (by simp) ?_
        refine AllReady.cons rfl (fun K hK => ?_) ?_
        · go_simp
          refine hK _ _ ?_
          clear hK K
          refine wpAny_ready (rs := [3]) (by kernel_rfl) (by simp) ?_
          refine AllReady.cons rfl (fun K hK => ?_) AllReady.nil
          go_simp
          go_at_call 189
          refine (ihB.fine (hKk.ld.drewN 1) hbl hbq').mono ?_
          rintro e w4 ⟨v4, rfl, hl4, hL4, hF4⟩
          obtain ⟨kc, yc, mc, _, rfl, ac, nc, cc, rfl⟩ := hl4.shape
          have hF24 : Fr r wk w4 := ((Fr.refl r wk).drewN 1).trans hF4
          have hkb : ∀ g, (Value.slice a ks.length c).ownBlock = some g → w2.heap.size ≤ g ∧ g < wk.heap.size := fun g hg => hKk.kids.blk hg
          have hK4 := hKk.step hL4 hF24
          have zz := hF24.size
          have hbz := hKk.b0
          have zfr := hKk.fr.size
          have hlc : Lies (fun b => w2.heap.size ≤ b ∧ b < w4.heap.size ∧ some b ≠ (Value.slice a ks.length c).ownBlock) w4 b.1 (.agg #[.int .i64 kc, .string yc, .int .i64 mc, .slice ac nc cc]) :=
            hl4.to (fun b hb => by
              have h1 : wk.heap.size ≤ b := hb.1
              exact ⟨by omega, hb.2, fun e => by have := (hkb b e.symm).2; omega⟩) (fun _ _ _ => rfl)
          obtain ⟨vs, ho, ha⟩ := hK4.kids
          have HA : Hid (AllLie (fun b => w2.heap.size ≤ b ∧ b < w4.heap.size ∧ some b ≠ (Value.slice a ks.length c).ownBlock) w4 ks vs) := ha
          have hb14 := hb5.fr hF24 (by omega)
          have hb04 := hb0k.fr hF24 (by omega)
          obtain ⟨g0, g1, g2, g3, _, _, _, _⟩ := id hb14
          have z4 : w1.heap.size < w4.heap.size := hb14.lt
          have z4' : w.heap.size < w4.heap.size := hb04.lt
          clear ha
          go_wp2
          refine wpAny_ready (rs := [4]) (by kernel_rfl) (by simp) ?_
          refine AllReady.cons rfl (fun K hK => ?_) AllReady.nil
          go_simp
          refine hK _ _ ?_
          clear hK K
          refine wpAny_ready (rs := [5]) (by kernel_rfl) (by simp) ?_
          refine AllReady.cons rfl (fun K hK => ?_) AllReady.nil
          refine step_append_lies _ (by rfl) (.tmp 37) (.tmp 40) 22 (by rfl) w2.heap.size 24 i0 (.agg #[.int .i64 0, .string ⟨#[]⟩, .int .i64 0, .slice none 0 0]) 4 56 Tryz.underlying22 hi hz0 hz1' hz2 rfl (by decide) (.slice a ks.length c) ks.length (flat4 vs) rfl (ho.alloc _) ⟨w4.heap.size, 0, none⟩ 1 1 [.int .i64 kc, .string yc, .int .i64 mc, .slice ac nc cc] rfl rfl (cells4_new _ _ _ _ _ _ _ rfl) (by intro u hu; simp at hu; rcases hu with rfl | rfl | rfl | rfl <;> rfl) (by omega) (by unfold maxLen; omega) (by omega) (by simp; omega) (w4.heap.size + 1) (by simp) ?_
          intro g cap w5 hown' hgrow hat hlt
          refine hK _ _ ?_
          clear hK K
          have hK5 := KO.pushed (q := (.int .i64 kc, .string yc, .int .i64 mc, .slice ac nc cc)) (t := b.1) hK4 ho HA.out hlc hown' hgrow (by rcases hat with e | e; exact .inl e.symm; exact .inr (by rw [e]; rfl))
          have hnb : (Value.slice a ks.length c).ownBlock ≠ some w1.heap.size := fun e => by have := (hkb _ e).1; omega
          have hnb0 : (Value.slice a ks.length c).ownBlock ≠ some w.heap.size := fun e => by have := (hkb _ e).1; omega
          have hb15 := (hb14.alloc (.cells #[.int .i64 kc, .string yc, .int .i64 mc, .slice ac nc cc] 24)).grown hgrow hnb
          have hb05 := (hb04.alloc (.cells #[.int .i64 kc, .string yc, .int .i64 mc, .slice ac nc cc] 24)).grown hgrow hnb0
          obtain ⟨e0, e1, e2, e3, d0, d1, d2, d3⟩ := id hb15
          obtain ⟨j0, j1, j2, j3, jj0, jj1, jj2, jj3⟩ := id hb05
          refine wpAny_ready (rs := [6]) (by kernel_rfl) (by simp) ?_
          refine AllReady.cons rfl (fun K hK => ?_) AllReady.nil
          go_simp
          refine hK _ _ ?_
          clear hK K
          refine wpAny_ready (rs := [7]) (by kernel_rfl) (by simp) ?_
          refine AllReady.cons rfl (fun K hK => ?_) AllReady.nil
          go_simp
          refine hK _ _ ?_
          clear hK K
          refine wpAny_done (by kernel_rfl) ?_ _
          go_wp2
          have hK6 := hK5.set (N := w1.heap.size) (by omega) (by omega) 3 (.slice (some ⟨g, 0, none⟩) (ks.length + 1) cap)
          exact bodyPost_ret (v := .agg #[.int .i64 4, .string nx, .int .i64 (l1 + n + 4), .slice (some ⟨g, 0, none⟩) (ks.length + 1) cap]) (by simp [results, Tryz.results157, go_sem, j0, j1, j2, j3]) rfl (by rw [← enum.out]; exact OAns.kids hr hK6 (Nat.le_refl _) (by omega) (by rw [List.length_append]; simp; omega))
        refine AllReady.cons rfl (fun K hK => ?_) AllReady.nil
        go_simp
        go_at_call 189
        refine (ihB.fine (hKk.ld.drewN 1) hbl hbq').mono ?_
        rintro e w4 ⟨v4, rfl, hl4, hL4, hF4⟩
        obtain ⟨kc, yc, mc, _, rfl, ac, nc, cc, rfl⟩ := hl4.shape
        have hF24 : Fr r wk w4 := ((Fr.refl r wk).drewN 1).trans hF4
        have hkb : ∀ g, (Value.slice a ks.length c).ownBlock = some g → w2.heap.size ≤ g ∧ g < wk.heap.size := fun g hg => hKk.kids.blk hg
        have hK4 := hKk.step hL4 hF24
        have zz := hF24.size
        have hbz := hKk.b0
        have zfr := hKk.fr.size
        have hlc : Lies (fun b => w2.heap.size ≤ b ∧ b < w4.heap.size ∧ some b ≠ (Value.slice a ks.length c).ownBlock) w4 b.1 (.agg #[.int .i64 kc, .string yc, .int .i64 mc, .slice ac nc cc]) :=
          hl4.to (fun b hb => by
            have h1 : wk.heap.size ≤ b := hb.1
            exact ⟨by omega, hb.2, fun e => by have := (hkb b e.symm).2; omega⟩) (fun _ _ _ => rfl)
        obtain ⟨vs, ho, ha⟩ := hK4.kids
        have HA : Hid (AllLie (fun b => w2.heap.size ≤ b ∧ b < w4.heap.size ∧ some b ≠ (Value.slice a ks.length c).ownBlock) w4 ks vs) := ha
        have hb14 := hb5.fr hF24 (by omega)
        have hb04 := hb0k.fr hF24 (by omega)
        obtain ⟨g0, g1, g2, g3, _, _, _, _⟩ := id hb14
        have z4 : w1.heap.size < w4.heap.size := hb14.lt
        have z4' : w.heap.size < w4.heap.size := hb04.lt
        clear ha
        go_wp2
        refine wpAny_ready (rs := [1, 4]) (by kernel_rfl) (by simp) ?_
        refine AllReady.cons rfl (fun K hK => ?_) ?_
        · go_simp
          refine hK _ _ ?_
          clear hK K
          refine wpAny_ready (rs := [4]) (by kernel_rfl) (by simp) ?_
          refine AllReady.cons rfl (fun K hK => ?_) AllReady.nil
          go_simp
          refine hK _ _ ?_
          clear hK K
          refine wpAny_ready (rs := [5]) (by kernel_rfl) (by simp) ?_
          refine AllReady.cons rfl (fun K hK => ?_) AllReady.nil
          refine step_append_lies _ (by rfl) (.tmp 37) (.tmp 40) 22 (by rfl) w2.heap.size 24 i0 (.agg #[.int .i64 0, .string ⟨#[]⟩, .int .i64 0, .slice none 0 0]) 4 56 Tryz.underlying22 hi hz0 hz1' hz2 rfl (by decide) (.slice a ks.length c) ks.length (flat4 vs) rfl (ho.alloc _) ⟨w4.heap.size, 0, none⟩ 1 1 [.int .i64 kc, .string yc, .int .i64 mc, .slice ac nc cc] rfl rfl (cells4_new _ _ _ _ _ _ _ rfl) (by intro u hu; simp at hu; rcases hu with rfl | rfl | rfl | rfl <;> rfl) (by omega) (by unfold maxLen; omega) (by omega) (by simp; omega) (w4.heap.size + 1) (by simp) ?_
          intro g cap w5 hown' hgrow hat hlt
          refine hK _ _ ?_
          clear hK K
          have hK5 := KO.pushed (q := (.int .i64 kc, .string yc, .int .i64 mc, .slice ac nc cc)) (t := b.1) hK4 ho HA.out hlc hown' hgrow (by rcases hat with e | e; exact .inl e.symm; exact .inr (by rw [e]; rfl))
          have hnb : (Value.slice a ks.length c).ownBlock ≠ some w1.heap.size := fun e => by have := (hkb _ e).1; omega
          have hnb0 : (Value.slice a ks.length c).ownBlock ≠ some w.heap.size := fun e => by have := (hkb _ e).1; omega
          have hb15 := (hb14.alloc (.cells #[.int .i64 kc, .string yc, .int .i64 mc, .slice ac nc cc] 24)).grown hgrow hnb
          have hb05 := (hb04.alloc (.cells #[.int .i64 kc, .string yc, .int .i64 mc, .slice ac nc cc] 24)).grown hgrow hnb0
          obtain ⟨e0, e1, e2, e3, d0, d1, d2, d3⟩ := id hb15
          obtain ⟨j0, j1, j2, j3, jj0, jj1, jj2, jj3⟩ := id hb05
          refine wpAny_ready (rs := [6]) (by kernel_rfl) (by simp) ?_
          refine AllReady.cons rfl (fun K hK => ?_) AllReady.nil
          go_simp
          refine hK _ _ ?_
          clear hK K
          refine wpAny_ready (rs := [7]) (by kernel_rfl) (by simp) ?_
          refine AllReady.cons rfl (fun K hK => ?_) AllReady.nil
          go_simp
          refine hK _ _ ?_
          clear hK K
          refine wpAny_done (by kernel_rfl) ?_ _
          go_wp2
          have hK6 := hK5.set (N := w1.heap.size) (by omega) (by omega) 3 (.slice (some ⟨g, 0, none⟩) (ks.length + 1) cap)
          exact bodyPost_ret (v := .agg #[.int .i64 4, .string nx, .int .i64 (l1 + n + 4), .slice (some ⟨g, 0, none⟩) (ks.length + 1) cap]) (by simp [results, Tryz.results157, go_sem, j0, j1, j2, j3]) rfl (by rw [← enum.out]; exact OAns.kids hr hK6 (Nat.le_refl _) (by omega) (by rw [List.length_append]; simp; omega))
        refine AllReady.cons rfl (fun K hK => ?_) AllReady.nil
        go_simp
        refine hK _ _ ?_
        clear hK K
        refine wpAny_ready (rs := [1]) (by kernel_rfl) (by simp) ?_
        refine AllReady.cons rfl (fun K hK => ?_) AllReady.nil
        go_simp
        refine hK _ _ ?_
        clear hK K
        refine wpAny_ready (rs := [5]) (by kernel_rfl) (by simp) ?_
        refine AllReady.cons rfl (fun K hK => ?_) AllReady.nil
        refine step_append_lies _ (by rfl) (.tmp 37) (.tmp 40) 22 (by rfl) w2.heap.size 24 i0 (.agg #[.int .i64 0, .string ⟨#[]⟩, .int .i64 0, .slice none 0 0]) 4 56 Tryz.underlying22 hi hz0 hz1' hz2 rfl (by decide) (.slice a ks.length c) ks.length (flat4 vs) rfl (ho.alloc _) ⟨w4.heap.size, 0, none⟩ 1 1 [.int .i64 kc, .string yc, .int .i64 mc, .slice ac nc cc] rfl rfl (cells4_new _ _ _ _ _ _ _ rfl) (by intro u hu; simp at hu; rcases hu with rfl | rfl | rfl | rfl <;> rfl) (by omega) (by unfold maxLen; omega) (by omega) (by simp; omega) (w4.heap.size + 1) (by simp) ?_
        intro g cap w5 hown' hgrow hat hlt
        refine hK _ _ ?_
        clear hK K
        have hK5 := KO.pushed (q := (.int .i64 kc, .string yc, .int .i64 mc, .slice ac nc cc)) (t := b.1) hK4 ho HA.out hlc hown' hgrow (by rcases hat with e | e; exact .inl e.symm; exact .inr (by rw [e]; rfl))
        have hnb : (Value.slice a ks.length c).ownBlock ≠ some w1.heap.size := fun e => by have := (hkb _ e).1; omega
        have hnb0 : (Value.slice a ks.length c).ownBlock ≠ some w.heap.size := fun e => by have := (hkb _ e).1; omega
        have hb15 := (hb14.alloc (.cells #[.int .i64 kc, .string yc, .int .i64 mc, .slice ac nc cc] 24)).grown hgrow hnb
        have hb05 := (hb04.alloc (.cells #[.int .i64 kc, .string yc, .int .i64 mc, .slice ac nc cc] 24)).grown hgrow hnb0
        obtain ⟨e0, e1, e2, e3, d0, d1, d2, d3⟩ := id hb15
        obtain ⟨j0, j1, j2, j3, jj0, jj1, jj2, jj3⟩ := id hb05
        refine wpAny_ready (rs := [6]) (by kernel_rfl) (by simp) ?_
        refine AllReady.cons rfl (fun K hK => ?_) AllReady.nil
        go_simp
        refine hK _ _ ?_
        clear hK K
        refine wpAny_ready (rs := [7]) (by kernel_rfl) (by simp) ?_
        refine AllReady.cons rfl (fun K hK => ?_) AllReady.nil
        go_simp
        refine hK _ _ ?_
        clear hK K
        refine wpAny_done (by kernel_rfl) ?_ _
        go_wp2
        have hK6 := hK5.set (N := w1.heap.size) (by omega) (by omega) 3 (.slice (some ⟨g, 0, none⟩) (ks.length + 1) cap)
        exact bodyPost_ret (v := .agg #[.int .i64 4, .string nx, .int .i64 (l1 + n + 4), .slice (some ⟨g, 0, none⟩) (ks.length + 1) cap]) (by simp [results, Tryz.results157, go_sem, j0, j1, j2, j3]) rfl (by rw [← enum.out]; exact OAns.kids hr hK6 (Nat.le_refl _) (by omega) (by rw [List.length_append]; simp; omega))
    · obtain ⟨y0', y1', y2', y3', m0', m1', m2', m3'⟩ := id hb5i
      have hKk' := hKi.set (N := w1.heap.size) (by omega) (by omega) 2 (.int .i64 (l1 + n + 4 + 4))
      have hb5' := hb5i.set2 (.int .i64 (l1 + n + 4 + 4))
      have hb0k' := hb0i.other (M := w1.heap.size) (o := 2) (by omega) (.int .i64 (l1 + n + 4 + 4))
      have enum : Hid (l1 + n + 4 + 4 = givesN ts n s3) := by show _ = _; rw [egN.out]; omega
      go_wp2
      have zB' : w2.heap.size ≤ (wk.setCell ⟨w1.heap.size, 2, none⟩ (.int .i64 (l1 + n + 4 + 4))).heap.size := by rw [World.size_setCell]; exact zB
      have hKk := hKk'
      have hb5 := hb5'
      have hb0k := hb0k'
      clear zB hKk' hb5' hb0k'
      generalize wk.setCell ⟨w1.heap.size, 2, none⟩ (.int .i64 (l1 + n + 4 + 4)) = wz at *
      have zB := zB'
      obtain ⟨p0, p1, p2, p3, _, _, _, _⟩ := id hb5
      by_cases hbq : b.2.bad = true
      · go_wp2
        refine wp_region_any (by kernel_rfl) ?_
        change wpAny _ _ _ _ _ _ _ (World.drew _)
        refine wpAny_take (i := 0) (v := .pointer (some ⟨w1.heap.size, 3, none⟩)) rfl (by kernel_rfl) (by kernel_rfl) (by kernel_rfl) (fun _ _ _ h => h) (Or.inl ⟨by rfl, fun w => by go_simp⟩) ?_
        refine wpAny_take (i := 2) (v := .pointer (some ⟨r, 0, none⟩)) rfl (by kernel_rfl) (by kernel_rfl) (by kernel_rfl) (fun _ _ _ h => h) (Or.inl ⟨by rfl, fun w => by go_simp⟩) ?_
        refine wpAny_ready (rs := [1, 3]) (by kernel_rfl) (by simp) ?_
        refine AllReady.cons rfl (fun K hK => ?_) ?_
        · go_simp
          refine hK _ _ ?_
          clear hK K
          refine wpAny_ready (rs := [3]) (by kernel_rfl) (by simp) ?_
          refine AllReady.cons rfl (fun K hK => ?_) AllReady.nil
          go_simp
          go_at_call 189
          refine (ihB.lost (hKk.ld.drewN 1) hbl hbq).mono ?_
          rintro e w5 ⟨rfl, hF5⟩
          go_wp2
          exact ⟨rfl, OAns.lost rfl hbq ((hKk.fr.drewN 1).trans hF5)⟩
        refine AllReady.cons rfl (fun K hK => ?_) AllReady.nil
        go_simp
        go_at_call 189
        refine (ihB.lost (hKk.ld.drewN 1) hbl hbq).mono ?_
        rintro e w5 ⟨rfl, hF5⟩
        go_wp2
        exact ⟨rfl, OAns.lost rfl hbq ((hKk.fr.drewN 1).trans hF5)⟩
      · have hbq' : b.2.bad = false := by simpa using hbq
        go_wp2
        refine wp_region_any (by kernel_rfl) ?_
        change wpAny _ _ _ _ _ _ _ (World.drew _)
        refine wpAny_take (i := 0) (v := .pointer (some ⟨w1.heap.size, 3, none⟩)) rfl (by kernel_rfl) (by kernel_rfl) (by kernel_rfl) (fun _ _ _ h => h) (Or.inl ⟨by rfl, fun w => by go_simp⟩) ?_
        refine wpAny_take (i := 2) (v := .pointer (some ⟨r, 0, none⟩)) rfl (by kernel_rfl) (by kernel_rfl) (by kernel_rfl) (fun _ _ _ h => h) (Or.inl ⟨by rfl, fun w => by go_simp⟩) ?_
        refine wpAny_ready (rs := [1, 3]) (by kernel_rfl) (by simp) ?_
        refine AllReady.cons rfl (fun K hK => ?_) ?_
        · go_simp
          refine hK _ _ ?_
          clear hK K
          refine wpAny_ready (rs := [3]) (by kernel_rfl) (by simp) ?_
          refine AllReady.cons rfl (fun K hK => ?_) AllReady.nil
          go_simp
          go_at_call 189
          refine (ihB.fine (hKk.ld.drewN 1) hbl hbq').mono ?_
          rintro e w4 ⟨v4, rfl, hl4, hL4, hF4⟩
          obtain ⟨kc, yc, mc, _, rfl, ac, nc, cc, rfl⟩ := hl4.shape
          have hF24 : Fr r wz w4 := ((Fr.refl r wz).drewN 1).trans hF4
          have hkb : ∀ g, (Value.slice a ks.length c).ownBlock = some g → w2.heap.size ≤ g ∧ g < wz.heap.size := fun g hg => hKk.kids.blk hg
          have hK4 := hKk.step hL4 hF24
          have zz := hF24.size
          have hbz := hKk.b0
          have zfr := hKk.fr.size
          have hlc : Lies (fun b => w2.heap.size ≤ b ∧ b < w4.heap.size ∧ some b ≠ (Value.slice a ks.length c).ownBlock) w4 b.1 (.agg #[.int .i64 kc, .string yc, .int .i64 mc, .slice ac nc cc]) :=
            hl4.to (fun b hb => by
              have h1 : wz.heap.size ≤ b := hb.1
              exact ⟨by omega, hb.2, fun e => by have := (hkb b e.symm).2; omega⟩) (fun _ _ _ => rfl)
          obtain ⟨vs, ho, ha⟩ := hK4.kids
          have HA : Hid (AllLie (fun b => w2.heap.size ≤ b ∧ b < w4.heap.size ∧ some b ≠ (Value.slice a ks.length c).ownBlock) w4 ks vs) := ha
          have hb14 := hb5.fr hF24 (by omega)
          have hb04 := hb0k.fr hF24 (by omega)
          obtain ⟨g0, g1, g2, g3, _, _, _, _⟩ := id hb14
          have z4 : w1.heap.size < w4.heap.size := hb14.lt
          have z4' : w.heap.size < w4.heap.size := hb04.lt
          clear ha
          go_wp2
          refine wpAny_ready (rs := [4]) (by kernel_rfl) (by simp) ?_
          refine AllReady.cons rfl (fun K hK => ?_) AllReady.nil
          go_simp
          refine hK _ _ ?_
          clear hK K
          refine wpAny_ready (rs := [5]) (by kernel_rfl) (by simp) ?_
          refine AllReady.cons rfl (fun K hK => ?_) AllReady.nil
          refine step_append_lies _ (by rfl) (.tmp 37) (.tmp 40) 22 (by rfl) w2.heap.size 24 i0 (.agg #[.int .i64 0, .string ⟨#[]⟩, .int .i64 0, .slice none 0 0]) 4 56 Tryz.underlying22 hi hz0 hz1' hz2 rfl (by decide) (.slice a ks.length c) ks.length (flat4 vs) rfl (ho.alloc _) ⟨w4.heap.size, 0, none⟩ 1 1 [.int .i64 kc, .string yc, .int .i64 mc, .slice ac nc cc] rfl rfl (cells4_new _ _ _ _ _ _ _ rfl) (by intro u hu; simp at hu; rcases hu with rfl | rfl | rfl | rfl <;> rfl) (by omega) (by unfold maxLen; omega) (by omega) (by simp; omega) (w4.heap.size + 1) (by simp) ?_
          intro g cap w5 hown' hgrow hat hlt
          refine hK _ _ ?_
          clear hK K
          have hK5 := KO.pushed (q := (.int .i64 kc, .string yc, .int .i64 mc, .slice ac nc cc)) (t := b.1) hK4 ho HA.out hlc hown' hgrow (by rcases hat with e | e; exact .inl e.symm; exact .inr (by rw [e]; rfl))
          have hnb : (Value.slice a ks.length c).ownBlock ≠ some w1.heap.size := fun e => by have := (hkb _ e).1; omega
          have hnb0 : (Value.slice a ks.length c).ownBlock ≠ some w.heap.size := fun e => by have := (hkb _ e).1; omega
          have hb15 := (hb14.alloc (.cells #[.int .i64 kc, .string yc, .int .i64 mc, .slice ac nc cc] 24)).grown hgrow hnb
          have hb05 := (hb04.alloc (.cells #[.int .i64 kc, .string yc, .int .i64 mc, .slice ac nc cc] 24)).grown hgrow hnb0
          obtain ⟨e0, e1, e2, e3, d0, d1, d2, d3⟩ := id hb15
          obtain ⟨j0, j1, j2, j3, jj0, jj1, jj2, jj3⟩ := id hb05
          refine wpAny_ready (rs := [6]) (by kernel_rfl) (by simp) ?_
          refine AllReady.cons rfl (fun K hK => ?_) AllReady.nil
          go_simp
          refine hK _ _ ?_
          clear hK K
          refine wpAny_ready (rs := [7]) (by kernel_rfl) (by simp) ?_
          refine AllReady.cons rfl (fun K hK => ?_) AllReady.nil
          go_simp
          refine hK _ _ ?_
          clear hK K
          refine wpAny_done (by kernel_rfl) ?_ _
          go_wp2
          have hK6 := hK5.set (N := w1.heap.size) (by omega) (by omega) 3 (.slice (some ⟨g, 0, none⟩) (ks.length + 1) cap)
          exact bodyPost_ret (v := .agg #[.int .i64 4, .string nx, .int .i64 (l1 + n + 4 + 4), .slice (some ⟨g, 0, none⟩) (ks.length + 1) cap]) (by simp [results, Tryz.results157, go_sem, j0, j1, j2, j3]) rfl (by rw [← enum.out]; exact OAns.kids hr hK6 (Nat.le_refl _) (by omega) (by rw [List.length_append]; simp; omega))
        refine AllReady.cons rfl (fun K hK => ?_) AllReady.nil
        go_simp
        go_at_call 189
        refine (ihB.fine (hKk.ld.drewN 1) hbl hbq').mono ?_
        rintro e w4 ⟨v4, rfl, hl4, hL4, hF4⟩
        obtain ⟨kc, yc, mc, _, rfl, ac, nc, cc, rfl⟩ := hl4.shape
        have hF24 : Fr r wz w4 := ((Fr.refl r wz).drewN 1).trans hF4
        have hkb : ∀ g, (Value.slice a ks.length c).ownBlock = some g → w2.heap.size ≤ g ∧ g < wz.heap.size := fun g hg => hKk.kids.blk hg
        have hK4 := hKk.step hL4 hF24
        have zz := hF24.size
        have hbz := hKk.b0
        have zfr := hKk.fr.size
        have hlc : Lies (fun b => w2.heap.size ≤ b ∧ b < w4.heap.size ∧ some b ≠ (Value.slice a ks.length c).ownBlock) w4 b.1 (.agg #[.int .i64 kc, .string yc, .int .i64 mc, .slice ac nc cc]) :=
          hl4.to (fun b hb => by
            have h1 : wz.heap.size ≤ b := hb.1
            exact ⟨by omega, hb.2, fun e => by have := (hkb b e.symm).2; omega⟩) (fun _ _ _ => rfl)
        obtain ⟨vs, ho, ha⟩ := hK4.kids
        have HA : Hid (AllLie (fun b => w2.heap.size ≤ b ∧ b < w4.heap.size ∧ some b ≠ (Value.slice a ks.length c).ownBlock) w4 ks vs) := ha
        have hb14 := hb5.fr hF24 (by omega)
        have hb04 := hb0k.fr hF24 (by omega)
        obtain ⟨g0, g1, g2, g3, _, _, _, _⟩ := id hb14
        have z4 : w1.heap.size < w4.heap.size := hb14.lt
        have z4' : w.heap.size < w4.heap.size := hb04.lt
        clear ha
        go_wp2
        refine wpAny_ready (rs := [1, 4]) (by kernel_rfl) (by simp) ?_
        refine AllReady.cons rfl (fun K hK => ?_) ?_
        · go_simp
          refine hK _ _ ?_
          clear hK K
          refine wpAny_ready (rs := [4]) (by kernel_rfl) (by simp) ?_
          refine AllReady.cons rfl (fun K hK => ?_) AllReady.nil
          go_simp
          refine hK _ _ ?_
          clear hK K
          refine wpAny_ready (rs := [5]) (by kernel_rfl) (by simp) ?_
          refine AllReady.cons rfl (fun K hK => ?_) AllReady.nil
          refine step_append_lies _ (by rfl) (.tmp 37) (.tmp 40) 22 (by rfl) w2.heap.size 24 i0 (.agg #[.int .i64 0, .string ⟨#[]⟩, .int .i64 0, .slice none 0 0]) 4 56 Tryz.underlying22 hi hz0 hz1' hz2 rfl (by decide) (.slice a ks.length c) ks.length (flat4 vs) rfl (ho.alloc _) ⟨w4.heap.size, 0, none⟩ 1 1 [.int .i64 kc, .string yc, .int .i64 mc, .slice ac nc cc] rfl rfl (cells4_new _ _ _ _ _ _ _ rfl) (by intro u hu; simp at hu; rcases hu with rfl | rfl | rfl | rfl <;> rfl) (by omega) (by unfold maxLen; omega) (by omega) (by simp; omega) (w4.heap.size + 1) (by simp) ?_
          intro g cap w5 hown' hgrow hat hlt
          refine hK _ _ ?_
          clear hK K
          have hK5 := KO.pushed (q := (.int .i64 kc, .string yc, .int .i64 mc, .slice ac nc cc)) (t := b.1) hK4 ho HA.out hlc hown' hgrow (by rcases hat with e | e; exact .inl e.symm; exact .inr (by rw [e]; rfl))
          have hnb : (Value.slice a ks.length c).ownBlock ≠ some w1.heap.size := fun e => by have := (hkb _ e).1; omega
          have hnb0 : (Value.slice a ks.length c).ownBlock ≠ some w.heap.size := fun e => by have := (hkb _ e).1; omega
          have hb15 := (hb14.alloc (.cells #[.int .i64 kc, .string yc, .int .i64 mc, .slice ac nc cc] 24)).grown hgrow hnb
          have hb05 := (hb04.alloc (.cells #[.int .i64 kc, .string yc, .int .i64 mc, .slice ac nc cc] 24)).grown hgrow hnb0
          obtain ⟨e0, e1, e2, e3, d0, d1, d2, d3⟩ := id hb15
          obtain ⟨j0, j1, j2, j3, jj0, jj1, jj2, jj3⟩ := id hb05
          refine wpAny_ready (rs := [6]) (by kernel_rfl) (by simp) ?_
          refine AllReady.cons rfl (fun K hK => ?_) AllReady.nil
          go_simp
          refine hK _ _ ?_
          clear hK K
          refine wpAny_ready (rs := [7]) (by kernel_rfl) (by simp) ?_
          refine AllReady.cons rfl (fun K hK => ?_) AllReady.nil
          go_simp
          refine hK _ _ ?_
          clear hK K
          refine wpAny_done (by kernel_rfl) ?_ _
          go_wp2
          have hK6 := hK5.set (N := w1.heap.size) (by omega) (by omega) 3 (.slice (some ⟨g, 0, none⟩) (ks.length + 1) cap)
          exact bodyPost_ret (v := .agg #[.int .i64 4, .string nx, .int .i64 (l1 + n + 4 + 4), .slice (some ⟨g, 0, none⟩) (ks.length + 1) cap]) (by simp [results, Tryz.results157, go_sem, j0, j1, j2, j3]) rfl (by rw [← enum.out]; exact OAns.kids hr hK6 (Nat.le_refl _) (by omega) (by rw [List.length_append]; simp; omega))
        refine AllReady.cons rfl (fun K hK => ?_) AllReady.nil
        go_simp
        refine hK _ _ ?_
        clear hK K
        refine wpAny_ready (rs := [1]) (by kernel_rfl) (by simp) ?_
        refine AllReady.cons rfl (fun K hK => ?_) AllReady.nil
        go_simp
        refine hK _ _ ?_
        clear hK K
        refine wpAny_ready (rs := [5]) (by kernel_rfl) (by simp) ?_
        refine AllReady.cons rfl (fun K hK => ?_) AllReady.nil
        refine step_append_lies _ (by rfl) (.tmp 37) (.tmp 40) 22 (by rfl) w2.heap.size 24 i0 (.agg #[.int .i64 0, .string ⟨#[]⟩, .int .i64 0, .slice none 0 0]) 4 56 Tryz.underlying22 hi hz0 hz1' hz2 rfl (by decide) (.slice a ks.length c) ks.length (flat4 vs) rfl (ho.alloc _) ⟨w4.heap.size, 0, none⟩ 1 1 [.int .i64 kc, .string yc, .int .i64 mc, .slice ac nc cc] rfl rfl (cells4_new _ _ _ _ _ _ _ rfl) (by intro u hu; simp at hu; rcases hu with rfl | rfl | rfl | rfl <;> rfl) (by omega) (by unfold maxLen; omega) (by omega) (by simp; omega) (w4.heap.size + 1) (by simp) ?_
        intro g cap w5 hown' hgrow hat hlt
        refine hK _ _ ?_
        clear hK K
        have hK5 := KO.pushed (q := (.int .i64 kc, .string yc, .int .i64 mc, .slice ac nc cc)) (t := b.1) hK4 ho HA.out hlc hown' hgrow (by rcases hat with e | e; exact .inl e.symm; exact .inr (by rw [e]; rfl))
        have hnb : (Value.slice a ks.length c).ownBlock ≠ some w1.heap.size := fun e => by have := (hkb _ e).1; omega
        have hnb0 : (Value.slice a ks.length c).ownBlock ≠ some w.heap.size := fun e => by have := (hkb _ e).1; omega
        have hb15 := (hb14.alloc (.cells #[.int .i64 kc, .string yc, .int .i64 mc, .slice ac nc cc] 24)).grown hgrow hnb
        have hb05 := (hb04.alloc (.cells #[.int .i64 kc, .string yc, .int .i64 mc, .slice ac nc cc] 24)).grown hgrow hnb0
        obtain ⟨e0, e1, e2, e3, d0, d1, d2, d3⟩ := id hb15
        obtain ⟨j0, j1, j2, j3, jj0, jj1, jj2, jj3⟩ := id hb05
        refine wpAny_ready (rs := [6]) (by kernel_rfl) (by simp) ?_
        refine AllReady.cons rfl (fun K hK => ?_) AllReady.nil
        go_simp
        refine hK _ _ ?_
        clear hK K
        refine wpAny_ready (rs := [7]) (by kernel_rfl) (by simp) ?_
        refine AllReady.cons rfl (fun K hK => ?_) AllReady.nil
        go_simp
        refine hK _ _ ?_
        clear hK K
        refine wpAny_done (by kernel_rfl) ?_ _
        go_wp2
        have hK6 := hK5.set (N := w1.heap.size) (by omega) (by omega) 3 (.slice (some ⟨g, 0, none⟩) (ks.length + 1) cap)
        exact bodyPost_ret (v := .agg #[.int .i64 4, .string nx, .int .i64 (l1 + n + 4 + 4), .slice (some ⟨g, 0, none⟩) (ks.length + 1) cap]) (by simp [results, Tryz.results157, go_sem, j0, j1, j2, j3]) rfl (by rw [← enum.out]; exact OAns.kids hr hK6 (Nat.le_refl _) (by omega) (by rw [List.length_append]; simp; omega))
end
end syn
end Go.Proofs.YtoobkaebahogdaaGreatDoor
