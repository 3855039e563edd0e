/- What the program's module answers: a contract. -/
import Derived.Test.YtoobkaebahogdaaGreatDoorNB13
set_option linter.unusedVariables false
set_option linter.unusedSimpArgs false
set_option maxRecDepth 100000
namespace Go.Proofs.YtoobkaebahogdaaGreatDoor
namespace syn
open Go.RowKit
open Go.Proofs.YtoobkaebahogdaaGreatDoor.lexs (Tok Fine own_shape)

section
variable {w w' w0 : World} {r G B : Nat} {ts : List Tok} {s : St}
theorem importsL_st {f : Nat} {ks : List Tree} {p : List Tree × St} (hb : s.bad = true) (h : importsL ts f ks s = some p) : p.2 = s := by
  cases f with
  | zero => unfold importsL at h; simp at h
  | succ f =>
    unfold importsL at h
    rw [eqS_bad (by decide) hb, if_neg (by decide)] at h
    simp only [Option.some.injEq] at h
    rw [← h]
theorem declsL_st {f : Nat} {ks : List Tree} {p : List Tree × St} (hb : s.bad = true) (h : declsL ts f ks s = some p) : p.2 = s := by
  cases f with
  | zero => unfold declsL at h; simp at h
  | succ f =>
    unfold declsL at h
    rw [hb] at h
    simp only [Bool.true_or, if_true, Option.some.injEq] at h
    rw [← h]
theorem name_lost (hL : Ld w r G ts s) (hb : (name ts s).2.bad = true) : Calls Tryz.prog 119 #[.pointer (some ⟨r, 0, none⟩)] w fun e w' => e = .panicked (Pan ts (name ts s).2) ∧ Fr r w w' :=
  (oname hL).mono fun e w' h => by
    rcases h with ⟨_, h1, h2⟩ | ⟨h1, _⟩
    · exact ⟨h1, h2⟩
    · rw [hb] at h1; cases h1
theorem name_fine (hL : Ld w r G ts s) (hb : (name ts s).2.bad = false) : Calls Tryz.prog 119 #[.pointer (some ⟨r, 0, none⟩)] w fun e w' => e = .returned (.string (name ts s).1) ∧ Ld w' r G ts (name ts s).2 ∧ Fr r w w' :=
  (oname hL).mono fun e w' h => by
    rcases h with ⟨h1, _⟩ | ⟨_, h1, h2, h3⟩
    · rw [hb] at h1; cases h1
    · exact ⟨h1, h2, h3⟩
theorem ended_lost (hL : Ld w r G ts s) (k m : Int) (x : ByteArray) (a : Option Addr) (n c : Nat) (hb : (must ts ⟨#[59]⟩ s).bad = true) : Calls Tryz.prog 121 #[.pointer (some ⟨r, 0, none⟩), .agg #[.int .i64 k, .string x, .int .i64 m, .slice a n c]] w fun e w' => e = .panicked (Pan ts (must ts ⟨#[59]⟩ s)) ∧ Fr r w w' :=
  (oended hL k m x a n c).mono fun e w' h => by
    rcases h with ⟨_, h1, h2⟩ | ⟨h1, _⟩
    · exact ⟨h1, h2⟩
    · rw [hb] at h1; cases h1
theorem ended_fine (hL : Ld w r G ts s) (k m : Int) (x : ByteArray) (a : Option Addr) (n c : Nat) (hb : (must ts ⟨#[59]⟩ s).bad = false) : Calls Tryz.prog 121 #[.pointer (some ⟨r, 0, none⟩), .agg #[.int .i64 k, .string x, .int .i64 m, .slice a n c]] w fun e w' => e = .returned (.agg #[.int .i64 k, .string x, .int .i64 m, .slice a n c]) ∧ Ld w' r G ts (must ts ⟨#[59]⟩ s) ∧ Fr r w w' :=
  (oended hL k m x a n c).mono fun e w' h => by
    rcases h with ⟨h1, _⟩ | ⟨_, h1, h2, h3⟩
    · rw [hb] at h1; cases h1
    · exact ⟨h1, h2, h3⟩
set_option maxHeartbeats 16000000 in
theorem omodule (hL : Ld w r G ts ⟨0, false⟩) {q : Tree × St} (hq : moduleF ts = some q) : Calls Tryz.prog 60 #[.pointer (some ⟨r, 0, none⟩)] w (OAns w r G ts q) := by
  have c24 : Tryz.prog.cellsOf 24 = 4 := by kernel_rfl
  have hr := hL.lt
  have hlen := hL.len
  obtain ⟨i0, hi, hz0, hz1', hz2⟩ := info_parts nodeInfo
  have hD : Gives r G ts 122 (declF ts 100000) := odecl (Nat.le_refl _) (goodY r G ts 100000 (Nat.le_refl _) (Nat.le_refl _)).b
  have hB0 := Box4.new w (.int .i64 0) (.string empty) (.int .i64 0) (.slice none 0 0) 24
  unfold moduleF at hq
  obtain ⟨p, hp, h2⟩ := bind_some_is hq
  obtain ⟨d, hd, h4⟩ := bind_some_is h2
  simp only [Option.some.injEq] at h4
  subst h4
  clear hq h2
  have T1 : Hid (p.2.bad = true → d.2 = p.2) := fun hb => declsL_st hb hd
  have T2 : Hid ((headS ts).bad = true → d.2 = headS ts) := fun hb => by
    have e1 := importsL_st hb hp
    rw [T1.out (by rw [e1]; exact hb), e1]
  have T3 : Hid ((name ts (must ts ⟨#[109, 111, 100, 117, 108, 101]⟩ ⟨0, false⟩)).2.bad = true → d.2 = (name ts (must ts ⟨#[109, 111, 100, 117, 108, 101]⟩ ⟨0, false⟩)).2) := fun hb => by
    have e1 : headS ts = (name ts (must ts ⟨#[109, 111, 100, 117, 108, 101]⟩ ⟨0, false⟩)).2 := by unfold headS; exact must_st (by decide) hb
    rw [T2.out (by rw [e1]; exact hb), e1]
  have T4 : Hid ((must ts ⟨#[109, 111, 100, 117, 108, 101]⟩ ⟨0, false⟩).bad = true → d.2 = must ts ⟨#[109, 111, 100, 117, 108, 101]⟩ ⟨0, false⟩) := fun hb => by
    have e1 := name_st (ts := ts) hb
    rw [T3.out (by rw [e1]; exact hb), e1]
  have HP : Hid (importsL ts 4000 [] (headS ts) = some p) := hp
  have HD : Hid (declsL ts 4000 p.1 p.2 = some d) := hd
  clear hp hd
  have hT := take_must (T := 9) (hL.alloc (.cells #[.int .i64 0, .string empty, .int .i64 0, .slice none 0 0] 24)) ⟨#[109, 111, 100, 117, 108, 101]⟩ (by decide) (M := w.heap.size + 1) (by simp)
  unfold headX
  unfold headS at HP T2
  generalize must ts ⟨#[109, 111, 100, 117, 108, 101]⟩ ⟨0, false⟩ = s1 at *
  have hNam := fun (w : World) (h : Ld w r G ts s1) => oname h
  generalize name ts s1 = nb at *
  obtain ⟨nx, ns⟩ := nb
  simp only at *
  go_enter Tryz.func60, Tryz.ntmps60
  go_wp2_with (fail)
  refine hT.mono ?_
  rintro e w1 ⟨y1, ⟨hb1, rfl, hF1⟩ | ⟨hb1, rfl, hL1, hF1⟩⟩
  · go_wp2
    exact ⟨rfl, OAns.lost (T4.out hb1) hb1 ((Fr.al _ _).trans hF1)⟩
  go_wp2_with (fail)
  refine (hNam _ hL1).mono ?_
  rintro e w2 (⟨hb2, rfl, hF2⟩ | ⟨hb2, rfl, hL2, hF2⟩)
  · go_wp2
    exact ⟨rfl, OAns.lost (T3.out hb2) hb2 (((Fr.al _ _).trans hF1).trans hF2)⟩
  go_wp2_with (fail)
  refine (take_must (hL2.alloc _) ⟨#[59]⟩ (by decide) (by simp)).mono ?_
  rintro e w3 ⟨y3, ⟨hb3, rfl, hF3⟩ | ⟨hb3, rfl, hL3, hF3⟩⟩
  · go_wp2
    exact ⟨rfl, OAns.lost (T2.out hb3) hb3 ((((Fr.al _ _).trans hF1).trans hF2).trans ((Fr.al _ _).trans hF3))⟩
  have z1 := hF1.size
  have z2 := hF2.size
  have z3 := hF3.size
  simp only [World.size_alloc] at z1 z3
  have hFw3 : Fr r w w3 := (((Fr.al _ _).trans hF1).trans hF2).trans ((Fr.al _ _).trans hF3)
  have hbm := (Box4.new w2 (.int .i64 1) (.string nx) (.int .i64 0) (.slice none 0 0) 24).fr hF3 (by omega)
  have hbr := (((hB0.fr hF1 (by omega)).fr hF2 (by omega)).alloc (.cells #[.int .i64 1, .string nx, .int .i64 0, .slice none 0 0] 24)).fr hF3 (by omega)
  clear T2 T3 T4 hT hNam
  go_wp2
  go_loopg [] 4000 (fun k wr => ∃ (ks : List Tree) (s1 : St) (kv : Value), Hid (importsL ts k ks s1 = some p) ∧ ks.length + k ≤ 4000 ∧ KO w (w2.heap.size + 1) r G ts wr s1 kv ks ∧ Box4 wr w2.heap.size (.int .i64 1) (.string nx) (.int .i64 0) kv ∧ Box4 wr w.heap.size (.int .i64 0) (.string empty) (.int .i64 0) (.slice none 0 0))
  case atStart => exact ⟨[], _, .slice none 0 0, HP.out, by simp, ⟨hL3, hr, by omega, hFw3, Kids.nil _ _ _⟩, hbm, hbr⟩
  case round =>
    obtain ⟨ks, s1, kv, HL, hkf, hK, hb1, hb0⟩ := hrel
    clear HP
    obtain ⟨a, c, rfl⟩ := hK.kids.shape
    cases gk with
    | zero => have := HL.out; unfold importsL at this; simp at this
    | succ k =>
      have hq2 := HL.out
      clear HL
      unfold importsL at hq2
      cases he : eqS (txt ts s1) ⟨#[105, 109, 112, 111, 114, 116]⟩
      case false =>
        rw [he, if_neg (by decide)] at hq2
        simp only [Option.some.injEq] at hq2
        subst hq2
        go_wp2_with (fail)
        refine (skip_no hK.ld ⟨#[105, 109, 112, 111, 114, 116]⟩ (by decide) he rfl).mono ?_
        rintro e wi ⟨rfl, hLi, hFi⟩
        have hKi := hK.step hLi hFi
        have hb1i := hb1.fr hFi (by omega)
        have hb0i := hb0.fr hFi (by omega)
        clear T1 hK hb1 hb0 he
        go_wp2
        go_loopg [] 4000 (fun k wr => ∃ (ks : List Tree) (s1 : St) (kv : Value), Hid (declsL ts k ks s1 = some d) ∧ ks.length + k ≤ 8000 ∧ KO w (w2.heap.size + 1) r G ts wr s1 kv ks ∧ Box4 wr w2.heap.size (.int .i64 1) (.string nx) (.int .i64 0) kv ∧ Box4 wr w.heap.size (.int .i64 0) (.string empty) (.int .i64 0) (.slice none 0 0))
        case atStart => exact ⟨ks, s1, _, HD.out, by omega, hKi, hb1i, hb0i⟩
        case round =>
          clear HD hKi hb1i hb0i hLi hFi
          obtain ⟨ks, s1, kv, HL, hkf, hKq, hb1q, hb0q⟩ := hrel
          obtain ⟨a, c, rfl⟩ := hKq.kids.shape
          obtain ⟨wq, hwq⟩ : ∃ wq, wq = wr := ⟨_, rfl⟩
          obtain rfl := hwq
          obtain ⟨al, cp, h0, h1', h2⟩ := hKq.ld.c0
          cases gk with
          | zero => have := HL.out; unfold declsL at this; simp at this
          | succ k =>
            have hq2 := HL.out
            clear HL
            unfold declsL at hq2
            rw [hKq.ld.ok] at hq2
            by_cases hlt : ts.length ≤ s1.i
            · rw [decide_eq_true hlt] at hq2
              simp only [Bool.or_true, if_true, Option.some.injEq] at hq2
              subst hq2
              have hn : ts.length - s1.i = 0 := by omega
              rw [hn] at h0
              obtain ⟨p0, p1, p2, p3, _, _, _, _⟩ := id hb1q
              obtain ⟨t0, t1, t2, t3, u0, u1, u2, u3⟩ := id hb0q
              go_wp2
              exact bodyPost_ret (v := .agg #[.int .i64 1, .string nx, .int .i64 0, .slice a ks.length c]) (by simp [results, Tryz.results60, go_sem, t0, t1, t2, t3]) rfl (OAns.kids hr hKq (Nat.le_refl _) (by omega) (by omega))
            · rw [decide_eq_false hlt] at hq2
              simp only [Bool.or_false, Bool.false_eq_true, if_false] at hq2
              obtain ⟨q1, h1, hq3⟩ := bind_some_is hq2
              have HQ : Hid (declsL ts k (ks ++ [q1.1]) q1.2 = some d) := hq3
              clear hq2 hq3
              obtain rfl := h2 (by omega)
              have hn : 0 < ts.length - s1.i := by omega
              have hn' : ts.length - s1.i ≤ 3000 := by omega
              generalize ts.length - s1.i = nl at *
              obtain ⟨p0, p1, p2, p3, _, _, _, _⟩ := id hb1q
              by_cases hbq : q1.2.bad = true
              · have HS : Hid (d.2 = q1.2) := declsL_st hbq HQ.out
                go_wp2
                refine wp_region_any (by kernel_rfl) ?_
                change wpAny _ _ _ _ _ _ _ (World.drew _)
                refine wpAny_take (i := 0) (v := .pointer (some ⟨w2.heap.size, 3, none⟩)) rfl (by kernel_rfl) (by kernel_rfl) (by kernel_rfl) (fun _ _ _ h => h) (Or.inl ⟨by rfl, fun w => by go_simp⟩) ?_
                refine wpAny_take (i := 2) (v := .pointer (some ⟨r, 0, none⟩)) rfl (by kernel_rfl) (by kernel_rfl) (by kernel_rfl) (fun _ _ _ h => h) (Or.inl ⟨by rfl, fun w => by go_simp⟩) ?_
                refine wpAny_ready (rs := [1, 3]) (by kernel_rfl) (by simp) ?_
                refine AllReady.cons rfl (fun K hK => ?_) ?_
                · skip
                  go_simp
                  refine hK _ _ ?_
                  clear hK K
                  refine wpAny_ready (rs := [3]) (by kernel_rfl) (by simp) ?_
                  refine AllReady.cons rfl (fun K hK => ?_) AllReady.nil
                  go_simp
                  go_at_call 122
                  refine (hD.lost (hKq.ld.drewN 1) h1 hbq).mono ?_
                  rintro e w5 ⟨rfl, hF5⟩
                  go_wp2
                  exact ⟨rfl, OAns.lost HS.out hbq ((hKq.fr.drewN 1).trans hF5)⟩
                refine AllReady.cons rfl (fun K hK => ?_) AllReady.nil
                go_simp
                go_at_call 122
                refine (hD.lost (hKq.ld.drewN 1) h1 hbq).mono ?_
                rintro e w5 ⟨rfl, hF5⟩
                go_wp2
                exact ⟨rfl, OAns.lost HS.out hbq ((hKq.fr.drewN 1).trans hF5)⟩
              have hbq' : q1.2.bad = false := by simpa using hbq
              go_wp2
              refine wp_region_any (by kernel_rfl) ?_
              change wpAny _ _ _ _ _ _ _ (World.drew _)
              refine wpAny_take (i := 0) (v := .pointer (some ⟨w2.heap.size, 3, none⟩)) rfl (by kernel_rfl) (by kernel_rfl) (by kernel_rfl) (fun _ _ _ h => h) (Or.inl ⟨by rfl, fun w => by go_simp⟩) ?_
              refine wpAny_take (i := 2) (v := .pointer (some ⟨r, 0, none⟩)) rfl (by kernel_rfl) (by kernel_rfl) (by kernel_rfl) (fun _ _ _ h => h) (Or.inl ⟨by rfl, fun w => by go_simp⟩) ?_
              refine wpAny_ready (rs := [1, 3]) (by kernel_rfl) (by simp) ?_
              refine AllReady.cons rfl (fun K hK => ?_) ?_
              · skip
                go_simp
                refine hK _ _ ?_
                clear hK K
                refine wpAny_ready (rs := [3]) (by kernel_rfl) (by simp) ?_
                refine AllReady.cons rfl (fun K hK => ?_) AllReady.nil
                go_simp
                go_at_call 122
                refine (hD.fine (hKq.ld.drewN 1) h1 hbq').mono ?_
                rintro e w6 ⟨v6, rfl, hl6, hL6, hF6⟩
                obtain ⟨kc, yc, mc, _, rfl, ac, nc, cc, rfl⟩ := hl6.shape
                have hFq6 : Fr r wq w6 := ((Fr.refl r wq).drewN 1).trans hF6
                have hkb : ∀ g, (Value.slice a ks.length c).ownBlock = some g → w2.heap.size + 1 ≤ g ∧ g < wq.heap.size := fun g hg => hKq.kids.blk hg
                have hK6 := hKq.step hL6 hFq6
                have zz := hFq6.size
                have zq := hb1q.lt
                have hb16 := hb1q.fr hFq6 (by omega)
                have hb06 := hb0q.fr hFq6 (by omega)
                have z6 : w2.heap.size < w6.heap.size := hb16.lt
                have z6' : w.heap.size < w6.heap.size := hb06.lt
                obtain ⟨vs, ho, ha⟩ := hK6.kids
                have HA : Hid (AllLie (fun b => w2.heap.size + 1 ≤ b ∧ b < w6.heap.size ∧ some b ≠ (Value.slice a ks.length c).ownBlock) w6 ks vs) := ha
                obtain ⟨g0, g1, g2, g3, _, _, _, _⟩ := id hb16
                have hlk : ks.length ≤ 8000 := by omega
                clear ha
                have hlc : Lies (fun b => w2.heap.size + 1 ≤ b ∧ b < w6.heap.size ∧ some b ≠ (Value.slice a ks.length c).ownBlock) w6 q1.1 (.agg #[.int .i64 kc, .string yc, .int .i64 mc, .slice ac nc cc]) :=
                  hl6.to (fun b hb => by
                    have h1 : wq.heap.size ≤ b := hb.1
                    exact ⟨by omega, hb.2, fun e => by have := (hkb b e.symm).2; omega⟩) (fun _ _ _ => rfl)
                go_wp2
                refine wpAny_ready (rs := [4]) (by kernel_rfl) (by simp) ?_
                refine AllReady.cons rfl (fun K hK => ?_) AllReady.nil
                go_simp
                refine hK _ _ ?_
                clear hK K
                refine wpAny_ready (rs := [5]) (by kernel_rfl) (by simp) ?_
                refine AllReady.cons rfl (fun K hK => ?_) AllReady.nil
                refine step_append_lies _ (by rfl) (.tmp 33) (.tmp 36) 22 (by rfl) (w2.heap.size + 1) 24 i0 (.agg #[.int .i64 0, .string ⟨#[]⟩, .int .i64 0, .slice none 0 0]) 4 56 Tryz.underlying22 hi hz0 hz1' hz2 rfl (by decide) (.slice a ks.length c) ks.length (flat4 vs) rfl (ho.alloc _) ⟨w6.heap.size, 0, none⟩ 1 1 [.int .i64 kc, .string yc, .int .i64 mc, .slice ac nc cc] rfl rfl (cells4_new _ _ _ _ _ _ _ rfl) (by intro u hu; simp at hu; rcases hu with rfl | rfl | rfl | rfl <;> rfl) (by omega) (by unfold maxLen; omega) (by omega) (by simp; omega) (w6.heap.size + 1) (by simp) ?_
                intro g cap w7 hown' hgrow hat hlt
                refine hK _ _ ?_
                clear hK K
                have hK7 := KO.pushed (q := (.int .i64 kc, .string yc, .int .i64 mc, .slice ac nc cc)) (t := q1.1) hK6 ho HA.out hlc hown' hgrow (by rcases hat with e | e; exact .inl e.symm; exact .inr (by rw [e]; rfl))
                have hnb : (Value.slice a ks.length c).ownBlock ≠ some w2.heap.size := fun e => by have := (hkb _ e).1; omega
                have hnb0 : (Value.slice a ks.length c).ownBlock ≠ some w.heap.size := fun e => by have := (hkb _ e).1; omega
                have hb17 := (hb16.alloc (.cells #[.int .i64 kc, .string yc, .int .i64 mc, .slice ac nc cc] 24)).grown hgrow hnb
                have hb07 := (hb06.alloc (.cells #[.int .i64 kc, .string yc, .int .i64 mc, .slice ac nc cc] 24)).grown hgrow hnb0
                obtain ⟨e0, e1, e2, e3, d0, d1, d2, d3⟩ := id hb17
                refine wpAny_ready (rs := [6]) (by kernel_rfl) (by simp) ?_
                refine AllReady.cons rfl (fun K hK => ?_) AllReady.nil
                go_simp
                refine hK _ _ ?_
                clear hK K
                refine wpAny_ready (rs := [7]) (by kernel_rfl) (by simp) ?_
                refine AllReady.cons rfl (fun K hK => ?_) AllReady.nil
                go_simp
                refine hK _ _ ?_
                clear hK K
                refine wpAny_done (by kernel_rfl) ?_ _
                go_wp2
                go_roundg k
                case rel => exact ⟨ks ++ [q1.1], q1.2, _, HQ.out, by rw [List.length_append]; simp; omega, hK7.set (by omega) (by omega) 3 _, hb17.set3 _, hb07.other (by omega) _⟩
                case measure => omega
              refine AllReady.cons rfl (fun K hK => ?_) AllReady.nil
              go_simp
              go_at_call 122
              refine (hD.fine (hKq.ld.drewN 1) h1 hbq').mono ?_
              rintro e w6 ⟨v6, rfl, hl6, hL6, hF6⟩
              obtain ⟨kc, yc, mc, _, rfl, ac, nc, cc, rfl⟩ := hl6.shape
              have hFq6 : Fr r wq w6 := ((Fr.refl r wq).drewN 1).trans hF6
              have hkb : ∀ g, (Value.slice a ks.length c).ownBlock = some g → w2.heap.size + 1 ≤ g ∧ g < wq.heap.size := fun g hg => hKq.kids.blk hg
              have hK6 := hKq.step hL6 hFq6
              have zz := hFq6.size
              have zq := hb1q.lt
              have hb16 := hb1q.fr hFq6 (by omega)
              have hb06 := hb0q.fr hFq6 (by omega)
              have z6 : w2.heap.size < w6.heap.size := hb16.lt
              have z6' : w.heap.size < w6.heap.size := hb06.lt
              obtain ⟨vs, ho, ha⟩ := hK6.kids
              have HA : Hid (AllLie (fun b => w2.heap.size + 1 ≤ b ∧ b < w6.heap.size ∧ some b ≠ (Value.slice a ks.length c).ownBlock) w6 ks vs) := ha
              obtain ⟨g0, g1, g2, g3, _, _, _, _⟩ := id hb16
              have hlk : ks.length ≤ 8000 := by omega
              clear ha
              have hlc : Lies (fun b => w2.heap.size + 1 ≤ b ∧ b < w6.heap.size ∧ some b ≠ (Value.slice a ks.length c).ownBlock) w6 q1.1 (.agg #[.int .i64 kc, .string yc, .int .i64 mc, .slice ac nc cc]) :=
                hl6.to (fun b hb => by
                  have h1 : wq.heap.size ≤ b := hb.1
                  exact ⟨by omega, hb.2, fun e => by have := (hkb b e.symm).2; omega⟩) (fun _ _ _ => rfl)
              go_wp2
              refine wpAny_ready (rs := [1, 4]) (by kernel_rfl) (by simp) ?_
              refine AllReady.cons rfl (fun K hK => ?_) ?_
              · skip
                go_simp
                refine hK _ _ ?_
                clear hK K
                refine wpAny_ready (rs := [4]) (by kernel_rfl) (by simp) ?_
                refine AllReady.cons rfl (fun K hK => ?_) AllReady.nil
                go_simp
                refine hK _ _ ?_
                clear hK K
                refine wpAny_ready (rs := [5]) (by kernel_rfl) (by simp) ?_
                refine AllReady.cons rfl (fun K hK => ?_) AllReady.nil
                refine step_append_lies _ (by rfl) (.tmp 33) (.tmp 36) 22 (by rfl) (w2.heap.size + 1) 24 i0 (.agg #[.int .i64 0, .string ⟨#[]⟩, .int .i64 0, .slice none 0 0]) 4 56 Tryz.underlying22 hi hz0 hz1' hz2 rfl (by decide) (.slice a ks.length c) ks.length (flat4 vs) rfl (ho.alloc _) ⟨w6.heap.size, 0, none⟩ 1 1 [.int .i64 kc, .string yc, .int .i64 mc, .slice ac nc cc] rfl rfl (cells4_new _ _ _ _ _ _ _ rfl) (by intro u hu; simp at hu; rcases hu with rfl | rfl | rfl | rfl <;> rfl) (by omega) (by unfold maxLen; omega) (by omega) (by simp; omega) (w6.heap.size + 1) (by simp) ?_
                intro g cap w7 hown' hgrow hat hlt
                refine hK _ _ ?_
                clear hK K
                have hK7 := KO.pushed (q := (.int .i64 kc, .string yc, .int .i64 mc, .slice ac nc cc)) (t := q1.1) hK6 ho HA.out hlc hown' hgrow (by rcases hat with e | e; exact .inl e.symm; exact .inr (by rw [e]; rfl))
                have hnb : (Value.slice a ks.length c).ownBlock ≠ some w2.heap.size := fun e => by have := (hkb _ e).1; omega
                have hnb0 : (Value.slice a ks.length c).ownBlock ≠ some w.heap.size := fun e => by have := (hkb _ e).1; omega
                have hb17 := (hb16.alloc (.cells #[.int .i64 kc, .string yc, .int .i64 mc, .slice ac nc cc] 24)).grown hgrow hnb
                have hb07 := (hb06.alloc (.cells #[.int .i64 kc, .string yc, .int .i64 mc, .slice ac nc cc] 24)).grown hgrow hnb0
                obtain ⟨e0, e1, e2, e3, d0, d1, d2, d3⟩ := id hb17
                refine wpAny_ready (rs := [6]) (by kernel_rfl) (by simp) ?_
                refine AllReady.cons rfl (fun K hK => ?_) AllReady.nil
                go_simp
                refine hK _ _ ?_
                clear hK K
                refine wpAny_ready (rs := [7]) (by kernel_rfl) (by simp) ?_
                refine AllReady.cons rfl (fun K hK => ?_) AllReady.nil
                go_simp
                refine hK _ _ ?_
                clear hK K
                refine wpAny_done (by kernel_rfl) ?_ _
                go_wp2
                go_roundg k
                case rel => exact ⟨ks ++ [q1.1], q1.2, _, HQ.out, by rw [List.length_append]; simp; omega, hK7.set (by omega) (by omega) 3 _, hb17.set3 _, hb07.other (by omega) _⟩
                case measure => omega
              refine AllReady.cons rfl (fun K hK => ?_) AllReady.nil
              go_simp
              refine hK _ _ ?_
              clear hK K
              refine wpAny_ready (rs := [1]) (by kernel_rfl) (by simp) ?_
              refine AllReady.cons rfl (fun K hK => ?_) AllReady.nil
              go_simp
              refine hK _ _ ?_
              clear hK K
              refine wpAny_ready (rs := [5]) (by kernel_rfl) (by simp) ?_
              refine AllReady.cons rfl (fun K hK => ?_) AllReady.nil
              refine step_append_lies _ (by rfl) (.tmp 33) (.tmp 36) 22 (by rfl) (w2.heap.size + 1) 24 i0 (.agg #[.int .i64 0, .string ⟨#[]⟩, .int .i64 0, .slice none 0 0]) 4 56 Tryz.underlying22 hi hz0 hz1' hz2 rfl (by decide) (.slice a ks.length c) ks.length (flat4 vs) rfl (ho.alloc _) ⟨w6.heap.size, 0, none⟩ 1 1 [.int .i64 kc, .string yc, .int .i64 mc, .slice ac nc cc] rfl rfl (cells4_new _ _ _ _ _ _ _ rfl) (by intro u hu; simp at hu; rcases hu with rfl | rfl | rfl | rfl <;> rfl) (by omega) (by unfold maxLen; omega) (by omega) (by simp; omega) (w6.heap.size + 1) (by simp) ?_
              intro g cap w7 hown' hgrow hat hlt
              refine hK _ _ ?_
              clear hK K
              have hK7 := KO.pushed (q := (.int .i64 kc, .string yc, .int .i64 mc, .slice ac nc cc)) (t := q1.1) hK6 ho HA.out hlc hown' hgrow (by rcases hat with e | e; exact .inl e.symm; exact .inr (by rw [e]; rfl))
              have hnb : (Value.slice a ks.length c).ownBlock ≠ some w2.heap.size := fun e => by have := (hkb _ e).1; omega
              have hnb0 : (Value.slice a ks.length c).ownBlock ≠ some w.heap.size := fun e => by have := (hkb _ e).1; omega
              have hb17 := (hb16.alloc (.cells #[.int .i64 kc, .string yc, .int .i64 mc, .slice ac nc cc] 24)).grown hgrow hnb
              have hb07 := (hb06.alloc (.cells #[.int .i64 kc, .string yc, .int .i64 mc, .slice ac nc cc] 24)).grown hgrow hnb0
              obtain ⟨e0, e1, e2, e3, d0, d1, d2, d3⟩ := id hb17
              refine wpAny_ready (rs := [6]) (by kernel_rfl) (by simp) ?_
              refine AllReady.cons rfl (fun K hK => ?_) AllReady.nil
              go_simp
              refine hK _ _ ?_
              clear hK K
              refine wpAny_ready (rs := [7]) (by kernel_rfl) (by simp) ?_
              refine AllReady.cons rfl (fun K hK => ?_) AllReady.nil
              go_simp
              refine hK _ _ ?_
              clear hK K
              refine wpAny_done (by kernel_rfl) ?_ _
              go_wp2
              go_roundg k
              case rel => exact ⟨ks ++ [q1.1], q1.2, _, HQ.out, by rw [List.length_append]; simp; omega, hK7.set (by omega) (by omega) 3 _, hb17.set3 _, hb07.other (by omega) _⟩
              case measure => omega
      case true =>
        rw [he, if_pos rfl] at hq2
        have HQ : Hid (importsL ts k (ks ++ [.node 2 (name ts s1.next).1 0 []]) (must ts ⟨#[59]⟩ (name ts s1.next).2) = some p) := hq2
        clear hq2
        go_wp2_with (fail)
        refine (skip_yes hK.ld ⟨#[105, 109, 112, 111, 114, 116]⟩ (by decide) he rfl).mono ?_
        rintro e wq ⟨rfl, hLq, hFq⟩
        have hKq := hK.step hLq hFq
        have hb1q := hb1.fr hFq (by omega)
        have hb0q := hb0.fr hFq (by omega)
        obtain ⟨p0, p1, p2, p3, _, _, _, _⟩ := id hb1q
        by_cases hbn : (name ts s1.next).2.bad = true
        · have HS : Hid (d.2 = (name ts s1.next).2) := by
            have e1 : must ts ⟨#[59]⟩ (name ts s1.next).2 = (name ts s1.next).2 := must_st (by decide) hbn
            have e2 := importsL_st (by rw [e1]; exact hbn) HQ.out
            show _ = _
            rw [T1.out (by rw [e2, e1]; exact hbn), e2, e1]
          go_wp2
          refine wp_region_any (by kernel_rfl) ?_
          change wpAny _ _ _ _ _ _ _ (World.drew _)
          refine wpAny_take (i := 0) (v := .pointer (some ⟨w2.heap.size, 3, none⟩)) rfl (by kernel_rfl) (by kernel_rfl) (by kernel_rfl) (fun _ _ _ h => h) (Or.inl ⟨by rfl, fun w => by go_simp⟩) ?_
          refine wpAny_take (i := 2) (v := .pointer (some ⟨r, 0, none⟩)) rfl (by kernel_rfl) (by kernel_rfl) (by kernel_rfl) (fun _ _ _ h => h) (Or.inl ⟨by rfl, fun w => by go_simp⟩) ?_
          refine wpAny_take (i := 3) (v := .pointer (some ⟨r, 0, none⟩)) rfl (by kernel_rfl) (by kernel_rfl) (by kernel_rfl) (fun _ _ _ h => h) (Or.inl ⟨by rfl, fun w => by go_simp⟩) ?_
          refine wpAny_ready (rs := [1, 4]) (by kernel_rfl) (by simp) ?_
          refine AllReady.cons rfl (fun K hK => ?_) ?_
          · skip
            go_simp
            refine hK _ _ ?_
            clear hK K
            refine wpAny_ready (rs := [4]) (by kernel_rfl) (by simp) ?_
            refine AllReady.cons rfl (fun K hK => ?_) AllReady.nil
            go_simp
            go_at_call 119
            refine (name_lost (hLq.drewN 1) hbn).mono ?_
            rintro e w5 ⟨rfl, hF5⟩
            go_wp2
            exact ⟨rfl, OAns.lost HS.out hbn ((hKq.fr.drewN 1).trans hF5)⟩
          refine AllReady.cons rfl (fun K hK => ?_) AllReady.nil
          go_simp
          go_at_call 119
          refine (name_lost (hLq.drewN 1) hbn).mono ?_
          rintro e w5 ⟨rfl, hF5⟩
          go_wp2
          exact ⟨rfl, OAns.lost HS.out hbn ((hKq.fr.drewN 1).trans hF5)⟩
        have hbn' : (name ts s1.next).2.bad = false := by simpa using hbn
        by_cases hbe : (must ts ⟨#[59]⟩ (name ts s1.next).2).bad = true
        · have HS : Hid (d.2 = must ts ⟨#[59]⟩ (name ts s1.next).2) := by
            have e2 := importsL_st hbe HQ.out
            show _ = _
            rw [T1.out (by rw [e2]; exact hbe), e2]
          go_wp2
          refine wp_region_any (by kernel_rfl) ?_
          change wpAny _ _ _ _ _ _ _ (World.drew _)
          refine wpAny_take (i := 0) (v := .pointer (some ⟨w2.heap.size, 3, none⟩)) rfl (by kernel_rfl) (by kernel_rfl) (by kernel_rfl) (fun _ _ _ h => h) (Or.inl ⟨by rfl, fun w => by go_simp⟩) ?_
          refine wpAny_take (i := 2) (v := .pointer (some ⟨r, 0, none⟩)) rfl (by kernel_rfl) (by kernel_rfl) (by kernel_rfl) (fun _ _ _ h => h) (Or.inl ⟨by rfl, fun w => by go_simp⟩) ?_
          refine wpAny_take (i := 3) (v := .pointer (some ⟨r, 0, none⟩)) rfl (by kernel_rfl) (by kernel_rfl) (by kernel_rfl) (fun _ _ _ h => h) (Or.inl ⟨by rfl, fun w => by go_simp⟩) ?_
          refine wpAny_ready (rs := [1, 4]) (by kernel_rfl) (by simp) ?_
          refine AllReady.cons rfl (fun K hK => ?_) ?_
          · skip
            go_simp
            refine hK _ _ ?_
            clear hK K
            refine wpAny_ready (rs := [4]) (by kernel_rfl) (by simp) ?_
            refine AllReady.cons rfl (fun K hK => ?_) AllReady.nil
            go_simp
            go_at_call 119
            refine (name_fine (hLq.drewN 1) hbn').mono ?_
            rintro e w5 ⟨rfl, hL5, hF5⟩
            have hFq5 : Fr r wq w5 := ((Fr.refl r wq).drewN 1).trans hF5
            have zq5 := hFq5.size
            obtain ⟨r0, r1, r2, r3, _, _, _, _⟩ := hb1q.fr hFq5 (by omega)
            go_wp2
            refine wpAny_take (i := 5) (v := .agg #[.int .i64 2, .string (name ts s1.next).1, .int .i64 0, .slice none 0 0] ) rfl (by kernel_rfl) (by kernel_rfl) (by kernel_rfl) (fun _ _ _ h => h) (Or.inl ⟨by rfl, fun w => by go_simp⟩) ?_
            refine wpAny_ready (rs := [6]) (by kernel_rfl) (by simp) ?_
            refine AllReady.cons rfl (fun K hK => ?_) AllReady.nil
            go_simp
            go_at_call 121
            refine (ended_lost hL5 2 0 _ none 0 0 hbe).mono ?_
            rintro e w6 ⟨rfl, hF6⟩
            go_wp2
            exact ⟨rfl, OAns.lost HS.out hbe (hKq.fr.trans (hFq5.trans hF6))⟩
          refine AllReady.cons rfl (fun K hK => ?_) AllReady.nil
          go_simp
          go_at_call 119
          refine (name_fine (hLq.drewN 1) hbn').mono ?_
          rintro e w5 ⟨rfl, hL5, hF5⟩
          have hFq5 : Fr r wq w5 := ((Fr.refl r wq).drewN 1).trans hF5
          have zq5 := hFq5.size
          obtain ⟨r0, r1, r2, r3, _, _, _, _⟩ := hb1q.fr hFq5 (by omega)
          go_wp2
          refine wpAny_take (i := 5) (v := .agg #[.int .i64 2, .string (name ts s1.next).1, .int .i64 0, .slice none 0 0] ) rfl (by kernel_rfl) (by kernel_rfl) (by kernel_rfl) (fun _ _ _ h => h) (Or.inl ⟨by rfl, fun w => by go_simp⟩) ?_
          refine wpAny_ready (rs := [1, 6]) (by kernel_rfl) (by simp) ?_
          refine AllReady.cons rfl (fun K hK => ?_) ?_
          · skip
            go_simp
            refine hK _ _ ?_
            clear hK K
            refine wpAny_ready (rs := [6]) (by kernel_rfl) (by simp) ?_
            refine AllReady.cons rfl (fun K hK => ?_) AllReady.nil
            go_simp
            go_at_call 121
            refine (ended_lost hL5 2 0 _ none 0 0 hbe).mono ?_
            rintro e w6 ⟨rfl, hF6⟩
            go_wp2
            exact ⟨rfl, OAns.lost HS.out hbe (hKq.fr.trans (hFq5.trans hF6))⟩
          refine AllReady.cons rfl (fun K hK => ?_) AllReady.nil
          go_simp
          go_at_call 121
          refine (ended_lost hL5 2 0 _ none 0 0 hbe).mono ?_
          rintro e w6 ⟨rfl, hF6⟩
          go_wp2
          exact ⟨rfl, OAns.lost HS.out hbe (hKq.fr.trans (hFq5.trans hF6))⟩
        have hbe' : (must ts ⟨#[59]⟩ (name ts s1.next).2).bad = false := by simpa using hbe
        go_wp2
        refine wp_region_any (by kernel_rfl) ?_
        change wpAny _ _ _ _ _ _ _ (World.drew _)
        refine wpAny_take (i := 0) (v := .pointer (some ⟨w2.heap.size, 3, none⟩)) rfl (by kernel_rfl) (by kernel_rfl) (by kernel_rfl) (fun _ _ _ h => h) (Or.inl ⟨by rfl, fun w => by go_simp⟩) ?_
        refine wpAny_take (i := 2) (v := .pointer (some ⟨r, 0, none⟩)) rfl (by kernel_rfl) (by kernel_rfl) (by kernel_rfl) (fun _ _ _ h => h) (Or.inl ⟨by rfl, fun w => by go_simp⟩) ?_
        refine wpAny_take (i := 3) (v := .pointer (some ⟨r, 0, none⟩)) rfl (by kernel_rfl) (by kernel_rfl) (by kernel_rfl) (fun _ _ _ h => h) (Or.inl ⟨by rfl, fun w => by go_simp⟩) ?_
        refine wpAny_ready (rs := [1, 4]) (by kernel_rfl) (by simp) ?_
        refine AllReady.cons rfl (fun K hK => ?_) ?_
        · skip
          go_simp
          refine hK _ _ ?_
          clear hK K
          refine wpAny_ready (rs := [4]) (by kernel_rfl) (by simp) ?_
          refine AllReady.cons rfl (fun K hK => ?_) AllReady.nil
          go_simp
          go_at_call 119
          refine (name_fine (hLq.drewN 1) hbn').mono ?_
          rintro e w5 ⟨rfl, hL5, hF5⟩
          have hFq5 : Fr r wq w5 := ((Fr.refl r wq).drewN 1).trans hF5
          have zq5 := hFq5.size
          obtain ⟨r0, r1, r2, r3, _, _, _, _⟩ := hb1q.fr hFq5 (by omega)
          go_wp2
          refine wpAny_take (i := 5) (v := .agg #[.int .i64 2, .string (name ts s1.next).1, .int .i64 0, .slice none 0 0] ) rfl (by kernel_rfl) (by kernel_rfl) (by kernel_rfl) (fun _ _ _ h => h) (Or.inl ⟨by rfl, fun w => by go_simp⟩) ?_
          refine wpAny_ready (rs := [6]) (by kernel_rfl) (by simp) ?_
          refine AllReady.cons rfl (fun K hK => ?_) AllReady.nil
          go_simp
          go_at_call 121
          refine (ended_fine hL5 2 0 _ none 0 0 hbe').mono ?_
          rintro e w6 ⟨rfl, hL6, hF6⟩
          have hFq6 : Fr r wq w6 := hFq5.trans hF6
          have hkb : ∀ g, (Value.slice a ks.length c).ownBlock = some g → w2.heap.size + 1 ≤ g ∧ g < wq.heap.size := fun g hg => hKq.kids.blk hg
          have hK6 := hKq.step hL6 hFq6
          have zz := hFq6.size
          have zq := hb1q.lt
          have hb16 := hb1q.fr hFq6 (by omega)
          have hb06 := hb0q.fr hFq6 (by omega)
          have z6 : w2.heap.size < w6.heap.size := hb16.lt
          have z6' : w.heap.size < w6.heap.size := hb06.lt
          obtain ⟨vs, ho, ha⟩ := hK6.kids
          have HA : Hid (AllLie (fun b => w2.heap.size + 1 ≤ b ∧ b < w6.heap.size ∧ some b ≠ (Value.slice a ks.length c).ownBlock) w6 ks vs) := ha
          obtain ⟨g0, g1, g2, g3, _, _, _, _⟩ := id hb16
          have hlk : ks.length ≤ 8000 := by omega
          clear ha
          have hlc : Lies (fun b => w2.heap.size + 1 ≤ b ∧ b < w6.heap.size ∧ some b ≠ (Value.slice a ks.length c).ownBlock) w6 (.node 2 (name ts s1.next).1 0 []) (.agg #[.int .i64 2, .string (name ts s1.next).1, .int .i64 0, .slice none 0 0]) := Lies.leaf _ _ _ _ _
          go_wp2
          refine wpAny_ready (rs := [7]) (by kernel_rfl) (by simp) ?_
          refine AllReady.cons rfl (fun K hK => ?_) AllReady.nil
          go_simp
          refine hK _ _ ?_
          clear hK K
          refine wpAny_ready (rs := [8]) (by kernel_rfl) (by simp) ?_
          refine AllReady.cons rfl (fun K hK => ?_) AllReady.nil
          refine step_append_lies _ (by rfl) (.tmp 17) (.tmp 23) 22 (by rfl) (w2.heap.size + 1) 24 i0 (.agg #[.int .i64 0, .string ⟨#[]⟩, .int .i64 0, .slice none 0 0]) 4 56 Tryz.underlying22 hi hz0 hz1' hz2 rfl (by decide) (.slice a ks.length c) ks.length (flat4 vs) rfl (ho.alloc _) ⟨w6.heap.size, 0, none⟩ 1 1 [.int .i64 2, .string (name ts s1.next).1, .int .i64 0, .slice none 0 0] rfl rfl (cells4_new _ _ _ _ _ _ _ rfl) (by intro u hu; simp at hu; rcases hu with rfl | rfl | rfl | rfl <;> rfl) (by omega) (by unfold maxLen; omega) (by omega) (by simp; omega) (w6.heap.size + 1) (by simp) ?_
          intro g cap w7 hown' hgrow hat hlt
          refine hK _ _ ?_
          clear hK K
          have hK7 := KO.pushed (q := (.int .i64 2, .string (name ts s1.next).1, .int .i64 0, .slice none 0 0)) (t := Tree.node 2 (name ts s1.next).1 0 [] ) hK6 ho HA.out hlc hown' hgrow (by rcases hat with e | e; exact .inl e.symm; exact .inr (by rw [e]; rfl))
          have hnb : (Value.slice a ks.length c).ownBlock ≠ some w2.heap.size := fun e => by have := (hkb _ e).1; omega
          have hnb0 : (Value.slice a ks.length c).ownBlock ≠ some w.heap.size := fun e => by have := (hkb _ e).1; omega
          have hb17 := (hb16.alloc (.cells #[.int .i64 2, .string (name ts s1.next).1, .int .i64 0, .slice none 0 0] 24)).grown hgrow hnb
          have hb07 := (hb06.alloc (.cells #[.int .i64 2, .string (name ts s1.next).1, .int .i64 0, .slice none 0 0] 24)).grown hgrow hnb0
          obtain ⟨e0, e1, e2, e3, d0, d1, d2, d3⟩ := id hb17
          refine wpAny_ready (rs := [9]) (by kernel_rfl) (by simp) ?_
          refine AllReady.cons rfl (fun K hK => ?_) AllReady.nil
          go_simp
          refine hK _ _ ?_
          clear hK K
          refine wpAny_ready (rs := [10]) (by kernel_rfl) (by simp) ?_
          refine AllReady.cons rfl (fun K hK => ?_) AllReady.nil
          go_simp
          refine hK _ _ ?_
          clear hK K
          refine wpAny_done (by kernel_rfl) ?_ _
          go_wp2
          go_roundg k
          case rel => exact ⟨ks ++ [Tree.node 2 (name ts s1.next).1 0 [] ], must ts ⟨#[59]⟩ (name ts s1.next).2, _, HQ.out, by rw [List.length_append]; simp; omega, hK7.set (by omega) (by omega) 3 _, hb17.set3 _, hb07.other (by omega) _⟩
          case measure => omega
        refine AllReady.cons rfl (fun K hK => ?_) AllReady.nil
        go_simp
        go_at_call 119
        refine (name_fine (hLq.drewN 1) hbn').mono ?_
        rintro e w5 ⟨rfl, hL5, hF5⟩
        have hFq5 : Fr r wq w5 := ((Fr.refl r wq).drewN 1).trans hF5
        have zq5 := hFq5.size
        obtain ⟨r0, r1, r2, r3, _, _, _, _⟩ := hb1q.fr hFq5 (by omega)
        go_wp2
        refine wpAny_take (i := 5) (v := .agg #[.int .i64 2, .string (name ts s1.next).1, .int .i64 0, .slice none 0 0] ) rfl (by kernel_rfl) (by kernel_rfl) (by kernel_rfl) (fun _ _ _ h => h) (Or.inl ⟨by rfl, fun w => by go_simp⟩) ?_
        refine wpAny_ready (rs := [1, 6]) (by kernel_rfl) (by simp) ?_
        refine AllReady.cons rfl (fun K hK => ?_) ?_
        · skip
          go_simp
          refine hK _ _ ?_
          clear hK K
          refine wpAny_ready (rs := [6]) (by kernel_rfl) (by simp) ?_
          refine AllReady.cons rfl (fun K hK => ?_) AllReady.nil
          go_simp
          go_at_call 121
          refine (ended_fine hL5 2 0 _ none 0 0 hbe').mono ?_
          rintro e w6 ⟨rfl, hL6, hF6⟩
          have hFq6 : Fr r wq w6 := hFq5.trans hF6
          have hkb : ∀ g, (Value.slice a ks.length c).ownBlock = some g → w2.heap.size + 1 ≤ g ∧ g < wq.heap.size := fun g hg => hKq.kids.blk hg
          have hK6 := hKq.step hL6 hFq6
          have zz := hFq6.size
          have zq := hb1q.lt
          have hb16 := hb1q.fr hFq6 (by omega)
          have hb06 := hb0q.fr hFq6 (by omega)
          have z6 : w2.heap.size < w6.heap.size := hb16.lt
          have z6' : w.heap.size < w6.heap.size := hb06.lt
          obtain ⟨vs, ho, ha⟩ := hK6.kids
          have HA : Hid (AllLie (fun b => w2.heap.size + 1 ≤ b ∧ b < w6.heap.size ∧ some b ≠ (Value.slice a ks.length c).ownBlock) w6 ks vs) := ha
          obtain ⟨g0, g1, g2, g3, _, _, _, _⟩ := id hb16
          have hlk : ks.length ≤ 8000 := by omega
          clear ha
          have hlc : Lies (fun b => w2.heap.size + 1 ≤ b ∧ b < w6.heap.size ∧ some b ≠ (Value.slice a ks.length c).ownBlock) w6 (.node 2 (name ts s1.next).1 0 []) (.agg #[.int .i64 2, .string (name ts s1.next).1, .int .i64 0, .slice none 0 0]) := Lies.leaf _ _ _ _ _
          go_wp2
          refine wpAny_ready (rs := [7]) (by kernel_rfl) (by simp) ?_
          refine AllReady.cons rfl (fun K hK => ?_) AllReady.nil
          go_simp
          refine hK _ _ ?_
          clear hK K
          refine wpAny_ready (rs := [8]) (by kernel_rfl) (by simp) ?_
          refine AllReady.cons rfl (fun K hK => ?_) AllReady.nil
          refine step_append_lies _ (by rfl) (.tmp 17) (.tmp 23) 22 (by rfl) (w2.heap.size + 1) 24 i0 (.agg #[.int .i64 0, .string ⟨#[]⟩, .int .i64 0, .slice none 0 0]) 4 56 Tryz.underlying22 hi hz0 hz1' hz2 rfl (by decide) (.slice a ks.length c) ks.length (flat4 vs) rfl (ho.alloc _) ⟨w6.heap.size, 0, none⟩ 1 1 [.int .i64 2, .string (name ts s1.next).1, .int .i64 0, .slice none 0 0] rfl rfl (cells4_new _ _ _ _ _ _ _ rfl) (by intro u hu; simp at hu; rcases hu with rfl | rfl | rfl | rfl <;> rfl) (by omega) (by unfold maxLen; omega) (by omega) (by simp; omega) (w6.heap.size + 1) (by simp) ?_
          intro g cap w7 hown' hgrow hat hlt
          refine hK _ _ ?_
          clear hK K
          have hK7 := KO.pushed (q := (.int .i64 2, .string (name ts s1.next).1, .int .i64 0, .slice none 0 0)) (t := Tree.node 2 (name ts s1.next).1 0 [] ) hK6 ho HA.out hlc hown' hgrow (by rcases hat with e | e; exact .inl e.symm; exact .inr (by rw [e]; rfl))
          have hnb : (Value.slice a ks.length c).ownBlock ≠ some w2.heap.size := fun e => by have := (hkb _ e).1; omega
          have hnb0 : (Value.slice a ks.length c).ownBlock ≠ some w.heap.size := fun e => by have := (hkb _ e).1; omega
          have hb17 := (hb16.alloc (.cells #[.int .i64 2, .string (name ts s1.next).1, .int .i64 0, .slice none 0 0] 24)).grown hgrow hnb
          have hb07 := (hb06.alloc (.cells #[.int .i64 2, .string (name ts s1.next).1, .int .i64 0, .slice none 0 0] 24)).grown hgrow hnb0
          obtain ⟨e0, e1, e2, e3, d0, d1, d2, d3⟩ := id hb17
          refine wpAny_ready (rs := [9]) (by kernel_rfl) (by simp) ?_
          refine AllReady.cons rfl (fun K hK => ?_) AllReady.nil
          go_simp
          refine hK _ _ ?_
          clear hK K
          refine wpAny_ready (rs := [10]) (by kernel_rfl) (by simp) ?_
          refine AllReady.cons rfl (fun K hK => ?_) AllReady.nil
          go_simp
          refine hK _ _ ?_
          clear hK K
          refine wpAny_done (by kernel_rfl) ?_ _
          go_wp2
          go_roundg k
          case rel => exact ⟨ks ++ [Tree.node 2 (name ts s1.next).1 0 [] ], must ts ⟨#[59]⟩ (name ts s1.next).2, _, HQ.out, by rw [List.length_append]; simp; omega, hK7.set (by omega) (by omega) 3 _, hb17.set3 _, hb07.other (by omega) _⟩
          case measure => omega
        refine AllReady.cons rfl (fun K hK => ?_) AllReady.nil
        go_simp
        go_at_call 121
        refine (ended_fine hL5 2 0 _ none 0 0 hbe').mono ?_
        rintro e w6 ⟨rfl, hL6, hF6⟩
        have hFq6 : Fr r wq w6 := hFq5.trans hF6
        have hkb : ∀ g, (Value.slice a ks.length c).ownBlock = some g → w2.heap.size + 1 ≤ g ∧ g < wq.heap.size := fun g hg => hKq.kids.blk hg
        have hK6 := hKq.step hL6 hFq6
        have zz := hFq6.size
        have zq := hb1q.lt
        have hb16 := hb1q.fr hFq6 (by omega)
        have hb06 := hb0q.fr hFq6 (by omega)
        have z6 : w2.heap.size < w6.heap.size := hb16.lt
        have z6' : w.heap.size < w6.heap.size := hb06.lt
        obtain ⟨vs, ho, ha⟩ := hK6.kids
        have HA : Hid (AllLie (fun b => w2.heap.size + 1 ≤ b ∧ b < w6.heap.size ∧ some b ≠ (Value.slice a ks.length c).ownBlock) w6 ks vs) := ha
        obtain ⟨g0, g1, g2, g3, _, _, _, _⟩ := id hb16
        have hlk : ks.length ≤ 8000 := by omega
        clear ha
        have hlc : Lies (fun b => w2.heap.size + 1 ≤ b ∧ b < w6.heap.size ∧ some b ≠ (Value.slice a ks.length c).ownBlock) w6 (.node 2 (name ts s1.next).1 0 []) (.agg #[.int .i64 2, .string (name ts s1.next).1, .int .i64 0, .slice none 0 0]) := Lies.leaf _ _ _ _ _
        go_wp2
        refine wpAny_ready (rs := [1, 7]) (by kernel_rfl) (by simp) ?_
        refine AllReady.cons rfl (fun K hK => ?_) ?_
        · skip
          go_simp
          refine hK _ _ ?_
          clear hK K
          refine wpAny_ready (rs := [7]) (by kernel_rfl) (by simp) ?_
          refine AllReady.cons rfl (fun K hK => ?_) AllReady.nil
          go_simp
          refine hK _ _ ?_
          clear hK K
          refine wpAny_ready (rs := [8]) (by kernel_rfl) (by simp) ?_
          refine AllReady.cons rfl (fun K hK => ?_) AllReady.nil
          refine step_append_lies _ (by rfl) (.tmp 17) (.tmp 23) 22 (by rfl) (w2.heap.size + 1) 24 i0 (.agg #[.int .i64 0, .string ⟨#[]⟩, .int .i64 0, .slice none 0 0]) 4 56 Tryz.underlying22 hi hz0 hz1' hz2 rfl (by decide) (.slice a ks.length c) ks.length (flat4 vs) rfl (ho.alloc _) ⟨w6.heap.size, 0, none⟩ 1 1 [.int .i64 2, .string (name ts s1.next).1, .int .i64 0, .slice none 0 0] rfl rfl (cells4_new _ _ _ _ _ _ _ rfl) (by intro u hu; simp at hu; rcases hu with rfl | rfl | rfl | rfl <;> rfl) (by omega) (by unfold maxLen; omega) (by omega) (by simp; omega) (w6.heap.size + 1) (by simp) ?_
          intro g cap w7 hown' hgrow hat hlt
          refine hK _ _ ?_
          clear hK K
          have hK7 := KO.pushed (q := (.int .i64 2, .string (name ts s1.next).1, .int .i64 0, .slice none 0 0)) (t := Tree.node 2 (name ts s1.next).1 0 [] ) hK6 ho HA.out hlc hown' hgrow (by rcases hat with e | e; exact .inl e.symm; exact .inr (by rw [e]; rfl))
          have hnb : (Value.slice a ks.length c).ownBlock ≠ some w2.heap.size := fun e => by have := (hkb _ e).1; omega
          have hnb0 : (Value.slice a ks.length c).ownBlock ≠ some w.heap.size := fun e => by have := (hkb _ e).1; omega
          have hb17 := (hb16.alloc (.cells #[.int .i64 2, .string (name ts s1.next).1, .int .i64 0, .slice none 0 0] 24)).grown hgrow hnb
          have hb07 := (hb06.alloc (.cells #[.int .i64 2, .string (name ts s1.next).1, .int .i64 0, .slice none 0 0] 24)).grown hgrow hnb0
          obtain ⟨e0, e1, e2, e3, d0, d1, d2, d3⟩ := id hb17
          refine wpAny_ready (rs := [9]) (by kernel_rfl) (by simp) ?_
          refine AllReady.cons rfl (fun K hK => ?_) AllReady.nil
          go_simp
          refine hK _ _ ?_
          clear hK K
          refine wpAny_ready (rs := [10]) (by kernel_rfl) (by simp) ?_
          refine AllReady.cons rfl (fun K hK => ?_) AllReady.nil
          go_simp
          refine hK _ _ ?_
          clear hK K
          refine wpAny_done (by kernel_rfl) ?_ _
          go_wp2
          go_roundg k
          case rel => exact ⟨ks ++ [Tree.node 2 (name ts s1.next).1 0 [] ], must ts ⟨#[59]⟩ (name ts s1.next).2, _, HQ.out, by rw [List.length_append]; simp; omega, hK7.set (by omega) (by omega) 3 _, hb17.set3 _, hb07.other (by omega) _⟩
          case measure => omega
        refine AllReady.cons rfl (fun K hK => ?_) AllReady.nil
        go_simp
        refine hK _ _ ?_
        clear hK K
        refine wpAny_ready (rs := [1]) (by kernel_rfl) (by simp) ?_
        refine AllReady.cons rfl (fun K hK => ?_) AllReady.nil
        go_simp
        refine hK _ _ ?_
        clear hK K
        refine wpAny_ready (rs := [8]) (by kernel_rfl) (by simp) ?_
        refine AllReady.cons rfl (fun K hK => ?_) AllReady.nil
        refine step_append_lies _ (by rfl) (.tmp 17) (.tmp 23) 22 (by rfl) (w2.heap.size + 1) 24 i0 (.agg #[.int .i64 0, .string ⟨#[]⟩, .int .i64 0, .slice none 0 0]) 4 56 Tryz.underlying22 hi hz0 hz1' hz2 rfl (by decide) (.slice a ks.length c) ks.length (flat4 vs) rfl (ho.alloc _) ⟨w6.heap.size, 0, none⟩ 1 1 [.int .i64 2, .string (name ts s1.next).1, .int .i64 0, .slice none 0 0] rfl rfl (cells4_new _ _ _ _ _ _ _ rfl) (by intro u hu; simp at hu; rcases hu with rfl | rfl | rfl | rfl <;> rfl) (by omega) (by unfold maxLen; omega) (by omega) (by simp; omega) (w6.heap.size + 1) (by simp) ?_
        intro g cap w7 hown' hgrow hat hlt
        refine hK _ _ ?_
        clear hK K
        have hK7 := KO.pushed (q := (.int .i64 2, .string (name ts s1.next).1, .int .i64 0, .slice none 0 0)) (t := Tree.node 2 (name ts s1.next).1 0 [] ) hK6 ho HA.out hlc hown' hgrow (by rcases hat with e | e; exact .inl e.symm; exact .inr (by rw [e]; rfl))
        have hnb : (Value.slice a ks.length c).ownBlock ≠ some w2.heap.size := fun e => by have := (hkb _ e).1; omega
        have hnb0 : (Value.slice a ks.length c).ownBlock ≠ some w.heap.size := fun e => by have := (hkb _ e).1; omega
        have hb17 := (hb16.alloc (.cells #[.int .i64 2, .string (name ts s1.next).1, .int .i64 0, .slice none 0 0] 24)).grown hgrow hnb
        have hb07 := (hb06.alloc (.cells #[.int .i64 2, .string (name ts s1.next).1, .int .i64 0, .slice none 0 0] 24)).grown hgrow hnb0
        obtain ⟨e0, e1, e2, e3, d0, d1, d2, d3⟩ := id hb17
        refine wpAny_ready (rs := [9]) (by kernel_rfl) (by simp) ?_
        refine AllReady.cons rfl (fun K hK => ?_) AllReady.nil
        go_simp
        refine hK _ _ ?_
        clear hK K
        refine wpAny_ready (rs := [10]) (by kernel_rfl) (by simp) ?_
        refine AllReady.cons rfl (fun K hK => ?_) AllReady.nil
        go_simp
        refine hK _ _ ?_
        clear hK K
        refine wpAny_done (by kernel_rfl) ?_ _
        go_wp2
        go_roundg k
        case rel => exact ⟨ks ++ [Tree.node 2 (name ts s1.next).1 0 [] ], must ts ⟨#[59]⟩ (name ts s1.next).2, _, HQ.out, by rw [List.length_append]; simp; omega, hK7.set (by omega) (by omega) 3 _, hb17.set3 _, hb07.other (by omega) _⟩
        case measure => omega
end
end syn
end Go.Proofs.YtoobkaebahogdaaGreatDoor
