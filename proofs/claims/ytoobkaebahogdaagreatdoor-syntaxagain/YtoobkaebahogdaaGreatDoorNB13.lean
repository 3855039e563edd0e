/- What the program's decl answers: a contract. -/
import Derived.Test.YtoobkaebahogdaaGreatDoorNB12
set_option linter.unusedVariables false
set_option linter.unusedSimpArgs false
set_option maxRecDepth 100000
namespace Go.Proofs.YtoobkaebahogdaaGreatDoor
namespace syn
open Go.RowKit
open Go.Proofs.YtoobkaebahogdaaGreatDoor.lexs (Tok Fine own_shape)

section
variable {w w' w0 : World} {r G B : Nat} {ts : List Tok} {s : St}
set_option maxHeartbeats 8000000 in
theorem odecl {f : Nat} (hf : f ≤ 100000) (ihB : Gives r G ts 189 (blockF ts f)) : Gives r G ts 122 (declF ts f) := by
  intro w s q hL hq
  have c24 : Tryz.prog.cellsOf 24 = 4 := by kernel_rfl
  have hr := hL.lt
  have hB0 := Box4.new w (.int .i64 0) (.string empty) (.int .i64 0) (.slice none 0 0) 24
  have hL0 := hL.alloc (.cells #[.int .i64 0, .string empty, .int .i64 0, .slice none 0 0] 24)
  cases hpub : eqS (txt ts s) ⟨#[112, 117, 98]⟩
  case true =>
    have es : pubS ts s = s.next := by unfold pubS; rw [hpub, if_pos rfl]
    have en : pubN ts s = 2 := by unfold pubN; rw [hpub, if_pos rfl]
    have hE := skip_yes (T := 9) hL0 ⟨#[112, 117, 98]⟩ (by decide) hpub (M := w.heap.size + 1) (by simp)
    go_enter Tryz.func122, Tryz.ntmps122
    go_wp2_with (fail)
    refine hE.mono ?_
    rintro e w1 ⟨rfl, hL1, hF0⟩
    unfold declF at hq
    rw [es, en] at hq
    have z0 := hF0.size
    rw [World.size_alloc] at z0
    have hb0 := hB0.fr hF0 (by omega)
    cases hp : eqS (txt ts s.next) ⟨#[112, 114, 111, 99]⟩
    case true =>
      rw [hp, if_pos rfl] at hq
      have hq' : procF ts f 2 (s.next).next = some q := hq
      go_wp2_with (fail)
      refine (skip_yes hL1 ⟨#[112, 114, 111, 99]⟩ (by decide) hp rfl).mono ?_
      rintro e w2 ⟨rfl, hL2, hF2⟩
      have z2 := hF2.size
      go_wp2_with (fail)
      refine (oproc hf ihB (by decide) hL2 hq').mono ?_
      rintro e w9 (⟨hb9, rfl, hF9⟩ | ⟨hb9, v9, rfl, hl9, hL9, hF9⟩)
      · go_wp2
        exact ⟨rfl, OAns.lost rfl hb9 ((((Fr.al _ _).trans hF0).trans hF2).trans hF9)⟩
      obtain ⟨k9, x9, m9, _, rfl, a9, n9, c9, rfl⟩ := hl9.shape
      obtain ⟨q0, q1', q2, q3, t0, t1, t2, t3⟩ := (hb0.fr hF2 (by omega)).fr hF9 (by omega)
      go_wp2
      exact bodyPost_ret (v := .agg #[.int .i64 k9, .string x9, .int .i64 m9, .slice a9 n9 c9]) (by simp [results, Tryz.results122, go_sem, q0, q1', q2, q3]) rfl (OAns.hand hr (((Fr.al _ _).trans hF0).trans hF2) (by omega) hb9 hl9 hL9 hF9)
    case false =>
      rw [hp, if_neg (by decide)] at hq
      simp only [Option.some.injEq] at hq
      subst hq
      have h01 := label_01 ts s.next
      go_wp2_with (fail)
      refine (skip_no hL1 ⟨#[112, 114, 111, 99]⟩ (by decide) hp rfl).mono ?_
      rintro e w2 ⟨rfl, hL2, hF2⟩
      have z2 := hF2.size
      have S2 : Hid ((name ts (label ts s.next).2).2.bad = true → must ts ⟨#[59]⟩ (varS ts (name ts (label ts s.next).2).2).2 = (name ts (label ts s.next).2).2) := fun hb => by
        have e1 : (varS ts (name ts (label ts s.next).2).2).2 = (name ts (label ts s.next).2).2 := by unfold varS; rw [eqS_bad (by decide) hb, if_neg (by decide)]
        rw [e1]
        exact must_st (by decide) hb
      have S1 : Hid ((label ts s.next).2.bad = true → must ts ⟨#[59]⟩ (varS ts (name ts (label ts s.next).2).2).2 = (label ts s.next).2) := fun hb => by
        have e1 := name_st (ts := ts) hb
        rw [S2.out (by rw [e1]; exact hb), e1]
      go_wp2_with (fail)
      refine (olabel hL2).mono ?_
      rintro e w3 (⟨hb3, rfl, hF3⟩ | ⟨hb3, rfl, hL3, hF3⟩)
      · go_wp2
        exact ⟨rfl, OAns.lost (S1.out hb3) hb3 ((((Fr.al _ _).trans hF0).trans hF2).trans hF3)⟩
      have z3 := hF3.size
      go_wp2_with (fail)
      refine (oname hL3).mono ?_
      rintro e w4 (⟨hb4, rfl, hF4⟩ | ⟨hb4, rfl, hL4, hF4⟩)
      · go_wp2
        exact ⟨rfl, OAns.lost (S2.out hb4) hb4 (((((Fr.al _ _).trans hF0).trans hF2).trans hF3).trans hF4)⟩
      have z4 := hF4.size
      have hFw4 : Fr r w w4 := ((((Fr.al _ _).trans hF0).trans hF2).trans hF3).trans hF4
      have hb04 := ((hb0.fr hF2 (by omega)).fr hF3 (by omega)).fr hF4 (by omega)
      clear S1 S2
      generalize label ts s.next = lb at *
      obtain ⟨l1, sl⟩ := lb
      simp only at *
      generalize name ts sl = nb at *
      obtain ⟨nx, ns⟩ := nb
      simp only at *
      have ec : Hid (2 + l1 = (l1 + 2)) := by show _ = _; omega
      cases hv : eqS (txt ts ns) ⟨#[91]⟩
      case false =>
        have ev : Hid (varS ts ns = ([], ns)) := by show _ = _; unfold varS; rw [hv, if_neg (by decide)]
        go_wp2_with (fail)
        refine (skip_no (hL4.alloc _) ⟨#[91]⟩ (by decide) hv (by simp)).mono ?_
        rintro e w5 ⟨rfl, hL5, hF5⟩
        have z5 := hF5.size
        simp only [World.size_alloc] at z5
        obtain ⟨p0, p1, p2, p3, _, _, _, _⟩ := (Box4.new w4 (.int .i64 3) (.string nx) (.int .i64 (l1 + 2)) (.slice none 0 0) 24).fr hF5 (by omega)
        go_wp2_with (fail)
        refine (oended hL5 _ _ _ _ _ _).mono ?_
        rintro e we (⟨hbe, rfl, hFe⟩ | ⟨hbe, rfl, hLe, hFe⟩)
        · go_wp2
          exact ⟨rfl, OAns.lost (by simp only [ev.out]) hbe ((hFw4.trans ((Fr.al _ _).trans hF5)).trans hFe)⟩
        obtain ⟨q0, q1', q2, q3, t0, t1, t2, t3⟩ := ((hb04.alloc _).fr hF5 (by omega)).fr hFe (by omega)
        go_wp2
        exact bodyPost_ret (v := .agg #[.int .i64 3, .string nx, .int .i64 (l1 + 2), .slice none 0 0]) (by simp [results, Tryz.results122, go_sem, q0, q1', q2, q3, empty]) rfl (by rw [ev.out, ec.out]; exact OAns.fin hr ((hFw4.trans ((Fr.al _ _).trans hF5)).trans hFe) hLe (Nat.le_refl _) (show w.heap.size < w5.heap.size by omega) ((Lies.leaf (fun b => w5.heap.size ≤ b ∧ b < w5.heap.size) w5 3 nx (l1 + 2)).fr (by omega) hFe))
      case true =>
        have ev : Hid (varS ts ns = ([(number ts ns.next).1], must ts ⟨#[93]⟩ (number ts ns.next).2)) := by show _ = _; unfold varS; rw [hv, if_pos rfl]
        have S3 : Hid ((number ts ns.next).2.bad = true → must ts ⟨#[59]⟩ (must ts ⟨#[93]⟩ (number ts ns.next).2) = (number ts ns.next).2) := fun hb => by
          have e1 : must ts ⟨#[93]⟩ (number ts ns.next).2 = (number ts ns.next).2 := must_st (by decide) hb
          rw [e1]
          exact must_st (by decide) hb
        go_wp2_with (fail)
        refine (skip_yes (hL4.alloc _) ⟨#[91]⟩ (by decide) hv (by simp)).mono ?_
        rintro e w5 ⟨rfl, hL5, hF5⟩
        have z5 := hF5.size
        simp only [World.size_alloc] at z5
        go_wp2_with (fail)
        refine (onumber hL5).mono ?_
        rintro e w6 (⟨hb6, rfl, hF6⟩ | ⟨hb6, v6, rfl, hl6, hL6, hF6⟩)
        · go_wp2
          exact ⟨rfl, OAns.lost (by simp only [ev.out]; exact S3.out hb6) hb6 ((hFw4.trans ((Fr.al _ _).trans hF5)).trans hF6)⟩
        obtain ⟨k, x, m, _, rfl, a, n, c, rfl⟩ := hl6.shape
        have z6 := hF6.size
        have hb56 := ((Box4.new w4 (.int .i64 3) (.string nx) (.int .i64 (l1 + 2)) (.slice none 0 0) 24).fr hF5 (by omega)).fr hF6 (by omega)
        have hb06 := ((hb04.alloc _).fr hF5 (by omega)).fr hF6 (by omega)
        obtain ⟨p0, p1, p2, p3, o0, o1, o2, o3⟩ := id hb56
        have y6 : w4.heap.size < w6.heap.size := hb56.lt
        have hput := (Fr.refl w4.heap.size w6).set 3 (.slice (some ⟨w6.heap.size, 0, none⟩) 1 1)
        have l7 : Lies (fun b => w5.heap.size ≤ b ∧ b < (w6.setCell ⟨w4.heap.size, 3, none⟩ (.slice (some ⟨w6.heap.size, 0, none⟩) 1 1)).heap.size) (w6.setCell ⟨w4.heap.size, 3, none⟩ (.slice (some ⟨w6.heap.size, 0, none⟩) 1 1)) (number ts ns.next).1 (.agg #[.int .i64 k, .string x, .int .i64 m, .slice a n c]) := hl6.frP (x := w4.heap.size) hput (fun b hb => ⟨hb.2, by omega⟩) (fun b hb => ⟨hb.1, by rw [World.size_setCell]; exact hb.2⟩)
        have hL7 := (hL6.set (N := w4.heap.size) (by omega) 3 (.slice (some ⟨w6.heap.size, 0, none⟩) 1 1)).alloc (.cells #[.int .i64 k, .string x, .int .i64 m, .slice a n c] 24)
        have hFw7 : Fr r w _ := (((hFw4.trans ((Fr.al _ _).trans hF5)).trans hF6).setNew (N := w4.heap.size) (o := 3) (by omega) (.slice (some ⟨w6.heap.size, 0, none⟩) 1 1)).alloc (.cells #[.int .i64 k, .string x, .int .i64 m, .slice a n c] 24)
        have hb57 := (hb56.set3 (.slice (some ⟨w6.heap.size, 0, none⟩) 1 1)).alloc (.cells #[.int .i64 k, .string x, .int .i64 m, .slice a n c] 24)
        have hb07 := (hb06.other (M := w4.heap.size) (o := 3) (by omega) (.slice (some ⟨w6.heap.size, 0, none⟩) 1 1)).alloc (.cells #[.int .i64 k, .string x, .int .i64 m, .slice a n c] 24)
        have hrow := l7.rowed (T := 24) (k := 3) (x := nx) (m := (l1 + 2)) (c := 1) (M := w6.heap.size) (by rw [World.size_setCell]; exact z6) (by simp)
        go_wp2_with (fail)
        refine (take_must hL7 ⟨#[93]⟩ (by decide) (by simp)).mono ?_
        rintro e w8 ⟨y8, ⟨hb8, rfl, hF8⟩ | ⟨hb8, rfl, hL8, hF8⟩⟩
        · go_wp2
          exact ⟨rfl, OAns.lost (by simp only [ev.out]; exact must_st (by decide) hb8) hb8 (hFw7.trans hF8)⟩
        have z8 := hF8.size
        simp only [World.size_alloc, World.size_setCell] at z8
        obtain ⟨g0, g1, g2, g3, _, _, _, _⟩ := hb57.fr hF8 (by omega)
        go_wp2_with (fail)
        refine (oended hL8 _ _ _ _ _ _).mono ?_
        rintro e we (⟨hbe, rfl, hFe⟩ | ⟨hbe, rfl, hLe, hFe⟩)
        · go_wp2
          exact ⟨rfl, OAns.lost (by simp only [ev.out]) hbe ((hFw7.trans hF8).trans hFe)⟩
        obtain ⟨q0, q1', q2, q3, t0, t1, t2, t3⟩ := (hb07.fr hF8 (by omega)).fr hFe (by omega)
        go_wp2
        exact bodyPost_ret (v := .agg #[.int .i64 3, .string nx, .int .i64 (l1 + 2), .slice (some ⟨w6.heap.size, 0, none⟩) 1 1]) (by simp [results, Tryz.results122, go_sem, q0, q1', q2, q3, empty]) rfl (by rw [ev.out, ec.out]; exact OAns.fin hr ((hFw7.trans hF8).trans hFe) hLe (Nat.le_refl _) (show w.heap.size < w5.heap.size by omega) ((hrow.fr (by omega) hF8).fr (by omega) hFe))
  case false =>
    have es : pubS ts s = s := by unfold pubS; rw [hpub, if_neg (by decide)]
    have en : pubN ts s = 0 := by unfold pubN; rw [hpub, if_neg (by decide)]
    have hE := skip_no (T := 9) hL0 ⟨#[112, 117, 98]⟩ (by decide) hpub (M := w.heap.size + 1) (by simp)
    go_enter Tryz.func122, Tryz.ntmps122
    go_wp2_with (fail)
    refine hE.mono ?_
    rintro e w1 ⟨rfl, hL1, hF0⟩
    unfold declF at hq
    rw [es, en] at hq
    have z0 := hF0.size
    rw [World.size_alloc] at z0
    have hb0 := hB0.fr hF0 (by omega)
    cases hp : eqS (txt ts s) ⟨#[112, 114, 111, 99]⟩
    case true =>
      rw [hp, if_pos rfl] at hq
      have hq' : procF ts f 0 (s).next = some q := hq
      go_wp2_with (fail)
      refine (skip_yes hL1 ⟨#[112, 114, 111, 99]⟩ (by decide) hp rfl).mono ?_
      rintro e w2 ⟨rfl, hL2, hF2⟩
      have z2 := hF2.size
      go_wp2_with (fail)
      refine (oproc hf ihB (by decide) hL2 hq').mono ?_
      rintro e w9 (⟨hb9, rfl, hF9⟩ | ⟨hb9, v9, rfl, hl9, hL9, hF9⟩)
      · go_wp2
        exact ⟨rfl, OAns.lost rfl hb9 ((((Fr.al _ _).trans hF0).trans hF2).trans hF9)⟩
      obtain ⟨k9, x9, m9, _, rfl, a9, n9, c9, rfl⟩ := hl9.shape
      obtain ⟨q0, q1', q2, q3, t0, t1, t2, t3⟩ := (hb0.fr hF2 (by omega)).fr hF9 (by omega)
      go_wp2
      exact bodyPost_ret (v := .agg #[.int .i64 k9, .string x9, .int .i64 m9, .slice a9 n9 c9]) (by simp [results, Tryz.results122, go_sem, q0, q1', q2, q3]) rfl (OAns.hand hr (((Fr.al _ _).trans hF0).trans hF2) (by omega) hb9 hl9 hL9 hF9)
    case false =>
      rw [hp, if_neg (by decide)] at hq
      simp only [Option.some.injEq] at hq
      subst hq
      have h01 := label_01 ts s
      go_wp2_with (fail)
      refine (skip_no hL1 ⟨#[112, 114, 111, 99]⟩ (by decide) hp rfl).mono ?_
      rintro e w2 ⟨rfl, hL2, hF2⟩
      have z2 := hF2.size
      have S2 : Hid ((name ts (label ts s).2).2.bad = true → must ts ⟨#[59]⟩ (varS ts (name ts (label ts s).2).2).2 = (name ts (label ts s).2).2) := fun hb => by
        have e1 : (varS ts (name ts (label ts s).2).2).2 = (name ts (label ts s).2).2 := by unfold varS; rw [eqS_bad (by decide) hb, if_neg (by decide)]
        rw [e1]
        exact must_st (by decide) hb
      have S1 : Hid ((label ts s).2.bad = true → must ts ⟨#[59]⟩ (varS ts (name ts (label ts s).2).2).2 = (label ts s).2) := fun hb => by
        have e1 := name_st (ts := ts) hb
        rw [S2.out (by rw [e1]; exact hb), e1]
      go_wp2_with (fail)
      refine (olabel hL2).mono ?_
      rintro e w3 (⟨hb3, rfl, hF3⟩ | ⟨hb3, rfl, hL3, hF3⟩)
      · go_wp2
        exact ⟨rfl, OAns.lost (S1.out hb3) hb3 ((((Fr.al _ _).trans hF0).trans hF2).trans hF3)⟩
      have z3 := hF3.size
      go_wp2_with (fail)
      refine (oname hL3).mono ?_
      rintro e w4 (⟨hb4, rfl, hF4⟩ | ⟨hb4, rfl, hL4, hF4⟩)
      · go_wp2
        exact ⟨rfl, OAns.lost (S2.out hb4) hb4 (((((Fr.al _ _).trans hF0).trans hF2).trans hF3).trans hF4)⟩
      have z4 := hF4.size
      have hFw4 : Fr r w w4 := ((((Fr.al _ _).trans hF0).trans hF2).trans hF3).trans hF4
      have hb04 := ((hb0.fr hF2 (by omega)).fr hF3 (by omega)).fr hF4 (by omega)
      clear S1 S2
      generalize label ts s = lb at *
      obtain ⟨l1, sl⟩ := lb
      simp only at *
      generalize name ts sl = nb at *
      obtain ⟨nx, ns⟩ := nb
      simp only at *
      have ec : Hid (0 + l1 = l1) := by show _ = _; omega
      cases hv : eqS (txt ts ns) ⟨#[91]⟩
      case false =>
        have ev : Hid (varS ts ns = ([], ns)) := by show _ = _; unfold varS; rw [hv, if_neg (by decide)]
        go_wp2_with (fail)
        refine (skip_no (hL4.alloc _) ⟨#[91]⟩ (by decide) hv (by simp)).mono ?_
        rintro e w5 ⟨rfl, hL5, hF5⟩
        have z5 := hF5.size
        simp only [World.size_alloc] at z5
        obtain ⟨p0, p1, p2, p3, _, _, _, _⟩ := (Box4.new w4 (.int .i64 3) (.string nx) (.int .i64 l1) (.slice none 0 0) 24).fr hF5 (by omega)
        go_wp2_with (fail)
        refine (oended hL5 _ _ _ _ _ _).mono ?_
        rintro e we (⟨hbe, rfl, hFe⟩ | ⟨hbe, rfl, hLe, hFe⟩)
        · go_wp2
          exact ⟨rfl, OAns.lost (by simp only [ev.out]) hbe ((hFw4.trans ((Fr.al _ _).trans hF5)).trans hFe)⟩
        obtain ⟨q0, q1', q2, q3, t0, t1, t2, t3⟩ := ((hb04.alloc _).fr hF5 (by omega)).fr hFe (by omega)
        go_wp2
        exact bodyPost_ret (v := .agg #[.int .i64 3, .string nx, .int .i64 l1, .slice none 0 0]) (by simp [results, Tryz.results122, go_sem, q0, q1', q2, q3, empty]) rfl (by rw [ev.out, ec.out]; exact OAns.fin hr ((hFw4.trans ((Fr.al _ _).trans hF5)).trans hFe) hLe (Nat.le_refl _) (show w.heap.size < w5.heap.size by omega) ((Lies.leaf (fun b => w5.heap.size ≤ b ∧ b < w5.heap.size) w5 3 nx l1).fr (by omega) hFe))
      case true =>
        have ev : Hid (varS ts ns = ([(number ts ns.next).1], must ts ⟨#[93]⟩ (number ts ns.next).2)) := by show _ = _; unfold varS; rw [hv, if_pos rfl]
        have S3 : Hid ((number ts ns.next).2.bad = true → must ts ⟨#[59]⟩ (must ts ⟨#[93]⟩ (number ts ns.next).2) = (number ts ns.next).2) := fun hb => by
          have e1 : must ts ⟨#[93]⟩ (number ts ns.next).2 = (number ts ns.next).2 := must_st (by decide) hb
          rw [e1]
          exact must_st (by decide) hb
        go_wp2_with (fail)
        refine (skip_yes (hL4.alloc _) ⟨#[91]⟩ (by decide) hv (by simp)).mono ?_
        rintro e w5 ⟨rfl, hL5, hF5⟩
        have z5 := hF5.size
        simp only [World.size_alloc] at z5
        go_wp2_with (fail)
        refine (onumber hL5).mono ?_
        rintro e w6 (⟨hb6, rfl, hF6⟩ | ⟨hb6, v6, rfl, hl6, hL6, hF6⟩)
        · go_wp2
          exact ⟨rfl, OAns.lost (by simp only [ev.out]; exact S3.out hb6) hb6 ((hFw4.trans ((Fr.al _ _).trans hF5)).trans hF6)⟩
        obtain ⟨k, x, m, _, rfl, a, n, c, rfl⟩ := hl6.shape
        have z6 := hF6.size
        have hb56 := ((Box4.new w4 (.int .i64 3) (.string nx) (.int .i64 l1) (.slice none 0 0) 24).fr hF5 (by omega)).fr hF6 (by omega)
        have hb06 := ((hb04.alloc _).fr hF5 (by omega)).fr hF6 (by omega)
        obtain ⟨p0, p1, p2, p3, o0, o1, o2, o3⟩ := id hb56
        have y6 : w4.heap.size < w6.heap.size := hb56.lt
        have hput := (Fr.refl w4.heap.size w6).set 3 (.slice (some ⟨w6.heap.size, 0, none⟩) 1 1)
        have l7 : Lies (fun b => w5.heap.size ≤ b ∧ b < (w6.setCell ⟨w4.heap.size, 3, none⟩ (.slice (some ⟨w6.heap.size, 0, none⟩) 1 1)).heap.size) (w6.setCell ⟨w4.heap.size, 3, none⟩ (.slice (some ⟨w6.heap.size, 0, none⟩) 1 1)) (number ts ns.next).1 (.agg #[.int .i64 k, .string x, .int .i64 m, .slice a n c]) := hl6.frP (x := w4.heap.size) hput (fun b hb => ⟨hb.2, by omega⟩) (fun b hb => ⟨hb.1, by rw [World.size_setCell]; exact hb.2⟩)
        have hL7 := (hL6.set (N := w4.heap.size) (by omega) 3 (.slice (some ⟨w6.heap.size, 0, none⟩) 1 1)).alloc (.cells #[.int .i64 k, .string x, .int .i64 m, .slice a n c] 24)
        have hFw7 : Fr r w _ := (((hFw4.trans ((Fr.al _ _).trans hF5)).trans hF6).setNew (N := w4.heap.size) (o := 3) (by omega) (.slice (some ⟨w6.heap.size, 0, none⟩) 1 1)).alloc (.cells #[.int .i64 k, .string x, .int .i64 m, .slice a n c] 24)
        have hb57 := (hb56.set3 (.slice (some ⟨w6.heap.size, 0, none⟩) 1 1)).alloc (.cells #[.int .i64 k, .string x, .int .i64 m, .slice a n c] 24)
        have hb07 := (hb06.other (M := w4.heap.size) (o := 3) (by omega) (.slice (some ⟨w6.heap.size, 0, none⟩) 1 1)).alloc (.cells #[.int .i64 k, .string x, .int .i64 m, .slice a n c] 24)
        have hrow := l7.rowed (T := 24) (k := 3) (x := nx) (m := l1) (c := 1) (M := w6.heap.size) (by rw [World.size_setCell]; exact z6) (by simp)
        go_wp2_with (fail)
        refine (take_must hL7 ⟨#[93]⟩ (by decide) (by simp)).mono ?_
        rintro e w8 ⟨y8, ⟨hb8, rfl, hF8⟩ | ⟨hb8, rfl, hL8, hF8⟩⟩
        · go_wp2
          exact ⟨rfl, OAns.lost (by simp only [ev.out]; exact must_st (by decide) hb8) hb8 (hFw7.trans hF8)⟩
        have z8 := hF8.size
        simp only [World.size_alloc, World.size_setCell] at z8
        obtain ⟨g0, g1, g2, g3, _, _, _, _⟩ := hb57.fr hF8 (by omega)
        go_wp2_with (fail)
        refine (oended hL8 _ _ _ _ _ _).mono ?_
        rintro e we (⟨hbe, rfl, hFe⟩ | ⟨hbe, rfl, hLe, hFe⟩)
        · go_wp2
          exact ⟨rfl, OAns.lost (by simp only [ev.out]) hbe ((hFw7.trans hF8).trans hFe)⟩
        obtain ⟨q0, q1', q2, q3, t0, t1, t2, t3⟩ := (hb07.fr hF8 (by omega)).fr hFe (by omega)
        go_wp2
        exact bodyPost_ret (v := .agg #[.int .i64 3, .string nx, .int .i64 l1, .slice (some ⟨w6.heap.size, 0, none⟩) 1 1]) (by simp [results, Tryz.results122, go_sem, q0, q1', q2, q3, empty]) rfl (by rw [ev.out, ec.out]; exact OAns.fin hr ((hFw7.trans hF8).trans hFe) hLe (Nat.le_refl _) (show w.heap.size < w5.heap.size by omega) ((hrow.fr (by omega) hF8).fr (by omega) hFe))
end
end syn
end Go.Proofs.YtoobkaebahogdaaGreatDoor
