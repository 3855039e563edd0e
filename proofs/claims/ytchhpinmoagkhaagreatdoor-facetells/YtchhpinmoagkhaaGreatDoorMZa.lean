/- What the reference's Parse answers: the contract. -/
import Derived.Test.YtchhpinmoagkhaaGreatDoorProg
import Derived.WalkKit
import Derived.WalkLawsBesides
import Derived.Outline
import Derived.WalkSmall
import Derived.OneCell
import Derived.BigQuiet
import Derived.Deep.QuietTactic
import Derived.Deep.LoopGhost
import Derived.Test.YtchhpinmoagkhaaGreatDoorMRk
import Derived.Test.YtchhpinmoagkhaaGreatDoorMOm
namespace Go.Proofs.YtchhpinmoagkhaaGreatDoor.syn
open Go.RowKit
open Go.Proofs.YtchhpinmoagkhaaGreatDoor.lexs (Tok own_shape)
set_option linter.unusedVariables false
set_option linter.unusedSimpArgs false
set_option maxRecDepth 100000

theorem bel_fr {B r : Nat} {a w w' : World} (h : Below B a w) (hF : Fr r w w') (hr : B ≤ r) (hz : B ≤ w.heap.size) : Below B a w' :=
  ⟨hF.os.trans h.os, hF.tape.trans h.tape, hF.output.trans h.output, Nat.le_trans h.size hF.size, fun j hj => (hF.block j (by omega) (by simp; omega)).trans (h.block j hj)⟩
/-- a reader that is laid now -/
theorem Rd.new {w : World} {L : Value} {ts : List Tok} {T : TypeId} {B0 : Nat} (hown : w.ownsRow B0 58 3 L ts.length (lexs.cellsOf ts)) (hlen : ts.length ≤ 3000) (hnum : ∀ t ∈ ts, t.kind = 2 → lexs.numE t.text = 0 ∧ t.text ≠ []) : Rd (w.alloc (.cells #[L, .int .i64 0, .bool false] T)) w.heap.size L ts ⟨0, false⟩ := by
  refine ⟨by simp, by simp, by simp, by simp, by simp, ?_, ?_, hlen, Nat.zero_le _, hnum⟩
  · exact lexs.ownsRow_le (hown.alloc _) (Nat.zero_le _)
  · intro e
    have := (hown.lt _ e).2
    omega
set_option maxHeartbeats 8000000 in
theorem rparse (x : ByteArray) : Parses (fun _ => True) 10 x := by
  intro w _
  have c24 : Tryz.prog.cellsOf 24 = 4 := by kernel_rfl
  have c27 : Tryz.prog.cellsOf 27 = 2 := by kernel_rfl
  have c41 : Tryz.prog.cellsOf 53 = 3 := by kernel_rfl
  obtain ⟨i0, hi, hz0, hz1', hz2⟩ := info_parts nodeInfo
  have hbel : Below w.heap.size w ((w.alloc (.cells #[.int .i64 0, .string empty, .int .i64 0, .slice none 0 0] 24)).alloc (.cells #[.int .i64 0, .int .i64 0] 27)) := ((Below.refl _ _).alloc (Nat.le_refl _) _).alloc (by simp) _
  have hS := lexs.rscan_any x ((w.alloc (.cells #[.int .i64 0, .string empty, .int .i64 0, .slice none 0 0] 24)).alloc (.cells #[.int .i64 0, .int .i64 0] 27))
  have hb1 := (Box4.new w (.int .i64 0) (.string empty) (.int .i64 0) (.slice none 0 0) 24).alloc (.cells #[.int .i64 0, .int .i64 0] 27)
  have hb2 := Box2.new (w.alloc (.cells #[.int .i64 0, .string empty, .int .i64 0, .slice none 0 0] 24)) (.int .i64 0) (.int .i64 0) 27
  rw [World.size_alloc] at hb2
  unfold parse
  cases hsc : lexs.scan x.data.toList with
  | err c p =>
    rw [hsc] at hS
    have hc := lexs.scan_err hsc
    have hcb : (c != 0) = true := by simpa using hc
    simp only [lexs.Res.code, lexs.Res.place, lexs.Res.toks] at hS
    go_enter Tryz.func10, Tryz.ntmps10
    go_wp2_with (fail)
    refine hS.mono ?_
    rintro e w1 ⟨v, rfl, hown, hbe⟩
    have hB1 := hb1.below hbe
    have hB2 := hb2.below hbe
    obtain ⟨q0, q1, q2, q3, t0, t1, t2, t3⟩ := id hB1
    obtain ⟨r0, r1, u0, u1⟩ := id hB2
    have z1 : w.heap.size + 1 < w1.heap.size := hB2.lt
    have z0 : w.heap.size < w1.heap.size := hB1.lt
    have hbw : Below w.heap.size w w1 := hbel.trans (hbe.mono (by simp; omega))
    go_wp2
    go_region
    all_goals
      go_wp2
      refine bodyPost_ret (v := .tuple #[.agg #[.int .i64 0, .string empty, .int .i64 0, .slice none 0 0], .agg #[.int .i64 c, .int .i64 p]]) (by simp [results, Tryz.results10, go_sem, q0, q1, q2, q3, r0, r1, z0, z1, empty]) rfl (PsOut.none ?_)
      exact below_drewN ((below6 hbw _ _ _ _ _ _).alloc (by simp; omega) _) 1
  | ok ts =>
    rw [hsc] at hS
    simp only [lexs.Res.code, lexs.Res.place, lexs.Res.toks] at hS
    obtain ⟨p, d, hp, hd, hmod⟩ := moduleF_has (lexs.scan_len hsc)
    simp only [hmod]
    have hnum := lexs.scan_num hsc
    have hlen := lexs.scan_len hsc
    have HP : Hid (importsL ts 4000 [] (headS ts) = some p) := hp
    have HD : Hid (declsL ts 4000 p.1 p.2 = some d) := hd
    clear hp hd hmod
    go_enter Tryz.func10, Tryz.ntmps10
    go_wp2_with (fail)
    refine hS.mono ?_
    rintro e w1 ⟨v, rfl, hown, hbe⟩
    have hB1 := hb1.below hbe
    have hB2 := hb2.below hbe
    have z1 : w.heap.size + 1 < w1.heap.size := hB2.lt
    have z0 : w.heap.size < w1.heap.size := hB1.lt
    have hbw1 : Below w.heap.size w w1 := hbel.trans (hbe.mono (by simp; omega))
    obtain ⟨a, c, rfl, hm, hga⟩ := own_shape hown
    have hRd := (Rd.new (T := 53) (hown.alloc (.cells #[.int .i64 0, .int .i64 0] 27)) hlen hnum).alloc (.cells #[.int .i64 1, .string empty, .int .i64 0, .slice none 0 0] 24)
    have hbn := Box4.new ((w1.alloc (.cells #[.int .i64 0, .int .i64 0] 27)).alloc (.cells #[.slice a ts.length c, .int .i64 0, .bool false] 53)) (.int .i64 1) (.string empty) (.int .i64 0) (.slice none 0 0) 24
    simp only [World.size_alloc] at hRd hbn
    have hbz : Below w1.heap.size w1 (((w1.alloc (.cells #[.int .i64 0, .int .i64 0] 27)).alloc (.cells #[.slice a ts.length c, .int .i64 0, .bool false] 53)).alloc (.cells #[.int .i64 1, .string empty, .int .i64 0, .slice none 0 0] 24)) := (((Below.refl _ _).alloc (Nat.le_refl _) _).alloc (by simp) _).alloc (by simp; omega) _
    have hM : MP (w1.heap.size + 2) (w1.heap.size + 1) (.slice a ts.length c) ts _ ⟨0, false⟩ 1 empty 0 (.slice none 0 0) [] := ⟨hRd, hbn, by omega, fun g hg => by have := (hown.lt g hg).2; omega, Kids.nil _ _ _⟩
    go_wp2_with (fail)
    refine (rmust hM.rd ⟨#[109, 111, 100, 117, 108, 101]⟩ (by decide)).mono ?_
    rintro e w2 ⟨rfl, hR2, hF2⟩
    have hz2' : w1.heap.size + 3 ≤ w2.heap.size := by have := hF2.size; simpa using this
    replace hM := hM.step hR2 hF2
    replace hbz := bel_fr hbz hF2 (by omega) (by simp; omega)
    go_wp2_with (fail)
    refine (rname hM.rd).mono ?_
    rintro e w3 ⟨rfl, hR3, hF3⟩
    have hz3 := hF3.size
    replace hM := hM.step hR3 hF3
    replace hbz := bel_fr hbz hF3 (by omega) (by omega)
    obtain ⟨p0, p1, p2, p3, o0, o1, o2, o3⟩ := id hM.box
    replace hM := hM.text (name ts (must ts ⟨#[109, 111, 100, 117, 108, 101]⟩ ⟨0, false⟩)).1
    replace hbz := hbz.setCell (p := ⟨w1.heap.size + 2, 1, none⟩) (by simp) (.string (name ts (must ts ⟨#[109, 111, 100, 117, 108, 101]⟩ ⟨0, false⟩)).1)
    go_wp2_with (fail)
    refine (rmust hM.rd ⟨#[59]⟩ (by decide)).mono ?_
    rintro e w4 ⟨rfl, hR4, hF4⟩
    have hz4 := hF4.size
    rw [World.size_setCell] at hz4
    replace hM := hM.step hR4 hF4
    replace hbz := bel_fr hbz hF4 (by omega) (by rw [World.size_setCell]; omega)
    go_wp2
    go_loopg [] 4000 (fun k wr => ∃ (ks : List Tree) (s1 : St) (kv : Value), Hid (importsL ts k ks s1 = some p) ∧ ks.length + k ≤ 4000 ∧ MP (w1.heap.size + 2) (w1.heap.size + 1) (.slice a ts.length c) ts wr s1 1 (headX ts) 0 kv ks ∧ Below w1.heap.size w1 wr)
    case atStart => exact ⟨[], headS ts, .slice none 0 0, HP.out, by simp, hM, hbz⟩
    case round =>
      clear hM hbz hR4 hF4 hR3 hF3 hR2 hF2 HP p0 p1 p2 p3 o0 o1 o2 o3
      obtain ⟨ks, s1, kv, HL, hkf, hM, hbz⟩ := hrel
      obtain ⟨ka, kc, rfl⟩ := hM.kids.shape
      cases gk with
      | zero => have := HL.out; unfold importsL at this; simp at this
      | succ k =>
        have hq2 := HL.out
        clear HL
        unfold importsL at hq2
        cases he : eqS (txt ts s1) ⟨#[105, 109, 112, 111, 114, 116]⟩
        case true =>
          rw [he, if_pos rfl] at hq2
          have HQ : Hid (importsL ts k (ks ++ [Tree.node 2 (name ts s1.next).1 0 []]) (must ts ⟨#[59]⟩ (name ts s1.next).2) = some p) := hq2
          clear hq2
          have hs0 := hM.size
          go_wp2_with (fail)
          refine (reat_yes hM.rd ⟨#[105, 109, 112, 111, 114, 116]⟩ (by decide) he).mono ?_
          rintro e w5 ⟨rfl, hR5, hF5⟩
          replace hM := hM.step hR5 hF5
          replace hbz := bel_fr hbz hF5 (by omega) (by omega)
          have hs5 := hM.size
          go_wp2_with (fail)
          refine (rname hM.rd).mono ?_
          rintro e w6 ⟨rfl, hR6, hF6⟩
          replace hM := hM.step hR6 hF6
          replace hbz := bel_fr hbz hF6 (by omega) (by omega)
          have hs6 := hM.size
          go_wp2_with (fail)
          refine (rmust hM.rd ⟨#[59]⟩ (by decide)).mono ?_
          rintro e w7 ⟨rfl, hR7, hF7⟩
          replace hM := hM.step hR7 hF7
          replace hbz := bel_fr hbz hF7 (by omega) (by omega)
          have hsz := hM.size
          have hlow := hM.rn
          have hkb : ∀ g, (Value.slice ka ks.length kc).ownBlock = some g → w1.heap.size + 2 + 1 ≤ g ∧ g < w7.heap.size := fun g hg => hM.kids.blk hg
          have hlk : ks.length ≤ 8000 := by omega
          obtain ⟨p0, p1, p2, p3, o0, o1, o2, o3⟩ := id hM.box
          obtain ⟨vs, ho, ha⟩ := hM.kids
          have HA : Hid (AllLie (fun b => w1.heap.size + 2 + 1 ≤ b ∧ b < w7.heap.size ∧ some b ≠ (Value.slice ka ks.length kc).ownBlock) w7 ks vs) := ha
          clear ha
          go_wp2_with (at_builtin; refine wpList_append_fresh rfl (.tmp 38) (.tmp 41) 22 rfl (w1.heap.size + 2 + 1) 24 i0 (.agg #[.int .i64 0, .string ⟨#[]⟩, .int .i64 0, .slice none 0 0]) 4 56 Tryz.underlying22 hi hz0 hz1' hz2 rfl (by decide) _ _ _ rfl (ho.alloc _) ⟨w7.heap.size, 0, none⟩ 1 1 [.int .i64 2, .string (name ts s1.next).1, .int .i64 0, .slice none 0 0] rfl rfl (cells4_new _ _ _ _ _ _ _ (by simp)) (by intro u hu; simp at hu; rcases hu with rfl | rfl | rfl | rfl <;> rfl) (by unfold maxLen; omega) (by omega) (by simp <;> omega) (by decide) ?_; intro v' w9 hown' hgrow hfr; obtain ⟨a4, c4, rfl, hmx', _⟩ := own_shape hown'; obtain ⟨g0, g1, g2, g3, l0, l1, l2, l3⟩ := (hM.box.alloc _).grown hgrow hM.nb; have hM9 := MP.pushed (q := (.int .i64 2, .string (name ts s1.next).1, .int .i64 0, .slice none 0 0)) (t := Tree.node 2 (name ts s1.next).1 0 [] ) hM ho HA.out (Lies.leaf _ _ _ _ _) hown' hgrow (by rcases hfr with e | e; exact .inl e; exact .inr (by rw [e]; simp)); have hbz9 := (((hbz.alloc (by omega) _).grown hgrow (by simp; omega) (fun k e => by have := (hkb k e).1; omega)).setCell (p := ⟨w1.heap.size + 2, 3, none⟩) (by simp) (.slice a4 (ks.length + 1) c4)))
          go_roundg k
          case rel => exact ⟨ks ++ [Tree.node 2 (name ts s1.next).1 0 [] ], _, _, HQ.out, by rw [List.length_append]; simp; omega, hM9, hbz9⟩
          case measure => omega
        case false =>
          rw [he, if_neg (by decide)] at hq2
          simp only [Option.some.injEq] at hq2
          subst hq2
          have hs0 := hM.size
          go_wp2_with (fail)
          refine (reat_no hM.rd ⟨#[105, 109, 112, 111, 114, 116]⟩ (by decide) he).mono ?_
          rintro e w5 ⟨rfl, hR5, hF5⟩
          replace hM := hM.step hR5 hF5
          replace hbz := bel_fr hbz hF5 (by omega) (by omega)
          clear he
          go_wp2
          go_loopg [] 4000 (fun k wr => ∃ (ks : List Tree) (s1 : St) (kv : Value), Hid (declsL ts k ks s1 = some d) ∧ ks.length + k ≤ 8000 ∧ MP (w1.heap.size + 2) (w1.heap.size + 1) (.slice a ts.length c) ts wr s1 1 (headX ts) 0 kv ks ∧ Below w1.heap.size w1 wr)
          case atStart => exact ⟨ks, s1, _, HD.out, by omega, hM, hbz⟩
          case round =>
            clear hM hbz hR5 hF5 HD hs0 hkf
            obtain ⟨ks, s1, kv, HL, hkf, hM, hbz⟩ := hrel
            obtain ⟨ka, kc, rfl⟩ := hM.kids.shape
            have hs0 := hM.size
            have d1 := hM.rd.c1
            have d2 := hM.rd.c2
            have dle := hM.rd.le
            cases gk with
            | zero => have := HL.out; unfold declsL at this; simp at this
            | succ k =>
              have hq2 := HL.out
              clear HL
              unfold declsL at hq2
              have hBf := hB1.below hbz
              have hBg := hB2.below hbz
              have hbw : Below w.heap.size w wr := hbw1.trans (hbz.mono (by omega))
              have y0 : w.heap.size < wr.heap.size := hBf.lt
              have y1 : w.heap.size + 1 < wr.heap.size := hBg.lt
              cases hbad : s1.bad
              case true =>
                rw [hbad] at hq2 d2
                simp only [Bool.true_or, if_true, Option.some.injEq] at hq2
                subst hq2
                obtain ⟨q0, q1, q2, q3, t0, t1, t2, t3⟩ := id hBf
                obtain ⟨r0, r1, u0, u1⟩ := id hBg
                by_cases hlt : s1.i < ts.length
                · have ej : Hid (judge ts x.size (.node 1 (headX ts) 0 ks, s1) = ⟨none0, 2, (ts[s1.i].at_ : Int)⟩) := by
                    show _ = _
                    unfold judge failAt
                    rw [hbad, List.getElem?_eq_getElem hlt]
                    rfl
                  obtain ⟨g, rfl⟩ := hga (by omega)
                  obtain ⟨x0, x1, x2⟩ := lexs.tok_cells (lexs.own_below hown hbz) hlt
                  have hdl : ((s1.i : Int) < (ts.length : Int)) := by omega
                  have hgN := (hown.lt g rfl).1
                  simp only [World.size_alloc] at hgN
                  have hg1 : ¬ g = w.heap.size := by omega
                  have hg2 : ¬ g = w.heap.size + 1 := by omega
                  have hg3 : ¬ w.heap.size = g := by omega
                  have hg4 : ¬ w.heap.size + 1 = g := by omega
                  generalize ts[s1.i].at_ = ta at *
                  go_wp2
                  go_region
                  all_goals
                    go_wp2
                    refine bodyPost_ret (v := .tuple #[.agg #[.int .i64 0, .string empty, .int .i64 0, .slice none 0 0], .agg #[.int .i64 2, .int .i64 ta]]) (by simp [results, Tryz.results10, go_sem, q0, q1, q2, q3, r0, r1, empty]) rfl ?_
                    rw [ej.out]
                    exact PsOut.none (below_drewN (below6 hbw _ _ _ _ _ _) 1)
                · have ej : Hid (judge ts x.size (.node 1 (headX ts) 0 ks, s1) = ⟨none0, 2, (x.size : Int)⟩) := by
                    show _ = _
                    unfold judge failAt
                    rw [hbad, List.getElem?_eq_none (show ts.length ≤ s1.i by omega)]
                    rfl
                  have hdl : ¬ ((s1.i : Int) < (ts.length : Int)) := by omega
                  go_wp2
                  refine bodyPost_ret (v := .tuple #[.agg #[.int .i64 0, .string empty, .int .i64 0, .slice none 0 0], .agg #[.int .i64 2, .int .i64 x.size]]) (by simp [results, Tryz.results10, go_sem, q0, q1, q2, q3, r0, r1, empty]) rfl ?_
                  rw [ej.out]
                  exact PsOut.none (below6 hbw _ _ _ _ _ _)
              case false =>
                rw [hbad] at hq2 d2
                by_cases hlt : ts.length ≤ s1.i
                · rw [decide_eq_true hlt] at hq2
                  simp only [Bool.or_true, if_true, Option.some.injEq] at hq2
                  subst hq2
                  have hdl : ¬ ((s1.i : Int) < (ts.length : Int)) := by omega
                  obtain ⟨p0, p1, p2, p3, _, _, _, _⟩ := id hM.box
                  have hln : Lies (· < wr.heap.size) wr (.node 1 (headX ts) 0 ks) (.agg #[.int .i64 1, .string (headX ts), .int .i64 0, .slice ka ks.length kc]) := hM.kids.lies (fun b hb => hb.2.1) (fun g hg => (hM.kids.blk hg).2) (by omega)
                  have hlm : Lies (fun b => w1.heap.size + 3 ≤ b ∧ b < wr.heap.size) wr (.node 1 (headX ts) 0 ks) (.agg #[.int .i64 1, .string (headX ts), .int .i64 0, .slice ka ks.length kc]) := hM.kids.lies (fun b hb => ⟨hb.1, hb.2.1⟩) (fun g hg => hM.kids.blk hg) (by omega)
                  have hFt := rfits _ _ _ hln
                  go_wp2_with (fail)
                  refine hFt.mono ?_
                  rintro e w6 ⟨rfl, hb6⟩
                  have hbw6 : Below w.heap.size w w6 := hbw.trans (hb6.mono (by omega))
                  obtain ⟨q0, q1, q2, q3, t0, t1, t2, t3⟩ := hBf.below hb6
                  obtain ⟨r0, r1, u0, u1⟩ := hBg.below hb6
                  obtain ⟨n0, n1, n2, n3, _, _, _, _⟩ := hM.box.below hb6
                  have hl6 := hlm.frP (x := w.heap.size) (Fr.below hb6) (Q := fun b => w1.heap.size + 3 ≤ b ∧ b < w6.heap.size) (fun b hb => ⟨hb.2, by omega⟩) (fun b hb => ⟨hb.1, Nat.lt_of_lt_of_le hb.2 hb6.size⟩)
                  cases hfit : fitsT (.node 1 (headX ts) 0 ks)
                  case true =>
                    have ej : Hid (judge ts x.size (.node 1 (headX ts) 0 ks, s1) = ⟨.node 1 (headX ts) 0 ks, 0, 0⟩) := by show _ = _; unfold judge; rw [hbad, hfit]; rfl
                    go_wp2
                    refine bodyPost_ret (v := .tuple #[.agg #[.int .i64 1, .string (headX ts), .int .i64 0, .slice ka ks.length kc], .agg #[.int .i64 0, .int .i64 0]]) (by simp [results, Tryz.results10, go_sem, q0, q1, q2, q3, r0, r1]) rfl ?_
                    rw [ej.out]
                    refine ⟨_, rfl, ?_, below6 hbw6 _ _ _ _ _ _⟩
                    exact (hl6.frP (x := w.heap.size) (Fr.put _ _ _ _ _ _) (fun b hb => ⟨hb.2, by omega⟩) (fun b hb => hb)).frP (x := w.heap.size + 1) (((Fr.refl _ _).set 0 _).set 1 _) (fun b hb => ⟨by simpa using hb.2, by omega⟩) (fun b hb => ⟨by omega, by simpa using hb.2⟩)
                  case false =>
                    have ej : Hid (judge ts x.size (.node 1 (headX ts) 0 ks, s1) = ⟨none0, 1, 0⟩) := by show _ = _; unfold judge; rw [hbad, hfit]; rfl
                    go_wp2
                    refine bodyPost_ret (v := .tuple #[.agg #[.int .i64 0, .string empty, .int .i64 0, .slice none 0 0], .agg #[.int .i64 1, .int .i64 0]]) (by simp [results, Tryz.results10, go_sem, q0, q1, q2, q3, r0, r1, empty]) rfl ?_
                    rw [ej.out]
                    exact PsOut.none (below6 hbw6 _ _ _ _ _ _)
                · rw [decide_eq_false hlt] at hq2
                  simp only [Bool.or_false, Bool.false_eq_true, if_false] at hq2
                  obtain ⟨q1, h1, hq3⟩ := bind_some_is hq2
                  have HQ : Hid (declsL ts k (ks ++ [q1.1]) q1.2 = some d) := hq3
                  clear hq2 hq3
                  have hdl : ((s1.i : Int) < (ts.length : Int)) := by omega
                  have hkb0 : ∀ g, (Value.slice ka ks.length kc).ownBlock = some g → g < wr.heap.size := fun g hg => (hM.kids.blk hg).2
                  go_wp2_with (fail)
                  refine (rdecl (Nat.le_refl _) hM.rd h1).mono ?_
                  rintro e w5 ⟨v5, rfl, hl5, hR5, hF5⟩
                  obtain ⟨k5, x5, m5, _, rfl, a5, n5, c5, rfl⟩ := hl5.shape
                  replace hM := (hM.step hR5 hF5).alloc (.cells #[.int .i64 k5, .string x5, .int .i64 m5, .slice a5 n5 c5] 24)
                  have hs5 := hF5.size
                  replace hbz := (bel_fr hbz hF5 (by omega) (by omega)).alloc (by omega) (.cells #[.int .i64 k5, .string x5, .int .i64 m5, .slice a5 n5 c5] 24)
                  have hl6 : Lies (fun b => w1.heap.size + 2 + 1 ≤ b ∧ b < (w5.alloc (.cells #[.int .i64 k5, .string x5, .int .i64 m5, .slice a5 n5 c5] 24)).heap.size ∧ some b ≠ (Value.slice ka ks.length kc).ownBlock) (w5.alloc (.cells #[.int .i64 k5, .string x5, .int .i64 m5, .slice a5 n5 c5] 24)) q1.1 (.agg #[.int .i64 k5, .string x5, .int .i64 m5, .slice a5 n5 c5]) :=
                    hl5.frP (x := w5.heap.size) (Fr.al _ _) (fun b hb => ⟨hb.2, by omega⟩) (fun b hb => ⟨by omega, by rw [World.size_alloc]; omega, fun e => by have := hkb0 b e.symm; omega⟩)
                  have hsz := hM.size
                  have hlow := hM.rn
                  have hkb : ∀ g, (Value.slice ka ks.length kc).ownBlock = some g → w1.heap.size + 2 + 1 ≤ g ∧ g < (w5.alloc (.cells #[.int .i64 k5, .string x5, .int .i64 m5, .slice a5 n5 c5] 24)).heap.size := fun g hg => hM.kids.blk hg
                  have hlk : ks.length ≤ 8000 := by omega
                  obtain ⟨p0, p1, p2, p3, o0, o1, o2, o3⟩ := id hM.box
                  obtain ⟨vs, ho, ha⟩ := hM.kids
                  have HA : Hid (AllLie (fun b => w1.heap.size + 2 + 1 ≤ b ∧ b < (w5.alloc (.cells #[.int .i64 k5, .string x5, .int .i64 m5, .slice a5 n5 c5] 24)).heap.size ∧ some b ≠ (Value.slice ka ks.length kc).ownBlock) (w5.alloc (.cells #[.int .i64 k5, .string x5, .int .i64 m5, .slice a5 n5 c5] 24)) ks vs) := ha
                  clear ha
                  go_wp2_with (at_builtin; refine wpList_append_fresh rfl (.tmp 61) (.tmp 63) 22 rfl (w1.heap.size + 2 + 1) 24 i0 (.agg #[.int .i64 0, .string ⟨#[]⟩, .int .i64 0, .slice none 0 0]) 4 56 Tryz.underlying22 hi hz0 hz1' hz2 rfl (by decide) _ _ _ rfl (ho.alloc _) ⟨w5.heap.size + 1, 0, none⟩ 1 1 [.int .i64 k5, .string x5, .int .i64 m5, .slice a5 n5 c5] rfl rfl (cells4_new _ _ _ _ _ _ _ (by simp)) (by intro u hu; simp at hu; rcases hu with rfl | rfl | rfl | rfl <;> rfl) (by unfold maxLen; omega) (by omega) (by simp <;> omega) (by decide) ?_; intro v' w9 hown' hgrow hfr; obtain ⟨a4, c4, rfl, hmx', _⟩ := own_shape hown'; obtain ⟨g0, g1, g2, g3, l0, l1, l2, l3⟩ := (hM.box.alloc _).grown hgrow hM.nb; have hM9 := MP.pushed (q := (.int .i64 k5, .string x5, .int .i64 m5, .slice a5 n5 c5)) (t := q1.1) hM ho HA.out hl6 hown' hgrow (by rcases hfr with e | e; exact .inl e; exact .inr (by rw [e]; simp)); have hbz9 := (((hbz.alloc (by omega) _).grown hgrow (by simp; omega) (fun k e => by have := (hkb k e).1; omega)).setCell (p := ⟨w1.heap.size + 2, 3, none⟩) (by simp) (.slice a4 (ks.length + 1) c4)))
                  go_roundg k
                  case rel => exact ⟨ks ++ [q1.1], _, _, HQ.out, by rw [List.length_append]; simp; omega, hM9, hbz9⟩
                  case measure => omega
end Go.Proofs.YtchhpinmoagkhaaGreatDoor.syn
