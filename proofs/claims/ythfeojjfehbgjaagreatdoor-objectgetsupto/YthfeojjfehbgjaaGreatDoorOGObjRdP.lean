/- What the reference's reader's places answers: a contract. -/
import Derived.Test.YthfeojjfehbgjaaGreatDoorOGObjRdR
import Derived.Test.YthfeojjfehbgjaaGreatDoorOGObjLst
namespace Go.Proofs.YthfeojjfehbgjaaGreatDoor.obj
open Go.RowKit
open Go.Proofs.YthfeojjfehbgjaaGreatDoor.mac (BoxC grown_of_below Ins)
open Go.Proofs.YthfeojjfehbgjaaGreatDoor.face (VarD ProcD FaceD IntsIn VarsIn ProcsIn)
set_option linter.unusedVariables false
set_option linter.unusedSimpArgs false
set_option maxRecDepth 100000
theorem info_rPlc : (Tryz.prog.info? 85).map (fun i => (i.zero, i.size, i.bytes)) = some (some (.agg #[.string ⟨#[]⟩, .int .i64 0]), 2, 24) := by kernel_rfl
/-- a list that was read, in new memory -/
def LW {α : Type} (It : Lies α) (T : TypeId) (k N Lb : Nat) (x : List α) (v : Value) (w : World) : Prop := LV It T k N x v w ∧ 8 * x.length ≤ Lb
section
variable {w : World} {r c p : Nat} {a : Option Addr} {L : By} {bad : Bool}
set_option maxHeartbeats 2000000 in
theorem rPlacesR (h : RB w r a c L p bad) : Calls Tryz.prog 34 #[.pointer (some ⟨r, 0, none⟩)] w (RE (getL getPlc) (LW itPlc 85 2 w.heap.size (L.length + 8)) r a c L p bad w) := by
  have cT : Tryz.prog.cellsOf 85 = 2 := by kernel_rfl
  obtain ⟨i0, hi, hz0, hz1, hz2⟩ := info_of info_rPlc
  have hrw := h.lt
  have hmost := h.most
  have hC := rNumberR h
  obtain ⟨G, hG⟩ : ∃ G, G = getL getPlc (L.drop p) := ⟨_, rfl⟩
  have K0 : KR bad bad G ((getL getPlc (L.drop p)).bind some) := (KR.begin bad G).eq (by rw [hG]; cases getL getPlc (L.drop p) <;> rfl)
  replace hG : Hid (G = _) := hG
  go_enter Tryz.func34, Tryz.ntmps34
  go_wp2_with (fail)
  refine hC.mono ?_
  rintro e w1 ⟨hF1, n, v, p1, b1, rfl, ⟨rfl, hn1, hn2⟩, hB1, hp1, h81, hS1⟩
  clear hC
  have HB0 : Hid (bad = true → b1 = true) := hS1.stays
  have HP0 : Hid (b1 = false → p + 8 ≤ p1) := h81
  have K1 := (K0.list (C := id) rfl hS1)
  replace K1 := (show Hid _ from K1)
  clear K0 hS1 h81
  go_wp2
  go_loopw [5, 3] (fun t s wr => ∃ (zs : List (PlcD × List Value)) (pj : Nat) (bj : Bool), (bj = false → 8 * zs.length ≤ pj) ∧ 8 * zs.length ≤ pj + 8 ∧ t = .int .i64 (zs.length : Int) ∧ ((zs.length : Int) ≤ n ∨ zs.length = 0) ∧ Lp itPlc 85 2 w.heap.size zs s wr ∧ RB wr r a c L pj bj ∧ FrR r w wr ∧ p ≤ pj ∧ Hid (bad = true → bj = true) ∧ Hid (bj = false → p + 8 ≤ pj) ∧ Hid (KR bad bj G (id (sel n ((getN getPlc (n.toNat - zs.length) (L.drop pj)).bind fun y => some (zs.map (·.1) ++ y.1, y.2)))))) (fun t _ _ => (n - intOf t).toNat)
  case atStart => exact ⟨[], p1, b1, (fun _ => by simp), by simp, rfl, .inr rfl, Lp.nil _ _ _ _ _, hB1, hF1, hp1, HB0, HP0, K1⟩
  case round =>
    clear hB1 hF1 hp1 HB0 HP0 K1
    obtain ⟨zs, pj, bj, hc1, hc2, rfl, hjn, hrow, hB, hF, hpp, HB, HP, HK⟩ := hrel
    have hle := hB.le
    have m2 := hB.box.cell 2 rfl
    obtain ⟨sa, sc, rfl⟩ := own_shape hrow.row
    have hdone : ∀ W d, RB W r a c L pj d → FrR r w W → Lp itPlc 85 2 w.heap.size zs (.slice sa zs.length sc) W → (bad = true → d = true) → (d = false → p + 8 ≤ pj) → KR bad d G (some (zs.map (·.1), L.drop pj)) → RE (getL getPlc) (LW itPlc 85 2 w.heap.size (L.length + 8)) r a c L p bad w (.returned (.slice sa zs.length sc)) W := fun W d h1 h2 h3 h4 h5 h6 => by
      rw [hG.out] at h6
      exact ⟨h2, _, _, pj, d, rfl, ⟨⟨zs, rfl, h3⟩, by rw [List.length_map]; omega⟩, h1, hpp, h5, KR.to h6 h4⟩
    replace hdone := (show Hid _ from hdone)
    cases bj with
    | true =>
      have f2 := hB.box.fz 2
      by_cases hlt : (zs.length : Int) < n
      all_goals
        go_wp2
        go_ret
        exact hdone.out _ true (hB.setBad true) (hF.trans ((Fr.refl _ _ _).set 2 _)) (hrow.fr goPlc ((Fr.refl r nilV wr).set 2 _) hrw) (fun _ => rfl) (fun e => by cases e) HK.out.any
    | false =>
      by_cases hlt : (zs.length : Int) < n
      · have hcz : 8 * zs.length ≤ pj := by first | exact hc1 rfl | exact hc1 trivial
        have hA := (Below.refl wr.heap.size wr).alloc (Nat.le_refl _) (.cells #[.string ⟨#[]⟩, .int .i64 0] 85)
        have hx := BoxC.new wr #[.string ⟨#[]⟩, .int .i64 0] 85
        have hFr : FrR r wr (wr.alloc (.cells #[.string ⟨#[]⟩, .int .i64 0] 85)) := Fr.new r nilV wr _
        have hrV : wr.heap.size ≠ r := by have := hB.lt; omega
        have hC := rTextR (hB.low hA hB.lt)
        have hr2 := hB.lt
        have HKI : Hid (KR false false (getPlc (L.drop pj)) (getPlc (L.drop pj))) := KR.begin _ _
        have hm : n.toNat - zs.length = (n.toNat - (zs.length + 1)) + 1 := by omega
        replace HK : Hid (KR bad false G (id (sel n ((getN getPlc ((n.toNat - (zs.length + 1)) + 1) (L.drop pj)).bind fun y => some (zs.map (·.1) ++ y.1, y.2))))) := by show KR _ _ _ _; rw [← hm]; exact HK.out
        clear hm
        go_wp2_with (fail)
        refine hC.mono ?_
        rintro e w3 ⟨hF3, x1, v, p3, b3, rfl, hv3, hB3, hp3, h83, hS3⟩
        obtain rfl : v = .string x1 := hv3
        clear hC
        replace HKI : Hid _ := KR.step (C := id) HKI.out rfl hS3
        replace hx := box_fr hx hF3 hrV
        replace hFr := hFr.trans hF3
        have hs3 := hFr.size
        have H83 : Hid (b3 = false → pj + 8 ≤ p3) := h83
        clear hF3 hA h83 hS3
        have y0 := hx.cell 0 rfl
        have y1 := hx.cell 1 rfl
        have g0 := hx.fz 0
        have g1 := hx.fz 1
        have hB4 := hB3.fr ((Fr.refl wr.heap.size nilV w3).set 0 (.string x1)) (by omega)
        have hx4 := hx.set 0 (.string x1)
        have hFr4 := frr_new (k := 0) (v := .string x1) hFr (Nat.le_refl wr.heap.size)
        have hC := rNumberR hB4
        go_wp2_with (fail)
        refine hC.mono ?_
        rintro e w5 ⟨hF5, x2, v, p5, b5, rfl, ⟨rfl, hv5, hv5'⟩, hB5, hp5, h85, hS5⟩
        clear hC y0 y1 g0 g1 hB4 hx hFr hB3
        replace HKI : Hid _ := KR.step (C := id) HKI.out rfl hS5
        replace hx4 := box_fr hx4 hF5 hrV
        replace hFr4 := hFr4.trans hF5
        have hst := hS5.stays
        have y1 := hx4.cell 1 rfl
        have g1 := hx4.fz 1
        have hB6 := hB5.fr ((Fr.refl wr.heap.size nilV w5).set 1 (.int .i64 x2)) (by omega)
        have hx6 := hx4.set 1 (.int .i64 x2)
        have hFr6 := frr_new (k := 1) (v := .int .i64 x2) hFr4 (Nat.le_refl wr.heap.size)
        have z0 := hx6.cell 0 (v := .string x1) rfl
        have z1 := hx6.cell 1 (v := .int .i64 x2) rfl
        have hsz : (w5.setCell ⟨wr.heap.size, 1, none⟩ (.int .i64 x2)).heap.size = w5.heap.size := by simp
        have hrow3 := hrow.fr goPlc hFr6 hrw
        have hsn : ∀ b, (Value.slice sa zs.length sc).ownBlock = some b → b < wr.heap.size := fun b e => (hrow.row.lt b e).2
        have hrow4 := hrow3.row.alloc (.cells #[.string x1, .int .i64 x2] 85)
        have hnw : ∀ j u, (plcC ⟨x1, x2⟩)[j]? = some u → ((w5.setCell ⟨wr.heap.size, 1, none⟩ (.int .i64 x2)).alloc (.cells #[.string x1, .int .i64 x2] 85)).cell? ((⟨w5.heap.size, 0, none⟩ : Addr).add j) = some u := by
          rw [← hsz]
          exact World.news_of_block (BoxC.new (w5.setCell ⟨wr.heap.size, 1, none⟩ (.int .i64 x2)) #[.string x1, .int .i64 x2] 85)
        have hone : ∀ u ∈ plcC ⟨x1, x2⟩, u.oneCell' = true := by intro u hu; simp [plcC] at hu; rcases hu with rfl | rfl <;> rfl
        have hnn := hF.size
        have hle5 := hB5.le
        replace HKI : Hid (Stp getPlc L pj false ⟨x1, x2⟩ p5 b5) := KR.to HKI.out (fun e => by cases e)
        replace HK : Hid _ := KR.more (C := fun o => id (sel n o)) (k := some) HK.out (sel_none n) HKI.out
        have HST : Hid (b3 = true → b5 = true) := hst
        replace hF := hF.trans hFr6
        clear HKI hrow hst hFr6 hFr4 hx4 hB5 hB hS5
        have hszF := hF.size
        rw [hsz] at hszF
        go_wp2_with (at_builtin; refine wpList_append_lies _ rfl (.tmp 28) (.tmp 30) 29 rfl w.heap.size 85 i0 _ 2 24 Tryz.underlying29 hi hz0 hz1 hz2 rfl (by decide) _ _ _ rfl hrow4 ⟨w5.heap.size, 0, none⟩ 1 1 (plcC ⟨x1, x2⟩) rfl rfl hnw hone (by omega) ?_ ?_ ?_ _ rfl ?_; (· unfold maxLen; omega); (· omega); (· simp; omega); intro g7 cap7 w7 hown7 hgrow7 hat7 hlt7)
        have hb7 : Below w.heap.size (w5.setCell ⟨wr.heap.size, 1, none⟩ (.int .i64 x2)) w7 := ((Below.refl w.heap.size (w5.setCell ⟨wr.heap.size, 1, none⟩ (.int .i64 x2))).alloc (by rw [hsz]; omega) _).grown hgrow7 (by simp; omega) (fun k e => by have := (hrow4.lt _ e).1; omega)
        have hrow7 := hrow3.push (z := ((⟨x1, x2⟩ : PlcD), plcC ⟨x1, x2⟩)) goPlc hnn hsn (show itPlc ⟨x1, x2⟩ (plcC ⟨x1, x2⟩) _ from rfl) rfl hown7 hgrow7 (hat7.imp id fun e => by rw [e]; simp)
        refine ⟨⟨zs ++ [(⟨x1, x2⟩, plcC ⟨x1, x2⟩)], p5, b5, ?_, by simp; omega, by simp, .inl (by simp; omega), hrow7, hB6.low hb7 hrw, frr_low hF hb7 (Nat.le_refl _), by omega, (fun e => ?_), ?_, ?_⟩, by simp [intOf]; omega⟩
        · intro e
          have h3 : b3 = false := by
            cases h3 : b3 with
            | false => rfl
            | true => rw [HST.out h3] at e; cases e
          have := H83.out h3
          simp
          omega
        · have := HB.out e
          first | cases this | exact this.elim
        · intro e
          have h1 : p + 8 ≤ pj := by first | exact HP.out rfl | exact HP.out trivial
          omega
        · have h2 := HK.out
          show KR _ _ _ _
          rw [List.length_append, List.map_append]
          exact h2
      · have f2 := hB.box.fz 2
        by_cases hn0 : n < 0
        · go_wp2
          go_ret
          exact hdone.out _ true (hB.setBad true) (hF.trans ((Fr.refl _ _ _).set 2 _)) (hrow.fr goPlc ((Fr.refl r nilV wr).set 2 _) hrw) (fun _ => rfl) (fun e => by cases e) ⟨fun _ _ => ((HK.out.got rfl).2).trans (sel_neg hn0 _), fun e => by cases e⟩
        · have hd : decide (n < 0) = false := by simpa using hn0
          go_wp2
          go_ret
          exact hdone.out _ false (hB.setBad false) (hF.trans ((Fr.refl _ _ _).set 2 _)) (hrow.fr goPlc ((Fr.refl r nilV wr).set 2 _) hrw) HB.out (fun _ => by first | exact HP.out rfl | exact HP.out trivial) ((KR.last (C := fun o => id (sel n o)) (k := some) HK.out (.inr (by omega))).eq (sel_pos (by omega) _))
end
end Go.Proofs.YthfeojjfehbgjaaGreatDoor.obj
