/- What the reference's reader's face answers: a contract. -/
import Derived.Test.YthfeojjfehbgjaaGreatDoorOGObjRdP
import Derived.Test.YthfeojjfehbgjaaGreatDoorOGObjFace
import Derived.Deep.CutBlock
import Derived.Deep.DeepCutAuto
namespace Go.Proofs.YthfeojjfehbgjaaGreatDoor.obj
open Go.RowKit
open Go.Proofs.YthfeojjfehbgjaaGreatDoor.mac (BoxC grown_of_below Ins)
open Go.Proofs.YthfeojjfehbgjaaGreatDoor.face (VarD ProcD FaceD IntsIn VarsIn ProcsIn)
set_option linter.unusedVariables false
set_option linter.unusedSimpArgs false
set_option maxRecDepth 100000
section
variable {w : World} {r c p : Nat} {a : Option Addr} {L : By} {bad : Bool}
theorem info_rVar : (Tryz.prog.info? 100).map (fun i => (i.zero, i.size, i.bytes)) = some (some (.agg #[.string ⟨#[]⟩, .bool false, .int .i64 0, .int .i64 0]), 4, 40) := by kernel_rfl
theorem info_rProc : (Tryz.prog.info? 102).map (fun i => (i.zero, i.size, i.bytes)) = some (some (.agg #[.string ⟨#[]⟩, .bool false, .slice none 0 0, .int .i64 0, .bool false, .int .i64 0]), 6, 72) := by kernel_rfl
theorem info_rInt : (Tryz.prog.info? 3).map (fun i => (i.zero, i.size, i.bytes)) = some (some (.int .i64 0), 1, 8) := by kernel_rfl
/-- where face stands: its boxes, a row of variables, the reader -/
structure FS1 (w wr : World) (r : Nat) (a : Option Addr) (c : Nat) (L : By) (p : Nat) (bad : Bool) (md : ByteArray) (vv : Value) (zs : List (VarD × List Value)) (pj : Nat) (bj : Bool) : Prop where
  bR : BoxC wr w.heap.size #[.string ⟨#[]⟩, .slice none 0 0, .slice none 0 0] 25
  bF : BoxC wr (w.heap.size + 1) #[.string md, vv, .slice none 0 0] 25
  row : Lp itVar 100 4 (w.heap.size + 2) zs vv wr
  rb : RB wr r a c L pj bj
  fr : FrR r w wr
  pp : p ≤ pj
  st : bad = true → bj = true
  p8 : bj = false → p + 8 ≤ pj
  n1 : bj = false → 8 * zs.length ≤ pj
  n2 : 8 * zs.length ≤ pj + 8
/-- where face stands, in its second loop -/
structure FS2 (w wr : World) (r : Nat) (a : Option Addr) (c : Nat) (L : By) (p : Nat) (bad : Bool) (md : ByteArray) (M : Nat) (vv : Value) (V : List VarD) (pv : Value) (zs : List (ProcD × List Value)) (pj : Nat) (bj : Bool) : Prop where
  bR : BoxC wr w.heap.size #[.string ⟨#[]⟩, .slice none 0 0, .slice none 0 0] 25
  bF : BoxC wr (w.heap.size + 1) #[.string md, vv, pv] 25
  vs : VarsIn (win wr (w.heap.size + 2) M) vv V
  m1 : w.heap.size + 2 ≤ M
  m2 : M ≤ wr.heap.size
  row : Lp itProc 102 6 M zs pv wr
  rb : RB wr r a c L pj bj
  fr : FrR r w wr
  pp : p ≤ pj
  st : bad = true → bj = true
  p8 : bj = false → p + 8 ≤ pj
  n1 : bj = false → 8 * zs.length ≤ pj
  n2 : 8 * zs.length ≤ pj + 8
/-- where a procedure's parameters stand -/
structure FS3 (wr wq : World) (r : Nat) (a : Option Addr) (c : Nat) (L : By) (x1 : ByteArray) (x2 : Bool) (pj : Nat) (u : Value) (zi : List (Int × List Value)) (q : Nat) (d : Bool) : Prop where
  bx : BoxC wq wr.heap.size #[.string x1, .bool x2, u, .int .i64 0, .bool false, .int .i64 0] 102
  row : Lp itInt 3 1 (wr.heap.size + 1) zi u wq
  rb : RB wq r a c L q d
  fr : FrR r wr wq
  le : pj ≤ q
  p8 : d = false → pj + 8 ≤ q
  n1 : d = false → 8 * zi.length ≤ q
  n2 : 8 * zi.length ≤ q + 8
/-- the rest of a procedure's reading, its parameters known -/
def procK (x1 : ByteArray) (x2 : Bool) (c : List Int × By) : Option (ProcD × By) := (getNum c.2).bind fun d => (getBool d.2).bind fun e => (getNum e.2).bind fun f => some (⟨x1, x2, c.1, d.1, e.1, f.1⟩, f.2)
theorem res_rFace {W : World} {a0 a1 y0 y1 y2 : Value} (tl : List Value) (B : Nat) (h : BoxC W B #[y0, y1, y2] 25) (c : Tryz.prog.cellsOf 25 = 3) : (results Tryz.f30 (List.toArray (a0 :: a1 :: .pointer (some ⟨B, 0, none⟩) :: tl))).run Tryz.prog W = .ok (.agg #[y0, y1, y2]) W := by
  have z0 := h.cell 0 rfl
  have z1 := h.cell 1 rfl
  have z2 := h.cell 2 rfl
  simp [results, Tryz.f30, go_sem, z0, z1, z2]
set_option maxHeartbeats 2000000 in
theorem rFaceR (h : RB w r a c L p bad) : Calls Tryz.prog 30 #[.pointer (some ⟨r, 0, none⟩)] w (RE getFace (FaceW w.heap.size) r a c L p bad w) := by
  have c3 : Tryz.prog.cellsOf 25 = 3 := face.cell3
  have c4 : Tryz.prog.cellsOf 100 = 4 := face.cell4
  have c6 : Tryz.prog.cellsOf 102 = 6 := face.cell6
  obtain ⟨iv, hiv, jv0, jv1, jv2⟩ := info_of info_rVar
  obtain ⟨ip, hip, jp0, jp1, jp2⟩ := info_of info_rProc
  obtain ⟨ii, hii, ji0, ji1, ji2⟩ := info_of info_rInt
  have hrw := h.lt
  have hmost := h.most
  have hA0 := ((Below.refl w.heap.size w).alloc (Nat.le_refl _) (.cells #[.string ⟨#[]⟩, .slice none 0 0, .slice none 0 0] 25)).alloc (by simp) (.cells #[.string ⟨#[]⟩, .slice none 0 0, .slice none 0 0] 25)
  have hbR := (BoxC.new w #[.string ⟨#[]⟩, .slice none 0 0, .slice none 0 0] 25).alloc (.cells #[.string ⟨#[]⟩, .slice none 0 0, .slice none 0 0] 25)
  have hbF := BoxC.new (w.alloc (.cells #[.string ⟨#[]⟩, .slice none 0 0, .slice none 0 0] 25)) #[.string ⟨#[]⟩, .slice none 0 0, .slice none 0 0] 25
  rw [World.size_alloc] at hbF
  have hB0 := h.low hA0 hrw
  have hF0 : FrR r w ((w.alloc (.cells #[.string ⟨#[]⟩, .slice none 0 0, .slice none 0 0] 25)).alloc (.cells #[.string ⟨#[]⟩, .slice none 0 0, .slice none 0 0] 25)) := (Fr.new r nilV w _).alloc _
  have hC := rTextR hB0
  obtain ⟨G, hG⟩ : ∃ G, G = getFace (L.drop p) := ⟨_, rfl⟩
  have HK : Hid (KR bad bad G (getFace (L.drop p))) := (KR.begin bad G).eq hG
  replace hG : Hid (G = _) := hG
  have hRF : w.heap.size ≠ r := by omega
  have hFF : w.heap.size + 1 ≠ r := by omega
  go_enter Tryz.func30, Tryz.ntmps30
  go_wp2_with (fail)
  refine hC.mono ?_
  rintro e w1 ⟨hF1, md, v, p1, b1, rfl, hv1, hB1, hp1, h81, hS1⟩
  obtain rfl : v = .string md := hv1
  clear hC
  replace HK : Hid _ := KR.step (C := id) HK.out rfl hS1
  have HB1 : Hid (bad = true → b1 = true) := hS1.stays
  have HP1 : Hid (b1 = false → p + 8 ≤ p1) := h81
  replace hbR := box_fr hbR hF1 hRF
  replace hbF := box_fr hbF hF1 hFF
  replace hF0 := hF0.trans hF1
  clear hF1 hA0 hB0 h81 hS1
  have hs1 := hF0.size
  have y0 := hbF.cell 0 rfl
  have g0 := hbF.fz 0
  have hB2 := hB1.fr ((Fr.refl (w.heap.size + 1) nilV w1).set 0 (.string md)) (by omega)
  have hbR2 := hbR.other (b := w.heap.size + 1) (o := 0) (by omega) (.string md)
  have hbF2 := hbF.set 0 (.string md)
  have hF2 := frr_new (k := 0) (v := .string md) hF0 (Nat.le_succ w.heap.size)
  have hC := rNumberR hB2
  go_wp2_with (fail)
  refine hC.mono ?_
  rintro e w3 ⟨hF3, n, v, p3, b3, rfl, ⟨rfl, hn1, hn2⟩, hB3, hp3, h83, hS3⟩
  clear hC
  replace HK : Hid _ := KR.list (C := id) HK.out rfl hS3
  have HB3 : Hid (bad = true → b3 = true) := fun e => hS3.stays (HB1.out e)
  have HP3 : Hid (b3 = false → p + 8 ≤ p3) := fun e => by
    have : b1 = false := by
      cases h1 : b1 with
      | false => rfl
      | true => rw [hS3.stays h1] at e; cases e
    have := HP1.out this
    omega
  have hq3 : p ≤ p3 := by omega
  replace hbR2 := box_fr hbR2 hF3 hRF
  replace hbF2 := box_fr hbF2 hF3 hFF
  replace hF2 := hF2.trans hF3
  have hs3 := hF2.size
  clear hF3 hS3 h83 HB1 HP1 hB1 hbR hbF hF0 hs1 y0 g0 hB2 hp3
  have hS0 : FS1 w w3 r a c L p bad md (.slice none 0 0) [] p3 b3 := ⟨hbR2, hbF2, Lp.nil _ _ _ _ _, hB3, hF2, hq3, HB3.out, HP3.out, (fun _ => by simp), by simp⟩
  clear hbR2 hbF2 hB3 hF2 hq3 HB3 HP3
  go_upto_block 0 with fail
  go_cut [5] (fun _ wc => ∃ (zs : List (VarD × List Value)) (vv : Value) (pj : Nat) (bj : Bool), FS1 w wc r a c L p bad md vv zs pj bj ∧ Hid (KR bad bj G (id (sel n ((getL getProc (L.drop pj)).bind fun c => some (⟨md, zs.map (·.1), c.1⟩, c.2))))))
  case first =>
    go_wp2
    go_loopw [5] (fun t wr => ∃ (zs : List (VarD × List Value)) (vv : Value) (pj : Nat) (bj : Bool), t = .int .i64 (zs.length : Int) ∧ ((zs.length : Int) ≤ n ∨ zs.length = 0) ∧ FS1 w wr r a c L p bad md vv zs pj bj ∧ Hid (KR bad bj G (id (sel n ((getN getVar (n.toNat - zs.length) (L.drop pj)).bind fun y => (getL getProc y.2).bind fun c => some (⟨md, zs.map (·.1) ++ y.1, c.1⟩, c.2)))))) (fun t _ => (n - intOf t).toNat)
    case atStart => exact ⟨[], _, p3, b3, rfl, .inr rfl, hS0, HK⟩
    case round =>
      clear hS0 HK
      obtain ⟨zs, vv, pj, bj, rfl, hjn, hS, HK⟩ := hrel
      have hle := hS.rb.le
      have m2 := hS.rb.box.cell 2 rfl
      have hcn := hS.n2
      obtain ⟨sa, sc, rfl⟩ := own_shape hS.row.row
      cases bj with
      | true =>
        by_cases hlt : (zs.length : Int) < n
        all_goals
          go_wp2
          go_meet
          case rel => exact ⟨zs, _, pj, true, hS, HK.out.any⟩
      | false =>
        by_cases hlt : (zs.length : Int) < n
        · have hcz := hS.n1 rfl
          have hpj := hS.p8 rfl
          have hm : n.toNat - zs.length = (n.toNat - (zs.length + 1)) + 1 := by omega
          replace HK : Hid (KR bad false G (id (sel n ((getN getVar ((n.toNat - (zs.length + 1)) + 1) (L.drop pj)).bind fun y => (getL getProc y.2).bind fun c => some (⟨md, zs.map (·.1) ++ y.1, c.1⟩, c.2))))) := by show KR _ _ _ _; rw [← hm]; exact HK.out
          clear hm
          have hA := (Below.refl wr.heap.size wr).alloc (Nat.le_refl _) (.cells #[.string ⟨#[]⟩, .bool false, .int .i64 0, .int .i64 0] 100)
          have hx := BoxC.new wr #[.string ⟨#[]⟩, .bool false, .int .i64 0, .int .i64 0] 100
          have hFr : FrR r wr (wr.alloc (.cells #[.string ⟨#[]⟩, .bool false, .int .i64 0, .int .i64 0] 100)) := Fr.new r nilV wr _
          have hr2 := hS.rb.lt
          have hrV : wr.heap.size ≠ r := by omega
          have hB := hS.rb.low hA hr2
          have HKI : Hid (KR false false (getVar (L.drop pj)) (getVar (L.drop pj))) := KR.begin _ _
          clear hA
          have hC := rTextR hB
          go_wp2_with (fail)
          refine hC.mono ?_
          rintro e w_0 ⟨hFn, x1, v, q_0, d_0, rfl, rfl, hBn, hqn, h8n, hSn⟩
          clear hC hB
          replace HKI : Hid _ := KR.step (C := id) HKI.out rfl hSn
          have HST0 : Hid (false = true → d_0 = true) := hSn.stays
          have HE0 : Hid (d_0 = false → pj + 8 ≤ q_0) := h8n
          replace hx := box_fr hx hFn hrV
          replace hFr := hFr.trans hFn
          have hle0 : pj ≤ q_0 := hqn
          clear hFn hSn h8n hqn

          have y0 := hx.cell 0 (v := .string ⟨#[]⟩) rfl
          have g0 := hx.fz 0
          have hB := hBn.fr ((Fr.refl (wr.heap.size) nilV w_0).set 0 (.string x1)) (by omega)
          replace hx := hx.set 0 (.string x1)
          replace hFr := frr_new (k := 0) (v := .string x1) hFr (Nat.le_refl _)
          clear hBn

          have hC := rTruthR hB
          go_wp2_with (fail)
          refine hC.mono ?_
          rintro e w_1 ⟨hFn, x2, v, q_1, d_1, rfl, rfl, hBn, hqn, h8n, hSn⟩
          clear hC hB
          replace HKI : Hid _ := KR.step (C := id) HKI.out rfl hSn
          have HST1 : Hid (d_0 = true → d_1 = true) := hSn.stays
          have HE1 : Hid (d_1 = false → q_0 + 8 ≤ q_1) := h8n
          replace hx := box_fr hx hFn hrV
          replace hFr := hFr.trans hFn
          have hle1 : q_0 ≤ q_1 := hqn
          clear hFn hSn h8n hqn

          have y1 := hx.cell 1 (v := .bool false) rfl
          have g1 := hx.fz 1
          have hB := hBn.fr ((Fr.refl (wr.heap.size) nilV w_1).set 1 (.bool x2)) (by omega)
          replace hx := hx.set 1 (.bool x2)
          replace hFr := frr_new (k := 1) (v := .bool x2) hFr (Nat.le_refl _)
          clear hBn

          have hC := rNumberR hB
          go_wp2_with (fail)
          refine hC.mono ?_
          rintro e w_2 ⟨hFn, x3, v, q_2, d_2, rfl, ⟨rfl, hva, hvb⟩, hBn, hqn, h8n, hSn⟩
          clear hC hB
          replace HKI : Hid _ := KR.step (C := id) HKI.out rfl hSn
          have HST2 : Hid (d_1 = true → d_2 = true) := hSn.stays
          have HE2 : Hid (d_2 = false → q_1 + 8 ≤ q_2) := h8n
          replace hx := box_fr hx hFn hrV
          replace hFr := hFr.trans hFn
          have hle2 : q_1 ≤ q_2 := hqn
          clear hFn hSn h8n hqn

          have y2 := hx.cell 2 (v := .int .i64 0) rfl
          have g2 := hx.fz 2
          have hB := hBn.fr ((Fr.refl (wr.heap.size) nilV w_2).set 2 (.int .i64 x3)) (by omega)
          replace hx := hx.set 2 (.int .i64 x3)
          replace hFr := frr_new (k := 2) (v := .int .i64 x3) hFr (Nat.le_refl _)
          clear hBn

          have hC := rNumberR hB
          go_wp2_with (fail)
          refine hC.mono ?_
          rintro e w_3 ⟨hFn, x4, v, q_3, d_3, rfl, ⟨rfl, hva, hvb⟩, hBn, hqn, h8n, hSn⟩
          clear hC hB
          replace HKI : Hid _ := KR.step (C := id) HKI.out rfl hSn
          have HST3 : Hid (d_2 = true → d_3 = true) := hSn.stays
          have HE3 : Hid (d_3 = false → q_2 + 8 ≤ q_3) := h8n
          replace hx := box_fr hx hFn hrV
          replace hFr := hFr.trans hFn
          have hle3 : q_2 ≤ q_3 := hqn
          clear hFn hSn h8n hqn

          have y3 := hx.cell 3 (v := .int .i64 0) rfl
          have g3 := hx.fz 3
          have hB := hBn.fr ((Fr.refl (wr.heap.size) nilV w_3).set 3 (.int .i64 x4)) (by omega)
          replace hx := hx.set 3 (.int .i64 x4)
          replace hFr := frr_new (k := 3) (v := .int .i64 x4) hFr (Nat.le_refl _)
          clear hBn
          have hszW : (w_3.setCell ⟨wr.heap.size, 3, none⟩ (.int .i64 x4)).heap.size = w_3.heap.size := by simp
          have hbF7 := box_fr hS.bF hFr hFF
          have hbR7 := box_fr hS.bR hFr hRF
          have yF := hbF7.cell 1 rfl
          have v0 := hx.cell 0 (v := .string x1) rfl
          have v1 := hx.cell 1 (v := .bool x2) rfl
          have v2 := hx.cell 2 (v := .int .i64 x3) rfl
          have v3 := hx.cell 3 (v := .int .i64 x4) rfl
          have hrow3 := hS.row.fr goVar hFr (by omega)
          have hsn : ∀ b, (Value.slice sa zs.length sc).ownBlock = some b → b < wr.heap.size := fun b e => (hS.row.row.lt b e).2
          have hrow4 := hrow3.row.alloc (.cells #[.string x1, .bool x2, .int .i64 x3, .int .i64 x4] 100)
          have hnw : ∀ j u, (varC ⟨x1, x2, x3, x4⟩)[j]? = some u → ((w_3.setCell ⟨wr.heap.size, 3, none⟩ (.int .i64 x4)).alloc (.cells #[.string x1, .bool x2, .int .i64 x3, .int .i64 x4] 100)).cell? ((⟨w_3.heap.size, 0, none⟩ : Addr).add j) = some u := by
            rw [← hszW]
            exact World.news_of_block (BoxC.new (w_3.setCell ⟨wr.heap.size, 3, none⟩ (.int .i64 x4)) #[.string x1, .bool x2, .int .i64 x3, .int .i64 x4] 100)
          have hone : ∀ u ∈ varC ⟨x1, x2, x3, x4⟩, u.oneCell' = true := by intro u hu; simp [varC] at hu; rcases hu with rfl | rfl | rfl | rfl <;> rfl
          have hszw := hFr.size
          rw [hszW] at hszw
          have hsw2 : w.heap.size + 2 ≤ wr.heap.size := by have := hS.bF.lt; rcases Nat.lt_or_ge (w.heap.size + 1) wr.heap.size with h | h <;> omega
          have hle9 := hB.le
          have HSI : Hid (Stp getVar L pj false ⟨x1, x2, x3, x4⟩ q_3 d_3) := KR.to HKI.out (fun e => by cases e)
          replace HK : Hid _ := KR.more (C := fun o => id (sel n o)) (k := fun y => (getL getProc y.2).bind fun c => some ((⟨md, y.1, c.1⟩ : FaceD), c.2)) HK.out (sel_none n) HSI.out
          have HST : Hid (d_3 = false → pj + 8 ≤ q_3) := fun e => by
            have h0 : d_0 = false := by
              cases h0 : d_0 with
              | false => rfl
              | true => rw [HST3.out (HST2.out (HST1.out h0))] at e; cases e
            have := HE0.out h0
            omega
          have hFt := hS.fr.trans hFr
          clear HKI HSI HST0 HST1 HST2 HST3 HE0 HE1 HE2 HE3 y0 y1 y2 g0 g1 g2
          go_wp2_with (at_builtin; refine wpList_append_lies _ rfl (.tmp 45) (.tmp 47) 22 rfl (w.heap.size + 2) 100 iv _ 4 40 Tryz.underlying22 hiv jv0 jv1 jv2 rfl (by decide) _ _ _ rfl hrow4 ⟨w_3.heap.size, 0, none⟩ 1 1 (varC ⟨x1, x2, x3, x4⟩) rfl rfl hnw hone (by omega) ?_ ?_ ?_ _ rfl ?_; (· unfold maxLen; omega); (· omega); (· simp; omega); intro g7 cap7 w7 hown7 hgrow7 hat7 hlt7; have hb7 : Below (w.heap.size + 2) (w_3.setCell ⟨wr.heap.size, 3, none⟩ (.int .i64 x4)) w7 := ((Below.refl (w.heap.size + 2) (w_3.setCell ⟨wr.heap.size, 3, none⟩ (.int .i64 x4))).alloc (by rw [hszW]; omega) _).grown hgrow7 (by simp; omega) (fun k e => by have := (hrow4.lt _ e).1; omega); have hbF8 := box_low hbF7 hb7 (Nat.lt_succ_self _); have yF8 := hbF8.cell 1 rfl; have gF8 := hbF8.fz 1)
          have hrow7 := hrow3.push (z := ((⟨x1, x2, x3, x4⟩ : VarD), varC ⟨x1, x2, x3, x4⟩)) goVar hsw2 hsn (show itVar ⟨x1, x2, x3, x4⟩ (varC ⟨x1, x2, x3, x4⟩) _ from rfl) rfl hown7 hgrow7 (hat7.imp id fun e => by rw [e]; simp)
          refine ⟨⟨zs ++ [((⟨x1, x2, x3, x4⟩ : VarD), varC ⟨x1, x2, x3, x4⟩)], _, q_3, d_3, by simp, .inl (by simp; omega), ⟨(box_low hbR7 hb7 (by omega)).other (by omega) _, by have := hbF8.set 1 (.slice (some ⟨g7, 0, none⟩) (zs.length + 1) cap7); simpa using this, hrow7.fr goVar ((Fr.refl (w.heap.size + 1) nilV w7).set 1 _) (by omega), (hB.low hb7 (by omega)).fr ((Fr.refl (w.heap.size + 1) nilV w7).set 1 _) (by omega), frr_new (frr_low hFt hb7 (by omega)) (by omega), by have := hS.pp; omega, (fun e => ?_), (fun e => ?_), (fun e => ?_), by simp; omega⟩, ?_⟩, by simp [intOf]; omega⟩
          · have := hS.st e
            cases this
          · have := hS.p8 rfl
            omega
          · have := HST.out e
            simp
            omega
          · have h2 := HK.out
            show KR _ _ _ _
            rw [List.length_append, List.map_append]
            exact h2
        · go_wp2
          go_meet
          case rel =>
            refine ⟨zs, _, pj, false, hS, ?_⟩
            by_cases hn0 : n < 0
            · exact HK.out.eq ((sel_neg hn0 _).trans (sel_neg hn0 _).symm)
            · exact KR.last (C := fun o => id (sel n o)) (k := fun y => (getL getProc y.2).bind fun c => some ((⟨md, y.1, c.1⟩ : FaceD), c.2)) HK.out (.inr (by omega))
  case rest =>
    clear hS0 HK
    obtain ⟨zv, vv, pc, bc, hV, HK⟩ := hcut
    have hC := rNumberR hV.rb
    go_wp2_with (fail)
    refine hC.mono ?_
    rintro e wd ⟨hFd, m, v, pd, bd, rfl, ⟨rfl, hm1, hm2⟩, hBd, hpd, h8d, hSd⟩
    clear hC
    replace HK : Hid _ := KR.list (C := fun o => id (sel n o)) HK.out (sel_none n) hSd
    have hzl : zv.length ≤ 4611686018427387903 := by have := hV.n2; have := hV.rb.le; omega
    have hsV : w.heap.size + 2 ≤ wc.heap.size := by have := hV.bF.lt; omega
    have hS0 : FS2 w wd r a c L p bad md wd.heap.size vv (zv.map (·.1)) (.slice none 0 0) [] pd bd :=
      ⟨box_fr hV.bR hFd hRF, box_fr hV.bF hFd hFF, LV.vars ⟨zv, rfl, hV.row.fr goVar hFd (by omega)⟩ (by rw [List.length_map]; exact hzl), Nat.le_trans hsV hFd.size, Nat.le_refl _, Lp.nil _ _ _ _ _, hBd, hV.fr.trans hFd, Nat.le_trans hV.pp hpd, fun e => hSd.stays (hV.st e), fun e => by
        have h0 : bc = false := by
          cases h0 : bc with
          | false => rfl
          | true => rw [hSd.stays h0] at e; cases e
        have := hV.p8 h0
        omega, (fun _ => by simp), by simp⟩
    obtain ⟨M, hM⟩ : ∃ M, M = wd.heap.size := ⟨_, rfl⟩
    rw [← hM] at hS0
    clear hM hV hFd hBd hpd h8d hSd hzl hsV
    generalize zv.map (·.1) = V at *
    clear zv
    go_upto_block 2 with fail
    go_cut [8] (fun _ wc => ∃ (zs : List (ProcD × List Value)) (pv : Value) (pj : Nat) (bj : Bool), FS2 w wc r a c L p bad md M vv V pv zs pj bj ∧ Hid (KR bad bj G (id (sel n (sel m (some (⟨md, V, zs.map (·.1)⟩, L.drop pj)))))))
    case first =>
      go_wp2
      go_loopw [8] (fun t wr => ∃ (zs : List (ProcD × List Value)) (pv : Value) (pj : Nat) (bj : Bool), t = .int .i64 (zs.length : Int) ∧ ((zs.length : Int) ≤ m ∨ zs.length = 0) ∧ FS2 w wr r a c L p bad md M vv V pv zs pj bj ∧ Hid (KR bad bj G (id (sel n (sel m ((getN getProc (m.toNat - zs.length) (L.drop pj)).bind fun y => some (⟨md, V, zs.map (·.1) ++ y.1⟩, y.2))))))) (fun t _ => (m - intOf t).toNat)
      case atStart => exact ⟨[], _, pd, bd, rfl, .inr rfl, hS0, HK⟩
      case round =>
        clear hS0 HK
        obtain ⟨zs, pv, pj, bj, rfl, hjn, hS, HK⟩ := hrel
        have hle := hS.rb.le
        have m2 := hS.rb.box.cell 2 rfl
        have hcn := hS.n2
        obtain ⟨sa, sc, rfl⟩ := own_shape hS.row.row
        cases bj with
        | true =>
          by_cases hlt : (zs.length : Int) < m
          all_goals
            go_wp2
            go_meet
            case rel => exact ⟨zs, _, pj, true, hS, HK.out.any⟩
        | false =>
          by_cases hlt : (zs.length : Int) < m
          · have hcz := hS.n1 rfl
            have hpj := hS.p8 rfl
            have hm : m.toNat - zs.length = (m.toNat - (zs.length + 1)) + 1 := by omega
            replace HK : Hid (KR bad false G (id (sel n (sel m ((getN getProc ((m.toNat - (zs.length + 1)) + 1) (L.drop pj)).bind fun y => some (⟨md, V, zs.map (·.1) ++ y.1⟩, y.2)))))) := by show KR _ _ _ _; rw [← hm]; exact HK.out
            clear hm
            have hA := (Below.refl wr.heap.size wr).alloc (Nat.le_refl _) (.cells #[.string ⟨#[]⟩, .bool false, .slice none 0 0, .int .i64 0, .bool false, .int .i64 0] 102)
            have hx := BoxC.new wr #[.string ⟨#[]⟩, .bool false, .slice none 0 0, .int .i64 0, .bool false, .int .i64 0] 102
            have hFr : FrR r wr (wr.alloc (.cells #[.string ⟨#[]⟩, .bool false, .slice none 0 0, .int .i64 0, .bool false, .int .i64 0] 102)) := Fr.new r nilV wr _
            have hr2 := hS.rb.lt
            have hrV : wr.heap.size ≠ r := by omega
            have hB := hS.rb.low hA hr2
            have HKI : Hid (KR false false (getProc (L.drop pj)) (getProc (L.drop pj))) := KR.begin _ _
            clear hA
            have hC := rTextR hB
            go_wp2_with (fail)
            refine hC.mono ?_
            rintro e w_0 ⟨hFn, x1, v, q_0, d_0, rfl, rfl, hBn, hqn, h8n, hSn⟩
            clear hC hB
            replace HKI : Hid _ := KR.step (C := id) HKI.out rfl hSn
            have HST0 : Hid (false = true → d_0 = true) := hSn.stays
            have HE0 : Hid (d_0 = false → pj + 8 ≤ q_0) := h8n
            replace hx := box_fr hx hFn hrV
            replace hFr := hFr.trans hFn
            have hle0 : pj ≤ q_0 := hqn
            clear hFn hSn h8n hqn

            have y0 := hx.cell 0 (v := .string ⟨#[]⟩) rfl
            have g0 := hx.fz 0
            have hB := hBn.fr ((Fr.refl (wr.heap.size) nilV w_0).set 0 (.string x1)) (by omega)
            replace hx := hx.set 0 (.string x1)
            replace hFr := frr_new (k := 0) (v := .string x1) hFr (Nat.le_refl _)
            clear hBn

            have hC := rTruthR hB
            go_wp2_with (fail)
            refine hC.mono ?_
            rintro e w_1 ⟨hFn, x2, v, q_1, d_1, rfl, rfl, hBn, hqn, h8n, hSn⟩
            clear hC hB
            replace HKI : Hid _ := KR.step (C := id) HKI.out rfl hSn
            have HST1 : Hid (d_0 = true → d_1 = true) := hSn.stays
            have HE1 : Hid (d_1 = false → q_0 + 8 ≤ q_1) := h8n
            replace hx := box_fr hx hFn hrV
            replace hFr := hFr.trans hFn
            have hle1 : q_0 ≤ q_1 := hqn
            clear hFn hSn h8n hqn

            have y1 := hx.cell 1 (v := .bool false) rfl
            have g1 := hx.fz 1
            have hB := hBn.fr ((Fr.refl (wr.heap.size) nilV w_1).set 1 (.bool x2)) (by omega)
            replace hx := hx.set 1 (.bool x2)
            replace hFr := frr_new (k := 1) (v := .bool x2) hFr (Nat.le_refl _)
            clear hBn
            have hC := rNumberR hB
            go_wp2_with (fail)
            refine hC.mono ?_
            rintro e w_2 ⟨hFn, kn, v, q_2, d_2, rfl, ⟨rfl, hk1, hk2⟩, hBn, hqn, h8n, hSn⟩
            clear hC hB
            replace HKI : Hid (KR false d_2 (getProc (L.drop pj)) (id (sel kn ((getN getNum (kn.toNat - 0) (L.drop q_2)).bind fun y => procK x1 x2 ([] ++ y.1, y.2))))) := KR.list (C := id) (k := procK x1 x2) HKI.out rfl hSn
            have HP2 : Hid (d_2 = false → pj + 8 ≤ q_2) := fun e => by
              have h1 : d_1 = false := by
                cases h1 : d_1 with
                | false => rfl
                | true => rw [hSn.stays h1] at e; cases e
              have h0 : d_0 = false := by
                cases h0 : d_0 with
                | false => rfl
                | true => rw [HST1.out h0] at h1; cases h1
              have := HE0.out h0
              omega
            have hT0 : FS3 wr w_2 r a c L x1 x2 pj (.slice none 0 0) [] q_2 d_2 := ⟨by have := box_fr hx hFn hrV; simpa using this, Lp.nil _ _ _ _ _, hBn, hFr.trans hFn, by omega, HP2.out, (fun _ => by simp), by simp⟩
            clear hx hFr hBn hFn hqn h8n hSn HST0 HST1 HE0 HE1 HP2 y0 y1 g0 g1
            obtain ⟨wo, rfl⟩ : ∃ wo, wo = wr := ⟨wr, rfl⟩
            go_upto_block 4 with fail
            go_cut [11] (fun _ wc => ∃ (zi : List (Int × List Value)) (u : Value) (q : Nat) (d : Bool), FS3 wo wc r a c L x1 x2 pj u zi q d ∧ Hid (KR false d (getProc (L.drop pj)) (id (sel kn (procK x1 x2 (zi.map (·.1), L.drop q))))))
            case first =>
              clear HK m2
              go_wp2
              go_loopw [11] (fun t wr => ∃ (zi : List (Int × List Value)) (u : Value) (q : Nat) (d : Bool), t = .int .i64 (zi.length : Int) ∧ ((zi.length : Int) ≤ kn ∨ zi.length = 0) ∧ FS3 wo wr r a c L x1 x2 pj u zi q d ∧ Hid (KR false d (getProc (L.drop pj)) (id (sel kn ((getN getNum (kn.toNat - zi.length) (L.drop q)).bind fun y => procK x1 x2 (zi.map (·.1) ++ y.1, y.2)))))) (fun t _ => (kn - intOf t).toNat)
              case atStart => exact ⟨[], _, q_2, d_2, rfl, .inr rfl, hT0, HKI⟩
              case round =>
                clear hT0 HKI
                obtain ⟨zi, u, q, d, rfl, hin, hT, HI⟩ := hrel
                have hle2 := hT.rb.le
                have m2 := hT.rb.box.cell 2 rfl
                have hcn2 := hT.n2
                obtain ⟨ta, tc, rfl⟩ := own_shape hT.row.row
                cases d with
                | true =>
                  by_cases hlk : (zi.length : Int) < kn
                  all_goals
                    go_wp2
                    go_meet
                    case rel => exact ⟨zi, _, q, true, hT, HI.out.any⟩
                | false =>
                  by_cases hlk : (zi.length : Int) < kn
                  · have hcz2 := hT.n1 rfl
                    have hpj2 := hT.p8 rfl
                    have hm : kn.toNat - zi.length = (kn.toNat - (zi.length + 1)) + 1 := by omega
                    replace HI : Hid (KR false false (getProc (L.drop pj)) (id (sel kn ((getN getNum ((kn.toNat - (zi.length + 1)) + 1) (L.drop q)).bind fun y => procK x1 x2 (zi.map (·.1) ++ y.1, y.2))))) := by show KR _ _ _ _; rw [← hm]; exact HI.out
                    clear hm
                    have hC := rNumberR hT.rb
                    go_wp2_with (fail)
                    refine hC.mono ?_
                    rintro e w_5 ⟨hFn, xi, v, q_5, d_5, rfl, ⟨rfl, hva, hvb⟩, hBn, hqn, h8n, hSn⟩
                    clear hC
                    have hbx := box_fr hT.bx hFn hrV
                    have yU := hbx.cell 2 rfl
                    have hrow3 := hT.row.fr goInt hFn (by omega)
                    have hsn : ∀ b, (Value.slice ta zi.length tc).ownBlock = some b → b < wr.heap.size := fun b e => (hT.row.row.lt b e).2
                    have hrow4 := hrow3.row.alloc (.cells #[.int .i64 xi] 3)
                    have hnw : ∀ j u, (intC xi)[j]? = some u → (w_5.alloc (.cells #[.int .i64 xi] 3)).cell? ((⟨w_5.heap.size, 0, none⟩ : Addr).add j) = some u := World.news_of_block (BoxC.new w_5 #[.int .i64 xi] 3)
                    have hone : ∀ u ∈ intC xi, u.oneCell' = true := by intro u hu; simp [intC] at hu; rcases hu with rfl <;> rfl
                    have hszw := hFn.size
                    have hsw3 : wo.heap.size + 1 ≤ wr.heap.size := by have := hT.bx.lt; omega
                    have hle9 := hBn.le
                    replace HI : Hid _ := KR.more (C := fun o => id (sel kn o)) (k := procK x1 x2) HI.out (sel_none kn) hSn
                    have HE5 : Hid (d_5 = false → q + 8 ≤ q_5) := h8n
                    have hFt := hT.fr.trans hFn
                    clear h8n hSn
                    go_wp2_with (at_builtin; refine wpList_append_lies _ rfl (.tmp 88) (.tmp 90) 83 rfl (wo.heap.size + 1) 3 ii _ 1 8 Tryz.underlying83 hii ji0 ji1 ji2 rfl (by decide) _ _ _ rfl hrow4 ⟨w_5.heap.size, 0, none⟩ 1 1 (intC xi) rfl rfl hnw hone (by omega) ?_ ?_ ?_ _ rfl ?_; (· unfold maxLen; omega); (· omega); (· simp; omega); intro g7 cap7 w7 hown7 hgrow7 hat7 hlt7; have hb7 : Below (wo.heap.size + 1) w_5 w7 := ((Below.refl (wo.heap.size + 1) w_5).alloc (by omega) _).grown hgrow7 (by simp; omega) (fun k e => by have := (hrow4.lt _ e).1; omega); have hbx8 := box_low hbx hb7 (Nat.lt_succ_self _); have yU8 := hbx8.cell 2 rfl; have gU8 := hbx8.fz 2)
                    have hrow7 := hrow3.push (z := (xi, intC xi)) goInt hsw3 hsn (show itInt xi (intC xi) _ from rfl) rfl hown7 hgrow7 (hat7.imp id fun e => by rw [e]; simp)
                    refine ⟨⟨zi ++ [(xi, intC xi)], _, q_5, d_5, by simp, .inl (by simp; omega), ⟨by have := hbx8.set 2 (.slice (some ⟨g7, 0, none⟩) (zi.length + 1) cap7); simpa using this, hrow7.fr goInt ((Fr.refl wo.heap.size nilV w7).set 2 _) (by omega), (hBn.low hb7 (by omega)).fr ((Fr.refl wo.heap.size nilV w7).set 2 _) (by omega), frr_new (frr_low hFt hb7 (by omega)) (by omega), by have := hT.le; omega, (fun e => by omega), (fun e => ?_), by simp; omega⟩, ?_⟩, by simp [intOf]; omega⟩
                    · have := HE5.out e
                      simp
                      omega
                    · have h2 := HI.out
                      show KR _ _ _ _
                      rw [List.length_append, List.map_append]
                      exact h2
                  · go_wp2
                    go_meet
                    case rel =>
                      refine ⟨zi, _, q, false, hT, ?_⟩
                      by_cases hn0 : kn < 0
                      · exact HI.out.eq ((sel_neg hn0 _).trans (sel_neg hn0 _).symm)
                      · exact KR.last (C := fun o => id (sel kn o)) (k := procK x1 x2) HI.out (.inr (by omega))
            case rest =>
              clear hT0 HKI
              obtain ⟨zi, u, q, d, hT, HKI⟩ := hcut
              obtain ⟨ta, tc, rfl⟩ := own_shape hT.row.row
              have hcn2 := hT.n2
              have hle2 := hT.rb.le
              have HTP : Hid (d = false → pj + 8 ≤ q) := hT.p8
              have hTle := hT.le
              have hB := hT.rb
              have hx := hT.bx
              have hFr := hT.fr
              have hrow5 := hT.row
              have hC := rNumberR hB
              go_wp2_with (fail)
              refine hC.mono ?_
              rintro e w_6 ⟨hFn, x4, v, q_6, d_6, rfl, ⟨rfl, hva, hvb⟩, hBn, hqn, h8n, hSn⟩
              clear hC hB
              replace HKI : Hid _ := KR.step (C := fun o => id (sel kn o)) HKI.out (sel_none kn) hSn
              have HST6 : Hid (d = true → d_6 = true) := hSn.stays
              have HE6 : Hid (d_6 = false → q + 8 ≤ q_6) := h8n
              replace hx := box_fr hx hFn hrV
              replace hFr := hFr.trans hFn
              have hle6 : q ≤ q_6 := hqn
              replace hrow5 := hrow5.fr goInt hFn (by omega)
              clear hFn hSn h8n hqn

              have y3 := hx.cell 3 (v := .int .i64 0) rfl
              have g3 := hx.fz 3
              have hB := hBn.fr ((Fr.refl (wo.heap.size) nilV w_6).set 3 (.int .i64 x4)) (by omega)
              replace hx := hx.set 3 (.int .i64 x4)
              replace hFr := frr_new (k := 3) (v := .int .i64 x4) hFr (Nat.le_refl _)
              clear hBn
              replace hrow5 := hrow5.fr goInt ((Fr.refl wo.heap.size nilV w_6).set 3 (.int .i64 x4)) (by omega)

              have hC := rTruthR hB
              go_wp2_with (fail)
              refine hC.mono ?_
              rintro e w_7 ⟨hFn, x5, v, q_7, d_7, rfl, rfl, hBn, hqn, h8n, hSn⟩
              clear hC hB
              replace HKI : Hid _ := KR.step (C := fun o => id (sel kn o)) HKI.out (sel_none kn) hSn
              have HST7 : Hid (d_6 = true → d_7 = true) := hSn.stays
              have HE7 : Hid (d_7 = false → q_6 + 8 ≤ q_7) := h8n
              replace hx := box_fr hx hFn hrV
              replace hFr := hFr.trans hFn
              have hle7 : q_6 ≤ q_7 := hqn
              replace hrow5 := hrow5.fr goInt hFn (by omega)
              clear hFn hSn h8n hqn

              have y4 := hx.cell 4 (v := .bool false) rfl
              have g4 := hx.fz 4
              have hB := hBn.fr ((Fr.refl (wo.heap.size) nilV w_7).set 4 (.bool x5)) (by omega)
              replace hx := hx.set 4 (.bool x5)
              replace hFr := frr_new (k := 4) (v := .bool x5) hFr (Nat.le_refl _)
              clear hBn
              replace hrow5 := hrow5.fr goInt ((Fr.refl wo.heap.size nilV w_7).set 4 (.bool x5)) (by omega)

              have hC := rNumberR hB
              go_wp2_with (fail)
              refine hC.mono ?_
              rintro e w_8 ⟨hFn, x6, v, q_8, d_8, rfl, ⟨rfl, hva, hvb⟩, hBn, hqn, h8n, hSn⟩
              clear hC hB
              replace HKI : Hid _ := KR.step (C := fun o => id (sel kn o)) HKI.out (sel_none kn) hSn
              have HST8 : Hid (d_7 = true → d_8 = true) := hSn.stays
              have HE8 : Hid (d_8 = false → q_7 + 8 ≤ q_8) := h8n
              replace hx := box_fr hx hFn hrV
              replace hFr := hFr.trans hFn
              have hle8 : q_7 ≤ q_8 := hqn
              replace hrow5 := hrow5.fr goInt hFn (by omega)
              clear hFn hSn h8n hqn

              have y5 := hx.cell 5 (v := .int .i64 0) rfl
              have g5 := hx.fz 5
              have hB := hBn.fr ((Fr.refl (wo.heap.size) nilV w_8).set 5 (.int .i64 x6)) (by omega)
              replace hx := hx.set 5 (.int .i64 x6)
              replace hFr := frr_new (k := 5) (v := .int .i64 x6) hFr (Nat.le_refl _)
              clear hBn
              replace hrow5 := hrow5.fr goInt ((Fr.refl wo.heap.size nilV w_8).set 5 (.int .i64 x6)) (by omega)

              have hszW : (w_8.setCell ⟨wo.heap.size, 5, none⟩ (.int .i64 x6)).heap.size = w_8.heap.size := by simp
              go_upto_region 29 with fail
              have HST : Hid ((d_8 || decide (kn < 0)) = false → pj + 8 ≤ q_8) := fun e => by
                have h8 : d_8 = false := by
                  cases h8 : d_8 with
                  | false => rfl
                  | true => rw [h8] at e; cases e
                have h7 : d_7 = false := by
                  cases h7 : d_7 with
                  | false => rfl
                  | true => rw [HST8.out h7] at h8; cases h8
                have h6 : d_6 = false := by
                  cases h6 : d_6 with
                  | false => rfl
                  | true => rw [HST7.out h6] at h7; cases h7
                have h5 : d = false := by
                  cases h5 : d with
                  | false => rfl
                  | true => rw [HST6.out h5] at h6; cases h6
                have := HTP.out h5
                omega
              have HSI : Hid (Stp getProc L pj false (⟨x1, x2, zi.map (fun z : Int × List Value => z.1), x4, x5, x6⟩ : ProcD) q_8 (d_8 || decide (kn < 0))) := by
                have h1 : KR false d_8 (getProc (L.drop pj)) (sel kn (some ((⟨x1, x2, zi.map (fun z : Int × List Value => z.1), x4, x5, x6⟩ : ProcD), L.drop q_8))) := HKI.out
                by_cases hk0 : kn < 0
                · have e1 : (d_8 || decide (kn < 0)) = true := by simp [hk0]
                  rw [e1]
                  exact KR.to (h1.of true (fun _ => .inr (sel_neg hk0 _)) (fun _ => rfl)).any (fun e => by cases e)
                · have e1 : (d_8 || decide (kn < 0)) = d_8 := by simp [hk0]
                  rw [e1]
                  exact KR.to (h1.eq (sel_pos hk0 _)) (fun e => by cases e)
              clear HKI HST6 HST7 HST8 HE6 HE7 HE8 y3 y4 y5 g3 g4 g5 HTP
              replace hszW : w_8.heap.size = (w_8.setCell ⟨wo.heap.size, 5, none⟩ (.int .i64 x6)).heap.size := hszW.symm
              generalize w_8.setCell ⟨wo.heap.size, 5, none⟩ (.int .i64 x6) = w6 at hB hx hFr hrow5 hszW ⊢
              have y2 := hB.box.cell 2 rfl
              have g2 := hB.box.fz 2
              go_cut [110] (fun _ wc => wc = w6.setCell ⟨r, 2, none⟩ (.bool (d_8 || decide (kn < 0))))
              case first =>
                clear HK HST HSI
                cases d_8 with
                | true =>
                  go_wp2
                  go_meet
                  case rel => rfl
                | false =>
                  by_cases hk0 : kn < 0
                  · have hd0 : decide (kn < 0) = true := by simpa using hk0
                    go_wp2
                    go_meet
                    case rel => rw [hd0]; rfl
                  · have hd0 : decide (kn < 0) = false := by simpa using hk0
                    go_wp2
                    go_meet
                    case rel => rw [hd0]; rfl
              case rest =>
                subst hcut
                have hB9 := hB.setBad (d_8 || decide (kn < 0))
                have hF9 := hFr.trans ((Fr.refl r nilV w6).set 2 (.bool (d_8 || decide (kn < 0))))
                have hx9 := hx.other (b := r) (o := 2) hrV (.bool (d_8 || decide (kn < 0)))
                have hrow9 := hrow5.fr goInt ((Fr.refl r nilV w6).set 2 (.bool (d_8 || decide (kn < 0)))) (by omega)
                generalize (d_8 || decide (kn < 0)) = dd at *
                have hsz9 : (w6.setCell ⟨r, 2, none⟩ (.bool dd)).heap.size = w6.heap.size := by simp
                generalize w6.setCell ⟨r, 2, none⟩ (.bool dd) = w9 at hB9 hF9 hx9 hrow9 hsz9 ⊢
                clear hB hFr hx hrow5 y2 g2 hT
                have hbF7 := box_fr hS.bF hF9 hFF
                have hbR7 := box_fr hS.bR hF9 hRF
                have yF := hbF7.cell 2 rfl
                have v0 := hx9.cell 0 (v := .string x1) rfl
                have v1 := hx9.cell 1 (v := .bool x2) rfl
                have v2 := hx9.cell 2 (v := .slice ta zi.length tc) rfl
                have v3 := hx9.cell 3 (v := .int .i64 x4) rfl
                have v4 := hx9.cell 4 (v := .bool x5) rfl
                have v5 := hx9.cell 5 (v := .int .i64 x6) rfl
                have hMw := hS.m2
                have hM1 := hS.m1
                have hrow3 := hS.row.fr goProc hF9 (by omega)
                have hsn : ∀ b, (Value.slice sa zs.length sc).ownBlock = some b → b < wo.heap.size := fun b e => (hS.row.row.lt b e).2
                have hrow4 := hrow3.row.alloc (.cells #[.string x1, .bool x2, .slice ta zi.length tc, .int .i64 x4, .bool x5, .int .i64 x6] 102)
                have hnw : ∀ j u, (procC ⟨x1, x2, zi.map (fun z : Int × List Value => z.1), x4, x5, x6⟩ (.slice ta zi.length tc))[j]? = some u → (w9.alloc (.cells #[.string x1, .bool x2, .slice ta zi.length tc, .int .i64 x4, .bool x5, .int .i64 x6] 102)).cell? ((⟨w9.heap.size, 0, none⟩ : Addr).add j) = some u := World.news_of_block (BoxC.new w9 #[.string x1, .bool x2, .slice ta zi.length tc, .int .i64 x4, .bool x5, .int .i64 x6] 102)
                have hone : ∀ u ∈ procC ⟨x1, x2, zi.map (fun z : Int × List Value => z.1), x4, x5, x6⟩ (.slice ta zi.length tc), u.oneCell' = true := by intro u hu; simp [procC] at hu; rcases hu with rfl | rfl | rfl | rfl | rfl | rfl <;> rfl
                have hszw := hF9.size
                have hle9 := hB9.le
                have hin9 : itProc ⟨x1, x2, zi.map (fun z : Int × List Value => z.1), x4, x5, x6⟩ (procC ⟨x1, x2, zi.map (fun z : Int × List Value => z.1), x4, x5, x6⟩ (.slice ta zi.length tc)) (win w9 wo.heap.size w9.heap.size) := ⟨_, rfl, intsSub (win_to (fun _ _ _ => rfl) (by omega) (Nat.le_refl _)) (LV.ints ⟨zi, rfl, hrow9⟩ (by rw [List.length_map]; omega))⟩
                replace HK : Hid _ := KR.more (C := fun o => id (sel n (sel m o))) (k := fun y => some ((⟨md, V, y.1⟩ : FaceD), y.2)) HK.out (by show sel n (sel m none) = none; rw [sel_none, sel_none]) HSI.out
                have hFt := hS.fr.trans hF9
                have hvs := varsSub (win_to (w' := w9) (N' := w.heap.size + 2) (M' := M) (fun k h1 h2 => hF9.block k (by omega) (by omega) (by simp [nilV, Value.ownBlock])) (Nat.le_refl _) (Nat.le_refl _)) hS.vs
                replace hvs := (show Hid _ from hvs)
                replace hin9 := (show Hid _ from hin9)
                clear HSI hsz9 hszW hrow9
                go_wp2_with (at_builtin; refine wpList_append_lies _ rfl (.tmp 114) (.tmp 116) 23 rfl M 102 ip _ 6 72 Tryz.underlying23 hip jp0 jp1 jp2 rfl (by decide) _ _ _ rfl hrow4 ⟨w9.heap.size, 0, none⟩ 1 1 (procC ⟨x1, x2, zi.map (fun z : Int × List Value => z.1), x4, x5, x6⟩ (.slice ta zi.length tc)) rfl rfl hnw hone (by omega) ?_ ?_ ?_ _ rfl ?_; (· unfold maxLen; omega); (· omega); (· simp; omega); intro g7 cap7 w7 hown7 hgrow7 hat7 hlt7; have hb7 : Below M w9 w7 := ((Below.refl M w9).alloc (by omega) _).grown hgrow7 (by simp; omega) (fun k e => by have := (hrow4.lt _ e).1; omega); have hbF8 := box_low hbF7 hb7 (by omega); have yF8 := hbF8.cell 2 rfl; have gF8 := hbF8.fz 2)
                have hrow7 := hrow3.push (z := ((⟨x1, x2, zi.map (fun z : Int × List Value => z.1), x4, x5, x6⟩ : ProcD), procC ⟨x1, x2, zi.map (fun z : Int × List Value => z.1), x4, x5, x6⟩ (.slice ta zi.length tc))) goProc hMw hsn hin9.out rfl hown7 hgrow7 (hat7.imp id fun e => by rw [e]; simp)
                have hs7 := hb7.size
                refine ⟨⟨zs ++ [((⟨x1, x2, zi.map (fun z : Int × List Value => z.1), x4, x5, x6⟩ : ProcD), procC ⟨x1, x2, zi.map (fun z : Int × List Value => z.1), x4, x5, x6⟩ (.slice ta zi.length tc))], _, q_8, dd, by simp, .inl (by simp; omega), ⟨(box_low hbR7 hb7 (by omega)).other (by omega) _, by have := hbF8.set 2 (.slice (some ⟨g7, 0, none⟩) (zs.length + 1) cap7); simpa using this, varsSub (win_to (w := w9) (N := w.heap.size + 2) (M := M) (N' := w.heap.size + 2) (M' := M) (fun k h1 h2 => (Below.heap_setCell w7 ⟨w.heap.size + 1, 2, none⟩ _ k (by show k ≠ w.heap.size + 1; omega)).trans (hb7.block k h2)) (Nat.le_refl _) (Nat.le_refl _)) hvs.out, hM1, by simp; omega, hrow7.fr goProc ((Fr.refl (w.heap.size + 1) nilV w7).set 2 _) (by omega), (hB9.low hb7 (by omega)).fr ((Fr.refl (w.heap.size + 1) nilV w7).set 2 _) (by omega), frr_new (frr_low hFt hb7 (by omega)) (by omega), by have := hS.pp; omega, (fun e => ?_), (fun e => ?_), (fun e => ?_), by simp; omega⟩, ?_⟩, by simp [intOf]; omega⟩
                · have := hS.st e
                  cases this
                · have := hS.p8 rfl
                  omega
                · have := HST.out e
                  simp
                  omega
                · have h2 := HK.out
                  show KR _ _ _ _
                  rw [List.length_append, List.map_append]
                  exact h2

          · go_wp2
            go_meet
            case rel =>
              refine ⟨zs, _, pj, false, hS, ?_⟩
              by_cases hn0 : m < 0
              · exact HK.out.eq (by show sel n (sel m _) = sel n (sel m _); rw [sel_neg hn0, sel_neg hn0])
              · exact KR.last (C := fun o => id (sel n (sel m o))) (k := fun y => some ((⟨md, V, y.1⟩ : FaceD), y.2)) HK.out (.inr (by omega))
    case rest =>
      clear hS0 HK
      obtain ⟨zs, pv, pj, bj, hS, HK⟩ := hcut
      obtain ⟨va, vc, hvvl⟩ : ∃ va vc, vv = .slice va V.length vc := by obtain ⟨x, y, e, _⟩ := hS.vs; exact ⟨x, y, e⟩
      subst hvvl
      obtain ⟨sa, sc, rfl⟩ := own_shape hS.row.row
      have hle := hS.rb.le
      have hcn := hS.n2
      have hM1 := hS.m1
      have hM2 := hS.m2
      have hzp : zs.length ≤ 4611686018427387903 := by omega
      have hB := hS.rb
      have m2 := hB.box.cell 2 rfl
      have f2 := hB.box.fz 2
      have HSI : Hid (Stp getFace L p bad (⟨md, V, zs.map (fun z : ProcD × List Value => z.1)⟩ : FaceD) pj (bj || (decide (n < 0) || decide (m < 0)))) := by
        have h1 : KR bad bj G (sel n (sel m (some ((⟨md, V, zs.map (fun z : ProcD × List Value => z.1)⟩ : FaceD), L.drop pj)))) := HK.out
        rw [hG.out] at h1
        by_cases hn0 : n < 0
        · have e1 : (bj || (decide (n < 0) || decide (m < 0))) = true := by simp [hn0]
          rw [e1]
          exact KR.to (h1.of true (fun _ => .inr (sel_neg hn0 _)) (fun _ => rfl)).any (fun _ => rfl)
        · by_cases hm0 : m < 0
          · have e1 : (bj || (decide (n < 0) || decide (m < 0))) = true := by simp [hm0]
            rw [e1]
            exact KR.to (h1.of true (fun _ => .inr (by rw [sel_neg hm0, sel_none])) (fun _ => rfl)).any (fun _ => rfl)
          · have e1 : (bj || (decide (n < 0) || decide (m < 0))) = bj := by simp [hn0, hm0]
            rw [e1]
            exact KR.to (h1.eq (by rw [sel_pos hn0, sel_pos hm0])) hS.st
      have HP8 : Hid ((bj || (decide (n < 0) || decide (m < 0))) = false → p + 8 ≤ pj) := fun e => by
        have h0 : bj = false := by
          cases h0 : bj with
          | false => rfl
          | true => rw [h0] at e; cases e
        exact hS.p8 h0
      go_upto_region 31 with fail
      go_cut [131] (fun _ wx => wx = wc.setCell ⟨r, 2, none⟩ (.bool (bj || (decide (n < 0) || decide (m < 0)))))
      case first =>
        clear HK HSI HP8
        cases bj with
        | true =>
          go_wp2
          go_meet
          case rel => rfl
        | false =>
          by_cases hn0 : n < 0
          · have hd0 : decide (n < 0) = true := by simpa using hn0
            go_wp2
            go_meet
            case rel => rw [hd0]; rfl
          · have hd0 : decide (n < 0) = false := by simpa using hn0
            by_cases hm0 : m < 0
            · have hd1 : decide (m < 0) = true := by simpa using hm0
              go_wp2
              go_meet
              case rel => rw [hd0, hd1]; rfl
            · have hd1 : decide (m < 0) = false := by simpa using hm0
              go_wp2
              go_meet
              case rel => rw [hd0, hd1]; rfl
      case rest =>
        subst hcut
        have hB9 := hB.setBad (bj || (decide (n < 0) || decide (m < 0)))
        have hF9 := hS.fr.trans ((Fr.refl r nilV wc).set 2 (.bool (bj || (decide (n < 0) || decide (m < 0)))))
        have hbF9 := hS.bF.other (b := r) (o := 2) hFF (.bool (bj || (decide (n < 0) || decide (m < 0))))
        have hbR9 := hS.bR.other (b := r) (o := 2) hRF (.bool (bj || (decide (n < 0) || decide (m < 0))))
        have hrow9 := hS.row.fr goProc ((Fr.refl r nilV wc).set 2 (.bool (bj || (decide (n < 0) || decide (m < 0))))) (by omega)
        have hvs9 := varsSub (win_to (w' := wc.setCell ⟨r, 2, none⟩ (.bool (bj || (decide (n < 0) || decide (m < 0))))) (N' := w.heap.size + 2) (M' := M) (fun k h1 h2 => Below.heap_setCell wc ⟨r, 2, none⟩ _ k (by show k ≠ r; omega)) (Nat.le_refl _) (Nat.le_refl _)) hS.vs
        have hsz9 : wc.heap.size ≤ (wc.setCell ⟨r, 2, none⟩ (.bool (bj || (decide (n < 0) || decide (m < 0))))).heap.size := by simp
        generalize (bj || (decide (n < 0) || decide (m < 0))) = dd at *
        generalize wc.setCell ⟨r, 2, none⟩ (.bool dd) = w9 at hB9 hF9 hbF9 hbR9 hrow9 hvs9 hsz9 ⊢
        have hpp := hS.pp
        clear hS hB m2 f2 HK
        have z0 := hbF9.cell 0 rfl
        have z1 := hbF9.cell 1 rfl
        have z2 := hbF9.cell 2 rfl
        have r0 := hbR9.cell 0 rfl
        have r1 := hbR9.cell 1 rfl
        have r2 := hbR9.cell 2 rfl
        have k0 := hbR9.fz 0
        have k1 := hbR9.fz 1
        have k2 := hbR9.fz 2
        have h3 := set3 (x0 := .string md) (x1 := .slice va V.length vc) (x2 := .slice sa zs.length sc) hbR9
        have hbR := setRow_heap w9 w.heap.size #[.string ⟨#[]⟩, .slice none 0 0, .slice none 0 0] #[.string md, .slice va V.length vc, .slice sa zs.length sc] 25 (0, 0) hbR9
        replace hvs9 := (show Hid _ from hvs9)
        go_wp2
        refine bodyPost_ret (v := .agg #[.string md, .slice va V.length vc, .slice sa zs.length sc]) (res_rFace _ _ hbR c3) rfl ?_
        have hszF : (w9.setRow w.heap.size #[.string md, .slice va V.length vc, .slice sa zs.length sc]).heap.size = w9.heap.size := by simp [World.setRow]
        have hvF : VarsIn (win (w9.setRow w.heap.size #[.string md, .slice va V.length vc, .slice sa zs.length sc]) w.heap.size (w9.setRow w.heap.size #[.string md, .slice va V.length vc, .slice sa zs.length sc]).heap.size) (.slice va V.length vc) V :=
          varsSub (win_to (w := w9) (N := w.heap.size + 2) (M := M) (fun k h1 h2 => setRow_other w9 w.heap.size k _ (by omega)) (by omega) (by rw [hszF]; omega)) hvs9.out
        have hpF : ProcsIn (win (w9.setRow w.heap.size #[.string md, .slice va V.length vc, .slice sa zs.length sc]) w.heap.size (w9.setRow w.heap.size #[.string md, .slice va V.length vc, .slice sa zs.length sc]).heap.size) (.slice sa zs.length sc) (zs.map (fun z : ProcD × List Value => z.1)) :=
          procsSub (win_to (w := w9) (N := M) (M := w9.heap.size) (fun k h1 h2 => setRow_other w9 w.heap.size k _ (by omega)) (by omega) (by rw [hszF]; omega)) (LV.procs ⟨zs, rfl, hrow9⟩ (by rw [List.length_map]; exact hzp))
        exact ⟨hF9.row (b := w.heap.size) (Nat.le_refl _) _, ⟨md, V, zs.map (fun z : ProcD × List Value => z.1)⟩, _, pj, dd, rfl, ⟨_, _, rfl, hvF, hpF⟩, hB9.low (below_setRow w9 w.heap.size _) hrw, hpp, HP8.out, HSI.out⟩
end
end Go.Proofs.YthfeojjfehbgjaaGreatDoor.obj
