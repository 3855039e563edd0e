/- What the reader's lists of plain items answer: contracts. (Written by mklst.py: edit that.) -/
import Derived.Test.YthfeojjfehbgjaaGreatDoorOGObjWin
import Derived.Test.YthfeojjfehbgjaaGreatDoorOGObjGet
import Derived.Deep.AppendLies
namespace Go.Proofs.YthfeojjfehbgjaaGreatDoor.obj
open Go.RowKit
open Go.Proofs.YthfeojjfehbgjaaGreatDoor.mac (BoxC grown_of_below Ins)
open Go.Proofs.YthfeojjfehbgjaaGreatDoor.face (VarD ProcD FaceD IntsIn VarsIn ProcsIn varV procV)
set_option linter.unusedVariables false
set_option linter.unusedSimpArgs false
set_option maxRecDepth 100000
set_option maxHeartbeats 1000000 in
theorem gInt {w : World} {r c : Nat} {l : By} (h : RS w r l) (hk : CapR w r c) :
    Calls Tryz.prog 102 #[.pointer (some ⟨c, 0, none⟩)] w (RdE r w (getNum l) IntV) := by
  have hC := oInt h
  have m0 := hk.cell 0 rfl
  cases hg : getNum l with
  | none =>
    rw [hg] at hC
    go_enter Tryz.func102, Tryz.ntmps102
    go_wp2_with (fail)
    refine hC.mono ?_
    rintro e w2 ⟨hF, hE⟩
    dsimp only at hE
    subst hE
    go_wp2
    exact ⟨rfl, hF, rfl⟩
  | some p =>
    obtain ⟨z, l2⟩ := p
    rw [hg] at hC
    go_enter Tryz.func102, Tryz.ntmps102
    go_wp2_with (fail)
    refine hC.mono ?_
    rintro e w2 ⟨hF, v, rfl, hv, hR⟩
    have hv2 : v = .int .i64 z := hv
    subst hv2
    go_wp2
    go_ret
    exact ⟨hF, _, rfl, rfl, hR⟩
theorem info_lInt : (Tryz.prog.info? 3).map (fun i => (i.zero, i.size, i.bytes)) = some (some (.int .i64 0), 1, 8) := by kernel_rfl
set_option maxHeartbeats 1000000 in
theorem lInt {w : World} {r c : Nat} {l : By} (h : RS w r l) (hk : CapR w r c) (hl : l.length ≤ 1073741824) :
    Calls Tryz.prog 101 #[.pointer (some ⟨r, 0, none⟩), .func (.func 102) #[] #[.pointer (some ⟨c, 0, none⟩)]] w (RdE r w (getL getNum l) (LV itInt 3 1 w.heap.size)) := by
  have cT : Tryz.prog.cellsOf 3 = 1 := by kernel_rfl
  obtain ⟨i0, hi, hz0, hz1, hz2⟩ := info_of info_lInt
  have hC := oSize h
  have hrw := h.lt
  have hcw : c < w.heap.size := hk.box.lt
  obtain ⟨R, hR⟩ : ∃ R, R = getL getNum l := ⟨_, rfl⟩
  rw [← hR]
  replace hR : Hid (R = getL getNum l) := hR
  cases hg : getSize l with
  | none =>
    have HE : Hid (R = none) := by show _ = _; rw [hR.out]; unfold getL; rw [hg]; rfl
    rw [hg] at hC
    go_enter Tryz.func101, Tryz.ntmps101
    go_wp2_with (fail)
    refine hC.mono ?_
    rintro e w2 ⟨hF, hE⟩
    dsimp only at hE
    subst hE
    go_wp2
    exact ⟨rfl, hF, by rw [HE.out]⟩
  | some p =>
    obtain ⟨n, l1⟩ := p
    have hn := size_i hg
    rw [hg] at hC
    replace hR : Hid (R = getN getNum n l1) := by show _ = _; rw [hR.out]; unfold getL; rw [hg]; rfl
    have hl1 : l1.length ≤ 1073741824 := by have := eatsSize _ _ _ hg; omega
    go_enter Tryz.func101, Tryz.ntmps101
    go_wp2_with (fail)
    refine hC.mono ?_
    rintro e w2 ⟨hF, v, rfl, hv, hR2⟩
    have hv2 : v = .int .i64 (n : Int) := hv
    subst hv2
    clear hv hC
    dsimp only at hR2
    replace hk := hk.fr hF
    go_wp2
    go_loopw [8, 5] (fun t s wr => ∃ (zs : List (Int × List Value)) (lj : By), zs.length ≤ n ∧ t = .int .i64 (zs.length : Int) ∧ lj.length + 8 * zs.length ≤ 1073741824 ∧ Lp itInt 3 1 w.heap.size zs s wr ∧ RS wr r lj ∧ CapR wr r c ∧ FrR r w wr ∧ Hid (R = (getN getNum (n - zs.length) lj).bind fun y => some (zs.map (·.1) ++ y.1, y.2))) (fun t _ _ => n - (intOf t).toNat)
    case atStart => exact ⟨[], l1, Nat.zero_le _, rfl, by simpa using hl1, Lp.nil _ _ _ _ _, hR2, hk, hF, by show _ = _; rw [hR.out]; cases getN getNum (n - 0) l1 <;> rfl⟩
    case round =>
      clear hk hF hR2 hR hg
      obtain ⟨zs, lj, hj, rfl, hlj, hrow, hRj, hk, hF, HR⟩ := hrel
      by_cases hlt : zs.length < n
      · have hG := gInt hRj hk
        obtain ⟨sa, sc, rfl⟩ := own_shape hrow.row
        have hm : n - zs.length = (n - (zs.length + 1)) + 1 := by omega
        replace HR : Hid (R = (getN getNum ((n - (zs.length + 1)) + 1) lj).bind fun y => some (zs.map (·.1) ++ y.1, y.2)) := by show _ = _; rw [HR.out, ← hm]
        clear hm
        go_wp2_with (fail)
        refine hG.mono ?_
        rintro e w3 ⟨hF3, hE3⟩
        cases hg3 : getNum lj with
        | none =>
          rw [hg3] at hE3
          dsimp only at hE3
          subst hE3
          have HN : Hid (R = none) := by show _ = _; rw [HR.out, getN_lost hg3]; rfl
          go_wp2
          exact ⟨rfl, hF.trans hF3, by rw [HN.out]⟩
        | some q =>
          obtain ⟨x, l3⟩ := q
          rw [hg3] at hE3
          obtain ⟨v, rfl, hv, hR3⟩ := hE3
          dsimp only at hv hR3
          have hv2 : v = .int .i64 x := hv
          subst hv2
          clear hv
          have hrow3 := hrow.fr goInt hF3 hrw
          have hsn : ∀ b, (Value.slice sa zs.length sc).ownBlock = some b → b < wr.heap.size := fun b e => (hrow.row.lt b e).2
          have hrow4 := hrow3.row.alloc (.cells #[.int .i64 x] 3)
          have hnw : ∀ j u, (intC x)[j]? = some u → (w3.alloc (.cells #[.int .i64 x] 3)).cell? ((⟨w3.heap.size, 0, none⟩ : Addr).add j) = some u := World.news_of_block (BoxC.new w3 #[.int .i64 x] 3)
          have hone : ∀ u ∈ intC x, u.oneCell' = true := by intro u hu; simp [intC, varC, procC, faceC, insC, relC, plcC] at hu; rcases hu with rfl <;> rfl
          have heat := eatsNum _ _ _ hg3
          have hsz := (hF.trans hF3).size
          have hnn := hF.size
          have HM : Hid (R = (getN getNum (n - (zs.length + 1)) l3).bind fun y => some ((zs.map (·.1) ++ [x]) ++ y.1, y.2)) := getN_more HR.out hg3
          have HZ : Hid (itInt x (intC x) (win w3 wr.heap.size w3.heap.size)) := rfl
          replace hk := hk.fr hF3
          replace hF := hF.trans hF3
          clear HR hG hrow hRj hF3
          go_wp2_with (at_builtin; refine wpList_append_lies _ rfl (.tmp 10) (.tmp 13) 83 rfl w.heap.size 3 i0 (.int .i64 0) 1 8 Tryz.underlying83 hi hz0 hz1 hz2 rfl (by decide) _ _ _ rfl hrow4 ⟨w3.heap.size, 0, none⟩ 1 1 (intC x) rfl rfl hnw hone (by omega) ?_ ?_ ?_ _ rfl ?_; (· unfold maxLen; omega); (· omega); (· simp; omega); intro g5 cap5 w5 hown5 hgrow5 hat5 hlt5)
          have hb5 : Below w.heap.size w3 w5 := ((Below.refl w.heap.size w3).alloc (by omega) _).grown hgrow5 (by simp; omega) (fun k e => by have := (hrow4.lt _ e).1; omega)
          have hrow5 := hrow3.push (z := (x, intC x)) goInt hnn hsn HZ.out rfl hown5 hgrow5 (hat5.imp id fun e => by rw [e]; simp)
          refine ⟨⟨zs ++ [(x, intC x)], l3, by simp; omega, by simp, by simp; omega, hrow5, hR3.low (hb5.mono (by omega)), ⟨(hb5.block c hcw).trans hk.box, hk.ne, hk.row⟩, ⟨hb5.os.trans hF.os, hb5.tape.trans hF.tape, hb5.output.trans hF.output, Nat.le_trans hF.size hb5.size, fun b u1 u2 u3 => (hb5.block b u1).trans (hF.block b u1 u2 u3), hF.own⟩, ?_⟩, by simp [intOf]; omega⟩
          show R = _
          rw [HM.out, List.length_append, List.map_append]
          rfl
      · obtain rfl : n = zs.length := by omega
        have HN : Hid (R = some (zs.map (·.1), lj)) := by show _ = _; rw [HR.out, Nat.sub_self]; show (some ([], lj)).bind _ = _; simp
        obtain ⟨sa, sc, rfl⟩ := own_shape hrow.row
        clear HR
        go_wp2
        go_ret
        refine ⟨hF, ?_⟩
        rw [HN.out]
        exact ⟨_, rfl, ⟨zs, rfl, hrow⟩, hRj⟩
theorem info_lVars : (Tryz.prog.info? 100).map (fun i => (i.zero, i.size, i.bytes)) = some (some (.agg #[.string ⟨#[]⟩, .bool false, .int .i64 0, .int .i64 0]), 4, 40) := by kernel_rfl
set_option maxHeartbeats 1000000 in
theorem lVars {w : World} {r c : Nat} {l : By} (h : RS w r l) (hk : CapR w r c) (hl : l.length ≤ 1073741824) :
    Calls Tryz.prog 96 #[.pointer (some ⟨r, 0, none⟩), .func (.func 97) #[] #[.pointer (some ⟨c, 0, none⟩)]] w (RdE r w (getL getVar l) (LV itVar 100 4 w.heap.size)) := by
  have cT : Tryz.prog.cellsOf 100 = 4 := by kernel_rfl
  obtain ⟨i0, hi, hz0, hz1, hz2⟩ := info_of info_lVars
  have hC := oSize h
  have hrw := h.lt
  have hcw : c < w.heap.size := hk.box.lt
  obtain ⟨R, hR⟩ : ∃ R, R = getL getVar l := ⟨_, rfl⟩
  rw [← hR]
  replace hR : Hid (R = getL getVar l) := hR
  cases hg : getSize l with
  | none =>
    have HE : Hid (R = none) := by show _ = _; rw [hR.out]; unfold getL; rw [hg]; rfl
    rw [hg] at hC
    go_enter Tryz.func96, Tryz.ntmps96
    go_wp2_with (fail)
    refine hC.mono ?_
    rintro e w2 ⟨hF, hE⟩
    dsimp only at hE
    subst hE
    go_wp2
    exact ⟨rfl, hF, by rw [HE.out]⟩
  | some p =>
    obtain ⟨n, l1⟩ := p
    have hn := size_i hg
    rw [hg] at hC
    replace hR : Hid (R = getN getVar n l1) := by show _ = _; rw [hR.out]; unfold getL; rw [hg]; rfl
    have hl1 : l1.length ≤ 1073741824 := by have := eatsSize _ _ _ hg; omega
    go_enter Tryz.func96, Tryz.ntmps96
    go_wp2_with (fail)
    refine hC.mono ?_
    rintro e w2 ⟨hF, v, rfl, hv, hR2⟩
    have hv2 : v = .int .i64 (n : Int) := hv
    subst hv2
    clear hv hC
    dsimp only at hR2
    replace hk := hk.fr hF
    go_wp2
    go_loopw [8, 5] (fun t s wr => ∃ (zs : List (VarD × List Value)) (lj : By), zs.length ≤ n ∧ t = .int .i64 (zs.length : Int) ∧ lj.length + 8 * zs.length ≤ 1073741824 ∧ Lp itVar 100 4 w.heap.size zs s wr ∧ RS wr r lj ∧ CapR wr r c ∧ FrR r w wr ∧ Hid (R = (getN getVar (n - zs.length) lj).bind fun y => some (zs.map (·.1) ++ y.1, y.2))) (fun t _ _ => n - (intOf t).toNat)
    case atStart => exact ⟨[], l1, Nat.zero_le _, rfl, by simpa using hl1, Lp.nil _ _ _ _ _, hR2, hk, hF, by show _ = _; rw [hR.out]; cases getN getVar (n - 0) l1 <;> rfl⟩
    case round =>
      clear hk hF hR2 hR hg
      obtain ⟨zs, lj, hj, rfl, hlj, hrow, hRj, hk, hF, HR⟩ := hrel
      by_cases hlt : zs.length < n
      · have hG := gVar hRj hk
        obtain ⟨sa, sc, rfl⟩ := own_shape hrow.row
        have hm : n - zs.length = (n - (zs.length + 1)) + 1 := by omega
        replace HR : Hid (R = (getN getVar ((n - (zs.length + 1)) + 1) lj).bind fun y => some (zs.map (·.1) ++ y.1, y.2)) := by show _ = _; rw [HR.out, ← hm]
        clear hm
        go_wp2_with (fail)
        refine hG.mono ?_
        rintro e w3 ⟨hF3, hE3⟩
        cases hg3 : getVar lj with
        | none =>
          rw [hg3] at hE3
          dsimp only at hE3
          subst hE3
          have HN : Hid (R = none) := by show _ = _; rw [HR.out, getN_lost hg3]; rfl
          go_wp2
          exact ⟨rfl, hF.trans hF3, by rw [HN.out]⟩
        | some q =>
          obtain ⟨x, l3⟩ := q
          rw [hg3] at hE3
          obtain ⟨v, rfl, hv, hR3⟩ := hE3
          dsimp only at hv hR3
          have hv2 : v = varV x := hv
          subst hv2
          clear hv
          unfold varV
          have hrow3 := hrow.fr goVar hF3 hrw
          have hsn : ∀ b, (Value.slice sa zs.length sc).ownBlock = some b → b < wr.heap.size := fun b e => (hrow.row.lt b e).2
          have hrow4 := hrow3.row.alloc (.cells #[.string x.name, .bool x.pub, .int .i64 x.label, .int .i64 x.size] 100)
          have hnw : ∀ j u, (varC x)[j]? = some u → (w3.alloc (.cells #[.string x.name, .bool x.pub, .int .i64 x.label, .int .i64 x.size] 100)).cell? ((⟨w3.heap.size, 0, none⟩ : Addr).add j) = some u := World.news_of_block (BoxC.new w3 #[.string x.name, .bool x.pub, .int .i64 x.label, .int .i64 x.size] 100)
          have hone : ∀ u ∈ varC x, u.oneCell' = true := by intro u hu; simp [intC, varC, procC, faceC, insC, relC, plcC] at hu; rcases hu with rfl | rfl | rfl | rfl <;> rfl
          have heat := eatsVar _ _ _ hg3
          have hsz := (hF.trans hF3).size
          have hnn := hF.size
          have HM : Hid (R = (getN getVar (n - (zs.length + 1)) l3).bind fun y => some ((zs.map (·.1) ++ [x]) ++ y.1, y.2)) := getN_more HR.out hg3
          have HZ : Hid (itVar x (varC x) (win w3 wr.heap.size w3.heap.size)) := rfl
          replace hk := hk.fr hF3
          replace hF := hF.trans hF3
          clear HR hG hrow hRj hF3
          go_wp2_with (at_builtin; refine wpList_append_lies _ rfl (.tmp 10) (.tmp 13) 22 rfl w.heap.size 100 i0 (.agg #[.string ⟨#[]⟩, .bool false, .int .i64 0, .int .i64 0]) 4 40 Tryz.underlying22 hi hz0 hz1 hz2 rfl (by decide) _ _ _ rfl hrow4 ⟨w3.heap.size, 0, none⟩ 1 1 (varC x) rfl rfl hnw hone (by omega) ?_ ?_ ?_ _ rfl ?_; (· unfold maxLen; omega); (· omega); (· simp; omega); intro g5 cap5 w5 hown5 hgrow5 hat5 hlt5)
          have hb5 : Below w.heap.size w3 w5 := ((Below.refl w.heap.size w3).alloc (by omega) _).grown hgrow5 (by simp; omega) (fun k e => by have := (hrow4.lt _ e).1; omega)
          have hrow5 := hrow3.push (z := (x, varC x)) goVar hnn hsn HZ.out rfl hown5 hgrow5 (hat5.imp id fun e => by rw [e]; simp)
          refine ⟨⟨zs ++ [(x, varC x)], l3, by simp; omega, by simp, by simp; omega, hrow5, hR3.low (hb5.mono (by omega)), ⟨(hb5.block c hcw).trans hk.box, hk.ne, hk.row⟩, ⟨hb5.os.trans hF.os, hb5.tape.trans hF.tape, hb5.output.trans hF.output, Nat.le_trans hF.size hb5.size, fun b u1 u2 u3 => (hb5.block b u1).trans (hF.block b u1 u2 u3), hF.own⟩, ?_⟩, by simp [intOf]; omega⟩
          show R = _
          rw [HM.out, List.length_append, List.map_append]
          rfl
      · obtain rfl : n = zs.length := by omega
        have HN : Hid (R = some (zs.map (·.1), lj)) := by show _ = _; rw [HR.out, Nat.sub_self]; show (some ([], lj)).bind _ = _; simp
        obtain ⟨sa, sc, rfl⟩ := own_shape hrow.row
        clear HR
        go_wp2
        go_ret
        refine ⟨hF, ?_⟩
        rw [HN.out]
        exact ⟨_, rfl, ⟨zs, rfl, hrow⟩, hRj⟩
theorem info_lIns : (Tryz.prog.info? 55).map (fun i => (i.zero, i.size, i.bytes)) = some (some (.agg #[.int .i64 0, .int .i64 0, .int .i64 0, .int .i64 0, .int .i64 0]), 5, 40) := by kernel_rfl
set_option maxHeartbeats 1000000 in
theorem lIns {w : World} {r c : Nat} {l : By} (h : RS w r l) (hk : CapR w r c) (hl : l.length ≤ 1073741824) :
    Calls Tryz.prog 81 #[.pointer (some ⟨r, 0, none⟩), .func (.func 82) #[] #[.pointer (some ⟨c, 0, none⟩)]] w (RdE r w (getL getIns l) (LV itIns 55 5 w.heap.size)) := by
  have cT : Tryz.prog.cellsOf 55 = 5 := by kernel_rfl
  obtain ⟨i0, hi, hz0, hz1, hz2⟩ := info_of info_lIns
  have hC := oSize h
  have hrw := h.lt
  have hcw : c < w.heap.size := hk.box.lt
  obtain ⟨R, hR⟩ : ∃ R, R = getL getIns l := ⟨_, rfl⟩
  rw [← hR]
  replace hR : Hid (R = getL getIns l) := hR
  cases hg : getSize l with
  | none =>
    have HE : Hid (R = none) := by show _ = _; rw [hR.out]; unfold getL; rw [hg]; rfl
    rw [hg] at hC
    go_enter Tryz.func81, Tryz.ntmps81
    go_wp2_with (fail)
    refine hC.mono ?_
    rintro e w2 ⟨hF, hE⟩
    dsimp only at hE
    subst hE
    go_wp2
    exact ⟨rfl, hF, by rw [HE.out]⟩
  | some p =>
    obtain ⟨n, l1⟩ := p
    have hn := size_i hg
    rw [hg] at hC
    replace hR : Hid (R = getN getIns n l1) := by show _ = _; rw [hR.out]; unfold getL; rw [hg]; rfl
    have hl1 : l1.length ≤ 1073741824 := by have := eatsSize _ _ _ hg; omega
    go_enter Tryz.func81, Tryz.ntmps81
    go_wp2_with (fail)
    refine hC.mono ?_
    rintro e w2 ⟨hF, v, rfl, hv, hR2⟩
    have hv2 : v = .int .i64 (n : Int) := hv
    subst hv2
    clear hv hC
    dsimp only at hR2
    replace hk := hk.fr hF
    go_wp2
    go_loopw [8, 5] (fun t s wr => ∃ (zs : List (Ins × List Value)) (lj : By), zs.length ≤ n ∧ t = .int .i64 (zs.length : Int) ∧ lj.length + 8 * zs.length ≤ 1073741824 ∧ Lp itIns 55 5 w.heap.size zs s wr ∧ RS wr r lj ∧ CapR wr r c ∧ FrR r w wr ∧ Hid (R = (getN getIns (n - zs.length) lj).bind fun y => some (zs.map (·.1) ++ y.1, y.2))) (fun t _ _ => n - (intOf t).toNat)
    case atStart => exact ⟨[], l1, Nat.zero_le _, rfl, by simpa using hl1, Lp.nil _ _ _ _ _, hR2, hk, hF, by show _ = _; rw [hR.out]; cases getN getIns (n - 0) l1 <;> rfl⟩
    case round =>
      clear hk hF hR2 hR hg
      obtain ⟨zs, lj, hj, rfl, hlj, hrow, hRj, hk, hF, HR⟩ := hrel
      by_cases hlt : zs.length < n
      · have hG := gIns hRj hk
        obtain ⟨sa, sc, rfl⟩ := own_shape hrow.row
        have hm : n - zs.length = (n - (zs.length + 1)) + 1 := by omega
        replace HR : Hid (R = (getN getIns ((n - (zs.length + 1)) + 1) lj).bind fun y => some (zs.map (·.1) ++ y.1, y.2)) := by show _ = _; rw [HR.out, ← hm]
        clear hm
        go_wp2_with (fail)
        refine hG.mono ?_
        rintro e w3 ⟨hF3, hE3⟩
        cases hg3 : getIns lj with
        | none =>
          rw [hg3] at hE3
          dsimp only at hE3
          subst hE3
          have HN : Hid (R = none) := by show _ = _; rw [HR.out, getN_lost hg3]; rfl
          go_wp2
          exact ⟨rfl, hF.trans hF3, by rw [HN.out]⟩
        | some q =>
          obtain ⟨x, l3⟩ := q
          rw [hg3] at hE3
          obtain ⟨v, rfl, hv, hR3⟩ := hE3
          dsimp only at hv hR3
          have hv2 : v = insV x := hv
          subst hv2
          clear hv
          unfold insV
          have hrow3 := hrow.fr goIns hF3 hrw
          have hsn : ∀ b, (Value.slice sa zs.length sc).ownBlock = some b → b < wr.heap.size := fun b e => (hrow.row.lt b e).2
          have hrow4 := hrow3.row.alloc (.cells #[.int .i64 x.op, .int .i64 x.a, .int .i64 x.b, .int .i64 x.c, .int .i64 x.n] 55)
          have hnw : ∀ j u, (insC x)[j]? = some u → (w3.alloc (.cells #[.int .i64 x.op, .int .i64 x.a, .int .i64 x.b, .int .i64 x.c, .int .i64 x.n] 55)).cell? ((⟨w3.heap.size, 0, none⟩ : Addr).add j) = some u := World.news_of_block (BoxC.new w3 #[.int .i64 x.op, .int .i64 x.a, .int .i64 x.b, .int .i64 x.c, .int .i64 x.n] 55)
          have hone : ∀ u ∈ insC x, u.oneCell' = true := by intro u hu; simp [intC, varC, procC, faceC, insC, relC, plcC] at hu; rcases hu with rfl | rfl | rfl | rfl | rfl <;> rfl
          have heat := eatsIns _ _ _ hg3
          have hsz := (hF.trans hF3).size
          have hnn := hF.size
          have HM : Hid (R = (getN getIns (n - (zs.length + 1)) l3).bind fun y => some ((zs.map (·.1) ++ [x]) ++ y.1, y.2)) := getN_more HR.out hg3
          have HZ : Hid (itIns x (insC x) (win w3 wr.heap.size w3.heap.size)) := rfl
          replace hk := hk.fr hF3
          replace hF := hF.trans hF3
          clear HR hG hrow hRj hF3
          go_wp2_with (at_builtin; refine wpList_append_lies _ rfl (.tmp 10) (.tmp 13) 27 rfl w.heap.size 55 i0 (.agg #[.int .i64 0, .int .i64 0, .int .i64 0, .int .i64 0, .int .i64 0]) 5 40 Tryz.underlying27 hi hz0 hz1 hz2 rfl (by decide) _ _ _ rfl hrow4 ⟨w3.heap.size, 0, none⟩ 1 1 (insC x) rfl rfl hnw hone (by omega) ?_ ?_ ?_ _ rfl ?_; (· unfold maxLen; omega); (· omega); (· simp; omega); intro g5 cap5 w5 hown5 hgrow5 hat5 hlt5)
          have hb5 : Below w.heap.size w3 w5 := ((Below.refl w.heap.size w3).alloc (by omega) _).grown hgrow5 (by simp; omega) (fun k e => by have := (hrow4.lt _ e).1; omega)
          have hrow5 := hrow3.push (z := (x, insC x)) goIns hnn hsn HZ.out rfl hown5 hgrow5 (hat5.imp id fun e => by rw [e]; simp)
          refine ⟨⟨zs ++ [(x, insC x)], l3, by simp; omega, by simp, by simp; omega, hrow5, hR3.low (hb5.mono (by omega)), ⟨(hb5.block c hcw).trans hk.box, hk.ne, hk.row⟩, ⟨hb5.os.trans hF.os, hb5.tape.trans hF.tape, hb5.output.trans hF.output, Nat.le_trans hF.size hb5.size, fun b u1 u2 u3 => (hb5.block b u1).trans (hF.block b u1 u2 u3), hF.own⟩, ?_⟩, by simp [intOf]; omega⟩
          show R = _
          rw [HM.out, List.length_append, List.map_append]
          rfl
      · obtain rfl : n = zs.length := by omega
        have HN : Hid (R = some (zs.map (·.1), lj)) := by show _ = _; rw [HR.out, Nat.sub_self]; show (some ([], lj)).bind _ = _; simp
        obtain ⟨sa, sc, rfl⟩ := own_shape hrow.row
        clear HR
        go_wp2
        go_ret
        refine ⟨hF, ?_⟩
        rw [HN.out]
        exact ⟨_, rfl, ⟨zs, rfl, hrow⟩, hRj⟩
theorem info_lRel : (Tryz.prog.info? 57).map (fun i => (i.zero, i.size, i.bytes)) = some (some (.agg #[.int .i64 0, .int .i64 0, .string ⟨#[]⟩, .string ⟨#[]⟩]), 4, 48) := by kernel_rfl
set_option maxHeartbeats 1000000 in
theorem lRel {w : World} {r c : Nat} {l : By} (h : RS w r l) (hk : CapR w r c) (hl : l.length ≤ 1073741824) :
    Calls Tryz.prog 85 #[.pointer (some ⟨r, 0, none⟩), .func (.func 86) #[] #[.pointer (some ⟨c, 0, none⟩)]] w (RdE r w (getL getRel l) (LV itRel 57 4 w.heap.size)) := by
  have cT : Tryz.prog.cellsOf 57 = 4 := by kernel_rfl
  obtain ⟨i0, hi, hz0, hz1, hz2⟩ := info_of info_lRel
  have hC := oSize h
  have hrw := h.lt
  have hcw : c < w.heap.size := hk.box.lt
  obtain ⟨R, hR⟩ : ∃ R, R = getL getRel l := ⟨_, rfl⟩
  rw [← hR]
  replace hR : Hid (R = getL getRel l) := hR
  cases hg : getSize l with
  | none =>
    have HE : Hid (R = none) := by show _ = _; rw [hR.out]; unfold getL; rw [hg]; rfl
    rw [hg] at hC
    go_enter Tryz.func85, Tryz.ntmps85
    go_wp2_with (fail)
    refine hC.mono ?_
    rintro e w2 ⟨hF, hE⟩
    dsimp only at hE
    subst hE
    go_wp2
    exact ⟨rfl, hF, by rw [HE.out]⟩
  | some p =>
    obtain ⟨n, l1⟩ := p
    have hn := size_i hg
    rw [hg] at hC
    replace hR : Hid (R = getN getRel n l1) := by show _ = _; rw [hR.out]; unfold getL; rw [hg]; rfl
    have hl1 : l1.length ≤ 1073741824 := by have := eatsSize _ _ _ hg; omega
    go_enter Tryz.func85, Tryz.ntmps85
    go_wp2_with (fail)
    refine hC.mono ?_
    rintro e w2 ⟨hF, v, rfl, hv, hR2⟩
    have hv2 : v = .int .i64 (n : Int) := hv
    subst hv2
    clear hv hC
    dsimp only at hR2
    replace hk := hk.fr hF
    go_wp2
    go_loopw [8, 5] (fun t s wr => ∃ (zs : List (RelD × List Value)) (lj : By), zs.length ≤ n ∧ t = .int .i64 (zs.length : Int) ∧ lj.length + 8 * zs.length ≤ 1073741824 ∧ Lp itRel 57 4 w.heap.size zs s wr ∧ RS wr r lj ∧ CapR wr r c ∧ FrR r w wr ∧ Hid (R = (getN getRel (n - zs.length) lj).bind fun y => some (zs.map (·.1) ++ y.1, y.2))) (fun t _ _ => n - (intOf t).toNat)
    case atStart => exact ⟨[], l1, Nat.zero_le _, rfl, by simpa using hl1, Lp.nil _ _ _ _ _, hR2, hk, hF, by show _ = _; rw [hR.out]; cases getN getRel (n - 0) l1 <;> rfl⟩
    case round =>
      clear hk hF hR2 hR hg
      obtain ⟨zs, lj, hj, rfl, hlj, hrow, hRj, hk, hF, HR⟩ := hrel
      by_cases hlt : zs.length < n
      · have hG := gRel hRj hk
        obtain ⟨sa, sc, rfl⟩ := own_shape hrow.row
        have hm : n - zs.length = (n - (zs.length + 1)) + 1 := by omega
        replace HR : Hid (R = (getN getRel ((n - (zs.length + 1)) + 1) lj).bind fun y => some (zs.map (·.1) ++ y.1, y.2)) := by show _ = _; rw [HR.out, ← hm]
        clear hm
        go_wp2_with (fail)
        refine hG.mono ?_
        rintro e w3 ⟨hF3, hE3⟩
        cases hg3 : getRel lj with
        | none =>
          rw [hg3] at hE3
          dsimp only at hE3
          subst hE3
          have HN : Hid (R = none) := by show _ = _; rw [HR.out, getN_lost hg3]; rfl
          go_wp2
          exact ⟨rfl, hF.trans hF3, by rw [HN.out]⟩
        | some q =>
          obtain ⟨x, l3⟩ := q
          rw [hg3] at hE3
          obtain ⟨v, rfl, hv, hR3⟩ := hE3
          dsimp only at hv hR3
          have hv2 : v = relV x := hv
          subst hv2
          clear hv
          unfold relV
          have hrow3 := hrow.fr goRel hF3 hrw
          have hsn : ∀ b, (Value.slice sa zs.length sc).ownBlock = some b → b < wr.heap.size := fun b e => (hrow.row.lt b e).2
          have hrow4 := hrow3.row.alloc (.cells #[.int .i64 x.at', .int .i64 x.kind, .string x.module, .string x.name] 57)
          have hnw : ∀ j u, (relC x)[j]? = some u → (w3.alloc (.cells #[.int .i64 x.at', .int .i64 x.kind, .string x.module, .string x.name] 57)).cell? ((⟨w3.heap.size, 0, none⟩ : Addr).add j) = some u := World.news_of_block (BoxC.new w3 #[.int .i64 x.at', .int .i64 x.kind, .string x.module, .string x.name] 57)
          have hone : ∀ u ∈ relC x, u.oneCell' = true := by intro u hu; simp [intC, varC, procC, faceC, insC, relC, plcC] at hu; rcases hu with rfl | rfl | rfl | rfl <;> rfl
          have heat := eatsRel _ _ _ hg3
          have hsz := (hF.trans hF3).size
          have hnn := hF.size
          have HM : Hid (R = (getN getRel (n - (zs.length + 1)) l3).bind fun y => some ((zs.map (·.1) ++ [x]) ++ y.1, y.2)) := getN_more HR.out hg3
          have HZ : Hid (itRel x (relC x) (win w3 wr.heap.size w3.heap.size)) := rfl
          replace hk := hk.fr hF3
          replace hF := hF.trans hF3
          clear HR hG hrow hRj hF3
          go_wp2_with (at_builtin; refine wpList_append_lies _ rfl (.tmp 10) (.tmp 13) 28 rfl w.heap.size 57 i0 (.agg #[.int .i64 0, .int .i64 0, .string ⟨#[]⟩, .string ⟨#[]⟩]) 4 48 Tryz.underlying28 hi hz0 hz1 hz2 rfl (by decide) _ _ _ rfl hrow4 ⟨w3.heap.size, 0, none⟩ 1 1 (relC x) rfl rfl hnw hone (by omega) ?_ ?_ ?_ _ rfl ?_; (· unfold maxLen; omega); (· omega); (· simp; omega); intro g5 cap5 w5 hown5 hgrow5 hat5 hlt5)
          have hb5 : Below w.heap.size w3 w5 := ((Below.refl w.heap.size w3).alloc (by omega) _).grown hgrow5 (by simp; omega) (fun k e => by have := (hrow4.lt _ e).1; omega)
          have hrow5 := hrow3.push (z := (x, relC x)) goRel hnn hsn HZ.out rfl hown5 hgrow5 (hat5.imp id fun e => by rw [e]; simp)
          refine ⟨⟨zs ++ [(x, relC x)], l3, by simp; omega, by simp, by simp; omega, hrow5, hR3.low (hb5.mono (by omega)), ⟨(hb5.block c hcw).trans hk.box, hk.ne, hk.row⟩, ⟨hb5.os.trans hF.os, hb5.tape.trans hF.tape, hb5.output.trans hF.output, Nat.le_trans hF.size hb5.size, fun b u1 u2 u3 => (hb5.block b u1).trans (hF.block b u1 u2 u3), hF.own⟩, ?_⟩, by simp [intOf]; omega⟩
          show R = _
          rw [HM.out, List.length_append, List.map_append]
          rfl
      · obtain rfl : n = zs.length := by omega
        have HN : Hid (R = some (zs.map (·.1), lj)) := by show _ = _; rw [HR.out, Nat.sub_self]; show (some ([], lj)).bind _ = _; simp
        obtain ⟨sa, sc, rfl⟩ := own_shape hrow.row
        clear HR
        go_wp2
        go_ret
        refine ⟨hF, ?_⟩
        rw [HN.out]
        exact ⟨_, rfl, ⟨zs, rfl, hrow⟩, hRj⟩
theorem info_lPlc : (Tryz.prog.info? 85).map (fun i => (i.zero, i.size, i.bytes)) = some (some (.agg #[.string ⟨#[]⟩, .int .i64 0]), 2, 24) := by kernel_rfl
set_option maxHeartbeats 1000000 in
theorem lPlc {w : World} {r c : Nat} {l : By} (h : RS w r l) (hk : CapR w r c) (hl : l.length ≤ 1073741824) :
    Calls Tryz.prog 105 #[.pointer (some ⟨r, 0, none⟩), .func (.func 106) #[] #[.pointer (some ⟨c, 0, none⟩)]] w (RdE r w (getL getPlc l) (LV itPlc 85 2 w.heap.size)) := by
  have cT : Tryz.prog.cellsOf 85 = 2 := by kernel_rfl
  obtain ⟨i0, hi, hz0, hz1, hz2⟩ := info_of info_lPlc
  have hC := oSize h
  have hrw := h.lt
  have hcw : c < w.heap.size := hk.box.lt
  obtain ⟨R, hR⟩ : ∃ R, R = getL getPlc l := ⟨_, rfl⟩
  rw [← hR]
  replace hR : Hid (R = getL getPlc l) := hR
  cases hg : getSize l with
  | none =>
    have HE : Hid (R = none) := by show _ = _; rw [hR.out]; unfold getL; rw [hg]; rfl
    rw [hg] at hC
    go_enter Tryz.func105, Tryz.ntmps105
    go_wp2_with (fail)
    refine hC.mono ?_
    rintro e w2 ⟨hF, hE⟩
    dsimp only at hE
    subst hE
    go_wp2
    exact ⟨rfl, hF, by rw [HE.out]⟩
  | some p =>
    obtain ⟨n, l1⟩ := p
    have hn := size_i hg
    rw [hg] at hC
    replace hR : Hid (R = getN getPlc n l1) := by show _ = _; rw [hR.out]; unfold getL; rw [hg]; rfl
    have hl1 : l1.length ≤ 1073741824 := by have := eatsSize _ _ _ hg; omega
    go_enter Tryz.func105, Tryz.ntmps105
    go_wp2_with (fail)
    refine hC.mono ?_
    rintro e w2 ⟨hF, v, rfl, hv, hR2⟩
    have hv2 : v = .int .i64 (n : Int) := hv
    subst hv2
    clear hv hC
    dsimp only at hR2
    replace hk := hk.fr hF
    go_wp2
    go_loopw [8, 5] (fun t s wr => ∃ (zs : List (PlcD × List Value)) (lj : By), zs.length ≤ n ∧ t = .int .i64 (zs.length : Int) ∧ lj.length + 8 * zs.length ≤ 1073741824 ∧ Lp itPlc 85 2 w.heap.size zs s wr ∧ RS wr r lj ∧ CapR wr r c ∧ FrR r w wr ∧ Hid (R = (getN getPlc (n - zs.length) lj).bind fun y => some (zs.map (·.1) ++ y.1, y.2))) (fun t _ _ => n - (intOf t).toNat)
    case atStart => exact ⟨[], l1, Nat.zero_le _, rfl, by simpa using hl1, Lp.nil _ _ _ _ _, hR2, hk, hF, by show _ = _; rw [hR.out]; cases getN getPlc (n - 0) l1 <;> rfl⟩
    case round =>
      clear hk hF hR2 hR hg
      obtain ⟨zs, lj, hj, rfl, hlj, hrow, hRj, hk, hF, HR⟩ := hrel
      by_cases hlt : zs.length < n
      · have hG := gPlc hRj hk
        obtain ⟨sa, sc, rfl⟩ := own_shape hrow.row
        have hm : n - zs.length = (n - (zs.length + 1)) + 1 := by omega
        replace HR : Hid (R = (getN getPlc ((n - (zs.length + 1)) + 1) lj).bind fun y => some (zs.map (·.1) ++ y.1, y.2)) := by show _ = _; rw [HR.out, ← hm]
        clear hm
        go_wp2_with (fail)
        refine hG.mono ?_
        rintro e w3 ⟨hF3, hE3⟩
        cases hg3 : getPlc lj with
        | none =>
          rw [hg3] at hE3
          dsimp only at hE3
          subst hE3
          have HN : Hid (R = none) := by show _ = _; rw [HR.out, getN_lost hg3]; rfl
          go_wp2
          exact ⟨rfl, hF.trans hF3, by rw [HN.out]⟩
        | some q =>
          obtain ⟨x, l3⟩ := q
          rw [hg3] at hE3
          obtain ⟨v, rfl, hv, hR3⟩ := hE3
          dsimp only at hv hR3
          have hv2 : v = plcV x := hv
          subst hv2
          clear hv
          unfold plcV
          have hrow3 := hrow.fr goPlc hF3 hrw
          have hsn : ∀ b, (Value.slice sa zs.length sc).ownBlock = some b → b < wr.heap.size := fun b e => (hrow.row.lt b e).2
          have hrow4 := hrow3.row.alloc (.cells #[.string x.name, .int .i64 x.at'] 85)
          have hnw : ∀ j u, (plcC x)[j]? = some u → (w3.alloc (.cells #[.string x.name, .int .i64 x.at'] 85)).cell? ((⟨w3.heap.size, 0, none⟩ : Addr).add j) = some u := World.news_of_block (BoxC.new w3 #[.string x.name, .int .i64 x.at'] 85)
          have hone : ∀ u ∈ plcC x, u.oneCell' = true := by intro u hu; simp [intC, varC, procC, faceC, insC, relC, plcC] at hu; rcases hu with rfl | rfl <;> rfl
          have heat := eatsPlc _ _ _ hg3
          have hsz := (hF.trans hF3).size
          have hnn := hF.size
          have HM : Hid (R = (getN getPlc (n - (zs.length + 1)) l3).bind fun y => some ((zs.map (·.1) ++ [x]) ++ y.1, y.2)) := getN_more HR.out hg3
          have HZ : Hid (itPlc x (plcC x) (win w3 wr.heap.size w3.heap.size)) := rfl
          replace hk := hk.fr hF3
          replace hF := hF.trans hF3
          clear HR hG hrow hRj hF3
          go_wp2_with (at_builtin; refine wpList_append_lies _ rfl (.tmp 10) (.tmp 13) 29 rfl w.heap.size 85 i0 (.agg #[.string ⟨#[]⟩, .int .i64 0]) 2 24 Tryz.underlying29 hi hz0 hz1 hz2 rfl (by decide) _ _ _ rfl hrow4 ⟨w3.heap.size, 0, none⟩ 1 1 (plcC x) rfl rfl hnw hone (by omega) ?_ ?_ ?_ _ rfl ?_; (· unfold maxLen; omega); (· omega); (· simp; omega); intro g5 cap5 w5 hown5 hgrow5 hat5 hlt5)
          have hb5 : Below w.heap.size w3 w5 := ((Below.refl w.heap.size w3).alloc (by omega) _).grown hgrow5 (by simp; omega) (fun k e => by have := (hrow4.lt _ e).1; omega)
          have hrow5 := hrow3.push (z := (x, plcC x)) goPlc hnn hsn HZ.out rfl hown5 hgrow5 (hat5.imp id fun e => by rw [e]; simp)
          refine ⟨⟨zs ++ [(x, plcC x)], l3, by simp; omega, by simp, by simp; omega, hrow5, hR3.low (hb5.mono (by omega)), ⟨(hb5.block c hcw).trans hk.box, hk.ne, hk.row⟩, ⟨hb5.os.trans hF.os, hb5.tape.trans hF.tape, hb5.output.trans hF.output, Nat.le_trans hF.size hb5.size, fun b u1 u2 u3 => (hb5.block b u1).trans (hF.block b u1 u2 u3), hF.own⟩, ?_⟩, by simp [intOf]; omega⟩
          show R = _
          rw [HM.out, List.length_append, List.map_append]
          rfl
      · obtain rfl : n = zs.length := by omega
        have HN : Hid (R = some (zs.map (·.1), lj)) := by show _ = _; rw [HR.out, Nat.sub_self]; show (some ([], lj)).bind _ = _; simp
        obtain ⟨sa, sc, rfl⟩ := own_shape hrow.row
        clear HR
        go_wp2
        go_ret
        refine ⟨hF, ?_⟩
        rw [HN.out]
        exact ⟨_, rfl, ⟨zs, rfl, hrow⟩, hRj⟩
end Go.Proofs.YthfeojjfehbgjaaGreatDoor.obj
