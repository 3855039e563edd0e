/- What the reader's lists of faces answer: contracts. (Written by mklst.py: edit that.) -/
import Derived.Test.YthfeojjfehbgjaaGreatDoorOGObjFace
import Derived.Deep.AppendLies
namespace Go.Proofs.YthfeojjfehbgjaaGreatDoor.obj
open Go.RowKit
open Go.Proofs.YthfeojjfehbgjaaGreatDoor.mac (BoxC grown_of_below Ins)
open Go.Proofs.YthfeojjfehbgjaaGreatDoor.face (VarD ProcD FaceD IntsIn VarsIn ProcsIn varV procV)
set_option linter.unusedVariables false
set_option linter.unusedSimpArgs false
set_option maxRecDepth 100000
theorem info_lFace : (Tryz.prog.info? 25).map (fun i => (i.zero, i.size, i.bytes)) = some (some (.agg #[.string ⟨#[]⟩, .slice none 0 0, .slice none 0 0]), 3, 64) := by kernel_rfl
set_option maxHeartbeats 1000000 in
theorem lFace {w : World} {r c : Nat} {l : By} (h : RS w r l) (hk : CapR w r c) (hl : l.length ≤ 1073741824) :
    Calls Tryz.prog 79 #[.pointer (some ⟨r, 0, none⟩), .func (.func 80) #[] #[.pointer (some ⟨c, 0, none⟩)]] w (RdE r w (getL getFace l) (LV itFace 25 3 w.heap.size)) := by
  have cT : Tryz.prog.cellsOf 25 = 3 := by kernel_rfl
  obtain ⟨i0, hi, hz0, hz1, hz2⟩ := info_of info_lFace
  have hC := oSize h
  have hrw := h.lt
  have hcw : c < w.heap.size := hk.box.lt
  obtain ⟨R, hR⟩ : ∃ R, R = getL getFace l := ⟨_, rfl⟩
  rw [← hR]
  replace hR : Hid (R = getL getFace l) := hR
  cases hg : getSize l with
  | none =>
    have HE : Hid (R = none) := by show _ = _; rw [hR.out]; unfold getL; rw [hg]; rfl
    rw [hg] at hC
    go_enter Tryz.func79, Tryz.ntmps79
    go_wp2_with (fail)
    refine hC.mono ?_
    rintro e w2 ⟨hF, hE⟩
    dsimp only at hE
    subst hE
    go_wp2
    exact ⟨rfl, hF, by rw [HE.out]⟩
  | some p =>
    obtain ⟨n, l1⟩ := p
    have hn := size_i hg
    rw [hg] at hC
    replace hR : Hid (R = getN getFace n l1) := by show _ = _; rw [hR.out]; unfold getL; rw [hg]; rfl
    have hl1 : l1.length ≤ 1073741824 := by have := eatsSize _ _ _ hg; omega
    go_enter Tryz.func79, Tryz.ntmps79
    go_wp2_with (fail)
    refine hC.mono ?_
    rintro e w2 ⟨hF, v, rfl, hv, hR2⟩
    have hv2 : v = .int .i64 (n : Int) := hv
    subst hv2
    clear hv hC
    dsimp only at hR2
    replace hk := hk.fr hF
    go_wp2
    go_loopw [8, 5] (fun t s wr => ∃ (zs : List (FaceD × List Value)) (lj : By), zs.length ≤ n ∧ t = .int .i64 (zs.length : Int) ∧ lj.length + 8 * zs.length ≤ 1073741824 ∧ Lp itFace 25 3 w.heap.size zs s wr ∧ RS wr r lj ∧ CapR wr r c ∧ FrR r w wr ∧ Hid (R = (getN getFace (n - zs.length) lj).bind fun y => some (zs.map (·.1) ++ y.1, y.2))) (fun t _ _ => n - (intOf t).toNat)
    case atStart => exact ⟨[], l1, Nat.zero_le _, rfl, by simpa using hl1, Lp.nil _ _ _ _ _, hR2, hk, hF, by show _ = _; rw [hR.out]; cases getN getFace (n - 0) l1 <;> rfl⟩
    case round =>
      clear hk hF hR2 hR hg
      obtain ⟨zs, lj, hj, rfl, hlj, hrow, hRj, hk, hF, HR⟩ := hrel
      by_cases hlt : zs.length < n
      · have hG := gFace hRj hk (by omega)
        obtain ⟨sa, sc, rfl⟩ := own_shape hrow.row
        have hm : n - zs.length = (n - (zs.length + 1)) + 1 := by omega
        replace HR : Hid (R = (getN getFace ((n - (zs.length + 1)) + 1) lj).bind fun y => some (zs.map (·.1) ++ y.1, y.2)) := by show _ = _; rw [HR.out, ← hm]
        clear hm
        go_wp2_with (fail)
        refine hG.mono ?_
        rintro e w3 ⟨hF3, hE3⟩
        cases hg3 : getFace lj with
        | none =>
          rw [hg3] at hE3
          dsimp only at hE3
          subst hE3
          have HN : Hid (R = none) := by show _ = _; rw [HR.out, getN_lost hg3]; rfl
          go_wp2
          exact ⟨rfl, hF.trans hF3, by rw [HN.out]⟩
        | some q =>
          obtain ⟨x, l3⟩ := q
          rw [hg3] at hE3
          obtain ⟨v, rfl, hv, hR3⟩ := hE3
          dsimp only at hv hR3
          obtain ⟨u, q, rfl, hu, hq⟩ := hv
          obtain ⟨ua, uc, rfl⟩ : ∃ a c, u = .slice a x.vars.length c := by obtain ⟨a, c, e, _⟩ := hu; exact ⟨a, c, e⟩
          obtain ⟨qa, qc, rfl⟩ : ∃ a c, q = .slice a x.procs.length c := by obtain ⟨a, c, e, _⟩ := hq; exact ⟨a, c, e⟩
          unfold faceV
          have hrow3 := hrow.fr goFace hF3 hrw
          have hsn : ∀ b, (Value.slice sa zs.length sc).ownBlock = some b → b < wr.heap.size := fun b e => (hrow.row.lt b e).2
          have hrow4 := hrow3.row.alloc (.cells #[.string x.module, .slice ua x.vars.length uc, .slice qa x.procs.length qc] 25)
          have hnw : ∀ j u, (faceC x (.slice ua x.vars.length uc) (.slice qa x.procs.length qc))[j]? = some u → (w3.alloc (.cells #[.string x.module, .slice ua x.vars.length uc, .slice qa x.procs.length qc] 25)).cell? ((⟨w3.heap.size, 0, none⟩ : Addr).add j) = some u := World.news_of_block (BoxC.new w3 #[.string x.module, .slice ua x.vars.length uc, .slice qa x.procs.length qc] 25)
          have hone : ∀ u ∈ faceC x (.slice ua x.vars.length uc) (.slice qa x.procs.length qc), u.oneCell' = true := by intro u hu; simp [intC, varC, procC, faceC, insC, relC, plcC] at hu; rcases hu with rfl | rfl | rfl <;> rfl
          have heat := eatsFace _ _ _ hg3
          have hsz := (hF.trans hF3).size
          have hnn := hF.size
          have HM : Hid (R = (getN getFace (n - (zs.length + 1)) l3).bind fun y => some ((zs.map (·.1) ++ [x]) ++ y.1, y.2)) := getN_more HR.out hg3
          have HZ : Hid (itFace x (faceC x (.slice ua x.vars.length uc) (.slice qa x.procs.length qc)) (win w3 wr.heap.size w3.heap.size)) := ⟨_, _, rfl, hu, hq⟩
          replace hk := hk.fr hF3
          replace hF := hF.trans hF3
          clear HR hG hrow hRj hF3
          go_wp2_with (at_builtin; refine wpList_append_lies _ rfl (.tmp 10) (.tmp 13) 26 rfl w.heap.size 25 i0 (.agg #[.string ⟨#[]⟩, .slice none 0 0, .slice none 0 0]) 3 64 Tryz.underlying26 hi hz0 hz1 hz2 rfl (by decide) _ _ _ rfl hrow4 ⟨w3.heap.size, 0, none⟩ 1 1 (faceC x (.slice ua x.vars.length uc) (.slice qa x.procs.length qc)) rfl rfl hnw hone (by omega) ?_ ?_ ?_ _ rfl ?_; (· unfold maxLen; omega); (· omega); (· simp; omega); intro g5 cap5 w5 hown5 hgrow5 hat5 hlt5)
          have hb5 : Below w.heap.size w3 w5 := ((Below.refl w.heap.size w3).alloc (by omega) _).grown hgrow5 (by simp; omega) (fun k e => by have := (hrow4.lt _ e).1; omega)
          have hrow5 := hrow3.push (z := (x, faceC x (.slice ua x.vars.length uc) (.slice qa x.procs.length qc))) goFace hnn hsn HZ.out rfl hown5 hgrow5 (hat5.imp id fun e => by rw [e]; simp)
          refine ⟨⟨zs ++ [(x, faceC x (.slice ua x.vars.length uc) (.slice qa x.procs.length qc))], l3, by simp; omega, by simp, by simp; omega, hrow5, hR3.low (hb5.mono (by omega)), ⟨(hb5.block c hcw).trans hk.box, hk.ne, hk.row⟩, ⟨hb5.os.trans hF.os, hb5.tape.trans hF.tape, hb5.output.trans hF.output, Nat.le_trans hF.size hb5.size, fun b u1 u2 u3 => (hb5.block b u1).trans (hF.block b u1 u2 u3), hF.own⟩, ?_⟩, by simp [intOf]; omega⟩
          show R = _
          rw [HM.out, List.length_append, List.map_append]
          rfl
      · obtain rfl : n = zs.length := by omega
        have HN : Hid (R = some (zs.map (·.1), lj)) := by show _ = _; rw [HR.out, Nat.sub_self]; show (some ([], lj)).bind _ = _; simp
        obtain ⟨sa, sc, rfl⟩ := own_shape hrow.row
        clear HR
        go_wp2
        go_ret
        refine ⟨hF, ?_⟩
        rw [HN.out]
        exact ⟨_, rfl, ⟨zs, rfl, hrow⟩, hRj⟩
end Go.Proofs.YthfeojjfehbgjaaGreatDoor.obj
