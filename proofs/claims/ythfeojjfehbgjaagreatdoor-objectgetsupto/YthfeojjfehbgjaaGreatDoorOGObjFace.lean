/- What the reader's face answers: a contract. (Written by mkrdr.py: edit that.) -/
import Derived.Test.YthfeojjfehbgjaaGreatDoorOGObjLstP
namespace Go.Proofs.YthfeojjfehbgjaaGreatDoor.obj
open Go.RowKit
open Go.Proofs.YthfeojjfehbgjaaGreatDoor.mac (BoxC grown_of_below Ins)
open Go.Proofs.YthfeojjfehbgjaaGreatDoor.ord (tkd putd)
open Go.Proofs.YthfeojjfehbgjaaGreatDoor.face (VarD ProcD FaceD IntsIn VarsIn ProcsIn varV procV)
set_option linter.unusedVariables false
set_option linter.unusedSimpArgs false
set_option maxRecDepth 100000
def FaceW (N : Nat) (x : FaceD) (v : Value) (w : World) : Prop := ∃ vv pv, v = faceV x vv pv ∧ VarsIn (win w N w.heap.size) vv x.vars ∧ ProcsIn (win w N w.heap.size) pv x.procs
theorem res_oFaceR {W : World} {a0 a1 y0 y1 y2 : Value} (tl : List Value) (B : Nat) (h : BoxC W B #[y0, y1, y2] 25) (c : Tryz.prog.cellsOf 25 = 3) : (results Tryz.f78 (List.toArray (a0 :: a1 :: .pointer (some ⟨B, 0, none⟩) :: tl))).run Tryz.prog W = .ok (.agg #[y0, y1, y2]) W := by
  have z0 := h.cell 0 rfl
  have z1 := h.cell 1 rfl
  have z2 := h.cell 2 rfl
  simp [results, Tryz.f78, go_sem, z0, z1, z2]
set_option maxHeartbeats 4000000 in
theorem oFaceR {w : World} {r : Nat} {l : By} (h : RS w r l) (hl0 : l.length ≤ 1073741824) :
    Calls Tryz.prog 78 #[.pointer (some ⟨r, 0, none⟩)] w (RdE r w (getFace l) (FaceW w.heap.size)) := by
  have cT : Tryz.prog.cellsOf 25 = 3 := by kernel_rfl
  have hrb : r < w.heap.size := h.lt
  have hrN : r < w.heap.size + 2 := by omega
  have hk0 : CapR (w.alloc (.cells #[.pointer (some ⟨r, 0, none⟩)] 66)) r w.heap.size := h.lk #[.pointer (some ⟨r, 0, none⟩)] 66
  have hA0 := (Below.refl w.heap.size w).alloc (Nat.le_refl _) (.cells #[.pointer (some ⟨r, 0, none⟩)] 66)
  have hR00 := h.fr hA0
  have hF00 : FrR r w (w.alloc (.cells #[.pointer (some ⟨r, 0, none⟩)] 66)) := Fr.new r nilV w _
  have hb0 := hR00.lk #[.string ⟨#[]⟩, .slice none 0 0, .slice none 0 0] 25
  have hR0 := hR00.fr ((Below.refl (w.alloc (.cells #[.pointer (some ⟨r, 0, none⟩)] 66)).heap.size (w.alloc (.cells #[.pointer (some ⟨r, 0, none⟩)] 66))).alloc (Nat.le_refl _) (.cells #[.string ⟨#[]⟩, .slice none 0 0, .slice none 0 0] 25))
  have hk1 := hk0.alloc (.cells #[.string ⟨#[]⟩, .slice none 0 0, .slice none 0 0] 25)
  have hF0 : FrR r w ((w.alloc (.cells #[.pointer (some ⟨r, 0, none⟩)] 66)).alloc (.cells #[.string ⟨#[]⟩, .slice none 0 0, .slice none 0 0] 25)) := hF00.alloc _
  have hN : ((w.alloc (.cells #[.pointer (some ⟨r, 0, none⟩)] 66)).alloc (.cells #[.string ⟨#[]⟩, .slice none 0 0, .slice none 0 0] 25)).heap.size = w.heap.size + 2 := by simp
  rw [World.size_alloc] at hb0
  obtain ⟨G, hG⟩ : ∃ G, G = getFace l := ⟨_, rfl⟩
  rw [← hG]
  replace hG : Hid (G = getFace l) := hG
  go_enter Tryz.func78, Tryz.ntmps78
  go_wp2
  refine wp_region_held_drew (S := fun W => CapR W r w.heap.size) (by kernel_rfl) (hk1.fr (Fr.refl _ _ _).drew) (fun hS => ?_)
  replace hb0 := hb0.fr (Fr.refl _ _ _).drew
  replace hR0 := hR0.fr (Below.refl _ _).drew
  replace hF0 := hF0.drew
  replace hN : ((w.alloc (.cells #[.pointer (some ⟨r, 0, none⟩)] 66)).alloc (.cells #[.string ⟨#[]⟩, .slice none 0 0, .slice none 0 0] 25)).drew.heap.size = w.heap.size + 2 := hN
  generalize ((w.alloc (.cells #[.pointer (some ⟨r, 0, none⟩)] 66)).alloc (.cells #[.string ⟨#[]⟩, .slice none 0 0, .slice none 0 0] 25)).drew = W at hb0 hR0 hF0 hS hN ⊢
  clear hk0 hk1 hR00 hF00 h hA0
  refine tkd (i := 0) (v := .pointer (some ⟨r, 0, none⟩)) rfl rfl (by kernel_rfl) (by kernel_rfl) (by kernel_rfl) (fun _ _ _ h => h) (Or.inl ⟨by rfl, fun wq hSw => by have m := hSw.cell 0 rfl; go_simp⟩) hS ?_
  simp only [List.setIfInBounds_toArray, List.set_cons_zero, List.set_cons_succ]
  refine tkd (i := 2) (v := .pointer (some ⟨r, 0, none⟩)) rfl rfl (by kernel_rfl) (by kernel_rfl) (by kernel_rfl) (fun _ _ _ h => h) (Or.inl ⟨by rfl, fun wq hSw => by have m := hSw.cell 0 rfl; go_simp⟩) hS ?_
  simp only [List.setIfInBounds_toArray, List.set_cons_zero, List.set_cons_succ]
  refine tkd (i := 3) (v := .func (.func 97) #[] #[.pointer (some ⟨w.heap.size, 0, none⟩)] ) rfl rfl (by kernel_rfl) (by kernel_rfl) (by kernel_rfl) (fun _ _ _ h => h) (Or.inl ⟨by rfl, fun wq hSw => by skip; go_simp⟩) hS ?_
  simp only [List.setIfInBounds_toArray, List.set_cons_zero, List.set_cons_succ]
  refine tkd (i := 5) (v := .pointer (some ⟨r, 0, none⟩)) rfl rfl (by kernel_rfl) (by kernel_rfl) (by kernel_rfl) (fun _ _ _ h => h) (Or.inl ⟨by rfl, fun wq hSw => by have m := hSw.cell 0 rfl; go_simp⟩) hS ?_
  simp only [List.setIfInBounds_toArray, List.set_cons_zero, List.set_cons_succ]
  refine tkd (i := 6) (v := .func (.func 100) #[] #[.pointer (some ⟨w.heap.size, 0, none⟩)] ) rfl rfl (by kernel_rfl) (by kernel_rfl) (by kernel_rfl) (fun _ _ _ h => h) (Or.inl ⟨by rfl, fun wq hSw => by skip; go_simp⟩) hS ?_
  simp only [List.setIfInBounds_toArray, List.set_cons_zero, List.set_cons_succ]
  refine wpAnyH_ready (rs := [1]) (by kernel_rfl) (by simp) ?_
  refine AllReadyH.cons rfl (fun K hK => ?_) AllReadyH.nil
  go_simp
  go_at_call 87
  refine (oTextR hR0).mono ?_
  rintro e w1 ⟨hF1, hE⟩
  cases hg1 : getText l with
  | none =>
    rw [hg1] at hE
    dsimp only at hE
    have HE : Hid (G = none) := by show _ = _; rw [hG.out]; unfold getFace; simp [hg1]
    subst hE
    go_wp2
    exact ⟨rfl, hF0.trans hF1, by rw [HE.out]⟩
  | some p1 =>
  obtain ⟨x1, l1⟩ := p1
  rw [hg1] at hE
  obtain ⟨v, rfl, hv, hR1⟩ := hE
  dsimp only at hv hR1
  have hl1 : l1.length ≤ 1073741824 := by have := eatsText _ _ _ hg1; omega
  have hN1 : w.heap.size + 2 ≤ W.heap.size := by omega
  have hM1 := hF1.size
  have hv2 : v = .string x1 := hv
  subst hv2
  clear hv
  go_wp2
  replace hS := hS.fr hF1
  replace hb0 := hb0.fr hF1
  replace hF0 := hF0.trans hF1
  replace hN : w.heap.size + 2 ≤ w1.heap.size := by omega
  clear hF1 hR0 hN1 hM1
  refine hK.out _ _ hS (fun _ => ?_)
  clear hK K
  refine wpAnyH_ready (rs := [4]) (by kernel_rfl) (by simp) ?_
  refine AllReadyH.cons rfl (fun K hK => ?_) AllReadyH.nil
  go_simp
  go_at_call 96
  refine (lVars hR1 hS hl1).mono ?_
  rintro e w2 ⟨hF2, hE⟩
  cases hg2 : getL getVar l1 with
  | none =>
    rw [hg2] at hE
    dsimp only at hE
    have HE : Hid (G = none) := by show _ = _; rw [hG.out]; unfold getFace; simp [hg1, hg2]
    subst hE
    go_wp2
    exact ⟨rfl, hF0.trans hF2, by rw [HE.out]⟩
  | some p2 =>
  obtain ⟨x2, l2⟩ := p2
  rw [hg2] at hE
  obtain ⟨v, rfl, hv, hR2⟩ := hE
  dsimp only at hv hR2
  have hl2 : l2.length ≤ 1073741824 := by have := (eats_l eatsVar.less) _ _ _ hg2; omega
  have hN2 : w.heap.size + 2 ≤ w1.heap.size := by omega
  have hM2 := hF2.size
  obtain ⟨ua2, uc2, rfl⟩ := hv.shape
  have q2 := varsSub (win_to (fun _ _ _ => rfl) hN2 (Nat.le_refl _)) (LV.vars hv (by have := getL_len eatsVar hg2; omega))
  clear hv
  go_wp2
  replace hS := hS.fr hF2
  replace hb0 := hb0.fr hF2
  replace hF0 := hF0.trans hF2
  replace hN : w.heap.size + 2 ≤ w2.heap.size := by omega
  clear hF2 hR1 hN2 hM2
  refine hK.out _ _ hS (fun _ => ?_)
  clear hK K
  refine wpAnyH_ready (rs := [7]) (by kernel_rfl) (by simp) ?_
  refine AllReadyH.cons rfl (fun K hK => ?_) AllReadyH.nil
  go_simp
  go_at_call 99
  refine (lProc hR2 hS hl2).mono ?_
  rintro e w3 ⟨hF3, hE⟩
  cases hg3 : getL getProc l2 with
  | none =>
    rw [hg3] at hE
    dsimp only at hE
    have HE : Hid (G = none) := by show _ = _; rw [hG.out]; unfold getFace; simp [hg1, hg2, hg3]
    subst hE
    go_wp2
    exact ⟨rfl, hF0.trans hF3, by rw [HE.out]⟩
  | some p3 =>
  obtain ⟨x3, l3⟩ := p3
  rw [hg3] at hE
  obtain ⟨v, rfl, hv, hR3⟩ := hE
  dsimp only at hv hR3
  have hl3 : l3.length ≤ 1073741824 := by have := (eats_l eatsProc.less) _ _ _ hg3; omega
  have hN3 : w.heap.size + 2 ≤ w2.heap.size := by omega
  have hM3 := hF3.size
  replace q2 := varsSub (win_fr hF3 hrN) q2
  obtain ⟨ua3, uc3, rfl⟩ := hv.shape
  have q3 := procsSub (win_to (fun _ _ _ => rfl) hN3 (Nat.le_refl _)) (LV.procs hv (by have := getL_len eatsProc hg3; omega))
  clear hv
  go_wp2
  replace hS := hS.fr hF3
  replace hb0 := hb0.fr hF3
  replace hF0 := hF0.trans hF3
  replace hN : w.heap.size + 2 ≤ w3.heap.size := by omega
  clear hF3 hR2 hN3 hM3
  refine hK.out _ _ hS (fun _ => ?_)
  clear hK K
  refine tkd (i := 8) (v := .agg #[.string x1, .slice ua2 x2.length uc2, .slice ua3 x3.length uc3] ) rfl rfl (by kernel_rfl) (by kernel_rfl) (by kernel_rfl) (fun _ _ _ h => h) (Or.inl ⟨by rfl, fun wq hSw => by skip; go_simp⟩) hS ?_
  simp only [List.setIfInBounds_toArray, List.set_cons_zero, List.set_cons_succ]
  refine wpAnyH_ready (rs := [9]) (by kernel_rfl) (by simp) ?_
  refine AllReadyH.cons rfl (fun K hK => ?_) AllReadyH.nil
  refine step_store_row (by rfl) 25 (.tmp 2) (.tmp 11) (by rfl) (w.heap.size + 1) #[.string x1, .slice ua2 x2.length uc2, .slice ua3 x3.length uc3] (by rfl) (by rfl) 25 _ hb0.box (by kernel_rfl) (by rfl) (by kernel_rfl) ?_
  have hbF := box_row (cs := #[.string x1, .slice ua2 x2.length uc2, .slice ua3 x3.length uc3]) hb0.box
  have hRF := hR3.low ((below_setRow w3 (w.heap.size + 1) #[.string x1, .slice ua2 x2.length uc2, .slice ua3 x3.length uc3]).mono (by omega))
  have hFF := hF0.row (b := (w.heap.size + 1)) (by omega) #[.string x1, .slice ua2 x2.length uc2, .slice ua3 x3.length uc3]
  have hSF : CapR (w3.setRow (w.heap.size + 1) #[.string x1, .slice ua2 x2.length uc2, .slice ua3 x3.length uc3]) r w.heap.size := ⟨(setRow_other w3 (w.heap.size + 1) w.heap.size #[.string x1, .slice ua2 x2.length uc2, .slice ua3 x3.length uc3] (by omega)).trans hS.box, hS.ne, hS.row⟩
  replace q2 := varsSub (win_row (b := (w.heap.size + 1)) (cs := #[.string x1, .slice ua2 x2.length uc2, .slice ua3 x3.length uc3]) (N := w.heap.size) (by omega) (by omega)) q2
  replace q3 := procsSub (win_row (b := (w.heap.size + 1)) (cs := #[.string x1, .slice ua2 x2.length uc2, .slice ua3 x3.length uc3]) (N := w.heap.size) (by omega) (by omega)) q3
  refine hK.out _ _ hSF (fun _ => ?_)
  clear hK K
  refine wpAnyH_done (by kernel_rfl) ?_ _
  have HE : Hid (G = some (⟨x1, x2, x3⟩, l3)) := by show _ = _; rw [hG.out]; unfold getFace; simp [hg1, hg2, hg3]
  clear hb0 hS hF0 hR3 hN
  generalize w3.setRow (w.heap.size + 1) #[.string x1, .slice ua2 x2.length uc2, .slice ua3 x3.length uc3] = WF at *
  go_wp2
  refine bodyPost_ret (v := .agg #[.string x1, .slice ua2 x2.length uc2, .slice ua3 x3.length uc3]) (res_oFaceR _ _ hbF cT) rfl ?_
  refine ⟨hFF, ?_⟩
  rw [HE.out]
  exact ⟨_, rfl, ⟨_, _, rfl, q2, q3⟩, hRF⟩
theorem set3 {w : World} {B : Nat} {T : TypeId} {o0 o1 o2 x0 x1 x2 : Value} (h : BoxC w B #[o0, o1, o2] T) : ((w.setCell ⟨B, 0, none⟩ x0).setCell ⟨B, 1, none⟩ x1).setCell ⟨B, 2, none⟩ x2 = w.setRow B #[x0, x1, x2] := by
  rw [setCell_eq_setRow w B 0 _ T (0, 0) x0 h, setCell_eq_setRow _ B 1 _ T (0, 0) x1 (setRow_heap w B _ _ T (0, 0) h), setRow_setRow, setCell_eq_setRow _ B 2 _ T (0, 0) x2 (setRow_heap w B _ _ T (0, 0) h), setRow_setRow]
  simp
theorem res_gFace {W : World} {a0 y0 y1 y2 : Value} (tl : List Value) (B : Nat) (h : BoxC W B #[y0, y1, y2] 25) (c : Tryz.prog.cellsOf 25 = 3) : (results Tryz.f80 (List.toArray (a0 :: .pointer (some ⟨B, 0, none⟩) :: tl))).run Tryz.prog W = .ok (.agg #[y0, y1, y2]) W := by
  have z0 := h.cell 0 rfl
  have z1 := h.cell 1 rfl
  have z2 := h.cell 2 rfl
  simp [results, Tryz.f80, go_sem, z0, z1, z2]
set_option maxHeartbeats 1000000 in
theorem gFace {w : World} {r c : Nat} {l : By} (h : RS w r l) (hk : CapR w r c) (hl0 : l.length ≤ 1073741824) :
    Calls Tryz.prog 80 #[.pointer (some ⟨c, 0, none⟩)] w (RdE r w (getFace l) (FaceW w.heap.size)) := by
  have c3 : Tryz.prog.cellsOf 25 = 3 := by kernel_rfl
  have hA := (Below.refl w.heap.size w).alloc (Nat.le_refl _) (.cells #[.string ⟨#[]⟩, .slice none 0 0, .slice none 0 0] 25)
  have hb0 := h.lk #[.string ⟨#[]⟩, .slice none 0 0, .slice none 0 0] 25
  have hk0 := hk.alloc (.cells #[.string ⟨#[]⟩, .slice none 0 0, .slice none 0 0] 25)
  have hF0 : FrR r w (w.alloc (.cells #[.string ⟨#[]⟩, .slice none 0 0, .slice none 0 0] 25)) := Fr.new r nilV w _
  have hC := oFaceR (h.fr hA) hl0
  have hrb := h.lt
  have m0 := hk0.cell 0 rfl
  rw [World.size_alloc] at hC
  cases hg : getFace l with
  | none =>
    rw [hg] at hC
    go_enter Tryz.func80, Tryz.ntmps80
    go_wp2_with (fail)
    refine hC.mono ?_
    rintro e w2 ⟨hF, hE⟩
    dsimp only at hE
    subst hE
    go_wp2
    exact ⟨rfl, hF0.trans hF, rfl⟩
  | some p =>
    obtain ⟨x, l2⟩ := p
    rw [hg] at hC
    go_enter Tryz.func80, Tryz.ntmps80
    go_wp2_with (fail)
    refine hC.mono ?_
    rintro e w2 ⟨hF, v, rfl, hv, hR⟩
    dsimp only at hv hR
    obtain ⟨u, z, rfl, qa, qb⟩ := hv
    obtain ⟨ua, uc, rfl⟩ : ∃ a c, u = .slice a x.vars.length c := by obtain ⟨a, c, e, _⟩ := qa; exact ⟨a, c, e⟩
    obtain ⟨za, zc, rfl⟩ : ∃ a c, z = .slice a x.procs.length c := by obtain ⟨a, c, e, _⟩ := qb; exact ⟨a, c, e⟩
    replace hb0 := hb0.fr hF
    replace hF0 := hF0.trans hF
    have hbF := box_row (cs := #[.string x.module, .slice ua x.vars.length uc, .slice za x.procs.length zc]) hb0.box
    have hRF := hR.low ((below_setRow w2 w.heap.size #[.string x.module, .slice ua x.vars.length uc, .slice za x.procs.length zc]).mono (by omega))
    have hFF := hF0.row (b := w.heap.size) (Nat.le_refl _) #[.string x.module, .slice ua x.vars.length uc, .slice za x.procs.length zc]
    replace qa := varsSub (win_row (b := w.heap.size) (cs := #[.string x.module, .slice ua x.vars.length uc, .slice za x.procs.length zc]) (N := w.heap.size) (by omega) (by omega)) qa
    replace qb := procsSub (win_row (b := w.heap.size) (cs := #[.string x.module, .slice ua x.vars.length uc, .slice za x.procs.length zc]) (N := w.heap.size) (by omega) (by omega)) qb
    unfold faceV
    have hsz := hF0.size
    have z0 := hb0.cell 0 rfl
    have z1 := hb0.cell 1 rfl
    have z2 := hb0.cell 2 rfl
    have f0 := hb0.box.fz 0
    have f1 := hb0.box.fz 1
    have f2 := hb0.box.fz 2
    have h3 := set3 (x0 := .string x.module) (x1 := .slice ua x.vars.length uc) (x2 := .slice za x.procs.length zc) hb0.box
    clear hF0 hR hb0
    go_wp2
    generalize w2.setRow w.heap.size #[.string x.module, .slice ua x.vars.length uc, .slice za x.procs.length zc] = WF at *
    refine bodyPost_ret (v := .agg #[.string x.module, .slice ua x.vars.length uc, .slice za x.procs.length zc]) (res_gFace _ _ hbF c3) rfl ?_
    exact ⟨hFF, _, rfl, ⟨_, _, rfl, qa, qb⟩, hRF⟩
end Go.Proofs.YthfeojjfehbgjaaGreatDoor.obj
