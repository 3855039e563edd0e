/- What the reader's closure for a procedure answers: a contract. (Written by mkrdr.py: edit that.) -/
import Derived.Test.YthfeojjfehbgjaaGreatDoorOGObjLst
namespace Go.Proofs.YthfeojjfehbgjaaGreatDoor.obj
open Go.RowKit
open Go.Proofs.YthfeojjfehbgjaaGreatDoor.mac (BoxC grown_of_below Ins)
open Go.Proofs.YthfeojjfehbgjaaGreatDoor.ord (tkd putd)
open Go.Proofs.YthfeojjfehbgjaaGreatDoor.face (VarD ProcD FaceD IntsIn VarsIn ProcsIn varV procV)
set_option linter.unusedVariables false
set_option linter.unusedSimpArgs false
set_option maxRecDepth 100000
theorem win_fr {w w' : World} {r N : Nat} (hF : FrR r w w') (hr : r < N) : Sub (win w N w.heap.size) (win w' N w'.heap.size) :=
  win_to (fun k h1 h2 => hF.block k h2 (by omega) (by simp [nilV, Value.ownBlock])) (Nat.le_refl _) hF.size
theorem win_row {w : World} {b N1 N : Nat} {cs : Array Value} (h1 : b < N1) (h2 : N ≤ N1) : Sub (win w N1 w.heap.size) (win (w.setRow b cs) N (w.setRow b cs).heap.size) :=
  win_to (fun k h3 h4 => setRow_other w b k cs (by omega)) h2 (by simp)
theorem LV.shape {α : Type} {It : Lies α} {T : TypeId} {k N : Nat} {l : List α} {v : Value} {w : World} (h : LV It T k N l v w) : ∃ a c, v = .slice a l.length c := by
  obtain ⟨zs, rfl, h⟩ := h
  obtain ⟨a, c, e⟩ := own_shape h.row
  exact ⟨a, c, by rw [e, List.length_map]⟩
def ProcW (N : Nat) (x : ProcD) (v : Value) (w : World) : Prop := ∃ u, v = procV x u ∧ IntsIn (win w N w.heap.size) u x.params
theorem res_gProc {W : World} {a0 y0 y1 y2 y3 y4 y5 : Value} (tl : List Value) (B : Nat) (h : BoxC W B #[y0, y1, y2, y3, y4, y5] 102) (c : Tryz.prog.cellsOf 102 = 6) : (results Tryz.f100 (List.toArray (a0 :: .pointer (some ⟨B, 0, none⟩) :: tl))).run Tryz.prog W = .ok (.agg #[y0, y1, y2, y3, y4, y5]) W := by
  have z0 := h.cell 0 rfl
  have z1 := h.cell 1 rfl
  have z2 := h.cell 2 rfl
  have z3 := h.cell 3 rfl
  have z4 := h.cell 4 rfl
  have z5 := h.cell 5 rfl
  simp [results, Tryz.f100, go_sem, z0, z1, z2, z3, z4, z5]
set_option maxHeartbeats 4000000 in
theorem gProc {w : World} {r c : Nat} {l : By} (h : RS w r l) (hk : CapR w r c) (hl0 : l.length ≤ 1073741824) :
    Calls Tryz.prog 100 #[.pointer (some ⟨c, 0, none⟩)] w (RdE r w (getProc l) (ProcW w.heap.size)) := by
  have cT : Tryz.prog.cellsOf 102 = 6 := by kernel_rfl
  have hrb : r < w.heap.size := h.lt
  have hrN : r < w.heap.size + 1 := by omega
  have hcb : c < w.heap.size := hk.box.lt
  have hk0 := hk
  have hR00 := h
  have hF00 : FrR r w w := Fr.refl _ _ _
  have hb0 := hR00.lk #[.string ⟨#[]⟩, .bool false, .slice none 0 0, .int .i64 0, .bool false, .int .i64 0] 102
  have hR0 := hR00.fr ((Below.refl w.heap.size w).alloc (Nat.le_refl _) (.cells #[.string ⟨#[]⟩, .bool false, .slice none 0 0, .int .i64 0, .bool false, .int .i64 0] 102))
  have hk1 := hk0.alloc (.cells #[.string ⟨#[]⟩, .bool false, .slice none 0 0, .int .i64 0, .bool false, .int .i64 0] 102)
  have hF0 : FrR r w (w.alloc (.cells #[.string ⟨#[]⟩, .bool false, .slice none 0 0, .int .i64 0, .bool false, .int .i64 0] 102)) := hF00.alloc _
  have hN : (w.alloc (.cells #[.string ⟨#[]⟩, .bool false, .slice none 0 0, .int .i64 0, .bool false, .int .i64 0] 102)).heap.size = w.heap.size + 1 := by simp
  obtain ⟨G, hG⟩ : ∃ G, G = getProc l := ⟨_, rfl⟩
  rw [← hG]
  replace hG : Hid (G = getProc l) := hG
  go_enter Tryz.func100, Tryz.ntmps100
  go_wp2
  refine wp_region_held_drew (S := fun W => CapR W r c) (by kernel_rfl) (hk1.fr (Fr.refl _ _ _).drew) (fun hS => ?_)
  replace hb0 := hb0.fr (Fr.refl _ _ _).drew
  replace hR0 := hR0.fr (Below.refl _ _).drew
  replace hF0 := hF0.drew
  replace hN : (w.alloc (.cells #[.string ⟨#[]⟩, .bool false, .slice none 0 0, .int .i64 0, .bool false, .int .i64 0] 102)).drew.heap.size = w.heap.size + 1 := hN
  generalize (w.alloc (.cells #[.string ⟨#[]⟩, .bool false, .slice none 0 0, .int .i64 0, .bool false, .int .i64 0] 102)).drew = W at hb0 hR0 hF0 hS hN ⊢
  clear hk0 hk1 hR00 hF00 h hk
  refine tkd (i := 0) (v := .pointer (some ⟨r, 0, none⟩)) rfl rfl (by kernel_rfl) (by kernel_rfl) (by kernel_rfl) (fun _ _ _ h => h) (Or.inl ⟨by rfl, fun wq hSw => by have m := hSw.cell 0 rfl; go_simp⟩) hS ?_
  simp only [List.setIfInBounds_toArray, List.set_cons_zero, List.set_cons_succ]
  refine tkd (i := 2) (v := .pointer (some ⟨r, 0, none⟩)) rfl rfl (by kernel_rfl) (by kernel_rfl) (by kernel_rfl) (fun _ _ _ h => h) (Or.inl ⟨by rfl, fun wq hSw => by have m := hSw.cell 0 rfl; go_simp⟩) hS ?_
  simp only [List.setIfInBounds_toArray, List.set_cons_zero, List.set_cons_succ]
  refine tkd (i := 4) (v := .pointer (some ⟨r, 0, none⟩)) rfl rfl (by kernel_rfl) (by kernel_rfl) (by kernel_rfl) (fun _ _ _ h => h) (Or.inl ⟨by rfl, fun wq hSw => by have m := hSw.cell 0 rfl; go_simp⟩) hS ?_
  simp only [List.setIfInBounds_toArray, List.set_cons_zero, List.set_cons_succ]
  refine tkd (i := 5) (v := .func (.func 102) #[] #[.pointer (some ⟨c, 0, none⟩)] ) rfl rfl (by kernel_rfl) (by kernel_rfl) (by kernel_rfl) (fun _ _ _ h => h) (Or.inl ⟨by rfl, fun wq hSw => by skip; go_simp⟩) hS ?_
  simp only [List.setIfInBounds_toArray, List.set_cons_zero, List.set_cons_succ]
  refine tkd (i := 7) (v := .pointer (some ⟨r, 0, none⟩)) rfl rfl (by kernel_rfl) (by kernel_rfl) (by kernel_rfl) (fun _ _ _ h => h) (Or.inl ⟨by rfl, fun wq hSw => by have m := hSw.cell 0 rfl; go_simp⟩) hS ?_
  simp only [List.setIfInBounds_toArray, List.set_cons_zero, List.set_cons_succ]
  refine tkd (i := 9) (v := .pointer (some ⟨r, 0, none⟩)) rfl rfl (by kernel_rfl) (by kernel_rfl) (by kernel_rfl) (fun _ _ _ h => h) (Or.inl ⟨by rfl, fun wq hSw => by have m := hSw.cell 0 rfl; go_simp⟩) hS ?_
  simp only [List.setIfInBounds_toArray, List.set_cons_zero, List.set_cons_succ]
  refine tkd (i := 11) (v := .pointer (some ⟨r, 0, none⟩)) rfl rfl (by kernel_rfl) (by kernel_rfl) (by kernel_rfl) (fun _ _ _ h => h) (Or.inl ⟨by rfl, fun wq hSw => by have m := hSw.cell 0 rfl; go_simp⟩) hS ?_
  simp only [List.setIfInBounds_toArray, List.set_cons_zero, List.set_cons_succ]
  refine wpAnyH_ready (rs := [1]) (by kernel_rfl) (by simp) ?_
  refine AllReadyH.cons rfl (fun K hK => ?_) AllReadyH.nil
  go_simp
  go_at_call 87
  refine (oTextR hR0).mono ?_
  rintro e w1 ⟨hF1, hE⟩
  cases hg1 : getText l with
  | none =>
    rw [hg1] at hE
    dsimp only at hE
    have HE : Hid (G = none) := by show _ = _; rw [hG.out]; unfold getProc; simp [hg1]
    subst hE
    go_wp2
    exact ⟨rfl, hF0.trans hF1, by rw [HE.out]⟩
  | some p1 =>
  obtain ⟨x1, l1⟩ := p1
  rw [hg1] at hE
  obtain ⟨v, rfl, hv, hR1⟩ := hE
  dsimp only at hv hR1
  have hl1 : l1.length ≤ 1073741824 := by have := eatsText _ _ _ hg1; omega
  have hN1 : w.heap.size + 1 ≤ W.heap.size := by omega
  have hM1 := hF1.size
  have hv2 : v = .string x1 := hv
  subst hv2
  clear hv
  go_wp2
  replace hS := hS.fr hF1
  replace hb0 := hb0.fr hF1
  replace hF0 := hF0.trans hF1
  replace hN : w.heap.size + 1 ≤ w1.heap.size := by omega
  clear hF1 hR0 hN1 hM1
  refine hK.out _ _ hS (fun _ => ?_)
  clear hK K
  refine wpAnyH_ready (rs := [3]) (by kernel_rfl) (by simp) ?_
  refine AllReadyH.cons rfl (fun K hK => ?_) AllReadyH.nil
  go_simp
  go_at_call 98
  refine (oBoolR hR1).mono ?_
  rintro e w2 ⟨hF2, hE⟩
  cases hg2 : getBool l1 with
  | none =>
    rw [hg2] at hE
    dsimp only at hE
    have HE : Hid (G = none) := by show _ = _; rw [hG.out]; unfold getProc; simp [hg1, hg2]
    subst hE
    go_wp2
    exact ⟨rfl, hF0.trans hF2, by rw [HE.out]⟩
  | some p2 =>
  obtain ⟨x2, l2⟩ := p2
  rw [hg2] at hE
  obtain ⟨v, rfl, hv, hR2⟩ := hE
  dsimp only at hv hR2
  have hl2 : l2.length ≤ 1073741824 := by have := eatsBool _ _ _ hg2; omega
  have hN2 : w.heap.size + 1 ≤ w1.heap.size := by omega
  have hM2 := hF2.size
  have hv2 : v = .bool x2 := hv
  subst hv2
  clear hv
  go_wp2
  replace hS := hS.fr hF2
  replace hb0 := hb0.fr hF2
  replace hF0 := hF0.trans hF2
  replace hN : w.heap.size + 1 ≤ w2.heap.size := by omega
  clear hF2 hR1 hN2 hM2
  refine hK.out _ _ hS (fun _ => ?_)
  clear hK K
  refine wpAnyH_ready (rs := [6]) (by kernel_rfl) (by simp) ?_
  refine AllReadyH.cons rfl (fun K hK => ?_) AllReadyH.nil
  go_simp
  go_at_call 101
  refine (lInt hR2 hS hl2).mono ?_
  rintro e w3 ⟨hF3, hE⟩
  cases hg3 : getL getNum l2 with
  | none =>
    rw [hg3] at hE
    dsimp only at hE
    have HE : Hid (G = none) := by show _ = _; rw [hG.out]; unfold getProc; simp [hg1, hg2, hg3]
    subst hE
    go_wp2
    exact ⟨rfl, hF0.trans hF3, by rw [HE.out]⟩
  | some p3 =>
  obtain ⟨x3, l3⟩ := p3
  rw [hg3] at hE
  obtain ⟨v, rfl, hv, hR3⟩ := hE
  dsimp only at hv hR3
  have hl3 : l3.length ≤ 1073741824 := by have := (eats_l eatsNum.less) _ _ _ hg3; omega
  have hN3 : w.heap.size + 1 ≤ w2.heap.size := by omega
  have hM3 := hF3.size
  obtain ⟨ua3, uc3, rfl⟩ := hv.shape
  have q3 := intsSub (win_to (fun _ _ _ => rfl) hN3 (Nat.le_refl _)) (LV.ints hv (by have := getL_len eatsNum hg3; omega))
  clear hv
  go_wp2
  replace hS := hS.fr hF3
  replace hb0 := hb0.fr hF3
  replace hF0 := hF0.trans hF3
  replace hN : w.heap.size + 1 ≤ w3.heap.size := by omega
  clear hF3 hR2 hN3 hM3
  refine hK.out _ _ hS (fun _ => ?_)
  clear hK K
  refine wpAnyH_ready (rs := [8]) (by kernel_rfl) (by simp) ?_
  refine AllReadyH.cons rfl (fun K hK => ?_) AllReadyH.nil
  go_simp
  go_at_call 83
  refine (oInt hR3).mono ?_
  rintro e w4 ⟨hF4, hE⟩
  cases hg4 : getNum l3 with
  | none =>
    rw [hg4] at hE
    dsimp only at hE
    have HE : Hid (G = none) := by show _ = _; rw [hG.out]; unfold getProc; simp [hg1, hg2, hg3, hg4]
    subst hE
    go_wp2
    exact ⟨rfl, hF0.trans hF4, by rw [HE.out]⟩
  | some p4 =>
  obtain ⟨x4, l4⟩ := p4
  rw [hg4] at hE
  obtain ⟨v, rfl, hv, hR4⟩ := hE
  dsimp only at hv hR4
  have hl4 : l4.length ≤ 1073741824 := by have := eatsNum _ _ _ hg4; omega
  have hN4 : w.heap.size + 1 ≤ w3.heap.size := by omega
  have hM4 := hF4.size
  replace q3 := intsSub (win_fr hF4 hrN) q3
  have hv2 : v = .int .i64 x4 := hv
  subst hv2
  clear hv
  go_wp2
  replace hS := hS.fr hF4
  replace hb0 := hb0.fr hF4
  replace hF0 := hF0.trans hF4
  replace hN : w.heap.size + 1 ≤ w4.heap.size := by omega
  clear hF4 hR3 hN4 hM4
  refine hK.out _ _ hS (fun _ => ?_)
  clear hK K
  refine wpAnyH_ready (rs := [10]) (by kernel_rfl) (by simp) ?_
  refine AllReadyH.cons rfl (fun K hK => ?_) AllReadyH.nil
  go_simp
  go_at_call 98
  refine (oBoolR hR4).mono ?_
  rintro e w5 ⟨hF5, hE⟩
  cases hg5 : getBool l4 with
  | none =>
    rw [hg5] at hE
    dsimp only at hE
    have HE : Hid (G = none) := by show _ = _; rw [hG.out]; unfold getProc; simp [hg1, hg2, hg3, hg4, hg5]
    subst hE
    go_wp2
    exact ⟨rfl, hF0.trans hF5, by rw [HE.out]⟩
  | some p5 =>
  obtain ⟨x5, l5⟩ := p5
  rw [hg5] at hE
  obtain ⟨v, rfl, hv, hR5⟩ := hE
  dsimp only at hv hR5
  have hl5 : l5.length ≤ 1073741824 := by have := eatsBool _ _ _ hg5; omega
  have hN5 : w.heap.size + 1 ≤ w4.heap.size := by omega
  have hM5 := hF5.size
  replace q3 := intsSub (win_fr hF5 hrN) q3
  have hv2 : v = .bool x5 := hv
  subst hv2
  clear hv
  go_wp2
  replace hS := hS.fr hF5
  replace hb0 := hb0.fr hF5
  replace hF0 := hF0.trans hF5
  replace hN : w.heap.size + 1 ≤ w5.heap.size := by omega
  clear hF5 hR4 hN5 hM5
  refine hK.out _ _ hS (fun _ => ?_)
  clear hK K
  refine wpAnyH_ready (rs := [12]) (by kernel_rfl) (by simp) ?_
  refine AllReadyH.cons rfl (fun K hK => ?_) AllReadyH.nil
  go_simp
  go_at_call 83
  refine (oInt hR5).mono ?_
  rintro e w6 ⟨hF6, hE⟩
  cases hg6 : getNum l5 with
  | none =>
    rw [hg6] at hE
    dsimp only at hE
    have HE : Hid (G = none) := by show _ = _; rw [hG.out]; unfold getProc; simp [hg1, hg2, hg3, hg4, hg5, hg6]
    subst hE
    go_wp2
    exact ⟨rfl, hF0.trans hF6, by rw [HE.out]⟩
  | some p6 =>
  obtain ⟨x6, l6⟩ := p6
  rw [hg6] at hE
  obtain ⟨v, rfl, hv, hR6⟩ := hE
  dsimp only at hv hR6
  have hl6 : l6.length ≤ 1073741824 := by have := eatsNum _ _ _ hg6; omega
  have hN6 : w.heap.size + 1 ≤ w5.heap.size := by omega
  have hM6 := hF6.size
  replace q3 := intsSub (win_fr hF6 hrN) q3
  have hv2 : v = .int .i64 x6 := hv
  subst hv2
  clear hv
  go_wp2
  replace hS := hS.fr hF6
  replace hb0 := hb0.fr hF6
  replace hF0 := hF0.trans hF6
  replace hN : w.heap.size + 1 ≤ w6.heap.size := by omega
  clear hF6 hR5 hN6 hM6
  refine hK.out _ _ hS (fun _ => ?_)
  clear hK K
  refine tkd (i := 13) (v := .agg #[.string x1, .bool x2, .slice ua3 x3.length uc3, .int .i64 x4, .bool x5, .int .i64 x6] ) rfl rfl (by kernel_rfl) (by kernel_rfl) (by kernel_rfl) (fun _ _ _ h => h) (Or.inl ⟨by rfl, fun wq hSw => by skip; go_simp⟩) hS ?_
  simp only [List.setIfInBounds_toArray, List.set_cons_zero, List.set_cons_succ]
  refine wpAnyH_ready (rs := [14]) (by kernel_rfl) (by simp) ?_
  refine AllReadyH.cons rfl (fun K hK => ?_) AllReadyH.nil
  refine step_store_row (by rfl) 102 (.tmp 1) (.tmp 15) (by rfl) w.heap.size #[.string x1, .bool x2, .slice ua3 x3.length uc3, .int .i64 x4, .bool x5, .int .i64 x6] (by rfl) (by rfl) 102 _ hb0.box (by kernel_rfl) (by rfl) (by kernel_rfl) ?_
  have hbF := box_row (cs := #[.string x1, .bool x2, .slice ua3 x3.length uc3, .int .i64 x4, .bool x5, .int .i64 x6]) hb0.box
  have hRF := hR6.low ((below_setRow w6 w.heap.size #[.string x1, .bool x2, .slice ua3 x3.length uc3, .int .i64 x4, .bool x5, .int .i64 x6]).mono (by omega))
  have hFF := hF0.row (b := w.heap.size) (by omega) #[.string x1, .bool x2, .slice ua3 x3.length uc3, .int .i64 x4, .bool x5, .int .i64 x6]
  have hSF : CapR (w6.setRow w.heap.size #[.string x1, .bool x2, .slice ua3 x3.length uc3, .int .i64 x4, .bool x5, .int .i64 x6]) r c := ⟨(setRow_other w6 w.heap.size c #[.string x1, .bool x2, .slice ua3 x3.length uc3, .int .i64 x4, .bool x5, .int .i64 x6] (by omega)).trans hS.box, hS.ne, hS.row⟩
  replace q3 := intsSub (win_row (b := w.heap.size) (cs := #[.string x1, .bool x2, .slice ua3 x3.length uc3, .int .i64 x4, .bool x5, .int .i64 x6]) (N := w.heap.size) (by omega) (by omega)) q3
  refine hK.out _ _ hSF (fun _ => ?_)
  clear hK K
  refine wpAnyH_done (by kernel_rfl) ?_ _
  have HE : Hid (G = some (⟨x1, x2, x3, x4, x5, x6⟩, l6)) := by show _ = _; rw [hG.out]; unfold getProc; simp [hg1, hg2, hg3, hg4, hg5, hg6]
  clear hb0 hS hF0 hR6 hN
  generalize w6.setRow w.heap.size #[.string x1, .bool x2, .slice ua3 x3.length uc3, .int .i64 x4, .bool x5, .int .i64 x6] = WF at *
  go_wp2
  refine bodyPost_ret (v := .agg #[.string x1, .bool x2, .slice ua3 x3.length uc3, .int .i64 x4, .bool x5, .int .i64 x6]) (res_gProc _ _ hbF cT) rfl ?_
  refine ⟨hFF, ?_⟩
  rw [HE.out]
  exact ⟨_, rfl, ⟨_, rfl, q3⟩, hRF⟩
end Go.Proofs.YthfeojjfehbgjaaGreatDoor.obj
