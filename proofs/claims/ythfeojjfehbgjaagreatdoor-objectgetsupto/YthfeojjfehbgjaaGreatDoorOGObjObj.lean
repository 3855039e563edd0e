/- What the reader's object answers: a contract. (Written by mkrdr.py: edit that.) -/
import Derived.Test.YthfeojjfehbgjaaGreatDoorOGObjLstF
namespace Go.Proofs.YthfeojjfehbgjaaGreatDoor.obj
open Go.RowKit
open Go.Proofs.YthfeojjfehbgjaaGreatDoor.mac (BoxC grown_of_below Ins)
open Go.Proofs.YthfeojjfehbgjaaGreatDoor.ord (tkd putd)
open Go.Proofs.YthfeojjfehbgjaaGreatDoor.face (VarD ProcD FaceD IntsIn VarsIn ProcsIn varV procV)
set_option linter.unusedVariables false
set_option linter.unusedSimpArgs false
set_option maxRecDepth 100000
theorem facesQ {w w' : World} {v : Value} {l : List FaceD} (hs : Sub w w') (h : l.length ≤ 1048576 → FacesIn w v l) : l.length ≤ 1048576 → FacesIn w' v l := fun hl => facesSub hs (h hl)
theorem codeQ {w w' : World} {v : Value} {l : List Ins} (hs : Sub w w') (h : l.length ≤ 1048576 → CodeIn w v l) : l.length ≤ 1048576 → CodeIn w' v l := fun hl => codeSub hs (h hl)
theorem relsQ {w w' : World} {v : Value} {l : List RelD} (hs : Sub w w') (h : l.length ≤ 1048576 → RelsIn w v l) : l.length ≤ 1048576 → RelsIn w' v l := fun hl => relsSub hs (h hl)
theorem plcsQ {w w' : World} {v : Value} {l : List PlcD} (hs : Sub w w') (h : l.length ≤ 1048576 → PlcsIn w v l) : l.length ≤ 1048576 → PlcsIn w' v l := fun hl => plcsSub hs (h hl)
/-- an object that was read, if its lists are not too long -/
structure ObjQ (w : World) (x : Vals) (o : ObjD) : Prop where
  vars : VarsIn w x.vv o.face.vars
  procs : ProcsIn w x.pv o.face.procs
  imps : o.imports.length ≤ 1048576 → FacesIn w x.iv o.imports
  code : o.code.length ≤ 1048576 → CodeIn w x.cv o.code
  rels : o.relocs.length ≤ 1048576 → RelsIn w x.rv o.relocs
  q1 : o.procs.length ≤ 1048576 → PlcsIn w x.p1 o.procs
  q2 : o.lows.length ≤ 1048576 → PlcsIn w x.p2 o.lows
  q3 : o.highs.length ≤ 1048576 → PlcsIn w x.p3 o.highs
structure Small (o : ObjD) : Prop where
  imps : o.imports.length ≤ 1048576
  code : o.code.length ≤ 1048576
  rels : o.relocs.length ≤ 1048576
  q1 : o.procs.length ≤ 1048576
  q2 : o.lows.length ≤ 1048576
  q3 : o.highs.length ≤ 1048576
theorem ObjQ.at {w w' : World} {x : Vals} {o : ObjD} (h : ObjQ w x o) (hs : Sub w w') (k : Small o) : ObjAt w' x o :=
  ⟨varsSub hs h.vars, procsSub hs h.procs, facesSub hs (h.imps k.imps), codeSub hs (h.code k.code), relsSub hs (h.rels k.rels), plcsSub hs (h.q1 k.q1), plcsSub hs (h.q2 k.q2), plcsSub hs (h.q3 k.q3)⟩
def ShV (v : Value) (n : Nat) : Prop := ∃ a c, v = .slice a n c
structure Shapes (x : Vals) (o : ObjD) : Prop where
  s1 : ShV x.vv o.face.vars.length
  s2 : ShV x.pv o.face.procs.length
  s3 : ShV x.iv o.imports.length
  s4 : ShV x.cv o.code.length
  s5 : ShV x.rv o.relocs.length
  s6 : ShV x.p1 o.procs.length
  s7 : ShV x.p2 o.lows.length
  s8 : ShV x.p3 o.highs.length
def ObjW (N : Nat) (o : ObjD) (v : Value) (w : World) : Prop := ∃ x, v = objV o x ∧ ObjQ (win w N w.heap.size) x o ∧ Shapes x o
set_option maxHeartbeats 1000000 in
theorem oPlaces {w : World} {r : Nat} {l : By} (h : RS w r l) (hl0 : l.length ≤ 1073741824) :
    Calls Tryz.prog 88 #[.pointer (some ⟨r, 0, none⟩)] w (RdE r w (getL getPlc l) (LV itPlc 85 2 w.heap.size)) := by
  have hk0 : CapR (w.alloc (.cells #[.pointer (some ⟨r, 0, none⟩)] 66)) r w.heap.size := h.lk #[.pointer (some ⟨r, 0, none⟩)] 66
  have hA0 := (Below.refl w.heap.size w).alloc (Nat.le_refl _) (.cells #[.pointer (some ⟨r, 0, none⟩)] 66)
  have hF0 : FrR r w (w.alloc (.cells #[.pointer (some ⟨r, 0, none⟩)] 66)) := Fr.new r nilV w _
  have hC := lPlc (h.fr hA0) hk0 hl0
  have m0 := hk0.cell 0 rfl
  cases hg : getL getPlc l with
  | none =>
    rw [hg] at hC
    go_enter Tryz.func88, Tryz.ntmps88
    go_wp2_with (fail)
    refine hC.mono ?_
    rintro e w2 ⟨hF, hE⟩
    dsimp only at hE
    subst hE
    go_wp2
    exact ⟨rfl, hF0.trans hF, rfl⟩
  | some p =>
    obtain ⟨x, l2⟩ := p
    rw [hg] at hC
    go_enter Tryz.func88, Tryz.ntmps88
    go_wp2_with (fail)
    refine hC.mono ?_
    rintro e w2 ⟨hF, v, rfl, hv, hR⟩
    dsimp only at hv hR
    obtain ⟨a, c, rfl⟩ := hv.shape
    go_wp2
    go_ret
    obtain ⟨zs, hz, hp⟩ := hv
    refine ⟨hF0.trans hF, _, rfl, ⟨zs, hz, ⟨?_, fun z hz => ?_⟩⟩, hR⟩
    · obtain ⟨h1, h2⟩ := hp.row
      refine ⟨h1, ?_⟩
      rcases h2 with h2 | ⟨g, cap, cur, e1, e2, e3⟩
      · exact .inl h2
      · exact .inr ⟨g, cap, cur, e1, by simp at e2; omega, e3⟩
    · obtain ⟨h1, n, m, h2, h3, h4, h5⟩ := hp.one z hz
      exact ⟨h1, n, m, by simp at h2; omega, h3, h4, h5⟩
theorem res_oObject2 {W : World} {a0 a1 y0 y1 y2 y3 y4 y5 y6 y7 y8 y9 y10 y11 y12 : Value} (tl : List Value) (B : Nat) (h : BoxC W B #[y0, y1, y2, y3, y4, y5, y6, y7, y8, y9, y10, y11, y12] 31) (c : Tryz.prog.cellsOf 31 = 13) : (results Tryz.f60 (List.toArray (a0 :: a1 :: .pointer (some ⟨B, 0, none⟩) :: tl))).run Tryz.prog W = .ok (.agg #[y0, y1, y2, y3, y4, y5, y6, y7, y8, y9, y10, y11, y12]) W := by
  have z0 := h.cell 0 rfl
  have z1 := h.cell 1 rfl
  have z2 := h.cell 2 rfl
  have z3 := h.cell 3 rfl
  have z4 := h.cell 4 rfl
  have z5 := h.cell 5 rfl
  have z6 := h.cell 6 rfl
  have z7 := h.cell 7 rfl
  have z8 := h.cell 8 rfl
  have z9 := h.cell 9 rfl
  have z10 := h.cell 10 rfl
  have z11 := h.cell 11 rfl
  have z12 := h.cell 12 rfl
  simp [results, Tryz.f60, go_sem, z0, z1, z2, z3, z4, z5, z6, z7, z8, z9, z10, z11, z12]
set_option maxHeartbeats 4000000 in
theorem oObject2 {w : World} {r : Nat} {l : By} (h : RS w r l) (hl0 : l.length ≤ 1073741824) :
    Calls Tryz.prog 60 #[.pointer (some ⟨r, 0, none⟩)] w (RdE r w (getO l) (ObjW w.heap.size)) := by
  have cT : Tryz.prog.cellsOf 31 = 13 := by kernel_rfl
  have hrb : r < w.heap.size := h.lt
  have hrN : r < w.heap.size + 2 := by omega
  have hk0 : CapR (w.alloc (.cells #[.pointer (some ⟨r, 0, none⟩)] 66)) r w.heap.size := h.lk #[.pointer (some ⟨r, 0, none⟩)] 66
  have hA0 := (Below.refl w.heap.size w).alloc (Nat.le_refl _) (.cells #[.pointer (some ⟨r, 0, none⟩)] 66)
  have hR00 := h.fr hA0
  have hF00 : FrR r w (w.alloc (.cells #[.pointer (some ⟨r, 0, none⟩)] 66)) := Fr.new r nilV w _
  have hb0 := hR00.lk #[.string ⟨#[]⟩, .slice none 0 0, .slice none 0 0, .slice none 0 0, .slice none 0 0, .slice none 0 0, .slice none 0 0, .slice none 0 0, .slice none 0 0, .int .i64 0, .int .i64 0, .int .i64 0, .int .i64 0] 31
  have hR0 := hR00.fr ((Below.refl (w.alloc (.cells #[.pointer (some ⟨r, 0, none⟩)] 66)).heap.size (w.alloc (.cells #[.pointer (some ⟨r, 0, none⟩)] 66))).alloc (Nat.le_refl _) (.cells #[.string ⟨#[]⟩, .slice none 0 0, .slice none 0 0, .slice none 0 0, .slice none 0 0, .slice none 0 0, .slice none 0 0, .slice none 0 0, .slice none 0 0, .int .i64 0, .int .i64 0, .int .i64 0, .int .i64 0] 31))
  have hk1 := hk0.alloc (.cells #[.string ⟨#[]⟩, .slice none 0 0, .slice none 0 0, .slice none 0 0, .slice none 0 0, .slice none 0 0, .slice none 0 0, .slice none 0 0, .slice none 0 0, .int .i64 0, .int .i64 0, .int .i64 0, .int .i64 0] 31)
  have hF0 : FrR r w ((w.alloc (.cells #[.pointer (some ⟨r, 0, none⟩)] 66)).alloc (.cells #[.string ⟨#[]⟩, .slice none 0 0, .slice none 0 0, .slice none 0 0, .slice none 0 0, .slice none 0 0, .slice none 0 0, .slice none 0 0, .slice none 0 0, .int .i64 0, .int .i64 0, .int .i64 0, .int .i64 0] 31)) := hF00.alloc _
  have hN : ((w.alloc (.cells #[.pointer (some ⟨r, 0, none⟩)] 66)).alloc (.cells #[.string ⟨#[]⟩, .slice none 0 0, .slice none 0 0, .slice none 0 0, .slice none 0 0, .slice none 0 0, .slice none 0 0, .slice none 0 0, .slice none 0 0, .int .i64 0, .int .i64 0, .int .i64 0, .int .i64 0] 31)).heap.size = w.heap.size + 2 := by simp
  rw [World.size_alloc] at hb0
  obtain ⟨G, hG⟩ : ∃ G, G = getO l := ⟨_, rfl⟩
  rw [← hG]
  replace hG : Hid (G = getO l) := hG
  go_enter Tryz.func60, Tryz.ntmps60
  go_wp2
  refine wp_region_held_drew (S := fun W => CapR W r w.heap.size) (by kernel_rfl) (hk1.fr (Fr.refl _ _ _).drew) (fun hS => ?_)
  replace hb0 := hb0.fr (Fr.refl _ _ _).drew
  replace hR0 := hR0.fr (Below.refl _ _).drew
  replace hF0 := hF0.drew
  replace hN : ((w.alloc (.cells #[.pointer (some ⟨r, 0, none⟩)] 66)).alloc (.cells #[.string ⟨#[]⟩, .slice none 0 0, .slice none 0 0, .slice none 0 0, .slice none 0 0, .slice none 0 0, .slice none 0 0, .slice none 0 0, .slice none 0 0, .int .i64 0, .int .i64 0, .int .i64 0, .int .i64 0] 31)).drew.heap.size = w.heap.size + 2 := hN
  generalize ((w.alloc (.cells #[.pointer (some ⟨r, 0, none⟩)] 66)).alloc (.cells #[.string ⟨#[]⟩, .slice none 0 0, .slice none 0 0, .slice none 0 0, .slice none 0 0, .slice none 0 0, .slice none 0 0, .slice none 0 0, .slice none 0 0, .int .i64 0, .int .i64 0, .int .i64 0, .int .i64 0] 31)).drew = W at hb0 hR0 hF0 hS hN ⊢
  clear hk0 hk1 hR00 hF00 h hA0
  refine tkd (i := 0) (v := .pointer (some ⟨r, 0, none⟩)) rfl rfl (by kernel_rfl) (by kernel_rfl) (by kernel_rfl) (fun _ _ _ h => h) (Or.inl ⟨by rfl, fun wq hSw => by have m := hSw.cell 0 rfl; go_simp⟩) hS ?_
  simp only [List.setIfInBounds_toArray, List.set_cons_zero, List.set_cons_succ]
  refine tkd (i := 2) (v := .pointer (some ⟨r, 0, none⟩)) rfl rfl (by kernel_rfl) (by kernel_rfl) (by kernel_rfl) (fun _ _ _ h => h) (Or.inl ⟨by rfl, fun wq hSw => by have m := hSw.cell 0 rfl; go_simp⟩) hS ?_
  simp only [List.setIfInBounds_toArray, List.set_cons_zero, List.set_cons_succ]
  refine tkd (i := 3) (v := .func (.func 80) #[] #[.pointer (some ⟨w.heap.size, 0, none⟩)] ) rfl rfl (by kernel_rfl) (by kernel_rfl) (by kernel_rfl) (fun _ _ _ h => h) (Or.inl ⟨by rfl, fun wq hSw => by skip; go_simp⟩) hS ?_
  simp only [List.setIfInBounds_toArray, List.set_cons_zero, List.set_cons_succ]
  refine tkd (i := 5) (v := .pointer (some ⟨r, 0, none⟩)) rfl rfl (by kernel_rfl) (by kernel_rfl) (by kernel_rfl) (fun _ _ _ h => h) (Or.inl ⟨by rfl, fun wq hSw => by have m := hSw.cell 0 rfl; go_simp⟩) hS ?_
  simp only [List.setIfInBounds_toArray, List.set_cons_zero, List.set_cons_succ]
  refine tkd (i := 6) (v := .func (.func 82) #[] #[.pointer (some ⟨w.heap.size, 0, none⟩)] ) rfl rfl (by kernel_rfl) (by kernel_rfl) (by kernel_rfl) (fun _ _ _ h => h) (Or.inl ⟨by rfl, fun wq hSw => by skip; go_simp⟩) hS ?_
  simp only [List.setIfInBounds_toArray, List.set_cons_zero, List.set_cons_succ]
  refine tkd (i := 8) (v := .pointer (some ⟨r, 0, none⟩)) rfl rfl (by kernel_rfl) (by kernel_rfl) (by kernel_rfl) (fun _ _ _ h => h) (Or.inl ⟨by rfl, fun wq hSw => by have m := hSw.cell 0 rfl; go_simp⟩) hS ?_
  simp only [List.setIfInBounds_toArray, List.set_cons_zero, List.set_cons_succ]
  refine tkd (i := 9) (v := .func (.func 86) #[] #[.pointer (some ⟨w.heap.size, 0, none⟩)] ) rfl rfl (by kernel_rfl) (by kernel_rfl) (by kernel_rfl) (fun _ _ _ h => h) (Or.inl ⟨by rfl, fun wq hSw => by skip; go_simp⟩) hS ?_
  simp only [List.setIfInBounds_toArray, List.set_cons_zero, List.set_cons_succ]
  refine tkd (i := 11) (v := .pointer (some ⟨r, 0, none⟩)) rfl rfl (by kernel_rfl) (by kernel_rfl) (by kernel_rfl) (fun _ _ _ h => h) (Or.inl ⟨by rfl, fun wq hSw => by have m := hSw.cell 0 rfl; go_simp⟩) hS ?_
  simp only [List.setIfInBounds_toArray, List.set_cons_zero, List.set_cons_succ]
  refine tkd (i := 13) (v := .pointer (some ⟨r, 0, none⟩)) rfl rfl (by kernel_rfl) (by kernel_rfl) (by kernel_rfl) (fun _ _ _ h => h) (Or.inl ⟨by rfl, fun wq hSw => by have m := hSw.cell 0 rfl; go_simp⟩) hS ?_
  simp only [List.setIfInBounds_toArray, List.set_cons_zero, List.set_cons_succ]
  refine tkd (i := 15) (v := .pointer (some ⟨r, 0, none⟩)) rfl rfl (by kernel_rfl) (by kernel_rfl) (by kernel_rfl) (fun _ _ _ h => h) (Or.inl ⟨by rfl, fun wq hSw => by have m := hSw.cell 0 rfl; go_simp⟩) hS ?_
  simp only [List.setIfInBounds_toArray, List.set_cons_zero, List.set_cons_succ]
  refine tkd (i := 17) (v := .pointer (some ⟨r, 0, none⟩)) rfl rfl (by kernel_rfl) (by kernel_rfl) (by kernel_rfl) (fun _ _ _ h => h) (Or.inl ⟨by rfl, fun wq hSw => by have m := hSw.cell 0 rfl; go_simp⟩) hS ?_
  simp only [List.setIfInBounds_toArray, List.set_cons_zero, List.set_cons_succ]
  refine tkd (i := 19) (v := .pointer (some ⟨r, 0, none⟩)) rfl rfl (by kernel_rfl) (by kernel_rfl) (by kernel_rfl) (fun _ _ _ h => h) (Or.inl ⟨by rfl, fun wq hSw => by have m := hSw.cell 0 rfl; go_simp⟩) hS ?_
  simp only [List.setIfInBounds_toArray, List.set_cons_zero, List.set_cons_succ]
  refine tkd (i := 21) (v := .pointer (some ⟨r, 0, none⟩)) rfl rfl (by kernel_rfl) (by kernel_rfl) (by kernel_rfl) (fun _ _ _ h => h) (Or.inl ⟨by rfl, fun wq hSw => by have m := hSw.cell 0 rfl; go_simp⟩) hS ?_
  simp only [List.setIfInBounds_toArray, List.set_cons_zero, List.set_cons_succ]
  refine tkd (i := 23) (v := .pointer (some ⟨r, 0, none⟩)) rfl rfl (by kernel_rfl) (by kernel_rfl) (by kernel_rfl) (fun _ _ _ h => h) (Or.inl ⟨by rfl, fun wq hSw => by have m := hSw.cell 0 rfl; go_simp⟩) hS ?_
  simp only [List.setIfInBounds_toArray, List.set_cons_zero, List.set_cons_succ]
  refine wpAnyH_ready (rs := [1]) (by kernel_rfl) (by simp) ?_
  refine AllReadyH.cons rfl (fun K hK => ?_) AllReadyH.nil
  go_simp
  go_at_call 78
  refine (oFaceR hR0 hl0).mono ?_
  rintro e w1 ⟨hF1, hE⟩
  cases hg1 : getFace l with
  | none =>
    rw [hg1] at hE
    dsimp only at hE
    have HE : Hid (G = none) := by show _ = _; rw [hG.out]; unfold getO; simp [hg1]
    subst hE
    go_wp2
    exact ⟨rfl, hF0.trans hF1, by rw [HE.out]⟩
  | some p1 =>
  obtain ⟨x1, l1⟩ := p1
  rw [hg1] at hE
  obtain ⟨v, rfl, hv, hR1⟩ := hE
  dsimp only at hv hR1
  have hl1 : l1.length ≤ 1073741824 := by have := eatsFace _ _ _ hg1; omega
  have hN1 : w.heap.size + 2 ≤ W.heap.size := by omega
  have hM1 := hF1.size
  obtain ⟨u1, z1, rfl, qa1, qb1⟩ := hv
  replace qa1 := varsSub (win_to (fun _ _ _ => rfl) hN1 (Nat.le_refl _)) qa1
  replace qb1 := procsSub (win_to (fun _ _ _ => rfl) hN1 (Nat.le_refl _)) qb1
  obtain ⟨ua1, uc1, rfl⟩ : ∃ a c, u1 = .slice a x1.vars.length c := by obtain ⟨a, c, e, _⟩ := qa1; exact ⟨a, c, e⟩
  obtain ⟨za1, zc1, rfl⟩ : ∃ a c, z1 = .slice a x1.procs.length c := by obtain ⟨a, c, e, _⟩ := qb1; exact ⟨a, c, e⟩
  unfold faceV
  go_wp2
  replace hS := hS.fr hF1
  replace hb0 := hb0.fr hF1
  replace hF0 := hF0.trans hF1
  replace hN : w.heap.size + 2 ≤ w1.heap.size := by omega
  clear hF1 hR0 hN1 hM1
  refine hK.out _ _ hS (fun _ => ?_)
  clear hK K
  refine wpAnyH_ready (rs := [4]) (by kernel_rfl) (by simp) ?_
  refine AllReadyH.cons rfl (fun K hK => ?_) AllReadyH.nil
  go_simp
  go_at_call 79
  refine (lFace hR1 hS hl1).mono ?_
  rintro e w2 ⟨hF2, hE⟩
  cases hg2 : getL getFace l1 with
  | none =>
    rw [hg2] at hE
    dsimp only at hE
    have HE : Hid (G = none) := by show _ = _; rw [hG.out]; unfold getO; simp [hg1, hg2]
    subst hE
    go_wp2
    exact ⟨rfl, hF0.trans hF2, by rw [HE.out]⟩
  | some p2 =>
  obtain ⟨x2, l2⟩ := p2
  rw [hg2] at hE
  obtain ⟨v, rfl, hv, hR2⟩ := hE
  dsimp only at hv hR2
  have hl2 : l2.length ≤ 1073741824 := by have := (eats_l eatsFace.less) _ _ _ hg2; omega
  have hN2 : w.heap.size + 2 ≤ w1.heap.size := by omega
  have hM2 := hF2.size
  replace qa1 := varsSub (win_fr hF2 hrN) qa1
  replace qb1 := procsSub (win_fr hF2 hrN) qb1
  obtain ⟨ua2, uc2, rfl⟩ := hv.shape
  have q2 := facesQ (win_to (fun _ _ _ => rfl) hN2 (Nat.le_refl _)) (fun hq => LV.faces hv hq)
  clear hv
  go_wp2
  replace hS := hS.fr hF2
  replace hb0 := hb0.fr hF2
  replace hF0 := hF0.trans hF2
  replace hN : w.heap.size + 2 ≤ w2.heap.size := by omega
  clear hF2 hR1 hN2 hM2
  refine hK.out _ _ hS (fun _ => ?_)
  clear hK K
  refine wpAnyH_ready (rs := [7]) (by kernel_rfl) (by simp) ?_
  refine AllReadyH.cons rfl (fun K hK => ?_) AllReadyH.nil
  go_simp
  go_at_call 81
  refine (lIns hR2 hS hl2).mono ?_
  rintro e w3 ⟨hF3, hE⟩
  cases hg3 : getL getIns l2 with
  | none =>
    rw [hg3] at hE
    dsimp only at hE
    have HE : Hid (G = none) := by show _ = _; rw [hG.out]; unfold getO; simp [hg1, hg2, hg3]
    subst hE
    go_wp2
    exact ⟨rfl, hF0.trans hF3, by rw [HE.out]⟩
  | some p3 =>
  obtain ⟨x3, l3⟩ := p3
  rw [hg3] at hE
  obtain ⟨v, rfl, hv, hR3⟩ := hE
  dsimp only at hv hR3
  have hl3 : l3.length ≤ 1073741824 := by have := (eats_l eatsIns.less) _ _ _ hg3; omega
  have hN3 : w.heap.size + 2 ≤ w2.heap.size := by omega
  have hM3 := hF3.size
  replace qa1 := varsSub (win_fr hF3 hrN) qa1
  replace qb1 := procsSub (win_fr hF3 hrN) qb1
  replace q2 := facesQ (win_fr hF3 hrN) q2
  obtain ⟨ua3, uc3, rfl⟩ := hv.shape
  have q3 := codeQ (win_to (fun _ _ _ => rfl) hN3 (Nat.le_refl _)) (fun hq => LV.code hv hq)
  clear hv
  go_wp2
  replace hS := hS.fr hF3
  replace hb0 := hb0.fr hF3
  replace hF0 := hF0.trans hF3
  replace hN : w.heap.size + 2 ≤ w3.heap.size := by omega
  clear hF3 hR2 hN3 hM3
  refine hK.out _ _ hS (fun _ => ?_)
  clear hK K
  refine wpAnyH_ready (rs := [10]) (by kernel_rfl) (by simp) ?_
  refine AllReadyH.cons rfl (fun K hK => ?_) AllReadyH.nil
  go_simp
  go_at_call 85
  refine (lRel hR3 hS hl3).mono ?_
  rintro e w4 ⟨hF4, hE⟩
  cases hg4 : getL getRel l3 with
  | none =>
    rw [hg4] at hE
    dsimp only at hE
    have HE : Hid (G = none) := by show _ = _; rw [hG.out]; unfold getO; simp [hg1, hg2, hg3, hg4]
    subst hE
    go_wp2
    exact ⟨rfl, hF0.trans hF4, by rw [HE.out]⟩
  | some p4 =>
  obtain ⟨x4, l4⟩ := p4
  rw [hg4] at hE
  obtain ⟨v, rfl, hv, hR4⟩ := hE
  dsimp only at hv hR4
  have hl4 : l4.length ≤ 1073741824 := by have := (eats_l eatsRel.less) _ _ _ hg4; omega
  have hN4 : w.heap.size + 2 ≤ w3.heap.size := by omega
  have hM4 := hF4.size
  replace qa1 := varsSub (win_fr hF4 hrN) qa1
  replace qb1 := procsSub (win_fr hF4 hrN) qb1
  replace q2 := facesQ (win_fr hF4 hrN) q2
  replace q3 := codeQ (win_fr hF4 hrN) q3
  obtain ⟨ua4, uc4, rfl⟩ := hv.shape
  have q4 := relsQ (win_to (fun _ _ _ => rfl) hN4 (Nat.le_refl _)) (fun hq => LV.rels hv hq)
  clear hv
  go_wp2
  replace hS := hS.fr hF4
  replace hb0 := hb0.fr hF4
  replace hF0 := hF0.trans hF4
  replace hN : w.heap.size + 2 ≤ w4.heap.size := by omega
  clear hF4 hR3 hN4 hM4
  refine hK.out _ _ hS (fun _ => ?_)
  clear hK K
  refine wpAnyH_ready (rs := [12]) (by kernel_rfl) (by simp) ?_
  refine AllReadyH.cons rfl (fun K hK => ?_) AllReadyH.nil
  go_simp
  go_at_call 88
  refine (oPlaces hR4 hl4).mono ?_
  rintro e w5 ⟨hF5, hE⟩
  cases hg5 : getL getPlc l4 with
  | none =>
    rw [hg5] at hE
    dsimp only at hE
    have HE : Hid (G = none) := by show _ = _; rw [hG.out]; unfold getO; simp [hg1, hg2, hg3, hg4, hg5]
    subst hE
    go_wp2
    exact ⟨rfl, hF0.trans hF5, by rw [HE.out]⟩
  | some p5 =>
  obtain ⟨x5, l5⟩ := p5
  rw [hg5] at hE
  obtain ⟨v, rfl, hv, hR5⟩ := hE
  dsimp only at hv hR5
  have hl5 : l5.length ≤ 1073741824 := by have := (eats_l eatsPlc.less) _ _ _ hg5; omega
  have hN5 : w.heap.size + 2 ≤ w4.heap.size := by omega
  have hM5 := hF5.size
  replace qa1 := varsSub (win_fr hF5 hrN) qa1
  replace qb1 := procsSub (win_fr hF5 hrN) qb1
  replace q2 := facesQ (win_fr hF5 hrN) q2
  replace q3 := codeQ (win_fr hF5 hrN) q3
  replace q4 := relsQ (win_fr hF5 hrN) q4
  obtain ⟨ua5, uc5, rfl⟩ := hv.shape
  have q5 := plcsQ (win_to (fun _ _ _ => rfl) hN5 (Nat.le_refl _)) (fun hq => LV.plcs hv hq)
  clear hv
  go_wp2
  replace hS := hS.fr hF5
  replace hb0 := hb0.fr hF5
  replace hF0 := hF0.trans hF5
  replace hN : w.heap.size + 2 ≤ w5.heap.size := by omega
  clear hF5 hR4 hN5 hM5
  refine hK.out _ _ hS (fun _ => ?_)
  clear hK K
  refine wpAnyH_ready (rs := [14]) (by kernel_rfl) (by simp) ?_
  refine AllReadyH.cons rfl (fun K hK => ?_) AllReadyH.nil
  go_simp
  go_at_call 88
  refine (oPlaces hR5 hl5).mono ?_
  rintro e w6 ⟨hF6, hE⟩
  cases hg6 : getL getPlc l5 with
  | none =>
    rw [hg6] at hE
    dsimp only at hE
    have HE : Hid (G = none) := by show _ = _; rw [hG.out]; unfold getO; simp [hg1, hg2, hg3, hg4, hg5, hg6]
    subst hE
    go_wp2
    exact ⟨rfl, hF0.trans hF6, by rw [HE.out]⟩
  | some p6 =>
  obtain ⟨x6, l6⟩ := p6
  rw [hg6] at hE
  obtain ⟨v, rfl, hv, hR6⟩ := hE
  dsimp only at hv hR6
  have hl6 : l6.length ≤ 1073741824 := by have := (eats_l eatsPlc.less) _ _ _ hg6; omega
  have hN6 : w.heap.size + 2 ≤ w5.heap.size := by omega
  have hM6 := hF6.size
  replace qa1 := varsSub (win_fr hF6 hrN) qa1
  replace qb1 := procsSub (win_fr hF6 hrN) qb1
  replace q2 := facesQ (win_fr hF6 hrN) q2
  replace q3 := codeQ (win_fr hF6 hrN) q3
  replace q4 := relsQ (win_fr hF6 hrN) q4
  replace q5 := plcsQ (win_fr hF6 hrN) q5
  obtain ⟨ua6, uc6, rfl⟩ := hv.shape
  have q6 := plcsQ (win_to (fun _ _ _ => rfl) hN6 (Nat.le_refl _)) (fun hq => LV.plcs hv hq)
  clear hv
  go_wp2
  replace hS := hS.fr hF6
  replace hb0 := hb0.fr hF6
  replace hF0 := hF0.trans hF6
  replace hN : w.heap.size + 2 ≤ w6.heap.size := by omega
  clear hF6 hR5 hN6 hM6
  refine hK.out _ _ hS (fun _ => ?_)
  clear hK K
  refine wpAnyH_ready (rs := [16]) (by kernel_rfl) (by simp) ?_
  refine AllReadyH.cons rfl (fun K hK => ?_) AllReadyH.nil
  go_simp
  go_at_call 88
  refine (oPlaces hR6 hl6).mono ?_
  rintro e w7 ⟨hF7, hE⟩
  cases hg7 : getL getPlc l6 with
  | none =>
    rw [hg7] at hE
    dsimp only at hE
    have HE : Hid (G = none) := by show _ = _; rw [hG.out]; unfold getO; simp [hg1, hg2, hg3, hg4, hg5, hg6, hg7]
    subst hE
    go_wp2
    exact ⟨rfl, hF0.trans hF7, by rw [HE.out]⟩
  | some p7 =>
  obtain ⟨x7, l7⟩ := p7
  rw [hg7] at hE
  obtain ⟨v, rfl, hv, hR7⟩ := hE
  dsimp only at hv hR7
  have hl7 : l7.length ≤ 1073741824 := by have := (eats_l eatsPlc.less) _ _ _ hg7; omega
  have hN7 : w.heap.size + 2 ≤ w6.heap.size := by omega
  have hM7 := hF7.size
  replace qa1 := varsSub (win_fr hF7 hrN) qa1
  replace qb1 := procsSub (win_fr hF7 hrN) qb1
  replace q2 := facesQ (win_fr hF7 hrN) q2
  replace q3 := codeQ (win_fr hF7 hrN) q3
  replace q4 := relsQ (win_fr hF7 hrN) q4
  replace q5 := plcsQ (win_fr hF7 hrN) q5
  replace q6 := plcsQ (win_fr hF7 hrN) q6
  obtain ⟨ua7, uc7, rfl⟩ := hv.shape
  have q7 := plcsQ (win_to (fun _ _ _ => rfl) hN7 (Nat.le_refl _)) (fun hq => LV.plcs hv hq)
  clear hv
  go_wp2
  replace hS := hS.fr hF7
  replace hb0 := hb0.fr hF7
  replace hF0 := hF0.trans hF7
  replace hN : w.heap.size + 2 ≤ w7.heap.size := by omega
  clear hF7 hR6 hN7 hM7
  refine hK.out _ _ hS (fun _ => ?_)
  clear hK K
  refine wpAnyH_ready (rs := [18]) (by kernel_rfl) (by simp) ?_
  refine AllReadyH.cons rfl (fun K hK => ?_) AllReadyH.nil
  go_simp
  go_at_call 83
  refine (oInt hR7).mono ?_
  rintro e w8 ⟨hF8, hE⟩
  cases hg8 : getNum l7 with
  | none =>
    rw [hg8] at hE
    dsimp only at hE
    have HE : Hid (G = none) := by show _ = _; rw [hG.out]; unfold getO; simp [hg1, hg2, hg3, hg4, hg5, hg6, hg7, hg8]
    subst hE
    go_wp2
    exact ⟨rfl, hF0.trans hF8, by rw [HE.out]⟩
  | some p8 =>
  obtain ⟨x8, l8⟩ := p8
  rw [hg8] at hE
  obtain ⟨v, rfl, hv, hR8⟩ := hE
  dsimp only at hv hR8
  have hl8 : l8.length ≤ 1073741824 := by have := eatsNum _ _ _ hg8; omega
  have hN8 : w.heap.size + 2 ≤ w7.heap.size := by omega
  have hM8 := hF8.size
  replace qa1 := varsSub (win_fr hF8 hrN) qa1
  replace qb1 := procsSub (win_fr hF8 hrN) qb1
  replace q2 := facesQ (win_fr hF8 hrN) q2
  replace q3 := codeQ (win_fr hF8 hrN) q3
  replace q4 := relsQ (win_fr hF8 hrN) q4
  replace q5 := plcsQ (win_fr hF8 hrN) q5
  replace q6 := plcsQ (win_fr hF8 hrN) q6
  replace q7 := plcsQ (win_fr hF8 hrN) q7
  have hv2 : v = .int .i64 x8 := hv
  subst hv2
  clear hv
  go_wp2
  replace hS := hS.fr hF8
  replace hb0 := hb0.fr hF8
  replace hF0 := hF0.trans hF8
  replace hN : w.heap.size + 2 ≤ w8.heap.size := by omega
  clear hF8 hR7 hN8 hM8
  refine hK.out _ _ hS (fun _ => ?_)
  clear hK K
  refine wpAnyH_ready (rs := [20]) (by kernel_rfl) (by simp) ?_
  refine AllReadyH.cons rfl (fun K hK => ?_) AllReadyH.nil
  go_simp
  go_at_call 83
  refine (oInt hR8).mono ?_
  rintro e w9 ⟨hF9, hE⟩
  cases hg9 : getNum l8 with
  | none =>
    rw [hg9] at hE
    dsimp only at hE
    have HE : Hid (G = none) := by show _ = _; rw [hG.out]; unfold getO; simp [hg1, hg2, hg3, hg4, hg5, hg6, hg7, hg8, hg9]
    subst hE
    go_wp2
    exact ⟨rfl, hF0.trans hF9, by rw [HE.out]⟩
  | some p9 =>
  obtain ⟨x9, l9⟩ := p9
  rw [hg9] at hE
  obtain ⟨v, rfl, hv, hR9⟩ := hE
  dsimp only at hv hR9
  have hl9 : l9.length ≤ 1073741824 := by have := eatsNum _ _ _ hg9; omega
  have hN9 : w.heap.size + 2 ≤ w8.heap.size := by omega
  have hM9 := hF9.size
  replace qa1 := varsSub (win_fr hF9 hrN) qa1
  replace qb1 := procsSub (win_fr hF9 hrN) qb1
  replace q2 := facesQ (win_fr hF9 hrN) q2
  replace q3 := codeQ (win_fr hF9 hrN) q3
  replace q4 := relsQ (win_fr hF9 hrN) q4
  replace q5 := plcsQ (win_fr hF9 hrN) q5
  replace q6 := plcsQ (win_fr hF9 hrN) q6
  replace q7 := plcsQ (win_fr hF9 hrN) q7
  have hv2 : v = .int .i64 x9 := hv
  subst hv2
  clear hv
  go_wp2
  replace hS := hS.fr hF9
  replace hb0 := hb0.fr hF9
  replace hF0 := hF0.trans hF9
  replace hN : w.heap.size + 2 ≤ w9.heap.size := by omega
  clear hF9 hR8 hN9 hM9
  refine hK.out _ _ hS (fun _ => ?_)
  clear hK K
  refine wpAnyH_ready (rs := [22]) (by kernel_rfl) (by simp) ?_
  refine AllReadyH.cons rfl (fun K hK => ?_) AllReadyH.nil
  go_simp
  go_at_call 83
  refine (oInt hR9).mono ?_
  rintro e w10 ⟨hF10, hE⟩
  cases hg10 : getNum l9 with
  | none =>
    rw [hg10] at hE
    dsimp only at hE
    have HE : Hid (G = none) := by show _ = _; rw [hG.out]; unfold getO; simp [hg1, hg2, hg3, hg4, hg5, hg6, hg7, hg8, hg9, hg10]
    subst hE
    go_wp2
    exact ⟨rfl, hF0.trans hF10, by rw [HE.out]⟩
  | some p10 =>
  obtain ⟨x10, l10⟩ := p10
  rw [hg10] at hE
  obtain ⟨v, rfl, hv, hR10⟩ := hE
  dsimp only at hv hR10
  have hl10 : l10.length ≤ 1073741824 := by have := eatsNum _ _ _ hg10; omega
  have hN10 : w.heap.size + 2 ≤ w9.heap.size := by omega
  have hM10 := hF10.size
  replace qa1 := varsSub (win_fr hF10 hrN) qa1
  replace qb1 := procsSub (win_fr hF10 hrN) qb1
  replace q2 := facesQ (win_fr hF10 hrN) q2
  replace q3 := codeQ (win_fr hF10 hrN) q3
  replace q4 := relsQ (win_fr hF10 hrN) q4
  replace q5 := plcsQ (win_fr hF10 hrN) q5
  replace q6 := plcsQ (win_fr hF10 hrN) q6
  replace q7 := plcsQ (win_fr hF10 hrN) q7
  have hv2 : v = .int .i64 x10 := hv
  subst hv2
  clear hv
  go_wp2
  replace hS := hS.fr hF10
  replace hb0 := hb0.fr hF10
  replace hF0 := hF0.trans hF10
  replace hN : w.heap.size + 2 ≤ w10.heap.size := by omega
  clear hF10 hR9 hN10 hM10
  refine hK.out _ _ hS (fun _ => ?_)
  clear hK K
  refine wpAnyH_ready (rs := [24]) (by kernel_rfl) (by simp) ?_
  refine AllReadyH.cons rfl (fun K hK => ?_) AllReadyH.nil
  go_simp
  go_at_call 83
  refine (oInt hR10).mono ?_
  rintro e w11 ⟨hF11, hE⟩
  cases hg11 : getNum l10 with
  | none =>
    rw [hg11] at hE
    dsimp only at hE
    have HE : Hid (G = none) := by show _ = _; rw [hG.out]; unfold getO; simp [hg1, hg2, hg3, hg4, hg5, hg6, hg7, hg8, hg9, hg10, hg11]
    subst hE
    go_wp2
    exact ⟨rfl, hF0.trans hF11, by rw [HE.out]⟩
  | some p11 =>
  obtain ⟨x11, l11⟩ := p11
  rw [hg11] at hE
  obtain ⟨v, rfl, hv, hR11⟩ := hE
  dsimp only at hv hR11
  have hl11 : l11.length ≤ 1073741824 := by have := eatsNum _ _ _ hg11; omega
  have hN11 : w.heap.size + 2 ≤ w10.heap.size := by omega
  have hM11 := hF11.size
  replace qa1 := varsSub (win_fr hF11 hrN) qa1
  replace qb1 := procsSub (win_fr hF11 hrN) qb1
  replace q2 := facesQ (win_fr hF11 hrN) q2
  replace q3 := codeQ (win_fr hF11 hrN) q3
  replace q4 := relsQ (win_fr hF11 hrN) q4
  replace q5 := plcsQ (win_fr hF11 hrN) q5
  replace q6 := plcsQ (win_fr hF11 hrN) q6
  replace q7 := plcsQ (win_fr hF11 hrN) q7
  have hv2 : v = .int .i64 x11 := hv
  subst hv2
  clear hv
  go_wp2
  replace hS := hS.fr hF11
  replace hb0 := hb0.fr hF11
  replace hF0 := hF0.trans hF11
  replace hN : w.heap.size + 2 ≤ w11.heap.size := by omega
  clear hF11 hR10 hN11 hM11
  refine hK.out _ _ hS (fun _ => ?_)
  clear hK K
  refine tkd (i := 25) (v := .agg #[.string x1.module, .slice ua1 x1.vars.length uc1, .slice za1 x1.procs.length zc1, .slice ua2 x2.length uc2, .slice ua3 x3.length uc3, .slice ua4 x4.length uc4, .slice ua5 x5.length uc5, .slice ua6 x6.length uc6, .slice ua7 x7.length uc7, .int .i64 x8, .int .i64 x9, .int .i64 x10, .int .i64 x11] ) rfl rfl (by kernel_rfl) (by kernel_rfl) (by kernel_rfl) (fun _ _ _ h => h) (Or.inl ⟨by rfl, fun wq hSw => by skip; go_simp⟩) hS ?_
  simp only [List.setIfInBounds_toArray, List.set_cons_zero, List.set_cons_succ]
  refine wpAnyH_ready (rs := [26]) (by kernel_rfl) (by simp) ?_
  refine AllReadyH.cons rfl (fun K hK => ?_) AllReadyH.nil
  refine step_store_row (by rfl) 31 (.tmp 2) (.tmp 28) (by rfl) (w.heap.size + 1) #[.string x1.module, .slice ua1 x1.vars.length uc1, .slice za1 x1.procs.length zc1, .slice ua2 x2.length uc2, .slice ua3 x3.length uc3, .slice ua4 x4.length uc4, .slice ua5 x5.length uc5, .slice ua6 x6.length uc6, .slice ua7 x7.length uc7, .int .i64 x8, .int .i64 x9, .int .i64 x10, .int .i64 x11] (by rfl) (by rfl) 31 _ hb0.box (by kernel_rfl) (by rfl) (by kernel_rfl) ?_
  have hbF := box_row (cs := #[.string x1.module, .slice ua1 x1.vars.length uc1, .slice za1 x1.procs.length zc1, .slice ua2 x2.length uc2, .slice ua3 x3.length uc3, .slice ua4 x4.length uc4, .slice ua5 x5.length uc5, .slice ua6 x6.length uc6, .slice ua7 x7.length uc7, .int .i64 x8, .int .i64 x9, .int .i64 x10, .int .i64 x11]) hb0.box
  have hRF := hR11.low ((below_setRow w11 (w.heap.size + 1) #[.string x1.module, .slice ua1 x1.vars.length uc1, .slice za1 x1.procs.length zc1, .slice ua2 x2.length uc2, .slice ua3 x3.length uc3, .slice ua4 x4.length uc4, .slice ua5 x5.length uc5, .slice ua6 x6.length uc6, .slice ua7 x7.length uc7, .int .i64 x8, .int .i64 x9, .int .i64 x10, .int .i64 x11]).mono (by omega))
  have hFF := hF0.row (b := (w.heap.size + 1)) (by omega) #[.string x1.module, .slice ua1 x1.vars.length uc1, .slice za1 x1.procs.length zc1, .slice ua2 x2.length uc2, .slice ua3 x3.length uc3, .slice ua4 x4.length uc4, .slice ua5 x5.length uc5, .slice ua6 x6.length uc6, .slice ua7 x7.length uc7, .int .i64 x8, .int .i64 x9, .int .i64 x10, .int .i64 x11]
  have hSF : CapR (w11.setRow (w.heap.size + 1) #[.string x1.module, .slice ua1 x1.vars.length uc1, .slice za1 x1.procs.length zc1, .slice ua2 x2.length uc2, .slice ua3 x3.length uc3, .slice ua4 x4.length uc4, .slice ua5 x5.length uc5, .slice ua6 x6.length uc6, .slice ua7 x7.length uc7, .int .i64 x8, .int .i64 x9, .int .i64 x10, .int .i64 x11]) r w.heap.size := ⟨(setRow_other w11 (w.heap.size + 1) w.heap.size #[.string x1.module, .slice ua1 x1.vars.length uc1, .slice za1 x1.procs.length zc1, .slice ua2 x2.length uc2, .slice ua3 x3.length uc3, .slice ua4 x4.length uc4, .slice ua5 x5.length uc5, .slice ua6 x6.length uc6, .slice ua7 x7.length uc7, .int .i64 x8, .int .i64 x9, .int .i64 x10, .int .i64 x11] (by omega)).trans hS.box, hS.ne, hS.row⟩
  replace qa1 := varsSub (win_row (b := (w.heap.size + 1)) (cs := #[.string x1.module, .slice ua1 x1.vars.length uc1, .slice za1 x1.procs.length zc1, .slice ua2 x2.length uc2, .slice ua3 x3.length uc3, .slice ua4 x4.length uc4, .slice ua5 x5.length uc5, .slice ua6 x6.length uc6, .slice ua7 x7.length uc7, .int .i64 x8, .int .i64 x9, .int .i64 x10, .int .i64 x11]) (N := w.heap.size) (by omega) (by omega)) qa1
  replace qb1 := procsSub (win_row (b := (w.heap.size + 1)) (cs := #[.string x1.module, .slice ua1 x1.vars.length uc1, .slice za1 x1.procs.length zc1, .slice ua2 x2.length uc2, .slice ua3 x3.length uc3, .slice ua4 x4.length uc4, .slice ua5 x5.length uc5, .slice ua6 x6.length uc6, .slice ua7 x7.length uc7, .int .i64 x8, .int .i64 x9, .int .i64 x10, .int .i64 x11]) (N := w.heap.size) (by omega) (by omega)) qb1
  replace q2 := facesQ (win_row (b := (w.heap.size + 1)) (cs := #[.string x1.module, .slice ua1 x1.vars.length uc1, .slice za1 x1.procs.length zc1, .slice ua2 x2.length uc2, .slice ua3 x3.length uc3, .slice ua4 x4.length uc4, .slice ua5 x5.length uc5, .slice ua6 x6.length uc6, .slice ua7 x7.length uc7, .int .i64 x8, .int .i64 x9, .int .i64 x10, .int .i64 x11]) (N := w.heap.size) (by omega) (by omega)) q2
  replace q3 := codeQ (win_row (b := (w.heap.size + 1)) (cs := #[.string x1.module, .slice ua1 x1.vars.length uc1, .slice za1 x1.procs.length zc1, .slice ua2 x2.length uc2, .slice ua3 x3.length uc3, .slice ua4 x4.length uc4, .slice ua5 x5.length uc5, .slice ua6 x6.length uc6, .slice ua7 x7.length uc7, .int .i64 x8, .int .i64 x9, .int .i64 x10, .int .i64 x11]) (N := w.heap.size) (by omega) (by omega)) q3
  replace q4 := relsQ (win_row (b := (w.heap.size + 1)) (cs := #[.string x1.module, .slice ua1 x1.vars.length uc1, .slice za1 x1.procs.length zc1, .slice ua2 x2.length uc2, .slice ua3 x3.length uc3, .slice ua4 x4.length uc4, .slice ua5 x5.length uc5, .slice ua6 x6.length uc6, .slice ua7 x7.length uc7, .int .i64 x8, .int .i64 x9, .int .i64 x10, .int .i64 x11]) (N := w.heap.size) (by omega) (by omega)) q4
  replace q5 := plcsQ (win_row (b := (w.heap.size + 1)) (cs := #[.string x1.module, .slice ua1 x1.vars.length uc1, .slice za1 x1.procs.length zc1, .slice ua2 x2.length uc2, .slice ua3 x3.length uc3, .slice ua4 x4.length uc4, .slice ua5 x5.length uc5, .slice ua6 x6.length uc6, .slice ua7 x7.length uc7, .int .i64 x8, .int .i64 x9, .int .i64 x10, .int .i64 x11]) (N := w.heap.size) (by omega) (by omega)) q5
  replace q6 := plcsQ (win_row (b := (w.heap.size + 1)) (cs := #[.string x1.module, .slice ua1 x1.vars.length uc1, .slice za1 x1.procs.length zc1, .slice ua2 x2.length uc2, .slice ua3 x3.length uc3, .slice ua4 x4.length uc4, .slice ua5 x5.length uc5, .slice ua6 x6.length uc6, .slice ua7 x7.length uc7, .int .i64 x8, .int .i64 x9, .int .i64 x10, .int .i64 x11]) (N := w.heap.size) (by omega) (by omega)) q6
  replace q7 := plcsQ (win_row (b := (w.heap.size + 1)) (cs := #[.string x1.module, .slice ua1 x1.vars.length uc1, .slice za1 x1.procs.length zc1, .slice ua2 x2.length uc2, .slice ua3 x3.length uc3, .slice ua4 x4.length uc4, .slice ua5 x5.length uc5, .slice ua6 x6.length uc6, .slice ua7 x7.length uc7, .int .i64 x8, .int .i64 x9, .int .i64 x10, .int .i64 x11]) (N := w.heap.size) (by omega) (by omega)) q7
  refine hK.out _ _ hSF (fun _ => ?_)
  clear hK K
  refine wpAnyH_done (by kernel_rfl) ?_ _
  have HE : Hid (G = some (⟨x1, x2, x3, x4, x5, x6, x7, x8, x9, x10, x11⟩, l11)) := by show _ = _; rw [hG.out]; unfold getO; simp [hg1, hg2, hg3, hg4, hg5, hg6, hg7, hg8, hg9, hg10, hg11]
  clear hb0 hS hF0 hR11 hN
  generalize w11.setRow (w.heap.size + 1) #[.string x1.module, .slice ua1 x1.vars.length uc1, .slice za1 x1.procs.length zc1, .slice ua2 x2.length uc2, .slice ua3 x3.length uc3, .slice ua4 x4.length uc4, .slice ua5 x5.length uc5, .slice ua6 x6.length uc6, .slice ua7 x7.length uc7, .int .i64 x8, .int .i64 x9, .int .i64 x10, .int .i64 x11] = WF at *
  go_wp2
  refine bodyPost_ret (v := .agg #[.string x1.module, .slice ua1 x1.vars.length uc1, .slice za1 x1.procs.length zc1, .slice ua2 x2.length uc2, .slice ua3 x3.length uc3, .slice ua4 x4.length uc4, .slice ua5 x5.length uc5, .slice ua6 x6.length uc6, .slice ua7 x7.length uc7, .int .i64 x8, .int .i64 x9, .int .i64 x10, .int .i64 x11]) (res_oObject2 _ _ hbF cT) rfl ?_
  refine ⟨hFF, ?_⟩
  rw [HE.out]
  exact ⟨_, rfl, ⟨⟨_, _, _, _, _, _, _, _⟩, rfl, ⟨qa1, qb1, q2, q3, q4, q5, q6, q7⟩, ⟨⟨_, _, rfl⟩, ⟨_, _, rfl⟩, ⟨_, _, rfl⟩, ⟨_, _, rfl⟩, ⟨_, _, rfl⟩, ⟨_, _, rfl⟩, ⟨_, _, rfl⟩, ⟨_, _, rfl⟩⟩⟩, hRF⟩
end Go.Proofs.YthfeojjfehbgjaaGreatDoor.obj
