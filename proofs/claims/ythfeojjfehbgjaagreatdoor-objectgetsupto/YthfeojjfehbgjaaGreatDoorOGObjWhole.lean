/- What the reader's whole answers: a contract. (Written by mkwhole.py: edit that.) -/
import Derived.Test.YthfeojjfehbgjaaGreatDoorOGObjObj
import Derived.Test.YthfeojjfehbgjaaGreatDoorOGObjMay
namespace Go.Proofs.YthfeojjfehbgjaaGreatDoor.obj
open Go.RowKit
open Go.Proofs.YthfeojjfehbgjaaGreatDoor.lexs (HasErr)
open Go.Proofs.YthfeojjfehbgjaaGreatDoor.mac (BoxC grown_of_below Ins)
open Go.Proofs.YthfeojjfehbgjaaGreatDoor.face (VarD ProcD FaceD IntsIn VarsIn ProcsIn varV procV)
set_option linter.unusedVariables false
set_option linter.unusedSimpArgs false
set_option maxRecDepth 100000
theorem Shapes.ex {x : Vals} {o : ObjD} (h : Shapes x o) : ∃ a1 c1 a2 c2 a3 c3 a4 c4 a5 c5 a6 c6 a7 c7 a8 c8, x = ⟨.slice a1 o.face.vars.length c1, .slice a2 o.face.procs.length c2, .slice a3 o.imports.length c3, .slice a4 o.code.length c4, .slice a5 o.relocs.length c5, .slice a6 o.procs.length c6, .slice a7 o.lows.length c7, .slice a8 o.highs.length c8⟩ := by
  obtain ⟨v1, v2, v3, v4, v5, v6, v7, v8⟩ := x
  obtain ⟨⟨a1, c1, h1⟩, ⟨a2, c2, h2⟩, ⟨a3, c3, h3⟩, ⟨a4, c4, h4⟩, ⟨a5, c5, h5⟩, ⟨a6, c6, h6⟩, ⟨a7, c7, h7⟩, ⟨a8, c8, h8⟩⟩ := h
  dsimp only at h1 h2 h3 h4 h5 h6 h7 h8
  subst h1 h2 h3 h4 h5 h6 h7 h8
  exact ⟨_, _, _, _, _, _, _, _, _, _, _, _, _, _, _, _, rfl⟩
/-- all that is left is an object, or nothing is -/
def WhG (r : Nat) (w : World) (G : Option ObjD) (e : Ending) (w' : World) : Prop :=
  FrR r w w' ∧ match G with
    | none => e = .panicked NOB
    | some o => ∃ x, e = .returned (objV o x) ∧ ObjAt (win w' w.heap.size w'.heap.size) x o ∧ Shapes x o
theorem set13 {w : World} {B : Nat} {T : TypeId} {o0 x0 o1 x1 o2 x2 o3 x3 o4 x4 o5 x5 o6 x6 o7 x7 o8 x8 o9 x9 o10 x10 o11 x11 o12 x12 : Value} (h : BoxC w B #[o0, o1, o2, o3, o4, o5, o6, o7, o8, o9, o10, o11, o12] T) : (((((((((((((w.setCell ⟨B, 0, none⟩ x0).setCell ⟨B, 1, none⟩ x1).setCell ⟨B, 2, none⟩ x2).setCell ⟨B, 3, none⟩ x3).setCell ⟨B, 4, none⟩ x4).setCell ⟨B, 5, none⟩ x5).setCell ⟨B, 6, none⟩ x6).setCell ⟨B, 7, none⟩ x7).setCell ⟨B, 8, none⟩ x8).setCell ⟨B, 9, none⟩ x9).setCell ⟨B, 10, none⟩ x10).setCell ⟨B, 11, none⟩ x11).setCell ⟨B, 12, none⟩ x12) = w.setRow B #[x0, x1, x2, x3, x4, x5, x6, x7, x8, x9, x10, x11, x12] := by
  rw [setCell_eq_setRow w B 0 _ T (0, 0) x0 h]
  rw [setCell_eq_setRow _ B 1 _ T (0, 0) x1 (setRow_heap w B _ _ T (0, 0) h), setRow_setRow]
  rw [setCell_eq_setRow _ B 2 _ T (0, 0) x2 (setRow_heap w B _ _ T (0, 0) h), setRow_setRow]
  rw [setCell_eq_setRow _ B 3 _ T (0, 0) x3 (setRow_heap w B _ _ T (0, 0) h), setRow_setRow]
  rw [setCell_eq_setRow _ B 4 _ T (0, 0) x4 (setRow_heap w B _ _ T (0, 0) h), setRow_setRow]
  rw [setCell_eq_setRow _ B 5 _ T (0, 0) x5 (setRow_heap w B _ _ T (0, 0) h), setRow_setRow]
  rw [setCell_eq_setRow _ B 6 _ T (0, 0) x6 (setRow_heap w B _ _ T (0, 0) h), setRow_setRow]
  rw [setCell_eq_setRow _ B 7 _ T (0, 0) x7 (setRow_heap w B _ _ T (0, 0) h), setRow_setRow]
  rw [setCell_eq_setRow _ B 8 _ T (0, 0) x8 (setRow_heap w B _ _ T (0, 0) h), setRow_setRow]
  rw [setCell_eq_setRow _ B 9 _ T (0, 0) x9 (setRow_heap w B _ _ T (0, 0) h), setRow_setRow]
  rw [setCell_eq_setRow _ B 10 _ T (0, 0) x10 (setRow_heap w B _ _ T (0, 0) h), setRow_setRow]
  rw [setCell_eq_setRow _ B 11 _ T (0, 0) x11 (setRow_heap w B _ _ T (0, 0) h), setRow_setRow]
  rw [setCell_eq_setRow _ B 12 _ T (0, 0) x12 (setRow_heap w B _ _ T (0, 0) h), setRow_setRow]
  simp
theorem res_whole {W : World} {a0 a1 y0 y1 y2 y3 y4 y5 y6 y7 y8 y9 y10 y11 y12 : Value} (tl : List Value) (B : Nat) (h : BoxC W B #[y0, y1, y2, y3, y4, y5, y6, y7, y8, y9, y10, y11, y12] 31) (c : Tryz.prog.cellsOf 31 = 13) : (results Tryz.f29 (List.toArray (a0 :: a1 :: .pointer (some ⟨B, 0, none⟩) :: tl))).run Tryz.prog W = .ok (.agg #[y0, y1, y2, y3, y4, y5, y6, y7, y8, y9, y10, y11, y12]) W := by
  have z0 := h.cell 0 rfl
  have z1 := h.cell 1 rfl
  have z2 := h.cell 2 rfl
  have z3 := h.cell 3 rfl
  have z4 := h.cell 4 rfl
  have z5 := h.cell 5 rfl
  have z6 := h.cell 6 rfl
  have z7 := h.cell 7 rfl
  have z8 := h.cell 8 rfl
  have z9 := h.cell 9 rfl
  have z10 := h.cell 10 rfl
  have z11 := h.cell 11 rfl
  have z12 := h.cell 12 rfl
  simp [results, Tryz.f29, go_sem, z0, z1, z2, z3, z4, z5, z6, z7, z8, z9, z10, z11, z12]
set_option maxHeartbeats 4000000 in
theorem oWhole {w : World} {r : Nat} {l : By} (h : RS w r l) (hw : ∀ w', FrR r w w' → HasErr w') (hl0 : l.length ≤ 1073741824) (hs : ∀ o l2, getO l = some (o, l2) → Small o) :
    Calls Tryz.prog 29 #[.pointer (some ⟨r, 0, none⟩)] w (WhG r w (getAll l)) := by
  have c13 : Tryz.prog.cellsOf 31 = 13 := by kernel_rfl
  have hA := (Below.refl w.heap.size w).alloc (Nat.le_refl _) (.cells #[.string ⟨#[]⟩, .slice none 0 0, .slice none 0 0, .slice none 0 0, .slice none 0 0, .slice none 0 0, .slice none 0 0, .slice none 0 0, .slice none 0 0, .int .i64 0, .int .i64 0, .int .i64 0, .int .i64 0] 31)
  have hb0 := h.lk #[.string ⟨#[]⟩, .slice none 0 0, .slice none 0 0, .slice none 0 0, .slice none 0 0, .slice none 0 0, .slice none 0 0, .slice none 0 0, .slice none 0 0, .int .i64 0, .int .i64 0, .int .i64 0, .int .i64 0] 31
  have hF0 : FrR r w (w.alloc (.cells #[.string ⟨#[]⟩, .slice none 0 0, .slice none 0 0, .slice none 0 0, .slice none 0 0, .slice none 0 0, .slice none 0 0, .slice none 0 0, .slice none 0 0, .int .i64 0, .int .i64 0, .int .i64 0, .int .i64 0] 31)) := Fr.new r nilV w _
  have hC := oObject2 (h.fr hA) hl0
  have hrb := h.lt
  rw [World.size_alloc] at hC
  obtain ⟨G, hG⟩ : ∃ G, G = getAll l := ⟨_, rfl⟩
  rw [← hG]
  replace hG : Hid (G = getAll l) := hG
  cases hg : getO l with
  | none =>
    rw [hg] at hC
    have HE : Hid (G = none) := by show _ = _; rw [hG.out]; unfold getAll; rw [hg]; rfl
    go_enter Tryz.func29, Tryz.ntmps29
    go_wp2_with (fail)
    refine hC.mono ?_
    rintro e w2 ⟨hF, hE⟩
    dsimp only at hE
    subst hE
    go_wp2
    exact ⟨rfl, hF0.trans hF, by rw [HE.out]⟩
  | some p =>
    obtain ⟨o, l2⟩ := p
    have hsm := hs o l2 hg
    rw [hg] at hC
    go_enter Tryz.func29, Tryz.ntmps29
    go_wp2_with (fail)
    refine hC.mono ?_
    rintro e w2 ⟨hF, v, rfl, hv, hR⟩
    dsimp only at hv hR
    clear hC
    obtain ⟨X, rfl, hq, hsh⟩ := hv
    obtain ⟨a1, c1, a2, c2, a3, c3, a4, c4, a5, c5, a6, c6, a7, c7, a8, c8, rfl⟩ := hsh.ex
    have hat := hq.at (win_sub _ _ _) hsm
    replace hb0 := hb0.fr hF
    replace hF0 := hF0.trans hF
    clear hF
    unfold objV
    dsimp only
    have hA2 := (Below.refl w2.heap.size w2).alloc (Nat.le_refl _) (.cells #[.string o.face.module, .slice a1 o.face.vars.length c1, .slice a2 o.face.procs.length c2, .slice a3 o.imports.length c3, .slice a4 o.code.length c4, .slice a5 o.relocs.length c5, .slice a6 o.procs.length c6, .slice a7 o.lows.length c7, .slice a8 o.highs.length c8, .int .i64 o.low, .int .i64 o.high, .int .i64 o.lowF, .int .i64 o.highF] 31)
    have hR2 := hR.fr hA2
    obtain ⟨ra, rc, hbox, _⟩ := hR2.ex
    have m0 := hbox.cell 0 rfl
    by_cases hpos : 0 < l2.length
    · have HE : Hid (G = none) := by
        show _ = _
        rw [hG.out]; unfold getAll; rw [hg]
        exact if_neg (fun e => by have e1 : l2 = [] := e.1; rw [e1] at hpos; simp at hpos)
      have hposI : 0 < (l2.length : Int) := by omega
      have hdec : decide (0 < l2.length) = true := decide_eq_true hpos
      clear hR2 hbox
      go_wp2
      exact ⟨rfl, hF0.alloc _, by rw [HE.out]; rfl⟩
    · have hl2 : l2 = [] := List.eq_nil_of_length_eq_zero (by omega)
      subst hl2
      have hM := oMayO o _ _ (hw _ (hF0.alloc (.cells #[.string o.face.module, .slice a1 o.face.vars.length c1, .slice a2 o.face.procs.length c2, .slice a3 o.imports.length c3, .slice a4 o.code.length c4, .slice a5 o.relocs.length c5, .slice a6 o.procs.length c6, .slice a7 o.lows.length c7, .slice a8 o.highs.length c8, .int .i64 o.low, .int .i64 o.high, .int .i64 o.lowF, .int .i64 o.highF] 31))) (hat.below hA2)
      unfold objV at hM
      dsimp only at hM
      cases hm : mayO o
      · have HE : Hid (G = none) := by
          show _ = _
          rw [hG.out]; unfold getAll; rw [hg]
          exact if_neg (fun e => by rw [hm] at e; cases e.2)
        rw [hm] at hM
        clear hR2 hbox
        go_wp2_with (fail)
        refine hM.mono ?_
        rintro e w3 ⟨rfl, hb3⟩
        go_wp2
        exact ⟨rfl, (hF0.alloc _).trans (.below hb3 r nilV), by rw [HE.out]; rfl⟩
      · have HE : Hid (G = some o) := by
          show _ = _
          rw [hG.out]; unfold getAll; rw [hg]
          exact if_pos ⟨rfl, hm⟩
        rw [hm] at hM
        clear hR2 hbox
        go_wp2_with (fail)
        refine hM.mono ?_
        rintro e w3 ⟨rfl, hb3⟩
        have hbo := (BoxC.new w2 #[.string o.face.module, .slice a1 o.face.vars.length c1, .slice a2 o.face.procs.length c2, .slice a3 o.imports.length c3, .slice a4 o.code.length c4, .slice a5 o.relocs.length c5, .slice a6 o.procs.length c6, .slice a7 o.lows.length c7, .slice a8 o.highs.length c8, .int .i64 o.low, .int .i64 o.high, .int .i64 o.lowF, .int .i64 o.highF] 31).below hb3
        have hbr := (hb0.alloc (.cells #[.string o.face.module, .slice a1 o.face.vars.length c1, .slice a2 o.face.procs.length c2, .slice a3 o.imports.length c3, .slice a4 o.code.length c4, .slice a5 o.relocs.length c5, .slice a6 o.procs.length c6, .slice a7 o.lows.length c7, .slice a8 o.highs.length c8, .int .i64 o.low, .int .i64 o.high, .int .i64 o.lowF, .int .i64 o.highF] 31)).fr (.below hb3 r nilV)
        have hFz := (hF0.alloc (.cells #[.string o.face.module, .slice a1 o.face.vars.length c1, .slice a2 o.face.procs.length c2, .slice a3 o.imports.length c3, .slice a4 o.code.length c4, .slice a5 o.relocs.length c5, .slice a6 o.procs.length c6, .slice a7 o.lows.length c7, .slice a8 o.highs.length c8, .int .i64 o.low, .int .i64 o.high, .int .i64 o.lowF, .int .i64 o.highF] 31)).trans (.below hb3 r nilV)
        have hbF := box_row (cs := #[.string o.face.module, .slice a1 o.face.vars.length c1, .slice a2 o.face.procs.length c2, .slice a3 o.imports.length c3, .slice a4 o.code.length c4, .slice a5 o.relocs.length c5, .slice a6 o.procs.length c6, .slice a7 o.lows.length c7, .slice a8 o.highs.length c8, .int .i64 o.low, .int .i64 o.high, .int .i64 o.lowF, .int .i64 o.highF]) hbr.box
        have hFF := hFz.row (b := w.heap.size) (Nat.le_refl _) #[.string o.face.module, .slice a1 o.face.vars.length c1, .slice a2 o.face.procs.length c2, .slice a3 o.imports.length c3, .slice a4 o.code.length c4, .slice a5 o.relocs.length c5, .slice a6 o.procs.length c6, .slice a7 o.lows.length c7, .slice a8 o.highs.length c8, .int .i64 o.low, .int .i64 o.high, .int .i64 o.lowF, .int .i64 o.highF]
        have y0 := hbo.cell 0 rfl
        have z0 := hbr.cell 0 rfl
        have f0 := hbr.box.fz 0
        have y1 := hbo.cell 1 rfl
        have z1 := hbr.cell 1 rfl
        have f1 := hbr.box.fz 1
        have y2 := hbo.cell 2 rfl
        have z2 := hbr.cell 2 rfl
        have f2 := hbr.box.fz 2
        have y3 := hbo.cell 3 rfl
        have z3 := hbr.cell 3 rfl
        have f3 := hbr.box.fz 3
        have y4 := hbo.cell 4 rfl
        have z4 := hbr.cell 4 rfl
        have f4 := hbr.box.fz 4
        have y5 := hbo.cell 5 rfl
        have z5 := hbr.cell 5 rfl
        have f5 := hbr.box.fz 5
        have y6 := hbo.cell 6 rfl
        have z6 := hbr.cell 6 rfl
        have f6 := hbr.box.fz 6
        have y7 := hbo.cell 7 rfl
        have z7 := hbr.cell 7 rfl
        have f7 := hbr.box.fz 7
        have y8 := hbo.cell 8 rfl
        have z8 := hbr.cell 8 rfl
        have f8 := hbr.box.fz 8
        have y9 := hbo.cell 9 rfl
        have z9 := hbr.cell 9 rfl
        have f9 := hbr.box.fz 9
        have y10 := hbo.cell 10 rfl
        have z10 := hbr.cell 10 rfl
        have f10 := hbr.box.fz 10
        have y11 := hbo.cell 11 rfl
        have z11 := hbr.cell 11 rfl
        have f11 := hbr.box.fz 11
        have y12 := hbo.cell 12 rfl
        have z12 := hbr.cell 12 rfl
        have f12 := hbr.box.fz 12
        have h13 := set13 (x0 := .string o.face.module) (x1 := .slice a1 o.face.vars.length c1) (x2 := .slice a2 o.face.procs.length c2) (x3 := .slice a3 o.imports.length c3) (x4 := .slice a4 o.code.length c4) (x5 := .slice a5 o.relocs.length c5) (x6 := .slice a6 o.procs.length c6) (x7 := .slice a7 o.lows.length c7) (x8 := .slice a8 o.highs.length c8) (x9 := .int .i64 o.low) (x10 := .int .i64 o.high) (x11 := .int .i64 o.lowF) (x12 := .int .i64 o.highF) hbr.box
        have HAT : Hid (ObjAt (win (w3.setRow w.heap.size #[.string o.face.module, .slice a1 o.face.vars.length c1, .slice a2 o.face.procs.length c2, .slice a3 o.imports.length c3, .slice a4 o.code.length c4, .slice a5 o.relocs.length c5, .slice a6 o.procs.length c6, .slice a7 o.lows.length c7, .slice a8 o.highs.length c8, .int .i64 o.low, .int .i64 o.high, .int .i64 o.lowF, .int .i64 o.highF]) w.heap.size (w3.setRow w.heap.size #[.string o.face.module, .slice a1 o.face.vars.length c1, .slice a2 o.face.procs.length c2, .slice a3 o.imports.length c3, .slice a4 o.code.length c4, .slice a5 o.relocs.length c5, .slice a6 o.procs.length c6, .slice a7 o.lows.length c7, .slice a8 o.highs.length c8, .int .i64 o.low, .int .i64 o.high, .int .i64 o.lowF, .int .i64 o.highF]).heap.size) ⟨.slice a1 o.face.vars.length c1, .slice a2 o.face.procs.length c2, .slice a3 o.imports.length c3, .slice a4 o.code.length c4, .slice a5 o.relocs.length c5, .slice a6 o.procs.length c6, .slice a7 o.lows.length c7, .slice a8 o.highs.length c8⟩ o) := by
          have hsz3 := hb3.size
          rw [World.size_alloc] at hsz3
          refine hq.at (win_to (fun k h1 h2 => ?_) (Nat.le_succ _) (by simp; omega)) hsm
          rw [setRow_other _ _ _ _ (by omega), hb3.block k (by simp; omega)]
          exact hA2.block k h2
        clear hb0 hF0 hFz hbo hbr hat hM hb3 hq hA2 hR
        go_wp2
        refine bodyPost_ret (v := .agg #[.string o.face.module, .slice a1 o.face.vars.length c1, .slice a2 o.face.procs.length c2, .slice a3 o.imports.length c3, .slice a4 o.code.length c4, .slice a5 o.relocs.length c5, .slice a6 o.procs.length c6, .slice a7 o.lows.length c7, .slice a8 o.highs.length c8, .int .i64 o.low, .int .i64 o.high, .int .i64 o.lowF, .int .i64 o.highF]) (res_whole _ _ hbF c13) rfl ?_
        refine ⟨hFF, ?_⟩
        rw [HE.out]
        exact ⟨_, rfl, HAT.out, hsh⟩
end Go.Proofs.YthfeojjfehbgjaaGreatDoor.obj
