/- What the program's May answers of an object: a contract. -/
import Derived.Test.YthfeojjfehbgjaaGreatDoorOPObjMayB
namespace Go.Proofs.YthfeojjfehbgjaaGreatDoor.obj
open Go.RowKit
open Go.Proofs.YthfeojjfehbgjaaGreatDoor.lexs (HasErr)
open Go.Proofs.YthfeojjfehbgjaaGreatDoor.mac (Ins hasB BoxC)
open Go.Proofs.YthfeojjfehbgjaaGreatDoor.face (VarD ProcD FaceD keep ret_b VarsIn ProcsIn)
set_option linter.unusedVariables false
set_option linter.unusedSimpArgs false
set_option maxRecDepth 100000
/-- its slices, written out -/
theorem ObjAt.shape {w : World} {x : Vals} {o : ObjD} (h : ObjAt w x o) : ∃ a1 c1 a2 c2 a3 c3 a4 c4 a5 c5 a6 c6 a7 c7 a8 c8, x = ⟨.slice a1 o.face.vars.length c1, .slice a2 o.face.procs.length c2, .slice a3 o.imports.length c3, .slice a4 o.code.length c4, .slice a5 o.relocs.length c5, .slice a6 o.procs.length c6, .slice a7 o.lows.length c7, .slice a8 o.highs.length c8⟩ := by
  obtain ⟨vv, pv, iv, cv, rv, p1, p2, p3⟩ := x
  obtain ⟨h1, h2, h3, h4, h5, h6, h7, h8⟩ := h
  dsimp only at h1 h2 h3 h4 h5 h6 h7 h8
  obtain ⟨a1, c1, rfl, _⟩ := h1
  obtain ⟨a2, c2, rfl, _⟩ := h2
  obtain ⟨a3, c3, rfl, _⟩ := h3
  obtain ⟨a4, c4, rfl, _⟩ := h4
  obtain ⟨a5, c5, rfl, _⟩ := h5
  obtain ⟨a6, c6, rfl, _⟩ := h6
  obtain ⟨a7, c7, rfl, _⟩ := h7
  obtain ⟨a8, c8, rfl, _⟩ := h8
  exact ⟨_, _, _, _, _, _, _, _, _, _, _, _, _, _, _, _, rfl⟩
theorem cells_row (w : World) (l : List Int) : l ≠ [] → ∃ g o, some (⟨w.heap.size, 0, none⟩ : Addr) = some ⟨g, o, none⟩ ∧ ∀ i (h : i < l.length), (w.alloc (.cells (l.map fun x => Value.int .i64 x).toArray 3)).cell? ⟨g, o + i, none⟩ = some (.int .i64 l[i]) := fun _ => by
  refine ⟨w.heap.size, 0, rfl, fun i hi => ?_⟩
  rw [Nat.zero_add]
  exact (BoxC.new w (l.map fun x => Value.int .i64 x).toArray 3).cell i (v := .int .i64 l[i]) (by simp [hi])
theorem oMayWords4 (a b c d : Int) (w : World) :
    Calls Tryz.prog 15 #[.slice (some ⟨w.heap.size, 0, none⟩) 4 4] (w.alloc (.cells #[.int .i64 a, .int .i64 b, .int .i64 c, .int .i64 d] 3)) fun e w' => e = .returned (.bool (wordsB [a, b, c, d])) ∧ Below w.heap.size w w' :=
  (oMayWords [a, b, c, d] _ 4 _ (by simp) (cells_row w [a, b, c, d])).mono fun e w' h => ⟨h.1, h.2 ▸ (Below.refl _ _).alloc (Nat.le_refl _) _⟩
set_option maxHeartbeats 2000000 in
theorem oMayO (o : ObjD) (x : Vals) (w : World) (hw : HasErr w) (ho : ObjAt w x o) :
    Calls Tryz.prog 5 #[objV o x] w fun e w' => e = .returned (.bool (mayO o)) ∧ Below w.heap.size w w' := by
  have c13 : Tryz.prog.cellsOf 31 = 13 := by kernel_rfl
  have c3 : Tryz.prog.cellsOf 25 = 3 := face.cell3
  obtain ⟨a1, c1, a2, c2, a3, c3', a4, c4, a5, c5, a6, c6, a7, c7, a8, c8, rfl⟩ := ho.shape
  obtain ⟨h1, h2, h3, h4, h5, h6, h7, h8⟩ := ho
  dsimp only at h1 h2 h3 h4 h5 h6 h7 h8
  have HV : Hid (mayO o = (facesB o.face o.imports && (codeB o.code && (relocsB o.code.length 0 o.relocs && (wordsB [o.low, o.high, o.lowF, o.highF] && (placesB o.procs o.code.length && (placesB o.lows o.low && placesB o.highs o.high))))))) := rfl
  have hcl : o.code.length ≤ 1048576 := by obtain ⟨_, _, _, h, _⟩ := h4; exact h
  unfold objV
  dsimp only
  have hB := (Below.refl w.heap.size w).alloc (Nat.le_refl _) (.cells #[.string o.face.module, .slice a1 o.face.vars.length c1, .slice a2 o.face.procs.length c2, .slice a3 o.imports.length c3', .slice a4 o.code.length c4, .slice a5 o.relocs.length c5, .slice a6 o.procs.length c6, .slice a7 o.lows.length c7, .slice a8 o.highs.length c8, .int .i64 o.low, .int .i64 o.high, .int .i64 o.lowF, .int .i64 o.highF] 31)
  have hbx := BoxC.new w #[.string o.face.module, .slice a1 o.face.vars.length c1, .slice a2 o.face.procs.length c2, .slice a3 o.imports.length c3', .slice a4 o.code.length c4, .slice a5 o.relocs.length c5, .slice a6 o.procs.length c6, .slice a7 o.lows.length c7, .slice a8 o.highs.length c8, .int .i64 o.low, .int .i64 o.high, .int .i64 o.lowF, .int .i64 o.highF] 31
  have hC := oMayFaces o.face (.slice a1 o.face.vars.length c1) (.slice a2 o.face.procs.length c2) o.imports (.slice a3 o.imports.length c3') (w.alloc (.cells #[.string o.face.module, .slice a1 o.face.vars.length c1, .slice a2 o.face.procs.length c2, .slice a3 o.imports.length c3', .slice a4 o.code.length c4, .slice a5 o.relocs.length c5, .slice a6 o.procs.length c6, .slice a7 o.lows.length c7, .slice a8 o.highs.length c8, .int .i64 o.low, .int .i64 o.high, .int .i64 o.lowF, .int .i64 o.highF] 31)) (face.HasErr.below hw hB) (h1.below hB) (h2.below hB) (h3.below hB)
  unfold faceV at hC
  go_enter Tryz.func5, Tryz.ntmps5
  go_wp2_with (fail)
  refine hC.mono ?_
  rintro e w1 ⟨rfl, hb1⟩
  clear hC
  replace hB := hB.trans (hb1.mono hB.size)
  replace hbx := hbx.below hb1
  cases q1 : facesB o.face o.imports
  case false =>
    have HF : Hid (mayO o = false) := by show _ = _; rw [HV.out, q1]; rfl
    go_wp2
    go_ret
    exact ⟨ret_b HF.out.symm, hB⟩
  have y4 := hbx.cell 4 rfl
  go_wp2_with (fail)
  refine (oMayCode o.code _ _ (h4.below hB)).mono ?_
  rintro e w2 ⟨rfl, hb2⟩
  replace hB := hB.trans (hb2.mono hB.size)
  replace hbx := hbx.below hb2
  cases q2 : codeB o.code
  case false =>
    have HF : Hid (mayO o = false) := by show _ = _; rw [HV.out, q1, q2]; rfl
    go_wp2
    go_ret
    exact ⟨ret_b HF.out.symm, hB⟩
  have y5 := hbx.cell 5 rfl
  go_wp2_with (fail)
  refine (oMayRelocs o.relocs _ o.code.length _ (face.HasErr.below hw hB) hcl (h5.below hB)).mono ?_
  rintro e w3 ⟨rfl, hb3⟩
  replace hB := hB.trans (hb3.mono hB.size)
  replace hbx := hbx.below hb3
  cases q3 : relocsB o.code.length 0 o.relocs
  case false =>
    have HF : Hid (mayO o = false) := by show _ = _; rw [HV.out, q1, q2, q3]; rfl
    go_wp2
    go_ret
    exact ⟨ret_b HF.out.symm, hB⟩
  have y9 := hbx.cell 9 rfl
  have y10 := hbx.cell 10 rfl
  have y11 := hbx.cell 11 rfl
  have y12 := hbx.cell 12 rfl
  go_wp2_with (fail)
  refine (oMayWords4 o.low o.high o.lowF o.highF w3).mono ?_
  rintro e w4 ⟨rfl, hb4⟩
  replace hB := hB.trans (hb4.mono hB.size)
  replace hbx := hbx.below hb4
  cases q4 : wordsB [o.low, o.high, o.lowF, o.highF]
  case false =>
    have HF : Hid (mayO o = false) := by show _ = _; rw [HV.out, q1, q2, q3, q4]; rfl
    go_wp2
    go_ret
    exact ⟨ret_b HF.out.symm, hB⟩
  have z6 := hbx.cell 6 rfl
  go_wp2_with (fail)
  refine (oMayPlaces o.procs _ o.code.length _ (face.HasErr.below hw hB) (h6.below hB)).mono ?_
  rintro e w5 ⟨rfl, hb5⟩
  replace hB := hB.trans (hb5.mono hB.size)
  replace hbx := hbx.below hb5
  cases q5 : placesB o.procs o.code.length
  case false =>
    have HF : Hid (mayO o = false) := by show _ = _; rw [HV.out, q1, q2, q3, q4, q5]; rfl
    go_wp2
    go_ret
    exact ⟨ret_b HF.out.symm, hB⟩
  have z7 := hbx.cell 7 rfl
  have z9 := hbx.cell 9 rfl
  go_wp2_with (fail)
  refine (oMayPlaces o.lows _ o.low _ (face.HasErr.below hw hB) (h7.below hB)).mono ?_
  rintro e w6 ⟨rfl, hb6⟩
  replace hB := hB.trans (hb6.mono hB.size)
  replace hbx := hbx.below hb6
  cases q6 : placesB o.lows o.low
  case false =>
    have HF : Hid (mayO o = false) := by show _ = _; rw [HV.out, q1, q2, q3, q4, q5, q6]; rfl
    go_wp2
    go_ret
    exact ⟨ret_b HF.out.symm, hB⟩
  have z8 := hbx.cell 8 rfl
  have z10 := hbx.cell 10 rfl
  go_wp2_with (fail)
  refine (oMayPlaces o.highs _ o.high _ (face.HasErr.below hw hB) (h8.below hB)).mono ?_
  rintro e w7 ⟨rfl, hb7⟩
  replace hB := hB.trans (hb7.mono hB.size)
  cases q7 : placesB o.highs o.high
  case false =>
    have HF : Hid (mayO o = false) := by show _ = _; rw [HV.out, q1, q2, q3, q4, q5, q6, q7]; rfl
    go_wp2
    go_ret
    exact ⟨ret_b HF.out.symm, hB⟩
  have HF : Hid (mayO o = true) := by show _ = _; rw [HV.out, q1, q2, q3, q4, q5, q6, q7]; rfl
  go_wp2
  go_ret
  exact ⟨ret_b HF.out.symm, hB⟩
end Go.Proofs.YthfeojjfehbgjaaGreatDoor.obj
