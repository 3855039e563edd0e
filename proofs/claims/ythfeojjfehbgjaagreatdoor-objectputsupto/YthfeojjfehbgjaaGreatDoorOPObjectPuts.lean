/- The law ObjectPuts: which objects have the form, and their bytes. -/
import Derived.Test.YthfeojjfehbgjaaGreatDoorOPObjStr
import Derived.Test.YthfeojjfehbgjaaGreatDoorOPObjRefM
import Derived.Test.YthfeojjfehbgjaaGreatDoorOPObjRefZ
namespace Go.Proofs.YthfeojjfehbgjaaGreatDoor.obj
open Go.RowKit
open Go.Proofs.YthfeojjfehbgjaaGreatDoor.lexs (HasErr)
open Go.Proofs.YthfeojjfehbgjaaGreatDoor.mac (Ins BoxC)
set_option linter.unusedVariables false
set_option linter.unusedSimpArgs false
set_option maxRecDepth 100000
set_option maxHeartbeats 4000000 in
theorem puts_walk (o : ObjD) (x : Vals) (w : World) (hw : HasErr w) (ho : ObjAt w x o) (fo : Fit o) :
    Calls Tryz.prog 3 #[objV o x] w fun e w' => e = .returned (.bool true) ∧ Below w.heap.size w w' := by
  have cf13 : Tryz.prog.cellsOf 31 = 13 := by kernel_rfl
  obtain ⟨a1, c1, a2, c2, a3, c3, a4, c4, a5, c5, a6, c6, a7, c7, a8, c8, rfl⟩ := ho.shape
  have hm := MonoF.new w #[.string o.face.module, .slice a1 o.face.vars.length c1, .slice a2 o.face.procs.length c2, .slice a3 o.imports.length c3, .slice a4 o.code.length c4, .slice a5 o.relocs.length c5, .slice a6 o.procs.length c6, .slice a7 o.lows.length c7, .slice a8 o.highs.length c8, .int .i64 o.low, .int .i64 o.high, .int .i64 o.lowF, .int .i64 o.highF] 31
  have hC := oMayO o _ _ (face.HasErr.below hw hm.to) (ho.below hm.to)
  unfold objV at hC ⊢
  dsimp only at hC ⊢
  go_enter Tryz.func3, Tryz.ntmps3
  go_wp2_with (fail)
  refine hC.mono ?_
  rintro e w1 ⟨rfl, hb1⟩
  clear hC
  replace hm := hm.below hb1
  have hD := oPut o _ _ (face.HasErr.below hw hm.to) (ho.below hm.to) fo
  unfold objV at hD
  dsimp only at hD
  have z0 := hm.bx.cell 0 rfl
  have z1 := hm.bx.cell 1 rfl
  have z2 := hm.bx.cell 2 rfl
  have z3 := hm.bx.cell 3 rfl
  have z4 := hm.bx.cell 4 rfl
  have z5 := hm.bx.cell 5 rfl
  have z6 := hm.bx.cell 6 rfl
  have z7 := hm.bx.cell 7 rfl
  have z8 := hm.bx.cell 8 rfl
  have z9 := hm.bx.cell 9 rfl
  have z10 := hm.bx.cell 10 rfl
  have z11 := hm.bx.cell 11 rfl
  have z12 := hm.bx.cell 12 rfl
  go_wp2_with (fail)
  refine hD.mono ?_
  rintro e w2 ⟨hb2, hE2⟩
  clear hD
  replace hm := hm.below hb2
  have hR := rMayO o _ _ (ho.below hm.to)
  unfold objV at hR
  dsimp only at hR
  clear z0 z1 z2 z3 z4 z5 z6 z7 z8 z9 z10 z11 z12
  have z0 := hm.bx.cell 0 rfl
  have z1 := hm.bx.cell 1 rfl
  have z2 := hm.bx.cell 2 rfl
  have z3 := hm.bx.cell 3 rfl
  have z4 := hm.bx.cell 4 rfl
  have z5 := hm.bx.cell 5 rfl
  have z6 := hm.bx.cell 6 rfl
  have z7 := hm.bx.cell 7 rfl
  have z8 := hm.bx.cell 8 rfl
  have z9 := hm.bx.cell 9 rfl
  have z10 := hm.bx.cell 10 rfl
  have z11 := hm.bx.cell 11 rfl
  have z12 := hm.bx.cell 12 rfl
  cases hma : mayO o
  · rw [hma] at hE2 hR
    simp only [Bool.false_eq_true, if_false] at hE2
    subst hE2
    go_wp2_with (fail)
    refine hR.mono ?_
    rintro e w3 ⟨rfl, hb3⟩
    clear hR
    replace hm := hm.below hb3
    go_wp2
    go_ret
    exact ⟨rfl, hm.to⟩
  · rw [hma] at hE2 hR
    simp only [if_true] at hE2
    obtain ⟨v1, rfl, hown1⟩ := hE2
    have hp1 := obj_pos o
    obtain ⟨g1, k1, rfl, hg1⟩ := own_pos hown1 hp1
    go_wp2_with (fail)
    refine hR.mono ?_
    rintro e w3 ⟨rfl, hb3⟩
    clear hR
    replace hm := hm.below hb3
    have hB := rBytes o _ _ (ho.below hm.to) hma fo
    unfold objV at hB
    dsimp only at hB
    clear z0 z1 z2 z3 z4 z5 z6 z7 z8 z9 z10 z11 z12
    have z0 := hm.bx.cell 0 rfl
    have z1 := hm.bx.cell 1 rfl
    have z2 := hm.bx.cell 2 rfl
    have z3 := hm.bx.cell 3 rfl
    have z4 := hm.bx.cell 4 rfl
    have z5 := hm.bx.cell 5 rfl
    have z6 := hm.bx.cell 6 rfl
    have z7 := hm.bx.cell 7 rfl
    have z8 := hm.bx.cell 8 rfl
    have z9 := hm.bx.cell 9 rfl
    have z10 := hm.bx.cell 10 rfl
    have z11 := hm.bx.cell 11 rfl
    have z12 := hm.bx.cell 12 rfl
    go_wp2_with (fail)
    refine hB.mono ?_
    rintro e w4 ⟨rfl, hb4⟩
    clear hB
    have hS := conv_bytes hown1 hp1 w4 (hb3.trans (hb4.mono hb3.size))
    replace hm := hm.below hb4
    clear hown1 hg1
    unfold tx
    generalize objB o = LL at *
    go_wp2
    go_ret
    exact ⟨rfl, hm.to⟩
end Go.Proofs.YthfeojjfehbgjaaGreatDoor.obj
