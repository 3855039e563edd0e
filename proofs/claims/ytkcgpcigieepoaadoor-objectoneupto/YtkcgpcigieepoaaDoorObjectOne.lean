/- The law ObjectOne: objects with the same bytes are the same. -/
import Derived.Test.YtkcgpcigieepoaaDoorObjStr
import Derived.Test.YtkcgpcigieepoaaDoorObjSameO
namespace Go.Proofs.YtkcgpcigieepoaaDoor.obj
open Go.RowKit
open Go.Proofs.YtkcgpcigieepoaaDoor.lexs (HasErr)
open Go.Proofs.YtkcgpcigieepoaaDoor.mac (Ins BoxC)
set_option linter.unusedVariables false
set_option linter.unusedSimpArgs false
set_option maxRecDepth 100000
set_option maxHeartbeats 4000000 in
theorem one_walk (a b : ObjD) (x y : Vals) (w : World) (hw : HasErr w) (ha : ObjAt w x a) (hb : ObjAt w y b) (fa : Fit a) (fb : Fit b) :
    Calls Tryd.prog 3 #[objV a x, objV b y] w fun e w' => e = .returned (.bool true) ∧ Below w.heap.size w w' := by
  have c13 : Tryd.prog.cellsOf 31 = 13 := by kernel_rfl
  obtain ⟨a1, ac1, a2, ac2, a3, ac3, a4, ac4, a5, ac5, a6, ac6, a7, ac7, a8, ac8, rfl⟩ := ha.shape
  obtain ⟨b1, bc1, b2, bc2, b3, bc3, b4, bc4, b5, bc5, b6, bc6, b7, bc7, b8, bc8, rfl⟩ := hb.shape
  have hT : Two w ((w.alloc (.cells #[.string a.face.module, .slice a1 a.face.vars.length ac1, .slice a2 a.face.procs.length ac2, .slice a3 a.imports.length ac3, .slice a4 a.code.length ac4, .slice a5 a.relocs.length ac5, .slice a6 a.procs.length ac6, .slice a7 a.lows.length ac7, .slice a8 a.highs.length ac8, .int .i64 a.low, .int .i64 a.high, .int .i64 a.lowF, .int .i64 a.highF] 31)).alloc (.cells #[.string b.face.module, .slice b1 b.face.vars.length bc1, .slice b2 b.face.procs.length bc2, .slice b3 b.imports.length bc3, .slice b4 b.code.length bc4, .slice b5 b.relocs.length bc5, .slice b6 b.procs.length bc6, .slice b7 b.lows.length bc7, .slice b8 b.highs.length bc8, .int .i64 b.low, .int .i64 b.high, .int .i64 b.lowF, .int .i64 b.highF] 31)) w.heap.size #[.string a.face.module, .slice a1 a.face.vars.length ac1, .slice a2 a.face.procs.length ac2, .slice a3 a.imports.length ac3, .slice a4 a.code.length ac4, .slice a5 a.relocs.length ac5, .slice a6 a.procs.length ac6, .slice a7 a.lows.length ac7, .slice a8 a.highs.length ac8, .int .i64 a.low, .int .i64 a.high, .int .i64 a.lowF, .int .i64 a.highF] #[.string b.face.module, .slice b1 b.face.vars.length bc1, .slice b2 b.face.procs.length bc2, .slice b3 b.imports.length bc3, .slice b4 b.code.length bc4, .slice b5 b.relocs.length bc5, .slice b6 b.procs.length bc6, .slice b7 b.lows.length bc7, .slice b8 b.highs.length bc8, .int .i64 b.low, .int .i64 b.high, .int .i64 b.lowF, .int .i64 b.highF] := by
    have h0 := (Below.refl w.heap.size w).alloc (Nat.le_refl _) (.cells #[.string a.face.module, .slice a1 a.face.vars.length ac1, .slice a2 a.face.procs.length ac2, .slice a3 a.imports.length ac3, .slice a4 a.code.length ac4, .slice a5 a.relocs.length ac5, .slice a6 a.procs.length ac6, .slice a7 a.lows.length ac7, .slice a8 a.highs.length ac8, .int .i64 a.low, .int .i64 a.high, .int .i64 a.lowF, .int .i64 a.highF] 31)
    have h1 := BoxC.new (w.alloc (.cells #[.string a.face.module, .slice a1 a.face.vars.length ac1, .slice a2 a.face.procs.length ac2, .slice a3 a.imports.length ac3, .slice a4 a.code.length ac4, .slice a5 a.relocs.length ac5, .slice a6 a.procs.length ac6, .slice a7 a.lows.length ac7, .slice a8 a.highs.length ac8, .int .i64 a.low, .int .i64 a.high, .int .i64 a.lowF, .int .i64 a.highF] 31)) #[.string b.face.module, .slice b1 b.face.vars.length bc1, .slice b2 b.face.procs.length bc2, .slice b3 b.imports.length bc3, .slice b4 b.code.length bc4, .slice b5 b.relocs.length bc5, .slice b6 b.procs.length bc6, .slice b7 b.lows.length bc7, .slice b8 b.highs.length bc8, .int .i64 b.low, .int .i64 b.high, .int .i64 b.lowF, .int .i64 b.highF] 31
    rw [World.size_alloc] at h1
    exact ⟨h0.alloc h0.size _, (BoxC.new w _ _).alloc _, h1⟩
  have hC := oPut a _ _ (face.HasErr.below hw hT.to) (ha.below hT.to) fa
  unfold objV at hC ⊢
  dsimp only at hC ⊢
  go_enter Tryd.func3, Tryd.ntmps3
  go_wp2_with (fail)
  refine hC.mono ?_
  rintro e w1 ⟨hb1, hE1⟩
  clear hC
  replace hT := hT.below hb1
  have hD := oPut b _ _ (face.HasErr.below hw hT.to) (hb.below hT.to) fb
  unfold objV at hD
  dsimp only at hD
  have z0 := hT.bz.cell 0 rfl
  have z1 := hT.bz.cell 1 rfl
  have z2 := hT.bz.cell 2 rfl
  have z3 := hT.bz.cell 3 rfl
  have z4 := hT.bz.cell 4 rfl
  have z5 := hT.bz.cell 5 rfl
  have z6 := hT.bz.cell 6 rfl
  have z7 := hT.bz.cell 7 rfl
  have z8 := hT.bz.cell 8 rfl
  have z9 := hT.bz.cell 9 rfl
  have z10 := hT.bz.cell 10 rfl
  have z11 := hT.bz.cell 11 rfl
  have z12 := hT.bz.cell 12 rfl
  cases hma : mayO a
  · rw [hma] at hE1
    simp only [Bool.false_eq_true, if_false] at hE1
    subst hE1
    go_wp2_with (fail)
    refine hD.mono ?_
    rintro e w2 ⟨hb2, hE2⟩
    clear hD
    replace hT := hT.below hb2
    cases hmb : mayO b
    · rw [hmb] at hE2
      simp only [Bool.false_eq_true, if_false] at hE2
      subst hE2
      go_wp2
      go_ret
      exact ⟨rfl, hT.to⟩
    · rw [hmb] at hE2
      simp only [if_true] at hE2
      obtain ⟨v2, rfl, _⟩ := hE2
      go_wp2
      go_ret
      exact ⟨rfl, hT.to⟩
  · rw [hma] at hE1
    simp only [if_true] at hE1
    obtain ⟨v1, rfl, hown1⟩ := hE1
    have hp1 := obj_pos a
    obtain ⟨g1, k1, rfl, hg1⟩ := own_pos hown1 hp1
    go_wp2_with (fail)
    refine hD.mono ?_
    rintro e w2 ⟨hb2, hE2⟩
    clear hD
    replace hT := hT.below hb2
    have hS1 := conv_bytes hown1 hp1 w2 hb2
    cases hmb : mayO b
    · rw [hmb] at hE2
      simp only [Bool.false_eq_true, if_false] at hE2
      subst hE2
      clear hS1
      go_wp2
      go_ret
      exact ⟨rfl, hT.to⟩
    · rw [hmb] at hE2
      simp only [if_true] at hE2
      obtain ⟨v2, rfl, hown2⟩ := hE2
      have hp2 := obj_pos b
      obtain ⟨g2, k2, rfl, hg2⟩ := own_pos hown2 hp2
      have hS2 := conv_bytes hown2 hp2 w2 (Below.refl _ _)
      by_cases he : objB a = objB b
      · have hab := obj_one hma fa hmb fb he
        subst hab
        have hL : 0 < ((objB a).length : Int) := by omega
        generalize objB a = LL at *
        clear he hown1 hown2 hg1 hg2
        have hR := rSameO a _ _ _ (ha.below hT.to) (hb.below hT.to)
        unfold objV at hR
        dsimp only at hR
        have y0 := hT.bx.cell 0 rfl
        have zz0 := hT.bz.cell 0 rfl
        have y1 := hT.bx.cell 1 rfl
        have zz1 := hT.bz.cell 1 rfl
        have y2 := hT.bx.cell 2 rfl
        have zz2 := hT.bz.cell 2 rfl
        have y3 := hT.bx.cell 3 rfl
        have zz3 := hT.bz.cell 3 rfl
        have y4 := hT.bx.cell 4 rfl
        have zz4 := hT.bz.cell 4 rfl
        have y5 := hT.bx.cell 5 rfl
        have zz5 := hT.bz.cell 5 rfl
        have y6 := hT.bx.cell 6 rfl
        have zz6 := hT.bz.cell 6 rfl
        have y7 := hT.bx.cell 7 rfl
        have zz7 := hT.bz.cell 7 rfl
        have y8 := hT.bx.cell 8 rfl
        have zz8 := hT.bz.cell 8 rfl
        have y9 := hT.bx.cell 9 rfl
        have zz9 := hT.bz.cell 9 rfl
        have y10 := hT.bx.cell 10 rfl
        have zz10 := hT.bz.cell 10 rfl
        have y11 := hT.bx.cell 11 rfl
        have zz11 := hT.bz.cell 11 rfl
        have y12 := hT.bx.cell 12 rfl
        have zz12 := hT.bz.cell 12 rfl
        clear z0 z1 z2 z3 z4 z5 z6 z7 z8 z9 z10 z11 z12
        go_wp2_with (fail)
        refine hR.mono ?_
        rintro e w3 ⟨rfl, hb3⟩
        go_wp2
        go_ret
        exact ⟨rfl, hT.to.trans (hb3.mono hT.to.size)⟩
      · have hne : (objB a == objB b) = false := by simpa using he
        clear he
        generalize objB a = LL at *
        generalize objB b = MM at *
        go_wp2
        go_ret
        exact ⟨rfl, hT.to⟩
end Go.Proofs.YtkcgpcigieepoaaDoor.obj
