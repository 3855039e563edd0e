/- Of bytes that are handed in: both readers tell the same (law ObjectGets): the law's walk. -/
import Derived.Test.YthfeojjfehbgjaaGreatDoorOGObjRdH
import Derived.Test.YthfeojjfehbgjaaGreatDoorOGObjRdG
import Derived.Test.YthfeojjfehbgjaaGreatDoorOGObjSame
namespace Go.Proofs.YthfeojjfehbgjaaGreatDoor.obj
open Go.RowKit
open Go.Proofs.YthfeojjfehbgjaaGreatDoor.lexs (HasErr)
open Go.Proofs.YthfeojjfehbgjaaGreatDoor.mac (BoxC grown_of_below)
set_option linter.unusedVariables false
set_option linter.unusedSimpArgs false
set_option maxRecDepth 100000
theorem ByArg.below {w w' : World} {a : Option Addr} {c : Nat} {l : By} (h : ByArg w a c l) (hb : Below w.heap.size w w') : ByArg w' a c l :=
  ⟨h.le, h.most, h.nil, h.plain, fun hne => by
    obtain ⟨g, o, e, hg, hc⟩ := h.by' hne
    exact ⟨g, o, e, Nat.lt_of_lt_of_le hg hb.size, fun i hi => (hb.cell (p := ⟨g, o + i, none⟩) hg).trans (hc i hi)⟩⟩
set_option maxHeartbeats 4000000 in
theorem gets_walk {w : World} {a : Option Addr} {c : Nat} {l : By} (h : ByArg w a c l) (hw : HasErr w) (hl : l.length ≤ 1048576) :
    Calls Tryz.prog 4 #[.slice a l.length c] w fun e w' => e = .returned (.bool true) ∧ Below w.heap.size w w' := by
  have c13 : Tryz.prog.cellsOf 31 = 13 := by kernel_rfl
  obtain ⟨o, ho⟩ : ∃ o, o = (getAll l).getD zeroO := ⟨_, rfl⟩
  obtain ⟨q, hq⟩ : ∃ q : Int, q = if (getAll l).isSome then 0 else 2 := ⟨_, rfl⟩
  have hC : Calls Tryz.prog 9 #[.slice a l.length c] w (fun e w2 => Below w.heap.size w w2 ∧ ∃ x, e = .returned (.tuple #[objV o x, .int .i64 q]) ∧ ObjAt w2 x o) := by rw [ho, hq]; exact oGet h hw (by omega) (small_len hl)
  have hR : Hid (∀ w1, Below w.heap.size w w1 → Calls Tryz.prog 10 #[.slice a l.length c] w1 (fun e w2 => Below w1.heap.size w1 w2 ∧ ∃ x, e = .returned (.tuple #[objV o x, .int .i64 q]) ∧ ObjAt w2 x o)) := fun w1 hb => by rw [ho, hq]; exact rGet (h.below hb) hl
  clear h hw hl ho hq
  go_enter Tryz.func4, Tryz.ntmps4
  go_wp2_with (fail)
  refine hC.mono ?_
  clear hC
  rintro e w1 ⟨hb1, x, rfl, hx⟩
  obtain ⟨a1, ac1, a2, ac2, a3, ac3, a4, ac4, a5, ac5, a6, ac6, a7, ac7, a8, ac8, rfl⟩ := hx.shape
  unfold objV
  dsimp only
  have hA1 := (Below.refl w1.heap.size w1).alloc (Nat.le_refl _) (.cells #[.string o.face.module, .slice a1 o.face.vars.length ac1, .slice a2 o.face.procs.length ac2, .slice a3 o.imports.length ac3, .slice a4 o.code.length ac4, .slice a5 o.relocs.length ac5, .slice a6 o.procs.length ac6, .slice a7 o.lows.length ac7, .slice a8 o.highs.length ac8, .int .i64 o.low, .int .i64 o.high, .int .i64 o.lowF, .int .i64 o.highF] 31)
  have hB2 := hb1.trans (hA1.mono hb1.size)
  have hC2 := hR.out _ hB2
  have bX := BoxC.new w1 #[.string o.face.module, .slice a1 o.face.vars.length ac1, .slice a2 o.face.procs.length ac2, .slice a3 o.imports.length ac3, .slice a4 o.code.length ac4, .slice a5 o.relocs.length ac5, .slice a6 o.procs.length ac6, .slice a7 o.lows.length ac7, .slice a8 o.highs.length ac8, .int .i64 o.low, .int .i64 o.high, .int .i64 o.lowF, .int .i64 o.highF] 31
  go_wp2_with (fail)
  refine hC2.mono ?_
  clear hC2 hR
  rintro e w2 ⟨hb2, y, rfl, hy⟩
  obtain ⟨b1, bc1, b2, bc2, b3, bc3, b4, bc4, b5, bc5, b6, bc6, b7, bc7, b8, bc8, rfl⟩ := hy.shape
  unfold objV
  dsimp only
  have hA2 := (Below.refl w2.heap.size w2).alloc (Nat.le_refl _) (.cells #[.string o.face.module, .slice b1 o.face.vars.length bc1, .slice b2 o.face.procs.length bc2, .slice b3 o.imports.length bc3, .slice b4 o.code.length bc4, .slice b5 o.relocs.length bc5, .slice b6 o.procs.length bc6, .slice b7 o.lows.length bc7, .slice b8 o.highs.length bc8, .int .i64 o.low, .int .i64 o.high, .int .i64 o.lowF, .int .i64 o.highF] 31)
  have hB3 := (hB2.trans (hb2.mono hB2.size)).trans (hA2.mono (Nat.le_trans hB2.size hb2.size))
  have hS := rSameO o _ _ _ (((hx.below hA1).below hb2).below hA2) (hy.below hA2)
  unfold objV at hS
  dsimp only at hS
  have bX3 := (bX.below hb2).below hA2
  have bY := BoxC.new w2 #[.string o.face.module, .slice b1 o.face.vars.length bc1, .slice b2 o.face.procs.length bc2, .slice b3 o.imports.length bc3, .slice b4 o.code.length bc4, .slice b5 o.relocs.length bc5, .slice b6 o.procs.length bc6, .slice b7 o.lows.length bc7, .slice b8 o.highs.length bc8, .int .i64 o.low, .int .i64 o.high, .int .i64 o.lowF, .int .i64 o.highF] 31
  have z0 := bX3.cell 0 rfl
  have z1 := bX3.cell 1 rfl
  have z2 := bX3.cell 2 rfl
  have z3 := bX3.cell 3 rfl
  have z4 := bX3.cell 4 rfl
  have z5 := bX3.cell 5 rfl
  have z6 := bX3.cell 6 rfl
  have z7 := bX3.cell 7 rfl
  have z8 := bX3.cell 8 rfl
  have z9 := bX3.cell 9 rfl
  have z10 := bX3.cell 10 rfl
  have z11 := bX3.cell 11 rfl
  have z12 := bX3.cell 12 rfl
  clear hb1 hb2 hA1 hA2 hx hy bX bX3 bY
  go_wp2_with (fail)
  refine hS.mono ?_
  clear hS
  rintro e w3 ⟨rfl, hb3⟩
  go_wp2
  go_ret
  exact ⟨rfl, hB3.trans (hb3.mono hB3.size)⟩
end Go.Proofs.YthfeojjfehbgjaaGreatDoor.obj
