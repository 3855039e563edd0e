/- What the writer's object, and Put, answer: contracts. -/
import Derived.Test.YthfeojjfehbgjaaGreatDoorOPObjPutB
import Derived.Test.YthfeojjfehbgjaaGreatDoorOPObjMayC
namespace Go.Proofs.YthfeojjfehbgjaaGreatDoor.obj
open Go.RowKit
open Go.Proofs.YthfeojjfehbgjaaGreatDoor.lexs (HasErr)
open Go.Proofs.YthfeojjfehbgjaaGreatDoor.mac (BoxC grown_of_below Ins)
open Go.Proofs.YthfeojjfehbgjaaGreatDoor.face (VarD ProcD FaceD VarsIn ProcsIn IntsIn FaceIn keep)
set_option linter.unusedVariables false
set_option linter.unusedSimpArgs false
set_option maxRecDepth 100000
section
variable {w0 w : World} {r : Nat} {v : Value} {L : By}

set_option maxHeartbeats 2000000 in
theorem oObject (h : WR w r v L) (ho : Old w0 w r) (o : ObjD) (x : Vals) (hx : ObjAt w0 x o) (hn : L.length + (objB o).length ≤ 1000000000) :
    Calls Tryz.prog 17 #[.pointer (some ⟨r, 0, none⟩), objV o x] w (WE r w v L (objB o)) := by
  have c13 : Tryz.prog.cellsOf 31 = 13 := by kernel_rfl
  have c3 : Tryz.prog.cellsOf 25 = 3 := face.cell3
  have hmf := hmf
  obtain ⟨a1, c1, a2, c2, a3, c3', a4, c4, a5, c5, a6, c6, a7, c7, a8, c8, rfl⟩ := hx.shape
  obtain ⟨h1, h2, h3, h4, h5, h6, h7, h8⟩ := hx
  dsimp only at h1 h2 h3 h4 h5 h6 h7 h8
  have hn2 : L.length + (faceB o.face).length + (listB faceB o.imports).length + (listB insB o.code).length + (listB relBy o.relocs).length + (listB plcBy o.procs).length + (listB plcBy o.lows).length + (listB plcBy o.highs).length + 32 ≤ 1000000000 := by
    simp only [objB, List.length_append, intsB_len, List.length_cons, List.length_nil] at hn
    omega
  clear hn
  unfold objV
  dsimp only
  have hk := (h.lk #[.pointer (some ⟨r, 0, none⟩)] 47).alloc (.cells #[.string o.face.module, .slice a1 o.face.vars.length c1, .slice a2 o.face.procs.length c2, .slice a3 o.imports.length c3', .slice a4 o.code.length c4, .slice a5 o.relocs.length c5, .slice a6 o.procs.length c6, .slice a7 o.lows.length c7, .slice a8 o.highs.length c8, .int .i64 o.low, .int .i64 o.high, .int .i64 o.lowF, .int .i64 o.highF] 31)
  have hW0 := h.alloc (.cells #[.pointer (some ⟨r, 0, none⟩)] 47)
  have hF := (Fr.new r v w (.cells #[.pointer (some ⟨r, 0, none⟩)] 47)).alloc (.cells #[.string o.face.module, .slice a1 o.face.vars.length c1, .slice a2 o.face.procs.length c2, .slice a3 o.imports.length c3', .slice a4 o.code.length c4, .slice a5 o.relocs.length c5, .slice a6 o.procs.length c6, .slice a7 o.lows.length c7, .slice a8 o.highs.length c8, .int .i64 o.low, .int .i64 o.high, .int .i64 o.lowF, .int .i64 o.highF] 31)
  have hb := hW0.lk #[.string o.face.module, .slice a1 o.face.vars.length c1, .slice a2 o.face.procs.length c2, .slice a3 o.imports.length c3', .slice a4 o.code.length c4, .slice a5 o.relocs.length c5, .slice a6 o.procs.length c6, .slice a7 o.lows.length c7, .slice a8 o.highs.length c8, .int .i64 o.low, .int .i64 o.high, .int .i64 o.lowF, .int .i64 o.highF] 31
  have hW1 := hW0.alloc (.cells #[.string o.face.module, .slice a1 o.face.vars.length c1, .slice a2 o.face.procs.length c2, .slice a3 o.imports.length c3', .slice a4 o.code.length c4, .slice a5 o.relocs.length c5, .slice a6 o.procs.length c6, .slice a7 o.lows.length c7, .slice a8 o.highs.length c8, .int .i64 o.low, .int .i64 o.high, .int .i64 o.lowF, .int .i64 o.highF] 31)
  replace ho := (ho.alloc (.cells #[.pointer (some ⟨r, 0, none⟩)] 47)).alloc (.cells #[.string o.face.module, .slice a1 o.face.vars.length c1, .slice a2 o.face.procs.length c2, .slice a3 o.imports.length c3', .slice a4 o.code.length c4, .slice a5 o.relocs.length c5, .slice a6 o.procs.length c6, .slice a7 o.lows.length c7, .slice a8 o.highs.length c8, .int .i64 o.low, .int .i64 o.high, .int .i64 o.lowF, .int .i64 o.highF] 31)
  have hC := oFace hW1 ho o.face (.slice a1 o.face.vars.length c1) (.slice a2 o.face.procs.length c2) h1 h2 (by omega)
  unfold faceV at hC
  rw [World.size_alloc] at hb
  have m0 := hk.cell 0 rfl
  have y0 := hb.cell 0 rfl
  have y1 := hb.cell 1 rfl
  have y2 := hb.cell 2 rfl
  go_enter Tryz.func17, Tryz.ntmps17
  go_wp2_with (fail)
  refine (hC).mono ?_
  rintro e w2 ⟨rfl, v2, hW2, hF2⟩
  replace hk := hk.fr hF2
  replace hb := hb.fr hF2
  replace hF := hF.trans hF2
  replace ho := ho.fr hW1 hF2
  clear hF2
  have m0 := hk.cell 0 rfl
  clear hC
  have y3 := hb.cell 3 rfl
  go_wp2_with (fail)
  refine (pFaces hW2 hk ho o.imports _ h3 (by simp only [List.length_append]; omega)).mono ?_
  rintro e w3 ⟨rfl, v3, hW3, hF3⟩
  replace hk := hk.fr hF3
  replace hb := hb.fr hF3
  replace hF := hF.trans hF3
  replace ho := ho.fr hW2 hF3
  clear hF3
  have m0 := hk.cell 0 rfl
  have y4 := hb.cell 4 rfl
  go_wp2_with (fail)
  refine (pCode hW3 hk ho o.code _ h4 (by simp only [List.length_append]; omega)).mono ?_
  rintro e w4 ⟨rfl, v4, hW4, hF4⟩
  replace hk := hk.fr hF4
  replace hb := hb.fr hF4
  replace hF := hF.trans hF4
  replace ho := ho.fr hW3 hF4
  clear hF4
  have m0 := hk.cell 0 rfl
  have y5 := hb.cell 5 rfl
  go_wp2_with (fail)
  refine (pRels hW4 hk ho o.relocs _ h5 (by simp only [List.length_append]; omega)).mono ?_
  rintro e w5 ⟨rfl, v5, hW5, hF5⟩
  replace hk := hk.fr hF5
  replace hb := hb.fr hF5
  replace hF := hF.trans hF5
  replace ho := ho.fr hW4 hF5
  clear hF5
  have m0 := hk.cell 0 rfl
  have y6 := hb.cell 6 rfl
  have y7 := hb.cell 7 rfl
  have y8 := hb.cell 8 rfl
  go_wp2
  generalize hM : L ++ faceB o.face ++ listB faceB o.imports ++ listB insB o.code ++ listB relBy o.relocs = M at hW5
  have hT : Hid (M.length + (listB plcBy o.procs).length + (listB plcBy o.lows).length + (listB plcBy o.highs).length + 32 ≤ 1000000000) := by
    show _ ≤ _
    rw [← hM]
    simp only [List.length_append]
    omega
  replace hM : Hid (L ++ faceB o.face ++ listB faceB o.imports ++ listB insB o.code ++ listB relBy o.relocs = M) := hM
  have hl6 : o.procs.length ≤ 1048576 := by obtain ⟨_, _, _, h, _⟩ := h6; exact h
  have hp := hW5.lk #[.slice a6 o.procs.length c6, .slice a7 o.lows.length c7, .slice a8 o.highs.length c8] 29
  have hW6 := hW5.alloc (.cells #[.slice a6 o.procs.length c6, .slice a7 o.lows.length c7, .slice a8 o.highs.length c8] 29)
  replace hk := hk.alloc (.cells #[.slice a6 o.procs.length c6, .slice a7 o.lows.length c7, .slice a8 o.highs.length c8] 29)
  replace hb := hb.alloc (.cells #[.slice a6 o.procs.length c6, .slice a7 o.lows.length c7, .slice a8 o.highs.length c8] 29)
  replace ho := ho.alloc (.cells #[.slice a6 o.procs.length c6, .slice a7 o.lows.length c7, .slice a8 o.highs.length c8] 29)
  replace hF := hF.alloc (.cells #[.slice a6 o.procs.length c6, .slice a7 o.lows.length c7, .slice a8 o.highs.length c8] 29)
  clear y0 y1 y2 y3 y4 y5 y6 y7 y8 m0 hn2 hW1 hW2 hW3 hW4 hW5 hW0
  go_loopw [33] (fun t wr => ∃ (j : Nat) (u : Value), j ≤ 3 ∧ t = .int .i64 j ∧ WR wr r u (M ++ (([o.procs, o.lows, o.highs].take j).map (listB plcBy)).flatten) ∧ (Lk wr r u w5.heap.size #[.slice a6 o.procs.length c6, .slice a7 o.lows.length c7, .slice a8 o.highs.length c8] 29 ∧ Lk wr r u w.heap.size #[.pointer (some ⟨r, 0, none⟩)] 47 ∧ Old w0 wr r) ∧ Lk wr r u (w.heap.size + 1) #[.string o.face.module, .slice a1 o.face.vars.length c1, .slice a2 o.face.procs.length c2, .slice a3 o.imports.length c3', .slice a4 o.code.length c4, .slice a5 o.relocs.length c5, .slice a6 o.procs.length c6, .slice a7 o.lows.length c7, .slice a8 o.highs.length c8, .int .i64 o.low, .int .i64 o.high, .int .i64 o.lowF, .int .i64 o.highF] 31 ∧ Fr r v u w wr) (fun t _ => 3 - (intOf t).toNat)
  case atStart => exact ⟨0, v5, by omega, rfl, by simpa using hW6, ⟨hp, hk, ho⟩, hb, hF⟩
  case round =>
    clear hp hk ho hb hF hW6
    obtain ⟨j, u, hj, rfl, hW, hrest, hX, hF⟩ := hrel
    have : j = 0 ∨ j = 1 ∨ j = 2 ∨ j = 3 := by omega
    clear hj
    rcases this with rfl | rfl | rfl | rfl
    · skip
      obtain ⟨hb, hk, ho⟩ := hrest
      have m0 := hk.cell 0 rfl
      have z0 := hb.cell 0 rfl
      go_wp2_with (fail)
      refine (pPlcs hW hk ho o.procs _ h6 (by have := hT.out; simp only [List.length_append, List.map_cons, List.map_nil, List.take, List.flatten_cons, List.flatten_nil, List.length_nil]; omega)).mono ?_
      rintro e w2 ⟨rfl, v2, hW2, hF2⟩
      go_wp2
      go_roundw
      case rel => exact ⟨1, v2, by omega, rfl, by simpa [List.append_assoc] using hW2, ⟨hb.fr hF2, hk.fr hF2, ho.fr hW hF2⟩, hX.fr hF2, hF.trans hF2⟩
      case measure => simp [intOf]
    · skip
      obtain ⟨hb, hk, ho⟩ := hrest
      have m0 := hk.cell 0 rfl
      have z0 := hb.cell 1 rfl
      go_wp2_with (fail)
      refine (pPlcs hW hk ho o.lows _ h7 (by have := hT.out; simp only [List.length_append, List.map_cons, List.map_nil, List.take, List.flatten_cons, List.flatten_nil, List.length_nil]; omega)).mono ?_
      rintro e w2 ⟨rfl, v2, hW2, hF2⟩
      go_wp2
      go_roundw
      case rel => exact ⟨2, v2, by omega, rfl, by simpa [List.append_assoc] using hW2, ⟨hb.fr hF2, hk.fr hF2, ho.fr hW hF2⟩, hX.fr hF2, hF.trans hF2⟩
      case measure => simp [intOf]
    · skip
      obtain ⟨hb, hk, ho⟩ := hrest
      have m0 := hk.cell 0 rfl
      have z0 := hb.cell 2 rfl
      go_wp2_with (fail)
      refine (pPlcs hW hk ho o.highs _ h8 (by have := hT.out; simp only [List.length_append, List.map_cons, List.map_nil, List.take, List.flatten_cons, List.flatten_nil, List.length_nil]; omega)).mono ?_
      rintro e w2 ⟨rfl, v2, hW2, hF2⟩
      go_wp2
      go_roundw
      case rel => exact ⟨3, v2, by omega, rfl, by simpa [List.append_assoc] using hW2, ⟨hb.fr hF2, hk.fr hF2, ho.fr hW hF2⟩, hX.fr hF2, hF.trans hF2⟩
      case measure => simp [intOf]
    · obtain ⟨hb, hk, ho⟩ := hrest
      have m0 := hk.cell 0 rfl
      have y9 := hX.cell 9 rfl
      have y10 := hX.cell 10 rfl
      have y11 := hX.cell 11 rfl
      have y12 := hX.cell 12 rfl
      have e3 : (([o.procs, o.lows, o.highs].take 3).map (listB plcBy)).flatten = listB plcBy o.procs ++ (listB plcBy o.lows ++ listB plcBy o.highs) := by simp
      rw [e3] at hW
      go_wp2_with (fail)
      refine (oInts4 hW o.low o.high o.lowF o.highF (by have := hT.out; simp only [List.length_append]; omega)).mono ?_
      rintro e w7 ⟨rfl, v7, hW7, hF7⟩
      replace hF := hF.trans hF7
      clear hF7
      go_wp2
      go_end0
      refine ⟨rfl, v7, ?_, hF⟩
      rw [← hM.out] at hW7
      simpa only [objB, List.append_assoc] using hW7
end
/-- what Put comes to -/
def PutE (w : World) (o : ObjD) (e : Ending) (w' : World) : Prop :=
  Below w.heap.size w w' ∧ (if mayO o = true then ∃ v, e = .returned (.tuple #[v, .int .i64 0]) ∧ w'.ownsRow w.heap.size 5 1 v (objB o).length (bv (objB o)) else e = .returned (.tuple #[.slice none 0 0, .int .i64 2]))
theorem own_le {w : World} {b b' e k n : Nat} {v : Value} {xs : List Value} (h : w.ownsRow b e k v n xs) (hb : b' ≤ b) : w.ownsRow b' e k v n xs := by
  refine ⟨h.1, ?_⟩
  rcases h.2 with h | ⟨g, cap, cur, h1, h2, h3⟩
  · exact .inl h
  · exact .inr ⟨g, cap, cur, h1, Nat.le_trans hb h2, h3⟩
set_option maxHeartbeats 2000000 in
theorem oPut (o : ObjD) (x : Vals) (w : World) (hw : HasErr w) (hx : ObjAt w x o) (hf : Fit o) :
    Calls Tryz.prog 6 #[objV o x] w (PutE w o) := by
  have c13 : Tryz.prog.cellsOf 31 = 13 := by kernel_rfl
  have hx0 := hx
  obtain ⟨a1, c1, a2, c2, a3, c3', a4, c4, a5, c5, a6, c6, a7, c7, a8, c8, rfl⟩ := hx.shape
  have hB := (Below.refl w.heap.size w).alloc (Nat.le_refl _) (.cells #[.string o.face.module, .slice a1 o.face.vars.length c1, .slice a2 o.face.procs.length c2, .slice a3 o.imports.length c3', .slice a4 o.code.length c4, .slice a5 o.relocs.length c5, .slice a6 o.procs.length c6, .slice a7 o.lows.length c7, .slice a8 o.highs.length c8, .int .i64 o.low, .int .i64 o.high, .int .i64 o.lowF, .int .i64 o.highF] 31)
  have hbx := BoxC.new w #[.string o.face.module, .slice a1 o.face.vars.length c1, .slice a2 o.face.procs.length c2, .slice a3 o.imports.length c3', .slice a4 o.code.length c4, .slice a5 o.relocs.length c5, .slice a6 o.procs.length c6, .slice a7 o.lows.length c7, .slice a8 o.highs.length c8, .int .i64 o.low, .int .i64 o.high, .int .i64 o.lowF, .int .i64 o.highF] 31
  have hC := oMayO o _ (w.alloc (.cells #[.string o.face.module, .slice a1 o.face.vars.length c1, .slice a2 o.face.procs.length c2, .slice a3 o.imports.length c3', .slice a4 o.code.length c4, .slice a5 o.relocs.length c5, .slice a6 o.procs.length c6, .slice a7 o.lows.length c7, .slice a8 o.highs.length c8, .int .i64 o.low, .int .i64 o.high, .int .i64 o.lowF, .int .i64 o.highF] 31)) (face.HasErr.below hw hB) (hx.below hB)
  unfold objV at hC ⊢
  dsimp only at hC ⊢
  cases hm : mayO o
  · rw [hm] at hC
    go_enter Tryz.func6, Tryz.ntmps6
    go_wp2_with (fail)
    refine hC.mono ?_
    rintro e w2 ⟨rfl, hb2⟩
    go_wp2
    go_ret2
    exact ⟨hB.trans (hb2.mono hB.size), by simp [hm]⟩
  · rw [hm] at hC
    have hlen := (okO hm hf).le
    go_enter Tryz.func6, Tryz.ntmps6
    go_wp2_with (fail)
    refine hC.mono ?_
    rintro e w2 ⟨rfl, hb2⟩
    replace hB := hB.trans (hb2.mono hB.size)
    replace hbx := (hbx.below hb2).alloc (.cells #[.slice none 0 0] 49)
    clear hC hb2
    have hW : WR (w2.alloc (.cells #[.slice none 0 0] 49)) w2.heap.size (.slice none 0 0) [] := ⟨BoxC.new _ _ _, World.ownsRow_nil _ _ _ _⟩
    have hD := oObject hW (w0 := w) ⟨hB.size, hB.alloc hB.size _⟩ o _ hx0 (by rw [List.length_nil]; omega)
    unfold objV at hD
    dsimp only at hD
    have y0 := hbx.cell 0 rfl
    have y1 := hbx.cell 1 rfl
    have y2 := hbx.cell 2 rfl
    have y3 := hbx.cell 3 rfl
    have y4 := hbx.cell 4 rfl
    have y5 := hbx.cell 5 rfl
    have y6 := hbx.cell 6 rfl
    have y7 := hbx.cell 7 rfl
    have y8 := hbx.cell 8 rfl
    have y9 := hbx.cell 9 rfl
    have y10 := hbx.cell 10 rfl
    have y11 := hbx.cell 11 rfl
    have y12 := hbx.cell 12 rfl
    go_wp2_with (fail)
    refine hD.mono ?_
    rintro e w3 ⟨rfl, v3, hW3, hF3⟩
    rw [List.nil_append] at hW3
    have m0 := hW3.box.cell 0 rfl
    obtain ⟨ua, uc, rfl⟩ := hW3.shape
    go_wp2
    go_ret2
    refine ⟨hB.trans (((Fr.new w2.heap.size (.slice none 0 0) w2 _).trans hF3).to hB.size (fun b e => by cases e) (Nat.le_refl _)), ?_⟩
    rw [if_pos hm]
    exact ⟨_, rfl, own_le hW3.row (by have := hB.size; omega)⟩
end Go.Proofs.YthfeojjfehbgjaaGreatDoor.obj
