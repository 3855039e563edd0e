/- What the reference's Same answers of two objects that are alike: a contract. What the reference's Same answers of two objects that are alike: the contract. -/
import Derived.Test.YthfeojjfehbgjaaGreatDoorProg
import Derived.WalkKit
import Derived.WalkLawsBesides
import Derived.Outline
import Derived.WalkSmall
import Derived.Laws.StructEq
import Derived.Test.YthfeojjfehbgjaaGreatDoorOGTakeD
import Derived.Test.YthfeojjfehbgjaaGreatDoorOGMacBox
import Derived.Test.YthfeojjfehbgjaaGreatDoorOGObjMem
import Derived.Test.YthfeojjfehbgjaaGreatDoorOGFaceRefA
import Derived.Test.YthfeojjfehbgjaaGreatDoorOGObjMay
namespace Go.Proofs.YthfeojjfehbgjaaGreatDoor.obj
open Go.RowKit
open Go.Proofs.YthfeojjfehbgjaaGreatDoor.mac (Ins BoxC)
open Go.Proofs.YthfeojjfehbgjaaGreatDoor.ord (tkd putd)
open Go.Proofs.YthfeojjfehbgjaaGreatDoor.face (VarD ProcD FaceD VarsIn ProcsIn FaceIn keep)
set_option linter.unusedVariables false
set_option linter.unusedSimpArgs false
set_option maxRecDepth 100000
theorem eqP (a : ByteArray) (b : Int) (w : World) : (Op.equalIn 10000 85 (.agg #[.string a, .int .i64 b]) (.agg #[.string a, .int .i64 b])).run Tryz.prog w = .ok true w := by
  have hS : Tryz.prog.underlying 85 = some (.struct (Tryz.prog.fieldsOf 85)) := by kernel_rfl
  have hp : Tryz.prog.stoodInHeld 85 = false := by kernel_rfl
  have u1 := Tryz.underlying9
  have u2 := Tryz.isAgg9
  have u3 := Tryz.sizeOf9
  have u4 := Tryz.underlying3
  have u5 := Tryz.isAgg3
  have u6 := Tryz.sizeOf3
  have u7 := Tryz.underlying2
  have u8 := Tryz.isAgg2
  have u9 := Tryz.sizeOf2
  rw [show (10000 : Nat) = 9999 + 1 from rfl, run_equalIn_agg w 9999 85 _ _ hS hp]
  simp only [Program.fieldsOf, Tryz.underlying85]
  go_simp
theorem eqI (a b c d e : Int) (w : World) : (Op.equalIn 10000 55 (.agg #[.int .i64 a, .int .i64 b, .int .i64 c, .int .i64 d, .int .i64 e]) (.agg #[.int .i64 a, .int .i64 b, .int .i64 c, .int .i64 d, .int .i64 e])).run Tryz.prog w = .ok true w := by
  have hS : Tryz.prog.underlying 55 = some (.struct (Tryz.prog.fieldsOf 55)) := by kernel_rfl
  have hp : Tryz.prog.stoodInHeld 55 = false := by kernel_rfl
  have u1 := Tryz.underlying9
  have u2 := Tryz.isAgg9
  have u3 := Tryz.sizeOf9
  have u4 := Tryz.underlying3
  have u5 := Tryz.isAgg3
  have u6 := Tryz.sizeOf3
  have u7 := Tryz.underlying2
  have u8 := Tryz.isAgg2
  have u9 := Tryz.sizeOf2
  rw [show (10000 : Nat) = 9999 + 1 from rfl, run_equalIn_agg w 9999 55 _ _ hS hp]
  simp only [Program.fieldsOf, Tryz.underlying55]
  go_simp
theorem eqR (a b : Int) (c d : ByteArray) (w : World) : (Op.equalIn 10000 57 (.agg #[.int .i64 a, .int .i64 b, .string c, .string d]) (.agg #[.int .i64 a, .int .i64 b, .string c, .string d])).run Tryz.prog w = .ok true w := by
  have hS : Tryz.prog.underlying 57 = some (.struct (Tryz.prog.fieldsOf 57)) := by kernel_rfl
  have hp : Tryz.prog.stoodInHeld 57 = false := by kernel_rfl
  have u1 := Tryz.underlying9
  have u2 := Tryz.isAgg9
  have u3 := Tryz.sizeOf9
  have u4 := Tryz.underlying3
  have u5 := Tryz.isAgg3
  have u6 := Tryz.sizeOf3
  have u7 := Tryz.underlying2
  have u8 := Tryz.isAgg2
  have u9 := Tryz.sizeOf2
  rw [show (10000 : Nat) = 9999 + 1 from rfl, run_equalIn_agg w 9999 57 _ _ hS hp]
  simp only [Program.fieldsOf, Tryz.underlying57]
  go_simp
theorem eqS_refl (x : ByteArray) : syn.eqS x x = true := by unfold syn.eqS; simp
theorem all2_refl {α : Type} {p : α → α → Bool} (h : ∀ x, p x x = true) : ∀ l : List α, face.all2 p l l = true
  | [] => rfl
  | x :: r => by show (p x x && face.all2 p r r) = true; rw [h, all2_refl h r]; rfl
theorem same_refl (f : FaceD) : face.sameB f f = true := by
  unfold face.sameB
  rw [eqS_refl, all2_refl (fun x => by unfold face.sameVarB; simp [eqS_refl]), all2_refl (fun x => by unfold face.sameProcB; simp [eqS_refl])]
  rfl
set_option maxHeartbeats 1000000 in
theorem rList (l : List PlcD) (u v : Value) (w : World) (hu : PlcsIn w u l) (hv : PlcsIn w v l) :
    Calls Tryz.prog 36 #[u, v] w fun e w' => e = .returned (.bool true) ∧ Below w.heap.size w w' := by
  have c2 : Tryz.prog.cellsOf 85 = 2 := by kernel_rfl
  obtain ⟨a, c, rfl, hl, hc⟩ := hu
  obtain ⟨b, d, rfl, _, hd⟩ := hv
  go_enter Tryz.func36, Tryz.ntmps36
  go_wp2
  go_loopw [5] (fun t wr => ∃ j : Nat, j ≤ l.length ∧ t = .int .i64 j ∧ Below w.heap.size w wr) (fun t _ => l.length - (intOf t).toNat)
  case atStart => exact ⟨0, Nat.zero_le _, rfl, Below.refl _ _⟩
  case round =>
    obtain ⟨j, hj, rfl, hB⟩ := hrel
    by_cases hlt : j < l.length
    · obtain ⟨g, o, rfl, hcc⟩ := hc (by intro e; rw [e] at hlt; simp at hlt)
      obtain ⟨g2, o2, rfl, hdd⟩ := hd (by intro e; rw [e] at hlt; simp at hlt)
      obtain ⟨k0, k1⟩ := hcc j hlt
      obtain ⟨z0, z1⟩ := hdd j hlt
      have hB1 := hB.drew
      replace k0 := keep k0 hB1
      replace k1 := keep k1 hB1
      replace z0 := keep z0 hB1
      replace z1 := keep z1 hB1
      clear hcc hdd hc hd
      generalize l[j] = x at *
      obtain ⟨nm, at1⟩ := x
      dsimp only at k0 k1 z0 z1
      have hE := eqP nm at1
      go_wp2
      refine wp_region_held_drew (S := fun W => W = wr.drew) (by kernel_rfl) rfl (fun hS => ?_)
      refine tkd (i := 0) (v := .slice (some ⟨g, o, none⟩) l.length c) rfl rfl (by kernel_rfl) (by kernel_rfl) (by kernel_rfl) (fun _ _ _ h => h) (Or.inl ⟨by rfl, fun w hSw => by skip; go_simp⟩) hS ?_
      simp only [List.setIfInBounds_toArray, List.set_cons_zero, List.set_cons_succ]
      refine tkd (i := 1) (v := .int .i64 (j : Int)) rfl rfl (by kernel_rfl) (by kernel_rfl) (by kernel_rfl) (fun _ _ _ h => h) (Or.inl ⟨by rfl, fun w hSw => by skip; go_simp⟩) hS ?_
      simp only [List.setIfInBounds_toArray, List.set_cons_zero, List.set_cons_succ]
      refine tkd (i := 2) (v := .pointer (some ⟨g, o + j * 2, none⟩)) rfl rfl (by kernel_rfl) (by kernel_rfl) (by kernel_rfl) (fun _ _ _ h => h) (Or.inl ⟨by rfl, fun w hSw => by skip; go_simp⟩) hS ?_
      simp only [List.setIfInBounds_toArray, List.set_cons_zero, List.set_cons_succ]
      refine tkd (i := 3) (v := .agg #[.string nm, .int .i64 at1] ) rfl rfl (by kernel_rfl) (by kernel_rfl) (by kernel_rfl) (fun _ _ _ h => h) (Or.inl ⟨by rfl, fun w hSw => by subst hSw; go_simp⟩) hS ?_
      simp only [List.setIfInBounds_toArray, List.set_cons_zero, List.set_cons_succ]
      refine tkd (i := 4) (v := .slice (some ⟨g2, o2, none⟩) l.length d) rfl rfl (by kernel_rfl) (by kernel_rfl) (by kernel_rfl) (fun _ _ _ h => h) (Or.inl ⟨by rfl, fun w hSw => by skip; go_simp⟩) hS ?_
      simp only [List.setIfInBounds_toArray, List.set_cons_zero, List.set_cons_succ]
      refine tkd (i := 5) (v := .int .i64 (j : Int)) rfl rfl (by kernel_rfl) (by kernel_rfl) (by kernel_rfl) (fun _ _ _ h => h) (Or.inl ⟨by rfl, fun w hSw => by skip; go_simp⟩) hS ?_
      simp only [List.setIfInBounds_toArray, List.set_cons_zero, List.set_cons_succ]
      refine tkd (i := 6) (v := .pointer (some ⟨g2, o2 + j * 2, none⟩)) rfl rfl (by kernel_rfl) (by kernel_rfl) (by kernel_rfl) (fun _ _ _ h => h) (Or.inl ⟨by rfl, fun w hSw => by skip; go_simp⟩) hS ?_
      simp only [List.setIfInBounds_toArray, List.set_cons_zero, List.set_cons_succ]
      refine tkd (i := 7) (v := .agg #[.string nm, .int .i64 at1] ) rfl rfl (by kernel_rfl) (by kernel_rfl) (by kernel_rfl) (fun _ _ _ h => h) (Or.inl ⟨by rfl, fun w hSw => by subst hSw; go_simp⟩) hS ?_
      simp only [List.setIfInBounds_toArray, List.set_cons_zero, List.set_cons_succ]
      refine tkd (i := 8) (v := .bool false) rfl rfl (by kernel_rfl) (by kernel_rfl) (by kernel_rfl) (fun _ _ _ h => h) (Or.inl ⟨by rfl, fun w hSw => by skip; go_simp⟩) hS ?_
      simp only [List.setIfInBounds_toArray, List.set_cons_zero, List.set_cons_succ]
      refine wpAnyH_done (by kernel_rfl) ?_ _
      go_wp2
      go_roundw
      case rel => exact ⟨j + 1, by omega, by go_num, hB1⟩
      case measure => simp [intOf]; omega
    · go_wp2
      go_ret
      exact ⟨rfl, hB⟩
end Go.Proofs.YthfeojjfehbgjaaGreatDoor.obj
namespace Go.Proofs.YthfeojjfehbgjaaGreatDoor.obj
open Go.RowKit
open Go.Proofs.YthfeojjfehbgjaaGreatDoor.mac (Ins BoxC)
open Go.Proofs.YthfeojjfehbgjaaGreatDoor.ord (tkd putd)
open Go.Proofs.YthfeojjfehbgjaaGreatDoor.face (VarD ProcD FaceD VarsIn ProcsIn FaceIn keep)
set_option linter.unusedVariables false
set_option linter.unusedSimpArgs false
set_option maxRecDepth 100000
/-- two boxes that stay -/
structure Two (w wr : World) (n : Nat) (xs ys : Array Value) : Prop where
  to : Below w.heap.size w wr
  bx : BoxC wr n xs 31
  bz : BoxC wr (n + 1) ys 31
theorem Two.below {w wr w2 : World} {n : Nat} {xs ys : Array Value} (h : Two w wr n xs ys) (hb : Below wr.heap.size wr w2) : Two w w2 n xs ys := ⟨h.to.trans (hb.mono h.to.size), h.bx.below hb, h.bz.below hb⟩
set_option maxHeartbeats 4000000 in
theorem rSameO (o : ObjD) (x y : Vals) (w : World) (hx : ObjAt w x o) (hy : ObjAt w y o) :
    Calls Tryz.prog 11 #[objV o x, objV o y] w fun e w' => e = .returned (.bool true) ∧ Below w.heap.size w w' := by
  have c13 : Tryz.prog.cellsOf 31 = 13 := by kernel_rfl
  have c3 : Tryz.prog.cellsOf 25 = 3 := face.cell3
  have c5 : Tryz.prog.cellsOf 55 = 5 := by kernel_rfl
  have c4 : Tryz.prog.cellsOf 57 = 4 := by kernel_rfl
  obtain ⟨a1, ac1, a2, ac2, a3, ac3, a4, ac4, a5, ac5, a6, ac6, a7, ac7, a8, ac8, rfl⟩ := hx.shape
  obtain ⟨b1, bc1, b2, bc2, b3, bc3, b4, bc4, b5, bc5, b6, bc6, b7, bc7, b8, bc8, rfl⟩ := hy.shape
  obtain ⟨p1, p2, p3, p4, p5, p6, p7, p8⟩ := hx
  obtain ⟨q1, q2, q3, q4, q5, q6, q7, q8⟩ := hy
  dsimp only at p1 p2 p3 p4 p5 p6 p7 p8 q1 q2 q3 q4 q5 q6 q7 q8
  unfold objV
  dsimp only
  have hT : Two w ((w.alloc (.cells #[.string o.face.module, .slice a1 o.face.vars.length ac1, .slice a2 o.face.procs.length ac2, .slice a3 o.imports.length ac3, .slice a4 o.code.length ac4, .slice a5 o.relocs.length ac5, .slice a6 o.procs.length ac6, .slice a7 o.lows.length ac7, .slice a8 o.highs.length ac8, .int .i64 o.low, .int .i64 o.high, .int .i64 o.lowF, .int .i64 o.highF] 31)).alloc (.cells #[.string o.face.module, .slice b1 o.face.vars.length bc1, .slice b2 o.face.procs.length bc2, .slice b3 o.imports.length bc3, .slice b4 o.code.length bc4, .slice b5 o.relocs.length bc5, .slice b6 o.procs.length bc6, .slice b7 o.lows.length bc7, .slice b8 o.highs.length bc8, .int .i64 o.low, .int .i64 o.high, .int .i64 o.lowF, .int .i64 o.highF] 31)) w.heap.size #[.string o.face.module, .slice a1 o.face.vars.length ac1, .slice a2 o.face.procs.length ac2, .slice a3 o.imports.length ac3, .slice a4 o.code.length ac4, .slice a5 o.relocs.length ac5, .slice a6 o.procs.length ac6, .slice a7 o.lows.length ac7, .slice a8 o.highs.length ac8, .int .i64 o.low, .int .i64 o.high, .int .i64 o.lowF, .int .i64 o.highF] #[.string o.face.module, .slice b1 o.face.vars.length bc1, .slice b2 o.face.procs.length bc2, .slice b3 o.imports.length bc3, .slice b4 o.code.length bc4, .slice b5 o.relocs.length bc5, .slice b6 o.procs.length bc6, .slice b7 o.lows.length bc7, .slice b8 o.highs.length bc8, .int .i64 o.low, .int .i64 o.high, .int .i64 o.lowF, .int .i64 o.highF] := by
    have h0 := (Below.refl w.heap.size w).alloc (Nat.le_refl _) (.cells #[.string o.face.module, .slice a1 o.face.vars.length ac1, .slice a2 o.face.procs.length ac2, .slice a3 o.imports.length ac3, .slice a4 o.code.length ac4, .slice a5 o.relocs.length ac5, .slice a6 o.procs.length ac6, .slice a7 o.lows.length ac7, .slice a8 o.highs.length ac8, .int .i64 o.low, .int .i64 o.high, .int .i64 o.lowF, .int .i64 o.highF] 31)
    have h1 := BoxC.new (w.alloc (.cells #[.string o.face.module, .slice a1 o.face.vars.length ac1, .slice a2 o.face.procs.length ac2, .slice a3 o.imports.length ac3, .slice a4 o.code.length ac4, .slice a5 o.relocs.length ac5, .slice a6 o.procs.length ac6, .slice a7 o.lows.length ac7, .slice a8 o.highs.length ac8, .int .i64 o.low, .int .i64 o.high, .int .i64 o.lowF, .int .i64 o.highF] 31)) #[.string o.face.module, .slice b1 o.face.vars.length bc1, .slice b2 o.face.procs.length bc2, .slice b3 o.imports.length bc3, .slice b4 o.code.length bc4, .slice b5 o.relocs.length bc5, .slice b6 o.procs.length bc6, .slice b7 o.lows.length bc7, .slice b8 o.highs.length bc8, .int .i64 o.low, .int .i64 o.high, .int .i64 o.lowF, .int .i64 o.highF] 31
    rw [World.size_alloc] at h1
    exact ⟨h0.alloc h0.size _, (BoxC.new w _ _).alloc _, h1⟩
  have hC := face.rSame o.face o.face (.agg #[.string o.face.module, .slice a1 o.face.vars.length ac1, .slice a2 o.face.procs.length ac2]) (.agg #[.string o.face.module, .slice b1 o.face.vars.length bc1, .slice b2 o.face.procs.length bc2]) _ ⟨_, _, rfl, p1.below hT.to, p2.below hT.to⟩ ⟨_, _, rfl, q1.below hT.to, q2.below hT.to⟩
  rw [same_refl] at hC
  clear p1 p2 q1 q2
  go_enter Tryz.func11, Tryz.ntmps11
  go_wp2_with (fail)
  refine hC.mono ?_
  rintro e w1 ⟨rfl, hb1⟩
  clear hC
  replace hT := hT.below hb1
  clear hb1
  obtain ⟨XS, hXS⟩ : ∃ XS : Array Value, XS = #[.string o.face.module, .slice a1 o.face.vars.length ac1, .slice a2 o.face.procs.length ac2, .slice a3 o.imports.length ac3, .slice a4 o.code.length ac4, .slice a5 o.relocs.length ac5, .slice a6 o.procs.length ac6, .slice a7 o.lows.length ac7, .slice a8 o.highs.length ac8, .int .i64 o.low, .int .i64 o.high, .int .i64 o.lowF, .int .i64 o.highF] := ⟨_, rfl⟩
  rw [← hXS] at hT
  have f3 : XS[3]? = some (.slice a3 o.imports.length ac3) := by rw [hXS]; rfl
  have f4 : XS[4]? = some (.slice a4 o.code.length ac4) := by rw [hXS]; rfl
  have f5 : XS[5]? = some (.slice a5 o.relocs.length ac5) := by rw [hXS]; rfl
  have f6 : XS[6]? = some (.slice a6 o.procs.length ac6) := by rw [hXS]; rfl
  have f7 : XS[7]? = some (.slice a7 o.lows.length ac7) := by rw [hXS]; rfl
  have f8 : XS[8]? = some (.slice a8 o.highs.length ac8) := by rw [hXS]; rfl
  have f9 : XS[9]? = some (.int .i64 o.low) := by rw [hXS]; rfl
  have f10 : XS[10]? = some (.int .i64 o.high) := by rw [hXS]; rfl
  have f11 : XS[11]? = some (.int .i64 o.lowF) := by rw [hXS]; rfl
  have f12 : XS[12]? = some (.int .i64 o.highF) := by rw [hXS]; rfl
  clear hXS
  obtain ⟨YS, hYS⟩ : ∃ YS : Array Value, YS = #[.string o.face.module, .slice b1 o.face.vars.length bc1, .slice b2 o.face.procs.length bc2, .slice b3 o.imports.length bc3, .slice b4 o.code.length bc4, .slice b5 o.relocs.length bc5, .slice b6 o.procs.length bc6, .slice b7 o.lows.length bc7, .slice b8 o.highs.length bc8, .int .i64 o.low, .int .i64 o.high, .int .i64 o.lowF, .int .i64 o.highF] := ⟨_, rfl⟩
  rw [← hYS] at hT
  have g3 : YS[3]? = some (.slice b3 o.imports.length bc3) := by rw [hYS]; rfl
  have g4 : YS[4]? = some (.slice b4 o.code.length bc4) := by rw [hYS]; rfl
  have g5 : YS[5]? = some (.slice b5 o.relocs.length bc5) := by rw [hYS]; rfl
  have g6 : YS[6]? = some (.slice b6 o.procs.length bc6) := by rw [hYS]; rfl
  have g7 : YS[7]? = some (.slice b7 o.lows.length bc7) := by rw [hYS]; rfl
  have g8 : YS[8]? = some (.slice b8 o.highs.length bc8) := by rw [hYS]; rfl
  have g9 : YS[9]? = some (.int .i64 o.low) := by rw [hYS]; rfl
  have g10 : YS[10]? = some (.int .i64 o.high) := by rw [hYS]; rfl
  have g11 : YS[11]? = some (.int .i64 o.lowF) := by rw [hYS]; rfl
  have g12 : YS[12]? = some (.int .i64 o.highF) := by rw [hYS]; rfl
  clear hYS
  have y3 := hT.bx.cell 3 f3
  have y4 := hT.bx.cell 4 f4
  have y5 := hT.bx.cell 5 f5
  have y9 := hT.bx.cell 9 f9
  have y10 := hT.bx.cell 10 f10
  have y11 := hT.bx.cell 11 f11
  have y12 := hT.bx.cell 12 f12
  have z3 := hT.bz.cell 3 g3
  have z4 := hT.bz.cell 4 g4
  have z5 := hT.bz.cell 5 g5
  have z9 := hT.bz.cell 9 g9
  have z10 := hT.bz.cell 10 g10
  have z11 := hT.bz.cell 11 g11
  have z12 := hT.bz.cell 12 g12
  go_wp2
  clear y3 y4 y5 y9 y10 y11 y12 z3 z4 z5 z9 z10 z11 z12
  go_loopw [5] (fun t wr => ∃ j : Nat, j ≤ o.imports.length ∧ t = .int .i64 j ∧ Two w wr w.heap.size XS YS) (fun t _ => o.imports.length - (intOf t).toNat)
  case atStart => exact ⟨0, Nat.zero_le _, rfl, hT⟩
  case round =>
    clear hT
    obtain ⟨j, hj, rfl, hT⟩ := hrel
    have yy := hT.bx.cell 3 f3
    by_cases hlt : j < o.imports.length
    · obtain ⟨_, _, e1, hle, hc⟩ := p3
      cases e1
      obtain ⟨_, _, e2, _, hd⟩ := q3
      cases e2
      obtain ⟨g, o1, rfl, hcc⟩ := hc (by intro e; rw [e] at hlt; simp at hlt)
      obtain ⟨g2, o2, rfl, hdd⟩ := hd (by intro e; rw [e] at hlt; simp at hlt)
      obtain ⟨k0, ⟨v1, k1, hv1⟩, ⟨v2, k2, hv2⟩⟩ := hcc j hlt
      obtain ⟨z0, ⟨v3, z1, hv3⟩, ⟨v4, z2, hv4⟩⟩ := hdd j hlt
      clear hcc hdd hc hd
      generalize o.imports[j] = x at *
      obtain ⟨xa1, xc1, rfl⟩ : ∃ a c, v1 = .slice a x.vars.length c := by obtain ⟨a, c, e, _⟩ := hv1; exact ⟨a, c, e⟩
      obtain ⟨xa2, xc2, rfl⟩ : ∃ a c, v2 = .slice a x.procs.length c := by obtain ⟨a, c, e, _⟩ := hv2; exact ⟨a, c, e⟩
      obtain ⟨xa3, xc3, rfl⟩ : ∃ a c, v3 = .slice a x.vars.length c := by obtain ⟨a, c, e, _⟩ := hv3; exact ⟨a, c, e⟩
      obtain ⟨xa4, xc4, rfl⟩ : ∃ a c, v4 = .slice a x.procs.length c := by obtain ⟨a, c, e, _⟩ := hv4; exact ⟨a, c, e⟩
      go_wp2
      refine wp_region_held_drew (S := fun W => Two w W w.heap.size XS YS) (by kernel_rfl) (hT.below (Below.refl _ _).drew) (fun hS => ?_)
      replace hT := hT.below (Below.refl _ _).drew
      have hC := face.rSame x x (.agg #[.string x.module, .slice xa1 x.vars.length xc1, .slice xa2 x.procs.length xc2]) (.agg #[.string x.module, .slice xa3 x.vars.length xc3, .slice xa4 x.procs.length xc4]) _ ⟨_, _, rfl, hv1.below hT.to, hv2.below hT.to⟩ ⟨_, _, rfl, hv3.below hT.to, hv4.below hT.to⟩
      rw [same_refl] at hC
      refine tkd (i := 0) (v := .pointer (some ⟨w.heap.size, 3, none⟩)) rfl rfl (by kernel_rfl) (by kernel_rfl) (by kernel_rfl) (fun _ _ _ h => h) (Or.inl ⟨by rfl, fun wq hSw => by skip; go_simp⟩) hS ?_
      simp only [List.setIfInBounds_toArray, List.set_cons_zero, List.set_cons_succ]
      refine tkd (i := 1) (v := .slice (some ⟨g, o1, none⟩) o.imports.length ac3) rfl rfl (by kernel_rfl) (by kernel_rfl) (by kernel_rfl) (fun _ _ _ h => h) (Or.inl ⟨by rfl, fun wq hSw => by have m := hSw.bx.cell 3 f3; go_simp⟩) hS ?_
      simp only [List.setIfInBounds_toArray, List.set_cons_zero, List.set_cons_succ]
      refine tkd (i := 2) (v := .int .i64 (j : Int)) rfl rfl (by kernel_rfl) (by kernel_rfl) (by kernel_rfl) (fun _ _ _ h => h) (Or.inl ⟨by rfl, fun wq hSw => by skip; go_simp⟩) hS ?_
      simp only [List.setIfInBounds_toArray, List.set_cons_zero, List.set_cons_succ]
      refine tkd (i := 3) (v := .pointer (some ⟨g, o1 + j * 3, none⟩)) rfl rfl (by kernel_rfl) (by kernel_rfl) (by kernel_rfl) (fun _ _ _ h => h) (Or.inl ⟨by rfl, fun wq hSw => by skip; go_simp⟩) hS ?_
      simp only [List.setIfInBounds_toArray, List.set_cons_zero, List.set_cons_succ]
      refine tkd (i := 4) (v := .agg #[.string x.module, .slice xa1 x.vars.length xc1, .slice xa2 x.procs.length xc2] ) rfl rfl (by kernel_rfl) (by kernel_rfl) (by kernel_rfl) (fun _ _ _ h => h) (Or.inl ⟨by rfl, fun wq hSw => by have m0 := keep k0 hSw.to; have m1 := keep k1 hSw.to; have m2 := keep k2 hSw.to; go_simp⟩) hS ?_
      simp only [List.setIfInBounds_toArray, List.set_cons_zero, List.set_cons_succ]
      refine tkd (i := 5) (v := .pointer (some ⟨w.heap.size + 1, 3, none⟩)) rfl rfl (by kernel_rfl) (by kernel_rfl) (by kernel_rfl) (fun _ _ _ h => h) (Or.inl ⟨by rfl, fun wq hSw => by skip; go_simp⟩) hS ?_
      simp only [List.setIfInBounds_toArray, List.set_cons_zero, List.set_cons_succ]
      refine tkd (i := 6) (v := .slice (some ⟨g2, o2, none⟩) o.imports.length bc3) rfl rfl (by kernel_rfl) (by kernel_rfl) (by kernel_rfl) (fun _ _ _ h => h) (Or.inl ⟨by rfl, fun wq hSw => by have m := hSw.bz.cell 3 g3; go_simp⟩) hS ?_
      simp only [List.setIfInBounds_toArray, List.set_cons_zero, List.set_cons_succ]
      refine tkd (i := 7) (v := .int .i64 (j : Int)) rfl rfl (by kernel_rfl) (by kernel_rfl) (by kernel_rfl) (fun _ _ _ h => h) (Or.inl ⟨by rfl, fun wq hSw => by skip; go_simp⟩) hS ?_
      simp only [List.setIfInBounds_toArray, List.set_cons_zero, List.set_cons_succ]
      refine tkd (i := 8) (v := .pointer (some ⟨g2, o2 + j * 3, none⟩)) rfl rfl (by kernel_rfl) (by kernel_rfl) (by kernel_rfl) (fun _ _ _ h => h) (Or.inl ⟨by rfl, fun wq hSw => by skip; go_simp⟩) hS ?_
      simp only [List.setIfInBounds_toArray, List.set_cons_zero, List.set_cons_succ]
      refine tkd (i := 9) (v := .agg #[.string x.module, .slice xa3 x.vars.length xc3, .slice xa4 x.procs.length xc4] ) rfl rfl (by kernel_rfl) (by kernel_rfl) (by kernel_rfl) (fun _ _ _ h => h) (Or.inl ⟨by rfl, fun wq hSw => by have m0 := keep z0 hSw.to; have m1 := keep z1 hSw.to; have m2 := keep z2 hSw.to; go_simp⟩) hS ?_
      simp only [List.setIfInBounds_toArray, List.set_cons_zero, List.set_cons_succ]
      refine wpAnyH_ready (rs := [10]) (by kernel_rfl) (by simp) ?_
      refine AllReadyH.cons rfl (fun K hK => ?_) AllReadyH.nil
      go_simp
      go_at_call 35
      refine hC.mono ?_
      rintro e w2 ⟨rfl, hb2⟩
      go_wp2
      replace hS := hT.below hb2
      clear hT hb2 hC
      refine hK.out _ _ hS (fun _ => ?_)
      clear hK K
      refine tkd (i := 11) (v := .bool false) rfl rfl (by kernel_rfl) (by kernel_rfl) (by kernel_rfl) (fun _ _ _ h => h) (Or.inl ⟨by rfl, fun wq hSw => by skip; go_simp⟩) hS ?_
      simp only [List.setIfInBounds_toArray, List.set_cons_zero, List.set_cons_succ]
      refine wpAnyH_done (by kernel_rfl) ?_ _
      go_wp2
      go_roundw
      case rel => exact ⟨j + 1, by omega, by go_num, hS⟩
      case measure => simp [intOf]; omega
    · go_wp2
      go_loopw [6] (fun t wr => ∃ j : Nat, j ≤ o.code.length ∧ t = .int .i64 j ∧ Two w wr w.heap.size XS YS) (fun t _ => o.code.length - (intOf t).toNat)
      case atStart => exact ⟨0, Nat.zero_le _, rfl, hT⟩
      case round =>
        clear hT
        obtain ⟨j, hj, rfl, hT⟩ := hrel
        have yy := hT.bx.cell 4 f4
        by_cases hlt : j < o.code.length
        · obtain ⟨_, _, e1, hle, hc⟩ := p4
          cases e1
          obtain ⟨_, _, e2, _, hd⟩ := q4
          cases e2
          obtain ⟨g, o1, rfl, hcc⟩ := hc (by intro e; rw [e] at hlt; simp at hlt)
          obtain ⟨g2, o2, rfl, hdd⟩ := hd (by intro e; rw [e] at hlt; simp at hlt)
          obtain ⟨k0, k1, k2, k3, k4⟩ := hcc j hlt
          obtain ⟨z0, z1, z2, z3, z4⟩ := hdd j hlt
          clear hcc hdd hc hd
          generalize o.code[j] = x at *
          obtain ⟨x1, x2, x3, x4, x5⟩ := x
          dsimp only at k0 k1 k2 k3 k4 z0 z1 z2 z3 z4
          have hE := eqI x1 x2 x3 x4 x5
          go_wp2
          refine wp_region_held_drew (S := fun W => Two w W w.heap.size XS YS) (by kernel_rfl) (hT.below (Below.refl _ _).drew) (fun hS => ?_)
          refine tkd (i := 0) (v := .pointer (some ⟨w.heap.size, 4, none⟩)) rfl rfl (by kernel_rfl) (by kernel_rfl) (by kernel_rfl) (fun _ _ _ h => h) (Or.inl ⟨by rfl, fun wq hSw => by skip; go_simp⟩) hS ?_
          simp only [List.setIfInBounds_toArray, List.set_cons_zero, List.set_cons_succ]
          refine tkd (i := 1) (v := .slice (some ⟨g, o1, none⟩) o.code.length ac4) rfl rfl (by kernel_rfl) (by kernel_rfl) (by kernel_rfl) (fun _ _ _ h => h) (Or.inl ⟨by rfl, fun wq hSw => by have m := hSw.bx.cell 4 f4; go_simp⟩) hS ?_
          simp only [List.setIfInBounds_toArray, List.set_cons_zero, List.set_cons_succ]
          refine tkd (i := 2) (v := .int .i64 (j : Int)) rfl rfl (by kernel_rfl) (by kernel_rfl) (by kernel_rfl) (fun _ _ _ h => h) (Or.inl ⟨by rfl, fun wq hSw => by skip; go_simp⟩) hS ?_
          simp only [List.setIfInBounds_toArray, List.set_cons_zero, List.set_cons_succ]
          refine tkd (i := 3) (v := .pointer (some ⟨g, o1 + j * 5, none⟩)) rfl rfl (by kernel_rfl) (by kernel_rfl) (by kernel_rfl) (fun _ _ _ h => h) (Or.inl ⟨by rfl, fun wq hSw => by skip; go_simp⟩) hS ?_
          simp only [List.setIfInBounds_toArray, List.set_cons_zero, List.set_cons_succ]
          refine tkd (i := 4) (v := .agg #[.int .i64 x1, .int .i64 x2, .int .i64 x3, .int .i64 x4, .int .i64 x5] ) rfl rfl (by kernel_rfl) (by kernel_rfl) (by kernel_rfl) (fun _ _ _ h => h) (Or.inl ⟨by rfl, fun wq hSw => by have m0 := keep k0 hSw.to; have m1 := keep k1 hSw.to; have m2 := keep k2 hSw.to; have m3 := keep k3 hSw.to; have m4 := keep k4 hSw.to; go_simp⟩) hS ?_
          simp only [List.setIfInBounds_toArray, List.set_cons_zero, List.set_cons_succ]
          refine tkd (i := 5) (v := .pointer (some ⟨w.heap.size + 1, 4, none⟩)) rfl rfl (by kernel_rfl) (by kernel_rfl) (by kernel_rfl) (fun _ _ _ h => h) (Or.inl ⟨by rfl, fun wq hSw => by skip; go_simp⟩) hS ?_
          simp only [List.setIfInBounds_toArray, List.set_cons_zero, List.set_cons_succ]
          refine tkd (i := 6) (v := .slice (some ⟨g2, o2, none⟩) o.code.length bc4) rfl rfl (by kernel_rfl) (by kernel_rfl) (by kernel_rfl) (fun _ _ _ h => h) (Or.inl ⟨by rfl, fun wq hSw => by have m := hSw.bz.cell 4 g4; go_simp⟩) hS ?_
          simp only [List.setIfInBounds_toArray, List.set_cons_zero, List.set_cons_succ]
          refine tkd (i := 7) (v := .int .i64 (j : Int)) rfl rfl (by kernel_rfl) (by kernel_rfl) (by kernel_rfl) (fun _ _ _ h => h) (Or.inl ⟨by rfl, fun wq hSw => by skip; go_simp⟩) hS ?_
          simp only [List.setIfInBounds_toArray, List.set_cons_zero, List.set_cons_succ]
          refine tkd (i := 8) (v := .pointer (some ⟨g2, o2 + j * 5, none⟩)) rfl rfl (by kernel_rfl) (by kernel_rfl) (by kernel_rfl) (fun _ _ _ h => h) (Or.inl ⟨by rfl, fun wq hSw => by skip; go_simp⟩) hS ?_
          simp only [List.setIfInBounds_toArray, List.set_cons_zero, List.set_cons_succ]
          refine tkd (i := 9) (v := .agg #[.int .i64 x1, .int .i64 x2, .int .i64 x3, .int .i64 x4, .int .i64 x5] ) rfl rfl (by kernel_rfl) (by kernel_rfl) (by kernel_rfl) (fun _ _ _ h => h) (Or.inl ⟨by rfl, fun wq hSw => by have m0 := keep z0 hSw.to; have m1 := keep z1 hSw.to; have m2 := keep z2 hSw.to; have m3 := keep z3 hSw.to; have m4 := keep z4 hSw.to; go_simp⟩) hS ?_
          simp only [List.setIfInBounds_toArray, List.set_cons_zero, List.set_cons_succ]
          refine tkd (i := 10) (v := .bool false) rfl rfl (by kernel_rfl) (by kernel_rfl) (by kernel_rfl) (fun _ _ _ h => h) (Or.inl ⟨by rfl, fun wq hSw => by skip; go_simp⟩) hS ?_
          simp only [List.setIfInBounds_toArray, List.set_cons_zero, List.set_cons_succ]
          refine wpAnyH_done (by kernel_rfl) ?_ _
          go_wp2
          go_roundw
          case rel => exact ⟨j + 1, by omega, by go_num, hS⟩
          case measure => simp [intOf]; omega
        · go_wp2
          go_loopw [7] (fun t wr => ∃ j : Nat, j ≤ o.relocs.length ∧ t = .int .i64 j ∧ Two w wr w.heap.size XS YS) (fun t _ => o.relocs.length - (intOf t).toNat)
          case atStart => exact ⟨0, Nat.zero_le _, rfl, hT⟩
          case round =>
            clear hT
            obtain ⟨j, hj, rfl, hT⟩ := hrel
            have yy := hT.bx.cell 5 f5
            by_cases hlt : j < o.relocs.length
            · obtain ⟨_, _, e1, hle, hc⟩ := p5
              cases e1
              obtain ⟨_, _, e2, _, hd⟩ := q5
              cases e2
              obtain ⟨g, o1, rfl, hcc⟩ := hc (by intro e; rw [e] at hlt; simp at hlt)
              obtain ⟨g2, o2, rfl, hdd⟩ := hd (by intro e; rw [e] at hlt; simp at hlt)
              obtain ⟨k0, k1, k2, k3⟩ := hcc j hlt
              obtain ⟨z0, z1, z2, z3⟩ := hdd j hlt
              clear hcc hdd hc hd
              generalize o.relocs[j] = x at *
              obtain ⟨x1, x2, x3, x4⟩ := x
              dsimp only at k0 k1 k2 k3 z0 z1 z2 z3
              have hE := eqR x1 x2 x3 x4
              go_wp2
              refine wp_region_held_drew (S := fun W => Two w W w.heap.size XS YS) (by kernel_rfl) (hT.below (Below.refl _ _).drew) (fun hS => ?_)
              refine tkd (i := 0) (v := .pointer (some ⟨w.heap.size, 5, none⟩)) rfl rfl (by kernel_rfl) (by kernel_rfl) (by kernel_rfl) (fun _ _ _ h => h) (Or.inl ⟨by rfl, fun wq hSw => by skip; go_simp⟩) hS ?_
              simp only [List.setIfInBounds_toArray, List.set_cons_zero, List.set_cons_succ]
              refine tkd (i := 1) (v := .slice (some ⟨g, o1, none⟩) o.relocs.length ac5) rfl rfl (by kernel_rfl) (by kernel_rfl) (by kernel_rfl) (fun _ _ _ h => h) (Or.inl ⟨by rfl, fun wq hSw => by have m := hSw.bx.cell 5 f5; go_simp⟩) hS ?_
              simp only [List.setIfInBounds_toArray, List.set_cons_zero, List.set_cons_succ]
              refine tkd (i := 2) (v := .int .i64 (j : Int)) rfl rfl (by kernel_rfl) (by kernel_rfl) (by kernel_rfl) (fun _ _ _ h => h) (Or.inl ⟨by rfl, fun wq hSw => by skip; go_simp⟩) hS ?_
              simp only [List.setIfInBounds_toArray, List.set_cons_zero, List.set_cons_succ]
              refine tkd (i := 3) (v := .pointer (some ⟨g, o1 + j * 4, none⟩)) rfl rfl (by kernel_rfl) (by kernel_rfl) (by kernel_rfl) (fun _ _ _ h => h) (Or.inl ⟨by rfl, fun wq hSw => by skip; go_simp⟩) hS ?_
              simp only [List.setIfInBounds_toArray, List.set_cons_zero, List.set_cons_succ]
              refine tkd (i := 4) (v := .agg #[.int .i64 x1, .int .i64 x2, .string x3, .string x4] ) rfl rfl (by kernel_rfl) (by kernel_rfl) (by kernel_rfl) (fun _ _ _ h => h) (Or.inl ⟨by rfl, fun wq hSw => by have m0 := keep k0 hSw.to; have m1 := keep k1 hSw.to; have m2 := keep k2 hSw.to; have m3 := keep k3 hSw.to; go_simp⟩) hS ?_
              simp only [List.setIfInBounds_toArray, List.set_cons_zero, List.set_cons_succ]
              refine tkd (i := 5) (v := .pointer (some ⟨w.heap.size + 1, 5, none⟩)) rfl rfl (by kernel_rfl) (by kernel_rfl) (by kernel_rfl) (fun _ _ _ h => h) (Or.inl ⟨by rfl, fun wq hSw => by skip; go_simp⟩) hS ?_
              simp only [List.setIfInBounds_toArray, List.set_cons_zero, List.set_cons_succ]
              refine tkd (i := 6) (v := .slice (some ⟨g2, o2, none⟩) o.relocs.length bc5) rfl rfl (by kernel_rfl) (by kernel_rfl) (by kernel_rfl) (fun _ _ _ h => h) (Or.inl ⟨by rfl, fun wq hSw => by have m := hSw.bz.cell 5 g5; go_simp⟩) hS ?_
              simp only [List.setIfInBounds_toArray, List.set_cons_zero, List.set_cons_succ]
              refine tkd (i := 7) (v := .int .i64 (j : Int)) rfl rfl (by kernel_rfl) (by kernel_rfl) (by kernel_rfl) (fun _ _ _ h => h) (Or.inl ⟨by rfl, fun wq hSw => by skip; go_simp⟩) hS ?_
              simp only [List.setIfInBounds_toArray, List.set_cons_zero, List.set_cons_succ]
              refine tkd (i := 8) (v := .pointer (some ⟨g2, o2 + j * 4, none⟩)) rfl rfl (by kernel_rfl) (by kernel_rfl) (by kernel_rfl) (fun _ _ _ h => h) (Or.inl ⟨by rfl, fun wq hSw => by skip; go_simp⟩) hS ?_
              simp only [List.setIfInBounds_toArray, List.set_cons_zero, List.set_cons_succ]
              refine tkd (i := 9) (v := .agg #[.int .i64 x1, .int .i64 x2, .string x3, .string x4] ) rfl rfl (by kernel_rfl) (by kernel_rfl) (by kernel_rfl) (fun _ _ _ h => h) (Or.inl ⟨by rfl, fun wq hSw => by have m0 := keep z0 hSw.to; have m1 := keep z1 hSw.to; have m2 := keep z2 hSw.to; have m3 := keep z3 hSw.to; go_simp⟩) hS ?_
              simp only [List.setIfInBounds_toArray, List.set_cons_zero, List.set_cons_succ]
              refine tkd (i := 10) (v := .bool false) rfl rfl (by kernel_rfl) (by kernel_rfl) (by kernel_rfl) (fun _ _ _ h => h) (Or.inl ⟨by rfl, fun wq hSw => by skip; go_simp⟩) hS ?_
              simp only [List.setIfInBounds_toArray, List.set_cons_zero, List.set_cons_succ]
              refine wpAnyH_done (by kernel_rfl) ?_ _
              go_wp2
              go_roundw
              case rel => exact ⟨j + 1, by omega, by go_num, hS⟩
              case measure => simp [intOf]; omega
            · have y6 := hT.bx.cell 6 f6
              have z6 := hT.bz.cell 6 g6
              go_wp2_with (fail)
              refine (rList o.procs _ _ _ (p6.below hT.to) (q6.below hT.to)).mono ?_
              rintro e w5 ⟨rfl, hb5⟩
              replace hT := hT.below hb5
              have y7 := hT.bx.cell 7 f7
              have z7 := hT.bz.cell 7 g7
              go_wp2_with (fail)
              refine (rList o.lows _ _ _ (p7.below hT.to) (q7.below hT.to)).mono ?_
              rintro e w6 ⟨rfl, hb6⟩
              replace hT := hT.below hb6
              have y8 := hT.bx.cell 8 f8
              have z8 := hT.bz.cell 8 g8
              go_wp2_with (fail)
              refine (rList o.highs _ _ _ (p8.below hT.to) (q8.below hT.to)).mono ?_
              rintro e w7 ⟨rfl, hb7⟩
              replace hT := hT.below hb7
              go_wp2
              go_ret
              exact ⟨rfl, hT.to⟩
end Go.Proofs.YthfeojjfehbgjaaGreatDoor.obj
