/- What the program's Get answers: a contract; what is no object is thrown, and recovered. (Written by mkgetw.py: edit that.) -/
import Derived.Defers
import Derived.Recover
import Derived.Laws.EntriesVeiled
import Derived.Test.YthfeojjfehbgjaaGreatDoorOGObjWhole
namespace Go.Proofs.YthfeojjfehbgjaaGreatDoor.obj
open Go.RowKit
open Go.Proofs.YthfeojjfehbgjaaGreatDoor.lexs (HasErr)
open Go.Proofs.YthfeojjfehbgjaaGreatDoor.mac (BoxC grown_of_below Ins)
open Go.Proofs.YthfeojjfehbgjaaGreatDoor.face (VarD ProcD FaceD IntsIn VarsIn ProcsIn varV procV)
set_option linter.unusedVariables false
set_option linter.unusedSimpArgs false
set_option maxRecDepth 100000
theorem recover_some {P : Program} {Q : Exit → Act → List Frame → World → Prop} {a : Act} {cs cs' : List Frame} {w : World} {y : Code} {v : Value} {d : Nat} {T : TypeId} {pos : String} (h : recoverD cs = some (v, cs')) (hy : y.wpS P Q (a.put (some d) v) cs' w) :
    ((Code.region 0 #[{ dst := some d, op := Op.call { callee := Callee.builtin Builtin.recover, args := #[], argTypes := #[] }, type := T, pos := pos, after := #[], guard := none }] false).seq y).wpS P Q a cs w := by
  apply wpS_seq
  apply wpS_region
  simp [wpOpsS, go_sem, h, Exit.thenS]
  exact hy
theorem recover_none {P : Program} {Q : Exit → Act → List Frame → World → Prop} {a : Act} {cs : List Frame} {w : World} {y : Code} {d : Nat} {T : TypeId} {pos : String} (h : recoverD cs = none) (hy : y.wpS P Q (a.put (some d) .nilIface) cs w) :
    ((Code.region 0 #[{ dst := some d, op := Op.call { callee := Callee.builtin Builtin.recover, args := #[], argTypes := #[] }, type := T, pos := pos, after := #[], guard := none }] false).seq y).wpS P Q a cs w := by
  apply wpS_seq
  apply wpS_region
  simp [wpOpsS, go_sem, h, Exit.thenS]
  exact hy
set_option maxHeartbeats 200000 in
theorem gcatch_idle (p : Addr) (w : World) :
    CallsD Tryz.prog 28 #[.pointer (some p)] .returning w fun e u' w' => e = .returned (.tuple #[]) ∧ u' = .returning ∧ w' = w := by
  have hnn : ∀ w : World, (binOp BinOp.eql 20 .nilIface .nilIface).run Tryz.prog w = .ok (.bool true) w := fun _ => by kernel_rfl
  refine callsD_of_wpS Tryz.func28 rfl fun c₀ cs hu => ?_
  refine recover_none (by simp [recoverD, hu]) ?_
  simp only [Tryz.ntmps28, List.size_toArray, List.length_cons, List.length_nil, Nat.reduceAdd, Nat.reduceSub, Array.replicate_succ, Array.replicate_zero, List.push_toArray, List.append_toArray, List.nil_append, List.cons_append, Act.put, List.setIfInBounds_toArray, List.set_cons_succ, List.set_cons_zero]
  refine wpS_of_wp (wp_mono (Q := fun e a w' => e = .normal ∧ a.defers = [] ∧ w' = w) ?_ ?_)
  · go_wp2
  · rintro e a w' ⟨rfl, h1, rfl⟩
    exact ⟨h1, _, rfl, .tuple #[], by simp [results, Tryz.results28], rfl, hu, rfl⟩
set_option maxHeartbeats 1000000 in
theorem gcatch (fb : Nat) (w : World) (h0 : w.cell? ⟨fb, 0, none⟩ = some (.int .i64 0)) (f0 : w.frozen? ⟨fb, 0, none⟩ = false) (hfb : fb < w.heap.size) :
    CallsD Tryz.prog 28 #[.pointer (some ⟨fb, 0, none⟩)] (.panicking NOB) w fun e u' w' => e = .returned (.tuple #[]) ∧ u' = .panicking [{ v := .iface 65 (.agg #[]), recovered := true }] ∧ w'.cell? ⟨fb, 0, none⟩ = some (.int .i64 2) ∧ Fr fb nilV nilV w w' := by
  have c0 : Tryz.prog.cellsOf 65 = 0 := by kernel_rfl
  have hnn : ∀ w : World, (binOp BinOp.eql 20 (.iface 65 (.agg #[])) .nilIface).run Tryz.prog w = .ok (.bool false) w := fun _ => by kernel_rfl
  have hta : ∀ w : World, (Instr.typeAssert (.iface 65 (.agg #[])) 20 65 true).run Tryz.prog w = .ok (.tuple #[.agg #[], .bool true]) w := fun _ => by kernel_rfl
  unfold NOB
  refine callsD_of_wpS Tryz.func28 rfl fun c₀ cs hu => ?_
  refine recover_some (v := .iface 65 (.agg #[])) (cs' := { c₀ with mode := .panicking [{ v := .iface 65 (.agg #[]), recovered := true }] } :: cs) (by simp [recoverD, hu]) ?_
  simp only [Tryz.ntmps28, List.size_toArray, List.length_cons, List.length_nil, Nat.reduceAdd, Nat.reduceSub, Array.replicate_succ, Array.replicate_zero, List.push_toArray, List.append_toArray, List.nil_append, List.cons_append, Act.put, List.setIfInBounds_toArray, List.set_cons_succ, List.set_cons_zero]
  refine wpS_of_wp (wp_mono (Q := fun e a w' => e = .normal ∧ a.defers = [] ∧ w'.cell? ⟨fb, 0, none⟩ = some (.int .i64 2) ∧ Fr fb nilV nilV w w') ?_ ?_)
  · go_wp2
    exact ((Fr.refl _ _ _).set _ _).alloc _
  · rintro e a w' ⟨rfl, h1, h2, h3⟩
    exact ⟨h1, _, rfl, .tuple #[], by simp [results, Tryz.results28], rfl, rfl, h2, h3⟩
theorem ObjAt.sub {w w' : World} {x : Vals} {o : ObjD} (h : ObjAt w x o) (hs : Sub w w') : ObjAt w' x o :=
  ⟨varsSub hs h.vars, procsSub hs h.procs, facesSub hs h.imps, codeSub hs h.code, relsSub hs h.rels, plcsSub hs h.q1, plcsSub hs h.q2, plcsSub hs h.q3⟩
/-- bytes that are handed in -/
structure ByArg (w : World) (a : Option Addr) (c : Nat) (l : By) : Prop where
  le : l.length ≤ c
  most : c ≤ 9223372036854775807
  nil : a = none → c = 0
  plain : ∀ x, a = some x → ∃ g o, x = ⟨g, o, none⟩
  by' : ByIn w w.heap.size a l
def zeroO : ObjD := ⟨⟨⟨#[]⟩, [], []⟩, [], [], [], [], [], [], 0, 0, 0, 0⟩
def zeroX : Vals := ⟨nilV, nilV, nilV, nilV, nilV, nilV, nilV, nilV⟩
theorem zeroAt (w : World) : ObjAt w zeroX zeroO := by
  refine ⟨⟨none, 0, rfl, by simp [zeroO], fun h => absurd rfl h⟩, ⟨none, 0, rfl, by simp [zeroO], fun h => absurd rfl h⟩, ⟨none, 0, rfl, by simp [zeroO], fun h => absurd rfl h⟩, ⟨none, 0, rfl, by simp [zeroO], fun h => absurd rfl h⟩, ⟨none, 0, rfl, by simp [zeroO], fun h => absurd rfl h⟩, ⟨none, 0, rfl, by simp [zeroO], fun h => absurd rfl h⟩, ⟨none, 0, rfl, by simp [zeroO], fun h => absurd rfl h⟩, ⟨none, 0, rfl, by simp [zeroO], fun h => absurd rfl h⟩⟩
/-- the object that bytes are, or none -/
def GetE (w : World) (G : Option ObjD) (e : Ending) (w' : World) : Prop :=
  Below w.heap.size w w' ∧ ∃ x, e = .returned (.tuple #[objV (G.getD zeroO) x, .int .i64 (if G.isSome then 0 else 2)]) ∧ ObjAt w' x (G.getD zeroO)
theorem res_get {W : World} {a0 a1 z y0 y1 y2 y3 y4 y5 y6 y7 y8 y9 y10 y11 y12 : Value} (tl : List Value) (B C : Nat) (h : BoxC W B #[y0, y1, y2, y3, y4, y5, y6, y7, y8, y9, y10, y11, y12] 31) (hC : W.cell? ⟨C, 0, none⟩ = some z) (c : Tryz.prog.cellsOf 31 = 13) (hz : ∃ n, z = .int .i64 n) : (results Tryz.f9 (List.toArray (a0 :: a1 :: .pointer (some ⟨B, 0, none⟩) :: .pointer (some ⟨C, 0, none⟩) :: tl))).run Tryz.prog W = .ok (.tuple #[.agg #[y0, y1, y2, y3, y4, y5, y6, y7, y8, y9, y10, y11, y12], z]) W := by
  have z0 := h.cell 0 rfl
  have z1 := h.cell 1 rfl
  have z2 := h.cell 2 rfl
  have z3 := h.cell 3 rfl
  have z4 := h.cell 4 rfl
  have z5 := h.cell 5 rfl
  have z6 := h.cell 6 rfl
  have z7 := h.cell 7 rfl
  have z8 := h.cell 8 rfl
  have z9 := h.cell 9 rfl
  have z10 := h.cell 10 rfl
  have z11 := h.cell 11 rfl
  have z12 := h.cell 12 rfl
  obtain ⟨n, rfl⟩ := hz
  simp [results, Tryz.f9, go_sem, hC, z0, z1, z2, z3, z4, z5, z6, z7, z8, z9, z10, z11, z12]
set_option maxHeartbeats 4000000 in
theorem oGet {w : World} {a : Option Addr} {c : Nat} {l : By} (h : ByArg w a c l) (hw : HasErr w) (hl0 : l.length ≤ 1073741824) (hs : ∀ o l2, getO l = some (o, l2) → Small o) :
    Calls Tryz.prog 9 #[.slice a l.length c] w (GetE w (getAll l)) := by
  have c13 : Tryz.prog.cellsOf 31 = 13 := by kernel_rfl
  have c1' : Tryz.prog.cellsOf 68 = 1 := by kernel_rfl
  have hmf : ∀ (fn : Fn) (first cap : Array Value) (w : World), (Instr.makeFunc fn first cap).run Tryz.prog w = .ok (.func fn first cap) w := fun _ _ _ _ => rfl
  obtain ⟨w2, hw2⟩ : ∃ w2, w2 = (w.alloc (.cells #[.string ⟨#[]⟩, .slice none 0 0, .slice none 0 0, .slice none 0 0, .slice none 0 0, .slice none 0 0, .slice none 0 0, .slice none 0 0, .slice none 0 0, .int .i64 0, .int .i64 0, .int .i64 0, .int .i64 0] 31)).alloc (.cells #[.int .i64 0] 34) := ⟨_, rfl⟩
  have hs2 : w2.heap.size = w.heap.size + 2 := by rw [hw2]; simp
  have hB2 : Below w.heap.size w w2 := by rw [hw2]; exact ((Below.refl _ _).alloc (Nat.le_refl _) _).alloc (by simp) _
  have bO : BoxC w2 w.heap.size #[.string ⟨#[]⟩, .slice none 0 0, .slice none 0 0, .slice none 0 0, .slice none 0 0, .slice none 0 0, .slice none 0 0, .slice none 0 0, .slice none 0 0, .int .i64 0, .int .i64 0, .int .i64 0, .int .i64 0] 31 := by rw [hw2]; exact (BoxC.new w _ _).alloc _
  have bE : BoxC w2 (w.heap.size + 1) #[.int .i64 0] 34 := by
    have := BoxC.new (w.alloc (.cells #[.string ⟨#[]⟩, .slice none 0 0, .slice none 0 0, .slice none 0 0, .slice none 0 0, .slice none 0 0, .slice none 0 0, .slice none 0 0, .slice none 0 0, .int .i64 0, .int .i64 0, .int .i64 0, .int .i64 0] 31)) #[.int .i64 0] 34
    rw [World.size_alloc] at this
    rw [hw2]
    exact this
  have hB3 : Below w.heap.size w (w2.alloc (.cells #[.slice a l.length c] 68)) := hB2.alloc (by omega) _
  have hS3 : (w2.alloc (.cells #[.slice a l.length c] 68)).heap.size = w.heap.size + 3 := by simp; omega
  have hRS : RS (w2.alloc (.cells #[.slice a l.length c] 68)) w2.heap.size l := ⟨a, c, BoxC.new w2 _ _, h.le, h.most, h.nil, h.plain, fun hne => by
    obtain ⟨g, o, e, hg, hc⟩ := h.by' hne
    exact ⟨g, o, e, by omega, fun i hi => (hB3.cell (p := ⟨g, o + i, none⟩) hg).trans (hc i hi)⟩⟩
  have hC := oWhole hRS (fun w' hF => face.HasErr.below hw ⟨hF.os.trans hB3.os, hF.tape.trans hB3.tape, hF.output.trans hB3.output, Nat.le_trans hB3.size hF.size, fun b hb => (hF.block b (by omega) (by omega) (by simp [nilV, Value.ownBlock])).trans (hB3.block b hb)⟩) hl0 hs
  have bO3 := bO.alloc (.cells #[.slice a l.length c] 68)
  have bE3 := bE.alloc (.cells #[.slice a l.length c] 68)
  rw [hs2] at hC
  obtain ⟨G, hG⟩ : ∃ G, G = getAll l := ⟨_, rfl⟩
  rw [← hG] at hC ⊢
  clear hG hRS
  obtain ⟨w3, hw3⟩ : ∃ w3, w3 = w2.alloc (.cells #[.slice a l.length c] 68) := ⟨_, rfl⟩
  rw [← hw3] at hC bO3 bE3 hB3 hS3
  rw [hw2] at hw3
  go_enter_defers Tryz.func9, Tryz.ntmps9
  go_wp2_with (fail)
  rw [← hw3]
  refine hC.mono ?_
  clear hw3 hw2 hC
  rintro e w5 ⟨hF, hE⟩
  have hsz := hF.size
  have bO5 : BoxC w5 w.heap.size #[.string ⟨#[]⟩, .slice none 0 0, .slice none 0 0, .slice none 0 0, .slice none 0 0, .slice none 0 0, .slice none 0 0, .slice none 0 0, .slice none 0 0, .int .i64 0, .int .i64 0, .int .i64 0, .int .i64 0] 31 := (hF.block _ (by omega) (by omega) (by simp [nilV, Value.ownBlock])).trans bO3
  have bE5 : BoxC w5 (w.heap.size + 1) #[.int .i64 0] 34 := (hF.block _ (by omega) (by omega) (by simp [nilV, Value.ownBlock])).trans bE3
  have hB5 : Below w.heap.size w w5 := ⟨hF.os.trans hB3.os, hF.tape.trans hB3.tape, hF.output.trans hB3.output, Nat.le_trans hB3.size hF.size, fun b hb => (hF.block b (by omega) (by omega) (by simp [nilV, Value.ownBlock])).trans (hB3.block b hb)⟩
  cases G with
  | none =>
    dsimp only at hE
    subst hE
    have key := gcatch (w.heap.size + 1) w5 (bE5.cell 0 rfl) (bE5.fz 0) (by omega)
    have HK : Hid (Below w.heap.size w w5) := hB5
    clear hF hB5 hB3
    go_wp2
    refine leaves_cons (f := 28) (args := #[.pointer (some ⟨w.heap.size + 1, 0, none⟩)]) (by simp) (by simp [go_sem]) ?_
    refine key.mono ?_
    rintro e u' w6 ⟨rfl, rfl, c0, hF6⟩
    have bO6 : BoxC w6 w.heap.size #[.string ⟨#[]⟩, .slice none 0 0, .slice none 0 0, .slice none 0 0, .slice none 0 0, .slice none 0 0, .slice none 0 0, .slice none 0 0, .slice none 0 0, .int .i64 0, .int .i64 0, .int .i64 0, .int .i64 0] 31 := (hF6.block _ (by omega) (by omega) (by simp [nilV, Value.ownBlock])).trans bO5
    have HK6 : Below w.heap.size w w6 := ⟨hF6.os.trans HK.out.os, hF6.tape.trans HK.out.tape, hF6.output.trans HK.out.output, Nat.le_trans HK.out.size hF6.size, fun j hj => (hF6.block j (by omega) (by omega) (by simp [nilV, Value.ownBlock])).trans (HK.out.block j hj)⟩
    refine ⟨.tuple #[.agg #[.string ⟨#[]⟩, .slice none 0 0, .slice none 0 0, .slice none 0 0, .slice none 0 0, .slice none 0 0, .slice none 0 0, .slice none 0 0, .slice none 0 0, .int .i64 0, .int .i64 0, .int .i64 0, .int .i64 0], .int .i64 2], res_get _ _ _ bO6 c0 c13 ⟨_, rfl⟩, HK6, zeroX, rfl, zeroAt w6⟩
  | some o =>
    obtain ⟨X, rfl, hat, hsh⟩ := hE
    obtain ⟨a1, c1, a2, c2, a3, c3, a4, c4, a5, c5, a6, c6, a7, c7, a8, c8, rfl⟩ := hsh.ex
    unfold objV
    dsimp only
    have bOF := box_row (cs := #[.string o.face.module, .slice a1 o.face.vars.length c1, .slice a2 o.face.procs.length c2, .slice a3 o.imports.length c3, .slice a4 o.code.length c4, .slice a5 o.relocs.length c5, .slice a6 o.procs.length c6, .slice a7 o.lows.length c7, .slice a8 o.highs.length c8, .int .i64 o.low, .int .i64 o.high, .int .i64 o.lowF, .int .i64 o.highF]) bO5
    have bEF : BoxC (w5.setRow w.heap.size #[.string o.face.module, .slice a1 o.face.vars.length c1, .slice a2 o.face.procs.length c2, .slice a3 o.imports.length c3, .slice a4 o.code.length c4, .slice a5 o.relocs.length c5, .slice a6 o.procs.length c6, .slice a7 o.lows.length c7, .slice a8 o.highs.length c8, .int .i64 o.low, .int .i64 o.high, .int .i64 o.lowF, .int .i64 o.highF]) (w.heap.size + 1) #[.int .i64 0] 34 := (setRow_other w5 _ _ _ (by omega)).trans bE5
    have q0 := bEF.cell 0 rfl
    have qf := bEF.fz 0
    have z0 := bO5.cell 0 rfl
    have f0 := bO5.fz 0
    have z1 := bO5.cell 1 rfl
    have f1 := bO5.fz 1
    have z2 := bO5.cell 2 rfl
    have f2 := bO5.fz 2
    have z3 := bO5.cell 3 rfl
    have f3 := bO5.fz 3
    have z4 := bO5.cell 4 rfl
    have f4 := bO5.fz 4
    have z5 := bO5.cell 5 rfl
    have f5 := bO5.fz 5
    have z6 := bO5.cell 6 rfl
    have f6 := bO5.fz 6
    have z7 := bO5.cell 7 rfl
    have f7 := bO5.fz 7
    have z8 := bO5.cell 8 rfl
    have f8 := bO5.fz 8
    have z9 := bO5.cell 9 rfl
    have f9 := bO5.fz 9
    have z10 := bO5.cell 10 rfl
    have f10 := bO5.fz 10
    have z11 := bO5.cell 11 rfl
    have f11 := bO5.fz 11
    have z12 := bO5.cell 12 rfl
    have f12 := bO5.fz 12
    have h13 := set13 (x0 := .string o.face.module) (x1 := .slice a1 o.face.vars.length c1) (x2 := .slice a2 o.face.procs.length c2) (x3 := .slice a3 o.imports.length c3) (x4 := .slice a4 o.code.length c4) (x5 := .slice a5 o.relocs.length c5) (x6 := .slice a6 o.procs.length c6) (x7 := .slice a7 o.lows.length c7) (x8 := .slice a8 o.highs.length c8) (x9 := .int .i64 o.low) (x10 := .int .i64 o.high) (x11 := .int .i64 o.lowF) (x12 := .int .i64 o.highF) bO5
    have HB : Hid (Below w.heap.size w ((w5.setRow w.heap.size #[.string o.face.module, .slice a1 o.face.vars.length c1, .slice a2 o.face.procs.length c2, .slice a3 o.imports.length c3, .slice a4 o.code.length c4, .slice a5 o.relocs.length c5, .slice a6 o.procs.length c6, .slice a7 o.lows.length c7, .slice a8 o.highs.length c8, .int .i64 o.low, .int .i64 o.high, .int .i64 o.lowF, .int .i64 o.highF]).setCell ⟨w.heap.size + 1, 0, none⟩ (.int .i64 0))) := (hB5.trans ((below_setRow w5 w.heap.size _).mono (Nat.le_refl _))).setCell (Nat.le_succ _) _
    have HO : Hid (BoxC ((w5.setRow w.heap.size #[.string o.face.module, .slice a1 o.face.vars.length c1, .slice a2 o.face.procs.length c2, .slice a3 o.imports.length c3, .slice a4 o.code.length c4, .slice a5 o.relocs.length c5, .slice a6 o.procs.length c6, .slice a7 o.lows.length c7, .slice a8 o.highs.length c8, .int .i64 o.low, .int .i64 o.high, .int .i64 o.lowF, .int .i64 o.highF]).setCell ⟨w.heap.size + 1, 0, none⟩ (.int .i64 0)) w.heap.size #[.string o.face.module, .slice a1 o.face.vars.length c1, .slice a2 o.face.procs.length c2, .slice a3 o.imports.length c3, .slice a4 o.code.length c4, .slice a5 o.relocs.length c5, .slice a6 o.procs.length c6, .slice a7 o.lows.length c7, .slice a8 o.highs.length c8, .int .i64 o.low, .int .i64 o.high, .int .i64 o.lowF, .int .i64 o.highF] 31) := (Below.heap_setCell _ _ _ _ (by simp)).trans bOF
    have HC : Hid (((w5.setRow w.heap.size #[.string o.face.module, .slice a1 o.face.vars.length c1, .slice a2 o.face.procs.length c2, .slice a3 o.imports.length c3, .slice a4 o.code.length c4, .slice a5 o.relocs.length c5, .slice a6 o.procs.length c6, .slice a7 o.lows.length c7, .slice a8 o.highs.length c8, .int .i64 o.low, .int .i64 o.high, .int .i64 o.lowF, .int .i64 o.highF]).setCell ⟨w.heap.size + 1, 0, none⟩ (.int .i64 0)).cell? ⟨w.heap.size + 1, 0, none⟩ = some (.int .i64 0)) := (bEF.set 0 (.int .i64 0)).cell 0 rfl
    have HAT : Hid (ObjAt ((w5.setRow w.heap.size #[.string o.face.module, .slice a1 o.face.vars.length c1, .slice a2 o.face.procs.length c2, .slice a3 o.imports.length c3, .slice a4 o.code.length c4, .slice a5 o.relocs.length c5, .slice a6 o.procs.length c6, .slice a7 o.lows.length c7, .slice a8 o.highs.length c8, .int .i64 o.low, .int .i64 o.high, .int .i64 o.lowF, .int .i64 o.highF]).setCell ⟨w.heap.size + 1, 0, none⟩ (.int .i64 0)) ⟨.slice a1 o.face.vars.length c1, .slice a2 o.face.procs.length c2, .slice a3 o.imports.length c3, .slice a4 o.code.length c4, .slice a5 o.relocs.length c5, .slice a6 o.procs.length c6, .slice a7 o.lows.length c7, .slice a8 o.highs.length c8⟩ o) := by
      refine hat.sub fun a v h => ?_
      obtain ⟨g1, g2, g3⟩ := win_cell h
      have e1 : ((w5.setRow w.heap.size #[.string o.face.module, .slice a1 o.face.vars.length c1, .slice a2 o.face.procs.length c2, .slice a3 o.imports.length c3, .slice a4 o.code.length c4, .slice a5 o.relocs.length c5, .slice a6 o.procs.length c6, .slice a7 o.lows.length c7, .slice a8 o.highs.length c8, .int .i64 o.low, .int .i64 o.high, .int .i64 o.lowF, .int .i64 o.highF]).setCell ⟨w.heap.size + 1, 0, none⟩ (.int .i64 0)).heap[a.block]? = w5.heap[a.block]? := (Below.heap_setCell _ _ _ _ (by simp; omega)).trans (setRow_other w5 _ _ _ (by omega))
      exact (World.cell?_of_block e1).trans g3
    clear hF hB5 hB3 hat bOF bEF bE5 bO5
    go_wp2
    refine leaves_cons (f := 28) (args := #[.pointer (some ⟨w.heap.size + 1, 0, none⟩)]) (by simp) (by simp [go_sem]) ?_
    refine (gcatch_idle _ _).mono ?_
    rintro e u' w6 ⟨rfl, rfl, hw6⟩
    subst hw6
    exact ⟨.tuple #[.agg #[.string o.face.module, .slice a1 o.face.vars.length c1, .slice a2 o.face.procs.length c2, .slice a3 o.imports.length c3, .slice a4 o.code.length c4, .slice a5 o.relocs.length c5, .slice a6 o.procs.length c6, .slice a7 o.lows.length c7, .slice a8 o.highs.length c8, .int .i64 o.low, .int .i64 o.high, .int .i64 o.lowF, .int .i64 o.highF], .int .i64 0], res_get _ _ _ HO.out HC.out c13 ⟨_, rfl⟩, HB.out, _, rfl, HAT.out⟩
end Go.Proofs.YthfeojjfehbgjaaGreatDoor.obj
