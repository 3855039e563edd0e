/- What Link's deferred closure answers: contracts. -/
import Derived.Defers
import Derived.Recover
import Derived.Laws.EntriesVeiled
import Derived.Test.YtaiocbbcjdpjgaaGreatDoorLMLnkRow
namespace Go.Proofs.YtaiocbbcjdpjgaaGreatDoor.lnk
open Go.RowKit
open Go.Proofs.YtaiocbbcjdpjgaaGreatDoor.mac (BoxC Ins grown_of_below)
set_option linter.unusedVariables false
set_option linter.unusedSimpArgs false
set_option maxRecDepth 100000
theorem recover_some {P : Program} {Q : Exit → Act → List Frame → World → Prop} {a : Act} {cs cs' : List Frame} {w : World} {y : Code} {v : Value} {d : Nat} {T : TypeId} {pos : String} (h : recoverD cs = some (v, cs')) (hy : y.wpS P Q (a.put (some d) v) cs' w) :
    ((Code.region 0 #[{ dst := some d, op := Op.call { callee := Callee.builtin Builtin.recover, args := #[], argTypes := #[] }, type := T, pos := pos, after := #[], guard := none }] false).seq y).wpS P Q a cs w := by
  apply wpS_seq
  apply wpS_region
  simp [wpOpsS, go_sem, h, Exit.thenS]
  exact hy
theorem recover_none {P : Program} {Q : Exit → Act → List Frame → World → Prop} {a : Act} {cs : List Frame} {w : World} {y : Code} {d : Nat} {T : TypeId} {pos : String} (h : recoverD cs = none) (hy : y.wpS P Q (a.put (some d) .nilIface) cs w) :
    ((Code.region 0 #[{ dst := some d, op := Op.call { callee := Callee.builtin Builtin.recover, args := #[], argTypes := #[] }, type := T, pos := pos, after := #[], guard := none }] false).seq y).wpS P Q a cs w := by
  apply wpS_seq
  apply wpS_region
  simp [wpOpsS, go_sem, h, Exit.thenS]
  exact hy
set_option maxHeartbeats 200000 in
theorem lcatch_idle (p : Addr) (w : World) :
    CallsD Tryz.prog 41 #[.pointer (some p)] .returning w fun e u' w' => e = .returned (.tuple #[]) ∧ u' = .returning ∧ w' = w := by
  have hnn : ∀ w : World, (binOp BinOp.eql 20 .nilIface .nilIface).run Tryz.prog w = .ok (.bool true) w := fun _ => by kernel_rfl
  refine callsD_of_wpS Tryz.func41 rfl fun c₀ cs hu => ?_
  refine recover_none (by simp [recoverD, hu]) ?_
  simp only [Tryz.ntmps41, List.size_toArray, List.length_cons, List.length_nil, Nat.reduceAdd, Nat.reduceSub, Array.replicate_succ, Array.replicate_zero, List.push_toArray, List.append_toArray, List.nil_append, List.cons_append, Act.put, List.setIfInBounds_toArray, List.set_cons_succ, List.set_cons_zero]
  refine wpS_of_wp (wp_mono (Q := fun e a w' => e = .normal ∧ a.defers = [] ∧ w' = w) ?_ ?_)
  · go_wp2
  · rintro e a w' ⟨rfl, h1, rfl⟩
    exact ⟨h1, _, rfl, .tuple #[], by simp [results, Tryz.results41], rfl, hu, rfl⟩
/-- all stays but one block -/
structure FrT (b : Nat) (w w' : World) : Prop where
  os : w'.os = w.os
  tape : w'.tape = w.tape
  output : w'.output = w.output
  size : w.heap.size ≤ w'.heap.size
  block : ∀ k, k < w.heap.size → k ≠ b → w'.heap[k]? = w.heap[k]?
theorem FrT.refl (w : World) (b : Nat) : FrT b w w := ⟨rfl, rfl, rfl, Nat.le_refl _, fun _ _ _ => rfl⟩
theorem FrT.alloc {w w' : World} {b : Nat} (h : FrT b w w') (o : Obj) : FrT b w (w'.alloc o) := ⟨h.os, h.tape, h.output, by have := h.size; simp; omega, fun k hk hne => (((Below.refl w'.heap.size w').alloc (Nat.le_refl _) o).block k (by have := h.size; omega)).trans (h.block k hk hne)⟩
theorem FrT.set {w w' : World} {b : Nat} (h : FrT b w w') (i : Nat) (v : Value) : FrT b w (w'.setCell ⟨b, i, none⟩ v) := ⟨h.os, h.tape, h.output, by have := h.size; simpa using this, fun k hk hne => (Below.heap_setCell w' ⟨b, i, none⟩ v k hne).trans (h.block k hk hne)⟩
set_option maxHeartbeats 1000000 in
theorem lcatch (fb : Nat) (m c a : Int) (w : World) (h : BoxC w fb #[.int .i64 0, .int .i64 0, .int .i64 0] 46) :
    CallsD Tryz.prog 41 #[.pointer (some ⟨fb, 0, none⟩)] (.panicking (ThrT m c a)) w fun e u' w' => e = .returned (.tuple #[]) ∧ u' = .panicking [{ v := .iface 46 (.agg #[.int .i64 m, .int .i64 c, .int .i64 a]), recovered := true }] ∧ BoxC w' fb #[.int .i64 m, .int .i64 c, .int .i64 a] 46 ∧ FrT fb w w' := by
  have c3 : Tryz.prog.cellsOf 46 = 3 := by kernel_rfl
  have hfb := h.lt
  have hnn : ∀ w : World, (binOp BinOp.eql 20 (.iface 46 (.agg #[.int .i64 m, .int .i64 c, .int .i64 a])) .nilIface).run Tryz.prog w = .ok (.bool false) w := fun _ => by kernel_rfl
  have hta : ∀ w : World, (Instr.typeAssert (.iface 46 (.agg #[.int .i64 m, .int .i64 c, .int .i64 a])) 20 46 true).run Tryz.prog w = .ok (.tuple #[.agg #[.int .i64 m, .int .i64 c, .int .i64 a], .bool true]) w := fun _ => by kernel_rfl
  have z0 := h.cell 0 rfl
  have z1 := h.cell 1 rfl
  have z2 := h.cell 2 rfl
  have f0 := h.fz 0
  have f1 := h.fz 1
  have f2 := h.fz 2
  have HB : Hid (BoxC ((((w.setCell ⟨fb, 0, none⟩ (.int .i64 m)).setCell ⟨fb, 1, none⟩ (.int .i64 c)).setCell ⟨fb, 2, none⟩ (.int .i64 a)).alloc (.cells #[.int .i64 m, .int .i64 c, .int .i64 a] 46)) fb #[.int .i64 m, .int .i64 c, .int .i64 a] 46) := by
    have := (((h.set 0 (.int .i64 m)).set 1 (.int .i64 c)).set 2 (.int .i64 a)).alloc (.cells #[.int .i64 m, .int .i64 c, .int .i64 a] 46)
    show BoxC _ _ _ _
    simpa using this
  have HF : Hid (FrT fb w ((((w.setCell ⟨fb, 0, none⟩ (.int .i64 m)).setCell ⟨fb, 1, none⟩ (.int .i64 c)).setCell ⟨fb, 2, none⟩ (.int .i64 a)).alloc (.cells #[.int .i64 m, .int .i64 c, .int .i64 a] 46))) := ((((FrT.refl w fb).set 0 _).set 1 _).set 2 _).alloc _
  clear h
  unfold ThrT
  refine callsD_of_wpS Tryz.func41 rfl fun c₀ cs hu => ?_
  refine recover_some (v := .iface 46 (.agg #[.int .i64 m, .int .i64 c, .int .i64 a])) (cs' := { c₀ with mode := .panicking [{ v := .iface 46 (.agg #[.int .i64 m, .int .i64 c, .int .i64 a]), recovered := true }] } :: cs) (by simp [recoverD, hu]) ?_
  simp only [Tryz.ntmps41, List.size_toArray, List.length_cons, List.length_nil, Nat.reduceAdd, Nat.reduceSub, Array.replicate_succ, Array.replicate_zero, List.push_toArray, List.append_toArray, List.nil_append, List.cons_append, Act.put, List.setIfInBounds_toArray, List.set_cons_succ, List.set_cons_zero]
  refine wpS_of_wp (wp_mono (Q := fun e q w' => e = .normal ∧ q.defers = [] ∧ (BoxC w' fb #[.int .i64 m, .int .i64 c, .int .i64 a] 46 ∧ FrT fb w w')) ?_ ?_)
  · go_wp2
    exact ⟨HB.out, HF.out⟩
  · rintro e q w' ⟨rfl, h1, h2, h3⟩
    exact ⟨h1, _, rfl, .tuple #[], by simp [results, Tryz.results41], rfl, rfl, h2, h3⟩
end Go.Proofs.YtaiocbbcjdpjgaaGreatDoor.lnk
