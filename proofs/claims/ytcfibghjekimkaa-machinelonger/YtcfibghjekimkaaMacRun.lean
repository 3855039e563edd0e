/- What Through and Run answer: contracts. -/
import Derived.Test.YtcfibghjekimkaaMacDo
import Derived.Defers
import Derived.Recover
import Derived.Laws.EntriesVeiled
namespace Go.Proofs.Ytcfibghjekimkaa.mac
open Go.RowKit
set_option linter.unusedVariables false
set_option linter.unusedSimpArgs false
set_option maxRecDepth 100000
theorem recover_some {P : Program} {Q : Exit → Act → List Frame → World → Prop} {a : Act} {cs cs' : List Frame} {w : World} {y : Code} {v : Value} {d : Nat} {T : TypeId} {pos : String} (h : recoverD cs = some (v, cs')) (hy : y.wpS P Q (a.put (some d) v) cs' w) :
    ((Code.region 0 #[{ dst := some d, op := Op.call { callee := Callee.builtin Builtin.recover, args := #[], argTypes := #[] }, type := T, pos := pos, after := #[], guard := none }] false).seq y).wpS P Q a cs w := by
  apply wpS_seq
  apply wpS_region
  simp [wpOpsS, go_sem, h, Exit.thenS]
  exact hy
set_option maxHeartbeats 1000000 in
theorem catch1 (B D : Nat) (k : Int) (w : World) (x : Value) (hb : w.cell? ⟨B, 0, none⟩ = some (.pointer (some ⟨D, 0, none⟩))) (h0 : w.cell? ⟨D, 0, none⟩ = some x) (f0 : w.frozen? ⟨D, 0, none⟩ = false) :
    CallsD Try.prog 15 #[.pointer (some ⟨B, 0, none⟩)] (.panicking (EndP k)) w fun e u' w' => e = .returned (.tuple #[]) ∧ u' = .panicking [{ v := .iface 51 (.int .i64 k), recovered := true }] ∧ w' = w.setCell ⟨D, 0, none⟩ (.int .i64 k) := by
  have hnn : ∀ w : World, (binOp BinOp.eql 20 (.iface 51 (.int .i64 k)) .nilIface).run Try.prog w = .ok (.bool false) w := fun _ => by kernel_rfl
  have hta : ∀ w : World, (Instr.typeAssert (.iface 51 (.int .i64 k)) 20 51 true).run Try.prog w = .ok (.tuple #[.int .i64 k, .bool true]) w := fun _ => by kernel_rfl
  have hBl := World.block_lt_of_cell? w ⟨B, 0, none⟩ hb
  have hDl := World.block_lt_of_cell? w ⟨D, 0, none⟩ h0
  unfold EndP
  refine callsD_of_wpS Try.func15 rfl fun c₀ cs hu => ?_
  refine recover_some (v := .iface 51 (.int .i64 k)) (cs' := { c₀ with mode := .panicking [{ v := .iface 51 (.int .i64 k), recovered := true }] } :: cs) (by simp [recoverD, hu]) ?_
  simp only [Try.ntmps15, List.size_toArray, List.length_cons, List.length_nil, Nat.reduceAdd, Nat.reduceSub, Array.replicate_succ, Array.replicate_zero, List.push_toArray, List.append_toArray, List.nil_append, List.cons_append, Act.put, List.setIfInBounds_toArray, List.set_cons_succ, List.set_cons_zero]
  refine wpS_of_wp (wp_mono (Q := fun e a w' => e = .normal ∧ a.defers = [] ∧ w' = w.setCell ⟨D, 0, none⟩ (.int .i64 k)) ?_ ?_)
  · go_wp2
  · rintro e a w' ⟨rfl, h1, h2⟩
    exact ⟨h1, _, rfl, .tuple #[], by simp [results, Try.results15], rfl, rfl, h2⟩
/-- what a run leaves -/
def ThE (p : Pl) (w0 : World) (R : Nat × St) (e : Ending) (w' : World) : Prop := e = .returned (.tuple #[]) ∧ ∃ vs' w5, MS { p with X := p.N, xo := none } w0 vs' R.2 w5 ∧ w' = w5.setCell ⟨p.D, 0, none⟩ (.int .i64 R.1)
section
variable {p : Pl} {w0 w w' : World} {vs : Fin 5 → Value} {s : St} {iL iH : List Int} {many : Nat}
set_option maxHeartbeats 2000000 in
theorem oThrough (code : List Ins) (h : MS p w0 vs s w) (hI : Inv iL iH code.length s) (hs : s.steps ≤ p.fuel) (hf : p.fuel ≤ 90000) (hL : IntsIn w0 p.il iL) (hH : IntsIn w0 p.ih iH) (hw0 : w0.heap.size ≤ p.N) (hLn : iL.length ≤ 1000) (hHn : iH.length ≤ 1000) (hcn : code.length ≤ 20000) (hcode : CodeIn w0 p.cv code) (hall : ∀ i (hi : i < code.length), insB code.length code[i] = true) :
    Calls Try.prog 9 #[.pointer (some ⟨p.D, 0, none⟩), .func (.func 10) #[.pointer (some ⟨p.D, 0, none⟩)] #[]] w (ThE p w0 (runF iL iH code (p.fuel - s.steps) s)) := by
  have hmf : ∀ (fn : Fn) (first cap : Array Value) (w : World), (Instr.makeFunc fn first cap).run Try.prog w = .ok (.func fn first cap) w := fun _ _ _ _ => rfl
  have hB := BoxC.new w #[.pointer (some ⟨p.D, 0, none⟩)] 50
  have hA := h.below ((Below.refl _ _).alloc (Nat.le_refl _) (.cells #[.pointer (some ⟨p.D, 0, none⟩)] 50))
  have hlt := h.lt
  have hA2 : MS { p with X := w.heap.size, xo := some (.cells #[.pointer (some ⟨p.D, 0, none⟩)] 50 (0, 0)) } w0 vs s (w.alloc (.cells #[.pointer (some ⟨p.D, 0, none⟩)] 50)) := ⟨hA.mem, hA.old, hA.regs, fun o ho => by
    cases ho
    refine ⟨hB, fun e => by have e : w.heap.size = p.D := e; omega, fun i e => ?_⟩
    rw [← rows_v vs s i] at e
    have := ((h.mem.own i).lt _ e).2
    dsimp only at this
    omega⟩
  have hC := oDoAll code hA2 hI hs hf hL hH hw0 hLn hHn hcn hcode hall
  clear hA hA2
  unfold DaE at hC
  dsimp only at hC
  generalize runF iL iH code (p.fuel - s.steps) s = R at *
  clear hI hs hf hL hH hLn hHn hcn hcode hall h hB hlt
  go_enter_defers Try.func9, Try.ntmps9
  go_wp2_with (fail)
  refine hC.mono ?_
  rintro e w5 ⟨rfl, vs', hM⟩
  have hx := (hM.ext _ rfl).1
  dsimp only at hx
  have hM5 : MS { p with X := p.N, xo := none } w0 vs' R.2 w5 := ⟨hM.mem, hM.old, hM.regs, fun o ho => by cases ho⟩
  have key := catch1 w.heap.size p.D R.1 w5 (intV 0) (BoxC.cell (T := 50) hx 0 rfl) hM5.cells.1 (hM5.fz 0)
  have HM := show Hid _ from hM5
  clear hM hx hC hM5
  go_wp2
  refine leaves_cons (f := 15) (args := #[.pointer (some ⟨w.heap.size, 0, none⟩)]) (by simp) (by simp [go_sem]) ?_
  refine key.mono ?_
  rintro e u' w6 ⟨rfl, rfl, h6⟩
  refine ⟨.tuple #[], ?_, ?_⟩
  · simp [results, Try.results9, go_sem]
  · exact ⟨rfl, vs', w5, HM.out, h6⟩
end
end Go.Proofs.Ytcfibghjekimkaa.mac
