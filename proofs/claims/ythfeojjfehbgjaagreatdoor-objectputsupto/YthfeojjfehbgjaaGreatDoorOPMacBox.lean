/- Boxes: what leaves them as they are. -/
import Derived.WalkKit
import Derived.WalkLawsBesides
import Derived.WalkSmall
import Derived.Below
import Derived.OwnWalk
import Derived.Laws.OwnMore
import Derived.Test.YthfeojjfehbgjaaGreatDoorOPMacSpec
namespace Go.Proofs.YthfeojjfehbgjaaGreatDoor.mac
open Go.RowKit
set_option linter.unusedVariables false
/-- a box: its cells -/
def BoxC (W : World) (B : Nat) (cs : Array Value) (T : TypeId) : Prop := W.heap[B]? = some (.cells cs T (0, 0))
section
variable {W W' : World} {B D : Nat} {cs : Array Value} {T : TypeId} {u u' : Value}
theorem BoxC.lt (h : BoxC W B cs T) : B < W.heap.size := (Array.getElem?_eq_some_iff.1 h).1
theorem BoxC.new (W : World) (cs : Array Value) (T : TypeId) : BoxC (W.alloc (.cells cs T)) W.heap.size cs T := heap_alloc_new W _
theorem BoxC.below (h : BoxC W B cs T) (hb : Below W.heap.size W W') : BoxC W' B cs T := (hb.block B h.lt).trans h
theorem BoxC.grown {row : Option Nat} (h : BoxC W B cs T) (hg : W.grownBy W' row) (hne : row ≠ some B) : BoxC W' B cs T := (hg.block B h.lt (fun e => hne e.symm)).trans h
theorem BoxC.alloc (h : BoxC W B cs T) (o : Obj) : BoxC (W.alloc o) B cs T := h.below ((Below.refl _ _).alloc (Nat.le_refl _) o)
theorem BoxC.other (h : BoxC W B cs T) {b o : Nat} (hne : B ≠ b) (v : Value) : BoxC (W.setCell ⟨b, o, none⟩ v) B cs T := (Below.heap_setCell W ⟨b, o, none⟩ v B hne).trans h
theorem BoxC.set (h : BoxC W B cs T) (i : Nat) (v : Value) : BoxC (W.setCell ⟨B, i, none⟩ v) B (cs.setIfInBounds i v) T := heap_setCell_same W B i cs T v h
theorem BoxC.cell (h : BoxC W B cs T) (i : Nat) {v : Value} (hv : cs[i]? = some v) : W.cell? ⟨B, i, none⟩ = some v := by
  simp [World.cell?, show W.heap[B]? = _ from h, hv]
theorem BoxC.fz (h : BoxC W B cs T) (i : Nat) : W.frozen? ⟨B, i, none⟩ = false := by
  simp [World.frozen?, show W.heap[B]? = _ from h]
end
theorem grown_of_below {w w' : World} (hb : Below w.heap.size w w') : w.grownBy w' none := ⟨hb.os, hb.tape, hb.output, hb.size, fun j hj _ => hb.block j hj⟩
theorem keep {w w' : World} {a : Addr} {x : Value} (h : w.cell? a = some x) (hb : Below w.heap.size w w') : w'.cell? a = some x := by
  rw [hb.cell (World.block_lt_of_cell? w a h)]; exact h
theorem grown_set (w : World) (B i : Nat) (v : Value) : w.grownBy (w.setCell ⟨B, i, none⟩ v) (some B) :=
  ⟨rfl, rfl, rfl, by simp, fun k _ hk => Below.heap_setCell w ⟨B, i, none⟩ v k (fun e => hk (by rw [e]))⟩
end Go.Proofs.YthfeojjfehbgjaaGreatDoor.mac
