/- Where a machine lies: a box, and five rows of its own; what leaves them as they are. -/
import Derived.WalkKit
import Derived.WalkLawsBesides
import Derived.WalkSmall
import Derived.Below
import Derived.OwnWalk
import Derived.Laws.OwnMore
import Derived.Test.YtcfibghjekimkaaMacSpec
namespace Go.Proofs.Ytcfibghjekimkaa.mac
open Go.RowKit
set_option linter.unusedVariables false
/-- a box: its cells -/
def BoxC (W : World) (B : Nat) (cs : Array Value) (T : TypeId) : Prop := W.heap[B]? = some (.cells cs T (0, 0))
section
variable {W W' : World} {B D : Nat} {cs : Array Value} {T : TypeId} {u u' : Value}
theorem BoxC.lt (h : BoxC W B cs T) : B < W.heap.size := (Array.getElem?_eq_some_iff.1 h).1
theorem BoxC.new (W : World) (cs : Array Value) (T : TypeId) : BoxC (W.alloc (.cells cs T)) W.heap.size cs T := heap_alloc_new W _
theorem BoxC.below (h : BoxC W B cs T) (hb : Below W.heap.size W W') : BoxC W' B cs T := (hb.block B h.lt).trans h
theorem BoxC.grown {row : Option Nat} (h : BoxC W B cs T) (hg : W.grownBy W' row) (hne : row ≠ some B) : BoxC W' B cs T := (hg.block B h.lt (fun e => hne e.symm)).trans h
theorem BoxC.alloc (h : BoxC W B cs T) (o : Obj) : BoxC (W.alloc o) B cs T := h.below ((Below.refl _ _).alloc (Nat.le_refl _) o)
theorem BoxC.other (h : BoxC W B cs T) {b o : Nat} (hne : B ≠ b) (v : Value) : BoxC (W.setCell ⟨b, o, none⟩ v) B cs T := (Below.heap_setCell W ⟨b, o, none⟩ v B hne).trans h
theorem BoxC.set (h : BoxC W B cs T) (i : Nat) (v : Value) : BoxC (W.setCell ⟨B, i, none⟩ v) B (cs.setIfInBounds i v) T := heap_setCell_same W B i cs T v h
theorem BoxC.cell (h : BoxC W B cs T) (i : Nat) {v : Value} (hv : cs[i]? = some v) : W.cell? ⟨B, i, none⟩ = some v := by
  simp [World.cell?, show W.heap[B]? = _ from h, hv]
theorem BoxC.fz (h : BoxC W B cs T) (i : Nat) : W.frozen? ⟨B, i, none⟩ = false := by
  simp [World.frozen?, show W.heap[B]? = _ from h]
end
theorem grown_of_below {w w' : World} (hb : Below w.heap.size w w') : w.grownBy w' none := ⟨hb.os, hb.tape, hb.output, hb.size, fun j hj _ => hb.block j hj⟩
theorem keep {w w' : World} {a : Addr} {x : Value} (h : w.cell? a = some x) (hb : Below w.heap.size w w') : w'.cell? a = some x := by
  rw [hb.cell (World.block_lt_of_cell? w a h)]; exact h
theorem grown_set (w : World) (B i : Nat) (v : Value) : w.grownBy (w.setCell ⟨B, i, none⟩ v) (some B) :=
  ⟨rfl, rfl, rfl, by simp, fun k _ hk => Below.heap_setCell w ⟨B, i, none⟩ v k (fun e => hk (by rw [e]))⟩
abbrev intV (x : Int) : Value := .int .i64 x
abbrev natV (x : Nat) : Value := .int .i64 (x : Int)
/-- a row: of which type, where, what is in it -/
structure Rw where
  T : TypeId
  v : Value
  xs : List Value
/-- a box and five rows, from block N on, no two in one block -/
structure Mem (N D : Nat) (T : TypeId) (cs : Array Value) (R : Fin 5 → Rw) (w : World) : Prop where
  box : BoxC w D cs T
  ge : N ≤ D
  own : ∀ i, w.ownsRow N (R i).T 1 (R i).v (R i).xs.length (R i).xs
  far : ∀ i, (R i).v.ownBlock ≠ some D
  ne : ∀ i j, i ≠ j → ∀ b, (R i).v.ownBlock = some b → (R j).v.ownBlock ≠ some b
section
variable {N D : Nat} {T : TypeId} {cs : Array Value} {R : Fin 5 → Rw} {w w' : World}
theorem Mem.below (h : Mem N D T cs R w) (hb : Below w.heap.size w w') : Mem N D T cs R w' :=
  ⟨h.box.below hb, h.ge, fun i => (h.own i).kept (grown_of_below hb) (by cases (R i).v.ownBlock <;> simp), h.far, h.ne⟩
theorem Mem.set (h : Mem N D T cs R w) (k : Nat) (v : Value) : Mem N D T (cs.setIfInBounds k v) R (w.setCell ⟨D, k, none⟩ v) :=
  ⟨h.box.set k v, h.ge, fun i => (h.own i).kept (grown_set w D k v) (.inr (h.far i)), h.far, h.ne⟩
/-- a row turns -/
theorem Mem.turn (h : Mem N D T cs R w) (i : Fin 5) (r : Rw) (hg : w.grownBy w' (R i).v.ownBlock) (ho : w'.ownsRow N r.T 1 r.v r.xs.length r.xs) (hat : ∀ b, r.v.ownBlock = some b → (R i).v.ownBlock = some b ∨ w.heap.size ≤ b) :
    Mem N D T cs (fun j => if j = i then r else R j) w' := by
  have hlt : ∀ j b, (R j).v.ownBlock = some b → b < w.heap.size := fun j b e => ((h.own j).lt b e).2
  refine ⟨h.box.grown hg (h.far i), h.ge, fun j => ?_, fun j => ?_, fun j k hjk b => ?_⟩
  · by_cases hj : j = i
    · simp only [hj, if_true]; exact ho
    · simp only [hj, if_false]
      refine (h.own j).kept hg ?_
      cases e : (R j).v.ownBlock with
      | none => exact .inl rfl
      | some b => exact .inr fun e2 => h.ne j i hj b e e2.symm
  · by_cases hj : j = i
    · simp only [hj, if_true]
      intro e
      rcases hat D e with e2 | e2
      · exact h.far i e2
      · have := h.box.lt; omega
    · simp only [hj, if_false]; exact h.far j
  · by_cases hj : j = i
    · have hk : ¬ k = i := fun e => hjk (hj.trans e.symm)
      simp only [hj, hk, if_true, if_false]
      intro e e2
      rcases hat b e with e3 | e3
      · exact h.ne i k (fun e => hk e.symm) b e3 e2
      · have := hlt k b e2; omega
    · by_cases hk : k = i
      · simp only [hj, hk, if_true, if_false]
        intro e e2
        rcases hat b e2 with e3 | e3
        · exact h.ne j i hj b e e3
        · have := hlt j b e; omega
      · simp only [hj, hk, if_false]; exact h.ne j k hjk b
theorem Mem.lt (h : Mem N D T cs R w) : D < w.heap.size := h.box.lt
end
/-- what a machine was given, and where it lies -/
structure Pl where
  N : Nat
  D : Nat
  il : Value
  ih : Value
  cv : Value
  fuel : Nat
  X : Nat
  xo : Option Obj
def headC (p : Pl) (vs : Fin 5 → Value) (s : St) : List Value := [intV 0, vs 0, vs 1, natV s.uL, natV s.uH, natV s.steps, p.il, p.ih, natV p.fuel, p.cv, natV s.next]
def cellsF (p : Pl) (vs : Fin 5 → Value) (s : St) : List Value := headC p vs s ++ (s.regs.map intV ++ [vs 2, vs 3, vs 4])
def rowsF (vs : Fin 5 → Value) (s : St) : Fin 5 → Rw
  | 0 => ⟨2, vs 0, s.oL.map intV⟩
  | 1 => ⟨2, vs 1, s.oH.map intV⟩
  | 2 => ⟨2, vs 2, s.lw.map intV⟩
  | 3 => ⟨2, vs 3, s.hw.map intV⟩
  | 4 => ⟨3, vs 4, s.backs.map natV⟩
/-- a block beside the machine, that stays as it is -/
def Ext (p : Pl) (vs : Fin 5 → Value) (w : World) : Prop := ∀ o, p.xo = some o → w.heap[p.X]? = some o ∧ p.X ≠ p.D ∧ ∀ i, (vs i).ownBlock ≠ some p.X
theorem rows_v (vs : Fin 5 → Value) (s : St) (i : Fin 5) : (rowsF vs s i).v = vs i := match i with
  | 0 => rfl
  | 1 => rfl
  | 2 => rfl
  | 3 => rfl
  | 4 => rfl
theorem Ext.below {p : Pl} {vs : Fin 5 → Value} {w w' : World} (h : Ext p vs w) (hb : Below w.heap.size w w') : Ext p vs w' := fun o ho => by
  obtain ⟨h1, h2⟩ := h o ho
  exact ⟨(hb.block p.X (Array.getElem?_eq_some_iff.1 h1).1).trans h1, h2⟩
theorem Ext.set {p : Pl} {vs : Fin 5 → Value} {w : World} (h : Ext p vs w) (k : Nat) (v : Value) : Ext p vs (w.setCell ⟨p.D, k, none⟩ v) := fun o ho => by
  obtain ⟨h1, h2⟩ := h o ho
  exact ⟨(Below.heap_setCell w ⟨p.D, k, none⟩ v p.X h2.1).trans h1, h2⟩
/-- the machine as it lies in memory, while all that was below N is as it was -/
structure MS (p : Pl) (w0 : World) (vs : Fin 5 → Value) (s : St) (w : World) : Prop where
  mem : Mem p.N p.D 42 (cellsF p vs s).toArray (rowsF vs s) w
  old : Below p.N w0 w
  regs : s.regs.length = 8
  ext : Ext p vs w
section
variable {p : Pl} {w0 w w' : World} {vs : Fin 5 → Value} {s : St}
theorem MS.below (h : MS p w0 vs s w) (hb : Below w.heap.size w w') : MS p w0 vs s w' :=
  ⟨h.mem.below hb, h.old.trans (hb.mono (by have := h.mem.lt; have := h.mem.ge; omega)), h.regs, h.ext.below hb⟩
theorem MS.lt (h : MS p w0 vs s w) : p.D < w.heap.size := h.mem.lt
theorem MS.fz (h : MS p w0 vs s w) (i : Nat) : w.frozen? ⟨p.D, i, none⟩ = false := h.mem.box.fz i
/-- the cells of the box -/
theorem MS.cells (h : MS p w0 vs s w) : w.cell? ⟨p.D, 0, none⟩ = some (intV 0) ∧ w.cell? ⟨p.D, 1, none⟩ = some (vs 0) ∧ w.cell? ⟨p.D, 2, none⟩ = some (vs 1) ∧ w.cell? ⟨p.D, 3, none⟩ = some (natV s.uL) ∧ w.cell? ⟨p.D, 4, none⟩ = some (natV s.uH) ∧ w.cell? ⟨p.D, 5, none⟩ = some (natV s.steps) ∧ w.cell? ⟨p.D, 6, none⟩ = some p.il ∧ w.cell? ⟨p.D, 7, none⟩ = some p.ih ∧ w.cell? ⟨p.D, 8, none⟩ = some (natV p.fuel) ∧ w.cell? ⟨p.D, 9, none⟩ = some p.cv ∧ w.cell? ⟨p.D, 10, none⟩ = some (natV s.next) := by
  have hb := h.mem.box
  refine ⟨hb.cell 0 ?_, hb.cell 1 ?_, hb.cell 2 ?_, hb.cell 3 ?_, hb.cell 4 ?_, hb.cell 5 ?_, hb.cell 6 ?_, hb.cell 7 ?_, hb.cell 8 ?_, hb.cell 9 ?_, hb.cell 10 ?_⟩ <;> simp [cellsF, headC]
theorem MS.tail (h : MS p w0 vs s w) : w.cell? ⟨p.D, 19, none⟩ = some (vs 2) ∧ w.cell? ⟨p.D, 20, none⟩ = some (vs 3) ∧ w.cell? ⟨p.D, 21, none⟩ = some (vs 4) := by
  have hb := h.mem.box
  have h8 := h.regs
  refine ⟨hb.cell 19 ?_, hb.cell 20 ?_, hb.cell 21 ?_⟩ <;> simp [cellsF, headC, h8]
theorem MS.reg (h : MS p w0 vs s w) (k : Nat) (hk : k < 8) : w.cell? ⟨p.D, 11 + k, none⟩ = some (intV (s.regs.getD k 0)) := by
  refine h.mem.box.cell (11 + k) ?_
  have h8 := h.regs
  simp only [List.getElem?_toArray, cellsF]
  rw [List.getElem?_append_right (by simp [headC]), List.getElem?_append_left (by simp [headC, h8]; omega)]
  simp [headC, show 11 + k - 11 = k by omega, show k < s.regs.length by omega]
theorem MS.setHead (h : MS p w0 vs s w) (i : Nat) (v : Value) (s' : St) (hr : s'.regs = s.regs) (hrow : rowsF vs s' = rowsF vs s) (he : (headC p vs s).set i v = headC p vs s') (hi : i < 11) : MS p w0 vs s' (w.setCell ⟨p.D, i, none⟩ v) := by
  refine ⟨?_, h.old.setCell h.mem.ge _, by rw [hr]; exact h.regs, h.ext.set _ _⟩
  have hm := h.mem.set i v
  have e : (cellsF p vs s).toArray.setIfInBounds i v = (cellsF p vs s').toArray := by
    rw [List.setIfInBounds_toArray]
    congr 1
    unfold cellsF
    rw [List.set_append_left _ _ (by simp [headC]; omega), he, hr]
  rw [e, ← hrow] at hm
  exact hm
theorem MS.setSteps (h : MS p w0 vs s w) (n : Nat) : MS p w0 vs { s with steps := n } (w.setCell ⟨p.D, 5, none⟩ (natV n)) :=
  h.setHead 5 _ _ rfl (by funext i; match i with | 0 => rfl | 1 => rfl | 2 => rfl | 3 => rfl | 4 => rfl) rfl (by omega)
theorem MS.setNext (h : MS p w0 vs s w) (n : Nat) : MS p w0 vs { s with next := n } (w.setCell ⟨p.D, 10, none⟩ (natV n)) :=
  h.setHead 10 _ _ rfl (by funext i; match i with | 0 => rfl | 1 => rfl | 2 => rfl | 3 => rfl | 4 => rfl) rfl (by omega)
theorem MS.setUL (h : MS p w0 vs s w) (n : Nat) : MS p w0 vs { s with uL := n } (w.setCell ⟨p.D, 3, none⟩ (natV n)) :=
  h.setHead 3 _ _ rfl (by funext i; match i with | 0 => rfl | 1 => rfl | 2 => rfl | 3 => rfl | 4 => rfl) rfl (by omega)
theorem MS.setUH (h : MS p w0 vs s w) (n : Nat) : MS p w0 vs { s with uH := n } (w.setCell ⟨p.D, 4, none⟩ (natV n)) :=
  h.setHead 4 _ _ rfl (by funext i; match i with | 0 => rfl | 1 => rfl | 2 => rfl | 3 => rfl | 4 => rfl) rfl (by omega)
/-- a register is set -/
theorem MS.setReg (h : MS p w0 vs s w) (k : Nat) (hk : k < 8) (x : Int) : MS p w0 vs { s with regs := s.regs.set k x } (w.setCell ⟨p.D, 11 + k, none⟩ (intV x)) := by
  have h8 := h.regs
  refine ⟨?_, h.old.setCell h.mem.ge _, by simpa using h8, h.ext.set _ _⟩
  have hm := h.mem.set (11 + k) (intV x)
  have e : (cellsF p vs s).toArray.setIfInBounds (11 + k) (intV x) = (cellsF p vs { s with regs := s.regs.set k x }).toArray := by
    rw [List.setIfInBounds_toArray]
    congr 1
    unfold cellsF
    rw [List.set_append_right _ _ (by simp [headC]), List.set_append_left _ _ (by simp [headC, h8]; omega)]
    simp [headC, show 11 + k - 11 = k by omega, List.map_set]
  rw [e] at hm
  exact hm
end
end Go.Proofs.Ytcfibghjekimkaa.mac
