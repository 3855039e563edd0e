/- Memory: a writer's box and its row of bytes; what leaves them, and boxes beside them, as they are. -/
import Derived.WalkKit
import Derived.WalkLawsBesides
import Derived.WalkSmall
import Derived.Below
import Derived.OwnWalk
import Derived.Laws.OwnMore
import Derived.Test.YthfeojjfehbgjaaGreatDoorOGMacBox
import Derived.Test.YthfeojjfehbgjaaGreatDoorOGObjSpec
namespace Go.Proofs.YthfeojjfehbgjaaGreatDoor.obj
open Go.RowKit
open Go.Proofs.YthfeojjfehbgjaaGreatDoor.mac (BoxC grown_of_below)
set_option linter.unusedVariables false
/-- all stays but one block and a row's; a row stays where it was or is new -/
structure Fr (D : Nat) (u u' : Value) (w w' : World) : Prop where
  os : w'.os = w.os
  tape : w'.tape = w.tape
  output : w'.output = w.output
  size : w.heap.size ≤ w'.heap.size
  block : ∀ b, b < w.heap.size → b ≠ D → u.ownBlock ≠ some b → w'.heap[b]? = w.heap[b]?
  own : ∀ b, u'.ownBlock = some b → u.ownBlock = some b ∨ w.heap.size ≤ b
section
variable {D B : Nat} {u u1 u2 : Value} {w w1 w2 : World} {cs : Array Value} {T : TypeId}
theorem Fr.refl (D : Nat) (u : Value) (w : World) : Fr D u u w w := ⟨rfl, rfl, rfl, Nat.le_refl _, fun _ _ _ _ => rfl, fun _ e => .inl e⟩
theorem Fr.trans (h : Fr D u u1 w w1) (g : Fr D u1 u2 w1 w2) : Fr D u u2 w w2 := by
  refine ⟨g.os.trans h.os, g.tape.trans h.tape, g.output.trans h.output, Nat.le_trans h.size g.size, fun b h1 h2 h3 => ?_, fun b e => ?_⟩
  · refine (g.block b (Nat.lt_of_lt_of_le h1 h.size) h2 fun e => ?_).trans (h.block b h1 h2 h3)
    rcases h.own b e with e1 | e1
    · exact h3 e1
    · omega
  · rcases g.own b e with e1 | e1
    · exact h.own b e1
    · exact .inr (Nat.le_trans h.size e1)
theorem Fr.below (h : Below w.heap.size w w1) (D : Nat) (u : Value) : Fr D u u w w1 := ⟨h.os, h.tape, h.output, h.size, fun b h1 _ _ => h.block b h1, fun _ e => .inl e⟩
theorem Fr.alloc (h : Fr D u u1 w w1) (o : Obj) : Fr D u u1 w (w1.alloc o) := h.trans (.below ((Below.refl _ _).alloc (Nat.le_refl _) o) D u1)
theorem Fr.new (D : Nat) (u : Value) (w : World) (o : Obj) : Fr D u u w (w.alloc o) := (Fr.refl D u w).alloc o
theorem Fr.drew (h : Fr D u u1 w w1) : Fr D u u1 w w1.drew := h.trans (.below (Below.refl _ _).drew D u1)
theorem Fr.set (h : Fr D u u1 w w1) (o : Nat) (v : Value) : Fr D u u1 w (w1.setCell ⟨D, o, none⟩ v) :=
  h.trans ⟨rfl, rfl, rfl, by simp, fun b h1 h2 _ => Below.heap_setCell w1 ⟨D, o, none⟩ v b h2, fun _ e => .inl e⟩
theorem Fr.to (h : Fr D u u1 w w1) {N : Nat} (hN : N ≤ D) (hu : ∀ b, u.ownBlock = some b → N ≤ b) (hw : D ≤ w.heap.size) : Below N w w1 :=
  ⟨h.os, h.tape, h.output, h.size, fun b hb => h.block b (by omega) (by omega) (fun e => by have := hu b e; omega)⟩
/-- a box beside -/
structure Lk (w : World) (D : Nat) (u : Value) (B : Nat) (cs : Array Value) (T : TypeId) : Prop where
  box : BoxC w B cs T
  ne : B ≠ D
  row : u.ownBlock ≠ some B
theorem Lk.fr (h : Lk w D u B cs T) (hf : Fr D u u1 w w1) : Lk w1 D u1 B cs T :=
  ⟨(hf.block B h.box.lt h.ne h.row).trans h.box, h.ne, fun e => by
    rcases hf.own B e with e1 | e1
    · exact h.row e1
    · have := h.box.lt; omega⟩
theorem Lk.cell (h : Lk w D u B cs T) (i : Nat) {v : Value} (hv : cs[i]? = some v) : w.cell? ⟨B, i, none⟩ = some v := h.box.cell i hv
theorem Lk.alloc (h : Lk w D u B cs T) (o : Obj) : Lk (w.alloc o) D u B cs T := h.fr ((Fr.refl D u w).alloc o)
end
/-- bytes as they lie in memory -/
def bv (l : By) : List Value := l.map fun b => Value.int .u8 b.toNat
theorem bv_len (l : By) : (bv l).length = l.length := by simp [bv]
theorem bv_app (l m : By) : bv (l ++ m) = bv l ++ bv m := by simp [bv]
/-- the writer: its box, its bytes in a row of its own behind it -/
structure WR (w : World) (r : Nat) (v : Value) (L : By) : Prop where
  box : BoxC w r #[v] 49
  row : w.ownsRow (r + 1) 5 1 v L.length (bv L)
section
variable {w w' : World} {r : Nat} {v v' : Value} {L M : By} {cs : Array Value} {T : TypeId}
theorem WR.lt (h : WR w r v L) : r < w.heap.size := h.box.lt
theorem WR.below (h : WR w r v L) (hb : Below w.heap.size w w') : WR w' r v L := ⟨h.box.below hb, h.row.kept (grown_of_below hb) (by cases v.ownBlock <;> simp)⟩
theorem WR.alloc (h : WR w r v L) (o : Obj) : WR (w.alloc o) r v L := h.below ((Below.refl _ _).alloc (Nat.le_refl _) o)
theorem WR.drew (h : WR w r v L) : WR w.drew r v L := h.below (Below.refl _ _).drew
theorem own_shape {w : World} {b : Nat} {e : TypeId} {k n : Nat} {v : Value} {xs : List Value} (h : w.ownsRow b e k v n xs) : ∃ a c, v = .slice a n c := by
  rcases h.2 with ⟨rfl, rfl⟩ | ⟨g, cap, cur, rfl, _⟩
  · exact ⟨none, 0, rfl⟩
  · exact ⟨_, _, rfl⟩
theorem WR.shape (h : WR w r v L) : ∃ a c, v = .slice a L.length c := own_shape h.row
theorem WR.own (h : WR w r v L) : ∀ b, v.ownBlock = some b → r + 1 ≤ b ∧ b < w.heap.size := fun b e => h.row.lt b e
theorem WR.lk (h : WR w r v L) (cs : Array Value) (T : TypeId) : Lk (w.alloc (.cells cs T)) r v w.heap.size cs T :=
  ⟨BoxC.new w cs T, fun e => by have := h.lt; omega, fun e => by have := (h.own _ e).2; omega⟩
theorem WR.to (h : WR w r v L) (hf : Fr r v v' w w') : Below r w w' := hf.to (Nat.le_refl _) (fun b e => by have := (h.own b e).1; omega) (Nat.le_of_lt h.lt)
/-- so many bytes more -/
def WE (r : Nat) (w : World) (v : Value) (L o : By) (e : Ending) (w' : World) : Prop :=
  e = .returned (.tuple #[]) ∧ ∃ v', WR w' r v' (L ++ o) ∧ Fr r v v' w w'
theorem WE.near {ob : Obj} {o : By} {e : Ending} (h : WE r (w.alloc ob) v L o e w') : WE r w v L o e w' := by
  obtain ⟨h1, v', h2, h3⟩ := h
  exact ⟨h1, v', h2, (Fr.new r v w ob).trans h3⟩
/-- an append into the row, then the store -/
theorem WR.push {a : Option Addr} {c : Nat} {w5 : World} {g5 cap5 : Nat} {o : By} (h : WR w r (.slice a L.length c) L) (hown : w5.ownsRow (r + 1) 5 1 (.slice (some ⟨g5, 0, none⟩) (L.length + o.length) cap5) (L.length + o.length) (bv L ++ bv o)) (hgrow : w.grownBy w5 (Value.slice a L.length c).ownBlock)
    (hat : (Value.slice a L.length c).ownBlock = some g5 ∨ w.heap.size ≤ g5) :
    WR (w5.setCell ⟨r, 0, none⟩ (.slice (some ⟨g5, 0, none⟩) (L.length + o.length) cap5)) r (.slice (some ⟨g5, 0, none⟩) (L.length + o.length) cap5) (L ++ o) ∧
    Fr r (.slice a L.length c) (.slice (some ⟨g5, 0, none⟩) (L.length + o.length) cap5) w (w5.setCell ⟨r, 0, none⟩ (.slice (some ⟨g5, 0, none⟩) (L.length + o.length) cap5)) := by
  have hne : (Value.slice a L.length c).ownBlock ≠ some r := fun e => by have := (h.own _ e).1; omega
  have hb5 := h.box.grown hgrow hne
  refine ⟨⟨?_, ?_⟩, ⟨hgrow.os, hgrow.tape, hgrow.output, by have := hgrow.size; simpa using this, fun b h1 h2 h3 => ?_, fun b e => ?_⟩⟩
  · have := hb5.set 0 (.slice (some ⟨g5, 0, none⟩) (L.length + o.length) cap5)
    simpa using this
  · rw [List.length_append, bv_app]
    refine hown.kept (mac.grown_set w5 r 0 _) (.inr fun e => ?_)
    have := (hown.lt _ rfl).1
    cases e
    omega
  · exact (Below.heap_setCell w5 ⟨r, 0, none⟩ _ b h2).trans (hgrow.block b h1 (fun e => h3 e.symm))
  · cases e
    exact hat
end
end Go.Proofs.YthfeojjfehbgjaaGreatDoor.obj
