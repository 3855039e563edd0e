/- What the reference's Face answers: a contract. Two rows of one's own, of variables and of procedures, while they grow: what leaves them as they are. What the reference's Face answers: a contract. What the reference's Face answers: the walk. While the reference looks for what is wrong: two rows of names. -/
import Derived.Test.YtchhpinmoagkhaaGreatDoorProg
import Derived.WalkKit
import Derived.WalkLawsBesides
import Derived.Outline
import Derived.WalkSmall
import Derived.BigQuiet
import Derived.Deep.QuietTactic
import Derived.Deep.RegionWith
import Derived.Deep.RegionLaw
import Derived.Deep.AppendLies
import Derived.WalkSpells
import Derived.Laws.OwnMore
import Derived.Maps.AppendAt
import Derived.Test.YtchhpinmoagkhaaGreatDoorNFb
import Derived.Test.YtchhpinmoagkhaaGreatDoorNFa
namespace Go.Proofs.YtchhpinmoagkhaaGreatDoor.face
open Go.RowKit
open Go.Proofs.YtchhpinmoagkhaaGreatDoor.syn
set_option linter.unusedVariables false
set_option linter.unusedSimpArgs false
set_option maxRecDepth 100000

/-! rows of variables and of procedures -/
def varCells (l : List VarD) : List Value := l.flatMap fun v => [.string v.name, .bool v.pub, .int .i64 v.label, .int .i64 v.size]
theorem varCells_snoc (l : List VarD) (v : VarD) : varCells (l ++ [v]) = varCells l ++ [.string v.name, .bool v.pub, .int .i64 v.label, .int .i64 v.size] := by simp [varCells]
/-- a procedure's cells; its parameters lie at u -/
def procCells (l : List (ProcD × Value)) : List Value := l.flatMap fun q => [.string q.1.name, .bool q.1.pub, q.2, .int .i64 q.1.writes, .bool q.1.gives, .int .i64 q.1.given]
theorem procCells_snoc (l : List (ProcD × Value)) (q : ProcD × Value) : procCells (l ++ [q]) = procCells l ++ [.string q.1.name, .bool q.1.pub, q.2, .int .i64 q.1.writes, .bool q.1.gives, .int .i64 q.1.given] := by simp [procCells]
theorem varCells_at : ∀ (l : List VarD) (k : Nat) (hk : k < l.length), (varCells l)[k * 4]? = some (.string l[k].name) ∧ (varCells l)[k * 4 + 1]? = some (.bool l[k].pub) ∧ (varCells l)[k * 4 + 2]? = some (.int .i64 l[k].label) ∧ (varCells l)[k * 4 + 3]? = some (.int .i64 l[k].size)
  | [], k, hk => by simp at hk
  | v :: l, 0, hk => by simp [varCells]
  | v :: l, k + 1, hk => by
    have hk' : k < l.length := by simpa using hk
    have h := varCells_at l k hk'
    have e : varCells (v :: l) = [.string v.name, .bool v.pub, .int .i64 v.label, .int .i64 v.size] ++ varCells l := rfl
    have e3 : (k + 1) * 4 = k * 4 + 4 := by omega
    rw [e, e3]
    refine ⟨?_, ?_, ?_, ?_⟩
    · rw [List.getElem?_append_right (by simp)]; simpa using h.1
    · rw [List.getElem?_append_right (by simp)]; simpa using h.2.1
    · rw [List.getElem?_append_right (by simp)]; simpa using h.2.2.1
    · rw [List.getElem?_append_right (by simp)]; simpa using h.2.2.2
theorem procCells_at : ∀ (l : List (ProcD × Value)) (k : Nat) (hk : k < l.length), (procCells l)[k * 6]? = some (.string l[k].1.name) ∧ (procCells l)[k * 6 + 1]? = some (.bool l[k].1.pub) ∧ (procCells l)[k * 6 + 2]? = some l[k].2 ∧ (procCells l)[k * 6 + 3]? = some (.int .i64 l[k].1.writes) ∧ (procCells l)[k * 6 + 4]? = some (.bool l[k].1.gives) ∧ (procCells l)[k * 6 + 5]? = some (.int .i64 l[k].1.given)
  | [], k, hk => by simp at hk
  | v :: l, 0, hk => by simp [procCells]
  | v :: l, k + 1, hk => by
    have hk' : k < l.length := by simpa using hk
    have h := procCells_at l k hk'
    have e : procCells (v :: l) = [.string v.1.name, .bool v.1.pub, v.2, .int .i64 v.1.writes, .bool v.1.gives, .int .i64 v.1.given] ++ procCells l := rfl
    have e3 : (k + 1) * 6 = k * 6 + 6 := by omega
    rw [e, e3]
    refine ⟨?_, ?_, ?_, ?_, ?_, ?_⟩
    · rw [List.getElem?_append_right (by simp)]; simpa using h.1
    · rw [List.getElem?_append_right (by simp)]; simpa using h.2.1
    · rw [List.getElem?_append_right (by simp)]; simpa using h.2.2.1
    · rw [List.getElem?_append_right (by simp)]; simpa using h.2.2.2.1
    · rw [List.getElem?_append_right (by simp)]; simpa using h.2.2.2.2.1
    · rw [List.getElem?_append_right (by simp)]; simpa using h.2.2.2.2.2
theorem infoV : (Tryz.prog.info? 45).map (fun i => (i.zero, i.size, i.bytes)) = some (some (.agg #[.string ⟨#[]⟩, .bool false, .int .i64 0, .int .i64 0]), 4, 40) := by kernel_rfl
theorem infoP : (Tryz.prog.info? 70).map (fun i => (i.zero, i.size, i.bytes)) = some (some (.agg #[.string ⟨#[]⟩, .bool false, .slice none 0 0, .int .i64 0, .bool false, .int .i64 0]), 6, 72) := by kernel_rfl
/-- parameters of a procedure that lie in blocks such as Q says -/
def ParIn (Q : Nat → Prop) (w : World) (u : Value) (l : List Int) : Prop := ∃ a c, u = .slice a l.length c ∧ l.length ≤ 9223372036854775807 ∧
  (l ≠ [] → ∃ g, a = some ⟨g, 0, none⟩ ∧ Q g ∧ ∀ i (h : i < l.length), w.cell? ⟨g, i, none⟩ = some (.int .i64 l[i]))
theorem ParIn.to {Q R : Nat → Prop} {w w' : World} {u : Value} {l : List Int} (h : ParIn Q w u l) (hQ : ∀ b, Q b → R b) (hw : ∀ b, Q b → ∀ o v, w.cell? ⟨b, o, none⟩ = some v → w'.cell? ⟨b, o, none⟩ = some v) : ParIn R w' u l := by
  obtain ⟨a, c, e, hl, hk⟩ := h
  refine ⟨a, c, e, hl, fun hne => ?_⟩
  obtain ⟨g, e2, hq, hc⟩ := hk hne
  exact ⟨g, e2, hQ _ hq, fun i hi => hw _ hq _ _ (hc i hi)⟩
theorem ParIn.ints {Q : Nat → Prop} {w : World} {u : Value} {l : List Int} (h : ParIn Q w u l) : IntsIn w u l := by
  obtain ⟨a, c, e, hl, hk⟩ := h
  refine ⟨a, c, e, hl, fun hne => ?_⟩
  obtain ⟨g, e2, hq, hc⟩ := hk hne
  exact ⟨g, 0, e2, fun i hi => by rw [Nat.zero_add]; exact hc i hi⟩
theorem ParIn.own {w : World} {B : Nat} {u : Value} {l : List Int} (h : w.ownsRow B 3 1 u l.length (intV l)) : ParIn (fun b => B ≤ b ∧ b < w.heap.size) w u l := by
  have hlt := h.lt
  rcases h.2 with ⟨rfl, hn⟩ | ⟨g, cap, cur, rfl, _, _, h1, h2, _⟩
  · have : l = [] := List.length_eq_zero_iff.1 hn
    subst this
    exact ⟨none, 0, rfl, by simp, fun h => absurd rfl h⟩
  · refine ⟨some ⟨g, 0, none⟩, cap, rfl, by unfold maxLen at h2; omega, fun _ => ⟨g, rfl, hlt g rfl, fun i hi => ?_⟩⟩
    have := h.cellAt i (by omega)
    rw [this]
    unfold intV
    rw [List.getElem?_map, List.getElem?_eq_getElem hi]
    rfl
theorem vars_in {w : World} {B : Nat} {u : Value} {l : List VarD} (h : w.ownsRow B 45 4 u l.length (varCells l)) (hl : l.length ≤ 4611686018427387903) : VarsIn w u l := by
  rcases h.2 with ⟨rfl, hn⟩ | ⟨g, cap, cur, rfl, _, _, h1, h2, _⟩
  · have : l = [] := List.length_eq_zero_iff.1 hn
    subst this
    exact ⟨none, 0, rfl, by simp, fun h => absurd rfl h⟩
  · refine ⟨some ⟨g, 0, none⟩, cap, rfl, hl, fun _ => ⟨g, 0, rfl, fun i hi => ?_⟩⟩
    obtain ⟨e0, e1, e2, e3⟩ := varCells_at l i hi
    simp only [Nat.zero_add]
    exact ⟨(h.cellAt _ (by omega)).trans e0, (h.cellAt _ (by omega)).trans e1, (h.cellAt _ (by omega)).trans e2, (h.cellAt _ (by omega)).trans e3⟩
theorem procs_in {w : World} {B : Nat} {u : Value} {l : List (ProcD × Value)} (h : w.ownsRow B 70 6 u l.length (procCells l)) (hl : l.length ≤ 4611686018427387903) (hp : ∀ q ∈ l, IntsIn w q.2 q.1.params) : ProcsIn w u (l.map (·.1)) := by
  rcases h.2 with ⟨rfl, hn⟩ | ⟨g, cap, cur, rfl, _, _, h1, h2, _⟩
  · have : l = [] := List.length_eq_zero_iff.1 hn
    subst this
    exact ⟨none, 0, rfl, by simp, fun h => absurd rfl h⟩
  · refine ⟨some ⟨g, 0, none⟩, cap, by rw [List.length_map], by rw [List.length_map]; exact hl, fun _ => ⟨g, 0, rfl, fun i hi => ?_⟩⟩
    rw [List.length_map] at hi
    obtain ⟨e0, e1, e2, e3, e4, e5⟩ := procCells_at l i hi
    simp only [Nat.zero_add, List.getElem_map]
    exact ⟨(h.cellAt _ (by omega)).trans e0, (h.cellAt _ (by omega)).trans e1, ⟨_, (h.cellAt _ (by omega)).trans e2, hp _ (List.getElem_mem hi)⟩, (h.cellAt _ (by omega)).trans e3, (h.cellAt _ (by omega)).trans e4, (h.cellAt _ (by omega)).trans e5⟩
end Go.Proofs.YtchhpinmoagkhaaGreatDoor.face
namespace Go.Proofs.YtchhpinmoagkhaaGreatDoor.face
open Go.RowKit
set_option linter.unusedVariables false

/-- the rows lie from block B on, in no block that X names; no two things lie in one block -/
structure FR (X : Nat → Prop) (B : Nat) (w : World) (vv pv : Value) (V : List VarD) (P : List (ProcD × Value)) : Prop where
  ov : w.ownsRow B 45 4 vv V.length (varCells V)
  op : w.ownsRow B 70 6 pv P.length (procCells P)
  par : ∀ q ∈ P, ParIn (fun b => B ≤ b ∧ b < w.heap.size ∧ vv.ownBlock ≠ some b ∧ pv.ownBlock ≠ some b ∧ ¬ X b) w q.2 q.1.params
  dj : ∀ b, vv.ownBlock = some b → pv.ownBlock ≠ some b
  xv : ∀ b, vv.ownBlock = some b → ¬ X b
  xp : ∀ b, pv.ownBlock = some b → ¬ X b
section
variable {X : Nat → Prop} {B : Nat} {w w' : World} {vv pv : Value} {V : List VarD} {P : List (ProcD × Value)}
theorem FR.nil (X : Nat → Prop) (B : Nat) (w : World) : FR X B w (.slice none 0 0) (.slice none 0 0) [] [] :=
  ⟨World.ownsRow_nil _ _ _ _, World.ownsRow_nil _ _ _ _, (fun q hq => by cases hq), (fun b h => by cases h), (fun b h => by cases h), (fun b h => by cases h)⟩
/-- where a block that X names, or none, turns -/
theorem FR.grown {row : Option Nat} (h : FR X B w vv pv V P) (hg : w.grownBy w' row) (hr : ∀ b, row = some b → X b) : FR X B w' vv pv V P := by
  have hv : vv.ownBlock = none ∨ vv.ownBlock ≠ row := by
    cases e : vv.ownBlock with
    | none => exact .inl rfl
    | some b => exact .inr (fun e2 => h.xv b e (hr b e2.symm))
  have hp : pv.ownBlock = none ∨ pv.ownBlock ≠ row := by
    cases e : pv.ownBlock with
    | none => exact .inl rfl
    | some b => exact .inr (fun e2 => h.xp b e (hr b e2.symm))
  refine ⟨h.ov.kept hg hv, h.op.kept hg hp, fun q hq => ?_, h.dj, h.xv, h.xp⟩
  exact (h.par q hq).to (fun b hb => ⟨hb.1, Nat.lt_of_lt_of_le hb.2.1 hg.size, hb.2.2⟩) (fun b hb o v hc => cell_grown hg hc (fun e => hb.2.2.2.2 (hr b e)))
theorem FR.below (h : FR X B w vv pv V P) (hb : Below w.heap.size w w') : FR X B w' vv pv V P :=
  h.grown (row := none) ⟨hb.os, hb.tape, hb.output, hb.size, fun j hj _ => hb.block j hj⟩ (fun b e => by cases e)
theorem FR.alloc (h : FR X B w vv pv V P) (o : Obj) : FR X B (w.alloc o) vv pv V P := h.below ((Below.refl _ _).alloc (Nat.le_refl _) o)
theorem FR.drew (h : FR X B w vv pv V P) : FR X B w.drew vv pv V P := ⟨h.ov, h.op, h.par, h.dj, h.xv, h.xp⟩
/-- a cell below them is set -/
theorem FR.set (h : FR X B w vv pv V P) {M o : Nat} (hM : M < B) (v : Value) : FR X B (w.setCell ⟨M, o, none⟩ v) vv pv V P := by
  refine ⟨ownsRow_setCell_other h.ov (fun e => by have := (h.ov.lt _ e).1; simp at this; omega) _, ownsRow_setCell_other h.op (fun e => by have := (h.op.lt _ e).1; simp at this; omega) _, fun q hq => ?_, h.dj, h.xv, h.xp⟩
  exact (h.par q hq).to (fun b hb => ⟨hb.1, by rw [World.size_setCell]; exact hb.2.1, hb.2.2⟩) (fun b hb o' v' hc => by
    rw [World.cell?_setCell_other _ _ _ _ (by intro e; have h1 := hb.1; cases e; omega)]
    exact hc)
/-- more blocks are named, that are new -/
theorem FR.more {Y : Nat → Prop} (h : FR X B w vv pv V P) (hY : ∀ b, b < w.heap.size → Y b → X b) : FR Y B w vv pv V P :=
  ⟨h.ov, h.op, fun q hq => (h.par q hq).to (fun b hb => ⟨hb.1, hb.2.1, hb.2.2.1, hb.2.2.2.1, fun e => hb.2.2.2.2 (hY b hb.2.1 e)⟩) (fun _ _ _ _ hc => hc), h.dj,
    fun b e hy => h.xv b e (hY b (h.ov.lt _ e).2 hy), fun b e hy => h.xp b e (hY b (h.op.lt _ e).2 hy)⟩
/-- a variable more -/
theorem FR.pushV (h : FR X B w vv pv V P) {v : VarD} {g cap : Nat} (ho : w'.ownsRow B 45 4 (.slice (some ⟨g, 0, none⟩) (V.length + 1) cap) (V.length + 1) (varCells V ++ [.string v.name, .bool v.pub, .int .i64 v.label, .int .i64 v.size])) (hg : w.grownBy w' vv.ownBlock)
    (hat : vv.ownBlock = some g ∨ g = w.heap.size) (hX : ∀ b, w.heap.size ≤ b → ¬ X b) : FR X B w' (.slice (some ⟨g, 0, none⟩) (V.length + 1) cap) pv (V ++ [v]) P := by
  have hpne : pv.ownBlock = none ∨ pv.ownBlock ≠ vv.ownBlock := by
    cases e : pv.ownBlock with
    | none => exact .inl rfl
    | some b => exact .inr (fun e2 => h.dj b e2.symm e)
  have hgp : ∀ b, some g = some b → pv.ownBlock ≠ some b := fun b e e2 => by
    cases e
    rcases hat with h1 | h1
    · exact h.dj g h1 e2
    · have := (h.op.lt _ e2).2; omega
  refine ⟨by rw [varCells_snoc, List.length_append]; exact ho, h.op.kept hg hpne, fun q hq => ?_, hgp, fun b e => ?_, h.xp⟩
  · refine (h.par q hq).to (fun b hb => ⟨hb.1, Nat.lt_of_lt_of_le hb.2.1 hg.size, fun e => ?_, hb.2.2.2⟩) (fun b hb o v hc => cell_grown hg hc hb.2.2.1)
    have e' : some g = some b := e
    cases e'
    rcases hat with h1 | h1
    · exact hb.2.2.1 h1
    · have := hb.2.1; omega
  · have e' : some g = some b := e
    cases e'
    rcases hat with h1 | h1
    · exact h.xv g h1
    · exact hX g (by omega)
/-- a procedure more -/
theorem FR.pushP (h : FR X B w vv pv V P) {q : ProcD × Value} {g cap : Nat} (ho : w'.ownsRow B 70 6 (.slice (some ⟨g, 0, none⟩) (P.length + 1) cap) (P.length + 1) (procCells P ++ [.string q.1.name, .bool q.1.pub, q.2, .int .i64 q.1.writes, .bool q.1.gives, .int .i64 q.1.given])) (hg : w.grownBy w' pv.ownBlock)
    (hat : pv.ownBlock = some g ∨ g = w.heap.size) (hX : ∀ b, w.heap.size ≤ b → ¬ X b) (hq : ParIn (fun b => B ≤ b ∧ b < w.heap.size ∧ vv.ownBlock ≠ some b ∧ pv.ownBlock ≠ some b ∧ ¬ X b) w q.2 q.1.params) : FR X B w' vv (.slice (some ⟨g, 0, none⟩) (P.length + 1) cap) V (P ++ [q]) := by
  have hvne : vv.ownBlock = none ∨ vv.ownBlock ≠ pv.ownBlock := by
    cases e : vv.ownBlock with
    | none => exact .inl rfl
    | some b => exact .inr (fun e2 => h.dj b e e2.symm)
  refine ⟨h.ov.kept hg hvne, by rw [procCells_snoc, List.length_append]; exact ho, fun q' hq' => ?_, fun b e e2 => ?_, h.xv, fun b e => ?_⟩
  · have hone : ParIn (fun b => B ≤ b ∧ b < w.heap.size ∧ vv.ownBlock ≠ some b ∧ pv.ownBlock ≠ some b ∧ ¬ X b) w q'.2 q'.1.params := by
      rw [List.mem_append] at hq'
      rcases hq' with h1 | h1
      · exact h.par q' h1
      · simp only [List.mem_singleton] at h1; subst h1; exact hq
    refine hone.to (fun b hb => ⟨hb.1, Nat.lt_of_lt_of_le hb.2.1 hg.size, hb.2.2.1, fun e => ?_, hb.2.2.2.2⟩) (fun b hb o v hc => cell_grown hg hc hb.2.2.2.1)
    have e' : some g = some b := e
    cases e'
    rcases hat with h1 | h1
    · exact hb.2.2.2.1 h1
    · have := hb.2.1; omega
  · have e' : some g = some b := e2
    cases e'
    rcases hat with h1 | h1
    · exact h.dj g e h1
    · have := (h.ov.lt _ e).2; omega
  · have e' : some g = some b := e
    cases e'
    rcases hat with h1 | h1
    · exact h.xp g h1
    · exact hX g (by omega)
theorem FR.face {m : ByteArray} (h : FR X B w vv pv V P) (hV : V.length ≤ 1000) (hP : P.length ≤ 1000) : FaceIn w (.agg #[.string m, vv, pv]) ⟨m, V, P.map (·.1)⟩ :=
  ⟨vv, pv, rfl, vars_in h.ov (by show V.length ≤ _; omega), procs_in h.op (by omega) (fun q hq => (h.par q hq).ints)⟩
theorem FR.shapeV (h : FR X B w vv pv V P) : ∃ a c, vv = .slice a V.length c := by
  obtain ⟨a, c, e, _⟩ := lexs.own_shape h.ov
  exact ⟨a, c, e⟩
theorem FR.shapeP (h : FR X B w vv pv V P) : ∃ a c, pv = .slice a P.length c := by
  obtain ⟨a, c, e, _⟩ := lexs.own_shape h.op
  exact ⟨a, c, e⟩
end
/-- a box of three -/
structure Box3 (w : World) (N : Nat) (x0 x1 x2 : Value) : Prop where
  c0 : w.cell? ⟨N, 0, none⟩ = some x0
  c1 : w.cell? ⟨N, 1, none⟩ = some x1
  c2 : w.cell? ⟨N, 2, none⟩ = some x2
  f0 : w.frozen? ⟨N, 0, none⟩ = false
  f1 : w.frozen? ⟨N, 1, none⟩ = false
  f2 : w.frozen? ⟨N, 2, none⟩ = false
section
variable {w w' : World} {N : Nat} {x0 x1 x2 : Value}
theorem Box3.new (w : World) (x0 x1 x2 : Value) (T : TypeId) : Box3 (w.alloc (.cells #[x0, x1, x2] T)) w.heap.size x0 x1 x2 := by constructor <;> simp
theorem Box3.lt (h : Box3 w N x0 x1 x2) : N < w.heap.size := World.block_lt_of_cell? w ⟨N, 0, none⟩ h.c0
theorem Box3.block (h : Box3 w N x0 x1 x2) (hb : w'.heap[N]? = w.heap[N]?) : Box3 w' N x0 x1 x2 :=
  ⟨(World.cell?_of_block (a := ⟨N, 0, none⟩) hb).trans h.c0, (World.cell?_of_block (a := ⟨N, 1, none⟩) hb).trans h.c1, (World.cell?_of_block (a := ⟨N, 2, none⟩) hb).trans h.c2, (World.frozen?_of_block (a := ⟨N, 0, none⟩) hb).trans h.f0, (World.frozen?_of_block (a := ⟨N, 1, none⟩) hb).trans h.f1, (World.frozen?_of_block (a := ⟨N, 2, none⟩) hb).trans h.f2⟩
theorem Box3.below (h : Box3 w N x0 x1 x2) (hb : Below w.heap.size w w') : Box3 w' N x0 x1 x2 := h.block (hb.block N h.lt)
theorem Box3.alloc (h : Box3 w N x0 x1 x2) (o : Obj) : Box3 (w.alloc o) N x0 x1 x2 := h.below ((Below.refl _ _).alloc (Nat.le_refl _) o)
theorem Box3.drew (h : Box3 w N x0 x1 x2) : Box3 w.drew N x0 x1 x2 := ⟨h.c0, h.c1, h.c2, h.f0, h.f1, h.f2⟩
theorem Box3.grown {row : Option Nat} (h : Box3 w N x0 x1 x2) (hg : w.grownBy w' row) (hne : row ≠ some N) : Box3 w' N x0 x1 x2 := h.block (hg.block N h.lt (fun e => hne e.symm))
theorem Box3.other (h : Box3 w N x0 x1 x2) {M o : Nat} (hne : M ≠ N) (v : Value) : Box3 (w.setCell ⟨M, o, none⟩ v) N x0 x1 x2 := h.block (Below.heap_setCell _ _ _ _ (fun e => hne (by rw [e])))
theorem Box3.set1 (h : Box3 w N x0 x1 x2) (v : Value) : Box3 (w.setCell ⟨N, 1, none⟩ v) N x0 v x2 :=
  ⟨by rw [World.cell?_setCell_other _ _ _ _ (by simp)]; exact h.c0, World.cell?_setCell_same _ _ _ h.c1, by rw [World.cell?_setCell_other _ _ _ _ (by simp)]; exact h.c2, by simp [h.f0], by simp [h.f1], by simp [h.f2]⟩
theorem Box3.set2 (h : Box3 w N x0 x1 x2) (v : Value) : Box3 (w.setCell ⟨N, 2, none⟩ v) N x0 x1 v :=
  ⟨by rw [World.cell?_setCell_other _ _ _ _ (by simp)]; exact h.c0, by rw [World.cell?_setCell_other _ _ _ _ (by simp)]; exact h.c1, World.cell?_setCell_same _ _ _ h.c2, by simp [h.f0], by simp [h.f1], by simp [h.f2]⟩
end
end Go.Proofs.YtchhpinmoagkhaaGreatDoor.face
namespace Go.Proofs.YtchhpinmoagkhaaGreatDoor.face
open Go.RowKit
open Go.Proofs.YtchhpinmoagkhaaGreatDoor.syn
set_option linter.unusedVariables false
set_option linter.unusedSimpArgs false
set_option maxRecDepth 100000

theorem news_new (w : World) (cs : Array Value) (T : TypeId) (n : Nat) (hn : n = w.heap.size) : ∀ j u, cs.toList[j]? = some u → (w.alloc (.cells cs T)).cell? ((⟨n, 0, none⟩ : Addr).add j) = some u := by
  subst hn
  exact World.news_of_block (MapKept.heap_alloc w _).1
theorem varsK_len (all : Bool) : ∀ K : List Kid, (varsK all K).length ≤ K.length
  | [] => Nat.le_refl _
  | .imp x :: r => by have := varsK_len all r; show (varsK all r).length ≤ r.length + 1; omega
  | .var x p l n :: r => by
    have := varsK_len all r
    show (if all || p then varD x p l n :: varsK all r else varsK all r).length ≤ r.length + 1
    split <;> (try simp only [List.length_cons]) <;> omega
  | .proc _ _ _ _ _ _ :: r => by have := varsK_len all r; show (varsK all r).length ≤ r.length + 1; omega
theorem procsK_len (all : Bool) : ∀ K : List Kid, (procsK all K).length ≤ K.length
  | [] => Nat.le_refl _
  | .imp x :: r => by have := procsK_len all r; show (procsK all r).length ≤ r.length + 1; omega
  | .var x p l n :: r => by have := procsK_len all r; show (procsK all r).length ≤ r.length + 1; omega
  | .proc x p l g ps b :: r => by
    have := procsK_len all r
    show (if all || p then procD x p l g ps :: procsK all r else procsK all r).length ≤ r.length + 1
    split <;> (try simp only [List.length_cons]) <;> omega
/-- while the reference gathers a face -/
structure GI (all : Bool) (w wr : World) (m : ByteArray) (K : List Kid) (kv vv pv : Value) (j : Nat) (Pq : List (ProcD × Value)) : Prop where
  below : Below w.heap.size w wr
  q3 : wr.cell? ⟨w.heap.size, 3, none⟩ = some kv
  b1 : Box3 wr (w.heap.size + 1) (.string ⟨#[]⟩) (.slice none 0 0) (.slice none 0 0)
  b2 : Box3 wr (w.heap.size + 1 + 1) (.string m) vv pv
  fr : FR (fun _ => False) (w.heap.size + 3) wr vv pv (varsK all (K.take j)) Pq
  pq : Pq.map (·.1) = procsK all (K.take j)
theorem GI.next {all : Bool} {w wr w2 : World} {m : ByteArray} {K : List Kid} {kv vv pv : Value} {j : Nat} {Pq : List (ProcD × Value)} (h : GI all w wr m K kv vv pv j Pq) (hb : Below wr.heap.size wr w2) : GI all w w2 m K kv vv pv j Pq :=
  ⟨h.below.trans (hb.mono h.below.size), keep h.q3 hb, h.b1.below hb, h.b2.below hb, h.fr.below hb, h.pq⟩
theorem GI.skip {all : Bool} {w wr : World} {m : ByteArray} {K : List Kid} {kv vv pv : Value} {j : Nat} {Pq : List (ProcD × Value)} (h : GI all w wr m K kv vv pv j Pq) (h1 : varsK all (K.take (j + 1)) = varsK all (K.take j)) (h2 : procsK all (K.take (j + 1)) = procsK all (K.take j)) : GI all w wr m K kv vv pv (j + 1) Pq :=
  ⟨h.below, h.q3, h.b1, h.b2, by rw [h1]; exact h.fr, by rw [h2]; exact h.pq⟩
theorem GI.pushV {all : Bool} {w wr w2 : World} {m : ByteArray} {K : List Kid} {kv vv pv : Value} {j : Nat} {Pq : List (ProcD × Value)} {v : VarD} {g cap : Nat} (h : GI all w wr m K kv vv pv j Pq)
    (h1 : varsK all (K.take (j + 1)) = varsK all (K.take j) ++ [v]) (h2 : procsK all (K.take (j + 1)) = procsK all (K.take j))
    (ho : w2.ownsRow (w.heap.size + 3) 45 4 (.slice (some ⟨g, 0, none⟩) ((varsK all (K.take j)).length + 1) cap) ((varsK all (K.take j)).length + 1) (varCells (varsK all (K.take j)) ++ [.string v.name, .bool v.pub, .int .i64 v.label, .int .i64 v.size])) (hg : wr.grownBy w2 vv.ownBlock)
    (hat : vv.ownBlock = some g ∨ g = wr.heap.size) : GI all w (w2.setCell ⟨w.heap.size + 1 + 1, 1, none⟩ (.slice (some ⟨g, 0, none⟩) ((varsK all (K.take j)).length + 1) cap)) m K kv (.slice (some ⟨g, 0, none⟩) ((varsK all (K.take j)).length + 1) cap) pv (j + 1) Pq := by
  have hlow : ∀ k, vv.ownBlock = some k → w.heap.size + 3 ≤ k := fun k hk => (h.fr.ov.lt _ hk).1
  refine ⟨?_, ?_, ?_, ?_, ?_, by rw [h2]; exact h.pq⟩
  · exact Below.setCell (h.below.grown hg h.below.size (fun k hk => by have := hlow k hk; omega)) (by show w.heap.size ≤ w.heap.size + 1 + 1; omega) _
  · rw [World.cell?_setCell_other _ _ _ _ (by simp)]
    exact cell_grown hg h.q3 (fun e => by have := hlow _ e; simp at this; omega)
  · exact (h.b1.grown hg (fun e => by have := hlow _ e; omega)).other (by omega) _
  · exact (h.b2.grown hg (fun e => by have := hlow _ e; omega)).set1 _
  · rw [h1]
    exact (h.fr.pushV ho hg hat (fun _ _ h => h)).set (by omega) _
theorem GI.pushP {all : Bool} {w wr w2 : World} {m : ByteArray} {K : List Kid} {kv vv pv : Value} {j : Nat} {Pq : List (ProcD × Value)} {q : ProcD × Value} {g cap : Nat} (h : GI all w wr m K kv vv pv j Pq)
    (h1 : varsK all (K.take (j + 1)) = varsK all (K.take j)) (h2 : procsK all (K.take (j + 1)) = procsK all (K.take j) ++ [q.1])
    (ho : w2.ownsRow (w.heap.size + 3) 70 6 (.slice (some ⟨g, 0, none⟩) (Pq.length + 1) cap) (Pq.length + 1) (procCells Pq ++ [.string q.1.name, .bool q.1.pub, q.2, .int .i64 q.1.writes, .bool q.1.gives, .int .i64 q.1.given])) (hg : wr.grownBy w2 pv.ownBlock)
    (hat : pv.ownBlock = some g ∨ g = wr.heap.size) (hq : ParIn (fun b => w.heap.size + 3 ≤ b ∧ b < wr.heap.size ∧ vv.ownBlock ≠ some b ∧ pv.ownBlock ≠ some b ∧ ¬ False) wr q.2 q.1.params) :
    GI all w (w2.setCell ⟨w.heap.size + 1 + 1, 2, none⟩ (.slice (some ⟨g, 0, none⟩) (Pq.length + 1) cap)) m K kv vv (.slice (some ⟨g, 0, none⟩) (Pq.length + 1) cap) (j + 1) (Pq ++ [q]) := by
  have hlow : ∀ k, pv.ownBlock = some k → w.heap.size + 3 ≤ k := fun k hk => (h.fr.op.lt _ hk).1
  refine ⟨?_, ?_, ?_, ?_, ?_, by rw [List.map_append, h.pq, h2]; rfl⟩
  · exact Below.setCell (h.below.grown hg h.below.size (fun k hk => by have := hlow k hk; omega)) (by show w.heap.size ≤ w.heap.size + 1 + 1; omega) _
  · rw [World.cell?_setCell_other _ _ _ _ (by simp)]
    exact cell_grown hg h.q3 (fun e => by have := hlow _ e; simp at this; omega)
  · exact (h.b1.grown hg (fun e => by have := hlow _ e; omega)).other (by omega) _
  · exact (h.b2.grown hg (fun e => by have := hlow _ e; omega)).set2 _
  · rw [h1]
    exact (h.fr.pushP ho hg hat (fun _ _ h => h) hq).set (by omega) _
theorem kid_var {all : Bool} {K : List Kid} {j : Nat} (h : j < K.length) {x : ByteArray} {p l : Bool} {n : Option Int} (hk : K[j] = .var x p l n) :
    varsK all (K.take (j + 1)) = varsK all (K.take j) ++ (if all || p then [varD x p l n] else []) ∧ procsK all (K.take (j + 1)) = procsK all (K.take j) := by
  rw [take_succ_kid K j h, varsK_append, procsK_append, hk]
  refine ⟨?_, by simp [procsK]⟩
  congr 1
theorem kid_proc {all : Bool} {K : List Kid} {j : Nat} (h : j < K.length) {x : ByteArray} {p l : Bool} {g : Option Bool} {ps : List (ByteArray × Bool)} {b : Tree} (hk : K[j] = .proc x p l g ps b) :
    procsK all (K.take (j + 1)) = procsK all (K.take j) ++ (if all || p then [procD x p l g ps] else []) ∧ varsK all (K.take (j + 1)) = varsK all (K.take j) := by
  rw [take_succ_kid K j h, varsK_append, procsK_append, hk]
  refine ⟨?_, by simp [varsK]⟩
  congr 1
theorem kid_imp {all : Bool} {K : List Kid} {j : Nat} (h : j < K.length) {x : ByteArray} (hk : K[j] = .imp x) :
    procsK all (K.take (j + 1)) = procsK all (K.take j) ∧ varsK all (K.take (j + 1)) = varsK all (K.take j) := by
  rw [take_succ_kid K j h, varsK_append, procsK_append, hk]
  exact ⟨by simp [procsK], by simp [varsK]⟩
end Go.Proofs.YtchhpinmoagkhaaGreatDoor.face
namespace Go.Proofs.YtchhpinmoagkhaaGreatDoor.face
open Go.RowKit
open Go.Proofs.YtchhpinmoagkhaaGreatDoor.syn
set_option linter.unusedVariables false
set_option linter.unusedSimpArgs false
set_option maxRecDepth 100000

theorem cell_far {w : World} {a : Addr} {x : Value} (h : w.cell? a = some x) {M o : Nat} (hne : M ≠ a.block) (z : Value) : (w.setCell ⟨M, o, none⟩ z).cell? a = some x := by
  rw [World.cell?_setCell_other _ _ _ _ (by intro e; apply hne; first | (rw [e]) | (rw [← e]))]
  exact h
theorem below_a {w : World} (o : Obj) : Below w.heap.size w (w.alloc o) := (Below.refl _ _).alloc (Nat.le_refl _) o
theorem below_ab {w w2 : World} {o : Obj} (hb : Below (w.alloc o).heap.size (w.alloc o) w2) : Below w.heap.size w w2 := (below_a o).trans (hb.mono (by simp))
set_option maxHeartbeats 4000000 in
theorem rFace (m : ByteArray) (K : List Kid) (v : Value) (w : World) (hv : Lies (· < w.heap.size) w (.node 1 m 0 (K.map Kid.tree)) v) (hK : K.length ≤ 1000) (hps : ∀ k ∈ K, k.kids.length ≤ 1000) :
    Calls Tryz.prog 34 #[v, .bool false] w fun e w' => ∃ vv pv Pq, e = .returned (.agg #[.string m, vv, pv]) ∧ FR (fun _ => False) (w.heap.size + 3) w' vv pv (varsK false K) Pq ∧ Pq.map (·.1) = procsK false K ∧ Below w.heap.size w w' := by
  have c24 : Tryz.prog.cellsOf 24 = 4 := by kernel_rfl
  have c3 : Tryz.prog.cellsOf 38 = 3 := cell3
  have c4 : Tryz.prog.cellsOf 45 = 4 := cell4
  have c6 : Tryz.prog.cellsOf 70 = 6 := cell6
  obtain ⟨i0, hi, hz0, hz1, hz2⟩ := info_parts infoV
  obtain ⟨i1, hi', hz0', hz1', hz2'⟩ := info_parts infoP
  unfold Lies at hv
  obtain ⟨a, c, rfl, hl, hk⟩ := hv
  rw [List.length_map] at hl ⊢
  have B1 := (Box3.new (w.alloc (.cells #[.int .i64 1, .string m, .int .i64 0, .slice a K.length c] 24)) (.string ⟨#[]⟩) (.slice none 0 0) (.slice none 0 0) 38).alloc (.cells #[.string m, .slice none 0 0, .slice none 0 0] 38)
  have B2 := Box3.new ((w.alloc (.cells #[.int .i64 1, .string m, .int .i64 0, .slice a K.length c] 24)).alloc (.cells #[.string ⟨#[]⟩, .slice none 0 0, .slice none 0 0] 38)) (.string m) (.slice none 0 0) (.slice none 0 0) 38
  rw [World.size_alloc] at B1
  rw [World.size_alloc, World.size_alloc] at B2
  have B0 : (w.alloc (.cells #[.int .i64 1, .string m, .int .i64 0, .slice a K.length c] 24)).cell? ⟨w.heap.size, 3, none⟩ = some (.slice a K.length c) := by simp
  have G0 : GI false w (((w.alloc (.cells #[.int .i64 1, .string m, .int .i64 0, .slice a K.length c] 24)).alloc (.cells #[.string ⟨#[]⟩, .slice none 0 0, .slice none 0 0] 38)).alloc (.cells #[.string m, .slice none 0 0, .slice none 0 0] 38)) m K (.slice a K.length c) (.slice none 0 0) (.slice none 0 0) 0 [] :=
    ⟨Joins.below_alloc3 _ _ _ _, cell_new (cell_new B0 _) _, B1, B2, FR.nil _ _ _, rfl⟩
  clear B0 B1 B2
  go_enter Tryz.func34, Tryz.ntmps34
  go_wp2
  go_loopw [6] (fun t wr => ∃ (j : Nat) (vv pv : Value) (Pq : List (ProcD × Value)), j ≤ K.length ∧ t = .int .i64 j ∧ GI false w wr m K (.slice a K.length c) vv pv j Pq) (fun t _ => K.length - (intOf t).toNat)
  case atStart => exact ⟨0, _, _, [], Nat.zero_le _, rfl, G0⟩
  case round =>
    clear G0
    obtain ⟨j, vv, pv, Pq, hj, rfl, hG⟩ := hrel
    have q3 := hG.q3
    by_cases hlt : j < K.length
    · obtain ⟨g, o, rfl, hg, hat⟩ := hk (by intro e; have := congrArg List.length e; simp at this; rw [this] at hlt; simp at hlt)
      obtain ⟨ak, ck, k0, k1, k2, k3, hly⟩ := kid_cells hg hat hG.below hlt
      have hV20 := varsK_len false (K.take j)
      have hP20 : Pq.length ≤ K.length := by have h1 := congrArg List.length hG.pq; have h2 := procsK_len false (K.take j); rw [List.length_map] at h1; rw [List.length_take] at h2; omega
      rw [List.length_take] at hV20
      have hkids := hps K[j] (List.getElem_mem hlt)
      obtain ⟨av, cv, rfl⟩ := hG.fr.shapeV
      obtain ⟨ap, cp, rfl⟩ := hG.fr.shapeP
      cases hkd : K[j] with
      | imp x =>
        obtain ⟨h1, h2⟩ := kid_imp (all := false) hlt hkd
        rw [hkd] at k0 k1 k2 k3
        simp only [Kid.kind, Kid.text, Kid.num, Kid.kids, List.length_nil] at k0 k1 k2 k3
        clear hat hly
        go_wp2
        go_roundw
        case rel => exact ⟨j + 1, _, _, Pq, by omega, by go_num, (hG.next (below_a _)).skip h2 h1⟩
        case measure => simp [intOf]; omega
      | var x p l n =>
        obtain ⟨h1, h2⟩ := kid_var (all := false) hlt hkd
        rw [hkd] at k0 k1 k2 k3 hly
        simp only [Kid.kind, Kid.text, Kid.num] at k0 k1 k2 k3 hly
        clear hat
        have hVO := rVarOf x p l n _ (wr.alloc (.cells #[.int .i64 3, .string x, .int .i64 (2 * bI p + bI l), .slice ak (Kid.var x p l n).kids.length ck] 24)) (hly.below (below_a _))
        have H1 : Hid (varsK false (K.take (j + 1)) = varsK false (K.take j) ++ (if false || p then [varD x p l n] else [])) := h1
        clear h1
        unfold varV varD at hVO
        simp only at hVO
        generalize 2 * bI p + bI l = num at k2 hVO
        generalize (Kid.var x p l n).kids.length = kl at k3 hVO
        clear hly hkd
        have hlow := hG.b2.lt
        cases p
        · have h1 : varsK false (K.take (j + 1)) = varsK false (K.take j) := by rw [H1.out]; simp
          clear H1
          go_wp2_with (go_at_call 82; refine hVO.mono ?_; rintro e w2 ⟨rfl, hb2⟩; have r0 : w2.cell? ⟨wr.heap.size, 0, none⟩ = some (.int .i64 3) := one_box4 hb2 0; have r0' := fun ob => cell_new r0 ob)
          go_roundw
          case rel => exact ⟨j + 1, _, _, Pq, by omega, by go_num, ((hG.next (below_ab hb2)).next (below_a _)).skip h1 h2⟩
          case measure => simp [intOf]; omega
        · have h1 : varsK false (K.take (j + 1)) = varsK false (K.take j) ++ [⟨x, true, bI l, n.getD 0⟩] := by rw [H1.out]; rfl
          clear H1
          go_wp2_with first
            | (go_at_call 82; refine hVO.mono ?_; rintro e w2 ⟨rfl, hb2⟩; have hG2 := hG.next (below_ab hb2); have hG3 := hG2.next (below_a (.cells #[.string x, .bool true, .int .i64 (bI l), .int .i64 (n.getD 0)] 45)); obtain ⟨t0, t1, t2, _, _, _⟩ := id hG3.b2; have hs2 := hG2.b2.lt; have r0 : w2.cell? ⟨wr.heap.size, 0, none⟩ = some (.int .i64 3) := one_box4 hb2 0)
            | (at_builtin; refine wpList_append_lies _ rfl (.tmp 36) (.tmp 38) 35 rfl (w.heap.size + 3) 45 i0 (.agg #[.string ⟨#[]⟩, .bool false, .int .i64 0, .int .i64 0]) 4 40 Tryz.underlying35 hi hz0 hz1 hz2 rfl (by decide) _ _ _ rfl (hG3.fr.ov.alloc _) ⟨w2.heap.size + 1, 0, none⟩ 1 1 [.string x, .bool true, .int .i64 (bI l), .int .i64 (n.getD 0)] rfl rfl (news_new _ #[.string x, .bool true, .int .i64 (bI l), .int .i64 (n.getD 0)] _ _ (by simp)) (by intro u hu; simp at hu; rcases hu with rfl | rfl | rfl | rfl <;> rfl) (by omega) (by unfold maxLen; omega) (by omega) (by simp; omega) (w2.heap.size + 1 + 1) (by simp) ?_; intro g5 cap5 w5 hown5 hgrow5 hat5 hlt5; have hG4 := hG3.next (below_a (.cells #[.string x, .bool true, .int .i64 (bI l), .int .i64 (n.getD 0)] 45)); have b25 := hG4.b2.grown hgrow5 (fun e => by have := (hG3.fr.ov.lt _ e).1; omega); obtain ⟨s0, s1, s2, s3, s4, s5⟩ := id b25; have r5 : w5.cell? ⟨wr.heap.size, 0, none⟩ = some (.int .i64 3) := cell_grown hgrow5 (cell_new (cell_new r0 _) _) (fun e => by have := (hG.fr.ov.lt _ e).2; simp at this); have r6 := fun z => cell_far r5 (M := w.heap.size + 1 + 1) (o := 1) (by show w.heap.size + 1 + 1 ≠ wr.heap.size; omega) z)
            | go_in
          go_roundw
          case rel => exact ⟨j + 1, _, _, Pq, by omega, by go_num, hG4.pushV h1 h2 hown5 hgrow5 (hat5.imp id (fun h => by rw [h]; simp))⟩
          case measure => simp [intOf]; omega
      | proc x p l gv ps b =>
        obtain ⟨h1, h2⟩ := kid_proc (all := false) hlt hkd
        rw [hkd] at k0 k1 k2 k3 hly hkids
        simp only [Kid.kind, Kid.text, Kid.num] at k0 k1 k2 k3 hly
        have hps1 : ps.length ≤ 1000 := by simp only [Kid.kids, List.length_append, List.length_map, List.length_singleton] at hkids; omega
        clear hat
        have hPO := rProcOf x p l gv ps b _ (wr.alloc (.cells #[.int .i64 4, .string x, .int .i64 (2 * bI p + bI l + gI gv), .slice ak (Kid.proc x p l gv ps b).kids.length ck] 24)) (hly.below (below_a _)) hps1
        have H1 : Hid (procsK false (K.take (j + 1)) = procsK false (K.take j) ++ (if false || p then [procD x p l gv ps] else [])) := h1
        clear h1
        unfold procV procD at hPO
        simp only at hPO
        generalize 2 * bI p + bI l + gI gv = num at k2 hPO
        generalize (Kid.proc x p l gv ps b).kids.length = kl at k3 hPO
        clear hly hkd hkids
        have hlow := hG.b2.lt
        cases p
        · have h1 : procsK false (K.take (j + 1)) = procsK false (K.take j) := by rw [H1.out]; simp
          clear H1
          go_wp2_with (go_at_call 83; refine hPO.mono ?_; rintro e w2 ⟨u, rfl, hou, hb2⟩; obtain ⟨au, cu, rfl, _, _⟩ := lexs.own_shape hou)
          go_roundw
          case rel => exact ⟨j + 1, _, _, Pq, by omega, by go_num, ((hG.next (below_ab hb2)).next (below_a _)).skip h2 h1⟩
          case measure => simp [intOf]; omega
        · have h1 : procsK false (K.take (j + 1)) = procsK false (K.take j) ++ [⟨x, true, ps.map fun q => bI q.2, bI l, gv.isSome, bI (gv.getD false)⟩] := by rw [H1.out]; rfl
          clear H1
          go_wp2_with first
            | (go_at_call 83; refine hPO.mono ?_; rintro e w2 ⟨u, rfl, hou, hb2⟩; obtain ⟨au, cu, rfl, _, _⟩ := lexs.own_shape hou; have hG2 := hG.next (below_ab hb2); have hG3 := hG2.next (below_a (.cells #[.string x, .bool true, .slice au ps.length cu, .int .i64 (bI l), .bool gv.isSome, .int .i64 (bI (gv.getD false))] 70)); obtain ⟨t0, t1, t2, _, _, _⟩ := id hG3.b2; have hs2 := hG2.b2.lt)
            | (at_builtin; refine wpList_append_lies _ rfl (.tmp 52) (.tmp 54) 36 rfl (w.heap.size + 3) 70 i1 (.agg #[.string ⟨#[]⟩, .bool false, .slice none 0 0, .int .i64 0, .bool false, .int .i64 0]) 6 72 Tryz.underlying36 hi' hz0' hz1' hz2' rfl (by decide) _ _ _ rfl (hG3.fr.op.alloc _) ⟨w2.heap.size + 1, 0, none⟩ 1 1 [.string x, .bool true, .slice au ps.length cu, .int .i64 (bI l), .bool gv.isSome, .int .i64 (bI (gv.getD false))] rfl rfl (news_new _ #[.string x, .bool true, .slice au ps.length cu, .int .i64 (bI l), .bool gv.isSome, .int .i64 (bI (gv.getD false))] _ _ (by simp)) (by intro u hu; simp at hu; rcases hu with rfl | rfl | rfl | rfl | rfl | rfl <;> rfl) (by omega) (by unfold maxLen; omega) (by omega) (by simp; omega) (w2.heap.size + 1 + 1) (by simp) ?_; intro g5 cap5 w5 hown5 hgrow5 hat5 hlt5; have hG4 := hG3.next (below_a (.cells #[.string x, .bool true, .slice au ps.length cu, .int .i64 (bI l), .bool gv.isSome, .int .i64 (bI (gv.getD false))] 70)); have b25 := hG4.b2.grown hgrow5 (fun e => by have := (hG3.fr.op.lt _ e).1; omega); obtain ⟨s0, s1, s2, s3, s4, s5⟩ := id b25)
            | go_in
          have hPar : ParIn (fun b => w.heap.size + 3 ≤ b ∧ b < ((w2.alloc (.cells #[.string x, .bool true, .slice au ps.length cu, .int .i64 (bI l), .bool gv.isSome, .int .i64 (bI (gv.getD false))] 70)).alloc (.cells #[.string x, .bool true, .slice au ps.length cu, .int .i64 (bI l), .bool gv.isSome, .int .i64 (bI (gv.getD false))] 70)).heap.size ∧ (Value.slice av (varsK false (K.take j)).length cv).ownBlock ≠ some b ∧ (Value.slice ap Pq.length cp).ownBlock ≠ some b ∧ ¬ False) ((w2.alloc (.cells #[.string x, .bool true, .slice au ps.length cu, .int .i64 (bI l), .bool gv.isSome, .int .i64 (bI (gv.getD false))] 70)).alloc (.cells #[.string x, .bool true, .slice au ps.length cu, .int .i64 (bI l), .bool gv.isSome, .int .i64 (bI (gv.getD false))] 70)) (.slice au ps.length cu) (ps.map fun q => bI q.2) := by
            have h0 : w2.ownsRow (wr.alloc (.cells #[.int .i64 4, .string x, .int .i64 num, .slice ak kl ck] 24)).heap.size 3 1 (.slice au ps.length cu) (ps.map fun q => bI q.2).length (intV (ps.map fun q => bI q.2)) := by rw [List.length_map]; exact hou
            refine (ParIn.own h0).to (fun b hb => ⟨?_, ?_, fun e => ?_, fun e => ?_, fun h => h⟩) (fun b hb o v hc => cell_new (cell_new hc _) _)
            · have := hb.1; rw [World.size_alloc] at this; omega
            · have := hb.2; simp; omega
            · have h1 := (hG.fr.ov.lt _ e).2; have h2 := hb.1; rw [World.size_alloc] at h2; omega
            · have h1 := (hG.fr.op.lt _ e).2; have h2 := hb.1; rw [World.size_alloc] at h2; omega
          go_roundw
          case rel => exact ⟨j + 1, _, _, Pq ++ [(⟨x, true, ps.map fun q => bI q.2, bI l, gv.isSome, bI (gv.getD false)⟩, .slice au ps.length cu)], by omega, by go_num, hG4.pushP h2 h1 hown5 hgrow5 (hat5.imp id (fun h => by rw [h]; simp)) hPar⟩
          case measure => simp [intOf]; omega
    · have hje : K.take j = K := List.take_of_length_le (by omega)
      have hF := hG.fr
      have hPQ := hG.pq
      rw [hje] at hF hPQ
      obtain ⟨av, cv, rfl⟩ := hF.shapeV
      obtain ⟨ap, cp, rfl⟩ := hF.shapeP
      obtain ⟨u0, u1, u2, t0, t1, t2⟩ := id hG.b1
      obtain ⟨s0, s1, s2, _, _, _⟩ := id hG.b2
      have hlim : (varsK false K).length ≤ 1000 := by have := varsK_len false K; omega
      have hlim2 : Pq.length ≤ 1000 := by have h1 := congrArg List.length hPQ; have h2 := procsK_len false K; rw [List.length_map] at h1; omega
      have hFI := ((hF.set (M := w.heap.size + 1) (o := 0) (by omega) (.string m)).set (M := w.heap.size + 1) (o := 1) (by omega) (.slice av (varsK false K).length cv)).set (M := w.heap.size + 1) (o := 2) (by omega) (.slice ap Pq.length cp)
      have hfin := hG.below
      clear hF hG
      go_wp2
      refine bodyPost_ret (v := .agg #[.string m, .slice av (varsK false K).length cv, .slice ap Pq.length cp]) (by simp [results, Tryz.results34, go_sem, u0, u1, u2]) rfl ⟨_, _, Pq, rfl, hFI, hPQ, ?_⟩
      exact ((hfin.setCell (Nat.le_succ _) _).setCell (Nat.le_succ _) _).setCell (Nat.le_succ _) _
end Go.Proofs.YtchhpinmoagkhaaGreatDoor.face
namespace Go.Proofs.YtchhpinmoagkhaaGreatDoor.face
open Go.RowKit
open Go.Proofs.YtchhpinmoagkhaaGreatDoor.syn
set_option linter.unusedVariables false
set_option linter.unusedSimpArgs false
set_option maxRecDepth 100000

theorem strs_own {w : World} {B : Nat} {v : Value} {L : List ByteArray} (h : w.ownsRow B 9 1 v L.length (strV L)) : StrsIn w v L := by
  rcases h.2 with ⟨rfl, hn⟩ | ⟨g, cap, cur, rfl, _, _, h1, h2, _⟩
  · have : L = [] := List.length_eq_zero_iff.1 hn
    subst this
    exact ⟨none, 0, rfl, by simp, fun h => absurd rfl h⟩
  · refine ⟨some ⟨g, 0, none⟩, cap, rfl, by unfold maxLen at h2; omega, fun _ => ⟨g, 0, rfl, fun i hi => ?_⟩⟩
    have := h.cellAt i (by omega)
    rw [Nat.zero_add, this]
    unfold strV
    rw [List.getElem?_map, List.getElem?_eq_getElem hi]
    rfl
theorem own_keep {w w' : World} {B : Nat} {e : TypeId} {k n : Nat} {v : Value} {xs : List Value} (h : w.ownsRow B e k v n xs) (hb : Below w.heap.size w w') : w'.ownsRow B e k v n xs :=
  h.kept (row := none) ⟨hb.os, hb.tape, hb.output, hb.size, fun j hj _ => hb.block j hj⟩ (by cases v.ownBlock <;> simp)
/-- the boxes of the module's node and of the answer, the imports and the names so far -/
structure LI (w wr : World) (m : ByteArray) (kv iv nv : Value) (is ns : List ByteArray) : Prop where
  below : Below w.heap.size w wr
  q1 : wr.cell? ⟨w.heap.size, 1, none⟩ = some (.string m)
  q3 : wr.cell? ⟨w.heap.size, 3, none⟩ = some kv
  r0 : wr.cell? ⟨w.heap.size + 1, 0, none⟩ = some (.int .i64 0)
  r1 : wr.cell? ⟨w.heap.size + 1, 1, none⟩ = some (.int .i64 0)
  z0 : wr.frozen? ⟨w.heap.size + 1, 0, none⟩ = false
  z1 : wr.frozen? ⟨w.heap.size + 1, 1, none⟩ = false
  oi : wr.ownsRow (w.heap.size + 2) 9 1 iv is.length (strV is)
  on : wr.ownsRow (w.heap.size + 2) 9 1 nv ns.length (strV ns)
  dj : ∀ b, iv.ownBlock = some b → nv.ownBlock ≠ some b
section
variable {w wr w2 : World} {m : ByteArray} {kv iv nv : Value} {is ns : List ByteArray}
theorem LI.lt (h : LI w wr m kv iv nv is ns) : w.heap.size + 1 < wr.heap.size := World.block_lt_of_cell? wr ⟨w.heap.size + 1, 0, none⟩ h.r0
theorem frozen_grown {w w' : World} {row : Option Nat} (hg : w.grownBy w' row) {a : Addr} (hlt : a.block < w.heap.size) (h : w.frozen? a = false) (hne : row ≠ some a.block) : w'.frozen? a = false := by
  rw [World.frozen?_of_block (a := a) (hg.block a.block hlt (fun e => hne e.symm))]
  exact h
theorem LI.next (h : LI w wr m kv iv nv is ns) (hb : Below wr.heap.size wr w2) : LI w w2 m kv iv nv is ns :=
  have hg : wr.grownBy w2 none := ⟨hb.os, hb.tape, hb.output, hb.size, fun j hj _ => hb.block j hj⟩
  ⟨h.below.trans (hb.mono h.below.size), keep h.q1 hb, keep h.q3 hb, keep h.r0 hb, keep h.r1 hb, frozen_grown hg h.lt h.z0 (by simp), frozen_grown hg h.lt h.z1 (by simp), own_keep h.oi hb, own_keep h.on hb, h.dj⟩
theorem LI.pushI (h : LI w wr m kv iv nv is ns) {x : ByteArray} {g cap : Nat} (ho : w2.ownsRow (w.heap.size + 2) 9 1 (.slice (some ⟨g, 0, none⟩) (is.length + 1) cap) (is.length + 1) (strV is ++ [.string x])) (hg : wr.grownBy w2 iv.ownBlock) (hat : iv.ownBlock = some g ∨ g = wr.heap.size) :
    LI w w2 m kv (.slice (some ⟨g, 0, none⟩) (is.length + 1) cap) nv (is ++ [x]) ns := by
  have hlow : ∀ k, iv.ownBlock = some k → w.heap.size + 2 ≤ k := fun k hk => (h.oi.lt _ hk).1
  have hlt := h.lt
  refine ⟨h.below.grown hg h.below.size (fun k hk => by have := hlow k hk; omega), cell_grown hg h.q1 (fun e => by have := hlow _ e; simp at this; omega), cell_grown hg h.q3 (fun e => by have := hlow _ e; simp at this; omega),
    cell_grown hg h.r0 (fun e => by have := hlow _ e; simp at this), cell_grown hg h.r1 (fun e => by have := hlow _ e; simp at this), frozen_grown hg hlt h.z0 (fun e => by have := hlow _ e; simp at this), frozen_grown hg hlt h.z1 (fun e => by have := hlow _ e; simp at this), ?_, ?_, ?_⟩
  · rw [strV_snoc, List.length_append]; exact ho
  · refine h.on.kept hg ?_
    cases e : nv.ownBlock with
    | none => exact .inl rfl
    | some b => exact .inr (fun e2 => h.dj b e2.symm e)
  · intro b e e2
    have e' : some g = some b := e
    cases e'
    rcases hat with h1 | h1
    · exact h.dj g h1 e2
    · have := (h.on.lt _ e2).2; omega
theorem LI.pushN (h : LI w wr m kv iv nv is ns) {x : ByteArray} {g cap : Nat} (ho : w2.ownsRow (w.heap.size + 2) 9 1 (.slice (some ⟨g, 0, none⟩) (ns.length + 1) cap) (ns.length + 1) (strV ns ++ [.string x])) (hg : wr.grownBy w2 nv.ownBlock) (hat : nv.ownBlock = some g ∨ g = wr.heap.size) :
    LI w w2 m kv iv (.slice (some ⟨g, 0, none⟩) (ns.length + 1) cap) is (ns ++ [x]) := by
  have hlow : ∀ k, nv.ownBlock = some k → w.heap.size + 2 ≤ k := fun k hk => (h.on.lt _ hk).1
  have hlt := h.lt
  refine ⟨h.below.grown hg h.below.size (fun k hk => by have := hlow k hk; omega), cell_grown hg h.q1 (fun e => by have := hlow _ e; simp at this; omega), cell_grown hg h.q3 (fun e => by have := hlow _ e; simp at this; omega),
    cell_grown hg h.r0 (fun e => by have := hlow _ e; simp at this), cell_grown hg h.r1 (fun e => by have := hlow _ e; simp at this), frozen_grown hg hlt h.z0 (fun e => by have := hlow _ e; simp at this), frozen_grown hg hlt h.z1 (fun e => by have := hlow _ e; simp at this), ?_, ?_, ?_⟩
  · refine h.oi.kept hg ?_
    cases e : iv.ownBlock with
    | none => exact .inl rfl
    | some b => exact .inr (fun e2 => h.dj b e e2.symm)
  · rw [strV_snoc, List.length_append]; exact ho
  · intro b e e2
    have e' : some g = some b := e2
    cases e'
    rcases hat with h1 | h1
    · exact h.dj g e h1
    · have := (h.oi.lt _ e).2; omega
end
def faultV : Option (Int × Int) → Value
  | none => .agg #[.int .i64 0, .int .i64 0]
  | some (c, a) => .agg #[.int .i64 c, .int .i64 a]
theorem drop_kid (K : List Kid) (j : Nat) (h : j < K.length) : K.drop j = K[j] :: K.drop (j + 1) := List.drop_eq_getElem_cons h
theorem cnt_kids (K : List Kid) (j : Nat) (h : j < K.length) : cntL ((K.take (j + 1)).map Kid.tree) = cntL ((K.take j).map Kid.tree) + cntT K[j].tree := by
  have h1 := cntL_take (K.map Kid.tree) j (by simpa using h)
  rw [← List.map_take, ← List.map_take, List.getElem_map] at h1
  exact h1
theorem cnt_kids_le (K : List Kid) (j : Nat) : cntL ((K.take j).map Kid.tree) ≤ cntL (K.map Kid.tree) := by
  rw [List.map_take]; exact cntL_take_le _ _
end Go.Proofs.YtchhpinmoagkhaaGreatDoor.face
