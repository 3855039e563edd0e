/- Where an object lies in memory. -/
import Derived.Test.YthfeojjfehbgjaaGreatDoorOGFaceMem
import Derived.Test.YthfeojjfehbgjaaGreatDoorOGObjSpec
namespace Go.Proofs.YthfeojjfehbgjaaGreatDoor.obj
open Go.RowKit
open Go.Proofs.YthfeojjfehbgjaaGreatDoor.mac (Ins)
open Go.Proofs.YthfeojjfehbgjaaGreatDoor.face (VarD ProcD FaceD VarsIn ProcsIn IntsIn FaceIn varV procV keep)
set_option linter.unusedVariables false
def faceV (f : FaceD) (vv pv : Value) : Value := .agg #[.string f.module, vv, pv]
def insV (i : Ins) : Value := .agg #[.int .i64 i.op, .int .i64 i.a, .int .i64 i.b, .int .i64 i.c, .int .i64 i.n]
def relV (x : RelD) : Value := .agg #[.int .i64 x.at', .int .i64 x.kind, .string x.module, .string x.name]
def plcV (x : PlcD) : Value := .agg #[.string x.name, .int .i64 x.at']
def FacesIn (w : World) (v : Value) (l : List FaceD) : Prop := ∃ a c, v = .slice a l.length c ∧ l.length ≤ 1048576 ∧
  (l ≠ [] → ∃ g o, a = some ⟨g, o, none⟩ ∧ ∀ i (h : i < l.length), w.cell? ⟨g, o + i * 3, none⟩ = some (.string l[i].module) ∧
    (∃ vv, w.cell? ⟨g, o + i * 3 + 1, none⟩ = some vv ∧ VarsIn w vv l[i].vars) ∧ (∃ pv, w.cell? ⟨g, o + i * 3 + 2, none⟩ = some pv ∧ ProcsIn w pv l[i].procs))
def CodeIn (w : World) (v : Value) (l : List Ins) : Prop := ∃ a c, v = .slice a l.length c ∧ l.length ≤ 1048576 ∧
  (l ≠ [] → ∃ g o, a = some ⟨g, o, none⟩ ∧ ∀ i (h : i < l.length), w.cell? ⟨g, o + i * 5, none⟩ = some (.int .i64 l[i].op) ∧ w.cell? ⟨g, o + i * 5 + 1, none⟩ = some (.int .i64 l[i].a) ∧
    w.cell? ⟨g, o + i * 5 + 2, none⟩ = some (.int .i64 l[i].b) ∧ w.cell? ⟨g, o + i * 5 + 3, none⟩ = some (.int .i64 l[i].c) ∧ w.cell? ⟨g, o + i * 5 + 4, none⟩ = some (.int .i64 l[i].n))
def RelsIn (w : World) (v : Value) (l : List RelD) : Prop := ∃ a c, v = .slice a l.length c ∧ l.length ≤ 1048576 ∧
  (l ≠ [] → ∃ g o, a = some ⟨g, o, none⟩ ∧ ∀ i (h : i < l.length), w.cell? ⟨g, o + i * 4, none⟩ = some (.int .i64 l[i].at') ∧ w.cell? ⟨g, o + i * 4 + 1, none⟩ = some (.int .i64 l[i].kind) ∧
    w.cell? ⟨g, o + i * 4 + 2, none⟩ = some (.string l[i].module) ∧ w.cell? ⟨g, o + i * 4 + 3, none⟩ = some (.string l[i].name))
def PlcsIn (w : World) (v : Value) (l : List PlcD) : Prop := ∃ a c, v = .slice a l.length c ∧ l.length ≤ 1048576 ∧
  (l ≠ [] → ∃ g o, a = some ⟨g, o, none⟩ ∧ ∀ i (h : i < l.length), w.cell? ⟨g, o + i * 2, none⟩ = some (.string l[i].name) ∧ w.cell? ⟨g, o + i * 2 + 1, none⟩ = some (.int .i64 l[i].at'))
/-- where the parts of an object lie -/
structure Vals where
  vv : Value
  pv : Value
  iv : Value
  cv : Value
  rv : Value
  p1 : Value
  p2 : Value
  p3 : Value
def objV (o : ObjD) (x : Vals) : Value := .agg #[.string o.face.module, x.vv, x.pv, x.iv, x.cv, x.rv, x.p1, x.p2, x.p3, .int .i64 o.low, .int .i64 o.high, .int .i64 o.lowF, .int .i64 o.highF]
structure ObjAt (w : World) (x : Vals) (o : ObjD) : Prop where
  vars : VarsIn w x.vv o.face.vars
  procs : ProcsIn w x.pv o.face.procs
  imps : FacesIn w x.iv o.imports
  code : CodeIn w x.cv o.code
  rels : RelsIn w x.rv o.relocs
  q1 : PlcsIn w x.p1 o.procs
  q2 : PlcsIn w x.p2 o.lows
  q3 : PlcsIn w x.p3 o.highs
def ObjIn (w : World) (v : Value) (o : ObjD) : Prop := ∃ x, v = objV o x ∧ ObjAt w x o
section
variable {w w' : World} {v : Value}
theorem FacesIn.below {l : List FaceD} (h : FacesIn w v l) (hb : Below w.heap.size w w') : FacesIn w' v l := by
  obtain ⟨a, c, e, hl, hk⟩ := h
  refine ⟨a, c, e, hl, fun hne => ?_⟩
  obtain ⟨g, o, e2, hc⟩ := hk hne
  refine ⟨g, o, e2, fun i hi => ?_⟩
  obtain ⟨h0, ⟨x, h1, h2⟩, ⟨y, h3, h4⟩⟩ := hc i hi
  exact ⟨keep h0 hb, ⟨x, keep h1 hb, h2.below hb⟩, ⟨y, keep h3 hb, h4.below hb⟩⟩
theorem CodeIn.below {l : List Ins} (h : CodeIn w v l) (hb : Below w.heap.size w w') : CodeIn w' v l := by
  obtain ⟨a, c, e, hl, hk⟩ := h
  refine ⟨a, c, e, hl, fun hne => ?_⟩
  obtain ⟨g, o, e2, hc⟩ := hk hne
  exact ⟨g, o, e2, fun i hi => ⟨keep (hc i hi).1 hb, keep (hc i hi).2.1 hb, keep (hc i hi).2.2.1 hb, keep (hc i hi).2.2.2.1 hb, keep (hc i hi).2.2.2.2 hb⟩⟩
theorem RelsIn.below {l : List RelD} (h : RelsIn w v l) (hb : Below w.heap.size w w') : RelsIn w' v l := by
  obtain ⟨a, c, e, hl, hk⟩ := h
  refine ⟨a, c, e, hl, fun hne => ?_⟩
  obtain ⟨g, o, e2, hc⟩ := hk hne
  exact ⟨g, o, e2, fun i hi => ⟨keep (hc i hi).1 hb, keep (hc i hi).2.1 hb, keep (hc i hi).2.2.1 hb, keep (hc i hi).2.2.2 hb⟩⟩
theorem PlcsIn.below {l : List PlcD} (h : PlcsIn w v l) (hb : Below w.heap.size w w') : PlcsIn w' v l := by
  obtain ⟨a, c, e, hl, hk⟩ := h
  refine ⟨a, c, e, hl, fun hne => ?_⟩
  obtain ⟨g, o, e2, hc⟩ := hk hne
  exact ⟨g, o, e2, fun i hi => ⟨keep (hc i hi).1 hb, keep (hc i hi).2 hb⟩⟩
theorem ObjAt.below {x : Vals} {o : ObjD} (h : ObjAt w x o) (hb : Below w.heap.size w w') : ObjAt w' x o :=
  ⟨h.vars.below hb, h.procs.below hb, h.imps.below hb, h.code.below hb, h.rels.below hb, h.q1.below hb, h.q2.below hb, h.q3.below hb⟩
theorem ObjIn.below {o : ObjD} (h : ObjIn w v o) (hb : Below w.heap.size w w') : ObjIn w' v o := by
  obtain ⟨x, e, h⟩ := h
  exact ⟨x, e, h.below hb⟩
end
end Go.Proofs.YthfeojjfehbgjaaGreatDoor.obj
