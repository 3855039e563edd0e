/- Objects as plain data: which may be, their bytes, and how bytes are read. Plain functions. No Go in sight. Where an object lies in memory. -/
import Derived.Test.YtaiocbbcjdpjgaaGreatDoorLMFaceDat
import Derived.Test.YtaiocbbcjdpjgaaGreatDoorLMMacSpec
import Derived.Test.YtaiocbbcjdpjgaaGreatDoorLMFaceMem
namespace Go.Proofs.YtaiocbbcjdpjgaaGreatDoor.obj
open Go.RowKit
open Go.Proofs.YtaiocbbcjdpjgaaGreatDoor.face (VarD ProcD FaceD apartB)
open Go.Proofs.YtaiocbbcjdpjgaaGreatDoor.mac (Ins hasB)
open Go.Proofs.YtaiocbbcjdpjgaaGreatDoor.syn (isName eqS)
set_option linter.unusedVariables false

structure RelD where
  at' : Int
  kind : Int
  module : ByteArray
  name : ByteArray
structure PlcD where
  name : ByteArray
  at' : Int
structure ObjD where
  face : FaceD
  imports : List FaceD
  code : List Ins
  relocs : List RelD
  procs : List PlcD
  lows : List PlcD
  highs : List PlcD
  low : Int
  high : Int
  lowF : Int
  highF : Int
instance : Inhabited FaceD := ⟨⟨default, default, default⟩⟩
instance : Inhabited Ins := ⟨⟨0, 0, 0, 0, 0⟩⟩
instance : Inhabited RelD := ⟨⟨0, 0, default, default⟩⟩
instance : Inhabited PlcD := ⟨⟨default, 0⟩⟩
/-! which may be -/
def plcB (count : Int) (p : PlcD) : Bool := isName p.name && (decide (0 ≤ p.at') && decide (p.at' < count))
def placesB (l : List PlcD) (count : Int) : Bool := l.all (plcB count) && apartB [] (l.map (·.name))
def emptyB (x : ByteArray) : Bool := x.toList.isEmpty
def relB (r : RelD) : Bool := if r.kind = 1 then emptyB r.module && emptyB r.name else if r.kind = 2 ∨ r.kind = 3 ∨ r.kind = 4 then isName r.module && isName r.name else false
def relAt (orders least : Int) (r : RelD) : Bool := decide (least ≤ r.at') && (decide (r.at' < orders) && relB r)
def relocsB (orders : Int) : Int → List RelD → Bool
  | _, [] => true
  | least, r :: rs => relAt orders least r && relocsB orders (r.at' + 1) rs
def wordB (n : Int) : Bool := decide (0 ≤ n) && decide (n ≤ 20000)
def codeB (l : List Ins) : Bool := decide (l.length ≤ 20000) && l.all hasB
def facesB (own : FaceD) (l : List FaceD) : Bool := face.mayB own && (decide (l.length ≤ 5) && (l.all face.mayB && apartB [] (own.module :: l.map (·.module))))
def wordsB (l : List Int) : Bool := l.all wordB
def mayO (o : ObjD) : Bool := facesB o.face o.imports && (codeB o.code && (relocsB o.code.length 0 o.relocs && (wordsB [o.low, o.high, o.lowF, o.highF] &&
  (placesB o.procs o.code.length && (placesB o.lows o.low && placesB o.highs o.high)))))
/-! bytes -/
def byteB (n : Int) (k : Nat) : UInt8 := UInt8.ofNat ((n / (2 : Int) ^ k) % 256).toNat
def numB (n : Int) : List UInt8 := [byteB n 56, byteB n 48, byteB n 40, byteB n 32, byteB n 24, byteB n 16, byteB n 8, byteB n 0]
def boolB (b : Bool) : List UInt8 := numB (if b = true then 1 else 0)
def textB (x : ByteArray) : List UInt8 := numB x.size ++ x.data.toList
def listB {α : Type} (f : α → List UInt8) (l : List α) : List UInt8 := numB l.length ++ (l.map f).flatten
def intsB (l : List Int) : List UInt8 := (l.map numB).flatten
def varB (v : VarD) : List UInt8 := textB v.name ++ (boolB v.pub ++ intsB [v.label, v.size])
def procB (p : ProcD) : List UInt8 := textB p.name ++ (boolB p.pub ++ (listB numB p.params ++ (numB p.writes ++ (boolB p.gives ++ numB p.given))))
def faceB (f : FaceD) : List UInt8 := textB f.module ++ (listB varB f.vars ++ listB procB f.procs)
def insB (i : Ins) : List UInt8 := intsB [i.op, i.a, i.b, i.c, i.n]
def relBy (r : RelD) : List UInt8 := intsB [r.at', r.kind] ++ (textB r.module ++ textB r.name)
def plcBy (p : PlcD) : List UInt8 := textB p.name ++ numB p.at'
def objB (o : ObjD) : List UInt8 := faceB o.face ++ (listB faceB o.imports ++ (listB insB o.code ++ (listB relBy o.relocs ++ (listB plcBy o.procs ++ (listB plcBy o.lows ++ (listB plcBy o.highs ++ intsB [o.low, o.high, o.lowF, o.highF]))))))
/-! how bytes are read -/
abbrev By := List UInt8
def natOf (l : By) : Nat := l.foldl (fun a b => a * 256 + b.toNat) 0
def getNum (l : By) : Option (Int × By) := if l.length < 8 then none else some (wrap64 (natOf (l.take 8)), l.drop 8)
def getSize (l : By) : Option (Nat × By) := (getNum l).bind fun x => if x.1 < 0 then none else some (x.1.toNat, x.2)
def getBool (l : By) : Option (Bool × By) := (getNum l).bind fun x => if x.1 = 0 then some (false, x.2) else if x.1 = 1 then some (true, x.2) else none
def getText (l : By) : Option (ByteArray × By) := (getSize l).bind fun x => if x.2.length < x.1 then none else some (⟨(x.2.take x.1).toArray⟩, x.2.drop x.1)
def getN {α : Type} (g : By → Option (α × By)) : Nat → By → Option (List α × By)
  | 0, l => some ([], l)
  | n + 1, l => (g l).bind fun x => (getN g n x.2).bind fun y => some (x.1 :: y.1, y.2)
def getL {α : Type} (g : By → Option (α × By)) (l : By) : Option (List α × By) := (getSize l).bind fun x => getN g x.1 x.2
def getVar (l : By) : Option (VarD × By) := (getText l).bind fun a => (getBool a.2).bind fun b => (getNum b.2).bind fun c => (getNum c.2).bind fun d => some (⟨a.1, b.1, c.1, d.1⟩, d.2)
def getProc (l : By) : Option (ProcD × By) := (getText l).bind fun a => (getBool a.2).bind fun b => (getL getNum b.2).bind fun c => (getNum c.2).bind fun d => (getBool d.2).bind fun e => (getNum e.2).bind fun f => some (⟨a.1, b.1, c.1, d.1, e.1, f.1⟩, f.2)
def getFace (l : By) : Option (FaceD × By) := (getText l).bind fun a => (getL getVar a.2).bind fun b => (getL getProc b.2).bind fun c => some (⟨a.1, b.1, c.1⟩, c.2)
def getIns (l : By) : Option (Ins × By) := (getNum l).bind fun a => (getNum a.2).bind fun b => (getNum b.2).bind fun c => (getNum c.2).bind fun d => (getNum d.2).bind fun e => some (⟨a.1, b.1, c.1, d.1, e.1⟩, e.2)
def getRel (l : By) : Option (RelD × By) := (getNum l).bind fun a => (getNum a.2).bind fun b => (getText b.2).bind fun c => (getText c.2).bind fun d => some (⟨a.1, b.1, c.1, d.1⟩, d.2)
def getPlc (l : By) : Option (PlcD × By) := (getText l).bind fun a => (getNum a.2).bind fun b => some (⟨a.1, b.1⟩, b.2)
def getO (l : By) : Option (ObjD × By) := (getFace l).bind fun a => (getL getFace a.2).bind fun b => (getL getIns b.2).bind fun c => (getL getRel c.2).bind fun d => (getL getPlc d.2).bind fun e => (getL getPlc e.2).bind fun f => (getL getPlc f.2).bind fun g =>
  (getNum g.2).bind fun h => (getNum h.2).bind fun i => (getNum i.2).bind fun j => (getNum j.2).bind fun k => some (⟨a.1, b.1, c.1, d.1, e.1, f.1, g.1, h.1, i.1, j.1, k.1⟩, k.2)
/-- what all bytes are -/
def getAll (l : By) : Option ObjD := (getO l).bind fun x => if x.2 = [] ∧ mayO x.1 = true then some x.1 else none
end Go.Proofs.YtaiocbbcjdpjgaaGreatDoor.obj
namespace Go.Proofs.YtaiocbbcjdpjgaaGreatDoor.obj
open Go.RowKit
open Go.Proofs.YtaiocbbcjdpjgaaGreatDoor.mac (Ins)
open Go.Proofs.YtaiocbbcjdpjgaaGreatDoor.face (VarD ProcD FaceD VarsIn ProcsIn IntsIn FaceIn varV procV keep)
set_option linter.unusedVariables false
def faceV (f : FaceD) (vv pv : Value) : Value := .agg #[.string f.module, vv, pv]
def insV (i : Ins) : Value := .agg #[.int .i64 i.op, .int .i64 i.a, .int .i64 i.b, .int .i64 i.c, .int .i64 i.n]
def relV (x : RelD) : Value := .agg #[.int .i64 x.at', .int .i64 x.kind, .string x.module, .string x.name]
def plcV (x : PlcD) : Value := .agg #[.string x.name, .int .i64 x.at']
def FacesIn (w : World) (v : Value) (l : List FaceD) : Prop := ∃ a c, v = .slice a l.length c ∧ l.length ≤ 8796093022208 ∧
  (l ≠ [] → ∃ g o, a = some ⟨g, o, none⟩ ∧ ∀ i (h : i < l.length), w.cell? ⟨g, o + i * 3, none⟩ = some (.string l[i].module) ∧
    (∃ vv, w.cell? ⟨g, o + i * 3 + 1, none⟩ = some vv ∧ VarsIn w vv l[i].vars) ∧ (∃ pv, w.cell? ⟨g, o + i * 3 + 2, none⟩ = some pv ∧ ProcsIn w pv l[i].procs))
def CodeIn (w : World) (v : Value) (l : List Ins) : Prop := ∃ a c, v = .slice a l.length c ∧ l.length ≤ 8796093022208 ∧
  (l ≠ [] → ∃ g o, a = some ⟨g, o, none⟩ ∧ ∀ i (h : i < l.length), w.cell? ⟨g, o + i * 5, none⟩ = some (.int .i64 l[i].op) ∧ w.cell? ⟨g, o + i * 5 + 1, none⟩ = some (.int .i64 l[i].a) ∧
    w.cell? ⟨g, o + i * 5 + 2, none⟩ = some (.int .i64 l[i].b) ∧ w.cell? ⟨g, o + i * 5 + 3, none⟩ = some (.int .i64 l[i].c) ∧ w.cell? ⟨g, o + i * 5 + 4, none⟩ = some (.int .i64 l[i].n))
def RelsIn (w : World) (v : Value) (l : List RelD) : Prop := ∃ a c, v = .slice a l.length c ∧ l.length ≤ 8796093022208 ∧
  (l ≠ [] → ∃ g o, a = some ⟨g, o, none⟩ ∧ ∀ i (h : i < l.length), w.cell? ⟨g, o + i * 4, none⟩ = some (.int .i64 l[i].at') ∧ w.cell? ⟨g, o + i * 4 + 1, none⟩ = some (.int .i64 l[i].kind) ∧
    w.cell? ⟨g, o + i * 4 + 2, none⟩ = some (.string l[i].module) ∧ w.cell? ⟨g, o + i * 4 + 3, none⟩ = some (.string l[i].name))
def PlcsIn (w : World) (v : Value) (l : List PlcD) : Prop := ∃ a c, v = .slice a l.length c ∧ l.length ≤ 8796093022208 ∧
  (l ≠ [] → ∃ g o, a = some ⟨g, o, none⟩ ∧ ∀ i (h : i < l.length), w.cell? ⟨g, o + i * 2, none⟩ = some (.string l[i].name) ∧ w.cell? ⟨g, o + i * 2 + 1, none⟩ = some (.int .i64 l[i].at'))
/-- where the parts of an object lie -/
structure Vals where
  vv : Value
  pv : Value
  iv : Value
  cv : Value
  rv : Value
  p1 : Value
  p2 : Value
  p3 : Value
def objV (o : ObjD) (x : Vals) : Value := .agg #[.string o.face.module, x.vv, x.pv, x.iv, x.cv, x.rv, x.p1, x.p2, x.p3, .int .i64 o.low, .int .i64 o.high, .int .i64 o.lowF, .int .i64 o.highF]
structure ObjAt (w : World) (x : Vals) (o : ObjD) : Prop where
  vars : VarsIn w x.vv o.face.vars
  procs : ProcsIn w x.pv o.face.procs
  imps : FacesIn w x.iv o.imports
  code : CodeIn w x.cv o.code
  rels : RelsIn w x.rv o.relocs
  q1 : PlcsIn w x.p1 o.procs
  q2 : PlcsIn w x.p2 o.lows
  q3 : PlcsIn w x.p3 o.highs
def ObjIn (w : World) (v : Value) (o : ObjD) : Prop := ∃ x, v = objV o x ∧ ObjAt w x o
section
variable {w w' : World} {v : Value}
theorem FacesIn.below {l : List FaceD} (h : FacesIn w v l) (hb : Below w.heap.size w w') : FacesIn w' v l := by
  obtain ⟨a, c, e, hl, hk⟩ := h
  refine ⟨a, c, e, hl, fun hne => ?_⟩
  obtain ⟨g, o, e2, hc⟩ := hk hne
  refine ⟨g, o, e2, fun i hi => ?_⟩
  obtain ⟨h0, ⟨x, h1, h2⟩, ⟨y, h3, h4⟩⟩ := hc i hi
  exact ⟨keep h0 hb, ⟨x, keep h1 hb, h2.below hb⟩, ⟨y, keep h3 hb, h4.below hb⟩⟩
theorem CodeIn.below {l : List Ins} (h : CodeIn w v l) (hb : Below w.heap.size w w') : CodeIn w' v l := by
  obtain ⟨a, c, e, hl, hk⟩ := h
  refine ⟨a, c, e, hl, fun hne => ?_⟩
  obtain ⟨g, o, e2, hc⟩ := hk hne
  exact ⟨g, o, e2, fun i hi => ⟨keep (hc i hi).1 hb, keep (hc i hi).2.1 hb, keep (hc i hi).2.2.1 hb, keep (hc i hi).2.2.2.1 hb, keep (hc i hi).2.2.2.2 hb⟩⟩
theorem RelsIn.below {l : List RelD} (h : RelsIn w v l) (hb : Below w.heap.size w w') : RelsIn w' v l := by
  obtain ⟨a, c, e, hl, hk⟩ := h
  refine ⟨a, c, e, hl, fun hne => ?_⟩
  obtain ⟨g, o, e2, hc⟩ := hk hne
  exact ⟨g, o, e2, fun i hi => ⟨keep (hc i hi).1 hb, keep (hc i hi).2.1 hb, keep (hc i hi).2.2.1 hb, keep (hc i hi).2.2.2 hb⟩⟩
theorem PlcsIn.below {l : List PlcD} (h : PlcsIn w v l) (hb : Below w.heap.size w w') : PlcsIn w' v l := by
  obtain ⟨a, c, e, hl, hk⟩ := h
  refine ⟨a, c, e, hl, fun hne => ?_⟩
  obtain ⟨g, o, e2, hc⟩ := hk hne
  exact ⟨g, o, e2, fun i hi => ⟨keep (hc i hi).1 hb, keep (hc i hi).2 hb⟩⟩
theorem ObjAt.below {x : Vals} {o : ObjD} (h : ObjAt w x o) (hb : Below w.heap.size w w') : ObjAt w' x o :=
  ⟨h.vars.below hb, h.procs.below hb, h.imps.below hb, h.code.below hb, h.rels.below hb, h.q1.below hb, h.q2.below hb, h.q3.below hb⟩
theorem ObjIn.below {o : ObjD} (h : ObjIn w v o) (hb : Below w.heap.size w w') : ObjIn w' v o := by
  obtain ⟨x, e, h⟩ := h
  exact ⟨x, e, h.below hb⟩
end
end Go.Proofs.YtaiocbbcjdpjgaaGreatDoor.obj
