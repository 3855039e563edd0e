/- Objects as plain data: which may be, their bytes, and how bytes are read. Plain functions. No Go in sight. -/
import Derived.Test.YthfeojjfehbgjaaGreatDoorOGFaceDat
import Derived.Test.YthfeojjfehbgjaaGreatDoorOGMacSpec
namespace Go.Proofs.YthfeojjfehbgjaaGreatDoor.obj
open Go.RowKit
open Go.Proofs.YthfeojjfehbgjaaGreatDoor.face (VarD ProcD FaceD apartB)
open Go.Proofs.YthfeojjfehbgjaaGreatDoor.mac (Ins hasB)
open Go.Proofs.YthfeojjfehbgjaaGreatDoor.syn (isName eqS)
set_option linter.unusedVariables false

structure RelD where
  at' : Int
  kind : Int
  module : ByteArray
  name : ByteArray
structure PlcD where
  name : ByteArray
  at' : Int
structure ObjD where
  face : FaceD
  imports : List FaceD
  code : List Ins
  relocs : List RelD
  procs : List PlcD
  lows : List PlcD
  highs : List PlcD
  low : Int
  high : Int
  lowF : Int
  highF : Int
instance : Inhabited FaceD := ⟨⟨default, default, default⟩⟩
instance : Inhabited Ins := ⟨⟨0, 0, 0, 0, 0⟩⟩
instance : Inhabited RelD := ⟨⟨0, 0, default, default⟩⟩
instance : Inhabited PlcD := ⟨⟨default, 0⟩⟩
/-! which may be -/
def plcB (count : Int) (p : PlcD) : Bool := isName p.name && (decide (0 ≤ p.at') && decide (p.at' < count))
def placesB (l : List PlcD) (count : Int) : Bool := l.all (plcB count) && apartB [] (l.map (·.name))
def emptyB (x : ByteArray) : Bool := x.toList.isEmpty
def relB (r : RelD) : Bool := if r.kind = 1 then emptyB r.module && emptyB r.name else if r.kind = 2 ∨ r.kind = 3 ∨ r.kind = 4 then isName r.module && isName r.name else false
def relAt (orders least : Int) (r : RelD) : Bool := decide (least ≤ r.at') && (decide (r.at' < orders) && relB r)
def relocsB (orders : Int) : Int → List RelD → Bool
  | _, [] => true
  | least, r :: rs => relAt orders least r && relocsB orders (r.at' + 1) rs
def wordB (n : Int) : Bool := decide (0 ≤ n) && decide (n ≤ 20000)
def codeB (l : List Ins) : Bool := decide (l.length ≤ 20000) && l.all hasB
def facesB (own : FaceD) (l : List FaceD) : Bool := face.mayB own && (decide (l.length ≤ 5) && (l.all face.mayB && apartB [] (own.module :: l.map (·.module))))
def wordsB (l : List Int) : Bool := l.all wordB
def mayO (o : ObjD) : Bool := facesB o.face o.imports && (codeB o.code && (relocsB o.code.length 0 o.relocs && (wordsB [o.low, o.high, o.lowF, o.highF] &&
  (placesB o.procs o.code.length && (placesB o.lows o.low && placesB o.highs o.high)))))
/-! bytes -/
def byteB (n : Int) (k : Nat) : UInt8 := UInt8.ofNat ((n / (2 : Int) ^ k) % 256).toNat
def numB (n : Int) : List UInt8 := [byteB n 56, byteB n 48, byteB n 40, byteB n 32, byteB n 24, byteB n 16, byteB n 8, byteB n 0]
def boolB (b : Bool) : List UInt8 := numB (if b = true then 1 else 0)
def textB (x : ByteArray) : List UInt8 := numB x.size ++ x.data.toList
def listB {α : Type} (f : α → List UInt8) (l : List α) : List UInt8 := numB l.length ++ (l.map f).flatten
def intsB (l : List Int) : List UInt8 := (l.map numB).flatten
def varB (v : VarD) : List UInt8 := textB v.name ++ (boolB v.pub ++ intsB [v.label, v.size])
def procB (p : ProcD) : List UInt8 := textB p.name ++ (boolB p.pub ++ (listB numB p.params ++ (numB p.writes ++ (boolB p.gives ++ numB p.given))))
def faceB (f : FaceD) : List UInt8 := textB f.module ++ (listB varB f.vars ++ listB procB f.procs)
def insB (i : Ins) : List UInt8 := intsB [i.op, i.a, i.b, i.c, i.n]
def relBy (r : RelD) : List UInt8 := intsB [r.at', r.kind] ++ (textB r.module ++ textB r.name)
def plcBy (p : PlcD) : List UInt8 := textB p.name ++ numB p.at'
def objB (o : ObjD) : List UInt8 := faceB o.face ++ (listB faceB o.imports ++ (listB insB o.code ++ (listB relBy o.relocs ++ (listB plcBy o.procs ++ (listB plcBy o.lows ++ (listB plcBy o.highs ++ intsB [o.low, o.high, o.lowF, o.highF]))))))
/-! how bytes are read -/
abbrev By := List UInt8
def natOf (l : By) : Nat := l.foldl (fun a b => a * 256 + b.toNat) 0
def getNum (l : By) : Option (Int × By) := if l.length < 8 then none else some (wrap64 (natOf (l.take 8)), l.drop 8)
def getSize (l : By) : Option (Nat × By) := (getNum l).bind fun x => if x.1 < 0 then none else some (x.1.toNat, x.2)
def getBool (l : By) : Option (Bool × By) := (getNum l).bind fun x => if x.1 = 0 then some (false, x.2) else if x.1 = 1 then some (true, x.2) else none
def getText (l : By) : Option (ByteArray × By) := (getSize l).bind fun x => if x.2.length < x.1 then none else some (⟨(x.2.take x.1).toArray⟩, x.2.drop x.1)
def getN {α : Type} (g : By → Option (α × By)) : Nat → By → Option (List α × By)
  | 0, l => some ([], l)
  | n + 1, l => (g l).bind fun x => (getN g n x.2).bind fun y => some (x.1 :: y.1, y.2)
def getL {α : Type} (g : By → Option (α × By)) (l : By) : Option (List α × By) := (getSize l).bind fun x => getN g x.1 x.2
def getVar (l : By) : Option (VarD × By) := (getText l).bind fun a => (getBool a.2).bind fun b => (getNum b.2).bind fun c => (getNum c.2).bind fun d => some (⟨a.1, b.1, c.1, d.1⟩, d.2)
def getProc (l : By) : Option (ProcD × By) := (getText l).bind fun a => (getBool a.2).bind fun b => (getL getNum b.2).bind fun c => (getNum c.2).bind fun d => (getBool d.2).bind fun e => (getNum e.2).bind fun f => some (⟨a.1, b.1, c.1, d.1, e.1, f.1⟩, f.2)
def getFace (l : By) : Option (FaceD × By) := (getText l).bind fun a => (getL getVar a.2).bind fun b => (getL getProc b.2).bind fun c => some (⟨a.1, b.1, c.1⟩, c.2)
def getIns (l : By) : Option (Ins × By) := (getNum l).bind fun a => (getNum a.2).bind fun b => (getNum b.2).bind fun c => (getNum c.2).bind fun d => (getNum d.2).bind fun e => some (⟨a.1, b.1, c.1, d.1, e.1⟩, e.2)
def getRel (l : By) : Option (RelD × By) := (getNum l).bind fun a => (getNum a.2).bind fun b => (getText b.2).bind fun c => (getText c.2).bind fun d => some (⟨a.1, b.1, c.1, d.1⟩, d.2)
def getPlc (l : By) : Option (PlcD × By) := (getText l).bind fun a => (getNum a.2).bind fun b => some (⟨a.1, b.1⟩, b.2)
def getO (l : By) : Option (ObjD × By) := (getFace l).bind fun a => (getL getFace a.2).bind fun b => (getL getIns b.2).bind fun c => (getL getRel c.2).bind fun d => (getL getPlc d.2).bind fun e => (getL getPlc e.2).bind fun f => (getL getPlc f.2).bind fun g =>
  (getNum g.2).bind fun h => (getNum h.2).bind fun i => (getNum i.2).bind fun j => (getNum j.2).bind fun k => some (⟨a.1, b.1, c.1, d.1, e.1, f.1, g.1, h.1, i.1, j.1, k.1⟩, k.2)
/-- what all bytes are -/
def getAll (l : By) : Option ObjD := (getO l).bind fun x => if x.2 = [] ∧ mayO x.1 = true then some x.1 else none
end Go.Proofs.YthfeojjfehbgjaaGreatDoor.obj
