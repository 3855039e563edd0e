/- Faces, as plain data. No Go in sight. What chapter 4 says of faces that may be, and of faces that are the same: plain functions. No Go in sight. -/
import Derived.Test.YthfeojjfehbgjaaGreatDoorOGSynSpec
namespace Go.Proofs.YthfeojjfehbgjaaGreatDoor.face
set_option linter.unusedVariables false

structure VarD where
  name : ByteArray
  pub : Bool
  label : Int
  size : Int
structure ProcD where
  name : ByteArray
  pub : Bool
  params : List Int
  writes : Int
  gives : Bool
  given : Int
structure FaceD where
  module : ByteArray
  vars : List VarD
  procs : List ProcD
instance : Inhabited VarD := ⟨⟨default, default, default, default⟩⟩
instance : Inhabited ProcD := ⟨⟨default, default, default, default, default, default⟩⟩

end Go.Proofs.YthfeojjfehbgjaaGreatDoor.face
namespace Go.Proofs.YthfeojjfehbgjaaGreatDoor.face
open Go.Proofs.YthfeojjfehbgjaaGreatDoor.syn (isName eqS)
set_option linter.unusedVariables false

def labelB (n : Int) : Bool := n == 0 || n == 1
def mayVarB (v : VarD) : Bool := isName v.name && (v.pub && (labelB v.label && (decide (0 ≤ v.size) && decide (v.size ≤ 64))))
def mayProcB (p : ProcD) : Bool := isName p.name && (p.pub && (decide (p.params.length ≤ 5) && (p.params.all labelB && (labelB p.writes && (labelB p.given && (p.gives || p.given == 0))))))
/-- is a name among those? -/
def among (l : List ByteArray) (x : ByteArray) : Bool := l.any fun y => eqS y x
/-- are no two alike? -/
def apartB : List ByteArray → List ByteArray → Bool
  | _, [] => true
  | seen, x :: r => !among seen x && apartB (seen ++ [x]) r
def namesOf (f : FaceD) : List ByteArray := f.vars.map (·.name) ++ f.procs.map (·.name)
def mayB (f : FaceD) : Bool := isName f.module && (decide (f.vars.length + f.procs.length ≤ 20) && (f.vars.all mayVarB && (f.procs.all mayProcB && apartB [] (namesOf f))))

def sameVarB (a b : VarD) : Bool := eqS a.name b.name && (a.pub == b.pub && (a.label == b.label && a.size == b.size))
def sameProcB (a b : ProcD) : Bool := eqS a.name b.name && (a.pub == b.pub && (a.params == b.params && (a.writes == b.writes && (a.gives == b.gives && a.given == b.given))))
def all2 {α : Type} (p : α → α → Bool) : List α → List α → Bool
  | [], [] => true
  | x :: r, y :: s => p x y && all2 p r s
  | _, _ => false
def sameB (a b : FaceD) : Bool := eqS a.module b.module && (all2 sameVarB a.vars b.vars && all2 sameProcB a.procs b.procs)

end Go.Proofs.YthfeojjfehbgjaaGreatDoor.face
