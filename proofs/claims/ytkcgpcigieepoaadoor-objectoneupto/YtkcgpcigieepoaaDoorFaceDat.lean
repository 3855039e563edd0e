/- Faces, as plain data. No Go in sight. -/
import Derived.Test.YtkcgpcigieepoaaDoorSynSpec
namespace Go.Proofs.YtkcgpcigieepoaaDoor.face
set_option linter.unusedVariables false

structure VarD where
  name : ByteArray
  pub : Bool
  label : Int
  size : Int
structure ProcD where
  name : ByteArray
  pub : Bool
  params : List Int
  writes : Int
  gives : Bool
  given : Int
structure FaceD where
  module : ByteArray
  vars : List VarD
  procs : List ProcD
instance : Inhabited VarD := ⟨⟨default, default, default, default⟩⟩
instance : Inhabited ProcD := ⟨⟨default, default, default, default, default, default⟩⟩

end Go.Proofs.YtkcgpcigieepoaaDoor.face
