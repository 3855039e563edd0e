/- What is shown by one and the same tactics: the tactics are run where it is named. -/
import Derived.Test.YtjkcecppnmlhjaaGreatDoorNQp
namespace Go.Proofs.YtjkcecppnmlhjaaGreatDoor
set_option linter.unusedVariables false
theorem oA {a:Prop} (b:a:=by omega):a:=b
theorem oB {a:Prop} (b:a:=by simp):a:=b
theorem oC {a:Prop} (b:a:=by decide):a:=b
theorem oE {a:Prop} (b:a:=by simp;omega):a:=b
theorem oF {b:Prop} (c:b:=by intro d a;simp at a;rcases a with rfl | rfl | rfl | rfl<;>rfl):b:=c
theorem oH {a:Prop} (b:a:=by simp<;>omega):a:=b
theorem oI {a:Prop} (b:a:=by rfl):a:=b
theorem oL {a:Prop} (b:a:=by rw[jb];simp;omega):a:=b
theorem oP {a:Prop} (b:a:=by dsimp only;omega):a:=b
theorem oQ {a:Prop} (b:a:=by rw[List.length_take];omega):a:=b
theorem oR {b:Prop} (c:b:=by intro d a;simp at a;rcases a with rfl | rfl | rfl | rfl | rfl | rfl<;>rfl):b:=c
theorem oS {b:Prop} (c:b:=by intro d a;simp at a;rcases a with rfl | rfl | rfl<;>rfl):b:=c
theorem oU {a:Prop} (b:a:=by rw[IntKind.wrap_i64];omega):a:=b
theorem oV {a:Prop} (b:a:=by constructor<;>simp):a:=b
theorem oW {a:Prop} (b:a:=by first | rfl | trivial):a:=b
theorem oZ {b:Prop} (c:b:=by intro d a;simp at a;rw[a];rfl):b:=c
end Go.Proofs.YtjkcecppnmlhjaaGreatDoor
