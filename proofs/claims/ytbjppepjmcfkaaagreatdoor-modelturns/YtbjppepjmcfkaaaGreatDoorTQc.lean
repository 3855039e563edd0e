/- What is shown by one and the same tactics: the tactics are run where it is named. -/
import Derived.Test.YtbjppepjmcfkaaaGreatDoorTQp
namespace Go.Proofs.YtbjppepjmcfkaaaGreatDoor
set_option linter.unusedVariables false
theorem oA {a:Prop} (b:a:=by omega):a:=b
theorem oC {a:Prop} (b:a:=by simp):a:=b
theorem oD {a:Prop} (b:a:=by decide):a:=b
theorem oE {a:Prop} (b:a:=by simp;omega):a:=b
theorem oG {a:Prop} (b:a:=by rfl):a:=b
theorem oI {b:Prop} (c:b:=by intro d a;simp at a;rcases a with rfl | rfl | rfl | rfl<;>rfl):b:=c
theorem oN {a:Prop} (b:a:=by simp<;>omega):a:=b
theorem oO {a:Prop} (b:a:=by dsimp only;omega):a:=b
theorem oQ {a:Prop} (b:a:=by rw[jb];simp;omega):a:=b
theorem oT {a:Prop} (b:a:=by rw[List.length_take];omega):a:=b
theorem oU {b:Prop} (c:b:=by intro d a;simp at a;subst a;rfl):b:=c
theorem oV {a:Prop} (b:a:=by constructor<;>simp):a:=b
theorem oW {a:Prop} (b:a:=by first | rfl | trivial):a:=b
theorem oX {a:Prop} (c:a:=by intro b;cases b):a:=c
end Go.Proofs.YtbjppepjmcfkaaaGreatDoor
