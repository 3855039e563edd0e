/- What the walk shows by one and the same tactics. -/
import Derived.Test.YtbjppepjmcfkaaaGreatDoorTQq
namespace Go.Proofs.YtbjppepjmcfkaaaGreatDoor
set_option linter.unusedVariables false
theorem oB {a:Prop} (b:a:=by kernel_rfl):a:=b
theorem oF {a:Prop} (b:a:=by skip;go_simp):a:=b
theorem oJ {a:Prop} (b:a:=by simp[Act.eval,Act.put]):a:=b
theorem oK {a:Prop} (b:a:=by rw[jP];omega):a:=b
theorem oM {a:Prop} (b:a:=by go_num):a:=b
theorem oP {a:Prop} (b:a:=by simp[Value.ownBlock]):a:=b
theorem oR {a:Prop} (b:a:=by simp[go_sem]):a:=b
theorem oS {a:Prop} (b:a:=by simp[Value.ownBlock];omega):a:=b
theorem oY {a:Prop} (b:a:=by rw[jR];omega):a:=b
end Go.Proofs.YtbjppepjmcfkaaaGreatDoor
