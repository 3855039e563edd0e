/- What the walk shows by one and the same tactics. -/
import Derived.Test.YtjkcecppnmlhjaaGreatDoorNQq
namespace Go.Proofs.YtjkcecppnmlhjaaGreatDoor
set_option linter.unusedVariables false
theorem oD {a:Prop} (b:a:=by kernel_rfl):a:=b
theorem oG {a:Prop} (b:a:=by rw[jO];omega):a:=b
theorem oJ {a:Prop} (b:a:=by go_num):a:=b
theorem oK {a:Prop} (b:a:=by simp[Act.eval,Act.put]):a:=b
theorem oM {a:Prop} (b:a:=by skip;go_simp):a:=b
theorem oN {a:Prop} (b:a:=by rw[jQ];omega):a:=b
theorem oO {a:Prop} (b:a:=by simp[Value.ownBlock]):a:=b
theorem oT {a:Prop} (b:a:=by simp[Value.ownBlock];omega):a:=b
theorem oX {a:Prop} (b:a:=by simp only[jQ];omega):a:=b
theorem oY {a:Prop} (b:a:=by simp[go_sem]):a:=b
end Go.Proofs.YtjkcecppnmlhjaaGreatDoor
