/- What the program's isLabel and mayVar answer, and slices.Equal of numbers: contracts. -/
import Derived.Test.YtkcgpcigieepoaaDoorProg
import Derived.WalkKit
import Derived.WalkLawsBesides
import Derived.Outline
import Derived.WalkSmall
import Derived.BigQuiet
import Derived.Deep.QuietTactic
import Derived.Deep.RegionWith
import Derived.Test.YtkcgpcigieepoaaDoorFaceName
import Derived.Test.YtkcgpcigieepoaaDoorFaceSpec
namespace Go.Proofs.YtkcgpcigieepoaaDoor.face
open Go.RowKit
open Go.Proofs.YtkcgpcigieepoaaDoor.lexs (HasErr)
open Go.Proofs.YtkcgpcigieepoaaDoor.syn (isName eqS)
set_option linter.unusedVariables false
set_option linter.unusedSimpArgs false
set_option maxRecDepth 100000

theorem oLabel (n : Int) (w : World) : Calls Tryd.prog 45 #[.int .i64 n] w fun e w' => e = .returned (.bool (labelB n)) ∧ w' = w := by
  unfold labelB
  cases h0 : (n == 0)
  · cases h1 : (n == 1)
    all_goals
      go_enter Tryd.func45, Tryd.ntmps45
      go_wp2
      go_ret
      exact ⟨rfl, rfl⟩
  · go_enter Tryd.func45, Tryd.ntmps45
    go_wp2
    go_ret
    exact ⟨rfl, rfl⟩
theorem HasErr.below {w w' : World} (h : HasErr w) (hb : Below w.heap.size w w') : HasErr w' := by
  obtain ⟨v, hc, hv⟩ := h
  exact ⟨v, keep hc hb, hv⟩
theorem box_cell {w w2 : World} {cs : Array Value} {T : TypeId} (hb : Below (w.alloc (.cells cs T)).heap.size (w.alloc (.cells cs T)) w2) (k : Nat) : w2.cell? ⟨w.heap.size, k, none⟩ = cs[k]? := by
  rw [hb.cell (p := ⟨w.heap.size, k, none⟩) (by simp)]
  simp
set_option maxHeartbeats 1000000 in
theorem oMayVar (v : VarD) (w : World) (hw : HasErr w) :
    Calls Tryd.prog 39 #[varV v] w fun e w' => e = .returned (.bool (mayVarB v)) ∧ Below w.heap.size w w' := by
  have c4 : Tryd.prog.cellsOf 68 = 4 := cell4
  obtain ⟨x, p, l, z⟩ := v
  unfold varV
  have hB := (Below.refl w.heap.size w).alloc (Nat.le_refl _) (.cells #[.string x, .bool p, .int .i64 l, .int .i64 z] 68)
  have hN := oName x _ (HasErr.below hw hB)
  obtain ⟨V, hV⟩ : ∃ V, V = mayVarB ⟨x, p, l, z⟩ := ⟨_, rfl⟩
  rw [← hV]
  have HV : Hid (V = (isName x && (p && (labelB l && (decide (0 ≤ z) && decide (z ≤ 64)))))) := hV
  clear hV
  cases hn : isName x
  case false =>
    have HF : Hid (V = false) := by show _ = _; rw [HV.out, hn]; rfl
    go_enter Tryd.func39, Tryd.ntmps39
    go_wp2_with (go_at_call 31; refine hN.mono ?_; rw [hn]; rintro e w2 ⟨rfl, hb2⟩)
    go_ret
    exact ⟨ret_b HF.out.symm, hB.trans (hb2.mono (by simp))⟩
  cases hp : p
  case false =>
    subst hp
    have HF : Hid (V = false) := by show _ = _; rw [HV.out, hn]; rfl
    go_enter Tryd.func39, Tryd.ntmps39
    go_wp2_with (go_at_call 31; refine hN.mono ?_; rw [hn]; rintro e w2 ⟨rfl, hb2⟩; have q1 : w2.cell? ⟨w.heap.size, 1, none⟩ = some (.bool false) := box_cell hb2 1)
    go_ret
    exact ⟨ret_b HF.out.symm, hB.trans (hb2.mono (by simp))⟩
  subst hp
  cases hl : labelB l
  case false =>
    have HF : Hid (V = false) := by show _ = _; rw [HV.out, hn, hl]; rfl
    go_enter Tryd.func39, Tryd.ntmps39
    go_wp2_with first
      | (go_at_call 31; refine hN.mono ?_; rw [hn]; rintro e w2 ⟨rfl, hb2⟩; have q1 : w2.cell? ⟨w.heap.size, 1, none⟩ = some (.bool true) := box_cell hb2 1; have q2 : w2.cell? ⟨w.heap.size, 2, none⟩ = some (.int .i64 l) := box_cell hb2 2)
      | (go_at_call 45; refine (oLabel _ _).mono ?_; rw [hl]; rintro e w3 ⟨rfl, hw3⟩; obtain rfl := hw3.symm)
    go_ret
    exact ⟨ret_b HF.out.symm, hB.trans (hb2.mono (by simp))⟩
  by_cases h0 : 0 ≤ z
  · by_cases h64 : z ≤ 64
    all_goals
      have HF : Hid (V = decide (z ≤ 64)) := by show _ = _; rw [HV.out, hn, hl, decide_eq_true h0]; rfl
      go_enter Tryd.func39, Tryd.ntmps39
      go_wp2_with first
        | (go_at_call 31; refine hN.mono ?_; rw [hn]; rintro e w2 ⟨rfl, hb2⟩; have q1 : w2.cell? ⟨w.heap.size, 1, none⟩ = some (.bool true) := box_cell hb2 1; have q2 : w2.cell? ⟨w.heap.size, 2, none⟩ = some (.int .i64 l) := box_cell hb2 2; have q3 : w2.cell? ⟨w.heap.size, 3, none⟩ = some (.int .i64 z) := box_cell hb2 3)
        | (go_at_call 45; refine (oLabel _ _).mono ?_; rw [hl]; rintro e w3 ⟨rfl, hw3⟩; obtain rfl := hw3.symm)
      go_ret
      exact ⟨ret_b (by rw [HF.out] <;> simp [h64]), hB.trans (hb2.mono (by simp))⟩
  · have HF : Hid (V = false) := by show _ = _; rw [HV.out, hn, hl, decide_eq_false h0]; rfl
    go_enter Tryd.func39, Tryd.ntmps39
    go_wp2_with first
      | (go_at_call 31; refine hN.mono ?_; rw [hn]; rintro e w2 ⟨rfl, hb2⟩; have q1 : w2.cell? ⟨w.heap.size, 1, none⟩ = some (.bool true) := box_cell hb2 1; have q2 : w2.cell? ⟨w.heap.size, 2, none⟩ = some (.int .i64 l) := box_cell hb2 2; have q3 : w2.cell? ⟨w.heap.size, 3, none⟩ = some (.int .i64 z) := box_cell hb2 3)
      | (go_at_call 45; refine (oLabel _ _).mono ?_; rw [hl]; rintro e w3 ⟨rfl, hw3⟩; obtain rfl := hw3.symm)
    go_ret
    exact ⟨ret_b HF.out.symm, hB.trans (hb2.mono (by simp))⟩
/-! slices.Equal of numbers -/
end Go.Proofs.YtkcgpcigieepoaaDoor.face
