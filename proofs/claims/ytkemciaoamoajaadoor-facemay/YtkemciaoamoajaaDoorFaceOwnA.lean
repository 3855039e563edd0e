/- What the program's isLabel and mayVar answer, and slices.Equal of numbers: contracts. -/
import Derived.Test.YtkemciaoamoajaaDoorProg
import Derived.WalkKit
import Derived.WalkLawsBesides
import Derived.Outline
import Derived.WalkSmall
import Derived.BigQuiet
import Derived.Deep.QuietTactic
import Derived.Deep.RegionWith
import Derived.Test.YtkemciaoamoajaaDoorFaceName
import Derived.Test.YtkemciaoamoajaaDoorFaceSpec
namespace Go.Proofs.YtkemciaoamoajaaDoor.face
open Go.RowKit
open Go.Proofs.YtkemciaoamoajaaDoor.lexs (HasErr)
open Go.Proofs.YtkemciaoamoajaaDoor.syn (isName eqS)
set_option linter.unusedVariables false
set_option linter.unusedSimpArgs false
set_option maxRecDepth 100000

theorem oLabel (n : Int) (w : World) : Calls Tryd.prog 42 #[.int .i64 n] w fun e w' => e = .returned (.bool (labelB n)) ∧ w' = w := by
  unfold labelB
  cases h0 : (n == 0)
  · cases h1 : (n == 1)
    all_goals
      go_enter Tryd.func42, Tryd.ntmps42
      go_wp2
      go_ret
      exact ⟨rfl, rfl⟩
  · go_enter Tryd.func42, Tryd.ntmps42
    go_wp2
    go_ret
    exact ⟨rfl, rfl⟩
theorem HasErr.below {w w' : World} (h : HasErr w) (hb : Below w.heap.size w w') : HasErr w' := by
  obtain ⟨v, hc, hv⟩ := h
  exact ⟨v, keep hc hb, hv⟩
theorem box_cell {w w2 : World} {cs : Array Value} {T : TypeId} (hb : Below (w.alloc (.cells cs T)).heap.size (w.alloc (.cells cs T)) w2) (k : Nat) : w2.cell? ⟨w.heap.size, k, none⟩ = cs[k]? := by
  rw [hb.cell (p := ⟨w.heap.size, k, none⟩) (by simp)]
  simp
set_option maxHeartbeats 1000000 in
theorem oMayVar (v : VarD) (w : World) (hw : HasErr w) :
    Calls Tryd.prog 23 #[varV v] w fun e w' => e = .returned (.bool (mayVarB v)) ∧ Below w.heap.size w w' := by
  have c4 : Tryd.prog.cellsOf 49 = 4 := cell4
  obtain ⟨x, p, l, z⟩ := v
  unfold varV
  have hB := (Below.refl w.heap.size w).alloc (Nat.le_refl _) (.cells #[.string x, .bool p, .int .i64 l, .int .i64 z] 49)
  have hN := oName x _ (HasErr.below hw hB)
  obtain ⟨V, hV⟩ : ∃ V, V = mayVarB ⟨x, p, l, z⟩ := ⟨_, rfl⟩
  rw [← hV]
  have HV : Hid (V = (isName x && (p && (labelB l && (decide (0 ≤ z) && decide (z ≤ 64)))))) := hV
  clear hV
  cases hn : isName x
  case false =>
    have HF : Hid (V = false) := by show _ = _; rw [HV.out, hn]; rfl
    go_enter Tryd.func23, Tryd.ntmps23
    go_wp2_with (go_at_call 22; refine hN.mono ?_; rw [hn]; rintro e w2 ⟨rfl, hb2⟩)
    go_ret
    exact ⟨ret_b HF.out.symm, hB.trans (hb2.mono (by simp))⟩
  cases hp : p
  case false =>
    subst hp
    have HF : Hid (V = false) := by show _ = _; rw [HV.out, hn]; rfl
    go_enter Tryd.func23, Tryd.ntmps23
    go_wp2_with (go_at_call 22; refine hN.mono ?_; rw [hn]; rintro e w2 ⟨rfl, hb2⟩; have q1 : w2.cell? ⟨w.heap.size, 1, none⟩ = some (.bool false) := box_cell hb2 1)
    go_ret
    exact ⟨ret_b HF.out.symm, hB.trans (hb2.mono (by simp))⟩
  subst hp
  cases hl : labelB l
  case false =>
    have HF : Hid (V = false) := by show _ = _; rw [HV.out, hn, hl]; rfl
    go_enter Tryd.func23, Tryd.ntmps23
    go_wp2_with first
      | (go_at_call 22; refine hN.mono ?_; rw [hn]; rintro e w2 ⟨rfl, hb2⟩; have q1 : w2.cell? ⟨w.heap.size, 1, none⟩ = some (.bool true) := box_cell hb2 1; have q2 : w2.cell? ⟨w.heap.size, 2, none⟩ = some (.int .i64 l) := box_cell hb2 2)
      | (go_at_call 42; refine (oLabel _ _).mono ?_; rw [hl]; rintro e w3 ⟨rfl, hw3⟩; obtain rfl := hw3.symm)
    go_ret
    exact ⟨ret_b HF.out.symm, hB.trans (hb2.mono (by simp))⟩
  by_cases h0 : 0 ≤ z
  · by_cases h64 : z ≤ 64
    all_goals
      have HF : Hid (V = decide (z ≤ 64)) := by show _ = _; rw [HV.out, hn, hl, decide_eq_true h0]; rfl
      go_enter Tryd.func23, Tryd.ntmps23
      go_wp2_with first
        | (go_at_call 22; refine hN.mono ?_; rw [hn]; rintro e w2 ⟨rfl, hb2⟩; have q1 : w2.cell? ⟨w.heap.size, 1, none⟩ = some (.bool true) := box_cell hb2 1; have q2 : w2.cell? ⟨w.heap.size, 2, none⟩ = some (.int .i64 l) := box_cell hb2 2; have q3 : w2.cell? ⟨w.heap.size, 3, none⟩ = some (.int .i64 z) := box_cell hb2 3)
        | (go_at_call 42; refine (oLabel _ _).mono ?_; rw [hl]; rintro e w3 ⟨rfl, hw3⟩; obtain rfl := hw3.symm)
      go_ret
      exact ⟨ret_b (by rw [HF.out] <;> simp [h64]), hB.trans (hb2.mono (by simp))⟩
  · have HF : Hid (V = false) := by show _ = _; rw [HV.out, hn, hl, decide_eq_false h0]; rfl
    go_enter Tryd.func23, Tryd.ntmps23
    go_wp2_with first
      | (go_at_call 22; refine hN.mono ?_; rw [hn]; rintro e w2 ⟨rfl, hb2⟩; have q1 : w2.cell? ⟨w.heap.size, 1, none⟩ = some (.bool true) := box_cell hb2 1; have q2 : w2.cell? ⟨w.heap.size, 2, none⟩ = some (.int .i64 l) := box_cell hb2 2; have q3 : w2.cell? ⟨w.heap.size, 3, none⟩ = some (.int .i64 z) := box_cell hb2 3)
      | (go_at_call 42; refine (oLabel _ _).mono ?_; rw [hl]; rintro e w3 ⟨rfl, hw3⟩; obtain rfl := hw3.symm)
    go_ret
    exact ⟨ret_b HF.out.symm, hB.trans (hb2.mono (by simp))⟩
/-! slices.Equal of numbers -/
set_option maxHeartbeats 1000000 in
theorem oEqInts (l m : List Int) (u v : Value) (w : World) (hu : IntsIn w u l) (hv : IntsIn w v m) :
    Calls Tryd.prog 43 #[u, v] w fun e w' => e = .returned (.bool (l == m)) ∧ Below w.heap.size w w' := by
  rw [ints_all2]
  obtain ⟨V, hV⟩ : ∃ V, V = all2 (fun a b => a == b) l m := ⟨_, rfl⟩
  rw [← hV]
  have HV : Hid (V = all2 (fun a b => a == b) l m) := hV
  clear hV
  obtain ⟨a, c, rfl, hl, hk⟩ := hu
  obtain ⟨b, d, rfl, hl2, hk2⟩ := hv
  by_cases hlen : l.length = m.length
  case neg =>
    have HF : Hid (V = false) := HV.out.trans (all2_len hlen)
    go_enter Tryd.func43, Tryd.ntmps43
    go_wp2
    go_ret
    exact ⟨ret_b HF.out.symm, Below.refl _ _⟩
  rw [← hlen]
  go_enter Tryd.func43, Tryd.ntmps43
  go_wp2
  go_loopw [13] (fun t wr => ∃ j : Nat, j ≤ l.length ∧ t = .int .i64 j ∧ Below w.heap.size w wr ∧ Hid (∀ i (h : i < l.length) (h2 : i < m.length), i < j → (l[i] == m[i]) = true)) (fun t _ => l.length - (intOf t).toNat)
  case atStart => exact ⟨0, Nat.zero_le _, rfl, Below.refl _ _, fun i _ _ h => by omega⟩
  case round =>
    obtain ⟨j, hj, rfl, hbr, HN⟩ := hrel
    by_cases hlt : j < l.length
    · have hlt2 : j < m.length := by omega
      obtain ⟨g, o, rfl, hc⟩ := hk (by intro e; rw [e] at hlt; simp at hlt)
      obtain ⟨g', o', rfl, hc'⟩ := hk2 (by intro e; rw [e] at hlt2; simp at hlt2)
      have q := keep (hc j hlt) hbr
      have q' := keep (hc' j hlt2) hbr
      cases he : (l[j] == m[j])
      · have HF : Hid (V = false) := HV.out.trans (all2_no j hlt hlt2 he)
        generalize l[j] = y at he q
        generalize m[j] = y' at he q'
        go_wp2
        go_region
        all_goals
          go_wp2
          go_ret
          exact ⟨ret_b HF.out.symm, hbr.drew⟩
      · have HE : Hid ((l[j] == m[j]) = true) := he
        generalize l[j] = y at he q
        generalize m[j] = y' at he q'
        go_wp2
        go_region
        all_goals
          go_wp2
          go_roundw
          case rel => exact ⟨j + 1, by omega, by go_num, hbr.drew, fun i h h2 h1 => by
            rcases Nat.lt_or_ge i j with h3 | h3
            · exact HN.out i h h2 h3
            · have : i = j := by omega
              subst this
              exact HE.out⟩
          case measure => simp [intOf]; omega
    · have HF : Hid (V = true) := HV.out.trans (all2_yes hlen (fun i h h2 => HN.out i h h2 (by omega)))
      go_wp2
      go_ret
      exact ⟨ret_b HF.out.symm, hbr⟩
end Go.Proofs.YtkemciaoamoajaaDoor.face
