/- What the program's isLabel and mayVar answer, and slices.Equal of numbers: contracts. What the program's mayProc and sameProc answer: contracts. -/
import Derived.Test.YthfeojjfehbgjaaGreatDoorProg
import Derived.WalkKit
import Derived.WalkLawsBesides
import Derived.Outline
import Derived.WalkSmall
import Derived.BigQuiet
import Derived.Deep.QuietTactic
import Derived.Deep.RegionWith
import Derived.Test.YthfeojjfehbgjaaGreatDoorOGFaceName
import Derived.Test.YthfeojjfehbgjaaGreatDoorOGFaceMem
namespace Go.Proofs.YthfeojjfehbgjaaGreatDoor.face
open Go.RowKit
open Go.Proofs.YthfeojjfehbgjaaGreatDoor.lexs (HasErr)
open Go.Proofs.YthfeojjfehbgjaaGreatDoor.syn (isName eqS)
set_option linter.unusedVariables false
set_option linter.unusedSimpArgs false
set_option maxRecDepth 100000

theorem oLabel (n : Int) (w : World) : Calls Tryz.prog 89 #[.int .i64 n] w fun e w' => e = .returned (.bool (labelB n)) ∧ w' = w := by
  unfold labelB
  cases h0 : (n == 0)
  · cases h1 : (n == 1)
    all_goals
      go_enter Tryz.func89, Tryz.ntmps89
      go_wp2
      go_ret
      exact ⟨rfl, rfl⟩
  · go_enter Tryz.func89, Tryz.ntmps89
    go_wp2
    go_ret
    exact ⟨rfl, rfl⟩
theorem HasErr.below {w w' : World} (h : HasErr w) (hb : Below w.heap.size w w') : HasErr w' := by
  obtain ⟨v, hc, hv⟩ := h
  exact ⟨v, keep hc hb, hv⟩
theorem box_cell {w w2 : World} {cs : Array Value} {T : TypeId} (hb : Below (w.alloc (.cells cs T)).heap.size (w.alloc (.cells cs T)) w2) (k : Nat) : w2.cell? ⟨w.heap.size, k, none⟩ = cs[k]? := by
  rw [hb.cell (p := ⟨w.heap.size, k, none⟩) (by simp)]
  simp
set_option maxHeartbeats 1000000 in
theorem oMayVar (v : VarD) (w : World) (hw : HasErr w) :
    Calls Tryz.prog 63 #[varV v] w fun e w' => e = .returned (.bool (mayVarB v)) ∧ Below w.heap.size w w' := by
  have c4 : Tryz.prog.cellsOf 100 = 4 := cell4
  obtain ⟨x, p, l, z⟩ := v
  unfold varV
  have hB := (Below.refl w.heap.size w).alloc (Nat.le_refl _) (.cells #[.string x, .bool p, .int .i64 l, .int .i64 z] 100)
  have hN := oName x _ (HasErr.below hw hB)
  obtain ⟨V, hV⟩ : ∃ V, V = mayVarB ⟨x, p, l, z⟩ := ⟨_, rfl⟩
  rw [← hV]
  have HV : Hid (V = (isName x && (p && (labelB l && (decide (0 ≤ z) && decide (z ≤ 64)))))) := hV
  clear hV
  cases hn : isName x
  case false =>
    have HF : Hid (V = false) := by show _ = _; rw [HV.out, hn]; rfl
    go_enter Tryz.func63, Tryz.ntmps63
    go_wp2_with (go_at_call 40; refine hN.mono ?_; rw [hn]; rintro e w2 ⟨rfl, hb2⟩)
    go_ret
    exact ⟨ret_b HF.out.symm, hB.trans (hb2.mono (by simp))⟩
  cases hp : p
  case false =>
    subst hp
    have HF : Hid (V = false) := by show _ = _; rw [HV.out, hn]; rfl
    go_enter Tryz.func63, Tryz.ntmps63
    go_wp2_with (go_at_call 40; refine hN.mono ?_; rw [hn]; rintro e w2 ⟨rfl, hb2⟩; have q1 : w2.cell? ⟨w.heap.size, 1, none⟩ = some (.bool false) := box_cell hb2 1)
    go_ret
    exact ⟨ret_b HF.out.symm, hB.trans (hb2.mono (by simp))⟩
  subst hp
  cases hl : labelB l
  case false =>
    have HF : Hid (V = false) := by show _ = _; rw [HV.out, hn, hl]; rfl
    go_enter Tryz.func63, Tryz.ntmps63
    go_wp2_with first
      | (go_at_call 40; refine hN.mono ?_; rw [hn]; rintro e w2 ⟨rfl, hb2⟩; have q1 : w2.cell? ⟨w.heap.size, 1, none⟩ = some (.bool true) := box_cell hb2 1; have q2 : w2.cell? ⟨w.heap.size, 2, none⟩ = some (.int .i64 l) := box_cell hb2 2)
      | (go_at_call 89; refine (oLabel _ _).mono ?_; rw [hl]; rintro e w3 ⟨rfl, hw3⟩; obtain rfl := hw3.symm)
    go_ret
    exact ⟨ret_b HF.out.symm, hB.trans (hb2.mono (by simp))⟩
  by_cases h0 : 0 ≤ z
  · by_cases h64 : z ≤ 64
    all_goals
      have HF : Hid (V = decide (z ≤ 64)) := by show _ = _; rw [HV.out, hn, hl, decide_eq_true h0]; rfl
      go_enter Tryz.func63, Tryz.ntmps63
      go_wp2_with first
        | (go_at_call 40; refine hN.mono ?_; rw [hn]; rintro e w2 ⟨rfl, hb2⟩; have q1 : w2.cell? ⟨w.heap.size, 1, none⟩ = some (.bool true) := box_cell hb2 1; have q2 : w2.cell? ⟨w.heap.size, 2, none⟩ = some (.int .i64 l) := box_cell hb2 2; have q3 : w2.cell? ⟨w.heap.size, 3, none⟩ = some (.int .i64 z) := box_cell hb2 3)
        | (go_at_call 89; refine (oLabel _ _).mono ?_; rw [hl]; rintro e w3 ⟨rfl, hw3⟩; obtain rfl := hw3.symm)
      go_ret
      exact ⟨ret_b (by rw [HF.out] <;> simp [h64]), hB.trans (hb2.mono (by simp))⟩
  · have HF : Hid (V = false) := by show _ = _; rw [HV.out, hn, hl, decide_eq_false h0]; rfl
    go_enter Tryz.func63, Tryz.ntmps63
    go_wp2_with first
      | (go_at_call 40; refine hN.mono ?_; rw [hn]; rintro e w2 ⟨rfl, hb2⟩; have q1 : w2.cell? ⟨w.heap.size, 1, none⟩ = some (.bool true) := box_cell hb2 1; have q2 : w2.cell? ⟨w.heap.size, 2, none⟩ = some (.int .i64 l) := box_cell hb2 2; have q3 : w2.cell? ⟨w.heap.size, 3, none⟩ = some (.int .i64 z) := box_cell hb2 3)
      | (go_at_call 89; refine (oLabel _ _).mono ?_; rw [hl]; rintro e w3 ⟨rfl, hw3⟩; obtain rfl := hw3.symm)
    go_ret
    exact ⟨ret_b HF.out.symm, hB.trans (hb2.mono (by simp))⟩
/-! slices.Equal of numbers -/
end Go.Proofs.YthfeojjfehbgjaaGreatDoor.face
namespace Go.Proofs.YthfeojjfehbgjaaGreatDoor.face
open Go.RowKit
open Go.Proofs.YthfeojjfehbgjaaGreatDoor.lexs (HasErr)
open Go.Proofs.YthfeojjfehbgjaaGreatDoor.syn (isName eqS)
set_option linter.unusedVariables false
set_option linter.unusedSimpArgs false
set_option maxRecDepth 100000

set_option maxHeartbeats 2000000 in
theorem oMayProc (v : ProcD) (u : Value) (w : World) (hw : HasErr w) (hu : IntsIn w u v.params) :
    Calls Tryz.prog 64 #[procV v u] w fun e w' => e = .returned (.bool (mayProcB v)) ∧ Below w.heap.size w w' := by
  have c6 : Tryz.prog.cellsOf 102 = 6 := cell6
  obtain ⟨x, P, ps, wt, gs, gn⟩ := v
  unfold procV
  obtain ⟨a, c, rfl, hl, hk⟩ := hu
  simp only at hl hk ⊢
  have hB := (Below.refl w.heap.size w).alloc (Nat.le_refl _) (.cells #[.string x, .bool P, .slice a ps.length c, .int .i64 wt, .bool gs, .int .i64 gn] 102)
  have hN := oName x _ (HasErr.below hw hB)
  obtain ⟨V, hV⟩ : ∃ V, V = mayProcB ⟨x, P, ps, wt, gs, gn⟩ := ⟨_, rfl⟩
  rw [← hV]
  have HV : Hid (V = (isName x && (P && (decide (ps.length ≤ 5) && (ps.all labelB && (labelB wt && (labelB gn && (gs || gn == 0)))))))) := hV
  clear hV
  cases hn : isName x
  case false =>
    have HF : Hid (V = false) := by show _ = _; rw [HV.out, hn]; rfl
    go_enter Tryz.func64, Tryz.ntmps64
    go_wp2_with (go_at_call 40; refine hN.mono ?_; rw [hn]; rintro e w2 ⟨rfl, hb2⟩)
    go_ret
    exact ⟨ret_b HF.out.symm, hB.trans (hb2.mono (by simp))⟩
  cases hp : P
  case false =>
    subst hp
    have HF : Hid (V = false) := by show _ = _; rw [HV.out, hn]; rfl
    go_enter Tryz.func64, Tryz.ntmps64
    go_wp2_with (go_at_call 40; refine hN.mono ?_; rw [hn]; rintro e w2 ⟨rfl, hb2⟩; have q1 : w2.cell? ⟨w.heap.size, 1, none⟩ = some (.bool false) := box_cell hb2 1)
    go_ret
    exact ⟨ret_b HF.out.symm, hB.trans (hb2.mono (by simp))⟩
  subst hp
  by_cases h5 : ps.length ≤ 5
  case neg =>
    have HF : Hid (V = false) := by show _ = _; rw [HV.out, hn, decide_eq_false h5]; rfl
    go_enter Tryz.func64, Tryz.ntmps64
    go_wp2_with (go_at_call 40; refine hN.mono ?_; rw [hn]; rintro e w2 ⟨rfl, hb2⟩; have q1 : w2.cell? ⟨w.heap.size, 1, none⟩ = some (.bool true) := box_cell hb2 1; have q2 : w2.cell? ⟨w.heap.size, 2, none⟩ = some (.slice a ps.length c) := box_cell hb2 2)
    go_ret
    exact ⟨ret_b HF.out.symm, hB.trans (hb2.mono (by simp))⟩
  have HV2 : Hid (V = (ps.all labelB && (labelB wt && (labelB gn && (gs || gn == 0))))) := by show _ = _; rw [HV.out, hn, decide_eq_true h5]; rfl
  clear HV
  go_enter Tryz.func64, Tryz.ntmps64
  go_wp2_with (go_at_call 40; refine hN.mono ?_; rw [hn]; rintro e w2 ⟨rfl, hb2⟩; have q1 : w2.cell? ⟨w.heap.size, 1, none⟩ = some (.bool true) := box_cell hb2 1; have q2 : w2.cell? ⟨w.heap.size, 2, none⟩ = some (.slice a ps.length c) := box_cell hb2 2)
  have q3 : w2.cell? ⟨w.heap.size, 3, none⟩ = some (.int .i64 wt) := box_cell hb2 3
  have q4 : w2.cell? ⟨w.heap.size, 4, none⟩ = some (.bool gs) := box_cell hb2 4
  have q5 : w2.cell? ⟨w.heap.size, 5, none⟩ = some (.int .i64 gn) := box_cell hb2 5
  have hbw : Below w.heap.size w w2 := hB.trans (hb2.mono (by simp))
  go_loopw [23] (fun t wq => ∃ j : Nat, j ≤ ps.length ∧ t = .int .i64 j ∧ wq = w2 ∧ Hid (∀ i (h : i < ps.length), i < j → labelB ps[i] = true)) (fun t _ => ps.length - (intOf t).toNat)
  case atStart => exact ⟨0, Nat.zero_le _, rfl, rfl, fun i _ h => by omega⟩
  case round =>
    obtain ⟨j, hj, rfl, rfl, HN⟩ := hrel
    by_cases hlt : j < ps.length
    · obtain ⟨g, o, rfl, hc⟩ := hk (by intro e; rw [e] at hlt; simp at hlt)
      have q := keep (hc j hlt) hbw
      cases he : labelB ps[j]
      · have HF : Hid (V = false) := by show _ = _; rw [HV2.out, all_no j hlt he]; rfl
        generalize ps[j] = y at he q
        go_wp2_with (go_at_call 89; refine (oLabel _ _).mono ?_; rw [he]; rintro e w3 ⟨rfl, hw3⟩; obtain rfl := hw3.symm)
        go_ret
        exact ⟨ret_b HF.out.symm, hbw⟩
      · have HE : Hid (labelB ps[j] = true) := he
        generalize ps[j] = y at he q
        go_wp2_with (go_at_call 89; refine (oLabel _ _).mono ?_; rw [he]; rintro e w3 ⟨rfl, hw3⟩; obtain rfl := hw3.symm)
        go_roundw
        case rel => exact ⟨j + 1, by omega, by go_num, trivial, fun i h h1 => by
          rcases Nat.lt_or_ge i j with h3 | h3
          · exact HN.out i h h3
          · have : i = j := by omega
            subst this
            exact HE.out⟩
        case measure => simp [intOf]; omega
    · have HA : Hid (V = (labelB wt && (labelB gn && (gs || gn == 0)))) := by show _ = _; rw [HV2.out, all_yes (fun i h => HN.out i h (by omega))]; rfl
      clear HV2 HN
      cases h1 : labelB wt
      · have HF : Hid (V = false) := by show _ = _; rw [HA.out, h1]; rfl
        go_wp2_with (go_at_call 89; refine (oLabel _ _).mono ?_; rw [h1]; rintro e w3 ⟨rfl, hw3⟩; obtain rfl := hw3.symm)
        go_ret
        exact ⟨ret_b HF.out.symm, hbw⟩
      cases h2 : labelB gn
      · have HF : Hid (V = false) := by show _ = _; rw [HA.out, h1, h2]; rfl
        go_wp2_with (go_at_call 89; refine (oLabel _ _).mono ?_; (first | rw [h1] | rw [h2]); rintro e w3 ⟨rfl, hw3⟩; obtain rfl := hw3.symm)
        go_ret
        exact ⟨ret_b HF.out.symm, hbw⟩
      cases h3 : gs
      · subst h3
        have HF : Hid (V = (gn == 0)) := by show _ = _; rw [HA.out, h1, h2]; rfl
        go_wp2_with (go_at_call 89; refine (oLabel _ _).mono ?_; (first | rw [h1] | rw [h2]); rintro e w3 ⟨rfl, hw3⟩; obtain rfl := hw3.symm)
        go_ret
        exact ⟨ret_b HF.out.symm, hbw⟩
      · subst h3
        have HF : Hid (V = true) := by show _ = _; rw [HA.out, h1, h2]; rfl
        go_wp2_with (go_at_call 89; refine (oLabel _ _).mono ?_; (first | rw [h1] | rw [h2]); rintro e w3 ⟨rfl, hw3⟩; obtain rfl := hw3.symm)
        go_ret
        exact ⟨ret_b HF.out.symm, hbw⟩
theorem two_box {w w2 : World} {cs ds : Array Value} {T : TypeId} (hb : Below ((w.alloc (.cells cs T)).alloc (.cells ds T)).heap.size ((w.alloc (.cells cs T)).alloc (.cells ds T)) w2) (k : Nat) : w2.cell? ⟨w.heap.size, k, none⟩ = cs[k]? ∧ w2.cell? ⟨w.heap.size + 1, k, none⟩ = ds[k]? := by
  constructor
  · rw [hb.cell (p := ⟨w.heap.size, k, none⟩) (by simp; omega)]
    simp
  · rw [hb.cell (p := ⟨w.heap.size + 1, k, none⟩) (by simp)]
    simp
theorem eqS_def (x y : ByteArray) : eqS x y = (x.toList == y.toList) := rfl
end Go.Proofs.YthfeojjfehbgjaaGreatDoor.face
