/- What the program's mayProc and sameProc answer: contracts. What slices.Equal of variables, slices.EqualFunc of procedures, and the program's Same answer: contracts. -/
import Derived.Test.YtchhpinmoagkhaaGreatDoorProg
import Derived.WalkKit
import Derived.WalkLawsBesides
import Derived.Outline
import Derived.WalkSmall
import Derived.BigQuiet
import Derived.Deep.QuietTactic
import Derived.Deep.RegionWith
import Derived.Test.YtchhpinmoagkhaaGreatDoorNGa
namespace Go.Proofs.YtchhpinmoagkhaaGreatDoor.face
open Go.RowKit
open Go.Proofs.YtchhpinmoagkhaaGreatDoor.lexs (HasErr)
open Go.Proofs.YtchhpinmoagkhaaGreatDoor.syn (isName eqS)
set_option linter.unusedVariables false
set_option linter.unusedSimpArgs false
set_option maxRecDepth 100000

set_option maxHeartbeats 2000000 in
theorem oMayProc (v : ProcD) (u : Value) (w : World) (hw : HasErr w) (hu : IntsIn w u v.params) :
    Calls Tryz.prog 39 #[procV v u] w fun e w' => e = .returned (.bool (mayProcB v)) ∧ Below w.heap.size w w' := by
  have c6 : Tryz.prog.cellsOf 70 = 6 := cell6
  obtain ⟨x, P, ps, wt, gs, gn⟩ := v
  unfold procV
  obtain ⟨a, c, rfl, hl, hk⟩ := hu
  simp only at hl hk ⊢
  have hB := (Below.refl w.heap.size w).alloc (Nat.le_refl _) (.cells #[.string x, .bool P, .slice a ps.length c, .int .i64 wt, .bool gs, .int .i64 gn] 70)
  have hN := oName x _ (HasErr.below hw hB)
  obtain ⟨V, hV⟩ : ∃ V, V = mayProcB ⟨x, P, ps, wt, gs, gn⟩ := ⟨_, rfl⟩
  rw [← hV]
  have HV : Hid (V = (isName x && (P && (decide (ps.length ≤ 5) && (ps.all labelB && (labelB wt && (labelB gn && (gs || gn == 0)))))))) := hV
  clear hV
  cases hn : isName x
  case false =>
    have HF : Hid (V = false) := by show _ = _; rw [HV.out, hn]; rfl
    go_enter Tryz.func39, Tryz.ntmps39
    go_wp2_with (go_at_call 37; refine hN.mono ?_; rw [hn]; rintro e w2 ⟨rfl, hb2⟩)
    go_ret
    exact ⟨ret_b HF.out.symm, hB.trans (hb2.mono (by simp))⟩
  cases hp : P
  case false =>
    subst hp
    have HF : Hid (V = false) := by show _ = _; rw [HV.out, hn]; rfl
    go_enter Tryz.func39, Tryz.ntmps39
    go_wp2_with (go_at_call 37; refine hN.mono ?_; rw [hn]; rintro e w2 ⟨rfl, hb2⟩; have q1 : w2.cell? ⟨w.heap.size, 1, none⟩ = some (.bool false) := box_cell hb2 1)
    go_ret
    exact ⟨ret_b HF.out.symm, hB.trans (hb2.mono (by simp))⟩
  subst hp
  by_cases h5 : ps.length ≤ 5
  case neg =>
    have HF : Hid (V = false) := by show _ = _; rw [HV.out, hn, decide_eq_false h5]; rfl
    go_enter Tryz.func39, Tryz.ntmps39
    go_wp2_with (go_at_call 37; refine hN.mono ?_; rw [hn]; rintro e w2 ⟨rfl, hb2⟩; have q1 : w2.cell? ⟨w.heap.size, 1, none⟩ = some (.bool true) := box_cell hb2 1; have q2 : w2.cell? ⟨w.heap.size, 2, none⟩ = some (.slice a ps.length c) := box_cell hb2 2)
    go_ret
    exact ⟨ret_b HF.out.symm, hB.trans (hb2.mono (by simp))⟩
  have HV2 : Hid (V = (ps.all labelB && (labelB wt && (labelB gn && (gs || gn == 0))))) := by show _ = _; rw [HV.out, hn, decide_eq_true h5]; rfl
  clear HV
  go_enter Tryz.func39, Tryz.ntmps39
  go_wp2_with (go_at_call 37; refine hN.mono ?_; rw [hn]; rintro e w2 ⟨rfl, hb2⟩; have q1 : w2.cell? ⟨w.heap.size, 1, none⟩ = some (.bool true) := box_cell hb2 1; have q2 : w2.cell? ⟨w.heap.size, 2, none⟩ = some (.slice a ps.length c) := box_cell hb2 2)
  have q3 : w2.cell? ⟨w.heap.size, 3, none⟩ = some (.int .i64 wt) := box_cell hb2 3
  have q4 : w2.cell? ⟨w.heap.size, 4, none⟩ = some (.bool gs) := box_cell hb2 4
  have q5 : w2.cell? ⟨w.heap.size, 5, none⟩ = some (.int .i64 gn) := box_cell hb2 5
  have hbw : Below w.heap.size w w2 := hB.trans (hb2.mono (by simp))
  go_loopw [23] (fun t wq => ∃ j : Nat, j ≤ ps.length ∧ t = .int .i64 j ∧ wq = w2 ∧ Hid (∀ i (h : i < ps.length), i < j → labelB ps[i] = true)) (fun t _ => ps.length - (intOf t).toNat)
  case atStart => exact ⟨0, Nat.zero_le _, rfl, rfl, fun i _ h => by omega⟩
  case round =>
    obtain ⟨j, hj, rfl, rfl, HN⟩ := hrel
    by_cases hlt : j < ps.length
    · obtain ⟨g, o, rfl, hc⟩ := hk (by intro e; rw [e] at hlt; simp at hlt)
      have q := keep (hc j hlt) hbw
      cases he : labelB ps[j]
      · have HF : Hid (V = false) := by show _ = _; rw [HV2.out, all_no j hlt he]; rfl
        generalize ps[j] = y at he q
        go_wp2_with (go_at_call 85; refine (oLabel _ _).mono ?_; rw [he]; rintro e w3 ⟨rfl, hw3⟩; obtain rfl := hw3.symm)
        go_ret
        exact ⟨ret_b HF.out.symm, hbw⟩
      · have HE : Hid (labelB ps[j] = true) := he
        generalize ps[j] = y at he q
        go_wp2_with (go_at_call 85; refine (oLabel _ _).mono ?_; rw [he]; rintro e w3 ⟨rfl, hw3⟩; obtain rfl := hw3.symm)
        go_roundw
        case rel => exact ⟨j + 1, by omega, by go_num, trivial, fun i h h1 => by
          rcases Nat.lt_or_ge i j with h3 | h3
          · exact HN.out i h h3
          · have : i = j := by omega
            subst this
            exact HE.out⟩
        case measure => simp [intOf]; omega
    · have HA : Hid (V = (labelB wt && (labelB gn && (gs || gn == 0)))) := by show _ = _; rw [HV2.out, all_yes (fun i h => HN.out i h (by omega))]; rfl
      clear HV2 HN
      cases h1 : labelB wt
      · have HF : Hid (V = false) := by show _ = _; rw [HA.out, h1]; rfl
        go_wp2_with (go_at_call 85; refine (oLabel _ _).mono ?_; rw [h1]; rintro e w3 ⟨rfl, hw3⟩; obtain rfl := hw3.symm)
        go_ret
        exact ⟨ret_b HF.out.symm, hbw⟩
      cases h2 : labelB gn
      · have HF : Hid (V = false) := by show _ = _; rw [HA.out, h1, h2]; rfl
        go_wp2_with (go_at_call 85; refine (oLabel _ _).mono ?_; (first | rw [h1] | rw [h2]); rintro e w3 ⟨rfl, hw3⟩; obtain rfl := hw3.symm)
        go_ret
        exact ⟨ret_b HF.out.symm, hbw⟩
      cases h3 : gs
      · subst h3
        have HF : Hid (V = (gn == 0)) := by show _ = _; rw [HA.out, h1, h2]; rfl
        go_wp2_with (go_at_call 85; refine (oLabel _ _).mono ?_; (first | rw [h1] | rw [h2]); rintro e w3 ⟨rfl, hw3⟩; obtain rfl := hw3.symm)
        go_ret
        exact ⟨ret_b HF.out.symm, hbw⟩
      · subst h3
        have HF : Hid (V = true) := by show _ = _; rw [HA.out, h1, h2]; rfl
        go_wp2_with (go_at_call 85; refine (oLabel _ _).mono ?_; (first | rw [h1] | rw [h2]); rintro e w3 ⟨rfl, hw3⟩; obtain rfl := hw3.symm)
        go_ret
        exact ⟨ret_b HF.out.symm, hbw⟩
theorem two_box {w w2 : World} {cs ds : Array Value} {T : TypeId} (hb : Below ((w.alloc (.cells cs T)).alloc (.cells ds T)).heap.size ((w.alloc (.cells cs T)).alloc (.cells ds T)) w2) (k : Nat) : w2.cell? ⟨w.heap.size, k, none⟩ = cs[k]? ∧ w2.cell? ⟨w.heap.size + 1, k, none⟩ = ds[k]? := by
  constructor
  · rw [hb.cell (p := ⟨w.heap.size, k, none⟩) (by simp; omega)]
    simp
  · rw [hb.cell (p := ⟨w.heap.size + 1, k, none⟩) (by simp)]
    simp
theorem eqS_def (x y : ByteArray) : eqS x y = (x.toList == y.toList) := rfl
set_option maxHeartbeats 2000000 in
theorem oSameProc (p q : ProcD) (u v : Value) (w : World) (hu : IntsIn w u p.params) (hv : IntsIn w v q.params) :
    Calls Tryz.prog 42 #[procV p u, procV q v] w fun e w' => e = .returned (.bool (sameProcB p q)) ∧ Below w.heap.size w w' := by
  have c6 : Tryz.prog.cellsOf 70 = 6 := cell6
  obtain ⟨x, P, ps, wt, gs, gn⟩ := p
  obtain ⟨x', P', ps', wt', gs', gn'⟩ := q
  unfold procV
  simp only at hu hv ⊢
  have hB := ((Below.refl w.heap.size w).alloc (Nat.le_refl _) (.cells #[.string x, .bool P, u, .int .i64 wt, .bool gs, .int .i64 gn] 70)).alloc (by simp) (.cells #[.string x', .bool P', v, .int .i64 wt', .bool gs', .int .i64 gn'] 70)
  have hE := oEqInts ps ps' u v _ (hu.below hB) (hv.below hB)
  obtain ⟨V, hV⟩ : ∃ V, V = sameProcB ⟨x, P, ps, wt, gs, gn⟩ ⟨x', P', ps', wt', gs', gn'⟩ := ⟨_, rfl⟩
  rw [← hV]
  have HV : Hid (V = ((x.toList == x'.toList) && (P == P' && (ps == ps' && (wt == wt' && (gs == gs' && gn == gn')))))) := hV
  clear hV
  cases h0 : (x.toList == x'.toList)
  · have HF : Hid (V = false) := by show _ = _; rw [HV.out, h0]; rfl
    go_enter Tryz.func42, Tryz.ntmps42
    go_wp2
    go_ret
    exact ⟨ret_b HF.out.symm, hB⟩
  cases h1 : (P == P')
  · have HF : Hid (V = false) := by show _ = _; rw [HV.out, h0, h1]; rfl
    go_enter Tryz.func42, Tryz.ntmps42
    go_wp2
    go_ret
    exact ⟨ret_b HF.out.symm, hB⟩
  cases h2 : (ps == ps')
  · have HF : Hid (V = false) := by show _ = _; rw [HV.out, h0, h1, h2]; rfl
    go_enter Tryz.func42, Tryz.ntmps42
    go_wp2_with (go_at_call 86; refine hE.mono ?_; rw [h2]; rintro e w2 ⟨rfl, hb2⟩)
    go_ret
    exact ⟨ret_b HF.out.symm, hB.trans (hb2.mono (by simp; omega))⟩
  have HW : Hid (V = (wt == wt' && (gs == gs' && gn == gn'))) := by show _ = _; rw [HV.out, h0, h1, h2]; rfl
  clear HV
  cases h3 : (wt == wt')
  · have HF : Hid (V = false) := by show _ = _; rw [HW.out, h3]; rfl
    go_enter Tryz.func42, Tryz.ntmps42
    go_wp2_with (go_at_call 86; refine hE.mono ?_; rw [h2]; rintro e w2 ⟨rfl, hb2⟩; obtain ⟨r3, r3'⟩ := two_box hb2 3; simp at r3 r3')
    go_ret
    exact ⟨ret_b HF.out.symm, hB.trans (hb2.mono (by simp; omega))⟩
  cases h4 : (gs == gs')
  · have HF : Hid (V = false) := by show _ = _; rw [HW.out, h3, h4]; rfl
    go_enter Tryz.func42, Tryz.ntmps42
    go_wp2_with (go_at_call 86; refine hE.mono ?_; rw [h2]; rintro e w2 ⟨rfl, hb2⟩; obtain ⟨r3, r3'⟩ := two_box hb2 3; obtain ⟨r4, r4'⟩ := two_box hb2 4; simp at r3 r3' r4 r4')
    go_ret
    exact ⟨ret_b HF.out.symm, hB.trans (hb2.mono (by simp; omega))⟩
  have HF : Hid (V = (gn == gn')) := by show _ = _; rw [HW.out, h3, h4]; rfl
  go_enter Tryz.func42, Tryz.ntmps42
  go_wp2_with (go_at_call 86; refine hE.mono ?_; rw [h2]; rintro e w2 ⟨rfl, hb2⟩; obtain ⟨r3, r3'⟩ := two_box hb2 3; obtain ⟨r4, r4'⟩ := two_box hb2 4; obtain ⟨r5, r5'⟩ := two_box hb2 5; simp at r3 r3' r4 r4' r5 r5')
  go_ret
  exact ⟨ret_b HF.out.symm, hB.trans (hb2.mono (by simp; omega))⟩
end Go.Proofs.YtchhpinmoagkhaaGreatDoor.face
namespace Go.Proofs.YtchhpinmoagkhaaGreatDoor.face
open Go.RowKit
open Go.Proofs.YtchhpinmoagkhaaGreatDoor.lexs (HasErr)
open Go.Proofs.YtchhpinmoagkhaaGreatDoor.syn (isName eqS)
set_option linter.unusedVariables false
set_option linter.unusedSimpArgs false
set_option maxRecDepth 100000

set_option maxHeartbeats 1000000 in
theorem oEqVars (l m : List VarD) (u v : Value) (w : World) (hu : VarsIn w u l) (hv : VarsIn w v m) :
    Calls Tryz.prog 40 #[u, v] w fun e w' => e = .returned (.bool (all2 sameVarB l m)) ∧ Below w.heap.size w w' := by
  have c4 : Tryz.prog.cellsOf 45 = 4 := cell4
  obtain ⟨V, hV⟩ : ∃ V, V = all2 sameVarB l m := ⟨_, rfl⟩
  rw [← hV]
  have HV : Hid (V = all2 sameVarB l m) := hV
  clear hV
  obtain ⟨a, c, rfl, hl, hk⟩ := hu
  obtain ⟨b, d, rfl, hl2, hk2⟩ := hv
  by_cases hlen : l.length = m.length
  case neg =>
    have HF : Hid (V = false) := HV.out.trans (all2_len hlen)
    go_enter Tryz.func40, Tryz.ntmps40
    go_wp2
    go_ret
    exact ⟨ret_b HF.out.symm, Below.refl _ _⟩
  rw [← hlen]
  go_enter Tryz.func40, Tryz.ntmps40
  go_wp2
  go_loopw [13] (fun t wr => ∃ j : Nat, j ≤ l.length ∧ t = .int .i64 j ∧ Below w.heap.size w wr ∧ Hid (∀ i (h : i < l.length) (h2 : i < m.length), i < j → sameVarB l[i] m[i] = true)) (fun t _ => l.length - (intOf t).toNat)
  case atStart => exact ⟨0, Nat.zero_le _, rfl, Below.refl _ _, fun i _ _ h => by omega⟩
  case round =>
    obtain ⟨j, hj, rfl, hbr, HN⟩ := hrel
    by_cases hlt : j < l.length
    · have hlt2 : j < m.length := by omega
      obtain ⟨g, o, rfl, hc⟩ := hk (by intro e; rw [e] at hlt; simp at hlt)
      obtain ⟨g', o', rfl, hc'⟩ := hk2 (by intro e; rw [e] at hlt2; simp at hlt2)
      obtain ⟨k0, k1, k2, k3⟩ := hc j hlt
      obtain ⟨n0, n1, n2, n3⟩ := hc' j hlt2
      have q0 := keep k0 hbr
      have q1 := keep k1 hbr
      have q2 := keep k2 hbr
      have q3 := keep k3 hbr
      have r0 := keep n0 hbr
      have r1 := keep n1 hbr
      have r2 := keep n2 hbr
      have r3 := keep n3 hbr
      clear k0 k1 k2 k3 n0 n1 n2 n3
      obtain ⟨X, hX⟩ : ∃ X, X = sameVarB l[j] m[j] := ⟨_, rfl⟩
      have HX : Hid (X = sameVarB l[j] m[j]) := hX
      have HY : Hid (X = false → V = false) := fun h => HV.out.trans (all2_no j hlt hlt2 (by rw [← HX.out]; exact h))
      unfold sameVarB eqS at hX
      generalize l[j].name = s0, l[j].pub = s1, l[j].label = s2, l[j].size = s3 at hX q0 q1 q2 q3
      generalize m[j].name = t0, m[j].pub = t1, m[j].label = t2, m[j].size = t3 at hX r0 r1 r2 r3
      by_cases e0 : s0.toList = t0.toList
      case neg =>
        have HF : Hid (V = false) := HY.out (by rw [hX]; simp [e0])
        go_wp2
        go_region
        all_goals
          go_wp2
          go_ret
          exact ⟨ret_b HF.out.symm, hbr.drew⟩
      by_cases e1 : s1 = t1
      case neg =>
        have HF : Hid (V = false) := HY.out (by rw [hX]; simp [e1])
        go_wp2
        go_region
        all_goals
          go_wp2
          go_ret
          exact ⟨ret_b HF.out.symm, hbr.drew⟩
      by_cases e2 : s2 = t2
      case neg =>
        have HF : Hid (V = false) := HY.out (by rw [hX]; simp [e2])
        go_wp2
        go_region
        all_goals
          go_wp2
          go_ret
          exact ⟨ret_b HF.out.symm, hbr.drew⟩
      by_cases e3 : s3 = t3
      case neg =>
        have HF : Hid (V = false) := HY.out (by rw [hX]; simp [e3])
        go_wp2
        go_region
        all_goals
          go_wp2
          go_ret
          exact ⟨ret_b HF.out.symm, hbr.drew⟩
      have HE : Hid (sameVarB l[j] m[j] = true) := HX.out.symm.trans (by rw [hX]; simp [e0, e1, e2, e3])
      clear HX HY hX
      go_wp2
      go_region
      all_goals
        go_wp2
        go_roundw
        case rel => exact ⟨j + 1, by omega, by go_num, hbr.drew, fun i h h2 h1 => by
          rcases Nat.lt_or_ge i j with h3 | h3
          · exact HN.out i h h2 h3
          · have : i = j := by omega
            subst this
            exact HE.out⟩
        case measure => simp [intOf]; omega
    · have HF : Hid (V = true) := HV.out.trans (all2_yes hlen (fun i h h2 => HN.out i h h2 (by omega)))
      go_wp2
      go_ret
      exact ⟨ret_b HF.out.symm, hbr⟩
theorem boxes6 {w w1 w2 : World} {cs ds : Array Value} {T : TypeId} (h : Below w.heap.size w w1) (h2 : Below ((w1.alloc (.cells cs T)).alloc (.cells ds T)).heap.size ((w1.alloc (.cells cs T)).alloc (.cells ds T)) w2) : Below w.heap.size w w2 :=
  ((h.alloc h.size _).alloc (by have := h.size; simp; omega) _).trans (h2.mono (by have := h.size; simp; omega))
set_option maxHeartbeats 2000000 in
theorem oEqProcs (l m : List ProcD) (u v : Value) (w : World) (hu : ProcsIn w u l) (hv : ProcsIn w v m) :
    Calls Tryz.prog 41 #[u, v, .func (.func 42) #[] #[]] w fun e w' => e = .returned (.bool (all2 sameProcB l m)) ∧ Below w.heap.size w w' := by
  have c6 : Tryz.prog.cellsOf 70 = 6 := cell6
  obtain ⟨V, hV⟩ : ∃ V, V = all2 sameProcB l m := ⟨_, rfl⟩
  rw [← hV]
  have HV : Hid (V = all2 sameProcB l m) := hV
  clear hV
  obtain ⟨a, c, rfl, hl, hk⟩ := hu
  obtain ⟨b, d, rfl, hl2, hk2⟩ := hv
  by_cases hlen : l.length = m.length
  case neg =>
    have HF : Hid (V = false) := HV.out.trans (all2_len hlen)
    go_enter Tryz.func41, Tryz.ntmps41
    go_wp2
    go_ret
    exact ⟨ret_b HF.out.symm, Below.refl _ _⟩
  rw [← hlen]
  have HL : Hid (l.length = m.length) := hlen
  clear hlen
  go_enter Tryz.func41, Tryz.ntmps41
  go_wp2
  go_loopw [17] (fun t wr => ∃ j : Nat, j ≤ l.length ∧ t = .int .i64 j ∧ Below w.heap.size w wr ∧ Hid (∀ i (h : i < l.length) (h2 : i < m.length), i < j → sameProcB l[i] m[i] = true)) (fun t _ => l.length - (intOf t).toNat)
  case atStart => exact ⟨0, Nat.zero_le _, rfl, Below.refl _ _, fun i _ _ h => by omega⟩
  case round =>
    obtain ⟨j, hj, rfl, hbr, HN⟩ := hrel
    by_cases hlt : j < l.length
    · have hlt2 : j < m.length := by have := HL.out; omega
      obtain ⟨g, o, rfl, hc⟩ := hk (by intro e; rw [e] at hlt; simp at hlt)
      obtain ⟨g', o', rfl, hc'⟩ := hk2 (by intro e; rw [e] at hlt2; simp at hlt2)
      obtain ⟨k0, k1, ⟨x, k2, hx⟩, k3, k4, k5⟩ := hc j hlt
      obtain ⟨n0, n1, ⟨y, n2, hy⟩, n3, n4, n5⟩ := hc' j hlt2
      have hx' := hx
      have hy' := hy
      obtain ⟨ax, cx, rfl, _, _⟩ := hx'
      obtain ⟨ay, cy, rfl, _, _⟩ := hy'
      have q0 := keep k0 hbr
      have q1 := keep k1 hbr
      have q2 := keep k2 hbr
      have q3 := keep k3 hbr
      have q4 := keep k4 hbr
      have q5 := keep k5 hbr
      have r0 := fun ob => cell_new (keep n0 hbr) ob
      have r1 := fun ob => cell_new (keep n1 hbr) ob
      have r2 := fun ob => cell_new (keep n2 hbr) ob
      have r3 := fun ob => cell_new (keep n3 hbr) ob
      have r4 := fun ob => cell_new (keep n4 hbr) ob
      have r5 := fun ob => cell_new (keep n5 hbr) ob
      clear k0 k1 k2 k3 k4 k5 n0 n1 n2 n3 n4 n5
      have hB := ((Below.refl wr.heap.size wr).alloc (Nat.le_refl _) (.cells #[.string l[j].name, .bool l[j].pub, .slice ax l[j].params.length cx, .int .i64 l[j].writes, .bool l[j].gives, .int .i64 l[j].given] 70)).alloc (by simp) (.cells #[.string m[j].name, .bool m[j].pub, .slice ay m[j].params.length cy, .int .i64 m[j].writes, .bool m[j].gives, .int .i64 m[j].given] 70)
      have hS := oSameProc l[j] m[j] _ _ _ ((hx.below hbr).below hB) ((hy.below hbr).below hB)
      clear hB
      unfold procV at hS
      cases he : sameProcB l[j] m[j]
      · have HF : Hid (V = false) := HV.out.trans (all2_no j hlt hlt2 he)
        rw [he] at hS
        go_wp2_with (go_at_call 42; refine hS.mono ?_; rintro e w2 ⟨rfl, hb2⟩)
        go_ret
        exact ⟨ret_b HF.out.symm, boxes6 hbr hb2⟩
      · have HE : Hid (sameProcB l[j] m[j] = true) := he
        rw [he] at hS
        go_wp2_with (go_at_call 42; refine hS.mono ?_; rintro e w2 ⟨rfl, hb2⟩)
        go_roundw
        case rel => exact ⟨j + 1, by omega, by go_num, boxes6 hbr hb2, fun i h h2 h1 => by
          rcases Nat.lt_or_ge i j with h3 | h3
          · exact HN.out i h h2 h3
          · have : i = j := by omega
            subst this
            exact HE.out⟩
        case measure => simp [intOf]; omega
    · have HF : Hid (V = true) := HV.out.trans (all2_yes HL.out (fun i h h2 => HN.out i h h2 (by omega)))
      go_wp2
      go_ret
      exact ⟨ret_b HF.out.symm, hbr⟩
set_option maxHeartbeats 2000000 in
theorem oSame (a b : FaceD) (u v : Value) (w : World) (hu : FaceIn w u a) (hv : FaceIn w v b) :
    Calls Tryz.prog 18 #[u, v] w fun e w' => e = .returned (.bool (sameB a b)) ∧ Below w.heap.size w w' := by
  have c3 : Tryz.prog.cellsOf 38 = 3 := cell3
  obtain ⟨va, pa, rfl, hva, hpa⟩ := hu
  obtain ⟨vb, pb, rfl, hvb, hpb⟩ := hv
  obtain ⟨x, xs, xp⟩ := a
  obtain ⟨y, ys, yp⟩ := b
  simp only at hva hpa hvb hpb ⊢
  have hB := ((Below.refl w.heap.size w).alloc (Nat.le_refl _) (.cells #[.string x, va, pa] 38)).alloc (by simp) (.cells #[.string y, vb, pb] 38)
  have hE := oEqVars xs ys va vb _ (hva.below hB) (hvb.below hB)
  have hF := fun w2 (hb2 : Below ((w.alloc (.cells #[.string x, va, pa] 38)).alloc (.cells #[.string y, vb, pb] 38)).heap.size ((w.alloc (.cells #[.string x, va, pa] 38)).alloc (.cells #[.string y, vb, pb] 38)) w2) =>
    oEqProcs xp yp pa pb w2 ((hpa.below hB).below hb2) ((hpb.below hB).below hb2)
  obtain ⟨V, hV⟩ : ∃ V, V = sameB ⟨x, xs, xp⟩ ⟨y, ys, yp⟩ := ⟨_, rfl⟩
  rw [← hV]
  have HV : Hid (V = ((x.toList == y.toList) && (all2 sameVarB xs ys && all2 sameProcB xp yp))) := hV
  clear hV
  cases h0 : (x.toList == y.toList)
  · have HF : Hid (V = false) := by show _ = _; rw [HV.out, h0]; rfl
    go_enter Tryz.func18, Tryz.ntmps18
    go_wp2
    go_ret
    exact ⟨ret_b HF.out.symm, hB⟩
  cases h1 : all2 sameVarB xs ys
  · have HF : Hid (V = false) := by show _ = _; rw [HV.out, h0, h1]; rfl
    go_enter Tryz.func18, Tryz.ntmps18
    go_wp2_with (go_at_call 40; refine hE.mono ?_; rw [h1]; rintro e w2 ⟨rfl, hb2⟩)
    go_ret
    exact ⟨ret_b HF.out.symm, hB.trans (hb2.mono (by simp; omega))⟩
  have HF : Hid (V = all2 sameProcB xp yp) := by show _ = _; rw [HV.out, h0, h1]; rfl
  go_enter Tryz.func18, Tryz.ntmps18
  go_wp2_with first
    | (go_at_call 40; refine hE.mono ?_; rw [h1]; rintro e w2 ⟨rfl, hb2⟩; obtain ⟨r2, r2'⟩ := two_box hb2 2; simp at r2 r2'; have hG := hF w2 hb2)
    | (go_at_call 41; refine hG.mono ?_; rintro e w3 ⟨rfl, hb3⟩)
  go_ret
  have hbb : Below w.heap.size w w2 := hB.trans (hb2.mono (by simp; omega))
  exact ⟨ret_b HF.out.symm, hbb.trans (hb3.mono hbb.size)⟩
end Go.Proofs.YtchhpinmoagkhaaGreatDoor.face
