/- What slices.Equal of variables, slices.EqualFunc of procedures, and the program's Same answer: contracts. -/
import Derived.Test.YtaiocbbcjdpjgaaGreatDoorProg
import Derived.WalkKit
import Derived.WalkLawsBesides
import Derived.Outline
import Derived.WalkSmall
import Derived.BigQuiet
import Derived.Deep.QuietTactic
import Derived.Deep.RegionWith
import Derived.Test.YtaiocbbcjdpjgaaGreatDoorLMFaceSame
namespace Go.Proofs.YtaiocbbcjdpjgaaGreatDoor.face
open Go.RowKit
open Go.Proofs.YtaiocbbcjdpjgaaGreatDoor.lexs (HasErr)
open Go.Proofs.YtaiocbbcjdpjgaaGreatDoor.syn (isName eqS)
set_option linter.unusedVariables false
set_option linter.unusedSimpArgs false
set_option maxRecDepth 100000

set_option maxHeartbeats 1000000 in
theorem oEqVars (l m : List VarD) (u v : Value) (w : World) (hu : VarsIn w u l) (hv : VarsIn w v m) :
    Calls Tryz.prog 120 #[u, v] w fun e w' => e = .returned (.bool (all2 sameVarB l m)) ∧ Below w.heap.size w w' := by
  have c4 : Tryz.prog.cellsOf 118 = 4 := cell4
  obtain ⟨V, hV⟩ : ∃ V, V = all2 sameVarB l m := ⟨_, rfl⟩
  rw [← hV]
  have HV : Hid (V = all2 sameVarB l m) := hV
  clear hV
  obtain ⟨a, c, rfl, hl, hk⟩ := hu
  obtain ⟨b, d, rfl, hl2, hk2⟩ := hv
  by_cases hlen : l.length = m.length
  case neg =>
    have HF : Hid (V = false) := HV.out.trans (all2_len hlen)
    go_enter Tryz.func120, Tryz.ntmps120
    go_wp2
    go_ret
    exact ⟨ret_b HF.out.symm, Below.refl _ _⟩
  rw [← hlen]
  go_enter Tryz.func120, Tryz.ntmps120
  go_wp2
  go_loopw [13] (fun t wr => ∃ j : Nat, j ≤ l.length ∧ t = .int .i64 j ∧ Below w.heap.size w wr ∧ Hid (∀ i (h : i < l.length) (h2 : i < m.length), i < j → sameVarB l[i] m[i] = true)) (fun t _ => l.length - (intOf t).toNat)
  case atStart => exact ⟨0, Nat.zero_le _, rfl, Below.refl _ _, fun i _ _ h => by omega⟩
  case round =>
    obtain ⟨j, hj, rfl, hbr, HN⟩ := hrel
    by_cases hlt : j < l.length
    · have hlt2 : j < m.length := by omega
      obtain ⟨g, o, rfl, hc⟩ := hk (by intro e; rw [e] at hlt; simp at hlt)
      obtain ⟨g', o', rfl, hc'⟩ := hk2 (by intro e; rw [e] at hlt2; simp at hlt2)
      obtain ⟨k0, k1, k2, k3⟩ := hc j hlt
      obtain ⟨n0, n1, n2, n3⟩ := hc' j hlt2
      have q0 := keep k0 hbr
      have q1 := keep k1 hbr
      have q2 := keep k2 hbr
      have q3 := keep k3 hbr
      have r0 := keep n0 hbr
      have r1 := keep n1 hbr
      have r2 := keep n2 hbr
      have r3 := keep n3 hbr
      clear k0 k1 k2 k3 n0 n1 n2 n3
      obtain ⟨X, hX⟩ : ∃ X, X = sameVarB l[j] m[j] := ⟨_, rfl⟩
      have HX : Hid (X = sameVarB l[j] m[j]) := hX
      have HY : Hid (X = false → V = false) := fun h => HV.out.trans (all2_no j hlt hlt2 (by rw [← HX.out]; exact h))
      unfold sameVarB eqS at hX
      generalize l[j].name = s0, l[j].pub = s1, l[j].label = s2, l[j].size = s3 at hX q0 q1 q2 q3
      generalize m[j].name = t0, m[j].pub = t1, m[j].label = t2, m[j].size = t3 at hX r0 r1 r2 r3
      by_cases e0 : s0.toList = t0.toList
      case neg =>
        have HF : Hid (V = false) := HY.out (by rw [hX]; simp [e0])
        go_wp2
        go_region
        all_goals
          go_wp2
          go_ret
          exact ⟨ret_b HF.out.symm, hbr.drew⟩
      by_cases e1 : s1 = t1
      case neg =>
        have HF : Hid (V = false) := HY.out (by rw [hX]; simp [e1])
        go_wp2
        go_region
        all_goals
          go_wp2
          go_ret
          exact ⟨ret_b HF.out.symm, hbr.drew⟩
      by_cases e2 : s2 = t2
      case neg =>
        have HF : Hid (V = false) := HY.out (by rw [hX]; simp [e2])
        go_wp2
        go_region
        all_goals
          go_wp2
          go_ret
          exact ⟨ret_b HF.out.symm, hbr.drew⟩
      by_cases e3 : s3 = t3
      case neg =>
        have HF : Hid (V = false) := HY.out (by rw [hX]; simp [e3])
        go_wp2
        go_region
        all_goals
          go_wp2
          go_ret
          exact ⟨ret_b HF.out.symm, hbr.drew⟩
      have HE : Hid (sameVarB l[j] m[j] = true) := HX.out.symm.trans (by rw [hX]; simp [e0, e1, e2, e3])
      clear HX HY hX
      go_wp2
      go_region
      all_goals
        go_wp2
        go_roundw
        case rel => exact ⟨j + 1, by omega, by go_num, hbr.drew, fun i h h2 h1 => by
          rcases Nat.lt_or_ge i j with h3 | h3
          · exact HN.out i h h2 h3
          · have : i = j := by omega
            subst this
            exact HE.out⟩
        case measure => simp [intOf]; omega
    · have HF : Hid (V = true) := HV.out.trans (all2_yes hlen (fun i h h2 => HN.out i h h2 (by omega)))
      go_wp2
      go_ret
      exact ⟨ret_b HF.out.symm, hbr⟩
theorem boxes6 {w w1 w2 : World} {cs ds : Array Value} {T : TypeId} (h : Below w.heap.size w w1) (h2 : Below ((w1.alloc (.cells cs T)).alloc (.cells ds T)).heap.size ((w1.alloc (.cells cs T)).alloc (.cells ds T)) w2) : Below w.heap.size w w2 :=
  ((h.alloc h.size _).alloc (by have := h.size; simp; omega) _).trans (h2.mono (by have := h.size; simp; omega))
set_option maxHeartbeats 2000000 in
theorem oEqProcs (l m : List ProcD) (u v : Value) (w : World) (hu : ProcsIn w u l) (hv : ProcsIn w v m) :
    Calls Tryz.prog 121 #[u, v, .func (.func 122) #[] #[]] w fun e w' => e = .returned (.bool (all2 sameProcB l m)) ∧ Below w.heap.size w w' := by
  have c6 : Tryz.prog.cellsOf 120 = 6 := cell6
  obtain ⟨V, hV⟩ : ∃ V, V = all2 sameProcB l m := ⟨_, rfl⟩
  rw [← hV]
  have HV : Hid (V = all2 sameProcB l m) := hV
  clear hV
  obtain ⟨a, c, rfl, hl, hk⟩ := hu
  obtain ⟨b, d, rfl, hl2, hk2⟩ := hv
  by_cases hlen : l.length = m.length
  case neg =>
    have HF : Hid (V = false) := HV.out.trans (all2_len hlen)
    go_enter Tryz.func121, Tryz.ntmps121
    go_wp2
    go_ret
    exact ⟨ret_b HF.out.symm, Below.refl _ _⟩
  rw [← hlen]
  have HL : Hid (l.length = m.length) := hlen
  clear hlen
  go_enter Tryz.func121, Tryz.ntmps121
  go_wp2
  go_loopw [17] (fun t wr => ∃ j : Nat, j ≤ l.length ∧ t = .int .i64 j ∧ Below w.heap.size w wr ∧ Hid (∀ i (h : i < l.length) (h2 : i < m.length), i < j → sameProcB l[i] m[i] = true)) (fun t _ => l.length - (intOf t).toNat)
  case atStart => exact ⟨0, Nat.zero_le _, rfl, Below.refl _ _, fun i _ _ h => by omega⟩
  case round =>
    obtain ⟨j, hj, rfl, hbr, HN⟩ := hrel
    by_cases hlt : j < l.length
    · have hlt2 : j < m.length := by have := HL.out; omega
      obtain ⟨g, o, rfl, hc⟩ := hk (by intro e; rw [e] at hlt; simp at hlt)
      obtain ⟨g', o', rfl, hc'⟩ := hk2 (by intro e; rw [e] at hlt2; simp at hlt2)
      obtain ⟨k0, k1, ⟨x, k2, hx⟩, k3, k4, k5⟩ := hc j hlt
      obtain ⟨n0, n1, ⟨y, n2, hy⟩, n3, n4, n5⟩ := hc' j hlt2
      have hx' := hx
      have hy' := hy
      obtain ⟨ax, cx, rfl, _, _⟩ := hx'
      obtain ⟨ay, cy, rfl, _, _⟩ := hy'
      have q0 := keep k0 hbr
      have q1 := keep k1 hbr
      have q2 := keep k2 hbr
      have q3 := keep k3 hbr
      have q4 := keep k4 hbr
      have q5 := keep k5 hbr
      have r0 := fun ob => cell_new (keep n0 hbr) ob
      have r1 := fun ob => cell_new (keep n1 hbr) ob
      have r2 := fun ob => cell_new (keep n2 hbr) ob
      have r3 := fun ob => cell_new (keep n3 hbr) ob
      have r4 := fun ob => cell_new (keep n4 hbr) ob
      have r5 := fun ob => cell_new (keep n5 hbr) ob
      clear k0 k1 k2 k3 k4 k5 n0 n1 n2 n3 n4 n5
      have hB := ((Below.refl wr.heap.size wr).alloc (Nat.le_refl _) (.cells #[.string l[j].name, .bool l[j].pub, .slice ax l[j].params.length cx, .int .i64 l[j].writes, .bool l[j].gives, .int .i64 l[j].given] 120)).alloc (by simp) (.cells #[.string m[j].name, .bool m[j].pub, .slice ay m[j].params.length cy, .int .i64 m[j].writes, .bool m[j].gives, .int .i64 m[j].given] 120)
      have hS := oSameProc l[j] m[j] _ _ _ ((hx.below hbr).below hB) ((hy.below hbr).below hB)
      clear hB
      unfold procV at hS
      cases he : sameProcB l[j] m[j]
      · have HF : Hid (V = false) := HV.out.trans (all2_no j hlt hlt2 he)
        rw [he] at hS
        go_wp2_with (go_at_call 122; refine hS.mono ?_; rintro e w2 ⟨rfl, hb2⟩)
        go_ret
        exact ⟨ret_b HF.out.symm, boxes6 hbr hb2⟩
      · have HE : Hid (sameProcB l[j] m[j] = true) := he
        rw [he] at hS
        go_wp2_with (go_at_call 122; refine hS.mono ?_; rintro e w2 ⟨rfl, hb2⟩)
        go_roundw
        case rel => exact ⟨j + 1, by omega, by go_num, boxes6 hbr hb2, fun i h h2 h1 => by
          rcases Nat.lt_or_ge i j with h3 | h3
          · exact HN.out i h h2 h3
          · have : i = j := by omega
            subst this
            exact HE.out⟩
        case measure => simp [intOf]; omega
    · have HF : Hid (V = true) := HV.out.trans (all2_yes HL.out (fun i h h2 => HN.out i h h2 (by omega)))
      go_wp2
      go_ret
      exact ⟨ret_b HF.out.symm, hbr⟩
set_option maxHeartbeats 2000000 in
theorem oSame (a b : FaceD) (u v : Value) (w : World) (hu : FaceIn w u a) (hv : FaceIn w v b) :
    Calls Tryz.prog 82 #[u, v] w fun e w' => e = .returned (.bool (sameB a b)) ∧ Below w.heap.size w w' := by
  have c3 : Tryz.prog.cellsOf 25 = 3 := cell3
  obtain ⟨va, pa, rfl, hva, hpa⟩ := hu
  obtain ⟨vb, pb, rfl, hvb, hpb⟩ := hv
  obtain ⟨x, xs, xp⟩ := a
  obtain ⟨y, ys, yp⟩ := b
  simp only at hva hpa hvb hpb ⊢
  have hB := ((Below.refl w.heap.size w).alloc (Nat.le_refl _) (.cells #[.string x, va, pa] 25)).alloc (by simp) (.cells #[.string y, vb, pb] 25)
  have hE := oEqVars xs ys va vb _ (hva.below hB) (hvb.below hB)
  have hF := fun w2 (hb2 : Below ((w.alloc (.cells #[.string x, va, pa] 25)).alloc (.cells #[.string y, vb, pb] 25)).heap.size ((w.alloc (.cells #[.string x, va, pa] 25)).alloc (.cells #[.string y, vb, pb] 25)) w2) =>
    oEqProcs xp yp pa pb w2 ((hpa.below hB).below hb2) ((hpb.below hB).below hb2)
  obtain ⟨V, hV⟩ : ∃ V, V = sameB ⟨x, xs, xp⟩ ⟨y, ys, yp⟩ := ⟨_, rfl⟩
  rw [← hV]
  have HV : Hid (V = ((x.toList == y.toList) && (all2 sameVarB xs ys && all2 sameProcB xp yp))) := hV
  clear hV
  cases h0 : (x.toList == y.toList)
  · have HF : Hid (V = false) := by show _ = _; rw [HV.out, h0]; rfl
    go_enter Tryz.func82, Tryz.ntmps82
    go_wp2
    go_ret
    exact ⟨ret_b HF.out.symm, hB⟩
  cases h1 : all2 sameVarB xs ys
  · have HF : Hid (V = false) := by show _ = _; rw [HV.out, h0, h1]; rfl
    go_enter Tryz.func82, Tryz.ntmps82
    go_wp2_with (go_at_call 120; refine hE.mono ?_; rw [h1]; rintro e w2 ⟨rfl, hb2⟩)
    go_ret
    exact ⟨ret_b HF.out.symm, hB.trans (hb2.mono (by simp; omega))⟩
  have HF : Hid (V = all2 sameProcB xp yp) := by show _ = _; rw [HV.out, h0, h1]; rfl
  go_enter Tryz.func82, Tryz.ntmps82
  go_wp2_with first
    | (go_at_call 120; refine hE.mono ?_; rw [h1]; rintro e w2 ⟨rfl, hb2⟩; obtain ⟨r2, r2'⟩ := two_box hb2 2; simp at r2 r2'; have hG := hF w2 hb2)
    | (go_at_call 121; refine hG.mono ?_; rintro e w3 ⟨rfl, hb3⟩)
  go_ret
  have hbb : Below w.heap.size w w2 := hB.trans (hb2.mono (by simp; omega))
  exact ⟨ret_b HF.out.symm, hbb.trans (hb3.mono hbb.size)⟩
end Go.Proofs.YtaiocbbcjdpjgaaGreatDoor.face
