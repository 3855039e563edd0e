/- What the reference's isLabel, Place, proc and Same answer: contracts. -/
import Derived.Test.YthfeojjfehbgjaaGreatDoorProg
import Derived.WalkKit
import Derived.WalkLawsBesides
import Derived.Outline
import Derived.WalkSmall
import Derived.BigQuiet
import Derived.Deep.QuietTactic
import Derived.Deep.RegionWith
import Derived.Test.YthfeojjfehbgjaaGreatDoorOGFaceMem
namespace Go.Proofs.YthfeojjfehbgjaaGreatDoor.face
open Go.RowKit
open Go.Proofs.YthfeojjfehbgjaaGreatDoor.syn (isName eqS)
set_option linter.unusedVariables false
set_option linter.unusedSimpArgs false
set_option maxRecDepth 100000

theorem two_boxR {w w2 : World} {cs ds : Array Value} {T : TypeId} (hb : Below ((w.alloc (.cells cs T)).alloc (.cells ds T)).heap.size ((w.alloc (.cells cs T)).alloc (.cells ds T)) w2) (k : Nat) : w2.cell? ⟨w.heap.size, k, none⟩ = cs[k]? ∧ w2.cell? ⟨w.heap.size + 1, k, none⟩ = ds[k]? := by
  constructor
  · rw [hb.cell (p := ⟨w.heap.size, k, none⟩) (by simp; omega)]
    simp
  · rw [hb.cell (p := ⟨w.heap.size + 1, k, none⟩) (by simp)]
    simp
theorem below_allocs {w : World} (o o' : Obj) : Below w.heap.size w ((w.alloc o).alloc o') := ((Below.refl _ _).alloc (Nat.le_refl _) o).alloc (by simp) o'
theorem IntsIn.drew {w : World} {v : Value} {l : List Int} (h : IntsIn w v l) : IntsIn w.drew v l := by
  obtain ⟨a, c, e, hl, hk⟩ := h
  exact ⟨a, c, e, hl, hk⟩
theorem below_two {w w2 : World} {o o' : Obj} (hb : Below ((w.alloc o).alloc o').heap.size ((w.alloc o).alloc o') w2) : Below w.heap.size w w2 :=
  (((Below.refl _ _).alloc (Nat.le_refl _) o).alloc (by simp) o').trans (hb.mono (by simp; omega))
set_option maxHeartbeats 2000000 in
theorem rProc (p q : ProcD) (u v : Value) (w : World) (hu : IntsIn w u p.params) (hv : IntsIn w v q.params) :
    Calls Tryz.prog 62 #[procV p u, procV q v] w fun e w' => e = .returned (.bool (sameProcB p q)) ∧ Below w.heap.size w w' := by
  have c6 : Tryz.prog.cellsOf 102 = 6 := cell6
  obtain ⟨x, P, ps, wt, gs, gn⟩ := p
  obtain ⟨x', P', ps', wt', gs', gn'⟩ := q
  unfold procV
  simp only at hu hv ⊢
  have hB := ((Below.refl w.heap.size w).alloc (Nat.le_refl _) (.cells #[.string x, .bool P, u, .int .i64 wt, .bool gs, .int .i64 gn] 102)).alloc (by simp) (.cells #[.string x', .bool P', v, .int .i64 wt', .bool gs', .int .i64 gn'] 102)
  obtain ⟨V, hV⟩ : ∃ V, V = sameProcB ⟨x, P, ps, wt, gs, gn⟩ ⟨x', P', ps', wt', gs', gn'⟩ := ⟨_, rfl⟩
  rw [← hV]
  have HV : Hid (V = ((x.toList == x'.toList) && (P == P' && (ps == ps' && (wt == wt' && (gs == gs' && gn == gn')))))) := hV
  clear hV
  obtain ⟨a, c, rfl, hl, hk⟩ := hu
  obtain ⟨b, d, rfl, hl2, hk2⟩ := hv
  cases h0 : (x.toList == x'.toList)
  · have HF : Hid (V = false) := by show _ = _; rw [HV.out, h0]; rfl
    go_enter Tryz.func62, Tryz.ntmps62
    go_wp2
    go_ret
    exact ⟨ret_b HF.out.symm, below_allocs _ _⟩
  by_cases h1 : P = P'
  case neg =>
    have HF : Hid (V = false) := by show _ = _; rw [HV.out, h0, beq_false_of_ne h1]; simp
    go_enter Tryz.func62, Tryz.ntmps62
    go_wp2
    go_ret
    exact ⟨ret_b HF.out.symm, below_allocs _ _⟩
  subst h1
  by_cases h3 : wt = wt'
  case neg =>
    have HF : Hid (V = false) := by show _ = _; rw [HV.out, h0, beq_false_of_ne h3]; simp
    go_enter Tryz.func62, Tryz.ntmps62
    go_wp2
    go_ret
    exact ⟨ret_b HF.out.symm, below_allocs _ _⟩
  subst h3
  by_cases h4 : gs = gs'
  case neg =>
    have HF : Hid (V = false) := by show _ = _; rw [HV.out, h0, beq_false_of_ne h4]; simp
    go_enter Tryz.func62, Tryz.ntmps62
    go_wp2
    go_ret
    exact ⟨ret_b HF.out.symm, below_allocs _ _⟩
  subst h4
  by_cases h5 : gn = gn'
  case neg =>
    have HF : Hid (V = false) := by show _ = _; rw [HV.out, h0, beq_false_of_ne h5]; simp
    go_enter Tryz.func62, Tryz.ntmps62
    go_wp2
    go_ret
    exact ⟨ret_b HF.out.symm, below_allocs _ _⟩
  subst h5
  have HW : Hid (V = all2 (fun a b => a == b) ps ps') := by show _ = _; rw [HV.out, h0, ints_all2]; simp
  clear HV
  by_cases hlen : ps.length = ps'.length
  case neg =>
    have HF : Hid (V = false) := HW.out.trans (all2_len hlen)
    go_enter Tryz.func62, Tryz.ntmps62
    go_wp2
    go_ret
    exact ⟨ret_b HF.out.symm, below_allocs _ _⟩
  rw [← hlen] at hB ⊢
  have HL : Hid (ps.length = ps'.length) := hlen
  clear hlen
  go_enter Tryz.func62, Tryz.ntmps62
  go_wp2
  go_loopw [5] (fun t wr => ∃ j : Nat, j ≤ ps.length ∧ t = .int .i64 j ∧ Below ((w.alloc (.cells #[.string x, .bool P, .slice a ps.length c, .int .i64 wt, .bool gs, .int .i64 gn] 102)).alloc (.cells #[.string x', .bool P, .slice b ps.length d, .int .i64 wt, .bool gs, .int .i64 gn] 102)).heap.size ((w.alloc (.cells #[.string x, .bool P, .slice a ps.length c, .int .i64 wt, .bool gs, .int .i64 gn] 102)).alloc (.cells #[.string x', .bool P, .slice b ps.length d, .int .i64 wt, .bool gs, .int .i64 gn] 102)) wr ∧ Hid (∀ i (h : i < ps.length) (h2 : i < ps'.length), i < j → (ps[i] == ps'[i]) = true)) (fun t _ => ps.length - (intOf t).toNat)
  case atStart => exact ⟨0, Nat.zero_le _, rfl, Below.refl _ _, fun i _ _ h => by omega⟩
  case round =>
    obtain ⟨j, hj, rfl, hbr, HN⟩ := hrel
    obtain ⟨r2, r2'⟩ := two_boxR hbr 2
    simp at r2 r2'
    have hbw := below_two hbr
    by_cases hlt : j < ps.length
    · have hlt2 : j < ps'.length := by have := HL.out; omega
      obtain ⟨g, o, rfl, hc⟩ := hk (by intro e; rw [e] at hlt; simp at hlt)
      obtain ⟨g', o', rfl, hc'⟩ := hk2 (by intro e; rw [e] at hlt2; simp at hlt2)
      have q := keep (hc j hlt) hbw
      have q' := keep (hc' j hlt2) hbw
      cases he : (ps[j] == ps'[j])
      · have HF : Hid (V = false) := HW.out.trans (all2_no j hlt hlt2 he)
        generalize ps[j] = y at he q
        generalize ps'[j] = y' at he q'
        go_wp2
        go_region
        all_goals
          go_wp2
          go_ret
          exact ⟨ret_b HF.out.symm, hbw.drew⟩
      · have HE : Hid ((ps[j] == ps'[j]) = true) := he
        generalize ps[j] = y at he q
        generalize ps'[j] = y' at he q'
        go_wp2
        go_region
        all_goals
          go_wp2
          go_roundw
          case rel => exact ⟨j + 1, by omega, by go_num, hbr.drew, fun i h h2 h1 => by
            rcases Nat.lt_or_ge i j with h3 | h3
            · exact HN.out i h h2 h3
            · have : i = j := by omega
              subst this
              exact HE.out⟩
          case measure => simp [intOf]; omega
    · have HF : Hid (V = true) := HW.out.trans (all2_yes HL.out (fun i h h2 => HN.out i h h2 (by omega)))
      go_wp2
      go_ret
      exact ⟨ret_b HF.out.symm, hbw⟩
structure Two (w wr : World) (x y : ByteArray) (va pa vb pb : Value) : Prop where
  below : Below w.heap.size w wr
  lt : w.heap.size + 1 < wr.heap.size
  a0 : wr.cell? ⟨w.heap.size, 0, none⟩ = some (.string x)
  a1 : wr.cell? ⟨w.heap.size, 1, none⟩ = some va
  a2 : wr.cell? ⟨w.heap.size, 2, none⟩ = some pa
  b0 : wr.cell? ⟨w.heap.size + 1, 0, none⟩ = some (.string y)
  b1 : wr.cell? ⟨w.heap.size + 1, 1, none⟩ = some vb
  b2 : wr.cell? ⟨w.heap.size + 1, 2, none⟩ = some pb
theorem Two.next {w wr w2 : World} {x y : ByteArray} {va pa vb pb : Value} (h : Two w wr x y va pa vb pb) (hb : Below wr.heap.size wr w2) : Two w w2 x y va pa vb pb :=
  ⟨h.below.trans (hb.mono h.below.size), Nat.lt_of_lt_of_le h.lt hb.size, keep h.a0 hb, keep h.a1 hb, keep h.a2 hb, keep h.b0 hb, keep h.b1 hb, keep h.b2 hb⟩
set_option maxHeartbeats 4000000 in
theorem rSame (a b : FaceD) (u v : Value) (w : World) (hu : FaceIn w u a) (hv : FaceIn w v b) :
    Calls Tryz.prog 35 #[u, v] w fun e w' => e = .returned (.bool (sameB a b)) ∧ Below w.heap.size w w' := by
  have c3 : Tryz.prog.cellsOf 25 = 3 := cell3
  have c4 : Tryz.prog.cellsOf 100 = 4 := cell4
  have c6 : Tryz.prog.cellsOf 102 = 6 := cell6
  obtain ⟨va, pa, rfl, hva, hpa⟩ := hu
  obtain ⟨vb, pb, rfl, hvb, hpb⟩ := hv
  obtain ⟨x, xs, xp⟩ := a
  obtain ⟨y, ys, yp⟩ := b
  simp only at hva hpa hvb hpb ⊢
  obtain ⟨a, c, rfl, hl, hk⟩ := hva
  obtain ⟨a2, c2, rfl, hl2, hk2⟩ := hpa
  obtain ⟨b, d, rfl, hm, hn⟩ := hvb
  obtain ⟨b2, d2, rfl, hm2, hn2⟩ := hpb
  have hB := below_allocs (w := w) (.cells #[.string x, .slice a xs.length c, .slice a2 xp.length c2] 25) (.cells #[.string y, .slice b ys.length d, .slice b2 yp.length d2] 25)
  obtain ⟨V, hV⟩ : ∃ V, V = sameB ⟨x, xs, xp⟩ ⟨y, ys, yp⟩ := ⟨_, rfl⟩
  rw [← hV]
  have HV : Hid (V = ((x.toList == y.toList) && (all2 sameVarB xs ys && all2 sameProcB xp yp))) := hV
  clear hV
  cases h0 : (x.toList == y.toList)
  · have HF : Hid (V = false) := by show _ = _; rw [HV.out, h0]; rfl
    go_enter Tryz.func35, Tryz.ntmps35
    go_wp2
    go_ret
    exact ⟨ret_b HF.out.symm, below_allocs _ _⟩
  by_cases hlen : xs.length = ys.length
  case neg =>
    have HF : Hid (V = false) := by show _ = _; rw [HV.out, h0, all2_len hlen]; rfl
    go_enter Tryz.func35, Tryz.ntmps35
    go_wp2
    go_ret
    exact ⟨ret_b HF.out.symm, below_allocs _ _⟩
  by_cases hlen2 : xp.length = yp.length
  case neg =>
    have HF : Hid (V = false) := by show _ = _; rw [HV.out, h0, all2_len hlen2]; simp
    go_enter Tryz.func35, Tryz.ntmps35
    go_wp2
    go_ret
    exact ⟨ret_b HF.out.symm, below_allocs _ _⟩
  have HW : Hid (V = (all2 sameVarB xs ys && all2 sameProcB xp yp)) := by show _ = _; rw [HV.out, h0]; rfl
  clear HV
  rw [← hlen, ← hlen2] at hB ⊢
  have HL : Hid (xs.length = ys.length) := hlen
  have HL2 : Hid (xp.length = yp.length) := hlen2
  clear hlen hlen2
  have hT0 : Two w ((w.alloc (.cells #[.string x, .slice a xs.length c, .slice a2 xp.length c2] 25)).alloc (.cells #[.string y, .slice b xs.length d, .slice b2 xp.length d2] 25)) x y (.slice a xs.length c) (.slice a2 xp.length c2) (.slice b xs.length d) (.slice b2 xp.length d2) :=
    ⟨hB, by simp, by simp, by simp, by simp, by simp, by simp, by simp⟩
  go_enter Tryz.func35, Tryz.ntmps35
  go_wp2
  go_loopw [5] (fun t wr => ∃ j : Nat, j ≤ xs.length ∧ t = .int .i64 j ∧ Two w wr x y (.slice a xs.length c) (.slice a2 xp.length c2) (.slice b xs.length d) (.slice b2 xp.length d2) ∧ Hid (∀ i (h : i < xs.length) (h2 : i < ys.length), i < j → sameVarB xs[i] ys[i] = true)) (fun t _ => xs.length - (intOf t).toNat)
  case atStart => exact ⟨0, Nat.zero_le _, rfl, hT0, fun i _ _ h => by omega⟩
  case round =>
    clear hT0 hB
    obtain ⟨j, hj, rfl, hT, HN⟩ := hrel
    have ta1 := hT.a1
    by_cases hlt : j < xs.length
    · have hlt2 : j < ys.length := by have := HL.out; omega
      obtain ⟨g, o, rfl, hc⟩ := hk (by intro e; rw [e] at hlt; simp at hlt)
      obtain ⟨g', o', rfl, hc'⟩ := hn (by intro e; rw [e] at hlt2; simp at hlt2)
      obtain ⟨k0, k1, k2, k3⟩ := hc j hlt
      obtain ⟨n0, n1, n2, n3⟩ := hc' j hlt2
      have q0 := keep k0 hT.below
      have q1 := keep k1 hT.below
      have q2 := keep k2 hT.below
      have q3 := keep k3 hT.below
      have tb1 := fun ob => cell_new hT.b1 ob
      have r0 := fun ob => cell_new (keep n0 hT.below) ob
      have r1 := fun ob => cell_new (keep n1 hT.below) ob
      have r2 := fun ob => cell_new (keep n2 hT.below) ob
      have r3 := fun ob => cell_new (keep n3 hT.below) ob
      clear k0 k1 k2 k3 n0 n1 n2 n3
      obtain ⟨X, hX⟩ : ∃ X, X = sameVarB xs[j] ys[j] := ⟨_, rfl⟩
      have HX : Hid (X = sameVarB xs[j] ys[j]) := hX
      have HY : Hid (X = false → V = false) := fun h => HW.out.trans (by rw [all2_no j hlt hlt2 (by rw [← HX.out]; exact h)]; rfl)
      unfold sameVarB eqS at hX
      generalize xs[j].name = s0, xs[j].pub = s1, xs[j].label = s2, xs[j].size = s3 at hX q0 q1 q2 q3
      generalize ys[j].name = t0, ys[j].pub = t1, ys[j].label = t2, ys[j].size = t3 at hX r0 r1 r2 r3
      cases e0 : (s0.toList == t0.toList)
      case false =>
        have HF : Hid (V = false) := HY.out (by rw [hX, e0]; rfl)
        go_wp2
        go_ret
        exact ⟨ret_b HF.out.symm, (hT.next (below_allocs _ _)).below⟩
      by_cases e1 : s1 = t1
      case neg =>
        have HF : Hid (V = false) := HY.out (by rw [hX, beq_false_of_ne e1]; simp)
        go_wp2
        go_ret
        exact ⟨ret_b HF.out.symm, (hT.next (below_allocs _ _)).below⟩
      subst e1
      by_cases e2 : s2 = t2
      case neg =>
        have HF : Hid (V = false) := HY.out (by rw [hX, beq_false_of_ne e2]; simp)
        go_wp2
        go_ret
        exact ⟨ret_b HF.out.symm, (hT.next (below_allocs _ _)).below⟩
      subst e2
      by_cases e3 : s3 = t3
      case neg =>
        have HF : Hid (V = false) := HY.out (by rw [hX, beq_false_of_ne e3]; simp)
        go_wp2
        go_ret
        exact ⟨ret_b HF.out.symm, (hT.next (below_allocs _ _)).below⟩
      subst e3
      have HE : Hid (sameVarB xs[j] ys[j] = true) := HX.out.symm.trans (by rw [hX, e0]; simp)
      clear HX HY hX
      go_wp2
      go_roundw
      case rel => exact ⟨j + 1, by omega, by go_num, hT.next (below_allocs _ _), fun i h h2 h1 => by
        rcases Nat.lt_or_ge i j with h3 | h3
        · exact HN.out i h h2 h3
        · have : i = j := by omega
          subst this
          exact HE.out⟩
      case measure => simp [intOf]; omega
    · have HA : Hid (V = all2 sameProcB xp yp) := by show _ = _; rw [HW.out, all2_yes HL.out (fun i h h2 => HN.out i h h2 (by omega))]; rfl
      clear HW HN hk hn
      have ta2 := hT.a2
      go_wp2
      go_loopw [8] (fun t wr => ∃ j : Nat, j ≤ xp.length ∧ t = .int .i64 j ∧ Two w wr x y (.slice a xs.length c) (.slice a2 xp.length c2) (.slice b xs.length d) (.slice b2 xp.length d2) ∧ Hid (∀ i (h : i < xp.length) (h2 : i < yp.length), i < j → sameProcB xp[i] yp[i] = true)) (fun t _ => xp.length - (intOf t).toNat)
      case atStart => exact ⟨0, Nat.zero_le _, rfl, hT, fun i _ _ h => by omega⟩
      case round =>
        clear hT ta1 ta2
        obtain ⟨j, hj, rfl, hT, HN⟩ := hrel
        have ta2 := hT.a2
        have tb2 := hT.b2
        by_cases hlt : j < xp.length
        · have hlt2 : j < yp.length := by have := HL2.out; omega
          obtain ⟨g, o, rfl, hc⟩ := hk2 (by intro e; rw [e] at hlt; simp at hlt)
          obtain ⟨g', o', rfl, hc'⟩ := hn2 (by intro e; rw [e] at hlt2; simp at hlt2)
          obtain ⟨k0, k1, ⟨z, k2, hz⟩, k3, k4, k5⟩ := hc j hlt
          obtain ⟨n0, n1, ⟨t, n2, ht⟩, n3, n4, n5⟩ := hc' j hlt2
          have hz' := hz
          have ht' := ht
          obtain ⟨az, cz, rfl, _, _⟩ := hz'
          obtain ⟨at', ct, rfl, _, _⟩ := ht'
          have q0 := keep k0 hT.below
          have q1 := keep k1 hT.below
          have q2 := keep k2 hT.below
          have q3 := keep k3 hT.below
          have q4 := keep k4 hT.below
          have q5 := keep k5 hT.below
          have r0 := keep n0 hT.below
          have r1 := keep n1 hT.below
          have r2 := keep n2 hT.below
          have r3 := keep n3 hT.below
          have r4 := keep n4 hT.below
          have r5 := keep n5 hT.below
          clear k0 k1 k2 k3 k4 k5 n0 n1 n2 n3 n4 n5
          have hP := rProc xp[j] yp[j] _ _ wr.drew (hz.below hT.below).drew (ht.below hT.below).drew
          unfold procV at hP
          cases he : sameProcB xp[j] yp[j]
          · have HF : Hid (V = false) := HA.out.trans (all2_no j hlt hlt2 he)
            rw [he] at hP
            go_wp2
            go_region_with (go_at_call 62; refine hP.mono ?_; rintro e w1 ⟨rfl, hb1⟩)
            all_goals
              go_wp2
              go_ret
              exact ⟨ret_b HF.out.symm, (hT.next (w2 := w1) ⟨hb1.os, hb1.tape, hb1.output, hb1.size, hb1.block⟩).below⟩
          · have HE : Hid (sameProcB xp[j] yp[j] = true) := he
            rw [he] at hP
            go_wp2
            go_region_with (go_at_call 62; refine hP.mono ?_; rintro e w1 ⟨rfl, hb1⟩)
            all_goals
              go_wp2
              go_roundw
              case rel => exact ⟨j + 1, by omega, by go_num, hT.next (w2 := w1) ⟨hb1.os, hb1.tape, hb1.output, hb1.size, hb1.block⟩, fun i h h2 h1 => by
                rcases Nat.lt_or_ge i j with h3 | h3
                · exact HN.out i h h2 h3
                · have : i = j := by omega
                  subst this
                  exact HE.out⟩
              case measure => simp [intOf]; omega
        · have HF : Hid (V = true) := HA.out.trans (all2_yes HL2.out (fun i h h2 => HN.out i h h2 (by omega)))
          go_wp2
          go_ret
          exact ⟨ret_b HF.out.symm, hT.below⟩
end Go.Proofs.YthfeojjfehbgjaaGreatDoor.face
