/- What the program tells of two procedures: contracts. -/
import Derived.Test.YtaiocbbcjdpjgaaGreatDoorProg
import Derived.WalkKit
import Derived.WalkLawsBesides
import Derived.Outline
import Derived.WalkSmall
import Derived.BigQuiet
import Derived.Deep.QuietTactic
import Derived.Deep.RegionWith
import Derived.Test.YtaiocbbcjdpjgaaGreatDoorLMFaceOwnA
namespace Go.Proofs.YtaiocbbcjdpjgaaGreatDoor.face
open Go.RowKit
open Go.Proofs.YtaiocbbcjdpjgaaGreatDoor.lexs (HasErr)
open Go.Proofs.YtaiocbbcjdpjgaaGreatDoor.syn (isName eqS)
set_option linter.unusedVariables false
set_option linter.unusedSimpArgs false
set_option maxRecDepth 100000

set_option maxHeartbeats 1000000 in
theorem oEqInts (l m : List Int) (u v : Value) (w : World) (hu : IntsIn w u l) (hv : IntsIn w v m) :
    Calls Tryz.prog 146 #[u, v] w fun e w' => e = .returned (.bool (l == m)) ∧ Below w.heap.size w w' := by
  rw [ints_all2]
  obtain ⟨V, hV⟩ : ∃ V, V = all2 (fun a b => a == b) l m := ⟨_, rfl⟩
  rw [← hV]
  have HV : Hid (V = all2 (fun a b => a == b) l m) := hV
  clear hV
  obtain ⟨a, c, rfl, hl, hk⟩ := hu
  obtain ⟨b, d, rfl, hl2, hk2⟩ := hv
  by_cases hlen : l.length = m.length
  case neg =>
    have HF : Hid (V = false) := HV.out.trans (all2_len hlen)
    go_enter Tryz.func146, Tryz.ntmps146
    go_wp2
    go_ret
    exact ⟨ret_b HF.out.symm, Below.refl _ _⟩
  rw [← hlen]
  go_enter Tryz.func146, Tryz.ntmps146
  go_wp2
  go_loopw [13] (fun t wr => ∃ j : Nat, j ≤ l.length ∧ t = .int .i64 j ∧ Below w.heap.size w wr ∧ Hid (∀ i (h : i < l.length) (h2 : i < m.length), i < j → (l[i] == m[i]) = true)) (fun t _ => l.length - (intOf t).toNat)
  case atStart => exact ⟨0, Nat.zero_le _, rfl, Below.refl _ _, fun i _ _ h => by omega⟩
  case round =>
    obtain ⟨j, hj, rfl, hbr, HN⟩ := hrel
    by_cases hlt : j < l.length
    · have hlt2 : j < m.length := by omega
      obtain ⟨g, o, rfl, hc⟩ := hk (by intro e; rw [e] at hlt; simp at hlt)
      obtain ⟨g', o', rfl, hc'⟩ := hk2 (by intro e; rw [e] at hlt2; simp at hlt2)
      have q := keep (hc j hlt) hbr
      have q' := keep (hc' j hlt2) hbr
      cases he : (l[j] == m[j])
      · have HF : Hid (V = false) := HV.out.trans (all2_no j hlt hlt2 he)
        generalize l[j] = y at he q
        generalize m[j] = y' at he q'
        go_wp2
        go_region
        all_goals
          go_wp2
          go_ret
          exact ⟨ret_b HF.out.symm, hbr.drew⟩
      · have HE : Hid ((l[j] == m[j]) = true) := he
        generalize l[j] = y at he q
        generalize m[j] = y' at he q'
        go_wp2
        go_region
        all_goals
          go_wp2
          go_roundw
          case rel => exact ⟨j + 1, by omega, by go_num, hbr.drew, fun i h h2 h1 => by
            rcases Nat.lt_or_ge i j with h3 | h3
            · exact HN.out i h h2 h3
            · have : i = j := by omega
              subst this
              exact HE.out⟩
          case measure => simp [intOf]; omega
    · have HF : Hid (V = true) := HV.out.trans (all2_yes hlen (fun i h h2 => HN.out i h h2 (by omega)))
      go_wp2
      go_ret
      exact ⟨ret_b HF.out.symm, hbr⟩
set_option maxHeartbeats 2000000 in
theorem oSameProc (p q : ProcD) (u v : Value) (w : World) (hu : IntsIn w u p.params) (hv : IntsIn w v q.params) :
    Calls Tryz.prog 122 #[procV p u, procV q v] w fun e w' => e = .returned (.bool (sameProcB p q)) ∧ Below w.heap.size w w' := by
  have c6 : Tryz.prog.cellsOf 120 = 6 := cell6
  obtain ⟨x, P, ps, wt, gs, gn⟩ := p
  obtain ⟨x', P', ps', wt', gs', gn'⟩ := q
  unfold procV
  simp only at hu hv ⊢
  have hB := ((Below.refl w.heap.size w).alloc (Nat.le_refl _) (.cells #[.string x, .bool P, u, .int .i64 wt, .bool gs, .int .i64 gn] 120)).alloc (by simp) (.cells #[.string x', .bool P', v, .int .i64 wt', .bool gs', .int .i64 gn'] 120)
  have hE := oEqInts ps ps' u v _ (hu.below hB) (hv.below hB)
  obtain ⟨V, hV⟩ : ∃ V, V = sameProcB ⟨x, P, ps, wt, gs, gn⟩ ⟨x', P', ps', wt', gs', gn'⟩ := ⟨_, rfl⟩
  rw [← hV]
  have HV : Hid (V = ((x.toList == x'.toList) && (P == P' && (ps == ps' && (wt == wt' && (gs == gs' && gn == gn')))))) := hV
  clear hV
  cases h0 : (x.toList == x'.toList)
  · have HF : Hid (V = false) := by show _ = _; rw [HV.out, h0]; rfl
    go_enter Tryz.func122, Tryz.ntmps122
    go_wp2
    go_ret
    exact ⟨ret_b HF.out.symm, hB⟩
  cases h1 : (P == P')
  · have HF : Hid (V = false) := by show _ = _; rw [HV.out, h0, h1]; rfl
    go_enter Tryz.func122, Tryz.ntmps122
    go_wp2
    go_ret
    exact ⟨ret_b HF.out.symm, hB⟩
  cases h2 : (ps == ps')
  · have HF : Hid (V = false) := by show _ = _; rw [HV.out, h0, h1, h2]; rfl
    go_enter Tryz.func122, Tryz.ntmps122
    go_wp2_with (go_at_call 146; refine hE.mono ?_; rw [h2]; rintro e w2 ⟨rfl, hb2⟩)
    go_ret
    exact ⟨ret_b HF.out.symm, hB.trans (hb2.mono (by simp; omega))⟩
  have HW : Hid (V = (wt == wt' && (gs == gs' && gn == gn'))) := by show _ = _; rw [HV.out, h0, h1, h2]; rfl
  clear HV
  cases h3 : (wt == wt')
  · have HF : Hid (V = false) := by show _ = _; rw [HW.out, h3]; rfl
    go_enter Tryz.func122, Tryz.ntmps122
    go_wp2_with (go_at_call 146; refine hE.mono ?_; rw [h2]; rintro e w2 ⟨rfl, hb2⟩; obtain ⟨r3, r3'⟩ := two_box hb2 3; simp at r3 r3')
    go_ret
    exact ⟨ret_b HF.out.symm, hB.trans (hb2.mono (by simp; omega))⟩
  cases h4 : (gs == gs')
  · have HF : Hid (V = false) := by show _ = _; rw [HW.out, h3, h4]; rfl
    go_enter Tryz.func122, Tryz.ntmps122
    go_wp2_with (go_at_call 146; refine hE.mono ?_; rw [h2]; rintro e w2 ⟨rfl, hb2⟩; obtain ⟨r3, r3'⟩ := two_box hb2 3; obtain ⟨r4, r4'⟩ := two_box hb2 4; simp at r3 r3' r4 r4')
    go_ret
    exact ⟨ret_b HF.out.symm, hB.trans (hb2.mono (by simp; omega))⟩
  have HF : Hid (V = (gn == gn')) := by show _ = _; rw [HW.out, h3, h4]; rfl
  go_enter Tryz.func122, Tryz.ntmps122
  go_wp2_with (go_at_call 146; refine hE.mono ?_; rw [h2]; rintro e w2 ⟨rfl, hb2⟩; obtain ⟨r3, r3'⟩ := two_box hb2 3; obtain ⟨r4, r4'⟩ := two_box hb2 4; obtain ⟨r5, r5'⟩ := two_box hb2 5; simp at r3 r3' r4 r4' r5 r5')
  go_ret
  exact ⟨ret_b HF.out.symm, hB.trans (hb2.mono (by simp; omega))⟩
end Go.Proofs.YtaiocbbcjdpjgaaGreatDoor.face
