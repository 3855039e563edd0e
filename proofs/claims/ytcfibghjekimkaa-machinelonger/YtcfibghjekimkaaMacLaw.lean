/- What begins and same answer, and Run at last: contracts. -/
import Derived.Test.YtcfibghjekimkaaMacRunC
namespace Go.Proofs.Ytcfibghjekimkaa.mac
open Go.RowKit
set_option linter.unusedVariables false
set_option linter.unusedSimpArgs false
set_option maxRecDepth 100000
set_option maxHeartbeats 1000000 in
theorem oBegins (x y : List Int) (v u : Value) (w : World) (hv : IntsIn w v x) (hu : IntsIn w u y) (hp : y <+: x) (hx : x.length ≤ 90000) :
    Calls Try.prog 5 #[v, u] w fun e w' => e = .returned (.bool true) ∧ Below w.heap.size w w' := by
  have hle := hp.length_le
  obtain ⟨a, c, rfl, hk⟩ := hv
  obtain ⟨a', c', rfl, hk'⟩ := hu
  have hlt : ¬ ((x.length : Int) < (y.length : Int)) := by omega
  go_enter Try.func5, Try.ntmps5
  go_wp2
  go_loopw [5] (fun t wr => ∃ k : Nat, k ≤ y.length ∧ t = .int .i64 k ∧ Below w.heap.size w wr) (fun t _ => y.length - (intOf t).toNat)
  case atStart => exact ⟨0, Nat.zero_le _, rfl, Below.refl _ _⟩
  case round =>
    obtain ⟨k, hkl, rfl, hB⟩ := hrel
    by_cases hl : k < y.length
    · obtain ⟨g, o, rfl, hc⟩ := hk (by intro e; rw [e] at hle; simp at hle; rw [hle] at hl; simp at hl)
      obtain ⟨g', o', rfl, hc'⟩ := hk' (by intro e; rw [e] at hl; simp at hl)
      have q := keep (hc k (by omega)) hB
      have q' := keep (hc' k hl) hB
      have e : x[k]'(by omega) = y[k] := by
        obtain ⟨t, rfl⟩ := hp
        simp [hl]
      rw [e] at q
      generalize y[k] = z at *
      have hkx : (k : Int) < (x.length : Int) := by omega
      have hky : (k : Int) < (y.length : Int) := by omega
      have hS : wr.drew.cell? ⟨g, o + k, none⟩ = some (.int .i64 z) ∧ wr.drew.cell? ⟨g', o' + k, none⟩ = some (.int .i64 z) := ⟨by simpa using q, by simpa using q'⟩
      clear hc hc' hk hk' e hp q q'
      go_wp2
      refine wp_region_held_drew (S := fun W => W.cell? ⟨g, o + k, none⟩ = some (.int .i64 z) ∧ W.cell? ⟨g', o' + k, none⟩ = some (.int .i64 z)) (by kernel_rfl) hS (fun hHeld => ?_)
      clear hHeld
      have hB1 := hB.drew
      clear hB
      generalize wr.drew = W at *
      refine tkd (i := 0) (v := .slice (some ⟨g, o, none⟩) x.length c) rfl rfl (by kernel_rfl) (by kernel_rfl) (by kernel_rfl) (fun _ _ _ h => h) (Or.inl ⟨by rfl, fun w hSw => by skip; go_simp⟩) hS ?_
      simp only [List.setIfInBounds_toArray, List.set_cons_zero, List.set_cons_succ]
      refine tkd (i := 1) (v := .int .i64 k) rfl rfl (by kernel_rfl) (by kernel_rfl) (by kernel_rfl) (fun _ _ _ h => h) (Or.inl ⟨by rfl, fun w hSw => by skip; go_simp⟩) hS ?_
      simp only [List.setIfInBounds_toArray, List.set_cons_zero, List.set_cons_succ]
      refine tkd (i := 2) (v := .pointer (some ⟨g, o + k, none⟩)) rfl rfl (by kernel_rfl) (by kernel_rfl) (by kernel_rfl) (fun _ _ _ h => h) (Or.inl ⟨by rfl, fun w hSw => by skip; go_simp⟩) hS ?_
      simp only [List.setIfInBounds_toArray, List.set_cons_zero, List.set_cons_succ]
      refine tkd (i := 3) (v := .int .i64 z) rfl rfl (by kernel_rfl) (by kernel_rfl) (by kernel_rfl) (fun _ _ _ h => h) (Or.inl ⟨by rfl, fun w hSw => by have y := hSw.1; go_simp⟩) hS ?_
      simp only [List.setIfInBounds_toArray, List.set_cons_zero, List.set_cons_succ]
      refine tkd (i := 4) (v := .slice (some ⟨g', o', none⟩) y.length c') rfl rfl (by kernel_rfl) (by kernel_rfl) (by kernel_rfl) (fun _ _ _ h => h) (Or.inl ⟨by rfl, fun w hSw => by skip; go_simp⟩) hS ?_
      simp only [List.setIfInBounds_toArray, List.set_cons_zero, List.set_cons_succ]
      refine tkd (i := 5) (v := .int .i64 k) rfl rfl (by kernel_rfl) (by kernel_rfl) (by kernel_rfl) (fun _ _ _ h => h) (Or.inl ⟨by rfl, fun w hSw => by skip; go_simp⟩) hS ?_
      simp only [List.setIfInBounds_toArray, List.set_cons_zero, List.set_cons_succ]
      refine tkd (i := 6) (v := .pointer (some ⟨g', o' + k, none⟩)) rfl rfl (by kernel_rfl) (by kernel_rfl) (by kernel_rfl) (fun _ _ _ h => h) (Or.inl ⟨by rfl, fun w hSw => by skip; go_simp⟩) hS ?_
      simp only [List.setIfInBounds_toArray, List.set_cons_zero, List.set_cons_succ]
      refine tkd (i := 7) (v := .int .i64 z) rfl rfl (by kernel_rfl) (by kernel_rfl) (by kernel_rfl) (fun _ _ _ h => h) (Or.inl ⟨by rfl, fun w hSw => by have y := hSw.2; go_simp⟩) hS ?_
      simp only [List.setIfInBounds_toArray, List.set_cons_zero, List.set_cons_succ]
      refine tkd (i := 8) (v := .bool false) rfl rfl (by kernel_rfl) (by kernel_rfl) (by kernel_rfl) (fun _ _ _ h => h) (Or.inl ⟨by rfl, fun w hSw => by skip; go_simp⟩) hS ?_
      simp only [List.setIfInBounds_toArray, List.set_cons_zero, List.set_cons_succ]
      refine wpAnyH_done (by kernel_rfl) ?_ _
      go_wp2
      go_roundw
      case rel => exact ⟨k + 1, by omega, by go_num, hB1⟩
      case measure => simp [intOf]; omega
    · clear hk hk' hp
      go_wp2
      go_ret
      exact ⟨rfl, hB⟩
theorem oSame (x : List Int) (v u : Value) (w : World) (hv : IntsIn w v x) (hu : IntsIn w u x) (hx : x.length ≤ 90000) :
    Calls Try.prog 6 #[v, u] w fun e w' => e = .returned (.bool true) ∧ Below w.heap.size w w' := by
  have hc := oBegins x x v u w hv hu List.prefix_rfl hx
  obtain ⟨a, c, rfl, hk⟩ := hv
  obtain ⟨a', c', rfl, hk'⟩ := hu
  clear hk hk'
  go_enter Try.func6, Try.ntmps6
  go_wp2_with (go_at_call 5; refine hc.mono ?_; rintro e w1 ⟨rfl, hb⟩)
  go_ret
  exact ⟨rfl, hb⟩
theorem oRun (code : List Ins) (cv : Value) (lo hi : Int) (il ih : Value) (iL iH : List Int) (fuel : Int) (w : World) (hc : CodeIn w cv code) (hL : IntsIn w il iL) (hH : IntsIn w ih iH) :
    Calls Try.prog 4 #[imgV cv lo hi, il, ih, .int .i64 fuel] w (RunE w code lo hi iL iH fuel) := by
  obtain ⟨a, cl, rfl, _⟩ := id hL
  obtain ⟨b, ch, rfl, _⟩ := id hH
  cases hm : mayB code lo hi with
  | false =>
    have e : runC code lo hi iL.length iH.length fuel = 2 := by unfold runC; rw [hm]; rfl
    exact (oRunBad code cv lo hi _ _ fuel w hc hm).mono fun e' w' h => ⟨h.2, fun _ => by rw [e]; exact h.1, fun h0 => by rw [e] at h0; cases h0⟩
  | true =>
    have e : runC code lo hi iL.length iH.length fuel = newC iL.length iH.length fuel 90000 := by unfold runC; rw [hm]; rfl
    by_cases hk : newC iL.length iH.length fuel 90000 = 0
    · have hm2 := hm
      unfold mayB at hm2
      rw [Bool.and_eq_true] at hm2
      obtain ⟨_, _, h3, h4⟩ := head_yes hm2.1
      simp [upB] at h3 h4
      obtain ⟨l, rfl⟩ : ∃ l : Nat, lo = l := ⟨lo.toNat, by omega⟩
      obtain ⟨h, rfl⟩ : ∃ h : Nat, hi = h := ⟨hi.toNat, by omega⟩
      have hf : 0 ≤ fuel := by
        unfold newC at hk
        split at hk
        · cases hk
        · omega
      obtain ⟨f, rfl⟩ : ∃ f : Nat, fuel = f := ⟨fuel.toNat, by omega⟩
      exact (oRunGo code cv l h (by omega) (by omega) a b cl ch iL iH f w hc hL hH hm hk).mono fun e' w' hh => ⟨hh.1, fun h0 => absurd (e.trans hk) h0, fun _ => hh.2⟩
    · exact (oRunNew code cv lo hi a b _ _ cl ch fuel w hc hm _ rfl hk).mono fun e' w' h => ⟨h.2, fun _ => by rw [e]; exact h.1, fun h0 => by rw [e] at h0; exact absurd h0 hk⟩
end Go.Proofs.Ytcfibghjekimkaa.mac
