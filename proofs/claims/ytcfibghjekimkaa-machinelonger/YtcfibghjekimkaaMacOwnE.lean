/- What the machine's back and call do: contracts. -/
import Derived.Test.YtcfibghjekimkaaMacOwnD
namespace Go.Proofs.Ytcfibghjekimkaa.mac
open Go.RowKit
set_option linter.unusedVariables false
set_option linter.unusedSimpArgs false
set_option maxRecDepth 100000
section
variable {p : Pl} {w0 w w' : World} {vs : Fin 5 → Value} {s : St}
def backF (s : St) : Option Nat × St := if s.backs.length = 0 then (some 6, s) else (none, { s with next := s.backs.getLastD 0, backs := s.backs.dropLast })
set_option maxHeartbeats 1000000 in
theorem oBack (h : MS p w0 vs s w) (hb : s.backs.length ≤ 30) :
    Calls Try.prog 22 #[.pointer (some ⟨p.D, 0, none⟩)] w (Act1 p w0 (backF s)) := by
  obtain ⟨va, vc, hv, hk⟩ := h.shape4
  have m21 := h.tail.2.2
  rw [hv] at m21
  have f21 := h.fz 21
  have f10 := h.fz 10
  have m10 := h.cells.2.2.2.2.2.2.2.2.2.2
  have hlt := h.lt
  by_cases h0 : s.backs.length = 0
  · have HR : Hid (backF s = (some 6, s)) := if_pos h0
    rw [h0] at m21
    clear hk h0
    go_enter Try.func22, Try.ntmps22
    go_wp2
    refine ⟨rfl, ?_⟩
    rw [HR.out]
    exact Act1.end vs h
  · have hne : s.backs ≠ [] := fun e => h0 (by rw [e]; rfl)
    obtain ⟨l, x, hl⟩ : ∃ l x, s.backs = l ++ [x] := ⟨s.backs.dropLast, s.backs.getLast hne, (List.dropLast_concat_getLast hne).symm⟩
    obtain ⟨g, rfl, hcap, hc⟩ := hk hne
    have HR : Hid (backF s = (none, { s with next := x, backs := l })) := by
      show _ = _
      unfold backF
      rw [if_neg h0, hl]
      simp
    have hlen : s.backs.length = l.length + 1 := by rw [hl]; simp
    have q := hc l.length (by omega)
    have ex : s.backs[l.length]'(by omega) = x := by simp [hl]
    rw [ex] at q
    rw [hlen] at hv m21 hcap hb
    have hM := (h.setNext x).pop4 (l := l) (x := x) hl hv
    have e1 : ((l.length + 1 : Nat) : Int) - 1 = (l.length : Int) := by omega
    have hgD : g ≠ p.D := by
      have := h.mem.far 4
      intro e
      exact this (by show (vs 4).ownBlock = _; rw [hv, e]; rfl)
    clear hc hk h0 hne ex hlen
    go_enter Try.func22, Try.ntmps22
    go_wp2
    go_end0
    rw [HR.out]
    exact Act1.go _ hM
def callF (s : St) (n : Nat) : Option Nat × St := if s.backs.length = 30 then (some 5, s) else (none, { s with backs := s.backs ++ [s.next], next := n })
set_option maxHeartbeats 1000000 in
theorem oCall (h : MS p w0 vs s w) (hb : s.backs.length ≤ 30) (n : Nat) :
    Calls Try.prog 21 #[.pointer (some ⟨p.D, 0, none⟩), .int .i64 n] w (Act1 p w0 (callF s n)) := by
  obtain ⟨i0, hi, hz0, hz1, hz2⟩ := info_parts infoI
  obtain ⟨va, vc, hv, hk⟩ := h.shape4
  clear hk
  have m21 := h.tail.2.2
  rw [hv] at m21
  have hlt := h.lt
  have h8 := h.regs
  by_cases h0 : s.backs.length = 30
  · have HR : Hid (callF s n = (some 5, s)) := if_pos h0
    rw [h0] at m21
    go_enter Try.func21, Try.ntmps21
    go_wp2
    refine ⟨rfl, ?_⟩
    rw [HR.out]
    exact Act1.end vs h
  · have HR : Hid (callF s n = (none, { s with backs := s.backs ++ [s.next], next := n })) := if_neg h0
    have h0' : ((s.backs.length : Int) == 30) = false := by simp; omega
    have hD := h.drew
    have hne : (vs 4).ownBlock ≠ some p.D := h.mem.far 4
    have hge := h.mem.ge
    have hS : w.drew.cell? ⟨p.D, 10, none⟩ = some (natV s.next) := hD.cells.2.2.2.2.2.2.2.2.2.2
    go_enter Try.func21, Try.ntmps21
    go_wp2
    refine wp_region_held_drew (S := fun W => W.cell? ⟨p.D, 10, none⟩ = some (natV s.next)) (by kernel_rfl) hS (fun hHeld => ?_)
    clear hHeld h m21 hlt
    generalize w.drew = W at *
    have hlt := hD.lt
    refine tkd (i := 0) (v := .pointer (some ⟨p.D, 0, none⟩)) rfl rfl (by kernel_rfl) (by kernel_rfl) (by kernel_rfl) (fun _ _ _ h => h) (Or.inl ⟨by rfl, fun w hSw => by skip; go_simp⟩) hS ?_
    simp only [List.setIfInBounds_toArray, List.set_cons_zero, List.set_cons_succ]
    refine tkd (i := 1) (v := .pointer (some ⟨p.D, 0, none⟩)) rfl rfl (by kernel_rfl) (by kernel_rfl) (by kernel_rfl) (fun _ _ _ h => h) (Or.inl ⟨by rfl, fun w hSw => by skip; go_simp⟩) hS ?_
    simp only [List.setIfInBounds_toArray, List.set_cons_zero, List.set_cons_succ]
    refine tkd (i := 2) (v := .pointer (some ⟨p.D, 0, none⟩)) rfl rfl (by kernel_rfl) (by kernel_rfl) (by kernel_rfl) (fun _ _ _ h => h) (Or.inl ⟨by rfl, fun w hSw => by skip; go_simp⟩) hS ?_
    simp only [List.setIfInBounds_toArray, List.set_cons_zero, List.set_cons_succ]
    refine tkd (i := 3) (v := .pointer (some ⟨p.D, 21, none⟩)) rfl rfl (by kernel_rfl) (by kernel_rfl) (by kernel_rfl) (fun _ _ _ h => h) (Or.inl ⟨by rfl, fun w hSw => by skip; go_simp⟩) hS ?_
    simp only [List.setIfInBounds_toArray, List.set_cons_zero, List.set_cons_succ]
    refine tkd (i := 5) (v := .pointer (some ⟨p.D, 0, none⟩)) rfl rfl (by kernel_rfl) (by kernel_rfl) (by kernel_rfl) (fun _ _ _ h => h) (Or.inl ⟨by rfl, fun w hSw => by skip; go_simp⟩) hS ?_
    simp only [List.setIfInBounds_toArray, List.set_cons_zero, List.set_cons_succ]
    refine tkd (i := 6) (v := .pointer (some ⟨p.D, 0, none⟩)) rfl rfl (by kernel_rfl) (by kernel_rfl) (by kernel_rfl) (fun _ _ _ h => h) (Or.inl ⟨by rfl, fun w hSw => by skip; go_simp⟩) hS ?_
    simp only [List.setIfInBounds_toArray, List.set_cons_zero, List.set_cons_succ]
    refine tkd (i := 7) (v := .pointer (some ⟨p.D, 10, none⟩)) rfl rfl (by kernel_rfl) (by kernel_rfl) (by kernel_rfl) (fun _ _ _ h => h) (Or.inl ⟨by rfl, fun w hSw => by skip; go_simp⟩) hS ?_
    simp only [List.setIfInBounds_toArray, List.set_cons_zero, List.set_cons_succ]
    refine tkd (i := 8) (v := natV s.next) rfl rfl (by kernel_rfl) (by kernel_rfl) (by kernel_rfl) (fun _ _ _ h => h) (Or.inl ⟨by rfl, fun w hSw => by skip; go_simp⟩) hS ?_
    simp only [List.setIfInBounds_toArray, List.set_cons_zero, List.set_cons_succ]
    have hA := hD.below ((Below.refl _ _).alloc (Nat.le_refl _) (.cells #[natV s.next] 3))
    have ho := hA.own4
    rw [hv] at ho
    have m21 := hD.tail.2.2
    have a21 := hA.tail.2.2
    rw [hv] at m21 a21
    have hSA : (W.alloc (.cells #[natV s.next] 3)).cell? ⟨p.D, 10, none⟩ = some (natV s.next) := hA.cells.2.2.2.2.2.2.2.2.2.2
    refine wpAnyH_ready (rs := [4, 9]) (by kernel_rfl) (by simp) ?_
    refine (AllReadyH.cons rfl (fun KK hK => ?_) (AllReadyH.cons rfl (fun KK hK => ?_) AllReadyH.nil))
    · go_simp
      refine hK.out _ _ hS (fun hHeld => ?_)
      clear hK KK hHeld
      refine wpAnyH_ready (rs := [9]) (by kernel_rfl) (by simp) ?_
      refine AllReadyH.cons rfl (fun KK hK => ?_) AllReadyH.nil
      go_simp
      refine hK.out _ _ hSA (fun hHeld => ?_)
      clear hK KK hHeld
      refine wpAnyH_ready (rs := [10]) (by kernel_rfl) (by simp) ?_
      refine AllReadyH.cons rfl (fun KK hK => ?_) AllReadyH.nil
      refine step_append_lies _ (by rfl) (.tmp 15) (.tmp 20) 40 (by rfl) p.N 3 i0 (.int .i64 0) 1 8 Try.underlying40 hi hz0 hz1 hz2 rfl (by decide) (.slice va s.backs.length vc) s.backs.length (s.backs.map natV) rfl ho ⟨W.heap.size, 0, none⟩ 1 1 [natV s.next] rfl rfl (one_new W _ _) (by intro u hu; simp at hu; subst hu; rfl) (by omega) (by unfold maxLen; omega) (by omega) (by simp; omega) (W.heap.size + 1) (by simp) ?_
      intro g5 cap5 w5 hown5 hgrow5 hat5 hlt5
      have hb5 := hA.mem.box.grown hgrow5 (by rw [← hv]; exact hne)
      replace hS : w5.cell? ⟨p.D, 10, none⟩ = some (natV s.next) := hb5.cell 10 rfl
      have hP := hA.push4 s.next hown5 (by rw [hv]; exact hgrow5) (by rw [hv]; simpa using hat5)
      refine hK.out _ _ hS (fun hHeld => ?_)
      clear hK KK hHeld
      rw [putd (d := 21) rfl]
      simp only [List.setIfInBounds_toArray, List.set_cons_zero, List.set_cons_succ]
      refine tkd (i := 11) (v := .pointer (some ⟨p.D, 0, none⟩)) rfl rfl (by kernel_rfl) (by kernel_rfl) (by kernel_rfl) (fun _ _ _ h => h) (Or.inl ⟨by rfl, fun w hSw => by skip; go_simp⟩) hS ?_
      simp only [List.setIfInBounds_toArray, List.set_cons_zero, List.set_cons_succ]
      refine tkd (i := 12) (v := .pointer (some ⟨p.D, 21, none⟩)) rfl rfl (by kernel_rfl) (by kernel_rfl) (by kernel_rfl) (fun _ _ _ h => h) (Or.inl ⟨by rfl, fun w hSw => by skip; go_simp⟩) hS ?_
      simp only [List.setIfInBounds_toArray, List.set_cons_zero, List.set_cons_succ]
      have y21 := (hA.below (Below.refl _ _)).tail.2.2
      have z21 : ∃ u, w5.cell? ⟨p.D, 21, none⟩ = some u := ⟨vs 4, hb5.cell 21 (by simp [cellsF, headC, h8])⟩
      obtain ⟨u21, z21⟩ := z21
      have f21 := hb5.fz 21
      refine wpAnyH_ready (rs := [13]) (by kernel_rfl) (by simp) ?_
      refine AllReadyH.cons rfl (fun KK hK => ?_) AllReadyH.nil
      go_simp
      replace hS : (w5.setCell ⟨p.D, 21, none⟩ (.slice (some ⟨g5, 0, none⟩) (s.backs.length + 1) cap5)).cell? ⟨p.D, 10, none⟩ = some (natV s.next) := hP.cells.2.2.2.2.2.2.2.2.2.2
      refine hK.out _ _ hS (fun hHeld => ?_)
      clear hK KK hHeld
      refine wpAnyH_done (by kernel_rfl) ?_ _
      have k10 := hP.fz 10
      have hlt9 := hP.lt
      have hM := hP.setNext n
      generalize w5.setCell ⟨p.D, 21, none⟩ (.slice (some ⟨g5, 0, none⟩) (s.backs.length + 1) cap5) = W5 at *
      go_wp2
      go_end0
      rw [HR.out]
      exact Act1.go _ hM
    · go_simp
      refine hK.out _ _ hSA (fun hHeld => ?_)
      clear hK KK hHeld
      refine wpAnyH_ready (rs := [4]) (by kernel_rfl) (by simp) ?_
      refine AllReadyH.cons rfl (fun KK hK => ?_) AllReadyH.nil
      go_simp
      refine hK.out _ _ hSA (fun hHeld => ?_)
      clear hK KK hHeld
      refine wpAnyH_ready (rs := [10]) (by kernel_rfl) (by simp) ?_
      refine AllReadyH.cons rfl (fun KK hK => ?_) AllReadyH.nil
      refine step_append_lies _ (by rfl) (.tmp 15) (.tmp 20) 40 (by rfl) p.N 3 i0 (.int .i64 0) 1 8 Try.underlying40 hi hz0 hz1 hz2 rfl (by decide) (.slice va s.backs.length vc) s.backs.length (s.backs.map natV) rfl ho ⟨W.heap.size, 0, none⟩ 1 1 [natV s.next] rfl rfl (one_new W _ _) (by intro u hu; simp at hu; subst hu; rfl) (by omega) (by unfold maxLen; omega) (by omega) (by simp; omega) (W.heap.size + 1) (by simp) ?_
      intro g5 cap5 w5 hown5 hgrow5 hat5 hlt5
      have hb5 := hA.mem.box.grown hgrow5 (by rw [← hv]; exact hne)
      replace hS : w5.cell? ⟨p.D, 10, none⟩ = some (natV s.next) := hb5.cell 10 rfl
      have hP := hA.push4 s.next hown5 (by rw [hv]; exact hgrow5) (by rw [hv]; simpa using hat5)
      refine hK.out _ _ hS (fun hHeld => ?_)
      clear hK KK hHeld
      rw [putd (d := 21) rfl]
      simp only [List.setIfInBounds_toArray, List.set_cons_zero, List.set_cons_succ]
      refine tkd (i := 11) (v := .pointer (some ⟨p.D, 0, none⟩)) rfl rfl (by kernel_rfl) (by kernel_rfl) (by kernel_rfl) (fun _ _ _ h => h) (Or.inl ⟨by rfl, fun w hSw => by skip; go_simp⟩) hS ?_
      simp only [List.setIfInBounds_toArray, List.set_cons_zero, List.set_cons_succ]
      refine tkd (i := 12) (v := .pointer (some ⟨p.D, 21, none⟩)) rfl rfl (by kernel_rfl) (by kernel_rfl) (by kernel_rfl) (fun _ _ _ h => h) (Or.inl ⟨by rfl, fun w hSw => by skip; go_simp⟩) hS ?_
      simp only [List.setIfInBounds_toArray, List.set_cons_zero, List.set_cons_succ]
      have y21 := (hA.below (Below.refl _ _)).tail.2.2
      have z21 : ∃ u, w5.cell? ⟨p.D, 21, none⟩ = some u := ⟨vs 4, hb5.cell 21 (by simp [cellsF, headC, h8])⟩
      obtain ⟨u21, z21⟩ := z21
      have f21 := hb5.fz 21
      refine wpAnyH_ready (rs := [13]) (by kernel_rfl) (by simp) ?_
      refine AllReadyH.cons rfl (fun KK hK => ?_) AllReadyH.nil
      go_simp
      replace hS : (w5.setCell ⟨p.D, 21, none⟩ (.slice (some ⟨g5, 0, none⟩) (s.backs.length + 1) cap5)).cell? ⟨p.D, 10, none⟩ = some (natV s.next) := hP.cells.2.2.2.2.2.2.2.2.2.2
      refine hK.out _ _ hS (fun hHeld => ?_)
      clear hK KK hHeld
      refine wpAnyH_done (by kernel_rfl) ?_ _
      have k10 := hP.fz 10
      have hlt9 := hP.lt
      have hM := hP.setNext n
      generalize w5.setCell ⟨p.D, 21, none⟩ (.slice (some ⟨g5, 0, none⟩) (s.backs.length + 1) cap5) = W5 at *
      go_wp2
      go_end0
      rw [HR.out]
      exact Act1.go _ hM
end
end Go.Proofs.Ytcfibghjekimkaa.mac
