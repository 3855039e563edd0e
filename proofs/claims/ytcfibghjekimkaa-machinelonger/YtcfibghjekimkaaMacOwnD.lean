/- What show's Out, Take and Reckon answer, and what the machine's word and back do: contracts. -/
import Derived.Test.YtcfibghjekimkaaMacOwnC
import Derived.Test.YtcfibghjekimkaaMacMemB
namespace Go.Proofs.Ytcfibghjekimkaa.mac
open Go.RowKit
open Go.Proofs.Ytcfibghjekimkaa.numOps
set_option linter.unusedVariables false
set_option linter.unusedSimpArgs false
set_option maxRecDepth 100000
theorem infoI8 : (Try.prog.info? 2).map (fun i => (i.zero, i.size, i.bytes)) = some (some (.int .i64 0), 1, 8) := by kernel_rfl
theorem infoI : (Try.prog.info? 3).map (fun i => (i.zero, i.size, i.bytes)) = some (some (.int .i64 0), 1, 8) := by kernel_rfl
theorem info_parts {T : TypeId} {z : Option Value} {n b : Nat} (h : (Try.prog.info? T).map (fun i => (i.zero, i.size, i.bytes)) = some (z, n, b)) : ∃ i, Try.prog.info? T = some i ∧ i.zero = z ∧ i.size = n ∧ i.bytes = b := by
  cases hi : Try.prog.info? T with
  | none => rw [hi] at h; cases h
  | some i =>
    rw [hi] at h
    simp only [Option.map_some, Option.some.injEq, Prod.mk.injEq] at h
    exact ⟨i, rfl, h.1, h.2.1, h.2.2⟩
theorem one_new (w : World) (u : Value) (T : TypeId) : ∀ j x, [u][j]? = some x → (w.alloc (.cells #[u] T)).cell? ((⟨w.heap.size, 0, none⟩ : Addr).add j) = some x := by
  intro j x hx
  cases j with
  | zero => simp at hx; subst hx; simp [Addr.add]
  | succ j => simp at hx
section
variable {p : Pl} {w0 w w' : World} {vs : Fin 5 → Value} {s : St}
set_option maxHeartbeats 1000000 in
theorem oOutL (h : MS p w0 vs s w) (x : Int) (hn : s.oL.length ≤ 90000) :
    Calls Try.prog 23 #[.pointer (some ⟨p.D, 0, none⟩), .int .i64 0, .int .i64 x] w (Act1 p w0 (none, { s with oL := s.oL ++ [x] })) := by
  obtain ⟨i0, hi, hz0, hz1, hz2⟩ := info_parts infoI8
  obtain ⟨va, vc, hv⟩ := h.shape0
  have hA := h.below ((Below.refl _ _).alloc (Nat.le_refl _) (.cells #[.int .i64 x] 2))
  have m1 := h.cells.2.1
  rw [hv] at m1
  have ho := hA.own0
  rw [hv] at ho
  have hlt := h.lt
  have hge := h.mem.ge
  have hne := h.mem.far 0
  go_enter Try.func23, Try.ntmps23
  go_wp2_with (at_builtin; refine wpList_append_lies _ rfl (.tmp 25) (.tmp 27) 25 rfl p.N 2 i0 (.int .i64 0) 1 8 Try.underlying25 hi hz0 hz1 hz2 rfl (by decide) _ _ _ rfl ho ⟨w.heap.size, 0, none⟩ 1 1 [.int .i64 x] rfl (by simp) (one_new w _ _) (by intro u hu; simp at hu; subst hu; rfl) (by omega) (by unfold maxLen; omega) (by omega) (by simp; omega) _ rfl ?_; intro g5 cap5 w5 hown5 hgrow5 hat5 hlt5; have hb5 := hA.mem.box.grown hgrow5 (by rw [← hv]; exact hne); have y0 := hb5.cell 1 rfl; have y1 := hb5.fz 1)
  go_end0
  exact Act1.go _ (hA.push0 x hown5 (by rw [hv]; exact hgrow5) (by rw [hv]; exact hat5))
set_option maxHeartbeats 1000000 in
theorem oOutH (h : MS p w0 vs s w) (x : Int) (hn : s.oH.length ≤ 90000) :
    Calls Try.prog 23 #[.pointer (some ⟨p.D, 0, none⟩), .int .i64 1, .int .i64 x] w (Act1 p w0 (none, { s with oH := s.oH ++ [x] })) := by
  obtain ⟨i0, hi, hz0, hz1, hz2⟩ := info_parts infoI8
  obtain ⟨va, vc, hv⟩ := h.shape1
  have hA := h.below ((Below.refl _ _).alloc (Nat.le_refl _) (.cells #[.int .i64 x] 2))
  have m1 := h.cells.2.2.1
  rw [hv] at m1
  have ho := hA.own1
  rw [hv] at ho
  have hlt := h.lt
  have hge := h.mem.ge
  have hne := h.mem.far 1
  go_enter Try.func23, Try.ntmps23
  go_wp2_with (at_builtin; refine wpList_append_lies _ rfl (.tmp 13) (.tmp 15) 25 rfl p.N 2 i0 (.int .i64 0) 1 8 Try.underlying25 hi hz0 hz1 hz2 rfl (by decide) _ _ _ rfl ho ⟨w.heap.size, 0, none⟩ 1 1 [.int .i64 x] rfl (by simp) (one_new w _ _) (by intro u hu; simp at hu; subst hu; rfl) (by omega) (by unfold maxLen; omega) (by omega) (by simp; omega) _ rfl ?_; intro g5 cap5 w5 hown5 hgrow5 hat5 hlt5; have hb5 := hA.mem.box.grown hgrow5 (by rw [← hv]; exact hne); have y0 := hb5.cell 2 rfl; have y1 := hb5.fz 2)
  go_end0
  exact Act1.go _ (hA.push1 x hown5 (by rw [hv]; exact hgrow5) (by rw [hv]; exact hat5))
/-- numbers in a row -/
def IntsIn (w : World) (v : Value) (l : List Int) : Prop := ∃ a c, v = .slice a l.length c ∧ (l ≠ [] → ∃ g o, a = some ⟨g, o, none⟩ ∧ ∀ i (h : i < l.length), w.cell? ⟨g, o + i, none⟩ = some (.int .i64 l[i]))
theorem IntsIn.below {v : Value} {l : List Int} (h : IntsIn w v l) (hb : Below w.heap.size w w') : IntsIn w' v l := by
  obtain ⟨a, c, e, hk⟩ := h
  refine ⟨a, c, e, fun hne => ?_⟩
  obtain ⟨g, o, e2, hc⟩ := hk hne
  exact ⟨g, o, e2, fun i hi => keep (hc i hi) hb⟩
def RetI (p : Pl) (w0 : World) (r : Option Nat × St) (x : Int) (e : Ending) (w' : World) : Prop :=
  ∃ vs', MS p w0 vs' r.2 w' ∧ match r.1 with
    | none => e = .returned (.int .i64 x)
    | some k => e = .panicked (EndP k)
set_option maxHeartbeats 1000000 in
theorem oTakeL (h : MS p w0 vs s w) (iL : List Int) (hi : IntsIn w0 p.il iL) (hw0 : w0.heap.size ≤ p.N) (hu : s.uL ≤ iL.length) (hn : iL.length ≤ 1000) :
    Calls Try.prog 24 #[.pointer (some ⟨p.D, 0, none⟩), .int .i64 0] w (RetI p w0 (if s.uL = iL.length then (some 4, s) else (none, { s with uL := s.uL + 1 })) (iL.getD s.uL 0)) := by
  obtain ⟨ia, ic, e, hk⟩ := hi
  have hS := h.drew
  have hlt := h.lt
  by_cases hf : s.uL = iL.length
  · rw [if_pos hf]
    have HF : Hid (s.uL = iL.length) := hf
    clear hf
    go_enter Try.func24, Try.ntmps24
    go_wp2
    refine wp_region_held_drew (S := MS p w0 vs s) (by kernel_rfl) hS (fun hHeld => ?_)
    clear hHeld h
    generalize w.drew = W at *
    refine tkd (i := 0) (v := .pointer (some ⟨p.D, 0, none⟩)) rfl rfl (by kernel_rfl) (by kernel_rfl) (by kernel_rfl) (fun _ _ _ h => h) (Or.inl ⟨by rfl, fun w hSw => by skip; go_simp⟩) hS ?_
    simp only [List.setIfInBounds_toArray, List.set_cons_zero, List.set_cons_succ]
    refine tkd (i := 1) (v := .pointer (some ⟨p.D, 0, none⟩)) rfl rfl (by kernel_rfl) (by kernel_rfl) (by kernel_rfl) (fun _ _ _ h => h) (Or.inl ⟨by rfl, fun w hSw => by skip; go_simp⟩) hS ?_
    simp only [List.setIfInBounds_toArray, List.set_cons_zero, List.set_cons_succ]
    refine tkd (i := 2) (v := .pointer (some ⟨p.D, 6, none⟩)) rfl rfl (by kernel_rfl) (by kernel_rfl) (by kernel_rfl) (fun _ _ _ h => h) (Or.inl ⟨by rfl, fun w hSw => by skip; go_simp⟩) hS ?_
    simp only [List.setIfInBounds_toArray, List.set_cons_zero, List.set_cons_succ]
    refine tkd (i := 3) (v := .slice ia iL.length ic) rfl rfl (by kernel_rfl) (by kernel_rfl) (by kernel_rfl) (fun _ _ _ h => h) (Or.inl ⟨by rfl, fun w hSw => by obtain ⟨z0, z1, z2, z3, z4, z5, z6, z7, z8, z9, z10⟩ := hSw.cells; rw [e] at z6 ; go_simp⟩) hS ?_
    simp only [List.setIfInBounds_toArray, List.set_cons_zero, List.set_cons_succ]
    refine tkd (i := 4) (v := .pointer (some ⟨p.D, 0, none⟩)) rfl rfl (by kernel_rfl) (by kernel_rfl) (by kernel_rfl) (fun _ _ _ h => h) (Or.inl ⟨by rfl, fun w hSw => by skip; go_simp⟩) hS ?_
    simp only [List.setIfInBounds_toArray, List.set_cons_zero, List.set_cons_succ]
    refine tkd (i := 5) (v := .pointer (some ⟨p.D, 0, none⟩)) rfl rfl (by kernel_rfl) (by kernel_rfl) (by kernel_rfl) (fun _ _ _ h => h) (Or.inl ⟨by rfl, fun w hSw => by skip; go_simp⟩) hS ?_
    simp only [List.setIfInBounds_toArray, List.set_cons_zero, List.set_cons_succ]
    refine tkd (i := 6) (v := .pointer (some ⟨p.D, 0, none⟩)) rfl rfl (by kernel_rfl) (by kernel_rfl) (by kernel_rfl) (fun _ _ _ h => h) (Or.inl ⟨by rfl, fun w hSw => by skip; go_simp⟩) hS ?_
    simp only [List.setIfInBounds_toArray, List.set_cons_zero, List.set_cons_succ]
    refine tkd (i := 7) (v := .pointer (some ⟨p.D, 3, none⟩)) rfl rfl (by kernel_rfl) (by kernel_rfl) (by kernel_rfl) (fun _ _ _ h => h) (Or.inl ⟨by rfl, fun w hSw => by skip; go_simp⟩) hS ?_
    simp only [List.setIfInBounds_toArray, List.set_cons_zero, List.set_cons_succ]
    refine tkd (i := 8) (v := .slice ia iL.length ic) rfl rfl (by kernel_rfl) (by kernel_rfl) (by kernel_rfl) (fun _ _ _ h => h) (Or.inl ⟨by rfl, fun w hSw => by skip; go_simp⟩) hS ?_
    simp only [List.setIfInBounds_toArray, List.set_cons_zero, List.set_cons_succ]
    refine tkd (i := 9) (v := .pointer (some ⟨p.D, 3, none⟩)) rfl rfl (by kernel_rfl) (by kernel_rfl) (by kernel_rfl) (fun _ _ _ h => h) (Or.inl ⟨by rfl, fun w hSw => by skip; go_simp⟩) hS ?_
    simp only [List.setIfInBounds_toArray, List.set_cons_zero, List.set_cons_succ]
    refine wpAnyH_done (by kernel_rfl) ?_ _
    have m3 := hS.cells.2.2.2.1
    rw [HF.out] at m3
    go_wp2
    exact ⟨rfl, vs, hS, rfl⟩
  · rw [if_neg hf]
    have hf' : ((s.uL : Int) == (iL.length : Int)) = false := by simp; omega
    have hl : s.uL < iL.length := by omega
    obtain ⟨g, o, rfl, hc⟩ := hk (by intro e; rw [e] at hl; simp at hl)
    have q := hc s.uL hl
    clear hf hc hk
    have ev : iL.getD s.uL 0 = iL[s.uL] := by simp [hl]
    rw [ev]
    generalize iL[s.uL] = x at *
    go_enter Try.func24, Try.ntmps24
    go_wp2
    refine wp_region_held_drew (S := MS p w0 vs s) (by kernel_rfl) hS (fun hHeld => ?_)
    clear hHeld h
    generalize w.drew = W at *
    refine tkd (i := 0) (v := .pointer (some ⟨p.D, 0, none⟩)) rfl rfl (by kernel_rfl) (by kernel_rfl) (by kernel_rfl) (fun _ _ _ h => h) (Or.inl ⟨by rfl, fun w hSw => by skip; go_simp⟩) hS ?_
    simp only [List.setIfInBounds_toArray, List.set_cons_zero, List.set_cons_succ]
    refine tkd (i := 1) (v := .pointer (some ⟨p.D, 0, none⟩)) rfl rfl (by kernel_rfl) (by kernel_rfl) (by kernel_rfl) (fun _ _ _ h => h) (Or.inl ⟨by rfl, fun w hSw => by skip; go_simp⟩) hS ?_
    simp only [List.setIfInBounds_toArray, List.set_cons_zero, List.set_cons_succ]
    refine tkd (i := 2) (v := .pointer (some ⟨p.D, 6, none⟩)) rfl rfl (by kernel_rfl) (by kernel_rfl) (by kernel_rfl) (fun _ _ _ h => h) (Or.inl ⟨by rfl, fun w hSw => by skip; go_simp⟩) hS ?_
    simp only [List.setIfInBounds_toArray, List.set_cons_zero, List.set_cons_succ]
    refine tkd (i := 3) (v := .slice (some ⟨g, o, none⟩) iL.length ic) rfl rfl (by kernel_rfl) (by kernel_rfl) (by kernel_rfl) (fun _ _ _ h => h) (Or.inl ⟨by rfl, fun w hSw => by obtain ⟨z0, z1, z2, z3, z4, z5, z6, z7, z8, z9, z10⟩ := hSw.cells; rw [e] at z6 ; go_simp⟩) hS ?_
    simp only [List.setIfInBounds_toArray, List.set_cons_zero, List.set_cons_succ]
    refine tkd (i := 4) (v := .pointer (some ⟨p.D, 0, none⟩)) rfl rfl (by kernel_rfl) (by kernel_rfl) (by kernel_rfl) (fun _ _ _ h => h) (Or.inl ⟨by rfl, fun w hSw => by skip; go_simp⟩) hS ?_
    simp only [List.setIfInBounds_toArray, List.set_cons_zero, List.set_cons_succ]
    refine tkd (i := 5) (v := .pointer (some ⟨p.D, 0, none⟩)) rfl rfl (by kernel_rfl) (by kernel_rfl) (by kernel_rfl) (fun _ _ _ h => h) (Or.inl ⟨by rfl, fun w hSw => by skip; go_simp⟩) hS ?_
    simp only [List.setIfInBounds_toArray, List.set_cons_zero, List.set_cons_succ]
    refine tkd (i := 6) (v := .pointer (some ⟨p.D, 0, none⟩)) rfl rfl (by kernel_rfl) (by kernel_rfl) (by kernel_rfl) (fun _ _ _ h => h) (Or.inl ⟨by rfl, fun w hSw => by skip; go_simp⟩) hS ?_
    simp only [List.setIfInBounds_toArray, List.set_cons_zero, List.set_cons_succ]
    refine tkd (i := 7) (v := .pointer (some ⟨p.D, 3, none⟩)) rfl rfl (by kernel_rfl) (by kernel_rfl) (by kernel_rfl) (fun _ _ _ h => h) (Or.inl ⟨by rfl, fun w hSw => by skip; go_simp⟩) hS ?_
    simp only [List.setIfInBounds_toArray, List.set_cons_zero, List.set_cons_succ]
    refine tkd (i := 8) (v := .slice (some ⟨g, o, none⟩) iL.length ic) rfl rfl (by kernel_rfl) (by kernel_rfl) (by kernel_rfl) (fun _ _ _ h => h) (Or.inl ⟨by rfl, fun w hSw => by skip; go_simp⟩) hS ?_
    simp only [List.setIfInBounds_toArray, List.set_cons_zero, List.set_cons_succ]
    refine tkd (i := 9) (v := .pointer (some ⟨p.D, 3, none⟩)) rfl rfl (by kernel_rfl) (by kernel_rfl) (by kernel_rfl) (fun _ _ _ h => h) (Or.inl ⟨by rfl, fun w hSw => by skip; go_simp⟩) hS ?_
    simp only [List.setIfInBounds_toArray, List.set_cons_zero, List.set_cons_succ]
    refine wpAnyH_done (by kernel_rfl) ?_ _
    have m3 := hS.cells.2.2.2.1
    have f3 := hS.fz 3
    have hlt2 := hS.lt
    replace q := keep q (hS.old.mono hw0)
    go_wp2
    go_ret
    exact ⟨vs, hS.setUL (s.uL + 1), rfl⟩
set_option maxHeartbeats 1000000 in
theorem oTakeH (h : MS p w0 vs s w) (iH : List Int) (la : Option Addr) (ln lc : Nat) (el : p.il = .slice la ln lc) (hi : IntsIn w0 p.ih iH) (hw0 : w0.heap.size ≤ p.N) (hu : s.uH ≤ iH.length) (hn : iH.length ≤ 1000) :
    Calls Try.prog 24 #[.pointer (some ⟨p.D, 0, none⟩), .int .i64 1] w (RetI p w0 (if s.uH = iH.length then (some 4, s) else (none, { s with uH := s.uH + 1 })) (iH.getD s.uH 0)) := by
  obtain ⟨ia, ic, e, hk⟩ := hi
  have hS := h.drew
  have hlt := h.lt
  by_cases hf : s.uH = iH.length
  · rw [if_pos hf]
    have HF : Hid (s.uH = iH.length) := hf
    clear hf
    go_enter Try.func24, Try.ntmps24
    go_wp2
    refine wp_region_held_drew (S := MS p w0 vs s) (by kernel_rfl) hS (fun hHeld => ?_)
    clear hHeld h
    generalize w.drew = W at *
    refine tkd (i := 0) (v := .pointer (some ⟨p.D, 0, none⟩)) rfl rfl (by kernel_rfl) (by kernel_rfl) (by kernel_rfl) (fun _ _ _ h => h) (Or.inl ⟨by rfl, fun w hSw => by skip; go_simp⟩) hS ?_
    simp only [List.setIfInBounds_toArray, List.set_cons_zero, List.set_cons_succ]
    refine tkd (i := 1) (v := .pointer (some ⟨p.D, 0, none⟩)) rfl rfl (by kernel_rfl) (by kernel_rfl) (by kernel_rfl) (fun _ _ _ h => h) (Or.inl ⟨by rfl, fun w hSw => by skip; go_simp⟩) hS ?_
    simp only [List.setIfInBounds_toArray, List.set_cons_zero, List.set_cons_succ]
    refine tkd (i := 2) (v := .pointer (some ⟨p.D, 6, none⟩)) rfl rfl (by kernel_rfl) (by kernel_rfl) (by kernel_rfl) (fun _ _ _ h => h) (Or.inl ⟨by rfl, fun w hSw => by skip; go_simp⟩) hS ?_
    simp only [List.setIfInBounds_toArray, List.set_cons_zero, List.set_cons_succ]
    refine tkd (i := 3) (v := .slice la ln lc) rfl rfl (by kernel_rfl) (by kernel_rfl) (by kernel_rfl) (fun _ _ _ h => h) (Or.inl ⟨by rfl, fun w hSw => by obtain ⟨z0, z1, z2, z3, z4, z5, z6, z7, z8, z9, z10⟩ := hSw.cells; rw [el] at z6 ; go_simp⟩) hS ?_
    simp only [List.setIfInBounds_toArray, List.set_cons_zero, List.set_cons_succ]
    refine tkd (i := 4) (v := .pointer (some ⟨p.D, 0, none⟩)) rfl rfl (by kernel_rfl) (by kernel_rfl) (by kernel_rfl) (fun _ _ _ h => h) (Or.inl ⟨by rfl, fun w hSw => by skip; go_simp⟩) hS ?_
    simp only [List.setIfInBounds_toArray, List.set_cons_zero, List.set_cons_succ]
    refine tkd (i := 5) (v := .pointer (some ⟨p.D, 0, none⟩)) rfl rfl (by kernel_rfl) (by kernel_rfl) (by kernel_rfl) (fun _ _ _ h => h) (Or.inl ⟨by rfl, fun w hSw => by skip; go_simp⟩) hS ?_
    simp only [List.setIfInBounds_toArray, List.set_cons_zero, List.set_cons_succ]
    refine tkd (i := 6) (v := .pointer (some ⟨p.D, 0, none⟩)) rfl rfl (by kernel_rfl) (by kernel_rfl) (by kernel_rfl) (fun _ _ _ h => h) (Or.inl ⟨by rfl, fun w hSw => by skip; go_simp⟩) hS ?_
    simp only [List.setIfInBounds_toArray, List.set_cons_zero, List.set_cons_succ]
    refine tkd (i := 7) (v := .pointer (some ⟨p.D, 3, none⟩)) rfl rfl (by kernel_rfl) (by kernel_rfl) (by kernel_rfl) (fun _ _ _ h => h) (Or.inl ⟨by rfl, fun w hSw => by skip; go_simp⟩) hS ?_
    simp only [List.setIfInBounds_toArray, List.set_cons_zero, List.set_cons_succ]
    refine tkd (i := 8) (v := .slice la ln lc) rfl rfl (by kernel_rfl) (by kernel_rfl) (by kernel_rfl) (fun _ _ _ h => h) (Or.inl ⟨by rfl, fun w hSw => by skip; go_simp⟩) hS ?_
    simp only [List.setIfInBounds_toArray, List.set_cons_zero, List.set_cons_succ]
    refine tkd (i := 9) (v := .pointer (some ⟨p.D, 3, none⟩)) rfl rfl (by kernel_rfl) (by kernel_rfl) (by kernel_rfl) (fun _ _ _ h => h) (Or.inl ⟨by rfl, fun w hSw => by skip; go_simp⟩) hS ?_
    simp only [List.setIfInBounds_toArray, List.set_cons_zero, List.set_cons_succ]
    refine wpAnyH_done (by kernel_rfl) ?_ _
    replace hS := hS.drew
    go_wp2
    refine wp_region_held_drew (S := MS p w0 vs s) (by kernel_rfl) hS (fun hHeld => ?_)
    clear hHeld
    generalize W.drew = W at *
    refine tkd (i := 0) (v := .pointer (some ⟨p.D, 0, none⟩)) rfl rfl (by kernel_rfl) (by kernel_rfl) (by kernel_rfl) (fun _ _ _ h => h) (Or.inl ⟨by rfl, fun w hSw => by skip; go_simp⟩) hS ?_
    simp only [List.setIfInBounds_toArray, List.set_cons_zero, List.set_cons_succ]
    refine tkd (i := 1) (v := .pointer (some ⟨p.D, 0, none⟩)) rfl rfl (by kernel_rfl) (by kernel_rfl) (by kernel_rfl) (fun _ _ _ h => h) (Or.inl ⟨by rfl, fun w hSw => by skip; go_simp⟩) hS ?_
    simp only [List.setIfInBounds_toArray, List.set_cons_zero, List.set_cons_succ]
    refine tkd (i := 2) (v := .pointer (some ⟨p.D, 7, none⟩)) rfl rfl (by kernel_rfl) (by kernel_rfl) (by kernel_rfl) (fun _ _ _ h => h) (Or.inl ⟨by rfl, fun w hSw => by skip; go_simp⟩) hS ?_
    simp only [List.setIfInBounds_toArray, List.set_cons_zero, List.set_cons_succ]
    refine tkd (i := 3) (v := .slice ia iH.length ic) rfl rfl (by kernel_rfl) (by kernel_rfl) (by kernel_rfl) (fun _ _ _ h => h) (Or.inl ⟨by rfl, fun w hSw => by obtain ⟨z0, z1, z2, z3, z4, z5, z6, z7, z8, z9, z10⟩ := hSw.cells; rw [e] at z7 ; go_simp⟩) hS ?_
    simp only [List.setIfInBounds_toArray, List.set_cons_zero, List.set_cons_succ]
    refine tkd (i := 4) (v := .pointer (some ⟨p.D, 0, none⟩)) rfl rfl (by kernel_rfl) (by kernel_rfl) (by kernel_rfl) (fun _ _ _ h => h) (Or.inl ⟨by rfl, fun w hSw => by skip; go_simp⟩) hS ?_
    simp only [List.setIfInBounds_toArray, List.set_cons_zero, List.set_cons_succ]
    refine tkd (i := 5) (v := .pointer (some ⟨p.D, 0, none⟩)) rfl rfl (by kernel_rfl) (by kernel_rfl) (by kernel_rfl) (fun _ _ _ h => h) (Or.inl ⟨by rfl, fun w hSw => by skip; go_simp⟩) hS ?_
    simp only [List.setIfInBounds_toArray, List.set_cons_zero, List.set_cons_succ]
    refine tkd (i := 6) (v := .pointer (some ⟨p.D, 0, none⟩)) rfl rfl (by kernel_rfl) (by kernel_rfl) (by kernel_rfl) (fun _ _ _ h => h) (Or.inl ⟨by rfl, fun w hSw => by skip; go_simp⟩) hS ?_
    simp only [List.setIfInBounds_toArray, List.set_cons_zero, List.set_cons_succ]
    refine tkd (i := 7) (v := .pointer (some ⟨p.D, 4, none⟩)) rfl rfl (by kernel_rfl) (by kernel_rfl) (by kernel_rfl) (fun _ _ _ h => h) (Or.inl ⟨by rfl, fun w hSw => by skip; go_simp⟩) hS ?_
    simp only [List.setIfInBounds_toArray, List.set_cons_zero, List.set_cons_succ]
    refine tkd (i := 8) (v := .slice ia iH.length ic) rfl rfl (by kernel_rfl) (by kernel_rfl) (by kernel_rfl) (fun _ _ _ h => h) (Or.inl ⟨by rfl, fun w hSw => by skip; go_simp⟩) hS ?_
    simp only [List.setIfInBounds_toArray, List.set_cons_zero, List.set_cons_succ]
    refine tkd (i := 9) (v := .pointer (some ⟨p.D, 4, none⟩)) rfl rfl (by kernel_rfl) (by kernel_rfl) (by kernel_rfl) (fun _ _ _ h => h) (Or.inl ⟨by rfl, fun w hSw => by skip; go_simp⟩) hS ?_
    simp only [List.setIfInBounds_toArray, List.set_cons_zero, List.set_cons_succ]
    refine wpAnyH_done (by kernel_rfl) ?_ _
    have m3 := hS.cells.2.2.2.2.1
    rw [HF.out] at m3
    go_wp2
    exact ⟨rfl, vs, hS, rfl⟩
  · rw [if_neg hf]
    have hf' : ((s.uH : Int) == (iH.length : Int)) = false := by simp; omega
    have hl : s.uH < iH.length := by omega
    obtain ⟨g, o, rfl, hc⟩ := hk (by intro e; rw [e] at hl; simp at hl)
    have q := hc s.uH hl
    clear hf hc hk
    have ev : iH.getD s.uH 0 = iH[s.uH] := by simp [hl]
    rw [ev]
    generalize iH[s.uH] = x at *
    go_enter Try.func24, Try.ntmps24
    go_wp2
    refine wp_region_held_drew (S := MS p w0 vs s) (by kernel_rfl) hS (fun hHeld => ?_)
    clear hHeld h
    generalize w.drew = W at *
    refine tkd (i := 0) (v := .pointer (some ⟨p.D, 0, none⟩)) rfl rfl (by kernel_rfl) (by kernel_rfl) (by kernel_rfl) (fun _ _ _ h => h) (Or.inl ⟨by rfl, fun w hSw => by skip; go_simp⟩) hS ?_
    simp only [List.setIfInBounds_toArray, List.set_cons_zero, List.set_cons_succ]
    refine tkd (i := 1) (v := .pointer (some ⟨p.D, 0, none⟩)) rfl rfl (by kernel_rfl) (by kernel_rfl) (by kernel_rfl) (fun _ _ _ h => h) (Or.inl ⟨by rfl, fun w hSw => by skip; go_simp⟩) hS ?_
    simp only [List.setIfInBounds_toArray, List.set_cons_zero, List.set_cons_succ]
    refine tkd (i := 2) (v := .pointer (some ⟨p.D, 6, none⟩)) rfl rfl (by kernel_rfl) (by kernel_rfl) (by kernel_rfl) (fun _ _ _ h => h) (Or.inl ⟨by rfl, fun w hSw => by skip; go_simp⟩) hS ?_
    simp only [List.setIfInBounds_toArray, List.set_cons_zero, List.set_cons_succ]
    refine tkd (i := 3) (v := .slice la ln lc) rfl rfl (by kernel_rfl) (by kernel_rfl) (by kernel_rfl) (fun _ _ _ h => h) (Or.inl ⟨by rfl, fun w hSw => by obtain ⟨z0, z1, z2, z3, z4, z5, z6, z7, z8, z9, z10⟩ := hSw.cells; rw [el] at z6 ; go_simp⟩) hS ?_
    simp only [List.setIfInBounds_toArray, List.set_cons_zero, List.set_cons_succ]
    refine tkd (i := 4) (v := .pointer (some ⟨p.D, 0, none⟩)) rfl rfl (by kernel_rfl) (by kernel_rfl) (by kernel_rfl) (fun _ _ _ h => h) (Or.inl ⟨by rfl, fun w hSw => by skip; go_simp⟩) hS ?_
    simp only [List.setIfInBounds_toArray, List.set_cons_zero, List.set_cons_succ]
    refine tkd (i := 5) (v := .pointer (some ⟨p.D, 0, none⟩)) rfl rfl (by kernel_rfl) (by kernel_rfl) (by kernel_rfl) (fun _ _ _ h => h) (Or.inl ⟨by rfl, fun w hSw => by skip; go_simp⟩) hS ?_
    simp only [List.setIfInBounds_toArray, List.set_cons_zero, List.set_cons_succ]
    refine tkd (i := 6) (v := .pointer (some ⟨p.D, 0, none⟩)) rfl rfl (by kernel_rfl) (by kernel_rfl) (by kernel_rfl) (fun _ _ _ h => h) (Or.inl ⟨by rfl, fun w hSw => by skip; go_simp⟩) hS ?_
    simp only [List.setIfInBounds_toArray, List.set_cons_zero, List.set_cons_succ]
    refine tkd (i := 7) (v := .pointer (some ⟨p.D, 3, none⟩)) rfl rfl (by kernel_rfl) (by kernel_rfl) (by kernel_rfl) (fun _ _ _ h => h) (Or.inl ⟨by rfl, fun w hSw => by skip; go_simp⟩) hS ?_
    simp only [List.setIfInBounds_toArray, List.set_cons_zero, List.set_cons_succ]
    refine tkd (i := 8) (v := .slice la ln lc) rfl rfl (by kernel_rfl) (by kernel_rfl) (by kernel_rfl) (fun _ _ _ h => h) (Or.inl ⟨by rfl, fun w hSw => by skip; go_simp⟩) hS ?_
    simp only [List.setIfInBounds_toArray, List.set_cons_zero, List.set_cons_succ]
    refine tkd (i := 9) (v := .pointer (some ⟨p.D, 3, none⟩)) rfl rfl (by kernel_rfl) (by kernel_rfl) (by kernel_rfl) (fun _ _ _ h => h) (Or.inl ⟨by rfl, fun w hSw => by skip; go_simp⟩) hS ?_
    simp only [List.setIfInBounds_toArray, List.set_cons_zero, List.set_cons_succ]
    refine wpAnyH_done (by kernel_rfl) ?_ _
    replace hS := hS.drew
    go_wp2
    refine wp_region_held_drew (S := MS p w0 vs s) (by kernel_rfl) hS (fun hHeld => ?_)
    clear hHeld
    generalize W.drew = W at *
    refine tkd (i := 0) (v := .pointer (some ⟨p.D, 0, none⟩)) rfl rfl (by kernel_rfl) (by kernel_rfl) (by kernel_rfl) (fun _ _ _ h => h) (Or.inl ⟨by rfl, fun w hSw => by skip; go_simp⟩) hS ?_
    simp only [List.setIfInBounds_toArray, List.set_cons_zero, List.set_cons_succ]
    refine tkd (i := 1) (v := .pointer (some ⟨p.D, 0, none⟩)) rfl rfl (by kernel_rfl) (by kernel_rfl) (by kernel_rfl) (fun _ _ _ h => h) (Or.inl ⟨by rfl, fun w hSw => by skip; go_simp⟩) hS ?_
    simp only [List.setIfInBounds_toArray, List.set_cons_zero, List.set_cons_succ]
    refine tkd (i := 2) (v := .pointer (some ⟨p.D, 7, none⟩)) rfl rfl (by kernel_rfl) (by kernel_rfl) (by kernel_rfl) (fun _ _ _ h => h) (Or.inl ⟨by rfl, fun w hSw => by skip; go_simp⟩) hS ?_
    simp only [List.setIfInBounds_toArray, List.set_cons_zero, List.set_cons_succ]
    refine tkd (i := 3) (v := .slice (some ⟨g, o, none⟩) iH.length ic) rfl rfl (by kernel_rfl) (by kernel_rfl) (by kernel_rfl) (fun _ _ _ h => h) (Or.inl ⟨by rfl, fun w hSw => by obtain ⟨z0, z1, z2, z3, z4, z5, z6, z7, z8, z9, z10⟩ := hSw.cells; rw [e] at z7 ; go_simp⟩) hS ?_
    simp only [List.setIfInBounds_toArray, List.set_cons_zero, List.set_cons_succ]
    refine tkd (i := 4) (v := .pointer (some ⟨p.D, 0, none⟩)) rfl rfl (by kernel_rfl) (by kernel_rfl) (by kernel_rfl) (fun _ _ _ h => h) (Or.inl ⟨by rfl, fun w hSw => by skip; go_simp⟩) hS ?_
    simp only [List.setIfInBounds_toArray, List.set_cons_zero, List.set_cons_succ]
    refine tkd (i := 5) (v := .pointer (some ⟨p.D, 0, none⟩)) rfl rfl (by kernel_rfl) (by kernel_rfl) (by kernel_rfl) (fun _ _ _ h => h) (Or.inl ⟨by rfl, fun w hSw => by skip; go_simp⟩) hS ?_
    simp only [List.setIfInBounds_toArray, List.set_cons_zero, List.set_cons_succ]
    refine tkd (i := 6) (v := .pointer (some ⟨p.D, 0, none⟩)) rfl rfl (by kernel_rfl) (by kernel_rfl) (by kernel_rfl) (fun _ _ _ h => h) (Or.inl ⟨by rfl, fun w hSw => by skip; go_simp⟩) hS ?_
    simp only [List.setIfInBounds_toArray, List.set_cons_zero, List.set_cons_succ]
    refine tkd (i := 7) (v := .pointer (some ⟨p.D, 4, none⟩)) rfl rfl (by kernel_rfl) (by kernel_rfl) (by kernel_rfl) (fun _ _ _ h => h) (Or.inl ⟨by rfl, fun w hSw => by skip; go_simp⟩) hS ?_
    simp only [List.setIfInBounds_toArray, List.set_cons_zero, List.set_cons_succ]
    refine tkd (i := 8) (v := .slice (some ⟨g, o, none⟩) iH.length ic) rfl rfl (by kernel_rfl) (by kernel_rfl) (by kernel_rfl) (fun _ _ _ h => h) (Or.inl ⟨by rfl, fun w hSw => by skip; go_simp⟩) hS ?_
    simp only [List.setIfInBounds_toArray, List.set_cons_zero, List.set_cons_succ]
    refine tkd (i := 9) (v := .pointer (some ⟨p.D, 4, none⟩)) rfl rfl (by kernel_rfl) (by kernel_rfl) (by kernel_rfl) (fun _ _ _ h => h) (Or.inl ⟨by rfl, fun w hSw => by skip; go_simp⟩) hS ?_
    simp only [List.setIfInBounds_toArray, List.set_cons_zero, List.set_cons_succ]
    refine wpAnyH_done (by kernel_rfl) ?_ _
    have m3 := hS.cells.2.2.2.2.1
    have f3 := hS.fz 4
    have hlt2 := hS.lt
    replace q := keep q (hS.old.mono hw0)
    go_wp2
    go_ret
    exact ⟨vs, hS.setUH (s.uH + 1), rfl⟩
/-- what Op answers -/
def opV (o a b : Int) : Value := match opF o a b with
  | none => .tuple #[.int .i64 0, .bool false]
  | some x => .tuple #[.int .i64 x, .bool true]
theorem oOp (o a b : Int) (w : World) : Calls Try.prog 26 #[.int .i64 o, .int .i64 a, .int .i64 b] w fun e w' => e = .returned (opV o a b) ∧ w' = w := by
  unfold opV opF
  by_cases h1 : o = 1
  · subst h1; exact op_add a b w
  by_cases h2 : o = 2
  · subst h2; exact op_sub a b w
  by_cases h3 : o = 3
  · subst h3; exact op_mul a b w
  by_cases h4 : o = 4
  · subst h4
    by_cases hb : b = 0
    · subst hb; exact op4z a w
    · rw [if_neg h1, if_neg h2, if_neg h3, if_pos rfl, if_neg hb]; exact op4 a b hb w
  by_cases h5 : o = 5
  · subst h5
    by_cases hb : b = 0
    · subst hb; exact op5z a w
    · rw [if_neg h1, if_neg h2, if_neg h3, if_neg h4, if_pos rfl, if_neg hb]; exact op5 a b hb w
  by_cases h6 : o = 6
  · subst h6; exact op_and a b w
  by_cases h7 : o = 7
  · subst h7; exact op_or a b w
  by_cases h8 : o = 8
  · subst h8; exact op_less a b w
  by_cases h9 : o = 9
  · subst h9; exact op_same a b w
  rw [if_neg h1, if_neg h2, if_neg h3, if_neg h4, if_neg h5, if_neg h6, if_neg h7, if_neg h8, if_neg h9]
  exact op_none o a b (by omega) w
def RkE (w : World) (o : Option Int) (e : Ending) (w' : World) : Prop :=
  w' = w ∧ match o with
    | none => e = .panicked (EndP 2)
    | some x => e = .returned (.int .i64 x)
theorem oReckon (o a b : Int) (w : World) :
    Calls Try.prog 25 #[.int .i64 o, .int .i64 a, .int .i64 b] w (RkE w (opF o a b)) := by
  have hc := oOp o a b w
  unfold opV at hc
  cases ho : opF o a b with
  | none =>
    rw [ho] at hc
    go_enter Try.func25, Try.ntmps25
    go_wp2_with (go_at_call 26; refine hc.mono ?_; rintro e w1 ⟨rfl, hw⟩; obtain rfl := hw.symm)
    exact ⟨rfl, rfl, rfl⟩
  | some x =>
    rw [ho] at hc
    go_enter Try.func25, Try.ntmps25
    go_wp2_with (go_at_call 26; refine hc.mono ?_; rintro e w1 ⟨rfl, hw⟩; obtain rfl := hw.symm)
    go_ret
    exact ⟨rfl, rfl⟩
/-- where a word lies, or that it is none -/
def WdE (w : World) (a : Option Addr) (i : Int) (n : Nat) (e : Ending) (w' : World) : Prop :=
  w' = w ∧ (if belB i n then ∀ g, a = some ⟨g, 0, none⟩ → e = .returned (.pointer (some ⟨g, i.toNat, none⟩)) else e = .panicked (EndP 6))
theorem oWord (a : Option Addr) (i : Int) (n c : Nat) (w : World) (ha : 0 < n → ∃ g, a = some ⟨g, 0, none⟩) :
    Calls Try.prog 20 #[.slice a n c, .int .i64 i] w (WdE w a i n) := by
  have hc := oBelow i n w
  cases hb : belB i n with
  | false =>
    have HB : Hid (belB i n = false) := hb
    rw [hb] at hc
    clear hb
    go_enter Try.func20, Try.ntmps20
    go_wp2_with (go_at_call 14; refine hc.mono ?_; rintro e w1 ⟨rfl, hw⟩; obtain rfl := hw.symm)
    refine ⟨rfl, rfl, ?_⟩
    rw [HB.out]
    rfl
  | true =>
    have HB : Hid (belB i n = true) := hb
    rw [hb] at hc
    simp [belB] at hb
    obtain ⟨g, rfl⟩ := ha (by omega)
    obtain ⟨k, rfl⟩ : ∃ k : Nat, i = k := ⟨i.toNat, by omega⟩
    have hk : k < n := by omega
    clear hb
    go_enter Try.func20, Try.ntmps20
    go_wp2_with (go_at_call 14; refine hc.mono ?_; rintro e w1 ⟨rfl, hw⟩; obtain rfl := hw.symm)
    go_ret
    refine ⟨rfl, ?_⟩
    rw [HB.out, if_pos rfl]
    intro g' e
    cases e
    simp [go_sem]
end
end Go.Proofs.Ytcfibghjekimkaa.mac
