/- What an order does: a contract for each kind; words of a memory, checks, what comes out, operations. -/
import Derived.Test.YtcfibghjekimkaaMacOwnE
namespace Go.Proofs.Ytcfibghjekimkaa.mac
open Go.RowKit
set_option linter.unusedVariables false
set_option linter.unusedSimpArgs false
set_option maxRecDepth 100000
section
variable {p : Pl} {w0 w w' : World} {vs : Fin 5 → Value} {s : St} {iL iH : List Int}
set_option maxHeartbeats 4000000 in
theorem do4 (h : MS p w0 vs s w) (A B C : Nat) (hA : A < 8) (hB : B < 8) (hC : C < 8) (n : Int) :
    Calls Try.prog 17 #[.pointer (some ⟨p.D, 0, none⟩), .agg #[.int .i64 4, .int .i64 A, .int .i64 B, .int .i64 C, .int .i64 n]] w (Act1 p w0 (if there s.lw (wrap64 (s.regs.getD B 0 + n)) then (none, { s with regs := s.regs.set A (rd s.lw (wrap64 (s.regs.getD B 0 + n))) }) else (some 6, s))) := by
  cases hth : there s.lw (wrap64 (s.regs.getD B 0 + n)) with
  | false =>
    rw [if_neg (by simp)]
    have hbx := BoxC.new w #[.int .i64 4, .int .i64 A, .int .i64 B, .int .i64 C, .int .i64 n] 46
    have hM := (h.below ((Below.refl _ _).alloc (Nat.le_refl _) (.cells #[.int .i64 4, .int .i64 A, .int .i64 B, .int .i64 C, .int .i64 n] 46))).drew
    have hX := hbx.below (Below.refl _ _).drew
    have hBD : w.heap.size ≠ p.D := by have := h.lt; omega
    have c46 : Try.prog.cellsOf 46 = 5 := by kernel_rfl
    go_enter Try.func17, Try.ntmps17
    go_wp2
    have hS : MS p w0 vs s (w.alloc (.cells #[.int .i64 4, .int .i64 A, .int .i64 B, .int .i64 C, .int .i64 n] 46)).drew ∧ BoxC (w.alloc (.cells #[.int .i64 4, .int .i64 A, .int .i64 B, .int .i64 C, .int .i64 n] 46)).drew w.heap.size #[.int .i64 4, .int .i64 A, .int .i64 B, .int .i64 C, .int .i64 n] 46 := ⟨hM, hX⟩
    refine wp_region_held_drew (S := fun W => MS p w0 vs s W ∧ BoxC W w.heap.size #[.int .i64 4, .int .i64 A, .int .i64 B, .int .i64 C, .int .i64 n] 46) (by kernel_rfl) hS (fun hHeld => ?_)
    clear hHeld hbx h
    generalize (w.alloc (.cells #[.int .i64 4, .int .i64 A, .int .i64 B, .int .i64 C, .int .i64 n] 46)).drew = W at *
    generalize w.heap.size = X at *
    refine tkd (i := 0) (v := .pointer (some ⟨p.D, 0, none⟩)) rfl rfl (by kernel_rfl) (by kernel_rfl) (by kernel_rfl) (fun _ _ _ h => h) (Or.inl ⟨by rfl, fun w hSw => by skip; go_simp⟩) hS ?_
    simp only [List.setIfInBounds_toArray, List.set_cons_zero, List.set_cons_succ]
    refine tkd (i := 1) (v := .pointer (some ⟨X, 1, none⟩)) rfl rfl (by kernel_rfl) (by kernel_rfl) (by kernel_rfl) (fun _ _ _ h => h) (Or.inl ⟨by rfl, fun w hSw => by skip; go_simp⟩) hS ?_
    simp only [List.setIfInBounds_toArray, List.set_cons_zero, List.set_cons_succ]
    refine tkd (i := 2) (v := .int .i64 A) rfl rfl (by kernel_rfl) (by kernel_rfl) (by kernel_rfl) (fun _ _ _ h => h) (Or.inl ⟨by rfl, fun w hSw => by have z := hSw.2.cell 1 rfl; go_simp⟩) hS ?_
    simp only [List.setIfInBounds_toArray, List.set_cons_zero, List.set_cons_succ]
    refine tkd (i := 3) (v := .pointer (some ⟨p.D, 0, none⟩)) rfl rfl (by kernel_rfl) (by kernel_rfl) (by kernel_rfl) (fun _ _ _ h => h) (Or.inl ⟨by rfl, fun w hSw => by skip; go_simp⟩) hS ?_
    simp only [List.setIfInBounds_toArray, List.set_cons_zero, List.set_cons_succ]
    refine tkd (i := 4) (v := .pointer (some ⟨p.D, 11, none⟩)) rfl rfl (by kernel_rfl) (by kernel_rfl) (by kernel_rfl) (fun _ _ _ h => h) (Or.inl ⟨by rfl, fun w hSw => by skip; go_simp⟩) hS ?_
    simp only [List.setIfInBounds_toArray, List.set_cons_zero, List.set_cons_succ]
    refine tkd (i := 5) (v := .pointer (some ⟨p.D, 11 + A, none⟩)) rfl rfl (by kernel_rfl) (by kernel_rfl) (by kernel_rfl) (fun _ _ _ h => h) (Or.inl ⟨by rfl, fun w hSw => by have y : (A : Int) < 8 := (by omega); go_simp⟩) hS ?_
    simp only [List.setIfInBounds_toArray, List.set_cons_zero, List.set_cons_succ]
    refine tkd (i := 6) (v := .pointer (some ⟨p.D, 0, none⟩)) rfl rfl (by kernel_rfl) (by kernel_rfl) (by kernel_rfl) (fun _ _ _ h => h) (Or.inl ⟨by rfl, fun w hSw => by skip; go_simp⟩) hS ?_
    simp only [List.setIfInBounds_toArray, List.set_cons_zero, List.set_cons_succ]
    refine tkd (i := 7) (v := .pointer (some ⟨X, 2, none⟩)) rfl rfl (by kernel_rfl) (by kernel_rfl) (by kernel_rfl) (fun _ _ _ h => h) (Or.inl ⟨by rfl, fun w hSw => by skip; go_simp⟩) hS ?_
    simp only [List.setIfInBounds_toArray, List.set_cons_zero, List.set_cons_succ]
    refine tkd (i := 8) (v := .int .i64 B) rfl rfl (by kernel_rfl) (by kernel_rfl) (by kernel_rfl) (fun _ _ _ h => h) (Or.inl ⟨by rfl, fun w hSw => by have z := hSw.2.cell 2 rfl; go_simp⟩) hS ?_
    simp only [List.setIfInBounds_toArray, List.set_cons_zero, List.set_cons_succ]
    refine tkd (i := 9) (v := .pointer (some ⟨p.D, 0, none⟩)) rfl rfl (by kernel_rfl) (by kernel_rfl) (by kernel_rfl) (fun _ _ _ h => h) (Or.inl ⟨by rfl, fun w hSw => by skip; go_simp⟩) hS ?_
    simp only [List.setIfInBounds_toArray, List.set_cons_zero, List.set_cons_succ]
    refine tkd (i := 10) (v := .pointer (some ⟨p.D, 11, none⟩)) rfl rfl (by kernel_rfl) (by kernel_rfl) (by kernel_rfl) (fun _ _ _ h => h) (Or.inl ⟨by rfl, fun w hSw => by skip; go_simp⟩) hS ?_
    simp only [List.setIfInBounds_toArray, List.set_cons_zero, List.set_cons_succ]
    refine tkd (i := 11) (v := .pointer (some ⟨p.D, 11 + B, none⟩)) rfl rfl (by kernel_rfl) (by kernel_rfl) (by kernel_rfl) (fun _ _ _ h => h) (Or.inl ⟨by rfl, fun w hSw => by have y : (B : Int) < 8 := (by omega); go_simp⟩) hS ?_
    simp only [List.setIfInBounds_toArray, List.set_cons_zero, List.set_cons_succ]
    refine tkd (i := 12) (v := intV (s.regs.getD B 0)) rfl rfl (by kernel_rfl) (by kernel_rfl) (by kernel_rfl) (fun _ _ _ h => h) (Or.inl ⟨by rfl, fun w hSw => by have z := hSw.1.reg B hB; go_simp⟩) hS ?_
    simp only [List.setIfInBounds_toArray, List.set_cons_zero, List.set_cons_succ]
    refine tkd (i := 13) (v := .pointer (some ⟨p.D, 11 + A, none⟩)) rfl rfl (by kernel_rfl) (by kernel_rfl) (by kernel_rfl) (fun _ _ _ h => h) (Or.inl ⟨by rfl, fun w hSw => by skip; go_simp⟩) hS ?_
    simp only [List.setIfInBounds_toArray, List.set_cons_zero, List.set_cons_succ]
    refine tkd (i := 14) (v := intV (s.regs.getD B 0)) rfl rfl (by kernel_rfl) (by kernel_rfl) (by kernel_rfl) (fun _ _ _ h => h) (Or.inl ⟨by rfl, fun w hSw => by skip; go_simp⟩) hS ?_
    simp only [List.setIfInBounds_toArray, List.set_cons_zero, List.set_cons_succ]
    refine wpAnyH_done (by kernel_rfl) ?_ _
    clear hS
    have hlt := hM.lt
    have hXlt := hX.lt
    have x0 := hX.cell 0 rfl
    have x3 := hX.cell 3 rfl
    have x4 := hX.cell 4 rfl
    have rA := hM.reg A hA
    have fA := hM.fz (11 + A)
    generalize hb : s.regs.getD B 0 = b at *
    generalize ha : s.regs.getD A 0 = a at *
    obtain ⟨wa, wc, hv, hk⟩ := words_at hM.own2
    have m := hM.tail.1
    rw [hv] at m
    have HT : Hid (belB (wrap64 (b + n)) s.lw.length = false) := hth
    have hc := oWord wa (wrap64 (b + n)) s.lw.length wc W.drew (fun h => by obtain ⟨g, e, _⟩ := hk h; exact ⟨g, e⟩)
    clear hk hth hv
    generalize s.lw.length = nw at *
    have hMd := hM.drew
    go_wp2
    have hS : W.drew.cell? ⟨p.D, 19, none⟩ = some (.slice wa nw wc) ∧ W.drew.cell? ⟨X, 4, none⟩ = some (.int .i64 n) ∧ True := ⟨by simpa using m, by simpa using x4, trivial⟩
    refine wp_region_held_drew (S := fun W => W.cell? ⟨p.D, 19, none⟩ = some (.slice wa nw wc) ∧ W.cell? ⟨X, 4, none⟩ = some (.int .i64 n) ∧ True) (by kernel_rfl) hS (fun hHeld => ?_)
    clear hHeld
    generalize W.drew = W2 at *
    refine tkd (i := 0) (v := .pointer (some ⟨p.D, 11 + A, none⟩)) rfl rfl (by kernel_rfl) (by kernel_rfl) (by kernel_rfl) (fun _ _ _ h => h) (Or.inl ⟨by rfl, fun w hSw => by skip; go_simp⟩) hS ?_
    simp only [List.setIfInBounds_toArray, List.set_cons_zero, List.set_cons_succ]
    refine tkd (i := 1) (v := .pointer (some ⟨p.D, 0, none⟩)) rfl rfl (by kernel_rfl) (by kernel_rfl) (by kernel_rfl) (fun _ _ _ h => h) (Or.inl ⟨by rfl, fun w hSw => by skip; go_simp⟩) hS ?_
    simp only [List.setIfInBounds_toArray, List.set_cons_zero, List.set_cons_succ]
    refine tkd (i := 2) (v := .pointer (some ⟨p.D, 0, none⟩)) rfl rfl (by kernel_rfl) (by kernel_rfl) (by kernel_rfl) (fun _ _ _ h => h) (Or.inl ⟨by rfl, fun w hSw => by skip; go_simp⟩) hS ?_
    simp only [List.setIfInBounds_toArray, List.set_cons_zero, List.set_cons_succ]
    refine tkd (i := 3) (v := .pointer (some ⟨p.D, 19, none⟩)) rfl rfl (by kernel_rfl) (by kernel_rfl) (by kernel_rfl) (fun _ _ _ h => h) (Or.inl ⟨by rfl, fun w hSw => by skip; go_simp⟩) hS ?_
    simp only [List.setIfInBounds_toArray, List.set_cons_zero, List.set_cons_succ]
    refine tkd (i := 4) (v := .slice wa nw wc) rfl rfl (by kernel_rfl) (by kernel_rfl) (by kernel_rfl) (fun _ _ _ h => h) (Or.inl ⟨by rfl, fun w hSw => by have z := hSw.1; go_simp⟩) hS ?_
    simp only [List.setIfInBounds_toArray, List.set_cons_zero, List.set_cons_succ]
    refine tkd (i := 5) (v := .int .i64 b) rfl rfl (by kernel_rfl) (by kernel_rfl) (by kernel_rfl) (fun _ _ _ h => h) (Or.inl ⟨by rfl, fun w hSw => by skip; go_simp⟩) hS ?_
    simp only [List.setIfInBounds_toArray, List.set_cons_zero, List.set_cons_succ]
    refine tkd (i := 6) (v := .pointer (some ⟨X, 4, none⟩)) rfl rfl (by kernel_rfl) (by kernel_rfl) (by kernel_rfl) (fun _ _ _ h => h) (Or.inl ⟨by rfl, fun w hSw => by skip; go_simp⟩) hS ?_
    simp only [List.setIfInBounds_toArray, List.set_cons_zero, List.set_cons_succ]
    refine tkd (i := 7) (v := .int .i64 n) rfl rfl (by kernel_rfl) (by kernel_rfl) (by kernel_rfl) (fun _ _ _ h => h) (Or.inl ⟨by rfl, fun w hSw => by have z := hSw.2.1; go_simp⟩) hS ?_
    simp only [List.setIfInBounds_toArray, List.set_cons_zero, List.set_cons_succ]
    refine tkd (i := 8) (v := .int .i64 (wrap64 (b + n))) rfl rfl (by kernel_rfl) (by kernel_rfl) (by kernel_rfl) (fun _ _ _ h => h) (Or.inl ⟨by rfl, fun w hSw => by go_simp; exact IntWalk.i64_left _⟩) hS ?_
    simp only [List.setIfInBounds_toArray, List.set_cons_zero, List.set_cons_succ]
    refine wpAnyH_ready (rs := [9]) (by kernel_rfl) (by simp) ?_
    refine AllReadyH.cons rfl (fun KK hK => ?_) AllReadyH.nil
    go_simp
    go_at_call 20
    refine hc.mono ?_
    rintro e w3 ⟨hw, he⟩
    obtain rfl := hw.symm
    rw [HT.out, if_neg (by simp)] at he
    obtain rfl := he
    go_wp2
    exact ⟨rfl, Act1.end vs hMd⟩
  | true =>
    rw [if_pos rfl]
    have hbx := BoxC.new w #[.int .i64 4, .int .i64 A, .int .i64 B, .int .i64 C, .int .i64 n] 46
    have hM := (h.below ((Below.refl _ _).alloc (Nat.le_refl _) (.cells #[.int .i64 4, .int .i64 A, .int .i64 B, .int .i64 C, .int .i64 n] 46))).drew
    have hX := hbx.below (Below.refl _ _).drew
    have hBD : w.heap.size ≠ p.D := by have := h.lt; omega
    have c46 : Try.prog.cellsOf 46 = 5 := by kernel_rfl
    go_enter Try.func17, Try.ntmps17
    go_wp2
    have hS : MS p w0 vs s (w.alloc (.cells #[.int .i64 4, .int .i64 A, .int .i64 B, .int .i64 C, .int .i64 n] 46)).drew ∧ BoxC (w.alloc (.cells #[.int .i64 4, .int .i64 A, .int .i64 B, .int .i64 C, .int .i64 n] 46)).drew w.heap.size #[.int .i64 4, .int .i64 A, .int .i64 B, .int .i64 C, .int .i64 n] 46 := ⟨hM, hX⟩
    refine wp_region_held_drew (S := fun W => MS p w0 vs s W ∧ BoxC W w.heap.size #[.int .i64 4, .int .i64 A, .int .i64 B, .int .i64 C, .int .i64 n] 46) (by kernel_rfl) hS (fun hHeld => ?_)
    clear hHeld hbx h
    generalize (w.alloc (.cells #[.int .i64 4, .int .i64 A, .int .i64 B, .int .i64 C, .int .i64 n] 46)).drew = W at *
    generalize w.heap.size = X at *
    refine tkd (i := 0) (v := .pointer (some ⟨p.D, 0, none⟩)) rfl rfl (by kernel_rfl) (by kernel_rfl) (by kernel_rfl) (fun _ _ _ h => h) (Or.inl ⟨by rfl, fun w hSw => by skip; go_simp⟩) hS ?_
    simp only [List.setIfInBounds_toArray, List.set_cons_zero, List.set_cons_succ]
    refine tkd (i := 1) (v := .pointer (some ⟨X, 1, none⟩)) rfl rfl (by kernel_rfl) (by kernel_rfl) (by kernel_rfl) (fun _ _ _ h => h) (Or.inl ⟨by rfl, fun w hSw => by skip; go_simp⟩) hS ?_
    simp only [List.setIfInBounds_toArray, List.set_cons_zero, List.set_cons_succ]
    refine tkd (i := 2) (v := .int .i64 A) rfl rfl (by kernel_rfl) (by kernel_rfl) (by kernel_rfl) (fun _ _ _ h => h) (Or.inl ⟨by rfl, fun w hSw => by have z := hSw.2.cell 1 rfl; go_simp⟩) hS ?_
    simp only [List.setIfInBounds_toArray, List.set_cons_zero, List.set_cons_succ]
    refine tkd (i := 3) (v := .pointer (some ⟨p.D, 0, none⟩)) rfl rfl (by kernel_rfl) (by kernel_rfl) (by kernel_rfl) (fun _ _ _ h => h) (Or.inl ⟨by rfl, fun w hSw => by skip; go_simp⟩) hS ?_
    simp only [List.setIfInBounds_toArray, List.set_cons_zero, List.set_cons_succ]
    refine tkd (i := 4) (v := .pointer (some ⟨p.D, 11, none⟩)) rfl rfl (by kernel_rfl) (by kernel_rfl) (by kernel_rfl) (fun _ _ _ h => h) (Or.inl ⟨by rfl, fun w hSw => by skip; go_simp⟩) hS ?_
    simp only [List.setIfInBounds_toArray, List.set_cons_zero, List.set_cons_succ]
    refine tkd (i := 5) (v := .pointer (some ⟨p.D, 11 + A, none⟩)) rfl rfl (by kernel_rfl) (by kernel_rfl) (by kernel_rfl) (fun _ _ _ h => h) (Or.inl ⟨by rfl, fun w hSw => by have y : (A : Int) < 8 := (by omega); go_simp⟩) hS ?_
    simp only [List.setIfInBounds_toArray, List.set_cons_zero, List.set_cons_succ]
    refine tkd (i := 6) (v := .pointer (some ⟨p.D, 0, none⟩)) rfl rfl (by kernel_rfl) (by kernel_rfl) (by kernel_rfl) (fun _ _ _ h => h) (Or.inl ⟨by rfl, fun w hSw => by skip; go_simp⟩) hS ?_
    simp only [List.setIfInBounds_toArray, List.set_cons_zero, List.set_cons_succ]
    refine tkd (i := 7) (v := .pointer (some ⟨X, 2, none⟩)) rfl rfl (by kernel_rfl) (by kernel_rfl) (by kernel_rfl) (fun _ _ _ h => h) (Or.inl ⟨by rfl, fun w hSw => by skip; go_simp⟩) hS ?_
    simp only [List.setIfInBounds_toArray, List.set_cons_zero, List.set_cons_succ]
    refine tkd (i := 8) (v := .int .i64 B) rfl rfl (by kernel_rfl) (by kernel_rfl) (by kernel_rfl) (fun _ _ _ h => h) (Or.inl ⟨by rfl, fun w hSw => by have z := hSw.2.cell 2 rfl; go_simp⟩) hS ?_
    simp only [List.setIfInBounds_toArray, List.set_cons_zero, List.set_cons_succ]
    refine tkd (i := 9) (v := .pointer (some ⟨p.D, 0, none⟩)) rfl rfl (by kernel_rfl) (by kernel_rfl) (by kernel_rfl) (fun _ _ _ h => h) (Or.inl ⟨by rfl, fun w hSw => by skip; go_simp⟩) hS ?_
    simp only [List.setIfInBounds_toArray, List.set_cons_zero, List.set_cons_succ]
    refine tkd (i := 10) (v := .pointer (some ⟨p.D, 11, none⟩)) rfl rfl (by kernel_rfl) (by kernel_rfl) (by kernel_rfl) (fun _ _ _ h => h) (Or.inl ⟨by rfl, fun w hSw => by skip; go_simp⟩) hS ?_
    simp only [List.setIfInBounds_toArray, List.set_cons_zero, List.set_cons_succ]
    refine tkd (i := 11) (v := .pointer (some ⟨p.D, 11 + B, none⟩)) rfl rfl (by kernel_rfl) (by kernel_rfl) (by kernel_rfl) (fun _ _ _ h => h) (Or.inl ⟨by rfl, fun w hSw => by have y : (B : Int) < 8 := (by omega); go_simp⟩) hS ?_
    simp only [List.setIfInBounds_toArray, List.set_cons_zero, List.set_cons_succ]
    refine tkd (i := 12) (v := intV (s.regs.getD B 0)) rfl rfl (by kernel_rfl) (by kernel_rfl) (by kernel_rfl) (fun _ _ _ h => h) (Or.inl ⟨by rfl, fun w hSw => by have z := hSw.1.reg B hB; go_simp⟩) hS ?_
    simp only [List.setIfInBounds_toArray, List.set_cons_zero, List.set_cons_succ]
    refine tkd (i := 13) (v := .pointer (some ⟨p.D, 11 + A, none⟩)) rfl rfl (by kernel_rfl) (by kernel_rfl) (by kernel_rfl) (fun _ _ _ h => h) (Or.inl ⟨by rfl, fun w hSw => by skip; go_simp⟩) hS ?_
    simp only [List.setIfInBounds_toArray, List.set_cons_zero, List.set_cons_succ]
    refine tkd (i := 14) (v := intV (s.regs.getD B 0)) rfl rfl (by kernel_rfl) (by kernel_rfl) (by kernel_rfl) (fun _ _ _ h => h) (Or.inl ⟨by rfl, fun w hSw => by skip; go_simp⟩) hS ?_
    simp only [List.setIfInBounds_toArray, List.set_cons_zero, List.set_cons_succ]
    refine wpAnyH_done (by kernel_rfl) ?_ _
    clear hS
    have hlt := hM.lt
    have hXlt := hX.lt
    have x0 := hX.cell 0 rfl
    have x3 := hX.cell 3 rfl
    have x4 := hX.cell 4 rfl
    have rA := hM.reg A hA
    have fA := hM.fz (11 + A)
    generalize hb : s.regs.getD B 0 = b at *
    generalize ha : s.regs.getD A 0 = a at *
    obtain ⟨wa, wc, hv, hk⟩ := words_at hM.own2
    have m := hM.tail.1
    rw [hv] at m
    have HT : Hid (belB (wrap64 (b + n)) s.lw.length = true) := hth
    have hr : 0 ≤ wrap64 (b + n) ∧ wrap64 (b + n) < s.lw.length := by simpa [there] using hth
    obtain ⟨g, rfl, hcell⟩ := hk (by omega)
    obtain ⟨q1, q2⟩ := hcell (wrap64 (b + n)).toNat (by omega)
    have hgD : g ≠ p.D := by
      have := hM.mem.far 2
      intro e
      exact this (by show (vs 2).ownBlock = _; rw [hv, e]; rfl)
    have hc := oWord (some ⟨g, 0, none⟩) (wrap64 (b + n)) s.lw.length wc W.drew (fun h => ⟨g, rfl⟩)
    have HX : Hid (s.lw.getD (wrap64 (b + n)).toNat 0 = rd s.lw (wrap64 (b + n))) := rfl
    rw [HX.out] at q1
    generalize hx : rd s.lw (wrap64 (b + n)) = x at *
    clear hk hth hv hcell hr HX hx
    generalize s.lw.length = nw at *
    have hMd := hM.drew
    have f' := hMd.fz (11 + A)
    have r' := hMd.reg A hA
    have hlt' := hMd.lt
    go_wp2
    have hS : W.drew.cell? ⟨p.D, 19, none⟩ = some (.slice (some ⟨g, 0, none⟩) nw wc) ∧ W.drew.cell? ⟨X, 4, none⟩ = some (.int .i64 n) ∧ True := ⟨by simpa using m, by simpa using x4, trivial⟩
    have q1' : W.drew.cell? ⟨g, (wrap64 (b + n)).toNat, none⟩ = some (intV x) := by simpa using q1
    refine wp_region_held_drew (S := fun W => W.cell? ⟨p.D, 19, none⟩ = some (.slice (some ⟨g, 0, none⟩) nw wc) ∧ W.cell? ⟨X, 4, none⟩ = some (.int .i64 n) ∧ True) (by kernel_rfl) hS (fun hHeld => ?_)
    clear hHeld
    generalize W.drew = W2 at *
    refine tkd (i := 0) (v := .pointer (some ⟨p.D, 11 + A, none⟩)) rfl rfl (by kernel_rfl) (by kernel_rfl) (by kernel_rfl) (fun _ _ _ h => h) (Or.inl ⟨by rfl, fun w hSw => by skip; go_simp⟩) hS ?_
    simp only [List.setIfInBounds_toArray, List.set_cons_zero, List.set_cons_succ]
    refine tkd (i := 1) (v := .pointer (some ⟨p.D, 0, none⟩)) rfl rfl (by kernel_rfl) (by kernel_rfl) (by kernel_rfl) (fun _ _ _ h => h) (Or.inl ⟨by rfl, fun w hSw => by skip; go_simp⟩) hS ?_
    simp only [List.setIfInBounds_toArray, List.set_cons_zero, List.set_cons_succ]
    refine tkd (i := 2) (v := .pointer (some ⟨p.D, 0, none⟩)) rfl rfl (by kernel_rfl) (by kernel_rfl) (by kernel_rfl) (fun _ _ _ h => h) (Or.inl ⟨by rfl, fun w hSw => by skip; go_simp⟩) hS ?_
    simp only [List.setIfInBounds_toArray, List.set_cons_zero, List.set_cons_succ]
    refine tkd (i := 3) (v := .pointer (some ⟨p.D, 19, none⟩)) rfl rfl (by kernel_rfl) (by kernel_rfl) (by kernel_rfl) (fun _ _ _ h => h) (Or.inl ⟨by rfl, fun w hSw => by skip; go_simp⟩) hS ?_
    simp only [List.setIfInBounds_toArray, List.set_cons_zero, List.set_cons_succ]
    refine tkd (i := 4) (v := .slice (some ⟨g, 0, none⟩) nw wc) rfl rfl (by kernel_rfl) (by kernel_rfl) (by kernel_rfl) (fun _ _ _ h => h) (Or.inl ⟨by rfl, fun w hSw => by have z := hSw.1; go_simp⟩) hS ?_
    simp only [List.setIfInBounds_toArray, List.set_cons_zero, List.set_cons_succ]
    refine tkd (i := 5) (v := .int .i64 b) rfl rfl (by kernel_rfl) (by kernel_rfl) (by kernel_rfl) (fun _ _ _ h => h) (Or.inl ⟨by rfl, fun w hSw => by skip; go_simp⟩) hS ?_
    simp only [List.setIfInBounds_toArray, List.set_cons_zero, List.set_cons_succ]
    refine tkd (i := 6) (v := .pointer (some ⟨X, 4, none⟩)) rfl rfl (by kernel_rfl) (by kernel_rfl) (by kernel_rfl) (fun _ _ _ h => h) (Or.inl ⟨by rfl, fun w hSw => by skip; go_simp⟩) hS ?_
    simp only [List.setIfInBounds_toArray, List.set_cons_zero, List.set_cons_succ]
    refine tkd (i := 7) (v := .int .i64 n) rfl rfl (by kernel_rfl) (by kernel_rfl) (by kernel_rfl) (fun _ _ _ h => h) (Or.inl ⟨by rfl, fun w hSw => by have z := hSw.2.1; go_simp⟩) hS ?_
    simp only [List.setIfInBounds_toArray, List.set_cons_zero, List.set_cons_succ]
    refine tkd (i := 8) (v := .int .i64 (wrap64 (b + n))) rfl rfl (by kernel_rfl) (by kernel_rfl) (by kernel_rfl) (fun _ _ _ h => h) (Or.inl ⟨by rfl, fun w hSw => by go_simp; exact IntWalk.i64_left _⟩) hS ?_
    simp only [List.setIfInBounds_toArray, List.set_cons_zero, List.set_cons_succ]
    refine wpAnyH_ready (rs := [9]) (by kernel_rfl) (by simp) ?_
    refine AllReadyH.cons rfl (fun KK hK => ?_) AllReadyH.nil
    go_simp
    go_at_call 20
    refine hc.mono ?_
    rintro e w3 ⟨hw, he⟩
    obtain rfl := hw.symm
    rw [HT.out, if_pos rfl] at he
    obtain rfl := he g rfl
    go_wp2
    refine hK.out _ _ hS (fun hHeld => ?_)
    clear hK KK hHeld he hc
    refine tkd (i := 10) (v := .pointer (some ⟨g, (wrap64 (b + n)).toNat, none⟩)) rfl rfl (by kernel_rfl) (by kernel_rfl) (by kernel_rfl) (fun _ _ _ h => h) (Or.inl ⟨by rfl, fun w hSw => by skip; go_simp⟩) hS ?_
    simp only [List.setIfInBounds_toArray, List.set_cons_zero, List.set_cons_succ]
    refine wpAnyH_ready (rs := [11]) (by kernel_rfl) (by simp) ?_
    refine AllReadyH.cons rfl (fun KK hK => ?_) AllReadyH.nil
    go_simp
    refine hK.out _ _ hS (fun hHeld => ?_)
    clear hK KK hHeld
    refine tkd (i := 12) (v := .pointer (some ⟨p.D, 11 + A, none⟩)) rfl rfl (by kernel_rfl) (by kernel_rfl) (by kernel_rfl) (fun _ _ _ h => h) (Or.inl ⟨by rfl, fun w hSw => by skip; go_simp⟩) hS ?_
    simp only [List.setIfInBounds_toArray, List.set_cons_zero, List.set_cons_succ]
    refine wpAnyH_ready (rs := [13]) (by kernel_rfl) (by simp) ?_
    refine AllReadyH.cons rfl (fun KK hK => ?_) AllReadyH.nil
    go_simp
    have hMe := hMd.setReg A hA x
    replace hS : (W2.setCell ⟨p.D, 11 + A, none⟩ (intV x)).cell? ⟨p.D, 19, none⟩ = some (.slice (some ⟨g, 0, none⟩) nw wc) ∧ (W2.setCell ⟨p.D, 11 + A, none⟩ (intV x)).cell? ⟨X, 4, none⟩ = some (.int .i64 n) ∧ True := ⟨by rw [World.cell?_setCell_other _ _ _ _ (by simp <;> omega)]; exact hS.1, by rw [World.cell?_setCell_other _ _ _ _ (by simp [hBD])]; exact hS.2.1, trivial⟩
    refine hK.out _ _ hS (fun hHeld => ?_)
    clear hK KK hHeld
    refine wpAnyH_done (by kernel_rfl) ?_ _
    go_wp2
    go_end0
    exact Act1.go vs hMe
set_option maxHeartbeats 4000000 in
theorem do5 (h : MS p w0 vs s w) (A B C : Nat) (hA : A < 8) (hB : B < 8) (hC : C < 8) (n : Int) :
    Calls Try.prog 17 #[.pointer (some ⟨p.D, 0, none⟩), .agg #[.int .i64 5, .int .i64 A, .int .i64 B, .int .i64 C, .int .i64 n]] w (Act1 p w0 (if there s.hw (wrap64 (s.regs.getD B 0 + n)) then (none, { s with regs := s.regs.set A (rd s.hw (wrap64 (s.regs.getD B 0 + n))) }) else (some 6, s))) := by
  cases hth : there s.hw (wrap64 (s.regs.getD B 0 + n)) with
  | false =>
    rw [if_neg (by simp)]
    have hbx := BoxC.new w #[.int .i64 5, .int .i64 A, .int .i64 B, .int .i64 C, .int .i64 n] 46
    have hM := (h.below ((Below.refl _ _).alloc (Nat.le_refl _) (.cells #[.int .i64 5, .int .i64 A, .int .i64 B, .int .i64 C, .int .i64 n] 46))).drew
    have hX := hbx.below (Below.refl _ _).drew
    have hBD : w.heap.size ≠ p.D := by have := h.lt; omega
    have c46 : Try.prog.cellsOf 46 = 5 := by kernel_rfl
    go_enter Try.func17, Try.ntmps17
    go_wp2
    have hS : MS p w0 vs s (w.alloc (.cells #[.int .i64 5, .int .i64 A, .int .i64 B, .int .i64 C, .int .i64 n] 46)).drew ∧ BoxC (w.alloc (.cells #[.int .i64 5, .int .i64 A, .int .i64 B, .int .i64 C, .int .i64 n] 46)).drew w.heap.size #[.int .i64 5, .int .i64 A, .int .i64 B, .int .i64 C, .int .i64 n] 46 := ⟨hM, hX⟩
    refine wp_region_held_drew (S := fun W => MS p w0 vs s W ∧ BoxC W w.heap.size #[.int .i64 5, .int .i64 A, .int .i64 B, .int .i64 C, .int .i64 n] 46) (by kernel_rfl) hS (fun hHeld => ?_)
    clear hHeld hbx h
    generalize (w.alloc (.cells #[.int .i64 5, .int .i64 A, .int .i64 B, .int .i64 C, .int .i64 n] 46)).drew = W at *
    generalize w.heap.size = X at *
    refine tkd (i := 0) (v := .pointer (some ⟨p.D, 0, none⟩)) rfl rfl (by kernel_rfl) (by kernel_rfl) (by kernel_rfl) (fun _ _ _ h => h) (Or.inl ⟨by rfl, fun w hSw => by skip; go_simp⟩) hS ?_
    simp only [List.setIfInBounds_toArray, List.set_cons_zero, List.set_cons_succ]
    refine tkd (i := 1) (v := .pointer (some ⟨X, 1, none⟩)) rfl rfl (by kernel_rfl) (by kernel_rfl) (by kernel_rfl) (fun _ _ _ h => h) (Or.inl ⟨by rfl, fun w hSw => by skip; go_simp⟩) hS ?_
    simp only [List.setIfInBounds_toArray, List.set_cons_zero, List.set_cons_succ]
    refine tkd (i := 2) (v := .int .i64 A) rfl rfl (by kernel_rfl) (by kernel_rfl) (by kernel_rfl) (fun _ _ _ h => h) (Or.inl ⟨by rfl, fun w hSw => by have z := hSw.2.cell 1 rfl; go_simp⟩) hS ?_
    simp only [List.setIfInBounds_toArray, List.set_cons_zero, List.set_cons_succ]
    refine tkd (i := 3) (v := .pointer (some ⟨p.D, 0, none⟩)) rfl rfl (by kernel_rfl) (by kernel_rfl) (by kernel_rfl) (fun _ _ _ h => h) (Or.inl ⟨by rfl, fun w hSw => by skip; go_simp⟩) hS ?_
    simp only [List.setIfInBounds_toArray, List.set_cons_zero, List.set_cons_succ]
    refine tkd (i := 4) (v := .pointer (some ⟨p.D, 11, none⟩)) rfl rfl (by kernel_rfl) (by kernel_rfl) (by kernel_rfl) (fun _ _ _ h => h) (Or.inl ⟨by rfl, fun w hSw => by skip; go_simp⟩) hS ?_
    simp only [List.setIfInBounds_toArray, List.set_cons_zero, List.set_cons_succ]
    refine tkd (i := 5) (v := .pointer (some ⟨p.D, 11 + A, none⟩)) rfl rfl (by kernel_rfl) (by kernel_rfl) (by kernel_rfl) (fun _ _ _ h => h) (Or.inl ⟨by rfl, fun w hSw => by have y : (A : Int) < 8 := (by omega); go_simp⟩) hS ?_
    simp only [List.setIfInBounds_toArray, List.set_cons_zero, List.set_cons_succ]
    refine tkd (i := 6) (v := .pointer (some ⟨p.D, 0, none⟩)) rfl rfl (by kernel_rfl) (by kernel_rfl) (by kernel_rfl) (fun _ _ _ h => h) (Or.inl ⟨by rfl, fun w hSw => by skip; go_simp⟩) hS ?_
    simp only [List.setIfInBounds_toArray, List.set_cons_zero, List.set_cons_succ]
    refine tkd (i := 7) (v := .pointer (some ⟨X, 2, none⟩)) rfl rfl (by kernel_rfl) (by kernel_rfl) (by kernel_rfl) (fun _ _ _ h => h) (Or.inl ⟨by rfl, fun w hSw => by skip; go_simp⟩) hS ?_
    simp only [List.setIfInBounds_toArray, List.set_cons_zero, List.set_cons_succ]
    refine tkd (i := 8) (v := .int .i64 B) rfl rfl (by kernel_rfl) (by kernel_rfl) (by kernel_rfl) (fun _ _ _ h => h) (Or.inl ⟨by rfl, fun w hSw => by have z := hSw.2.cell 2 rfl; go_simp⟩) hS ?_
    simp only [List.setIfInBounds_toArray, List.set_cons_zero, List.set_cons_succ]
    refine tkd (i := 9) (v := .pointer (some ⟨p.D, 0, none⟩)) rfl rfl (by kernel_rfl) (by kernel_rfl) (by kernel_rfl) (fun _ _ _ h => h) (Or.inl ⟨by rfl, fun w hSw => by skip; go_simp⟩) hS ?_
    simp only [List.setIfInBounds_toArray, List.set_cons_zero, List.set_cons_succ]
    refine tkd (i := 10) (v := .pointer (some ⟨p.D, 11, none⟩)) rfl rfl (by kernel_rfl) (by kernel_rfl) (by kernel_rfl) (fun _ _ _ h => h) (Or.inl ⟨by rfl, fun w hSw => by skip; go_simp⟩) hS ?_
    simp only [List.setIfInBounds_toArray, List.set_cons_zero, List.set_cons_succ]
    refine tkd (i := 11) (v := .pointer (some ⟨p.D, 11 + B, none⟩)) rfl rfl (by kernel_rfl) (by kernel_rfl) (by kernel_rfl) (fun _ _ _ h => h) (Or.inl ⟨by rfl, fun w hSw => by have y : (B : Int) < 8 := (by omega); go_simp⟩) hS ?_
    simp only [List.setIfInBounds_toArray, List.set_cons_zero, List.set_cons_succ]
    refine tkd (i := 12) (v := intV (s.regs.getD B 0)) rfl rfl (by kernel_rfl) (by kernel_rfl) (by kernel_rfl) (fun _ _ _ h => h) (Or.inl ⟨by rfl, fun w hSw => by have z := hSw.1.reg B hB; go_simp⟩) hS ?_
    simp only [List.setIfInBounds_toArray, List.set_cons_zero, List.set_cons_succ]
    refine tkd (i := 13) (v := .pointer (some ⟨p.D, 11 + A, none⟩)) rfl rfl (by kernel_rfl) (by kernel_rfl) (by kernel_rfl) (fun _ _ _ h => h) (Or.inl ⟨by rfl, fun w hSw => by skip; go_simp⟩) hS ?_
    simp only [List.setIfInBounds_toArray, List.set_cons_zero, List.set_cons_succ]
    refine tkd (i := 14) (v := intV (s.regs.getD B 0)) rfl rfl (by kernel_rfl) (by kernel_rfl) (by kernel_rfl) (fun _ _ _ h => h) (Or.inl ⟨by rfl, fun w hSw => by skip; go_simp⟩) hS ?_
    simp only [List.setIfInBounds_toArray, List.set_cons_zero, List.set_cons_succ]
    refine wpAnyH_done (by kernel_rfl) ?_ _
    clear hS
    have hlt := hM.lt
    have hXlt := hX.lt
    have x0 := hX.cell 0 rfl
    have x3 := hX.cell 3 rfl
    have x4 := hX.cell 4 rfl
    have rA := hM.reg A hA
    have fA := hM.fz (11 + A)
    generalize hb : s.regs.getD B 0 = b at *
    generalize ha : s.regs.getD A 0 = a at *
    obtain ⟨wa, wc, hv, hk⟩ := words_at hM.own3
    have m := hM.tail.2.1
    rw [hv] at m
    have HT : Hid (belB (wrap64 (b + n)) s.hw.length = false) := hth
    have hc := oWord wa (wrap64 (b + n)) s.hw.length wc W.drew (fun h => by obtain ⟨g, e, _⟩ := hk h; exact ⟨g, e⟩)
    clear hk hth hv
    generalize s.hw.length = nw at *
    have hMd := hM.drew
    go_wp2
    have hS : W.drew.cell? ⟨p.D, 20, none⟩ = some (.slice wa nw wc) ∧ W.drew.cell? ⟨X, 4, none⟩ = some (.int .i64 n) ∧ True := ⟨by simpa using m, by simpa using x4, trivial⟩
    refine wp_region_held_drew (S := fun W => W.cell? ⟨p.D, 20, none⟩ = some (.slice wa nw wc) ∧ W.cell? ⟨X, 4, none⟩ = some (.int .i64 n) ∧ True) (by kernel_rfl) hS (fun hHeld => ?_)
    clear hHeld
    generalize W.drew = W2 at *
    refine tkd (i := 0) (v := .pointer (some ⟨p.D, 11 + A, none⟩)) rfl rfl (by kernel_rfl) (by kernel_rfl) (by kernel_rfl) (fun _ _ _ h => h) (Or.inl ⟨by rfl, fun w hSw => by skip; go_simp⟩) hS ?_
    simp only [List.setIfInBounds_toArray, List.set_cons_zero, List.set_cons_succ]
    refine tkd (i := 1) (v := .pointer (some ⟨p.D, 0, none⟩)) rfl rfl (by kernel_rfl) (by kernel_rfl) (by kernel_rfl) (fun _ _ _ h => h) (Or.inl ⟨by rfl, fun w hSw => by skip; go_simp⟩) hS ?_
    simp only [List.setIfInBounds_toArray, List.set_cons_zero, List.set_cons_succ]
    refine tkd (i := 2) (v := .pointer (some ⟨p.D, 0, none⟩)) rfl rfl (by kernel_rfl) (by kernel_rfl) (by kernel_rfl) (fun _ _ _ h => h) (Or.inl ⟨by rfl, fun w hSw => by skip; go_simp⟩) hS ?_
    simp only [List.setIfInBounds_toArray, List.set_cons_zero, List.set_cons_succ]
    refine tkd (i := 3) (v := .pointer (some ⟨p.D, 20, none⟩)) rfl rfl (by kernel_rfl) (by kernel_rfl) (by kernel_rfl) (fun _ _ _ h => h) (Or.inl ⟨by rfl, fun w hSw => by skip; go_simp⟩) hS ?_
    simp only [List.setIfInBounds_toArray, List.set_cons_zero, List.set_cons_succ]
    refine tkd (i := 4) (v := .slice wa nw wc) rfl rfl (by kernel_rfl) (by kernel_rfl) (by kernel_rfl) (fun _ _ _ h => h) (Or.inl ⟨by rfl, fun w hSw => by have z := hSw.1; go_simp⟩) hS ?_
    simp only [List.setIfInBounds_toArray, List.set_cons_zero, List.set_cons_succ]
    refine tkd (i := 5) (v := .int .i64 b) rfl rfl (by kernel_rfl) (by kernel_rfl) (by kernel_rfl) (fun _ _ _ h => h) (Or.inl ⟨by rfl, fun w hSw => by skip; go_simp⟩) hS ?_
    simp only [List.setIfInBounds_toArray, List.set_cons_zero, List.set_cons_succ]
    refine tkd (i := 6) (v := .pointer (some ⟨X, 4, none⟩)) rfl rfl (by kernel_rfl) (by kernel_rfl) (by kernel_rfl) (fun _ _ _ h => h) (Or.inl ⟨by rfl, fun w hSw => by skip; go_simp⟩) hS ?_
    simp only [List.setIfInBounds_toArray, List.set_cons_zero, List.set_cons_succ]
    refine tkd (i := 7) (v := .int .i64 n) rfl rfl (by kernel_rfl) (by kernel_rfl) (by kernel_rfl) (fun _ _ _ h => h) (Or.inl ⟨by rfl, fun w hSw => by have z := hSw.2.1; go_simp⟩) hS ?_
    simp only [List.setIfInBounds_toArray, List.set_cons_zero, List.set_cons_succ]
    refine tkd (i := 8) (v := .int .i64 (wrap64 (b + n))) rfl rfl (by kernel_rfl) (by kernel_rfl) (by kernel_rfl) (fun _ _ _ h => h) (Or.inl ⟨by rfl, fun w hSw => by go_simp; exact IntWalk.i64_left _⟩) hS ?_
    simp only [List.setIfInBounds_toArray, List.set_cons_zero, List.set_cons_succ]
    refine wpAnyH_ready (rs := [9]) (by kernel_rfl) (by simp) ?_
    refine AllReadyH.cons rfl (fun KK hK => ?_) AllReadyH.nil
    go_simp
    go_at_call 20
    refine hc.mono ?_
    rintro e w3 ⟨hw, he⟩
    obtain rfl := hw.symm
    rw [HT.out, if_neg (by simp)] at he
    obtain rfl := he
    go_wp2
    exact ⟨rfl, Act1.end vs hMd⟩
  | true =>
    rw [if_pos rfl]
    have hbx := BoxC.new w #[.int .i64 5, .int .i64 A, .int .i64 B, .int .i64 C, .int .i64 n] 46
    have hM := (h.below ((Below.refl _ _).alloc (Nat.le_refl _) (.cells #[.int .i64 5, .int .i64 A, .int .i64 B, .int .i64 C, .int .i64 n] 46))).drew
    have hX := hbx.below (Below.refl _ _).drew
    have hBD : w.heap.size ≠ p.D := by have := h.lt; omega
    have c46 : Try.prog.cellsOf 46 = 5 := by kernel_rfl
    go_enter Try.func17, Try.ntmps17
    go_wp2
    have hS : MS p w0 vs s (w.alloc (.cells #[.int .i64 5, .int .i64 A, .int .i64 B, .int .i64 C, .int .i64 n] 46)).drew ∧ BoxC (w.alloc (.cells #[.int .i64 5, .int .i64 A, .int .i64 B, .int .i64 C, .int .i64 n] 46)).drew w.heap.size #[.int .i64 5, .int .i64 A, .int .i64 B, .int .i64 C, .int .i64 n] 46 := ⟨hM, hX⟩
    refine wp_region_held_drew (S := fun W => MS p w0 vs s W ∧ BoxC W w.heap.size #[.int .i64 5, .int .i64 A, .int .i64 B, .int .i64 C, .int .i64 n] 46) (by kernel_rfl) hS (fun hHeld => ?_)
    clear hHeld hbx h
    generalize (w.alloc (.cells #[.int .i64 5, .int .i64 A, .int .i64 B, .int .i64 C, .int .i64 n] 46)).drew = W at *
    generalize w.heap.size = X at *
    refine tkd (i := 0) (v := .pointer (some ⟨p.D, 0, none⟩)) rfl rfl (by kernel_rfl) (by kernel_rfl) (by kernel_rfl) (fun _ _ _ h => h) (Or.inl ⟨by rfl, fun w hSw => by skip; go_simp⟩) hS ?_
    simp only [List.setIfInBounds_toArray, List.set_cons_zero, List.set_cons_succ]
    refine tkd (i := 1) (v := .pointer (some ⟨X, 1, none⟩)) rfl rfl (by kernel_rfl) (by kernel_rfl) (by kernel_rfl) (fun _ _ _ h => h) (Or.inl ⟨by rfl, fun w hSw => by skip; go_simp⟩) hS ?_
    simp only [List.setIfInBounds_toArray, List.set_cons_zero, List.set_cons_succ]
    refine tkd (i := 2) (v := .int .i64 A) rfl rfl (by kernel_rfl) (by kernel_rfl) (by kernel_rfl) (fun _ _ _ h => h) (Or.inl ⟨by rfl, fun w hSw => by have z := hSw.2.cell 1 rfl; go_simp⟩) hS ?_
    simp only [List.setIfInBounds_toArray, List.set_cons_zero, List.set_cons_succ]
    refine tkd (i := 3) (v := .pointer (some ⟨p.D, 0, none⟩)) rfl rfl (by kernel_rfl) (by kernel_rfl) (by kernel_rfl) (fun _ _ _ h => h) (Or.inl ⟨by rfl, fun w hSw => by skip; go_simp⟩) hS ?_
    simp only [List.setIfInBounds_toArray, List.set_cons_zero, List.set_cons_succ]
    refine tkd (i := 4) (v := .pointer (some ⟨p.D, 11, none⟩)) rfl rfl (by kernel_rfl) (by kernel_rfl) (by kernel_rfl) (fun _ _ _ h => h) (Or.inl ⟨by rfl, fun w hSw => by skip; go_simp⟩) hS ?_
    simp only [List.setIfInBounds_toArray, List.set_cons_zero, List.set_cons_succ]
    refine tkd (i := 5) (v := .pointer (some ⟨p.D, 11 + A, none⟩)) rfl rfl (by kernel_rfl) (by kernel_rfl) (by kernel_rfl) (fun _ _ _ h => h) (Or.inl ⟨by rfl, fun w hSw => by have y : (A : Int) < 8 := (by omega); go_simp⟩) hS ?_
    simp only [List.setIfInBounds_toArray, List.set_cons_zero, List.set_cons_succ]
    refine tkd (i := 6) (v := .pointer (some ⟨p.D, 0, none⟩)) rfl rfl (by kernel_rfl) (by kernel_rfl) (by kernel_rfl) (fun _ _ _ h => h) (Or.inl ⟨by rfl, fun w hSw => by skip; go_simp⟩) hS ?_
    simp only [List.setIfInBounds_toArray, List.set_cons_zero, List.set_cons_succ]
    refine tkd (i := 7) (v := .pointer (some ⟨X, 2, none⟩)) rfl rfl (by kernel_rfl) (by kernel_rfl) (by kernel_rfl) (fun _ _ _ h => h) (Or.inl ⟨by rfl, fun w hSw => by skip; go_simp⟩) hS ?_
    simp only [List.setIfInBounds_toArray, List.set_cons_zero, List.set_cons_succ]
    refine tkd (i := 8) (v := .int .i64 B) rfl rfl (by kernel_rfl) (by kernel_rfl) (by kernel_rfl) (fun _ _ _ h => h) (Or.inl ⟨by rfl, fun w hSw => by have z := hSw.2.cell 2 rfl; go_simp⟩) hS ?_
    simp only [List.setIfInBounds_toArray, List.set_cons_zero, List.set_cons_succ]
    refine tkd (i := 9) (v := .pointer (some ⟨p.D, 0, none⟩)) rfl rfl (by kernel_rfl) (by kernel_rfl) (by kernel_rfl) (fun _ _ _ h => h) (Or.inl ⟨by rfl, fun w hSw => by skip; go_simp⟩) hS ?_
    simp only [List.setIfInBounds_toArray, List.set_cons_zero, List.set_cons_succ]
    refine tkd (i := 10) (v := .pointer (some ⟨p.D, 11, none⟩)) rfl rfl (by kernel_rfl) (by kernel_rfl) (by kernel_rfl) (fun _ _ _ h => h) (Or.inl ⟨by rfl, fun w hSw => by skip; go_simp⟩) hS ?_
    simp only [List.setIfInBounds_toArray, List.set_cons_zero, List.set_cons_succ]
    refine tkd (i := 11) (v := .pointer (some ⟨p.D, 11 + B, none⟩)) rfl rfl (by kernel_rfl) (by kernel_rfl) (by kernel_rfl) (fun _ _ _ h => h) (Or.inl ⟨by rfl, fun w hSw => by have y : (B : Int) < 8 := (by omega); go_simp⟩) hS ?_
    simp only [List.setIfInBounds_toArray, List.set_cons_zero, List.set_cons_succ]
    refine tkd (i := 12) (v := intV (s.regs.getD B 0)) rfl rfl (by kernel_rfl) (by kernel_rfl) (by kernel_rfl) (fun _ _ _ h => h) (Or.inl ⟨by rfl, fun w hSw => by have z := hSw.1.reg B hB; go_simp⟩) hS ?_
    simp only [List.setIfInBounds_toArray, List.set_cons_zero, List.set_cons_succ]
    refine tkd (i := 13) (v := .pointer (some ⟨p.D, 11 + A, none⟩)) rfl rfl (by kernel_rfl) (by kernel_rfl) (by kernel_rfl) (fun _ _ _ h => h) (Or.inl ⟨by rfl, fun w hSw => by skip; go_simp⟩) hS ?_
    simp only [List.setIfInBounds_toArray, List.set_cons_zero, List.set_cons_succ]
    refine tkd (i := 14) (v := intV (s.regs.getD B 0)) rfl rfl (by kernel_rfl) (by kernel_rfl) (by kernel_rfl) (fun _ _ _ h => h) (Or.inl ⟨by rfl, fun w hSw => by skip; go_simp⟩) hS ?_
    simp only [List.setIfInBounds_toArray, List.set_cons_zero, List.set_cons_succ]
    refine wpAnyH_done (by kernel_rfl) ?_ _
    clear hS
    have hlt := hM.lt
    have hXlt := hX.lt
    have x0 := hX.cell 0 rfl
    have x3 := hX.cell 3 rfl
    have x4 := hX.cell 4 rfl
    have rA := hM.reg A hA
    have fA := hM.fz (11 + A)
    generalize hb : s.regs.getD B 0 = b at *
    generalize ha : s.regs.getD A 0 = a at *
    obtain ⟨wa, wc, hv, hk⟩ := words_at hM.own3
    have m := hM.tail.2.1
    rw [hv] at m
    have HT : Hid (belB (wrap64 (b + n)) s.hw.length = true) := hth
    have hr : 0 ≤ wrap64 (b + n) ∧ wrap64 (b + n) < s.hw.length := by simpa [there] using hth
    obtain ⟨g, rfl, hcell⟩ := hk (by omega)
    obtain ⟨q1, q2⟩ := hcell (wrap64 (b + n)).toNat (by omega)
    have hgD : g ≠ p.D := by
      have := hM.mem.far 3
      intro e
      exact this (by show (vs 3).ownBlock = _; rw [hv, e]; rfl)
    have hc := oWord (some ⟨g, 0, none⟩) (wrap64 (b + n)) s.hw.length wc W.drew (fun h => ⟨g, rfl⟩)
    have HX : Hid (s.hw.getD (wrap64 (b + n)).toNat 0 = rd s.hw (wrap64 (b + n))) := rfl
    rw [HX.out] at q1
    generalize hx : rd s.hw (wrap64 (b + n)) = x at *
    clear hk hth hv hcell hr HX hx
    generalize s.hw.length = nw at *
    have hMd := hM.drew
    have f' := hMd.fz (11 + A)
    have r' := hMd.reg A hA
    have hlt' := hMd.lt
    go_wp2
    have hS : W.drew.cell? ⟨p.D, 20, none⟩ = some (.slice (some ⟨g, 0, none⟩) nw wc) ∧ W.drew.cell? ⟨X, 4, none⟩ = some (.int .i64 n) ∧ True := ⟨by simpa using m, by simpa using x4, trivial⟩
    have q1' : W.drew.cell? ⟨g, (wrap64 (b + n)).toNat, none⟩ = some (intV x) := by simpa using q1
    refine wp_region_held_drew (S := fun W => W.cell? ⟨p.D, 20, none⟩ = some (.slice (some ⟨g, 0, none⟩) nw wc) ∧ W.cell? ⟨X, 4, none⟩ = some (.int .i64 n) ∧ True) (by kernel_rfl) hS (fun hHeld => ?_)
    clear hHeld
    generalize W.drew = W2 at *
    refine tkd (i := 0) (v := .pointer (some ⟨p.D, 11 + A, none⟩)) rfl rfl (by kernel_rfl) (by kernel_rfl) (by kernel_rfl) (fun _ _ _ h => h) (Or.inl ⟨by rfl, fun w hSw => by skip; go_simp⟩) hS ?_
    simp only [List.setIfInBounds_toArray, List.set_cons_zero, List.set_cons_succ]
    refine tkd (i := 1) (v := .pointer (some ⟨p.D, 0, none⟩)) rfl rfl (by kernel_rfl) (by kernel_rfl) (by kernel_rfl) (fun _ _ _ h => h) (Or.inl ⟨by rfl, fun w hSw => by skip; go_simp⟩) hS ?_
    simp only [List.setIfInBounds_toArray, List.set_cons_zero, List.set_cons_succ]
    refine tkd (i := 2) (v := .pointer (some ⟨p.D, 0, none⟩)) rfl rfl (by kernel_rfl) (by kernel_rfl) (by kernel_rfl) (fun _ _ _ h => h) (Or.inl ⟨by rfl, fun w hSw => by skip; go_simp⟩) hS ?_
    simp only [List.setIfInBounds_toArray, List.set_cons_zero, List.set_cons_succ]
    refine tkd (i := 3) (v := .pointer (some ⟨p.D, 20, none⟩)) rfl rfl (by kernel_rfl) (by kernel_rfl) (by kernel_rfl) (fun _ _ _ h => h) (Or.inl ⟨by rfl, fun w hSw => by skip; go_simp⟩) hS ?_
    simp only [List.setIfInBounds_toArray, List.set_cons_zero, List.set_cons_succ]
    refine tkd (i := 4) (v := .slice (some ⟨g, 0, none⟩) nw wc) rfl rfl (by kernel_rfl) (by kernel_rfl) (by kernel_rfl) (fun _ _ _ h => h) (Or.inl ⟨by rfl, fun w hSw => by have z := hSw.1; go_simp⟩) hS ?_
    simp only [List.setIfInBounds_toArray, List.set_cons_zero, List.set_cons_succ]
    refine tkd (i := 5) (v := .int .i64 b) rfl rfl (by kernel_rfl) (by kernel_rfl) (by kernel_rfl) (fun _ _ _ h => h) (Or.inl ⟨by rfl, fun w hSw => by skip; go_simp⟩) hS ?_
    simp only [List.setIfInBounds_toArray, List.set_cons_zero, List.set_cons_succ]
    refine tkd (i := 6) (v := .pointer (some ⟨X, 4, none⟩)) rfl rfl (by kernel_rfl) (by kernel_rfl) (by kernel_rfl) (fun _ _ _ h => h) (Or.inl ⟨by rfl, fun w hSw => by skip; go_simp⟩) hS ?_
    simp only [List.setIfInBounds_toArray, List.set_cons_zero, List.set_cons_succ]
    refine tkd (i := 7) (v := .int .i64 n) rfl rfl (by kernel_rfl) (by kernel_rfl) (by kernel_rfl) (fun _ _ _ h => h) (Or.inl ⟨by rfl, fun w hSw => by have z := hSw.2.1; go_simp⟩) hS ?_
    simp only [List.setIfInBounds_toArray, List.set_cons_zero, List.set_cons_succ]
    refine tkd (i := 8) (v := .int .i64 (wrap64 (b + n))) rfl rfl (by kernel_rfl) (by kernel_rfl) (by kernel_rfl) (fun _ _ _ h => h) (Or.inl ⟨by rfl, fun w hSw => by go_simp; exact IntWalk.i64_left _⟩) hS ?_
    simp only [List.setIfInBounds_toArray, List.set_cons_zero, List.set_cons_succ]
    refine wpAnyH_ready (rs := [9]) (by kernel_rfl) (by simp) ?_
    refine AllReadyH.cons rfl (fun KK hK => ?_) AllReadyH.nil
    go_simp
    go_at_call 20
    refine hc.mono ?_
    rintro e w3 ⟨hw, he⟩
    obtain rfl := hw.symm
    rw [HT.out, if_pos rfl] at he
    obtain rfl := he g rfl
    go_wp2
    refine hK.out _ _ hS (fun hHeld => ?_)
    clear hK KK hHeld he hc
    refine tkd (i := 10) (v := .pointer (some ⟨g, (wrap64 (b + n)).toNat, none⟩)) rfl rfl (by kernel_rfl) (by kernel_rfl) (by kernel_rfl) (fun _ _ _ h => h) (Or.inl ⟨by rfl, fun w hSw => by skip; go_simp⟩) hS ?_
    simp only [List.setIfInBounds_toArray, List.set_cons_zero, List.set_cons_succ]
    refine wpAnyH_ready (rs := [11]) (by kernel_rfl) (by simp) ?_
    refine AllReadyH.cons rfl (fun KK hK => ?_) AllReadyH.nil
    go_simp
    refine hK.out _ _ hS (fun hHeld => ?_)
    clear hK KK hHeld
    refine tkd (i := 12) (v := .pointer (some ⟨p.D, 11 + A, none⟩)) rfl rfl (by kernel_rfl) (by kernel_rfl) (by kernel_rfl) (fun _ _ _ h => h) (Or.inl ⟨by rfl, fun w hSw => by skip; go_simp⟩) hS ?_
    simp only [List.setIfInBounds_toArray, List.set_cons_zero, List.set_cons_succ]
    refine wpAnyH_ready (rs := [13]) (by kernel_rfl) (by simp) ?_
    refine AllReadyH.cons rfl (fun KK hK => ?_) AllReadyH.nil
    go_simp
    have hMe := hMd.setReg A hA x
    replace hS : (W2.setCell ⟨p.D, 11 + A, none⟩ (intV x)).cell? ⟨p.D, 20, none⟩ = some (.slice (some ⟨g, 0, none⟩) nw wc) ∧ (W2.setCell ⟨p.D, 11 + A, none⟩ (intV x)).cell? ⟨X, 4, none⟩ = some (.int .i64 n) ∧ True := ⟨by rw [World.cell?_setCell_other _ _ _ _ (by simp <;> omega)]; exact hS.1, by rw [World.cell?_setCell_other _ _ _ _ (by simp [hBD])]; exact hS.2.1, trivial⟩
    refine hK.out _ _ hS (fun hHeld => ?_)
    clear hK KK hHeld
    refine wpAnyH_done (by kernel_rfl) ?_ _
    go_wp2
    go_end0
    exact Act1.go vs hMe
set_option maxHeartbeats 4000000 in
theorem do6 (h : MS p w0 vs s w) (A B C : Nat) (hA : A < 8) (hB : B < 8) (hC : C < 8) (n : Int) :
    Calls Try.prog 17 #[.pointer (some ⟨p.D, 0, none⟩), .agg #[.int .i64 6, .int .i64 A, .int .i64 B, .int .i64 C, .int .i64 n]] w (Act1 p w0 (if there s.lw (wrap64 (s.regs.getD B 0 + n)) then (none, { s with lw := s.lw.set (wrap64 (s.regs.getD B 0 + n)).toNat (s.regs.getD A 0) }) else (some 6, s))) := by
  cases hth : there s.lw (wrap64 (s.regs.getD B 0 + n)) with
  | false =>
    rw [if_neg (by simp)]
    have hbx := BoxC.new w #[.int .i64 6, .int .i64 A, .int .i64 B, .int .i64 C, .int .i64 n] 46
    have hM := (h.below ((Below.refl _ _).alloc (Nat.le_refl _) (.cells #[.int .i64 6, .int .i64 A, .int .i64 B, .int .i64 C, .int .i64 n] 46))).drew
    have hX := hbx.below (Below.refl _ _).drew
    have hBD : w.heap.size ≠ p.D := by have := h.lt; omega
    have c46 : Try.prog.cellsOf 46 = 5 := by kernel_rfl
    go_enter Try.func17, Try.ntmps17
    go_wp2
    have hS : MS p w0 vs s (w.alloc (.cells #[.int .i64 6, .int .i64 A, .int .i64 B, .int .i64 C, .int .i64 n] 46)).drew ∧ BoxC (w.alloc (.cells #[.int .i64 6, .int .i64 A, .int .i64 B, .int .i64 C, .int .i64 n] 46)).drew w.heap.size #[.int .i64 6, .int .i64 A, .int .i64 B, .int .i64 C, .int .i64 n] 46 := ⟨hM, hX⟩
    refine wp_region_held_drew (S := fun W => MS p w0 vs s W ∧ BoxC W w.heap.size #[.int .i64 6, .int .i64 A, .int .i64 B, .int .i64 C, .int .i64 n] 46) (by kernel_rfl) hS (fun hHeld => ?_)
    clear hHeld hbx h
    generalize (w.alloc (.cells #[.int .i64 6, .int .i64 A, .int .i64 B, .int .i64 C, .int .i64 n] 46)).drew = W at *
    generalize w.heap.size = X at *
    refine tkd (i := 0) (v := .pointer (some ⟨p.D, 0, none⟩)) rfl rfl (by kernel_rfl) (by kernel_rfl) (by kernel_rfl) (fun _ _ _ h => h) (Or.inl ⟨by rfl, fun w hSw => by skip; go_simp⟩) hS ?_
    simp only [List.setIfInBounds_toArray, List.set_cons_zero, List.set_cons_succ]
    refine tkd (i := 1) (v := .pointer (some ⟨X, 1, none⟩)) rfl rfl (by kernel_rfl) (by kernel_rfl) (by kernel_rfl) (fun _ _ _ h => h) (Or.inl ⟨by rfl, fun w hSw => by skip; go_simp⟩) hS ?_
    simp only [List.setIfInBounds_toArray, List.set_cons_zero, List.set_cons_succ]
    refine tkd (i := 2) (v := .int .i64 A) rfl rfl (by kernel_rfl) (by kernel_rfl) (by kernel_rfl) (fun _ _ _ h => h) (Or.inl ⟨by rfl, fun w hSw => by have z := hSw.2.cell 1 rfl; go_simp⟩) hS ?_
    simp only [List.setIfInBounds_toArray, List.set_cons_zero, List.set_cons_succ]
    refine tkd (i := 3) (v := .pointer (some ⟨p.D, 0, none⟩)) rfl rfl (by kernel_rfl) (by kernel_rfl) (by kernel_rfl) (fun _ _ _ h => h) (Or.inl ⟨by rfl, fun w hSw => by skip; go_simp⟩) hS ?_
    simp only [List.setIfInBounds_toArray, List.set_cons_zero, List.set_cons_succ]
    refine tkd (i := 4) (v := .pointer (some ⟨p.D, 11, none⟩)) rfl rfl (by kernel_rfl) (by kernel_rfl) (by kernel_rfl) (fun _ _ _ h => h) (Or.inl ⟨by rfl, fun w hSw => by skip; go_simp⟩) hS ?_
    simp only [List.setIfInBounds_toArray, List.set_cons_zero, List.set_cons_succ]
    refine tkd (i := 5) (v := .pointer (some ⟨p.D, 11 + A, none⟩)) rfl rfl (by kernel_rfl) (by kernel_rfl) (by kernel_rfl) (fun _ _ _ h => h) (Or.inl ⟨by rfl, fun w hSw => by have y : (A : Int) < 8 := (by omega); go_simp⟩) hS ?_
    simp only [List.setIfInBounds_toArray, List.set_cons_zero, List.set_cons_succ]
    refine tkd (i := 6) (v := .pointer (some ⟨p.D, 0, none⟩)) rfl rfl (by kernel_rfl) (by kernel_rfl) (by kernel_rfl) (fun _ _ _ h => h) (Or.inl ⟨by rfl, fun w hSw => by skip; go_simp⟩) hS ?_
    simp only [List.setIfInBounds_toArray, List.set_cons_zero, List.set_cons_succ]
    refine tkd (i := 7) (v := .pointer (some ⟨X, 2, none⟩)) rfl rfl (by kernel_rfl) (by kernel_rfl) (by kernel_rfl) (fun _ _ _ h => h) (Or.inl ⟨by rfl, fun w hSw => by skip; go_simp⟩) hS ?_
    simp only [List.setIfInBounds_toArray, List.set_cons_zero, List.set_cons_succ]
    refine tkd (i := 8) (v := .int .i64 B) rfl rfl (by kernel_rfl) (by kernel_rfl) (by kernel_rfl) (fun _ _ _ h => h) (Or.inl ⟨by rfl, fun w hSw => by have z := hSw.2.cell 2 rfl; go_simp⟩) hS ?_
    simp only [List.setIfInBounds_toArray, List.set_cons_zero, List.set_cons_succ]
    refine tkd (i := 9) (v := .pointer (some ⟨p.D, 0, none⟩)) rfl rfl (by kernel_rfl) (by kernel_rfl) (by kernel_rfl) (fun _ _ _ h => h) (Or.inl ⟨by rfl, fun w hSw => by skip; go_simp⟩) hS ?_
    simp only [List.setIfInBounds_toArray, List.set_cons_zero, List.set_cons_succ]
    refine tkd (i := 10) (v := .pointer (some ⟨p.D, 11, none⟩)) rfl rfl (by kernel_rfl) (by kernel_rfl) (by kernel_rfl) (fun _ _ _ h => h) (Or.inl ⟨by rfl, fun w hSw => by skip; go_simp⟩) hS ?_
    simp only [List.setIfInBounds_toArray, List.set_cons_zero, List.set_cons_succ]
    refine tkd (i := 11) (v := .pointer (some ⟨p.D, 11 + B, none⟩)) rfl rfl (by kernel_rfl) (by kernel_rfl) (by kernel_rfl) (fun _ _ _ h => h) (Or.inl ⟨by rfl, fun w hSw => by have y : (B : Int) < 8 := (by omega); go_simp⟩) hS ?_
    simp only [List.setIfInBounds_toArray, List.set_cons_zero, List.set_cons_succ]
    refine tkd (i := 12) (v := intV (s.regs.getD B 0)) rfl rfl (by kernel_rfl) (by kernel_rfl) (by kernel_rfl) (fun _ _ _ h => h) (Or.inl ⟨by rfl, fun w hSw => by have z := hSw.1.reg B hB; go_simp⟩) hS ?_
    simp only [List.setIfInBounds_toArray, List.set_cons_zero, List.set_cons_succ]
    refine tkd (i := 13) (v := .pointer (some ⟨p.D, 11 + A, none⟩)) rfl rfl (by kernel_rfl) (by kernel_rfl) (by kernel_rfl) (fun _ _ _ h => h) (Or.inl ⟨by rfl, fun w hSw => by skip; go_simp⟩) hS ?_
    simp only [List.setIfInBounds_toArray, List.set_cons_zero, List.set_cons_succ]
    refine tkd (i := 14) (v := intV (s.regs.getD B 0)) rfl rfl (by kernel_rfl) (by kernel_rfl) (by kernel_rfl) (fun _ _ _ h => h) (Or.inl ⟨by rfl, fun w hSw => by skip; go_simp⟩) hS ?_
    simp only [List.setIfInBounds_toArray, List.set_cons_zero, List.set_cons_succ]
    refine wpAnyH_done (by kernel_rfl) ?_ _
    clear hS
    have hlt := hM.lt
    have hXlt := hX.lt
    have x0 := hX.cell 0 rfl
    have x3 := hX.cell 3 rfl
    have x4 := hX.cell 4 rfl
    have rA := hM.reg A hA
    have fA := hM.fz (11 + A)
    generalize hb : s.regs.getD B 0 = b at *
    generalize ha : s.regs.getD A 0 = a at *
    obtain ⟨wa, wc, hv, hk⟩ := words_at hM.own2
    have m := hM.tail.1
    rw [hv] at m
    have HT : Hid (belB (wrap64 (b + n)) s.lw.length = false) := hth
    have hc := oWord wa (wrap64 (b + n)) s.lw.length wc W.drew (fun h => by obtain ⟨g, e, _⟩ := hk h; exact ⟨g, e⟩)
    clear hk hth hv
    generalize s.lw.length = nw at *
    have hMd := hM.drew
    go_wp2
    have hS : W.drew.cell? ⟨p.D, 19, none⟩ = some (.slice wa nw wc) ∧ W.drew.cell? ⟨X, 4, none⟩ = some (.int .i64 n) ∧ W.drew.cell? ⟨p.D, 11 + A, none⟩ = some (intV a) := ⟨by simpa using m, by simpa using x4, by simpa using rA⟩
    refine wp_region_held_drew (S := fun W => W.cell? ⟨p.D, 19, none⟩ = some (.slice wa nw wc) ∧ W.cell? ⟨X, 4, none⟩ = some (.int .i64 n) ∧ W.cell? ⟨p.D, 11 + A, none⟩ = some (intV a)) (by kernel_rfl) hS (fun hHeld => ?_)
    clear hHeld
    generalize W.drew = W2 at *
    refine tkd (i := 0) (v := .pointer (some ⟨p.D, 0, none⟩)) rfl rfl (by kernel_rfl) (by kernel_rfl) (by kernel_rfl) (fun _ _ _ h => h) (Or.inl ⟨by rfl, fun w hSw => by skip; go_simp⟩) hS ?_
    simp only [List.setIfInBounds_toArray, List.set_cons_zero, List.set_cons_succ]
    refine tkd (i := 1) (v := .pointer (some ⟨p.D, 0, none⟩)) rfl rfl (by kernel_rfl) (by kernel_rfl) (by kernel_rfl) (fun _ _ _ h => h) (Or.inl ⟨by rfl, fun w hSw => by skip; go_simp⟩) hS ?_
    simp only [List.setIfInBounds_toArray, List.set_cons_zero, List.set_cons_succ]
    refine tkd (i := 2) (v := .pointer (some ⟨p.D, 19, none⟩)) rfl rfl (by kernel_rfl) (by kernel_rfl) (by kernel_rfl) (fun _ _ _ h => h) (Or.inl ⟨by rfl, fun w hSw => by skip; go_simp⟩) hS ?_
    simp only [List.setIfInBounds_toArray, List.set_cons_zero, List.set_cons_succ]
    refine tkd (i := 3) (v := .slice wa nw wc) rfl rfl (by kernel_rfl) (by kernel_rfl) (by kernel_rfl) (fun _ _ _ h => h) (Or.inl ⟨by rfl, fun w hSw => by have z := hSw.1; go_simp⟩) hS ?_
    simp only [List.setIfInBounds_toArray, List.set_cons_zero, List.set_cons_succ]
    refine tkd (i := 4) (v := .int .i64 b) rfl rfl (by kernel_rfl) (by kernel_rfl) (by kernel_rfl) (fun _ _ _ h => h) (Or.inl ⟨by rfl, fun w hSw => by skip; go_simp⟩) hS ?_
    simp only [List.setIfInBounds_toArray, List.set_cons_zero, List.set_cons_succ]
    refine tkd (i := 5) (v := .pointer (some ⟨X, 4, none⟩)) rfl rfl (by kernel_rfl) (by kernel_rfl) (by kernel_rfl) (fun _ _ _ h => h) (Or.inl ⟨by rfl, fun w hSw => by skip; go_simp⟩) hS ?_
    simp only [List.setIfInBounds_toArray, List.set_cons_zero, List.set_cons_succ]
    refine tkd (i := 6) (v := .int .i64 n) rfl rfl (by kernel_rfl) (by kernel_rfl) (by kernel_rfl) (fun _ _ _ h => h) (Or.inl ⟨by rfl, fun w hSw => by have z := hSw.2.1; go_simp⟩) hS ?_
    simp only [List.setIfInBounds_toArray, List.set_cons_zero, List.set_cons_succ]
    refine tkd (i := 7) (v := .int .i64 (wrap64 (b + n))) rfl rfl (by kernel_rfl) (by kernel_rfl) (by kernel_rfl) (fun _ _ _ h => h) (Or.inl ⟨by rfl, fun w hSw => by go_simp; exact IntWalk.i64_left _⟩) hS ?_
    simp only [List.setIfInBounds_toArray, List.set_cons_zero, List.set_cons_succ]
    refine tkd (i := 9) (v := .pointer (some ⟨p.D, 11 + A, none⟩)) rfl rfl (by kernel_rfl) (by kernel_rfl) (by kernel_rfl) (fun _ _ _ h => h) (Or.inl ⟨by rfl, fun w hSw => by skip; go_simp⟩) hS ?_
    simp only [List.setIfInBounds_toArray, List.set_cons_zero, List.set_cons_succ]
    refine tkd (i := 10) (v := .pointer (some ⟨p.D, 11 + A, none⟩)) rfl rfl (by kernel_rfl) (by kernel_rfl) (by kernel_rfl) (fun _ _ _ h => h) (Or.inl ⟨by rfl, fun w hSw => by skip; go_simp⟩) hS ?_
    simp only [List.setIfInBounds_toArray, List.set_cons_zero, List.set_cons_succ]
    refine tkd (i := 11) (v := intV a) rfl rfl (by kernel_rfl) (by kernel_rfl) (by kernel_rfl) (fun _ _ _ h => h) (Or.inl ⟨by rfl, fun w hSw => by have z := hSw.2.2; go_simp⟩) hS ?_
    simp only [List.setIfInBounds_toArray, List.set_cons_zero, List.set_cons_succ]
    refine wpAnyH_ready (rs := [8]) (by kernel_rfl) (by simp) ?_
    refine AllReadyH.cons rfl (fun KK hK => ?_) AllReadyH.nil
    go_simp
    go_at_call 20
    refine hc.mono ?_
    rintro e w3 ⟨hw, he⟩
    obtain rfl := hw.symm
    rw [HT.out, if_neg (by simp)] at he
    obtain rfl := he
    go_wp2
    exact ⟨rfl, Act1.end vs hMd⟩
  | true =>
    rw [if_pos rfl]
    have hbx := BoxC.new w #[.int .i64 6, .int .i64 A, .int .i64 B, .int .i64 C, .int .i64 n] 46
    have hM := (h.below ((Below.refl _ _).alloc (Nat.le_refl _) (.cells #[.int .i64 6, .int .i64 A, .int .i64 B, .int .i64 C, .int .i64 n] 46))).drew
    have hX := hbx.below (Below.refl _ _).drew
    have hBD : w.heap.size ≠ p.D := by have := h.lt; omega
    have c46 : Try.prog.cellsOf 46 = 5 := by kernel_rfl
    go_enter Try.func17, Try.ntmps17
    go_wp2
    have hS : MS p w0 vs s (w.alloc (.cells #[.int .i64 6, .int .i64 A, .int .i64 B, .int .i64 C, .int .i64 n] 46)).drew ∧ BoxC (w.alloc (.cells #[.int .i64 6, .int .i64 A, .int .i64 B, .int .i64 C, .int .i64 n] 46)).drew w.heap.size #[.int .i64 6, .int .i64 A, .int .i64 B, .int .i64 C, .int .i64 n] 46 := ⟨hM, hX⟩
    refine wp_region_held_drew (S := fun W => MS p w0 vs s W ∧ BoxC W w.heap.size #[.int .i64 6, .int .i64 A, .int .i64 B, .int .i64 C, .int .i64 n] 46) (by kernel_rfl) hS (fun hHeld => ?_)
    clear hHeld hbx h
    generalize (w.alloc (.cells #[.int .i64 6, .int .i64 A, .int .i64 B, .int .i64 C, .int .i64 n] 46)).drew = W at *
    generalize w.heap.size = X at *
    refine tkd (i := 0) (v := .pointer (some ⟨p.D, 0, none⟩)) rfl rfl (by kernel_rfl) (by kernel_rfl) (by kernel_rfl) (fun _ _ _ h => h) (Or.inl ⟨by rfl, fun w hSw => by skip; go_simp⟩) hS ?_
    simp only [List.setIfInBounds_toArray, List.set_cons_zero, List.set_cons_succ]
    refine tkd (i := 1) (v := .pointer (some ⟨X, 1, none⟩)) rfl rfl (by kernel_rfl) (by kernel_rfl) (by kernel_rfl) (fun _ _ _ h => h) (Or.inl ⟨by rfl, fun w hSw => by skip; go_simp⟩) hS ?_
    simp only [List.setIfInBounds_toArray, List.set_cons_zero, List.set_cons_succ]
    refine tkd (i := 2) (v := .int .i64 A) rfl rfl (by kernel_rfl) (by kernel_rfl) (by kernel_rfl) (fun _ _ _ h => h) (Or.inl ⟨by rfl, fun w hSw => by have z := hSw.2.cell 1 rfl; go_simp⟩) hS ?_
    simp only [List.setIfInBounds_toArray, List.set_cons_zero, List.set_cons_succ]
    refine tkd (i := 3) (v := .pointer (some ⟨p.D, 0, none⟩)) rfl rfl (by kernel_rfl) (by kernel_rfl) (by kernel_rfl) (fun _ _ _ h => h) (Or.inl ⟨by rfl, fun w hSw => by skip; go_simp⟩) hS ?_
    simp only [List.setIfInBounds_toArray, List.set_cons_zero, List.set_cons_succ]
    refine tkd (i := 4) (v := .pointer (some ⟨p.D, 11, none⟩)) rfl rfl (by kernel_rfl) (by kernel_rfl) (by kernel_rfl) (fun _ _ _ h => h) (Or.inl ⟨by rfl, fun w hSw => by skip; go_simp⟩) hS ?_
    simp only [List.setIfInBounds_toArray, List.set_cons_zero, List.set_cons_succ]
    refine tkd (i := 5) (v := .pointer (some ⟨p.D, 11 + A, none⟩)) rfl rfl (by kernel_rfl) (by kernel_rfl) (by kernel_rfl) (fun _ _ _ h => h) (Or.inl ⟨by rfl, fun w hSw => by have y : (A : Int) < 8 := (by omega); go_simp⟩) hS ?_
    simp only [List.setIfInBounds_toArray, List.set_cons_zero, List.set_cons_succ]
    refine tkd (i := 6) (v := .pointer (some ⟨p.D, 0, none⟩)) rfl rfl (by kernel_rfl) (by kernel_rfl) (by kernel_rfl) (fun _ _ _ h => h) (Or.inl ⟨by rfl, fun w hSw => by skip; go_simp⟩) hS ?_
    simp only [List.setIfInBounds_toArray, List.set_cons_zero, List.set_cons_succ]
    refine tkd (i := 7) (v := .pointer (some ⟨X, 2, none⟩)) rfl rfl (by kernel_rfl) (by kernel_rfl) (by kernel_rfl) (fun _ _ _ h => h) (Or.inl ⟨by rfl, fun w hSw => by skip; go_simp⟩) hS ?_
    simp only [List.setIfInBounds_toArray, List.set_cons_zero, List.set_cons_succ]
    refine tkd (i := 8) (v := .int .i64 B) rfl rfl (by kernel_rfl) (by kernel_rfl) (by kernel_rfl) (fun _ _ _ h => h) (Or.inl ⟨by rfl, fun w hSw => by have z := hSw.2.cell 2 rfl; go_simp⟩) hS ?_
    simp only [List.setIfInBounds_toArray, List.set_cons_zero, List.set_cons_succ]
    refine tkd (i := 9) (v := .pointer (some ⟨p.D, 0, none⟩)) rfl rfl (by kernel_rfl) (by kernel_rfl) (by kernel_rfl) (fun _ _ _ h => h) (Or.inl ⟨by rfl, fun w hSw => by skip; go_simp⟩) hS ?_
    simp only [List.setIfInBounds_toArray, List.set_cons_zero, List.set_cons_succ]
    refine tkd (i := 10) (v := .pointer (some ⟨p.D, 11, none⟩)) rfl rfl (by kernel_rfl) (by kernel_rfl) (by kernel_rfl) (fun _ _ _ h => h) (Or.inl ⟨by rfl, fun w hSw => by skip; go_simp⟩) hS ?_
    simp only [List.setIfInBounds_toArray, List.set_cons_zero, List.set_cons_succ]
    refine tkd (i := 11) (v := .pointer (some ⟨p.D, 11 + B, none⟩)) rfl rfl (by kernel_rfl) (by kernel_rfl) (by kernel_rfl) (fun _ _ _ h => h) (Or.inl ⟨by rfl, fun w hSw => by have y : (B : Int) < 8 := (by omega); go_simp⟩) hS ?_
    simp only [List.setIfInBounds_toArray, List.set_cons_zero, List.set_cons_succ]
    refine tkd (i := 12) (v := intV (s.regs.getD B 0)) rfl rfl (by kernel_rfl) (by kernel_rfl) (by kernel_rfl) (fun _ _ _ h => h) (Or.inl ⟨by rfl, fun w hSw => by have z := hSw.1.reg B hB; go_simp⟩) hS ?_
    simp only [List.setIfInBounds_toArray, List.set_cons_zero, List.set_cons_succ]
    refine tkd (i := 13) (v := .pointer (some ⟨p.D, 11 + A, none⟩)) rfl rfl (by kernel_rfl) (by kernel_rfl) (by kernel_rfl) (fun _ _ _ h => h) (Or.inl ⟨by rfl, fun w hSw => by skip; go_simp⟩) hS ?_
    simp only [List.setIfInBounds_toArray, List.set_cons_zero, List.set_cons_succ]
    refine tkd (i := 14) (v := intV (s.regs.getD B 0)) rfl rfl (by kernel_rfl) (by kernel_rfl) (by kernel_rfl) (fun _ _ _ h => h) (Or.inl ⟨by rfl, fun w hSw => by skip; go_simp⟩) hS ?_
    simp only [List.setIfInBounds_toArray, List.set_cons_zero, List.set_cons_succ]
    refine wpAnyH_done (by kernel_rfl) ?_ _
    clear hS
    have hlt := hM.lt
    have hXlt := hX.lt
    have x0 := hX.cell 0 rfl
    have x3 := hX.cell 3 rfl
    have x4 := hX.cell 4 rfl
    have rA := hM.reg A hA
    have fA := hM.fz (11 + A)
    generalize hb : s.regs.getD B 0 = b at *
    generalize ha : s.regs.getD A 0 = a at *
    obtain ⟨wa, wc, hv, hk⟩ := words_at hM.own2
    have m := hM.tail.1
    rw [hv] at m
    have HT : Hid (belB (wrap64 (b + n)) s.lw.length = true) := hth
    have hr : 0 ≤ wrap64 (b + n) ∧ wrap64 (b + n) < s.lw.length := by simpa [there] using hth
    obtain ⟨g, rfl, hcell⟩ := hk (by omega)
    obtain ⟨q1, q2⟩ := hcell (wrap64 (b + n)).toNat (by omega)
    have hgD : g ≠ p.D := by
      have := hM.mem.far 2
      intro e
      exact this (by show (vs 2).ownBlock = _; rw [hv, e]; rfl)
    have hgX : g ≠ X := by
      intro e
      subst e
      rcases hM.own2.2 with ⟨e, _⟩ | ⟨g2, cap, cur, e, _, hh, _⟩
      · rw [hv] at e; cases e
      · rw [hv] at e
        cases e
        have hX2 : W.heap[g]? = some (.cells _ 46 (0, 0)) := hX
        rw [hh] at hX2
        simp at hX2
    have hMe := hM.drew.setLow hv (wrap64 (b + n)).toNat a
    have hc := oWord (some ⟨g, 0, none⟩) (wrap64 (b + n)) s.lw.length wc W.drew (fun h => ⟨g, rfl⟩)
    generalize s.lw.getD (wrap64 (b + n)).toNat 0 = x at *
    clear hk hth hv hcell hr
    generalize s.lw.length = nw at *
    have hMd := hM.drew
    have hlt' := hMd.lt
    go_wp2
    have hS : W.drew.cell? ⟨p.D, 19, none⟩ = some (.slice (some ⟨g, 0, none⟩) nw wc) ∧ W.drew.cell? ⟨X, 4, none⟩ = some (.int .i64 n) ∧ W.drew.cell? ⟨p.D, 11 + A, none⟩ = some (intV a) := ⟨by simpa using m, by simpa using x4, by simpa using rA⟩
    have q1' : W.drew.cell? ⟨g, (wrap64 (b + n)).toNat, none⟩ = some (intV x) := by simpa using q1
    have q2' : W.drew.frozen? ⟨g, (wrap64 (b + n)).toNat, none⟩ = false := by simpa using q2
    refine wp_region_held_drew (S := fun W => W.cell? ⟨p.D, 19, none⟩ = some (.slice (some ⟨g, 0, none⟩) nw wc) ∧ W.cell? ⟨X, 4, none⟩ = some (.int .i64 n) ∧ W.cell? ⟨p.D, 11 + A, none⟩ = some (intV a)) (by kernel_rfl) hS (fun hHeld => ?_)
    clear hHeld
    generalize W.drew = W2 at *
    refine tkd (i := 0) (v := .pointer (some ⟨p.D, 0, none⟩)) rfl rfl (by kernel_rfl) (by kernel_rfl) (by kernel_rfl) (fun _ _ _ h => h) (Or.inl ⟨by rfl, fun w hSw => by skip; go_simp⟩) hS ?_
    simp only [List.setIfInBounds_toArray, List.set_cons_zero, List.set_cons_succ]
    refine tkd (i := 1) (v := .pointer (some ⟨p.D, 0, none⟩)) rfl rfl (by kernel_rfl) (by kernel_rfl) (by kernel_rfl) (fun _ _ _ h => h) (Or.inl ⟨by rfl, fun w hSw => by skip; go_simp⟩) hS ?_
    simp only [List.setIfInBounds_toArray, List.set_cons_zero, List.set_cons_succ]
    refine tkd (i := 2) (v := .pointer (some ⟨p.D, 19, none⟩)) rfl rfl (by kernel_rfl) (by kernel_rfl) (by kernel_rfl) (fun _ _ _ h => h) (Or.inl ⟨by rfl, fun w hSw => by skip; go_simp⟩) hS ?_
    simp only [List.setIfInBounds_toArray, List.set_cons_zero, List.set_cons_succ]
    refine tkd (i := 3) (v := .slice (some ⟨g, 0, none⟩) nw wc) rfl rfl (by kernel_rfl) (by kernel_rfl) (by kernel_rfl) (fun _ _ _ h => h) (Or.inl ⟨by rfl, fun w hSw => by have z := hSw.1; go_simp⟩) hS ?_
    simp only [List.setIfInBounds_toArray, List.set_cons_zero, List.set_cons_succ]
    refine tkd (i := 4) (v := .int .i64 b) rfl rfl (by kernel_rfl) (by kernel_rfl) (by kernel_rfl) (fun _ _ _ h => h) (Or.inl ⟨by rfl, fun w hSw => by skip; go_simp⟩) hS ?_
    simp only [List.setIfInBounds_toArray, List.set_cons_zero, List.set_cons_succ]
    refine tkd (i := 5) (v := .pointer (some ⟨X, 4, none⟩)) rfl rfl (by kernel_rfl) (by kernel_rfl) (by kernel_rfl) (fun _ _ _ h => h) (Or.inl ⟨by rfl, fun w hSw => by skip; go_simp⟩) hS ?_
    simp only [List.setIfInBounds_toArray, List.set_cons_zero, List.set_cons_succ]
    refine tkd (i := 6) (v := .int .i64 n) rfl rfl (by kernel_rfl) (by kernel_rfl) (by kernel_rfl) (fun _ _ _ h => h) (Or.inl ⟨by rfl, fun w hSw => by have z := hSw.2.1; go_simp⟩) hS ?_
    simp only [List.setIfInBounds_toArray, List.set_cons_zero, List.set_cons_succ]
    refine tkd (i := 7) (v := .int .i64 (wrap64 (b + n))) rfl rfl (by kernel_rfl) (by kernel_rfl) (by kernel_rfl) (fun _ _ _ h => h) (Or.inl ⟨by rfl, fun w hSw => by go_simp; exact IntWalk.i64_left _⟩) hS ?_
    simp only [List.setIfInBounds_toArray, List.set_cons_zero, List.set_cons_succ]
    refine tkd (i := 9) (v := .pointer (some ⟨p.D, 11 + A, none⟩)) rfl rfl (by kernel_rfl) (by kernel_rfl) (by kernel_rfl) (fun _ _ _ h => h) (Or.inl ⟨by rfl, fun w hSw => by skip; go_simp⟩) hS ?_
    simp only [List.setIfInBounds_toArray, List.set_cons_zero, List.set_cons_succ]
    refine tkd (i := 10) (v := .pointer (some ⟨p.D, 11 + A, none⟩)) rfl rfl (by kernel_rfl) (by kernel_rfl) (by kernel_rfl) (fun _ _ _ h => h) (Or.inl ⟨by rfl, fun w hSw => by skip; go_simp⟩) hS ?_
    simp only [List.setIfInBounds_toArray, List.set_cons_zero, List.set_cons_succ]
    refine tkd (i := 11) (v := intV a) rfl rfl (by kernel_rfl) (by kernel_rfl) (by kernel_rfl) (fun _ _ _ h => h) (Or.inl ⟨by rfl, fun w hSw => by have z := hSw.2.2; go_simp⟩) hS ?_
    simp only [List.setIfInBounds_toArray, List.set_cons_zero, List.set_cons_succ]
    refine wpAnyH_ready (rs := [8]) (by kernel_rfl) (by simp) ?_
    refine AllReadyH.cons rfl (fun KK hK => ?_) AllReadyH.nil
    go_simp
    go_at_call 20
    refine hc.mono ?_
    rintro e w3 ⟨hw, he⟩
    obtain rfl := hw.symm
    rw [HT.out, if_pos rfl] at he
    obtain rfl := he g rfl
    go_wp2
    refine hK.out _ _ hS (fun hHeld => ?_)
    clear hK KK hHeld he hc
    refine tkd (i := 12) (v := .pointer (some ⟨g, (wrap64 (b + n)).toNat, none⟩)) rfl rfl (by kernel_rfl) (by kernel_rfl) (by kernel_rfl) (fun _ _ _ h => h) (Or.inl ⟨by rfl, fun w hSw => by skip; go_simp⟩) hS ?_
    simp only [List.setIfInBounds_toArray, List.set_cons_zero, List.set_cons_succ]
    refine wpAnyH_ready (rs := [13]) (by kernel_rfl) (by simp) ?_
    refine AllReadyH.cons rfl (fun KK hK => ?_) AllReadyH.nil
    go_simp
    replace hS : (W2.setCell ⟨g, (wrap64 (b + n)).toNat, none⟩ (intV a)).cell? ⟨p.D, 19, none⟩ = some (.slice (some ⟨g, 0, none⟩) nw wc) ∧ (W2.setCell ⟨g, (wrap64 (b + n)).toNat, none⟩ (intV a)).cell? ⟨X, 4, none⟩ = some (.int .i64 n) ∧ (W2.setCell ⟨g, (wrap64 (b + n)).toNat, none⟩ (intV a)).cell? ⟨p.D, 11 + A, none⟩ = some (intV a) := ⟨by rw [World.cell?_setCell_other _ _ _ _ (by intro e; first | exact hgD (congrArg Addr.block e) | exact hgD (congrArg Addr.block e).symm)]; exact hS.1, by rw [World.cell?_setCell_other _ _ _ _ (by intro e; first | exact hgX (congrArg Addr.block e) | exact hgX (congrArg Addr.block e).symm)]; exact hS.2.1, by rw [World.cell?_setCell_other _ _ _ _ (by intro e; first | exact hgD (congrArg Addr.block e) | exact hgD (congrArg Addr.block e).symm)]; exact hS.2.2⟩
    refine hK.out _ _ hS (fun hHeld => ?_)
    clear hK KK hHeld
    refine wpAnyH_done (by kernel_rfl) ?_ _
    go_wp2
    go_end0
    exact Act1.go vs hMe
set_option maxHeartbeats 4000000 in
theorem do7 (h : MS p w0 vs s w) (A B C : Nat) (hA : A < 8) (hB : B < 8) (hC : C < 8) (n : Int) :
    Calls Try.prog 17 #[.pointer (some ⟨p.D, 0, none⟩), .agg #[.int .i64 7, .int .i64 A, .int .i64 B, .int .i64 C, .int .i64 n]] w (Act1 p w0 (if there s.hw (wrap64 (s.regs.getD B 0 + n)) then (none, { s with hw := s.hw.set (wrap64 (s.regs.getD B 0 + n)).toNat (s.regs.getD A 0) }) else (some 6, s))) := by
  cases hth : there s.hw (wrap64 (s.regs.getD B 0 + n)) with
  | false =>
    rw [if_neg (by simp)]
    have hbx := BoxC.new w #[.int .i64 7, .int .i64 A, .int .i64 B, .int .i64 C, .int .i64 n] 46
    have hM := (h.below ((Below.refl _ _).alloc (Nat.le_refl _) (.cells #[.int .i64 7, .int .i64 A, .int .i64 B, .int .i64 C, .int .i64 n] 46))).drew
    have hX := hbx.below (Below.refl _ _).drew
    have hBD : w.heap.size ≠ p.D := by have := h.lt; omega
    have c46 : Try.prog.cellsOf 46 = 5 := by kernel_rfl
    go_enter Try.func17, Try.ntmps17
    go_wp2
    have hS : MS p w0 vs s (w.alloc (.cells #[.int .i64 7, .int .i64 A, .int .i64 B, .int .i64 C, .int .i64 n] 46)).drew ∧ BoxC (w.alloc (.cells #[.int .i64 7, .int .i64 A, .int .i64 B, .int .i64 C, .int .i64 n] 46)).drew w.heap.size #[.int .i64 7, .int .i64 A, .int .i64 B, .int .i64 C, .int .i64 n] 46 := ⟨hM, hX⟩
    refine wp_region_held_drew (S := fun W => MS p w0 vs s W ∧ BoxC W w.heap.size #[.int .i64 7, .int .i64 A, .int .i64 B, .int .i64 C, .int .i64 n] 46) (by kernel_rfl) hS (fun hHeld => ?_)
    clear hHeld hbx h
    generalize (w.alloc (.cells #[.int .i64 7, .int .i64 A, .int .i64 B, .int .i64 C, .int .i64 n] 46)).drew = W at *
    generalize w.heap.size = X at *
    refine tkd (i := 0) (v := .pointer (some ⟨p.D, 0, none⟩)) rfl rfl (by kernel_rfl) (by kernel_rfl) (by kernel_rfl) (fun _ _ _ h => h) (Or.inl ⟨by rfl, fun w hSw => by skip; go_simp⟩) hS ?_
    simp only [List.setIfInBounds_toArray, List.set_cons_zero, List.set_cons_succ]
    refine tkd (i := 1) (v := .pointer (some ⟨X, 1, none⟩)) rfl rfl (by kernel_rfl) (by kernel_rfl) (by kernel_rfl) (fun _ _ _ h => h) (Or.inl ⟨by rfl, fun w hSw => by skip; go_simp⟩) hS ?_
    simp only [List.setIfInBounds_toArray, List.set_cons_zero, List.set_cons_succ]
    refine tkd (i := 2) (v := .int .i64 A) rfl rfl (by kernel_rfl) (by kernel_rfl) (by kernel_rfl) (fun _ _ _ h => h) (Or.inl ⟨by rfl, fun w hSw => by have z := hSw.2.cell 1 rfl; go_simp⟩) hS ?_
    simp only [List.setIfInBounds_toArray, List.set_cons_zero, List.set_cons_succ]
    refine tkd (i := 3) (v := .pointer (some ⟨p.D, 0, none⟩)) rfl rfl (by kernel_rfl) (by kernel_rfl) (by kernel_rfl) (fun _ _ _ h => h) (Or.inl ⟨by rfl, fun w hSw => by skip; go_simp⟩) hS ?_
    simp only [List.setIfInBounds_toArray, List.set_cons_zero, List.set_cons_succ]
    refine tkd (i := 4) (v := .pointer (some ⟨p.D, 11, none⟩)) rfl rfl (by kernel_rfl) (by kernel_rfl) (by kernel_rfl) (fun _ _ _ h => h) (Or.inl ⟨by rfl, fun w hSw => by skip; go_simp⟩) hS ?_
    simp only [List.setIfInBounds_toArray, List.set_cons_zero, List.set_cons_succ]
    refine tkd (i := 5) (v := .pointer (some ⟨p.D, 11 + A, none⟩)) rfl rfl (by kernel_rfl) (by kernel_rfl) (by kernel_rfl) (fun _ _ _ h => h) (Or.inl ⟨by rfl, fun w hSw => by have y : (A : Int) < 8 := (by omega); go_simp⟩) hS ?_
    simp only [List.setIfInBounds_toArray, List.set_cons_zero, List.set_cons_succ]
    refine tkd (i := 6) (v := .pointer (some ⟨p.D, 0, none⟩)) rfl rfl (by kernel_rfl) (by kernel_rfl) (by kernel_rfl) (fun _ _ _ h => h) (Or.inl ⟨by rfl, fun w hSw => by skip; go_simp⟩) hS ?_
    simp only [List.setIfInBounds_toArray, List.set_cons_zero, List.set_cons_succ]
    refine tkd (i := 7) (v := .pointer (some ⟨X, 2, none⟩)) rfl rfl (by kernel_rfl) (by kernel_rfl) (by kernel_rfl) (fun _ _ _ h => h) (Or.inl ⟨by rfl, fun w hSw => by skip; go_simp⟩) hS ?_
    simp only [List.setIfInBounds_toArray, List.set_cons_zero, List.set_cons_succ]
    refine tkd (i := 8) (v := .int .i64 B) rfl rfl (by kernel_rfl) (by kernel_rfl) (by kernel_rfl) (fun _ _ _ h => h) (Or.inl ⟨by rfl, fun w hSw => by have z := hSw.2.cell 2 rfl; go_simp⟩) hS ?_
    simp only [List.setIfInBounds_toArray, List.set_cons_zero, List.set_cons_succ]
    refine tkd (i := 9) (v := .pointer (some ⟨p.D, 0, none⟩)) rfl rfl (by kernel_rfl) (by kernel_rfl) (by kernel_rfl) (fun _ _ _ h => h) (Or.inl ⟨by rfl, fun w hSw => by skip; go_simp⟩) hS ?_
    simp only [List.setIfInBounds_toArray, List.set_cons_zero, List.set_cons_succ]
    refine tkd (i := 10) (v := .pointer (some ⟨p.D, 11, none⟩)) rfl rfl (by kernel_rfl) (by kernel_rfl) (by kernel_rfl) (fun _ _ _ h => h) (Or.inl ⟨by rfl, fun w hSw => by skip; go_simp⟩) hS ?_
    simp only [List.setIfInBounds_toArray, List.set_cons_zero, List.set_cons_succ]
    refine tkd (i := 11) (v := .pointer (some ⟨p.D, 11 + B, none⟩)) rfl rfl (by kernel_rfl) (by kernel_rfl) (by kernel_rfl) (fun _ _ _ h => h) (Or.inl ⟨by rfl, fun w hSw => by have y : (B : Int) < 8 := (by omega); go_simp⟩) hS ?_
    simp only [List.setIfInBounds_toArray, List.set_cons_zero, List.set_cons_succ]
    refine tkd (i := 12) (v := intV (s.regs.getD B 0)) rfl rfl (by kernel_rfl) (by kernel_rfl) (by kernel_rfl) (fun _ _ _ h => h) (Or.inl ⟨by rfl, fun w hSw => by have z := hSw.1.reg B hB; go_simp⟩) hS ?_
    simp only [List.setIfInBounds_toArray, List.set_cons_zero, List.set_cons_succ]
    refine tkd (i := 13) (v := .pointer (some ⟨p.D, 11 + A, none⟩)) rfl rfl (by kernel_rfl) (by kernel_rfl) (by kernel_rfl) (fun _ _ _ h => h) (Or.inl ⟨by rfl, fun w hSw => by skip; go_simp⟩) hS ?_
    simp only [List.setIfInBounds_toArray, List.set_cons_zero, List.set_cons_succ]
    refine tkd (i := 14) (v := intV (s.regs.getD B 0)) rfl rfl (by kernel_rfl) (by kernel_rfl) (by kernel_rfl) (fun _ _ _ h => h) (Or.inl ⟨by rfl, fun w hSw => by skip; go_simp⟩) hS ?_
    simp only [List.setIfInBounds_toArray, List.set_cons_zero, List.set_cons_succ]
    refine wpAnyH_done (by kernel_rfl) ?_ _
    clear hS
    have hlt := hM.lt
    have hXlt := hX.lt
    have x0 := hX.cell 0 rfl
    have x3 := hX.cell 3 rfl
    have x4 := hX.cell 4 rfl
    have rA := hM.reg A hA
    have fA := hM.fz (11 + A)
    generalize hb : s.regs.getD B 0 = b at *
    generalize ha : s.regs.getD A 0 = a at *
    obtain ⟨wa, wc, hv, hk⟩ := words_at hM.own3
    have m := hM.tail.2.1
    rw [hv] at m
    have HT : Hid (belB (wrap64 (b + n)) s.hw.length = false) := hth
    have hc := oWord wa (wrap64 (b + n)) s.hw.length wc W.drew (fun h => by obtain ⟨g, e, _⟩ := hk h; exact ⟨g, e⟩)
    clear hk hth hv
    generalize s.hw.length = nw at *
    have hMd := hM.drew
    go_wp2
    have hS : W.drew.cell? ⟨p.D, 20, none⟩ = some (.slice wa nw wc) ∧ W.drew.cell? ⟨X, 4, none⟩ = some (.int .i64 n) ∧ W.drew.cell? ⟨p.D, 11 + A, none⟩ = some (intV a) := ⟨by simpa using m, by simpa using x4, by simpa using rA⟩
    refine wp_region_held_drew (S := fun W => W.cell? ⟨p.D, 20, none⟩ = some (.slice wa nw wc) ∧ W.cell? ⟨X, 4, none⟩ = some (.int .i64 n) ∧ W.cell? ⟨p.D, 11 + A, none⟩ = some (intV a)) (by kernel_rfl) hS (fun hHeld => ?_)
    clear hHeld
    generalize W.drew = W2 at *
    refine tkd (i := 0) (v := .pointer (some ⟨p.D, 0, none⟩)) rfl rfl (by kernel_rfl) (by kernel_rfl) (by kernel_rfl) (fun _ _ _ h => h) (Or.inl ⟨by rfl, fun w hSw => by skip; go_simp⟩) hS ?_
    simp only [List.setIfInBounds_toArray, List.set_cons_zero, List.set_cons_succ]
    refine tkd (i := 1) (v := .pointer (some ⟨p.D, 0, none⟩)) rfl rfl (by kernel_rfl) (by kernel_rfl) (by kernel_rfl) (fun _ _ _ h => h) (Or.inl ⟨by rfl, fun w hSw => by skip; go_simp⟩) hS ?_
    simp only [List.setIfInBounds_toArray, List.set_cons_zero, List.set_cons_succ]
    refine tkd (i := 2) (v := .pointer (some ⟨p.D, 20, none⟩)) rfl rfl (by kernel_rfl) (by kernel_rfl) (by kernel_rfl) (fun _ _ _ h => h) (Or.inl ⟨by rfl, fun w hSw => by skip; go_simp⟩) hS ?_
    simp only [List.setIfInBounds_toArray, List.set_cons_zero, List.set_cons_succ]
    refine tkd (i := 3) (v := .slice wa nw wc) rfl rfl (by kernel_rfl) (by kernel_rfl) (by kernel_rfl) (fun _ _ _ h => h) (Or.inl ⟨by rfl, fun w hSw => by have z := hSw.1; go_simp⟩) hS ?_
    simp only [List.setIfInBounds_toArray, List.set_cons_zero, List.set_cons_succ]
    refine tkd (i := 4) (v := .int .i64 b) rfl rfl (by kernel_rfl) (by kernel_rfl) (by kernel_rfl) (fun _ _ _ h => h) (Or.inl ⟨by rfl, fun w hSw => by skip; go_simp⟩) hS ?_
    simp only [List.setIfInBounds_toArray, List.set_cons_zero, List.set_cons_succ]
    refine tkd (i := 5) (v := .pointer (some ⟨X, 4, none⟩)) rfl rfl (by kernel_rfl) (by kernel_rfl) (by kernel_rfl) (fun _ _ _ h => h) (Or.inl ⟨by rfl, fun w hSw => by skip; go_simp⟩) hS ?_
    simp only [List.setIfInBounds_toArray, List.set_cons_zero, List.set_cons_succ]
    refine tkd (i := 6) (v := .int .i64 n) rfl rfl (by kernel_rfl) (by kernel_rfl) (by kernel_rfl) (fun _ _ _ h => h) (Or.inl ⟨by rfl, fun w hSw => by have z := hSw.2.1; go_simp⟩) hS ?_
    simp only [List.setIfInBounds_toArray, List.set_cons_zero, List.set_cons_succ]
    refine tkd (i := 7) (v := .int .i64 (wrap64 (b + n))) rfl rfl (by kernel_rfl) (by kernel_rfl) (by kernel_rfl) (fun _ _ _ h => h) (Or.inl ⟨by rfl, fun w hSw => by go_simp; exact IntWalk.i64_left _⟩) hS ?_
    simp only [List.setIfInBounds_toArray, List.set_cons_zero, List.set_cons_succ]
    refine tkd (i := 9) (v := .pointer (some ⟨p.D, 11 + A, none⟩)) rfl rfl (by kernel_rfl) (by kernel_rfl) (by kernel_rfl) (fun _ _ _ h => h) (Or.inl ⟨by rfl, fun w hSw => by skip; go_simp⟩) hS ?_
    simp only [List.setIfInBounds_toArray, List.set_cons_zero, List.set_cons_succ]
    refine tkd (i := 10) (v := .pointer (some ⟨p.D, 11 + A, none⟩)) rfl rfl (by kernel_rfl) (by kernel_rfl) (by kernel_rfl) (fun _ _ _ h => h) (Or.inl ⟨by rfl, fun w hSw => by skip; go_simp⟩) hS ?_
    simp only [List.setIfInBounds_toArray, List.set_cons_zero, List.set_cons_succ]
    refine tkd (i := 11) (v := intV a) rfl rfl (by kernel_rfl) (by kernel_rfl) (by kernel_rfl) (fun _ _ _ h => h) (Or.inl ⟨by rfl, fun w hSw => by have z := hSw.2.2; go_simp⟩) hS ?_
    simp only [List.setIfInBounds_toArray, List.set_cons_zero, List.set_cons_succ]
    refine wpAnyH_ready (rs := [8]) (by kernel_rfl) (by simp) ?_
    refine AllReadyH.cons rfl (fun KK hK => ?_) AllReadyH.nil
    go_simp
    go_at_call 20
    refine hc.mono ?_
    rintro e w3 ⟨hw, he⟩
    obtain rfl := hw.symm
    rw [HT.out, if_neg (by simp)] at he
    obtain rfl := he
    go_wp2
    exact ⟨rfl, Act1.end vs hMd⟩
  | true =>
    rw [if_pos rfl]
    have hbx := BoxC.new w #[.int .i64 7, .int .i64 A, .int .i64 B, .int .i64 C, .int .i64 n] 46
    have hM := (h.below ((Below.refl _ _).alloc (Nat.le_refl _) (.cells #[.int .i64 7, .int .i64 A, .int .i64 B, .int .i64 C, .int .i64 n] 46))).drew
    have hX := hbx.below (Below.refl _ _).drew
    have hBD : w.heap.size ≠ p.D := by have := h.lt; omega
    have c46 : Try.prog.cellsOf 46 = 5 := by kernel_rfl
    go_enter Try.func17, Try.ntmps17
    go_wp2
    have hS : MS p w0 vs s (w.alloc (.cells #[.int .i64 7, .int .i64 A, .int .i64 B, .int .i64 C, .int .i64 n] 46)).drew ∧ BoxC (w.alloc (.cells #[.int .i64 7, .int .i64 A, .int .i64 B, .int .i64 C, .int .i64 n] 46)).drew w.heap.size #[.int .i64 7, .int .i64 A, .int .i64 B, .int .i64 C, .int .i64 n] 46 := ⟨hM, hX⟩
    refine wp_region_held_drew (S := fun W => MS p w0 vs s W ∧ BoxC W w.heap.size #[.int .i64 7, .int .i64 A, .int .i64 B, .int .i64 C, .int .i64 n] 46) (by kernel_rfl) hS (fun hHeld => ?_)
    clear hHeld hbx h
    generalize (w.alloc (.cells #[.int .i64 7, .int .i64 A, .int .i64 B, .int .i64 C, .int .i64 n] 46)).drew = W at *
    generalize w.heap.size = X at *
    refine tkd (i := 0) (v := .pointer (some ⟨p.D, 0, none⟩)) rfl rfl (by kernel_rfl) (by kernel_rfl) (by kernel_rfl) (fun _ _ _ h => h) (Or.inl ⟨by rfl, fun w hSw => by skip; go_simp⟩) hS ?_
    simp only [List.setIfInBounds_toArray, List.set_cons_zero, List.set_cons_succ]
    refine tkd (i := 1) (v := .pointer (some ⟨X, 1, none⟩)) rfl rfl (by kernel_rfl) (by kernel_rfl) (by kernel_rfl) (fun _ _ _ h => h) (Or.inl ⟨by rfl, fun w hSw => by skip; go_simp⟩) hS ?_
    simp only [List.setIfInBounds_toArray, List.set_cons_zero, List.set_cons_succ]
    refine tkd (i := 2) (v := .int .i64 A) rfl rfl (by kernel_rfl) (by kernel_rfl) (by kernel_rfl) (fun _ _ _ h => h) (Or.inl ⟨by rfl, fun w hSw => by have z := hSw.2.cell 1 rfl; go_simp⟩) hS ?_
    simp only [List.setIfInBounds_toArray, List.set_cons_zero, List.set_cons_succ]
    refine tkd (i := 3) (v := .pointer (some ⟨p.D, 0, none⟩)) rfl rfl (by kernel_rfl) (by kernel_rfl) (by kernel_rfl) (fun _ _ _ h => h) (Or.inl ⟨by rfl, fun w hSw => by skip; go_simp⟩) hS ?_
    simp only [List.setIfInBounds_toArray, List.set_cons_zero, List.set_cons_succ]
    refine tkd (i := 4) (v := .pointer (some ⟨p.D, 11, none⟩)) rfl rfl (by kernel_rfl) (by kernel_rfl) (by kernel_rfl) (fun _ _ _ h => h) (Or.inl ⟨by rfl, fun w hSw => by skip; go_simp⟩) hS ?_
    simp only [List.setIfInBounds_toArray, List.set_cons_zero, List.set_cons_succ]
    refine tkd (i := 5) (v := .pointer (some ⟨p.D, 11 + A, none⟩)) rfl rfl (by kernel_rfl) (by kernel_rfl) (by kernel_rfl) (fun _ _ _ h => h) (Or.inl ⟨by rfl, fun w hSw => by have y : (A : Int) < 8 := (by omega); go_simp⟩) hS ?_
    simp only [List.setIfInBounds_toArray, List.set_cons_zero, List.set_cons_succ]
    refine tkd (i := 6) (v := .pointer (some ⟨p.D, 0, none⟩)) rfl rfl (by kernel_rfl) (by kernel_rfl) (by kernel_rfl) (fun _ _ _ h => h) (Or.inl ⟨by rfl, fun w hSw => by skip; go_simp⟩) hS ?_
    simp only [List.setIfInBounds_toArray, List.set_cons_zero, List.set_cons_succ]
    refine tkd (i := 7) (v := .pointer (some ⟨X, 2, none⟩)) rfl rfl (by kernel_rfl) (by kernel_rfl) (by kernel_rfl) (fun _ _ _ h => h) (Or.inl ⟨by rfl, fun w hSw => by skip; go_simp⟩) hS ?_
    simp only [List.setIfInBounds_toArray, List.set_cons_zero, List.set_cons_succ]
    refine tkd (i := 8) (v := .int .i64 B) rfl rfl (by kernel_rfl) (by kernel_rfl) (by kernel_rfl) (fun _ _ _ h => h) (Or.inl ⟨by rfl, fun w hSw => by have z := hSw.2.cell 2 rfl; go_simp⟩) hS ?_
    simp only [List.setIfInBounds_toArray, List.set_cons_zero, List.set_cons_succ]
    refine tkd (i := 9) (v := .pointer (some ⟨p.D, 0, none⟩)) rfl rfl (by kernel_rfl) (by kernel_rfl) (by kernel_rfl) (fun _ _ _ h => h) (Or.inl ⟨by rfl, fun w hSw => by skip; go_simp⟩) hS ?_
    simp only [List.setIfInBounds_toArray, List.set_cons_zero, List.set_cons_succ]
    refine tkd (i := 10) (v := .pointer (some ⟨p.D, 11, none⟩)) rfl rfl (by kernel_rfl) (by kernel_rfl) (by kernel_rfl) (fun _ _ _ h => h) (Or.inl ⟨by rfl, fun w hSw => by skip; go_simp⟩) hS ?_
    simp only [List.setIfInBounds_toArray, List.set_cons_zero, List.set_cons_succ]
    refine tkd (i := 11) (v := .pointer (some ⟨p.D, 11 + B, none⟩)) rfl rfl (by kernel_rfl) (by kernel_rfl) (by kernel_rfl) (fun _ _ _ h => h) (Or.inl ⟨by rfl, fun w hSw => by have y : (B : Int) < 8 := (by omega); go_simp⟩) hS ?_
    simp only [List.setIfInBounds_toArray, List.set_cons_zero, List.set_cons_succ]
    refine tkd (i := 12) (v := intV (s.regs.getD B 0)) rfl rfl (by kernel_rfl) (by kernel_rfl) (by kernel_rfl) (fun _ _ _ h => h) (Or.inl ⟨by rfl, fun w hSw => by have z := hSw.1.reg B hB; go_simp⟩) hS ?_
    simp only [List.setIfInBounds_toArray, List.set_cons_zero, List.set_cons_succ]
    refine tkd (i := 13) (v := .pointer (some ⟨p.D, 11 + A, none⟩)) rfl rfl (by kernel_rfl) (by kernel_rfl) (by kernel_rfl) (fun _ _ _ h => h) (Or.inl ⟨by rfl, fun w hSw => by skip; go_simp⟩) hS ?_
    simp only [List.setIfInBounds_toArray, List.set_cons_zero, List.set_cons_succ]
    refine tkd (i := 14) (v := intV (s.regs.getD B 0)) rfl rfl (by kernel_rfl) (by kernel_rfl) (by kernel_rfl) (fun _ _ _ h => h) (Or.inl ⟨by rfl, fun w hSw => by skip; go_simp⟩) hS ?_
    simp only [List.setIfInBounds_toArray, List.set_cons_zero, List.set_cons_succ]
    refine wpAnyH_done (by kernel_rfl) ?_ _
    clear hS
    have hlt := hM.lt
    have hXlt := hX.lt
    have x0 := hX.cell 0 rfl
    have x3 := hX.cell 3 rfl
    have x4 := hX.cell 4 rfl
    have rA := hM.reg A hA
    have fA := hM.fz (11 + A)
    generalize hb : s.regs.getD B 0 = b at *
    generalize ha : s.regs.getD A 0 = a at *
    obtain ⟨wa, wc, hv, hk⟩ := words_at hM.own3
    have m := hM.tail.2.1
    rw [hv] at m
    have HT : Hid (belB (wrap64 (b + n)) s.hw.length = true) := hth
    have hr : 0 ≤ wrap64 (b + n) ∧ wrap64 (b + n) < s.hw.length := by simpa [there] using hth
    obtain ⟨g, rfl, hcell⟩ := hk (by omega)
    obtain ⟨q1, q2⟩ := hcell (wrap64 (b + n)).toNat (by omega)
    have hgD : g ≠ p.D := by
      have := hM.mem.far 3
      intro e
      exact this (by show (vs 3).ownBlock = _; rw [hv, e]; rfl)
    have hgX : g ≠ X := by
      intro e
      subst e
      rcases hM.own3.2 with ⟨e, _⟩ | ⟨g2, cap, cur, e, _, hh, _⟩
      · rw [hv] at e; cases e
      · rw [hv] at e
        cases e
        have hX2 : W.heap[g]? = some (.cells _ 46 (0, 0)) := hX
        rw [hh] at hX2
        simp at hX2
    have hMe := hM.drew.setHigh hv (wrap64 (b + n)).toNat a
    have hc := oWord (some ⟨g, 0, none⟩) (wrap64 (b + n)) s.hw.length wc W.drew (fun h => ⟨g, rfl⟩)
    generalize s.hw.getD (wrap64 (b + n)).toNat 0 = x at *
    clear hk hth hv hcell hr
    generalize s.hw.length = nw at *
    have hMd := hM.drew
    have hlt' := hMd.lt
    go_wp2
    have hS : W.drew.cell? ⟨p.D, 20, none⟩ = some (.slice (some ⟨g, 0, none⟩) nw wc) ∧ W.drew.cell? ⟨X, 4, none⟩ = some (.int .i64 n) ∧ W.drew.cell? ⟨p.D, 11 + A, none⟩ = some (intV a) := ⟨by simpa using m, by simpa using x4, by simpa using rA⟩
    have q1' : W.drew.cell? ⟨g, (wrap64 (b + n)).toNat, none⟩ = some (intV x) := by simpa using q1
    have q2' : W.drew.frozen? ⟨g, (wrap64 (b + n)).toNat, none⟩ = false := by simpa using q2
    refine wp_region_held_drew (S := fun W => W.cell? ⟨p.D, 20, none⟩ = some (.slice (some ⟨g, 0, none⟩) nw wc) ∧ W.cell? ⟨X, 4, none⟩ = some (.int .i64 n) ∧ W.cell? ⟨p.D, 11 + A, none⟩ = some (intV a)) (by kernel_rfl) hS (fun hHeld => ?_)
    clear hHeld
    generalize W.drew = W2 at *
    refine tkd (i := 0) (v := .pointer (some ⟨p.D, 0, none⟩)) rfl rfl (by kernel_rfl) (by kernel_rfl) (by kernel_rfl) (fun _ _ _ h => h) (Or.inl ⟨by rfl, fun w hSw => by skip; go_simp⟩) hS ?_
    simp only [List.setIfInBounds_toArray, List.set_cons_zero, List.set_cons_succ]
    refine tkd (i := 1) (v := .pointer (some ⟨p.D, 0, none⟩)) rfl rfl (by kernel_rfl) (by kernel_rfl) (by kernel_rfl) (fun _ _ _ h => h) (Or.inl ⟨by rfl, fun w hSw => by skip; go_simp⟩) hS ?_
    simp only [List.setIfInBounds_toArray, List.set_cons_zero, List.set_cons_succ]
    refine tkd (i := 2) (v := .pointer (some ⟨p.D, 20, none⟩)) rfl rfl (by kernel_rfl) (by kernel_rfl) (by kernel_rfl) (fun _ _ _ h => h) (Or.inl ⟨by rfl, fun w hSw => by skip; go_simp⟩) hS ?_
    simp only [List.setIfInBounds_toArray, List.set_cons_zero, List.set_cons_succ]
    refine tkd (i := 3) (v := .slice (some ⟨g, 0, none⟩) nw wc) rfl rfl (by kernel_rfl) (by kernel_rfl) (by kernel_rfl) (fun _ _ _ h => h) (Or.inl ⟨by rfl, fun w hSw => by have z := hSw.1; go_simp⟩) hS ?_
    simp only [List.setIfInBounds_toArray, List.set_cons_zero, List.set_cons_succ]
    refine tkd (i := 4) (v := .int .i64 b) rfl rfl (by kernel_rfl) (by kernel_rfl) (by kernel_rfl) (fun _ _ _ h => h) (Or.inl ⟨by rfl, fun w hSw => by skip; go_simp⟩) hS ?_
    simp only [List.setIfInBounds_toArray, List.set_cons_zero, List.set_cons_succ]
    refine tkd (i := 5) (v := .pointer (some ⟨X, 4, none⟩)) rfl rfl (by kernel_rfl) (by kernel_rfl) (by kernel_rfl) (fun _ _ _ h => h) (Or.inl ⟨by rfl, fun w hSw => by skip; go_simp⟩) hS ?_
    simp only [List.setIfInBounds_toArray, List.set_cons_zero, List.set_cons_succ]
    refine tkd (i := 6) (v := .int .i64 n) rfl rfl (by kernel_rfl) (by kernel_rfl) (by kernel_rfl) (fun _ _ _ h => h) (Or.inl ⟨by rfl, fun w hSw => by have z := hSw.2.1; go_simp⟩) hS ?_
    simp only [List.setIfInBounds_toArray, List.set_cons_zero, List.set_cons_succ]
    refine tkd (i := 7) (v := .int .i64 (wrap64 (b + n))) rfl rfl (by kernel_rfl) (by kernel_rfl) (by kernel_rfl) (fun _ _ _ h => h) (Or.inl ⟨by rfl, fun w hSw => by go_simp; exact IntWalk.i64_left _⟩) hS ?_
    simp only [List.setIfInBounds_toArray, List.set_cons_zero, List.set_cons_succ]
    refine tkd (i := 9) (v := .pointer (some ⟨p.D, 11 + A, none⟩)) rfl rfl (by kernel_rfl) (by kernel_rfl) (by kernel_rfl) (fun _ _ _ h => h) (Or.inl ⟨by rfl, fun w hSw => by skip; go_simp⟩) hS ?_
    simp only [List.setIfInBounds_toArray, List.set_cons_zero, List.set_cons_succ]
    refine tkd (i := 10) (v := .pointer (some ⟨p.D, 11 + A, none⟩)) rfl rfl (by kernel_rfl) (by kernel_rfl) (by kernel_rfl) (fun _ _ _ h => h) (Or.inl ⟨by rfl, fun w hSw => by skip; go_simp⟩) hS ?_
    simp only [List.setIfInBounds_toArray, List.set_cons_zero, List.set_cons_succ]
    refine tkd (i := 11) (v := intV a) rfl rfl (by kernel_rfl) (by kernel_rfl) (by kernel_rfl) (fun _ _ _ h => h) (Or.inl ⟨by rfl, fun w hSw => by have z := hSw.2.2; go_simp⟩) hS ?_
    simp only [List.setIfInBounds_toArray, List.set_cons_zero, List.set_cons_succ]
    refine wpAnyH_ready (rs := [8]) (by kernel_rfl) (by simp) ?_
    refine AllReadyH.cons rfl (fun KK hK => ?_) AllReadyH.nil
    go_simp
    go_at_call 20
    refine hc.mono ?_
    rintro e w3 ⟨hw, he⟩
    obtain rfl := hw.symm
    rw [HT.out, if_pos rfl] at he
    obtain rfl := he g rfl
    go_wp2
    refine hK.out _ _ hS (fun hHeld => ?_)
    clear hK KK hHeld he hc
    refine tkd (i := 12) (v := .pointer (some ⟨g, (wrap64 (b + n)).toNat, none⟩)) rfl rfl (by kernel_rfl) (by kernel_rfl) (by kernel_rfl) (fun _ _ _ h => h) (Or.inl ⟨by rfl, fun w hSw => by skip; go_simp⟩) hS ?_
    simp only [List.setIfInBounds_toArray, List.set_cons_zero, List.set_cons_succ]
    refine wpAnyH_ready (rs := [13]) (by kernel_rfl) (by simp) ?_
    refine AllReadyH.cons rfl (fun KK hK => ?_) AllReadyH.nil
    go_simp
    replace hS : (W2.setCell ⟨g, (wrap64 (b + n)).toNat, none⟩ (intV a)).cell? ⟨p.D, 20, none⟩ = some (.slice (some ⟨g, 0, none⟩) nw wc) ∧ (W2.setCell ⟨g, (wrap64 (b + n)).toNat, none⟩ (intV a)).cell? ⟨X, 4, none⟩ = some (.int .i64 n) ∧ (W2.setCell ⟨g, (wrap64 (b + n)).toNat, none⟩ (intV a)).cell? ⟨p.D, 11 + A, none⟩ = some (intV a) := ⟨by rw [World.cell?_setCell_other _ _ _ _ (by intro e; first | exact hgD (congrArg Addr.block e) | exact hgD (congrArg Addr.block e).symm)]; exact hS.1, by rw [World.cell?_setCell_other _ _ _ _ (by intro e; first | exact hgX (congrArg Addr.block e) | exact hgX (congrArg Addr.block e).symm)]; exact hS.2.1, by rw [World.cell?_setCell_other _ _ _ _ (by intro e; first | exact hgD (congrArg Addr.block e) | exact hgD (congrArg Addr.block e).symm)]; exact hS.2.2⟩
    refine hK.out _ _ hS (fun hHeld => ?_)
    clear hK KK hHeld
    refine wpAnyH_done (by kernel_rfl) ?_ _
    go_wp2
    go_end0
    exact Act1.go vs hMe
set_option maxHeartbeats 4000000 in
theorem do13 (h : MS p w0 vs s w) (A B C : Nat) (hA : A < 8) (hB : B < 8) (hC : C < 8) (n : Int) (hn : s.oL.length ≤ 90000) :
    Calls Try.prog 17 #[.pointer (some ⟨p.D, 0, none⟩), .agg #[.int .i64 13, .int .i64 A, .int .i64 B, .int .i64 C, .int .i64 n]] w (Act1 p w0 (none, { s with oL := s.oL ++ [s.regs.getD A 0] })) := by
  have hbx := BoxC.new w #[.int .i64 13, .int .i64 A, .int .i64 B, .int .i64 C, .int .i64 n] 46
  have hM := (h.below ((Below.refl _ _).alloc (Nat.le_refl _) (.cells #[.int .i64 13, .int .i64 A, .int .i64 B, .int .i64 C, .int .i64 n] 46))).drew
  have hX := hbx.below (Below.refl _ _).drew
  have hBD : w.heap.size ≠ p.D := by have := h.lt; omega
  have c46 : Try.prog.cellsOf 46 = 5 := by kernel_rfl
  go_enter Try.func17, Try.ntmps17
  go_wp2
  have hS : MS p w0 vs s (w.alloc (.cells #[.int .i64 13, .int .i64 A, .int .i64 B, .int .i64 C, .int .i64 n] 46)).drew ∧ BoxC (w.alloc (.cells #[.int .i64 13, .int .i64 A, .int .i64 B, .int .i64 C, .int .i64 n] 46)).drew w.heap.size #[.int .i64 13, .int .i64 A, .int .i64 B, .int .i64 C, .int .i64 n] 46 := ⟨hM, hX⟩
  refine wp_region_held_drew (S := fun W => MS p w0 vs s W ∧ BoxC W w.heap.size #[.int .i64 13, .int .i64 A, .int .i64 B, .int .i64 C, .int .i64 n] 46) (by kernel_rfl) hS (fun hHeld => ?_)
  clear hHeld hbx h
  generalize (w.alloc (.cells #[.int .i64 13, .int .i64 A, .int .i64 B, .int .i64 C, .int .i64 n] 46)).drew = W at *
  generalize w.heap.size = X at *
  refine tkd (i := 0) (v := .pointer (some ⟨p.D, 0, none⟩)) rfl rfl (by kernel_rfl) (by kernel_rfl) (by kernel_rfl) (fun _ _ _ h => h) (Or.inl ⟨by rfl, fun w hSw => by skip; go_simp⟩) hS ?_
  simp only [List.setIfInBounds_toArray, List.set_cons_zero, List.set_cons_succ]
  refine tkd (i := 1) (v := .pointer (some ⟨X, 1, none⟩)) rfl rfl (by kernel_rfl) (by kernel_rfl) (by kernel_rfl) (fun _ _ _ h => h) (Or.inl ⟨by rfl, fun w hSw => by skip; go_simp⟩) hS ?_
  simp only [List.setIfInBounds_toArray, List.set_cons_zero, List.set_cons_succ]
  refine tkd (i := 2) (v := .int .i64 A) rfl rfl (by kernel_rfl) (by kernel_rfl) (by kernel_rfl) (fun _ _ _ h => h) (Or.inl ⟨by rfl, fun w hSw => by have z := hSw.2.cell 1 rfl; go_simp⟩) hS ?_
  simp only [List.setIfInBounds_toArray, List.set_cons_zero, List.set_cons_succ]
  refine tkd (i := 3) (v := .pointer (some ⟨p.D, 0, none⟩)) rfl rfl (by kernel_rfl) (by kernel_rfl) (by kernel_rfl) (fun _ _ _ h => h) (Or.inl ⟨by rfl, fun w hSw => by skip; go_simp⟩) hS ?_
  simp only [List.setIfInBounds_toArray, List.set_cons_zero, List.set_cons_succ]
  refine tkd (i := 4) (v := .pointer (some ⟨p.D, 11, none⟩)) rfl rfl (by kernel_rfl) (by kernel_rfl) (by kernel_rfl) (fun _ _ _ h => h) (Or.inl ⟨by rfl, fun w hSw => by skip; go_simp⟩) hS ?_
  simp only [List.setIfInBounds_toArray, List.set_cons_zero, List.set_cons_succ]
  refine tkd (i := 5) (v := .pointer (some ⟨p.D, 11 + A, none⟩)) rfl rfl (by kernel_rfl) (by kernel_rfl) (by kernel_rfl) (fun _ _ _ h => h) (Or.inl ⟨by rfl, fun w hSw => by have y : (A : Int) < 8 := (by omega); go_simp⟩) hS ?_
  simp only [List.setIfInBounds_toArray, List.set_cons_zero, List.set_cons_succ]
  refine tkd (i := 6) (v := .pointer (some ⟨p.D, 0, none⟩)) rfl rfl (by kernel_rfl) (by kernel_rfl) (by kernel_rfl) (fun _ _ _ h => h) (Or.inl ⟨by rfl, fun w hSw => by skip; go_simp⟩) hS ?_
  simp only [List.setIfInBounds_toArray, List.set_cons_zero, List.set_cons_succ]
  refine tkd (i := 7) (v := .pointer (some ⟨X, 2, none⟩)) rfl rfl (by kernel_rfl) (by kernel_rfl) (by kernel_rfl) (fun _ _ _ h => h) (Or.inl ⟨by rfl, fun w hSw => by skip; go_simp⟩) hS ?_
  simp only [List.setIfInBounds_toArray, List.set_cons_zero, List.set_cons_succ]
  refine tkd (i := 8) (v := .int .i64 B) rfl rfl (by kernel_rfl) (by kernel_rfl) (by kernel_rfl) (fun _ _ _ h => h) (Or.inl ⟨by rfl, fun w hSw => by have z := hSw.2.cell 2 rfl; go_simp⟩) hS ?_
  simp only [List.setIfInBounds_toArray, List.set_cons_zero, List.set_cons_succ]
  refine tkd (i := 9) (v := .pointer (some ⟨p.D, 0, none⟩)) rfl rfl (by kernel_rfl) (by kernel_rfl) (by kernel_rfl) (fun _ _ _ h => h) (Or.inl ⟨by rfl, fun w hSw => by skip; go_simp⟩) hS ?_
  simp only [List.setIfInBounds_toArray, List.set_cons_zero, List.set_cons_succ]
  refine tkd (i := 10) (v := .pointer (some ⟨p.D, 11, none⟩)) rfl rfl (by kernel_rfl) (by kernel_rfl) (by kernel_rfl) (fun _ _ _ h => h) (Or.inl ⟨by rfl, fun w hSw => by skip; go_simp⟩) hS ?_
  simp only [List.setIfInBounds_toArray, List.set_cons_zero, List.set_cons_succ]
  refine tkd (i := 11) (v := .pointer (some ⟨p.D, 11 + B, none⟩)) rfl rfl (by kernel_rfl) (by kernel_rfl) (by kernel_rfl) (fun _ _ _ h => h) (Or.inl ⟨by rfl, fun w hSw => by have y : (B : Int) < 8 := (by omega); go_simp⟩) hS ?_
  simp only [List.setIfInBounds_toArray, List.set_cons_zero, List.set_cons_succ]
  refine tkd (i := 12) (v := intV (s.regs.getD B 0)) rfl rfl (by kernel_rfl) (by kernel_rfl) (by kernel_rfl) (fun _ _ _ h => h) (Or.inl ⟨by rfl, fun w hSw => by have z := hSw.1.reg B hB; go_simp⟩) hS ?_
  simp only [List.setIfInBounds_toArray, List.set_cons_zero, List.set_cons_succ]
  refine tkd (i := 13) (v := .pointer (some ⟨p.D, 11 + A, none⟩)) rfl rfl (by kernel_rfl) (by kernel_rfl) (by kernel_rfl) (fun _ _ _ h => h) (Or.inl ⟨by rfl, fun w hSw => by skip; go_simp⟩) hS ?_
  simp only [List.setIfInBounds_toArray, List.set_cons_zero, List.set_cons_succ]
  refine tkd (i := 14) (v := intV (s.regs.getD B 0)) rfl rfl (by kernel_rfl) (by kernel_rfl) (by kernel_rfl) (fun _ _ _ h => h) (Or.inl ⟨by rfl, fun w hSw => by skip; go_simp⟩) hS ?_
  simp only [List.setIfInBounds_toArray, List.set_cons_zero, List.set_cons_succ]
  refine wpAnyH_done (by kernel_rfl) ?_ _
  clear hS
  have hlt := hM.lt
  have hXlt := hX.lt
  have x0 := hX.cell 0 rfl
  have x3 := hX.cell 3 rfl
  have x4 := hX.cell 4 rfl
  have rA := hM.reg A hA
  have fA := hM.fz (11 + A)
  generalize hb : s.regs.getD B 0 = b at *
  generalize ha : s.regs.getD A 0 = a at *
  have hMd := hM.drew
  have hc := oOutL hMd a hn
  go_wp2
  have hS : W.drew.cell? ⟨p.D, 11 + A, none⟩ = some (intV a) := by simpa using rA
  refine wp_region_held_drew (S := fun W => W.cell? ⟨p.D, 11 + A, none⟩ = some (intV a)) (by kernel_rfl) hS (fun hHeld => ?_)
  clear hHeld
  generalize W.drew = W2 at *
  refine tkd (i := 0) (v := .pointer (some ⟨p.D, 0, none⟩)) rfl rfl (by kernel_rfl) (by kernel_rfl) (by kernel_rfl) (fun _ _ _ h => h) (Or.inl ⟨by rfl, fun w hSw => by skip; go_simp⟩) hS ?_
  simp only [List.setIfInBounds_toArray, List.set_cons_zero, List.set_cons_succ]
  refine tkd (i := 1) (v := .pointer (some ⟨p.D, 0, none⟩)) rfl rfl (by kernel_rfl) (by kernel_rfl) (by kernel_rfl) (fun _ _ _ h => h) (Or.inl ⟨by rfl, fun w hSw => by skip; go_simp⟩) hS ?_
  simp only [List.setIfInBounds_toArray, List.set_cons_zero, List.set_cons_succ]
  refine tkd (i := 2) (v := .pointer (some ⟨p.D, 0, none⟩)) rfl rfl (by kernel_rfl) (by kernel_rfl) (by kernel_rfl) (fun _ _ _ h => h) (Or.inl ⟨by rfl, fun w hSw => by skip; go_simp⟩) hS ?_
  simp only [List.setIfInBounds_toArray, List.set_cons_zero, List.set_cons_succ]
  refine tkd (i := 3) (v := .pointer (some ⟨p.D, 11 + A, none⟩)) rfl rfl (by kernel_rfl) (by kernel_rfl) (by kernel_rfl) (fun _ _ _ h => h) (Or.inl ⟨by rfl, fun w hSw => by skip; go_simp⟩) hS ?_
  simp only [List.setIfInBounds_toArray, List.set_cons_zero, List.set_cons_succ]
  refine tkd (i := 4) (v := .pointer (some ⟨p.D, 11 + A, none⟩)) rfl rfl (by kernel_rfl) (by kernel_rfl) (by kernel_rfl) (fun _ _ _ h => h) (Or.inl ⟨by rfl, fun w hSw => by skip; go_simp⟩) hS ?_
  simp only [List.setIfInBounds_toArray, List.set_cons_zero, List.set_cons_succ]
  refine tkd (i := 5) (v := intV a) rfl rfl (by kernel_rfl) (by kernel_rfl) (by kernel_rfl) (fun _ _ _ h => h) (Or.inl ⟨by rfl, fun w hSw => by skip; go_simp⟩) hS ?_
  simp only [List.setIfInBounds_toArray, List.set_cons_zero, List.set_cons_succ]
  refine wpAnyH_ready (rs := [6]) (by kernel_rfl) (by simp) ?_
  refine AllReadyH.cons rfl (fun KK hK => ?_) AllReadyH.nil
  go_simp
  go_at_call 23
  refine hc.mono ?_
  rintro e w3 ⟨vs', hM1, rfl⟩
  have hM1 : MS p w0 vs' { s with oL := s.oL ++ [a] } w3 := hM1
  replace hS : w3.cell? ⟨p.D, 11 + A, none⟩ = some (intV a) := by
    have := hM1.reg A hA
    dsimp only at this
    rw [ha] at this
    exact this
  go_wp2
  refine hK.out _ _ hS (fun hHeld => ?_)
  clear hK KK hHeld
  refine wpAnyH_done (by kernel_rfl) ?_ _
  go_wp2
  go_end0
  exact Act1.go vs' hM1
set_option maxHeartbeats 4000000 in
theorem do14 (h : MS p w0 vs s w) (A B C : Nat) (hA : A < 8) (hB : B < 8) (hC : C < 8) (n : Int) (hn : s.oH.length ≤ 90000) :
    Calls Try.prog 17 #[.pointer (some ⟨p.D, 0, none⟩), .agg #[.int .i64 14, .int .i64 A, .int .i64 B, .int .i64 C, .int .i64 n]] w (Act1 p w0 (none, { s with oH := s.oH ++ [s.regs.getD A 0] })) := by
  have hbx := BoxC.new w #[.int .i64 14, .int .i64 A, .int .i64 B, .int .i64 C, .int .i64 n] 46
  have hM := (h.below ((Below.refl _ _).alloc (Nat.le_refl _) (.cells #[.int .i64 14, .int .i64 A, .int .i64 B, .int .i64 C, .int .i64 n] 46))).drew
  have hX := hbx.below (Below.refl _ _).drew
  have hBD : w.heap.size ≠ p.D := by have := h.lt; omega
  have c46 : Try.prog.cellsOf 46 = 5 := by kernel_rfl
  go_enter Try.func17, Try.ntmps17
  go_wp2
  have hS : MS p w0 vs s (w.alloc (.cells #[.int .i64 14, .int .i64 A, .int .i64 B, .int .i64 C, .int .i64 n] 46)).drew ∧ BoxC (w.alloc (.cells #[.int .i64 14, .int .i64 A, .int .i64 B, .int .i64 C, .int .i64 n] 46)).drew w.heap.size #[.int .i64 14, .int .i64 A, .int .i64 B, .int .i64 C, .int .i64 n] 46 := ⟨hM, hX⟩
  refine wp_region_held_drew (S := fun W => MS p w0 vs s W ∧ BoxC W w.heap.size #[.int .i64 14, .int .i64 A, .int .i64 B, .int .i64 C, .int .i64 n] 46) (by kernel_rfl) hS (fun hHeld => ?_)
  clear hHeld hbx h
  generalize (w.alloc (.cells #[.int .i64 14, .int .i64 A, .int .i64 B, .int .i64 C, .int .i64 n] 46)).drew = W at *
  generalize w.heap.size = X at *
  refine tkd (i := 0) (v := .pointer (some ⟨p.D, 0, none⟩)) rfl rfl (by kernel_rfl) (by kernel_rfl) (by kernel_rfl) (fun _ _ _ h => h) (Or.inl ⟨by rfl, fun w hSw => by skip; go_simp⟩) hS ?_
  simp only [List.setIfInBounds_toArray, List.set_cons_zero, List.set_cons_succ]
  refine tkd (i := 1) (v := .pointer (some ⟨X, 1, none⟩)) rfl rfl (by kernel_rfl) (by kernel_rfl) (by kernel_rfl) (fun _ _ _ h => h) (Or.inl ⟨by rfl, fun w hSw => by skip; go_simp⟩) hS ?_
  simp only [List.setIfInBounds_toArray, List.set_cons_zero, List.set_cons_succ]
  refine tkd (i := 2) (v := .int .i64 A) rfl rfl (by kernel_rfl) (by kernel_rfl) (by kernel_rfl) (fun _ _ _ h => h) (Or.inl ⟨by rfl, fun w hSw => by have z := hSw.2.cell 1 rfl; go_simp⟩) hS ?_
  simp only [List.setIfInBounds_toArray, List.set_cons_zero, List.set_cons_succ]
  refine tkd (i := 3) (v := .pointer (some ⟨p.D, 0, none⟩)) rfl rfl (by kernel_rfl) (by kernel_rfl) (by kernel_rfl) (fun _ _ _ h => h) (Or.inl ⟨by rfl, fun w hSw => by skip; go_simp⟩) hS ?_
  simp only [List.setIfInBounds_toArray, List.set_cons_zero, List.set_cons_succ]
  refine tkd (i := 4) (v := .pointer (some ⟨p.D, 11, none⟩)) rfl rfl (by kernel_rfl) (by kernel_rfl) (by kernel_rfl) (fun _ _ _ h => h) (Or.inl ⟨by rfl, fun w hSw => by skip; go_simp⟩) hS ?_
  simp only [List.setIfInBounds_toArray, List.set_cons_zero, List.set_cons_succ]
  refine tkd (i := 5) (v := .pointer (some ⟨p.D, 11 + A, none⟩)) rfl rfl (by kernel_rfl) (by kernel_rfl) (by kernel_rfl) (fun _ _ _ h => h) (Or.inl ⟨by rfl, fun w hSw => by have y : (A : Int) < 8 := (by omega); go_simp⟩) hS ?_
  simp only [List.setIfInBounds_toArray, List.set_cons_zero, List.set_cons_succ]
  refine tkd (i := 6) (v := .pointer (some ⟨p.D, 0, none⟩)) rfl rfl (by kernel_rfl) (by kernel_rfl) (by kernel_rfl) (fun _ _ _ h => h) (Or.inl ⟨by rfl, fun w hSw => by skip; go_simp⟩) hS ?_
  simp only [List.setIfInBounds_toArray, List.set_cons_zero, List.set_cons_succ]
  refine tkd (i := 7) (v := .pointer (some ⟨X, 2, none⟩)) rfl rfl (by kernel_rfl) (by kernel_rfl) (by kernel_rfl) (fun _ _ _ h => h) (Or.inl ⟨by rfl, fun w hSw => by skip; go_simp⟩) hS ?_
  simp only [List.setIfInBounds_toArray, List.set_cons_zero, List.set_cons_succ]
  refine tkd (i := 8) (v := .int .i64 B) rfl rfl (by kernel_rfl) (by kernel_rfl) (by kernel_rfl) (fun _ _ _ h => h) (Or.inl ⟨by rfl, fun w hSw => by have z := hSw.2.cell 2 rfl; go_simp⟩) hS ?_
  simp only [List.setIfInBounds_toArray, List.set_cons_zero, List.set_cons_succ]
  refine tkd (i := 9) (v := .pointer (some ⟨p.D, 0, none⟩)) rfl rfl (by kernel_rfl) (by kernel_rfl) (by kernel_rfl) (fun _ _ _ h => h) (Or.inl ⟨by rfl, fun w hSw => by skip; go_simp⟩) hS ?_
  simp only [List.setIfInBounds_toArray, List.set_cons_zero, List.set_cons_succ]
  refine tkd (i := 10) (v := .pointer (some ⟨p.D, 11, none⟩)) rfl rfl (by kernel_rfl) (by kernel_rfl) (by kernel_rfl) (fun _ _ _ h => h) (Or.inl ⟨by rfl, fun w hSw => by skip; go_simp⟩) hS ?_
  simp only [List.setIfInBounds_toArray, List.set_cons_zero, List.set_cons_succ]
  refine tkd (i := 11) (v := .pointer (some ⟨p.D, 11 + B, none⟩)) rfl rfl (by kernel_rfl) (by kernel_rfl) (by kernel_rfl) (fun _ _ _ h => h) (Or.inl ⟨by rfl, fun w hSw => by have y : (B : Int) < 8 := (by omega); go_simp⟩) hS ?_
  simp only [List.setIfInBounds_toArray, List.set_cons_zero, List.set_cons_succ]
  refine tkd (i := 12) (v := intV (s.regs.getD B 0)) rfl rfl (by kernel_rfl) (by kernel_rfl) (by kernel_rfl) (fun _ _ _ h => h) (Or.inl ⟨by rfl, fun w hSw => by have z := hSw.1.reg B hB; go_simp⟩) hS ?_
  simp only [List.setIfInBounds_toArray, List.set_cons_zero, List.set_cons_succ]
  refine tkd (i := 13) (v := .pointer (some ⟨p.D, 11 + A, none⟩)) rfl rfl (by kernel_rfl) (by kernel_rfl) (by kernel_rfl) (fun _ _ _ h => h) (Or.inl ⟨by rfl, fun w hSw => by skip; go_simp⟩) hS ?_
  simp only [List.setIfInBounds_toArray, List.set_cons_zero, List.set_cons_succ]
  refine tkd (i := 14) (v := intV (s.regs.getD B 0)) rfl rfl (by kernel_rfl) (by kernel_rfl) (by kernel_rfl) (fun _ _ _ h => h) (Or.inl ⟨by rfl, fun w hSw => by skip; go_simp⟩) hS ?_
  simp only [List.setIfInBounds_toArray, List.set_cons_zero, List.set_cons_succ]
  refine wpAnyH_done (by kernel_rfl) ?_ _
  clear hS
  have hlt := hM.lt
  have hXlt := hX.lt
  have x0 := hX.cell 0 rfl
  have x3 := hX.cell 3 rfl
  have x4 := hX.cell 4 rfl
  have rA := hM.reg A hA
  have fA := hM.fz (11 + A)
  generalize hb : s.regs.getD B 0 = b at *
  generalize ha : s.regs.getD A 0 = a at *
  have hMd := hM.drew
  have hc := oOutH hMd a hn
  go_wp2
  have hS : W.drew.cell? ⟨p.D, 11 + A, none⟩ = some (intV a) := by simpa using rA
  refine wp_region_held_drew (S := fun W => W.cell? ⟨p.D, 11 + A, none⟩ = some (intV a)) (by kernel_rfl) hS (fun hHeld => ?_)
  clear hHeld
  generalize W.drew = W2 at *
  refine tkd (i := 0) (v := .pointer (some ⟨p.D, 0, none⟩)) rfl rfl (by kernel_rfl) (by kernel_rfl) (by kernel_rfl) (fun _ _ _ h => h) (Or.inl ⟨by rfl, fun w hSw => by skip; go_simp⟩) hS ?_
  simp only [List.setIfInBounds_toArray, List.set_cons_zero, List.set_cons_succ]
  refine tkd (i := 1) (v := .pointer (some ⟨p.D, 0, none⟩)) rfl rfl (by kernel_rfl) (by kernel_rfl) (by kernel_rfl) (fun _ _ _ h => h) (Or.inl ⟨by rfl, fun w hSw => by skip; go_simp⟩) hS ?_
  simp only [List.setIfInBounds_toArray, List.set_cons_zero, List.set_cons_succ]
  refine tkd (i := 2) (v := .pointer (some ⟨p.D, 0, none⟩)) rfl rfl (by kernel_rfl) (by kernel_rfl) (by kernel_rfl) (fun _ _ _ h => h) (Or.inl ⟨by rfl, fun w hSw => by skip; go_simp⟩) hS ?_
  simp only [List.setIfInBounds_toArray, List.set_cons_zero, List.set_cons_succ]
  refine tkd (i := 3) (v := .pointer (some ⟨p.D, 11 + A, none⟩)) rfl rfl (by kernel_rfl) (by kernel_rfl) (by kernel_rfl) (fun _ _ _ h => h) (Or.inl ⟨by rfl, fun w hSw => by skip; go_simp⟩) hS ?_
  simp only [List.setIfInBounds_toArray, List.set_cons_zero, List.set_cons_succ]
  refine tkd (i := 4) (v := .pointer (some ⟨p.D, 11 + A, none⟩)) rfl rfl (by kernel_rfl) (by kernel_rfl) (by kernel_rfl) (fun _ _ _ h => h) (Or.inl ⟨by rfl, fun w hSw => by skip; go_simp⟩) hS ?_
  simp only [List.setIfInBounds_toArray, List.set_cons_zero, List.set_cons_succ]
  refine tkd (i := 5) (v := intV a) rfl rfl (by kernel_rfl) (by kernel_rfl) (by kernel_rfl) (fun _ _ _ h => h) (Or.inl ⟨by rfl, fun w hSw => by skip; go_simp⟩) hS ?_
  simp only [List.setIfInBounds_toArray, List.set_cons_zero, List.set_cons_succ]
  refine wpAnyH_ready (rs := [6]) (by kernel_rfl) (by simp) ?_
  refine AllReadyH.cons rfl (fun KK hK => ?_) AllReadyH.nil
  go_simp
  go_at_call 23
  refine hc.mono ?_
  rintro e w3 ⟨vs', hM1, rfl⟩
  have hM1 : MS p w0 vs' { s with oH := s.oH ++ [a] } w3 := hM1
  replace hS : w3.cell? ⟨p.D, 11 + A, none⟩ = some (intV a) := by
    have := hM1.reg A hA
    dsimp only at this
    rw [ha] at this
    exact this
  go_wp2
  refine hK.out _ _ hS (fun hHeld => ?_)
  clear hK KK hHeld
  refine wpAnyH_done (by kernel_rfl) ?_ _
  go_wp2
  go_end0
  exact Act1.go vs' hM1
end
end Go.Proofs.Ytcfibghjekimkaa.mac
