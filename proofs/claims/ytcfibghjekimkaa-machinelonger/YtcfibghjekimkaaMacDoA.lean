/- What an order does: a contract for each kind; those that set a register. -/
import Derived.Test.YtcfibghjekimkaaMacOwnE
namespace Go.Proofs.Ytcfibghjekimkaa.mac
open Go.RowKit
set_option linter.unusedVariables false
set_option linter.unusedSimpArgs false
set_option maxRecDepth 100000
section
variable {p : Pl} {w0 w w' : World} {vs : Fin 5 → Value} {s : St} {iL iH : List Int}
set_option maxHeartbeats 2000000 in
theorem do1 (h : MS p w0 vs s w) (A B C : Nat) (hA : A < 8) (hB : B < 8) (hC : C < 8) (n : Int) :
    Calls Try.prog 17 #[.pointer (some ⟨p.D, 0, none⟩), .agg #[.int .i64 1, .int .i64 A, .int .i64 B, .int .i64 C, .int .i64 n]] w (Act1 p w0 (none, { s with regs := s.regs.set A n })) := by
  have hbx := BoxC.new w #[.int .i64 1, .int .i64 A, .int .i64 B, .int .i64 C, .int .i64 n] 46
  have hM := (h.below ((Below.refl _ _).alloc (Nat.le_refl _) (.cells #[.int .i64 1, .int .i64 A, .int .i64 B, .int .i64 C, .int .i64 n] 46))).drew
  have hX := hbx.below (Below.refl _ _).drew
  have hBD : w.heap.size ≠ p.D := by have := h.lt; omega
  have c46 : Try.prog.cellsOf 46 = 5 := by kernel_rfl
  go_enter Try.func17, Try.ntmps17
  go_wp2
  have hS : MS p w0 vs s (w.alloc (.cells #[.int .i64 1, .int .i64 A, .int .i64 B, .int .i64 C, .int .i64 n] 46)).drew ∧ BoxC (w.alloc (.cells #[.int .i64 1, .int .i64 A, .int .i64 B, .int .i64 C, .int .i64 n] 46)).drew w.heap.size #[.int .i64 1, .int .i64 A, .int .i64 B, .int .i64 C, .int .i64 n] 46 := ⟨hM, hX⟩
  refine wp_region_held_drew (S := fun W => MS p w0 vs s W ∧ BoxC W w.heap.size #[.int .i64 1, .int .i64 A, .int .i64 B, .int .i64 C, .int .i64 n] 46) (by kernel_rfl) hS (fun hHeld => ?_)
  clear hHeld hbx h
  generalize (w.alloc (.cells #[.int .i64 1, .int .i64 A, .int .i64 B, .int .i64 C, .int .i64 n] 46)).drew = W at *
  generalize w.heap.size = X at *
  refine tkd (i := 0) (v := .pointer (some ⟨p.D, 0, none⟩)) rfl rfl (by kernel_rfl) (by kernel_rfl) (by kernel_rfl) (fun _ _ _ h => h) (Or.inl ⟨by rfl, fun w hSw => by skip; go_simp⟩) hS ?_
  simp only [List.setIfInBounds_toArray, List.set_cons_zero, List.set_cons_succ]
  refine tkd (i := 1) (v := .pointer (some ⟨X, 1, none⟩)) rfl rfl (by kernel_rfl) (by kernel_rfl) (by kernel_rfl) (fun _ _ _ h => h) (Or.inl ⟨by rfl, fun w hSw => by skip; go_simp⟩) hS ?_
  simp only [List.setIfInBounds_toArray, List.set_cons_zero, List.set_cons_succ]
  refine tkd (i := 2) (v := .int .i64 A) rfl rfl (by kernel_rfl) (by kernel_rfl) (by kernel_rfl) (fun _ _ _ h => h) (Or.inl ⟨by rfl, fun w hSw => by have z := hSw.2.cell 1 rfl; go_simp⟩) hS ?_
  simp only [List.setIfInBounds_toArray, List.set_cons_zero, List.set_cons_succ]
  refine tkd (i := 3) (v := .pointer (some ⟨p.D, 0, none⟩)) rfl rfl (by kernel_rfl) (by kernel_rfl) (by kernel_rfl) (fun _ _ _ h => h) (Or.inl ⟨by rfl, fun w hSw => by skip; go_simp⟩) hS ?_
  simp only [List.setIfInBounds_toArray, List.set_cons_zero, List.set_cons_succ]
  refine tkd (i := 4) (v := .pointer (some ⟨p.D, 11, none⟩)) rfl rfl (by kernel_rfl) (by kernel_rfl) (by kernel_rfl) (fun _ _ _ h => h) (Or.inl ⟨by rfl, fun w hSw => by skip; go_simp⟩) hS ?_
  simp only [List.setIfInBounds_toArray, List.set_cons_zero, List.set_cons_succ]
  refine tkd (i := 5) (v := .pointer (some ⟨p.D, 11 + A, none⟩)) rfl rfl (by kernel_rfl) (by kernel_rfl) (by kernel_rfl) (fun _ _ _ h => h) (Or.inl ⟨by rfl, fun w hSw => by have y : (A : Int) < 8 := (by omega); go_simp⟩) hS ?_
  simp only [List.setIfInBounds_toArray, List.set_cons_zero, List.set_cons_succ]
  refine tkd (i := 6) (v := .pointer (some ⟨p.D, 0, none⟩)) rfl rfl (by kernel_rfl) (by kernel_rfl) (by kernel_rfl) (fun _ _ _ h => h) (Or.inl ⟨by rfl, fun w hSw => by skip; go_simp⟩) hS ?_
  simp only [List.setIfInBounds_toArray, List.set_cons_zero, List.set_cons_succ]
  refine tkd (i := 7) (v := .pointer (some ⟨X, 2, none⟩)) rfl rfl (by kernel_rfl) (by kernel_rfl) (by kernel_rfl) (fun _ _ _ h => h) (Or.inl ⟨by rfl, fun w hSw => by skip; go_simp⟩) hS ?_
  simp only [List.setIfInBounds_toArray, List.set_cons_zero, List.set_cons_succ]
  refine tkd (i := 8) (v := .int .i64 B) rfl rfl (by kernel_rfl) (by kernel_rfl) (by kernel_rfl) (fun _ _ _ h => h) (Or.inl ⟨by rfl, fun w hSw => by have z := hSw.2.cell 2 rfl; go_simp⟩) hS ?_
  simp only [List.setIfInBounds_toArray, List.set_cons_zero, List.set_cons_succ]
  refine tkd (i := 9) (v := .pointer (some ⟨p.D, 0, none⟩)) rfl rfl (by kernel_rfl) (by kernel_rfl) (by kernel_rfl) (fun _ _ _ h => h) (Or.inl ⟨by rfl, fun w hSw => by skip; go_simp⟩) hS ?_
  simp only [List.setIfInBounds_toArray, List.set_cons_zero, List.set_cons_succ]
  refine tkd (i := 10) (v := .pointer (some ⟨p.D, 11, none⟩)) rfl rfl (by kernel_rfl) (by kernel_rfl) (by kernel_rfl) (fun _ _ _ h => h) (Or.inl ⟨by rfl, fun w hSw => by skip; go_simp⟩) hS ?_
  simp only [List.setIfInBounds_toArray, List.set_cons_zero, List.set_cons_succ]
  refine tkd (i := 11) (v := .pointer (some ⟨p.D, 11 + B, none⟩)) rfl rfl (by kernel_rfl) (by kernel_rfl) (by kernel_rfl) (fun _ _ _ h => h) (Or.inl ⟨by rfl, fun w hSw => by have y : (B : Int) < 8 := (by omega); go_simp⟩) hS ?_
  simp only [List.setIfInBounds_toArray, List.set_cons_zero, List.set_cons_succ]
  refine tkd (i := 12) (v := intV (s.regs.getD B 0)) rfl rfl (by kernel_rfl) (by kernel_rfl) (by kernel_rfl) (fun _ _ _ h => h) (Or.inl ⟨by rfl, fun w hSw => by have z := hSw.1.reg B hB; go_simp⟩) hS ?_
  simp only [List.setIfInBounds_toArray, List.set_cons_zero, List.set_cons_succ]
  refine tkd (i := 13) (v := .pointer (some ⟨p.D, 11 + A, none⟩)) rfl rfl (by kernel_rfl) (by kernel_rfl) (by kernel_rfl) (fun _ _ _ h => h) (Or.inl ⟨by rfl, fun w hSw => by skip; go_simp⟩) hS ?_
  simp only [List.setIfInBounds_toArray, List.set_cons_zero, List.set_cons_succ]
  refine tkd (i := 14) (v := intV (s.regs.getD B 0)) rfl rfl (by kernel_rfl) (by kernel_rfl) (by kernel_rfl) (fun _ _ _ h => h) (Or.inl ⟨by rfl, fun w hSw => by skip; go_simp⟩) hS ?_
  simp only [List.setIfInBounds_toArray, List.set_cons_zero, List.set_cons_succ]
  refine wpAnyH_done (by kernel_rfl) ?_ _
  clear hS
  have hlt := hM.lt
  have hXlt := hX.lt
  have x0 := hX.cell 0 rfl
  have x3 := hX.cell 3 rfl
  have x4 := hX.cell 4 rfl
  have rA := hM.reg A hA
  have fA := hM.fz (11 + A)
  generalize hb : s.regs.getD B 0 = b at *
  generalize ha : s.regs.getD A 0 = a at *
  go_wp2
  go_end0
  exact Act1.go vs (hM.setReg A hA n)
set_option maxHeartbeats 2000000 in
theorem do2 (h : MS p w0 vs s w) (A B C : Nat) (hA : A < 8) (hB : B < 8) (hC : C < 8) (n : Int) :
    Calls Try.prog 17 #[.pointer (some ⟨p.D, 0, none⟩), .agg #[.int .i64 2, .int .i64 A, .int .i64 B, .int .i64 C, .int .i64 n]] w (Act1 p w0 (none, { s with regs := s.regs.set A (s.regs.getD B 0) })) := by
  have hbx := BoxC.new w #[.int .i64 2, .int .i64 A, .int .i64 B, .int .i64 C, .int .i64 n] 46
  have hM := (h.below ((Below.refl _ _).alloc (Nat.le_refl _) (.cells #[.int .i64 2, .int .i64 A, .int .i64 B, .int .i64 C, .int .i64 n] 46))).drew
  have hX := hbx.below (Below.refl _ _).drew
  have hBD : w.heap.size ≠ p.D := by have := h.lt; omega
  have c46 : Try.prog.cellsOf 46 = 5 := by kernel_rfl
  go_enter Try.func17, Try.ntmps17
  go_wp2
  have hS : MS p w0 vs s (w.alloc (.cells #[.int .i64 2, .int .i64 A, .int .i64 B, .int .i64 C, .int .i64 n] 46)).drew ∧ BoxC (w.alloc (.cells #[.int .i64 2, .int .i64 A, .int .i64 B, .int .i64 C, .int .i64 n] 46)).drew w.heap.size #[.int .i64 2, .int .i64 A, .int .i64 B, .int .i64 C, .int .i64 n] 46 := ⟨hM, hX⟩
  refine wp_region_held_drew (S := fun W => MS p w0 vs s W ∧ BoxC W w.heap.size #[.int .i64 2, .int .i64 A, .int .i64 B, .int .i64 C, .int .i64 n] 46) (by kernel_rfl) hS (fun hHeld => ?_)
  clear hHeld hbx h
  generalize (w.alloc (.cells #[.int .i64 2, .int .i64 A, .int .i64 B, .int .i64 C, .int .i64 n] 46)).drew = W at *
  generalize w.heap.size = X at *
  refine tkd (i := 0) (v := .pointer (some ⟨p.D, 0, none⟩)) rfl rfl (by kernel_rfl) (by kernel_rfl) (by kernel_rfl) (fun _ _ _ h => h) (Or.inl ⟨by rfl, fun w hSw => by skip; go_simp⟩) hS ?_
  simp only [List.setIfInBounds_toArray, List.set_cons_zero, List.set_cons_succ]
  refine tkd (i := 1) (v := .pointer (some ⟨X, 1, none⟩)) rfl rfl (by kernel_rfl) (by kernel_rfl) (by kernel_rfl) (fun _ _ _ h => h) (Or.inl ⟨by rfl, fun w hSw => by skip; go_simp⟩) hS ?_
  simp only [List.setIfInBounds_toArray, List.set_cons_zero, List.set_cons_succ]
  refine tkd (i := 2) (v := .int .i64 A) rfl rfl (by kernel_rfl) (by kernel_rfl) (by kernel_rfl) (fun _ _ _ h => h) (Or.inl ⟨by rfl, fun w hSw => by have z := hSw.2.cell 1 rfl; go_simp⟩) hS ?_
  simp only [List.setIfInBounds_toArray, List.set_cons_zero, List.set_cons_succ]
  refine tkd (i := 3) (v := .pointer (some ⟨p.D, 0, none⟩)) rfl rfl (by kernel_rfl) (by kernel_rfl) (by kernel_rfl) (fun _ _ _ h => h) (Or.inl ⟨by rfl, fun w hSw => by skip; go_simp⟩) hS ?_
  simp only [List.setIfInBounds_toArray, List.set_cons_zero, List.set_cons_succ]
  refine tkd (i := 4) (v := .pointer (some ⟨p.D, 11, none⟩)) rfl rfl (by kernel_rfl) (by kernel_rfl) (by kernel_rfl) (fun _ _ _ h => h) (Or.inl ⟨by rfl, fun w hSw => by skip; go_simp⟩) hS ?_
  simp only [List.setIfInBounds_toArray, List.set_cons_zero, List.set_cons_succ]
  refine tkd (i := 5) (v := .pointer (some ⟨p.D, 11 + A, none⟩)) rfl rfl (by kernel_rfl) (by kernel_rfl) (by kernel_rfl) (fun _ _ _ h => h) (Or.inl ⟨by rfl, fun w hSw => by have y : (A : Int) < 8 := (by omega); go_simp⟩) hS ?_
  simp only [List.setIfInBounds_toArray, List.set_cons_zero, List.set_cons_succ]
  refine tkd (i := 6) (v := .pointer (some ⟨p.D, 0, none⟩)) rfl rfl (by kernel_rfl) (by kernel_rfl) (by kernel_rfl) (fun _ _ _ h => h) (Or.inl ⟨by rfl, fun w hSw => by skip; go_simp⟩) hS ?_
  simp only [List.setIfInBounds_toArray, List.set_cons_zero, List.set_cons_succ]
  refine tkd (i := 7) (v := .pointer (some ⟨X, 2, none⟩)) rfl rfl (by kernel_rfl) (by kernel_rfl) (by kernel_rfl) (fun _ _ _ h => h) (Or.inl ⟨by rfl, fun w hSw => by skip; go_simp⟩) hS ?_
  simp only [List.setIfInBounds_toArray, List.set_cons_zero, List.set_cons_succ]
  refine tkd (i := 8) (v := .int .i64 B) rfl rfl (by kernel_rfl) (by kernel_rfl) (by kernel_rfl) (fun _ _ _ h => h) (Or.inl ⟨by rfl, fun w hSw => by have z := hSw.2.cell 2 rfl; go_simp⟩) hS ?_
  simp only [List.setIfInBounds_toArray, List.set_cons_zero, List.set_cons_succ]
  refine tkd (i := 9) (v := .pointer (some ⟨p.D, 0, none⟩)) rfl rfl (by kernel_rfl) (by kernel_rfl) (by kernel_rfl) (fun _ _ _ h => h) (Or.inl ⟨by rfl, fun w hSw => by skip; go_simp⟩) hS ?_
  simp only [List.setIfInBounds_toArray, List.set_cons_zero, List.set_cons_succ]
  refine tkd (i := 10) (v := .pointer (some ⟨p.D, 11, none⟩)) rfl rfl (by kernel_rfl) (by kernel_rfl) (by kernel_rfl) (fun _ _ _ h => h) (Or.inl ⟨by rfl, fun w hSw => by skip; go_simp⟩) hS ?_
  simp only [List.setIfInBounds_toArray, List.set_cons_zero, List.set_cons_succ]
  refine tkd (i := 11) (v := .pointer (some ⟨p.D, 11 + B, none⟩)) rfl rfl (by kernel_rfl) (by kernel_rfl) (by kernel_rfl) (fun _ _ _ h => h) (Or.inl ⟨by rfl, fun w hSw => by have y : (B : Int) < 8 := (by omega); go_simp⟩) hS ?_
  simp only [List.setIfInBounds_toArray, List.set_cons_zero, List.set_cons_succ]
  refine tkd (i := 12) (v := intV (s.regs.getD B 0)) rfl rfl (by kernel_rfl) (by kernel_rfl) (by kernel_rfl) (fun _ _ _ h => h) (Or.inl ⟨by rfl, fun w hSw => by have z := hSw.1.reg B hB; go_simp⟩) hS ?_
  simp only [List.setIfInBounds_toArray, List.set_cons_zero, List.set_cons_succ]
  refine tkd (i := 13) (v := .pointer (some ⟨p.D, 11 + A, none⟩)) rfl rfl (by kernel_rfl) (by kernel_rfl) (by kernel_rfl) (fun _ _ _ h => h) (Or.inl ⟨by rfl, fun w hSw => by skip; go_simp⟩) hS ?_
  simp only [List.setIfInBounds_toArray, List.set_cons_zero, List.set_cons_succ]
  refine tkd (i := 14) (v := intV (s.regs.getD B 0)) rfl rfl (by kernel_rfl) (by kernel_rfl) (by kernel_rfl) (fun _ _ _ h => h) (Or.inl ⟨by rfl, fun w hSw => by skip; go_simp⟩) hS ?_
  simp only [List.setIfInBounds_toArray, List.set_cons_zero, List.set_cons_succ]
  refine wpAnyH_done (by kernel_rfl) ?_ _
  clear hS
  have hlt := hM.lt
  have hXlt := hX.lt
  have x0 := hX.cell 0 rfl
  have x3 := hX.cell 3 rfl
  have x4 := hX.cell 4 rfl
  have rA := hM.reg A hA
  have fA := hM.fz (11 + A)
  generalize hb : s.regs.getD B 0 = b at *
  generalize ha : s.regs.getD A 0 = a at *
  go_wp2
  go_end0
  exact Act1.go vs (hM.setReg A hA b)
set_option maxHeartbeats 2000000 in
theorem do3 (h : MS p w0 vs s w) (A B C : Nat) (hA : A < 8) (hB : B < 8) (hC : C < 8) (n : Int) :
    Calls Try.prog 17 #[.pointer (some ⟨p.D, 0, none⟩), .agg #[.int .i64 3, .int .i64 A, .int .i64 B, .int .i64 C, .int .i64 n]] w (Act1 p w0 (none, { s with regs := s.regs.set A (wrap64 (s.regs.getD B 0 + n)) })) := by
  have hbx := BoxC.new w #[.int .i64 3, .int .i64 A, .int .i64 B, .int .i64 C, .int .i64 n] 46
  have hM := (h.below ((Below.refl _ _).alloc (Nat.le_refl _) (.cells #[.int .i64 3, .int .i64 A, .int .i64 B, .int .i64 C, .int .i64 n] 46))).drew
  have hX := hbx.below (Below.refl _ _).drew
  have hBD : w.heap.size ≠ p.D := by have := h.lt; omega
  have c46 : Try.prog.cellsOf 46 = 5 := by kernel_rfl
  go_enter Try.func17, Try.ntmps17
  go_wp2
  have hS : MS p w0 vs s (w.alloc (.cells #[.int .i64 3, .int .i64 A, .int .i64 B, .int .i64 C, .int .i64 n] 46)).drew ∧ BoxC (w.alloc (.cells #[.int .i64 3, .int .i64 A, .int .i64 B, .int .i64 C, .int .i64 n] 46)).drew w.heap.size #[.int .i64 3, .int .i64 A, .int .i64 B, .int .i64 C, .int .i64 n] 46 := ⟨hM, hX⟩
  refine wp_region_held_drew (S := fun W => MS p w0 vs s W ∧ BoxC W w.heap.size #[.int .i64 3, .int .i64 A, .int .i64 B, .int .i64 C, .int .i64 n] 46) (by kernel_rfl) hS (fun hHeld => ?_)
  clear hHeld hbx h
  generalize (w.alloc (.cells #[.int .i64 3, .int .i64 A, .int .i64 B, .int .i64 C, .int .i64 n] 46)).drew = W at *
  generalize w.heap.size = X at *
  refine tkd (i := 0) (v := .pointer (some ⟨p.D, 0, none⟩)) rfl rfl (by kernel_rfl) (by kernel_rfl) (by kernel_rfl) (fun _ _ _ h => h) (Or.inl ⟨by rfl, fun w hSw => by skip; go_simp⟩) hS ?_
  simp only [List.setIfInBounds_toArray, List.set_cons_zero, List.set_cons_succ]
  refine tkd (i := 1) (v := .pointer (some ⟨X, 1, none⟩)) rfl rfl (by kernel_rfl) (by kernel_rfl) (by kernel_rfl) (fun _ _ _ h => h) (Or.inl ⟨by rfl, fun w hSw => by skip; go_simp⟩) hS ?_
  simp only [List.setIfInBounds_toArray, List.set_cons_zero, List.set_cons_succ]
  refine tkd (i := 2) (v := .int .i64 A) rfl rfl (by kernel_rfl) (by kernel_rfl) (by kernel_rfl) (fun _ _ _ h => h) (Or.inl ⟨by rfl, fun w hSw => by have z := hSw.2.cell 1 rfl; go_simp⟩) hS ?_
  simp only [List.setIfInBounds_toArray, List.set_cons_zero, List.set_cons_succ]
  refine tkd (i := 3) (v := .pointer (some ⟨p.D, 0, none⟩)) rfl rfl (by kernel_rfl) (by kernel_rfl) (by kernel_rfl) (fun _ _ _ h => h) (Or.inl ⟨by rfl, fun w hSw => by skip; go_simp⟩) hS ?_
  simp only [List.setIfInBounds_toArray, List.set_cons_zero, List.set_cons_succ]
  refine tkd (i := 4) (v := .pointer (some ⟨p.D, 11, none⟩)) rfl rfl (by kernel_rfl) (by kernel_rfl) (by kernel_rfl) (fun _ _ _ h => h) (Or.inl ⟨by rfl, fun w hSw => by skip; go_simp⟩) hS ?_
  simp only [List.setIfInBounds_toArray, List.set_cons_zero, List.set_cons_succ]
  refine tkd (i := 5) (v := .pointer (some ⟨p.D, 11 + A, none⟩)) rfl rfl (by kernel_rfl) (by kernel_rfl) (by kernel_rfl) (fun _ _ _ h => h) (Or.inl ⟨by rfl, fun w hSw => by have y : (A : Int) < 8 := (by omega); go_simp⟩) hS ?_
  simp only [List.setIfInBounds_toArray, List.set_cons_zero, List.set_cons_succ]
  refine tkd (i := 6) (v := .pointer (some ⟨p.D, 0, none⟩)) rfl rfl (by kernel_rfl) (by kernel_rfl) (by kernel_rfl) (fun _ _ _ h => h) (Or.inl ⟨by rfl, fun w hSw => by skip; go_simp⟩) hS ?_
  simp only [List.setIfInBounds_toArray, List.set_cons_zero, List.set_cons_succ]
  refine tkd (i := 7) (v := .pointer (some ⟨X, 2, none⟩)) rfl rfl (by kernel_rfl) (by kernel_rfl) (by kernel_rfl) (fun _ _ _ h => h) (Or.inl ⟨by rfl, fun w hSw => by skip; go_simp⟩) hS ?_
  simp only [List.setIfInBounds_toArray, List.set_cons_zero, List.set_cons_succ]
  refine tkd (i := 8) (v := .int .i64 B) rfl rfl (by kernel_rfl) (by kernel_rfl) (by kernel_rfl) (fun _ _ _ h => h) (Or.inl ⟨by rfl, fun w hSw => by have z := hSw.2.cell 2 rfl; go_simp⟩) hS ?_
  simp only [List.setIfInBounds_toArray, List.set_cons_zero, List.set_cons_succ]
  refine tkd (i := 9) (v := .pointer (some ⟨p.D, 0, none⟩)) rfl rfl (by kernel_rfl) (by kernel_rfl) (by kernel_rfl) (fun _ _ _ h => h) (Or.inl ⟨by rfl, fun w hSw => by skip; go_simp⟩) hS ?_
  simp only [List.setIfInBounds_toArray, List.set_cons_zero, List.set_cons_succ]
  refine tkd (i := 10) (v := .pointer (some ⟨p.D, 11, none⟩)) rfl rfl (by kernel_rfl) (by kernel_rfl) (by kernel_rfl) (fun _ _ _ h => h) (Or.inl ⟨by rfl, fun w hSw => by skip; go_simp⟩) hS ?_
  simp only [List.setIfInBounds_toArray, List.set_cons_zero, List.set_cons_succ]
  refine tkd (i := 11) (v := .pointer (some ⟨p.D, 11 + B, none⟩)) rfl rfl (by kernel_rfl) (by kernel_rfl) (by kernel_rfl) (fun _ _ _ h => h) (Or.inl ⟨by rfl, fun w hSw => by have y : (B : Int) < 8 := (by omega); go_simp⟩) hS ?_
  simp only [List.setIfInBounds_toArray, List.set_cons_zero, List.set_cons_succ]
  refine tkd (i := 12) (v := intV (s.regs.getD B 0)) rfl rfl (by kernel_rfl) (by kernel_rfl) (by kernel_rfl) (fun _ _ _ h => h) (Or.inl ⟨by rfl, fun w hSw => by have z := hSw.1.reg B hB; go_simp⟩) hS ?_
  simp only [List.setIfInBounds_toArray, List.set_cons_zero, List.set_cons_succ]
  refine tkd (i := 13) (v := .pointer (some ⟨p.D, 11 + A, none⟩)) rfl rfl (by kernel_rfl) (by kernel_rfl) (by kernel_rfl) (fun _ _ _ h => h) (Or.inl ⟨by rfl, fun w hSw => by skip; go_simp⟩) hS ?_
  simp only [List.setIfInBounds_toArray, List.set_cons_zero, List.set_cons_succ]
  refine tkd (i := 14) (v := intV (s.regs.getD B 0)) rfl rfl (by kernel_rfl) (by kernel_rfl) (by kernel_rfl) (fun _ _ _ h => h) (Or.inl ⟨by rfl, fun w hSw => by skip; go_simp⟩) hS ?_
  simp only [List.setIfInBounds_toArray, List.set_cons_zero, List.set_cons_succ]
  refine wpAnyH_done (by kernel_rfl) ?_ _
  clear hS
  have hlt := hM.lt
  have hXlt := hX.lt
  have x0 := hX.cell 0 rfl
  have x3 := hX.cell 3 rfl
  have x4 := hX.cell 4 rfl
  have rA := hM.reg A hA
  have fA := hM.fz (11 + A)
  generalize hb : s.regs.getD B 0 = b at *
  generalize ha : s.regs.getD A 0 = a at *
  go_wp2
  go_end0
  exact Act1.go vs (hM.setReg A hA (wrap64 (b + n)))
set_option maxHeartbeats 2000000 in
theorem do8 (h : MS p w0 vs s w) (A B C : Nat) (hA : A < 8) (hB : B < 8) (hC : C < 8) (n : Nat) :
    Calls Try.prog 17 #[.pointer (some ⟨p.D, 0, none⟩), .agg #[.int .i64 8, .int .i64 A, .int .i64 B, .int .i64 C, .int .i64 n]] w (Act1 p w0 (none, { s with next := n })) := by
  have hbx := BoxC.new w #[.int .i64 8, .int .i64 A, .int .i64 B, .int .i64 C, .int .i64 n] 46
  have hM := (h.below ((Below.refl _ _).alloc (Nat.le_refl _) (.cells #[.int .i64 8, .int .i64 A, .int .i64 B, .int .i64 C, .int .i64 n] 46))).drew
  have hX := hbx.below (Below.refl _ _).drew
  have hBD : w.heap.size ≠ p.D := by have := h.lt; omega
  have c46 : Try.prog.cellsOf 46 = 5 := by kernel_rfl
  go_enter Try.func17, Try.ntmps17
  go_wp2
  have hS : MS p w0 vs s (w.alloc (.cells #[.int .i64 8, .int .i64 A, .int .i64 B, .int .i64 C, .int .i64 n] 46)).drew ∧ BoxC (w.alloc (.cells #[.int .i64 8, .int .i64 A, .int .i64 B, .int .i64 C, .int .i64 n] 46)).drew w.heap.size #[.int .i64 8, .int .i64 A, .int .i64 B, .int .i64 C, .int .i64 n] 46 := ⟨hM, hX⟩
  refine wp_region_held_drew (S := fun W => MS p w0 vs s W ∧ BoxC W w.heap.size #[.int .i64 8, .int .i64 A, .int .i64 B, .int .i64 C, .int .i64 n] 46) (by kernel_rfl) hS (fun hHeld => ?_)
  clear hHeld hbx h
  generalize (w.alloc (.cells #[.int .i64 8, .int .i64 A, .int .i64 B, .int .i64 C, .int .i64 n] 46)).drew = W at *
  generalize w.heap.size = X at *
  refine tkd (i := 0) (v := .pointer (some ⟨p.D, 0, none⟩)) rfl rfl (by kernel_rfl) (by kernel_rfl) (by kernel_rfl) (fun _ _ _ h => h) (Or.inl ⟨by rfl, fun w hSw => by skip; go_simp⟩) hS ?_
  simp only [List.setIfInBounds_toArray, List.set_cons_zero, List.set_cons_succ]
  refine tkd (i := 1) (v := .pointer (some ⟨X, 1, none⟩)) rfl rfl (by kernel_rfl) (by kernel_rfl) (by kernel_rfl) (fun _ _ _ h => h) (Or.inl ⟨by rfl, fun w hSw => by skip; go_simp⟩) hS ?_
  simp only [List.setIfInBounds_toArray, List.set_cons_zero, List.set_cons_succ]
  refine tkd (i := 2) (v := .int .i64 A) rfl rfl (by kernel_rfl) (by kernel_rfl) (by kernel_rfl) (fun _ _ _ h => h) (Or.inl ⟨by rfl, fun w hSw => by have z := hSw.2.cell 1 rfl; go_simp⟩) hS ?_
  simp only [List.setIfInBounds_toArray, List.set_cons_zero, List.set_cons_succ]
  refine tkd (i := 3) (v := .pointer (some ⟨p.D, 0, none⟩)) rfl rfl (by kernel_rfl) (by kernel_rfl) (by kernel_rfl) (fun _ _ _ h => h) (Or.inl ⟨by rfl, fun w hSw => by skip; go_simp⟩) hS ?_
  simp only [List.setIfInBounds_toArray, List.set_cons_zero, List.set_cons_succ]
  refine tkd (i := 4) (v := .pointer (some ⟨p.D, 11, none⟩)) rfl rfl (by kernel_rfl) (by kernel_rfl) (by kernel_rfl) (fun _ _ _ h => h) (Or.inl ⟨by rfl, fun w hSw => by skip; go_simp⟩) hS ?_
  simp only [List.setIfInBounds_toArray, List.set_cons_zero, List.set_cons_succ]
  refine tkd (i := 5) (v := .pointer (some ⟨p.D, 11 + A, none⟩)) rfl rfl (by kernel_rfl) (by kernel_rfl) (by kernel_rfl) (fun _ _ _ h => h) (Or.inl ⟨by rfl, fun w hSw => by have y : (A : Int) < 8 := (by omega); go_simp⟩) hS ?_
  simp only [List.setIfInBounds_toArray, List.set_cons_zero, List.set_cons_succ]
  refine tkd (i := 6) (v := .pointer (some ⟨p.D, 0, none⟩)) rfl rfl (by kernel_rfl) (by kernel_rfl) (by kernel_rfl) (fun _ _ _ h => h) (Or.inl ⟨by rfl, fun w hSw => by skip; go_simp⟩) hS ?_
  simp only [List.setIfInBounds_toArray, List.set_cons_zero, List.set_cons_succ]
  refine tkd (i := 7) (v := .pointer (some ⟨X, 2, none⟩)) rfl rfl (by kernel_rfl) (by kernel_rfl) (by kernel_rfl) (fun _ _ _ h => h) (Or.inl ⟨by rfl, fun w hSw => by skip; go_simp⟩) hS ?_
  simp only [List.setIfInBounds_toArray, List.set_cons_zero, List.set_cons_succ]
  refine tkd (i := 8) (v := .int .i64 B) rfl rfl (by kernel_rfl) (by kernel_rfl) (by kernel_rfl) (fun _ _ _ h => h) (Or.inl ⟨by rfl, fun w hSw => by have z := hSw.2.cell 2 rfl; go_simp⟩) hS ?_
  simp only [List.setIfInBounds_toArray, List.set_cons_zero, List.set_cons_succ]
  refine tkd (i := 9) (v := .pointer (some ⟨p.D, 0, none⟩)) rfl rfl (by kernel_rfl) (by kernel_rfl) (by kernel_rfl) (fun _ _ _ h => h) (Or.inl ⟨by rfl, fun w hSw => by skip; go_simp⟩) hS ?_
  simp only [List.setIfInBounds_toArray, List.set_cons_zero, List.set_cons_succ]
  refine tkd (i := 10) (v := .pointer (some ⟨p.D, 11, none⟩)) rfl rfl (by kernel_rfl) (by kernel_rfl) (by kernel_rfl) (fun _ _ _ h => h) (Or.inl ⟨by rfl, fun w hSw => by skip; go_simp⟩) hS ?_
  simp only [List.setIfInBounds_toArray, List.set_cons_zero, List.set_cons_succ]
  refine tkd (i := 11) (v := .pointer (some ⟨p.D, 11 + B, none⟩)) rfl rfl (by kernel_rfl) (by kernel_rfl) (by kernel_rfl) (fun _ _ _ h => h) (Or.inl ⟨by rfl, fun w hSw => by have y : (B : Int) < 8 := (by omega); go_simp⟩) hS ?_
  simp only [List.setIfInBounds_toArray, List.set_cons_zero, List.set_cons_succ]
  refine tkd (i := 12) (v := intV (s.regs.getD B 0)) rfl rfl (by kernel_rfl) (by kernel_rfl) (by kernel_rfl) (fun _ _ _ h => h) (Or.inl ⟨by rfl, fun w hSw => by have z := hSw.1.reg B hB; go_simp⟩) hS ?_
  simp only [List.setIfInBounds_toArray, List.set_cons_zero, List.set_cons_succ]
  refine tkd (i := 13) (v := .pointer (some ⟨p.D, 11 + A, none⟩)) rfl rfl (by kernel_rfl) (by kernel_rfl) (by kernel_rfl) (fun _ _ _ h => h) (Or.inl ⟨by rfl, fun w hSw => by skip; go_simp⟩) hS ?_
  simp only [List.setIfInBounds_toArray, List.set_cons_zero, List.set_cons_succ]
  refine tkd (i := 14) (v := intV (s.regs.getD B 0)) rfl rfl (by kernel_rfl) (by kernel_rfl) (by kernel_rfl) (fun _ _ _ h => h) (Or.inl ⟨by rfl, fun w hSw => by skip; go_simp⟩) hS ?_
  simp only [List.setIfInBounds_toArray, List.set_cons_zero, List.set_cons_succ]
  refine wpAnyH_done (by kernel_rfl) ?_ _
  clear hS
  have hlt := hM.lt
  have hXlt := hX.lt
  have x0 := hX.cell 0 rfl
  have x3 := hX.cell 3 rfl
  have x4 := hX.cell 4 rfl
  have rA := hM.reg A hA
  have fA := hM.fz (11 + A)
  generalize hb : s.regs.getD B 0 = b at *
  generalize ha : s.regs.getD A 0 = a at *
  have m10 := hM.cells.2.2.2.2.2.2.2.2.2.2
  have f10 := hM.fz 10
  go_wp2
  go_end0
  exact Act1.go vs (hM.setNext n)
set_option maxHeartbeats 2000000 in
theorem do9 (h : MS p w0 vs s w) (A B C : Nat) (hA : A < 8) (hB : B < 8) (hC : C < 8) (n : Nat) :
    Calls Try.prog 17 #[.pointer (some ⟨p.D, 0, none⟩), .agg #[.int .i64 9, .int .i64 A, .int .i64 B, .int .i64 C, .int .i64 n]] w (Act1 p w0 (if s.regs.getD A 0 = 0 then (none, { s with next := n }) else (none, s))) := by
  by_cases h0 : s.regs.getD A 0 = 0
  · rw [if_pos h0]
    have hbx := BoxC.new w #[.int .i64 9, .int .i64 A, .int .i64 B, .int .i64 C, .int .i64 n] 46
    have hM := (h.below ((Below.refl _ _).alloc (Nat.le_refl _) (.cells #[.int .i64 9, .int .i64 A, .int .i64 B, .int .i64 C, .int .i64 n] 46))).drew
    have hX := hbx.below (Below.refl _ _).drew
    have hBD : w.heap.size ≠ p.D := by have := h.lt; omega
    have c46 : Try.prog.cellsOf 46 = 5 := by kernel_rfl
    go_enter Try.func17, Try.ntmps17
    go_wp2
    have hS : MS p w0 vs s (w.alloc (.cells #[.int .i64 9, .int .i64 A, .int .i64 B, .int .i64 C, .int .i64 n] 46)).drew ∧ BoxC (w.alloc (.cells #[.int .i64 9, .int .i64 A, .int .i64 B, .int .i64 C, .int .i64 n] 46)).drew w.heap.size #[.int .i64 9, .int .i64 A, .int .i64 B, .int .i64 C, .int .i64 n] 46 := ⟨hM, hX⟩
    refine wp_region_held_drew (S := fun W => MS p w0 vs s W ∧ BoxC W w.heap.size #[.int .i64 9, .int .i64 A, .int .i64 B, .int .i64 C, .int .i64 n] 46) (by kernel_rfl) hS (fun hHeld => ?_)
    clear hHeld hbx h
    generalize (w.alloc (.cells #[.int .i64 9, .int .i64 A, .int .i64 B, .int .i64 C, .int .i64 n] 46)).drew = W at *
    generalize w.heap.size = X at *
    refine tkd (i := 0) (v := .pointer (some ⟨p.D, 0, none⟩)) rfl rfl (by kernel_rfl) (by kernel_rfl) (by kernel_rfl) (fun _ _ _ h => h) (Or.inl ⟨by rfl, fun w hSw => by skip; go_simp⟩) hS ?_
    simp only [List.setIfInBounds_toArray, List.set_cons_zero, List.set_cons_succ]
    refine tkd (i := 1) (v := .pointer (some ⟨X, 1, none⟩)) rfl rfl (by kernel_rfl) (by kernel_rfl) (by kernel_rfl) (fun _ _ _ h => h) (Or.inl ⟨by rfl, fun w hSw => by skip; go_simp⟩) hS ?_
    simp only [List.setIfInBounds_toArray, List.set_cons_zero, List.set_cons_succ]
    refine tkd (i := 2) (v := .int .i64 A) rfl rfl (by kernel_rfl) (by kernel_rfl) (by kernel_rfl) (fun _ _ _ h => h) (Or.inl ⟨by rfl, fun w hSw => by have z := hSw.2.cell 1 rfl; go_simp⟩) hS ?_
    simp only [List.setIfInBounds_toArray, List.set_cons_zero, List.set_cons_succ]
    refine tkd (i := 3) (v := .pointer (some ⟨p.D, 0, none⟩)) rfl rfl (by kernel_rfl) (by kernel_rfl) (by kernel_rfl) (fun _ _ _ h => h) (Or.inl ⟨by rfl, fun w hSw => by skip; go_simp⟩) hS ?_
    simp only [List.setIfInBounds_toArray, List.set_cons_zero, List.set_cons_succ]
    refine tkd (i := 4) (v := .pointer (some ⟨p.D, 11, none⟩)) rfl rfl (by kernel_rfl) (by kernel_rfl) (by kernel_rfl) (fun _ _ _ h => h) (Or.inl ⟨by rfl, fun w hSw => by skip; go_simp⟩) hS ?_
    simp only [List.setIfInBounds_toArray, List.set_cons_zero, List.set_cons_succ]
    refine tkd (i := 5) (v := .pointer (some ⟨p.D, 11 + A, none⟩)) rfl rfl (by kernel_rfl) (by kernel_rfl) (by kernel_rfl) (fun _ _ _ h => h) (Or.inl ⟨by rfl, fun w hSw => by have y : (A : Int) < 8 := (by omega); go_simp⟩) hS ?_
    simp only [List.setIfInBounds_toArray, List.set_cons_zero, List.set_cons_succ]
    refine tkd (i := 6) (v := .pointer (some ⟨p.D, 0, none⟩)) rfl rfl (by kernel_rfl) (by kernel_rfl) (by kernel_rfl) (fun _ _ _ h => h) (Or.inl ⟨by rfl, fun w hSw => by skip; go_simp⟩) hS ?_
    simp only [List.setIfInBounds_toArray, List.set_cons_zero, List.set_cons_succ]
    refine tkd (i := 7) (v := .pointer (some ⟨X, 2, none⟩)) rfl rfl (by kernel_rfl) (by kernel_rfl) (by kernel_rfl) (fun _ _ _ h => h) (Or.inl ⟨by rfl, fun w hSw => by skip; go_simp⟩) hS ?_
    simp only [List.setIfInBounds_toArray, List.set_cons_zero, List.set_cons_succ]
    refine tkd (i := 8) (v := .int .i64 B) rfl rfl (by kernel_rfl) (by kernel_rfl) (by kernel_rfl) (fun _ _ _ h => h) (Or.inl ⟨by rfl, fun w hSw => by have z := hSw.2.cell 2 rfl; go_simp⟩) hS ?_
    simp only [List.setIfInBounds_toArray, List.set_cons_zero, List.set_cons_succ]
    refine tkd (i := 9) (v := .pointer (some ⟨p.D, 0, none⟩)) rfl rfl (by kernel_rfl) (by kernel_rfl) (by kernel_rfl) (fun _ _ _ h => h) (Or.inl ⟨by rfl, fun w hSw => by skip; go_simp⟩) hS ?_
    simp only [List.setIfInBounds_toArray, List.set_cons_zero, List.set_cons_succ]
    refine tkd (i := 10) (v := .pointer (some ⟨p.D, 11, none⟩)) rfl rfl (by kernel_rfl) (by kernel_rfl) (by kernel_rfl) (fun _ _ _ h => h) (Or.inl ⟨by rfl, fun w hSw => by skip; go_simp⟩) hS ?_
    simp only [List.setIfInBounds_toArray, List.set_cons_zero, List.set_cons_succ]
    refine tkd (i := 11) (v := .pointer (some ⟨p.D, 11 + B, none⟩)) rfl rfl (by kernel_rfl) (by kernel_rfl) (by kernel_rfl) (fun _ _ _ h => h) (Or.inl ⟨by rfl, fun w hSw => by have y : (B : Int) < 8 := (by omega); go_simp⟩) hS ?_
    simp only [List.setIfInBounds_toArray, List.set_cons_zero, List.set_cons_succ]
    refine tkd (i := 12) (v := intV (s.regs.getD B 0)) rfl rfl (by kernel_rfl) (by kernel_rfl) (by kernel_rfl) (fun _ _ _ h => h) (Or.inl ⟨by rfl, fun w hSw => by have z := hSw.1.reg B hB; go_simp⟩) hS ?_
    simp only [List.setIfInBounds_toArray, List.set_cons_zero, List.set_cons_succ]
    refine tkd (i := 13) (v := .pointer (some ⟨p.D, 11 + A, none⟩)) rfl rfl (by kernel_rfl) (by kernel_rfl) (by kernel_rfl) (fun _ _ _ h => h) (Or.inl ⟨by rfl, fun w hSw => by skip; go_simp⟩) hS ?_
    simp only [List.setIfInBounds_toArray, List.set_cons_zero, List.set_cons_succ]
    refine tkd (i := 14) (v := intV (s.regs.getD B 0)) rfl rfl (by kernel_rfl) (by kernel_rfl) (by kernel_rfl) (fun _ _ _ h => h) (Or.inl ⟨by rfl, fun w hSw => by skip; go_simp⟩) hS ?_
    simp only [List.setIfInBounds_toArray, List.set_cons_zero, List.set_cons_succ]
    refine wpAnyH_done (by kernel_rfl) ?_ _
    clear hS
    have hlt := hM.lt
    have hXlt := hX.lt
    have x0 := hX.cell 0 rfl
    have x3 := hX.cell 3 rfl
    have x4 := hX.cell 4 rfl
    have rA := hM.reg A hA
    have fA := hM.fz (11 + A)
    generalize hb : s.regs.getD B 0 = b at *
    generalize ha : s.regs.getD A 0 = a at *
    subst h0
    have m10 := hM.cells.2.2.2.2.2.2.2.2.2.2
    have f10 := hM.fz 10
    go_wp2
    go_end0
    exact Act1.go vs (hM.setNext n)
  · rw [if_neg h0]
    have hbx := BoxC.new w #[.int .i64 9, .int .i64 A, .int .i64 B, .int .i64 C, .int .i64 n] 46
    have hM := (h.below ((Below.refl _ _).alloc (Nat.le_refl _) (.cells #[.int .i64 9, .int .i64 A, .int .i64 B, .int .i64 C, .int .i64 n] 46))).drew
    have hX := hbx.below (Below.refl _ _).drew
    have hBD : w.heap.size ≠ p.D := by have := h.lt; omega
    have c46 : Try.prog.cellsOf 46 = 5 := by kernel_rfl
    go_enter Try.func17, Try.ntmps17
    go_wp2
    have hS : MS p w0 vs s (w.alloc (.cells #[.int .i64 9, .int .i64 A, .int .i64 B, .int .i64 C, .int .i64 n] 46)).drew ∧ BoxC (w.alloc (.cells #[.int .i64 9, .int .i64 A, .int .i64 B, .int .i64 C, .int .i64 n] 46)).drew w.heap.size #[.int .i64 9, .int .i64 A, .int .i64 B, .int .i64 C, .int .i64 n] 46 := ⟨hM, hX⟩
    refine wp_region_held_drew (S := fun W => MS p w0 vs s W ∧ BoxC W w.heap.size #[.int .i64 9, .int .i64 A, .int .i64 B, .int .i64 C, .int .i64 n] 46) (by kernel_rfl) hS (fun hHeld => ?_)
    clear hHeld hbx h
    generalize (w.alloc (.cells #[.int .i64 9, .int .i64 A, .int .i64 B, .int .i64 C, .int .i64 n] 46)).drew = W at *
    generalize w.heap.size = X at *
    refine tkd (i := 0) (v := .pointer (some ⟨p.D, 0, none⟩)) rfl rfl (by kernel_rfl) (by kernel_rfl) (by kernel_rfl) (fun _ _ _ h => h) (Or.inl ⟨by rfl, fun w hSw => by skip; go_simp⟩) hS ?_
    simp only [List.setIfInBounds_toArray, List.set_cons_zero, List.set_cons_succ]
    refine tkd (i := 1) (v := .pointer (some ⟨X, 1, none⟩)) rfl rfl (by kernel_rfl) (by kernel_rfl) (by kernel_rfl) (fun _ _ _ h => h) (Or.inl ⟨by rfl, fun w hSw => by skip; go_simp⟩) hS ?_
    simp only [List.setIfInBounds_toArray, List.set_cons_zero, List.set_cons_succ]
    refine tkd (i := 2) (v := .int .i64 A) rfl rfl (by kernel_rfl) (by kernel_rfl) (by kernel_rfl) (fun _ _ _ h => h) (Or.inl ⟨by rfl, fun w hSw => by have z := hSw.2.cell 1 rfl; go_simp⟩) hS ?_
    simp only [List.setIfInBounds_toArray, List.set_cons_zero, List.set_cons_succ]
    refine tkd (i := 3) (v := .pointer (some ⟨p.D, 0, none⟩)) rfl rfl (by kernel_rfl) (by kernel_rfl) (by kernel_rfl) (fun _ _ _ h => h) (Or.inl ⟨by rfl, fun w hSw => by skip; go_simp⟩) hS ?_
    simp only [List.setIfInBounds_toArray, List.set_cons_zero, List.set_cons_succ]
    refine tkd (i := 4) (v := .pointer (some ⟨p.D, 11, none⟩)) rfl rfl (by kernel_rfl) (by kernel_rfl) (by kernel_rfl) (fun _ _ _ h => h) (Or.inl ⟨by rfl, fun w hSw => by skip; go_simp⟩) hS ?_
    simp only [List.setIfInBounds_toArray, List.set_cons_zero, List.set_cons_succ]
    refine tkd (i := 5) (v := .pointer (some ⟨p.D, 11 + A, none⟩)) rfl rfl (by kernel_rfl) (by kernel_rfl) (by kernel_rfl) (fun _ _ _ h => h) (Or.inl ⟨by rfl, fun w hSw => by have y : (A : Int) < 8 := (by omega); go_simp⟩) hS ?_
    simp only [List.setIfInBounds_toArray, List.set_cons_zero, List.set_cons_succ]
    refine tkd (i := 6) (v := .pointer (some ⟨p.D, 0, none⟩)) rfl rfl (by kernel_rfl) (by kernel_rfl) (by kernel_rfl) (fun _ _ _ h => h) (Or.inl ⟨by rfl, fun w hSw => by skip; go_simp⟩) hS ?_
    simp only [List.setIfInBounds_toArray, List.set_cons_zero, List.set_cons_succ]
    refine tkd (i := 7) (v := .pointer (some ⟨X, 2, none⟩)) rfl rfl (by kernel_rfl) (by kernel_rfl) (by kernel_rfl) (fun _ _ _ h => h) (Or.inl ⟨by rfl, fun w hSw => by skip; go_simp⟩) hS ?_
    simp only [List.setIfInBounds_toArray, List.set_cons_zero, List.set_cons_succ]
    refine tkd (i := 8) (v := .int .i64 B) rfl rfl (by kernel_rfl) (by kernel_rfl) (by kernel_rfl) (fun _ _ _ h => h) (Or.inl ⟨by rfl, fun w hSw => by have z := hSw.2.cell 2 rfl; go_simp⟩) hS ?_
    simp only [List.setIfInBounds_toArray, List.set_cons_zero, List.set_cons_succ]
    refine tkd (i := 9) (v := .pointer (some ⟨p.D, 0, none⟩)) rfl rfl (by kernel_rfl) (by kernel_rfl) (by kernel_rfl) (fun _ _ _ h => h) (Or.inl ⟨by rfl, fun w hSw => by skip; go_simp⟩) hS ?_
    simp only [List.setIfInBounds_toArray, List.set_cons_zero, List.set_cons_succ]
    refine tkd (i := 10) (v := .pointer (some ⟨p.D, 11, none⟩)) rfl rfl (by kernel_rfl) (by kernel_rfl) (by kernel_rfl) (fun _ _ _ h => h) (Or.inl ⟨by rfl, fun w hSw => by skip; go_simp⟩) hS ?_
    simp only [List.setIfInBounds_toArray, List.set_cons_zero, List.set_cons_succ]
    refine tkd (i := 11) (v := .pointer (some ⟨p.D, 11 + B, none⟩)) rfl rfl (by kernel_rfl) (by kernel_rfl) (by kernel_rfl) (fun _ _ _ h => h) (Or.inl ⟨by rfl, fun w hSw => by have y : (B : Int) < 8 := (by omega); go_simp⟩) hS ?_
    simp only [List.setIfInBounds_toArray, List.set_cons_zero, List.set_cons_succ]
    refine tkd (i := 12) (v := intV (s.regs.getD B 0)) rfl rfl (by kernel_rfl) (by kernel_rfl) (by kernel_rfl) (fun _ _ _ h => h) (Or.inl ⟨by rfl, fun w hSw => by have z := hSw.1.reg B hB; go_simp⟩) hS ?_
    simp only [List.setIfInBounds_toArray, List.set_cons_zero, List.set_cons_succ]
    refine tkd (i := 13) (v := .pointer (some ⟨p.D, 11 + A, none⟩)) rfl rfl (by kernel_rfl) (by kernel_rfl) (by kernel_rfl) (fun _ _ _ h => h) (Or.inl ⟨by rfl, fun w hSw => by skip; go_simp⟩) hS ?_
    simp only [List.setIfInBounds_toArray, List.set_cons_zero, List.set_cons_succ]
    refine tkd (i := 14) (v := intV (s.regs.getD B 0)) rfl rfl (by kernel_rfl) (by kernel_rfl) (by kernel_rfl) (fun _ _ _ h => h) (Or.inl ⟨by rfl, fun w hSw => by skip; go_simp⟩) hS ?_
    simp only [List.setIfInBounds_toArray, List.set_cons_zero, List.set_cons_succ]
    refine wpAnyH_done (by kernel_rfl) ?_ _
    clear hS
    have hlt := hM.lt
    have hXlt := hX.lt
    have x0 := hX.cell 0 rfl
    have x3 := hX.cell 3 rfl
    have x4 := hX.cell 4 rfl
    have rA := hM.reg A hA
    have fA := hM.fz (11 + A)
    generalize hb : s.regs.getD B 0 = b at *
    generalize ha : s.regs.getD A 0 = a at *
    have h0' : (a == 0) = false := by simpa using h0
    clear h0
    go_wp2
    go_end0
    exact Act1.go vs hM
set_option maxHeartbeats 2000000 in
theorem do17 (h : MS p w0 vs s w) (A B C : Nat) (hA : A < 8) (hB : B < 8) (hC : C < 8) (n : Int) :
    Calls Try.prog 17 #[.pointer (some ⟨p.D, 0, none⟩), .agg #[.int .i64 17, .int .i64 A, .int .i64 B, .int .i64 C, .int .i64 n]] w (Act1 p w0 (some 1, s)) := by
  have hbx := BoxC.new w #[.int .i64 17, .int .i64 A, .int .i64 B, .int .i64 C, .int .i64 n] 46
  have hM := (h.below ((Below.refl _ _).alloc (Nat.le_refl _) (.cells #[.int .i64 17, .int .i64 A, .int .i64 B, .int .i64 C, .int .i64 n] 46))).drew
  have hX := hbx.below (Below.refl _ _).drew
  have hBD : w.heap.size ≠ p.D := by have := h.lt; omega
  have c46 : Try.prog.cellsOf 46 = 5 := by kernel_rfl
  go_enter Try.func17, Try.ntmps17
  go_wp2
  have hS : MS p w0 vs s (w.alloc (.cells #[.int .i64 17, .int .i64 A, .int .i64 B, .int .i64 C, .int .i64 n] 46)).drew ∧ BoxC (w.alloc (.cells #[.int .i64 17, .int .i64 A, .int .i64 B, .int .i64 C, .int .i64 n] 46)).drew w.heap.size #[.int .i64 17, .int .i64 A, .int .i64 B, .int .i64 C, .int .i64 n] 46 := ⟨hM, hX⟩
  refine wp_region_held_drew (S := fun W => MS p w0 vs s W ∧ BoxC W w.heap.size #[.int .i64 17, .int .i64 A, .int .i64 B, .int .i64 C, .int .i64 n] 46) (by kernel_rfl) hS (fun hHeld => ?_)
  clear hHeld hbx h
  generalize (w.alloc (.cells #[.int .i64 17, .int .i64 A, .int .i64 B, .int .i64 C, .int .i64 n] 46)).drew = W at *
  generalize w.heap.size = X at *
  refine tkd (i := 0) (v := .pointer (some ⟨p.D, 0, none⟩)) rfl rfl (by kernel_rfl) (by kernel_rfl) (by kernel_rfl) (fun _ _ _ h => h) (Or.inl ⟨by rfl, fun w hSw => by skip; go_simp⟩) hS ?_
  simp only [List.setIfInBounds_toArray, List.set_cons_zero, List.set_cons_succ]
  refine tkd (i := 1) (v := .pointer (some ⟨X, 1, none⟩)) rfl rfl (by kernel_rfl) (by kernel_rfl) (by kernel_rfl) (fun _ _ _ h => h) (Or.inl ⟨by rfl, fun w hSw => by skip; go_simp⟩) hS ?_
  simp only [List.setIfInBounds_toArray, List.set_cons_zero, List.set_cons_succ]
  refine tkd (i := 2) (v := .int .i64 A) rfl rfl (by kernel_rfl) (by kernel_rfl) (by kernel_rfl) (fun _ _ _ h => h) (Or.inl ⟨by rfl, fun w hSw => by have z := hSw.2.cell 1 rfl; go_simp⟩) hS ?_
  simp only [List.setIfInBounds_toArray, List.set_cons_zero, List.set_cons_succ]
  refine tkd (i := 3) (v := .pointer (some ⟨p.D, 0, none⟩)) rfl rfl (by kernel_rfl) (by kernel_rfl) (by kernel_rfl) (fun _ _ _ h => h) (Or.inl ⟨by rfl, fun w hSw => by skip; go_simp⟩) hS ?_
  simp only [List.setIfInBounds_toArray, List.set_cons_zero, List.set_cons_succ]
  refine tkd (i := 4) (v := .pointer (some ⟨p.D, 11, none⟩)) rfl rfl (by kernel_rfl) (by kernel_rfl) (by kernel_rfl) (fun _ _ _ h => h) (Or.inl ⟨by rfl, fun w hSw => by skip; go_simp⟩) hS ?_
  simp only [List.setIfInBounds_toArray, List.set_cons_zero, List.set_cons_succ]
  refine tkd (i := 5) (v := .pointer (some ⟨p.D, 11 + A, none⟩)) rfl rfl (by kernel_rfl) (by kernel_rfl) (by kernel_rfl) (fun _ _ _ h => h) (Or.inl ⟨by rfl, fun w hSw => by have y : (A : Int) < 8 := (by omega); go_simp⟩) hS ?_
  simp only [List.setIfInBounds_toArray, List.set_cons_zero, List.set_cons_succ]
  refine tkd (i := 6) (v := .pointer (some ⟨p.D, 0, none⟩)) rfl rfl (by kernel_rfl) (by kernel_rfl) (by kernel_rfl) (fun _ _ _ h => h) (Or.inl ⟨by rfl, fun w hSw => by skip; go_simp⟩) hS ?_
  simp only [List.setIfInBounds_toArray, List.set_cons_zero, List.set_cons_succ]
  refine tkd (i := 7) (v := .pointer (some ⟨X, 2, none⟩)) rfl rfl (by kernel_rfl) (by kernel_rfl) (by kernel_rfl) (fun _ _ _ h => h) (Or.inl ⟨by rfl, fun w hSw => by skip; go_simp⟩) hS ?_
  simp only [List.setIfInBounds_toArray, List.set_cons_zero, List.set_cons_succ]
  refine tkd (i := 8) (v := .int .i64 B) rfl rfl (by kernel_rfl) (by kernel_rfl) (by kernel_rfl) (fun _ _ _ h => h) (Or.inl ⟨by rfl, fun w hSw => by have z := hSw.2.cell 2 rfl; go_simp⟩) hS ?_
  simp only [List.setIfInBounds_toArray, List.set_cons_zero, List.set_cons_succ]
  refine tkd (i := 9) (v := .pointer (some ⟨p.D, 0, none⟩)) rfl rfl (by kernel_rfl) (by kernel_rfl) (by kernel_rfl) (fun _ _ _ h => h) (Or.inl ⟨by rfl, fun w hSw => by skip; go_simp⟩) hS ?_
  simp only [List.setIfInBounds_toArray, List.set_cons_zero, List.set_cons_succ]
  refine tkd (i := 10) (v := .pointer (some ⟨p.D, 11, none⟩)) rfl rfl (by kernel_rfl) (by kernel_rfl) (by kernel_rfl) (fun _ _ _ h => h) (Or.inl ⟨by rfl, fun w hSw => by skip; go_simp⟩) hS ?_
  simp only [List.setIfInBounds_toArray, List.set_cons_zero, List.set_cons_succ]
  refine tkd (i := 11) (v := .pointer (some ⟨p.D, 11 + B, none⟩)) rfl rfl (by kernel_rfl) (by kernel_rfl) (by kernel_rfl) (fun _ _ _ h => h) (Or.inl ⟨by rfl, fun w hSw => by have y : (B : Int) < 8 := (by omega); go_simp⟩) hS ?_
  simp only [List.setIfInBounds_toArray, List.set_cons_zero, List.set_cons_succ]
  refine tkd (i := 12) (v := intV (s.regs.getD B 0)) rfl rfl (by kernel_rfl) (by kernel_rfl) (by kernel_rfl) (fun _ _ _ h => h) (Or.inl ⟨by rfl, fun w hSw => by have z := hSw.1.reg B hB; go_simp⟩) hS ?_
  simp only [List.setIfInBounds_toArray, List.set_cons_zero, List.set_cons_succ]
  refine tkd (i := 13) (v := .pointer (some ⟨p.D, 11 + A, none⟩)) rfl rfl (by kernel_rfl) (by kernel_rfl) (by kernel_rfl) (fun _ _ _ h => h) (Or.inl ⟨by rfl, fun w hSw => by skip; go_simp⟩) hS ?_
  simp only [List.setIfInBounds_toArray, List.set_cons_zero, List.set_cons_succ]
  refine tkd (i := 14) (v := intV (s.regs.getD B 0)) rfl rfl (by kernel_rfl) (by kernel_rfl) (by kernel_rfl) (fun _ _ _ h => h) (Or.inl ⟨by rfl, fun w hSw => by skip; go_simp⟩) hS ?_
  simp only [List.setIfInBounds_toArray, List.set_cons_zero, List.set_cons_succ]
  refine wpAnyH_done (by kernel_rfl) ?_ _
  clear hS
  have hlt := hM.lt
  have hXlt := hX.lt
  have x0 := hX.cell 0 rfl
  have x3 := hX.cell 3 rfl
  have x4 := hX.cell 4 rfl
  have rA := hM.reg A hA
  have fA := hM.fz (11 + A)
  generalize hb : s.regs.getD B 0 = b at *
  generalize ha : s.regs.getD A 0 = a at *
  go_wp2
  exact ⟨rfl, Act1.end vs hM⟩
set_option maxHeartbeats 2000000 in
theorem do11 (h : MS p w0 vs s w) (A B C : Nat) (hA : A < 8) (hB : B < 8) (hC : C < 8) (n : Nat) (hb : s.backs.length ≤ 30) :
    Calls Try.prog 17 #[.pointer (some ⟨p.D, 0, none⟩), .agg #[.int .i64 11, .int .i64 A, .int .i64 B, .int .i64 C, .int .i64 n]] w (Act1 p w0 (callF s n)) := by
  have hK := hb
  clear hb
  generalize hr : callF s n = r
  have hbx := BoxC.new w #[.int .i64 11, .int .i64 A, .int .i64 B, .int .i64 C, .int .i64 n] 46
  have hM := (h.below ((Below.refl _ _).alloc (Nat.le_refl _) (.cells #[.int .i64 11, .int .i64 A, .int .i64 B, .int .i64 C, .int .i64 n] 46))).drew
  have hX := hbx.below (Below.refl _ _).drew
  have hBD : w.heap.size ≠ p.D := by have := h.lt; omega
  have c46 : Try.prog.cellsOf 46 = 5 := by kernel_rfl
  go_enter Try.func17, Try.ntmps17
  go_wp2
  have hS : MS p w0 vs s (w.alloc (.cells #[.int .i64 11, .int .i64 A, .int .i64 B, .int .i64 C, .int .i64 n] 46)).drew ∧ BoxC (w.alloc (.cells #[.int .i64 11, .int .i64 A, .int .i64 B, .int .i64 C, .int .i64 n] 46)).drew w.heap.size #[.int .i64 11, .int .i64 A, .int .i64 B, .int .i64 C, .int .i64 n] 46 := ⟨hM, hX⟩
  refine wp_region_held_drew (S := fun W => MS p w0 vs s W ∧ BoxC W w.heap.size #[.int .i64 11, .int .i64 A, .int .i64 B, .int .i64 C, .int .i64 n] 46) (by kernel_rfl) hS (fun hHeld => ?_)
  clear hHeld hbx h
  generalize (w.alloc (.cells #[.int .i64 11, .int .i64 A, .int .i64 B, .int .i64 C, .int .i64 n] 46)).drew = W at *
  generalize w.heap.size = X at *
  refine tkd (i := 0) (v := .pointer (some ⟨p.D, 0, none⟩)) rfl rfl (by kernel_rfl) (by kernel_rfl) (by kernel_rfl) (fun _ _ _ h => h) (Or.inl ⟨by rfl, fun w hSw => by skip; go_simp⟩) hS ?_
  simp only [List.setIfInBounds_toArray, List.set_cons_zero, List.set_cons_succ]
  refine tkd (i := 1) (v := .pointer (some ⟨X, 1, none⟩)) rfl rfl (by kernel_rfl) (by kernel_rfl) (by kernel_rfl) (fun _ _ _ h => h) (Or.inl ⟨by rfl, fun w hSw => by skip; go_simp⟩) hS ?_
  simp only [List.setIfInBounds_toArray, List.set_cons_zero, List.set_cons_succ]
  refine tkd (i := 2) (v := .int .i64 A) rfl rfl (by kernel_rfl) (by kernel_rfl) (by kernel_rfl) (fun _ _ _ h => h) (Or.inl ⟨by rfl, fun w hSw => by have z := hSw.2.cell 1 rfl; go_simp⟩) hS ?_
  simp only [List.setIfInBounds_toArray, List.set_cons_zero, List.set_cons_succ]
  refine tkd (i := 3) (v := .pointer (some ⟨p.D, 0, none⟩)) rfl rfl (by kernel_rfl) (by kernel_rfl) (by kernel_rfl) (fun _ _ _ h => h) (Or.inl ⟨by rfl, fun w hSw => by skip; go_simp⟩) hS ?_
  simp only [List.setIfInBounds_toArray, List.set_cons_zero, List.set_cons_succ]
  refine tkd (i := 4) (v := .pointer (some ⟨p.D, 11, none⟩)) rfl rfl (by kernel_rfl) (by kernel_rfl) (by kernel_rfl) (fun _ _ _ h => h) (Or.inl ⟨by rfl, fun w hSw => by skip; go_simp⟩) hS ?_
  simp only [List.setIfInBounds_toArray, List.set_cons_zero, List.set_cons_succ]
  refine tkd (i := 5) (v := .pointer (some ⟨p.D, 11 + A, none⟩)) rfl rfl (by kernel_rfl) (by kernel_rfl) (by kernel_rfl) (fun _ _ _ h => h) (Or.inl ⟨by rfl, fun w hSw => by have y : (A : Int) < 8 := (by omega); go_simp⟩) hS ?_
  simp only [List.setIfInBounds_toArray, List.set_cons_zero, List.set_cons_succ]
  refine tkd (i := 6) (v := .pointer (some ⟨p.D, 0, none⟩)) rfl rfl (by kernel_rfl) (by kernel_rfl) (by kernel_rfl) (fun _ _ _ h => h) (Or.inl ⟨by rfl, fun w hSw => by skip; go_simp⟩) hS ?_
  simp only [List.setIfInBounds_toArray, List.set_cons_zero, List.set_cons_succ]
  refine tkd (i := 7) (v := .pointer (some ⟨X, 2, none⟩)) rfl rfl (by kernel_rfl) (by kernel_rfl) (by kernel_rfl) (fun _ _ _ h => h) (Or.inl ⟨by rfl, fun w hSw => by skip; go_simp⟩) hS ?_
  simp only [List.setIfInBounds_toArray, List.set_cons_zero, List.set_cons_succ]
  refine tkd (i := 8) (v := .int .i64 B) rfl rfl (by kernel_rfl) (by kernel_rfl) (by kernel_rfl) (fun _ _ _ h => h) (Or.inl ⟨by rfl, fun w hSw => by have z := hSw.2.cell 2 rfl; go_simp⟩) hS ?_
  simp only [List.setIfInBounds_toArray, List.set_cons_zero, List.set_cons_succ]
  refine tkd (i := 9) (v := .pointer (some ⟨p.D, 0, none⟩)) rfl rfl (by kernel_rfl) (by kernel_rfl) (by kernel_rfl) (fun _ _ _ h => h) (Or.inl ⟨by rfl, fun w hSw => by skip; go_simp⟩) hS ?_
  simp only [List.setIfInBounds_toArray, List.set_cons_zero, List.set_cons_succ]
  refine tkd (i := 10) (v := .pointer (some ⟨p.D, 11, none⟩)) rfl rfl (by kernel_rfl) (by kernel_rfl) (by kernel_rfl) (fun _ _ _ h => h) (Or.inl ⟨by rfl, fun w hSw => by skip; go_simp⟩) hS ?_
  simp only [List.setIfInBounds_toArray, List.set_cons_zero, List.set_cons_succ]
  refine tkd (i := 11) (v := .pointer (some ⟨p.D, 11 + B, none⟩)) rfl rfl (by kernel_rfl) (by kernel_rfl) (by kernel_rfl) (fun _ _ _ h => h) (Or.inl ⟨by rfl, fun w hSw => by have y : (B : Int) < 8 := (by omega); go_simp⟩) hS ?_
  simp only [List.setIfInBounds_toArray, List.set_cons_zero, List.set_cons_succ]
  refine tkd (i := 12) (v := intV (s.regs.getD B 0)) rfl rfl (by kernel_rfl) (by kernel_rfl) (by kernel_rfl) (fun _ _ _ h => h) (Or.inl ⟨by rfl, fun w hSw => by have z := hSw.1.reg B hB; go_simp⟩) hS ?_
  simp only [List.setIfInBounds_toArray, List.set_cons_zero, List.set_cons_succ]
  refine tkd (i := 13) (v := .pointer (some ⟨p.D, 11 + A, none⟩)) rfl rfl (by kernel_rfl) (by kernel_rfl) (by kernel_rfl) (fun _ _ _ h => h) (Or.inl ⟨by rfl, fun w hSw => by skip; go_simp⟩) hS ?_
  simp only [List.setIfInBounds_toArray, List.set_cons_zero, List.set_cons_succ]
  refine tkd (i := 14) (v := intV (s.regs.getD B 0)) rfl rfl (by kernel_rfl) (by kernel_rfl) (by kernel_rfl) (fun _ _ _ h => h) (Or.inl ⟨by rfl, fun w hSw => by skip; go_simp⟩) hS ?_
  simp only [List.setIfInBounds_toArray, List.set_cons_zero, List.set_cons_succ]
  refine wpAnyH_done (by kernel_rfl) ?_ _
  clear hS
  have hlt := hM.lt
  have hXlt := hX.lt
  have x0 := hX.cell 0 rfl
  have x3 := hX.cell 3 rfl
  have x4 := hX.cell 4 rfl
  have rA := hM.reg A hA
  have fA := hM.fz (11 + A)
  generalize hb : s.regs.getD B 0 = b at *
  generalize ha : s.regs.getD A 0 = a at *
  have hc := oCall hM hK n
  rw [hr] at hc
  go_wp2_with (fail)
  refine hc.mono ?_
  obtain ⟨o, s'⟩ := r
  rintro e w1 ⟨vs', hM1, he⟩
  cases o with
  | none =>
    obtain rfl := he
    go_wp2
    go_end0
    exact Act1.go vs' hM1
  | some k =>
    obtain rfl := he
    go_wp2
    exact ⟨rfl, Act1.end vs' hM1⟩
set_option maxHeartbeats 2000000 in
theorem do12 (h : MS p w0 vs s w) (A B C : Nat) (hA : A < 8) (hB : B < 8) (hC : C < 8) (n : Int) (hb : s.backs.length ≤ 30) :
    Calls Try.prog 17 #[.pointer (some ⟨p.D, 0, none⟩), .agg #[.int .i64 12, .int .i64 A, .int .i64 B, .int .i64 C, .int .i64 n]] w (Act1 p w0 (backF s)) := by
  have hK := hb
  clear hb
  generalize hr : backF s = r
  have hbx := BoxC.new w #[.int .i64 12, .int .i64 A, .int .i64 B, .int .i64 C, .int .i64 n] 46
  have hM := (h.below ((Below.refl _ _).alloc (Nat.le_refl _) (.cells #[.int .i64 12, .int .i64 A, .int .i64 B, .int .i64 C, .int .i64 n] 46))).drew
  have hX := hbx.below (Below.refl _ _).drew
  have hBD : w.heap.size ≠ p.D := by have := h.lt; omega
  have c46 : Try.prog.cellsOf 46 = 5 := by kernel_rfl
  go_enter Try.func17, Try.ntmps17
  go_wp2
  have hS : MS p w0 vs s (w.alloc (.cells #[.int .i64 12, .int .i64 A, .int .i64 B, .int .i64 C, .int .i64 n] 46)).drew ∧ BoxC (w.alloc (.cells #[.int .i64 12, .int .i64 A, .int .i64 B, .int .i64 C, .int .i64 n] 46)).drew w.heap.size #[.int .i64 12, .int .i64 A, .int .i64 B, .int .i64 C, .int .i64 n] 46 := ⟨hM, hX⟩
  refine wp_region_held_drew (S := fun W => MS p w0 vs s W ∧ BoxC W w.heap.size #[.int .i64 12, .int .i64 A, .int .i64 B, .int .i64 C, .int .i64 n] 46) (by kernel_rfl) hS (fun hHeld => ?_)
  clear hHeld hbx h
  generalize (w.alloc (.cells #[.int .i64 12, .int .i64 A, .int .i64 B, .int .i64 C, .int .i64 n] 46)).drew = W at *
  generalize w.heap.size = X at *
  refine tkd (i := 0) (v := .pointer (some ⟨p.D, 0, none⟩)) rfl rfl (by kernel_rfl) (by kernel_rfl) (by kernel_rfl) (fun _ _ _ h => h) (Or.inl ⟨by rfl, fun w hSw => by skip; go_simp⟩) hS ?_
  simp only [List.setIfInBounds_toArray, List.set_cons_zero, List.set_cons_succ]
  refine tkd (i := 1) (v := .pointer (some ⟨X, 1, none⟩)) rfl rfl (by kernel_rfl) (by kernel_rfl) (by kernel_rfl) (fun _ _ _ h => h) (Or.inl ⟨by rfl, fun w hSw => by skip; go_simp⟩) hS ?_
  simp only [List.setIfInBounds_toArray, List.set_cons_zero, List.set_cons_succ]
  refine tkd (i := 2) (v := .int .i64 A) rfl rfl (by kernel_rfl) (by kernel_rfl) (by kernel_rfl) (fun _ _ _ h => h) (Or.inl ⟨by rfl, fun w hSw => by have z := hSw.2.cell 1 rfl; go_simp⟩) hS ?_
  simp only [List.setIfInBounds_toArray, List.set_cons_zero, List.set_cons_succ]
  refine tkd (i := 3) (v := .pointer (some ⟨p.D, 0, none⟩)) rfl rfl (by kernel_rfl) (by kernel_rfl) (by kernel_rfl) (fun _ _ _ h => h) (Or.inl ⟨by rfl, fun w hSw => by skip; go_simp⟩) hS ?_
  simp only [List.setIfInBounds_toArray, List.set_cons_zero, List.set_cons_succ]
  refine tkd (i := 4) (v := .pointer (some ⟨p.D, 11, none⟩)) rfl rfl (by kernel_rfl) (by kernel_rfl) (by kernel_rfl) (fun _ _ _ h => h) (Or.inl ⟨by rfl, fun w hSw => by skip; go_simp⟩) hS ?_
  simp only [List.setIfInBounds_toArray, List.set_cons_zero, List.set_cons_succ]
  refine tkd (i := 5) (v := .pointer (some ⟨p.D, 11 + A, none⟩)) rfl rfl (by kernel_rfl) (by kernel_rfl) (by kernel_rfl) (fun _ _ _ h => h) (Or.inl ⟨by rfl, fun w hSw => by have y : (A : Int) < 8 := (by omega); go_simp⟩) hS ?_
  simp only [List.setIfInBounds_toArray, List.set_cons_zero, List.set_cons_succ]
  refine tkd (i := 6) (v := .pointer (some ⟨p.D, 0, none⟩)) rfl rfl (by kernel_rfl) (by kernel_rfl) (by kernel_rfl) (fun _ _ _ h => h) (Or.inl ⟨by rfl, fun w hSw => by skip; go_simp⟩) hS ?_
  simp only [List.setIfInBounds_toArray, List.set_cons_zero, List.set_cons_succ]
  refine tkd (i := 7) (v := .pointer (some ⟨X, 2, none⟩)) rfl rfl (by kernel_rfl) (by kernel_rfl) (by kernel_rfl) (fun _ _ _ h => h) (Or.inl ⟨by rfl, fun w hSw => by skip; go_simp⟩) hS ?_
  simp only [List.setIfInBounds_toArray, List.set_cons_zero, List.set_cons_succ]
  refine tkd (i := 8) (v := .int .i64 B) rfl rfl (by kernel_rfl) (by kernel_rfl) (by kernel_rfl) (fun _ _ _ h => h) (Or.inl ⟨by rfl, fun w hSw => by have z := hSw.2.cell 2 rfl; go_simp⟩) hS ?_
  simp only [List.setIfInBounds_toArray, List.set_cons_zero, List.set_cons_succ]
  refine tkd (i := 9) (v := .pointer (some ⟨p.D, 0, none⟩)) rfl rfl (by kernel_rfl) (by kernel_rfl) (by kernel_rfl) (fun _ _ _ h => h) (Or.inl ⟨by rfl, fun w hSw => by skip; go_simp⟩) hS ?_
  simp only [List.setIfInBounds_toArray, List.set_cons_zero, List.set_cons_succ]
  refine tkd (i := 10) (v := .pointer (some ⟨p.D, 11, none⟩)) rfl rfl (by kernel_rfl) (by kernel_rfl) (by kernel_rfl) (fun _ _ _ h => h) (Or.inl ⟨by rfl, fun w hSw => by skip; go_simp⟩) hS ?_
  simp only [List.setIfInBounds_toArray, List.set_cons_zero, List.set_cons_succ]
  refine tkd (i := 11) (v := .pointer (some ⟨p.D, 11 + B, none⟩)) rfl rfl (by kernel_rfl) (by kernel_rfl) (by kernel_rfl) (fun _ _ _ h => h) (Or.inl ⟨by rfl, fun w hSw => by have y : (B : Int) < 8 := (by omega); go_simp⟩) hS ?_
  simp only [List.setIfInBounds_toArray, List.set_cons_zero, List.set_cons_succ]
  refine tkd (i := 12) (v := intV (s.regs.getD B 0)) rfl rfl (by kernel_rfl) (by kernel_rfl) (by kernel_rfl) (fun _ _ _ h => h) (Or.inl ⟨by rfl, fun w hSw => by have z := hSw.1.reg B hB; go_simp⟩) hS ?_
  simp only [List.setIfInBounds_toArray, List.set_cons_zero, List.set_cons_succ]
  refine tkd (i := 13) (v := .pointer (some ⟨p.D, 11 + A, none⟩)) rfl rfl (by kernel_rfl) (by kernel_rfl) (by kernel_rfl) (fun _ _ _ h => h) (Or.inl ⟨by rfl, fun w hSw => by skip; go_simp⟩) hS ?_
  simp only [List.setIfInBounds_toArray, List.set_cons_zero, List.set_cons_succ]
  refine tkd (i := 14) (v := intV (s.regs.getD B 0)) rfl rfl (by kernel_rfl) (by kernel_rfl) (by kernel_rfl) (fun _ _ _ h => h) (Or.inl ⟨by rfl, fun w hSw => by skip; go_simp⟩) hS ?_
  simp only [List.setIfInBounds_toArray, List.set_cons_zero, List.set_cons_succ]
  refine wpAnyH_done (by kernel_rfl) ?_ _
  clear hS
  have hlt := hM.lt
  have hXlt := hX.lt
  have x0 := hX.cell 0 rfl
  have x3 := hX.cell 3 rfl
  have x4 := hX.cell 4 rfl
  have rA := hM.reg A hA
  have fA := hM.fz (11 + A)
  generalize hb : s.regs.getD B 0 = b at *
  generalize ha : s.regs.getD A 0 = a at *
  have hc := oBack hM hK
  rw [hr] at hc
  go_wp2_with (fail)
  refine hc.mono ?_
  obtain ⟨o, s'⟩ := r
  rintro e w1 ⟨vs', hM1, he⟩
  cases o with
  | none =>
    obtain rfl := he
    go_wp2
    go_end0
    exact Act1.go vs' hM1
  | some k =>
    obtain rfl := he
    go_wp2
    exact ⟨rfl, Act1.end vs' hM1⟩
set_option maxHeartbeats 2000000 in
theorem do15 (h : MS p w0 vs s w) (A B C : Nat) (hA : A < 8) (hB : B < 8) (hC : C < 8) (n : Int) (hi : IntsIn w0 p.il iL) (hw0 : w0.heap.size ≤ p.N) (hu : s.uL ≤ iL.length) (hn : iL.length ≤ 1000) :
    Calls Try.prog 17 #[.pointer (some ⟨p.D, 0, none⟩), .agg #[.int .i64 15, .int .i64 A, .int .i64 B, .int .i64 C, .int .i64 n]] w (Act1 p w0 (if s.uL = iL.length then (some 4, s) else (none, { s with uL := s.uL + 1, regs := s.regs.set A (iL.getD s.uL 0) }))) := by
  by_cases hf : s.uL = iL.length
  · rw [if_pos hf]
    have hbx := BoxC.new w #[.int .i64 15, .int .i64 A, .int .i64 B, .int .i64 C, .int .i64 n] 46
    have hM := (h.below ((Below.refl _ _).alloc (Nat.le_refl _) (.cells #[.int .i64 15, .int .i64 A, .int .i64 B, .int .i64 C, .int .i64 n] 46))).drew
    have hX := hbx.below (Below.refl _ _).drew
    have hBD : w.heap.size ≠ p.D := by have := h.lt; omega
    have c46 : Try.prog.cellsOf 46 = 5 := by kernel_rfl
    go_enter Try.func17, Try.ntmps17
    go_wp2
    have hS : MS p w0 vs s (w.alloc (.cells #[.int .i64 15, .int .i64 A, .int .i64 B, .int .i64 C, .int .i64 n] 46)).drew ∧ BoxC (w.alloc (.cells #[.int .i64 15, .int .i64 A, .int .i64 B, .int .i64 C, .int .i64 n] 46)).drew w.heap.size #[.int .i64 15, .int .i64 A, .int .i64 B, .int .i64 C, .int .i64 n] 46 := ⟨hM, hX⟩
    refine wp_region_held_drew (S := fun W => MS p w0 vs s W ∧ BoxC W w.heap.size #[.int .i64 15, .int .i64 A, .int .i64 B, .int .i64 C, .int .i64 n] 46) (by kernel_rfl) hS (fun hHeld => ?_)
    clear hHeld hbx h
    generalize (w.alloc (.cells #[.int .i64 15, .int .i64 A, .int .i64 B, .int .i64 C, .int .i64 n] 46)).drew = W at *
    generalize w.heap.size = X at *
    refine tkd (i := 0) (v := .pointer (some ⟨p.D, 0, none⟩)) rfl rfl (by kernel_rfl) (by kernel_rfl) (by kernel_rfl) (fun _ _ _ h => h) (Or.inl ⟨by rfl, fun w hSw => by skip; go_simp⟩) hS ?_
    simp only [List.setIfInBounds_toArray, List.set_cons_zero, List.set_cons_succ]
    refine tkd (i := 1) (v := .pointer (some ⟨X, 1, none⟩)) rfl rfl (by kernel_rfl) (by kernel_rfl) (by kernel_rfl) (fun _ _ _ h => h) (Or.inl ⟨by rfl, fun w hSw => by skip; go_simp⟩) hS ?_
    simp only [List.setIfInBounds_toArray, List.set_cons_zero, List.set_cons_succ]
    refine tkd (i := 2) (v := .int .i64 A) rfl rfl (by kernel_rfl) (by kernel_rfl) (by kernel_rfl) (fun _ _ _ h => h) (Or.inl ⟨by rfl, fun w hSw => by have z := hSw.2.cell 1 rfl; go_simp⟩) hS ?_
    simp only [List.setIfInBounds_toArray, List.set_cons_zero, List.set_cons_succ]
    refine tkd (i := 3) (v := .pointer (some ⟨p.D, 0, none⟩)) rfl rfl (by kernel_rfl) (by kernel_rfl) (by kernel_rfl) (fun _ _ _ h => h) (Or.inl ⟨by rfl, fun w hSw => by skip; go_simp⟩) hS ?_
    simp only [List.setIfInBounds_toArray, List.set_cons_zero, List.set_cons_succ]
    refine tkd (i := 4) (v := .pointer (some ⟨p.D, 11, none⟩)) rfl rfl (by kernel_rfl) (by kernel_rfl) (by kernel_rfl) (fun _ _ _ h => h) (Or.inl ⟨by rfl, fun w hSw => by skip; go_simp⟩) hS ?_
    simp only [List.setIfInBounds_toArray, List.set_cons_zero, List.set_cons_succ]
    refine tkd (i := 5) (v := .pointer (some ⟨p.D, 11 + A, none⟩)) rfl rfl (by kernel_rfl) (by kernel_rfl) (by kernel_rfl) (fun _ _ _ h => h) (Or.inl ⟨by rfl, fun w hSw => by have y : (A : Int) < 8 := (by omega); go_simp⟩) hS ?_
    simp only [List.setIfInBounds_toArray, List.set_cons_zero, List.set_cons_succ]
    refine tkd (i := 6) (v := .pointer (some ⟨p.D, 0, none⟩)) rfl rfl (by kernel_rfl) (by kernel_rfl) (by kernel_rfl) (fun _ _ _ h => h) (Or.inl ⟨by rfl, fun w hSw => by skip; go_simp⟩) hS ?_
    simp only [List.setIfInBounds_toArray, List.set_cons_zero, List.set_cons_succ]
    refine tkd (i := 7) (v := .pointer (some ⟨X, 2, none⟩)) rfl rfl (by kernel_rfl) (by kernel_rfl) (by kernel_rfl) (fun _ _ _ h => h) (Or.inl ⟨by rfl, fun w hSw => by skip; go_simp⟩) hS ?_
    simp only [List.setIfInBounds_toArray, List.set_cons_zero, List.set_cons_succ]
    refine tkd (i := 8) (v := .int .i64 B) rfl rfl (by kernel_rfl) (by kernel_rfl) (by kernel_rfl) (fun _ _ _ h => h) (Or.inl ⟨by rfl, fun w hSw => by have z := hSw.2.cell 2 rfl; go_simp⟩) hS ?_
    simp only [List.setIfInBounds_toArray, List.set_cons_zero, List.set_cons_succ]
    refine tkd (i := 9) (v := .pointer (some ⟨p.D, 0, none⟩)) rfl rfl (by kernel_rfl) (by kernel_rfl) (by kernel_rfl) (fun _ _ _ h => h) (Or.inl ⟨by rfl, fun w hSw => by skip; go_simp⟩) hS ?_
    simp only [List.setIfInBounds_toArray, List.set_cons_zero, List.set_cons_succ]
    refine tkd (i := 10) (v := .pointer (some ⟨p.D, 11, none⟩)) rfl rfl (by kernel_rfl) (by kernel_rfl) (by kernel_rfl) (fun _ _ _ h => h) (Or.inl ⟨by rfl, fun w hSw => by skip; go_simp⟩) hS ?_
    simp only [List.setIfInBounds_toArray, List.set_cons_zero, List.set_cons_succ]
    refine tkd (i := 11) (v := .pointer (some ⟨p.D, 11 + B, none⟩)) rfl rfl (by kernel_rfl) (by kernel_rfl) (by kernel_rfl) (fun _ _ _ h => h) (Or.inl ⟨by rfl, fun w hSw => by have y : (B : Int) < 8 := (by omega); go_simp⟩) hS ?_
    simp only [List.setIfInBounds_toArray, List.set_cons_zero, List.set_cons_succ]
    refine tkd (i := 12) (v := intV (s.regs.getD B 0)) rfl rfl (by kernel_rfl) (by kernel_rfl) (by kernel_rfl) (fun _ _ _ h => h) (Or.inl ⟨by rfl, fun w hSw => by have z := hSw.1.reg B hB; go_simp⟩) hS ?_
    simp only [List.setIfInBounds_toArray, List.set_cons_zero, List.set_cons_succ]
    refine tkd (i := 13) (v := .pointer (some ⟨p.D, 11 + A, none⟩)) rfl rfl (by kernel_rfl) (by kernel_rfl) (by kernel_rfl) (fun _ _ _ h => h) (Or.inl ⟨by rfl, fun w hSw => by skip; go_simp⟩) hS ?_
    simp only [List.setIfInBounds_toArray, List.set_cons_zero, List.set_cons_succ]
    refine tkd (i := 14) (v := intV (s.regs.getD B 0)) rfl rfl (by kernel_rfl) (by kernel_rfl) (by kernel_rfl) (fun _ _ _ h => h) (Or.inl ⟨by rfl, fun w hSw => by skip; go_simp⟩) hS ?_
    simp only [List.setIfInBounds_toArray, List.set_cons_zero, List.set_cons_succ]
    refine wpAnyH_done (by kernel_rfl) ?_ _
    clear hS
    have hlt := hM.lt
    have hXlt := hX.lt
    have x0 := hX.cell 0 rfl
    have x3 := hX.cell 3 rfl
    have x4 := hX.cell 4 rfl
    have rA := hM.reg A hA
    have fA := hM.fz (11 + A)
    generalize hb : s.regs.getD B 0 = b at *
    generalize ha : s.regs.getD A 0 = a at *
    have hc := oTakeL hM iL hi hw0 hu hn
    rw [if_pos hf] at hc
    clear hf
    go_wp2_with (fail)
    refine hc.mono ?_
    clear hc
    rintro e w1 ⟨vs', hM1, rfl⟩
    go_wp2
    exact ⟨rfl, Act1.end vs' hM1⟩
  · rw [if_neg hf]
    have hbx := BoxC.new w #[.int .i64 15, .int .i64 A, .int .i64 B, .int .i64 C, .int .i64 n] 46
    have hM := (h.below ((Below.refl _ _).alloc (Nat.le_refl _) (.cells #[.int .i64 15, .int .i64 A, .int .i64 B, .int .i64 C, .int .i64 n] 46))).drew
    have hX := hbx.below (Below.refl _ _).drew
    have hBD : w.heap.size ≠ p.D := by have := h.lt; omega
    have c46 : Try.prog.cellsOf 46 = 5 := by kernel_rfl
    go_enter Try.func17, Try.ntmps17
    go_wp2
    have hS : MS p w0 vs s (w.alloc (.cells #[.int .i64 15, .int .i64 A, .int .i64 B, .int .i64 C, .int .i64 n] 46)).drew ∧ BoxC (w.alloc (.cells #[.int .i64 15, .int .i64 A, .int .i64 B, .int .i64 C, .int .i64 n] 46)).drew w.heap.size #[.int .i64 15, .int .i64 A, .int .i64 B, .int .i64 C, .int .i64 n] 46 := ⟨hM, hX⟩
    refine wp_region_held_drew (S := fun W => MS p w0 vs s W ∧ BoxC W w.heap.size #[.int .i64 15, .int .i64 A, .int .i64 B, .int .i64 C, .int .i64 n] 46) (by kernel_rfl) hS (fun hHeld => ?_)
    clear hHeld hbx h
    generalize (w.alloc (.cells #[.int .i64 15, .int .i64 A, .int .i64 B, .int .i64 C, .int .i64 n] 46)).drew = W at *
    generalize w.heap.size = X at *
    refine tkd (i := 0) (v := .pointer (some ⟨p.D, 0, none⟩)) rfl rfl (by kernel_rfl) (by kernel_rfl) (by kernel_rfl) (fun _ _ _ h => h) (Or.inl ⟨by rfl, fun w hSw => by skip; go_simp⟩) hS ?_
    simp only [List.setIfInBounds_toArray, List.set_cons_zero, List.set_cons_succ]
    refine tkd (i := 1) (v := .pointer (some ⟨X, 1, none⟩)) rfl rfl (by kernel_rfl) (by kernel_rfl) (by kernel_rfl) (fun _ _ _ h => h) (Or.inl ⟨by rfl, fun w hSw => by skip; go_simp⟩) hS ?_
    simp only [List.setIfInBounds_toArray, List.set_cons_zero, List.set_cons_succ]
    refine tkd (i := 2) (v := .int .i64 A) rfl rfl (by kernel_rfl) (by kernel_rfl) (by kernel_rfl) (fun _ _ _ h => h) (Or.inl ⟨by rfl, fun w hSw => by have z := hSw.2.cell 1 rfl; go_simp⟩) hS ?_
    simp only [List.setIfInBounds_toArray, List.set_cons_zero, List.set_cons_succ]
    refine tkd (i := 3) (v := .pointer (some ⟨p.D, 0, none⟩)) rfl rfl (by kernel_rfl) (by kernel_rfl) (by kernel_rfl) (fun _ _ _ h => h) (Or.inl ⟨by rfl, fun w hSw => by skip; go_simp⟩) hS ?_
    simp only [List.setIfInBounds_toArray, List.set_cons_zero, List.set_cons_succ]
    refine tkd (i := 4) (v := .pointer (some ⟨p.D, 11, none⟩)) rfl rfl (by kernel_rfl) (by kernel_rfl) (by kernel_rfl) (fun _ _ _ h => h) (Or.inl ⟨by rfl, fun w hSw => by skip; go_simp⟩) hS ?_
    simp only [List.setIfInBounds_toArray, List.set_cons_zero, List.set_cons_succ]
    refine tkd (i := 5) (v := .pointer (some ⟨p.D, 11 + A, none⟩)) rfl rfl (by kernel_rfl) (by kernel_rfl) (by kernel_rfl) (fun _ _ _ h => h) (Or.inl ⟨by rfl, fun w hSw => by have y : (A : Int) < 8 := (by omega); go_simp⟩) hS ?_
    simp only [List.setIfInBounds_toArray, List.set_cons_zero, List.set_cons_succ]
    refine tkd (i := 6) (v := .pointer (some ⟨p.D, 0, none⟩)) rfl rfl (by kernel_rfl) (by kernel_rfl) (by kernel_rfl) (fun _ _ _ h => h) (Or.inl ⟨by rfl, fun w hSw => by skip; go_simp⟩) hS ?_
    simp only [List.setIfInBounds_toArray, List.set_cons_zero, List.set_cons_succ]
    refine tkd (i := 7) (v := .pointer (some ⟨X, 2, none⟩)) rfl rfl (by kernel_rfl) (by kernel_rfl) (by kernel_rfl) (fun _ _ _ h => h) (Or.inl ⟨by rfl, fun w hSw => by skip; go_simp⟩) hS ?_
    simp only [List.setIfInBounds_toArray, List.set_cons_zero, List.set_cons_succ]
    refine tkd (i := 8) (v := .int .i64 B) rfl rfl (by kernel_rfl) (by kernel_rfl) (by kernel_rfl) (fun _ _ _ h => h) (Or.inl ⟨by rfl, fun w hSw => by have z := hSw.2.cell 2 rfl; go_simp⟩) hS ?_
    simp only [List.setIfInBounds_toArray, List.set_cons_zero, List.set_cons_succ]
    refine tkd (i := 9) (v := .pointer (some ⟨p.D, 0, none⟩)) rfl rfl (by kernel_rfl) (by kernel_rfl) (by kernel_rfl) (fun _ _ _ h => h) (Or.inl ⟨by rfl, fun w hSw => by skip; go_simp⟩) hS ?_
    simp only [List.setIfInBounds_toArray, List.set_cons_zero, List.set_cons_succ]
    refine tkd (i := 10) (v := .pointer (some ⟨p.D, 11, none⟩)) rfl rfl (by kernel_rfl) (by kernel_rfl) (by kernel_rfl) (fun _ _ _ h => h) (Or.inl ⟨by rfl, fun w hSw => by skip; go_simp⟩) hS ?_
    simp only [List.setIfInBounds_toArray, List.set_cons_zero, List.set_cons_succ]
    refine tkd (i := 11) (v := .pointer (some ⟨p.D, 11 + B, none⟩)) rfl rfl (by kernel_rfl) (by kernel_rfl) (by kernel_rfl) (fun _ _ _ h => h) (Or.inl ⟨by rfl, fun w hSw => by have y : (B : Int) < 8 := (by omega); go_simp⟩) hS ?_
    simp only [List.setIfInBounds_toArray, List.set_cons_zero, List.set_cons_succ]
    refine tkd (i := 12) (v := intV (s.regs.getD B 0)) rfl rfl (by kernel_rfl) (by kernel_rfl) (by kernel_rfl) (fun _ _ _ h => h) (Or.inl ⟨by rfl, fun w hSw => by have z := hSw.1.reg B hB; go_simp⟩) hS ?_
    simp only [List.setIfInBounds_toArray, List.set_cons_zero, List.set_cons_succ]
    refine tkd (i := 13) (v := .pointer (some ⟨p.D, 11 + A, none⟩)) rfl rfl (by kernel_rfl) (by kernel_rfl) (by kernel_rfl) (fun _ _ _ h => h) (Or.inl ⟨by rfl, fun w hSw => by skip; go_simp⟩) hS ?_
    simp only [List.setIfInBounds_toArray, List.set_cons_zero, List.set_cons_succ]
    refine tkd (i := 14) (v := intV (s.regs.getD B 0)) rfl rfl (by kernel_rfl) (by kernel_rfl) (by kernel_rfl) (fun _ _ _ h => h) (Or.inl ⟨by rfl, fun w hSw => by skip; go_simp⟩) hS ?_
    simp only [List.setIfInBounds_toArray, List.set_cons_zero, List.set_cons_succ]
    refine wpAnyH_done (by kernel_rfl) ?_ _
    clear hS
    have hlt := hM.lt
    have hXlt := hX.lt
    have x0 := hX.cell 0 rfl
    have x3 := hX.cell 3 rfl
    have x4 := hX.cell 4 rfl
    have rA := hM.reg A hA
    have fA := hM.fz (11 + A)
    generalize hb : s.regs.getD B 0 = b at *
    generalize ha : s.regs.getD A 0 = a at *
    have hc := oTakeL hM iL hi hw0 hu hn
    rw [if_neg hf] at hc
    clear hf
    generalize iL.getD s.uL 0 = x at *
    go_wp2_with (fail)
    refine hc.mono ?_
    clear hc
    rintro e w1 ⟨vs', hM1, rfl⟩
    have hM1 : MS p w0 vs' { s with uL := s.uL + 1 } w1 := hM1
    have yA := hM1.reg A hA
    have gA := hM1.fz (11 + A)
    have hlt1 := hM1.lt
    clear rA fA x0 x3 x4
    go_wp2
    go_end0
    exact Act1.go vs' (hM1.setReg A hA x)
set_option maxHeartbeats 2000000 in
theorem do16 (h : MS p w0 vs s w) (A B C : Nat) (hA : A < 8) (hB : B < 8) (hC : C < 8) (n : Int) (la : Option Addr) (ln lc : Nat) (el : p.il = .slice la ln lc) (hi : IntsIn w0 p.ih iH) (hw0 : w0.heap.size ≤ p.N) (hu : s.uH ≤ iH.length) (hn : iH.length ≤ 1000) :
    Calls Try.prog 17 #[.pointer (some ⟨p.D, 0, none⟩), .agg #[.int .i64 16, .int .i64 A, .int .i64 B, .int .i64 C, .int .i64 n]] w (Act1 p w0 (if s.uH = iH.length then (some 4, s) else (none, { s with uH := s.uH + 1, regs := s.regs.set A (iH.getD s.uH 0) }))) := by
  by_cases hf : s.uH = iH.length
  · rw [if_pos hf]
    have hbx := BoxC.new w #[.int .i64 16, .int .i64 A, .int .i64 B, .int .i64 C, .int .i64 n] 46
    have hM := (h.below ((Below.refl _ _).alloc (Nat.le_refl _) (.cells #[.int .i64 16, .int .i64 A, .int .i64 B, .int .i64 C, .int .i64 n] 46))).drew
    have hX := hbx.below (Below.refl _ _).drew
    have hBD : w.heap.size ≠ p.D := by have := h.lt; omega
    have c46 : Try.prog.cellsOf 46 = 5 := by kernel_rfl
    go_enter Try.func17, Try.ntmps17
    go_wp2
    have hS : MS p w0 vs s (w.alloc (.cells #[.int .i64 16, .int .i64 A, .int .i64 B, .int .i64 C, .int .i64 n] 46)).drew ∧ BoxC (w.alloc (.cells #[.int .i64 16, .int .i64 A, .int .i64 B, .int .i64 C, .int .i64 n] 46)).drew w.heap.size #[.int .i64 16, .int .i64 A, .int .i64 B, .int .i64 C, .int .i64 n] 46 := ⟨hM, hX⟩
    refine wp_region_held_drew (S := fun W => MS p w0 vs s W ∧ BoxC W w.heap.size #[.int .i64 16, .int .i64 A, .int .i64 B, .int .i64 C, .int .i64 n] 46) (by kernel_rfl) hS (fun hHeld => ?_)
    clear hHeld hbx h
    generalize (w.alloc (.cells #[.int .i64 16, .int .i64 A, .int .i64 B, .int .i64 C, .int .i64 n] 46)).drew = W at *
    generalize w.heap.size = X at *
    refine tkd (i := 0) (v := .pointer (some ⟨p.D, 0, none⟩)) rfl rfl (by kernel_rfl) (by kernel_rfl) (by kernel_rfl) (fun _ _ _ h => h) (Or.inl ⟨by rfl, fun w hSw => by skip; go_simp⟩) hS ?_
    simp only [List.setIfInBounds_toArray, List.set_cons_zero, List.set_cons_succ]
    refine tkd (i := 1) (v := .pointer (some ⟨X, 1, none⟩)) rfl rfl (by kernel_rfl) (by kernel_rfl) (by kernel_rfl) (fun _ _ _ h => h) (Or.inl ⟨by rfl, fun w hSw => by skip; go_simp⟩) hS ?_
    simp only [List.setIfInBounds_toArray, List.set_cons_zero, List.set_cons_succ]
    refine tkd (i := 2) (v := .int .i64 A) rfl rfl (by kernel_rfl) (by kernel_rfl) (by kernel_rfl) (fun _ _ _ h => h) (Or.inl ⟨by rfl, fun w hSw => by have z := hSw.2.cell 1 rfl; go_simp⟩) hS ?_
    simp only [List.setIfInBounds_toArray, List.set_cons_zero, List.set_cons_succ]
    refine tkd (i := 3) (v := .pointer (some ⟨p.D, 0, none⟩)) rfl rfl (by kernel_rfl) (by kernel_rfl) (by kernel_rfl) (fun _ _ _ h => h) (Or.inl ⟨by rfl, fun w hSw => by skip; go_simp⟩) hS ?_
    simp only [List.setIfInBounds_toArray, List.set_cons_zero, List.set_cons_succ]
    refine tkd (i := 4) (v := .pointer (some ⟨p.D, 11, none⟩)) rfl rfl (by kernel_rfl) (by kernel_rfl) (by kernel_rfl) (fun _ _ _ h => h) (Or.inl ⟨by rfl, fun w hSw => by skip; go_simp⟩) hS ?_
    simp only [List.setIfInBounds_toArray, List.set_cons_zero, List.set_cons_succ]
    refine tkd (i := 5) (v := .pointer (some ⟨p.D, 11 + A, none⟩)) rfl rfl (by kernel_rfl) (by kernel_rfl) (by kernel_rfl) (fun _ _ _ h => h) (Or.inl ⟨by rfl, fun w hSw => by have y : (A : Int) < 8 := (by omega); go_simp⟩) hS ?_
    simp only [List.setIfInBounds_toArray, List.set_cons_zero, List.set_cons_succ]
    refine tkd (i := 6) (v := .pointer (some ⟨p.D, 0, none⟩)) rfl rfl (by kernel_rfl) (by kernel_rfl) (by kernel_rfl) (fun _ _ _ h => h) (Or.inl ⟨by rfl, fun w hSw => by skip; go_simp⟩) hS ?_
    simp only [List.setIfInBounds_toArray, List.set_cons_zero, List.set_cons_succ]
    refine tkd (i := 7) (v := .pointer (some ⟨X, 2, none⟩)) rfl rfl (by kernel_rfl) (by kernel_rfl) (by kernel_rfl) (fun _ _ _ h => h) (Or.inl ⟨by rfl, fun w hSw => by skip; go_simp⟩) hS ?_
    simp only [List.setIfInBounds_toArray, List.set_cons_zero, List.set_cons_succ]
    refine tkd (i := 8) (v := .int .i64 B) rfl rfl (by kernel_rfl) (by kernel_rfl) (by kernel_rfl) (fun _ _ _ h => h) (Or.inl ⟨by rfl, fun w hSw => by have z := hSw.2.cell 2 rfl; go_simp⟩) hS ?_
    simp only [List.setIfInBounds_toArray, List.set_cons_zero, List.set_cons_succ]
    refine tkd (i := 9) (v := .pointer (some ⟨p.D, 0, none⟩)) rfl rfl (by kernel_rfl) (by kernel_rfl) (by kernel_rfl) (fun _ _ _ h => h) (Or.inl ⟨by rfl, fun w hSw => by skip; go_simp⟩) hS ?_
    simp only [List.setIfInBounds_toArray, List.set_cons_zero, List.set_cons_succ]
    refine tkd (i := 10) (v := .pointer (some ⟨p.D, 11, none⟩)) rfl rfl (by kernel_rfl) (by kernel_rfl) (by kernel_rfl) (fun _ _ _ h => h) (Or.inl ⟨by rfl, fun w hSw => by skip; go_simp⟩) hS ?_
    simp only [List.setIfInBounds_toArray, List.set_cons_zero, List.set_cons_succ]
    refine tkd (i := 11) (v := .pointer (some ⟨p.D, 11 + B, none⟩)) rfl rfl (by kernel_rfl) (by kernel_rfl) (by kernel_rfl) (fun _ _ _ h => h) (Or.inl ⟨by rfl, fun w hSw => by have y : (B : Int) < 8 := (by omega); go_simp⟩) hS ?_
    simp only [List.setIfInBounds_toArray, List.set_cons_zero, List.set_cons_succ]
    refine tkd (i := 12) (v := intV (s.regs.getD B 0)) rfl rfl (by kernel_rfl) (by kernel_rfl) (by kernel_rfl) (fun _ _ _ h => h) (Or.inl ⟨by rfl, fun w hSw => by have z := hSw.1.reg B hB; go_simp⟩) hS ?_
    simp only [List.setIfInBounds_toArray, List.set_cons_zero, List.set_cons_succ]
    refine tkd (i := 13) (v := .pointer (some ⟨p.D, 11 + A, none⟩)) rfl rfl (by kernel_rfl) (by kernel_rfl) (by kernel_rfl) (fun _ _ _ h => h) (Or.inl ⟨by rfl, fun w hSw => by skip; go_simp⟩) hS ?_
    simp only [List.setIfInBounds_toArray, List.set_cons_zero, List.set_cons_succ]
    refine tkd (i := 14) (v := intV (s.regs.getD B 0)) rfl rfl (by kernel_rfl) (by kernel_rfl) (by kernel_rfl) (fun _ _ _ h => h) (Or.inl ⟨by rfl, fun w hSw => by skip; go_simp⟩) hS ?_
    simp only [List.setIfInBounds_toArray, List.set_cons_zero, List.set_cons_succ]
    refine wpAnyH_done (by kernel_rfl) ?_ _
    clear hS
    have hlt := hM.lt
    have hXlt := hX.lt
    have x0 := hX.cell 0 rfl
    have x3 := hX.cell 3 rfl
    have x4 := hX.cell 4 rfl
    have rA := hM.reg A hA
    have fA := hM.fz (11 + A)
    generalize hb : s.regs.getD B 0 = b at *
    generalize ha : s.regs.getD A 0 = a at *
    have hc := oTakeH hM iH la ln lc el hi hw0 hu hn
    rw [if_pos hf] at hc
    clear hf
    go_wp2_with (fail)
    refine hc.mono ?_
    clear hc
    rintro e w1 ⟨vs', hM1, rfl⟩
    go_wp2
    exact ⟨rfl, Act1.end vs' hM1⟩
  · rw [if_neg hf]
    have hbx := BoxC.new w #[.int .i64 16, .int .i64 A, .int .i64 B, .int .i64 C, .int .i64 n] 46
    have hM := (h.below ((Below.refl _ _).alloc (Nat.le_refl _) (.cells #[.int .i64 16, .int .i64 A, .int .i64 B, .int .i64 C, .int .i64 n] 46))).drew
    have hX := hbx.below (Below.refl _ _).drew
    have hBD : w.heap.size ≠ p.D := by have := h.lt; omega
    have c46 : Try.prog.cellsOf 46 = 5 := by kernel_rfl
    go_enter Try.func17, Try.ntmps17
    go_wp2
    have hS : MS p w0 vs s (w.alloc (.cells #[.int .i64 16, .int .i64 A, .int .i64 B, .int .i64 C, .int .i64 n] 46)).drew ∧ BoxC (w.alloc (.cells #[.int .i64 16, .int .i64 A, .int .i64 B, .int .i64 C, .int .i64 n] 46)).drew w.heap.size #[.int .i64 16, .int .i64 A, .int .i64 B, .int .i64 C, .int .i64 n] 46 := ⟨hM, hX⟩
    refine wp_region_held_drew (S := fun W => MS p w0 vs s W ∧ BoxC W w.heap.size #[.int .i64 16, .int .i64 A, .int .i64 B, .int .i64 C, .int .i64 n] 46) (by kernel_rfl) hS (fun hHeld => ?_)
    clear hHeld hbx h
    generalize (w.alloc (.cells #[.int .i64 16, .int .i64 A, .int .i64 B, .int .i64 C, .int .i64 n] 46)).drew = W at *
    generalize w.heap.size = X at *
    refine tkd (i := 0) (v := .pointer (some ⟨p.D, 0, none⟩)) rfl rfl (by kernel_rfl) (by kernel_rfl) (by kernel_rfl) (fun _ _ _ h => h) (Or.inl ⟨by rfl, fun w hSw => by skip; go_simp⟩) hS ?_
    simp only [List.setIfInBounds_toArray, List.set_cons_zero, List.set_cons_succ]
    refine tkd (i := 1) (v := .pointer (some ⟨X, 1, none⟩)) rfl rfl (by kernel_rfl) (by kernel_rfl) (by kernel_rfl) (fun _ _ _ h => h) (Or.inl ⟨by rfl, fun w hSw => by skip; go_simp⟩) hS ?_
    simp only [List.setIfInBounds_toArray, List.set_cons_zero, List.set_cons_succ]
    refine tkd (i := 2) (v := .int .i64 A) rfl rfl (by kernel_rfl) (by kernel_rfl) (by kernel_rfl) (fun _ _ _ h => h) (Or.inl ⟨by rfl, fun w hSw => by have z := hSw.2.cell 1 rfl; go_simp⟩) hS ?_
    simp only [List.setIfInBounds_toArray, List.set_cons_zero, List.set_cons_succ]
    refine tkd (i := 3) (v := .pointer (some ⟨p.D, 0, none⟩)) rfl rfl (by kernel_rfl) (by kernel_rfl) (by kernel_rfl) (fun _ _ _ h => h) (Or.inl ⟨by rfl, fun w hSw => by skip; go_simp⟩) hS ?_
    simp only [List.setIfInBounds_toArray, List.set_cons_zero, List.set_cons_succ]
    refine tkd (i := 4) (v := .pointer (some ⟨p.D, 11, none⟩)) rfl rfl (by kernel_rfl) (by kernel_rfl) (by kernel_rfl) (fun _ _ _ h => h) (Or.inl ⟨by rfl, fun w hSw => by skip; go_simp⟩) hS ?_
    simp only [List.setIfInBounds_toArray, List.set_cons_zero, List.set_cons_succ]
    refine tkd (i := 5) (v := .pointer (some ⟨p.D, 11 + A, none⟩)) rfl rfl (by kernel_rfl) (by kernel_rfl) (by kernel_rfl) (fun _ _ _ h => h) (Or.inl ⟨by rfl, fun w hSw => by have y : (A : Int) < 8 := (by omega); go_simp⟩) hS ?_
    simp only [List.setIfInBounds_toArray, List.set_cons_zero, List.set_cons_succ]
    refine tkd (i := 6) (v := .pointer (some ⟨p.D, 0, none⟩)) rfl rfl (by kernel_rfl) (by kernel_rfl) (by kernel_rfl) (fun _ _ _ h => h) (Or.inl ⟨by rfl, fun w hSw => by skip; go_simp⟩) hS ?_
    simp only [List.setIfInBounds_toArray, List.set_cons_zero, List.set_cons_succ]
    refine tkd (i := 7) (v := .pointer (some ⟨X, 2, none⟩)) rfl rfl (by kernel_rfl) (by kernel_rfl) (by kernel_rfl) (fun _ _ _ h => h) (Or.inl ⟨by rfl, fun w hSw => by skip; go_simp⟩) hS ?_
    simp only [List.setIfInBounds_toArray, List.set_cons_zero, List.set_cons_succ]
    refine tkd (i := 8) (v := .int .i64 B) rfl rfl (by kernel_rfl) (by kernel_rfl) (by kernel_rfl) (fun _ _ _ h => h) (Or.inl ⟨by rfl, fun w hSw => by have z := hSw.2.cell 2 rfl; go_simp⟩) hS ?_
    simp only [List.setIfInBounds_toArray, List.set_cons_zero, List.set_cons_succ]
    refine tkd (i := 9) (v := .pointer (some ⟨p.D, 0, none⟩)) rfl rfl (by kernel_rfl) (by kernel_rfl) (by kernel_rfl) (fun _ _ _ h => h) (Or.inl ⟨by rfl, fun w hSw => by skip; go_simp⟩) hS ?_
    simp only [List.setIfInBounds_toArray, List.set_cons_zero, List.set_cons_succ]
    refine tkd (i := 10) (v := .pointer (some ⟨p.D, 11, none⟩)) rfl rfl (by kernel_rfl) (by kernel_rfl) (by kernel_rfl) (fun _ _ _ h => h) (Or.inl ⟨by rfl, fun w hSw => by skip; go_simp⟩) hS ?_
    simp only [List.setIfInBounds_toArray, List.set_cons_zero, List.set_cons_succ]
    refine tkd (i := 11) (v := .pointer (some ⟨p.D, 11 + B, none⟩)) rfl rfl (by kernel_rfl) (by kernel_rfl) (by kernel_rfl) (fun _ _ _ h => h) (Or.inl ⟨by rfl, fun w hSw => by have y : (B : Int) < 8 := (by omega); go_simp⟩) hS ?_
    simp only [List.setIfInBounds_toArray, List.set_cons_zero, List.set_cons_succ]
    refine tkd (i := 12) (v := intV (s.regs.getD B 0)) rfl rfl (by kernel_rfl) (by kernel_rfl) (by kernel_rfl) (fun _ _ _ h => h) (Or.inl ⟨by rfl, fun w hSw => by have z := hSw.1.reg B hB; go_simp⟩) hS ?_
    simp only [List.setIfInBounds_toArray, List.set_cons_zero, List.set_cons_succ]
    refine tkd (i := 13) (v := .pointer (some ⟨p.D, 11 + A, none⟩)) rfl rfl (by kernel_rfl) (by kernel_rfl) (by kernel_rfl) (fun _ _ _ h => h) (Or.inl ⟨by rfl, fun w hSw => by skip; go_simp⟩) hS ?_
    simp only [List.setIfInBounds_toArray, List.set_cons_zero, List.set_cons_succ]
    refine tkd (i := 14) (v := intV (s.regs.getD B 0)) rfl rfl (by kernel_rfl) (by kernel_rfl) (by kernel_rfl) (fun _ _ _ h => h) (Or.inl ⟨by rfl, fun w hSw => by skip; go_simp⟩) hS ?_
    simp only [List.setIfInBounds_toArray, List.set_cons_zero, List.set_cons_succ]
    refine wpAnyH_done (by kernel_rfl) ?_ _
    clear hS
    have hlt := hM.lt
    have hXlt := hX.lt
    have x0 := hX.cell 0 rfl
    have x3 := hX.cell 3 rfl
    have x4 := hX.cell 4 rfl
    have rA := hM.reg A hA
    have fA := hM.fz (11 + A)
    generalize hb : s.regs.getD B 0 = b at *
    generalize ha : s.regs.getD A 0 = a at *
    have hc := oTakeH hM iH la ln lc el hi hw0 hu hn
    rw [if_neg hf] at hc
    clear hf
    generalize iH.getD s.uH 0 = x at *
    go_wp2_with (fail)
    refine hc.mono ?_
    clear hc
    rintro e w1 ⟨vs', hM1, rfl⟩
    have hM1 : MS p w0 vs' { s with uH := s.uH + 1 } w1 := hM1
    have yA := hM1.reg A hA
    have gA := hM1.fz (11 + A)
    have hlt1 := hM1.lt
    clear rA fA x0 x3 x4
    go_wp2
    go_end0
    exact Act1.go vs' (hM1.setReg A hA x)
end
end Go.Proofs.Ytcfibghjekimkaa.mac
