/- What show's New, Step, Out, Take and Reckon answer, and what the machine's word, call and back do: contracts. -/
import Derived.Test.YtcfibghjekimkaaMacOwnB
import Derived.Test.YtcfibghjekimkaaNum
import Derived.OrdersHeld
import Derived.Deep.RegionHeld
namespace Go.Proofs.Ytcfibghjekimkaa.mac
open Go.RowKit
open Go.Proofs.Ytcfibghjekimkaa.numOps
set_option linter.unusedVariables false
set_option linter.unusedSimpArgs false
set_option maxRecDepth 100000
def runV (il ih : Value) (fuel : Int) : Value := .agg #[.int .i64 0, .slice none 0 0, .slice none 0 0, .int .i64 0, .int .i64 0, .int .i64 0, il, ih, .int .i64 fuel]
def zeroRun : Value := runV (.slice none 0 0) (.slice none 0 0) 0
def newC (nl nh : Nat) (fuel m : Int) : Int := if fuel < 0 ∨ m < fuel then 6 else if 1000 < nl ∨ 1000 < nh then 1 else 0
def newR (il ih : Value) (nl nh : Nat) (fuel m : Int) : Value := .tuple #[if newC nl nh fuel m = 0 then runV il ih fuel else zeroRun, .int .i64 (newC nl nh fuel m)]
set_option maxHeartbeats 2000000 in
theorem oNew (a b : Option Addr) (nl nh cl ch : Nat) (fuel m : Int) (w : World) :
    Calls Try.prog 8 #[.slice a nl cl, .slice b nh ch, .int .i64 fuel, .int .i64 m] w fun e w' => e = .returned (newR (.slice a nl cl) (.slice b nh ch) nl nh fuel m) ∧ Below w.heap.size w w' := by
  have c36 : Try.prog.cellsOf 36 = 9 := by kernel_rfl
  have c27 : Try.prog.cellsOf 27 = 6 := by kernel_rfl
  by_cases h1 : fuel < 0
  · skip
    go_enter Try.func8, Try.ntmps8
    go_wp2
    refine bodyPost_ret (v := .tuple #[zeroRun, .int .i64 6]) (by simp [results, Try.f8, go_sem, zeroRun, runV, c27]) rfl ?_
    exact ⟨by unfold newR; rw [show newC nl nh fuel m = 6 by unfold newC; rw [if_pos (Or.inl h1)] ]; rfl, by repeat (first | exact Below.refl _ _ | refine Below.setCell ?_ (Nat.le_refl _) _ | refine Below.alloc ?_ (Nat.le_refl _) _)⟩
  by_cases h2 : m < fuel
  · skip
    go_enter Try.func8, Try.ntmps8
    go_wp2
    refine bodyPost_ret (v := .tuple #[zeroRun, .int .i64 6]) (by simp [results, Try.f8, go_sem, zeroRun, runV, c27]) rfl ?_
    exact ⟨by unfold newR; rw [show newC nl nh fuel m = 6 by unfold newC; rw [if_pos (Or.inr h2)] ]; rfl, by repeat (first | exact Below.refl _ _ | refine Below.setCell ?_ (Nat.le_refl _) _ | refine Below.alloc ?_ (Nat.le_refl _) _)⟩
  by_cases h3 : 1000 < nl
  · have h3' : (1000 : Int) < (nl : Int) := by omega
    go_enter Try.func8, Try.ntmps8
    go_wp2
    refine bodyPost_ret (v := .tuple #[zeroRun, .int .i64 1]) (by simp [results, Try.f8, go_sem, zeroRun, runV, c27]) rfl ?_
    exact ⟨by unfold newR; rw [show newC nl nh fuel m = 1 by unfold newC; rw [if_neg (by omega), if_pos (Or.inl h3)] ]; rfl, by repeat (first | exact Below.refl _ _ | refine Below.setCell ?_ (Nat.le_refl _) _ | refine Below.alloc ?_ (Nat.le_refl _) _)⟩
  have h3' : ¬ (1000 : Int) < (nl : Int) := by omega
  by_cases h4 : 1000 < nh
  · have h4' : (1000 : Int) < (nh : Int) := by omega
    go_enter Try.func8, Try.ntmps8
    go_wp2
    refine bodyPost_ret (v := .tuple #[zeroRun, .int .i64 1]) (by simp [results, Try.f8, go_sem, zeroRun, runV, c27]) rfl ?_
    exact ⟨by unfold newR; rw [show newC nl nh fuel m = 1 by unfold newC; rw [if_neg (by omega), if_pos (Or.inr h4)] ]; rfl, by repeat (first | exact Below.refl _ _ | refine Below.setCell ?_ (Nat.le_refl _) _ | refine Below.alloc ?_ (Nat.le_refl _) _)⟩
  have h4' : ¬ (1000 : Int) < (nh : Int) := by omega
  go_enter Try.func8, Try.ntmps8
  go_wp2
  refine bodyPost_ret (v := .tuple #[runV (.slice a nl cl) (.slice b nh ch) fuel, .int .i64 0]) (by simp [results, Try.f8, go_sem, zeroRun, runV, c27]) rfl ?_
  exact ⟨by unfold newR; rw [show newC nl nh fuel m = 0 by unfold newC; rw [if_neg (by omega), if_neg (by omega)] ]; rfl, by repeat (first | exact Below.refl _ _ | refine Below.setCell ?_ (Nat.le_refl _) _ | refine Below.alloc ?_ (Nat.le_refl _) _)⟩
/-- an operation that yields its value in every world that meets S is taken first; its slot is written out -/
theorem tkd {P : Program} {ops : Array Oper} {Q : Exit → Act → World → Prop} {md : Region.Mode} {S : World → Prop} {i d : Nat} {oi : Oper} {v : Value} {fuel : Nat} {listed : Array Bool} {a : Act} {w : World} (hi : ops[i]? = some oi) (hd : oi.dst = some d)
    (hs : Region.noSelect ops = true) (hf : Region.free md ops listed i = true) (hr : (Region.ready md ops listed).contains i = true)
    (hQ : ∀ c a w, Q (.panic c) (a.put oi.dst v) w → Q (.panic c) a w) (hy : YieldsIf P ops S oi v a) (hS : S w)
    (h : wpAnyH P md ops Q S fuel (listed.setIfInBounds i true) { tmps := a.tmps.setIfInBounds d v, defers := a.defers } w) : wpAnyH P md ops Q S (fuel + 1) listed a w := by
  refine wpAnyH_take hi hs hf hr hQ hy hS ?_
  rw [hd]
  exact h
theorem putd {o : Oper} {a : Act} {v : Value} {d : Nat} (h : o.dst = some d) : a.put o.dst v = { tmps := a.tmps.setIfInBounds d v, defers := a.defers } := by
  rw [h]
  rfl
def EndP (k : Int) : List PanicEntry := [{ v := .iface 51 (.int .i64 k), recovered := false }]
section
variable {p : Pl} {w0 w w' : World} {vs : Fin 5 → Value} {s : St}
theorem MS.drew (h : MS p w0 vs s w) : MS p w0 vs s w.drew := h.below (Below.refl _ _).drew
/-- what an action of the machine comes to: it goes on, or ends the run -/
def Act1 (p : Pl) (w0 : World) (r : Option Nat × St) (e : Ending) (w' : World) : Prop :=
  ∃ vs', MS p w0 vs' r.2 w' ∧ match r.1 with
    | none => e = .returned (.tuple #[])
    | some k => e = .panicked (EndP k)
theorem Act1.go (vs' : Fin 5 → Value) {s' : St} (h : MS p w0 vs' s' w') : Act1 p w0 (none, s') (.returned (.tuple #[])) w' := ⟨vs', h, rfl⟩
theorem Act1.end (vs' : Fin 5 → Value) {s' : St} {k : Nat} (h : MS p w0 vs' s' w') : Act1 p w0 (some k, s') (.panicked (EndP k)) w' := ⟨vs', h, rfl⟩
set_option maxHeartbeats 1000000 in
theorem oStep (h : MS p w0 vs s w) (hst : s.steps ≤ 90000) :
    Calls Try.prog 16 #[.pointer (some ⟨p.D, 0, none⟩)] w (Act1 p w0 (if s.steps = p.fuel then (some 0, s) else (none, { s with steps := s.steps + 1 }))) := by
  have hlt := h.lt
  by_cases hf : s.steps = p.fuel
  · rw [if_pos hf]
    have hS := h.drew
    have HF : Hid (p.fuel = s.steps) := hf.symm
    clear hf
    go_enter Try.func16, Try.ntmps16
    go_wp2
    refine wp_region_held_drew (S := MS p w0 vs s) (by kernel_rfl) hS (fun hHeld => ?_)
    clear hHeld h
    generalize w.drew = W at *
    refine tkd (i := 0) (v := .pointer (some ⟨p.D, 0, none⟩)) rfl rfl (by kernel_rfl) (by kernel_rfl) (by kernel_rfl) (fun _ _ _ h => h) (Or.inl ⟨by rfl, fun w hSw => by skip; go_simp⟩) hS ?_
    simp only [List.setIfInBounds_toArray, List.set_cons_zero, List.set_cons_succ]
    refine tkd (i := 1) (v := .pointer (some ⟨p.D, 0, none⟩)) rfl rfl (by kernel_rfl) (by kernel_rfl) (by kernel_rfl) (fun _ _ _ h => h) (Or.inl ⟨by rfl, fun w hSw => by skip; go_simp⟩) hS ?_
    simp only [List.setIfInBounds_toArray, List.set_cons_zero, List.set_cons_succ]
    refine tkd (i := 2) (v := .pointer (some ⟨p.D, 0, none⟩)) rfl rfl (by kernel_rfl) (by kernel_rfl) (by kernel_rfl) (fun _ _ _ h => h) (Or.inl ⟨by rfl, fun w hSw => by skip; go_simp⟩) hS ?_
    simp only [List.setIfInBounds_toArray, List.set_cons_zero, List.set_cons_succ]
    refine tkd (i := 3) (v := .pointer (some ⟨p.D, 5, none⟩)) rfl rfl (by kernel_rfl) (by kernel_rfl) (by kernel_rfl) (fun _ _ _ h => h) (Or.inl ⟨by rfl, fun w hSw => by skip; go_simp⟩) hS ?_
    simp only [List.setIfInBounds_toArray, List.set_cons_zero, List.set_cons_succ]
    refine tkd (i := 4) (v := natV s.steps) rfl rfl (by kernel_rfl) (by kernel_rfl) (by kernel_rfl) (fun _ _ _ h => h) (Or.inl ⟨by rfl, fun w hSw => by obtain ⟨z0, z1, z2, z3, z4, z5, z6, z7, z8, z9, z10⟩ := hSw.cells; go_simp⟩) hS ?_
    simp only [List.setIfInBounds_toArray, List.set_cons_zero, List.set_cons_succ]
    refine tkd (i := 5) (v := .pointer (some ⟨p.D, 0, none⟩)) rfl rfl (by kernel_rfl) (by kernel_rfl) (by kernel_rfl) (fun _ _ _ h => h) (Or.inl ⟨by rfl, fun w hSw => by skip; go_simp⟩) hS ?_
    simp only [List.setIfInBounds_toArray, List.set_cons_zero, List.set_cons_succ]
    refine tkd (i := 6) (v := .pointer (some ⟨p.D, 0, none⟩)) rfl rfl (by kernel_rfl) (by kernel_rfl) (by kernel_rfl) (fun _ _ _ h => h) (Or.inl ⟨by rfl, fun w hSw => by skip; go_simp⟩) hS ?_
    simp only [List.setIfInBounds_toArray, List.set_cons_zero, List.set_cons_succ]
    refine tkd (i := 7) (v := .pointer (some ⟨p.D, 8, none⟩)) rfl rfl (by kernel_rfl) (by kernel_rfl) (by kernel_rfl) (fun _ _ _ h => h) (Or.inl ⟨by rfl, fun w hSw => by skip; go_simp⟩) hS ?_
    simp only [List.setIfInBounds_toArray, List.set_cons_zero, List.set_cons_succ]
    refine tkd (i := 8) (v := natV s.steps) rfl rfl (by kernel_rfl) (by kernel_rfl) (by kernel_rfl) (fun _ _ _ h => h) (Or.inl ⟨by rfl, fun w hSw => by obtain ⟨z0, z1, z2, z3, z4, z5, z6, z7, z8, z9, z10⟩ := hSw.cells; rw [HF.out] at z8 ; go_simp⟩) hS ?_
    simp only [List.setIfInBounds_toArray, List.set_cons_zero, List.set_cons_succ]
    refine tkd (i := 9) (v := .bool true) rfl rfl (by kernel_rfl) (by kernel_rfl) (by kernel_rfl) (fun _ _ _ h => h) (Or.inl ⟨by rfl, fun w hSw => by skip; go_simp⟩) hS ?_
    simp only [List.setIfInBounds_toArray, List.set_cons_zero, List.set_cons_succ]
    refine wpAnyH_done (by kernel_rfl) ?_ _
    go_wp2
    exact ⟨rfl, Act1.end vs hS⟩
  · rw [if_neg hf]
    have hS := h.drew
    have hf' : ((s.steps : Int) == (p.fuel : Int)) = false := by simp; omega
    clear hf
    go_enter Try.func16, Try.ntmps16
    go_wp2
    refine wp_region_held_drew (S := MS p w0 vs s) (by kernel_rfl) hS (fun hHeld => ?_)
    clear hHeld h
    generalize w.drew = W at *
    refine tkd (i := 0) (v := .pointer (some ⟨p.D, 0, none⟩)) rfl rfl (by kernel_rfl) (by kernel_rfl) (by kernel_rfl) (fun _ _ _ h => h) (Or.inl ⟨by rfl, fun w hSw => by skip; go_simp⟩) hS ?_
    simp only [List.setIfInBounds_toArray, List.set_cons_zero, List.set_cons_succ]
    refine tkd (i := 1) (v := .pointer (some ⟨p.D, 0, none⟩)) rfl rfl (by kernel_rfl) (by kernel_rfl) (by kernel_rfl) (fun _ _ _ h => h) (Or.inl ⟨by rfl, fun w hSw => by skip; go_simp⟩) hS ?_
    simp only [List.setIfInBounds_toArray, List.set_cons_zero, List.set_cons_succ]
    refine tkd (i := 2) (v := .pointer (some ⟨p.D, 0, none⟩)) rfl rfl (by kernel_rfl) (by kernel_rfl) (by kernel_rfl) (fun _ _ _ h => h) (Or.inl ⟨by rfl, fun w hSw => by skip; go_simp⟩) hS ?_
    simp only [List.setIfInBounds_toArray, List.set_cons_zero, List.set_cons_succ]
    refine tkd (i := 3) (v := .pointer (some ⟨p.D, 5, none⟩)) rfl rfl (by kernel_rfl) (by kernel_rfl) (by kernel_rfl) (fun _ _ _ h => h) (Or.inl ⟨by rfl, fun w hSw => by skip; go_simp⟩) hS ?_
    simp only [List.setIfInBounds_toArray, List.set_cons_zero, List.set_cons_succ]
    refine tkd (i := 4) (v := natV s.steps) rfl rfl (by kernel_rfl) (by kernel_rfl) (by kernel_rfl) (fun _ _ _ h => h) (Or.inl ⟨by rfl, fun w hSw => by obtain ⟨z0, z1, z2, z3, z4, z5, z6, z7, z8, z9, z10⟩ := hSw.cells; go_simp⟩) hS ?_
    simp only [List.setIfInBounds_toArray, List.set_cons_zero, List.set_cons_succ]
    refine tkd (i := 5) (v := .pointer (some ⟨p.D, 0, none⟩)) rfl rfl (by kernel_rfl) (by kernel_rfl) (by kernel_rfl) (fun _ _ _ h => h) (Or.inl ⟨by rfl, fun w hSw => by skip; go_simp⟩) hS ?_
    simp only [List.setIfInBounds_toArray, List.set_cons_zero, List.set_cons_succ]
    refine tkd (i := 6) (v := .pointer (some ⟨p.D, 0, none⟩)) rfl rfl (by kernel_rfl) (by kernel_rfl) (by kernel_rfl) (fun _ _ _ h => h) (Or.inl ⟨by rfl, fun w hSw => by skip; go_simp⟩) hS ?_
    simp only [List.setIfInBounds_toArray, List.set_cons_zero, List.set_cons_succ]
    refine tkd (i := 7) (v := .pointer (some ⟨p.D, 8, none⟩)) rfl rfl (by kernel_rfl) (by kernel_rfl) (by kernel_rfl) (fun _ _ _ h => h) (Or.inl ⟨by rfl, fun w hSw => by skip; go_simp⟩) hS ?_
    simp only [List.setIfInBounds_toArray, List.set_cons_zero, List.set_cons_succ]
    refine tkd (i := 8) (v := natV p.fuel) rfl rfl (by kernel_rfl) (by kernel_rfl) (by kernel_rfl) (fun _ _ _ h => h) (Or.inl ⟨by rfl, fun w hSw => by obtain ⟨z0, z1, z2, z3, z4, z5, z6, z7, z8, z9, z10⟩ := hSw.cells; go_simp⟩) hS ?_
    simp only [List.setIfInBounds_toArray, List.set_cons_zero, List.set_cons_succ]
    refine tkd (i := 9) (v := .bool false) rfl rfl (by kernel_rfl) (by kernel_rfl) (by kernel_rfl) (fun _ _ _ h => h) (Or.inl ⟨by rfl, fun w hSw => by skip; go_simp⟩) hS ?_
    simp only [List.setIfInBounds_toArray, List.set_cons_zero, List.set_cons_succ]
    refine wpAnyH_done (by kernel_rfl) ?_ _
    have m5 := hS.cells.2.2.2.2.2.1
    have f5 := hS.fz 5
    have hlt2 := hS.lt
    go_wp2
    go_end0
    exact Act1.go vs (hS.setSteps (s.steps + 1))
end
end Go.Proofs.Ytcfibghjekimkaa.mac
