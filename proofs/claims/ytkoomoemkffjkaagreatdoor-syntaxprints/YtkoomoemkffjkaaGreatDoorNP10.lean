/- What the reference's Show answers of nodes of a kind, once it does of the kids: contracts. (Written by mkshow.py: edit that.) -/
import Derived.Test.YtkoomoemkffjkaaGreatDoorNP07
set_option linter.unusedVariables false
set_option linter.unusedSimpArgs false
set_option maxRecDepth 100000
namespace Go.Proofs.YtkoomoemkffjkaaGreatDoor
namespace pr
open Go.RowKit
open Go.Proofs.YtkoomoemkffjkaaGreatDoor.syn Go.Proofs.YtkoomoemkffjkaaGreatDoor.face Go.Proofs.YtkoomoemkffjkaaGreatDoor.chk
open Go.Proofs.YtkoomoemkffjkaaGreatDoor.ord (tkd)
open Go.Proofs.YtkoomoemkffjkaaGreatDoor.reg
set_option maxHeartbeats 8000000 in
theorem rShow3b0 {x : ByteArray} {m : Int} {a : Option Addr} {c : Nat} (w : World) (hl : Lies (· < w.heap.size) w (.node 3 x m []) (.agg #[.int .i64 3, .string x, .int .i64 m, .slice a 0 c])) (hx : x.size ≤ 1000) (h0 : 0 ≤ m) (dp : decide (2 ≤ m % 4) = true) :
    Calls Tryz.prog 15 #[.agg #[.int .i64 3, .string x, .int .i64 m, .slice a 0 c]] w fun e w' => e = .returned (.string (sx (barR 3 x m [] []))) ∧ Below w.heap.size w w' := by
  have c24 : Tryz.prog.cellsOf 24 = 4 := by kernel_rfl
  obtain ⟨LB, hLB⟩ : ∃ L, L = sx (labR m) := ⟨_, rfl⟩
  have LBc : ∀ W1, Calls Tryz.prog 36 #[.int .i64 m] W1 fun e w' => e = .returned (.string LB) ∧ Below W1.heap.size W1 w' := fun W1 => by
    rw [hLB]
    exact (rLabelP m h0 W1).mono fun e w' h => ⟨h.1, by rw [h.2]; exact Below.refl _ _⟩
  replace LBc := (show Hid _ from LBc)
  have zL : LB.size ≤ 5 := by rw [hLB, sx_size]; exact lab_len m
  have HR : Hid (sx (barR 3 x m [] []) = ((((⟨#[112, 117, 98, 32]⟩ : ByteArray) ++ LB) ++ x) ++ (⟨#[32, 59]⟩ : ByteArray))) := by
    show sx ((if 2 ≤ m % 4 then [112, 117, 98, 32] else []) ++ labR m ++ x.data.toList ++ [] ++ [32, 59]) = _
    rw [if_pos (of_decide_eq_true dp)]
    simp only [List.append_nil]
    rw [← sx_app, ← sx_app, ← sx_app, sx_data, hLB]
    rfl
  generalize sx (barR 3 x m [] []) = R at *
  clear hLB 
  unfold Lies at hl
  obtain ⟨a', c', e', ⟨hlen, hlc⟩, hat⟩ := hl
  simp only [Value.agg.injEq, Array.mk.injEq, List.cons.injEq, Value.slice.injEq, and_true, true_and] at e'
  obtain ⟨rfl, -, rfl⟩ := e'
  go_enter Tryz.func15, Tryz.ntmps15
  go_wp2
  have hbw : Below w.heap.size w (w.alloc (.cells #[.int .i64 3, .string x, .int .i64 m, .slice a 0 c] 24)).drew := ((Below.refl w.heap.size w).alloc (Nat.le_refl _) (.cells #[.int .i64 3, .string x, .int .i64 m, .slice a 0 c] 24)).drew
  obtain ⟨m0, m1, m2, m3, hW1, -⟩ := one_box ((Below.refl (w.heap.size + 1) (w.alloc (.cells #[.int .i64 3, .string x, .int .i64 m, .slice a 0 c] 24))).drew)
  refine wp_region_held_drew (S := fun W => Below (w.alloc (.cells #[.int .i64 3, .string x, .int .i64 m, .slice a 0 c] 24)).drew.heap.size (w.alloc (.cells #[.int .i64 3, .string x, .int .i64 m, .slice a 0 c] 24)).drew W) (by kernel_rfl) (Below.refl _ _) (fun hS => ?_)
  generalize (w.alloc (.cells #[.int .i64 3, .string x, .int .i64 m, .slice a 0 c] 24)).drew = W at *
  refine tkd (i := 0) (v := .string (⟨#[112, 117, 98, 32]⟩ : ByteArray)) rfl rfl (by kernel_rfl) (by kernel_rfl) (by kernel_rfl) (fun _ _ _ h => h) (Or.inl ⟨by rfl, fun wq hSw => by skip; go_simp⟩) hS ?_
  simp only [List.setIfInBounds_toArray, List.set_cons_zero, List.set_cons_succ]
  refine tkd (i := 1) (v := .pointer (some ⟨w.heap.size, 2, none⟩)) rfl rfl (by kernel_rfl) (by kernel_rfl) (by kernel_rfl) (fun _ _ _ h => h) (Or.inl ⟨by rfl, fun wq hSw => by skip; go_simp⟩) hS ?_
  simp only [List.setIfInBounds_toArray, List.set_cons_zero, List.set_cons_succ]
  refine tkd (i := 2) (v := .int .i64 m) rfl rfl (by kernel_rfl) (by kernel_rfl) (by kernel_rfl) (fun _ _ _ h => h) (Or.inl ⟨by rfl, fun wq hSw => by have q := pkeep m2 hSw; go_simp⟩) hS ?_
  simp only [List.setIfInBounds_toArray, List.set_cons_zero, List.set_cons_succ]
  refine tkd (i := 5) (v := .pointer (some ⟨w.heap.size, 1, none⟩)) rfl rfl (by kernel_rfl) (by kernel_rfl) (by kernel_rfl) (fun _ _ _ h => h) (Or.inl ⟨by rfl, fun wq hSw => by skip; go_simp⟩) hS ?_
  simp only [List.setIfInBounds_toArray, List.set_cons_zero, List.set_cons_succ]
  refine tkd (i := 6) (v := .string x) rfl rfl (by kernel_rfl) (by kernel_rfl) (by kernel_rfl) (fun _ _ _ h => h) (Or.inl ⟨by rfl, fun wq hSw => by have q := pkeep m1 hSw; go_simp⟩) hS ?_
  simp only [List.setIfInBounds_toArray, List.set_cons_zero, List.set_cons_succ]
  refine wpAnyH_lay [3, 4, 7, 8] [(59, 3), (60, 4), (63, 7), (8, 8)] (fun i v W2 => match i with | 3 => v = .string LB | 4 => v = .string ((⟨#[112, 117, 98, 32]⟩ : ByteArray) ++ LB) | 7 => v = .string (((⟨#[112, 117, 98, 32]⟩ : ByteArray) ++ LB) ++ x) | _ => v = .string (((⟨#[112, 117, 98, 32]⟩ : ByteArray) ++ LB) ++ x)) (by kernel_rfl) (by rfl) (by kernel_rfl) (by decide) (by kernel_rfl) hS ?_ ?_ ?_
  · intro j v W1 W2 hb h
    split at h
    all_goals first | exact h | exact h.below hb
  · skip
    refine Steps.consK [] rfl trivial (fun U W1 hS1 hR K hK => ?_) ?_
    · skip
      have hcc := LBc.out W1
      simp only [layS, putK, List.foldr, List.foldl, List.setIfInBounds_toArray, List.set_cons_zero, List.set_cons_succ, reduceIte, Nat.reduceEqDiff]
      go_simp
      go_at_call 36
      refine hcc.mono ?_
      rintro e W2 ⟨rfl, hb⟩
      go_wp2
      have hk := hK.out (.string LB) W2 (hS1.trans (hb.mono hS1.size)) hb rfl
      simp only [layS, putK, List.foldr, List.foldl, List.setIfInBounds_toArray, List.set_cons_zero, List.set_cons_succ, reduceIte, Nat.reduceEqDiff] at hk
      exact hk
    refine Steps.consK [(3, .string LB)] rfl ⟨⟨by kernel_rfl, fun _ _ h => h⟩, trivial⟩ (fun U W1 hS1 hR K hK => ?_) ?_
    · skip
      simp only [layS, putK, List.foldr, List.foldl, List.setIfInBounds_toArray, List.set_cons_zero, List.set_cons_succ, reduceIte, Nat.reduceEqDiff]
      go_simp
      rw [if_neg (by first | omega | (simp only [ByteArray.size_append]; omega))]
      go_simp
      have hk := hK.out (.string ((⟨#[112, 117, 98, 32]⟩ : ByteArray) ++ LB)) W1 hS1 (Below.refl _ _) rfl
      simp only [layS, putK, List.foldr, List.foldl, List.setIfInBounds_toArray, List.set_cons_zero, List.set_cons_succ, reduceIte, Nat.reduceEqDiff] at hk
      exact hk
    refine Steps.consK [(4, .string ((⟨#[112, 117, 98, 32]⟩ : ByteArray) ++ LB))] rfl ⟨⟨by kernel_rfl, fun _ _ h => h⟩, trivial⟩ (fun U W1 hS1 hR K hK => ?_) ?_
    · skip
      simp only [layS, putK, List.foldr, List.foldl, List.setIfInBounds_toArray, List.set_cons_zero, List.set_cons_succ, reduceIte, Nat.reduceEqDiff]
      go_simp
      rw [if_neg (by first | omega | (simp only [ByteArray.size_append]; omega))]
      go_simp
      have hk := hK.out (.string (((⟨#[112, 117, 98, 32]⟩ : ByteArray) ++ LB) ++ x)) W1 hS1 (Below.refl _ _) rfl
      simp only [layS, putK, List.foldr, List.foldl, List.setIfInBounds_toArray, List.set_cons_zero, List.set_cons_succ, reduceIte, Nat.reduceEqDiff] at hk
      exact hk
    refine Steps.consK [(7, .string (((⟨#[112, 117, 98, 32]⟩ : ByteArray) ++ LB) ++ x))] rfl ⟨⟨by kernel_rfl, fun _ _ h => h⟩, trivial⟩ (fun U W1 hS1 hR K hK => ?_) Steps.nil
    · skip
      simp only [layS, putK, List.foldr, List.foldl, List.setIfInBounds_toArray, List.set_cons_zero, List.set_cons_succ, reduceIte, Nat.reduceEqDiff]
      go_simp
      have hk := hK.out (.string (((⟨#[112, 117, 98, 32]⟩ : ByteArray) ++ LB) ++ x)) W1 hS1 (Below.refl _ _) rfl
      simp only [layS, putK, List.foldr, List.foldl, List.setIfInBounds_toArray, List.set_cons_zero, List.set_cons_succ, reduceIte, Nat.reduceEqDiff] at hk
      exact hk
  · intro U W1 hS1 hR
    have hdd : U 8 = .string (((⟨#[112, 117, 98, 32]⟩ : ByteArray) ++ LB) ++ x) := hR 8 (by simp)
    simp only [layS, putK, List.foldr, List.foldl, List.setIfInBounds_toArray, List.set_cons_zero, List.set_cons_succ, reduceIte, Nat.reduceEqDiff]
    rw [hdd]
    clear hdd hR
    have zE : (((⟨#[112, 117, 98, 32]⟩ : ByteArray) ++ LB) ++ x).size ≤ 1010 := by simp only [ByteArray.size_append]; have e1 : (⟨#[112, 117, 98, 32]⟩ : ByteArray).size ≤ 4 := (by decide); omega
    generalize (((⟨#[112, 117, 98, 32]⟩ : ByteArray) ++ LB) ++ x) = E at *
    have e3 : (E ++ (⟨#[32, 59]⟩ : ByteArray)).size = E.size + 2 := ByteArray.size_append
    go_wp2
    go_ret
    exact ⟨by rw [HR.out]; rfl, hbw.trans (hS1.mono hbw.size)⟩
set_option maxHeartbeats 8000000 in
theorem rShow3b1 {x : ByteArray} {m : Int} {t0 : Tree} {a : Option Addr} {c : Nat} (w : World) (hl : Lies (· < w.heap.size) w (.node 3 x m [t0]) (.agg #[.int .i64 3, .string x, .int .i64 m, .slice a 1 c])) (hk0 : ShowOk t0) (z0' : (showT t0).length ≤ 50000) (hx : x.size ≤ 1000) (h0 : 0 ≤ m) (dp : decide (2 ≤ m % 4) = true) :
    Calls Tryz.prog 15 #[.agg #[.int .i64 3, .string x, .int .i64 m, .slice a 1 c]] w fun e w' => e = .returned (.string (sx (barR 3 x m [t0] [showT t0]))) ∧ Below w.heap.size w w' := by
  have c24 : Tryz.prog.cellsOf 24 = 4 := by kernel_rfl
  obtain ⟨T0, hT0⟩ : ∃ T, T = sx (showT t0) := ⟨_, rfl⟩
  have z0 : T0.size ≤ 50000 := by rw [hT0, sx_size]; exact z0'
  replace hT0 := (show Hid _ from hT0)
  obtain ⟨LB, hLB⟩ : ∃ L, L = sx (labR m) := ⟨_, rfl⟩
  have LBc : ∀ W1, Calls Tryz.prog 36 #[.int .i64 m] W1 fun e w' => e = .returned (.string LB) ∧ Below W1.heap.size W1 w' := fun W1 => by
    rw [hLB]
    exact (rLabelP m h0 W1).mono fun e w' h => ⟨h.1, by rw [h.2]; exact Below.refl _ _⟩
  replace LBc := (show Hid _ from LBc)
  have zL : LB.size ≤ 5 := by rw [hLB, sx_size]; exact lab_len m
  have HR : Hid (sx (barR 3 x m [t0] [showT t0]) = (((((((⟨#[112, 117, 98, 32]⟩ : ByteArray) ++ LB) ++ x) ++ (⟨#[32, 91, 32]⟩ : ByteArray)) ++ T0) ++ (⟨#[32, 93]⟩ : ByteArray)) ++ (⟨#[32, 59]⟩ : ByteArray))) := by
    show sx ((if 2 ≤ m % 4 then [112, 117, 98, 32] else []) ++ labR m ++ x.data.toList ++ ([32, 91, 32] ++ showT t0 ++ [32, 93]) ++ [32, 59]) = _
    rw [if_pos (of_decide_eq_true dp)]
    rw [← List.append_assoc, ← List.append_assoc]
    rw [← sx_app, ← sx_app, ← sx_app, ← sx_app, ← sx_app, ← sx_app, sx_data, hLB, hT0.out]
    rfl
  generalize sx (barR 3 x m [t0] [showT t0]) = R at *
  clear hLB z0'
  unfold Lies at hl
  obtain ⟨a', c', e', ⟨hlen, hlc⟩, hat⟩ := hl
  simp only [Value.agg.injEq, Array.mk.injEq, List.cons.injEq, Value.slice.injEq, and_true, true_and] at e'
  obtain ⟨rfl, -, rfl⟩ := e'
  obtain ⟨g, o, rfl, hg, hat⟩ := hat (by simp)
  obtain ⟨v0, ⟨xa0, xb0, xc0, xd0, rfl, q00, q01, q02, q03⟩, l0⟩ := hat.get 0 (by simp)
  obtain ⟨xx0, mm0, aa0, nn0, cc0, rfl, rfl, rfl, rfl⟩ := lies_kind2 l0
  simp only [List.getElem_cons_zero, List.getElem_cons_succ, Nat.zero_mul, Nat.one_mul, Nat.reduceMul, Nat.add_zero, Nat.add_assoc, Nat.reduceAdd] at l0 q00 q01 q02 q03
  generalize hkd0 : kindT t0 = kd0 at *
  go_enter Tryz.func15, Tryz.ntmps15
  go_wp2
  have hbw : Below w.heap.size w (w.alloc (.cells #[.int .i64 3, .string x, .int .i64 m, .slice (some ⟨g, o, none⟩) 1 c] 24)).drew := ((Below.refl w.heap.size w).alloc (Nat.le_refl _) (.cells #[.int .i64 3, .string x, .int .i64 m, .slice (some ⟨g, o, none⟩) 1 c] 24)).drew
  have K0 : ∀ W1, Below ((w.alloc (.cells #[.int .i64 3, .string x, .int .i64 m, .slice (some ⟨g, o, none⟩) 1 c] 24)).drew).heap.size ((w.alloc (.cells #[.int .i64 3, .string x, .int .i64 m, .slice (some ⟨g, o, none⟩) 1 c] 24)).drew) W1 → Calls Tryz.prog 15 #[.agg #[.int .i64 kd0, .string xx0, .int .i64 mm0, .slice aa0 nn0 cc0]] W1 fun e w' => e = .returned (.string T0) ∧ Below W1.heap.size W1 w' := fun W1 hb => by
    rw [hT0.out]
    exact hk0 _ _ (Lies.below (Lies.below l0 hbw) hb)
  have r00 := (hbw.cell (p := ⟨g, o, none⟩) hg).trans q00
  have r01 := (hbw.cell (p := ⟨g, o + 1, none⟩) hg).trans q01
  have r02 := (hbw.cell (p := ⟨g, o + 2, none⟩) hg).trans q02
  have r03 := (hbw.cell (p := ⟨g, o + 3, none⟩) hg).trans q03
  obtain ⟨m0, m1, m2, m3, hW1, -⟩ := one_box ((Below.refl (w.heap.size + 1) (w.alloc (.cells #[.int .i64 3, .string x, .int .i64 m, .slice (some ⟨g, o, none⟩) 1 c] 24))).drew)
  replace K0 := (show Hid _ from K0)
  clear q00 q01 q02 q03 l0 hat 
  refine wp_region_held_drew (S := fun W => Below (w.alloc (.cells #[.int .i64 3, .string x, .int .i64 m, .slice (some ⟨g, o, none⟩) 1 c] 24)).drew.heap.size (w.alloc (.cells #[.int .i64 3, .string x, .int .i64 m, .slice (some ⟨g, o, none⟩) 1 c] 24)).drew W) (by kernel_rfl) (Below.refl _ _) (fun hS => ?_)
  generalize (w.alloc (.cells #[.int .i64 3, .string x, .int .i64 m, .slice (some ⟨g, o, none⟩) 1 c] 24)).drew = W at *
  refine tkd (i := 0) (v := .string (⟨#[112, 117, 98, 32]⟩ : ByteArray)) rfl rfl (by kernel_rfl) (by kernel_rfl) (by kernel_rfl) (fun _ _ _ h => h) (Or.inl ⟨by rfl, fun wq hSw => by skip; go_simp⟩) hS ?_
  simp only [List.setIfInBounds_toArray, List.set_cons_zero, List.set_cons_succ]
  refine tkd (i := 1) (v := .pointer (some ⟨w.heap.size, 2, none⟩)) rfl rfl (by kernel_rfl) (by kernel_rfl) (by kernel_rfl) (fun _ _ _ h => h) (Or.inl ⟨by rfl, fun wq hSw => by skip; go_simp⟩) hS ?_
  simp only [List.setIfInBounds_toArray, List.set_cons_zero, List.set_cons_succ]
  refine tkd (i := 2) (v := .int .i64 m) rfl rfl (by kernel_rfl) (by kernel_rfl) (by kernel_rfl) (fun _ _ _ h => h) (Or.inl ⟨by rfl, fun wq hSw => by have q := pkeep m2 hSw; go_simp⟩) hS ?_
  simp only [List.setIfInBounds_toArray, List.set_cons_zero, List.set_cons_succ]
  refine tkd (i := 5) (v := .pointer (some ⟨w.heap.size, 1, none⟩)) rfl rfl (by kernel_rfl) (by kernel_rfl) (by kernel_rfl) (fun _ _ _ h => h) (Or.inl ⟨by rfl, fun wq hSw => by skip; go_simp⟩) hS ?_
  simp only [List.setIfInBounds_toArray, List.set_cons_zero, List.set_cons_succ]
  refine tkd (i := 6) (v := .string x) rfl rfl (by kernel_rfl) (by kernel_rfl) (by kernel_rfl) (fun _ _ _ h => h) (Or.inl ⟨by rfl, fun wq hSw => by have q := pkeep m1 hSw; go_simp⟩) hS ?_
  simp only [List.setIfInBounds_toArray, List.set_cons_zero, List.set_cons_succ]
  refine wpAnyH_lay [3, 4, 7, 8] [(59, 3), (60, 4), (63, 7), (8, 8)] (fun i v W2 => match i with | 3 => v = .string LB | 4 => v = .string ((⟨#[112, 117, 98, 32]⟩ : ByteArray) ++ LB) | 7 => v = .string (((⟨#[112, 117, 98, 32]⟩ : ByteArray) ++ LB) ++ x) | _ => v = .string (((⟨#[112, 117, 98, 32]⟩ : ByteArray) ++ LB) ++ x)) (by kernel_rfl) (by rfl) (by kernel_rfl) (by decide) (by kernel_rfl) hS ?_ ?_ ?_
  · intro j v W1 W2 hb h
    split at h
    all_goals first | exact h | exact h.below hb
  · skip
    refine Steps.consK [] rfl trivial (fun U W1 hS1 hR K hK => ?_) ?_
    · skip
      have hcc := LBc.out W1
      simp only [layS, putK, List.foldr, List.foldl, List.setIfInBounds_toArray, List.set_cons_zero, List.set_cons_succ, reduceIte, Nat.reduceEqDiff]
      go_simp
      go_at_call 36
      refine hcc.mono ?_
      rintro e W2 ⟨rfl, hb⟩
      go_wp2
      have hk := hK.out (.string LB) W2 (hS1.trans (hb.mono hS1.size)) hb rfl
      simp only [layS, putK, List.foldr, List.foldl, List.setIfInBounds_toArray, List.set_cons_zero, List.set_cons_succ, reduceIte, Nat.reduceEqDiff] at hk
      exact hk
    refine Steps.consK [(3, .string LB)] rfl ⟨⟨by kernel_rfl, fun _ _ h => h⟩, trivial⟩ (fun U W1 hS1 hR K hK => ?_) ?_
    · skip
      simp only [layS, putK, List.foldr, List.foldl, List.setIfInBounds_toArray, List.set_cons_zero, List.set_cons_succ, reduceIte, Nat.reduceEqDiff]
      go_simp
      rw [if_neg (by first | omega | (simp only [ByteArray.size_append]; omega))]
      go_simp
      have hk := hK.out (.string ((⟨#[112, 117, 98, 32]⟩ : ByteArray) ++ LB)) W1 hS1 (Below.refl _ _) rfl
      simp only [layS, putK, List.foldr, List.foldl, List.setIfInBounds_toArray, List.set_cons_zero, List.set_cons_succ, reduceIte, Nat.reduceEqDiff] at hk
      exact hk
    refine Steps.consK [(4, .string ((⟨#[112, 117, 98, 32]⟩ : ByteArray) ++ LB))] rfl ⟨⟨by kernel_rfl, fun _ _ h => h⟩, trivial⟩ (fun U W1 hS1 hR K hK => ?_) ?_
    · skip
      simp only [layS, putK, List.foldr, List.foldl, List.setIfInBounds_toArray, List.set_cons_zero, List.set_cons_succ, reduceIte, Nat.reduceEqDiff]
      go_simp
      rw [if_neg (by first | omega | (simp only [ByteArray.size_append]; omega))]
      go_simp
      have hk := hK.out (.string (((⟨#[112, 117, 98, 32]⟩ : ByteArray) ++ LB) ++ x)) W1 hS1 (Below.refl _ _) rfl
      simp only [layS, putK, List.foldr, List.foldl, List.setIfInBounds_toArray, List.set_cons_zero, List.set_cons_succ, reduceIte, Nat.reduceEqDiff] at hk
      exact hk
    refine Steps.consK [(7, .string (((⟨#[112, 117, 98, 32]⟩ : ByteArray) ++ LB) ++ x))] rfl ⟨⟨by kernel_rfl, fun _ _ h => h⟩, trivial⟩ (fun U W1 hS1 hR K hK => ?_) Steps.nil
    · skip
      simp only [layS, putK, List.foldr, List.foldl, List.setIfInBounds_toArray, List.set_cons_zero, List.set_cons_succ, reduceIte, Nat.reduceEqDiff]
      go_simp
      have hk := hK.out (.string (((⟨#[112, 117, 98, 32]⟩ : ByteArray) ++ LB) ++ x)) W1 hS1 (Below.refl _ _) rfl
      simp only [layS, putK, List.foldr, List.foldl, List.setIfInBounds_toArray, List.set_cons_zero, List.set_cons_succ, reduceIte, Nat.reduceEqDiff] at hk
      exact hk
  · intro U W1 hS1 hR
    have hdd : U 8 = .string (((⟨#[112, 117, 98, 32]⟩ : ByteArray) ++ LB) ++ x) := hR 8 (by simp)
    simp only [layS, putK, List.foldr, List.foldl, List.setIfInBounds_toArray, List.set_cons_zero, List.set_cons_succ, reduceIte, Nat.reduceEqDiff]
    rw [hdd]
    clear hdd hR
    have zE : (((⟨#[112, 117, 98, 32]⟩ : ByteArray) ++ LB) ++ x).size ≤ 1010 := by simp only [ByteArray.size_append]; have e1 : (⟨#[112, 117, 98, 32]⟩ : ByteArray).size ≤ 4 := (by decide); omega
    generalize (((⟨#[112, 117, 98, 32]⟩ : ByteArray) ++ LB) ++ x) = E at *
    have s3 : w.heap.size < W1.heap.size := by have := hS1.size; omega
    have q23 := pkeep m3 hS1
    have K0' := K0.out W1 hS1
    have r00' := pkeep r00 hS1
    have r01' := pkeep r01 hS1
    have r02' := pkeep r02 hS1
    have r03' := pkeep r03 hS1
    clear m0 m1 m2 m3 r00 r01 r02 r03
    have e3 : (E ++ (⟨#[32, 91, 32]⟩ : ByteArray)).size = E.size + 3 := ByteArray.size_append
    have e4 : ((E ++ (⟨#[32, 91, 32]⟩ : ByteArray)) ++ T0).size = (E ++ (⟨#[32, 91, 32]⟩ : ByteArray)).size + T0.size := ByteArray.size_append
    have e5 : (((E ++ (⟨#[32, 91, 32]⟩ : ByteArray)) ++ T0) ++ (⟨#[32, 93]⟩ : ByteArray)).size = ((E ++ (⟨#[32, 91, 32]⟩ : ByteArray)) ++ T0).size + 2 := ByteArray.size_append
    have e6 : ((((E ++ (⟨#[32, 91, 32]⟩ : ByteArray)) ++ T0) ++ (⟨#[32, 93]⟩ : ByteArray)) ++ (⟨#[32, 59]⟩ : ByteArray)).size = (((E ++ (⟨#[32, 91, 32]⟩ : ByteArray)) ++ T0) ++ (⟨#[32, 93]⟩ : ByteArray)).size + 2 := ByteArray.size_append
    go_wp2_with (go_at_call 15; refine K0'.mono ?_; rintro e w9 ⟨rfl, hb9⟩)
    go_ret
    exact ⟨by rw [HR.out]; rfl, (hbw.trans (hS1.mono hbw.size)).trans (hb9.mono (Nat.le_trans hbw.size hS1.size))⟩
set_option maxHeartbeats 8000000 in
theorem rShow3a0 {x : ByteArray} {m : Int} {a : Option Addr} {c : Nat} (w : World) (hl : Lies (· < w.heap.size) w (.node 3 x m []) (.agg #[.int .i64 3, .string x, .int .i64 m, .slice a 0 c])) (hx : x.size ≤ 1000) (h0 : 0 ≤ m) (dp : decide (2 ≤ m % 4) = false) :
    Calls Tryz.prog 15 #[.agg #[.int .i64 3, .string x, .int .i64 m, .slice a 0 c]] w fun e w' => e = .returned (.string (sx (barR 3 x m [] []))) ∧ Below w.heap.size w w' := by
  have c24 : Tryz.prog.cellsOf 24 = 4 := by kernel_rfl
  obtain ⟨LB, hLB⟩ : ∃ L, L = sx (labR m) := ⟨_, rfl⟩
  have LBc : ∀ W1, Calls Tryz.prog 36 #[.int .i64 m] W1 fun e w' => e = .returned (.string LB) ∧ Below W1.heap.size W1 w' := fun W1 => by
    rw [hLB]
    exact (rLabelP m h0 W1).mono fun e w' h => ⟨h.1, by rw [h.2]; exact Below.refl _ _⟩
  replace LBc := (show Hid _ from LBc)
  have zL : LB.size ≤ 5 := by rw [hLB, sx_size]; exact lab_len m
  have HR : Hid (sx (barR 3 x m [] []) = ((((⟨#[]⟩ : ByteArray) ++ LB) ++ x) ++ (⟨#[32, 59]⟩ : ByteArray))) := by
    show sx ((if 2 ≤ m % 4 then [112, 117, 98, 32] else []) ++ labR m ++ x.data.toList ++ [] ++ [32, 59]) = _
    rw [if_neg (of_decide_eq_false dp)]
    simp only [List.append_nil]
    rw [← sx_app, ← sx_app, ← sx_app, sx_data, hLB]
    rfl
  generalize sx (barR 3 x m [] []) = R at *
  clear hLB 
  unfold Lies at hl
  obtain ⟨a', c', e', ⟨hlen, hlc⟩, hat⟩ := hl
  simp only [Value.agg.injEq, Array.mk.injEq, List.cons.injEq, Value.slice.injEq, and_true, true_and] at e'
  obtain ⟨rfl, -, rfl⟩ := e'
  go_enter Tryz.func15, Tryz.ntmps15
  go_wp2
  have hbw : Below w.heap.size w (w.alloc (.cells #[.int .i64 3, .string x, .int .i64 m, .slice a 0 c] 24)).drew := ((Below.refl w.heap.size w).alloc (Nat.le_refl _) (.cells #[.int .i64 3, .string x, .int .i64 m, .slice a 0 c] 24)).drew
  obtain ⟨m0, m1, m2, m3, hW1, -⟩ := one_box ((Below.refl (w.heap.size + 1) (w.alloc (.cells #[.int .i64 3, .string x, .int .i64 m, .slice a 0 c] 24))).drew)
  refine wp_region_held_drew (S := fun W => Below (w.alloc (.cells #[.int .i64 3, .string x, .int .i64 m, .slice a 0 c] 24)).drew.heap.size (w.alloc (.cells #[.int .i64 3, .string x, .int .i64 m, .slice a 0 c] 24)).drew W) (by kernel_rfl) (Below.refl _ _) (fun hS => ?_)
  generalize (w.alloc (.cells #[.int .i64 3, .string x, .int .i64 m, .slice a 0 c] 24)).drew = W at *
  refine tkd (i := 0) (v := .string (⟨#[]⟩ : ByteArray)) rfl rfl (by kernel_rfl) (by kernel_rfl) (by kernel_rfl) (fun _ _ _ h => h) (Or.inl ⟨by rfl, fun wq hSw => by skip; go_simp⟩) hS ?_
  simp only [List.setIfInBounds_toArray, List.set_cons_zero, List.set_cons_succ]
  refine tkd (i := 1) (v := .pointer (some ⟨w.heap.size, 2, none⟩)) rfl rfl (by kernel_rfl) (by kernel_rfl) (by kernel_rfl) (fun _ _ _ h => h) (Or.inl ⟨by rfl, fun wq hSw => by skip; go_simp⟩) hS ?_
  simp only [List.setIfInBounds_toArray, List.set_cons_zero, List.set_cons_succ]
  refine tkd (i := 2) (v := .int .i64 m) rfl rfl (by kernel_rfl) (by kernel_rfl) (by kernel_rfl) (fun _ _ _ h => h) (Or.inl ⟨by rfl, fun wq hSw => by have q := pkeep m2 hSw; go_simp⟩) hS ?_
  simp only [List.setIfInBounds_toArray, List.set_cons_zero, List.set_cons_succ]
  refine tkd (i := 5) (v := .pointer (some ⟨w.heap.size, 1, none⟩)) rfl rfl (by kernel_rfl) (by kernel_rfl) (by kernel_rfl) (fun _ _ _ h => h) (Or.inl ⟨by rfl, fun wq hSw => by skip; go_simp⟩) hS ?_
  simp only [List.setIfInBounds_toArray, List.set_cons_zero, List.set_cons_succ]
  refine tkd (i := 6) (v := .string x) rfl rfl (by kernel_rfl) (by kernel_rfl) (by kernel_rfl) (fun _ _ _ h => h) (Or.inl ⟨by rfl, fun wq hSw => by have q := pkeep m1 hSw; go_simp⟩) hS ?_
  simp only [List.setIfInBounds_toArray, List.set_cons_zero, List.set_cons_succ]
  refine wpAnyH_lay [3, 4, 7, 8] [(59, 3), (60, 4), (63, 7), (8, 8)] (fun i v W2 => match i with | 3 => v = .string LB | 4 => v = .string ((⟨#[]⟩ : ByteArray) ++ LB) | 7 => v = .string (((⟨#[]⟩ : ByteArray) ++ LB) ++ x) | _ => v = .string (((⟨#[]⟩ : ByteArray) ++ LB) ++ x)) (by kernel_rfl) (by rfl) (by kernel_rfl) (by decide) (by kernel_rfl) hS ?_ ?_ ?_
  · intro j v W1 W2 hb h
    split at h
    all_goals first | exact h | exact h.below hb
  · skip
    refine Steps.consK [] rfl trivial (fun U W1 hS1 hR K hK => ?_) ?_
    · skip
      have hcc := LBc.out W1
      simp only [layS, putK, List.foldr, List.foldl, List.setIfInBounds_toArray, List.set_cons_zero, List.set_cons_succ, reduceIte, Nat.reduceEqDiff]
      go_simp
      go_at_call 36
      refine hcc.mono ?_
      rintro e W2 ⟨rfl, hb⟩
      go_wp2
      have hk := hK.out (.string LB) W2 (hS1.trans (hb.mono hS1.size)) hb rfl
      simp only [layS, putK, List.foldr, List.foldl, List.setIfInBounds_toArray, List.set_cons_zero, List.set_cons_succ, reduceIte, Nat.reduceEqDiff] at hk
      exact hk
    refine Steps.consK [(3, .string LB)] rfl ⟨⟨by kernel_rfl, fun _ _ h => h⟩, trivial⟩ (fun U W1 hS1 hR K hK => ?_) ?_
    · skip
      simp only [layS, putK, List.foldr, List.foldl, List.setIfInBounds_toArray, List.set_cons_zero, List.set_cons_succ, reduceIte, Nat.reduceEqDiff]
      go_simp
      rw [if_neg (by first | omega | (simp only [ByteArray.size_append]; omega))]
      go_simp
      have hk := hK.out (.string ((⟨#[]⟩ : ByteArray) ++ LB)) W1 hS1 (Below.refl _ _) rfl
      simp only [layS, putK, List.foldr, List.foldl, List.setIfInBounds_toArray, List.set_cons_zero, List.set_cons_succ, reduceIte, Nat.reduceEqDiff] at hk
      exact hk
    refine Steps.consK [(4, .string ((⟨#[]⟩ : ByteArray) ++ LB))] rfl ⟨⟨by kernel_rfl, fun _ _ h => h⟩, trivial⟩ (fun U W1 hS1 hR K hK => ?_) ?_
    · skip
      simp only [layS, putK, List.foldr, List.foldl, List.setIfInBounds_toArray, List.set_cons_zero, List.set_cons_succ, reduceIte, Nat.reduceEqDiff]
      go_simp
      rw [if_neg (by first | omega | (simp only [ByteArray.size_append]; omega))]
      go_simp
      have hk := hK.out (.string (((⟨#[]⟩ : ByteArray) ++ LB) ++ x)) W1 hS1 (Below.refl _ _) rfl
      simp only [layS, putK, List.foldr, List.foldl, List.setIfInBounds_toArray, List.set_cons_zero, List.set_cons_succ, reduceIte, Nat.reduceEqDiff] at hk
      exact hk
    refine Steps.consK [(7, .string (((⟨#[]⟩ : ByteArray) ++ LB) ++ x))] rfl ⟨⟨by kernel_rfl, fun _ _ h => h⟩, trivial⟩ (fun U W1 hS1 hR K hK => ?_) Steps.nil
    · skip
      simp only [layS, putK, List.foldr, List.foldl, List.setIfInBounds_toArray, List.set_cons_zero, List.set_cons_succ, reduceIte, Nat.reduceEqDiff]
      go_simp
      have hk := hK.out (.string (((⟨#[]⟩ : ByteArray) ++ LB) ++ x)) W1 hS1 (Below.refl _ _) rfl
      simp only [layS, putK, List.foldr, List.foldl, List.setIfInBounds_toArray, List.set_cons_zero, List.set_cons_succ, reduceIte, Nat.reduceEqDiff] at hk
      exact hk
  · intro U W1 hS1 hR
    have hdd : U 8 = .string (((⟨#[]⟩ : ByteArray) ++ LB) ++ x) := hR 8 (by simp)
    simp only [layS, putK, List.foldr, List.foldl, List.setIfInBounds_toArray, List.set_cons_zero, List.set_cons_succ, reduceIte, Nat.reduceEqDiff]
    rw [hdd]
    clear hdd hR
    have zE : (((⟨#[]⟩ : ByteArray) ++ LB) ++ x).size ≤ 1010 := by simp only [ByteArray.size_append]; have e1 : (⟨#[]⟩ : ByteArray).size ≤ 4 := (by decide); omega
    generalize (((⟨#[]⟩ : ByteArray) ++ LB) ++ x) = E at *
    have e3 : (E ++ (⟨#[32, 59]⟩ : ByteArray)).size = E.size + 2 := ByteArray.size_append
    go_wp2
    go_ret
    exact ⟨by rw [HR.out]; rfl, hbw.trans (hS1.mono hbw.size)⟩
set_option maxHeartbeats 8000000 in
theorem rShow3a1 {x : ByteArray} {m : Int} {t0 : Tree} {a : Option Addr} {c : Nat} (w : World) (hl : Lies (· < w.heap.size) w (.node 3 x m [t0]) (.agg #[.int .i64 3, .string x, .int .i64 m, .slice a 1 c])) (hk0 : ShowOk t0) (z0' : (showT t0).length ≤ 50000) (hx : x.size ≤ 1000) (h0 : 0 ≤ m) (dp : decide (2 ≤ m % 4) = false) :
    Calls Tryz.prog 15 #[.agg #[.int .i64 3, .string x, .int .i64 m, .slice a 1 c]] w fun e w' => e = .returned (.string (sx (barR 3 x m [t0] [showT t0]))) ∧ Below w.heap.size w w' := by
  have c24 : Tryz.prog.cellsOf 24 = 4 := by kernel_rfl
  obtain ⟨T0, hT0⟩ : ∃ T, T = sx (showT t0) := ⟨_, rfl⟩
  have z0 : T0.size ≤ 50000 := by rw [hT0, sx_size]; exact z0'
  replace hT0 := (show Hid _ from hT0)
  obtain ⟨LB, hLB⟩ : ∃ L, L = sx (labR m) := ⟨_, rfl⟩
  have LBc : ∀ W1, Calls Tryz.prog 36 #[.int .i64 m] W1 fun e w' => e = .returned (.string LB) ∧ Below W1.heap.size W1 w' := fun W1 => by
    rw [hLB]
    exact (rLabelP m h0 W1).mono fun e w' h => ⟨h.1, by rw [h.2]; exact Below.refl _ _⟩
  replace LBc := (show Hid _ from LBc)
  have zL : LB.size ≤ 5 := by rw [hLB, sx_size]; exact lab_len m
  have HR : Hid (sx (barR 3 x m [t0] [showT t0]) = (((((((⟨#[]⟩ : ByteArray) ++ LB) ++ x) ++ (⟨#[32, 91, 32]⟩ : ByteArray)) ++ T0) ++ (⟨#[32, 93]⟩ : ByteArray)) ++ (⟨#[32, 59]⟩ : ByteArray))) := by
    show sx ((if 2 ≤ m % 4 then [112, 117, 98, 32] else []) ++ labR m ++ x.data.toList ++ ([32, 91, 32] ++ showT t0 ++ [32, 93]) ++ [32, 59]) = _
    rw [if_neg (of_decide_eq_false dp)]
    rw [← List.append_assoc, ← List.append_assoc]
    rw [← sx_app, ← sx_app, ← sx_app, ← sx_app, ← sx_app, ← sx_app, sx_data, hLB, hT0.out]
    rfl
  generalize sx (barR 3 x m [t0] [showT t0]) = R at *
  clear hLB z0'
  unfold Lies at hl
  obtain ⟨a', c', e', ⟨hlen, hlc⟩, hat⟩ := hl
  simp only [Value.agg.injEq, Array.mk.injEq, List.cons.injEq, Value.slice.injEq, and_true, true_and] at e'
  obtain ⟨rfl, -, rfl⟩ := e'
  obtain ⟨g, o, rfl, hg, hat⟩ := hat (by simp)
  obtain ⟨v0, ⟨xa0, xb0, xc0, xd0, rfl, q00, q01, q02, q03⟩, l0⟩ := hat.get 0 (by simp)
  obtain ⟨xx0, mm0, aa0, nn0, cc0, rfl, rfl, rfl, rfl⟩ := lies_kind2 l0
  simp only [List.getElem_cons_zero, List.getElem_cons_succ, Nat.zero_mul, Nat.one_mul, Nat.reduceMul, Nat.add_zero, Nat.add_assoc, Nat.reduceAdd] at l0 q00 q01 q02 q03
  generalize hkd0 : kindT t0 = kd0 at *
  go_enter Tryz.func15, Tryz.ntmps15
  go_wp2
  have hbw : Below w.heap.size w (w.alloc (.cells #[.int .i64 3, .string x, .int .i64 m, .slice (some ⟨g, o, none⟩) 1 c] 24)).drew := ((Below.refl w.heap.size w).alloc (Nat.le_refl _) (.cells #[.int .i64 3, .string x, .int .i64 m, .slice (some ⟨g, o, none⟩) 1 c] 24)).drew
  have K0 : ∀ W1, Below ((w.alloc (.cells #[.int .i64 3, .string x, .int .i64 m, .slice (some ⟨g, o, none⟩) 1 c] 24)).drew).heap.size ((w.alloc (.cells #[.int .i64 3, .string x, .int .i64 m, .slice (some ⟨g, o, none⟩) 1 c] 24)).drew) W1 → Calls Tryz.prog 15 #[.agg #[.int .i64 kd0, .string xx0, .int .i64 mm0, .slice aa0 nn0 cc0]] W1 fun e w' => e = .returned (.string T0) ∧ Below W1.heap.size W1 w' := fun W1 hb => by
    rw [hT0.out]
    exact hk0 _ _ (Lies.below (Lies.below l0 hbw) hb)
  have r00 := (hbw.cell (p := ⟨g, o, none⟩) hg).trans q00
  have r01 := (hbw.cell (p := ⟨g, o + 1, none⟩) hg).trans q01
  have r02 := (hbw.cell (p := ⟨g, o + 2, none⟩) hg).trans q02
  have r03 := (hbw.cell (p := ⟨g, o + 3, none⟩) hg).trans q03
  obtain ⟨m0, m1, m2, m3, hW1, -⟩ := one_box ((Below.refl (w.heap.size + 1) (w.alloc (.cells #[.int .i64 3, .string x, .int .i64 m, .slice (some ⟨g, o, none⟩) 1 c] 24))).drew)
  replace K0 := (show Hid _ from K0)
  clear q00 q01 q02 q03 l0 hat 
  refine wp_region_held_drew (S := fun W => Below (w.alloc (.cells #[.int .i64 3, .string x, .int .i64 m, .slice (some ⟨g, o, none⟩) 1 c] 24)).drew.heap.size (w.alloc (.cells #[.int .i64 3, .string x, .int .i64 m, .slice (some ⟨g, o, none⟩) 1 c] 24)).drew W) (by kernel_rfl) (Below.refl _ _) (fun hS => ?_)
  generalize (w.alloc (.cells #[.int .i64 3, .string x, .int .i64 m, .slice (some ⟨g, o, none⟩) 1 c] 24)).drew = W at *
  refine tkd (i := 0) (v := .string (⟨#[]⟩ : ByteArray)) rfl rfl (by kernel_rfl) (by kernel_rfl) (by kernel_rfl) (fun _ _ _ h => h) (Or.inl ⟨by rfl, fun wq hSw => by skip; go_simp⟩) hS ?_
  simp only [List.setIfInBounds_toArray, List.set_cons_zero, List.set_cons_succ]
  refine tkd (i := 1) (v := .pointer (some ⟨w.heap.size, 2, none⟩)) rfl rfl (by kernel_rfl) (by kernel_rfl) (by kernel_rfl) (fun _ _ _ h => h) (Or.inl ⟨by rfl, fun wq hSw => by skip; go_simp⟩) hS ?_
  simp only [List.setIfInBounds_toArray, List.set_cons_zero, List.set_cons_succ]
  refine tkd (i := 2) (v := .int .i64 m) rfl rfl (by kernel_rfl) (by kernel_rfl) (by kernel_rfl) (fun _ _ _ h => h) (Or.inl ⟨by rfl, fun wq hSw => by have q := pkeep m2 hSw; go_simp⟩) hS ?_
  simp only [List.setIfInBounds_toArray, List.set_cons_zero, List.set_cons_succ]
  refine tkd (i := 5) (v := .pointer (some ⟨w.heap.size, 1, none⟩)) rfl rfl (by kernel_rfl) (by kernel_rfl) (by kernel_rfl) (fun _ _ _ h => h) (Or.inl ⟨by rfl, fun wq hSw => by skip; go_simp⟩) hS ?_
  simp only [List.setIfInBounds_toArray, List.set_cons_zero, List.set_cons_succ]
  refine tkd (i := 6) (v := .string x) rfl rfl (by kernel_rfl) (by kernel_rfl) (by kernel_rfl) (fun _ _ _ h => h) (Or.inl ⟨by rfl, fun wq hSw => by have q := pkeep m1 hSw; go_simp⟩) hS ?_
  simp only [List.setIfInBounds_toArray, List.set_cons_zero, List.set_cons_succ]
  refine wpAnyH_lay [3, 4, 7, 8] [(59, 3), (60, 4), (63, 7), (8, 8)] (fun i v W2 => match i with | 3 => v = .string LB | 4 => v = .string ((⟨#[]⟩ : ByteArray) ++ LB) | 7 => v = .string (((⟨#[]⟩ : ByteArray) ++ LB) ++ x) | _ => v = .string (((⟨#[]⟩ : ByteArray) ++ LB) ++ x)) (by kernel_rfl) (by rfl) (by kernel_rfl) (by decide) (by kernel_rfl) hS ?_ ?_ ?_
  · intro j v W1 W2 hb h
    split at h
    all_goals first | exact h | exact h.below hb
  · skip
    refine Steps.consK [] rfl trivial (fun U W1 hS1 hR K hK => ?_) ?_
    · skip
      have hcc := LBc.out W1
      simp only [layS, putK, List.foldr, List.foldl, List.setIfInBounds_toArray, List.set_cons_zero, List.set_cons_succ, reduceIte, Nat.reduceEqDiff]
      go_simp
      go_at_call 36
      refine hcc.mono ?_
      rintro e W2 ⟨rfl, hb⟩
      go_wp2
      have hk := hK.out (.string LB) W2 (hS1.trans (hb.mono hS1.size)) hb rfl
      simp only [layS, putK, List.foldr, List.foldl, List.setIfInBounds_toArray, List.set_cons_zero, List.set_cons_succ, reduceIte, Nat.reduceEqDiff] at hk
      exact hk
    refine Steps.consK [(3, .string LB)] rfl ⟨⟨by kernel_rfl, fun _ _ h => h⟩, trivial⟩ (fun U W1 hS1 hR K hK => ?_) ?_
    · skip
      simp only [layS, putK, List.foldr, List.foldl, List.setIfInBounds_toArray, List.set_cons_zero, List.set_cons_succ, reduceIte, Nat.reduceEqDiff]
      go_simp
      rw [if_neg (by first | omega | (simp only [ByteArray.size_append]; omega))]
      go_simp
      have hk := hK.out (.string ((⟨#[]⟩ : ByteArray) ++ LB)) W1 hS1 (Below.refl _ _) rfl
      simp only [layS, putK, List.foldr, List.foldl, List.setIfInBounds_toArray, List.set_cons_zero, List.set_cons_succ, reduceIte, Nat.reduceEqDiff] at hk
      exact hk
    refine Steps.consK [(4, .string ((⟨#[]⟩ : ByteArray) ++ LB))] rfl ⟨⟨by kernel_rfl, fun _ _ h => h⟩, trivial⟩ (fun U W1 hS1 hR K hK => ?_) ?_
    · skip
      simp only [layS, putK, List.foldr, List.foldl, List.setIfInBounds_toArray, List.set_cons_zero, List.set_cons_succ, reduceIte, Nat.reduceEqDiff]
      go_simp
      rw [if_neg (by first | omega | (simp only [ByteArray.size_append]; omega))]
      go_simp
      have hk := hK.out (.string (((⟨#[]⟩ : ByteArray) ++ LB) ++ x)) W1 hS1 (Below.refl _ _) rfl
      simp only [layS, putK, List.foldr, List.foldl, List.setIfInBounds_toArray, List.set_cons_zero, List.set_cons_succ, reduceIte, Nat.reduceEqDiff] at hk
      exact hk
    refine Steps.consK [(7, .string (((⟨#[]⟩ : ByteArray) ++ LB) ++ x))] rfl ⟨⟨by kernel_rfl, fun _ _ h => h⟩, trivial⟩ (fun U W1 hS1 hR K hK => ?_) Steps.nil
    · skip
      simp only [layS, putK, List.foldr, List.foldl, List.setIfInBounds_toArray, List.set_cons_zero, List.set_cons_succ, reduceIte, Nat.reduceEqDiff]
      go_simp
      have hk := hK.out (.string (((⟨#[]⟩ : ByteArray) ++ LB) ++ x)) W1 hS1 (Below.refl _ _) rfl
      simp only [layS, putK, List.foldr, List.foldl, List.setIfInBounds_toArray, List.set_cons_zero, List.set_cons_succ, reduceIte, Nat.reduceEqDiff] at hk
      exact hk
  · intro U W1 hS1 hR
    have hdd : U 8 = .string (((⟨#[]⟩ : ByteArray) ++ LB) ++ x) := hR 8 (by simp)
    simp only [layS, putK, List.foldr, List.foldl, List.setIfInBounds_toArray, List.set_cons_zero, List.set_cons_succ, reduceIte, Nat.reduceEqDiff]
    rw [hdd]
    clear hdd hR
    have zE : (((⟨#[]⟩ : ByteArray) ++ LB) ++ x).size ≤ 1010 := by simp only [ByteArray.size_append]; have e1 : (⟨#[]⟩ : ByteArray).size ≤ 4 := (by decide); omega
    generalize (((⟨#[]⟩ : ByteArray) ++ LB) ++ x) = E at *
    have s3 : w.heap.size < W1.heap.size := by have := hS1.size; omega
    have q23 := pkeep m3 hS1
    have K0' := K0.out W1 hS1
    have r00' := pkeep r00 hS1
    have r01' := pkeep r01 hS1
    have r02' := pkeep r02 hS1
    have r03' := pkeep r03 hS1
    clear m0 m1 m2 m3 r00 r01 r02 r03
    have e3 : (E ++ (⟨#[32, 91, 32]⟩ : ByteArray)).size = E.size + 3 := ByteArray.size_append
    have e4 : ((E ++ (⟨#[32, 91, 32]⟩ : ByteArray)) ++ T0).size = (E ++ (⟨#[32, 91, 32]⟩ : ByteArray)).size + T0.size := ByteArray.size_append
    have e5 : (((E ++ (⟨#[32, 91, 32]⟩ : ByteArray)) ++ T0) ++ (⟨#[32, 93]⟩ : ByteArray)).size = ((E ++ (⟨#[32, 91, 32]⟩ : ByteArray)) ++ T0).size + 2 := ByteArray.size_append
    have e6 : ((((E ++ (⟨#[32, 91, 32]⟩ : ByteArray)) ++ T0) ++ (⟨#[32, 93]⟩ : ByteArray)) ++ (⟨#[32, 59]⟩ : ByteArray)).size = (((E ++ (⟨#[32, 91, 32]⟩ : ByteArray)) ++ T0) ++ (⟨#[32, 93]⟩ : ByteArray)).size + 2 := ByteArray.size_append
    go_wp2_with (go_at_call 15; refine K0'.mono ?_; rintro e w9 ⟨rfl, hb9⟩)
    go_ret
    exact ⟨by rw [HR.out]; rfl, (hbw.trans (hS1.mono hbw.size)).trans (hb9.mono (Nat.le_trans hbw.size hS1.size))⟩
end pr
end Go.Proofs.YtkoomoemkffjkaaGreatDoor
