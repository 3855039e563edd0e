/- What the reference's Show answers of nodes of a kind, once it does of the kids: contracts. (Written by mkshow.py: edit that.) -/
import Derived.Test.YtkoomoemkffjkaaGreatDoorNP07
set_option linter.unusedVariables false
set_option linter.unusedSimpArgs false
set_option maxRecDepth 100000
namespace Go.Proofs.YtkoomoemkffjkaaGreatDoor
namespace pr
open Go.RowKit
open Go.Proofs.YtkoomoemkffjkaaGreatDoor.syn Go.Proofs.YtkoomoemkffjkaaGreatDoor.face Go.Proofs.YtkoomoemkffjkaaGreatDoor.chk
open Go.Proofs.YtkoomoemkffjkaaGreatDoor.ord (tkd)
open Go.Proofs.YtkoomoemkffjkaaGreatDoor.reg
set_option maxHeartbeats 8000000 in
theorem rShow8 {x : ByteArray} {t0 t1 : Tree} {a : Option Addr} {c : Nat} (w : World) (hl : Lies (· < w.heap.size) w (.node 8 x 0 [t0, t1]) (.agg #[.int .i64 8, .string x, .int .i64 0, .slice a 2 c])) (hk0 : ShowOk t0) (z0' : (showT t0).length ≤ 50000) (hk1 : ShowOk t1) (z1' : (showT t1).length ≤ 50000) :
    Calls Tryz.prog 15 #[.agg #[.int .i64 8, .string x, .int .i64 0, .slice a 2 c]] w fun e w' => e = .returned (.string (sx (barR 8 x 0 [t0, t1] [showT t0, showT t1]))) ∧ Below w.heap.size w w' := by
  have c24 : Tryz.prog.cellsOf 24 = 4 := by kernel_rfl
  obtain ⟨T0, hT0⟩ : ∃ T, T = sx (showT t0) := ⟨_, rfl⟩
  have z0 : T0.size ≤ 50000 := by rw [hT0, sx_size]; exact z0'
  replace hT0 := (show Hid _ from hT0)
  obtain ⟨T1, hT1⟩ : ∃ T, T = sx (showT t1) := ⟨_, rfl⟩
  have z1 : T1.size ≤ 50000 := by rw [hT1, sx_size]; exact z1'
  replace hT1 := (show Hid _ from hT1)
  have HR : Hid (sx (barR 8 x 0 [t0, t1] [showT t0, showT t1]) = (((T0 ++ (⟨#[32, 61, 32]⟩ : ByteArray)) ++ T1) ++ (⟨#[32, 59]⟩ : ByteArray))) := by
    show sx (showT t0 ++ [32, 61, 32] ++ showT t1 ++ [32, 59]) = _
    rw [← sx_app, ← sx_app, ← sx_app, hT0.out, hT1.out]
    rfl
  generalize sx (barR 8 x 0 [t0, t1] [showT t0, showT t1]) = R at *
  clear z0' z1'
  unfold Lies at hl
  obtain ⟨a', c', e', ⟨hlen, hlc⟩, hat⟩ := hl
  simp only [Value.agg.injEq, Array.mk.injEq, List.cons.injEq, Value.slice.injEq, and_true, true_and] at e'
  obtain ⟨rfl, -, rfl⟩ := e'
  obtain ⟨g, o, rfl, hg, hat⟩ := hat (by simp)
  obtain ⟨v0, ⟨xa0, xb0, xc0, xd0, rfl, q00, q01, q02, q03⟩, l0⟩ := hat.get 0 (by simp)
  obtain ⟨xx0, mm0, aa0, nn0, cc0, rfl, rfl, rfl, rfl⟩ := lies_kind2 l0
  obtain ⟨v1, ⟨xa1, xb1, xc1, xd1, rfl, q10, q11, q12, q13⟩, l1⟩ := hat.get 1 (by simp)
  obtain ⟨xx1, mm1, aa1, nn1, cc1, rfl, rfl, rfl, rfl⟩ := lies_kind2 l1
  simp only [List.getElem_cons_zero, List.getElem_cons_succ, Nat.zero_mul, Nat.one_mul, Nat.reduceMul, Nat.add_zero, Nat.add_assoc, Nat.reduceAdd] at l0 q00 q01 q02 q03 l1 q10 q11 q12 q13
  generalize hkd0 : kindT t0 = kd0 at *
  generalize hkd1 : kindT t1 = kd1 at *
  go_enter Tryz.func15, Tryz.ntmps15
  go_wp2
  have hbw : Below w.heap.size w (w.alloc (.cells #[.int .i64 8, .string x, .int .i64 0, .slice (some ⟨g, o, none⟩) 2 c] 24)).drew := ((Below.refl w.heap.size w).alloc (Nat.le_refl _) (.cells #[.int .i64 8, .string x, .int .i64 0, .slice (some ⟨g, o, none⟩) 2 c] 24)).drew
  have K0 : ∀ W1, Below ((w.alloc (.cells #[.int .i64 8, .string x, .int .i64 0, .slice (some ⟨g, o, none⟩) 2 c] 24)).drew).heap.size ((w.alloc (.cells #[.int .i64 8, .string x, .int .i64 0, .slice (some ⟨g, o, none⟩) 2 c] 24)).drew) W1 → Calls Tryz.prog 15 #[.agg #[.int .i64 kd0, .string xx0, .int .i64 mm0, .slice aa0 nn0 cc0]] W1 fun e w' => e = .returned (.string T0) ∧ Below W1.heap.size W1 w' := fun W1 hb => by
    rw [hT0.out]
    exact hk0 _ _ (Lies.below (Lies.below l0 hbw) hb)
  have r00 := (hbw.cell (p := ⟨g, o, none⟩) hg).trans q00
  have r01 := (hbw.cell (p := ⟨g, o + 1, none⟩) hg).trans q01
  have r02 := (hbw.cell (p := ⟨g, o + 2, none⟩) hg).trans q02
  have r03 := (hbw.cell (p := ⟨g, o + 3, none⟩) hg).trans q03
  have K1 : ∀ W1, Below ((w.alloc (.cells #[.int .i64 8, .string x, .int .i64 0, .slice (some ⟨g, o, none⟩) 2 c] 24)).drew).heap.size ((w.alloc (.cells #[.int .i64 8, .string x, .int .i64 0, .slice (some ⟨g, o, none⟩) 2 c] 24)).drew) W1 → Calls Tryz.prog 15 #[.agg #[.int .i64 kd1, .string xx1, .int .i64 mm1, .slice aa1 nn1 cc1]] W1 fun e w' => e = .returned (.string T1) ∧ Below W1.heap.size W1 w' := fun W1 hb => by
    rw [hT1.out]
    exact hk1 _ _ (Lies.below (Lies.below l1 hbw) hb)
  have r10 := (hbw.cell (p := ⟨g, o + 4, none⟩) hg).trans q10
  have r11 := (hbw.cell (p := ⟨g, o + 5, none⟩) hg).trans q11
  have r12 := (hbw.cell (p := ⟨g, o + 6, none⟩) hg).trans q12
  have r13 := (hbw.cell (p := ⟨g, o + 7, none⟩) hg).trans q13
  obtain ⟨m0, m1, m2, m3, hW1, -⟩ := one_box ((Below.refl (w.heap.size + 1) (w.alloc (.cells #[.int .i64 8, .string x, .int .i64 0, .slice (some ⟨g, o, none⟩) 2 c] 24))).drew)
  replace K0 := (show Hid _ from K0)
  replace K1 := (show Hid _ from K1)
  clear q00 q01 q02 q03 l0 q10 q11 q12 q13 l1 hat 
  refine wp_region_held_drew (S := fun W => Below (w.alloc (.cells #[.int .i64 8, .string x, .int .i64 0, .slice (some ⟨g, o, none⟩) 2 c] 24)).drew.heap.size (w.alloc (.cells #[.int .i64 8, .string x, .int .i64 0, .slice (some ⟨g, o, none⟩) 2 c] 24)).drew W) (by kernel_rfl) (Below.refl _ _) (fun hS => ?_)
  generalize (w.alloc (.cells #[.int .i64 8, .string x, .int .i64 0, .slice (some ⟨g, o, none⟩) 2 c] 24)).drew = W at *
  refine tkd (i := 0) (v := .pointer (some ⟨w.heap.size, 3, none⟩)) rfl rfl (by kernel_rfl) (by kernel_rfl) (by kernel_rfl) (fun _ _ _ h => h) (Or.inl ⟨by rfl, fun wq hSw => by skip; go_simp⟩) hS ?_
  simp only [List.setIfInBounds_toArray, List.set_cons_zero, List.set_cons_succ]
  refine tkd (i := 1) (v := .slice (some ⟨g, o, none⟩) 2 c) rfl rfl (by kernel_rfl) (by kernel_rfl) (by kernel_rfl) (fun _ _ _ h => h) (Or.inl ⟨by rfl, fun wq hSw => by have q := pkeep m3 hSw; go_simp⟩) hS ?_
  simp only [List.setIfInBounds_toArray, List.set_cons_zero, List.set_cons_succ]
  refine tkd (i := 2) (v := .pointer (some ⟨g, o, none⟩)) rfl rfl (by kernel_rfl) (by kernel_rfl) (by kernel_rfl) (fun _ _ _ h => h) (Or.inl ⟨by rfl, fun wq hSw => by skip; go_simp⟩) hS ?_
  simp only [List.setIfInBounds_toArray, List.set_cons_zero, List.set_cons_succ]
  refine tkd (i := 3) (v := .agg #[.int .i64 kd0, .string xx0, .int .i64 mm0, .slice aa0 nn0 cc0] ) rfl rfl (by kernel_rfl) (by kernel_rfl) (by kernel_rfl) (fun _ _ _ h => h) (Or.inl ⟨by rfl, fun wq hSw => by have e0 := pkeep r00 hSw; have e1 := pkeep r01 hSw; have e2 := pkeep r02 hSw; have e3 := pkeep r03 hSw; go_simp⟩) hS ?_
  simp only [List.setIfInBounds_toArray, List.set_cons_zero, List.set_cons_succ]
  refine tkd (i := 6) (v := .pointer (some ⟨w.heap.size, 3, none⟩)) rfl rfl (by kernel_rfl) (by kernel_rfl) (by kernel_rfl) (fun _ _ _ h => h) (Or.inl ⟨by rfl, fun wq hSw => by skip; go_simp⟩) hS ?_
  simp only [List.setIfInBounds_toArray, List.set_cons_zero, List.set_cons_succ]
  refine tkd (i := 7) (v := .slice (some ⟨g, o, none⟩) 2 c) rfl rfl (by kernel_rfl) (by kernel_rfl) (by kernel_rfl) (fun _ _ _ h => h) (Or.inl ⟨by rfl, fun wq hSw => by have q := pkeep m3 hSw; go_simp⟩) hS ?_
  simp only [List.setIfInBounds_toArray, List.set_cons_zero, List.set_cons_succ]
  refine tkd (i := 8) (v := .pointer (some ⟨g, o + 4, none⟩)) rfl rfl (by kernel_rfl) (by kernel_rfl) (by kernel_rfl) (fun _ _ _ h => h) (Or.inl ⟨by rfl, fun wq hSw => by skip; go_simp⟩) hS ?_
  simp only [List.setIfInBounds_toArray, List.set_cons_zero, List.set_cons_succ]
  refine tkd (i := 9) (v := .agg #[.int .i64 kd1, .string xx1, .int .i64 mm1, .slice aa1 nn1 cc1] ) rfl rfl (by kernel_rfl) (by kernel_rfl) (by kernel_rfl) (fun _ _ _ h => h) (Or.inl ⟨by rfl, fun wq hSw => by have e0 := pkeep r10 hSw; have e1 := pkeep r11 hSw; have e2 := pkeep r12 hSw; have e3 := pkeep r13 hSw; go_simp⟩) hS ?_
  simp only [List.setIfInBounds_toArray, List.set_cons_zero, List.set_cons_succ]
  refine wpAnyH_lay [4, 5, 10, 11, 12, 13] [(153, 4), (154, 5), (159, 10), (160, 11), (161, 12), (2, 13)] (fun i v W2 => match i with | 4 => v = .string T0 | 5 => v = .string (T0 ++ (⟨#[32, 61, 32]⟩ : ByteArray)) | 10 => v = .string T1 | 11 => v = .string ((T0 ++ (⟨#[32, 61, 32]⟩ : ByteArray)) ++ T1) | 12 => v = .string (((T0 ++ (⟨#[32, 61, 32]⟩ : ByteArray)) ++ T1) ++ (⟨#[32, 59]⟩ : ByteArray)) | _ => v = .string (((T0 ++ (⟨#[32, 61, 32]⟩ : ByteArray)) ++ T1) ++ (⟨#[32, 59]⟩ : ByteArray))) (by kernel_rfl) (by rfl) (by kernel_rfl) (by decide) (by kernel_rfl) hS ?_ ?_ ?_
  · intro j v W1 W2 hb h
    split at h
    all_goals first | exact h | exact h.below hb
  · skip
    refine Steps.consK [] rfl trivial (fun U W1 hS1 hR K hK => ?_) ?_
    · skip
      have hcc := K0.out W1 hS1
      simp only [layS, putK, List.foldr, List.foldl, List.setIfInBounds_toArray, List.set_cons_zero, List.set_cons_succ, reduceIte, Nat.reduceEqDiff]
      go_simp
      go_at_call 15
      refine hcc.mono ?_
      rintro e W2 ⟨rfl, hb⟩
      go_wp2
      have hk := hK.out (.string T0) W2 (hS1.trans (hb.mono hS1.size)) hb rfl
      simp only [layS, putK, List.foldr, List.foldl, List.setIfInBounds_toArray, List.set_cons_zero, List.set_cons_succ, reduceIte, Nat.reduceEqDiff] at hk
      exact hk
    refine Steps.consK [(4, .string T0)] rfl ⟨⟨by kernel_rfl, fun _ _ h => h⟩, trivial⟩ (fun U W1 hS1 hR K hK => ?_) ?_
    · skip
      simp only [layS, putK, List.foldr, List.foldl, List.setIfInBounds_toArray, List.set_cons_zero, List.set_cons_succ, reduceIte, Nat.reduceEqDiff]
      go_simp
      rw [if_neg (by first | omega | (simp only [ByteArray.size_append]; omega))]
      go_simp
      have hk := hK.out (.string (T0 ++ (⟨#[32, 61, 32]⟩ : ByteArray))) W1 hS1 (Below.refl _ _) rfl
      simp only [layS, putK, List.foldr, List.foldl, List.setIfInBounds_toArray, List.set_cons_zero, List.set_cons_succ, reduceIte, Nat.reduceEqDiff] at hk
      exact hk
    refine Steps.consK [] rfl trivial (fun U W1 hS1 hR K hK => ?_) ?_
    · skip
      have hcc := K1.out W1 hS1
      simp only [layS, putK, List.foldr, List.foldl, List.setIfInBounds_toArray, List.set_cons_zero, List.set_cons_succ, reduceIte, Nat.reduceEqDiff]
      go_simp
      go_at_call 15
      refine hcc.mono ?_
      rintro e W2 ⟨rfl, hb⟩
      go_wp2
      have hk := hK.out (.string T1) W2 (hS1.trans (hb.mono hS1.size)) hb rfl
      simp only [layS, putK, List.foldr, List.foldl, List.setIfInBounds_toArray, List.set_cons_zero, List.set_cons_succ, reduceIte, Nat.reduceEqDiff] at hk
      exact hk
    refine Steps.consK [(5, .string (T0 ++ (⟨#[32, 61, 32]⟩ : ByteArray))), (10, .string T1)] rfl ⟨⟨by kernel_rfl, fun _ _ h => h⟩, ⟨by kernel_rfl, fun _ _ h => h⟩, trivial⟩ (fun U W1 hS1 hR K hK => ?_) ?_
    · skip
      simp only [layS, putK, List.foldr, List.foldl, List.setIfInBounds_toArray, List.set_cons_zero, List.set_cons_succ, reduceIte, Nat.reduceEqDiff]
      go_simp
      rw [if_neg (by first | omega | (simp only [ByteArray.size_append]; omega))]
      go_simp
      have hk := hK.out (.string ((T0 ++ (⟨#[32, 61, 32]⟩ : ByteArray)) ++ T1)) W1 hS1 (Below.refl _ _) rfl
      simp only [layS, putK, List.foldr, List.foldl, List.setIfInBounds_toArray, List.set_cons_zero, List.set_cons_succ, reduceIte, Nat.reduceEqDiff] at hk
      exact hk
    refine Steps.consK [(11, .string ((T0 ++ (⟨#[32, 61, 32]⟩ : ByteArray)) ++ T1))] rfl ⟨⟨by kernel_rfl, fun _ _ h => h⟩, trivial⟩ (fun U W1 hS1 hR K hK => ?_) ?_
    · skip
      simp only [layS, putK, List.foldr, List.foldl, List.setIfInBounds_toArray, List.set_cons_zero, List.set_cons_succ, reduceIte, Nat.reduceEqDiff]
      go_simp
      rw [if_neg (by first | omega | (simp only [ByteArray.size_append]; omega))]
      go_simp
      have hk := hK.out (.string (((T0 ++ (⟨#[32, 61, 32]⟩ : ByteArray)) ++ T1) ++ (⟨#[32, 59]⟩ : ByteArray))) W1 hS1 (Below.refl _ _) rfl
      simp only [layS, putK, List.foldr, List.foldl, List.setIfInBounds_toArray, List.set_cons_zero, List.set_cons_succ, reduceIte, Nat.reduceEqDiff] at hk
      exact hk
    refine Steps.consK [(12, .string (((T0 ++ (⟨#[32, 61, 32]⟩ : ByteArray)) ++ T1) ++ (⟨#[32, 59]⟩ : ByteArray)))] rfl ⟨⟨by kernel_rfl, fun _ _ h => h⟩, trivial⟩ (fun U W1 hS1 hR K hK => ?_) Steps.nil
    · skip
      simp only [layS, putK, List.foldr, List.foldl, List.setIfInBounds_toArray, List.set_cons_zero, List.set_cons_succ, reduceIte, Nat.reduceEqDiff]
      go_simp
      have hk := hK.out (.string (((T0 ++ (⟨#[32, 61, 32]⟩ : ByteArray)) ++ T1) ++ (⟨#[32, 59]⟩ : ByteArray))) W1 hS1 (Below.refl _ _) rfl
      simp only [layS, putK, List.foldr, List.foldl, List.setIfInBounds_toArray, List.set_cons_zero, List.set_cons_succ, reduceIte, Nat.reduceEqDiff] at hk
      exact hk
  · intro U W1 hS1 hR
    have hdd : U 13 = .string (((T0 ++ (⟨#[32, 61, 32]⟩ : ByteArray)) ++ T1) ++ (⟨#[32, 59]⟩ : ByteArray)) := hR 13 (by simp)
    simp only [layS, putK, List.foldr, List.foldl, List.setIfInBounds_toArray, List.set_cons_zero, List.set_cons_succ, reduceIte, Nat.reduceEqDiff]
    rw [hdd]
    clear hdd hR
    go_wp2
    go_ret
    exact ⟨by rw [HR.out]; rfl, hbw.trans (hS1.mono hbw.size)⟩
set_option maxHeartbeats 8000000 in
theorem rShow11 {x : ByteArray} {t0 t1 : Tree} {a : Option Addr} {c : Nat} (w : World) (hl : Lies (· < w.heap.size) w (.node 11 x 0 [t0, t1]) (.agg #[.int .i64 11, .string x, .int .i64 0, .slice a 2 c])) (hk0 : ShowOk t0) (z0' : (showT t0).length ≤ 50000) (hk1 : ShowOk t1) (z1' : (showT t1).length ≤ 50000) :
    Calls Tryz.prog 15 #[.agg #[.int .i64 11, .string x, .int .i64 0, .slice a 2 c]] w fun e w' => e = .returned (.string (sx (barR 11 x 0 [t0, t1] [showT t0, showT t1]))) ∧ Below w.heap.size w w' := by
  have c24 : Tryz.prog.cellsOf 24 = 4 := by kernel_rfl
  obtain ⟨T0, hT0⟩ : ∃ T, T = sx (showT t0) := ⟨_, rfl⟩
  have z0 : T0.size ≤ 50000 := by rw [hT0, sx_size]; exact z0'
  replace hT0 := (show Hid _ from hT0)
  obtain ⟨T1, hT1⟩ : ∃ T, T = sx (showT t1) := ⟨_, rfl⟩
  have z1 : T1.size ≤ 50000 := by rw [hT1, sx_size]; exact z1'
  replace hT1 := (show Hid _ from hT1)
  have HR : Hid (sx (barR 11 x 0 [t0, t1] [showT t0, showT t1]) = ((((⟨#[119, 104, 105, 108, 101, 32, 40, 32]⟩ : ByteArray) ++ T0) ++ (⟨#[32, 41, 32]⟩ : ByteArray)) ++ T1)) := by
    show sx ([119, 104, 105, 108, 101, 32, 40, 32] ++ showT t0 ++ [32, 41, 32] ++ showT t1) = _
    rw [← sx_app, ← sx_app, ← sx_app, hT0.out, hT1.out]
    rfl
  generalize sx (barR 11 x 0 [t0, t1] [showT t0, showT t1]) = R at *
  clear z0' z1'
  unfold Lies at hl
  obtain ⟨a', c', e', ⟨hlen, hlc⟩, hat⟩ := hl
  simp only [Value.agg.injEq, Array.mk.injEq, List.cons.injEq, Value.slice.injEq, and_true, true_and] at e'
  obtain ⟨rfl, -, rfl⟩ := e'
  obtain ⟨g, o, rfl, hg, hat⟩ := hat (by simp)
  obtain ⟨v0, ⟨xa0, xb0, xc0, xd0, rfl, q00, q01, q02, q03⟩, l0⟩ := hat.get 0 (by simp)
  obtain ⟨xx0, mm0, aa0, nn0, cc0, rfl, rfl, rfl, rfl⟩ := lies_kind2 l0
  obtain ⟨v1, ⟨xa1, xb1, xc1, xd1, rfl, q10, q11, q12, q13⟩, l1⟩ := hat.get 1 (by simp)
  obtain ⟨xx1, mm1, aa1, nn1, cc1, rfl, rfl, rfl, rfl⟩ := lies_kind2 l1
  simp only [List.getElem_cons_zero, List.getElem_cons_succ, Nat.zero_mul, Nat.one_mul, Nat.reduceMul, Nat.add_zero, Nat.add_assoc, Nat.reduceAdd] at l0 q00 q01 q02 q03 l1 q10 q11 q12 q13
  generalize hkd0 : kindT t0 = kd0 at *
  generalize hkd1 : kindT t1 = kd1 at *
  go_enter Tryz.func15, Tryz.ntmps15
  go_wp2
  have hbw : Below w.heap.size w (w.alloc (.cells #[.int .i64 11, .string x, .int .i64 0, .slice (some ⟨g, o, none⟩) 2 c] 24)).drew := ((Below.refl w.heap.size w).alloc (Nat.le_refl _) (.cells #[.int .i64 11, .string x, .int .i64 0, .slice (some ⟨g, o, none⟩) 2 c] 24)).drew
  have K0 : ∀ W1, Below ((w.alloc (.cells #[.int .i64 11, .string x, .int .i64 0, .slice (some ⟨g, o, none⟩) 2 c] 24)).drew).heap.size ((w.alloc (.cells #[.int .i64 11, .string x, .int .i64 0, .slice (some ⟨g, o, none⟩) 2 c] 24)).drew) W1 → Calls Tryz.prog 15 #[.agg #[.int .i64 kd0, .string xx0, .int .i64 mm0, .slice aa0 nn0 cc0]] W1 fun e w' => e = .returned (.string T0) ∧ Below W1.heap.size W1 w' := fun W1 hb => by
    rw [hT0.out]
    exact hk0 _ _ (Lies.below (Lies.below l0 hbw) hb)
  have r00 := (hbw.cell (p := ⟨g, o, none⟩) hg).trans q00
  have r01 := (hbw.cell (p := ⟨g, o + 1, none⟩) hg).trans q01
  have r02 := (hbw.cell (p := ⟨g, o + 2, none⟩) hg).trans q02
  have r03 := (hbw.cell (p := ⟨g, o + 3, none⟩) hg).trans q03
  have K1 : ∀ W1, Below ((w.alloc (.cells #[.int .i64 11, .string x, .int .i64 0, .slice (some ⟨g, o, none⟩) 2 c] 24)).drew).heap.size ((w.alloc (.cells #[.int .i64 11, .string x, .int .i64 0, .slice (some ⟨g, o, none⟩) 2 c] 24)).drew) W1 → Calls Tryz.prog 15 #[.agg #[.int .i64 kd1, .string xx1, .int .i64 mm1, .slice aa1 nn1 cc1]] W1 fun e w' => e = .returned (.string T1) ∧ Below W1.heap.size W1 w' := fun W1 hb => by
    rw [hT1.out]
    exact hk1 _ _ (Lies.below (Lies.below l1 hbw) hb)
  have r10 := (hbw.cell (p := ⟨g, o + 4, none⟩) hg).trans q10
  have r11 := (hbw.cell (p := ⟨g, o + 5, none⟩) hg).trans q11
  have r12 := (hbw.cell (p := ⟨g, o + 6, none⟩) hg).trans q12
  have r13 := (hbw.cell (p := ⟨g, o + 7, none⟩) hg).trans q13
  obtain ⟨m0, m1, m2, m3, hW1, -⟩ := one_box ((Below.refl (w.heap.size + 1) (w.alloc (.cells #[.int .i64 11, .string x, .int .i64 0, .slice (some ⟨g, o, none⟩) 2 c] 24))).drew)
  replace K0 := (show Hid _ from K0)
  replace K1 := (show Hid _ from K1)
  clear q00 q01 q02 q03 l0 q10 q11 q12 q13 l1 hat 
  refine wp_region_held_drew (S := fun W => Below (w.alloc (.cells #[.int .i64 11, .string x, .int .i64 0, .slice (some ⟨g, o, none⟩) 2 c] 24)).drew.heap.size (w.alloc (.cells #[.int .i64 11, .string x, .int .i64 0, .slice (some ⟨g, o, none⟩) 2 c] 24)).drew W) (by kernel_rfl) (Below.refl _ _) (fun hS => ?_)
  generalize (w.alloc (.cells #[.int .i64 11, .string x, .int .i64 0, .slice (some ⟨g, o, none⟩) 2 c] 24)).drew = W at *
  refine tkd (i := 0) (v := .pointer (some ⟨w.heap.size, 3, none⟩)) rfl rfl (by kernel_rfl) (by kernel_rfl) (by kernel_rfl) (fun _ _ _ h => h) (Or.inl ⟨by rfl, fun wq hSw => by skip; go_simp⟩) hS ?_
  simp only [List.setIfInBounds_toArray, List.set_cons_zero, List.set_cons_succ]
  refine tkd (i := 1) (v := .slice (some ⟨g, o, none⟩) 2 c) rfl rfl (by kernel_rfl) (by kernel_rfl) (by kernel_rfl) (fun _ _ _ h => h) (Or.inl ⟨by rfl, fun wq hSw => by have q := pkeep m3 hSw; go_simp⟩) hS ?_
  simp only [List.setIfInBounds_toArray, List.set_cons_zero, List.set_cons_succ]
  refine tkd (i := 2) (v := .pointer (some ⟨g, o, none⟩)) rfl rfl (by kernel_rfl) (by kernel_rfl) (by kernel_rfl) (fun _ _ _ h => h) (Or.inl ⟨by rfl, fun wq hSw => by skip; go_simp⟩) hS ?_
  simp only [List.setIfInBounds_toArray, List.set_cons_zero, List.set_cons_succ]
  refine tkd (i := 3) (v := .agg #[.int .i64 kd0, .string xx0, .int .i64 mm0, .slice aa0 nn0 cc0] ) rfl rfl (by kernel_rfl) (by kernel_rfl) (by kernel_rfl) (fun _ _ _ h => h) (Or.inl ⟨by rfl, fun wq hSw => by have e0 := pkeep r00 hSw; have e1 := pkeep r01 hSw; have e2 := pkeep r02 hSw; have e3 := pkeep r03 hSw; go_simp⟩) hS ?_
  simp only [List.setIfInBounds_toArray, List.set_cons_zero, List.set_cons_succ]
  refine tkd (i := 7) (v := .pointer (some ⟨w.heap.size, 3, none⟩)) rfl rfl (by kernel_rfl) (by kernel_rfl) (by kernel_rfl) (fun _ _ _ h => h) (Or.inl ⟨by rfl, fun wq hSw => by skip; go_simp⟩) hS ?_
  simp only [List.setIfInBounds_toArray, List.set_cons_zero, List.set_cons_succ]
  refine tkd (i := 8) (v := .slice (some ⟨g, o, none⟩) 2 c) rfl rfl (by kernel_rfl) (by kernel_rfl) (by kernel_rfl) (fun _ _ _ h => h) (Or.inl ⟨by rfl, fun wq hSw => by have q := pkeep m3 hSw; go_simp⟩) hS ?_
  simp only [List.setIfInBounds_toArray, List.set_cons_zero, List.set_cons_succ]
  refine tkd (i := 9) (v := .pointer (some ⟨g, o + 4, none⟩)) rfl rfl (by kernel_rfl) (by kernel_rfl) (by kernel_rfl) (fun _ _ _ h => h) (Or.inl ⟨by rfl, fun wq hSw => by skip; go_simp⟩) hS ?_
  simp only [List.setIfInBounds_toArray, List.set_cons_zero, List.set_cons_succ]
  refine tkd (i := 10) (v := .agg #[.int .i64 kd1, .string xx1, .int .i64 mm1, .slice aa1 nn1 cc1] ) rfl rfl (by kernel_rfl) (by kernel_rfl) (by kernel_rfl) (fun _ _ _ h => h) (Or.inl ⟨by rfl, fun wq hSw => by have e0 := pkeep r10 hSw; have e1 := pkeep r11 hSw; have e2 := pkeep r12 hSw; have e3 := pkeep r13 hSw; go_simp⟩) hS ?_
  simp only [List.setIfInBounds_toArray, List.set_cons_zero, List.set_cons_succ]
  refine wpAnyH_lay [4, 5, 6, 11, 12, 13] [(203, 4), (204, 5), (205, 6), (210, 11), (211, 12), (2, 13)] (fun i v W2 => match i with | 4 => v = .string T0 | 5 => v = .string ((⟨#[119, 104, 105, 108, 101, 32, 40, 32]⟩ : ByteArray) ++ T0) | 6 => v = .string (((⟨#[119, 104, 105, 108, 101, 32, 40, 32]⟩ : ByteArray) ++ T0) ++ (⟨#[32, 41, 32]⟩ : ByteArray)) | 11 => v = .string T1 | 12 => v = .string ((((⟨#[119, 104, 105, 108, 101, 32, 40, 32]⟩ : ByteArray) ++ T0) ++ (⟨#[32, 41, 32]⟩ : ByteArray)) ++ T1) | _ => v = .string ((((⟨#[119, 104, 105, 108, 101, 32, 40, 32]⟩ : ByteArray) ++ T0) ++ (⟨#[32, 41, 32]⟩ : ByteArray)) ++ T1)) (by kernel_rfl) (by rfl) (by kernel_rfl) (by decide) (by kernel_rfl) hS ?_ ?_ ?_
  · intro j v W1 W2 hb h
    split at h
    all_goals first | exact h | exact h.below hb
  · skip
    refine Steps.consK [] rfl trivial (fun U W1 hS1 hR K hK => ?_) ?_
    · skip
      have hcc := K0.out W1 hS1
      simp only [layS, putK, List.foldr, List.foldl, List.setIfInBounds_toArray, List.set_cons_zero, List.set_cons_succ, reduceIte, Nat.reduceEqDiff]
      go_simp
      go_at_call 15
      refine hcc.mono ?_
      rintro e W2 ⟨rfl, hb⟩
      go_wp2
      have hk := hK.out (.string T0) W2 (hS1.trans (hb.mono hS1.size)) hb rfl
      simp only [layS, putK, List.foldr, List.foldl, List.setIfInBounds_toArray, List.set_cons_zero, List.set_cons_succ, reduceIte, Nat.reduceEqDiff] at hk
      exact hk
    refine Steps.consK [(4, .string T0)] rfl ⟨⟨by kernel_rfl, fun _ _ h => h⟩, trivial⟩ (fun U W1 hS1 hR K hK => ?_) ?_
    · skip
      simp only [layS, putK, List.foldr, List.foldl, List.setIfInBounds_toArray, List.set_cons_zero, List.set_cons_succ, reduceIte, Nat.reduceEqDiff]
      go_simp
      rw [if_neg (by first | omega | (simp only [ByteArray.size_append]; omega))]
      go_simp
      have hk := hK.out (.string ((⟨#[119, 104, 105, 108, 101, 32, 40, 32]⟩ : ByteArray) ++ T0)) W1 hS1 (Below.refl _ _) rfl
      simp only [layS, putK, List.foldr, List.foldl, List.setIfInBounds_toArray, List.set_cons_zero, List.set_cons_succ, reduceIte, Nat.reduceEqDiff] at hk
      exact hk
    refine Steps.consK [(5, .string ((⟨#[119, 104, 105, 108, 101, 32, 40, 32]⟩ : ByteArray) ++ T0))] rfl ⟨⟨by kernel_rfl, fun _ _ h => h⟩, trivial⟩ (fun U W1 hS1 hR K hK => ?_) ?_
    · skip
      simp only [layS, putK, List.foldr, List.foldl, List.setIfInBounds_toArray, List.set_cons_zero, List.set_cons_succ, reduceIte, Nat.reduceEqDiff]
      go_simp
      rw [if_neg (by first | omega | (simp only [ByteArray.size_append]; omega))]
      go_simp
      have hk := hK.out (.string (((⟨#[119, 104, 105, 108, 101, 32, 40, 32]⟩ : ByteArray) ++ T0) ++ (⟨#[32, 41, 32]⟩ : ByteArray))) W1 hS1 (Below.refl _ _) rfl
      simp only [layS, putK, List.foldr, List.foldl, List.setIfInBounds_toArray, List.set_cons_zero, List.set_cons_succ, reduceIte, Nat.reduceEqDiff] at hk
      exact hk
    refine Steps.consK [] rfl trivial (fun U W1 hS1 hR K hK => ?_) ?_
    · skip
      have hcc := K1.out W1 hS1
      simp only [layS, putK, List.foldr, List.foldl, List.setIfInBounds_toArray, List.set_cons_zero, List.set_cons_succ, reduceIte, Nat.reduceEqDiff]
      go_simp
      go_at_call 15
      refine hcc.mono ?_
      rintro e W2 ⟨rfl, hb⟩
      go_wp2
      have hk := hK.out (.string T1) W2 (hS1.trans (hb.mono hS1.size)) hb rfl
      simp only [layS, putK, List.foldr, List.foldl, List.setIfInBounds_toArray, List.set_cons_zero, List.set_cons_succ, reduceIte, Nat.reduceEqDiff] at hk
      exact hk
    refine Steps.consK [(6, .string (((⟨#[119, 104, 105, 108, 101, 32, 40, 32]⟩ : ByteArray) ++ T0) ++ (⟨#[32, 41, 32]⟩ : ByteArray))), (11, .string T1)] rfl ⟨⟨by kernel_rfl, fun _ _ h => h⟩, ⟨by kernel_rfl, fun _ _ h => h⟩, trivial⟩ (fun U W1 hS1 hR K hK => ?_) ?_
    · skip
      simp only [layS, putK, List.foldr, List.foldl, List.setIfInBounds_toArray, List.set_cons_zero, List.set_cons_succ, reduceIte, Nat.reduceEqDiff]
      go_simp
      rw [if_neg (by first | omega | (simp only [ByteArray.size_append]; omega))]
      go_simp
      have hk := hK.out (.string ((((⟨#[119, 104, 105, 108, 101, 32, 40, 32]⟩ : ByteArray) ++ T0) ++ (⟨#[32, 41, 32]⟩ : ByteArray)) ++ T1)) W1 hS1 (Below.refl _ _) rfl
      simp only [layS, putK, List.foldr, List.foldl, List.setIfInBounds_toArray, List.set_cons_zero, List.set_cons_succ, reduceIte, Nat.reduceEqDiff] at hk
      exact hk
    refine Steps.consK [(12, .string ((((⟨#[119, 104, 105, 108, 101, 32, 40, 32]⟩ : ByteArray) ++ T0) ++ (⟨#[32, 41, 32]⟩ : ByteArray)) ++ T1))] rfl ⟨⟨by kernel_rfl, fun _ _ h => h⟩, trivial⟩ (fun U W1 hS1 hR K hK => ?_) Steps.nil
    · skip
      simp only [layS, putK, List.foldr, List.foldl, List.setIfInBounds_toArray, List.set_cons_zero, List.set_cons_succ, reduceIte, Nat.reduceEqDiff]
      go_simp
      have hk := hK.out (.string ((((⟨#[119, 104, 105, 108, 101, 32, 40, 32]⟩ : ByteArray) ++ T0) ++ (⟨#[32, 41, 32]⟩ : ByteArray)) ++ T1)) W1 hS1 (Below.refl _ _) rfl
      simp only [layS, putK, List.foldr, List.foldl, List.setIfInBounds_toArray, List.set_cons_zero, List.set_cons_succ, reduceIte, Nat.reduceEqDiff] at hk
      exact hk
  · intro U W1 hS1 hR
    have hdd : U 13 = .string ((((⟨#[119, 104, 105, 108, 101, 32, 40, 32]⟩ : ByteArray) ++ T0) ++ (⟨#[32, 41, 32]⟩ : ByteArray)) ++ T1) := hR 13 (by simp)
    simp only [layS, putK, List.foldr, List.foldl, List.setIfInBounds_toArray, List.set_cons_zero, List.set_cons_succ, reduceIte, Nat.reduceEqDiff]
    rw [hdd]
    clear hdd hR
    go_wp2
    go_ret
    exact ⟨by rw [HR.out]; rfl, hbw.trans (hS1.mono hbw.size)⟩
set_option maxHeartbeats 8000000 in
theorem rShow10a {x : ByteArray} {t0 t1 : Tree} {a : Option Addr} {c : Nat} (w : World) (hl : Lies (· < w.heap.size) w (.node 10 x 0 [t0, t1]) (.agg #[.int .i64 10, .string x, .int .i64 0, .slice a 2 c])) (hk0 : ShowOk t0) (z0' : (showT t0).length ≤ 50000) (hk1 : ShowOk t1) (z1' : (showT t1).length ≤ 50000) :
    Calls Tryz.prog 15 #[.agg #[.int .i64 10, .string x, .int .i64 0, .slice a 2 c]] w fun e w' => e = .returned (.string (sx (barR 10 x 0 [t0, t1] [showT t0, showT t1]))) ∧ Below w.heap.size w w' := by
  have c24 : Tryz.prog.cellsOf 24 = 4 := by kernel_rfl
  obtain ⟨T0, hT0⟩ : ∃ T, T = sx (showT t0) := ⟨_, rfl⟩
  have z0 : T0.size ≤ 50000 := by rw [hT0, sx_size]; exact z0'
  replace hT0 := (show Hid _ from hT0)
  obtain ⟨T1, hT1⟩ : ∃ T, T = sx (showT t1) := ⟨_, rfl⟩
  have z1 : T1.size ≤ 50000 := by rw [hT1, sx_size]; exact z1'
  replace hT1 := (show Hid _ from hT1)
  have HR : Hid (sx (barR 10 x 0 [t0, t1] [showT t0, showT t1]) = ((((⟨#[105, 102, 32, 40, 32]⟩ : ByteArray) ++ T0) ++ (⟨#[32, 41, 32]⟩ : ByteArray)) ++ T1)) := by
    show sx ([105, 102, 32, 40, 32] ++ showT t0 ++ [32, 41, 32] ++ showT t1 ++ []) = _
    rw [List.append_nil, ← sx_app, ← sx_app, ← sx_app, hT0.out, hT1.out]
    rfl
  generalize sx (barR 10 x 0 [t0, t1] [showT t0, showT t1]) = R at *
  clear z0' z1'
  unfold Lies at hl
  obtain ⟨a', c', e', ⟨hlen, hlc⟩, hat⟩ := hl
  simp only [Value.agg.injEq, Array.mk.injEq, List.cons.injEq, Value.slice.injEq, and_true, true_and] at e'
  obtain ⟨rfl, -, rfl⟩ := e'
  obtain ⟨g, o, rfl, hg, hat⟩ := hat (by simp)
  obtain ⟨v0, ⟨xa0, xb0, xc0, xd0, rfl, q00, q01, q02, q03⟩, l0⟩ := hat.get 0 (by simp)
  obtain ⟨xx0, mm0, aa0, nn0, cc0, rfl, rfl, rfl, rfl⟩ := lies_kind2 l0
  obtain ⟨v1, ⟨xa1, xb1, xc1, xd1, rfl, q10, q11, q12, q13⟩, l1⟩ := hat.get 1 (by simp)
  obtain ⟨xx1, mm1, aa1, nn1, cc1, rfl, rfl, rfl, rfl⟩ := lies_kind2 l1
  simp only [List.getElem_cons_zero, List.getElem_cons_succ, Nat.zero_mul, Nat.one_mul, Nat.reduceMul, Nat.add_zero, Nat.add_assoc, Nat.reduceAdd] at l0 q00 q01 q02 q03 l1 q10 q11 q12 q13
  generalize hkd0 : kindT t0 = kd0 at *
  generalize hkd1 : kindT t1 = kd1 at *
  go_enter Tryz.func15, Tryz.ntmps15
  go_wp2
  have hbw : Below w.heap.size w (w.alloc (.cells #[.int .i64 10, .string x, .int .i64 0, .slice (some ⟨g, o, none⟩) 2 c] 24)).drew := ((Below.refl w.heap.size w).alloc (Nat.le_refl _) (.cells #[.int .i64 10, .string x, .int .i64 0, .slice (some ⟨g, o, none⟩) 2 c] 24)).drew
  have K0 : ∀ W1, Below ((w.alloc (.cells #[.int .i64 10, .string x, .int .i64 0, .slice (some ⟨g, o, none⟩) 2 c] 24)).drew).heap.size ((w.alloc (.cells #[.int .i64 10, .string x, .int .i64 0, .slice (some ⟨g, o, none⟩) 2 c] 24)).drew) W1 → Calls Tryz.prog 15 #[.agg #[.int .i64 kd0, .string xx0, .int .i64 mm0, .slice aa0 nn0 cc0]] W1 fun e w' => e = .returned (.string T0) ∧ Below W1.heap.size W1 w' := fun W1 hb => by
    rw [hT0.out]
    exact hk0 _ _ (Lies.below (Lies.below l0 hbw) hb)
  have r00 := (hbw.cell (p := ⟨g, o, none⟩) hg).trans q00
  have r01 := (hbw.cell (p := ⟨g, o + 1, none⟩) hg).trans q01
  have r02 := (hbw.cell (p := ⟨g, o + 2, none⟩) hg).trans q02
  have r03 := (hbw.cell (p := ⟨g, o + 3, none⟩) hg).trans q03
  have K1 : ∀ W1, Below ((w.alloc (.cells #[.int .i64 10, .string x, .int .i64 0, .slice (some ⟨g, o, none⟩) 2 c] 24)).drew).heap.size ((w.alloc (.cells #[.int .i64 10, .string x, .int .i64 0, .slice (some ⟨g, o, none⟩) 2 c] 24)).drew) W1 → Calls Tryz.prog 15 #[.agg #[.int .i64 kd1, .string xx1, .int .i64 mm1, .slice aa1 nn1 cc1]] W1 fun e w' => e = .returned (.string T1) ∧ Below W1.heap.size W1 w' := fun W1 hb => by
    rw [hT1.out]
    exact hk1 _ _ (Lies.below (Lies.below l1 hbw) hb)
  have r10 := (hbw.cell (p := ⟨g, o + 4, none⟩) hg).trans q10
  have r11 := (hbw.cell (p := ⟨g, o + 5, none⟩) hg).trans q11
  have r12 := (hbw.cell (p := ⟨g, o + 6, none⟩) hg).trans q12
  have r13 := (hbw.cell (p := ⟨g, o + 7, none⟩) hg).trans q13
  obtain ⟨m0, m1, m2, m3, hW1, -⟩ := one_box ((Below.refl (w.heap.size + 1) (w.alloc (.cells #[.int .i64 10, .string x, .int .i64 0, .slice (some ⟨g, o, none⟩) 2 c] 24))).drew)
  replace K0 := (show Hid _ from K0)
  replace K1 := (show Hid _ from K1)
  clear q00 q01 q02 q03 l0 q10 q11 q12 q13 l1 hat 
  refine wp_region_held_drew (S := fun W => Below (w.alloc (.cells #[.int .i64 10, .string x, .int .i64 0, .slice (some ⟨g, o, none⟩) 2 c] 24)).drew.heap.size (w.alloc (.cells #[.int .i64 10, .string x, .int .i64 0, .slice (some ⟨g, o, none⟩) 2 c] 24)).drew W) (by kernel_rfl) (Below.refl _ _) (fun hS => ?_)
  generalize (w.alloc (.cells #[.int .i64 10, .string x, .int .i64 0, .slice (some ⟨g, o, none⟩) 2 c] 24)).drew = W at *
  refine tkd (i := 0) (v := .pointer (some ⟨w.heap.size, 3, none⟩)) rfl rfl (by kernel_rfl) (by kernel_rfl) (by kernel_rfl) (fun _ _ _ h => h) (Or.inl ⟨by rfl, fun wq hSw => by skip; go_simp⟩) hS ?_
  simp only [List.setIfInBounds_toArray, List.set_cons_zero, List.set_cons_succ]
  refine tkd (i := 1) (v := .slice (some ⟨g, o, none⟩) 2 c) rfl rfl (by kernel_rfl) (by kernel_rfl) (by kernel_rfl) (fun _ _ _ h => h) (Or.inl ⟨by rfl, fun wq hSw => by have q := pkeep m3 hSw; go_simp⟩) hS ?_
  simp only [List.setIfInBounds_toArray, List.set_cons_zero, List.set_cons_succ]
  refine tkd (i := 2) (v := .pointer (some ⟨g, o, none⟩)) rfl rfl (by kernel_rfl) (by kernel_rfl) (by kernel_rfl) (fun _ _ _ h => h) (Or.inl ⟨by rfl, fun wq hSw => by skip; go_simp⟩) hS ?_
  simp only [List.setIfInBounds_toArray, List.set_cons_zero, List.set_cons_succ]
  refine tkd (i := 3) (v := .agg #[.int .i64 kd0, .string xx0, .int .i64 mm0, .slice aa0 nn0 cc0] ) rfl rfl (by kernel_rfl) (by kernel_rfl) (by kernel_rfl) (fun _ _ _ h => h) (Or.inl ⟨by rfl, fun wq hSw => by have e0 := pkeep r00 hSw; have e1 := pkeep r01 hSw; have e2 := pkeep r02 hSw; have e3 := pkeep r03 hSw; go_simp⟩) hS ?_
  simp only [List.setIfInBounds_toArray, List.set_cons_zero, List.set_cons_succ]
  refine tkd (i := 7) (v := .pointer (some ⟨w.heap.size, 3, none⟩)) rfl rfl (by kernel_rfl) (by kernel_rfl) (by kernel_rfl) (fun _ _ _ h => h) (Or.inl ⟨by rfl, fun wq hSw => by skip; go_simp⟩) hS ?_
  simp only [List.setIfInBounds_toArray, List.set_cons_zero, List.set_cons_succ]
  refine tkd (i := 8) (v := .slice (some ⟨g, o, none⟩) 2 c) rfl rfl (by kernel_rfl) (by kernel_rfl) (by kernel_rfl) (fun _ _ _ h => h) (Or.inl ⟨by rfl, fun wq hSw => by have q := pkeep m3 hSw; go_simp⟩) hS ?_
  simp only [List.setIfInBounds_toArray, List.set_cons_zero, List.set_cons_succ]
  refine tkd (i := 9) (v := .pointer (some ⟨g, o + 4, none⟩)) rfl rfl (by kernel_rfl) (by kernel_rfl) (by kernel_rfl) (fun _ _ _ h => h) (Or.inl ⟨by rfl, fun wq hSw => by skip; go_simp⟩) hS ?_
  simp only [List.setIfInBounds_toArray, List.set_cons_zero, List.set_cons_succ]
  refine tkd (i := 10) (v := .agg #[.int .i64 kd1, .string xx1, .int .i64 mm1, .slice aa1 nn1 cc1] ) rfl rfl (by kernel_rfl) (by kernel_rfl) (by kernel_rfl) (fun _ _ _ h => h) (Or.inl ⟨by rfl, fun wq hSw => by have e0 := pkeep r10 hSw; have e1 := pkeep r11 hSw; have e2 := pkeep r12 hSw; have e3 := pkeep r13 hSw; go_simp⟩) hS ?_
  simp only [List.setIfInBounds_toArray, List.set_cons_zero, List.set_cons_succ]
  refine wpAnyH_lay [4, 5, 6, 11, 12, 13] [(177, 4), (178, 5), (179, 6), (184, 11), (185, 12), (10, 13)] (fun i v W2 => match i with | 4 => v = .string T0 | 5 => v = .string ((⟨#[105, 102, 32, 40, 32]⟩ : ByteArray) ++ T0) | 6 => v = .string (((⟨#[105, 102, 32, 40, 32]⟩ : ByteArray) ++ T0) ++ (⟨#[32, 41, 32]⟩ : ByteArray)) | 11 => v = .string T1 | 12 => v = .string ((((⟨#[105, 102, 32, 40, 32]⟩ : ByteArray) ++ T0) ++ (⟨#[32, 41, 32]⟩ : ByteArray)) ++ T1) | _ => v = .string ((((⟨#[105, 102, 32, 40, 32]⟩ : ByteArray) ++ T0) ++ (⟨#[32, 41, 32]⟩ : ByteArray)) ++ T1)) (by kernel_rfl) (by rfl) (by kernel_rfl) (by decide) (by kernel_rfl) hS ?_ ?_ ?_
  · intro j v W1 W2 hb h
    split at h
    all_goals first | exact h | exact h.below hb
  · skip
    refine Steps.consK [] rfl trivial (fun U W1 hS1 hR K hK => ?_) ?_
    · skip
      have hcc := K0.out W1 hS1
      simp only [layS, putK, List.foldr, List.foldl, List.setIfInBounds_toArray, List.set_cons_zero, List.set_cons_succ, reduceIte, Nat.reduceEqDiff]
      go_simp
      go_at_call 15
      refine hcc.mono ?_
      rintro e W2 ⟨rfl, hb⟩
      go_wp2
      have hk := hK.out (.string T0) W2 (hS1.trans (hb.mono hS1.size)) hb rfl
      simp only [layS, putK, List.foldr, List.foldl, List.setIfInBounds_toArray, List.set_cons_zero, List.set_cons_succ, reduceIte, Nat.reduceEqDiff] at hk
      exact hk
    refine Steps.consK [(4, .string T0)] rfl ⟨⟨by kernel_rfl, fun _ _ h => h⟩, trivial⟩ (fun U W1 hS1 hR K hK => ?_) ?_
    · skip
      simp only [layS, putK, List.foldr, List.foldl, List.setIfInBounds_toArray, List.set_cons_zero, List.set_cons_succ, reduceIte, Nat.reduceEqDiff]
      go_simp
      rw [if_neg (by first | omega | (simp only [ByteArray.size_append]; omega))]
      go_simp
      have hk := hK.out (.string ((⟨#[105, 102, 32, 40, 32]⟩ : ByteArray) ++ T0)) W1 hS1 (Below.refl _ _) rfl
      simp only [layS, putK, List.foldr, List.foldl, List.setIfInBounds_toArray, List.set_cons_zero, List.set_cons_succ, reduceIte, Nat.reduceEqDiff] at hk
      exact hk
    refine Steps.consK [(5, .string ((⟨#[105, 102, 32, 40, 32]⟩ : ByteArray) ++ T0))] rfl ⟨⟨by kernel_rfl, fun _ _ h => h⟩, trivial⟩ (fun U W1 hS1 hR K hK => ?_) ?_
    · skip
      simp only [layS, putK, List.foldr, List.foldl, List.setIfInBounds_toArray, List.set_cons_zero, List.set_cons_succ, reduceIte, Nat.reduceEqDiff]
      go_simp
      rw [if_neg (by first | omega | (simp only [ByteArray.size_append]; omega))]
      go_simp
      have hk := hK.out (.string (((⟨#[105, 102, 32, 40, 32]⟩ : ByteArray) ++ T0) ++ (⟨#[32, 41, 32]⟩ : ByteArray))) W1 hS1 (Below.refl _ _) rfl
      simp only [layS, putK, List.foldr, List.foldl, List.setIfInBounds_toArray, List.set_cons_zero, List.set_cons_succ, reduceIte, Nat.reduceEqDiff] at hk
      exact hk
    refine Steps.consK [] rfl trivial (fun U W1 hS1 hR K hK => ?_) ?_
    · skip
      have hcc := K1.out W1 hS1
      simp only [layS, putK, List.foldr, List.foldl, List.setIfInBounds_toArray, List.set_cons_zero, List.set_cons_succ, reduceIte, Nat.reduceEqDiff]
      go_simp
      go_at_call 15
      refine hcc.mono ?_
      rintro e W2 ⟨rfl, hb⟩
      go_wp2
      have hk := hK.out (.string T1) W2 (hS1.trans (hb.mono hS1.size)) hb rfl
      simp only [layS, putK, List.foldr, List.foldl, List.setIfInBounds_toArray, List.set_cons_zero, List.set_cons_succ, reduceIte, Nat.reduceEqDiff] at hk
      exact hk
    refine Steps.consK [(6, .string (((⟨#[105, 102, 32, 40, 32]⟩ : ByteArray) ++ T0) ++ (⟨#[32, 41, 32]⟩ : ByteArray))), (11, .string T1)] rfl ⟨⟨by kernel_rfl, fun _ _ h => h⟩, ⟨by kernel_rfl, fun _ _ h => h⟩, trivial⟩ (fun U W1 hS1 hR K hK => ?_) ?_
    · skip
      simp only [layS, putK, List.foldr, List.foldl, List.setIfInBounds_toArray, List.set_cons_zero, List.set_cons_succ, reduceIte, Nat.reduceEqDiff]
      go_simp
      rw [if_neg (by first | omega | (simp only [ByteArray.size_append]; omega))]
      go_simp
      have hk := hK.out (.string ((((⟨#[105, 102, 32, 40, 32]⟩ : ByteArray) ++ T0) ++ (⟨#[32, 41, 32]⟩ : ByteArray)) ++ T1)) W1 hS1 (Below.refl _ _) rfl
      simp only [layS, putK, List.foldr, List.foldl, List.setIfInBounds_toArray, List.set_cons_zero, List.set_cons_succ, reduceIte, Nat.reduceEqDiff] at hk
      exact hk
    refine Steps.consK [(12, .string ((((⟨#[105, 102, 32, 40, 32]⟩ : ByteArray) ++ T0) ++ (⟨#[32, 41, 32]⟩ : ByteArray)) ++ T1))] rfl ⟨⟨by kernel_rfl, fun _ _ h => h⟩, trivial⟩ (fun U W1 hS1 hR K hK => ?_) Steps.nil
    · skip
      simp only [layS, putK, List.foldr, List.foldl, List.setIfInBounds_toArray, List.set_cons_zero, List.set_cons_succ, reduceIte, Nat.reduceEqDiff]
      go_simp
      have hk := hK.out (.string ((((⟨#[105, 102, 32, 40, 32]⟩ : ByteArray) ++ T0) ++ (⟨#[32, 41, 32]⟩ : ByteArray)) ++ T1)) W1 hS1 (Below.refl _ _) rfl
      simp only [layS, putK, List.foldr, List.foldl, List.setIfInBounds_toArray, List.set_cons_zero, List.set_cons_succ, reduceIte, Nat.reduceEqDiff] at hk
      exact hk
  · intro U W1 hS1 hR
    have hdd : U 13 = .string ((((⟨#[105, 102, 32, 40, 32]⟩ : ByteArray) ++ T0) ++ (⟨#[32, 41, 32]⟩ : ByteArray)) ++ T1) := hR 13 (by simp)
    simp only [layS, putK, List.foldr, List.foldl, List.setIfInBounds_toArray, List.set_cons_zero, List.set_cons_succ, reduceIte, Nat.reduceEqDiff]
    rw [hdd]
    clear hdd hR
    go_wp2
    go_ret
    exact ⟨by rw [HR.out]; rfl, hbw.trans (hS1.mono hbw.size)⟩
set_option maxHeartbeats 8000000 in
theorem rShow10b {x : ByteArray} {t0 t1 t2 : Tree} {a : Option Addr} {c : Nat} (w : World) (hl : Lies (· < w.heap.size) w (.node 10 x 0 [t0, t1, t2]) (.agg #[.int .i64 10, .string x, .int .i64 0, .slice a 3 c])) (hk0 : ShowOk t0) (z0' : (showT t0).length ≤ 50000) (hk1 : ShowOk t1) (z1' : (showT t1).length ≤ 50000) (hk2 : ShowOk t2) (z2' : (showT t2).length ≤ 50000) :
    Calls Tryz.prog 15 #[.agg #[.int .i64 10, .string x, .int .i64 0, .slice a 3 c]] w fun e w' => e = .returned (.string (sx (barR 10 x 0 [t0, t1, t2] [showT t0, showT t1, showT t2]))) ∧ Below w.heap.size w w' := by
  have c24 : Tryz.prog.cellsOf 24 = 4 := by kernel_rfl
  obtain ⟨T0, hT0⟩ : ∃ T, T = sx (showT t0) := ⟨_, rfl⟩
  have z0 : T0.size ≤ 50000 := by rw [hT0, sx_size]; exact z0'
  replace hT0 := (show Hid _ from hT0)
  obtain ⟨T1, hT1⟩ : ∃ T, T = sx (showT t1) := ⟨_, rfl⟩
  have z1 : T1.size ≤ 50000 := by rw [hT1, sx_size]; exact z1'
  replace hT1 := (show Hid _ from hT1)
  obtain ⟨T2, hT2⟩ : ∃ T, T = sx (showT t2) := ⟨_, rfl⟩
  have z2 : T2.size ≤ 50000 := by rw [hT2, sx_size]; exact z2'
  replace hT2 := (show Hid _ from hT2)
  have HR : Hid (sx (barR 10 x 0 [t0, t1, t2] [showT t0, showT t1, showT t2]) = ((((((⟨#[105, 102, 32, 40, 32]⟩ : ByteArray) ++ T0) ++ (⟨#[32, 41, 32]⟩ : ByteArray)) ++ T1) ++ (⟨#[32, 101, 108, 115, 101, 32]⟩ : ByteArray)) ++ T2)) := by
    show sx ([105, 102, 32, 40, 32] ++ showT t0 ++ [32, 41, 32] ++ showT t1 ++ ([32, 101, 108, 115, 101, 32] ++ showT t2)) = _
    rw [← List.append_assoc, ← sx_app, ← sx_app, ← sx_app, ← sx_app, ← sx_app, hT0.out, hT1.out, hT2.out]
    rfl
  generalize sx (barR 10 x 0 [t0, t1, t2] [showT t0, showT t1, showT t2]) = R at *
  clear z0' z1' z2'
  unfold Lies at hl
  obtain ⟨a', c', e', ⟨hlen, hlc⟩, hat⟩ := hl
  simp only [Value.agg.injEq, Array.mk.injEq, List.cons.injEq, Value.slice.injEq, and_true, true_and] at e'
  obtain ⟨rfl, -, rfl⟩ := e'
  obtain ⟨g, o, rfl, hg, hat⟩ := hat (by simp)
  obtain ⟨v0, ⟨xa0, xb0, xc0, xd0, rfl, q00, q01, q02, q03⟩, l0⟩ := hat.get 0 (by simp)
  obtain ⟨xx0, mm0, aa0, nn0, cc0, rfl, rfl, rfl, rfl⟩ := lies_kind2 l0
  obtain ⟨v1, ⟨xa1, xb1, xc1, xd1, rfl, q10, q11, q12, q13⟩, l1⟩ := hat.get 1 (by simp)
  obtain ⟨xx1, mm1, aa1, nn1, cc1, rfl, rfl, rfl, rfl⟩ := lies_kind2 l1
  obtain ⟨v2, ⟨xa2, xb2, xc2, xd2, rfl, q20, q21, q22, q23⟩, l2⟩ := hat.get 2 (by simp)
  obtain ⟨xx2, mm2, aa2, nn2, cc2, rfl, rfl, rfl, rfl⟩ := lies_kind2 l2
  simp only [List.getElem_cons_zero, List.getElem_cons_succ, Nat.zero_mul, Nat.one_mul, Nat.reduceMul, Nat.add_zero, Nat.add_assoc, Nat.reduceAdd] at l0 q00 q01 q02 q03 l1 q10 q11 q12 q13 l2 q20 q21 q22 q23
  generalize hkd0 : kindT t0 = kd0 at *
  generalize hkd1 : kindT t1 = kd1 at *
  generalize hkd2 : kindT t2 = kd2 at *
  go_enter Tryz.func15, Tryz.ntmps15
  go_wp2
  have hbw : Below w.heap.size w (w.alloc (.cells #[.int .i64 10, .string x, .int .i64 0, .slice (some ⟨g, o, none⟩) 3 c] 24)).drew := ((Below.refl w.heap.size w).alloc (Nat.le_refl _) (.cells #[.int .i64 10, .string x, .int .i64 0, .slice (some ⟨g, o, none⟩) 3 c] 24)).drew
  have K0 : ∀ W1, Below ((w.alloc (.cells #[.int .i64 10, .string x, .int .i64 0, .slice (some ⟨g, o, none⟩) 3 c] 24)).drew).heap.size ((w.alloc (.cells #[.int .i64 10, .string x, .int .i64 0, .slice (some ⟨g, o, none⟩) 3 c] 24)).drew) W1 → Calls Tryz.prog 15 #[.agg #[.int .i64 kd0, .string xx0, .int .i64 mm0, .slice aa0 nn0 cc0]] W1 fun e w' => e = .returned (.string T0) ∧ Below W1.heap.size W1 w' := fun W1 hb => by
    rw [hT0.out]
    exact hk0 _ _ (Lies.below (Lies.below l0 hbw) hb)
  have r00 := (hbw.cell (p := ⟨g, o, none⟩) hg).trans q00
  have r01 := (hbw.cell (p := ⟨g, o + 1, none⟩) hg).trans q01
  have r02 := (hbw.cell (p := ⟨g, o + 2, none⟩) hg).trans q02
  have r03 := (hbw.cell (p := ⟨g, o + 3, none⟩) hg).trans q03
  have K1 : ∀ W1, Below ((w.alloc (.cells #[.int .i64 10, .string x, .int .i64 0, .slice (some ⟨g, o, none⟩) 3 c] 24)).drew).heap.size ((w.alloc (.cells #[.int .i64 10, .string x, .int .i64 0, .slice (some ⟨g, o, none⟩) 3 c] 24)).drew) W1 → Calls Tryz.prog 15 #[.agg #[.int .i64 kd1, .string xx1, .int .i64 mm1, .slice aa1 nn1 cc1]] W1 fun e w' => e = .returned (.string T1) ∧ Below W1.heap.size W1 w' := fun W1 hb => by
    rw [hT1.out]
    exact hk1 _ _ (Lies.below (Lies.below l1 hbw) hb)
  have r10 := (hbw.cell (p := ⟨g, o + 4, none⟩) hg).trans q10
  have r11 := (hbw.cell (p := ⟨g, o + 5, none⟩) hg).trans q11
  have r12 := (hbw.cell (p := ⟨g, o + 6, none⟩) hg).trans q12
  have r13 := (hbw.cell (p := ⟨g, o + 7, none⟩) hg).trans q13
  have K2 : ∀ W1, Below ((w.alloc (.cells #[.int .i64 10, .string x, .int .i64 0, .slice (some ⟨g, o, none⟩) 3 c] 24)).drew).heap.size ((w.alloc (.cells #[.int .i64 10, .string x, .int .i64 0, .slice (some ⟨g, o, none⟩) 3 c] 24)).drew) W1 → Calls Tryz.prog 15 #[.agg #[.int .i64 kd2, .string xx2, .int .i64 mm2, .slice aa2 nn2 cc2]] W1 fun e w' => e = .returned (.string T2) ∧ Below W1.heap.size W1 w' := fun W1 hb => by
    rw [hT2.out]
    exact hk2 _ _ (Lies.below (Lies.below l2 hbw) hb)
  have r20 := (hbw.cell (p := ⟨g, o + 8, none⟩) hg).trans q20
  have r21 := (hbw.cell (p := ⟨g, o + 9, none⟩) hg).trans q21
  have r22 := (hbw.cell (p := ⟨g, o + 10, none⟩) hg).trans q22
  have r23 := (hbw.cell (p := ⟨g, o + 11, none⟩) hg).trans q23
  obtain ⟨m0, m1, m2, m3, hW1, -⟩ := one_box ((Below.refl (w.heap.size + 1) (w.alloc (.cells #[.int .i64 10, .string x, .int .i64 0, .slice (some ⟨g, o, none⟩) 3 c] 24))).drew)
  replace K0 := (show Hid _ from K0)
  replace K1 := (show Hid _ from K1)
  replace K2 := (show Hid _ from K2)
  clear q00 q01 q02 q03 l0 q10 q11 q12 q13 l1 q20 q21 q22 q23 l2 hat 
  refine wp_region_held_drew (S := fun W => Below (w.alloc (.cells #[.int .i64 10, .string x, .int .i64 0, .slice (some ⟨g, o, none⟩) 3 c] 24)).drew.heap.size (w.alloc (.cells #[.int .i64 10, .string x, .int .i64 0, .slice (some ⟨g, o, none⟩) 3 c] 24)).drew W) (by kernel_rfl) (Below.refl _ _) (fun hS => ?_)
  generalize (w.alloc (.cells #[.int .i64 10, .string x, .int .i64 0, .slice (some ⟨g, o, none⟩) 3 c] 24)).drew = W at *
  refine tkd (i := 0) (v := .pointer (some ⟨w.heap.size, 3, none⟩)) rfl rfl (by kernel_rfl) (by kernel_rfl) (by kernel_rfl) (fun _ _ _ h => h) (Or.inl ⟨by rfl, fun wq hSw => by skip; go_simp⟩) hS ?_
  simp only [List.setIfInBounds_toArray, List.set_cons_zero, List.set_cons_succ]
  refine tkd (i := 1) (v := .slice (some ⟨g, o, none⟩) 3 c) rfl rfl (by kernel_rfl) (by kernel_rfl) (by kernel_rfl) (fun _ _ _ h => h) (Or.inl ⟨by rfl, fun wq hSw => by have q := pkeep m3 hSw; go_simp⟩) hS ?_
  simp only [List.setIfInBounds_toArray, List.set_cons_zero, List.set_cons_succ]
  refine tkd (i := 2) (v := .pointer (some ⟨g, o, none⟩)) rfl rfl (by kernel_rfl) (by kernel_rfl) (by kernel_rfl) (fun _ _ _ h => h) (Or.inl ⟨by rfl, fun wq hSw => by skip; go_simp⟩) hS ?_
  simp only [List.setIfInBounds_toArray, List.set_cons_zero, List.set_cons_succ]
  refine tkd (i := 3) (v := .agg #[.int .i64 kd0, .string xx0, .int .i64 mm0, .slice aa0 nn0 cc0] ) rfl rfl (by kernel_rfl) (by kernel_rfl) (by kernel_rfl) (fun _ _ _ h => h) (Or.inl ⟨by rfl, fun wq hSw => by have e0 := pkeep r00 hSw; have e1 := pkeep r01 hSw; have e2 := pkeep r02 hSw; have e3 := pkeep r03 hSw; go_simp⟩) hS ?_
  simp only [List.setIfInBounds_toArray, List.set_cons_zero, List.set_cons_succ]
  refine tkd (i := 7) (v := .pointer (some ⟨w.heap.size, 3, none⟩)) rfl rfl (by kernel_rfl) (by kernel_rfl) (by kernel_rfl) (fun _ _ _ h => h) (Or.inl ⟨by rfl, fun wq hSw => by skip; go_simp⟩) hS ?_
  simp only [List.setIfInBounds_toArray, List.set_cons_zero, List.set_cons_succ]
  refine tkd (i := 8) (v := .slice (some ⟨g, o, none⟩) 3 c) rfl rfl (by kernel_rfl) (by kernel_rfl) (by kernel_rfl) (fun _ _ _ h => h) (Or.inl ⟨by rfl, fun wq hSw => by have q := pkeep m3 hSw; go_simp⟩) hS ?_
  simp only [List.setIfInBounds_toArray, List.set_cons_zero, List.set_cons_succ]
  refine tkd (i := 9) (v := .pointer (some ⟨g, o + 4, none⟩)) rfl rfl (by kernel_rfl) (by kernel_rfl) (by kernel_rfl) (fun _ _ _ h => h) (Or.inl ⟨by rfl, fun wq hSw => by skip; go_simp⟩) hS ?_
  simp only [List.setIfInBounds_toArray, List.set_cons_zero, List.set_cons_succ]
  refine tkd (i := 10) (v := .agg #[.int .i64 kd1, .string xx1, .int .i64 mm1, .slice aa1 nn1 cc1] ) rfl rfl (by kernel_rfl) (by kernel_rfl) (by kernel_rfl) (fun _ _ _ h => h) (Or.inl ⟨by rfl, fun wq hSw => by have e0 := pkeep r10 hSw; have e1 := pkeep r11 hSw; have e2 := pkeep r12 hSw; have e3 := pkeep r13 hSw; go_simp⟩) hS ?_
  simp only [List.setIfInBounds_toArray, List.set_cons_zero, List.set_cons_succ]
  refine wpAnyH_lay [4, 5, 6, 11, 12, 13] [(177, 4), (178, 5), (179, 6), (184, 11), (185, 12), (10, 13)] (fun i v W2 => match i with | 4 => v = .string T0 | 5 => v = .string ((⟨#[105, 102, 32, 40, 32]⟩ : ByteArray) ++ T0) | 6 => v = .string (((⟨#[105, 102, 32, 40, 32]⟩ : ByteArray) ++ T0) ++ (⟨#[32, 41, 32]⟩ : ByteArray)) | 11 => v = .string T1 | 12 => v = .string ((((⟨#[105, 102, 32, 40, 32]⟩ : ByteArray) ++ T0) ++ (⟨#[32, 41, 32]⟩ : ByteArray)) ++ T1) | _ => v = .string ((((⟨#[105, 102, 32, 40, 32]⟩ : ByteArray) ++ T0) ++ (⟨#[32, 41, 32]⟩ : ByteArray)) ++ T1)) (by kernel_rfl) (by rfl) (by kernel_rfl) (by decide) (by kernel_rfl) hS ?_ ?_ ?_
  · intro j v W1 W2 hb h
    split at h
    all_goals first | exact h | exact h.below hb
  · skip
    refine Steps.consK [] rfl trivial (fun U W1 hS1 hR K hK => ?_) ?_
    · skip
      have hcc := K0.out W1 hS1
      simp only [layS, putK, List.foldr, List.foldl, List.setIfInBounds_toArray, List.set_cons_zero, List.set_cons_succ, reduceIte, Nat.reduceEqDiff]
      go_simp
      go_at_call 15
      refine hcc.mono ?_
      rintro e W2 ⟨rfl, hb⟩
      go_wp2
      have hk := hK.out (.string T0) W2 (hS1.trans (hb.mono hS1.size)) hb rfl
      simp only [layS, putK, List.foldr, List.foldl, List.setIfInBounds_toArray, List.set_cons_zero, List.set_cons_succ, reduceIte, Nat.reduceEqDiff] at hk
      exact hk
    refine Steps.consK [(4, .string T0)] rfl ⟨⟨by kernel_rfl, fun _ _ h => h⟩, trivial⟩ (fun U W1 hS1 hR K hK => ?_) ?_
    · skip
      simp only [layS, putK, List.foldr, List.foldl, List.setIfInBounds_toArray, List.set_cons_zero, List.set_cons_succ, reduceIte, Nat.reduceEqDiff]
      go_simp
      rw [if_neg (by first | omega | (simp only [ByteArray.size_append]; omega))]
      go_simp
      have hk := hK.out (.string ((⟨#[105, 102, 32, 40, 32]⟩ : ByteArray) ++ T0)) W1 hS1 (Below.refl _ _) rfl
      simp only [layS, putK, List.foldr, List.foldl, List.setIfInBounds_toArray, List.set_cons_zero, List.set_cons_succ, reduceIte, Nat.reduceEqDiff] at hk
      exact hk
    refine Steps.consK [(5, .string ((⟨#[105, 102, 32, 40, 32]⟩ : ByteArray) ++ T0))] rfl ⟨⟨by kernel_rfl, fun _ _ h => h⟩, trivial⟩ (fun U W1 hS1 hR K hK => ?_) ?_
    · skip
      simp only [layS, putK, List.foldr, List.foldl, List.setIfInBounds_toArray, List.set_cons_zero, List.set_cons_succ, reduceIte, Nat.reduceEqDiff]
      go_simp
      rw [if_neg (by first | omega | (simp only [ByteArray.size_append]; omega))]
      go_simp
      have hk := hK.out (.string (((⟨#[105, 102, 32, 40, 32]⟩ : ByteArray) ++ T0) ++ (⟨#[32, 41, 32]⟩ : ByteArray))) W1 hS1 (Below.refl _ _) rfl
      simp only [layS, putK, List.foldr, List.foldl, List.setIfInBounds_toArray, List.set_cons_zero, List.set_cons_succ, reduceIte, Nat.reduceEqDiff] at hk
      exact hk
    refine Steps.consK [] rfl trivial (fun U W1 hS1 hR K hK => ?_) ?_
    · skip
      have hcc := K1.out W1 hS1
      simp only [layS, putK, List.foldr, List.foldl, List.setIfInBounds_toArray, List.set_cons_zero, List.set_cons_succ, reduceIte, Nat.reduceEqDiff]
      go_simp
      go_at_call 15
      refine hcc.mono ?_
      rintro e W2 ⟨rfl, hb⟩
      go_wp2
      have hk := hK.out (.string T1) W2 (hS1.trans (hb.mono hS1.size)) hb rfl
      simp only [layS, putK, List.foldr, List.foldl, List.setIfInBounds_toArray, List.set_cons_zero, List.set_cons_succ, reduceIte, Nat.reduceEqDiff] at hk
      exact hk
    refine Steps.consK [(6, .string (((⟨#[105, 102, 32, 40, 32]⟩ : ByteArray) ++ T0) ++ (⟨#[32, 41, 32]⟩ : ByteArray))), (11, .string T1)] rfl ⟨⟨by kernel_rfl, fun _ _ h => h⟩, ⟨by kernel_rfl, fun _ _ h => h⟩, trivial⟩ (fun U W1 hS1 hR K hK => ?_) ?_
    · skip
      simp only [layS, putK, List.foldr, List.foldl, List.setIfInBounds_toArray, List.set_cons_zero, List.set_cons_succ, reduceIte, Nat.reduceEqDiff]
      go_simp
      rw [if_neg (by first | omega | (simp only [ByteArray.size_append]; omega))]
      go_simp
      have hk := hK.out (.string ((((⟨#[105, 102, 32, 40, 32]⟩ : ByteArray) ++ T0) ++ (⟨#[32, 41, 32]⟩ : ByteArray)) ++ T1)) W1 hS1 (Below.refl _ _) rfl
      simp only [layS, putK, List.foldr, List.foldl, List.setIfInBounds_toArray, List.set_cons_zero, List.set_cons_succ, reduceIte, Nat.reduceEqDiff] at hk
      exact hk
    refine Steps.consK [(12, .string ((((⟨#[105, 102, 32, 40, 32]⟩ : ByteArray) ++ T0) ++ (⟨#[32, 41, 32]⟩ : ByteArray)) ++ T1))] rfl ⟨⟨by kernel_rfl, fun _ _ h => h⟩, trivial⟩ (fun U W1 hS1 hR K hK => ?_) Steps.nil
    · skip
      simp only [layS, putK, List.foldr, List.foldl, List.setIfInBounds_toArray, List.set_cons_zero, List.set_cons_succ, reduceIte, Nat.reduceEqDiff]
      go_simp
      have hk := hK.out (.string ((((⟨#[105, 102, 32, 40, 32]⟩ : ByteArray) ++ T0) ++ (⟨#[32, 41, 32]⟩ : ByteArray)) ++ T1)) W1 hS1 (Below.refl _ _) rfl
      simp only [layS, putK, List.foldr, List.foldl, List.setIfInBounds_toArray, List.set_cons_zero, List.set_cons_succ, reduceIte, Nat.reduceEqDiff] at hk
      exact hk
  · intro U W1 hS1 hR
    have hdd : U 13 = .string ((((⟨#[105, 102, 32, 40, 32]⟩ : ByteArray) ++ T0) ++ (⟨#[32, 41, 32]⟩ : ByteArray)) ++ T1) := hR 13 (by simp)
    simp only [layS, putK, List.foldr, List.foldl, List.setIfInBounds_toArray, List.set_cons_zero, List.set_cons_succ, reduceIte, Nat.reduceEqDiff]
    rw [hdd]
    clear hdd hR
    have s3 : w.heap.size < W1.heap.size := by have := hS1.size; omega
    have q23 := pkeep m3 hS1
    have K2' := K2.out W1 hS1
    have r20' := pkeep r20 hS1
    have r21' := pkeep r21 hS1
    have r22' := pkeep r22 hS1
    have r23' := pkeep r23 hS1
    have zE : ((((⟨#[105, 102, 32, 40, 32]⟩ : ByteArray) ++ T0) ++ (⟨#[32, 41, 32]⟩ : ByteArray)) ++ T1).size ≤ 100010 := by simp only [ByteArray.size_append]; have e1 : (⟨#[105, 102, 32, 40, 32]⟩ : ByteArray).size = 5 := rfl; have e2 : (⟨#[32, 41, 32]⟩ : ByteArray).size = 3 := rfl; omega
    generalize ((((⟨#[105, 102, 32, 40, 32]⟩ : ByteArray) ++ T0) ++ (⟨#[32, 41, 32]⟩ : ByteArray)) ++ T1) = E at *
    clear m0 m1 m2 m3 r00 r01 r02 r03 r10 r11 r12 r13 r20 r21 r22 r23
    have e3 : (E ++ (⟨#[32, 101, 108, 115, 101, 32]⟩ : ByteArray)).size = E.size + 6 := ByteArray.size_append
    have e4 : ((E ++ (⟨#[32, 101, 108, 115, 101, 32]⟩ : ByteArray)) ++ T2).size = (E ++ (⟨#[32, 101, 108, 115, 101, 32]⟩ : ByteArray)).size + T2.size := ByteArray.size_append
    go_wp2_with (go_at_call 15; refine K2'.mono ?_; rintro e w9 ⟨rfl, hb9⟩)
    go_ret
    exact ⟨by rw [HR.out]; rfl, (hbw.trans (hS1.mono hbw.size)).trans (hb9.mono (Nat.le_trans hbw.size hS1.size))⟩
end pr
end Go.Proofs.YtkoomoemkffjkaaGreatDoor
