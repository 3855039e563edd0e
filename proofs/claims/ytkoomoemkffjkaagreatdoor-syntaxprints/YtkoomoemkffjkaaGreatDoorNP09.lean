/- What the reference's Show answers of nodes of a kind, once it does of the kids: contracts. (Written by mkshow.py: edit that.) -/
import Derived.Test.YtkoomoemkffjkaaGreatDoorNP07
set_option linter.unusedVariables false
set_option linter.unusedSimpArgs false
set_option maxRecDepth 100000
namespace Go.Proofs.YtkoomoemkffjkaaGreatDoor
namespace pr
open Go.RowKit
open Go.Proofs.YtkoomoemkffjkaaGreatDoor.syn Go.Proofs.YtkoomoemkffjkaaGreatDoor.face Go.Proofs.YtkoomoemkffjkaaGreatDoor.chk
open Go.Proofs.YtkoomoemkffjkaaGreatDoor.ord (tkd)
open Go.Proofs.YtkoomoemkffjkaaGreatDoor.reg
set_option maxHeartbeats 8000000 in
theorem rShow17 {x : ByteArray} {t0 : Tree} {a : Option Addr} {c : Nat} (w : World) (hl : Lies (· < w.heap.size) w (.node 17 x 0 [t0]) (.agg #[.int .i64 17, .string x, .int .i64 0, .slice a 1 c])) (hk0 : ShowOk t0) (z0' : (showT t0).length ≤ 50000) (hx : x.size ≤ 1000) (htx : textsR x 2 = true) :
    Calls Tryz.prog 15 #[.agg #[.int .i64 17, .string x, .int .i64 0, .slice a 1 c]] w fun e w' => e = .returned (.string (sx (barR 17 x 0 [t0] [showT t0]))) ∧ Below w.heap.size w w' := by
  have c24 : Tryz.prog.cellsOf 24 = 4 := by kernel_rfl
  obtain ⟨T0, hT0⟩ : ∃ T, T = sx (showT t0) := ⟨_, rfl⟩
  have z0 : T0.size ≤ 50000 := by rw [hT0, sx_size]; exact z0'
  replace hT0 := (show Hid _ from hT0)
  obtain ⟨SP, hSP⟩ : ∃ L, L = sx (spacedR x) := ⟨_, rfl⟩
  have SPc : ∀ W1, Calls Tryz.prog 40 #[.string x] W1 fun e w' => e = .returned (.string SP) ∧ Below W1.heap.size W1 w' := fun W1 => by
    rw [hSP]
    exact rSpaced x W1 hx htx
  replace SPc := (show Hid _ from SPc)
  have zS : SP.size ≤ 35 := by rw [hSP, sx_size]; exact spaced_len htx
  replace hSP := (show Hid _ from hSP)
  have HR : Hid (sx (barR 17 x 0 [t0] [showT t0]) = (((SP ++ (⟨#[32, 91, 32]⟩ : ByteArray)) ++ T0) ++ (⟨#[32, 93]⟩ : ByteArray))) := by
    show sx (spacedR x ++ [32, 91, 32] ++ showT t0 ++ [32, 93]) = _
    rw [← sx_app, ← sx_app, ← sx_app, hSP.out, hT0.out]
    rfl
  generalize sx (barR 17 x 0 [t0] [showT t0]) = R at *
  clear z0'
  unfold Lies at hl
  obtain ⟨a', c', e', ⟨hlen, hlc⟩, hat⟩ := hl
  simp only [Value.agg.injEq, Array.mk.injEq, List.cons.injEq, Value.slice.injEq, and_true, true_and] at e'
  obtain ⟨rfl, -, rfl⟩ := e'
  obtain ⟨g, o, rfl, hg, hat⟩ := hat (by simp)
  obtain ⟨v0, ⟨xa0, xb0, xc0, xd0, rfl, q00, q01, q02, q03⟩, l0⟩ := hat.get 0 (by simp)
  obtain ⟨xx0, mm0, aa0, nn0, cc0, rfl, rfl, rfl, rfl⟩ := lies_kind2 l0
  simp only [List.getElem_cons_zero, List.getElem_cons_succ, Nat.zero_mul, Nat.one_mul, Nat.reduceMul, Nat.add_zero, Nat.add_assoc, Nat.reduceAdd] at l0 q00 q01 q02 q03
  generalize hkd0 : kindT t0 = kd0 at *
  go_enter Tryz.func15, Tryz.ntmps15
  go_wp2
  have hbw : Below w.heap.size w (w.alloc (.cells #[.int .i64 17, .string x, .int .i64 0, .slice (some ⟨g, o, none⟩) 1 c] 24)).drew := ((Below.refl w.heap.size w).alloc (Nat.le_refl _) (.cells #[.int .i64 17, .string x, .int .i64 0, .slice (some ⟨g, o, none⟩) 1 c] 24)).drew
  have K0 : ∀ W1, Below ((w.alloc (.cells #[.int .i64 17, .string x, .int .i64 0, .slice (some ⟨g, o, none⟩) 1 c] 24)).drew).heap.size ((w.alloc (.cells #[.int .i64 17, .string x, .int .i64 0, .slice (some ⟨g, o, none⟩) 1 c] 24)).drew) W1 → Calls Tryz.prog 15 #[.agg #[.int .i64 kd0, .string xx0, .int .i64 mm0, .slice aa0 nn0 cc0]] W1 fun e w' => e = .returned (.string T0) ∧ Below W1.heap.size W1 w' := fun W1 hb => by
    rw [hT0.out]
    exact hk0 _ _ (Lies.below (Lies.below l0 hbw) hb)
  have r00 := (hbw.cell (p := ⟨g, o, none⟩) hg).trans q00
  have r01 := (hbw.cell (p := ⟨g, o + 1, none⟩) hg).trans q01
  have r02 := (hbw.cell (p := ⟨g, o + 2, none⟩) hg).trans q02
  have r03 := (hbw.cell (p := ⟨g, o + 3, none⟩) hg).trans q03
  obtain ⟨m0, m1, m2, m3, hW1, -⟩ := one_box ((Below.refl (w.heap.size + 1) (w.alloc (.cells #[.int .i64 17, .string x, .int .i64 0, .slice (some ⟨g, o, none⟩) 1 c] 24))).drew)
  replace K0 := (show Hid _ from K0)
  clear q00 q01 q02 q03 l0 hat 
  refine wp_region_held_drew (S := fun W => Below (w.alloc (.cells #[.int .i64 17, .string x, .int .i64 0, .slice (some ⟨g, o, none⟩) 1 c] 24)).drew.heap.size (w.alloc (.cells #[.int .i64 17, .string x, .int .i64 0, .slice (some ⟨g, o, none⟩) 1 c] 24)).drew W) (by kernel_rfl) (Below.refl _ _) (fun hS => ?_)
  generalize (w.alloc (.cells #[.int .i64 17, .string x, .int .i64 0, .slice (some ⟨g, o, none⟩) 1 c] 24)).drew = W at *
  refine tkd (i := 0) (v := .pointer (some ⟨w.heap.size, 1, none⟩)) rfl rfl (by kernel_rfl) (by kernel_rfl) (by kernel_rfl) (fun _ _ _ h => h) (Or.inl ⟨by rfl, fun wq hSw => by skip; go_simp⟩) hS ?_
  simp only [List.setIfInBounds_toArray, List.set_cons_zero, List.set_cons_succ]
  refine tkd (i := 1) (v := .string x) rfl rfl (by kernel_rfl) (by kernel_rfl) (by kernel_rfl) (fun _ _ _ h => h) (Or.inl ⟨by rfl, fun wq hSw => by have q := pkeep m1 hSw; go_simp⟩) hS ?_
  simp only [List.setIfInBounds_toArray, List.set_cons_zero, List.set_cons_succ]
  refine tkd (i := 4) (v := .pointer (some ⟨w.heap.size, 3, none⟩)) rfl rfl (by kernel_rfl) (by kernel_rfl) (by kernel_rfl) (fun _ _ _ h => h) (Or.inl ⟨by rfl, fun wq hSw => by skip; go_simp⟩) hS ?_
  simp only [List.setIfInBounds_toArray, List.set_cons_zero, List.set_cons_succ]
  refine tkd (i := 5) (v := .slice (some ⟨g, o, none⟩) 1 c) rfl rfl (by kernel_rfl) (by kernel_rfl) (by kernel_rfl) (fun _ _ _ h => h) (Or.inl ⟨by rfl, fun wq hSw => by have q := pkeep m3 hSw; go_simp⟩) hS ?_
  simp only [List.setIfInBounds_toArray, List.set_cons_zero, List.set_cons_succ]
  refine tkd (i := 6) (v := .pointer (some ⟨g, o, none⟩)) rfl rfl (by kernel_rfl) (by kernel_rfl) (by kernel_rfl) (fun _ _ _ h => h) (Or.inl ⟨by rfl, fun wq hSw => by skip; go_simp⟩) hS ?_
  simp only [List.setIfInBounds_toArray, List.set_cons_zero, List.set_cons_succ]
  refine tkd (i := 7) (v := .agg #[.int .i64 kd0, .string xx0, .int .i64 mm0, .slice aa0 nn0 cc0] ) rfl rfl (by kernel_rfl) (by kernel_rfl) (by kernel_rfl) (fun _ _ _ h => h) (Or.inl ⟨by rfl, fun wq hSw => by have e0 := pkeep r00 hSw; have e1 := pkeep r01 hSw; have e2 := pkeep r02 hSw; have e3 := pkeep r03 hSw; go_simp⟩) hS ?_
  simp only [List.setIfInBounds_toArray, List.set_cons_zero, List.set_cons_succ]
  refine wpAnyH_lay [2, 3, 8, 9, 10, 11] [(261, 2), (262, 3), (267, 8), (268, 9), (269, 10), (2, 11)] (fun i v W2 => match i with | 2 => v = .string SP | 3 => v = .string (SP ++ (⟨#[32, 91, 32]⟩ : ByteArray)) | 8 => v = .string T0 | 9 => v = .string ((SP ++ (⟨#[32, 91, 32]⟩ : ByteArray)) ++ T0) | 10 => v = .string (((SP ++ (⟨#[32, 91, 32]⟩ : ByteArray)) ++ T0) ++ (⟨#[32, 93]⟩ : ByteArray)) | _ => v = .string (((SP ++ (⟨#[32, 91, 32]⟩ : ByteArray)) ++ T0) ++ (⟨#[32, 93]⟩ : ByteArray))) (by kernel_rfl) (by rfl) (by kernel_rfl) (by decide) (by kernel_rfl) hS ?_ ?_ ?_
  · intro j v W1 W2 hb h
    split at h
    all_goals first | exact h | exact h.below hb
  · skip
    refine Steps.consK [] rfl trivial (fun U W1 hS1 hR K hK => ?_) ?_
    · skip
      have hcc := SPc.out W1
      simp only [layS, putK, List.foldr, List.foldl, List.setIfInBounds_toArray, List.set_cons_zero, List.set_cons_succ, reduceIte, Nat.reduceEqDiff]
      go_simp
      go_at_call 40
      refine hcc.mono ?_
      rintro e W2 ⟨rfl, hb⟩
      go_wp2
      have hk := hK.out (.string SP) W2 (hS1.trans (hb.mono hS1.size)) hb rfl
      simp only [layS, putK, List.foldr, List.foldl, List.setIfInBounds_toArray, List.set_cons_zero, List.set_cons_succ, reduceIte, Nat.reduceEqDiff] at hk
      exact hk
    refine Steps.consK [(2, .string SP)] rfl ⟨⟨by kernel_rfl, fun _ _ h => h⟩, trivial⟩ (fun U W1 hS1 hR K hK => ?_) ?_
    · skip
      simp only [layS, putK, List.foldr, List.foldl, List.setIfInBounds_toArray, List.set_cons_zero, List.set_cons_succ, reduceIte, Nat.reduceEqDiff]
      go_simp
      rw [if_neg (by first | omega | (simp only [ByteArray.size_append]; omega))]
      go_simp
      have hk := hK.out (.string (SP ++ (⟨#[32, 91, 32]⟩ : ByteArray))) W1 hS1 (Below.refl _ _) rfl
      simp only [layS, putK, List.foldr, List.foldl, List.setIfInBounds_toArray, List.set_cons_zero, List.set_cons_succ, reduceIte, Nat.reduceEqDiff] at hk
      exact hk
    refine Steps.consK [] rfl trivial (fun U W1 hS1 hR K hK => ?_) ?_
    · skip
      have hcc := K0.out W1 hS1
      simp only [layS, putK, List.foldr, List.foldl, List.setIfInBounds_toArray, List.set_cons_zero, List.set_cons_succ, reduceIte, Nat.reduceEqDiff]
      go_simp
      go_at_call 15
      refine hcc.mono ?_
      rintro e W2 ⟨rfl, hb⟩
      go_wp2
      have hk := hK.out (.string T0) W2 (hS1.trans (hb.mono hS1.size)) hb rfl
      simp only [layS, putK, List.foldr, List.foldl, List.setIfInBounds_toArray, List.set_cons_zero, List.set_cons_succ, reduceIte, Nat.reduceEqDiff] at hk
      exact hk
    refine Steps.consK [(3, .string (SP ++ (⟨#[32, 91, 32]⟩ : ByteArray))), (8, .string T0)] rfl ⟨⟨by kernel_rfl, fun _ _ h => h⟩, ⟨by kernel_rfl, fun _ _ h => h⟩, trivial⟩ (fun U W1 hS1 hR K hK => ?_) ?_
    · skip
      simp only [layS, putK, List.foldr, List.foldl, List.setIfInBounds_toArray, List.set_cons_zero, List.set_cons_succ, reduceIte, Nat.reduceEqDiff]
      go_simp
      rw [if_neg (by first | omega | (simp only [ByteArray.size_append]; omega))]
      go_simp
      have hk := hK.out (.string ((SP ++ (⟨#[32, 91, 32]⟩ : ByteArray)) ++ T0)) W1 hS1 (Below.refl _ _) rfl
      simp only [layS, putK, List.foldr, List.foldl, List.setIfInBounds_toArray, List.set_cons_zero, List.set_cons_succ, reduceIte, Nat.reduceEqDiff] at hk
      exact hk
    refine Steps.consK [(9, .string ((SP ++ (⟨#[32, 91, 32]⟩ : ByteArray)) ++ T0))] rfl ⟨⟨by kernel_rfl, fun _ _ h => h⟩, trivial⟩ (fun U W1 hS1 hR K hK => ?_) ?_
    · skip
      simp only [layS, putK, List.foldr, List.foldl, List.setIfInBounds_toArray, List.set_cons_zero, List.set_cons_succ, reduceIte, Nat.reduceEqDiff]
      go_simp
      rw [if_neg (by first | omega | (simp only [ByteArray.size_append]; omega))]
      go_simp
      have hk := hK.out (.string (((SP ++ (⟨#[32, 91, 32]⟩ : ByteArray)) ++ T0) ++ (⟨#[32, 93]⟩ : ByteArray))) W1 hS1 (Below.refl _ _) rfl
      simp only [layS, putK, List.foldr, List.foldl, List.setIfInBounds_toArray, List.set_cons_zero, List.set_cons_succ, reduceIte, Nat.reduceEqDiff] at hk
      exact hk
    refine Steps.consK [(10, .string (((SP ++ (⟨#[32, 91, 32]⟩ : ByteArray)) ++ T0) ++ (⟨#[32, 93]⟩ : ByteArray)))] rfl ⟨⟨by kernel_rfl, fun _ _ h => h⟩, trivial⟩ (fun U W1 hS1 hR K hK => ?_) Steps.nil
    · skip
      simp only [layS, putK, List.foldr, List.foldl, List.setIfInBounds_toArray, List.set_cons_zero, List.set_cons_succ, reduceIte, Nat.reduceEqDiff]
      go_simp
      have hk := hK.out (.string (((SP ++ (⟨#[32, 91, 32]⟩ : ByteArray)) ++ T0) ++ (⟨#[32, 93]⟩ : ByteArray))) W1 hS1 (Below.refl _ _) rfl
      simp only [layS, putK, List.foldr, List.foldl, List.setIfInBounds_toArray, List.set_cons_zero, List.set_cons_succ, reduceIte, Nat.reduceEqDiff] at hk
      exact hk
  · intro U W1 hS1 hR
    have hdd : U 11 = .string (((SP ++ (⟨#[32, 91, 32]⟩ : ByteArray)) ++ T0) ++ (⟨#[32, 93]⟩ : ByteArray)) := hR 11 (by simp)
    simp only [layS, putK, List.foldr, List.foldl, List.setIfInBounds_toArray, List.set_cons_zero, List.set_cons_succ, reduceIte, Nat.reduceEqDiff]
    rw [hdd]
    clear hdd hR
    go_wp2
    go_ret
    exact ⟨by rw [HR.out]; rfl, hbw.trans (hS1.mono hbw.size)⟩
set_option maxHeartbeats 8000000 in
theorem rShow9 {x : ByteArray} {t0 : Tree} {a : Option Addr} {c : Nat} (w : World) (hl : Lies (· < w.heap.size) w (.node 9 x 0 [t0]) (.agg #[.int .i64 9, .string x, .int .i64 0, .slice a 1 c])) (hk0 : ShowOk t0) (z0' : (showT t0).length ≤ 50000) :
    Calls Tryz.prog 15 #[.agg #[.int .i64 9, .string x, .int .i64 0, .slice a 1 c]] w fun e w' => e = .returned (.string (sx (barR 9 x 0 [t0] [showT t0]))) ∧ Below w.heap.size w w' := by
  have c24 : Tryz.prog.cellsOf 24 = 4 := by kernel_rfl
  obtain ⟨T0, hT0⟩ : ∃ T, T = sx (showT t0) := ⟨_, rfl⟩
  have z0 : T0.size ≤ 50000 := by rw [hT0, sx_size]; exact z0'
  replace hT0 := (show Hid _ from hT0)
  have HR : Hid (sx (barR 9 x 0 [t0] [showT t0]) = (((⟨#[100, 111, 32]⟩ : ByteArray) ++ T0) ++ (⟨#[32, 59]⟩ : ByteArray))) := by
    show sx ([100, 111, 32] ++ showT t0 ++ [32, 59]) = _
    rw [← sx_app, ← sx_app, hT0.out]
    rfl
  generalize sx (barR 9 x 0 [t0] [showT t0]) = R at *
  clear z0'
  unfold Lies at hl
  obtain ⟨a', c', e', ⟨hlen, hlc⟩, hat⟩ := hl
  simp only [Value.agg.injEq, Array.mk.injEq, List.cons.injEq, Value.slice.injEq, and_true, true_and] at e'
  obtain ⟨rfl, -, rfl⟩ := e'
  obtain ⟨g, o, rfl, hg, hat⟩ := hat (by simp)
  obtain ⟨v0, ⟨xa0, xb0, xc0, xd0, rfl, q00, q01, q02, q03⟩, l0⟩ := hat.get 0 (by simp)
  obtain ⟨xx0, mm0, aa0, nn0, cc0, rfl, rfl, rfl, rfl⟩ := lies_kind2 l0
  simp only [List.getElem_cons_zero, List.getElem_cons_succ, Nat.zero_mul, Nat.one_mul, Nat.reduceMul, Nat.add_zero, Nat.add_assoc, Nat.reduceAdd] at l0 q00 q01 q02 q03
  generalize hkd0 : kindT t0 = kd0 at *
  have hbw : Below w.heap.size w (w.alloc (.cells #[.int .i64 9, .string x, .int .i64 0, .slice (some ⟨g, o, none⟩) 1 c] 24)) := ((Below.refl w.heap.size w).alloc (Nat.le_refl _) (.cells #[.int .i64 9, .string x, .int .i64 0, .slice (some ⟨g, o, none⟩) 1 c] 24))
  have K0 : ∀ W1, Below ((w.alloc (.cells #[.int .i64 9, .string x, .int .i64 0, .slice (some ⟨g, o, none⟩) 1 c] 24))).heap.size ((w.alloc (.cells #[.int .i64 9, .string x, .int .i64 0, .slice (some ⟨g, o, none⟩) 1 c] 24))) W1 → Calls Tryz.prog 15 #[.agg #[.int .i64 kd0, .string xx0, .int .i64 mm0, .slice aa0 nn0 cc0]] W1 fun e w' => e = .returned (.string T0) ∧ Below W1.heap.size W1 w' := fun W1 hb => by
    rw [hT0.out]
    exact hk0 _ _ (Lies.below (Lies.below l0 hbw) hb)
  have r00 := (hbw.cell (p := ⟨g, o, none⟩) hg).trans q00
  have r01 := (hbw.cell (p := ⟨g, o + 1, none⟩) hg).trans q01
  have r02 := (hbw.cell (p := ⟨g, o + 2, none⟩) hg).trans q02
  have r03 := (hbw.cell (p := ⟨g, o + 3, none⟩) hg).trans q03
  replace K0 := K0 _ (Below.refl _ _)
  clear q00 q01 q02 q03 l0 hat
  have e3 : ((⟨#[100, 111, 32]⟩ : ByteArray) ++ T0).size = 3 + T0.size := ByteArray.size_append
  have e4 : (((⟨#[100, 111, 32]⟩ : ByteArray) ++ T0) ++ (⟨#[32, 59]⟩ : ByteArray)).size = ((⟨#[100, 111, 32]⟩ : ByteArray) ++ T0).size + 2 := ByteArray.size_append
  go_enter Tryz.func15, Tryz.ntmps15
  go_wp2_with (go_at_call 15; refine K0.mono ?_; rintro e w9 ⟨rfl, hb9⟩)
  go_ret
  exact ⟨by rw [HR.out]; rfl, hbw.trans (hb9.mono hbw.size)⟩
set_option maxHeartbeats 8000000 in
theorem rShow14 {x : ByteArray} {t0 : Tree} {a : Option Addr} {c : Nat} (w : World) (hl : Lies (· < w.heap.size) w (.node 14 x 0 [t0]) (.agg #[.int .i64 14, .string x, .int .i64 0, .slice a 1 c])) (hk0 : ShowOk t0) (z0' : (showT t0).length ≤ 50000) :
    Calls Tryz.prog 15 #[.agg #[.int .i64 14, .string x, .int .i64 0, .slice a 1 c]] w fun e w' => e = .returned (.string (sx (barR 14 x 0 [t0] [showT t0]))) ∧ Below w.heap.size w w' := by
  have c24 : Tryz.prog.cellsOf 24 = 4 := by kernel_rfl
  obtain ⟨T0, hT0⟩ : ∃ T, T = sx (showT t0) := ⟨_, rfl⟩
  have z0 : T0.size ≤ 50000 := by rw [hT0, sx_size]; exact z0'
  replace hT0 := (show Hid _ from hT0)
  have HR : Hid (sx (barR 14 x 0 [t0] [showT t0]) = (((⟨#[114, 101, 116, 117, 114, 110, 32]⟩ : ByteArray) ++ T0) ++ (⟨#[32, 59]⟩ : ByteArray))) := by
    show sx ([114, 101, 116, 117, 114, 110, 32] ++ showT t0 ++ [32, 59]) = _
    rw [← sx_app, ← sx_app, hT0.out]
    rfl
  generalize sx (barR 14 x 0 [t0] [showT t0]) = R at *
  clear z0'
  unfold Lies at hl
  obtain ⟨a', c', e', ⟨hlen, hlc⟩, hat⟩ := hl
  simp only [Value.agg.injEq, Array.mk.injEq, List.cons.injEq, Value.slice.injEq, and_true, true_and] at e'
  obtain ⟨rfl, -, rfl⟩ := e'
  obtain ⟨g, o, rfl, hg, hat⟩ := hat (by simp)
  obtain ⟨v0, ⟨xa0, xb0, xc0, xd0, rfl, q00, q01, q02, q03⟩, l0⟩ := hat.get 0 (by simp)
  obtain ⟨xx0, mm0, aa0, nn0, cc0, rfl, rfl, rfl, rfl⟩ := lies_kind2 l0
  simp only [List.getElem_cons_zero, List.getElem_cons_succ, Nat.zero_mul, Nat.one_mul, Nat.reduceMul, Nat.add_zero, Nat.add_assoc, Nat.reduceAdd] at l0 q00 q01 q02 q03
  generalize hkd0 : kindT t0 = kd0 at *
  have hbw : Below w.heap.size w (w.alloc (.cells #[.int .i64 14, .string x, .int .i64 0, .slice (some ⟨g, o, none⟩) 1 c] 24)) := ((Below.refl w.heap.size w).alloc (Nat.le_refl _) (.cells #[.int .i64 14, .string x, .int .i64 0, .slice (some ⟨g, o, none⟩) 1 c] 24))
  have K0 : ∀ W1, Below ((w.alloc (.cells #[.int .i64 14, .string x, .int .i64 0, .slice (some ⟨g, o, none⟩) 1 c] 24))).heap.size ((w.alloc (.cells #[.int .i64 14, .string x, .int .i64 0, .slice (some ⟨g, o, none⟩) 1 c] 24))) W1 → Calls Tryz.prog 15 #[.agg #[.int .i64 kd0, .string xx0, .int .i64 mm0, .slice aa0 nn0 cc0]] W1 fun e w' => e = .returned (.string T0) ∧ Below W1.heap.size W1 w' := fun W1 hb => by
    rw [hT0.out]
    exact hk0 _ _ (Lies.below (Lies.below l0 hbw) hb)
  have r00 := (hbw.cell (p := ⟨g, o, none⟩) hg).trans q00
  have r01 := (hbw.cell (p := ⟨g, o + 1, none⟩) hg).trans q01
  have r02 := (hbw.cell (p := ⟨g, o + 2, none⟩) hg).trans q02
  have r03 := (hbw.cell (p := ⟨g, o + 3, none⟩) hg).trans q03
  replace K0 := K0 _ (Below.refl _ _)
  clear q00 q01 q02 q03 l0 hat
  have e3 : ((⟨#[114, 101, 116, 117, 114, 110, 32]⟩ : ByteArray) ++ T0).size = 7 + T0.size := ByteArray.size_append
  have e4 : (((⟨#[114, 101, 116, 117, 114, 110, 32]⟩ : ByteArray) ++ T0) ++ (⟨#[32, 59]⟩ : ByteArray)).size = ((⟨#[114, 101, 116, 117, 114, 110, 32]⟩ : ByteArray) ++ T0).size + 2 := ByteArray.size_append
  go_enter Tryz.func15, Tryz.ntmps15
  go_wp2_with (go_at_call 15; refine K0.mono ?_; rintro e w9 ⟨rfl, hb9⟩)
  go_ret
  exact ⟨by rw [HR.out]; rfl, hbw.trans (hb9.mono hbw.size)⟩
set_option maxHeartbeats 8000000 in
theorem rShow20 {x : ByteArray} {t0 : Tree} {a : Option Addr} {c : Nat} (w : World) (hl : Lies (· < w.heap.size) w (.node 20 x 0 [t0]) (.agg #[.int .i64 20, .string x, .int .i64 0, .slice a 1 c])) (hk0 : ShowOk t0) (z0' : (showT t0).length ≤ 50000) (hn0 : kindT t0 = 19 → 1 ≤ numT t0 ∧ numT t0 ≤ 9) :
    Calls Tryz.prog 15 #[.agg #[.int .i64 20, .string x, .int .i64 0, .slice a 1 c]] w fun e w' => e = .returned (.string (sx (barR 20 x 0 [t0] [showT t0]))) ∧ Below w.heap.size w w' := by
  have c24 : Tryz.prog.cellsOf 24 = 4 := by kernel_rfl
  obtain ⟨T0, hT0⟩ : ∃ T, T = sx (showT t0) := ⟨_, rfl⟩
  have z0 : T0.size ≤ 50000 := by rw [hT0, sx_size]; exact z0'
  replace hT0 := (show Hid _ from hT0)
  obtain ⟨AT, hAT⟩ : ∃ L, L = sx (atR t0 (showT t0) 3) := ⟨_, rfl⟩
  have zA : AT.size ≤ 50004 := by rw [hAT, sx_size]; have := at_len t0 (showT t0) 3; omega
  replace hAT := (show Hid _ from hAT)
  have HR : Hid (sx (barR 20 x 0 [t0] [showT t0]) = ((⟨#[45, 32]⟩ : ByteArray) ++ AT)) := by
    show sx ([45, 32] ++ atR t0 (showT t0) 3) = _
    rw [← sx_app, hAT.out]
    rfl
  generalize sx (barR 20 x 0 [t0] [showT t0]) = R at *
  unfold Lies at hl
  obtain ⟨a', c', e', ⟨hlen, hlc⟩, hat⟩ := hl
  simp only [Value.agg.injEq, Array.mk.injEq, List.cons.injEq, Value.slice.injEq, and_true, true_and] at e'
  obtain ⟨rfl, -, rfl⟩ := e'
  obtain ⟨g, o, rfl, hg, hat⟩ := hat (by simp)
  obtain ⟨v0, ⟨xa0, xb0, xc0, xd0, rfl, q00, q01, q02, q03⟩, l0⟩ := hat.get 0 (by simp)
  obtain ⟨xx0, mm0, aa0, nn0, cc0, rfl, rfl, rfl, rfl⟩ := lies_kind2 l0
  simp only [List.getElem_cons_zero, List.getElem_cons_succ, Nat.zero_mul, Nat.one_mul, Nat.reduceMul, Nat.add_zero, Nat.add_assoc, Nat.reduceAdd] at l0 q00 q01 q02 q03
  have l0' := l0
  obtain ⟨kd0, hkd0⟩ : ∃ q, q = kindT t0 := ⟨_, rfl⟩
  rw [← hkd0] at q00 l0 l0'
  replace hkd0 := (show Hid _ from hkd0)
  have hbw : Below w.heap.size w (w.alloc (.cells #[.int .i64 20, .string x, .int .i64 0, .slice (some ⟨g, o, none⟩) 1 c] 24)) := ((Below.refl w.heap.size w).alloc (Nat.le_refl _) (.cells #[.int .i64 20, .string x, .int .i64 0, .slice (some ⟨g, o, none⟩) 1 c] 24))
  have K0 : ∀ W1, Below ((w.alloc (.cells #[.int .i64 20, .string x, .int .i64 0, .slice (some ⟨g, o, none⟩) 1 c] 24))).heap.size ((w.alloc (.cells #[.int .i64 20, .string x, .int .i64 0, .slice (some ⟨g, o, none⟩) 1 c] 24))) W1 → Calls Tryz.prog 15 #[.agg #[.int .i64 kd0, .string xx0, .int .i64 mm0, .slice aa0 nn0 cc0]] W1 fun e w' => e = .returned (.string T0) ∧ Below W1.heap.size W1 w' := fun W1 hb => by
    rw [hT0.out]
    exact hk0 _ _ (Lies.below (Lies.below l0 hbw) hb)
  have r00 := (hbw.cell (p := ⟨g, o, none⟩) hg).trans q00
  have r01 := (hbw.cell (p := ⟨g, o + 1, none⟩) hg).trans q01
  have r02 := (hbw.cell (p := ⟨g, o + 2, none⟩) hg).trans q02
  have r03 := (hbw.cell (p := ⟨g, o + 3, none⟩) hg).trans q03
  replace K0 := K0 _ (Below.refl _ _)
  clear q00 q01 q02 q03 l0 hat
  have A0 : Calls Tryz.prog 41 #[.agg #[.int .i64 kd0, .string xx0, .int .i64 mm0, .slice aa0 nn0 cc0], .int .i64 3] (w.alloc (.cells #[.int .i64 20, .string x, .int .i64 0, .slice (some ⟨g, o, none⟩) 1 c] 24)) fun e w' => e = .returned (.string AT) ∧ Below (w.alloc (.cells #[.int .i64 20, .string x, .int .i64 0, .slice (some ⟨g, o, none⟩) 1 c] 24)).heap.size (w.alloc (.cells #[.int .i64 20, .string x, .int .i64 0, .slice (some ⟨g, o, none⟩) 1 c] 24)) w' := by
    rw [hAT.out]
    exact rAtP t0 hk0 (by omega) hn0 3 _ _ (Lies.below l0' hbw)
  clear l0'
  have e3 : ((⟨#[45, 32]⟩ : ByteArray) ++ AT).size = 2 + AT.size := ByteArray.size_append
  go_enter Tryz.func15, Tryz.ntmps15
  go_wp2_with (go_at_call 41; refine A0.mono ?_; rintro e w9 ⟨rfl, hb9⟩)
  go_ret
  exact ⟨by rw [HR.out]; rfl, hbw.trans (hb9.mono hbw.size)⟩
set_option maxHeartbeats 8000000 in
theorem rShow21 {x : ByteArray} {t0 : Tree} {a : Option Addr} {c : Nat} (w : World) (hl : Lies (· < w.heap.size) w (.node 21 x 0 [t0]) (.agg #[.int .i64 21, .string x, .int .i64 0, .slice a 1 c])) (hk0 : ShowOk t0) (z0' : (showT t0).length ≤ 50000) (hn0 : kindT t0 = 19 → 1 ≤ numT t0 ∧ numT t0 ≤ 9) :
    Calls Tryz.prog 15 #[.agg #[.int .i64 21, .string x, .int .i64 0, .slice a 1 c]] w fun e w' => e = .returned (.string (sx (barR 21 x 0 [t0] [showT t0]))) ∧ Below w.heap.size w w' := by
  have c24 : Tryz.prog.cellsOf 24 = 4 := by kernel_rfl
  obtain ⟨T0, hT0⟩ : ∃ T, T = sx (showT t0) := ⟨_, rfl⟩
  have z0 : T0.size ≤ 50000 := by rw [hT0, sx_size]; exact z0'
  replace hT0 := (show Hid _ from hT0)
  obtain ⟨AT, hAT⟩ : ∃ L, L = sx (atR t0 (showT t0) 3) := ⟨_, rfl⟩
  have zA : AT.size ≤ 50004 := by rw [hAT, sx_size]; have := at_len t0 (showT t0) 3; omega
  replace hAT := (show Hid _ from hAT)
  have HR : Hid (sx (barR 21 x 0 [t0] [showT t0]) = ((⟨#[33, 32]⟩ : ByteArray) ++ AT)) := by
    show sx ([33, 32] ++ atR t0 (showT t0) 3) = _
    rw [← sx_app, hAT.out]
    rfl
  generalize sx (barR 21 x 0 [t0] [showT t0]) = R at *
  unfold Lies at hl
  obtain ⟨a', c', e', ⟨hlen, hlc⟩, hat⟩ := hl
  simp only [Value.agg.injEq, Array.mk.injEq, List.cons.injEq, Value.slice.injEq, and_true, true_and] at e'
  obtain ⟨rfl, -, rfl⟩ := e'
  obtain ⟨g, o, rfl, hg, hat⟩ := hat (by simp)
  obtain ⟨v0, ⟨xa0, xb0, xc0, xd0, rfl, q00, q01, q02, q03⟩, l0⟩ := hat.get 0 (by simp)
  obtain ⟨xx0, mm0, aa0, nn0, cc0, rfl, rfl, rfl, rfl⟩ := lies_kind2 l0
  simp only [List.getElem_cons_zero, List.getElem_cons_succ, Nat.zero_mul, Nat.one_mul, Nat.reduceMul, Nat.add_zero, Nat.add_assoc, Nat.reduceAdd] at l0 q00 q01 q02 q03
  have l0' := l0
  obtain ⟨kd0, hkd0⟩ : ∃ q, q = kindT t0 := ⟨_, rfl⟩
  rw [← hkd0] at q00 l0 l0'
  replace hkd0 := (show Hid _ from hkd0)
  have hbw : Below w.heap.size w (w.alloc (.cells #[.int .i64 21, .string x, .int .i64 0, .slice (some ⟨g, o, none⟩) 1 c] 24)) := ((Below.refl w.heap.size w).alloc (Nat.le_refl _) (.cells #[.int .i64 21, .string x, .int .i64 0, .slice (some ⟨g, o, none⟩) 1 c] 24))
  have K0 : ∀ W1, Below ((w.alloc (.cells #[.int .i64 21, .string x, .int .i64 0, .slice (some ⟨g, o, none⟩) 1 c] 24))).heap.size ((w.alloc (.cells #[.int .i64 21, .string x, .int .i64 0, .slice (some ⟨g, o, none⟩) 1 c] 24))) W1 → Calls Tryz.prog 15 #[.agg #[.int .i64 kd0, .string xx0, .int .i64 mm0, .slice aa0 nn0 cc0]] W1 fun e w' => e = .returned (.string T0) ∧ Below W1.heap.size W1 w' := fun W1 hb => by
    rw [hT0.out]
    exact hk0 _ _ (Lies.below (Lies.below l0 hbw) hb)
  have r00 := (hbw.cell (p := ⟨g, o, none⟩) hg).trans q00
  have r01 := (hbw.cell (p := ⟨g, o + 1, none⟩) hg).trans q01
  have r02 := (hbw.cell (p := ⟨g, o + 2, none⟩) hg).trans q02
  have r03 := (hbw.cell (p := ⟨g, o + 3, none⟩) hg).trans q03
  replace K0 := K0 _ (Below.refl _ _)
  clear q00 q01 q02 q03 l0 hat
  have A0 : Calls Tryz.prog 41 #[.agg #[.int .i64 kd0, .string xx0, .int .i64 mm0, .slice aa0 nn0 cc0], .int .i64 3] (w.alloc (.cells #[.int .i64 21, .string x, .int .i64 0, .slice (some ⟨g, o, none⟩) 1 c] 24)) fun e w' => e = .returned (.string AT) ∧ Below (w.alloc (.cells #[.int .i64 21, .string x, .int .i64 0, .slice (some ⟨g, o, none⟩) 1 c] 24)).heap.size (w.alloc (.cells #[.int .i64 21, .string x, .int .i64 0, .slice (some ⟨g, o, none⟩) 1 c] 24)) w' := by
    rw [hAT.out]
    exact rAtP t0 hk0 (by omega) hn0 3 _ _ (Lies.below l0' hbw)
  clear l0'
  have e3 : ((⟨#[33, 32]⟩ : ByteArray) ++ AT).size = 2 + AT.size := ByteArray.size_append
  go_enter Tryz.func15, Tryz.ntmps15
  go_wp2_with (go_at_call 41; refine A0.mono ?_; rintro e w9 ⟨rfl, hb9⟩)
  go_ret
  exact ⟨by rw [HR.out]; rfl, hbw.trans (hb9.mono hbw.size)⟩
set_option maxHeartbeats 8000000 in
theorem rShow16 {x : ByteArray} {a : Option Addr} {c : Nat} (w : World) (hl : Lies (· < w.heap.size) w (.node 16 x 0 []) (.agg #[.int .i64 16, .string x, .int .i64 0, .slice a 0 c])) (hx : x.size ≤ 1000) (htx : textsR x 2 = true) :
    Calls Tryz.prog 15 #[.agg #[.int .i64 16, .string x, .int .i64 0, .slice a 0 c]] w fun e w' => e = .returned (.string (sx (barR 16 x 0 [] []))) ∧ Below w.heap.size w w' := by
  have c24 : Tryz.prog.cellsOf 24 = 4 := by kernel_rfl
  obtain ⟨SP, hSP⟩ : ∃ L, L = sx (spacedR x) := ⟨_, rfl⟩
  have SPc : ∀ W1, Calls Tryz.prog 40 #[.string x] W1 fun e w' => e = .returned (.string SP) ∧ Below W1.heap.size W1 w' := fun W1 => by
    rw [hSP]
    exact rSpaced x W1 hx htx
  replace SPc := (show Hid _ from SPc)
  have zS : SP.size ≤ 35 := by rw [hSP, sx_size]; exact spaced_len htx
  replace hSP := (show Hid _ from hSP)
  have HR : Hid (sx (barR 16 x 0 [] []) = SP) := by
    show sx (spacedR x) = _
    rw [hSP.out]
  generalize sx (barR 16 x 0 [] []) = R at *
  unfold Lies at hl
  obtain ⟨a', c', e', ⟨hlen, hlc⟩, hat⟩ := hl
  simp only [Value.agg.injEq, Array.mk.injEq, List.cons.injEq, Value.slice.injEq, and_true, true_and] at e'
  obtain ⟨rfl, -, rfl⟩ := e'
  have hbw : Below w.heap.size w (w.alloc (.cells #[.int .i64 16, .string x, .int .i64 0, .slice a 0 c] 24)) := ((Below.refl w.heap.size w).alloc (Nat.le_refl _) (.cells #[.int .i64 16, .string x, .int .i64 0, .slice a 0 c] 24))
  go_enter Tryz.func15, Tryz.ntmps15
  go_wp2_with (go_at_call 40; refine (SPc.out _).mono ?_; rintro e w9 ⟨rfl, hb9⟩)
  go_ret
  exact ⟨by rw [HR.out]; rfl, hbw.trans (hb9.mono hbw.size)⟩
set_option maxHeartbeats 8000000 in
theorem rShow2 {x : ByteArray} {a : Option Addr} {c : Nat} (w : World) (hl : Lies (· < w.heap.size) w (.node 2 x 0 []) (.agg #[.int .i64 2, .string x, .int .i64 0, .slice a 0 c])) (hx : x.size ≤ 1000) :
    Calls Tryz.prog 15 #[.agg #[.int .i64 2, .string x, .int .i64 0, .slice a 0 c]] w fun e w' => e = .returned (.string (sx (barR 2 x 0 [] []))) ∧ Below w.heap.size w w' := by
  have c24 : Tryz.prog.cellsOf 24 = 4 := by kernel_rfl
  have HR : Hid (sx (barR 2 x 0 [] []) = (((⟨#[105, 109, 112, 111, 114, 116, 32]⟩ : ByteArray) ++ x) ++ (⟨#[32, 59]⟩ : ByteArray))) := by
    show sx ([105, 109, 112, 111, 114, 116, 32] ++ x.data.toList ++ [32, 59]) = _
    rw [← sx_app, ← sx_app, sx_data]
    rfl
  generalize sx (barR 2 x 0 [] []) = R at *
  unfold Lies at hl
  obtain ⟨a', c', e', ⟨hlen, hlc⟩, hat⟩ := hl
  simp only [Value.agg.injEq, Array.mk.injEq, List.cons.injEq, Value.slice.injEq, and_true, true_and] at e'
  obtain ⟨rfl, -, rfl⟩ := e'
  have hbw : Below w.heap.size w (w.alloc (.cells #[.int .i64 2, .string x, .int .i64 0, .slice a 0 c] 24)) := ((Below.refl w.heap.size w).alloc (Nat.le_refl _) (.cells #[.int .i64 2, .string x, .int .i64 0, .slice a 0 c] 24))
  have e3 : ((⟨#[105, 109, 112, 111, 114, 116, 32]⟩ : ByteArray) ++ x).size = 7 + x.size := ByteArray.size_append
  have e4 : (((⟨#[105, 109, 112, 111, 114, 116, 32]⟩ : ByteArray) ++ x) ++ (⟨#[32, 59]⟩ : ByteArray)).size = ((⟨#[105, 109, 112, 111, 114, 116, 32]⟩ : ByteArray) ++ x).size + 2 := ByteArray.size_append
  go_enter Tryz.func15, Tryz.ntmps15
  go_wp2_with (fail)
  go_ret
  exact ⟨by rw [HR.out]; rfl, hbw⟩
theorem rDigits3 (m : Int) (h0 : 0 ≤ m) (h1 : m ≤ 9223372036854775807) (w : World) : Calls Tryz.prog 39 #[.int .i64 m] w fun e w' => e = .returned (.string (numW m)) ∧ Below w.heap.size w w' := by
  have hC := rDigitsP m h0 h1 w
  generalize numW m = y at *
  go_enter Tryz.func39, Tryz.ntmps39
  go_wp2_with (go_at_call 71; refine hC.mono ?_; rintro e w9 ⟨rfl, hb9⟩)
  go_ret
  exact ⟨rfl, hb9⟩
set_option maxHeartbeats 8000000 in
theorem rShow15a {x : ByteArray} {m : Int} {a : Option Addr} {c : Nat} (w : World) (hl : Lies (· < w.heap.size) w (.node 15 x m []) (.agg #[.int .i64 15, .string x, .int .i64 m, .slice a 0 c])) (h0 : 0 ≤ m) (h1 : m ≤ 9223372036854775807) (dp : decide (2 ≤ m % 4) = true) :
    Calls Tryz.prog 15 #[.agg #[.int .i64 15, .string x, .int .i64 m, .slice a 0 c]] w fun e w' => e = .returned (.string (sx (barR 15 x m [] []))) ∧ Below w.heap.size w w' := by
  have c24 : Tryz.prog.cellsOf 24 = 4 := by kernel_rfl
  obtain ⟨NW, hNW⟩ : ∃ L, L = numW m := ⟨_, rfl⟩
  replace hNW := (show Hid _ from hNW)
  have DGc : Hid (∀ W1, Calls Tryz.prog 39 #[.int .i64 m] W1 fun e w' => e = .returned (.string NW) ∧ Below W1.heap.size W1 w') := fun W1 => by
    rw [hNW.out]
    exact rDigits3 m h0 h1 W1
  have HR : Hid (sx (barR 15 x m [] []) = NW) := by
    show sx (numW m).data.toList = _
    rw [sx_data, hNW.out]
  generalize sx (barR 15 x m [] []) = R at *
  unfold Lies at hl
  obtain ⟨a', c', e', ⟨hlen, hlc⟩, hat⟩ := hl
  simp only [Value.agg.injEq, Array.mk.injEq, List.cons.injEq, Value.slice.injEq, and_true, true_and] at e'
  obtain ⟨rfl, -, rfl⟩ := e'
  have hbw : Below w.heap.size w (w.alloc (.cells #[.int .i64 15, .string x, .int .i64 m, .slice a 0 c] 24)) := ((Below.refl w.heap.size w).alloc (Nat.le_refl _) (.cells #[.int .i64 15, .string x, .int .i64 m, .slice a 0 c] 24))
  go_enter Tryz.func15, Tryz.ntmps15
  go_wp2_with (first | (go_at_call 39; refine (DGc.out _).mono ?_; rintro e w9 ⟨rfl, hb9⟩))
  go_ret
  exact ⟨by rw [HR.out]; rfl, hbw.trans (hb9.mono hbw.size)⟩
set_option maxHeartbeats 8000000 in
theorem rShow15b {x : ByteArray} {m : Int} {a : Option Addr} {c : Nat} (w : World) (hl : Lies (· < w.heap.size) w (.node 15 x m []) (.agg #[.int .i64 15, .string x, .int .i64 m, .slice a 0 c])) (h0 : 0 ≤ m) (h1 : m ≤ 9223372036854775807) (dp : decide (2 ≤ m % 4) = false) :
    Calls Tryz.prog 15 #[.agg #[.int .i64 15, .string x, .int .i64 m, .slice a 0 c]] w fun e w' => e = .returned (.string (sx (barR 15 x m [] []))) ∧ Below w.heap.size w w' := by
  have c24 : Tryz.prog.cellsOf 24 = 4 := by kernel_rfl
  obtain ⟨NW, hNW⟩ : ∃ L, L = numW m := ⟨_, rfl⟩
  replace hNW := (show Hid _ from hNW)
  have DGc : Hid (∀ W1, Calls Tryz.prog 39 #[.int .i64 m] W1 fun e w' => e = .returned (.string NW) ∧ Below W1.heap.size W1 w') := fun W1 => by
    rw [hNW.out]
    exact rDigits3 m h0 h1 W1
  have HR : Hid (sx (barR 15 x m [] []) = NW) := by
    show sx (numW m).data.toList = _
    rw [sx_data, hNW.out]
  generalize sx (barR 15 x m [] []) = R at *
  unfold Lies at hl
  obtain ⟨a', c', e', ⟨hlen, hlc⟩, hat⟩ := hl
  simp only [Value.agg.injEq, Array.mk.injEq, List.cons.injEq, Value.slice.injEq, and_true, true_and] at e'
  obtain ⟨rfl, -, rfl⟩ := e'
  have hbw : Below w.heap.size w (w.alloc (.cells #[.int .i64 15, .string x, .int .i64 m, .slice a 0 c] 24)) := ((Below.refl w.heap.size w).alloc (Nat.le_refl _) (.cells #[.int .i64 15, .string x, .int .i64 m, .slice a 0 c] 24))
  go_enter Tryz.func15, Tryz.ntmps15
  go_wp2_with (first | (go_at_call 39; refine (DGc.out _).mono ?_; rintro e w9 ⟨rfl, hb9⟩))
  go_ret
  exact ⟨by rw [HR.out]; rfl, hbw.trans (hb9.mono hbw.size)⟩
set_option maxHeartbeats 8000000 in
theorem rShow18 {x : ByteArray} {ks : List Tree} {a : Option Addr} {c : Nat} (w : World) (hl : Lies (· < w.heap.size) w (.node 18 x 0 ks) (.agg #[.int .i64 18, .string x, .int .i64 0, .slice a ks.length c])) (hk : ∀ t ∈ ks, ShowOk t) (hsum : sum8 (showL ks) ≤ 60000) (hx : x.size ≤ 1000) (htx : textsR x 2 = true) :
    Calls Tryz.prog 15 #[.agg #[.int .i64 18, .string x, .int .i64 0, .slice a ks.length c]] w fun e w' => e = .returned (.string (sx (barR 18 x 0 ks (showL ks)))) ∧ Below w.heap.size w w' := by
  have c24 : Tryz.prog.cellsOf 24 = 4 := by kernel_rfl
  obtain ⟨SP, hSP⟩ : ∃ L, L = sx (spacedR x) := ⟨_, rfl⟩
  have SPc : ∀ W1, Calls Tryz.prog 40 #[.string x] W1 fun e w' => e = .returned (.string SP) ∧ Below W1.heap.size W1 w' := fun W1 => by
    rw [hSP]
    exact rSpaced x W1 hx htx
  replace SPc := (show Hid _ from SPc)
  have zS : SP.size ≤ 35 := by rw [hSP, sx_size]; exact spaced_len htx
  replace hSP := (show Hid _ from hSP)
  obtain ⟨RD, hRD⟩ : ∃ L, L = sx (roundR (showL ks)) := ⟨_, rfl⟩
  have zR : RD.size ≤ 60004 := by rw [hRD, sx_size]; have := zround_len (showL ks); omega
  replace hRD := (show Hid _ from hRD)
  have HR : Hid (sx (barR 18 x 0 ks (showL ks)) = ((SP ++ (⟨#[32]⟩ : ByteArray)) ++ RD)) := by
    show sx (spacedR x ++ [32] ++ roundR (showL ks)) = _
    rw [← sx_app, ← sx_app, hSP.out, hRD.out]
    rfl
  generalize sx (barR 18 x 0 ks (showL ks)) = R at *
  unfold Lies at hl
  obtain ⟨a', c', e', ⟨hlen, hlc⟩, hat⟩ := hl
  simp only [Value.agg.injEq, Array.mk.injEq, List.cons.injEq, Value.slice.injEq, and_true, true_and] at e'
  obtain ⟨rfl, -, rfl⟩ := e'
  have hrow : RowT w (.slice a ks.length c) ks := ⟨a, c, rfl, hlc, hlen, hat⟩
  clear hat
  have RDc : ∀ W1, Below ((w.alloc (.cells #[.int .i64 18, .string x, .int .i64 0, .slice a ks.length c] 24)).drew).heap.size ((w.alloc (.cells #[.int .i64 18, .string x, .int .i64 0, .slice a ks.length c] 24)).drew) W1 → Calls Tryz.prog 37 #[.slice a ks.length c] W1 fun e w' => e = .returned (.string RD) ∧ Below W1.heap.size W1 w' := fun W1 hb => by
    rw [hRD.out]
    exact rRoundP ks hk hsum _ _ ((hrow.below (((Below.refl w.heap.size w).alloc (Nat.le_refl _) _).drew)).below hb)
  replace RDc := (show Hid _ from RDc)
  have e0 : ∀ z : Int, z = z := fun _ => rfl
  clear e0 hk hsum hrow
  go_enter Tryz.func15, Tryz.ntmps15
  go_wp2
  have hbw : Below w.heap.size w (w.alloc (.cells #[.int .i64 18, .string x, .int .i64 0, .slice a ks.length c] 24)).drew := ((Below.refl w.heap.size w).alloc (Nat.le_refl _) (.cells #[.int .i64 18, .string x, .int .i64 0, .slice a ks.length c] 24)).drew
  obtain ⟨m0, m1, m2, m3, hW1, -⟩ := one_box ((Below.refl (w.heap.size + 1) (w.alloc (.cells #[.int .i64 18, .string x, .int .i64 0, .slice a ks.length c] 24))).drew)
  refine wp_region_held_drew (S := fun W => Below (w.alloc (.cells #[.int .i64 18, .string x, .int .i64 0, .slice a ks.length c] 24)).drew.heap.size (w.alloc (.cells #[.int .i64 18, .string x, .int .i64 0, .slice a ks.length c] 24)).drew W) (by kernel_rfl) (Below.refl _ _) (fun hS => ?_)
  generalize (w.alloc (.cells #[.int .i64 18, .string x, .int .i64 0, .slice a ks.length c] 24)).drew = W at *
  refine tkd (i := 0) (v := .pointer (some ⟨w.heap.size, 1, none⟩)) rfl rfl (by kernel_rfl) (by kernel_rfl) (by kernel_rfl) (fun _ _ _ h => h) (Or.inl ⟨by rfl, fun wq hSw => by skip; go_simp⟩) hS ?_
  simp only [List.setIfInBounds_toArray, List.set_cons_zero, List.set_cons_succ]
  refine tkd (i := 1) (v := .string x) rfl rfl (by kernel_rfl) (by kernel_rfl) (by kernel_rfl) (fun _ _ _ h => h) (Or.inl ⟨by rfl, fun wq hSw => by have q := pkeep m1 hSw; go_simp⟩) hS ?_
  simp only [List.setIfInBounds_toArray, List.set_cons_zero, List.set_cons_succ]
  refine tkd (i := 4) (v := .pointer (some ⟨w.heap.size, 3, none⟩)) rfl rfl (by kernel_rfl) (by kernel_rfl) (by kernel_rfl) (fun _ _ _ h => h) (Or.inl ⟨by rfl, fun wq hSw => by skip; go_simp⟩) hS ?_
  simp only [List.setIfInBounds_toArray, List.set_cons_zero, List.set_cons_succ]
  refine tkd (i := 5) (v := .slice a ks.length c) rfl rfl (by kernel_rfl) (by kernel_rfl) (by kernel_rfl) (fun _ _ _ h => h) (Or.inl ⟨by rfl, fun wq hSw => by have q := pkeep m3 hSw; go_simp⟩) hS ?_
  simp only [List.setIfInBounds_toArray, List.set_cons_zero, List.set_cons_succ]
  refine wpAnyH_lay [2, 3, 6, 7, 8] [(274, 2), (275, 3), (278, 6), (279, 7), (2, 8)] (fun i v W2 => match i with | 2 => v = .string SP | 3 => v = .string (SP ++ (⟨#[32]⟩ : ByteArray)) | 6 => v = .string RD | 7 => v = .string ((SP ++ (⟨#[32]⟩ : ByteArray)) ++ RD) | _ => v = .string ((SP ++ (⟨#[32]⟩ : ByteArray)) ++ RD)) (by kernel_rfl) (by rfl) (by kernel_rfl) (by decide) (by kernel_rfl) hS ?_ ?_ ?_
  · intro j v W1 W2 hb h
    split at h
    all_goals first | exact h | exact h.below hb
  · skip
    refine Steps.consK [] rfl trivial (fun U W1 hS1 hR K hK => ?_) ?_
    · skip
      have hcc := SPc.out W1
      simp only [layS, putK, List.foldr, List.foldl, List.setIfInBounds_toArray, List.set_cons_zero, List.set_cons_succ, reduceIte, Nat.reduceEqDiff]
      go_simp
      go_at_call 40
      refine hcc.mono ?_
      rintro e W2 ⟨rfl, hb⟩
      go_wp2
      have hk := hK.out (.string SP) W2 (hS1.trans (hb.mono hS1.size)) hb rfl
      simp only [layS, putK, List.foldr, List.foldl, List.setIfInBounds_toArray, List.set_cons_zero, List.set_cons_succ, reduceIte, Nat.reduceEqDiff] at hk
      exact hk
    refine Steps.consK [(2, .string SP)] rfl ⟨⟨by kernel_rfl, fun _ _ h => h⟩, trivial⟩ (fun U W1 hS1 hR K hK => ?_) ?_
    · skip
      simp only [layS, putK, List.foldr, List.foldl, List.setIfInBounds_toArray, List.set_cons_zero, List.set_cons_succ, reduceIte, Nat.reduceEqDiff]
      go_simp
      rw [if_neg (by first | omega | (simp only [ByteArray.size_append]; omega))]
      go_simp
      have hk := hK.out (.string (SP ++ (⟨#[32]⟩ : ByteArray))) W1 hS1 (Below.refl _ _) rfl
      simp only [layS, putK, List.foldr, List.foldl, List.setIfInBounds_toArray, List.set_cons_zero, List.set_cons_succ, reduceIte, Nat.reduceEqDiff] at hk
      exact hk
    refine Steps.consK [] rfl trivial (fun U W1 hS1 hR K hK => ?_) ?_
    · skip
      have hcc := RDc.out W1 hS1
      simp only [layS, putK, List.foldr, List.foldl, List.setIfInBounds_toArray, List.set_cons_zero, List.set_cons_succ, reduceIte, Nat.reduceEqDiff]
      go_simp
      go_at_call 37
      refine hcc.mono ?_
      rintro e W2 ⟨rfl, hb⟩
      go_wp2
      have hk := hK.out (.string RD) W2 (hS1.trans (hb.mono hS1.size)) hb rfl
      simp only [layS, putK, List.foldr, List.foldl, List.setIfInBounds_toArray, List.set_cons_zero, List.set_cons_succ, reduceIte, Nat.reduceEqDiff] at hk
      exact hk
    refine Steps.consK [(3, .string (SP ++ (⟨#[32]⟩ : ByteArray))), (6, .string RD)] rfl ⟨⟨by kernel_rfl, fun _ _ h => h⟩, ⟨by kernel_rfl, fun _ _ h => h⟩, trivial⟩ (fun U W1 hS1 hR K hK => ?_) ?_
    · skip
      simp only [layS, putK, List.foldr, List.foldl, List.setIfInBounds_toArray, List.set_cons_zero, List.set_cons_succ, reduceIte, Nat.reduceEqDiff]
      go_simp
      rw [if_neg (by first | omega | (simp only [ByteArray.size_append]; omega))]
      go_simp
      have hk := hK.out (.string ((SP ++ (⟨#[32]⟩ : ByteArray)) ++ RD)) W1 hS1 (Below.refl _ _) rfl
      simp only [layS, putK, List.foldr, List.foldl, List.setIfInBounds_toArray, List.set_cons_zero, List.set_cons_succ, reduceIte, Nat.reduceEqDiff] at hk
      exact hk
    refine Steps.consK [(7, .string ((SP ++ (⟨#[32]⟩ : ByteArray)) ++ RD))] rfl ⟨⟨by kernel_rfl, fun _ _ h => h⟩, trivial⟩ (fun U W1 hS1 hR K hK => ?_) Steps.nil
    · skip
      simp only [layS, putK, List.foldr, List.foldl, List.setIfInBounds_toArray, List.set_cons_zero, List.set_cons_succ, reduceIte, Nat.reduceEqDiff]
      go_simp
      have hk := hK.out (.string ((SP ++ (⟨#[32]⟩ : ByteArray)) ++ RD)) W1 hS1 (Below.refl _ _) rfl
      simp only [layS, putK, List.foldr, List.foldl, List.setIfInBounds_toArray, List.set_cons_zero, List.set_cons_succ, reduceIte, Nat.reduceEqDiff] at hk
      exact hk
  · intro U W1 hS1 hR
    have hdd : U 8 = .string ((SP ++ (⟨#[32]⟩ : ByteArray)) ++ RD) := hR 8 (by simp)
    simp only [layS, putK, List.foldr, List.foldl, List.setIfInBounds_toArray, List.set_cons_zero, List.set_cons_succ, reduceIte, Nat.reduceEqDiff]
    rw [hdd]
    clear hdd hR
    go_wp2
    go_ret
    exact ⟨by rw [HR.out]; rfl, hbw.trans (hS1.mono hbw.size)⟩
set_option maxHeartbeats 8000000 in
theorem rShow6a {x : ByteArray} {ks : List Tree} {a : Option Addr} {c : Nat} (w : World) (hl : Lies (· < w.heap.size) w (.node 6 x 0 ks) (.agg #[.int .i64 6, .string x, .int .i64 0, .slice a ks.length c])) (hk : ∀ t ∈ ks, ShowOk t) (hsum : sum8 (showL ks) ≤ 60000) (hn : ks.length = 0) :
    Calls Tryz.prog 15 #[.agg #[.int .i64 6, .string x, .int .i64 0, .slice a ks.length c]] w fun e w' => e = .returned (.string (sx (barR 6 x 0 ks (showL ks)))) ∧ Below w.heap.size w w' := by
  have c24 : Tryz.prog.cellsOf 24 = 4 := by kernel_rfl
  obtain ⟨LS, hLS⟩ : ∃ L, L = sx (listR (⟨#[32]⟩ : ByteArray).data.toList (showL ks)) := ⟨_, rfl⟩
  have zR : LS.size ≤ 60000 := by rw [hLS, sx_size]; have := list_len (⟨#[32]⟩ : ByteArray).data.toList (by decide) (showL ks); omega
  replace hLS := (show Hid _ from hLS)
  have HR : Hid (sx (barR 6 x 0 ks (showL ks)) = (⟨#[123, 32, 125]⟩ : ByteArray)) := by
    show sx (if (showL ks).length = 0 then [123, 32, 125] else [123, 32] ++ listR [32] (showL ks) ++ [32, 125]) = _
    rw [showL_len, if_pos hn]
    rfl
  generalize sx (barR 6 x 0 ks (showL ks)) = R at *
  unfold Lies at hl
  obtain ⟨a', c', e', ⟨hlen, hlc⟩, hat⟩ := hl
  simp only [Value.agg.injEq, Array.mk.injEq, List.cons.injEq, Value.slice.injEq, and_true, true_and] at e'
  obtain ⟨rfl, -, rfl⟩ := e'
  have hrow : RowT w (.slice a ks.length c) ks := ⟨a, c, rfl, hlc, hlen, hat⟩
  clear hat
  have hbw : Below w.heap.size w (w.alloc (.cells #[.int .i64 6, .string x, .int .i64 0, .slice a ks.length c] 24)) := (Below.refl w.heap.size w).alloc (Nat.le_refl _) _
  have LC : Calls Tryz.prog 38 #[.slice a ks.length c, .string ⟨#[32]⟩] (w.alloc (.cells #[.int .i64 6, .string x, .int .i64 0, .slice a ks.length c] 24)) fun e w' => e = .returned (.string LS) ∧ Below (w.alloc (.cells #[.int .i64 6, .string x, .int .i64 0, .slice a ks.length c] 24)).heap.size (w.alloc (.cells #[.int .i64 6, .string x, .int .i64 0, .slice a ks.length c] 24)) w' := by
    rw [hLS.out]
    exact rListP ks hk hsum ⟨#[32]⟩ (by decide) _ _ (hrow.below hbw)
  have e3 : ((⟨#[123, 32]⟩ : ByteArray) ++ LS).size = 2 + LS.size := ByteArray.size_append
  have e4 : (((⟨#[123, 32]⟩ : ByteArray) ++ LS) ++ (⟨#[32, 125]⟩ : ByteArray)).size = ((⟨#[123, 32]⟩ : ByteArray) ++ LS).size + 2 := ByteArray.size_append
  clear hk hsum hrow
  rw [hn] at *
  go_enter Tryz.func15, Tryz.ntmps15
  go_wp2
  go_ret
  exact ⟨by rw [HR.out]; rfl, hbw⟩
set_option maxHeartbeats 8000000 in
theorem rShow6b {x : ByteArray} {ks : List Tree} {a : Option Addr} {c : Nat} (w : World) (hl : Lies (· < w.heap.size) w (.node 6 x 0 ks) (.agg #[.int .i64 6, .string x, .int .i64 0, .slice a ks.length c])) (hk : ∀ t ∈ ks, ShowOk t) (hsum : sum8 (showL ks) ≤ 60000) (hn : ¬ ks.length = 0) :
    Calls Tryz.prog 15 #[.agg #[.int .i64 6, .string x, .int .i64 0, .slice a ks.length c]] w fun e w' => e = .returned (.string (sx (barR 6 x 0 ks (showL ks)))) ∧ Below w.heap.size w w' := by
  have c24 : Tryz.prog.cellsOf 24 = 4 := by kernel_rfl
  obtain ⟨LS, hLS⟩ : ∃ L, L = sx (listR (⟨#[32]⟩ : ByteArray).data.toList (showL ks)) := ⟨_, rfl⟩
  have zR : LS.size ≤ 60000 := by rw [hLS, sx_size]; have := list_len (⟨#[32]⟩ : ByteArray).data.toList (by decide) (showL ks); omega
  replace hLS := (show Hid _ from hLS)
  have HR : Hid (sx (barR 6 x 0 ks (showL ks)) = (((⟨#[123, 32]⟩ : ByteArray) ++ LS) ++ (⟨#[32, 125]⟩ : ByteArray))) := by
    show sx (if (showL ks).length = 0 then [123, 32, 125] else [123, 32] ++ listR [32] (showL ks) ++ [32, 125]) = _
    rw [showL_len, if_neg hn, ← sx_app, ← sx_app, hLS.out]
    rfl
  generalize sx (barR 6 x 0 ks (showL ks)) = R at *
  unfold Lies at hl
  obtain ⟨a', c', e', ⟨hlen, hlc⟩, hat⟩ := hl
  simp only [Value.agg.injEq, Array.mk.injEq, List.cons.injEq, Value.slice.injEq, and_true, true_and] at e'
  obtain ⟨rfl, -, rfl⟩ := e'
  have hrow : RowT w (.slice a ks.length c) ks := ⟨a, c, rfl, hlc, hlen, hat⟩
  clear hat
  have hbw : Below w.heap.size w (w.alloc (.cells #[.int .i64 6, .string x, .int .i64 0, .slice a ks.length c] 24)) := (Below.refl w.heap.size w).alloc (Nat.le_refl _) _
  have LC : Calls Tryz.prog 38 #[.slice a ks.length c, .string ⟨#[32]⟩] (w.alloc (.cells #[.int .i64 6, .string x, .int .i64 0, .slice a ks.length c] 24)) fun e w' => e = .returned (.string LS) ∧ Below (w.alloc (.cells #[.int .i64 6, .string x, .int .i64 0, .slice a ks.length c] 24)).heap.size (w.alloc (.cells #[.int .i64 6, .string x, .int .i64 0, .slice a ks.length c] 24)) w' := by
    rw [hLS.out]
    exact rListP ks hk hsum ⟨#[32]⟩ (by decide) _ _ (hrow.below hbw)
  have e3 : ((⟨#[123, 32]⟩ : ByteArray) ++ LS).size = 2 + LS.size := ByteArray.size_append
  have e4 : (((⟨#[123, 32]⟩ : ByteArray) ++ LS) ++ (⟨#[32, 125]⟩ : ByteArray)).size = ((⟨#[123, 32]⟩ : ByteArray) ++ LS).size + 2 := ByteArray.size_append
  clear hk hsum hrow
  have dl : decide ((ks.length : Int) - 1 < 0) = false := decide_eq_false (by omega)
  have dl2 : ¬ ((ks.length : Int) - 1 < 0) := by omega
  clear hn
  go_enter Tryz.func15, Tryz.ntmps15
  go_wp2_with (go_at_call 38; refine LC.mono ?_; rintro e w9 ⟨rfl, hb9⟩)
  go_ret
  exact ⟨by rw [HR.out]; rfl, hbw.trans (hb9.mono hbw.size)⟩
set_option maxHeartbeats 8000000 in
theorem rShow1 {x : ByteArray} {ks : List Tree} {a : Option Addr} {c : Nat} (w : World) (hl : Lies (· < w.heap.size) w (.node 1 x 0 ks) (.agg #[.int .i64 1, .string x, .int .i64 0, .slice a ks.length c])) (hk : ∀ t ∈ ks, ShowOk t) (hsum : sum8 (showL ks) ≤ 60000) (hx : x.size ≤ 1000) :
    Calls Tryz.prog 15 #[.agg #[.int .i64 1, .string x, .int .i64 0, .slice a ks.length c]] w fun e w' => e = .returned (.string (sx (barR 1 x 0 ks (showL ks)))) ∧ Below w.heap.size w w' := by
  have c24 : Tryz.prog.cellsOf 24 = 4 := by kernel_rfl
  have zx : ((⟨#[109, 111, 100, 117, 108, 101, 32]⟩ : ByteArray) ++ x).size = 7 + x.size := ByteArray.size_append
  have zy : (((⟨#[109, 111, 100, 117, 108, 101, 32]⟩ : ByteArray) ++ x) ++ (⟨#[32, 59]⟩ : ByteArray)).size = ((⟨#[109, 111, 100, 117, 108, 101, 32]⟩ : ByteArray) ++ x).size + 2 := ByteArray.size_append
  obtain ⟨E, hE⟩ : ∃ E, E = (((⟨#[109, 111, 100, 117, 108, 101, 32]⟩ : ByteArray) ++ x) ++ (⟨#[32, 59]⟩ : ByteArray)) := ⟨_, rfl⟩
  have HR : Hid (sx (barR 1 x 0 ks (showL ks)) = E ++ sx ((showL ks).flatMap (32 :: ·))) := by
    show sx ([109, 111, 100, 117, 108, 101, 32] ++ x.data.toList ++ [32, 59] ++ (showL ks).flatMap (32 :: ·)) = _
    rw [← sx_app, ← sx_app, ← sx_app, sx_data, hE]
    rfl
  generalize sx (barR 1 x 0 ks (showL ks)) = R at *
  have hEz : E.size ≤ 1009 := by rw [hE]; omega
  have HE0 : Hid ((((⟨#[109, 111, 100, 117, 108, 101, 32]⟩ : ByteArray) ++ x) ++ (⟨#[32, 59]⟩ : ByteArray)) = E ++ sx (((showL ks).take 0).flatMap (32 :: ·))) := by
    show _ = _
    rw [← hE]
    apply ByteArray.ext
    simp [sx, ByteArray.data_append]
  replace hE := (show Hid _ from hE)
  unfold Lies at hl
  obtain ⟨a', c', e', ⟨hlen, hlc⟩, hka⟩ := hl
  simp only [Value.agg.injEq, Array.mk.injEq, List.cons.injEq, Value.slice.injEq, and_true, true_and] at e'
  obtain ⟨rfl, -, rfl⟩ := e'
  replace hka := (show Hid _ from hka)
  replace hk := (show Hid _ from hk)
  go_enter Tryz.func15, Tryz.ntmps15
  go_wp2
  go_loopw [5, 6] (fun s t wr => ∃ (j : Nat) (y : ByteArray), j ≤ ks.length ∧ t = .int .i64 j ∧ s = .string y ∧ Hid (y = E ++ sx (((showL ks).take j).flatMap (32 :: ·))) ∧ Below (w.heap.size + 1) (w.alloc (.cells #[.int .i64 1, .string x, .int .i64 0, .slice a ks.length c] 24)) wr) (fun _ t _ => ks.length - (intOf t).toNat)
  case atStart => exact ⟨0, _, Nat.zero_le _, rfl, rfl, HE0.out, Below.refl _ _⟩
  case round =>
    clear HE0 zx zy
    obtain ⟨j, y, hj, rfl, rfl, HY, hbr⟩ := hrel
    obtain ⟨p0, p1, p2, p3, hsz, hbw⟩ := one_box hbr
    have hsl : (showL ks).length = ks.length := showL_len ks
    have hy : y.size ≤ 62000 := by
      have h1 := flat_len ((showL ks).take j)
      have h2 := sum8_take (showL ks) j
      rw [HY.out, ByteArray.size_append, sx_size]
      omega
    by_cases hlt : j < ks.length
    · obtain ⟨g, o, rfl, hg, hat⟩ := hka.out (by intro e; rw [e] at hlt; simp at hlt)
      obtain ⟨x0, x1, x2, x3, c0, c1, c2, c3, hxk⟩ := hat.kid1 hg hbw hlt
      obtain ⟨xx, mm, aa, nn, cc, rfl, rfl, rfl, rfl⟩ := lies_kind2 hxk
      have hC := hk.out _ (List.getElem_mem hlt) wr _ hxk
      have e2 := showL_getD hlt
      rw [List.getD_eq_getElem?_getD, List.getElem?_eq_getElem (by omega)] at e2
      have e3 : (showL ks)[j]'(by omega) = showT ks[j] := e2
      have hz : (sx (showT ks[j])).size ≤ 62000 := by
        have h1 := sum8_take (showL ks) (j + 1)
        have h3 := sum8_pos ((showL ks).take j)
        rw [List.take_succ_eq_append_getElem (by omega), sum8_split, e3] at h1
        rw [sx_size]
        omega
      have HY2 : Hid ((y ++ (⟨#[32]⟩ : ByteArray)) ++ sx (showT ks[j]) = E ++ sx (((showL ks).take (j + 1)).flatMap (32 :: ·))) := by
        show _ = _
        rw [List.take_succ_eq_append_getElem (by omega), e3, List.flatMap_append, ← sx_app, HY.out]
        apply ByteArray.ext
        simp [sx, ByteArray.data_append]
      clear hxk hat HY hsum hsl e2 e3
      generalize kindT ks[j] = kd at *
      generalize sx (showT ks[j]) = z at *
      have h1 : (y ++ (⟨#[32]⟩ : ByteArray)).size = y.size + 1 := ByteArray.size_append
      have h2 : ((y ++ (⟨#[32]⟩ : ByteArray)) ++ z).size = (y ++ (⟨#[32]⟩ : ByteArray)).size + z.size := ByteArray.size_append
      go_wp2_with (go_at_call 15; refine hC.mono ?_; rintro e w1 ⟨rfl, hb1⟩)
      go_roundw
      case rel => exact ⟨j + 1, _, by omega, by go_num, rfl, HY2.out, hbr.trans (hb1.mono hsz)⟩
      case measure => simp [intOf]; omega
    · obtain rfl : j = ks.length := by omega
      have HZ : Hid (R = y) := by
        show _ = _
        rw [HR.out, HY.out, ← showL_len, List.take_length]
      clear HY
      go_wp2
      go_ret
      exact ⟨by rw [HZ.out]; rfl, hbw⟩
end pr
end Go.Proofs.YtkoomoemkffjkaaGreatDoor
