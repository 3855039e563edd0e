/- What the reference's Show answers of nodes of a kind, once it does of the kids: contracts. (Written by mkshow.py: edit that.) -/
import Derived.Test.YtkoomoemkffjkaaGreatDoorNP07
set_option linter.unusedVariables false
set_option linter.unusedSimpArgs false
set_option maxRecDepth 100000
namespace Go.Proofs.YtkoomoemkffjkaaGreatDoor
namespace pr
open Go.RowKit
open Go.Proofs.YtkoomoemkffjkaaGreatDoor.syn Go.Proofs.YtkoomoemkffjkaaGreatDoor.face Go.Proofs.YtkoomoemkffjkaaGreatDoor.chk
open Go.Proofs.YtkoomoemkffjkaaGreatDoor.ord (tkd)
open Go.Proofs.YtkoomoemkffjkaaGreatDoor.reg
set_option maxHeartbeats 8000000 in
theorem rShow19bd {x : ByteArray} {m : Int} {t0 t1 : Tree} {a : Option Addr} {c : Nat} (w : World) (hl : Lies (· < w.heap.size) w (.node 19 x m [t0, t1]) (.agg #[.int .i64 19, .string x, .int .i64 m, .slice a 2 c])) (hk0 : ShowOk t0) (z0' : (showT t0).length ≤ 50000) (hk1 : ShowOk t1) (z1' : (showT t1).length ≤ 50000) (hn0 : kindT t0 = 19 → 1 ≤ numT t0 ∧ numT t0 ≤ 9) (hn1 : kindT t1 = 19 → 1 ≤ numT t1 ∧ numT t1 ≤ 9) (h1 : 1 ≤ m) (h9 : m ≤ 9) (dp : decide (2 ≤ m % 4) = true) (dz : (levelR m == 0) = true) :
    Calls Tryz.prog 15 #[.agg #[.int .i64 19, .string x, .int .i64 m, .slice a 2 c]] w fun e w' => e = .returned (.string (sx (barR 19 x m [t0, t1] [showT t0, showT t1]))) ∧ Below w.heap.size w w' := by
  have c24 : Tryz.prog.cellsOf 24 = 4 := by kernel_rfl
  have h0 : 0 ≤ m := by omega
  obtain ⟨lv, hlv⟩ : ∃ l, l = levelR m := ⟨_, rfl⟩
  obtain ⟨sg, hsg⟩ : ∃ l, l = syn.opAt m.toNat := ⟨_, rfl⟩
  have hlv2 : 0 ≤ lv ∧ lv ≤ 2 := by rw [hlv]; have := opIs_le m.toNat; unfold levelR; omega
  have hG := rSignOf m
  have e1 : sgnS m = sg := by rw [hsg]; exact if_pos ⟨h1, h9⟩
  have e2 : sgnL m = lv := by rw [hlv]; exact if_pos ⟨h1, h9⟩
  rw [e1, e2] at hG
  have hwz : IntKind.i64.wrap (lv + 1) = lv + 1 := by rw [IntKind.wrap_i64]; omega
  have zg : sg.size ≤ 2 := by rw [hsg, size_data]; exact op_len _
  rw [← hlv] at dz
  have hmx : max lv 1 = 1 := by have : lv = 0 := (by simpa using dz); omega
  obtain ⟨T0, hT0⟩ : ∃ T, T = sx (atR t0 (showT t0) 1) := ⟨_, rfl⟩
  obtain ⟨T1, hT1⟩ : ∃ T, T = sx (atR t1 (showT t1) (lv + 1)) := ⟨_, rfl⟩
  have z0 : T0.size ≤ 50004 := by rw [hT0, sx_size]; have := at_len t0 (showT t0) 1; omega
  have z1 : T1.size ≤ 50004 := by rw [hT1, sx_size]; have := at_len t1 (showT t1) (lv + 1); omega
  replace hT0 := (show Hid _ from hT0)
  replace hT1 := (show Hid _ from hT1)
  have HR : Hid (sx (barR 19 x m [t0, t1] [showT t0, showT t1]) = ((((T0 ++ (⟨#[32]⟩ : ByteArray)) ++ sg) ++ (⟨#[32]⟩ : ByteArray)) ++ T1)) := by
    show sx (atR t0 (showT t0) (max (levelR m) 1) ++ [32] ++ (syn.opAt m.toNat).data.toList ++ [32] ++ atR t1 (showT t1) (levelR m + 1)) = _
    rw [← hlv, hmx, ← hsg, ← sx_app, ← sx_app, ← sx_app, ← sx_app, sx_data, hT0.out, hT1.out]
    rfl
  generalize sx (barR 19 x m [t0, t1] [showT t0, showT t1]) = R at *
  clear hsg e1 e2 hlv hmx
  unfold Lies at hl
  obtain ⟨a', c', e', ⟨hlen, hlc⟩, hat⟩ := hl
  simp only [Value.agg.injEq, Array.mk.injEq, List.cons.injEq, Value.slice.injEq, and_true, true_and] at e'
  obtain ⟨rfl, -, rfl⟩ := e'
  obtain ⟨g, o, rfl, hg, hat⟩ := hat (by simp)
  obtain ⟨v0, ⟨xa0, xb0, xc0, xd0, rfl, q00, q01, q02, q03⟩, l0⟩ := hat.get 0 (by simp)
  obtain ⟨xx0, mm0, aa0, nn0, cc0, rfl, rfl, rfl, rfl⟩ := lies_kind2 l0
  obtain ⟨v1, ⟨xa1, xb1, xc1, xd1, rfl, q10, q11, q12, q13⟩, l1⟩ := hat.get 1 (by simp)
  obtain ⟨xx1, mm1, aa1, nn1, cc1, rfl, rfl, rfl, rfl⟩ := lies_kind2 l1
  simp only [List.getElem_cons_zero, List.getElem_cons_succ, Nat.zero_mul, Nat.one_mul, Nat.reduceMul, Nat.add_zero, Nat.add_assoc, Nat.reduceAdd] at l0 q00 q01 q02 q03 l1 q10 q11 q12 q13
  have l0' := l0
  obtain ⟨kd0, hkd0⟩ : ∃ q, q = kindT t0 := ⟨_, rfl⟩
  rw [← hkd0] at q00 l0 l0'
  replace hkd0 := (show Hid _ from hkd0)
  have l1' := l1
  obtain ⟨kd1, hkd1⟩ : ∃ q, q = kindT t1 := ⟨_, rfl⟩
  rw [← hkd1] at q10 l1 l1'
  replace hkd1 := (show Hid _ from hkd1)
  go_enter Tryz.func15, Tryz.ntmps15
  go_wp2_with (go_at_call 34; refine (hG _).mono ?_; clear hG; rintro e w3 ⟨rfl, hb3⟩; have q02 := (one_box (hb3.mono (by simp) : Below (w.heap.size + 1) (w.alloc (.cells #[.int .i64 19, .string x, .int .i64 m, .slice (some ⟨g, o, none⟩) 2 c] 24)) w3)).1)
  clear q02
  have hbw : Below w.heap.size w w3.drew := (((Below.refl w.heap.size w).alloc (Nat.le_refl _) (.cells #[.int .i64 19, .string x, .int .i64 m, .slice (some ⟨g, o, none⟩) 2 c] 24)).trans (hb3.mono (by simp))).drew
  have r00 := (hbw.cell (p := ⟨g, o, none⟩) hg).trans q00
  have r01 := (hbw.cell (p := ⟨g, o + 1, none⟩) hg).trans q01
  have r02 := (hbw.cell (p := ⟨g, o + 2, none⟩) hg).trans q02
  have r03 := (hbw.cell (p := ⟨g, o + 3, none⟩) hg).trans q03
  have r10 := (hbw.cell (p := ⟨g, o + 4, none⟩) hg).trans q10
  have r11 := (hbw.cell (p := ⟨g, o + 5, none⟩) hg).trans q11
  have r12 := (hbw.cell (p := ⟨g, o + 6, none⟩) hg).trans q12
  have r13 := (hbw.cell (p := ⟨g, o + 7, none⟩) hg).trans q13
  obtain ⟨m0, m1, m2, m3, hW1, -⟩ := one_box ((hb3.mono (by simp) : Below (w.heap.size + 1) (w.alloc (.cells #[.int .i64 19, .string x, .int .i64 m, .slice (some ⟨g, o, none⟩) 2 c] 24)) w3).drew)
  have A0 : ∀ W1, Below (w3.drew).heap.size (w3.drew) W1 → Calls Tryz.prog 41 #[.agg #[.int .i64 kd0, .string xx0, .int .i64 mm0, .slice aa0 nn0 cc0], .int .i64 (1)] W1 fun e w' => e = .returned (.string T0) ∧ Below W1.heap.size W1 w' := fun W1 hb => by
    rw [hT0.out]
    exact rAtP t0 hk0 (by omega) hn0 (1) _ _ (Lies.below (Lies.below l0' hbw) hb)
  replace A0 := (show Hid _ from A0)
  have A1 : ∀ W1, Below (w3.drew).heap.size (w3.drew) W1 → Calls Tryz.prog 41 #[.agg #[.int .i64 kd1, .string xx1, .int .i64 mm1, .slice aa1 nn1 cc1], .int .i64 (lv + 1)] W1 fun e w' => e = .returned (.string T1) ∧ Below W1.heap.size W1 w' := fun W1 hb => by
    rw [hT1.out]
    exact rAtP t1 hk1 (by omega) hn1 (lv + 1) _ _ (Lies.below (Lies.below l1' hbw) hb)
  replace A1 := (show Hid _ from A1)
  clear q00 q01 q02 q03 l0 q10 q11 q12 q13 l1 hat l0' l1' hb3
  refine wp_region_held_drew (S := fun W => Below w3.drew.heap.size w3.drew W) (by kernel_rfl) (Below.refl _ _) (fun hS => ?_)
  generalize w3.drew = W at *
  refine tkd (i := 0) (v := .pointer (some ⟨w.heap.size, 3, none⟩)) rfl rfl (by kernel_rfl) (by kernel_rfl) (by kernel_rfl) (fun _ _ _ h => h) (Or.inl ⟨by rfl, fun wq hSw => by skip; go_simp⟩) hS ?_
  simp only [List.setIfInBounds_toArray, List.set_cons_zero, List.set_cons_succ]
  refine tkd (i := 1) (v := .slice (some ⟨g, o, none⟩) 2 c) rfl rfl (by kernel_rfl) (by kernel_rfl) (by kernel_rfl) (fun _ _ _ h => h) (Or.inl ⟨by rfl, fun wq hSw => by have q := pkeep m3 hSw; go_simp⟩) hS ?_
  simp only [List.setIfInBounds_toArray, List.set_cons_zero, List.set_cons_succ]
  refine tkd (i := 2) (v := .pointer (some ⟨g, o, none⟩)) rfl rfl (by kernel_rfl) (by kernel_rfl) (by kernel_rfl) (fun _ _ _ h => h) (Or.inl ⟨by rfl, fun wq hSw => by skip; go_simp⟩) hS ?_
  simp only [List.setIfInBounds_toArray, List.set_cons_zero, List.set_cons_succ]
  refine tkd (i := 3) (v := .agg #[.int .i64 kd0, .string xx0, .int .i64 mm0, .slice aa0 nn0 cc0] ) rfl rfl (by kernel_rfl) (by kernel_rfl) (by kernel_rfl) (fun _ _ _ h => h) (Or.inl ⟨by rfl, fun wq hSw => by have e0 := pkeep r00 hSw; have e1 := pkeep r01 hSw; have e2 := pkeep r02 hSw; have e3 := pkeep r03 hSw; go_simp⟩) hS ?_
  simp only [List.setIfInBounds_toArray, List.set_cons_zero, List.set_cons_succ]
  refine tkd (i := 4) (v := .int .i64 1) rfl rfl (by kernel_rfl) (by kernel_rfl) (by kernel_rfl) (fun _ _ _ h => h) (Or.inl ⟨by rfl, fun wq hSw => by skip; go_simp⟩) hS ?_
  simp only [List.setIfInBounds_toArray, List.set_cons_zero, List.set_cons_succ]
  refine tkd (i := 7) (v := .string sg) rfl rfl (by kernel_rfl) (by kernel_rfl) (by kernel_rfl) (fun _ _ _ h => h) (Or.inl ⟨by rfl, fun wq hSw => by skip; go_simp⟩) hS ?_
  simp only [List.setIfInBounds_toArray, List.set_cons_zero, List.set_cons_succ]
  refine tkd (i := 10) (v := .pointer (some ⟨w.heap.size, 3, none⟩)) rfl rfl (by kernel_rfl) (by kernel_rfl) (by kernel_rfl) (fun _ _ _ h => h) (Or.inl ⟨by rfl, fun wq hSw => by skip; go_simp⟩) hS ?_
  simp only [List.setIfInBounds_toArray, List.set_cons_zero, List.set_cons_succ]
  refine tkd (i := 11) (v := .slice (some ⟨g, o, none⟩) 2 c) rfl rfl (by kernel_rfl) (by kernel_rfl) (by kernel_rfl) (fun _ _ _ h => h) (Or.inl ⟨by rfl, fun wq hSw => by have q := pkeep m3 hSw; go_simp⟩) hS ?_
  simp only [List.setIfInBounds_toArray, List.set_cons_zero, List.set_cons_succ]
  refine tkd (i := 12) (v := .pointer (some ⟨g, o + 4, none⟩)) rfl rfl (by kernel_rfl) (by kernel_rfl) (by kernel_rfl) (fun _ _ _ h => h) (Or.inl ⟨by rfl, fun wq hSw => by skip; go_simp⟩) hS ?_
  simp only [List.setIfInBounds_toArray, List.set_cons_zero, List.set_cons_succ]
  refine tkd (i := 13) (v := .agg #[.int .i64 kd1, .string xx1, .int .i64 mm1, .slice aa1 nn1 cc1] ) rfl rfl (by kernel_rfl) (by kernel_rfl) (by kernel_rfl) (fun _ _ _ h => h) (Or.inl ⟨by rfl, fun wq hSw => by have e0 := pkeep r10 hSw; have e1 := pkeep r11 hSw; have e2 := pkeep r12 hSw; have e3 := pkeep r13 hSw; go_simp⟩) hS ?_
  simp only [List.setIfInBounds_toArray, List.set_cons_zero, List.set_cons_succ]
  refine tkd (i := 14) (v := .int .i64 lv) rfl rfl (by kernel_rfl) (by kernel_rfl) (by kernel_rfl) (fun _ _ _ h => h) (Or.inl ⟨by rfl, fun wq hSw => by skip; go_simp⟩) hS ?_
  simp only [List.setIfInBounds_toArray, List.set_cons_zero, List.set_cons_succ]
  refine tkd (i := 15) (v := .int .i64 (lv + 1)) rfl rfl (by kernel_rfl) (by kernel_rfl) (by kernel_rfl) (fun _ _ _ h => h) (Or.inl ⟨by rfl, fun wq hSw => by skip; go_simp⟩) hS ?_
  simp only [List.setIfInBounds_toArray, List.set_cons_zero, List.set_cons_succ]
  refine wpAnyH_lay [5, 6, 8, 9, 16, 17, 18] [(310, 5), (311, 6), (313, 8), (314, 9), (321, 16), (322, 17), (2, 18)] (fun i v W2 => match i with | 5 => v = .string T0 | 6 => v = .string (T0 ++ (⟨#[32]⟩ : ByteArray)) | 8 => v = .string ((T0 ++ (⟨#[32]⟩ : ByteArray)) ++ sg) | 9 => v = .string (((T0 ++ (⟨#[32]⟩ : ByteArray)) ++ sg) ++ (⟨#[32]⟩ : ByteArray)) | 16 => v = .string T1 | 17 => v = .string ((((T0 ++ (⟨#[32]⟩ : ByteArray)) ++ sg) ++ (⟨#[32]⟩ : ByteArray)) ++ T1) | _ => v = .string ((((T0 ++ (⟨#[32]⟩ : ByteArray)) ++ sg) ++ (⟨#[32]⟩ : ByteArray)) ++ T1)) (by kernel_rfl) (by rfl) (by kernel_rfl) (by decide) (by kernel_rfl) hS ?_ ?_ ?_
  · intro j v W1 W2 hb h
    split at h
    all_goals first | exact h | exact h.below hb
  · skip
    refine Steps.consK [] rfl trivial (fun U W1 hS1 hR K hK => ?_) ?_
    · skip
      have hcc := A0.out W1 hS1
      simp only [layS, putK, List.foldr, List.foldl, List.setIfInBounds_toArray, List.set_cons_zero, List.set_cons_succ, reduceIte, Nat.reduceEqDiff]
      go_simp
      go_at_call 41
      refine hcc.mono ?_
      rintro e W2 ⟨rfl, hb⟩
      go_wp2
      have hk := hK.out (.string T0) W2 (hS1.trans (hb.mono hS1.size)) hb rfl
      simp only [layS, putK, List.foldr, List.foldl, List.setIfInBounds_toArray, List.set_cons_zero, List.set_cons_succ, reduceIte, Nat.reduceEqDiff] at hk
      exact hk
    refine Steps.consK [(5, .string T0)] rfl ⟨⟨by kernel_rfl, fun _ _ h => h⟩, trivial⟩ (fun U W1 hS1 hR K hK => ?_) ?_
    · skip
      simp only [layS, putK, List.foldr, List.foldl, List.setIfInBounds_toArray, List.set_cons_zero, List.set_cons_succ, reduceIte, Nat.reduceEqDiff]
      go_simp
      rw [if_neg (by first | omega | (simp only [ByteArray.size_append]; omega))]
      go_simp
      have hk := hK.out (.string (T0 ++ (⟨#[32]⟩ : ByteArray))) W1 hS1 (Below.refl _ _) rfl
      simp only [layS, putK, List.foldr, List.foldl, List.setIfInBounds_toArray, List.set_cons_zero, List.set_cons_succ, reduceIte, Nat.reduceEqDiff] at hk
      exact hk
    refine Steps.consK [(6, .string (T0 ++ (⟨#[32]⟩ : ByteArray)))] rfl ⟨⟨by kernel_rfl, fun _ _ h => h⟩, trivial⟩ (fun U W1 hS1 hR K hK => ?_) ?_
    · skip
      simp only [layS, putK, List.foldr, List.foldl, List.setIfInBounds_toArray, List.set_cons_zero, List.set_cons_succ, reduceIte, Nat.reduceEqDiff]
      go_simp
      rw [if_neg (by first | omega | (simp only [ByteArray.size_append]; omega))]
      go_simp
      have hk := hK.out (.string ((T0 ++ (⟨#[32]⟩ : ByteArray)) ++ sg)) W1 hS1 (Below.refl _ _) rfl
      simp only [layS, putK, List.foldr, List.foldl, List.setIfInBounds_toArray, List.set_cons_zero, List.set_cons_succ, reduceIte, Nat.reduceEqDiff] at hk
      exact hk
    refine Steps.consK [(8, .string ((T0 ++ (⟨#[32]⟩ : ByteArray)) ++ sg))] rfl ⟨⟨by kernel_rfl, fun _ _ h => h⟩, trivial⟩ (fun U W1 hS1 hR K hK => ?_) ?_
    · skip
      simp only [layS, putK, List.foldr, List.foldl, List.setIfInBounds_toArray, List.set_cons_zero, List.set_cons_succ, reduceIte, Nat.reduceEqDiff]
      go_simp
      rw [if_neg (by first | omega | (simp only [ByteArray.size_append]; omega))]
      go_simp
      have hk := hK.out (.string (((T0 ++ (⟨#[32]⟩ : ByteArray)) ++ sg) ++ (⟨#[32]⟩ : ByteArray))) W1 hS1 (Below.refl _ _) rfl
      simp only [layS, putK, List.foldr, List.foldl, List.setIfInBounds_toArray, List.set_cons_zero, List.set_cons_succ, reduceIte, Nat.reduceEqDiff] at hk
      exact hk
    refine Steps.consK [] rfl trivial (fun U W1 hS1 hR K hK => ?_) ?_
    · skip
      have hcc := A1.out W1 hS1
      simp only [layS, putK, List.foldr, List.foldl, List.setIfInBounds_toArray, List.set_cons_zero, List.set_cons_succ, reduceIte, Nat.reduceEqDiff]
      go_simp
      go_at_call 41
      refine hcc.mono ?_
      rintro e W2 ⟨rfl, hb⟩
      go_wp2
      have hk := hK.out (.string T1) W2 (hS1.trans (hb.mono hS1.size)) hb rfl
      simp only [layS, putK, List.foldr, List.foldl, List.setIfInBounds_toArray, List.set_cons_zero, List.set_cons_succ, reduceIte, Nat.reduceEqDiff] at hk
      exact hk
    refine Steps.consK [(9, .string (((T0 ++ (⟨#[32]⟩ : ByteArray)) ++ sg) ++ (⟨#[32]⟩ : ByteArray))), (16, .string T1)] rfl ⟨⟨by kernel_rfl, fun _ _ h => h⟩, ⟨by kernel_rfl, fun _ _ h => h⟩, trivial⟩ (fun U W1 hS1 hR K hK => ?_) ?_
    · skip
      simp only [layS, putK, List.foldr, List.foldl, List.setIfInBounds_toArray, List.set_cons_zero, List.set_cons_succ, reduceIte, Nat.reduceEqDiff]
      go_simp
      rw [if_neg (by first | omega | (simp only [ByteArray.size_append]; omega))]
      go_simp
      have hk := hK.out (.string ((((T0 ++ (⟨#[32]⟩ : ByteArray)) ++ sg) ++ (⟨#[32]⟩ : ByteArray)) ++ T1)) W1 hS1 (Below.refl _ _) rfl
      simp only [layS, putK, List.foldr, List.foldl, List.setIfInBounds_toArray, List.set_cons_zero, List.set_cons_succ, reduceIte, Nat.reduceEqDiff] at hk
      exact hk
    refine Steps.consK [(17, .string ((((T0 ++ (⟨#[32]⟩ : ByteArray)) ++ sg) ++ (⟨#[32]⟩ : ByteArray)) ++ T1))] rfl ⟨⟨by kernel_rfl, fun _ _ h => h⟩, trivial⟩ (fun U W1 hS1 hR K hK => ?_) Steps.nil
    · skip
      simp only [layS, putK, List.foldr, List.foldl, List.setIfInBounds_toArray, List.set_cons_zero, List.set_cons_succ, reduceIte, Nat.reduceEqDiff]
      go_simp
      have hk := hK.out (.string ((((T0 ++ (⟨#[32]⟩ : ByteArray)) ++ sg) ++ (⟨#[32]⟩ : ByteArray)) ++ T1)) W1 hS1 (Below.refl _ _) rfl
      simp only [layS, putK, List.foldr, List.foldl, List.setIfInBounds_toArray, List.set_cons_zero, List.set_cons_succ, reduceIte, Nat.reduceEqDiff] at hk
      exact hk
  · intro U W1 hS1 hR
    have hdd : U 18 = .string ((((T0 ++ (⟨#[32]⟩ : ByteArray)) ++ sg) ++ (⟨#[32]⟩ : ByteArray)) ++ T1) := hR 18 (by simp)
    simp only [layS, putK, List.foldr, List.foldl, List.setIfInBounds_toArray, List.set_cons_zero, List.set_cons_succ, reduceIte, Nat.reduceEqDiff]
    rw [hdd]
    clear hdd hR
    go_wp2
    go_ret
    exact ⟨by rw [HR.out]; rfl, hbw.trans (hS1.mono hbw.size)⟩
set_option maxHeartbeats 8000000 in
theorem rShow19bc {x : ByteArray} {m : Int} {t0 t1 : Tree} {a : Option Addr} {c : Nat} (w : World) (hl : Lies (· < w.heap.size) w (.node 19 x m [t0, t1]) (.agg #[.int .i64 19, .string x, .int .i64 m, .slice a 2 c])) (hk0 : ShowOk t0) (z0' : (showT t0).length ≤ 50000) (hk1 : ShowOk t1) (z1' : (showT t1).length ≤ 50000) (hn0 : kindT t0 = 19 → 1 ≤ numT t0 ∧ numT t0 ≤ 9) (hn1 : kindT t1 = 19 → 1 ≤ numT t1 ∧ numT t1 ≤ 9) (h1 : 1 ≤ m) (h9 : m ≤ 9) (dp : decide (2 ≤ m % 4) = true) (dz : (levelR m == 0) = false) :
    Calls Tryz.prog 15 #[.agg #[.int .i64 19, .string x, .int .i64 m, .slice a 2 c]] w fun e w' => e = .returned (.string (sx (barR 19 x m [t0, t1] [showT t0, showT t1]))) ∧ Below w.heap.size w w' := by
  have c24 : Tryz.prog.cellsOf 24 = 4 := by kernel_rfl
  have h0 : 0 ≤ m := by omega
  obtain ⟨lv, hlv⟩ : ∃ l, l = levelR m := ⟨_, rfl⟩
  obtain ⟨sg, hsg⟩ : ∃ l, l = syn.opAt m.toNat := ⟨_, rfl⟩
  have hlv2 : 0 ≤ lv ∧ lv ≤ 2 := by rw [hlv]; have := opIs_le m.toNat; unfold levelR; omega
  have hG := rSignOf m
  have e1 : sgnS m = sg := by rw [hsg]; exact if_pos ⟨h1, h9⟩
  have e2 : sgnL m = lv := by rw [hlv]; exact if_pos ⟨h1, h9⟩
  rw [e1, e2] at hG
  have hwz : IntKind.i64.wrap (lv + 1) = lv + 1 := by rw [IntKind.wrap_i64]; omega
  have zg : sg.size ≤ 2 := by rw [hsg, size_data]; exact op_len _
  rw [← hlv] at dz
  have hmx : max lv 1 = lv := by have : ¬ lv = 0 := (by simpa using dz); omega
  obtain ⟨T0, hT0⟩ : ∃ T, T = sx (atR t0 (showT t0) lv) := ⟨_, rfl⟩
  obtain ⟨T1, hT1⟩ : ∃ T, T = sx (atR t1 (showT t1) (lv + 1)) := ⟨_, rfl⟩
  have z0 : T0.size ≤ 50004 := by rw [hT0, sx_size]; have := at_len t0 (showT t0) lv; omega
  have z1 : T1.size ≤ 50004 := by rw [hT1, sx_size]; have := at_len t1 (showT t1) (lv + 1); omega
  replace hT0 := (show Hid _ from hT0)
  replace hT1 := (show Hid _ from hT1)
  have HR : Hid (sx (barR 19 x m [t0, t1] [showT t0, showT t1]) = ((((T0 ++ (⟨#[32]⟩ : ByteArray)) ++ sg) ++ (⟨#[32]⟩ : ByteArray)) ++ T1)) := by
    show sx (atR t0 (showT t0) (max (levelR m) 1) ++ [32] ++ (syn.opAt m.toNat).data.toList ++ [32] ++ atR t1 (showT t1) (levelR m + 1)) = _
    rw [← hlv, hmx, ← hsg, ← sx_app, ← sx_app, ← sx_app, ← sx_app, sx_data, hT0.out, hT1.out]
    rfl
  generalize sx (barR 19 x m [t0, t1] [showT t0, showT t1]) = R at *
  clear hsg e1 e2 hlv hmx
  unfold Lies at hl
  obtain ⟨a', c', e', ⟨hlen, hlc⟩, hat⟩ := hl
  simp only [Value.agg.injEq, Array.mk.injEq, List.cons.injEq, Value.slice.injEq, and_true, true_and] at e'
  obtain ⟨rfl, -, rfl⟩ := e'
  obtain ⟨g, o, rfl, hg, hat⟩ := hat (by simp)
  obtain ⟨v0, ⟨xa0, xb0, xc0, xd0, rfl, q00, q01, q02, q03⟩, l0⟩ := hat.get 0 (by simp)
  obtain ⟨xx0, mm0, aa0, nn0, cc0, rfl, rfl, rfl, rfl⟩ := lies_kind2 l0
  obtain ⟨v1, ⟨xa1, xb1, xc1, xd1, rfl, q10, q11, q12, q13⟩, l1⟩ := hat.get 1 (by simp)
  obtain ⟨xx1, mm1, aa1, nn1, cc1, rfl, rfl, rfl, rfl⟩ := lies_kind2 l1
  simp only [List.getElem_cons_zero, List.getElem_cons_succ, Nat.zero_mul, Nat.one_mul, Nat.reduceMul, Nat.add_zero, Nat.add_assoc, Nat.reduceAdd] at l0 q00 q01 q02 q03 l1 q10 q11 q12 q13
  have l0' := l0
  obtain ⟨kd0, hkd0⟩ : ∃ q, q = kindT t0 := ⟨_, rfl⟩
  rw [← hkd0] at q00 l0 l0'
  replace hkd0 := (show Hid _ from hkd0)
  have l1' := l1
  obtain ⟨kd1, hkd1⟩ : ∃ q, q = kindT t1 := ⟨_, rfl⟩
  rw [← hkd1] at q10 l1 l1'
  replace hkd1 := (show Hid _ from hkd1)
  go_enter Tryz.func15, Tryz.ntmps15
  go_wp2_with (go_at_call 34; refine (hG _).mono ?_; clear hG; rintro e w3 ⟨rfl, hb3⟩; have q02 := (one_box (hb3.mono (by simp) : Below (w.heap.size + 1) (w.alloc (.cells #[.int .i64 19, .string x, .int .i64 m, .slice (some ⟨g, o, none⟩) 2 c] 24)) w3)).1)
  clear q02
  have hbw : Below w.heap.size w w3.drew := (((Below.refl w.heap.size w).alloc (Nat.le_refl _) (.cells #[.int .i64 19, .string x, .int .i64 m, .slice (some ⟨g, o, none⟩) 2 c] 24)).trans (hb3.mono (by simp))).drew
  have r00 := (hbw.cell (p := ⟨g, o, none⟩) hg).trans q00
  have r01 := (hbw.cell (p := ⟨g, o + 1, none⟩) hg).trans q01
  have r02 := (hbw.cell (p := ⟨g, o + 2, none⟩) hg).trans q02
  have r03 := (hbw.cell (p := ⟨g, o + 3, none⟩) hg).trans q03
  have r10 := (hbw.cell (p := ⟨g, o + 4, none⟩) hg).trans q10
  have r11 := (hbw.cell (p := ⟨g, o + 5, none⟩) hg).trans q11
  have r12 := (hbw.cell (p := ⟨g, o + 6, none⟩) hg).trans q12
  have r13 := (hbw.cell (p := ⟨g, o + 7, none⟩) hg).trans q13
  obtain ⟨m0, m1, m2, m3, hW1, -⟩ := one_box ((hb3.mono (by simp) : Below (w.heap.size + 1) (w.alloc (.cells #[.int .i64 19, .string x, .int .i64 m, .slice (some ⟨g, o, none⟩) 2 c] 24)) w3).drew)
  have A0 : ∀ W1, Below (w3.drew).heap.size (w3.drew) W1 → Calls Tryz.prog 41 #[.agg #[.int .i64 kd0, .string xx0, .int .i64 mm0, .slice aa0 nn0 cc0], .int .i64 (lv)] W1 fun e w' => e = .returned (.string T0) ∧ Below W1.heap.size W1 w' := fun W1 hb => by
    rw [hT0.out]
    exact rAtP t0 hk0 (by omega) hn0 (lv) _ _ (Lies.below (Lies.below l0' hbw) hb)
  replace A0 := (show Hid _ from A0)
  have A1 : ∀ W1, Below (w3.drew).heap.size (w3.drew) W1 → Calls Tryz.prog 41 #[.agg #[.int .i64 kd1, .string xx1, .int .i64 mm1, .slice aa1 nn1 cc1], .int .i64 (lv + 1)] W1 fun e w' => e = .returned (.string T1) ∧ Below W1.heap.size W1 w' := fun W1 hb => by
    rw [hT1.out]
    exact rAtP t1 hk1 (by omega) hn1 (lv + 1) _ _ (Lies.below (Lies.below l1' hbw) hb)
  replace A1 := (show Hid _ from A1)
  clear q00 q01 q02 q03 l0 q10 q11 q12 q13 l1 hat l0' l1' hb3
  refine wp_region_held_drew (S := fun W => Below w3.drew.heap.size w3.drew W) (by kernel_rfl) (Below.refl _ _) (fun hS => ?_)
  generalize w3.drew = W at *
  refine tkd (i := 0) (v := .pointer (some ⟨w.heap.size, 3, none⟩)) rfl rfl (by kernel_rfl) (by kernel_rfl) (by kernel_rfl) (fun _ _ _ h => h) (Or.inl ⟨by rfl, fun wq hSw => by skip; go_simp⟩) hS ?_
  simp only [List.setIfInBounds_toArray, List.set_cons_zero, List.set_cons_succ]
  refine tkd (i := 1) (v := .slice (some ⟨g, o, none⟩) 2 c) rfl rfl (by kernel_rfl) (by kernel_rfl) (by kernel_rfl) (fun _ _ _ h => h) (Or.inl ⟨by rfl, fun wq hSw => by have q := pkeep m3 hSw; go_simp⟩) hS ?_
  simp only [List.setIfInBounds_toArray, List.set_cons_zero, List.set_cons_succ]
  refine tkd (i := 2) (v := .pointer (some ⟨g, o, none⟩)) rfl rfl (by kernel_rfl) (by kernel_rfl) (by kernel_rfl) (fun _ _ _ h => h) (Or.inl ⟨by rfl, fun wq hSw => by skip; go_simp⟩) hS ?_
  simp only [List.setIfInBounds_toArray, List.set_cons_zero, List.set_cons_succ]
  refine tkd (i := 3) (v := .agg #[.int .i64 kd0, .string xx0, .int .i64 mm0, .slice aa0 nn0 cc0] ) rfl rfl (by kernel_rfl) (by kernel_rfl) (by kernel_rfl) (fun _ _ _ h => h) (Or.inl ⟨by rfl, fun wq hSw => by have e0 := pkeep r00 hSw; have e1 := pkeep r01 hSw; have e2 := pkeep r02 hSw; have e3 := pkeep r03 hSw; go_simp⟩) hS ?_
  simp only [List.setIfInBounds_toArray, List.set_cons_zero, List.set_cons_succ]
  refine tkd (i := 4) (v := .int .i64 lv) rfl rfl (by kernel_rfl) (by kernel_rfl) (by kernel_rfl) (fun _ _ _ h => h) (Or.inl ⟨by rfl, fun wq hSw => by skip; go_simp⟩) hS ?_
  simp only [List.setIfInBounds_toArray, List.set_cons_zero, List.set_cons_succ]
  refine tkd (i := 7) (v := .string sg) rfl rfl (by kernel_rfl) (by kernel_rfl) (by kernel_rfl) (fun _ _ _ h => h) (Or.inl ⟨by rfl, fun wq hSw => by skip; go_simp⟩) hS ?_
  simp only [List.setIfInBounds_toArray, List.set_cons_zero, List.set_cons_succ]
  refine tkd (i := 10) (v := .pointer (some ⟨w.heap.size, 3, none⟩)) rfl rfl (by kernel_rfl) (by kernel_rfl) (by kernel_rfl) (fun _ _ _ h => h) (Or.inl ⟨by rfl, fun wq hSw => by skip; go_simp⟩) hS ?_
  simp only [List.setIfInBounds_toArray, List.set_cons_zero, List.set_cons_succ]
  refine tkd (i := 11) (v := .slice (some ⟨g, o, none⟩) 2 c) rfl rfl (by kernel_rfl) (by kernel_rfl) (by kernel_rfl) (fun _ _ _ h => h) (Or.inl ⟨by rfl, fun wq hSw => by have q := pkeep m3 hSw; go_simp⟩) hS ?_
  simp only [List.setIfInBounds_toArray, List.set_cons_zero, List.set_cons_succ]
  refine tkd (i := 12) (v := .pointer (some ⟨g, o + 4, none⟩)) rfl rfl (by kernel_rfl) (by kernel_rfl) (by kernel_rfl) (fun _ _ _ h => h) (Or.inl ⟨by rfl, fun wq hSw => by skip; go_simp⟩) hS ?_
  simp only [List.setIfInBounds_toArray, List.set_cons_zero, List.set_cons_succ]
  refine tkd (i := 13) (v := .agg #[.int .i64 kd1, .string xx1, .int .i64 mm1, .slice aa1 nn1 cc1] ) rfl rfl (by kernel_rfl) (by kernel_rfl) (by kernel_rfl) (fun _ _ _ h => h) (Or.inl ⟨by rfl, fun wq hSw => by have e0 := pkeep r10 hSw; have e1 := pkeep r11 hSw; have e2 := pkeep r12 hSw; have e3 := pkeep r13 hSw; go_simp⟩) hS ?_
  simp only [List.setIfInBounds_toArray, List.set_cons_zero, List.set_cons_succ]
  refine tkd (i := 14) (v := .int .i64 lv) rfl rfl (by kernel_rfl) (by kernel_rfl) (by kernel_rfl) (fun _ _ _ h => h) (Or.inl ⟨by rfl, fun wq hSw => by skip; go_simp⟩) hS ?_
  simp only [List.setIfInBounds_toArray, List.set_cons_zero, List.set_cons_succ]
  refine tkd (i := 15) (v := .int .i64 (lv + 1)) rfl rfl (by kernel_rfl) (by kernel_rfl) (by kernel_rfl) (fun _ _ _ h => h) (Or.inl ⟨by rfl, fun wq hSw => by skip; go_simp⟩) hS ?_
  simp only [List.setIfInBounds_toArray, List.set_cons_zero, List.set_cons_succ]
  refine wpAnyH_lay [5, 6, 8, 9, 16, 17, 18] [(310, 5), (311, 6), (313, 8), (314, 9), (321, 16), (322, 17), (2, 18)] (fun i v W2 => match i with | 5 => v = .string T0 | 6 => v = .string (T0 ++ (⟨#[32]⟩ : ByteArray)) | 8 => v = .string ((T0 ++ (⟨#[32]⟩ : ByteArray)) ++ sg) | 9 => v = .string (((T0 ++ (⟨#[32]⟩ : ByteArray)) ++ sg) ++ (⟨#[32]⟩ : ByteArray)) | 16 => v = .string T1 | 17 => v = .string ((((T0 ++ (⟨#[32]⟩ : ByteArray)) ++ sg) ++ (⟨#[32]⟩ : ByteArray)) ++ T1) | _ => v = .string ((((T0 ++ (⟨#[32]⟩ : ByteArray)) ++ sg) ++ (⟨#[32]⟩ : ByteArray)) ++ T1)) (by kernel_rfl) (by rfl) (by kernel_rfl) (by decide) (by kernel_rfl) hS ?_ ?_ ?_
  · intro j v W1 W2 hb h
    split at h
    all_goals first | exact h | exact h.below hb
  · skip
    refine Steps.consK [] rfl trivial (fun U W1 hS1 hR K hK => ?_) ?_
    · skip
      have hcc := A0.out W1 hS1
      simp only [layS, putK, List.foldr, List.foldl, List.setIfInBounds_toArray, List.set_cons_zero, List.set_cons_succ, reduceIte, Nat.reduceEqDiff]
      go_simp
      go_at_call 41
      refine hcc.mono ?_
      rintro e W2 ⟨rfl, hb⟩
      go_wp2
      have hk := hK.out (.string T0) W2 (hS1.trans (hb.mono hS1.size)) hb rfl
      simp only [layS, putK, List.foldr, List.foldl, List.setIfInBounds_toArray, List.set_cons_zero, List.set_cons_succ, reduceIte, Nat.reduceEqDiff] at hk
      exact hk
    refine Steps.consK [(5, .string T0)] rfl ⟨⟨by kernel_rfl, fun _ _ h => h⟩, trivial⟩ (fun U W1 hS1 hR K hK => ?_) ?_
    · skip
      simp only [layS, putK, List.foldr, List.foldl, List.setIfInBounds_toArray, List.set_cons_zero, List.set_cons_succ, reduceIte, Nat.reduceEqDiff]
      go_simp
      rw [if_neg (by first | omega | (simp only [ByteArray.size_append]; omega))]
      go_simp
      have hk := hK.out (.string (T0 ++ (⟨#[32]⟩ : ByteArray))) W1 hS1 (Below.refl _ _) rfl
      simp only [layS, putK, List.foldr, List.foldl, List.setIfInBounds_toArray, List.set_cons_zero, List.set_cons_succ, reduceIte, Nat.reduceEqDiff] at hk
      exact hk
    refine Steps.consK [(6, .string (T0 ++ (⟨#[32]⟩ : ByteArray)))] rfl ⟨⟨by kernel_rfl, fun _ _ h => h⟩, trivial⟩ (fun U W1 hS1 hR K hK => ?_) ?_
    · skip
      simp only [layS, putK, List.foldr, List.foldl, List.setIfInBounds_toArray, List.set_cons_zero, List.set_cons_succ, reduceIte, Nat.reduceEqDiff]
      go_simp
      rw [if_neg (by first | omega | (simp only [ByteArray.size_append]; omega))]
      go_simp
      have hk := hK.out (.string ((T0 ++ (⟨#[32]⟩ : ByteArray)) ++ sg)) W1 hS1 (Below.refl _ _) rfl
      simp only [layS, putK, List.foldr, List.foldl, List.setIfInBounds_toArray, List.set_cons_zero, List.set_cons_succ, reduceIte, Nat.reduceEqDiff] at hk
      exact hk
    refine Steps.consK [(8, .string ((T0 ++ (⟨#[32]⟩ : ByteArray)) ++ sg))] rfl ⟨⟨by kernel_rfl, fun _ _ h => h⟩, trivial⟩ (fun U W1 hS1 hR K hK => ?_) ?_
    · skip
      simp only [layS, putK, List.foldr, List.foldl, List.setIfInBounds_toArray, List.set_cons_zero, List.set_cons_succ, reduceIte, Nat.reduceEqDiff]
      go_simp
      rw [if_neg (by first | omega | (simp only [ByteArray.size_append]; omega))]
      go_simp
      have hk := hK.out (.string (((T0 ++ (⟨#[32]⟩ : ByteArray)) ++ sg) ++ (⟨#[32]⟩ : ByteArray))) W1 hS1 (Below.refl _ _) rfl
      simp only [layS, putK, List.foldr, List.foldl, List.setIfInBounds_toArray, List.set_cons_zero, List.set_cons_succ, reduceIte, Nat.reduceEqDiff] at hk
      exact hk
    refine Steps.consK [] rfl trivial (fun U W1 hS1 hR K hK => ?_) ?_
    · skip
      have hcc := A1.out W1 hS1
      simp only [layS, putK, List.foldr, List.foldl, List.setIfInBounds_toArray, List.set_cons_zero, List.set_cons_succ, reduceIte, Nat.reduceEqDiff]
      go_simp
      go_at_call 41
      refine hcc.mono ?_
      rintro e W2 ⟨rfl, hb⟩
      go_wp2
      have hk := hK.out (.string T1) W2 (hS1.trans (hb.mono hS1.size)) hb rfl
      simp only [layS, putK, List.foldr, List.foldl, List.setIfInBounds_toArray, List.set_cons_zero, List.set_cons_succ, reduceIte, Nat.reduceEqDiff] at hk
      exact hk
    refine Steps.consK [(9, .string (((T0 ++ (⟨#[32]⟩ : ByteArray)) ++ sg) ++ (⟨#[32]⟩ : ByteArray))), (16, .string T1)] rfl ⟨⟨by kernel_rfl, fun _ _ h => h⟩, ⟨by kernel_rfl, fun _ _ h => h⟩, trivial⟩ (fun U W1 hS1 hR K hK => ?_) ?_
    · skip
      simp only [layS, putK, List.foldr, List.foldl, List.setIfInBounds_toArray, List.set_cons_zero, List.set_cons_succ, reduceIte, Nat.reduceEqDiff]
      go_simp
      rw [if_neg (by first | omega | (simp only [ByteArray.size_append]; omega))]
      go_simp
      have hk := hK.out (.string ((((T0 ++ (⟨#[32]⟩ : ByteArray)) ++ sg) ++ (⟨#[32]⟩ : ByteArray)) ++ T1)) W1 hS1 (Below.refl _ _) rfl
      simp only [layS, putK, List.foldr, List.foldl, List.setIfInBounds_toArray, List.set_cons_zero, List.set_cons_succ, reduceIte, Nat.reduceEqDiff] at hk
      exact hk
    refine Steps.consK [(17, .string ((((T0 ++ (⟨#[32]⟩ : ByteArray)) ++ sg) ++ (⟨#[32]⟩ : ByteArray)) ++ T1))] rfl ⟨⟨by kernel_rfl, fun _ _ h => h⟩, trivial⟩ (fun U W1 hS1 hR K hK => ?_) Steps.nil
    · skip
      simp only [layS, putK, List.foldr, List.foldl, List.setIfInBounds_toArray, List.set_cons_zero, List.set_cons_succ, reduceIte, Nat.reduceEqDiff]
      go_simp
      have hk := hK.out (.string ((((T0 ++ (⟨#[32]⟩ : ByteArray)) ++ sg) ++ (⟨#[32]⟩ : ByteArray)) ++ T1)) W1 hS1 (Below.refl _ _) rfl
      simp only [layS, putK, List.foldr, List.foldl, List.setIfInBounds_toArray, List.set_cons_zero, List.set_cons_succ, reduceIte, Nat.reduceEqDiff] at hk
      exact hk
  · intro U W1 hS1 hR
    have hdd : U 18 = .string ((((T0 ++ (⟨#[32]⟩ : ByteArray)) ++ sg) ++ (⟨#[32]⟩ : ByteArray)) ++ T1) := hR 18 (by simp)
    simp only [layS, putK, List.foldr, List.foldl, List.setIfInBounds_toArray, List.set_cons_zero, List.set_cons_succ, reduceIte, Nat.reduceEqDiff]
    rw [hdd]
    clear hdd hR
    go_wp2
    go_ret
    exact ⟨by rw [HR.out]; rfl, hbw.trans (hS1.mono hbw.size)⟩
set_option maxHeartbeats 8000000 in
theorem rShow19ad {x : ByteArray} {m : Int} {t0 t1 : Tree} {a : Option Addr} {c : Nat} (w : World) (hl : Lies (· < w.heap.size) w (.node 19 x m [t0, t1]) (.agg #[.int .i64 19, .string x, .int .i64 m, .slice a 2 c])) (hk0 : ShowOk t0) (z0' : (showT t0).length ≤ 50000) (hk1 : ShowOk t1) (z1' : (showT t1).length ≤ 50000) (hn0 : kindT t0 = 19 → 1 ≤ numT t0 ∧ numT t0 ≤ 9) (hn1 : kindT t1 = 19 → 1 ≤ numT t1 ∧ numT t1 ≤ 9) (h1 : 1 ≤ m) (h9 : m ≤ 9) (dp : decide (2 ≤ m % 4) = false) (dz : (levelR m == 0) = true) :
    Calls Tryz.prog 15 #[.agg #[.int .i64 19, .string x, .int .i64 m, .slice a 2 c]] w fun e w' => e = .returned (.string (sx (barR 19 x m [t0, t1] [showT t0, showT t1]))) ∧ Below w.heap.size w w' := by
  have c24 : Tryz.prog.cellsOf 24 = 4 := by kernel_rfl
  have h0 : 0 ≤ m := by omega
  obtain ⟨lv, hlv⟩ : ∃ l, l = levelR m := ⟨_, rfl⟩
  obtain ⟨sg, hsg⟩ : ∃ l, l = syn.opAt m.toNat := ⟨_, rfl⟩
  have hlv2 : 0 ≤ lv ∧ lv ≤ 2 := by rw [hlv]; have := opIs_le m.toNat; unfold levelR; omega
  have hG := rSignOf m
  have e1 : sgnS m = sg := by rw [hsg]; exact if_pos ⟨h1, h9⟩
  have e2 : sgnL m = lv := by rw [hlv]; exact if_pos ⟨h1, h9⟩
  rw [e1, e2] at hG
  have hwz : IntKind.i64.wrap (lv + 1) = lv + 1 := by rw [IntKind.wrap_i64]; omega
  have zg : sg.size ≤ 2 := by rw [hsg, size_data]; exact op_len _
  rw [← hlv] at dz
  have hmx : max lv 1 = 1 := by have : lv = 0 := (by simpa using dz); omega
  obtain ⟨T0, hT0⟩ : ∃ T, T = sx (atR t0 (showT t0) 1) := ⟨_, rfl⟩
  obtain ⟨T1, hT1⟩ : ∃ T, T = sx (atR t1 (showT t1) (lv + 1)) := ⟨_, rfl⟩
  have z0 : T0.size ≤ 50004 := by rw [hT0, sx_size]; have := at_len t0 (showT t0) 1; omega
  have z1 : T1.size ≤ 50004 := by rw [hT1, sx_size]; have := at_len t1 (showT t1) (lv + 1); omega
  replace hT0 := (show Hid _ from hT0)
  replace hT1 := (show Hid _ from hT1)
  have HR : Hid (sx (barR 19 x m [t0, t1] [showT t0, showT t1]) = ((((T0 ++ (⟨#[32]⟩ : ByteArray)) ++ sg) ++ (⟨#[32]⟩ : ByteArray)) ++ T1)) := by
    show sx (atR t0 (showT t0) (max (levelR m) 1) ++ [32] ++ (syn.opAt m.toNat).data.toList ++ [32] ++ atR t1 (showT t1) (levelR m + 1)) = _
    rw [← hlv, hmx, ← hsg, ← sx_app, ← sx_app, ← sx_app, ← sx_app, sx_data, hT0.out, hT1.out]
    rfl
  generalize sx (barR 19 x m [t0, t1] [showT t0, showT t1]) = R at *
  clear hsg e1 e2 hlv hmx
  unfold Lies at hl
  obtain ⟨a', c', e', ⟨hlen, hlc⟩, hat⟩ := hl
  simp only [Value.agg.injEq, Array.mk.injEq, List.cons.injEq, Value.slice.injEq, and_true, true_and] at e'
  obtain ⟨rfl, -, rfl⟩ := e'
  obtain ⟨g, o, rfl, hg, hat⟩ := hat (by simp)
  obtain ⟨v0, ⟨xa0, xb0, xc0, xd0, rfl, q00, q01, q02, q03⟩, l0⟩ := hat.get 0 (by simp)
  obtain ⟨xx0, mm0, aa0, nn0, cc0, rfl, rfl, rfl, rfl⟩ := lies_kind2 l0
  obtain ⟨v1, ⟨xa1, xb1, xc1, xd1, rfl, q10, q11, q12, q13⟩, l1⟩ := hat.get 1 (by simp)
  obtain ⟨xx1, mm1, aa1, nn1, cc1, rfl, rfl, rfl, rfl⟩ := lies_kind2 l1
  simp only [List.getElem_cons_zero, List.getElem_cons_succ, Nat.zero_mul, Nat.one_mul, Nat.reduceMul, Nat.add_zero, Nat.add_assoc, Nat.reduceAdd] at l0 q00 q01 q02 q03 l1 q10 q11 q12 q13
  have l0' := l0
  obtain ⟨kd0, hkd0⟩ : ∃ q, q = kindT t0 := ⟨_, rfl⟩
  rw [← hkd0] at q00 l0 l0'
  replace hkd0 := (show Hid _ from hkd0)
  have l1' := l1
  obtain ⟨kd1, hkd1⟩ : ∃ q, q = kindT t1 := ⟨_, rfl⟩
  rw [← hkd1] at q10 l1 l1'
  replace hkd1 := (show Hid _ from hkd1)
  go_enter Tryz.func15, Tryz.ntmps15
  go_wp2_with (go_at_call 34; refine (hG _).mono ?_; clear hG; rintro e w3 ⟨rfl, hb3⟩; have q02 := (one_box (hb3.mono (by simp) : Below (w.heap.size + 1) (w.alloc (.cells #[.int .i64 19, .string x, .int .i64 m, .slice (some ⟨g, o, none⟩) 2 c] 24)) w3)).1)
  clear q02
  have hbw : Below w.heap.size w w3.drew := (((Below.refl w.heap.size w).alloc (Nat.le_refl _) (.cells #[.int .i64 19, .string x, .int .i64 m, .slice (some ⟨g, o, none⟩) 2 c] 24)).trans (hb3.mono (by simp))).drew
  have r00 := (hbw.cell (p := ⟨g, o, none⟩) hg).trans q00
  have r01 := (hbw.cell (p := ⟨g, o + 1, none⟩) hg).trans q01
  have r02 := (hbw.cell (p := ⟨g, o + 2, none⟩) hg).trans q02
  have r03 := (hbw.cell (p := ⟨g, o + 3, none⟩) hg).trans q03
  have r10 := (hbw.cell (p := ⟨g, o + 4, none⟩) hg).trans q10
  have r11 := (hbw.cell (p := ⟨g, o + 5, none⟩) hg).trans q11
  have r12 := (hbw.cell (p := ⟨g, o + 6, none⟩) hg).trans q12
  have r13 := (hbw.cell (p := ⟨g, o + 7, none⟩) hg).trans q13
  obtain ⟨m0, m1, m2, m3, hW1, -⟩ := one_box ((hb3.mono (by simp) : Below (w.heap.size + 1) (w.alloc (.cells #[.int .i64 19, .string x, .int .i64 m, .slice (some ⟨g, o, none⟩) 2 c] 24)) w3).drew)
  have A0 : ∀ W1, Below (w3.drew).heap.size (w3.drew) W1 → Calls Tryz.prog 41 #[.agg #[.int .i64 kd0, .string xx0, .int .i64 mm0, .slice aa0 nn0 cc0], .int .i64 (1)] W1 fun e w' => e = .returned (.string T0) ∧ Below W1.heap.size W1 w' := fun W1 hb => by
    rw [hT0.out]
    exact rAtP t0 hk0 (by omega) hn0 (1) _ _ (Lies.below (Lies.below l0' hbw) hb)
  replace A0 := (show Hid _ from A0)
  have A1 : ∀ W1, Below (w3.drew).heap.size (w3.drew) W1 → Calls Tryz.prog 41 #[.agg #[.int .i64 kd1, .string xx1, .int .i64 mm1, .slice aa1 nn1 cc1], .int .i64 (lv + 1)] W1 fun e w' => e = .returned (.string T1) ∧ Below W1.heap.size W1 w' := fun W1 hb => by
    rw [hT1.out]
    exact rAtP t1 hk1 (by omega) hn1 (lv + 1) _ _ (Lies.below (Lies.below l1' hbw) hb)
  replace A1 := (show Hid _ from A1)
  clear q00 q01 q02 q03 l0 q10 q11 q12 q13 l1 hat l0' l1' hb3
  refine wp_region_held_drew (S := fun W => Below w3.drew.heap.size w3.drew W) (by kernel_rfl) (Below.refl _ _) (fun hS => ?_)
  generalize w3.drew = W at *
  refine tkd (i := 0) (v := .pointer (some ⟨w.heap.size, 3, none⟩)) rfl rfl (by kernel_rfl) (by kernel_rfl) (by kernel_rfl) (fun _ _ _ h => h) (Or.inl ⟨by rfl, fun wq hSw => by skip; go_simp⟩) hS ?_
  simp only [List.setIfInBounds_toArray, List.set_cons_zero, List.set_cons_succ]
  refine tkd (i := 1) (v := .slice (some ⟨g, o, none⟩) 2 c) rfl rfl (by kernel_rfl) (by kernel_rfl) (by kernel_rfl) (fun _ _ _ h => h) (Or.inl ⟨by rfl, fun wq hSw => by have q := pkeep m3 hSw; go_simp⟩) hS ?_
  simp only [List.setIfInBounds_toArray, List.set_cons_zero, List.set_cons_succ]
  refine tkd (i := 2) (v := .pointer (some ⟨g, o, none⟩)) rfl rfl (by kernel_rfl) (by kernel_rfl) (by kernel_rfl) (fun _ _ _ h => h) (Or.inl ⟨by rfl, fun wq hSw => by skip; go_simp⟩) hS ?_
  simp only [List.setIfInBounds_toArray, List.set_cons_zero, List.set_cons_succ]
  refine tkd (i := 3) (v := .agg #[.int .i64 kd0, .string xx0, .int .i64 mm0, .slice aa0 nn0 cc0] ) rfl rfl (by kernel_rfl) (by kernel_rfl) (by kernel_rfl) (fun _ _ _ h => h) (Or.inl ⟨by rfl, fun wq hSw => by have e0 := pkeep r00 hSw; have e1 := pkeep r01 hSw; have e2 := pkeep r02 hSw; have e3 := pkeep r03 hSw; go_simp⟩) hS ?_
  simp only [List.setIfInBounds_toArray, List.set_cons_zero, List.set_cons_succ]
  refine tkd (i := 4) (v := .int .i64 1) rfl rfl (by kernel_rfl) (by kernel_rfl) (by kernel_rfl) (fun _ _ _ h => h) (Or.inl ⟨by rfl, fun wq hSw => by skip; go_simp⟩) hS ?_
  simp only [List.setIfInBounds_toArray, List.set_cons_zero, List.set_cons_succ]
  refine tkd (i := 7) (v := .string sg) rfl rfl (by kernel_rfl) (by kernel_rfl) (by kernel_rfl) (fun _ _ _ h => h) (Or.inl ⟨by rfl, fun wq hSw => by skip; go_simp⟩) hS ?_
  simp only [List.setIfInBounds_toArray, List.set_cons_zero, List.set_cons_succ]
  refine tkd (i := 10) (v := .pointer (some ⟨w.heap.size, 3, none⟩)) rfl rfl (by kernel_rfl) (by kernel_rfl) (by kernel_rfl) (fun _ _ _ h => h) (Or.inl ⟨by rfl, fun wq hSw => by skip; go_simp⟩) hS ?_
  simp only [List.setIfInBounds_toArray, List.set_cons_zero, List.set_cons_succ]
  refine tkd (i := 11) (v := .slice (some ⟨g, o, none⟩) 2 c) rfl rfl (by kernel_rfl) (by kernel_rfl) (by kernel_rfl) (fun _ _ _ h => h) (Or.inl ⟨by rfl, fun wq hSw => by have q := pkeep m3 hSw; go_simp⟩) hS ?_
  simp only [List.setIfInBounds_toArray, List.set_cons_zero, List.set_cons_succ]
  refine tkd (i := 12) (v := .pointer (some ⟨g, o + 4, none⟩)) rfl rfl (by kernel_rfl) (by kernel_rfl) (by kernel_rfl) (fun _ _ _ h => h) (Or.inl ⟨by rfl, fun wq hSw => by skip; go_simp⟩) hS ?_
  simp only [List.setIfInBounds_toArray, List.set_cons_zero, List.set_cons_succ]
  refine tkd (i := 13) (v := .agg #[.int .i64 kd1, .string xx1, .int .i64 mm1, .slice aa1 nn1 cc1] ) rfl rfl (by kernel_rfl) (by kernel_rfl) (by kernel_rfl) (fun _ _ _ h => h) (Or.inl ⟨by rfl, fun wq hSw => by have e0 := pkeep r10 hSw; have e1 := pkeep r11 hSw; have e2 := pkeep r12 hSw; have e3 := pkeep r13 hSw; go_simp⟩) hS ?_
  simp only [List.setIfInBounds_toArray, List.set_cons_zero, List.set_cons_succ]
  refine tkd (i := 14) (v := .int .i64 lv) rfl rfl (by kernel_rfl) (by kernel_rfl) (by kernel_rfl) (fun _ _ _ h => h) (Or.inl ⟨by rfl, fun wq hSw => by skip; go_simp⟩) hS ?_
  simp only [List.setIfInBounds_toArray, List.set_cons_zero, List.set_cons_succ]
  refine tkd (i := 15) (v := .int .i64 (lv + 1)) rfl rfl (by kernel_rfl) (by kernel_rfl) (by kernel_rfl) (fun _ _ _ h => h) (Or.inl ⟨by rfl, fun wq hSw => by skip; go_simp⟩) hS ?_
  simp only [List.setIfInBounds_toArray, List.set_cons_zero, List.set_cons_succ]
  refine wpAnyH_lay [5, 6, 8, 9, 16, 17, 18] [(310, 5), (311, 6), (313, 8), (314, 9), (321, 16), (322, 17), (2, 18)] (fun i v W2 => match i with | 5 => v = .string T0 | 6 => v = .string (T0 ++ (⟨#[32]⟩ : ByteArray)) | 8 => v = .string ((T0 ++ (⟨#[32]⟩ : ByteArray)) ++ sg) | 9 => v = .string (((T0 ++ (⟨#[32]⟩ : ByteArray)) ++ sg) ++ (⟨#[32]⟩ : ByteArray)) | 16 => v = .string T1 | 17 => v = .string ((((T0 ++ (⟨#[32]⟩ : ByteArray)) ++ sg) ++ (⟨#[32]⟩ : ByteArray)) ++ T1) | _ => v = .string ((((T0 ++ (⟨#[32]⟩ : ByteArray)) ++ sg) ++ (⟨#[32]⟩ : ByteArray)) ++ T1)) (by kernel_rfl) (by rfl) (by kernel_rfl) (by decide) (by kernel_rfl) hS ?_ ?_ ?_
  · intro j v W1 W2 hb h
    split at h
    all_goals first | exact h | exact h.below hb
  · skip
    refine Steps.consK [] rfl trivial (fun U W1 hS1 hR K hK => ?_) ?_
    · skip
      have hcc := A0.out W1 hS1
      simp only [layS, putK, List.foldr, List.foldl, List.setIfInBounds_toArray, List.set_cons_zero, List.set_cons_succ, reduceIte, Nat.reduceEqDiff]
      go_simp
      go_at_call 41
      refine hcc.mono ?_
      rintro e W2 ⟨rfl, hb⟩
      go_wp2
      have hk := hK.out (.string T0) W2 (hS1.trans (hb.mono hS1.size)) hb rfl
      simp only [layS, putK, List.foldr, List.foldl, List.setIfInBounds_toArray, List.set_cons_zero, List.set_cons_succ, reduceIte, Nat.reduceEqDiff] at hk
      exact hk
    refine Steps.consK [(5, .string T0)] rfl ⟨⟨by kernel_rfl, fun _ _ h => h⟩, trivial⟩ (fun U W1 hS1 hR K hK => ?_) ?_
    · skip
      simp only [layS, putK, List.foldr, List.foldl, List.setIfInBounds_toArray, List.set_cons_zero, List.set_cons_succ, reduceIte, Nat.reduceEqDiff]
      go_simp
      rw [if_neg (by first | omega | (simp only [ByteArray.size_append]; omega))]
      go_simp
      have hk := hK.out (.string (T0 ++ (⟨#[32]⟩ : ByteArray))) W1 hS1 (Below.refl _ _) rfl
      simp only [layS, putK, List.foldr, List.foldl, List.setIfInBounds_toArray, List.set_cons_zero, List.set_cons_succ, reduceIte, Nat.reduceEqDiff] at hk
      exact hk
    refine Steps.consK [(6, .string (T0 ++ (⟨#[32]⟩ : ByteArray)))] rfl ⟨⟨by kernel_rfl, fun _ _ h => h⟩, trivial⟩ (fun U W1 hS1 hR K hK => ?_) ?_
    · skip
      simp only [layS, putK, List.foldr, List.foldl, List.setIfInBounds_toArray, List.set_cons_zero, List.set_cons_succ, reduceIte, Nat.reduceEqDiff]
      go_simp
      rw [if_neg (by first | omega | (simp only [ByteArray.size_append]; omega))]
      go_simp
      have hk := hK.out (.string ((T0 ++ (⟨#[32]⟩ : ByteArray)) ++ sg)) W1 hS1 (Below.refl _ _) rfl
      simp only [layS, putK, List.foldr, List.foldl, List.setIfInBounds_toArray, List.set_cons_zero, List.set_cons_succ, reduceIte, Nat.reduceEqDiff] at hk
      exact hk
    refine Steps.consK [(8, .string ((T0 ++ (⟨#[32]⟩ : ByteArray)) ++ sg))] rfl ⟨⟨by kernel_rfl, fun _ _ h => h⟩, trivial⟩ (fun U W1 hS1 hR K hK => ?_) ?_
    · skip
      simp only [layS, putK, List.foldr, List.foldl, List.setIfInBounds_toArray, List.set_cons_zero, List.set_cons_succ, reduceIte, Nat.reduceEqDiff]
      go_simp
      rw [if_neg (by first | omega | (simp only [ByteArray.size_append]; omega))]
      go_simp
      have hk := hK.out (.string (((T0 ++ (⟨#[32]⟩ : ByteArray)) ++ sg) ++ (⟨#[32]⟩ : ByteArray))) W1 hS1 (Below.refl _ _) rfl
      simp only [layS, putK, List.foldr, List.foldl, List.setIfInBounds_toArray, List.set_cons_zero, List.set_cons_succ, reduceIte, Nat.reduceEqDiff] at hk
      exact hk
    refine Steps.consK [] rfl trivial (fun U W1 hS1 hR K hK => ?_) ?_
    · skip
      have hcc := A1.out W1 hS1
      simp only [layS, putK, List.foldr, List.foldl, List.setIfInBounds_toArray, List.set_cons_zero, List.set_cons_succ, reduceIte, Nat.reduceEqDiff]
      go_simp
      go_at_call 41
      refine hcc.mono ?_
      rintro e W2 ⟨rfl, hb⟩
      go_wp2
      have hk := hK.out (.string T1) W2 (hS1.trans (hb.mono hS1.size)) hb rfl
      simp only [layS, putK, List.foldr, List.foldl, List.setIfInBounds_toArray, List.set_cons_zero, List.set_cons_succ, reduceIte, Nat.reduceEqDiff] at hk
      exact hk
    refine Steps.consK [(9, .string (((T0 ++ (⟨#[32]⟩ : ByteArray)) ++ sg) ++ (⟨#[32]⟩ : ByteArray))), (16, .string T1)] rfl ⟨⟨by kernel_rfl, fun _ _ h => h⟩, ⟨by kernel_rfl, fun _ _ h => h⟩, trivial⟩ (fun U W1 hS1 hR K hK => ?_) ?_
    · skip
      simp only [layS, putK, List.foldr, List.foldl, List.setIfInBounds_toArray, List.set_cons_zero, List.set_cons_succ, reduceIte, Nat.reduceEqDiff]
      go_simp
      rw [if_neg (by first | omega | (simp only [ByteArray.size_append]; omega))]
      go_simp
      have hk := hK.out (.string ((((T0 ++ (⟨#[32]⟩ : ByteArray)) ++ sg) ++ (⟨#[32]⟩ : ByteArray)) ++ T1)) W1 hS1 (Below.refl _ _) rfl
      simp only [layS, putK, List.foldr, List.foldl, List.setIfInBounds_toArray, List.set_cons_zero, List.set_cons_succ, reduceIte, Nat.reduceEqDiff] at hk
      exact hk
    refine Steps.consK [(17, .string ((((T0 ++ (⟨#[32]⟩ : ByteArray)) ++ sg) ++ (⟨#[32]⟩ : ByteArray)) ++ T1))] rfl ⟨⟨by kernel_rfl, fun _ _ h => h⟩, trivial⟩ (fun U W1 hS1 hR K hK => ?_) Steps.nil
    · skip
      simp only [layS, putK, List.foldr, List.foldl, List.setIfInBounds_toArray, List.set_cons_zero, List.set_cons_succ, reduceIte, Nat.reduceEqDiff]
      go_simp
      have hk := hK.out (.string ((((T0 ++ (⟨#[32]⟩ : ByteArray)) ++ sg) ++ (⟨#[32]⟩ : ByteArray)) ++ T1)) W1 hS1 (Below.refl _ _) rfl
      simp only [layS, putK, List.foldr, List.foldl, List.setIfInBounds_toArray, List.set_cons_zero, List.set_cons_succ, reduceIte, Nat.reduceEqDiff] at hk
      exact hk
  · intro U W1 hS1 hR
    have hdd : U 18 = .string ((((T0 ++ (⟨#[32]⟩ : ByteArray)) ++ sg) ++ (⟨#[32]⟩ : ByteArray)) ++ T1) := hR 18 (by simp)
    simp only [layS, putK, List.foldr, List.foldl, List.setIfInBounds_toArray, List.set_cons_zero, List.set_cons_succ, reduceIte, Nat.reduceEqDiff]
    rw [hdd]
    clear hdd hR
    go_wp2
    go_ret
    exact ⟨by rw [HR.out]; rfl, hbw.trans (hS1.mono hbw.size)⟩
set_option maxHeartbeats 8000000 in
theorem rShow19ac {x : ByteArray} {m : Int} {t0 t1 : Tree} {a : Option Addr} {c : Nat} (w : World) (hl : Lies (· < w.heap.size) w (.node 19 x m [t0, t1]) (.agg #[.int .i64 19, .string x, .int .i64 m, .slice a 2 c])) (hk0 : ShowOk t0) (z0' : (showT t0).length ≤ 50000) (hk1 : ShowOk t1) (z1' : (showT t1).length ≤ 50000) (hn0 : kindT t0 = 19 → 1 ≤ numT t0 ∧ numT t0 ≤ 9) (hn1 : kindT t1 = 19 → 1 ≤ numT t1 ∧ numT t1 ≤ 9) (h1 : 1 ≤ m) (h9 : m ≤ 9) (dp : decide (2 ≤ m % 4) = false) (dz : (levelR m == 0) = false) :
    Calls Tryz.prog 15 #[.agg #[.int .i64 19, .string x, .int .i64 m, .slice a 2 c]] w fun e w' => e = .returned (.string (sx (barR 19 x m [t0, t1] [showT t0, showT t1]))) ∧ Below w.heap.size w w' := by
  have c24 : Tryz.prog.cellsOf 24 = 4 := by kernel_rfl
  have h0 : 0 ≤ m := by omega
  obtain ⟨lv, hlv⟩ : ∃ l, l = levelR m := ⟨_, rfl⟩
  obtain ⟨sg, hsg⟩ : ∃ l, l = syn.opAt m.toNat := ⟨_, rfl⟩
  have hlv2 : 0 ≤ lv ∧ lv ≤ 2 := by rw [hlv]; have := opIs_le m.toNat; unfold levelR; omega
  have hG := rSignOf m
  have e1 : sgnS m = sg := by rw [hsg]; exact if_pos ⟨h1, h9⟩
  have e2 : sgnL m = lv := by rw [hlv]; exact if_pos ⟨h1, h9⟩
  rw [e1, e2] at hG
  have hwz : IntKind.i64.wrap (lv + 1) = lv + 1 := by rw [IntKind.wrap_i64]; omega
  have zg : sg.size ≤ 2 := by rw [hsg, size_data]; exact op_len _
  rw [← hlv] at dz
  have hmx : max lv 1 = lv := by have : ¬ lv = 0 := (by simpa using dz); omega
  obtain ⟨T0, hT0⟩ : ∃ T, T = sx (atR t0 (showT t0) lv) := ⟨_, rfl⟩
  obtain ⟨T1, hT1⟩ : ∃ T, T = sx (atR t1 (showT t1) (lv + 1)) := ⟨_, rfl⟩
  have z0 : T0.size ≤ 50004 := by rw [hT0, sx_size]; have := at_len t0 (showT t0) lv; omega
  have z1 : T1.size ≤ 50004 := by rw [hT1, sx_size]; have := at_len t1 (showT t1) (lv + 1); omega
  replace hT0 := (show Hid _ from hT0)
  replace hT1 := (show Hid _ from hT1)
  have HR : Hid (sx (barR 19 x m [t0, t1] [showT t0, showT t1]) = ((((T0 ++ (⟨#[32]⟩ : ByteArray)) ++ sg) ++ (⟨#[32]⟩ : ByteArray)) ++ T1)) := by
    show sx (atR t0 (showT t0) (max (levelR m) 1) ++ [32] ++ (syn.opAt m.toNat).data.toList ++ [32] ++ atR t1 (showT t1) (levelR m + 1)) = _
    rw [← hlv, hmx, ← hsg, ← sx_app, ← sx_app, ← sx_app, ← sx_app, sx_data, hT0.out, hT1.out]
    rfl
  generalize sx (barR 19 x m [t0, t1] [showT t0, showT t1]) = R at *
  clear hsg e1 e2 hlv hmx
  unfold Lies at hl
  obtain ⟨a', c', e', ⟨hlen, hlc⟩, hat⟩ := hl
  simp only [Value.agg.injEq, Array.mk.injEq, List.cons.injEq, Value.slice.injEq, and_true, true_and] at e'
  obtain ⟨rfl, -, rfl⟩ := e'
  obtain ⟨g, o, rfl, hg, hat⟩ := hat (by simp)
  obtain ⟨v0, ⟨xa0, xb0, xc0, xd0, rfl, q00, q01, q02, q03⟩, l0⟩ := hat.get 0 (by simp)
  obtain ⟨xx0, mm0, aa0, nn0, cc0, rfl, rfl, rfl, rfl⟩ := lies_kind2 l0
  obtain ⟨v1, ⟨xa1, xb1, xc1, xd1, rfl, q10, q11, q12, q13⟩, l1⟩ := hat.get 1 (by simp)
  obtain ⟨xx1, mm1, aa1, nn1, cc1, rfl, rfl, rfl, rfl⟩ := lies_kind2 l1
  simp only [List.getElem_cons_zero, List.getElem_cons_succ, Nat.zero_mul, Nat.one_mul, Nat.reduceMul, Nat.add_zero, Nat.add_assoc, Nat.reduceAdd] at l0 q00 q01 q02 q03 l1 q10 q11 q12 q13
  have l0' := l0
  obtain ⟨kd0, hkd0⟩ : ∃ q, q = kindT t0 := ⟨_, rfl⟩
  rw [← hkd0] at q00 l0 l0'
  replace hkd0 := (show Hid _ from hkd0)
  have l1' := l1
  obtain ⟨kd1, hkd1⟩ : ∃ q, q = kindT t1 := ⟨_, rfl⟩
  rw [← hkd1] at q10 l1 l1'
  replace hkd1 := (show Hid _ from hkd1)
  go_enter Tryz.func15, Tryz.ntmps15
  go_wp2_with (go_at_call 34; refine (hG _).mono ?_; clear hG; rintro e w3 ⟨rfl, hb3⟩; have q02 := (one_box (hb3.mono (by simp) : Below (w.heap.size + 1) (w.alloc (.cells #[.int .i64 19, .string x, .int .i64 m, .slice (some ⟨g, o, none⟩) 2 c] 24)) w3)).1)
  clear q02
  have hbw : Below w.heap.size w w3.drew := (((Below.refl w.heap.size w).alloc (Nat.le_refl _) (.cells #[.int .i64 19, .string x, .int .i64 m, .slice (some ⟨g, o, none⟩) 2 c] 24)).trans (hb3.mono (by simp))).drew
  have r00 := (hbw.cell (p := ⟨g, o, none⟩) hg).trans q00
  have r01 := (hbw.cell (p := ⟨g, o + 1, none⟩) hg).trans q01
  have r02 := (hbw.cell (p := ⟨g, o + 2, none⟩) hg).trans q02
  have r03 := (hbw.cell (p := ⟨g, o + 3, none⟩) hg).trans q03
  have r10 := (hbw.cell (p := ⟨g, o + 4, none⟩) hg).trans q10
  have r11 := (hbw.cell (p := ⟨g, o + 5, none⟩) hg).trans q11
  have r12 := (hbw.cell (p := ⟨g, o + 6, none⟩) hg).trans q12
  have r13 := (hbw.cell (p := ⟨g, o + 7, none⟩) hg).trans q13
  obtain ⟨m0, m1, m2, m3, hW1, -⟩ := one_box ((hb3.mono (by simp) : Below (w.heap.size + 1) (w.alloc (.cells #[.int .i64 19, .string x, .int .i64 m, .slice (some ⟨g, o, none⟩) 2 c] 24)) w3).drew)
  have A0 : ∀ W1, Below (w3.drew).heap.size (w3.drew) W1 → Calls Tryz.prog 41 #[.agg #[.int .i64 kd0, .string xx0, .int .i64 mm0, .slice aa0 nn0 cc0], .int .i64 (lv)] W1 fun e w' => e = .returned (.string T0) ∧ Below W1.heap.size W1 w' := fun W1 hb => by
    rw [hT0.out]
    exact rAtP t0 hk0 (by omega) hn0 (lv) _ _ (Lies.below (Lies.below l0' hbw) hb)
  replace A0 := (show Hid _ from A0)
  have A1 : ∀ W1, Below (w3.drew).heap.size (w3.drew) W1 → Calls Tryz.prog 41 #[.agg #[.int .i64 kd1, .string xx1, .int .i64 mm1, .slice aa1 nn1 cc1], .int .i64 (lv + 1)] W1 fun e w' => e = .returned (.string T1) ∧ Below W1.heap.size W1 w' := fun W1 hb => by
    rw [hT1.out]
    exact rAtP t1 hk1 (by omega) hn1 (lv + 1) _ _ (Lies.below (Lies.below l1' hbw) hb)
  replace A1 := (show Hid _ from A1)
  clear q00 q01 q02 q03 l0 q10 q11 q12 q13 l1 hat l0' l1' hb3
  refine wp_region_held_drew (S := fun W => Below w3.drew.heap.size w3.drew W) (by kernel_rfl) (Below.refl _ _) (fun hS => ?_)
  generalize w3.drew = W at *
  refine tkd (i := 0) (v := .pointer (some ⟨w.heap.size, 3, none⟩)) rfl rfl (by kernel_rfl) (by kernel_rfl) (by kernel_rfl) (fun _ _ _ h => h) (Or.inl ⟨by rfl, fun wq hSw => by skip; go_simp⟩) hS ?_
  simp only [List.setIfInBounds_toArray, List.set_cons_zero, List.set_cons_succ]
  refine tkd (i := 1) (v := .slice (some ⟨g, o, none⟩) 2 c) rfl rfl (by kernel_rfl) (by kernel_rfl) (by kernel_rfl) (fun _ _ _ h => h) (Or.inl ⟨by rfl, fun wq hSw => by have q := pkeep m3 hSw; go_simp⟩) hS ?_
  simp only [List.setIfInBounds_toArray, List.set_cons_zero, List.set_cons_succ]
  refine tkd (i := 2) (v := .pointer (some ⟨g, o, none⟩)) rfl rfl (by kernel_rfl) (by kernel_rfl) (by kernel_rfl) (fun _ _ _ h => h) (Or.inl ⟨by rfl, fun wq hSw => by skip; go_simp⟩) hS ?_
  simp only [List.setIfInBounds_toArray, List.set_cons_zero, List.set_cons_succ]
  refine tkd (i := 3) (v := .agg #[.int .i64 kd0, .string xx0, .int .i64 mm0, .slice aa0 nn0 cc0] ) rfl rfl (by kernel_rfl) (by kernel_rfl) (by kernel_rfl) (fun _ _ _ h => h) (Or.inl ⟨by rfl, fun wq hSw => by have e0 := pkeep r00 hSw; have e1 := pkeep r01 hSw; have e2 := pkeep r02 hSw; have e3 := pkeep r03 hSw; go_simp⟩) hS ?_
  simp only [List.setIfInBounds_toArray, List.set_cons_zero, List.set_cons_succ]
  refine tkd (i := 4) (v := .int .i64 lv) rfl rfl (by kernel_rfl) (by kernel_rfl) (by kernel_rfl) (fun _ _ _ h => h) (Or.inl ⟨by rfl, fun wq hSw => by skip; go_simp⟩) hS ?_
  simp only [List.setIfInBounds_toArray, List.set_cons_zero, List.set_cons_succ]
  refine tkd (i := 7) (v := .string sg) rfl rfl (by kernel_rfl) (by kernel_rfl) (by kernel_rfl) (fun _ _ _ h => h) (Or.inl ⟨by rfl, fun wq hSw => by skip; go_simp⟩) hS ?_
  simp only [List.setIfInBounds_toArray, List.set_cons_zero, List.set_cons_succ]
  refine tkd (i := 10) (v := .pointer (some ⟨w.heap.size, 3, none⟩)) rfl rfl (by kernel_rfl) (by kernel_rfl) (by kernel_rfl) (fun _ _ _ h => h) (Or.inl ⟨by rfl, fun wq hSw => by skip; go_simp⟩) hS ?_
  simp only [List.setIfInBounds_toArray, List.set_cons_zero, List.set_cons_succ]
  refine tkd (i := 11) (v := .slice (some ⟨g, o, none⟩) 2 c) rfl rfl (by kernel_rfl) (by kernel_rfl) (by kernel_rfl) (fun _ _ _ h => h) (Or.inl ⟨by rfl, fun wq hSw => by have q := pkeep m3 hSw; go_simp⟩) hS ?_
  simp only [List.setIfInBounds_toArray, List.set_cons_zero, List.set_cons_succ]
  refine tkd (i := 12) (v := .pointer (some ⟨g, o + 4, none⟩)) rfl rfl (by kernel_rfl) (by kernel_rfl) (by kernel_rfl) (fun _ _ _ h => h) (Or.inl ⟨by rfl, fun wq hSw => by skip; go_simp⟩) hS ?_
  simp only [List.setIfInBounds_toArray, List.set_cons_zero, List.set_cons_succ]
  refine tkd (i := 13) (v := .agg #[.int .i64 kd1, .string xx1, .int .i64 mm1, .slice aa1 nn1 cc1] ) rfl rfl (by kernel_rfl) (by kernel_rfl) (by kernel_rfl) (fun _ _ _ h => h) (Or.inl ⟨by rfl, fun wq hSw => by have e0 := pkeep r10 hSw; have e1 := pkeep r11 hSw; have e2 := pkeep r12 hSw; have e3 := pkeep r13 hSw; go_simp⟩) hS ?_
  simp only [List.setIfInBounds_toArray, List.set_cons_zero, List.set_cons_succ]
  refine tkd (i := 14) (v := .int .i64 lv) rfl rfl (by kernel_rfl) (by kernel_rfl) (by kernel_rfl) (fun _ _ _ h => h) (Or.inl ⟨by rfl, fun wq hSw => by skip; go_simp⟩) hS ?_
  simp only [List.setIfInBounds_toArray, List.set_cons_zero, List.set_cons_succ]
  refine tkd (i := 15) (v := .int .i64 (lv + 1)) rfl rfl (by kernel_rfl) (by kernel_rfl) (by kernel_rfl) (fun _ _ _ h => h) (Or.inl ⟨by rfl, fun wq hSw => by skip; go_simp⟩) hS ?_
  simp only [List.setIfInBounds_toArray, List.set_cons_zero, List.set_cons_succ]
  refine wpAnyH_lay [5, 6, 8, 9, 16, 17, 18] [(310, 5), (311, 6), (313, 8), (314, 9), (321, 16), (322, 17), (2, 18)] (fun i v W2 => match i with | 5 => v = .string T0 | 6 => v = .string (T0 ++ (⟨#[32]⟩ : ByteArray)) | 8 => v = .string ((T0 ++ (⟨#[32]⟩ : ByteArray)) ++ sg) | 9 => v = .string (((T0 ++ (⟨#[32]⟩ : ByteArray)) ++ sg) ++ (⟨#[32]⟩ : ByteArray)) | 16 => v = .string T1 | 17 => v = .string ((((T0 ++ (⟨#[32]⟩ : ByteArray)) ++ sg) ++ (⟨#[32]⟩ : ByteArray)) ++ T1) | _ => v = .string ((((T0 ++ (⟨#[32]⟩ : ByteArray)) ++ sg) ++ (⟨#[32]⟩ : ByteArray)) ++ T1)) (by kernel_rfl) (by rfl) (by kernel_rfl) (by decide) (by kernel_rfl) hS ?_ ?_ ?_
  · intro j v W1 W2 hb h
    split at h
    all_goals first | exact h | exact h.below hb
  · skip
    refine Steps.consK [] rfl trivial (fun U W1 hS1 hR K hK => ?_) ?_
    · skip
      have hcc := A0.out W1 hS1
      simp only [layS, putK, List.foldr, List.foldl, List.setIfInBounds_toArray, List.set_cons_zero, List.set_cons_succ, reduceIte, Nat.reduceEqDiff]
      go_simp
      go_at_call 41
      refine hcc.mono ?_
      rintro e W2 ⟨rfl, hb⟩
      go_wp2
      have hk := hK.out (.string T0) W2 (hS1.trans (hb.mono hS1.size)) hb rfl
      simp only [layS, putK, List.foldr, List.foldl, List.setIfInBounds_toArray, List.set_cons_zero, List.set_cons_succ, reduceIte, Nat.reduceEqDiff] at hk
      exact hk
    refine Steps.consK [(5, .string T0)] rfl ⟨⟨by kernel_rfl, fun _ _ h => h⟩, trivial⟩ (fun U W1 hS1 hR K hK => ?_) ?_
    · skip
      simp only [layS, putK, List.foldr, List.foldl, List.setIfInBounds_toArray, List.set_cons_zero, List.set_cons_succ, reduceIte, Nat.reduceEqDiff]
      go_simp
      rw [if_neg (by first | omega | (simp only [ByteArray.size_append]; omega))]
      go_simp
      have hk := hK.out (.string (T0 ++ (⟨#[32]⟩ : ByteArray))) W1 hS1 (Below.refl _ _) rfl
      simp only [layS, putK, List.foldr, List.foldl, List.setIfInBounds_toArray, List.set_cons_zero, List.set_cons_succ, reduceIte, Nat.reduceEqDiff] at hk
      exact hk
    refine Steps.consK [(6, .string (T0 ++ (⟨#[32]⟩ : ByteArray)))] rfl ⟨⟨by kernel_rfl, fun _ _ h => h⟩, trivial⟩ (fun U W1 hS1 hR K hK => ?_) ?_
    · skip
      simp only [layS, putK, List.foldr, List.foldl, List.setIfInBounds_toArray, List.set_cons_zero, List.set_cons_succ, reduceIte, Nat.reduceEqDiff]
      go_simp
      rw [if_neg (by first | omega | (simp only [ByteArray.size_append]; omega))]
      go_simp
      have hk := hK.out (.string ((T0 ++ (⟨#[32]⟩ : ByteArray)) ++ sg)) W1 hS1 (Below.refl _ _) rfl
      simp only [layS, putK, List.foldr, List.foldl, List.setIfInBounds_toArray, List.set_cons_zero, List.set_cons_succ, reduceIte, Nat.reduceEqDiff] at hk
      exact hk
    refine Steps.consK [(8, .string ((T0 ++ (⟨#[32]⟩ : ByteArray)) ++ sg))] rfl ⟨⟨by kernel_rfl, fun _ _ h => h⟩, trivial⟩ (fun U W1 hS1 hR K hK => ?_) ?_
    · skip
      simp only [layS, putK, List.foldr, List.foldl, List.setIfInBounds_toArray, List.set_cons_zero, List.set_cons_succ, reduceIte, Nat.reduceEqDiff]
      go_simp
      rw [if_neg (by first | omega | (simp only [ByteArray.size_append]; omega))]
      go_simp
      have hk := hK.out (.string (((T0 ++ (⟨#[32]⟩ : ByteArray)) ++ sg) ++ (⟨#[32]⟩ : ByteArray))) W1 hS1 (Below.refl _ _) rfl
      simp only [layS, putK, List.foldr, List.foldl, List.setIfInBounds_toArray, List.set_cons_zero, List.set_cons_succ, reduceIte, Nat.reduceEqDiff] at hk
      exact hk
    refine Steps.consK [] rfl trivial (fun U W1 hS1 hR K hK => ?_) ?_
    · skip
      have hcc := A1.out W1 hS1
      simp only [layS, putK, List.foldr, List.foldl, List.setIfInBounds_toArray, List.set_cons_zero, List.set_cons_succ, reduceIte, Nat.reduceEqDiff]
      go_simp
      go_at_call 41
      refine hcc.mono ?_
      rintro e W2 ⟨rfl, hb⟩
      go_wp2
      have hk := hK.out (.string T1) W2 (hS1.trans (hb.mono hS1.size)) hb rfl
      simp only [layS, putK, List.foldr, List.foldl, List.setIfInBounds_toArray, List.set_cons_zero, List.set_cons_succ, reduceIte, Nat.reduceEqDiff] at hk
      exact hk
    refine Steps.consK [(9, .string (((T0 ++ (⟨#[32]⟩ : ByteArray)) ++ sg) ++ (⟨#[32]⟩ : ByteArray))), (16, .string T1)] rfl ⟨⟨by kernel_rfl, fun _ _ h => h⟩, ⟨by kernel_rfl, fun _ _ h => h⟩, trivial⟩ (fun U W1 hS1 hR K hK => ?_) ?_
    · skip
      simp only [layS, putK, List.foldr, List.foldl, List.setIfInBounds_toArray, List.set_cons_zero, List.set_cons_succ, reduceIte, Nat.reduceEqDiff]
      go_simp
      rw [if_neg (by first | omega | (simp only [ByteArray.size_append]; omega))]
      go_simp
      have hk := hK.out (.string ((((T0 ++ (⟨#[32]⟩ : ByteArray)) ++ sg) ++ (⟨#[32]⟩ : ByteArray)) ++ T1)) W1 hS1 (Below.refl _ _) rfl
      simp only [layS, putK, List.foldr, List.foldl, List.setIfInBounds_toArray, List.set_cons_zero, List.set_cons_succ, reduceIte, Nat.reduceEqDiff] at hk
      exact hk
    refine Steps.consK [(17, .string ((((T0 ++ (⟨#[32]⟩ : ByteArray)) ++ sg) ++ (⟨#[32]⟩ : ByteArray)) ++ T1))] rfl ⟨⟨by kernel_rfl, fun _ _ h => h⟩, trivial⟩ (fun U W1 hS1 hR K hK => ?_) Steps.nil
    · skip
      simp only [layS, putK, List.foldr, List.foldl, List.setIfInBounds_toArray, List.set_cons_zero, List.set_cons_succ, reduceIte, Nat.reduceEqDiff]
      go_simp
      have hk := hK.out (.string ((((T0 ++ (⟨#[32]⟩ : ByteArray)) ++ sg) ++ (⟨#[32]⟩ : ByteArray)) ++ T1)) W1 hS1 (Below.refl _ _) rfl
      simp only [layS, putK, List.foldr, List.foldl, List.setIfInBounds_toArray, List.set_cons_zero, List.set_cons_succ, reduceIte, Nat.reduceEqDiff] at hk
      exact hk
  · intro U W1 hS1 hR
    have hdd : U 18 = .string ((((T0 ++ (⟨#[32]⟩ : ByteArray)) ++ sg) ++ (⟨#[32]⟩ : ByteArray)) ++ T1) := hR 18 (by simp)
    simp only [layS, putK, List.foldr, List.foldl, List.setIfInBounds_toArray, List.set_cons_zero, List.set_cons_succ, reduceIte, Nat.reduceEqDiff]
    rw [hdd]
    clear hdd hR
    go_wp2
    go_ret
    exact ⟨by rw [HR.out]; rfl, hbw.trans (hS1.mono hbw.size)⟩
end pr
end Go.Proofs.YtkoomoemkffjkaaGreatDoor
