/- The reference's Is, of a node with any number of kids that may be by itself. (Written by mkprtd2.py: edit that.) -/
import Derived.Test.YtkoomoemkffjkaaGreatDoorNP12
import Derived.Test.YtkoomoemkffjkaaGreatDoorNP03
set_option linter.unusedVariables false
set_option linter.unusedSimpArgs false
set_option maxRecDepth 100000
namespace Go.Proofs.YtkoomoemkffjkaaGreatDoor
namespace pr
open Go.RowKit
open Go.Proofs.YtkoomoemkffjkaaGreatDoor.syn Go.Proofs.YtkoomoemkffjkaaGreatDoor.face Go.Proofs.YtkoomoemkffjkaaGreatDoor.chk
open Go.Proofs.YtkoomoemkffjkaaGreatDoor.ord (tkd)
open Go.Proofs.YtkoomoemkffjkaaGreatDoor.reg
set_option maxHeartbeats 8000000 in
theorem rShow4ad {x : ByteArray} {m : Int} {l : List Tree} {b : Tree} {a : Option Addr} {c : Nat} (w : World) (hl : Lies (· < w.heap.size) w (.node 4 x m (l ++ [b])) (.agg #[.int .i64 4, .string x, .int .i64 m, .slice a (l.length + 1) c])) (hk : ∀ t ∈ l, ShowOk t) (hsum : sum8 (showL l) ≤ 60000) (hk0 : ShowOk b) (z0' : (showT b).length ≤ 50000) (hx : x.size ≤ 1000) (h0 : 0 ≤ m) (h11 : m ≤ 11) (dp : decide (2 ≤ m % 4) = false) (d4 : decide (4 ≤ m) = true) :
    Calls Tryz.prog 15 #[.agg #[.int .i64 4, .string x, .int .i64 m, .slice a (l.length + 1) c]] w fun e w' => e = .returned (.string (sx (barR 4 x m (l ++ [b]) (showL (l ++ [b]))))) ∧ Below w.heap.size w w' := by
  have c24 : Tryz.prog.cellsOf 24 = 4 := by kernel_rfl
  obtain ⟨T0, hT0⟩ : ∃ T, T = sx (showT b) := ⟨_, rfl⟩
  have z0 : T0.size ≤ 50000 := by rw [hT0, sx_size]; exact z0'
  replace hT0 := (show Hid _ from hT0)
  obtain ⟨LB, hLB⟩ : ∃ L, L = sx (labR m) := ⟨_, rfl⟩
  have LBc : ∀ W1, Calls Tryz.prog 36 #[.int .i64 m] W1 fun e w' => e = .returned (.string LB) ∧ Below W1.heap.size W1 w' := fun W1 => by
    rw [hLB]
    exact (rLabelP m h0 W1).mono fun e w' h => ⟨h.1, by rw [h.2]; exact Below.refl _ _⟩
  replace LBc := (show Hid _ from LBc)
  have zL : LB.size ≤ 5 := by rw [hLB, sx_size]; exact lab_len m
  obtain ⟨RD, hRD⟩ : ∃ L, L = sx (roundR (showL l)) := ⟨_, rfl⟩
  have zR : RD.size ≤ 60004 := by rw [hRD, sx_size]; have := zround_len (showL l); omega
  replace hRD := (show Hid _ from hRD)
  obtain ⟨LG, hLG⟩ : ∃ L, L = sx (labR (m / 8)) := ⟨_, rfl⟩
  have zG : LG.size ≤ 5 := by rw [hLG, sx_size]; exact lab_len _
  have LGc := fun W1 => rLabelP (m / 8) (by omega) W1
  rw [← hLG] at LGc
  replace LGc := (show Hid _ from LGc)
  have HR : Hid (sx (barR 4 x m (l ++ [b]) (showL (l ++ [b]))) = (((((((((⟨#[112, 114, 111, 99, 32]⟩ : ByteArray) ++ x) ++ (⟨#[32]⟩ : ByteArray)) ++ RD) ++ (⟨#[32]⟩ : ByteArray)) ++ LB) ++ (⟨#[103, 105, 118, 101, 115, 32]⟩ : ByteArray)) ++ LG) ++ T0)) := by
    have hb1 : showL [b] = [showT b] := by rw [showL_cons, showL_nil]
    have e1 : (showL l ++ [showT b]).take ((showL l ++ [showT b]).length - 1) = showL l := by simp
    have e2 : (showL l ++ [showT b]).getD ((showL l ++ [showT b]).length - 1) [] = showT b := by simp
    rw [showL_app, hb1]
    show sx ((if 2 ≤ m % 4 then [112, 117, 98, 32] else []) ++ [112, 114, 111, 99, 32] ++ x.data.toList ++ [32] ++ roundR ((showL l ++ [showT b]).take ((showL l ++ [showT b]).length - 1)) ++ [32] ++ labR m ++ (if 4 ≤ m then [103, 105, 118, 101, 115, 32] ++ labR (m.tdiv 8) else []) ++ (showL l ++ [showT b]).getD ((showL l ++ [showT b]).length - 1) []) = _
    rw [e1, e2, if_neg (of_decide_eq_false dp), if_pos (of_decide_eq_true d4)]
    rw [← List.append_assoc, Int.tdiv_eq_ediv_of_nonneg h0]
    rw [← sx_app, ← sx_app, ← sx_app, ← sx_app, ← sx_app, ← sx_app, ← sx_app, ← sx_app, ← sx_app, sx_data, hLB, hT0.out, hRD.out, hLG]
    rfl
  generalize sx (barR 4 x m (l ++ [b]) (showL (l ++ [b]))) = R at *
  clear hLB z0' hLG
  unfold Lies at hl
  obtain ⟨a', c', e', ⟨hlen, hlc⟩, hat⟩ := hl
  simp only [List.length_append, List.length_cons, List.length_nil, Nat.zero_add] at e' hlen hlc
  simp only [Value.agg.injEq, Array.mk.injEq, List.cons.injEq, Value.slice.injEq, and_true, true_and] at e'
  obtain ⟨rfl, rfl⟩ := e'
  obtain ⟨g, o, rfl, hg, hat⟩ := hat (by simp)
  obtain ⟨v0, ⟨xa0, xb0, xc0, xd0, rfl, q00, q01, q02, q03⟩, l0⟩ := hat.get l.length (by simp)
  obtain ⟨xx0, mm0, aa0, nn0, cc0, rfl, rfl, rfl, rfl⟩ := lies_kind2 l0
  simp only [List.getElem_concat_length] at l0 q00
  generalize hkd0 : kindT b = kd0 at *
  have hrow : RowT w (.slice (some ⟨g, o, none⟩) l.length c) l := ⟨_, _, rfl, by omega, by omega, fun _ => ⟨g, o, rfl, hg, lies_prefix hat⟩⟩
  have RDc : ∀ W1, Below ((w.alloc (.cells #[.int .i64 4, .string x, .int .i64 m, .slice (some ⟨g, o, none⟩) (l.length + 1) c] 24)).drew).heap.size ((w.alloc (.cells #[.int .i64 4, .string x, .int .i64 m, .slice (some ⟨g, o, none⟩) (l.length + 1) c] 24)).drew) W1 → Calls Tryz.prog 37 #[.slice (some ⟨g, o, none⟩) l.length c] W1 fun e w' => e = .returned (.string RD) ∧ Below W1.heap.size W1 w' := fun W1 hb => by
    rw [hRD.out]
    exact rRoundP l hk hsum _ _ ((hrow.below (((Below.refl w.heap.size w).alloc (Nat.le_refl _) _).drew)).below hb)
  replace RDc := (show Hid _ from RDc)
  have kb : ∀ W0 W1, Below w.heap.size w W0 → Below W0.heap.size W0 W1 → Calls Tryz.prog 15 #[.agg #[.int .i64 kd0, .string xx0, .int .i64 mm0, .slice aa0 nn0 cc0]] W1 fun e w' => e = .returned (.string T0) ∧ Below W1.heap.size W1 w' := fun W0 W1 h1 h2 => by
    rw [hT0.out]
    exact hk0 _ _ (Lies.below (Lies.below l0 h1) h2)
  replace kb := (show Hid _ from kb)
  clear hk hsum hrow hat l0
  generalize l.length = N at *
  go_enter Tryz.func15, Tryz.ntmps15
  go_wp2
  have hbw : Below w.heap.size w (w.alloc (.cells #[.int .i64 4, .string x, .int .i64 m, .slice (some ⟨g, o, none⟩) (N + 1) c] 24)).drew := ((Below.refl w.heap.size w).alloc (Nat.le_refl _) (.cells #[.int .i64 4, .string x, .int .i64 m, .slice (some ⟨g, o, none⟩) (N + 1) c] 24)).drew
  obtain ⟨m0, m1, m2, m3, hW1, -⟩ := one_box ((Below.refl (w.heap.size + 1) (w.alloc (.cells #[.int .i64 4, .string x, .int .i64 m, .slice (some ⟨g, o, none⟩) (N + 1) c] 24))).drew)
  have K0 := (show Hid _ from fun W1 => kb.out _ W1 hbw)
  clear kb
  have r00 := (hbw.cell (p := ⟨g, o + N * 4, none⟩) hg).trans q00
  have r01 := (hbw.cell (p := ⟨g, o + N * 4 + 1, none⟩) hg).trans q01
  have r02 := (hbw.cell (p := ⟨g, o + N * 4 + 2, none⟩) hg).trans q02
  have r03 := (hbw.cell (p := ⟨g, o + N * 4 + 3, none⟩) hg).trans q03
  clear   q00 q01 q02 q03
  refine wp_region_held_drew (S := fun W => Below (w.alloc (.cells #[.int .i64 4, .string x, .int .i64 m, .slice (some ⟨g, o, none⟩) (N + 1) c] 24)).drew.heap.size (w.alloc (.cells #[.int .i64 4, .string x, .int .i64 m, .slice (some ⟨g, o, none⟩) (N + 1) c] 24)).drew W) (by kernel_rfl) (Below.refl _ _) (fun hS => ?_)
  generalize (w.alloc (.cells #[.int .i64 4, .string x, .int .i64 m, .slice (some ⟨g, o, none⟩) (N + 1) c] 24)).drew = W at *
  refine tkd (i := 0) (v := .string (⟨#[]⟩ : ByteArray)) rfl rfl (by kernel_rfl) (by kernel_rfl) (by kernel_rfl) (fun _ _ _ h => h) (Or.inl ⟨by rfl, fun wq hSw => by skip; go_simp⟩) hS ?_
  simp only [List.setIfInBounds_toArray, List.set_cons_zero, List.set_cons_succ]
  refine tkd (i := 2) (v := .pointer (some ⟨w.heap.size, 1, none⟩)) rfl rfl (by kernel_rfl) (by kernel_rfl) (by kernel_rfl) (fun _ _ _ h => h) (Or.inl ⟨by rfl, fun wq hSw => by skip; go_simp⟩) hS ?_
  simp only [List.setIfInBounds_toArray, List.set_cons_zero, List.set_cons_succ]
  refine tkd (i := 3) (v := .string x) rfl rfl (by kernel_rfl) (by kernel_rfl) (by kernel_rfl) (fun _ _ _ h => h) (Or.inl ⟨by rfl, fun wq hSw => by have q := pkeep m1 hSw; go_simp⟩) hS ?_
  simp only [List.setIfInBounds_toArray, List.set_cons_zero, List.set_cons_succ]
  refine tkd (i := 6) (v := .pointer (some ⟨w.heap.size, 3, none⟩)) rfl rfl (by kernel_rfl) (by kernel_rfl) (by kernel_rfl) (fun _ _ _ h => h) (Or.inl ⟨by rfl, fun wq hSw => by skip; go_simp⟩) hS ?_
  simp only [List.setIfInBounds_toArray, List.set_cons_zero, List.set_cons_succ]
  refine tkd (i := 7) (v := .slice (some ⟨g, o, none⟩) (N + 1) c) rfl rfl (by kernel_rfl) (by kernel_rfl) (by kernel_rfl) (fun _ _ _ h => h) (Or.inl ⟨by rfl, fun wq hSw => by have q := pkeep m3 hSw; go_simp⟩) hS ?_
  simp only [List.setIfInBounds_toArray, List.set_cons_zero, List.set_cons_succ]
  refine tkd (i := 8) (v := .int .i64 (N : Int)) rfl rfl (by kernel_rfl) (by kernel_rfl) (by kernel_rfl) (fun _ _ _ h => h) (Or.inl ⟨by rfl, fun wq hSw => by skip; go_simp⟩) hS ?_
  simp only [List.setIfInBounds_toArray, List.set_cons_zero, List.set_cons_succ]
  refine tkd (i := 9) (v := .slice (some ⟨g, o, none⟩) N c) rfl rfl (by kernel_rfl) (by kernel_rfl) (by kernel_rfl) (fun _ _ _ h => h) (Or.inl ⟨by rfl, fun wq hSw => by have hnc : ¬ c < N := (by omega); go_simp⟩) hS ?_
  simp only [List.setIfInBounds_toArray, List.set_cons_zero, List.set_cons_succ]
  refine tkd (i := 13) (v := .pointer (some ⟨w.heap.size, 2, none⟩)) rfl rfl (by kernel_rfl) (by kernel_rfl) (by kernel_rfl) (fun _ _ _ h => h) (Or.inl ⟨by rfl, fun wq hSw => by skip; go_simp⟩) hS ?_
  simp only [List.setIfInBounds_toArray, List.set_cons_zero, List.set_cons_succ]
  refine tkd (i := 14) (v := .int .i64 m) rfl rfl (by kernel_rfl) (by kernel_rfl) (by kernel_rfl) (fun _ _ _ h => h) (Or.inl ⟨by rfl, fun wq hSw => by have q := pkeep m2 hSw; go_simp⟩) hS ?_
  simp only [List.setIfInBounds_toArray, List.set_cons_zero, List.set_cons_succ]
  refine wpAnyH_lay [1, 4, 5, 10, 11, 12, 15, 16, 17] [(80, 1), (83, 4), (84, 5), (89, 10), (90, 11), (91, 12), (94, 15), (95, 16), (9, 17)] (fun i v W2 => match i with | 1 => v = .string (⟨#[112, 114, 111, 99, 32]⟩ : ByteArray) | 4 => v = .string ((⟨#[112, 114, 111, 99, 32]⟩ : ByteArray) ++ x) | 5 => v = .string (((⟨#[112, 114, 111, 99, 32]⟩ : ByteArray) ++ x) ++ (⟨#[32]⟩ : ByteArray)) | 10 => v = .string RD | 11 => v = .string ((((⟨#[112, 114, 111, 99, 32]⟩ : ByteArray) ++ x) ++ (⟨#[32]⟩ : ByteArray)) ++ RD) | 12 => v = .string (((((⟨#[112, 114, 111, 99, 32]⟩ : ByteArray) ++ x) ++ (⟨#[32]⟩ : ByteArray)) ++ RD) ++ (⟨#[32]⟩ : ByteArray)) | 15 => v = .string LB | 16 => v = .string ((((((⟨#[112, 114, 111, 99, 32]⟩ : ByteArray) ++ x) ++ (⟨#[32]⟩ : ByteArray)) ++ RD) ++ (⟨#[32]⟩ : ByteArray)) ++ LB) | _ => v = .string ((((((⟨#[112, 114, 111, 99, 32]⟩ : ByteArray) ++ x) ++ (⟨#[32]⟩ : ByteArray)) ++ RD) ++ (⟨#[32]⟩ : ByteArray)) ++ LB)) (by kernel_rfl) (by rfl) (by kernel_rfl) (by decide) (by kernel_rfl) hS ?_ ?_ ?_
  · intro j v W1 W2 hb h
    split at h
    all_goals first | exact h | exact h.below hb
  · skip
    refine Steps.consK [] rfl trivial (fun U W1 hS1 hR K hK => ?_) ?_
    · skip
      simp only [layS, putK, List.foldr, List.foldl, List.setIfInBounds_toArray, List.set_cons_zero, List.set_cons_succ, reduceIte, Nat.reduceEqDiff]
      go_simp
      skip
      skip
      have hk := hK.out (.string (⟨#[112, 114, 111, 99, 32]⟩ : ByteArray)) W1 hS1 (Below.refl _ _) rfl
      simp only [layS, putK, List.foldr, List.foldl, List.setIfInBounds_toArray, List.set_cons_zero, List.set_cons_succ, reduceIte, Nat.reduceEqDiff] at hk
      exact hk
    refine Steps.consK [(1, .string (⟨#[112, 114, 111, 99, 32]⟩ : ByteArray))] rfl ⟨⟨by kernel_rfl, fun _ _ h => h⟩, trivial⟩ (fun U W1 hS1 hR K hK => ?_) ?_
    · skip
      simp only [layS, putK, List.foldr, List.foldl, List.setIfInBounds_toArray, List.set_cons_zero, List.set_cons_succ, reduceIte, Nat.reduceEqDiff]
      go_simp
      rw [if_neg (by first | omega | (simp only [ByteArray.size_append]; omega))]
      go_simp
      have hk := hK.out (.string ((⟨#[112, 114, 111, 99, 32]⟩ : ByteArray) ++ x)) W1 hS1 (Below.refl _ _) rfl
      simp only [layS, putK, List.foldr, List.foldl, List.setIfInBounds_toArray, List.set_cons_zero, List.set_cons_succ, reduceIte, Nat.reduceEqDiff] at hk
      exact hk
    refine Steps.consK [(4, .string ((⟨#[112, 114, 111, 99, 32]⟩ : ByteArray) ++ x))] rfl ⟨⟨by kernel_rfl, fun _ _ h => h⟩, trivial⟩ (fun U W1 hS1 hR K hK => ?_) ?_
    · skip
      simp only [layS, putK, List.foldr, List.foldl, List.setIfInBounds_toArray, List.set_cons_zero, List.set_cons_succ, reduceIte, Nat.reduceEqDiff]
      go_simp
      rw [if_neg (by first | omega | (simp only [ByteArray.size_append]; omega))]
      go_simp
      have hk := hK.out (.string (((⟨#[112, 114, 111, 99, 32]⟩ : ByteArray) ++ x) ++ (⟨#[32]⟩ : ByteArray))) W1 hS1 (Below.refl _ _) rfl
      simp only [layS, putK, List.foldr, List.foldl, List.setIfInBounds_toArray, List.set_cons_zero, List.set_cons_succ, reduceIte, Nat.reduceEqDiff] at hk
      exact hk
    refine Steps.consK [] rfl trivial (fun U W1 hS1 hR K hK => ?_) ?_
    · skip
      have hcc := RDc.out W1 hS1
      simp only [layS, putK, List.foldr, List.foldl, List.setIfInBounds_toArray, List.set_cons_zero, List.set_cons_succ, reduceIte, Nat.reduceEqDiff]
      go_simp
      go_at_call 37
      refine hcc.mono ?_
      rintro e W2 ⟨rfl, hb⟩
      go_wp2
      have hk := hK.out (.string RD) W2 (hS1.trans (hb.mono hS1.size)) hb rfl
      simp only [layS, putK, List.foldr, List.foldl, List.setIfInBounds_toArray, List.set_cons_zero, List.set_cons_succ, reduceIte, Nat.reduceEqDiff] at hk
      exact hk
    refine Steps.consK [(5, .string (((⟨#[112, 114, 111, 99, 32]⟩ : ByteArray) ++ x) ++ (⟨#[32]⟩ : ByteArray))), (10, .string RD)] rfl ⟨⟨by kernel_rfl, fun _ _ h => h⟩, ⟨by kernel_rfl, fun _ _ h => h⟩, trivial⟩ (fun U W1 hS1 hR K hK => ?_) ?_
    · skip
      simp only [layS, putK, List.foldr, List.foldl, List.setIfInBounds_toArray, List.set_cons_zero, List.set_cons_succ, reduceIte, Nat.reduceEqDiff]
      go_simp
      rw [if_neg (by first | omega | (simp only [ByteArray.size_append]; omega))]
      go_simp
      have hk := hK.out (.string ((((⟨#[112, 114, 111, 99, 32]⟩ : ByteArray) ++ x) ++ (⟨#[32]⟩ : ByteArray)) ++ RD)) W1 hS1 (Below.refl _ _) rfl
      simp only [layS, putK, List.foldr, List.foldl, List.setIfInBounds_toArray, List.set_cons_zero, List.set_cons_succ, reduceIte, Nat.reduceEqDiff] at hk
      exact hk
    refine Steps.consK [(11, .string ((((⟨#[112, 114, 111, 99, 32]⟩ : ByteArray) ++ x) ++ (⟨#[32]⟩ : ByteArray)) ++ RD))] rfl ⟨⟨by kernel_rfl, fun _ _ h => h⟩, trivial⟩ (fun U W1 hS1 hR K hK => ?_) ?_
    · skip
      simp only [layS, putK, List.foldr, List.foldl, List.setIfInBounds_toArray, List.set_cons_zero, List.set_cons_succ, reduceIte, Nat.reduceEqDiff]
      go_simp
      rw [if_neg (by first | omega | (simp only [ByteArray.size_append]; omega))]
      go_simp
      have hk := hK.out (.string (((((⟨#[112, 114, 111, 99, 32]⟩ : ByteArray) ++ x) ++ (⟨#[32]⟩ : ByteArray)) ++ RD) ++ (⟨#[32]⟩ : ByteArray))) W1 hS1 (Below.refl _ _) rfl
      simp only [layS, putK, List.foldr, List.foldl, List.setIfInBounds_toArray, List.set_cons_zero, List.set_cons_succ, reduceIte, Nat.reduceEqDiff] at hk
      exact hk
    refine Steps.consK [] rfl trivial (fun U W1 hS1 hR K hK => ?_) ?_
    · skip
      have hcc := LBc.out W1
      simp only [layS, putK, List.foldr, List.foldl, List.setIfInBounds_toArray, List.set_cons_zero, List.set_cons_succ, reduceIte, Nat.reduceEqDiff]
      go_simp
      go_at_call 36
      refine hcc.mono ?_
      rintro e W2 ⟨rfl, hb⟩
      go_wp2
      have hk := hK.out (.string LB) W2 (hS1.trans (hb.mono hS1.size)) hb rfl
      simp only [layS, putK, List.foldr, List.foldl, List.setIfInBounds_toArray, List.set_cons_zero, List.set_cons_succ, reduceIte, Nat.reduceEqDiff] at hk
      exact hk
    refine Steps.consK [(12, .string (((((⟨#[112, 114, 111, 99, 32]⟩ : ByteArray) ++ x) ++ (⟨#[32]⟩ : ByteArray)) ++ RD) ++ (⟨#[32]⟩ : ByteArray))), (15, .string LB)] rfl ⟨⟨by kernel_rfl, fun _ _ h => h⟩, ⟨by kernel_rfl, fun _ _ h => h⟩, trivial⟩ (fun U W1 hS1 hR K hK => ?_) ?_
    · skip
      simp only [layS, putK, List.foldr, List.foldl, List.setIfInBounds_toArray, List.set_cons_zero, List.set_cons_succ, reduceIte, Nat.reduceEqDiff]
      go_simp
      rw [if_neg (by first | omega | (simp only [ByteArray.size_append]; omega))]
      go_simp
      have hk := hK.out (.string ((((((⟨#[112, 114, 111, 99, 32]⟩ : ByteArray) ++ x) ++ (⟨#[32]⟩ : ByteArray)) ++ RD) ++ (⟨#[32]⟩ : ByteArray)) ++ LB)) W1 hS1 (Below.refl _ _) rfl
      simp only [layS, putK, List.foldr, List.foldl, List.setIfInBounds_toArray, List.set_cons_zero, List.set_cons_succ, reduceIte, Nat.reduceEqDiff] at hk
      exact hk
    refine Steps.consK [(16, .string ((((((⟨#[112, 114, 111, 99, 32]⟩ : ByteArray) ++ x) ++ (⟨#[32]⟩ : ByteArray)) ++ RD) ++ (⟨#[32]⟩ : ByteArray)) ++ LB))] rfl ⟨⟨by kernel_rfl, fun _ _ h => h⟩, trivial⟩ (fun U W1 hS1 hR K hK => ?_) Steps.nil
    · skip
      simp only [layS, putK, List.foldr, List.foldl, List.setIfInBounds_toArray, List.set_cons_zero, List.set_cons_succ, reduceIte, Nat.reduceEqDiff]
      go_simp
      have hk := hK.out (.string ((((((⟨#[112, 114, 111, 99, 32]⟩ : ByteArray) ++ x) ++ (⟨#[32]⟩ : ByteArray)) ++ RD) ++ (⟨#[32]⟩ : ByteArray)) ++ LB)) W1 hS1 (Below.refl _ _) rfl
      simp only [layS, putK, List.foldr, List.foldl, List.setIfInBounds_toArray, List.set_cons_zero, List.set_cons_succ, reduceIte, Nat.reduceEqDiff] at hk
      exact hk
  · intro U W1 hS1 hR
    have hdd : U 17 = .string ((((((⟨#[112, 114, 111, 99, 32]⟩ : ByteArray) ++ x) ++ (⟨#[32]⟩ : ByteArray)) ++ RD) ++ (⟨#[32]⟩ : ByteArray)) ++ LB) := hR 17 (by simp)
    simp only [layS, putK, List.foldr, List.foldl, List.setIfInBounds_toArray, List.set_cons_zero, List.set_cons_succ, reduceIte, Nat.reduceEqDiff]
    rw [hdd]
    clear hdd hR
    have zE : ((((((⟨#[112, 114, 111, 99, 32]⟩ : ByteArray) ++ x) ++ (⟨#[32]⟩ : ByteArray)) ++ RD) ++ (⟨#[32]⟩ : ByteArray)) ++ LB).size ≤ 62000 := by simp only [ByteArray.size_append]; have e1 : (⟨#[112, 114, 111, 99, 32]⟩ : ByteArray).size ≤ 9 := (by decide); have e3 : (⟨#[32]⟩ : ByteArray).size = 1 := rfl; omega
    generalize ((((((⟨#[112, 114, 111, 99, 32]⟩ : ByteArray) ++ x) ++ (⟨#[32]⟩ : ByteArray)) ++ RD) ++ (⟨#[32]⟩ : ByteArray)) ++ LB) = E at *
    have s3 : w.heap.size < W1.heap.size := by have := hS1.size; omega
    have q22 := pkeep m2 hS1
    have q23 := pkeep m3 hS1
    have K0' := K0.out W1 hS1
    have r00' := pkeep r00 hS1
    have r01' := pkeep r01 hS1
    have r02' := pkeep r02 hS1
    have r03' := pkeep r03 hS1
    clear m0 m1 m2 m3 r00 r01 r02 r03
    have e3 : (E ++ (⟨#[103, 105, 118, 101, 115, 32]⟩ : ByteArray)).size = E.size + 6 := ByteArray.size_append
    have e4 : ((E ++ (⟨#[103, 105, 118, 101, 115, 32]⟩ : ByteArray)) ++ LG).size = (E ++ (⟨#[103, 105, 118, 101, 115, 32]⟩ : ByteArray)).size + LG.size := ByteArray.size_append
    have e5 : (((E ++ (⟨#[103, 105, 118, 101, 115, 32]⟩ : ByteArray)) ++ LG) ++ T0).size = ((E ++ (⟨#[103, 105, 118, 101, 115, 32]⟩ : ByteArray)) ++ LG).size + T0.size := ByteArray.size_append
    go_wp2_with first
      | (go_at_call 36; refine (LGc.out _).mono ?_; rintro e w8 ⟨rfl, rfl⟩)
      | (go_at_call 15; refine K0'.mono ?_; rintro e w9 ⟨rfl, hb9⟩)
    go_ret
    exact ⟨by rw [HR.out]; rfl, (hbw.trans (hS1.mono hbw.size)).trans (hb9.mono (Nat.le_trans hbw.size hS1.size))⟩
set_option maxHeartbeats 8000000 in
theorem rShow4ac {x : ByteArray} {m : Int} {l : List Tree} {b : Tree} {a : Option Addr} {c : Nat} (w : World) (hl : Lies (· < w.heap.size) w (.node 4 x m (l ++ [b])) (.agg #[.int .i64 4, .string x, .int .i64 m, .slice a (l.length + 1) c])) (hk : ∀ t ∈ l, ShowOk t) (hsum : sum8 (showL l) ≤ 60000) (hk0 : ShowOk b) (z0' : (showT b).length ≤ 50000) (hx : x.size ≤ 1000) (h0 : 0 ≤ m) (h11 : m ≤ 11) (dp : decide (2 ≤ m % 4) = false) (d4 : decide (4 ≤ m) = false) :
    Calls Tryz.prog 15 #[.agg #[.int .i64 4, .string x, .int .i64 m, .slice a (l.length + 1) c]] w fun e w' => e = .returned (.string (sx (barR 4 x m (l ++ [b]) (showL (l ++ [b]))))) ∧ Below w.heap.size w w' := by
  have c24 : Tryz.prog.cellsOf 24 = 4 := by kernel_rfl
  obtain ⟨T0, hT0⟩ : ∃ T, T = sx (showT b) := ⟨_, rfl⟩
  have z0 : T0.size ≤ 50000 := by rw [hT0, sx_size]; exact z0'
  replace hT0 := (show Hid _ from hT0)
  obtain ⟨LB, hLB⟩ : ∃ L, L = sx (labR m) := ⟨_, rfl⟩
  have LBc : ∀ W1, Calls Tryz.prog 36 #[.int .i64 m] W1 fun e w' => e = .returned (.string LB) ∧ Below W1.heap.size W1 w' := fun W1 => by
    rw [hLB]
    exact (rLabelP m h0 W1).mono fun e w' h => ⟨h.1, by rw [h.2]; exact Below.refl _ _⟩
  replace LBc := (show Hid _ from LBc)
  have zL : LB.size ≤ 5 := by rw [hLB, sx_size]; exact lab_len m
  obtain ⟨RD, hRD⟩ : ∃ L, L = sx (roundR (showL l)) := ⟨_, rfl⟩
  have zR : RD.size ≤ 60004 := by rw [hRD, sx_size]; have := zround_len (showL l); omega
  replace hRD := (show Hid _ from hRD)
  have HR : Hid (sx (barR 4 x m (l ++ [b]) (showL (l ++ [b]))) = (((((((⟨#[112, 114, 111, 99, 32]⟩ : ByteArray) ++ x) ++ (⟨#[32]⟩ : ByteArray)) ++ RD) ++ (⟨#[32]⟩ : ByteArray)) ++ LB) ++ T0)) := by
    have hb1 : showL [b] = [showT b] := by rw [showL_cons, showL_nil]
    have e1 : (showL l ++ [showT b]).take ((showL l ++ [showT b]).length - 1) = showL l := by simp
    have e2 : (showL l ++ [showT b]).getD ((showL l ++ [showT b]).length - 1) [] = showT b := by simp
    rw [showL_app, hb1]
    show sx ((if 2 ≤ m % 4 then [112, 117, 98, 32] else []) ++ [112, 114, 111, 99, 32] ++ x.data.toList ++ [32] ++ roundR ((showL l ++ [showT b]).take ((showL l ++ [showT b]).length - 1)) ++ [32] ++ labR m ++ (if 4 ≤ m then [103, 105, 118, 101, 115, 32] ++ labR (m.tdiv 8) else []) ++ (showL l ++ [showT b]).getD ((showL l ++ [showT b]).length - 1) []) = _
    rw [e1, e2, if_neg (of_decide_eq_false dp), if_neg (of_decide_eq_false d4)]
    rw [List.append_nil]
    rw [← sx_app, ← sx_app, ← sx_app, ← sx_app, ← sx_app, ← sx_app, ← sx_app, sx_data, hLB, hT0.out, hRD.out]
    rfl
  generalize sx (barR 4 x m (l ++ [b]) (showL (l ++ [b]))) = R at *
  clear hLB z0' 
  unfold Lies at hl
  obtain ⟨a', c', e', ⟨hlen, hlc⟩, hat⟩ := hl
  simp only [List.length_append, List.length_cons, List.length_nil, Nat.zero_add] at e' hlen hlc
  simp only [Value.agg.injEq, Array.mk.injEq, List.cons.injEq, Value.slice.injEq, and_true, true_and] at e'
  obtain ⟨rfl, rfl⟩ := e'
  obtain ⟨g, o, rfl, hg, hat⟩ := hat (by simp)
  obtain ⟨v0, ⟨xa0, xb0, xc0, xd0, rfl, q00, q01, q02, q03⟩, l0⟩ := hat.get l.length (by simp)
  obtain ⟨xx0, mm0, aa0, nn0, cc0, rfl, rfl, rfl, rfl⟩ := lies_kind2 l0
  simp only [List.getElem_concat_length] at l0 q00
  generalize hkd0 : kindT b = kd0 at *
  have hrow : RowT w (.slice (some ⟨g, o, none⟩) l.length c) l := ⟨_, _, rfl, by omega, by omega, fun _ => ⟨g, o, rfl, hg, lies_prefix hat⟩⟩
  have RDc : ∀ W1, Below ((w.alloc (.cells #[.int .i64 4, .string x, .int .i64 m, .slice (some ⟨g, o, none⟩) (l.length + 1) c] 24)).drew).heap.size ((w.alloc (.cells #[.int .i64 4, .string x, .int .i64 m, .slice (some ⟨g, o, none⟩) (l.length + 1) c] 24)).drew) W1 → Calls Tryz.prog 37 #[.slice (some ⟨g, o, none⟩) l.length c] W1 fun e w' => e = .returned (.string RD) ∧ Below W1.heap.size W1 w' := fun W1 hb => by
    rw [hRD.out]
    exact rRoundP l hk hsum _ _ ((hrow.below (((Below.refl w.heap.size w).alloc (Nat.le_refl _) _).drew)).below hb)
  replace RDc := (show Hid _ from RDc)
  have kb : ∀ W0 W1, Below w.heap.size w W0 → Below W0.heap.size W0 W1 → Calls Tryz.prog 15 #[.agg #[.int .i64 kd0, .string xx0, .int .i64 mm0, .slice aa0 nn0 cc0]] W1 fun e w' => e = .returned (.string T0) ∧ Below W1.heap.size W1 w' := fun W0 W1 h1 h2 => by
    rw [hT0.out]
    exact hk0 _ _ (Lies.below (Lies.below l0 h1) h2)
  replace kb := (show Hid _ from kb)
  clear hk hsum hrow hat l0
  generalize l.length = N at *
  go_enter Tryz.func15, Tryz.ntmps15
  go_wp2
  have hbw : Below w.heap.size w (w.alloc (.cells #[.int .i64 4, .string x, .int .i64 m, .slice (some ⟨g, o, none⟩) (N + 1) c] 24)).drew := ((Below.refl w.heap.size w).alloc (Nat.le_refl _) (.cells #[.int .i64 4, .string x, .int .i64 m, .slice (some ⟨g, o, none⟩) (N + 1) c] 24)).drew
  obtain ⟨m0, m1, m2, m3, hW1, -⟩ := one_box ((Below.refl (w.heap.size + 1) (w.alloc (.cells #[.int .i64 4, .string x, .int .i64 m, .slice (some ⟨g, o, none⟩) (N + 1) c] 24))).drew)
  have K0 := (show Hid _ from fun W1 => kb.out _ W1 hbw)
  clear kb
  have r00 := (hbw.cell (p := ⟨g, o + N * 4, none⟩) hg).trans q00
  have r01 := (hbw.cell (p := ⟨g, o + N * 4 + 1, none⟩) hg).trans q01
  have r02 := (hbw.cell (p := ⟨g, o + N * 4 + 2, none⟩) hg).trans q02
  have r03 := (hbw.cell (p := ⟨g, o + N * 4 + 3, none⟩) hg).trans q03
  clear   q00 q01 q02 q03
  refine wp_region_held_drew (S := fun W => Below (w.alloc (.cells #[.int .i64 4, .string x, .int .i64 m, .slice (some ⟨g, o, none⟩) (N + 1) c] 24)).drew.heap.size (w.alloc (.cells #[.int .i64 4, .string x, .int .i64 m, .slice (some ⟨g, o, none⟩) (N + 1) c] 24)).drew W) (by kernel_rfl) (Below.refl _ _) (fun hS => ?_)
  generalize (w.alloc (.cells #[.int .i64 4, .string x, .int .i64 m, .slice (some ⟨g, o, none⟩) (N + 1) c] 24)).drew = W at *
  refine tkd (i := 0) (v := .string (⟨#[]⟩ : ByteArray)) rfl rfl (by kernel_rfl) (by kernel_rfl) (by kernel_rfl) (fun _ _ _ h => h) (Or.inl ⟨by rfl, fun wq hSw => by skip; go_simp⟩) hS ?_
  simp only [List.setIfInBounds_toArray, List.set_cons_zero, List.set_cons_succ]
  refine tkd (i := 2) (v := .pointer (some ⟨w.heap.size, 1, none⟩)) rfl rfl (by kernel_rfl) (by kernel_rfl) (by kernel_rfl) (fun _ _ _ h => h) (Or.inl ⟨by rfl, fun wq hSw => by skip; go_simp⟩) hS ?_
  simp only [List.setIfInBounds_toArray, List.set_cons_zero, List.set_cons_succ]
  refine tkd (i := 3) (v := .string x) rfl rfl (by kernel_rfl) (by kernel_rfl) (by kernel_rfl) (fun _ _ _ h => h) (Or.inl ⟨by rfl, fun wq hSw => by have q := pkeep m1 hSw; go_simp⟩) hS ?_
  simp only [List.setIfInBounds_toArray, List.set_cons_zero, List.set_cons_succ]
  refine tkd (i := 6) (v := .pointer (some ⟨w.heap.size, 3, none⟩)) rfl rfl (by kernel_rfl) (by kernel_rfl) (by kernel_rfl) (fun _ _ _ h => h) (Or.inl ⟨by rfl, fun wq hSw => by skip; go_simp⟩) hS ?_
  simp only [List.setIfInBounds_toArray, List.set_cons_zero, List.set_cons_succ]
  refine tkd (i := 7) (v := .slice (some ⟨g, o, none⟩) (N + 1) c) rfl rfl (by kernel_rfl) (by kernel_rfl) (by kernel_rfl) (fun _ _ _ h => h) (Or.inl ⟨by rfl, fun wq hSw => by have q := pkeep m3 hSw; go_simp⟩) hS ?_
  simp only [List.setIfInBounds_toArray, List.set_cons_zero, List.set_cons_succ]
  refine tkd (i := 8) (v := .int .i64 (N : Int)) rfl rfl (by kernel_rfl) (by kernel_rfl) (by kernel_rfl) (fun _ _ _ h => h) (Or.inl ⟨by rfl, fun wq hSw => by skip; go_simp⟩) hS ?_
  simp only [List.setIfInBounds_toArray, List.set_cons_zero, List.set_cons_succ]
  refine tkd (i := 9) (v := .slice (some ⟨g, o, none⟩) N c) rfl rfl (by kernel_rfl) (by kernel_rfl) (by kernel_rfl) (fun _ _ _ h => h) (Or.inl ⟨by rfl, fun wq hSw => by have hnc : ¬ c < N := (by omega); go_simp⟩) hS ?_
  simp only [List.setIfInBounds_toArray, List.set_cons_zero, List.set_cons_succ]
  refine tkd (i := 13) (v := .pointer (some ⟨w.heap.size, 2, none⟩)) rfl rfl (by kernel_rfl) (by kernel_rfl) (by kernel_rfl) (fun _ _ _ h => h) (Or.inl ⟨by rfl, fun wq hSw => by skip; go_simp⟩) hS ?_
  simp only [List.setIfInBounds_toArray, List.set_cons_zero, List.set_cons_succ]
  refine tkd (i := 14) (v := .int .i64 m) rfl rfl (by kernel_rfl) (by kernel_rfl) (by kernel_rfl) (fun _ _ _ h => h) (Or.inl ⟨by rfl, fun wq hSw => by have q := pkeep m2 hSw; go_simp⟩) hS ?_
  simp only [List.setIfInBounds_toArray, List.set_cons_zero, List.set_cons_succ]
  refine wpAnyH_lay [1, 4, 5, 10, 11, 12, 15, 16, 17] [(80, 1), (83, 4), (84, 5), (89, 10), (90, 11), (91, 12), (94, 15), (95, 16), (9, 17)] (fun i v W2 => match i with | 1 => v = .string (⟨#[112, 114, 111, 99, 32]⟩ : ByteArray) | 4 => v = .string ((⟨#[112, 114, 111, 99, 32]⟩ : ByteArray) ++ x) | 5 => v = .string (((⟨#[112, 114, 111, 99, 32]⟩ : ByteArray) ++ x) ++ (⟨#[32]⟩ : ByteArray)) | 10 => v = .string RD | 11 => v = .string ((((⟨#[112, 114, 111, 99, 32]⟩ : ByteArray) ++ x) ++ (⟨#[32]⟩ : ByteArray)) ++ RD) | 12 => v = .string (((((⟨#[112, 114, 111, 99, 32]⟩ : ByteArray) ++ x) ++ (⟨#[32]⟩ : ByteArray)) ++ RD) ++ (⟨#[32]⟩ : ByteArray)) | 15 => v = .string LB | 16 => v = .string ((((((⟨#[112, 114, 111, 99, 32]⟩ : ByteArray) ++ x) ++ (⟨#[32]⟩ : ByteArray)) ++ RD) ++ (⟨#[32]⟩ : ByteArray)) ++ LB) | _ => v = .string ((((((⟨#[112, 114, 111, 99, 32]⟩ : ByteArray) ++ x) ++ (⟨#[32]⟩ : ByteArray)) ++ RD) ++ (⟨#[32]⟩ : ByteArray)) ++ LB)) (by kernel_rfl) (by rfl) (by kernel_rfl) (by decide) (by kernel_rfl) hS ?_ ?_ ?_
  · intro j v W1 W2 hb h
    split at h
    all_goals first | exact h | exact h.below hb
  · skip
    refine Steps.consK [] rfl trivial (fun U W1 hS1 hR K hK => ?_) ?_
    · skip
      simp only [layS, putK, List.foldr, List.foldl, List.setIfInBounds_toArray, List.set_cons_zero, List.set_cons_succ, reduceIte, Nat.reduceEqDiff]
      go_simp
      skip
      skip
      have hk := hK.out (.string (⟨#[112, 114, 111, 99, 32]⟩ : ByteArray)) W1 hS1 (Below.refl _ _) rfl
      simp only [layS, putK, List.foldr, List.foldl, List.setIfInBounds_toArray, List.set_cons_zero, List.set_cons_succ, reduceIte, Nat.reduceEqDiff] at hk
      exact hk
    refine Steps.consK [(1, .string (⟨#[112, 114, 111, 99, 32]⟩ : ByteArray))] rfl ⟨⟨by kernel_rfl, fun _ _ h => h⟩, trivial⟩ (fun U W1 hS1 hR K hK => ?_) ?_
    · skip
      simp only [layS, putK, List.foldr, List.foldl, List.setIfInBounds_toArray, List.set_cons_zero, List.set_cons_succ, reduceIte, Nat.reduceEqDiff]
      go_simp
      rw [if_neg (by first | omega | (simp only [ByteArray.size_append]; omega))]
      go_simp
      have hk := hK.out (.string ((⟨#[112, 114, 111, 99, 32]⟩ : ByteArray) ++ x)) W1 hS1 (Below.refl _ _) rfl
      simp only [layS, putK, List.foldr, List.foldl, List.setIfInBounds_toArray, List.set_cons_zero, List.set_cons_succ, reduceIte, Nat.reduceEqDiff] at hk
      exact hk
    refine Steps.consK [(4, .string ((⟨#[112, 114, 111, 99, 32]⟩ : ByteArray) ++ x))] rfl ⟨⟨by kernel_rfl, fun _ _ h => h⟩, trivial⟩ (fun U W1 hS1 hR K hK => ?_) ?_
    · skip
      simp only [layS, putK, List.foldr, List.foldl, List.setIfInBounds_toArray, List.set_cons_zero, List.set_cons_succ, reduceIte, Nat.reduceEqDiff]
      go_simp
      rw [if_neg (by first | omega | (simp only [ByteArray.size_append]; omega))]
      go_simp
      have hk := hK.out (.string (((⟨#[112, 114, 111, 99, 32]⟩ : ByteArray) ++ x) ++ (⟨#[32]⟩ : ByteArray))) W1 hS1 (Below.refl _ _) rfl
      simp only [layS, putK, List.foldr, List.foldl, List.setIfInBounds_toArray, List.set_cons_zero, List.set_cons_succ, reduceIte, Nat.reduceEqDiff] at hk
      exact hk
    refine Steps.consK [] rfl trivial (fun U W1 hS1 hR K hK => ?_) ?_
    · skip
      have hcc := RDc.out W1 hS1
      simp only [layS, putK, List.foldr, List.foldl, List.setIfInBounds_toArray, List.set_cons_zero, List.set_cons_succ, reduceIte, Nat.reduceEqDiff]
      go_simp
      go_at_call 37
      refine hcc.mono ?_
      rintro e W2 ⟨rfl, hb⟩
      go_wp2
      have hk := hK.out (.string RD) W2 (hS1.trans (hb.mono hS1.size)) hb rfl
      simp only [layS, putK, List.foldr, List.foldl, List.setIfInBounds_toArray, List.set_cons_zero, List.set_cons_succ, reduceIte, Nat.reduceEqDiff] at hk
      exact hk
    refine Steps.consK [(5, .string (((⟨#[112, 114, 111, 99, 32]⟩ : ByteArray) ++ x) ++ (⟨#[32]⟩ : ByteArray))), (10, .string RD)] rfl ⟨⟨by kernel_rfl, fun _ _ h => h⟩, ⟨by kernel_rfl, fun _ _ h => h⟩, trivial⟩ (fun U W1 hS1 hR K hK => ?_) ?_
    · skip
      simp only [layS, putK, List.foldr, List.foldl, List.setIfInBounds_toArray, List.set_cons_zero, List.set_cons_succ, reduceIte, Nat.reduceEqDiff]
      go_simp
      rw [if_neg (by first | omega | (simp only [ByteArray.size_append]; omega))]
      go_simp
      have hk := hK.out (.string ((((⟨#[112, 114, 111, 99, 32]⟩ : ByteArray) ++ x) ++ (⟨#[32]⟩ : ByteArray)) ++ RD)) W1 hS1 (Below.refl _ _) rfl
      simp only [layS, putK, List.foldr, List.foldl, List.setIfInBounds_toArray, List.set_cons_zero, List.set_cons_succ, reduceIte, Nat.reduceEqDiff] at hk
      exact hk
    refine Steps.consK [(11, .string ((((⟨#[112, 114, 111, 99, 32]⟩ : ByteArray) ++ x) ++ (⟨#[32]⟩ : ByteArray)) ++ RD))] rfl ⟨⟨by kernel_rfl, fun _ _ h => h⟩, trivial⟩ (fun U W1 hS1 hR K hK => ?_) ?_
    · skip
      simp only [layS, putK, List.foldr, List.foldl, List.setIfInBounds_toArray, List.set_cons_zero, List.set_cons_succ, reduceIte, Nat.reduceEqDiff]
      go_simp
      rw [if_neg (by first | omega | (simp only [ByteArray.size_append]; omega))]
      go_simp
      have hk := hK.out (.string (((((⟨#[112, 114, 111, 99, 32]⟩ : ByteArray) ++ x) ++ (⟨#[32]⟩ : ByteArray)) ++ RD) ++ (⟨#[32]⟩ : ByteArray))) W1 hS1 (Below.refl _ _) rfl
      simp only [layS, putK, List.foldr, List.foldl, List.setIfInBounds_toArray, List.set_cons_zero, List.set_cons_succ, reduceIte, Nat.reduceEqDiff] at hk
      exact hk
    refine Steps.consK [] rfl trivial (fun U W1 hS1 hR K hK => ?_) ?_
    · skip
      have hcc := LBc.out W1
      simp only [layS, putK, List.foldr, List.foldl, List.setIfInBounds_toArray, List.set_cons_zero, List.set_cons_succ, reduceIte, Nat.reduceEqDiff]
      go_simp
      go_at_call 36
      refine hcc.mono ?_
      rintro e W2 ⟨rfl, hb⟩
      go_wp2
      have hk := hK.out (.string LB) W2 (hS1.trans (hb.mono hS1.size)) hb rfl
      simp only [layS, putK, List.foldr, List.foldl, List.setIfInBounds_toArray, List.set_cons_zero, List.set_cons_succ, reduceIte, Nat.reduceEqDiff] at hk
      exact hk
    refine Steps.consK [(12, .string (((((⟨#[112, 114, 111, 99, 32]⟩ : ByteArray) ++ x) ++ (⟨#[32]⟩ : ByteArray)) ++ RD) ++ (⟨#[32]⟩ : ByteArray))), (15, .string LB)] rfl ⟨⟨by kernel_rfl, fun _ _ h => h⟩, ⟨by kernel_rfl, fun _ _ h => h⟩, trivial⟩ (fun U W1 hS1 hR K hK => ?_) ?_
    · skip
      simp only [layS, putK, List.foldr, List.foldl, List.setIfInBounds_toArray, List.set_cons_zero, List.set_cons_succ, reduceIte, Nat.reduceEqDiff]
      go_simp
      rw [if_neg (by first | omega | (simp only [ByteArray.size_append]; omega))]
      go_simp
      have hk := hK.out (.string ((((((⟨#[112, 114, 111, 99, 32]⟩ : ByteArray) ++ x) ++ (⟨#[32]⟩ : ByteArray)) ++ RD) ++ (⟨#[32]⟩ : ByteArray)) ++ LB)) W1 hS1 (Below.refl _ _) rfl
      simp only [layS, putK, List.foldr, List.foldl, List.setIfInBounds_toArray, List.set_cons_zero, List.set_cons_succ, reduceIte, Nat.reduceEqDiff] at hk
      exact hk
    refine Steps.consK [(16, .string ((((((⟨#[112, 114, 111, 99, 32]⟩ : ByteArray) ++ x) ++ (⟨#[32]⟩ : ByteArray)) ++ RD) ++ (⟨#[32]⟩ : ByteArray)) ++ LB))] rfl ⟨⟨by kernel_rfl, fun _ _ h => h⟩, trivial⟩ (fun U W1 hS1 hR K hK => ?_) Steps.nil
    · skip
      simp only [layS, putK, List.foldr, List.foldl, List.setIfInBounds_toArray, List.set_cons_zero, List.set_cons_succ, reduceIte, Nat.reduceEqDiff]
      go_simp
      have hk := hK.out (.string ((((((⟨#[112, 114, 111, 99, 32]⟩ : ByteArray) ++ x) ++ (⟨#[32]⟩ : ByteArray)) ++ RD) ++ (⟨#[32]⟩ : ByteArray)) ++ LB)) W1 hS1 (Below.refl _ _) rfl
      simp only [layS, putK, List.foldr, List.foldl, List.setIfInBounds_toArray, List.set_cons_zero, List.set_cons_succ, reduceIte, Nat.reduceEqDiff] at hk
      exact hk
  · intro U W1 hS1 hR
    have hdd : U 17 = .string ((((((⟨#[112, 114, 111, 99, 32]⟩ : ByteArray) ++ x) ++ (⟨#[32]⟩ : ByteArray)) ++ RD) ++ (⟨#[32]⟩ : ByteArray)) ++ LB) := hR 17 (by simp)
    simp only [layS, putK, List.foldr, List.foldl, List.setIfInBounds_toArray, List.set_cons_zero, List.set_cons_succ, reduceIte, Nat.reduceEqDiff]
    rw [hdd]
    clear hdd hR
    have zE : ((((((⟨#[112, 114, 111, 99, 32]⟩ : ByteArray) ++ x) ++ (⟨#[32]⟩ : ByteArray)) ++ RD) ++ (⟨#[32]⟩ : ByteArray)) ++ LB).size ≤ 62000 := by simp only [ByteArray.size_append]; have e1 : (⟨#[112, 114, 111, 99, 32]⟩ : ByteArray).size ≤ 9 := (by decide); have e3 : (⟨#[32]⟩ : ByteArray).size = 1 := rfl; omega
    generalize ((((((⟨#[112, 114, 111, 99, 32]⟩ : ByteArray) ++ x) ++ (⟨#[32]⟩ : ByteArray)) ++ RD) ++ (⟨#[32]⟩ : ByteArray)) ++ LB) = E at *
    have s3 : w.heap.size < W1.heap.size := by have := hS1.size; omega
    have q22 := pkeep m2 hS1
    have q23 := pkeep m3 hS1
    have K0' := K0.out W1 hS1
    have r00' := pkeep r00 hS1
    have r01' := pkeep r01 hS1
    have r02' := pkeep r02 hS1
    have r03' := pkeep r03 hS1
    clear m0 m1 m2 m3 r00 r01 r02 r03
    have e3 : (E ++ T0).size = E.size + T0.size := ByteArray.size_append
    go_wp2_with (go_at_call 15; refine K0'.mono ?_; rintro e w9 ⟨rfl, hb9⟩)
    go_ret
    exact ⟨by rw [HR.out]; rfl, (hbw.trans (hS1.mono hbw.size)).trans (hb9.mono (Nat.le_trans hbw.size hS1.size))⟩
end pr
namespace pr
open Go.RowKit
open Go.Proofs.YtkoomoemkffjkaaGreatDoor.syn Go.Proofs.YtkoomoemkffjkaaGreatDoor.face Go.Proofs.YtkoomoemkffjkaaGreatDoor.chk
theorem sh_kid {n : Nat} {t : Tree} : ∀ {ks : List Tree}, ShT.ShL n ks → t ∈ ks → ShT n t
  | [], _, h => by cases h
  | a :: r, hs, h => by
    unfold ShT.ShL at hs
    rcases List.mem_cons.1 h with rfl | h
    · exact hs.1
    · exact sh_kid hs.2 h
theorem sgn_ne {m : Int} (h : 1 ≤ m ∧ m ≤ 9) : ((sgnS m).toList == ([] : List UInt8)) = false := by
  have : m = 1 ∨ m = 2 ∨ m = 3 ∨ m = 4 ∨ m = 5 ∨ m = 6 ∨ m = 7 ∨ m = 8 ∨ m = 9 := by omega
  rcases this with rfl | rfl | rfl | rfl | rfl | rfl | rfl | rfl | rfl <;> (unfold sgnS; rw [if_pos (by decide), ByteArray.toList_eq]; rfl)
/-- a node's own looks, in the reference's order -/
def lookA (k : Int) (x : ByteArray) (n : Nat) : Bool := !decide ((n : Int) < (shapeF k).2.2.2.1) && !(decide (0 ≤ cntsM k) && decide (cntsM k < (n : Int))) && textsR x (shapeF k).1
def lookN (k m : Int) : Bool := if k = 19 then decide (1 ≤ m ∧ m ≤ 9) else !(decide (m < 0) || decide (cntsN k < m))
theorem head_split {k m : Int} {x : ByteArray} {n : Nat} (h : 1 ≤ k ∧ k ≤ 21) : headR k x m n = (lookA k x n && lookN k m) := by
  unfold headR lookA lookN
  rw [decide_eq_true h, Bool.true_and]
  cases ht : textsR x (shapeF k).1
  · simp
  · simp only [Bool.and_true]
    clear ht
    rcases kinds21 h with rfl | rfl | rfl | rfl | rfl | rfl | rfl | rfl | rfl | rfl | rfl | rfl | rfl | rfl | rfl | rfl | rfl | rfl | rfl | rfl | rfl
    all_goals
      rw [Bool.eq_iff_iff]
      simp [shapeF, cntsM, cntsN]
    all_goals omega
theorem lies_kind {P : Nat → Prop} {w : World} {t : Tree} {x0 x1 x2 x3 : Value} (h : Lies P w t (.agg #[x0, x1, x2, x3])) : ∃ xx mm aa nn cc, x0 = .int .i64 (kindT t) ∧ x1 = .string xx ∧ x2 = .int .i64 mm ∧ x3 = .slice aa nn cc := by
  obtain ⟨k, x, m, ks⟩ := t
  unfold Lies at h
  obtain ⟨a, c, e, _⟩ := h
  simp only [Value.agg.injEq, Array.mk.injEq, List.cons.injEq, and_true] at e
  obtain ⟨rfl, rfl, rfl, rfl⟩ := e
  exact ⟨x, m, a, ks.length, c, rfl, rfl, rfl, rfl⟩
theorem isL_at {k : Int} {n j : Nat} {p : Int} {ks : List Tree} (h : j < ks.length) : isL k n j p (ks.drop j) = (fitB k n j p (kindT ks[j]) && isT ks[j] && isL k n (j + 1) (kindT ks[j]) (ks.drop (j + 1))) := by
  rw [List.drop_eq_getElem_cons h, isL]

set_option maxHeartbeats 4000000 in
theorem isLoopE {m : Int} {k : Int} {x : ByteArray} {ks : List Tree} {a : Option Addr} {c : Nat} (w : World) (ih : ∀ i (hi : i < ks.length) (va : Value) (w : World), Lies (· < w.heap.size) w ks[i] va → ShT 4611686018427387904 ks[i] → Calls Tryz.prog 14 #[va] w fun e w' => e = .returned (.bool (isT ks[i])) ∧ Below w.heap.size w w') (ha : Lies (· < w.heap.size) w (.node k x m ks) (.agg #[.int .i64 k, .string x, .int .i64 m, .slice a ks.length c])) (hx : x.size < 4611686018427387904) (HSK : Hid (∀ i (hi : i < ks.length), ShT 4611686018427387904 ks[i])) (hk : 1 ≤ k ∧ k ≤ 21) (h19 : ¬ k = 19) (d2 : decide (0 ≤ cntsM k) = false) (hA : lookA k x ks.length = true) (hN : lookN k m = true) :
    Calls Tryz.prog 14 #[.agg #[.int .i64 k, .string x, .int .i64 m, .slice a ks.length c]] w fun e w' => e = .returned (.bool (isT (.node k x m ks))) ∧ Below w.heap.size w w' := by
  have c24 : Tryz.prog.cellsOf 24 = 4 := by kernel_rfl
  replace ih := (show Hid _ from ih)
  have HA := (show Hid _ from ha)
  unfold Lies at ha
  obtain ⟨a', c', e', ⟨hlen, hlc⟩, hka⟩ := ha
  simp only [Value.agg.injEq, Array.mk.injEq, List.cons.injEq, Value.slice.injEq, and_true, true_and] at e'
  obtain ⟨rfl, -, rfl⟩ := e'
  replace hka := (show Hid _ from hka)
  have hk21 : 1 ≤ (k : Int) ∧ (k : Int) ≤ 21 := hk
  have hC := rCounts k (w.alloc (.cells #[.int .i64 k, .string x, .int .i64 m, .slice a ks.length c] 24))
  unfold CountsE at hC
  simp only [if_pos hk21] at hC
  have HT := (show Hid _ from isT_node k m x ks)
  have HH : Hid (headR k x m ks.length = true) := by
    show _ = _
    rw [head_split hk21, hA, hN]
    rfl
  have hcl := shape_class k
  unfold lookA at hA
  simp only [Bool.and_eq_true, Bool.not_eq_true'] at hA
  obtain ⟨⟨d1, d3⟩, dT⟩ := hA
  rw [d2] at d3
  simp only [Bool.true_and, Bool.false_and] at d3
  have hXx := rTexts x _ hcl (w.alloc (.cells #[.int .i64 k, .string x, .int .i64 m, .slice a ks.length c] 24)) hx
  rw [dT] at hXx
  unfold lookN at hN
  rw [if_neg h19] at hN
  simp only [Bool.not_eq_true', Bool.or_eq_false_iff] at hN
  obtain ⟨m1, m2⟩ := hN
  have k19 : (k == 19) = false := by simpa using h19
  generalize (shapeF k).2.2.2.1 = cL at *
  generalize cntsM k = cM at *
  generalize cntsN k = cN at *
  generalize (shapeF k).1 = cC at *
  clear hcl hk h19 hk21 dT
  obtain ⟨V, hV⟩ : ∃ V, V = isL k ks.length 0 0 ks := ⟨_, rfl⟩
  rw [← hV] at HT
  replace hV : Hid (V = _) := hV
  go_enter Tryz.func14, Tryz.ntmps14
  go_wp2_with first
    | (go_at_call 32; refine hC.mono ?_; rintro e w1 ⟨rfl, rfl⟩)
    | (go_at_call 33; refine hXx.mono ?_; rintro e w2 ⟨rfl, hb2⟩; have hbb : Below (w.heap.size + 1) (w.alloc (.cells #[.int .i64 k, .string x, .int .i64 m, .slice a ks.length c] 24)) w2 := hb2.mono (by simp); obtain ⟨q0, q1, q2, q3, hsz, hbz⟩ := one_box hbb; have hbL := hbb)
  clear q0 q1 q2 q3 hC hXx hb2 hbb hsz hbz m1 m2 k19 d1  d2
  go_loopw [10] (fun t wr => ∃ (j : Nat) (p : Int), j ≤ ks.length ∧ t = .int .i64 j ∧ Hid (∀ i, j = i + 1 → ∀ (h : i < ks.length), kindT ks[i] = p) ∧ Hid (isL k ks.length j p (ks.drop j) = V) ∧ Below (w.heap.size + 1) (w.alloc (.cells #[.int .i64 k, .string x, .int .i64 m, .slice a ks.length c] 24)) wr) (fun t _ => ks.length - (intOf t).toNat)
  case atStart => exact ⟨0, 0, Nat.zero_le _, rfl, (fun i e => by omega), hV.out.symm, hbL⟩
  case round =>
    clear hbL
    obtain ⟨j, p, hj, rfl, hp, HV, hbr⟩ := hrel
    by_cases hlt : j < ks.length
    · obtain ⟨g, o, rfl, hg, hat⟩ := hka.out (by intro e; rw [e] at hlt; simp at hlt)
      obtain ⟨p0, p1, p2, p3, -, -⟩ := one_box hbr
      go_wp2
      have hbD := hbr.drew
      clear p0 p1 p2 p3
      clear hbr
      obtain ⟨q0, q1, q2, q3, hsz, hbw⟩ := one_box hbD
      obtain ⟨x0, x1, x2, x3, c0, c1, c2, c3, hxk⟩ := hat.kid1 hg hbw hlt
      obtain ⟨xx, mm, aa, nn, cc, rfl, rfl, rfl, rfl⟩ := lies_kind hxk
      have hisl := isL_at (k := k) (n := ks.length) (p := p) hlt
      have hCf := rFitsP wr.drew (Lies.below HA.out hbw) j hlt p (kindT ks[j]) hp.out
      have hCi := fun W' (h : Below wr.drew.heap.size wr.drew W') => ih.out j hlt _ W' (hxk.below h) (HSK.out j hlt)
      have HP2 : Hid (∀ i, j + 1 = i + 1 → ∀ (h : i < ks.length), kindT ks[i] = kindT ks[j]) := fun i e h => by
        obtain rfl : i = j := by omega
        rfl
      clear hxk hat hp
      generalize kindT ks[j] = kd at *
      generalize isT ks[j] = bi at *
      generalize fitB k ks.length j p kd = bf at *
      replace HV := HV.out
      rw [hisl] at HV
      clear hisl
      replace HV : Hid (_ = _) := HV
      replace HP2 := (show Hid _ from HP2)
      replace hCi := (show Hid _ from hCi)
      have hgl : g < wr.drew.heap.size := Nat.lt_of_lt_of_le hg hbw.size
      have hS : wr.drew.cell? ⟨w.heap.size, 0, none⟩ = some (.int .i64 k) ∧ wr.drew.cell? ⟨w.heap.size, 1, none⟩ = some (.string x) ∧ wr.drew.cell? ⟨w.heap.size, 2, none⟩ = some (.int .i64 m) ∧ wr.drew.cell? ⟨w.heap.size, 3, none⟩ = some (.slice (some ⟨g, o, none⟩) ks.length c) ∧ wr.drew.cell? ⟨g, o + j * 4, none⟩ = some (.int .i64 kd) ∧ wr.drew.cell? ⟨g, o + j * 4 + 1, none⟩ = some (.string xx) ∧ wr.drew.cell? ⟨g, o + j * 4 + 2, none⟩ = some (.int .i64 mm) ∧ wr.drew.cell? ⟨g, o + j * 4 + 3, none⟩ = some (.slice aa nn cc) := ⟨q0, q1, q2, q3, c0, c1, c2, c3⟩
      refine wp_region_held_drew (S := fun W => W.cell? ⟨w.heap.size, 0, none⟩ = some (.int .i64 k) ∧ W.cell? ⟨w.heap.size, 1, none⟩ = some (.string x) ∧ W.cell? ⟨w.heap.size, 2, none⟩ = some (.int .i64 m) ∧ W.cell? ⟨w.heap.size, 3, none⟩ = some (.slice (some ⟨g, o, none⟩) ks.length c) ∧ W.cell? ⟨g, o + j * 4, none⟩ = some (.int .i64 kd) ∧ W.cell? ⟨g, o + j * 4 + 1, none⟩ = some (.string xx) ∧ W.cell? ⟨g, o + j * 4 + 2, none⟩ = some (.int .i64 mm) ∧ W.cell? ⟨g, o + j * 4 + 3, none⟩ = some (.slice aa nn cc)) (by kernel_rfl) hS (fun hHeld => ?_)
      clear hHeld q0 q1 q2 q3 c0 c1 c2 c3
      generalize wr.drew = W at *
      refine ord.tkd (i := 0) (v := .agg #[.int .i64 k, .string x, .int .i64 m, .slice (some ⟨g, o, none⟩) ks.length c] ) rfl rfl (by kernel_rfl) (by kernel_rfl) (by kernel_rfl) (fun _ _ _ h => h) (Or.inl ⟨by rfl, fun wq hSw => by obtain ⟨y0, y1, y2, y3, z0, z1, z2, z3⟩ := hSw; go_simp⟩) hS ?_
      simp only [List.setIfInBounds_toArray, List.set_cons_zero, List.set_cons_succ]
      refine ord.tkd (i := 1) (v := .int .i64 j) rfl rfl (by kernel_rfl) (by kernel_rfl) (by kernel_rfl) (fun _ _ _ h => h) (Or.inl ⟨by rfl, fun wq hSw => by obtain ⟨y0, y1, y2, y3, z0, z1, z2, z3⟩ := hSw; go_simp⟩) hS ?_
      simp only [List.setIfInBounds_toArray, List.set_cons_zero, List.set_cons_succ]
      refine ord.tkd (i := 2) (v := .pointer (some ⟨w.heap.size, 3, none⟩)) rfl rfl (by kernel_rfl) (by kernel_rfl) (by kernel_rfl) (fun _ _ _ h => h) (Or.inl ⟨by rfl, fun wq hSw => by obtain ⟨y0, y1, y2, y3, z0, z1, z2, z3⟩ := hSw; go_simp⟩) hS ?_
      simp only [List.setIfInBounds_toArray, List.set_cons_zero, List.set_cons_succ]
      refine ord.tkd (i := 3) (v := .slice (some ⟨g, o, none⟩) ks.length c) rfl rfl (by kernel_rfl) (by kernel_rfl) (by kernel_rfl) (fun _ _ _ h => h) (Or.inl ⟨by rfl, fun wq hSw => by obtain ⟨y0, y1, y2, y3, z0, z1, z2, z3⟩ := hSw; go_simp⟩) hS ?_
      simp only [List.setIfInBounds_toArray, List.set_cons_zero, List.set_cons_succ]
      refine ord.tkd (i := 4) (v := .int .i64 j) rfl rfl (by kernel_rfl) (by kernel_rfl) (by kernel_rfl) (fun _ _ _ h => h) (Or.inl ⟨by rfl, fun wq hSw => by obtain ⟨y0, y1, y2, y3, z0, z1, z2, z3⟩ := hSw; go_simp⟩) hS ?_
      simp only [List.setIfInBounds_toArray, List.set_cons_zero, List.set_cons_succ]
      refine ord.tkd (i := 5) (v := .pointer (some ⟨g, o + j * 4, none⟩)) rfl rfl (by kernel_rfl) (by kernel_rfl) (by kernel_rfl) (fun _ _ _ h => h) (Or.inl ⟨by rfl, fun wq hSw => by obtain ⟨y0, y1, y2, y3, z0, z1, z2, z3⟩ := hSw; go_simp⟩) hS ?_
      simp only [List.setIfInBounds_toArray, List.set_cons_zero, List.set_cons_succ]
      refine ord.tkd (i := 6) (v := .pointer (some ⟨g, o + j * 4, none⟩)) rfl rfl (by kernel_rfl) (by kernel_rfl) (by kernel_rfl) (fun _ _ _ h => h) (Or.inl ⟨by rfl, fun wq hSw => by obtain ⟨y0, y1, y2, y3, z0, z1, z2, z3⟩ := hSw; go_simp⟩) hS ?_
      simp only [List.setIfInBounds_toArray, List.set_cons_zero, List.set_cons_succ]
      refine ord.tkd (i := 7) (v := .int .i64 kd) rfl rfl (by kernel_rfl) (by kernel_rfl) (by kernel_rfl) (fun _ _ _ h => h) (Or.inl ⟨by rfl, fun wq hSw => by obtain ⟨y0, y1, y2, y3, z0, z1, z2, z3⟩ := hSw; go_simp⟩) hS ?_
      simp only [List.setIfInBounds_toArray, List.set_cons_zero, List.set_cons_succ]
      refine wpAnyH_ready (rs := [8]) (by kernel_rfl) (by simp) ?_
      refine AllReadyH.cons rfl (fun KK hK => ?_) AllReadyH.nil
      go_simp
      go_at_call 35
      refine hCf.mono ?_
      clear hCf
      rintro e w2 ⟨rfl, hb2⟩
      go_wp2
      have hbD2 := hbD.trans (hb2.mono hsz)
      have hbw2 := hbw.trans (hb2.mono hbw.size)
      have hS2 : w2.cell? ⟨w.heap.size, 0, none⟩ = some (.int .i64 k) ∧ w2.cell? ⟨w.heap.size, 1, none⟩ = some (.string x) ∧ w2.cell? ⟨w.heap.size, 2, none⟩ = some (.int .i64 m) ∧ w2.cell? ⟨w.heap.size, 3, none⟩ = some (.slice (some ⟨g, o, none⟩) ks.length c) ∧ w2.cell? ⟨g, o + j * 4, none⟩ = some (.int .i64 kd) ∧ w2.cell? ⟨g, o + j * 4 + 1, none⟩ = some (.string xx) ∧ w2.cell? ⟨g, o + j * 4 + 2, none⟩ = some (.int .i64 mm) ∧ w2.cell? ⟨g, o + j * 4 + 3, none⟩ = some (.slice aa nn cc) := by
        obtain ⟨y0, y1, y2, y3, z0, z1, z2, z3⟩ := hS
        have hwW : w.heap.size < W.heap.size := by omega
        exact ⟨(hb2.cell (p := ⟨w.heap.size, 0, none⟩) hwW).trans y0, (hb2.cell (p := ⟨w.heap.size, 1, none⟩) hwW).trans y1, (hb2.cell (p := ⟨w.heap.size, 2, none⟩) hwW).trans y2, (hb2.cell (p := ⟨w.heap.size, 3, none⟩) hwW).trans y3, (hb2.cell (p := ⟨g, o + j * 4, none⟩) hgl).trans z0, (hb2.cell (p := ⟨g, o + j * 4 + 1, none⟩) hgl).trans z1, (hb2.cell (p := ⟨g, o + j * 4 + 2, none⟩) hgl).trans z2, (hb2.cell (p := ⟨g, o + j * 4 + 3, none⟩) hgl).trans z3⟩
      refine hK.out _ _ hS2 (fun _ => ?_)
      clear hK KK hS
      have hS := hS2
      clear hS2
      cases bf with
      | false =>
        have HE : Hid (V = false) := by show _ = _; rw [← HV.out]; rfl
        refine ord.tkd (i := 9) (v := .bool true) rfl rfl (by kernel_rfl) (by kernel_rfl) (by kernel_rfl) (fun _ _ _ h => h) (Or.inl ⟨by rfl, fun wq hSw => by obtain ⟨y0, y1, y2, y3, z0, z1, z2, z3⟩ := hSw; go_simp⟩) hS ?_
        simp only [List.setIfInBounds_toArray, List.set_cons_zero, List.set_cons_succ]
        refine ord.tkd (i := 10) (v := .bool true) rfl rfl (by kernel_rfl) (by kernel_rfl) (by kernel_rfl) (fun _ _ _ h => h) (Or.inl ⟨by rfl, fun wq hSw => by obtain ⟨y0, y1, y2, y3, z0, z1, z2, z3⟩ := hSw; go_simp⟩) hS ?_
        simp only [List.setIfInBounds_toArray, List.set_cons_zero, List.set_cons_succ]
        refine ord.tkd (i := 11) (v := undef) rfl rfl (by kernel_rfl) (by kernel_rfl) (by kernel_rfl) (fun _ _ _ h => h) (Or.inr ⟨by rfl, rfl⟩) hS ?_
        simp only [List.setIfInBounds_toArray, List.set_cons_zero, List.set_cons_succ]
        refine ord.tkd (i := 12) (v := undef) rfl rfl (by kernel_rfl) (by kernel_rfl) (by kernel_rfl) (fun _ _ _ h => h) (Or.inr ⟨by rfl, rfl⟩) hS ?_
        simp only [List.setIfInBounds_toArray, List.set_cons_zero, List.set_cons_succ]
        refine ord.tkd (i := 13) (v := undef) rfl rfl (by kernel_rfl) (by kernel_rfl) (by kernel_rfl) (fun _ _ _ h => h) (Or.inr ⟨by rfl, rfl⟩) hS ?_
        simp only [List.setIfInBounds_toArray, List.set_cons_zero, List.set_cons_succ]
        refine ord.tkd (i := 14) (v := undef) rfl rfl (by kernel_rfl) (by kernel_rfl) (by kernel_rfl) (fun _ _ _ h => h) (Or.inr ⟨by rfl, rfl⟩) hS ?_
        simp only [List.setIfInBounds_toArray, List.set_cons_zero, List.set_cons_succ]
        refine ord.tkd (i := 15) (v := undef) rfl rfl (by kernel_rfl) (by kernel_rfl) (by kernel_rfl) (fun _ _ _ h => h) (Or.inr ⟨by rfl, rfl⟩) hS ?_
        simp only [List.setIfInBounds_toArray, List.set_cons_zero, List.set_cons_succ]
        refine ord.tkd (i := 16) (v := undef) rfl rfl (by kernel_rfl) (by kernel_rfl) (by kernel_rfl) (fun _ _ _ h => h) (Or.inr ⟨by rfl, rfl⟩) hS ?_
        simp only [List.setIfInBounds_toArray, List.set_cons_zero, List.set_cons_succ]
        refine ord.tkd (i := 17) (v := undef) rfl rfl (by kernel_rfl) (by kernel_rfl) (by kernel_rfl) (fun _ _ _ h => h) (Or.inr ⟨by rfl, rfl⟩) hS ?_
        simp only [List.setIfInBounds_toArray, List.set_cons_zero, List.set_cons_succ]
        refine ord.tkd (i := 18) (v := .bool true) rfl rfl (by kernel_rfl) (by kernel_rfl) (by kernel_rfl) (fun _ _ _ h => h) (Or.inl ⟨by rfl, fun wq hSw => by obtain ⟨y0, y1, y2, y3, z0, z1, z2, z3⟩ := hSw; go_simp⟩) hS ?_
        simp only [List.setIfInBounds_toArray, List.set_cons_zero, List.set_cons_succ]
        refine wpAnyH_done (by kernel_rfl) ?_ _
        clear hS
        go_wp2
        go_ret
        exact ⟨by rw [HT.out, HH.out, HE.out]; rfl, hbw2⟩
      | true =>
        have hC2 := hCi.out w2 hb2
        refine ord.tkd (i := 9) (v := .bool false) rfl rfl (by kernel_rfl) (by kernel_rfl) (by kernel_rfl) (fun _ _ _ h => h) (Or.inl ⟨by rfl, fun wq hSw => by obtain ⟨y0, y1, y2, y3, z0, z1, z2, z3⟩ := hSw; go_simp⟩) hS ?_
        simp only [List.setIfInBounds_toArray, List.set_cons_zero, List.set_cons_succ]
        refine ord.tkd (i := 10) (v := .bool false) rfl rfl (by kernel_rfl) (by kernel_rfl) (by kernel_rfl) (fun _ _ _ h => h) (Or.inl ⟨by rfl, fun wq hSw => by obtain ⟨y0, y1, y2, y3, z0, z1, z2, z3⟩ := hSw; go_simp⟩) hS ?_
        simp only [List.setIfInBounds_toArray, List.set_cons_zero, List.set_cons_succ]
        refine ord.tkd (i := 11) (v := .pointer (some ⟨w.heap.size, 3, none⟩)) rfl rfl (by kernel_rfl) (by kernel_rfl) (by kernel_rfl) (fun _ _ _ h => h) (Or.inl ⟨by rfl, fun wq hSw => by obtain ⟨y0, y1, y2, y3, z0, z1, z2, z3⟩ := hSw; go_simp⟩) hS ?_
        simp only [List.setIfInBounds_toArray, List.set_cons_zero, List.set_cons_succ]
        refine ord.tkd (i := 12) (v := .slice (some ⟨g, o, none⟩) ks.length c) rfl rfl (by kernel_rfl) (by kernel_rfl) (by kernel_rfl) (fun _ _ _ h => h) (Or.inl ⟨by rfl, fun wq hSw => by obtain ⟨y0, y1, y2, y3, z0, z1, z2, z3⟩ := hSw; go_simp⟩) hS ?_
        simp only [List.setIfInBounds_toArray, List.set_cons_zero, List.set_cons_succ]
        refine ord.tkd (i := 13) (v := .int .i64 j) rfl rfl (by kernel_rfl) (by kernel_rfl) (by kernel_rfl) (fun _ _ _ h => h) (Or.inl ⟨by rfl, fun wq hSw => by obtain ⟨y0, y1, y2, y3, z0, z1, z2, z3⟩ := hSw; go_simp⟩) hS ?_
        simp only [List.setIfInBounds_toArray, List.set_cons_zero, List.set_cons_succ]
        refine ord.tkd (i := 14) (v := .pointer (some ⟨g, o + j * 4, none⟩)) rfl rfl (by kernel_rfl) (by kernel_rfl) (by kernel_rfl) (fun _ _ _ h => h) (Or.inl ⟨by rfl, fun wq hSw => by obtain ⟨y0, y1, y2, y3, z0, z1, z2, z3⟩ := hSw; go_simp⟩) hS ?_
        simp only [List.setIfInBounds_toArray, List.set_cons_zero, List.set_cons_succ]
        refine ord.tkd (i := 15) (v := .agg #[.int .i64 kd, .string xx, .int .i64 mm, .slice aa nn cc] ) rfl rfl (by kernel_rfl) (by kernel_rfl) (by kernel_rfl) (fun _ _ _ h => h) (Or.inl ⟨by rfl, fun wq hSw => by obtain ⟨y0, y1, y2, y3, z0, z1, z2, z3⟩ := hSw; go_simp⟩) hS ?_
        simp only [List.setIfInBounds_toArray, List.set_cons_zero, List.set_cons_succ]
        refine wpAnyH_ready (rs := [16]) (by kernel_rfl) (by simp) ?_
        refine AllReadyH.cons rfl (fun KK hK => ?_) AllReadyH.nil
        go_simp
        go_at_call 14
        refine hC2.mono ?_
        clear hC2
        rintro e w3 ⟨rfl, hb3⟩
        go_wp2
        have hbD3 := hbD2.trans (hb3.mono (Nat.le_trans hsz hb2.size))
        have hbw3 := hbw2.trans (hb3.mono hbw2.size)
        have hS2 : w3.cell? ⟨w.heap.size, 0, none⟩ = some (.int .i64 k) ∧ w3.cell? ⟨w.heap.size, 1, none⟩ = some (.string x) ∧ w3.cell? ⟨w.heap.size, 2, none⟩ = some (.int .i64 m) ∧ w3.cell? ⟨w.heap.size, 3, none⟩ = some (.slice (some ⟨g, o, none⟩) ks.length c) ∧ w3.cell? ⟨g, o + j * 4, none⟩ = some (.int .i64 kd) ∧ w3.cell? ⟨g, o + j * 4 + 1, none⟩ = some (.string xx) ∧ w3.cell? ⟨g, o + j * 4 + 2, none⟩ = some (.int .i64 mm) ∧ w3.cell? ⟨g, o + j * 4 + 3, none⟩ = some (.slice aa nn cc) := by
          obtain ⟨y0, y1, y2, y3, z0, z1, z2, z3⟩ := hS
          have hwW : w.heap.size < w2.heap.size := by have := hb2.size; omega
          have hgl2 : g < w2.heap.size := Nat.lt_of_lt_of_le hgl hb2.size
          exact ⟨(hb3.cell (p := ⟨w.heap.size, 0, none⟩) hwW).trans y0, (hb3.cell (p := ⟨w.heap.size, 1, none⟩) hwW).trans y1, (hb3.cell (p := ⟨w.heap.size, 2, none⟩) hwW).trans y2, (hb3.cell (p := ⟨w.heap.size, 3, none⟩) hwW).trans y3, (hb3.cell (p := ⟨g, o + j * 4, none⟩) hgl2).trans z0, (hb3.cell (p := ⟨g, o + j * 4 + 1, none⟩) hgl2).trans z1, (hb3.cell (p := ⟨g, o + j * 4 + 2, none⟩) hgl2).trans z2, (hb3.cell (p := ⟨g, o + j * 4 + 3, none⟩) hgl2).trans z3⟩
        refine hK.out _ _ hS2 (fun _ => ?_)
        clear hK KK hS
        have hS := hS2
        clear hS2
        cases bi with
        | false =>
          have HE : Hid (V = false) := by show _ = _; rw [← HV.out]; rfl
          refine ord.tkd (i := 17) (v := .bool true) rfl rfl (by kernel_rfl) (by kernel_rfl) (by kernel_rfl) (fun _ _ _ h => h) (Or.inl ⟨by rfl, fun wq hSw => by obtain ⟨y0, y1, y2, y3, z0, z1, z2, z3⟩ := hSw; go_simp⟩) hS ?_
          simp only [List.setIfInBounds_toArray, List.set_cons_zero, List.set_cons_succ]
          refine ord.tkd (i := 18) (v := .bool true) rfl rfl (by kernel_rfl) (by kernel_rfl) (by kernel_rfl) (fun _ _ _ h => h) (Or.inl ⟨by rfl, fun wq hSw => by obtain ⟨y0, y1, y2, y3, z0, z1, z2, z3⟩ := hSw; go_simp⟩) hS ?_
          simp only [List.setIfInBounds_toArray, List.set_cons_zero, List.set_cons_succ]
          refine wpAnyH_done (by kernel_rfl) ?_ _
          clear hS
          go_wp2
          go_ret
          exact ⟨by rw [HT.out, HH.out, HE.out]; rfl, hbw3⟩
        | true =>
          have HV2 : Hid (isL k ks.length (j + 1) kd (ks.drop (j + 1)) = V) := by show _ = _; rw [← HV.out]; rfl
          refine ord.tkd (i := 17) (v := .bool false) rfl rfl (by kernel_rfl) (by kernel_rfl) (by kernel_rfl) (fun _ _ _ h => h) (Or.inl ⟨by rfl, fun wq hSw => by obtain ⟨y0, y1, y2, y3, z0, z1, z2, z3⟩ := hSw; go_simp⟩) hS ?_
          simp only [List.setIfInBounds_toArray, List.set_cons_zero, List.set_cons_succ]
          refine ord.tkd (i := 18) (v := .bool false) rfl rfl (by kernel_rfl) (by kernel_rfl) (by kernel_rfl) (fun _ _ _ h => h) (Or.inl ⟨by rfl, fun wq hSw => by obtain ⟨y0, y1, y2, y3, z0, z1, z2, z3⟩ := hSw; go_simp⟩) hS ?_
          simp only [List.setIfInBounds_toArray, List.set_cons_zero, List.set_cons_succ]
          refine wpAnyH_done (by kernel_rfl) ?_ _
          clear hS
          go_wp2
          go_roundw
          case rel => exact ⟨j + 1, kd, by omega, by go_num, HP2.out, HV2.out, hbD3⟩
          case measure => simp [intOf]; omega
    · have HE : Hid (V = true) := by
        show _ = _
        rw [← HV.out, List.drop_eq_nil_of_le (by omega)]
        unfold isL
        rfl
      have hbz := (one_box hbr).2.2.2.2.2
      obtain ⟨q0, q1, q2, q3, hsz, -⟩ := one_box hbr
      clear hp HV
      go_wp2
      go_ret
      exact ⟨by rw [HT.out, HH.out, HE.out]; rfl, hbz⟩
end pr
end Go.Proofs.YtkoomoemkffjkaaGreatDoor
