/- What the reference's Show answers of nodes of a kind, once it does of the kids: contracts. (Written by mkshow.py: edit that.) -/
import Derived.Test.YtkoomoemkffjkaaGreatDoorNP07
set_option linter.unusedVariables false
set_option linter.unusedSimpArgs false
set_option maxRecDepth 100000
namespace Go.Proofs.YtkoomoemkffjkaaGreatDoor
namespace pr
open Go.RowKit
open Go.Proofs.YtkoomoemkffjkaaGreatDoor.syn Go.Proofs.YtkoomoemkffjkaaGreatDoor.face Go.Proofs.YtkoomoemkffjkaaGreatDoor.chk
open Go.Proofs.YtkoomoemkffjkaaGreatDoor.ord (tkd)
open Go.Proofs.YtkoomoemkffjkaaGreatDoor.reg
theorem lies_prefix {P : Nat → Prop} {w : World} {b : Tree} : ∀ {l : List Tree} {g o : Nat}, LiesAt P w (l ++ [b]) g o → LiesAt P w l g o
  | [], _, _, _ => by unfold LiesAt; trivial
  | t :: r, g, o, h => by
    rw [List.cons_append] at h
    unfold LiesAt at h ⊢
    exact ⟨h.1, lies_prefix h.2⟩
set_option maxHeartbeats 8000000 in
theorem rShow4bd {x : ByteArray} {m : Int} {l : List Tree} {b : Tree} {a : Option Addr} {c : Nat} (w : World) (hl : Lies (· < w.heap.size) w (.node 4 x m (l ++ [b])) (.agg #[.int .i64 4, .string x, .int .i64 m, .slice a (l.length + 1) c])) (hk : ∀ t ∈ l, ShowOk t) (hsum : sum8 (showL l) ≤ 60000) (hk0 : ShowOk b) (z0' : (showT b).length ≤ 50000) (hx : x.size ≤ 1000) (h0 : 0 ≤ m) (h11 : m ≤ 11) (dp : decide (2 ≤ m % 4) = true) (d4 : decide (4 ≤ m) = true) :
    Calls Tryz.prog 15 #[.agg #[.int .i64 4, .string x, .int .i64 m, .slice a (l.length + 1) c]] w fun e w' => e = .returned (.string (sx (barR 4 x m (l ++ [b]) (showL (l ++ [b]))))) ∧ Below w.heap.size w w' := by
  have c24 : Tryz.prog.cellsOf 24 = 4 := by kernel_rfl
  obtain ⟨T0, hT0⟩ : ∃ T, T = sx (showT b) := ⟨_, rfl⟩
  have z0 : T0.size ≤ 50000 := by rw [hT0, sx_size]; exact z0'
  replace hT0 := (show Hid _ from hT0)
  obtain ⟨LB, hLB⟩ : ∃ L, L = sx (labR m) := ⟨_, rfl⟩
  have LBc : ∀ W1, Calls Tryz.prog 36 #[.int .i64 m] W1 fun e w' => e = .returned (.string LB) ∧ Below W1.heap.size W1 w' := fun W1 => by
    rw [hLB]
    exact (rLabelP m h0 W1).mono fun e w' h => ⟨h.1, by rw [h.2]; exact Below.refl _ _⟩
  replace LBc := (show Hid _ from LBc)
  have zL : LB.size ≤ 5 := by rw [hLB, sx_size]; exact lab_len m
  obtain ⟨RD, hRD⟩ : ∃ L, L = sx (roundR (showL l)) := ⟨_, rfl⟩
  have zR : RD.size ≤ 60004 := by rw [hRD, sx_size]; have := zround_len (showL l); omega
  replace hRD := (show Hid _ from hRD)
  obtain ⟨LG, hLG⟩ : ∃ L, L = sx (labR (m / 8)) := ⟨_, rfl⟩
  have zG : LG.size ≤ 5 := by rw [hLG, sx_size]; exact lab_len _
  have LGc := fun W1 => rLabelP (m / 8) (by omega) W1
  rw [← hLG] at LGc
  replace LGc := (show Hid _ from LGc)
  have HR : Hid (sx (barR 4 x m (l ++ [b]) (showL (l ++ [b]))) = (((((((((⟨#[112, 117, 98, 32, 112, 114, 111, 99, 32]⟩ : ByteArray) ++ x) ++ (⟨#[32]⟩ : ByteArray)) ++ RD) ++ (⟨#[32]⟩ : ByteArray)) ++ LB) ++ (⟨#[103, 105, 118, 101, 115, 32]⟩ : ByteArray)) ++ LG) ++ T0)) := by
    have hb1 : showL [b] = [showT b] := by rw [showL_cons, showL_nil]
    have e1 : (showL l ++ [showT b]).take ((showL l ++ [showT b]).length - 1) = showL l := by simp
    have e2 : (showL l ++ [showT b]).getD ((showL l ++ [showT b]).length - 1) [] = showT b := by simp
    rw [showL_app, hb1]
    show sx ((if 2 ≤ m % 4 then [112, 117, 98, 32] else []) ++ [112, 114, 111, 99, 32] ++ x.data.toList ++ [32] ++ roundR ((showL l ++ [showT b]).take ((showL l ++ [showT b]).length - 1)) ++ [32] ++ labR m ++ (if 4 ≤ m then [103, 105, 118, 101, 115, 32] ++ labR (m.tdiv 8) else []) ++ (showL l ++ [showT b]).getD ((showL l ++ [showT b]).length - 1) []) = _
    rw [e1, e2, if_pos (of_decide_eq_true dp), if_pos (of_decide_eq_true d4)]
    rw [← List.append_assoc, Int.tdiv_eq_ediv_of_nonneg h0]
    rw [← sx_app, ← sx_app, ← sx_app, ← sx_app, ← sx_app, ← sx_app, ← sx_app, ← sx_app, ← sx_app, sx_data, hLB, hT0.out, hRD.out, hLG]
    rfl
  generalize sx (barR 4 x m (l ++ [b]) (showL (l ++ [b]))) = R at *
  clear hLB z0' hLG
  unfold Lies at hl
  obtain ⟨a', c', e', ⟨hlen, hlc⟩, hat⟩ := hl
  simp only [List.length_append, List.length_cons, List.length_nil, Nat.zero_add] at e' hlen hlc
  simp only [Value.agg.injEq, Array.mk.injEq, List.cons.injEq, Value.slice.injEq, and_true, true_and] at e'
  obtain ⟨rfl, rfl⟩ := e'
  obtain ⟨g, o, rfl, hg, hat⟩ := hat (by simp)
  obtain ⟨v0, ⟨xa0, xb0, xc0, xd0, rfl, q00, q01, q02, q03⟩, l0⟩ := hat.get l.length (by simp)
  obtain ⟨xx0, mm0, aa0, nn0, cc0, rfl, rfl, rfl, rfl⟩ := lies_kind2 l0
  simp only [List.getElem_concat_length] at l0 q00
  generalize hkd0 : kindT b = kd0 at *
  have hrow : RowT w (.slice (some ⟨g, o, none⟩) l.length c) l := ⟨_, _, rfl, by omega, by omega, fun _ => ⟨g, o, rfl, hg, lies_prefix hat⟩⟩
  have RDc : ∀ W1, Below ((w.alloc (.cells #[.int .i64 4, .string x, .int .i64 m, .slice (some ⟨g, o, none⟩) (l.length + 1) c] 24)).drew).heap.size ((w.alloc (.cells #[.int .i64 4, .string x, .int .i64 m, .slice (some ⟨g, o, none⟩) (l.length + 1) c] 24)).drew) W1 → Calls Tryz.prog 37 #[.slice (some ⟨g, o, none⟩) l.length c] W1 fun e w' => e = .returned (.string RD) ∧ Below W1.heap.size W1 w' := fun W1 hb => by
    rw [hRD.out]
    exact rRoundP l hk hsum _ _ ((hrow.below (((Below.refl w.heap.size w).alloc (Nat.le_refl _) _).drew)).below hb)
  replace RDc := (show Hid _ from RDc)
  have kb : ∀ W0 W1, Below w.heap.size w W0 → Below W0.heap.size W0 W1 → Calls Tryz.prog 15 #[.agg #[.int .i64 kd0, .string xx0, .int .i64 mm0, .slice aa0 nn0 cc0]] W1 fun e w' => e = .returned (.string T0) ∧ Below W1.heap.size W1 w' := fun W0 W1 h1 h2 => by
    rw [hT0.out]
    exact hk0 _ _ (Lies.below (Lies.below l0 h1) h2)
  replace kb := (show Hid _ from kb)
  clear hk hsum hrow hat l0
  generalize l.length = N at *
  go_enter Tryz.func15, Tryz.ntmps15
  go_wp2
  have hbw : Below w.heap.size w (w.alloc (.cells #[.int .i64 4, .string x, .int .i64 m, .slice (some ⟨g, o, none⟩) (N + 1) c] 24)).drew := ((Below.refl w.heap.size w).alloc (Nat.le_refl _) (.cells #[.int .i64 4, .string x, .int .i64 m, .slice (some ⟨g, o, none⟩) (N + 1) c] 24)).drew
  obtain ⟨m0, m1, m2, m3, hW1, -⟩ := one_box ((Below.refl (w.heap.size + 1) (w.alloc (.cells #[.int .i64 4, .string x, .int .i64 m, .slice (some ⟨g, o, none⟩) (N + 1) c] 24))).drew)
  have K0 := (show Hid _ from fun W1 => kb.out _ W1 hbw)
  clear kb
  have r00 := (hbw.cell (p := ⟨g, o + N * 4, none⟩) hg).trans q00
  have r01 := (hbw.cell (p := ⟨g, o + N * 4 + 1, none⟩) hg).trans q01
  have r02 := (hbw.cell (p := ⟨g, o + N * 4 + 2, none⟩) hg).trans q02
  have r03 := (hbw.cell (p := ⟨g, o + N * 4 + 3, none⟩) hg).trans q03
  clear   q00 q01 q02 q03
  refine wp_region_held_drew (S := fun W => Below (w.alloc (.cells #[.int .i64 4, .string x, .int .i64 m, .slice (some ⟨g, o, none⟩) (N + 1) c] 24)).drew.heap.size (w.alloc (.cells #[.int .i64 4, .string x, .int .i64 m, .slice (some ⟨g, o, none⟩) (N + 1) c] 24)).drew W) (by kernel_rfl) (Below.refl _ _) (fun hS => ?_)
  generalize (w.alloc (.cells #[.int .i64 4, .string x, .int .i64 m, .slice (some ⟨g, o, none⟩) (N + 1) c] 24)).drew = W at *
  refine tkd (i := 0) (v := .string (⟨#[112, 117, 98, 32]⟩ : ByteArray)) rfl rfl (by kernel_rfl) (by kernel_rfl) (by kernel_rfl) (fun _ _ _ h => h) (Or.inl ⟨by rfl, fun wq hSw => by skip; go_simp⟩) hS ?_
  simp only [List.setIfInBounds_toArray, List.set_cons_zero, List.set_cons_succ]
  refine tkd (i := 2) (v := .pointer (some ⟨w.heap.size, 1, none⟩)) rfl rfl (by kernel_rfl) (by kernel_rfl) (by kernel_rfl) (fun _ _ _ h => h) (Or.inl ⟨by rfl, fun wq hSw => by skip; go_simp⟩) hS ?_
  simp only [List.setIfInBounds_toArray, List.set_cons_zero, List.set_cons_succ]
  refine tkd (i := 3) (v := .string x) rfl rfl (by kernel_rfl) (by kernel_rfl) (by kernel_rfl) (fun _ _ _ h => h) (Or.inl ⟨by rfl, fun wq hSw => by have q := pkeep m1 hSw; go_simp⟩) hS ?_
  simp only [List.setIfInBounds_toArray, List.set_cons_zero, List.set_cons_succ]
  refine tkd (i := 6) (v := .pointer (some ⟨w.heap.size, 3, none⟩)) rfl rfl (by kernel_rfl) (by kernel_rfl) (by kernel_rfl) (fun _ _ _ h => h) (Or.inl ⟨by rfl, fun wq hSw => by skip; go_simp⟩) hS ?_
  simp only [List.setIfInBounds_toArray, List.set_cons_zero, List.set_cons_succ]
  refine tkd (i := 7) (v := .slice (some ⟨g, o, none⟩) (N + 1) c) rfl rfl (by kernel_rfl) (by kernel_rfl) (by kernel_rfl) (fun _ _ _ h => h) (Or.inl ⟨by rfl, fun wq hSw => by have q := pkeep m3 hSw; go_simp⟩) hS ?_
  simp only [List.setIfInBounds_toArray, List.set_cons_zero, List.set_cons_succ]
  refine tkd (i := 8) (v := .int .i64 (N : Int)) rfl rfl (by kernel_rfl) (by kernel_rfl) (by kernel_rfl) (fun _ _ _ h => h) (Or.inl ⟨by rfl, fun wq hSw => by skip; go_simp⟩) hS ?_
  simp only [List.setIfInBounds_toArray, List.set_cons_zero, List.set_cons_succ]
  refine tkd (i := 9) (v := .slice (some ⟨g, o, none⟩) N c) rfl rfl (by kernel_rfl) (by kernel_rfl) (by kernel_rfl) (fun _ _ _ h => h) (Or.inl ⟨by rfl, fun wq hSw => by have hnc : ¬ c < N := (by omega); go_simp⟩) hS ?_
  simp only [List.setIfInBounds_toArray, List.set_cons_zero, List.set_cons_succ]
  refine tkd (i := 13) (v := .pointer (some ⟨w.heap.size, 2, none⟩)) rfl rfl (by kernel_rfl) (by kernel_rfl) (by kernel_rfl) (fun _ _ _ h => h) (Or.inl ⟨by rfl, fun wq hSw => by skip; go_simp⟩) hS ?_
  simp only [List.setIfInBounds_toArray, List.set_cons_zero, List.set_cons_succ]
  refine tkd (i := 14) (v := .int .i64 m) rfl rfl (by kernel_rfl) (by kernel_rfl) (by kernel_rfl) (fun _ _ _ h => h) (Or.inl ⟨by rfl, fun wq hSw => by have q := pkeep m2 hSw; go_simp⟩) hS ?_
  simp only [List.setIfInBounds_toArray, List.set_cons_zero, List.set_cons_succ]
  refine wpAnyH_lay [1, 4, 5, 10, 11, 12, 15, 16, 17] [(80, 1), (83, 4), (84, 5), (89, 10), (90, 11), (91, 12), (94, 15), (95, 16), (9, 17)] (fun i v W2 => match i with | 1 => v = .string (⟨#[112, 117, 98, 32, 112, 114, 111, 99, 32]⟩ : ByteArray) | 4 => v = .string ((⟨#[112, 117, 98, 32, 112, 114, 111, 99, 32]⟩ : ByteArray) ++ x) | 5 => v = .string (((⟨#[112, 117, 98, 32, 112, 114, 111, 99, 32]⟩ : ByteArray) ++ x) ++ (⟨#[32]⟩ : ByteArray)) | 10 => v = .string RD | 11 => v = .string ((((⟨#[112, 117, 98, 32, 112, 114, 111, 99, 32]⟩ : ByteArray) ++ x) ++ (⟨#[32]⟩ : ByteArray)) ++ RD) | 12 => v = .string (((((⟨#[112, 117, 98, 32, 112, 114, 111, 99, 32]⟩ : ByteArray) ++ x) ++ (⟨#[32]⟩ : ByteArray)) ++ RD) ++ (⟨#[32]⟩ : ByteArray)) | 15 => v = .string LB | 16 => v = .string ((((((⟨#[112, 117, 98, 32, 112, 114, 111, 99, 32]⟩ : ByteArray) ++ x) ++ (⟨#[32]⟩ : ByteArray)) ++ RD) ++ (⟨#[32]⟩ : ByteArray)) ++ LB) | _ => v = .string ((((((⟨#[112, 117, 98, 32, 112, 114, 111, 99, 32]⟩ : ByteArray) ++ x) ++ (⟨#[32]⟩ : ByteArray)) ++ RD) ++ (⟨#[32]⟩ : ByteArray)) ++ LB)) (by kernel_rfl) (by rfl) (by kernel_rfl) (by decide) (by kernel_rfl) hS ?_ ?_ ?_
  · intro j v W1 W2 hb h
    split at h
    all_goals first | exact h | exact h.below hb
  · skip
    refine Steps.consK [] rfl trivial (fun U W1 hS1 hR K hK => ?_) ?_
    · skip
      simp only [layS, putK, List.foldr, List.foldl, List.setIfInBounds_toArray, List.set_cons_zero, List.set_cons_succ, reduceIte, Nat.reduceEqDiff]
      go_simp
      skip
      skip
      have hk := hK.out (.string (⟨#[112, 117, 98, 32, 112, 114, 111, 99, 32]⟩ : ByteArray)) W1 hS1 (Below.refl _ _) rfl
      simp only [layS, putK, List.foldr, List.foldl, List.setIfInBounds_toArray, List.set_cons_zero, List.set_cons_succ, reduceIte, Nat.reduceEqDiff] at hk
      exact hk
    refine Steps.consK [(1, .string (⟨#[112, 117, 98, 32, 112, 114, 111, 99, 32]⟩ : ByteArray))] rfl ⟨⟨by kernel_rfl, fun _ _ h => h⟩, trivial⟩ (fun U W1 hS1 hR K hK => ?_) ?_
    · skip
      simp only [layS, putK, List.foldr, List.foldl, List.setIfInBounds_toArray, List.set_cons_zero, List.set_cons_succ, reduceIte, Nat.reduceEqDiff]
      go_simp
      rw [if_neg (by first | omega | (simp only [ByteArray.size_append]; omega))]
      go_simp
      have hk := hK.out (.string ((⟨#[112, 117, 98, 32, 112, 114, 111, 99, 32]⟩ : ByteArray) ++ x)) W1 hS1 (Below.refl _ _) rfl
      simp only [layS, putK, List.foldr, List.foldl, List.setIfInBounds_toArray, List.set_cons_zero, List.set_cons_succ, reduceIte, Nat.reduceEqDiff] at hk
      exact hk
    refine Steps.consK [(4, .string ((⟨#[112, 117, 98, 32, 112, 114, 111, 99, 32]⟩ : ByteArray) ++ x))] rfl ⟨⟨by kernel_rfl, fun _ _ h => h⟩, trivial⟩ (fun U W1 hS1 hR K hK => ?_) ?_
    · skip
      simp only [layS, putK, List.foldr, List.foldl, List.setIfInBounds_toArray, List.set_cons_zero, List.set_cons_succ, reduceIte, Nat.reduceEqDiff]
      go_simp
      rw [if_neg (by first | omega | (simp only [ByteArray.size_append]; omega))]
      go_simp
      have hk := hK.out (.string (((⟨#[112, 117, 98, 32, 112, 114, 111, 99, 32]⟩ : ByteArray) ++ x) ++ (⟨#[32]⟩ : ByteArray))) W1 hS1 (Below.refl _ _) rfl
      simp only [layS, putK, List.foldr, List.foldl, List.setIfInBounds_toArray, List.set_cons_zero, List.set_cons_succ, reduceIte, Nat.reduceEqDiff] at hk
      exact hk
    refine Steps.consK [] rfl trivial (fun U W1 hS1 hR K hK => ?_) ?_
    · skip
      have hcc := RDc.out W1 hS1
      simp only [layS, putK, List.foldr, List.foldl, List.setIfInBounds_toArray, List.set_cons_zero, List.set_cons_succ, reduceIte, Nat.reduceEqDiff]
      go_simp
      go_at_call 37
      refine hcc.mono ?_
      rintro e W2 ⟨rfl, hb⟩
      go_wp2
      have hk := hK.out (.string RD) W2 (hS1.trans (hb.mono hS1.size)) hb rfl
      simp only [layS, putK, List.foldr, List.foldl, List.setIfInBounds_toArray, List.set_cons_zero, List.set_cons_succ, reduceIte, Nat.reduceEqDiff] at hk
      exact hk
    refine Steps.consK [(5, .string (((⟨#[112, 117, 98, 32, 112, 114, 111, 99, 32]⟩ : ByteArray) ++ x) ++ (⟨#[32]⟩ : ByteArray))), (10, .string RD)] rfl ⟨⟨by kernel_rfl, fun _ _ h => h⟩, ⟨by kernel_rfl, fun _ _ h => h⟩, trivial⟩ (fun U W1 hS1 hR K hK => ?_) ?_
    · skip
      simp only [layS, putK, List.foldr, List.foldl, List.setIfInBounds_toArray, List.set_cons_zero, List.set_cons_succ, reduceIte, Nat.reduceEqDiff]
      go_simp
      rw [if_neg (by first | omega | (simp only [ByteArray.size_append]; omega))]
      go_simp
      have hk := hK.out (.string ((((⟨#[112, 117, 98, 32, 112, 114, 111, 99, 32]⟩ : ByteArray) ++ x) ++ (⟨#[32]⟩ : ByteArray)) ++ RD)) W1 hS1 (Below.refl _ _) rfl
      simp only [layS, putK, List.foldr, List.foldl, List.setIfInBounds_toArray, List.set_cons_zero, List.set_cons_succ, reduceIte, Nat.reduceEqDiff] at hk
      exact hk
    refine Steps.consK [(11, .string ((((⟨#[112, 117, 98, 32, 112, 114, 111, 99, 32]⟩ : ByteArray) ++ x) ++ (⟨#[32]⟩ : ByteArray)) ++ RD))] rfl ⟨⟨by kernel_rfl, fun _ _ h => h⟩, trivial⟩ (fun U W1 hS1 hR K hK => ?_) ?_
    · skip
      simp only [layS, putK, List.foldr, List.foldl, List.setIfInBounds_toArray, List.set_cons_zero, List.set_cons_succ, reduceIte, Nat.reduceEqDiff]
      go_simp
      rw [if_neg (by first | omega | (simp only [ByteArray.size_append]; omega))]
      go_simp
      have hk := hK.out (.string (((((⟨#[112, 117, 98, 32, 112, 114, 111, 99, 32]⟩ : ByteArray) ++ x) ++ (⟨#[32]⟩ : ByteArray)) ++ RD) ++ (⟨#[32]⟩ : ByteArray))) W1 hS1 (Below.refl _ _) rfl
      simp only [layS, putK, List.foldr, List.foldl, List.setIfInBounds_toArray, List.set_cons_zero, List.set_cons_succ, reduceIte, Nat.reduceEqDiff] at hk
      exact hk
    refine Steps.consK [] rfl trivial (fun U W1 hS1 hR K hK => ?_) ?_
    · skip
      have hcc := LBc.out W1
      simp only [layS, putK, List.foldr, List.foldl, List.setIfInBounds_toArray, List.set_cons_zero, List.set_cons_succ, reduceIte, Nat.reduceEqDiff]
      go_simp
      go_at_call 36
      refine hcc.mono ?_
      rintro e W2 ⟨rfl, hb⟩
      go_wp2
      have hk := hK.out (.string LB) W2 (hS1.trans (hb.mono hS1.size)) hb rfl
      simp only [layS, putK, List.foldr, List.foldl, List.setIfInBounds_toArray, List.set_cons_zero, List.set_cons_succ, reduceIte, Nat.reduceEqDiff] at hk
      exact hk
    refine Steps.consK [(12, .string (((((⟨#[112, 117, 98, 32, 112, 114, 111, 99, 32]⟩ : ByteArray) ++ x) ++ (⟨#[32]⟩ : ByteArray)) ++ RD) ++ (⟨#[32]⟩ : ByteArray))), (15, .string LB)] rfl ⟨⟨by kernel_rfl, fun _ _ h => h⟩, ⟨by kernel_rfl, fun _ _ h => h⟩, trivial⟩ (fun U W1 hS1 hR K hK => ?_) ?_
    · skip
      simp only [layS, putK, List.foldr, List.foldl, List.setIfInBounds_toArray, List.set_cons_zero, List.set_cons_succ, reduceIte, Nat.reduceEqDiff]
      go_simp
      rw [if_neg (by first | omega | (simp only [ByteArray.size_append]; omega))]
      go_simp
      have hk := hK.out (.string ((((((⟨#[112, 117, 98, 32, 112, 114, 111, 99, 32]⟩ : ByteArray) ++ x) ++ (⟨#[32]⟩ : ByteArray)) ++ RD) ++ (⟨#[32]⟩ : ByteArray)) ++ LB)) W1 hS1 (Below.refl _ _) rfl
      simp only [layS, putK, List.foldr, List.foldl, List.setIfInBounds_toArray, List.set_cons_zero, List.set_cons_succ, reduceIte, Nat.reduceEqDiff] at hk
      exact hk
    refine Steps.consK [(16, .string ((((((⟨#[112, 117, 98, 32, 112, 114, 111, 99, 32]⟩ : ByteArray) ++ x) ++ (⟨#[32]⟩ : ByteArray)) ++ RD) ++ (⟨#[32]⟩ : ByteArray)) ++ LB))] rfl ⟨⟨by kernel_rfl, fun _ _ h => h⟩, trivial⟩ (fun U W1 hS1 hR K hK => ?_) Steps.nil
    · skip
      simp only [layS, putK, List.foldr, List.foldl, List.setIfInBounds_toArray, List.set_cons_zero, List.set_cons_succ, reduceIte, Nat.reduceEqDiff]
      go_simp
      have hk := hK.out (.string ((((((⟨#[112, 117, 98, 32, 112, 114, 111, 99, 32]⟩ : ByteArray) ++ x) ++ (⟨#[32]⟩ : ByteArray)) ++ RD) ++ (⟨#[32]⟩ : ByteArray)) ++ LB)) W1 hS1 (Below.refl _ _) rfl
      simp only [layS, putK, List.foldr, List.foldl, List.setIfInBounds_toArray, List.set_cons_zero, List.set_cons_succ, reduceIte, Nat.reduceEqDiff] at hk
      exact hk
  · intro U W1 hS1 hR
    have hdd : U 17 = .string ((((((⟨#[112, 117, 98, 32, 112, 114, 111, 99, 32]⟩ : ByteArray) ++ x) ++ (⟨#[32]⟩ : ByteArray)) ++ RD) ++ (⟨#[32]⟩ : ByteArray)) ++ LB) := hR 17 (by simp)
    simp only [layS, putK, List.foldr, List.foldl, List.setIfInBounds_toArray, List.set_cons_zero, List.set_cons_succ, reduceIte, Nat.reduceEqDiff]
    rw [hdd]
    clear hdd hR
    have zE : ((((((⟨#[112, 117, 98, 32, 112, 114, 111, 99, 32]⟩ : ByteArray) ++ x) ++ (⟨#[32]⟩ : ByteArray)) ++ RD) ++ (⟨#[32]⟩ : ByteArray)) ++ LB).size ≤ 62000 := by simp only [ByteArray.size_append]; have e1 : (⟨#[112, 117, 98, 32, 112, 114, 111, 99, 32]⟩ : ByteArray).size ≤ 9 := (by decide); have e3 : (⟨#[32]⟩ : ByteArray).size = 1 := rfl; omega
    generalize ((((((⟨#[112, 117, 98, 32, 112, 114, 111, 99, 32]⟩ : ByteArray) ++ x) ++ (⟨#[32]⟩ : ByteArray)) ++ RD) ++ (⟨#[32]⟩ : ByteArray)) ++ LB) = E at *
    have s3 : w.heap.size < W1.heap.size := by have := hS1.size; omega
    have q22 := pkeep m2 hS1
    have q23 := pkeep m3 hS1
    have K0' := K0.out W1 hS1
    have r00' := pkeep r00 hS1
    have r01' := pkeep r01 hS1
    have r02' := pkeep r02 hS1
    have r03' := pkeep r03 hS1
    clear m0 m1 m2 m3 r00 r01 r02 r03
    have e3 : (E ++ (⟨#[103, 105, 118, 101, 115, 32]⟩ : ByteArray)).size = E.size + 6 := ByteArray.size_append
    have e4 : ((E ++ (⟨#[103, 105, 118, 101, 115, 32]⟩ : ByteArray)) ++ LG).size = (E ++ (⟨#[103, 105, 118, 101, 115, 32]⟩ : ByteArray)).size + LG.size := ByteArray.size_append
    have e5 : (((E ++ (⟨#[103, 105, 118, 101, 115, 32]⟩ : ByteArray)) ++ LG) ++ T0).size = ((E ++ (⟨#[103, 105, 118, 101, 115, 32]⟩ : ByteArray)) ++ LG).size + T0.size := ByteArray.size_append
    go_wp2_with first
      | (go_at_call 36; refine (LGc.out _).mono ?_; rintro e w8 ⟨rfl, rfl⟩)
      | (go_at_call 15; refine K0'.mono ?_; rintro e w9 ⟨rfl, hb9⟩)
    go_ret
    exact ⟨by rw [HR.out]; rfl, (hbw.trans (hS1.mono hbw.size)).trans (hb9.mono (Nat.le_trans hbw.size hS1.size))⟩
set_option maxHeartbeats 8000000 in
theorem rShow4bc {x : ByteArray} {m : Int} {l : List Tree} {b : Tree} {a : Option Addr} {c : Nat} (w : World) (hl : Lies (· < w.heap.size) w (.node 4 x m (l ++ [b])) (.agg #[.int .i64 4, .string x, .int .i64 m, .slice a (l.length + 1) c])) (hk : ∀ t ∈ l, ShowOk t) (hsum : sum8 (showL l) ≤ 60000) (hk0 : ShowOk b) (z0' : (showT b).length ≤ 50000) (hx : x.size ≤ 1000) (h0 : 0 ≤ m) (h11 : m ≤ 11) (dp : decide (2 ≤ m % 4) = true) (d4 : decide (4 ≤ m) = false) :
    Calls Tryz.prog 15 #[.agg #[.int .i64 4, .string x, .int .i64 m, .slice a (l.length + 1) c]] w fun e w' => e = .returned (.string (sx (barR 4 x m (l ++ [b]) (showL (l ++ [b]))))) ∧ Below w.heap.size w w' := by
  have c24 : Tryz.prog.cellsOf 24 = 4 := by kernel_rfl
  obtain ⟨T0, hT0⟩ : ∃ T, T = sx (showT b) := ⟨_, rfl⟩
  have z0 : T0.size ≤ 50000 := by rw [hT0, sx_size]; exact z0'
  replace hT0 := (show Hid _ from hT0)
  obtain ⟨LB, hLB⟩ : ∃ L, L = sx (labR m) := ⟨_, rfl⟩
  have LBc : ∀ W1, Calls Tryz.prog 36 #[.int .i64 m] W1 fun e w' => e = .returned (.string LB) ∧ Below W1.heap.size W1 w' := fun W1 => by
    rw [hLB]
    exact (rLabelP m h0 W1).mono fun e w' h => ⟨h.1, by rw [h.2]; exact Below.refl _ _⟩
  replace LBc := (show Hid _ from LBc)
  have zL : LB.size ≤ 5 := by rw [hLB, sx_size]; exact lab_len m
  obtain ⟨RD, hRD⟩ : ∃ L, L = sx (roundR (showL l)) := ⟨_, rfl⟩
  have zR : RD.size ≤ 60004 := by rw [hRD, sx_size]; have := zround_len (showL l); omega
  replace hRD := (show Hid _ from hRD)
  have HR : Hid (sx (barR 4 x m (l ++ [b]) (showL (l ++ [b]))) = (((((((⟨#[112, 117, 98, 32, 112, 114, 111, 99, 32]⟩ : ByteArray) ++ x) ++ (⟨#[32]⟩ : ByteArray)) ++ RD) ++ (⟨#[32]⟩ : ByteArray)) ++ LB) ++ T0)) := by
    have hb1 : showL [b] = [showT b] := by rw [showL_cons, showL_nil]
    have e1 : (showL l ++ [showT b]).take ((showL l ++ [showT b]).length - 1) = showL l := by simp
    have e2 : (showL l ++ [showT b]).getD ((showL l ++ [showT b]).length - 1) [] = showT b := by simp
    rw [showL_app, hb1]
    show sx ((if 2 ≤ m % 4 then [112, 117, 98, 32] else []) ++ [112, 114, 111, 99, 32] ++ x.data.toList ++ [32] ++ roundR ((showL l ++ [showT b]).take ((showL l ++ [showT b]).length - 1)) ++ [32] ++ labR m ++ (if 4 ≤ m then [103, 105, 118, 101, 115, 32] ++ labR (m.tdiv 8) else []) ++ (showL l ++ [showT b]).getD ((showL l ++ [showT b]).length - 1) []) = _
    rw [e1, e2, if_pos (of_decide_eq_true dp), if_neg (of_decide_eq_false d4)]
    rw [List.append_nil]
    rw [← sx_app, ← sx_app, ← sx_app, ← sx_app, ← sx_app, ← sx_app, ← sx_app, sx_data, hLB, hT0.out, hRD.out]
    rfl
  generalize sx (barR 4 x m (l ++ [b]) (showL (l ++ [b]))) = R at *
  clear hLB z0' 
  unfold Lies at hl
  obtain ⟨a', c', e', ⟨hlen, hlc⟩, hat⟩ := hl
  simp only [List.length_append, List.length_cons, List.length_nil, Nat.zero_add] at e' hlen hlc
  simp only [Value.agg.injEq, Array.mk.injEq, List.cons.injEq, Value.slice.injEq, and_true, true_and] at e'
  obtain ⟨rfl, rfl⟩ := e'
  obtain ⟨g, o, rfl, hg, hat⟩ := hat (by simp)
  obtain ⟨v0, ⟨xa0, xb0, xc0, xd0, rfl, q00, q01, q02, q03⟩, l0⟩ := hat.get l.length (by simp)
  obtain ⟨xx0, mm0, aa0, nn0, cc0, rfl, rfl, rfl, rfl⟩ := lies_kind2 l0
  simp only [List.getElem_concat_length] at l0 q00
  generalize hkd0 : kindT b = kd0 at *
  have hrow : RowT w (.slice (some ⟨g, o, none⟩) l.length c) l := ⟨_, _, rfl, by omega, by omega, fun _ => ⟨g, o, rfl, hg, lies_prefix hat⟩⟩
  have RDc : ∀ W1, Below ((w.alloc (.cells #[.int .i64 4, .string x, .int .i64 m, .slice (some ⟨g, o, none⟩) (l.length + 1) c] 24)).drew).heap.size ((w.alloc (.cells #[.int .i64 4, .string x, .int .i64 m, .slice (some ⟨g, o, none⟩) (l.length + 1) c] 24)).drew) W1 → Calls Tryz.prog 37 #[.slice (some ⟨g, o, none⟩) l.length c] W1 fun e w' => e = .returned (.string RD) ∧ Below W1.heap.size W1 w' := fun W1 hb => by
    rw [hRD.out]
    exact rRoundP l hk hsum _ _ ((hrow.below (((Below.refl w.heap.size w).alloc (Nat.le_refl _) _).drew)).below hb)
  replace RDc := (show Hid _ from RDc)
  have kb : ∀ W0 W1, Below w.heap.size w W0 → Below W0.heap.size W0 W1 → Calls Tryz.prog 15 #[.agg #[.int .i64 kd0, .string xx0, .int .i64 mm0, .slice aa0 nn0 cc0]] W1 fun e w' => e = .returned (.string T0) ∧ Below W1.heap.size W1 w' := fun W0 W1 h1 h2 => by
    rw [hT0.out]
    exact hk0 _ _ (Lies.below (Lies.below l0 h1) h2)
  replace kb := (show Hid _ from kb)
  clear hk hsum hrow hat l0
  generalize l.length = N at *
  go_enter Tryz.func15, Tryz.ntmps15
  go_wp2
  have hbw : Below w.heap.size w (w.alloc (.cells #[.int .i64 4, .string x, .int .i64 m, .slice (some ⟨g, o, none⟩) (N + 1) c] 24)).drew := ((Below.refl w.heap.size w).alloc (Nat.le_refl _) (.cells #[.int .i64 4, .string x, .int .i64 m, .slice (some ⟨g, o, none⟩) (N + 1) c] 24)).drew
  obtain ⟨m0, m1, m2, m3, hW1, -⟩ := one_box ((Below.refl (w.heap.size + 1) (w.alloc (.cells #[.int .i64 4, .string x, .int .i64 m, .slice (some ⟨g, o, none⟩) (N + 1) c] 24))).drew)
  have K0 := (show Hid _ from fun W1 => kb.out _ W1 hbw)
  clear kb
  have r00 := (hbw.cell (p := ⟨g, o + N * 4, none⟩) hg).trans q00
  have r01 := (hbw.cell (p := ⟨g, o + N * 4 + 1, none⟩) hg).trans q01
  have r02 := (hbw.cell (p := ⟨g, o + N * 4 + 2, none⟩) hg).trans q02
  have r03 := (hbw.cell (p := ⟨g, o + N * 4 + 3, none⟩) hg).trans q03
  clear   q00 q01 q02 q03
  refine wp_region_held_drew (S := fun W => Below (w.alloc (.cells #[.int .i64 4, .string x, .int .i64 m, .slice (some ⟨g, o, none⟩) (N + 1) c] 24)).drew.heap.size (w.alloc (.cells #[.int .i64 4, .string x, .int .i64 m, .slice (some ⟨g, o, none⟩) (N + 1) c] 24)).drew W) (by kernel_rfl) (Below.refl _ _) (fun hS => ?_)
  generalize (w.alloc (.cells #[.int .i64 4, .string x, .int .i64 m, .slice (some ⟨g, o, none⟩) (N + 1) c] 24)).drew = W at *
  refine tkd (i := 0) (v := .string (⟨#[112, 117, 98, 32]⟩ : ByteArray)) rfl rfl (by kernel_rfl) (by kernel_rfl) (by kernel_rfl) (fun _ _ _ h => h) (Or.inl ⟨by rfl, fun wq hSw => by skip; go_simp⟩) hS ?_
  simp only [List.setIfInBounds_toArray, List.set_cons_zero, List.set_cons_succ]
  refine tkd (i := 2) (v := .pointer (some ⟨w.heap.size, 1, none⟩)) rfl rfl (by kernel_rfl) (by kernel_rfl) (by kernel_rfl) (fun _ _ _ h => h) (Or.inl ⟨by rfl, fun wq hSw => by skip; go_simp⟩) hS ?_
  simp only [List.setIfInBounds_toArray, List.set_cons_zero, List.set_cons_succ]
  refine tkd (i := 3) (v := .string x) rfl rfl (by kernel_rfl) (by kernel_rfl) (by kernel_rfl) (fun _ _ _ h => h) (Or.inl ⟨by rfl, fun wq hSw => by have q := pkeep m1 hSw; go_simp⟩) hS ?_
  simp only [List.setIfInBounds_toArray, List.set_cons_zero, List.set_cons_succ]
  refine tkd (i := 6) (v := .pointer (some ⟨w.heap.size, 3, none⟩)) rfl rfl (by kernel_rfl) (by kernel_rfl) (by kernel_rfl) (fun _ _ _ h => h) (Or.inl ⟨by rfl, fun wq hSw => by skip; go_simp⟩) hS ?_
  simp only [List.setIfInBounds_toArray, List.set_cons_zero, List.set_cons_succ]
  refine tkd (i := 7) (v := .slice (some ⟨g, o, none⟩) (N + 1) c) rfl rfl (by kernel_rfl) (by kernel_rfl) (by kernel_rfl) (fun _ _ _ h => h) (Or.inl ⟨by rfl, fun wq hSw => by have q := pkeep m3 hSw; go_simp⟩) hS ?_
  simp only [List.setIfInBounds_toArray, List.set_cons_zero, List.set_cons_succ]
  refine tkd (i := 8) (v := .int .i64 (N : Int)) rfl rfl (by kernel_rfl) (by kernel_rfl) (by kernel_rfl) (fun _ _ _ h => h) (Or.inl ⟨by rfl, fun wq hSw => by skip; go_simp⟩) hS ?_
  simp only [List.setIfInBounds_toArray, List.set_cons_zero, List.set_cons_succ]
  refine tkd (i := 9) (v := .slice (some ⟨g, o, none⟩) N c) rfl rfl (by kernel_rfl) (by kernel_rfl) (by kernel_rfl) (fun _ _ _ h => h) (Or.inl ⟨by rfl, fun wq hSw => by have hnc : ¬ c < N := (by omega); go_simp⟩) hS ?_
  simp only [List.setIfInBounds_toArray, List.set_cons_zero, List.set_cons_succ]
  refine tkd (i := 13) (v := .pointer (some ⟨w.heap.size, 2, none⟩)) rfl rfl (by kernel_rfl) (by kernel_rfl) (by kernel_rfl) (fun _ _ _ h => h) (Or.inl ⟨by rfl, fun wq hSw => by skip; go_simp⟩) hS ?_
  simp only [List.setIfInBounds_toArray, List.set_cons_zero, List.set_cons_succ]
  refine tkd (i := 14) (v := .int .i64 m) rfl rfl (by kernel_rfl) (by kernel_rfl) (by kernel_rfl) (fun _ _ _ h => h) (Or.inl ⟨by rfl, fun wq hSw => by have q := pkeep m2 hSw; go_simp⟩) hS ?_
  simp only [List.setIfInBounds_toArray, List.set_cons_zero, List.set_cons_succ]
  refine wpAnyH_lay [1, 4, 5, 10, 11, 12, 15, 16, 17] [(80, 1), (83, 4), (84, 5), (89, 10), (90, 11), (91, 12), (94, 15), (95, 16), (9, 17)] (fun i v W2 => match i with | 1 => v = .string (⟨#[112, 117, 98, 32, 112, 114, 111, 99, 32]⟩ : ByteArray) | 4 => v = .string ((⟨#[112, 117, 98, 32, 112, 114, 111, 99, 32]⟩ : ByteArray) ++ x) | 5 => v = .string (((⟨#[112, 117, 98, 32, 112, 114, 111, 99, 32]⟩ : ByteArray) ++ x) ++ (⟨#[32]⟩ : ByteArray)) | 10 => v = .string RD | 11 => v = .string ((((⟨#[112, 117, 98, 32, 112, 114, 111, 99, 32]⟩ : ByteArray) ++ x) ++ (⟨#[32]⟩ : ByteArray)) ++ RD) | 12 => v = .string (((((⟨#[112, 117, 98, 32, 112, 114, 111, 99, 32]⟩ : ByteArray) ++ x) ++ (⟨#[32]⟩ : ByteArray)) ++ RD) ++ (⟨#[32]⟩ : ByteArray)) | 15 => v = .string LB | 16 => v = .string ((((((⟨#[112, 117, 98, 32, 112, 114, 111, 99, 32]⟩ : ByteArray) ++ x) ++ (⟨#[32]⟩ : ByteArray)) ++ RD) ++ (⟨#[32]⟩ : ByteArray)) ++ LB) | _ => v = .string ((((((⟨#[112, 117, 98, 32, 112, 114, 111, 99, 32]⟩ : ByteArray) ++ x) ++ (⟨#[32]⟩ : ByteArray)) ++ RD) ++ (⟨#[32]⟩ : ByteArray)) ++ LB)) (by kernel_rfl) (by rfl) (by kernel_rfl) (by decide) (by kernel_rfl) hS ?_ ?_ ?_
  · intro j v W1 W2 hb h
    split at h
    all_goals first | exact h | exact h.below hb
  · skip
    refine Steps.consK [] rfl trivial (fun U W1 hS1 hR K hK => ?_) ?_
    · skip
      simp only [layS, putK, List.foldr, List.foldl, List.setIfInBounds_toArray, List.set_cons_zero, List.set_cons_succ, reduceIte, Nat.reduceEqDiff]
      go_simp
      skip
      skip
      have hk := hK.out (.string (⟨#[112, 117, 98, 32, 112, 114, 111, 99, 32]⟩ : ByteArray)) W1 hS1 (Below.refl _ _) rfl
      simp only [layS, putK, List.foldr, List.foldl, List.setIfInBounds_toArray, List.set_cons_zero, List.set_cons_succ, reduceIte, Nat.reduceEqDiff] at hk
      exact hk
    refine Steps.consK [(1, .string (⟨#[112, 117, 98, 32, 112, 114, 111, 99, 32]⟩ : ByteArray))] rfl ⟨⟨by kernel_rfl, fun _ _ h => h⟩, trivial⟩ (fun U W1 hS1 hR K hK => ?_) ?_
    · skip
      simp only [layS, putK, List.foldr, List.foldl, List.setIfInBounds_toArray, List.set_cons_zero, List.set_cons_succ, reduceIte, Nat.reduceEqDiff]
      go_simp
      rw [if_neg (by first | omega | (simp only [ByteArray.size_append]; omega))]
      go_simp
      have hk := hK.out (.string ((⟨#[112, 117, 98, 32, 112, 114, 111, 99, 32]⟩ : ByteArray) ++ x)) W1 hS1 (Below.refl _ _) rfl
      simp only [layS, putK, List.foldr, List.foldl, List.setIfInBounds_toArray, List.set_cons_zero, List.set_cons_succ, reduceIte, Nat.reduceEqDiff] at hk
      exact hk
    refine Steps.consK [(4, .string ((⟨#[112, 117, 98, 32, 112, 114, 111, 99, 32]⟩ : ByteArray) ++ x))] rfl ⟨⟨by kernel_rfl, fun _ _ h => h⟩, trivial⟩ (fun U W1 hS1 hR K hK => ?_) ?_
    · skip
      simp only [layS, putK, List.foldr, List.foldl, List.setIfInBounds_toArray, List.set_cons_zero, List.set_cons_succ, reduceIte, Nat.reduceEqDiff]
      go_simp
      rw [if_neg (by first | omega | (simp only [ByteArray.size_append]; omega))]
      go_simp
      have hk := hK.out (.string (((⟨#[112, 117, 98, 32, 112, 114, 111, 99, 32]⟩ : ByteArray) ++ x) ++ (⟨#[32]⟩ : ByteArray))) W1 hS1 (Below.refl _ _) rfl
      simp only [layS, putK, List.foldr, List.foldl, List.setIfInBounds_toArray, List.set_cons_zero, List.set_cons_succ, reduceIte, Nat.reduceEqDiff] at hk
      exact hk
    refine Steps.consK [] rfl trivial (fun U W1 hS1 hR K hK => ?_) ?_
    · skip
      have hcc := RDc.out W1 hS1
      simp only [layS, putK, List.foldr, List.foldl, List.setIfInBounds_toArray, List.set_cons_zero, List.set_cons_succ, reduceIte, Nat.reduceEqDiff]
      go_simp
      go_at_call 37
      refine hcc.mono ?_
      rintro e W2 ⟨rfl, hb⟩
      go_wp2
      have hk := hK.out (.string RD) W2 (hS1.trans (hb.mono hS1.size)) hb rfl
      simp only [layS, putK, List.foldr, List.foldl, List.setIfInBounds_toArray, List.set_cons_zero, List.set_cons_succ, reduceIte, Nat.reduceEqDiff] at hk
      exact hk
    refine Steps.consK [(5, .string (((⟨#[112, 117, 98, 32, 112, 114, 111, 99, 32]⟩ : ByteArray) ++ x) ++ (⟨#[32]⟩ : ByteArray))), (10, .string RD)] rfl ⟨⟨by kernel_rfl, fun _ _ h => h⟩, ⟨by kernel_rfl, fun _ _ h => h⟩, trivial⟩ (fun U W1 hS1 hR K hK => ?_) ?_
    · skip
      simp only [layS, putK, List.foldr, List.foldl, List.setIfInBounds_toArray, List.set_cons_zero, List.set_cons_succ, reduceIte, Nat.reduceEqDiff]
      go_simp
      rw [if_neg (by first | omega | (simp only [ByteArray.size_append]; omega))]
      go_simp
      have hk := hK.out (.string ((((⟨#[112, 117, 98, 32, 112, 114, 111, 99, 32]⟩ : ByteArray) ++ x) ++ (⟨#[32]⟩ : ByteArray)) ++ RD)) W1 hS1 (Below.refl _ _) rfl
      simp only [layS, putK, List.foldr, List.foldl, List.setIfInBounds_toArray, List.set_cons_zero, List.set_cons_succ, reduceIte, Nat.reduceEqDiff] at hk
      exact hk
    refine Steps.consK [(11, .string ((((⟨#[112, 117, 98, 32, 112, 114, 111, 99, 32]⟩ : ByteArray) ++ x) ++ (⟨#[32]⟩ : ByteArray)) ++ RD))] rfl ⟨⟨by kernel_rfl, fun _ _ h => h⟩, trivial⟩ (fun U W1 hS1 hR K hK => ?_) ?_
    · skip
      simp only [layS, putK, List.foldr, List.foldl, List.setIfInBounds_toArray, List.set_cons_zero, List.set_cons_succ, reduceIte, Nat.reduceEqDiff]
      go_simp
      rw [if_neg (by first | omega | (simp only [ByteArray.size_append]; omega))]
      go_simp
      have hk := hK.out (.string (((((⟨#[112, 117, 98, 32, 112, 114, 111, 99, 32]⟩ : ByteArray) ++ x) ++ (⟨#[32]⟩ : ByteArray)) ++ RD) ++ (⟨#[32]⟩ : ByteArray))) W1 hS1 (Below.refl _ _) rfl
      simp only [layS, putK, List.foldr, List.foldl, List.setIfInBounds_toArray, List.set_cons_zero, List.set_cons_succ, reduceIte, Nat.reduceEqDiff] at hk
      exact hk
    refine Steps.consK [] rfl trivial (fun U W1 hS1 hR K hK => ?_) ?_
    · skip
      have hcc := LBc.out W1
      simp only [layS, putK, List.foldr, List.foldl, List.setIfInBounds_toArray, List.set_cons_zero, List.set_cons_succ, reduceIte, Nat.reduceEqDiff]
      go_simp
      go_at_call 36
      refine hcc.mono ?_
      rintro e W2 ⟨rfl, hb⟩
      go_wp2
      have hk := hK.out (.string LB) W2 (hS1.trans (hb.mono hS1.size)) hb rfl
      simp only [layS, putK, List.foldr, List.foldl, List.setIfInBounds_toArray, List.set_cons_zero, List.set_cons_succ, reduceIte, Nat.reduceEqDiff] at hk
      exact hk
    refine Steps.consK [(12, .string (((((⟨#[112, 117, 98, 32, 112, 114, 111, 99, 32]⟩ : ByteArray) ++ x) ++ (⟨#[32]⟩ : ByteArray)) ++ RD) ++ (⟨#[32]⟩ : ByteArray))), (15, .string LB)] rfl ⟨⟨by kernel_rfl, fun _ _ h => h⟩, ⟨by kernel_rfl, fun _ _ h => h⟩, trivial⟩ (fun U W1 hS1 hR K hK => ?_) ?_
    · skip
      simp only [layS, putK, List.foldr, List.foldl, List.setIfInBounds_toArray, List.set_cons_zero, List.set_cons_succ, reduceIte, Nat.reduceEqDiff]
      go_simp
      rw [if_neg (by first | omega | (simp only [ByteArray.size_append]; omega))]
      go_simp
      have hk := hK.out (.string ((((((⟨#[112, 117, 98, 32, 112, 114, 111, 99, 32]⟩ : ByteArray) ++ x) ++ (⟨#[32]⟩ : ByteArray)) ++ RD) ++ (⟨#[32]⟩ : ByteArray)) ++ LB)) W1 hS1 (Below.refl _ _) rfl
      simp only [layS, putK, List.foldr, List.foldl, List.setIfInBounds_toArray, List.set_cons_zero, List.set_cons_succ, reduceIte, Nat.reduceEqDiff] at hk
      exact hk
    refine Steps.consK [(16, .string ((((((⟨#[112, 117, 98, 32, 112, 114, 111, 99, 32]⟩ : ByteArray) ++ x) ++ (⟨#[32]⟩ : ByteArray)) ++ RD) ++ (⟨#[32]⟩ : ByteArray)) ++ LB))] rfl ⟨⟨by kernel_rfl, fun _ _ h => h⟩, trivial⟩ (fun U W1 hS1 hR K hK => ?_) Steps.nil
    · skip
      simp only [layS, putK, List.foldr, List.foldl, List.setIfInBounds_toArray, List.set_cons_zero, List.set_cons_succ, reduceIte, Nat.reduceEqDiff]
      go_simp
      have hk := hK.out (.string ((((((⟨#[112, 117, 98, 32, 112, 114, 111, 99, 32]⟩ : ByteArray) ++ x) ++ (⟨#[32]⟩ : ByteArray)) ++ RD) ++ (⟨#[32]⟩ : ByteArray)) ++ LB)) W1 hS1 (Below.refl _ _) rfl
      simp only [layS, putK, List.foldr, List.foldl, List.setIfInBounds_toArray, List.set_cons_zero, List.set_cons_succ, reduceIte, Nat.reduceEqDiff] at hk
      exact hk
  · intro U W1 hS1 hR
    have hdd : U 17 = .string ((((((⟨#[112, 117, 98, 32, 112, 114, 111, 99, 32]⟩ : ByteArray) ++ x) ++ (⟨#[32]⟩ : ByteArray)) ++ RD) ++ (⟨#[32]⟩ : ByteArray)) ++ LB) := hR 17 (by simp)
    simp only [layS, putK, List.foldr, List.foldl, List.setIfInBounds_toArray, List.set_cons_zero, List.set_cons_succ, reduceIte, Nat.reduceEqDiff]
    rw [hdd]
    clear hdd hR
    have zE : ((((((⟨#[112, 117, 98, 32, 112, 114, 111, 99, 32]⟩ : ByteArray) ++ x) ++ (⟨#[32]⟩ : ByteArray)) ++ RD) ++ (⟨#[32]⟩ : ByteArray)) ++ LB).size ≤ 62000 := by simp only [ByteArray.size_append]; have e1 : (⟨#[112, 117, 98, 32, 112, 114, 111, 99, 32]⟩ : ByteArray).size ≤ 9 := (by decide); have e3 : (⟨#[32]⟩ : ByteArray).size = 1 := rfl; omega
    generalize ((((((⟨#[112, 117, 98, 32, 112, 114, 111, 99, 32]⟩ : ByteArray) ++ x) ++ (⟨#[32]⟩ : ByteArray)) ++ RD) ++ (⟨#[32]⟩ : ByteArray)) ++ LB) = E at *
    have s3 : w.heap.size < W1.heap.size := by have := hS1.size; omega
    have q22 := pkeep m2 hS1
    have q23 := pkeep m3 hS1
    have K0' := K0.out W1 hS1
    have r00' := pkeep r00 hS1
    have r01' := pkeep r01 hS1
    have r02' := pkeep r02 hS1
    have r03' := pkeep r03 hS1
    clear m0 m1 m2 m3 r00 r01 r02 r03
    have e3 : (E ++ T0).size = E.size + T0.size := ByteArray.size_append
    go_wp2_with (go_at_call 15; refine K0'.mono ?_; rintro e w9 ⟨rfl, hb9⟩)
    go_ret
    exact ⟨by rw [HR.out]; rfl, (hbw.trans (hS1.mono hbw.size)).trans (hb9.mono (Nat.le_trans hbw.size hS1.size))⟩
end pr
end Go.Proofs.YtkoomoemkffjkaaGreatDoor
