/-
  For every two 64-bit integers a, b the law NumDivides of package dryshodkeep returns true, and the arguments read afterwards as they read before: no condition narrows it.
  The frame is the guide's skeleton; the walk takes num.Op at its two operations by a contract and parts on the signs.
-/
import Derived.Test.YtjoebigdhocikaaRows
import Derived.WalkKit
import Derived.ProofKit
import Derived.OpenShut
import Derived.Test.YtjoebigdhocikaaArith
import Derived.Test.YtjoebigdhocikaaNum
namespace Go.Proofs.Ytjoebigdhocikaa.numDivides
open Go.ChangeShapes Go.WideShapes Go.ChangeAt Go.RowKit
set_option linter.unusedVariables false      -- a walk need not use every 'w<i>' (that an integer argument fits its kind)

theorem own : ownKnob Try.prog.godebug = none := by kernel_rfl

open numOps
/-! THE WALK WITH THE TWO ANSWERS AS NUMBERS: each way through the last test is one case. -/
theorem walkz (a : Int) (w : World) :
    Calls Try.prog 4 #[.int .i64 a, .int .i64 0] w fun e w' => e = .returned (.bool true) ∧ Grown w w' := by
  go_enter Try.func4, Try.ntmps4
  go_wp2
  go_ret
  exact ⟨rfl, by repeat (first | exact Grown.refl _ | apply Grown.drew | apply Grown.alloc)⟩
theorem opq (a b : Int) (h : ¬ b = 0) (o : Int) (w : World) (ho : o = 4 ∨ o = 5) :
    Calls Try.prog 6 #[.int .i64 o, .int .i64 a, .int .i64 b] w fun e w' => (o = 4 → e = .returned (.tuple #[.int .i64 (wrap64 (a.tdiv b)), .bool true])) ∧ (o = 5 → e = .returned (.tuple #[.int .i64 (a.tmod b), .bool true])) ∧ w' = w := by
  rcases ho with rfl | rfl
  · exact (op4 a b h w).mono fun e w' hh => ⟨fun _ => hh.1, fun h => absurd h (by decide), hh.2⟩
  · exact (op5 a b h w).mono fun e w' hh => ⟨fun h => absurd h (by decide), fun _ => hh.1, hh.2⟩
theorem walkq (a b q r : Int) (c : ∀ o w, o = 4 ∨ o = 5 → Calls Try.prog 6 #[.int .i64 o, .int .i64 a, .int .i64 b] w fun e w' => (o = 4 → e = .returned (.tuple #[.int .i64 q, .bool true])) ∧ (o = 5 → e = .returned (.tuple #[.int .i64 r, .bool true])) ∧ w' = w)
    (hb0 : (b == 0) = false) (h1 : -9223372036854775808 ≤ b) (h2 : b ≤ 9223372036854775807) (back : (wrap64 (wrap64 (q * b) + r) != a) = false)
    (sign : r = 0 ∨ (a < 0 ∧ r < 0 ∧ (b < 0 ∧ b < r ∨ 0 < b ∧ -b < r)) ∨ (0 < a ∧ 0 < r ∧ (b < 0 ∧ r < -b ∨ 0 < b ∧ r < b))) (w : World) :
    Calls Try.prog 4 #[.int .i64 a, .int .i64 b] w fun e w' => e = .returned (.bool true) ∧ Grown w w' := by
  rcases sign with h | ⟨k1, k2, ⟨k3, k4⟩ | ⟨k3, k4⟩⟩ | ⟨k1, k2, ⟨k3, k4⟩ | ⟨k3, k4⟩⟩
  · have r0 : (r == 0) = true := by simpa using h
    clear h
    go_enter Try.func4, Try.ntmps4
    go_wp2_with (go_at_call 6; refine (c _ _ (by omega)).mono ?_; rintro e w' ⟨he4, he5, rfl⟩; first | obtain rfl := he4 rfl | obtain rfl := he5 rfl; clear he4 he5)
    go_ret
    exact ⟨rfl, by repeat (first | exact Grown.refl _ | apply Grown.drew | apply Grown.alloc)⟩
  · have r0 : (r == 0) = false := by rw [beq_eq_false_iff_ne]; omega
    go_enter Try.func4, Try.ntmps4
    go_wp2_with (go_at_call 6; refine (c _ _ (by omega)).mono ?_; rintro e w' ⟨he4, he5, rfl⟩; first | obtain rfl := he4 rfl | obtain rfl := he5 rfl; clear he4 he5)
    go_ret
    exact ⟨rfl, by repeat (first | exact Grown.refl _ | apply Grown.drew | apply Grown.alloc)⟩
  · have r0 : (r == 0) = false := by rw [beq_eq_false_iff_ne]; omega
    have k5 : r < b := by omega
    have k6 : ¬ b < 0 := by omega
    go_enter Try.func4, Try.ntmps4
    go_wp2_with (go_at_call 6; refine (c _ _ (by omega)).mono ?_; rintro e w' ⟨he4, he5, rfl⟩; first | obtain rfl := he4 rfl | obtain rfl := he5 rfl; clear he4 he5)
    go_ret
    exact ⟨rfl, by repeat (first | exact Grown.refl _ | apply Grown.drew | apply Grown.alloc)⟩
  · have r0 : (r == 0) = false := by rw [beq_eq_false_iff_ne]; omega
    have k5 : ¬ r < 0 := by omega
    have k6 : ¬ a < 0 := by omega
    have k7 : b < r := by omega
    by_cases e : b = -9223372036854775808
    · subst e
      go_enter Try.func4, Try.ntmps4
      go_wp2_with (go_at_call 6; refine (c _ _ (by omega)).mono ?_; rintro e w' ⟨he4, he5, rfl⟩; first | obtain rfl := he4 rfl | obtain rfl := he5 rfl; clear he4 he5)
      all_goals
        go_ret
        exact ⟨rfl, by repeat (first | exact Grown.refl _ | apply Grown.drew | apply Grown.alloc)⟩
    · have h3 : -9223372036854775807 ≤ b := by omega
      go_enter Try.func4, Try.ntmps4
      go_wp2_with (go_at_call 6; refine (c _ _ (by omega)).mono ?_; rintro e w' ⟨he4, he5, rfl⟩; first | obtain rfl := he4 rfl | obtain rfl := he5 rfl; clear he4 he5)
      go_ret
      exact ⟨rfl, by repeat (first | exact Grown.refl _ | apply Grown.drew | apply Grown.alloc)⟩
  · have r0 : (r == 0) = false := by rw [beq_eq_false_iff_ne]; omega
    have k5 : ¬ r < 0 := by omega
    have k6 : ¬ a < 0 := by omega
    have k7 : ¬ b < 0 := by omega
    have k8 : -b < r := by omega
    go_enter Try.func4, Try.ntmps4
    go_wp2_with (go_at_call 6; refine (c _ _ (by omega)).mono ?_; rintro e w' ⟨he4, he5, rfl⟩; first | obtain rfl := he4 rfl | obtain rfl := he5 rfl; clear he4 he5)
    go_ret
    exact ⟨rfl, by repeat (first | exact Grown.refl _ | apply Grown.drew | apply Grown.alloc)⟩

/-! ### STEP 1: THE WALK: the Go text returns true. 'Grown w w'': the world has at most new blocks (Derived/RowKit3.lean). Part the cases AHEAD of 'go_enter' where a test parts the walk; take each callee by a contract of your own. -/
theorem walk (a0 : Int) (a1 : Int) (w0 : (Lit.int .i64 a0).wf = true) (w1 : (Lit.int .i64 a1).wf = true) (w : World) :
    Calls Try.prog 4 #[.int .i64 a0, .int .i64 a1] w fun e w' => e = .returned (.bool true) ∧ Grown w w' := by
  by_cases hb : a1 = 0
  · subst hb
    exact walkz a0 w
  · have b0 := bounds_i64 w0
    have b1 := bounds_i64 w1
    exact walkq a0 a1 _ _ (opq a0 a1 hb) (by simpa using hb) b1.1 b1.2 (by rw [div_back a0 a1 b0.1 b0.2]; simp) (mod_sign a0 a1 hb) w

/-! ### THE ROW's STEP: WRITTEN OUT: LEAVE IT -/
set_option maxRecDepth 100000 in
theorem lifted (os : Os) (started : os.Started) (H : Type) (enc : TypeId × Value → H) :
    ReturnsInHanded {} Try.checked os 4 .any (Rows.numDividesSpec.pre6 enc Try.prog Try.f4 Rows.numDividesRow.domain false) (Rows.numDividesSpec.post enc Try.prog Try.f4 false true false false) := by
  refine returnsInHanded_of_change (C := Try.checked) own started (by kernel_rfl) Try.func4
    (ChangeSpec.witness6 (enc := enc) (C := Try.checked) false ⟨#[], #[.int .i64 0, .int .i64 0], []⟩ 8 (by kernel_rfl) (by kernel_rfl) (by kernel_rfl) (by kernel_rfl)) ?_
  intro W base args ds gs before hval0 hW hcnd _
  have hval : ∀ (j : Nat) t v, Try.f4.params[j]? = some t → args[j]? = some v → Value.okWide Try.prog W .any base t v := hval0
  have hW' := hW
  obtain ⟨p, q, hA0, hV, rfl, hfz, hnd⟩ := hW
  have hA : DataW.TrodAll enc Try.prog W 0 (fun _ => true) true Try.f4.params.toList args.toList ds p := hA0
  rw [Try.params4] at hA hval
  obtain ⟨v0, vs0, d0, ds0, p0, q0, hargs, rfl, rfl, h0, r0⟩ := trodAll_cons hA
  obtain ⟨v1, vs1, d1, ds1, p1, q1, rfl, rfl, rfl, h1, r1⟩ := trodAll_cons r0
  obtain ⟨rfl, rfl, rfl⟩ := trodAll_nil r1
  obtain rfl : args = #[v0, v1] := by cases args; simp_all
  obtain ⟨rfl, rfl⟩ := trodVars_none hV
  obtain ⟨a0, rfl, rfl, rfl, w0⟩ := open_int Try.underlying2 (hval 0 2 v0 rfl rfl) h0
  obtain ⟨a1, rfl, rfl, rfl, w1⟩ := open_int Try.underlying2 (hval 1 2 v1 rfl rfl) h1
  clear hA0 hval0
  simp only [List.append_nil] at hW'
  refine (walk a0 a1 w0 w1 W).mono fun e W' ⟨he, hg⟩ => ?_
  subst he
  exact ⟨_, rfl, post_of_same (pa := []) (pv := []) hW' (fun _ _ _ => (trodAll_cons_mk (shut_bool Try.underlying4 _) trodAll_mk0)) (fun sp _ => (trodAll_cons_mk (shut_int Try.underlying2 w0) (trodAll_cons_mk (shut_int Try.underlying2 w1) trodAll_mk0))) (fun _ _ => rfl) rfl
    (hg.frame _) hg.2.1 (ok_one (by kernel_rfl) rfl (okWide_bool_mk Try.underlying4 _))⟩

theorem over : Rows.numDividesRow.holds Try.pinned (OpenSpec.ofChange Rows.numDividesSpec) :=
  OpenClaim.holds_of_wide 4 Try.f4 rfl rfl rfl rfl rfl rfl rfl ⟨rfl, rfl, rfl, rfl, rfl⟩ rfl rfl rfl rfl rfl (by kernel_rfl) Try.func4 (by kernel_rfl)
    (of_decide_eq_true (by kernel_rfl)) (by unfold Func.isWrapper; first | (rw [if_pos (by decide +kernel)]; kernel_rfl) | (rw [if_neg (by decide +kernel)]; exact ⟨rfl, rfl⟩))
    (fun os started H enc _ => lifted os started H enc)

/-- ████ THE STATEMENT ████ -/
theorem proved : Rows.NumDividesSaid :=
  over
#print axioms proved
end Go.Proofs.Ytjoebigdhocikaa.numDivides
