/-
  For every operation op, any two 64-bit integers a, b and any two labels x, y the law NumTells of package dryshodlaw returns true, and the arguments read afterwards as they read before: no condition narrows it.
  The frame is the guide's skeleton; at each operation the program's Op and the reference's Op answer the same by contracts, bit by bit for And and Or.
-/
import Derived.Test.YtjoebigdhocikaaRows
import Derived.WalkKit
import Derived.ProofKit
import Derived.OpenShut
import Derived.Test.YtjoebigdhocikaaNum
import Derived.Test.YtjoebigdhocikaaRefOp
namespace Go.Proofs.Ytjoebigdhocikaa.numTells
open Go.ChangeShapes Go.WideShapes Go.ChangeAt Go.RowKit
set_option linter.unusedVariables false      -- a walk need not use every 'w<i>' (that an integer argument fits its kind)

theorem own : ownKnob Try.prog.godebug = none := by kernel_rfl

open numOps
/-- what two labels are, joined -/
def jn (x y : Int) : Int := if x = 0 ∧ y = 0 then 0 else 1
theorem ret_jn {x y v : Int} (h : v = jn x y) : Ending.returned (.int .i64 v) = .returned (.int .i64 (jn x y)) := by rw [h]
theorem join_own (x y : Int) (w : World) : Calls Try.prog 8 #[.int .i64 x, .int .i64 y] w fun e w' => e = .returned (.int .i64 (jn x y)) ∧ w' = w := by
  by_cases h0 : x = 0 <;> by_cases h1 : y = 0
  all_goals
    first | subst h0 | have b0 : (x == 0) = false := by simpa using h0
    first | subst h1 | have b1 : (y == 0) = false := by simpa using h1
    go_enter Try.func8, Try.ntmps8
    go_wp2
    go_ret
    exact ⟨ret_jn (by simp [jn, *]), rfl⟩
theorem join_ref (x y : Int) (w : World) : Calls Try.prog 9 #[.int .i64 x, .int .i64 y] w fun e w' => e = .returned (.int .i64 (jn x y)) ∧ w' = w := by
  by_cases h0 : x = 0 <;> by_cases h1 : y = 0
  all_goals
    first | subst h0 | have b0 : (x == 0) = false := by simpa using h0
    first | subst h1 | have b1 : (y == 0) = false := by simpa using h1
    go_enter Try.func9, Try.ntmps9
    go_wp2
    go_ret
    exact ⟨ret_jn (by simp [jn, *]), rfl⟩
/-! THE LAW, ONCE BOTH ANSWER THE SAME -/
theorem walks (o a b x y n : Int) (is : Bool) (c6 : ∀ w, Calls Try.prog 6 #[.int .i64 o, .int .i64 a, .int .i64 b] w fun e w' => e = .returned (.tuple #[.int .i64 n, .bool is]) ∧ w' = w)
    (c7 : ∀ w, Calls Try.prog 7 #[.int .i64 o, .int .i64 a, .int .i64 b] w fun e w' => e = .returned (.tuple #[.int .i64 n, .bool is]) ∧ w' = w) (w : World) :
    Calls Try.prog 3 #[.int .i64 o, .int .i64 a, .int .i64 b, .int .i64 x, .int .i64 y] w fun e w' => e = .returned (.bool true) ∧ Grown w w' := by
  go_enter Try.func3, Try.ntmps3
  go_wp2_with (first | (go_at_call 6; refine (c6 _).mono ?_; rintro e w' ⟨rfl, rfl⟩) | (go_at_call 7; refine (c7 _).mono ?_; rintro e w' ⟨rfl, rfl⟩) | (go_at_call 8; refine (join_own _ _ _).mono ?_; rintro e w' ⟨rfl, rfl⟩) | (go_at_call 9; refine (join_ref _ _ _).mono ?_; rintro e w' ⟨rfl, rfl⟩))
  go_ret
  exact ⟨rfl, by repeat (first | exact Grown.refl _ | apply Grown.drew | apply Grown.alloc)⟩

/-! ### STEP 1: THE WALK: the Go text returns true. 'Grown w w'': the world has at most new blocks (Derived/RowKit3.lean). Part the cases AHEAD of 'go_enter' where a test parts the walk; take each callee by a contract of your own. -/
theorem walk (a0 : Int) (a1 : Int) (a2 : Int) (a3 : Int) (a4 : Int) (w0 : (Lit.int .i64 a0).wf = true) (w1 : (Lit.int .i64 a1).wf = true) (w2 : (Lit.int .i64 a2).wf = true) (w3 : (Lit.int .i64 a3).wf = true) (w4 : (Lit.int .i64 a4).wf = true) (w : World) :
    Calls Try.prog 3 #[.int .i64 a0, .int .i64 a1, .int .i64 a2, .int .i64 a3, .int .i64 a4] w fun e w' => e = .returned (.bool true) ∧ Grown w w' := by
  obtain ⟨h1, h2⟩ := bounds_i64 w1
  obtain ⟨h3, h4⟩ := bounds_i64 w2
  by_cases k1 : a0 < 1
  · exact walks a0 a1 a2 a3 a4 _ _ (op_none a0 a1 a2 (Or.inl k1)) (rop_none a0 a1 a2 (Or.inl k1)) w
  · by_cases k2 : 9 < a0
    · exact walks a0 a1 a2 a3 a4 _ _ (op_none a0 a1 a2 (Or.inr k2)) (rop_none a0 a1 a2 (Or.inr k2)) w
    · have hs : a0 = 1 ∨ a0 = 2 ∨ a0 = 3 ∨ a0 = 4 ∨ a0 = 5 ∨ a0 = 6 ∨ a0 = 7 ∨ a0 = 8 ∨ a0 = 9 := by omega
      rcases hs with rfl | rfl | rfl | rfl | rfl | rfl | rfl | rfl | rfl
      · exact walks 1 a1 a2 a3 a4 _ _ (op_add a1 a2) (rop_add a1 a2) w
      · exact walks 2 a1 a2 a3 a4 _ _ (op_sub a1 a2) (rop_sub a1 a2) w
      · exact walks 3 a1 a2 a3 a4 _ _ (op_mul a1 a2) (rop_mul a1 a2) w
      · by_cases hb : a2 = 0
        · subst hb; exact walks 4 a1 0 a3 a4 _ _ (op4z a1) (rop_z 4 a1 (Or.inl rfl)) w
        · exact walks 4 a1 a2 a3 a4 _ _ (op4 a1 a2 hb) (rop_div a1 a2 hb) w
      · by_cases hb : a2 = 0
        · subst hb; exact walks 5 a1 0 a3 a4 _ _ (op5z a1) (rop_z 5 a1 (Or.inr rfl)) w
        · exact walks 5 a1 a2 a3 a4 _ _ (op5 a1 a2 hb) (rop_mod a1 a2 hb h1 h2 h3 h4) w
      · exact walks 6 a1 a2 a3 a4 _ _ (op_and a1 a2) (rop_and a1 a2 h1 h2 h3 h4) w
      · exact walks 7 a1 a2 a3 a4 _ _ (op_or a1 a2) (rop_or a1 a2 h1 h2 h3 h4) w
      · exact walks 8 a1 a2 a3 a4 _ _ (op_less a1 a2) (rop_less a1 a2) w
      · exact walks 9 a1 a2 a3 a4 _ _ (op_same a1 a2) (rop_same a1 a2) w

/-! ### THE ROW's STEP: WRITTEN OUT: LEAVE IT -/
set_option maxRecDepth 100000 in
theorem lifted (os : Os) (started : os.Started) (H : Type) (enc : TypeId × Value → H) :
    ReturnsInHanded {} Try.checked os 3 .any (Rows.numTellsSpec.pre6 enc Try.prog Try.f3 Rows.numTellsRow.domain false) (Rows.numTellsSpec.post enc Try.prog Try.f3 false true false false) := by
  refine returnsInHanded_of_change (C := Try.checked) own started (by kernel_rfl) Try.func3
    (ChangeSpec.witness6 (enc := enc) (C := Try.checked) false ⟨#[], #[.int .i64 0, .int .i64 0, .int .i64 0, .int .i64 0, .int .i64 0], []⟩ 8 (by kernel_rfl) (by kernel_rfl) (by kernel_rfl) (by kernel_rfl)) ?_
  intro W base args ds gs before hval0 hW hcnd _
  have hval : ∀ (j : Nat) t v, Try.f3.params[j]? = some t → args[j]? = some v → Value.okWide Try.prog W .any base t v := hval0
  have hW' := hW
  obtain ⟨p, q, hA0, hV, rfl, hfz, hnd⟩ := hW
  have hA : DataW.TrodAll enc Try.prog W 0 (fun _ => true) true Try.f3.params.toList args.toList ds p := hA0
  rw [Try.params3] at hA hval
  obtain ⟨v0, vs0, d0, ds0, p0, q0, hargs, rfl, rfl, h0, r0⟩ := trodAll_cons hA
  obtain ⟨v1, vs1, d1, ds1, p1, q1, rfl, rfl, rfl, h1, r1⟩ := trodAll_cons r0
  obtain ⟨v2, vs2, d2, ds2, p2, q2, rfl, rfl, rfl, h2, r2⟩ := trodAll_cons r1
  obtain ⟨v3, vs3, d3, ds3, p3, q3, rfl, rfl, rfl, h3, r3⟩ := trodAll_cons r2
  obtain ⟨v4, vs4, d4, ds4, p4, q4, rfl, rfl, rfl, h4, r4⟩ := trodAll_cons r3
  obtain ⟨rfl, rfl, rfl⟩ := trodAll_nil r4
  obtain rfl : args = #[v0, v1, v2, v3, v4] := by cases args; simp_all
  obtain ⟨rfl, rfl⟩ := trodVars_none hV
  obtain ⟨a0, rfl, rfl, rfl, w0⟩ := open_int Try.underlying3 (hval 0 3 v0 rfl rfl) h0
  obtain ⟨a1, rfl, rfl, rfl, w1⟩ := open_int Try.underlying2 (hval 1 2 v1 rfl rfl) h1
  obtain ⟨a2, rfl, rfl, rfl, w2⟩ := open_int Try.underlying2 (hval 2 2 v2 rfl rfl) h2
  obtain ⟨a3, rfl, rfl, rfl, w3⟩ := open_int Try.underlying3 (hval 3 3 v3 rfl rfl) h3
  obtain ⟨a4, rfl, rfl, rfl, w4⟩ := open_int Try.underlying3 (hval 4 3 v4 rfl rfl) h4
  clear hA0 hval0
  simp only [List.append_nil] at hW'
  refine (walk a0 a1 a2 a3 a4 w0 w1 w2 w3 w4 W).mono fun e W' ⟨he, hg⟩ => ?_
  subst he
  exact ⟨_, rfl, post_of_same (pa := []) (pv := []) hW' (fun _ _ _ => (trodAll_cons_mk (shut_bool Try.underlying4 _) trodAll_mk0)) (fun sp _ => (trodAll_cons_mk (shut_int Try.underlying3 w0) (trodAll_cons_mk (shut_int Try.underlying2 w1) (trodAll_cons_mk (shut_int Try.underlying2 w2) (trodAll_cons_mk (shut_int Try.underlying3 w3) (trodAll_cons_mk (shut_int Try.underlying3 w4) trodAll_mk0)))))) (fun _ _ => rfl) rfl
    (hg.frame _) hg.2.1 (ok_one (by kernel_rfl) rfl (okWide_bool_mk Try.underlying4 _))⟩

theorem over : Rows.numTellsRow.holds Try.pinned (OpenSpec.ofChange Rows.numTellsSpec) :=
  OpenClaim.holds_of_wide 3 Try.f3 rfl rfl rfl rfl rfl rfl rfl ⟨rfl, rfl, rfl, rfl, rfl⟩ rfl rfl rfl rfl rfl (by kernel_rfl) Try.func3 (by kernel_rfl)
    (of_decide_eq_true (by kernel_rfl)) (by unfold Func.isWrapper; first | (rw [if_pos (by decide +kernel)]; kernel_rfl) | (rw [if_neg (by decide +kernel)]; exact ⟨rfl, rfl⟩))
    (fun os started H enc _ => lifted os started H enc)

/-- ████ THE STATEMENT ████ -/
theorem proved : Rows.NumTellsSaid :=
  over
#print axioms proved
end Go.Proofs.Ytjoebigdhocikaa.numTells
