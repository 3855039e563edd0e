/- What the reference's bit and bits answer: contracts. -/
import Derived.Test.YtjoebigdhocikaaRows
import Derived.WalkKit
import Derived.ProofKit
import Derived.OpenShut
import Derived.Test.YtjoebigdhocikaaBits
namespace Go.Proofs.Ytjoebigdhocikaa.numOps
open Go.ChangeShapes Go.WideShapes Go.ChangeAt Go.RowKit
set_option linter.unusedVariables false

theorem ret_bool {x y : Bool} (h : x = y) : Ending.returned (.bool x) = .returned (.bool y) := by rw [h]
theorem ret_i64 {x y : Int} (h : x = y) : Ending.returned (.int .i64 x) = .returned (.int .i64 y) := by rw [h]
theorem val_i64 {x y : Int} (h : x = y) : Value.int .i64 x = .int .i64 y := by rw [h]
theorem bit_any (a : Int) (k : Nat) (hk : k ≤ 64) (h1 : -9223372036854775808 ≤ a) (h2 : a ≤ 9223372036854775807) (w : World) :
    Calls Try.prog 16 #[.int .i64 a, .int .i64 k] w fun e w' => e = .returned (.bool (bitB a k)) ∧ w' = w := by
  go_enter Try.func16, Try.ntmps16
  go_wp2
  go_loop [0, 5] (fun n i => ∃ j : Nat, j ≤ k ∧ i = .int .i64 j ∧ n = .int .i64 (dv a j)) (fun _ i => k - (intOf i).toNat)
  case atStart => exact ⟨0, Nat.zero_le _, rfl, by rw [dv_zero]⟩
  case round =>
    obtain ⟨j, hj, rfl, rfl⟩ := hrel
    have hb := dv_bounds a h1 h2 j
    by_cases hlt : j < k
    · have hs : Hid (dv a (j + 1) = dv a j / 2) := dv_succ a j
      generalize dv a j = v at *
      go_wp2
      all_goals
        go_round
        case rel => exact ⟨j + 1, by omega, by go_num, val_i64 (by rw [hs.out]; first | exact half_neg v hb.1 hb.2 ‹_› | exact half_pos v hb.1 hb.2 ‹_›)⟩
        case measure => simp [intOf]; omega
    · have : j = k := by omega
      subst this
      go_wp2
      go_ret
      exact ⟨ret_bool (bitB_end a j), rfl⟩
theorem bits_any (both : Bool) (a b : Int) (h1 : -9223372036854775808 ≤ a) (h2 : a ≤ 9223372036854775807) (h3 : -9223372036854775808 ≤ b) (h4 : b ≤ 9223372036854775807) (w : World) :
    Calls Try.prog 13 #[.int .i64 a, .int .i64 b, .bool both] w fun e w' => e = .returned (.int .i64 (sm both a b 64)) ∧ w' = w := by
  go_enter Try.func13, Try.ntmps13
  go_wp2
  go_loop [7, 8, 9] (fun n p i => ∃ k : Nat, k ≤ 64 ∧ i = .int .i64 k ∧ p = .int .i64 (pw k) ∧ n = .int .i64 (sm both a b k)) (fun _ _ i => 64 - (intOf i).toNat)
  case atStart => exact ⟨0, Nat.zero_le _, rfl, val_i64 (by simp [pw, wrap64]), val_i64 (by simp [sm, sumB, wrap64])⟩
  case round =>
    obtain ⟨k, hk, rfl, rfl, rfl⟩ := hrel
    by_cases hlt : k < 64
    · have hp : Hid (wrap64 (pw k + pw k) = pw (k + 1)) := pw_succ k
      have hy := sm_yes both a b k
      have hn := sm_no both a b k
      have hy' : Hid (joinB both (bitB a k) (bitB b k) = true → wrap64 (sm both a b k + pw k) = sm both a b (k + 1)) := hy
      have hn' : Hid (joinB both (bitB a k) (bitB b k) = false → sm both a b k = sm both a b (k + 1)) := hn
      clear hy hn
      cases hx : bitB a k <;> cases hz : bitB b k <;> cases both
      all_goals
        go_wp2_with (go_at_call 16; refine (bit_any _ _ (by omega) (by omega) (by omega) _).mono ?_; rintro e w' ⟨rfl, rfl⟩)
        go_round
        case rel => exact ⟨k + 1, by omega, by go_num, val_i64 hp.out, val_i64 (by first | exact hy'.out (by simp [joinB, hx, hz]) | exact hn'.out (by simp [joinB, hx, hz]))⟩
        case measure => simp [intOf]; omega
    · have : k = 64 := by omega
      subst this
      go_wp2
      go_ret
      exact ⟨rfl, rfl⟩
end Go.Proofs.Ytjoebigdhocikaa.numOps
