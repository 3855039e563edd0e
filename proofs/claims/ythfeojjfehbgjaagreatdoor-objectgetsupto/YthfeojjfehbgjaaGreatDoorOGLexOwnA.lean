/- What the program's isLetter, isDigit, reach, skip answer: contracts. -/
import Derived.Test.YthfeojjfehbgjaaGreatDoorProg
import Derived.WalkKit
import Derived.WalkLawsBesides
import Derived.Outline
import Derived.WalkSmall
import Derived.BigQuiet
import Derived.Deep.QuietTactic
import Derived.Test.YthfeojjfehbgjaaGreatDoorOGLexRefP
namespace Go.Proofs.YthfeojjfehbgjaaGreatDoor.lexs
open Go.RowKit
set_option linter.unusedVariables false

theorem oletter (c : Int) (w : World) :
    Calls Tryz.prog 109 #[.int .u8 c] w fun e w' => e = .returned (.bool (ltrI c)) ∧ w' = w := by
  go_enter Tryz.func109, Tryz.ntmps109
  go_wp2
  all_goals
    go_ret
    exact ⟨ret_bool (by rw [Bool.eq_iff_iff]; simp [ltrI] <;> omega), rfl⟩
theorem odigit (c : Int) (w : World) :
    Calls Tryz.prog 110 #[.int .u8 c] w fun e w' => e = .returned (.bool (digI c)) ∧ w' = w := by
  go_enter Tryz.func110, Tryz.ntmps110
  go_wp2
  all_goals
    go_ret
    exact ⟨ret_bool (by rw [Bool.eq_iff_iff]; simp [digI] <;> omega), rfl⟩
theorem oblank (c : Int) (w : World) :
    Calls Tryz.prog 107 #[.int .u8 c] w fun e w' => e = .returned (.bool (c == 32 || c == 10)) ∧ w' = w := by
  go_enter Tryz.func107, Tryz.ntmps107
  go_wp2
  all_goals
    go_ret
    exact ⟨ret_bool (by first | rfl | (rw [Bool.eq_iff_iff]; simp <;> omega) | (simp_all)), rfl⟩
theorem onoted (c : Int) (w : World) :
    Calls Tryz.prog 108 #[.int .u8 c] w fun e w' => e = .returned (.bool (c != 10)) ∧ w' = w := by
  go_enter Tryz.func108, Tryz.ntmps108
  go_wp2
  all_goals
    go_ret
    exact ⟨ret_bool (by first | rfl | (rw [Bool.eq_iff_iff]; simp <;> omega) | (simp_all)), rfl⟩
theorem obehind1 (c : Int) (w : World) :
    Calls Tryz.prog 111 #[.int .u8 c] w fun e w' => e = .returned (.bool (insI c)) ∧ w' = w := by
  cases h1 : ltrI c <;> cases h2 : digI c
  all_goals
    go_enter Tryz.func111, Tryz.ntmps111
    go_wp2_with (first | (go_at_call 109; refine (oletter _ _).mono ?_; rintro e w' ⟨rfl, rfl⟩) | (go_at_call 110; refine (odigit _ _).mono ?_; rintro e w' ⟨rfl, rfl⟩))
    go_ret
    exact ⟨ret_bool (by unfold insI; rw [h1, h2]; simp), rfl⟩
/-- from i on such bytes stand up to j, and no further -/
structure Stops (P : UInt8 → Bool) (s : ByteArray) (i j : Nat) : Prop where
  le : i ≤ j
  top : j ≤ s.size
  all : ∀ k (h : k < s.size), i ≤ k → k < j → P s[k] = true
  stop : j = s.size ∨ ∃ h : j < s.size, P s[j] = false
theorem Stops.run {P : UInt8 → Bool} {s : ByteArray} {i j : Nat} (h : Stops P s i j) : run P (s.data.toList.drop i) = j - i := by
  have e : i + (j - i) = j := by have := h.le; omega
  exact run_at P s i (j - i) (by have := h.top; omega) (fun k hk h1 h2 => h.all k hk h1 (by omega)) (by simp only [e]; exact h.stop)
set_option maxRecDepth 100000 in
theorem reach_digit (s : ByteArray) (i : Nat) (hs : s.size ≤ 3000) (hi : i ≤ s.size) (w : World) :
    Calls Tryz.prog 92 #[.string s, .int .i64 i, .func (.func 110) #[] #[]] w fun e w' => ∃ j : Nat, e = .returned (.int .i64 j) ∧ Stops digB s i j ∧ w' = w := by
  go_enter Tryz.func92, Tryz.ntmps92
  go_wp2
  go_loop [1] (fun t => ∃ j : Nat, i ≤ j ∧ j ≤ s.size ∧ t = .int .i64 j ∧ Hid (∀ k (h : k < s.size), i ≤ k → k < j → digB s[k] = true)) (fun t => s.size - (intOf t).toNat)
  case atStart => exact ⟨i, by omega, hi, rfl, fun k _ h1 h2 => by omega⟩
  case round =>
    obtain ⟨j, hij, hjs, rfl, HN⟩ := hrel
    by_cases hq : j < s.size
    · cases hb : digI (s[j].toNat : Int)
      · go_wp2_with (go_at_call 110; refine (odigit _ _).mono ?_; rintro e w' ⟨rfl, hw⟩; obtain rfl := hw.symm)
        go_ret
        exact ⟨j, rfl, ⟨hij, hjs, HN.out, .inr ⟨hq, by exact hb⟩⟩, rfl⟩
      · go_wp2_with (go_at_call 110; refine (odigit _ _).mono ?_; rintro e w' ⟨rfl, hw⟩; obtain rfl := hw.symm)
        go_round
        case rel => exact ⟨j + 1, by omega, by omega, by go_num, fun k h h1 h2 => by
          rcases Nat.lt_or_ge k j with h3 | h3
          · exact HN.out k h h1 h3
          · have : k = j := by omega
            subst this
            exact hb⟩
        case measure => simp [intOf]; omega
    · go_wp2_with (go_at_call 110; refine (odigit _ _).mono ?_; rintro e w' ⟨rfl, hw⟩; obtain rfl := hw.symm)
      go_ret
      exact ⟨j, rfl, ⟨hij, hjs, HN.out, .inl (by omega)⟩, rfl⟩
set_option maxRecDepth 100000 in
theorem reach_inside (s : ByteArray) (i : Nat) (hs : s.size ≤ 3000) (hi : i ≤ s.size) (w : World) :
    Calls Tryz.prog 92 #[.string s, .int .i64 i, .func (.func 111) #[] #[]] w fun e w' => ∃ j : Nat, e = .returned (.int .i64 j) ∧ Stops insB s i j ∧ w' = w := by
  go_enter Tryz.func92, Tryz.ntmps92
  go_wp2
  go_loop [1] (fun t => ∃ j : Nat, i ≤ j ∧ j ≤ s.size ∧ t = .int .i64 j ∧ Hid (∀ k (h : k < s.size), i ≤ k → k < j → insB s[k] = true)) (fun t => s.size - (intOf t).toNat)
  case atStart => exact ⟨i, by omega, hi, rfl, fun k _ h1 h2 => by omega⟩
  case round =>
    obtain ⟨j, hij, hjs, rfl, HN⟩ := hrel
    by_cases hq : j < s.size
    · cases hb : insI (s[j].toNat : Int)
      · go_wp2_with (go_at_call 111; refine (obehind1 _ _).mono ?_; rintro e w' ⟨rfl, hw⟩; obtain rfl := hw.symm)
        go_ret
        exact ⟨j, rfl, ⟨hij, hjs, HN.out, .inr ⟨hq, by exact hb⟩⟩, rfl⟩
      · go_wp2_with (go_at_call 111; refine (obehind1 _ _).mono ?_; rintro e w' ⟨rfl, hw⟩; obtain rfl := hw.symm)
        go_round
        case rel => exact ⟨j + 1, by omega, by omega, by go_num, fun k h h1 h2 => by
          rcases Nat.lt_or_ge k j with h3 | h3
          · exact HN.out k h h1 h3
          · have : k = j := by omega
            subst this
            exact hb⟩
        case measure => simp [intOf]; omega
    · go_wp2_with (go_at_call 111; refine (obehind1 _ _).mono ?_; rintro e w' ⟨rfl, hw⟩; obtain rfl := hw.symm)
      go_ret
      exact ⟨j, rfl, ⟨hij, hjs, HN.out, .inl (by omega)⟩, rfl⟩
theorem blank_is (b : UInt8) : ((b.toNat : Int) == 32 || (b.toNat : Int) == 10) = (b == 32 || b == 10) := by rw [byte_is _ 32 32 rfl, byte_is _ 10 10 rfl]
theorem noted_is (b : UInt8) : ((b.toNat : Int) != 10) = (b != 10) := by rw [bne, byte_is _ 10 10 rfl]; rfl
set_option maxRecDepth 100000 in
theorem reach_blank (s : ByteArray) (i : Nat) (hs : s.size ≤ 3000) (hi : i ≤ s.size) (w : World) :
    Calls Tryz.prog 92 #[.string s, .int .i64 i, .func (.func 107) #[] #[]] w fun e w' => ∃ j : Nat, e = .returned (.int .i64 j) ∧ Stops (fun b => b == 32 || b == 10) s i j ∧ w' = w := by
  go_enter Tryz.func92, Tryz.ntmps92
  go_wp2
  go_loop [1] (fun t => ∃ j : Nat, i ≤ j ∧ j ≤ s.size ∧ t = .int .i64 j ∧ Hid (∀ k (h : k < s.size), i ≤ k → k < j → (fun b => b == 32 || b == 10) s[k] = true)) (fun t => s.size - (intOf t).toNat)
  case atStart => exact ⟨i, by omega, hi, rfl, fun k _ h1 h2 => by omega⟩
  case round =>
    obtain ⟨j, hij, hjs, rfl, HN⟩ := hrel
    by_cases hq : j < s.size
    · cases hb : ((s[j].toNat : Int) == 32 || (s[j].toNat : Int) == 10)
      · go_wp2_with (go_at_call 107; refine (oblank _ _).mono ?_; rintro e w' ⟨rfl, hw⟩; obtain rfl := hw.symm)
        go_ret
        exact ⟨j, rfl, ⟨hij, hjs, HN.out, .inr ⟨hq, by rw [blank_is] at hb; exact hb⟩⟩, rfl⟩
      · go_wp2_with (go_at_call 107; refine (oblank _ _).mono ?_; rintro e w' ⟨rfl, hw⟩; obtain rfl := hw.symm)
        go_round
        case rel => exact ⟨j + 1, by omega, by omega, by go_num, fun k h h1 h2 => by
          rcases Nat.lt_or_ge k j with h3 | h3
          · exact HN.out k h h1 h3
          · have : k = j := by omega
            subst this
            rw [blank_is] at hb; exact hb⟩
        case measure => simp [intOf]; omega
    · go_wp2_with (go_at_call 107; refine (oblank _ _).mono ?_; rintro e w' ⟨rfl, hw⟩; obtain rfl := hw.symm)
      go_ret
      exact ⟨j, rfl, ⟨hij, hjs, HN.out, .inl (by omega)⟩, rfl⟩
set_option maxRecDepth 100000 in
theorem reach_noted (s : ByteArray) (i : Nat) (hs : s.size ≤ 3000) (hi : i ≤ s.size) (w : World) :
    Calls Tryz.prog 92 #[.string s, .int .i64 i, .func (.func 108) #[] #[]] w fun e w' => ∃ j : Nat, e = .returned (.int .i64 j) ∧ Stops (fun b => b != 10) s i j ∧ w' = w := by
  go_enter Tryz.func92, Tryz.ntmps92
  go_wp2
  go_loop [1] (fun t => ∃ j : Nat, i ≤ j ∧ j ≤ s.size ∧ t = .int .i64 j ∧ Hid (∀ k (h : k < s.size), i ≤ k → k < j → (fun b => b != 10) s[k] = true)) (fun t => s.size - (intOf t).toNat)
  case atStart => exact ⟨i, by omega, hi, rfl, fun k _ h1 h2 => by omega⟩
  case round =>
    obtain ⟨j, hij, hjs, rfl, HN⟩ := hrel
    by_cases hq : j < s.size
    · cases hb : ((s[j].toNat : Int) != 10)
      · go_wp2_with (go_at_call 108; refine (onoted _ _).mono ?_; rintro e w' ⟨rfl, hw⟩; obtain rfl := hw.symm)
        go_ret
        exact ⟨j, rfl, ⟨hij, hjs, HN.out, .inr ⟨hq, by rw [noted_is] at hb; exact hb⟩⟩, rfl⟩
      · go_wp2_with (go_at_call 108; refine (onoted _ _).mono ?_; rintro e w' ⟨rfl, hw⟩; obtain rfl := hw.symm)
        go_round
        case rel => exact ⟨j + 1, by omega, by omega, by go_num, fun k h h1 h2 => by
          rcases Nat.lt_or_ge k j with h3 | h3
          · exact HN.out k h h1 h3
          · have : k = j := by omega
            subst this
            rw [noted_is] at hb; exact hb⟩
        case measure => simp [intOf]; omega
    · go_wp2_with (go_at_call 108; refine (onoted _ _).mono ?_; rintro e w' ⟨rfl, hw⟩; obtain rfl := hw.symm)
      go_ret
      exact ⟨j, rfl, ⟨hij, hjs, HN.out, .inl (by omega)⟩, rfl⟩
/-! ### what is passed by -/
/-- from p the scan comes to j, and no token lies between -/
structure Goes (s : ByteArray) (p j : Nat) : Prop where
  le : p ≤ j
  top : j ≤ s.size
  on : ∀ (f : Nat) (acc : List Tok) (R : Res), s.size ≤ p + f → scanL f (s.data.toList.drop p) p acc = R → ∃ f', s.size ≤ j + f' ∧ scanL f' (s.data.toList.drop j) j acc = R
theorem Goes.rfl' {s : ByteArray} {p : Nat} (h : p ≤ s.size) : Goes s p p := ⟨Nat.le_refl _, h, fun f acc R h1 h2 => ⟨f, h1, h2⟩⟩
theorem Goes.trans {s : ByteArray} {p j k : Nat} (h1 : Goes s p j) (h2 : Goes s j k) : Goes s p k :=
  ⟨Nat.le_trans h1.le h2.le, h2.top, fun f acc R a b => by
    obtain ⟨f', a', b'⟩ := h1.on f acc R a b
    exact h2.on f' acc R a' b'⟩
theorem goes_step {s : ByteArray} {p n : Nat} (hp : p < s.size) (h : stepL (s.data.toList.drop p) = .skip n) : Goes s p (p + n) ∧ 0 < n := by
  have h0 := go_skip hp (f := 0) (acc := []) h rfl
  refine ⟨⟨by omega, h0.2.2, fun f acc R a b => ?_⟩, h0.2.1⟩
  obtain ⟨f, rfl⟩ : ∃ f', f = f' + 1 := ⟨f - 1, by omega⟩
  have hg := go_skip hp h b
  exact ⟨f, by omega, hg.1⟩
theorem goes_blanks {s : ByteArray} {p j : Nat} (h : Stops (fun b => b == 32 || b == 10) s p j) : Goes s p j := by
  obtain ⟨n, rfl⟩ : ∃ n, j = p + n := ⟨j - p, by have := h.le; omega⟩
  have H : ∀ n, p + n ≤ s.size → (∀ k (h : k < s.size), p ≤ k → k < p + n → (s[k] == 32 || s[k] == 10) = true) → Goes s p (p + n) := by
    intro n
    induction n with
    | zero => intro h1 _; exact Goes.rfl' h1
    | succ n ih =>
      intro h1 h2
      have g := ih (by omega) (fun k hk a b => h2 k hk a (by omega))
      have hb := h2 (p + n) (by omega) (by omega) (by omega)
      rw [← blank_is, Bool.or_eq_true] at hb
      exact g.trans (goes_step (by omega) (st_blank (by omega) hb)).1
  exact H n h.top h.all
theorem goes_note {s : ByteArray} {p j : Nat} (hp : p < s.size) (h3 : ((s[p].toNat : Int) == 35) = true) (h : Stops (fun b => b != 10) s p j) : Goes s p j ∧ p < j := by
  have hv : (s[p].toNat : Int) = 35 := by simpa using h3
  have hst := st_note hp (by rw [hv]; rfl) (by rw [hv]; rfl) h3 h.run
  have g := goes_step hp hst
  have hl := h.le
  have e : p + (j - p) = j := by omega
  rw [e] at g
  exact ⟨g.1, by omega⟩
set_option maxRecDepth 100000 in
theorem skip_any (s : ByteArray) (i : Nat) (hs : s.size ≤ 3000) (hi : i ≤ s.size) (w : World) :
    Calls Tryz.prog 91 #[.string s, .int .i64 i] w fun e w' => ∃ j : Nat, e = .returned (.int .i64 j) ∧ Goes s i j ∧ (∀ h : j < s.size, ((s[j].toNat : Int) == 32) = false ∧ ((s[j].toNat : Int) == 10) = false ∧ ((s[j].toNat : Int) == 35) = false) ∧ w' = w := by
  go_enter Tryz.func91, Tryz.ntmps91
  go_wp2
  go_loop [1] (fun t => ∃ j : Nat, j ≤ s.size ∧ t = .int .i64 j ∧ Hid (Goes s i j)) (fun t => s.size - (intOf t).toNat)
  case atStart => exact ⟨i, hi, rfl, Goes.rfl' hi⟩
  case round =>
    obtain ⟨j, hjs, rfl, HG⟩ := hrel
    go_wp2_with (fail)
    refine (reach_blank s j hs hjs _).mono ?_
    rintro e w' ⟨k, rfl, hk, hw⟩
    obtain rfl := hw.symm
    have HK : Hid (Goes s i k) := HG.out.trans (goes_blanks hk)
    have hkl := hk.le
    have hkt := hk.top
    have HS := hk.stop
    by_cases hq : k < s.size
    · have HB : Hid (((s[k].toNat : Int) == 32) = false ∧ ((s[k].toNat : Int) == 10) = false) := by
        rcases HS with h | ⟨_, h⟩
        · omega
        · rw [← blank_is, Bool.or_eq_false_iff] at h
          exact h
      clear HS hk
      cases h35 : ((s[k].toNat : Int) != 35)
      case true =>
        go_wp2
        go_ret
        exact ⟨k, rfl, HK.out, fun _ => ⟨HB.out.1, HB.out.2, by simpa [bne] using h35⟩, rfl⟩
      case false =>
        go_wp2_with (fail)
        refine (reach_noted s k hs hkt _).mono ?_
        rintro e w' ⟨m, rfl, hm, hw⟩
        obtain rfl := hw.symm
        have hg := goes_note hq (by simpa [bne] using h35) hm
        have HM : Hid (Goes s i m) := HK.out.trans hg.1
        have hlt := hg.2
        have hmt := hm.top
        clear hm hg
        go_wp2
        go_round
        case rel => exact ⟨m, hmt, rfl, HM.out⟩
        case measure => simp [intOf]; omega
    · have hke : k = s.size := by omega
      subst hke
      clear HS hk
      go_wp2
      go_ret
      exact ⟨s.size, rfl, HK.out, fun h => absurd h hq, rfl⟩
end Go.Proofs.YthfeojjfehbgjaaGreatDoor.lexs
