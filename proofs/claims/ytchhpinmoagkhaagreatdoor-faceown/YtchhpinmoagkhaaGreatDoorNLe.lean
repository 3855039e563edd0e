/- What the program's isLetter, isDigit, reach, skip answer: contracts. What the program's behind answers, and reach with what it answers; the library's Clone and IndexByte: contracts. What the program's judgeNumber and judge answer: contracts. One row of the program's scan: what behind, reach and judge come to, together. What the program's Scan answers: the contract. -/
import Derived.Test.YtchhpinmoagkhaaGreatDoorProg
import Derived.WalkKit
import Derived.WalkLawsBesides
import Derived.Outline
import Derived.WalkSmall
import Derived.BigQuiet
import Derived.Deep.QuietTactic
import Derived.Test.YtchhpinmoagkhaaGreatDoorNLc
import Derived.Lib.Walk
import Derived.Lib.Bytealg
import Derived.Test.YtchhpinmoagkhaaGreatDoorNLd
import Derived.Test.YtchhpinmoagkhaaGreatDoorNLa
import Derived.OneCell
namespace Go.Proofs.YtchhpinmoagkhaaGreatDoor.lexs
open Go.RowKit
set_option linter.unusedVariables false

theorem oletter (c : Int) (w : World) :
    Calls Tryz.prog 89 #[.int .u8 c] w fun e w' => e = .returned (.bool (ltrI c)) ∧ w' = w := by
  go_enter Tryz.func89, Tryz.ntmps89
  go_wp2
  all_goals
    go_ret
    exact ⟨ret_bool (by rw [Bool.eq_iff_iff]; simp [ltrI] <;> omega), rfl⟩
theorem odigit (c : Int) (w : World) :
    Calls Tryz.prog 90 #[.int .u8 c] w fun e w' => e = .returned (.bool (digI c)) ∧ w' = w := by
  go_enter Tryz.func90, Tryz.ntmps90
  go_wp2
  all_goals
    go_ret
    exact ⟨ret_bool (by rw [Bool.eq_iff_iff]; simp [digI] <;> omega), rfl⟩
theorem oblank (c : Int) (w : World) :
    Calls Tryz.prog 87 #[.int .u8 c] w fun e w' => e = .returned (.bool (c == 32 || c == 10)) ∧ w' = w := by
  go_enter Tryz.func87, Tryz.ntmps87
  go_wp2
  all_goals
    go_ret
    exact ⟨ret_bool (by first | rfl | (rw [Bool.eq_iff_iff]; simp <;> omega) | (simp_all)), rfl⟩
theorem onoted (c : Int) (w : World) :
    Calls Tryz.prog 88 #[.int .u8 c] w fun e w' => e = .returned (.bool (c != 10)) ∧ w' = w := by
  go_enter Tryz.func88, Tryz.ntmps88
  go_wp2
  all_goals
    go_ret
    exact ⟨ret_bool (by first | rfl | (rw [Bool.eq_iff_iff]; simp <;> omega) | (simp_all)), rfl⟩
theorem obehind1 (c : Int) (w : World) :
    Calls Tryz.prog 91 #[.int .u8 c] w fun e w' => e = .returned (.bool (insI c)) ∧ w' = w := by
  cases h1 : ltrI c <;> cases h2 : digI c
  all_goals
    go_enter Tryz.func91, Tryz.ntmps91
    go_wp2_with (first | (go_at_call 89; refine (oletter _ _).mono ?_; rintro e w' ⟨rfl, rfl⟩) | (go_at_call 90; refine (odigit _ _).mono ?_; rintro e w' ⟨rfl, rfl⟩))
    go_ret
    exact ⟨ret_bool (by unfold insI; rw [h1, h2]; simp), rfl⟩
/-- from i on such bytes stand up to j, and no further -/
structure Stops (P : UInt8 → Bool) (s : ByteArray) (i j : Nat) : Prop where
  le : i ≤ j
  top : j ≤ s.size
  all : ∀ k (h : k < s.size), i ≤ k → k < j → P s[k] = true
  stop : j = s.size ∨ ∃ h : j < s.size, P s[j] = false
theorem Stops.run {P : UInt8 → Bool} {s : ByteArray} {i j : Nat} (h : Stops P s i j) : run P (s.data.toList.drop i) = j - i := by
  have e : i + (j - i) = j := by have := h.le; omega
  exact run_at P s i (j - i) (by have := h.top; omega) (fun k hk h1 h2 => h.all k hk h1 (by omega)) (by simp only [e]; exact h.stop)
set_option maxRecDepth 100000 in
theorem reach_digit (s : ByteArray) (i : Nat) (hs : s.size ≤ 3000) (hi : i ≤ s.size) (w : World) :
    Calls Tryz.prog 44 #[.string s, .int .i64 i, .func (.func 90) #[] #[]] w fun e w' => ∃ j : Nat, e = .returned (.int .i64 j) ∧ Stops digB s i j ∧ w' = w := by
  go_enter Tryz.func44, Tryz.ntmps44
  go_wp2
  go_loop [1] (fun t => ∃ j : Nat, i ≤ j ∧ j ≤ s.size ∧ t = .int .i64 j ∧ Hid (∀ k (h : k < s.size), i ≤ k → k < j → digB s[k] = true)) (fun t => s.size - (intOf t).toNat)
  case atStart => exact ⟨i, by omega, hi, rfl, fun k _ h1 h2 => by omega⟩
  case round =>
    obtain ⟨j, hij, hjs, rfl, HN⟩ := hrel
    by_cases hq : j < s.size
    · cases hb : digI (s[j].toNat : Int)
      · go_wp2_with (go_at_call 90; refine (odigit _ _).mono ?_; rintro e w' ⟨rfl, hw⟩; obtain rfl := hw.symm)
        go_ret
        exact ⟨j, rfl, ⟨hij, hjs, HN.out, .inr ⟨hq, by exact hb⟩⟩, rfl⟩
      · go_wp2_with (go_at_call 90; refine (odigit _ _).mono ?_; rintro e w' ⟨rfl, hw⟩; obtain rfl := hw.symm)
        go_round
        case rel => exact ⟨j + 1, by omega, by omega, by go_num, fun k h h1 h2 => by
          rcases Nat.lt_or_ge k j with h3 | h3
          · exact HN.out k h h1 h3
          · have : k = j := by omega
            subst this
            exact hb⟩
        case measure => simp [intOf]; omega
    · go_wp2_with (go_at_call 90; refine (odigit _ _).mono ?_; rintro e w' ⟨rfl, hw⟩; obtain rfl := hw.symm)
      go_ret
      exact ⟨j, rfl, ⟨hij, hjs, HN.out, .inl (by omega)⟩, rfl⟩
set_option maxRecDepth 100000 in
theorem reach_inside (s : ByteArray) (i : Nat) (hs : s.size ≤ 3000) (hi : i ≤ s.size) (w : World) :
    Calls Tryz.prog 44 #[.string s, .int .i64 i, .func (.func 91) #[] #[]] w fun e w' => ∃ j : Nat, e = .returned (.int .i64 j) ∧ Stops insB s i j ∧ w' = w := by
  go_enter Tryz.func44, Tryz.ntmps44
  go_wp2
  go_loop [1] (fun t => ∃ j : Nat, i ≤ j ∧ j ≤ s.size ∧ t = .int .i64 j ∧ Hid (∀ k (h : k < s.size), i ≤ k → k < j → insB s[k] = true)) (fun t => s.size - (intOf t).toNat)
  case atStart => exact ⟨i, by omega, hi, rfl, fun k _ h1 h2 => by omega⟩
  case round =>
    obtain ⟨j, hij, hjs, rfl, HN⟩ := hrel
    by_cases hq : j < s.size
    · cases hb : insI (s[j].toNat : Int)
      · go_wp2_with (go_at_call 91; refine (obehind1 _ _).mono ?_; rintro e w' ⟨rfl, hw⟩; obtain rfl := hw.symm)
        go_ret
        exact ⟨j, rfl, ⟨hij, hjs, HN.out, .inr ⟨hq, by exact hb⟩⟩, rfl⟩
      · go_wp2_with (go_at_call 91; refine (obehind1 _ _).mono ?_; rintro e w' ⟨rfl, hw⟩; obtain rfl := hw.symm)
        go_round
        case rel => exact ⟨j + 1, by omega, by omega, by go_num, fun k h h1 h2 => by
          rcases Nat.lt_or_ge k j with h3 | h3
          · exact HN.out k h h1 h3
          · have : k = j := by omega
            subst this
            exact hb⟩
        case measure => simp [intOf]; omega
    · go_wp2_with (go_at_call 91; refine (obehind1 _ _).mono ?_; rintro e w' ⟨rfl, hw⟩; obtain rfl := hw.symm)
      go_ret
      exact ⟨j, rfl, ⟨hij, hjs, HN.out, .inl (by omega)⟩, rfl⟩
theorem blank_is (b : UInt8) : ((b.toNat : Int) == 32 || (b.toNat : Int) == 10) = (b == 32 || b == 10) := by rw [byte_is _ 32 32 rfl, byte_is _ 10 10 rfl]
theorem noted_is (b : UInt8) : ((b.toNat : Int) != 10) = (b != 10) := by rw [bne, byte_is _ 10 10 rfl]; rfl
set_option maxRecDepth 100000 in
theorem reach_blank (s : ByteArray) (i : Nat) (hs : s.size ≤ 3000) (hi : i ≤ s.size) (w : World) :
    Calls Tryz.prog 44 #[.string s, .int .i64 i, .func (.func 87) #[] #[]] w fun e w' => ∃ j : Nat, e = .returned (.int .i64 j) ∧ Stops (fun b => b == 32 || b == 10) s i j ∧ w' = w := by
  go_enter Tryz.func44, Tryz.ntmps44
  go_wp2
  go_loop [1] (fun t => ∃ j : Nat, i ≤ j ∧ j ≤ s.size ∧ t = .int .i64 j ∧ Hid (∀ k (h : k < s.size), i ≤ k → k < j → (fun b => b == 32 || b == 10) s[k] = true)) (fun t => s.size - (intOf t).toNat)
  case atStart => exact ⟨i, by omega, hi, rfl, fun k _ h1 h2 => by omega⟩
  case round =>
    obtain ⟨j, hij, hjs, rfl, HN⟩ := hrel
    by_cases hq : j < s.size
    · cases hb : ((s[j].toNat : Int) == 32 || (s[j].toNat : Int) == 10)
      · go_wp2_with (go_at_call 87; refine (oblank _ _).mono ?_; rintro e w' ⟨rfl, hw⟩; obtain rfl := hw.symm)
        go_ret
        exact ⟨j, rfl, ⟨hij, hjs, HN.out, .inr ⟨hq, by rw [blank_is] at hb; exact hb⟩⟩, rfl⟩
      · go_wp2_with (go_at_call 87; refine (oblank _ _).mono ?_; rintro e w' ⟨rfl, hw⟩; obtain rfl := hw.symm)
        go_round
        case rel => exact ⟨j + 1, by omega, by omega, by go_num, fun k h h1 h2 => by
          rcases Nat.lt_or_ge k j with h3 | h3
          · exact HN.out k h h1 h3
          · have : k = j := by omega
            subst this
            rw [blank_is] at hb; exact hb⟩
        case measure => simp [intOf]; omega
    · go_wp2_with (go_at_call 87; refine (oblank _ _).mono ?_; rintro e w' ⟨rfl, hw⟩; obtain rfl := hw.symm)
      go_ret
      exact ⟨j, rfl, ⟨hij, hjs, HN.out, .inl (by omega)⟩, rfl⟩
set_option maxRecDepth 100000 in
theorem reach_noted (s : ByteArray) (i : Nat) (hs : s.size ≤ 3000) (hi : i ≤ s.size) (w : World) :
    Calls Tryz.prog 44 #[.string s, .int .i64 i, .func (.func 88) #[] #[]] w fun e w' => ∃ j : Nat, e = .returned (.int .i64 j) ∧ Stops (fun b => b != 10) s i j ∧ w' = w := by
  go_enter Tryz.func44, Tryz.ntmps44
  go_wp2
  go_loop [1] (fun t => ∃ j : Nat, i ≤ j ∧ j ≤ s.size ∧ t = .int .i64 j ∧ Hid (∀ k (h : k < s.size), i ≤ k → k < j → (fun b => b != 10) s[k] = true)) (fun t => s.size - (intOf t).toNat)
  case atStart => exact ⟨i, by omega, hi, rfl, fun k _ h1 h2 => by omega⟩
  case round =>
    obtain ⟨j, hij, hjs, rfl, HN⟩ := hrel
    by_cases hq : j < s.size
    · cases hb : ((s[j].toNat : Int) != 10)
      · go_wp2_with (go_at_call 88; refine (onoted _ _).mono ?_; rintro e w' ⟨rfl, hw⟩; obtain rfl := hw.symm)
        go_ret
        exact ⟨j, rfl, ⟨hij, hjs, HN.out, .inr ⟨hq, by rw [noted_is] at hb; exact hb⟩⟩, rfl⟩
      · go_wp2_with (go_at_call 88; refine (onoted _ _).mono ?_; rintro e w' ⟨rfl, hw⟩; obtain rfl := hw.symm)
        go_round
        case rel => exact ⟨j + 1, by omega, by omega, by go_num, fun k h h1 h2 => by
          rcases Nat.lt_or_ge k j with h3 | h3
          · exact HN.out k h h1 h3
          · have : k = j := by omega
            subst this
            rw [noted_is] at hb; exact hb⟩
        case measure => simp [intOf]; omega
    · go_wp2_with (go_at_call 88; refine (onoted _ _).mono ?_; rintro e w' ⟨rfl, hw⟩; obtain rfl := hw.symm)
      go_ret
      exact ⟨j, rfl, ⟨hij, hjs, HN.out, .inl (by omega)⟩, rfl⟩
/-! ### what is passed by -/
/-- from p the scan comes to j, and no token lies between -/
structure Goes (s : ByteArray) (p j : Nat) : Prop where
  le : p ≤ j
  top : j ≤ s.size
  on : ∀ (f : Nat) (acc : List Tok) (R : Res), s.size ≤ p + f → scanL f (s.data.toList.drop p) p acc = R → ∃ f', s.size ≤ j + f' ∧ scanL f' (s.data.toList.drop j) j acc = R
theorem Goes.rfl' {s : ByteArray} {p : Nat} (h : p ≤ s.size) : Goes s p p := ⟨Nat.le_refl _, h, fun f acc R h1 h2 => ⟨f, h1, h2⟩⟩
theorem Goes.trans {s : ByteArray} {p j k : Nat} (h1 : Goes s p j) (h2 : Goes s j k) : Goes s p k :=
  ⟨Nat.le_trans h1.le h2.le, h2.top, fun f acc R a b => by
    obtain ⟨f', a', b'⟩ := h1.on f acc R a b
    exact h2.on f' acc R a' b'⟩
theorem goes_step {s : ByteArray} {p n : Nat} (hp : p < s.size) (h : stepL (s.data.toList.drop p) = .skip n) : Goes s p (p + n) ∧ 0 < n := by
  have h0 := go_skip hp (f := 0) (acc := []) h rfl
  refine ⟨⟨by omega, h0.2.2, fun f acc R a b => ?_⟩, h0.2.1⟩
  obtain ⟨f, rfl⟩ : ∃ f', f = f' + 1 := ⟨f - 1, by omega⟩
  have hg := go_skip hp h b
  exact ⟨f, by omega, hg.1⟩
theorem goes_blanks {s : ByteArray} {p j : Nat} (h : Stops (fun b => b == 32 || b == 10) s p j) : Goes s p j := by
  obtain ⟨n, rfl⟩ : ∃ n, j = p + n := ⟨j - p, by have := h.le; omega⟩
  have H : ∀ n, p + n ≤ s.size → (∀ k (h : k < s.size), p ≤ k → k < p + n → (s[k] == 32 || s[k] == 10) = true) → Goes s p (p + n) := by
    intro n
    induction n with
    | zero => intro h1 _; exact Goes.rfl' h1
    | succ n ih =>
      intro h1 h2
      have g := ih (by omega) (fun k hk a b => h2 k hk a (by omega))
      have hb := h2 (p + n) (by omega) (by omega) (by omega)
      rw [← blank_is, Bool.or_eq_true] at hb
      exact g.trans (goes_step (by omega) (st_blank (by omega) hb)).1
  exact H n h.top h.all
theorem goes_note {s : ByteArray} {p j : Nat} (hp : p < s.size) (h3 : ((s[p].toNat : Int) == 35) = true) (h : Stops (fun b => b != 10) s p j) : Goes s p j ∧ p < j := by
  have hv : (s[p].toNat : Int) = 35 := by simpa using h3
  have hst := st_note hp (by rw [hv]; rfl) (by rw [hv]; rfl) h3 h.run
  have g := goes_step hp hst
  have hl := h.le
  have e : p + (j - p) = j := by omega
  rw [e] at g
  exact ⟨g.1, by omega⟩
set_option maxRecDepth 100000 in
theorem skip_any (s : ByteArray) (i : Nat) (hs : s.size ≤ 3000) (hi : i ≤ s.size) (w : World) :
    Calls Tryz.prog 43 #[.string s, .int .i64 i] w fun e w' => ∃ j : Nat, e = .returned (.int .i64 j) ∧ Goes s i j ∧ (∀ h : j < s.size, ((s[j].toNat : Int) == 32) = false ∧ ((s[j].toNat : Int) == 10) = false ∧ ((s[j].toNat : Int) == 35) = false) ∧ w' = w := by
  go_enter Tryz.func43, Tryz.ntmps43
  go_wp2
  go_loop [1] (fun t => ∃ j : Nat, j ≤ s.size ∧ t = .int .i64 j ∧ Hid (Goes s i j)) (fun t => s.size - (intOf t).toNat)
  case atStart => exact ⟨i, hi, rfl, Goes.rfl' hi⟩
  case round =>
    obtain ⟨j, hjs, rfl, HG⟩ := hrel
    go_wp2_with (fail)
    refine (reach_blank s j hs hjs _).mono ?_
    rintro e w' ⟨k, rfl, hk, hw⟩
    obtain rfl := hw.symm
    have HK : Hid (Goes s i k) := HG.out.trans (goes_blanks hk)
    have hkl := hk.le
    have hkt := hk.top
    have HS := hk.stop
    by_cases hq : k < s.size
    · have HB : Hid (((s[k].toNat : Int) == 32) = false ∧ ((s[k].toNat : Int) == 10) = false) := by
        rcases HS with h | ⟨_, h⟩
        · omega
        · rw [← blank_is, Bool.or_eq_false_iff] at h
          exact h
      clear HS hk
      cases h35 : ((s[k].toNat : Int) != 35)
      case true =>
        go_wp2
        go_ret
        exact ⟨k, rfl, HK.out, fun _ => ⟨HB.out.1, HB.out.2, by simpa [bne] using h35⟩, rfl⟩
      case false =>
        go_wp2_with (fail)
        refine (reach_noted s k hs hkt _).mono ?_
        rintro e w' ⟨m, rfl, hm, hw⟩
        obtain rfl := hw.symm
        have hg := goes_note hq (by simpa [bne] using h35) hm
        have HM : Hid (Goes s i m) := HK.out.trans hg.1
        have hlt := hg.2
        have hmt := hm.top
        clear hm hg
        go_wp2
        go_round
        case rel => exact ⟨m, hmt, rfl, HM.out⟩
        case measure => simp [intOf]; omega
    · have hke : k = s.size := by omega
      subst hke
      clear HS hk
      go_wp2
      go_ret
      exact ⟨s.size, rfl, HK.out, fun h => absurd h hq, rfl⟩
end Go.Proofs.YtchhpinmoagkhaaGreatDoor.lexs
namespace Go.Proofs.YtchhpinmoagkhaaGreatDoor.lexs
open Go.RowKit
set_option linter.unusedVariables false

theorem behind_row (c : Int) (h : (ltrI c || digI c) = true) (w : World) :
    Calls Tryz.prog 45 #[.int .u8 c] w fun e w' => e = .returned (.func (.func 91) #[] #[]) ∧ Below w.heap.size w w' := by
  cases h1 : ltrI c <;> cases h2 : digI c
  case false.false => simp [h1, h2] at h
  all_goals
    go_enter Tryz.func45, Tryz.ntmps45
    go_wp2_with (first | (go_at_call 89; refine (oletter _ _).mono ?_; rintro e w' ⟨rfl, hw⟩; obtain rfl := hw.symm) | (go_at_call 90; refine (odigit _ _).mono ?_; rintro e w' ⟨rfl, hw⟩; obtain rfl := hw.symm))
    go_ret
    exact ⟨rfl, (Below.refl _ _).alloc (Nat.le_refl _) _⟩
/-- the two boxes that a sign's closure holds -/
def Boxed (w w' : World) (c : Int) : Prop := w'.cell? ⟨w.heap.size + 1, 0, none⟩ = some (.int .i64 1) ∧ w'.cell? ⟨w.heap.size, 0, none⟩ = some (.int .u8 c) ∧ w'.frozen? ⟨w.heap.size + 1, 0, none⟩ = false ∧ Below w.heap.size w w'
theorem behind_sign (c : Int) (h1 : ltrI c = false) (h2 : digI c = false) (w : World) :
    Calls Tryz.prog 45 #[.int .u8 c] w fun e w' => e = .returned (.func (.func 92) #[] #[.pointer (some ⟨w.heap.size + 1, 0, none⟩), .pointer (some ⟨w.heap.size, 0, none⟩)]) ∧ Boxed w w' c := by
  have hmf : ∀ (fn : Fn) (first cap : Array Value) (w : World), (Instr.makeFunc fn first cap).run Tryz.prog w = .ok (.func fn first cap) w := fun _ _ _ _ => rfl
  go_enter Tryz.func45, Tryz.ntmps45
  go_wp2_with (first | (go_at_call 89; refine (oletter _ _).mono ?_; rintro e w' ⟨rfl, hw⟩; obtain rfl := hw.symm) | (go_at_call 90; refine (odigit _ _).mono ?_; rintro e w' ⟨rfl, hw⟩; obtain rfl := hw.symm))
  go_ret
  refine ⟨rfl, ?_, ?_, ?_, ?_⟩
  · simp
  · simp
  · simp
  · exact ((Below.refl _ _).alloc (Nat.le_refl _) _).alloc (by simp) _
theorem obehind2 (x n c : Int) (a b : Addr) (w : World) (hn : 0 ≤ n ∧ n ≤ 5) (ha : w.cell? a = some (.int .i64 n)) (hb : w.cell? b = some (.int .u8 c)) (hf : w.frozen? a = false) (hab : a ≠ b) :
    Calls Tryz.prog 92 #[.int .u8 x, .pointer (some a), .pointer (some b)] w fun e w' => e = .returned (.bool (n == 1 && c == 61 && x == 61)) ∧ w' = w.setCell a (.int .i64 (n + 1)) := by
  have hw : IntKind.i64.wrap (n + 1) = n + 1 := by rw [IntKind.wrap_i64]; omega
  have ha' := World.cell?_setCell_same w a (.int .i64 (n + 1)) ha
  have hb' := (World.cell?_setCell_other w a b (.int .i64 (n + 1)) hab).trans hb
  have e : (n + 1 == 2) = (n == 1) := by rw [Bool.eq_iff_iff]; simp; omega
  cases h1 : (n == 1) <;> cases h2 : (c == 61) <;> cases h3 : (x == 61)
  all_goals
    rw [h1] at e
    go_enter Tryz.func92, Tryz.ntmps92
    go_wp2
    go_ret
    exact ⟨rfl, rfl⟩
/-- one byte more, where a second '=' follows -/
def more (l : List UInt8) (c : Int) : Nat := if c == 61 && l.headD 0 == 61 then 1 else 0
theorem head_at (s : ByteArray) (i : Nat) (h : i < s.size) : ((s.data.toList.drop i).headD 0 == 61) = ((s[i].toNat : Int) == 61) := by
  rw [drop_cons s i h, List.headD_cons, byte_is _ 61 61 rfl]
theorem head_end (s : ByteArray) (i : Nat) (h : s.size ≤ i) : ((s.data.toList.drop i).headD 0 == 61) = false := by
  rw [List.drop_eq_nil_of_le (by rw [len_L]; exact h)]; rfl
set_option maxRecDepth 100000 in
theorem reach_sign (s : ByteArray) (i : Nat) (c : Int) (a b : Addr) (hs : s.size ≤ 3000) (hi : i ≤ s.size) (w : World) (ha : w.cell? a = some (.int .i64 1)) (hb : w.cell? b = some (.int .u8 c)) (hf : w.frozen? a = false) (hab : a ≠ b) :
    Calls Tryz.prog 44 #[.string s, .int .i64 i, .func (.func 92) #[] #[.pointer (some a), .pointer (some b)]] w fun e w' => e = .returned (.int .i64 ((i + more (s.data.toList.drop i) c : Nat) : Int)) ∧ Below a.block w w' := by
  have ha' := World.cell?_setCell_same w a (.int .i64 2) ha
  have hb' := (World.cell?_setCell_other w a b (.int .i64 2) hab).trans hb
  have hf' : (w.setCell a (.int .i64 2)).frozen? a = false := by simp [hf]
  have B0 : Below a.block w w := Below.refl _ _
  have B1 : Below a.block w (w.setCell a (.int .i64 2)) := B0.setCell (Nat.le_refl _) _
  have B2 : Below a.block w ((w.setCell a (.int .i64 2)).setCell a (.int .i64 3)) := B1.setCell (Nat.le_refl _) _
  go_enter Tryz.func44, Tryz.ntmps44
  go_wp2
  go_loopw [1] (fun t wr => (t = .int .i64 i ∧ wr = w) ∨ (t = .int .i64 ((i : Int) + 1) ∧ i < s.size ∧ Hid (more (s.data.toList.drop i) c = 1) ∧ wr = w.setCell a (.int .i64 2))) (fun t _ => i + 1 - (intOf t).toNat)
  case atStart => exact .inl ⟨rfl, rfl⟩
  case round =>
    rcases hrel with ⟨rfl, rfl⟩ | ⟨rfl, hlt, HM, rfl⟩
    · by_cases hq : i < s.size
      · have hh := head_at s i hq
        cases hg : (c == 61 && (s[i].toNat : Int) == 61)
        · have HM : Hid (more (s.data.toList.drop i) c = 0) := by show _ = _; unfold more; rw [hh, hg]; rfl
          clear hh
          go_wp2_with (go_at_call 92; refine (obehind2 _ 1 c a b _ (by omega) ha hb hf hab).mono ?_; rintro e w' ⟨rfl, hw⟩; obtain rfl := hw.symm)
          go_ret
          exact ⟨by rw [HM.out]; rfl, B1⟩
        · have HM : Hid (more (s.data.toList.drop i) c = 1) := by show _ = _; unfold more; rw [hh, hg]; rfl
          clear hh
          go_wp2_with (go_at_call 92; refine (obehind2 _ 1 c a b _ (by omega) ha hb hf hab).mono ?_; rintro e w' ⟨rfl, hw⟩; obtain rfl := hw.symm)
          go_roundw
          case rel => exact .inr ⟨by go_num, hq, HM.out, by first | rfl | trivial⟩
          case measure => simp [intOf] <;> omega
      · have HM : Hid (more (s.data.toList.drop i) c = 0) := by show _ = _; unfold more; rw [head_end s i (by omega)]; simp
        go_wp2_with (go_at_call 92; refine (obehind2 _ 1 c a b _ (by omega) ha hb hf hab).mono ?_; rintro e w' ⟨rfl, hw⟩; obtain rfl := hw.symm)
        go_ret
        exact ⟨by rw [HM.out]; rfl, B0⟩
    · by_cases hq : i + 1 < s.size
      · go_wp2_with (go_at_call 92; refine (obehind2 _ 2 c a b _ (by omega) ha' hb' hf' hab).mono ?_; rintro e w' ⟨rfl, hw⟩; obtain rfl := hw.symm)
        go_ret
        exact ⟨by rw [HM.out]; rfl, B2⟩
      · go_wp2_with (go_at_call 92; refine (obehind2 _ 2 c a b _ (by omega) ha' hb' hf' hab).mono ?_; rintro e w' ⟨rfl, hw⟩; obtain rfl := hw.symm)
        go_ret
        exact ⟨by rw [HM.out]; rfl, B1⟩
theorem clone_any (x : ByteArray) (h : x.size ≤ 3000) (w : World) :
    Calls Tryz.prog 47 #[.string x] w fun e w' => e = .returned (.string x) ∧ Below w.heap.size w w' := by
  go_enter Tryz.func47, Tryz.ntmps47
  go_wp2_with (go_at_call 95; refine (Any.stringslite_Clone Tryz.laysClone x _ (by omega)).mono ?_; rintro e w' ⟨rfl, hb⟩)
  go_ret
  exact ⟨rfl, hb⟩
set_option maxHeartbeats 1000000 in
set_option maxRecDepth 100000 in
theorem index_lite (s : ByteArray) (c : Int) (w : World) :
    Calls Tryz.prog 117 #[.string s, .int .u8 c] w fun e w' => e = .returned (.int .i64 (Lib.indexByte s.data.toList c.toNat.toUInt8)) ∧ w' = w := by
  go_enter Tryz.func117, Tryz.ntmps117
  go_wp2
  rw [run_callFunc_extern Tryz.func142 (by kernel_rfl) (by kernel_rfl) (by kernel_rfl) (e := Extern.BytealgIndexByte.indexByte) (by kernel_rfl), Lib.run_indexByteString]
  simp only [Result.andThen]
  rw [Oper.upon_value]
  go_wp2
  go_ret
  exact ⟨rfl, rfl⟩
theorem index_any (s : ByteArray) (c : Int) (w : World) :
    Calls Tryz.prog 94 #[.string s, .int .u8 c] w fun e w' => e = .returned (.int .i64 (Lib.indexByte s.data.toList c.toNat.toUInt8)) ∧ w' = w := by
  go_enter Tryz.func94, Tryz.ntmps94
  go_wp2_with (go_at_call 117; refine (index_lite _ _ _).mono ?_; rintro e w' ⟨rfl, rfl⟩)
  go_ret
  exact ⟨rfl, rfl⟩
theorem has_index (l : List UInt8) (c : UInt8) : decide (Lib.indexByte l c ≥ 0) = l.contains c := by
  induction l with
  | nil => simp [Lib.indexByte]
  | cons b l ih =>
    have hg := Lib.indexByte_ge l c
    rw [List.contains_cons, ← ih, Lib.indexByte]
    by_cases h : b = c
    · subst h; simp
    · have h' : ¬ (c = b) := fun e => h e.symm
      simp only [beq_iff_eq, h, if_false]
      by_cases h1 : Lib.indexByte l c = -1
      · simp [h1, h']
      · rw [if_neg h1, Bool.eq_iff_iff]
        simp [h']
        omega
end Go.Proofs.YtchhpinmoagkhaaGreatDoor.lexs
namespace Go.Proofs.YtchhpinmoagkhaaGreatDoor.lexs
open Go.RowKit
set_option linter.unusedVariables false

/-- the library's variable ErrRange holds an interface's value -/
def HasErr (w : World) : Prop := ∃ ev, w.cell? ⟨Tryz.laysPI_ren.g 16, 0, none⟩ = some ev ∧ (ev = .nilIface ∨ ∃ te pe, ev = .iface te pe)
theorem hasErr_below {w w' : World} (h : HasErr w) (hb : Below w.heap.size w w') : HasErr w' := by
  obtain ⟨ev, h1, h2⟩ := h
  have hlt : Tryz.laysPI_ren.g 16 < w.heap.size := by
    rcases Nat.lt_or_ge (Tryz.laysPI_ren.g 16) w.heap.size with h | h
    · exact h
    · exfalso
      simp only [World.cell?] at h1
      rw [Array.getElem?_eq_none h] at h1
      simp at h1
  exact ⟨ev, by rw [hb.cell (p := ⟨Tryz.laysPI_ren.g 16, 0, none⟩) hlt]; exact h1, h2⟩
theorem parse_ok (x : ByteArray) (hs : x.size ≤ 3000) (h : x.data.toList.all digB = true) (h0 : x.data.toList ≠ []) (hv : val x.data.toList < 9223372036854775808) (w : World) :
    Calls Tryz.prog 116 #[.string x, .int .i64 10, .int .i64 64] w fun e w' => e = .returned (.tuple #[.int .i64 (val x.data.toList : Int), .nilIface]) ∧ Below w.heap.size w w' := by
  refine (Any.strconv_ParseInt_10_at64_ok Tryz.laysPI x (by omega) _ (by rw [parse_all _ h h0, if_pos hv]) w).mono ?_
  rintro e w' ⟨rfl, rfl | ⟨t, rfl⟩⟩
  · exact ⟨rfl, Below.refl _ _⟩
  · exact ⟨rfl, Lib.bytesWorld_below _ _ _⟩
theorem parse_range (x : ByteArray) (hs : x.size ≤ 3000) (h : x.data.toList.all digB = true) (h0 : x.data.toList ≠ []) (hv : ¬ val x.data.toList < 9223372036854775808) (w : World) (he : HasErr w) :
    Calls Tryz.prog 116 #[.string x, .int .i64 10, .int .i64 64] w fun e w' => ∃ i T N, e = .returned (.tuple #[.int .i64 i, .iface T (.pointer (some ⟨N, 0, none⟩))]) ∧ Below w.heap.size w w' := by
  obtain ⟨ev, h1, h2⟩ := he
  refine (Any.strconv_ParseInt_10_at64_range Tryz.laysPI x (by omega) (by rw [parse_all _ h h0, if_neg hv]) ev w h1 h2).mono ?_
  rintro e w' ⟨N, rfl, _, _, hb⟩
  exact ⟨_, _, N, rfl, hb⟩
theorem stops_all {x : ByteArray} {j : Nat} (h : Stops digB x 0 j) (hj : j = x.size) : x.data.toList.all digB = true := by
  rw [List.all_eq_true]
  intro c hc
  obtain ⟨k, hk, rfl⟩ := List.mem_iff_getElem.1 hc
  rw [len_L] at hk
  exact h.all k hk (by omega) (by omega)
theorem ne_nil {x : ByteArray} (h : 0 < x.size) : x.data.toList ≠ [] := by intro e; have := len_L x; rw [e] at this; simp at this; omega
set_option maxRecDepth 100000 in
theorem judgeNumber_any (x : ByteArray) (hs : x.size ≤ 3000) (h0 : 0 < x.size) (w : World) (he : HasErr w) :
    Calls Tryz.prog 93 #[.string x] w fun e w' => e = .returned (.int .i64 (numE x.data.toList)) ∧ Below w.heap.size w w' := by
  go_enter Tryz.func93, Tryz.ntmps93
  go_wp2_with (fail)
  refine (reach_digit x 0 hs (by omega) _).mono ?_
  rintro e w' ⟨j, rfl, hj, hw⟩
  obtain rfl := hw.symm
  have hjt := hj.top
  by_cases hlt : j < x.size
  · have HE : Hid (2 = numE x.data.toList) := by
      rcases hj.stop with h | ⟨h, hd⟩
      · omega
      · exact num_bad x j h hd
    clear hj
    go_wp2
    go_ret
    exact ⟨ret_i64 HE.out, Below.refl _ _⟩
  · have hje : j = x.size := by omega
    have ha := stops_all hj hje
    clear hj
    subst hje
    have hh := headL x h0
    cases hz : (decide (1 < x.data.toList.length) && x.data.toList.headD 0 == 48)
    · have HN := numE_val _ ha (ne_nil h0) hz
      rw [len_L, hh, ← byte_is _ 48 48 rfl] at hz
      by_cases hv : val x.data.toList < 9223372036854775808
      · rw [if_pos hv] at HN
        have HN' : Hid (numE x.data.toList = 0) := HN
        have HV : Hid (val x.data.toList < 9223372036854775808) := hv
        have HA : Hid (x.data.toList.all digB = true) := ha
        clear HN hv ha
        by_cases h1 : 1 < x.size
        · have hb : ((x[0].toNat : Int) == 48) = false := by simpa [h1] using hz
          clear hz hh
          go_wp2_with (go_at_call 116; refine (parse_ok x hs HA.out (ne_nil h0) HV.out _).mono ?_; rintro e w1 ⟨rfl, hb1⟩)
          go_ret
          exact ⟨ret_i64 HN'.out.symm, hb1⟩
        · clear hz hh
          go_wp2_with (go_at_call 116; refine (parse_ok x hs HA.out (ne_nil h0) HV.out _).mono ?_; rintro e w1 ⟨rfl, hb1⟩)
          go_ret
          exact ⟨ret_i64 HN'.out.symm, hb1⟩
      · rw [if_neg hv] at HN
        have HN' : Hid (numE x.data.toList = 6) := HN
        have HV : Hid (¬ val x.data.toList < 9223372036854775808) := hv
        have HA : Hid (x.data.toList.all digB = true) := ha
        clear HN hv ha
        by_cases h1 : 1 < x.size
        · have hb : ((x[0].toNat : Int) == 48) = false := by simpa [h1] using hz
          clear hz hh
          go_wp2_with (go_at_call 116; refine (parse_range x hs HA.out (ne_nil h0) HV.out _ he).mono ?_; rintro e w1 ⟨i1, T1, N1, rfl, hb1⟩)
          go_ret
          exact ⟨ret_i64 HN'.out.symm, hb1⟩
        · clear hz hh
          go_wp2_with (go_at_call 116; refine (parse_range x hs HA.out (ne_nil h0) HV.out _ he).mono ?_; rintro e w1 ⟨i1, T1, N1, rfl, hb1⟩)
          go_ret
          exact ⟨ret_i64 HN'.out.symm, hb1⟩
    · have HN : Hid (numE x.data.toList = 2) := by
        show _ = _
        rw [numE, if_neg (by simp [ha]), if_pos hz]
      rw [len_L, hh, ← byte_is _ 48 48 rfl, Bool.and_eq_true] at hz
      have h1 : 1 < x.size := by simpa using hz.1
      have hb := hz.2
      clear hz hh ha
      go_wp2
      go_ret
      exact ⟨ret_i64 HN.out.symm, Below.refl _ _⟩
def signs : ByteArray := ⟨#[123, 125, 40, 41, 91, 93, 59, 44, 46, 61, 60, 43, 45, 42, 47, 37, 38, 124, 33]⟩
theorem index_signs (b : UInt8) : decide (Lib.indexByte signs.data.toList ((b.toNat : Int)).toNat.toUInt8 ≥ 0) = ones.contains b := by
  have e : ((b.toNat : Int)).toNat.toUInt8 = b := by simp
  rw [e, has_index]
  rfl
theorem judge_word (x : ByteArray) (hs : x.size ≤ 3000) (h0 : 0 < x.size) (w : World) (hl : ltrI (x[0].toNat : Int) = true) (h16 : x.size ≤ 16) :
    Calls Tryz.prog 46 #[.string x] w fun e w' => e = .returned (.tuple #[.int .i64 1, .int .i64 0]) ∧ Below w.heap.size w w' := by
  go_enter Tryz.func46, Tryz.ntmps46
  go_wp2_with (go_at_call 89; refine (oletter _ _).mono ?_; rintro e w' ⟨rfl, hw⟩; obtain rfl := hw.symm)
  exact bodyPost_ret (v := .tuple #[.int .i64 1, .int .i64 0]) (by simp [results, Tryz.results46, go_sem]) rfl ⟨rfl, Below.refl _ _⟩
theorem judge_long (x : ByteArray) (hs : x.size ≤ 3000) (h0 : 0 < x.size) (w : World) (hl : ltrI (x[0].toNat : Int) = true) (h16 : 16 < x.size) :
    Calls Tryz.prog 46 #[.string x] w fun e w' => e = .returned (.tuple #[.int .i64 0, .int .i64 1]) ∧ Below w.heap.size w w' := by
  go_enter Tryz.func46, Tryz.ntmps46
  go_wp2_with (go_at_call 89; refine (oletter _ _).mono ?_; rintro e w' ⟨rfl, hw⟩; obtain rfl := hw.symm)
  exact bodyPost_ret (v := .tuple #[.int .i64 0, .int .i64 1]) (by simp [results, Tryz.results46, go_sem]) rfl ⟨rfl, Below.refl _ _⟩
theorem judge_num (x : ByteArray) (hs : x.size ≤ 3000) (h0 : 0 < x.size) (w : World) (he : HasErr w) (hl : ltrI (x[0].toNat : Int) = false) (hd : digI (x[0].toNat : Int) = true) :
    Calls Tryz.prog 46 #[.string x] w fun e w' => e = .returned (.tuple #[.int .i64 2, .int .i64 (numE x.data.toList)]) ∧ Below w.heap.size w w' := by
  go_enter Tryz.func46, Tryz.ntmps46
  go_wp2_with (first
    | (go_at_call 89; refine (oletter _ _).mono ?_; rintro e w' ⟨rfl, hw⟩; obtain rfl := hw.symm)
    | (go_at_call 90; refine (odigit _ _).mono ?_; rintro e w' ⟨rfl, hw⟩; obtain rfl := hw.symm)
    | (go_at_call 93; refine (judgeNumber_any x hs h0 _ he).mono ?_; rintro e w1 ⟨rfl, hb1⟩))
  exact bodyPost_ret (v := .tuple #[.int .i64 2, .int .i64 (numE x.data.toList)]) (by simp [results, Tryz.results46, go_sem]) rfl ⟨rfl, hb1⟩
theorem judge_sign (x : ByteArray) (hs : x.size ≤ 3000) (h0 : 0 < x.size) (w : World) (hl : ltrI (x[0].toNat : Int) = false) (hd : digI (x[0].toNat : Int) = false) (hc : ones.contains x[0] = true) :
    Calls Tryz.prog 46 #[.string x] w fun e w' => e = .returned (.tuple #[.int .i64 3, .int .i64 0]) ∧ Below w.heap.size w w' := by
  have hi : Lib.indexByte signs.data.toList ((x[0].toNat : Int)).toNat.toUInt8 ≥ 0 := of_decide_eq_true (by rw [index_signs, hc])
  obtain ⟨I, hI⟩ : ∃ I, I = Lib.indexByte signs.data.toList ((x[0].toNat : Int)).toNat.toUInt8 := ⟨_, rfl⟩
  have hx := index_any signs (x[0].toNat : Int)
  rw [← hI] at hi hx
  clear hI hc
  go_enter Tryz.func46, Tryz.ntmps46
  go_wp2_with (first
    | (go_at_call 89; refine (oletter _ _).mono ?_; rintro e w' ⟨rfl, hw⟩; obtain rfl := hw.symm)
    | (go_at_call 90; refine (odigit _ _).mono ?_; rintro e w' ⟨rfl, hw⟩; obtain rfl := hw.symm)
    | (go_at_call 94; refine (hx _).mono ?_; rintro e w' ⟨rfl, hw⟩; obtain rfl := hw.symm))
  exact bodyPost_ret (v := .tuple #[.int .i64 3, .int .i64 0]) (by simp [results, Tryz.results46, go_sem]) rfl ⟨rfl, Below.refl _ _⟩
theorem judge_none (x : ByteArray) (hs : x.size ≤ 3000) (h0 : 0 < x.size) (w : World) (hl : ltrI (x[0].toNat : Int) = false) (hd : digI (x[0].toNat : Int) = false) (hc : ones.contains x[0] = false) :
    Calls Tryz.prog 46 #[.string x] w fun e w' => e = .returned (.tuple #[.int .i64 0, .int .i64 2]) ∧ Below w.heap.size w w' := by
  have hi : ¬ Lib.indexByte signs.data.toList ((x[0].toNat : Int)).toNat.toUInt8 ≥ 0 := of_decide_eq_false (by rw [index_signs, hc])
  obtain ⟨I, hI⟩ : ∃ I, I = Lib.indexByte signs.data.toList ((x[0].toNat : Int)).toNat.toUInt8 := ⟨_, rfl⟩
  have hx := index_any signs (x[0].toNat : Int)
  rw [← hI] at hi hx
  clear hI hc
  go_enter Tryz.func46, Tryz.ntmps46
  go_wp2_with (first
    | (go_at_call 89; refine (oletter _ _).mono ?_; rintro e w' ⟨rfl, hw⟩; obtain rfl := hw.symm)
    | (go_at_call 90; refine (odigit _ _).mono ?_; rintro e w' ⟨rfl, hw⟩; obtain rfl := hw.symm)
    | (go_at_call 94; refine (hx _).mono ?_; rintro e w' ⟨rfl, hw⟩; obtain rfl := hw.symm))
  exact bodyPost_ret (v := .tuple #[.int .i64 0, .int .i64 2]) (by simp [results, Tryz.results46, go_sem]) rfl ⟨rfl, Below.refl _ _⟩
end Go.Proofs.YtchhpinmoagkhaaGreatDoor.lexs
namespace Go.Proofs.YtchhpinmoagkhaaGreatDoor.lexs
open Go.RowKit
set_option linter.unusedVariables false

theorem ext_size (s : ByteArray) (p n : Nat) (h : p + n ≤ s.size) : (s.extract p (p + n)).size = n := by
  rw [← len_L, Lib.extract_data, List.length_take, List.length_drop, len_L]; omega
theorem ext_data (s : ByteArray) (p n : Nat) : (s.extract p (p + n)).data.toList = (s.data.toList.drop p).take n := by
  rw [Lib.extract_data, Nat.add_sub_cancel_left]
theorem ext_head (s : ByteArray) (p n : Nat) (h : p + n ≤ s.size) (hn : 0 < n) : (s.extract p (p + n))[0]'(by rw [ext_size s p n h]; exact hn) = s[p] := by
  have h0 : 0 < (s.extract p (p + n)).size := by rw [ext_size s p n h]; exact hn
  have e := headL (s.extract p (p + n)) h0
  rw [← e, ext_data, drop_cons s p (by omega)]
  cases n with
  | zero => omega
  | succ n => rfl
theorem stops_back {P : UInt8 → Bool} {s : ByteArray} {p j : Nat} (hp : p < s.size) (h0 : P s[p] = true) (h : Stops P s (p + 1) j) : Stops P s p j :=
  ⟨by have := h.le; omega, h.top, fun k hk h1 h2 => by
    rcases Nat.lt_or_ge p k with h3 | h3
    · exact h.all k hk (by omega) h2
    · have : k = p := by omega
      subst this
      exact h0, h.stop⟩
theorem sign_one (s : ByteArray) (p : Nat) (hp : p < s.size) (hc : ones.contains s[p] = true) : signLen (s.data.toList.drop p) = 1 + more (s.data.toList.drop (p + 1)) (s[p].toNat : Int) := by
  unfold signLen more
  rw [drop_cons s p hp, List.headD_cons, List.drop_one, List.tail_cons, byte_is _ 61 61 rfl]
  rw [if_pos hc]
  split <;> rfl
theorem sign_zero (s : ByteArray) (p : Nat) (hp : p < s.size) (hc : ones.contains s[p] = false) : signLen (s.data.toList.drop p) = 0 := by
  unfold signLen
  rw [drop_cons s p hp, List.headD_cons, List.drop_one, List.tail_cons, if_neg, if_neg (by rw [hc]; decide)]
  intro h
  rw [Bool.and_eq_true, beq_iff_eq] at h
  rw [h.1] at hc
  exact absurd hc (by decide)
theorem more_le (s : ByteArray) (p : Nat) (c : Int) (hp : p < s.size) : p + (1 + more (s.data.toList.drop (p + 1)) c) ≤ s.size := by
  unfold more
  split
  · rename_i h
    rw [Bool.and_eq_true] at h
    rcases Nat.lt_or_ge (p + 1) s.size with h1 | h1
    · omega
    · have := head_end s (p + 1) h1
      rw [this] at h
      exact absurd h.2 (by decide)
  · omega
/-- what a row comes to: how long it is, its kind, its fault -/
def Rows' (s : ByteArray) (p n : Nat) (hp : p < s.size) (K E : Int) : Prop :=
  (∀ w, Calls Tryz.prog 45 #[.int .u8 (s[p].toNat : Int)] w fun e w1 => ∃ fv, e = .returned fv ∧ Below w.heap.size w w1 ∧
    Calls Tryz.prog 44 #[.string s, .int .i64 ((p : Int) + 1), fv] w1 fun e w2 => e = .returned (.int .i64 ((p : Int) + (n : Int))) ∧ Below w.heap.size w w2) ∧
  (∀ w, HasErr w → Calls Tryz.prog 46 #[.string (s.extract p (p + n))] w fun e w' => e = .returned (.tuple #[.int .i64 K, .int .i64 E]) ∧ Below w.heap.size w w')
theorem begin_row (s : ByteArray) (p : Nat) (hs : s.size ≤ 3000) (hp : p < s.size) (h : (ltrI (s[p].toNat : Int) || digI (s[p].toNat : Int)) = true) (w : World) :
    Calls Tryz.prog 45 #[.int .u8 (s[p].toNat : Int)] w fun e w1 => ∃ fv, e = .returned fv ∧ Below w.heap.size w w1 ∧
    Calls Tryz.prog 44 #[.string s, .int .i64 ((p : Int) + 1), fv] w1 fun e w2 => e = .returned (.int .i64 ((p : Int) + (run insB (s.data.toList.drop p) : Int))) ∧ Below w.heap.size w w2 := by
  refine (behind_row _ h w).mono ?_
  rintro e w1 ⟨rfl, hb⟩
  refine ⟨_, rfl, hb, ?_⟩
  refine (reach_inside s (p + 1) hs (by omega) w1).mono ?_
  rintro e w2 ⟨j, rfl, hj, rfl⟩
  have hi : insB s[p] = true := by
    rw [Bool.or_eq_true] at h
    rcases h with h | h
    · exact ltrB_insB h
    · exact digB_insB h
  have hr := (stops_back hp hi hj).run
  have hl := hj.le
  refine ⟨?_, hb⟩
  rw [hr]
  congr 2
  omega
theorem begin_sign (s : ByteArray) (p : Nat) (hs : s.size ≤ 3000) (hp : p < s.size) (hl : ltrI (s[p].toNat : Int) = false) (hd : digI (s[p].toNat : Int) = false) (w : World) :
    Calls Tryz.prog 45 #[.int .u8 (s[p].toNat : Int)] w fun e w1 => ∃ fv, e = .returned fv ∧ Below w.heap.size w w1 ∧
    Calls Tryz.prog 44 #[.string s, .int .i64 ((p : Int) + 1), fv] w1 fun e w2 => e = .returned (.int .i64 ((p : Int) + ((1 + more (s.data.toList.drop (p + 1)) (s[p].toNat : Int) : Nat) : Int))) ∧ Below w.heap.size w w2 := by
  refine (behind_sign _ hl hd w).mono ?_
  rintro e w1 ⟨rfl, h1, h2, h3, hb⟩
  refine ⟨_, rfl, hb, ?_⟩
  refine (reach_sign s (p + 1) (s[p].toNat : Int) _ _ hs (by omega) w1 h1 h2 h3 (by simp)).mono ?_
  rintro e w2 ⟨rfl, hb2⟩
  refine ⟨?_, hb.trans (hb2.mono (by simp))⟩
  congr 2
  omega
theorem row_any (s : ByteArray) (p : Nat) (hs : s.size ≤ 3000) (hp : p < s.size) (h32 : ((s[p].toNat : Int) == 32) = false) (h10 : ((s[p].toNat : Int) == 10) = false) (h35 : ((s[p].toNat : Int) == 35) = false) :
    ∃ (n : Nat) (K E : Int), 0 < n ∧ p + n ≤ s.size ∧ ((E != 0) = false → stepL (s.data.toList.drop p) = .tok K n) ∧ ((E != 0) = true → stepL (s.data.toList.drop p) = .fault E) ∧ Rows' s p n hp K E := by
  have hrl := run_le insB (s.data.toList.drop p)
  rw [List.length_drop, len_L] at hrl
  cases hl : ltrI (s[p].toNat : Int)
  · cases hd : digI (s[p].toNat : Int)
    · have hn : 0 < 1 + more (s.data.toList.drop (p + 1)) (s[p].toNat : Int) := by omega
      have hm := more_le s p (s[p].toNat : Int) hp
      have hx := ext_size s p _ hm
      have hh := ext_head s p _ hm hn
      cases hc : ones.contains s[p]
      · refine ⟨1 + more (s.data.toList.drop (p + 1)) (s[p].toNat : Int), 0, 2, hn, hm, fun h => absurd h (by decide), fun _ => st_none hp h32 h10 h35 hl hd (sign_zero s p hp hc), fun w => begin_sign s p hs hp hl hd w, fun w _ => ?_⟩
        exact judge_none _ (by omega) (by omega) w (by rw [hh]; exact hl) (by rw [hh]; exact hd) (by rw [hh]; exact hc)
      · refine ⟨1 + more (s.data.toList.drop (p + 1)) (s[p].toNat : Int), 3, 0, hn, hm, fun _ => st_sign hp h32 h10 h35 hl hd (sign_one s p hp hc) (by omega), fun h => absurd h (by decide), fun w => begin_sign s p hs hp hl hd w, fun w _ => ?_⟩
        exact judge_sign _ (by omega) (by omega) w (by rw [hh]; exact hl) (by rw [hh]; exact hd) (by rw [hh]; exact hc)
    · have hn : 0 < run insB (s.data.toList.drop p) := dig_pos hp hd rfl
      have hm : p + run insB (s.data.toList.drop p) ≤ s.size := by omega
      have hx := ext_size s p _ hm
      have hh := ext_head s p _ hm hn
      refine ⟨_, 2, numE ((s.data.toList.drop p).take (run insB (s.data.toList.drop p))), hn, hm, fun h => st_num hp h32 h10 h35 hl hd rfl (by simpa [bne] using h), fun h => st_bad hp h32 h10 h35 hl hd rfl (by simpa [bne] using h), fun w => begin_row s p hs hp (by rw [hd, Bool.or_true]) w, fun w he => ?_⟩
      have hj := judge_num (s.extract p (p + run insB (s.data.toList.drop p))) (by omega) (by omega) w he (by rw [hh]; exact hl) (by rw [hh]; exact hd)
      rw [ext_data] at hj
      exact hj
  · have hn : 0 < run insB (s.data.toList.drop p) := by rw [drop_cons s p hp]; exact run_pos _ _ _ (ltrB_insB hl)
    have hm : p + run insB (s.data.toList.drop p) ≤ s.size := by omega
    have hx := ext_size s p _ hm
    have hh := ext_head s p _ hm hn
    by_cases h16 : run insB (s.data.toList.drop p) ≤ 16
    · refine ⟨_, 1, 0, hn, hm, fun _ => st_word hp h32 h10 h35 hl rfl h16, fun h => absurd h (by decide), fun w => begin_row s p hs hp (by rw [hl, Bool.true_or]) w, fun w he => ?_⟩
      exact judge_word _ (by omega) (by omega) w (by rw [hh]; exact hl) (by omega)
    · refine ⟨_, 0, 1, hn, hm, fun h => absurd h (by decide), fun _ => st_long hp h32 h10 h35 hl rfl (by omega), fun w => begin_row s p hs hp (by rw [hl, Bool.true_or]) w, fun w he => ?_⟩
      exact judge_long _ (by omega) (by omega) w (by rw [hh]; exact hl) (by omega)
end Go.Proofs.YtchhpinmoagkhaaGreatDoor.lexs
namespace Go.Proofs.YtchhpinmoagkhaaGreatDoor.lexs
open Go.RowKit
set_option linter.unusedVariables false

theorem fine_next {w wr w1 : World} {o : Obj} {e : TypeId} {k n : Nat} {v : Value} {xs : List Value} (hown : wr.ownsRow (w.heap.size + 1) e k v n xs) (hbw : Below (w.heap.size + 1) (w.alloc o) wr) (hb : Below wr.heap.size wr w1) :
    w1.ownsRow (w.heap.size + 1) e k v n xs ∧ Below (w.heap.size + 1) (w.alloc o) w1 := by
  have hs := hbw.size
  rw [World.size_alloc] at hs
  exact ⟨own_below hown hb, hbw.trans (hb.mono hs)⟩
theorem fine_err {w wr : World} {o : Obj} (he : HasErr w) (hbw : Below (w.heap.size + 1) (w.alloc o) wr) : HasErr wr := hasErr_below he (below_old hbw)
set_option maxRecDepth 100000 in
set_option maxHeartbeats 2000000 in
theorem oscan (s : ByteArray) (w : World) (hs : s.size ≤ 3000) (he : HasErr w) :
    Calls Tryz.prog 19 #[.string s] w fun e w' => ∃ v, e = .returned (.tuple #[v, .agg #[.int .i64 (scan s.data.toList).code, .int .i64 (scan s.data.toList).place]]) ∧
      w'.ownsRow w.heap.size 58 3 v (scan s.data.toList).toks.length (cellsOf (scan s.data.toList).toks) ∧ Below w.heap.size w w' := by
  obtain ⟨i0, hi, hz0, hz1, hz2⟩ := info_parts tokInfo
  have hsz : ¬ (3000 : Int) < (s.size : Int) := by omega
  obtain ⟨R, hR⟩ : ∃ R, R = scan s.data.toList := ⟨_, rfl⟩
  rw [← hR]
  have HR : Hid (scanL s.size (s.data.toList.drop 0) 0 [] = R) := by
    show _ = _
    rw [hR, scan, if_neg (by rw [len_L]; omega), len_L]; rfl
  have HE : Hid (HasErr w) := he
  clear hR he
  go_enter Tryz.func19, Tryz.ntmps19
  go_wp2_with (go_at_call 43; refine (skip_any s 0 hs (by omega) _).mono ?_; rintro e w' ⟨q, rfl, hg, hq, hw⟩; obtain rfl := hw.symm)
  obtain ⟨f0, hf0, HR0⟩ := hg.on s.size [] R (by omega) HR.out
  have hqs := hg.top
  go_loopw [4, 5] (fun v i wr => ∃ (p f : Nat) (acc : List Tok), p ≤ s.size ∧ i = .int .i64 p ∧ s.size ≤ p + f ∧ Hid (∀ h : p < s.size, ((s[p].toNat : Int) == 32) = false ∧ ((s[p].toNat : Int) == 10) = false ∧ ((s[p].toNat : Int) == 35) = false) ∧ Hid (scanL f (s.data.toList.drop p) p acc = R) ∧ wr.ownsRow (w.heap.size + 1) 58 3 v acc.length (cellsOf acc) ∧ acc.length ≤ p ∧ Below (w.heap.size + 1) (w.alloc (.cells #[.int .i64 0, .int .i64 0] 27)) wr)
    (fun _ i _ => s.size - (intOf i).toNat)
  case atStart =>
    exact ⟨q, f0, [], hqs, rfl, hf0, hq, HR0, World.ownsRow_nil _ _ _ _, by simp, Below.refl _ _⟩
  case round =>
    obtain ⟨p, f, acc, hp, rfl, hf, HB, HS, hown, hal, hbw⟩ := hrel
    obtain ⟨hc0, hc1, hz0', hz1', hB⟩ := boxes hbw
    have hB' : w.heap.size < wr.heap.size := hB
    by_cases hlt : p < s.size
    · obtain ⟨f, rfl⟩ : ∃ f', f = f' + 1 := ⟨f - 1, by omega⟩
      obtain ⟨n, K, E, hn, hm, H1, H2, HBR, HJ⟩ := row_any s p hs hlt (HB.out hlt).1 (HB.out hlt).2.1 (HB.out hlt).2.2
      have hsl := slice_is 9 Tryz.underlying9 s p n hm
      have hx := ext_size s p n hm
      cases hE : (E != 0)
      · have hst : Hid (stepL (s.data.toList.drop p) = .tok K n) := H1 hE
        clear H1 H2
        have hsk : ∀ w, Calls Tryz.prog 43 #[.string s, .int .i64 ((p : Int) + (n : Int))] w fun e w' => ∃ j : Nat, e = .returned (.int .i64 j) ∧ Goes s (p + n) j ∧ (∀ h : j < s.size, ((s[j].toNat : Int) == 32) = false ∧ ((s[j].toNat : Int) == 10) = false ∧ ((s[j].toNat : Int) == 35) = false) ∧ w' = w := by
          intro w
          have h := skip_any s (p + n) hs hm w
          rw [Int.natCast_add] at h
          exact h
        go_wp2_with (first
          | (go_at_call 45; refine (HBR _).mono ?_; rintro e w1 ⟨fv, rfl, hb1, hreach⟩)
          | (go_at_call 44; refine hreach.mono ?_; rintro e w2 ⟨rfl, hb2⟩; obtain ⟨hown2, hbw2⟩ := fine_next hown hbw hb2)
          | (go_at_call 46; refine (HJ _ (fine_err HE.out hbw2)).mono ?_; rintro e w3 ⟨rfl, hb3⟩; obtain ⟨hown3, hbw3⟩ := fine_next hown2 hbw2 hb3;  clear hown2 hbw2 hb2 hb3)
          | (go_at_call 47; refine (clone_any _ (by omega) _).mono ?_; rintro e w4 ⟨rfl, hb4⟩; obtain ⟨hown4, hbw4⟩ := fine_next hown3 hbw3 hb4; obtain ⟨_, _, _, _, hB4⟩ := boxes hbw4; clear hown3 hbw3 hb4)
          | (at_builtin; refine wpList_append_own _ rfl (.tmp 40) (.tmp 49) 47 rfl (w.heap.size + 1) 58 i0 (.agg #[.int .i64 0, .string ⟨#[]⟩, .int .i64 0]) 3 32 Tryz.underlying47 hi hz0 hz1 hz2 rfl (by decide) _ _ _ rfl (hown4.alloc _) ⟨w4.heap.size, 0, none⟩ 1 1 [.int .i64 K, .string (s.extract p (p + n)), .int .i64 (p : Int)] rfl rfl (cell_three_new _ _ _ _ _ _ (by simp)) (one_cells _ _ _) (by unfold maxLen; omega) (by omega) (by simp <;> omega) ?_; intro v' w5 hown' hgrow hne; have X : Hid (w5.ownsRow (w.heap.size + 1) 58 3 v' (acc.length + 1) (cellsOf acc ++ [.int .i64 K, .string (s.extract p (p + n)), .int .i64 (p : Int)]) ∧ Below (w.heap.size + 1) (w.alloc (.cells #[.int .i64 0, .int .i64 0] 27)) w5) := ⟨hown', rel_tok (hbw4.alloc (by omega) _) (by simp <;> omega) (hown4.alloc _) hgrow⟩; clear hown' hgrow hne)
          | (go_at_call 43; refine (hsk _).mono ?_; rintro e w' ⟨j, rfl, hg2, hq2, hw⟩; obtain rfl := hw.symm))
        have hT := go_tok hlt hst.out HS.out
        obtain ⟨f', hf', HR'⟩ := hg2.on f _ R (by omega) hT.1
        have hjt := hg2.top
        have hjl := hg2.le
        go_roundw
        case rel => exact ⟨j, f', _, hjt, rfl, hf', hq2, HR', own_tok X.out.1, by rw [List.length_append]; simp; omega, X.out.2⟩
        case measure => simp [intOf]; omega
      · have hst : Hid (stepL (s.data.toList.drop p) = .fault E) := H2 hE
        clear H1 H2
        have hend := go_fault hlt hst.out HS.out
        subst hend
        go_wp2_with (first
          | (go_at_call 45; refine (HBR _).mono ?_; rintro e w1 ⟨fv, rfl, hb1, hreach⟩)
          | (go_at_call 44; refine hreach.mono ?_; rintro e w2 ⟨rfl, hb2⟩; obtain ⟨hown2, hbw2⟩ := fine_next hown hbw hb2)
          | (go_at_call 46; refine (HJ _ (fine_err HE.out hbw2)).mono ?_; rintro e w3 ⟨rfl, hb3⟩; obtain ⟨hown3, hbw3⟩ := fine_next hown2 hbw2 hb3; obtain ⟨c0, c1, e0, e1, hB3⟩ := boxes hbw3; clear hown2 hbw2 hb2 hb3))
        refine bodyPost_ret (v := .tuple #[.slice none 0 0, .agg #[.int .i64 E, .int .i64 p]]) (by simp [results, Tryz.results19, go_sem, c0, c1]) rfl ⟨_, rfl, World.ownsRow_nil _ _ _ _, ?_⟩
        exact ((below_old hbw3).setCell (Nat.le_refl _) _).setCell (Nat.le_refl _) _
    · have hend := go_end (by omega) HS.out
      subst hend
      go_wp2
      refine bodyPost_ret (v := .tuple #[u4, .agg #[.int .i64 0, .int .i64 0]]) (by simp [results, Tryz.results19, go_sem, hc0, hc1]) rfl ⟨u4, rfl, ?_, ?_⟩
      · exact ownsRow_le (ownsRow_setCell_below (ownsRow_setCell_below hown (by simp) _) (by simp) _) (by omega)
      · exact ((below_old hbw).setCell (Nat.le_refl _) _).setCell (Nat.le_refl _) _
theorem oscan_long (s : ByteArray) (w : World) (hs : 3000 < s.size) :
    Calls Tryz.prog 19 #[.string s] w fun e w' => ∃ v, e = .returned (.tuple #[v, .agg #[.int .i64 (scan s.data.toList).code, .int .i64 (scan s.data.toList).place]]) ∧
      w'.ownsRow w.heap.size 58 3 v (scan s.data.toList).toks.length (cellsOf (scan s.data.toList).toks) ∧ Below w.heap.size w w' := by
  have hsz : (3000 : Int) < (s.size : Int) := by omega
  have hR : scan s.data.toList = .err 1 0 := by rw [scan, if_pos (by rw [len_L]; omega)]
  rw [hR]
  clear hR
  go_enter Tryz.func19, Tryz.ntmps19
  go_wp2
  refine bodyPost_ret (v := .tuple #[.slice none 0 0, .agg #[.int .i64 1, .int .i64 0]]) (by simp [results, Tryz.results19, go_sem]) rfl ⟨_, rfl, World.ownsRow_nil _ _ _ _, ?_⟩
  exact (Below.refl _ _).alloc (Nat.le_refl _) _
/-- THE CONTRACT: whatever the text -/
theorem scan_own (s : ByteArray) : Scans HasErr 19 s := by
  intro w he
  rcases Nat.lt_or_ge 3000 s.size with h | h
  · exact oscan_long s w h
  · exact oscan s w h he
end Go.Proofs.YtchhpinmoagkhaaGreatDoor.lexs
