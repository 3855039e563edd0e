/- What the reference's fields, Order, instr and words answer: contracts. -/
import Derived.Test.YthfeojjfehbgjaaGreatDoorProg
import Derived.WalkKit
import Derived.WalkLawsBesides
import Derived.Outline
import Derived.WalkSmall
import Derived.OwnWalk
import Derived.Test.YthfeojjfehbgjaaGreatDoorOGMacBox
import Derived.Test.YthfeojjfehbgjaaGreatDoorOGObjMem
namespace Go.Proofs.YthfeojjfehbgjaaGreatDoor.obj
open Go.RowKit
open Go.Proofs.YthfeojjfehbgjaaGreatDoor.mac (Ins BoxC hasB)
set_option linter.unusedVariables false
set_option linter.unusedSimpArgs false
set_option maxRecDepth 100000
theorem ret_bo {x y : Bool} (h : x = y) : Ending.returned (.bool x) = .returned (.bool y) := by rw [h]
/-- which registers an order names, whether N; whether there is such an order -/
def fR (op : Int) : Nat × Bool × Bool :=
  if 20 < op ∧ op ≤ 29 then (3, false, true) else if op = 12 ∨ op = 17 then (0, false, true) else if op = 8 ∨ op = 11 then (0, true, true)
  else if op = 13 ∨ op = 14 ∨ op = 15 ∨ op = 16 then (1, false, true) else if op = 1 ∨ op = 9 ∨ op = 10 then (1, true, true) else if op = 2 then (2, false, true)
  else if op = 3 ∨ op = 4 ∨ op = 5 ∨ op = 6 ∨ op = 7 then (2, true, true) else (0, false, false)
def regR (n k : Nat) (x : Int) : Bool := if k < n then decide (0 ≤ x) && decide (x < 8) else x == 0
def ordR (i : Ins) (many : Int) : Bool :=
  (fR i.op).2.2 && (regR (fR i.op).1 0 i.a && (regR (fR i.op).1 1 i.b && (regR (fR i.op).1 2 i.c && (((fR i.op).2.1 || i.n == 0) &&
    (if i.op = 8 ∨ i.op = 9 ∨ i.op = 11 then decide (0 ≤ i.n) && decide (i.n < many) else (!(i.op == 10)) || (decide (1 ≤ i.n) && decide (i.n ≤ 64)))))))
def insR (i : Ins) : Bool := ordR (if i.op = 8 ∨ i.op = 9 ∨ i.op = 11 then { i with n := 0 } else i) 1
theorem insR_is (i : Ins) : insR i = hasB i := by
  obtain ⟨op, a, b, c, n⟩ := i
  unfold insR ordR hasB mac.chkB mac.regB regR fR mac.fld
  dsimp only
  by_cases hb : 20 < op ∧ op ≤ 29
  · have n0 : ¬ (op = 8 ∨ op = 9 ∨ op = 11) := by omega
    have m12 : ¬ op = 12 := by omega
    have m17 : ¬ op = 17 := by omega
    have m8 : ¬ op = 8 := by omega
    have m11 : ¬ op = 11 := by omega
    have m13 : ¬ op = 13 := by omega
    have m14 : ¬ op = 14 := by omega
    have m15 : ¬ op = 15 := by omega
    have m16 : ¬ op = 16 := by omega
    have m1 : ¬ op = 1 := by omega
    have m9 : ¬ op = 9 := by omega
    have m10 : ¬ op = 10 := by omega
    have m2 : ¬ op = 2 := by omega
    have m3 : ¬ op = 3 := by omega
    have m4 : ¬ op = 4 := by omega
    have m5 : ¬ op = 5 := by omega
    have m6 : ¬ op = 6 := by omega
    have m7 : ¬ op = 7 := by omega
    simp [hb, n0, m12, m17, m8, m11, m13, m14, m15, m16, m1, m9, m10, m2, m3, m4, m5, m6, m7, show (21 : Int) ≤ op by omega, show op ≤ 29 by omega]
    rw [Bool.eq_iff_iff]
    simp only [Bool.and_eq_true, Bool.or_eq_true, decide_eq_true_eq, beq_iff_eq, Bool.not_eq_true', beq_eq_false_iff_ne, ne_eq]
    omega
  · by_cases hl : op = 12 ∨ op = 17 ∨ op = 8 ∨ op = 11 ∨ op = 13 ∨ op = 14 ∨ op = 15 ∨ op = 16 ∨ op = 1 ∨ op = 9 ∨ op = 10 ∨ op = 2 ∨ op = 3 ∨ op = 4 ∨ op = 5 ∨ op = 6 ∨ op = 7
    · rcases hl with rfl | rfl | rfl | rfl | rfl | rfl | rfl | rfl | rfl | rfl | rfl | rfl | rfl | rfl | rfl | rfl | rfl
      all_goals
        rw [Bool.eq_iff_iff]
        simp
        try omega
    · have n0 : ¬ (op = 8 ∨ op = 9 ∨ op = 11) := by omega
      have m12 : ¬ op = 12 := by omega
      have m17 : ¬ op = 17 := by omega
      have m8 : ¬ op = 8 := by omega
      have m11 : ¬ op = 11 := by omega
      have m13 : ¬ op = 13 := by omega
      have m14 : ¬ op = 14 := by omega
      have m15 : ¬ op = 15 := by omega
      have m16 : ¬ op = 16 := by omega
      have m1 : ¬ op = 1 := by omega
      have m9 : ¬ op = 9 := by omega
      have m10 : ¬ op = 10 := by omega
      have m2 : ¬ op = 2 := by omega
      have m3 : ¬ op = 3 := by omega
      have m4 : ¬ op = 4 := by omega
      have m5 : ¬ op = 5 := by omega
      have m6 : ¬ op = 6 := by omega
      have m7 : ¬ op = 7 := by omega
      have hx : (decide (21 ≤ op) && decide (op ≤ 29)) = false := by simp; omega
      simp [hb, n0, m12, m17, m8, m11, m13, m14, m15, m16, m1, m9, m10, m2, m3, m4, m5, m6, m7]
      try omega
set_option maxHeartbeats 1000000 in
theorem rFields (op : Int) (w : World) :
    Calls Tryz.prog 76 #[.int .i64 op] w fun e w' => e = .returned (.tuple #[.int .i64 (fR op).1, .bool (fR op).2.1, .bool (fR op).2.2]) ∧ w' = w := by
  by_cases h20 : 20 < op
  · by_cases h29 : op ≤ 29
    · have e : fR op = (3, false, true) := by unfold fR; rw [if_pos ⟨h20, h29⟩]
      rw [e]
      go_enter Tryz.func76, Tryz.ntmps76
      go_wp2
      go_ret3
      exact ⟨rfl, rfl⟩
    · have e : fR op = (0, false, false) := by unfold fR; rw [if_neg (by omega), if_neg (by omega), if_neg (by omega), if_neg (by omega), if_neg (by omega), if_neg (by omega), if_neg (by omega)]
      rw [e]
      have m12 : (op == 12) = false := by simp; omega
      have m17 : (op == 17) = false := by simp; omega
      have m8 : (op == 8) = false := by simp; omega
      have m11 : (op == 11) = false := by simp; omega
      have m13 : (op == 13) = false := by simp; omega
      have m14 : (op == 14) = false := by simp; omega
      have m15 : (op == 15) = false := by simp; omega
      have m16 : (op == 16) = false := by simp; omega
      have m1 : (op == 1) = false := by simp; omega
      have m9 : (op == 9) = false := by simp; omega
      have m10 : (op == 10) = false := by simp; omega
      have m2 : (op == 2) = false := by simp; omega
      have m3 : (op == 3) = false := by simp; omega
      have m4 : (op == 4) = false := by simp; omega
      have m5 : (op == 5) = false := by simp; omega
      have m6 : (op == 6) = false := by simp; omega
      have m7 : (op == 7) = false := by simp; omega
      go_enter Tryz.func76, Tryz.ntmps76
      go_wp2
      go_ret3
      exact ⟨rfl, rfl⟩
  by_cases hl : op = 12 ∨ op = 17 ∨ op = 8 ∨ op = 11 ∨ op = 13 ∨ op = 14 ∨ op = 15 ∨ op = 16 ∨ op = 1 ∨ op = 9 ∨ op = 10 ∨ op = 2 ∨ op = 3 ∨ op = 4 ∨ op = 5 ∨ op = 6 ∨ op = 7
  · rcases hl with rfl | rfl | rfl | rfl | rfl | rfl | rfl | rfl | rfl | rfl | rfl | rfl | rfl | rfl | rfl | rfl | rfl
    all_goals
      go_enter Tryz.func76, Tryz.ntmps76
      go_wp2
      go_ret3
      exact ⟨rfl, rfl⟩
  · have e : fR op = (0, false, false) := by unfold fR; rw [if_neg (by omega), if_neg (by omega), if_neg (by omega), if_neg (by omega), if_neg (by omega), if_neg (by omega), if_neg (by omega)]
    rw [e]
    have m12 : (op == 12) = false := by simp; omega
    have m17 : (op == 17) = false := by simp; omega
    have m8 : (op == 8) = false := by simp; omega
    have m11 : (op == 11) = false := by simp; omega
    have m13 : (op == 13) = false := by simp; omega
    have m14 : (op == 14) = false := by simp; omega
    have m15 : (op == 15) = false := by simp; omega
    have m16 : (op == 16) = false := by simp; omega
    have m1 : (op == 1) = false := by simp; omega
    have m9 : (op == 9) = false := by simp; omega
    have m10 : (op == 10) = false := by simp; omega
    have m2 : (op == 2) = false := by simp; omega
    have m3 : (op == 3) = false := by simp; omega
    have m4 : (op == 4) = false := by simp; omega
    have m5 : (op == 5) = false := by simp; omega
    have m6 : (op == 6) = false := by simp; omega
    have m7 : (op == 7) = false := by simp; omega
    clear hl
    go_enter Tryz.func76, Tryz.ntmps76
    go_wp2
    go_ret3
    exact ⟨rfl, rfl⟩
theorem rWords (x : Int) (w : World) : Calls Tryz.prog 19 #[.int .i64 x] w fun e w' => e = .returned (.bool (wordB x)) ∧ w' = w := by
  by_cases h0 : 0 ≤ x
  · by_cases h1 : x ≤ 20000
    · go_enter Tryz.func19, Tryz.ntmps19
      go_wp2
      go_ret
      exact ⟨ret_bo (by simp [wordB, h0, h1]), rfl⟩
    · go_enter Tryz.func19, Tryz.ntmps19
      go_wp2
      go_ret
      exact ⟨ret_bo (by simp [wordB, h0, h1]), rfl⟩
  · go_enter Tryz.func19, Tryz.ntmps19
    go_wp2
    go_ret
    exact ⟨ret_bo (by simp [wordB]; omega), rfl⟩
theorem fR_le (op : Int) : (fR op).1 ≤ 3 := by
  unfold fR
  simp only [apply_ite Prod.fst]
  repeat' split
  all_goals omega
/-- the registers up to the k-th are as they should be -/
def upR (N : Nat) (a b c : Int) : Nat → Bool
  | 0 => true
  | 1 => regR N 0 a
  | 2 => regR N 0 a && regR N 1 b
  | _ => regR N 0 a && (regR N 1 b && regR N 2 c)
set_option maxHeartbeats 2000000 in
theorem rOrder (i : Ins) (many : Int) (w : World) :
    Calls Tryz.prog 55 #[insV i, .int .i64 many] w fun e w' => e = .returned (.bool (ordR i many)) ∧ Below w.heap.size w w' := by
  have c5 : Tryz.prog.cellsOf 55 = 5 := by kernel_rfl
  obtain ⟨op, a, b, c, n⟩ := i
  obtain ⟨V, hV⟩ : ∃ V, V = ordR ⟨op, a, b, c, n⟩ many := ⟨_, rfl⟩
  rw [← hV]
  unfold ordR at hV
  dsimp only at hV
  have hF := rFields op (w.alloc (.cells #[.int .i64 op, .int .i64 a, .int .i64 b, .int .i64 c, .int .i64 n] 55))
  have h3 := fR_le op
  generalize (fR op).1 = N at hV hF h3
  generalize (fR op).2.1 = has at hV hF
  generalize (fR op).2.2 = ok at hV hF
  replace hV : Hid (V = (ok && (regR N 0 a && (regR N 1 b && (regR N 2 c && ((has || n == 0) && (if op = 8 ∨ op = 9 ∨ op = 11 then decide (0 ≤ n) && decide (n < many) else (!(op == 10)) || (decide (1 ≤ n) && decide (n ≤ 64))))))))) := hV
  unfold insV
  dsimp only
  have hB := (Below.refl w.heap.size w).alloc (Nat.le_refl _) (.cells #[.int .i64 op, .int .i64 a, .int .i64 b, .int .i64 c, .int .i64 n] 55)
  cases ok
  · have HF : Hid (V = false) := by show _ = _; rw [hV.out]; rfl
    go_enter Tryz.func55, Tryz.ntmps55
    go_wp2_with (go_at_call 76; refine hF.mono ?_; rintro e w2 ⟨rfl, hw⟩; obtain rfl := hw.symm)
    go_ret
    exact ⟨ret_bo HF.out.symm, hB⟩
  have hb2 : BoxC (w.alloc (.cells #[.int .i64 op, .int .i64 a, .int .i64 b, .int .i64 c, .int .i64 n] 55)) w.heap.size #[.int .i64 op, .int .i64 a, .int .i64 b, .int .i64 c, .int .i64 n] 55 := BoxC.new _ _ _
  have hB2 := hB.alloc hB.size (.cells #[.int .i64 a, .int .i64 b, .int .i64 c] 3)
  go_enter Tryz.func55, Tryz.ntmps55
  go_wp2_with (go_at_call 76; refine hF.mono ?_; rintro e w2 ⟨rfl, hw⟩; obtain rfl := hw.symm)
  go_loop [9] (fun t => ∃ j : Nat, j ≤ 3 ∧ t = .int .i64 j ∧ Hid (upR N a b c j = true)) (fun t => 3 - (intOf t).toNat)
  case atStart => exact ⟨0, by omega, rfl, rfl⟩
  case round =>
    obtain ⟨j, hj, rfl, HU⟩ := hrel
    have : j = 0 ∨ j = 1 ∨ j = 2 ∨ j = 3 := by omega
    clear hj hF
    rcases this with rfl | rfl | rfl | rfl
    · by_cases hk : 0 < N
      · have hkI : (0 : Int) < (N : Int) := by omega
        by_cases h0 : a < 0
        · have HF : Hid (V = false) := by show _ = _; rw [hV.out]; simp [regR, hk, show ¬ 0 ≤ a by omega]
          go_wp2
          go_ret
          exact ⟨ret_bo HF.out.symm, hB2⟩
        · by_cases h8 : 8 ≤ a
          · have HF : Hid (V = false) := by show _ = _; rw [hV.out]; simp [regR, hk, show ¬ a < 8 by omega]
            go_wp2
            go_ret
            exact ⟨ret_bo HF.out.symm, hB2⟩
          · have HG : Hid (upR N a b c 1 = true) := by show _ = _; have := HU.out; simp [upR, regR, hk] at this ⊢; first | omega | exact ⟨this, by omega, by omega⟩ | (obtain ⟨t1, t2⟩ := this; exact ⟨t1, t2, by omega, by omega⟩)
            go_wp2
            go_round
            case rel => exact ⟨1, by omega, rfl, HG.out⟩
            case measure => simp [intOf]
      · obtain rfl : N = 0 := by omega
        have hkI : ¬ (0 : Int) < ((0 : Nat) : Int) := by omega
        by_cases h0 : a = 0
        · have h0b : (a != 0) = false := by simp [h0]
          have HG : Hid (upR 0 a b c 1 = true) := by show _ = _; have := HU.out; simp [upR, regR, hk, h0] at this ⊢; try exact this
          clear h0
          go_wp2
          go_round
          case rel => exact ⟨1, by omega, rfl, HG.out⟩
          case measure => simp [intOf]
        · have h0b : (a != 0) = true := by simp [h0]
          have HF : Hid (V = false) := by show _ = _; rw [hV.out]; simp [regR, hk, h0]
          go_wp2
          go_ret
          exact ⟨ret_bo HF.out.symm, hB2⟩
    · by_cases hk : 1 < N
      · have hkI : (1 : Int) < (N : Int) := by omega
        by_cases h0 : b < 0
        · have HF : Hid (V = false) := by show _ = _; rw [hV.out]; simp [regR, hk, show ¬ 0 ≤ b by omega]
          go_wp2
          go_ret
          exact ⟨ret_bo HF.out.symm, hB2⟩
        · by_cases h8 : 8 ≤ b
          · have HF : Hid (V = false) := by show _ = _; rw [hV.out]; simp [regR, hk, show ¬ b < 8 by omega]
            go_wp2
            go_ret
            exact ⟨ret_bo HF.out.symm, hB2⟩
          · have HG : Hid (upR N a b c 2 = true) := by show _ = _; have := HU.out; simp [upR, regR, hk] at this ⊢; first | omega | exact ⟨this, by omega, by omega⟩ | (obtain ⟨t1, t2⟩ := this; exact ⟨t1, t2, by omega, by omega⟩)
            go_wp2
            go_round
            case rel => exact ⟨2, by omega, rfl, HG.out⟩
            case measure => simp [intOf]
      · have hkI : ¬ (1 : Int) < (N : Int) := by omega
        by_cases h0 : b = 0
        · have h0b : (b != 0) = false := by simp [h0]
          have HG : Hid (upR N a b c 2 = true) := by show _ = _; have := HU.out; simp [upR, regR, hk, h0] at this ⊢; try exact this
          clear h0
          go_wp2
          go_round
          case rel => exact ⟨2, by omega, rfl, HG.out⟩
          case measure => simp [intOf]
        · have h0b : (b != 0) = true := by simp [h0]
          have HF : Hid (V = false) := by show _ = _; rw [hV.out]; simp [regR, hk, h0]
          go_wp2
          go_ret
          exact ⟨ret_bo HF.out.symm, hB2⟩
    · by_cases hk : 2 < N
      · have hkI : (2 : Int) < (N : Int) := by omega
        by_cases h0 : c < 0
        · have HF : Hid (V = false) := by show _ = _; rw [hV.out]; simp [regR, hk, show ¬ 0 ≤ c by omega]
          go_wp2
          go_ret
          exact ⟨ret_bo HF.out.symm, hB2⟩
        · by_cases h8 : 8 ≤ c
          · have HF : Hid (V = false) := by show _ = _; rw [hV.out]; simp [regR, hk, show ¬ c < 8 by omega]
            go_wp2
            go_ret
            exact ⟨ret_bo HF.out.symm, hB2⟩
          · have HG : Hid (upR N a b c 3 = true) := by show _ = _; have := HU.out; simp [upR, regR, hk] at this ⊢; first | omega | exact ⟨this, by omega, by omega⟩ | (obtain ⟨t1, t2⟩ := this; exact ⟨t1, t2, by omega, by omega⟩)
            go_wp2
            go_round
            case rel => exact ⟨3, by omega, rfl, HG.out⟩
            case measure => simp [intOf]
      · have hkI : ¬ (2 : Int) < (N : Int) := by omega
        by_cases h0 : c = 0
        · have h0b : (c != 0) = false := by simp [h0]
          have HG : Hid (upR N a b c 3 = true) := by show _ = _; have := HU.out; simp [upR, regR, hk, h0] at this ⊢; try exact this
          clear h0
          go_wp2
          go_round
          case rel => exact ⟨3, by omega, rfl, HG.out⟩
          case measure => simp [intOf]
        · have h0b : (c != 0) = true := by simp [h0]
          have HF : Hid (V = false) := by show _ = _; rw [hV.out]; simp [regR, hk, h0]
          go_wp2
          go_ret
          exact ⟨ret_bo HF.out.symm, hB2⟩
    · have hW : Hid (V = ((has || n == 0) && (if op = 8 ∨ op = 9 ∨ op = 11 then decide (0 ≤ n) && decide (n < many) else (!(op == 10)) || (decide (1 ≤ n) && decide (n ≤ 64))))) := by
        show _ = _
        have := HU.out
        simp only [upR, Bool.and_eq_true] at this
        rw [hV.out, this.1, this.2.1, this.2.2]
        rfl
      clear hV HU
      by_cases hz : has = false ∧ n ≠ 0
      · obtain ⟨rfl, hz⟩ := hz
        have hzb : (n != 0) = true := by simp [hz]
        have HF : Hid (V = false) := by show _ = _; rw [hW.out]; simp [hz]
        go_wp2
        go_ret
        exact ⟨ret_bo HF.out.symm, hB2⟩
      replace hW : Hid (V = (if op = 8 ∨ op = 9 ∨ op = 11 then decide (0 ≤ n) && decide (n < many) else (!(op == 10)) || (decide (1 ≤ n) && decide (n ≤ 64)))) := by
        show _ = _
        rw [hW.out, show (has || n == 0) = true by cases has <;> simp_all]
        rfl
      have hnb : Hid (has = false → n = 0) := fun h => Classical.byContradiction fun h2 => hz ⟨h, h2⟩
      clear hz
      cases has
      case' false =>
        have hn0 := hnb.out rfl
        subst hn0
      all_goals
        clear hnb
        by_cases h8 : op = 8 ∨ op = 9 ∨ op = 11
        · rw [if_pos h8] at hW
          rcases h8 with rfl | rfl | rfl
          all_goals
            go_wp2
            all_goals
              go_ret
              exact ⟨ret_bo (by rw [hW.out]; simp [*] <;> omega), hB2⟩
        · rw [if_neg h8] at hW
          have m8 : (op == 8) = false := by simp; omega
          have m9 : (op == 9) = false := by simp; omega
          have m11 : (op == 11) = false := by simp; omega
          clear h8
          by_cases h10 : op = 10
          · subst h10
            go_wp2
            all_goals
              go_ret
              exact ⟨ret_bo (by rw [hW.out]; simp [*] <;> omega), hB2⟩
          · have m10 : (op != 10) = true := by simp [h10]
            have HF : Hid (V = true) := by show _ = _; rw [hW.out]; simp [h10]
            clear h10
            go_wp2
            go_ret
            exact ⟨ret_bo HF.out.symm, hB2⟩
set_option maxHeartbeats 1000000 in
theorem rInstr (i : Ins) (w : World) :
    Calls Tryz.prog 20 #[insV i] w fun e w' => e = .returned (.bool (hasB i)) ∧ Below w.heap.size w w' := by
  have c5 : Tryz.prog.cellsOf 55 = 5 := by kernel_rfl
  rw [← insR_is]
  obtain ⟨op, a, b, c, n⟩ := i
  unfold insR insV
  dsimp only
  by_cases h8 : op = 8 ∨ op = 9 ∨ op = 11
  · rw [if_pos h8]
    have hB := (Below.refl w.heap.size w).alloc (Nat.le_refl _) (.cells #[.int .i64 op, .int .i64 a, .int .i64 b, .int .i64 c, .int .i64 0] 55)
    have hC := rOrder ⟨op, a, b, c, 0⟩ 1 (w.alloc (.cells #[.int .i64 op, .int .i64 a, .int .i64 b, .int .i64 c, .int .i64 0] 55))
    unfold insV at hC
    dsimp only at hC
    generalize ordR ⟨op, a, b, c, 0⟩ 1 = V at hC ⊢
    rcases h8 with rfl | rfl | rfl
    all_goals
      go_enter Tryz.func20, Tryz.ntmps20
      go_wp2_with (go_at_call 55; refine hC.mono ?_; rintro e w2 ⟨rfl, hb2⟩)
      go_ret
      exact ⟨rfl, hB.trans (hb2.mono hB.size)⟩
  · rw [if_neg h8]
    have m8 : (op == 8) = false := by simp; omega
    have m9 : (op == 9) = false := by simp; omega
    have m11 : (op == 11) = false := by simp; omega
    clear h8
    have hB := (Below.refl w.heap.size w).alloc (Nat.le_refl _) (.cells #[.int .i64 op, .int .i64 a, .int .i64 b, .int .i64 c, .int .i64 n] 55)
    have hC := rOrder ⟨op, a, b, c, n⟩ 1 (w.alloc (.cells #[.int .i64 op, .int .i64 a, .int .i64 b, .int .i64 c, .int .i64 n] 55))
    unfold insV at hC
    dsimp only at hC
    generalize ordR ⟨op, a, b, c, n⟩ 1 = V at hC ⊢
    go_enter Tryz.func20, Tryz.ntmps20
    go_wp2_with (go_at_call 55; refine hC.mono ?_; rintro e w2 ⟨rfl, hb2⟩)
    go_ret
    exact ⟨rfl, hB.trans (hb2.mono hB.size)⟩
end Go.Proofs.YthfeojjfehbgjaaGreatDoor.obj
