/- What the machine's IsOrder answers: contracts. -/
import Derived.Test.YthfeojjfehbgjaaGreatDoorOPMacFld
namespace Go.Proofs.YthfeojjfehbgjaaGreatDoor.mac
open Go.RowKit
set_option linter.unusedVariables false
set_option linter.unusedSimpArgs false
set_option maxRecDepth 100000
def insV (o : Ins) : Value := .agg #[.int .i64 o.op, .int .i64 o.a, .int .i64 o.b, .int .i64 o.c, .int .i64 o.n]
def insC (o : Ins) : List Value := [.int .i64 o.op, .int .i64 o.a, .int .i64 o.b, .int .i64 o.c, .int .i64 o.n]
set_option maxHeartbeats 4000000 in
theorem oHas (o : Ins) (w : World) :
    Calls Tryz.prog 38 #[insV o] w fun e w' => e = .returned (.bool (hasB o)) ∧ Below w.heap.size w w' := by
  have c55 : Tryz.prog.cellsOf 115 = 4 := by kernel_rfl
  have c46 : Tryz.prog.cellsOf 55 = 5 := by kernel_rfl
  obtain ⟨op, a, b, c, n⟩ := o
  unfold insV hasB chkB
  dsimp only
  generalize hf : fld op = f
  obtain ⟨fa, fb, fc, fn, one⟩ := f
  dsimp only
  have hF := oFields op (w.alloc (.cells #[.int .i64 op, .int .i64 a, .int .i64 b, .int .i64 c, .int .i64 n] 55))
  rw [hf] at hF
  have hbx := BoxC.new w #[.int .i64 op, .int .i64 a, .int .i64 b, .int .i64 c, .int .i64 n] 55
  have hB1 : Below w.heap.size w (w.alloc (.cells #[.int .i64 op, .int .i64 a, .int .i64 b, .int .i64 c, .int .i64 n] 55)) := (Below.refl _ _).alloc (Nat.le_refl _) _
  by_cases h10 : op = 10
  · by_cases hn : n < 1
    · rw [show (decide (op = 10) && (decide (n < 1) || decide (64 < n))) = true by simp [h10, hn], if_pos rfl]
      have k10 : (op == 10) = true := by simpa using h10
      clear h10
      go_enter Tryz.func38, Tryz.ntmps38
      go_wp2_with first
        | (go_at_call 65; refine hF.mono ?_; unfold fldV; rintro e w2 ⟨rfl, hb2⟩; have q := hbx.below hb2; have y0 := q.cell 0 rfl; have y1 := q.cell 1 rfl; have y2 := q.cell 2 rfl; have y3 := q.cell 3 rfl; have y4 := q.cell 4 rfl; have hlt := q.lt; have hB2 := hB1.trans (hb2.mono (by simp)); clear q hb2)
        | (go_at_call 66; refine (oReg _ _ _).mono ?_; rintro e w3 ⟨rfl, hw⟩; obtain rfl := hw.symm)
      go_ret
      exact ⟨by simp [*], by repeat (first | exact hB2 | refine Below.setCell ?_ (Nat.le_of_lt hlt) _ | refine Below.alloc ?_ (Nat.le_of_lt hlt) _)⟩
    · by_cases hn2 : 64 < n
      · rw [show (decide (op = 10) && (decide (n < 1) || decide (64 < n))) = true by simp [h10, hn2], if_pos rfl]
        have k10 : (op == 10) = true := by simpa using h10
        clear h10
        go_enter Tryz.func38, Tryz.ntmps38
        go_wp2_with first
          | (go_at_call 65; refine hF.mono ?_; unfold fldV; rintro e w2 ⟨rfl, hb2⟩; have q := hbx.below hb2; have y0 := q.cell 0 rfl; have y1 := q.cell 1 rfl; have y2 := q.cell 2 rfl; have y3 := q.cell 3 rfl; have y4 := q.cell 4 rfl; have hlt := q.lt; have hB2 := hB1.trans (hb2.mono (by simp)); clear q hb2)
          | (go_at_call 66; refine (oReg _ _ _).mono ?_; rintro e w3 ⟨rfl, hw⟩; obtain rfl := hw.symm)
        go_ret
        exact ⟨by simp [*], by repeat (first | exact hB2 | refine Below.setCell ?_ (Nat.le_of_lt hlt) _ | refine Below.alloc ?_ (Nat.le_of_lt hlt) _)⟩
      · rw [show (decide (op = 10) && (decide (n < 1) || decide (64 < n))) = false by simp [h10, hn, hn2], if_neg (by simp)]
        have k10 : (op == 10) = true := by simpa using h10
        clear h10
        cases one with
        | false =>
          go_enter Tryz.func38, Tryz.ntmps38
          go_wp2_with first
            | (go_at_call 65; refine hF.mono ?_; unfold fldV; rintro e w2 ⟨rfl, hb2⟩; have q := hbx.below hb2; have y0 := q.cell 0 rfl; have y1 := q.cell 1 rfl; have y2 := q.cell 2 rfl; have y3 := q.cell 3 rfl; have y4 := q.cell 4 rfl; have hlt := q.lt; have hB2 := hB1.trans (hb2.mono (by simp)); clear q hb2)
            | (go_at_call 66; refine (oReg _ _ _).mono ?_; rintro e w3 ⟨rfl, hw⟩; obtain rfl := hw.symm)
          go_ret
          exact ⟨by simp [*], by repeat (first | exact hB2 | refine Below.setCell ?_ (Nat.le_of_lt hlt) _ | refine Below.alloc ?_ (Nat.le_of_lt hlt) _)⟩
        | true =>
          cases hA : regB a fa with
          | false =>
            go_enter Tryz.func38, Tryz.ntmps38
            go_wp2_with first
              | (go_at_call 65; refine hF.mono ?_; unfold fldV; rintro e w2 ⟨rfl, hb2⟩; have q := hbx.below hb2; have y0 := q.cell 0 rfl; have y1 := q.cell 1 rfl; have y2 := q.cell 2 rfl; have y3 := q.cell 3 rfl; have y4 := q.cell 4 rfl; have hlt := q.lt; have hB2 := hB1.trans (hb2.mono (by simp)); clear q hb2)
              | (go_at_call 66; refine (oReg _ _ _).mono ?_; rintro e w3 ⟨rfl, hw⟩; obtain rfl := hw.symm)
            go_ret
            exact ⟨by simp [*], by repeat (first | exact hB2 | refine Below.setCell ?_ (Nat.le_of_lt hlt) _ | refine Below.alloc ?_ (Nat.le_of_lt hlt) _)⟩
          | true =>
            cases hBb : regB b fb with
            | false =>
              go_enter Tryz.func38, Tryz.ntmps38
              go_wp2_with first
                | (go_at_call 65; refine hF.mono ?_; unfold fldV; rintro e w2 ⟨rfl, hb2⟩; have q := hbx.below hb2; have y0 := q.cell 0 rfl; have y1 := q.cell 1 rfl; have y2 := q.cell 2 rfl; have y3 := q.cell 3 rfl; have y4 := q.cell 4 rfl; have hlt := q.lt; have hB2 := hB1.trans (hb2.mono (by simp)); clear q hb2)
                | (go_at_call 66; refine (oReg _ _ _).mono ?_; rintro e w3 ⟨rfl, hw⟩; obtain rfl := hw.symm)
              go_ret
              exact ⟨by simp [*], by repeat (first | exact hB2 | refine Below.setCell ?_ (Nat.le_of_lt hlt) _ | refine Below.alloc ?_ (Nat.le_of_lt hlt) _)⟩
            | true =>
              cases hC : regB c fc with
              | false =>
                go_enter Tryz.func38, Tryz.ntmps38
                go_wp2_with first
                  | (go_at_call 65; refine hF.mono ?_; unfold fldV; rintro e w2 ⟨rfl, hb2⟩; have q := hbx.below hb2; have y0 := q.cell 0 rfl; have y1 := q.cell 1 rfl; have y2 := q.cell 2 rfl; have y3 := q.cell 3 rfl; have y4 := q.cell 4 rfl; have hlt := q.lt; have hB2 := hB1.trans (hb2.mono (by simp)); clear q hb2)
                  | (go_at_call 66; refine (oReg _ _ _).mono ?_; rintro e w3 ⟨rfl, hw⟩; obtain rfl := hw.symm)
                go_ret
                exact ⟨by simp [*], by repeat (first | exact hB2 | refine Below.setCell ?_ (Nat.le_of_lt hlt) _ | refine Below.alloc ?_ (Nat.le_of_lt hlt) _)⟩
              | true =>
                cases fn with
                | true =>
                  go_enter Tryz.func38, Tryz.ntmps38
                  go_wp2_with first
                    | (go_at_call 65; refine hF.mono ?_; unfold fldV; rintro e w2 ⟨rfl, hb2⟩; have q := hbx.below hb2; have y0 := q.cell 0 rfl; have y1 := q.cell 1 rfl; have y2 := q.cell 2 rfl; have y3 := q.cell 3 rfl; have y4 := q.cell 4 rfl; have hlt := q.lt; have hB2 := hB1.trans (hb2.mono (by simp)); clear q hb2)
                    | (go_at_call 66; refine (oReg _ _ _).mono ?_; rintro e w3 ⟨rfl, hw⟩; obtain rfl := hw.symm)
                  go_ret
                  exact ⟨by simp [*], by repeat (first | exact hB2 | refine Below.setCell ?_ (Nat.le_of_lt hlt) _ | refine Below.alloc ?_ (Nat.le_of_lt hlt) _)⟩
                | false =>
                  by_cases h0 : n = 0
                  · skip
                    exact absurd h0 (by omega)
                  · have k0 : (n == 0) = false := by simpa using h0
                    go_enter Tryz.func38, Tryz.ntmps38
                    go_wp2_with first
                      | (go_at_call 65; refine hF.mono ?_; unfold fldV; rintro e w2 ⟨rfl, hb2⟩; have q := hbx.below hb2; have y0 := q.cell 0 rfl; have y1 := q.cell 1 rfl; have y2 := q.cell 2 rfl; have y3 := q.cell 3 rfl; have y4 := q.cell 4 rfl; have hlt := q.lt; have hB2 := hB1.trans (hb2.mono (by simp)); clear q hb2)
                      | (go_at_call 66; refine (oReg _ _ _).mono ?_; rintro e w3 ⟨rfl, hw⟩; obtain rfl := hw.symm)
                    go_ret
                    exact ⟨by simp [*], by repeat (first | exact hB2 | refine Below.setCell ?_ (Nat.le_of_lt hlt) _ | refine Below.alloc ?_ (Nat.le_of_lt hlt) _)⟩
  · rw [show (decide (op = 10) && (decide (n < 1) || decide (64 < n))) = false by simp [h10], if_neg (by simp)]
    have k10 : (op == 10) = false := by simpa using h10
    clear h10
    cases one with
    | false =>
      go_enter Tryz.func38, Tryz.ntmps38
      go_wp2_with first
        | (go_at_call 65; refine hF.mono ?_; unfold fldV; rintro e w2 ⟨rfl, hb2⟩; have q := hbx.below hb2; have y0 := q.cell 0 rfl; have y1 := q.cell 1 rfl; have y2 := q.cell 2 rfl; have y3 := q.cell 3 rfl; have y4 := q.cell 4 rfl; have hlt := q.lt; have hB2 := hB1.trans (hb2.mono (by simp)); clear q hb2)
        | (go_at_call 66; refine (oReg _ _ _).mono ?_; rintro e w3 ⟨rfl, hw⟩; obtain rfl := hw.symm)
      go_ret
      exact ⟨by simp [*], by repeat (first | exact hB2 | refine Below.setCell ?_ (Nat.le_of_lt hlt) _ | refine Below.alloc ?_ (Nat.le_of_lt hlt) _)⟩
    | true =>
      cases hA : regB a fa with
      | false =>
        go_enter Tryz.func38, Tryz.ntmps38
        go_wp2_with first
          | (go_at_call 65; refine hF.mono ?_; unfold fldV; rintro e w2 ⟨rfl, hb2⟩; have q := hbx.below hb2; have y0 := q.cell 0 rfl; have y1 := q.cell 1 rfl; have y2 := q.cell 2 rfl; have y3 := q.cell 3 rfl; have y4 := q.cell 4 rfl; have hlt := q.lt; have hB2 := hB1.trans (hb2.mono (by simp)); clear q hb2)
          | (go_at_call 66; refine (oReg _ _ _).mono ?_; rintro e w3 ⟨rfl, hw⟩; obtain rfl := hw.symm)
        go_ret
        exact ⟨by simp [*], by repeat (first | exact hB2 | refine Below.setCell ?_ (Nat.le_of_lt hlt) _ | refine Below.alloc ?_ (Nat.le_of_lt hlt) _)⟩
      | true =>
        cases hBb : regB b fb with
        | false =>
          go_enter Tryz.func38, Tryz.ntmps38
          go_wp2_with first
            | (go_at_call 65; refine hF.mono ?_; unfold fldV; rintro e w2 ⟨rfl, hb2⟩; have q := hbx.below hb2; have y0 := q.cell 0 rfl; have y1 := q.cell 1 rfl; have y2 := q.cell 2 rfl; have y3 := q.cell 3 rfl; have y4 := q.cell 4 rfl; have hlt := q.lt; have hB2 := hB1.trans (hb2.mono (by simp)); clear q hb2)
            | (go_at_call 66; refine (oReg _ _ _).mono ?_; rintro e w3 ⟨rfl, hw⟩; obtain rfl := hw.symm)
          go_ret
          exact ⟨by simp [*], by repeat (first | exact hB2 | refine Below.setCell ?_ (Nat.le_of_lt hlt) _ | refine Below.alloc ?_ (Nat.le_of_lt hlt) _)⟩
        | true =>
          cases hC : regB c fc with
          | false =>
            go_enter Tryz.func38, Tryz.ntmps38
            go_wp2_with first
              | (go_at_call 65; refine hF.mono ?_; unfold fldV; rintro e w2 ⟨rfl, hb2⟩; have q := hbx.below hb2; have y0 := q.cell 0 rfl; have y1 := q.cell 1 rfl; have y2 := q.cell 2 rfl; have y3 := q.cell 3 rfl; have y4 := q.cell 4 rfl; have hlt := q.lt; have hB2 := hB1.trans (hb2.mono (by simp)); clear q hb2)
              | (go_at_call 66; refine (oReg _ _ _).mono ?_; rintro e w3 ⟨rfl, hw⟩; obtain rfl := hw.symm)
            go_ret
            exact ⟨by simp [*], by repeat (first | exact hB2 | refine Below.setCell ?_ (Nat.le_of_lt hlt) _ | refine Below.alloc ?_ (Nat.le_of_lt hlt) _)⟩
          | true =>
            cases fn with
            | true =>
              go_enter Tryz.func38, Tryz.ntmps38
              go_wp2_with first
                | (go_at_call 65; refine hF.mono ?_; unfold fldV; rintro e w2 ⟨rfl, hb2⟩; have q := hbx.below hb2; have y0 := q.cell 0 rfl; have y1 := q.cell 1 rfl; have y2 := q.cell 2 rfl; have y3 := q.cell 3 rfl; have y4 := q.cell 4 rfl; have hlt := q.lt; have hB2 := hB1.trans (hb2.mono (by simp)); clear q hb2)
                | (go_at_call 66; refine (oReg _ _ _).mono ?_; rintro e w3 ⟨rfl, hw⟩; obtain rfl := hw.symm)
              go_ret
              exact ⟨by simp [*], by repeat (first | exact hB2 | refine Below.setCell ?_ (Nat.le_of_lt hlt) _ | refine Below.alloc ?_ (Nat.le_of_lt hlt) _)⟩
            | false =>
              by_cases h0 : n = 0
              · skip
                subst h0
                go_enter Tryz.func38, Tryz.ntmps38
                go_wp2_with first
                  | (go_at_call 65; refine hF.mono ?_; unfold fldV; rintro e w2 ⟨rfl, hb2⟩; have q := hbx.below hb2; have y0 := q.cell 0 rfl; have y1 := q.cell 1 rfl; have y2 := q.cell 2 rfl; have y3 := q.cell 3 rfl; have y4 := q.cell 4 rfl; have hlt := q.lt; have hB2 := hB1.trans (hb2.mono (by simp)); clear q hb2)
                  | (go_at_call 66; refine (oReg _ _ _).mono ?_; rintro e w3 ⟨rfl, hw⟩; obtain rfl := hw.symm)
                go_ret
                exact ⟨by simp [*], by repeat (first | exact hB2 | refine Below.setCell ?_ (Nat.le_of_lt hlt) _ | refine Below.alloc ?_ (Nat.le_of_lt hlt) _)⟩
              · have k0 : (n == 0) = false := by simpa using h0
                go_enter Tryz.func38, Tryz.ntmps38
                go_wp2_with first
                  | (go_at_call 65; refine hF.mono ?_; unfold fldV; rintro e w2 ⟨rfl, hb2⟩; have q := hbx.below hb2; have y0 := q.cell 0 rfl; have y1 := q.cell 1 rfl; have y2 := q.cell 2 rfl; have y3 := q.cell 3 rfl; have y4 := q.cell 4 rfl; have hlt := q.lt; have hB2 := hB1.trans (hb2.mono (by simp)); clear q hb2)
                  | (go_at_call 66; refine (oReg _ _ _).mono ?_; rintro e w3 ⟨rfl, hw⟩; obtain rfl := hw.symm)
                go_ret
                exact ⟨by simp [*], by repeat (first | exact hB2 | refine Below.setCell ?_ (Nat.le_of_lt hlt) _ | refine Below.alloc ?_ (Nat.le_of_lt hlt) _)⟩
theorem oHas' (op a b c n : Int) (w : World) :
    Calls Tryz.prog 38 #[.agg #[.int .i64 op, .int .i64 a, .int .i64 b, .int .i64 c, .int .i64 n]] w fun e w' => e = .returned (.bool (hasB ⟨op, a, b, c, n⟩)) ∧ Below w.heap.size w w' := oHas ⟨op, a, b, c, n⟩ w
end Go.Proofs.YthfeojjfehbgjaaGreatDoor.mac
