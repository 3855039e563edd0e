/- What the machine's hasItsFields and May answer: contracts. -/
import Derived.Test.YtcfibghjekimkaaMacOwnA
namespace Go.Proofs.Ytcfibghjekimkaa.mac
open Go.RowKit
set_option linter.unusedVariables false
set_option linter.unusedSimpArgs false
set_option maxRecDepth 100000
def insV (o : Ins) : Value := .agg #[.int .i64 o.op, .int .i64 o.a, .int .i64 o.b, .int .i64 o.c, .int .i64 o.n]
def insC (o : Ins) : List Value := [.int .i64 o.op, .int .i64 o.a, .int .i64 o.b, .int .i64 o.c, .int .i64 o.n]
set_option maxHeartbeats 4000000 in
theorem oHas (o : Ins) (w : World) :
    Calls Try.prog 12 #[insV o] w fun e w' => e = .returned (.bool (hasB o)) ∧ Below w.heap.size w w' := by
  have c55 : Try.prog.cellsOf 55 = 4 := by kernel_rfl
  have c46 : Try.prog.cellsOf 46 = 5 := by kernel_rfl
  obtain ⟨op, a, b, c, n⟩ := o
  unfold insV hasB chkB
  dsimp only
  generalize hf : fld op = f
  obtain ⟨fa, fb, fc, fn, one⟩ := f
  dsimp only
  have hF := oFields op (w.alloc (.cells #[.int .i64 op, .int .i64 a, .int .i64 b, .int .i64 c, .int .i64 n] 46))
  rw [hf] at hF
  have hbx := BoxC.new w #[.int .i64 op, .int .i64 a, .int .i64 b, .int .i64 c, .int .i64 n] 46
  have hB1 : Below w.heap.size w (w.alloc (.cells #[.int .i64 op, .int .i64 a, .int .i64 b, .int .i64 c, .int .i64 n] 46)) := (Below.refl _ _).alloc (Nat.le_refl _) _
  by_cases h10 : op = 10
  · by_cases hn : n < 1
    · rw [show (decide (op = 10) && (decide (n < 1) || decide (64 < n))) = true by simp [h10, hn], if_pos rfl]
      have k10 : (op == 10) = true := by simpa using h10
      clear h10
      go_enter Try.func12, Try.ntmps12
      go_wp2_with first
        | (go_at_call 18; refine hF.mono ?_; unfold fldV; rintro e w2 ⟨rfl, hb2⟩; have q := hbx.below hb2; have y0 := q.cell 0 rfl; have y1 := q.cell 1 rfl; have y2 := q.cell 2 rfl; have y3 := q.cell 3 rfl; have y4 := q.cell 4 rfl; have hlt := q.lt; have hB2 := hB1.trans (hb2.mono (by simp)); clear q hb2)
        | (go_at_call 19; refine (oReg _ _ _).mono ?_; rintro e w3 ⟨rfl, hw⟩; obtain rfl := hw.symm)
      go_ret
      exact ⟨by simp [*], by repeat (first | exact hB2 | refine Below.setCell ?_ (Nat.le_of_lt hlt) _ | refine Below.alloc ?_ (Nat.le_of_lt hlt) _)⟩
    · by_cases hn2 : 64 < n
      · rw [show (decide (op = 10) && (decide (n < 1) || decide (64 < n))) = true by simp [h10, hn2], if_pos rfl]
        have k10 : (op == 10) = true := by simpa using h10
        clear h10
        go_enter Try.func12, Try.ntmps12
        go_wp2_with first
          | (go_at_call 18; refine hF.mono ?_; unfold fldV; rintro e w2 ⟨rfl, hb2⟩; have q := hbx.below hb2; have y0 := q.cell 0 rfl; have y1 := q.cell 1 rfl; have y2 := q.cell 2 rfl; have y3 := q.cell 3 rfl; have y4 := q.cell 4 rfl; have hlt := q.lt; have hB2 := hB1.trans (hb2.mono (by simp)); clear q hb2)
          | (go_at_call 19; refine (oReg _ _ _).mono ?_; rintro e w3 ⟨rfl, hw⟩; obtain rfl := hw.symm)
        go_ret
        exact ⟨by simp [*], by repeat (first | exact hB2 | refine Below.setCell ?_ (Nat.le_of_lt hlt) _ | refine Below.alloc ?_ (Nat.le_of_lt hlt) _)⟩
      · rw [show (decide (op = 10) && (decide (n < 1) || decide (64 < n))) = false by simp [h10, hn, hn2], if_neg (by simp)]
        have k10 : (op == 10) = true := by simpa using h10
        clear h10
        cases one with
        | false =>
          go_enter Try.func12, Try.ntmps12
          go_wp2_with first
            | (go_at_call 18; refine hF.mono ?_; unfold fldV; rintro e w2 ⟨rfl, hb2⟩; have q := hbx.below hb2; have y0 := q.cell 0 rfl; have y1 := q.cell 1 rfl; have y2 := q.cell 2 rfl; have y3 := q.cell 3 rfl; have y4 := q.cell 4 rfl; have hlt := q.lt; have hB2 := hB1.trans (hb2.mono (by simp)); clear q hb2)
            | (go_at_call 19; refine (oReg _ _ _).mono ?_; rintro e w3 ⟨rfl, hw⟩; obtain rfl := hw.symm)
          go_ret
          exact ⟨by simp [*], by repeat (first | exact hB2 | refine Below.setCell ?_ (Nat.le_of_lt hlt) _ | refine Below.alloc ?_ (Nat.le_of_lt hlt) _)⟩
        | true =>
          cases hA : regB a fa with
          | false =>
            go_enter Try.func12, Try.ntmps12
            go_wp2_with first
              | (go_at_call 18; refine hF.mono ?_; unfold fldV; rintro e w2 ⟨rfl, hb2⟩; have q := hbx.below hb2; have y0 := q.cell 0 rfl; have y1 := q.cell 1 rfl; have y2 := q.cell 2 rfl; have y3 := q.cell 3 rfl; have y4 := q.cell 4 rfl; have hlt := q.lt; have hB2 := hB1.trans (hb2.mono (by simp)); clear q hb2)
              | (go_at_call 19; refine (oReg _ _ _).mono ?_; rintro e w3 ⟨rfl, hw⟩; obtain rfl := hw.symm)
            go_ret
            exact ⟨by simp [*], by repeat (first | exact hB2 | refine Below.setCell ?_ (Nat.le_of_lt hlt) _ | refine Below.alloc ?_ (Nat.le_of_lt hlt) _)⟩
          | true =>
            cases hBb : regB b fb with
            | false =>
              go_enter Try.func12, Try.ntmps12
              go_wp2_with first
                | (go_at_call 18; refine hF.mono ?_; unfold fldV; rintro e w2 ⟨rfl, hb2⟩; have q := hbx.below hb2; have y0 := q.cell 0 rfl; have y1 := q.cell 1 rfl; have y2 := q.cell 2 rfl; have y3 := q.cell 3 rfl; have y4 := q.cell 4 rfl; have hlt := q.lt; have hB2 := hB1.trans (hb2.mono (by simp)); clear q hb2)
                | (go_at_call 19; refine (oReg _ _ _).mono ?_; rintro e w3 ⟨rfl, hw⟩; obtain rfl := hw.symm)
              go_ret
              exact ⟨by simp [*], by repeat (first | exact hB2 | refine Below.setCell ?_ (Nat.le_of_lt hlt) _ | refine Below.alloc ?_ (Nat.le_of_lt hlt) _)⟩
            | true =>
              cases hC : regB c fc with
              | false =>
                go_enter Try.func12, Try.ntmps12
                go_wp2_with first
                  | (go_at_call 18; refine hF.mono ?_; unfold fldV; rintro e w2 ⟨rfl, hb2⟩; have q := hbx.below hb2; have y0 := q.cell 0 rfl; have y1 := q.cell 1 rfl; have y2 := q.cell 2 rfl; have y3 := q.cell 3 rfl; have y4 := q.cell 4 rfl; have hlt := q.lt; have hB2 := hB1.trans (hb2.mono (by simp)); clear q hb2)
                  | (go_at_call 19; refine (oReg _ _ _).mono ?_; rintro e w3 ⟨rfl, hw⟩; obtain rfl := hw.symm)
                go_ret
                exact ⟨by simp [*], by repeat (first | exact hB2 | refine Below.setCell ?_ (Nat.le_of_lt hlt) _ | refine Below.alloc ?_ (Nat.le_of_lt hlt) _)⟩
              | true =>
                cases fn with
                | true =>
                  go_enter Try.func12, Try.ntmps12
                  go_wp2_with first
                    | (go_at_call 18; refine hF.mono ?_; unfold fldV; rintro e w2 ⟨rfl, hb2⟩; have q := hbx.below hb2; have y0 := q.cell 0 rfl; have y1 := q.cell 1 rfl; have y2 := q.cell 2 rfl; have y3 := q.cell 3 rfl; have y4 := q.cell 4 rfl; have hlt := q.lt; have hB2 := hB1.trans (hb2.mono (by simp)); clear q hb2)
                    | (go_at_call 19; refine (oReg _ _ _).mono ?_; rintro e w3 ⟨rfl, hw⟩; obtain rfl := hw.symm)
                  go_ret
                  exact ⟨by simp [*], by repeat (first | exact hB2 | refine Below.setCell ?_ (Nat.le_of_lt hlt) _ | refine Below.alloc ?_ (Nat.le_of_lt hlt) _)⟩
                | false =>
                  by_cases h0 : n = 0
                  · skip
                    exact absurd h0 (by omega)
                  · have k0 : (n == 0) = false := by simpa using h0
                    go_enter Try.func12, Try.ntmps12
                    go_wp2_with first
                      | (go_at_call 18; refine hF.mono ?_; unfold fldV; rintro e w2 ⟨rfl, hb2⟩; have q := hbx.below hb2; have y0 := q.cell 0 rfl; have y1 := q.cell 1 rfl; have y2 := q.cell 2 rfl; have y3 := q.cell 3 rfl; have y4 := q.cell 4 rfl; have hlt := q.lt; have hB2 := hB1.trans (hb2.mono (by simp)); clear q hb2)
                      | (go_at_call 19; refine (oReg _ _ _).mono ?_; rintro e w3 ⟨rfl, hw⟩; obtain rfl := hw.symm)
                    go_ret
                    exact ⟨by simp [*], by repeat (first | exact hB2 | refine Below.setCell ?_ (Nat.le_of_lt hlt) _ | refine Below.alloc ?_ (Nat.le_of_lt hlt) _)⟩
  · rw [show (decide (op = 10) && (decide (n < 1) || decide (64 < n))) = false by simp [h10], if_neg (by simp)]
    have k10 : (op == 10) = false := by simpa using h10
    clear h10
    cases one with
    | false =>
      go_enter Try.func12, Try.ntmps12
      go_wp2_with first
        | (go_at_call 18; refine hF.mono ?_; unfold fldV; rintro e w2 ⟨rfl, hb2⟩; have q := hbx.below hb2; have y0 := q.cell 0 rfl; have y1 := q.cell 1 rfl; have y2 := q.cell 2 rfl; have y3 := q.cell 3 rfl; have y4 := q.cell 4 rfl; have hlt := q.lt; have hB2 := hB1.trans (hb2.mono (by simp)); clear q hb2)
        | (go_at_call 19; refine (oReg _ _ _).mono ?_; rintro e w3 ⟨rfl, hw⟩; obtain rfl := hw.symm)
      go_ret
      exact ⟨by simp [*], by repeat (first | exact hB2 | refine Below.setCell ?_ (Nat.le_of_lt hlt) _ | refine Below.alloc ?_ (Nat.le_of_lt hlt) _)⟩
    | true =>
      cases hA : regB a fa with
      | false =>
        go_enter Try.func12, Try.ntmps12
        go_wp2_with first
          | (go_at_call 18; refine hF.mono ?_; unfold fldV; rintro e w2 ⟨rfl, hb2⟩; have q := hbx.below hb2; have y0 := q.cell 0 rfl; have y1 := q.cell 1 rfl; have y2 := q.cell 2 rfl; have y3 := q.cell 3 rfl; have y4 := q.cell 4 rfl; have hlt := q.lt; have hB2 := hB1.trans (hb2.mono (by simp)); clear q hb2)
          | (go_at_call 19; refine (oReg _ _ _).mono ?_; rintro e w3 ⟨rfl, hw⟩; obtain rfl := hw.symm)
        go_ret
        exact ⟨by simp [*], by repeat (first | exact hB2 | refine Below.setCell ?_ (Nat.le_of_lt hlt) _ | refine Below.alloc ?_ (Nat.le_of_lt hlt) _)⟩
      | true =>
        cases hBb : regB b fb with
        | false =>
          go_enter Try.func12, Try.ntmps12
          go_wp2_with first
            | (go_at_call 18; refine hF.mono ?_; unfold fldV; rintro e w2 ⟨rfl, hb2⟩; have q := hbx.below hb2; have y0 := q.cell 0 rfl; have y1 := q.cell 1 rfl; have y2 := q.cell 2 rfl; have y3 := q.cell 3 rfl; have y4 := q.cell 4 rfl; have hlt := q.lt; have hB2 := hB1.trans (hb2.mono (by simp)); clear q hb2)
            | (go_at_call 19; refine (oReg _ _ _).mono ?_; rintro e w3 ⟨rfl, hw⟩; obtain rfl := hw.symm)
          go_ret
          exact ⟨by simp [*], by repeat (first | exact hB2 | refine Below.setCell ?_ (Nat.le_of_lt hlt) _ | refine Below.alloc ?_ (Nat.le_of_lt hlt) _)⟩
        | true =>
          cases hC : regB c fc with
          | false =>
            go_enter Try.func12, Try.ntmps12
            go_wp2_with first
              | (go_at_call 18; refine hF.mono ?_; unfold fldV; rintro e w2 ⟨rfl, hb2⟩; have q := hbx.below hb2; have y0 := q.cell 0 rfl; have y1 := q.cell 1 rfl; have y2 := q.cell 2 rfl; have y3 := q.cell 3 rfl; have y4 := q.cell 4 rfl; have hlt := q.lt; have hB2 := hB1.trans (hb2.mono (by simp)); clear q hb2)
              | (go_at_call 19; refine (oReg _ _ _).mono ?_; rintro e w3 ⟨rfl, hw⟩; obtain rfl := hw.symm)
            go_ret
            exact ⟨by simp [*], by repeat (first | exact hB2 | refine Below.setCell ?_ (Nat.le_of_lt hlt) _ | refine Below.alloc ?_ (Nat.le_of_lt hlt) _)⟩
          | true =>
            cases fn with
            | true =>
              go_enter Try.func12, Try.ntmps12
              go_wp2_with first
                | (go_at_call 18; refine hF.mono ?_; unfold fldV; rintro e w2 ⟨rfl, hb2⟩; have q := hbx.below hb2; have y0 := q.cell 0 rfl; have y1 := q.cell 1 rfl; have y2 := q.cell 2 rfl; have y3 := q.cell 3 rfl; have y4 := q.cell 4 rfl; have hlt := q.lt; have hB2 := hB1.trans (hb2.mono (by simp)); clear q hb2)
                | (go_at_call 19; refine (oReg _ _ _).mono ?_; rintro e w3 ⟨rfl, hw⟩; obtain rfl := hw.symm)
              go_ret
              exact ⟨by simp [*], by repeat (first | exact hB2 | refine Below.setCell ?_ (Nat.le_of_lt hlt) _ | refine Below.alloc ?_ (Nat.le_of_lt hlt) _)⟩
            | false =>
              by_cases h0 : n = 0
              · skip
                subst h0
                go_enter Try.func12, Try.ntmps12
                go_wp2_with first
                  | (go_at_call 18; refine hF.mono ?_; unfold fldV; rintro e w2 ⟨rfl, hb2⟩; have q := hbx.below hb2; have y0 := q.cell 0 rfl; have y1 := q.cell 1 rfl; have y2 := q.cell 2 rfl; have y3 := q.cell 3 rfl; have y4 := q.cell 4 rfl; have hlt := q.lt; have hB2 := hB1.trans (hb2.mono (by simp)); clear q hb2)
                  | (go_at_call 19; refine (oReg _ _ _).mono ?_; rintro e w3 ⟨rfl, hw⟩; obtain rfl := hw.symm)
                go_ret
                exact ⟨by simp [*], by repeat (first | exact hB2 | refine Below.setCell ?_ (Nat.le_of_lt hlt) _ | refine Below.alloc ?_ (Nat.le_of_lt hlt) _)⟩
              · have k0 : (n == 0) = false := by simpa using h0
                go_enter Try.func12, Try.ntmps12
                go_wp2_with first
                  | (go_at_call 18; refine hF.mono ?_; unfold fldV; rintro e w2 ⟨rfl, hb2⟩; have q := hbx.below hb2; have y0 := q.cell 0 rfl; have y1 := q.cell 1 rfl; have y2 := q.cell 2 rfl; have y3 := q.cell 3 rfl; have y4 := q.cell 4 rfl; have hlt := q.lt; have hB2 := hB1.trans (hb2.mono (by simp)); clear q hb2)
                  | (go_at_call 19; refine (oReg _ _ _).mono ?_; rintro e w3 ⟨rfl, hw⟩; obtain rfl := hw.symm)
                go_ret
                exact ⟨by simp [*], by repeat (first | exact hB2 | refine Below.setCell ?_ (Nat.le_of_lt hlt) _ | refine Below.alloc ?_ (Nat.le_of_lt hlt) _)⟩
theorem oHas' (op a b c n : Int) (w : World) :
    Calls Try.prog 12 #[.agg #[.int .i64 op, .int .i64 a, .int .i64 b, .int .i64 c, .int .i64 n]] w fun e w' => e = .returned (.bool (hasB ⟨op, a, b, c, n⟩)) ∧ Below w.heap.size w w' := oHas ⟨op, a, b, c, n⟩ w
/-- orders that lie in a row -/
def CodeIn (w : World) (v : Value) (l : List Ins) : Prop := ∃ a c, v = .slice a l.length c ∧ (l ≠ [] → ∃ g o, a = some ⟨g, o, none⟩ ∧ ∀ i (h : i < l.length), w.cell? ⟨g, o + i * 5, none⟩ = some (.int .i64 l[i].op) ∧ w.cell? ⟨g, o + i * 5 + 1, none⟩ = some (.int .i64 l[i].a) ∧ w.cell? ⟨g, o + i * 5 + 2, none⟩ = some (.int .i64 l[i].b) ∧ w.cell? ⟨g, o + i * 5 + 3, none⟩ = some (.int .i64 l[i].c) ∧ w.cell? ⟨g, o + i * 5 + 4, none⟩ = some (.int .i64 l[i].n))
theorem CodeIn.below {w w' : World} {v : Value} {l : List Ins} (h : CodeIn w v l) (hb : Below w.heap.size w w') : CodeIn w' v l := by
  obtain ⟨a, c, e, hk⟩ := h
  refine ⟨a, c, e, fun hne => ?_⟩
  obtain ⟨g, o, e2, hc⟩ := hk hne
  exact ⟨g, o, e2, fun i hi => by obtain ⟨h0, h1, h2, h3, h4⟩ := hc i hi; exact ⟨keep h0 hb, keep h1 hb, keep h2 hb, keep h3 hb, keep h4 hb⟩⟩
def imgV (cv : Value) (lo hi : Int) : Value := .agg #[cv, .int .i64 lo, .int .i64 hi]
theorem head_no {many : Nat} {lo hi : Int} (h : headB many lo hi = false) : (many : Int) < 1 ∨ (20000 < (many : Int)) ∨ upB lo 20000 = false ∨ upB hi 20000 = false := by
  unfold headB at h
  simp only [Bool.not_eq_false', Bool.or_eq_true, decide_eq_true_eq, Bool.not_eq_true'] at h
  rcases h with ((h | h) | h) | h
  · exact .inl h
  · exact .inr (.inl h)
  · exact .inr (.inr (.inl h))
  · exact .inr (.inr (.inr h))
theorem head_yes {many : Nat} {lo hi : Int} (h : headB many lo hi = true) : ¬ (many : Int) < 1 ∧ ¬ (20000 < (many : Int)) ∧ upB lo 20000 = true ∧ upB hi 20000 = true := by
  unfold headB at h
  simp only [Bool.not_eq_true', Bool.or_eq_false_iff, decide_eq_false_iff_not, Bool.not_eq_false'] at h
  exact ⟨h.1.1.1, h.1.1.2, h.1.2, h.2⟩
theorem all_no {p : Ins → Bool} {l : List Ins} {j : Nat} (hj : j < l.length) (h : p l[j] = false) : l.all p = false := by
  cases he : l.all p with
  | false => rfl
  | true =>
    rw [List.all_eq_true] at he
    rw [he _ (List.getElem_mem hj)] at h
    cases h
theorem all_yes {p : Ins → Bool} {l : List Ins} (h : ∀ i (hi : i < l.length), p l[i] = true) : l.all p = true := by
  rw [List.all_eq_true]
  intro x hx
  obtain ⟨i, hi, rfl⟩ := List.mem_iff_getElem.1 hx
  exact h i hi
set_option maxHeartbeats 4000000 in
theorem oMay (code : List Ins) (cv : Value) (lo hi : Int) (w : World) (hc : CodeIn w cv code) :
    Calls Try.prog 7 #[imgV cv lo hi] w fun e w' => e = .returned (.bool (mayB code lo hi)) ∧ Below w.heap.size w w' := by
  have c24 : Try.prog.cellsOf 24 = 3 := by kernel_rfl
  have c46 : Try.prog.cellsOf 46 = 5 := by kernel_rfl
  have hbx := BoxC.new w #[cv, .int .i64 lo, .int .i64 hi] 24
  have hB1 : Below w.heap.size w (w.alloc (.cells #[cv, .int .i64 lo, .int .i64 hi] 24)) := (Below.refl _ _).alloc (Nat.le_refl _) _
  obtain ⟨ca, cc, rfl, hk⟩ := hc
  unfold imgV mayB
  cases hh : headB code.length lo hi with
  | false =>
    rw [Bool.false_and]
    have hd := head_no hh
    clear hh hk
    by_cases h1 : (code.length : Int) < 1
    · go_enter Try.func7, Try.ntmps7
      go_wp2
      go_ret
      exact ⟨rfl, hB1⟩
    by_cases h2 : 20000 < (code.length : Int)
    · go_enter Try.func7, Try.ntmps7
      go_wp2
      go_ret
      exact ⟨rfl, hB1⟩
    cases h3 : upB lo 20000 with
    | false =>
      go_enter Try.func7, Try.ntmps7
      go_wp2_with (go_at_call 11; refine (oUpTo _ _ _).mono ?_; rintro e w3 ⟨rfl, hw⟩; obtain rfl := hw.symm)
      go_ret
      exact ⟨rfl, hB1⟩
    | true =>
      have h4 : upB hi 20000 = false := by
        rcases hd with h | h | h | h
        · exact absurd h h1
        · exact absurd h h2
        · rw [h3] at h; cases h
        · exact h
      clear hd
      go_enter Try.func7, Try.ntmps7
      go_wp2_with (go_at_call 11; refine (oUpTo _ _ _).mono ?_; rintro e w3 ⟨rfl, hw⟩; obtain rfl := hw.symm)
      go_ret
      exact ⟨rfl, hB1⟩
  | true =>
    rw [Bool.true_and]
    obtain ⟨h1, h2, h3, h4⟩ := head_yes hh
    clear hh
    go_enter Try.func7, Try.ntmps7
    go_wp2_with (go_at_call 11; refine (oUpTo _ _ _).mono ?_; rintro e w3 ⟨rfl, hw⟩; obtain rfl := hw.symm)
    go_loopw [30] (fun u wr => ∃ j : Nat, j ≤ code.length ∧ u = .int .i64 j ∧ Below w.heap.size w wr ∧ BoxC wr w.heap.size #[.slice ca code.length cc, .int .i64 lo, .int .i64 hi] 24 ∧ Hid (∀ i (hi : i < code.length), i < j → insB code.length code[i] = true)) (fun u _ => code.length - (intOf u).toNat)
    case atStart => exact ⟨0, Nat.zero_le _, rfl, hB1, hbx, fun i _ hi => by omega⟩
    case round =>
      obtain ⟨j, hj, rfl, hBr, hbr, HA⟩ := hrel
      clear hbx hB1
      by_cases hlt : j < code.length
      · obtain ⟨g, o, rfl, hcell⟩ := hk (by intro e; rw [e] at hlt; simp at hlt)
        obtain ⟨q0, q1, q2, q3, q4⟩ := hcell j hlt
        replace q0 := keep q0 hBr
        replace q1 := keep q1 hBr
        replace q2 := keep q2 hBr
        replace q3 := keep q3 hBr
        replace q4 := keep q4 hBr
        clear hcell hk
        generalize hi : code[j] = ins at *
        obtain ⟨op, a, b, c, n⟩ := ins
        dsimp only at q0 q1 q2 q3 q4
        have r0 := hbr.cell 0 rfl
        have hsz := hBr.size
        have hltb := hbr.lt
        cases hh : hasB ⟨op, a, b, c, n⟩ with
        | false =>
          have HR : Hid (code.all (insB code.length) = false) := all_no hlt (by rw [hi]; simp [insB, hh])
          go_wp2_with first
            | (go_at_call 12; refine (oHas' _ _ _ _ _ _).mono ?_; rintro e w4 ⟨rfl, hb4⟩; have q := (BoxC.new wr #[.int .i64 op, .int .i64 a, .int .i64 b, .int .i64 c, .int .i64 n] 46).below hb4; have y0 := q.cell 0 rfl; have y4 := q.cell 4 rfl; have hbr4 := (hbr.alloc (.cells #[.int .i64 op, .int .i64 a, .int .i64 b, .int .i64 c, .int .i64 n] 46)).below hb4; have z0 := hbr4.cell 0 rfl; have hB4 := (hBr.alloc hBr.size (.cells #[.int .i64 op, .int .i64 a, .int .i64 b, .int .i64 c, .int .i64 n] 46)).trans (hb4.mono (by have := hBr.size; simp; omega)); clear q hb4)
            | (go_at_call 13; refine (oGoes _ _).mono ?_; rintro e w5 ⟨rfl, hw⟩; obtain rfl := hw.symm)
            | (go_at_call 14; refine (oBelow _ _ _).mono ?_; rintro e w5 ⟨rfl, hw⟩; obtain rfl := hw.symm)
          go_ret
          exact ⟨by rw [HR.out]; rfl, hB4⟩
        | true =>
          cases hg : goB op with
          | false =>
            have HS : Hid (insB code.length ⟨op, a, b, c, n⟩ = true) := by show _ = _; simp [insB, hh, hg]
            go_wp2_with first
              | (go_at_call 12; refine (oHas' _ _ _ _ _ _).mono ?_; rintro e w4 ⟨rfl, hb4⟩; have q := (BoxC.new wr #[.int .i64 op, .int .i64 a, .int .i64 b, .int .i64 c, .int .i64 n] 46).below hb4; have y0 := q.cell 0 rfl; have y4 := q.cell 4 rfl; have hbr4 := (hbr.alloc (.cells #[.int .i64 op, .int .i64 a, .int .i64 b, .int .i64 c, .int .i64 n] 46)).below hb4; have z0 := hbr4.cell 0 rfl; have hB4 := (hBr.alloc hBr.size (.cells #[.int .i64 op, .int .i64 a, .int .i64 b, .int .i64 c, .int .i64 n] 46)).trans (hb4.mono (by have := hBr.size; simp; omega)); clear q hb4)
              | (go_at_call 13; refine (oGoes _ _).mono ?_; rintro e w5 ⟨rfl, hw⟩; obtain rfl := hw.symm)
              | (go_at_call 14; refine (oBelow _ _ _).mono ?_; rintro e w5 ⟨rfl, hw⟩; obtain rfl := hw.symm)
            go_roundw
            case rel => exact ⟨j + 1, by omega, by go_num, hB4, hbr4, fun i hi2 h => by
              rcases Nat.lt_or_ge i j with h5 | h5
              · exact HA.out i hi2 h5
              · obtain rfl : i = j := by omega
                rw [hi]
                exact HS.out⟩
            case measure => simp [intOf]; omega
          | true =>
            cases hb : belB n code.length with
            | true =>
              have HS : Hid (insB code.length ⟨op, a, b, c, n⟩ = true) := by show _ = _; simp [insB, hh, hg, hb]
              go_wp2_with first
                | (go_at_call 12; refine (oHas' _ _ _ _ _ _).mono ?_; rintro e w4 ⟨rfl, hb4⟩; have q := (BoxC.new wr #[.int .i64 op, .int .i64 a, .int .i64 b, .int .i64 c, .int .i64 n] 46).below hb4; have y0 := q.cell 0 rfl; have y4 := q.cell 4 rfl; have hbr4 := (hbr.alloc (.cells #[.int .i64 op, .int .i64 a, .int .i64 b, .int .i64 c, .int .i64 n] 46)).below hb4; have z0 := hbr4.cell 0 rfl; have hB4 := (hBr.alloc hBr.size (.cells #[.int .i64 op, .int .i64 a, .int .i64 b, .int .i64 c, .int .i64 n] 46)).trans (hb4.mono (by have := hBr.size; simp; omega)); clear q hb4)
                | (go_at_call 13; refine (oGoes _ _).mono ?_; rintro e w5 ⟨rfl, hw⟩; obtain rfl := hw.symm)
                | (go_at_call 14; refine (oBelow _ _ _).mono ?_; rintro e w5 ⟨rfl, hw⟩; obtain rfl := hw.symm)
              go_roundw
              case rel => exact ⟨j + 1, by omega, by go_num, hB4, hbr4, fun i hi2 h => by
                rcases Nat.lt_or_ge i j with h5 | h5
                · exact HA.out i hi2 h5
                · obtain rfl : i = j := by omega
                  rw [hi]
                  exact HS.out⟩
              case measure => simp [intOf]; omega
            | false =>
              have HR : Hid (code.all (insB code.length) = false) := all_no hlt (by rw [hi]; simp [insB, hh, hg, hb])
              go_wp2_with first
                | (go_at_call 12; refine (oHas' _ _ _ _ _ _).mono ?_; rintro e w4 ⟨rfl, hb4⟩; have q := (BoxC.new wr #[.int .i64 op, .int .i64 a, .int .i64 b, .int .i64 c, .int .i64 n] 46).below hb4; have y0 := q.cell 0 rfl; have y4 := q.cell 4 rfl; have hbr4 := (hbr.alloc (.cells #[.int .i64 op, .int .i64 a, .int .i64 b, .int .i64 c, .int .i64 n] 46)).below hb4; have z0 := hbr4.cell 0 rfl; have hB4 := (hBr.alloc hBr.size (.cells #[.int .i64 op, .int .i64 a, .int .i64 b, .int .i64 c, .int .i64 n] 46)).trans (hb4.mono (by have := hBr.size; simp; omega)); clear q hb4)
                | (go_at_call 13; refine (oGoes _ _).mono ?_; rintro e w5 ⟨rfl, hw⟩; obtain rfl := hw.symm)
                | (go_at_call 14; refine (oBelow _ _ _).mono ?_; rintro e w5 ⟨rfl, hw⟩; obtain rfl := hw.symm)
              go_ret
              exact ⟨by rw [HR.out]; rfl, hB4⟩
      · have HR : Hid (code.all (insB code.length) = true) := all_yes fun i hi => HA.out i hi (by omega)
        go_wp2
        go_ret
        exact ⟨by rw [HR.out]; rfl, hBr⟩
end Go.Proofs.Ytcfibghjekimkaa.mac
