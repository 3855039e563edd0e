/- Tokens, written one behind the other with a blank between, are read as the same: plain facts. -/
import Derived.Test.YtaejohijmlhfiaaDoorLexSpec
import Derived.Test.YtaejohijmlhfiaaDoorLexSteps
namespace Go.Proofs.YtaejohijmlhfiaaDoor.lexs

/-- a token's text, as it stands ahead of a blank, is read as it -/
def Good (t : Tok) : Prop := t.text ≠ [] ∧ ∀ R, stepL (t.text ++ 32 :: R) = .tok t.kind t.text.length

theorem run_blank (x : List UInt8) (h : ∀ c ∈ x, insB c = true) (R : List UInt8) : run insB (x ++ 32 :: R) = x.length := by
  induction x with
  | nil => simp only [List.nil_append, run]; rw [List.takeWhile_cons, if_neg (by decide)]
  | cons c x ih =>
    have hc := h c (by simp)
    have := ih (fun d hd => h d (by simp [hd]))
    unfold run at this ⊢
    rw [List.cons_append, List.takeWhile_cons, if_pos hc, List.length_cons, List.length_cons, this]
theorem take_run_eq (p : UInt8 → Bool) (l : List UInt8) : l.take (run p l) = l.takeWhile p := by
  unfold run
  induction l with
  | nil => rfl
  | cons c l ih =>
    rw [List.takeWhile_cons]
    by_cases h : p c = true
    · simp [h, ih]
    · simp [h]
theorem take_run (p : UInt8 → Bool) (l : List UInt8) : ∀ c ∈ l.take (run p l), p c = true := by
  intro c hc
  rw [take_run_eq] at hc
  exact List.all_eq_true.1 (List.all_takeWhile) c hc
theorem headD_take (l : List UInt8) (n : Nat) (hn : 0 < n) : (l.take n).headD 0 = l.headD 0 := by
  cases l with
  | nil => simp
  | cons c l => cases n with
    | zero => omega
    | succ n => simp
theorem headD_app (x R : List UInt8) (h : x ≠ []) : (x ++ R).headD 0 = x.headD 0 := by
  cases x with
  | nil => exact absurd rfl h
  | cons c x => simp
/-- a token that a step finds is good -/
theorem good_of (b : UInt8) (r : List UInt8) (k : Int) (n i : Nat) (h : stepL (b :: r) = .tok k n) : Good ⟨k, (b :: r).take n, i⟩ := by
  have hn := stepL_tok h
  have hne : (b :: r).take n ≠ [] := by
    intro e
    have := congrArg List.length e
    simp only [List.length_take, List.length_cons, List.length_nil] at this
    omega
  have hlen : ((b :: r).take n).length = n := by simp only [List.length_take, List.length_cons]; omega
  refine ⟨hne, fun R => ?_⟩
  show stepL ((b :: r).take n ++ 32 :: R) = .tok k ((b :: r).take n).length
  have hh : ((b :: r).take n ++ 32 :: R).headD 0 = b := by
    rw [headD_app _ _ hne, headD_take _ _ hn.1]; rfl
  rw [hlen]
  rw [stepL, List.headD_cons, stepB] at h
  rw [stepL, hh, stepB]
  by_cases h1 : (b == 32 || b == 10) = true
  · rw [if_pos h1] at h; simp at h
  rw [if_neg h1] at h ⊢
  by_cases h2 : (b == 35) = true
  · rw [if_pos h2] at h; simp at h
  rw [if_neg h2] at h ⊢
  by_cases h3 : ltrB b = true
  · rw [if_pos h3] at h ⊢
    split at h
    · simp at h
    · rename_i h16
      injection h with hk hr
      have e : run insB ((b :: r).take n ++ 32 :: R) = n := by
        rw [run_blank _ (by rw [← hr]; exact take_run insB (b :: r)), hlen]
      rw [e, if_neg (by omega), hk]
  rw [if_neg h3] at h ⊢
  by_cases h4 : digB b = true
  · rw [if_pos h4] at h ⊢
    split at h
    · rename_i h0
      injection h with hk hr
      have e : run insB ((b :: r).take n ++ 32 :: R) = n := by
        rw [run_blank _ (by rw [← hr]; exact take_run insB (b :: r)), hlen]
      rw [hr] at h0
      rw [e, List.take_left' hlen, if_pos h0, hk]
    · simp at h
  rw [if_neg h4] at h ⊢
  split at h
  · simp at h
  · rename_i h0
    injection h with hk hr
    have e : signLen ((b :: r).take n ++ 32 :: R) = n := by
      unfold signLen at hr ⊢
      rw [hh]
      rw [List.headD_cons] at hr
      by_cases g : (b == 61 && ((b :: r).drop 1).headD 0 == 61) = true
      · rw [if_pos g] at hr
        subst hr
        rcases r with _ | ⟨c, r⟩
        · simp at g
        · rw [if_pos]
          simpa using g
      · rw [if_neg g] at hr
        by_cases g1 : ones.contains b = true
        · rw [if_pos g1] at hr
          subst hr
          rw [if_neg, if_pos g1]
          simp
        · rw [if_neg g1] at hr
          omega
    rw [e, if_neg (by simp; omega), hk]
/-- what is written of them -/
def flat (l : List Tok) : List UInt8 := l.flatMap fun t => t.text ++ [32]
theorem flat_cons (t : Tok) (l : List Tok) : flat (t :: l) = t.text ++ 32 :: flat l := by simp [flat]
theorem flat_snoc (t : Tok) (l : List Tok) : flat (l ++ [t]) = flat l ++ t.text ++ [32] := by simp [flat]
theorem flat_take_le (l : List Tok) (k : Nat) : (flat (l.take k)).length ≤ (flat l).length := by
  have e : flat l = flat (l.take k) ++ flat (l.drop k) := by
    unfold flat
    rw [← List.flatMap_append, List.take_append_drop]
  rw [e, List.length_append]
  omega
/-- all that a scan answers is good, and no longer than the text -/
theorem scan_good (f : Nat) : ∀ (l : List UInt8) (i : Nat) (acc toks : List Tok), (∀ t ∈ acc, Good t) → scanL f l i acc = .ok toks → (∀ t ∈ toks, Good t) ∧ (flat toks).length ≤ (flat acc).length + 2 * l.length := by
  induction f with
  | zero =>
    intro l i acc toks ha h
    simp only [scanL, Res.ok.injEq] at h
    subst h
    exact ⟨ha, by omega⟩
  | succ f ih =>
    intro l i acc toks ha h
    cases l with
    | nil =>
      simp only [scanL, Res.ok.injEq] at h
      subst h
      exact ⟨ha, by omega⟩
    | cons b r =>
      cases hs : stepL (b :: r) with
      | skip n =>
        rw [scanL_skip hs] at h
        have hn := stepL_skip hs
        have := ih _ _ _ _ ha h
        rw [List.length_drop] at this
        exact ⟨this.1, by omega⟩
      | fault c => rw [scanL_fault hs] at h; simp at h
      | tok k n =>
        rw [scanL_tok hs] at h
        have hn := stepL_tok hs
        have hg := good_of b r k n i hs
        have := ih _ _ _ _ (by intro t ht; rcases List.mem_append.1 ht with h1 | h1; exact ha t h1; (simp at h1; subst h1; exact hg)) h
        refine ⟨this.1, ?_⟩
        have h2 := this.2
        rw [flat_snoc, List.length_append, List.length_append, List.length_drop] at h2
        have h3 : ((b :: r).take n).length = n := by simp only [List.length_take, List.length_cons]; omega
        simp only [h3, List.length_cons, List.length_nil] at h2 ⊢
        omega
/-- kinds and texts -/
def kt (t : Tok) : Int × List UInt8 := (t.kind, t.text)
theorem scan_again (toks : List Tok) : ∀ (f i : Nat) (acc : List Tok), (∀ t ∈ toks, Good t) → (flat toks).length ≤ f → ∃ toks', scanL f (flat toks) i acc = .ok (acc ++ toks') ∧ toks'.map kt = toks.map kt := by
  induction toks with
  | nil =>
    intro f i acc _ _
    refine ⟨[], ?_, rfl⟩
    show scanL f [] i acc = _
    rw [scanL_end, List.append_nil]
  | cons t toks ih =>
    intro f i acc hg hf
    have ht := hg t (by simp)
    rw [flat_cons] at hf ⊢
    have hl : 0 < t.text.length := List.length_pos_iff.2 ht.1
    rw [List.length_append, List.length_cons] at hf
    obtain ⟨f, rfl⟩ : ∃ f', f = f' + 2 := ⟨f - 2, by omega⟩
    have h1 := ht.2 (flat toks)
    obtain ⟨b, r, e⟩ := List.exists_cons_of_ne_nil (show t.text ++ 32 :: flat toks ≠ [] by simp)
    rw [e] at h1
    rw [e, scanL_tok h1, ← e, List.drop_left' rfl, List.take_left' rfl]
    have h2 : stepL (32 :: flat toks) = .skip 1 := by rw [stepL, List.headD_cons, stepB, if_pos (by decide)]
    rw [scanL_skip h2]
    obtain ⟨toks', h3, h4⟩ := ih f (i + t.text.length + 1) (acc ++ [⟨t.kind, t.text, i⟩]) (fun t ht => hg t (by simp [ht])) (by omega)
    refine ⟨⟨t.kind, t.text, i⟩ :: toks', ?_, ?_⟩
    · have : List.drop 1 (32 :: flat toks) = flat toks := rfl
      rw [this, h3]
      simp
    · rw [List.map_cons, List.map_cons, h4]; rfl
/-- THE LAW, in plain words -/
theorem lex_again (l : List UInt8) (toks : List Tok) (h : scan l = .ok toks) (hl : l.length ≤ 1000) : (flat toks).length ≤ 2 * l.length ∧ ∃ toks', scan (flat toks) = .ok toks' ∧ toks'.map kt = toks.map kt := by
  rw [scan, if_neg (by omega)] at h
  have hg := scan_good _ _ _ _ _ (by simp) h
  have h0 : (flat ([] : List Tok)).length = 0 := rfl
  rw [h0] at hg
  refine ⟨by omega, ?_⟩
  obtain ⟨toks', h1, h2⟩ := scan_again toks (flat toks).length 0 [] hg.1 (Nat.le_refl _)
  refine ⟨toks', ?_, h2⟩
  rw [scan, if_neg (by omega), h1]
  rfl
theorem scan_a : scan [97] = .ok [⟨1, [97], 0⟩] := by
  rw [scan, if_neg (by decide)]
  show scanL 1 [97] 0 [] = _
  have h : stepL [97] = .tok 1 1 := by rw [stepL, List.headD_cons, stepB, if_neg (by decide), if_neg (by decide), if_pos (by decide)]; rfl
  rw [scanL_tok h]
  rfl
theorem fault_ne {c : Int} {b : UInt8} {l : List UInt8} (h : stepB b l = .fault c) : c ≠ 0 := by
  rw [stepB] at h
  split at h
  · simp at h
  · split at h
    · simp at h
    · split at h
      · split at h
        · injection h with h; omega
        · simp at h
      · split at h
        · split at h
          · simp at h
          · rename_i hn
            injection h with h
            rw [← h]
            simpa using hn
        · split at h
          · injection h with h; omega
          · simp at h
theorem scanL_err_ne (f : Nat) : ∀ (l : List UInt8) (i : Nat) (acc : List Tok) (c : Int) (p : Nat), scanL f l i acc = .err c p → c ≠ 0 := by
  induction f with
  | zero => intro l i acc c p h; simp [scanL] at h
  | succ f ih =>
    intro l i acc c p h
    cases l with
    | nil => simp [scanL] at h
    | cons b r =>
      cases hs : stepL (b :: r) with
      | skip n => rw [scanL_skip hs] at h; exact ih _ _ _ _ _ h
      | fault c' =>
        rw [scanL_fault hs] at h
        injection h with h1 h2
        rw [← h1]
        exact fault_ne hs
      | tok k n => rw [scanL_tok hs] at h; exact ih _ _ _ _ _ h
theorem scan_err_ne {l : List UInt8} {c : Int} {p : Nat} (h : scan l = .err c p) : c ≠ 0 := by
  rw [scan] at h
  split at h
  · injection h with h; omega
  · exact scanL_err_ne _ _ _ _ _ _ h
end Go.Proofs.YtaejohijmlhfiaaDoor.lexs
