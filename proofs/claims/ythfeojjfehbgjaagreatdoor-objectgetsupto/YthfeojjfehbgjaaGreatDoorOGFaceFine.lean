/- What tokens look like; and when a text is a NAME, told by its tokens. No Go in sight. -/
import Derived.Test.YthfeojjfehbgjaaGreatDoorOGLexSpec
import Derived.Test.YthfeojjfehbgjaaGreatDoorOGSynSpec
namespace Go.Proofs.YthfeojjfehbgjaaGreatDoor.face
open Go.Proofs.YthfeojjfehbgjaaGreatDoor.lexs Go.Proofs.YthfeojjfehbgjaaGreatDoor.syn

/-- what the tokens of a text look like -/
structure Fine (t : Tok) : Prop where
  kinds : t.kind = 1 ∨ t.kind = 2 ∨ t.kind = 3
  ne : t.text ≠ []
  word : t.kind = 1 → t.text.length ≤ 16 ∧ ltrB (t.text.headD 0) = true ∧ t.text.all insB = true
  num : t.kind = 2 → numE t.text = 0
  sign : t.kind = 3 → ltrB (t.text.headD 0) = false
theorem take_run (p : UInt8 → Bool) (l : List UInt8) : l.take (run p l) = l.takeWhile p := by
  unfold run
  induction l with
  | nil => rfl
  | cons b r ih =>
    rw [List.takeWhile_cons]
    cases p b
    · rfl
    · simp [ih]
theorem step_fine {b : UInt8} {r : List UInt8} {K : Int} {n i : Nat} (h : stepL (b :: r) = .tok K n) : Fine ⟨K, (b :: r).take n, i⟩ := by
  have hn := (stepL_tok h).1
  obtain ⟨m, rfl⟩ : ∃ m, n = m + 1 := ⟨n - 1, by omega⟩
  have hh : ((b :: r).take (m + 1)).headD 0 = b := by simp
  have hne : (b :: r).take (m + 1) ≠ [] := by simp
  rw [stepL, List.headD_cons, stepB] at h
  by_cases h1 : (b == 32 || b == 10) = true
  · rw [if_pos h1] at h; simp at h
  rw [if_neg h1] at h
  by_cases h2 : (b == 35) = true
  · rw [if_pos h2] at h; simp at h
  rw [if_neg h2] at h
  cases h3 : ltrB b
  · rw [h3] at h
    simp only [Bool.false_eq_true, if_false] at h
    cases h4 : digB b
    · rw [h4] at h
      simp only [Bool.false_eq_true, if_false] at h
      split at h
      · simp at h
      · injection h with hk hm
        subst hk
        refine ⟨.inr (.inr rfl), hne, fun e => by simp at e, fun e => by simp at e, fun _ => ?_⟩
        show ltrB (((b :: r).take (m + 1)).headD 0) = false
        rw [hh]
        exact h3
    · rw [h4] at h
      simp only [if_true] at h
      split at h
      · rename_i he
        injection h with hk hm
        subst hk
        refine ⟨.inr (.inl rfl), hne, fun e => by simp at e, fun _ => ?_, fun e => by simp at e⟩
        rw [← hm]
        simpa using he
      · simp at h
  · rw [h3] at h
    simp only [if_true] at h
    split at h
    · simp at h
    · rename_i h16
      injection h with hk hm
      subst hk
      refine ⟨.inl rfl, hne, fun _ => ⟨?_, ?_, ?_⟩, fun e => by simp at e, fun e => by simp at e⟩
      · show ((b :: r).take (m + 1)).length ≤ 16
        rw [List.length_take]
        omega
      · show ltrB (((b :: r).take (m + 1)).headD 0) = true
        rw [hh]
        exact h3
      · show ((b :: r).take (m + 1)).all insB = true
        rw [← hm, take_run]
        exact List.all_takeWhile
theorem scanL_fine : ∀ (f : Nat) (l : List UInt8) (i : Nat) (acc toks : List Tok), scanL f l i acc = .ok toks → (∀ t ∈ acc, Fine t) → ∀ t ∈ toks, Fine t
  | 0, l, i, acc, toks, h, ha => by
    unfold scanL at h
    injection h with h
    subst h
    exact ha
  | f + 1, [], i, acc, toks, h, ha => by
    unfold scanL at h
    injection h with h
    subst h
    exact ha
  | f + 1, b :: r, i, acc, toks, h, ha => by
    cases hs : stepL (b :: r) with
    | skip n => rw [scanL_skip hs] at h; exact scanL_fine f _ _ _ _ h ha
    | fault c => rw [scanL_fault hs] at h; simp at h
    | tok k n =>
      rw [scanL_tok hs] at h
      refine scanL_fine f _ _ _ _ h ?_
      intro t ht
      rw [List.mem_append] at ht
      rcases ht with ht | ht
      · exact ha t ht
      · simp only [List.mem_singleton] at ht
        subst ht
        exact step_fine hs
theorem scan_fine {l : List UInt8} {toks : List Tok} (h : scan l = .ok toks) : ∀ t ∈ toks, Fine t := by
  unfold scan at h
  split at h
  · simp at h
  · exact scanL_fine _ _ _ _ _ h (fun t ht => by simp at ht)
def raw (t : Tok) : ByteArray := ⟨t.text.toArray⟩
theorem raw_list (t : Tok) : (raw t).data.toList = t.text := rfl
theorem raw_size (t : Tok) : (raw t).size = t.text.length := by rw [← lexs.len_L, raw_list]
def ownName (t : Tok) : Bool := !(reserved.any fun y => eqS y (raw t)) && t.kind == 1
theorem bytes_ext {x y : ByteArray} (h : x.data.toList = y.data.toList) : x = y := WideShapes.bytes_inj h
theorem eqS_iff {x y : ByteArray} : eqS x y = true ↔ x = y := by
  unfold eqS
  rw [beq_iff_eq, ByteArray.toList_eq, ByteArray.toList_eq]
  exact ⟨bytes_ext, fun h => by rw [h]⟩
/-- what the program asks of a text's tokens -/
def tellsL (x : ByteArray) : List Tok → Bool
  | [t] => ownName t && eqS (raw t) x
  | _ => false
def tells (x : ByteArray) : Bool := tellsL x (scan x.data.toList).toks
theorem isName_fine {t : Tok} (hg : Fine t) (h : ownName t = true) : isName (raw t) = true := by
  unfold ownName at h
  simp only [Bool.and_eq_true, beq_iff_eq] at h
  obtain ⟨h1, h2, h3⟩ := hg.word h.2
  have hsz : 1 ≤ (raw t).size := by
    rw [raw_size]
    have := hg.ne
    cases hl : t.text with
    | nil => exact absurd hl this
    | cons b r => simp
  unfold isName
  rw [raw_list]
  have hl : ltrI ((t.text.headD 0).toNat : Int) = true := h2
  have ha : t.text.all (fun c => insI (c.toNat : Int)) = true := h3
  rw [hl, ha, decide_eq_true ⟨hsz, by rw [raw_size]; exact h1⟩, h.1]
  rfl
theorem run_all {l : List UInt8} (h : l.all insB = true) : run insB l = l.length := by
  apply run_eq
  · intro j hj _
    exact List.all_eq_true.1 h _ (List.getElem_mem hj)
  · exact .inl rfl
theorem scan_name {x : ByteArray} (h : isName x = true) : scan x.data.toList = .ok [⟨1, x.data.toList, 0⟩] := by
  unfold isName at h
  simp only [Bool.and_eq_true, decide_eq_true_eq] at h
  obtain ⟨⟨⟨⟨h1, h16⟩, hl⟩, ha⟩, _⟩ := h
  have hlen : x.data.toList.length = x.size := lexs.len_L x
  unfold scan
  rw [if_neg (by omega)]
  cases hx : x.data.toList with
  | nil => rw [hx] at hlen; simp at hlen; omega
  | cons b r =>
    rw [hx] at hl ha hlen
    have hlb : ltrB b = true := hl
    have hrun : run insB (b :: r) = (b :: r).length := run_all ha
    have hb32 : (b == 32 || b == 10) = false := by
      cases hb : (b == 32 || b == 10) with
      | false => rfl
      | true =>
        simp only [Bool.or_eq_true, beq_iff_eq] at hb
        rcases hb with rfl | rfl <;> simp [ltrB, ltrI] at hlb
    have hb35 : (b == 35) = false := by
      cases hb : (b == 35) with
      | false => rfl
      | true =>
        simp only [beq_iff_eq] at hb
        subst hb
        simp [ltrB, ltrI] at hlb
    have hs : stepL (b :: r) = .tok 1 (b :: r).length := by
      rw [stepL, List.headD_cons, stepB, hb32, hb35, hlb, hrun]
      simp only [Bool.false_eq_true, if_false, if_true]
      rw [if_neg (by omega)]
    rw [List.length_cons] at hs ⊢
    rw [scanL_tok hs]
    rw [List.drop_eq_nil_of_le (by simp), scanL_end, List.take_of_length_le (by simp)]
    rfl
theorem tells_eq (x : ByteArray) : tells x = isName x := by
  unfold tells
  cases hn : isName x with
  | true =>
    rw [scan_name hn]
    show (ownName _ && eqS _ x) = true
    have e : raw ⟨1, x.data.toList, 0⟩ = x := bytes_ext rfl
    rw [e]
    unfold ownName
    rw [e]
    unfold isName at hn
    simp only [Bool.and_eq_true] at hn
    rw [hn.2, eqS_iff.2 rfl]
    rfl
  | false =>
    cases hs : scan x.data.toList with
    | err c p => rfl
    | ok l =>
      show tellsL x l = false
      match l, hs with
      | [], _ => rfl
      | [t], hs =>
        show (ownName t && eqS (raw t) x) = false
        cases ho : ownName t with
        | false => rfl
        | true =>
          cases he : eqS (raw t) x with
          | false => rfl
          | true =>
            have h1 := isName_fine (scan_fine hs t (by simp)) ho
            rw [eqS_iff.1 he, hn] at h1
            cases h1
      | _ :: _ :: _, _ => rfl
end Go.Proofs.YthfeojjfehbgjaaGreatDoor.face
