/- The reference's Print is the program's: expressions. No Go in sight. -/
import Derived.Test.YtkoomoemkffjkaaGreatDoorNP00
set_option linter.unusedVariables false
set_option linter.unusedSimpArgs false
namespace Go.Proofs.YtkoomoemkffjkaaGreatDoor
namespace pr
open Go.Proofs.YtkoomoemkffjkaaGreatDoor.syn Go.Proofs.YtkoomoemkffjkaaGreatDoor.face Go.Proofs.YtkoomoemkffjkaaGreatDoor.chk
open Go.Proofs.YtkoomoemkffjkaaGreatDoor.lexs
/-- a word that is read as itself, whatever follows behind a blank, or nothing -/
def WordOk (y : ByteArray) : Prop := ∃ k : Int, y.data.toList ≠ [] ∧ (∀ R, stepL (y.data.toList ++ 32 :: R) = .tok k y.data.toList.length) ∧ stepL y.data.toList = .tok k y.data.toList.length ∧ (k == 2) = digW y
theorem run_all (x : List UInt8) (h : ∀ c ∈ x, insB c = true) : run insB x = x.length := run_eq insB x x.length (fun j hj _ => h _ (List.getElem_mem hj)) (.inl rfl)
theorem word_letters (y : ByteArray) (b : UInt8) (r : List UInt8) (e : y.data.toList = b :: r) (hb : ltrB b = true) (hall : ∀ c ∈ b :: r, insB c = true) (hl : (b :: r).length ≤ 16) : WordOk y := by
  have hn : (b == 32 || b == 10) = false ∧ (b == 35) = false ∧ digB b = false := by
    unfold ltrB ltrI at hb
    simp only [Bool.or_eq_true, decide_eq_true_eq] at hb
    refine ⟨?_, ?_, ?_⟩
    · simp only [Bool.or_eq_false_iff, beq_eq_false_iff_ne, ne_eq]
      constructor <;> (intro e; subst e; simp at hb)
    · simp only [beq_eq_false_iff_ne, ne_eq]
      intro e; subst e; simp at hb
    · unfold digB digI
      simp only [decide_eq_false_iff_not]
      omega
  refine ⟨1, by rw [e]; simp, fun R => ?_, ?_, ?_⟩
  · rw [e]
    have hr := run_blank (b :: r) hall R
    unfold stepL
    rw [List.cons_append, List.headD_cons, stepB, hn.1, if_neg (by simp), hn.2.1, if_neg (by simp), hb, if_pos rfl]
    rw [List.cons_append] at hr
    rw [hr, if_neg (by omega)]
  · rw [e]
    have hr := run_all (b :: r) hall
    unfold stepL
    rw [List.headD_cons, stepB, hn.1, if_neg (by simp), hn.2.1, if_neg (by simp), hb, if_pos rfl, hr, if_neg (by omega)]
  · unfold digW
    rw [e]
    dsimp only
    rw [hn.2.2]
    rfl
theorem name_ok {x : ByteArray} (h : isName x = true) : WordOk x := by
  unfold isName at h
  simp only [Bool.and_eq_true, decide_eq_true_eq, List.all_eq_true] at h
  obtain ⟨⟨⟨⟨h1, h16⟩, hl⟩, hall⟩, _⟩ := h
  cases hd : x.data.toList with
  | nil =>
    have := len_L x
    rw [hd] at this
    simp at this
    omega
  | cons b r =>
    have hlen : (b :: r).length = x.size := by rw [← hd]; exact len_L x
    rw [hd] at hl hall
    exact word_letters x b r hd hl hall (by omega)
theorem dec_head : ∀ (u : Nat), u ≠ 0 → (Lib.decDigits u).headD 0 ≠ 48 := by
  intro u
  induction u using Nat.strongRecOn with
  | _ u ih =>
    intro h0
    rw [Lib.decDigits]
    by_cases h : u < 10
    · rw [dif_pos h, List.headD_cons]
      intro e
      have e2 : (UInt8.ofNat (48 + u)).toNat = 48 + u := by simp; omega
      have e3 : (UInt8.ofNat (48 + u)).toNat = (48 : UInt8).toNat := by rw [e]
      rw [e2] at e3
      simp at e3
      omega
    · rw [dif_neg h, headD_app _ _ (val_dec (u / 10)).2.2]
      exact ih (u / 10) (by omega) (by omega)
theorem dec_len (u : Nat) (h : u < 10) : (Lib.decDigits u).length = 1 := by
  rw [Lib.decDigits, dif_pos h]
  rfl
theorem num_ok {m : Int} (h0 : 0 ≤ m) (h1 : m ≤ 9223372036854775807) : WordOk (numW m) := by
  have e := num_list m h0
  obtain ⟨hv, hd, hne⟩ := val_dec m.toNat
  have hE : numE (Lib.decDigits m.toNat) = 0 := by
    rw [numE_val _ (by rw [List.all_eq_true]; exact hd) hne ?_, hv, if_pos (by omega)]
    by_cases hz : m.toNat < 10
    · rw [dec_len _ hz]; rfl
    · have := dec_head m.toNat (by omega)
      simp only [Bool.and_eq_false_iff, beq_eq_false_iff_ne, ne_eq]
      exact .inr this
  have hins : ∀ c ∈ Lib.decDigits m.toNat, insB c = true := fun c hc => digB_insB (hd c hc)
  obtain ⟨b, r, hbr⟩ := List.exists_cons_of_ne_nil hne
  rw [hbr] at e hE hins hd
  have hb := hd b (by simp)
  have hn : (b == 32 || b == 10) = false ∧ (b == 35) = false ∧ ltrB b = false := by
    have hb2 := dig_bounds hb
    refine ⟨?_, ?_, ?_⟩
    · simp only [Bool.or_eq_false_iff, beq_eq_false_iff_ne, ne_eq]
      constructor <;> (intro e; subst e; simp at hb2)
    · simp only [beq_eq_false_iff_ne, ne_eq]
      intro e; subst e; simp at hb2
    · unfold ltrB ltrI
      simp only [Bool.or_eq_false_iff, decide_eq_false_iff_not]
      omega
  refine ⟨2, by rw [e]; simp, fun R => ?_, ?_, ?_⟩
  · rw [e]
    have hr := run_blank (b :: r) hins R
    unfold stepL
    rw [List.cons_append, List.headD_cons, stepB, hn.1, if_neg (by simp), hn.2.1, if_neg (by simp), hn.2.2, if_neg (by simp), hb, if_pos rfl]
    rw [List.cons_append] at hr
    have ht : List.take (b :: r).length (b :: (r ++ 32 :: R)) = b :: r := by
      rw [← List.cons_append]
      exact List.take_left' rfl
    rw [hr, ht, hE]
    rfl
  · rw [e]
    have hr := run_all (b :: r) hins
    unfold stepL
    rw [List.headD_cons, stepB, hn.1, if_neg (by simp), hn.2.1, if_neg (by simp), hn.2.2, if_neg (by simp), hb, if_pos rfl, hr, List.take_length, hE]
    rfl
  · rw [num_dig m h0]
    rfl
/-- words with a blank between -/
def joinW : List ByteArray → List UInt8
  | [] => []
  | [y] => y.data.toList
  | y :: z :: r => y.data.toList ++ 32 :: joinW (z :: r)
theorem lit_word (y : ByteArray) (h : (match y.data.toList with | [] => false | b :: r => ltrB b && (b :: r).all insB && decide ((b :: r).length ≤ 16)) = true) : WordOk y := by
  cases e : y.data.toList with
  | nil => rw [e] at h; cases h
  | cons b r =>
    rw [e] at h
    simp only [Bool.and_eq_true, decide_eq_true_eq, List.all_eq_true] at h
    exact word_letters y b r e h.1.1 h.1.2 h.2
def signC (c : UInt8) : Bool := !(c == 32 || c == 10) && !(c == 35) && !ltrB c && !digB c && ones.contains c
theorem sign_one (y : ByteArray) (c : UInt8) (e : y.data.toList = [c]) (h : signC c = true) : WordOk y := by
  unfold signC at h
  simp only [Bool.and_eq_true, Bool.not_eq_true'] at h
  obtain ⟨⟨⟨⟨h1, h2⟩, h3⟩, h4⟩, h5⟩ := h
  refine ⟨3, by rw [e]; simp, fun R => ?_, ?_, ?_⟩
  · rw [e]
    unfold stepL
    rw [List.cons_append, List.headD_cons, stepB, h1, if_neg (by simp), h2, if_neg (by simp), h3, if_neg (by simp), h4, if_neg (by simp)]
    have : signLen (c :: ([] ++ 32 :: R)) = 1 := by
      show (if (c == 61 && (32 : UInt8) == 61) = true then 2 else if ones.contains c = true then 1 else 0) = 1
      rw [if_neg (by simp), if_pos h5]
    rw [this]
    rfl
  · rw [e]
    unfold stepL
    rw [List.headD_cons, stepB, h1, if_neg (by simp), h2, if_neg (by simp), h3, if_neg (by simp), h4, if_neg (by simp)]
    have : signLen [c] = 1 := by
      show (if (c == 61 && (0 : UInt8) == 61) = true then 2 else if ones.contains c = true then 1 else 0) = 1
      rw [if_neg (by simp), if_pos h5]
    rw [this]
    rfl
  · unfold digW
    rw [e]
    dsimp only
    rw [h4]
    rfl
theorem sign_two : WordOk ⟨#[61, 61]⟩ := by
  refine ⟨3, by decide +kernel, fun R => ?_, rfl, by decide +kernel⟩
  show stepL (61 :: 61 :: 32 :: R) = .tok 3 2
  rfl
def AllW (ws : List ByteArray) : Prop := ∀ y ∈ ws, WordOk y
theorem AllW.app {a b : List ByteArray} (ha : AllW a) (hb : AllW b) : AllW (a ++ b) := fun y hy => by
  rcases List.mem_append.1 hy with h | h
  · exact ha y h
  · exact hb y h
theorem AllW.one {y : ByteArray} (h : WordOk y) : AllW [y] := fun z hz => by
  obtain rfl : z = y := by simpa using hz
  exact h
theorem AllW.nil : AllW [] := fun y hy => by cases hy
theorem AllW.cons {y : ByteArray} {r : List ByteArray} (h : WordOk y) (hr : AllW r) : AllW (y :: r) := AllW.app (AllW.one h) hr
theorem op_ok (m : Nat) (h1 : 1 ≤ m) (h9 : m ≤ 9) : WordOk (opAt m) := by
  have : m = 1 ∨ m = 2 ∨ m = 3 ∨ m = 4 ∨ m = 5 ∨ m = 6 ∨ m = 7 ∨ m = 8 ∨ m = 9 := by omega
  rcases this with rfl | rfl | rfl | rfl | rfl | rfl | rfl | rfl | rfl
  · exact sign_one _ 43 rfl (by decide +kernel)
  · exact sign_one _ 45 rfl (by decide +kernel)
  · exact sign_one _ 42 rfl (by decide +kernel)
  · exact sign_one _ 47 rfl (by decide +kernel)
  · exact sign_one _ 37 rfl (by decide +kernel)
  · exact sign_one _ 38 rfl (by decide +kernel)
  · exact sign_one _ 124 rfl (by decide +kernel)
  · exact sign_one _ 60 rfl (by decide +kernel)
  · exact sign_two
theorem w_open : WordOk ⟨#[40]⟩ := sign_one _ 40 rfl (by decide +kernel)
theorem w_close : WordOk ⟨#[41]⟩ := sign_one _ 41 rfl (by decide +kernel)
theorem w_bra : WordOk ⟨#[91]⟩ := sign_one _ 91 rfl (by decide +kernel)
theorem w_ket : WordOk ⟨#[93]⟩ := sign_one _ 93 rfl (by decide +kernel)
theorem w_begin : WordOk ⟨#[123]⟩ := sign_one _ 123 rfl (by decide +kernel)
theorem w_end : WordOk ⟨#[125]⟩ := sign_one _ 125 rfl (by decide +kernel)
theorem w_semi : WordOk ⟨#[59]⟩ := sign_one _ 59 rfl (by decide +kernel)
theorem w_comma : WordOk ⟨#[44]⟩ := sign_one _ 44 rfl (by decide +kernel)
theorem w_point : WordOk ⟨#[46]⟩ := sign_one _ 46 rfl (by decide +kernel)
theorem w_eq : WordOk ⟨#[61]⟩ := sign_one _ 61 rfl (by decide +kernel)
theorem w_minus : WordOk ⟨#[45]⟩ := sign_one _ 45 rfl (by decide +kernel)
theorem w_not : WordOk ⟨#[33]⟩ := sign_one _ 33 rfl (by decide +kernel)
theorem w_lab (m : Int) : WordOk (labW m) := by
  unfold labW
  by_cases h : m = 1
  · rw [if_pos h]; exact lit_word _ (by decide +kernel)
  · rw [if_neg h]; exact lit_word _ (by decide +kernel)
theorem words_ok {x : ByteArray} {l : List ByteArray} (hw : wordsF x = some l) : AllW l := by
  unfold wordsF at hw
  cases hc : cutL x.data.toList with
  | mk a ob =>
    rw [hc] at hw
    cases ob with
    | none =>
      dsimp only at hw
      by_cases hx : isName x = true
      · rw [if_pos hx] at hw
        obtain rfl := Option.some.inj hw
        exact AllW.one (name_ok hx)
      · rw [if_neg hx] at hw; cases hw
    | some bs =>
      dsimp only at hw
      by_cases hx : (isName ⟨a.toArray⟩ && isName ⟨bs.toArray⟩) = true
      · rw [if_pos hx] at hw
        obtain rfl := Option.some.inj hw
        rw [Bool.and_eq_true] at hx
        exact AllW.cons (name_ok hx.1) (AllW.cons w_point (AllW.one (name_ok hx.2)))
      · rw [if_neg hx] at hw; cases hw
theorem items_ok {g : Tree → Option (List ByteArray)} (hg : ∀ t a, g t = some a → AllW a) : ∀ (ks : List Tree) (k : Nat) (w : List ByteArray), itemsF g k ks = some w → AllW w
  | [], k, w, h => by obtain rfl := Option.some.inj h; exact AllW.nil
  | t :: r, k, w, h => by
    unfold itemsF at h
    cases h1 : g t with
    | none => rw [h1] at h; cases h
    | some a =>
      rw [h1] at h
      cases h2 : itemsF g (k + 1) r with
      | none => simp only [Option.bind_some, h2] at h; cases h
      | some b =>
        simp only [Option.bind_some, h2, Option.some.injEq] at h
        subst h
        refine AllW.app (AllW.app ?_ (hg t a h1)) (items_ok hg r (k + 1) b h2)
        by_cases hk : k = 0
        · rw [if_pos hk]; exact AllW.nil
        · rw [if_neg hk]; exact AllW.one w_comma
theorem round_ok {g : Tree → Option (List ByteArray)} (hg : ∀ t a, g t = some a → AllW a) {ks : List Tree} {w : List ByteArray} (h : roundF g ks = some w) : AllW w := by
  unfold roundF at h
  cases h1 : itemsF g 0 ks with
  | none => rw [h1] at h; cases h
  | some a =>
    rw [h1] at h
    obtain rfl := Option.some.inj h
    exact AllW.app (AllW.app (AllW.one w_open) (items_ok hg ks 0 a h1)) (AllW.one w_close)
theorem opn_ok : ∀ (f : Nat) (l : Int) (t : Tree) (a : List ByteArray), opnF f l t = some a → AllW a
  | 0, _, _, _, h => by simp [opnF] at h
  | f + 1, l, .node k x m ks, a, h => by
    have ih := opn_ok f
    have hbare : ∀ w, lookB exprKinds (.node k x m ks) = true → bareF (opnF f) (.node k x m ks) = some w → AllW w := fun w hl hw => by
      unfold lookB at hl
      simp only [Bool.and_eq_true, decide_eq_true_eq] at hl
      obtain ⟨⟨⟨⟨⟨_, h1⟩, h2⟩, h3⟩, h4⟩, h5⟩ := hl
      unfold bareF at hw
      dsimp only at hw
      by_cases h15 : k = 15
      · rw [if_pos h15] at hw
        subst h15
        obtain rfl := Option.some.inj hw
        exact AllW.one (num_ok h1 h2)
      rw [if_neg h15] at hw
      by_cases h16 : k = 16
      · rw [if_pos h16] at hw; exact words_ok hw
      rw [if_neg h16] at hw
      by_cases h17 : k = 17
      · rw [if_pos h17] at hw
        cases hn : wordsF x with
        | none => rw [hn] at hw; cases hw
        | some nm =>
          rw [hn] at hw
          cases he : opnF f 0 (ks.getD 0 noT) with
          | none => simp only [Option.bind_some, he] at hw; cases hw
          | some e =>
            simp only [Option.bind_some, he, Option.some.injEq] at hw
            subst hw
            exact AllW.app (AllW.app (AllW.app (words_ok hn) (AllW.one w_bra)) (ih _ _ _ he)) (AllW.one w_ket)
      rw [if_neg h17] at hw
      by_cases h18 : k = 18
      · rw [if_pos h18] at hw
        cases hn : wordsF x with
        | none => rw [hn] at hw; cases hw
        | some nm =>
          rw [hn] at hw
          cases he : itemsF (opnF f 0) 0 ks with
          | none => simp only [Option.bind_some, he] at hw; cases hw
          | some e =>
            simp only [Option.bind_some, he, Option.some.injEq] at hw
            subst hw
            exact AllW.app (AllW.app (AllW.app (words_ok hn) (AllW.one w_open)) (items_ok (fun t a h => ih 0 t a h) ks 0 e he)) (AllW.one w_close)
      rw [if_neg h18] at hw
      by_cases h19 : k = 19
      · rw [if_pos h19] at hw
        subst h19
        have h1' : (1 : Int) ≤ m := h1
        have h2' : m ≤ 9 := h2
        cases he : opnF f (max (opIs m.toNat) 1) (ks.getD 0 noT) with
        | none => rw [he] at hw; cases hw
        | some e =>
          rw [he] at hw
          cases he2 : opnF f (opIs m.toNat + 1) (ks.getD 1 noT) with
          | none => simp only [Option.bind_some, he2] at hw; cases hw
          | some e2 =>
            simp only [Option.bind_some, he2, Option.some.injEq] at hw
            subst hw
            exact AllW.app (AllW.app (ih _ _ _ he) (AllW.one (op_ok m.toNat (by omega) (by omega)))) (ih _ _ _ he2)
      rw [if_neg h19] at hw
      by_cases h20 : k = 20
      · rw [if_pos h20] at hw
        cases he : opnF f 3 (ks.getD 0 noT) with
        | none => rw [he] at hw; cases hw
        | some e =>
          rw [he] at hw
          obtain rfl := Option.some.inj hw
          exact AllW.app (AllW.one w_minus) (ih _ _ _ he)
      rw [if_neg h20] at hw
      cases he : opnF f 3 (ks.getD 0 noT) with
      | none => rw [he] at hw; cases hw
      | some e =>
        rw [he] at hw
        obtain rfl := Option.some.inj hw
        exact AllW.app (AllW.one w_not) (ih _ _ _ he)
    unfold opnF at h
    by_cases hl : lookB exprKinds (.node k x m ks) = true
    · rw [if_pos hl] at h
      by_cases hb : l ≤ bindsF k m
      · rw [if_pos hb] at h; exact hbare _ hl h
      · rw [if_neg hb] at h
        cases hw : bareF (opnF f) (.node k x m ks) with
        | none => rw [hw] at h; cases h
        | some w =>
          rw [hw] at h
          obtain rfl := Option.some.inj h
          exact AllW.app (AllW.app (AllW.one w_open) (hbare _ hl hw)) (AllW.one w_close)
    · rw [if_neg hl] at h; cases h
/-! statements, declarations, modules -/
theorem seq_ok {g : Tree → Option (List ByteArray)} (hg : ∀ t a, g t = some a → AllW a) : ∀ (ks : List Tree) (w : List ByteArray), seqF g ks = some w → AllW w
  | [], w, h => by obtain rfl := Option.some.inj h; exact AllW.nil
  | t :: r, w, h => by
    unfold seqF at h
    cases h1 : g t with
    | none => rw [h1] at h; cases h
    | some a =>
      rw [h1] at h
      cases h2 : seqF g r with
      | none => simp only [Option.bind_some, h2] at h; cases h
      | some b =>
        simp only [Option.bind_some, h2, Option.some.injEq] at h
        subst h
        exact AllW.app (hg t a h1) (seq_ok hg r b h2)
theorem place_ok {f : Nat} {t : Tree} {w : List ByteArray} (h : placeW f t = some w) : AllW w := by
  unfold placeW at h
  by_cases hl : lookB [16, 17] t = true
  · rw [if_pos hl] at h; exact opn_ok _ _ _ _ h
  · rw [if_neg hl] at h; cases h
theorem do_ok {f : Nat} {t : Tree} {w : List ByteArray} (h : doW f t = some w) : AllW w := by
  unfold doW at h
  by_cases hl : lookB [18] t = true
  · rw [if_pos hl] at h; exact opn_ok _ _ _ _ h
  · rw [if_neg hl] at h; cases h
theorem par_ok {t : Tree} {w : List ByteArray} (h : parW t = some w) : AllW w := by
  obtain ⟨x, m, rfl, rfl, hx, _⟩ := par_parts h
  exact AllW.cons (w_lab m) (AllW.one (name_ok hx))
structure SOk (f : Nat) : Prop where
  bk : ∀ t w, blockW f t = some w → AllW w
  st : ∀ t w, statW f t = some w → AllW w
theorem s_ok : ∀ f, SOk f
  | 0 => ⟨fun _ _ h => by simp [blockW] at h, fun _ _ h => by simp [statW] at h⟩
  | f + 1 => by
    have ih := s_ok f
    have io := fun t a h => opn_ok f 0 t a h
    refine ⟨fun t w h => ?_, fun t w h => ?_⟩
    · obtain ⟨k, x, m, ks⟩ := t
      unfold blockW at h
      by_cases hl : lookB [6] (.node k x m ks) = true
      · rw [if_pos hl] at h
        cases hb : seqF (statW f) ks with
        | none => rw [hb] at h; cases h
        | some b =>
          rw [hb] at h
          obtain rfl := Option.some.inj h
          exact AllW.app (AllW.app (AllW.one w_begin) (seq_ok ih.st ks b hb)) (AllW.one w_end)
      · rw [if_neg hl] at h; cases h
    · obtain ⟨k, x, m, ks⟩ := t
      unfold statW at h
      by_cases hl : lookB statKinds (.node k x m ks) = true
      · rw [if_pos hl] at h
        by_cases h10 : k = 10
        · rw [if_pos h10] at h
          cases hc : roundF (opnF f 0) (ks.take 1) with
          | none => rw [hc] at h; cases h
          | some c =>
            rw [hc] at h
            cases hb : blockW f (ks.getD 1 noT) with
            | none => simp only [Option.bind_some, hb] at h; cases h
            | some b =>
              simp only [Option.bind_some, hb] at h
              have h1 : AllW ([⟨#[105, 102]⟩] ++ c ++ b) := AllW.app (AllW.app (AllW.one (lit_word _ (by decide +kernel))) (round_ok io hc)) (ih.bk _ _ hb)
              by_cases h2 : 2 < ks.length
              · rw [if_pos h2] at h
                cases hd : blockW f (ks.getD 2 noT) with
                | none => rw [hd] at h; cases h
                | some d =>
                  rw [hd] at h
                  obtain rfl := Option.some.inj h
                  exact AllW.app (AllW.app h1 (AllW.one (lit_word _ (by decide +kernel)))) (ih.bk _ _ hd)
              · rw [if_neg h2] at h
                obtain rfl := Option.some.inj h
                exact h1
        rw [if_neg h10] at h
        by_cases h11 : k = 11
        · rw [if_pos h11] at h
          cases hc : roundF (opnF f 0) (ks.take 1) with
          | none => rw [hc] at h; cases h
          | some c =>
            rw [hc] at h
            cases hb : blockW f (ks.getD 1 noT) with
            | none => simp only [Option.bind_some, hb] at h; cases h
            | some b =>
              simp only [Option.bind_some, hb, Option.some.injEq] at h
              subst h
              exact AllW.app (AllW.app (AllW.one (lit_word _ (by decide +kernel))) (round_ok io hc)) (ih.bk _ _ hb)
        rw [if_neg h11] at h
        by_cases h7 : k = 7
        · rw [if_pos h7] at h
          subst h7
          unfold lookB at hl
          simp only [Bool.and_eq_true, decide_eq_true_eq] at hl
          cases hc : opnF f 0 (ks.getD 0 noT) with
          | none => rw [hc] at h; cases h
          | some c =>
            rw [hc] at h
            obtain rfl := Option.some.inj h
            exact AllW.app (AllW.app (AllW.app (AllW.one (w_lab m)) (AllW.cons (name_ok (text_name hl.2)) (AllW.one w_eq))) (io _ _ hc)) (AllW.one w_semi)
        rw [if_neg h7] at h
        by_cases h8 : k = 8
        · rw [if_pos h8] at h
          cases hp : placeW f (ks.getD 0 noT) with
          | none => rw [hp] at h; cases h
          | some p =>
            rw [hp] at h
            cases hc : opnF f 0 (ks.getD 1 noT) with
            | none => simp only [Option.bind_some, hc] at h; cases h
            | some c =>
              simp only [Option.bind_some, hc, Option.some.injEq] at h
              subst h
              exact AllW.app (AllW.app (AllW.app (place_ok hp) (AllW.one w_eq)) (io _ _ hc)) (AllW.one w_semi)
        rw [if_neg h8] at h
        by_cases h9 : k = 9
        · rw [if_pos h9] at h
          cases hc : doW f (ks.getD 0 noT) with
          | none => rw [hc] at h; cases h
          | some c =>
            rw [hc] at h
            obtain rfl := Option.some.inj h
            exact AllW.app (AllW.app (AllW.one (lit_word _ (by decide +kernel))) (do_ok hc)) (AllW.one w_semi)
        rw [if_neg h9] at h
        by_cases h12 : k = 12
        · rw [if_pos h12] at h
          cases hc : opnF f 0 (ks.getD 0 noT) with
          | none => rw [hc] at h; cases h
          | some c =>
            rw [hc] at h
            obtain rfl := Option.some.inj h
            exact AllW.app (AllW.app (AllW.app (AllW.one (lit_word _ (by decide +kernel))) (AllW.one (w_lab m))) (io _ _ hc)) (AllW.one w_semi)
        rw [if_neg h12] at h
        by_cases h13 : k = 13
        · rw [if_pos h13] at h
          cases hc : placeW f (ks.getD 0 noT) with
          | none => rw [hc] at h; cases h
          | some c =>
            rw [hc] at h
            obtain rfl := Option.some.inj h
            exact AllW.app (AllW.app (AllW.app (AllW.one (lit_word _ (by decide +kernel))) (AllW.one (w_lab m))) (place_ok hc)) (AllW.one w_semi)
        rw [if_neg h13] at h
        cases hc : opnF f 0 (ks.getD 0 noT) with
        | none => rw [hc] at h; cases h
        | some c =>
          rw [hc] at h
          obtain rfl := Option.some.inj h
          exact AllW.app (AllW.app (AllW.one (lit_word _ (by decide +kernel))) (io _ _ hc)) (AllW.one w_semi)
      · rw [if_neg hl] at h; cases h
theorem pub_ok (m : Int) : AllW (if m.toNat / 2 % 2 = 1 then [⟨#[112, 117, 98]⟩] else []) := by
  by_cases h : m.toNat / 2 % 2 = 1
  · rw [if_pos h]; exact AllW.one (lit_word _ (by decide +kernel))
  · rw [if_neg h]; exact AllW.nil
theorem giv_ok (m : Int) : AllW (givW m) := by
  unfold givW
  by_cases h : m.toNat / 4 % 4 = 1
  · rw [if_pos h]; exact AllW.cons (lit_word _ (by decide +kernel)) (AllW.one (lit_word _ (by decide +kernel)))
  · rw [if_neg h]
    by_cases h2 : m.toNat / 4 % 4 = 2
    · rw [if_pos h2]; exact AllW.cons (lit_word _ (by decide +kernel)) (AllW.one (lit_word _ (by decide +kernel)))
    · rw [if_neg h2]; exact AllW.nil
theorem numK_ok {t : Tree} {w : List ByteArray} (h : numK t = some w) : AllW w := by
  obtain ⟨k, x, m, ks⟩ := t
  unfold numK at h
  dsimp only at h
  by_cases hl : lookB [15] (.node k x m ks) = true
  · rw [if_pos hl] at h
    obtain rfl := Option.some.inj h
    unfold lookB at hl
    simp only [Bool.and_eq_true, decide_eq_true_eq] at hl
    obtain ⟨⟨⟨⟨⟨hc, h1⟩, h2⟩, h3⟩, h4⟩, h5⟩ := hl
    obtain rfl : k = 15 := by
      have := List.contains_iff_mem.1 hc
      simpa using this
    exact AllW.one (num_ok h1 h2)
  · rw [if_neg hl] at h; cases h
theorem decl_ok {f : Nat} (t : Tree) (w : List ByteArray) (ho : declW f t = some w) : AllW w := by
  obtain ⟨k, x, m, ks⟩ := t
  unfold declW at ho
  dsimp only at ho
  by_cases hl : lookB [3, 4] (.node k x m ks) = true
  · rw [if_pos hl] at ho
    unfold lookB at hl
    simp only [Bool.and_eq_true, decide_eq_true_eq] at hl
    obtain ⟨⟨⟨⟨⟨hc, h1⟩, h2⟩, h3⟩, h4⟩, h5⟩ := hl
    have hk : k = 3 ∨ k = 4 := by
      have := List.contains_iff_mem.1 hc
      simpa using this
    have hx : isName x = true := by
      rcases hk with rfl | rfl <;> exact text_name h5
    by_cases hk4 : k = 4
    · rw [if_pos hk4] at ho
      cases hp : roundF parW (ks.take (ks.length - 1)) with
      | none => rw [hp] at ho; cases ho
      | some p =>
        rw [hp] at ho
        cases hb : blockW f (ks.getD (ks.length - 1) noT) with
        | none => simp only [Option.bind_some, hb] at ho; cases ho
        | some b =>
          simp only [Option.bind_some, hb, Option.some.injEq] at ho
          subst ho
          exact AllW.app (AllW.app (AllW.app (AllW.app (AllW.app (pub_ok m) (AllW.cons (lit_word _ (by decide +kernel)) (AllW.one (name_ok hx)))) (round_ok (fun t a h => par_ok h) hp)) (AllW.one (w_lab _))) (giv_ok m)) ((s_ok f).bk _ _ hb)
    · rw [if_neg hk4] at ho
      cases ks with
      | nil =>
        dsimp only at ho
        obtain rfl := Option.some.inj ho
        exact AllW.app (AllW.app (AllW.app (pub_ok m) (AllW.one (w_lab _))) (AllW.one (name_ok hx))) (AllW.one w_semi)
      | cons t0 rr =>
        dsimp only at ho
        cases hw : numK t0 with
        | none => rw [hw] at ho; cases ho
        | some n =>
          rw [hw] at ho
          obtain rfl := Option.some.inj ho
          exact AllW.app (AllW.app (AllW.app (AllW.app (AllW.app (AllW.app (pub_ok m) (AllW.one (w_lab _))) (AllW.one (name_ok hx))) (AllW.one w_bra)) (numK_ok hw)) (AllW.one w_ket)) (AllW.one w_semi)
  · rw [if_neg hl] at ho; cases ho
theorem imp_ok (t : Tree) (w : List ByteArray) (h : impW t = some w) : AllW w := by
  obtain ⟨x, rfl, rfl, hx⟩ := imp_parts h
  exact AllW.cons (lit_word _ (by decide +kernel)) (AllW.cons (name_ok hx) (AllW.one w_semi))
theorem module_ok {f : Nat} {t : Tree} {w : List ByteArray} (ho : moduleW f t = some w) : AllW w := by
  obtain ⟨k, x, m, ks⟩ := t
  unfold moduleW at ho
  dsimp only at ho
  by_cases hl : lookB [1] (.node k x m ks) = true
  · rw [if_pos hl] at ho
    cases ha : seqF impW (ks.takeWhile impB) with
    | none => rw [ha] at ho; cases ho
    | some a =>
      rw [ha] at ho
      cases hb : seqF (declW f) (ks.dropWhile impB) with
      | none => simp only [Option.bind_some, hb] at ho; cases ho
      | some b =>
        simp only [Option.bind_some, hb, Option.some.injEq] at ho
        subst ho
        unfold lookB at hl
        simp only [Bool.and_eq_true, decide_eq_true_eq] at hl
        obtain ⟨⟨⟨⟨⟨hc, h1⟩, h2⟩, h3⟩, h4⟩, h5⟩ := hl
        obtain rfl : k = 1 := by
          have := List.contains_iff_mem.1 hc
          simpa using this
        exact AllW.app (AllW.app (AllW.cons (lit_word _ (by decide +kernel)) (AllW.cons (name_ok (text_name h5)) (AllW.one w_semi))) (seq_ok imp_ok _ _ ha)) (seq_ok decl_ok _ _ hb)
  · rw [if_neg hl] at ho; cases ho
end pr
namespace pr
open Go.Proofs.YtkoomoemkffjkaaGreatDoor.lexs (Tok scan)
open Go.Proofs.YtkoomoemkffjkaaGreatDoor.syn Go.Proofs.YtkoomoemkffjkaaGreatDoor.face Go.Proofs.YtkoomoemkffjkaaGreatDoor.chk

/-- the text, and what is wrong -/
def printT (t : Tree) : List UInt8 × Int := if fitsT t then (match moduleW 16 t with
  | none => ([], 2)
  | some w => if 3000 < (joinW w).length then ([], 1) else (joinW w, 0)) else ([], 1)
end pr
namespace pr
open Go.Proofs.YtkoomoemkffjkaaGreatDoor.syn Go.Proofs.YtkoomoemkffjkaaGreatDoor.face Go.Proofs.YtkoomoemkffjkaaGreatDoor.chk
def kindT : Tree → Int
  | .node k _ _ _ => k
def numT : Tree → Int
  | .node _ _ m _ => m
/-- a name's module and the name itself; none: it has more than one point -/
def partsR (x : ByteArray) : Option (ByteArray × ByteArray) := match cutL x.data.toList with
  | (_, none) => some (empty, x)
  | (a, some b) => if b.contains 46 then none else some (⟨a.toArray⟩, ⟨b.toArray⟩)
def textsR (x : ByteArray) (c : Int) : Bool := if c = 0 then x.size == 0 else if c = 1 then isName x else match partsR x with
  | none => false
  | some p => isName p.2 && (decide (p.1.size + p.2.size = x.size) || isName p.1)
def headR (k : Int) (x : ByteArray) (m : Int) (n : Nat) : Bool :=
  decide (1 ≤ k ∧ k ≤ 21) && decide ((shapeF k).2.1 ≤ m) && decide (m ≤ (shapeF k).2.2.1) && decide ((shapeF k).2.2.2.1 ≤ n) && (decide ((shapeF k).2.2.2.2 = 500) || decide ((n : Int) ≤ (shapeF k).2.2.2.2)) && textsR x (shapeF k).1
def exprB (k : Int) : Bool := decide (15 ≤ k) && decide (k ≤ 21)
def statB (k : Int) : Bool := decide (7 ≤ k) && decide (k ≤ 14)
/-- may a node of a kind be the kid i of another one, behind one of the kind p? -/
def fitB (k : Int) (n i : Nat) (p kd : Int) : Bool :=
  if k = 1 then (if kd = 2 then i == 0 || p == 2 else kd == 3 || kd == 4)
  else if k = 3 then kd == 15
  else if k = 4 then (if i + 1 = n then kd == 6 else kd == 5)
  else if k = 6 then statB kd
  else if (k = 10 ∨ k = 11) ∧ 0 < i then kd == 6
  else if (k = 8 ∧ i = 0) ∨ k = 13 then kd == 16 || kd == 17
  else if k = 9 then kd == 18
  else exprB kd
mutual
def isT : Tree → Bool
  | .node k x m ks => headR k x m ks.length && isL k ks.length 0 0 ks
def isL : Int → Nat → Nat → Int → List Tree → Bool
  | _, _, _, _, [] => true
  | k, n, i, p, t :: r => fitB k n i p (kindT t) && isT t && isL k n (i + 1) (kindT t) r
end
def labR (m : Int) : List UInt8 := if m % 2 = 1 then [104, 105, 103, 104, 32] else [108, 111, 119, 32]
def spacedR (x : ByteArray) : List UInt8 := match cutL x.data.toList with
  | (a, none) => x.data.toList
  | (a, some b) => a ++ [32, 46, 32] ++ b
def levelR (m : Int) : Int := opIs m.toNat
def listR (sep : List UInt8) : List (List UInt8) → List UInt8
  | [] => []
  | s :: r => s ++ r.flatMap (sep ++ ·)
def roundR (l : List (List UInt8)) : List UInt8 := if l.length = 0 then [40, 32, 41] else [40, 32] ++ listR [32, 44, 32] l ++ [32, 41]
def atR (t : Tree) (s : List UInt8) (least : Int) : List UInt8 := if kindT t = 19 ∧ levelR (numT t) < least then [40, 32] ++ s ++ [32, 41] else s
/-- the node's text, given its kids' -/
def barR (k : Int) (x : ByteArray) (m : Int) (ks : List Tree) (ss : List (List UInt8)) : List UInt8 :=
  let pub : List UInt8 := if 2 ≤ m % 4 then [112, 117, 98, 32] else []
  let g := fun i => ss.getD i []
  if k = 1 then [109, 111, 100, 117, 108, 101, 32] ++ x.data.toList ++ [32, 59] ++ ss.flatMap (32 :: ·)
  else if k = 2 then [105, 109, 112, 111, 114, 116, 32] ++ x.data.toList ++ [32, 59]
  else if k = 3 then pub ++ labR m ++ x.data.toList ++ (if ss.length = 1 then [32, 91, 32] ++ g 0 ++ [32, 93] else []) ++ [32, 59]
  else if k = 4 then pub ++ [112, 114, 111, 99, 32] ++ x.data.toList ++ [32] ++ roundR (ss.take (ss.length - 1)) ++ [32] ++ labR m ++ (if 4 ≤ m then [103, 105, 118, 101, 115, 32] ++ labR (m.tdiv 8) else []) ++ g (ss.length - 1)
  else if k = 5 then labR m ++ x.data.toList
  else if k = 6 then (if ss.length = 0 then [123, 32, 125] else [123, 32] ++ listR [32] ss ++ [32, 125])
  else if k = 7 then labR m ++ x.data.toList ++ [32, 61, 32] ++ g 0 ++ [32, 59]
  else if k = 8 then g 0 ++ [32, 61, 32] ++ g 1 ++ [32, 59]
  else if k = 9 then [100, 111, 32] ++ g 0 ++ [32, 59]
  else if k = 10 then [105, 102, 32, 40, 32] ++ g 0 ++ [32, 41, 32] ++ g 1 ++ (if ss.length = 3 then [32, 101, 108, 115, 101, 32] ++ g 2 else [])
  else if k = 11 then [119, 104, 105, 108, 101, 32, 40, 32] ++ g 0 ++ [32, 41, 32] ++ g 1
  else if k = 12 then [111, 117, 116, 32] ++ labR m ++ g 0 ++ [32, 59]
  else if k = 13 then [105, 110, 32] ++ labR m ++ g 0 ++ [32, 59]
  else if k = 14 then [114, 101, 116, 117, 114, 110, 32] ++ g 0 ++ [32, 59]
  else if k = 15 then (numW m).data.toList
  else if k = 16 then spacedR x
  else if k = 17 then spacedR x ++ [32, 91, 32] ++ g 0 ++ [32, 93]
  else if k = 18 then spacedR x ++ [32] ++ roundR ss
  else if k = 20 then [45, 32] ++ atR (ks.getD 0 noT) (g 0) 3
  else if k = 21 then [33, 32] ++ atR (ks.getD 0 noT) (g 0) 3
  else atR (ks.getD 0 noT) (g 0) (max (levelR m) 1) ++ [32] ++ (opAt m.toNat).data.toList ++ [32] ++ atR (ks.getD 1 noT) (g 1) (levelR m + 1)
mutual
def showT : Tree → List UInt8
  | .node k x m ks => barR k x m ks (showL ks)
def showL : List Tree → List (List UInt8)
  | [] => []
  | t :: r => showT t :: showL r
end
/-- what the reference's Print answers -/
def printR (t : Tree) : List UInt8 × Int := if fitsT t then (if kindT t = 1 ∧ isT t = true then (if 3000 < (showT t).length then ([], 1) else (showT t, 0)) else ([], 2)) else ([], 1)
theorem showL_len : ∀ ks : List Tree, (showL ks).length = ks.length
  | [] => by unfold showL; rfl
  | t :: r => by unfold showL; simp [showL_len r]
/-- words with a blank ahead of each -/
def blW (ws : List ByteArray) : List UInt8 := ws.flatMap fun y => 32 :: y.data.toList
theorem blW_app (a b : List ByteArray) : blW (a ++ b) = blW a ++ blW b := by unfold blW; rw [List.flatMap_append]
theorem blW_cons (a : ByteArray) (b : List ByteArray) : blW (a :: b) = 32 :: (a.data.toList ++ blW b) := by unfold blW; rw [List.flatMap_cons]; rfl
theorem blW_nil : blW [] = [] := rfl
theorem blW_join : ∀ (ws : List ByteArray), ws ≠ [] → blW ws = 32 :: joinW ws
  | [], h => (h rfl).elim
  | [y], _ => by rw [blW_cons, blW_nil, List.append_nil]; rfl
  | y :: z :: r, _ => by
    rw [blW_cons, blW_join (z :: r) (by simp)]
    rfl
/-- what is known of words: they are there just where the node may be, and say its text -/
def OkW (o : Option (List ByteArray)) (b : Bool) (s : List UInt8) : Prop := match o with
  | none => b = false
  | some w => b = true ∧ blW w = 32 :: s
/-- words of several -/
def OkB (o : Option (List ByteArray)) (b : Bool) (s : List UInt8) : Prop := match o with
  | none => b = false
  | some w => b = true ∧ blW w = s
theorem OkW.none {o : Option (List ByteArray)} {b : Bool} {s : List UInt8} (h : OkW o b s) (e : o = none) : b = false := by subst e; exact h
theorem OkW.some {o : Option (List ByteArray)} {b : Bool} {s : List UInt8} {w : List ByteArray} (h : OkW o b s) (e : o = some w) : b = true ∧ blW w = 32 :: s := by subst e; exact h
theorem nopoint_contains {b : List UInt8} : (b.contains 46 = false) ↔ ∀ c ∈ b, c ≠ 46 := by
  rw [← Bool.not_eq_true, List.contains_iff_mem]
  exact ⟨fun h c hc e => h (e ▸ hc), fun h hc => h _ hc rfl⟩
theorem isName_nopoint {x : ByteArray} (h : isName x = true) : ∀ c ∈ x.data.toList, c ≠ 46 := by
  intro c hc e
  unfold isName at h
  simp only [Bool.and_eq_true] at h
  have h2 := List.all_eq_true.1 h.1.2 c hc
  rw [e] at h2
  exact absurd h2 (by decide)
theorem cutL_len : ∀ (l : List UInt8), (match cutL l with
    | (a, none) => a = l
    | (a, some b) => l = a ++ 46 :: b)
  | [] => rfl
  | c :: r => by
    have ih := cutL_len r
    unfold cutL
    by_cases h : c = 46
    · rw [if_pos h, h]; rfl
    · rw [if_neg h]
      rcases e : cutL r with ⟨a, _ | b⟩
      · rw [e] at ih; simp only at ih ⊢; rw [ih]
      · rw [e] at ih; simp only at ih ⊢; rw [ih]; rfl
theorem size_arr (a : List UInt8) : (⟨a.toArray⟩ : ByteArray).size = a.length := by show a.toArray.size = _; simp
theorem size_data (x : ByteArray) : x.size = x.data.toList.length := by show x.data.size = _; simp
theorem name_cut {x : ByteArray} (h : isName x = true) : cutL x.data.toList = (x.data.toList, none) := cut_none _ (isName_nopoint h)
/-- a name's text: alike -/
theorem text_is (x : ByteArray) (c : Int) (hc : c = 0 ∨ c = 1 ∨ c = 2) : textB x c = textsR x c := by
  unfold textB textsR
  by_cases h0 : c = 0
  · rw [if_pos h0, if_pos h0]
  rw [if_neg h0, if_neg h0]
  have hlen := cutL_len x.data.toList
  unfold wordsF partsR
  rcases hcut : cutL x.data.toList with ⟨a, _ | b⟩
  · rw [hcut] at hlen
    simp only at hlen ⊢
    by_cases hn : isName x = true
    · rw [if_pos hn, hn]
      have hd : decide (empty.size + x.size = x.size) = true := by
        have : empty.size = 0 := rfl
        rw [this]; simp
      rcases hc with rfl | rfl | rfl
      · exact absurd rfl h0
      · simp
      · show decide _ = _; rw [if_neg (by decide), hd]; rfl
    · rw [if_neg hn]
      have : isName x = false := by simpa using hn
      rw [this]
      simp
  · rw [hcut] at hlen
    simp only at hlen ⊢
    have hx : isName x = false := by
      cases h : isName x with
      | false => rfl
      | true => have := name_cut h; rw [hcut] at this; cases this
    have hs : ¬ (⟨a.toArray⟩ : ByteArray).size + (⟨b.toArray⟩ : ByteArray).size = x.size := by
      rw [size_arr, size_arr, size_data, hlen]
      simp <;> omega
    by_cases hb : b.contains 46 = true
    · have hbn : isName (⟨b.toArray⟩ : ByteArray) = false := by
        cases h : isName (⟨b.toArray⟩ : ByteArray) with
        | false => rfl
        | true =>
          have := isName_nopoint h
          have h2 := nopoint_contains.2 (by simpa using this)
          rw [hb] at h2
          cases h2
      rw [hbn, hx, if_pos hb]
      simp
    · rw [if_neg hb, hx]
      simp only [decide_eq_false hs, Bool.false_or]
      cases h1 : isName (⟨a.toArray⟩ : ByteArray) <;> cases h2 : isName (⟨b.toArray⟩ : ByteArray) <;> rcases hc with rfl | rfl | rfl <;> simp at h0 ⊢
theorem shape_class (k : Int) : (shapeF k).1 = 0 ∨ (shapeF k).1 = 1 ∨ (shapeF k).1 = 2 := by
  by_cases h1 : k = 1
  · subst h1; decide
  by_cases h2 : k = 2
  · subst h2; decide
  by_cases h3 : k = 3
  · subst h3; decide
  by_cases h4 : k = 4
  · subst h4; decide
  by_cases h5 : k = 5
  · subst h5; decide
  by_cases h6 : k = 6
  · subst h6; decide
  by_cases h7 : k = 7
  · subst h7; decide
  by_cases h8 : k = 8
  · subst h8; decide
  by_cases h9 : k = 9
  · subst h9; decide
  by_cases h10 : k = 10
  · subst h10; decide
  by_cases h11 : k = 11
  · subst h11; decide
  by_cases h12 : k = 12
  · subst h12; decide
  by_cases h13 : k = 13
  · subst h13; decide
  by_cases h14 : k = 14
  · subst h14; decide
  by_cases h15 : k = 15
  · subst h15; decide
  by_cases h16 : k = 16
  · subst h16; decide
  by_cases h17 : k = 17
  · subst h17; decide
  by_cases h18 : k = 18
  · subst h18; decide
  by_cases h19 : k = 19
  · subst h19; decide
  by_cases h20 : k = 20
  · subst h20; decide
  have e : shapeF k = (0, 0, 0, 1, 1) := by
    unfold shapeF
    rw [if_neg h1, if_neg h2, if_neg h3, if_neg h4, if_neg h5, if_neg h6, if_neg h7, if_neg h8, if_neg h9, if_neg h10, if_neg h11, if_neg h12, if_neg h13, if_neg h14, if_neg h15, if_neg h16, if_neg h17, if_neg h18, if_neg h19, if_neg h20]
  rw [e]; decide
/-- what a node's words hang on, alike -/
theorem look_is {kinds : List Int} {k m : Int} {x : ByteArray} {ks : List Tree} (hl : (ks.length : Int) ≤ 500) (hk : kinds.contains k = true → 1 ≤ k ∧ k ≤ 21) : lookB kinds (.node k x m ks) = (kinds.contains k && headR k x m ks.length) := by
  unfold lookB headR
  dsimp only
  cases hc : kinds.contains k with
  | false => simp
  | true =>
    have h1 := hk hc
    rw [← text_is x _ (shape_class k), decide_eq_true h1]
    have e : decide ((ks.length : Int) ≤ (shapeF k).2.2.2.2) = (decide ((shapeF k).2.2.2.2 = 500) || decide ((ks.length : Int) ≤ (shapeF k).2.2.2.2)) := by
      by_cases h5 : (shapeF k).2.2.2.2 = 500
      · rw [h5]; simp; omega
      · rw [decide_eq_false h5]; rfl
    rw [← e]
    simp [Bool.and_assoc]
/-- every kid alike, wherever it stands -/
theorem isL_all {k : Int} {n : Nat} {c : Int → Bool} (hc : ∀ i p kd, fitB k n i p kd = c kd) : ∀ (ks : List Tree) (i : Nat) (p : Int), isL k n i p ks = ks.all fun t => c (kindT t) && isT t
  | [], i, p => by unfold isL; rfl
  | t :: r, i, p => by unfold isL; rw [List.all_cons, hc, isL_all hc r]
theorem pseq_ok {g : Tree → Option (List ByteArray)} {c : Int → Bool} : ∀ (ks : List Tree), (∀ t ∈ ks, OkW (g t) (c (kindT t) && isT t) (showT t)) → OkB (seqF g ks) (ks.all fun t => c (kindT t) && isT t) ((showL ks).flatMap (32 :: ·))
  | [], h => by unfold seqF showL; exact ⟨rfl, rfl⟩
  | t :: r, h => by
    have h1 := h t (by simp)
    have h2 := pseq_ok r (fun u hu => h u (List.mem_cons_of_mem _ hu))
    unfold seqF showL
    rw [List.all_cons, List.flatMap_cons]
    cases hg : g t with
    | none => rw [hg] at h1; show _ = false; rw [h1]; rfl
    | some a =>
      rw [hg] at h1
      rw [Option.bind_some]
      cases hr : seqF g r with
      | none => rw [hr] at h2; show _ = false; rw [h2, Bool.and_false]
      | some b =>
        rw [hr] at h2
        exact ⟨by rw [h1.1, h2.1]; rfl, by rw [blW_app, h1.2, h2.2]; try rfl⟩
def itemsR : Nat → List (List UInt8) → List UInt8
  | _, [] => []
  | i, s :: r => (if i = 0 then 32 :: s else [32, 44, 32] ++ s) ++ itemsR (i + 1) r
theorem itemsR_tail : ∀ (l : List (List UInt8)) (i : Nat), itemsR (i + 1) l = l.flatMap ([32, 44, 32] ++ ·)
  | [], _ => rfl
  | s :: r, i => by
    unfold itemsR
    rw [if_neg (by omega), itemsR_tail r, List.flatMap_cons]
theorem itemsR_list (l : List (List UInt8)) (h : l ≠ []) : itemsR 0 l = 32 :: listR [32, 44, 32] l := by
  cases l with
  | nil => exact (h rfl).elim
  | cons s r =>
    unfold itemsR listR
    rw [if_pos rfl, itemsR_tail]
    rfl
theorem pitems_ok {g : Tree → Option (List ByteArray)} {c : Int → Bool} : ∀ (ks : List Tree) (i : Nat), (∀ t ∈ ks, OkW (g t) (c (kindT t) && isT t) (showT t)) → OkB (itemsF g i ks) (ks.all fun t => c (kindT t) && isT t) (itemsR i (showL ks))
  | [], i, h => by unfold itemsF showL itemsR; exact ⟨rfl, rfl⟩
  | t :: r, i, h => by
    have h1 := h t (by simp)
    have h2 := pitems_ok r (i + 1) (fun u hu => h u (List.mem_cons_of_mem _ hu))
    unfold itemsF showL itemsR
    rw [List.all_cons]
    cases hg : g t with
    | none => rw [hg] at h1; show _ = false; rw [h1]; rfl
    | some a =>
      rw [hg] at h1
      rw [Option.bind_some]
      cases hr : itemsF g (i + 1) r with
      | none => rw [hr] at h2; show _ = false; rw [h2, Bool.and_false]
      | some b =>
        rw [hr] at h2
        refine ⟨by rw [h1.1, h2.1]; rfl, ?_⟩
        rw [blW_app, blW_app, h1.2, h2.2]
        by_cases hi : i = 0
        · rw [if_pos hi, if_pos hi]; rfl
        · rw [if_neg hi, if_neg hi]; rfl
theorem pround_ok {g : Tree → Option (List ByteArray)} {c : Int → Bool} (ks : List Tree) (h : ∀ t ∈ ks, OkW (g t) (c (kindT t) && isT t) (showT t)) : OkW (roundF g ks) (ks.all fun t => c (kindT t) && isT t) (roundR (showL ks)) := by
  have h1 := pitems_ok ks 0 h
  unfold roundF
  cases hr : itemsF g 0 ks with
  | none => rw [hr] at h1; exact h1
  | some b =>
    rw [hr] at h1
    refine ⟨h1.1, ?_⟩
    show blW ([⟨#[40]⟩] ++ b ++ [⟨#[41]⟩]) = _
    rw [blW_app, blW_app, h1.2]
    unfold roundR
    rw [showL_len]
    cases ks with
    | nil => unfold showL itemsR; rfl
    | cons t r =>
      rw [itemsR_list _ (by unfold showL; simp), if_neg (by simp)]
      rfl
theorem expr_kinds (k : Int) : exprKinds.contains k = exprB k := Bool.eq_iff_iff.2 (by simp [exprKinds, exprB]; omega)
theorem opIs_le (n : Nat) : opIs n ≤ 2 ∧ 0 ≤ opIs n := by
  unfold opIs
  by_cases h : n < 10
  · have : ∀ n : Fin 10, opB.getD n.1 0 ≤ 2 ∧ 0 ≤ opB.getD n.1 0 := by decide
    exact this ⟨n, h⟩
  · have : opB.getD n 0 = 0 := by rw [List.getD_eq_getElem?_getD, List.getElem?_eq_none (by show 10 ≤ n; omega)]; rfl
    rw [this]; decide
theorem at_zero (t : Tree) (s : List UInt8) : atR t s 0 = s := by
  unfold atR
  rw [if_neg]
  rintro ⟨_, h⟩
  have := (opIs_le (numT t).toNat).2
  unfold levelR at h
  omega
theorem zname_words {x : ByteArray} (h : textsR x 2 = true) : ∃ nm, wordsF x = some nm ∧ blW nm = 32 :: spacedR x := by
  rw [← text_is x 2 (by simp)] at h
  unfold textB at h
  rw [if_neg (by decide)] at h
  cases hw : wordsF x with
  | none => rw [hw] at h; cases h
  | some nm =>
    refine ⟨nm, rfl, ?_⟩
    unfold wordsF at hw
    unfold spacedR
    rcases hcut : cutL x.data.toList with ⟨a, _ | b⟩
    · rw [hcut] at hw
      dsimp only at hw ⊢
      split at hw
      · cases hw
        rw [blW_cons, blW_nil, List.append_nil]
      · cases hw
    · rw [hcut] at hw
      dsimp only at hw ⊢
      split at hw
      · cases hw
        simp [blW_cons, blW_nil]
      · cases hw
theorem head_facts {k m : Int} {x : ByteArray} {n : Nat} (h : headR k x m n = true) : (shapeF k).2.1 ≤ m ∧ m ≤ (shapeF k).2.2.1 ∧ (shapeF k).2.2.2.1 ≤ n ∧ ((shapeF k).2.2.2.2 = 500 ∨ (n : Int) ≤ (shapeF k).2.2.2.2) ∧ textsR x (shapeF k).1 = true := by
  unfold headR at h
  simp only [Bool.and_eq_true, Bool.or_eq_true, decide_eq_true_eq] at h
  exact ⟨h.1.1.1.1.2, h.1.1.1.2, h.1.1.2, h.1.2, h.2⟩
theorem len0 {α : Type} {l : List α} (h : (l.length : Int) ≤ 0) : l = [] := by cases l with | nil => rfl | cons a r => simp at h; omega
theorem len1 {α : Type} {l : List α} (h : (1 : Int) ≤ l.length) (h2 : (l.length : Int) ≤ 1) : ∃ a, l = [a] := by
  match l, h, h2 with
  | [a], _, _ => exact ⟨a, rfl⟩
theorem len2 {α : Type} {l : List α} (h : (2 : Int) ≤ l.length) (h2 : (l.length : Int) ≤ 2) : ∃ a b, l = [a, b] := by
  match l, h, h2 with
  | [a, b], _, _ => exact ⟨a, b, rfl⟩
theorem fit_expr {k : Int} (hk : 17 ≤ k) (n i : Nat) (p kd : Int) : fitB k n i p kd = exprB kd := by
  unfold fitB
  rw [if_neg (by omega), if_neg (by omega), if_neg (by omega), if_neg (by omega), if_neg (by omega), if_neg (by omega), if_neg (by omega)]
theorem bare_ok {f : Nat} {k m : Int} {x : ByteArray} {ks : List Tree} (hk : exprB k = true) (hh : headR k x m ks.length = true) (ih : ∀ t ∈ ks, ∀ l : Int, l ≤ 3 → OkW (opnF f l t) (exprB (kindT t) && isT t) (atR t (showT t) l)) :
    OkW (bareF (opnF f) (.node k x m ks)) (isL k ks.length 0 0 ks) (barR k x m ks (showL ks)) := by
  obtain ⟨h1, h2, h3, h4, h5⟩ := head_facts hh
  have hk' : k = 15 ∨ k = 16 ∨ k = 17 ∨ k = 18 ∨ k = 19 ∨ k = 20 ∨ k = 21 := by unfold exprB at hk; simp at hk; omega
  rcases hk' with rfl | rfl | rfl | rfl | rfl | rfl | rfl
  · obtain rfl := len0 (h4.resolve_left (by decide))
    exact ⟨by unfold isL; rfl, by rw [blW_cons, blW_nil, List.append_nil]; rfl⟩
  · obtain rfl := len0 (h4.resolve_left (by decide))
    obtain ⟨nm, e1, e2⟩ := zname_words h5
    show OkW (wordsF x) _ _
    rw [e1]
    exact ⟨by unfold isL; rfl, e2⟩
  · obtain ⟨t, rfl⟩ := len1 h3 (h4.resolve_left (by decide))
    obtain ⟨nm, e1, e2⟩ := zname_words h5
    have hi := ih t (by simp) 0 (by decide)
    rw [at_zero] at hi
    rw [isL_all (k := 17) (c := exprB) (fit_expr (by decide) _)]
    show OkW ((wordsF x).bind fun nm => (opnF f 0 t).bind fun e => some (nm ++ [⟨#[91]⟩] ++ e ++ [⟨#[93]⟩])) _ _
    rw [e1, Option.bind_some, List.all_cons, List.all_nil, Bool.and_true]
    cases hg : opnF f 0 t with
    | none => exact hi.none hg
    | some w =>
      obtain ⟨g1, g2⟩ := hi.some hg
      refine ⟨g1, ?_⟩
      show _ = 32 :: (spacedR x ++ [32, 91, 32] ++ showT t ++ [32, 93])
      simp [blW_app, blW_cons, blW_nil, e2, g2]
  · obtain ⟨nm, e1, e2⟩ := zname_words h5
    rw [isL_all (k := 18) (c := exprB) (fit_expr (by decide) _)]
    have hr := pround_ok (g := opnF f 0) (c := exprB) ks (fun t ht => by have := ih t ht 0 (by decide); rw [at_zero] at this; exact this)
    show OkW ((wordsF x).bind fun nm => (itemsF (opnF f 0) 0 ks).bind fun e => some (nm ++ [⟨#[40]⟩] ++ e ++ [⟨#[41]⟩])) _ (spacedR x ++ [32] ++ roundR (showL ks))
    rw [e1, Option.bind_some]
    unfold roundF at hr
    cases hg : itemsF (opnF f 0) 0 ks with
    | none => rw [hg] at hr; exact hr
    | some w =>
      rw [hg] at hr
      obtain ⟨g1, g2⟩ := hr
      refine ⟨g1, ?_⟩
      have e : nm ++ [⟨#[40]⟩] ++ w ++ [⟨#[41]⟩] = nm ++ ([⟨#[40]⟩] ++ w ++ [⟨#[41]⟩]) := by simp
      rw [e, blW_app, e2, g2]
      simp
  · obtain ⟨t, u, rfl⟩ := len2 h3 (h4.resolve_left (by decide))
    have hb := opIs_le m.toNat
    have hi := ih t (by simp) (max (opIs m.toNat) 1) (by omega)
    have hj := ih u (by simp) (opIs m.toNat + 1) (by omega)
    rw [isL_all (k := 19) (c := exprB) (fit_expr (by decide) _)]
    show OkW ((opnF f (max (opIs m.toNat) 1) t).bind fun a => (opnF f (opIs m.toNat + 1) u).bind fun b => some (a ++ [opAt m.toNat] ++ b)) _ _
    rw [List.all_cons, List.all_cons, List.all_nil, Bool.and_true]
    cases hg : opnF f (max (opIs m.toNat) 1) t with
    | none => show _ = false; rw [hi.none hg]; rfl
    | some w =>
      obtain ⟨g1, g2⟩ := hi.some hg
      rw [Option.bind_some]
      cases hg' : opnF f (opIs m.toNat + 1) u with
      | none => show _ = false; rw [hj.none hg', Bool.and_false]
      | some w' =>
        obtain ⟨g3, g4⟩ := hj.some hg'
        refine ⟨by rw [g1, g3]; rfl, ?_⟩
        show _ = 32 :: (atR t (showT t) (max (levelR m) 1) ++ [32] ++ (opAt m.toNat).data.toList ++ [32] ++ atR u (showT u) (levelR m + 1))
        unfold levelR
        simp [blW_app, blW_cons, blW_nil, g2, g4]
  · obtain ⟨t, rfl⟩ := len1 h3 (h4.resolve_left (by decide))
    have hi := ih t (by simp) 3 (by decide)
    rw [isL_all (k := 20) (c := exprB) (fit_expr (by decide) _)]
    show OkW ((opnF f 3 t).bind fun e => some ([⟨#[45]⟩] ++ e)) _ _
    rw [List.all_cons, List.all_nil, Bool.and_true]
    cases hg : opnF f 3 t with
    | none => exact hi.none hg
    | some w =>
      obtain ⟨g1, g2⟩ := hi.some hg
      refine ⟨g1, ?_⟩
      show _ = 32 :: ([45, 32] ++ atR t (showT t) 3)
      simp [blW_app, blW_cons, blW_nil, g2]
  · obtain ⟨t, rfl⟩ := len1 h3 (h4.resolve_left (by decide))
    have hi := ih t (by simp) 3 (by decide)
    rw [isL_all (k := 21) (c := exprB) (fit_expr (by decide) _)]
    show OkW ((opnF f 3 t).bind fun e => some ([⟨#[33]⟩] ++ e)) _ _
    rw [List.all_cons, List.all_nil, Bool.and_true]
    cases hg : opnF f 3 t with
    | none => exact hi.none hg
    | some w =>
      obtain ⟨g1, g2⟩ := hi.some hg
      refine ⟨g1, ?_⟩
      show _ = 32 :: ([33, 32] ++ atR t (showT t) 3)
      simp [blW_app, blW_cons, blW_nil, g2]
theorem kid_len {k m : Int} {x : ByteArray} {ks : List Tree} (h : cntT (.node k x m ks) ≤ 500) : (ks.length : Int) ≤ 500 := by
  unfold cntT at h
  have := cntL_len ks
  omega
theorem kid_cnt {k m : Int} {x : ByteArray} {ks : List Tree} (h : cntT (.node k x m ks) ≤ 500) {t : Tree} (ht : t ∈ ks) : cntT t ≤ 500 := by
  unfold cntT at h
  have := cnt_kid ht
  omega
theorem kid_dep {f : Nat} {k m : Int} {x : ByteArray} {ks : List Tree} (h : depT (.node k x m ks) ≤ (f + 1 : Nat)) {t : Tree} (ht : t ∈ ks) : depT t ≤ f := by
  unfold depT at h
  have := dep_kid ht
  omega
theorem isT_node (k m : Int) (x : ByteArray) (ks : List Tree) : isT (.node k x m ks) = (headR k x m ks.length && isL k ks.length 0 0 ks) := by unfold isT; rfl
theorem showT_node (k m : Int) (x : ByteArray) (ks : List Tree) : showT (.node k x m ks) = barR k x m ks (showL ks) := by unfold showT; rfl
theorem ex_ok : ∀ (f : Nat) (t : Tree), depT t ≤ f → cntT t ≤ 500 → ∀ l : Int, l ≤ 3 → OkW (opnF f l t) (exprB (kindT t) && isT t) (atR t (showT t) l)
  | 0, t, h, _, _, _ => by have := depT_pos t; omega
  | f + 1, .node k x m ks, hd, hc, l, hl => by
    have ih : ∀ t ∈ ks, ∀ l : Int, l ≤ 3 → OkW (opnF f l t) (exprB (kindT t) && isT t) (atR t (showT t) l) := fun t ht l hl => ex_ok f t (kid_dep hd ht) (kid_cnt hc ht) l hl
    unfold opnF
    rw [look_is (kid_len hc) (by rw [expr_kinds]; unfold exprB; simp; omega), expr_kinds, isT_node, showT_node]
    show OkW _ (exprB k && _) _
    cases hk : exprB k with
    | false => rfl
    | true =>
      cases hh : headR k x m ks.length with
      | false => rfl
      | true =>
        have hb := bare_ok (f := f) hk hh ih
        simp only [Bool.true_and, if_true]
        unfold atR
        show OkW _ _ (if k = 19 ∧ levelR m < l then _ else _)
        have hbi : (l ≤ bindsF k m) ↔ ¬ (k = 19 ∧ levelR m < l) := by
          unfold bindsF levelR
          by_cases h19 : k = 19
          · rw [if_pos h19]; omega
          · rw [if_neg h19]
            split <;> omega
        by_cases hb2 : k = 19 ∧ levelR m < l
        · rw [if_pos hb2, if_neg (fun h => hbi.1 h hb2)]
          cases hg : bareF (opnF f) (.node k x m ks) with
          | none => exact hb.none hg
          | some w =>
            obtain ⟨g1, g2⟩ := hb.some hg
            refine ⟨g1, ?_⟩
            simp [blW_app, blW_cons, blW_nil, g2]
        · rw [if_neg hb2, if_pos (hbi.2 hb2)]
          exact hb
end pr
end Go.Proofs.YtkoomoemkffjkaaGreatDoor
