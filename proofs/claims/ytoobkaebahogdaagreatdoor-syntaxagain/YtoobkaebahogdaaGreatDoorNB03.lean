/- What is written of declarations and of a module is read as the same. -/
import Derived.Test.YtoobkaebahogdaaGreatDoorNB02
set_option linter.unusedVariables false
namespace Go.Proofs.YtoobkaebahogdaaGreatDoor
namespace pr
open Go.Proofs.YtoobkaebahogdaaGreatDoor.syn Go.Proofs.YtoobkaebahogdaaGreatDoor.face Go.Proofs.YtoobkaebahogdaaGreatDoor.chk
open Go.Proofs.YtoobkaebahogdaaGreatDoor.lexs (Tok val digB ltrI digI)
section
variable {ts : List Tok} {f i : Nat} {t : Tree} {ws : List ByteArray}
theorem label_at {m : Int} {r : List ByteArray} (hm : m = 0 ∨ m = 1) (h : AtW ts i (labW m :: r)) : label ts ⟨i, false⟩ = (m, ⟨i + 1, false⟩) := by
  rcases hm with rfl | rfl
  · have e := txt_at h (by decide +kernel)
    have n1 : eqS ⟨#[108, 111, 119]⟩ ⟨#[104, 105, 103, 104]⟩ = false := by decide +kernel
    have e0 : labW 0 = ⟨#[108, 111, 119]⟩ := by decide +kernel
    rw [e0] at e h
    unfold label
    rw [e, n1, if_neg (by simp), must_at h (by decide +kernel)]
  · have e := txt_at h (by decide +kernel)
    have n1 : eqS ⟨#[104, 105, 103, 104]⟩ ⟨#[104, 105, 103, 104]⟩ = true := by decide +kernel
    have e0 : labW 1 = ⟨#[104, 105, 103, 104]⟩ := by decide +kernel
    rw [e0] at e
    unfold label
    rw [e, n1, if_pos rfl]
    rfl
/-- an expression that something literal follows -/
theorem expr_at (y : ByteArray) {r : List ByteArray} (ho : opnF f 0 t = some ws) (h : AtW ts i (ws ++ y :: r)) (hd : digW y = false) (hy : Fol 0 y) : Ez ts i (t, ⟨i + ws.length, false⟩) := by
  have hz := h.right
  exact p_e ((rt_all ts f).p 0 t ws i (by omega) ho h.left (by rw [txt_at hz hd]; exact hy))
/-- an expression in parentheses -/
theorem asked_at {c r : List ByteArray} {t0 : Tree} (hc : roundF (opnF f 0) [t0] = some c) (h : AtW ts i (c ++ r)) : ∃ F, askedF ts F ⟨i, false⟩ = some (t0, ⟨i + c.length, false⟩) := by
  have hc' : ((opnF f 0 t0).bind fun a => (some ([] : List ByteArray)).bind fun b => some (([] : List ByteArray) ++ a ++ b)).bind (fun e => some ([⟨#[40]⟩] ++ e ++ [⟨#[41]⟩])) = some c := hc
  cases he : opnF f 0 t0 with
  | none => rw [he] at hc'; cases hc'
  | some a =>
    rw [he] at hc'
    simp only [Option.bind_some, List.nil_append, List.append_nil, Option.some.injEq] at hc'
    subst hc'
    have h1 : AtW ts i (⟨#[40]⟩ :: (a ++ ⟨#[41]⟩ :: r)) := by simpa using h
    obtain ⟨F, hF⟩ := expr_at ⟨#[41]⟩ he h1.tail (by decide +kernel) (fol_lit _ (by decide +kernel))
    have hz := h1.tail.right
    refine ⟨F + 1, ?_⟩
    unfold askedF
    rw [must_at h1 (by decide +kernel), hF]
    show some (t0, must ts ⟨#[41]⟩ ⟨i + 1 + a.length, false⟩) = _
    rw [must_at hz (by decide +kernel)]
    have : ([(⟨#[40]⟩ : ByteArray)] ++ a ++ [(⟨#[41]⟩ : ByteArray)]).length = a.length + 2 := by simp
    rw [this]
    have : i + (a.length + 2) = i + 1 + a.length + 1 := by omega
    rw [this]
/-- a place that something literal follows -/
theorem place_at (y : ByteArray) {r : List ByteArray} (ho : placeW f t = some ws) (h : AtW ts i (ws ++ y :: r)) (hd : digW y = false) (hy : Fol 0 y) : ∃ x j F, whole ts ⟨i, false⟩ = (x, ⟨j, false⟩) ∧ placeF ts F x ⟨j, false⟩ = some (t, ⟨i + ws.length, false⟩) := by
  unfold placeW at ho
  by_cases hl : lookB [16, 17] t = true
  · rw [if_pos hl] at ho
    cases f with
    | zero => simp [opnF] at ho
    | succ f =>
      obtain ⟨k, x, m, ks⟩ := t
      have hz := h.right
      have ey := txt_at hz hd
      unfold lookB at hl
      simp only [Bool.and_eq_true, decide_eq_true_eq] at hl
      obtain ⟨⟨⟨⟨⟨hc, h1⟩, h2⟩, h3⟩, h4⟩, h5⟩ := hl
      have hk : k = 16 ∨ k = 17 := by
        have := List.contains_iff_mem.1 hc
        simpa using this
      unfold opnF at ho
      by_cases hl2 : lookB exprKinds (.node k x m ks) = true
      · rw [if_pos hl2] at ho
        rcases hk with rfl | rfl
        · rw [if_pos (by show (0 : Int) ≤ 4; omega)] at ho
          have hw : wordsF x = some ws := ho
          have h1' : (0 : Int) ≤ m := h1
          have h2' : m ≤ 0 := h2
          obtain rfl : m = 0 := by omega
          have h4' : (ks.length : Int) ≤ 0 := h4
          obtain rfl : ks = [] := List.eq_nil_of_length_eq_zero (by omega)
          refine ⟨x, i + ws.length, 1, whole_at hw h (by rw [ey]; exact hy.pt), ?_⟩
          unfold placeF
          rw [ey, hy.br, if_neg (by simp)]
        · rw [if_pos (by show (0 : Int) ≤ 4; omega)] at ho
          have h1' : (0 : Int) ≤ m := h1
          have h2' : m ≤ 0 := h2
          obtain rfl : m = 0 := by omega
          obtain ⟨t0, rfl⟩ := one_w ks h3 h4
          have ho' : ((wordsF x).bind fun nm => (opnF f 0 t0).bind fun e => some (nm ++ [⟨#[91]⟩] ++ e ++ [⟨#[93]⟩])) = some ws := ho
          cases hn : wordsF x with
          | none => rw [hn] at ho'; cases ho'
          | some nm =>
            rw [hn] at ho'
            cases he : opnF f 0 t0 with
            | none => simp only [Option.bind_some, he] at ho'; cases ho'
            | some e =>
              simp only [Option.bind_some, he, Option.some.injEq] at ho'
              subst ho'
              have hA : AtW ts i (nm ++ (⟨#[91]⟩ :: (e ++ ⟨#[93]⟩ :: y :: r))) := by simpa using h
              have hb := hA.right
              have eb := txt_at hb (by decide +kernel)
              obtain ⟨F, hF⟩ := expr_at ⟨#[93]⟩ he hb.tail (by decide +kernel) (fol_lit _ (by decide +kernel))
              have hq := hb.tail.right
              have n1 : eqS ⟨#[91]⟩ ⟨#[46]⟩ = false := by decide +kernel
              have n3 : eqS ⟨#[91]⟩ ⟨#[91]⟩ = true := by decide +kernel
              refine ⟨x, i + nm.length, F + 1, whole_at hn hA (by rw [eb]; exact n1), ?_⟩
              unfold placeF
              rw [eb, n3, if_pos rfl]
              show ((exprF ts F ⟨i + nm.length + 1, false⟩).bind _) = _
              rw [hF]
              show some (Tree.node 17 x 0 [t0], must ts ⟨#[93]⟩ ⟨i + nm.length + 1 + e.length, false⟩) = _
              rw [must_at hq (by decide +kernel)]
              have e2 : (nm ++ [(⟨#[91]⟩ : ByteArray)] ++ e ++ [(⟨#[93]⟩ : ByteArray)]).length = nm.length + e.length + 2 := by simp; omega
              have : i + (nm.length + e.length + 2) = i + nm.length + 1 + e.length + 1 := by omega
              rw [e2, this]
      · rw [if_neg hl2] at ho; cases ho
  · rw [if_neg hl] at ho; cases ho
/-- a call that is done -/
theorem do_at {r : List ByteArray} (ho : doW f t = some ws) (h : AtW ts i (ws ++ r)) : ∃ x j F, whole ts ⟨i, false⟩ = (x, ⟨j, false⟩) ∧ callF ts F x ⟨j, false⟩ = some (t, ⟨i + ws.length, false⟩) := by
  unfold doW at ho
  by_cases hl : lookB [18] t = true
  · rw [if_pos hl] at ho
    cases f with
    | zero => simp [opnF] at ho
    | succ f =>
      obtain ⟨k, x, m, ks⟩ := t
      unfold lookB at hl
      simp only [Bool.and_eq_true, decide_eq_true_eq] at hl
      obtain ⟨⟨⟨⟨⟨hc, h1⟩, h2⟩, h3⟩, h4⟩, h5⟩ := hl
      obtain rfl : k = 18 := by
        have := List.contains_iff_mem.1 hc
        simpa using this
      have h1' : (0 : Int) ≤ m := h1
      have h2' : m ≤ 0 := h2
      obtain rfl : m = 0 := by omega
      unfold opnF at ho
      by_cases hl2 : lookB exprKinds (.node 18 x 0 ks) = true
      · rw [if_pos hl2, if_pos (by show (0 : Int) ≤ 4; omega)] at ho
        have ho' : ((wordsF x).bind fun nm => (itemsF (opnF f 0) 0 ks).bind fun e => some (nm ++ [⟨#[40]⟩] ++ e ++ [⟨#[41]⟩])) = some ws := ho
        cases hn : wordsF x with
        | none => rw [hn] at ho'; cases ho'
        | some nm =>
          rw [hn] at ho'
          cases he : itemsF (opnF f 0) 0 ks with
          | none => simp only [Option.bind_some, he] at ho'; cases ho'
          | some e =>
            simp only [Option.bind_some, he, Option.some.injEq] at ho'
            subst ho'
            have hA : AtW ts i (nm ++ (⟨#[40]⟩ :: (e ++ ⟨#[41]⟩ :: r))) := by simpa using h
            have hb := hA.right
            have eb := txt_at hb (by decide +kernel)
            have n1 : eqS ⟨#[40]⟩ ⟨#[46]⟩ = false := by decide +kernel
            have n2 : eqS ⟨#[40]⟩ ⟨#[40]⟩ = true := by decide +kernel
            have hwh := whole_at hn hA (by rw [eb]; exact n1)
            obtain ⟨F, hF⟩ := u_call (rt_all ts f) hn he (AtW.left (b := r) (by simpa using h))
            cases F with
            | zero => simp [unaryF] at hF
            | succ F =>
              rw [u_name hn hA (by rw [eb]; exact n1), eb, n2, if_pos rfl] at hF
              refine ⟨x, _, F, hwh, ?_⟩
              have e2 : (nm ++ [(⟨#[40]⟩ : ByteArray)] ++ e ++ [(⟨#[41]⟩ : ByteArray)]).length = nm.length + e.length + 2 := by simp; omega
              rw [e2]
              exact hF
      · rw [if_neg hl2] at ho; cases ho
  · rw [if_neg hl] at ho; cases ho
end
section
variable {ts : List Tok} {f i : Nat} {t : Tree} {ws : List ByteArray}
theorem text_name {x : ByteArray} (h : textB x 1 = true) : isName x = true := by
  unfold textB at h
  rw [if_neg (by decide)] at h
  cases hw : wordsF x with
  | none => rw [hw] at h; cases h
  | some l =>
    rw [hw] at h
    have hl : (l.length : Int) < 2 * 1 := by simpa using h
    unfold wordsF at hw
    cases hc : cutL x.data.toList with
    | mk a ob =>
      rw [hc] at hw
      cases ob with
      | none =>
        dsimp only at hw
        by_cases hx : isName x = true
        · exact hx
        · rw [if_neg hx] at hw; cases hw
      | some bs =>
        dsimp only at hw
        by_cases hx : (isName ⟨a.toArray⟩ && isName ⟨bs.toArray⟩) = true
        · rw [if_pos hx] at hw
          obtain rfl := Option.some.inj hw
          simp at hl
        · rw [if_neg hx] at hw; cases hw
theorem place_head (ho : placeW f t = some ws) : ∃ y r, ws = y :: r ∧ isName y = true := by
  unfold placeW at ho
  by_cases hl : lookB [16, 17] t = true
  · rw [if_pos hl] at ho
    cases f with
    | zero => simp [opnF] at ho
    | succ f =>
      obtain ⟨k, x, m, ks⟩ := t
      unfold lookB at hl
      simp only [Bool.and_eq_true, decide_eq_true_eq] at hl
      have hk : k = 16 ∨ k = 17 := by
        have := List.contains_iff_mem.1 hl.1.1.1.1.1
        simpa using this
      unfold opnF at ho
      by_cases hl2 : lookB exprKinds (.node k x m ks) = true
      · rw [if_pos hl2] at ho
        rcases hk with rfl | rfl
        · rw [if_pos (by show (0 : Int) ≤ 4; omega)] at ho
          exact words_head ho
        · rw [if_pos (by show (0 : Int) ≤ 4; omega)] at ho
          have ho' : ((wordsF x).bind fun nm => (opnF f 0 (ks.getD 0 noT)).bind fun e => some (nm ++ [⟨#[91]⟩] ++ e ++ [⟨#[93]⟩])) = some ws := ho
          cases hn : wordsF x with
          | none => rw [hn] at ho'; cases ho'
          | some nm =>
            rw [hn] at ho'
            cases he : opnF f 0 (ks.getD 0 noT) with
            | none => simp only [Option.bind_some, he] at ho'; cases ho'
            | some e =>
              simp only [Option.bind_some, he, Option.some.injEq] at ho'
              subst ho'
              obtain ⟨y, r, rfl, hy⟩ := words_head hn
              exact ⟨y, _, rfl, hy⟩
      · rw [if_neg hl2] at ho; cases ho
  · rw [if_neg hl] at ho; cases ho
structure RTS (ts : List Tok) (f : Nat) : Prop where
  bk : ∀ (t : Tree) (ws : List ByteArray) (i : Nat), blockW f t = some ws → AtW ts i ws → ∃ F, blockF ts F ⟨i, false⟩ = some (t, ⟨i + ws.length, false⟩)
  st : ∀ (t : Tree) (ws : List ByteArray) (i : Nat), statW f t = some ws → AtW ts i ws → eqS (txt ts ⟨i + ws.length, false⟩) ⟨#[101, 108, 115, 101]⟩ = false → ∃ F, statF ts F ⟨i, false⟩ = some (t, ⟨i + ws.length, false⟩)
/-- the first word of a statement -/
def StHead (ws : List ByteArray) : Prop := ∃ y r, ws = y :: r ∧ digW y = false ∧ eqS y ⟨#[125]⟩ = false ∧ eqS y ⟨#[101, 108, 115, 101]⟩ = false
theorem lit_head (y : ByteArray) (r : List ByteArray) (h : (!digW y && !eqS y ⟨#[125]⟩ && !eqS y ⟨#[101, 108, 115, 101]⟩) = true) : StHead (y :: r) := by
  simp only [Bool.and_eq_true, Bool.not_eq_true'] at h
  exact ⟨y, r, rfl, h.1.1, h.1.2, h.2⟩
theorem lab_head (m : Int) (r : List ByteArray) : StHead (labW m :: r) := by
  unfold labW
  by_cases h : m = 1
  · rw [if_pos h]; exact lit_head _ _ (by decide +kernel)
  · rw [if_neg h]; exact lit_head _ _ (by decide +kernel)
theorem stat_head (h : statW f t = some ws) : StHead ws := by
  cases f with
  | zero => simp [statW] at h
  | succ f =>
    obtain ⟨k, x, m, ks⟩ := t
    unfold statW at h
    by_cases hl : lookB statKinds (.node k x m ks) = true
    · rw [if_pos hl] at h
      by_cases h10 : k = 10
      · rw [if_pos h10] at h
        cases hc : roundF (opnF f 0) (ks.take 1) with
        | none => rw [hc] at h; cases h
        | some c =>
          rw [hc] at h
          cases hb : blockW f (ks.getD 1 noT) with
          | none => simp only [Option.bind_some, hb] at h; cases h
          | some b =>
            simp only [Option.bind_some, hb] at h
            by_cases h2 : 2 < ks.length
            · rw [if_pos h2] at h
              cases hd : blockW f (ks.getD 2 noT) with
              | none => rw [hd] at h; cases h
              | some d =>
                rw [hd] at h
                obtain rfl := Option.some.inj h
                exact lit_head _ _ (by decide +kernel)
            · rw [if_neg h2] at h
              obtain rfl := Option.some.inj h
              exact lit_head _ _ (by decide +kernel)
      rw [if_neg h10] at h
      by_cases h11 : k = 11
      · rw [if_pos h11] at h
        cases hc : roundF (opnF f 0) (ks.take 1) with
        | none => rw [hc] at h; cases h
        | some c =>
          rw [hc] at h
          cases hb : blockW f (ks.getD 1 noT) with
          | none => simp only [Option.bind_some, hb] at h; cases h
          | some b =>
            simp only [Option.bind_some, hb, Option.some.injEq] at h
            subst h
            exact lit_head _ _ (by decide +kernel)
      rw [if_neg h11] at h
      by_cases h7 : k = 7
      · rw [if_pos h7] at h
        cases hc : opnF f 0 (ks.getD 0 noT) with
        | none => rw [hc] at h; cases h
        | some c =>
          rw [hc] at h
          obtain rfl := Option.some.inj h
          exact lab_head _ _
      rw [if_neg h7] at h
      by_cases h8 : k = 8
      · rw [if_pos h8] at h
        cases hp : placeW f (ks.getD 0 noT) with
        | none => rw [hp] at h; cases h
        | some p =>
          rw [hp] at h
          cases hc : opnF f 0 (ks.getD 1 noT) with
          | none => simp only [Option.bind_some, hc] at h; cases h
          | some c =>
            simp only [Option.bind_some, hc, Option.some.injEq] at h
            subst h
            obtain ⟨y, r, rfl, hy⟩ := place_head hp
            exact ⟨y, _, rfl, name_dig hy, name_ne hy (by decide +kernel), name_ne hy (by decide +kernel)⟩
      rw [if_neg h8] at h
      by_cases h9 : k = 9
      · rw [if_pos h9] at h
        cases hc : doW f (ks.getD 0 noT) with
        | none => rw [hc] at h; cases h
        | some c =>
          rw [hc] at h
          obtain rfl := Option.some.inj h
          exact lit_head _ _ (by decide +kernel)
      rw [if_neg h9] at h
      by_cases h12 : k = 12
      · rw [if_pos h12] at h
        cases hc : opnF f 0 (ks.getD 0 noT) with
        | none => rw [hc] at h; cases h
        | some c =>
          rw [hc] at h
          obtain rfl := Option.some.inj h
          exact lit_head _ _ (by decide +kernel)
      rw [if_neg h12] at h
      by_cases h13 : k = 13
      · rw [if_pos h13] at h
        cases hc : placeW f (ks.getD 0 noT) with
        | none => rw [hc] at h; cases h
        | some c =>
          rw [hc] at h
          obtain rfl := Option.some.inj h
          exact lit_head _ _ (by decide +kernel)
      rw [if_neg h13] at h
      cases hc : opnF f 0 (ks.getD 0 noT) with
      | none => rw [hc] at h; cases h
      | some c =>
        rw [hc] at h
        obtain rfl := Option.some.inj h
        exact lit_head _ _ (by decide +kernel)
    · rw [if_neg hl] at h; cases h
/-- statements, up to the block's end -/
theorem seq_at (ih : RTS ts f) : ∀ (ks : List Tree) (b : List ByteArray) (done : List Tree) (i : Nat), seqF (statW f) ks = some b → AtW ts i (b ++ [⟨#[125]⟩]) → ∃ F, blockL ts F done ⟨i, false⟩ = some (.node 6 empty 0 (done ++ ks), ⟨i + (b.length + 1), false⟩)
  | [], b, done, i, hb, h => by
    obtain rfl := (Option.some.inj hb)
    have e := txt_at (r := []) h (by decide +kernel)
    have n : eqS ⟨#[125]⟩ ⟨#[125]⟩ = true := by decide +kernel
    refine ⟨1, ?_⟩
    unfold blockL
    rw [if_neg (by simp), e, n, if_pos rfl]
    simp only [List.append_nil]
    rfl
  | t :: r, b, done, i, hb, h => by
    unfold seqF at hb
    cases ha : statW f t with
    | none => rw [ha] at hb; cases hb
    | some a =>
      rw [ha] at hb
      cases hr : seqF (statW f) r with
      | none => simp only [Option.bind_some, hr] at hb; cases hb
      | some b' =>
        simp only [Option.bind_some, hr, Option.some.injEq] at hb
        subst hb
        have h1 : AtW ts i (a ++ (b' ++ [⟨#[125]⟩])) := by simpa using h
        obtain ⟨y, ra, rfl, hd, hy1, hy2⟩ := stat_head ha
        have e := txt_at (r := ra ++ (b' ++ [⟨#[125]⟩])) h1 hd
        have hz := h1.right
        have hel : eqS (txt ts ⟨i + (y :: ra).length, false⟩) ⟨#[101, 108, 115, 101]⟩ = false := by
          cases r with
          | nil =>
            obtain rfl := (Option.some.inj hr)
            rw [txt_at (r := []) hz (by decide +kernel)]
            decide +kernel
          | cons t2 r2 =>
            unfold seqF at hr
            cases ha2 : statW f t2 with
            | none => rw [ha2] at hr; cases hr
            | some a2 =>
              rw [ha2] at hr
              cases hr2 : seqF (statW f) r2 with
              | none => simp only [Option.bind_some, hr2] at hr; cases hr
              | some b2 =>
                simp only [Option.bind_some, hr2, Option.some.injEq] at hr
                subst hr
                obtain ⟨y2, ra2, rfl, hd2, _, hy4⟩ := stat_head ha2
                rw [txt_at (r := ra2 ++ b2 ++ [⟨#[125]⟩]) (by simpa using hz) hd2]
                exact hy4
        obtain ⟨F, hF⟩ := ih.st t (y :: ra) i ha h1.left hel
        obtain ⟨G, hG⟩ := seq_at ih r b' (done ++ [t]) _ hr hz
        refine ⟨max F G + 1, ?_⟩
        unfold blockL
        rw [if_neg (by simp), e, hy1, if_neg (by simp), stat_le (Nat.le_max_left F G) hF]
        show blockL ts (max F G) (done ++ [t]) ⟨i + (y :: ra).length, false⟩ = _
        rw [blockL_le (Nat.le_max_right F G) hG]
        have e1 : done ++ [t] ++ r = done ++ t :: r := by simp
        rw [e1]
        congr 3
        simp only [List.length_append]
        omega
theorem block_rt (ih : RTS ts f) (ho : blockW (f + 1) t = some ws) (h : AtW ts i ws) : ∃ F, blockF ts F ⟨i, false⟩ = some (t, ⟨i + ws.length, false⟩) := by
  obtain ⟨k, x, m, ks⟩ := t
  unfold blockW at ho
  by_cases hl : lookB [6] (.node k x m ks) = true
  · rw [if_pos hl] at ho
    cases hb : seqF (statW f) ks with
    | none => rw [hb] at ho; cases ho
    | some b =>
      rw [hb] at ho
      obtain rfl := Option.some.inj ho
      unfold lookB at hl
      simp only [Bool.and_eq_true, decide_eq_true_eq] at hl
      obtain ⟨⟨⟨⟨⟨hc, h1⟩, h2⟩, h3⟩, h4⟩, h5⟩ := hl
      obtain rfl : k = 6 := by
        have := List.contains_iff_mem.1 hc
        simpa using this
      have h1' : (0 : Int) ≤ m := h1
      have h2' : m ≤ 0 := h2
      obtain rfl : m = 0 := by omega
      obtain rfl := empty_of h5
      have hA : AtW ts i (⟨#[123]⟩ :: (b ++ [⟨#[125]⟩])) := by simpa using h
      obtain ⟨F, hF⟩ := seq_at ih ks b [] _ hb hA.tail
      refine ⟨F + 1, ?_⟩
      unfold blockF
      rw [must_at hA (by decide +kernel), hF]
      have e2 : ([(⟨#[123]⟩ : ByteArray)] ++ b ++ [(⟨#[125]⟩ : ByteArray)]).length = b.length + 2 := by simp
      have : i + (b.length + 2) = i + 1 + (b.length + 1) := by omega
      rw [e2, this]
      rfl
  · rw [if_neg hl] at ho; cases ho
end
section
variable {ts : List Tok} {f i : Nat} {t : Tree} {ws : List ByteArray}
theorem semi_fol : Fol 0 ⟨#[59]⟩ := fol_lit _ (by decide +kernel)
theorem eq_fol : Fol 0 ⟨#[61]⟩ := fol_lit _ (by decide +kernel)
theorem ks_two : ∀ (ks : List Tree), (2 : Int) ≤ ks.length → (ks.length : Int) ≤ 3 → (∃ a b, ks = [a, b]) ∨ ∃ a b c, ks = [a, b, c]
  | [a, b], _, _ => .inl ⟨a, b, rfl⟩
  | [a, b, c], _, _ => .inr ⟨a, b, c, rfl⟩
  | [], a, _ => by simp at a
  | [_], a, _ => by simp at a
  | _ :: _ :: _ :: _ :: _, _, b => by simp only [List.length_cons] at b; omega
theorem stat_rt (ih : RTS ts f) (ho : statW (f + 1) t = some ws) (h : AtW ts i ws) (hel : eqS (txt ts ⟨i + ws.length, false⟩) ⟨#[101, 108, 115, 101]⟩ = false) : ∃ F, statF ts F ⟨i, false⟩ = some (t, ⟨i + ws.length, false⟩) := by
  obtain ⟨k, x, m, ks⟩ := t
  unfold statW at ho
  by_cases hl : lookB statKinds (.node k x m ks) = true
  · rw [if_pos hl] at ho
    unfold lookB at hl
    simp only [Bool.and_eq_true, decide_eq_true_eq] at hl
    obtain ⟨⟨⟨⟨⟨hc, h1⟩, h2⟩, h3⟩, h4⟩, h5⟩ := hl
    have hk : k = 7 ∨ k = 8 ∨ k = 9 ∨ k = 10 ∨ k = 11 ∨ k = 12 ∨ k = 13 ∨ k = 14 := by
      have := List.contains_iff_mem.1 hc
      simpa [statKinds] using this
    rcases hk with rfl | rfl | rfl | rfl | rfl | rfl | rfl | rfl
    · skip
      rw [if_neg (by decide), if_neg (by decide), if_pos rfl] at ho
      have h1z : (0 : Int) ≤ m := h1
      have h2z : m ≤ 1 := h2
      have hm : m = 0 ∨ m = 1 := by omega
      obtain ⟨t0, rfl⟩ := one_w ks h3 h4
      have hx := text_name h5
      have ho2 : ((opnF f 0 t0).bind fun e => some ([labW m] ++ [x, ⟨#[61]⟩] ++ e ++ [⟨#[59]⟩])) = some ws := ho
      cases he : opnF f 0 t0 with
      | none => rw [he] at ho2; cases ho2
      | some e =>
        rw [he] at ho2
        obtain rfl := Option.some.inj ho2
        have hA : AtW ts i (labW m :: x :: ⟨#[61]⟩ :: (e ++ [⟨#[59]⟩])) := by simpa using h
        have hlab := label_at hm hA
        have hnm := name_at hA.tail hx
        have hq := must_at hA.tail.tail (by decide +kernel)
        obtain ⟨F, hF⟩ := expr_at ⟨#[59]⟩ he hA.tail.tail.tail (by decide +kernel) semi_fol
        have hz := must_at hA.tail.tail.tail.right (by decide +kernel)
        have hdm : digW (labW m) = false := by rcases hm with rfl | rfl <;> decide +kernel
        have e1 := txt_at hA hdm
        have t1 : eqS (labW m) ⟨#[105, 102]⟩ = false := by rcases hm with rfl | rfl <;> decide +kernel
        have t2 : eqS (labW m) ⟨#[119, 104, 105, 108, 101]⟩ = false := by rcases hm with rfl | rfl <;> decide +kernel
        have t3 : (eqS (labW m) ⟨#[108, 111, 119]⟩ || eqS (labW m) ⟨#[104, 105, 103, 104]⟩) = true := by rcases hm with rfl | rfl <;> decide +kernel
        refine ⟨F + 1, ?_⟩
        unfold statF
        rw [e1, t1, if_neg (by simp), t2, if_neg (by simp), t3, if_pos rfl, hlab]
        dsimp only
        rw [hnm]
        dsimp only
        rw [hq, hF]
        dsimp only [Option.bind_some]
        rw [hz]
        congr 3
        simp only [List.length_append, List.length_cons, List.length_nil]
        omega
    · skip
      rw [if_neg (by decide), if_neg (by decide), if_neg (by decide), if_pos rfl] at ho
      have h1z : (0 : Int) ≤ m := h1
      have h2z : m ≤ 0 := h2
      obtain rfl : m = 0 := by omega
      obtain rfl := empty_of h5
      obtain ⟨t0, t1, rfl⟩ := two_w ks h3 h4
      have ho2 : ((placeW f t0).bind fun p => (opnF f 0 t1).bind fun e => some (p ++ [⟨#[61]⟩] ++ e ++ [⟨#[59]⟩])) = some ws := ho
      cases hp : placeW f t0 with
      | none => rw [hp] at ho2; cases ho2
      | some p =>
        rw [hp] at ho2
        cases he : opnF f 0 t1 with
        | none => simp only [Option.bind_some, he] at ho2; cases ho2
        | some e =>
          simp only [Option.bind_some, he, Option.some.injEq] at ho2
          subst ho2
          have hA : AtW ts i (p ++ (⟨#[61]⟩ :: (e ++ [⟨#[59]⟩]))) := by simpa using h
          obtain ⟨y, rp, hyp, hy⟩ := place_head hp
          obtain ⟨xn, jn, F, hw, hF⟩ := place_at ⟨#[61]⟩ hp hA (by decide +kernel) eq_fol
          have hq := must_at hA.right (by decide +kernel)
          obtain ⟨G, hG⟩ := expr_at ⟨#[59]⟩ he hA.right.tail (by decide +kernel) semi_fol
          have hz := must_at hA.right.tail.right (by decide +kernel)
          have e1 : txt ts ⟨i, false⟩ = y := by
            subst hyp
            rw [List.cons_append] at hA
            exact txt_at hA (name_dig hy)
          have tn : ∀ z, isName z = false → eqS y z = false := fun z hz => name_ne hy hz
          have t3 : (eqS y ⟨#[108, 111, 119]⟩ || eqS y ⟨#[104, 105, 103, 104]⟩) = false := by rw [tn _ (by decide +kernel), tn _ (by decide +kernel)]; rfl
          refine ⟨max F G + 1, ?_⟩
          unfold statF
          rw [e1, tn _ (by decide +kernel), if_neg (by simp), tn _ (by decide +kernel), if_neg (by simp), t3, if_neg (by simp), tn _ (by decide +kernel), if_neg (by simp), tn _ (by decide +kernel), if_neg (by simp), tn _ (by decide +kernel), if_neg (by simp), tn _ (by decide +kernel), if_neg (by simp), hw]
          dsimp only
          rw [place_le (Nat.le_max_left F G) hF]
          dsimp only [Option.bind_some]
          rw [hq, expr_le (Nat.le_max_right F G) hG]
          dsimp only [Option.bind_some]
          rw [hz]
          congr 3
          simp only [List.length_append, List.length_cons, List.length_nil]
          omega
    · skip
      rw [if_neg (by decide), if_neg (by decide), if_neg (by decide), if_neg (by decide), if_pos rfl] at ho
      have h1z : (0 : Int) ≤ m := h1
      have h2z : m ≤ 0 := h2
      obtain rfl : m = 0 := by omega
      obtain rfl := empty_of h5
      obtain ⟨t0, rfl⟩ := one_w ks h3 h4
      have ho2 : ((doW f t0).bind fun e => some ([⟨#[100, 111]⟩] ++ e ++ [⟨#[59]⟩])) = some ws := ho
      cases he : doW f t0 with
      | none => rw [he] at ho2; cases ho2
      | some e =>
        rw [he] at ho2
        obtain rfl := Option.some.inj ho2
        have hA : AtW ts i (⟨#[100, 111]⟩ :: (e ++ [⟨#[59]⟩])) := by simpa using h
        obtain ⟨xn, jn, F, hw, hF⟩ := do_at he hA.tail
        have hz := must_at hA.tail.right (by decide +kernel)
        have e1 := txt_at hA (by decide +kernel)
        have t_if : eqS ⟨#[100, 111]⟩ ⟨#[105, 102]⟩ = false := by decide +kernel
        have t_while : eqS ⟨#[100, 111]⟩ ⟨#[119, 104, 105, 108, 101]⟩ = false := by decide +kernel
        have t_LH : (eqS ⟨#[100, 111]⟩ ⟨#[108, 111, 119]⟩ || eqS ⟨#[100, 111]⟩ ⟨#[104, 105, 103, 104]⟩) = false := by decide +kernel
        have t_do : eqS ⟨#[100, 111]⟩ ⟨#[100, 111]⟩ = true := by decide +kernel
        refine ⟨F + 1, ?_⟩
        have en : (⟨i, false⟩ : St).next = ⟨i + 1, false⟩ := rfl
        unfold statF
        rw [e1, t_if, if_neg (by simp), t_while, if_neg (by simp), t_LH, if_neg (by simp), t_do, if_pos rfl, en, hw]
        dsimp only
        rw [hF]
        dsimp only [Option.bind_some]
        rw [hz]
        congr 3
        simp only [List.length_append, List.length_cons, List.length_nil]
        omega
    · skip
      rw [if_pos rfl] at ho
      have h1z : (0 : Int) ≤ m := h1
      have h2z : m ≤ 0 := h2
      obtain rfl : m = 0 := by omega
      obtain rfl := empty_of h5
      rcases ks_two ks h3 h4 with ⟨t0, t1, rfl⟩ | ⟨t0, t1, t2, rfl⟩
      · have ho2 : ((roundF (opnF f 0) [t0]).bind fun c => (blockW f t1).bind fun b => some ([⟨#[105, 102]⟩] ++ c ++ b)) = some ws := ho
        cases hcc : roundF (opnF f 0) [t0] with
        | none => rw [hcc] at ho2; cases ho2
        | some c =>
          rw [hcc] at ho2
          cases hb : blockW f t1 with
          | none => simp only [Option.bind_some, hb] at ho2; cases ho2
          | some b =>
            simp only [Option.bind_some, hb, Option.some.injEq] at ho2
            subst ho2
            have hA : AtW ts i (⟨#[105, 102]⟩ :: (c ++ b)) := by simpa using h
            obtain ⟨F, hF⟩ := asked_at hcc hA.tail
            obtain ⟨G, hG⟩ := ih.bk t1 b _ hb hA.tail.right
            have e1 := txt_at hA (by decide +kernel)
            have hlen : i + ([(⟨#[105, 102]⟩ : ByteArray)] ++ c ++ b).length = i + 1 + c.length + b.length := by simp; omega
            rw [hlen] at hel ⊢
            have t_if : eqS ⟨#[105, 102]⟩ ⟨#[105, 102]⟩ = true := by decide +kernel
            refine ⟨max F G + 1, ?_⟩
            have en : (⟨i, false⟩ : St).next = ⟨i + 1, false⟩ := rfl
            unfold statF
            rw [e1, t_if, if_pos rfl, en, asked_le (Nat.le_max_left F G) hF]
            dsimp only [Option.bind_some]
            rw [block_le (Nat.le_max_right F G) hG]
            dsimp only [Option.bind_some]
            rw [hel, if_neg (by simp)]
      · have ho2 : ((roundF (opnF f 0) [t0]).bind fun c => (blockW f t1).bind fun b => (blockW f t2).bind fun d => some ([⟨#[105, 102]⟩] ++ c ++ b ++ [⟨#[101, 108, 115, 101]⟩] ++ d)) = some ws := ho
        cases hcc : roundF (opnF f 0) [t0] with
        | none => rw [hcc] at ho2; cases ho2
        | some c =>
          rw [hcc] at ho2
          cases hb : blockW f t1 with
          | none => simp only [Option.bind_some, hb] at ho2; cases ho2
          | some b =>
            cases hd : blockW f t2 with
            | none => simp only [Option.bind_some, hb, hd] at ho2; cases ho2
            | some d =>
              simp only [Option.bind_some, hb, hd, Option.some.injEq] at ho2
              subst ho2
              have hA : AtW ts i (⟨#[105, 102]⟩ :: (c ++ (b ++ (⟨#[101, 108, 115, 101]⟩ :: d)))) := by simpa using h
              obtain ⟨F, hF⟩ := asked_at hcc hA.tail
              have hB := hA.tail.right
              obtain ⟨G, hG⟩ := ih.bk t1 b _ hb hB.left
              have hC := hB.right
              obtain ⟨K, hK⟩ := ih.bk t2 d _ hd hC.tail
              have e1 := txt_at hA (by decide +kernel)
              have e2 := txt_at hC (by decide +kernel)
              have te : eqS ⟨#[101, 108, 115, 101]⟩ ⟨#[101, 108, 115, 101]⟩ = true := by decide +kernel
              have hlen : i + ([(⟨#[105, 102]⟩ : ByteArray)] ++ c ++ b ++ [(⟨#[101, 108, 115, 101]⟩ : ByteArray)] ++ d).length = i + 1 + c.length + b.length + 1 + d.length := by simp; omega
              rw [hlen]
              have t_if : eqS ⟨#[105, 102]⟩ ⟨#[105, 102]⟩ = true := by decide +kernel
              refine ⟨max F (max G K) + 1, ?_⟩
              have en : (⟨i, false⟩ : St).next = ⟨i + 1, false⟩ := rfl
              have en2 : (⟨i + 1 + c.length + b.length, false⟩ : St).next = ⟨i + 1 + c.length + b.length + 1, false⟩ := rfl
              unfold statF
              rw [e1, t_if, if_pos rfl, en, asked_le (Nat.le_max_left F (max G K)) hF]
              dsimp only [Option.bind_some]
              rw [block_le (Nat.le_trans (Nat.le_max_left G K) (Nat.le_max_right F (max G K))) hG]
              dsimp only [Option.bind_some]
              rw [e2, te, if_pos rfl, en2, block_le (Nat.le_trans (Nat.le_max_right G K) (Nat.le_max_right F (max G K))) hK]
              rfl
    · skip
      rw [if_neg (by decide), if_pos rfl] at ho
      have h1z : (0 : Int) ≤ m := h1
      have h2z : m ≤ 0 := h2
      obtain rfl : m = 0 := by omega
      obtain rfl := empty_of h5
      obtain ⟨t0, t1, rfl⟩ := two_w ks h3 h4
      have ho2 : ((roundF (opnF f 0) [t0]).bind fun c => (blockW f t1).bind fun b => some ([⟨#[119, 104, 105, 108, 101]⟩] ++ c ++ b)) = some ws := ho
      cases hcc : roundF (opnF f 0) [t0] with
      | none => rw [hcc] at ho2; cases ho2
      | some c =>
        rw [hcc] at ho2
        cases hb : blockW f t1 with
        | none => simp only [Option.bind_some, hb] at ho2; cases ho2
        | some b =>
          simp only [Option.bind_some, hb, Option.some.injEq] at ho2
          subst ho2
          have hA : AtW ts i (⟨#[119, 104, 105, 108, 101]⟩ :: (c ++ b)) := by simpa using h
          obtain ⟨F, hF⟩ := asked_at hcc hA.tail
          obtain ⟨G, hG⟩ := ih.bk t1 b _ hb hA.tail.right
          have e1 := txt_at hA (by decide +kernel)
          have hlen : i + ([(⟨#[119, 104, 105, 108, 101]⟩ : ByteArray)] ++ c ++ b).length = i + 1 + c.length + b.length := by simp; omega
          rw [hlen]
          have t_if : eqS ⟨#[119, 104, 105, 108, 101]⟩ ⟨#[105, 102]⟩ = false := by decide +kernel
          have t_while : eqS ⟨#[119, 104, 105, 108, 101]⟩ ⟨#[119, 104, 105, 108, 101]⟩ = true := by decide +kernel
          refine ⟨max F G + 1, ?_⟩
          have en : (⟨i, false⟩ : St).next = ⟨i + 1, false⟩ := rfl
          unfold statF
          rw [e1, t_if, if_neg (by simp), t_while, if_pos rfl, en, asked_le (Nat.le_max_left F G) hF]
          dsimp only [Option.bind_some]
          rw [block_le (Nat.le_max_right F G) hG]
          rfl
    · skip
      rw [if_neg (by decide), if_neg (by decide), if_neg (by decide), if_neg (by decide), if_neg (by decide), if_pos rfl] at ho
      have h1z : (0 : Int) ≤ m := h1
      have h2z : m ≤ 1 := h2
      have hm : m = 0 ∨ m = 1 := by omega
      obtain rfl := empty_of h5
      obtain ⟨t0, rfl⟩ := one_w ks h3 h4
      have ho2 : ((opnF f 0 t0).bind fun e => some ([⟨#[111, 117, 116]⟩] ++ [labW m] ++ e ++ [⟨#[59]⟩])) = some ws := ho
      cases he : opnF f 0 t0 with
      | none => rw [he] at ho2; cases ho2
      | some e =>
        rw [he] at ho2
        obtain rfl := Option.some.inj ho2
        have hA : AtW ts i (⟨#[111, 117, 116]⟩ :: labW m :: (e ++ [⟨#[59]⟩])) := by simpa using h
        have hlab := label_at hm hA.tail
        obtain ⟨F, hF⟩ := expr_at ⟨#[59]⟩ he hA.tail.tail (by decide +kernel) semi_fol
        have hz := must_at hA.tail.tail.right (by decide +kernel)
        have e1 := txt_at hA (by decide +kernel)
        have t_if : eqS ⟨#[111, 117, 116]⟩ ⟨#[105, 102]⟩ = false := by decide +kernel
        have t_while : eqS ⟨#[111, 117, 116]⟩ ⟨#[119, 104, 105, 108, 101]⟩ = false := by decide +kernel
        have t_LH : (eqS ⟨#[111, 117, 116]⟩ ⟨#[108, 111, 119]⟩ || eqS ⟨#[111, 117, 116]⟩ ⟨#[104, 105, 103, 104]⟩) = false := by decide +kernel
        have t_do : eqS ⟨#[111, 117, 116]⟩ ⟨#[100, 111]⟩ = false := by decide +kernel
        have t_out : eqS ⟨#[111, 117, 116]⟩ ⟨#[111, 117, 116]⟩ = true := by decide +kernel
        refine ⟨F + 1, ?_⟩
        have en : (⟨i, false⟩ : St).next = ⟨i + 1, false⟩ := rfl
        unfold statF
        rw [e1, t_if, if_neg (by simp), t_while, if_neg (by simp), t_LH, if_neg (by simp), t_do, if_neg (by simp), t_out, if_pos rfl, en, hlab]
        dsimp only
        rw [hF]
        dsimp only [Option.bind_some]
        rw [hz]
        congr 3
        simp only [List.length_append, List.length_cons, List.length_nil]
        omega
    · skip
      rw [if_neg (by decide), if_neg (by decide), if_neg (by decide), if_neg (by decide), if_neg (by decide), if_neg (by decide), if_pos rfl] at ho
      have h1z : (0 : Int) ≤ m := h1
      have h2z : m ≤ 1 := h2
      have hm : m = 0 ∨ m = 1 := by omega
      obtain rfl := empty_of h5
      obtain ⟨t0, rfl⟩ := one_w ks h3 h4
      have ho2 : ((placeW f t0).bind fun e => some ([⟨#[105, 110]⟩] ++ [labW m] ++ e ++ [⟨#[59]⟩])) = some ws := ho
      cases he : placeW f t0 with
      | none => rw [he] at ho2; cases ho2
      | some e =>
        rw [he] at ho2
        obtain rfl := Option.some.inj ho2
        have hA : AtW ts i (⟨#[105, 110]⟩ :: labW m :: (e ++ [⟨#[59]⟩])) := by simpa using h
        have hlab := label_at hm hA.tail
        obtain ⟨xn, jn, F, hw, hF⟩ := place_at ⟨#[59]⟩ he hA.tail.tail (by decide +kernel) semi_fol
        have hz := must_at hA.tail.tail.right (by decide +kernel)
        have e1 := txt_at hA (by decide +kernel)
        have t_if : eqS ⟨#[105, 110]⟩ ⟨#[105, 102]⟩ = false := by decide +kernel
        have t_while : eqS ⟨#[105, 110]⟩ ⟨#[119, 104, 105, 108, 101]⟩ = false := by decide +kernel
        have t_LH : (eqS ⟨#[105, 110]⟩ ⟨#[108, 111, 119]⟩ || eqS ⟨#[105, 110]⟩ ⟨#[104, 105, 103, 104]⟩) = false := by decide +kernel
        have t_do : eqS ⟨#[105, 110]⟩ ⟨#[100, 111]⟩ = false := by decide +kernel
        have t_out : eqS ⟨#[105, 110]⟩ ⟨#[111, 117, 116]⟩ = false := by decide +kernel
        have t_in : eqS ⟨#[105, 110]⟩ ⟨#[105, 110]⟩ = true := by decide +kernel
        refine ⟨F + 1, ?_⟩
        have en : (⟨i, false⟩ : St).next = ⟨i + 1, false⟩ := rfl
        unfold statF
        rw [e1, t_if, if_neg (by simp), t_while, if_neg (by simp), t_LH, if_neg (by simp), t_do, if_neg (by simp), t_out, if_neg (by simp), t_in, if_pos rfl, en, hlab]
        dsimp only
        rw [hw]
        dsimp only
        rw [hF]
        dsimp only [Option.bind_some]
        rw [hz]
        congr 3
        simp only [List.length_append, List.length_cons, List.length_nil]
        omega
    · skip
      rw [if_neg (by decide), if_neg (by decide), if_neg (by decide), if_neg (by decide), if_neg (by decide), if_neg (by decide), if_neg (by decide)] at ho
      have h1z : (0 : Int) ≤ m := h1
      have h2z : m ≤ 0 := h2
      obtain rfl : m = 0 := by omega
      obtain rfl := empty_of h5
      obtain ⟨t0, rfl⟩ := one_w ks h3 h4
      have ho2 : ((opnF f 0 t0).bind fun e => some ([⟨#[114, 101, 116, 117, 114, 110]⟩] ++ e ++ [⟨#[59]⟩])) = some ws := ho
      cases he : opnF f 0 t0 with
      | none => rw [he] at ho2; cases ho2
      | some e =>
        rw [he] at ho2
        obtain rfl := Option.some.inj ho2
        have hA : AtW ts i (⟨#[114, 101, 116, 117, 114, 110]⟩ :: (e ++ [⟨#[59]⟩])) := by simpa using h
        obtain ⟨F, hF⟩ := expr_at ⟨#[59]⟩ he hA.tail (by decide +kernel) semi_fol
        have hz := must_at hA.tail.right (by decide +kernel)
        have e1 := txt_at hA (by decide +kernel)
        have t_if : eqS ⟨#[114, 101, 116, 117, 114, 110]⟩ ⟨#[105, 102]⟩ = false := by decide +kernel
        have t_while : eqS ⟨#[114, 101, 116, 117, 114, 110]⟩ ⟨#[119, 104, 105, 108, 101]⟩ = false := by decide +kernel
        have t_LH : (eqS ⟨#[114, 101, 116, 117, 114, 110]⟩ ⟨#[108, 111, 119]⟩ || eqS ⟨#[114, 101, 116, 117, 114, 110]⟩ ⟨#[104, 105, 103, 104]⟩) = false := by decide +kernel
        have t_do : eqS ⟨#[114, 101, 116, 117, 114, 110]⟩ ⟨#[100, 111]⟩ = false := by decide +kernel
        have t_out : eqS ⟨#[114, 101, 116, 117, 114, 110]⟩ ⟨#[111, 117, 116]⟩ = false := by decide +kernel
        have t_in : eqS ⟨#[114, 101, 116, 117, 114, 110]⟩ ⟨#[105, 110]⟩ = false := by decide +kernel
        have t_return : eqS ⟨#[114, 101, 116, 117, 114, 110]⟩ ⟨#[114, 101, 116, 117, 114, 110]⟩ = true := by decide +kernel
        refine ⟨F + 1, ?_⟩
        have en : (⟨i, false⟩ : St).next = ⟨i + 1, false⟩ := rfl
        unfold statF
        rw [e1, t_if, if_neg (by simp), t_while, if_neg (by simp), t_LH, if_neg (by simp), t_do, if_neg (by simp), t_out, if_neg (by simp), t_in, if_neg (by simp), t_return, if_pos rfl, en, hF]
        dsimp only [Option.bind_some]
        rw [hz]
        congr 3
        simp only [List.length_append, List.length_cons, List.length_nil]
        omega
  · rw [if_neg hl] at ho; cases ho
/-- every block, every statement -/
theorem rts_all (ts : List Tok) : ∀ f, RTS ts f
  | 0 => ⟨fun _ _ _ h => by simp [blockW] at h, fun _ _ _ h => by simp [statW] at h⟩
  | f + 1 => ⟨fun t ws i ho h => block_rt (rts_all ts f) ho h, fun t ws i ho h hel => stat_rt (rts_all ts f) ho h hel⟩
end
end pr
namespace syn
open Go.Proofs.YtoobkaebahogdaaGreatDoor.lexs (Tok)
section
variable {ts : List Tok}
theorem paramsL_mono : ∀ (f : Nat) (ks : List Tree) (s : St) R, paramsL ts f ks s = some R → paramsL ts (f + 1) ks s = some R
  | 0, _, _, _, h => by simp [paramsL] at h
  | f + 1, ks, s, R, h => by
    unfold paramsL at h ⊢
    by_cases h1 : eqS (txt ts (name ts (label ts s).2).2) ⟨#[44]⟩ = true
    · rw [if_pos h1] at h ⊢; exact paramsL_mono f _ _ _ h
    · rw [if_neg h1] at h ⊢; exact h
theorem paramsL_le {f g : Nat} (h : f ≤ g) {ks s R} (e : paramsL ts f ks s = some R) : paramsL ts g ks s = some R := by
  induction h with
  | refl => exact e
  | step _ ih => exact paramsL_mono _ _ _ _ ih
theorem params_le {f g : Nat} (h : f ≤ g) {s R} (e : params ts f s = some R) : params ts g s = some R := by
  unfold params at e ⊢
  by_cases h1 : eqS (txt ts s) ⟨#[41]⟩ = true
  · rw [if_pos h1] at e ⊢; exact e
  · rw [if_neg h1] at e ⊢; exact paramsL_le h e
theorem decl_le {f g : Nat} (h : f ≤ g) {s R} (e : declF ts f s = some R) : declF ts g s = some R := by
  unfold declF at e ⊢
  by_cases h1 : eqS (txt ts (pubS ts s)) ⟨#[112, 114, 111, 99]⟩ = true
  · rw [if_pos h1] at e ⊢
    exact bind_mono e (fun p hp => params_le h hp) (fun p hp => bind_mono hp (fun b hb => block_le h hb) (fun b hb => hb))
  · rw [if_neg h1] at e ⊢; exact e
/-- who answers with two fuels answers the same -/
theorem decl_one {f g : Nat} {s : St} {R Q : Tree × St} (h1 : declF ts f s = some R) (h2 : declF ts g s = some Q) : R = Q := by
  have a := decl_le (Nat.le_max_left f g) h1
  have b := decl_le (Nat.le_max_right f g) h2
  rw [a] at b
  exact Option.some.inj b
end
end syn
namespace pr
open Go.Proofs.YtoobkaebahogdaaGreatDoor.syn Go.Proofs.YtoobkaebahogdaaGreatDoor.face Go.Proofs.YtoobkaebahogdaaGreatDoor.chk
open Go.Proofs.YtoobkaebahogdaaGreatDoor.lexs (Tok val digB ltrI digI)
section
variable {ts : List Tok} {f i : Nat} {t : Tree} {ws : List ByteArray}
theorem par_parts (h : parW t = some ws) : ∃ x m, t = .node 5 x m [] ∧ ws = [labW m, x] ∧ isName x = true ∧ (m = 0 ∨ m = 1) := by
  obtain ⟨k, x, m, ks⟩ := t
  unfold parW at h
  dsimp only at h
  by_cases hl : lookB [5] (.node k x m ks) = true
  · rw [if_pos hl] at h
    obtain rfl := Option.some.inj h
    unfold lookB at hl
    simp only [Bool.and_eq_true, decide_eq_true_eq] at hl
    obtain ⟨⟨⟨⟨⟨hc, h1⟩, h2⟩, h3⟩, h4⟩, h5⟩ := hl
    obtain rfl : k = 5 := by
      have := List.contains_iff_mem.1 hc
      simpa using this
    have h1z : (0 : Int) ≤ m := h1
    have h2z : m ≤ 1 := h2
    have h4' : (ks.length : Int) ≤ 0 := h4
    obtain rfl : ks = [] := List.eq_nil_of_length_eq_zero (by omega)
    exact ⟨x, m, rfl, rfl, text_name h5, by omega⟩
  · rw [if_neg hl] at h; cases h
theorem params_items : ∀ (r : List Tree) (t0 : Tree) (a tl : List ByteArray) (k : Nat) (done : List Tree) (i : Nat) (z : List ByteArray), parW t0 = some a → itemsF parW (k + 1) r = some tl → AtW ts i (a ++ tl ++ ⟨#[41]⟩ :: z) → ∃ F, paramsL ts F done ⟨i, false⟩ = some (done ++ t0 :: r, ⟨i + (a.length + tl.length), false⟩)
  | [], t0, a, tl, k, done, i, z, ha, ht, h => by
    have e0 : tl = [] := (Option.some.inj ht).symm
    subst e0
    obtain ⟨x, m, rfl, rfl, hx, hm⟩ := par_parts ha
    have hA : AtW ts i (labW m :: x :: ⟨#[41]⟩ :: z) := by simpa using h
    have hlab := label_at hm hA
    have hnm := name_at hA.tail hx
    have ez := txt_at hA.tail.tail (by decide +kernel)
    have n1 : eqS ⟨#[41]⟩ ⟨#[44]⟩ = false := by decide +kernel
    refine ⟨1, ?_⟩
    unfold paramsL
    rw [hlab]
    dsimp only
    rw [hnm]
    dsimp only
    rw [ez, n1, if_neg (by simp)]
    rfl
  | t1 :: r, t0, a, tl, k, done, i, z, ha, ht, h => by
    unfold itemsF at ht
    cases ha1 : parW t1 with
    | none => rw [ha1] at ht; cases ht
    | some a1 =>
      rw [ha1] at ht
      cases ht1 : itemsF parW (k + 1 + 1) r with
      | none => simp only [Option.bind_some, ht1] at ht; cases ht
      | some tl1 =>
        simp only [Option.bind_some, ht1, Option.some.injEq] at ht
        rw [if_neg (by omega)] at ht
        subst ht
        obtain ⟨x, m, rfl, rfl, hx, hm⟩ := par_parts ha
        have hA : AtW ts i (labW m :: x :: ⟨#[44]⟩ :: (a1 ++ tl1 ++ ⟨#[41]⟩ :: z)) := by simpa using h
        have hlab := label_at hm hA
        have hnm := name_at hA.tail hx
        have ez := txt_at hA.tail.tail (by decide +kernel)
        have n1 : eqS ⟨#[44]⟩ ⟨#[44]⟩ = true := by decide +kernel
        obtain ⟨G, hG⟩ := params_items r t1 a1 tl1 (k + 1) (done ++ [.node 5 x m []]) _ z ha1 ht1 hA.tail.tail.tail
        refine ⟨G + 1, ?_⟩
        unfold paramsL
        rw [hlab]
        dsimp only
        rw [hnm]
        dsimp only
        rw [ez, n1, if_pos rfl]
        show paramsL ts G (done ++ [.node 5 x m []]) ⟨i + 1 + 1 + 1, false⟩ = _
        rw [hG]
        have e1 : done ++ [Tree.node 5 x m []] ++ t1 :: r = done ++ .node 5 x m [] :: t1 :: r := by simp
        rw [e1]
        congr 3
        simp only [List.length_append, List.length_cons, List.length_nil]
        omega
/-- parameters in parentheses -/
theorem params_at {ps : List Tree} {p z : List ByteArray} (hp : roundF parW ps = some p) (h : AtW ts i (p ++ z)) : ∃ F j, params ts F (must ts ⟨#[40]⟩ ⟨i, false⟩) = some (ps, ⟨j, false⟩) ∧ must ts ⟨#[41]⟩ ⟨j, false⟩ = ⟨i + p.length, false⟩ := by
  unfold roundF at hp
  cases hc : itemsF parW 0 ps with
  | none => rw [hc] at hp; cases hp
  | some c =>
    rw [hc] at hp
    obtain rfl := Option.some.inj hp
    have hA : AtW ts i (⟨#[40]⟩ :: (c ++ ⟨#[41]⟩ :: z)) := by simpa using h
    have hm := must_at hA (by decide +kernel)
    have hlen : i + ([(⟨#[40]⟩ : ByteArray)] ++ c ++ [(⟨#[41]⟩ : ByteArray)]).length = i + 1 + c.length + 1 := by simp; omega
    rw [hlen, hm]
    have hz := must_at hA.tail.right (by decide +kernel)
    cases ps with
    | nil =>
      obtain rfl := (Option.some.inj hc)
      have e := txt_at (r := z) hA.tail (by decide +kernel)
      have n1 : eqS ⟨#[41]⟩ ⟨#[41]⟩ = true := by decide +kernel
      refine ⟨0, i + 1, ?_, hz⟩
      unfold params
      rw [e, n1, if_pos rfl]
    | cons t0 r =>
      unfold itemsF at hc
      cases ha : parW t0 with
      | none => rw [ha] at hc; cases hc
      | some a =>
        rw [ha] at hc
        cases ht : itemsF parW (0 + 1) r with
        | none => simp only [Option.bind_some, ht] at hc; cases hc
        | some tl =>
          simp only [Option.bind_some, ht, Option.some.injEq, if_true, List.nil_append] at hc
          subst hc
          obtain ⟨F, hF⟩ := params_items r t0 a tl 0 [] _ z ha ht hA.tail
          obtain ⟨x, m, rfl, rfl, hx, hmm⟩ := par_parts ha
          have hdm : digW (labW m) = false := by rcases hmm with rfl | rfl <;> decide +kernel
          have e := txt_at (r := x :: (tl ++ ⟨#[41]⟩ :: z)) (by simpa using hA.tail) hdm
          have n1 : eqS (labW m) ⟨#[41]⟩ = false := by rcases hmm with rfl | rfl <;> decide +kernel
          refine ⟨F, i + 1 + ([labW m, x].length + tl.length), ?_, ?_⟩
          · unfold params
            rw [e, n1, if_neg (by simp)]
            exact hF
          · have := hz
            simp only [List.length_append] at this ⊢
            exact this
end
end pr
end Go.Proofs.YtoobkaebahogdaaGreatDoor
