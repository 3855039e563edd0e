/- Words are short, and so is what they are joined to. No Go in sight. -/
import Derived.Test.YtoobkaebahogdaaGreatDoorNB03
set_option linter.unusedVariables false
namespace Go.Proofs.YtoobkaebahogdaaGreatDoor
namespace pr
open Go.Proofs.YtoobkaebahogdaaGreatDoor.syn Go.Proofs.YtoobkaebahogdaaGreatDoor.face Go.Proofs.YtoobkaebahogdaaGreatDoor.chk
open Go.Proofs.YtoobkaebahogdaaGreatDoor.lexs (Tok val digB ltrI digI)
section
variable {ts : List Tok} {f i : Nat} {t : Tree} {ws : List ByteArray}
def pubW (m : Int) : List ByteArray := if m.toNat / 2 % 2 = 1 then [⟨#[112, 117, 98]⟩] else []
theorem pub_at {m : Int} {y : ByteArray} {r : List ByteArray} (h : AtW ts i (pubW m ++ y :: r)) (hd : digW y = false) (hy : eqS y ⟨#[112, 117, 98]⟩ = false) : pubS ts ⟨i, false⟩ = ⟨i + (pubW m).length, false⟩ ∧ pubN ts ⟨i, false⟩ = 2 * ((m.toNat / 2 % 2 : Nat) : Int) := by
  unfold pubW at h ⊢
  by_cases hb : m.toNat / 2 % 2 = 1
  · rw [if_pos hb] at h ⊢
    have e := txt_at (r := y :: r) h (by decide +kernel)
    have n : eqS ⟨#[112, 117, 98]⟩ ⟨#[112, 117, 98]⟩ = true := by decide +kernel
    unfold pubS pubN
    rw [e, n, if_pos rfl, if_pos rfl, hb]
    exact ⟨rfl, rfl⟩
  · rw [if_neg hb] at h ⊢
    have e := txt_at (r := r) h hd
    have h0 : m.toNat / 2 % 2 = 0 := by omega
    unfold pubS pubN
    rw [e, hy, if_neg (by simp), if_neg (by simp), h0]
    exact ⟨rfl, rfl⟩
theorem lab_lit {m : Int} (hm : m = 0 ∨ m = 1) : digW (labW m) = false ∧ eqS (labW m) ⟨#[112, 117, 98]⟩ = false ∧ eqS (labW m) ⟨#[112, 114, 111, 99]⟩ = false := by
  rcases hm with rfl | rfl <;> decide +kernel
theorem block_head (h : blockW f t = some ws) : ∃ r, ws = ⟨#[123]⟩ :: r := by
  cases f with
  | zero => simp [blockW] at h
  | succ f =>
    obtain ⟨k, x, m, ks⟩ := t
    unfold blockW at h
    by_cases hl : lookB [6] (.node k x m ks) = true
    · rw [if_pos hl] at h
      cases hb : seqF (statW f) ks with
      | none => rw [hb] at h; cases h
      | some b =>
        rw [hb] at h
        obtain rfl := Option.some.inj h
        exact ⟨_, rfl⟩
    · rw [if_neg hl] at h; cases h
/-- what stands between the parameters and the block -/
theorem gives_at {m n : Int} {r : List ByteArray} (h0 : 0 ≤ m) (h11 : m ≤ 11) (h : AtW ts i ([labW (m % 2)] ++ givW m ++ ⟨#[123]⟩ :: r)) : givesS ts ⟨i, false⟩ = ⟨i + 1 + (givW m).length, false⟩ ∧ givesN ts n ⟨i, false⟩ = n + m % 2 + 4 * ((m.toNat / 4 % 4 : Nat) : Int) := by
  have hA : AtW ts i (labW (m % 2) :: (givW m ++ ⟨#[123]⟩ :: r)) := by simpa using h
  have hl := label_at (by omega : m % 2 = 0 ∨ m % 2 = 1) hA
  unfold givesS givesN
  rw [hl]
  dsimp only
  have hT := hA.tail
  unfold givW at hT ⊢
  have hg : m.toNat / 4 % 4 = 0 ∨ m.toNat / 4 % 4 = 1 ∨ m.toNat / 4 % 4 = 2 := by omega
  rcases hg with hg | hg | hg
  · rw [hg] at hT ⊢
    have e := txt_at (r := r) hT (by decide +kernel)
    have n1 : eqS ⟨#[123]⟩ ⟨#[103, 105, 118, 101, 115]⟩ = false := by decide +kernel
    rw [e, n1]
    simp
  · rw [hg] at hT ⊢
    have e := txt_at (r := ⟨#[108, 111, 119]⟩ :: ⟨#[123]⟩ :: r) hT (by decide +kernel)
    have n1 : eqS ⟨#[103, 105, 118, 101, 115]⟩ ⟨#[103, 105, 118, 101, 115]⟩ = true := by decide +kernel
    have hT2 : AtW ts (i + 1) (⟨#[103, 105, 118, 101, 115]⟩ :: labW 0 :: ⟨#[123]⟩ :: r) := hT
    have hl2 := label_at (m := 0) (.inl rfl) hT2.tail
    have en : (⟨i + 1, false⟩ : St).next = ⟨i + 1 + 1, false⟩ := rfl
    rw [e, n1, if_pos rfl, if_pos rfl, en, hl2]
    refine ⟨rfl, ?_⟩
    show n + m % 2 + 4 + 4 * 0 = n + m % 2 + 4 * 1
    omega
  · rw [hg] at hT ⊢
    have e := txt_at (r := ⟨#[104, 105, 103, 104]⟩ :: ⟨#[123]⟩ :: r) hT (by decide +kernel)
    have n1 : eqS ⟨#[103, 105, 118, 101, 115]⟩ ⟨#[103, 105, 118, 101, 115]⟩ = true := by decide +kernel
    have hT2 : AtW ts (i + 1) (⟨#[103, 105, 118, 101, 115]⟩ :: labW 1 :: ⟨#[123]⟩ :: r) := hT
    have hl2 := label_at (m := 1) (.inr rfl) hT2.tail
    have en : (⟨i + 1, false⟩ : St).next = ⟨i + 1 + 1, false⟩ := rfl
    rw [e, n1, if_pos rfl, if_pos rfl, en, hl2]
    refine ⟨rfl, ?_⟩
    show n + m % 2 + 4 + 4 * 1 = n + m % 2 + 4 * 2
    omega
theorem last_of : ∀ (ks : List Tree), 1 ≤ ks.length → ks.take (ks.length - 1) ++ [ks.getD (ks.length - 1) noT] = ks := by
  intro ks h
  have hne : ks ≠ [] := fun e => by rw [e] at h; simp at h
  have e1 : ks.getD (ks.length - 1) noT = ks.getLast hne := by
    rw [List.getD_eq_getElem?_getD, List.getElem?_eq_getElem (by omega), List.getLast_eq_getElem]
    rfl
  rw [e1, ← List.dropLast_eq_take]
  exact List.dropLast_concat_getLast hne
theorem num_parts (h : numK t = some ws) : ∃ m, t = .node 15 empty m [] ∧ ws = [numW m] ∧ 0 ≤ m := by
  obtain ⟨k, x, m, ks⟩ := t
  unfold numK at h
  dsimp only at h
  by_cases hl : lookB [15] (.node k x m ks) = true
  · rw [if_pos hl] at h
    obtain rfl := Option.some.inj h
    unfold lookB at hl
    simp only [Bool.and_eq_true, decide_eq_true_eq] at hl
    obtain ⟨⟨⟨⟨⟨hc, h1⟩, h2⟩, h3⟩, h4⟩, h5⟩ := hl
    obtain rfl : k = 15 := by
      have := List.contains_iff_mem.1 hc
      simpa using this
    have h4' : (ks.length : Int) ≤ 0 := h4
    obtain rfl : ks = [] := List.eq_nil_of_length_eq_zero (by omega)
    obtain rfl := empty_of h5
    exact ⟨m, rfl, rfl, h1⟩
  · rw [if_neg hl] at h; cases h
theorem var_rt {x : ByteArray} {m : Int} {ks : List Tree} {n : List ByteArray} (hx : isName x = true) (h0 : 0 ≤ m) (h3 : m ≤ 3) (hn : (ks = [] ∧ n = []) ∨ ∃ t0 w, ks = [t0] ∧ numK t0 = some w ∧ n = [⟨#[91]⟩] ++ w ++ [⟨#[93]⟩]) (h : AtW ts i (pubW m ++ [labW (m % 2)] ++ [x] ++ n ++ [⟨#[59]⟩])) :
    ∃ F, declF ts F ⟨i, false⟩ = some (.node 3 x m ks, ⟨i + (pubW m ++ [labW (m % 2)] ++ [x] ++ n ++ [(⟨#[59]⟩ : ByteArray)]).length, false⟩) := by
  have hm2 : m % 2 = 0 ∨ m % 2 = 1 := by omega
  obtain ⟨d1, d2, d3⟩ := lab_lit hm2
  have hA : AtW ts i (pubW m ++ labW (m % 2) :: (x :: (n ++ [⟨#[59]⟩]))) := by simpa using h
  obtain ⟨p1, p2⟩ := pub_at hA d1 d2
  have hB := hA.right
  have e1 := txt_at hB d1
  have hl := label_at hm2 hB
  have hnm := name_at hB.tail hx
  have hC := hB.tail.tail
  have hv : varS ts ⟨i + (pubW m).length + 1 + 1, false⟩ = (ks, ⟨i + (pubW m).length + 1 + 1 + n.length, false⟩) := by
    rcases hn with ⟨rfl, rfl⟩ | ⟨t0, w, rfl, hw, rfl⟩
    · have e := txt_at (r := []) hC (by decide +kernel)
      have n1 : eqS ⟨#[59]⟩ ⟨#[91]⟩ = false := by decide +kernel
      unfold varS
      rw [e, n1]
      rfl
    · obtain ⟨q, rfl, rfl, hq⟩ := num_parts hw
      have hD : AtW ts (i + (pubW m).length + 1 + 1) (⟨#[91]⟩ :: numW q :: ⟨#[93]⟩ :: [⟨#[59]⟩]) := by simpa using hC
      have e := txt_at hD (by decide +kernel)
      have n1 : eqS ⟨#[91]⟩ ⟨#[91]⟩ = true := by decide +kernel
      have hnum := number_at hq hD.tail
      have hmm := must_at hD.tail.tail (by decide +kernel)
      have en : (⟨i + (pubW m).length + 1 + 1, false⟩ : St).next = ⟨i + (pubW m).length + 1 + 1 + 1, false⟩ := rfl
      unfold varS
      rw [e, n1, if_pos rfl, en, hnum]
      dsimp only
      rw [hmm]
      rfl
  have hz := must_at hC.right (by decide +kernel)
  refine ⟨0, ?_⟩
  unfold declF
  rw [p1, e1, d3, if_neg (by simp), hl]
  dsimp only
  rw [hnm]
  dsimp only
  rw [hv]
  dsimp only
  rw [hz, p2]
  have e3 : 2 * ((m.toNat / 2 % 2 : Nat) : Int) + m % 2 = m := by omega
  rw [e3]
  congr 3
  simp only [List.length_append, List.length_cons, List.length_nil]
  omega
theorem proc_rt {x : ByteArray} {m : Int} {ps : List Tree} {tb : Tree} {p b : List ByteArray} (hx : isName x = true) (h0 : 0 ≤ m) (h11 : m ≤ 11) (hp : roundF parW ps = some p) (hb : blockW f tb = some b) (h : AtW ts i (pubW m ++ [⟨#[112, 114, 111, 99]⟩, x] ++ p ++ [labW (m % 2)] ++ givW m ++ b)) :
    ∃ F, declF ts F ⟨i, false⟩ = some (.node 4 x m (ps ++ [tb]), ⟨i + (pubW m ++ [(⟨#[112, 114, 111, 99]⟩ : ByteArray), x] ++ p ++ [labW (m % 2)] ++ givW m ++ b).length, false⟩) := by
  have hA : AtW ts i (pubW m ++ ⟨#[112, 114, 111, 99]⟩ :: (x :: (p ++ ([labW (m % 2)] ++ givW m ++ b)))) := by simpa using h
  obtain ⟨p1, p2⟩ := pub_at hA (by decide +kernel) (by decide +kernel)
  have hB := hA.right
  have e1 := txt_at hB (by decide +kernel)
  have n1 : eqS ⟨#[112, 114, 111, 99]⟩ ⟨#[112, 114, 111, 99]⟩ = true := by decide +kernel
  have hnm := name_at hB.tail hx
  have hC := hB.tail.tail
  obtain ⟨F, j, hF, hj⟩ := params_at hp hC
  have hD := hC.right
  obtain ⟨rb, hrb⟩ := block_head hb
  have hD2 : AtW ts (i + (pubW m).length + 1 + 1 + p.length) ([labW (m % 2)] ++ givW m ++ ⟨#[123]⟩ :: rb) := by rw [← hrb]; exact hD
  obtain ⟨g1, g2⟩ := gives_at (n := 2 * ((m.toNat / 2 % 2 : Nat) : Int)) h0 h11 hD2
  have hE : AtW ts (i + (pubW m).length + 1 + 1 + p.length + ([labW (m % 2)] ++ givW m).length) b := hD.right
  have hE2 : AtW ts (i + (pubW m).length + 1 + 1 + p.length + 1 + (givW m).length) b := by
    have : i + (pubW m).length + 1 + 1 + p.length + ([labW (m % 2)] ++ givW m).length = i + (pubW m).length + 1 + 1 + p.length + 1 + (givW m).length := by simp; omega
    rw [this] at hE
    exact hE
  obtain ⟨G, hG⟩ := (rts_all ts f).bk tb b _ hb hE2
  refine ⟨max F G, ?_⟩
  have en : (⟨i + (pubW m).length, false⟩ : St).next = ⟨i + (pubW m).length + 1, false⟩ := rfl
  unfold declF
  rw [p1, e1, n1, if_pos rfl, en, hnm]
  dsimp only
  rw [params_le (Nat.le_max_left F G) hF]
  dsimp only [Option.bind_some]
  rw [hj, g1, block_le (Nat.le_max_right F G) hG]
  dsimp only [Option.bind_some]
  rw [p2, g2]
  have e3 : 2 * ((m.toNat / 2 % 2 : Nat) : Int) + m % 2 + 4 * ((m.toNat / 4 % 4 : Nat) : Int) = m := by omega
  rw [e3]
  congr 3
  simp only [List.length_append, List.length_cons, List.length_nil]
  omega
theorem decl_rt (ho : declW f t = some ws) (h : AtW ts i ws) : ∃ F, declF ts F ⟨i, false⟩ = some (t, ⟨i + ws.length, false⟩) := by
  obtain ⟨k, x, m, ks⟩ := t
  unfold declW at ho
  dsimp only at ho
  by_cases hl : lookB [3, 4] (.node k x m ks) = true
  · rw [if_pos hl] at ho
    unfold lookB at hl
    simp only [Bool.and_eq_true, decide_eq_true_eq] at hl
    obtain ⟨⟨⟨⟨⟨hc, h1⟩, h2⟩, h3⟩, h4⟩, h5⟩ := hl
    have hk : k = 3 ∨ k = 4 := by
      have := List.contains_iff_mem.1 hc
      simpa using this
    rcases hk with rfl | rfl
    · rw [if_neg (by decide)] at ho
      have h4' : (ks.length : Int) ≤ 1 := h4
      cases ks with
      | nil =>
        dsimp only at ho
        obtain rfl := Option.some.inj ho
        have := var_rt (ks := []) (n := []) (text_name h5) h1 h2 (.inl ⟨rfl, rfl⟩) (by simpa [pubW] using h)
        simpa [pubW] using this
      | cons t0 r =>
        obtain rfl : r = [] := List.eq_nil_of_length_eq_zero (by simp only [List.length_cons] at h4'; omega)
        dsimp only at ho
        cases hw : numK t0 with
        | none => rw [hw] at ho; cases ho
        | some w =>
          rw [hw] at ho
          obtain rfl := Option.some.inj ho
          have := var_rt (ks := [t0]) (n := [⟨#[91]⟩] ++ w ++ [⟨#[93]⟩]) (text_name h5) h1 h2 (.inr ⟨t0, w, rfl, hw, rfl⟩) (by simpa [pubW] using h)
          simpa [pubW] using this
    · rw [if_pos rfl] at ho
      have h3' : (1 : Int) ≤ ks.length := h3
      cases hp : roundF parW (ks.take (ks.length - 1)) with
      | none => rw [hp] at ho; cases ho
      | some p =>
        rw [hp] at ho
        cases hb : blockW f (ks.getD (ks.length - 1) noT) with
        | none => simp only [Option.bind_some, hb] at ho; cases ho
        | some b =>
          simp only [Option.bind_some, hb, Option.some.injEq] at ho
          have e : pubW m ++ [⟨#[112, 114, 111, 99]⟩, x] ++ p ++ [labW (m % 2)] ++ givW m ++ b = ws := ho
          subst e
          have := proc_rt (text_name h5) h1 h2 hp hb h
          rw [last_of ks (by omega)] at this
          exact this
  · rw [if_neg hl] at ho; cases ho
/-! a module -/
theorem imp_parts (h : impW t = some ws) : ∃ x, t = .node 2 x 0 [] ∧ ws = [⟨#[105, 109, 112, 111, 114, 116]⟩, x, ⟨#[59]⟩] ∧ isName x = true := by
  obtain ⟨k, x, m, ks⟩ := t
  unfold impW at h
  dsimp only at h
  by_cases hl : lookB [2] (.node k x m ks) = true
  · rw [if_pos hl] at h
    obtain rfl := Option.some.inj h
    unfold lookB at hl
    simp only [Bool.and_eq_true, decide_eq_true_eq] at hl
    obtain ⟨⟨⟨⟨⟨hc, h1⟩, h2⟩, h3⟩, h4⟩, h5⟩ := hl
    obtain rfl : k = 2 := by
      have := List.contains_iff_mem.1 hc
      simpa using this
    have h1z : (0 : Int) ≤ m := h1
    have h2z : m ≤ 0 := h2
    obtain rfl : m = 0 := by omega
    have h4' : (ks.length : Int) ≤ 0 := h4
    obtain rfl : ks = [] := List.eq_nil_of_length_eq_zero (by omega)
    exact ⟨x, rfl, rfl, text_name h5⟩
  · rw [if_neg hl] at h; cases h
end
section
variable {ts : List Tok} {f i : Nat} {t : Tree} {ws : List ByteArray}
theorem imports_at : ∀ (l : List Tree) (a : List ByteArray) (done : List Tree) (i F : Nat), seqF impW l = some a → AtW ts i a → eqS (txt ts ⟨i + a.length, false⟩) ⟨#[105, 109, 112, 111, 114, 116]⟩ = false → l.length + 1 ≤ F → importsL ts F done ⟨i, false⟩ = some (done ++ l, ⟨i + a.length, false⟩)
  | [], a, done, i, F, ha, h, hn, hF => by
    obtain rfl := (Option.some.inj ha)
    obtain ⟨G, rfl⟩ : ∃ G, F = G + 1 := ⟨F - 1, by omega⟩
    unfold importsL
    have hn' : eqS (txt ts ⟨i, false⟩) ⟨#[105, 109, 112, 111, 114, 116]⟩ = false := hn
    rw [hn', if_neg (by simp), List.append_nil]
    rfl
  | t :: l, a, done, i, F, ha, h, hn, hF => by
    unfold seqF at ha
    cases h1 : impW t with
    | none => rw [h1] at ha; cases ha
    | some a1 =>
      rw [h1] at ha
      cases h2 : seqF impW l with
      | none => simp only [Option.bind_some, h2] at ha; cases ha
      | some a2 =>
        simp only [Option.bind_some, h2, Option.some.injEq] at ha
        subst ha
        obtain ⟨x, rfl, rfl, hx⟩ := imp_parts h1
        have hA : AtW ts i (⟨#[105, 109, 112, 111, 114, 116]⟩ :: x :: ⟨#[59]⟩ :: a2) := h
        have e := txt_at hA (by decide +kernel)
        have n1 : eqS ⟨#[105, 109, 112, 111, 114, 116]⟩ ⟨#[105, 109, 112, 111, 114, 116]⟩ = true := by decide +kernel
        have hnm := name_at hA.tail hx
        have hz := must_at hA.tail.tail (by decide +kernel)
        obtain ⟨G, rfl⟩ : ∃ G, F = G + 1 := ⟨F - 1, by omega⟩
        have e3 : i + ([(⟨#[105, 109, 112, 111, 114, 116]⟩ : ByteArray), x, (⟨#[59]⟩ : ByteArray)] ++ a2).length = i + 1 + 1 + 1 + a2.length := by simp; omega
        rw [e3] at hn ⊢
        have hr := imports_at l a2 (done ++ [.node 2 x 0 []]) (i + 1 + 1 + 1) G h2 hA.tail.tail.tail hn (by simp only [List.length_cons] at hF; omega)
        have en : (⟨i, false⟩ : St).next = ⟨i + 1, false⟩ := rfl
        unfold importsL
        rw [e, n1, if_pos rfl, en, hnm]
        dsimp only
        rw [hz, hr]
        simp
/-- the first word of a declaration -/
theorem decl_head (ho : declW f t = some ws) : ∃ y r, ws = y :: r ∧ digW y = false ∧ eqS y ⟨#[105, 109, 112, 111, 114, 116]⟩ = false := by
  obtain ⟨k, x, m, ks⟩ := t
  have key : ∀ (y : ByteArray) (z : List ByteArray), digW y = false → eqS y ⟨#[105, 109, 112, 111, 114, 116]⟩ = false → ∃ y' r, (if m.toNat / 2 % 2 = 1 then [⟨#[112, 117, 98]⟩] else []) ++ y :: z = y' :: r ∧ digW y' = false ∧ eqS y' ⟨#[105, 109, 112, 111, 114, 116]⟩ = false := fun y z h1 h2 => by
    by_cases hb : m.toNat / 2 % 2 = 1
    · rw [if_pos hb]; exact ⟨_, _, rfl, by decide +kernel, by decide +kernel⟩
    · rw [if_neg hb]; exact ⟨_, _, rfl, h1, h2⟩
  have hlab : digW (labW (m % 2)) = false ∧ eqS (labW (m % 2)) ⟨#[105, 109, 112, 111, 114, 116]⟩ = false := by
    rcases (by omega : m % 2 = 0 ∨ m % 2 = 1) with e | e <;> rw [e] <;> decide +kernel
  unfold declW at ho
  dsimp only at ho
  by_cases hl : lookB [3, 4] (.node k x m ks) = true
  · rw [if_pos hl] at ho
    by_cases hk : k = 4
    · rw [if_pos hk] at ho
      cases hp : roundF parW (ks.take (ks.length - 1)) with
      | none => rw [hp] at ho; cases ho
      | some p =>
        rw [hp] at ho
        cases hb : blockW f (ks.getD (ks.length - 1) noT) with
        | none => simp only [Option.bind_some, hb] at ho; cases ho
        | some b =>
          simp only [Option.bind_some, hb, Option.some.injEq] at ho
          subst ho
          obtain ⟨y, r, e, h1, h2⟩ := key ⟨#[112, 114, 111, 99]⟩ ([x] ++ p ++ [labW (m % 2)] ++ givW m ++ b) (by decide +kernel) (by decide +kernel)
          exact ⟨y, r, by rw [← e]; simp, h1, h2⟩
    · rw [if_neg hk] at ho
      cases ks with
      | nil =>
        dsimp only at ho
        obtain rfl := Option.some.inj ho
        obtain ⟨y, r, e, h1, h2⟩ := key (labW (m % 2)) ([x] ++ [⟨#[59]⟩]) hlab.1 hlab.2
        exact ⟨y, r, by rw [← e]; simp, h1, h2⟩
      | cons t0 rr =>
        dsimp only at ho
        cases hw : numK t0 with
        | none => rw [hw] at ho; cases ho
        | some w =>
          rw [hw] at ho
          obtain rfl := Option.some.inj ho
          obtain ⟨y, r, e, h1, h2⟩ := key (labW (m % 2)) ([x] ++ [⟨#[91]⟩] ++ w ++ [⟨#[93]⟩] ++ [⟨#[59]⟩]) hlab.1 hlab.2
          exact ⟨y, r, by rw [← e]; simp, h1, h2⟩
  · rw [if_neg hl] at ho; cases ho
theorem decls_at (hf : ∀ j, ∃ q, declF ts 100000 ⟨j, false⟩ = some q) : ∀ (l : List Tree) (b : List ByteArray) (done : List Tree) (i F : Nat), seqF (declW f) l = some b → AtW ts i b → i + b.length = ts.length → l.length + 1 ≤ F → declsL ts F done ⟨i, false⟩ = some (done ++ l, ⟨ts.length, false⟩)
  | [], b, done, i, F, hb, h, hl, hF => by
    obtain rfl := (Option.some.inj hb)
    obtain ⟨G, rfl⟩ : ∃ G, F = G + 1 := ⟨F - 1, by omega⟩
    have hi : i = ts.length := hl
    unfold declsL
    rw [if_pos (by simp; omega), List.append_nil, hi]
  | t :: l, b, done, i, F, hb, h, hl, hF => by
    unfold seqF at hb
    cases h1 : declW f t with
    | none => rw [h1] at hb; cases hb
    | some b1 =>
      rw [h1] at hb
      cases h2 : seqF (declW f) l with
      | none => simp only [Option.bind_some, h2] at hb; cases hb
      | some b2 =>
        simp only [Option.bind_some, h2, Option.some.injEq] at hb
        subst hb
        obtain ⟨D, hD⟩ := decl_rt h1 h.left
        obtain ⟨q, hq⟩ := hf i
        have e := decl_one hD hq
        subst e
        obtain ⟨y, r, hy, _⟩ := decl_head h1
        have hpos : 1 ≤ b1.length := by rw [hy]; simp
        rw [List.length_append] at hl
        have hr := decls_at hf l b2 (done ++ [t]) (i + b1.length) (F - 1) h2 h.right (by omega) (by simp only [List.length_cons] at hF; omega)
        obtain ⟨G, rfl⟩ : ∃ G, F = G + 1 := ⟨F - 1, by omega⟩
        unfold declsL
        rw [if_neg (by simp; omega), hq]
        show declsL ts G (done ++ [t]) ⟨i + b1.length, false⟩ = _
        rw [show G = G + 1 - 1 from rfl, hr]
        simp
/-- THE MODULE: what the writer has written of it is read as it -/
theorem module_rt (hf : ∀ j, ∃ q, declF ts 100000 ⟨j, false⟩ = some q) (ho : moduleW f t = some ws) (h : AtW ts 0 ws) (hlen : ts.length = ws.length) : moduleF ts = some (t, ⟨ts.length, false⟩) := by
  obtain ⟨k, x, m, ks⟩ := t
  unfold moduleW at ho
  dsimp only at ho
  by_cases hl : lookB [1] (.node k x m ks) = true
  · rw [if_pos hl] at ho
    cases ha : seqF impW (ks.takeWhile impB) with
    | none => rw [ha] at ho; cases ho
    | some a =>
      rw [ha] at ho
      cases hb : seqF (declW f) (ks.dropWhile impB) with
      | none => simp only [Option.bind_some, hb] at ho; cases ho
      | some b =>
        simp only [Option.bind_some, hb, Option.some.injEq] at ho
        subst ho
        unfold lookB at hl
        simp only [Bool.and_eq_true, decide_eq_true_eq] at hl
        obtain ⟨⟨⟨⟨⟨hc, h1⟩, h2⟩, h3⟩, h4⟩, h5⟩ := hl
        obtain rfl : k = 1 := by
          have := List.contains_iff_mem.1 hc
          simpa using this
        have h1z : (0 : Int) ≤ m := h1
        have h2z : m ≤ 0 := h2
        obtain rfl : m = 0 := by omega
        have h4' : (ks.length : Int) ≤ 500 := h4
        have hA : AtW ts 0 (⟨#[109, 111, 100, 117, 108, 101]⟩ :: x :: ⟨#[59]⟩ :: (a ++ b)) := by simpa using h
        have hm := must_at hA (by decide +kernel)
        have hnm := name_at hA.tail (text_name h5)
        have hz := must_at hA.tail.tail (by decide +kernel)
        have hT : AtW ts (0 + 1 + 1 + 1) (a ++ b) := hA.tail.tail.tail
        have hlen' : ts.length = 3 + a.length + b.length := by rw [hlen]; simp; omega
        have hkl : (ks.takeWhile impB).length + (ks.dropWhile impB).length = ks.length := by
          rw [← List.length_append, List.takeWhile_append_dropWhile]
        have hni : eqS (txt ts ⟨0 + 1 + 1 + 1 + a.length, false⟩) ⟨#[105, 109, 112, 111, 114, 116]⟩ = false := by
          cases hd : ks.dropWhile impB with
          | nil =>
            rw [hd] at hb
            obtain rfl := (Option.some.inj hb)
            have : ts[0 + 1 + 1 + 1 + a.length]? = none := List.getElem?_eq_none (by rw [hlen']; simp <;> omega)
            unfold txt here
            simp only [Bool.false_eq_true, if_false, this]
            decide +kernel
          | cons t1 r1 =>
            rw [hd] at hb
            unfold seqF at hb
            cases hb1 : declW f t1 with
            | none => rw [hb1] at hb; cases hb
            | some b1 =>
              rw [hb1] at hb
              cases hb2 : seqF (declW f) r1 with
              | none => simp only [Option.bind_some, hb2] at hb; cases hb
              | some b2 =>
                simp only [Option.bind_some, hb2, Option.some.injEq] at hb
                subst hb
                obtain ⟨y, r, rfl, hd1, hd2⟩ := decl_head hb1
                rw [txt_at (r := r ++ b2) hT.right hd1]
                exact hd2
        have hI := imports_at (ks.takeWhile impB) a [] (0 + 1 + 1 + 1) 4000 ha hT.left hni (by omega)
        have hD := decls_at hf (ks.dropWhile impB) b ([] ++ ks.takeWhile impB) (0 + 1 + 1 + 1 + a.length) 4000 hb hT.right (by omega) (by omega)
        have hH : headS ts = ⟨0 + 1 + 1 + 1, false⟩ := by
          unfold headS
          rw [hm, hnm]
          exact hz
        have hX : headX ts = x := by
          unfold headX
          rw [hm, hnm]
        unfold moduleF
        rw [hH, hI]
        dsimp only [Option.bind_some]
        rw [hD]
        dsimp only [Option.bind_some]
        rw [hX, List.nil_append, List.takeWhile_append_dropWhile]
  · rw [if_neg hl] at ho; cases ho
end
end pr
namespace lexs

theorem run_blank (x : List UInt8) (h : ∀ c ∈ x, insB c = true) (R : List UInt8) : run insB (x ++ 32 :: R) = x.length := by
  induction x with
  | nil => simp only [List.nil_append, run]; rw [List.takeWhile_cons, if_neg (by decide)]
  | cons c x ih =>
    have hc := h c (by simp)
    have := ih (fun d hd => h d (by simp [hd]))
    unfold run at this ⊢
    rw [List.cons_append, List.takeWhile_cons, if_pos hc, List.length_cons, List.length_cons, this]
theorem headD_app (x R : List UInt8) (h : x ≠ []) : (x ++ R).headD 0 = x.headD 0 := by
  cases x with
  | nil => exact absurd rfl h
  | cons c x => simp
end lexs
namespace pr
open Go.Proofs.YtoobkaebahogdaaGreatDoor.syn Go.Proofs.YtoobkaebahogdaaGreatDoor.face Go.Proofs.YtoobkaebahogdaaGreatDoor.chk
open Go.Proofs.YtoobkaebahogdaaGreatDoor.lexs
/-- a word that is read as itself, whatever follows behind a blank, or nothing -/
def WordOk (y : ByteArray) : Prop := ∃ k : Int, y.data.toList ≠ [] ∧ (∀ R, stepL (y.data.toList ++ 32 :: R) = .tok k y.data.toList.length) ∧ stepL y.data.toList = .tok k y.data.toList.length ∧ (k == 2) = digW y
theorem run_all (x : List UInt8) (h : ∀ c ∈ x, insB c = true) : run insB x = x.length := run_eq insB x x.length (fun j hj _ => h _ (List.getElem_mem hj)) (.inl rfl)
theorem word_letters (y : ByteArray) (b : UInt8) (r : List UInt8) (e : y.data.toList = b :: r) (hb : ltrB b = true) (hall : ∀ c ∈ b :: r, insB c = true) (hl : (b :: r).length ≤ 16) : WordOk y := by
  have hn : (b == 32 || b == 10) = false ∧ (b == 35) = false ∧ digB b = false := by
    unfold ltrB ltrI at hb
    simp only [Bool.or_eq_true, decide_eq_true_eq] at hb
    refine ⟨?_, ?_, ?_⟩
    · simp only [Bool.or_eq_false_iff, beq_eq_false_iff_ne, ne_eq]
      constructor <;> (intro e; subst e; simp at hb)
    · simp only [beq_eq_false_iff_ne, ne_eq]
      intro e; subst e; simp at hb
    · unfold digB digI
      simp only [decide_eq_false_iff_not]
      omega
  refine ⟨1, by rw [e]; simp, fun R => ?_, ?_, ?_⟩
  · rw [e]
    have hr := run_blank (b :: r) hall R
    unfold stepL
    rw [List.cons_append, List.headD_cons, stepB, hn.1, if_neg (by simp), hn.2.1, if_neg (by simp), hb, if_pos rfl]
    rw [List.cons_append] at hr
    rw [hr, if_neg (by omega)]
  · rw [e]
    have hr := run_all (b :: r) hall
    unfold stepL
    rw [List.headD_cons, stepB, hn.1, if_neg (by simp), hn.2.1, if_neg (by simp), hb, if_pos rfl, hr, if_neg (by omega)]
  · unfold digW
    rw [e]
    dsimp only
    rw [hn.2.2]
    rfl
theorem name_ok {x : ByteArray} (h : isName x = true) : WordOk x := by
  unfold isName at h
  simp only [Bool.and_eq_true, decide_eq_true_eq, List.all_eq_true] at h
  obtain ⟨⟨⟨⟨h1, h16⟩, hl⟩, hall⟩, _⟩ := h
  cases hd : x.data.toList with
  | nil =>
    have := len_L x
    rw [hd] at this
    simp at this
    omega
  | cons b r =>
    have hlen : (b :: r).length = x.size := by rw [← hd]; exact len_L x
    rw [hd] at hl hall
    exact word_letters x b r hd hl hall (by omega)
theorem dec_head : ∀ (u : Nat), u ≠ 0 → (Lib.decDigits u).headD 0 ≠ 48 := by
  intro u
  induction u using Nat.strongRecOn with
  | _ u ih =>
    intro h0
    rw [Lib.decDigits]
    by_cases h : u < 10
    · rw [dif_pos h, List.headD_cons]
      intro e
      have e2 : (UInt8.ofNat (48 + u)).toNat = 48 + u := by simp; omega
      have e3 : (UInt8.ofNat (48 + u)).toNat = (48 : UInt8).toNat := by rw [e]
      rw [e2] at e3
      simp at e3
      omega
    · rw [dif_neg h, headD_app _ _ (val_dec (u / 10)).2.2]
      exact ih (u / 10) (by omega) (by omega)
theorem dec_len (u : Nat) (h : u < 10) : (Lib.decDigits u).length = 1 := by
  rw [Lib.decDigits, dif_pos h]
  rfl
theorem num_ok {m : Int} (h0 : 0 ≤ m) (h1 : m ≤ 9223372036854775807) : WordOk (numW m) := by
  have e := num_list m h0
  obtain ⟨hv, hd, hne⟩ := val_dec m.toNat
  have hE : numE (Lib.decDigits m.toNat) = 0 := by
    rw [numE_val _ (by rw [List.all_eq_true]; exact hd) hne ?_, hv, if_pos (by omega)]
    by_cases hz : m.toNat < 10
    · rw [dec_len _ hz]; rfl
    · have := dec_head m.toNat (by omega)
      simp only [Bool.and_eq_false_iff, beq_eq_false_iff_ne, ne_eq]
      exact .inr this
  have hins : ∀ c ∈ Lib.decDigits m.toNat, insB c = true := fun c hc => digB_insB (hd c hc)
  obtain ⟨b, r, hbr⟩ := List.exists_cons_of_ne_nil hne
  rw [hbr] at e hE hins hd
  have hb := hd b (by simp)
  have hn : (b == 32 || b == 10) = false ∧ (b == 35) = false ∧ ltrB b = false := by
    have hb2 := dig_bounds hb
    refine ⟨?_, ?_, ?_⟩
    · simp only [Bool.or_eq_false_iff, beq_eq_false_iff_ne, ne_eq]
      constructor <;> (intro e; subst e; simp at hb2)
    · simp only [beq_eq_false_iff_ne, ne_eq]
      intro e; subst e; simp at hb2
    · unfold ltrB ltrI
      simp only [Bool.or_eq_false_iff, decide_eq_false_iff_not]
      omega
  refine ⟨2, by rw [e]; simp, fun R => ?_, ?_, ?_⟩
  · rw [e]
    have hr := run_blank (b :: r) hins R
    unfold stepL
    rw [List.cons_append, List.headD_cons, stepB, hn.1, if_neg (by simp), hn.2.1, if_neg (by simp), hn.2.2, if_neg (by simp), hb, if_pos rfl]
    rw [List.cons_append] at hr
    have ht : List.take (b :: r).length (b :: (r ++ 32 :: R)) = b :: r := by
      rw [← List.cons_append]
      exact List.take_left' rfl
    rw [hr, ht, hE]
    rfl
  · rw [e]
    have hr := run_all (b :: r) hins
    unfold stepL
    rw [List.headD_cons, stepB, hn.1, if_neg (by simp), hn.2.1, if_neg (by simp), hn.2.2, if_neg (by simp), hb, if_pos rfl, hr, List.take_length, hE]
    rfl
  · rw [num_dig m h0]
    rfl
/-- words with a blank between -/
def joinW : List ByteArray → List UInt8
  | [] => []
  | [y] => y.data.toList
  | y :: z :: r => y.data.toList ++ 32 :: joinW (z :: r)
theorem scan_words : ∀ (ws : List ByteArray) (f i : Nat) (acc : List Tok), (∀ y ∈ ws, WordOk y) → (joinW ws).length ≤ f → ∃ toks, scanL f (joinW ws) i acc = .ok (acc ++ toks) ∧ toks.length = ws.length ∧ ∀ j (h : j < ws.length), ∃ t, toks[j]? = some t ∧ t.text = (ws[j]).data.toList ∧ (t.kind == 2) = digW ws[j]
  | [], f, i, acc, _, _ => ⟨[], by show scanL f [] i acc = _; rw [scanL_end, List.append_nil], rfl, fun j h => by simp at h⟩
  | [y], f, i, acc, hw, hf => by
    obtain ⟨k, h1, _, h3, h4⟩ := hw y (by simp)
    have hf' : y.data.toList.length ≤ f := hf
    obtain ⟨b, r, e⟩ := List.exists_cons_of_ne_nil h1
    obtain ⟨g, rfl⟩ : ∃ g, f = g + 1 := ⟨f - 1, by have := List.length_pos_iff.2 h1; omega⟩
    refine ⟨[⟨k, y.data.toList, i⟩], ?_, rfl, fun j hj => ?_⟩
    · show scanL (g + 1) y.data.toList i acc = _
      have h3' := h3
      rw [e] at h3' ⊢
      rw [scanL_tok h3', List.drop_length, List.take_length, scanL_end]
    · obtain rfl : j = 0 := by simp at hj; omega
      exact ⟨_, rfl, rfl, h4⟩
  | y :: z :: rr, f, i, acc, hw, hf => by
    obtain ⟨k, h1, h2, _, h4⟩ := hw y (by simp)
    have hf' : (y.data.toList ++ 32 :: joinW (z :: rr)).length ≤ f := hf
    rw [List.length_append, List.length_cons] at hf'
    have hl := List.length_pos_iff.2 h1
    obtain ⟨g, rfl⟩ : ∃ g, f = g + 2 := ⟨f - 2, by omega⟩
    obtain ⟨toks, t1, t2, t3⟩ := scan_words (z :: rr) g (i + y.data.toList.length + 1) (acc ++ [⟨k, y.data.toList, i⟩]) (fun q hq => hw q (List.mem_cons_of_mem _ hq)) (by omega)
    refine ⟨⟨k, y.data.toList, i⟩ :: toks, ?_, by simp [t2], fun j hj => ?_⟩
    · show scanL (g + 2) (y.data.toList ++ 32 :: joinW (z :: rr)) i acc = _
      have h2' := h2 (joinW (z :: rr))
      obtain ⟨b, r, e⟩ := List.exists_cons_of_ne_nil (show y.data.toList ++ 32 :: joinW (z :: rr) ≠ [] by simp)
      rw [e] at h2'
      rw [e, scanL_tok h2', ← e, List.drop_left' rfl, List.take_left' rfl]
      have hs : stepL (32 :: joinW (z :: rr)) = .skip 1 := by rw [stepL, List.headD_cons, stepB, if_pos (by decide)]
      rw [scanL_skip hs]
      have : List.drop 1 (32 :: joinW (z :: rr)) = joinW (z :: rr) := rfl
      rw [this, t1]
      simp
    · cases j with
      | zero => exact ⟨_, rfl, rfl, h4⟩
      | succ j =>
        obtain ⟨t, q1, q2, q3⟩ := t3 j (by simpa using hj)
        exact ⟨t, by simpa using q1, by simpa using q2, by simpa using q3⟩
theorem scan_at (ws : List ByteArray) (hw : ∀ y ∈ ws, WordOk y) (hl : (joinW ws).length ≤ 3000) : ∃ toks, scan (joinW ws) = .ok toks ∧ toks.length = ws.length ∧ AtW toks 0 ws := by
  obtain ⟨toks, h1, h2, h3⟩ := scan_words ws (joinW ws).length 0 [] hw (Nat.le_refl _)
  refine ⟨toks, ?_, h2, fun j hj => ?_⟩
  · unfold scan
    rw [if_neg (by omega), h1]
    simp
  · obtain ⟨t, q1, q2, q3⟩ := h3 j hj
    exact ⟨t, by simpa using q1, q2, q3⟩
theorem lit_word (y : ByteArray) (h : (match y.data.toList with | [] => false | b :: r => ltrB b && (b :: r).all insB && decide ((b :: r).length ≤ 16)) = true) : WordOk y := by
  cases e : y.data.toList with
  | nil => rw [e] at h; cases h
  | cons b r =>
    rw [e] at h
    simp only [Bool.and_eq_true, decide_eq_true_eq, List.all_eq_true] at h
    exact word_letters y b r e h.1.1 h.1.2 h.2
def signC (c : UInt8) : Bool := !(c == 32 || c == 10) && !(c == 35) && !ltrB c && !digB c && ones.contains c
theorem sign_one (y : ByteArray) (c : UInt8) (e : y.data.toList = [c]) (h : signC c = true) : WordOk y := by
  unfold signC at h
  simp only [Bool.and_eq_true, Bool.not_eq_true'] at h
  obtain ⟨⟨⟨⟨h1, h2⟩, h3⟩, h4⟩, h5⟩ := h
  refine ⟨3, by rw [e]; simp, fun R => ?_, ?_, ?_⟩
  · rw [e]
    unfold stepL
    rw [List.cons_append, List.headD_cons, stepB, h1, if_neg (by simp), h2, if_neg (by simp), h3, if_neg (by simp), h4, if_neg (by simp)]
    have : signLen (c :: ([] ++ 32 :: R)) = 1 := by
      show (if (c == 61 && (32 : UInt8) == 61) = true then 2 else if ones.contains c = true then 1 else 0) = 1
      rw [if_neg (by simp), if_pos h5]
    rw [this]
    rfl
  · rw [e]
    unfold stepL
    rw [List.headD_cons, stepB, h1, if_neg (by simp), h2, if_neg (by simp), h3, if_neg (by simp), h4, if_neg (by simp)]
    have : signLen [c] = 1 := by
      show (if (c == 61 && (0 : UInt8) == 61) = true then 2 else if ones.contains c = true then 1 else 0) = 1
      rw [if_neg (by simp), if_pos h5]
    rw [this]
    rfl
  · unfold digW
    rw [e]
    dsimp only
    rw [h4]
    rfl
theorem sign_two : WordOk ⟨#[61, 61]⟩ := by
  refine ⟨3, by decide +kernel, fun R => ?_, rfl, by decide +kernel⟩
  show stepL (61 :: 61 :: 32 :: R) = .tok 3 2
  rfl
def AllW (ws : List ByteArray) : Prop := ∀ y ∈ ws, WordOk y
theorem AllW.app {a b : List ByteArray} (ha : AllW a) (hb : AllW b) : AllW (a ++ b) := fun y hy => by
  rcases List.mem_append.1 hy with h | h
  · exact ha y h
  · exact hb y h
theorem AllW.one {y : ByteArray} (h : WordOk y) : AllW [y] := fun z hz => by
  obtain rfl : z = y := by simpa using hz
  exact h
theorem AllW.nil : AllW [] := fun y hy => by cases hy
theorem AllW.cons {y : ByteArray} {r : List ByteArray} (h : WordOk y) (hr : AllW r) : AllW (y :: r) := AllW.app (AllW.one h) hr
theorem op_ok (m : Nat) (h1 : 1 ≤ m) (h9 : m ≤ 9) : WordOk (opAt m) := by
  have : m = 1 ∨ m = 2 ∨ m = 3 ∨ m = 4 ∨ m = 5 ∨ m = 6 ∨ m = 7 ∨ m = 8 ∨ m = 9 := by omega
  rcases this with rfl | rfl | rfl | rfl | rfl | rfl | rfl | rfl | rfl
  · exact sign_one _ 43 rfl (by decide +kernel)
  · exact sign_one _ 45 rfl (by decide +kernel)
  · exact sign_one _ 42 rfl (by decide +kernel)
  · exact sign_one _ 47 rfl (by decide +kernel)
  · exact sign_one _ 37 rfl (by decide +kernel)
  · exact sign_one _ 38 rfl (by decide +kernel)
  · exact sign_one _ 124 rfl (by decide +kernel)
  · exact sign_one _ 60 rfl (by decide +kernel)
  · exact sign_two
theorem w_open : WordOk ⟨#[40]⟩ := sign_one _ 40 rfl (by decide +kernel)
theorem w_close : WordOk ⟨#[41]⟩ := sign_one _ 41 rfl (by decide +kernel)
theorem w_bra : WordOk ⟨#[91]⟩ := sign_one _ 91 rfl (by decide +kernel)
theorem w_ket : WordOk ⟨#[93]⟩ := sign_one _ 93 rfl (by decide +kernel)
theorem w_begin : WordOk ⟨#[123]⟩ := sign_one _ 123 rfl (by decide +kernel)
theorem w_end : WordOk ⟨#[125]⟩ := sign_one _ 125 rfl (by decide +kernel)
theorem w_semi : WordOk ⟨#[59]⟩ := sign_one _ 59 rfl (by decide +kernel)
theorem w_comma : WordOk ⟨#[44]⟩ := sign_one _ 44 rfl (by decide +kernel)
theorem w_point : WordOk ⟨#[46]⟩ := sign_one _ 46 rfl (by decide +kernel)
theorem w_eq : WordOk ⟨#[61]⟩ := sign_one _ 61 rfl (by decide +kernel)
theorem w_minus : WordOk ⟨#[45]⟩ := sign_one _ 45 rfl (by decide +kernel)
theorem w_not : WordOk ⟨#[33]⟩ := sign_one _ 33 rfl (by decide +kernel)
theorem w_lab (m : Int) : WordOk (labW m) := by
  unfold labW
  by_cases h : m = 1
  · rw [if_pos h]; exact lit_word _ (by decide +kernel)
  · rw [if_neg h]; exact lit_word _ (by decide +kernel)
theorem words_ok {x : ByteArray} {l : List ByteArray} (hw : wordsF x = some l) : AllW l := by
  unfold wordsF at hw
  cases hc : cutL x.data.toList with
  | mk a ob =>
    rw [hc] at hw
    cases ob with
    | none =>
      dsimp only at hw
      by_cases hx : isName x = true
      · rw [if_pos hx] at hw
        obtain rfl := Option.some.inj hw
        exact AllW.one (name_ok hx)
      · rw [if_neg hx] at hw; cases hw
    | some bs =>
      dsimp only at hw
      by_cases hx : (isName ⟨a.toArray⟩ && isName ⟨bs.toArray⟩) = true
      · rw [if_pos hx] at hw
        obtain rfl := Option.some.inj hw
        rw [Bool.and_eq_true] at hx
        exact AllW.cons (name_ok hx.1) (AllW.cons w_point (AllW.one (name_ok hx.2)))
      · rw [if_neg hx] at hw; cases hw
theorem items_ok {g : Tree → Option (List ByteArray)} (hg : ∀ t a, g t = some a → AllW a) : ∀ (ks : List Tree) (k : Nat) (w : List ByteArray), itemsF g k ks = some w → AllW w
  | [], k, w, h => by obtain rfl := Option.some.inj h; exact AllW.nil
  | t :: r, k, w, h => by
    unfold itemsF at h
    cases h1 : g t with
    | none => rw [h1] at h; cases h
    | some a =>
      rw [h1] at h
      cases h2 : itemsF g (k + 1) r with
      | none => simp only [Option.bind_some, h2] at h; cases h
      | some b =>
        simp only [Option.bind_some, h2, Option.some.injEq] at h
        subst h
        refine AllW.app (AllW.app ?_ (hg t a h1)) (items_ok hg r (k + 1) b h2)
        by_cases hk : k = 0
        · rw [if_pos hk]; exact AllW.nil
        · rw [if_neg hk]; exact AllW.one w_comma
theorem round_ok {g : Tree → Option (List ByteArray)} (hg : ∀ t a, g t = some a → AllW a) {ks : List Tree} {w : List ByteArray} (h : roundF g ks = some w) : AllW w := by
  unfold roundF at h
  cases h1 : itemsF g 0 ks with
  | none => rw [h1] at h; cases h
  | some a =>
    rw [h1] at h
    obtain rfl := Option.some.inj h
    exact AllW.app (AllW.app (AllW.one w_open) (items_ok hg ks 0 a h1)) (AllW.one w_close)
theorem opn_ok : ∀ (f : Nat) (l : Int) (t : Tree) (a : List ByteArray), opnF f l t = some a → AllW a
  | 0, _, _, _, h => by simp [opnF] at h
  | f + 1, l, .node k x m ks, a, h => by
    have ih := opn_ok f
    have hbare : ∀ w, lookB exprKinds (.node k x m ks) = true → bareF (opnF f) (.node k x m ks) = some w → AllW w := fun w hl hw => by
      unfold lookB at hl
      simp only [Bool.and_eq_true, decide_eq_true_eq] at hl
      obtain ⟨⟨⟨⟨⟨_, h1⟩, h2⟩, h3⟩, h4⟩, h5⟩ := hl
      unfold bareF at hw
      dsimp only at hw
      by_cases h15 : k = 15
      · rw [if_pos h15] at hw
        subst h15
        obtain rfl := Option.some.inj hw
        exact AllW.one (num_ok h1 h2)
      rw [if_neg h15] at hw
      by_cases h16 : k = 16
      · rw [if_pos h16] at hw; exact words_ok hw
      rw [if_neg h16] at hw
      by_cases h17 : k = 17
      · rw [if_pos h17] at hw
        cases hn : wordsF x with
        | none => rw [hn] at hw; cases hw
        | some nm =>
          rw [hn] at hw
          cases he : opnF f 0 (ks.getD 0 noT) with
          | none => simp only [Option.bind_some, he] at hw; cases hw
          | some e =>
            simp only [Option.bind_some, he, Option.some.injEq] at hw
            subst hw
            exact AllW.app (AllW.app (AllW.app (words_ok hn) (AllW.one w_bra)) (ih _ _ _ he)) (AllW.one w_ket)
      rw [if_neg h17] at hw
      by_cases h18 : k = 18
      · rw [if_pos h18] at hw
        cases hn : wordsF x with
        | none => rw [hn] at hw; cases hw
        | some nm =>
          rw [hn] at hw
          cases he : itemsF (opnF f 0) 0 ks with
          | none => simp only [Option.bind_some, he] at hw; cases hw
          | some e =>
            simp only [Option.bind_some, he, Option.some.injEq] at hw
            subst hw
            exact AllW.app (AllW.app (AllW.app (words_ok hn) (AllW.one w_open)) (items_ok (fun t a h => ih 0 t a h) ks 0 e he)) (AllW.one w_close)
      rw [if_neg h18] at hw
      by_cases h19 : k = 19
      · rw [if_pos h19] at hw
        subst h19
        have h1' : (1 : Int) ≤ m := h1
        have h2' : m ≤ 9 := h2
        cases he : opnF f (max (opIs m.toNat) 1) (ks.getD 0 noT) with
        | none => rw [he] at hw; cases hw
        | some e =>
          rw [he] at hw
          cases he2 : opnF f (opIs m.toNat + 1) (ks.getD 1 noT) with
          | none => simp only [Option.bind_some, he2] at hw; cases hw
          | some e2 =>
            simp only [Option.bind_some, he2, Option.some.injEq] at hw
            subst hw
            exact AllW.app (AllW.app (ih _ _ _ he) (AllW.one (op_ok m.toNat (by omega) (by omega)))) (ih _ _ _ he2)
      rw [if_neg h19] at hw
      by_cases h20 : k = 20
      · rw [if_pos h20] at hw
        cases he : opnF f 3 (ks.getD 0 noT) with
        | none => rw [he] at hw; cases hw
        | some e =>
          rw [he] at hw
          obtain rfl := Option.some.inj hw
          exact AllW.app (AllW.one w_minus) (ih _ _ _ he)
      rw [if_neg h20] at hw
      cases he : opnF f 3 (ks.getD 0 noT) with
      | none => rw [he] at hw; cases hw
      | some e =>
        rw [he] at hw
        obtain rfl := Option.some.inj hw
        exact AllW.app (AllW.one w_not) (ih _ _ _ he)
    unfold opnF at h
    by_cases hl : lookB exprKinds (.node k x m ks) = true
    · rw [if_pos hl] at h
      by_cases hb : l ≤ bindsF k m
      · rw [if_pos hb] at h; exact hbare _ hl h
      · rw [if_neg hb] at h
        cases hw : bareF (opnF f) (.node k x m ks) with
        | none => rw [hw] at h; cases h
        | some w =>
          rw [hw] at h
          obtain rfl := Option.some.inj h
          exact AllW.app (AllW.app (AllW.one w_open) (hbare _ hl hw)) (AllW.one w_close)
    · rw [if_neg hl] at h; cases h
/-! statements, declarations, modules -/
theorem seq_ok {g : Tree → Option (List ByteArray)} (hg : ∀ t a, g t = some a → AllW a) : ∀ (ks : List Tree) (w : List ByteArray), seqF g ks = some w → AllW w
  | [], w, h => by obtain rfl := Option.some.inj h; exact AllW.nil
  | t :: r, w, h => by
    unfold seqF at h
    cases h1 : g t with
    | none => rw [h1] at h; cases h
    | some a =>
      rw [h1] at h
      cases h2 : seqF g r with
      | none => simp only [Option.bind_some, h2] at h; cases h
      | some b =>
        simp only [Option.bind_some, h2, Option.some.injEq] at h
        subst h
        exact AllW.app (hg t a h1) (seq_ok hg r b h2)
theorem place_ok {f : Nat} {t : Tree} {w : List ByteArray} (h : placeW f t = some w) : AllW w := by
  unfold placeW at h
  by_cases hl : lookB [16, 17] t = true
  · rw [if_pos hl] at h; exact opn_ok _ _ _ _ h
  · rw [if_neg hl] at h; cases h
theorem do_ok {f : Nat} {t : Tree} {w : List ByteArray} (h : doW f t = some w) : AllW w := by
  unfold doW at h
  by_cases hl : lookB [18] t = true
  · rw [if_pos hl] at h; exact opn_ok _ _ _ _ h
  · rw [if_neg hl] at h; cases h
theorem par_ok {t : Tree} {w : List ByteArray} (h : parW t = some w) : AllW w := by
  obtain ⟨x, m, rfl, rfl, hx, _⟩ := par_parts h
  exact AllW.cons (w_lab m) (AllW.one (name_ok hx))
structure SOk (f : Nat) : Prop where
  bk : ∀ t w, blockW f t = some w → AllW w
  st : ∀ t w, statW f t = some w → AllW w
theorem s_ok : ∀ f, SOk f
  | 0 => ⟨fun _ _ h => by simp [blockW] at h, fun _ _ h => by simp [statW] at h⟩
  | f + 1 => by
    have ih := s_ok f
    have io := fun t a h => opn_ok f 0 t a h
    refine ⟨fun t w h => ?_, fun t w h => ?_⟩
    · obtain ⟨k, x, m, ks⟩ := t
      unfold blockW at h
      by_cases hl : lookB [6] (.node k x m ks) = true
      · rw [if_pos hl] at h
        cases hb : seqF (statW f) ks with
        | none => rw [hb] at h; cases h
        | some b =>
          rw [hb] at h
          obtain rfl := Option.some.inj h
          exact AllW.app (AllW.app (AllW.one w_begin) (seq_ok ih.st ks b hb)) (AllW.one w_end)
      · rw [if_neg hl] at h; cases h
    · obtain ⟨k, x, m, ks⟩ := t
      unfold statW at h
      by_cases hl : lookB statKinds (.node k x m ks) = true
      · rw [if_pos hl] at h
        by_cases h10 : k = 10
        · rw [if_pos h10] at h
          cases hc : roundF (opnF f 0) (ks.take 1) with
          | none => rw [hc] at h; cases h
          | some c =>
            rw [hc] at h
            cases hb : blockW f (ks.getD 1 noT) with
            | none => simp only [Option.bind_some, hb] at h; cases h
            | some b =>
              simp only [Option.bind_some, hb] at h
              have h1 : AllW ([⟨#[105, 102]⟩] ++ c ++ b) := AllW.app (AllW.app (AllW.one (lit_word _ (by decide +kernel))) (round_ok io hc)) (ih.bk _ _ hb)
              by_cases h2 : 2 < ks.length
              · rw [if_pos h2] at h
                cases hd : blockW f (ks.getD 2 noT) with
                | none => rw [hd] at h; cases h
                | some d =>
                  rw [hd] at h
                  obtain rfl := Option.some.inj h
                  exact AllW.app (AllW.app h1 (AllW.one (lit_word _ (by decide +kernel)))) (ih.bk _ _ hd)
              · rw [if_neg h2] at h
                obtain rfl := Option.some.inj h
                exact h1
        rw [if_neg h10] at h
        by_cases h11 : k = 11
        · rw [if_pos h11] at h
          cases hc : roundF (opnF f 0) (ks.take 1) with
          | none => rw [hc] at h; cases h
          | some c =>
            rw [hc] at h
            cases hb : blockW f (ks.getD 1 noT) with
            | none => simp only [Option.bind_some, hb] at h; cases h
            | some b =>
              simp only [Option.bind_some, hb, Option.some.injEq] at h
              subst h
              exact AllW.app (AllW.app (AllW.one (lit_word _ (by decide +kernel))) (round_ok io hc)) (ih.bk _ _ hb)
        rw [if_neg h11] at h
        by_cases h7 : k = 7
        · rw [if_pos h7] at h
          subst h7
          unfold lookB at hl
          simp only [Bool.and_eq_true, decide_eq_true_eq] at hl
          cases hc : opnF f 0 (ks.getD 0 noT) with
          | none => rw [hc] at h; cases h
          | some c =>
            rw [hc] at h
            obtain rfl := Option.some.inj h
            exact AllW.app (AllW.app (AllW.app (AllW.one (w_lab m)) (AllW.cons (name_ok (text_name hl.2)) (AllW.one w_eq))) (io _ _ hc)) (AllW.one w_semi)
        rw [if_neg h7] at h
        by_cases h8 : k = 8
        · rw [if_pos h8] at h
          cases hp : placeW f (ks.getD 0 noT) with
          | none => rw [hp] at h; cases h
          | some p =>
            rw [hp] at h
            cases hc : opnF f 0 (ks.getD 1 noT) with
            | none => simp only [Option.bind_some, hc] at h; cases h
            | some c =>
              simp only [Option.bind_some, hc, Option.some.injEq] at h
              subst h
              exact AllW.app (AllW.app (AllW.app (place_ok hp) (AllW.one w_eq)) (io _ _ hc)) (AllW.one w_semi)
        rw [if_neg h8] at h
        by_cases h9 : k = 9
        · rw [if_pos h9] at h
          cases hc : doW f (ks.getD 0 noT) with
          | none => rw [hc] at h; cases h
          | some c =>
            rw [hc] at h
            obtain rfl := Option.some.inj h
            exact AllW.app (AllW.app (AllW.one (lit_word _ (by decide +kernel))) (do_ok hc)) (AllW.one w_semi)
        rw [if_neg h9] at h
        by_cases h12 : k = 12
        · rw [if_pos h12] at h
          cases hc : opnF f 0 (ks.getD 0 noT) with
          | none => rw [hc] at h; cases h
          | some c =>
            rw [hc] at h
            obtain rfl := Option.some.inj h
            exact AllW.app (AllW.app (AllW.app (AllW.one (lit_word _ (by decide +kernel))) (AllW.one (w_lab m))) (io _ _ hc)) (AllW.one w_semi)
        rw [if_neg h12] at h
        by_cases h13 : k = 13
        · rw [if_pos h13] at h
          cases hc : placeW f (ks.getD 0 noT) with
          | none => rw [hc] at h; cases h
          | some c =>
            rw [hc] at h
            obtain rfl := Option.some.inj h
            exact AllW.app (AllW.app (AllW.app (AllW.one (lit_word _ (by decide +kernel))) (AllW.one (w_lab m))) (place_ok hc)) (AllW.one w_semi)
        rw [if_neg h13] at h
        cases hc : opnF f 0 (ks.getD 0 noT) with
        | none => rw [hc] at h; cases h
        | some c =>
          rw [hc] at h
          obtain rfl := Option.some.inj h
          exact AllW.app (AllW.app (AllW.one (lit_word _ (by decide +kernel))) (io _ _ hc)) (AllW.one w_semi)
      · rw [if_neg hl] at h; cases h
theorem pub_ok (m : Int) : AllW (if m.toNat / 2 % 2 = 1 then [⟨#[112, 117, 98]⟩] else []) := by
  by_cases h : m.toNat / 2 % 2 = 1
  · rw [if_pos h]; exact AllW.one (lit_word _ (by decide +kernel))
  · rw [if_neg h]; exact AllW.nil
theorem giv_ok (m : Int) : AllW (givW m) := by
  unfold givW
  by_cases h : m.toNat / 4 % 4 = 1
  · rw [if_pos h]; exact AllW.cons (lit_word _ (by decide +kernel)) (AllW.one (lit_word _ (by decide +kernel)))
  · rw [if_neg h]
    by_cases h2 : m.toNat / 4 % 4 = 2
    · rw [if_pos h2]; exact AllW.cons (lit_word _ (by decide +kernel)) (AllW.one (lit_word _ (by decide +kernel)))
    · rw [if_neg h2]; exact AllW.nil
theorem numK_ok {t : Tree} {w : List ByteArray} (h : numK t = some w) : AllW w := by
  obtain ⟨k, x, m, ks⟩ := t
  unfold numK at h
  dsimp only at h
  by_cases hl : lookB [15] (.node k x m ks) = true
  · rw [if_pos hl] at h
    obtain rfl := Option.some.inj h
    unfold lookB at hl
    simp only [Bool.and_eq_true, decide_eq_true_eq] at hl
    obtain ⟨⟨⟨⟨⟨hc, h1⟩, h2⟩, h3⟩, h4⟩, h5⟩ := hl
    obtain rfl : k = 15 := by
      have := List.contains_iff_mem.1 hc
      simpa using this
    exact AllW.one (num_ok h1 h2)
  · rw [if_neg hl] at h; cases h
theorem decl_ok {f : Nat} (t : Tree) (w : List ByteArray) (ho : declW f t = some w) : AllW w := by
  obtain ⟨k, x, m, ks⟩ := t
  unfold declW at ho
  dsimp only at ho
  by_cases hl : lookB [3, 4] (.node k x m ks) = true
  · rw [if_pos hl] at ho
    unfold lookB at hl
    simp only [Bool.and_eq_true, decide_eq_true_eq] at hl
    obtain ⟨⟨⟨⟨⟨hc, h1⟩, h2⟩, h3⟩, h4⟩, h5⟩ := hl
    have hk : k = 3 ∨ k = 4 := by
      have := List.contains_iff_mem.1 hc
      simpa using this
    have hx : isName x = true := by
      rcases hk with rfl | rfl <;> exact text_name h5
    by_cases hk4 : k = 4
    · rw [if_pos hk4] at ho
      cases hp : roundF parW (ks.take (ks.length - 1)) with
      | none => rw [hp] at ho; cases ho
      | some p =>
        rw [hp] at ho
        cases hb : blockW f (ks.getD (ks.length - 1) noT) with
        | none => simp only [Option.bind_some, hb] at ho; cases ho
        | some b =>
          simp only [Option.bind_some, hb, Option.some.injEq] at ho
          subst ho
          exact AllW.app (AllW.app (AllW.app (AllW.app (AllW.app (pub_ok m) (AllW.cons (lit_word _ (by decide +kernel)) (AllW.one (name_ok hx)))) (round_ok (fun t a h => par_ok h) hp)) (AllW.one (w_lab _))) (giv_ok m)) ((s_ok f).bk _ _ hb)
    · rw [if_neg hk4] at ho
      cases ks with
      | nil =>
        dsimp only at ho
        obtain rfl := Option.some.inj ho
        exact AllW.app (AllW.app (AllW.app (pub_ok m) (AllW.one (w_lab _))) (AllW.one (name_ok hx))) (AllW.one w_semi)
      | cons t0 rr =>
        dsimp only at ho
        cases hw : numK t0 with
        | none => rw [hw] at ho; cases ho
        | some n =>
          rw [hw] at ho
          obtain rfl := Option.some.inj ho
          exact AllW.app (AllW.app (AllW.app (AllW.app (AllW.app (AllW.app (pub_ok m) (AllW.one (w_lab _))) (AllW.one (name_ok hx))) (AllW.one w_bra)) (numK_ok hw)) (AllW.one w_ket)) (AllW.one w_semi)
  · rw [if_neg hl] at ho; cases ho
theorem imp_ok (t : Tree) (w : List ByteArray) (h : impW t = some w) : AllW w := by
  obtain ⟨x, rfl, rfl, hx⟩ := imp_parts h
  exact AllW.cons (lit_word _ (by decide +kernel)) (AllW.cons (name_ok hx) (AllW.one w_semi))
theorem module_ok {f : Nat} {t : Tree} {w : List ByteArray} (ho : moduleW f t = some w) : AllW w := by
  obtain ⟨k, x, m, ks⟩ := t
  unfold moduleW at ho
  dsimp only at ho
  by_cases hl : lookB [1] (.node k x m ks) = true
  · rw [if_pos hl] at ho
    cases ha : seqF impW (ks.takeWhile impB) with
    | none => rw [ha] at ho; cases ho
    | some a =>
      rw [ha] at ho
      cases hb : seqF (declW f) (ks.dropWhile impB) with
      | none => simp only [Option.bind_some, hb] at ho; cases ho
      | some b =>
        simp only [Option.bind_some, hb, Option.some.injEq] at ho
        subst ho
        unfold lookB at hl
        simp only [Bool.and_eq_true, decide_eq_true_eq] at hl
        obtain ⟨⟨⟨⟨⟨hc, h1⟩, h2⟩, h3⟩, h4⟩, h5⟩ := hl
        obtain rfl : k = 1 := by
          have := List.contains_iff_mem.1 hc
          simpa using this
        exact AllW.app (AllW.app (AllW.cons (lit_word _ (by decide +kernel)) (AllW.cons (name_ok (text_name h5)) (AllW.one w_semi))) (seq_ok imp_ok _ _ ha)) (seq_ok decl_ok _ _ hb)
  · rw [if_neg hl] at ho; cases ho
/-- THE TEXT: what is written of a module, with a blank between two words, is read as it -/
theorem text_rt {f : Nat} {t : Tree} {w : List ByteArray} (hf : ∀ ts : List Tok, ts.length ≤ 3000 → ∀ j, ∃ q, declF ts 100000 ⟨j, false⟩ = some q) (ho : moduleW f t = some w) (hl : (joinW w).length ≤ 3000) :
    ∃ toks, scan (joinW w) = .ok toks ∧ moduleF toks = some (t, ⟨toks.length, false⟩) := by
  obtain ⟨toks, h1, h2, h3⟩ := scan_at w (module_ok ho) hl
  have hlen : ∀ (ws : List ByteArray), AllW ws → ws.length ≤ (joinW ws).length := fun ws => by
    induction ws with
    | nil => intro _; exact Nat.le_refl _
    | cons y r ih =>
      intro ha
      obtain ⟨k, hne, _⟩ := ha y (by simp)
      have hp := List.length_pos_iff.2 hne
      cases r with
      | nil => show 1 ≤ y.data.toList.length; omega
      | cons z rr =>
        have := ih (fun q hq => ha q (List.mem_cons_of_mem _ hq))
        show (y :: z :: rr).length ≤ (y.data.toList ++ 32 :: joinW (z :: rr)).length
        simp only [List.length_append, List.length_cons] at this ⊢
        omega
  have hw := hlen w (module_ok ho)
  exact ⟨toks, h1, module_rt (hf toks (by omega)) ho h3 h2⟩
end pr
namespace pr
open Go.Proofs.YtoobkaebahogdaaGreatDoor.lexs (Tok scan)
open Go.Proofs.YtoobkaebahogdaaGreatDoor.syn Go.Proofs.YtoobkaebahogdaaGreatDoor.face Go.Proofs.YtoobkaebahogdaaGreatDoor.chk

/-- the text, and what is wrong -/
def printT (t : Tree) : List UInt8 × Int := if fitsT t then (match moduleW 16 t with
  | none => ([], 2)
  | some w => if 3000 < (joinW w).length then ([], 1) else (joinW w, 0)) else ([], 1)
theorem printT_ok {t : Tree} (h : (printT t).2 = 0) : ∃ w, moduleW 16 t = some w ∧ fitsT t = true ∧ (joinW w).length ≤ 3000 ∧ (printT t).1 = joinW w := by
  unfold printT at h ⊢
  by_cases hf : fitsT t = true
  · rw [if_pos hf] at h ⊢
    cases hw : moduleW 16 t with
    | none => rw [hw] at h; simp at h
    | some w =>
      rw [hw] at h
      dsimp only at h ⊢
      by_cases hl : 3000 < (joinW w).length
      · rw [if_pos hl] at h; simp at h
      · rw [if_neg hl]
        exact ⟨w, rfl, hf, by omega, rfl⟩
  · rw [if_neg hf] at h; simp at h
/-- WHAT IS PRINTED IS READ as the same node -/
theorem print_back {t : Tree} (h : (printT t).2 = 0) : parse ⟨(printT t).1.toArray⟩ = ⟨t, 0, 0⟩ := by
  obtain ⟨w, h1, h2, h3, h4⟩ := printT_ok h
  obtain ⟨toks, h5, h6⟩ := text_rt (fun ts hts j => by
    obtain ⟨q, hq, _⟩ := declF_has (ts := ts) (s := ⟨j, false⟩) (f := 100000) (by unfold left; dsimp only; rw [if_neg (by simp)]; omega)
    exact ⟨q, hq⟩) h1 h3
  unfold parse
  rw [h4]
  dsimp only
  rw [h5]
  dsimp only
  rw [h6]
  dsimp only
  unfold judge
  rw [if_neg (by simp), if_pos h2]
end pr
namespace pr
open Go.Proofs.YtoobkaebahogdaaGreatDoor.lexs
open Go.Proofs.YtoobkaebahogdaaGreatDoor.syn Go.Proofs.YtoobkaebahogdaaGreatDoor.face Go.Proofs.YtoobkaebahogdaaGreatDoor.chk
theorem step_short {l : List UInt8} {k : Int} {n : Nat} (h : stepL l = .tok k n) (hn : n = l.length) : n ≤ 20 := by
  unfold stepL stepB at h
  split at h
  · cases h
  split at h
  · cases h
  split at h
  · split at h
    · cases h
    · rename_i h16
      injection h with _ h
      omega
  split at h
  · split at h
    · rename_i hz
      injection h with _ h
      rw [h, hn, List.take_length] at hz
      have hz : numE l = 0 := by simpa using hz
      unfold numE at hz
      split at hz
      · cases hz
      split at hz
      · cases hz
      split at hz
      · cases hz
      · rename_i h19
        simp only [Bool.or_eq_true, decide_eq_true_eq, not_or] at h19
        omega
    · cases h
  · split at h
    · cases h
    · injection h with _ h
      rw [← h]
      unfold signLen
      split
      · omega
      · split <;> omega
theorem word_short {y : ByteArray} (h : WordOk y) : y.data.toList.length ≤ 20 := by
  obtain ⟨k, _, _, h2, _⟩ := h
  exact step_short h2 rfl
theorem join_short : ∀ (ws : List ByteArray), (∀ y ∈ ws, WordOk y) → (joinW ws).length ≤ 21 * ws.length
  | [], _ => Nat.le_refl _
  | [y], h => by have := word_short (h y (by simp)); show y.data.toList.length ≤ 21 * 1; omega
  | y :: z :: r, h => by
    have h1 := word_short (h y (by simp))
    have h2 := join_short (z :: r) (fun q hq => h q (List.mem_cons_of_mem _ hq))
    show (y.data.toList ++ 32 :: joinW (z :: r)).length ≤ _
    simp only [List.length_append, List.length_cons] at h2 ⊢
    omega
/-- so deep at most, and texts are no longer than that -/
def ShT (n : Nat) : Tree → Prop
  | .node _ x _ ks => x.size < n ∧ ShL n ks
where ShL (n : Nat) : List Tree → Prop
  | [] => True
  | t :: r => ShT n t ∧ ShL n r
end pr
end Go.Proofs.YtoobkaebahogdaaGreatDoor
