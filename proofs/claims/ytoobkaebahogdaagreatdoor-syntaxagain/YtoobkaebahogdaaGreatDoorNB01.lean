/- How many words statements and blocks take. No Go in sight. -/
import Derived.Test.YtoobkaebahogdaaGreatDoorNB00
import Derived.Lib.ItoaNum
set_option linter.unusedVariables false
set_option linter.unusedSimpArgs false
namespace Go.Proofs.YtoobkaebahogdaaGreatDoor
namespace face
end face
namespace syn
open Go.Proofs.YtoobkaebahogdaaGreatDoor.lexs (Tok scan)

/-- a node, or none and what is wrong, where -/
structure Out where
  tree : Tree
  code : Int
  place : Int
def none0 : Tree := .node 0 empty 0 []
/-- where a reader has failed -/
def failAt (ts : List Tok) (n : Nat) (s : St) : Int := match ts[s.i]? with
  | some t => (t.at_ : Int)
  | none => (n : Int)
def judge (ts : List Tok) (n : Nat) (q : Tree × St) : Out :=
  if q.2.bad then ⟨none0, 2, failAt ts n q.2⟩ else if fitsT q.1 then ⟨q.1, 0, 0⟩ else ⟨none0, 1, 0⟩
def parse (x : ByteArray) : Out := match scan x.data.toList with
  | .err c p => ⟨none0, c, p⟩
  | .ok ts => match moduleF ts with
    | none => ⟨none0, 0, 0⟩
    | some q => judge ts x.size q

section
variable {ts : List Tok} {s : St}
theorem importsL_has (f : Nat) : ∀ (ks : List Tree) (s : St), left ts s + 1 ≤ f → ∃ p, importsL ts f ks s = some p ∧ left ts p.2 ≤ left ts s := by
  induction f with
  | zero => intro ks s h; omega
  | succ f ih =>
    intro ks s h
    unfold importsL
    split
    · rename_i h3
      have h4 := left_hit (by decide) h3
      have h2 := left_name (ts := ts) (s := s.next)
      have h5 := (left_must (ts := ts) (s := (name ts s.next).2) ⟨#[59]⟩ (by decide)).1
      obtain ⟨p, hp, hle⟩ := ih (ks ++ [.node 2 (name ts s.next).1 0 []]) (must ts ⟨#[59]⟩ (name ts s.next).2) (by omega)
      exact ⟨p, hp, by omega⟩
    · exact ⟨_, rfl, Nat.le_refl _⟩
theorem declsL_has (f : Nat) : ∀ (ks : List Tree) (s : St), left ts s ≤ 3000 → left ts s + 2 ≤ f ∨ (s.bad = true ∧ 1 ≤ f) → ∃ p, declsL ts f ks s = some p := by
  induction f with
  | zero => intro ks s h0 h; omega
  | succ f ih =>
    intro ks s h0 h
    unfold declsL
    cases hb : s.bad
    · rw [hb] at h
      simp only [Bool.false_eq_true, false_and, or_false] at h
      by_cases hl : ts.length ≤ s.i
      · rw [decide_eq_true hl]
        exact ⟨_, rfl⟩
      · rw [decide_eq_false hl]
        simp only [Bool.or_false, Bool.false_eq_true, if_false]
        obtain ⟨q, hq, hle, hor⟩ := declF_has (ts := ts) (s := s) (f := 100000) (by omega)
        rw [hq]
        simp only [Option.bind_some]
        refine ih _ _ (by omega) ?_
        rcases hor with h1 | h1
        · exact .inl (by omega)
        · exact .inr ⟨h1, by omega⟩
    · simp only [Bool.true_or, if_true]
      exact ⟨_, rfl⟩
theorem left_le : left ts s ≤ ts.length := by unfold left; split <;> omega
theorem moduleF_has (h : ts.length ≤ 3000) : ∃ p q, importsL ts 4000 [] (headS ts) = some p ∧ declsL ts 4000 p.1 p.2 = some q ∧ moduleF ts = some (.node 1 (headX ts) 0 q.1, q.2) := by
  have h1 := left_le (ts := ts) (s := headS ts)
  obtain ⟨p, hp, hle⟩ := importsL_has (ts := ts) 4000 [] (headS ts) (by omega)
  obtain ⟨q, hq⟩ := declsL_has (ts := ts) 4000 p.1 p.2 (by omega) (.inl (by omega))
  refine ⟨p, q, hp, hq, ?_⟩
  unfold moduleF
  rw [hp]
  simp only [Option.bind_some]
  rw [hq]
  rfl
end
end syn
namespace syn
def opS : List ByteArray := [empty, ⟨#[43]⟩, ⟨#[45]⟩, ⟨#[42]⟩, ⟨#[47]⟩, ⟨#[37]⟩, ⟨#[38]⟩, ⟨#[124]⟩, ⟨#[60]⟩, ⟨#[61, 61]⟩]
def opB : List Int := [0, 1, 1, 2, 2, 2, 2, 1, 0, 0]
def opAt (k : Nat) : ByteArray := opS.getD k empty
def opIs (k : Nat) : Int := opB.getD k 0
end syn
namespace syn
open Go.Proofs.YtoobkaebahogdaaGreatDoor.lexs (Tok)
section
variable {ts : List Tok} {s : St}
theorem isName_empty : isName empty = false := isName_short (by intro h; exact absurd h.1 (by decide))
theorem fail_st (h : s.bad = true) : s.fail = s := by cases s; simp_all [St.fail]
theorem must_st {x : ByteArray} (hx : 0 < x.size) (h : s.bad = true) : must ts x s = s := by
  unfold must
  rw [eqS_bad hx h, if_neg (by decide)]
  exact fail_st h
theorem name_st (h : s.bad = true) : (name ts s).2 = s := by
  unfold name
  rw [txt_bad h]
  rw [isName_empty, if_neg (by decide)]
  exact fail_st h
theorem eat_st {x : ByteArray} (hx : 0 < x.size) (h : s.bad = true) : eat ts x s = (false, s) := by
  unfold eat
  rw [eqS_bad hx h, if_neg (by decide)]
theorem whole_st (h : s.bad = true) : (whole ts s).2 = s := by
  unfold whole
  dsimp only
  rw [name_st h, eat_st (by decide) h]
  simp
theorem label_st (h : s.bad = true) : (label ts s).2 = s := by
  unfold label
  rw [eqS_bad (by decide) h, if_neg (by decide)]
  exact must_st (by decide) h
theorem isNum_bad (h : s.bad = true) : isNum ts s = false := by unfold isNum here; rw [h]; rfl
structure Stuck (ts : List Tok) (f : Nat) : Prop where
  e : ∀ (s : St) (q : Tree × St), s.bad = true → exprF ts f s = some q → q.2 = s
  b : ∀ (l : Nat) (s : St) (q : Tree × St), s.bad = true → boundF ts f l s = some q → q.2 = s
  bl : ∀ (l : Nat) (n : Tree) (s : St) (q : Tree × St), s.bad = true → boundL ts f l n s = some q → q.2 = s
  u : ∀ (s : St) (q : Tree × St), s.bad = true → unaryF ts f s = some q → q.2 = s
  a : ∀ (s : St) (q : Tree × St), s.bad = true → askedF ts f s = some q → q.2 = s
  p : ∀ (x : ByteArray) (s : St) (q : Tree × St), s.bad = true → placeF ts f x s = some q → q.2 = s
  c : ∀ (x : ByteArray) (s : St) (q : Tree × St), s.bad = true → callF ts f x s = some q → q.2 = s
  cl : ∀ (x : ByteArray) (ks : List Tree) (s : St) (on : Bool) (q : Tree × St), s.bad = true → callL ts f x ks s on = some q → q.2 = s
theorem bind_some_is {α β : Type} {o : Option α} {g : α → Option β} {q : β} (h : o.bind g = some q) : ∃ a, o = some a ∧ g a = some q := by
  cases o with
  | none => simp at h
  | some a => exact ⟨a, rfl, h⟩
theorem stuck (ts : List Tok) (f : Nat) : Stuck ts f := by
  induction f with
  | zero => exact ⟨fun s q _ h => by simp [exprF] at h, fun l s q _ h => by simp [boundF] at h, fun l n s q _ h => by simp [boundL] at h, fun s q _ h => by simp [unaryF] at h, fun s q _ h => by simp [askedF] at h, fun x s q _ h => by simp [placeF] at h, fun x s q _ h => by simp [callF] at h, fun x ks s on q _ h => by simp [callL] at h⟩
  | succ f ih =>
    refine ⟨fun s q hb h => ?_, fun l s q hb h => ?_, fun l n s q hb h => ?_, fun s q hb h => ?_, fun s q hb h => ?_, fun x s q hb h => ?_, fun x s q hb h => ?_, fun x ks s on q hb h => ?_⟩
    · unfold exprF at h
      rw [hb, if_pos rfl] at h
      simp only [Option.some.injEq] at h
      rw [← h]
    · unfold boundF at h
      split at h
      · exact ih.u _ _ hb h
      · obtain ⟨q1, h1, h2⟩ := bind_some_is h
        have e1 := ih.b _ _ _ hb h1
        rw [← e1]
        exact ih.bl _ _ _ _ (by rw [e1]; exact hb) h2
    · unfold boundL at h
      rw [hb, if_pos rfl] at h
      simp only [Option.some.injEq] at h
      rw [← h]
    · unfold unaryF at h
      rw [eqS_bad (by decide) hb, eqS_bad (by decide) hb, eqS_bad (by decide) hb, isNum_bad hb, whole_st hb, eqS_bad (by decide) hb] at h
      simp only [Bool.false_eq_true, if_false] at h
      exact ih.p _ _ _ hb h
    · unfold askedF at h
      obtain ⟨q1, h1, h2⟩ := bind_some_is h
      rw [must_st (by decide) hb] at h1
      have e1 := ih.e _ _ hb h1
      simp only [Option.some.injEq] at h2
      rw [← h2, e1]
      exact must_st (by decide) hb
    · unfold placeF at h
      rw [eqS_bad (by decide) hb, if_neg (by decide)] at h
      simp only [Option.some.injEq] at h
      rw [← h]
    · unfold callF at h
      rw [must_st (by decide) hb, eqS_bad (by decide) hb, if_neg (by decide)] at h
      exact ih.cl _ _ _ _ _ hb h
    · unfold callL at h
      rw [hb] at h
      simp only [Bool.not_true, Bool.and_false, Bool.false_eq_true, if_false, Option.some.injEq] at h
      rw [← h]
      exact must_st (by decide) hb
structure Stuck2 (ts : List Tok) (f : Nat) : Prop where
  bk : ∀ (s : St) (q : Tree × St), s.bad = true → blockF ts f s = some q → q.2 = s
  bl : ∀ (ks : List Tree) (s : St) (q : Tree × St), s.bad = true → blockL ts f ks s = some q → q.2 = s
theorem stuck2 (ts : List Tok) (f : Nat) : Stuck2 ts f := by
  have hL : ∀ (f : Nat) (ks : List Tree) (s : St) (q : Tree × St), s.bad = true → blockL ts f ks s = some q → q.2 = s := by
    intro f ks s q hb h
    cases f with
    | zero => simp [blockL] at h
    | succ f =>
      unfold blockL at h
      rw [hb, if_pos rfl] at h
      simp only [Option.some.injEq] at h
      rw [← h]
  refine ⟨fun s q hb h => ?_, fun ks s q hb h => hL f ks s q hb h⟩
  cases f with
  | zero => simp [blockF] at h
  | succ f =>
    unfold blockF at h
    rw [must_st (by decide) hb] at h
    exact hL _ _ _ _ hb h
end
end syn
namespace lexs

/-- what the tokens of a text look like -/
structure Fine (t : Tok) : Prop where
  kinds : t.kind = 1 ∨ t.kind = 2 ∨ t.kind = 3
  ne : t.text ≠ []
  word : t.kind = 1 → t.text.length ≤ 16 ∧ ltrB (t.text.headD 0) = true ∧ t.text.all insB = true
  num : t.kind = 2 → numE t.text = 0
  sign : t.kind = 3 → ltrB (t.text.headD 0) = false
theorem take_run (p : UInt8 → Bool) (l : List UInt8) : l.take (run p l) = l.takeWhile p := by
  unfold run
  induction l with
  | nil => rfl
  | cons b r ih =>
    rw [List.takeWhile_cons]
    cases p b
    · rfl
    · simp [ih]
theorem step_fine {b : UInt8} {r : List UInt8} {K : Int} {n i : Nat} (h : stepL (b :: r) = .tok K n) : Fine ⟨K, (b :: r).take n, i⟩ := by
  have hn := (stepL_tok h).1
  obtain ⟨m, rfl⟩ : ∃ m, n = m + 1 := ⟨n - 1, by omega⟩
  have hh : ((b :: r).take (m + 1)).headD 0 = b := by simp
  have hne : (b :: r).take (m + 1) ≠ [] := by simp
  rw [stepL, List.headD_cons, stepB] at h
  by_cases h1 : (b == 32 || b == 10) = true
  · rw [if_pos h1] at h; simp at h
  rw [if_neg h1] at h
  by_cases h2 : (b == 35) = true
  · rw [if_pos h2] at h; simp at h
  rw [if_neg h2] at h
  cases h3 : ltrB b
  · rw [h3] at h
    simp only [Bool.false_eq_true, if_false] at h
    cases h4 : digB b
    · rw [h4] at h
      simp only [Bool.false_eq_true, if_false] at h
      split at h
      · simp at h
      · injection h with hk hm
        subst hk
        refine ⟨.inr (.inr rfl), hne, fun e => by simp at e, fun e => by simp at e, fun _ => ?_⟩
        show ltrB (((b :: r).take (m + 1)).headD 0) = false
        rw [hh]
        exact h3
    · rw [h4] at h
      simp only [if_true] at h
      split at h
      · rename_i he
        injection h with hk hm
        subst hk
        refine ⟨.inr (.inl rfl), hne, fun e => by simp at e, fun _ => ?_, fun e => by simp at e⟩
        rw [← hm]
        simpa using he
      · simp at h
  · rw [h3] at h
    simp only [if_true] at h
    split at h
    · simp at h
    · rename_i h16
      injection h with hk hm
      subst hk
      refine ⟨.inl rfl, hne, fun _ => ⟨?_, ?_, ?_⟩, fun e => by simp at e, fun e => by simp at e⟩
      · show ((b :: r).take (m + 1)).length ≤ 16
        rw [List.length_take]
        omega
      · show ltrB (((b :: r).take (m + 1)).headD 0) = true
        rw [hh]
        exact h3
      · show ((b :: r).take (m + 1)).all insB = true
        rw [← hm, take_run]
        exact List.all_takeWhile
theorem scanL_fine : ∀ (f : Nat) (l : List UInt8) (i : Nat) (acc toks : List Tok), scanL f l i acc = .ok toks → (∀ t ∈ acc, Fine t) → ∀ t ∈ toks, Fine t
  | 0, l, i, acc, toks, h, ha => by
    unfold scanL at h
    injection h with h
    subst h
    exact ha
  | f + 1, [], i, acc, toks, h, ha => by
    unfold scanL at h
    injection h with h
    subst h
    exact ha
  | f + 1, b :: r, i, acc, toks, h, ha => by
    cases hs : stepL (b :: r) with
    | skip n => rw [scanL_skip hs] at h; exact scanL_fine f _ _ _ _ h ha
    | fault c => rw [scanL_fault hs] at h; simp at h
    | tok k n =>
      rw [scanL_tok hs] at h
      refine scanL_fine f _ _ _ _ h ?_
      intro t ht
      rw [List.mem_append] at ht
      rcases ht with ht | ht
      · exact ha t ht
      · simp only [List.mem_singleton] at ht
        subst ht
        exact step_fine hs
theorem scan_fine {l : List UInt8} {toks : List Tok} (h : scan l = .ok toks) : ∀ t ∈ toks, Fine t := by
  unfold scan at h
  split at h
  · simp at h
  · exact scanL_fine _ _ _ _ _ h (fun t ht => by simp at ht)
end lexs
namespace syn
open Go.Proofs.YtoobkaebahogdaaGreatDoor.lexs (Tok Fine ltrI insI ltrB insB digB numE)
/-- a token's text, as the program holds it -/
def raw (t : Tok) : ByteArray := ⟨t.text.toArray⟩
theorem raw_list (t : Tok) : (raw t).data.toList = t.text := rfl
theorem raw_size (t : Tok) : (raw t).size = t.text.length := by rw [← lexs.len_L, raw_list]
/-- a word that no number is -/
def wordy (x : ByteArray) : Bool := decide (0 < x.size) && !digB (x.data.toList.headD 0)
section
variable {ts : List Tok} {s : St}
theorem here_is (hb : s.bad = false) : here ts s = ts[s.i]? := by unfold here; rw [hb]; rfl
theorem num_digits {l : List UInt8} (h : numE l = 0) : l.all digB = true := by
  unfold numE at h
  cases ha : l.all digB
  · rw [ha] at h; simp at h
  · rfl
theorem num_head {l : List UInt8} (h : numE l = 0) (hne : l ≠ []) : digB (l.headD 0) = true := by
  have h1 := num_digits h
  cases l with
  | nil => exact absurd rfl hne
  | cons b r => simp only [List.all_cons, Bool.and_eq_true] at h1; exact h1.1
/-- a word stands here just where the raw text is it -/
theorem eq_raw {t : Tok} (hg : Fine t) (hb : s.bad = false) (ht : ts[s.i]? = some t) {x : ByteArray} (hx : wordy x = true) : eqS (txt ts s) x = eqS (raw t) x := by
  unfold txt
  rw [here_is hb, ht]
  simp only
  unfold wordy at hx
  simp only [Bool.and_eq_true, decide_eq_true_eq, Bool.not_eq_true'] at hx
  cases hk : (t.kind == 2)
  · simp only [Bool.false_eq_true, if_false]
    rfl
  · simp only [if_true]
    have hk2 : t.kind = 2 := by simpa using hk
    have hd := num_head (hg.num hk2) hg.ne
    have e1 : eqS empty x = false := by
      cases h : eqS empty x
      · rfl
      · have := eqS_empty h
        omega
    have e2 : eqS (raw t) x = false := by
      cases h : eqS (raw t) x
      · rfl
      · exfalso
        unfold eqS at h
        rw [beq_iff_eq, ByteArray.toList_eq, ByteArray.toList_eq, raw_list] at h
        rw [h] at hd
        rw [hx.2] at hd
        simp at hd
    rw [e1, e2]
/-- nothing stands behind the last one -/
theorem eq_none (ht : ts[s.i]? = none) {x : ByteArray} (hx : wordy x = true) : eqS (txt ts s) x = false := by
  cases h : eqS (txt ts s) x
  · rfl
  · exfalso
    unfold wordy at hx
    simp only [Bool.and_eq_true, decide_eq_true_eq] at hx
    have := txt_lt hx.1 h
    rw [List.getElem?_eq_none_iff] at ht
    omega
def ownName (t : Tok) : Bool := !(reserved.any fun y => eqS y (raw t)) && t.kind == 1
theorem name_raw {t : Tok} (hg : Fine t) (hb : s.bad = false) (ht : ts[s.i]? = some t) : isName (txt ts s) = ownName t := by
  unfold txt
  rw [here_is hb, ht]
  simp only
  rcases hg.kinds with hk | hk | hk
  · rw [hk]
    obtain ⟨h1, h2, h3⟩ := hg.word hk
    unfold ownName
    rw [hk]
    have hsz : 1 ≤ (raw t).size := by
      rw [raw_size]
      have := hg.ne
      cases hl : t.text with
      | nil => exact absurd hl this
      | cons b r => simp
    have e : isName (raw t) = !(reserved.any fun y => eqS y (raw t)) := by
      unfold isName
      rw [raw_list]
      have hl : ltrI ((t.text.headD 0).toNat : Int) = true := h2
      have ha : t.text.all (fun c => insI (c.toNat : Int)) = true := h3
      rw [hl, ha, decide_eq_true ⟨hsz, by rw [raw_size]; exact h1⟩]
      simp
    simp only [show ((1 : Int) == 2) = false from rfl, show ((1 : Int) == 1) = true from rfl, Bool.false_eq_true, if_false, Bool.and_true]
    exact e
  · rw [hk]
    unfold ownName
    rw [hk]
    simp [isName_empty]
  · rw [hk]
    unfold ownName
    rw [hk]
    have hs := hg.sign hk
    have hl : ltrI ((t.text.headD 0).toNat : Int) = false := hs
    simp only [show ((3 : Int) == 2) = false from rfl, show ((3 : Int) == 1) = false from rfl, Bool.false_eq_true, if_false, Bool.and_false]
    unfold isName
    show (_ && ltrI (((raw t).data.toList.headD 0).toNat : Int) && _ && _) = false
    rw [raw_list, hl]
    simp
theorem name_none (ht : ts[s.i]? = none) : isName (txt ts s) = false := by
  have : txt ts s = empty := by
    unfold txt here
    rw [ht]
    cases s.bad <;> rfl
  rw [this]
  exact isName_empty
end
end syn
namespace syn

mutual
def cntT : Tree → Int
  | .node _ _ _ ks => cntL ks + 1
def cntL : List Tree → Int
  | [] => 0
  | t :: r => cntT t + cntL r
end
mutual
def depT : Tree → Int
  | .node _ _ _ ks => depL ks + 1
def depL : List Tree → Int
  | [] => 0
  | t :: r => max (depT t) (depL r)
end
mutual
theorem cntT_pos : ∀ t : Tree, 1 ≤ cntT t
  | .node _ _ _ ks => by unfold cntT; have := cntL_pos ks; omega
theorem cntL_pos : ∀ ks : List Tree, 0 ≤ cntL ks
  | [] => by unfold cntL; omega
  | t :: r => by unfold cntL; have h1 := cntT_pos t; have h2 := cntL_pos r; omega
end
mutual
theorem depT_pos : ∀ t : Tree, 1 ≤ depT t
  | .node _ _ _ ks => by unfold depT; have := depL_pos ks; omega
theorem depL_pos : ∀ ks : List Tree, 0 ≤ depL ks
  | [] => by unfold depL; omega
  | t :: r => by unfold depL; have h1 := depT_pos t; have h2 := depL_pos r; omega
end
mutual
theorem manyT_is : ∀ (t : Tree) (most : Int), 0 ≤ most → (cntT t ≤ most → manyT t most = cntT t) ∧ (most < cntT t → most < manyT t most)
  | .node _ _ _ ks, most, h => by
    unfold manyT cntT
    have := manyL_is ks 1 most h (by omega) (by omega)
    exact ⟨fun h1 => by rw [this.1 (by omega)]; omega, fun h1 => this.2 (by omega)⟩
theorem manyL_is : ∀ (ks : List Tree) (k most : Int), 0 ≤ most → 1 ≤ k → k ≤ most + 1 → (k + cntL ks ≤ most → manyL ks k most = k + cntL ks) ∧ (most < k + cntL ks → most < manyL ks k most)
  | [], k, most, h, h1, h2 => by unfold manyL cntL; exact ⟨fun _ => by omega, fun h => by omega⟩
  | t :: r, k, most, h, h1, h2 => by
    unfold manyL cntL
    have p1 := cntT_pos t
    have p2 := cntL_pos r
    split
    · rename_i hc
      have hm := manyT_is t (most - k) (by omega)
      have hb := manyT_bounds t (most - k) (by omega)
      have hr := manyL_is r (k + manyT t (most - k)) most h (by omega) (by omega)
      refine ⟨fun h3 => ?_, fun h3 => ?_⟩
      · rw [hr.1 (by rw [hm.1 (by omega)]; omega), hm.1 (by omega)]
        omega
      · rcases Int.lt_or_le (most - k) (cntT t) with h4 | h4
        · have := hm.2 h4
          exact hr.2 (by omega)
        · have := hm.1 h4
          exact hr.2 (by omega)
    · exact ⟨fun h3 => by omega, fun h3 => by omega⟩
end
mutual
theorem deepT_is : ∀ (t : Tree) (most : Int), 0 ≤ most → (depT t ≤ most → deepT t most = depT t) ∧ (most < depT t → most < deepT t most)
  | .node _ _ _ ks, most, h => by
    unfold deepT depT
    have p := depL_pos ks
    rcases Int.lt_or_le 0 most with h0 | h0
    · have := deepL_is ks 0 most h0 (by omega) (by omega)
      have e : max 0 (depL ks) = depL ks := by omega
      rw [e] at this
      exact ⟨fun h1 => by rw [this.1 (by omega)], fun h1 => by have := this.2 (by omega); omega⟩
    · have hb := deepL_bounds ks 0 most h (by omega) (by omega)
      exact ⟨fun h1 => by omega, fun h1 => by omega⟩
theorem deepL_is : ∀ (ks : List Tree) (d most : Int), 0 < most → 0 ≤ d → d ≤ most → (max d (depL ks) ≤ most - 1 → deepL ks d most = max d (depL ks)) ∧ (most - 1 < max d (depL ks) → most ≤ deepL ks d most)
  | [], d, most, h, h1, h2 => by unfold deepL depL; exact ⟨fun _ => by omega, fun h => by omega⟩
  | t :: r, d, most, h, h1, h2 => by
    unfold deepL depL
    rw [if_pos ⟨h, h2⟩]
    have hm := deepT_is t (most - 1) (by omega)
    have hb := deepT_bounds t (most - 1) (by omega)
    have hr := deepL_is r (max d (deepT t (most - 1))) most h (by omega) (by omega)
    refine ⟨fun h3 => ?_, fun h3 => ?_⟩
    · have e := hm.1 (by omega)
      rw [hr.1 (by omega), e]
      omega
    · rcases Int.lt_or_le (most - 1) (depT t) with h4 | h4
      · have := hm.2 h4
        exact hr.2 (by omega)
      · have := hm.1 h4
        exact hr.2 (by omega)
end
mutual
/-- as the program counts: it stops at the first node beyond a limit -/
def withinT : Tree → Int → Int → Option Int
  | .node _ _ _ ks, d, c => if 16 < d ∨ 500 < c + 1 then none else withinL ks (d + 1) (c + 1)
def withinL : List Tree → Int → Int → Option Int
  | [], _, c => some c
  | t :: r, d, c => match withinT t d c with
    | none => none
    | some c' => withinL r d c'
end
mutual
theorem withinT_is : ∀ (t : Tree) (d c : Int), 0 ≤ c → c ≤ 500 → 1 ≤ d → d ≤ 17 → withinT t d c = if depT t + d ≤ 17 ∧ c + cntT t ≤ 500 then some (c + cntT t) else none
  | .node _ _ _ ks, d, c, h1, h2, h3, h4 => by
    unfold withinT depT cntT
    have p1 := depL_pos ks
    have p2 := cntL_pos ks
    by_cases hc : 16 < d ∨ 500 < c + 1
    · rw [if_pos hc, if_neg (by omega)]
    · rw [if_neg hc, withinL_is ks (d + 1) (c + 1) (by omega) (by omega) (by omega) (by omega)]
      by_cases hd : depL ks + (d + 1) ≤ 17 ∧ c + 1 + cntL ks ≤ 500
      · rw [if_pos hd, if_pos (by omega)]
        congr 1
        omega
      · rw [if_neg hd, if_neg (by omega)]
theorem withinL_is : ∀ (ks : List Tree) (d c : Int), 0 ≤ c → c ≤ 500 → 1 ≤ d → d ≤ 17 → withinL ks d c = if depL ks + d ≤ 17 ∧ c + cntL ks ≤ 500 then some (c + cntL ks) else none
  | [], d, c, h1, h2, h3, h4 => by
    unfold withinL depL cntL
    rw [if_pos (by omega)]
    congr 1
    omega
  | t :: r, d, c, h1, h2, h3, h4 => by
    unfold withinL depL cntL
    have p1 := cntT_pos t
    have p2 := cntL_pos r
    have p3 := depT_pos t
    have p4 := depL_pos r
    rw [withinT_is t d c h1 h2 h3 h4]
    by_cases hd : depT t + d ≤ 17 ∧ c + cntT t ≤ 500
    · rw [if_pos hd]
      simp only
      rw [withinL_is r d (c + cntT t) (by omega) (by omega) h3 h4]
      by_cases hr : depL r + d ≤ 17 ∧ c + cntT t + cntL r ≤ 500
      · rw [if_pos hr, if_pos (by omega)]
        congr 1
        omega
      · rw [if_neg hr, if_neg (by omega)]
    · rw [if_neg hd]
      simp only
      rw [if_neg (by omega)]
end
theorem within_fits (t : Tree) : (withinT t 1 0).isSome = fitsT t := by
  rw [withinT_is t 1 0 (by omega) (by omega) (by omega) (by omega)]
  unfold fitsT
  have hm := manyT_is t 500 (by omega)
  have hd := deepT_is t 16 (by omega)
  rcases Int.lt_or_le 500 (cntT t) with h | h
  · have a1 := hm.2 h
    have a2 : ¬ (depT t + 1 ≤ 17 ∧ 0 + cntT t ≤ 500) := by omega
    simp only [if_pos a1, if_neg a2]
    rfl
  · have a1 : ¬ 500 < manyT t 500 := by rw [hm.1 h]; omega
    simp only [if_neg a1]
    rcases Int.lt_or_le 16 (depT t) with h2 | h2
    · have a2 : ¬ (depT t + 1 ≤ 17 ∧ 0 + cntT t ≤ 500) := by omega
      have a3 : ¬ deepT t 16 ≤ 16 := by have := hd.2 h2; omega
      simp only [if_neg a2, decide_eq_false a3]
      rfl
    · have a2 : depT t + 1 ≤ 17 ∧ 0 + cntT t ≤ 500 := by omega
      have a3 : deepT t 16 ≤ 16 := by rw [hd.1 h2]; exact h2
      simp only [if_pos a2, decide_eq_true a3]
      rfl
end syn
namespace lexs
theorem step_err {l : List UInt8} {c : Int} (h : stepL l = .fault c) : c ≠ 0 := by
  unfold stepL stepB at h
  split at h
  · simp at h
  split at h
  · simp at h
  split at h
  · split at h
    · injection h with h; omega
    · simp at h
  split at h
  · split at h
    · simp at h
    · rename_i hn
      injection h with h
      rw [← h]
      simpa using hn
  split at h
  · injection h with h; omega
  · simp at h
theorem scanL_err : ∀ (f : Nat) (l : List UInt8) (i : Nat) (acc : List Tok) (c : Int) (p : Nat), scanL f l i acc = .err c p → c ≠ 0
  | 0, l, i, acc, c, p, h => by unfold scanL at h; simp at h
  | f + 1, [], i, acc, c, p, h => by unfold scanL at h; simp at h
  | f + 1, b :: r, i, acc, c, p, h => by
    cases hs : stepL (b :: r) with
    | skip n => rw [scanL_skip hs] at h; exact scanL_err f _ _ _ _ _ h
    | fault c' =>
      rw [scanL_fault hs] at h
      injection h with h _
      rw [← h]
      exact step_err hs
    | tok k n => rw [scanL_tok hs] at h; exact scanL_err f _ _ _ _ _ h
theorem scan_err {l : List UInt8} {c : Int} {p : Nat} (h : scan l = .err c p) : c ≠ 0 := by
  unfold scan at h
  split at h
  · injection h with h _; omega
  · exact scanL_err _ _ _ _ _ _ h
end lexs
namespace chk
def cutL : List UInt8 → List UInt8 × Option (List UInt8)
  | [] => ([], none)
  | c :: r => if c = 46 then ([], some r) else ((c :: (cutL r).1), (cutL r).2)
end chk
namespace chk
open Go.Proofs.YtoobkaebahogdaaGreatDoor.syn Go.Proofs.YtoobkaebahogdaaGreatDoor.face

theorem cutL_none : ∀ (l : List UInt8), (∀ c ∈ l, c ≠ 46) → cutL l = (l, none)
  | [], _ => rfl
  | c :: r, h => by
    unfold cutL
    rw [if_neg (h c (List.mem_cons_self)), cutL_none r (fun d hd => h d (List.mem_cons_of_mem _ hd))]
theorem cutL_some : ∀ (a b : List UInt8), (∀ c ∈ a, c ≠ 46) → cutL (a ++ 46 :: b) = (a, some b)
  | [], b, _ => by show cutL (46 :: b) = _; unfold cutL; rw [if_pos rfl]
  | c :: r, b, h => by
    show cutL (c :: (r ++ 46 :: b)) = _
    unfold cutL
    rw [if_neg (h c (List.mem_cons_self)), cutL_some r b (fun d hd => h d (List.mem_cons_of_mem _ hd))]
end chk
namespace face
open Go.Proofs.YtoobkaebahogdaaGreatDoor.lexs Go.Proofs.YtoobkaebahogdaaGreatDoor.syn

/-- what the tokens of a text look like -/
structure Fine (t : Tok) : Prop where
  kinds : t.kind = 1 ∨ t.kind = 2 ∨ t.kind = 3
  ne : t.text ≠ []
  word : t.kind = 1 → t.text.length ≤ 16 ∧ ltrB (t.text.headD 0) = true ∧ t.text.all insB = true
  num : t.kind = 2 → numE t.text = 0
  sign : t.kind = 3 → ltrB (t.text.headD 0) = false
theorem take_run (p : UInt8 → Bool) (l : List UInt8) : l.take (run p l) = l.takeWhile p := by
  unfold run
  induction l with
  | nil => rfl
  | cons b r ih =>
    rw [List.takeWhile_cons]
    cases p b
    · rfl
    · simp [ih]
theorem step_fine {b : UInt8} {r : List UInt8} {K : Int} {n i : Nat} (h : stepL (b :: r) = .tok K n) : Fine ⟨K, (b :: r).take n, i⟩ := by
  have hn := (stepL_tok h).1
  obtain ⟨m, rfl⟩ : ∃ m, n = m + 1 := ⟨n - 1, by omega⟩
  have hh : ((b :: r).take (m + 1)).headD 0 = b := by simp
  have hne : (b :: r).take (m + 1) ≠ [] := by simp
  rw [stepL, List.headD_cons, stepB] at h
  by_cases h1 : (b == 32 || b == 10) = true
  · rw [if_pos h1] at h; simp at h
  rw [if_neg h1] at h
  by_cases h2 : (b == 35) = true
  · rw [if_pos h2] at h; simp at h
  rw [if_neg h2] at h
  cases h3 : ltrB b
  · rw [h3] at h
    simp only [Bool.false_eq_true, if_false] at h
    cases h4 : digB b
    · rw [h4] at h
      simp only [Bool.false_eq_true, if_false] at h
      split at h
      · simp at h
      · injection h with hk hm
        subst hk
        refine ⟨.inr (.inr rfl), hne, fun e => by simp at e, fun e => by simp at e, fun _ => ?_⟩
        show ltrB (((b :: r).take (m + 1)).headD 0) = false
        rw [hh]
        exact h3
    · rw [h4] at h
      simp only [if_true] at h
      split at h
      · rename_i he
        injection h with hk hm
        subst hk
        refine ⟨.inr (.inl rfl), hne, fun e => by simp at e, fun _ => ?_, fun e => by simp at e⟩
        rw [← hm]
        simpa using he
      · simp at h
  · rw [h3] at h
    simp only [if_true] at h
    split at h
    · simp at h
    · rename_i h16
      injection h with hk hm
      subst hk
      refine ⟨.inl rfl, hne, fun _ => ⟨?_, ?_, ?_⟩, fun e => by simp at e, fun e => by simp at e⟩
      · show ((b :: r).take (m + 1)).length ≤ 16
        rw [List.length_take]
        omega
      · show ltrB (((b :: r).take (m + 1)).headD 0) = true
        rw [hh]
        exact h3
      · show ((b :: r).take (m + 1)).all insB = true
        rw [← hm, take_run]
        exact List.all_takeWhile
theorem scanL_fine : ∀ (f : Nat) (l : List UInt8) (i : Nat) (acc toks : List Tok), scanL f l i acc = .ok toks → (∀ t ∈ acc, Fine t) → ∀ t ∈ toks, Fine t
  | 0, l, i, acc, toks, h, ha => by
    unfold scanL at h
    injection h with h
    subst h
    exact ha
  | f + 1, [], i, acc, toks, h, ha => by
    unfold scanL at h
    injection h with h
    subst h
    exact ha
  | f + 1, b :: r, i, acc, toks, h, ha => by
    cases hs : stepL (b :: r) with
    | skip n => rw [scanL_skip hs] at h; exact scanL_fine f _ _ _ _ h ha
    | fault c => rw [scanL_fault hs] at h; simp at h
    | tok k n =>
      rw [scanL_tok hs] at h
      refine scanL_fine f _ _ _ _ h ?_
      intro t ht
      rw [List.mem_append] at ht
      rcases ht with ht | ht
      · exact ha t ht
      · simp only [List.mem_singleton] at ht
        subst ht
        exact step_fine hs
theorem scan_fine {l : List UInt8} {toks : List Tok} (h : scan l = .ok toks) : ∀ t ∈ toks, Fine t := by
  unfold scan at h
  split at h
  · simp at h
  · exact scanL_fine _ _ _ _ _ h (fun t ht => by simp at ht)
def raw (t : Tok) : ByteArray := ⟨t.text.toArray⟩
theorem raw_list (t : Tok) : (raw t).data.toList = t.text := rfl
theorem raw_size (t : Tok) : (raw t).size = t.text.length := by rw [← lexs.len_L, raw_list]
def ownName (t : Tok) : Bool := !(reserved.any fun y => eqS y (raw t)) && t.kind == 1
theorem bytes_ext {x y : ByteArray} (h : x.data.toList = y.data.toList) : x = y := WideShapes.bytes_inj h
theorem eqS_iff {x y : ByteArray} : eqS x y = true ↔ x = y := by
  unfold eqS
  rw [beq_iff_eq, ByteArray.toList_eq, ByteArray.toList_eq]
  exact ⟨bytes_ext, fun h => by rw [h]⟩
/-- what the program asks of a text's tokens -/
def tellsL (x : ByteArray) : List Tok → Bool
  | [t] => ownName t && eqS (raw t) x
  | _ => false
def tells (x : ByteArray) : Bool := tellsL x (scan x.data.toList).toks
theorem isName_fine {t : Tok} (hg : Fine t) (h : ownName t = true) : isName (raw t) = true := by
  unfold ownName at h
  simp only [Bool.and_eq_true, beq_iff_eq] at h
  obtain ⟨h1, h2, h3⟩ := hg.word h.2
  have hsz : 1 ≤ (raw t).size := by
    rw [raw_size]
    have := hg.ne
    cases hl : t.text with
    | nil => exact absurd hl this
    | cons b r => simp
  unfold isName
  rw [raw_list]
  have hl : ltrI ((t.text.headD 0).toNat : Int) = true := h2
  have ha : t.text.all (fun c => insI (c.toNat : Int)) = true := h3
  rw [hl, ha, decide_eq_true ⟨hsz, by rw [raw_size]; exact h1⟩, h.1]
  rfl
theorem run_all {l : List UInt8} (h : l.all insB = true) : run insB l = l.length := by
  apply run_eq
  · intro j hj _
    exact List.all_eq_true.1 h _ (List.getElem_mem hj)
  · exact .inl rfl
theorem scan_name {x : ByteArray} (h : isName x = true) : scan x.data.toList = .ok [⟨1, x.data.toList, 0⟩] := by
  unfold isName at h
  simp only [Bool.and_eq_true, decide_eq_true_eq] at h
  obtain ⟨⟨⟨⟨h1, h16⟩, hl⟩, ha⟩, _⟩ := h
  have hlen : x.data.toList.length = x.size := lexs.len_L x
  unfold scan
  rw [if_neg (by omega)]
  cases hx : x.data.toList with
  | nil => rw [hx] at hlen; simp at hlen; omega
  | cons b r =>
    rw [hx] at hl ha hlen
    have hlb : ltrB b = true := hl
    have hrun : run insB (b :: r) = (b :: r).length := run_all ha
    have hb32 : (b == 32 || b == 10) = false := by
      cases hb : (b == 32 || b == 10) with
      | false => rfl
      | true =>
        simp only [Bool.or_eq_true, beq_iff_eq] at hb
        rcases hb with rfl | rfl <;> simp [ltrB, ltrI] at hlb
    have hb35 : (b == 35) = false := by
      cases hb : (b == 35) with
      | false => rfl
      | true =>
        simp only [beq_iff_eq] at hb
        subst hb
        simp [ltrB, ltrI] at hlb
    have hs : stepL (b :: r) = .tok 1 (b :: r).length := by
      rw [stepL, List.headD_cons, stepB, hb32, hb35, hlb, hrun]
      simp only [Bool.false_eq_true, if_false, if_true]
      rw [if_neg (by omega)]
    rw [List.length_cons] at hs ⊢
    rw [scanL_tok hs]
    rw [List.drop_eq_nil_of_le (by simp), scanL_end, List.take_of_length_le (by simp)]
    rfl
theorem tells_eq (x : ByteArray) : tells x = isName x := by
  unfold tells
  cases hn : isName x with
  | true =>
    rw [scan_name hn]
    show (ownName _ && eqS _ x) = true
    have e : raw ⟨1, x.data.toList, 0⟩ = x := bytes_ext rfl
    rw [e]
    unfold ownName
    rw [e]
    unfold isName at hn
    simp only [Bool.and_eq_true] at hn
    rw [hn.2, eqS_iff.2 rfl]
    rfl
  | false =>
    cases hs : scan x.data.toList with
    | err c p => rfl
    | ok l =>
      show tellsL x l = false
      match l, hs with
      | [], _ => rfl
      | [t], hs =>
        show (ownName t && eqS (raw t) x) = false
        cases ho : ownName t with
        | false => rfl
        | true =>
          cases he : eqS (raw t) x with
          | false => rfl
          | true =>
            have h1 := isName_fine (scan_fine hs t (by simp)) ho
            rw [eqS_iff.1 he, hn] at h1
            cases h1
      | _ :: _ :: _, _ => rfl
end face
namespace pr
open Go.Proofs.YtoobkaebahogdaaGreatDoor.syn Go.Proofs.YtoobkaebahogdaaGreatDoor.face Go.Proofs.YtoobkaebahogdaaGreatDoor.chk
/-- the words of a name -/
def wordsF (x : ByteArray) : Option (List ByteArray) := match cutL x.data.toList with
  | (a, none) => if isName x then some [x] else none
  | (a, some b) => if isName ⟨a.toArray⟩ && isName ⟨b.toArray⟩ then some [⟨a.toArray⟩, ⟨#[46]⟩, ⟨b.toArray⟩] else none
def textB (x : ByteArray) (names : Int) : Bool := if names = 0 then x.size == 0 else match wordsF x with
  | some l => decide ((l.length : Int) < 2 * names)
  | none => false
/-- what nodes of a kind have: names, least and most number, fewest and most kids -/
def shapeF (k : Int) : Int × Int × Int × Int × Int :=
  if k = 1 then (1, 0, 0, 0, 500) else if k = 2 then (1, 0, 0, 0, 0) else if k = 3 then (1, 0, 3, 0, 1) else if k = 4 then (1, 0, 11, 1, 500) else
  if k = 5 then (1, 0, 1, 0, 0) else if k = 6 then (0, 0, 0, 0, 500) else if k = 7 then (1, 0, 1, 1, 1) else if k = 8 then (0, 0, 0, 2, 2) else
  if k = 9 then (0, 0, 0, 1, 1) else if k = 10 then (0, 0, 0, 2, 3) else if k = 11 then (0, 0, 0, 2, 2) else if k = 12 then (0, 0, 1, 1, 1) else
  if k = 13 then (0, 0, 1, 1, 1) else if k = 14 then (0, 0, 0, 1, 1) else if k = 15 then (0, 0, 9223372036854775807, 0, 0) else if k = 16 then (2, 0, 0, 0, 0) else
  if k = 17 then (2, 0, 0, 1, 1) else if k = 18 then (2, 0, 0, 0, 500) else if k = 19 then (0, 1, 9, 2, 2) else if k = 20 then (0, 0, 0, 1, 1) else (0, 0, 0, 1, 1)
def lookB (kinds : List Int) : Tree → Bool
  | .node k x m ks => kinds.contains k && decide ((shapeF k).2.1 ≤ m) && decide (m ≤ (shapeF k).2.2.1) && decide ((shapeF k).2.2.2.1 ≤ ks.length) && decide ((ks.length : Int) ≤ (shapeF k).2.2.2.2) && textB x (shapeF k).1
def numW (m : Int) : ByteArray := ⟨(Lib.itoa m).toArray⟩
def exprKinds : List Int := [15, 16, 17, 18, 19, 20, 21]
def noT : Tree := .node 0 empty 0 []
def kidT (t : Tree) (i : Nat) : Tree := match t with
  | .node _ _ _ ks => ks.getD i noT
/-- items, with a comma between two -/
def itemsF (g : Tree → Option (List ByteArray)) : Nat → List Tree → Option (List ByteArray)
  | _, [] => some []
  | at_, t :: r => (g t).bind fun a => (itemsF g (at_ + 1) r).bind fun b => some ((if at_ = 0 then [] else [⟨#[44]⟩]) ++ a ++ b)
def bindsF (k m : Int) : Int := if k = 19 then opIs m.toNat else if k = 20 ∨ k = 21 then 3 else 4
/-- an expression without parentheses around it; g: an expression where it must bind so closely -/
def bareF (g : Int → Tree → Option (List ByteArray)) : Tree → Option (List ByteArray)
  | .node k x m ks =>
    if k = 15 then some [numW m] else
    if k = 16 then wordsF x else
    if k = 17 then (wordsF x).bind fun nm => (g 0 (ks.getD 0 noT)).bind fun e => some (nm ++ [⟨#[91]⟩] ++ e ++ [⟨#[93]⟩]) else
    if k = 18 then (wordsF x).bind fun nm => (itemsF (g 0) 0 ks).bind fun e => some (nm ++ [⟨#[40]⟩] ++ e ++ [⟨#[41]⟩]) else
    if k = 19 then (g (max (opIs m.toNat) 1) (ks.getD 0 noT)).bind fun a => (g (opIs m.toNat + 1) (ks.getD 1 noT)).bind fun b => some (a ++ [opAt m.toNat] ++ b) else
    if k = 20 then (g 3 (ks.getD 0 noT)).bind fun e => some ([⟨#[45]⟩] ++ e) else
    (g 3 (ks.getD 0 noT)).bind fun e => some ([⟨#[33]⟩] ++ e)
def opnF : Nat → Int → Tree → Option (List ByteArray)
  | 0, _, _ => none
  | f + 1, least, .node k x m ks => if lookB exprKinds (.node k x m ks) then
      (if least ≤ bindsF k m then bareF (opnF f) (.node k x m ks) else (bareF (opnF f) (.node k x m ks)).bind fun e => some ([⟨#[40]⟩] ++ e ++ [⟨#[41]⟩])) else none
def labW (m : Int) : ByteArray := if m = 1 then ⟨#[104, 105, 103, 104]⟩ else ⟨#[108, 111, 119]⟩
def roundF (g : Tree → Option (List ByteArray)) (ks : List Tree) : Option (List ByteArray) := (itemsF g 0 ks).bind fun e => some ([⟨#[40]⟩] ++ e ++ [⟨#[41]⟩])
def parW : Tree → Option (List ByteArray)
  | .node k x m ks => if lookB [5] (.node k x m ks) then some ([labW m] ++ [x]) else none
/-- one behind the other -/
def seqF (g : Tree → Option (List ByteArray)) : List Tree → Option (List ByteArray)
  | [] => some []
  | t :: r => (g t).bind fun a => (seqF g r).bind fun b => some (a ++ b)
def statKinds : List Int := [7, 8, 9, 10, 11, 12, 13, 14]
def placeW (f : Nat) (t : Tree) : Option (List ByteArray) := if lookB [16, 17] t then opnF f 0 t else none
def doW (f : Nat) (t : Tree) : Option (List ByteArray) := if lookB [18] t then opnF f 0 t else none
mutual
def blockW : Nat → Tree → Option (List ByteArray)
  | 0, _ => none
  | f + 1, .node k x m ks => if lookB [6] (.node k x m ks) then (seqF (statW f) ks).bind fun b => some ([⟨#[123]⟩] ++ b ++ [⟨#[125]⟩]) else none
def statW : Nat → Tree → Option (List ByteArray)
  | 0, _ => none
  | f + 1, .node k x m ks => if lookB statKinds (.node k x m ks) then
      (if k = 10 then (roundF (opnF f 0) (ks.take 1)).bind fun c => (blockW f (ks.getD 1 noT)).bind fun b =>
        if 2 < ks.length then (blockW f (ks.getD 2 noT)).bind fun d => some ([⟨#[105, 102]⟩] ++ c ++ b ++ [⟨#[101, 108, 115, 101]⟩] ++ d) else some ([⟨#[105, 102]⟩] ++ c ++ b)
      else if k = 11 then (roundF (opnF f 0) (ks.take 1)).bind fun c => (blockW f (ks.getD 1 noT)).bind fun b => some ([⟨#[119, 104, 105, 108, 101]⟩] ++ c ++ b)
      else if k = 7 then (opnF f 0 (ks.getD 0 noT)).bind fun e => some ([labW m] ++ [x, ⟨#[61]⟩] ++ e ++ [⟨#[59]⟩])
      else if k = 8 then (placeW f (ks.getD 0 noT)).bind fun p => (opnF f 0 (ks.getD 1 noT)).bind fun e => some (p ++ [⟨#[61]⟩] ++ e ++ [⟨#[59]⟩])
      else if k = 9 then (doW f (ks.getD 0 noT)).bind fun e => some ([⟨#[100, 111]⟩] ++ e ++ [⟨#[59]⟩])
      else if k = 12 then (opnF f 0 (ks.getD 0 noT)).bind fun e => some ([⟨#[111, 117, 116]⟩] ++ [labW m] ++ e ++ [⟨#[59]⟩])
      else if k = 13 then (placeW f (ks.getD 0 noT)).bind fun e => some ([⟨#[105, 110]⟩] ++ [labW m] ++ e ++ [⟨#[59]⟩])
      else (opnF f 0 (ks.getD 0 noT)).bind fun e => some ([⟨#[114, 101, 116, 117, 114, 110]⟩] ++ e ++ [⟨#[59]⟩]))
    else none
end
/-- what a procedure gives -/
def givW (m : Int) : List ByteArray := if m.toNat / 4 % 4 = 1 then [⟨#[103, 105, 118, 101, 115]⟩, ⟨#[108, 111, 119]⟩] else if m.toNat / 4 % 4 = 2 then [⟨#[103, 105, 118, 101, 115]⟩, ⟨#[104, 105, 103, 104]⟩] else []
def numK (t : Tree) : Option (List ByteArray) := match t with
  | .node k x m ks => if lookB [15] (.node k x m ks) then some [numW m] else none
def declW (f : Nat) (t : Tree) : Option (List ByteArray) := match t with
  | .node k x m ks => if lookB [3, 4] (.node k x m ks) then
      (if k = 4 then (roundF parW (ks.take (ks.length - 1))).bind fun p => (blockW f (ks.getD (ks.length - 1) noT)).bind fun b => some ((if m.toNat / 2 % 2 = 1 then [⟨#[112, 117, 98]⟩] else []) ++ [⟨#[112, 114, 111, 99]⟩, x] ++ p ++ [labW (m % 2)] ++ givW m ++ b)
      else (match ks with
        | [] => some ((if m.toNat / 2 % 2 = 1 then [⟨#[112, 117, 98]⟩] else []) ++ [labW (m % 2)] ++ [x] ++ [⟨#[59]⟩])
        | t0 :: _ => (numK t0).bind fun n => some ((if m.toNat / 2 % 2 = 1 then [⟨#[112, 117, 98]⟩] else []) ++ [labW (m % 2)] ++ [x] ++ [⟨#[91]⟩] ++ n ++ [⟨#[93]⟩] ++ [⟨#[59]⟩])))
    else none
def impB : Tree → Bool
  | .node k _ _ _ => k == 2
def impW (t : Tree) : Option (List ByteArray) := match t with
  | .node k x m ks => if lookB [2] (.node k x m ks) then some [⟨#[105, 109, 112, 111, 114, 116]⟩, x, ⟨#[59]⟩] else none
def moduleW (f : Nat) (t : Tree) : Option (List ByteArray) := match t with
  | .node k x m ks => if lookB [1] (.node k x m ks) then
      (seqF impW (ks.takeWhile impB)).bind fun a => (seqF (declW f) (ks.dropWhile impB)).bind fun b => some ([⟨#[109, 111, 100, 117, 108, 101]⟩, x, ⟨#[59]⟩] ++ a ++ b)
    else none
theorem words_len {x : ByteArray} {l : List ByteArray} (h : wordsF x = some l) : l.length ≤ 3 := by
  unfold wordsF at h
  split at h
  · split at h
    · injection h with h; subst h; simp
    · cases h
  · split at h
    · injection h with h; subst h; simp
    · cases h
theorem opn_no (f : Nat) (l : Int) : opnF f l noT = none := by
  cases f <;> rfl
theorem items_len {g : Tree → Option (List ByteArray)} (hg : ∀ t o, g t = some o → (o.length : Int) ≤ 8 * cntT t - 1) : ∀ (ks : List Tree) (a : Nat) (o : List ByteArray), itemsF g a ks = some o → (o.length : Int) ≤ 8 * cntL ks
  | [], a, o, h => by
    unfold itemsF at h
    injection h with h
    subst h
    simp [cntL]
  | t :: r, a, o, h => by
    unfold itemsF at h
    cases h1 : g t with
    | none => rw [h1] at h; cases h
    | some p =>
      rw [h1] at h
      cases h2 : itemsF g (a + 1) r with
      | none => rw [h2] at h; cases h
      | some q =>
        rw [h2] at h
        simp only [Option.bind_some] at h
        injection h with h
        subst h
        have e1 := hg _ _ h1
        have e2 := items_len hg r _ _ h2
        simp only [cntL, List.length_append]
        split <;> simp only [List.length_nil, List.length_cons] <;> push_cast <;> omega
theorem bare_len {f : Nat} (hg : ∀ l t o, opnF f l t = some o → (o.length : Int) ≤ 8 * cntT t - 1) : ∀ (t : Tree) (o : List ByteArray), bareF (opnF f) t = some o → (o.length : Int) ≤ 8 * cntT t - 3
  | .node k x m ks, o, h => by
    have hc : cntT (.node k x m ks) = 1 + cntL ks := by first | rfl | (simp only [cntT]; omega)
    have hp := cntL_pos ks
    have k0 : ∀ l o, opnF f l (ks.getD 0 noT) = some o → (o.length : Int) ≤ 8 * cntL ks - 1 := fun l o e => by
      cases ks with
      | nil => rw [show ([] : List Tree).getD 0 noT = noT from rfl, opn_no] at e; cases e
      | cons t r =>
        have h1 := hg _ _ _ e
        have h2 := cntL_pos r
        simp only [cntL, List.getD_cons_zero] at h1 ⊢
        omega
    have k1 : ∀ l l' o o', opnF f l (ks.getD 0 noT) = some o → opnF f l' (ks.getD 1 noT) = some o' → (o.length : Int) + o'.length ≤ 8 * cntL ks - 2 := fun l l' o o' e e' => by
      match ks, e, e' with
      | [], e, e' => rw [show ([] : List Tree).getD 0 noT = noT from rfl, opn_no] at e; cases e
      | [t], e, e' => rw [show [t].getD 1 noT = noT from rfl, opn_no] at e'; cases e'
      | t :: u :: r, e, e' =>
        have h1 := hg _ _ _ e
        have h2 := hg _ _ _ e'
        have h3 := cntL_pos r
        simp only [cntL, List.getD_cons_zero, List.getD_cons_succ] at h1 h2 ⊢
        omega
    rw [hc]
    simp only [bareF] at h
    split at h
    · injection h with h; subst h; simp; omega
    split at h
    · have := words_len h
      omega
    split at h
    · cases h1 : wordsF x with
      | none => rw [h1] at h; cases h
      | some nm =>
        rw [h1] at h
        simp only [Option.bind_some] at h
        cases h2 : opnF f 0 (ks.getD 0 noT) with
        | none => rw [h2] at h; cases h
        | some e =>
          rw [h2] at h
          simp only [Option.bind_some] at h
          injection h with h
          subst h
          have e1 := words_len h1
          have e2 := k0 _ _ h2
          simp only [List.length_append, List.length_cons, List.length_nil]
          push_cast
          omega
    split at h
    · cases h1 : wordsF x with
      | none => rw [h1] at h; cases h
      | some nm =>
        rw [h1] at h
        simp only [Option.bind_some] at h
        cases h2 : itemsF (opnF f 0) 0 ks with
        | none => rw [h2] at h; cases h
        | some e =>
          rw [h2] at h
          simp only [Option.bind_some] at h
          injection h with h
          subst h
          have e1 := words_len h1
          have e2 := items_len (hg 0) _ _ _ h2
          simp only [List.length_append, List.length_cons, List.length_nil]
          push_cast
          omega
    split at h
    · cases h1 : opnF f (max (opIs m.toNat) 1) (ks.getD 0 noT) with
      | none => rw [h1] at h; cases h
      | some p =>
        rw [h1] at h
        simp only [Option.bind_some] at h
        cases h2 : opnF f (opIs m.toNat + 1) (ks.getD 1 noT) with
        | none => rw [h2] at h; cases h
        | some q =>
          rw [h2] at h
          simp only [Option.bind_some] at h
          injection h with h
          subst h
          have e2 := k1 _ _ _ _ h1 h2
          simp only [List.length_append, List.length_cons, List.length_nil]
          push_cast
          omega
    split at h
    all_goals
      cases h2 : opnF f 3 (ks.getD 0 noT) with
      | none => rw [h2] at h; cases h
      | some e =>
        rw [h2] at h
        simp only [Option.bind_some] at h
        injection h with h
        subst h
        have e2 := k0 _ _ h2
        simp only [List.length_append, List.length_cons, List.length_nil]
        push_cast
        omega
theorem opn_len : ∀ (f : Nat) (l : Int) (t : Tree) (o : List ByteArray), opnF f l t = some o → (o.length : Int) ≤ 8 * cntT t - 1
  | 0, l, t, o, h => by cases h
  | f + 1, l, .node k x m ks, o, h => by
    unfold opnF at h
    split at h
    · split at h
      · have := bare_len (opn_len f) _ _ h
        omega
      · cases h2 : bareF (opnF f) (.node k x m ks) with
        | none => rw [h2] at h; cases h
        | some e =>
          rw [h2] at h
          simp only [Option.bind_some] at h
          injection h with h
          subst h
          have := bare_len (opn_len f) _ _ h2
          simp only [List.length_append, List.length_cons, List.length_nil]
          push_cast
          omega
    · cases h
theorem cnt_n (k : Int) (x : ByteArray) (m : Int) (ks : List Tree) : cntT (.node k x m ks) = cntL ks + 1 := by
  unfold cntT; rfl
theorem cnt0 : ∀ {ks : List Tree}, 0 < ks.length → cntT (ks.getD 0 noT) ≤ cntL ks
  | [], h => by simp at h
  | a :: r, h => by have := cntL_pos r; show cntT a ≤ cntL (a :: r); unfold cntL; omega
theorem cnt01 : ∀ {ks : List Tree}, 1 < ks.length → cntT (ks.getD 0 noT) + cntT (ks.getD 1 noT) ≤ cntL ks
  | [], h => by simp at h
  | a :: r, h => by
    have := cnt0 (ks := r) (by simpa using h)
    show cntT a + cntT (r.getD 0 noT) ≤ cntL (a :: r)
    unfold cntL; omega
theorem cnt012 : ∀ {ks : List Tree}, 2 < ks.length → cntT (ks.getD 0 noT) + cntT (ks.getD 1 noT) + cntT (ks.getD 2 noT) ≤ cntL ks
  | [], h => by simp at h
  | a :: r, h => by
    have := cnt01 (ks := r) (by simp only [List.length_cons] at h; omega)
    show cntT a + cntT (r.getD 0 noT) + cntT (r.getD 1 noT) ≤ cntL (a :: r)
    unfold cntL; omega
/-- what is not there has no words -/
theorem some_lt {g : Tree → Option (List ByteArray)} (hg : g noT = none) {ks : List Tree} {i : Nat} {w : List ByteArray} (h : g (ks.getD i noT) = some w) : i < ks.length := by
  rcases Nat.lt_or_ge i ks.length with h1 | h1
  · exact h1
  · rw [List.getD_eq_getElem?_getD, List.getElem?_eq_none h1, Option.getD_none, hg] at h
    cases h
theorem blk_no {f : Nat} : blockW f noT = none := by cases f <;> rfl
theorem place_no (f : Nat) : placeW f noT = none := rfl
theorem do_no (f : Nat) : doW f noT = none := rfl
theorem place_len {f : Nat} {t : Tree} {w : List ByteArray} (h : placeW f t = some w) : (w.length : Int) ≤ 8 * cntT t - 1 := by
  unfold placeW at h
  by_cases hl : lookB [16, 17] t = true
  · rw [if_pos hl] at h; exact opn_len _ _ _ _ h
  · rw [if_neg hl] at h; cases h
theorem do_len {f : Nat} {t : Tree} {w : List ByteArray} (h : doW f t = some w) : (w.length : Int) ≤ 8 * cntT t - 1 := by
  unfold doW at h
  by_cases hl : lookB [18] t = true
  · rw [if_pos hl] at h; exact opn_len _ _ _ _ h
  · rw [if_neg hl] at h; cases h
theorem round_len {g : Tree → Option (List ByteArray)} (hg : ∀ t o, g t = some o → (o.length : Int) ≤ 8 * cntT t - 1) {ks : List Tree} {w : List ByteArray} (h : roundF g ks = some w) : (w.length : Int) ≤ 8 * cntL ks + 2 := by
  unfold roundF at h
  cases hw : itemsF g 0 ks with
  | none => rw [hw] at h; cases h
  | some e =>
    rw [hw] at h
    obtain rfl := Option.some.inj h
    have := items_len hg ks 0 e hw
    simp only [List.length_append, List.length_cons, List.length_nil]; push_cast; omega
theorem round_len1 {g : Tree → Option (List ByteArray)} (hg : ∀ t o, g t = some o → (o.length : Int) ≤ 8 * cntT t - 1) {ks : List Tree} {w : List ByteArray} (h : roundF g (ks.take 1) = some w) : (w.length : Int) ≤ 8 * cntT (ks.getD 0 noT) + 2 := by
  have h1 := round_len hg h
  cases ks with
  | nil => have := cntT_pos noT; rw [show cntL (([] : List Tree).take 1) = 0 from rfl] at h1; show (w.length : Int) ≤ 8 * cntT noT + 2; omega
  | cons a r =>
    rw [show cntL ((a :: r).take 1) = cntT a + 0 from rfl] at h1
    show (w.length : Int) ≤ 8 * cntT a + 2
    omega
theorem seq_len {g : Tree → Option (List ByteArray)} (hg : ∀ t o, g t = some o → (o.length : Int) ≤ 8 * cntT t) : ∀ (ks : List Tree) (w : List ByteArray), seqF g ks = some w → (w.length : Int) ≤ 8 * cntL ks
  | [], w, h => by obtain rfl := Option.some.inj h; simp [cntL]
  | t :: r, w, h => by
    unfold seqF at h
    cases h1 : g t with
    | none => rw [h1] at h; cases h
    | some a =>
      rw [h1] at h
      cases h2 : seqF g r with
      | none => simp only [Option.bind_some, h2] at h; cases h
      | some b =>
        simp only [Option.bind_some, h2, Option.some.injEq] at h
        subst h
        have e1 := hg t a h1
        have e2 := seq_len hg r b h2
        simp only [cntL, List.length_append]; push_cast; omega
structure SLen (f : Nat) : Prop where
  bk : ∀ t w, blockW f t = some w → (w.length : Int) ≤ 8 * cntT t
  st : ∀ t w, statW f t = some w → (w.length : Int) ≤ 8 * cntT t
theorem s_len : ∀ f, SLen f
  | 0 => ⟨fun _ _ h => by simp [blockW] at h, fun _ _ h => by simp [statW] at h⟩
  | f + 1 => by
    have ih := s_len f
    have io : ∀ t a, opnF f 0 t = some a → (a.length : Int) ≤ 8 * cntT t - 1 := fun t a h => opn_len f 0 t a h
    refine ⟨fun t w h => ?_, fun t w h => ?_⟩
    · obtain ⟨k, x, m, ks⟩ := t
      unfold blockW at h
      by_cases hl : lookB [6] (.node k x m ks) = true
      · rw [if_pos hl] at h
        cases hb : seqF (statW f) ks with
        | none => rw [hb] at h; cases h
        | some b =>
          rw [hb] at h
          obtain rfl := Option.some.inj h
          have e1 := seq_len ih.st ks b hb
          rw [cnt_n]
          simp only [List.length_append, List.length_cons, List.length_nil]; push_cast; omega
      · rw [if_neg hl] at h; cases h
    · obtain ⟨k, x, m, ks⟩ := t
      unfold statW at h
      by_cases hl : lookB statKinds (.node k x m ks) = true
      · rw [if_pos hl] at h
        by_cases h10 : k = 10
        · rw [if_pos h10] at h
          cases hc : roundF (opnF f 0) (ks.take 1) with
          | none => rw [hc] at h; cases h
          | some c =>
            rw [hc] at h
            cases hb : blockW f (ks.getD 1 noT) with
            | none => simp only [Option.bind_some, hb] at h; cases h
            | some b =>
              simp only [Option.bind_some, hb] at h
              have e1 := round_len1 io hc
              have e2 := ih.bk _ _ hb
              have e3 := some_lt blk_no hb
              have e4 := cnt01 e3
              by_cases h2 : 2 < ks.length
              · rw [if_pos h2] at h
                cases hd : blockW f (ks.getD 2 noT) with
                | none => rw [hd] at h; cases h
                | some d =>
                  rw [hd] at h
                  obtain rfl := Option.some.inj h
                  have e5 := ih.bk _ _ hd
                  have e6 := cnt012 h2
                  rw [cnt_n]
                  simp only [List.length_append, List.length_cons, List.length_nil]; push_cast; omega
              · rw [if_neg h2] at h
                obtain rfl := Option.some.inj h
                rw [cnt_n]
                simp only [List.length_append, List.length_cons, List.length_nil]; push_cast; omega
        rw [if_neg h10] at h
        by_cases h11 : k = 11
        · rw [if_pos h11] at h
          cases hc : roundF (opnF f 0) (ks.take 1) with
          | none => rw [hc] at h; cases h
          | some c =>
            rw [hc] at h
            cases hb : blockW f (ks.getD 1 noT) with
            | none => simp only [Option.bind_some, hb] at h; cases h
            | some b =>
              simp only [Option.bind_some, hb, Option.some.injEq] at h
              subst h
              have e1 := round_len1 io hc
              have e2 := ih.bk _ _ hb
              have e3 := some_lt blk_no hb
              have e4 := cnt01 e3
              rw [cnt_n]
              simp only [List.length_append, List.length_cons, List.length_nil]; push_cast; omega
        rw [if_neg h11] at h
        by_cases h7 : k = 7
        · rw [if_pos h7] at h
          subst h7
          cases hc : opnF f 0 (ks.getD 0 noT) with
          | none => rw [hc] at h; cases h
          | some c =>
            rw [hc] at h
            obtain rfl := Option.some.inj h
            have e1 := io _ _ hc
            have e3 := some_lt (opn_no f 0) hc
            have e4 := cnt0 e3
            rw [cnt_n]
            simp only [List.length_append, List.length_cons, List.length_nil]; push_cast; omega
        rw [if_neg h7] at h
        by_cases h8 : k = 8
        · rw [if_pos h8] at h
          cases hp : placeW f (ks.getD 0 noT) with
          | none => rw [hp] at h; cases h
          | some p =>
            rw [hp] at h
            cases hc : opnF f 0 (ks.getD 1 noT) with
            | none => simp only [Option.bind_some, hc] at h; cases h
            | some c =>
              simp only [Option.bind_some, hc, Option.some.injEq] at h
              subst h
              have e1 := place_len hp
              have e2 := io _ _ hc
              have e3 := some_lt (opn_no f 0) hc
              have e4 := cnt01 e3
              rw [cnt_n]
              simp only [List.length_append, List.length_cons, List.length_nil]; push_cast; omega
        rw [if_neg h8] at h
        by_cases h9 : k = 9
        · rw [if_pos h9] at h
          cases hc : doW f (ks.getD 0 noT) with
          | none => rw [hc] at h; cases h
          | some c =>
            rw [hc] at h
            obtain rfl := Option.some.inj h
            have e1 := do_len hc
            have e3 := some_lt (do_no f) hc
            have e4 := cnt0 e3
            rw [cnt_n]
            simp only [List.length_append, List.length_cons, List.length_nil]; push_cast; omega
        rw [if_neg h9] at h
        by_cases h12 : k = 12
        · rw [if_pos h12] at h
          cases hc : opnF f 0 (ks.getD 0 noT) with
          | none => rw [hc] at h; cases h
          | some c =>
            rw [hc] at h
            obtain rfl := Option.some.inj h
            have e1 := io _ _ hc
            have e3 := some_lt (opn_no f 0) hc
            have e4 := cnt0 e3
            rw [cnt_n]
            simp only [List.length_append, List.length_cons, List.length_nil]; push_cast; omega
        rw [if_neg h12] at h
        by_cases h13 : k = 13
        · rw [if_pos h13] at h
          cases hc : placeW f (ks.getD 0 noT) with
          | none => rw [hc] at h; cases h
          | some c =>
            rw [hc] at h
            obtain rfl := Option.some.inj h
            have e1 := place_len hc
            have e3 := some_lt (place_no f) hc
            have e4 := cnt0 e3
            rw [cnt_n]
            simp only [List.length_append, List.length_cons, List.length_nil]; push_cast; omega
        rw [if_neg h13] at h
        cases hc : opnF f 0 (ks.getD 0 noT) with
        | none => rw [hc] at h; cases h
        | some c =>
          rw [hc] at h
          obtain rfl := Option.some.inj h
          have e1 := io _ _ hc
          have e3 := some_lt (opn_no f 0) hc
          have e4 := cnt0 e3
          rw [cnt_n]
          simp only [List.length_append, List.length_cons, List.length_nil]; push_cast; omega
      · rw [if_neg hl] at h; cases h
end pr
end Go.Proofs.YtoobkaebahogdaaGreatDoor
