/- How much what is printed weighs against the tokens that were read: expressions. No Go in sight. -/
import Derived.Test.YtoobkaebahogdaaGreatDoorNB00
import Derived.Test.YtoobkaebahogdaaGreatDoorNB01
import Derived.Test.YtoobkaebahogdaaGreatDoorNB02
import Derived.Test.YtoobkaebahogdaaGreatDoorNB03
import Derived.Test.YtoobkaebahogdaaGreatDoorNB04
import Derived.Test.YtoobkaebahogdaaGreatDoorNS00
import Derived.Lib.ItoaNum
set_option linter.unusedVariables false
namespace Go.Proofs.YtoobkaebahogdaaGreatDoor
namespace pr
open Go.Proofs.YtoobkaebahogdaaGreatDoor.lexs (Tok scan)
open Go.Proofs.YtoobkaebahogdaaGreatDoor.syn Go.Proofs.YtoobkaebahogdaaGreatDoor.face Go.Proofs.YtoobkaebahogdaaGreatDoor.chk

theorem cntL_len : ∀ ks : List Tree, (ks.length : Int) ≤ cntL ks
  | [] => by unfold cntL; simp
  | t :: r => by
    unfold cntL
    have := cntL_len r
    have := cntT_pos t
    simp only [List.length_cons]
    omega
theorem cnt_kid {t : Tree} : ∀ {ks : List Tree}, t ∈ ks → cntT t ≤ cntL ks
  | [], h => by cases h
  | a :: r, h => by
    unfold cntL
    have h1 := cntT_pos a
    have h2 := cntL_pos r
    rcases List.mem_cons.1 h with rfl | h
    · omega
    · have := cnt_kid h; omega
theorem dep_kid {t : Tree} : ∀ {ks : List Tree}, t ∈ ks → depT t ≤ depL ks
  | [], h => by cases h
  | a :: r, h => by
    unfold depL
    rcases List.mem_cons.1 h with rfl | h
    · omega
    · have := dep_kid h; omega
theorem nu_kid {t : Tree} : ∀ {ks : List Tree}, NuL ks → t ∈ ks → NuT t
  | [], _, h => by cases h
  | a :: r, hn, h => by
    unfold NuL at hn
    rcases List.mem_cons.1 h with rfl | h
    · exact hn.1
    · exact nu_kid hn.2 h
/-- what is known of a tree: its numbers, how great it is, how deep -/
structure Sz (f : Nat) (t : Tree) : Prop where
  nu : NuT t
  cnt : cntT t ≤ 500
  dep : depT t ≤ f
theorem Sz.pos {t : Tree} (h : Sz 0 t) : False := by
  have := depT_pos t
  have := h.dep
  omega
theorem Sz.kid {f : Nat} {k m : Int} {x : ByteArray} {ks : List Tree} (h : Sz (f + 1) (.node k x m ks)) {t : Tree} (ht : t ∈ ks) : Sz f t := by
  obtain ⟨h1, h2, h3⟩ := h
  unfold NuT at h1
  unfold cntT at h2
  unfold depT at h3
  have := cnt_kid ht
  have := dep_kid ht
  exact ⟨nu_kid h1.2 ht, by omega, by omega⟩
theorem Sz.len {f : Nat} {k m : Int} {x : ByteArray} {ks : List Tree} (h : Sz f (.node k x m ks)) : (ks.length : Int) ≤ 500 := by
  have h2 := h.cnt
  unfold cntT at h2
  have := cntL_len ks
  omega
theorem Sz.ok {f : Nat} {k m : Int} {x : ByteArray} {ks : List Tree} (h : Sz f (.node k x m ks)) : NuOk k m := by
  have h1 := h.nu
  unfold NuT at h1
  exact h1.1
theorem cut_none : ∀ (l : List UInt8), (∀ c ∈ l, c ≠ 46) → cutL l = (l, none)
  | [], _ => rfl
  | c :: r, h => by
    unfold cutL
    rw [if_neg (h c (List.mem_cons_self)), cut_none r (fun d hd => h d (List.mem_cons_of_mem _ hd))]
theorem cut_some : ∀ (a b : List UInt8), (∀ c ∈ a, c ≠ 46) → cutL (a ++ 46 :: b) = (a, some b)
  | [], b, _ => by show cutL (46 :: b) = _; unfold cutL; rw [if_pos rfl]
  | c :: r, b, h => by
    show cutL (c :: (r ++ 46 :: b)) = _
    unfold cutL
    rw [if_neg (h c (List.mem_cons_self)), cut_some r b (fun d hd => h d (List.mem_cons_of_mem _ hd))]
theorem no_point {x : ByteArray} (h : isName x = true) : ∀ c ∈ x.data.toList, c ≠ 46 := by
  intro c hc e
  unfold isName at h
  simp only [Bool.and_eq_true] at h
  have h2 := List.all_eq_true.1 h.1.2 c hc
  rw [e] at h2
  exact absurd h2 (by decide)
theorem name_words {x : ByteArray} (h : isName x = true) : wordsF x = some [x] := by
  unfold wordsF
  rw [cut_none _ (no_point h)]
  simp only
  rw [if_pos h]
theorem long_words {x : ByteArray} (h : LongN x) : ∃ l, wordsF x = some l ∧ l.length ≤ 3 := by
  rcases h with h | ⟨a, b, ha, hb, rfl⟩
  · exact ⟨[x], name_words h, by simp⟩
  · have e : (a ++ ⟨#[46]⟩ ++ b).data.toList = a.data.toList ++ 46 :: b.data.toList := by
      simp [ByteArray.data_append]
    unfold wordsF
    rw [e, cut_some _ _ (no_point ha)]
    simp only
    have ea : (⟨a.data.toList.toArray⟩ : ByteArray) = a := by simp
    have eb : (⟨b.data.toList.toArray⟩ : ByteArray) = b := by simp
    rw [ea, eb, ha, hb]
    exact ⟨_, rfl, by simp⟩
theorem text_one {x : ByteArray} (h : isName x = true) : textB x 1 = true := by
  unfold textB
  rw [if_neg (by decide), name_words h]
  rfl
theorem text_two {x : ByteArray} (h : LongN x) : textB x 2 = true := by
  obtain ⟨l, h1, h2⟩ := long_words h
  unfold textB
  rw [if_neg (by decide), h1]
  simp only [decide_eq_true_eq]
  omega
theorem text_zero : textB empty 0 = true := rfl
theorem look_of {kinds : List Int} {k m : Int} {x : ByteArray} {ks : List Tree} (hk : kinds.contains k = true) (h1 : (shapeF k).2.1 ≤ m) (h2 : m ≤ (shapeF k).2.2.1) (h3 : (shapeF k).2.2.2.1 ≤ ks.length) (h4 : (ks.length : Int) ≤ (shapeF k).2.2.2.2) (h5 : textB x (shapeF k).1 = true) :
    lookB kinds (.node k x m ks) = true := by
  unfold lookB
  dsimp only
  rw [hk, decide_eq_true h1, decide_eq_true h2, decide_eq_true h3, decide_eq_true h4, h5]
  rfl
theorem items_has {g : Tree → Option (List ByteArray)} : ∀ (ks : List Tree) (i : Nat), (∀ t ∈ ks, ∃ w, g t = some w) → ∃ w, itemsF g i ks = some w
  | [], i, _ => ⟨_, rfl⟩
  | t :: r, i, h => by
    obtain ⟨a, ha⟩ := h t (List.mem_cons_self)
    obtain ⟨b, hb⟩ := items_has r (i + 1) (fun u hu => h u (List.mem_cons_of_mem _ hu))
    unfold itemsF
    rw [ha, Option.bind_some, hb]
    exact ⟨_, rfl⟩
theorem seq_has {g : Tree → Option (List ByteArray)} : ∀ (ks : List Tree), (∀ t ∈ ks, ∃ w, g t = some w) → ∃ w, seqF g ks = some w
  | [], _ => ⟨_, rfl⟩
  | t :: r, h => by
    obtain ⟨a, ha⟩ := h t (List.mem_cons_self)
    obtain ⟨b, hb⟩ := seq_has r (fun u hu => h u (List.mem_cons_of_mem _ hu))
    unfold seqF
    rw [ha, Option.bind_some, hb]
    exact ⟨_, rfl⟩
theorem round_has {g : Tree → Option (List ByteArray)} {ks : List Tree} (h : ∀ t ∈ ks, ∃ w, g t = some w) : ∃ w, roundF g ks = some w := by
  obtain ⟨w, hw⟩ := items_has ks 0 h
  unfold roundF
  rw [hw]
  exact ⟨_, rfl⟩
theorem opn_of {f : Nat} {l k m : Int} {x : ByteArray} {ks : List Tree} (hl : lookB exprKinds (.node k x m ks) = true) (h : ∃ w, bareF (opnF f) (.node k x m ks) = some w) : ∃ w, opnF (f + 1) l (.node k x m ks) = some w := by
  obtain ⟨w, hw⟩ := h
  unfold opnF
  rw [if_pos hl, hw]
  split
  · exact ⟨_, rfl⟩
  · exact ⟨_, rfl⟩
theorem look_ex {t : Tree} (he : ExT t) {f : Nat} (hs : Sz f t) : lookB exprKinds t = true := by
  cases he with
  | num n => exact look_of (by decide) (hs.ok.1 rfl).1 (hs.ok.1 rfl).2 (by decide) (by decide) text_zero
  | nam hx => exact look_of (by decide) (by decide) (by decide) (by decide) (by decide) (text_two hx)
  | item hx h1 => exact look_of (by decide) (by decide) (by decide) (show (1 : Int) ≤ 1 by omega) (show (1 : Int) ≤ 1 by omega) (text_two hx)
  | call hx h1 => exact look_of (by decide) (by decide) (by decide) (Int.natCast_nonneg _) hs.len (text_two hx)
  | op h1 h2 => exact look_of (by decide) (hs.ok.2 rfl).1 (hs.ok.2 rfl).2 (show (2 : Int) ≤ 2 by omega) (show (2 : Int) ≤ 2 by omega) text_zero
  | neg h1 => exact look_of (by decide) (by decide) (by decide) (show (1 : Int) ≤ 1 by omega) (show (1 : Int) ≤ 1 by omega) text_zero
  | nott h1 => exact look_of (by decide) (by decide) (by decide) (show (1 : Int) ≤ 1 by omega) (show (1 : Int) ≤ 1 by omega) text_zero
theorem opn_has : ∀ (f : Nat) (t : Tree), ExT t → Sz f t → ∀ l, ∃ w, opnF f l t = some w
  | 0, t, _, hs, _ => hs.pos.elim
  | f + 1, t, he, hs, l => by
    have hl := look_ex he hs
    cases he with
    | num n => exact opn_of hl ⟨_, rfl⟩
    | nam hx =>
      obtain ⟨w, hw, _⟩ := long_words hx
      exact opn_of hl ⟨w, hw⟩
    | item hx h1 =>
      rename_i x e
      obtain ⟨w, hw, _⟩ := long_words hx
      obtain ⟨a, ha⟩ := opn_has f e h1 (hs.kid (by simp)) 0
      refine opn_of hl ⟨w ++ [⟨#[91]⟩] ++ a ++ [⟨#[93]⟩], ?_⟩
      show (wordsF x).bind (fun nm => (opnF f 0 e).bind fun e => some (nm ++ [⟨#[91]⟩] ++ e ++ [⟨#[93]⟩])) = _
      rw [hw, Option.bind_some, ha]
      rfl
    | call hx h1 =>
      rename_i x ks
      obtain ⟨w, hw, _⟩ := long_words hx
      obtain ⟨a, ha⟩ := items_has (g := opnF f 0) ks 0 (fun t ht => opn_has f t (h1 t ht) (hs.kid ht) 0)
      refine opn_of hl ⟨w ++ [⟨#[40]⟩] ++ a ++ [⟨#[41]⟩], ?_⟩
      show (wordsF x).bind (fun nm => (itemsF (opnF f 0) 0 ks).bind fun e => some (nm ++ [⟨#[40]⟩] ++ e ++ [⟨#[41]⟩])) = _
      rw [hw, Option.bind_some, ha]
      rfl
    | op h1 h2 =>
      rename_i m a b
      obtain ⟨w1, hw1⟩ := opn_has f a h1 (hs.kid (by simp)) (max (opIs m.toNat) 1)
      obtain ⟨w2, hw2⟩ := opn_has f b h2 (hs.kid (by simp)) (opIs m.toNat + 1)
      refine opn_of hl ⟨w1 ++ [opAt m.toNat] ++ w2, ?_⟩
      show (opnF f (max (opIs m.toNat) 1) a).bind (fun a => (opnF f (opIs m.toNat + 1) b).bind fun b => some (a ++ [opAt m.toNat] ++ b)) = _
      rw [hw1, Option.bind_some, hw2]
      rfl
    | neg h1 =>
      rename_i a
      obtain ⟨w, hw⟩ := opn_has f a h1 (hs.kid (by simp)) 3
      refine opn_of hl ⟨[⟨#[45]⟩] ++ w, ?_⟩
      show (opnF f 3 a).bind (fun e => some ([⟨#[45]⟩] ++ e)) = _
      rw [hw]
      rfl
    | nott h1 =>
      rename_i a
      obtain ⟨w, hw⟩ := opn_has f a h1 (hs.kid (by simp)) 3
      refine opn_of hl ⟨[⟨#[33]⟩] ++ w, ?_⟩
      show (opnF f 3 a).bind (fun e => some ([⟨#[33]⟩] ++ e)) = _
      rw [hw]
      rfl
theorem place_has {f : Nat} {t : Tree} (h : PlT t) (hs : Sz f t) : ∃ w, placeW f t = some w := by
  have hl : lookB [16, 17] t = true := by
    cases h with
    | nam hx => exact look_of (by decide) (by decide) (by decide) (by decide) (by decide) (text_two hx)
    | item hx h1 => exact look_of (by decide) (by decide) (by decide) (show (1 : Int) ≤ 1 by omega) (show (1 : Int) ≤ 1 by omega) (text_two hx)
  unfold placeW
  rw [if_pos hl]
  exact opn_has f t h.ex hs 0
theorem do_has {f : Nat} {t : Tree} (h : CaT t) (hs : Sz f t) : ∃ w, doW f t = some w := by
  have hl : lookB [18] t = true := by
    cases h with
    | mk hx h1 => exact look_of (by decide) (by decide) (by decide) (Int.natCast_nonneg _) hs.len (text_two hx)
  unfold doW
  rw [if_pos hl]
  exact opn_has f t h.ex hs 0
theorem bI_range (b : Bool) : 0 ≤ bI b ∧ bI b ≤ 1 := by cases b <;> decide
structure SHas (f : Nat) : Prop where
  bl : ∀ t, BlT t → Sz f t → ∃ w, blockW f t = some w
  st : ∀ t, StT t → Sz f t → ∃ w, statW f t = some w
theorem one_m {P : Tree → Prop} {t : Tree} (h : P t) : ∀ u ∈ [t], P u := fun u hu => by
  rw [List.mem_singleton] at hu; rw [hu]; exact h
theorem s_has : ∀ f, SHas f
  | 0 => ⟨fun t _ hs => hs.pos.elim, fun t _ hs => hs.pos.elim⟩
  | f + 1 => by
    have ih := s_has f
    constructor
    · intro t h hs
      cases h with
      | mk h1 =>
        rename_i ks
        obtain ⟨w, hw⟩ := seq_has (g := statW f) ks (fun t ht => ih.st t (h1 t ht) (hs.kid ht))
        have hl : lookB [6] (.node 6 empty 0 ks) = true := look_of (by decide) (by decide) (by decide) (Int.natCast_nonneg _) hs.len text_zero
        unfold blockW
        rw [if_pos hl, hw]
        exact ⟨_, rfl⟩
    · intro t h hs
      cases h with
      | loc l hx h1 =>
        rename_i x e
        obtain ⟨w, hw⟩ := opn_has f e h1 (hs.kid (by simp)) 0
        have hl : lookB statKinds (.node 7 x (bI l) [e]) = true := look_of (by decide) (bI_range l).1 (bI_range l).2 (show (1 : Int) ≤ 1 by omega) (show (1 : Int) ≤ 1 by omega) (text_one hx)
        unfold statW
        rw [if_pos hl]
        show ∃ w, (opnF f 0 e).bind (fun e => some ([labW (bI l)] ++ [x, ⟨#[61]⟩] ++ e ++ [⟨#[59]⟩])) = some w
        rw [hw]
        exact ⟨_, rfl⟩
      | set h1 h2 =>
        rename_i p e
        obtain ⟨a, ha⟩ := place_has (f := f) h1 (hs.kid (by simp))
        obtain ⟨w, hw⟩ := opn_has f e h2 (hs.kid (by simp)) 0
        have hl : lookB statKinds (.node 8 empty 0 [p, e]) = true := look_of (by decide) (by decide) (by decide) (show (2 : Int) ≤ 2 by omega) (show (2 : Int) ≤ 2 by omega) text_zero
        unfold statW
        rw [if_pos hl]
        show ∃ w, (placeW f p).bind (fun p => (opnF f 0 e).bind fun e => some (p ++ [⟨#[61]⟩] ++ e ++ [⟨#[59]⟩])) = some w
        rw [ha, Option.bind_some, hw]
        exact ⟨_, rfl⟩
      | dd h1 =>
        rename_i c
        obtain ⟨w, hw⟩ := do_has (f := f) h1 (hs.kid (by simp))
        have hl : lookB statKinds (.node 9 empty 0 [c]) = true := look_of (by decide) (by decide) (by decide) (show (1 : Int) ≤ 1 by omega) (show (1 : Int) ≤ 1 by omega) text_zero
        unfold statW
        rw [if_pos hl]
        show ∃ w, (doW f c).bind (fun e => some ([⟨#[100, 111]⟩] ++ e ++ [⟨#[59]⟩])) = some w
        rw [hw]
        exact ⟨_, rfl⟩
      | ift h1 h2 =>
        rename_i e b
        obtain ⟨c, hc⟩ := round_has (g := opnF f 0) (ks := [e]) (one_m (opn_has f e h1 (hs.kid (by simp)) 0))
        obtain ⟨w, hw⟩ := ih.bl b h2 (hs.kid (by simp))
        have hl : lookB statKinds (.node 10 empty 0 [e, b]) = true := look_of (by decide) (by decide) (by decide) (show (2 : Int) ≤ 2 by omega) (show (2 : Int) ≤ 3 by omega) text_zero
        unfold statW
        rw [if_pos hl]
        show ∃ w, (roundF (opnF f 0) [e]).bind (fun c => (blockW f b).bind fun b => some ([⟨#[105, 102]⟩] ++ c ++ b)) = some w
        rw [hc, Option.bind_some, hw]
        exact ⟨_, rfl⟩
      | ife h1 h2 h3 =>
        rename_i e b d
        obtain ⟨c, hc⟩ := round_has (g := opnF f 0) (ks := [e]) (one_m (opn_has f e h1 (hs.kid (by simp)) 0))
        obtain ⟨w, hw⟩ := ih.bl b h2 (hs.kid (by simp))
        obtain ⟨v, hv⟩ := ih.bl d h3 (hs.kid (by simp))
        have hl : lookB statKinds (.node 10 empty 0 [e, b, d]) = true := look_of (by decide) (by decide) (by decide) (show (2 : Int) ≤ 3 by omega) (show (3 : Int) ≤ 3 by omega) text_zero
        unfold statW
        rw [if_pos hl]
        show ∃ w, (roundF (opnF f 0) [e]).bind (fun c => (blockW f b).bind fun b => (blockW f d).bind fun d => some ([⟨#[105, 102]⟩] ++ c ++ b ++ [⟨#[101, 108, 115, 101]⟩] ++ d)) = some w
        rw [hc, Option.bind_some, hw, Option.bind_some, hv]
        exact ⟨_, rfl⟩
      | whi h1 h2 =>
        rename_i e b
        obtain ⟨c, hc⟩ := round_has (g := opnF f 0) (ks := [e]) (one_m (opn_has f e h1 (hs.kid (by simp)) 0))
        obtain ⟨w, hw⟩ := ih.bl b h2 (hs.kid (by simp))
        have hl : lookB statKinds (.node 11 empty 0 [e, b]) = true := look_of (by decide) (by decide) (by decide) (show (2 : Int) ≤ 2 by omega) (show (2 : Int) ≤ 2 by omega) text_zero
        unfold statW
        rw [if_pos hl]
        show ∃ w, (roundF (opnF f 0) [e]).bind (fun c => (blockW f b).bind fun b => some ([⟨#[119, 104, 105, 108, 101]⟩] ++ c ++ b)) = some w
        rw [hc, Option.bind_some, hw]
        exact ⟨_, rfl⟩
      | out l h1 =>
        rename_i e
        obtain ⟨w, hw⟩ := opn_has f e h1 (hs.kid (by simp)) 0
        have hl : lookB statKinds (.node 12 empty (bI l) [e]) = true := look_of (by decide) (bI_range l).1 (bI_range l).2 (show (1 : Int) ≤ 1 by omega) (show (1 : Int) ≤ 1 by omega) text_zero
        unfold statW
        rw [if_pos hl]
        show ∃ w, (opnF f 0 e).bind (fun e => some ([⟨#[111, 117, 116]⟩] ++ [labW (bI l)] ++ e ++ [⟨#[59]⟩])) = some w
        rw [hw]
        exact ⟨_, rfl⟩
      | inn l h1 =>
        rename_i e
        obtain ⟨w, hw⟩ := place_has (f := f) h1 (hs.kid (by simp))
        have hl : lookB statKinds (.node 13 empty (bI l) [e]) = true := look_of (by decide) (bI_range l).1 (bI_range l).2 (show (1 : Int) ≤ 1 by omega) (show (1 : Int) ≤ 1 by omega) text_zero
        unfold statW
        rw [if_pos hl]
        show ∃ w, (placeW f e).bind (fun e => some ([⟨#[105, 110]⟩] ++ [labW (bI l)] ++ e ++ [⟨#[59]⟩])) = some w
        rw [hw]
        exact ⟨_, rfl⟩
      | ret h1 =>
        rename_i e
        obtain ⟨w, hw⟩ := opn_has f e h1 (hs.kid (by simp)) 0
        have hl : lookB statKinds (.node 14 empty 0 [e]) = true := look_of (by decide) (by decide) (by decide) (show (1 : Int) ≤ 1 by omega) (show (1 : Int) ≤ 1 by omega) text_zero
        unfold statW
        rw [if_pos hl]
        show ∃ w, (opnF f 0 e).bind (fun e => some ([⟨#[114, 101, 116, 117, 114, 110]⟩] ++ e ++ [⟨#[59]⟩])) = some w
        rw [hw]
        exact ⟨_, rfl⟩

theorem par_has (q : ByteArray × Bool) (h : isName q.1 = true) : ∃ w, parW (parT q) = some w := by
  have hl : lookB [5] (.node 5 q.1 (bI q.2) []) = true := look_of (by decide) (bI_range q.2).1 (bI_range q.2).2 (by decide) (by decide) (text_one h)
  unfold parT parW
  dsimp only
  rw [if_pos hl]
  exact ⟨_, rfl⟩
theorem g_range (g : Option Bool) : 0 ≤ gI g ∧ gI g ≤ 8 := by
  cases g with
  | none => decide
  | some b => cases b <;> decide
theorem decl_has {f : Nat} (k : Kid) (hi : impB k.tree = false) (h : k.good ∧ k.named ∧ deepK k) (hs : Sz (f + 1) k.tree) : ∃ w, declW f k.tree = some w := by
  obtain ⟨h1, h2, h3⟩ := h
  cases k with
  | imp x => exact absurd hi (by simp [impB, Kid.tree])
  | var x p l n =>
    have hp := bI_range p
    have hb := bI_range l
    cases n with
    | none =>
      have hl : lookB [3, 4] (.node 3 x (2 * bI p + bI l) []) = true := look_of (by decide) (show (0 : Int) ≤ _ by omega) (show _ ≤ (3 : Int) by omega) (by decide) (by decide) (text_one h2)
      show ∃ w, declW f (.node 3 x (2 * bI p + bI l) []) = some w
      unfold declW
      dsimp only
      rw [if_pos hl, if_neg (by decide)]
      exact ⟨_, rfl⟩
    | some n =>
      have hl : lookB [3, 4] (.node 3 x (2 * bI p + bI l) [.node 15 empty n []]) = true := look_of (by decide) (show (0 : Int) ≤ _ by omega) (show _ ≤ (3 : Int) by omega) (show (0 : Int) ≤ 1 by omega) (show (1 : Int) ≤ 1 by omega) (text_one h2)
      have hk : Sz f (.node 15 empty n []) := Sz.kid (k := 3) (x := x) (m := 2 * bI p + bI l) (ks := [.node 15 empty n []]) hs (by simp)
      have hl2 : lookB [15] (.node 15 empty n []) = true := look_of (by decide) (hk.ok.1 rfl).1 (hk.ok.1 rfl).2 (by decide) (by decide) text_zero
      have hn : numK (.node 15 empty n []) = some [numW n] := by
        unfold numK
        dsimp only
        rw [if_pos hl2]
      show ∃ w, declW f (.node 3 x (2 * bI p + bI l) [.node 15 empty n []]) = some w
      unfold declW
      dsimp only
      rw [if_pos hl, if_neg (by decide), hn]
      exact ⟨_, rfl⟩
  | proc x p l g ps b =>
    have hp := bI_range p
    have hb := bI_range l
    have hg := g_range g
    have hs' : Sz (f + 1) (.node 4 x (2 * bI p + bI l + gI g) (ps.map parT ++ [b])) := hs
    have hl : lookB [3, 4] (.node 4 x (2 * bI p + bI l + gI g) (ps.map parT ++ [b])) = true :=
      look_of (by decide) (show (0 : Int) ≤ _ by omega) (show _ ≤ (11 : Int) by omega) (show (1 : Int) ≤ _ by simp; omega) hs'.len (text_one h2.1)
    obtain ⟨w, hw⟩ := (s_has f).bl b h3 (hs'.kid (by simp))
    obtain ⟨c, hc⟩ := round_has (g := parW) (ks := ps.map parT) (fun t ht => by
      obtain ⟨q, hq, rfl⟩ := List.mem_map.1 ht
      exact par_has q (h2.2 q hq))
    have e1 : (ps.map parT ++ [b]).take ((ps.map parT ++ [b]).length - 1) = ps.map parT := by
      rw [List.length_append, List.length_singleton, Nat.add_sub_cancel, List.take_left']
      rfl
    have e2 : (ps.map parT ++ [b]).getD ((ps.map parT ++ [b]).length - 1) noT = b := by
      rw [List.length_append, List.length_singleton, Nat.add_sub_cancel, List.getD_eq_getElem?_getD, List.getElem?_append_right (Nat.le_refl _)]
      simp
    show ∃ w, declW f (.node 4 x (2 * bI p + bI l + gI g) (ps.map parT ++ [b])) = some w
    unfold declW
    dsimp only
    rw [if_pos hl, if_pos rfl, e1, e2, hc, Option.bind_some, hw]
    exact ⟨_, rfl⟩
theorem imp_has (k : Kid) (hi : impB k.tree = true) (h : k.good ∧ k.named ∧ deepK k) : ∃ w, impW k.tree = some w := by
  cases k with
  | imp x =>
    have hl : lookB [2] (.node 2 x 0 []) = true := look_of (by decide) (by decide) (by decide) (by decide) (by decide) (text_one h.2.1)
    show ∃ w, impW (.node 2 x 0 []) = some w
    unfold impW
    dsimp only
    rw [if_pos hl]
    exact ⟨_, rfl⟩
  | var x p l n => cases n <;> exact absurd hi (by simp [impB, Kid.tree])
  | proc x p l g ps b => exact absurd hi (by simp [impB, Kid.tree])
section
variable (ts : List Tok)
theorem imports_kind : ∀ (f : Nat) (ks : List Tree) (s : St) (q : List Tree × St), (∀ t ∈ ks, impB t = true) → importsL ts f ks s = some q → ∀ t ∈ q.1, impB t = true
  | 0, ks, s, q, hk, h => by unfold importsL at h; cases h
  | f + 1, ks, s, q, hk, h => by
    unfold importsL at h
    split at h
    · refine imports_kind f _ _ _ ?_ h
      intro t ht
      rcases List.mem_append.1 ht with ht | ht
      · exact hk t ht
      · rw [List.mem_singleton] at ht; rw [ht]; rfl
    · cases h; exact hk
theorem decl_kind (f : Nat) (s : St) (q : Tree × St) (h : declF ts f s = some q) : impB q.1 = false := by
  unfold declF at h
  split at h
  · obtain ⟨a, ha, h⟩ := Option.bind_eq_some_iff.1 h
    obtain ⟨b, hb, h⟩ := Option.bind_eq_some_iff.1 h
    cases h; rfl
  · cases h; rfl
theorem decls_kind : ∀ (f : Nat) (ks : List Tree) (s : St) (q : List Tree × St), declsL ts f ks s = some q → ∃ B, q.1 = ks ++ B ∧ ∀ t ∈ B, impB t = false
  | 0, ks, s, q, h => by unfold declsL at h; cases h
  | f + 1, ks, s, q, h => by
    unfold declsL at h
    split at h
    · cases h; exact ⟨[], by simp, fun t ht => by cases ht⟩
    · obtain ⟨p, hp, h⟩ := Option.bind_eq_some_iff.1 h
      obtain ⟨B, e, hB⟩ := decls_kind f _ _ _ h
      refine ⟨p.1 :: B, by rw [e]; simp, ?_⟩
      intro t ht
      rcases List.mem_cons.1 ht with rfl | ht
      · exact decl_kind ts _ _ _ hp
      · exact hB t ht
end
theorem parse_order (x : ByteArray) (h : (parse x).code = 0) : ∃ (m : ByteArray) (A B : List Tree), (parse x).tree = .node 1 m 0 (A ++ B) ∧ (∀ t ∈ A, impB t = true) ∧ ∀ t ∈ B, impB t = false := by
  unfold parse at h ⊢
  cases hs : scan x.data.toList with
  | err c p =>
    rw [hs] at h
    exact absurd h (lexs.scan_err hs)
  | ok ts =>
    obtain ⟨p, q, hp, hq, hm⟩ := moduleF_has (ts := ts) (lexs.scan_len hs)
    rw [hs] at h
    simp only [hm] at h ⊢
    unfold judge at h ⊢
    cases hb : q.2.bad with
    | true =>
      rw [if_pos hb] at h
      simp at h
    | false =>
      rw [if_neg (by simp [hb])] at h ⊢
      cases hf : fitsT (.node 1 (headX ts) 0 q.1) with
      | false =>
        rw [if_neg (by simp [hf])] at h
        simp at h
      | true =>
        rw [if_pos rfl]
        obtain ⟨B, e, hB⟩ := decls_kind ts _ _ _ _ hq
        exact ⟨headX ts, p.1, B, by show Tree.node 1 _ 0 q.1 = _; rw [e], imports_kind ts _ _ _ _ (fun t ht => by cases ht) hp, hB⟩
theorem take_imps {B : List Tree} (hB : ∀ t ∈ B, impB t = false) : ∀ (A : List Tree), (∀ t ∈ A, impB t = true) → (A ++ B).takeWhile impB = A ∧ (A ++ B).dropWhile impB = B
  | [], _ => by
    cases B with
    | nil => exact ⟨rfl, rfl⟩
    | cons b r =>
      have := hB b (List.mem_cons_self)
      simp [this]
  | a :: r, h => by
    have h1 := h a (List.mem_cons_self)
    obtain ⟨h2, h3⟩ := take_imps hB r (fun t ht => h t (List.mem_cons_of_mem _ ht))
    simp only [List.cons_append, List.takeWhile_cons, List.dropWhile_cons, h1, if_true, h2, h3, and_self]
/-- what looks like a module has words -/
theorem shape_words {m : ByteArray} {ks : List Kid} {A B : List Tree} {f : Nat} (hn : isName m = true) (hk : ∀ k ∈ ks, k.good ∧ k.named ∧ deepK k) (e' : ks.map Kid.tree = A ++ B) (hA : ∀ t ∈ A, impB t = true) (hB : ∀ t ∈ B, impB t = false)
    (hs : Sz (f + 1 + 1) (.node 1 m 0 (ks.map Kid.tree))) : ∃ w, moduleW f (.node 1 m 0 (ks.map Kid.tree)) = some w := by
  have hl : lookB [1] (.node 1 m 0 (ks.map Kid.tree)) = true := look_of (by decide) (by decide) (by decide) (Int.natCast_nonneg _) hs.len (text_one hn)
  obtain ⟨t1, t2⟩ := take_imps hB A hA
  rw [← e'] at t1 t2
  have hmem : ∀ t ∈ ks.map Kid.tree, ∃ k ∈ ks, k.tree = t := fun t ht => List.mem_map.1 ht
  obtain ⟨a, ha⟩ := seq_has (g := impW) A (fun t ht => by
    obtain ⟨k, hk1, rfl⟩ := hmem t (by rw [e']; exact List.mem_append_left _ ht)
    exact imp_has k (hA _ ht) (hk k hk1))
  obtain ⟨b, hb⟩ := seq_has (g := declW f) B (fun t ht => by
    have hin : t ∈ ks.map Kid.tree := by rw [e']; exact List.mem_append_right _ ht
    obtain ⟨k, hk1, rfl⟩ := hmem t hin
    exact decl_has k (hB _ ht) (hk k hk1) (hs.kid hin))
  unfold moduleW
  dsimp only
  rw [if_pos hl, t1, t2, ha, Option.bind_some, hb]
  exact ⟨_, rfl⟩
/-- THE WORDS: what was read as a module has words -/
theorem parse_words (x : ByteArray) (h : (parse x).code = 0) (f : Nat) (hf14 : 14 ≤ f) : ∃ w, moduleW f (parse x).tree = some w := by
  obtain ⟨m, ks, e, hm, hn, hk, hf⟩ := parse_shape4 x h
  obtain ⟨m', A, B, e', hA, hB⟩ := parse_order x h
  obtain ⟨h1, h2⟩ := fits_sz _ hf
  have hs : Sz (f + 1 + 1) (parse x).tree := ⟨parse_nu x, h1, by omega⟩
  rw [e] at e' hs ⊢
  injection e' with _ _ _ e'
  exact shape_words hn hk e' hA hB hs

/-- what was read is printed, unless that is too long -/
theorem print_read {x : ByteArray} (h : (parse x).code = 0) : (printT (parse x).tree).2 = 0 ∨ (printT (parse x).tree) = ([], 1) := by
  obtain ⟨m, ks, e, hm, hn, hk, hf⟩ := parse_shape4 x h
  obtain ⟨w, hw⟩ := parse_words x h 16 (by omega)
  unfold printT
  rw [if_pos hf, hw]
  dsimp only
  by_cases hl : 3000 < (joinW w).length
  · rw [if_pos hl]; exact .inr rfl
  · rw [if_neg hl]; exact .inl rfl
end pr
namespace pr
open Go.Proofs.YtoobkaebahogdaaGreatDoor.lexs (Tok scan numE val digB)
open Go.Proofs.YtoobkaebahogdaaGreatDoor.syn Go.Proofs.YtoobkaebahogdaaGreatDoor.face

mutual
def TxT : Tree → Prop
  | .node k x m ks => x.size ≤ 40 ∧ TxL ks
def TxL : List Tree → Prop
  | [] => True
  | t :: r => TxT t ∧ TxL r
end
section
variable (ts : List Tok)
theorem n40 (s : St) : (name ts s).1.size ≤ 40 := by have := name_size ts s; omega
theorem l40 (s : St) : (whole ts s).1.size ≤ 40 := by
  unfold whole
  dsimp only
  have h1 := name_size ts s
  split
  · have h2 := name_size ts (eat ts ⟨#[46]⟩ (name ts s).2).2
    dsimp only
    rw [ByteArray.size_append, ByteArray.size_append]
    have h3 : (⟨#[46]⟩ : ByteArray).size = 1 := rfl
    omega
  · dsimp only; omega
end
theorem TxL.snoc {t : Tree} (ht : TxT t) : ∀ {ks : List Tree}, TxL ks → TxL (ks ++ [t])
  | [], _ => by show TxT t ∧ TxL []; exact ⟨ht, by unfold TxL; trivial⟩
  | a :: r, h => by
    unfold TxL at h
    show TxT a ∧ TxL (r ++ [t])
    exact ⟨h.1, TxL.snoc ht h.2⟩
theorem txT_leaf {k m : Int} {x : ByteArray} (h : x.size ≤ 40) : TxT (.node k x m []) := by unfold TxT; exact ⟨h, by unfold TxL; trivial⟩
theorem txT_one {k m : Int} {x : ByteArray} {t : Tree} (h : x.size ≤ 40) (ht : TxT t) : TxT (.node k x m [t]) := by
  unfold TxT TxL TxL; exact ⟨h, ht, trivial⟩
theorem txT_two {k m : Int} {x : ByteArray} {t u : Tree} (h : x.size ≤ 40) (ht : TxT t) (hu : TxT u) : TxT (.node k x m [t, u]) := by
  unfold TxT TxL TxL TxL; exact ⟨h, ht, hu, trivial⟩
theorem txT_three {k m : Int} {x : ByteArray} {t u v : Tree} (h : x.size ≤ 40) (ht : TxT t) (hu : TxT u) (hv : TxT v) : TxT (.node k x m [t, u, v]) := by
  unfold TxT TxL TxL TxL TxL; exact ⟨h, ht, hu, hv, trivial⟩
section
variable (ts : List Tok)
/-- what is read as an expression declares nothing -/
structure TxE (f : Nat) : Prop where
  ex : ∀ s q, exprF ts f s = some q → TxT q.1
  bo : ∀ l s q, boundF ts f l s = some q → TxT q.1
  bl : ∀ l n s q, TxT n → boundL ts f l n s = some q → TxT q.1
  un : ∀ s q, unaryF ts f s = some q → TxT q.1
  ak : ∀ s q, askedF ts f s = some q → TxT q.1
  pl : ∀ x s q, x.size ≤ 40 → placeF ts f x s = some q → TxT q.1
  ca : ∀ x s q, x.size ≤ 40 → callF ts f x s = some q → TxT q.1
  cl : ∀ x ks s on q, x.size ≤ 40 → TxL ks → callL ts f x ks s on = some q → TxT q.1
theorem number_tx (s : St) : TxT (number ts s).1 := by
  unfold number
  cases hh : here ts s with
  | none => exact txT_leaf (by first | exact Nat.zero_le _ | exact n40 ts _ | exact l40 ts _ | assumption | decide)
  | some t =>
    dsimp only
    by_cases h2 : (t.kind == 2) = true
    · rw [if_pos h2]
      exact txT_leaf (by first | exact Nat.zero_le _ | exact n40 ts _ | exact l40 ts _ | assumption | decide)
    · rw [if_neg h2]
      exact txT_leaf (by first | exact Nat.zero_le _ | exact n40 ts _ | exact l40 ts _ | assumption | decide)
theorem txE : ∀ f, TxE ts f
  | 0 => by
    constructor
    · intro s q h; unfold exprF at h; cases h
    · intro l s q h; unfold boundF at h; cases h
    · intro l n s q hn h; unfold boundL at h; cases h
    · intro s q h; unfold unaryF at h; cases h
    · intro s q h; unfold askedF at h; cases h
    · intro x s q hz h; unfold placeF at h; cases h
    · intro x s q hz h; unfold callF at h; cases h
    · intro x ks s on q hz hk h; unfold callL at h; cases h
  | f + 1 => by
    have ih := txE f
    constructor
    · intro s q h
      unfold exprF at h
      split at h
      · cases h; exact txT_leaf (by first | exact Nat.zero_le _ | exact n40 ts _ | exact l40 ts _ | assumption | decide)
      · exact ih.bo _ _ _ h
    · intro l s q h
      unfold boundF at h
      split at h
      · exact ih.un _ _ h
      · obtain ⟨p, hp, h⟩ := Option.bind_eq_some_iff.1 h
        exact ih.bl _ _ _ _ (ih.bo _ _ _ hp) h
    · intro l n s q hn h
      unfold boundL at h
      split at h
      · cases h; exact hn
      · split at h
        · cases h; exact hn
        · rename_i hs
          obtain ⟨p, hp, h⟩ := Option.bind_eq_some_iff.1 h
          have h2 := ih.bo _ _ _ hp
          split at h
          · cases h; exact txT_two (by first | exact Nat.zero_le _ | exact n40 ts _ | exact l40 ts _ | assumption | decide) hn h2
          · exact ih.bl _ _ _ _ (txT_two (by first | exact Nat.zero_le _ | exact n40 ts _ | exact l40 ts _ | assumption | decide) hn h2) h
    · intro s q h
      unfold unaryF at h
      split at h
      · obtain ⟨p, hp, h⟩ := Option.bind_eq_some_iff.1 h
        cases h; exact txT_one (by first | exact Nat.zero_le _ | exact n40 ts _ | exact l40 ts _ | assumption | decide) (ih.un _ _ hp)
      · split at h
        · obtain ⟨p, hp, h⟩ := Option.bind_eq_some_iff.1 h
          cases h; exact txT_one (by first | exact Nat.zero_le _ | exact n40 ts _ | exact l40 ts _ | assumption | decide) (ih.un _ _ hp)
        · split at h
          · exact ih.ak _ _ h
          · split at h
            · cases h; exact number_tx ts s
            · split at h
              · exact ih.ca _ _ _ (by first | exact Nat.zero_le _ | exact n40 ts _ | exact l40 ts _ | assumption | decide) h
              · exact ih.pl _ _ _ (by first | exact Nat.zero_le _ | exact n40 ts _ | exact l40 ts _ | assumption | decide) h
    · intro s q h
      unfold askedF at h
      obtain ⟨p, hp, h⟩ := Option.bind_eq_some_iff.1 h
      cases h
      show TxT p.1
      exact ih.ex _ _ hp
    · intro x s q hz h
      unfold placeF at h
      split at h
      · obtain ⟨p, hp, h⟩ := Option.bind_eq_some_iff.1 h
        cases h; exact txT_one (by first | exact Nat.zero_le _ | exact n40 ts _ | exact l40 ts _ | assumption | decide) (ih.ex _ _ hp)
      · cases h; exact txT_leaf (by first | exact Nat.zero_le _ | exact n40 ts _ | exact l40 ts _ | assumption | decide)
    · intro x s q hz h
      unfold callF at h
      split at h
      · cases h; exact txT_leaf (by first | exact Nat.zero_le _ | exact n40 ts _ | exact l40 ts _ | assumption | decide)
      · exact ih.cl _ _ _ _ _ hz (by unfold TxL; trivial) h
    · intro x ks s on q hz hk h
      unfold callL at h
      split at h
      · obtain ⟨p, hp, h⟩ := Option.bind_eq_some_iff.1 h
        exact ih.cl _ _ _ _ _ hz (TxL.snoc (ih.ex _ _ hp) hk) h
      · cases h
        show TxT (.node 18 x 0 ks)
        unfold TxT
        exact ⟨(by first | exact Nat.zero_le _ | exact n40 ts _ | exact l40 ts _ | assumption | decide), hk⟩
structure TxS (f : Nat) : Prop where
  bl : ∀ s q, blockF ts f s = some q → TxT q.1
  li : ∀ ks s q, TxL ks → blockL ts f ks s = some q → TxT q.1
  st : ∀ s q, statF ts f s = some q → TxT q.1
theorem txS : ∀ f, TxS ts f
  | 0 => by
    constructor
    · intro s q h; unfold blockF at h; cases h
    · intro ks s q hk h; unfold blockL at h; cases h
    · intro s q h; unfold statF at h; cases h
  | f + 1 => by
    have ih := txS f
    have ie := txE ts f
    constructor
    · intro s q h
      unfold blockF at h
      exact ih.li _ _ _ (by unfold TxL; trivial) h
    · intro ks s q hk h
      unfold blockL at h
      have hn : TxT (.node 6 empty 0 ks) := by unfold TxT; exact ⟨(by first | exact Nat.zero_le _ | exact n40 ts _ | exact l40 ts _ | assumption | decide), hk⟩
      split at h
      · cases h; exact hn
      · split at h
        · cases h; exact hn
        · obtain ⟨p, hp, h⟩ := Option.bind_eq_some_iff.1 h
          exact ih.li _ _ _ (TxL.snoc (ih.st _ _ hp) hk) h
    · intro s q h
      unfold statF at h
      split at h
      · obtain ⟨x, hx, h⟩ := Option.bind_eq_some_iff.1 h
        obtain ⟨b, hb, h⟩ := Option.bind_eq_some_iff.1 h
        split at h
        · obtain ⟨c, hc, h⟩ := Option.bind_eq_some_iff.1 h
          cases h; exact txT_three (by first | exact Nat.zero_le _ | exact n40 ts _ | exact l40 ts _ | assumption | decide) (ie.ak _ _ hx) (ih.bl _ _ hb) (ih.bl _ _ hc)
        · cases h; exact txT_two (by first | exact Nat.zero_le _ | exact n40 ts _ | exact l40 ts _ | assumption | decide) (ie.ak _ _ hx) (ih.bl _ _ hb)
      · split at h
        · obtain ⟨x, hx, h⟩ := Option.bind_eq_some_iff.1 h
          obtain ⟨b, hb, h⟩ := Option.bind_eq_some_iff.1 h
          cases h; exact txT_two (by first | exact Nat.zero_le _ | exact n40 ts _ | exact l40 ts _ | assumption | decide) (ie.ak _ _ hx) (ih.bl _ _ hb)
        · split at h
          · obtain ⟨x, hx, h⟩ := Option.bind_eq_some_iff.1 h
            cases h; exact txT_one (by first | exact Nat.zero_le _ | exact n40 ts _ | exact l40 ts _ | assumption | decide) (ie.ex _ _ hx)
          · split at h
            · obtain ⟨x, hx, h⟩ := Option.bind_eq_some_iff.1 h
              cases h; exact txT_one (by first | exact Nat.zero_le _ | exact n40 ts _ | exact l40 ts _ | assumption | decide) (ie.ca _ _ _ (by first | exact Nat.zero_le _ | exact n40 ts _ | exact l40 ts _ | assumption | decide) hx)
            · split at h
              · obtain ⟨x, hx, h⟩ := Option.bind_eq_some_iff.1 h
                cases h; exact txT_one (by first | exact Nat.zero_le _ | exact n40 ts _ | exact l40 ts _ | assumption | decide) (ie.ex _ _ hx)
              · split at h
                · obtain ⟨x, hx, h⟩ := Option.bind_eq_some_iff.1 h
                  cases h; exact txT_one (by first | exact Nat.zero_le _ | exact n40 ts _ | exact l40 ts _ | assumption | decide) (ie.pl _ _ _ (by first | exact Nat.zero_le _ | exact n40 ts _ | exact l40 ts _ | assumption | decide) hx)
                · split at h
                  · obtain ⟨x, hx, h⟩ := Option.bind_eq_some_iff.1 h
                    cases h; exact txT_one (by first | exact Nat.zero_le _ | exact n40 ts _ | exact l40 ts _ | assumption | decide) (ie.ex _ _ hx)
                  · obtain ⟨x, hx, h⟩ := Option.bind_eq_some_iff.1 h
                    obtain ⟨y, hy, h⟩ := Option.bind_eq_some_iff.1 h
                    cases h; exact txT_two (by first | exact Nat.zero_le _ | exact n40 ts _ | exact l40 ts _ | assumption | decide) (ie.pl _ _ _ (by first | exact Nat.zero_le _ | exact n40 ts _ | exact l40 ts _ | assumption | decide) hx) (ie.ex _ _ hy)
end

section
variable (ts : List Tok)
theorem paramsL_tx : ∀ (f : Nat) (ks : List Tree) (s : St) (q : List Tree × St), TxL ks → paramsL ts f ks s = some q → TxL q.1
  | 0, ks, s, q, hk, h => by unfold paramsL at h; cases h
  | f + 1, ks, s, q, hk, h => by
    unfold paramsL at h
    have hn := TxL.snoc (txT_leaf (x := (name ts (label ts s).2).1) (k := 5) (m := (label ts s).1) (by first | exact Nat.zero_le _ | exact n40 ts _ | exact l40 ts _ | assumption | decide)) hk
    split at h
    · exact paramsL_tx f _ _ _ hn h
    · cases h; exact hn
theorem decl_tx (f : Nat) (s : St) (q : Tree × St) (h : declF ts f s = some q) : TxT q.1 := by
  unfold declF at h
  split at h
  · obtain ⟨a, ha, h⟩ := Option.bind_eq_some_iff.1 h
    obtain ⟨b, hb, h⟩ := Option.bind_eq_some_iff.1 h
    cases h
    have h1 : TxL a.1 := by
      unfold params at ha
      split at ha
      · cases ha; unfold TxL; trivial
      · exact paramsL_tx ts f [] _ _ (by unfold TxL; trivial) ha
    show TxT (.node 4 _ _ _)
    unfold TxT
    exact ⟨(by first | exact Nat.zero_le _ | exact n40 ts _ | exact l40 ts _ | assumption | decide), TxL.snoc ((txS ts f).bl _ _ hb) h1⟩
  · cases h
    show TxT (.node 3 _ _ _)
    unfold TxT
    refine ⟨(by first | exact Nat.zero_le _ | exact n40 ts _ | exact l40 ts _ | assumption | decide), ?_⟩
    unfold varS
    split
    · unfold TxL TxL
      exact ⟨number_tx ts _, trivial⟩
    · unfold TxL; trivial
theorem importsL_tx : ∀ (f : Nat) (ks : List Tree) (s : St) (q : List Tree × St), TxL ks → importsL ts f ks s = some q → TxL q.1
  | 0, ks, s, q, hk, h => by unfold importsL at h; cases h
  | f + 1, ks, s, q, hk, h => by
    unfold importsL at h
    split at h
    · exact importsL_tx f _ _ _ (TxL.snoc (txT_leaf (by first | exact Nat.zero_le _ | exact n40 ts _ | exact l40 ts _ | assumption | decide)) hk) h
    · cases h; exact hk
theorem declsL_tx : ∀ (f : Nat) (ks : List Tree) (s : St) (q : List Tree × St), TxL ks → declsL ts f ks s = some q → TxL q.1
  | 0, ks, s, q, hk, h => by unfold declsL at h; cases h
  | f + 1, ks, s, q, hk, h => by
    unfold declsL at h
    split at h
    · cases h; exact hk
    · obtain ⟨p, hp, h⟩ := Option.bind_eq_some_iff.1 h
      exact declsL_tx f _ _ _ (TxL.snoc (decl_tx ts _ _ _ hp) hk) h
theorem module_tx (q : Tree × St) (h : moduleF ts = some q) : TxT q.1 := by
  unfold moduleF at h
  obtain ⟨p, hp, h⟩ := Option.bind_eq_some_iff.1 h
  obtain ⟨r, hr, h⟩ := Option.bind_eq_some_iff.1 h
  cases h
  show TxT (.node 1 _ 0 _)
  unfold TxT
  exact ⟨(by first | exact Nat.zero_le _ | exact n40 ts _ | exact l40 ts _ | assumption | decide), declsL_tx ts _ _ _ _ (importsL_tx ts _ _ _ _ (by unfold TxL; trivial) hp) hr⟩
end
theorem parse_tx (x : ByteArray) : TxT (parse x).tree := by
  have h0 : TxT none0 := txT_leaf (by first | exact Nat.zero_le _ | exact n40 ts _ | exact l40 ts _ | assumption | decide)
  unfold parse
  cases hs : scan x.data.toList with
  | err c p => exact h0
  | ok ts =>
    dsimp only
    cases hm : moduleF ts with
    | none => exact h0
    | some q =>
      dsimp only
      unfold judge
      split
      · exact h0
      · split
        · exact module_tx ts q hm
        · exact h0
end pr
namespace pr
open Go.Proofs.YtoobkaebahogdaaGreatDoor.lexs (Tok scan numE val digB)
open Go.Proofs.YtoobkaebahogdaaGreatDoor.syn Go.Proofs.YtoobkaebahogdaaGreatDoor.face Go.Proofs.YtoobkaebahogdaaGreatDoor.chk
/-- what words weigh: their bytes, and a blank each -/
def wt : List ByteArray → Nat
  | [] => 0
  | y :: r => y.size + 1 + wt r
theorem wt_app : ∀ (a b : List ByteArray), wt (a ++ b) = wt a + wt b
  | [], b => by simp [wt]
  | y :: r, b => by simp only [List.cons_append, wt, wt_app r b]; omega
theorem join_wt : ∀ (ws : List ByteArray), (joinW ws).length ≤ wt ws
  | [] => Nat.le_refl _
  | [y] => by have := lexs.len_L y; show y.data.toList.length ≤ y.size + 1 + 0; omega
  | y :: z :: r => by
    have h1 := lexs.len_L y
    have h2 := join_wt (z :: r)
    show (y.data.toList ++ 32 :: joinW (z :: r)).length ≤ y.size + 1 + wt (z :: r)
    simp only [List.length_append, List.length_cons]
    omega
/-- what the tokens ahead of a place weigh -/
def tw (ts : List Tok) (i : Nat) : Nat := ((ts.take i).map fun t => t.text.length + 1).sum
theorem tw_next {ts : List Tok} {i : Nat} {t : Tok} (h : ts[i]? = some t) : tw ts (i + 1) = tw ts i + (t.text.length + 1) := by
  obtain ⟨hi, e⟩ := List.getElem?_eq_some_iff.1 h
  unfold tw
  rw [List.take_succ_eq_append_getElem hi, List.map_append, List.sum_append, e]
  simp
theorem tw_zero (ts : List Tok) : tw ts 0 = 0 := by simp [tw]
section
variable {ts : List Tok} {s : St}
/-- a token that has a text -/
theorem txt_step (h : 0 < (txt ts s).size) : s.bad = false ∧ tw ts s.next.i = tw ts s.i + ((txt ts s).size + 1) := by
  unfold txt here at h ⊢
  by_cases hb : s.bad = true
  · rw [if_pos hb] at h; exact absurd h (by decide)
  · rw [if_neg hb] at h ⊢
    cases ht : ts[s.i]? with
    | none => rw [ht] at h; exact absurd h (by decide)
    | some t =>
      rw [ht] at h
      dsimp only at h ⊢
      by_cases hk : (t.kind == 2) = true
      · rw [if_pos hk] at h; exact absurd h (by decide)
      · rw [if_neg hk]
        refine ⟨by simpa using hb, ?_⟩
        show tw ts (s.i + 1) = _
        rw [tw_next ht]
        show _ = _ + (t.text.toArray.size + 1)
        simp
theorem eqS_size {x y : ByteArray} (h : eqS x y = true) : x.size = y.size := by rw [eqS_iff.1 h]
theorem eq_step {x : ByteArray} (h : eqS (txt ts s) x = true) (hx : 0 < x.size) : s.bad = false ∧ tw ts s.next.i = tw ts s.i + (x.size + 1) := by
  have e := eqS_size h
  have := txt_step (ts := ts) (s := s) (by omega)
  rw [e] at this
  exact this
theorem must_step {x : ByteArray} (hx : 0 < x.size) (h : (must ts x s).bad = false) : s.bad = false ∧ tw ts (must ts x s).i = tw ts s.i + (x.size + 1) := by
  unfold must at h ⊢
  by_cases he : eqS (txt ts s) x = true
  · rw [if_pos he]; exact eq_step he hx
  · rw [if_neg he] at h; simp [St.fail] at h
theorem name_step (h : (name ts s).2.bad = false) : s.bad = false ∧ isName (name ts s).1 = true ∧ tw ts (name ts s).2.i = tw ts s.i + ((name ts s).1.size + 1) := by
  unfold name at h ⊢
  by_cases he : isName (txt ts s) = true
  · rw [if_pos he]
    have hp : 0 < (txt ts s).size := by
      unfold isName at he
      simp only [Bool.and_eq_true, decide_eq_true_eq] at he
      omega
    obtain ⟨h1, h2⟩ := txt_step hp
    exact ⟨h1, he, h2⟩
  · rw [if_neg he] at h; simp [St.fail] at h
theorem label_step (h : (label ts s).2.bad = false) : s.bad = false ∧ tw ts (label ts s).2.i = tw ts s.i + ((labW (label ts s).1).size + 1) := by
  unfold label at h ⊢
  by_cases he : eqS (txt ts s) ⟨#[104, 105, 103, 104]⟩ = true
  · rw [if_pos he]
    obtain ⟨h1, h2⟩ := eq_step he (by decide)
    exact ⟨h1, h2⟩
  · rw [if_neg he] at h ⊢
    obtain ⟨h1, h2⟩ := must_step (by decide) h
    exact ⟨h1, h2⟩
theorem words_name {x : ByteArray} (h : isName x = true) : wordsF x = some [x] := by
  unfold wordsF
  rw [cutL_none _ (name_nopoint h)]
  dsimp only
  rw [if_pos h]
theorem words_two {a b : ByteArray} (ha : isName a = true) (hb : isName b = true) : wordsF (a ++ ⟨#[46]⟩ ++ b) = some [a, ⟨#[46]⟩, b] := by
  have e : (a ++ ⟨#[46]⟩ ++ b).data.toList = a.data.toList ++ 46 :: b.data.toList := by simp [ByteArray.data_append]
  unfold wordsF
  rw [e, cutL_some _ _ (name_nopoint ha)]
  dsimp only
  have ea : (⟨a.data.toList.toArray⟩ : ByteArray) = a := rfl
  have eb : (⟨b.data.toList.toArray⟩ : ByteArray) = b := rfl
  rw [ea, eb, if_pos (by rw [ha, hb]; rfl)]
theorem whole_step (h : (whole ts s).2.bad = false) : s.bad = false ∧ ∀ nm, wordsF (whole ts s).1 = some nm → tw ts (whole ts s).2.i = tw ts s.i + wt nm := by
  unfold whole at h ⊢
  dsimp only at h ⊢
  by_cases he : (eat ts ⟨#[46]⟩ (name ts s).2).1 = true
  · rw [if_pos he] at h ⊢
    dsimp only at h ⊢
    unfold eat at he h ⊢
    by_cases hp : eqS (txt ts (name ts s).2) ⟨#[46]⟩ = true
    · rw [if_pos hp] at h ⊢
      dsimp only at h ⊢
      obtain ⟨h1, h2, h3⟩ := name_step h
      obtain ⟨h4, h5⟩ := eq_step hp (by decide)
      obtain ⟨h6, h7, h8⟩ := name_step h4
      refine ⟨h6, fun nm hnm => ?_⟩
      rw [words_two h7 h2] at hnm
      obtain rfl := Option.some.inj hnm
      rw [h3, h5, h8]
      simp only [wt]
      have : (⟨#[46]⟩ : ByteArray).size = 1 := rfl
      omega
    · rw [if_neg hp] at he; cases he
  · rw [if_neg he] at h ⊢
    dsimp only at h ⊢
    obtain ⟨h6, h7, h8⟩ := name_step h
    refine ⟨h6, fun nm hnm => ?_⟩
    rw [words_name h7] at hnm
    obtain rfl := Option.some.inj hnm
    rw [h8]
    simp only [wt]
theorem whole_le (h : (whole ts s).2.bad = false) : tw ts s.i ≤ tw ts (whole ts s).2.i := by
  unfold whole at h ⊢
  dsimp only at h ⊢
  by_cases he : (eat ts ⟨#[46]⟩ (name ts s).2).1 = true
  · rw [if_pos he] at h ⊢
    dsimp only at h ⊢
    unfold eat at he h ⊢
    by_cases hp : eqS (txt ts (name ts s).2) ⟨#[46]⟩ = true
    · rw [if_pos hp] at h ⊢
      dsimp only at h ⊢
      obtain ⟨h1, h2, h3⟩ := name_step h
      obtain ⟨h4, h5⟩ := eq_step hp (by decide)
      obtain ⟨h6, h7, h8⟩ := name_step h4
      omega
    · rw [if_neg hp] at he; cases he
  · rw [if_neg he] at h ⊢
    obtain ⟨h6, h7, h8⟩ := name_step h
    dsimp only
    omega
end
theorem nDigits_le : ∀ (k u : Nat), u < 10 ^ (k + 1) → Lib.nDigits u ≤ k + 1
  | 0, u, h => by rw [Lib.nDigits_small (by simpa using h)]; exact Nat.le_refl _
  | k + 1, u, h => by
    by_cases hu : u < 10
    · rw [Lib.nDigits_small hu]; omega
    · rw [Lib.nDigits_big hu]
      have := nDigits_le k (u / 10) (by rw [Nat.pow_succ] at h; omega)
      omega
theorem num_size {l : List UInt8} (h : numE l = 0) (h0 : l ≠ []) : (numW (val l : Int)).size ≤ l.length := by
  have hd : l.all digB = true := by
    unfold numE at h
    split at h
    · cases h
    · rename_i hh; simpa using hh
  have hv := lexs.val_lt l hd
  show ((Lib.itoa (val l : Int)).toArray.size) ≤ _
  rw [List.size_toArray]
  unfold Lib.itoa
  rw [if_neg (by omega), Int.toNat_natCast, Lib.decDigits_length]
  have hp := List.length_pos_iff.2 h0
  obtain ⟨k, hk⟩ : ∃ k, l.length = k + 1 := ⟨l.length - 1, by omega⟩
  rw [hk] at hv ⊢
  exact nDigits_le k _ hv
/-- an expression's words, where it must bind so closely at most, weigh no more -/
def Lx (a : Nat) (l : Int) (t : Tree) (b : Nat) : Prop := ∀ F least w, least ≤ l → opnF F least t = some w → a + wt w ≤ b
theorem Lx.low {a b : Nat} {l l' : Int} {t : Tree} (h : Lx a l t b) (hl : l' ≤ l) : Lx a l' t b := fun F least w h1 h2 => h F least w (by omega) h2
theorem opn_inv {F : Nat} {least : Int} {k : Int} {x : ByteArray} {m : Int} {ks : List Tree} {w : List ByteArray} (h : opnF F least (.node k x m ks) = some w) :
    ∃ F' b, lookB exprKinds (.node k x m ks) = true ∧ F = F' + 1 ∧ bareF (opnF F') (.node k x m ks) = some b ∧ (least ≤ bindsF k m ∧ w = b ∨ ¬ least ≤ bindsF k m ∧ w = [⟨#[40]⟩] ++ b ++ [⟨#[41]⟩]) := by
  cases F with
  | zero => simp [opnF] at h
  | succ F =>
    unfold opnF at h
    by_cases hl : lookB exprKinds (.node k x m ks) = true
    · rw [if_pos hl] at h
      by_cases hb : least ≤ bindsF k m
      · rw [if_pos hb] at h
        exact ⟨F, w, hl, rfl, h, .inl ⟨hb, rfl⟩⟩
      · rw [if_neg hb] at h
        cases hq : bareF (opnF F) (.node k x m ks) with
        | none => rw [hq] at h; cases h
        | some b =>
          rw [hq] at h
          exact ⟨F, b, hl, rfl, hq, .inr ⟨hb, (Option.some.inj h).symm⟩⟩
    · rw [if_neg hl] at h; cases h
theorem opIs_pos (k : Nat) : 0 ≤ opIs k := by
  unfold opIs
  by_cases h : k < 10
  · have : ∀ i : Fin 10, 0 ≤ opB.getD i.val 0 := by decide
    exact this ⟨k, h⟩
  · rw [List.getD_eq_getElem?_getD, List.getElem?_eq_none (by show 10 ≤ k; omega)]
    exact Int.le_refl _
theorem binds_pos (k m : Int) : 0 ≤ bindsF k m := by
  unfold bindsF
  split
  · exact opIs_pos _
  · split <;> omega
theorem opn_zero {F : Nat} {least : Int} {t : Tree} {w : List ByteArray} (h : opnF F least t = some w) : ∃ b, opnF F 0 t = some b ∧ wt w ≤ wt b + 4 := by
  obtain ⟨k, x, m, ks⟩ := t
  obtain ⟨F', b, hl, rfl, hb, hc⟩ := opn_inv h
  refine ⟨b, ?_, ?_⟩
  · unfold opnF
    rw [if_pos hl, if_pos (binds_pos k m)]
    exact hb
  · rcases hc with ⟨_, rfl⟩ | ⟨_, rfl⟩
    · omega
    · rw [wt_app, wt_app]
      have h1 : wt [(⟨#[40]⟩ : ByteArray)] = 2 := rfl
      have h2 : wt [(⟨#[41]⟩ : ByteArray)] = 2 := rfl
      omega
theorem sign_ok {x : ByteArray} (h : 0 ≤ (sign x).2) : opIs (sign x).1.toNat = (sign x).2 ∧ (opAt (sign x).1.toNat).size = x.size ∧ 0 < x.size := by
  unfold sign at h ⊢
  cases hf : signs.find? (fun y => eqS y.1 x) with
  | none => rw [hf] at h; exact absurd h (by decide)
  | some y =>
    have hm := List.mem_of_find?_eq_some hf
    have he := List.find?_some hf
    have hs := eqS_size he
    have key : ∀ y ∈ signs, opIs y.2.1.toNat = y.2.2 ∧ (opAt y.2.1.toNat).size = y.1.size ∧ 0 < y.1.size := by decide +kernel
    obtain ⟨k1, k2, k3⟩ := key y hm
    exact ⟨k1, by show (opAt y.2.1.toNat).size = x.size; omega, by omega⟩
end pr
end Go.Proofs.YtoobkaebahogdaaGreatDoor
