/- A reader of statements that has answered answers the same with more fuel. -/
import Derived.Test.YtoobkaebahogdaaGreatDoorNB01
set_option linter.unusedVariables false
set_option linter.unusedSimpArgs false
namespace Go.Proofs.YtoobkaebahogdaaGreatDoor
namespace pr
open Go.Proofs.YtoobkaebahogdaaGreatDoor.syn Go.Proofs.YtoobkaebahogdaaGreatDoor.face Go.Proofs.YtoobkaebahogdaaGreatDoor.chk
theorem par_len (t : Tree) (o : List ByteArray) (h : parW t = some o) : (o.length : Int) ≤ 8 * cntT t - 1 := by
  have := cntT_pos t
  obtain ⟨k, x, m, ks⟩ := t
  unfold parW at h
  dsimp only at h
  split at h
  · obtain rfl := Option.some.inj h
    simp only [List.length_append, List.length_cons, List.length_nil]; push_cast; omega
  · cases h
theorem cnt_last : ∀ {ks : List Tree}, 0 < ks.length → cntL (ks.take (ks.length - 1)) + cntT (ks.getD (ks.length - 1) noT) = cntL ks
  | [], h => by simp at h
  | [a], h => by show cntL [] + cntT a = cntL [a]; unfold cntL; rw [show cntL ([] : List Tree) = 0 from rfl]; omega
  | a :: b :: r, h => by
    have ih := cnt_last (ks := b :: r) (by simp)
    have e : (a :: b :: r).length - 1 = (b :: r).length - 1 + 1 := by simp
    rw [e, List.take_succ_cons, List.getD_cons_succ]
    show cntL (a :: List.take ((b :: r).length - 1) (b :: r)) + _ = cntL (a :: b :: r)
    rw [show cntL (a :: List.take ((b :: r).length - 1) (b :: r)) = cntT a + cntL (List.take ((b :: r).length - 1) (b :: r)) from rfl, show cntL (a :: b :: r) = cntT a + cntL (b :: r) from rfl]
    omega
theorem pub_len (m : Int) : (if m.toNat / 2 % 2 = 1 then [⟨#[112, 117, 98]⟩] else [] : List ByteArray).length ≤ 1 := by
  split <;> simp
theorem giv_len (m : Int) : (givW m).length ≤ 2 := by
  unfold givW
  split
  · simp
  · split <;> simp
theorem decl_len {f : Nat} (t : Tree) (w : List ByteArray) (ho : declW f t = some w) : (w.length : Int) ≤ 8 * cntT t := by
  obtain ⟨k, x, m, ks⟩ := t
  have hp0 := cntL_pos ks
  have hpu := pub_len m
  have hgi := giv_len m
  unfold declW at ho
  dsimp only at ho
  by_cases hl : lookB [3, 4] (.node k x m ks) = true
  · rw [if_pos hl] at ho
    by_cases hk4 : k = 4
    · rw [if_pos hk4] at ho
      cases hp : roundF parW (ks.take (ks.length - 1)) with
      | none => rw [hp] at ho; cases ho
      | some p =>
        rw [hp] at ho
        cases hb : blockW f (ks.getD (ks.length - 1) noT) with
        | none => simp only [Option.bind_some, hb] at ho; cases ho
        | some b =>
          simp only [Option.bind_some, hb, Option.some.injEq] at ho
          subst ho
          have e1 := round_len par_len hp
          have e2 := (s_len f).bk _ _ hb
          have e3 := some_lt blk_no hb
          have e4 := cnt_last (ks := ks) (by omega)
          rw [cnt_n]
          simp only [List.length_append, List.length_cons, List.length_nil]; push_cast; omega
    · rw [if_neg hk4] at ho
      cases ks with
      | nil =>
        dsimp only at ho
        obtain rfl := Option.some.inj ho
        rw [cnt_n]
        simp only [List.length_append, List.length_cons, List.length_nil]; push_cast; omega
      | cons t0 rr =>
        dsimp only at ho
        cases hw : numK t0 with
        | none => rw [hw] at ho; cases ho
        | some n =>
          rw [hw] at ho
          obtain rfl := Option.some.inj ho
          have e1 : n.length = 1 := by
            obtain ⟨k, x, m, ks⟩ := t0
            unfold numK at hw
            dsimp only at hw
            split at hw
            · obtain rfl := Option.some.inj hw; rfl
            · cases hw
          rw [cnt_n]
          simp only [List.length_append, List.length_cons, List.length_nil]; push_cast; omega
  · rw [if_neg hl] at ho; cases ho
theorem imp_len (t : Tree) (w : List ByteArray) (h : impW t = some w) : (w.length : Int) ≤ 8 * cntT t := by
  have := cntT_pos t
  obtain ⟨k, x, m, ks⟩ := t
  unfold impW at h
  dsimp only at h
  split at h
  · obtain rfl := Option.some.inj h
    simp only [List.length_append, List.length_cons, List.length_nil]; push_cast; omega
  · cases h
theorem cntL_app : ∀ (a b : List Tree), cntL (a ++ b) = cntL a + cntL b
  | [], b => by show cntL b = cntL [] + cntL b; rw [show cntL ([] : List Tree) = 0 from rfl]; omega
  | t :: r, b => by
    rw [List.cons_append, show cntL (t :: (r ++ b)) = cntT t + cntL (r ++ b) from rfl, show cntL (t :: r) = cntT t + cntL r from rfl, cntL_app r b]
    omega
theorem module_len {f : Nat} {t : Tree} {w : List ByteArray} (ho : moduleW f t = some w) : (w.length : Int) ≤ 8 * cntT t := by
  obtain ⟨k, x, m, ks⟩ := t
  unfold moduleW at ho
  dsimp only at ho
  by_cases hl : lookB [1] (.node k x m ks) = true
  · rw [if_pos hl] at ho
    cases ha : seqF impW (ks.takeWhile impB) with
    | none => rw [ha] at ho; cases ho
    | some a =>
      rw [ha] at ho
      cases hb : seqF (declW f) (ks.dropWhile impB) with
      | none => simp only [Option.bind_some, hb] at ho; cases ho
      | some b =>
        simp only [Option.bind_some, hb, Option.some.injEq] at ho
        subst ho
        have e1 := seq_len imp_len _ _ ha
        have e2 := seq_len decl_len _ _ hb
        have e3 : cntL ks = cntL (ks.takeWhile impB) + cntL (ks.dropWhile impB) := by
          rw [← cntL_app, List.takeWhile_append_dropWhile]
        rw [cnt_n]
        simp only [List.length_append, List.length_cons, List.length_nil]; push_cast; omega
  · rw [if_neg hl] at ho; cases ho
end pr
namespace pr
open Go.Proofs.YtoobkaebahogdaaGreatDoor.lexs (Tok scan)
open Go.Proofs.YtoobkaebahogdaaGreatDoor.syn Go.Proofs.YtoobkaebahogdaaGreatDoor.face Go.Proofs.YtoobkaebahogdaaGreatDoor.chk

theorem fits_sz (t : Tree) (h : fitsT t = true) : cntT t ≤ 500 ∧ depT t ≤ 16 := by
  rw [← within_fits, withinT_is t 1 0 (by omega) (by omega) (by omega) (by omega)] at h
  split at h
  · rename_i hh; omega
  · cases h
end pr
namespace syn
open Go.Proofs.YtoobkaebahogdaaGreatDoor.lexs (Tok)
section
variable (ts : List Tok)
structure Mono (f : Nat) : Prop where
  ex : ∀ s R, exprF ts f s = some R → exprF ts (f + 1) s = some R
  bo : ∀ l s R, boundF ts f l s = some R → boundF ts (f + 1) l s = some R
  bl : ∀ l n s R, boundL ts f l n s = some R → boundL ts (f + 1) l n s = some R
  un : ∀ s R, unaryF ts f s = some R → unaryF ts (f + 1) s = some R
  as : ∀ s R, askedF ts f s = some R → askedF ts (f + 1) s = some R
  pl : ∀ x s R, placeF ts f x s = some R → placeF ts (f + 1) x s = some R
  ca : ∀ x s R, callF ts f x s = some R → callF ts (f + 1) x s = some R
  cl : ∀ x ks s on R, callL ts f x ks s on = some R → callL ts (f + 1) x ks s on = some R
theorem bind_mono {α β : Type} {a b : Option α} {g h : α → Option β} {R : β} (h1 : a.bind g = some R) (hab : ∀ x, a = some x → b = some x) (hgh : ∀ x, g x = some R → h x = some R) : b.bind h = some R := by
  cases ha : a with
  | none => rw [ha] at h1; cases h1
  | some x =>
    rw [ha] at h1
    rw [hab x ha]
    exact hgh x h1
theorem mono : ∀ f, Mono ts f
  | 0 => ⟨fun _ _ h => by simp [exprF] at h, fun _ _ _ h => by simp [boundF] at h, fun _ _ _ _ h => by simp [boundL] at h, fun _ _ h => by simp [unaryF] at h, fun _ _ h => by simp [askedF] at h, fun _ _ _ h => by simp [placeF] at h, fun _ _ _ h => by simp [callF] at h, fun _ _ _ _ _ h => by simp [callL] at h⟩
  | f + 1 => by
    have ih := mono f
    refine ⟨fun s R h => ?_, fun l s R h => ?_, fun l n s R h => ?_, fun s R h => ?_, fun s R h => ?_, fun x s R h => ?_, fun x s R h => ?_, fun x ks s on R h => ?_⟩
    · unfold exprF at h ⊢
      by_cases hb : s.bad = true
      · rw [if_pos hb] at h ⊢; exact h
      · rw [if_neg hb] at h ⊢; exact ih.bo _ _ _ h
    · unfold boundF at h ⊢
      by_cases hb : 2 < l
      · rw [if_pos hb] at h ⊢; exact ih.un _ _ h
      · rw [if_neg hb] at h ⊢
        exact bind_mono h (fun q hq => ih.bo _ _ _ hq) (fun q hq => ih.bl _ _ _ _ hq)
    · unfold boundL at h ⊢
      by_cases hb : s.bad = true
      · rw [if_pos hb] at h ⊢; exact h
      · rw [if_neg hb] at h ⊢
        by_cases hs : ((sign (txt ts s)).2 != (l : Int)) = true
        · rw [if_pos hs] at h ⊢; exact h
        · rw [if_neg hs] at h ⊢
          refine bind_mono h (fun q hq => ih.bo _ _ _ hq) (fun q hq => ?_)
          by_cases h0 : (l == 0) = true
          · rw [if_pos h0] at hq ⊢; exact hq
          · rw [if_neg h0] at hq ⊢; exact ih.bl _ _ _ _ hq
    · unfold unaryF at h ⊢
      by_cases h1 : eqS (txt ts s) ⟨#[45]⟩ = true
      · rw [if_pos h1] at h ⊢; exact bind_mono h (fun q hq => ih.un _ _ hq) (fun q hq => hq)
      · rw [if_neg h1] at h ⊢
        by_cases h2 : eqS (txt ts s) ⟨#[33]⟩ = true
        · rw [if_pos h2] at h ⊢; exact bind_mono h (fun q hq => ih.un _ _ hq) (fun q hq => hq)
        · rw [if_neg h2] at h ⊢
          by_cases h3 : eqS (txt ts s) ⟨#[40]⟩ = true
          · rw [if_pos h3] at h ⊢; exact ih.as _ _ h
          · rw [if_neg h3] at h ⊢
            by_cases h4 : isNum ts s = true
            · rw [if_pos h4] at h ⊢; exact h
            · rw [if_neg h4] at h ⊢
              by_cases h5 : eqS (txt ts (whole ts s).2) ⟨#[40]⟩ = true
              · rw [if_pos h5] at h ⊢; exact ih.ca _ _ _ h
              · rw [if_neg h5] at h ⊢; exact ih.pl _ _ _ h
    · unfold askedF at h ⊢
      exact bind_mono h (fun q hq => ih.ex _ _ hq) (fun q hq => hq)
    · unfold placeF at h ⊢
      by_cases h1 : eqS (txt ts s) ⟨#[91]⟩ = true
      · rw [if_pos h1] at h ⊢; exact bind_mono h (fun q hq => ih.ex _ _ hq) (fun q hq => hq)
      · rw [if_neg h1] at h ⊢; exact h
    · unfold callF at h ⊢
      by_cases h1 : eqS (txt ts (must ts ⟨#[40]⟩ s)) ⟨#[41]⟩ = true
      · rw [if_pos h1] at h ⊢; exact h
      · rw [if_neg h1] at h ⊢; exact ih.cl _ _ _ _ _ h
    · unfold callL at h ⊢
      by_cases h1 : (on && !s.bad) = true
      · rw [if_pos h1] at h ⊢; exact bind_mono h (fun q hq => ih.ex _ _ hq) (fun q hq => ih.cl _ _ _ _ _ hq)
      · rw [if_neg h1] at h ⊢; exact h
variable {ts}
theorem expr_le {f g : Nat} (h : f ≤ g) {s R} (e : exprF ts f s = some R) : exprF ts g s = some R := by
  induction h with
  | refl => exact e
  | step _ ih => exact (mono ts _).ex _ _ ih
theorem bound_le {f g : Nat} (h : f ≤ g) {l s R} (e : boundF ts f l s = some R) : boundF ts g l s = some R := by
  induction h with
  | refl => exact e
  | step _ ih => exact (mono ts _).bo _ _ _ ih
theorem boundL_le {f g : Nat} (h : f ≤ g) {l n s R} (e : boundL ts f l n s = some R) : boundL ts g l n s = some R := by
  induction h with
  | refl => exact e
  | step _ ih => exact (mono ts _).bl _ _ _ _ ih
theorem callL_le {f g : Nat} (h : f ≤ g) {x ks s on R} (e : callL ts f x ks s on = some R) : callL ts g x ks s on = some R := by
  induction h with
  | refl => exact e
  | step _ ih => exact (mono ts _).cl _ _ _ _ _ ih
end
end syn
namespace pr
open Go.Proofs.YtoobkaebahogdaaGreatDoor.syn Go.Proofs.YtoobkaebahogdaaGreatDoor.face Go.Proofs.YtoobkaebahogdaaGreatDoor.chk
open Go.Proofs.YtoobkaebahogdaaGreatDoor.lexs (Tok val digB ltrI digI)
def digW (x : ByteArray) : Bool := match x.data.toList with
  | [] => false
  | c :: _ => digB c
/-- these words stand there -/
def AtW (ts : List Tok) (i : Nat) (ws : List ByteArray) : Prop := ∀ j (h : j < ws.length), ∃ t : Tok, ts[i + j]? = some t ∧ t.text = (ws[j]).data.toList ∧ (t.kind == 2) = digW ws[j]
section
variable {ts : List Tok} {i : Nat} {a b r : List ByteArray} {x y : ByteArray}
theorem AtW.left (h : AtW ts i (a ++ b)) : AtW ts i a := fun j hj => by
  obtain ⟨t, h1, h2, h3⟩ := h j (by rw [List.length_append]; omega)
  rw [List.getElem_append_left hj] at h2 h3
  exact ⟨t, h1, h2, h3⟩
theorem AtW.right (h : AtW ts i (a ++ b)) : AtW ts (i + a.length) b := fun j hj => by
  obtain ⟨t, h1, h2, h3⟩ := h (a.length + j) (by rw [List.length_append]; omega)
  rw [List.getElem_append_right (by omega)] at h2 h3
  simp only [Nat.add_sub_cancel_left] at h2 h3
  exact ⟨t, by rw [Nat.add_assoc]; exact h1, h2, h3⟩
theorem AtW.head (h : AtW ts i (x :: r)) : ∃ t : Tok, ts[i]? = some t ∧ t.text = x.data.toList ∧ (t.kind == 2) = digW x := by
  obtain ⟨t, h1, h2, h3⟩ := h 0 (by simp)
  exact ⟨t, h1, h2, h3⟩
theorem AtW.tail (h : AtW ts i (x :: r)) : AtW ts (i + 1) r := AtW.right (a := [x]) h
theorem txt_at (h : AtW ts i (x :: r)) (hd : digW x = false) : txt ts ⟨i, false⟩ = x := by
  obtain ⟨t, h1, h2, h3⟩ := h.head
  rw [hd] at h3
  unfold txt here
  simp only [Bool.false_eq_true, if_false, h1, h3]
  exact bytes_ext h2
theorem isNum_at (h : AtW ts i (x :: r)) : isNum ts ⟨i, false⟩ = digW x := by
  obtain ⟨t, h1, h2, h3⟩ := h.head
  unfold isNum here
  simp only [Bool.false_eq_true, if_false, h1, h3]
theorem txt_num (h : AtW ts i (x :: r)) (hd : digW x = true) : txt ts ⟨i, false⟩ = empty := by
  obtain ⟨t, h1, h2, h3⟩ := h.head
  rw [hd] at h3
  unfold txt here
  simp only [Bool.false_eq_true, if_false, h1, h3, if_true]
theorem eqS_self (x : ByteArray) : eqS x x = true := eqS_iff.2 rfl
theorem must_at (h : AtW ts i (x :: r)) (hd : digW x = false) : must ts x ⟨i, false⟩ = ⟨i + 1, false⟩ := by
  unfold must
  rw [txt_at h hd, eqS_self, if_pos rfl]
  rfl
theorem eat_at (h : AtW ts i (x :: r)) (hd : digW x = false) : eat ts x ⟨i, false⟩ = (true, ⟨i + 1, false⟩) := by
  unfold eat
  rw [txt_at h hd, eqS_self, if_pos rfl]
  rfl
theorem eat_not {s : St} (h : eqS (txt ts s) x = false) : eat ts x s = (false, s) := by
  unfold eat
  rw [h, if_neg (by simp)]
theorem name_ne (hx : isName x = true) (hy : isName y = false) : eqS x y = false := by
  cases h : eqS x y with
  | false => rfl
  | true =>
    rw [eqS_iff.1 h, hy] at hx
    cases hx
theorem name_dig (hx : isName x = true) : digW x = false := by
  unfold isName at hx
  simp only [Bool.and_eq_true] at hx
  have hl := hx.1.1.2
  unfold digW
  cases hd : x.data.toList with
  | nil => rfl
  | cons c l =>
    rw [hd] at hl
    simp only [List.headD_cons] at hl
    unfold ltrI at hl
    show digI (c.toNat : Int) = false
    unfold digI
    simp only [Bool.or_eq_true, decide_eq_true_eq] at hl
    simp only [decide_eq_false_iff_not]
    omega
theorem name_at (h : AtW ts i (x :: r)) (hx : isName x = true) : name ts ⟨i, false⟩ = (x, ⟨i + 1, false⟩) := by
  unfold name
  rw [txt_at h (name_dig hx), hx, if_pos rfl]
  rfl
theorem cutL_join : ∀ (l a b : List UInt8), cutL l = (a, some b) → l = a ++ 46 :: b
  | [], a, b, h => by simp [cutL] at h
  | c :: l, a, b, h => by
    unfold cutL at h
    by_cases hc : c = 46
    · rw [if_pos hc] at h
      simp only [Prod.mk.injEq, Option.some.injEq] at h
      obtain ⟨rfl, rfl⟩ := h
      rw [hc]
      rfl
    · rw [if_neg hc] at h
      simp only [Prod.mk.injEq] at h
      obtain ⟨rfl, h2⟩ := h
      have := cutL_join l (cutL l).1 b (by rw [← h2])
      rw [List.cons_append, ← this]
/-- a name that stands there is read -/
theorem whole_at {l : List ByteArray} (hw : wordsF x = some l) (h : AtW ts i (l ++ r)) (hp : eqS (txt ts ⟨i + l.length, false⟩) ⟨#[46]⟩ = false) : whole ts ⟨i, false⟩ = (x, ⟨i + l.length, false⟩) := by
  unfold wordsF at hw
  cases hc : cutL x.data.toList with
  | mk a ob =>
    rw [hc] at hw
    cases ob with
    | none =>
      dsimp only at hw
      by_cases hx : isName x = true
      · rw [if_pos hx] at hw
        obtain rfl := Option.some.inj hw
        have hn := name_at (r := r) h hx
        have hp' : eqS (txt ts ⟨i + 1, false⟩) ⟨#[46]⟩ = false := hp
        unfold whole
        simp only [hn]
        rw [eat_not hp']
        rfl
      · rw [if_neg hx] at hw
        cases hw
    | some bs =>
      dsimp only at hw
      by_cases hx : (isName ⟨a.toArray⟩ && isName ⟨bs.toArray⟩) = true
      · rw [if_pos hx] at hw
        obtain rfl := Option.some.inj hw
        rw [Bool.and_eq_true] at hx
        have hn := name_at (r := ⟨#[46]⟩ :: ⟨bs.toArray⟩ :: r) h hx.1
        have he := eat_at (h.tail (x := ⟨a.toArray⟩)) (by rfl)
        have hn2 := name_at (h.tail (x := ⟨a.toArray⟩) |>.tail) hx.2
        unfold whole
        simp only [hn, he, hn2, if_true]
        refine Prod.ext ?_ rfl
        refine bytes_ext ?_
        rw [cutL_join _ _ _ hc]
        simp
      · rw [if_neg hx] at hw
        cases hw
/-- the words of a name: its first one is one, none is a number -/
theorem words_head {l : List ByteArray} (hw : wordsF x = some l) : ∃ y r, l = y :: r ∧ isName y = true := by
  unfold wordsF at hw
  cases hc : cutL x.data.toList with
  | mk a ob =>
    rw [hc] at hw
    cases ob with
    | none =>
      dsimp only at hw
      by_cases hx : isName x = true
      · rw [if_pos hx] at hw
        exact ⟨x, [], (Option.some.inj hw).symm, hx⟩
      · rw [if_neg hx] at hw; cases hw
    | some bs =>
      dsimp only at hw
      by_cases hx : (isName ⟨a.toArray⟩ && isName ⟨bs.toArray⟩) = true
      · rw [if_pos hx] at hw
        rw [Bool.and_eq_true] at hx
        exact ⟨_, _, (Option.some.inj hw).symm, hx.1⟩
      · rw [if_neg hx] at hw; cases hw
end
/-! numbers -/
theorem val_snoc : ∀ (l : List UInt8) (c : UInt8), val (l ++ [c]) = val l * 10 + (c.toNat - 48)
  | [], c => by simp [val]
  | d :: l, c => by
    have := val_snoc l c
    simp only [List.cons_append, val, List.length_append, List.length_cons, List.length_nil]
    rw [this, Nat.pow_succ]
    have e : (d.toNat - 48) * (10 ^ l.length * 10) = (d.toNat - 48) * 10 ^ l.length * 10 := by rw [Nat.mul_assoc]
    omega
theorem val_dec (u : Nat) : val (Lib.decDigits u) = u ∧ (∀ c ∈ Lib.decDigits u, digB c = true) ∧ Lib.decDigits u ≠ [] := by
  induction u using Nat.strongRecOn with
  | _ u ih =>
    rw [Lib.decDigits]
    by_cases h : u < 10
    · rw [dif_pos h]
      have e : (UInt8.ofNat (48 + u)).toNat = 48 + u := by simp; omega
      refine ⟨by simp only [val, e, List.length_nil]; omega, fun c hc => ?_, by simp⟩
      obtain rfl : c = UInt8.ofNat (48 + u) := by simpa using hc
      unfold digB digI
      rw [e]
      simp only [decide_eq_true_eq]
      omega
    · rw [dif_neg h]
      obtain ⟨h1, h2, h3⟩ := ih (u / 10) (by omega)
      have e : (UInt8.ofNat (48 + u % 10)).toNat = 48 + u % 10 := by simp; omega
      refine ⟨by rw [val_snoc, h1, e]; omega, fun c hc => ?_, by simp⟩
      rcases List.mem_append.1 hc with hc | hc
      · exact h2 c hc
      · obtain rfl : c = UInt8.ofNat (48 + u % 10) := by simpa using hc
        unfold digB digI
        rw [e]
        simp only [decide_eq_true_eq]
        omega
theorem num_list (m : Int) (h : 0 ≤ m) : (numW m).data.toList = Lib.decDigits m.toNat := by
  show (Lib.itoa m) = _
  unfold Lib.itoa
  rw [if_neg (by omega)]
theorem num_dig (m : Int) (h : 0 ≤ m) : digW (numW m) = true := by
  unfold digW
  rw [num_list m h]
  obtain ⟨_, h2, h3⟩ := val_dec m.toNat
  cases hd : Lib.decDigits m.toNat with
  | nil => exact absurd hd h3
  | cons c l => exact h2 c (by rw [hd]; simp)
theorem number_at {ts : List Tok} {i : Nat} {r : List ByteArray} {m : Int} (h0 : 0 ≤ m) (h : AtW ts i (numW m :: r)) : number ts ⟨i, false⟩ = (.node 15 empty m [], ⟨i + 1, false⟩) := by
  obtain ⟨t, h1, h2, h3⟩ := h.head
  rw [num_dig m h0] at h3
  rw [num_list m h0] at h2
  unfold number here
  simp only [Bool.false_eq_true, if_false, h1, h3, if_true]
  rw [h2, (val_dec m.toNat).1]
  refine Prod.ext ?_ rfl
  show Tree.node 15 empty ((m.toNat : Nat) : Int) [] = _
  rw [Int.toNat_of_nonneg h0]
theorem sign_op (m : Nat) (h1 : 1 ≤ m) (h9 : m ≤ 9) : sign (opAt m) = ((m : Int), opIs m) := by
  have : m = 1 ∨ m = 2 ∨ m = 3 ∨ m = 4 ∨ m = 5 ∨ m = 6 ∨ m = 7 ∨ m = 8 ∨ m = 9 := by omega
  rcases this with rfl | rfl | rfl | rfl | rfl | rfl | rfl | rfl | rfl <;> decide +kernel
/-- what may follow an expression that is asked for at a level -/
structure Fol (l : Int) (x : ByteArray) : Prop where
  sg : (sign x).2 < l
  br : eqS x ⟨#[91]⟩ = false
  pa : eqS x ⟨#[40]⟩ = false
  pt : eqS x ⟨#[46]⟩ = false
theorem Fol.mono {l m : Int} {x : ByteArray} (h : Fol l x) (hl : l ≤ m) : Fol m x := ⟨Int.lt_of_lt_of_le h.sg hl, h.br, h.pa, h.pt⟩
section
variable {ts : List Tok}
def Pz (ts : List Tok) (l i : Nat) (R : Tree × St) : Prop := ∃ F, boundF ts F l ⟨i, false⟩ = some R
def Lz (ts : List Tok) (l : Nat) (n : Tree) (i : Nat) (R : Tree × St) : Prop := ∃ F, boundL ts F l n ⟨i, false⟩ = some R
def Uz (ts : List Tok) (i : Nat) (R : Tree × St) : Prop := ∃ F, unaryF ts F ⟨i, false⟩ = some R
def Ez (ts : List Tok) (i : Nat) (R : Tree × St) : Prop := ∃ F, exprF ts F ⟨i, false⟩ = some R
variable {l i j e : Nat} {n q t : Tree} {R : Tree × St} {op : Int}
theorem Uz.p (h : Uz ts i R) : Pz ts 3 i R := by
  obtain ⟨F, h⟩ := h
  refine ⟨F + 1, ?_⟩
  unfold boundF
  rw [if_pos (by omega)]
  exact h
theorem p_of (hl : l ≤ 2) (h1 : Pz ts (l + 1) i (n, ⟨j, false⟩)) (h2 : Lz ts l n j R) : Pz ts l i R := by
  obtain ⟨F, h1⟩ := h1
  obtain ⟨G, h2⟩ := h2
  refine ⟨max F G + 1, ?_⟩
  unfold boundF
  rw [if_neg (by omega), bound_le (Nat.le_max_left F G) h1]
  exact boundL_le (Nat.le_max_right F G) h2
theorem l_stop (h : (sign (txt ts ⟨i, false⟩)).2 ≠ (l : Int)) : Lz ts l n i (n, ⟨i, false⟩) := by
  refine ⟨1, ?_⟩
  unfold boundL
  rw [if_neg (by simp), if_pos (by simpa using h)]
theorem l_step0 (hs : sign (txt ts ⟨i, false⟩) = (op, 0)) (h : Pz ts 1 (i + 1) (q, ⟨e, false⟩)) : Lz ts 0 n i (.node 19 empty op [n, q], ⟨e, false⟩) := by
  obtain ⟨F, h⟩ := h
  refine ⟨F + 1, ?_⟩
  unfold boundL
  rw [if_neg (by simp), hs, if_neg (by simp)]
  have e : (⟨i, false⟩ : St).next = ⟨i + 1, false⟩ := rfl
  rw [e, h]
  rfl
theorem l_step (hl : 0 < l) (hs : sign (txt ts ⟨i, false⟩) = (op, (l : Int))) (h : Pz ts (l + 1) (i + 1) (q, ⟨e, false⟩)) (h2 : Lz ts l (.node 19 empty op [n, q]) e R) : Lz ts l n i R := by
  obtain ⟨F, h⟩ := h
  obtain ⟨G, h2⟩ := h2
  refine ⟨max F G + 1, ?_⟩
  unfold boundL
  rw [if_neg (by simp), hs, if_neg (by simp)]
  have e : (⟨i, false⟩ : St).next = ⟨i + 1, false⟩ := rfl
  rw [e, bound_le (Nat.le_max_left F G) h]
  show (if (l == 0) = true then _ else _) = _
  rw [if_neg (by simp; omega)]
  exact boundL_le (Nat.le_max_right F G) h2
theorem p_e (h : Pz ts 0 i R) : Ez ts i R := by
  obtain ⟨F, h⟩ := h
  refine ⟨F + 1, ?_⟩
  unfold exprF
  rw [if_neg (by simp)]
  exact h
/-- what is read by itself is read at every level -/
structure Levels (ts : List Tok) (t : Tree) (i e : Nat) (b : Nat) : Prop where
  p3 : 3 ≤ b → Pz ts 3 i (t, ⟨e, false⟩)
  b2 : 2 ≤ b → ∀ R, Lz ts 2 t e R → Pz ts 2 i R
  p2 : 2 ≤ b → (sign (txt ts ⟨e, false⟩)).2 < 2 → Pz ts 2 i (t, ⟨e, false⟩)
  b1 : 1 ≤ b → (sign (txt ts ⟨e, false⟩)).2 < 2 → ∀ R, Lz ts 1 t e R → Pz ts 1 i R
  p1 : 1 ≤ b → (sign (txt ts ⟨e, false⟩)).2 < 1 → Pz ts 1 i (t, ⟨e, false⟩)
  p0 : (sign (txt ts ⟨e, false⟩)).2 < 0 → Pz ts 0 i (t, ⟨e, false⟩)
theorem levels_u (h : Uz ts i (t, ⟨e, false⟩)) : Levels ts t i e 3 := by
  have p3 := h.p
  have b2 : ∀ R, Lz ts 2 t e R → Pz ts 2 i R := fun R hR => p_of (by omega) p3 hR
  have p2 : (sign (txt ts ⟨e, false⟩)).2 < 2 → Pz ts 2 i (t, ⟨e, false⟩) := fun hs => b2 _ (l_stop (by omega))
  have b1 : (sign (txt ts ⟨e, false⟩)).2 < 2 → ∀ R, Lz ts 1 t e R → Pz ts 1 i R := fun hs R hR => p_of (by omega) (p2 hs) hR
  have p1 : (sign (txt ts ⟨e, false⟩)).2 < 1 → Pz ts 1 i (t, ⟨e, false⟩) := fun hs => b1 (by omega) _ (l_stop (by omega))
  exact ⟨fun _ => p3, fun _ => b2, fun _ => p2, fun _ => b1, fun _ => p1, fun hs => p_of (by omega) (p1 (by omega)) (l_stop (by omega))⟩
/-- in parentheses -/
theorem u_round {w : List ByteArray} (h : AtW ts i ([⟨#[40]⟩] ++ w ++ [⟨#[41]⟩])) (hp : (sign (txt ts ⟨i + 1 + w.length, false⟩)).2 < 0 → Pz ts 0 (i + 1) (t, ⟨i + 1 + w.length, false⟩)) : Uz ts i (t, ⟨i + (w.length + 2), false⟩) := by
  have h1 : AtW ts i (⟨#[40]⟩ :: (w ++ [⟨#[41]⟩])) := by simpa using h
  have h2 : AtW ts (i + 1 + w.length) [⟨#[41]⟩] := h1.tail.right
  have e1 : txt ts ⟨i, false⟩ = ⟨#[40]⟩ := txt_at h1 rfl
  have e2 : txt ts ⟨i + 1 + w.length, false⟩ = ⟨#[41]⟩ := txt_at h2 rfl
  obtain ⟨F, hF⟩ := p_e (hp (by rw [e2]; decide +kernel))
  refine ⟨F + 2, ?_⟩
  unfold unaryF
  have n1 : eqS ⟨#[40]⟩ ⟨#[45]⟩ = false := by kernel_rfl
  have n2 : eqS ⟨#[40]⟩ ⟨#[33]⟩ = false := by kernel_rfl
  have n3 : eqS ⟨#[40]⟩ ⟨#[40]⟩ = true := by kernel_rfl
  rw [e1, n1, if_neg (by simp), n2, if_neg (by simp), n3, if_pos rfl]
  unfold askedF
  rw [must_at h1 rfl, hF]
  show some (t, must ts ⟨#[41]⟩ ⟨i + 1 + w.length, false⟩) = _
  rw [must_at h2 rfl]
  have : i + (w.length + 2) = i + 1 + w.length + 1 := by omega
  rw [this]
/-- what the writer has written of an expression so deep is read as it -/
structure RT (ts : List Tok) (f : Nat) : Prop where
  p : ∀ (l : Nat) (t : Tree) (ws : List ByteArray) (i : Nat), l ≤ 3 → opnF f (l : Int) t = some ws → AtW ts i ws → Fol (l : Int) (txt ts ⟨i + ws.length, false⟩) → Pz ts l i (t, ⟨i + ws.length, false⟩)
  b : ∀ (l : Nat) (t : Tree) (ws : List ByteArray) (i : Nat) (R : Tree × St), l = 1 ∨ l = 2 → opnF f (l : Int) t = some ws → AtW ts i ws → Fol ((l : Int) + 1) (txt ts ⟨i + ws.length, false⟩) → Lz ts l t (i + ws.length) R → Pz ts l i R
theorem Levels.all {b : Nat} (h : Levels ts t i e b) (l : Nat) (hl : l ≤ 3) (hb : l ≤ b) (hf : (sign (txt ts ⟨e, false⟩)).2 < (l : Int)) : Pz ts l i (t, ⟨e, false⟩) := by
  have : l = 0 ∨ l = 1 ∨ l = 2 ∨ l = 3 := by omega
  rcases this with rfl | rfl | rfl | rfl
  · exact h.p0 hf
  · exact h.p1 hb hf
  · exact h.p2 hb hf
  · exact h.p3 hb
theorem Levels.allB {b : Nat} (h : Levels ts t i e b) (l : Nat) (hl : l = 1 ∨ l = 2) (hb : l ≤ b) (hf : (sign (txt ts ⟨e, false⟩)).2 < (l : Int) + 1) (hR : Lz ts l t e R) : Pz ts l i R := by
  rcases hl with rfl | rfl
  · exact h.b1 hb hf R hR
  · exact h.b2 hb R hR
end
section
variable {ts : List Tok} {f i e : Nat} {t : Tree} {R : Tree × St}
theorem op_fol (m : Nat) (h1 : 1 ≤ m) (h9 : m ≤ 9) : (eqS (opAt m) ⟨#[91]⟩ = false ∧ eqS (opAt m) ⟨#[40]⟩ = false ∧ eqS (opAt m) ⟨#[46]⟩ = false) ∧ digW (opAt m) = false ∧ (opIs m = 0 ∨ opIs m = 1 ∨ opIs m = 2) := by
  have : m = 1 ∨ m = 2 ∨ m = 3 ∨ m = 4 ∨ m = 5 ∨ m = 6 ∨ m = 7 ∨ m = 8 ∨ m = 9 := by omega
  rcases this with rfl | rfl | rfl | rfl | rfl | rfl | rfl | rfl | rfl <;> decide +kernel
theorem levels_op (ih : RT ts f) (m : Nat) (h1 : 1 ≤ m) (h9 : m ≤ 9) (t0 t1 : Tree) (a c : List ByteArray) (ha : opnF f (max (opIs m) 1) t0 = some a) (hc : opnF f (opIs m + 1) t1 = some c) (hA : AtW ts i (a ++ [opAt m] ++ c))
    (hF : Fol 3 (txt ts ⟨i + (a ++ [opAt m] ++ c).length, false⟩)) : Levels ts (.node 19 empty (m : Int) [t0, t1]) i (i + (a ++ [opAt m] ++ c).length) (opIs m).toNat := by
  obtain ⟨⟨n1, n2, n3⟩, hd, hb⟩ := op_fol m h1 h9
  have hs := sign_op m h1 h9
  have hlen : i + (a ++ [opAt m] ++ c).length = i + a.length + 1 + c.length := by simp; omega
  rw [hlen] at hF ⊢
  have hA1 : AtW ts i (a ++ (opAt m :: c)) := by simpa using hA
  have hAa := hA1.left
  have hAo := hA1.right
  have hAc := hAo.tail
  have et := txt_at hAo hd
  have hsg : sign (txt ts ⟨i + a.length, false⟩) = ((m : Int), opIs m) := by rw [et, hs]
  have hfo : ∀ k : Int, opIs m < k → Fol k (txt ts ⟨i + a.length, false⟩) := fun k hk => by rw [et]; exact ⟨by rw [hs]; exact hk, n1, n2, n3⟩
  have hfe : ∀ k : Int, (sign (txt ts ⟨i + a.length + 1 + c.length, false⟩)).2 < k → Fol k (txt ts ⟨i + a.length + 1 + c.length, false⟩) := fun k hk => ⟨hk, hF.br, hF.pa, hF.pt⟩
  rcases hb with hb | hb | hb
  · rw [hb] at ha hc hsg hfo ⊢
    have q1 := ih.p 1 t0 a i (by omega) ha hAa (hfo 1 (by omega))
    refine ⟨fun h => by simp at h, fun h => by simp at h, fun h => by simp at h, fun h => by simp at h, fun h => by simp at h, fun hz => ?_⟩
    have q2 := ih.p 1 t1 c (i + a.length + 1) (by omega) hc hAc (hfe 1 (by omega))
    exact p_of (by omega) q1 (l_step0 hsg q2)
  · rw [hb] at ha hc hsg hfo ⊢
    have b1 : (sign (txt ts ⟨i + a.length + 1 + c.length, false⟩)).2 < 2 → ∀ R, Lz ts 1 (.node 19 empty (m : Int) [t0, t1]) (i + a.length + 1 + c.length) R → Pz ts 1 i R := fun hz R hR => by
      have q2 := ih.p 2 t1 c (i + a.length + 1) (by omega) hc hAc (hfe 2 (by omega))
      exact ih.b 1 t0 a i R (.inl rfl) ha hAa (hfo _ (by show (1 : Int) < 1 + 1; omega)) (l_step (by omega) hsg q2 hR)
    have p1 : (sign (txt ts ⟨i + a.length + 1 + c.length, false⟩)).2 < 1 → Pz ts 1 i (.node 19 empty (m : Int) [t0, t1], ⟨i + a.length + 1 + c.length, false⟩) := fun hz => b1 (by omega) _ (l_stop (by omega))
    exact ⟨fun h => by simp at h, fun h => by simp at h, fun h => by simp at h, fun _ => b1, fun _ => p1, fun hz => p_of (by omega) (p1 (by omega)) (l_stop (by omega))⟩
  · rw [hb] at ha hc hsg hfo ⊢
    have b2 : ∀ R, Lz ts 2 (.node 19 empty (m : Int) [t0, t1]) (i + a.length + 1 + c.length) R → Pz ts 2 i R := fun R hR => by
      have q2 := ih.p 3 t1 c (i + a.length + 1) (by omega) hc hAc hF
      exact ih.b 2 t0 a i R (.inr rfl) ha hAa (hfo _ (by show (2 : Int) < 2 + 1; omega)) (l_step (by omega) hsg q2 hR)
    have p2 : (sign (txt ts ⟨i + a.length + 1 + c.length, false⟩)).2 < 2 → Pz ts 2 i (.node 19 empty (m : Int) [t0, t1], ⟨i + a.length + 1 + c.length, false⟩) := fun hz => b2 _ (l_stop (by omega))
    have b1 : (sign (txt ts ⟨i + a.length + 1 + c.length, false⟩)).2 < 2 → ∀ R, Lz ts 1 (.node 19 empty (m : Int) [t0, t1]) (i + a.length + 1 + c.length) R → Pz ts 1 i R := fun hz R hR => p_of (by omega) (p2 hz) hR
    have p1 : (sign (txt ts ⟨i + a.length + 1 + c.length, false⟩)).2 < 1 → Pz ts 1 i (.node 19 empty (m : Int) [t0, t1], ⟨i + a.length + 1 + c.length, false⟩) := fun hz => b1 (by omega) _ (l_stop (by omega))
    exact ⟨fun h => by simp at h, fun _ => b2, fun _ => p2, fun _ => b1, fun _ => p1, fun hz => p_of (by omega) (p1 (by omega)) (l_stop (by omega))⟩
/-! each kind that holds together most -/
theorem u_num {m : Int} (h0 : 0 ≤ m) (h : AtW ts i [numW m]) : Uz ts i (.node 15 empty m [], ⟨i + 1, false⟩) := by
  have e := txt_num h (num_dig m h0)
  have n1 : eqS empty ⟨#[45]⟩ = false := by decide +kernel
  have n2 : eqS empty ⟨#[33]⟩ = false := by decide +kernel
  have n3 : eqS empty ⟨#[40]⟩ = false := by decide +kernel
  refine ⟨1, ?_⟩
  unfold unaryF
  rw [e, n1, if_neg (by simp), n2, if_neg (by simp), n3, if_neg (by simp), isNum_at h, num_dig m h0, if_pos rfl, number_at h0 h]
/-- a name ahead -/
theorem u_name {x : ByteArray} {l r : List ByteArray} (hw : wordsF x = some l) (h : AtW ts i (l ++ r)) (hp : eqS (txt ts ⟨i + l.length, false⟩) ⟨#[46]⟩ = false) (F : Nat) :
    unaryF ts (F + 1) ⟨i, false⟩ = if eqS (txt ts ⟨i + l.length, false⟩) ⟨#[40]⟩ then callF ts F x ⟨i + l.length, false⟩ else placeF ts F x ⟨i + l.length, false⟩ := by
  obtain ⟨y, r', rfl, hy⟩ := words_head hw
  have e := txt_at (r := r' ++ r) h (name_dig hy)
  have hn := isNum_at (r := r' ++ r) h
  conv => lhs; unfold unaryF
  rw [e, name_ne hy (by decide +kernel), if_neg (by simp), name_ne hy (by decide +kernel), if_neg (by simp), name_ne hy (by decide +kernel), if_neg (by simp), hn, name_dig hy, if_neg (by simp), whole_at hw h hp]
theorem u_place {x : ByteArray} {l : List ByteArray} (hw : wordsF x = some l) (h : AtW ts i l) (hF : Fol 3 (txt ts ⟨i + l.length, false⟩)) : Uz ts i (.node 16 x 0 [], ⟨i + l.length, false⟩) := by
  refine ⟨2, ?_⟩
  rw [u_name hw (r := []) (by simpa using h) hF.pt, hF.pa, if_neg (by simp)]
  unfold placeF
  rw [hF.br, if_neg (by simp)]
theorem fol_lit (x : ByteArray) (h : (decide ((sign x).2 < 0) && !eqS x ⟨#[91]⟩ && !eqS x ⟨#[40]⟩ && !eqS x ⟨#[46]⟩) = true) : Fol 0 x := by
  simp only [Bool.and_eq_true, decide_eq_true_eq, Bool.not_eq_true'] at h
  exact ⟨h.1.1.1, h.1.1.2, h.1.2, h.2⟩
theorem u_item (ih : RT ts f) {x : ByteArray} {l c : List ByteArray} {t0 : Tree} (hw : wordsF x = some l) (hc : opnF f 0 t0 = some c) (h : AtW ts i (l ++ [⟨#[91]⟩] ++ c ++ [⟨#[93]⟩])) : Uz ts i (.node 17 x 0 [t0], ⟨i + (l.length + c.length + 2), false⟩) := by
  have h1 : AtW ts i (l ++ (⟨#[91]⟩ :: (c ++ [⟨#[93]⟩]))) := by simpa using h
  have hb := h1.right
  have hk := hb.tail
  have hz := hk.right
  have eb := txt_at hb rfl
  have ez := txt_at hz rfl
  obtain ⟨F, hF⟩ := p_e (ih.p 0 t0 c _ (by omega) hc hk.left (by rw [ez]; exact fol_lit _ (by decide +kernel)))
  have n1 : eqS ⟨#[91]⟩ ⟨#[46]⟩ = false := by decide +kernel
  have n2 : eqS ⟨#[91]⟩ ⟨#[40]⟩ = false := by decide +kernel
  have n3 : eqS ⟨#[91]⟩ ⟨#[91]⟩ = true := by decide +kernel
  refine ⟨F + 2, ?_⟩
  rw [u_name hw h1 (by rw [eb]; exact n1), eb, n2, if_neg (by simp)]
  unfold placeF
  rw [eb, n3, if_pos rfl]
  show ((exprF ts F ⟨i + l.length + 1, false⟩).bind _) = _
  rw [hF]
  show some (Tree.node 17 x 0 [t0], must ts ⟨#[93]⟩ ⟨i + l.length + 1 + c.length, false⟩) = _
  rw [must_at hz rfl]
  have : i + (l.length + c.length + 2) = i + l.length + 1 + c.length + 1 := by omega
  rw [this]
theorem call_items (ih : RT ts f) (x : ByteArray) : ∀ (r : List Tree) (t0 : Tree) (a tl : List ByteArray) (k : Nat) (done : List Tree) (i : Nat), opnF f 0 t0 = some a → itemsF (opnF f 0) (k + 1) r = some tl → AtW ts i (a ++ tl ++ [⟨#[41]⟩]) → ∃ F, callL ts F x done ⟨i, false⟩ true = some (.node 18 x 0 (done ++ t0 :: r), ⟨i + (a.length + tl.length + 1), false⟩)
  | [], t0, a, tl, k, done, i, ha, ht, h => by
    have e0 : tl = [] := (Option.some.inj ht).symm
    subst e0
    have h1 : AtW ts i (a ++ [⟨#[41]⟩]) := by simpa using h
    have hz := h1.right
    have ez := txt_at hz rfl
    obtain ⟨F, hF⟩ := p_e (ih.p 0 t0 a i (by omega) ha h1.left (by rw [ez]; exact fol_lit _ (by decide +kernel)))
    have n1 : eqS (txt ts ⟨i + a.length, false⟩) ⟨#[44]⟩ = false := by rw [ez]; decide +kernel
    refine ⟨F + 2, ?_⟩
    unfold callL
    rw [if_pos (by simp), expr_le (Nat.le_succ F) hF]
    show callL ts (F + 1) x (done ++ [t0]) (eat ts ⟨#[44]⟩ ⟨i + a.length, false⟩).2 (eat ts ⟨#[44]⟩ ⟨i + a.length, false⟩).1 = _
    rw [eat_not n1]
    unfold callL
    rw [if_neg (by simp), must_at hz rfl]
    have : i + (a.length + 0 + 1) = i + a.length + 1 := by omega
    simp only [List.length_nil, this]
  | t1 :: r, t0, a, tl, k, done, i, ha, ht, h => by
    unfold itemsF at ht
    cases ha1 : opnF f 0 t1 with
    | none => rw [ha1] at ht; cases ht
    | some a1 =>
      rw [ha1] at ht
      cases ht1 : itemsF (opnF f 0) (k + 1 + 1) r with
      | none => simp only [Option.bind_some, ht1] at ht; cases ht
      | some tl1 =>
        simp only [Option.bind_some, ht1, Option.some.injEq] at ht
        rw [if_neg (by omega)] at ht
        subst ht
        have h1 : AtW ts i (a ++ (⟨#[44]⟩ :: (a1 ++ tl1 ++ [⟨#[41]⟩]))) := by simpa using h
        have hz := h1.right
        have ez := txt_at hz rfl
        obtain ⟨F, hF⟩ := p_e (ih.p 0 t0 a i (by omega) ha h1.left (by rw [ez]; exact fol_lit _ (by decide +kernel)))
        obtain ⟨G, hG⟩ := call_items ih x r t1 a1 tl1 (k + 1) (done ++ [t0]) _ ha1 ht1 hz.tail
        refine ⟨max F G + 1, ?_⟩
        unfold callL
        rw [if_pos (by simp), expr_le (Nat.le_max_left F G) hF]
        show callL ts (max F G) x (done ++ [t0]) (eat ts ⟨#[44]⟩ ⟨i + a.length, false⟩).2 (eat ts ⟨#[44]⟩ ⟨i + a.length, false⟩).1 = _
        rw [eat_at hz rfl, callL_le (Nat.le_max_right F G) hG]
        have e1 : done ++ [t0] ++ t1 :: r = done ++ t0 :: t1 :: r := by simp
        rw [e1]
        congr 3
        simp only [List.length_append, List.length_cons, List.length_nil]
        omega
/-- the first word of an expression -/
def HeadOk (a : List ByteArray) : Prop := ∃ y r, a = y :: r ∧ (digW y = true ∨ (digW y = false ∧ eqS y ⟨#[41]⟩ = false))
theorem HeadOk.app {a b : List ByteArray} (h : HeadOk a) : HeadOk (a ++ b) := by
  obtain ⟨y, r, rfl, h⟩ := h
  exact ⟨y, r ++ b, rfl, h⟩
theorem opn_head : ∀ (f : Nat) (l : Int) (t : Tree) (a : List ByteArray), opnF f l t = some a → HeadOk a
  | 0, _, _, _, h => by simp [opnF] at h
  | f + 1, l, .node k x m ks, a, h => by
    have hbare : ∀ w, lookB exprKinds (.node k x m ks) = true → bareF (opnF f) (.node k x m ks) = some w → HeadOk w := fun w hl hw => by
      unfold bareF at hw
      dsimp only at hw
      by_cases h15 : k = 15
      · rw [if_pos h15] at hw
        have hm : 0 ≤ m := by
          subst h15
          unfold lookB at hl
          simp only [Bool.and_eq_true, decide_eq_true_eq] at hl
          exact hl.1.1.1.1.2
        obtain rfl := Option.some.inj hw
        exact ⟨_, _, rfl, .inl (num_dig m hm)⟩
      rw [if_neg h15] at hw
      have hname : ∀ nm, wordsF x = some nm → HeadOk nm := fun nm hnm => by
        obtain ⟨y, r, rfl, hy⟩ := words_head hnm
        exact ⟨y, r, rfl, .inr ⟨name_dig hy, name_ne hy (by decide +kernel)⟩⟩
      by_cases h16 : k = 16
      · rw [if_pos h16] at hw; exact hname _ hw
      rw [if_neg h16] at hw
      by_cases h17 : k = 17
      · rw [if_pos h17] at hw
        cases hn : wordsF x with
        | none => rw [hn] at hw; cases hw
        | some nm =>
          rw [hn] at hw
          cases he : opnF f 0 (ks.getD 0 noT) with
          | none => simp only [Option.bind_some, he] at hw; cases hw
          | some e =>
            simp only [Option.bind_some, he, Option.some.injEq] at hw
            subst hw
            exact (((hname _ hn).app).app).app
      rw [if_neg h17] at hw
      by_cases h18 : k = 18
      · rw [if_pos h18] at hw
        cases hn : wordsF x with
        | none => rw [hn] at hw; cases hw
        | some nm =>
          rw [hn] at hw
          cases he : itemsF (opnF f 0) 0 ks with
          | none => simp only [Option.bind_some, he] at hw; cases hw
          | some e =>
            simp only [Option.bind_some, he, Option.some.injEq] at hw
            subst hw
            exact (((hname _ hn).app).app).app
      rw [if_neg h18] at hw
      by_cases h19 : k = 19
      · rw [if_pos h19] at hw
        cases he : opnF f (max (opIs m.toNat) 1) (ks.getD 0 noT) with
        | none => rw [he] at hw; cases hw
        | some e =>
          rw [he] at hw
          cases he2 : opnF f (opIs m.toNat + 1) (ks.getD 1 noT) with
          | none => simp only [Option.bind_some, he2] at hw; cases hw
          | some e2 =>
            simp only [Option.bind_some, he2, Option.some.injEq] at hw
            subst hw
            exact ((opn_head f _ _ _ he).app).app
      rw [if_neg h19] at hw
      by_cases h20 : k = 20
      · rw [if_pos h20] at hw
        cases he : opnF f 3 (ks.getD 0 noT) with
        | none => rw [he] at hw; cases hw
        | some e =>
          rw [he] at hw
          obtain rfl := Option.some.inj hw
          exact ⟨_, _, rfl, .inr ⟨by decide +kernel, by decide +kernel⟩⟩
      rw [if_neg h20] at hw
      cases he : opnF f 3 (ks.getD 0 noT) with
      | none => rw [he] at hw; cases hw
      | some e =>
        rw [he] at hw
        obtain rfl := Option.some.inj hw
        exact ⟨_, _, rfl, .inr ⟨by decide +kernel, by decide +kernel⟩⟩
    unfold opnF at h
    by_cases hl : lookB exprKinds (.node k x m ks) = true
    · rw [if_pos hl] at h
      by_cases hb : l ≤ bindsF k m
      · rw [if_pos hb] at h; exact hbare _ hl h
      · rw [if_neg hb] at h
        cases hw : bareF (opnF f) (.node k x m ks) with
        | none => rw [hw] at h; cases h
        | some w =>
          rw [hw] at h
          obtain rfl := Option.some.inj h
          exact ⟨_, _, rfl, .inr ⟨by decide +kernel, by decide +kernel⟩⟩
    · rw [if_neg hl] at h; cases h
theorem u_call (ih : RT ts f) {x : ByteArray} {l c : List ByteArray} {ks : List Tree} (hw : wordsF x = some l) (hc : itemsF (opnF f 0) 0 ks = some c) (h : AtW ts i (l ++ [⟨#[40]⟩] ++ c ++ [⟨#[41]⟩])) : Uz ts i (.node 18 x 0 ks, ⟨i + (l.length + c.length + 2), false⟩) := by
  have h1 : AtW ts i (l ++ (⟨#[40]⟩ :: (c ++ [⟨#[41]⟩]))) := by simpa using h
  have hb := h1.right
  have hk := hb.tail
  have eb := txt_at hb rfl
  have n1 : eqS ⟨#[40]⟩ ⟨#[46]⟩ = false := by decide +kernel
  have n2 : eqS ⟨#[40]⟩ ⟨#[40]⟩ = true := by decide +kernel
  have hm := must_at hb rfl
  cases ks with
  | nil =>
    have e0 : c = [] := (Option.some.inj hc).symm
    subst e0
    have ez := txt_at (r := []) hk rfl
    have n3 : eqS ⟨#[41]⟩ ⟨#[41]⟩ = true := by decide +kernel
    refine ⟨2, ?_⟩
    rw [u_name hw h1 (by rw [eb]; exact n1), eb, n2, if_pos rfl]
    unfold callF
    rw [hm, ez, n3, if_pos rfl]
    have : i + (l.length + 0 + 2) = i + l.length + 1 + 1 := by omega
    simp only [List.length_nil, this]
    rfl
  | cons t0 r =>
    unfold itemsF at hc
    cases ha : opnF f 0 t0 with
    | none => rw [ha] at hc; cases hc
    | some a =>
      rw [ha] at hc
      cases ht : itemsF (opnF f 0) (0 + 1) r with
      | none => simp only [Option.bind_some, ht] at hc; cases hc
      | some tl =>
        simp only [Option.bind_some, ht, Option.some.injEq, if_true, List.nil_append] at hc
        subst hc
        obtain ⟨F, hF⟩ := call_items ih x r t0 a tl 0 [] _ ha ht hk
        have n3 : eqS (txt ts ⟨i + l.length + 1, false⟩) ⟨#[41]⟩ = false := by
          obtain ⟨y, ra, rfl, hy⟩ := opn_head f 0 t0 a ha
          rcases hy with hy | ⟨hy, hy2⟩
          · rw [txt_num (r := ra ++ tl ++ [⟨#[41]⟩]) hk hy]; decide +kernel
          · rw [txt_at (r := ra ++ tl ++ [⟨#[41]⟩]) hk hy]; exact hy2
        refine ⟨F + 2, ?_⟩
        rw [u_name hw h1 (by rw [eb]; exact n1), eb, n2, if_pos rfl]
        unfold callF
        rw [hm, n3, if_neg (by simp), hF]
        congr 3
        simp only [List.length_append]
        omega
theorem p_u (h : Pz ts 3 i R) : Uz ts i R := by
  obtain ⟨F, h⟩ := h
  cases F with
  | zero => simp [boundF] at h
  | succ F =>
    unfold boundF at h
    rw [if_pos (by omega)] at h
    exact ⟨F, h⟩
theorem u_sign (ih : RT ts f) {x : ByteArray} {K : Int} (hx : (x = ⟨#[45]⟩ ∧ K = 20) ∨ (x = ⟨#[33]⟩ ∧ K = 21)) {c : List ByteArray} {t0 : Tree} (hc : opnF f 3 t0 = some c) (h : AtW ts i ([x] ++ c)) (hF : Fol 3 (txt ts ⟨i + 1 + c.length, false⟩)) : Uz ts i (.node K empty 0 [t0], ⟨i + 1 + c.length, false⟩) := by
  have h1 : AtW ts i (x :: c) := h
  obtain ⟨F, hF⟩ := p_u (ih.p 3 t0 c (i + 1) (by omega) hc h1.tail hF)
  refine ⟨F + 1, ?_⟩
  rcases hx with ⟨rfl, rfl⟩ | ⟨rfl, rfl⟩
  · have e := txt_at h1 rfl
    have n1 : eqS ⟨#[45]⟩ ⟨#[45]⟩ = true := by decide +kernel
    unfold unaryF
    rw [e, n1, if_pos rfl]
    show ((unaryF ts F ⟨i + 1, false⟩).bind _) = _
    rw [hF]
    rfl
  · have e := txt_at h1 rfl
    have n1 : eqS ⟨#[33]⟩ ⟨#[45]⟩ = false := by decide +kernel
    have n2 : eqS ⟨#[33]⟩ ⟨#[33]⟩ = true := by decide +kernel
    unfold unaryF
    rw [e, n1, if_neg (by simp), n2, if_pos rfl]
    show ((unaryF ts F ⟨i + 1, false⟩).bind _) = _
    rw [hF]
    rfl
end
section
variable {ts : List Tok} {f i : Nat}
theorem empty_of {x : ByteArray} (h : textB x 0 = true) : x = empty := by
  unfold textB at h
  rw [if_pos rfl] at h
  have h0 : x.size = 0 := by simpa using h
  refine bytes_ext ?_
  show _ = []
  refine List.eq_nil_of_length_eq_zero ?_
  simpa using h0
theorem Levels.more {t : Tree} {e b : Nat} (h : Levels ts t i e 3) : Levels ts t i e b := ⟨fun _ => h.p3 (by omega), fun _ => h.b2 (by omega), fun _ => h.p2 (by omega), fun _ => h.b1 (by omega), fun _ => h.p1 (by omega), h.p0⟩
theorem one_w : ∀ (ks : List Tree), (1 : Int) ≤ ks.length → (ks.length : Int) ≤ 1 → ∃ t0, ks = [t0]
  | [t0], _, _ => ⟨t0, rfl⟩
  | [], a, _ => by simp at a
  | _ :: _ :: _, _, b => by simp only [List.length_cons] at b; omega
theorem two_w : ∀ (ks : List Tree), (2 : Int) ≤ ks.length → (ks.length : Int) ≤ 2 → ∃ t0 t1, ks = [t0, t1]
  | [t0, t1], _, _ => ⟨t0, t1, rfl⟩
  | [], a, _ => by simp at a
  | [_], a, _ => by simp at a
  | _ :: _ :: _ :: _, _, b => by simp only [List.length_cons] at b; omega
/-- an expression without parentheses around it -/
theorem bare_levels (ih : RT ts f) (k : Int) (x : ByteArray) (m : Int) (ks : List Tree) (w : List ByteArray) (hl : lookB exprKinds (.node k x m ks) = true) (hw : bareF (opnF f) (.node k x m ks) = some w) (h : AtW ts i w) (hF : Fol 3 (txt ts ⟨i + w.length, false⟩)) :
    Levels ts (.node k x m ks) i (i + w.length) (bindsF k m).toNat := by
  unfold lookB at hl
  simp only [Bool.and_eq_true, decide_eq_true_eq] at hl
  obtain ⟨⟨⟨⟨⟨hc, h1⟩, h2⟩, h3⟩, h4⟩, h5⟩ := hl
  have hk : k = 15 ∨ k = 16 ∨ k = 17 ∨ k = 18 ∨ k = 19 ∨ k = 20 ∨ k = 21 := by
    have := List.contains_iff_mem.1 hc
    simpa [exprKinds] using this
  rcases hk with rfl | rfl | rfl | rfl | rfl | rfl | rfl
  · have h1' : (0 : Int) ≤ m := h1
    have h4' : (ks.length : Int) ≤ 0 := h4
    obtain rfl : ks = [] := List.eq_nil_of_length_eq_zero (by omega)
    obtain rfl := empty_of h5
    have e : w = [numW m] := (Option.some.inj hw).symm
    subst e
    exact (levels_u (u_num h1' h)).more
  · have h1' : (0 : Int) ≤ m := h1
    have h2' : m ≤ 0 := h2
    obtain rfl : m = 0 := by omega
    have h4' : (ks.length : Int) ≤ 0 := h4
    obtain rfl : ks = [] := List.eq_nil_of_length_eq_zero (by omega)
    exact (levels_u (u_place hw h hF)).more
  · have h1' : (0 : Int) ≤ m := h1
    have h2' : m ≤ 0 := h2
    obtain rfl : m = 0 := by omega
    obtain ⟨t0, rfl⟩ := one_w ks h3 h4
    have hw' : ((wordsF x).bind fun nm => (opnF f 0 t0).bind fun e => some (nm ++ [⟨#[91]⟩] ++ e ++ [⟨#[93]⟩])) = some w := hw
    cases hn : wordsF x with
    | none => rw [hn] at hw'; cases hw'
    | some nm =>
      rw [hn] at hw'
      cases he : opnF f 0 t0 with
      | none => simp only [Option.bind_some, he] at hw'; cases hw'
      | some e =>
        simp only [Option.bind_some, he, Option.some.injEq] at hw'
        subst hw'
        have := u_item ih hn he h
        have e2 : (nm ++ [(⟨#[91]⟩ : ByteArray)] ++ e ++ [(⟨#[93]⟩ : ByteArray)]).length = nm.length + e.length + 2 := by simp; omega
        rw [e2]
        exact (levels_u this).more
  · have h1' : (0 : Int) ≤ m := h1
    have h2' : m ≤ 0 := h2
    obtain rfl : m = 0 := by omega
    have hw' : ((wordsF x).bind fun nm => (itemsF (opnF f 0) 0 ks).bind fun e => some (nm ++ [⟨#[40]⟩] ++ e ++ [⟨#[41]⟩])) = some w := hw
    cases hn : wordsF x with
    | none => rw [hn] at hw'; cases hw'
    | some nm =>
      rw [hn] at hw'
      cases he : itemsF (opnF f 0) 0 ks with
      | none => simp only [Option.bind_some, he] at hw'; cases hw'
      | some e =>
        simp only [Option.bind_some, he, Option.some.injEq] at hw'
        subst hw'
        have := u_call ih hn he h
        have e2 : (nm ++ [(⟨#[40]⟩ : ByteArray)] ++ e ++ [(⟨#[41]⟩ : ByteArray)]).length = nm.length + e.length + 2 := by simp; omega
        rw [e2]
        exact (levels_u this).more
  · have h1' : (1 : Int) ≤ m := h1
    have h2' : m ≤ 9 := h2
    obtain ⟨mn, rfl⟩ : ∃ mn : Nat, m = (mn : Int) := ⟨m.toNat, by omega⟩
    obtain ⟨t0, t1, rfl⟩ := two_w ks h3 h4
    obtain rfl := empty_of h5
    have hw' : ((opnF f (max (opIs mn) 1) t0).bind fun a => (opnF f (opIs mn + 1) t1).bind fun b => some (a ++ [opAt mn] ++ b)) = some w := hw
    cases ha : opnF f (max (opIs mn) 1) t0 with
    | none => rw [ha] at hw'; cases hw'
    | some a =>
      rw [ha] at hw'
      cases hb : opnF f (opIs mn + 1) t1 with
      | none => simp only [Option.bind_some, hb] at hw'; cases hw'
      | some c =>
        simp only [Option.bind_some, hb, Option.some.injEq] at hw'
        subst hw'
        exact levels_op ih mn (by omega) (by omega) t0 t1 a c ha hb h hF
  · have h1' : (0 : Int) ≤ m := h1
    have h2' : m ≤ 0 := h2
    obtain rfl : m = 0 := by omega
    obtain ⟨t0, rfl⟩ := one_w ks h3 h4
    obtain rfl := empty_of h5
    have hw' : ((opnF f 3 t0).bind fun e => some ([⟨#[45]⟩] ++ e)) = some w := hw
    cases he : opnF f 3 t0 with
    | none => rw [he] at hw'; cases hw'
    | some e =>
      rw [he] at hw'
      obtain rfl := Option.some.inj hw'
      have e2 : i + ([(⟨#[45]⟩ : ByteArray)] ++ e).length = i + 1 + e.length := by simp; omega
      rw [e2] at hF ⊢
      exact (levels_u (u_sign ih (.inl ⟨rfl, rfl⟩) he h hF)).more
  · have h1' : (0 : Int) ≤ m := h1
    have h2' : m ≤ 0 := h2
    obtain rfl : m = 0 := by omega
    obtain ⟨t0, rfl⟩ := one_w ks h3 h4
    obtain rfl := empty_of h5
    have hw' : ((opnF f 3 t0).bind fun e => some ([⟨#[33]⟩] ++ e)) = some w := hw
    cases he : opnF f 3 t0 with
    | none => rw [he] at hw'; cases hw'
    | some e =>
      rw [he] at hw'
      obtain rfl := Option.some.inj hw'
      have e2 : i + ([(⟨#[33]⟩ : ByteArray)] ++ e).length = i + 1 + e.length := by simp; omega
      rw [e2] at hF ⊢
      exact (levels_u (u_sign ih (.inr ⟨rfl, rfl⟩) he h hF)).more
theorem close_fol (h : AtW ts i [⟨#[41]⟩]) : Fol 0 (txt ts ⟨i, false⟩) := by
  rw [txt_at h rfl]
  exact fol_lit _ (by decide +kernel)
/-- what stands there is read, at whatever level it was asked for -/
theorem opn_levels (ih : RT ts f) (l : Nat) (hl3 : l ≤ 3) (t : Tree) (ws : List ByteArray) (ho : opnF (f + 1) (l : Int) t = some ws) (h : AtW ts i ws) (hF : Fol 3 (txt ts ⟨i + ws.length, false⟩)) : ∃ b, l ≤ b ∧ Levels ts t i (i + ws.length) b := by
  obtain ⟨k, x, m, ks⟩ := t
  unfold opnF at ho
  by_cases hl : lookB exprKinds (.node k x m ks) = true
  · rw [if_pos hl] at ho
    by_cases hb : (l : Int) ≤ bindsF k m
    · rw [if_pos hb] at ho
      exact ⟨(bindsF k m).toNat, by omega, bare_levels ih k x m ks ws hl ho h hF⟩
    · rw [if_neg hb] at ho
      cases hw : bareF (opnF f) (.node k x m ks) with
      | none => rw [hw] at ho; cases ho
      | some w =>
        rw [hw] at ho
        obtain rfl := Option.some.inj ho
        have h1 : AtW ts i (⟨#[40]⟩ :: (w ++ [⟨#[41]⟩])) := by simpa using h
        have hz := h1.tail.right
        have hL := bare_levels ih k x m ks w hl hw h1.tail.left ((close_fol hz).mono (by omega))
        have hU := u_round h hL.p0
        have e2 : ([(⟨#[40]⟩ : ByteArray)] ++ w ++ [(⟨#[41]⟩ : ByteArray)]).length = w.length + 2 := by simp
        rw [e2]
        exact ⟨3, hl3, levels_u hU⟩
  · rw [if_neg hl] at ho; cases ho
/-- every expression -/
theorem rt_all (ts : List Tok) : ∀ f, RT ts f
  | 0 => ⟨fun _ _ _ _ _ h => by simp [opnF] at h, fun _ _ _ _ _ _ h => by simp [opnF] at h⟩
  | f + 1 => by
    have ih := rt_all ts f
    refine ⟨fun l t ws i hl ho h hF => ?_, fun l t ws i R hl ho h hF hR => ?_⟩
    · obtain ⟨b, hb, hL⟩ := opn_levels ih l hl t ws ho h (hF.mono (by omega))
      exact hL.all l hl hb hF.sg
    · obtain ⟨b, hb, hL⟩ := opn_levels ih l (by omega) t ws ho h (hF.mono (by omega))
      exact hL.allB l hl hb hF.sg hR
end
end pr
namespace syn
open Go.Proofs.YtoobkaebahogdaaGreatDoor.lexs (Tok)
section
variable (ts : List Tok)
structure MonoS (f : Nat) : Prop where
  bk : ∀ s R, blockF ts f s = some R → blockF ts (f + 1) s = some R
  bl : ∀ ks s R, blockL ts f ks s = some R → blockL ts (f + 1) ks s = some R
  st : ∀ s R, statF ts f s = some R → statF ts (f + 1) s = some R
theorem monoS : ∀ f, MonoS ts f
  | 0 => ⟨fun _ _ h => by simp [blockF] at h, fun _ _ _ h => by simp [blockL] at h, fun _ _ h => by simp [statF] at h⟩
  | f + 1 => by
    have ih := monoS f
    have me := mono ts f
    refine ⟨fun s R h => ?_, fun ks s R h => ?_, fun s R h => ?_⟩
    · unfold blockF at h ⊢
      exact ih.bl _ _ _ h
    · unfold blockL at h ⊢
      by_cases hb : s.bad = true
      · rw [if_pos hb] at h ⊢; exact h
      · rw [if_neg hb] at h ⊢
        by_cases h1 : eqS (txt ts s) ⟨#[125]⟩ = true
        · rw [if_pos h1] at h ⊢; exact h
        · rw [if_neg h1] at h ⊢
          exact bind_mono h (fun q hq => ih.st _ _ hq) (fun q hq => ih.bl _ _ _ hq)
    · unfold statF at h ⊢
      by_cases h1 : eqS (txt ts s) ⟨#[105, 102]⟩ = true
      · rw [if_pos h1] at h ⊢
        refine bind_mono h (fun q hq => me.as _ _ hq) (fun q hq => bind_mono hq (fun b hb => ih.bk _ _ hb) (fun b hb => ?_))
        by_cases h2 : eqS (txt ts b.2) ⟨#[101, 108, 115, 101]⟩ = true
        · rw [if_pos h2] at hb ⊢; exact bind_mono hb (fun c hc => ih.bk _ _ hc) (fun c hc => hc)
        · rw [if_neg h2] at hb ⊢; exact hb
      rw [if_neg h1] at h ⊢
      by_cases h2 : eqS (txt ts s) ⟨#[119, 104, 105, 108, 101]⟩ = true
      · rw [if_pos h2] at h ⊢
        exact bind_mono h (fun q hq => me.as _ _ hq) (fun q hq => bind_mono hq (fun b hb => ih.bk _ _ hb) (fun b hb => hb))
      rw [if_neg h2] at h ⊢
      by_cases h3 : (eqS (txt ts s) ⟨#[108, 111, 119]⟩ || eqS (txt ts s) ⟨#[104, 105, 103, 104]⟩) = true
      · rw [if_pos h3] at h ⊢
        exact bind_mono h (fun q hq => me.ex _ _ hq) (fun q hq => hq)
      rw [if_neg h3] at h ⊢
      by_cases h4 : eqS (txt ts s) ⟨#[100, 111]⟩ = true
      · rw [if_pos h4] at h ⊢
        exact bind_mono h (fun q hq => me.ca _ _ _ hq) (fun q hq => hq)
      rw [if_neg h4] at h ⊢
      by_cases h5 : eqS (txt ts s) ⟨#[111, 117, 116]⟩ = true
      · rw [if_pos h5] at h ⊢
        exact bind_mono h (fun q hq => me.ex _ _ hq) (fun q hq => hq)
      rw [if_neg h5] at h ⊢
      by_cases h6 : eqS (txt ts s) ⟨#[105, 110]⟩ = true
      · rw [if_pos h6] at h ⊢
        exact bind_mono h (fun q hq => me.pl _ _ _ hq) (fun q hq => hq)
      rw [if_neg h6] at h ⊢
      by_cases h7 : eqS (txt ts s) ⟨#[114, 101, 116, 117, 114, 110]⟩ = true
      · rw [if_pos h7] at h ⊢
        exact bind_mono h (fun q hq => me.ex _ _ hq) (fun q hq => hq)
      rw [if_neg h7] at h ⊢
      exact bind_mono h (fun q hq => me.pl _ _ _ hq) (fun q hq => bind_mono hq (fun b hb => me.ex _ _ hb) (fun b hb => hb))
variable {ts}
theorem block_le {f g : Nat} (h : f ≤ g) {s R} (e : blockF ts f s = some R) : blockF ts g s = some R := by
  induction h with
  | refl => exact e
  | step _ ih => exact (monoS ts _).bk _ _ ih
theorem blockL_le {f g : Nat} (h : f ≤ g) {ks s R} (e : blockL ts f ks s = some R) : blockL ts g ks s = some R := by
  induction h with
  | refl => exact e
  | step _ ih => exact (monoS ts _).bl _ _ _ ih
theorem stat_le {f g : Nat} (h : f ≤ g) {s R} (e : statF ts f s = some R) : statF ts g s = some R := by
  induction h with
  | refl => exact e
  | step _ ih => exact (monoS ts _).st _ _ ih
theorem place_le {f g : Nat} (h : f ≤ g) {x s R} (e : placeF ts f x s = some R) : placeF ts g x s = some R := by
  induction h with
  | refl => exact e
  | step _ ih => exact (mono ts _).pl _ _ _ ih
theorem asked_le {f g : Nat} (h : f ≤ g) {s R} (e : askedF ts f s = some R) : askedF ts g s = some R := by
  induction h with
  | refl => exact e
  | step _ ih => exact (mono ts _).as _ _ ih
end
end syn
end Go.Proofs.YtoobkaebahogdaaGreatDoor
