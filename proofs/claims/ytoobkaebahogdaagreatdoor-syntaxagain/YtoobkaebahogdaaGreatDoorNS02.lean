/- The texts of a tree that was read are short: as the writing asks. No Go in sight. -/
import Derived.Test.YtoobkaebahogdaaGreatDoorNB00
import Derived.Test.YtoobkaebahogdaaGreatDoorNB01
import Derived.Test.YtoobkaebahogdaaGreatDoorNB02
import Derived.Test.YtoobkaebahogdaaGreatDoorNB03
import Derived.Test.YtoobkaebahogdaaGreatDoorNB04
import Derived.Test.YtoobkaebahogdaaGreatDoorNS00
import Derived.Test.YtoobkaebahogdaaGreatDoorNS01
set_option linter.unusedVariables false
set_option linter.unusedSimpArgs false
namespace Go.Proofs.YtoobkaebahogdaaGreatDoor
namespace pr
open Go.Proofs.YtoobkaebahogdaaGreatDoor.lexs (Tok scan numE val digB)
open Go.Proofs.YtoobkaebahogdaaGreatDoor.syn Go.Proofs.YtoobkaebahogdaaGreatDoor.face Go.Proofs.YtoobkaebahogdaaGreatDoor.chk
section
variable (ts : List Tok) (hG : ∀ t ∈ ts, lexs.GoodTok t)
include hG
/-- what is read as an expression weighs no less than what is printed of it -/
def EW (s : St) (l : Int) (q : Tree × St) : Prop := q.2.bad = false → s.bad = false ∧ tw ts s.i ≤ tw ts q.2.i ∧ Lx (tw ts s.i) l q.1 (tw ts q.2.i)
structure WtE (f : Nat) : Prop where
  ex : ∀ s q, exprF ts f s = some q → EW ts s 0 q
  bo : ∀ (l : Nat) s q, l ≤ 3 → boundF ts f l s = some q → EW ts s l q
  bl : ∀ (l : Nat) n s q a, l ≤ 2 → boundL ts f l n s = some q → Lx a l n (tw ts s.i) → (l = 0 → Lx a 1 n (tw ts s.i)) → q.2.bad = false → s.bad = false ∧ tw ts s.i ≤ tw ts q.2.i ∧ Lx a l q.1 (tw ts q.2.i)
  un : ∀ s q, unaryF ts f s = some q → EW ts s 3 q
  ak : ∀ s q, askedF ts f s = some q → EW ts s 4 q
  pl : ∀ x s q a, placeF ts f x s = some q → (s.bad = false → ∀ nm, wordsF x = some nm → a + wt nm ≤ tw ts s.i) → q.2.bad = false → s.bad = false ∧ tw ts s.i ≤ tw ts q.2.i ∧ Lx a 4 q.1 (tw ts q.2.i)
  ca : ∀ x s q a, callF ts f x s = some q → (s.bad = false → ∀ nm, wordsF x = some nm → a + wt nm ≤ tw ts s.i) → q.2.bad = false → s.bad = false ∧ tw ts s.i ≤ tw ts q.2.i ∧ Lx a 4 q.1 (tw ts q.2.i)
  cl : ∀ x ks s (on : Bool) q a, callL ts f x ks s on = some q → (s.bad = false → ∀ F nm w, wordsF x = some nm → itemsF (opnF F 0) 0 ks = some w → a + wt nm + 2 + wt w + (if on = true ∧ ks ≠ [] then 2 else 0) ≤ tw ts s.i) → q.2.bad = false → s.bad = false ∧ tw ts s.i ≤ tw ts q.2.i ∧ Lx a 4 q.1 (tw ts q.2.i)
omit hG in
theorem items_snoc (g : Tree → Option (List ByteArray)) (t : Tree) : ∀ (ks : List Tree) (k : Nat) (w : List ByteArray), itemsF g k (ks ++ [t]) = some w → ∃ a b, itemsF g k ks = some a ∧ g t = some b ∧ w = a ++ ((if k + ks.length = 0 then [] else [⟨#[44]⟩]) ++ b)
  | [], k, w, h => by
    simp only [List.nil_append, itemsF, Option.bind_eq_some_iff] at h
    obtain ⟨a, h1, b, h2, h3⟩ := h
    obtain rfl := Option.some.inj h2
    exact ⟨[], a, rfl, h1, by rw [← Option.some.inj h3]; simp⟩
  | u :: r, k, w, h => by
    rw [List.cons_append] at h
    unfold itemsF at h
    obtain ⟨a, h1, h⟩ := Option.bind_eq_some_iff.1 h
    obtain ⟨b, h2, h⟩ := Option.bind_eq_some_iff.1 h
    obtain rfl := Option.some.inj h
    obtain ⟨a', b', h3, h4, rfl⟩ := items_snoc g t r (k + 1) b h2
    refine ⟨(if k = 0 then [] else [⟨#[44]⟩]) ++ a ++ a', b', ?_, h4, ?_⟩
    · unfold itemsF
      rw [h1, Option.bind_some, h3, Option.bind_some]
    · rw [if_neg (show ¬ k + 1 + r.length = 0 by omega), if_neg (show ¬ k + (u :: r).length = 0 by simp)]
      simp [List.append_assoc]
theorem number_wt (s : St) (h : (number ts s).2.bad = false) : s.bad = false ∧ ∃ m, (number ts s).1 = .node 15 empty m [] ∧ tw ts s.i + wt [numW m] ≤ tw ts (number ts s).2.i := by
  unfold number at h ⊢
  cases hh : here ts s with
  | none => rw [hh] at h; simp [St.fail] at h
  | some t =>
    rw [hh] at h
    dsimp only at h ⊢
    unfold here at hh
    by_cases hb : s.bad = true
    · rw [if_pos hb] at hh; cases hh
    · rw [if_neg hb] at hh
      by_cases h2 : (t.kind == 2) = true
      · rw [if_pos h2]
        obtain ⟨h3, h4⟩ := hG t (List.mem_of_getElem? hh) (by simpa using h2)
        have h5 := num_size h3 h4
        refine ⟨by simpa using hb, _, rfl, ?_⟩
        show _ ≤ tw ts (s.i + 1)
        rw [tw_next hh]
        simp only [wt]
        omega
      · rw [if_neg h2] at h; simp [St.fail] at h
omit hG in
/-- what is no expression of its own needs no parentheses -/
theorem lx_most {a b : Nat} {k : Int} {x : ByteArray} {m : Int} {ks : List Tree} (hk : bindsF k m = 4) (h : ∀ F w, bareF (opnF F) (.node k x m ks) = some w → a + wt w ≤ b) : Lx a 4 (.node k x m ks) b := by
  intro F least w hl ho
  obtain ⟨F', b', _, rfl, hb, hc⟩ := opn_inv ho
  rcases hc with ⟨_, rfl⟩ | ⟨hn, _⟩
  · exact h F' w hb
  · rw [hk] at hn; omega
theorem wtE : ∀ f, WtE ts f
  | 0 => by
    constructor
    · intro s q h; unfold exprF at h; cases h
    · intro l s q _ h; unfold boundF at h; cases h
    · intro l n s q a _ h; unfold boundL at h; cases h
    · intro s q h; unfold unaryF at h; cases h
    · intro s q h; unfold askedF at h; cases h
    · intro x s q a h; unfold placeF at h; cases h
    · intro x s q a h; unfold callF at h; cases h
    · intro x ks s on q a h; unfold callL at h; cases h
  | f + 1 => by
    have ih := wtE f
    constructor
    · intro s q h hb
      unfold exprF at h
      split at h
      · rename_i hs
        obtain rfl := Option.some.inj h
        rw [hs] at hb; cases hb
      · exact ih.bo 0 s q (by omega) h hb
    · intro l s q hl h
      unfold boundF at h
      split at h
      · rename_i h2
        have : l = 3 := by omega
        subst this
        exact ih.un s q h
      · obtain ⟨p, hp, h⟩ := Option.bind_eq_some_iff.1 h
        intro hb
        have key := fun a g1 g2 => ih.bl l p.1 p.2 q a (by omega) h g1 g2 hb
        by_cases hpb : p.2.bad = true
        · exfalso
          cases f with
          | zero => unfold boundL at h; cases h
          | succ f =>
            unfold boundL at h
            rw [if_pos hpb] at h
            obtain rfl := Option.some.inj h
            rw [hpb] at hb; cases hb
        · obtain ⟨h1, h2, h3⟩ := ih.bo (l + 1) s p (by omega) hp (by simpa using hpb)
          obtain ⟨g1, g2, g3⟩ := key (tw ts s.i) (h3.low (by push_cast; omega)) (fun e => by subst e; exact h3)
          exact ⟨h1, by omega, g3⟩
    · intro l n s q a hl h hn hn0 hb
      unfold boundL at h
      split at h
      · rename_i hs
        obtain rfl := Option.some.inj h
        rw [hs] at hb; cases hb
      · split at h
        · obtain rfl := Option.some.inj h
          exact ⟨hb, Nat.le_refl _, hn⟩
        · rename_i hs0 hs
          have hsl : (sign (txt ts s)).2 = (l : Int) := by simpa using hs
          obtain ⟨k1, k2, k3⟩ := sign_ok (x := txt ts s) (by omega)
          obtain ⟨b1, b2⟩ := txt_step k3
          obtain ⟨p, hp, h⟩ := Option.bind_eq_some_iff.1 h
          have node : p.2.bad = false → tw ts s.i ≤ tw ts p.2.i ∧ Lx a l (.node 19 empty (sign (txt ts s)).1 [n, p.1]) (tw ts p.2.i) := by
            intro hpb
            obtain ⟨p1, p2, p3⟩ := ih.bo (l + 1) s.next p (by omega) hp hpb
            refine ⟨by omega, ?_⟩
            intro F least w hle ho
            obtain ⟨F', b', _, rfl, hbr, hc⟩ := opn_inv ho
            have hbd : bindsF 19 (sign (txt ts s)).1 = l := by unfold bindsF; rw [if_pos rfl, k1, hsl]
            rcases hc with ⟨_, rfl⟩ | ⟨hno, _⟩
            · have hbr : ((opnF F' (max (opIs (sign (txt ts s)).1.toNat) 1) n).bind fun a => (opnF F' (opIs (sign (txt ts s)).1.toNat + 1) p.1).bind fun b => some (a ++ [opAt (sign (txt ts s)).1.toNat] ++ b)) = some w := hbr
              obtain ⟨wa, ha, hbr⟩ := Option.bind_eq_some_iff.1 hbr
              obtain ⟨wb, hwb, hbr⟩ := Option.bind_eq_some_iff.1 hbr
              obtain rfl := Option.some.inj hbr
              rw [k1, hsl] at ha hwb
              have e1 : a + wt wa ≤ tw ts s.i := by
                rcases Nat.eq_zero_or_pos l with h0 | h0
                · subst h0
                  exact hn0 rfl F' _ wa (by show max ((0 : Nat) : Int) 1 ≤ 1; decide) ha
                · exact hn F' _ wa (by omega) ha
              have e2 := p3 F' _ wb (by push_cast; omega) hwb
              rw [wt_app, wt_app]
              simp only [wt]
              rw [k2]
              omega
            · rw [hbd] at hno; omega
          split at h
          · rename_i hl0
            obtain rfl := Option.some.inj h
            obtain ⟨c1, c2⟩ := node hb
            exact ⟨b1, c1, c2⟩
          · rename_i hl0
            have hl1 : l ≠ 0 := by simpa using hl0
            by_cases hpb : p.2.bad = true
            · exfalso
              cases f with
              | zero => unfold boundL at h; cases h
              | succ f =>
                unfold boundL at h
                rw [if_pos hpb] at h
                obtain rfl := Option.some.inj h
                rw [hpb] at hb; cases hb
            · obtain ⟨c1, c2⟩ := node (by simpa using hpb)
              obtain ⟨g1, g2, g3⟩ := ih.bl l _ p.2 q a hl h c2 (fun e => absurd e hl1) hb
              exact ⟨b1, by omega, g3⟩
    · intro s q h
      unfold unaryF at h
      split at h
      · rename_i he
        obtain ⟨p, hp, h⟩ := Option.bind_eq_some_iff.1 h
        obtain rfl := Option.some.inj h
        intro hb
        obtain ⟨h1, h2, h3⟩ := ih.un _ _ hp hb
        obtain ⟨b1, b2⟩ := eq_step he (by decide)
        refine ⟨b1, by dsimp only; omega, ?_⟩
        intro F least w hle ho
        obtain ⟨F', b', _, rfl, hbr, hc⟩ := opn_inv ho
        rcases hc with ⟨_, rfl⟩ | ⟨hno, _⟩
        · have hbr : ((opnF F' 3 p.1).bind fun e => some ([⟨#[45]⟩] ++ e)) = some w := hbr
          obtain ⟨wa, ha, hbr⟩ := Option.bind_eq_some_iff.1 hbr
          obtain rfl := Option.some.inj hbr
          have := h3 F' 3 wa (by omega) ha
          have z : wt [(⟨#[45]⟩ : ByteArray)] = 2 := rfl
          rw [wt_app, z]
          have z1 : (⟨#[45]⟩ : ByteArray).size = 1 := rfl
          dsimp only
          omega
        · have : bindsF 20 0 = 3 := rfl
          omega
      · split at h
        · rename_i _ he
          obtain ⟨p, hp, h⟩ := Option.bind_eq_some_iff.1 h
          obtain rfl := Option.some.inj h
          intro hb
          obtain ⟨h1, h2, h3⟩ := ih.un _ _ hp hb
          obtain ⟨b1, b2⟩ := eq_step he (by decide)
          refine ⟨b1, by dsimp only; omega, ?_⟩
          intro F least w hle ho
          obtain ⟨F', b', _, rfl, hbr, hc⟩ := opn_inv ho
          rcases hc with ⟨_, rfl⟩ | ⟨hno, _⟩
          · have hbr : ((opnF F' 3 p.1).bind fun e => some ([⟨#[33]⟩] ++ e)) = some w := hbr
            obtain ⟨wa, ha, hbr⟩ := Option.bind_eq_some_iff.1 hbr
            obtain rfl := Option.some.inj hbr
            have := h3 F' 3 wa (by omega) ha
            have z : wt [(⟨#[33]⟩ : ByteArray)] = 2 := rfl
            rw [wt_app, z]
            have z1 : (⟨#[33]⟩ : ByteArray).size = 1 := rfl
            dsimp only
            omega
          · have : bindsF 21 0 = 3 := rfl
            omega
        · split at h
          · intro hb
            obtain ⟨h1, h2, h3⟩ := ih.ak _ _ h hb
            exact ⟨h1, h2, h3.low (by omega)⟩
          · split at h
            · obtain rfl := Option.some.inj h
              intro hb
              obtain ⟨h1, m, e, h2⟩ := number_wt ts hG s hb
              refine ⟨h1, by omega, Lx.low (l := 4) ?_ (by omega)⟩
              rw [e]
              refine lx_most rfl (fun F w hw => ?_)
              have hw : some [numW m] = some w := hw
              obtain rfl := Option.some.inj hw
              exact h2
            · split at h
              · intro hb
                obtain ⟨h1, h2, h3⟩ := ih.ca _ _ _ (tw ts s.i) h (fun hwb nm hnm => by
                  have := (whole_step hwb).2 nm hnm
                  omega) hb
                obtain ⟨g1, g2⟩ := whole_step h1
                have g3 := whole_le h1
                exact ⟨g1, by omega, h3.low (by omega)⟩
              · intro hb
                obtain ⟨h1, h2, h3⟩ := ih.pl _ _ _ (tw ts s.i) h (fun hwb nm hnm => by
                  have := (whole_step hwb).2 nm hnm
                  omega) hb
                obtain ⟨g1, g2⟩ := whole_step h1
                have g3 := whole_le h1
                exact ⟨g1, by omega, h3.low (by omega)⟩
    · intro s q h
      unfold askedF at h
      obtain ⟨p, hp, h⟩ := Option.bind_eq_some_iff.1 h
      obtain rfl := Option.some.inj h
      intro hb
      dsimp only at hb ⊢
      obtain ⟨b1, b2⟩ := must_step (by decide) hb
      obtain ⟨h1, h2, h3⟩ := ih.ex _ _ hp b1
      obtain ⟨b3, b4⟩ := must_step (by decide) h1
      have z1 : (⟨#[40]⟩ : ByteArray).size = 1 := rfl
      have z2 : (⟨#[41]⟩ : ByteArray).size = 1 := rfl
      refine ⟨b3, by omega, ?_⟩
      intro F least w hle ho
      obtain ⟨b, hb0, hw⟩ := opn_zero ho
      have := h3 F 0 b (by omega) hb0
      omega
    · intro x s q a h hx hb
      unfold placeF at h
      split at h
      · rename_i he
        obtain ⟨p, hp, h⟩ := Option.bind_eq_some_iff.1 h
        obtain rfl := Option.some.inj h
        dsimp only at hb ⊢
        obtain ⟨b1, b2⟩ := must_step (by decide) hb
        obtain ⟨h1, h2, h3⟩ := ih.ex _ _ hp b1
        obtain ⟨b3, b4⟩ := eq_step he (by decide)
        have z1 : (⟨#[91]⟩ : ByteArray).size = 1 := rfl
        have z2 : (⟨#[93]⟩ : ByteArray).size = 1 := rfl
        refine ⟨b3, by omega, lx_most rfl (fun F w hw => ?_)⟩
        have hw : ((wordsF x).bind fun nm => (opnF F 0 p.1).bind fun e => some (nm ++ [⟨#[91]⟩] ++ e ++ [⟨#[93]⟩])) = some w := hw
        obtain ⟨nm, hnm, hw⟩ := Option.bind_eq_some_iff.1 hw
        obtain ⟨e, he', hw⟩ := Option.bind_eq_some_iff.1 hw
        obtain rfl := Option.some.inj hw
        have g1 := hx b3 nm hnm
        have g2 := h3 F 0 e (by omega) he'
        have z3 : wt [(⟨#[91]⟩ : ByteArray)] = 2 := rfl
        have z4 : wt [(⟨#[93]⟩ : ByteArray)] = 2 := rfl
        rw [wt_app, wt_app, wt_app, z3, z4]
        omega
      · obtain rfl := Option.some.inj h
        refine ⟨hb, Nat.le_refl _, lx_most rfl (fun F w hw => ?_)⟩
        have hw : wordsF x = some w := hw
        exact hx hb w hw
    · intro x s q a h hx hb
      unfold callF at h
      have z1 : (⟨#[40]⟩ : ByteArray).size = 1 := rfl
      have z2 : (⟨#[41]⟩ : ByteArray).size = 1 := rfl
      split at h
      · rename_i he
        obtain rfl := Option.some.inj h
        dsimp only at hb ⊢
        obtain ⟨b3, b4⟩ := eq_step he (by decide)
        obtain ⟨b5, b6⟩ := must_step (by decide) b3
        refine ⟨b5, by omega, lx_most rfl (fun F w hw => ?_)⟩
        have hw : ((wordsF x).bind fun nm => some (nm ++ [⟨#[40]⟩] ++ [] ++ [⟨#[41]⟩])) = some w := hw
        obtain ⟨nm, hnm, hw⟩ := Option.bind_eq_some_iff.1 hw
        obtain rfl := Option.some.inj hw
        have g1 := hx b5 nm hnm
        have z3 : wt [(⟨#[40]⟩ : ByteArray)] = 2 := rfl
        have z4 : wt [(⟨#[41]⟩ : ByteArray)] = 2 := rfl
        rw [wt_app, wt_app, wt_app, z3, z4]
        simp only [wt]
        omega
      · obtain ⟨h1, h2, h3⟩ := ih.cl x [] (must ts ⟨#[40]⟩ s) true q a h (fun hsb F nm w hnm hw => by
          obtain ⟨b5, b6⟩ := must_step (by decide) hsb
          have g1 := hx b5 nm hnm
          obtain rfl := Option.some.inj hw
          simp only [wt, ne_eq, not_true_eq_false, and_false, if_false]
          omega) hb
        obtain ⟨b5, b6⟩ := must_step (by decide) h1
        exact ⟨b5, by omega, h3⟩
    · intro x ks s on q a h hx hb
      unfold callL at h
      split at h
      · rename_i hon
        simp only [Bool.and_eq_true, Bool.not_eq_true'] at hon
        obtain ⟨hon, hsb⟩ := hon
        obtain ⟨p, hp, h⟩ := Option.bind_eq_some_iff.1 h
        have key := ih.cl x (ks ++ [p.1]) (eat ts ⟨#[44]⟩ p.2).2 (eat ts ⟨#[44]⟩ p.2).1 q a h
        have zc : wt [(⟨#[44]⟩ : ByteArray)] = 2 := rfl
        have z1 : (⟨#[44]⟩ : ByteArray).size = 1 := rfl
        have items : p.2.bad = false → ∀ F nm w, wordsF x = some nm → itemsF (opnF F 0) 0 (ks ++ [p.1]) = some w → a + wt nm + 2 + wt w ≤ tw ts p.2.i := by
          intro hpb F nm w hnm hw
          obtain ⟨wa, wb, g1, g2, rfl⟩ := items_snoc (opnF F 0) p.1 ks 0 w hw
          have g3 := hx hsb F nm wa hnm g1
          obtain ⟨h1, h2, h3⟩ := ih.ex _ _ hp hpb
          have g4 := h3 F 0 wb (by omega) g2
          rw [wt_app, wt_app]
          rw [hon] at g3
          cases ks with
          | nil =>
            simp only [List.length_nil, Nat.add_zero, if_true, wt] at g3 ⊢
            simp only [ne_eq, not_true_eq_false, and_false, if_false] at g3
            omega
          | cons u r =>
            rw [if_neg (by simp), zc]
            rw [if_pos ⟨rfl, by simp⟩] at g3
            omega
        unfold eat at key
        by_cases he : eqS (txt ts p.2) ⟨#[44]⟩ = true
        · rw [if_pos he] at key
          dsimp only at key
          obtain ⟨b1, b2⟩ := eq_step he (by decide)
          obtain ⟨h1, h2, h3⟩ := key (fun _ F nm w hnm hw => by
            have := items b1 F nm w hnm hw
            rw [if_pos ⟨rfl, by simp⟩]
            omega) hb
          obtain ⟨g1, g2, _⟩ := ih.ex _ _ hp b1
          exact ⟨hsb, by omega, h3⟩
        · rw [if_neg he] at key
          dsimp only at key
          obtain ⟨h1, h2, h3⟩ := key (fun hpb F nm w hnm hw => by
            have := items hpb F nm w hnm hw
            rw [if_neg (by simp)]
            omega) hb
          obtain ⟨g1, g2, _⟩ := ih.ex _ _ hp h1
          exact ⟨hsb, by omega, h3⟩
      · rename_i hon
        obtain rfl := Option.some.inj h
        dsimp only at hb ⊢
        obtain ⟨b1, b2⟩ := must_step (by decide) hb
        have z2 : (⟨#[41]⟩ : ByteArray).size = 1 := rfl
        refine ⟨b1, by omega, lx_most rfl (fun F w hw => ?_)⟩
        have hw : ((wordsF x).bind fun nm => (itemsF (opnF F 0) 0 ks).bind fun e => some (nm ++ [⟨#[40]⟩] ++ e ++ [⟨#[41]⟩])) = some w := hw
        obtain ⟨nm, hnm, hw⟩ := Option.bind_eq_some_iff.1 hw
        obtain ⟨e, he, hw⟩ := Option.bind_eq_some_iff.1 hw
        obtain rfl := Option.some.inj hw
        have g1 := hx b1 F nm e hnm he
        have z3 : wt [(⟨#[40]⟩ : ByteArray)] = 2 := rfl
        have z4 : wt [(⟨#[41]⟩ : ByteArray)] = 2 := rfl
        rw [wt_app, wt_app, wt_app, z3, z4]
        omega
end
theorem seq_snoc (g : Tree → Option (List ByteArray)) (t : Tree) : ∀ (ks : List Tree) (w : List ByteArray), seqF g (ks ++ [t]) = some w → ∃ a b, seqF g ks = some a ∧ g t = some b ∧ w = a ++ b
  | [], w, h => by
    simp only [List.nil_append, seqF, Option.bind_eq_some_iff] at h
    obtain ⟨a, h1, b, h2, h3⟩ := h
    obtain rfl := Option.some.inj h2
    exact ⟨[], a, rfl, h1, by rw [← Option.some.inj h3]; simp⟩
  | u :: r, w, h => by
    rw [List.cons_append] at h
    unfold seqF at h
    obtain ⟨a, h1, h⟩ := Option.bind_eq_some_iff.1 h
    obtain ⟨b, h2, h⟩ := Option.bind_eq_some_iff.1 h
    obtain rfl := Option.some.inj h
    obtain ⟨a', b', h3, h4, rfl⟩ := seq_snoc g t r b h2
    refine ⟨a ++ a', b', ?_, h4, by simp⟩
    unfold seqF
    rw [h1, Option.bind_some, h3, Option.bind_some]
theorem round_one {g : Tree → Option (List ByteArray)} {t : Tree} {w : List ByteArray} (h : roundF g [t] = some w) : ∃ a, g t = some a ∧ wt w = wt a + 4 := by
  unfold roundF at h
  obtain ⟨e, h1, h⟩ := Option.bind_eq_some_iff.1 h
  obtain rfl := Option.some.inj h
  unfold itemsF at h1
  obtain ⟨a, h2, h1⟩ := Option.bind_eq_some_iff.1 h1
  obtain ⟨b, h3, h1⟩ := Option.bind_eq_some_iff.1 h1
  obtain rfl := Option.some.inj h3
  obtain rfl := Option.some.inj h1
  refine ⟨a, h2, ?_⟩
  have z1 : wt [(⟨#[40]⟩ : ByteArray)] = 2 := rfl
  have z2 : wt [(⟨#[41]⟩ : ByteArray)] = 2 := rfl
  simp only [if_true, List.nil_append, List.append_nil, wt_app, z1, z2]
  omega
theorem stat_inv {F : Nat} {k : Int} {x : ByteArray} {m : Int} {ks : List Tree} {w : List ByteArray} (h : statW F (.node k x m ks) = some w) : ∃ F', F = F' + 1 ∧ lookB statKinds (.node k x m ks) = true := by
  cases F with
  | zero => simp [statW] at h
  | succ F =>
    refine ⟨F, rfl, ?_⟩
    unfold statW at h
    by_cases hl : lookB statKinds (.node k x m ks) = true
    · exact hl
    · rw [if_neg hl] at h; cases h
theorem place_inv {F : Nat} {t : Tree} {w : List ByteArray} (h : placeW F t = some w) : opnF F 0 t = some w := by
  unfold placeW at h
  by_cases hl : lookB [16, 17] t = true
  · rw [if_pos hl] at h; exact h
  · rw [if_neg hl] at h; cases h
theorem do_inv {F : Nat} {t : Tree} {w : List ByteArray} (h : doW F t = some w) : opnF F 0 t = some w := by
  unfold doW at h
  by_cases hl : lookB [18] t = true
  · rw [if_pos hl] at h; exact h
  · rw [if_neg hl] at h; cases h
section
variable (ts : List Tok) (hG : ∀ t ∈ ts, lexs.GoodTok t)
include hG
theorem asked2 (f : Nat) (s : St) (q : Tree × St) (h : askedF ts f s = some q) (hb : q.2.bad = false) : s.bad = false ∧ tw ts s.i ≤ tw ts q.2.i ∧ ∀ F w, opnF F 0 q.1 = some w → tw ts s.i + wt w + 4 ≤ tw ts q.2.i := by
  cases f with
  | zero => unfold askedF at h; cases h
  | succ f =>
    unfold askedF at h
    obtain ⟨p, hp, h⟩ := Option.bind_eq_some_iff.1 h
    obtain rfl := Option.some.inj h
    dsimp only at hb ⊢
    obtain ⟨b1, b2⟩ := must_step (by decide) hb
    obtain ⟨h1, h2, h3⟩ := (wtE ts hG f).ex _ _ hp b1
    obtain ⟨b3, b4⟩ := must_step (by decide) h1
    have z1 : (⟨#[40]⟩ : ByteArray).size = 1 := rfl
    have z2 : (⟨#[41]⟩ : ByteArray).size = 1 := rfl
    refine ⟨b3, by omega, fun F w ho => ?_⟩
    have := h3 F 0 w (by omega) ho
    omega
/-- what is read weighs no less than what is printed of it -/
def SW (g : Nat → Tree → Option (List ByteArray)) (s : St) (q : Tree × St) : Prop := q.2.bad = false → s.bad = false ∧ tw ts s.i ≤ tw ts q.2.i ∧ ∀ F w, g F q.1 = some w → tw ts s.i + wt w ≤ tw ts q.2.i
structure WtS (f : Nat) : Prop where
  bl : ∀ s q, blockF ts f s = some q → SW ts blockW s q
  li : ∀ ks s q a, blockL ts f ks s = some q → (s.bad = false → ∀ F b, seqF (statW F) ks = some b → a + 2 + wt b ≤ tw ts s.i) → q.2.bad = false → s.bad = false ∧ tw ts s.i ≤ tw ts q.2.i ∧ ∀ F w, blockW F q.1 = some w → a + wt w ≤ tw ts q.2.i
  st : ∀ s q, statF ts f s = some q → SW ts statW s q
theorem wtS : ∀ f, WtS ts f
  | 0 => by
    constructor
    · intro s q h; unfold blockF at h; cases h
    · intro ks s q a h; unfold blockL at h; cases h
    · intro s q h; unfold statF at h; cases h
  | f + 1 => by
    have ih := wtS f
    have ie := wtE ts hG f
    have zb : wt [(⟨#[123]⟩ : ByteArray)] = 2 := rfl
    have ze : wt [(⟨#[125]⟩ : ByteArray)] = 2 := rfl
    have zs : wt [(⟨#[59]⟩ : ByteArray)] = 2 := rfl
    have zq : wt [(⟨#[61]⟩ : ByteArray)] = 2 := rfl
    have s1 : (⟨#[123]⟩ : ByteArray).size = 1 := rfl
    have s2 : (⟨#[125]⟩ : ByteArray).size = 1 := rfl
    have s3 : (⟨#[59]⟩ : ByteArray).size = 1 := rfl
    have s4 : (⟨#[61]⟩ : ByteArray).size = 1 := rfl
    constructor
    · intro s q h hb
      unfold blockF at h
      obtain ⟨h1, h2, h3⟩ := ih.li [] (must ts ⟨#[123]⟩ s) q (tw ts s.i) h (fun hsb F b hsq => by
        obtain ⟨b1, b2⟩ := must_step (by decide) hsb
        obtain rfl := Option.some.inj hsq
        simp only [wt]
        omega) hb
      obtain ⟨b1, b2⟩ := must_step (by decide) h1
      exact ⟨b1, by omega, h3⟩
    · intro ks s q a h hx hb
      unfold blockL at h
      split at h
      · rename_i hs
        obtain rfl := Option.some.inj h
        rw [hs] at hb; cases hb
      · split at h
        · rename_i he
          obtain rfl := Option.some.inj h
          obtain ⟨b1, b2⟩ := eq_step he (by decide)
          refine ⟨b1, by dsimp only; omega, fun F w hw => ?_⟩
          dsimp only at hw ⊢
          cases F with
          | zero => simp [blockW] at hw
          | succ F =>
            unfold blockW at hw
            by_cases hl : lookB [6] (.node 6 empty 0 ks) = true
            · rw [if_pos hl] at hw
              obtain ⟨b, hsq, hw⟩ := Option.bind_eq_some_iff.1 hw
              obtain rfl := Option.some.inj hw
              have := hx b1 F b hsq
              rw [wt_app, wt_app, zb, ze]
              omega
            · rw [if_neg hl] at hw; cases hw
        · rename_i hs _
          have hsb : s.bad = false := by simpa using hs
          obtain ⟨p, hp, h⟩ := Option.bind_eq_some_iff.1 h
          obtain ⟨h1, h2, h3⟩ := ih.li (ks ++ [p.1]) p.2 q a h (fun hpb F b hsq => by
            obtain ⟨wa, wb, g1, g2, rfl⟩ := seq_snoc (statW F) p.1 ks b hsq
            obtain ⟨c1, c2, c3⟩ := ih.st _ _ hp hpb
            have := hx c1 F wa g1
            have := c3 F wb g2
            rw [wt_app]
            omega) hb
          obtain ⟨c1, c2, c3⟩ := ih.st _ _ hp h1
          exact ⟨hsb, by omega, h3⟩
    · intro s q h
      unfold statF at h
      split at h
      · rename_i he
        obtain ⟨x, hx, h⟩ := Option.bind_eq_some_iff.1 h
        obtain ⟨b, hbk, h⟩ := Option.bind_eq_some_iff.1 h
        have zi : (⟨#[105, 102]⟩ : ByteArray).size = 2 := rfl
        have zw : wt [(⟨#[105, 102]⟩ : ByteArray)] = 3 := rfl
        have zl : (⟨#[101, 108, 115, 101]⟩ : ByteArray).size = 4 := rfl
        have zv : wt [(⟨#[101, 108, 115, 101]⟩ : ByteArray)] = 5 := rfl
        obtain ⟨e1, e2⟩ := eq_step he (by decide)
        split at h
        · rename_i hel
          obtain ⟨c, hc, h⟩ := Option.bind_eq_some_iff.1 h
          obtain rfl := Option.some.inj h
          intro hb
          dsimp only at hb ⊢
          obtain ⟨c1, c2, c3⟩ := ih.bl _ _ hc hb
          obtain ⟨l1, l2⟩ := eq_step hel (by decide)
          obtain ⟨d1, d2, d3⟩ := ih.bl _ _ hbk l1
          obtain ⟨x1, x2, x3⟩ := asked2 ts hG f _ _ hx d1
          refine ⟨e1, by omega, fun F w hw => ?_⟩
          obtain ⟨F', rfl, hl⟩ := stat_inv hw
          unfold statW at hw
          rw [if_pos hl] at hw
          have hw : ((roundF (opnF F' 0) [x.1]).bind fun c' => (blockW F' b.1).bind fun b' => (blockW F' c.1).bind fun d => some ([⟨#[105, 102]⟩] ++ c' ++ b' ++ [⟨#[101, 108, 115, 101]⟩] ++ d)) = some w := hw
          obtain ⟨w1, g1, hw⟩ := Option.bind_eq_some_iff.1 hw
          obtain ⟨w2, g2, hw⟩ := Option.bind_eq_some_iff.1 hw
          obtain ⟨w3, g3, hw⟩ := Option.bind_eq_some_iff.1 hw
          obtain rfl := Option.some.inj hw
          obtain ⟨w0, g0, r0⟩ := round_one g1
          have := x3 F' w0 g0
          have := d3 F' w2 g2
          have := c3 F' w3 g3
          simp only [wt_app, zw, zv]
          omega
        · obtain rfl := Option.some.inj h
          intro hb
          dsimp only at hb ⊢
          obtain ⟨d1, d2, d3⟩ := ih.bl _ _ hbk hb
          obtain ⟨x1, x2, x3⟩ := asked2 ts hG f _ _ hx d1
          refine ⟨e1, by omega, fun F w hw => ?_⟩
          obtain ⟨F', rfl, hl⟩ := stat_inv hw
          unfold statW at hw
          rw [if_pos hl] at hw
          have hw : ((roundF (opnF F' 0) [x.1]).bind fun c' => (blockW F' b.1).bind fun b' => some ([⟨#[105, 102]⟩] ++ c' ++ b')) = some w := hw
          obtain ⟨w1, g1, hw⟩ := Option.bind_eq_some_iff.1 hw
          obtain ⟨w2, g2, hw⟩ := Option.bind_eq_some_iff.1 hw
          obtain rfl := Option.some.inj hw
          obtain ⟨w0, g0, r0⟩ := round_one g1
          have := x3 F' w0 g0
          have := d3 F' w2 g2
          simp only [wt_app, zw]
          omega
      · split at h
        · rename_i _ he
          obtain ⟨x, hx, h⟩ := Option.bind_eq_some_iff.1 h
          obtain ⟨b, hbk, h⟩ := Option.bind_eq_some_iff.1 h
          obtain rfl := Option.some.inj h
          intro hb
          dsimp only at hb ⊢
          have zi : (⟨#[119, 104, 105, 108, 101]⟩ : ByteArray).size = 5 := rfl
          have zw : wt [(⟨#[119, 104, 105, 108, 101]⟩ : ByteArray)] = 6 := rfl
          obtain ⟨e1, e2⟩ := eq_step he (by decide)
          obtain ⟨d1, d2, d3⟩ := ih.bl _ _ hbk hb
          obtain ⟨x1, x2, x3⟩ := asked2 ts hG f _ _ hx d1
          refine ⟨e1, by omega, fun F w hw => ?_⟩
          obtain ⟨F', rfl, hl⟩ := stat_inv hw
          unfold statW at hw
          rw [if_pos hl] at hw
          have hw : ((roundF (opnF F' 0) [x.1]).bind fun c' => (blockW F' b.1).bind fun b' => some ([⟨#[119, 104, 105, 108, 101]⟩] ++ c' ++ b')) = some w := hw
          obtain ⟨w1, g1, hw⟩ := Option.bind_eq_some_iff.1 hw
          obtain ⟨w2, g2, hw⟩ := Option.bind_eq_some_iff.1 hw
          obtain rfl := Option.some.inj hw
          obtain ⟨w0, g0, r0⟩ := round_one g1
          have := x3 F' w0 g0
          have := d3 F' w2 g2
          simp only [wt_app, zw]
          omega
        · split at h
          · obtain ⟨x, hx, h⟩ := Option.bind_eq_some_iff.1 h
            obtain rfl := Option.some.inj h
            intro hb
            dsimp only at hb ⊢
            obtain ⟨m1, m2⟩ := must_step (by decide) hb
            obtain ⟨x1, x2, x3⟩ := ie.ex _ _ hx m1
            obtain ⟨m3, m4⟩ := must_step (by decide) x1
            obtain ⟨n1, n2, n3⟩ := name_step m3
            obtain ⟨l1, l2⟩ := label_step n1
            refine ⟨l1, by omega, fun F w hw => ?_⟩
            obtain ⟨F', rfl, hl⟩ := stat_inv hw
            unfold statW at hw
            rw [if_pos hl] at hw
            have hw : ((opnF F' 0 x.1).bind fun e => some ([labW (label ts s).1] ++ [(name ts (label ts s).2).1, ⟨#[61]⟩] ++ e ++ [⟨#[59]⟩])) = some w := hw
            obtain ⟨w1, g1, hw⟩ := Option.bind_eq_some_iff.1 hw
            obtain rfl := Option.some.inj hw
            have := x3 F' 0 w1 (by omega) g1
            simp only [wt_app, zs, wt]
            omega
          · split at h
            · rename_i _ _ _ he
              obtain ⟨x, hx, h⟩ := Option.bind_eq_some_iff.1 h
              obtain rfl := Option.some.inj h
              intro hb
              dsimp only at hb ⊢
              have zi : (⟨#[100, 111]⟩ : ByteArray).size = 2 := rfl
              have zw : wt [(⟨#[100, 111]⟩ : ByteArray)] = 3 := rfl
              obtain ⟨e1, e2⟩ := eq_step he (by decide)
              obtain ⟨m1, m2⟩ := must_step (by decide) hb
              obtain ⟨x1, x2, x3⟩ := ie.ca _ _ _ (tw ts s.next.i) hx (fun hwb nm hnm => by
                have := (whole_step hwb).2 nm hnm
                omega) m1
              have wl := whole_le x1
              refine ⟨e1, by omega, fun F w hw => ?_⟩
              obtain ⟨F', rfl, hl⟩ := stat_inv hw
              unfold statW at hw
              rw [if_pos hl] at hw
              have hw : ((doW F' x.1).bind fun e => some ([⟨#[100, 111]⟩] ++ e ++ [⟨#[59]⟩])) = some w := hw
              obtain ⟨w1, g1, hw⟩ := Option.bind_eq_some_iff.1 hw
              obtain rfl := Option.some.inj hw
              have := x3 F' 0 w1 (by omega) (do_inv g1)
              simp only [wt_app, zs, zw]
              omega
            · split at h
              · rename_i _ _ _ _ he
                obtain ⟨x, hx, h⟩ := Option.bind_eq_some_iff.1 h
                obtain rfl := Option.some.inj h
                intro hb
                dsimp only at hb ⊢
                have zi : (⟨#[111, 117, 116]⟩ : ByteArray).size = 3 := rfl
                have zw : wt [(⟨#[111, 117, 116]⟩ : ByteArray)] = 4 := rfl
                obtain ⟨e1, e2⟩ := eq_step he (by decide)
                obtain ⟨m1, m2⟩ := must_step (by decide) hb
                obtain ⟨x1, x2, x3⟩ := ie.ex _ _ hx m1
                obtain ⟨l1, l2⟩ := label_step x1
                refine ⟨e1, by omega, fun F w hw => ?_⟩
                obtain ⟨F', rfl, hl⟩ := stat_inv hw
                unfold statW at hw
                rw [if_pos hl] at hw
                have hw : ((opnF F' 0 x.1).bind fun e => some ([⟨#[111, 117, 116]⟩] ++ [labW (label ts s.next).1] ++ e ++ [⟨#[59]⟩])) = some w := hw
                obtain ⟨w1, g1, hw⟩ := Option.bind_eq_some_iff.1 hw
                obtain rfl := Option.some.inj hw
                have := x3 F' 0 w1 (by omega) g1
                simp only [wt_app, zs, zw, wt]
                omega
              · split at h
                · rename_i _ _ _ _ _ he
                  obtain ⟨x, hx, h⟩ := Option.bind_eq_some_iff.1 h
                  obtain rfl := Option.some.inj h
                  intro hb
                  dsimp only at hb ⊢
                  have zi : (⟨#[105, 110]⟩ : ByteArray).size = 2 := rfl
                  have zw : wt [(⟨#[105, 110]⟩ : ByteArray)] = 3 := rfl
                  obtain ⟨e1, e2⟩ := eq_step he (by decide)
                  obtain ⟨m1, m2⟩ := must_step (by decide) hb
                  obtain ⟨x1, x2, x3⟩ := ie.pl _ _ _ (tw ts (label ts s.next).2.i) hx (fun hwb nm hnm => by
                    have := (whole_step hwb).2 nm hnm
                    omega) m1
                  have wl := whole_le x1
                  obtain ⟨wb, _⟩ := whole_step x1
                  obtain ⟨l1, l2⟩ := label_step wb
                  refine ⟨e1, by omega, fun F w hw => ?_⟩
                  obtain ⟨F', rfl, hl⟩ := stat_inv hw
                  unfold statW at hw
                  rw [if_pos hl] at hw
                  have hw : ((placeW F' x.1).bind fun e => some ([⟨#[105, 110]⟩] ++ [labW (label ts s.next).1] ++ e ++ [⟨#[59]⟩])) = some w := hw
                  obtain ⟨w1, g1, hw⟩ := Option.bind_eq_some_iff.1 hw
                  obtain rfl := Option.some.inj hw
                  have := x3 F' 0 w1 (by omega) (place_inv g1)
                  simp only [wt_app, zs, zw, wt]
                  omega
                · split at h
                  · rename_i _ _ _ _ _ _ he
                    obtain ⟨x, hx, h⟩ := Option.bind_eq_some_iff.1 h
                    obtain rfl := Option.some.inj h
                    intro hb
                    dsimp only at hb ⊢
                    have zi : (⟨#[114, 101, 116, 117, 114, 110]⟩ : ByteArray).size = 6 := rfl
                    have zw : wt [(⟨#[114, 101, 116, 117, 114, 110]⟩ : ByteArray)] = 7 := rfl
                    obtain ⟨e1, e2⟩ := eq_step he (by decide)
                    obtain ⟨m1, m2⟩ := must_step (by decide) hb
                    obtain ⟨x1, x2, x3⟩ := ie.ex _ _ hx m1
                    refine ⟨e1, by omega, fun F w hw => ?_⟩
                    obtain ⟨F', rfl, hl⟩ := stat_inv hw
                    unfold statW at hw
                    rw [if_pos hl] at hw
                    have hw : ((opnF F' 0 x.1).bind fun e => some ([⟨#[114, 101, 116, 117, 114, 110]⟩] ++ e ++ [⟨#[59]⟩])) = some w := hw
                    obtain ⟨w1, g1, hw⟩ := Option.bind_eq_some_iff.1 hw
                    obtain rfl := Option.some.inj hw
                    have := x3 F' 0 w1 (by omega) g1
                    simp only [wt_app, zs, zw]
                    omega
                  · obtain ⟨x, hx, h⟩ := Option.bind_eq_some_iff.1 h
                    obtain ⟨y, hy, h⟩ := Option.bind_eq_some_iff.1 h
                    obtain rfl := Option.some.inj h
                    intro hb
                    dsimp only at hb ⊢
                    obtain ⟨m1, m2⟩ := must_step (by decide) hb
                    obtain ⟨y1, y2, y3⟩ := ie.ex _ _ hy m1
                    obtain ⟨m3, m4⟩ := must_step (by decide) y1
                    obtain ⟨x1, x2, x3⟩ := ie.pl _ _ _ (tw ts s.i) hx (fun hwb nm hnm => by
                      have := (whole_step hwb).2 nm hnm
                      omega) m3
                    have wl := whole_le x1
                    obtain ⟨wb, _⟩ := whole_step x1
                    refine ⟨wb, by omega, fun F w hw => ?_⟩
                    obtain ⟨F', rfl, hl⟩ := stat_inv hw
                    unfold statW at hw
                    rw [if_pos hl] at hw
                    have hw : ((placeW F' x.1).bind fun p => (opnF F' 0 y.1).bind fun e => some (p ++ [⟨#[61]⟩] ++ e ++ [⟨#[59]⟩])) = some w := hw
                    obtain ⟨w1, g1, hw⟩ := Option.bind_eq_some_iff.1 hw
                    obtain ⟨w2, g2, hw⟩ := Option.bind_eq_some_iff.1 hw
                    obtain rfl := Option.some.inj hw
                    have := x3 F' 0 w1 (by omega) (place_inv g1)
                    have := y3 F' 0 w2 (by omega) g2
                    simp only [wt_app, zs, zq]
                    omega
end
section
variable (ts : List Tok) (hG : ∀ t ∈ ts, lexs.GoodTok t)
theorem label_01 (s : St) : (label ts s).1 = 0 ∨ (label ts s).1 = 1 := by
  unfold label
  split
  · exact .inr rfl
  · exact .inl rfl
theorem paramsL_wt : ∀ (f : Nat) (ks : List Tree) (s : St) (q : List Tree × St) (a : Nat), paramsL ts f ks s = some q → (s.bad = false → ∀ w, itemsF parW 0 ks = some w → a + wt w + (if ks = [] then 0 else 2) ≤ tw ts s.i) → q.2.bad = false → s.bad = false ∧ tw ts s.i ≤ tw ts q.2.i ∧ ∀ w, itemsF parW 0 q.1 = some w → a + wt w ≤ tw ts q.2.i
  | 0, ks, s, q, a, h, hx, hb => by unfold paramsL at h; cases h
  | f + 1, ks, s, q, a, h, hx, hb => by
    unfold paramsL at h
    have items : (name ts (label ts s).2).2.bad = false → s.bad = false ∧ tw ts s.i ≤ tw ts (name ts (label ts s).2).2.i ∧ ∀ w, itemsF parW 0 (ks ++ [.node 5 (name ts (label ts s).2).1 (label ts s).1 []]) = some w → a + wt w ≤ tw ts (name ts (label ts s).2).2.i := by
      intro hnb
      obtain ⟨n1, n2, n3⟩ := name_step hnb
      obtain ⟨l1, l2⟩ := label_step n1
      refine ⟨l1, by omega, fun w hw => ?_⟩
      obtain ⟨wa, wb, g1, g2, rfl⟩ := items_snoc parW _ ks 0 w hw
      have g3 := hx l1 wa g1
      have e : wb = [labW (label ts s).1, (name ts (label ts s).2).1] := by
        unfold parW at g2
        dsimp only at g2
        by_cases hl : lookB [5] (.node 5 (name ts (label ts s).2).1 (label ts s).1 []) = true
        · rw [if_pos hl] at g2; exact (Option.some.inj g2).symm
        · rw [if_neg hl] at g2; cases g2
      subst e
      have zc : wt [(⟨#[44]⟩ : ByteArray)] = 2 := rfl
      rw [wt_app, wt_app]
      cases ks with
      | nil =>
        simp only [List.length_nil, Nat.add_zero, if_true, wt] at g3 ⊢
        omega
      | cons u r =>
        rw [if_neg (by simp), zc]
        rw [if_neg (by simp)] at g3
        simp only [wt]
        omega
    split at h
    · rename_i he
      obtain ⟨e1, e2⟩ := eq_step he (by decide)
      have z1 : (⟨#[44]⟩ : ByteArray).size = 1 := rfl
      obtain ⟨h1, h2, h3⟩ := paramsL_wt f _ _ q a h (fun hnb w hw => by
        obtain ⟨i1, i2, i3⟩ := items e1
        have := i3 w hw
        rw [if_neg (by simp)]
        omega) hb
      obtain ⟨i1, i2, i3⟩ := items e1
      exact ⟨i1, by omega, h3⟩
    · obtain rfl := Option.some.inj h
      exact items hb
theorem params_wt (f : Nat) (s : St) (q : List Tree × St) (h : params ts f s = some q) (hb : q.2.bad = false) : s.bad = false ∧ tw ts s.i ≤ tw ts q.2.i ∧ ∀ w, itemsF parW 0 q.1 = some w → tw ts s.i + wt w ≤ tw ts q.2.i := by
  unfold params at h
  split at h
  · obtain rfl := Option.some.inj h
    refine ⟨hb, Nat.le_refl _, fun w hw => ?_⟩
    obtain rfl := Option.some.inj hw
    simp [wt]
  · exact paramsL_wt ts f [] s q _ h (fun _ w hw => by
      obtain rfl := Option.some.inj hw
      simp [wt]) hb
theorem pub_wt (s : St) (hb : (pubS ts s).bad = false) : s.bad = false ∧ tw ts s.i ≤ tw ts (pubS ts s).i ∧ (pubN ts s = 0 ∨ (pubN ts s = 2 ∧ tw ts s.i + 4 ≤ tw ts (pubS ts s).i)) := by
  unfold pubS pubN at *
  by_cases he : eqS (txt ts s) ⟨#[112, 117, 98]⟩ = true
  · rw [if_pos he] at hb ⊢
    rw [if_pos he]
    obtain ⟨e1, e2⟩ := eq_step he (by decide)
    have z1 : (⟨#[112, 117, 98]⟩ : ByteArray).size = 3 := rfl
    exact ⟨e1, by omega, .inr ⟨rfl, by omega⟩⟩
  · rw [if_neg he] at hb ⊢
    rw [if_neg he]
    exact ⟨hb, Nat.le_refl _, .inl rfl⟩
theorem gives_wt (n : Int) (hn : n = 0 ∨ n = 2) (s : St) (hb : (givesS ts s).bad = false) : s.bad = false ∧ tw ts s.i ≤ tw ts (givesS ts s).i ∧ ((givesN ts n s).toNat / 2 % 2 = 1 ↔ n = 2) ∧ tw ts s.i + wt ([labW (givesN ts n s % 2)] ++ givW (givesN ts n s)) ≤ tw ts (givesS ts s).i := by
  unfold givesS givesN at *
  by_cases he : eqS (txt ts (label ts s).2) ⟨#[103, 105, 118, 101, 115]⟩ = true
  · rw [if_pos he] at hb ⊢
    rw [if_pos he]
    obtain ⟨g1, g2⟩ := label_step hb
    obtain ⟨e1, e2⟩ := eq_step he (by decide)
    obtain ⟨l1, l2⟩ := label_step e1
    have z1 : (⟨#[103, 105, 118, 101, 115]⟩ : ByteArray).size = 5 := rfl
    refine ⟨l1, by omega, ?_⟩
    rcases hn with rfl | rfl <;> rcases label_01 ts s with h1 | h1 <;> rcases label_01 ts (label ts s).2.next with h2 | h2 <;> rw [h1, h2] <;> rw [h1] at l2 <;> rw [h2] at g2
    all_goals
      refine ⟨by decide, ?_⟩
      first
      | (have z : wt ([labW ((0 + 0 + 4 + 4 * 0 : Int) % 2)] ++ givW (0 + 0 + 4 + 4 * 0)) = 14 := rfl; have y1 : (labW 0).size = 3 := rfl; rw [z]; omega)
      | (have z : wt ([labW ((0 + 0 + 4 + 4 * 1 : Int) % 2)] ++ givW (0 + 0 + 4 + 4 * 1)) = 15 := rfl; have y1 : (labW 0).size = 3 := rfl; have y2 : (labW 1).size = 4 := rfl; rw [z]; omega)
      | (have z : wt ([labW ((0 + 1 + 4 + 4 * 0 : Int) % 2)] ++ givW (0 + 1 + 4 + 4 * 0)) = 15 := rfl; have y1 : (labW 0).size = 3 := rfl; have y2 : (labW 1).size = 4 := rfl; rw [z]; omega)
      | (have z : wt ([labW ((0 + 1 + 4 + 4 * 1 : Int) % 2)] ++ givW (0 + 1 + 4 + 4 * 1)) = 16 := rfl; have y2 : (labW 1).size = 4 := rfl; rw [z]; omega)
      | (have z : wt ([labW ((2 + 0 + 4 + 4 * 0 : Int) % 2)] ++ givW (2 + 0 + 4 + 4 * 0)) = 14 := rfl; have y1 : (labW 0).size = 3 := rfl; rw [z]; omega)
      | (have z : wt ([labW ((2 + 0 + 4 + 4 * 1 : Int) % 2)] ++ givW (2 + 0 + 4 + 4 * 1)) = 15 := rfl; have y1 : (labW 0).size = 3 := rfl; have y2 : (labW 1).size = 4 := rfl; rw [z]; omega)
      | (have z : wt ([labW ((2 + 1 + 4 + 4 * 0 : Int) % 2)] ++ givW (2 + 1 + 4 + 4 * 0)) = 15 := rfl; have y1 : (labW 0).size = 3 := rfl; have y2 : (labW 1).size = 4 := rfl; rw [z]; omega)
      | (have z : wt ([labW ((2 + 1 + 4 + 4 * 1 : Int) % 2)] ++ givW (2 + 1 + 4 + 4 * 1)) = 16 := rfl; have y2 : (labW 1).size = 4 := rfl; rw [z]; omega)
  · rw [if_neg he] at hb ⊢
    rw [if_neg he]
    obtain ⟨l1, l2⟩ := label_step hb
    refine ⟨l1, by omega, ?_⟩
    rcases hn with rfl | rfl <;> rcases label_01 ts s with h1 | h1 <;> rw [h1] <;> rw [h1] at l2
    all_goals
      refine ⟨by decide, ?_⟩
      first
      | (have z : wt ([labW ((0 + 0 : Int) % 2)] ++ givW (0 + 0)) = 4 := rfl; have y1 : (labW 0).size = 3 := rfl; rw [z]; omega)
      | (have z : wt ([labW ((0 + 1 : Int) % 2)] ++ givW (0 + 1)) = 5 := rfl; have y2 : (labW 1).size = 4 := rfl; rw [z]; omega)
      | (have z : wt ([labW ((2 + 0 : Int) % 2)] ++ givW (2 + 0)) = 4 := rfl; have y1 : (labW 0).size = 3 := rfl; rw [z]; omega)
      | (have z : wt ([labW ((2 + 1 : Int) % 2)] ++ givW (2 + 1)) = 5 := rfl; have y2 : (labW 1).size = 4 := rfl; rw [z]; omega)
include hG
theorem var_wt (s : St) (hb : (varS ts s).2.bad = false) : s.bad = false ∧ tw ts s.i ≤ tw ts (varS ts s).2.i ∧ ((varS ts s).1 = [] ∨ ∃ t0, (varS ts s).1 = [t0] ∧ ∀ n, numK t0 = some n → tw ts s.i + 2 + wt n + 2 ≤ tw ts (varS ts s).2.i) := by
  unfold varS at *
  by_cases he : eqS (txt ts s) ⟨#[91]⟩ = true
  · rw [if_pos he] at hb ⊢
    dsimp only at hb ⊢
    obtain ⟨m1, m2⟩ := must_step (by decide) hb
    obtain ⟨n1, m, n2, n3⟩ := number_wt ts hG _ m1
    obtain ⟨e1, e2⟩ := eq_step he (by decide)
    have z1 : (⟨#[91]⟩ : ByteArray).size = 1 := rfl
    have z2 : (⟨#[93]⟩ : ByteArray).size = 1 := rfl
    refine ⟨e1, by omega, .inr ⟨_, rfl, fun n hn => ?_⟩⟩
    rw [n2] at hn
    unfold numK at hn
    dsimp only at hn
    by_cases hl : lookB [15] (.node 15 empty m []) = true
    · rw [if_pos hl] at hn
      obtain rfl := Option.some.inj hn
      omega
    · rw [if_neg hl] at hn; cases hn
  · rw [if_neg he] at hb ⊢
    exact ⟨hb, Nat.le_refl _, .inl rfl⟩
theorem decl_wt (f : Nat) (s : St) (q : Tree × St) (h : declF ts f s = some q) (hb : q.2.bad = false) : s.bad = false ∧ tw ts s.i ≤ tw ts q.2.i ∧ impB q.1 = false ∧ ∀ F w, declW F q.1 = some w → tw ts s.i + wt w ≤ tw ts q.2.i := by
  unfold declF at h
  split at h
  · rename_i he
    obtain ⟨p, hp, h⟩ := Option.bind_eq_some_iff.1 h
    obtain ⟨b, hbk, h⟩ := Option.bind_eq_some_iff.1 h
    obtain rfl := Option.some.inj h
    dsimp only at hb ⊢
    obtain ⟨b1, b2, b3⟩ := (wtS ts hG f).bl _ _ hbk hb
    have pn : pubN ts s = 0 ∨ pubN ts s = 2 := by unfold pubN; split; exact .inr rfl; exact .inl rfl
    obtain ⟨g1, g2, g3, g4⟩ := gives_wt ts (pubN ts s) pn _ b1
    obtain ⟨m1, m2⟩ := must_step (by decide) g1
    obtain ⟨p1, p2, p3⟩ := params_wt ts f _ _ hp m1
    obtain ⟨m3, m4⟩ := must_step (by decide) p1
    obtain ⟨n1, n2, n3⟩ := name_step m3
    obtain ⟨e1, e2⟩ := eq_step he (by decide)
    obtain ⟨u1, u2, u3⟩ := pub_wt ts s e1
    have z1 : (⟨#[112, 114, 111, 99]⟩ : ByteArray).size = 4 := rfl
    have z2 : (⟨#[40]⟩ : ByteArray).size = 1 := rfl
    have z3 : (⟨#[41]⟩ : ByteArray).size = 1 := rfl
    have z4 : wt [(⟨#[40]⟩ : ByteArray)] = 2 := rfl
    have z5 : wt [(⟨#[41]⟩ : ByteArray)] = 2 := rfl
    have z6 : wt [(⟨#[112, 117, 98]⟩ : ByteArray)] = 4 := rfl
    refine ⟨u1, by omega, rfl, fun F w hw => ?_⟩
    unfold declW at hw
    dsimp only at hw
    split at hw
    · rw [if_pos rfl] at hw
      obtain ⟨w1, h1, hw⟩ := Option.bind_eq_some_iff.1 hw
      obtain ⟨w2, h2, hw⟩ := Option.bind_eq_some_iff.1 hw
      obtain rfl := Option.some.inj hw
      have el : (p.1 ++ [b.1]).length - 1 = p.1.length := by simp
      rw [el, List.take_left] at h1
      rw [el, show (p.1 ++ [b.1]).getD p.1.length noT = b.1 from by simp [List.getD_eq_getElem?_getD]] at h2
      unfold roundF at h1
      obtain ⟨w3, h3, h1⟩ := Option.bind_eq_some_iff.1 h1
      obtain rfl := Option.some.inj h1
      have i1 := p3 w3 h3
      have i2 := b3 F w2 h2
      rw [wt_app] at g4
      simp only [wt_app, z4, z5]
      have hp : wt (if (givesN ts (pubN ts s) (must ts ⟨#[41]⟩ p.2)).toNat / 2 % 2 = 1 then [⟨#[112, 117, 98]⟩] else []) + tw ts s.i ≤ tw ts (pubS ts s).i := by
        by_cases hq : (givesN ts (pubN ts s) (must ts ⟨#[41]⟩ p.2)).toNat / 2 % 2 = 1
        · rw [if_pos hq, z6]
          have := g3.1 hq
          omega
        · rw [if_neg hq]
          simp only [wt]
          omega
      simp only [wt] at g4 ⊢
      omega
    · cases hw
  · obtain rfl := Option.some.inj h
    dsimp only at hb ⊢
    obtain ⟨m1, m2⟩ := must_step (by decide) hb
    obtain ⟨v1, v2, v3⟩ := var_wt ts hG _ m1
    obtain ⟨n1, n2, n3⟩ := name_step v1
    obtain ⟨l1, l2⟩ := label_step n1
    obtain ⟨u1, u2, u3⟩ := pub_wt ts s l1
    have z1 : (⟨#[59]⟩ : ByteArray).size = 1 := rfl
    have z4 : wt [(⟨#[91]⟩ : ByteArray)] = 2 := rfl
    have z5 : wt [(⟨#[93]⟩ : ByteArray)] = 2 := rfl
    have z6 : wt [(⟨#[112, 117, 98]⟩ : ByteArray)] = 4 := rfl
    have z7 : wt [(⟨#[59]⟩ : ByteArray)] = 2 := rfl
    refine ⟨u1, by omega, rfl, fun F w hw => ?_⟩
    have hlab : labW ((pubN ts s + (label ts (pubS ts s)).1) % 2) = labW (label ts (pubS ts s)).1 := by
      rcases label_01 ts (pubS ts s) with e | e <;> rw [e] <;> (rcases u3 with e2 | ⟨e2, _⟩ <;> rw [e2] <;> rfl)
    have hpub : wt (if (pubN ts s + (label ts (pubS ts s)).1).toNat / 2 % 2 = 1 then [⟨#[112, 117, 98]⟩] else []) + tw ts s.i ≤ tw ts (pubS ts s).i := by
      rcases u3 with e2 | ⟨e2, e3⟩
      · rw [e2, if_neg (by rcases label_01 ts (pubS ts s) with e | e <;> rw [e] <;> decide)]
        simp only [wt]
        omega
      · rw [e2, if_pos (by rcases label_01 ts (pubS ts s) with e | e <;> rw [e] <;> decide), z6]
        omega
    unfold declW at hw
    dsimp only at hw
    split at hw
    · rw [if_neg (by decide)] at hw
      rcases v3 with e | ⟨t0, e, ht⟩
      · rw [e] at hw
        dsimp only at hw
        obtain rfl := Option.some.inj hw
        rw [hlab]
        simp only [wt_app, z7]
        simp only [wt]
        omega
      · rw [e] at hw
        dsimp only at hw
        obtain ⟨n, hn, hw⟩ := Option.bind_eq_some_iff.1 hw
        obtain rfl := Option.some.inj hw
        have := ht n hn
        rw [hlab]
        simp only [wt_app, z7, z4, z5]
        simp only [wt]
        omega
    · cases hw
omit hG in
theorem imports_wt : ∀ (f : Nat) (ks : List Tree) (s : St) (q : List Tree × St) (a : Nat), importsL ts f ks s = some q → (∀ t ∈ ks, impB t = true) → (s.bad = false → ∀ w, seqF impW ks = some w → a + wt w ≤ tw ts s.i) → q.2.bad = false → s.bad = false ∧ tw ts s.i ≤ tw ts q.2.i ∧ (∀ t ∈ q.1, impB t = true) ∧ ∀ w, seqF impW q.1 = some w → a + wt w ≤ tw ts q.2.i
  | 0, ks, s, q, a, h, hk, hx, hb => by unfold importsL at h; cases h
  | f + 1, ks, s, q, a, h, hk, hx, hb => by
    unfold importsL at h
    split at h
    · rename_i he
      have z1 : (⟨#[105, 109, 112, 111, 114, 116]⟩ : ByteArray).size = 6 := rfl
      have z2 : (⟨#[59]⟩ : ByteArray).size = 1 := rfl
      obtain ⟨e1, e2⟩ := eq_step he (by decide)
      obtain ⟨h1, h2, h3, h4⟩ := imports_wt f _ _ q a h (fun t ht => by
        rcases List.mem_append.1 ht with ht | ht
        · exact hk t ht
        · rw [List.mem_singleton.1 ht]; rfl) (fun hmb w hw => by
        obtain ⟨m1, m2⟩ := must_step (by decide) hmb
        obtain ⟨n1, n2, n3⟩ := name_step m1
        obtain ⟨wa, wb, g1, g2, rfl⟩ := seq_snoc impW _ ks w hw
        have := hx e1 wa g1
        unfold impW at g2
        dsimp only at g2
        split at g2
        · obtain rfl := Option.some.inj g2
          rw [wt_app]
          simp only [wt]
          omega
        · cases g2) hb
      obtain ⟨m1, m2⟩ := must_step (by decide) h1
      obtain ⟨n1, n2, n3⟩ := name_step m1
      exact ⟨e1, by omega, h3, h4⟩
    · obtain rfl := Option.some.inj h
      exact ⟨hb, Nat.le_refl _, hk, hx hb⟩
theorem decls_wt : ∀ (f : Nat) (ks ds : List Tree) (s : St) (q : List Tree × St) (a : Nat), declsL ts f (ks ++ ds) s = some q → (∀ t ∈ ds, impB t = false) → (s.bad = false → ∀ F w, seqF (declW F) ds = some w → a + wt w ≤ tw ts s.i) → q.2.bad = false → s.bad = false ∧ tw ts s.i ≤ tw ts q.2.i ∧ ∃ ds', q.1 = ks ++ ds' ∧ (∀ t ∈ ds', impB t = false) ∧ ∀ F w, seqF (declW F) ds' = some w → a + wt w ≤ tw ts q.2.i
  | 0, ks, ds, s, q, a, h, hk, hx, hb => by unfold declsL at h; cases h
  | f + 1, ks, ds, s, q, a, h, hk, hx, hb => by
    unfold declsL at h
    split at h
    · obtain rfl := Option.some.inj h
      exact ⟨hb, Nat.le_refl _, ds, rfl, hk, hx hb⟩
    · rename_i hs
      obtain ⟨p, hp, h⟩ := Option.bind_eq_some_iff.1 h
      rw [List.append_assoc] at h
      have stuck : p.2.bad = false := by
        cases hpb : p.2.bad with
        | false => rfl
        | true =>
          exfalso
          cases f with
          | zero => unfold declsL at h; cases h
          | succ f =>
            unfold declsL at h
            rw [if_pos (by rw [hpb]; rfl)] at h
            obtain rfl := Option.some.inj h
            rw [hpb] at hb; cases hb
      obtain ⟨c1, c2, c3, c4⟩ := decl_wt ts hG _ _ _ hp stuck
      obtain ⟨h1, h2, ds', h3, h4, h5⟩ := decls_wt f ks (ds ++ [p.1]) p.2 q a h (fun t ht => by
        rcases List.mem_append.1 ht with ht | ht
        · exact hk t ht
        · rw [List.mem_singleton.1 ht]; exact c3) (fun hpb F w hw => by
        obtain ⟨wa, wb, g1, g2, rfl⟩ := seq_snoc (declW F) _ ds w hw
        have := hx c1 F wa g1
        have := c4 F wb g2
        rw [wt_app]
        omega) hb
      exact ⟨c1, by omega, ds', h3, h4, h5⟩
theorem module_wt (q : Tree × St) (h : moduleF ts = some q) (hb : q.2.bad = false) (F : Nat) (w : List ByteArray) (hw : moduleW F q.1 = some w) : wt w ≤ tw ts q.2.i := by
  unfold moduleF at h
  obtain ⟨p, hp, h⟩ := Option.bind_eq_some_iff.1 h
  obtain ⟨r, hr, h⟩ := Option.bind_eq_some_iff.1 h
  obtain rfl := Option.some.inj h
  dsimp only at hb hw ⊢
  have hr' : declsL ts 4000 (p.1 ++ []) p.2 = some r := by rw [List.append_nil]; exact hr
  have z1 : (⟨#[109, 111, 100, 117, 108, 101]⟩ : ByteArray).size = 6 := rfl
  have z2 : (⟨#[59]⟩ : ByteArray).size = 1 := rfl
  obtain ⟨d1, d2, ds, e, d3, d4⟩ := decls_wt ts hG 4000 p.1 [] p.2 r (tw ts p.2.i) hr' (fun t ht => by cases ht) (fun _ F w hw => by obtain rfl := Option.some.inj hw; simp [wt]) hb
  have hh : (headS ts).bad = false → tw ts (headS ts).i = ((⟨#[109, 111, 100, 117, 108, 101]⟩ : ByteArray).size + 1) + ((headX ts).size + 1) + ((⟨#[59]⟩ : ByteArray).size + 1) := by
    intro hb0
    unfold headS at hb0 ⊢
    obtain ⟨m1, m2⟩ := must_step (by decide) hb0
    obtain ⟨n1, n2, n3⟩ := name_step m1
    obtain ⟨m3, m4⟩ := must_step (by decide) n1
    rw [m2, n3, m4]
    have : tw ts (⟨0, false⟩ : St).i = 0 := tw_zero ts
    unfold headX
    omega
  obtain ⟨i1, i2, i3, i4⟩ := imports_wt ts 4000 [] (headS ts) p (tw ts (headS ts).i) hp (fun t ht => by cases ht) (fun _ w hw => by obtain rfl := Option.some.inj hw; simp [wt]) d1
  have h0 := hh i1
  have et : r.1.takeWhile impB = p.1 ∧ r.1.dropWhile impB = ds := by
    rw [e]
    have key : ∀ (A : List Tree), (∀ t ∈ A, impB t = true) → (A ++ ds).takeWhile impB = A ∧ (A ++ ds).dropWhile impB = ds := by
      intro A
      induction A with
      | nil =>
        intro _
        cases ds with
        | nil => exact ⟨rfl, rfl⟩
        | cons t r =>
          have ht := d3 t (by simp)
          exact ⟨by rw [List.nil_append, List.takeWhile_cons, ht]; rfl, by rw [List.nil_append, List.dropWhile_cons, ht]; rfl⟩
      | cons t r ih =>
        intro hA
        have ht := hA t (by simp)
        obtain ⟨j1, j2⟩ := ih (fun u hu => hA u (List.mem_cons_of_mem _ hu))
        exact ⟨by rw [List.cons_append, List.takeWhile_cons, ht, j1]; rfl, by rw [List.cons_append, List.dropWhile_cons, ht, j2]; rfl⟩
    exact key p.1 i3
  unfold moduleW at hw
  dsimp only at hw
  split at hw
  · rw [et.1, et.2] at hw
    obtain ⟨w1, h1, hw⟩ := Option.bind_eq_some_iff.1 hw
    obtain ⟨w2, h2, hw⟩ := Option.bind_eq_some_iff.1 hw
    obtain rfl := Option.some.inj hw
    have j1 := i4 w1 h1
    have j2 := d4 F w2 h2
    rw [wt_app, wt_app]
    simp only [wt]
    omega
  · cases hw
end
end pr
namespace pr
open Go.Proofs.YtoobkaebahogdaaGreatDoor.lexs (Tok scan scanL stepL Res)
open Go.Proofs.YtoobkaebahogdaaGreatDoor.syn Go.Proofs.YtoobkaebahogdaaGreatDoor.face Go.Proofs.YtoobkaebahogdaaGreatDoor.chk
def sw (ts : List Tok) : Nat := (ts.map fun t => t.text.length + 1).sum
theorem scanL_wt : ∀ (f : Nat) (l : List UInt8) (i : Nat) (acc ts : List Tok), scanL f l i acc = .ok ts → sw ts ≤ sw acc + l.length + f
  | 0, l, i, acc, ts, h => by unfold scanL at h; injection h with h; subst h; omega
  | f + 1, [], i, acc, ts, h => by unfold scanL at h; injection h with h; subst h; simp
  | f + 1, b :: r, i, acc, ts, h => by
    unfold scanL at h
    split at h
    · rename_i n _
      have := scanL_wt f _ _ _ _ h
      rw [List.length_drop] at this
      omega
    · cases h
    · rename_i k n _
      have := scanL_wt f _ _ _ _ h
      rw [List.length_drop] at this
      have e : sw (acc ++ [⟨k, (b :: r).take n, i⟩]) = sw acc + (((b :: r).take n).length + 1) := by
        unfold sw
        rw [List.map_append, List.sum_append]
        simp
      rw [e, List.length_take] at this
      omega
theorem tw_sw (ts : List Tok) (i : Nat) : tw ts i ≤ sw ts := by
  unfold tw sw
  induction ts generalizing i with
  | nil => simp
  | cons t r ih =>
    cases i with
    | zero => simp
    | succ i =>
      have := ih i
      simp only [List.take_succ_cons, List.map_cons, List.sum_cons]
      omega
/-- a short text that is read as a module is printed -/
theorem again_short (x : ByteArray) (hc : (parse x).code = 0) (hx : x.size ≤ 1000) : (printT (parse x).tree).2 = 0 := by
  rcases print_read hc with h | h
  · exact h
  · exfalso
    obtain ⟨w, hw⟩ := parse_words x hc 16 (by omega)
    obtain ⟨_, _, _, _, _, _, hf⟩ := parse_shape4 x hc
    have hj : 3000 < (joinW w).length := by
      unfold printT at h
      rw [if_pos hf, hw] at h
      dsimp only at h
      by_cases hl : 3000 < (joinW w).length
      · exact hl
      · rw [if_neg hl] at h
        have := congrArg Prod.snd h
        exact absurd this (by show ¬ (0 : Int) = 1; decide)
    have hle := join_wt w
    unfold parse at hc hw
    cases hs : scan x.data.toList with
    | err c p =>
      rw [hs] at hc
      exact absurd hc (lexs.scan_err hs)
    | ok ts =>
      rw [hs] at hc hw
      dsimp only at hc hw
      obtain ⟨p0, q0, _, _, hm0⟩ := moduleF_has (ts := ts) (lexs.scan_len hs)
      cases hm : moduleF ts with
      | none => rw [hm] at hm0; cases hm0
      | some q =>
        rw [hm] at hc hw
        dsimp only at hc hw
        unfold judge at hc hw
        by_cases hb : q.2.bad = true
        · rw [if_pos hb] at hc; exact absurd hc (by show ¬ (2 : Int) = 0; decide)
        · rw [if_neg hb] at hc hw
          by_cases hfq : fitsT q.1 = true
          · rw [if_pos hfq] at hw
            have h1 := module_wt ts (fun t ht => lexs.scan_num hs t ht) q hm (by simpa using hb) 16 w hw
            have h2 := tw_sw ts q.2.i
            have h3 : sw ts ≤ 2 * x.size := by
              unfold scan at hs
              split at hs
              · cases hs
              · have := scanL_wt _ _ _ _ _ hs
                rw [lexs.len_L] at this
                simp only [sw, List.map_nil, List.sum_nil] at this ⊢
                omega
            omega
          · rw [if_neg hfq] at hc; exact absurd hc (by show ¬ (1 : Int) = 0; decide)
end pr
namespace pr
open Go.Proofs.YtoobkaebahogdaaGreatDoor.syn Go.Proofs.YtoobkaebahogdaaGreatDoor.face Go.Proofs.YtoobkaebahogdaaGreatDoor.chk
mutual
theorem tx_sh : ∀ (t : Tree), TxT t → ShT 4611686018427387904 t
  | .node k x m ks, h => by
    unfold TxT at h
    unfold ShT
    exact ⟨by omega, txL_sh ks h.2⟩
theorem txL_sh : ∀ (ks : List Tree), TxL ks → ShT.ShL 4611686018427387904 ks
  | [], _ => by unfold ShT.ShL; trivial
  | t :: r, h => by
    unfold TxL at h
    unfold ShT.ShL
    exact ⟨tx_sh t h.1, txL_sh r h.2⟩
end
end pr
end Go.Proofs.YtoobkaebahogdaaGreatDoor
