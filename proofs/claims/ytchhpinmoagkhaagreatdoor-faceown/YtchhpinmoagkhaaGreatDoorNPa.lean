/- Fuel enough gives an answer: expressions. No Go in sight. Fuel enough gives an answer: statements, blocks, declarations. No Go in sight. Fuel enough gives an answer: declarations. No Go in sight. What chapter 3 says of whole texts, as plain functions; and that they have an answer. A reader that has failed stays where it is. No Go in sight. Of the tokens that a text has: what words, numbers and signs look like. No Go in sight. The program's table of operators, as its variable holds it. How many nodes a tree has, and how deep it is: as the reference counts, and as the program does. No Go in sight. -/
import Derived.Test.YtchhpinmoagkhaaGreatDoorNRb
import Derived.Test.YtchhpinmoagkhaaGreatDoorNSa
import Derived.Test.YtchhpinmoagkhaaGreatDoorNSc
import Derived.Test.YtchhpinmoagkhaaGreatDoorProg
import Derived.WalkKit
import Derived.Below
namespace Go.Proofs.YtchhpinmoagkhaaGreatDoor.syn
open Go.Proofs.YtchhpinmoagkhaaGreatDoor.lexs (Tok)
set_option linter.unusedVariables false

section
variable {ts : List Tok} {s : St}
/-- how many tokens are left to be read -/
def left (ts : List Tok) (s : St) : Nat := if s.bad then 0 else ts.length - s.i
theorem left_fail : left ts s.fail = 0 := rfl
theorem left_bad (h : s.bad = true) : left ts s = 0 := by unfold left; rw [h]; rfl
theorem left_next_le : left ts s.next ≤ left ts s := by
  unfold left St.next
  dsimp only
  split <;> omega
theorem left_hit {x : ByteArray} (hx : 0 < x.size) (h : eqS (txt ts s) x = true) : left ts s.next + 1 = left ts s := by
  have hl := txt_lt hx h
  have hb : s.bad = false := by
    cases hb : s.bad
    · rfl
    · exfalso
      have he : txt ts s = empty := by unfold txt here; rw [hb]; rfl
      rw [he] at h
      have := eqS_empty h
      omega
  unfold left St.next
  dsimp only
  rw [hb]
  simp
  omega
theorem left_must (x : ByteArray) (hx : 0 < x.size) : left ts (must ts x s) ≤ left ts s ∧ ((must ts x s).bad = true ∨ left ts (must ts x s) + 1 = left ts s) := by
  unfold must
  cases h : eqS (txt ts s) x
  · simp only [Bool.false_eq_true, if_false]
    exact ⟨by rw [left_fail]; omega, .inl rfl⟩
  · simp only [if_true]
    have := left_hit hx h
    exact ⟨by omega, .inr this⟩
theorem left_name : left ts (name ts s).2 ≤ left ts s := by
  unfold name
  split
  · exact left_next_le
  · simp only [left_fail]; omega
theorem left_eat (x : ByteArray) : left ts (eat ts x s).2 ≤ left ts s := by
  unfold eat
  split
  · exact left_next_le
  · exact Nat.le_refl _
theorem left_whole : left ts (whole ts s).2 ≤ left ts s := by
  unfold whole
  dsimp only
  split
  · exact Nat.le_trans left_name (Nat.le_trans (left_eat _) left_name)
  · exact left_name
theorem left_number : left ts (number ts s).2 ≤ left ts s := by
  unfold number
  split
  · simp only [left_fail]; omega
  · split
    · exact left_next_le
    · simp only [left_fail]; omega
/-- an answer, and no more left than before -/
def Has (ts : List Tok) (s : St) (o : Option (Tree × St)) : Prop := ∃ q, o = some q ∧ left ts q.2 ≤ left ts s
structure Enough (ts : List Tok) (f : Nat) : Prop where
  e : ∀ s : St, (s.bad = true ∧ 1 ≤ f) ∨ 10 * left ts s + 8 ≤ f → Has ts s (exprF ts f s)
  b : ∀ (s : St) (l : Nat), l ≤ 3 → 10 * left ts s + 7 ≤ f + l → Has ts s (boundF ts f l s)
  bl : ∀ (s : St) (l : Nat) (n : Tree), l ≤ 2 → 10 * left ts s + 6 ≤ f + l → Has ts s (boundL ts f l n s)
  u : ∀ s : St, 10 * left ts s + 3 ≤ f → Has ts s (unaryF ts f s)
  a : ∀ s : St, 10 * left ts s + 2 ≤ f → Has ts s (askedF ts f s)
  p : ∀ (s : St) (x : ByteArray), 10 * left ts s + 2 ≤ f → Has ts s (placeF ts f x s)
  c : ∀ (s : St) (x : ByteArray), 10 * left ts s + 2 ≤ f → Has ts s (callF ts f x s)
  cl : ∀ (s : St) (x : ByteArray) (ks : List Tree) (on : Bool), (((on && !s.bad) = false ∧ 1 ≤ f) ∨ 10 * left ts s + 9 ≤ f) → Has ts s (callL ts f x ks s on)
theorem enough (ts : List Tok) (f : Nat) : Enough ts f := by
  induction f with
  | zero => exact ⟨fun s h => by omega, fun s l h1 h2 => by omega, fun s l n h1 h2 => by omega, fun s h => by omega, fun s h => by omega, fun s x h => by omega, fun s x h => by omega, fun s x ks on h => by omega⟩
  | succ f ih =>
    refine ⟨fun s h => ?_, fun s l hl h => ?_, fun s l n hl h => ?_, fun s h => ?_, fun s h => ?_, fun s x h => ?_, fun s x h => ?_, fun s x ks on h => ?_⟩
    · unfold exprF
      cases hb : s.bad
      · simp only [Bool.false_eq_true, if_false]
        refine ih.b s 0 (by omega) ?_
        rcases h with ⟨h, _⟩ | h
        · rw [hb] at h; simp at h
        · omega
      · simp only [if_true]
        exact ⟨_, rfl, Nat.le_refl _⟩
    · unfold boundF
      split
      · exact ih.u s (by omega)
      · obtain ⟨q, hq, hle⟩ := ih.b s (l + 1) (by omega) (by omega)
        rw [hq]
        simp only [Option.bind_some]
        obtain ⟨q', hq', hle'⟩ := ih.bl q.2 l q.1 (by omega) (by omega)
        exact ⟨q', hq', by omega⟩
    · unfold boundL
      cases hb : s.bad
      · simp only [Bool.false_eq_true, if_false]
        split
        · exact ⟨_, rfl, Nat.le_refl _⟩
        · rename_i hne
          have hk : (sign (txt ts s)).2 = (l : Int) := by simpa using hne
          have hlt := sign_lt (ts := ts) (s := s) (by omega)
          have hn : left ts s.next + 1 = left ts s := by
            unfold left St.next
            dsimp only
            rw [hb]
            simp
            omega
          obtain ⟨q, hq, hle⟩ := ih.b s.next (l + 1) (by omega) (by omega)
          rw [hq]
          simp only [Option.bind_some]
          split
          · exact ⟨_, rfl, by dsimp only; omega⟩
          · obtain ⟨q', hq', hle'⟩ := ih.bl q.2 l (.node 19 empty (sign (txt ts s)).1 [n, q.1]) (by omega) (by omega)
            exact ⟨q', hq', by omega⟩
      · simp only [if_true]
        exact ⟨_, rfl, Nat.le_refl _⟩
    · unfold unaryF
      cases h1 : eqS (txt ts s) ⟨#[45]⟩
      · simp only [Bool.false_eq_true, if_false]
        cases h2 : eqS (txt ts s) ⟨#[33]⟩
        · simp only [Bool.false_eq_true, if_false]
          split
          · exact ih.a s (by omega)
          · split
            · exact ⟨_, rfl, left_number⟩
            · have hw := left_whole (ts := ts) (s := s)
              split
              · obtain ⟨q, hq, hle⟩ := ih.c (whole ts s).2 (whole ts s).1 (by omega)
                exact ⟨q, hq, by omega⟩
              · obtain ⟨q, hq, hle⟩ := ih.p (whole ts s).2 (whole ts s).1 (by omega)
                exact ⟨q, hq, by omega⟩
        · simp only [if_true]
          have hn := left_hit (by decide) h2
          obtain ⟨q, hq, hle⟩ := ih.u s.next (by omega)
          rw [hq]
          exact ⟨_, rfl, by dsimp only; omega⟩
      · simp only [if_true]
        have hn := left_hit (by decide) h1
        obtain ⟨q, hq, hle⟩ := ih.u s.next (by omega)
        rw [hq]
        exact ⟨_, rfl, by dsimp only; omega⟩
    · unfold askedF
      have hm := left_must (ts := ts) (s := s) ⟨#[40]⟩ (by decide)
      obtain ⟨q, hq, hle⟩ := ih.e (must ts ⟨#[40]⟩ s) (by rcases hm.2 with h1 | h1; exact .inl ⟨h1, by omega⟩; exact .inr (by omega))
      rw [hq]
      have hm2 := left_must (ts := ts) (s := q.2) ⟨#[41]⟩ (by decide)
      exact ⟨_, rfl, by dsimp only; omega⟩
    · unfold placeF
      split
      · rename_i h1
        have hn := left_hit (by decide) h1
        obtain ⟨q, hq, hle⟩ := ih.e s.next (.inr (by omega))
        rw [hq]
        have hm2 := left_must (ts := ts) (s := q.2) ⟨#[93]⟩ (by decide)
        exact ⟨_, rfl, by dsimp only; omega⟩
      · exact ⟨_, rfl, Nat.le_refl _⟩
    · unfold callF
      have hm := left_must (ts := ts) (s := s) ⟨#[40]⟩ (by decide)
      split
      · rename_i h1
        have hn := left_hit (by decide) h1
        exact ⟨_, rfl, by dsimp only; omega⟩
      · obtain ⟨q, hq, hle⟩ := ih.cl (must ts ⟨#[40]⟩ s) x [] true (by rcases hm.2 with h1 | h1; exact .inl ⟨by rw [h1]; rfl, by omega⟩; exact .inr (by omega))
        exact ⟨q, hq, by omega⟩
    · unfold callL
      cases hc : (on && !s.bad)
      · simp only [Bool.false_eq_true, if_false]
        exact ⟨_, rfl, (left_must (ts := ts) (s := s) ⟨#[41]⟩ (by decide)).1⟩
      · simp only [if_true]
        have h9 : 10 * left ts s + 9 ≤ f + 1 := by
          rcases h with ⟨h, _⟩ | h
          · rw [hc] at h; simp at h
          · exact h
        obtain ⟨q, hq, hle⟩ := ih.e s (.inr (by omega))
        rw [hq]
        simp only [Option.bind_some]
        cases he : eqS (txt ts q.2) ⟨#[44]⟩
        · have e1 : eat ts ⟨#[44]⟩ q.2 = (false, q.2) := by unfold eat; rw [he]; rfl
          rw [e1]
          obtain ⟨q', hq', hle'⟩ := ih.cl q.2 x (ks ++ [q.1]) false (.inl ⟨rfl, by omega⟩)
          exact ⟨q', hq', by omega⟩
        · have e1 : eat ts ⟨#[44]⟩ q.2 = (true, q.2.next) := by unfold eat; rw [he]; rfl
          rw [e1]
          have hn := left_hit (by decide) he
          obtain ⟨q', hq', hle'⟩ := ih.cl q.2.next x (ks ++ [q.1]) true (.inr (by omega))
          exact ⟨q', hq', by omega⟩
end
end Go.Proofs.YtchhpinmoagkhaaGreatDoor.syn
namespace Go.Proofs.YtchhpinmoagkhaaGreatDoor.syn
open Go.Proofs.YtchhpinmoagkhaaGreatDoor.lexs (Tok)
set_option linter.unusedVariables false

section
variable {ts : List Tok} {s : St}
theorem left_label : left ts (label ts s).2 ≤ left ts s := by
  unfold label
  split
  · exact left_next_le
  · exact (left_must ⟨#[108, 111, 119]⟩ (by decide)).1
theorem must_bad {x : ByteArray} (h : s.bad = true) : (must ts x s).bad = true := by
  unfold must
  split
  · exact h
  · rfl
theorem txt_bad (h : s.bad = true) : txt ts s = empty := by unfold txt here; rw [h]; rfl
theorem eqS_bad {x : ByteArray} (hx : 0 < x.size) (h : s.bad = true) : eqS (txt ts s) x = false := by
  cases he : eqS (txt ts s) x
  · rfl
  · rw [txt_bad h] at he
    have := eqS_empty he
    omega
/-- at no name the reader has failed -/
theorem whole_or : left ts (whole ts s).2 + 1 ≤ left ts s ∨ (whole ts s).2.bad = true := by
  cases hn : isName (txt ts s)
  · right
    have e : name ts s = (empty, s.fail) := by unfold name; rw [hn]; rfl
    unfold whole
    rw [e]
    have e2 : eat ts ⟨#[46]⟩ s.fail = (false, s.fail) := by unfold eat; rw [eqS_bad (by decide) rfl]; rfl
    dsimp only
    rw [e2]
    rfl
  · left
    have e : name ts s = (txt ts s, s.next) := by unfold name; rw [hn]; rfl
    have h1 : 0 < (txt ts s).size := by
      rcases Nat.lt_or_ge 0 (txt ts s).size with h1 | h1
      · exact h1
      · rw [isName_short (by omega)] at hn
        exact absurd hn (by decide)
    have h2 := left_hit h1 (eqS_self (txt ts s))
    have h3 : left ts (whole ts s).2 ≤ left ts s.next := by
      unfold whole
      rw [e]
      dsimp only
      split
      · exact Nat.le_trans left_name (left_eat _)
      · exact Nat.le_refl _
    omega
structure Enough2 (ts : List Tok) (f : Nat) : Prop where
  bk : ∀ s : St, 20 * left ts s + 12 ≤ f → Has ts s (blockF ts f s)
  bkl : ∀ (s : St) (ks : List Tree), (s.bad = true ∧ 1 ≤ f) ∨ 20 * left ts s + 11 ≤ f → Has ts s (blockL ts f ks s)
  st : ∀ s : St, 20 * left ts s + 10 ≤ f → ∃ q, statF ts f s = some q ∧ left ts q.2 ≤ left ts s ∧ (left ts q.2 + 1 ≤ left ts s ∨ q.2.bad = true)
theorem enough2 (ts : List Tok) (f : Nat) : Enough2 ts f := by
  induction f with
  | zero => exact ⟨fun s h => by omega, fun s ks h => by omega, fun s h => by omega⟩
  | succ f ih =>
    have E := enough ts f
    refine ⟨fun s h => ?_, fun s ks h => ?_, fun s h => ?_⟩
    · unfold blockF
      have hm := left_must (ts := ts) (s := s) ⟨#[123]⟩ (by decide)
      obtain ⟨q, hq, hle⟩ := ih.bkl (must ts ⟨#[123]⟩ s) [] (.inr (by omega))
      exact ⟨q, hq, by omega⟩
    · unfold blockL
      cases hb : s.bad
      · simp only [Bool.false_eq_true, if_false]
        have h9 : 20 * left ts s + 11 ≤ f + 1 := by
          rcases h with ⟨h, _⟩ | h
          · rw [hb] at h; simp at h
          · exact h
        split
        · exact ⟨_, rfl, left_next_le⟩
        · obtain ⟨q, hq, hle, hor⟩ := ih.st s (by omega)
          rw [hq]
          simp only [Option.bind_some]
          obtain ⟨q', hq', hle'⟩ := ih.bkl q.2 (ks ++ [q.1]) (by rcases hor with h1 | h1; exact .inr (by omega); exact .inl ⟨h1, by omega⟩)
          exact ⟨q', hq', by omega⟩
      · simp only [if_true]
        exact ⟨_, rfl, Nat.le_refl _⟩
    · unfold statF
      cases n1 : eqS (txt ts s) ⟨#[105, 102]⟩
      case true =>
        have hn := left_hit (by decide) n1
        rw [if_pos rfl]
        obtain ⟨x, hx, lx⟩ := E.a s.next (by omega)
        obtain ⟨b, hb, lb⟩ := ih.bk x.2 (by omega)
        rw [hx]
        simp only [Option.bind_some]
        rw [hb]
        simp only [Option.bind_some]
        split
        · obtain ⟨c, hc, lc⟩ := ih.bk b.2.next (by have := left_next_le (ts := ts) (s := b.2); omega)
          rw [hc]
          have := left_next_le (ts := ts) (s := b.2)
          exact ⟨_, rfl, by dsimp only; omega, .inl (by dsimp only; omega)⟩
        · exact ⟨_, rfl, by dsimp only; omega, .inl (by dsimp only; omega)⟩
      rw [if_neg (by decide)]
      cases n2 : eqS (txt ts s) ⟨#[119, 104, 105, 108, 101]⟩
      case true =>
        have hn := left_hit (by decide) n2
        rw [if_pos rfl]
        obtain ⟨x, hx, lx⟩ := E.a s.next (by omega)
        obtain ⟨b, hb, lb⟩ := ih.bk x.2 (by omega)
        rw [hx]
        simp only [Option.bind_some]
        rw [hb]
        exact ⟨_, rfl, by dsimp only; omega, .inl (by dsimp only; omega)⟩
      rw [if_neg (by decide)]
      cases n3 : (eqS (txt ts s) ⟨#[108, 111, 119]⟩ || eqS (txt ts s) ⟨#[104, 105, 103, 104]⟩)
      case true =>
        rw [if_pos rfl]
        have hl : left ts (label ts s).2 + 1 ≤ left ts s := by
          unfold label
          cases h1 : eqS (txt ts s) ⟨#[104, 105, 103, 104]⟩
          · simp only [Bool.false_eq_true, if_false]
            rw [h1, Bool.or_false] at n3
            unfold must
            rw [n3, if_pos rfl]
            have := left_hit (by decide) n3
            omega
          · simp only [if_true]
            have := left_hit (by decide) h1
            omega
        have hnm := left_name (ts := ts) (s := (label ts s).2)
        have hm := left_must (ts := ts) (s := (name ts (label ts s).2).2) ⟨#[61]⟩ (by decide)
        obtain ⟨x, hx, lx⟩ := E.e (must ts ⟨#[61]⟩ (name ts (label ts s).2).2) (.inr (by omega))
        rw [hx]
        have hm2 := left_must (ts := ts) (s := x.2) ⟨#[59]⟩ (by decide)
        exact ⟨_, rfl, by dsimp only; omega, .inl (by dsimp only; omega)⟩
      rw [if_neg (by decide)]
      cases n5 : eqS (txt ts s) ⟨#[100, 111]⟩
      case true =>
        have hn := left_hit (by decide) n5
        rw [if_pos rfl]
        have hw := left_whole (ts := ts) (s := s.next)
        obtain ⟨x, hx, lx⟩ := E.c (whole ts s.next).2 (whole ts s.next).1 (by omega)
        rw [hx]
        have hm2 := left_must (ts := ts) (s := x.2) ⟨#[59]⟩ (by decide)
        exact ⟨_, rfl, by dsimp only; omega, .inl (by dsimp only; omega)⟩
      rw [if_neg (by decide)]
      cases n6 : eqS (txt ts s) ⟨#[111, 117, 116]⟩
      case true =>
        have hn := left_hit (by decide) n6
        rw [if_pos rfl]
        have hw := left_label (ts := ts) (s := s.next)
        obtain ⟨x, hx, lx⟩ := E.e (label ts s.next).2 (.inr (by omega))
        rw [hx]
        have hm2 := left_must (ts := ts) (s := x.2) ⟨#[59]⟩ (by decide)
        exact ⟨_, rfl, by dsimp only; omega, .inl (by dsimp only; omega)⟩
      rw [if_neg (by decide)]
      cases n7 : eqS (txt ts s) ⟨#[105, 110]⟩
      case true =>
        have hn := left_hit (by decide) n7
        rw [if_pos rfl]
        have hw := left_label (ts := ts) (s := s.next)
        have hw2 := left_whole (ts := ts) (s := (label ts s.next).2)
        obtain ⟨x, hx, lx⟩ := E.p (whole ts (label ts s.next).2).2 (whole ts (label ts s.next).2).1 (by omega)
        rw [hx]
        have hm2 := left_must (ts := ts) (s := x.2) ⟨#[59]⟩ (by decide)
        exact ⟨_, rfl, by dsimp only; omega, .inl (by dsimp only; omega)⟩
      rw [if_neg (by decide)]
      cases n8 : eqS (txt ts s) ⟨#[114, 101, 116, 117, 114, 110]⟩
      case true =>
        have hn := left_hit (by decide) n8
        rw [if_pos rfl]
        obtain ⟨x, hx, lx⟩ := E.e s.next (.inr (by omega))
        rw [hx]
        have hm2 := left_must (ts := ts) (s := x.2) ⟨#[59]⟩ (by decide)
        exact ⟨_, rfl, by dsimp only; omega, .inl (by dsimp only; omega)⟩
      rw [if_neg (by decide)]
      have hw := left_whole (ts := ts) (s := s)
      rcases whole_or (ts := ts) (s := s) with hor | hor
      · obtain ⟨x, hx, lx⟩ := E.p (whole ts s).2 (whole ts s).1 (by omega)
        rw [hx]
        simp only [Option.bind_some]
        have hm := left_must (ts := ts) (s := x.2) ⟨#[61]⟩ (by decide)
        obtain ⟨y, hy, ly⟩ := E.e (must ts ⟨#[61]⟩ x.2) (.inr (by omega))
        rw [hy]
        have hm2 := left_must (ts := ts) (s := y.2) ⟨#[59]⟩ (by decide)
        exact ⟨_, rfl, by dsimp only; omega, .inl (by dsimp only; omega)⟩
      · obtain ⟨g, rfl⟩ : ∃ g, f = g + 1 := ⟨f - 1, by omega⟩
        have hpl : placeF ts (g + 1) (whole ts s).1 (whole ts s).2 = some (.node 16 (whole ts s).1 0 [], (whole ts s).2) := by
          unfold placeF
          rw [eqS_bad (by decide) hor, if_neg (by decide)]
        rw [hpl]
        simp only [Option.bind_some]
        have hb1 := must_bad (ts := ts) (x := ⟨#[61]⟩) hor
        have hex : exprF ts (g + 1) (must ts ⟨#[61]⟩ (whole ts s).2) = some (.node 0 empty 0 [], must ts ⟨#[61]⟩ (whole ts s).2) := by
          unfold exprF
          rw [hb1, if_pos rfl]
        rw [hex]
        have hb2 := must_bad (ts := ts) (x := ⟨#[59]⟩) hb1
        exact ⟨_, rfl, by dsimp only; rw [left_bad hb2]; omega, .inr hb2⟩
end
end Go.Proofs.YtchhpinmoagkhaaGreatDoor.syn
namespace Go.Proofs.YtchhpinmoagkhaaGreatDoor.syn
open Go.Proofs.YtchhpinmoagkhaaGreatDoor.lexs (Tok)
set_option linter.unusedVariables false

section
variable {ts : List Tok} {s : St}
theorem left_pub : left ts (pubS ts s) ≤ left ts s := by
  unfold pubS
  split
  · exact left_next_le
  · exact Nat.le_refl _
theorem left_gives : left ts (givesS ts s) ≤ left ts s := by
  unfold givesS
  split
  · exact Nat.le_trans left_label (Nat.le_trans left_next_le left_label)
  · exact left_label
theorem left_var : left ts (varS ts s).2 ≤ left ts s := by
  unfold varS
  split
  · exact Nat.le_trans (left_must ⟨#[93]⟩ (by decide)).1 (Nat.le_trans left_number left_next_le)
  · exact Nat.le_refl _
theorem name_bad (h : s.bad = true) : (name ts s).2.bad = true := by
  unfold name
  split
  · exact h
  · rfl
theorem var_bad (h : s.bad = true) : (varS ts s).2.bad = true := by
  unfold varS
  rw [eqS_bad (by decide) h, if_neg (by decide)]
  exact h
theorem label_or : left ts (label ts s).2 + 1 ≤ left ts s ∨ (label ts s).2.bad = true := by
  unfold label
  cases h1 : eqS (txt ts s) ⟨#[104, 105, 103, 104]⟩
  · simp only [Bool.false_eq_true, if_false]
    rcases (left_must (ts := ts) (s := s) ⟨#[108, 111, 119]⟩ (by decide)).2 with h | h
    · exact .inr h
    · exact .inl (by omega)
  · simp only [if_true]
    have := left_hit (by decide) h1
    exact .inl (by omega)
theorem paramsL_has (f : Nat) : ∀ (ks : List Tree) (s : St), left ts s + 1 ≤ f → ∃ p, paramsL ts f ks s = some p ∧ left ts p.2 ≤ left ts s := by
  induction f with
  | zero => intro ks s h; omega
  | succ f ih =>
    intro ks s h
    have h1 := left_label (ts := ts) (s := s)
    have h2 := left_name (ts := ts) (s := (label ts s).2)
    unfold paramsL
    split
    · rename_i h3
      have h4 := left_hit (by decide) h3
      obtain ⟨p, hp, hle⟩ := ih (ks ++ [.node 5 (name ts (label ts s).2).1 (label ts s).1 []]) (name ts (label ts s).2).2.next (by omega)
      exact ⟨p, hp, by omega⟩
    · exact ⟨_, rfl, by dsimp only; omega⟩
theorem declF_has {f : Nat} (h : 20 * left ts s + 12 ≤ f) : ∃ q, declF ts f s = some q ∧ left ts q.2 ≤ left ts s ∧ (left ts q.2 + 1 ≤ left ts s ∨ q.2.bad = true) := by
  have hp := left_pub (ts := ts) (s := s)
  unfold declF
  split
  · rename_i h1
    have hn := left_hit (by decide) h1
    have h2 := left_name (ts := ts) (s := (pubS ts s).next)
    have h3 := (left_must (ts := ts) (s := (name ts (pubS ts s).next).2) ⟨#[40]⟩ (by decide)).1
    obtain ⟨p, hpp, lp⟩ : ∃ p, params ts f (must ts ⟨#[40]⟩ (name ts (pubS ts s).next).2) = some p ∧ left ts p.2 ≤ left ts (must ts ⟨#[40]⟩ (name ts (pubS ts s).next).2) := by
      unfold params
      split
      · exact ⟨_, rfl, Nat.le_refl _⟩
      · exact paramsL_has f [] _ (by omega)
    rw [hpp]
    simp only [Option.bind_some]
    have h4 := (left_must (ts := ts) (s := p.2) ⟨#[41]⟩ (by decide)).1
    have h5 := left_gives (ts := ts) (s := must ts ⟨#[41]⟩ p.2)
    obtain ⟨b, hb, lb⟩ := (enough2 ts f).bk (givesS ts (must ts ⟨#[41]⟩ p.2)) (by omega)
    rw [hb]
    exact ⟨_, rfl, by dsimp only; omega, .inl (by dsimp only; omega)⟩
  · have h1 := left_label (ts := ts) (s := pubS ts s)
    have h2 := left_name (ts := ts) (s := (label ts (pubS ts s)).2)
    have h3 := left_var (ts := ts) (s := (name ts (label ts (pubS ts s)).2).2)
    have h4 := (left_must (ts := ts) (s := (varS ts (name ts (label ts (pubS ts s)).2).2).2) ⟨#[59]⟩ (by decide)).1
    refine ⟨_, rfl, by dsimp only; omega, ?_⟩
    rcases label_or (ts := ts) (s := pubS ts s) with hor | hor
    · exact .inl (by dsimp only; omega)
    · exact .inr (must_bad (var_bad (name_bad hor)))
end
end Go.Proofs.YtchhpinmoagkhaaGreatDoor.syn
namespace Go.Proofs.YtchhpinmoagkhaaGreatDoor.syn
open Go.Proofs.YtchhpinmoagkhaaGreatDoor.lexs (Tok scan)
set_option linter.unusedVariables false

section
variable (ts : List Tok)
def importsL : Nat → List Tree → St → Option (List Tree × St)
  | 0, _, _ => none
  | f + 1, ks, s => if eqS (txt ts s) ⟨#[105, 109, 112, 111, 114, 116]⟩ then importsL f (ks ++ [.node 2 (name ts s.next).1 0 []]) (must ts ⟨#[59]⟩ (name ts s.next).2) else some (ks, s)
def declsL : Nat → List Tree → St → Option (List Tree × St)
  | 0, _, _ => none
  | f + 1, ks, s => if s.bad || decide (ts.length ≤ s.i) then some (ks, s) else (declF ts 100000 s).bind fun q => declsL f (ks ++ [q.1]) q.2
/-- where the imports begin -/
def headS : St := must ts ⟨#[59]⟩ (name ts (must ts ⟨#[109, 111, 100, 117, 108, 101]⟩ ⟨0, false⟩)).2
def headX : ByteArray := (name ts (must ts ⟨#[109, 111, 100, 117, 108, 101]⟩ ⟨0, false⟩)).1
def moduleF : Option (Tree × St) :=
  (importsL ts 4000 [] (headS ts)).bind fun p => (declsL ts 4000 p.1 p.2).bind fun q => some (.node 1 (headX ts) 0 q.1, q.2)
end
/-- a node, or none and what is wrong, where -/
structure Out where
  tree : Tree
  code : Int
  place : Int
def none0 : Tree := .node 0 empty 0 []
/-- where a reader has failed -/
def failAt (ts : List Tok) (n : Nat) (s : St) : Int := match ts[s.i]? with
  | some t => (t.at_ : Int)
  | none => (n : Int)
def judge (ts : List Tok) (n : Nat) (q : Tree × St) : Out :=
  if q.2.bad then ⟨none0, 2, failAt ts n q.2⟩ else if fitsT q.1 then ⟨q.1, 0, 0⟩ else ⟨none0, 1, 0⟩
def parse (x : ByteArray) : Out := match scan x.data.toList with
  | .err c p => ⟨none0, c, p⟩
  | .ok ts => match moduleF ts with
    | none => ⟨none0, 0, 0⟩
    | some q => judge ts x.size q

section
variable {ts : List Tok} {s : St}
theorem importsL_has (f : Nat) : ∀ (ks : List Tree) (s : St), left ts s + 1 ≤ f → ∃ p, importsL ts f ks s = some p ∧ left ts p.2 ≤ left ts s := by
  induction f with
  | zero => intro ks s h; omega
  | succ f ih =>
    intro ks s h
    unfold importsL
    split
    · rename_i h3
      have h4 := left_hit (by decide) h3
      have h2 := left_name (ts := ts) (s := s.next)
      have h5 := (left_must (ts := ts) (s := (name ts s.next).2) ⟨#[59]⟩ (by decide)).1
      obtain ⟨p, hp, hle⟩ := ih (ks ++ [.node 2 (name ts s.next).1 0 []]) (must ts ⟨#[59]⟩ (name ts s.next).2) (by omega)
      exact ⟨p, hp, by omega⟩
    · exact ⟨_, rfl, Nat.le_refl _⟩
theorem declsL_has (f : Nat) : ∀ (ks : List Tree) (s : St), left ts s ≤ 3000 → left ts s + 2 ≤ f ∨ (s.bad = true ∧ 1 ≤ f) → ∃ p, declsL ts f ks s = some p := by
  induction f with
  | zero => intro ks s h0 h; omega
  | succ f ih =>
    intro ks s h0 h
    unfold declsL
    cases hb : s.bad
    · rw [hb] at h
      simp only [Bool.false_eq_true, false_and, or_false] at h
      by_cases hl : ts.length ≤ s.i
      · rw [decide_eq_true hl]
        exact ⟨_, rfl⟩
      · rw [decide_eq_false hl]
        simp only [Bool.or_false, Bool.false_eq_true, if_false]
        obtain ⟨q, hq, hle, hor⟩ := declF_has (ts := ts) (s := s) (f := 100000) (by omega)
        rw [hq]
        simp only [Option.bind_some]
        refine ih _ _ (by omega) ?_
        rcases hor with h1 | h1
        · exact .inl (by omega)
        · exact .inr ⟨h1, by omega⟩
    · simp only [Bool.true_or, if_true]
      exact ⟨_, rfl⟩
theorem left_le : left ts s ≤ ts.length := by unfold left; split <;> omega
theorem moduleF_has (h : ts.length ≤ 3000) : ∃ p q, importsL ts 4000 [] (headS ts) = some p ∧ declsL ts 4000 p.1 p.2 = some q ∧ moduleF ts = some (.node 1 (headX ts) 0 q.1, q.2) := by
  have h1 := left_le (ts := ts) (s := headS ts)
  obtain ⟨p, hp, hle⟩ := importsL_has (ts := ts) 4000 [] (headS ts) (by omega)
  obtain ⟨q, hq⟩ := declsL_has (ts := ts) 4000 p.1 p.2 (by omega) (.inl (by omega))
  refine ⟨p, q, hp, hq, ?_⟩
  unfold moduleF
  rw [hp]
  simp only [Option.bind_some]
  rw [hq]
  rfl
end
end Go.Proofs.YtchhpinmoagkhaaGreatDoor.syn
namespace Go.Proofs.YtchhpinmoagkhaaGreatDoor.syn
open Go.Proofs.YtchhpinmoagkhaaGreatDoor.lexs (Tok)
set_option linter.unusedVariables false
section
variable {ts : List Tok} {s : St}
theorem isName_empty : isName empty = false := isName_short (by intro h; exact absurd h.1 (by decide))
theorem fail_st (h : s.bad = true) : s.fail = s := by cases s; simp_all [St.fail]
theorem must_st {x : ByteArray} (hx : 0 < x.size) (h : s.bad = true) : must ts x s = s := by
  unfold must
  rw [eqS_bad hx h, if_neg (by decide)]
  exact fail_st h
theorem name_st (h : s.bad = true) : (name ts s).2 = s := by
  unfold name
  rw [txt_bad h]
  rw [isName_empty, if_neg (by decide)]
  exact fail_st h
theorem eat_st {x : ByteArray} (hx : 0 < x.size) (h : s.bad = true) : eat ts x s = (false, s) := by
  unfold eat
  rw [eqS_bad hx h, if_neg (by decide)]
theorem whole_st (h : s.bad = true) : (whole ts s).2 = s := by
  unfold whole
  dsimp only
  rw [name_st h, eat_st (by decide) h]
  simp
theorem label_st (h : s.bad = true) : (label ts s).2 = s := by
  unfold label
  rw [eqS_bad (by decide) h, if_neg (by decide)]
  exact must_st (by decide) h
theorem number_st (h : s.bad = true) : (number ts s).2 = s := by
  unfold number here
  rw [h]
  exact fail_st h
theorem isNum_bad (h : s.bad = true) : isNum ts s = false := by unfold isNum here; rw [h]; rfl
structure Stuck (ts : List Tok) (f : Nat) : Prop where
  e : ∀ (s : St) (q : Tree × St), s.bad = true → exprF ts f s = some q → q.2 = s
  b : ∀ (l : Nat) (s : St) (q : Tree × St), s.bad = true → boundF ts f l s = some q → q.2 = s
  bl : ∀ (l : Nat) (n : Tree) (s : St) (q : Tree × St), s.bad = true → boundL ts f l n s = some q → q.2 = s
  u : ∀ (s : St) (q : Tree × St), s.bad = true → unaryF ts f s = some q → q.2 = s
  a : ∀ (s : St) (q : Tree × St), s.bad = true → askedF ts f s = some q → q.2 = s
  p : ∀ (x : ByteArray) (s : St) (q : Tree × St), s.bad = true → placeF ts f x s = some q → q.2 = s
  c : ∀ (x : ByteArray) (s : St) (q : Tree × St), s.bad = true → callF ts f x s = some q → q.2 = s
  cl : ∀ (x : ByteArray) (ks : List Tree) (s : St) (on : Bool) (q : Tree × St), s.bad = true → callL ts f x ks s on = some q → q.2 = s
theorem bind_some_is {α β : Type} {o : Option α} {g : α → Option β} {q : β} (h : o.bind g = some q) : ∃ a, o = some a ∧ g a = some q := by
  cases o with
  | none => simp at h
  | some a => exact ⟨a, rfl, h⟩
theorem stuck (ts : List Tok) (f : Nat) : Stuck ts f := by
  induction f with
  | zero => exact ⟨fun s q _ h => by simp [exprF] at h, fun l s q _ h => by simp [boundF] at h, fun l n s q _ h => by simp [boundL] at h, fun s q _ h => by simp [unaryF] at h, fun s q _ h => by simp [askedF] at h, fun x s q _ h => by simp [placeF] at h, fun x s q _ h => by simp [callF] at h, fun x ks s on q _ h => by simp [callL] at h⟩
  | succ f ih =>
    refine ⟨fun s q hb h => ?_, fun l s q hb h => ?_, fun l n s q hb h => ?_, fun s q hb h => ?_, fun s q hb h => ?_, fun x s q hb h => ?_, fun x s q hb h => ?_, fun x ks s on q hb h => ?_⟩
    · unfold exprF at h
      rw [hb, if_pos rfl] at h
      simp only [Option.some.injEq] at h
      rw [← h]
    · unfold boundF at h
      split at h
      · exact ih.u _ _ hb h
      · obtain ⟨q1, h1, h2⟩ := bind_some_is h
        have e1 := ih.b _ _ _ hb h1
        rw [← e1]
        exact ih.bl _ _ _ _ (by rw [e1]; exact hb) h2
    · unfold boundL at h
      rw [hb, if_pos rfl] at h
      simp only [Option.some.injEq] at h
      rw [← h]
    · unfold unaryF at h
      rw [eqS_bad (by decide) hb, eqS_bad (by decide) hb, eqS_bad (by decide) hb, isNum_bad hb, whole_st hb, eqS_bad (by decide) hb] at h
      simp only [Bool.false_eq_true, if_false] at h
      exact ih.p _ _ _ hb h
    · unfold askedF at h
      obtain ⟨q1, h1, h2⟩ := bind_some_is h
      rw [must_st (by decide) hb] at h1
      have e1 := ih.e _ _ hb h1
      simp only [Option.some.injEq] at h2
      rw [← h2, e1]
      exact must_st (by decide) hb
    · unfold placeF at h
      rw [eqS_bad (by decide) hb, if_neg (by decide)] at h
      simp only [Option.some.injEq] at h
      rw [← h]
    · unfold callF at h
      rw [must_st (by decide) hb, eqS_bad (by decide) hb, if_neg (by decide)] at h
      exact ih.cl _ _ _ _ _ hb h
    · unfold callL at h
      rw [hb] at h
      simp only [Bool.not_true, Bool.and_false, Bool.false_eq_true, if_false, Option.some.injEq] at h
      rw [← h]
      exact must_st (by decide) hb
structure Stuck2 (ts : List Tok) (f : Nat) : Prop where
  bk : ∀ (s : St) (q : Tree × St), s.bad = true → blockF ts f s = some q → q.2 = s
  bl : ∀ (ks : List Tree) (s : St) (q : Tree × St), s.bad = true → blockL ts f ks s = some q → q.2 = s
theorem stuck2 (ts : List Tok) (f : Nat) : Stuck2 ts f := by
  have hL : ∀ (f : Nat) (ks : List Tree) (s : St) (q : Tree × St), s.bad = true → blockL ts f ks s = some q → q.2 = s := by
    intro f ks s q hb h
    cases f with
    | zero => simp [blockL] at h
    | succ f =>
      unfold blockL at h
      rw [hb, if_pos rfl] at h
      simp only [Option.some.injEq] at h
      rw [← h]
  refine ⟨fun s q hb h => ?_, fun ks s q hb h => hL f ks s q hb h⟩
  cases f with
  | zero => simp [blockF] at h
  | succ f =>
    unfold blockF at h
    rw [must_st (by decide) hb] at h
    exact hL _ _ _ _ hb h
end
end Go.Proofs.YtchhpinmoagkhaaGreatDoor.syn
namespace Go.Proofs.YtchhpinmoagkhaaGreatDoor.lexs

/-- what the tokens of a text look like -/
structure Fine (t : Tok) : Prop where
  kinds : t.kind = 1 ∨ t.kind = 2 ∨ t.kind = 3
  ne : t.text ≠ []
  word : t.kind = 1 → t.text.length ≤ 16 ∧ ltrB (t.text.headD 0) = true ∧ t.text.all insB = true
  num : t.kind = 2 → numE t.text = 0
  sign : t.kind = 3 → ltrB (t.text.headD 0) = false
theorem take_run (p : UInt8 → Bool) (l : List UInt8) : l.take (run p l) = l.takeWhile p := by
  unfold run
  induction l with
  | nil => rfl
  | cons b r ih =>
    rw [List.takeWhile_cons]
    cases p b
    · rfl
    · simp [ih]
theorem step_fine {b : UInt8} {r : List UInt8} {K : Int} {n i : Nat} (h : stepL (b :: r) = .tok K n) : Fine ⟨K, (b :: r).take n, i⟩ := by
  have hn := (stepL_tok h).1
  obtain ⟨m, rfl⟩ : ∃ m, n = m + 1 := ⟨n - 1, by omega⟩
  have hh : ((b :: r).take (m + 1)).headD 0 = b := by simp
  have hne : (b :: r).take (m + 1) ≠ [] := by simp
  rw [stepL, List.headD_cons, stepB] at h
  by_cases h1 : (b == 32 || b == 10) = true
  · rw [if_pos h1] at h; simp at h
  rw [if_neg h1] at h
  by_cases h2 : (b == 35) = true
  · rw [if_pos h2] at h; simp at h
  rw [if_neg h2] at h
  cases h3 : ltrB b
  · rw [h3] at h
    simp only [Bool.false_eq_true, if_false] at h
    cases h4 : digB b
    · rw [h4] at h
      simp only [Bool.false_eq_true, if_false] at h
      split at h
      · simp at h
      · injection h with hk hm
        subst hk
        refine ⟨.inr (.inr rfl), hne, fun e => by simp at e, fun e => by simp at e, fun _ => ?_⟩
        show ltrB (((b :: r).take (m + 1)).headD 0) = false
        rw [hh]
        exact h3
    · rw [h4] at h
      simp only [if_true] at h
      split at h
      · rename_i he
        injection h with hk hm
        subst hk
        refine ⟨.inr (.inl rfl), hne, fun e => by simp at e, fun _ => ?_, fun e => by simp at e⟩
        rw [← hm]
        simpa using he
      · simp at h
  · rw [h3] at h
    simp only [if_true] at h
    split at h
    · simp at h
    · rename_i h16
      injection h with hk hm
      subst hk
      refine ⟨.inl rfl, hne, fun _ => ⟨?_, ?_, ?_⟩, fun e => by simp at e, fun e => by simp at e⟩
      · show ((b :: r).take (m + 1)).length ≤ 16
        rw [List.length_take]
        omega
      · show ltrB (((b :: r).take (m + 1)).headD 0) = true
        rw [hh]
        exact h3
      · show ((b :: r).take (m + 1)).all insB = true
        rw [← hm, take_run]
        exact List.all_takeWhile
theorem scanL_fine : ∀ (f : Nat) (l : List UInt8) (i : Nat) (acc toks : List Tok), scanL f l i acc = .ok toks → (∀ t ∈ acc, Fine t) → ∀ t ∈ toks, Fine t
  | 0, l, i, acc, toks, h, ha => by
    unfold scanL at h
    injection h with h
    subst h
    exact ha
  | f + 1, [], i, acc, toks, h, ha => by
    unfold scanL at h
    injection h with h
    subst h
    exact ha
  | f + 1, b :: r, i, acc, toks, h, ha => by
    cases hs : stepL (b :: r) with
    | skip n => rw [scanL_skip hs] at h; exact scanL_fine f _ _ _ _ h ha
    | fault c => rw [scanL_fault hs] at h; simp at h
    | tok k n =>
      rw [scanL_tok hs] at h
      refine scanL_fine f _ _ _ _ h ?_
      intro t ht
      rw [List.mem_append] at ht
      rcases ht with ht | ht
      · exact ha t ht
      · simp only [List.mem_singleton] at ht
        subst ht
        exact step_fine hs
theorem scan_fine {l : List UInt8} {toks : List Tok} (h : scan l = .ok toks) : ∀ t ∈ toks, Fine t := by
  unfold scan at h
  split at h
  · simp at h
  · exact scanL_fine _ _ _ _ _ h (fun t ht => by simp at ht)
end Go.Proofs.YtchhpinmoagkhaaGreatDoor.lexs
namespace Go.Proofs.YtchhpinmoagkhaaGreatDoor.syn
open Go.Proofs.YtchhpinmoagkhaaGreatDoor.lexs (Tok Fine ltrI insI ltrB insB digB numE)
/-- a token's text, as the program holds it -/
def raw (t : Tok) : ByteArray := ⟨t.text.toArray⟩
theorem raw_list (t : Tok) : (raw t).data.toList = t.text := rfl
theorem raw_size (t : Tok) : (raw t).size = t.text.length := by rw [← lexs.len_L, raw_list]
/-- a word that no number is -/
def wordy (x : ByteArray) : Bool := decide (0 < x.size) && !digB (x.data.toList.headD 0)
section
variable {ts : List Tok} {s : St}
theorem here_is (hb : s.bad = false) : here ts s = ts[s.i]? := by unfold here; rw [hb]; rfl
theorem num_digits {l : List UInt8} (h : numE l = 0) : l.all digB = true := by
  unfold numE at h
  cases ha : l.all digB
  · rw [ha] at h; simp at h
  · rfl
theorem num_head {l : List UInt8} (h : numE l = 0) (hne : l ≠ []) : digB (l.headD 0) = true := by
  have h1 := num_digits h
  cases l with
  | nil => exact absurd rfl hne
  | cons b r => simp only [List.all_cons, Bool.and_eq_true] at h1; exact h1.1
/-- a word stands here just where the raw text is it -/
theorem eq_raw {t : Tok} (hg : Fine t) (hb : s.bad = false) (ht : ts[s.i]? = some t) {x : ByteArray} (hx : wordy x = true) : eqS (txt ts s) x = eqS (raw t) x := by
  unfold txt
  rw [here_is hb, ht]
  simp only
  unfold wordy at hx
  simp only [Bool.and_eq_true, decide_eq_true_eq, Bool.not_eq_true'] at hx
  cases hk : (t.kind == 2)
  · simp only [Bool.false_eq_true, if_false]
    rfl
  · simp only [if_true]
    have hk2 : t.kind = 2 := by simpa using hk
    have hd := num_head (hg.num hk2) hg.ne
    have e1 : eqS empty x = false := by
      cases h : eqS empty x
      · rfl
      · have := eqS_empty h
        omega
    have e2 : eqS (raw t) x = false := by
      cases h : eqS (raw t) x
      · rfl
      · exfalso
        unfold eqS at h
        rw [beq_iff_eq, ByteArray.toList_eq, ByteArray.toList_eq, raw_list] at h
        rw [h] at hd
        rw [hx.2] at hd
        simp at hd
    rw [e1, e2]
/-- nothing stands behind the last one -/
theorem eq_none (ht : ts[s.i]? = none) {x : ByteArray} (hx : wordy x = true) : eqS (txt ts s) x = false := by
  cases h : eqS (txt ts s) x
  · rfl
  · exfalso
    unfold wordy at hx
    simp only [Bool.and_eq_true, decide_eq_true_eq] at hx
    have := txt_lt hx.1 h
    rw [List.getElem?_eq_none_iff] at ht
    omega
def ownName (t : Tok) : Bool := !(reserved.any fun y => eqS y (raw t)) && t.kind == 1
theorem name_raw {t : Tok} (hg : Fine t) (hb : s.bad = false) (ht : ts[s.i]? = some t) : isName (txt ts s) = ownName t := by
  unfold txt
  rw [here_is hb, ht]
  simp only
  rcases hg.kinds with hk | hk | hk
  · rw [hk]
    obtain ⟨h1, h2, h3⟩ := hg.word hk
    unfold ownName
    rw [hk]
    have hsz : 1 ≤ (raw t).size := by
      rw [raw_size]
      have := hg.ne
      cases hl : t.text with
      | nil => exact absurd hl this
      | cons b r => simp
    have e : isName (raw t) = !(reserved.any fun y => eqS y (raw t)) := by
      unfold isName
      rw [raw_list]
      have hl : ltrI ((t.text.headD 0).toNat : Int) = true := h2
      have ha : t.text.all (fun c => insI (c.toNat : Int)) = true := h3
      rw [hl, ha, decide_eq_true ⟨hsz, by rw [raw_size]; exact h1⟩]
      simp
    simp only [show ((1 : Int) == 2) = false from rfl, show ((1 : Int) == 1) = true from rfl, Bool.false_eq_true, if_false, Bool.and_true]
    exact e
  · rw [hk]
    unfold ownName
    rw [hk]
    simp [isName_empty]
  · rw [hk]
    unfold ownName
    rw [hk]
    have hs := hg.sign hk
    have hl : ltrI ((t.text.headD 0).toNat : Int) = false := hs
    simp only [show ((3 : Int) == 2) = false from rfl, show ((3 : Int) == 1) = false from rfl, Bool.false_eq_true, if_false, Bool.and_false]
    unfold isName
    show (_ && ltrI (((raw t).data.toList.headD 0).toNat : Int) && _ && _) = false
    rw [raw_list, hl]
    simp
theorem name_none (ht : ts[s.i]? = none) : isName (txt ts s) = false := by
  have : txt ts s = empty := by
    unfold txt here
    rw [ht]
    cases s.bad <;> rfl
  rw [this]
  exact isName_empty
end
end Go.Proofs.YtchhpinmoagkhaaGreatDoor.syn
namespace Go.Proofs.YtchhpinmoagkhaaGreatDoor.syn
open Go.RowKit

def opS : List ByteArray := [empty, ⟨#[43]⟩, ⟨#[45]⟩, ⟨#[42]⟩, ⟨#[47]⟩, ⟨#[37]⟩, ⟨#[38]⟩, ⟨#[124]⟩, ⟨#[60]⟩, ⟨#[61, 61]⟩]
def opB : List Int := [0, 1, 1, 2, 2, 2, 2, 1, 0, 0]
def opAt (k : Nat) : ByteArray := opS.getD k empty
def opIs (k : Nat) : Int := opB.getD k 0
/-- the program's table of operators lies where its variable does -/
def HasOps (w : World) : Prop := ∃ cs t fr, w.heap[5]? = some (.cells cs t fr) ∧ cs.size = 20 ∧ ∀ k, k < 10 → cs[k * 2]? = some (.string (opAt k)) ∧ cs[k * 2 + 1]? = some (.int .i64 (opIs k))
end Go.Proofs.YtchhpinmoagkhaaGreatDoor.syn
namespace Go.Proofs.YtchhpinmoagkhaaGreatDoor.syn
set_option linter.unusedVariables false

mutual
def cntT : Tree → Int
  | .node _ _ _ ks => cntL ks + 1
def cntL : List Tree → Int
  | [] => 0
  | t :: r => cntT t + cntL r
end
mutual
def depT : Tree → Int
  | .node _ _ _ ks => depL ks + 1
def depL : List Tree → Int
  | [] => 0
  | t :: r => max (depT t) (depL r)
end
mutual
theorem cntT_pos : ∀ t : Tree, 1 ≤ cntT t
  | .node _ _ _ ks => by unfold cntT; have := cntL_pos ks; omega
theorem cntL_pos : ∀ ks : List Tree, 0 ≤ cntL ks
  | [] => by unfold cntL; omega
  | t :: r => by unfold cntL; have h1 := cntT_pos t; have h2 := cntL_pos r; omega
end
mutual
theorem depT_pos : ∀ t : Tree, 1 ≤ depT t
  | .node _ _ _ ks => by unfold depT; have := depL_pos ks; omega
theorem depL_pos : ∀ ks : List Tree, 0 ≤ depL ks
  | [] => by unfold depL; omega
  | t :: r => by unfold depL; have h1 := depT_pos t; have h2 := depL_pos r; omega
end
mutual
theorem manyT_is : ∀ (t : Tree) (most : Int), 0 ≤ most → (cntT t ≤ most → manyT t most = cntT t) ∧ (most < cntT t → most < manyT t most)
  | .node _ _ _ ks, most, h => by
    unfold manyT cntT
    have := manyL_is ks 1 most h (by omega) (by omega)
    exact ⟨fun h1 => by rw [this.1 (by omega)]; omega, fun h1 => this.2 (by omega)⟩
theorem manyL_is : ∀ (ks : List Tree) (k most : Int), 0 ≤ most → 1 ≤ k → k ≤ most + 1 → (k + cntL ks ≤ most → manyL ks k most = k + cntL ks) ∧ (most < k + cntL ks → most < manyL ks k most)
  | [], k, most, h, h1, h2 => by unfold manyL cntL; exact ⟨fun _ => by omega, fun h => by omega⟩
  | t :: r, k, most, h, h1, h2 => by
    unfold manyL cntL
    have p1 := cntT_pos t
    have p2 := cntL_pos r
    split
    · rename_i hc
      have hm := manyT_is t (most - k) (by omega)
      have hb := manyT_bounds t (most - k) (by omega)
      have hr := manyL_is r (k + manyT t (most - k)) most h (by omega) (by omega)
      refine ⟨fun h3 => ?_, fun h3 => ?_⟩
      · rw [hr.1 (by rw [hm.1 (by omega)]; omega), hm.1 (by omega)]
        omega
      · rcases Int.lt_or_le (most - k) (cntT t) with h4 | h4
        · have := hm.2 h4
          exact hr.2 (by omega)
        · have := hm.1 h4
          exact hr.2 (by omega)
    · exact ⟨fun h3 => by omega, fun h3 => by omega⟩
end
mutual
theorem deepT_is : ∀ (t : Tree) (most : Int), 0 ≤ most → (depT t ≤ most → deepT t most = depT t) ∧ (most < depT t → most < deepT t most)
  | .node _ _ _ ks, most, h => by
    unfold deepT depT
    have p := depL_pos ks
    rcases Int.lt_or_le 0 most with h0 | h0
    · have := deepL_is ks 0 most h0 (by omega) (by omega)
      have e : max 0 (depL ks) = depL ks := by omega
      rw [e] at this
      exact ⟨fun h1 => by rw [this.1 (by omega)], fun h1 => by have := this.2 (by omega); omega⟩
    · have hb := deepL_bounds ks 0 most h (by omega) (by omega)
      exact ⟨fun h1 => by omega, fun h1 => by omega⟩
theorem deepL_is : ∀ (ks : List Tree) (d most : Int), 0 < most → 0 ≤ d → d ≤ most → (max d (depL ks) ≤ most - 1 → deepL ks d most = max d (depL ks)) ∧ (most - 1 < max d (depL ks) → most ≤ deepL ks d most)
  | [], d, most, h, h1, h2 => by unfold deepL depL; exact ⟨fun _ => by omega, fun h => by omega⟩
  | t :: r, d, most, h, h1, h2 => by
    unfold deepL depL
    rw [if_pos ⟨h, h2⟩]
    have hm := deepT_is t (most - 1) (by omega)
    have hb := deepT_bounds t (most - 1) (by omega)
    have hr := deepL_is r (max d (deepT t (most - 1))) most h (by omega) (by omega)
    refine ⟨fun h3 => ?_, fun h3 => ?_⟩
    · have e := hm.1 (by omega)
      rw [hr.1 (by omega), e]
      omega
    · rcases Int.lt_or_le (most - 1) (depT t) with h4 | h4
      · have := hm.2 h4
        exact hr.2 (by omega)
      · have := hm.1 h4
        exact hr.2 (by omega)
end
mutual
/-- as the program counts: it stops at the first node beyond a limit -/
def withinT : Tree → Int → Int → Option Int
  | .node _ _ _ ks, d, c => if 16 < d ∨ 500 < c + 1 then none else withinL ks (d + 1) (c + 1)
def withinL : List Tree → Int → Int → Option Int
  | [], _, c => some c
  | t :: r, d, c => match withinT t d c with
    | none => none
    | some c' => withinL r d c'
end
mutual
theorem withinT_is : ∀ (t : Tree) (d c : Int), 0 ≤ c → c ≤ 500 → 1 ≤ d → d ≤ 17 → withinT t d c = if depT t + d ≤ 17 ∧ c + cntT t ≤ 500 then some (c + cntT t) else none
  | .node _ _ _ ks, d, c, h1, h2, h3, h4 => by
    unfold withinT depT cntT
    have p1 := depL_pos ks
    have p2 := cntL_pos ks
    by_cases hc : 16 < d ∨ 500 < c + 1
    · rw [if_pos hc, if_neg (by omega)]
    · rw [if_neg hc, withinL_is ks (d + 1) (c + 1) (by omega) (by omega) (by omega) (by omega)]
      by_cases hd : depL ks + (d + 1) ≤ 17 ∧ c + 1 + cntL ks ≤ 500
      · rw [if_pos hd, if_pos (by omega)]
        congr 1
        omega
      · rw [if_neg hd, if_neg (by omega)]
theorem withinL_is : ∀ (ks : List Tree) (d c : Int), 0 ≤ c → c ≤ 500 → 1 ≤ d → d ≤ 17 → withinL ks d c = if depL ks + d ≤ 17 ∧ c + cntL ks ≤ 500 then some (c + cntL ks) else none
  | [], d, c, h1, h2, h3, h4 => by
    unfold withinL depL cntL
    rw [if_pos (by omega)]
    congr 1
    omega
  | t :: r, d, c, h1, h2, h3, h4 => by
    unfold withinL depL cntL
    have p1 := cntT_pos t
    have p2 := cntL_pos r
    have p3 := depT_pos t
    have p4 := depL_pos r
    rw [withinT_is t d c h1 h2 h3 h4]
    by_cases hd : depT t + d ≤ 17 ∧ c + cntT t ≤ 500
    · rw [if_pos hd]
      simp only
      rw [withinL_is r d (c + cntT t) (by omega) (by omega) h3 h4]
      by_cases hr : depL r + d ≤ 17 ∧ c + cntT t + cntL r ≤ 500
      · rw [if_pos hr, if_pos (by omega)]
        congr 1
        omega
      · rw [if_neg hr, if_neg (by omega)]
    · rw [if_neg hd]
      simp only
      rw [if_neg (by omega)]
end
theorem within_fits (t : Tree) : (withinT t 1 0).isSome = fitsT t := by
  rw [withinT_is t 1 0 (by omega) (by omega) (by omega) (by omega)]
  unfold fitsT
  have hm := manyT_is t 500 (by omega)
  have hd := deepT_is t 16 (by omega)
  rcases Int.lt_or_le 500 (cntT t) with h | h
  · have a1 := hm.2 h
    have a2 : ¬ (depT t + 1 ≤ 17 ∧ 0 + cntT t ≤ 500) := by omega
    simp only [if_pos a1, if_neg a2]
    rfl
  · have a1 : ¬ 500 < manyT t 500 := by rw [hm.1 h]; omega
    simp only [if_neg a1]
    rcases Int.lt_or_le 16 (depT t) with h2 | h2
    · have a2 : ¬ (depT t + 1 ≤ 17 ∧ 0 + cntT t ≤ 500) := by omega
      have a3 : ¬ deepT t 16 ≤ 16 := by have := hd.2 h2; omega
      simp only [if_neg a2, decide_eq_false a3]
      rfl
    · have a2 : depT t + 1 ≤ 17 ∧ 0 + cntT t ≤ 500 := by omega
      have a3 : deepT t 16 ≤ 16 := by rw [hd.1 h2]; exact h2
      simp only [if_pos a2, decide_eq_true a3]
      rfl
end Go.Proofs.YtchhpinmoagkhaaGreatDoor.syn
