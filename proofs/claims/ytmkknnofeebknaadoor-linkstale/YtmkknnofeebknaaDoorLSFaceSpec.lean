/- What chapter 4 says of faces that may be, and of faces that are the same: plain functions. No Go in sight. -/
import Derived.Test.YtmkknnofeebknaaDoorLSFaceMem
import Derived.Test.YtmkknnofeebknaaDoorLSFaceDat
namespace Go.Proofs.YtmkknnofeebknaaDoor.face
open Go.RowKit
open Go.Proofs.YtmkknnofeebknaaDoor.syn (isName eqS)
set_option linter.unusedVariables false

theorem all2_len {α : Type} {p : α → α → Bool} : ∀ {l m : List α}, l.length ≠ m.length → all2 p l m = false
  | [], [], h => absurd rfl h
  | [], _ :: _, _ => rfl
  | _ :: _, [], _ => rfl
  | x :: r, y :: s, h => by
    have : all2 p r s = false := all2_len (by simpa using h)
    show (p x y && all2 p r s) = false
    rw [this, Bool.and_false]
theorem all2_no {α : Type} {p : α → α → Bool} : ∀ {l m : List α} (i : Nat) (h : i < l.length) (h2 : i < m.length), p l[i] m[i] = false → all2 p l m = false
  | [], _, _, h, _, _ => by simp at h
  | _ :: _, [], _, _, h, _ => by simp at h
  | x :: r, y :: s, 0, h, h2, hp => by
    show (p x y && all2 p r s) = false
    simp only [List.getElem_cons_zero] at hp
    rw [hp]; rfl
  | x :: r, y :: s, i + 1, h, h2, hp => by
    show (p x y && all2 p r s) = false
    simp only [List.getElem_cons_succ] at hp
    rw [all2_no i (by simpa using h) (by simpa using h2) hp, Bool.and_false]
theorem all2_yes {α : Type} {p : α → α → Bool} : ∀ {l m : List α}, l.length = m.length → (∀ i (h : i < l.length) (h2 : i < m.length), p l[i] m[i] = true) → all2 p l m = true
  | [], [], _, _ => rfl
  | [], _ :: _, h, _ => by simp at h
  | _ :: _, [], h, _ => by simp at h
  | x :: r, y :: s, h, hp => by
    show (p x y && all2 p r s) = true
    have h0 : p x y = true := hp 0 (by simp) (by simp)
    rw [h0, all2_yes (by simpa using h) (fun i h h2 => hp (i + 1) (by simp; omega) (by simp; omega))]
    rfl
theorem all_no {α : Type} {p : α → Bool} {l : List α} (i : Nat) (h : i < l.length) (hp : p l[i] = false) : l.all p = false := by
  rw [List.all_eq_false]
  exact ⟨l[i], List.getElem_mem h, by simp [hp]⟩
theorem all_yes {α : Type} {p : α → Bool} {l : List α} (hp : ∀ i (h : i < l.length), p l[i] = true) : l.all p = true := by
  rw [List.all_eq_true]
  intro x hx
  obtain ⟨k, hk, rfl⟩ := List.mem_iff_getElem.1 hx
  exact hp k hk
theorem ints_all2 : ∀ (l m : List Int), (l == m) = all2 (fun a b => a == b) l m
  | [], [] => rfl
  | [], _ :: _ => rfl
  | _ :: _, [] => rfl
  | x :: r, y :: s => by
    show (x :: r == y :: s) = (x == y && all2 _ r s)
    rw [List.cons_beq_cons, ints_all2 r s]
theorem ret_b {x y : Bool} (h : x = y) : Ending.returned (.bool x) = .returned (.bool y) := by rw [h]
theorem cell_new {w : World} {a : Addr} {v : Value} (h : w.cell? a = some v) (ob : Obj) : (w.alloc ob).cell? a = some v := by
  rw [((Below.refl _ _).alloc (Nat.le_refl _) ob).cell (World.block_lt_of_cell? w a h)]; exact h
end Go.Proofs.YtmkknnofeebknaaDoor.face
