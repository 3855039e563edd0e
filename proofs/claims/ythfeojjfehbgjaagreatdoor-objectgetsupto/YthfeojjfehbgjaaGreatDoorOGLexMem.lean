/- Rows of tokens in memory, and what a scan answers. -/
import Derived.Test.YthfeojjfehbgjaaGreatDoorProg
import Derived.WalkKit
import Derived.WalkLawsBesides
import Derived.Outline
import Derived.WalkSmall
import Derived.BigQuiet
import Derived.Deep.QuietTactic
import Derived.Test.YthfeojjfehbgjaaGreatDoorOGLexRefP
namespace Go.Proofs.YthfeojjfehbgjaaGreatDoor.lexs
open Go.RowKit
set_option linter.unusedVariables false

/-- what a scan answers, in the worlds that H names -/
def Scans (H : World → Prop) (F : Nat) (s : ByteArray) : Prop := ∀ w : World, H w → Calls Tryz.prog F #[.string s] w fun e w' => ∃ v, e = .returned (.tuple #[v, .agg #[.int .i64 (scan s.data.toList).code, .int .i64 (scan s.data.toList).place]]) ∧
      w'.ownsRow w.heap.size 126 3 v (scan s.data.toList).toks.length (cellsOf (scan s.data.toList).toks) ∧ Below w.heap.size w w'

theorem own_shape {w : World} {B : Nat} {e : TypeId} {k n : Nat} {v : Value} {xs : List Value} (h : w.ownsRow B e k v n xs) : ∃ a c, v = .slice a n c ∧ n ≤ 9223372036854775807 ∧ (0 < n → ∃ g, a = some ⟨g, 0, none⟩) := by
  rcases h.2 with ⟨rfl, rfl⟩ | ⟨g, cap, cur, rfl, _, _, h1, h2, _⟩
  · exact ⟨none, 0, rfl, by omega, fun h => by omega⟩
  · exact ⟨some ⟨g, 0, none⟩, cap, rfl, by unfold maxLen at h2; omega, fun _ => ⟨g, rfl⟩⟩
theorem cellsOf_at (l : List Tok) (k : Nat) (hk : k < l.length) : (cellsOf l)[k * 3]? = some (.int .i64 l[k].kind) ∧ (cellsOf l)[k * 3 + 1]? = some (.string ⟨l[k].text.toArray⟩) ∧ (cellsOf l)[k * 3 + 2]? = some (.int .i64 (l[k].at_ : Int)) := by
  induction l generalizing k with
  | nil => simp at hk
  | cons t l ih =>
    cases k with
    | zero => simp [cellsOf]
    | succ k =>
      have h := ih k (by simpa using hk)
      have e : cellsOf (t :: l) = [.int .i64 t.kind, .string ⟨t.text.toArray⟩, .int .i64 (t.at_ : Int)] ++ cellsOf l := rfl
      have e3 : (k + 1) * 3 = k * 3 + 3 := by omega
      rw [e, e3]
      refine ⟨?_, ?_, ?_⟩
      · rw [List.getElem?_append_right (by simp)]; simpa using h.1
      · rw [List.getElem?_append_right (by simp)]; simpa using h.2.1
      · rw [List.getElem?_append_right (by simp)]; simpa using h.2.2
theorem tok_cells {w : World} {B : Nat} {e : TypeId} {g n cap : Nat} {l : List Tok} (h : w.ownsRow B e 3 (.slice (some ⟨g, 0, none⟩) n cap) n (cellsOf l)) {k : Nat} (hk : k < l.length) :
    w.cell? ⟨g, k * 3, none⟩ = some (.int .i64 l[k].kind) ∧ w.cell? ⟨g, k * 3 + 1, none⟩ = some (.string ⟨l[k].text.toArray⟩) ∧ w.cell? ⟨g, k * 3 + 2, none⟩ = some (.int .i64 (l[k].at_ : Int)) := by
  have ha := cellsOf_at l k hk
  have hn : n = l.length := by have := h.1; rw [cellsOf_length] at this; omega
  exact ⟨(h.cellAt _ (by omega)).trans ha.1, (h.cellAt _ (by omega)).trans ha.2.1, (h.cellAt _ (by omega)).trans ha.2.2⟩
/-- a box more, and a call behind it -/
theorem below_next {w a b : World} {o : Obj} (h : Below w.heap.size w a) (h2 : Below (a.alloc o).heap.size (a.alloc o) b) : Below w.heap.size w b :=
  (h.alloc h.size o).trans (h2.mono (by have := h.size; rw [World.size_alloc]; omega))
theorem below_last {w a b : World} (h : Below w.heap.size w a) (h2 : Below a.heap.size a b) : Below w.heap.size w b := h.trans (h2.mono h.size)
theorem boxes' {w1 w2 : World} {x y : Value} {T : TypeId} (h : Below (w1.alloc (.cells #[x, y] T)).heap.size (w1.alloc (.cells #[x, y] T)) w2) :
    w2.cell? ⟨w1.heap.size, 0, none⟩ = some x ∧ w2.cell? ⟨w1.heap.size, 1, none⟩ = some y ∧ w1.heap.size < w2.heap.size := by
  rw [World.size_alloc] at h
  have := boxes h
  exact ⟨this.1, this.2.1, this.2.2.2.2⟩
end Go.Proofs.YthfeojjfehbgjaaGreatDoor.lexs
