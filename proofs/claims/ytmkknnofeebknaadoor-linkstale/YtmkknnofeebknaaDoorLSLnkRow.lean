/- An order in the linker's row turns: memory. -/
import Derived.Test.YtmkknnofeebknaaDoorLSLnkAdd
namespace Go.Proofs.YtmkknnofeebknaaDoor.lnk
open Go.RowKit
open Go.Proofs.YtmkknnofeebknaaDoor.mac (BoxC Ins grown_of_below)
set_option linter.unusedVariables false
set_option linter.unusedSimpArgs false
/-- a cell of a row of one's own turns -/
theorem own_set {w : World} {base g n cap size : Nat} {e : TypeId} {xs : List Value} (h : w.ownsRow base e size (.slice (some ⟨g, 0, none⟩) n cap) n xs) (j : Nat) (hj : j < n * size) (u : Value) :
    (w.setCell ⟨g, j, none⟩ u).ownsRow base e size (.slice (some ⟨g, 0, none⟩) n cap) n (xs.set j u) := by
  obtain ⟨h1, h2⟩ := h
  rcases h2 with ⟨e1, _⟩ | ⟨g', cap', cur, e1, hb, hg, h3, h4, h5, h6⟩
  · cases e1
  · cases e1
    refine ⟨by rw [List.length_set]; exact h1, .inr ⟨g, cap, cur.setIfInBounds j u, rfl, hb, ?_, h3, h4, by rw [Array.size_setIfInBounds]; exact h5, ?_⟩⟩
    · exact BoxC.set (W := w) (B := g) (cs := cur) (T := e) hg j u
    · rw [Array.toList_setIfInBounds, ← h6, List.take_set]
/-- an order's number turns -/
def setN (l : List Ins) (i : Nat) (v : Int) : List Ins := l.modify i fun x => { x with n := v }
theorem setN_len (l : List Ins) (i : Nat) (v : Int) : (setN l i v).length = l.length := by simp [setN]
theorem setN_flat : ∀ (l : List Ins) (i : Nat) (v : Int), i < l.length → (l.flatMap insC).set (i * 5 + 4) (.int .i64 v) = (setN l i v).flatMap insC
  | [], i, v, h => by simp at h
  | x :: r, 0, v, h => by simp [setN, insC]
  | x :: r, i + 1, v, h => by
    have ih := setN_flat r i v (by simpa using h)
    have e : (i + 1) * 5 + 4 = (insC x).length + (i * 5 + 4) := by show _ = 5 + _; omega
    rw [List.flatMap_cons, e, List.set_append_right _ _ (by omega), Nat.add_sub_cancel_left, ih]
    simp [setN]
theorem LS.setN' {w : World} {p : Pl} {s : St} {g cap nm nb : Nat} (h : LS w p s (.slice (some ⟨g, 0, none⟩) s.code.length cap) nm nb) {i : Nat} (hi : i < s.code.length) (v : Int) :
    LS (w.setCell ⟨g, i * 5 + 4, none⟩ (.int .i64 v)) p { s with code := setN s.code i v } (.slice (some ⟨g, 0, none⟩) (setN s.code i v).length cap) nm nb := by
  have e1 : g ≠ p.K := fun e => h.r1 (by rw [e]; rfl)
  have e2 : g ≠ p.mb := fun e => h.r2 (by rw [e]; rfl)
  have e3 : g ≠ p.bb := fun e => h.r3 (by rw [e]; rfl)
  have hrow := own_set h.row (i * 5 + 4) (by omega) (.int .i64 v)
  rw [setN_flat _ _ _ hi] at hrow
  have hg := mac.grown_set w g (i * 5 + 4) (.int .i64 v)
  rw [setN_len]
  refine { h with box := h.box.grown hg (fun e => e1 (Option.some.inj e)), row := ?_, mm := h.mm.kept hg (fun e => e2 (Option.some.inj e).symm), bm := h.bm.kept hg (fun e => e3 (Option.some.inj e).symm) }
  show World.ownsRow _ _ _ _ _ (setN s.code i v).length _
  rw [setN_len]
  exact hrow
end Go.Proofs.YtmkknnofeebknaaDoor.lnk
