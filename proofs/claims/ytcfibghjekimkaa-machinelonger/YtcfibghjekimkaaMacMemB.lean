/- A machine's rows, while they turn. -/
import Derived.Test.YtcfibghjekimkaaMacMem
namespace Go.Proofs.Ytcfibghjekimkaa.mac
open Go.RowKit
set_option linter.unusedVariables false
def upd (vs : Fin 5 → Value) (i : Fin 5) (v : Value) : Fin 5 → Value := fun j => if j = i then v else vs j
theorem grown_refl (w : World) (row : Option Nat) : w.grownBy w row := ⟨rfl, rfl, rfl, Nat.le_refl _, fun _ _ _ => rfl⟩
section
variable {p : Pl} {w0 w w' : World} {vs : Fin 5 → Value} {s : St}
theorem MS.own0 (h : MS p w0 vs s w) : w.ownsRow p.N 2 1 (vs 0) s.oL.length (s.oL.map intV) := by
  have := h.mem.own 0
  simpa [rowsF] using this
theorem MS.own1 (h : MS p w0 vs s w) : w.ownsRow p.N 2 1 (vs 1) s.oH.length (s.oH.map intV) := by
  have := h.mem.own 1
  simpa [rowsF] using this
theorem MS.own2 (h : MS p w0 vs s w) : w.ownsRow p.N 2 1 (vs 2) s.lw.length (s.lw.map intV) := by
  have := h.mem.own 2
  simpa [rowsF] using this
theorem MS.own3 (h : MS p w0 vs s w) : w.ownsRow p.N 2 1 (vs 3) s.hw.length (s.hw.map intV) := by
  have := h.mem.own 3
  simpa [rowsF] using this
theorem MS.own4 (h : MS p w0 vs s w) : w.ownsRow p.N 3 1 (vs 4) s.backs.length (s.backs.map natV) := by
  have := h.mem.own 4
  simpa [rowsF] using this
theorem own_ge (h : MS p w0 vs s w) (i : Fin 5) : ∀ k, (rowsF vs s i).v.ownBlock = some k → p.N ≤ k := fun k e => ((h.mem.own i).lt k e).1
/-- a row turns, and the box with it -/
theorem MS.turned (h : MS p w0 vs s w) (i : Fin 5) (k : Nat) (T : TypeId) (v : Value) (xs : List Value) (s' : St) (hr : s'.regs = s.regs) (hc : (cellsF p vs s).set k v = cellsF p (upd vs i v) s') (hrow : (fun j => if j = i then (⟨T, v, xs⟩ : Rw) else rowsF vs s j) = rowsF (upd vs i v) s')
    (hg : w.grownBy w' (rowsF vs s i).v.ownBlock) (ho : w'.ownsRow p.N T 1 v xs.length xs) (hat : ∀ b, v.ownBlock = some b → (rowsF vs s i).v.ownBlock = some b ∨ w.heap.size ≤ b) : MS p w0 (upd vs i v) s' (w'.setCell ⟨p.D, k, none⟩ v) := by
  have hm := (h.mem.turn i ⟨T, v, xs⟩ hg ho hat).set k v
  have hx : Ext p (upd vs i v) w' := fun o ho' => by
    obtain ⟨h1, h2, h3⟩ := h.ext o ho'
    have hX := (Array.getElem?_eq_some_iff.1 h1).1
    refine ⟨(hg.block p.X hX (fun e => h3 i (by rw [← rows_v vs s i]; exact e.symm))).trans h1, h2, fun j => ?_⟩
    unfold upd
    by_cases hj : j = i
    · rw [if_pos hj]
      intro e
      rcases hat _ e with e2 | e2
      · exact h3 i (by rw [← rows_v vs s i]; exact e2)
      · omega
    · rw [if_neg hj]; exact h3 j
  refine ⟨?_, (h.old.grown hg (by have := h.mem.lt; have := h.mem.ge; omega) (own_ge h i)).setCell h.mem.ge _, by rw [hr]; exact h.regs, hx.set _ _⟩
  have e : (cellsF p vs s).toArray.setIfInBounds k v = (cellsF p (upd vs i v) s').toArray := by
    rw [List.setIfInBounds_toArray, hc]
  rw [e, hrow] at hm
  exact hm
/-- a number comes out low -/
theorem MS.push0 (h : MS p w0 vs s w) (x : Int) {g cap : Nat} (ho : w'.ownsRow p.N 2 1 (.slice (some ⟨g, 0, none⟩) (s.oL.length + 1) cap) (s.oL.length + 1) (s.oL.map intV ++ [intV x])) (hg : w.grownBy w' (vs 0).ownBlock) (hat : (vs 0).ownBlock = some g ∨ g = w.heap.size) :
    MS p w0 (upd vs 0 (.slice (some ⟨g, 0, none⟩) (s.oL.length + 1) cap)) { s with oL := s.oL ++ [x] } (w'.setCell ⟨p.D, 1, none⟩ (.slice (some ⟨g, 0, none⟩) (s.oL.length + 1) cap)) := by
  refine h.turned 0 1 2 _ (s.oL.map intV ++ [intV x]) _ rfl ?_ ?_ hg ?_ (fun b e => ?_)
  · simp [cellsF, headC, upd]
  · funext i
    match i with
    | 0 => simp [rowsF, upd]
    | 1 => rfl
    | 2 => rfl
    | 3 => rfl
    | 4 => rfl
  · simpa using ho
  · have e' : some g = some b := e
    cases e'
    exact hat.imp id (fun e => Nat.le_of_eq e.symm)
theorem MS.push1 (h : MS p w0 vs s w) (x : Int) {g cap : Nat} (ho : w'.ownsRow p.N 2 1 (.slice (some ⟨g, 0, none⟩) (s.oH.length + 1) cap) (s.oH.length + 1) (s.oH.map intV ++ [intV x])) (hg : w.grownBy w' (vs 1).ownBlock) (hat : (vs 1).ownBlock = some g ∨ g = w.heap.size) :
    MS p w0 (upd vs 1 (.slice (some ⟨g, 0, none⟩) (s.oH.length + 1) cap)) { s with oH := s.oH ++ [x] } (w'.setCell ⟨p.D, 2, none⟩ (.slice (some ⟨g, 0, none⟩) (s.oH.length + 1) cap)) := by
  refine h.turned 1 2 2 _ (s.oH.map intV ++ [intV x]) _ rfl ?_ ?_ hg ?_ (fun b e => ?_)
  · simp [cellsF, headC, upd]
  · funext i
    match i with
    | 0 => rfl
    | 1 => simp [rowsF, upd]
    | 2 => rfl
    | 3 => rfl
    | 4 => rfl
  · simpa using ho
  · have e' : some g = some b := e
    cases e'
    exact hat.imp id (fun e => Nat.le_of_eq e.symm)
theorem cells21 (h : s.regs.length = 8) (v : Value) (l : List Nat) : (cellsF p vs s).set 21 v = cellsF p (upd vs 4 v) { s with backs := l } := by
  unfold cellsF
  rw [List.set_append_right _ _ (by simp [headC]), List.set_append_right _ _ (by simp [headC, h])]
  simp [headC, h, upd]
/-- a call more -/
theorem MS.push4 (h : MS p w0 vs s w) (x : Nat) {g cap : Nat} (ho : w'.ownsRow p.N 3 1 (.slice (some ⟨g, 0, none⟩) (s.backs.length + 1) cap) (s.backs.length + 1) (s.backs.map natV ++ [natV x])) (hg : w.grownBy w' (vs 4).ownBlock) (hat : (vs 4).ownBlock = some g ∨ g = w.heap.size) :
    MS p w0 (upd vs 4 (.slice (some ⟨g, 0, none⟩) (s.backs.length + 1) cap)) { s with backs := s.backs ++ [x] } (w'.setCell ⟨p.D, 21, none⟩ (.slice (some ⟨g, 0, none⟩) (s.backs.length + 1) cap)) := by
  refine h.turned 4 21 3 _ (s.backs.map natV ++ [natV x]) _ rfl (cells21 h.regs _ _) ?_ hg ?_ (fun b e => ?_)
  · funext i
    match i with
    | 0 => rfl
    | 1 => rfl
    | 2 => rfl
    | 3 => rfl
    | 4 => simp [rowsF, upd]
  · simpa using ho
  · have e' : some g = some b := e
    cases e'
    exact hat.imp id (fun e => Nat.le_of_eq e.symm)
/-- a call less -/
theorem MS.pop4 (h : MS p w0 vs s w) {l : List Nat} {x g cap : Nat} (hl : s.backs = l ++ [x]) (hv : vs 4 = .slice (some ⟨g, 0, none⟩) (l.length + 1) cap) :
    MS p w0 (upd vs 4 (.slice (some ⟨g, 0, none⟩) l.length cap)) { s with backs := l } (w.setCell ⟨p.D, 21, none⟩ (.slice (some ⟨g, 0, none⟩) l.length cap)) := by
  have ho := h.own4
  rw [hv, hl, List.length_append, List.map_append] at ho
  have hp := ownsRow_pop (xs := l.map natV) (last := [natV x]) (by simp) ho
  refine h.turned 4 21 3 _ (l.map natV) _ rfl (cells21 h.regs _ _) ?_ (grown_refl _ _) (by simpa using hp) (fun b e => .inl ?_)
  · funext i
    match i with
    | 0 => rfl
    | 1 => rfl
    | 2 => rfl
    | 3 => rfl
    | 4 => rfl
  · show (vs 4).ownBlock = some b
    rw [hv]
    exact e
theorem MS.shape4 (h : MS p w0 vs s w) : ∃ a c, vs 4 = .slice a s.backs.length c ∧ (s.backs ≠ [] → ∃ g, a = some ⟨g, 0, none⟩ ∧ s.backs.length ≤ c ∧ ∀ i (hi : i < s.backs.length), w.cell? ⟨g, i, none⟩ = some (natV s.backs[i])) := by
  have ho := h.own4
  rcases ho.2 with ⟨e, hn⟩ | ⟨g, cap, cur, e, hB, _, h1, h2, _⟩
  · exact ⟨none, 0, by rw [e, hn], fun h => absurd (List.eq_nil_of_length_eq_zero hn) h⟩
  · refine ⟨some ⟨g, 0, none⟩, cap, e, fun _ => ⟨g, rfl, h1, fun i hi => ?_⟩⟩
    rw [e] at ho
    rw [ho.cellAt _ (by omega)]
    simp [hi]
theorem MS.shape0 (h : MS p w0 vs s w) : ∃ a c, vs 0 = .slice a s.oL.length c := by
  rcases h.own0.2 with ⟨e, hn⟩ | ⟨g, cap, cur, e, _⟩
  · exact ⟨none, 0, by rw [e, hn]⟩
  · exact ⟨_, _, e⟩
theorem MS.shape1 (h : MS p w0 vs s w) : ∃ a c, vs 1 = .slice a s.oH.length c := by
  rcases h.own1.2 with ⟨e, hn⟩ | ⟨g, cap, cur, e, _⟩
  · exact ⟨none, 0, by rw [e, hn]⟩
  · exact ⟨_, _, e⟩
/-- a word of a memory is set -/
theorem MS.setLow (h : MS p w0 vs s w) {g c : Nat} (hv : vs 2 = .slice (some ⟨g, 0, none⟩) s.lw.length c) (j : Nat) (x : Int) : MS p w0 vs { s with lw := s.lw.set j x } (w.setCell ⟨g, j, none⟩ (intV x)) := by
  have ho := h.own2
  rw [hv] at ho
  obtain ⟨h1, h2⟩ := ho.stored j (intV x)
  have hm := h.mem.turn 2 ⟨2, vs 2, (s.lw.set j x).map intV⟩ (w' := w.setCell ⟨g, j, none⟩ (intV x)) (by show World.grownBy _ _ (vs 2).ownBlock; rw [hv]; exact h2) (by dsimp only; rw [hv, List.map_set]; simpa using h1) (fun b e => .inl e)
  refine ⟨?_, h.old.setCell (own_ge h 2 g (by show (vs 2).ownBlock = _; rw [hv]; rfl)) _, h.regs, fun o ho => ?_⟩
  rotate_left
  · obtain ⟨h1, h2, h3⟩ := h.ext o ho
    exact ⟨(Below.heap_setCell w ⟨g, j, none⟩ _ p.X (fun e => h3 2 (by rw [hv, e]; rfl))).trans h1, h2, h3⟩
  have e : (fun j' => if j' = 2 then (⟨2, vs 2, (s.lw.set j x).map intV⟩ : Rw) else rowsF vs s j') = rowsF vs { s with lw := s.lw.set j x } := by
    funext i
    match i with
    | 0 => rfl
    | 1 => rfl
    | 2 => rfl
    | 3 => rfl
    | 4 => rfl
  rw [e] at hm
  exact hm
theorem MS.setHigh (h : MS p w0 vs s w) {g c : Nat} (hv : vs 3 = .slice (some ⟨g, 0, none⟩) s.hw.length c) (j : Nat) (x : Int) : MS p w0 vs { s with hw := s.hw.set j x } (w.setCell ⟨g, j, none⟩ (intV x)) := by
  have ho := h.own3
  rw [hv] at ho
  obtain ⟨h1, h2⟩ := ho.stored j (intV x)
  have hm := h.mem.turn 3 ⟨2, vs 3, (s.hw.set j x).map intV⟩ (w' := w.setCell ⟨g, j, none⟩ (intV x)) (by show World.grownBy _ _ (vs 3).ownBlock; rw [hv]; exact h2) (by dsimp only; rw [hv, List.map_set]; simpa using h1) (fun b e => .inl e)
  refine ⟨?_, h.old.setCell (own_ge h 3 g (by show (vs 3).ownBlock = _; rw [hv]; rfl)) _, h.regs, fun o ho => ?_⟩
  rotate_left
  · obtain ⟨h1, h2, h3⟩ := h.ext o ho
    exact ⟨(Below.heap_setCell w ⟨g, j, none⟩ _ p.X (fun e => h3 3 (by rw [hv, e]; rfl))).trans h1, h2, h3⟩
  have e : (fun j' => if j' = 3 then (⟨2, vs 3, (s.hw.set j x).map intV⟩ : Rw) else rowsF vs s j') = rowsF vs { s with hw := s.hw.set j x } := by
    funext i
    match i with
    | 0 => rfl
    | 1 => rfl
    | 2 => rfl
    | 3 => rfl
    | 4 => rfl
  rw [e] at hm
  exact hm
/-- where a memory's words lie -/
theorem words_at {N : Nat} {v : Value} {l : List Int} (ho : w.ownsRow N 2 1 v l.length (l.map intV)) : ∃ a c, v = .slice a l.length c ∧ (0 < l.length → ∃ g, a = some ⟨g, 0, none⟩ ∧ ∀ i, i < l.length → w.cell? ⟨g, i, none⟩ = some (intV (l.getD i 0)) ∧ w.frozen? ⟨g, i, none⟩ = false) := by
  rcases ho.2 with ⟨e, hn⟩ | ⟨g, cap, cur, e, hB, _, h1, h2, _⟩
  · exact ⟨none, 0, by rw [e, hn], fun h => by omega⟩
  · refine ⟨some ⟨g, 0, none⟩, cap, e, fun _ => ⟨g, rfl, fun i hi => ?_⟩⟩
    rw [e] at ho
    refine ⟨?_, ho.frozenAt i⟩
    rw [ho.cellAt _ (by omega)]
    simp [hi]
end
end Go.Proofs.Ytcfibghjekimkaa.mac
