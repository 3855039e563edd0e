/- The law LexTells, once the program's Scan answers what the reference's does. -/
import Derived.Test.YtaejohijmlhfiaaDoorProg
import Derived.WalkKit
import Derived.WalkLawsBesides
import Derived.Outline
import Derived.WalkSmall
import Derived.BigQuiet
import Derived.Deep.QuietTactic
import Derived.Test.YtaejohijmlhfiaaDoorLexRefC
namespace Go.Proofs.YtaejohijmlhfiaaDoor.lexs
open Go.RowKit
set_option linter.unusedVariables false

/-- what a scan answers, in the worlds that H names -/
def Scans (H : World → Prop) (F : Nat) (s : ByteArray) : Prop := ∀ w : World, H w → Calls Tryd.prog F #[.string s] w fun e w' => ∃ v, e = .returned (.tuple #[v, .agg #[.int .i64 (scan s.data.toList).code, .int .i64 (scan s.data.toList).place]]) ∧
      w'.ownsRow w.heap.size 29 3 v (scan s.data.toList).toks.length (cellsOf (scan s.data.toList).toks) ∧ Below w.heap.size w w'

theorem own_shape {w : World} {B : Nat} {e : TypeId} {k n : Nat} {v : Value} {xs : List Value} (h : w.ownsRow B e k v n xs) : ∃ a c, v = .slice a n c ∧ n ≤ 9223372036854775807 ∧ (0 < n → ∃ g, a = some ⟨g, 0, none⟩) := by
  rcases h.2 with ⟨rfl, rfl⟩ | ⟨g, cap, cur, rfl, _, _, h1, h2, _⟩
  · exact ⟨none, 0, rfl, by omega, fun h => by omega⟩
  · exact ⟨some ⟨g, 0, none⟩, cap, rfl, by unfold maxLen at h2; omega, fun _ => ⟨g, rfl⟩⟩
theorem cellsOf_at (l : List Tok) (k : Nat) (hk : k < l.length) : (cellsOf l)[k * 3]? = some (.int .i64 l[k].kind) ∧ (cellsOf l)[k * 3 + 1]? = some (.string ⟨l[k].text.toArray⟩) ∧ (cellsOf l)[k * 3 + 2]? = some (.int .i64 (l[k].at_ : Int)) := by
  induction l generalizing k with
  | nil => simp at hk
  | cons t l ih =>
    cases k with
    | zero => simp [cellsOf]
    | succ k =>
      have h := ih k (by simpa using hk)
      have e : cellsOf (t :: l) = [.int .i64 t.kind, .string ⟨t.text.toArray⟩, .int .i64 (t.at_ : Int)] ++ cellsOf l := rfl
      have e3 : (k + 1) * 3 = k * 3 + 3 := by omega
      rw [e, e3]
      refine ⟨?_, ?_, ?_⟩
      · rw [List.getElem?_append_right (by simp)]; simpa using h.1
      · rw [List.getElem?_append_right (by simp)]; simpa using h.2.1
      · rw [List.getElem?_append_right (by simp)]; simpa using h.2.2
theorem tok_cells {w : World} {B : Nat} {e : TypeId} {g n cap : Nat} {l : List Tok} (h : w.ownsRow B e 3 (.slice (some ⟨g, 0, none⟩) n cap) n (cellsOf l)) {k : Nat} (hk : k < l.length) :
    w.cell? ⟨g, k * 3, none⟩ = some (.int .i64 l[k].kind) ∧ w.cell? ⟨g, k * 3 + 1, none⟩ = some (.string ⟨l[k].text.toArray⟩) ∧ w.cell? ⟨g, k * 3 + 2, none⟩ = some (.int .i64 (l[k].at_ : Int)) := by
  have ha := cellsOf_at l k hk
  have hn : n = l.length := by have := h.1; rw [cellsOf_length] at this; omega
  exact ⟨(h.cellAt _ (by omega)).trans ha.1, (h.cellAt _ (by omega)).trans ha.2.1, (h.cellAt _ (by omega)).trans ha.2.2⟩
/-- a box more, and a call behind it -/
theorem below_next {w a b : World} {o : Obj} (h : Below w.heap.size w a) (h2 : Below (a.alloc o).heap.size (a.alloc o) b) : Below w.heap.size w b :=
  (h.alloc h.size o).trans (h2.mono (by have := h.size; rw [World.size_alloc]; omega))
theorem below_last {w a b : World} (h : Below w.heap.size w a) (h2 : Below a.heap.size a b) : Below w.heap.size w b := h.trans (h2.mono h.size)
theorem boxes' {w1 w2 : World} {x y : Value} {T : TypeId} (h : Below (w1.alloc (.cells #[x, y] T)).heap.size (w1.alloc (.cells #[x, y] T)) w2) :
    w2.cell? ⟨w1.heap.size, 0, none⟩ = some x ∧ w2.cell? ⟨w1.heap.size, 1, none⟩ = some y ∧ w1.heap.size < w2.heap.size := by
  rw [World.size_alloc] at h
  have := boxes h
  exact ⟨this.1, this.2.1, this.2.2.2.2⟩
set_option maxRecDepth 100000 in
set_option maxHeartbeats 1000000 in
theorem lexTells_walk {H : World → Prop} (s : ByteArray) (hc : Scans H 5 s) (w : World) (hw : H w) :
    Calls Tryd.prog 3 #[.string s] w fun e w' => e = .returned (.bool true) ∧ Below w.heap.size w w' := by
  have hr : Scans (fun _ => True) 6 s := fun w _ => rscan_any s w
  unfold Scans at hc hr
  obtain ⟨R, hR⟩ : ∃ R, R = scan s.data.toList := ⟨_, rfl⟩
  rw [← hR] at hc hr
  clear hR
  have c29 : Tryd.prog.cellsOf 29 = 3 := by kernel_rfl
  go_enter Tryd.func3, Tryd.ntmps3
  go_wp2_with (first
    | (go_at_call 5; refine (hc _ hw).mono ?_; rintro e w1 ⟨v1, rfl, ho1, hb1⟩; obtain ⟨a1, cp1, rfl, hm1, hg1⟩ := own_shape ho1)
    | (go_at_call 6; refine (hr _ trivial).mono ?_; rintro e w2 ⟨v2, rfl, ho2, hb2⟩; obtain ⟨q0, q1, hB2⟩ := boxes' hb2; obtain ⟨a2, cp2, rfl, hm2, hg2⟩ := own_shape ho2))
  go_loopw [7] (fun i wr => ∃ k : Nat, k ≤ R.toks.length ∧ i = .int .i64 k ∧ Below w2.heap.size w2 wr) (fun i _ => R.toks.length - (intOf i).toNat)
  case atStart => exact ⟨0, Nat.zero_le _, rfl, (Below.refl _ _).alloc (Nat.le_refl _) _⟩
  case round =>
    obtain ⟨k, hk, rfl, hbr⟩ := hrel
    by_cases hlt : k < R.toks.length
    · obtain ⟨g1, rfl⟩ := hg1 (by omega)
      obtain ⟨g2, rfl⟩ := hg2 (by omega)
      have y := tok_cells (own_below (own_below (ho1.alloc _) hb2) hbr) hlt
      have z := tok_cells (own_below ho2 hbr) hlt
      obtain ⟨y0, y1, y2⟩ := y
      obtain ⟨z0, z1, z2⟩ := z
      generalize R.toks[k].kind = tk at *
      generalize R.toks[k].text = tx at *
      generalize R.toks[k].at_ = ta at *
      go_wp2
      go_quiet (fail)
      go_wp2
      go_roundw
      case rel => exact ⟨k + 1, by omega, by go_num, below_drewN hbr _⟩
      case measure => simp [intOf]; omega
    · go_wp2
      go_ret
      exact ⟨rfl, below_last (below_next hb1 hb2) hbr⟩
end Go.Proofs.YtaejohijmlhfiaaDoor.lexs
