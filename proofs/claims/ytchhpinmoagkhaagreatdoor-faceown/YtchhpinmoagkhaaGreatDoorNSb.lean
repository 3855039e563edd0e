/- What the reference's Same answers of two nodes of one tree: a contract. -/
import Derived.Test.YtchhpinmoagkhaaGreatDoorProg
import Derived.WalkKit
import Derived.WalkLawsBesides
import Derived.Outline
import Derived.WalkSmall
import Derived.BigQuiet
import Derived.Deep.QuietTactic
import Derived.Deep.RegionWith
import Derived.Test.YtchhpinmoagkhaaGreatDoorNSa
namespace Go.Proofs.YtchhpinmoagkhaaGreatDoor.syn
open Go.RowKit
set_option linter.unusedVariables false

theorem two_boxes {w wr : World} {x0 x1 x2 x3 y0 y1 y2 y3 : Value} {T : TypeId} (h : Below (w.heap.size + 2) ((w.alloc (.cells #[x0, x1, x2, x3] T)).alloc (.cells #[y0, y1, y2, y3] T)) wr) :
    wr.cell? ⟨w.heap.size, 3, none⟩ = some x3 ∧ wr.cell? ⟨w.heap.size + 1, 3, none⟩ = some y3 ∧ w.heap.size + 2 ≤ wr.heap.size ∧ Below w.heap.size w wr := by
  refine ⟨?_, ?_, ?_, ?_⟩
  · rw [h.cell (p := ⟨w.heap.size, 3, none⟩) (by simp)]; simp
  · rw [h.cell (p := ⟨w.heap.size + 1, 3, none⟩) (by simp)]; simp
  · have := h.size; simpa using this
  · exact (((Below.refl _ _).alloc (Nat.le_refl _) _).alloc (by simp) _).trans (h.mono (by omega))
theorem LiesAt.kid {w wr : World} {ks : List Tree} {g o : Nat} (hg : g < w.heap.size) (h : LiesAt (· < w.heap.size) w ks g o) (hb : Below w.heap.size w wr) {j : Nat} (hj : j < ks.length) :
    ∃ x0 x1 x2 x3, wr.cell? ⟨g, o + j * 4, none⟩ = some x0 ∧ wr.cell? ⟨g, o + j * 4 + 1, none⟩ = some x1 ∧ wr.cell? ⟨g, o + j * 4 + 2, none⟩ = some x2 ∧ wr.cell? ⟨g, o + j * 4 + 3, none⟩ = some x3 ∧ Lies (· < wr.heap.size) wr ks[j] (.agg #[x0, x1, x2, x3]) := by
  obtain ⟨v, ⟨x0, x1, x2, x3, rfl, c0, c1, c2, c3⟩, hl⟩ := (h.below hg hb).get j hj
  exact ⟨x0, x1, x2, x3, c0, c1, c2, c3, hl⟩
set_option maxRecDepth 100000 in
set_option maxHeartbeats 1000000 in
theorem rsame (t : Tree) (va vb : Value) (w : World) (ha : Lies (· < w.heap.size) w t va) (hb : Lies (· < w.heap.size) w t vb) :
    Calls Tryz.prog 11 #[va, vb] w fun e w' => e = .returned (.bool true) ∧ Below w.heap.size w w' := by
  have c24 : Tryz.prog.cellsOf 24 = 4 := by kernel_rfl
  match t with
  | .node k x m ks =>
    have ih : ∀ i (hi : i < ks.length) (va vb : Value) (w : World), Lies (· < w.heap.size) w ks[i] va → Lies (· < w.heap.size) w ks[i] vb → Calls Tryz.prog 11 #[va, vb] w fun e w' => e = .returned (.bool true) ∧ Below w.heap.size w w' :=
      fun i hi va vb w h1 h2 => rsame ks[i] va vb w h1 h2
    unfold Lies at ha hb
    obtain ⟨a, c, rfl, hl, hka⟩ := ha
    obtain ⟨b, d, rfl, _, hkb⟩ := hb
    go_enter Tryz.func11, Tryz.ntmps11
    go_wp2
    go_loopw [5] (fun i wr => ∃ j : Nat, j ≤ ks.length ∧ i = .int .i64 j ∧ Below (w.heap.size + 2) ((w.alloc (.cells #[.int .i64 k, .string x, .int .i64 m, .slice a ks.length c] 24)).alloc (.cells #[.int .i64 k, .string x, .int .i64 m, .slice b ks.length d] 24)) wr) (fun i _ => ks.length - (intOf i).toNat)
    case atStart => exact ⟨0, Nat.zero_le _, rfl, Below.refl _ _⟩
    case round =>
      obtain ⟨j, hj, rfl, hbr⟩ := hrel
      obtain ⟨q1, q2, hsz, hbw⟩ := two_boxes hbr
      by_cases hlt : j < ks.length
      · obtain ⟨g, o, rfl, hg, hat⟩ := hka (by intro e; rw [e] at hlt; simp at hlt)
        obtain ⟨g', o', rfl, hg', hat'⟩ := hkb (by intro e; rw [e] at hlt; simp at hlt)
        obtain ⟨x0, x1, x2, x3, c0, c1, c2, c3, hx⟩ := hat.kid hg hbw hlt
        obtain ⟨y0, y1, y2, y3, d0, d1, d2, d3, hy⟩ := hat'.kid hg' hbw hlt
        have hC := ih j hlt _ _ wr.drew hx.drew hy.drew
        go_wp2
        go_region_with (go_at_call 11; refine hC.mono ?_; rintro e w1 ⟨rfl, hb1⟩)
        all_goals
          go_wp2
          go_roundw
          case rel => exact ⟨j + 1, by omega, by go_num, hbr.drew.trans (hb1.mono hsz)⟩
          case measure => simp [intOf]; omega
      · go_wp2
        go_ret
        exact ⟨rfl, hbw⟩
termination_by SizeOf.sizeOf t
decreasing_by exact kid_lt hi
end Go.Proofs.YtchhpinmoagkhaaGreatDoor.syn
