/- How many nodes there are, and how deep: plain functions, and what the reference's Many, Deep and Fits answer. -/
import Derived.Test.YtchhpinmoagkhaaGreatDoorProg
import Derived.WalkKit
import Derived.WalkLawsBesides
import Derived.Outline
import Derived.WalkSmall
import Derived.BigQuiet
import Derived.Deep.QuietTactic
import Derived.Deep.RegionWith
import Derived.Test.YtchhpinmoagkhaaGreatDoorNSa
namespace Go.Proofs.YtchhpinmoagkhaaGreatDoor.syn
open Go.RowKit
set_option linter.unusedVariables false

mutual
/-- as the reference counts: up to a bound and a few -/
def manyT : Tree → Int → Int
  | .node _ _ _ ks, most => manyL ks 1 most
def manyL : List Tree → Int → Int → Int
  | [], k, _ => k
  | t :: r, k, most => if k ≤ most then manyL r (k + manyT t (most - k)) most else k
end
mutual
def deepT : Tree → Int → Int
  | .node _ _ _ ks, most => deepL ks 0 most + 1
def deepL : List Tree → Int → Int → Int
  | [], d, _ => d
  | t :: r, d, most => if 0 < most ∧ d ≤ most then deepL r (max d (deepT t (most - 1))) most else d
end
def fitsT (t : Tree) : Bool := if 500 < manyT t 500 then false else decide (deepT t 16 ≤ 16)
mutual
theorem manyT_bounds : ∀ (t : Tree) (most : Int), 0 ≤ most → 1 ≤ manyT t most ∧ manyT t most ≤ most + 1
  | .node _ _ _ ks, most, h => by
    unfold manyT
    exact manyL_bounds ks 1 most h (by omega) (by omega)
theorem manyL_bounds : ∀ (ks : List Tree) (k most : Int), 0 ≤ most → 1 ≤ k → k ≤ most + 1 → 1 ≤ manyL ks k most ∧ manyL ks k most ≤ most + 1
  | [], k, most, h, h1, h2 => by unfold manyL; exact ⟨h1, h2⟩
  | t :: r, k, most, h, h1, h2 => by
    unfold manyL
    split
    · have hm := manyT_bounds t (most - k) (by omega)
      exact manyL_bounds r _ most h (by omega) (by omega)
    · exact ⟨h1, h2⟩
end
mutual
theorem deepT_bounds : ∀ (t : Tree) (most : Int), 0 ≤ most → 1 ≤ deepT t most ∧ deepT t most ≤ most + 1
  | .node _ _ _ ks, most, h => by
    unfold deepT
    have := deepL_bounds ks 0 most h (by omega) (by omega)
    omega
theorem deepL_bounds : ∀ (ks : List Tree) (d most : Int), 0 ≤ most → 0 ≤ d → d ≤ most → 0 ≤ deepL ks d most ∧ deepL ks d most ≤ most
  | [], d, most, h, h1, h2 => by unfold deepL; exact ⟨h1, h2⟩
  | t :: r, d, most, h, h1, h2 => by
    unfold deepL
    split
    · rename_i hc
      have hm := deepT_bounds t (most - 1) (by omega)
      exact deepL_bounds r _ most h (by omega) (by omega)
    · exact ⟨h1, h2⟩
end
theorem one_box {w wr : World} {x0 x1 x2 x3 : Value} {T : TypeId} (h : Below (w.heap.size + 1) (w.alloc (.cells #[x0, x1, x2, x3] T)) wr) :
    wr.cell? ⟨w.heap.size, 0, none⟩ = some x0 ∧ wr.cell? ⟨w.heap.size, 1, none⟩ = some x1 ∧ wr.cell? ⟨w.heap.size, 2, none⟩ = some x2 ∧ wr.cell? ⟨w.heap.size, 3, none⟩ = some x3 ∧ w.heap.size + 1 ≤ wr.heap.size ∧ Below w.heap.size w wr := by
  refine ⟨?_, ?_, ?_, ?_, ?_, ?_⟩
  · rw [h.cell (p := ⟨w.heap.size, 0, none⟩) (by simp)]; simp
  · rw [h.cell (p := ⟨w.heap.size, 1, none⟩) (by simp)]; simp
  · rw [h.cell (p := ⟨w.heap.size, 2, none⟩) (by simp)]; simp
  · rw [h.cell (p := ⟨w.heap.size, 3, none⟩) (by simp)]; simp
  · have := h.size; simpa using this
  · exact ((Below.refl _ _).alloc (Nat.le_refl _) _).trans (h.mono (by omega))
theorem LiesAt.kid1 {w wr : World} {ks : List Tree} {g o : Nat} (hg : g < w.heap.size) (h : LiesAt (· < w.heap.size) w ks g o) (hb : Below w.heap.size w wr) {j : Nat} (hj : j < ks.length) :
    ∃ x0 x1 x2 x3, wr.cell? ⟨g, o + j * 4, none⟩ = some x0 ∧ wr.cell? ⟨g, o + j * 4 + 1, none⟩ = some x1 ∧ wr.cell? ⟨g, o + j * 4 + 2, none⟩ = some x2 ∧ wr.cell? ⟨g, o + j * 4 + 3, none⟩ = some x3 ∧ Lies (· < wr.heap.size) wr ks[j] (.agg #[x0, x1, x2, x3]) := by
  obtain ⟨v, ⟨x0, x1, x2, x3, rfl, c0, c1, c2, c3⟩, hl⟩ := (h.below hg hb).get j hj
  exact ⟨x0, x1, x2, x3, c0, c1, c2, c3, hl⟩
theorem ret_int {x y : Int} (h : x = y) : Ending.returned (.int .i64 x) = .returned (.int .i64 y) := by rw [h]
set_option maxRecDepth 100000 in
set_option maxHeartbeats 1000000 in
theorem rmany (t : Tree) (va : Value) (w : World) (most : Int) (h0 : 0 ≤ most) (h5 : most ≤ 500) (ha : Lies (· < w.heap.size) w t va) :
    Calls Tryz.prog 61 #[va, .int .i64 most] w fun e w' => e = .returned (.int .i64 (manyT t most)) ∧ Below w.heap.size w w' := by
  have c24 : Tryz.prog.cellsOf 24 = 4 := by kernel_rfl
  match t with
  | .node k x m ks =>
    have ih : ∀ i (hi : i < ks.length) (va : Value) (w : World) (most : Int), 0 ≤ most → most ≤ 500 → Lies (· < w.heap.size) w ks[i] va → Calls Tryz.prog 61 #[va, .int .i64 most] w fun e w' => e = .returned (.int .i64 (manyT ks[i] most)) ∧ Below w.heap.size w w' :=
      fun i hi va w most h1 h2 h3 => rmany ks[i] va w most h1 h2 h3
    unfold Lies at ha
    obtain ⟨a, c, rfl, hl, hka⟩ := ha
    obtain ⟨V, hV⟩ : ∃ V, V = manyT (.node k x m ks) most := ⟨_, rfl⟩
    rw [← hV]
    have HV : Hid (manyL (ks.drop 0) 1 most = V) := by show _ = _; rw [hV]; unfold manyT; rfl
    clear hV
    go_enter Tryz.func61, Tryz.ntmps61
    go_wp2
    go_loopw [5, 6] (fun kk i wr => ∃ (j : Nat) (n : Int), j ≤ ks.length ∧ i = .int .i64 j ∧ kk = .int .i64 n ∧ 1 ≤ n ∧ n ≤ most + 1 ∧ Hid (manyL (ks.drop j) n most = V) ∧ Below (w.heap.size + 1) (w.alloc (.cells #[.int .i64 k, .string x, .int .i64 m, .slice a ks.length c] 24)) wr) (fun _ i _ => ks.length - (intOf i).toNat)
    case atStart => exact ⟨0, 1, Nat.zero_le _, rfl, rfl, by omega, by omega, HV.out, Below.refl _ _⟩
    case round =>
      obtain ⟨j, n, hj, rfl, rfl, hn1, hn2, HN, hbr⟩ := hrel
      obtain ⟨q0, q1, q2, q3, hsz, hbw⟩ := one_box hbr
      by_cases hlt : j < ks.length
      · obtain ⟨g, o, rfl, hg, hat⟩ := hka (by intro e; rw [e] at hlt; simp at hlt)
        obtain ⟨x0, x1, x2, x3, c0, c1, c2, c3, hx⟩ := hat.kid1 hg hbw hlt
        have HD : Hid (manyL (ks.drop j) n most = if n ≤ most then manyL (ks.drop (j + 1)) (n + manyT ks[j] (most - n)) most else n) := by
          show _ = _
          rw [List.drop_eq_getElem_cons hlt, manyL]
        by_cases hle : n ≤ most
        · have hC := ih j hlt _ wr (most - n) (by omega) (by omega) hx
          have hb := manyT_bounds ks[j] (most - n) (by omega)
          have HN' : Hid (manyL (ks.drop (j + 1)) (n + manyT ks[j] (most - n)) most = V) := by show _ = _; rw [← HN.out, HD.out, if_pos hle]
          generalize manyT ks[j] (most - n) = mm at hC hb HN'
          clear HD HN
          go_wp2_with (go_at_call 61; refine hC.mono ?_; rintro e w1 ⟨rfl, hb1⟩)
          go_roundw
          case rel => exact ⟨j + 1, n + mm, by omega, by go_num, by go_num, by omega, by omega, HN'.out, hbr.trans (hb1.mono hsz)⟩
          case measure => simp [intOf]; omega
        · have HE : Hid (n = V) := by show _ = _; rw [← HN.out, HD.out, if_neg hle]
          clear HD HN
          go_wp2
          go_ret
          exact ⟨ret_int HE.out, hbw⟩
      · have HE : Hid (n = V) := by
          show _ = _
          rw [← HN.out, List.drop_eq_nil_of_le (by omega), manyL]
        clear HN
        go_wp2
        go_ret
        exact ⟨ret_int HE.out, hbw⟩
termination_by SizeOf.sizeOf t
decreasing_by exact kid_lt hi
set_option maxRecDepth 100000 in
set_option maxHeartbeats 1000000 in
theorem rdeep (t : Tree) (va : Value) (w : World) (most : Int) (h0 : 0 ≤ most) (h5 : most ≤ 500) (ha : Lies (· < w.heap.size) w t va) :
    Calls Tryz.prog 62 #[va, .int .i64 most] w fun e w' => e = .returned (.int .i64 (deepT t most)) ∧ Below w.heap.size w w' := by
  have c24 : Tryz.prog.cellsOf 24 = 4 := by kernel_rfl
  match t with
  | .node k x m ks =>
    have ih : ∀ i (hi : i < ks.length) (va : Value) (w : World) (most : Int), 0 ≤ most → most ≤ 500 → Lies (· < w.heap.size) w ks[i] va → Calls Tryz.prog 62 #[va, .int .i64 most] w fun e w' => e = .returned (.int .i64 (deepT ks[i] most)) ∧ Below w.heap.size w w' :=
      fun i hi va w most h1 h2 h3 => rdeep ks[i] va w most h1 h2 h3
    unfold Lies at ha
    obtain ⟨a, c, rfl, hl, hka⟩ := ha
    obtain ⟨V, hV⟩ : ∃ V, V = deepT (.node k x m ks) most := ⟨_, rfl⟩
    rw [← hV]
    have HV : Hid (deepL (ks.drop 0) 0 most + 1 = V) := by show _ = _; rw [hV]; unfold deepT; rfl
    clear hV
    go_enter Tryz.func62, Tryz.ntmps62
    go_wp2
    go_loopw [5, 6] (fun kk i wr => ∃ (j : Nat) (n : Int), j ≤ ks.length ∧ i = .int .i64 j ∧ kk = .int .i64 n ∧ 0 ≤ n ∧ n ≤ most ∧ Hid (deepL (ks.drop j) n most + 1 = V) ∧ Below (w.heap.size + 1) (w.alloc (.cells #[.int .i64 k, .string x, .int .i64 m, .slice a ks.length c] 24)) wr) (fun _ i _ => ks.length - (intOf i).toNat)
    case atStart => exact ⟨0, 0, Nat.zero_le _, rfl, rfl, by omega, by omega, HV.out, Below.refl _ _⟩
    case round =>
      obtain ⟨j, n, hj, rfl, rfl, hn1, hn2, HN, hbr⟩ := hrel
      obtain ⟨q0, q1, q2, q3, hsz, hbw⟩ := one_box hbr
      by_cases hlt : j < ks.length
      · obtain ⟨g, o, rfl, hg, hat⟩ := hka (by intro e; rw [e] at hlt; simp at hlt)
        obtain ⟨x0, x1, x2, x3, c0, c1, c2, c3, hx⟩ := hat.kid1 hg hbw hlt
        have HD : Hid (deepL (ks.drop j) n most = if 0 < most ∧ n ≤ most then deepL (ks.drop (j + 1)) (max n (deepT ks[j] (most - 1))) most else n) := by
          show _ = _
          rw [List.drop_eq_getElem_cons hlt, deepL]
        by_cases hle : 0 < most
        · have hC := ih j hlt _ wr (most - 1) (by omega) (by omega) hx
          have hb := deepT_bounds ks[j] (most - 1) (by omega)
          have HN' : Hid (deepL (ks.drop (j + 1)) (max n (deepT ks[j] (most - 1))) most + 1 = V) := by show _ = _; rw [← HN.out, HD.out, if_pos ⟨hle, hn2⟩]
          generalize deepT ks[j] (most - 1) = mm at hC hb HN'
          have emax : max n mm = if n < mm then mm else n := by rw [Int.max_def]; split <;> split <;> omega
          rw [emax] at HN'
          clear emax
          clear HD HN
          go_wp2_with (go_at_call 62; refine hC.mono ?_; rintro e w1 ⟨rfl, hb1⟩)
          go_roundw
          case rel => exact ⟨j + 1, if n < mm then mm else n, by omega, by go_num, rfl, by split <;> omega, by split <;> omega, HN'.out, hbr.trans (hb1.mono hsz)⟩
          case measure => simp [intOf]; omega
        · have HE : Hid (n + 1 = V) := by show _ = _; rw [← HN.out, HD.out, if_neg (fun h => hle h.1)]
          clear HD HN
          go_wp2
          go_ret
          exact ⟨ret_int HE.out, hbw⟩
      · have HE : Hid (n + 1 = V) := by
          show _ = _
          rw [← HN.out, List.drop_eq_nil_of_le (by omega), deepL]
        clear HN
        go_wp2
        go_ret
        exact ⟨ret_int HE.out, hbw⟩
termination_by SizeOf.sizeOf t
decreasing_by exact kid_lt hi
set_option maxRecDepth 100000 in
set_option maxHeartbeats 1000000 in
theorem rfits (t : Tree) (va : Value) (w : World) (ha : Lies (· < w.heap.size) w t va) :
    Calls Tryz.prog 27 #[va] w fun e w' => e = .returned (.bool (fitsT t)) ∧ Below w.heap.size w w' := by
  have c24 : Tryz.prog.cellsOf 24 = 4 := by kernel_rfl
  have hs := ha
  cases t with
  | node k x m ks =>
    unfold Lies at hs
    obtain ⟨a, c, rfl, _, _⟩ := hs
    have ha1 : Lies (· < (w.alloc (.cells #[.int .i64 k, .string x, .int .i64 m, .slice a ks.length c] 24)).heap.size) (w.alloc (.cells #[.int .i64 k, .string x, .int .i64 m, .slice a ks.length c] 24)) (.node k x m ks) (.agg #[.int .i64 k, .string x, .int .i64 m, .slice a ks.length c]) := ha.below ((Below.refl _ _).alloc (Nat.le_refl _) _)
    have hM := rmany (.node k x m ks) _ _ 500 (by omega) (by omega) ha1
    have hD := fun (w1 : World) (h : Lies (· < w1.heap.size) w1 (.node k x m ks) (.agg #[.int .i64 k, .string x, .int .i64 m, .slice a ks.length c])) => rdeep (.node k x m ks) _ w1 16 (by omega) (by omega) h
    unfold fitsT
    generalize manyT (.node k x m ks) 500 = mm at hM ⊢
    generalize deepT (.node k x m ks) 16 = dd at hD ⊢
    by_cases h5 : 500 < mm
    · rw [if_pos h5]
      go_enter Tryz.func27, Tryz.ntmps27
      go_wp2_with (go_at_call 61; refine hM.mono ?_; rintro e w1 ⟨rfl, hb1⟩)
      go_ret
      exact ⟨rfl, ((Below.refl _ _).alloc (Nat.le_refl _) _).trans (hb1.mono (by simp))⟩
    · rw [if_neg h5]
      go_enter Tryz.func27, Tryz.ntmps27
      go_wp2_with (first
        | (go_at_call 61; refine hM.mono ?_; rintro e w1 ⟨rfl, hb1⟩; have hbb : Below (w.heap.size + 1) (w.alloc (.cells #[.int .i64 k, .string x, .int .i64 m, .slice a ks.length c] 24)) w1 := hb1.mono (by simp); obtain ⟨q0, q1, q2, q3, hsz, hbw⟩ := one_box hbb)
        | (go_at_call 62; refine (hD _ (ha1.below hb1)).mono ?_; rintro e w2 ⟨rfl, hb2⟩))
      go_ret
      exact ⟨rfl, hbw.trans (hb2.mono (by omega))⟩
end Go.Proofs.YtchhpinmoagkhaaGreatDoor.syn
