/- A node that came in as an argument: the tree that it is read as, and where it lies. -/
import Derived.Test.YtkoomoemkffjkaaGreatDoorNP08
import Derived.Test.YtkoomoemkffjkaaGreatDoorNP09
import Derived.Test.YtkoomoemkffjkaaGreatDoorNP10
import Derived.Test.YtkoomoemkffjkaaGreatDoorNP11
import Derived.Test.YtkoomoemkffjkaaGreatDoorNP14
set_option linter.unusedVariables false
set_option linter.unusedSimpArgs false
set_option maxRecDepth 100000
namespace Go.Proofs.YtkoomoemkffjkaaGreatDoor
namespace pr
open Go.RowKit
open Go.Proofs.YtkoomoemkffjkaaGreatDoor.syn Go.Proofs.YtkoomoemkffjkaaGreatDoor.face Go.Proofs.YtkoomoemkffjkaaGreatDoor.chk
theorem text2_size {x : ByteArray} (h : textsR x 2 = true) : x.size ≤ 1000 := by
  have h1 := spaced_len h
  have hl := cutL_len x.data.toList
  unfold spacedR at h1
  rw [size_data]
  rcases hc : cutL x.data.toList with ⟨u, _ | v⟩
  · rw [hc] at h1
    dsimp only at h1
    omega
  · rw [hc] at h1 hl
    dsimp only at h1 hl
    rw [hl]
    simp only [List.length_append, List.length_cons, List.length_nil] at h1 ⊢
    omega
theorem text1_size {x : ByteArray} (h : textsR x 1 = true) : x.size ≤ 1000 := by
  have : isName x = true := h
  have := nm_len this
  rw [size_data]
  omega
theorem text0_size {x : ByteArray} (h : textsR x 0 = true) : x.size ≤ 1000 := by
  have : (x.size == 0) = true := h
  have : x.size = 0 := by simpa using this
  omega
theorem op_num {t : Tree} (h : isT t = true) (h19 : kindT t = 19) : 1 ≤ numT t ∧ numT t ≤ 9 := by
  obtain ⟨k, x, m, ks⟩ := t
  obtain rfl : k = 19 := h19
  rw [isT_node] at h
  simp only [Bool.and_eq_true] at h
  obtain ⟨h1, h2, _⟩ := head_facts h.1
  exact ⟨h1, h2⟩
theorem len01 {α : Type} {l : List α} (h2 : (l.length : Int) ≤ 1) : l = [] ∨ ∃ a, l = [a] := by
  match l, h2 with
  | [], _ => exact .inl rfl
  | [a], _ => exact .inr ⟨a, rfl⟩
theorem len23 {α : Type} {l : List α} (h : (2 : Int) ≤ l.length) (h2 : (l.length : Int) ≤ 3) : (∃ a b, l = [a, b]) ∨ ∃ a b c, l = [a, b, c] := by
  match l, h, h2 with
  | [a, b], _, _ => exact .inl ⟨a, b, rfl⟩
  | [a, b, c], _, _ => exact .inr ⟨a, b, c, rfl⟩
set_option maxHeartbeats 4000000 in
theorem show_ok : ∀ t : Tree, isT t = true → cntT t ≤ 500 → ShowOk t
  | .node k x m ks, h, hc => by
    have hsh := show_len _ h
    rw [isT_node] at h
    simp only [Bool.and_eq_true] at h
    obtain ⟨hh, hL⟩ := h
    have hk : ∀ t ∈ ks, ShowOk t := fun t ht => show_ok t (isL_mem hL ht) (kid_cnt hc ht)
    have hz : ∀ t ∈ ks, (showT t).length ≤ 50000 := fun t ht => by
      have h1 := show_len t (isL_mem hL ht)
      have h2 := kid_cnt hc ht
      omega
    have hop : ∀ t ∈ ks, kindT t = 19 → 1 ≤ numT t ∧ numT t ≤ 9 := fun t ht => op_num (isL_mem hL ht)
    have hsum : sum8 (showL ks) ≤ 60000 := by
      have := showL_sum ks (fun t ht => isL_mem hL ht)
      unfold cntT at hc
      omega
    clear hsh hL hc
    intro w va hl
    rw [showT_node]
    have hl2 := hl
    unfold Lies at hl2
    obtain ⟨a, c, rfl, -, -⟩ := hl2
    obtain ⟨h1, h2, h3, h4, h5⟩ := head_facts hh
    have hk21 : 1 ≤ k ∧ k ≤ 21 := by
      unfold headR at hh
      simp only [Bool.and_eq_true, decide_eq_true_eq] at hh
      exact hh.1.1.1.1.1
    clear hh
    rcases kinds21 hk21 with rfl | rfl | rfl | rfl | rfl | rfl | rfl | rfl | rfl | rfl | rfl | rfl | rfl | rfl | rfl | rfl | rfl | rfl | rfl | rfl | rfl
    · obtain rfl : m = 0 := Int.le_antisymm h2 h1
      exact rShow1 w hl hk hsum (text1_size h5)
    · obtain rfl : m = 0 := Int.le_antisymm h2 h1
      obtain rfl := len0 (h4.resolve_left (by decide))
      exact rShow2 w hl (text1_size h5)
    · have h7 : (ks.length : Int) ≤ 1 := h4.resolve_left (by decide)
      rcases len01 h7 with rfl | ⟨t, rfl⟩
      · cases dp : decide (2 ≤ m % 4)
        · exact rShow3a0 w hl (text1_size h5) h1 dp
        · exact rShow3b0 w hl (text1_size h5) h1 dp
      · rw [showL_cons, showL_nil]
        cases dp : decide (2 ≤ m % 4)
        · exact rShow3a1 w hl (hk t (by simp)) (hz t (by simp)) (text1_size h5) h1 dp
        · exact rShow3b1 w hl (hk t (by simp)) (hz t (by simp)) (text1_size h5) h1 dp
    · obtain ⟨l, b, rfl⟩ := split_last ks h3
      have hll : (l ++ [b]).length = l.length + 1 := by simp
      rw [hll] at hl ⊢
      have hb1 : showL [b] = [showT b] := by rw [showL_cons, showL_nil]
      have hsl : sum8 (showL l) ≤ 60000 := by
        rw [showL_app, hb1, sum8_split] at hsum
        omega
      have hkl : ∀ t ∈ l, ShowOk t := fun t ht => hk t (List.mem_append_left _ ht)
      cases dp : decide (2 ≤ m % 4)
      · cases d4 : decide (4 ≤ m)
        · exact rShow4ac w hl hkl hsl (hk b (by simp)) (hz b (by simp)) (text1_size h5) h1 h2 dp d4
        · exact rShow4ad w hl hkl hsl (hk b (by simp)) (hz b (by simp)) (text1_size h5) h1 h2 dp d4
      · cases d4 : decide (4 ≤ m)
        · exact rShow4bc w hl hkl hsl (hk b (by simp)) (hz b (by simp)) (text1_size h5) h1 h2 dp d4
        · exact rShow4bd w hl hkl hsl (hk b (by simp)) (hz b (by simp)) (text1_size h5) h1 h2 dp d4
    · obtain rfl := len0 (h4.resolve_left (by decide))
      exact rShow5 w hl (text1_size h5) h1 h2
    · obtain rfl : m = 0 := Int.le_antisymm h2 h1
      by_cases hn : ks.length = 0
      · exact rShow6a w hl hk hsum hn
      · exact rShow6b w hl hk hsum hn
    · obtain ⟨t, rfl⟩ := len1 h3 (h4.resolve_left (by decide))
      rw [showL_cons, showL_nil]
      exact rShow7 w hl (hk t (by simp)) (hz t (by simp)) (text1_size h5) h1 h2
    · obtain rfl : m = 0 := Int.le_antisymm h2 h1
      obtain ⟨t, u, rfl⟩ := len2 h3 (h4.resolve_left (by decide))
      rw [showL_cons, showL_cons, showL_nil]
      exact rShow8 w hl (hk t (by simp)) (hz t (by simp)) (hk u (by simp)) (hz u (by simp))
    · obtain rfl : m = 0 := Int.le_antisymm h2 h1
      obtain ⟨t, rfl⟩ := len1 h3 (h4.resolve_left (by decide))
      rw [showL_cons, showL_nil]
      exact rShow9 w hl (hk t (by simp)) (hz t (by simp))
    · obtain rfl : m = 0 := Int.le_antisymm h2 h1
      have h6 : (2 : Int) ≤ ks.length := h3
      have h7 : (ks.length : Int) ≤ 3 := h4.resolve_left (by decide)
      rcases len23 h6 h7 with ⟨t, u, rfl⟩ | ⟨t, u, v, rfl⟩
      · rw [showL_cons, showL_cons, showL_nil]
        exact rShow10a w hl (hk t (by simp)) (hz t (by simp)) (hk u (by simp)) (hz u (by simp))
      · rw [showL_cons, showL_cons, showL_cons, showL_nil]
        exact rShow10b w hl (hk t (by simp)) (hz t (by simp)) (hk u (by simp)) (hz u (by simp)) (hk v (by simp)) (hz v (by simp))
    · obtain rfl : m = 0 := Int.le_antisymm h2 h1
      obtain ⟨t, u, rfl⟩ := len2 h3 (h4.resolve_left (by decide))
      rw [showL_cons, showL_cons, showL_nil]
      exact rShow11 w hl (hk t (by simp)) (hz t (by simp)) (hk u (by simp)) (hz u (by simp))
    · obtain ⟨t, rfl⟩ := len1 h3 (h4.resolve_left (by decide))
      rw [showL_cons, showL_nil]
      exact rShow12 w hl (hk t (by simp)) (hz t (by simp)) (text0_size h5) h1 h2
    · obtain ⟨t, rfl⟩ := len1 h3 (h4.resolve_left (by decide))
      rw [showL_cons, showL_nil]
      exact rShow13 w hl (hk t (by simp)) (hz t (by simp)) (text0_size h5) h1 h2
    · obtain rfl : m = 0 := Int.le_antisymm h2 h1
      obtain ⟨t, rfl⟩ := len1 h3 (h4.resolve_left (by decide))
      rw [showL_cons, showL_nil]
      exact rShow14 w hl (hk t (by simp)) (hz t (by simp))
    · obtain rfl := len0 (h4.resolve_left (by decide))
      cases dp : decide (2 ≤ m % 4)
      · exact rShow15b w hl h1 h2 dp
      · exact rShow15a w hl h1 h2 dp
    · obtain rfl : m = 0 := Int.le_antisymm h2 h1
      obtain rfl := len0 (h4.resolve_left (by decide))
      exact rShow16 w hl (text2_size h5) h5
    · obtain rfl : m = 0 := Int.le_antisymm h2 h1
      obtain ⟨t, rfl⟩ := len1 h3 (h4.resolve_left (by decide))
      rw [showL_cons, showL_nil]
      exact rShow17 w hl (hk t (by simp)) (hz t (by simp)) (text2_size h5) h5
    · obtain rfl : m = 0 := Int.le_antisymm h2 h1
      exact rShow18 w hl hk hsum (text2_size h5) h5
    · obtain ⟨t, u, rfl⟩ := len2 h3 (h4.resolve_left (by decide))
      rw [showL_cons, showL_cons, showL_nil]
      cases dp : decide (2 ≤ m % 4)
      · cases dz : (levelR m == 0)
        · exact rShow19ac w hl (hk t (by simp)) (hz t (by simp)) (hk u (by simp)) (hz u (by simp)) (hop t (by simp)) (hop u (by simp)) h1 h2 dp dz
        · exact rShow19ad w hl (hk t (by simp)) (hz t (by simp)) (hk u (by simp)) (hz u (by simp)) (hop t (by simp)) (hop u (by simp)) h1 h2 dp dz
      · cases dz : (levelR m == 0)
        · exact rShow19bc w hl (hk t (by simp)) (hz t (by simp)) (hk u (by simp)) (hz u (by simp)) (hop t (by simp)) (hop u (by simp)) h1 h2 dp dz
        · exact rShow19bd w hl (hk t (by simp)) (hz t (by simp)) (hk u (by simp)) (hz u (by simp)) (hop t (by simp)) (hop u (by simp)) h1 h2 dp dz
    · obtain rfl : m = 0 := Int.le_antisymm h2 h1
      obtain ⟨t, rfl⟩ := len1 h3 (h4.resolve_left (by decide))
      rw [showL_cons, showL_nil]
      exact rShow20 w hl (hk t (by simp)) (hz t (by simp)) (hop t (by simp))
    · obtain rfl : m = 0 := Int.le_antisymm h2 h1
      obtain ⟨t, rfl⟩ := len1 h3 (h4.resolve_left (by decide))
      rw [showL_cons, showL_nil]
      exact rShow21 w hl (hk t (by simp)) (hz t (by simp)) (hop t (by simp))
termination_by t => SizeOf.sizeOf t
decreasing_by
  have := List.sizeOf_lt_of_mem ht
  simp
  omega
theorem cnt_fits {t : Tree} (h : fitsT t = true) : cntT t ≤ 500 := by
  have hw := within_fits t
  rw [h, withinT_is t 1 0 (by omega) (by omega) (by omega) (by omega)] at hw
  by_cases hz : depT t + 1 ≤ 17 ∧ 0 + cntT t ≤ 500
  · omega
  · rw [if_neg hz] at hw; cases hw
/-- what Print answers -/
def PrintE (w : World) (p : List UInt8 × Int) (e : Ending) (w' : World) : Prop := e = .returned (.tuple #[.string (sx p.1), .int .i64 p.2]) ∧ Below w.heap.size w w'
set_option maxHeartbeats 4000000 in
theorem rPrintP (t : Tree) (va : Value) (w : World) (hl : Lies (· < w.heap.size) w t va) (hs : ShT 4611686018427387904 t) : Calls Tryz.prog 6 #[va] w (PrintE w (printR t)) := by
  have c24 : Tryz.prog.cellsOf 24 = 4 := by kernel_rfl
  have hl2 := hl
  obtain ⟨k, x, m, ks⟩ := t
  unfold Lies at hl2
  obtain ⟨a, c, rfl, -, -⟩ := hl2
  have hB := (Below.refl w.heap.size w).alloc (Nat.le_refl _) (.cells #[.int .i64 k, .string x, .int .i64 m, .slice a ks.length c] 24)
  have hF := rfits _ _ _ (Lies.below hl hB)
  have hI := fun W (h : Below w.heap.size w W) => rIsP _ _ W (Lies.below hl h) hs
  replace hI := (show Hid _ from hI)
  have HP : Hid (printR (.node k x m ks) = if fitsT (.node k x m ks) then (if k = 1 ∧ isT (.node k x m ks) = true then (if 3000 < (showT (.node k x m ks)).length then ([], 1) else (showT (.node k x m ks), 0)) else ([], 2)) else ([], 1)) := rfl
  cases hf : fitsT (.node k x m ks)
  · rw [hf] at hF HP
    go_enter Tryz.func6, Tryz.ntmps6
    go_wp2_with (go_at_call 13; refine hF.mono ?_; rintro e w1 ⟨rfl, hb1⟩)
    refine bodyPost_ret (v := .tuple #[.string ⟨#[]⟩, .int .i64 1]) (by simp [results, Tryz.results6, go_sem]) rfl ⟨?_, hB.trans (hb1.mono hB.size)⟩
    rw [HP.out]
    rfl
  · have hcnt := cnt_fits hf
    rw [hf] at hF HP
    simp only [if_true] at HP
    by_cases hk : k = 1
    case neg =>
      have e1 : (k != 1) = true := by simpa using hk
      rw [if_neg (fun h => hk h.1)] at HP
      go_enter Tryz.func6, Tryz.ntmps6
      go_wp2_with (go_at_call 13; refine hF.mono ?_; rintro e w1 ⟨rfl, hb1⟩; obtain ⟨q0, q1, q2, q3, hsz, hbw⟩ := one_box (hb1.mono (by simp) : Below (w.heap.size + 1) (w.alloc (.cells #[.int .i64 k, .string x, .int .i64 m, .slice a ks.length c] 24)) w1))
      refine bodyPost_ret (v := .tuple #[.string ⟨#[]⟩, .int .i64 2]) (by simp [results, Tryz.results6, go_sem]) rfl ⟨?_, hbw⟩
      rw [HP.out]
      rfl
    subst hk
    cases hi : isT (.node 1 x m ks)
    · rw [hi] at HP
      simp only [Bool.false_eq_true, and_false, if_false] at HP
      go_enter Tryz.func6, Tryz.ntmps6
      go_wp2_with first
        | (go_at_call 13; refine hF.mono ?_; rintro e w1 ⟨rfl, hb1⟩; obtain ⟨q0, q1, q2, q3, hsz, hbw⟩ := one_box (hb1.mono (by simp) : Below (w.heap.size + 1) (w.alloc (.cells #[.int .i64 1, .string x, .int .i64 m, .slice a ks.length c] 24)) w1); have hI1 := hI.out w1 hbw; rw [hi] at hI1)
        | (go_at_call 14; refine hI1.mono ?_; rintro e w2 ⟨rfl, hb2⟩)
      refine bodyPost_ret (v := .tuple #[.string ⟨#[]⟩, .int .i64 2]) (by simp [results, Tryz.results6, go_sem]) rfl ⟨?_, hbw.trans (hb2.mono hbw.size)⟩
      rw [HP.out]
      rfl
    · have hS := show_ok _ hi hcnt
      have hlen := show_len _ hi
      rw [hi] at HP
      simp only [and_self, if_true] at HP
      have hz : (sx (showT (.node 1 x m ks))).size = (showT (.node 1 x m ks)).length := sx_size _
      replace hS := (show Hid _ from fun W (h : Below w.heap.size w W) => hS W _ (Lies.below hl h))
      clear hf hl hs
      generalize hq : showT (.node 1 x m ks) = q at *
      clear hq
      by_cases h3 : 3000 < q.length
      · rw [if_pos h3] at HP
        generalize sx q = y at *
        have d3 : decide ((3000 : Int) < (y.size : Int)) = true := decide_eq_true (by omega)
        go_enter Tryz.func6, Tryz.ntmps6
        go_wp2_with first
          | (go_at_call 13; refine hF.mono ?_; rintro e w1 ⟨rfl, hb1⟩; obtain ⟨q0, q1, q2, q3, hsz, hbw⟩ := one_box (hb1.mono (by simp) : Below (w.heap.size + 1) (w.alloc (.cells #[.int .i64 1, .string x, .int .i64 m, .slice a ks.length c] 24)) w1); have hI1 := hI.out w1 hbw; rw [hi] at hI1)
          | (go_at_call 14; refine hI1.mono ?_; rintro e w2 ⟨rfl, hb2⟩; have hbw2 := hbw.trans (hb2.mono hbw.size); have hS2 := hS.out w2 hbw2; obtain ⟨r0, r1, r2, r3, -, -⟩ := one_box ((hb1.mono (by simp) : Below (w.heap.size + 1) (w.alloc (.cells #[.int .i64 1, .string x, .int .i64 m, .slice a ks.length c] 24)) w1).trans (hb2.mono hsz)))
          | (go_at_call 15; refine hS2.mono ?_; rintro e w3 ⟨rfl, hb3⟩)
        refine bodyPost_ret (v := .tuple #[.string ⟨#[]⟩, .int .i64 1]) (by simp [results, Tryz.results6, go_sem]) rfl ⟨?_, hbw2.trans (hb3.mono hbw2.size)⟩
        rw [HP.out]
        rfl
      · rw [if_neg h3] at HP
        have HY : Hid (∃ y, y = sx q) := ⟨_, rfl⟩
        generalize hyq : sx q = y at *
        have d3 : decide ((3000 : Int) < (y.size : Int)) = false := decide_eq_false (by omega)
        replace hyq := (show Hid _ from hyq)
        go_enter Tryz.func6, Tryz.ntmps6
        go_wp2_with first
          | (go_at_call 13; refine hF.mono ?_; rintro e w1 ⟨rfl, hb1⟩; obtain ⟨q0, q1, q2, q3, hsz, hbw⟩ := one_box (hb1.mono (by simp) : Below (w.heap.size + 1) (w.alloc (.cells #[.int .i64 1, .string x, .int .i64 m, .slice a ks.length c] 24)) w1); have hI1 := hI.out w1 hbw; rw [hi] at hI1)
          | (go_at_call 14; refine hI1.mono ?_; rintro e w2 ⟨rfl, hb2⟩; have hbw2 := hbw.trans (hb2.mono hbw.size); have hS2 := hS.out w2 hbw2; obtain ⟨r0, r1, r2, r3, -, -⟩ := one_box ((hb1.mono (by simp) : Below (w.heap.size + 1) (w.alloc (.cells #[.int .i64 1, .string x, .int .i64 m, .slice a ks.length c] 24)) w1).trans (hb2.mono hsz)))
          | (go_at_call 15; refine hS2.mono ?_; rintro e w3 ⟨rfl, hb3⟩)
        refine bodyPost_ret (v := .tuple #[.string y, .int .i64 0]) (by simp [results, Tryz.results6, go_sem]) rfl ⟨?_, hbw2.trans (hb3.mono hbw2.size)⟩
        rw [HP.out]
        show _ = Ending.returned (.tuple #[.string (sx q), .int .i64 0])
        rw [hyq.out]
end pr
namespace pr
open Go.ChangeShapes Go.WideShapes Go.ChangeAt Go.RowKit
open Go.Proofs.YtkoomoemkffjkaaGreatDoor.syn Go.Proofs.YtkoomoemkffjkaaGreatDoor.face
theorem cellsNode : Tryz.prog.cellsOf 24 = 4 := by kernel_rfl
theorem bytesNode : Tryz.prog.bytesOf 24 = 56 := by kernel_rfl
theorem cells64 : Tryz.prog.cellsOf 2 = 1 := by kernel_rfl
theorem cellsKids : Tryz.prog.cellsOf 22 = 1 := by kernel_rfl
theorem liesAt_of {P : Nat → Prop} {w : World} {g : Nat} : ∀ (ks : List Tree) (o : Nat), (∀ i (hi : i < ks.length), ∃ v, syn.cell4 w g (o + i * 4) v ∧ Lies P w ks[i] v) → LiesAt P w ks g o
  | [], o, _ => by unfold LiesAt; trivial
  | t :: r, o, h => by
    unfold LiesAt
    have h0 := h 0 (by simp)
    rw [Nat.zero_mul, Nat.add_zero] at h0
    refine ⟨h0, liesAt_of r (o + 4) (fun i hi => ?_)⟩
    have := h (i + 1) (by simpa using hi)
    rw [show o + (i + 1) * 4 = o + 4 + i * 4 from by omega] at this
    exact this
theorem shL_of {n : Nat} : ∀ (ks : List Tree), (∀ t ∈ ks, ShT n t) → ShT.ShL n ks
  | [], _ => by unfold ShT.ShL; trivial
  | t :: r, h => by unfold ShT.ShL; exact ⟨h t (by simp), shL_of r (fun q hq => h q (List.mem_cons_of_mem _ hq))⟩
section
variable {H : Type} {enc : TypeId × Value → H} {W : World}
theorem weights_in {e : TypeId} {d : DataW H} {k : Nat} : ∀ {l : List (DataW H)}, d ∈ l → k ∈ d.weights Tryz.prog e → k ∈ DataW.weightsAll Tryz.prog e l
  | a :: r, h, hk => by
    unfold DataW.weightsAll
    rcases List.mem_cons.1 h with rfl | h
    · exact List.mem_append_left _ hk
    · exact List.mem_append_right _ (weights_in h hk)
theorem size_in {d : DataW H} : ∀ {l : List (DataW H)}, d ∈ l → SizeOf.sizeOf d < SizeOf.sizeOf l := List.sizeOf_lt_of_mem
set_option maxHeartbeats 1000000 in
theorem open_nodeN : ∀ (N : Nat) {n : Nat} {cs : List Value} {x : DataW H × List MemPlace}, SizeOf.sizeOf x.1 ≤ N → DataW.trod enc Tryz.prog W 0 (fun _ => true) true n 24 cs = some x → (∀ k ∈ x.1.weights Tryz.prog 24, k ≤ reachBytes) →
    ∃ t c0 c1 c2 c3, cs = [c0, c1, c2, c3] ∧ Lies (· < W.heap.size) W t (.agg #[c0, c1, c2, c3]) ∧ ShT 4611686018427387904 t
  | 0, n, cs, x, hN, h, hwt => by
    obtain ⟨y0, y1, y2, y3, n', rfl, _⟩ := Joins.trod_struct4 Tryz.underlying24 h
    simp at hN
  | N + 1, n, cs, x, hN, h, hwt => by
    obtain ⟨y0, y1, y2, y3, n', rfl, hlen, t0, t1, t2, t3⟩ := Joins.trod_struct4 Tryz.underlying24 h
    rw [cellsNode] at hlen
    simp only [cell1s, cell1i, cells64, cellsKids] at t0 t1 t2 t3
    match cs, hlen with
    | [c0, c1, c2, c3], _ =>
      simp only [List.drop, List.take] at t0 t1 t2 t3
      obtain ⟨k, e0, _, _⟩ := DataW.trod_int Tryz.underlying3 t0
      obtain ⟨s, e1, rfl, _⟩ := DataW.trod_string Tryz.underlying9 t1
      obtain ⟨m, e2, _, _⟩ := DataW.trod_int Tryz.underlying2 t2
      simp only [List.cons.injEq, and_true] at e0 e1 e2
      subst e0 e1 e2
      have hs : s.size < 4611686018427387904 := by
        have h2 := hwt s.data.toList.length (by simp [DataW.weights, DataW.weightsEach, Tryz.underlying24])
        have h3 : s.data.toList.length = s.size := lexs.len_L s
        have := reach_le
        omega
      rcases Deep.open_slice Tryz.underlying22 t3 with ⟨h0, _⟩ | ⟨a, len, cap, m', k', D, Pl, h0, _, hl, hm, hmm, rfl, hc⟩
      · simp only [List.cons.injEq, and_true] at h0
        subst h0
        refine ⟨.node k s m [], _, _, _, _, rfl, ?_, ?_⟩
        · unfold Lies
          exact ⟨none, 0, rfl, ⟨by simp, by simp⟩, fun h => absurd rfl h⟩
        · unfold ShT ShT.ShL
          exact ⟨hs, trivial⟩
      · simp only [List.cons.injEq, and_true] at h0
        subst h0
        simp only [if_true] at hmm
        have hlim : len ≤ 4611686018427387903 := by
          have h2 := hwt ((len + (m' - len)) * 56) (by simp [DataW.weights, DataW.weightsEach, Tryz.underlying24, Tryz.underlying22, bytesNode])
          have := reach_le
          omega
        have each : ∀ i, i < len → ∃ t, ∃ c0 c1 c2 c3, (W.cell? (a.add (i * 4)) = some c0 ∧ W.cell? (a.add (i * 4 + 1)) = some c1 ∧ W.cell? (a.add (i * 4 + 2)) = some c2 ∧ W.cell? (a.add (i * 4 + 3)) = some c3) ∧ Lies (· < W.heap.size) W t (.agg #[c0, c1, c2, c3]) ∧ ShT 4611686018427387904 t := by
          intro i hi
          obtain ⟨cs', h1, h2⟩ := hc i (by omega)
          rw [cellsNode] at h1
          obtain ⟨_, hlen', hcell⟩ := World.cells?_some h1
          have hDm : D i ∈ (List.range len).map D := List.mem_map.2 ⟨i, List.mem_range.2 hi, rfl⟩
          have hsz := size_in hDm
          obtain ⟨t, d0, d1, d2, d3, rfl, hL, hS⟩ := open_nodeN N (x := (D i, Pl i)) (by simp at hN ⊢; omega) h2 (fun q hq => hwt q (by
            have := weights_in hDm hq
            simp [DataW.weights, DataW.weightsEach, Tryz.underlying24, Tryz.underlying22, this]))
          refine ⟨t, d0, d1, d2, d3, ⟨?_, ?_, ?_, ?_⟩, hL, hS⟩
          · simpa [Deep.add_add] using hcell 0 (by simp)
          · simpa [Deep.add_add] using hcell 1 (by simp)
          · simpa [Deep.add_add] using hcell 2 (by simp)
          · simpa [Deep.add_add] using hcell 3 (by simp)
        have : Inhabited Tree := ⟨noT⟩
        obtain ⟨V, hV⟩ := Deep.choose_lt each
        refine ⟨.node k s m ((List.range len).map V), _, _, _, _, rfl, ?_, ?_⟩
        · unfold Lies
          refine ⟨some a, cap, by simp, ⟨by simp; omega, by simpa using hl⟩, fun hne => ?_⟩
          have hpos : 0 < len := by
            rcases Nat.eq_zero_or_pos len with h | h
            · subst h; simp at hne
            · exact h
          obtain ⟨c0, c1, c2, c3, ⟨h00, _⟩, _⟩ := hV 0 hpos
          rw [Nat.zero_mul, Addr.add, if_pos rfl] at h00
          obtain ⟨g, o, rfl⟩ := plain_addr h00
          refine ⟨g, o, rfl, World.block_lt_of_cell? W _ h00, liesAt_of _ _ (fun i hi => ?_)⟩
          obtain ⟨c0, c1, c2, c3, ⟨q0, q1, q2, q3⟩, hL, _⟩ := hV i (by simpa using hi)
          simp only [add_plain] at q0 q1 q2 q3
          simp only [List.getElem_map, List.getElem_range]
          exact ⟨_, ⟨c0, c1, c2, c3, rfl, q0, q1, q2, q3⟩, hL⟩
        · unfold ShT
          refine ⟨hs, shL_of _ (fun t ht => ?_)⟩
          obtain ⟨i, hi, rfl⟩ := List.mem_map.1 ht
          obtain ⟨_, _, _, _, _, _, hS⟩ := hV i (List.mem_range.1 hi)
          exact hS
theorem open_node {b0 : Nat} {v : Value} {d : DataW H} {p : List MemPlace} (hv : Value.okWide Tryz.prog W .any b0 24 v) (h : DataW.Trod enc Tryz.prog W 0 (fun _ => true) true 24 v d p) (hwt : ∀ k ∈ d.weights Tryz.prog 24, k ≤ reachBytes) : ∃ t, Lies (· < W.heap.size) W t v ∧ ShT 4611686018427387904 t := by
  obtain ⟨cs, rfl, hsz⟩ := okWide_struct Tryz.underlying24 hv
  obtain ⟨fuel, hf⟩ := h
  obtain ⟨t, c0, c1, c2, c3, e, hL, hS⟩ := open_nodeN _ (Nat.le_refl _) hf hwt
  have : cs = #[c0, c1, c2, c3] := Array.toList_inj.1 (by simpa [Value.cells] using e)
  subst this
  exact ⟨t, hL, hS⟩
end
end pr
end Go.Proofs.YtkoomoemkffjkaaGreatDoor
