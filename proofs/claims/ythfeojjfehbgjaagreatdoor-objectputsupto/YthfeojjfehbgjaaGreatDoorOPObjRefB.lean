/- What the reference's number, numbers, text and truth answer: contracts. -/
import Derived.Test.YthfeojjfehbgjaaGreatDoorProg
import Derived.WalkKit
import Derived.WalkLawsBesides
import Derived.Outline
import Derived.WalkSmall
import Derived.Laws.BytesArg
import Derived.Test.YthfeojjfehbgjaaGreatDoorOPMacBox
import Derived.Test.YthfeojjfehbgjaaGreatDoorOPObjBack
namespace Go.Proofs.YthfeojjfehbgjaaGreatDoor.obj
open Go.RowKit
open Go.Proofs.YthfeojjfehbgjaaGreatDoor.mac (BoxC)
set_option linter.unusedVariables false
set_option linter.unusedSimpArgs false
set_option maxRecDepth 100000
/-- a row of eight bytes, the last i of them written -/
def b8 (n : Int) : Nat → Array Value
  | 0 => #[.int .u8 0, .int .u8 0, .int .u8 0, .int .u8 0, .int .u8 0, .int .u8 0, .int .u8 0, .int .u8 0]
  | 1 => #[.int .u8 0, .int .u8 0, .int .u8 0, .int .u8 0, .int .u8 0, .int .u8 0, .int .u8 0, .int .u8 (n % 256)]
  | 2 => #[.int .u8 0, .int .u8 0, .int .u8 0, .int .u8 0, .int .u8 0, .int .u8 0, .int .u8 (n / 256 % 256), .int .u8 (n % 256)]
  | 3 => #[.int .u8 0, .int .u8 0, .int .u8 0, .int .u8 0, .int .u8 0, .int .u8 (n / 65536 % 256), .int .u8 (n / 256 % 256), .int .u8 (n % 256)]
  | 4 => #[.int .u8 0, .int .u8 0, .int .u8 0, .int .u8 0, .int .u8 (n / 16777216 % 256), .int .u8 (n / 65536 % 256), .int .u8 (n / 256 % 256), .int .u8 (n % 256)]
  | 5 => #[.int .u8 0, .int .u8 0, .int .u8 0, .int .u8 (n / 4294967296 % 256), .int .u8 (n / 16777216 % 256), .int .u8 (n / 65536 % 256), .int .u8 (n / 256 % 256), .int .u8 (n % 256)]
  | 6 => #[.int .u8 0, .int .u8 0, .int .u8 (n / 1099511627776 % 256), .int .u8 (n / 4294967296 % 256), .int .u8 (n / 16777216 % 256), .int .u8 (n / 65536 % 256), .int .u8 (n / 256 % 256), .int .u8 (n % 256)]
  | 7 => #[.int .u8 0, .int .u8 (n / 281474976710656 % 256), .int .u8 (n / 1099511627776 % 256), .int .u8 (n / 4294967296 % 256), .int .u8 (n / 16777216 % 256), .int .u8 (n / 65536 % 256), .int .u8 (n / 256 % 256), .int .u8 (n % 256)]
  | _ => #[.int .u8 (n / 72057594037927936 % 256), .int .u8 (n / 281474976710656 % 256), .int .u8 (n / 1099511627776 % 256), .int .u8 (n / 4294967296 % 256), .int .u8 (n / 16777216 % 256), .int .u8 (n / 65536 % 256), .int .u8 (n / 256 % 256), .int .u8 (n % 256)]
theorem tmodE (x : Int) : (x.tmod 256 < 0 → x.tmod 256 + 256 = x % 256) ∧ (¬ x.tmod 256 < 0 → x.tmod 256 = x % 256) := by
  rcases Int.le_total 0 x with h | h
  · rw [Int.tmod_eq_emod_of_nonneg h]
    omega
  · have e : x.tmod 256 = -((-x) % 256) := by
      have h1 : x = -(-x) := by omega
      rw [h1, Int.neg_tmod, Int.tmod_eq_emod_of_nonneg (by omega)]
      simp
    rw [e]
    omega
theorem tdivE (x : Int) : (x - x % 256).tdiv 256 = x / 256 := by
  rcases Int.le_total 0 x with h | h
  · rw [Int.tdiv_eq_ediv_of_nonneg (by omega)]
    omega
  · have e : (x - x % 256).tdiv 256 = -((x % 256 - x) / 256) := by
      have h1 : x - x % 256 = -(x % 256 - x) := by omega
      rw [h1, Int.neg_tdiv, Int.tdiv_eq_ediv_of_nonneg (by omega)]
    rw [e]
    omega
theorem div256 (n : Int) (k : Nat) : n / (2 : Int) ^ k / 256 = n / (2 : Int) ^ (k + 8) := by
  rw [Int.pow_add, Int.ediv_ediv_of_nonneg (Int.pow_nonneg (by decide))]
  rfl
theorem numS_cells (n : Int) (w : World) (B : Nat) (T : TypeId) (h : BoxC w B (b8 n 8) T) : (convert 33 9 (.slice (some ⟨B, 0, none⟩) 8 8)).run Tryz.prog w = .ok (.string ⟨(numB n).toArray⟩) w := by
  have e : strOfNums ((numB n).map fun b => (b.toNat : Int)) = ⟨(numB n).toArray⟩ := by
    unfold strOfNums
    congr 2
    rw [List.map_map]
    have : ((fun n : Int => UInt8.ofNat n.toNat) ∘ fun b : UInt8 => (b.toNat : Int)) = id := by
      funext b
      simp
    rw [this, List.map_id]
  rw [← e]
  refine run_convert_bytes_arg w 33 5 Tryz.underlying33 Tryz.underlying5 B 0 8 8 ((numB n).map fun b => (b.toNat : Int)) (by simp [numB_len]) (fun i hi => ?_) 9 Tryz.underlying9
  rw [Nat.zero_add]
  have hb := byteB_nat n
  have : i = 0 ∨ i = 1 ∨ i = 2 ∨ i = 3 ∨ i = 4 ∨ i = 5 ∨ i = 6 ∨ i = 7 := by omega
  rcases this with rfl | rfl | rfl | rfl | rfl | rfl | rfl | rfl
  · refine (h.cell 0 rfl).trans ?_
    show _ = some (Value.int .u8 ((byteB n 56).toNat : Int))
    rw [hb]
    rfl
  · refine (h.cell 1 rfl).trans ?_
    show _ = some (Value.int .u8 ((byteB n 48).toNat : Int))
    rw [hb]
    rfl
  · refine (h.cell 2 rfl).trans ?_
    show _ = some (Value.int .u8 ((byteB n 40).toNat : Int))
    rw [hb]
    rfl
  · refine (h.cell 3 rfl).trans ?_
    show _ = some (Value.int .u8 ((byteB n 32).toNat : Int))
    rw [hb]
    rfl
  · refine (h.cell 4 rfl).trans ?_
    show _ = some (Value.int .u8 ((byteB n 24).toNat : Int))
    rw [hb]
    rfl
  · refine (h.cell 5 rfl).trans ?_
    show _ = some (Value.int .u8 ((byteB n 16).toNat : Int))
    rw [hb]
    rfl
  · refine (h.cell 6 rfl).trans ?_
    show _ = some (Value.int .u8 ((byteB n 8).toNat : Int))
    rw [hb]
    rfl
  · refine (h.cell 7 rfl).trans ?_
    show _ = some (Value.int .u8 ((byteB n 0).toNat : Int))
    rw [hb]
    simp
    rfl
set_option maxHeartbeats 1000000 in
theorem rNumber (n : Int) (hn : I64 n) (w : World) :
    Calls Tryz.prog 25 #[.int .i64 n] w fun e w' => e = .returned (.string ⟨(numB n).toArray⟩) ∧ Below w.heap.size w w' := by
  obtain ⟨hn1, hn2⟩ := hn
  go_enter Tryz.func25, Tryz.ntmps25
  go_wp2
  go_loopw [4, 0] (fun t s wr => ∃ i : Nat, i ≤ 8 ∧ t = .int .i64 (7 - (i : Int)) ∧ s = .int .i64 (n / (2 : Int) ^ (8 * i)) ∧ wr = w.alloc (.cells (b8 n i) 108)) (fun t _ _ => (intOf t + 1).toNat)
  case atStart => exact ⟨0, by omega, rfl, by simp, rfl⟩
  case round =>
    obtain ⟨i, hi, rfl, rfl, rfl⟩ := hrel
    have : i = 0 ∨ i = 1 ∨ i = 2 ∨ i = 3 ∨ i = 4 ∨ i = 5 ∨ i = 6 ∨ i = 7 ∨ i = 8 := by omega
    clear hi
    rcases this with rfl | rfl | rfl | rfl | rfl | rfl | rfl | rfl | rfl
    · have e1 := tmodE (n)
      have e2 := tdivE (n)
      have e3 : n / 256 = n / 256 := by omega
      have r1 : -9223372036854775808 ≤ n ∧ n < 9223372036854775808 := by omega
      have hw1 : wrap64 (n - n % 256) = n - n % 256 := by unfold wrap64; omega
      have hw2 : wrap64 (n / 256) = n / 256 := by unfold wrap64; omega
      have hu8 : n % 256 % 256 = n % 256 := by omega
      by_cases hs : (n).tmod 256 < 0
      · have e4 := e1.1 hs
        have hw3 : wrap64 ((n).tmod 256 + 256) = n % 256 := by rw [e4]; unfold wrap64; omega
        clear e1 e4
        go_wp2
        exact ⟨⟨1, by omega, rfl, rfl, rfl⟩, by simp [intOf]⟩
      · have e4 := e1.2 hs
        clear e1
        go_wp2
        exact ⟨⟨1, by omega, rfl, rfl, rfl⟩, by simp [intOf]⟩
    · have e1 := tmodE (n / 256)
      have e2 := tdivE (n / 256)
      have e3 : n / 256 / 256 = n / 65536 := by omega
      have r1 : -9223372036854775808 ≤ n / 256 ∧ n / 256 < 9223372036854775808 := by omega
      have hw1 : wrap64 (n / 256 - n / 256 % 256) = n / 256 - n / 256 % 256 := by unfold wrap64; omega
      have hw2 : wrap64 (n / 65536) = n / 65536 := by unfold wrap64; omega
      have hu8 : n / 256 % 256 % 256 = n / 256 % 256 := by omega
      by_cases hs : (n / 256).tmod 256 < 0
      · have e4 := e1.1 hs
        have hw3 : wrap64 ((n / 256).tmod 256 + 256) = n / 256 % 256 := by rw [e4]; unfold wrap64; omega
        clear e1 e4
        go_wp2
        exact ⟨⟨2, by omega, rfl, rfl, rfl⟩, by simp [intOf]⟩
      · have e4 := e1.2 hs
        clear e1
        go_wp2
        exact ⟨⟨2, by omega, rfl, rfl, rfl⟩, by simp [intOf]⟩
    · have e1 := tmodE (n / 65536)
      have e2 := tdivE (n / 65536)
      have e3 : n / 65536 / 256 = n / 16777216 := by omega
      have r1 : -9223372036854775808 ≤ n / 65536 ∧ n / 65536 < 9223372036854775808 := by omega
      have hw1 : wrap64 (n / 65536 - n / 65536 % 256) = n / 65536 - n / 65536 % 256 := by unfold wrap64; omega
      have hw2 : wrap64 (n / 16777216) = n / 16777216 := by unfold wrap64; omega
      have hu8 : n / 65536 % 256 % 256 = n / 65536 % 256 := by omega
      by_cases hs : (n / 65536).tmod 256 < 0
      · have e4 := e1.1 hs
        have hw3 : wrap64 ((n / 65536).tmod 256 + 256) = n / 65536 % 256 := by rw [e4]; unfold wrap64; omega
        clear e1 e4
        go_wp2
        exact ⟨⟨3, by omega, rfl, rfl, rfl⟩, by simp [intOf]⟩
      · have e4 := e1.2 hs
        clear e1
        go_wp2
        exact ⟨⟨3, by omega, rfl, rfl, rfl⟩, by simp [intOf]⟩
    · have e1 := tmodE (n / 16777216)
      have e2 := tdivE (n / 16777216)
      have e3 : n / 16777216 / 256 = n / 4294967296 := by omega
      have r1 : -9223372036854775808 ≤ n / 16777216 ∧ n / 16777216 < 9223372036854775808 := by omega
      have hw1 : wrap64 (n / 16777216 - n / 16777216 % 256) = n / 16777216 - n / 16777216 % 256 := by unfold wrap64; omega
      have hw2 : wrap64 (n / 4294967296) = n / 4294967296 := by unfold wrap64; omega
      have hu8 : n / 16777216 % 256 % 256 = n / 16777216 % 256 := by omega
      by_cases hs : (n / 16777216).tmod 256 < 0
      · have e4 := e1.1 hs
        have hw3 : wrap64 ((n / 16777216).tmod 256 + 256) = n / 16777216 % 256 := by rw [e4]; unfold wrap64; omega
        clear e1 e4
        go_wp2
        exact ⟨⟨4, by omega, rfl, rfl, rfl⟩, by simp [intOf]⟩
      · have e4 := e1.2 hs
        clear e1
        go_wp2
        exact ⟨⟨4, by omega, rfl, rfl, rfl⟩, by simp [intOf]⟩
    · have e1 := tmodE (n / 4294967296)
      have e2 := tdivE (n / 4294967296)
      have e3 : n / 4294967296 / 256 = n / 1099511627776 := by omega
      have r1 : -9223372036854775808 ≤ n / 4294967296 ∧ n / 4294967296 < 9223372036854775808 := by omega
      have hw1 : wrap64 (n / 4294967296 - n / 4294967296 % 256) = n / 4294967296 - n / 4294967296 % 256 := by unfold wrap64; omega
      have hw2 : wrap64 (n / 1099511627776) = n / 1099511627776 := by unfold wrap64; omega
      have hu8 : n / 4294967296 % 256 % 256 = n / 4294967296 % 256 := by omega
      by_cases hs : (n / 4294967296).tmod 256 < 0
      · have e4 := e1.1 hs
        have hw3 : wrap64 ((n / 4294967296).tmod 256 + 256) = n / 4294967296 % 256 := by rw [e4]; unfold wrap64; omega
        clear e1 e4
        go_wp2
        exact ⟨⟨5, by omega, rfl, rfl, rfl⟩, by simp [intOf]⟩
      · have e4 := e1.2 hs
        clear e1
        go_wp2
        exact ⟨⟨5, by omega, rfl, rfl, rfl⟩, by simp [intOf]⟩
    · have e1 := tmodE (n / 1099511627776)
      have e2 := tdivE (n / 1099511627776)
      have e3 : n / 1099511627776 / 256 = n / 281474976710656 := by omega
      have r1 : -9223372036854775808 ≤ n / 1099511627776 ∧ n / 1099511627776 < 9223372036854775808 := by omega
      have hw1 : wrap64 (n / 1099511627776 - n / 1099511627776 % 256) = n / 1099511627776 - n / 1099511627776 % 256 := by unfold wrap64; omega
      have hw2 : wrap64 (n / 281474976710656) = n / 281474976710656 := by unfold wrap64; omega
      have hu8 : n / 1099511627776 % 256 % 256 = n / 1099511627776 % 256 := by omega
      by_cases hs : (n / 1099511627776).tmod 256 < 0
      · have e4 := e1.1 hs
        have hw3 : wrap64 ((n / 1099511627776).tmod 256 + 256) = n / 1099511627776 % 256 := by rw [e4]; unfold wrap64; omega
        clear e1 e4
        go_wp2
        exact ⟨⟨6, by omega, rfl, rfl, rfl⟩, by simp [intOf]⟩
      · have e4 := e1.2 hs
        clear e1
        go_wp2
        exact ⟨⟨6, by omega, rfl, rfl, rfl⟩, by simp [intOf]⟩
    · have e1 := tmodE (n / 281474976710656)
      have e2 := tdivE (n / 281474976710656)
      have e3 : n / 281474976710656 / 256 = n / 72057594037927936 := by omega
      have r1 : -9223372036854775808 ≤ n / 281474976710656 ∧ n / 281474976710656 < 9223372036854775808 := by omega
      have hw1 : wrap64 (n / 281474976710656 - n / 281474976710656 % 256) = n / 281474976710656 - n / 281474976710656 % 256 := by unfold wrap64; omega
      have hw2 : wrap64 (n / 72057594037927936) = n / 72057594037927936 := by unfold wrap64; omega
      have hu8 : n / 281474976710656 % 256 % 256 = n / 281474976710656 % 256 := by omega
      by_cases hs : (n / 281474976710656).tmod 256 < 0
      · have e4 := e1.1 hs
        have hw3 : wrap64 ((n / 281474976710656).tmod 256 + 256) = n / 281474976710656 % 256 := by rw [e4]; unfold wrap64; omega
        clear e1 e4
        go_wp2
        exact ⟨⟨7, by omega, rfl, rfl, rfl⟩, by simp [intOf]⟩
      · have e4 := e1.2 hs
        clear e1
        go_wp2
        exact ⟨⟨7, by omega, rfl, rfl, rfl⟩, by simp [intOf]⟩
    · have e1 := tmodE (n / 72057594037927936)
      have e2 := tdivE (n / 72057594037927936)
      have e3 : n / 72057594037927936 / 256 = n / 18446744073709551616 := by omega
      have r1 : -9223372036854775808 ≤ n / 72057594037927936 ∧ n / 72057594037927936 < 9223372036854775808 := by omega
      have hw1 : wrap64 (n / 72057594037927936 - n / 72057594037927936 % 256) = n / 72057594037927936 - n / 72057594037927936 % 256 := by unfold wrap64; omega
      have hw2 : wrap64 (n / 18446744073709551616) = n / 18446744073709551616 := by unfold wrap64; omega
      have hu8 : n / 72057594037927936 % 256 % 256 = n / 72057594037927936 % 256 := by omega
      by_cases hs : (n / 72057594037927936).tmod 256 < 0
      · have e4 := e1.1 hs
        have hw3 : wrap64 ((n / 72057594037927936).tmod 256 + 256) = n / 72057594037927936 % 256 := by rw [e4]; unfold wrap64; omega
        clear e1 e4
        go_wp2
        exact ⟨⟨8, by omega, rfl, rfl, rfl⟩, by simp [intOf]⟩
      · have e4 := e1.2 hs
        clear e1
        go_wp2
        exact ⟨⟨8, by omega, rfl, rfl, rfl⟩, by simp [intOf]⟩
    · have hcv := numS_cells n (w.alloc (.cells (b8 n 8) 108)) w.heap.size _ (BoxC.new w (b8 n 8) 108)
      go_wp2
      go_ret
      exact ⟨rfl, (Below.refl _ _).alloc (Nat.le_refl _) _⟩
theorem str_app (a b : By) : (⟨a.toArray⟩ : ByteArray) ++ (⟨b.toArray⟩ : ByteArray) = ⟨(a ++ b).toArray⟩ := by
  apply ByteArray.ext
  simp [ByteArray.data_append]
/-- a text of bytes -/
abbrev tx (l : By) : ByteArray := ⟨l.toArray⟩
def intsS (l : List Int) : By := (l.map numB).flatten
theorem intsS_take (l : List Int) (j : Nat) (h : j < l.length) : intsS (l.take (j + 1)) = intsS (l.take j) ++ numB l[j] := by
  unfold intsS
  rw [List.take_add_one, List.getElem?_eq_getElem h, List.map_append, List.flatten_append]
  simp only [Option.toList_some, List.map_cons, List.map_nil, List.flatten_cons, List.flatten_nil, List.append_nil]
theorem intsS_len (l : List Int) : (intsS l).length = 8 * l.length := by
  induction l with
  | nil => rfl
  | cons x r ih =>
    show (numB x ++ intsS r).length = _
    rw [List.length_append, ih, numB_len, List.length_cons]
    omega
set_option maxHeartbeats 1000000 in
theorem rNumbers (l : List Int) (a : Option Addr) (c : Nat) (w : World) (hl : l.length ≤ 1048576) (hi : ∀ x ∈ l, I64 x) (ha : l ≠ [] → ∃ g o, a = some ⟨g, o, none⟩ ∧ ∀ i (h : i < l.length), w.cell? ⟨g, o + i, none⟩ = some (.int .i64 l[i])) :
    Calls Tryz.prog 24 #[.slice a l.length c] w fun e w' => e = .returned (.string (tx (intsS l))) ∧ Below w.heap.size w w' := by
  go_enter Tryz.func24, Tryz.ntmps24
  go_wp2
  go_loopw [4, 3] (fun t s wr => ∃ j : Nat, j ≤ l.length ∧ t = .int .i64 j ∧ s = .string (tx (intsS (l.take j))) ∧ Below w.heap.size w wr) (fun t _ _ => l.length - (intOf t).toNat)
  case atStart => exact ⟨0, Nat.zero_le _, rfl, rfl, Below.refl _ _⟩
  case round =>
    obtain ⟨j, hj, rfl, rfl, hB⟩ := hrel
    by_cases hlt : j < l.length
    · obtain ⟨g, o, rfl, hc⟩ := ha (by intro e; rw [e] at hlt; simp at hlt)
      have q : wr.cell? ⟨g, o + j, none⟩ = some (.int .i64 l[j]) := by rw [hB.cell (World.block_lt_of_cell? w _ (hc j hlt))]; exact hc j hlt
      have hC := rNumber l[j] (hi _ (List.getElem_mem hlt)) wr
      have HE : Hid (tx (intsS (l.take (j + 1))) = tx (intsS (l.take j)) ++ tx (numB l[j])) := by show _ = _; rw [str_app, intsS_take l j hlt]
      have hsz : (tx (intsS (l.take j))).size + (tx (numB l[j])).size ≤ 9223372036854775807 := by
        show (intsS (l.take j)).toArray.size + (numB l[j]).toArray.size ≤ _
        simp only [List.size_toArray, numB_len, intsS_len, List.length_take]
        omega
      clear hc ha hi
      generalize l[j] = x at *
      generalize tx (intsS (l.take j)) = S1 at *
      generalize hN : tx (numB x) = S2 at *
      have hC2 : Calls Tryz.prog 25 #[.int .i64 x] wr fun e w' => e = .returned (.string S2) ∧ Below wr.heap.size wr w' := by rw [← hN]; exact hC
      clear hC hN
      go_wp2_with (go_at_call 25; refine hC2.mono ?_; rintro e w2 ⟨rfl, hb2⟩)
      go_roundw
      case rel => exact ⟨j + 1, by omega, by go_num, by rw [HE.out], hB.trans (hb2.mono hB.size)⟩
      case measure => simp [intOf]; omega
    · go_wp2
      go_ret
      have : l.take j = l := List.take_of_length_le (by omega)
      rw [this]
      exact ⟨rfl, hB⟩
theorem cells_row' (w : World) (l : List Int) : l ≠ [] → ∃ g o, some (⟨w.heap.size, 0, none⟩ : Addr) = some ⟨g, o, none⟩ ∧ ∀ i (h : i < l.length), (w.alloc (.cells (l.map fun x => Value.int .i64 x).toArray 3)).cell? ⟨g, o + i, none⟩ = some (.int .i64 l[i]) := fun _ => by
  refine ⟨w.heap.size, 0, rfl, fun i hi => ?_⟩
  rw [Nat.zero_add]
  exact (BoxC.new w (l.map fun x => Value.int .i64 x).toArray 3).cell i (v := .int .i64 l[i]) (by simp [hi])
theorem rNumbers1 (x : Int) (hx : I64 x) (w : World) :
    Calls Tryz.prog 24 #[.slice (some ⟨w.heap.size, 0, none⟩) 1 1] (w.alloc (.cells #[.int .i64 x] 3)) fun e w' => e = .returned (.string (tx (numB x))) ∧ Below w.heap.size w w' :=
  (rNumbers [x] _ 1 _ (by simp) (by simpa using hx) (cells_row' w [x])).mono fun e w' h => ⟨by rw [h.1]; simp [intsS], ((Below.refl _ _).alloc (Nat.le_refl _) _).trans (h.2.mono (by simp))⟩
theorem rNumbers2 (x y : Int) (hx : I64 x) (hy : I64 y) (w : World) :
    Calls Tryz.prog 24 #[.slice (some ⟨w.heap.size, 0, none⟩) 2 2] (w.alloc (.cells #[.int .i64 x, .int .i64 y] 3)) fun e w' => e = .returned (.string (tx (intsS [x, y]))) ∧ Below w.heap.size w w' :=
  (rNumbers [x, y] _ 2 _ (by simp) (by simpa using ⟨hx, hy⟩) (cells_row' w [x, y])).mono fun e w' h => ⟨h.1, ((Below.refl _ _).alloc (Nat.le_refl _) _).trans (h.2.mono (by simp))⟩
theorem rNumbers4 (x y z t : Int) (hx : I64 x) (hy : I64 y) (hz : I64 z) (ht : I64 t) (w : World) :
    Calls Tryz.prog 24 #[.slice (some ⟨w.heap.size, 0, none⟩) 4 4] (w.alloc (.cells #[.int .i64 x, .int .i64 y, .int .i64 z, .int .i64 t] 3)) fun e w' => e = .returned (.string (tx (intsS [x, y, z, t]))) ∧ Below w.heap.size w w' :=
  (rNumbers [x, y, z, t] _ 4 _ (by simp) (by simpa using ⟨hx, hy, hz, ht⟩) (cells_row' w [x, y, z, t])).mono fun e w' h => ⟨h.1, ((Below.refl _ _).alloc (Nat.le_refl _) _).trans (h.2.mono (by simp))⟩
theorem rText (x : ByteArray) (hx : x.size ≤ 1000000000) (w : World) :
    Calls Tryz.prog 26 #[.string x] w fun e w' => e = .returned (.string (tx (textB x))) ∧ Below w.heap.size w w' := by
  have hC := rNumbers1 (x.size : Int) ⟨by omega, by omega⟩ w
  have HE : Hid (tx (textB x) = tx (numB (x.size : Int)) ++ x) := by
    show _ = _
    have : x = tx x.data.toList := by cases x; simp
    conv => rhs; rw [this]
    rw [str_app]
    rfl
  have hsz : (tx (numB (x.size : Int))).size + x.size ≤ 9223372036854775807 := by
    show (numB (x.size : Int)).toArray.size + x.size ≤ _
    simp only [List.size_toArray, numB_len]
    omega
  generalize tx (textB x) = R at *
  generalize tx (numB (x.size : Int)) = S1 at *
  go_enter Tryz.func26, Tryz.ntmps26
  go_wp2_with (go_at_call 24; refine hC.mono ?_; rintro e w2 ⟨rfl, hb2⟩)
  go_ret
  exact ⟨congrArg (fun z => Ending.returned (.string z)) HE.out.symm, hb2⟩
theorem rTruth (b : Bool) (w : World) :
    Calls Tryz.prog 59 #[.bool b] w fun e w' => e = .returned (.string (tx (boolB b))) ∧ Below w.heap.size w w' := by
  cases b
  · have hC := rNumbers1 0 ⟨by decide, by decide⟩ w
    go_enter Tryz.func59, Tryz.ntmps59
    go_wp2_with (go_at_call 24; refine hC.mono ?_; rintro e w2 ⟨rfl, hb2⟩)
    go_ret
    exact ⟨rfl, hb2⟩
  · have hC := rNumbers1 1 ⟨by decide, by decide⟩ w
    go_enter Tryz.func59, Tryz.ntmps59
    go_wp2_with (go_at_call 24; refine hC.mono ?_; rintro e w2 ⟨rfl, hb2⟩)
    go_ret
    exact ⟨rfl, hb2⟩
end Go.Proofs.YthfeojjfehbgjaaGreatDoor.obj
