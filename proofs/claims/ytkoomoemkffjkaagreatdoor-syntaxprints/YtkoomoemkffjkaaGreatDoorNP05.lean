/- What the program's IsName answers of a text: a contract. -/
import Derived.Test.YtkoomoemkffjkaaGreatDoorNP04
import Derived.Deep.LoopGhost
import Derived.Laws.EntriesVeiled
import Derived.Deep.AppendLies
import Derived.Lib.SmallJoins
import Derived.WalkSpells
import Derived.RangeFuncNested
import Derived.RangeFuncBound
import Derived.Shelf.RegionOpen
import Derived.OwnWalkIn
import Derived.LoopNIn
import Derived.LoopIn
set_option linter.unusedVariables false
set_option linter.unusedSimpArgs false
set_option maxRecDepth 100000
namespace Go.Proofs.YtkoomoemkffjkaaGreatDoor
namespace lexs
open Go.RowKit

theorem fine_next {w wr w1 : World} {o : Obj} {e : TypeId} {k n : Nat} {v : Value} {xs : List Value} (hown : wr.ownsRow (w.heap.size + 1) e k v n xs) (hbw : Below (w.heap.size + 1) (w.alloc o) wr) (hb : Below wr.heap.size wr w1) :
    w1.ownsRow (w.heap.size + 1) e k v n xs ∧ Below (w.heap.size + 1) (w.alloc o) w1 := by
  have hs := hbw.size
  rw [World.size_alloc] at hs
  exact ⟨own_below hown hb, hbw.trans (hb.mono hs)⟩
theorem fine_err {w wr : World} {o : Obj} (he : HasErr w) (hbw : Below (w.heap.size + 1) (w.alloc o) wr) : HasErr wr := hasErr_below he (below_old hbw)
set_option maxRecDepth 100000 in
set_option maxHeartbeats 2000000 in
theorem oscan (s : ByteArray) (w : World) (hs : s.size ≤ 3000) (he : HasErr w) :
    Calls Tryz.prog 46 #[.string s] w fun e w' => ∃ v, e = .returned (.tuple #[v, .agg #[.int .i64 (scan s.data.toList).code, .int .i64 (scan s.data.toList).place]]) ∧
      w'.ownsRow w.heap.size 109 3 v (scan s.data.toList).toks.length (cellsOf (scan s.data.toList).toks) ∧ Below w.heap.size w w' := by
  obtain ⟨i0, hi, hz0, hz1, hz2⟩ := info_parts tokInfo
  have hsz : ¬ (3000 : Int) < (s.size : Int) := by omega
  obtain ⟨R, hR⟩ : ∃ R, R = scan s.data.toList := ⟨_, rfl⟩
  rw [← hR]
  have HR : Hid (scanL s.size (s.data.toList.drop 0) 0 [] = R) := by
    show _ = _
    rw [hR, scan, if_neg (by rw [len_L]; omega), len_L]; rfl
  have HE : Hid (HasErr w) := he
  clear hR he
  go_enter Tryz.func46, Tryz.ntmps46
  go_wp2_with (go_at_call 76; refine (skip_any s 0 hs (by omega) _).mono ?_; rintro e w' ⟨q, rfl, hg, hq, hw⟩; obtain rfl := hw.symm)
  obtain ⟨f0, hf0, HR0⟩ := hg.on s.size [] R (by omega) HR.out
  have hqs := hg.top
  go_loopw [4, 5] (fun v i wr => ∃ (p f : Nat) (acc : List Tok), p ≤ s.size ∧ i = .int .i64 p ∧ s.size ≤ p + f ∧ Hid (∀ h : p < s.size, ((s[p].toNat : Int) == 32) = false ∧ ((s[p].toNat : Int) == 10) = false ∧ ((s[p].toNat : Int) == 35) = false) ∧ Hid (scanL f (s.data.toList.drop p) p acc = R) ∧ wr.ownsRow (w.heap.size + 1) 109 3 v acc.length (cellsOf acc) ∧ acc.length ≤ p ∧ Below (w.heap.size + 1) (w.alloc (.cells #[.int .i64 0, .int .i64 0] 31)) wr)
    (fun _ i _ => s.size - (intOf i).toNat)
  case atStart =>
    exact ⟨q, f0, [], hqs, rfl, hf0, hq, HR0, World.ownsRow_nil _ _ _ _, by simp, Below.refl _ _⟩
  case round =>
    obtain ⟨p, f, acc, hp, rfl, hf, HB, HS, hown, hal, hbw⟩ := hrel
    obtain ⟨hc0, hc1, hz0', hz1', hB⟩ := boxes hbw
    have hB' : w.heap.size < wr.heap.size := hB
    by_cases hlt : p < s.size
    · obtain ⟨f, rfl⟩ : ∃ f', f = f' + 1 := ⟨f - 1, by omega⟩
      obtain ⟨n, K, E, hn, hm, H1, H2, HBR, HJ⟩ := row_any s p hs hlt (HB.out hlt).1 (HB.out hlt).2.1 (HB.out hlt).2.2
      have hsl := slice_is 9 Tryz.underlying9 s p n hm
      have hx := ext_size s p n hm
      cases hE : (E != 0)
      · have hst : Hid (stepL (s.data.toList.drop p) = .tok K n) := H1 hE
        clear H1 H2
        have hsk : ∀ w, Calls Tryz.prog 76 #[.string s, .int .i64 ((p : Int) + (n : Int))] w fun e w' => ∃ j : Nat, e = .returned (.int .i64 j) ∧ Goes s (p + n) j ∧ (∀ h : j < s.size, ((s[j].toNat : Int) == 32) = false ∧ ((s[j].toNat : Int) == 10) = false ∧ ((s[j].toNat : Int) == 35) = false) ∧ w' = w := by
          intro w
          have h := skip_any s (p + n) hs hm w
          rw [Int.natCast_add] at h
          exact h
        go_wp2_with (first
          | (go_at_call 78; refine (HBR _).mono ?_; rintro e w1 ⟨fv, rfl, hb1, hreach⟩)
          | (go_at_call 77; refine hreach.mono ?_; rintro e w2 ⟨rfl, hb2⟩; obtain ⟨hown2, hbw2⟩ := fine_next hown hbw hb2)
          | (go_at_call 79; refine (HJ _ (fine_err HE.out hbw2)).mono ?_; rintro e w3 ⟨rfl, hb3⟩; obtain ⟨hown3, hbw3⟩ := fine_next hown2 hbw2 hb3;  clear hown2 hbw2 hb2 hb3)
          | (go_at_call 80; refine (clone_any _ (by omega) _).mono ?_; rintro e w4 ⟨rfl, hb4⟩; obtain ⟨hown4, hbw4⟩ := fine_next hown3 hbw3 hb4; obtain ⟨_, _, _, _, hB4⟩ := boxes hbw4; clear hown3 hbw3 hb4)
          | (at_builtin; refine wpList_append_own _ rfl (.tmp 40) (.tmp 49) 95 rfl (w.heap.size + 1) 109 i0 (.agg #[.int .i64 0, .string ⟨#[]⟩, .int .i64 0]) 3 32 Tryz.underlying95 hi hz0 hz1 hz2 rfl (by decide) _ _ _ rfl (hown4.alloc _) ⟨w4.heap.size, 0, none⟩ 1 1 [.int .i64 K, .string (s.extract p (p + n)), .int .i64 (p : Int)] rfl rfl (cell_three_new _ _ _ _ _ _ (by simp)) (one_cells _ _ _) (by unfold maxLen; omega) (by omega) (by simp <;> omega) ?_; intro v' w5 hown' hgrow hne; have X : Hid (w5.ownsRow (w.heap.size + 1) 109 3 v' (acc.length + 1) (cellsOf acc ++ [.int .i64 K, .string (s.extract p (p + n)), .int .i64 (p : Int)]) ∧ Below (w.heap.size + 1) (w.alloc (.cells #[.int .i64 0, .int .i64 0] 31)) w5) := ⟨hown', rel_tok (hbw4.alloc (by omega) _) (by simp <;> omega) (hown4.alloc _) hgrow⟩; clear hown' hgrow hne)
          | (go_at_call 76; refine (hsk _).mono ?_; rintro e w' ⟨j, rfl, hg2, hq2, hw⟩; obtain rfl := hw.symm))
        have hT := go_tok hlt hst.out HS.out
        obtain ⟨f', hf', HR'⟩ := hg2.on f _ R (by omega) hT.1
        have hjt := hg2.top
        have hjl := hg2.le
        go_roundw
        case rel => exact ⟨j, f', _, hjt, rfl, hf', hq2, HR', own_tok X.out.1, by rw [List.length_append]; simp; omega, X.out.2⟩
        case measure => simp [intOf]; omega
      · have hst : Hid (stepL (s.data.toList.drop p) = .fault E) := H2 hE
        clear H1 H2
        have hend := go_fault hlt hst.out HS.out
        subst hend
        go_wp2_with (first
          | (go_at_call 78; refine (HBR _).mono ?_; rintro e w1 ⟨fv, rfl, hb1, hreach⟩)
          | (go_at_call 77; refine hreach.mono ?_; rintro e w2 ⟨rfl, hb2⟩; obtain ⟨hown2, hbw2⟩ := fine_next hown hbw hb2)
          | (go_at_call 79; refine (HJ _ (fine_err HE.out hbw2)).mono ?_; rintro e w3 ⟨rfl, hb3⟩; obtain ⟨hown3, hbw3⟩ := fine_next hown2 hbw2 hb3; obtain ⟨c0, c1, e0, e1, hB3⟩ := boxes hbw3; clear hown2 hbw2 hb2 hb3))
        refine bodyPost_ret (v := .tuple #[.slice none 0 0, .agg #[.int .i64 E, .int .i64 p]]) (by simp [results, Tryz.results46, go_sem, c0, c1]) rfl ⟨_, rfl, World.ownsRow_nil _ _ _ _, ?_⟩
        exact ((below_old hbw3).setCell (Nat.le_refl _) _).setCell (Nat.le_refl _) _
    · have hend := go_end (by omega) HS.out
      subst hend
      go_wp2
      refine bodyPost_ret (v := .tuple #[u4, .agg #[.int .i64 0, .int .i64 0]]) (by simp [results, Tryz.results46, go_sem, hc0, hc1]) rfl ⟨u4, rfl, ?_, ?_⟩
      · exact ownsRow_le (ownsRow_setCell_below (ownsRow_setCell_below hown (by simp) _) (by simp) _) (by omega)
      · exact ((below_old hbw).setCell (Nat.le_refl _) _).setCell (Nat.le_refl _) _
theorem oscan_long (s : ByteArray) (w : World) (hs : 3000 < s.size) :
    Calls Tryz.prog 46 #[.string s] w fun e w' => ∃ v, e = .returned (.tuple #[v, .agg #[.int .i64 (scan s.data.toList).code, .int .i64 (scan s.data.toList).place]]) ∧
      w'.ownsRow w.heap.size 109 3 v (scan s.data.toList).toks.length (cellsOf (scan s.data.toList).toks) ∧ Below w.heap.size w w' := by
  have hsz : (3000 : Int) < (s.size : Int) := by omega
  have hR : scan s.data.toList = .err 1 0 := by rw [scan, if_pos (by rw [len_L]; omega)]
  rw [hR]
  clear hR
  go_enter Tryz.func46, Tryz.ntmps46
  go_wp2
  refine bodyPost_ret (v := .tuple #[.slice none 0 0, .agg #[.int .i64 1, .int .i64 0]]) (by simp [results, Tryz.results46, go_sem]) rfl ⟨_, rfl, World.ownsRow_nil _ _ _ _, ?_⟩
  exact (Below.refl _ _).alloc (Nat.le_refl _) _
/-- THE CONTRACT: whatever the text -/
theorem scan_own (s : ByteArray) : Scans HasErr 46 s := by
  intro w he
  rcases Nat.lt_or_ge 3000 s.size with h | h
  · exact oscan_long s w h
  · exact oscan s w h he

theorem rletter (c : Int) (w : World) :
    Calls Tryz.prog 87 #[.int .u8 c] w fun e w' => e = .returned (.bool (ltrI c)) ∧ w' = w := by
  go_enter Tryz.func87, Tryz.ntmps87
  go_wp2
  all_goals
    go_ret
    exact ⟨ret_bool (by rw [Bool.eq_iff_iff]; simp [ltrI] <;> omega), rfl⟩
theorem rdigit (c : Int) (w : World) :
    Calls Tryz.prog 90 #[.int .u8 c] w fun e w' => e = .returned (.bool (digI c)) ∧ w' = w := by
  go_enter Tryz.func90, Tryz.ntmps90
  go_wp2
  all_goals
    go_ret
    exact ⟨ret_bool (by rw [Bool.eq_iff_iff]; simp [digI] <;> omega), rfl⟩
theorem rinside (c : Int) (w : World) :
    Calls Tryz.prog 88 #[.int .u8 c] w fun e w' => e = .returned (.bool (insI c)) ∧ w' = w := by
  cases h1 : ltrI c <;> cases h2 : digI c
  all_goals
    go_enter Tryz.func88, Tryz.ntmps88
    go_wp2_with (first | (go_at_call 87; refine (rletter _ _).mono ?_; rintro e w' ⟨rfl, rfl⟩) | (go_at_call 90; refine (rdigit _ _).mono ?_; rintro e w' ⟨rfl, rfl⟩))
    go_ret
    exact ⟨ret_bool (by unfold insI; rw [h1, h2]; simp), rfl⟩
end lexs
namespace syn
open Go.RowKit

/-- four cells in a row -/
def cell4 (w : World) (g o : Nat) (v : Value) : Prop := ∃ x0 x1 x2 x3, v = .agg #[x0, x1, x2, x3] ∧ w.cell? ⟨g, o, none⟩ = some x0 ∧ w.cell? ⟨g, o + 1, none⟩ = some x1 ∧ w.cell? ⟨g, o + 2, none⟩ = some x2 ∧ w.cell? ⟨g, o + 3, none⟩ = some x3
mutual
/-- the value of a node: its tree lies in blocks such as P says -/
def Lies (P : Nat → Prop) (w : World) : Tree → Value → Prop
  | .node k x m ks, v => ∃ a c, v = .agg #[.int .i64 k, .string x, .int .i64 m, .slice a ks.length c] ∧ (ks.length ≤ 4611686018427387904 ∧ ks.length ≤ c) ∧ (ks ≠ [] → ∃ g o, a = some ⟨g, o, none⟩ ∧ P g ∧ LiesAt P w ks g o)
def LiesAt (P : Nat → Prop) (w : World) : List Tree → Nat → Nat → Prop
  | [], _, _ => True
  | t :: r, g, o => (∃ v, cell4 w g o v ∧ Lies P w t v) ∧ LiesAt P w r g (o + 4)
end
mutual
theorem Lies.to {P Q : Nat → Prop} {w w' : World} (hPQ : ∀ b, P b → Q b) (hw : ∀ b, P b → ∀ o, w'.cell? ⟨b, o, none⟩ = w.cell? ⟨b, o, none⟩) : ∀ {t : Tree} {v : Value}, Lies P w t v → Lies Q w' t v
  | .node k x m ks, v, h => by
    unfold Lies at h ⊢
    obtain ⟨a, c, e, hl, hk⟩ := h
    refine ⟨a, c, e, hl, fun hne => ?_⟩
    obtain ⟨g, o, e2, hp, hat⟩ := hk hne
    exact ⟨g, o, e2, hPQ _ hp, LiesAt.to hPQ hw hp hat⟩
theorem LiesAt.to {P Q : Nat → Prop} {w w' : World} (hPQ : ∀ b, P b → Q b) (hw : ∀ b, P b → ∀ o, w'.cell? ⟨b, o, none⟩ = w.cell? ⟨b, o, none⟩) : ∀ {ks : List Tree} {g o : Nat}, P g → LiesAt P w ks g o → LiesAt Q w' ks g o
  | [], g, o, hp, h => by unfold LiesAt; trivial
  | t :: r, g, o, hp, h => by
    unfold LiesAt at h ⊢
    obtain ⟨⟨v, ⟨x0, x1, x2, x3, e, c0, c1, c2, c3⟩, hl⟩, hr⟩ := h
    refine ⟨⟨v, ⟨x0, x1, x2, x3, e, ?_, ?_, ?_, ?_⟩, Lies.to hPQ hw hl⟩, LiesAt.to hPQ hw hp hr⟩
    · rw [hw _ hp]; exact c0
    · rw [hw _ hp]; exact c1
    · rw [hw _ hp]; exact c2
    · rw [hw _ hp]; exact c3
end
/-- the i-th kid -/
theorem LiesAt.get {P : Nat → Prop} {w : World} : ∀ {ks : List Tree} {g o : Nat}, LiesAt P w ks g o → ∀ (i : Nat) (hi : i < ks.length), ∃ v, cell4 w g (o + i * 4) v ∧ Lies P w ks[i] v
  | [], g, o, h, i, hi => by simp at hi
  | t :: r, g, o, h, i, hi => by
    unfold LiesAt at h
    cases i with
    | zero => simpa using h.1
    | succ i =>
      have := LiesAt.get h.2 i (by simpa using hi)
      have e : o + (i + 1) * 4 = o + 4 + i * 4 := by omega
      rw [e]
      exact this
/-- behind a call that leaves all that was there -/
theorem Lies.below {w w' : World} {t : Tree} {v : Value} (h : Lies (· < w.heap.size) w t v) (hb : Below w.heap.size w w') : Lies (· < w'.heap.size) w' t v :=
  h.to (fun b hb' => Nat.lt_of_lt_of_le hb' hb.size) (fun b hb' o => hb.cell (p := ⟨b, o, none⟩) hb')
theorem LiesAt.below {w w' : World} {ks : List Tree} {g o : Nat} (hg : g < w.heap.size) (h : LiesAt (· < w.heap.size) w ks g o) (hb : Below w.heap.size w w') : LiesAt (· < w'.heap.size) w' ks g o :=
  h.to (fun b hb' => Nat.lt_of_lt_of_le hb' hb.size) (fun b hb' o => hb.cell (p := ⟨b, o, none⟩) hb') hg
theorem kid_lt {k : Int} {x : ByteArray} {m : Int} {ks : List Tree} {i : Nat} (hi : i < ks.length) : SizeOf.sizeOf ks[i] < SizeOf.sizeOf (Tree.node k x m ks) := by
  have h1 := List.sizeOf_lt_of_mem (List.getElem_mem hi)
  simp
  omega
end syn
namespace syn
open Go.RowKit
open Go.Proofs.YtkoomoemkffjkaaGreatDoor.lexs (Tok cellsOf tok_cells own_shape numE)

/-- what leaves all blocks that were there but the reader's -/
abbrev Fr (r : Nat) (w w' : World) : Prop := w.grownBy w' (some r)
theorem Fr.refl (r : Nat) (w : World) : Fr r w w := World.grownBy.refl _ _
theorem Fr.trans {r : Nat} {a b c : World} (h : Fr r a b) (k : Fr r b c) : Fr r a c :=
  ⟨k.os.trans h.os, k.tape.trans h.tape, k.output.trans h.output, Nat.le_trans h.size k.size, fun j hj hn => (k.block j (Nat.lt_of_lt_of_le hj h.size) hn).trans (h.block j hj hn)⟩
theorem Fr.set {r : Nat} {w w' : World} (h : Fr r w w') (o : Nat) (v : Value) : Fr r w (w'.setCell ⟨r, o, none⟩ v) :=
  ⟨h.os, h.tape, h.output, by rw [World.size_setCell]; exact h.size, fun j hj hn => (Below.heap_setCell _ _ _ _ (fun e => hn (by rw [e]))).trans (h.block j hj hn)⟩
end syn
namespace syn
open Go.RowKit
open Go.Proofs.YtkoomoemkffjkaaGreatDoor.lexs (Tok ltrI insI)

def SignCells (N : Nat) (w : World) : Prop := ∀ j, j < 9 → w.cell? ⟨N, j, none⟩ = some (.string (sv j)) ∧ w.cell? ⟨N + 1, j, none⟩ = some (.int .i64 (so j)) ∧ w.cell? ⟨N + 2, j, none⟩ = some (.int .i64 (sl j))
theorem rSigns (w : World) : Calls Tryz.prog 68 #[] w fun e w' => e = .returned (.tuple #[.slice (some ⟨w.heap.size, 0, none⟩) 9 9, .slice (some ⟨w.heap.size + 1, 0, none⟩) 9 9, .slice (some ⟨w.heap.size + 2, 0, none⟩) 9 9]) ∧ SignCells w.heap.size w' ∧ Below w.heap.size w w' := by
  go_enter Tryz.func68, Tryz.ntmps68
  go_wp2
  refine bodyPost_ret (v := .tuple #[.slice (some ⟨w.heap.size, 0, none⟩) 9 9, .slice (some ⟨w.heap.size + 1, 0, none⟩) 9 9, .slice (some ⟨w.heap.size + 2, 0, none⟩) 9 9]) (by simp [results, Tryz.results68, go_sem]) rfl ⟨rfl, ?_, (((Below.refl _ _).alloc (Nat.le_refl _) _).alloc (by simp) _).alloc (by simp <;> omega) _⟩
  intro j hj
  rcases nine hj with rfl | rfl | rfl | rfl | rfl | rfl | rfl | rfl | rfl
  all_goals refine ⟨?_, ?_, ?_⟩
  all_goals first | (simp [go_sem]; done) | (simp [go_sem]; rfl) | (simp [World.cell?, World.alloc]; rfl)
section
variable {w : World} {r : Nat} {L : Value} {ts : List Tok} {s : St}
theorem Fr.below {w' : World} (hb : Below w.heap.size w w') : Fr r w w' := ⟨hb.os, hb.tape, hb.output, hb.size, fun j hj _ => hb.block j hj⟩
end
end syn
namespace syn
open Go.RowKit
open Go.Proofs.YtkoomoemkffjkaaGreatDoor.lexs (Tok ltrI insI digB val numE tok_cells own_shape)

section
variable {w : World} {r : Nat} {L : Value} {ts : List Tok} {s : St}
theorem Fr.alloc {w' : World} (h : Fr r w w') (o : Obj) : Fr r w (w'.alloc o) := h.trans (Fr.below ((Below.refl _ _).alloc (Nat.le_refl _) o))
/-- four cells of a block of its own, that can be written -/
structure Box4 (w : World) (N : Nat) (x0 x1 x2 x3 : Value) : Prop where
  c0 : w.cell? ⟨N, 0, none⟩ = some x0
  c1 : w.cell? ⟨N, 1, none⟩ = some x1
  c2 : w.cell? ⟨N, 2, none⟩ = some x2
  c3 : w.cell? ⟨N, 3, none⟩ = some x3
  f0 : w.frozen? ⟨N, 0, none⟩ = false
  f1 : w.frozen? ⟨N, 1, none⟩ = false
  f2 : w.frozen? ⟨N, 2, none⟩ = false
  f3 : w.frozen? ⟨N, 3, none⟩ = false
theorem Box4.new (w : World) (x0 x1 x2 x3 : Value) (T : TypeId) : Box4 (w.alloc (.cells #[x0, x1, x2, x3] T)) w.heap.size x0 x1 x2 x3 := by
  constructor <;> simp
theorem Box4.lt {N : Nat} {x0 x1 x2 x3 : Value} (h : Box4 w N x0 x1 x2 x3) : N < w.heap.size := World.block_lt_of_cell? w ⟨N, 0, none⟩ h.c0
theorem Box4.fr {w' : World} {N : Nat} {x0 x1 x2 x3 : Value} (h : Box4 w N x0 x1 x2 x3) (hF : Fr r w w') (hN : N ≠ r) : Box4 w' N x0 x1 x2 x3 := by
  have hb := hF.block N h.lt (by simpa using hN)
  exact ⟨(World.cell?_of_block (a := ⟨N, 0, none⟩) hb).trans h.c0, (World.cell?_of_block (a := ⟨N, 1, none⟩) hb).trans h.c1, (World.cell?_of_block (a := ⟨N, 2, none⟩) hb).trans h.c2, (World.cell?_of_block (a := ⟨N, 3, none⟩) hb).trans h.c3,
    (World.frozen?_of_block (a := ⟨N, 0, none⟩) hb).trans h.f0, (World.frozen?_of_block (a := ⟨N, 1, none⟩) hb).trans h.f1, (World.frozen?_of_block (a := ⟨N, 2, none⟩) hb).trans h.f2, (World.frozen?_of_block (a := ⟨N, 3, none⟩) hb).trans h.f3⟩
theorem Box4.alloc {N : Nat} {x0 x1 x2 x3 : Value} (h : Box4 w N x0 x1 x2 x3) (o : Obj) : Box4 (w.alloc o) N x0 x1 x2 x3 :=
  h.fr (r := w.heap.size) (Fr.below ((Below.refl _ _).alloc (Nat.le_refl _) o)) (by have := h.lt; omega)
end
end syn
namespace syn
open Go.RowKit
open Go.Proofs.YtkoomoemkffjkaaGreatDoor.lexs (Tok tok_cells own_shape)

section
variable {w : World} {r : Nat} {L : Value} {ts : List Tok} {s : St}
/-- a node's value is four cells -/
theorem Lies.shape {P : Nat → Prop} {t : Tree} {v : Value} (h : Lies P w t v) : ∃ k x m sl, v = .agg #[.int .i64 k, .string x, .int .i64 m, sl] ∧ ∃ a n c, sl = .slice a n c := by
  cases t with
  | node k x m ks =>
    unfold Lies at h
    obtain ⟨a, c, rfl, _⟩ := h
    exact ⟨k, x, m, _, rfl, a, ks.length, c, rfl⟩
theorem Fr.al (w : World) (o : Obj) : Fr r w (w.alloc o) := (Fr.refl _ _).alloc o
end
end syn
namespace syn
open Go.RowKit

/-- the program's table of operators lies where its variable does -/
def HasOps (w : World) : Prop := ∃ cs t fr, w.heap[5]? = some (.cells cs t fr) ∧ cs.size = 20 ∧ ∀ k, k < 10 → cs[k * 2]? = some (.string (opAt k)) ∧ cs[k * 2 + 1]? = some (.int .i64 (opIs k))

theorem hasOps_below {w w' : World} (h : HasOps w) (hb : Below w.heap.size w w') : HasOps w' := by
  obtain ⟨cs, t, fr, h1, h2, h3⟩ := h
  have hlt : 5 < w.heap.size := by
    rcases Nat.lt_or_ge 5 w.heap.size with h | h
    · exact h
    · rw [Array.getElem?_eq_none h] at h1
      simp at h1
  exact ⟨cs, t, fr, by rw [hb.block _ hlt]; exact h1, h2, h3⟩
theorem ten {k : Nat} (h : k < 10) : k = 0 ∨ k = 1 ∨ k = 2 ∨ k = 3 ∨ k = 4 ∨ k = 5 ∨ k = 6 ∨ k = 7 ∨ k = 8 ∨ k = 9 := by omega

theorem one_box {w wr : World} {x0 x1 x2 x3 : Value} {T : TypeId} (h : Below (w.heap.size + 1) (w.alloc (.cells #[x0, x1, x2, x3] T)) wr) :
    wr.cell? ⟨w.heap.size, 0, none⟩ = some x0 ∧ wr.cell? ⟨w.heap.size, 1, none⟩ = some x1 ∧ wr.cell? ⟨w.heap.size, 2, none⟩ = some x2 ∧ wr.cell? ⟨w.heap.size, 3, none⟩ = some x3 ∧ w.heap.size + 1 ≤ wr.heap.size ∧ Below w.heap.size w wr := by
  refine ⟨?_, ?_, ?_, ?_, ?_, ?_⟩
  · rw [h.cell (p := ⟨w.heap.size, 0, none⟩) (by simp)]; simp
  · rw [h.cell (p := ⟨w.heap.size, 1, none⟩) (by simp)]; simp
  · rw [h.cell (p := ⟨w.heap.size, 2, none⟩) (by simp)]; simp
  · rw [h.cell (p := ⟨w.heap.size, 3, none⟩) (by simp)]; simp
  · have := h.size; simpa using this
  · exact ((Below.refl _ _).alloc (Nat.le_refl _) _).trans (h.mono (by omega))
theorem LiesAt.kid1 {w wr : World} {ks : List Tree} {g o : Nat} (hg : g < w.heap.size) (h : LiesAt (· < w.heap.size) w ks g o) (hb : Below w.heap.size w wr) {j : Nat} (hj : j < ks.length) :
    ∃ x0 x1 x2 x3, wr.cell? ⟨g, o + j * 4, none⟩ = some x0 ∧ wr.cell? ⟨g, o + j * 4 + 1, none⟩ = some x1 ∧ wr.cell? ⟨g, o + j * 4 + 2, none⟩ = some x2 ∧ wr.cell? ⟨g, o + j * 4 + 3, none⟩ = some x3 ∧ Lies (· < wr.heap.size) wr ks[j] (.agg #[x0, x1, x2, x3]) := by
  obtain ⟨v, ⟨x0, x1, x2, x3, rfl, c0, c1, c2, c3⟩, hl⟩ := (h.below hg hb).get j hj
  exact ⟨x0, x1, x2, x3, c0, c1, c2, c3, hl⟩
theorem ret_int {x y : Int} (h : x = y) : Ending.returned (.int .i64 x) = .returned (.int .i64 y) := by rw [h]
set_option maxRecDepth 100000 in
set_option maxHeartbeats 1000000 in
theorem rmany (t : Tree) (va : Value) (w : World) (most : Int) (h0 : 0 ≤ most) (h5 : most ≤ 500) (ha : Lies (· < w.heap.size) w t va) :
    Calls Tryz.prog 30 #[va, .int .i64 most] w fun e w' => e = .returned (.int .i64 (manyT t most)) ∧ Below w.heap.size w w' := by
  have c24 : Tryz.prog.cellsOf 24 = 4 := by kernel_rfl
  match t with
  | .node k x m ks =>
    have ih : ∀ i (hi : i < ks.length) (va : Value) (w : World) (most : Int), 0 ≤ most → most ≤ 500 → Lies (· < w.heap.size) w ks[i] va → Calls Tryz.prog 30 #[va, .int .i64 most] w fun e w' => e = .returned (.int .i64 (manyT ks[i] most)) ∧ Below w.heap.size w w' :=
      fun i hi va w most h1 h2 h3 => rmany ks[i] va w most h1 h2 h3
    unfold Lies at ha
    obtain ⟨a, c, rfl, hl, hka⟩ := ha
    obtain ⟨V, hV⟩ : ∃ V, V = manyT (.node k x m ks) most := ⟨_, rfl⟩
    rw [← hV]
    have HV : Hid (manyL (ks.drop 0) 1 most = V) := by show _ = _; rw [hV]; unfold manyT; rfl
    clear hV
    go_enter Tryz.func30, Tryz.ntmps30
    go_wp2
    go_loopw [5, 6] (fun kk i wr => ∃ (j : Nat) (n : Int), j ≤ ks.length ∧ i = .int .i64 j ∧ kk = .int .i64 n ∧ 1 ≤ n ∧ n ≤ most + 1 ∧ Hid (manyL (ks.drop j) n most = V) ∧ Below (w.heap.size + 1) (w.alloc (.cells #[.int .i64 k, .string x, .int .i64 m, .slice a ks.length c] 24)) wr) (fun _ i _ => ks.length - (intOf i).toNat)
    case atStart => exact ⟨0, 1, Nat.zero_le _, rfl, rfl, by omega, by omega, HV.out, Below.refl _ _⟩
    case round =>
      obtain ⟨j, n, hj, rfl, rfl, hn1, hn2, HN, hbr⟩ := hrel
      obtain ⟨q0, q1, q2, q3, hsz, hbw⟩ := one_box hbr
      by_cases hlt : j < ks.length
      · obtain ⟨g, o, rfl, hg, hat⟩ := hka (by intro e; rw [e] at hlt; simp at hlt)
        obtain ⟨x0, x1, x2, x3, c0, c1, c2, c3, hx⟩ := hat.kid1 hg hbw hlt
        have HD : Hid (manyL (ks.drop j) n most = if n ≤ most then manyL (ks.drop (j + 1)) (n + manyT ks[j] (most - n)) most else n) := by
          show _ = _
          rw [List.drop_eq_getElem_cons hlt, manyL]
        by_cases hle : n ≤ most
        · have hC := ih j hlt _ wr (most - n) (by omega) (by omega) hx
          have hb := manyT_bounds ks[j] (most - n) (by omega)
          have HN' : Hid (manyL (ks.drop (j + 1)) (n + manyT ks[j] (most - n)) most = V) := by show _ = _; rw [← HN.out, HD.out, if_pos hle]
          generalize manyT ks[j] (most - n) = mm at hC hb HN'
          clear HD HN
          go_wp2_with (go_at_call 30; refine hC.mono ?_; rintro e w1 ⟨rfl, hb1⟩)
          go_roundw
          case rel => exact ⟨j + 1, n + mm, by omega, by go_num, by go_num, by omega, by omega, HN'.out, hbr.trans (hb1.mono hsz)⟩
          case measure => simp [intOf]; omega
        · have HE : Hid (n = V) := by show _ = _; rw [← HN.out, HD.out, if_neg hle]
          clear HD HN
          go_wp2
          go_ret
          exact ⟨ret_int HE.out, hbw⟩
      · have HE : Hid (n = V) := by
          show _ = _
          rw [← HN.out, List.drop_eq_nil_of_le (by omega), manyL]
        clear HN
        go_wp2
        go_ret
        exact ⟨ret_int HE.out, hbw⟩
termination_by SizeOf.sizeOf t
decreasing_by exact kid_lt hi
set_option maxRecDepth 100000 in
set_option maxHeartbeats 1000000 in
theorem rdeep (t : Tree) (va : Value) (w : World) (most : Int) (h0 : 0 ≤ most) (h5 : most ≤ 500) (ha : Lies (· < w.heap.size) w t va) :
    Calls Tryz.prog 31 #[va, .int .i64 most] w fun e w' => e = .returned (.int .i64 (deepT t most)) ∧ Below w.heap.size w w' := by
  have c24 : Tryz.prog.cellsOf 24 = 4 := by kernel_rfl
  match t with
  | .node k x m ks =>
    have ih : ∀ i (hi : i < ks.length) (va : Value) (w : World) (most : Int), 0 ≤ most → most ≤ 500 → Lies (· < w.heap.size) w ks[i] va → Calls Tryz.prog 31 #[va, .int .i64 most] w fun e w' => e = .returned (.int .i64 (deepT ks[i] most)) ∧ Below w.heap.size w w' :=
      fun i hi va w most h1 h2 h3 => rdeep ks[i] va w most h1 h2 h3
    unfold Lies at ha
    obtain ⟨a, c, rfl, hl, hka⟩ := ha
    obtain ⟨V, hV⟩ : ∃ V, V = deepT (.node k x m ks) most := ⟨_, rfl⟩
    rw [← hV]
    have HV : Hid (deepL (ks.drop 0) 0 most + 1 = V) := by show _ = _; rw [hV]; unfold deepT; rfl
    clear hV
    go_enter Tryz.func31, Tryz.ntmps31
    go_wp2
    go_loopw [5, 6] (fun kk i wr => ∃ (j : Nat) (n : Int), j ≤ ks.length ∧ i = .int .i64 j ∧ kk = .int .i64 n ∧ 0 ≤ n ∧ n ≤ most ∧ Hid (deepL (ks.drop j) n most + 1 = V) ∧ Below (w.heap.size + 1) (w.alloc (.cells #[.int .i64 k, .string x, .int .i64 m, .slice a ks.length c] 24)) wr) (fun _ i _ => ks.length - (intOf i).toNat)
    case atStart => exact ⟨0, 0, Nat.zero_le _, rfl, rfl, by omega, by omega, HV.out, Below.refl _ _⟩
    case round =>
      obtain ⟨j, n, hj, rfl, rfl, hn1, hn2, HN, hbr⟩ := hrel
      obtain ⟨q0, q1, q2, q3, hsz, hbw⟩ := one_box hbr
      by_cases hlt : j < ks.length
      · obtain ⟨g, o, rfl, hg, hat⟩ := hka (by intro e; rw [e] at hlt; simp at hlt)
        obtain ⟨x0, x1, x2, x3, c0, c1, c2, c3, hx⟩ := hat.kid1 hg hbw hlt
        have HD : Hid (deepL (ks.drop j) n most = if 0 < most ∧ n ≤ most then deepL (ks.drop (j + 1)) (max n (deepT ks[j] (most - 1))) most else n) := by
          show _ = _
          rw [List.drop_eq_getElem_cons hlt, deepL]
        by_cases hle : 0 < most
        · have hC := ih j hlt _ wr (most - 1) (by omega) (by omega) hx
          have hb := deepT_bounds ks[j] (most - 1) (by omega)
          have HN' : Hid (deepL (ks.drop (j + 1)) (max n (deepT ks[j] (most - 1))) most + 1 = V) := by show _ = _; rw [← HN.out, HD.out, if_pos ⟨hle, hn2⟩]
          generalize deepT ks[j] (most - 1) = mm at hC hb HN'
          have emax : max n mm = if n < mm then mm else n := by rw [Int.max_def]; split <;> split <;> omega
          rw [emax] at HN'
          have HX : Hid (max n mm = if n < mm then mm else n) := emax
          clear emax
          clear HD HN
          go_wp2_with (go_at_call 31; refine hC.mono ?_; rintro e w1 ⟨rfl, hb1⟩)
          go_roundw
          case rel => exact ⟨j + 1, if n < mm then mm else n, by omega, by go_num, by first | rfl | rw [HX.out], by split <;> omega, by split <;> omega, HN'.out, hbr.trans (hb1.mono hsz)⟩
          case measure => simp [intOf]; omega
        · have HE : Hid (n + 1 = V) := by show _ = _; rw [← HN.out, HD.out, if_neg (fun h => hle h.1)]
          clear HD HN
          go_wp2
          go_ret
          exact ⟨ret_int HE.out, hbw⟩
      · have HE : Hid (n + 1 = V) := by
          show _ = _
          rw [← HN.out, List.drop_eq_nil_of_le (by omega), deepL]
        clear HN
        go_wp2
        go_ret
        exact ⟨ret_int HE.out, hbw⟩
termination_by SizeOf.sizeOf t
decreasing_by exact kid_lt hi
set_option maxRecDepth 100000 in
set_option maxHeartbeats 1000000 in
theorem rfits (t : Tree) (va : Value) (w : World) (ha : Lies (· < w.heap.size) w t va) :
    Calls Tryz.prog 13 #[va] w fun e w' => e = .returned (.bool (fitsT t)) ∧ Below w.heap.size w w' := by
  have c24 : Tryz.prog.cellsOf 24 = 4 := by kernel_rfl
  have hs := ha
  cases t with
  | node k x m ks =>
    unfold Lies at hs
    obtain ⟨a, c, rfl, _, _⟩ := hs
    have ha1 : Lies (· < (w.alloc (.cells #[.int .i64 k, .string x, .int .i64 m, .slice a ks.length c] 24)).heap.size) (w.alloc (.cells #[.int .i64 k, .string x, .int .i64 m, .slice a ks.length c] 24)) (.node k x m ks) (.agg #[.int .i64 k, .string x, .int .i64 m, .slice a ks.length c]) := ha.below ((Below.refl _ _).alloc (Nat.le_refl _) _)
    have hM := rmany (.node k x m ks) _ _ 500 (by omega) (by omega) ha1
    have hD := fun (w1 : World) (h : Lies (· < w1.heap.size) w1 (.node k x m ks) (.agg #[.int .i64 k, .string x, .int .i64 m, .slice a ks.length c])) => rdeep (.node k x m ks) _ w1 16 (by omega) (by omega) h
    unfold fitsT
    generalize manyT (.node k x m ks) 500 = mm at hM ⊢
    generalize deepT (.node k x m ks) 16 = dd at hD ⊢
    by_cases h5 : 500 < mm
    · rw [if_pos h5]
      go_enter Tryz.func13, Tryz.ntmps13
      go_wp2_with (go_at_call 30; refine hM.mono ?_; rintro e w1 ⟨rfl, hb1⟩)
      go_ret
      exact ⟨rfl, ((Below.refl _ _).alloc (Nat.le_refl _) _).trans (hb1.mono (by simp))⟩
    · rw [if_neg h5]
      go_enter Tryz.func13, Tryz.ntmps13
      go_wp2_with (first
        | (go_at_call 30; refine hM.mono ?_; rintro e w1 ⟨rfl, hb1⟩; have hbb : Below (w.heap.size + 1) (w.alloc (.cells #[.int .i64 k, .string x, .int .i64 m, .slice a ks.length c] 24)) w1 := hb1.mono (by simp); obtain ⟨q0, q1, q2, q3, hsz, hbw⟩ := one_box hbb)
        | (go_at_call 31; refine (hD _ (ha1.below hb1)).mono ?_; rintro e w2 ⟨rfl, hb2⟩))
      go_ret
      exact ⟨rfl, hbw.trans (hb2.mono (by omega))⟩
end syn
namespace syn
open Go.RowKit
open Go.Proofs.YtkoomoemkffjkaaGreatDoor.lexs (Tok own_shape)

section
variable {w w' w0 : World} {r G B : Nat} {ts : List Tok} {s : St}
theorem recover_some {P : Program} {Q : Exit → Act → List Frame → World → Prop} {a : Act} {cs cs' : List Frame} {w : World} {y : Code} {v : Value} {d : Nat} {T : TypeId} {pos : String} (h : recoverD cs = some (v, cs')) (hy : y.wpS P Q (a.put (some d) v) cs' w) :
    ((Code.region 0 #[{ dst := some d, op := Op.call { callee := Callee.builtin Builtin.recover, args := #[], argTypes := #[] }, type := T, pos := pos, after := #[], guard := none }] false).seq y).wpS P Q a cs w := by
  apply wpS_seq
  apply wpS_region
  simp [wpOpsS, go_sem, h, Exit.thenS]
  exact hy
theorem recover_none {P : Program} {Q : Exit → Act → List Frame → World → Prop} {a : Act} {cs : List Frame} {w : World} {y : Code} {d : Nat} {T : TypeId} {pos : String} (h : recoverD cs = none) (hy : y.wpS P Q (a.put (some d) .nilIface) cs w) :
    ((Code.region 0 #[{ dst := some d, op := Op.call { callee := Callee.builtin Builtin.recover, args := #[], argTypes := #[] }, type := T, pos := pos, after := #[], guard := none }] false).seq y).wpS P Q a cs w := by
  apply wpS_seq
  apply wpS_region
  simp [wpOpsS, go_sem, h, Exit.thenS]
  exact hy
end
end syn
namespace syn
open Go.RowKit

/-- what isWithin answers: whether all is within the limits, and if so how many there are -/
def WiOut (w : World) (P : Nat) (o : Option Int) (e : Ending) (w' : World) : Prop :=
  e = .returned (.bool o.isSome) ∧ (∀ c', o = some c' → w'.cell? ⟨P, 0, none⟩ = some (.int .i64 c')) ∧ w'.frozen? ⟨P, 0, none⟩ = false ∧ Fr P w w'
theorem withinL_step {ks : List Tree} {j : Nat} (hj : j < ks.length) (d c : Int) : withinL (ks.drop j) d c = match withinT ks[j] d c with | none => none | some c' => withinL (ks.drop (j + 1)) d c' := by
  rw [List.drop_eq_getElem_cons hj, withinL]
  all_goals (cases withinT ks[j] d c <;> rfl)
theorem withinT_le {t : Tree} {d c c' : Int} (h1 : 0 ≤ c) (h2 : c ≤ 500) (h3 : 1 ≤ d) (h4 : d ≤ 17) (h : withinT t d c = some c') : 0 ≤ c' ∧ c' ≤ 500 := by
  rw [withinT_is t d c h1 h2 h3 h4] at h
  have := cntT_pos t
  split at h
  · simp only [Option.some.injEq] at h
    omega
  · simp at h
theorem pk_set {w : World} {P : Nat} {u v : Value} {o : Obj} (hc : w.cell? ⟨P, 0, none⟩ = some u) (hf : w.frozen? ⟨P, 0, none⟩ = false) : ((w.setCell ⟨P, 0, none⟩ v).alloc o).cell? ⟨P, 0, none⟩ = some v ∧ ((w.setCell ⟨P, 0, none⟩ v).alloc o).frozen? ⟨P, 0, none⟩ = false := by
  have hl : P < (w.setCell ⟨P, 0, none⟩ v).heap.size := by rw [World.size_setCell]; exact World.block_lt_of_cell? w ⟨P, 0, none⟩ hc
  have hb := ((Below.refl (w.setCell ⟨P, 0, none⟩ v).heap.size (w.setCell ⟨P, 0, none⟩ v)).alloc (Nat.le_refl _) o).block P hl
  exact ⟨(World.cell?_of_block (a := ⟨P, 0, none⟩) hb).trans (World.cell?_setCell_same _ _ _ hc), (World.frozen?_of_block (a := ⟨P, 0, none⟩) hb).trans (by simp [hf])⟩
theorem pk_al {w : World} {P : Nat} {u : Value} (o : Obj) (hc : w.cell? ⟨P, 0, none⟩ = some u) (hf : w.frozen? ⟨P, 0, none⟩ = false) : (w.alloc o).cell? ⟨P, 0, none⟩ = some u ∧ (w.alloc o).frozen? ⟨P, 0, none⟩ = false := by
  have hb := ((Below.refl w.heap.size w).alloc (Nat.le_refl _) o).block P (World.block_lt_of_cell? w ⟨P, 0, none⟩ hc)
  exact ⟨(World.cell?_of_block (a := ⟨P, 0, none⟩) hb).trans hc, (World.frozen?_of_block (a := ⟨P, 0, none⟩) hb).trans hf⟩
set_option maxHeartbeats 4000000 in
theorem owithin (t : Tree) (va : Value) (w : World) (P : Nat) (d c : Int) (hc0 : 0 ≤ c) (hc5 : c ≤ 500) (hd1 : 1 ≤ d) (hd17 : d ≤ 17) (hP : w.cell? ⟨P, 0, none⟩ = some (.int .i64 c)) (hPf : w.frozen? ⟨P, 0, none⟩ = false)
    (ha : Lies (fun b => b < w.heap.size ∧ b ≠ P) w t va) : Calls Tryz.prog 24 #[va, .int .i64 d, .pointer (some ⟨P, 0, none⟩)] w (WiOut w P (withinT t d c)) := by
  have c24 : Tryz.prog.cellsOf 24 = 4 := by kernel_rfl
  have hPl : P < w.heap.size := World.block_lt_of_cell? w ⟨P, 0, none⟩ hP
  match t, ha with
  | .node k x m ks, ha =>
    have ih : ∀ (j : Nat) (hj : j < ks.length) (va : Value) (w : World) (c : Int), 0 ≤ c → c ≤ 500 → d + 1 ≤ 17 → w.cell? ⟨P, 0, none⟩ = some (.int .i64 c) → w.frozen? ⟨P, 0, none⟩ = false → Lies (fun b => b < w.heap.size ∧ b ≠ P) w ks[j] va →
        Calls Tryz.prog 24 #[va, .int .i64 (d + 1), .pointer (some ⟨P, 0, none⟩)] w (WiOut w P (withinT ks[j] (d + 1) c)) := fun j hj va w c h1 h2 h3 h4 h5 h6 => owithin ks[j] va w P (d + 1) c h1 h2 (by omega) h3 h4 h5 h6
    unfold Lies at ha
    obtain ⟨a, cp, rfl, hlk, hka⟩ := ha
    have hB0 := Box4.new w (.int .i64 k) (.string x) (.int .i64 m) (.slice a ks.length cp) 24
    unfold withinT
    by_cases h16 : 16 < d
    · rw [if_pos (.inl h16)]
      go_enter Tryz.func24, Tryz.ntmps24
      go_wp2
      go_ret
      exact ⟨rfl, fun c' h => by simp at h, (pk_set hP hPf).2, ((Fr.refl _ _).set _ _).alloc _⟩
    by_cases h500 : 500 < c + 1
    · rw [if_pos (.inr h500)]
      go_enter Tryz.func24, Tryz.ntmps24
      go_wp2
      go_ret
      exact ⟨rfl, fun c' h => by simp at h, (pk_set hP hPf).2, ((Fr.refl _ _).set _ _).alloc _⟩
    rw [if_neg (by omega)]
    obtain ⟨V, hV⟩ : ∃ V, V = withinL ks (d + 1) (c + 1) := ⟨_, rfl⟩
    rw [← hV]
    have HV : Hid (withinL (ks.drop 0) (d + 1) (c + 1) = V) := hV.symm
    clear hV
    have hlk' : (ks.length : Int) ≤ 4611686018427387904 := by omega
    go_enter Tryz.func24, Tryz.ntmps24
    go_wp2
    go_loopw [25] (fun i wr => ∃ (j : Nat) (n : Int), j ≤ ks.length ∧ i = .int .i64 j ∧ 0 ≤ n ∧ n ≤ 500 ∧ Hid (withinL (ks.drop j) (d + 1) n = V) ∧ wr.cell? ⟨P, 0, none⟩ = some (.int .i64 n) ∧ wr.frozen? ⟨P, 0, none⟩ = false ∧ Fr P w wr ∧ Box4 wr w.heap.size (.int .i64 k) (.string x) (.int .i64 m) (.slice a ks.length cp)) (fun i _ => ks.length - (intOf i).toNat)
    case atStart =>
      refine ⟨0, c + 1, Nat.zero_le _, rfl, by omega, by omega, HV.out, ?_, ?_, ?_, ?_⟩
      · exact (pk_set hP hPf).1
      · exact (pk_set hP hPf).2
      · exact ((Fr.refl _ _).set _ _).alloc _
      · have := Box4.new (w.setCell ⟨P, 0, none⟩ (.int .i64 (c + 1))) (.int .i64 k) (.string x) (.int .i64 m) (.slice a ks.length cp) 24
        rw [World.size_setCell] at this
        exact this
    case round =>
      obtain ⟨j, n, hj, rfl, hn0, hn5, HN, hPc, hPf', hFr, hb⟩ := hrel
      have hzr := hb.lt
      obtain ⟨p0, p1, p2, p3, _, _, _, _⟩ := id hb
      by_cases hlt : j < ks.length
      · obtain ⟨g, o, rfl, hg, hat⟩ := hka (by intro e; rw [e] at hlt; simp at hlt)
        have hat' := hat.to (w' := wr) (Q := fun b => b < wr.heap.size ∧ b ≠ P) (fun b hb => ⟨Nat.lt_of_lt_of_le hb.1 hFr.size, hb.2⟩) (fun b hb o => World.cell?_of_block (a := ⟨b, o, none⟩) (hFr.block b hb.1 (by simpa using hb.2))) hg
        obtain ⟨v, ⟨x0, x1, x2, x3, rfl, c0, c1, c2, c3⟩, hlk'⟩ := hat'.get j hlt
        have hgl : g < wr.heap.size := Nat.lt_of_lt_of_le hg.1 hFr.size
        obtain ⟨kk, xx, mm, _, he, aa, na, ca, rfl⟩ := hlk'.shape
        injection he with he
        simp only [Array.mk.injEq, List.cons.injEq, and_true] at he
        obtain ⟨rfl, rfl, rfl, rfl⟩ := he
        have hal := pk_al (.cells #[.int .i64 kk, .string xx, .int .i64 mm, .slice aa na ca] 24) hPc hPf'
        have hC := ih j hlt _ (wr.alloc (.cells #[.int .i64 kk, .string xx, .int .i64 mm, .slice aa na ca] 24)) n hn0 hn5 (by omega) hal.1 hal.2 (hlk'.to (fun b hb => ⟨by rw [World.size_alloc]; omega, hb.2⟩) (fun b hb o => ((Below.refl wr.heap.size wr).alloc (Nat.le_refl _) _).cell (p := ⟨b, o, none⟩) hb.1))
        have HS : Hid (withinL (ks.drop j) (d + 1) n = match withinT ks[j] (d + 1) n with | none => none | some c' => withinL (ks.drop (j + 1)) (d + 1) c') := withinL_step hlt _ _
        have HW : Hid (∀ c', withinT ks[j] (d + 1) n = some c' → 0 ≤ c' ∧ c' ≤ 500) := fun c' h => withinT_le hn0 hn5 (by omega) (by omega) h
        clear ih
        generalize hwt : withinT ks[j] (d + 1) n = wt at *
        clear hwt
        cases wt with
        | none =>
          have HE : Hid (V = none) := by show _ = _; rw [← HN.out, HS.out]
          go_wp2_with (fail)
          refine hC.mono ?_
          rintro e w3 ⟨rfl, h1, h2, h3⟩
          go_wp2
          go_ret
          exact ⟨by rw [HE.out]; rfl, fun c' h => by rw [HE.out] at h; simp at h, h2, (hFr.trans (Fr.al _ _)).trans h3⟩
        | some c' =>
          have HE : Hid (withinL (ks.drop (j + 1)) (d + 1) c' = V) := by show _ = _; rw [← HN.out, HS.out]
          have hcc := HW.out c' rfl
          go_wp2_with (fail)
          refine hC.mono ?_
          rintro e w3 ⟨rfl, h1, h2, h3⟩
          go_wp2
          go_roundw
          case rel => exact ⟨j + 1, c', by omega, by go_num, hcc.1, hcc.2, HE.out, h1 c' rfl, h2, (hFr.trans (Fr.al _ _)).trans h3, (hb.alloc _).fr h3 (by omega)⟩
          case measure => simp [intOf]; omega
      · have HE : Hid (V = some n) := by
          show _ = _
          rw [← HN.out, List.drop_eq_nil_of_le (by omega), withinL]
        go_wp2
        go_ret
        exact ⟨by rw [HE.out]; rfl, fun c' h => by
          rw [HE.out] at h
          simp only [Option.some.injEq] at h
          rw [← h]
          exact hPc, hPf', hFr⟩
termination_by SizeOf.sizeOf t
decreasing_by exact kid_lt hj
theorem osmall (t : Tree) (va : Value) (w : World) (ha : Lies (· < w.heap.size) w t va) :
    Calls Tryz.prog 10 #[va] w fun e w' => e = .returned (.bool (fitsT t)) ∧ Below w.heap.size w w' := by
  have c24 : Tryz.prog.cellsOf 24 = 4 := by kernel_rfl
  obtain ⟨k, x, m, _, rfl, a, n, c, rfl⟩ := ha.shape
  have hw := within_fits t
  have hs : ((w.alloc (.cells #[.int .i64 k, .string x, .int .i64 m, .slice a n c] 24)).alloc (.cells #[.int .i64 0] 3)).heap.size = w.heap.size + 2 := by simp
  have hC := owithin t (.agg #[.int .i64 k, .string x, .int .i64 m, .slice a n c]) ((w.alloc (.cells #[.int .i64 k, .string x, .int .i64 m, .slice a n c] 24)).alloc (.cells #[.int .i64 0] 3)) (w.heap.size + 1) 1 0 (by omega) (by omega) (by omega) (by omega) (by rw [← World.size_alloc w (.cells #[.int .i64 k, .string x, .int .i64 m, .slice a n c] 24)]; simp) (by rw [← World.size_alloc w (.cells #[.int .i64 k, .string x, .int .i64 m, .slice a n c] 24)]; simp)
    (ha.to (fun b hb => ⟨by omega, by omega⟩) (fun b hb o => (((Below.refl w.heap.size w).alloc (Nat.le_refl _) _).alloc (by simp) _).cell (p := ⟨b, o, none⟩) hb))
  go_enter Tryz.func10, Tryz.ntmps10
  go_wp2_with (fail)
  refine hC.mono ?_
  rintro e w3 ⟨rfl, h1, h2, h3⟩
  go_wp2
  go_ret
  refine ⟨by rw [← hw]; rfl, ?_⟩
  have hb := ((Below.refl w.heap.size w).alloc (Nat.le_refl _) (.cells #[.int .i64 k, .string x, .int .i64 m, .slice a n c] 24)).alloc (by simp) (.cells #[.int .i64 0] 3)
  exact ⟨h3.os.trans hb.os, h3.tape.trans hb.tape, h3.output.trans hb.output, Nat.le_trans hb.size h3.size, fun j hj => (h3.block j (by omega) (by simp; omega)).trans (hb.block j hj)⟩
end syn
namespace face
open Go.RowKit Go.ChangeShapes Go.WideShapes
open Go.Proofs.YtkoomoemkffjkaaGreatDoor.syn (isName eqS)

/-- a row of numbers -/
def IntsIn (w : World) (v : Value) (l : List Int) : Prop := ∃ a c, v = .slice a l.length c ∧ l.length ≤ 9223372036854775807 ∧
  (l ≠ [] → ∃ g o, a = some ⟨g, o, none⟩ ∧ ∀ i (h : i < l.length), w.cell? ⟨g, o + i, none⟩ = some (.int .i64 l[i]))
/-! what was there stays -/
theorem keep {w w' : World} {a : Addr} {x : Value} (h : w.cell? a = some x) (hb : Below w.heap.size w w') : w'.cell? a = some x := by
  rw [hb.cell (World.block_lt_of_cell? w a h)]; exact h
theorem IntsIn.below {w w' : World} {v : Value} {l : List Int} (h : IntsIn w v l) (hb : Below w.heap.size w w') : IntsIn w' v l := by
  obtain ⟨a, c, e, hl, hk⟩ := h
  refine ⟨a, c, e, hl, fun hne => ?_⟩
  obtain ⟨g, o, e2, hc⟩ := hk hne
  exact ⟨g, o, e2, fun i hi => keep (hc i hi) hb⟩
/-! an argument is opened -/
theorem plain_addr {w : World} {a : Addr} {v : Value} (h : w.cell? a = some v) : ∃ g o, a = ⟨g, o, none⟩ := by
  obtain ⟨g, o, s⟩ := a
  cases s with
  | none => exact ⟨g, o, rfl⟩
  | some s =>
    unfold World.cell? at h
    simp only at h
    split at h
    · simp at h
    · cases h
section
variable {H : Type} {enc : TypeId × Value → H} {W : World} {n : Nat}
theorem cell1s : Tryz.prog.cellsOf 9 = 1 := by kernel_rfl
theorem cell1i : Tryz.prog.cellsOf 3 = 1 := by kernel_rfl
theorem reach_le : reachBytes ≤ 4611686018427387903 := by decide
end
end face
namespace face
open Go.RowKit
open Go.Proofs.YtkoomoemkffjkaaGreatDoor.syn

/-! of a variable -/
/-! kids of a module -/
def strV (l : List ByteArray) : List Value := l.map Value.string
theorem infoS : (Tryz.prog.info? 9).map (fun i => (i.zero, i.size, i.bytes)) = some (some (.string ⟨#[]⟩), 1, 16) := by kernel_rfl
end face
namespace chk
open Go.RowKit Go.Shelf
open Go.Proofs.YtkoomoemkffjkaaGreatDoor.syn Go.Proofs.YtkoomoemkffjkaaGreatDoor.face
attribute [local go_sem] Oper.semAt_some
set_option linter.unusedVariables false
set_option linter.unusedSimpArgs false

attribute [local go_sem] Oper.semAt_some
set_option linter.unusedVariables false
set_option linter.unusedSimpArgs false

end chk
namespace face
open Go.RowKit Go.Maps Go.WideMaps
open Go.Proofs.YtkoomoemkffjkaaGreatDoor.syn (isName eqS)

/-! how many names are known: plain facts -/
/-! the map while it is filled -/
theorem grown_of_below {w w' : World} (hb : Below w.heap.size w w') : w.grownBy w' none := ⟨hb.os, hb.tape, hb.output, hb.size, fun j hj _ => hb.block j hj⟩
end face
namespace face
open Go.RowKit
open Go.Proofs.YtkoomoemkffjkaaGreatDoor.syn (isName eqS)

/-- a row of texts -/
def StrsIn (w : World) (v : Value) (l : List ByteArray) : Prop := ∃ a c, v = .slice a l.length c ∧ l.length ≤ 9223372036854775807 ∧
  (l ≠ [] → ∃ g o, a = some ⟨g, o, none⟩ ∧ ∀ i (h : i < l.length), w.cell? ⟨g, o + i, none⟩ = some (.string l[i]))
end face
namespace face
open Go.RowKit
open Go.Proofs.YtkoomoemkffjkaaGreatDoor.syn

theorem news_new (w : World) (cs : Array Value) (T : TypeId) (n : Nat) (hn : n = w.heap.size) : ∀ j u, cs.toList[j]? = some u → (w.alloc (.cells cs T)).cell? ((⟨n, 0, none⟩ : Addr).add j) = some u := by
  subst hn
  exact World.news_of_block (MapKept.heap_alloc w _).1

theorem strs_own {w : World} {B : Nat} {v : Value} {L : List ByteArray} (h : w.ownsRow B 9 1 v L.length (strV L)) : StrsIn w v L := by
  rcases h.2 with ⟨rfl, hn⟩ | ⟨g, cap, cur, rfl, _, _, h1, h2, _⟩
  · have : L = [] := List.length_eq_zero_iff.1 hn
    subst this
    exact ⟨none, 0, rfl, by simp, fun h => absurd rfl h⟩
  · refine ⟨some ⟨g, 0, none⟩, cap, rfl, by unfold maxLen at h2; omega, fun _ => ⟨g, 0, rfl, fun i hi => ?_⟩⟩
    have := h.cellAt i (by omega)
    rw [Nat.zero_add, this]
    unfold strV
    rw [List.getElem?_map, List.getElem?_eq_getElem hi]
    rfl
end face
namespace face
open Go.RowKit
open Go.Proofs.YtkoomoemkffjkaaGreatDoor.lexs (Tok scan cellsOf tok_cells own_shape scan_own HasErr Scans)
open Go.Proofs.YtkoomoemkffjkaaGreatDoor.syn (isName reserved eqS empty)

theorem eqS_lit (y : ByteArray) (l : List UInt8) : eqS y ⟨l.toArray⟩ = (y.toList == l) := by unfold eqS; rw [ByteArray.toList_eq ⟨l.toArray⟩]
theorem eqS_comm (x y : ByteArray) : eqS x y = eqS y x := by unfold eqS; rw [Bool.eq_iff_iff]; simp only [beq_iff_eq]; exact eq_comm
theorem reserved_any (x : ByteArray) : (reserved.any fun y => eqS y x) = ((x.toList == [100, 111]) || (x.toList == [101, 108, 115, 101]) || (x.toList == [103, 105, 118, 101, 115]) || (x.toList == [104, 105, 103, 104]) || (x.toList == [105, 102]) || (x.toList == [105, 109, 112, 111, 114, 116]) || (x.toList == [105, 110]) || (x.toList == [108, 111, 119]) || (x.toList == [109, 111, 100, 117, 108, 101]) || (x.toList == [111, 117, 116]) || (x.toList == [112, 114, 111, 99]) || (x.toList == [112, 117, 98]) || (x.toList == [114, 101, 116, 117, 114, 110]) || (x.toList == [119, 104, 105, 108, 101])) := by
  have h : (reserved.any fun y => eqS y x) = (reserved.any fun y => eqS x y) := by
    rw [Bool.eq_iff_iff, List.any_eq_true, List.any_eq_true]
    constructor
    · rintro ⟨y, h1, h2⟩; exact ⟨y, h1, by rw [eqS_comm]; exact h2⟩
    · rintro ⟨y, h1, h2⟩; exact ⟨y, h1, by rw [eqS_comm]; exact h2⟩
  rw [h]
  unfold reserved
  simp only [List.any_cons, List.any_nil, Bool.or_false]
  rw [show eqS x ⟨#[100, 111]⟩ = (x.toList == [100, 111]) from eqS_lit x [100, 111], show eqS x ⟨#[101, 108, 115, 101]⟩ = (x.toList == [101, 108, 115, 101]) from eqS_lit x [101, 108, 115, 101], show eqS x ⟨#[103, 105, 118, 101, 115]⟩ = (x.toList == [103, 105, 118, 101, 115]) from eqS_lit x [103, 105, 118, 101, 115], show eqS x ⟨#[104, 105, 103, 104]⟩ = (x.toList == [104, 105, 103, 104]) from eqS_lit x [104, 105, 103, 104], show eqS x ⟨#[105, 102]⟩ = (x.toList == [105, 102]) from eqS_lit x [105, 102], show eqS x ⟨#[105, 109, 112, 111, 114, 116]⟩ = (x.toList == [105, 109, 112, 111, 114, 116]) from eqS_lit x [105, 109, 112, 111, 114, 116], show eqS x ⟨#[105, 110]⟩ = (x.toList == [105, 110]) from eqS_lit x [105, 110], show eqS x ⟨#[108, 111, 119]⟩ = (x.toList == [108, 111, 119]) from eqS_lit x [108, 111, 119], show eqS x ⟨#[109, 111, 100, 117, 108, 101]⟩ = (x.toList == [109, 111, 100, 117, 108, 101]) from eqS_lit x [109, 111, 100, 117, 108, 101], show eqS x ⟨#[111, 117, 116]⟩ = (x.toList == [111, 117, 116]) from eqS_lit x [111, 117, 116], show eqS x ⟨#[112, 114, 111, 99]⟩ = (x.toList == [112, 114, 111, 99]) from eqS_lit x [112, 114, 111, 99], show eqS x ⟨#[112, 117, 98]⟩ = (x.toList == [112, 117, 98]) from eqS_lit x [112, 117, 98], show eqS x ⟨#[114, 101, 116, 117, 114, 110]⟩ = (x.toList == [114, 101, 116, 117, 114, 110]) from eqS_lit x [114, 101, 116, 117, 114, 110], show eqS x ⟨#[119, 104, 105, 108, 101]⟩ = (x.toList == [119, 104, 105, 108, 101]) from eqS_lit x [119, 104, 105, 108, 101]]
  simp only [Bool.or_assoc]
theorem oisName (k a : Int) (x : ByteArray) (w : World) :
    Calls Tryz.prog 72 #[.agg #[.int .i64 k, .string x, .int .i64 a]] w fun e w' => e = .returned (.bool (!(reserved.any fun y => eqS y x) && k == 1)) ∧ Below w.heap.size w w' := by
  have c29 : Tryz.prog.cellsOf 109 = 3 := by kernel_rfl
  rw [reserved_any]
  cases h0 : (x.toList == [100, 111])
  case true =>
    simp only [Bool.true_or, Bool.or_true, Bool.false_or, Bool.not_true, Bool.false_and]
    go_enter Tryz.func72, Tryz.ntmps72
    go_wp2
    go_ret
    exact ⟨rfl, (Below.refl _ _).alloc (Nat.le_refl _) _⟩
  cases h1 : (x.toList == [101, 108, 115, 101])
  case true =>
    simp only [Bool.true_or, Bool.or_true, Bool.false_or, Bool.not_true, Bool.false_and]
    go_enter Tryz.func72, Tryz.ntmps72
    go_wp2
    go_ret
    exact ⟨rfl, (Below.refl _ _).alloc (Nat.le_refl _) _⟩
  cases h2 : (x.toList == [103, 105, 118, 101, 115])
  case true =>
    simp only [Bool.true_or, Bool.or_true, Bool.false_or, Bool.not_true, Bool.false_and]
    go_enter Tryz.func72, Tryz.ntmps72
    go_wp2
    go_ret
    exact ⟨rfl, (Below.refl _ _).alloc (Nat.le_refl _) _⟩
  cases h3 : (x.toList == [104, 105, 103, 104])
  case true =>
    simp only [Bool.true_or, Bool.or_true, Bool.false_or, Bool.not_true, Bool.false_and]
    go_enter Tryz.func72, Tryz.ntmps72
    go_wp2
    go_ret
    exact ⟨rfl, (Below.refl _ _).alloc (Nat.le_refl _) _⟩
  cases h4 : (x.toList == [105, 102])
  case true =>
    simp only [Bool.true_or, Bool.or_true, Bool.false_or, Bool.not_true, Bool.false_and]
    go_enter Tryz.func72, Tryz.ntmps72
    go_wp2
    go_ret
    exact ⟨rfl, (Below.refl _ _).alloc (Nat.le_refl _) _⟩
  cases h5 : (x.toList == [105, 109, 112, 111, 114, 116])
  case true =>
    simp only [Bool.true_or, Bool.or_true, Bool.false_or, Bool.not_true, Bool.false_and]
    go_enter Tryz.func72, Tryz.ntmps72
    go_wp2
    go_ret
    exact ⟨rfl, (Below.refl _ _).alloc (Nat.le_refl _) _⟩
  cases h6 : (x.toList == [105, 110])
  case true =>
    simp only [Bool.true_or, Bool.or_true, Bool.false_or, Bool.not_true, Bool.false_and]
    go_enter Tryz.func72, Tryz.ntmps72
    go_wp2
    go_ret
    exact ⟨rfl, (Below.refl _ _).alloc (Nat.le_refl _) _⟩
  cases h7 : (x.toList == [108, 111, 119])
  case true =>
    simp only [Bool.true_or, Bool.or_true, Bool.false_or, Bool.not_true, Bool.false_and]
    go_enter Tryz.func72, Tryz.ntmps72
    go_wp2
    go_ret
    exact ⟨rfl, (Below.refl _ _).alloc (Nat.le_refl _) _⟩
  cases h8 : (x.toList == [109, 111, 100, 117, 108, 101])
  case true =>
    simp only [Bool.true_or, Bool.or_true, Bool.false_or, Bool.not_true, Bool.false_and]
    go_enter Tryz.func72, Tryz.ntmps72
    go_wp2
    go_ret
    exact ⟨rfl, (Below.refl _ _).alloc (Nat.le_refl _) _⟩
  cases h9 : (x.toList == [111, 117, 116])
  case true =>
    simp only [Bool.true_or, Bool.or_true, Bool.false_or, Bool.not_true, Bool.false_and]
    go_enter Tryz.func72, Tryz.ntmps72
    go_wp2
    go_ret
    exact ⟨rfl, (Below.refl _ _).alloc (Nat.le_refl _) _⟩
  cases h10 : (x.toList == [112, 114, 111, 99])
  case true =>
    simp only [Bool.true_or, Bool.or_true, Bool.false_or, Bool.not_true, Bool.false_and]
    go_enter Tryz.func72, Tryz.ntmps72
    go_wp2
    go_ret
    exact ⟨rfl, (Below.refl _ _).alloc (Nat.le_refl _) _⟩
  cases h11 : (x.toList == [112, 117, 98])
  case true =>
    simp only [Bool.true_or, Bool.or_true, Bool.false_or, Bool.not_true, Bool.false_and]
    go_enter Tryz.func72, Tryz.ntmps72
    go_wp2
    go_ret
    exact ⟨rfl, (Below.refl _ _).alloc (Nat.le_refl _) _⟩
  cases h12 : (x.toList == [114, 101, 116, 117, 114, 110])
  case true =>
    simp only [Bool.true_or, Bool.or_true, Bool.false_or, Bool.not_true, Bool.false_and]
    go_enter Tryz.func72, Tryz.ntmps72
    go_wp2
    go_ret
    exact ⟨rfl, (Below.refl _ _).alloc (Nat.le_refl _) _⟩
  cases h13 : (x.toList == [119, 104, 105, 108, 101])
  case true =>
    simp only [Bool.true_or, Bool.or_true, Bool.false_or, Bool.not_true, Bool.false_and]
    go_enter Tryz.func72, Tryz.ntmps72
    go_wp2
    go_ret
    exact ⟨rfl, (Below.refl _ _).alloc (Nat.le_refl _) _⟩
  simp only [Bool.or_false, Bool.not_false, Bool.true_and]
  go_enter Tryz.func72, Tryz.ntmps72
  go_wp2
  go_ret
  exact ⟨rfl, (Below.refl _ _).alloc (Nat.le_refl _) _⟩
theorem cell_alloc {w : World} {a : Addr} {v : Value} (h : w.cell? a = some v) (ob : Obj) : (w.alloc ob).cell? a = some v := by
  rw [((Below.refl _ _).alloc (Nat.le_refl _) ob).cell (World.block_lt_of_cell? w a h)]; exact h
set_option maxHeartbeats 1000000 in
theorem oName (x : ByteArray) (w : World) (hw : HasErr w) :
    Calls Tryz.prog 42 #[.string x] w fun e w' => e = .returned (.bool (isName x)) ∧ Below w.heap.size w w' := by
  have c29 : Tryz.prog.cellsOf 109 = 3 := by kernel_rfl
  rw [← tells_eq]
  have hS := scan_own x w hw
  obtain ⟨V, hV⟩ : ∃ V, V = tells x := ⟨_, rfl⟩
  rw [← hV]
  have HV : Hid (V = tells x) := hV
  clear hV
  generalize hR : (scan x.data.toList) = R at hS
  have HR : Hid (scan x.data.toList = R) := hR
  clear hR
  generalize hL : R.toks = L at hS
  have HL : Hid (R.toks = L) := hL
  clear hL
  generalize R.code = C, R.place = P at hS
  match L, HL, hS with
  | [], HL, hS =>
    have HF : Hid (V = false) := by show _ = _; rw [HV.out]; unfold tells; rw [HR.out, HL.out]; rfl
    go_enter Tryz.func42, Tryz.ntmps42
    go_wp2_with (go_at_call 46; refine hS.mono ?_; rintro e w1 ⟨v, rfl, hown, hb⟩; obtain ⟨a, c, rfl, _, _⟩ := own_shape hown)
    go_ret
    exact ⟨by rw [HF.out]; rfl, hb.alloc hb.size _⟩
  | [t], HL, hS =>
    have HF : Hid (V = (ownName t && eqS (raw t) x)) := by show _ = _; rw [HV.out]; unfold tells; rw [HR.out, HL.out]; rfl
    cases ho : (!(reserved.any fun y => eqS y (raw t)) && t.kind == 1)
    · have HG : Hid (V = false) := by show _ = _; rw [HF.out]; unfold ownName; rw [ho]; rfl
      go_enter Tryz.func42, Tryz.ntmps42
      go_wp2_with first
        | (go_at_call 46; refine hS.mono ?_; rintro e w1 ⟨v, rfl, hown, hb⟩; obtain ⟨a, c, rfl, _, hg⟩ := own_shape hown; obtain ⟨g, rfl⟩ := hg (by simp); obtain ⟨q0, q1, q2⟩ := tok_cells hown (k := 0) (by simp); simp only [Nat.zero_mul, Nat.zero_add, List.getElem_cons_zero] at q0 q1 q2; have r0 := fun (ob : Obj) => cell_alloc q0 ob; have r1 := fun (ob : Obj) => cell_alloc q1 ob; have r2 := fun (ob : Obj) => cell_alloc q2 ob)
        | (go_at_call 72; refine (oisName _ _ _ _).mono ?_; rw [show (⟨t.text.toArray⟩ : ByteArray) = raw t from rfl, ho]; rintro e w2 ⟨rfl, hb2⟩)
      go_ret
      exact ⟨by rw [HG.out]; rfl, lexs.below_next hb hb2⟩
    · cases he : ((raw t).toList == x.toList)
      all_goals
        have HG : Hid (V = ((raw t).toList == x.toList)) := by show _ = _; rw [HF.out]; show ((!(reserved.any fun y => eqS y (raw t)) && t.kind == 1) && eqS (raw t) x) = _; rw [ho]; rfl
        rw [he] at HG
        go_enter Tryz.func42, Tryz.ntmps42
        go_wp2_with first
          | (go_at_call 46; refine hS.mono ?_; rintro e w1 ⟨v, rfl, hown, hb⟩; obtain ⟨a, c, rfl, _, hg⟩ := own_shape hown; obtain ⟨g, rfl⟩ := hg (by simp); obtain ⟨q0, q1, q2⟩ := tok_cells hown (k := 0) (by simp); simp only [Nat.zero_mul, Nat.zero_add, List.getElem_cons_zero] at q0 q1 q2; rw [show (⟨t.text.toArray⟩ : ByteArray) = raw t from rfl] at q1; have hgl := World.block_lt_of_cell? _ _ q1; have r0 := fun (ob : Obj) => cell_alloc q0 ob; have r1 := fun (ob : Obj) => cell_alloc q1 ob; have r2 := fun (ob : Obj) => cell_alloc q2 ob)
          | (go_at_call 72; refine (oisName _ _ _ _).mono ?_; rw [ho]; rintro e w2 ⟨rfl, hb2⟩; have q3 := (hb2.cell (p := ⟨g, 1, none⟩) (by rw [World.size_alloc]; show g < _; have : g < w1.heap.size := hgl; omega)); rw [r1] at q3)
        go_ret
        exact ⟨by rw [HG.out]; rfl, lexs.below_next hb hb2⟩
  | t :: t' :: r, HL, hS =>
    have HF : Hid (V = false) := by show _ = _; rw [HV.out]; unfold tells; rw [HR.out, HL.out]; rfl
    go_enter Tryz.func42, Tryz.ntmps42
    go_wp2_with (go_at_call 46; refine hS.mono ?_; rintro e w1 ⟨v, rfl, hown, hb⟩; obtain ⟨a, c, rfl, _, _⟩ := own_shape hown)
    go_ret
    exact ⟨by rw [HF.out]; rfl, hb.alloc hb.size _⟩
end face
end Go.Proofs.YtkoomoemkffjkaaGreatDoor
