/- What the program's Scan answers: the contract. -/
import Derived.Test.YthfeojjfehbgjaaGreatDoorProg
import Derived.WalkKit
import Derived.WalkLawsBesides
import Derived.Outline
import Derived.WalkSmall
import Derived.OneCell
import Derived.Test.YthfeojjfehbgjaaGreatDoorOGLexOwnD
import Derived.Test.YthfeojjfehbgjaaGreatDoorOGLexMem
namespace Go.Proofs.YthfeojjfehbgjaaGreatDoor.lexs
open Go.RowKit
set_option linter.unusedVariables false

theorem fine_next {w wr w1 : World} {o : Obj} {e : TypeId} {k n : Nat} {v : Value} {xs : List Value} (hown : wr.ownsRow (w.heap.size + 1) e k v n xs) (hbw : Below (w.heap.size + 1) (w.alloc o) wr) (hb : Below wr.heap.size wr w1) :
    w1.ownsRow (w.heap.size + 1) e k v n xs ∧ Below (w.heap.size + 1) (w.alloc o) w1 := by
  have hs := hbw.size
  rw [World.size_alloc] at hs
  exact ⟨own_below hown hb, hbw.trans (hb.mono hs)⟩
theorem fine_err {w wr : World} {o : Obj} (he : HasErr w) (hbw : Below (w.heap.size + 1) (w.alloc o) wr) : HasErr wr := hasErr_below he (below_old hbw)
set_option maxRecDepth 100000 in
set_option maxHeartbeats 2000000 in
theorem oscan (s : ByteArray) (w : World) (hs : s.size ≤ 3000) (he : HasErr w) :
    Calls Tryz.prog 67 #[.string s] w fun e w' => ∃ v, e = .returned (.tuple #[v, .agg #[.int .i64 (scan s.data.toList).code, .int .i64 (scan s.data.toList).place]]) ∧
      w'.ownsRow w.heap.size 126 3 v (scan s.data.toList).toks.length (cellsOf (scan s.data.toList).toks) ∧ Below w.heap.size w w' := by
  obtain ⟨i0, hi, hz0, hz1, hz2⟩ := info_parts tokInfo
  have hsz : ¬ (3000 : Int) < (s.size : Int) := by omega
  obtain ⟨R, hR⟩ : ∃ R, R = scan s.data.toList := ⟨_, rfl⟩
  rw [← hR]
  have HR : Hid (scanL s.size (s.data.toList.drop 0) 0 [] = R) := by
    show _ = _
    rw [hR, scan, if_neg (by rw [len_L]; omega), len_L]; rfl
  have HE : Hid (HasErr w) := he
  clear hR he
  go_enter Tryz.func67, Tryz.ntmps67
  go_wp2_with (go_at_call 91; refine (skip_any s 0 hs (by omega) _).mono ?_; rintro e w' ⟨q, rfl, hg, hq, hw⟩; obtain rfl := hw.symm)
  obtain ⟨f0, hf0, HR0⟩ := hg.on s.size [] R (by omega) HR.out
  have hqs := hg.top
  go_loopw [4, 5] (fun v i wr => ∃ (p f : Nat) (acc : List Tok), p ≤ s.size ∧ i = .int .i64 p ∧ s.size ≤ p + f ∧ Hid (∀ h : p < s.size, ((s[p].toNat : Int) == 32) = false ∧ ((s[p].toNat : Int) == 10) = false ∧ ((s[p].toNat : Int) == 35) = false) ∧ Hid (scanL f (s.data.toList.drop p) p acc = R) ∧ wr.ownsRow (w.heap.size + 1) 126 3 v acc.length (cellsOf acc) ∧ acc.length ≤ p ∧ Below (w.heap.size + 1) (w.alloc (.cells #[.int .i64 0, .int .i64 0] 121)) wr)
    (fun _ i _ => s.size - (intOf i).toNat)
  case atStart =>
    exact ⟨q, f0, [], hqs, rfl, hf0, hq, HR0, World.ownsRow_nil _ _ _ _, by simp, Below.refl _ _⟩
  case round =>
    obtain ⟨p, f, acc, hp, rfl, hf, HB, HS, hown, hal, hbw⟩ := hrel
    obtain ⟨hc0, hc1, hz0', hz1', hB⟩ := boxes hbw
    have hB' : w.heap.size < wr.heap.size := hB
    by_cases hlt : p < s.size
    · obtain ⟨f, rfl⟩ : ∃ f', f = f' + 1 := ⟨f - 1, by omega⟩
      obtain ⟨n, K, E, hn, hm, H1, H2, HBR, HJ⟩ := row_any s p hs hlt (HB.out hlt).1 (HB.out hlt).2.1 (HB.out hlt).2.2
      have hsl := slice_is 9 Tryz.underlying9 s p n hm
      have hx := ext_size s p n hm
      cases hE : (E != 0)
      · have hst : Hid (stepL (s.data.toList.drop p) = .tok K n) := H1 hE
        clear H1 H2
        have hsk : ∀ w, Calls Tryz.prog 91 #[.string s, .int .i64 ((p : Int) + (n : Int))] w fun e w' => ∃ j : Nat, e = .returned (.int .i64 j) ∧ Goes s (p + n) j ∧ (∀ h : j < s.size, ((s[j].toNat : Int) == 32) = false ∧ ((s[j].toNat : Int) == 10) = false ∧ ((s[j].toNat : Int) == 35) = false) ∧ w' = w := by
          intro w
          have h := skip_any s (p + n) hs hm w
          rw [Int.natCast_add] at h
          exact h
        go_wp2_with (first
          | (go_at_call 93; refine (HBR _).mono ?_; rintro e w1 ⟨fv, rfl, hb1, hreach⟩)
          | (go_at_call 92; refine hreach.mono ?_; rintro e w2 ⟨rfl, hb2⟩; obtain ⟨hown2, hbw2⟩ := fine_next hown hbw hb2)
          | (go_at_call 94; refine (HJ _ (fine_err HE.out hbw2)).mono ?_; rintro e w3 ⟨rfl, hb3⟩; obtain ⟨hown3, hbw3⟩ := fine_next hown2 hbw2 hb3;  clear hown2 hbw2 hb2 hb3)
          | (go_at_call 95; refine (clone_any _ (by omega) _).mono ?_; rintro e w4 ⟨rfl, hb4⟩; obtain ⟨hown4, hbw4⟩ := fine_next hown3 hbw3 hb4; obtain ⟨_, _, _, _, hB4⟩ := boxes hbw4; clear hown3 hbw3 hb4)
          | (at_builtin; refine wpList_append_own _ rfl (.tmp 40) (.tmp 49) 119 rfl (w.heap.size + 1) 126 i0 (.agg #[.int .i64 0, .string ⟨#[]⟩, .int .i64 0]) 3 32 Tryz.underlying119 hi hz0 hz1 hz2 rfl (by decide) _ _ _ rfl (hown4.alloc _) ⟨w4.heap.size, 0, none⟩ 1 1 [.int .i64 K, .string (s.extract p (p + n)), .int .i64 (p : Int)] rfl rfl (cell_three_new _ _ _ _ _ _ (by simp)) (one_cells _ _ _) (by unfold maxLen; omega) (by omega) (by simp <;> omega) ?_; intro v' w5 hown' hgrow hne; have X : Hid (w5.ownsRow (w.heap.size + 1) 126 3 v' (acc.length + 1) (cellsOf acc ++ [.int .i64 K, .string (s.extract p (p + n)), .int .i64 (p : Int)]) ∧ Below (w.heap.size + 1) (w.alloc (.cells #[.int .i64 0, .int .i64 0] 121)) w5) := ⟨hown', rel_tok (hbw4.alloc (by omega) _) (by simp <;> omega) (hown4.alloc _) hgrow⟩; clear hown' hgrow hne)
          | (go_at_call 91; refine (hsk _).mono ?_; rintro e w' ⟨j, rfl, hg2, hq2, hw⟩; obtain rfl := hw.symm))
        have hT := go_tok hlt hst.out HS.out
        obtain ⟨f', hf', HR'⟩ := hg2.on f _ R (by omega) hT.1
        have hjt := hg2.top
        have hjl := hg2.le
        go_roundw
        case rel => exact ⟨j, f', _, hjt, rfl, hf', hq2, HR', own_tok X.out.1, by rw [List.length_append]; simp; omega, X.out.2⟩
        case measure => simp [intOf]; omega
      · have hst : Hid (stepL (s.data.toList.drop p) = .fault E) := H2 hE
        clear H1 H2
        have hend := go_fault hlt hst.out HS.out
        subst hend
        go_wp2_with (first
          | (go_at_call 93; refine (HBR _).mono ?_; rintro e w1 ⟨fv, rfl, hb1, hreach⟩)
          | (go_at_call 92; refine hreach.mono ?_; rintro e w2 ⟨rfl, hb2⟩; obtain ⟨hown2, hbw2⟩ := fine_next hown hbw hb2)
          | (go_at_call 94; refine (HJ _ (fine_err HE.out hbw2)).mono ?_; rintro e w3 ⟨rfl, hb3⟩; obtain ⟨hown3, hbw3⟩ := fine_next hown2 hbw2 hb3; obtain ⟨c0, c1, e0, e1, hB3⟩ := boxes hbw3; clear hown2 hbw2 hb2 hb3))
        refine bodyPost_ret (v := .tuple #[.slice none 0 0, .agg #[.int .i64 E, .int .i64 p]]) (by simp [results, Tryz.results67, go_sem, c0, c1]) rfl ⟨_, rfl, World.ownsRow_nil _ _ _ _, ?_⟩
        exact ((below_old hbw3).setCell (Nat.le_refl _) _).setCell (Nat.le_refl _) _
    · have hend := go_end (by omega) HS.out
      subst hend
      go_wp2
      refine bodyPost_ret (v := .tuple #[u4, .agg #[.int .i64 0, .int .i64 0]]) (by simp [results, Tryz.results67, go_sem, hc0, hc1]) rfl ⟨u4, rfl, ?_, ?_⟩
      · exact ownsRow_le (ownsRow_setCell_below (ownsRow_setCell_below hown (by simp) _) (by simp) _) (by omega)
      · exact ((below_old hbw).setCell (Nat.le_refl _) _).setCell (Nat.le_refl _) _
theorem oscan_long (s : ByteArray) (w : World) (hs : 3000 < s.size) :
    Calls Tryz.prog 67 #[.string s] w fun e w' => ∃ v, e = .returned (.tuple #[v, .agg #[.int .i64 (scan s.data.toList).code, .int .i64 (scan s.data.toList).place]]) ∧
      w'.ownsRow w.heap.size 126 3 v (scan s.data.toList).toks.length (cellsOf (scan s.data.toList).toks) ∧ Below w.heap.size w w' := by
  have hsz : (3000 : Int) < (s.size : Int) := by omega
  have hR : scan s.data.toList = .err 1 0 := by rw [scan, if_pos (by rw [len_L]; omega)]
  rw [hR]
  clear hR
  go_enter Tryz.func67, Tryz.ntmps67
  go_wp2
  refine bodyPost_ret (v := .tuple #[.slice none 0 0, .agg #[.int .i64 1, .int .i64 0]]) (by simp [results, Tryz.results67, go_sem]) rfl ⟨_, rfl, World.ownsRow_nil _ _ _ _, ?_⟩
  exact (Below.refl _ _).alloc (Nat.le_refl _) _
/-- THE CONTRACT: whatever the text -/
theorem scan_own (s : ByteArray) : Scans HasErr 67 s := by
  intro w he
  rcases Nat.lt_or_ge 3000 s.size with h | h
  · exact oscan_long s w h
  · exact oscan s w h he
end Go.Proofs.YthfeojjfehbgjaaGreatDoor.lexs
