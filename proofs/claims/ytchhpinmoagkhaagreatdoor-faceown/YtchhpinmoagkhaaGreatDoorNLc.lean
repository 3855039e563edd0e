/- What the reference's Scan answers: a contract. Rows of tokens in memory, and what a scan answers. -/
import Derived.Test.YtchhpinmoagkhaaGreatDoorProg
import Derived.WalkKit
import Derived.WalkLawsBesides
import Derived.Outline
import Derived.WalkSmall
import Derived.OneCell
import Derived.Test.YtchhpinmoagkhaaGreatDoorNLa
import Derived.Test.YtchhpinmoagkhaaGreatDoorNLb
import Derived.BigQuiet
import Derived.Deep.QuietTactic
namespace Go.Proofs.YtchhpinmoagkhaaGreatDoor.lexs
open Go.RowKit
set_option linter.unusedVariables false

theorem tokInfo : (Tryz.prog.info? 58).map (fun i => (i.zero, i.size, i.bytes)) = some (some (.agg #[.int .i64 0, .string ⟨#[]⟩, .int .i64 0]), 3, 32) := by kernel_rfl
/-- a box of two cells that lies right behind the old memory -/
theorem boxes {w wr : World} {x y : Value} {T : TypeId} (h : Below (w.heap.size + 1) (w.alloc (.cells #[x, y] T)) wr) :
    wr.cell? ⟨w.heap.size, 0, none⟩ = some x ∧ wr.cell? ⟨w.heap.size, 1, none⟩ = some y ∧ wr.frozen? ⟨w.heap.size, 0, none⟩ = false ∧ wr.frozen? ⟨w.heap.size, 1, none⟩ = false ∧ w.heap.size + 1 ≤ wr.heap.size := by
  refine ⟨?_, ?_, ?_, ?_, ?_⟩
  · rw [h.cell (p := ⟨w.heap.size, 0, none⟩) (by simp)]; simp
  · rw [h.cell (p := ⟨w.heap.size, 1, none⟩) (by simp)]; simp
  · rw [h.frozen (p := ⟨w.heap.size, 0, none⟩) (by simp)]; simp
  · rw [h.frozen (p := ⟨w.heap.size, 1, none⟩) (by simp)]; simp
  · have := h.size; simpa using this
theorem cell_three_new (w : World) (a b c : Value) (t : TypeId) (g : Nat) (hg : g = w.heap.size) : ∀ j u, [a, b, c][j]? = some u → (w.alloc (.cells #[a, b, c] t)).cell? ((⟨g, 0, none⟩ : Addr).add j) = some u := by
  subst hg
  intro j u hj
  match j, hj with
  | 0, hj => simp at hj; subst hj; simp [Addr.add]
  | 1, hj => simp at hj; subst hj; simp [Addr.add]
  | 2, hj => simp at hj; subst hj; simp [Addr.add]
theorem one_cells (a b : Int) (x : ByteArray) : ∀ u ∈ [Value.int .i64 a, .string x, .int .i64 b], u.oneCell' = true := by
  intro u hu
  simp at hu
  rcases hu with rfl | rfl | rfl <;> rfl
theorem rel_tok {B : Nat} {W0 W w1 : World} {e : TypeId} {k n : Nat} {v : Value} {xs : List Value} (hbw : Below (B + 1) W0 W) (hB : B + 1 ≤ W.heap.size) (hown : W.ownsRow (B + 1) e k v n xs) (hg : W.grownBy w1 v.ownBlock) : Below (B + 1) W0 w1 :=
  hbw.grown hg hB fun j hj => (hown.lt _ hj).1
theorem below_old {w wr : World} {o : Obj} (h : Below (w.heap.size + 1) (w.alloc o) wr) : Below w.heap.size w wr :=
  ((Below.refl _ _).alloc (Nat.le_refl _) o).trans (h.mono (by omega))
theorem ownsRow_le {w : World} {base base' size n : Nat} {e : TypeId} {v : Value} {xs : List Value} (h : w.ownsRow base e size v n xs) (hb : base' ≤ base) : w.ownsRow base' e size v n xs := by
  obtain ⟨h1, h2⟩ := h
  refine ⟨h1, ?_⟩
  rcases h2 with h2 | ⟨g, cap, cur, hv, hg, hh, r⟩
  · exact Or.inl h2
  · exact Or.inr ⟨g, cap, cur, hv, by omega, hh, r⟩
theorem own_tok {w : World} {B : Nat} {e : TypeId} {v : Value} {acc : List Tok} {s : ByteArray} {p n : Nat} {k : Int}
    (h : w.ownsRow B e 3 v (acc.length + 1) (cellsOf acc ++ [.int .i64 k, .string (s.extract p (p + n)), .int .i64 (p : Int)])) :
    w.ownsRow B e 3 v (acc ++ [(⟨k, (s.data.toList.drop p).take n, p⟩ : Tok)]).length (cellsOf (acc ++ [⟨k, (s.data.toList.drop p).take n, p⟩])) := by
  rw [cellsOf_snoc, ← extract_is, List.length_append]
  exact h
theorem dig_pos {s : ByteArray} {p n : Nat} (hp : p < s.size) (hd : digI (s[p].toNat : Int) = true) (hr : run insB (s.data.toList.drop p) = n) : 0 < n := by
  rw [← hr, drop_cons s p hp]
  exact run_pos _ _ _ (digB_insB hd)
theorem bcell {W w1 : World} (hb : Below W.heap.size W w1) : (∀ b o, b < W.heap.size → w1.cell? ⟨b, o, none⟩ = W.cell? ⟨b, o, none⟩) ∧ (∀ b o, b < W.heap.size → w1.frozen? ⟨b, o, none⟩ = W.frozen? ⟨b, o, none⟩) :=
  ⟨fun b o h => hb.cell (p := ⟨b, o, none⟩) h, fun b o h => hb.frozen (p := ⟨b, o, none⟩) h⟩
theorem own_below {B : Nat} {e : TypeId} {k : Nat} {v : Value} {n : Nat} {xs : List Value} {w w' : World} (h : w.ownsRow B e k v n xs) (hb : Below w.heap.size w w') : w'.ownsRow B e k v n xs :=
  h.kept (row := none) ⟨hb.os, hb.tape, hb.output, hb.size, fun j hj _ => hb.block j hj⟩ (by cases hv : v.ownBlock <;> simp)
theorem own_ne {w : World} {B : Nat} {e : TypeId} {k n : Nat} {v : Value} {xs : List Value} (h : w.ownsRow B e k v n xs) {o : Nat} {y : Option Nat} : v.ownBlock ≠ some (⟨w.heap.size, o, y⟩ : Addr).block := by
  intro he
  have := (h.lt _ he).2
  simp at this
theorem sign_facts {s b : ByteArray} {p n : Nat} {w wr w2 : World} {o o' : Obj} {e : TypeId} {v : Value} {xs : List Value} (hlt : p < s.size) (hown : wr.ownsRow (w.heap.size + 1) e 3 v n xs) (hbw : Below (w.heap.size + 1) (w.alloc o) wr) (hB : w.heap.size + 1 ≤ wr.heap.size)
    (hbs : b.size = signLen (s.data.toList.drop p)) (hb2 : Below (wr.alloc o').heap.size (wr.alloc o') w2) :
    (∀ b o, b < wr.heap.size + 1 → w2.cell? ⟨b, o, none⟩ = (wr.alloc o').cell? ⟨b, o, none⟩) ∧ (∀ b o, b < wr.heap.size + 1 → w2.frozen? ⟨b, o, none⟩ = (wr.alloc o').frozen? ⟨b, o, none⟩) ∧ wr.heap.size + 1 ≤ w2.heap.size ∧
      Hid (signLen (s.data.toList.drop p) = b.size) ∧ p + b.size ≤ s.size ∧
      (∀ w, (Instr.slice 9 (.string s) (some (.int .i64 (p : Int))) (some (.int .i64 ((p : Int) + (b.size : Int)))) none).run Tryz.prog w = .ok (.string (s.extract p (p + b.size))) w) ∧
      Hid (w2.ownsRow (w.heap.size + 1) e 3 v n xs ∧ Below (w.heap.size + 1) (w.alloc o) w2) := by
  have hs := hb2.size
  rw [World.size_alloc] at hs hb2
  have hble : p + b.size ≤ s.size := by
    have := signLen_le (s.data.toList.drop p)
    rw [List.length_drop, len_L] at this
    omega
  refine ⟨fun b o h => hb2.cell (p := ⟨b, o, none⟩) h, fun b o h => hb2.frozen (p := ⟨b, o, none⟩) h, hs, hbs.symm, hble, slice_is 9 Tryz.underlying9 s p b.size hble, ?_, ?_⟩
  · exact own_below (hown.alloc _) (by rw [World.size_alloc]; exact hb2)
  · exact (hbw.alloc (by omega) _).trans (hb2.mono (by omega))
/-- behind a token -/
theorem tok_rel {s : ByteArray} {p n f : Nat} {k : Int} {acc : List Tok} {R : Res} {W0 w1 : World} {B : Nat} {e : TypeId} {v : Value} (hp : p < s.size) (hal : acc.length ≤ p) (hf : s.size ≤ p + (f + 1)) (hst : stepL (s.data.toList.drop p) = .tok k n)
    (hR : scanL (f + 1) (s.data.toList.drop p) p acc = R) (hown : w1.ownsRow (B + 1) e 3 v (acc.length + 1) (cellsOf acc ++ [.int .i64 k, .string (s.extract p (p + n)), .int .i64 (p : Int)])) (hbw : Below (B + 1) W0 w1) :
    0 < n ∧ ∃ (p' f' : Nat) (acc' : List Tok), p' ≤ s.size ∧ Value.int .i64 ((p : Int) + (n : Int)) = .int .i64 (p' : Int) ∧ s.size ≤ p' + f' ∧ Hid (scanL f' (s.data.toList.drop p') p' acc' = R) ∧ w1.ownsRow (B + 1) e 3 v acc'.length (cellsOf acc') ∧ acc'.length ≤ p' ∧ Below (B + 1) W0 w1 := by
  have hg := go_tok hp hst hR
  exact ⟨hg.2.1, p + n, f, acc ++ [(⟨k, (s.data.toList.drop p).take n, p⟩ : Tok)], hg.2.2, by rw [Int.natCast_add], by omega, by exact hg.1, own_tok hown, by rw [List.length_append]; simp; omega, hbw⟩
set_option maxRecDepth 100000 in
set_option maxHeartbeats 2000000 in
theorem rscan (s : ByteArray) (w : World) (hs : s.size ≤ 3000) :
    Calls Tryz.prog 22 #[.string s] w fun e w' => ∃ v, e = .returned (.tuple #[v, .agg #[.int .i64 (scan s.data.toList).code, .int .i64 (scan s.data.toList).place]]) ∧
      w'.ownsRow w.heap.size 58 3 v (scan s.data.toList).toks.length (cellsOf (scan s.data.toList).toks) ∧ Below w.heap.size w w' := by
  obtain ⟨i0, hi, hz0, hz1, hz2⟩ := info_parts tokInfo
  have hsz : ¬ (3000 : Int) < (s.size : Int) := by omega
  obtain ⟨R, hR⟩ : ∃ R, R = scan s.data.toList := ⟨_, rfl⟩
  rw [← hR]
  have HR : Hid (scanL s.size (s.data.toList.drop 0) 0 [] = R) := by
    show _ = _
    rw [hR, scan, if_neg (by rw [len_L]; omega), len_L]; rfl
  clear hR
  go_enter Tryz.func22, Tryz.ntmps22
  go_wp2
  go_loopw [4, 5] (fun v i wr => ∃ (p f : Nat) (acc : List Tok), p ≤ s.size ∧ i = .int .i64 p ∧ s.size ≤ p + f ∧ Hid (scanL f (s.data.toList.drop p) p acc = R) ∧ wr.ownsRow (w.heap.size + 1) 58 3 v acc.length (cellsOf acc) ∧ acc.length ≤ p ∧ Below (w.heap.size + 1) (w.alloc (.cells #[.int .i64 0, .int .i64 0] 27)) wr)
    (fun _ i _ => s.size - (intOf i).toNat)
  case atStart =>
    refine ⟨0, s.size, [], by omega, rfl, by omega, HR.out, World.ownsRow_nil _ _ _ _, by simp, Below.refl _ _⟩
  case round =>
    obtain ⟨p, f, acc, hp, rfl, hf, HS, hown, hal, hbw⟩ := hrel
    obtain ⟨hc0, hc1, hf0, hf1, hB⟩ := boxes hbw
    have hB' : w.heap.size < wr.heap.size := hB
    by_cases hlt : p < s.size
    · obtain ⟨f, rfl⟩ : ∃ f', f = f' + 1 := ⟨f - 1, by omega⟩
      cases h32 : ((s[p].toNat : Int) == 32)
      · cases h10 : ((s[p].toNat : Int) == 10)
        · cases h35 : ((s[p].toNat : Int) == 35)
          · cases hl : ltrI (s[p].toNat : Int)
            · cases hd : digI (s[p].toNat : Int)
              · skip
                go_wp2
                go_loop [6] (fun t => ∃ n : Nat, p + n ≤ s.size ∧ t = .int .i64 n ∧ Hid (∀ j (h : j < s.size), p ≤ j → j < p + n → insB s[j] = true)) (fun t => s.size - (intOf t).toNat)
                case atStart => exact ⟨0, by omega, rfl, fun j _ h1 h2 => by omega⟩
                case round =>
                  obtain ⟨n, hn, rfl, HN⟩ := hrel
                  by_cases hq : p + n < s.size
                  · cases hin : insI (s[p + n].toNat : Int)
                    · have hru : Hid (run insB (s.data.toList.drop p) = n) := run_at insB s p n hn HN.out (.inr ⟨hq, hin⟩)
                      go_wp2_with (first
                          | (go_at_call 51; refine (rinside _ _).mono ?_; rintro e w' ⟨rfl, hw⟩; obtain rfl := hw.symm)
                          | (go_at_call 52; refine (rletter _ _).mono ?_; rintro e w' ⟨rfl, hw⟩; obtain rfl := hw.symm)
                          | (go_at_call 53; refine (rdigit _ _).mono ?_; rintro e w' ⟨rfl, hw⟩; obtain rfl := hw.symm)
                          | (go_at_call 55; refine (rsign s p (by omega) hlt _).mono ?_; rintro e w2 ⟨b, rfl, hbs, hb2⟩; obtain ⟨hcc, hff, hsz2, HB, hble, hsl2, X2⟩ := sign_facts hlt hown hbw hB hbs hb2; clear hbs hb2)
                          | (at_builtin; refine wpList_append_own _ rfl (.tmp 101) (.tmp 103) 47 rfl (w.heap.size + 1) 58 i0 (.agg #[.int .i64 0, .string ⟨#[]⟩, .int .i64 0]) 3 32 Tryz.underlying47 hi hz0 hz1 hz2 rfl (by decide) _ _ _ rfl ((ownsRow_setCell_other X2.out.1 (own_ne hown) _).alloc _) ⟨w2.heap.size, 0, none⟩ 1 1 [.int .i64 3, .string (s.extract p (p + b.size)), .int .i64 (p : Int)] rfl rfl (cell_three_new _ _ _ _ _ _ (by simp)) (one_cells _ _ _) (by unfold maxLen; omega) (by omega) (by simp <;> omega) ?_; intro v' w1 hown' hgrow hne; have X : Hid (w1.ownsRow (w.heap.size + 1) 58 3 v' (acc.length + 1) (cellsOf acc ++ [.int .i64 3, .string (s.extract p (p + b.size)), .int .i64 (p : Int)]) ∧ Below (w.heap.size + 1) (w.alloc (.cells #[.int .i64 0, .int .i64 0] 27)) w1) := ⟨hown', rel_tok ((X2.out.2.setCell (by simp <;> omega) _).alloc (by simp <;> omega) _) (by simp <;> omega) ((ownsRow_setCell_other X2.out.1 (own_ne hown) _).alloc _) hgrow⟩; clear hown' hgrow hne))
                      · have hb0 : ((b.size : Int) == 0) = true := by assumption
                        have hst : Hid (stepL (s.data.toList.drop p) = .fault 2) := st_none hlt h32 h10 h35 hl hd (by have h := HB.out; rw [beq_iff_eq] at hb0; omega)
                        have hend := go_fault hlt hst.out HS.out
                        subst hend
                        have hbx := boxes X2.out.2
                        refine bodyPost_ret (v := .tuple #[.slice none 0 0, .agg #[.int .i64 2, .int .i64 p]]) (by simp [results, Tryz.results22, go_sem, hbx.1, hbx.2.1]) rfl ⟨_, rfl, World.ownsRow_nil _ _ _ _, ?_⟩
                        exact ((below_old X2.out.2).setCell (Nat.le_refl _) _).setCell (Nat.le_refl _) _
                      · have hb0 : ((b.size : Int) == 0) = false := by assumption
                        have hst : Hid (stepL (s.data.toList.drop p) = .tok 3 b.size) := st_sign hlt h32 h10 h35 hl hd HB.out (by rw [beq_eq_false_iff_ne] at hb0; omega)
                        have hT := tok_rel hlt hal hf hst.out HS.out X.out.1 X.out.2
                        go_roundw
                        case rel => exact hT.2
                        case measure => have := hT.1; simp [intOf]; omega
                    · go_wp2_with (go_at_call 51; refine (rinside _ _).mono ?_; rintro e w' ⟨rfl, hw⟩; obtain rfl := hw.symm)
                      go_round
                      case rel => exact ⟨n + 1, by omega, by go_num, fun j h h1 h2 => by
                        rcases Nat.lt_or_ge j (p + n) with h3 | h3
                        · exact HN.out j h h1 h3
                        · have : j = p + n := by omega
                          subst this
                          exact hin⟩
                      case measure => simp [intOf]; omega
                  · have hru : Hid (run insB (s.data.toList.drop p) = n) := run_at insB s p n hn HN.out (.inl (by omega))
                    go_wp2_with (first
                        | (go_at_call 51; refine (rinside _ _).mono ?_; rintro e w' ⟨rfl, hw⟩; obtain rfl := hw.symm)
                        | (go_at_call 52; refine (rletter _ _).mono ?_; rintro e w' ⟨rfl, hw⟩; obtain rfl := hw.symm)
                        | (go_at_call 53; refine (rdigit _ _).mono ?_; rintro e w' ⟨rfl, hw⟩; obtain rfl := hw.symm)
                        | (go_at_call 55; refine (rsign s p (by omega) hlt _).mono ?_; rintro e w2 ⟨b, rfl, hbs, hb2⟩; obtain ⟨hcc, hff, hsz2, HB, hble, hsl2, X2⟩ := sign_facts hlt hown hbw hB hbs hb2; clear hbs hb2)
                        | (at_builtin; refine wpList_append_own _ rfl (.tmp 101) (.tmp 103) 47 rfl (w.heap.size + 1) 58 i0 (.agg #[.int .i64 0, .string ⟨#[]⟩, .int .i64 0]) 3 32 Tryz.underlying47 hi hz0 hz1 hz2 rfl (by decide) _ _ _ rfl ((ownsRow_setCell_other X2.out.1 (own_ne hown) _).alloc _) ⟨w2.heap.size, 0, none⟩ 1 1 [.int .i64 3, .string (s.extract p (p + b.size)), .int .i64 (p : Int)] rfl rfl (cell_three_new _ _ _ _ _ _ (by simp)) (one_cells _ _ _) (by unfold maxLen; omega) (by omega) (by simp <;> omega) ?_; intro v' w1 hown' hgrow hne; have X : Hid (w1.ownsRow (w.heap.size + 1) 58 3 v' (acc.length + 1) (cellsOf acc ++ [.int .i64 3, .string (s.extract p (p + b.size)), .int .i64 (p : Int)]) ∧ Below (w.heap.size + 1) (w.alloc (.cells #[.int .i64 0, .int .i64 0] 27)) w1) := ⟨hown', rel_tok ((X2.out.2.setCell (by simp <;> omega) _).alloc (by simp <;> omega) _) (by simp <;> omega) ((ownsRow_setCell_other X2.out.1 (own_ne hown) _).alloc _) hgrow⟩; clear hown' hgrow hne))
                    · have hb0 : ((b.size : Int) == 0) = true := by assumption
                      have hst : Hid (stepL (s.data.toList.drop p) = .fault 2) := st_none hlt h32 h10 h35 hl hd (by have h := HB.out; rw [beq_iff_eq] at hb0; omega)
                      have hend := go_fault hlt hst.out HS.out
                      subst hend
                      have hbx := boxes X2.out.2
                      refine bodyPost_ret (v := .tuple #[.slice none 0 0, .agg #[.int .i64 2, .int .i64 p]]) (by simp [results, Tryz.results22, go_sem, hbx.1, hbx.2.1]) rfl ⟨_, rfl, World.ownsRow_nil _ _ _ _, ?_⟩
                      exact ((below_old X2.out.2).setCell (Nat.le_refl _) _).setCell (Nat.le_refl _) _
                    · have hb0 : ((b.size : Int) == 0) = false := by assumption
                      have hst : Hid (stepL (s.data.toList.drop p) = .tok 3 b.size) := st_sign hlt h32 h10 h35 hl hd HB.out (by rw [beq_eq_false_iff_ne] at hb0; omega)
                      have hT := tok_rel hlt hal hf hst.out HS.out X.out.1 X.out.2
                      go_roundw
                      case rel => exact hT.2
                      case measure => have := hT.1; simp [intOf]; omega
              · skip
                go_wp2
                go_loop [6] (fun t => ∃ n : Nat, p + n ≤ s.size ∧ t = .int .i64 n ∧ Hid (∀ j (h : j < s.size), p ≤ j → j < p + n → insB s[j] = true)) (fun t => s.size - (intOf t).toNat)
                case atStart => exact ⟨0, by omega, rfl, fun j _ h1 h2 => by omega⟩
                case round =>
                  obtain ⟨n, hn, rfl, HN⟩ := hrel
                  by_cases hq : p + n < s.size
                  · cases hin : insI (s[p + n].toNat : Int)
                    · have hru : Hid (run insB (s.data.toList.drop p) = n) := run_at insB s p n hn HN.out (.inr ⟨hq, hin⟩)
                      have hsl := slice_is 9 Tryz.underlying9 s p n (by omega)
                      have hn0 : 0 < n := dig_pos hlt hd hru.out
                      have hxs : (s.extract p (p + n)).size = n := by rw [← len_L, Lib.extract_data, List.length_take, List.length_drop, len_L]; omega
                      obtain ⟨E, hE⟩ : ∃ E, E = numE ((s.data.toList.drop p).take n) := ⟨_, rfl⟩
                      have hnum : ∀ w, Calls Tryz.prog 54 #[.string (s.extract p (p + n))] w fun e w' => e = .returned (.int .i64 E) ∧ w' = w := by
                        have h := rnumeral (s.extract p (p + n)) (by rw [hxs]; unfold maxLen; omega) (by rw [hxs]; exact hn0)
                        rw [Lib.extract_data, Nat.add_sub_cancel_left, ← hE] at h
                        exact h
                      have HX : Hid (E = numE ((s.data.toList.drop p).take n)) := hE
                      clear hxs hE
                      cases he : (E == 0)
                      · have hst : Hid (stepL (s.data.toList.drop p) = .fault (E)) := by
                          show _ = _
                          have h := he
                          rw [HX.out] at h ⊢
                          exact st_bad hlt h32 h10 h35 hl hd hru.out h
                        have hend := go_fault hlt hst.out HS.out
                        subst hend
                        go_wp2_with (first
                          | (go_at_call 51; refine (rinside _ _).mono ?_; rintro e w' ⟨rfl, hw⟩; obtain rfl := hw.symm)
                          | (go_at_call 52; refine (rletter _ _).mono ?_; rintro e w' ⟨rfl, hw⟩; obtain rfl := hw.symm)
                          | (go_at_call 53; refine (rdigit _ _).mono ?_; rintro e w' ⟨rfl, hw⟩; obtain rfl := hw.symm)
                          | (go_at_call 54; refine (hnum _).mono ?_; rintro e w' ⟨rfl, hw⟩; obtain rfl := hw.symm))
                        refine bodyPost_ret (v := .tuple #[.slice none 0 0, .agg #[.int .i64 (E), .int .i64 p]]) (by simp [results, Tryz.results22, go_sem, hc0, hc1, hB']) rfl ⟨_, rfl, World.ownsRow_nil _ _ _ _, ?_⟩
                        exact (((below_old hbw).setCell (Nat.le_refl _) _).setCell (Nat.le_refl _) _).alloc (by simp <;> omega) _
                      · have hst : Hid (stepL (s.data.toList.drop p) = .tok 2 n) := by
                          show _ = _
                          have h := he
                          rw [HX.out] at h
                          exact st_num hlt h32 h10 h35 hl hd hru.out h
                        go_wp2_with (first
                          | (go_at_call 51; refine (rinside _ _).mono ?_; rintro e w' ⟨rfl, hw⟩; obtain rfl := hw.symm)
                          | (go_at_call 52; refine (rletter _ _).mono ?_; rintro e w' ⟨rfl, hw⟩; obtain rfl := hw.symm)
                          | (go_at_call 53; refine (rdigit _ _).mono ?_; rintro e w' ⟨rfl, hw⟩; obtain rfl := hw.symm)
                          | (go_at_call 54; refine (hnum _).mono ?_; rintro e w' ⟨rfl, hw⟩; obtain rfl := hw.symm)
                          | (at_builtin; refine wpList_append_own _ rfl (.tmp 101) (.tmp 103) 47 rfl (w.heap.size + 1) 58 i0 (.agg #[.int .i64 0, .string ⟨#[]⟩, .int .i64 0]) 3 32 Tryz.underlying47 hi hz0 hz1 hz2 rfl (by decide) _ _ _ rfl ((hown.alloc _).alloc _) ⟨wr.heap.size + 1, 0, none⟩ 1 1 [.int .i64 2, .string (s.extract p (p + n)), .int .i64 (p : Int)] rfl rfl (cell_three_new _ _ _ _ _ _ (by simp)) (one_cells _ _ _) (by unfold maxLen; omega) (by omega) (by simp <;> omega) ?_; intro v' w1 hown' hgrow hne; have X : Hid (w1.ownsRow (w.heap.size + 1) 58 3 v' (acc.length + 1) (cellsOf acc ++ [.int .i64 2, .string (s.extract p (p + n)), .int .i64 (p : Int)]) ∧ Below (w.heap.size + 1) (w.alloc (.cells #[.int .i64 0, .int .i64 0] 27)) w1) := ⟨hown', rel_tok ((hbw.alloc (by omega) _).alloc (by simp <;> omega) _) (by simp <;> omega) ((hown.alloc _).alloc _) hgrow⟩; clear hown' hgrow hne))
                        have hT := tok_rel hlt hal hf hst.out HS.out X.out.1 X.out.2
                        go_roundw
                        case rel => exact hT.2
                        case measure => have := hT.1; simp [intOf]; omega
                    · go_wp2_with (go_at_call 51; refine (rinside _ _).mono ?_; rintro e w' ⟨rfl, hw⟩; obtain rfl := hw.symm)
                      go_round
                      case rel => exact ⟨n + 1, by omega, by go_num, fun j h h1 h2 => by
                        rcases Nat.lt_or_ge j (p + n) with h3 | h3
                        · exact HN.out j h h1 h3
                        · have : j = p + n := by omega
                          subst this
                          exact hin⟩
                      case measure => simp [intOf]; omega
                  · have hru : Hid (run insB (s.data.toList.drop p) = n) := run_at insB s p n hn HN.out (.inl (by omega))
                    have hsl := slice_is 9 Tryz.underlying9 s p n (by omega)
                    have hn0 : 0 < n := dig_pos hlt hd hru.out
                    have hxs : (s.extract p (p + n)).size = n := by rw [← len_L, Lib.extract_data, List.length_take, List.length_drop, len_L]; omega
                    obtain ⟨E, hE⟩ : ∃ E, E = numE ((s.data.toList.drop p).take n) := ⟨_, rfl⟩
                    have hnum : ∀ w, Calls Tryz.prog 54 #[.string (s.extract p (p + n))] w fun e w' => e = .returned (.int .i64 E) ∧ w' = w := by
                      have h := rnumeral (s.extract p (p + n)) (by rw [hxs]; unfold maxLen; omega) (by rw [hxs]; exact hn0)
                      rw [Lib.extract_data, Nat.add_sub_cancel_left, ← hE] at h
                      exact h
                    have HX : Hid (E = numE ((s.data.toList.drop p).take n)) := hE
                    clear hxs hE
                    cases he : (E == 0)
                    · have hst : Hid (stepL (s.data.toList.drop p) = .fault (E)) := by
                        show _ = _
                        have h := he
                        rw [HX.out] at h ⊢
                        exact st_bad hlt h32 h10 h35 hl hd hru.out h
                      have hend := go_fault hlt hst.out HS.out
                      subst hend
                      go_wp2_with (first
                        | (go_at_call 51; refine (rinside _ _).mono ?_; rintro e w' ⟨rfl, hw⟩; obtain rfl := hw.symm)
                        | (go_at_call 52; refine (rletter _ _).mono ?_; rintro e w' ⟨rfl, hw⟩; obtain rfl := hw.symm)
                        | (go_at_call 53; refine (rdigit _ _).mono ?_; rintro e w' ⟨rfl, hw⟩; obtain rfl := hw.symm)
                        | (go_at_call 54; refine (hnum _).mono ?_; rintro e w' ⟨rfl, hw⟩; obtain rfl := hw.symm))
                      refine bodyPost_ret (v := .tuple #[.slice none 0 0, .agg #[.int .i64 (E), .int .i64 p]]) (by simp [results, Tryz.results22, go_sem, hc0, hc1, hB']) rfl ⟨_, rfl, World.ownsRow_nil _ _ _ _, ?_⟩
                      exact (((below_old hbw).setCell (Nat.le_refl _) _).setCell (Nat.le_refl _) _).alloc (by simp <;> omega) _
                    · have hst : Hid (stepL (s.data.toList.drop p) = .tok 2 n) := by
                        show _ = _
                        have h := he
                        rw [HX.out] at h
                        exact st_num hlt h32 h10 h35 hl hd hru.out h
                      go_wp2_with (first
                        | (go_at_call 51; refine (rinside _ _).mono ?_; rintro e w' ⟨rfl, hw⟩; obtain rfl := hw.symm)
                        | (go_at_call 52; refine (rletter _ _).mono ?_; rintro e w' ⟨rfl, hw⟩; obtain rfl := hw.symm)
                        | (go_at_call 53; refine (rdigit _ _).mono ?_; rintro e w' ⟨rfl, hw⟩; obtain rfl := hw.symm)
                        | (go_at_call 54; refine (hnum _).mono ?_; rintro e w' ⟨rfl, hw⟩; obtain rfl := hw.symm)
                        | (at_builtin; refine wpList_append_own _ rfl (.tmp 101) (.tmp 103) 47 rfl (w.heap.size + 1) 58 i0 (.agg #[.int .i64 0, .string ⟨#[]⟩, .int .i64 0]) 3 32 Tryz.underlying47 hi hz0 hz1 hz2 rfl (by decide) _ _ _ rfl ((hown.alloc _).alloc _) ⟨wr.heap.size + 1, 0, none⟩ 1 1 [.int .i64 2, .string (s.extract p (p + n)), .int .i64 (p : Int)] rfl rfl (cell_three_new _ _ _ _ _ _ (by simp)) (one_cells _ _ _) (by unfold maxLen; omega) (by omega) (by simp <;> omega) ?_; intro v' w1 hown' hgrow hne; have X : Hid (w1.ownsRow (w.heap.size + 1) 58 3 v' (acc.length + 1) (cellsOf acc ++ [.int .i64 2, .string (s.extract p (p + n)), .int .i64 (p : Int)]) ∧ Below (w.heap.size + 1) (w.alloc (.cells #[.int .i64 0, .int .i64 0] 27)) w1) := ⟨hown', rel_tok ((hbw.alloc (by omega) _).alloc (by simp <;> omega) _) (by simp <;> omega) ((hown.alloc _).alloc _) hgrow⟩; clear hown' hgrow hne))
                      have hT := tok_rel hlt hal hf hst.out HS.out X.out.1 X.out.2
                      go_roundw
                      case rel => exact hT.2
                      case measure => have := hT.1; simp [intOf]; omega
            · skip
              go_wp2
              go_loop [6] (fun t => ∃ n : Nat, p + n ≤ s.size ∧ t = .int .i64 n ∧ Hid (∀ j (h : j < s.size), p ≤ j → j < p + n → insB s[j] = true)) (fun t => s.size - (intOf t).toNat)
              case atStart => exact ⟨0, by omega, rfl, fun j _ h1 h2 => by omega⟩
              case round =>
                obtain ⟨n, hn, rfl, HN⟩ := hrel
                by_cases hq : p + n < s.size
                · cases hin : insI (s[p + n].toNat : Int)
                  · have hru : Hid (run insB (s.data.toList.drop p) = n) := run_at insB s p n hn HN.out (.inr ⟨hq, hin⟩)
                    have hsl := slice_is 9 Tryz.underlying9 s p n (by omega)
                    by_cases h16 : n ≤ 16
                    · have hst : Hid (stepL (s.data.toList.drop p) = .tok 1 n) := st_word hlt h32 h10 h35 hl hru.out h16
                      go_wp2_with (first
                        | (go_at_call 51; refine (rinside _ _).mono ?_; rintro e w' ⟨rfl, hw⟩; obtain rfl := hw.symm)
                        | (go_at_call 52; refine (rletter _ _).mono ?_; rintro e w' ⟨rfl, hw⟩; obtain rfl := hw.symm)
                        | (at_builtin; refine wpList_append_own _ rfl (.tmp 101) (.tmp 103) 47 rfl (w.heap.size + 1) 58 i0 (.agg #[.int .i64 0, .string ⟨#[]⟩, .int .i64 0]) 3 32 Tryz.underlying47 hi hz0 hz1 hz2 rfl (by decide) _ _ _ rfl ((hown.alloc _).alloc _) ⟨wr.heap.size + 1, 0, none⟩ 1 1 [.int .i64 1, .string (s.extract p (p + n)), .int .i64 (p : Int)] rfl rfl (cell_three_new _ _ _ _ _ _ (by simp)) (one_cells _ _ _) (by unfold maxLen; omega) (by omega) (by simp <;> omega) ?_; intro v' w1 hown' hgrow hne; have X : Hid (w1.ownsRow (w.heap.size + 1) 58 3 v' (acc.length + 1) (cellsOf acc ++ [.int .i64 1, .string (s.extract p (p + n)), .int .i64 (p : Int)]) ∧ Below (w.heap.size + 1) (w.alloc (.cells #[.int .i64 0, .int .i64 0] 27)) w1) := ⟨hown', rel_tok ((hbw.alloc (by omega) _).alloc (by simp <;> omega) _) (by simp <;> omega) ((hown.alloc _).alloc _) hgrow⟩; clear hown' hgrow hne))
                      have hT := tok_rel hlt hal hf hst.out HS.out X.out.1 X.out.2
                      go_roundw
                      case rel => exact hT.2
                      case measure => have := hT.1; simp [intOf]; omega
                    · have hst : Hid (stepL (s.data.toList.drop p) = .fault 1) := st_long hlt h32 h10 h35 hl hru.out (by omega)
                      have hend := go_fault hlt hst.out HS.out
                      subst hend
                      go_wp2_with (first | (go_at_call 51; refine (rinside _ _).mono ?_; rintro e w' ⟨rfl, hw⟩; obtain rfl := hw.symm) | (go_at_call 52; refine (rletter _ _).mono ?_; rintro e w' ⟨rfl, hw⟩; obtain rfl := hw.symm))
                      refine bodyPost_ret (v := .tuple #[.slice none 0 0, .agg #[.int .i64 1, .int .i64 p]]) (by simp [results, Tryz.results22, go_sem, hc0, hc1, hB']) rfl ⟨_, rfl, World.ownsRow_nil _ _ _ _, ?_⟩
                      exact (((below_old hbw).setCell (Nat.le_refl _) _).setCell (Nat.le_refl _) _).alloc (by simp <;> omega) _
                  · go_wp2_with (go_at_call 51; refine (rinside _ _).mono ?_; rintro e w' ⟨rfl, hw⟩; obtain rfl := hw.symm)
                    go_round
                    case rel => exact ⟨n + 1, by omega, by go_num, fun j h h1 h2 => by
                      rcases Nat.lt_or_ge j (p + n) with h3 | h3
                      · exact HN.out j h h1 h3
                      · have : j = p + n := by omega
                        subst this
                        exact hin⟩
                    case measure => simp [intOf]; omega
                · have hru : Hid (run insB (s.data.toList.drop p) = n) := run_at insB s p n hn HN.out (.inl (by omega))
                  have hsl := slice_is 9 Tryz.underlying9 s p n (by omega)
                  by_cases h16 : n ≤ 16
                  · have hst : Hid (stepL (s.data.toList.drop p) = .tok 1 n) := st_word hlt h32 h10 h35 hl hru.out h16
                    go_wp2_with (first
                      | (go_at_call 51; refine (rinside _ _).mono ?_; rintro e w' ⟨rfl, hw⟩; obtain rfl := hw.symm)
                      | (go_at_call 52; refine (rletter _ _).mono ?_; rintro e w' ⟨rfl, hw⟩; obtain rfl := hw.symm)
                      | (at_builtin; refine wpList_append_own _ rfl (.tmp 101) (.tmp 103) 47 rfl (w.heap.size + 1) 58 i0 (.agg #[.int .i64 0, .string ⟨#[]⟩, .int .i64 0]) 3 32 Tryz.underlying47 hi hz0 hz1 hz2 rfl (by decide) _ _ _ rfl ((hown.alloc _).alloc _) ⟨wr.heap.size + 1, 0, none⟩ 1 1 [.int .i64 1, .string (s.extract p (p + n)), .int .i64 (p : Int)] rfl rfl (cell_three_new _ _ _ _ _ _ (by simp)) (one_cells _ _ _) (by unfold maxLen; omega) (by omega) (by simp <;> omega) ?_; intro v' w1 hown' hgrow hne; have X : Hid (w1.ownsRow (w.heap.size + 1) 58 3 v' (acc.length + 1) (cellsOf acc ++ [.int .i64 1, .string (s.extract p (p + n)), .int .i64 (p : Int)]) ∧ Below (w.heap.size + 1) (w.alloc (.cells #[.int .i64 0, .int .i64 0] 27)) w1) := ⟨hown', rel_tok ((hbw.alloc (by omega) _).alloc (by simp <;> omega) _) (by simp <;> omega) ((hown.alloc _).alloc _) hgrow⟩; clear hown' hgrow hne))
                    have hT := tok_rel hlt hal hf hst.out HS.out X.out.1 X.out.2
                    go_roundw
                    case rel => exact hT.2
                    case measure => have := hT.1; simp [intOf]; omega
                  · have hst : Hid (stepL (s.data.toList.drop p) = .fault 1) := st_long hlt h32 h10 h35 hl hru.out (by omega)
                    have hend := go_fault hlt hst.out HS.out
                    subst hend
                    go_wp2_with (first | (go_at_call 51; refine (rinside _ _).mono ?_; rintro e w' ⟨rfl, hw⟩; obtain rfl := hw.symm) | (go_at_call 52; refine (rletter _ _).mono ?_; rintro e w' ⟨rfl, hw⟩; obtain rfl := hw.symm))
                    refine bodyPost_ret (v := .tuple #[.slice none 0 0, .agg #[.int .i64 1, .int .i64 p]]) (by simp [results, Tryz.results22, go_sem, hc0, hc1, hB']) rfl ⟨_, rfl, World.ownsRow_nil _ _ _ _, ?_⟩
                    exact (((below_old hbw).setCell (Nat.le_refl _) _).setCell (Nat.le_refl _) _).alloc (by simp <;> omega) _
          · go_wp2
            go_loop [5] (fun i => ∃ q : Nat, p ≤ q ∧ q ≤ s.size ∧ i = .int .i64 q ∧ Hid (∀ j (h : j < s.size), p ≤ j → j < q → (s[j] != 10) = true)) (fun i => s.size - (intOf i).toNat)
            case atStart => exact ⟨p, by omega, by omega, rfl, fun j _ h1 h2 => by omega⟩
            case round =>
              obtain ⟨q, hpq, hqs, rfl, HN⟩ := hrel
              by_cases hq : q < s.size
              · cases hn : ((s[q].toNat : Int) == 10)
                · go_wp2
                  go_round
                  case rel => exact ⟨q + 1, by omega, by omega, by go_num, fun j h h1 h2 => by
                    rcases Nat.lt_or_ge j q with h3 | h3
                    · exact HN.out j h h1 h3
                    · have : j = q := by omega
                      subst this
                      rw [byte_is _ 10 10 rfl] at hn
                      simp [bne, hn]⟩
                  case measure => simp [intOf]; omega
                · have hru : run (fun b => b != 10) (s.data.toList.drop p) = q - p := run_at _ s p (q - p) (by omega) (fun j h h1 h2 => HN.out j h h1 (by omega)) (.inr ⟨by omega, by
                    have e : p + (q - p) = q := by omega
                    simp only [e]
                    rw [byte_is _ 10 10 rfl] at hn
                    simp [bne, hn]⟩)
                  have hg := go_skip hlt (st_note hlt h32 h10 h35 hru) HS.out
                  have HG : Hid (scanL f (s.data.toList.drop q) q acc = R) := by
                    have e : p + (q - p) = q := by omega
                    rw [← e]; exact hg.1
                  have hpos : p < q := by omega
                  clear hg hru
                  go_wp2
                  go_roundw
                  case rel => exact ⟨q, f, acc, by omega, rfl, by omega, HG.out, hown, by omega, hbw⟩
                  case measure => simp [intOf]; omega
              · have hru : run (fun b => b != 10) (s.data.toList.drop p) = q - p := run_at _ s p (q - p) (by omega) (fun j h h1 h2 => HN.out j h h1 (by omega)) (.inl (by omega))
                have hg := go_skip hlt (st_note hlt h32 h10 h35 hru) HS.out
                have HG : Hid (scanL f (s.data.toList.drop q) q acc = R) := by
                  have e : p + (q - p) = q := by omega
                  rw [← e]; exact hg.1
                have hpos : p < q := by omega
                clear hg hru
                go_wp2
                go_roundw
                case rel => exact ⟨q, f, acc, by omega, rfl, by omega, HG.out, hown, by omega, hbw⟩
                case measure => simp [intOf]; omega
        · go_wp2
          go_roundw
          case rel =>
            have hg := go_skip hlt (st_blank hlt (.inr h10)) HS.out
            exact ⟨p + 1, f, acc, by omega, by go_num, by omega, hg.1, hown, by omega, hbw⟩
          case measure => simp [intOf]; omega
      · go_wp2
        go_roundw
        case rel =>
          have hg := go_skip hlt (st_blank hlt (.inl h32)) HS.out
          exact ⟨p + 1, f, acc, by omega, by go_num, by omega, hg.1, hown, by omega, hbw⟩
        case measure => simp [intOf]; omega
    · have hend := go_end (by omega) HS.out
      subst hend
      go_wp2
      refine bodyPost_ret (v := .tuple #[u4, .agg #[.int .i64 0, .int .i64 0]]) (by simp [results, Tryz.results22, go_sem, hc0, hc1]) rfl ⟨u4, rfl, ?_, ?_⟩
      · exact ownsRow_le (ownsRow_setCell_below (ownsRow_setCell_below hown (by simp) _) (by simp) _) (by omega)
      · exact ((below_old hbw).setCell (Nat.le_refl _) _).setCell (Nat.le_refl _) _
theorem rscan_long (s : ByteArray) (w : World) (hs : 3000 < s.size) :
    Calls Tryz.prog 22 #[.string s] w fun e w' => ∃ v, e = .returned (.tuple #[v, .agg #[.int .i64 (scan s.data.toList).code, .int .i64 (scan s.data.toList).place]]) ∧
      w'.ownsRow w.heap.size 58 3 v (scan s.data.toList).toks.length (cellsOf (scan s.data.toList).toks) ∧ Below w.heap.size w w' := by
  have hsz : (3000 : Int) < (s.size : Int) := by omega
  have hR : scan s.data.toList = .err 1 0 := by rw [scan, if_pos (by rw [len_L]; omega)]
  rw [hR]
  clear hR
  go_enter Tryz.func22, Tryz.ntmps22
  go_wp2
  refine bodyPost_ret (v := .tuple #[.slice none 0 0, .agg #[.int .i64 1, .int .i64 0]]) (by simp [results, Tryz.results22, go_sem]) rfl ⟨_, rfl, World.ownsRow_nil _ _ _ _, ?_⟩
  exact (Below.refl _ _).alloc (Nat.le_refl _) _
/-- THE CONTRACT: whatever the text -/
theorem rscan_any (s : ByteArray) (w : World) :
    Calls Tryz.prog 22 #[.string s] w fun e w' => ∃ v, e = .returned (.tuple #[v, .agg #[.int .i64 (scan s.data.toList).code, .int .i64 (scan s.data.toList).place]]) ∧
      w'.ownsRow w.heap.size 58 3 v (scan s.data.toList).toks.length (cellsOf (scan s.data.toList).toks) ∧ Below w.heap.size w w' := by
  rcases Nat.lt_or_ge 3000 s.size with h | h
  · exact rscan_long s w h
  · exact rscan s w h
end Go.Proofs.YtchhpinmoagkhaaGreatDoor.lexs
namespace Go.Proofs.YtchhpinmoagkhaaGreatDoor.lexs
open Go.RowKit
set_option linter.unusedVariables false

/-- what a scan answers, in the worlds that H names -/
def Scans (H : World → Prop) (F : Nat) (s : ByteArray) : Prop := ∀ w : World, H w → Calls Tryz.prog F #[.string s] w fun e w' => ∃ v, e = .returned (.tuple #[v, .agg #[.int .i64 (scan s.data.toList).code, .int .i64 (scan s.data.toList).place]]) ∧
      w'.ownsRow w.heap.size 58 3 v (scan s.data.toList).toks.length (cellsOf (scan s.data.toList).toks) ∧ Below w.heap.size w w'

theorem own_shape {w : World} {B : Nat} {e : TypeId} {k n : Nat} {v : Value} {xs : List Value} (h : w.ownsRow B e k v n xs) : ∃ a c, v = .slice a n c ∧ n ≤ 9223372036854775807 ∧ (0 < n → ∃ g, a = some ⟨g, 0, none⟩) := by
  rcases h.2 with ⟨rfl, rfl⟩ | ⟨g, cap, cur, rfl, _, _, h1, h2, _⟩
  · exact ⟨none, 0, rfl, by omega, fun h => by omega⟩
  · exact ⟨some ⟨g, 0, none⟩, cap, rfl, by unfold maxLen at h2; omega, fun _ => ⟨g, rfl⟩⟩
theorem cellsOf_at (l : List Tok) (k : Nat) (hk : k < l.length) : (cellsOf l)[k * 3]? = some (.int .i64 l[k].kind) ∧ (cellsOf l)[k * 3 + 1]? = some (.string ⟨l[k].text.toArray⟩) ∧ (cellsOf l)[k * 3 + 2]? = some (.int .i64 (l[k].at_ : Int)) := by
  induction l generalizing k with
  | nil => simp at hk
  | cons t l ih =>
    cases k with
    | zero => simp [cellsOf]
    | succ k =>
      have h := ih k (by simpa using hk)
      have e : cellsOf (t :: l) = [.int .i64 t.kind, .string ⟨t.text.toArray⟩, .int .i64 (t.at_ : Int)] ++ cellsOf l := rfl
      have e3 : (k + 1) * 3 = k * 3 + 3 := by omega
      rw [e, e3]
      refine ⟨?_, ?_, ?_⟩
      · rw [List.getElem?_append_right (by simp)]; simpa using h.1
      · rw [List.getElem?_append_right (by simp)]; simpa using h.2.1
      · rw [List.getElem?_append_right (by simp)]; simpa using h.2.2
theorem tok_cells {w : World} {B : Nat} {e : TypeId} {g n cap : Nat} {l : List Tok} (h : w.ownsRow B e 3 (.slice (some ⟨g, 0, none⟩) n cap) n (cellsOf l)) {k : Nat} (hk : k < l.length) :
    w.cell? ⟨g, k * 3, none⟩ = some (.int .i64 l[k].kind) ∧ w.cell? ⟨g, k * 3 + 1, none⟩ = some (.string ⟨l[k].text.toArray⟩) ∧ w.cell? ⟨g, k * 3 + 2, none⟩ = some (.int .i64 (l[k].at_ : Int)) := by
  have ha := cellsOf_at l k hk
  have hn : n = l.length := by have := h.1; rw [cellsOf_length] at this; omega
  exact ⟨(h.cellAt _ (by omega)).trans ha.1, (h.cellAt _ (by omega)).trans ha.2.1, (h.cellAt _ (by omega)).trans ha.2.2⟩
/-- a box more, and a call behind it -/
theorem below_next {w a b : World} {o : Obj} (h : Below w.heap.size w a) (h2 : Below (a.alloc o).heap.size (a.alloc o) b) : Below w.heap.size w b :=
  (h.alloc h.size o).trans (h2.mono (by have := h.size; rw [World.size_alloc]; omega))
theorem below_last {w a b : World} (h : Below w.heap.size w a) (h2 : Below a.heap.size a b) : Below w.heap.size w b := h.trans (h2.mono h.size)
theorem boxes' {w1 w2 : World} {x y : Value} {T : TypeId} (h : Below (w1.alloc (.cells #[x, y] T)).heap.size (w1.alloc (.cells #[x, y] T)) w2) :
    w2.cell? ⟨w1.heap.size, 0, none⟩ = some x ∧ w2.cell? ⟨w1.heap.size, 1, none⟩ = some y ∧ w1.heap.size < w2.heap.size := by
  rw [World.size_alloc] at h
  have := boxes h
  exact ⟨this.1, this.2.1, this.2.2.2.2⟩
end Go.Proofs.YtchhpinmoagkhaaGreatDoor.lexs
