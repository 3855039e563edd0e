/- What Run answers where nothing is wrong: a contract. -/
import Derived.Test.YtcfibghjekimkaaMacRunB
import Derived.Laws.Tables
namespace Go.Proofs.Ytcfibghjekimkaa.mac
open Go.RowKit
set_option linter.unusedVariables false
set_option linter.unusedSimpArgs false
set_option maxRecDepth 100000
theorem grown_trans {w a b : World} {row : Option Nat} (h1 : w.grownBy a row) (h2 : a.grownBy b row) : w.grownBy b row :=
  ⟨h2.os.trans h1.os, h2.tape.trans h1.tape, h2.output.trans h1.output, Nat.le_trans h1.size h2.size, fun k hk hn => (h2.block k (Nat.lt_of_lt_of_le hk h1.size) hn).trans (h1.block k hk hn)⟩
theorem grown_row (W : World) (B : Nat) (cs : Array Value) : W.grownBy (W.setRow B cs) (some B) := ⟨rfl, rfl, rfl, by simp, fun k _ h => setRow_other W B k cs (fun e => h (by rw [e]))⟩
theorem below_row {B g : Nat} {w0 w : World} (hb : Below B w0 w) (hBg : B ≤ g) (cs : Array Value) : Below B w0 (w.setRow g cs) :=
  hb.trans ⟨rfl, rfl, rfl, by simp, fun k hk => setRow_other w g k cs (by omega)⟩
theorem step_store_row {P : Program} {ops : Array Oper} {o : Oper} {a : Act} {w : World} {K : Act → World → Prop} {Q : Exit → Act → World → Prop} {E : Prop} (hgd : o.guard = none) (ty : TypeId) (x y : Operand) (ho : o.op = .store ty x y)
    (g : Nat) (cells : Array Value) (hx : a.eval x = .pointer (some ⟨g, 0, none⟩)) (hy : a.eval y = .agg cells)
    (t : TypeId) (old : Array Value) (hg : w.heap[g]? = some (.cells old t (0, 0))) (hi : (P.info? ty).map (·.size) = some cells.size)
    (hold : old.size = cells.size) (h1 : cells.all (·.oneCell') = true) (h : K (a.put o.dst undef) (w.setRow g cells)) :
    if Region.wanted o (yielded ops a.tmps) = true then Oper.wp P o a w K Q else E := by
  have hw : Region.wanted o (yielded ops a.tmps) = true := by simp [Region.wanted, hgd]
  rw [if_pos hw]
  exact wp_store_row ty x y ho g cells hx hy t old hg hi hold h1 h
theorem made_is (n : Nat) : (madeCells (Value.int .i64 0).cells (n * 1)).toList = (List.replicate n (0 : Int)).map intV := by
  show (madeCells #[.int .i64 0] (n * 1)).toList = _
  rw [toList_madeCells_one, Nat.mul_one, List.map_replicate]
theorem ints_own {w : World} {N : Nat} {v : Value} {l : List Int} (ho : w.ownsRow N 2 1 v l.length (l.map intV)) : IntsIn w v l := by
  rcases ho.2 with ⟨e, hn⟩ | ⟨g, cap, cur, e, hB, _, h1, h2, _⟩
  · exact ⟨none, 0, by rw [e, hn], fun h => absurd (List.eq_nil_of_length_eq_zero hn) h⟩
  · refine ⟨some ⟨g, 0, none⟩, cap, e, fun _ => ⟨g, 0, rfl, fun i hi => ?_⟩⟩
    rw [e] at ho
    rw [Nat.zero_add, ho.cellAt _ (by omega)]
    simp [hi]
theorem own_far {w : World} {N B : Nat} {T : TypeId} {v : Value} {n : Nat} {xs : List Value} (h : w.ownsRow N T 1 v n xs) (hB : B < N) : v.ownBlock = none ∨ v.ownBlock ≠ some B := by
  cases e : v.ownBlock with
  | none => exact .inl rfl
  | some b => exact .inr fun e2 => by have := (h.lt b e).1; cases e2; omega
def vs0 (gl gh l h : Nat) : Fin 5 → Value
  | 0 => .slice none 0 0
  | 1 => .slice none 0 0
  | 2 => .slice (some ⟨gl, 0, none⟩) l l
  | 3 => .slice (some ⟨gh, 0, none⟩) h h
  | 4 => .slice none 0 0
theorem MS.start {W0 V : World} {D gl gh l h fuel : Nat} {il ih cv : Value} (hS : Below W0.heap.size W0 V) (bE : BoxC V D #[.int .i64 0, .slice none 0 0, .slice none 0 0, .int .i64 0, .int .i64 0, .int .i64 0, il, ih, .int .i64 fuel, cv, .int .i64 0, .int .i64 0, .int .i64 0, .int .i64 0, .int .i64 0, .int .i64 0, .int .i64 0, .int .i64 0, .int .i64 0, .slice (some ⟨gl, 0, none⟩) l l, .slice (some ⟨gh, 0, none⟩) h h, .slice none 0 0] 42) (hND : W0.heap.size ≤ D) (rl : V.ownsRow W0.heap.size 2 1 (.slice (some ⟨gl, 0, none⟩) l l) l ((List.replicate l (0 : Int)).map intV)) (rh : V.ownsRow W0.heap.size 2 1 (.slice (some ⟨gh, 0, none⟩) h h) h ((List.replicate h (0 : Int)).map intV)) (hlh : gl ≠ gh) (hlD : gl ≠ D) (hhD : gh ≠ D) :
    MS ⟨W0.heap.size, D, il, ih, cv, fuel, W0.heap.size, none⟩ W0 (vs0 gl gh l h) (s0 l h) V := by
  refine ⟨⟨bE, hND, fun i => ?_, fun i => ?_, fun i j hij b => ?_⟩, hS, rfl, fun o ho => by cases ho⟩
  · match i with
    | 0 => exact World.ownsRow_nil _ _ _ _
    | 1 => exact World.ownsRow_nil _ _ _ _
    | 2 => simpa [rowsF, vs0, s0] using rl
    | 3 => simpa [rowsF, vs0, s0] using rh
    | 4 => exact World.ownsRow_nil _ _ _ _
  · match i with
    | 0 => intro e; cases e
    | 1 => intro e; cases e
    | 2 => intro e; exact hlD (Option.some.inj e)
    | 3 => intro e; exact hhD (Option.some.inj e)
    | 4 => intro e; cases e
  · match i, j with
    | 0, _ => intro e; cases e
    | 1, _ => intro e; cases e
    | 4, _ => intro e; cases e
    | 2, 0 => intro _ e; cases e
    | 2, 1 => intro _ e; cases e
    | 2, 2 => exact absurd rfl hij
    | 2, 3 => intro e e2; exact hlh ((Option.some.inj e).trans (Option.some.inj e2).symm)
    | 2, 4 => intro _ e; cases e
    | 3, 0 => intro _ e; cases e
    | 3, 1 => intro _ e; cases e
    | 3, 2 => intro e e2; exact hlh ((Option.some.inj e2).trans (Option.some.inj e).symm)
    | 3, 3 => exact absurd rfl hij
    | 3, 4 => intro _ e; cases e
theorem Inv.start (iL iH : List Int) (many l h : Nat) : Inv iL iH many (s0 l h) := ⟨Nat.zero_le _, rfl, Nat.zero_le _, Nat.zero_le _, Nat.le_refl _, Nat.le_refl _, Nat.zero_le _, fun b hb => by cases hb⟩
theorem go_facts {code : List Ins} {l h fuel nl nh : Nat} (hm : mayB code l h = true) (hn : newC nl nh fuel 90000 = 0) : fuel ≤ 90000 ∧ nl ≤ 1000 ∧ nh ≤ 1000 ∧ code.length ≤ 20000 ∧ ∀ i (hi : i < code.length), insB code.length code[i] = true := by
  unfold mayB at hm
  rw [Bool.and_eq_true] at hm
  obtain ⟨_, h2, _, _⟩ := head_yes hm.1
  have h3 := List.all_eq_true.1 hm.2
  have h4 : (fuel : Int) ≤ 90000 ∧ nl ≤ 1000 ∧ nh ≤ 1000 := by
    unfold newC at hn
    split at hn
    · cases hn
    · split at hn
      · cases hn
      · omega
  exact ⟨by omega, h4.2.1, h4.2.2, by omega, fun i hi => h3 _ (List.getElem_mem hi)⟩
/-- what is read at the end -/
structure Ends (D : Nat) (R : Nat × St) (vL vH vl vh : Value) (W : World) : Prop where
  c0 : W.cell? ⟨D, 0, none⟩ = some (.int .i64 R.1)
  c1 : W.cell? ⟨D, 1, none⟩ = some vL
  c2 : W.cell? ⟨D, 2, none⟩ = some vH
  c3 : W.cell? ⟨D, 3, none⟩ = some (natV R.2.uL)
  c4 : W.cell? ⟨D, 4, none⟩ = some (natV R.2.uH)
  c5 : W.cell? ⟨D, 5, none⟩ = some (natV R.2.steps)
  c19 : W.cell? ⟨D, 19, none⟩ = some vl
  c20 : W.cell? ⟨D, 20, none⟩ = some vh
section
variable {D : Nat} {R : Nat × St} {vL vH vl vh : Value} {W W' : World}
theorem Ends.block (h : Ends D R vL vH vl vh W) (hb : W'.heap[D]? = W.heap[D]?) : Ends D R vL vH vl vh W' :=
  ⟨(World.cell?_of_block (a := ⟨D, 0, none⟩) hb).trans h.c0, (World.cell?_of_block (a := ⟨D, 1, none⟩) hb).trans h.c1, (World.cell?_of_block (a := ⟨D, 2, none⟩) hb).trans h.c2, (World.cell?_of_block (a := ⟨D, 3, none⟩) hb).trans h.c3, (World.cell?_of_block (a := ⟨D, 4, none⟩) hb).trans h.c4, (World.cell?_of_block (a := ⟨D, 5, none⟩) hb).trans h.c5, (World.cell?_of_block (a := ⟨D, 19, none⟩) hb).trans h.c19, (World.cell?_of_block (a := ⟨D, 20, none⟩) hb).trans h.c20⟩
theorem Ends.lt (h : Ends D R vL vH vl vh W) : D < W.heap.size := World.block_lt_of_cell? W ⟨D, 0, none⟩ h.c0
theorem Ends.below (h : Ends D R vL vH vl vh W) (hb : Below W.heap.size W W') : Ends D R vL vH vl vh W' := h.block (hb.block D h.lt)
end
theorem MS.ends {p : Pl} {w0 w : World} {vs : Fin 5 → Value} {R : Nat × St} (h : MS p w0 vs R.2 w) : Ends p.D R (vs 0) (vs 1) (vs 2) (vs 3) (w.setCell ⟨p.D, 0, none⟩ (.int .i64 R.1)) := by
  obtain ⟨z0, z1, z2, z3, z4, z5, _⟩ := h.cells
  obtain ⟨z19, z20, _⟩ := h.tail
  have o : ∀ {k : Nat} {v : Value}, k ≠ 0 → w.cell? ⟨p.D, k, none⟩ = some v → (w.setCell ⟨p.D, 0, none⟩ (.int .i64 R.1)).cell? ⟨p.D, k, none⟩ = some v := fun hk hv => by
    rw [World.cell?_setCell_other _ _ _ _ (by simp [hk])]; exact hv
  exact ⟨World.cell?_setCell_same _ _ _ z0, o (by omega) z1, o (by omega) z2, o (by omega) z3, o (by omega) z4, o (by omega) z5, o (by omega) z19, o (by omega) z20⟩
theorem grown_put6 {W : World} {B : Nat} (y0 y1 y2 y3 y4 y5 : Value) : W.grownBy ((((((W.setCell ⟨B, 0, none⟩ y0).setCell ⟨B, 1, none⟩ y1).setCell ⟨B, 2, none⟩ y2).setCell ⟨B, 3, none⟩ y3).setCell ⟨B, 4, none⟩ y4).setCell ⟨B, 5, none⟩ y5) (some B) := grown_trans (grown_trans (grown_trans (grown_trans (grown_trans (grown_set W B 0 y0) (grown_set _ B 1 y1)) (grown_set _ B 2 y2)) (grown_set _ B 3 y3)) (grown_set _ B 4 y4)) (grown_set _ B 5 y5)
set_option maxHeartbeats 4000000 in
theorem oRunGo (code : List Ins) (cv : Value) (l h : Nat) (hl : l ≤ 20000) (hh : h ≤ 20000) (a b : Option Addr) (cl ch : Nat) (iL iH : List Int) (fuel : Nat) (w : World) (hc : CodeIn w cv code) (hL : IntsIn w (.slice a iL.length cl) iL) (hH : IntsIn w (.slice b iH.length ch) iH) (hm : mayB code l h = true) (hn : newC iL.length iH.length fuel 90000 = 0) :
    Calls Try.prog 4 #[imgV cv l h, .slice a iL.length cl, .slice b iH.length ch, .int .i64 fuel] w fun e w' => Below w.heap.size w w' ∧ ShowE w' (runF iL iH code fuel (s0 l h)) e := by
  have hmf : ∀ (fn : Fn) (first cap : Array Value) (w : World), (Instr.makeFunc fn first cap).run Try.prog w = .ok (.func fn first cap) w := fun _ _ _ _ => rfl
  have HF : Hid (fuel ≤ 90000 ∧ iL.length ≤ 1000 ∧ iH.length ≤ 1000 ∧ code.length ≤ 20000 ∧ ∀ i (hi : i < code.length), insB code.length code[i] = true) := go_facts hm hn
  have c24 : Try.prog.cellsOf 24 = 3 := by kernel_rfl
  have c27 : Try.prog.cellsOf 27 = 6 := by kernel_rfl
  have c36 : Try.prog.cellsOf 36 = 9 := by kernel_rfl
  have c42 : Try.prog.cellsOf 42 = 22 := by kernel_rfl
  obtain ⟨ca, cc, hcv⟩ : ∃ a c, cv = .slice a code.length c := by obtain ⟨a, c, e, _⟩ := hc; exact ⟨a, c, e⟩
  subst hcv
  unfold imgV
  obtain ⟨w2, hw2⟩ : ∃ w2, w2 = (w.alloc (.cells #[.slice ca code.length cc, .int .i64 l, .int .i64 h] 24)).alloc (.cells #[.int .i64 0, .slice none 0 0, .slice none 0 0, .int .i64 0, .int .i64 0, .int .i64 0] 27) := ⟨_, rfl⟩
  have hs2 : w2.heap.size = w.heap.size + 2 := by rw [hw2]; simp
  have hB2 : Below w.heap.size w w2 := by rw [hw2]; exact ((Below.refl _ _).alloc (Nat.le_refl _) _).alloc (by simp) _
  have b0 : BoxC w2 w.heap.size #[.slice ca code.length cc, .int .i64 l, .int .i64 h] 24 := by rw [hw2]; exact (BoxC.new _ _ _).alloc _
  have b1 : BoxC w2 (w.heap.size + 1) #[.int .i64 0, .slice none 0 0, .slice none 0 0, .int .i64 0, .int .i64 0, .int .i64 0] 27 := by
    have := BoxC.new (w.alloc (.cells #[.slice ca code.length cc, .int .i64 l, .int .i64 h] 24)) #[.int .i64 0, .slice none 0 0, .slice none 0 0, .int .i64 0, .int .i64 0, .int .i64 0] 27
    rw [World.size_alloc] at this
    rw [hw2]
    exact this
  have hMay := oMay code _ l h w2 (hc.below hB2)
  unfold imgV at hMay
  rw [hm] at hMay
  rw [hw2] at hMay
  have hN := fun W => oNew a b iL.length iH.length cl ch fuel 90000 W
  unfold newR at hN
  rw [hn, if_pos rfl] at hN
  unfold runV at hN
  have HN := show Hid _ from hN
  have HC : Hid (CodeIn w (.slice ca code.length cc) code) := hc
  have HLs : Hid (IntsIn w (.slice a iL.length cl) iL) := hL
  have HHs : Hid (IntsIn w (.slice b iH.length ch) iH) := hH
  clear hN hm hn hc hL hH
  generalize hR : runF iL iH code fuel (s0 l h) = R
  have HR := show Hid _ from hR
  clear hR
  go_enter Try.func4, Try.ntmps4
  go_wp2_with first
    | (go_at_call 7; refine hMay.mono ?_; rw [← hw2]; rintro e w3 ⟨rfl, hb3⟩; have b03 := b0.below hb3; have b13 := b1.below hb3; have hB3 := hB2.trans (hb3.mono (by omega)); clear hMay hw2)
    | (go_at_call 8; refine (HN.out w3).mono ?_; rintro e w4 ⟨rfl, hb4⟩; have b04 := b03.below hb4; have b14 := b13.below hb4; have hB4 := hB3.trans (hb4.mono hB3.size); have hlt4 := b14.lt; clear b03 b13 hb4)
  have hZ0 : BoxC (w4.alloc (.cells #[.int .i64 0, .slice none 0 0, .slice none 0 0, .int .i64 0, .int .i64 0, .int .i64 0, .slice a iL.length cl, .slice b iH.length ch, .int .i64 fuel] 36)).drew w4.heap.size #[.int .i64 0, .slice none 0 0, .slice none 0 0, .int .i64 0, .int .i64 0, .int .i64 0, .slice a iL.length cl, .slice b iH.length ch, .int .i64 fuel] 36 := BoxC.new w4 #[.int .i64 0, .slice none 0 0, .slice none 0 0, .int .i64 0, .int .i64 0, .int .i64 0, .slice a iL.length cl, .slice b iH.length ch, .int .i64 fuel] 36
  have hM0 : BoxC (w4.alloc (.cells #[.int .i64 0, .slice none 0 0, .slice none 0 0, .int .i64 0, .int .i64 0, .int .i64 0, .slice a iL.length cl, .slice b iH.length ch, .int .i64 fuel] 36)).drew w.heap.size #[.slice ca code.length cc, .int .i64 l, .int .i64 h] 24 := b04.alloc _
  have hR0 : BoxC (w4.alloc (.cells #[.int .i64 0, .slice none 0 0, .slice none 0 0, .int .i64 0, .int .i64 0, .int .i64 0, .slice a iL.length cl, .slice b iH.length ch, .int .i64 fuel] 36)).drew (w.heap.size + 1) #[.int .i64 0, .slice none 0 0, .slice none 0 0, .int .i64 0, .int .i64 0, .int .i64 0] 27 := b14.alloc _
  have hB5 := (hB4.alloc hB4.size (.cells #[.int .i64 0, .slice none 0 0, .slice none 0 0, .int .i64 0, .int .i64 0, .int .i64 0, .slice a iL.length cl, .slice b iH.length ch, .int .i64 fuel] 36)).drew
  clear b04 b14 hB4 hlt4 b0 b1 hb3 hB2 hB3 hs2
  obtain ⟨W0, hW0⟩ : ∃ W0, W0 = (w4.alloc (.cells #[.int .i64 0, .slice none 0 0, .slice none 0 0, .int .i64 0, .int .i64 0, .int .i64 0, .slice a iL.length cl, .slice b iH.length ch, .int .i64 fuel] 36)).drew := ⟨_, rfl⟩
  rw [← hW0] at hZ0 hM0 hR0 hB5
  obtain ⟨i0, hi, hz0, hz1, hz2⟩ := info_parts infoI8
  have hS : Below W0.heap.size W0 (w4.alloc (.cells #[.int .i64 0, .slice none 0 0, .slice none 0 0, .int .i64 0, .int .i64 0, .int .i64 0, .slice a iL.length cl, .slice b iH.length ch, .int .i64 fuel] 36)).drew := by rw [← hW0]; exact Below.refl _ _
  refine wp_region_held_drew (S := fun W => Below W0.heap.size W0 W) (by kernel_rfl) hS (fun hHeld => ?_)
  clear hHeld
  generalize (w4.alloc (.cells #[.int .i64 0, .slice none 0 0, .slice none 0 0, .int .i64 0, .int .i64 0, .int .i64 0, .slice a iL.length cl, .slice b iH.length ch, .int .i64 fuel] 36)).drew = W at *
  clear hW0
  generalize w4.heap.size = Z at *
  refine tkd (i := 0) (v := .agg #[.int .i64 0, .slice none 0 0, .slice none 0 0, .int .i64 0, .int .i64 0, .int .i64 0, .slice a iL.length cl, .slice b iH.length ch, .int .i64 fuel] ) rfl rfl (by kernel_rfl) (by kernel_rfl) (by kernel_rfl) (fun _ _ _ h => h) (Or.inl ⟨by rfl, fun w hSw => by have zz := hZ0.below hSw; have z0 := zz.cell 0 rfl; have z1 := zz.cell 1 rfl; have z2 := zz.cell 2 rfl; have z3 := zz.cell 3 rfl; have z4 := zz.cell 4 rfl; have z5 := zz.cell 5 rfl; have z6 := zz.cell 6 rfl; have z7 := zz.cell 7 rfl; have z8 := zz.cell 8 rfl; go_simp⟩) hS ?_
  simp only [List.setIfInBounds_toArray, List.set_cons_zero, List.set_cons_succ]
  refine tkd (i := 1) (v := .pointer (some ⟨w.heap.size, 0, none⟩)) rfl rfl (by kernel_rfl) (by kernel_rfl) (by kernel_rfl) (fun _ _ _ h => h) (Or.inl ⟨by rfl, fun w hSw => by skip; go_simp⟩) hS ?_
  simp only [List.setIfInBounds_toArray, List.set_cons_zero, List.set_cons_succ]
  refine tkd (i := 2) (v := .slice ca code.length cc) rfl rfl (by kernel_rfl) (by kernel_rfl) (by kernel_rfl) (fun _ _ _ h => h) (Or.inl ⟨by rfl, fun w hSw => by have z := (hM0.below hSw).cell 0 rfl; go_simp⟩) hS ?_
  simp only [List.setIfInBounds_toArray, List.set_cons_zero, List.set_cons_succ]
  refine tkd (i := 3) (v := .pointer (some ⟨w.heap.size, 1, none⟩)) rfl rfl (by kernel_rfl) (by kernel_rfl) (by kernel_rfl) (fun _ _ _ h => h) (Or.inl ⟨by rfl, fun w hSw => by skip; go_simp⟩) hS ?_
  simp only [List.setIfInBounds_toArray, List.set_cons_zero, List.set_cons_succ]
  refine tkd (i := 4) (v := .int .i64 l) rfl rfl (by kernel_rfl) (by kernel_rfl) (by kernel_rfl) (fun _ _ _ h => h) (Or.inl ⟨by rfl, fun w hSw => by have z := (hM0.below hSw).cell 1 rfl; go_simp⟩) hS ?_
  simp only [List.setIfInBounds_toArray, List.set_cons_zero, List.set_cons_succ]
  refine tkd (i := 6) (v := .pointer (some ⟨w.heap.size, 2, none⟩)) rfl rfl (by kernel_rfl) (by kernel_rfl) (by kernel_rfl) (fun _ _ _ h => h) (Or.inl ⟨by rfl, fun w hSw => by skip; go_simp⟩) hS ?_
  simp only [List.setIfInBounds_toArray, List.set_cons_zero, List.set_cons_succ]
  refine tkd (i := 7) (v := .int .i64 h) rfl rfl (by kernel_rfl) (by kernel_rfl) (by kernel_rfl) (fun _ _ _ h => h) (Or.inl ⟨by rfl, fun w hSw => by have z := (hM0.below hSw).cell 2 rfl; go_simp⟩) hS ?_
  simp only [List.setIfInBounds_toArray, List.set_cons_zero, List.set_cons_succ]
  refine wpAnyH_ready (rs := [5, 8, 10]) (by kernel_rfl) (by simp) ?_
  refine (AllReadyH.cons rfl (fun KK hK => ?_) (AllReadyH.cons rfl (fun KK hK => ?_) (AllReadyH.cons rfl (fun KK hK => ?_) AllReadyH.nil)))
  · skip
    obtain ⟨V1, hrV, rl, hgV⟩ := run_make_full (P := Try.prog) W W0.heap.size 25 2 i0 (.int .i64 0) 1 Try.underlying25 hi hz0 hz1 .i64 .i64 l (by rw [hz2]; omega) (by unfold maxLen; omega) hS.size
    go_simp
    have hb : Below W.heap.size W V1 := ⟨hgV.os, hgV.tape, hgV.output, hgV.size, fun k hk => hgV.block k hk (by simp)⟩
    have gll := (rl.lt W.heap.size rfl).2
    have hNgl : W0.heap.size ≤ W.heap.size := hS.size
    replace hS := hS.trans (hb.mono hS.size)
    clear hb hrV hgV
    generalize W.heap.size = gl at *
    refine hK.out _ _ hS (fun hHeld => ?_)
    clear hK KK hHeld
    refine wpAnyH_ready (rs := [8, 10]) (by kernel_rfl) (by simp) ?_
    refine (AllReadyH.cons rfl (fun KK hK => ?_) (AllReadyH.cons rfl (fun KK hK => ?_) AllReadyH.nil))
    · skip
      obtain ⟨V2, hrV, rh, hgV⟩ := run_make_full (P := Try.prog) V1 W0.heap.size 25 2 i0 (.int .i64 0) 1 Try.underlying25 hi hz0 hz1 .i64 .i64 h (by rw [hz2]; omega) (by unfold maxLen; omega) hS.size
      go_simp
      have hb : Below V1.heap.size V1 V2 := ⟨hgV.os, hgV.tape, hgV.output, hgV.size, fun k hk => hgV.block k hk (by simp)⟩
      have ghl := (rh.lt V1.heap.size rfl).2
      have h_lH : gl ≠ V1.heap.size := Nat.ne_of_lt gll
      replace rl := rl.kept (grown_of_below hb) (.inr (by intro e; cases e))
      replace gll := Nat.lt_of_lt_of_le gll hb.size
      have hNgh : W0.heap.size ≤ V1.heap.size := hS.size
      replace hS := hS.trans (hb.mono hS.size)
      clear hb hrV hgV
      generalize V1.heap.size = gh at *
      refine hK.out _ _ hS (fun hHeld => ?_)
      clear hK KK hHeld
      refine tkd (i := 9) (v := .agg #[.int .i64 0, .slice none 0 0, .slice none 0 0, .int .i64 0, .int .i64 0, .int .i64 0, .slice a iL.length cl, .slice b iH.length ch, .int .i64 fuel, .slice ca code.length cc, .int .i64 0, .int .i64 0, .int .i64 0, .int .i64 0, .int .i64 0, .int .i64 0, .int .i64 0, .int .i64 0, .int .i64 0, .slice (some ⟨gl, 0, none⟩) l l, .slice (some ⟨gh, 0, none⟩) h h, .slice none 0 0] ) rfl rfl (by kernel_rfl) (by kernel_rfl) (by kernel_rfl) (fun _ _ _ h => h) (Or.inl ⟨by rfl, fun w hSw => by skip; go_simp⟩) hS ?_
      simp only [List.setIfInBounds_toArray, List.set_cons_zero, List.set_cons_succ]
      refine wpAnyH_ready (rs := [10]) (by kernel_rfl) (by simp) ?_
      refine (AllReadyH.cons rfl (fun KK hK => ?_) AllReadyH.nil)
      go_simp
      have bD := BoxC.new V2 #[.int .i64 0, .slice none 0 0, .slice none 0 0, .int .i64 0, .int .i64 0, .int .i64 0, .slice none 0 0, .slice none 0 0, .int .i64 0, .slice none 0 0, .int .i64 0, .int .i64 0, .int .i64 0, .int .i64 0, .int .i64 0, .int .i64 0, .int .i64 0, .int .i64 0, .int .i64 0, .slice none 0 0, .slice none 0 0, .slice none 0 0] 42
      have hb : Below V2.heap.size V2 (V2.alloc (.cells #[.int .i64 0, .slice none 0 0, .slice none 0 0, .int .i64 0, .int .i64 0, .int .i64 0, .slice none 0 0, .slice none 0 0, .int .i64 0, .slice none 0 0, .int .i64 0, .int .i64 0, .int .i64 0, .int .i64 0, .int .i64 0, .int .i64 0, .int .i64 0, .int .i64 0, .int .i64 0, .slice none 0 0, .slice none 0 0, .slice none 0 0] 42)) := (Below.refl _ _).alloc (Nat.le_refl _) _
      have Dl := bD.lt
      generalize V2.alloc (.cells #[.int .i64 0, .slice none 0 0, .slice none 0 0, .int .i64 0, .int .i64 0, .int .i64 0, .slice none 0 0, .slice none 0 0, .int .i64 0, .slice none 0 0, .int .i64 0, .int .i64 0, .int .i64 0, .int .i64 0, .int .i64 0, .int .i64 0, .int .i64 0, .int .i64 0, .int .i64 0, .slice none 0 0, .slice none 0 0, .slice none 0 0] 42) = V3 at *
      have h_lD : gl ≠ V2.heap.size := Nat.ne_of_lt gll
      replace rl := rl.kept (grown_of_below hb) (.inr (by intro e; cases e))
      replace gll := Nat.lt_of_lt_of_le gll hb.size
      have h_hD : gh ≠ V2.heap.size := Nat.ne_of_lt ghl
      replace rh := rh.kept (grown_of_below hb) (.inr (by intro e; cases e))
      replace ghl := Nat.lt_of_lt_of_le ghl hb.size
      have hND : W0.heap.size ≤ V2.heap.size := hS.size
      replace hS := hS.trans (hb.mono hS.size)
      clear hb 
      generalize V2.heap.size = D at *
      refine hK.out _ _ hS (fun hHeld => ?_)
      clear hK KK hHeld
      have hlh : gl ≠ gh := h_lH
      have hlD : gl ≠ D := h_lD
      have hhD : gh ≠ D := h_hD
      rw [made_is] at rl rh
      have bE : BoxC (V3.setRow D #[.int .i64 0, .slice none 0 0, .slice none 0 0, .int .i64 0, .int .i64 0, .int .i64 0, .slice a iL.length cl, .slice b iH.length ch, .int .i64 fuel, .slice ca code.length cc, .int .i64 0, .int .i64 0, .int .i64 0, .int .i64 0, .int .i64 0, .int .i64 0, .int .i64 0, .int .i64 0, .int .i64 0, .slice (some ⟨gl, 0, none⟩) l l, .slice (some ⟨gh, 0, none⟩) h h, .slice none 0 0]) D #[.int .i64 0, .slice none 0 0, .slice none 0 0, .int .i64 0, .int .i64 0, .int .i64 0, .slice a iL.length cl, .slice b iH.length ch, .int .i64 fuel, .slice ca code.length cc, .int .i64 0, .int .i64 0, .int .i64 0, .int .i64 0, .int .i64 0, .int .i64 0, .int .i64 0, .int .i64 0, .int .i64 0, .slice (some ⟨gl, 0, none⟩) l l, .slice (some ⟨gh, 0, none⟩) h h, .slice none 0 0] 42 := setRow_heap V3 D _ _ _ _ bD
      have hSE := below_row hS hND #[.int .i64 0, .slice none 0 0, .slice none 0 0, .int .i64 0, .int .i64 0, .int .i64 0, .slice a iL.length cl, .slice b iH.length ch, .int .i64 fuel, .slice ca code.length cc, .int .i64 0, .int .i64 0, .int .i64 0, .int .i64 0, .int .i64 0, .int .i64 0, .int .i64 0, .int .i64 0, .int .i64 0, .slice (some ⟨gl, 0, none⟩) l l, .slice (some ⟨gh, 0, none⟩) h h, .slice none 0 0]
      replace rl := rl.kept (grown_row V3 D #[.int .i64 0, .slice none 0 0, .slice none 0 0, .int .i64 0, .int .i64 0, .int .i64 0, .slice a iL.length cl, .slice b iH.length ch, .int .i64 fuel, .slice ca code.length cc, .int .i64 0, .int .i64 0, .int .i64 0, .int .i64 0, .int .i64 0, .int .i64 0, .int .i64 0, .int .i64 0, .int .i64 0, .slice (some ⟨gl, 0, none⟩) l l, .slice (some ⟨gh, 0, none⟩) h h, .slice none 0 0]) (.inr (by intro e; exact hlD (Option.some.inj e)))
      replace rh := rh.kept (grown_row V3 D #[.int .i64 0, .slice none 0 0, .slice none 0 0, .int .i64 0, .int .i64 0, .int .i64 0, .slice a iL.length cl, .slice b iH.length ch, .int .i64 fuel, .slice ca code.length cc, .int .i64 0, .int .i64 0, .int .i64 0, .int .i64 0, .int .i64 0, .int .i64 0, .int .i64 0, .int .i64 0, .int .i64 0, .slice (some ⟨gl, 0, none⟩) l l, .slice (some ⟨gh, 0, none⟩) h h, .slice none 0 0]) (.inr (by intro e; exact hhD (Option.some.inj e)))
      refine wpAnyH_ready (rs := [11]) (by kernel_rfl) (by simp) ?_
      refine AllReadyH.cons rfl (fun KK hK => ?_) AllReadyH.nil
      refine step_store_row (by rfl) 42 (.tmp 13) (.tmp 38) (by rfl) D #[.int .i64 0, .slice none 0 0, .slice none 0 0, .int .i64 0, .int .i64 0, .int .i64 0, .slice a iL.length cl, .slice b iH.length ch, .int .i64 fuel, .slice ca code.length cc, .int .i64 0, .int .i64 0, .int .i64 0, .int .i64 0, .int .i64 0, .int .i64 0, .int .i64 0, .int .i64 0, .int .i64 0, .slice (some ⟨gl, 0, none⟩) l l, .slice (some ⟨gh, 0, none⟩) h h, .slice none 0 0] (by rfl) (by rfl) 42 _ bD (by kernel_rfl) (by rfl) (by kernel_rfl) ?_
      refine hK.out _ _ hSE (fun hHeld => ?_)
      clear hK KK hHeld bD hS
      refine wpAnyH_done (by kernel_rfl) ?_ _
      generalize V3.setRow D #[.int .i64 0, .slice none 0 0, .slice none 0 0, .int .i64 0, .int .i64 0, .int .i64 0, .slice a iL.length cl, .slice b iH.length ch, .int .i64 fuel, .slice ca code.length cc, .int .i64 0, .int .i64 0, .int .i64 0, .int .i64 0, .int .i64 0, .int .i64 0, .int .i64 0, .int .i64 0, .int .i64 0, .slice (some ⟨gl, 0, none⟩) l l, .slice (some ⟨gh, 0, none⟩) h h, .slice none 0 0] = WE at *
      have hMS := MS.start hSE bE hND rl rh hlh hlD hhD
      have hT := oThrough code hMS (Inv.start iL iH code.length l h) (Nat.zero_le _) HF.out.1 (HLs.out.below hB5) (HHs.out.below hB5) (Nat.le_refl _) HF.out.2.1 HF.out.2.2.1 HF.out.2.2.2.1 (HC.out.below hB5) HF.out.2.2.2.2
      clear rl rh bE hMS hSE hlh hlD hhD hNgl hNgh gll ghl
      dsimp only at hT
      rw [show fuel - (s0 l h).steps = fuel from rfl, HR.out] at hT
      go_wp2_with (fail)
      refine hT.mono ?_
      rintro e w6 ⟨rfl, vs', w5, hM5, hw6⟩
      have hE : Ends D R (vs' 0) (vs' 1) (vs' 2) (vs' 3) w6 := by rw [hw6]; exact hM5.ends
      have hB6 : Below W0.heap.size W0 w6 := by rw [hw6]; exact hM5.old.setCell hND _
      have r0 : w6.ownsRow W0.heap.size 2 1 (vs' 0) R.2.oL.length (R.2.oL.map intV) := by rw [hw6]; exact hM5.own0.kept (grown_set _ _ _ _) (.inr (hM5.mem.far 0))
      have r1 : w6.ownsRow W0.heap.size 2 1 (vs' 1) R.2.oH.length (R.2.oH.map intV) := by rw [hw6]; exact hM5.own1.kept (grown_set _ _ _ _) (.inr (hM5.mem.far 1))
      have r2 : w6.ownsRow W0.heap.size 2 1 (vs' 2) R.2.lw.length (R.2.lw.map intV) := by rw [hw6]; exact hM5.own2.kept (grown_set _ _ _ _) (.inr (hM5.mem.far 2))
      have r3 : w6.ownsRow W0.heap.size 2 1 (vs' 3) R.2.hw.length (R.2.hw.map intV) := by rw [hw6]; exact hM5.own3.kept (grown_set _ _ _ _) (.inr (hM5.mem.far 3))
      obtain ⟨a0, c0, e0, _⟩ := ints_own r0
      obtain ⟨a1, c1, e1, _⟩ := ints_own r1
      obtain ⟨a2, c2, e2, _⟩ := ints_own r2
      obtain ⟨a3, c3, e3, _⟩ := ints_own r3
      rw [e0, e1, e2, e3] at hE
      rw [e0] at r0
      rw [e1] at r1
      rw [e2] at r2
      rw [e3] at r3
      clear hM5 hw6 e0 e1 e2 e3 hT
      have hS := hE.below (Below.refl _ _).drew
      replace hB6 := hB6.drew
      replace r0 := r0.drew
      replace r1 := r1.drew
      replace r2 := r2.drew
      replace r3 := r3.drew
      go_wp2
      refine wp_region_held_drew (S := Ends D R (.slice a0 R.2.oL.length c0) (.slice a1 R.2.oH.length c1) (.slice a2 R.2.lw.length c2) (.slice a3 R.2.hw.length c3)) (by kernel_rfl) hS (fun hHeld => ?_)
      clear hHeld hE
      generalize w6.drew = W6 at *
      refine tkd (i := 0) (v := .pointer (some ⟨D, 0, none⟩)) rfl rfl (by kernel_rfl) (by kernel_rfl) (by kernel_rfl) (fun _ _ _ h => h) (Or.inl ⟨by rfl, fun w hSw => by skip; go_simp⟩) hS ?_
      simp only [List.setIfInBounds_toArray, List.set_cons_zero, List.set_cons_succ]
      refine tkd (i := 1) (v := .pointer (some ⟨D, 0, none⟩)) rfl rfl (by kernel_rfl) (by kernel_rfl) (by kernel_rfl) (fun _ _ _ h => h) (Or.inl ⟨by rfl, fun w hSw => by skip; go_simp⟩) hS ?_
      simp only [List.setIfInBounds_toArray, List.set_cons_zero, List.set_cons_succ]
      refine tkd (i := 2) (v := .agg #[.int .i64 R.1, .slice a0 R.2.oL.length c0, .slice a1 R.2.oH.length c1, natV R.2.uL, natV R.2.uH, natV R.2.steps] ) rfl rfl (by kernel_rfl) (by kernel_rfl) (by kernel_rfl) (fun _ _ _ h => h) (Or.inl ⟨by rfl, fun w hSw => by obtain ⟨z0, z1, z2, z3, z4, z5, z6, z7⟩ := hSw; go_simp⟩) hS ?_
      simp only [List.setIfInBounds_toArray, List.set_cons_zero, List.set_cons_succ]
      refine tkd (i := 3) (v := .pointer (some ⟨D, 19, none⟩)) rfl rfl (by kernel_rfl) (by kernel_rfl) (by kernel_rfl) (fun _ _ _ h => h) (Or.inl ⟨by rfl, fun w hSw => by skip; go_simp⟩) hS ?_
      simp only [List.setIfInBounds_toArray, List.set_cons_zero, List.set_cons_succ]
      refine tkd (i := 4) (v := .slice a2 R.2.lw.length c2) rfl rfl (by kernel_rfl) (by kernel_rfl) (by kernel_rfl) (fun _ _ _ h => h) (Or.inl ⟨by rfl, fun w hSw => by have z := hSw.c19; go_simp⟩) hS ?_
      simp only [List.setIfInBounds_toArray, List.set_cons_zero, List.set_cons_succ]
      refine tkd (i := 5) (v := .pointer (some ⟨D, 20, none⟩)) rfl rfl (by kernel_rfl) (by kernel_rfl) (by kernel_rfl) (fun _ _ _ h => h) (Or.inl ⟨by rfl, fun w hSw => by skip; go_simp⟩) hS ?_
      simp only [List.setIfInBounds_toArray, List.set_cons_zero, List.set_cons_succ]
      refine tkd (i := 6) (v := .slice a3 R.2.hw.length c3) rfl rfl (by kernel_rfl) (by kernel_rfl) (by kernel_rfl) (fun _ _ _ h => h) (Or.inl ⟨by rfl, fun w hSw => by have z := hSw.c20; go_simp⟩) hS ?_
      simp only [List.setIfInBounds_toArray, List.set_cons_zero, List.set_cons_succ]
      have hR0l := hR0.lt
      refine wpAnyH_ready (rs := [7, 8]) (by kernel_rfl) (by simp) ?_
      refine (AllReadyH.cons rfl (fun KK hK => ?_) (AllReadyH.cons rfl (fun KK hK => ?_) AllReadyH.nil))
      · skip
        go_simp
        have bG := BoxC.new W6 #[.slice a2 R.2.lw.length c2, .slice a3 R.2.hw.length c3] 25
        have hbG : Below W6.heap.size W6 (W6.alloc (.cells #[.slice a2 R.2.lw.length c2, .slice a3 R.2.hw.length c3] 25)) := (Below.refl _ _).alloc (Nat.le_refl _) _
        replace hS := hS.below hbG
        have hGB : W6.heap.size ≠ w.heap.size + 1 := by have h2 := hB6.size; omega
        replace hB6 := hB6.trans (hbG.mono hB6.size)
        replace r0 := r0.alloc (.cells #[.slice a2 R.2.lw.length c2, .slice a3 R.2.hw.length c3] 25)
        replace r1 := r1.alloc (.cells #[.slice a2 R.2.lw.length c2, .slice a3 R.2.hw.length c3] 25)
        replace r2 := r2.alloc (.cells #[.slice a2 R.2.lw.length c2, .slice a3 R.2.hw.length c3] 25)
        replace r3 := r3.alloc (.cells #[.slice a2 R.2.lw.length c2, .slice a3 R.2.hw.length c3] 25)
        refine hK.out _ _ hS (fun hHeld => ?_)
        clear hK KK hHeld hbG
        generalize W6.alloc (.cells #[.slice a2 R.2.lw.length c2, .slice a3 R.2.hw.length c3] 25) = W7 at *
        generalize W6.heap.size = G at *
        refine wpAnyH_ready (rs := [8]) (by kernel_rfl) (by simp) ?_
        refine AllReadyH.cons rfl (fun KK hK => ?_) AllReadyH.nil
        have bR := hR0.below hB6
        refine step_store_row (by rfl) 27 (.tmp 8) (.tmp 44) (by rfl) (w.heap.size + 1) #[.int .i64 R.1, .slice a0 R.2.oL.length c0, .slice a1 R.2.oH.length c1, natV R.2.uL, natV R.2.uH, natV R.2.steps] (by rfl) (by rfl) 27 _ bR (by kernel_rfl) (by rfl) (by kernel_rfl) ?_
        have hg := grown_row W7 (w.heap.size + 1) #[.int .i64 R.1, .slice a0 R.2.oL.length c0, .slice a1 R.2.oH.length c1, natV R.2.uL, natV R.2.uH, natV R.2.steps]
        have bF : BoxC (W7.setRow (w.heap.size + 1) #[.int .i64 R.1, .slice a0 R.2.oL.length c0, .slice a1 R.2.oH.length c1, natV R.2.uL, natV R.2.uH, natV R.2.steps]) (w.heap.size + 1) #[.int .i64 R.1, .slice a0 R.2.oL.length c0, .slice a1 R.2.oH.length c1, natV R.2.uL, natV R.2.uH, natV R.2.steps] 27 := setRow_heap W7 _ _ _ _ _ bR
        have hBF := below_row (hB5.trans (hB6.mono hB5.size)) (Nat.le_succ w.heap.size) #[.int .i64 R.1, .slice a0 R.2.oL.length c0, .slice a1 R.2.oH.length c1, natV R.2.uL, natV R.2.uH, natV R.2.steps]
        replace bG := bG.grown hg (by simp; omega)
        replace hS := hS.block (hg.block D hS.lt (by simp; omega))
        replace r0 := r0.kept hg (own_far r0 hR0l)
        replace r1 := r1.kept hg (own_far r1 hR0l)
        replace r2 := r2.kept hg (own_far r2 hR0l)
        replace r3 := r3.kept hg (own_far r3 hR0l)
        refine hK.out _ _ hS (fun hHeld => ?_)
        clear hg bR hK KK hHeld hB6
        generalize W7.setRow (w.heap.size + 1) #[.int .i64 R.1, .slice a0 R.2.oL.length c0, .slice a1 R.2.oH.length c1, natV R.2.uL, natV R.2.uH, natV R.2.steps] = WF at *
        have hput : ∀ (o : Oper) (A : Act) (v : Value), o.dst = none → A.put o.dst v = A := fun o A v e => by rw [e]; rfl
        rw [hput _ _ _ rfl]
        clear hput
        refine tkd (i := 9) (v := .slice (some ⟨G, 0, none⟩) 2 2) rfl rfl (by kernel_rfl) (by kernel_rfl) (by kernel_rfl) (fun _ _ _ h => h) (Or.inl ⟨by rfl, fun w hSw => by skip; go_simp⟩) hS ?_
        simp only [List.setIfInBounds_toArray, List.set_cons_zero, List.set_cons_succ]
        refine tkd (i := 10) (v := .int .i64 0) rfl rfl (by kernel_rfl) (by kernel_rfl) (by kernel_rfl) (fun _ _ _ h => h) (Or.inl ⟨by rfl, fun w hSw => by skip; go_simp⟩) hS ?_
        simp only [List.setIfInBounds_toArray, List.set_cons_zero, List.set_cons_succ]
        refine wpAnyH_done (by kernel_rfl) ?_ _
        go_wp2
        refine bodyPost_ret (v := .tuple #[.agg #[.int .i64 R.1, .slice a0 R.2.oL.length c0, .slice a1 R.2.oH.length c1, natV R.2.uL, natV R.2.uH, natV R.2.steps], .slice (some ⟨G, 0, none⟩) 2 2, .int .i64 0]) (runRes _ bF) rfl ?_
        exact ⟨hBF, _, _, _, _, G, rfl, bG.cell 0 rfl, bG.cell 1 rfl, ints_own r0, ints_own r1, ints_own r2, ints_own r3⟩
      · skip
        have bR := hR0.below hB6
        refine step_store_row (by rfl) 27 (.tmp 8) (.tmp 44) (by rfl) (w.heap.size + 1) #[.int .i64 R.1, .slice a0 R.2.oL.length c0, .slice a1 R.2.oH.length c1, natV R.2.uL, natV R.2.uH, natV R.2.steps] (by rfl) (by rfl) 27 _ bR (by kernel_rfl) (by rfl) (by kernel_rfl) ?_
        have hg := grown_row W6 (w.heap.size + 1) #[.int .i64 R.1, .slice a0 R.2.oL.length c0, .slice a1 R.2.oH.length c1, natV R.2.uL, natV R.2.uH, natV R.2.steps]
        have bF : BoxC (W6.setRow (w.heap.size + 1) #[.int .i64 R.1, .slice a0 R.2.oL.length c0, .slice a1 R.2.oH.length c1, natV R.2.uL, natV R.2.uH, natV R.2.steps]) (w.heap.size + 1) #[.int .i64 R.1, .slice a0 R.2.oL.length c0, .slice a1 R.2.oH.length c1, natV R.2.uL, natV R.2.uH, natV R.2.steps] 27 := setRow_heap W6 _ _ _ _ _ bR
        have hBF := below_row (hB5.trans (hB6.mono hB5.size)) (Nat.le_succ w.heap.size) #[.int .i64 R.1, .slice a0 R.2.oL.length c0, .slice a1 R.2.oH.length c1, natV R.2.uL, natV R.2.uH, natV R.2.steps]
        replace hS := hS.block (hg.block D hS.lt (by simp; omega))
        replace r0 := r0.kept hg (own_far r0 hR0l)
        replace r1 := r1.kept hg (own_far r1 hR0l)
        replace r2 := r2.kept hg (own_far r2 hR0l)
        replace r3 := r3.kept hg (own_far r3 hR0l)
        refine hK.out _ _ hS (fun hHeld => ?_)
        clear hg bR hK KK hHeld hB6
        generalize W6.setRow (w.heap.size + 1) #[.int .i64 R.1, .slice a0 R.2.oL.length c0, .slice a1 R.2.oH.length c1, natV R.2.uL, natV R.2.uH, natV R.2.steps] = WF at *
        have hput : ∀ (o : Oper) (A : Act) (v : Value), o.dst = none → A.put o.dst v = A := fun o A v e => by rw [e]; rfl
        rw [hput _ _ _ rfl]
        clear hput
        refine wpAnyH_ready (rs := [7]) (by kernel_rfl) (by simp) ?_
        refine AllReadyH.cons rfl (fun KK hK => ?_) AllReadyH.nil
        go_simp
        have bG := BoxC.new WF #[.slice a2 R.2.lw.length c2, .slice a3 R.2.hw.length c3] 25
        have hbG : Below WF.heap.size WF (WF.alloc (.cells #[.slice a2 R.2.lw.length c2, .slice a3 R.2.hw.length c3] 25)) := (Below.refl _ _).alloc (Nat.le_refl _) _
        replace hS := hS.below hbG
        replace hBF := hBF.trans (hbG.mono hBF.size)
        replace bF := bF.below hbG
        replace r0 := r0.alloc (.cells #[.slice a2 R.2.lw.length c2, .slice a3 R.2.hw.length c3] 25)
        replace r1 := r1.alloc (.cells #[.slice a2 R.2.lw.length c2, .slice a3 R.2.hw.length c3] 25)
        replace r2 := r2.alloc (.cells #[.slice a2 R.2.lw.length c2, .slice a3 R.2.hw.length c3] 25)
        replace r3 := r3.alloc (.cells #[.slice a2 R.2.lw.length c2, .slice a3 R.2.hw.length c3] 25)
        refine hK.out _ _ hS (fun hHeld => ?_)
        clear hK KK hHeld hbG
        generalize WF.alloc (.cells #[.slice a2 R.2.lw.length c2, .slice a3 R.2.hw.length c3] 25) = W7 at *
        generalize WF.heap.size = G at *
        refine tkd (i := 9) (v := .slice (some ⟨G, 0, none⟩) 2 2) rfl rfl (by kernel_rfl) (by kernel_rfl) (by kernel_rfl) (fun _ _ _ h => h) (Or.inl ⟨by rfl, fun w hSw => by skip; go_simp⟩) hS ?_
        simp only [List.setIfInBounds_toArray, List.set_cons_zero, List.set_cons_succ]
        refine tkd (i := 10) (v := .int .i64 0) rfl rfl (by kernel_rfl) (by kernel_rfl) (by kernel_rfl) (fun _ _ _ h => h) (Or.inl ⟨by rfl, fun w hSw => by skip; go_simp⟩) hS ?_
        simp only [List.setIfInBounds_toArray, List.set_cons_zero, List.set_cons_succ]
        refine wpAnyH_done (by kernel_rfl) ?_ _
        go_wp2
        refine bodyPost_ret (v := .tuple #[.agg #[.int .i64 R.1, .slice a0 R.2.oL.length c0, .slice a1 R.2.oH.length c1, natV R.2.uL, natV R.2.uH, natV R.2.steps], .slice (some ⟨G, 0, none⟩) 2 2, .int .i64 0]) (runRes _ bF) rfl ?_
        exact ⟨hBF, _, _, _, _, G, rfl, bG.cell 0 rfl, bG.cell 1 rfl, ints_own r0, ints_own r1, ints_own r2, ints_own r3⟩
    · skip
      go_simp
      have bD := BoxC.new V1 #[.int .i64 0, .slice none 0 0, .slice none 0 0, .int .i64 0, .int .i64 0, .int .i64 0, .slice none 0 0, .slice none 0 0, .int .i64 0, .slice none 0 0, .int .i64 0, .int .i64 0, .int .i64 0, .int .i64 0, .int .i64 0, .int .i64 0, .int .i64 0, .int .i64 0, .int .i64 0, .slice none 0 0, .slice none 0 0, .slice none 0 0] 42
      have hb : Below V1.heap.size V1 (V1.alloc (.cells #[.int .i64 0, .slice none 0 0, .slice none 0 0, .int .i64 0, .int .i64 0, .int .i64 0, .slice none 0 0, .slice none 0 0, .int .i64 0, .slice none 0 0, .int .i64 0, .int .i64 0, .int .i64 0, .int .i64 0, .int .i64 0, .int .i64 0, .int .i64 0, .int .i64 0, .int .i64 0, .slice none 0 0, .slice none 0 0, .slice none 0 0] 42)) := (Below.refl _ _).alloc (Nat.le_refl _) _
      have Dl := bD.lt
      generalize V1.alloc (.cells #[.int .i64 0, .slice none 0 0, .slice none 0 0, .int .i64 0, .int .i64 0, .int .i64 0, .slice none 0 0, .slice none 0 0, .int .i64 0, .slice none 0 0, .int .i64 0, .int .i64 0, .int .i64 0, .int .i64 0, .int .i64 0, .int .i64 0, .int .i64 0, .int .i64 0, .int .i64 0, .slice none 0 0, .slice none 0 0, .slice none 0 0] 42) = V2 at *
      have h_lD : gl ≠ V1.heap.size := Nat.ne_of_lt gll
      replace rl := rl.kept (grown_of_below hb) (.inr (by intro e; cases e))
      replace gll := Nat.lt_of_lt_of_le gll hb.size
      have hND : W0.heap.size ≤ V1.heap.size := hS.size
      replace hS := hS.trans (hb.mono hS.size)
      clear hb 
      generalize V1.heap.size = D at *
      refine hK.out _ _ hS (fun hHeld => ?_)
      clear hK KK hHeld
      refine wpAnyH_ready (rs := [8]) (by kernel_rfl) (by simp) ?_
      refine (AllReadyH.cons rfl (fun KK hK => ?_) AllReadyH.nil)
      obtain ⟨V3, hrV, rh, hgV⟩ := run_make_full (P := Try.prog) V2 W0.heap.size 25 2 i0 (.int .i64 0) 1 Try.underlying25 hi hz0 hz1 .i64 .i64 h (by rw [hz2]; omega) (by unfold maxLen; omega) hS.size
      go_simp
      have hb : Below V2.heap.size V2 V3 := ⟨hgV.os, hgV.tape, hgV.output, hgV.size, fun k hk => hgV.block k hk (by simp)⟩
      have ghl := (rh.lt V2.heap.size rfl).2
      have h_lH : gl ≠ V2.heap.size := Nat.ne_of_lt gll
      replace rl := rl.kept (grown_of_below hb) (.inr (by intro e; cases e))
      replace gll := Nat.lt_of_lt_of_le gll hb.size
      have h_DH : D ≠ V2.heap.size := Nat.ne_of_lt Dl
      replace bD := bD.below hb
      replace Dl := Nat.lt_of_lt_of_le Dl hb.size
      have hNgh : W0.heap.size ≤ V2.heap.size := hS.size
      replace hS := hS.trans (hb.mono hS.size)
      clear hb hrV hgV
      generalize V2.heap.size = gh at *
      refine hK.out _ _ hS (fun hHeld => ?_)
      clear hK KK hHeld
      refine tkd (i := 9) (v := .agg #[.int .i64 0, .slice none 0 0, .slice none 0 0, .int .i64 0, .int .i64 0, .int .i64 0, .slice a iL.length cl, .slice b iH.length ch, .int .i64 fuel, .slice ca code.length cc, .int .i64 0, .int .i64 0, .int .i64 0, .int .i64 0, .int .i64 0, .int .i64 0, .int .i64 0, .int .i64 0, .int .i64 0, .slice (some ⟨gl, 0, none⟩) l l, .slice (some ⟨gh, 0, none⟩) h h, .slice none 0 0] ) rfl rfl (by kernel_rfl) (by kernel_rfl) (by kernel_rfl) (fun _ _ _ h => h) (Or.inl ⟨by rfl, fun w hSw => by skip; go_simp⟩) hS ?_
      simp only [List.setIfInBounds_toArray, List.set_cons_zero, List.set_cons_succ]
      have hlh : gl ≠ gh := h_lH
      have hlD : gl ≠ D := h_lD
      have hhD : gh ≠ D := Ne.symm h_DH
      rw [made_is] at rl rh
      have bE : BoxC (V3.setRow D #[.int .i64 0, .slice none 0 0, .slice none 0 0, .int .i64 0, .int .i64 0, .int .i64 0, .slice a iL.length cl, .slice b iH.length ch, .int .i64 fuel, .slice ca code.length cc, .int .i64 0, .int .i64 0, .int .i64 0, .int .i64 0, .int .i64 0, .int .i64 0, .int .i64 0, .int .i64 0, .int .i64 0, .slice (some ⟨gl, 0, none⟩) l l, .slice (some ⟨gh, 0, none⟩) h h, .slice none 0 0]) D #[.int .i64 0, .slice none 0 0, .slice none 0 0, .int .i64 0, .int .i64 0, .int .i64 0, .slice a iL.length cl, .slice b iH.length ch, .int .i64 fuel, .slice ca code.length cc, .int .i64 0, .int .i64 0, .int .i64 0, .int .i64 0, .int .i64 0, .int .i64 0, .int .i64 0, .int .i64 0, .int .i64 0, .slice (some ⟨gl, 0, none⟩) l l, .slice (some ⟨gh, 0, none⟩) h h, .slice none 0 0] 42 := setRow_heap V3 D _ _ _ _ bD
      have hSE := below_row hS hND #[.int .i64 0, .slice none 0 0, .slice none 0 0, .int .i64 0, .int .i64 0, .int .i64 0, .slice a iL.length cl, .slice b iH.length ch, .int .i64 fuel, .slice ca code.length cc, .int .i64 0, .int .i64 0, .int .i64 0, .int .i64 0, .int .i64 0, .int .i64 0, .int .i64 0, .int .i64 0, .int .i64 0, .slice (some ⟨gl, 0, none⟩) l l, .slice (some ⟨gh, 0, none⟩) h h, .slice none 0 0]
      replace rl := rl.kept (grown_row V3 D #[.int .i64 0, .slice none 0 0, .slice none 0 0, .int .i64 0, .int .i64 0, .int .i64 0, .slice a iL.length cl, .slice b iH.length ch, .int .i64 fuel, .slice ca code.length cc, .int .i64 0, .int .i64 0, .int .i64 0, .int .i64 0, .int .i64 0, .int .i64 0, .int .i64 0, .int .i64 0, .int .i64 0, .slice (some ⟨gl, 0, none⟩) l l, .slice (some ⟨gh, 0, none⟩) h h, .slice none 0 0]) (.inr (by intro e; exact hlD (Option.some.inj e)))
      replace rh := rh.kept (grown_row V3 D #[.int .i64 0, .slice none 0 0, .slice none 0 0, .int .i64 0, .int .i64 0, .int .i64 0, .slice a iL.length cl, .slice b iH.length ch, .int .i64 fuel, .slice ca code.length cc, .int .i64 0, .int .i64 0, .int .i64 0, .int .i64 0, .int .i64 0, .int .i64 0, .int .i64 0, .int .i64 0, .int .i64 0, .slice (some ⟨gl, 0, none⟩) l l, .slice (some ⟨gh, 0, none⟩) h h, .slice none 0 0]) (.inr (by intro e; exact hhD (Option.some.inj e)))
      refine wpAnyH_ready (rs := [11]) (by kernel_rfl) (by simp) ?_
      refine AllReadyH.cons rfl (fun KK hK => ?_) AllReadyH.nil
      refine step_store_row (by rfl) 42 (.tmp 13) (.tmp 38) (by rfl) D #[.int .i64 0, .slice none 0 0, .slice none 0 0, .int .i64 0, .int .i64 0, .int .i64 0, .slice a iL.length cl, .slice b iH.length ch, .int .i64 fuel, .slice ca code.length cc, .int .i64 0, .int .i64 0, .int .i64 0, .int .i64 0, .int .i64 0, .int .i64 0, .int .i64 0, .int .i64 0, .int .i64 0, .slice (some ⟨gl, 0, none⟩) l l, .slice (some ⟨gh, 0, none⟩) h h, .slice none 0 0] (by rfl) (by rfl) 42 _ bD (by kernel_rfl) (by rfl) (by kernel_rfl) ?_
      refine hK.out _ _ hSE (fun hHeld => ?_)
      clear hK KK hHeld bD hS
      refine wpAnyH_done (by kernel_rfl) ?_ _
      generalize V3.setRow D #[.int .i64 0, .slice none 0 0, .slice none 0 0, .int .i64 0, .int .i64 0, .int .i64 0, .slice a iL.length cl, .slice b iH.length ch, .int .i64 fuel, .slice ca code.length cc, .int .i64 0, .int .i64 0, .int .i64 0, .int .i64 0, .int .i64 0, .int .i64 0, .int .i64 0, .int .i64 0, .int .i64 0, .slice (some ⟨gl, 0, none⟩) l l, .slice (some ⟨gh, 0, none⟩) h h, .slice none 0 0] = WE at *
      have hMS := MS.start hSE bE hND rl rh hlh hlD hhD
      have hT := oThrough code hMS (Inv.start iL iH code.length l h) (Nat.zero_le _) HF.out.1 (HLs.out.below hB5) (HHs.out.below hB5) (Nat.le_refl _) HF.out.2.1 HF.out.2.2.1 HF.out.2.2.2.1 (HC.out.below hB5) HF.out.2.2.2.2
      clear rl rh bE hMS hSE hlh hlD hhD hNgl hNgh gll ghl
      dsimp only at hT
      rw [show fuel - (s0 l h).steps = fuel from rfl, HR.out] at hT
      go_wp2_with (fail)
      refine hT.mono ?_
      rintro e w6 ⟨rfl, vs', w5, hM5, hw6⟩
      have hE : Ends D R (vs' 0) (vs' 1) (vs' 2) (vs' 3) w6 := by rw [hw6]; exact hM5.ends
      have hB6 : Below W0.heap.size W0 w6 := by rw [hw6]; exact hM5.old.setCell hND _
      have r0 : w6.ownsRow W0.heap.size 2 1 (vs' 0) R.2.oL.length (R.2.oL.map intV) := by rw [hw6]; exact hM5.own0.kept (grown_set _ _ _ _) (.inr (hM5.mem.far 0))
      have r1 : w6.ownsRow W0.heap.size 2 1 (vs' 1) R.2.oH.length (R.2.oH.map intV) := by rw [hw6]; exact hM5.own1.kept (grown_set _ _ _ _) (.inr (hM5.mem.far 1))
      have r2 : w6.ownsRow W0.heap.size 2 1 (vs' 2) R.2.lw.length (R.2.lw.map intV) := by rw [hw6]; exact hM5.own2.kept (grown_set _ _ _ _) (.inr (hM5.mem.far 2))
      have r3 : w6.ownsRow W0.heap.size 2 1 (vs' 3) R.2.hw.length (R.2.hw.map intV) := by rw [hw6]; exact hM5.own3.kept (grown_set _ _ _ _) (.inr (hM5.mem.far 3))
      obtain ⟨a0, c0, e0, _⟩ := ints_own r0
      obtain ⟨a1, c1, e1, _⟩ := ints_own r1
      obtain ⟨a2, c2, e2, _⟩ := ints_own r2
      obtain ⟨a3, c3, e3, _⟩ := ints_own r3
      rw [e0, e1, e2, e3] at hE
      rw [e0] at r0
      rw [e1] at r1
      rw [e2] at r2
      rw [e3] at r3
      clear hM5 hw6 e0 e1 e2 e3 hT
      have hS := hE.below (Below.refl _ _).drew
      replace hB6 := hB6.drew
      replace r0 := r0.drew
      replace r1 := r1.drew
      replace r2 := r2.drew
      replace r3 := r3.drew
      go_wp2
      refine wp_region_held_drew (S := Ends D R (.slice a0 R.2.oL.length c0) (.slice a1 R.2.oH.length c1) (.slice a2 R.2.lw.length c2) (.slice a3 R.2.hw.length c3)) (by kernel_rfl) hS (fun hHeld => ?_)
      clear hHeld hE
      generalize w6.drew = W6 at *
      refine tkd (i := 0) (v := .pointer (some ⟨D, 0, none⟩)) rfl rfl (by kernel_rfl) (by kernel_rfl) (by kernel_rfl) (fun _ _ _ h => h) (Or.inl ⟨by rfl, fun w hSw => by skip; go_simp⟩) hS ?_
      simp only [List.setIfInBounds_toArray, List.set_cons_zero, List.set_cons_succ]
      refine tkd (i := 1) (v := .pointer (some ⟨D, 0, none⟩)) rfl rfl (by kernel_rfl) (by kernel_rfl) (by kernel_rfl) (fun _ _ _ h => h) (Or.inl ⟨by rfl, fun w hSw => by skip; go_simp⟩) hS ?_
      simp only [List.setIfInBounds_toArray, List.set_cons_zero, List.set_cons_succ]
      refine tkd (i := 2) (v := .agg #[.int .i64 R.1, .slice a0 R.2.oL.length c0, .slice a1 R.2.oH.length c1, natV R.2.uL, natV R.2.uH, natV R.2.steps] ) rfl rfl (by kernel_rfl) (by kernel_rfl) (by kernel_rfl) (fun _ _ _ h => h) (Or.inl ⟨by rfl, fun w hSw => by obtain ⟨z0, z1, z2, z3, z4, z5, z6, z7⟩ := hSw; go_simp⟩) hS ?_
      simp only [List.setIfInBounds_toArray, List.set_cons_zero, List.set_cons_succ]
      refine tkd (i := 3) (v := .pointer (some ⟨D, 19, none⟩)) rfl rfl (by kernel_rfl) (by kernel_rfl) (by kernel_rfl) (fun _ _ _ h => h) (Or.inl ⟨by rfl, fun w hSw => by skip; go_simp⟩) hS ?_
      simp only [List.setIfInBounds_toArray, List.set_cons_zero, List.set_cons_succ]
      refine tkd (i := 4) (v := .slice a2 R.2.lw.length c2) rfl rfl (by kernel_rfl) (by kernel_rfl) (by kernel_rfl) (fun _ _ _ h => h) (Or.inl ⟨by rfl, fun w hSw => by have z := hSw.c19; go_simp⟩) hS ?_
      simp only [List.setIfInBounds_toArray, List.set_cons_zero, List.set_cons_succ]
      refine tkd (i := 5) (v := .pointer (some ⟨D, 20, none⟩)) rfl rfl (by kernel_rfl) (by kernel_rfl) (by kernel_rfl) (fun _ _ _ h => h) (Or.inl ⟨by rfl, fun w hSw => by skip; go_simp⟩) hS ?_
      simp only [List.setIfInBounds_toArray, List.set_cons_zero, List.set_cons_succ]
      refine tkd (i := 6) (v := .slice a3 R.2.hw.length c3) rfl rfl (by kernel_rfl) (by kernel_rfl) (by kernel_rfl) (fun _ _ _ h => h) (Or.inl ⟨by rfl, fun w hSw => by have z := hSw.c20; go_simp⟩) hS ?_
      simp only [List.setIfInBounds_toArray, List.set_cons_zero, List.set_cons_succ]
      have hR0l := hR0.lt
      refine wpAnyH_ready (rs := [7, 8]) (by kernel_rfl) (by simp) ?_
      refine (AllReadyH.cons rfl (fun KK hK => ?_) (AllReadyH.cons rfl (fun KK hK => ?_) AllReadyH.nil))
      · skip
        go_simp
        have bG := BoxC.new W6 #[.slice a2 R.2.lw.length c2, .slice a3 R.2.hw.length c3] 25
        have hbG : Below W6.heap.size W6 (W6.alloc (.cells #[.slice a2 R.2.lw.length c2, .slice a3 R.2.hw.length c3] 25)) := (Below.refl _ _).alloc (Nat.le_refl _) _
        replace hS := hS.below hbG
        have hGB : W6.heap.size ≠ w.heap.size + 1 := by have h2 := hB6.size; omega
        replace hB6 := hB6.trans (hbG.mono hB6.size)
        replace r0 := r0.alloc (.cells #[.slice a2 R.2.lw.length c2, .slice a3 R.2.hw.length c3] 25)
        replace r1 := r1.alloc (.cells #[.slice a2 R.2.lw.length c2, .slice a3 R.2.hw.length c3] 25)
        replace r2 := r2.alloc (.cells #[.slice a2 R.2.lw.length c2, .slice a3 R.2.hw.length c3] 25)
        replace r3 := r3.alloc (.cells #[.slice a2 R.2.lw.length c2, .slice a3 R.2.hw.length c3] 25)
        refine hK.out _ _ hS (fun hHeld => ?_)
        clear hK KK hHeld hbG
        generalize W6.alloc (.cells #[.slice a2 R.2.lw.length c2, .slice a3 R.2.hw.length c3] 25) = W7 at *
        generalize W6.heap.size = G at *
        refine wpAnyH_ready (rs := [8]) (by kernel_rfl) (by simp) ?_
        refine AllReadyH.cons rfl (fun KK hK => ?_) AllReadyH.nil
        have bR := hR0.below hB6
        refine step_store_row (by rfl) 27 (.tmp 8) (.tmp 44) (by rfl) (w.heap.size + 1) #[.int .i64 R.1, .slice a0 R.2.oL.length c0, .slice a1 R.2.oH.length c1, natV R.2.uL, natV R.2.uH, natV R.2.steps] (by rfl) (by rfl) 27 _ bR (by kernel_rfl) (by rfl) (by kernel_rfl) ?_
        have hg := grown_row W7 (w.heap.size + 1) #[.int .i64 R.1, .slice a0 R.2.oL.length c0, .slice a1 R.2.oH.length c1, natV R.2.uL, natV R.2.uH, natV R.2.steps]
        have bF : BoxC (W7.setRow (w.heap.size + 1) #[.int .i64 R.1, .slice a0 R.2.oL.length c0, .slice a1 R.2.oH.length c1, natV R.2.uL, natV R.2.uH, natV R.2.steps]) (w.heap.size + 1) #[.int .i64 R.1, .slice a0 R.2.oL.length c0, .slice a1 R.2.oH.length c1, natV R.2.uL, natV R.2.uH, natV R.2.steps] 27 := setRow_heap W7 _ _ _ _ _ bR
        have hBF := below_row (hB5.trans (hB6.mono hB5.size)) (Nat.le_succ w.heap.size) #[.int .i64 R.1, .slice a0 R.2.oL.length c0, .slice a1 R.2.oH.length c1, natV R.2.uL, natV R.2.uH, natV R.2.steps]
        replace bG := bG.grown hg (by simp; omega)
        replace hS := hS.block (hg.block D hS.lt (by simp; omega))
        replace r0 := r0.kept hg (own_far r0 hR0l)
        replace r1 := r1.kept hg (own_far r1 hR0l)
        replace r2 := r2.kept hg (own_far r2 hR0l)
        replace r3 := r3.kept hg (own_far r3 hR0l)
        refine hK.out _ _ hS (fun hHeld => ?_)
        clear hg bR hK KK hHeld hB6
        generalize W7.setRow (w.heap.size + 1) #[.int .i64 R.1, .slice a0 R.2.oL.length c0, .slice a1 R.2.oH.length c1, natV R.2.uL, natV R.2.uH, natV R.2.steps] = WF at *
        have hput : ∀ (o : Oper) (A : Act) (v : Value), o.dst = none → A.put o.dst v = A := fun o A v e => by rw [e]; rfl
        rw [hput _ _ _ rfl]
        clear hput
        refine tkd (i := 9) (v := .slice (some ⟨G, 0, none⟩) 2 2) rfl rfl (by kernel_rfl) (by kernel_rfl) (by kernel_rfl) (fun _ _ _ h => h) (Or.inl ⟨by rfl, fun w hSw => by skip; go_simp⟩) hS ?_
        simp only [List.setIfInBounds_toArray, List.set_cons_zero, List.set_cons_succ]
        refine tkd (i := 10) (v := .int .i64 0) rfl rfl (by kernel_rfl) (by kernel_rfl) (by kernel_rfl) (fun _ _ _ h => h) (Or.inl ⟨by rfl, fun w hSw => by skip; go_simp⟩) hS ?_
        simp only [List.setIfInBounds_toArray, List.set_cons_zero, List.set_cons_succ]
        refine wpAnyH_done (by kernel_rfl) ?_ _
        go_wp2
        refine bodyPost_ret (v := .tuple #[.agg #[.int .i64 R.1, .slice a0 R.2.oL.length c0, .slice a1 R.2.oH.length c1, natV R.2.uL, natV R.2.uH, natV R.2.steps], .slice (some ⟨G, 0, none⟩) 2 2, .int .i64 0]) (runRes _ bF) rfl ?_
        exact ⟨hBF, _, _, _, _, G, rfl, bG.cell 0 rfl, bG.cell 1 rfl, ints_own r0, ints_own r1, ints_own r2, ints_own r3⟩
      · skip
        have bR := hR0.below hB6
        refine step_store_row (by rfl) 27 (.tmp 8) (.tmp 44) (by rfl) (w.heap.size + 1) #[.int .i64 R.1, .slice a0 R.2.oL.length c0, .slice a1 R.2.oH.length c1, natV R.2.uL, natV R.2.uH, natV R.2.steps] (by rfl) (by rfl) 27 _ bR (by kernel_rfl) (by rfl) (by kernel_rfl) ?_
        have hg := grown_row W6 (w.heap.size + 1) #[.int .i64 R.1, .slice a0 R.2.oL.length c0, .slice a1 R.2.oH.length c1, natV R.2.uL, natV R.2.uH, natV R.2.steps]
        have bF : BoxC (W6.setRow (w.heap.size + 1) #[.int .i64 R.1, .slice a0 R.2.oL.length c0, .slice a1 R.2.oH.length c1, natV R.2.uL, natV R.2.uH, natV R.2.steps]) (w.heap.size + 1) #[.int .i64 R.1, .slice a0 R.2.oL.length c0, .slice a1 R.2.oH.length c1, natV R.2.uL, natV R.2.uH, natV R.2.steps] 27 := setRow_heap W6 _ _ _ _ _ bR
        have hBF := below_row (hB5.trans (hB6.mono hB5.size)) (Nat.le_succ w.heap.size) #[.int .i64 R.1, .slice a0 R.2.oL.length c0, .slice a1 R.2.oH.length c1, natV R.2.uL, natV R.2.uH, natV R.2.steps]
        replace hS := hS.block (hg.block D hS.lt (by simp; omega))
        replace r0 := r0.kept hg (own_far r0 hR0l)
        replace r1 := r1.kept hg (own_far r1 hR0l)
        replace r2 := r2.kept hg (own_far r2 hR0l)
        replace r3 := r3.kept hg (own_far r3 hR0l)
        refine hK.out _ _ hS (fun hHeld => ?_)
        clear hg bR hK KK hHeld hB6
        generalize W6.setRow (w.heap.size + 1) #[.int .i64 R.1, .slice a0 R.2.oL.length c0, .slice a1 R.2.oH.length c1, natV R.2.uL, natV R.2.uH, natV R.2.steps] = WF at *
        have hput : ∀ (o : Oper) (A : Act) (v : Value), o.dst = none → A.put o.dst v = A := fun o A v e => by rw [e]; rfl
        rw [hput _ _ _ rfl]
        clear hput
        refine wpAnyH_ready (rs := [7]) (by kernel_rfl) (by simp) ?_
        refine AllReadyH.cons rfl (fun KK hK => ?_) AllReadyH.nil
        go_simp
        have bG := BoxC.new WF #[.slice a2 R.2.lw.length c2, .slice a3 R.2.hw.length c3] 25
        have hbG : Below WF.heap.size WF (WF.alloc (.cells #[.slice a2 R.2.lw.length c2, .slice a3 R.2.hw.length c3] 25)) := (Below.refl _ _).alloc (Nat.le_refl _) _
        replace hS := hS.below hbG
        replace hBF := hBF.trans (hbG.mono hBF.size)
        replace bF := bF.below hbG
        replace r0 := r0.alloc (.cells #[.slice a2 R.2.lw.length c2, .slice a3 R.2.hw.length c3] 25)
        replace r1 := r1.alloc (.cells #[.slice a2 R.2.lw.length c2, .slice a3 R.2.hw.length c3] 25)
        replace r2 := r2.alloc (.cells #[.slice a2 R.2.lw.length c2, .slice a3 R.2.hw.length c3] 25)
        replace r3 := r3.alloc (.cells #[.slice a2 R.2.lw.length c2, .slice a3 R.2.hw.length c3] 25)
        refine hK.out _ _ hS (fun hHeld => ?_)
        clear hK KK hHeld hbG
        generalize WF.alloc (.cells #[.slice a2 R.2.lw.length c2, .slice a3 R.2.hw.length c3] 25) = W7 at *
        generalize WF.heap.size = G at *
        refine tkd (i := 9) (v := .slice (some ⟨G, 0, none⟩) 2 2) rfl rfl (by kernel_rfl) (by kernel_rfl) (by kernel_rfl) (fun _ _ _ h => h) (Or.inl ⟨by rfl, fun w hSw => by skip; go_simp⟩) hS ?_
        simp only [List.setIfInBounds_toArray, List.set_cons_zero, List.set_cons_succ]
        refine tkd (i := 10) (v := .int .i64 0) rfl rfl (by kernel_rfl) (by kernel_rfl) (by kernel_rfl) (fun _ _ _ h => h) (Or.inl ⟨by rfl, fun w hSw => by skip; go_simp⟩) hS ?_
        simp only [List.setIfInBounds_toArray, List.set_cons_zero, List.set_cons_succ]
        refine wpAnyH_done (by kernel_rfl) ?_ _
        go_wp2
        refine bodyPost_ret (v := .tuple #[.agg #[.int .i64 R.1, .slice a0 R.2.oL.length c0, .slice a1 R.2.oH.length c1, natV R.2.uL, natV R.2.uH, natV R.2.steps], .slice (some ⟨G, 0, none⟩) 2 2, .int .i64 0]) (runRes _ bF) rfl ?_
        exact ⟨hBF, _, _, _, _, G, rfl, bG.cell 0 rfl, bG.cell 1 rfl, ints_own r0, ints_own r1, ints_own r2, ints_own r3⟩
  · skip
    obtain ⟨V1, hrV, rh, hgV⟩ := run_make_full (P := Try.prog) W W0.heap.size 25 2 i0 (.int .i64 0) 1 Try.underlying25 hi hz0 hz1 .i64 .i64 h (by rw [hz2]; omega) (by unfold maxLen; omega) hS.size
    go_simp
    have hb : Below W.heap.size W V1 := ⟨hgV.os, hgV.tape, hgV.output, hgV.size, fun k hk => hgV.block k hk (by simp)⟩
    have ghl := (rh.lt W.heap.size rfl).2
    have hNgh : W0.heap.size ≤ W.heap.size := hS.size
    replace hS := hS.trans (hb.mono hS.size)
    clear hb hrV hgV
    generalize W.heap.size = gh at *
    refine hK.out _ _ hS (fun hHeld => ?_)
    clear hK KK hHeld
    refine wpAnyH_ready (rs := [5, 10]) (by kernel_rfl) (by simp) ?_
    refine (AllReadyH.cons rfl (fun KK hK => ?_) (AllReadyH.cons rfl (fun KK hK => ?_) AllReadyH.nil))
    · skip
      obtain ⟨V2, hrV, rl, hgV⟩ := run_make_full (P := Try.prog) V1 W0.heap.size 25 2 i0 (.int .i64 0) 1 Try.underlying25 hi hz0 hz1 .i64 .i64 l (by rw [hz2]; omega) (by unfold maxLen; omega) hS.size
      go_simp
      have hb : Below V1.heap.size V1 V2 := ⟨hgV.os, hgV.tape, hgV.output, hgV.size, fun k hk => hgV.block k hk (by simp)⟩
      have gll := (rl.lt V1.heap.size rfl).2
      have h_hL : gh ≠ V1.heap.size := Nat.ne_of_lt ghl
      replace rh := rh.kept (grown_of_below hb) (.inr (by intro e; cases e))
      replace ghl := Nat.lt_of_lt_of_le ghl hb.size
      have hNgl : W0.heap.size ≤ V1.heap.size := hS.size
      replace hS := hS.trans (hb.mono hS.size)
      clear hb hrV hgV
      generalize V1.heap.size = gl at *
      refine hK.out _ _ hS (fun hHeld => ?_)
      clear hK KK hHeld
      refine tkd (i := 9) (v := .agg #[.int .i64 0, .slice none 0 0, .slice none 0 0, .int .i64 0, .int .i64 0, .int .i64 0, .slice a iL.length cl, .slice b iH.length ch, .int .i64 fuel, .slice ca code.length cc, .int .i64 0, .int .i64 0, .int .i64 0, .int .i64 0, .int .i64 0, .int .i64 0, .int .i64 0, .int .i64 0, .int .i64 0, .slice (some ⟨gl, 0, none⟩) l l, .slice (some ⟨gh, 0, none⟩) h h, .slice none 0 0] ) rfl rfl (by kernel_rfl) (by kernel_rfl) (by kernel_rfl) (fun _ _ _ h => h) (Or.inl ⟨by rfl, fun w hSw => by skip; go_simp⟩) hS ?_
      simp only [List.setIfInBounds_toArray, List.set_cons_zero, List.set_cons_succ]
      refine wpAnyH_ready (rs := [10]) (by kernel_rfl) (by simp) ?_
      refine (AllReadyH.cons rfl (fun KK hK => ?_) AllReadyH.nil)
      go_simp
      have bD := BoxC.new V2 #[.int .i64 0, .slice none 0 0, .slice none 0 0, .int .i64 0, .int .i64 0, .int .i64 0, .slice none 0 0, .slice none 0 0, .int .i64 0, .slice none 0 0, .int .i64 0, .int .i64 0, .int .i64 0, .int .i64 0, .int .i64 0, .int .i64 0, .int .i64 0, .int .i64 0, .int .i64 0, .slice none 0 0, .slice none 0 0, .slice none 0 0] 42
      have hb : Below V2.heap.size V2 (V2.alloc (.cells #[.int .i64 0, .slice none 0 0, .slice none 0 0, .int .i64 0, .int .i64 0, .int .i64 0, .slice none 0 0, .slice none 0 0, .int .i64 0, .slice none 0 0, .int .i64 0, .int .i64 0, .int .i64 0, .int .i64 0, .int .i64 0, .int .i64 0, .int .i64 0, .int .i64 0, .int .i64 0, .slice none 0 0, .slice none 0 0, .slice none 0 0] 42)) := (Below.refl _ _).alloc (Nat.le_refl _) _
      have Dl := bD.lt
      generalize V2.alloc (.cells #[.int .i64 0, .slice none 0 0, .slice none 0 0, .int .i64 0, .int .i64 0, .int .i64 0, .slice none 0 0, .slice none 0 0, .int .i64 0, .slice none 0 0, .int .i64 0, .int .i64 0, .int .i64 0, .int .i64 0, .int .i64 0, .int .i64 0, .int .i64 0, .int .i64 0, .int .i64 0, .slice none 0 0, .slice none 0 0, .slice none 0 0] 42) = V3 at *
      have h_hD : gh ≠ V2.heap.size := Nat.ne_of_lt ghl
      replace rh := rh.kept (grown_of_below hb) (.inr (by intro e; cases e))
      replace ghl := Nat.lt_of_lt_of_le ghl hb.size
      have h_lD : gl ≠ V2.heap.size := Nat.ne_of_lt gll
      replace rl := rl.kept (grown_of_below hb) (.inr (by intro e; cases e))
      replace gll := Nat.lt_of_lt_of_le gll hb.size
      have hND : W0.heap.size ≤ V2.heap.size := hS.size
      replace hS := hS.trans (hb.mono hS.size)
      clear hb 
      generalize V2.heap.size = D at *
      refine hK.out _ _ hS (fun hHeld => ?_)
      clear hK KK hHeld
      have hlh : gl ≠ gh := Ne.symm h_hL
      have hlD : gl ≠ D := h_lD
      have hhD : gh ≠ D := h_hD
      rw [made_is] at rl rh
      have bE : BoxC (V3.setRow D #[.int .i64 0, .slice none 0 0, .slice none 0 0, .int .i64 0, .int .i64 0, .int .i64 0, .slice a iL.length cl, .slice b iH.length ch, .int .i64 fuel, .slice ca code.length cc, .int .i64 0, .int .i64 0, .int .i64 0, .int .i64 0, .int .i64 0, .int .i64 0, .int .i64 0, .int .i64 0, .int .i64 0, .slice (some ⟨gl, 0, none⟩) l l, .slice (some ⟨gh, 0, none⟩) h h, .slice none 0 0]) D #[.int .i64 0, .slice none 0 0, .slice none 0 0, .int .i64 0, .int .i64 0, .int .i64 0, .slice a iL.length cl, .slice b iH.length ch, .int .i64 fuel, .slice ca code.length cc, .int .i64 0, .int .i64 0, .int .i64 0, .int .i64 0, .int .i64 0, .int .i64 0, .int .i64 0, .int .i64 0, .int .i64 0, .slice (some ⟨gl, 0, none⟩) l l, .slice (some ⟨gh, 0, none⟩) h h, .slice none 0 0] 42 := setRow_heap V3 D _ _ _ _ bD
      have hSE := below_row hS hND #[.int .i64 0, .slice none 0 0, .slice none 0 0, .int .i64 0, .int .i64 0, .int .i64 0, .slice a iL.length cl, .slice b iH.length ch, .int .i64 fuel, .slice ca code.length cc, .int .i64 0, .int .i64 0, .int .i64 0, .int .i64 0, .int .i64 0, .int .i64 0, .int .i64 0, .int .i64 0, .int .i64 0, .slice (some ⟨gl, 0, none⟩) l l, .slice (some ⟨gh, 0, none⟩) h h, .slice none 0 0]
      replace rl := rl.kept (grown_row V3 D #[.int .i64 0, .slice none 0 0, .slice none 0 0, .int .i64 0, .int .i64 0, .int .i64 0, .slice a iL.length cl, .slice b iH.length ch, .int .i64 fuel, .slice ca code.length cc, .int .i64 0, .int .i64 0, .int .i64 0, .int .i64 0, .int .i64 0, .int .i64 0, .int .i64 0, .int .i64 0, .int .i64 0, .slice (some ⟨gl, 0, none⟩) l l, .slice (some ⟨gh, 0, none⟩) h h, .slice none 0 0]) (.inr (by intro e; exact hlD (Option.some.inj e)))
      replace rh := rh.kept (grown_row V3 D #[.int .i64 0, .slice none 0 0, .slice none 0 0, .int .i64 0, .int .i64 0, .int .i64 0, .slice a iL.length cl, .slice b iH.length ch, .int .i64 fuel, .slice ca code.length cc, .int .i64 0, .int .i64 0, .int .i64 0, .int .i64 0, .int .i64 0, .int .i64 0, .int .i64 0, .int .i64 0, .int .i64 0, .slice (some ⟨gl, 0, none⟩) l l, .slice (some ⟨gh, 0, none⟩) h h, .slice none 0 0]) (.inr (by intro e; exact hhD (Option.some.inj e)))
      refine wpAnyH_ready (rs := [11]) (by kernel_rfl) (by simp) ?_
      refine AllReadyH.cons rfl (fun KK hK => ?_) AllReadyH.nil
      refine step_store_row (by rfl) 42 (.tmp 13) (.tmp 38) (by rfl) D #[.int .i64 0, .slice none 0 0, .slice none 0 0, .int .i64 0, .int .i64 0, .int .i64 0, .slice a iL.length cl, .slice b iH.length ch, .int .i64 fuel, .slice ca code.length cc, .int .i64 0, .int .i64 0, .int .i64 0, .int .i64 0, .int .i64 0, .int .i64 0, .int .i64 0, .int .i64 0, .int .i64 0, .slice (some ⟨gl, 0, none⟩) l l, .slice (some ⟨gh, 0, none⟩) h h, .slice none 0 0] (by rfl) (by rfl) 42 _ bD (by kernel_rfl) (by rfl) (by kernel_rfl) ?_
      refine hK.out _ _ hSE (fun hHeld => ?_)
      clear hK KK hHeld bD hS
      refine wpAnyH_done (by kernel_rfl) ?_ _
      generalize V3.setRow D #[.int .i64 0, .slice none 0 0, .slice none 0 0, .int .i64 0, .int .i64 0, .int .i64 0, .slice a iL.length cl, .slice b iH.length ch, .int .i64 fuel, .slice ca code.length cc, .int .i64 0, .int .i64 0, .int .i64 0, .int .i64 0, .int .i64 0, .int .i64 0, .int .i64 0, .int .i64 0, .int .i64 0, .slice (some ⟨gl, 0, none⟩) l l, .slice (some ⟨gh, 0, none⟩) h h, .slice none 0 0] = WE at *
      have hMS := MS.start hSE bE hND rl rh hlh hlD hhD
      have hT := oThrough code hMS (Inv.start iL iH code.length l h) (Nat.zero_le _) HF.out.1 (HLs.out.below hB5) (HHs.out.below hB5) (Nat.le_refl _) HF.out.2.1 HF.out.2.2.1 HF.out.2.2.2.1 (HC.out.below hB5) HF.out.2.2.2.2
      clear rl rh bE hMS hSE hlh hlD hhD hNgl hNgh gll ghl
      dsimp only at hT
      rw [show fuel - (s0 l h).steps = fuel from rfl, HR.out] at hT
      go_wp2_with (fail)
      refine hT.mono ?_
      rintro e w6 ⟨rfl, vs', w5, hM5, hw6⟩
      have hE : Ends D R (vs' 0) (vs' 1) (vs' 2) (vs' 3) w6 := by rw [hw6]; exact hM5.ends
      have hB6 : Below W0.heap.size W0 w6 := by rw [hw6]; exact hM5.old.setCell hND _
      have r0 : w6.ownsRow W0.heap.size 2 1 (vs' 0) R.2.oL.length (R.2.oL.map intV) := by rw [hw6]; exact hM5.own0.kept (grown_set _ _ _ _) (.inr (hM5.mem.far 0))
      have r1 : w6.ownsRow W0.heap.size 2 1 (vs' 1) R.2.oH.length (R.2.oH.map intV) := by rw [hw6]; exact hM5.own1.kept (grown_set _ _ _ _) (.inr (hM5.mem.far 1))
      have r2 : w6.ownsRow W0.heap.size 2 1 (vs' 2) R.2.lw.length (R.2.lw.map intV) := by rw [hw6]; exact hM5.own2.kept (grown_set _ _ _ _) (.inr (hM5.mem.far 2))
      have r3 : w6.ownsRow W0.heap.size 2 1 (vs' 3) R.2.hw.length (R.2.hw.map intV) := by rw [hw6]; exact hM5.own3.kept (grown_set _ _ _ _) (.inr (hM5.mem.far 3))
      obtain ⟨a0, c0, e0, _⟩ := ints_own r0
      obtain ⟨a1, c1, e1, _⟩ := ints_own r1
      obtain ⟨a2, c2, e2, _⟩ := ints_own r2
      obtain ⟨a3, c3, e3, _⟩ := ints_own r3
      rw [e0, e1, e2, e3] at hE
      rw [e0] at r0
      rw [e1] at r1
      rw [e2] at r2
      rw [e3] at r3
      clear hM5 hw6 e0 e1 e2 e3 hT
      have hS := hE.below (Below.refl _ _).drew
      replace hB6 := hB6.drew
      replace r0 := r0.drew
      replace r1 := r1.drew
      replace r2 := r2.drew
      replace r3 := r3.drew
      go_wp2
      refine wp_region_held_drew (S := Ends D R (.slice a0 R.2.oL.length c0) (.slice a1 R.2.oH.length c1) (.slice a2 R.2.lw.length c2) (.slice a3 R.2.hw.length c3)) (by kernel_rfl) hS (fun hHeld => ?_)
      clear hHeld hE
      generalize w6.drew = W6 at *
      refine tkd (i := 0) (v := .pointer (some ⟨D, 0, none⟩)) rfl rfl (by kernel_rfl) (by kernel_rfl) (by kernel_rfl) (fun _ _ _ h => h) (Or.inl ⟨by rfl, fun w hSw => by skip; go_simp⟩) hS ?_
      simp only [List.setIfInBounds_toArray, List.set_cons_zero, List.set_cons_succ]
      refine tkd (i := 1) (v := .pointer (some ⟨D, 0, none⟩)) rfl rfl (by kernel_rfl) (by kernel_rfl) (by kernel_rfl) (fun _ _ _ h => h) (Or.inl ⟨by rfl, fun w hSw => by skip; go_simp⟩) hS ?_
      simp only [List.setIfInBounds_toArray, List.set_cons_zero, List.set_cons_succ]
      refine tkd (i := 2) (v := .agg #[.int .i64 R.1, .slice a0 R.2.oL.length c0, .slice a1 R.2.oH.length c1, natV R.2.uL, natV R.2.uH, natV R.2.steps] ) rfl rfl (by kernel_rfl) (by kernel_rfl) (by kernel_rfl) (fun _ _ _ h => h) (Or.inl ⟨by rfl, fun w hSw => by obtain ⟨z0, z1, z2, z3, z4, z5, z6, z7⟩ := hSw; go_simp⟩) hS ?_
      simp only [List.setIfInBounds_toArray, List.set_cons_zero, List.set_cons_succ]
      refine tkd (i := 3) (v := .pointer (some ⟨D, 19, none⟩)) rfl rfl (by kernel_rfl) (by kernel_rfl) (by kernel_rfl) (fun _ _ _ h => h) (Or.inl ⟨by rfl, fun w hSw => by skip; go_simp⟩) hS ?_
      simp only [List.setIfInBounds_toArray, List.set_cons_zero, List.set_cons_succ]
      refine tkd (i := 4) (v := .slice a2 R.2.lw.length c2) rfl rfl (by kernel_rfl) (by kernel_rfl) (by kernel_rfl) (fun _ _ _ h => h) (Or.inl ⟨by rfl, fun w hSw => by have z := hSw.c19; go_simp⟩) hS ?_
      simp only [List.setIfInBounds_toArray, List.set_cons_zero, List.set_cons_succ]
      refine tkd (i := 5) (v := .pointer (some ⟨D, 20, none⟩)) rfl rfl (by kernel_rfl) (by kernel_rfl) (by kernel_rfl) (fun _ _ _ h => h) (Or.inl ⟨by rfl, fun w hSw => by skip; go_simp⟩) hS ?_
      simp only [List.setIfInBounds_toArray, List.set_cons_zero, List.set_cons_succ]
      refine tkd (i := 6) (v := .slice a3 R.2.hw.length c3) rfl rfl (by kernel_rfl) (by kernel_rfl) (by kernel_rfl) (fun _ _ _ h => h) (Or.inl ⟨by rfl, fun w hSw => by have z := hSw.c20; go_simp⟩) hS ?_
      simp only [List.setIfInBounds_toArray, List.set_cons_zero, List.set_cons_succ]
      have hR0l := hR0.lt
      refine wpAnyH_ready (rs := [7, 8]) (by kernel_rfl) (by simp) ?_
      refine (AllReadyH.cons rfl (fun KK hK => ?_) (AllReadyH.cons rfl (fun KK hK => ?_) AllReadyH.nil))
      · skip
        go_simp
        have bG := BoxC.new W6 #[.slice a2 R.2.lw.length c2, .slice a3 R.2.hw.length c3] 25
        have hbG : Below W6.heap.size W6 (W6.alloc (.cells #[.slice a2 R.2.lw.length c2, .slice a3 R.2.hw.length c3] 25)) := (Below.refl _ _).alloc (Nat.le_refl _) _
        replace hS := hS.below hbG
        have hGB : W6.heap.size ≠ w.heap.size + 1 := by have h2 := hB6.size; omega
        replace hB6 := hB6.trans (hbG.mono hB6.size)
        replace r0 := r0.alloc (.cells #[.slice a2 R.2.lw.length c2, .slice a3 R.2.hw.length c3] 25)
        replace r1 := r1.alloc (.cells #[.slice a2 R.2.lw.length c2, .slice a3 R.2.hw.length c3] 25)
        replace r2 := r2.alloc (.cells #[.slice a2 R.2.lw.length c2, .slice a3 R.2.hw.length c3] 25)
        replace r3 := r3.alloc (.cells #[.slice a2 R.2.lw.length c2, .slice a3 R.2.hw.length c3] 25)
        refine hK.out _ _ hS (fun hHeld => ?_)
        clear hK KK hHeld hbG
        generalize W6.alloc (.cells #[.slice a2 R.2.lw.length c2, .slice a3 R.2.hw.length c3] 25) = W7 at *
        generalize W6.heap.size = G at *
        refine wpAnyH_ready (rs := [8]) (by kernel_rfl) (by simp) ?_
        refine AllReadyH.cons rfl (fun KK hK => ?_) AllReadyH.nil
        have bR := hR0.below hB6
        refine step_store_row (by rfl) 27 (.tmp 8) (.tmp 44) (by rfl) (w.heap.size + 1) #[.int .i64 R.1, .slice a0 R.2.oL.length c0, .slice a1 R.2.oH.length c1, natV R.2.uL, natV R.2.uH, natV R.2.steps] (by rfl) (by rfl) 27 _ bR (by kernel_rfl) (by rfl) (by kernel_rfl) ?_
        have hg := grown_row W7 (w.heap.size + 1) #[.int .i64 R.1, .slice a0 R.2.oL.length c0, .slice a1 R.2.oH.length c1, natV R.2.uL, natV R.2.uH, natV R.2.steps]
        have bF : BoxC (W7.setRow (w.heap.size + 1) #[.int .i64 R.1, .slice a0 R.2.oL.length c0, .slice a1 R.2.oH.length c1, natV R.2.uL, natV R.2.uH, natV R.2.steps]) (w.heap.size + 1) #[.int .i64 R.1, .slice a0 R.2.oL.length c0, .slice a1 R.2.oH.length c1, natV R.2.uL, natV R.2.uH, natV R.2.steps] 27 := setRow_heap W7 _ _ _ _ _ bR
        have hBF := below_row (hB5.trans (hB6.mono hB5.size)) (Nat.le_succ w.heap.size) #[.int .i64 R.1, .slice a0 R.2.oL.length c0, .slice a1 R.2.oH.length c1, natV R.2.uL, natV R.2.uH, natV R.2.steps]
        replace bG := bG.grown hg (by simp; omega)
        replace hS := hS.block (hg.block D hS.lt (by simp; omega))
        replace r0 := r0.kept hg (own_far r0 hR0l)
        replace r1 := r1.kept hg (own_far r1 hR0l)
        replace r2 := r2.kept hg (own_far r2 hR0l)
        replace r3 := r3.kept hg (own_far r3 hR0l)
        refine hK.out _ _ hS (fun hHeld => ?_)
        clear hg bR hK KK hHeld hB6
        generalize W7.setRow (w.heap.size + 1) #[.int .i64 R.1, .slice a0 R.2.oL.length c0, .slice a1 R.2.oH.length c1, natV R.2.uL, natV R.2.uH, natV R.2.steps] = WF at *
        have hput : ∀ (o : Oper) (A : Act) (v : Value), o.dst = none → A.put o.dst v = A := fun o A v e => by rw [e]; rfl
        rw [hput _ _ _ rfl]
        clear hput
        refine tkd (i := 9) (v := .slice (some ⟨G, 0, none⟩) 2 2) rfl rfl (by kernel_rfl) (by kernel_rfl) (by kernel_rfl) (fun _ _ _ h => h) (Or.inl ⟨by rfl, fun w hSw => by skip; go_simp⟩) hS ?_
        simp only [List.setIfInBounds_toArray, List.set_cons_zero, List.set_cons_succ]
        refine tkd (i := 10) (v := .int .i64 0) rfl rfl (by kernel_rfl) (by kernel_rfl) (by kernel_rfl) (fun _ _ _ h => h) (Or.inl ⟨by rfl, fun w hSw => by skip; go_simp⟩) hS ?_
        simp only [List.setIfInBounds_toArray, List.set_cons_zero, List.set_cons_succ]
        refine wpAnyH_done (by kernel_rfl) ?_ _
        go_wp2
        refine bodyPost_ret (v := .tuple #[.agg #[.int .i64 R.1, .slice a0 R.2.oL.length c0, .slice a1 R.2.oH.length c1, natV R.2.uL, natV R.2.uH, natV R.2.steps], .slice (some ⟨G, 0, none⟩) 2 2, .int .i64 0]) (runRes _ bF) rfl ?_
        exact ⟨hBF, _, _, _, _, G, rfl, bG.cell 0 rfl, bG.cell 1 rfl, ints_own r0, ints_own r1, ints_own r2, ints_own r3⟩
      · skip
        have bR := hR0.below hB6
        refine step_store_row (by rfl) 27 (.tmp 8) (.tmp 44) (by rfl) (w.heap.size + 1) #[.int .i64 R.1, .slice a0 R.2.oL.length c0, .slice a1 R.2.oH.length c1, natV R.2.uL, natV R.2.uH, natV R.2.steps] (by rfl) (by rfl) 27 _ bR (by kernel_rfl) (by rfl) (by kernel_rfl) ?_
        have hg := grown_row W6 (w.heap.size + 1) #[.int .i64 R.1, .slice a0 R.2.oL.length c0, .slice a1 R.2.oH.length c1, natV R.2.uL, natV R.2.uH, natV R.2.steps]
        have bF : BoxC (W6.setRow (w.heap.size + 1) #[.int .i64 R.1, .slice a0 R.2.oL.length c0, .slice a1 R.2.oH.length c1, natV R.2.uL, natV R.2.uH, natV R.2.steps]) (w.heap.size + 1) #[.int .i64 R.1, .slice a0 R.2.oL.length c0, .slice a1 R.2.oH.length c1, natV R.2.uL, natV R.2.uH, natV R.2.steps] 27 := setRow_heap W6 _ _ _ _ _ bR
        have hBF := below_row (hB5.trans (hB6.mono hB5.size)) (Nat.le_succ w.heap.size) #[.int .i64 R.1, .slice a0 R.2.oL.length c0, .slice a1 R.2.oH.length c1, natV R.2.uL, natV R.2.uH, natV R.2.steps]
        replace hS := hS.block (hg.block D hS.lt (by simp; omega))
        replace r0 := r0.kept hg (own_far r0 hR0l)
        replace r1 := r1.kept hg (own_far r1 hR0l)
        replace r2 := r2.kept hg (own_far r2 hR0l)
        replace r3 := r3.kept hg (own_far r3 hR0l)
        refine hK.out _ _ hS (fun hHeld => ?_)
        clear hg bR hK KK hHeld hB6
        generalize W6.setRow (w.heap.size + 1) #[.int .i64 R.1, .slice a0 R.2.oL.length c0, .slice a1 R.2.oH.length c1, natV R.2.uL, natV R.2.uH, natV R.2.steps] = WF at *
        have hput : ∀ (o : Oper) (A : Act) (v : Value), o.dst = none → A.put o.dst v = A := fun o A v e => by rw [e]; rfl
        rw [hput _ _ _ rfl]
        clear hput
        refine wpAnyH_ready (rs := [7]) (by kernel_rfl) (by simp) ?_
        refine AllReadyH.cons rfl (fun KK hK => ?_) AllReadyH.nil
        go_simp
        have bG := BoxC.new WF #[.slice a2 R.2.lw.length c2, .slice a3 R.2.hw.length c3] 25
        have hbG : Below WF.heap.size WF (WF.alloc (.cells #[.slice a2 R.2.lw.length c2, .slice a3 R.2.hw.length c3] 25)) := (Below.refl _ _).alloc (Nat.le_refl _) _
        replace hS := hS.below hbG
        replace hBF := hBF.trans (hbG.mono hBF.size)
        replace bF := bF.below hbG
        replace r0 := r0.alloc (.cells #[.slice a2 R.2.lw.length c2, .slice a3 R.2.hw.length c3] 25)
        replace r1 := r1.alloc (.cells #[.slice a2 R.2.lw.length c2, .slice a3 R.2.hw.length c3] 25)
        replace r2 := r2.alloc (.cells #[.slice a2 R.2.lw.length c2, .slice a3 R.2.hw.length c3] 25)
        replace r3 := r3.alloc (.cells #[.slice a2 R.2.lw.length c2, .slice a3 R.2.hw.length c3] 25)
        refine hK.out _ _ hS (fun hHeld => ?_)
        clear hK KK hHeld hbG
        generalize WF.alloc (.cells #[.slice a2 R.2.lw.length c2, .slice a3 R.2.hw.length c3] 25) = W7 at *
        generalize WF.heap.size = G at *
        refine tkd (i := 9) (v := .slice (some ⟨G, 0, none⟩) 2 2) rfl rfl (by kernel_rfl) (by kernel_rfl) (by kernel_rfl) (fun _ _ _ h => h) (Or.inl ⟨by rfl, fun w hSw => by skip; go_simp⟩) hS ?_
        simp only [List.setIfInBounds_toArray, List.set_cons_zero, List.set_cons_succ]
        refine tkd (i := 10) (v := .int .i64 0) rfl rfl (by kernel_rfl) (by kernel_rfl) (by kernel_rfl) (fun _ _ _ h => h) (Or.inl ⟨by rfl, fun w hSw => by skip; go_simp⟩) hS ?_
        simp only [List.setIfInBounds_toArray, List.set_cons_zero, List.set_cons_succ]
        refine wpAnyH_done (by kernel_rfl) ?_ _
        go_wp2
        refine bodyPost_ret (v := .tuple #[.agg #[.int .i64 R.1, .slice a0 R.2.oL.length c0, .slice a1 R.2.oH.length c1, natV R.2.uL, natV R.2.uH, natV R.2.steps], .slice (some ⟨G, 0, none⟩) 2 2, .int .i64 0]) (runRes _ bF) rfl ?_
        exact ⟨hBF, _, _, _, _, G, rfl, bG.cell 0 rfl, bG.cell 1 rfl, ints_own r0, ints_own r1, ints_own r2, ints_own r3⟩
    · skip
      go_simp
      have bD := BoxC.new V1 #[.int .i64 0, .slice none 0 0, .slice none 0 0, .int .i64 0, .int .i64 0, .int .i64 0, .slice none 0 0, .slice none 0 0, .int .i64 0, .slice none 0 0, .int .i64 0, .int .i64 0, .int .i64 0, .int .i64 0, .int .i64 0, .int .i64 0, .int .i64 0, .int .i64 0, .int .i64 0, .slice none 0 0, .slice none 0 0, .slice none 0 0] 42
      have hb : Below V1.heap.size V1 (V1.alloc (.cells #[.int .i64 0, .slice none 0 0, .slice none 0 0, .int .i64 0, .int .i64 0, .int .i64 0, .slice none 0 0, .slice none 0 0, .int .i64 0, .slice none 0 0, .int .i64 0, .int .i64 0, .int .i64 0, .int .i64 0, .int .i64 0, .int .i64 0, .int .i64 0, .int .i64 0, .int .i64 0, .slice none 0 0, .slice none 0 0, .slice none 0 0] 42)) := (Below.refl _ _).alloc (Nat.le_refl _) _
      have Dl := bD.lt
      generalize V1.alloc (.cells #[.int .i64 0, .slice none 0 0, .slice none 0 0, .int .i64 0, .int .i64 0, .int .i64 0, .slice none 0 0, .slice none 0 0, .int .i64 0, .slice none 0 0, .int .i64 0, .int .i64 0, .int .i64 0, .int .i64 0, .int .i64 0, .int .i64 0, .int .i64 0, .int .i64 0, .int .i64 0, .slice none 0 0, .slice none 0 0, .slice none 0 0] 42) = V2 at *
      have h_hD : gh ≠ V1.heap.size := Nat.ne_of_lt ghl
      replace rh := rh.kept (grown_of_below hb) (.inr (by intro e; cases e))
      replace ghl := Nat.lt_of_lt_of_le ghl hb.size
      have hND : W0.heap.size ≤ V1.heap.size := hS.size
      replace hS := hS.trans (hb.mono hS.size)
      clear hb 
      generalize V1.heap.size = D at *
      refine hK.out _ _ hS (fun hHeld => ?_)
      clear hK KK hHeld
      refine wpAnyH_ready (rs := [5]) (by kernel_rfl) (by simp) ?_
      refine (AllReadyH.cons rfl (fun KK hK => ?_) AllReadyH.nil)
      obtain ⟨V3, hrV, rl, hgV⟩ := run_make_full (P := Try.prog) V2 W0.heap.size 25 2 i0 (.int .i64 0) 1 Try.underlying25 hi hz0 hz1 .i64 .i64 l (by rw [hz2]; omega) (by unfold maxLen; omega) hS.size
      go_simp
      have hb : Below V2.heap.size V2 V3 := ⟨hgV.os, hgV.tape, hgV.output, hgV.size, fun k hk => hgV.block k hk (by simp)⟩
      have gll := (rl.lt V2.heap.size rfl).2
      have h_hL : gh ≠ V2.heap.size := Nat.ne_of_lt ghl
      replace rh := rh.kept (grown_of_below hb) (.inr (by intro e; cases e))
      replace ghl := Nat.lt_of_lt_of_le ghl hb.size
      have h_DL : D ≠ V2.heap.size := Nat.ne_of_lt Dl
      replace bD := bD.below hb
      replace Dl := Nat.lt_of_lt_of_le Dl hb.size
      have hNgl : W0.heap.size ≤ V2.heap.size := hS.size
      replace hS := hS.trans (hb.mono hS.size)
      clear hb hrV hgV
      generalize V2.heap.size = gl at *
      refine hK.out _ _ hS (fun hHeld => ?_)
      clear hK KK hHeld
      refine tkd (i := 9) (v := .agg #[.int .i64 0, .slice none 0 0, .slice none 0 0, .int .i64 0, .int .i64 0, .int .i64 0, .slice a iL.length cl, .slice b iH.length ch, .int .i64 fuel, .slice ca code.length cc, .int .i64 0, .int .i64 0, .int .i64 0, .int .i64 0, .int .i64 0, .int .i64 0, .int .i64 0, .int .i64 0, .int .i64 0, .slice (some ⟨gl, 0, none⟩) l l, .slice (some ⟨gh, 0, none⟩) h h, .slice none 0 0] ) rfl rfl (by kernel_rfl) (by kernel_rfl) (by kernel_rfl) (fun _ _ _ h => h) (Or.inl ⟨by rfl, fun w hSw => by skip; go_simp⟩) hS ?_
      simp only [List.setIfInBounds_toArray, List.set_cons_zero, List.set_cons_succ]
      have hlh : gl ≠ gh := Ne.symm h_hL
      have hlD : gl ≠ D := Ne.symm h_DL
      have hhD : gh ≠ D := h_hD
      rw [made_is] at rl rh
      have bE : BoxC (V3.setRow D #[.int .i64 0, .slice none 0 0, .slice none 0 0, .int .i64 0, .int .i64 0, .int .i64 0, .slice a iL.length cl, .slice b iH.length ch, .int .i64 fuel, .slice ca code.length cc, .int .i64 0, .int .i64 0, .int .i64 0, .int .i64 0, .int .i64 0, .int .i64 0, .int .i64 0, .int .i64 0, .int .i64 0, .slice (some ⟨gl, 0, none⟩) l l, .slice (some ⟨gh, 0, none⟩) h h, .slice none 0 0]) D #[.int .i64 0, .slice none 0 0, .slice none 0 0, .int .i64 0, .int .i64 0, .int .i64 0, .slice a iL.length cl, .slice b iH.length ch, .int .i64 fuel, .slice ca code.length cc, .int .i64 0, .int .i64 0, .int .i64 0, .int .i64 0, .int .i64 0, .int .i64 0, .int .i64 0, .int .i64 0, .int .i64 0, .slice (some ⟨gl, 0, none⟩) l l, .slice (some ⟨gh, 0, none⟩) h h, .slice none 0 0] 42 := setRow_heap V3 D _ _ _ _ bD
      have hSE := below_row hS hND #[.int .i64 0, .slice none 0 0, .slice none 0 0, .int .i64 0, .int .i64 0, .int .i64 0, .slice a iL.length cl, .slice b iH.length ch, .int .i64 fuel, .slice ca code.length cc, .int .i64 0, .int .i64 0, .int .i64 0, .int .i64 0, .int .i64 0, .int .i64 0, .int .i64 0, .int .i64 0, .int .i64 0, .slice (some ⟨gl, 0, none⟩) l l, .slice (some ⟨gh, 0, none⟩) h h, .slice none 0 0]
      replace rl := rl.kept (grown_row V3 D #[.int .i64 0, .slice none 0 0, .slice none 0 0, .int .i64 0, .int .i64 0, .int .i64 0, .slice a iL.length cl, .slice b iH.length ch, .int .i64 fuel, .slice ca code.length cc, .int .i64 0, .int .i64 0, .int .i64 0, .int .i64 0, .int .i64 0, .int .i64 0, .int .i64 0, .int .i64 0, .int .i64 0, .slice (some ⟨gl, 0, none⟩) l l, .slice (some ⟨gh, 0, none⟩) h h, .slice none 0 0]) (.inr (by intro e; exact hlD (Option.some.inj e)))
      replace rh := rh.kept (grown_row V3 D #[.int .i64 0, .slice none 0 0, .slice none 0 0, .int .i64 0, .int .i64 0, .int .i64 0, .slice a iL.length cl, .slice b iH.length ch, .int .i64 fuel, .slice ca code.length cc, .int .i64 0, .int .i64 0, .int .i64 0, .int .i64 0, .int .i64 0, .int .i64 0, .int .i64 0, .int .i64 0, .int .i64 0, .slice (some ⟨gl, 0, none⟩) l l, .slice (some ⟨gh, 0, none⟩) h h, .slice none 0 0]) (.inr (by intro e; exact hhD (Option.some.inj e)))
      refine wpAnyH_ready (rs := [11]) (by kernel_rfl) (by simp) ?_
      refine AllReadyH.cons rfl (fun KK hK => ?_) AllReadyH.nil
      refine step_store_row (by rfl) 42 (.tmp 13) (.tmp 38) (by rfl) D #[.int .i64 0, .slice none 0 0, .slice none 0 0, .int .i64 0, .int .i64 0, .int .i64 0, .slice a iL.length cl, .slice b iH.length ch, .int .i64 fuel, .slice ca code.length cc, .int .i64 0, .int .i64 0, .int .i64 0, .int .i64 0, .int .i64 0, .int .i64 0, .int .i64 0, .int .i64 0, .int .i64 0, .slice (some ⟨gl, 0, none⟩) l l, .slice (some ⟨gh, 0, none⟩) h h, .slice none 0 0] (by rfl) (by rfl) 42 _ bD (by kernel_rfl) (by rfl) (by kernel_rfl) ?_
      refine hK.out _ _ hSE (fun hHeld => ?_)
      clear hK KK hHeld bD hS
      refine wpAnyH_done (by kernel_rfl) ?_ _
      generalize V3.setRow D #[.int .i64 0, .slice none 0 0, .slice none 0 0, .int .i64 0, .int .i64 0, .int .i64 0, .slice a iL.length cl, .slice b iH.length ch, .int .i64 fuel, .slice ca code.length cc, .int .i64 0, .int .i64 0, .int .i64 0, .int .i64 0, .int .i64 0, .int .i64 0, .int .i64 0, .int .i64 0, .int .i64 0, .slice (some ⟨gl, 0, none⟩) l l, .slice (some ⟨gh, 0, none⟩) h h, .slice none 0 0] = WE at *
      have hMS := MS.start hSE bE hND rl rh hlh hlD hhD
      have hT := oThrough code hMS (Inv.start iL iH code.length l h) (Nat.zero_le _) HF.out.1 (HLs.out.below hB5) (HHs.out.below hB5) (Nat.le_refl _) HF.out.2.1 HF.out.2.2.1 HF.out.2.2.2.1 (HC.out.below hB5) HF.out.2.2.2.2
      clear rl rh bE hMS hSE hlh hlD hhD hNgl hNgh gll ghl
      dsimp only at hT
      rw [show fuel - (s0 l h).steps = fuel from rfl, HR.out] at hT
      go_wp2_with (fail)
      refine hT.mono ?_
      rintro e w6 ⟨rfl, vs', w5, hM5, hw6⟩
      have hE : Ends D R (vs' 0) (vs' 1) (vs' 2) (vs' 3) w6 := by rw [hw6]; exact hM5.ends
      have hB6 : Below W0.heap.size W0 w6 := by rw [hw6]; exact hM5.old.setCell hND _
      have r0 : w6.ownsRow W0.heap.size 2 1 (vs' 0) R.2.oL.length (R.2.oL.map intV) := by rw [hw6]; exact hM5.own0.kept (grown_set _ _ _ _) (.inr (hM5.mem.far 0))
      have r1 : w6.ownsRow W0.heap.size 2 1 (vs' 1) R.2.oH.length (R.2.oH.map intV) := by rw [hw6]; exact hM5.own1.kept (grown_set _ _ _ _) (.inr (hM5.mem.far 1))
      have r2 : w6.ownsRow W0.heap.size 2 1 (vs' 2) R.2.lw.length (R.2.lw.map intV) := by rw [hw6]; exact hM5.own2.kept (grown_set _ _ _ _) (.inr (hM5.mem.far 2))
      have r3 : w6.ownsRow W0.heap.size 2 1 (vs' 3) R.2.hw.length (R.2.hw.map intV) := by rw [hw6]; exact hM5.own3.kept (grown_set _ _ _ _) (.inr (hM5.mem.far 3))
      obtain ⟨a0, c0, e0, _⟩ := ints_own r0
      obtain ⟨a1, c1, e1, _⟩ := ints_own r1
      obtain ⟨a2, c2, e2, _⟩ := ints_own r2
      obtain ⟨a3, c3, e3, _⟩ := ints_own r3
      rw [e0, e1, e2, e3] at hE
      rw [e0] at r0
      rw [e1] at r1
      rw [e2] at r2
      rw [e3] at r3
      clear hM5 hw6 e0 e1 e2 e3 hT
      have hS := hE.below (Below.refl _ _).drew
      replace hB6 := hB6.drew
      replace r0 := r0.drew
      replace r1 := r1.drew
      replace r2 := r2.drew
      replace r3 := r3.drew
      go_wp2
      refine wp_region_held_drew (S := Ends D R (.slice a0 R.2.oL.length c0) (.slice a1 R.2.oH.length c1) (.slice a2 R.2.lw.length c2) (.slice a3 R.2.hw.length c3)) (by kernel_rfl) hS (fun hHeld => ?_)
      clear hHeld hE
      generalize w6.drew = W6 at *
      refine tkd (i := 0) (v := .pointer (some ⟨D, 0, none⟩)) rfl rfl (by kernel_rfl) (by kernel_rfl) (by kernel_rfl) (fun _ _ _ h => h) (Or.inl ⟨by rfl, fun w hSw => by skip; go_simp⟩) hS ?_
      simp only [List.setIfInBounds_toArray, List.set_cons_zero, List.set_cons_succ]
      refine tkd (i := 1) (v := .pointer (some ⟨D, 0, none⟩)) rfl rfl (by kernel_rfl) (by kernel_rfl) (by kernel_rfl) (fun _ _ _ h => h) (Or.inl ⟨by rfl, fun w hSw => by skip; go_simp⟩) hS ?_
      simp only [List.setIfInBounds_toArray, List.set_cons_zero, List.set_cons_succ]
      refine tkd (i := 2) (v := .agg #[.int .i64 R.1, .slice a0 R.2.oL.length c0, .slice a1 R.2.oH.length c1, natV R.2.uL, natV R.2.uH, natV R.2.steps] ) rfl rfl (by kernel_rfl) (by kernel_rfl) (by kernel_rfl) (fun _ _ _ h => h) (Or.inl ⟨by rfl, fun w hSw => by obtain ⟨z0, z1, z2, z3, z4, z5, z6, z7⟩ := hSw; go_simp⟩) hS ?_
      simp only [List.setIfInBounds_toArray, List.set_cons_zero, List.set_cons_succ]
      refine tkd (i := 3) (v := .pointer (some ⟨D, 19, none⟩)) rfl rfl (by kernel_rfl) (by kernel_rfl) (by kernel_rfl) (fun _ _ _ h => h) (Or.inl ⟨by rfl, fun w hSw => by skip; go_simp⟩) hS ?_
      simp only [List.setIfInBounds_toArray, List.set_cons_zero, List.set_cons_succ]
      refine tkd (i := 4) (v := .slice a2 R.2.lw.length c2) rfl rfl (by kernel_rfl) (by kernel_rfl) (by kernel_rfl) (fun _ _ _ h => h) (Or.inl ⟨by rfl, fun w hSw => by have z := hSw.c19; go_simp⟩) hS ?_
      simp only [List.setIfInBounds_toArray, List.set_cons_zero, List.set_cons_succ]
      refine tkd (i := 5) (v := .pointer (some ⟨D, 20, none⟩)) rfl rfl (by kernel_rfl) (by kernel_rfl) (by kernel_rfl) (fun _ _ _ h => h) (Or.inl ⟨by rfl, fun w hSw => by skip; go_simp⟩) hS ?_
      simp only [List.setIfInBounds_toArray, List.set_cons_zero, List.set_cons_succ]
      refine tkd (i := 6) (v := .slice a3 R.2.hw.length c3) rfl rfl (by kernel_rfl) (by kernel_rfl) (by kernel_rfl) (fun _ _ _ h => h) (Or.inl ⟨by rfl, fun w hSw => by have z := hSw.c20; go_simp⟩) hS ?_
      simp only [List.setIfInBounds_toArray, List.set_cons_zero, List.set_cons_succ]
      have hR0l := hR0.lt
      refine wpAnyH_ready (rs := [7, 8]) (by kernel_rfl) (by simp) ?_
      refine (AllReadyH.cons rfl (fun KK hK => ?_) (AllReadyH.cons rfl (fun KK hK => ?_) AllReadyH.nil))
      · skip
        go_simp
        have bG := BoxC.new W6 #[.slice a2 R.2.lw.length c2, .slice a3 R.2.hw.length c3] 25
        have hbG : Below W6.heap.size W6 (W6.alloc (.cells #[.slice a2 R.2.lw.length c2, .slice a3 R.2.hw.length c3] 25)) := (Below.refl _ _).alloc (Nat.le_refl _) _
        replace hS := hS.below hbG
        have hGB : W6.heap.size ≠ w.heap.size + 1 := by have h2 := hB6.size; omega
        replace hB6 := hB6.trans (hbG.mono hB6.size)
        replace r0 := r0.alloc (.cells #[.slice a2 R.2.lw.length c2, .slice a3 R.2.hw.length c3] 25)
        replace r1 := r1.alloc (.cells #[.slice a2 R.2.lw.length c2, .slice a3 R.2.hw.length c3] 25)
        replace r2 := r2.alloc (.cells #[.slice a2 R.2.lw.length c2, .slice a3 R.2.hw.length c3] 25)
        replace r3 := r3.alloc (.cells #[.slice a2 R.2.lw.length c2, .slice a3 R.2.hw.length c3] 25)
        refine hK.out _ _ hS (fun hHeld => ?_)
        clear hK KK hHeld hbG
        generalize W6.alloc (.cells #[.slice a2 R.2.lw.length c2, .slice a3 R.2.hw.length c3] 25) = W7 at *
        generalize W6.heap.size = G at *
        refine wpAnyH_ready (rs := [8]) (by kernel_rfl) (by simp) ?_
        refine AllReadyH.cons rfl (fun KK hK => ?_) AllReadyH.nil
        have bR := hR0.below hB6
        refine step_store_row (by rfl) 27 (.tmp 8) (.tmp 44) (by rfl) (w.heap.size + 1) #[.int .i64 R.1, .slice a0 R.2.oL.length c0, .slice a1 R.2.oH.length c1, natV R.2.uL, natV R.2.uH, natV R.2.steps] (by rfl) (by rfl) 27 _ bR (by kernel_rfl) (by rfl) (by kernel_rfl) ?_
        have hg := grown_row W7 (w.heap.size + 1) #[.int .i64 R.1, .slice a0 R.2.oL.length c0, .slice a1 R.2.oH.length c1, natV R.2.uL, natV R.2.uH, natV R.2.steps]
        have bF : BoxC (W7.setRow (w.heap.size + 1) #[.int .i64 R.1, .slice a0 R.2.oL.length c0, .slice a1 R.2.oH.length c1, natV R.2.uL, natV R.2.uH, natV R.2.steps]) (w.heap.size + 1) #[.int .i64 R.1, .slice a0 R.2.oL.length c0, .slice a1 R.2.oH.length c1, natV R.2.uL, natV R.2.uH, natV R.2.steps] 27 := setRow_heap W7 _ _ _ _ _ bR
        have hBF := below_row (hB5.trans (hB6.mono hB5.size)) (Nat.le_succ w.heap.size) #[.int .i64 R.1, .slice a0 R.2.oL.length c0, .slice a1 R.2.oH.length c1, natV R.2.uL, natV R.2.uH, natV R.2.steps]
        replace bG := bG.grown hg (by simp; omega)
        replace hS := hS.block (hg.block D hS.lt (by simp; omega))
        replace r0 := r0.kept hg (own_far r0 hR0l)
        replace r1 := r1.kept hg (own_far r1 hR0l)
        replace r2 := r2.kept hg (own_far r2 hR0l)
        replace r3 := r3.kept hg (own_far r3 hR0l)
        refine hK.out _ _ hS (fun hHeld => ?_)
        clear hg bR hK KK hHeld hB6
        generalize W7.setRow (w.heap.size + 1) #[.int .i64 R.1, .slice a0 R.2.oL.length c0, .slice a1 R.2.oH.length c1, natV R.2.uL, natV R.2.uH, natV R.2.steps] = WF at *
        have hput : ∀ (o : Oper) (A : Act) (v : Value), o.dst = none → A.put o.dst v = A := fun o A v e => by rw [e]; rfl
        rw [hput _ _ _ rfl]
        clear hput
        refine tkd (i := 9) (v := .slice (some ⟨G, 0, none⟩) 2 2) rfl rfl (by kernel_rfl) (by kernel_rfl) (by kernel_rfl) (fun _ _ _ h => h) (Or.inl ⟨by rfl, fun w hSw => by skip; go_simp⟩) hS ?_
        simp only [List.setIfInBounds_toArray, List.set_cons_zero, List.set_cons_succ]
        refine tkd (i := 10) (v := .int .i64 0) rfl rfl (by kernel_rfl) (by kernel_rfl) (by kernel_rfl) (fun _ _ _ h => h) (Or.inl ⟨by rfl, fun w hSw => by skip; go_simp⟩) hS ?_
        simp only [List.setIfInBounds_toArray, List.set_cons_zero, List.set_cons_succ]
        refine wpAnyH_done (by kernel_rfl) ?_ _
        go_wp2
        refine bodyPost_ret (v := .tuple #[.agg #[.int .i64 R.1, .slice a0 R.2.oL.length c0, .slice a1 R.2.oH.length c1, natV R.2.uL, natV R.2.uH, natV R.2.steps], .slice (some ⟨G, 0, none⟩) 2 2, .int .i64 0]) (runRes _ bF) rfl ?_
        exact ⟨hBF, _, _, _, _, G, rfl, bG.cell 0 rfl, bG.cell 1 rfl, ints_own r0, ints_own r1, ints_own r2, ints_own r3⟩
      · skip
        have bR := hR0.below hB6
        refine step_store_row (by rfl) 27 (.tmp 8) (.tmp 44) (by rfl) (w.heap.size + 1) #[.int .i64 R.1, .slice a0 R.2.oL.length c0, .slice a1 R.2.oH.length c1, natV R.2.uL, natV R.2.uH, natV R.2.steps] (by rfl) (by rfl) 27 _ bR (by kernel_rfl) (by rfl) (by kernel_rfl) ?_
        have hg := grown_row W6 (w.heap.size + 1) #[.int .i64 R.1, .slice a0 R.2.oL.length c0, .slice a1 R.2.oH.length c1, natV R.2.uL, natV R.2.uH, natV R.2.steps]
        have bF : BoxC (W6.setRow (w.heap.size + 1) #[.int .i64 R.1, .slice a0 R.2.oL.length c0, .slice a1 R.2.oH.length c1, natV R.2.uL, natV R.2.uH, natV R.2.steps]) (w.heap.size + 1) #[.int .i64 R.1, .slice a0 R.2.oL.length c0, .slice a1 R.2.oH.length c1, natV R.2.uL, natV R.2.uH, natV R.2.steps] 27 := setRow_heap W6 _ _ _ _ _ bR
        have hBF := below_row (hB5.trans (hB6.mono hB5.size)) (Nat.le_succ w.heap.size) #[.int .i64 R.1, .slice a0 R.2.oL.length c0, .slice a1 R.2.oH.length c1, natV R.2.uL, natV R.2.uH, natV R.2.steps]
        replace hS := hS.block (hg.block D hS.lt (by simp; omega))
        replace r0 := r0.kept hg (own_far r0 hR0l)
        replace r1 := r1.kept hg (own_far r1 hR0l)
        replace r2 := r2.kept hg (own_far r2 hR0l)
        replace r3 := r3.kept hg (own_far r3 hR0l)
        refine hK.out _ _ hS (fun hHeld => ?_)
        clear hg bR hK KK hHeld hB6
        generalize W6.setRow (w.heap.size + 1) #[.int .i64 R.1, .slice a0 R.2.oL.length c0, .slice a1 R.2.oH.length c1, natV R.2.uL, natV R.2.uH, natV R.2.steps] = WF at *
        have hput : ∀ (o : Oper) (A : Act) (v : Value), o.dst = none → A.put o.dst v = A := fun o A v e => by rw [e]; rfl
        rw [hput _ _ _ rfl]
        clear hput
        refine wpAnyH_ready (rs := [7]) (by kernel_rfl) (by simp) ?_
        refine AllReadyH.cons rfl (fun KK hK => ?_) AllReadyH.nil
        go_simp
        have bG := BoxC.new WF #[.slice a2 R.2.lw.length c2, .slice a3 R.2.hw.length c3] 25
        have hbG : Below WF.heap.size WF (WF.alloc (.cells #[.slice a2 R.2.lw.length c2, .slice a3 R.2.hw.length c3] 25)) := (Below.refl _ _).alloc (Nat.le_refl _) _
        replace hS := hS.below hbG
        replace hBF := hBF.trans (hbG.mono hBF.size)
        replace bF := bF.below hbG
        replace r0 := r0.alloc (.cells #[.slice a2 R.2.lw.length c2, .slice a3 R.2.hw.length c3] 25)
        replace r1 := r1.alloc (.cells #[.slice a2 R.2.lw.length c2, .slice a3 R.2.hw.length c3] 25)
        replace r2 := r2.alloc (.cells #[.slice a2 R.2.lw.length c2, .slice a3 R.2.hw.length c3] 25)
        replace r3 := r3.alloc (.cells #[.slice a2 R.2.lw.length c2, .slice a3 R.2.hw.length c3] 25)
        refine hK.out _ _ hS (fun hHeld => ?_)
        clear hK KK hHeld hbG
        generalize WF.alloc (.cells #[.slice a2 R.2.lw.length c2, .slice a3 R.2.hw.length c3] 25) = W7 at *
        generalize WF.heap.size = G at *
        refine tkd (i := 9) (v := .slice (some ⟨G, 0, none⟩) 2 2) rfl rfl (by kernel_rfl) (by kernel_rfl) (by kernel_rfl) (fun _ _ _ h => h) (Or.inl ⟨by rfl, fun w hSw => by skip; go_simp⟩) hS ?_
        simp only [List.setIfInBounds_toArray, List.set_cons_zero, List.set_cons_succ]
        refine tkd (i := 10) (v := .int .i64 0) rfl rfl (by kernel_rfl) (by kernel_rfl) (by kernel_rfl) (fun _ _ _ h => h) (Or.inl ⟨by rfl, fun w hSw => by skip; go_simp⟩) hS ?_
        simp only [List.setIfInBounds_toArray, List.set_cons_zero, List.set_cons_succ]
        refine wpAnyH_done (by kernel_rfl) ?_ _
        go_wp2
        refine bodyPost_ret (v := .tuple #[.agg #[.int .i64 R.1, .slice a0 R.2.oL.length c0, .slice a1 R.2.oH.length c1, natV R.2.uL, natV R.2.uH, natV R.2.steps], .slice (some ⟨G, 0, none⟩) 2 2, .int .i64 0]) (runRes _ bF) rfl ?_
        exact ⟨hBF, _, _, _, _, G, rfl, bG.cell 0 rfl, bG.cell 1 rfl, ints_own r0, ints_own r1, ints_own r2, ints_own r3⟩
  · skip
    go_simp
    have bD := BoxC.new W #[.int .i64 0, .slice none 0 0, .slice none 0 0, .int .i64 0, .int .i64 0, .int .i64 0, .slice none 0 0, .slice none 0 0, .int .i64 0, .slice none 0 0, .int .i64 0, .int .i64 0, .int .i64 0, .int .i64 0, .int .i64 0, .int .i64 0, .int .i64 0, .int .i64 0, .int .i64 0, .slice none 0 0, .slice none 0 0, .slice none 0 0] 42
    have hb : Below W.heap.size W (W.alloc (.cells #[.int .i64 0, .slice none 0 0, .slice none 0 0, .int .i64 0, .int .i64 0, .int .i64 0, .slice none 0 0, .slice none 0 0, .int .i64 0, .slice none 0 0, .int .i64 0, .int .i64 0, .int .i64 0, .int .i64 0, .int .i64 0, .int .i64 0, .int .i64 0, .int .i64 0, .int .i64 0, .slice none 0 0, .slice none 0 0, .slice none 0 0] 42)) := (Below.refl _ _).alloc (Nat.le_refl _) _
    have Dl := bD.lt
    generalize W.alloc (.cells #[.int .i64 0, .slice none 0 0, .slice none 0 0, .int .i64 0, .int .i64 0, .int .i64 0, .slice none 0 0, .slice none 0 0, .int .i64 0, .slice none 0 0, .int .i64 0, .int .i64 0, .int .i64 0, .int .i64 0, .int .i64 0, .int .i64 0, .int .i64 0, .int .i64 0, .int .i64 0, .slice none 0 0, .slice none 0 0, .slice none 0 0] 42) = V1 at *
    have hND : W0.heap.size ≤ W.heap.size := hS.size
    replace hS := hS.trans (hb.mono hS.size)
    clear hb 
    generalize W.heap.size = D at *
    refine hK.out _ _ hS (fun hHeld => ?_)
    clear hK KK hHeld
    refine wpAnyH_ready (rs := [5, 8]) (by kernel_rfl) (by simp) ?_
    refine (AllReadyH.cons rfl (fun KK hK => ?_) (AllReadyH.cons rfl (fun KK hK => ?_) AllReadyH.nil))
    · skip
      obtain ⟨V2, hrV, rl, hgV⟩ := run_make_full (P := Try.prog) V1 W0.heap.size 25 2 i0 (.int .i64 0) 1 Try.underlying25 hi hz0 hz1 .i64 .i64 l (by rw [hz2]; omega) (by unfold maxLen; omega) hS.size
      go_simp
      have hb : Below V1.heap.size V1 V2 := ⟨hgV.os, hgV.tape, hgV.output, hgV.size, fun k hk => hgV.block k hk (by simp)⟩
      have gll := (rl.lt V1.heap.size rfl).2
      have h_DL : D ≠ V1.heap.size := Nat.ne_of_lt Dl
      replace bD := bD.below hb
      replace Dl := Nat.lt_of_lt_of_le Dl hb.size
      have hNgl : W0.heap.size ≤ V1.heap.size := hS.size
      replace hS := hS.trans (hb.mono hS.size)
      clear hb hrV hgV
      generalize V1.heap.size = gl at *
      refine hK.out _ _ hS (fun hHeld => ?_)
      clear hK KK hHeld
      refine wpAnyH_ready (rs := [8]) (by kernel_rfl) (by simp) ?_
      refine (AllReadyH.cons rfl (fun KK hK => ?_) AllReadyH.nil)
      obtain ⟨V3, hrV, rh, hgV⟩ := run_make_full (P := Try.prog) V2 W0.heap.size 25 2 i0 (.int .i64 0) 1 Try.underlying25 hi hz0 hz1 .i64 .i64 h (by rw [hz2]; omega) (by unfold maxLen; omega) hS.size
      go_simp
      have hb : Below V2.heap.size V2 V3 := ⟨hgV.os, hgV.tape, hgV.output, hgV.size, fun k hk => hgV.block k hk (by simp)⟩
      have ghl := (rh.lt V2.heap.size rfl).2
      have h_DH : D ≠ V2.heap.size := Nat.ne_of_lt Dl
      replace bD := bD.below hb
      replace Dl := Nat.lt_of_lt_of_le Dl hb.size
      have h_lH : gl ≠ V2.heap.size := Nat.ne_of_lt gll
      replace rl := rl.kept (grown_of_below hb) (.inr (by intro e; cases e))
      replace gll := Nat.lt_of_lt_of_le gll hb.size
      have hNgh : W0.heap.size ≤ V2.heap.size := hS.size
      replace hS := hS.trans (hb.mono hS.size)
      clear hb hrV hgV
      generalize V2.heap.size = gh at *
      refine hK.out _ _ hS (fun hHeld => ?_)
      clear hK KK hHeld
      refine tkd (i := 9) (v := .agg #[.int .i64 0, .slice none 0 0, .slice none 0 0, .int .i64 0, .int .i64 0, .int .i64 0, .slice a iL.length cl, .slice b iH.length ch, .int .i64 fuel, .slice ca code.length cc, .int .i64 0, .int .i64 0, .int .i64 0, .int .i64 0, .int .i64 0, .int .i64 0, .int .i64 0, .int .i64 0, .int .i64 0, .slice (some ⟨gl, 0, none⟩) l l, .slice (some ⟨gh, 0, none⟩) h h, .slice none 0 0] ) rfl rfl (by kernel_rfl) (by kernel_rfl) (by kernel_rfl) (fun _ _ _ h => h) (Or.inl ⟨by rfl, fun w hSw => by skip; go_simp⟩) hS ?_
      simp only [List.setIfInBounds_toArray, List.set_cons_zero, List.set_cons_succ]
      have hlh : gl ≠ gh := h_lH
      have hlD : gl ≠ D := Ne.symm h_DL
      have hhD : gh ≠ D := Ne.symm h_DH
      rw [made_is] at rl rh
      have bE : BoxC (V3.setRow D #[.int .i64 0, .slice none 0 0, .slice none 0 0, .int .i64 0, .int .i64 0, .int .i64 0, .slice a iL.length cl, .slice b iH.length ch, .int .i64 fuel, .slice ca code.length cc, .int .i64 0, .int .i64 0, .int .i64 0, .int .i64 0, .int .i64 0, .int .i64 0, .int .i64 0, .int .i64 0, .int .i64 0, .slice (some ⟨gl, 0, none⟩) l l, .slice (some ⟨gh, 0, none⟩) h h, .slice none 0 0]) D #[.int .i64 0, .slice none 0 0, .slice none 0 0, .int .i64 0, .int .i64 0, .int .i64 0, .slice a iL.length cl, .slice b iH.length ch, .int .i64 fuel, .slice ca code.length cc, .int .i64 0, .int .i64 0, .int .i64 0, .int .i64 0, .int .i64 0, .int .i64 0, .int .i64 0, .int .i64 0, .int .i64 0, .slice (some ⟨gl, 0, none⟩) l l, .slice (some ⟨gh, 0, none⟩) h h, .slice none 0 0] 42 := setRow_heap V3 D _ _ _ _ bD
      have hSE := below_row hS hND #[.int .i64 0, .slice none 0 0, .slice none 0 0, .int .i64 0, .int .i64 0, .int .i64 0, .slice a iL.length cl, .slice b iH.length ch, .int .i64 fuel, .slice ca code.length cc, .int .i64 0, .int .i64 0, .int .i64 0, .int .i64 0, .int .i64 0, .int .i64 0, .int .i64 0, .int .i64 0, .int .i64 0, .slice (some ⟨gl, 0, none⟩) l l, .slice (some ⟨gh, 0, none⟩) h h, .slice none 0 0]
      replace rl := rl.kept (grown_row V3 D #[.int .i64 0, .slice none 0 0, .slice none 0 0, .int .i64 0, .int .i64 0, .int .i64 0, .slice a iL.length cl, .slice b iH.length ch, .int .i64 fuel, .slice ca code.length cc, .int .i64 0, .int .i64 0, .int .i64 0, .int .i64 0, .int .i64 0, .int .i64 0, .int .i64 0, .int .i64 0, .int .i64 0, .slice (some ⟨gl, 0, none⟩) l l, .slice (some ⟨gh, 0, none⟩) h h, .slice none 0 0]) (.inr (by intro e; exact hlD (Option.some.inj e)))
      replace rh := rh.kept (grown_row V3 D #[.int .i64 0, .slice none 0 0, .slice none 0 0, .int .i64 0, .int .i64 0, .int .i64 0, .slice a iL.length cl, .slice b iH.length ch, .int .i64 fuel, .slice ca code.length cc, .int .i64 0, .int .i64 0, .int .i64 0, .int .i64 0, .int .i64 0, .int .i64 0, .int .i64 0, .int .i64 0, .int .i64 0, .slice (some ⟨gl, 0, none⟩) l l, .slice (some ⟨gh, 0, none⟩) h h, .slice none 0 0]) (.inr (by intro e; exact hhD (Option.some.inj e)))
      refine wpAnyH_ready (rs := [11]) (by kernel_rfl) (by simp) ?_
      refine AllReadyH.cons rfl (fun KK hK => ?_) AllReadyH.nil
      refine step_store_row (by rfl) 42 (.tmp 13) (.tmp 38) (by rfl) D #[.int .i64 0, .slice none 0 0, .slice none 0 0, .int .i64 0, .int .i64 0, .int .i64 0, .slice a iL.length cl, .slice b iH.length ch, .int .i64 fuel, .slice ca code.length cc, .int .i64 0, .int .i64 0, .int .i64 0, .int .i64 0, .int .i64 0, .int .i64 0, .int .i64 0, .int .i64 0, .int .i64 0, .slice (some ⟨gl, 0, none⟩) l l, .slice (some ⟨gh, 0, none⟩) h h, .slice none 0 0] (by rfl) (by rfl) 42 _ bD (by kernel_rfl) (by rfl) (by kernel_rfl) ?_
      refine hK.out _ _ hSE (fun hHeld => ?_)
      clear hK KK hHeld bD hS
      refine wpAnyH_done (by kernel_rfl) ?_ _
      generalize V3.setRow D #[.int .i64 0, .slice none 0 0, .slice none 0 0, .int .i64 0, .int .i64 0, .int .i64 0, .slice a iL.length cl, .slice b iH.length ch, .int .i64 fuel, .slice ca code.length cc, .int .i64 0, .int .i64 0, .int .i64 0, .int .i64 0, .int .i64 0, .int .i64 0, .int .i64 0, .int .i64 0, .int .i64 0, .slice (some ⟨gl, 0, none⟩) l l, .slice (some ⟨gh, 0, none⟩) h h, .slice none 0 0] = WE at *
      have hMS := MS.start hSE bE hND rl rh hlh hlD hhD
      have hT := oThrough code hMS (Inv.start iL iH code.length l h) (Nat.zero_le _) HF.out.1 (HLs.out.below hB5) (HHs.out.below hB5) (Nat.le_refl _) HF.out.2.1 HF.out.2.2.1 HF.out.2.2.2.1 (HC.out.below hB5) HF.out.2.2.2.2
      clear rl rh bE hMS hSE hlh hlD hhD hNgl hNgh gll ghl
      dsimp only at hT
      rw [show fuel - (s0 l h).steps = fuel from rfl, HR.out] at hT
      go_wp2_with (fail)
      refine hT.mono ?_
      rintro e w6 ⟨rfl, vs', w5, hM5, hw6⟩
      have hE : Ends D R (vs' 0) (vs' 1) (vs' 2) (vs' 3) w6 := by rw [hw6]; exact hM5.ends
      have hB6 : Below W0.heap.size W0 w6 := by rw [hw6]; exact hM5.old.setCell hND _
      have r0 : w6.ownsRow W0.heap.size 2 1 (vs' 0) R.2.oL.length (R.2.oL.map intV) := by rw [hw6]; exact hM5.own0.kept (grown_set _ _ _ _) (.inr (hM5.mem.far 0))
      have r1 : w6.ownsRow W0.heap.size 2 1 (vs' 1) R.2.oH.length (R.2.oH.map intV) := by rw [hw6]; exact hM5.own1.kept (grown_set _ _ _ _) (.inr (hM5.mem.far 1))
      have r2 : w6.ownsRow W0.heap.size 2 1 (vs' 2) R.2.lw.length (R.2.lw.map intV) := by rw [hw6]; exact hM5.own2.kept (grown_set _ _ _ _) (.inr (hM5.mem.far 2))
      have r3 : w6.ownsRow W0.heap.size 2 1 (vs' 3) R.2.hw.length (R.2.hw.map intV) := by rw [hw6]; exact hM5.own3.kept (grown_set _ _ _ _) (.inr (hM5.mem.far 3))
      obtain ⟨a0, c0, e0, _⟩ := ints_own r0
      obtain ⟨a1, c1, e1, _⟩ := ints_own r1
      obtain ⟨a2, c2, e2, _⟩ := ints_own r2
      obtain ⟨a3, c3, e3, _⟩ := ints_own r3
      rw [e0, e1, e2, e3] at hE
      rw [e0] at r0
      rw [e1] at r1
      rw [e2] at r2
      rw [e3] at r3
      clear hM5 hw6 e0 e1 e2 e3 hT
      have hS := hE.below (Below.refl _ _).drew
      replace hB6 := hB6.drew
      replace r0 := r0.drew
      replace r1 := r1.drew
      replace r2 := r2.drew
      replace r3 := r3.drew
      go_wp2
      refine wp_region_held_drew (S := Ends D R (.slice a0 R.2.oL.length c0) (.slice a1 R.2.oH.length c1) (.slice a2 R.2.lw.length c2) (.slice a3 R.2.hw.length c3)) (by kernel_rfl) hS (fun hHeld => ?_)
      clear hHeld hE
      generalize w6.drew = W6 at *
      refine tkd (i := 0) (v := .pointer (some ⟨D, 0, none⟩)) rfl rfl (by kernel_rfl) (by kernel_rfl) (by kernel_rfl) (fun _ _ _ h => h) (Or.inl ⟨by rfl, fun w hSw => by skip; go_simp⟩) hS ?_
      simp only [List.setIfInBounds_toArray, List.set_cons_zero, List.set_cons_succ]
      refine tkd (i := 1) (v := .pointer (some ⟨D, 0, none⟩)) rfl rfl (by kernel_rfl) (by kernel_rfl) (by kernel_rfl) (fun _ _ _ h => h) (Or.inl ⟨by rfl, fun w hSw => by skip; go_simp⟩) hS ?_
      simp only [List.setIfInBounds_toArray, List.set_cons_zero, List.set_cons_succ]
      refine tkd (i := 2) (v := .agg #[.int .i64 R.1, .slice a0 R.2.oL.length c0, .slice a1 R.2.oH.length c1, natV R.2.uL, natV R.2.uH, natV R.2.steps] ) rfl rfl (by kernel_rfl) (by kernel_rfl) (by kernel_rfl) (fun _ _ _ h => h) (Or.inl ⟨by rfl, fun w hSw => by obtain ⟨z0, z1, z2, z3, z4, z5, z6, z7⟩ := hSw; go_simp⟩) hS ?_
      simp only [List.setIfInBounds_toArray, List.set_cons_zero, List.set_cons_succ]
      refine tkd (i := 3) (v := .pointer (some ⟨D, 19, none⟩)) rfl rfl (by kernel_rfl) (by kernel_rfl) (by kernel_rfl) (fun _ _ _ h => h) (Or.inl ⟨by rfl, fun w hSw => by skip; go_simp⟩) hS ?_
      simp only [List.setIfInBounds_toArray, List.set_cons_zero, List.set_cons_succ]
      refine tkd (i := 4) (v := .slice a2 R.2.lw.length c2) rfl rfl (by kernel_rfl) (by kernel_rfl) (by kernel_rfl) (fun _ _ _ h => h) (Or.inl ⟨by rfl, fun w hSw => by have z := hSw.c19; go_simp⟩) hS ?_
      simp only [List.setIfInBounds_toArray, List.set_cons_zero, List.set_cons_succ]
      refine tkd (i := 5) (v := .pointer (some ⟨D, 20, none⟩)) rfl rfl (by kernel_rfl) (by kernel_rfl) (by kernel_rfl) (fun _ _ _ h => h) (Or.inl ⟨by rfl, fun w hSw => by skip; go_simp⟩) hS ?_
      simp only [List.setIfInBounds_toArray, List.set_cons_zero, List.set_cons_succ]
      refine tkd (i := 6) (v := .slice a3 R.2.hw.length c3) rfl rfl (by kernel_rfl) (by kernel_rfl) (by kernel_rfl) (fun _ _ _ h => h) (Or.inl ⟨by rfl, fun w hSw => by have z := hSw.c20; go_simp⟩) hS ?_
      simp only [List.setIfInBounds_toArray, List.set_cons_zero, List.set_cons_succ]
      have hR0l := hR0.lt
      refine wpAnyH_ready (rs := [7, 8]) (by kernel_rfl) (by simp) ?_
      refine (AllReadyH.cons rfl (fun KK hK => ?_) (AllReadyH.cons rfl (fun KK hK => ?_) AllReadyH.nil))
      · skip
        go_simp
        have bG := BoxC.new W6 #[.slice a2 R.2.lw.length c2, .slice a3 R.2.hw.length c3] 25
        have hbG : Below W6.heap.size W6 (W6.alloc (.cells #[.slice a2 R.2.lw.length c2, .slice a3 R.2.hw.length c3] 25)) := (Below.refl _ _).alloc (Nat.le_refl _) _
        replace hS := hS.below hbG
        have hGB : W6.heap.size ≠ w.heap.size + 1 := by have h2 := hB6.size; omega
        replace hB6 := hB6.trans (hbG.mono hB6.size)
        replace r0 := r0.alloc (.cells #[.slice a2 R.2.lw.length c2, .slice a3 R.2.hw.length c3] 25)
        replace r1 := r1.alloc (.cells #[.slice a2 R.2.lw.length c2, .slice a3 R.2.hw.length c3] 25)
        replace r2 := r2.alloc (.cells #[.slice a2 R.2.lw.length c2, .slice a3 R.2.hw.length c3] 25)
        replace r3 := r3.alloc (.cells #[.slice a2 R.2.lw.length c2, .slice a3 R.2.hw.length c3] 25)
        refine hK.out _ _ hS (fun hHeld => ?_)
        clear hK KK hHeld hbG
        generalize W6.alloc (.cells #[.slice a2 R.2.lw.length c2, .slice a3 R.2.hw.length c3] 25) = W7 at *
        generalize W6.heap.size = G at *
        refine wpAnyH_ready (rs := [8]) (by kernel_rfl) (by simp) ?_
        refine AllReadyH.cons rfl (fun KK hK => ?_) AllReadyH.nil
        have bR := hR0.below hB6
        refine step_store_row (by rfl) 27 (.tmp 8) (.tmp 44) (by rfl) (w.heap.size + 1) #[.int .i64 R.1, .slice a0 R.2.oL.length c0, .slice a1 R.2.oH.length c1, natV R.2.uL, natV R.2.uH, natV R.2.steps] (by rfl) (by rfl) 27 _ bR (by kernel_rfl) (by rfl) (by kernel_rfl) ?_
        have hg := grown_row W7 (w.heap.size + 1) #[.int .i64 R.1, .slice a0 R.2.oL.length c0, .slice a1 R.2.oH.length c1, natV R.2.uL, natV R.2.uH, natV R.2.steps]
        have bF : BoxC (W7.setRow (w.heap.size + 1) #[.int .i64 R.1, .slice a0 R.2.oL.length c0, .slice a1 R.2.oH.length c1, natV R.2.uL, natV R.2.uH, natV R.2.steps]) (w.heap.size + 1) #[.int .i64 R.1, .slice a0 R.2.oL.length c0, .slice a1 R.2.oH.length c1, natV R.2.uL, natV R.2.uH, natV R.2.steps] 27 := setRow_heap W7 _ _ _ _ _ bR
        have hBF := below_row (hB5.trans (hB6.mono hB5.size)) (Nat.le_succ w.heap.size) #[.int .i64 R.1, .slice a0 R.2.oL.length c0, .slice a1 R.2.oH.length c1, natV R.2.uL, natV R.2.uH, natV R.2.steps]
        replace bG := bG.grown hg (by simp; omega)
        replace hS := hS.block (hg.block D hS.lt (by simp; omega))
        replace r0 := r0.kept hg (own_far r0 hR0l)
        replace r1 := r1.kept hg (own_far r1 hR0l)
        replace r2 := r2.kept hg (own_far r2 hR0l)
        replace r3 := r3.kept hg (own_far r3 hR0l)
        refine hK.out _ _ hS (fun hHeld => ?_)
        clear hg bR hK KK hHeld hB6
        generalize W7.setRow (w.heap.size + 1) #[.int .i64 R.1, .slice a0 R.2.oL.length c0, .slice a1 R.2.oH.length c1, natV R.2.uL, natV R.2.uH, natV R.2.steps] = WF at *
        have hput : ∀ (o : Oper) (A : Act) (v : Value), o.dst = none → A.put o.dst v = A := fun o A v e => by rw [e]; rfl
        rw [hput _ _ _ rfl]
        clear hput
        refine tkd (i := 9) (v := .slice (some ⟨G, 0, none⟩) 2 2) rfl rfl (by kernel_rfl) (by kernel_rfl) (by kernel_rfl) (fun _ _ _ h => h) (Or.inl ⟨by rfl, fun w hSw => by skip; go_simp⟩) hS ?_
        simp only [List.setIfInBounds_toArray, List.set_cons_zero, List.set_cons_succ]
        refine tkd (i := 10) (v := .int .i64 0) rfl rfl (by kernel_rfl) (by kernel_rfl) (by kernel_rfl) (fun _ _ _ h => h) (Or.inl ⟨by rfl, fun w hSw => by skip; go_simp⟩) hS ?_
        simp only [List.setIfInBounds_toArray, List.set_cons_zero, List.set_cons_succ]
        refine wpAnyH_done (by kernel_rfl) ?_ _
        go_wp2
        refine bodyPost_ret (v := .tuple #[.agg #[.int .i64 R.1, .slice a0 R.2.oL.length c0, .slice a1 R.2.oH.length c1, natV R.2.uL, natV R.2.uH, natV R.2.steps], .slice (some ⟨G, 0, none⟩) 2 2, .int .i64 0]) (runRes _ bF) rfl ?_
        exact ⟨hBF, _, _, _, _, G, rfl, bG.cell 0 rfl, bG.cell 1 rfl, ints_own r0, ints_own r1, ints_own r2, ints_own r3⟩
      · skip
        have bR := hR0.below hB6
        refine step_store_row (by rfl) 27 (.tmp 8) (.tmp 44) (by rfl) (w.heap.size + 1) #[.int .i64 R.1, .slice a0 R.2.oL.length c0, .slice a1 R.2.oH.length c1, natV R.2.uL, natV R.2.uH, natV R.2.steps] (by rfl) (by rfl) 27 _ bR (by kernel_rfl) (by rfl) (by kernel_rfl) ?_
        have hg := grown_row W6 (w.heap.size + 1) #[.int .i64 R.1, .slice a0 R.2.oL.length c0, .slice a1 R.2.oH.length c1, natV R.2.uL, natV R.2.uH, natV R.2.steps]
        have bF : BoxC (W6.setRow (w.heap.size + 1) #[.int .i64 R.1, .slice a0 R.2.oL.length c0, .slice a1 R.2.oH.length c1, natV R.2.uL, natV R.2.uH, natV R.2.steps]) (w.heap.size + 1) #[.int .i64 R.1, .slice a0 R.2.oL.length c0, .slice a1 R.2.oH.length c1, natV R.2.uL, natV R.2.uH, natV R.2.steps] 27 := setRow_heap W6 _ _ _ _ _ bR
        have hBF := below_row (hB5.trans (hB6.mono hB5.size)) (Nat.le_succ w.heap.size) #[.int .i64 R.1, .slice a0 R.2.oL.length c0, .slice a1 R.2.oH.length c1, natV R.2.uL, natV R.2.uH, natV R.2.steps]
        replace hS := hS.block (hg.block D hS.lt (by simp; omega))
        replace r0 := r0.kept hg (own_far r0 hR0l)
        replace r1 := r1.kept hg (own_far r1 hR0l)
        replace r2 := r2.kept hg (own_far r2 hR0l)
        replace r3 := r3.kept hg (own_far r3 hR0l)
        refine hK.out _ _ hS (fun hHeld => ?_)
        clear hg bR hK KK hHeld hB6
        generalize W6.setRow (w.heap.size + 1) #[.int .i64 R.1, .slice a0 R.2.oL.length c0, .slice a1 R.2.oH.length c1, natV R.2.uL, natV R.2.uH, natV R.2.steps] = WF at *
        have hput : ∀ (o : Oper) (A : Act) (v : Value), o.dst = none → A.put o.dst v = A := fun o A v e => by rw [e]; rfl
        rw [hput _ _ _ rfl]
        clear hput
        refine wpAnyH_ready (rs := [7]) (by kernel_rfl) (by simp) ?_
        refine AllReadyH.cons rfl (fun KK hK => ?_) AllReadyH.nil
        go_simp
        have bG := BoxC.new WF #[.slice a2 R.2.lw.length c2, .slice a3 R.2.hw.length c3] 25
        have hbG : Below WF.heap.size WF (WF.alloc (.cells #[.slice a2 R.2.lw.length c2, .slice a3 R.2.hw.length c3] 25)) := (Below.refl _ _).alloc (Nat.le_refl _) _
        replace hS := hS.below hbG
        replace hBF := hBF.trans (hbG.mono hBF.size)
        replace bF := bF.below hbG
        replace r0 := r0.alloc (.cells #[.slice a2 R.2.lw.length c2, .slice a3 R.2.hw.length c3] 25)
        replace r1 := r1.alloc (.cells #[.slice a2 R.2.lw.length c2, .slice a3 R.2.hw.length c3] 25)
        replace r2 := r2.alloc (.cells #[.slice a2 R.2.lw.length c2, .slice a3 R.2.hw.length c3] 25)
        replace r3 := r3.alloc (.cells #[.slice a2 R.2.lw.length c2, .slice a3 R.2.hw.length c3] 25)
        refine hK.out _ _ hS (fun hHeld => ?_)
        clear hK KK hHeld hbG
        generalize WF.alloc (.cells #[.slice a2 R.2.lw.length c2, .slice a3 R.2.hw.length c3] 25) = W7 at *
        generalize WF.heap.size = G at *
        refine tkd (i := 9) (v := .slice (some ⟨G, 0, none⟩) 2 2) rfl rfl (by kernel_rfl) (by kernel_rfl) (by kernel_rfl) (fun _ _ _ h => h) (Or.inl ⟨by rfl, fun w hSw => by skip; go_simp⟩) hS ?_
        simp only [List.setIfInBounds_toArray, List.set_cons_zero, List.set_cons_succ]
        refine tkd (i := 10) (v := .int .i64 0) rfl rfl (by kernel_rfl) (by kernel_rfl) (by kernel_rfl) (fun _ _ _ h => h) (Or.inl ⟨by rfl, fun w hSw => by skip; go_simp⟩) hS ?_
        simp only [List.setIfInBounds_toArray, List.set_cons_zero, List.set_cons_succ]
        refine wpAnyH_done (by kernel_rfl) ?_ _
        go_wp2
        refine bodyPost_ret (v := .tuple #[.agg #[.int .i64 R.1, .slice a0 R.2.oL.length c0, .slice a1 R.2.oH.length c1, natV R.2.uL, natV R.2.uH, natV R.2.steps], .slice (some ⟨G, 0, none⟩) 2 2, .int .i64 0]) (runRes _ bF) rfl ?_
        exact ⟨hBF, _, _, _, _, G, rfl, bG.cell 0 rfl, bG.cell 1 rfl, ints_own r0, ints_own r1, ints_own r2, ints_own r3⟩
    · skip
      obtain ⟨V2, hrV, rh, hgV⟩ := run_make_full (P := Try.prog) V1 W0.heap.size 25 2 i0 (.int .i64 0) 1 Try.underlying25 hi hz0 hz1 .i64 .i64 h (by rw [hz2]; omega) (by unfold maxLen; omega) hS.size
      go_simp
      have hb : Below V1.heap.size V1 V2 := ⟨hgV.os, hgV.tape, hgV.output, hgV.size, fun k hk => hgV.block k hk (by simp)⟩
      have ghl := (rh.lt V1.heap.size rfl).2
      have h_DH : D ≠ V1.heap.size := Nat.ne_of_lt Dl
      replace bD := bD.below hb
      replace Dl := Nat.lt_of_lt_of_le Dl hb.size
      have hNgh : W0.heap.size ≤ V1.heap.size := hS.size
      replace hS := hS.trans (hb.mono hS.size)
      clear hb hrV hgV
      generalize V1.heap.size = gh at *
      refine hK.out _ _ hS (fun hHeld => ?_)
      clear hK KK hHeld
      refine wpAnyH_ready (rs := [5]) (by kernel_rfl) (by simp) ?_
      refine (AllReadyH.cons rfl (fun KK hK => ?_) AllReadyH.nil)
      obtain ⟨V3, hrV, rl, hgV⟩ := run_make_full (P := Try.prog) V2 W0.heap.size 25 2 i0 (.int .i64 0) 1 Try.underlying25 hi hz0 hz1 .i64 .i64 l (by rw [hz2]; omega) (by unfold maxLen; omega) hS.size
      go_simp
      have hb : Below V2.heap.size V2 V3 := ⟨hgV.os, hgV.tape, hgV.output, hgV.size, fun k hk => hgV.block k hk (by simp)⟩
      have gll := (rl.lt V2.heap.size rfl).2
      have h_DL : D ≠ V2.heap.size := Nat.ne_of_lt Dl
      replace bD := bD.below hb
      replace Dl := Nat.lt_of_lt_of_le Dl hb.size
      have h_hL : gh ≠ V2.heap.size := Nat.ne_of_lt ghl
      replace rh := rh.kept (grown_of_below hb) (.inr (by intro e; cases e))
      replace ghl := Nat.lt_of_lt_of_le ghl hb.size
      have hNgl : W0.heap.size ≤ V2.heap.size := hS.size
      replace hS := hS.trans (hb.mono hS.size)
      clear hb hrV hgV
      generalize V2.heap.size = gl at *
      refine hK.out _ _ hS (fun hHeld => ?_)
      clear hK KK hHeld
      refine tkd (i := 9) (v := .agg #[.int .i64 0, .slice none 0 0, .slice none 0 0, .int .i64 0, .int .i64 0, .int .i64 0, .slice a iL.length cl, .slice b iH.length ch, .int .i64 fuel, .slice ca code.length cc, .int .i64 0, .int .i64 0, .int .i64 0, .int .i64 0, .int .i64 0, .int .i64 0, .int .i64 0, .int .i64 0, .int .i64 0, .slice (some ⟨gl, 0, none⟩) l l, .slice (some ⟨gh, 0, none⟩) h h, .slice none 0 0] ) rfl rfl (by kernel_rfl) (by kernel_rfl) (by kernel_rfl) (fun _ _ _ h => h) (Or.inl ⟨by rfl, fun w hSw => by skip; go_simp⟩) hS ?_
      simp only [List.setIfInBounds_toArray, List.set_cons_zero, List.set_cons_succ]
      have hlh : gl ≠ gh := Ne.symm h_hL
      have hlD : gl ≠ D := Ne.symm h_DL
      have hhD : gh ≠ D := Ne.symm h_DH
      rw [made_is] at rl rh
      have bE : BoxC (V3.setRow D #[.int .i64 0, .slice none 0 0, .slice none 0 0, .int .i64 0, .int .i64 0, .int .i64 0, .slice a iL.length cl, .slice b iH.length ch, .int .i64 fuel, .slice ca code.length cc, .int .i64 0, .int .i64 0, .int .i64 0, .int .i64 0, .int .i64 0, .int .i64 0, .int .i64 0, .int .i64 0, .int .i64 0, .slice (some ⟨gl, 0, none⟩) l l, .slice (some ⟨gh, 0, none⟩) h h, .slice none 0 0]) D #[.int .i64 0, .slice none 0 0, .slice none 0 0, .int .i64 0, .int .i64 0, .int .i64 0, .slice a iL.length cl, .slice b iH.length ch, .int .i64 fuel, .slice ca code.length cc, .int .i64 0, .int .i64 0, .int .i64 0, .int .i64 0, .int .i64 0, .int .i64 0, .int .i64 0, .int .i64 0, .int .i64 0, .slice (some ⟨gl, 0, none⟩) l l, .slice (some ⟨gh, 0, none⟩) h h, .slice none 0 0] 42 := setRow_heap V3 D _ _ _ _ bD
      have hSE := below_row hS hND #[.int .i64 0, .slice none 0 0, .slice none 0 0, .int .i64 0, .int .i64 0, .int .i64 0, .slice a iL.length cl, .slice b iH.length ch, .int .i64 fuel, .slice ca code.length cc, .int .i64 0, .int .i64 0, .int .i64 0, .int .i64 0, .int .i64 0, .int .i64 0, .int .i64 0, .int .i64 0, .int .i64 0, .slice (some ⟨gl, 0, none⟩) l l, .slice (some ⟨gh, 0, none⟩) h h, .slice none 0 0]
      replace rl := rl.kept (grown_row V3 D #[.int .i64 0, .slice none 0 0, .slice none 0 0, .int .i64 0, .int .i64 0, .int .i64 0, .slice a iL.length cl, .slice b iH.length ch, .int .i64 fuel, .slice ca code.length cc, .int .i64 0, .int .i64 0, .int .i64 0, .int .i64 0, .int .i64 0, .int .i64 0, .int .i64 0, .int .i64 0, .int .i64 0, .slice (some ⟨gl, 0, none⟩) l l, .slice (some ⟨gh, 0, none⟩) h h, .slice none 0 0]) (.inr (by intro e; exact hlD (Option.some.inj e)))
      replace rh := rh.kept (grown_row V3 D #[.int .i64 0, .slice none 0 0, .slice none 0 0, .int .i64 0, .int .i64 0, .int .i64 0, .slice a iL.length cl, .slice b iH.length ch, .int .i64 fuel, .slice ca code.length cc, .int .i64 0, .int .i64 0, .int .i64 0, .int .i64 0, .int .i64 0, .int .i64 0, .int .i64 0, .int .i64 0, .int .i64 0, .slice (some ⟨gl, 0, none⟩) l l, .slice (some ⟨gh, 0, none⟩) h h, .slice none 0 0]) (.inr (by intro e; exact hhD (Option.some.inj e)))
      refine wpAnyH_ready (rs := [11]) (by kernel_rfl) (by simp) ?_
      refine AllReadyH.cons rfl (fun KK hK => ?_) AllReadyH.nil
      refine step_store_row (by rfl) 42 (.tmp 13) (.tmp 38) (by rfl) D #[.int .i64 0, .slice none 0 0, .slice none 0 0, .int .i64 0, .int .i64 0, .int .i64 0, .slice a iL.length cl, .slice b iH.length ch, .int .i64 fuel, .slice ca code.length cc, .int .i64 0, .int .i64 0, .int .i64 0, .int .i64 0, .int .i64 0, .int .i64 0, .int .i64 0, .int .i64 0, .int .i64 0, .slice (some ⟨gl, 0, none⟩) l l, .slice (some ⟨gh, 0, none⟩) h h, .slice none 0 0] (by rfl) (by rfl) 42 _ bD (by kernel_rfl) (by rfl) (by kernel_rfl) ?_
      refine hK.out _ _ hSE (fun hHeld => ?_)
      clear hK KK hHeld bD hS
      refine wpAnyH_done (by kernel_rfl) ?_ _
      generalize V3.setRow D #[.int .i64 0, .slice none 0 0, .slice none 0 0, .int .i64 0, .int .i64 0, .int .i64 0, .slice a iL.length cl, .slice b iH.length ch, .int .i64 fuel, .slice ca code.length cc, .int .i64 0, .int .i64 0, .int .i64 0, .int .i64 0, .int .i64 0, .int .i64 0, .int .i64 0, .int .i64 0, .int .i64 0, .slice (some ⟨gl, 0, none⟩) l l, .slice (some ⟨gh, 0, none⟩) h h, .slice none 0 0] = WE at *
      have hMS := MS.start hSE bE hND rl rh hlh hlD hhD
      have hT := oThrough code hMS (Inv.start iL iH code.length l h) (Nat.zero_le _) HF.out.1 (HLs.out.below hB5) (HHs.out.below hB5) (Nat.le_refl _) HF.out.2.1 HF.out.2.2.1 HF.out.2.2.2.1 (HC.out.below hB5) HF.out.2.2.2.2
      clear rl rh bE hMS hSE hlh hlD hhD hNgl hNgh gll ghl
      dsimp only at hT
      rw [show fuel - (s0 l h).steps = fuel from rfl, HR.out] at hT
      go_wp2_with (fail)
      refine hT.mono ?_
      rintro e w6 ⟨rfl, vs', w5, hM5, hw6⟩
      have hE : Ends D R (vs' 0) (vs' 1) (vs' 2) (vs' 3) w6 := by rw [hw6]; exact hM5.ends
      have hB6 : Below W0.heap.size W0 w6 := by rw [hw6]; exact hM5.old.setCell hND _
      have r0 : w6.ownsRow W0.heap.size 2 1 (vs' 0) R.2.oL.length (R.2.oL.map intV) := by rw [hw6]; exact hM5.own0.kept (grown_set _ _ _ _) (.inr (hM5.mem.far 0))
      have r1 : w6.ownsRow W0.heap.size 2 1 (vs' 1) R.2.oH.length (R.2.oH.map intV) := by rw [hw6]; exact hM5.own1.kept (grown_set _ _ _ _) (.inr (hM5.mem.far 1))
      have r2 : w6.ownsRow W0.heap.size 2 1 (vs' 2) R.2.lw.length (R.2.lw.map intV) := by rw [hw6]; exact hM5.own2.kept (grown_set _ _ _ _) (.inr (hM5.mem.far 2))
      have r3 : w6.ownsRow W0.heap.size 2 1 (vs' 3) R.2.hw.length (R.2.hw.map intV) := by rw [hw6]; exact hM5.own3.kept (grown_set _ _ _ _) (.inr (hM5.mem.far 3))
      obtain ⟨a0, c0, e0, _⟩ := ints_own r0
      obtain ⟨a1, c1, e1, _⟩ := ints_own r1
      obtain ⟨a2, c2, e2, _⟩ := ints_own r2
      obtain ⟨a3, c3, e3, _⟩ := ints_own r3
      rw [e0, e1, e2, e3] at hE
      rw [e0] at r0
      rw [e1] at r1
      rw [e2] at r2
      rw [e3] at r3
      clear hM5 hw6 e0 e1 e2 e3 hT
      have hS := hE.below (Below.refl _ _).drew
      replace hB6 := hB6.drew
      replace r0 := r0.drew
      replace r1 := r1.drew
      replace r2 := r2.drew
      replace r3 := r3.drew
      go_wp2
      refine wp_region_held_drew (S := Ends D R (.slice a0 R.2.oL.length c0) (.slice a1 R.2.oH.length c1) (.slice a2 R.2.lw.length c2) (.slice a3 R.2.hw.length c3)) (by kernel_rfl) hS (fun hHeld => ?_)
      clear hHeld hE
      generalize w6.drew = W6 at *
      refine tkd (i := 0) (v := .pointer (some ⟨D, 0, none⟩)) rfl rfl (by kernel_rfl) (by kernel_rfl) (by kernel_rfl) (fun _ _ _ h => h) (Or.inl ⟨by rfl, fun w hSw => by skip; go_simp⟩) hS ?_
      simp only [List.setIfInBounds_toArray, List.set_cons_zero, List.set_cons_succ]
      refine tkd (i := 1) (v := .pointer (some ⟨D, 0, none⟩)) rfl rfl (by kernel_rfl) (by kernel_rfl) (by kernel_rfl) (fun _ _ _ h => h) (Or.inl ⟨by rfl, fun w hSw => by skip; go_simp⟩) hS ?_
      simp only [List.setIfInBounds_toArray, List.set_cons_zero, List.set_cons_succ]
      refine tkd (i := 2) (v := .agg #[.int .i64 R.1, .slice a0 R.2.oL.length c0, .slice a1 R.2.oH.length c1, natV R.2.uL, natV R.2.uH, natV R.2.steps] ) rfl rfl (by kernel_rfl) (by kernel_rfl) (by kernel_rfl) (fun _ _ _ h => h) (Or.inl ⟨by rfl, fun w hSw => by obtain ⟨z0, z1, z2, z3, z4, z5, z6, z7⟩ := hSw; go_simp⟩) hS ?_
      simp only [List.setIfInBounds_toArray, List.set_cons_zero, List.set_cons_succ]
      refine tkd (i := 3) (v := .pointer (some ⟨D, 19, none⟩)) rfl rfl (by kernel_rfl) (by kernel_rfl) (by kernel_rfl) (fun _ _ _ h => h) (Or.inl ⟨by rfl, fun w hSw => by skip; go_simp⟩) hS ?_
      simp only [List.setIfInBounds_toArray, List.set_cons_zero, List.set_cons_succ]
      refine tkd (i := 4) (v := .slice a2 R.2.lw.length c2) rfl rfl (by kernel_rfl) (by kernel_rfl) (by kernel_rfl) (fun _ _ _ h => h) (Or.inl ⟨by rfl, fun w hSw => by have z := hSw.c19; go_simp⟩) hS ?_
      simp only [List.setIfInBounds_toArray, List.set_cons_zero, List.set_cons_succ]
      refine tkd (i := 5) (v := .pointer (some ⟨D, 20, none⟩)) rfl rfl (by kernel_rfl) (by kernel_rfl) (by kernel_rfl) (fun _ _ _ h => h) (Or.inl ⟨by rfl, fun w hSw => by skip; go_simp⟩) hS ?_
      simp only [List.setIfInBounds_toArray, List.set_cons_zero, List.set_cons_succ]
      refine tkd (i := 6) (v := .slice a3 R.2.hw.length c3) rfl rfl (by kernel_rfl) (by kernel_rfl) (by kernel_rfl) (fun _ _ _ h => h) (Or.inl ⟨by rfl, fun w hSw => by have z := hSw.c20; go_simp⟩) hS ?_
      simp only [List.setIfInBounds_toArray, List.set_cons_zero, List.set_cons_succ]
      have hR0l := hR0.lt
      refine wpAnyH_ready (rs := [7, 8]) (by kernel_rfl) (by simp) ?_
      refine (AllReadyH.cons rfl (fun KK hK => ?_) (AllReadyH.cons rfl (fun KK hK => ?_) AllReadyH.nil))
      · skip
        go_simp
        have bG := BoxC.new W6 #[.slice a2 R.2.lw.length c2, .slice a3 R.2.hw.length c3] 25
        have hbG : Below W6.heap.size W6 (W6.alloc (.cells #[.slice a2 R.2.lw.length c2, .slice a3 R.2.hw.length c3] 25)) := (Below.refl _ _).alloc (Nat.le_refl _) _
        replace hS := hS.below hbG
        have hGB : W6.heap.size ≠ w.heap.size + 1 := by have h2 := hB6.size; omega
        replace hB6 := hB6.trans (hbG.mono hB6.size)
        replace r0 := r0.alloc (.cells #[.slice a2 R.2.lw.length c2, .slice a3 R.2.hw.length c3] 25)
        replace r1 := r1.alloc (.cells #[.slice a2 R.2.lw.length c2, .slice a3 R.2.hw.length c3] 25)
        replace r2 := r2.alloc (.cells #[.slice a2 R.2.lw.length c2, .slice a3 R.2.hw.length c3] 25)
        replace r3 := r3.alloc (.cells #[.slice a2 R.2.lw.length c2, .slice a3 R.2.hw.length c3] 25)
        refine hK.out _ _ hS (fun hHeld => ?_)
        clear hK KK hHeld hbG
        generalize W6.alloc (.cells #[.slice a2 R.2.lw.length c2, .slice a3 R.2.hw.length c3] 25) = W7 at *
        generalize W6.heap.size = G at *
        refine wpAnyH_ready (rs := [8]) (by kernel_rfl) (by simp) ?_
        refine AllReadyH.cons rfl (fun KK hK => ?_) AllReadyH.nil
        have bR := hR0.below hB6
        refine step_store_row (by rfl) 27 (.tmp 8) (.tmp 44) (by rfl) (w.heap.size + 1) #[.int .i64 R.1, .slice a0 R.2.oL.length c0, .slice a1 R.2.oH.length c1, natV R.2.uL, natV R.2.uH, natV R.2.steps] (by rfl) (by rfl) 27 _ bR (by kernel_rfl) (by rfl) (by kernel_rfl) ?_
        have hg := grown_row W7 (w.heap.size + 1) #[.int .i64 R.1, .slice a0 R.2.oL.length c0, .slice a1 R.2.oH.length c1, natV R.2.uL, natV R.2.uH, natV R.2.steps]
        have bF : BoxC (W7.setRow (w.heap.size + 1) #[.int .i64 R.1, .slice a0 R.2.oL.length c0, .slice a1 R.2.oH.length c1, natV R.2.uL, natV R.2.uH, natV R.2.steps]) (w.heap.size + 1) #[.int .i64 R.1, .slice a0 R.2.oL.length c0, .slice a1 R.2.oH.length c1, natV R.2.uL, natV R.2.uH, natV R.2.steps] 27 := setRow_heap W7 _ _ _ _ _ bR
        have hBF := below_row (hB5.trans (hB6.mono hB5.size)) (Nat.le_succ w.heap.size) #[.int .i64 R.1, .slice a0 R.2.oL.length c0, .slice a1 R.2.oH.length c1, natV R.2.uL, natV R.2.uH, natV R.2.steps]
        replace bG := bG.grown hg (by simp; omega)
        replace hS := hS.block (hg.block D hS.lt (by simp; omega))
        replace r0 := r0.kept hg (own_far r0 hR0l)
        replace r1 := r1.kept hg (own_far r1 hR0l)
        replace r2 := r2.kept hg (own_far r2 hR0l)
        replace r3 := r3.kept hg (own_far r3 hR0l)
        refine hK.out _ _ hS (fun hHeld => ?_)
        clear hg bR hK KK hHeld hB6
        generalize W7.setRow (w.heap.size + 1) #[.int .i64 R.1, .slice a0 R.2.oL.length c0, .slice a1 R.2.oH.length c1, natV R.2.uL, natV R.2.uH, natV R.2.steps] = WF at *
        have hput : ∀ (o : Oper) (A : Act) (v : Value), o.dst = none → A.put o.dst v = A := fun o A v e => by rw [e]; rfl
        rw [hput _ _ _ rfl]
        clear hput
        refine tkd (i := 9) (v := .slice (some ⟨G, 0, none⟩) 2 2) rfl rfl (by kernel_rfl) (by kernel_rfl) (by kernel_rfl) (fun _ _ _ h => h) (Or.inl ⟨by rfl, fun w hSw => by skip; go_simp⟩) hS ?_
        simp only [List.setIfInBounds_toArray, List.set_cons_zero, List.set_cons_succ]
        refine tkd (i := 10) (v := .int .i64 0) rfl rfl (by kernel_rfl) (by kernel_rfl) (by kernel_rfl) (fun _ _ _ h => h) (Or.inl ⟨by rfl, fun w hSw => by skip; go_simp⟩) hS ?_
        simp only [List.setIfInBounds_toArray, List.set_cons_zero, List.set_cons_succ]
        refine wpAnyH_done (by kernel_rfl) ?_ _
        go_wp2
        refine bodyPost_ret (v := .tuple #[.agg #[.int .i64 R.1, .slice a0 R.2.oL.length c0, .slice a1 R.2.oH.length c1, natV R.2.uL, natV R.2.uH, natV R.2.steps], .slice (some ⟨G, 0, none⟩) 2 2, .int .i64 0]) (runRes _ bF) rfl ?_
        exact ⟨hBF, _, _, _, _, G, rfl, bG.cell 0 rfl, bG.cell 1 rfl, ints_own r0, ints_own r1, ints_own r2, ints_own r3⟩
      · skip
        have bR := hR0.below hB6
        refine step_store_row (by rfl) 27 (.tmp 8) (.tmp 44) (by rfl) (w.heap.size + 1) #[.int .i64 R.1, .slice a0 R.2.oL.length c0, .slice a1 R.2.oH.length c1, natV R.2.uL, natV R.2.uH, natV R.2.steps] (by rfl) (by rfl) 27 _ bR (by kernel_rfl) (by rfl) (by kernel_rfl) ?_
        have hg := grown_row W6 (w.heap.size + 1) #[.int .i64 R.1, .slice a0 R.2.oL.length c0, .slice a1 R.2.oH.length c1, natV R.2.uL, natV R.2.uH, natV R.2.steps]
        have bF : BoxC (W6.setRow (w.heap.size + 1) #[.int .i64 R.1, .slice a0 R.2.oL.length c0, .slice a1 R.2.oH.length c1, natV R.2.uL, natV R.2.uH, natV R.2.steps]) (w.heap.size + 1) #[.int .i64 R.1, .slice a0 R.2.oL.length c0, .slice a1 R.2.oH.length c1, natV R.2.uL, natV R.2.uH, natV R.2.steps] 27 := setRow_heap W6 _ _ _ _ _ bR
        have hBF := below_row (hB5.trans (hB6.mono hB5.size)) (Nat.le_succ w.heap.size) #[.int .i64 R.1, .slice a0 R.2.oL.length c0, .slice a1 R.2.oH.length c1, natV R.2.uL, natV R.2.uH, natV R.2.steps]
        replace hS := hS.block (hg.block D hS.lt (by simp; omega))
        replace r0 := r0.kept hg (own_far r0 hR0l)
        replace r1 := r1.kept hg (own_far r1 hR0l)
        replace r2 := r2.kept hg (own_far r2 hR0l)
        replace r3 := r3.kept hg (own_far r3 hR0l)
        refine hK.out _ _ hS (fun hHeld => ?_)
        clear hg bR hK KK hHeld hB6
        generalize W6.setRow (w.heap.size + 1) #[.int .i64 R.1, .slice a0 R.2.oL.length c0, .slice a1 R.2.oH.length c1, natV R.2.uL, natV R.2.uH, natV R.2.steps] = WF at *
        have hput : ∀ (o : Oper) (A : Act) (v : Value), o.dst = none → A.put o.dst v = A := fun o A v e => by rw [e]; rfl
        rw [hput _ _ _ rfl]
        clear hput
        refine wpAnyH_ready (rs := [7]) (by kernel_rfl) (by simp) ?_
        refine AllReadyH.cons rfl (fun KK hK => ?_) AllReadyH.nil
        go_simp
        have bG := BoxC.new WF #[.slice a2 R.2.lw.length c2, .slice a3 R.2.hw.length c3] 25
        have hbG : Below WF.heap.size WF (WF.alloc (.cells #[.slice a2 R.2.lw.length c2, .slice a3 R.2.hw.length c3] 25)) := (Below.refl _ _).alloc (Nat.le_refl _) _
        replace hS := hS.below hbG
        replace hBF := hBF.trans (hbG.mono hBF.size)
        replace bF := bF.below hbG
        replace r0 := r0.alloc (.cells #[.slice a2 R.2.lw.length c2, .slice a3 R.2.hw.length c3] 25)
        replace r1 := r1.alloc (.cells #[.slice a2 R.2.lw.length c2, .slice a3 R.2.hw.length c3] 25)
        replace r2 := r2.alloc (.cells #[.slice a2 R.2.lw.length c2, .slice a3 R.2.hw.length c3] 25)
        replace r3 := r3.alloc (.cells #[.slice a2 R.2.lw.length c2, .slice a3 R.2.hw.length c3] 25)
        refine hK.out _ _ hS (fun hHeld => ?_)
        clear hK KK hHeld hbG
        generalize WF.alloc (.cells #[.slice a2 R.2.lw.length c2, .slice a3 R.2.hw.length c3] 25) = W7 at *
        generalize WF.heap.size = G at *
        refine tkd (i := 9) (v := .slice (some ⟨G, 0, none⟩) 2 2) rfl rfl (by kernel_rfl) (by kernel_rfl) (by kernel_rfl) (fun _ _ _ h => h) (Or.inl ⟨by rfl, fun w hSw => by skip; go_simp⟩) hS ?_
        simp only [List.setIfInBounds_toArray, List.set_cons_zero, List.set_cons_succ]
        refine tkd (i := 10) (v := .int .i64 0) rfl rfl (by kernel_rfl) (by kernel_rfl) (by kernel_rfl) (fun _ _ _ h => h) (Or.inl ⟨by rfl, fun w hSw => by skip; go_simp⟩) hS ?_
        simp only [List.setIfInBounds_toArray, List.set_cons_zero, List.set_cons_succ]
        refine wpAnyH_done (by kernel_rfl) ?_ _
        go_wp2
        refine bodyPost_ret (v := .tuple #[.agg #[.int .i64 R.1, .slice a0 R.2.oL.length c0, .slice a1 R.2.oH.length c1, natV R.2.uL, natV R.2.uH, natV R.2.steps], .slice (some ⟨G, 0, none⟩) 2 2, .int .i64 0]) (runRes _ bF) rfl ?_
        exact ⟨hBF, _, _, _, _, G, rfl, bG.cell 0 rfl, bG.cell 1 rfl, ints_own r0, ints_own r1, ints_own r2, ints_own r3⟩
end Go.Proofs.Ytcfibghjekimkaa.mac
