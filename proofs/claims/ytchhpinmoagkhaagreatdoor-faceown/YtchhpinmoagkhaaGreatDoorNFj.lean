/- What the program's addVar answers: a contract. -/
import Derived.Test.YtchhpinmoagkhaaGreatDoorNFi
import Derived.Test.YtchhpinmoagkhaaGreatDoorNFh
import Derived.Test.YtchhpinmoagkhaaGreatDoorNFc
namespace Go.Proofs.YtchhpinmoagkhaaGreatDoor.face
open Go.RowKit Go.Maps
open Go.Proofs.YtchhpinmoagkhaaGreatDoor.syn
set_option linter.unusedVariables false
set_option linter.unusedSimpArgs false
set_option maxRecDepth 100000

/-- what addVar comes to -/
def AV (Z : Nat) (w : World) (D Bm Bd : Nat) (mp : Option Nat) (pv iv : Value) (mo : ByteArray) (V : List VarD) (P : List (ProcD × Value)) (is ms ns qs : List ByteArray) (at_ : Int) (x : ByteArray) (p l : Bool) (n : Option Int) (e : Ending) (w' : World) : Prop :=
  Below Bm w w' ∧
    ((among ns x = true ∧ e = .panicked (Thrown 5 at_)) ∨ (among ns x = false ∧ 20 ≤ ns.length ∧ e = .panicked (Thrown 1 at_)) ∨
     (among ns x = false ∧ ns.length < 20 ∧ (∃ k, n = some k ∧ (k < 1 ∨ 64 < k)) ∧ e = .panicked (Thrown 6 at_)) ∨
     (among ns x = false ∧ ns.length < 20 ∧ (∀ k, n = some k → 1 ≤ k ∧ k ≤ 64) ∧ e = .returned (.tuple #[]) ∧ KZ Z w w' ∧ ∃ vv', DI w' D Bm Bd mp vv' pv iv mo (V ++ if p then [varD x p l n] else []) P is ms (ns ++ [x]) qs at_))
set_option maxHeartbeats 4000000 in
theorem oAddVar {D Bm Bd : Nat} {mp : Option Nat} {vv pv iv : Value} {mo : ByteArray} {V : List VarD} {P : List (ProcD × Value)} {is ms ns qs : List ByteArray} {at_ : Int} (x : ByteArray) (p l : Bool) (n : Option Int) (v : Value) (w : World) (hv : Lies (· < Bm) w (Kid.var x p l n).tree v)
    (h : DI w D Bm Bd mp vv pv iv mo V P is ms ns qs at_) (hx : x.size ≤ 16) (hns : ns.length ≤ 20) (hV : V.length ≤ 20) (Z : Nat) (hZ : Z < w.heap.size) (hZD : D < Z) (hZv : vv.ownBlock ≠ some Z) :
    Calls Tryz.prog 114 #[.pointer (some ⟨D, 0, none⟩), v] w (AV Z w D Bm Bd mp pv iv mo V P is ms ns qs at_ x p l n) := by
  have c24 : Tryz.prog.cellsOf 24 = 4 := by kernel_rfl
  have c4 : Tryz.prog.cellsOf 45 = 4 := cell4
  obtain ⟨i0, hi, hz0, hz1, hz2⟩ := info_parts infoV
  have hv0 := hv
  rw [Kid.tree_is] at hv
  unfold Lies at hv
  obtain ⟨a, c, rfl, hl, hk⟩ := hv
  simp only [Kid.kind, Kid.text, Kid.num] at *
  have hkids : 0 < (Kid.var x p l n).kids.length → ∃ (g o : Nat) (k : Int) (ak : Option Addr) (ck : Nat), a = some ⟨g, o, none⟩ ∧ (Kid.var x p l n).kids.length = 1 ∧ n = some k ∧ g < Bm ∧ w.cell? ⟨g, o, none⟩ = some (.int .i64 15) ∧ w.cell? ⟨g, o + 1, none⟩ = some (.string empty) ∧ w.cell? ⟨g, o + 2, none⟩ = some (.int .i64 k) ∧ w.cell? ⟨g, o + 3, none⟩ = some (.slice ak 0 ck) := by
    intro h0
    cases n with
    | none => simp [Kid.kids] at h0
    | some k =>
      obtain ⟨g, o, rfl, hg, hat⟩ := hk (by simp [Kid.kids])
      unfold Kid.kids at hat
      obtain ⟨⟨v1, ⟨x0, x1, x2, x3, rfl, c0, c1, c2, c3⟩, hv1⟩, _⟩ := hat
      unfold Lies at hv1
      obtain ⟨a1, d1, e1, _, _⟩ := hv1
      cases e1
      exact ⟨g, o, k, a1, d1, rfl, by simp [Kid.kids], rfl, hg, c0, c1, c2, c3⟩
  have hzero : (Kid.var x p l n).kids.length = 0 → ∀ k, n = some k → 1 ≤ k ∧ k ≤ 64 := by
    intro h0 k e
    subst e
    simp [Kid.kids] at h0
  have hle1 : (Kid.var x p l n).kids.length ≤ 1 := by cases n <;> simp [Kid.kids]
  have hmB : Bm ≤ w.heap.size := by have := h.lm; have := h.ld; have := h.dc.lt; omega
  have hVar : ∀ W, Below Bm w W → Calls Tryz.prog 138 #[.agg #[.int .i64 3, .string x, .int .i64 (2 * bI p + bI l), .slice a (Kid.var x p l n).kids.length c]] W fun e w' => e = .returned (varV (varD x p l n)) ∧ Below W.heap.size W w' := fun W hW => oVarOf x p l n _ W (hv0.to (fun b hb => by have := hW.size; show b < W.heap.size; have hb' : b < Bm := hb; omega) (fun b hb o => hW.cell (p := ⟨b, o, none⟩) hb))
  clear hk hl hv0
  generalize 2 * bI p + bI l = m at *
  generalize (Kid.var x p l n).kids.length = kl at *
  have hd := h.dc.lt
  have hmm := h.lm
  have hdd := h.ld
  have hI0 := h.below ((Below.refl _ _).alloc (Nat.le_refl _) (.cells #[.int .i64 3, .string x, .int .i64 m, .slice a kl c] 24))
  have hI : DI (w.alloc (.cells #[.int .i64 3, .string x, .int .i64 m, .slice a kl c] 24)).drew D Bm Bd mp vv pv iv mo V P is ms ns qs at_ := hI0.below ⟨rfl, rfl, rfl, Nat.le_refl _, fun _ _ => rfl⟩
  clear hI0
  have hQ : Q4 w.heap.size (.int .i64 3) (.string x) (.int .i64 m) (.slice a kl c) (w.alloc (.cells #[.int .i64 3, .string x, .int .i64 m, .slice a kl c] 24)).drew := ⟨by simp, by simp, by simp, by simp⟩
  have hB : Below w.heap.size w (w.alloc (.cells #[.int .i64 3, .string x, .int .i64 m, .slice a kl c] 24)).drew := ((Below.refl _ _).alloc (Nat.le_refl _) _).drew
  have hKZ : KZ Z w (w.alloc (.cells #[.int .i64 3, .string x, .int .i64 m, .slice a kl c] 24)).drew := ((KZ.mk rfl hZ).alloc _).drew
  have hS : (w.alloc (.cells #[.int .i64 3, .string x, .int .i64 m, .slice a kl c] 24)).drew.cell? ⟨D, 5, none⟩ = some (.map (some Bd)) ∧ (w.alloc (.cells #[.int .i64 3, .string x, .int .i64 m, .slice a kl c] 24)).drew.cell? ⟨w.heap.size, 1, none⟩ = some (.string x) := ⟨hI.dc.c5, hQ.2.1⟩
  go_enter Tryz.func114, Tryz.ntmps114
  go_wp2
  refine wp_region_held_drew (S := fun W => W.cell? ⟨D, 5, none⟩ = some (.map (some Bd)) ∧ W.cell? ⟨w.heap.size, 1, none⟩ = some (.string x)) (by kernel_rfl) hS (fun hHeld => ?_)
  clear hHeld
  generalize (w.alloc (.cells #[.int .i64 3, .string x, .int .i64 m, .slice a kl c] 24)).drew = W at *
  refine wpAnyH_take (i := 0) (v := .pointer (some ⟨D, 0, none⟩)) rfl (by kernel_rfl) (by kernel_rfl) (by kernel_rfl) (fun _ _ _ h => h) (Or.inl ⟨by rfl, fun w hSw => by obtain ⟨z0, z1⟩ := hSw; go_simp⟩) hS ?_
  simp only [Act.put, List.setIfInBounds_toArray, List.set_cons_zero, List.set_cons_succ]
  refine wpAnyH_take (i := 1) (v := .pointer (some ⟨D, 0, none⟩)) rfl (by kernel_rfl) (by kernel_rfl) (by kernel_rfl) (fun _ _ _ h => h) (Or.inl ⟨by rfl, fun w hSw => by obtain ⟨z0, z1⟩ := hSw; go_simp⟩) hS ?_
  simp only [Act.put, List.setIfInBounds_toArray, List.set_cons_zero, List.set_cons_succ]
  refine wpAnyH_take (i := 2) (v := .pointer (some ⟨D, 0, none⟩)) rfl (by kernel_rfl) (by kernel_rfl) (by kernel_rfl) (fun _ _ _ h => h) (Or.inl ⟨by rfl, fun w hSw => by obtain ⟨z0, z1⟩ := hSw; go_simp⟩) hS ?_
  simp only [Act.put, List.setIfInBounds_toArray, List.set_cons_zero, List.set_cons_succ]
  refine wpAnyH_take (i := 3) (v := .pointer (some ⟨D, 5, none⟩)) rfl (by kernel_rfl) (by kernel_rfl) (by kernel_rfl) (fun _ _ _ h => h) (Or.inl ⟨by rfl, fun w hSw => by obtain ⟨z0, z1⟩ := hSw; go_simp⟩) hS ?_
  simp only [Act.put, List.setIfInBounds_toArray, List.set_cons_zero, List.set_cons_succ]
  refine wpAnyH_take (i := 4) (v := .map (some Bd)) rfl (by kernel_rfl) (by kernel_rfl) (by kernel_rfl) (fun _ _ _ h => h) (Or.inl ⟨by rfl, fun w hSw => by obtain ⟨z0, z1⟩ := hSw; go_simp⟩) hS ?_
  simp only [Act.put, List.setIfInBounds_toArray, List.set_cons_zero, List.set_cons_succ]
  refine wpAnyH_take (i := 5) (v := .pointer (some ⟨w.heap.size, 1, none⟩)) rfl (by kernel_rfl) (by kernel_rfl) (by kernel_rfl) (fun _ _ _ h => h) (Or.inl ⟨by rfl, fun w hSw => by obtain ⟨z0, z1⟩ := hSw; go_simp⟩) hS ?_
  simp only [Act.put, List.setIfInBounds_toArray, List.set_cons_zero, List.set_cons_succ]
  refine wpAnyH_take (i := 6) (v := .string x) rfl (by kernel_rfl) (by kernel_rfl) (by kernel_rfl) (fun _ _ _ h => h) (Or.inl ⟨by rfl, fun w hSw => by obtain ⟨z0, z1⟩ := hSw; go_simp⟩) hS ?_
  simp only [Act.put, List.setIfInBounds_toArray, List.set_cons_zero, List.set_cons_succ]
  refine wpAnyH_ready (rs := [7]) (by kernel_rfl) (by simp) ?_
  refine AllReadyH.cons rfl (fun K hK => ?_) AllReadyH.nil
  go_simp
  go_at_call 113
  refine (oEnter D Bd ns x 20 at_ W hI.dc.c7 hI.od hI.ad (by omega) (by omega) (by omega)).mono ?_
  rintro e W1 (⟨hm1, rfl, hb⟩ | ⟨hm1, hle, rfl, hb⟩ | ⟨hm1, hlt, rfl, hom, ham, hg⟩)
  · go_wp2
    exact ⟨rfl, (hB.trans (hb.mono hB.size)).mono (by omega), .inl ⟨hm1, rfl⟩⟩
  · go_wp2
    exact ⟨rfl, (hB.trans (hb.mono hB.size)).mono (by omega), .inr (.inl ⟨hm1, hle, rfl⟩)⟩
  go_wp2
  replace hQ := Q4.grown hQ hg (by simp; omega)
  have hI1 := hI.enterD hom ham hg
  have hB1 : Below Bm w W1 := (hB.mono (by omega)).grown hg (by have := hB.size; omega) (fun k e => by cases e; omega)
  have hKZ1 := hKZ.grown hg (by simp; omega)
  clear hB hom ham hg hI hKZ
  refine hK.out _ _ ⟨hI1.dc.c5, hQ.2.1⟩ (fun hHeld => ?_)
  clear hK K hHeld
  refine wpAnyH_done (by kernel_rfl) ?_ _
  obtain ⟨q0, q1, q2, q3⟩ := id hQ
  go_wp2
  go_loopw [18] (fun t wr => ∃ j : Nat, j ≤ kl ∧ t = .int .i64 j ∧ Hid (j = kl → ∀ k, n = some k → 1 ≤ k ∧ k ≤ 64) ∧ DI wr D Bm Bd mp vv pv iv mo V P is ms (ns ++ [x]) qs at_ ∧ Q4 w.heap.size (.int .i64 3) (.string x) (.int .i64 m) (.slice a kl c) wr ∧ Below Bm w wr ∧ KZ Z w wr) (fun t _ => kl - (intOf t).toNat)
  case atStart => exact ⟨0, Nat.zero_le _, rfl, fun e => hzero e.symm, hI1, hQ, hB1, hKZ1⟩
  case round =>
    clear hKZ1 hB1 hQ hI1 q0 q1 q2 q3
    obtain ⟨j, hj, rfl, HR, hI, hQ, hB, hKZ⟩ := hrel
    obtain ⟨q0, q1, q2, q3⟩ := id hQ
    by_cases hlt2 : j < kl
    · obtain ⟨g, o, k, ak, ck, rfl, rfl, rfl, hg, c0, c1, c2, c3⟩ := hkids (by omega)
      have hj0 : j = 0 := by omega
      subst hj0
      have k0 := (hB.cell (p := ⟨g, o, none⟩) hg).trans c0
      have k1 := (hB.cell (p := ⟨g, o + 1, none⟩) hg).trans c1
      have k2 := (hB.cell (p := ⟨g, o + 2, none⟩) hg).trans c2
      have k3 := (hB.cell (p := ⟨g, o + 3, none⟩) hg).trans c3
      have hszr := hB.size
      have hIa := hI.below ((Below.refl _ _).alloc (Nat.le_refl _) (.cells #[.int .i64 15, .string empty, .int .i64 k, .slice ak 0 ck] 24))
      have hBa := hB.alloc (by omega) (.cells #[.int .i64 15, .string empty, .int .i64 k, .slice ak 0 ck] 24)
      have hRef := oRefuse D 6 at_ _ hIa.dc.c7
      clear c0 c1 c2 c3
      by_cases hr1 : k < 1
      · have HX : Hid (∃ k', some k = some k' ∧ (k' < 1 ∨ 64 < k')) := ⟨k, rfl, .inl hr1⟩
        go_wp2_with (go_at_call 137; refine hRef.mono ?_; rintro e w2 ⟨rfl, hw2⟩; obtain rfl := hw2.symm)
        exact ⟨rfl, hBa, .inr (.inr (.inl ⟨hm1, hlt, HX.out, rfl⟩))⟩
      by_cases hr2 : 64 < k
      · have HX : Hid (∃ k', some k = some k' ∧ (k' < 1 ∨ 64 < k')) := ⟨k, rfl, .inr hr2⟩
        go_wp2_with (go_at_call 137; refine hRef.mono ?_; rintro e w2 ⟨rfl, hw2⟩; obtain rfl := hw2.symm)
        exact ⟨rfl, hBa, .inr (.inr (.inl ⟨hm1, hlt, HX.out, rfl⟩))⟩
      go_wp2
      go_roundw
      case rel => exact ⟨1, by omega, by go_num, fun _ k' e => by cases e; omega, hIa, hQ.alloc _, hBa, hKZ.alloc _⟩
      case measure => simp [intOf]
    · have hj0 : j = kl := by omega
      subst hj0
      have HR' : Hid (∀ k, n = some k → 1 ≤ k ∧ k ≤ 64) := HR.out rfl
      clear HR hkids hzero
      cases p
      · go_wp2_with (go_at_call 138; refine (hVar _ hB).mono ?_; rintro e w2 ⟨rfl, hb2⟩; unfold varV varD)
        go_end0
        refine ⟨((hB.trans (hb2.mono (by have := hB.size; omega)))).alloc (by have := hB.size; have := hb2.size; omega) _, .inr (.inr (.inr ⟨hm1, hlt, HR'.out, rfl, (hKZ.below hb2).alloc _, vv, ?_⟩))⟩
        have hfin := (hI.below hb2).below ((Below.refl _ _).alloc (Nat.le_refl _) (.cells #[.string x, .bool false, .int .i64 (bI l), .int .i64 (n.getD 0)] 45))
        simpa using hfin
      go_wp2_with (go_at_call 138; refine (hVar _ hB).mono ?_; rintro e w2 ⟨rfl, hb2⟩; unfold varV varD)
      generalize hy : n.getD 0 = y
      have hI2 : DI (w2.alloc (.cells #[.string x, .bool true, .int .i64 (bI l), .int .i64 y] 45)).drew D Bm Bd mp vv pv iv mo V P is ms (ns ++ [x]) qs at_ := ((hI.below hb2).below ((Below.refl _ _).alloc (Nat.le_refl _) (.cells #[.string x, .bool true, .int .i64 (bI l), .int .i64 y] 45))).below ⟨rfl, rfl, rfl, Nat.le_refl _, fun _ _ => rfl⟩
      have hB2 : Below Bm w (w2.alloc (.cells #[.string x, .bool true, .int .i64 (bI l), .int .i64 y] 45)).drew := ((hB.trans (hb2.mono (by have := hB.size; omega))).alloc (by have := hB.size; have := hb2.size; omega) _).drew
      have hS2 : Q4 w2.heap.size (.string x) (.bool true) (.int .i64 (bI l)) (.int .i64 y) (w2.alloc (.cells #[.string x, .bool true, .int .i64 (bI l), .int .i64 y] 45)).drew := ⟨by simp, by simp, by simp, by simp⟩
      have hKZ2 : KZ Z w (w2.alloc (.cells #[.string x, .bool true, .int .i64 (bI l), .int .i64 y] 45)).drew := ((hKZ.below hb2).alloc _).drew
      have hDb : D < w2.heap.size := by have := hI.dc.lt; have := hb2.size; omega
      have hvb : ∀ k, vv.ownBlock = some k → k < w2.heap.size := fun k e => by have := (hI.fr.ov.lt _ e).2; have := hb2.size; omega
      clear hKZ hI hB hQ q0 q1 q2 q3 hb2
      refine wp_region_held_drew (S := fun W => Q4 w2.heap.size (.string x) (.bool true) (.int .i64 (bI l)) (.int .i64 y) W) (by kernel_rfl) hS2 (fun hHeld => ?_)
      clear hHeld
      generalize (w2.alloc (.cells #[.string x, .bool true, .int .i64 (bI l), .int .i64 y] 45)).drew = W2 at *
      generalize w2.heap.size = N at *
      obtain ⟨av, cv, rfl⟩ := hI2.fr.shapeV
      refine wpAnyH_take (i := 0) (v := .pointer (some ⟨D, 0, none⟩)) rfl (by kernel_rfl) (by kernel_rfl) (by kernel_rfl) (fun _ _ _ h => h) (Or.inl ⟨by rfl, fun w hSw => by obtain ⟨z0, z1, z2, z3⟩ := hSw; go_simp⟩) hS2 ?_
      simp only [Act.put, List.setIfInBounds_toArray, List.set_cons_zero, List.set_cons_succ]
      refine wpAnyH_take (i := 1) (v := .pointer (some ⟨D, 0, none⟩)) rfl (by kernel_rfl) (by kernel_rfl) (by kernel_rfl) (fun _ _ _ h => h) (Or.inl ⟨by rfl, fun w hSw => by obtain ⟨z0, z1, z2, z3⟩ := hSw; go_simp⟩) hS2 ?_
      simp only [Act.put, List.setIfInBounds_toArray, List.set_cons_zero, List.set_cons_succ]
      refine wpAnyH_take (i := 2) (v := .pointer (some ⟨D, 0, none⟩)) rfl (by kernel_rfl) (by kernel_rfl) (by kernel_rfl) (fun _ _ _ h => h) (Or.inl ⟨by rfl, fun w hSw => by obtain ⟨z0, z1, z2, z3⟩ := hSw; go_simp⟩) hS2 ?_
      simp only [Act.put, List.setIfInBounds_toArray, List.set_cons_zero, List.set_cons_succ]
      refine wpAnyH_take (i := 3) (v := .pointer (some ⟨D, 0, none⟩)) rfl (by kernel_rfl) (by kernel_rfl) (by kernel_rfl) (fun _ _ _ h => h) (Or.inl ⟨by rfl, fun w hSw => by obtain ⟨z0, z1, z2, z3⟩ := hSw; go_simp⟩) hS2 ?_
      simp only [Act.put, List.setIfInBounds_toArray, List.set_cons_zero, List.set_cons_succ]
      refine wpAnyH_take (i := 4) (v := .pointer (some ⟨D, 1, none⟩)) rfl (by kernel_rfl) (by kernel_rfl) (by kernel_rfl) (fun _ _ _ h => h) (Or.inl ⟨by rfl, fun w hSw => by obtain ⟨z0, z1, z2, z3⟩ := hSw; go_simp⟩) hS2 ?_
      simp only [Act.put, List.setIfInBounds_toArray, List.set_cons_zero, List.set_cons_succ]
      refine wpAnyH_take (i := 6) (v := .agg #[.string x, .bool true, .int .i64 (bI l), .int .i64 y] ) rfl (by kernel_rfl) (by kernel_rfl) (by kernel_rfl) (fun _ _ _ h => h) (Or.inl ⟨by rfl, fun w hSw => by obtain ⟨z0, z1, z2, z3⟩ := hSw; go_simp⟩) hS2 ?_
      simp only [Act.put, List.setIfInBounds_toArray, List.set_cons_zero, List.set_cons_succ]
      refine wpAnyH_ready (rs := [5, 7]) (by kernel_rfl) (by simp) ?_
      refine AllReadyH.cons rfl (fun K hK => ?_) ?_
      · skip
        have m1 := hI2.dc.c1
        go_simp
        refine hK.out _ _ hS2 (fun hHeld => ?_)
        clear hK K hHeld m1
        refine wpAnyH_ready (rs := [7]) (by kernel_rfl) (by simp) ?_
        refine AllReadyH.cons rfl (fun K hK => ?_) AllReadyH.nil
        go_simp
        have hsl : ∀ j u, [Value.string x, .bool true, .int .i64 (bI l), .int .i64 y][j]? = some u → (W2.alloc (.cells #[.string x, .bool true, .int .i64 (bI l), .int .i64 y] 45)).cell? ((⟨W2.heap.size, 0, none⟩ : Addr).add j) = some u := news_new _ #[.string x, .bool true, .int .i64 (bI l), .int .i64 y] _ _ rfl
        have hss : W2.heap.size + 1 = (W2.alloc (.cells #[.string x, .bool true, .int .i64 (bI l), .int .i64 y] 45)).heap.size := by simp
        replace hB2 := hB2.alloc (by have := hI2.dc.lt; omega) (.cells #[.string x, .bool true, .int .i64 (bI l), .int .i64 y] 45)
        replace hKZ2 := hKZ2.alloc (.cells #[.string x, .bool true, .int .i64 (bI l), .int .i64 y] 45)
        replace hI2 := hI2.below ((Below.refl _ _).alloc (Nat.le_refl _) (.cells #[.string x, .bool true, .int .i64 (bI l), .int .i64 y] 45))
        replace hS2 := Q4.alloc hS2 (.cells #[.string x, .bool true, .int .i64 (bI l), .int .i64 y] 45)
        refine hK.out _ _ hS2 (fun hHeld => ?_)
        clear hK K hHeld
        generalize W2.alloc (.cells #[.string x, .bool true, .int .i64 (bI l), .int .i64 y] 45) = W3 at *
        generalize W2.heap.size = s0 at *
        refine wpAnyH_ready (rs := [8]) (by kernel_rfl) (by simp) ?_
        refine AllReadyH.cons rfl (fun K hK => ?_) AllReadyH.nil
        refine step_append_lies _ (by rfl) (.tmp 42) (.tmp 44) 35 (by rfl) (D + 1) 45 i0 (.agg #[.string ⟨#[]⟩, .bool false, .int .i64 0, .int .i64 0]) 4 40 Tryz.underlying35 hi hz0 hz1 hz2 rfl (by decide) (.slice av V.length cv) V.length (varCells V) (by simp [Act.eval, Act.put]) hI2.fr.ov ⟨s0, 0, none⟩ 1 1 [.string x, .bool true, .int .i64 (bI l), .int .i64 y] (by simp [Act.eval, Act.put]) rfl hsl (by intro u hu; simp at hu; rcases hu with rfl | rfl | rfl | rfl <;> rfl) (by omega) (by unfold maxLen; omega) (by omega) (by have := hI2.dc.lt; omega) (s0 + 1) hss.symm ?_
        intro g5 cap5 w5 hown5 hgrow5 hat5 hlt5
        have hrN : (Value.slice av V.length cv).ownBlock ≠ some N := fun e => by have := hvb _ e; omega
        have hrD : (Value.slice av V.length cv).ownBlock ≠ some D := fun e => by have := (hI2.fr.ov.lt _ e).1; omega
        have hfin := hI2.pushV (v := ⟨x, true, bI l, y⟩) hown5 hgrow5 (hat5.imp id (fun e => e.trans hss))
        replace hS2 := Q4.grown hS2 hgrow5 hrN
        replace hKZ2 := hKZ2.grown hgrow5 hZv
        replace hB2 := hB2.grown hgrow5 (by have := hI2.dc.lt; omega) (fun k e => by have := (hI2.fr.ov.lt _ e).1; omega)
        have hdc := hI2.dc.grown hgrow5 hrD
        have m1 := hdc.c1
        have mf := hdc.fz 1
        clear hI2 hdc
        refine hK.out _ _ hS2 (fun hHeld => ?_)
        clear hK K hHeld
        simp only [Act.put, List.setIfInBounds_toArray, List.set_cons_zero, List.set_cons_succ]
        refine wpAnyH_take (i := 9) (v := .pointer (some ⟨D, 0, none⟩)) rfl (by kernel_rfl) (by kernel_rfl) (by kernel_rfl) (fun _ _ _ h => h) (Or.inl ⟨by rfl, fun w hSw => by obtain ⟨z0, z1, z2, z3⟩ := hSw; go_simp⟩) hS2 ?_
        simp only [Act.put, List.setIfInBounds_toArray, List.set_cons_zero, List.set_cons_succ]
        refine wpAnyH_take (i := 10) (v := .pointer (some ⟨D, 0, none⟩)) rfl (by kernel_rfl) (by kernel_rfl) (by kernel_rfl) (fun _ _ _ h => h) (Or.inl ⟨by rfl, fun w hSw => by obtain ⟨z0, z1, z2, z3⟩ := hSw; go_simp⟩) hS2 ?_
        simp only [Act.put, List.setIfInBounds_toArray, List.set_cons_zero, List.set_cons_succ]
        refine wpAnyH_take (i := 11) (v := .pointer (some ⟨D, 1, none⟩)) rfl (by kernel_rfl) (by kernel_rfl) (by kernel_rfl) (fun _ _ _ h => h) (Or.inl ⟨by rfl, fun w hSw => by obtain ⟨z0, z1, z2, z3⟩ := hSw; go_simp⟩) hS2 ?_
        simp only [Act.put, List.setIfInBounds_toArray, List.set_cons_zero, List.set_cons_succ]
        refine wpAnyH_ready (rs := [12]) (by kernel_rfl) (by simp) ?_
        refine AllReadyH.cons rfl (fun K hK => ?_) AllReadyH.nil
        go_simp
        refine hK.out _ _ (Q4.other (by omega) hS2 _ _) (fun hHeld => ?_)
        clear hK K hHeld m1 mf
        refine wpAnyH_done (by kernel_rfl) ?_ _
        have HF : Hid (varD x true l n = ⟨x, true, bI l, y⟩) := by show _ = _; unfold varD; rw [hy]
        clear hy
        go_wp2
        go_end0
        exact ⟨hB2.setCell (by show Bm ≤ D; omega) _, .inr (.inr (.inr ⟨hm1, hlt, HR'.out, rfl, hKZ2.set (by omega) _, _, by rw [if_pos rfl, HF.out]; exact hfin⟩))⟩
      refine AllReadyH.cons rfl (fun K hK => ?_) AllReadyH.nil
      go_simp
      have hsl : ∀ j u, [Value.string x, .bool true, .int .i64 (bI l), .int .i64 y][j]? = some u → (W2.alloc (.cells #[.string x, .bool true, .int .i64 (bI l), .int .i64 y] 45)).cell? ((⟨W2.heap.size, 0, none⟩ : Addr).add j) = some u := news_new _ #[.string x, .bool true, .int .i64 (bI l), .int .i64 y] _ _ rfl
      have hss : W2.heap.size + 1 = (W2.alloc (.cells #[.string x, .bool true, .int .i64 (bI l), .int .i64 y] 45)).heap.size := by simp
      replace hB2 := hB2.alloc (by have := hI2.dc.lt; omega) (.cells #[.string x, .bool true, .int .i64 (bI l), .int .i64 y] 45)
      replace hKZ2 := hKZ2.alloc (.cells #[.string x, .bool true, .int .i64 (bI l), .int .i64 y] 45)
      replace hI2 := hI2.below ((Below.refl _ _).alloc (Nat.le_refl _) (.cells #[.string x, .bool true, .int .i64 (bI l), .int .i64 y] 45))
      replace hS2 := Q4.alloc hS2 (.cells #[.string x, .bool true, .int .i64 (bI l), .int .i64 y] 45)
      refine hK.out _ _ hS2 (fun hHeld => ?_)
      clear hK K hHeld
      generalize W2.alloc (.cells #[.string x, .bool true, .int .i64 (bI l), .int .i64 y] 45) = W3 at *
      generalize W2.heap.size = s0 at *
      refine wpAnyH_ready (rs := [5]) (by kernel_rfl) (by simp) ?_
      refine AllReadyH.cons rfl (fun K hK => ?_) AllReadyH.nil
      have m1 := hI2.dc.c1
      go_simp
      refine hK.out _ _ hS2 (fun hHeld => ?_)
      clear hK K hHeld m1
      refine wpAnyH_ready (rs := [8]) (by kernel_rfl) (by simp) ?_
      refine AllReadyH.cons rfl (fun K hK => ?_) AllReadyH.nil
      refine step_append_lies _ (by rfl) (.tmp 42) (.tmp 44) 35 (by rfl) (D + 1) 45 i0 (.agg #[.string ⟨#[]⟩, .bool false, .int .i64 0, .int .i64 0]) 4 40 Tryz.underlying35 hi hz0 hz1 hz2 rfl (by decide) (.slice av V.length cv) V.length (varCells V) (by simp [Act.eval, Act.put]) hI2.fr.ov ⟨s0, 0, none⟩ 1 1 [.string x, .bool true, .int .i64 (bI l), .int .i64 y] (by simp [Act.eval, Act.put]) rfl hsl (by intro u hu; simp at hu; rcases hu with rfl | rfl | rfl | rfl <;> rfl) (by omega) (by unfold maxLen; omega) (by omega) (by have := hI2.dc.lt; omega) (s0 + 1) hss.symm ?_
      intro g5 cap5 w5 hown5 hgrow5 hat5 hlt5
      have hrN : (Value.slice av V.length cv).ownBlock ≠ some N := fun e => by have := hvb _ e; omega
      have hrD : (Value.slice av V.length cv).ownBlock ≠ some D := fun e => by have := (hI2.fr.ov.lt _ e).1; omega
      have hfin := hI2.pushV (v := ⟨x, true, bI l, y⟩) hown5 hgrow5 (hat5.imp id (fun e => e.trans hss))
      replace hS2 := Q4.grown hS2 hgrow5 hrN
      replace hKZ2 := hKZ2.grown hgrow5 hZv
      replace hB2 := hB2.grown hgrow5 (by have := hI2.dc.lt; omega) (fun k e => by have := (hI2.fr.ov.lt _ e).1; omega)
      have hdc := hI2.dc.grown hgrow5 hrD
      have m1 := hdc.c1
      have mf := hdc.fz 1
      clear hI2 hdc
      refine hK.out _ _ hS2 (fun hHeld => ?_)
      clear hK K hHeld
      simp only [Act.put, List.setIfInBounds_toArray, List.set_cons_zero, List.set_cons_succ]
      refine wpAnyH_take (i := 9) (v := .pointer (some ⟨D, 0, none⟩)) rfl (by kernel_rfl) (by kernel_rfl) (by kernel_rfl) (fun _ _ _ h => h) (Or.inl ⟨by rfl, fun w hSw => by obtain ⟨z0, z1, z2, z3⟩ := hSw; go_simp⟩) hS2 ?_
      simp only [Act.put, List.setIfInBounds_toArray, List.set_cons_zero, List.set_cons_succ]
      refine wpAnyH_take (i := 10) (v := .pointer (some ⟨D, 0, none⟩)) rfl (by kernel_rfl) (by kernel_rfl) (by kernel_rfl) (fun _ _ _ h => h) (Or.inl ⟨by rfl, fun w hSw => by obtain ⟨z0, z1, z2, z3⟩ := hSw; go_simp⟩) hS2 ?_
      simp only [Act.put, List.setIfInBounds_toArray, List.set_cons_zero, List.set_cons_succ]
      refine wpAnyH_take (i := 11) (v := .pointer (some ⟨D, 1, none⟩)) rfl (by kernel_rfl) (by kernel_rfl) (by kernel_rfl) (fun _ _ _ h => h) (Or.inl ⟨by rfl, fun w hSw => by obtain ⟨z0, z1, z2, z3⟩ := hSw; go_simp⟩) hS2 ?_
      simp only [Act.put, List.setIfInBounds_toArray, List.set_cons_zero, List.set_cons_succ]
      refine wpAnyH_ready (rs := [12]) (by kernel_rfl) (by simp) ?_
      refine AllReadyH.cons rfl (fun K hK => ?_) AllReadyH.nil
      go_simp
      refine hK.out _ _ (Q4.other (by omega) hS2 _ _) (fun hHeld => ?_)
      clear hK K hHeld m1 mf
      refine wpAnyH_done (by kernel_rfl) ?_ _
      have HF : Hid (varD x true l n = ⟨x, true, bI l, y⟩) := by show _ = _; unfold varD; rw [hy]
      clear hy
      go_wp2
      go_end0
      exact ⟨hB2.setCell (by show Bm ≤ D; omega) _, .inr (.inr (.inr ⟨hm1, hlt, HR'.out, rfl, hKZ2.set (by omega) _, _, by rw [if_pos rfl, HF.out]; exact hfin⟩))⟩
end Go.Proofs.YtchhpinmoagkhaaGreatDoor.face
