/- What the program's isPub and labelOf answer: contracts. What the program's varOf answers: a contract. -/
import Derived.Test.YtchhpinmoagkhaaGreatDoorProg
import Derived.WalkKit
import Derived.WalkLawsBesides
import Derived.Outline
import Derived.WalkSmall
import Derived.BigQuiet
import Derived.Deep.QuietTactic
import Derived.Deep.RegionWith
import Derived.Deep.RegionHeld
import Derived.Test.YtchhpinmoagkhaaGreatDoorNFb
namespace Go.Proofs.YtchhpinmoagkhaaGreatDoor.face
open Go.RowKit
open Go.Proofs.YtchhpinmoagkhaaGreatDoor.syn
set_option linter.unusedVariables false
set_option linter.unusedSimpArgs false
set_option maxRecDepth 100000

theorem bits_pub (p l : Bool) (g : Option Bool) : (bits BinOp.and IntKind.i64 (2 * bI p + bI l + gI g) 2 != 0) = p := by cases p <;> cases l <;> rcases g with _ | _ | _ <;> decide +kernel
theorem bits_low (p l : Bool) (g : Option Bool) : bits BinOp.and IntKind.i64 (2 * bI p + bI l + gI g) 1 = bI l := by cases p <;> cases l <;> rcases g with _ | _ | _ <;> decide +kernel
theorem bits_gives (p l : Bool) (g : Option Bool) : bits BinOp.and IntKind.i64 (2 * bI p + bI l + gI g) 12 = gI g := by cases p <;> cases l <;> rcases g with _ | _ | _ <;> decide +kernel
theorem oIsPub (k : Int) (x : ByteArray) (m : Int) (a : Option Addr) (n c : Nat) (w : World) :
    Calls Tryz.prog 154 #[.agg #[.int .i64 k, .string x, .int .i64 m, .slice a n c]] w fun e w' => e = .returned (.bool (bits BinOp.and IntKind.i64 m 2 != 0)) ∧ Below w.heap.size w w' := by
  have c24 : Tryz.prog.cellsOf 24 = 4 := by kernel_rfl
  go_enter Tryz.func154, Tryz.ntmps154
  go_wp2
  go_ret
  exact ⟨rfl, (Below.refl _ _).alloc (Nat.le_refl _) _⟩
theorem oLabelOf (k : Int) (x : ByteArray) (m : Int) (a : Option Addr) (n c : Nat) (w : World) :
    Calls Tryz.prog 155 #[.agg #[.int .i64 k, .string x, .int .i64 m, .slice a n c]] w fun e w' => e = .returned (.int .i64 (bits BinOp.and IntKind.i64 m 1)) ∧ Below w.heap.size w w' := by
  have c24 : Tryz.prog.cellsOf 24 = 4 := by kernel_rfl
  go_enter Tryz.func155, Tryz.ntmps155
  go_wp2
  go_ret
  exact ⟨rfl, (Below.refl _ _).alloc (Nat.le_refl _) _⟩
/-- a box of four -/
abbrev Q4 (N : Nat) (x0 x1 x2 x3 : Value) (w : World) : Prop := w.cell? ⟨N, 0, none⟩ = some x0 ∧ w.cell? ⟨N, 1, none⟩ = some x1 ∧ w.cell? ⟨N, 2, none⟩ = some x2 ∧ w.cell? ⟨N, 3, none⟩ = some x3
theorem Q4.below {w w' : World} {N : Nat} {x0 x1 x2 x3 : Value} (h : Q4 N x0 x1 x2 x3 w) (hb : Below w.heap.size w w') : Q4 N x0 x1 x2 x3 w' := ⟨keep h.1 hb, keep h.2.1 hb, keep h.2.2.1 hb, keep h.2.2.2 hb⟩
theorem Q4.keep {w w' : World} {N : Nat} {x0 x1 x2 x3 : Value} (hb : Below w.heap.size w w') (h : Q4 N x0 x1 x2 x3 w) : Q4 N x0 x1 x2 x3 w' := h.below hb
theorem Q4.alloc {w : World} {N : Nat} {x0 x1 x2 x3 : Value} (h : Q4 N x0 x1 x2 x3 w) (o : Obj) : Q4 N x0 x1 x2 x3 (w.alloc o) := h.below ((Below.refl _ _).alloc (Nat.le_refl _) o)
theorem Q4.set4 {w : World} {N M : Nat} {x0 x1 x2 x3 : Value} (hne : M ≠ N) (h : Q4 N x0 x1 x2 x3 w) (a b c d : Value) : Q4 N x0 x1 x2 x3 ((((w.setCell ⟨M, 0, none⟩ a).setCell ⟨M, 1, none⟩ b).setCell ⟨M, 2, none⟩ c).setCell ⟨M, 3, none⟩ d) := by
  have one : ∀ (w : World) (o : Nat) (v : Value), Q4 N x0 x1 x2 x3 w → Q4 N x0 x1 x2 x3 (w.setCell ⟨M, o, none⟩ v) := fun w o v h =>
    ⟨by rw [World.cell?_setCell_other _ _ _ _ (by intro e; cases e; exact hne rfl)]; exact h.1, by rw [World.cell?_setCell_other _ _ _ _ (by intro e; cases e; exact hne rfl)]; exact h.2.1, by rw [World.cell?_setCell_other _ _ _ _ (by intro e; cases e; exact hne rfl)]; exact h.2.2.1, by rw [World.cell?_setCell_other _ _ _ _ (by intro e; cases e; exact hne rfl)]; exact h.2.2.2⟩
  exact one _ _ _ (one _ _ _ (one _ _ _ (one _ _ _ h)))
/-- four cells that may be written -/
structure F4 (w : World) (N : Nat) (x0 x1 x2 x3 : Value) : Prop where
  c0 : w.cell? ⟨N, 0, none⟩ = some x0
  c1 : w.cell? ⟨N, 1, none⟩ = some x1
  c2 : w.cell? ⟨N, 2, none⟩ = some x2
  c3 : w.cell? ⟨N, 3, none⟩ = some x3
  f0 : w.frozen? ⟨N, 0, none⟩ = false
  f1 : w.frozen? ⟨N, 1, none⟩ = false
  f2 : w.frozen? ⟨N, 2, none⟩ = false
  f3 : w.frozen? ⟨N, 3, none⟩ = false
theorem F4.new (w : World) (x0 x1 x2 x3 : Value) (T : TypeId) : F4 (w.alloc (.cells #[x0, x1, x2, x3] T)) w.heap.size x0 x1 x2 x3 := by constructor <;> simp
theorem F4.lt {w : World} {N : Nat} {x0 x1 x2 x3 : Value} (h : F4 w N x0 x1 x2 x3) : N < w.heap.size := World.block_lt_of_cell? w ⟨N, 0, none⟩ h.c0
theorem F4.block {w w' : World} {N : Nat} {x0 x1 x2 x3 : Value} (h : F4 w N x0 x1 x2 x3) (hb : w'.heap[N]? = w.heap[N]?) : F4 w' N x0 x1 x2 x3 :=
  ⟨(World.cell?_of_block (a := ⟨N, 0, none⟩) hb).trans h.c0, (World.cell?_of_block (a := ⟨N, 1, none⟩) hb).trans h.c1, (World.cell?_of_block (a := ⟨N, 2, none⟩) hb).trans h.c2, (World.cell?_of_block (a := ⟨N, 3, none⟩) hb).trans h.c3, (World.frozen?_of_block (a := ⟨N, 0, none⟩) hb).trans h.f0, (World.frozen?_of_block (a := ⟨N, 1, none⟩) hb).trans h.f1, (World.frozen?_of_block (a := ⟨N, 2, none⟩) hb).trans h.f2, (World.frozen?_of_block (a := ⟨N, 3, none⟩) hb).trans h.f3⟩
theorem F4.below {w w' : World} {N : Nat} {x0 x1 x2 x3 : Value} (h : F4 w N x0 x1 x2 x3) (hb : Below w.heap.size w w') : F4 w' N x0 x1 x2 x3 := h.block (hb.block N h.lt)
theorem F4.made {V w1 : World} {x0 x1 x2 x3 : Value} {T : TypeId} {N : Nat} (hb : Below (V.alloc (.cells #[x0, x1, x2, x3] T)).heap.size (V.alloc (.cells #[x0, x1, x2, x3] T)) w1) (hN : N = V.heap.size) : F4 w1 N x0 x1 x2 x3 := by
  subst hN
  exact (F4.new V x0 x1 x2 x3 T).below hb
theorem cells_kept {W w' : World} (hb : Below W.heap.size W w') : ∀ b o, b < W.heap.size → w'.cell? ⟨b, o, none⟩ = W.cell? ⟨b, o, none⟩ := fun b o h => hb.cell (p := ⟨b, o, none⟩) h
theorem frozen_kept {W w' : World} (hb : Below W.heap.size W w') : ∀ b o, b < W.heap.size → w'.frozen? ⟨b, o, none⟩ = W.frozen? ⟨b, o, none⟩ := fun b o h => World.frozen?_of_block (a := ⟨b, o, none⟩) (hb.block b h)
end Go.Proofs.YtchhpinmoagkhaaGreatDoor.face
namespace Go.Proofs.YtchhpinmoagkhaaGreatDoor.face
open Go.RowKit
open Go.Proofs.YtchhpinmoagkhaaGreatDoor.syn
set_option linter.unusedVariables false
set_option linter.unusedSimpArgs false
set_option maxRecDepth 100000

section
variable {w w' : World} {N M : Nat} {x0 x1 x2 x3 : Value}
theorem F4.other (h : F4 w N x0 x1 x2 x3) {o : Nat} (hne : M ≠ N) (v : Value) : F4 (w.setCell ⟨M, o, none⟩ v) N x0 x1 x2 x3 := h.block (Below.heap_setCell _ _ _ _ (fun e => hne (by rw [e])))
theorem F4.other4 (h : F4 w N x0 x1 x2 x3) (hne : M ≠ N) (a b c d : Value) : F4 ((((w.setCell ⟨M, 0, none⟩ a).setCell ⟨M, 1, none⟩ b).setCell ⟨M, 2, none⟩ c).setCell ⟨M, 3, none⟩ d) N x0 x1 x2 x3 := (((h.other hne a).other hne b).other hne c).other hne d
theorem F4.set0 (h : F4 w N x0 x1 x2 x3) (v : Value) : F4 (w.setCell ⟨N, 0, none⟩ v) N v x1 x2 x3 :=
  ⟨World.cell?_setCell_same _ _ _ h.c0, by rw [World.cell?_setCell_other _ _ _ _ (by simp)]; exact h.c1, by rw [World.cell?_setCell_other _ _ _ _ (by simp)]; exact h.c2, by rw [World.cell?_setCell_other _ _ _ _ (by simp)]; exact h.c3, by simp [h.f0], by simp [h.f1], by simp [h.f2], by simp [h.f3]⟩
theorem F4.set1 (h : F4 w N x0 x1 x2 x3) (v : Value) : F4 (w.setCell ⟨N, 1, none⟩ v) N x0 v x2 x3 :=
  ⟨by rw [World.cell?_setCell_other _ _ _ _ (by simp)]; exact h.c0, World.cell?_setCell_same _ _ _ h.c1, by rw [World.cell?_setCell_other _ _ _ _ (by simp)]; exact h.c2, by rw [World.cell?_setCell_other _ _ _ _ (by simp)]; exact h.c3, by simp [h.f0], by simp [h.f1], by simp [h.f2], by simp [h.f3]⟩
theorem F4.set2 (h : F4 w N x0 x1 x2 x3) (v : Value) : F4 (w.setCell ⟨N, 2, none⟩ v) N x0 x1 v x3 :=
  ⟨by rw [World.cell?_setCell_other _ _ _ _ (by simp)]; exact h.c0, by rw [World.cell?_setCell_other _ _ _ _ (by simp)]; exact h.c1, World.cell?_setCell_same _ _ _ h.c2, by rw [World.cell?_setCell_other _ _ _ _ (by simp)]; exact h.c3, by simp [h.f0], by simp [h.f1], by simp [h.f2], by simp [h.f3]⟩
theorem F4.set3 (h : F4 w N x0 x1 x2 x3) (v : Value) : F4 (w.setCell ⟨N, 3, none⟩ v) N x0 x1 x2 v :=
  ⟨by rw [World.cell?_setCell_other _ _ _ _ (by simp)]; exact h.c0, by rw [World.cell?_setCell_other _ _ _ _ (by simp)]; exact h.c1, by rw [World.cell?_setCell_other _ _ _ _ (by simp)]; exact h.c2, World.cell?_setCell_same _ _ _ h.c3, by simp [h.f0], by simp [h.f1], by simp [h.f2], by simp [h.f3]⟩
theorem F4.set4 (h : F4 w N x0 x1 x2 x3) (a b c d : Value) : F4 ((((w.setCell ⟨N, 0, none⟩ a).setCell ⟨N, 1, none⟩ b).setCell ⟨N, 2, none⟩ c).setCell ⟨N, 3, none⟩ d) N a b c d := (((h.set0 a).set1 b).set2 c).set3 d
theorem F4.alloc (h : F4 w N x0 x1 x2 x3) (o : Obj) : F4 (w.alloc o) N x0 x1 x2 x3 := h.below ((Below.refl _ _).alloc (Nat.le_refl _) o)
theorem below_set4 {B : Nat} {a : World} (h : Below B a w) (hM : B ≤ M) (x0 x1 x2 x3 : Value) : Below B a ((((w.setCell ⟨M, 0, none⟩ x0).setCell ⟨M, 1, none⟩ x1).setCell ⟨M, 2, none⟩ x2).setCell ⟨M, 3, none⟩ x3) := (((h.setCell hM _).setCell hM _).setCell hM _).setCell hM _
end
set_option maxHeartbeats 4000000 in
theorem oVarOf (x : ByteArray) (p l : Bool) (n : Option Int) (v : Value) (w : World) (hv : Lies (· < w.heap.size) w (Kid.var x p l n).tree v) :
    Calls Tryz.prog 138 #[v] w fun e w' => e = .returned (varV (varD x p l n)) ∧ Below w.heap.size w w' := by
  have c24 : Tryz.prog.cellsOf 24 = 4 := by kernel_rfl
  have c4 : Tryz.prog.cellsOf 45 = 4 := cell4
  have HP : (bits BinOp.and IntKind.i64 (2 * bI p + bI l) 2 != 0) = p := by have := bits_pub p l none; rw [show gI none = 0 from rfl, Int.add_zero] at this; exact this
  have HL : bits BinOp.and IntKind.i64 (2 * bI p + bI l) 1 = bI l := by have := bits_low p l none; rw [show gI none = 0 from rfl, Int.add_zero] at this; exact this
  rw [Kid.tree_is] at hv
  unfold Lies at hv
  obtain ⟨a, c, rfl, hl, hk⟩ := hv
  simp only [Kid.kind, Kid.text, Kid.num] at *
  generalize 2 * bI p + bI l = m at HP HL
  generalize hkl : (Kid.var x p l n).kids.length = kl
  have hkids : 0 < kl → ∃ (g o : Nat) (k : Int) (ak : Option Addr) (ck : Nat), a = some ⟨g, o, none⟩ ∧ kl = 1 ∧ n = some k ∧ g < w.heap.size ∧ w.cell? ⟨g, o, none⟩ = some (.int .i64 15) ∧ w.cell? ⟨g, o + 1, none⟩ = some (.string empty) ∧ w.cell? ⟨g, o + 2, none⟩ = some (.int .i64 k) ∧ w.cell? ⟨g, o + 3, none⟩ = some (.slice ak 0 ck) := by
    intro h0
    cases n with
    | none => simp [Kid.kids] at hkl; omega
    | some k =>
      obtain ⟨g, o, rfl, hg, hat⟩ := hk (by simp [Kid.kids])
      unfold Kid.kids at hat
      obtain ⟨⟨v1, ⟨x0, x1, x2, x3, rfl, c0, c1, c2, c3⟩, hv1⟩, _⟩ := hat
      unfold Lies at hv1
      obtain ⟨a1, d1, e1, _, _⟩ := hv1
      cases e1
      simp [Kid.kids] at hkl
      exact ⟨g, o, k, a1, d1, rfl, hkl.symm, rfl, hg, c0, c1, c2, c3⟩
  have hzero : kl = 0 → n.getD 0 = 0 := by
    intro h0
    cases n with
    | none => rfl
    | some k => simp [Kid.kids] at hkl; omega
  have hle : kl ≤ 1 := by
    cases n with
    | none => simp [Kid.kids] at hkl; omega
    | some k => simp [Kid.kids] at hkl; omega
  clear hk hl hkl
  have hPub : ∀ W, Calls Tryz.prog 154 #[.agg #[.int .i64 3, .string x, .int .i64 m, .slice a kl c]] W fun e w' => e = .returned (.bool p) ∧ Below W.heap.size W w' := fun W => by have := oIsPub 3 x m a kl c W; rw [HP] at this; exact this
  have hLab : ∀ W, Calls Tryz.prog 155 #[.agg #[.int .i64 3, .string x, .int .i64 m, .slice a kl c]] W fun e w' => e = .returned (.int .i64 (bI l)) ∧ Below W.heap.size W w' := fun W => by have := oLabelOf 3 x m a kl c W; rw [HL] at this; exact this
  clear HP HL
  have hQ : Q4 w.heap.size (.int .i64 3) (.string x) (.int .i64 m) (.slice a kl c) ((w.alloc (.cells #[.int .i64 3, .string x, .int .i64 m, .slice a kl c] 24)).alloc (.cells #[.string ⟨#[]⟩, .bool false, .int .i64 0, .int .i64 0] 45)).drew := ⟨by simp, by simp, by simp, by simp⟩
  have hB : Below w.heap.size w ((w.alloc (.cells #[.int .i64 3, .string x, .int .i64 m, .slice a kl c] 24)).alloc (.cells #[.string ⟨#[]⟩, .bool false, .int .i64 0, .int .i64 0] 45)).drew := (Joins.below_alloc2 w (.cells #[.int .i64 3, .string x, .int .i64 m, .slice a kl c] 24) (.cells #[.string ⟨#[]⟩, .bool false, .int .i64 0, .int .i64 0] 45)).drew
  have hR : F4 ((w.alloc (.cells #[.int .i64 3, .string x, .int .i64 m, .slice a kl c] 24)).alloc (.cells #[.string ⟨#[]⟩, .bool false, .int .i64 0, .int .i64 0] 45)).drew (w.heap.size + 1) (.string ⟨#[]⟩) (.bool false) (.int .i64 0) (.int .i64 0) := by constructor <;> simp
  go_enter Tryz.func138, Tryz.ntmps138
  go_wp2
  refine wp_region_held_drew (S := fun W => Q4 w.heap.size (.int .i64 3) (.string x) (.int .i64 m) (.slice a kl c) W) (by kernel_rfl) hQ (fun hHeld => ?_)
  clear hHeld
  generalize ((w.alloc (.cells #[.int .i64 3, .string x, .int .i64 m, .slice a kl c] 24)).alloc (.cells #[.string ⟨#[]⟩, .bool false, .int .i64 0, .int .i64 0] 45)).drew = W at *
  refine wpAnyH_take (i := 0) (v := .pointer (some ⟨w.heap.size, 1, none⟩)) rfl (by kernel_rfl) (by kernel_rfl) (by kernel_rfl) (fun _ _ _ h => h) (Or.inl ⟨by rfl, fun w hSw => by obtain ⟨z0, z1, z2, z3⟩ := hSw; go_simp⟩) hQ ?_
  simp only [Act.put, List.setIfInBounds_toArray, List.set_cons_zero, List.set_cons_succ]
  refine wpAnyH_take (i := 1) (v := .string x) rfl (by kernel_rfl) (by kernel_rfl) (by kernel_rfl) (fun _ _ _ h => h) (Or.inl ⟨by rfl, fun w hSw => by obtain ⟨z0, z1, z2, z3⟩ := hSw; go_simp⟩) hQ ?_
  simp only [Act.put, List.setIfInBounds_toArray, List.set_cons_zero, List.set_cons_succ]
  refine wpAnyH_take (i := 2) (v := .agg #[.int .i64 3, .string x, .int .i64 m, .slice a kl c] ) rfl (by kernel_rfl) (by kernel_rfl) (by kernel_rfl) (fun _ _ _ h => h) (Or.inl ⟨by rfl, fun w hSw => by obtain ⟨z0, z1, z2, z3⟩ := hSw; go_simp⟩) hQ ?_
  simp only [Act.put, List.setIfInBounds_toArray, List.set_cons_zero, List.set_cons_succ]
  refine wpAnyH_take (i := 4) (v := .agg #[.int .i64 3, .string x, .int .i64 m, .slice a kl c] ) rfl (by kernel_rfl) (by kernel_rfl) (by kernel_rfl) (fun _ _ _ h => h) (Or.inl ⟨by rfl, fun w hSw => by obtain ⟨z0, z1, z2, z3⟩ := hSw; go_simp⟩) hQ ?_
  simp only [Act.put, List.setIfInBounds_toArray, List.set_cons_zero, List.set_cons_succ]
  refine wpAnyH_ready (rs := [3, 7]) (by kernel_rfl) (by simp) ?_
  refine AllReadyH.cons rfl (fun K hK => ?_) ?_
  · skip
    go_simp
    go_at_call 154
    refine (hPub _).mono ?_
    rintro e W1 ⟨rfl, hb⟩
    go_wp2
    replace hQ := Q4.below hQ hb
    replace hB := hB.trans (hb.mono hB.size)
    replace hR := hR.below hb
    skip
    refine hK.out _ _ hQ (fun hHeld => ?_)
    clear hK K hHeld hb
    refine wpAnyH_ready (rs := [5, 7]) (by kernel_rfl) (by simp) ?_
    refine AllReadyH.cons rfl (fun K hK => ?_) ?_
    · skip
      go_simp
      go_at_call 155
      refine (hLab _).mono ?_
      rintro e W2 ⟨rfl, hb⟩
      go_wp2
      replace hQ := Q4.below hQ hb
      replace hB := hB.trans (hb.mono hB.size)
      replace hR := hR.below hb
      skip
      refine hK.out _ _ hQ (fun hHeld => ?_)
      clear hK K hHeld hb
      refine wpAnyH_take (i := 6) (v := .agg #[.string x, .bool p, .int .i64 (bI l), .int .i64 0] ) rfl (by kernel_rfl) (by kernel_rfl) (by kernel_rfl) (fun _ _ _ h => h) (Or.inl ⟨by rfl, fun w hSw => by obtain ⟨z0, z1, z2, z3⟩ := hSw; go_simp⟩) hQ ?_
      simp only [Act.put, List.setIfInBounds_toArray, List.set_cons_zero, List.set_cons_succ]
      refine wpAnyH_ready (rs := [7]) (by kernel_rfl) (by simp) ?_
      refine AllReadyH.cons rfl (fun K hK => ?_) AllReadyH.nil
      go_simp
      have hN := F4.new W2 (.string ⟨#[]⟩) (.bool false) (.int .i64 0) (.int .i64 0) 45
      have hgt : w.heap.size + 1 < W2.heap.size := hR.lt
      replace hQ := Q4.alloc hQ (.cells #[.string ⟨#[]⟩, .bool false, .int .i64 0, .int .i64 0] 45)
      replace hB := hB.alloc hB.size (.cells #[.string ⟨#[]⟩, .bool false, .int .i64 0, .int .i64 0] 45)
      replace hR := hR.alloc (.cells #[.string ⟨#[]⟩, .bool false, .int .i64 0, .int .i64 0] 45)
      refine hK.out _ _ hQ (fun hHeld => ?_)
      clear hK K hHeld
      generalize W2.alloc (.cells #[.string ⟨#[]⟩, .bool false, .int .i64 0, .int .i64 0] 45) = Wa at *
      generalize W2.heap.size = N at *
      refine wpAnyH_ready (rs := [8]) (by kernel_rfl) (by simp) ?_
      refine AllReadyH.cons rfl (fun K hK => ?_) AllReadyH.nil
      obtain ⟨n0, n1, n2, n3, g0, g1, g2, g3⟩ := id hN
      go_simp
      replace hN := hN.set4 (.string x) (.bool p) (.int .i64 (bI l)) (.int .i64 0)
      replace hQ := Q4.set4 (M := N) (by omega) hQ (.string x) (.bool p) (.int .i64 (bI l)) (.int .i64 0)
      replace hB := below_set4 (M := N) hB (by omega) (.string x) (.bool p) (.int .i64 (bI l)) (.int .i64 0)
      replace hR := hR.other4 (M := N) (by omega) (.string x) (.bool p) (.int .i64 (bI l)) (.int .i64 0)
      refine hK.out _ _ hQ (fun hHeld => ?_)
      clear hK K hHeld n0 n1 n2 n3 g0 g1 g2 g3
      generalize (World.setCell _ ⟨N, 3, none⟩ _) = Wz at *
      refine wpAnyH_done (by kernel_rfl) ?_ _
      obtain ⟨q0, q1, q2, q3⟩ := id hQ
      go_wp2
      go_loopw [16] (fun t wr => ∃ (j : Nat) (y : Int), j ≤ kl ∧ Hid (j = kl → y = n.getD 0) ∧ t = .int .i64 j ∧ Below w.heap.size w wr ∧ F4 wr N (.string x) (.bool p) (.int .i64 (bI l)) (.int .i64 y) ∧ F4 wr (w.heap.size + 1) (.string ⟨#[]⟩) (.bool false) (.int .i64 0) (.int .i64 0)) (fun t _ => kl - (intOf t).toNat)
      case atStart => exact ⟨0, 0, Nat.zero_le _, fun e => (hzero e.symm).symm, rfl, hB, hN, hR⟩
      case round =>
        clear hB hN hR q0 q1 q2 q3 hQ
        obtain ⟨j, y, hj, HY, rfl, hbw, b3, b1⟩ := hrel
        have hs3 := b3.lt
        have hs1 := b1.lt
        obtain ⟨a0, a1, a2, a3, f0, f1, f2, f3⟩ := id b3
        obtain ⟨d0, d1, d2, d3, e0, e1, e2, e3⟩ := id b1
        by_cases hlt : j < kl
        · obtain ⟨g, o, k, ak, ck, rfl, rfl, rfl, hg, c0, c1, c2, c3⟩ := hkids (by omega)
          have hj0 : j = 0 := by omega
          subst hj0
          have k0 := keep c0 hbw
          have k1 := keep c1 hbw
          have k2 := keep c2 hbw
          have k3 := keep c3 hbw
          go_wp2
          go_roundw
          case rel => exact ⟨1, k, by omega, fun _ => rfl, by go_num, (hbw.setCell (by show w.heap.size ≤ N; omega) _).alloc (by rw [World.size_setCell]; exact hbw.size) _, (b3.set3 _).alloc _, (b1.other (by omega) _).alloc _⟩
          case measure => simp [intOf]
        · have hj0 : j = kl := by omega
          subst hj0
          have HZ : Hid (y = n.getD 0) := HY.out rfl
          clear HY
          go_wp2
          refine bodyPost_ret (v := .agg #[.string x, .bool p, .int .i64 (bI l), .int .i64 y]) (by simp [results, Tryz.results138, go_sem, d0, d1, d2, d3]) rfl ⟨by rw [HZ.out]; rfl, below_set4 hbw (by omega) _ _ _ _⟩
    refine AllReadyH.cons rfl (fun K hK => ?_) AllReadyH.nil
    go_simp
    have hN := F4.new W1 (.string ⟨#[]⟩) (.bool false) (.int .i64 0) (.int .i64 0) 45
    have hgt : w.heap.size + 1 < W1.heap.size := hR.lt
    replace hQ := Q4.alloc hQ (.cells #[.string ⟨#[]⟩, .bool false, .int .i64 0, .int .i64 0] 45)
    replace hB := hB.alloc hB.size (.cells #[.string ⟨#[]⟩, .bool false, .int .i64 0, .int .i64 0] 45)
    replace hR := hR.alloc (.cells #[.string ⟨#[]⟩, .bool false, .int .i64 0, .int .i64 0] 45)
    refine hK.out _ _ hQ (fun hHeld => ?_)
    clear hK K hHeld
    generalize W1.alloc (.cells #[.string ⟨#[]⟩, .bool false, .int .i64 0, .int .i64 0] 45) = Wa at *
    generalize W1.heap.size = N at *
    refine wpAnyH_ready (rs := [5]) (by kernel_rfl) (by simp) ?_
    refine AllReadyH.cons rfl (fun K hK => ?_) AllReadyH.nil
    go_simp
    go_at_call 155
    refine (hLab _).mono ?_
    rintro e W2 ⟨rfl, hb⟩
    go_wp2
    replace hQ := Q4.below hQ hb
    replace hB := hB.trans (hb.mono hB.size)
    replace hR := hR.below hb
    replace hN := hN.below hb
    refine hK.out _ _ hQ (fun hHeld => ?_)
    clear hK K hHeld hb
    refine wpAnyH_take (i := 6) (v := .agg #[.string x, .bool p, .int .i64 (bI l), .int .i64 0] ) rfl (by kernel_rfl) (by kernel_rfl) (by kernel_rfl) (fun _ _ _ h => h) (Or.inl ⟨by rfl, fun w hSw => by obtain ⟨z0, z1, z2, z3⟩ := hSw; go_simp⟩) hQ ?_
    simp only [Act.put, List.setIfInBounds_toArray, List.set_cons_zero, List.set_cons_succ]
    refine wpAnyH_ready (rs := [8]) (by kernel_rfl) (by simp) ?_
    refine AllReadyH.cons rfl (fun K hK => ?_) AllReadyH.nil
    obtain ⟨n0, n1, n2, n3, g0, g1, g2, g3⟩ := id hN
    go_simp
    replace hN := hN.set4 (.string x) (.bool p) (.int .i64 (bI l)) (.int .i64 0)
    replace hQ := Q4.set4 (M := N) (by omega) hQ (.string x) (.bool p) (.int .i64 (bI l)) (.int .i64 0)
    replace hB := below_set4 (M := N) hB (by omega) (.string x) (.bool p) (.int .i64 (bI l)) (.int .i64 0)
    replace hR := hR.other4 (M := N) (by omega) (.string x) (.bool p) (.int .i64 (bI l)) (.int .i64 0)
    refine hK.out _ _ hQ (fun hHeld => ?_)
    clear hK K hHeld n0 n1 n2 n3 g0 g1 g2 g3
    generalize (World.setCell _ ⟨N, 3, none⟩ _) = Wz at *
    refine wpAnyH_done (by kernel_rfl) ?_ _
    obtain ⟨q0, q1, q2, q3⟩ := id hQ
    go_wp2
    go_loopw [16] (fun t wr => ∃ (j : Nat) (y : Int), j ≤ kl ∧ Hid (j = kl → y = n.getD 0) ∧ t = .int .i64 j ∧ Below w.heap.size w wr ∧ F4 wr N (.string x) (.bool p) (.int .i64 (bI l)) (.int .i64 y) ∧ F4 wr (w.heap.size + 1) (.string ⟨#[]⟩) (.bool false) (.int .i64 0) (.int .i64 0)) (fun t _ => kl - (intOf t).toNat)
    case atStart => exact ⟨0, 0, Nat.zero_le _, fun e => (hzero e.symm).symm, rfl, hB, hN, hR⟩
    case round =>
      clear hB hN hR q0 q1 q2 q3 hQ
      obtain ⟨j, y, hj, HY, rfl, hbw, b3, b1⟩ := hrel
      have hs3 := b3.lt
      have hs1 := b1.lt
      obtain ⟨a0, a1, a2, a3, f0, f1, f2, f3⟩ := id b3
      obtain ⟨d0, d1, d2, d3, e0, e1, e2, e3⟩ := id b1
      by_cases hlt : j < kl
      · obtain ⟨g, o, k, ak, ck, rfl, rfl, rfl, hg, c0, c1, c2, c3⟩ := hkids (by omega)
        have hj0 : j = 0 := by omega
        subst hj0
        have k0 := keep c0 hbw
        have k1 := keep c1 hbw
        have k2 := keep c2 hbw
        have k3 := keep c3 hbw
        go_wp2
        go_roundw
        case rel => exact ⟨1, k, by omega, fun _ => rfl, by go_num, (hbw.setCell (by show w.heap.size ≤ N; omega) _).alloc (by rw [World.size_setCell]; exact hbw.size) _, (b3.set3 _).alloc _, (b1.other (by omega) _).alloc _⟩
        case measure => simp [intOf]
      · have hj0 : j = kl := by omega
        subst hj0
        have HZ : Hid (y = n.getD 0) := HY.out rfl
        clear HY
        go_wp2
        refine bodyPost_ret (v := .agg #[.string x, .bool p, .int .i64 (bI l), .int .i64 y]) (by simp [results, Tryz.results138, go_sem, d0, d1, d2, d3]) rfl ⟨by rw [HZ.out]; rfl, below_set4 hbw (by omega) _ _ _ _⟩
  refine AllReadyH.cons rfl (fun K hK => ?_) AllReadyH.nil
  go_simp
  have hN := F4.new W (.string ⟨#[]⟩) (.bool false) (.int .i64 0) (.int .i64 0) 45
  have hgt : w.heap.size + 1 < W.heap.size := hR.lt
  replace hQ := Q4.alloc hQ (.cells #[.string ⟨#[]⟩, .bool false, .int .i64 0, .int .i64 0] 45)
  replace hB := hB.alloc hB.size (.cells #[.string ⟨#[]⟩, .bool false, .int .i64 0, .int .i64 0] 45)
  replace hR := hR.alloc (.cells #[.string ⟨#[]⟩, .bool false, .int .i64 0, .int .i64 0] 45)
  refine hK.out _ _ hQ (fun hHeld => ?_)
  clear hK K hHeld
  generalize W.alloc (.cells #[.string ⟨#[]⟩, .bool false, .int .i64 0, .int .i64 0] 45) = Wa at *
  generalize W.heap.size = N at *
  refine wpAnyH_ready (rs := [3]) (by kernel_rfl) (by simp) ?_
  refine AllReadyH.cons rfl (fun K hK => ?_) AllReadyH.nil
  go_simp
  go_at_call 154
  refine (hPub _).mono ?_
  rintro e W1 ⟨rfl, hb⟩
  go_wp2
  replace hQ := Q4.below hQ hb
  replace hB := hB.trans (hb.mono hB.size)
  replace hR := hR.below hb
  replace hN := hN.below hb
  refine hK.out _ _ hQ (fun hHeld => ?_)
  clear hK K hHeld hb
  refine wpAnyH_ready (rs := [5]) (by kernel_rfl) (by simp) ?_
  refine AllReadyH.cons rfl (fun K hK => ?_) AllReadyH.nil
  go_simp
  go_at_call 155
  refine (hLab _).mono ?_
  rintro e W2 ⟨rfl, hb⟩
  go_wp2
  replace hQ := Q4.below hQ hb
  replace hB := hB.trans (hb.mono hB.size)
  replace hR := hR.below hb
  replace hN := hN.below hb
  refine hK.out _ _ hQ (fun hHeld => ?_)
  clear hK K hHeld hb
  refine wpAnyH_take (i := 6) (v := .agg #[.string x, .bool p, .int .i64 (bI l), .int .i64 0] ) rfl (by kernel_rfl) (by kernel_rfl) (by kernel_rfl) (fun _ _ _ h => h) (Or.inl ⟨by rfl, fun w hSw => by obtain ⟨z0, z1, z2, z3⟩ := hSw; go_simp⟩) hQ ?_
  simp only [Act.put, List.setIfInBounds_toArray, List.set_cons_zero, List.set_cons_succ]
  refine wpAnyH_ready (rs := [8]) (by kernel_rfl) (by simp) ?_
  refine AllReadyH.cons rfl (fun K hK => ?_) AllReadyH.nil
  obtain ⟨n0, n1, n2, n3, g0, g1, g2, g3⟩ := id hN
  go_simp
  replace hN := hN.set4 (.string x) (.bool p) (.int .i64 (bI l)) (.int .i64 0)
  replace hQ := Q4.set4 (M := N) (by omega) hQ (.string x) (.bool p) (.int .i64 (bI l)) (.int .i64 0)
  replace hB := below_set4 (M := N) hB (by omega) (.string x) (.bool p) (.int .i64 (bI l)) (.int .i64 0)
  replace hR := hR.other4 (M := N) (by omega) (.string x) (.bool p) (.int .i64 (bI l)) (.int .i64 0)
  refine hK.out _ _ hQ (fun hHeld => ?_)
  clear hK K hHeld n0 n1 n2 n3 g0 g1 g2 g3
  generalize (World.setCell _ ⟨N, 3, none⟩ _) = Wz at *
  refine wpAnyH_done (by kernel_rfl) ?_ _
  obtain ⟨q0, q1, q2, q3⟩ := id hQ
  go_wp2
  go_loopw [16] (fun t wr => ∃ (j : Nat) (y : Int), j ≤ kl ∧ Hid (j = kl → y = n.getD 0) ∧ t = .int .i64 j ∧ Below w.heap.size w wr ∧ F4 wr N (.string x) (.bool p) (.int .i64 (bI l)) (.int .i64 y) ∧ F4 wr (w.heap.size + 1) (.string ⟨#[]⟩) (.bool false) (.int .i64 0) (.int .i64 0)) (fun t _ => kl - (intOf t).toNat)
  case atStart => exact ⟨0, 0, Nat.zero_le _, fun e => (hzero e.symm).symm, rfl, hB, hN, hR⟩
  case round =>
    clear hB hN hR q0 q1 q2 q3 hQ
    obtain ⟨j, y, hj, HY, rfl, hbw, b3, b1⟩ := hrel
    have hs3 := b3.lt
    have hs1 := b1.lt
    obtain ⟨a0, a1, a2, a3, f0, f1, f2, f3⟩ := id b3
    obtain ⟨d0, d1, d2, d3, e0, e1, e2, e3⟩ := id b1
    by_cases hlt : j < kl
    · obtain ⟨g, o, k, ak, ck, rfl, rfl, rfl, hg, c0, c1, c2, c3⟩ := hkids (by omega)
      have hj0 : j = 0 := by omega
      subst hj0
      have k0 := keep c0 hbw
      have k1 := keep c1 hbw
      have k2 := keep c2 hbw
      have k3 := keep c3 hbw
      go_wp2
      go_roundw
      case rel => exact ⟨1, k, by omega, fun _ => rfl, by go_num, (hbw.setCell (by show w.heap.size ≤ N; omega) _).alloc (by rw [World.size_setCell]; exact hbw.size) _, (b3.set3 _).alloc _, (b1.other (by omega) _).alloc _⟩
      case measure => simp [intOf]
    · have hj0 : j = kl := by omega
      subst hj0
      have HZ : Hid (y = n.getD 0) := HY.out rfl
      clear HY
      go_wp2
      refine bodyPost_ret (v := .agg #[.string x, .bool p, .int .i64 (bI l), .int .i64 y]) (by simp [results, Tryz.results138, go_sem, d0, d1, d2, d3]) rfl ⟨by rw [HZ.out]; rfl, below_set4 hbw (by omega) _ _ _ _⟩
end Go.Proofs.YtchhpinmoagkhaaGreatDoor.face
