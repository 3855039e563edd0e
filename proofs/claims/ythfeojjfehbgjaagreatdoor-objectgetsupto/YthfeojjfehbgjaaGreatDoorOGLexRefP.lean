/- What the reference's Letter, Digit, Inside, numeral and sign answer: contracts. What the reference's sign answers: a contract. What the reference's Scan answers: a contract. -/
import Derived.Test.YthfeojjfehbgjaaGreatDoorProg
import Derived.WalkKit
import Derived.WalkLawsBesides
import Derived.Outline
import Derived.Test.YthfeojjfehbgjaaGreatDoorOGLexSpec
import Derived.BigQuiet
import Derived.WalkSmall
import Derived.Lib.Strings
import Derived.Deep.QuietTactic
import Derived.OneCell
namespace Go.Proofs.YthfeojjfehbgjaaGreatDoor.lexs
open Go.RowKit
set_option linter.unusedVariables false

theorem ret_bool {x y : Bool} (h : x = y) : Ending.returned (.bool x) = .returned (.bool y) := by rw [h]
theorem ret_i64 {x y : Int} (h : x = y) : Ending.returned (.int .i64 x) = .returned (.int .i64 y) := by rw [h]
/-! ### numeral's ways -/
theorem getL (s : ByteArray) (k : Nat) (h : k < s.size) : s.data.toList[k]'(by simpa using h) = s[k] := rfl
theorem lenL (s : ByteArray) : s.data.toList.length = s.size := by simp
theorem num_bad (s : ByteArray) (k : Nat) (h : k < s.size) (hd : digI (s[k].toNat : Int) = false) : 2 = numE s.data.toList := by
  have : s.data.toList.all digB = false := by
    rw [List.all_eq_false]
    exact ⟨s[k], by rw [← getL s k h]; exact List.getElem_mem _, by unfold digB; simp [hd]⟩
  unfold numE
  rw [if_pos this]
theorem num_more (s : ByteArray) (k : Nat) (h : k < s.size) (hd : digI (s[k].toNat : Int) = true) (ha : (s.data.toList.take k).all digB = true) : (s.data.toList.take (k + 1)).all digB = true := by
  rw [List.take_succ_eq_append_getElem (by simpa using h), List.all_append, ha, getL s k h]
  simp [digB, hd]
theorem headL (s : ByteArray) (h : 0 < s.size) : s.data.toList.headD 0 = s[0] := by
  rw [← getL s 0 h]
  have : s.data.toList ≠ [] := by intro e; have := lenL s; rw [e] at this; simp at this; omega
  obtain ⟨a, r, e⟩ := List.exists_cons_of_ne_nil this
  simp only [e, List.headD_cons, List.getElem_cons_zero]
theorem byte48 (b c : UInt8) (n : Int) (hn : n = (c.toNat : Int)) : ((b.toNat : Int) == n) = (b == c) := by
  subst hn
  rw [Bool.eq_iff_iff]
  simp only [beq_iff_eq]
  constructor
  · intro h; exact UInt8.toNat_inj.1 (by omega)
  · intro h; rw [h]
theorem numE_all (s : ByteArray) (h0 : 0 < s.size) (ha : s.data.toList.all digB = true) : numE s.data.toList =
    if decide (1 < s.size) && (s[0].toNat : Int) == 48 then 2 else if decide (19 < s.size) || (s.size == 19 && (!Op.bytesLess s.toList most && !(s.toList == most))) then 6 else 0 := by
  unfold numE
  rw [if_neg (by simp [ha]), headL s h0, lenL, ByteArray.toList_eq, byte48 _ 48 48 rfl]
theorem nA {s : ByteArray} (h0 : 0 < s.size) (ha : s.data.toList.all digB = true) (h1 : (1 : Int) < (s.size : Int)) (h2 : ((s[0].toNat : Int) == 48) = true) : 2 = numE s.data.toList := by
  rw [numE_all s h0 ha, h2, if_pos (by simp; omega)]
theorem nz {s : ByteArray} (h0 : 0 < s.size) (hz : ((s[0].toNat : Int) == 48) = false ∨ (s.size : Int) ≤ 1) : ¬ (decide (1 < s.size) && (s[0].toNat : Int) == 48) = true := by
  rcases hz with h | h
  · simp [h]
  · simp; omega
theorem nB {s : ByteArray} (h0 : 0 < s.size) (ha : s.data.toList.all digB = true) (hz : ((s[0].toNat : Int) == 48) = false ∨ (s.size : Int) ≤ 1) (h : (19 : Int) < (s.size : Int)) : 6 = numE s.data.toList := by
  rw [numE_all s h0 ha, if_neg (nz h0 hz), if_pos (by simp; omega)]
theorem nC {s : ByteArray} (h0 : 0 < s.size) (ha : s.data.toList.all digB = true) (hz : ((s[0].toNat : Int) == 48) = false ∨ (s.size : Int) ≤ 1) (h : (s.size : Int) = 19) (hc : (!Op.bytesLess s.toList most) = true ∧ (!(s.toList == most)) = true) : 6 = numE s.data.toList := by
  have e : s.size = 19 := by omega
  rw [numE_all s h0 ha, if_neg (nz h0 hz), if_pos (by rw [e, hc.1, hc.2]; rfl)]
theorem nD {s : ByteArray} (h0 : 0 < s.size) (ha : s.data.toList.all digB = true) (hz : ((s[0].toNat : Int) == 48) = false ∨ (s.size : Int) ≤ 1) (h : (s.size : Int) ≤ 19) (hc : ¬ (s.size : Int) = 19 ∨ ((!Op.bytesLess s.toList most) = false ∨ (!(s.toList == most)) = false)) : 0 = numE s.data.toList := by
  rw [numE_all s h0 ha, if_neg (nz h0 hz), if_neg]
  have : ¬ 19 < s.size := by omega
  simp only [this, decide_false, Bool.false_or]
  rcases hc with e | e | e
  · have : (s.size == 19) = false := by simp; omega
    simp [this]
  · rw [e]; simp
  · rw [e]; simp
end Go.Proofs.YthfeojjfehbgjaaGreatDoor.lexs
namespace Go.Proofs.YthfeojjfehbgjaaGreatDoor.lexs
open Go.RowKit
set_option linter.unusedVariables false

def sgL (k : Nat) : List UInt8 := if k = 0 then [61, 61] else [ones.getD (k - 1) 0]
def sg (k : Nat) : ByteArray := ⟨(sgL k).toArray⟩
theorem sg_size (k : Nat) : (sg k).size ≤ 2 := by unfold sg sgL; split <;> simp [ByteArray.size]
theorem sg_pos (k : Nat) : 0 < (sg k).size := by unfold sg sgL; split <;> simp [ByteArray.size]

theorem slice_is (t : TypeId) (ht : Tryz.prog.underlying t = some .string) (s : ByteArray) (i n : Nat) (h : i + n ≤ s.size) (w : World) :
    (Instr.slice t (.string s) (some (.int .i64 (i : Int))) (some (.int .i64 ((i : Int) + (n : Int)))) none).run Tryz.prog w = .ok (.string (s.extract i (i + n))) w := by
  have := run_slice_string (P := Tryz.prog) (w := w) t s .i64 .i64 (i : Int) ((i : Int) + (n : Int)) ht (by omega) (by omega) (by omega)
  rw [this]
  simp only [Int.toNat_natCast]
  congr 4
theorem getD_at (l : List UInt8) (j : Nat) (h : j < l.length) : l.getD j 0 = l[j] := by simp [List.getD, h]
/-- does the k-th sign stand there? -/
def stands (l : List UInt8) (k : Nat) : Bool := (sgL k).isPrefixOf l
theorem isP1 (c : UInt8) (hc : c ≠ 0) (l : List UInt8) : [c].isPrefixOf l = (l.headD 0 == c) := by
  cases l with
  | nil => simp [List.isPrefixOf, hc.symm]
  | cons a r => simp [List.isPrefixOf, Bool.beq_comm]
theorem isP2 (l : List UInt8) : [61, 61].isPrefixOf l = (l.headD 0 == 61 && (l.drop 1).headD 0 == 61) := by
  rcases l with _ | ⟨a, _ | ⟨b, r⟩⟩ <;> simp [List.isPrefixOf, Bool.beq_comm]
theorem ones_pos : ∀ j, j < 19 → ones.getD j 0 ≠ 0 := by decide
theorem stands_first (l : List UInt8) (k : Nat) (hk : k < 20) (h1 : ∀ j, j < k → stands l j = false) (h2 : stands l k = true) : signLen l = (sgL k).length := by
  unfold stands at h1 h2
  unfold signLen
  by_cases h0 : k = 0
  · subst h0
    have : sgL 0 = [61, 61] := rfl
    rw [this, isP2] at h2
    rw [if_pos h2, this]
    rfl
  · have e0 := h1 0 (by omega)
    have : sgL 0 = [61, 61] := rfl
    rw [this, isP2] at e0
    have hk' : sgL k = [ones.getD (k - 1) 0] := by unfold sgL; rw [if_neg h0]
    rw [hk', isP1 _ (ones_pos _ (by omega))] at h2
    have hm : ones.contains (l.headD 0) = true := by
      rw [beq_iff_eq.1 h2, List.contains_iff_mem, getD_at _ _ (show k - 1 < 19 by omega)]
      exact List.getElem_mem _
    rw [if_neg (by rw [e0]; simp), if_pos hm, hk']
    rfl
theorem stands_none (l : List UInt8) (h : ∀ j, j < 20 → stands l j = false) : signLen l = 0 := by
  unfold stands at h
  unfold signLen
  have e0 := h 0 (by omega)
  have : sgL 0 = [61, 61] := rfl
  rw [this, isP2] at e0
  rw [if_neg (by rw [e0]; simp), if_neg]
  intro hm
  rw [List.contains_iff_mem] at hm
  obtain ⟨j, hj, e⟩ := List.mem_iff_getElem.1 hm
  have hj' : j < 19 := hj
  have hs := h (j + 1) (by omega)
  have hk' : sgL (j + 1) = [ones.getD j 0] := rfl
  rw [hk', isP1 _ (ones_pos _ hj'), getD_at _ _ hj, e] at hs
  simp at hs
theorem sg_data (k : Nat) : (sg k).data.toList = sgL k := by simp [sg]
theorem stands_iff (s : ByteArray) (i k : Nat) (hi : i ≤ s.size) (x : ByteArray) (hx : x = sg k) : stands (s.data.toList.drop i) k = true ↔ i + x.size ≤ s.size ∧ ((s.extract i (i + x.size)).toList == x.toList) = true := by
  have hd : x.data.toList = sgL k := by rw [hx, sg_data]
  have hl : x.size = (sgL k).length := by rw [← hd, lenL]
  unfold stands
  rw [List.isPrefixOf_iff_prefix, List.prefix_iff_eq_take, beq_iff_eq, Lib.extract_toList, ByteArray.toList_eq, hd, hl, Nat.add_sub_cancel_left]
  constructor
  · intro h
    refine ⟨?_, h.symm⟩
    have h2 := congrArg List.length h
    rw [List.length_take, List.length_drop, lenL] at h2
    omega
  · intro h
    exact h.2.symm
end Go.Proofs.YthfeojjfehbgjaaGreatDoor.lexs
namespace Go.Proofs.YthfeojjfehbgjaaGreatDoor.lexs
open Go.RowKit
set_option linter.unusedVariables false

theorem tokInfo : (Tryz.prog.info? 126).map (fun i => (i.zero, i.size, i.bytes)) = some (some (.agg #[.int .i64 0, .string ⟨#[]⟩, .int .i64 0]), 3, 32) := by kernel_rfl
/-- a box of two cells that lies right behind the old memory -/
theorem boxes {w wr : World} {x y : Value} {T : TypeId} (h : Below (w.heap.size + 1) (w.alloc (.cells #[x, y] T)) wr) :
    wr.cell? ⟨w.heap.size, 0, none⟩ = some x ∧ wr.cell? ⟨w.heap.size, 1, none⟩ = some y ∧ wr.frozen? ⟨w.heap.size, 0, none⟩ = false ∧ wr.frozen? ⟨w.heap.size, 1, none⟩ = false ∧ w.heap.size + 1 ≤ wr.heap.size := by
  refine ⟨?_, ?_, ?_, ?_, ?_⟩
  · rw [h.cell (p := ⟨w.heap.size, 0, none⟩) (by simp)]; simp
  · rw [h.cell (p := ⟨w.heap.size, 1, none⟩) (by simp)]; simp
  · rw [h.frozen (p := ⟨w.heap.size, 0, none⟩) (by simp)]; simp
  · rw [h.frozen (p := ⟨w.heap.size, 1, none⟩) (by simp)]; simp
  · have := h.size; simpa using this
theorem cell_three_new (w : World) (a b c : Value) (t : TypeId) (g : Nat) (hg : g = w.heap.size) : ∀ j u, [a, b, c][j]? = some u → (w.alloc (.cells #[a, b, c] t)).cell? ((⟨g, 0, none⟩ : Addr).add j) = some u := by
  subst hg
  intro j u hj
  match j, hj with
  | 0, hj => simp at hj; subst hj; simp [Addr.add]
  | 1, hj => simp at hj; subst hj; simp [Addr.add]
  | 2, hj => simp at hj; subst hj; simp [Addr.add]
theorem one_cells (a b : Int) (x : ByteArray) : ∀ u ∈ [Value.int .i64 a, .string x, .int .i64 b], u.oneCell' = true := by
  intro u hu
  simp at hu
  rcases hu with rfl | rfl | rfl <;> rfl
theorem rel_tok {B : Nat} {W0 W w1 : World} {e : TypeId} {k n : Nat} {v : Value} {xs : List Value} (hbw : Below (B + 1) W0 W) (hB : B + 1 ≤ W.heap.size) (hown : W.ownsRow (B + 1) e k v n xs) (hg : W.grownBy w1 v.ownBlock) : Below (B + 1) W0 w1 :=
  hbw.grown hg hB fun j hj => (hown.lt _ hj).1
theorem below_old {w wr : World} {o : Obj} (h : Below (w.heap.size + 1) (w.alloc o) wr) : Below w.heap.size w wr :=
  ((Below.refl _ _).alloc (Nat.le_refl _) o).trans (h.mono (by omega))
theorem ownsRow_le {w : World} {base base' size n : Nat} {e : TypeId} {v : Value} {xs : List Value} (h : w.ownsRow base e size v n xs) (hb : base' ≤ base) : w.ownsRow base' e size v n xs := by
  obtain ⟨h1, h2⟩ := h
  refine ⟨h1, ?_⟩
  rcases h2 with h2 | ⟨g, cap, cur, hv, hg, hh, r⟩
  · exact Or.inl h2
  · exact Or.inr ⟨g, cap, cur, hv, by omega, hh, r⟩
theorem own_tok {w : World} {B : Nat} {e : TypeId} {v : Value} {acc : List Tok} {s : ByteArray} {p n : Nat} {k : Int}
    (h : w.ownsRow B e 3 v (acc.length + 1) (cellsOf acc ++ [.int .i64 k, .string (s.extract p (p + n)), .int .i64 (p : Int)])) :
    w.ownsRow B e 3 v (acc ++ [(⟨k, (s.data.toList.drop p).take n, p⟩ : Tok)]).length (cellsOf (acc ++ [⟨k, (s.data.toList.drop p).take n, p⟩])) := by
  rw [cellsOf_snoc, ← extract_is, List.length_append]
  exact h
theorem dig_pos {s : ByteArray} {p n : Nat} (hp : p < s.size) (hd : digI (s[p].toNat : Int) = true) (hr : run insB (s.data.toList.drop p) = n) : 0 < n := by
  rw [← hr, drop_cons s p hp]
  exact run_pos _ _ _ (digB_insB hd)
theorem bcell {W w1 : World} (hb : Below W.heap.size W w1) : (∀ b o, b < W.heap.size → w1.cell? ⟨b, o, none⟩ = W.cell? ⟨b, o, none⟩) ∧ (∀ b o, b < W.heap.size → w1.frozen? ⟨b, o, none⟩ = W.frozen? ⟨b, o, none⟩) :=
  ⟨fun b o h => hb.cell (p := ⟨b, o, none⟩) h, fun b o h => hb.frozen (p := ⟨b, o, none⟩) h⟩
theorem own_below {B : Nat} {e : TypeId} {k : Nat} {v : Value} {n : Nat} {xs : List Value} {w w' : World} (h : w.ownsRow B e k v n xs) (hb : Below w.heap.size w w') : w'.ownsRow B e k v n xs :=
  h.kept (row := none) ⟨hb.os, hb.tape, hb.output, hb.size, fun j hj _ => hb.block j hj⟩ (by cases hv : v.ownBlock <;> simp)
theorem own_ne {w : World} {B : Nat} {e : TypeId} {k n : Nat} {v : Value} {xs : List Value} (h : w.ownsRow B e k v n xs) {o : Nat} {y : Option Nat} : v.ownBlock ≠ some (⟨w.heap.size, o, y⟩ : Addr).block := by
  intro he
  have := (h.lt _ he).2
  simp at this
theorem sign_facts {s b : ByteArray} {p n : Nat} {w wr w2 : World} {o o' : Obj} {e : TypeId} {v : Value} {xs : List Value} (hlt : p < s.size) (hown : wr.ownsRow (w.heap.size + 1) e 3 v n xs) (hbw : Below (w.heap.size + 1) (w.alloc o) wr) (hB : w.heap.size + 1 ≤ wr.heap.size)
    (hbs : b.size = signLen (s.data.toList.drop p)) (hb2 : Below (wr.alloc o').heap.size (wr.alloc o') w2) :
    (∀ b o, b < wr.heap.size + 1 → w2.cell? ⟨b, o, none⟩ = (wr.alloc o').cell? ⟨b, o, none⟩) ∧ (∀ b o, b < wr.heap.size + 1 → w2.frozen? ⟨b, o, none⟩ = (wr.alloc o').frozen? ⟨b, o, none⟩) ∧ wr.heap.size + 1 ≤ w2.heap.size ∧
      Hid (signLen (s.data.toList.drop p) = b.size) ∧ p + b.size ≤ s.size ∧
      (∀ w, (Instr.slice 9 (.string s) (some (.int .i64 (p : Int))) (some (.int .i64 ((p : Int) + (b.size : Int)))) none).run Tryz.prog w = .ok (.string (s.extract p (p + b.size))) w) ∧
      Hid (w2.ownsRow (w.heap.size + 1) e 3 v n xs ∧ Below (w.heap.size + 1) (w.alloc o) w2) := by
  have hs := hb2.size
  rw [World.size_alloc] at hs hb2
  have hble : p + b.size ≤ s.size := by
    have := signLen_le (s.data.toList.drop p)
    rw [List.length_drop, len_L] at this
    omega
  refine ⟨fun b o h => hb2.cell (p := ⟨b, o, none⟩) h, fun b o h => hb2.frozen (p := ⟨b, o, none⟩) h, hs, hbs.symm, hble, slice_is 9 Tryz.underlying9 s p b.size hble, ?_, ?_⟩
  · exact own_below (hown.alloc _) (by rw [World.size_alloc]; exact hb2)
  · exact (hbw.alloc (by omega) _).trans (hb2.mono (by omega))
/-- behind a token -/
theorem tok_rel {s : ByteArray} {p n f : Nat} {k : Int} {acc : List Tok} {R : Res} {W0 w1 : World} {B : Nat} {e : TypeId} {v : Value} (hp : p < s.size) (hal : acc.length ≤ p) (hf : s.size ≤ p + (f + 1)) (hst : stepL (s.data.toList.drop p) = .tok k n)
    (hR : scanL (f + 1) (s.data.toList.drop p) p acc = R) (hown : w1.ownsRow (B + 1) e 3 v (acc.length + 1) (cellsOf acc ++ [.int .i64 k, .string (s.extract p (p + n)), .int .i64 (p : Int)])) (hbw : Below (B + 1) W0 w1) :
    0 < n ∧ ∃ (p' f' : Nat) (acc' : List Tok), p' ≤ s.size ∧ Value.int .i64 ((p : Int) + (n : Int)) = .int .i64 (p' : Int) ∧ s.size ≤ p' + f' ∧ Hid (scanL f' (s.data.toList.drop p') p' acc' = R) ∧ w1.ownsRow (B + 1) e 3 v acc'.length (cellsOf acc') ∧ acc'.length ≤ p' ∧ Below (B + 1) W0 w1 := by
  have hg := go_tok hp hst hR
  exact ⟨hg.2.1, p + n, f, acc ++ [(⟨k, (s.data.toList.drop p).take n, p⟩ : Tok)], hg.2.2, by rw [Int.natCast_add], by omega, by exact hg.1, own_tok hown, by rw [List.length_append]; simp; omega, hbw⟩
end Go.Proofs.YthfeojjfehbgjaaGreatDoor.lexs
