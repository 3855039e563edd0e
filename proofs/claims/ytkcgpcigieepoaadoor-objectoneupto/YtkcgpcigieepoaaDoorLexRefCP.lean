/- What the reference's Scan answers: a contract. -/
import Derived.Test.YtkcgpcigieepoaaDoorProg
import Derived.WalkKit
import Derived.WalkLawsBesides
import Derived.Outline
import Derived.WalkSmall
import Derived.OneCell
import Derived.Test.YtkcgpcigieepoaaDoorLexSteps
import Derived.Test.YtkcgpcigieepoaaDoorLexRefP
import Derived.Test.YtkcgpcigieepoaaDoorLexRefBP
namespace Go.Proofs.YtkcgpcigieepoaaDoor.lexs
open Go.RowKit
set_option linter.unusedVariables false

theorem tokInfo : (Tryd.prog.info? 102).map (fun i => (i.zero, i.size, i.bytes)) = some (some (.agg #[.int .i64 0, .string ⟨#[]⟩, .int .i64 0]), 3, 32) := by kernel_rfl
/-- a box of two cells that lies right behind the old memory -/
theorem boxes {w wr : World} {x y : Value} {T : TypeId} (h : Below (w.heap.size + 1) (w.alloc (.cells #[x, y] T)) wr) :
    wr.cell? ⟨w.heap.size, 0, none⟩ = some x ∧ wr.cell? ⟨w.heap.size, 1, none⟩ = some y ∧ wr.frozen? ⟨w.heap.size, 0, none⟩ = false ∧ wr.frozen? ⟨w.heap.size, 1, none⟩ = false ∧ w.heap.size + 1 ≤ wr.heap.size := by
  refine ⟨?_, ?_, ?_, ?_, ?_⟩
  · rw [h.cell (p := ⟨w.heap.size, 0, none⟩) (by simp)]; simp
  · rw [h.cell (p := ⟨w.heap.size, 1, none⟩) (by simp)]; simp
  · rw [h.frozen (p := ⟨w.heap.size, 0, none⟩) (by simp)]; simp
  · rw [h.frozen (p := ⟨w.heap.size, 1, none⟩) (by simp)]; simp
  · have := h.size; simpa using this
theorem cell_three_new (w : World) (a b c : Value) (t : TypeId) (g : Nat) (hg : g = w.heap.size) : ∀ j u, [a, b, c][j]? = some u → (w.alloc (.cells #[a, b, c] t)).cell? ((⟨g, 0, none⟩ : Addr).add j) = some u := by
  subst hg
  intro j u hj
  match j, hj with
  | 0, hj => simp at hj; subst hj; simp [Addr.add]
  | 1, hj => simp at hj; subst hj; simp [Addr.add]
  | 2, hj => simp at hj; subst hj; simp [Addr.add]
theorem one_cells (a b : Int) (x : ByteArray) : ∀ u ∈ [Value.int .i64 a, .string x, .int .i64 b], u.oneCell' = true := by
  intro u hu
  simp at hu
  rcases hu with rfl | rfl | rfl <;> rfl
theorem rel_tok {B : Nat} {W0 W w1 : World} {e : TypeId} {k n : Nat} {v : Value} {xs : List Value} (hbw : Below (B + 1) W0 W) (hB : B + 1 ≤ W.heap.size) (hown : W.ownsRow (B + 1) e k v n xs) (hg : W.grownBy w1 v.ownBlock) : Below (B + 1) W0 w1 :=
  hbw.grown hg hB fun j hj => (hown.lt _ hj).1
theorem below_old {w wr : World} {o : Obj} (h : Below (w.heap.size + 1) (w.alloc o) wr) : Below w.heap.size w wr :=
  ((Below.refl _ _).alloc (Nat.le_refl _) o).trans (h.mono (by omega))
theorem ownsRow_le {w : World} {base base' size n : Nat} {e : TypeId} {v : Value} {xs : List Value} (h : w.ownsRow base e size v n xs) (hb : base' ≤ base) : w.ownsRow base' e size v n xs := by
  obtain ⟨h1, h2⟩ := h
  refine ⟨h1, ?_⟩
  rcases h2 with h2 | ⟨g, cap, cur, hv, hg, hh, r⟩
  · exact Or.inl h2
  · exact Or.inr ⟨g, cap, cur, hv, by omega, hh, r⟩
theorem own_tok {w : World} {B : Nat} {e : TypeId} {v : Value} {acc : List Tok} {s : ByteArray} {p n : Nat} {k : Int}
    (h : w.ownsRow B e 3 v (acc.length + 1) (cellsOf acc ++ [.int .i64 k, .string (s.extract p (p + n)), .int .i64 (p : Int)])) :
    w.ownsRow B e 3 v (acc ++ [(⟨k, (s.data.toList.drop p).take n, p⟩ : Tok)]).length (cellsOf (acc ++ [⟨k, (s.data.toList.drop p).take n, p⟩])) := by
  rw [cellsOf_snoc, ← extract_is, List.length_append]
  exact h
theorem dig_pos {s : ByteArray} {p n : Nat} (hp : p < s.size) (hd : digI (s[p].toNat : Int) = true) (hr : run insB (s.data.toList.drop p) = n) : 0 < n := by
  rw [← hr, drop_cons s p hp]
  exact run_pos _ _ _ (digB_insB hd)
theorem bcell {W w1 : World} (hb : Below W.heap.size W w1) : (∀ b o, b < W.heap.size → w1.cell? ⟨b, o, none⟩ = W.cell? ⟨b, o, none⟩) ∧ (∀ b o, b < W.heap.size → w1.frozen? ⟨b, o, none⟩ = W.frozen? ⟨b, o, none⟩) :=
  ⟨fun b o h => hb.cell (p := ⟨b, o, none⟩) h, fun b o h => hb.frozen (p := ⟨b, o, none⟩) h⟩
theorem own_below {B : Nat} {e : TypeId} {k : Nat} {v : Value} {n : Nat} {xs : List Value} {w w' : World} (h : w.ownsRow B e k v n xs) (hb : Below w.heap.size w w') : w'.ownsRow B e k v n xs :=
  h.kept (row := none) ⟨hb.os, hb.tape, hb.output, hb.size, fun j hj _ => hb.block j hj⟩ (by cases hv : v.ownBlock <;> simp)
theorem own_ne {w : World} {B : Nat} {e : TypeId} {k n : Nat} {v : Value} {xs : List Value} (h : w.ownsRow B e k v n xs) {o : Nat} {y : Option Nat} : v.ownBlock ≠ some (⟨w.heap.size, o, y⟩ : Addr).block := by
  intro he
  have := (h.lt _ he).2
  simp at this
theorem sign_facts {s b : ByteArray} {p n : Nat} {w wr w2 : World} {o o' : Obj} {e : TypeId} {v : Value} {xs : List Value} (hlt : p < s.size) (hown : wr.ownsRow (w.heap.size + 1) e 3 v n xs) (hbw : Below (w.heap.size + 1) (w.alloc o) wr) (hB : w.heap.size + 1 ≤ wr.heap.size)
    (hbs : b.size = signLen (s.data.toList.drop p)) (hb2 : Below (wr.alloc o').heap.size (wr.alloc o') w2) :
    (∀ b o, b < wr.heap.size + 1 → w2.cell? ⟨b, o, none⟩ = (wr.alloc o').cell? ⟨b, o, none⟩) ∧ (∀ b o, b < wr.heap.size + 1 → w2.frozen? ⟨b, o, none⟩ = (wr.alloc o').frozen? ⟨b, o, none⟩) ∧ wr.heap.size + 1 ≤ w2.heap.size ∧
      Hid (signLen (s.data.toList.drop p) = b.size) ∧ p + b.size ≤ s.size ∧
      (∀ w, (Instr.slice 9 (.string s) (some (.int .i64 (p : Int))) (some (.int .i64 ((p : Int) + (b.size : Int)))) none).run Tryd.prog w = .ok (.string (s.extract p (p + b.size))) w) ∧
      Hid (w2.ownsRow (w.heap.size + 1) e 3 v n xs ∧ Below (w.heap.size + 1) (w.alloc o) w2) := by
  have hs := hb2.size
  rw [World.size_alloc] at hs hb2
  have hble : p + b.size ≤ s.size := by
    have := signLen_le (s.data.toList.drop p)
    rw [List.length_drop, len_L] at this
    omega
  refine ⟨fun b o h => hb2.cell (p := ⟨b, o, none⟩) h, fun b o h => hb2.frozen (p := ⟨b, o, none⟩) h, hs, hbs.symm, hble, slice_is 9 Tryd.underlying9 s p b.size hble, ?_, ?_⟩
  · exact own_below (hown.alloc _) (by rw [World.size_alloc]; exact hb2)
  · exact (hbw.alloc (by omega) _).trans (hb2.mono (by omega))
/-- behind a token -/
theorem tok_rel {s : ByteArray} {p n f : Nat} {k : Int} {acc : List Tok} {R : Res} {W0 w1 : World} {B : Nat} {e : TypeId} {v : Value} (hp : p < s.size) (hal : acc.length ≤ p) (hf : s.size ≤ p + (f + 1)) (hst : stepL (s.data.toList.drop p) = .tok k n)
    (hR : scanL (f + 1) (s.data.toList.drop p) p acc = R) (hown : w1.ownsRow (B + 1) e 3 v (acc.length + 1) (cellsOf acc ++ [.int .i64 k, .string (s.extract p (p + n)), .int .i64 (p : Int)])) (hbw : Below (B + 1) W0 w1) :
    0 < n ∧ ∃ (p' f' : Nat) (acc' : List Tok), p' ≤ s.size ∧ Value.int .i64 ((p : Int) + (n : Int)) = .int .i64 (p' : Int) ∧ s.size ≤ p' + f' ∧ Hid (scanL f' (s.data.toList.drop p') p' acc' = R) ∧ w1.ownsRow (B + 1) e 3 v acc'.length (cellsOf acc') ∧ acc'.length ≤ p' ∧ Below (B + 1) W0 w1 := by
  have hg := go_tok hp hst hR
  exact ⟨hg.2.1, p + n, f, acc ++ [(⟨k, (s.data.toList.drop p).take n, p⟩ : Tok)], hg.2.2, by rw [Int.natCast_add], by omega, by exact hg.1, own_tok hown, by rw [List.length_append]; simp; omega, hbw⟩
end Go.Proofs.YtkcgpcigieepoaaDoor.lexs
