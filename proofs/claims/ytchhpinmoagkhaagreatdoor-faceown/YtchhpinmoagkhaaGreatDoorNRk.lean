/- A node that is made in a box, kid by kid, while the reader reads: as Parse does it, the box in block n. -/
import Derived.Test.YtchhpinmoagkhaaGreatDoorProg
import Derived.WalkKit
import Derived.WalkLawsBesides
import Derived.WalkSmall
import Derived.Test.YtchhpinmoagkhaaGreatDoorNRc
namespace Go.Proofs.YtchhpinmoagkhaaGreatDoor.syn
open Go.RowKit
open Go.Proofs.YtchhpinmoagkhaaGreatDoor.lexs (Tok own_shape)
set_option linter.unusedVariables false

section
variable {r n : Nat} {L : Value} {ts : List Tok} {s : St} {wk : World} {k m : Int} {x : ByteArray} {kv : Value} {ks : List Tree}
/-- the reader in block r, the node's box in block n behind it, its kids in a row of their own behind both -/
structure MP (n r : Nat) (L : Value) (ts : List Tok) (wk : World) (s : St) (k : Int) (x : ByteArray) (m : Int) (kv : Value) (ks : List Tree) : Prop where
  rd : Rd wk r L ts s
  box : Box4 wk n (.int .i64 k) (.string x) (.int .i64 m) kv
  rn : r < n
  own : ∀ g, L.ownBlock = some g → g < n
  kids : Kids (n + 1) (fun b => n + 1 ≤ b ∧ b < wk.heap.size ∧ some b ≠ kv.ownBlock) wk kv ks
theorem MP.size (h : MP n r L ts wk s k x m kv ks) : n < wk.heap.size := h.box.lt
theorem MP.nr (h : MP n r L ts wk s k x m kv ks) : kv.ownBlock ≠ some r := fun e => by have h1 := (h.kids.blk e).1; have h2 := h.rn; omega
theorem MP.nb (h : MP n r L ts wk s k x m kv ks) : kv.ownBlock ≠ some n := fun e => by have h1 := (h.kids.blk e).1; omega
theorem MP.step (h : MP n r L ts wk s k x m kv ks) {w' : World} {s' : St} (hR : Rd w' r L ts s') (hF : Fr r wk w') : MP n r L ts w' s' k x m kv ks :=
  ⟨hR, h.box.fr hF (by have := h.rn; omega), h.rn, h.own, h.kids.grown hF (.inr h.nr) (fun b hb => ⟨hb.2.1, by have := h.rn; simp; omega⟩) (fun b hb => ⟨hb.1, Nat.lt_of_lt_of_le hb.2.1 hF.size, hb.2.2⟩)⟩
theorem MP.alloc (h : MP n r L ts wk s k x m kv ks) (o : Obj) : MP n r L ts (wk.alloc o) s k x m kv ks := h.step (h.rd.alloc o) (Fr.al _ _)
theorem MP.text (h : MP n r L ts wk s k x m kv ks) (x' : ByteArray) : MP n r L ts (wk.setCell ⟨n, 1, none⟩ (.string x')) s k x' m kv ks :=
  ⟨h.rd.setNew (by have := h.rn; omega) (fun e => by have := h.own _ e; omega) _, h.box.set1 _, h.rn, h.own, h.kids.grown ((Fr.refl n wk).set 1 _) (.inr h.nb) (fun b hb => ⟨hb.2.1, by simp; omega⟩) (fun b hb => ⟨hb.1, by rw [World.size_setCell]; exact hb.2.1, hb.2.2⟩)⟩
theorem MP.pushed {vs : List Q4} (h : MP n r L ts wk s k x m kv ks) (ho : wk.ownsRow (n + 1) 24 4 kv ks.length (flat4 vs)) (ha : AllLie (fun b => n + 1 ≤ b ∧ b < wk.heap.size ∧ some b ≠ kv.ownBlock) wk ks vs)
    {t : Tree} {q : Q4} (hL : Lies (fun b => n + 1 ≤ b ∧ b < wk.heap.size ∧ some b ≠ kv.ownBlock) wk t q.v) {w4 : World} {v' : Value} {o : Obj} (hown' : w4.ownsRow (n + 1) 24 4 v' (ks.length + 1) (flat4 vs ++ [q.1, q.2.1, q.2.2.1, q.2.2.2]))
    (hgrow : (wk.alloc o).grownBy w4 kv.ownBlock) (hfr : v'.ownBlock = kv.ownBlock ∨ v'.ownBlock = some (wk.heap.size + 1)) : MP n r L ts (w4.setCell ⟨n, 3, none⟩ v') s k x m v' (ks ++ [t]) := by
  have hz := h.size
  have hrn := h.rn
  have hkb : ∀ g, kv.ownBlock = some g → n + 1 ≤ g ∧ g < wk.heap.size := fun g hg => ho.lt g hg
  have hG : wk.grownBy w4 kv.ownBlock := grown_trans (World.grownBy_alloc wk _ _) hgrow
  have s4 := hG.size
  have n1 : v'.ownBlock ≠ some n := fun e => by have := (hown'.lt _ e).1; omega
  have hsame : ∀ b, (n + 1 ≤ b ∧ b < wk.heap.size ∧ some b ≠ kv.ownBlock) → ∀ j, (w4.setCell ⟨n, 3, none⟩ v').cell? ⟨b, j, none⟩ = wk.cell? ⟨b, j, none⟩ := fun b hb j => by
    rw [World.cell?_setCell_other _ _ _ _ (by simp <;> omega)]
    exact World.cell?_of_block (a := ⟨b, j, none⟩) (hG.block b hb.2.1 hb.2.2)
  have hQ : ∀ b, (n + 1 ≤ b ∧ b < wk.heap.size ∧ some b ≠ kv.ownBlock) → (n + 1 ≤ b ∧ b < (w4.setCell ⟨n, 3, none⟩ v').heap.size ∧ some b ≠ v'.ownBlock) := fun b hb => ⟨hb.1, by rw [World.size_setCell]; omega, fun e => by
    rcases hfr with e' | e'
    · exact hb.2.2 (e.trans e')
    · rw [e'] at e
      have : b = wk.heap.size + 1 := by simpa using e
      omega⟩
  have hR4 := h.rd.grown hG h.nr (by cases e : L.ownBlock with | none => exact .inl rfl | some g => exact .inr (fun e2 => by have h1 := h.own g e; have h2 := (hkb g e2.symm).1; omega))
  refine ⟨hR4.setNew (by omega) (fun e => by have := h.own _ e; omega) _, (h.box.grown hG h.nb).set3 _, h.rn, h.own, vs ++ [q], ?_, AllLie.snoc (hL.to hQ hsame) (ha.to hQ hsame)⟩
  rw [flat4_snoc, List.length_append]
  exact ownsRow_setCell_other hown' n1 _
end
end Go.Proofs.YtchhpinmoagkhaaGreatDoor.syn
