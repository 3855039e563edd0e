/- Bytes in a row of one's own, turned into a text. -/
import Derived.Test.YthfeojjfehbgjaaGreatDoorOPObjPut
import Derived.Laws.BytesArg
namespace Go.Proofs.YthfeojjfehbgjaaGreatDoor.obj
open Go.RowKit Go.ChangeShapes Go.WideShapes
set_option linter.unusedVariables false
theorem bytes_back (l : By) : strOfNums (l.map fun b => (b.toNat : Int)) = ⟨l.toArray⟩ := by
  unfold strOfNums
  congr 2
  rw [List.map_map]
  have : ((fun n : Int => UInt8.ofNat n.toNat) ∘ fun b : UInt8 => (b.toNat : Int)) = id := by
    funext b
    simp
  rw [this, List.map_id]
theorem own_pos {w : World} {b e n k : Nat} {v : Value} {xs : List Value} (h : w.ownsRow b e k v n xs) (hn : 0 < n) : ∃ g c, v = .slice (some ⟨g, 0, none⟩) n c ∧ g < w.heap.size := by
  rcases h.2 with ⟨_, h0⟩ | ⟨g, cap, cur, rfl, _, hg, _⟩
  · omega
  · exact ⟨g, cap, rfl, (Array.getElem?_eq_some_iff.1 hg).1⟩
theorem conv_bytes {w : World} {b : Nat} {v : Value} {l : By} (h : w.ownsRow b 5 1 v l.length (bv l)) (hn : 0 < l.length) (W : World) (hb : Below w.heap.size w W) :
    (convert 33 9 v).run Tryz.prog W = .ok (.string ⟨l.toArray⟩) W := by
  obtain ⟨g, c, rfl, hlt⟩ := own_pos h hn
  rw [← bytes_back]
  refine run_convert_bytes_arg W 33 5 Tryz.underlying33 Tryz.underlying5 g 0 l.length c (l.map fun b => (b.toNat : Int)) (by simp) (fun i hi => ?_) 9 Tryz.underlying9
  have h1 := h.cells (g := g) rfl i (.int .u8 l[i].toNat) (by simp [bv, hi])
  rw [add_plain] at h1
  rw [hb.cell (p := ⟨g, 0 + i, none⟩) hlt, h1]
  simp [hi]
end Go.Proofs.YthfeojjfehbgjaaGreatDoor.obj
