/- A map of one's own from names to faces: what it holds, by a plain function. -/
import Derived.Test.YtmkknnofeebknaaDoorProg
import Derived.WalkKit
import Derived.WalkLawsBesides
import Derived.Maps.OwnSet
import Derived.Maps.Views
import Derived.Test.YtmkknnofeebknaaDoorLSFaceSet
import Derived.Test.YtmkknnofeebknaaDoorLSLnkMap
import Derived.Test.YtmkknnofeebknaaDoorLSObjMayC
namespace Go.Proofs.YtmkknnofeebknaaDoor.lnk
open Go.RowKit Go.Maps Go.WideMaps
open Go.Proofs.YtmkknnofeebknaaDoor.syn (isName eqS)
open Go.Proofs.YtmkknnofeebknaaDoor.face (VarD ProcD FaceD keyL eqS_key lawS grown_of_below)
set_option linter.unusedVariables false
set_option linter.unusedSimpArgs false
set_option maxRecDepth 100000

/-- block b is a map that holds, at each name, what f says -/
def MapN (w : World) (b n : Nat) (f : ByteArray → Option Value) : Prop :=
  ∃ D : DataW Value, w.ownsMap Tryd.prog 9 heldE b n D ∧ ∀ x : ByteArray, Maps.has D (keyL x) = (f x).isSome ∧ ∀ v, f x = some v → ∀ z, D.atKey (keyL x) z = .held v
def noFaceV : Value := .agg #[.string ⟨#[]⟩, .slice none 0 0, .slice none 0 0]
theorem zeroF (w : World) : (zeroValue 34).run Tryd.prog w = .ok noFaceV w := by kernel_rfl
section
variable {w w' : World} {b n : Nat} {f : ByteArray → Option Value}
theorem MapN.made (w : World) : MapN (w.alloc (.map #[] 0)) w.heap.size 0 (fun _ => none) :=
  ⟨.map [], World.ownsMap_made _ _ _ _, fun x => ⟨rfl, fun v h => by cases h⟩⟩
theorem MapN.lt (h : MapN w b n f) : b < w.heap.size := by
  obtain ⟨D, h, _⟩ := h
  exact h.lt
theorem MapN.kept {row : Option Nat} (h : MapN w b n f) (hg : w.grownBy w' row) (hne : some b ≠ row) : MapN w' b n f := by
  obtain ⟨D, h, h2⟩ := h
  exact ⟨D, h.kept hg hne, h2⟩
theorem MapN.below (h : MapN w b n f) (hb : Below w.heap.size w w') : MapN w' b n f := h.kept (grown_of_below hb) (by simp)
theorem MapN.setCell (h : MapN w b n f) {a : Addr} (ha : b ≠ a.block) (u : Value) : MapN (w.setCell a u) b n f := by
  obtain ⟨D, h, h2⟩ := h
  exact ⟨D, h.setCell ha u, h2⟩
theorem sameKey_key (x y : ByteArray) : (keyL x).sameKey (keyL y) = eqS x y := eqS_key x y
theorem key_ne {x y : ByteArray} (h : eqS x y = false) : keyL x ≠ keyL y := fun e => by
  have := eqS_key x y
  rw [e, eqS_key, h] at this
  have h2 : eqS y y = true := by unfold eqS; simp
  rw [h2] at this
  cases this
theorem key_eq {x y : ByteArray} (h : eqS x y = true) : keyL x = keyL y := by
  unfold eqS at h
  unfold keyL
  rw [← ByteArray.toList_eq, ← ByteArray.toList_eq]
  rw [beq_iff_eq] at h
  rw [h]
theorem key_isKey (x : ByteArray) : WideAt.IsKeyLit (keyL x) := trivial
/-- what is looked up -/
theorem MapN.look (h : MapN w b n f) (x : ByteArray) (hx : x.size ≤ maxLen) : (Instr.lookup 43 (.map (some b)) (.string x) false).run Tryd.prog w = .ok ((f x).getD noFaceV) w := by
  obtain ⟨D, h, h2⟩ := h
  obtain ⟨v, ps, hrun, hv⟩ := h.lookup lawS Tryd.underlying43 (zeroF w) (zd := .held noFaceV) (zp := []) rfl (keyOf_string_mk Tryd.underlying9 hx)
  rw [hrun]
  obtain ⟨h3, h4⟩ := h2 x
  have e : D.atKey (keyL x) (.held noFaceV) = .held ((f x).getD noFaceV) := by
    cases hf : f x with
    | none => rw [hf] at h3; exact atKey_of_not_has h3 _
    | some u => exact h4 u hf _
  have hv' : heldE v = some (D.atKey (keyL x) (.held noFaceV), ps) := hv
  rw [e] at hv'
  rw [held_inj hv']
/-- what is stored -/
theorem MapN.put {D : DataW Value} {x : ByteArray} {v : Value} (h : ∀ y : ByteArray, Maps.has D (keyL y) = (f y).isSome ∧ ∀ v, f y = some v → ∀ z, D.atKey (keyL y) z = .held v) (hm : IsMap D) : ∀ y : ByteArray, Maps.has (D.put (keyL x) (.held v)) (keyL y) = ((if eqS y x then some v else f y) : Option Value).isSome ∧ ∀ u, (if eqS y x then some v else f y) = some u → ∀ z, (D.put (keyL x) (.held v)).atKey (keyL y) z = .held u := by
  intro y
  cases he : eqS y x with
  | true =>
    rw [key_eq he, if_pos rfl]
    refine ⟨has_put_same hm (key_isKey x) _, fun u hu z => ?_⟩
    cases hu
    exact atKey_put_same hm (key_isKey x) _ _
  | false =>
    rw [if_neg (by decide)]
    refine ⟨(has_put_other (key_ne he) _).trans (h y).1, fun u hu z => ?_⟩
    rw [atKey_put_other (key_ne he)]
    exact (h y).2 u hu z
theorem MapN.store (h : MapN w b n f) (hn : n < maxLen) (x : ByteArray) (hx : x.size ≤ maxLen) (v : Value) : ∃ w', (Instr.mapUpdate 43 (.map (some b)) (.string x) v).run Tryd.prog w = .ok () w' ∧ MapN w' b (n + 1) (fun z => if eqS z x then some v else f z) ∧ w.grownBy w' (some b) := by
  obtain ⟨D, h, h2⟩ := h
  obtain ⟨w', h3, h4, h5⟩ := h.update lawS Tryd.underlying43 hn (keyOf_string_mk Tryd.underlying9 hx) (d := .held v) (ps := []) rfl
  exact ⟨w', h3, ⟨_, h4, MapN.put h2 h.isMap⟩, h5⟩
end
/-- AT THE OPERATION: 'v, ok := m[k]' -/
theorem wpN_look {w : World} {b n : Nat} {f : ByteArray → Option Value} {ops : Array Oper} {rest : List Oper} {o : Oper} {a : Act} {Q : Exit → Act → World → Prop} (hg : o.guard = none) (m x : Operand) (hop : o.op = Op.lookup 43 m x true) (hm : a.eval m = .map (some b)) (h : MapN w b n f) (y : ByteArray) (hy : y.size ≤ maxLen) (hx : a.eval x = .string y)
    (hK : wpList Tryd.prog ops Q rest (a.put o.dst (.tuple #[(f y).getD noFaceV, .bool (f y).isSome])) w) : wpList Tryd.prog ops Q (o :: rest) a w := by
  obtain ⟨D, h, h2⟩ := h
  refine wpList_lookup_own_ok w hg m x 43 hop 9 34 lawS Tryd.underlying43 heldE (zeroF w) (.held noFaceV) [] rfl b n D hm h (.string y) (keyL y) hx (keyOf_string_mk Tryd.underlying9 hy) ?_
  intro v ps hv
  obtain ⟨h3, h4⟩ := h2 y
  have e : D.atKey (keyL y) (.held noFaceV) = .held ((f y).getD noFaceV) := by
    cases hf : f y with
    | none => rw [hf] at h3; exact atKey_of_not_has h3 _
    | some u => exact h4 u hf _
  rw [e] at hv
  rw [held_inj hv, h3]
  exact hK
/-- AT THE OPERATION: 'm[k] = v' -/
theorem wpN_put {w : World} {b n : Nat} {f : ByteArray → Option Value} {ops : Array Oper} {rest : List Oper} {o : Oper} {a : Act} {Q : Exit → Act → World → Prop} (hg : o.guard = none) (m x v : Operand) (hop : o.op = Op.mapUpdate 43 m x v) (hm : a.eval m = .map (some b)) (h : MapN w b n f) (hn : n < maxLen) (y : ByteArray) (hy : y.size ≤ maxLen) (hx : a.eval x = .string y) (u : Value) (hv : a.eval v = u)
    (hK : ∀ w', MapN w' b (n + 1) (fun z => if eqS z y then some u else f z) → w.grownBy w' (some b) → wpList Tryd.prog ops Q rest (a.put o.dst undef) w') : wpList Tryd.prog ops Q (o :: rest) a w := by
  obtain ⟨D, h, h2⟩ := h
  refine wpList_mapUpdate_own w hg m x v 43 hop 9 34 lawS Tryd.underlying43 heldE b n D hm h hn (.string y) u (keyL y) hx hv (keyOf_string_mk Tryd.underlying9 hy) (.held u) [] rfl ?_
  intro w' h3 hg'
  exact hK w' ⟨_, h3, MapN.put h2 h.isMap⟩ hg'
end Go.Proofs.YtmkknnofeebknaaDoor.lnk
