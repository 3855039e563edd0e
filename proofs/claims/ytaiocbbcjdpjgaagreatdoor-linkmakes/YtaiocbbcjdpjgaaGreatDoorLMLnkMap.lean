/- A map of one's own from things to numbers: what it holds, by a plain function. -/
import Derived.Test.YtaiocbbcjdpjgaaGreatDoorProg
import Derived.WalkKit
import Derived.WalkLawsBesides
import Derived.Maps.OwnSet
import Derived.Maps.Views
import Derived.DeepKeys4
import Derived.Below
namespace Go.Proofs.YtaiocbbcjdpjgaaGreatDoor.lnk
open Go.RowKit Go.Maps Go.WideMaps
set_option linter.unusedVariables false
set_option linter.unusedSimpArgs false
set_option maxRecDepth 100000
/-- what a reloc can ask for -/
structure Thg where
  kind : Int
  module : ByteArray
  name : ByteArray
deriving DecidableEq
def thgV (t : Thg) : Value := .agg #[.int .i64 t.kind, .string t.module, .string t.name]
def Thg.ok (t : Thg) : Prop := (Lit.int .i64 t.kind).wf = true ∧ t.module.size ≤ maxLen ∧ t.name.size ≤ maxLen
theorem laidOut : laidOutB Tryz.prog = true := by kernel_rfl
theorem rowT : (133 : TypeId) < Tryz.prog.types.size := of_decide_eq_true (by kernel_rfl)
theorem wideT : (match Tryz.prog.underlying 133 with | some (.array _ _) | some (.struct _) => true | _ => false) = true := by kernel_rfl
theorem lawT : Keyed Tryz.prog 133 := Keyed.of_law (deep_law_laid laidOut (m := 3) (by omega) rowT (by kernel_rfl) wideT)
theorem thgV_inj {a b : Thg} (h : thgV a = thgV b) : a = b := by
  obtain ⟨a1, a2, a3⟩ := a
  obtain ⟨b1, b2, b3⟩ := b
  simp [thgV] at h
  simp [h]
theorem key_ok {t : Thg} (h : t.ok) : ∃ l, keyOf Tryz.prog 133 (thgV t) = some l := by
  obtain ⟨h1, h2, h3⟩ := h
  have c3 : Tryz.prog.cellsOf 133 = 3 := by kernel_rfl
  have ci : Tryz.prog.cellsOf 3 = 1 := by kernel_rfl
  have cs : Tryz.prog.cellsOf 9 = 1 := by kernel_rfl
  have hkt : Tryz.prog.keyType 133 = true := by kernel_rfl
  have hf : Value.formed Tryz.prog 133 (thgV t) = true := by simp [Value.formed, Tryz.underlying133, c3, thgV]
  have hl : ∀ d, Tryz.prog.keyLits (d + 2) 133 (thgV t).cells.toList = some [.int .i64 t.kind, .string t.module.data.toList, .string t.name.data.toList] := fun d => by
    simp [Program.keyLits, Tryz.underlying133, Tryz.underlying3, Tryz.underlying9, thgV, Value.cells, c3, ci, cs, h1, h2, h3]
  obtain ⟨d, hd⟩ : ∃ d, Tryz.prog.types.size + 1 = d + 2 := ⟨Tryz.prog.types.size - 1, by kernel_rfl⟩
  refine ⟨.string (keyBytes [.int .i64 t.kind, .string t.module.data.toList, .string t.name.data.toList]), ?_⟩
  unfold keyOf
  rw [Tryz.underlying133]
  simp only [hkt, hf, Bool.and_self, if_true]
  rw [hd, hl d]
  rfl
/-- an element reads as itself -/
def heldE (v : Value) : Option (DataW Value × List MemPlace) := some (.held v, [])
theorem held_inj {v v' : Value} {ps : List MemPlace} (h : heldE v = some (.held v', ps)) : v = v' := by
  unfold heldE at h
  simp only [Option.some.injEq, Prod.mk.injEq, DataW.held.injEq] at h
  exact h.1
/-- block b is a map that holds, at each thing, what f says -/
def MapT (w : World) (b n : Nat) (f : Thg → Option Int) : Prop :=
  ∃ D : DataW Value, w.ownsMap Tryz.prog 133 heldE b n D ∧ ∀ t l, keyOf Tryz.prog 133 (thgV t) = some l → Maps.has D l = (f t).isSome ∧ ∀ v, f t = some v → ∀ z, D.atKey l z = .held (.int .i64 v)
theorem zeroI (w : World) : (zeroValue 3).run Tryz.prog w = .ok (.int .i64 0) w := by kernel_rfl
def putT (f : Thg → Option Int) (t : Thg) (v : Int) : Thg → Option Int := fun z => if z = t then some v else f z
section
variable {w w' : World} {b n : Nat} {f : Thg → Option Int}
theorem MapT.made (w : World) : MapT (w.alloc (.map #[] 0)) w.heap.size 0 (fun _ => none) :=
  ⟨.map [], World.ownsMap_made _ _ _ _, fun t l _ => ⟨rfl, fun v h => by cases h⟩⟩
theorem MapT.lt (h : MapT w b n f) : b < w.heap.size := by
  obtain ⟨D, h, _⟩ := h
  exact h.lt
theorem MapT.kept {row : Option Nat} (h : MapT w b n f) (hg : w.grownBy w' row) (hne : some b ≠ row) : MapT w' b n f := by
  obtain ⟨D, h, h2⟩ := h
  exact ⟨D, h.kept hg hne, h2⟩
theorem MapT.setCell (h : MapT w b n f) {a : Addr} (ha : b ≠ a.block) (u : Value) : MapT (w.setCell a u) b n f := by
  obtain ⟨D, h, h2⟩ := h
  exact ⟨D, h.setCell ha u, h2⟩
theorem MapT.run_look (h : MapT w b n f) (t : Thg) (ht : t.ok) : (Instr.lookup 90 (.map (some b)) (thgV t) false).run Tryz.prog w = .ok (.int .i64 ((f t).getD 0)) w := by
  obtain ⟨D, h, h2⟩ := h
  obtain ⟨l, hl⟩ := key_ok ht
  obtain ⟨v, ps, hrun, hv⟩ := h.lookup lawT Tryz.underlying90 (zeroI w) (zd := .held (.int .i64 0)) (zp := []) rfl hl
  rw [hrun]
  obtain ⟨h3, h4⟩ := h2 t l hl
  have e : D.atKey l (.held (.int .i64 0)) = .held (.int .i64 ((f t).getD 0)) := by
    cases hf : f t with
    | none => rw [hf] at h3; exact atKey_of_not_has h3 _
    | some u => exact h4 u hf _
  have hv' : heldE v = some (D.atKey l (.held (.int .i64 0)), ps) := hv
  rw [e] at hv'
  rw [held_inj hv']
theorem MapT.put {D : DataW Value} {t : Thg} {l : Lit} {v : Int} (ht : keyOf Tryz.prog 133 (thgV t) = some l) (h : ∀ t l, keyOf Tryz.prog 133 (thgV t) = some l → Maps.has D l = (f t).isSome ∧ ∀ v, f t = some v → ∀ z, D.atKey l z = .held (.int .i64 v)) (hm : IsMap D) :
    ∀ y k, keyOf Tryz.prog 133 (thgV y) = some k → Maps.has (D.put l (.held (.int .i64 v))) k = (putT f t v y).isSome ∧ ∀ u, putT f t v y = some u → ∀ z, (D.put l (.held (.int .i64 v))).atKey k z = .held (.int .i64 u) := by
  intro y k hk
  unfold putT
  by_cases he : y = t
  · subst he
    rw [ht] at hk
    cases hk
    rw [if_pos rfl]
    refine ⟨has_put_same hm (lawT.key ht) _, fun u hu z => ?_⟩
    cases hu
    exact atKey_put_same hm (lawT.key ht) _ _
  · rw [if_neg he]
    have hne : k ≠ l := fun e => by
      subst e
      exact he (thgV_inj (lawT.inj hk ht))
    refine ⟨(has_put_other hne _).trans (h y k hk).1, fun u hu z => ?_⟩
    rw [atKey_put_other hne]
    exact (h y k hk).2 u hu z
theorem MapT.run_store (h : MapT w b n f) (hn : n < maxLen) (t : Thg) (ht : t.ok) (v : Int) : ∃ w', (Instr.mapUpdate 90 (.map (some b)) (thgV t) (.int .i64 v)).run Tryz.prog w = .ok () w' ∧ MapT w' b (n + 1) (putT f t v) ∧ w.grownBy w' (some b) := by
  obtain ⟨D, h, h2⟩ := h
  obtain ⟨l, hl⟩ := key_ok ht
  obtain ⟨w', h3, h4, h5⟩ := h.update lawT Tryz.underlying90 hn hl (d := .held (.int .i64 v)) (ps := []) rfl
  exact ⟨w', h3, ⟨_, h4, MapT.put hl h2 h.isMap⟩, h5⟩
/-- AT THE OPERATION: 'v, ok := m[k]' -/
theorem MapT.wp_look {ops : Array Oper} {rest : List Oper} {o : Oper} {a : Act} {Q : Exit → Act → World → Prop} (h : MapT w b n f) (hg : o.guard = none) (m x : Operand) (hop : o.op = Op.lookup 90 m x true) (hm : a.eval m = .map (some b)) (t : Thg) (ht : t.ok) (hx : a.eval x = thgV t)
    (hK : wpList Tryz.prog ops Q rest (a.put o.dst (.tuple #[.int .i64 ((f t).getD 0), .bool (f t).isSome])) w) : wpList Tryz.prog ops Q (o :: rest) a w := by
  obtain ⟨D, h, h2⟩ := h
  obtain ⟨l, hl⟩ := key_ok ht
  refine wpList_lookup_own_ok w hg m x 90 hop 133 3 lawT Tryz.underlying90 heldE (zeroI w) (.held (.int .i64 0)) [] rfl b n D hm h (thgV t) l hx hl ?_
  intro v ps hv
  obtain ⟨h3, h4⟩ := h2 t l hl
  have e : D.atKey l (.held (.int .i64 0)) = .held (.int .i64 ((f t).getD 0)) := by
    cases hf : f t with
    | none => rw [hf] at h3; exact atKey_of_not_has h3 _
    | some u => exact h4 u hf _
  rw [e] at hv
  rw [held_inj hv, h3]
  exact hK
/-- AT THE OPERATION: 'm[k] = v' -/
theorem MapT.wp_put {ops : Array Oper} {rest : List Oper} {o : Oper} {a : Act} {Q : Exit → Act → World → Prop} (h : MapT w b n f) (hg : o.guard = none) (m x v : Operand) (hop : o.op = Op.mapUpdate 90 m x v) (hm : a.eval m = .map (some b)) (hn : n < maxLen) (t : Thg) (ht : t.ok) (hx : a.eval x = thgV t) (u : Int) (hv : a.eval v = .int .i64 u)
    (hK : ∀ w', MapT w' b (n + 1) (putT f t u) → w.grownBy w' (some b) → wpList Tryz.prog ops Q rest (a.put o.dst undef) w') : wpList Tryz.prog ops Q (o :: rest) a w := by
  obtain ⟨D, h, h2⟩ := h
  obtain ⟨l, hl⟩ := key_ok ht
  refine wpList_mapUpdate_own w hg m x v 90 hop 133 3 lawT Tryz.underlying90 heldE b n D hm h hn (thgV t) (.int .i64 u) l hx hv hl (.held (.int .i64 u)) [] rfl ?_
  intro w' h3 hg'
  exact hK w' ⟨_, h3, MapT.put hl h2 h.isMap⟩ hg'
end
end Go.Proofs.YtaiocbbcjdpjgaaGreatDoor.lnk
