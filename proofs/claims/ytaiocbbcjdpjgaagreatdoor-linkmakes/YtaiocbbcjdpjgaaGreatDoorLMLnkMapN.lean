/- A map of one's own from names to faces: what it holds, by a plain function. A region that draws its order: an operation is taken first, its slot written out. The linker's state in memory; what leaves it as it is; its map of things and its map of modules at an operation of a region that draws. -/
import Derived.Test.YtaiocbbcjdpjgaaGreatDoorProg
import Derived.WalkKit
import Derived.WalkLawsBesides
import Derived.Maps.OwnSet
import Derived.Maps.Views
import Derived.Test.YtaiocbbcjdpjgaaGreatDoorLMFaceMem
import Derived.Test.YtaiocbbcjdpjgaaGreatDoorLMLnkMap
import Derived.Test.YtaiocbbcjdpjgaaGreatDoorLMObjMay
import Derived.OrdersHeld
import Derived.Deep.RegionHeld
import Derived.Laws.Tables
import Derived.OwnWalk
import Derived.Laws.OwnMore
namespace Go.Proofs.YtaiocbbcjdpjgaaGreatDoor.lnk
open Go.RowKit Go.Maps Go.WideMaps
open Go.Proofs.YtaiocbbcjdpjgaaGreatDoor.syn (isName eqS)
open Go.Proofs.YtaiocbbcjdpjgaaGreatDoor.face (VarD ProcD FaceD keyL eqS_key lawS grown_of_below)
set_option linter.unusedVariables false
set_option linter.unusedSimpArgs false
set_option maxRecDepth 100000

/-- block b is a map that holds, at each name, what f says -/
def MapN (w : World) (b n : Nat) (f : ByteArray → Option Value) : Prop :=
  ∃ D : DataW Value, w.ownsMap Tryz.prog 9 heldE b n D ∧ ∀ x : ByteArray, Maps.has D (keyL x) = (f x).isSome ∧ ∀ v, f x = some v → ∀ z, D.atKey (keyL x) z = .held v
def noFaceV : Value := .agg #[.string ⟨#[]⟩, .slice none 0 0, .slice none 0 0]
theorem zeroF (w : World) : (zeroValue 25).run Tryz.prog w = .ok noFaceV w := by kernel_rfl
section
variable {w w' : World} {b n : Nat} {f : ByteArray → Option Value}
theorem MapN.made (w : World) : MapN (w.alloc (.map #[] 0)) w.heap.size 0 (fun _ => none) :=
  ⟨.map [], World.ownsMap_made _ _ _ _, fun x => ⟨rfl, fun v h => by cases h⟩⟩
theorem MapN.lt (h : MapN w b n f) : b < w.heap.size := by
  obtain ⟨D, h, _⟩ := h
  exact h.lt
theorem MapN.kept {row : Option Nat} (h : MapN w b n f) (hg : w.grownBy w' row) (hne : some b ≠ row) : MapN w' b n f := by
  obtain ⟨D, h, h2⟩ := h
  exact ⟨D, h.kept hg hne, h2⟩
theorem MapN.below (h : MapN w b n f) (hb : Below w.heap.size w w') : MapN w' b n f := h.kept (grown_of_below hb) (by simp)
theorem MapN.setCell (h : MapN w b n f) {a : Addr} (ha : b ≠ a.block) (u : Value) : MapN (w.setCell a u) b n f := by
  obtain ⟨D, h, h2⟩ := h
  exact ⟨D, h.setCell ha u, h2⟩
theorem sameKey_key (x y : ByteArray) : (keyL x).sameKey (keyL y) = eqS x y := eqS_key x y
theorem key_ne {x y : ByteArray} (h : eqS x y = false) : keyL x ≠ keyL y := fun e => by
  have := eqS_key x y
  rw [e, eqS_key, h] at this
  have h2 : eqS y y = true := by unfold eqS; simp
  rw [h2] at this
  cases this
theorem key_eq {x y : ByteArray} (h : eqS x y = true) : keyL x = keyL y := by
  unfold eqS at h
  unfold keyL
  rw [← ByteArray.toList_eq, ← ByteArray.toList_eq]
  rw [beq_iff_eq] at h
  rw [h]
theorem key_isKey (x : ByteArray) : WideAt.IsKeyLit (keyL x) := trivial
/-- what is looked up -/
theorem MapN.look (h : MapN w b n f) (x : ByteArray) (hx : x.size ≤ maxLen) : (Instr.lookup 89 (.map (some b)) (.string x) false).run Tryz.prog w = .ok ((f x).getD noFaceV) w := by
  obtain ⟨D, h, h2⟩ := h
  obtain ⟨v, ps, hrun, hv⟩ := h.lookup lawS Tryz.underlying89 (zeroF w) (zd := .held noFaceV) (zp := []) rfl (keyOf_string_mk Tryz.underlying9 hx)
  rw [hrun]
  obtain ⟨h3, h4⟩ := h2 x
  have e : D.atKey (keyL x) (.held noFaceV) = .held ((f x).getD noFaceV) := by
    cases hf : f x with
    | none => rw [hf] at h3; exact atKey_of_not_has h3 _
    | some u => exact h4 u hf _
  have hv' : heldE v = some (D.atKey (keyL x) (.held noFaceV), ps) := hv
  rw [e] at hv'
  rw [held_inj hv']
/-- what is stored -/
theorem MapN.put {D : DataW Value} {x : ByteArray} {v : Value} (h : ∀ y : ByteArray, Maps.has D (keyL y) = (f y).isSome ∧ ∀ v, f y = some v → ∀ z, D.atKey (keyL y) z = .held v) (hm : IsMap D) : ∀ y : ByteArray, Maps.has (D.put (keyL x) (.held v)) (keyL y) = ((if eqS y x then some v else f y) : Option Value).isSome ∧ ∀ u, (if eqS y x then some v else f y) = some u → ∀ z, (D.put (keyL x) (.held v)).atKey (keyL y) z = .held u := by
  intro y
  cases he : eqS y x with
  | true =>
    rw [key_eq he, if_pos rfl]
    refine ⟨has_put_same hm (key_isKey x) _, fun u hu z => ?_⟩
    cases hu
    exact atKey_put_same hm (key_isKey x) _ _
  | false =>
    rw [if_neg (by decide)]
    refine ⟨(has_put_other (key_ne he) _).trans (h y).1, fun u hu z => ?_⟩
    rw [atKey_put_other (key_ne he)]
    exact (h y).2 u hu z
theorem MapN.store (h : MapN w b n f) (hn : n < maxLen) (x : ByteArray) (hx : x.size ≤ maxLen) (v : Value) : ∃ w', (Instr.mapUpdate 89 (.map (some b)) (.string x) v).run Tryz.prog w = .ok () w' ∧ MapN w' b (n + 1) (fun z => if eqS z x then some v else f z) ∧ w.grownBy w' (some b) := by
  obtain ⟨D, h, h2⟩ := h
  obtain ⟨w', h3, h4, h5⟩ := h.update lawS Tryz.underlying89 hn (keyOf_string_mk Tryz.underlying9 hx) (d := .held v) (ps := []) rfl
  exact ⟨w', h3, ⟨_, h4, MapN.put h2 h.isMap⟩, h5⟩
end
/-- AT THE OPERATION: 'v, ok := m[k]' -/
theorem wpN_look {w : World} {b n : Nat} {f : ByteArray → Option Value} {ops : Array Oper} {rest : List Oper} {o : Oper} {a : Act} {Q : Exit → Act → World → Prop} (hg : o.guard = none) (m x : Operand) (hop : o.op = Op.lookup 89 m x true) (hm : a.eval m = .map (some b)) (h : MapN w b n f) (y : ByteArray) (hy : y.size ≤ maxLen) (hx : a.eval x = .string y)
    (hK : wpList Tryz.prog ops Q rest (a.put o.dst (.tuple #[(f y).getD noFaceV, .bool (f y).isSome])) w) : wpList Tryz.prog ops Q (o :: rest) a w := by
  obtain ⟨D, h, h2⟩ := h
  refine wpList_lookup_own_ok w hg m x 89 hop 9 25 lawS Tryz.underlying89 heldE (zeroF w) (.held noFaceV) [] rfl b n D hm h (.string y) (keyL y) hx (keyOf_string_mk Tryz.underlying9 hy) ?_
  intro v ps hv
  obtain ⟨h3, h4⟩ := h2 y
  have e : D.atKey (keyL y) (.held noFaceV) = .held ((f y).getD noFaceV) := by
    cases hf : f y with
    | none => rw [hf] at h3; exact atKey_of_not_has h3 _
    | some u => exact h4 u hf _
  rw [e] at hv
  rw [held_inj hv, h3]
  exact hK
/-- AT THE OPERATION: 'm[k] = v' -/
theorem wpN_put {w : World} {b n : Nat} {f : ByteArray → Option Value} {ops : Array Oper} {rest : List Oper} {o : Oper} {a : Act} {Q : Exit → Act → World → Prop} (hg : o.guard = none) (m x v : Operand) (hop : o.op = Op.mapUpdate 89 m x v) (hm : a.eval m = .map (some b)) (h : MapN w b n f) (hn : n < maxLen) (y : ByteArray) (hy : y.size ≤ maxLen) (hx : a.eval x = .string y) (u : Value) (hv : a.eval v = u)
    (hK : ∀ w', MapN w' b (n + 1) (fun z => if eqS z y then some u else f z) → w.grownBy w' (some b) → wpList Tryz.prog ops Q rest (a.put o.dst undef) w') : wpList Tryz.prog ops Q (o :: rest) a w := by
  obtain ⟨D, h, h2⟩ := h
  refine wpList_mapUpdate_own w hg m x v 89 hop 9 25 lawS Tryz.underlying89 heldE b n D hm h hn (.string y) u (keyL y) hx hv (keyOf_string_mk Tryz.underlying9 hy) (.held u) [] rfl ?_
  intro w' h3 hg'
  exact hK w' ⟨_, h3, MapN.put h2 h.isMap⟩ hg'
end Go.Proofs.YtaiocbbcjdpjgaaGreatDoor.lnk
namespace Go.Proofs.YtaiocbbcjdpjgaaGreatDoor.ord
/-- an operation that yields its value in every world that meets S is taken first; its slot is written out -/
theorem tkd {P : Program} {ops : Array Oper} {Q : Exit → Act → World → Prop} {md : Region.Mode} {S : World → Prop} {i d : Nat} {oi : Oper} {v : Value} {fuel : Nat} {listed : Array Bool} {a : Act} {w : World} (hi : ops[i]? = some oi) (hd : oi.dst = some d)
    (hs : Region.noSelect ops = true) (hf : Region.free md ops listed i = true) (hr : (Region.ready md ops listed).contains i = true)
    (hQ : ∀ c a w, Q (.panic c) (a.put oi.dst v) w → Q (.panic c) a w) (hy : YieldsIf P ops S oi v a) (hS : S w)
    (h : wpAnyH P md ops Q S fuel (listed.setIfInBounds i true) { tmps := a.tmps.setIfInBounds d v, defers := a.defers } w) : wpAnyH P md ops Q S (fuel + 1) listed a w := by
  refine wpAnyH_take hi hs hf hr hQ hy hS ?_
  rw [hd]
  exact h
theorem putd {o : Oper} {a : Act} {v : Value} {d : Nat} (h : o.dst = some d) : a.put o.dst v = { tmps := a.tmps.setIfInBounds d v, defers := a.defers } := by
  rw [h]
  rfl
end Go.Proofs.YtaiocbbcjdpjgaaGreatDoor.ord
namespace Go.Proofs.YtaiocbbcjdpjgaaGreatDoor.lnk
open Go.RowKit Go.Maps Go.WideMaps
open Go.Proofs.YtaiocbbcjdpjgaaGreatDoor.syn (isName eqS)
open Go.Proofs.YtaiocbbcjdpjgaaGreatDoor.mac (BoxC Ins grown_of_below)
open Go.Proofs.YtaiocbbcjdpjgaaGreatDoor.obj (ObjD PlcD RelD Vals ObjAt insV)
open Go.Proofs.YtaiocbbcjdpjgaaGreatDoor.face (VarD ProcD FaceD keyL)
set_option linter.unusedVariables false
set_option linter.unusedSimpArgs false
set_option maxRecDepth 100000
def insC (x : Ins) : List Value := [.int .i64 x.op, .int .i64 x.a, .int .i64 x.b, .int .i64 x.c, .int .i64 x.n]
/-- what the linker has laid so far -/
structure St where
  code : List Ins
  low : Int
  high : Int
  mods : ByteArray → Option Value
  begs : Thg → Option Int
/-- where it lies: its box, its maps, from block N on; how many entries the maps have at most -/
structure Pl where
  N : Nat
  K : Nat
  mb : Nat
  bb : Nat
  ov : Value
structure LS (w : World) (p : Pl) (s : St) (cv : Value) (nm nb : Nat) : Prop where
  box : BoxC w p.K #[cv, .int .i64 s.low, .int .i64 s.high, p.ov, .map (some p.mb), .map (some p.bb)] 92
  row : w.ownsRow p.N 64 5 cv s.code.length (s.code.flatMap insC)
  mm : MapN w p.mb nm s.mods
  bm : MapT w p.bb nb s.begs
  k1 : p.K ≠ p.mb
  k2 : p.K ≠ p.bb
  k3 : p.mb ≠ p.bb
  r1 : cv.ownBlock ≠ some p.K
  r2 : cv.ownBlock ≠ some p.mb
  r3 : cv.ownBlock ≠ some p.bb
  n1 : p.N ≤ p.K
  n2 : p.N ≤ p.mb
  n3 : p.N ≤ p.bb
section
variable {w w' : World} {p : Pl} {s : St} {cv : Value} {nm nb : Nat}
theorem LS.below (h : LS w p s cv nm nb) (hb : Below w.heap.size w w') : LS w' p s cv nm nb :=
  { h with box := h.box.below hb, row := h.row.kept (grown_of_below hb) (by cases cv.ownBlock <;> simp), mm := h.mm.below hb, bm := h.bm.kept (grown_of_below hb) (by simp) }
theorem LS.alloc (h : LS w p s cv nm nb) (o : Obj) : LS (w.alloc o) p s cv nm nb := h.below ((Below.refl _ _).alloc (Nat.le_refl _) o)
theorem LS.drew (h : LS w p s cv nm nb) : LS w.drew p s cv nm nb := h.below (Below.refl _ _).drew
/-- a thing is put -/
theorem LS.putB (h : LS w p s cv nm nb) {t : Thg} {v : Int} (hm : MapT w' p.bb (nb + 1) (putT s.begs t v)) (hg : w.grownBy w' (some p.bb)) : LS w' p { s with begs := putT s.begs t v } cv nm (nb + 1) :=
  { h with box := h.box.grown hg (fun e => h.k2 (Option.some.inj e).symm), row := h.row.kept hg (.inr h.r3), mm := h.mm.kept hg (fun e => h.k3 (Option.some.inj e)), bm := hm }
theorem LS.ob (h : LS w p s cv nm nb) : w.cell? ⟨p.K, 3, none⟩ = some p.ov := h.box.cell 3 rfl
theorem LS.cod (h : LS w p s cv nm nb) : w.cell? ⟨p.K, 0, none⟩ = some cv := h.box.cell 0 rfl
theorem LS.lo (h : LS w p s cv nm nb) : w.cell? ⟨p.K, 1, none⟩ = some (.int .i64 s.low) := h.box.cell 1 rfl
theorem LS.hi (h : LS w p s cv nm nb) : w.cell? ⟨p.K, 2, none⟩ = some (.int .i64 s.high) := h.box.cell 2 rfl
theorem LS.mo (h : LS w p s cv nm nb) : w.cell? ⟨p.K, 4, none⟩ = some (.map (some p.mb)) := h.box.cell 4 rfl
theorem LS.be (h : LS w p s cv nm nb) : w.cell? ⟨p.K, 5, none⟩ = some (.map (some p.bb)) := h.box.cell 5 rfl
theorem LS.shape (h : LS w p s cv nm nb) : ∃ a c, cv = .slice a s.code.length c := by
  rcases h.row.2 with ⟨e, e0⟩ | ⟨g, cap, cur, rfl, _⟩
  · exact ⟨none, 0, by rw [e, e0]⟩
  · exact ⟨_, _, rfl⟩
end
section
variable {w : World} {b n : Nat} {f : Thg → Option Int}
theorem MapT.run_look_ok (h : MapT w b n f) (t : Thg) (ht : t.ok) : (Instr.lookup 90 (.map (some b)) (thgV t) true).run Tryz.prog w = .ok (.tuple #[.int .i64 ((f t).getD 0), .bool (f t).isSome]) w := by
  obtain ⟨D, h, h2⟩ := h
  obtain ⟨l, hl⟩ := key_ok ht
  obtain ⟨v, ps, hrun, hv⟩ := h.look_ok lawT Tryz.underlying90 (zeroI w) (zd := .held (.int .i64 0)) (zp := []) rfl hl
  rw [hrun]
  obtain ⟨h3, h4⟩ := h2 t l hl
  have e : D.atKey l (.held (.int .i64 0)) = .held (.int .i64 ((f t).getD 0)) := by
    cases hf : f t with
    | none => rw [hf] at h3; exact atKey_of_not_has h3 _
    | some u => exact h4 u hf _
  have hv' : heldE v = some (D.atKey l (.held (.int .i64 0)), ps) := hv
  rw [e] at hv'
  rw [held_inj hv', h3]
/-- at a step of a region that draws: 'm[k] = v' -/
theorem MapT.step_put {ops : Array Oper} {o : Oper} {a : Act} {K : Act → World → Prop} {Q : Exit → Act → World → Prop} {E : Prop} (h : MapT w b n f) (hg : o.guard = none) (m x v : Operand) (hop : o.op = Op.mapUpdate 90 m x v) (hm : a.eval m = .map (some b)) (hn : n < maxLen) (t : Thg) (ht : t.ok) (hx : a.eval x = thgV t) (u : Int) (hv : a.eval v = .int .i64 u)
    (hK : ∀ w', MapT w' b (n + 1) (putT f t u) → w.grownBy w' (some b) → K (a.put o.dst undef) w') : if Region.wanted o (yielded ops a.tmps) = true then Oper.wp Tryz.prog o a w K Q else E := by
  have hw : Region.wanted o (yielded ops a.tmps) = true := by simp [Region.wanted, hg]
  rw [if_pos hw]
  obtain ⟨w', hrun, h1, h2⟩ := h.run_store hn t ht u
  unfold Oper.wp
  simp [execOp, hop, hm, hx, hv, hrun, Result.andThen]
  exact hK w' h1 h2
end
section
variable {w : World} {b n : Nat} {f : ByteArray → Option Value}
theorem MapN.run_look_ok (h : MapN w b n f) (x : ByteArray) (hx : x.size ≤ maxLen) : (Instr.lookup 89 (.map (some b)) (.string x) true).run Tryz.prog w = .ok (.tuple #[(f x).getD noFaceV, .bool (f x).isSome]) w := by
  obtain ⟨D, h, h2⟩ := h
  obtain ⟨v, ps, hrun, hv⟩ := h.look_ok face.lawS Tryz.underlying89 (zeroF w) (zd := .held noFaceV) (zp := []) rfl (keyOf_string_mk Tryz.underlying9 hx)
  rw [hrun]
  obtain ⟨h3, h4⟩ := h2 x
  have e : D.atKey (keyL x) (.held noFaceV) = .held ((f x).getD noFaceV) := by
    cases hf : f x with
    | none => rw [hf] at h3; exact atKey_of_not_has h3 _
    | some u => exact h4 u hf _
  have hv' : heldE v = some (D.atKey (keyL x) (.held noFaceV), ps) := hv
  rw [e] at hv'
  rw [held_inj hv', ← h3]
  rfl
theorem MapN.step_put {ops : Array Oper} {o : Oper} {a : Act} {K : Act → World → Prop} {Q : Exit → Act → World → Prop} {E : Prop} (h : MapN w b n f) (hg : o.guard = none) (m x v : Operand) (hop : o.op = Op.mapUpdate 89 m x v) (hm : a.eval m = .map (some b)) (hn : n < maxLen) (y : ByteArray) (hy : y.size ≤ maxLen) (hx : a.eval x = .string y) (u : Value) (hv : a.eval v = u)
    (hK : ∀ w', MapN w' b (n + 1) (fun z => if eqS z y then some u else f z) → w.grownBy w' (some b) → K (a.put o.dst undef) w') : if Region.wanted o (yielded ops a.tmps) = true then Oper.wp Tryz.prog o a w K Q else E := by
  have hw : Region.wanted o (yielded ops a.tmps) = true := by simp [Region.wanted, hg]
  rw [if_pos hw]
  obtain ⟨w', hrun, h1, h2⟩ := h.store hn y hy u
  unfold Oper.wp
  simp [execOp, hop, hm, hx, hv, hrun, Result.andThen]
  exact hK w' h1 h2
end
/-- what is thrown: a trouble -/
def ThrT (m c a : Int) : List PanicEntry := [{ v := .iface 46 (.agg #[.int .i64 m, .int .i64 c, .int .i64 a]), recovered := false }]
theorem oRefuse (m c a : Int) (w : World) : Calls Tryz.prog 80 #[.int .i64 m, .int .i64 c, .int .i64 a] w fun e w' => e = .panicked (ThrT m c a) ∧ w' = w := by
  have c3 : Tryz.prog.cellsOf 46 = 3 := by kernel_rfl
  go_enter Tryz.func80, Tryz.ntmps80
  go_wp2
  exact ⟨rfl, rfl, rfl⟩
set_option maxHeartbeats 1000000 in
/-- what main answers -/
theorem oMain {w : World} {p : Pl} {s : St} {cv : Value} {nm nb : Nat} (h : LS w p s cv nm nb) :
    Calls Tryz.prog 85 #[.pointer (some ⟨p.K, 0, none⟩)] w fun e w' => e = .returned (.tuple #[.int .i64 ((s.begs ⟨2, ⟨#[109, 97, 105, 110]⟩, ⟨#[109, 97, 105, 110]⟩⟩).getD 0), .bool (s.begs ⟨2, ⟨#[109, 97, 105, 110]⟩, ⟨#[109, 97, 105, 110]⟩⟩).isSome]) ∧ w' = w := by
  have m5 := h.be
  have hlk := h.bm.run_look_ok ⟨2, ⟨#[109, 97, 105, 110]⟩, ⟨#[109, 97, 105, 110]⟩⟩ ⟨by decide, by decide, by decide⟩
  unfold thgV at hlk
  dsimp only at hlk
  generalize s.begs ⟨2, ⟨#[109, 97, 105, 110]⟩, ⟨#[109, 97, 105, 110]⟩⟩ = G at *
  go_enter Tryz.func85, Tryz.ntmps85
  go_wp2
  go_ret2
  exact ⟨rfl, rfl⟩
end Go.Proofs.YtaiocbbcjdpjgaaGreatDoor.lnk
