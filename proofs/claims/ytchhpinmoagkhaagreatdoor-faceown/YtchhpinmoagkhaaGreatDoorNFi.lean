/- A map of one's own that is a set of names: how many are known. What the program's refuse and enter answer: contracts. A fault is thrown. The state of the program while it goes over a module: where it lies, and what turns it. What turns the state of the program, one by one. -/
import Derived.Test.YtchhpinmoagkhaaGreatDoorProg
import Derived.WalkKit
import Derived.WalkLawsBesides
import Derived.Maps.OwnSet
import Derived.Test.YtchhpinmoagkhaaGreatDoorNFa
import Derived.Outline
import Derived.WalkSmall
import Derived.BigQuiet
import Derived.Deep.QuietTactic
import Derived.Deep.RegionWith
import Derived.Maps.RangeWalk
import Derived.Maps.AppendAt
import Derived.Test.YtchhpinmoagkhaaGreatDoorNFc
namespace Go.Proofs.YtchhpinmoagkhaaGreatDoor.face
open Go.RowKit Go.Maps Go.WideMaps
open Go.Proofs.YtchhpinmoagkhaaGreatDoor.syn (isName eqS)
set_option linter.unusedVariables false
set_option linter.unusedSimpArgs false
set_option maxRecDepth 100000

/-! how many names are known: plain facts -/
def keyL (x : ByteArray) : Lit := .string x.data.toList
def keysL (l : List ByteArray) : List Lit := l.map keyL
theorem eqS_key (x y : ByteArray) : (keyL x).sameKey (keyL y) = eqS x y := by
  show (x.data.toList == y.data.toList) = eqS x y
  unfold eqS
  rw [ByteArray.toList_eq, ByteArray.toList_eq]
theorem among_key (l : List ByteArray) (x : ByteArray) : ((keysL l).any fun y => y.sameKey (keyL x)) = among l x := by
  unfold keysL among
  rw [List.any_map]
  congr 1
  funext y
  exact eqS_key y x
theorem fold_le : ∀ (l acc : List Lit), (l.foldl addKey acc).length ≤ acc.length + l.length
  | [], acc => by simp
  | x :: r, acc => by
    rw [List.foldl_cons]
    have h1 := fold_le r (addKey acc x)
    have h2 : (addKey acc x).length ≤ acc.length + 1 := by unfold addKey; split <;> simp
    simp only [List.length_cons]
    omega
theorem fold_apart : ∀ (l seen : List ByteArray), (((keysL l).foldl addKey (keysL seen)).length == seen.length + l.length) = apartB seen l
  | [], seen => by simp [keysL, apartB]
  | x :: r, seen => by
    show (((keyL x :: keysL r).foldl addKey (keysL seen)).length == seen.length + (r.length + 1)) = (!among seen x && apartB (seen ++ [x]) r)
    rw [List.foldl_cons]
    unfold addKey
    rw [among_key]
    cases h : among seen x
    · simp only [Bool.false_eq_true, if_false, Bool.not_false, Bool.true_and]
      have e : keysL seen ++ [keyL x] = keysL (seen ++ [x]) := by simp [keysL]
      have := fold_apart r (seen ++ [x])
      rw [e, ← this]
      simp only [List.length_append, List.length_cons, List.length_nil]
      congr 1
      omega
    · simp only [if_true, Bool.not_true, Bool.false_and]
      have := fold_le (keysL r) (keysL seen)
      have e1 : (keysL seen).length = seen.length := by simp [keysL]
      have e2 : (keysL r).length = r.length := by simp [keysL]
      rw [beq_eq_false_iff_ne]
      show (List.foldl addKey (keysL seen) (keysL r)).length ≠ _
      omega
def setD (l : List ByteArray) : DataW Unit := setOf (.agg []) (keysL l)
theorem setD_size (l : List ByteArray) : (Maps.size (setD l) == l.length) = apartB [] l := by
  unfold setD
  rw [size_setOf _ _ (fun x hx => by obtain ⟨y, _, rfl⟩ := List.mem_map.1 hx; trivial)]
  have := fold_apart l []
  simpa [keysL] using this
theorem setD_snoc (l : List ByteArray) (x : ByteArray) : setD (l ++ [x]) = (setD l).put (keyL x) (.agg []) := by
  unfold setD keysL
  rw [List.map_append, List.map_singleton, setOf_snoc]

/-! the map while it is filled -/
theorem lawS : Keyed Tryz.prog 9 := string_keyed Tryz.underlying9
theorem isName_size {x : ByteArray} (h : isName x = true) : x.size ≤ maxLen := by
  unfold isName at h
  simp only [Bool.and_eq_true, decide_eq_true_eq] at h
  have := h.1.1.1.2
  unfold maxLen
  omega
theorem key_name {x : ByteArray} (h : isName x = true) : keyOf Tryz.prog 9 (.string x) = some (keyL x) := keyOf_string_mk Tryz.underlying9 (isName_size h)
theorem grown_of_below {w w' : World} (hb : Below w.heap.size w w') : w.grownBy w' none := ⟨hb.os, hb.tape, hb.output, hb.size, fun j hj _ => hb.block j hj⟩
theorem grown_cell {w w' : World} {row : Option Nat} (hg : w.grownBy w' row) {a : Addr} {v : Value} (h : w.cell? a = some v) (hne : some a.block ≠ row) : w'.cell? a = some v := by
  have := hg.block a.block (World.block_lt_of_cell? w a h) hne
  unfold World.cell? at h ⊢
  rw [this]
  exact h
end Go.Proofs.YtchhpinmoagkhaaGreatDoor.face
namespace Go.Proofs.YtchhpinmoagkhaaGreatDoor.face
open Go.RowKit Go.Maps Go.WideMaps
open Go.Proofs.YtchhpinmoagkhaaGreatDoor.syn (isName eqS)
set_option linter.unusedVariables false
set_option linter.unusedSimpArgs false
set_option maxRecDepth 100000

/-- what is thrown -/
def Thrown (c a : Int) : List PanicEntry := [{ v := .iface 27 (.agg #[.int .i64 c, .int .i64 a]), recovered := false }]
theorem oRefuse (D : Nat) (c a : Int) (w : World) (h : w.cell? ⟨D, 7, none⟩ = some (.int .i64 a)) :
    Calls Tryz.prog 137 #[.pointer (some ⟨D, 0, none⟩), .int .i64 c] w fun e w' => e = .panicked (Thrown c a) ∧ w' = w := by
  unfold Thrown
  go_enter Tryz.func137, Tryz.ntmps137
  go_wp2
  exact ⟨rfl, rfl, rfl⟩
theorem has_setD (l : List ByteArray) (x : ByteArray) : Maps.has (setD l) (keyL x) = among l x := by
  unfold setD
  rw [has_setOf _ _ _ (fun y hy => by obtain ⟨z, _, rfl⟩ := List.mem_map.1 hy; trivial)]
  exact among_key l x
theorem size_apart {l : List ByteArray} (h : apartB [] l = true) : Maps.size (setD l) = l.length := by
  have := setD_size l
  rw [h] at this
  simpa using this
theorem zeroU (w : World) : (zeroValue 74).run Tryz.prog w = .ok (.agg #[]) w := by kernel_rfl
theorem apart_snoc : ∀ (l seen : List ByteArray) (x : ByteArray), apartB seen (l ++ [x]) = (apartB seen l && !among (seen ++ l) x)
  | [], seen, x => by simp [apartB]
  | y :: r, seen, x => by
    show (!among seen y && apartB (seen ++ [y]) (r ++ [x])) = ((!among seen y && apartB (seen ++ [y]) r) && !among (seen ++ y :: r) x)
    rw [apart_snoc r (seen ++ [y]) x, Bool.and_assoc]
    simp
set_option maxHeartbeats 2000000 in
theorem oEnter (D b : Nat) (L : List ByteArray) (x : ByteArray) (most : Nat) (a : Int) (w : World) (hD : w.cell? ⟨D, 7, none⟩ = some (.int .i64 a)) (hown : w.ownsMap Tryz.prog 9 (unitElem (H := Unit)) b L.length (setD L)) (hA : apartB [] L = true) (hx : x.size ≤ 1000) (hm : most ≤ 1000) (hl : L.length ≤ 1000) :
    Calls Tryz.prog 113 #[.pointer (some ⟨D, 0, none⟩), .map (some b), .string x, .int .i64 most] w fun e w' =>
      (among L x = true ∧ e = .panicked (Thrown 5 a) ∧ Below w.heap.size w w') ∨ (among L x = false ∧ most ≤ L.length ∧ e = .panicked (Thrown 1 a) ∧ Below w.heap.size w w') ∨
      (among L x = false ∧ L.length < most ∧ e = .returned (.tuple #[]) ∧ w'.ownsMap Tryz.prog 9 (unitElem (H := Unit)) b (L ++ [x]).length (setD (L ++ [x])) ∧ apartB [] (L ++ [x]) = true ∧ w.grownBy w' (some b)) := by
  have hkey : keyOf Tryz.prog 9 (.string x) = some (keyL x) := keyOf_string_mk Tryz.underlying9 (by unfold maxLen; omega)
  have hsz := size_apart hA
  have hhas := has_setD L x
  have hD1 := fun ob => cell_new hD ob
  cases hm1 : among L x
  · rw [hm1] at hhas
    by_cases hle : most ≤ L.length
    · go_enter Tryz.func113, Tryz.ntmps113
      go_wp2_with first
        | (at_lookup; refine wpList_lookup_own_unit _ rfl _ _ 72 rfl 9 74 lawS Tryz.underlying72 (zeroU _) b _ _ rfl hown _ _ rfl hkey ?_; rw [hhas])
        | (at_len; refine wpList_len_own _ rfl _ 72 rfl 9 74 Tryz.underlying72 (unitElem (H := Unit)) b _ _ rfl (hown.alloc _) ?_; rw [hsz])
        | (go_at_call 137; refine (oRefuse D _ a _ (hD1 _)).mono ?_; rintro e w2 ⟨rfl, hw2⟩; obtain rfl := hw2.symm)
        | go_in
      exact ⟨rfl, Or.inr (Or.inl ⟨trivial, hle, rfl, (Below.refl _ _).alloc (Nat.le_refl _) _⟩)⟩
    · have hlt : L.length < most := by omega
      have hA2 : apartB [] (L ++ [x]) = true := by rw [apart_snoc, hA, List.nil_append, hm1]; rfl
      go_enter Tryz.func113, Tryz.ntmps113
      go_wp2_with first
        | (at_lookup; refine wpList_lookup_own_unit _ rfl _ _ 72 rfl 9 74 lawS Tryz.underlying72 (zeroU _) b _ _ rfl hown _ _ rfl hkey ?_; rw [hhas])
        | (at_len; refine wpList_len_own _ rfl _ 72 rfl 9 74 Tryz.underlying72 (unitElem (H := Unit)) b _ _ rfl (hown.alloc _) ?_; rw [hsz])
        | (at_mapUpdate; refine wpList_mapUpdate_own _ rfl _ _ _ 72 rfl 9 74 lawS Tryz.underlying72 (unitElem (H := Unit)) b _ _ rfl (hown.alloc _) (by unfold maxLen; omega) _ _ _ rfl rfl hkey _ [] unitElem_mk ?_; intro w5 hown5 hgrow5)
        | go_in
      go_end0
      exact ⟨rfl, by rw [setD_snoc]; exact hown5, (((grown_of_below ((Below.refl w.heap.size w).alloc (Nat.le_refl _) _)).but _).trans hgrow5)⟩
  · rw [hm1] at hhas
    go_enter Tryz.func113, Tryz.ntmps113
    go_wp2_with first
      | (at_lookup; refine wpList_lookup_own_unit _ rfl _ _ 72 rfl 9 74 lawS Tryz.underlying72 (zeroU _) b _ _ rfl hown _ _ rfl hkey ?_; rw [hhas])
      | (go_at_call 137; refine (oRefuse D _ a _ (hD1 _)).mono ?_; rintro e w2 ⟨rfl, hw2⟩; obtain rfl := hw2.symm)
      | go_in
    exact ⟨rfl, Or.inl ⟨trivial, rfl, (Below.refl _ _).alloc (Nat.le_refl _) _⟩⟩
end Go.Proofs.YtchhpinmoagkhaaGreatDoor.face
namespace Go.Proofs.YtchhpinmoagkhaaGreatDoor.face
open Go.RowKit Go.Maps
set_option linter.unusedVariables false

/-- where a block turns that lies below them -/
theorem FR.grown' {X : Nat → Prop} {B : Nat} {w w' : World} {vv pv : Value} {V : List VarD} {P : List (ProcD × Value)} {row : Option Nat} (h : FR X B w vv pv V P) (hg : w.grownBy w' row) (hr : ∀ b, row = some b → vv.ownBlock ≠ some b ∧ pv.ownBlock ≠ some b ∧ b < B) : FR X B w' vv pv V P := by
  have hv : vv.ownBlock = none ∨ vv.ownBlock ≠ row := by
    cases e : vv.ownBlock with
    | none => exact .inl rfl
    | some b => exact .inr (fun e2 => (hr b e2.symm).1 e)
  have hp : pv.ownBlock = none ∨ pv.ownBlock ≠ row := by
    cases e : pv.ownBlock with
    | none => exact .inl rfl
    | some b => exact .inr (fun e2 => (hr b e2.symm).2.1 e)
  refine ⟨h.ov.kept hg hv, h.op.kept hg hp, fun q hq => ?_, h.dj, h.xv, h.xp⟩
  exact (h.par q hq).to (fun b hb => ⟨hb.1, Nat.lt_of_lt_of_le hb.2.1 hg.size, hb.2.2⟩) (fun b hb o v hc => cell_grown hg hc (fun e => by have h1 := (hr b e).2.2; have h2 := hb.1; omega))
abbrev SetIn (w : World) (b : Nat) (l : List ByteArray) : Prop := w.ownsMap Tryz.prog 9 (unitElem (H := Unit)) b l.length (setD l)
/-- the cells of the state -/
structure DC (w : World) (D : Nat) (x0 x1 x2 x3 x4 x5 x6 x7 : Value) : Prop where
  c0 : w.cell? ⟨D, 0, none⟩ = some x0
  c1 : w.cell? ⟨D, 1, none⟩ = some x1
  c2 : w.cell? ⟨D, 2, none⟩ = some x2
  c3 : w.cell? ⟨D, 3, none⟩ = some x3
  c4 : w.cell? ⟨D, 4, none⟩ = some x4
  c5 : w.cell? ⟨D, 5, none⟩ = some x5
  c6 : w.cell? ⟨D, 6, none⟩ = some x6
  c7 : w.cell? ⟨D, 7, none⟩ = some x7
  fz : ∀ k, w.frozen? ⟨D, k, none⟩ = false
section
variable {w w' : World} {D : Nat} {x0 x1 x2 x3 x4 x5 x6 x7 : Value}
theorem DC.lt (h : DC w D x0 x1 x2 x3 x4 x5 x6 x7) : D < w.heap.size := World.block_lt_of_cell? w ⟨D, 0, none⟩ h.c0
theorem DC.block (h : DC w D x0 x1 x2 x3 x4 x5 x6 x7) (hb : w'.heap[D]? = w.heap[D]?) : DC w' D x0 x1 x2 x3 x4 x5 x6 x7 :=
  ⟨(World.cell?_of_block (a := ⟨D, 0, none⟩) hb).trans h.c0, (World.cell?_of_block (a := ⟨D, 1, none⟩) hb).trans h.c1, (World.cell?_of_block (a := ⟨D, 2, none⟩) hb).trans h.c2, (World.cell?_of_block (a := ⟨D, 3, none⟩) hb).trans h.c3, (World.cell?_of_block (a := ⟨D, 4, none⟩) hb).trans h.c4, (World.cell?_of_block (a := ⟨D, 5, none⟩) hb).trans h.c5, (World.cell?_of_block (a := ⟨D, 6, none⟩) hb).trans h.c6, (World.cell?_of_block (a := ⟨D, 7, none⟩) hb).trans h.c7,
    fun k => (World.frozen?_of_block (a := ⟨D, k, none⟩) hb).trans (h.fz k)⟩
theorem DC.grown {row : Option Nat} (h : DC w D x0 x1 x2 x3 x4 x5 x6 x7) (hg : w.grownBy w' row) (hne : row ≠ some D) : DC w' D x0 x1 x2 x3 x4 x5 x6 x7 := h.block (hg.block D h.lt (fun e => hne e.symm))
theorem frozen_set {w : World} {D k o : Nat} {v : Value} (h : ∀ k, w.frozen? ⟨D, k, none⟩ = false) : (w.setCell ⟨D, o, none⟩ v).frozen? ⟨D, k, none⟩ = false := by simp [h k]
theorem DC.set0 (h : DC w D x0 x1 x2 x3 x4 x5 x6 x7) (v : Value) : DC (w.setCell ⟨D, 0, none⟩ v) D v x1 x2 x3 x4 x5 x6 x7 :=
  ⟨World.cell?_setCell_same _ _ _ h.c0, by rw [World.cell?_setCell_other _ _ _ _ (by simp)]; exact h.c1, by rw [World.cell?_setCell_other _ _ _ _ (by simp)]; exact h.c2, by rw [World.cell?_setCell_other _ _ _ _ (by simp)]; exact h.c3, by rw [World.cell?_setCell_other _ _ _ _ (by simp)]; exact h.c4, by rw [World.cell?_setCell_other _ _ _ _ (by simp)]; exact h.c5, by rw [World.cell?_setCell_other _ _ _ _ (by simp)]; exact h.c6, by rw [World.cell?_setCell_other _ _ _ _ (by simp)]; exact h.c7, fun k => frozen_set h.fz⟩
theorem DC.set1 (h : DC w D x0 x1 x2 x3 x4 x5 x6 x7) (v : Value) : DC (w.setCell ⟨D, 1, none⟩ v) D x0 v x2 x3 x4 x5 x6 x7 :=
  ⟨by rw [World.cell?_setCell_other _ _ _ _ (by simp)]; exact h.c0, World.cell?_setCell_same _ _ _ h.c1, by rw [World.cell?_setCell_other _ _ _ _ (by simp)]; exact h.c2, by rw [World.cell?_setCell_other _ _ _ _ (by simp)]; exact h.c3, by rw [World.cell?_setCell_other _ _ _ _ (by simp)]; exact h.c4, by rw [World.cell?_setCell_other _ _ _ _ (by simp)]; exact h.c5, by rw [World.cell?_setCell_other _ _ _ _ (by simp)]; exact h.c6, by rw [World.cell?_setCell_other _ _ _ _ (by simp)]; exact h.c7, fun k => frozen_set h.fz⟩
theorem DC.set2 (h : DC w D x0 x1 x2 x3 x4 x5 x6 x7) (v : Value) : DC (w.setCell ⟨D, 2, none⟩ v) D x0 x1 v x3 x4 x5 x6 x7 :=
  ⟨by rw [World.cell?_setCell_other _ _ _ _ (by simp)]; exact h.c0, by rw [World.cell?_setCell_other _ _ _ _ (by simp)]; exact h.c1, World.cell?_setCell_same _ _ _ h.c2, by rw [World.cell?_setCell_other _ _ _ _ (by simp)]; exact h.c3, by rw [World.cell?_setCell_other _ _ _ _ (by simp)]; exact h.c4, by rw [World.cell?_setCell_other _ _ _ _ (by simp)]; exact h.c5, by rw [World.cell?_setCell_other _ _ _ _ (by simp)]; exact h.c6, by rw [World.cell?_setCell_other _ _ _ _ (by simp)]; exact h.c7, fun k => frozen_set h.fz⟩
theorem DC.set3 (h : DC w D x0 x1 x2 x3 x4 x5 x6 x7) (v : Value) : DC (w.setCell ⟨D, 3, none⟩ v) D x0 x1 x2 v x4 x5 x6 x7 :=
  ⟨by rw [World.cell?_setCell_other _ _ _ _ (by simp)]; exact h.c0, by rw [World.cell?_setCell_other _ _ _ _ (by simp)]; exact h.c1, by rw [World.cell?_setCell_other _ _ _ _ (by simp)]; exact h.c2, World.cell?_setCell_same _ _ _ h.c3, by rw [World.cell?_setCell_other _ _ _ _ (by simp)]; exact h.c4, by rw [World.cell?_setCell_other _ _ _ _ (by simp)]; exact h.c5, by rw [World.cell?_setCell_other _ _ _ _ (by simp)]; exact h.c6, by rw [World.cell?_setCell_other _ _ _ _ (by simp)]; exact h.c7, fun k => frozen_set h.fz⟩
theorem DC.set6 (h : DC w D x0 x1 x2 x3 x4 x5 x6 x7) (v : Value) : DC (w.setCell ⟨D, 6, none⟩ v) D x0 x1 x2 x3 x4 x5 v x7 :=
  ⟨by rw [World.cell?_setCell_other _ _ _ _ (by simp)]; exact h.c0, by rw [World.cell?_setCell_other _ _ _ _ (by simp)]; exact h.c1, by rw [World.cell?_setCell_other _ _ _ _ (by simp)]; exact h.c2, by rw [World.cell?_setCell_other _ _ _ _ (by simp)]; exact h.c3, by rw [World.cell?_setCell_other _ _ _ _ (by simp)]; exact h.c4, by rw [World.cell?_setCell_other _ _ _ _ (by simp)]; exact h.c5, World.cell?_setCell_same _ _ _ h.c6, by rw [World.cell?_setCell_other _ _ _ _ (by simp)]; exact h.c7, fun k => frozen_set h.fz⟩
theorem DC.set7 (h : DC w D x0 x1 x2 x3 x4 x5 x6 x7) (v : Value) : DC (w.setCell ⟨D, 7, none⟩ v) D x0 x1 x2 x3 x4 x5 x6 v :=
  ⟨by rw [World.cell?_setCell_other _ _ _ _ (by simp)]; exact h.c0, by rw [World.cell?_setCell_other _ _ _ _ (by simp)]; exact h.c1, by rw [World.cell?_setCell_other _ _ _ _ (by simp)]; exact h.c2, by rw [World.cell?_setCell_other _ _ _ _ (by simp)]; exact h.c3, by rw [World.cell?_setCell_other _ _ _ _ (by simp)]; exact h.c4, by rw [World.cell?_setCell_other _ _ _ _ (by simp)]; exact h.c5, by rw [World.cell?_setCell_other _ _ _ _ (by simp)]; exact h.c6, World.cell?_setCell_same _ _ _ h.c7, fun k => frozen_set h.fz⟩
end
/-- the state -/
structure DI (w : World) (D Bm Bd : Nat) (mp : Option Nat) (vv pv iv : Value) (m : ByteArray) (V : List VarD) (P : List (ProcD × Value)) (is ms ns qs : List ByteArray) (a : Int) : Prop where
  dc : DC w D (.string m) vv pv iv (.map (some Bm)) (.map (some Bd)) (.map mp) (.int .i64 a)
  lm : Bm < Bd
  ld : Bd < D
  lp : ∀ b, mp = some b → D < b
  fr : FR (fun b => iv.ownBlock = some b ∨ mp = some b) (D + 1) w vv pv V P
  oi : w.ownsRow (D + 1) 9 1 iv is.length (strV is)
  xi : ∀ b, iv.ownBlock = some b → mp ≠ some b
  om : SetIn w Bm ms
  am : apartB [] ms = true
  od : SetIn w Bd ns
  ad : apartB [] ns = true
  op : ∀ b, mp = some b → SetIn w b qs
  aq : apartB [] qs = true
section
variable {w w' : World} {D Bm Bd : Nat} {mp : Option Nat} {vv pv iv : Value} {m : ByteArray} {V : List VarD} {P : List (ProcD × Value)} {is ms ns qs : List ByteArray} {a : Int}
/-- nothing that was there has turned -/
theorem DI.below (h : DI w D Bm Bd mp vv pv iv m V P is ms ns qs a) (hb : Below w.heap.size w w') : DI w' D Bm Bd mp vv pv iv m V P is ms ns qs a :=
  have hg : w.grownBy w' none := ⟨hb.os, hb.tape, hb.output, hb.size, fun j hj _ => hb.block j hj⟩
  ⟨h.dc.grown hg (by simp), h.lm, h.ld, h.lp, h.fr.below hb, own_keep h.oi hb, h.xi, h.om.kept hg (by simp), h.am, h.od.kept hg (by simp), h.ad, fun b e => (h.op b e).kept hg (by simp), h.aq⟩
theorem own_lt (h : DI w D Bm Bd mp vv pv iv m V P is ms ns qs a) : (∀ b, iv.ownBlock = some b → D < b) ∧ (∀ b, vv.ownBlock = some b → D < b) ∧ (∀ b, pv.ownBlock = some b → D < b) :=
  ⟨fun b e => by have := (h.oi.lt _ e).1; omega, fun b e => by have := (h.fr.ov.lt _ e).1; omega, fun b e => by have := (h.fr.op.lt _ e).1; omega⟩
/-- a name more among the modules -/
theorem DI.enterM (h : DI w D Bm Bd mp vv pv iv m V P is ms ns qs a) {x : ByteArray} (ho : SetIn w' Bm (ms ++ [x])) (ha : apartB [] (ms ++ [x]) = true) (hg : w.grownBy w' (some Bm)) : DI w' D Bm Bd mp vv pv iv m V P is (ms ++ [x]) ns qs a := by
  have hm := h.lm
  have hd := h.ld
  obtain ⟨li, lv, lpv⟩ := own_lt h
  refine ⟨h.dc.grown hg (by simp; omega), h.lm, h.ld, h.lp, ?_, h.oi.kept hg ?_, h.xi, ho, ha, h.od.kept hg (by simp; omega), h.ad, fun b e => (h.op b e).kept hg (by have := h.lp b e; simp; omega), h.aq⟩
  · exact FR.grown' h.fr hg (fun b e => by cases e; exact ⟨fun e => by have := lv _ e; omega, fun e => by have := lpv _ e; omega, by omega⟩)
  · cases e : iv.ownBlock with
    | none => exact .inl rfl
    | some b => exact .inr (by have := li b e; simp; omega)
end
end Go.Proofs.YtchhpinmoagkhaaGreatDoor.face
namespace Go.Proofs.YtchhpinmoagkhaaGreatDoor.face
open Go.RowKit Go.Maps
set_option linter.unusedVariables false

section
variable {w w' : World} {D Bm Bd : Nat} {mp : Option Nat} {vv pv iv : Value} {m : ByteArray} {V : List VarD} {P : List (ProcD × Value)} {is ms ns qs : List ByteArray} {a : Int}
theorem ne_of_low {v : Value} {b : Nat} (h : ∀ k, v.ownBlock = some k → b < k) : v.ownBlock = none ∨ v.ownBlock ≠ some b := by
  cases e : v.ownBlock with
  | none => exact .inl rfl
  | some k => exact .inr (by have := h k e; simp; omega)
/-- a name more among the declarations -/
theorem DI.enterD (h : DI w D Bm Bd mp vv pv iv m V P is ms ns qs a) {x : ByteArray} (ho : SetIn w' Bd (ns ++ [x])) (ha : apartB [] (ns ++ [x]) = true) (hg : w.grownBy w' (some Bd)) : DI w' D Bm Bd mp vv pv iv m V P is ms (ns ++ [x]) qs a := by
  have hm := h.lm
  have hd := h.ld
  obtain ⟨li, lv, lpv⟩ := own_lt h
  refine ⟨h.dc.grown hg (by simp; omega), h.lm, h.ld, h.lp, ?_, h.oi.kept hg (ne_of_low (fun k e => by have := li k e; omega)), h.xi, h.om.kept hg (by simp; omega), h.am, ho, ha, fun b e => (h.op b e).kept hg (by have := h.lp b e; simp; omega), h.aq⟩
  exact FR.grown' h.fr hg (fun b e => by cases e; exact ⟨fun e => by have := lv _ e; omega, fun e => by have := lpv _ e; omega, by omega⟩)
/-- a name more among the parameters -/
theorem DI.enterP {b0 : Nat} (h : DI w D Bm Bd (some b0) vv pv iv m V P is ms ns qs a) {x : ByteArray} (ho : SetIn w' b0 (qs ++ [x])) (ha : apartB [] (qs ++ [x]) = true) (hg : w.grownBy w' (some b0)) : DI w' D Bm Bd (some b0) vv pv iv m V P is ms ns (qs ++ [x]) a := by
  have hm := h.lm
  have hd := h.ld
  have hp := h.lp b0 rfl
  refine ⟨h.dc.grown hg (by simp; omega), h.lm, h.ld, h.lp, h.fr.grown hg (fun b e => .inr e), h.oi.kept hg ?_, h.xi, h.om.kept hg (by simp; omega), h.am, h.od.kept hg (by simp; omega), h.ad, fun b e => by cases e; exact ho, ha⟩
  cases e : iv.ownBlock with
  | none => exact .inl rfl
  | some b => exact .inr (fun e2 => h.xi b e e2.symm)
/-- a cell of the state is set: what else lies there stays -/
theorem DI.rest (h : DI w D Bm Bd mp vv pv iv m V P is ms ns qs a) (o : Nat) (v : Value) :
    FR (fun b => iv.ownBlock = some b ∨ mp = some b) (D + 1) (w.setCell ⟨D, o, none⟩ v) vv pv V P ∧ (w.setCell ⟨D, o, none⟩ v).ownsRow (D + 1) 9 1 iv is.length (strV is) ∧ SetIn (w.setCell ⟨D, o, none⟩ v) Bm ms ∧ SetIn (w.setCell ⟨D, o, none⟩ v) Bd ns ∧ ∀ b, mp = some b → SetIn (w.setCell ⟨D, o, none⟩ v) b qs := by
  have hm := h.lm
  have hd := h.ld
  obtain ⟨li, _, _⟩ := own_lt h
  exact ⟨h.fr.set (by omega) v, ownsRow_setCell_other h.oi (fun e => by have := li _ e; simp at this) _, h.om.setCell (by show Bm ≠ D; omega) _, h.od.setCell (by show Bd ≠ D; omega) _, fun b e => (h.op b e).setCell (by have := h.lp b e; show b ≠ D; omega) _⟩
theorem DI.setAt (h : DI w D Bm Bd mp vv pv iv m V P is ms ns qs a) (a' : Int) : DI (w.setCell ⟨D, 7, none⟩ (.int .i64 a')) D Bm Bd mp vv pv iv m V P is ms ns qs a' :=
  have r := h.rest 7 (.int .i64 a')
  ⟨h.dc.set7 _, h.lm, h.ld, h.lp, r.1, r.2.1, h.xi, r.2.2.1, h.am, r.2.2.2.1, h.ad, r.2.2.2.2, h.aq⟩
theorem DI.setModule (h : DI w D Bm Bd mp vv pv iv m V P is ms ns qs a) (m' : ByteArray) : DI (w.setCell ⟨D, 0, none⟩ (.string m')) D Bm Bd mp vv pv iv m' V P is ms ns qs a :=
  have r := h.rest 0 (.string m')
  ⟨h.dc.set0 _, h.lm, h.ld, h.lp, r.1, r.2.1, h.xi, r.2.2.1, h.am, r.2.2.2.1, h.ad, r.2.2.2.2, h.aq⟩
/-- a row that X names turns, or none; other blocks are named, that are new -/
theorem FR.turn {X Y : Nat → Prop} {B : Nat} {row : Option Nat} (h : FR X B w vv pv V P) (hg : w.grownBy w' row) (hr : ∀ b, row = some b → X b) (hY : ∀ b, b < w.heap.size → Y b → X b) : FR Y B w' vv pv V P :=
  have k := h.grown hg hr
  ⟨k.ov, k.op, fun q hq => (h.par q hq).to (fun b hb => ⟨hb.1, Nat.lt_of_lt_of_le hb.2.1 hg.size, hb.2.2.1, hb.2.2.2.1, fun e => hb.2.2.2.2 (hY b hb.2.1 e)⟩) (fun b hb o v hc => cell_grown hg hc (fun e => hb.2.2.2.2 (hr b e))), h.dj,
    fun b e hy => h.xv b e (hY b (h.ov.lt _ e).2 hy), fun b e hy => h.xp b e (hY b (h.op.lt _ e).2 hy)⟩
/-- an import more -/
theorem DI.pushI (h : DI w D Bm Bd mp vv pv iv m V P is ms ns qs a) {x : ByteArray} {g cap : Nat} (ho : w'.ownsRow (D + 1) 9 1 (.slice (some ⟨g, 0, none⟩) (is.length + 1) cap) (is.length + 1) (strV is ++ [.string x])) (hg : w.grownBy w' iv.ownBlock) (hat : iv.ownBlock = some g ∨ g = w.heap.size) :
    DI (w'.setCell ⟨D, 3, none⟩ (.slice (some ⟨g, 0, none⟩) (is.length + 1) cap)) D Bm Bd mp vv pv (.slice (some ⟨g, 0, none⟩) (is.length + 1) cap) m V P (is ++ [x]) ms ns qs a := by
  have hm := h.lm
  have hd := h.ld
  obtain ⟨li, lv, lpv⟩ := own_lt h
  have hlow : ∀ b, b ≤ D → some b ≠ iv.ownBlock := fun b hb e => by have := li b e.symm; omega
  have hdc := h.dc.grown hg (fun e => hlow D (Nat.le_refl _) e.symm)
  have hxi : ∀ b, (Value.slice (some ⟨g, 0, none⟩) (is.length + 1) cap).ownBlock = some b → mp ≠ some b := fun b e e2 => by
    have e' : some g = some b := e
    cases e'
    rcases hat with h1 | h1
    · exact h.xi g h1 e2
    · have := (h.op g e2).lt; omega
  have hfr : FR (fun b => (Value.slice (some ⟨g, 0, none⟩) (is.length + 1) cap).ownBlock = some b ∨ mp = some b) (D + 1) w' vv pv V P := h.fr.turn hg (fun b e => .inl e) (fun b hb e => by
    rcases e with e | e
    · have e' : some g = some b := e
      cases e'
      rcases hat with h1 | h1
      · exact .inl h1
      · omega
    · exact .inr e)
  have ho' : w'.ownsRow (D + 1) 9 1 (.slice (some ⟨g, 0, none⟩) (is.length + 1) cap) (is ++ [x]).length (strV (is ++ [x])) := by
    rw [strV_snoc, List.length_append]
    exact ho
  refine ⟨hdc.set3 _, h.lm, h.ld, h.lp, hfr.set (by omega) _, ownsRow_setCell_other ho' (fun e => by have := (ho'.lt _ e).1; simp at this; omega) _, hxi, (h.om.kept hg (hlow Bm (by omega))).setCell (by show Bm ≠ D; omega) _, h.am, (h.od.kept hg (hlow Bd (by omega))).setCell (by show Bd ≠ D; omega) _, h.ad, fun b e => ((h.op b e).kept hg (fun e2 => h.xi b e2.symm e)).setCell (by have := h.lp b e; show b ≠ D; omega) _, h.aq⟩
theorem DI.fresh (h : DI w D Bm Bd mp vv pv iv m V P is ms ns qs a) : ∀ b, w.heap.size ≤ b → ¬ (iv.ownBlock = some b ∨ mp = some b) := fun b hb e => by
  rcases e with e | e
  · have := (h.oi.lt _ e).2; omega
  · have := (h.op b e).lt; omega
/-- a variable more -/
theorem DI.pushV (h : DI w D Bm Bd mp vv pv iv m V P is ms ns qs a) {v : VarD} {g cap : Nat} (ho : w'.ownsRow (D + 1) 45 4 (.slice (some ⟨g, 0, none⟩) (V.length + 1) cap) (V.length + 1) (varCells V ++ [.string v.name, .bool v.pub, .int .i64 v.label, .int .i64 v.size])) (hg : w.grownBy w' vv.ownBlock) (hat : vv.ownBlock = some g ∨ g = w.heap.size) :
    DI (w'.setCell ⟨D, 1, none⟩ (.slice (some ⟨g, 0, none⟩) (V.length + 1) cap)) D Bm Bd mp (.slice (some ⟨g, 0, none⟩) (V.length + 1) cap) pv iv m (V ++ [v]) P is ms ns qs a := by
  have hm := h.lm
  have hd := h.ld
  obtain ⟨li, lv, lpv⟩ := own_lt h
  have hlow : ∀ b, b ≤ D → some b ≠ vv.ownBlock := fun b hb e => by have := lv b e.symm; omega
  have hdc := h.dc.grown hg (fun e => hlow D (Nat.le_refl _) e.symm)
  have hfr := h.fr.pushV ho hg hat h.fresh
  have hoi := h.oi.kept hg (by
    cases e : iv.ownBlock with
    | none => exact .inl rfl
    | some b => exact .inr (fun e2 => h.fr.xv b e2.symm (.inl e)))
  exact ⟨hdc.set1 _, h.lm, h.ld, h.lp, hfr.set (by omega) _, ownsRow_setCell_other hoi (fun e => by have := li _ e; simp at this) _, h.xi, (h.om.kept hg (hlow Bm (by omega))).setCell (by show Bm ≠ D; omega) _, h.am, (h.od.kept hg (hlow Bd (by omega))).setCell (by show Bd ≠ D; omega) _, h.ad, fun b e => ((h.op b e).kept hg (fun e2 => h.fr.xv b e2.symm (.inr e))).setCell (by have := h.lp b e; show b ≠ D; omega) _, h.aq⟩
/-- a procedure more -/
theorem DI.pushP (h : DI w D Bm Bd mp vv pv iv m V P is ms ns qs a) {q : ProcD × Value} {g cap : Nat} (ho : w'.ownsRow (D + 1) 70 6 (.slice (some ⟨g, 0, none⟩) (P.length + 1) cap) (P.length + 1) (procCells P ++ [.string q.1.name, .bool q.1.pub, q.2, .int .i64 q.1.writes, .bool q.1.gives, .int .i64 q.1.given])) (hg : w.grownBy w' pv.ownBlock) (hat : pv.ownBlock = some g ∨ g = w.heap.size)
    (hq : ParIn (fun b => D + 1 ≤ b ∧ b < w.heap.size ∧ vv.ownBlock ≠ some b ∧ pv.ownBlock ≠ some b ∧ ¬ (iv.ownBlock = some b ∨ mp = some b)) w q.2 q.1.params) :
    DI (w'.setCell ⟨D, 2, none⟩ (.slice (some ⟨g, 0, none⟩) (P.length + 1) cap)) D Bm Bd mp vv (.slice (some ⟨g, 0, none⟩) (P.length + 1) cap) iv m V (P ++ [q]) is ms ns qs a := by
  have hm := h.lm
  have hd := h.ld
  obtain ⟨li, lv, lpv⟩ := own_lt h
  have hlow : ∀ b, b ≤ D → some b ≠ pv.ownBlock := fun b hb e => by have := lpv b e.symm; omega
  have hdc := h.dc.grown hg (fun e => hlow D (Nat.le_refl _) e.symm)
  have hfr := h.fr.pushP ho hg hat h.fresh hq
  have hoi := h.oi.kept hg (by
    cases e : iv.ownBlock with
    | none => exact .inl rfl
    | some b => exact .inr (fun e2 => h.fr.xp b e2.symm (.inl e)))
  exact ⟨hdc.set2 _, h.lm, h.ld, h.lp, hfr.set (by omega) _, ownsRow_setCell_other hoi (fun e => by have := li _ e; simp at this) _, h.xi, (h.om.kept hg (hlow Bm (by omega))).setCell (by show Bm ≠ D; omega) _, h.am, (h.od.kept hg (hlow Bd (by omega))).setCell (by show Bd ≠ D; omega) _, h.ad, fun b e => ((h.op b e).kept hg (fun e2 => h.fr.xp b e2.symm (.inr e))).setCell (by have := h.lp b e; show b ≠ D; omega) _, h.aq⟩
/-- a new set of parameters -/
theorem DI.newP (h : DI w D Bm Bd mp vv pv iv m V P is ms ns qs a) (hb : Below w.heap.size w w') (ho : SetIn w' w.heap.size []) :
    DI (w'.setCell ⟨D, 6, none⟩ (.map (some w.heap.size))) D Bm Bd (some w.heap.size) vv pv iv m V P is ms ns [] a := by
  have hm := h.lm
  have hd := h.ld
  have hD := h.dc.lt
  have hg : w.grownBy w' none := ⟨hb.os, hb.tape, hb.output, hb.size, fun j hj _ => hb.block j hj⟩
  obtain ⟨li, lv, lpv⟩ := own_lt h
  have k := h.below hb
  have hfr : FR (fun b => iv.ownBlock = some b ∨ some w.heap.size = some b) (D + 1) w' vv pv V P := h.fr.turn hg (fun b e => by cases e) (fun b hb e => by
    rcases e with e | e
    · exact .inl e
    · cases e; omega)
  exact ⟨k.dc.set6 _, h.lm, h.ld, fun b e => by cases e; exact hD, hfr.set (by omega) _, ownsRow_setCell_other k.oi (fun e => by have := li _ e; simp at this) _, fun b e e2 => by cases e2; have := (h.oi.lt _ e).2; omega, k.om.setCell (by show Bm ≠ D; omega) _, h.am, k.od.setCell (by show Bd ≠ D; omega) _, h.ad, fun b e => by cases e; exact ho.setCell (by show w.heap.size ≠ D; omega) _, rfl⟩
end
/-- a block that stays as it was -/
structure KZ (Z : Nat) (w w' : World) : Prop where
  eq : w'.heap[Z]? = w.heap[Z]?
  lt : Z < w'.heap.size
section
variable {Z : Nat} {w w' w2 : World}
theorem KZ.below (h : KZ Z w w') (hb : Below w'.heap.size w' w2) : KZ Z w w2 := ⟨(hb.block Z h.lt).trans h.eq, Nat.lt_of_lt_of_le h.lt hb.size⟩
theorem KZ.alloc (h : KZ Z w w') (o : Obj) : KZ Z w (w'.alloc o) := h.below ((Below.refl _ _).alloc (Nat.le_refl _) o)
theorem KZ.drew (h : KZ Z w w') : KZ Z w w'.drew := ⟨h.eq, h.lt⟩
theorem KZ.grown {row : Option Nat} (h : KZ Z w w') (hg : w'.grownBy w2 row) (hne : row ≠ some Z) : KZ Z w w2 := ⟨(hg.block Z h.lt (fun e => hne e.symm)).trans h.eq, Nat.lt_of_lt_of_le h.lt hg.size⟩
theorem KZ.set (h : KZ Z w w') {D o : Nat} (hne : Z ≠ D) (v : Value) : KZ Z w (w'.setCell ⟨D, o, none⟩ v) := ⟨(Below.heap_setCell _ _ _ _ hne).trans h.eq, by rw [World.size_setCell]; exact h.lt⟩
end
end Go.Proofs.YtchhpinmoagkhaaGreatDoor.face
