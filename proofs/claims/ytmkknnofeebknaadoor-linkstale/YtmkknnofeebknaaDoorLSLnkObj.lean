/- Objects that are handed in, one behind the other; what tryImports has to tell: plain functions; memory besides. -/
import Derived.Test.YtmkknnofeebknaaDoorLSLnkRoom
import Derived.Test.YtmkknnofeebknaaDoorLSLnkAsk
import Derived.Test.YtmkknnofeebknaaDoorLSFaceOwnC
namespace Go.Proofs.YtmkknnofeebknaaDoor.lnk
open Go.RowKit Go.Maps Go.WideMaps
open Go.Proofs.YtmkknnofeebknaaDoor.syn (isName eqS)
open Go.Proofs.YtmkknnofeebknaaDoor.mac (BoxC Ins grown_of_below)
open Go.Proofs.YtmkknnofeebknaaDoor.obj (ObjD PlcD RelD Vals ObjAt PlcsIn objV)
open Go.Proofs.YtmkknnofeebknaaDoor.face (VarD ProcD FaceD FaceIn keep)
set_option linter.unusedVariables false
set_option linter.unusedSimpArgs false
set_option maxRecDepth 100000
/-- the cells of one object -/
structure OCells (w : World) (g o : Nat) (d : ObjD) (x : Vals) : Prop where
  c0 : w.cell? ⟨g, o, none⟩ = some (.string d.face.module)
  c1 : w.cell? ⟨g, o + 1, none⟩ = some x.vv
  c2 : w.cell? ⟨g, o + 2, none⟩ = some x.pv
  c3 : w.cell? ⟨g, o + 3, none⟩ = some x.iv
  c4 : w.cell? ⟨g, o + 4, none⟩ = some x.cv
  c5 : w.cell? ⟨g, o + 5, none⟩ = some x.rv
  c6 : w.cell? ⟨g, o + 6, none⟩ = some x.p1
  c7 : w.cell? ⟨g, o + 7, none⟩ = some x.p2
  c8 : w.cell? ⟨g, o + 8, none⟩ = some x.p3
  c9 : w.cell? ⟨g, o + 9, none⟩ = some (.int .i64 d.low)
  c10 : w.cell? ⟨g, o + 10, none⟩ = some (.int .i64 d.high)
  c11 : w.cell? ⟨g, o + 11, none⟩ = some (.int .i64 d.lowF)
  c12 : w.cell? ⟨g, o + 12, none⟩ = some (.int .i64 d.highF)
theorem OCells.below {w w' : World} {g o : Nat} {d : ObjD} {x : Vals} (h : OCells w g o d x) (hb : Below w.heap.size w w') : OCells w' g o d x :=
  ⟨keep h.c0 hb, keep h.c1 hb, keep h.c2 hb, keep h.c3 hb, keep h.c4 hb, keep h.c5 hb, keep h.c6 hb, keep h.c7 hb, keep h.c8 hb, keep h.c9 hb, keep h.c10 hb, keep h.c11 hb, keep h.c12 hb⟩
/-- objects one behind the other -/
def ObjsIn (w : World) (v : Value) (l : List ObjD) : Prop := ∃ a c, v = .slice a l.length c ∧ l.length ≤ 8796093022208 ∧
  (l ≠ [] → ∃ g o, a = some ⟨g, o, none⟩ ∧ ∀ i (h : i < l.length), ∃ x, ObjAt w x l[i] ∧ OCells w g (o + i * 13) l[i] x)
/-- the map of modules holds the faces that f tells -/
def FM (w : World) (m : ByteArray → Option Value) (f : ByteArray → Option FaceD) : Prop := ∀ x, (m x = none ∧ f x = none) ∨ ∃ v fd, m x = some v ∧ f x = some fd ∧ FaceIn w v fd
/-- what is wrong first with the imports of one object, and of all -/
def impO (f : ByteArray → Option FaceD) (i : Int) : Int → List FaceD → Option (Int × Int × Int)
  | _, [] => none
  | j, q :: r => match f q.module with
    | none => some (i, 4, j)
    | some own => if face.sameB q own = true then impO f i (j + 1) r else some (i, 3, j)
def impT (f : ByteArray → Option FaceD) : Int → List ObjD → Option (Int × Int × Int)
  | _, [] => none
  | i, o :: r => (impO f i 0 o.imports).or (impT f (i + 1) r)
theorem impT_at {f : ByteArray → Option FaceD} {i : Nat} {l : List ObjD} (h : i < l.length) : impT f i (l.drop i) = (impO f i 0 l[i].imports).or (impT f ((i + 1 : Nat) : Int) (l.drop (i + 1))) := by
  rw [List.drop_eq_getElem_cons h]
  rfl
theorem impO_at {f : ByteArray → Option FaceD} {i : Int} {k : Nat} {l : List FaceD} (h : k < l.length) : impO f i k (l.drop k) = match f l[k].module with
    | none => some (i, 4, (k : Int))
    | some own => if face.sameB l[k] own = true then impO f i ((k + 1 : Nat) : Int) (l.drop (k + 1)) else some (i, 3, (k : Int)) := by
  rw [List.drop_eq_getElem_cons h]
  rfl
section
variable {w w' : World} {p : Pl} {s : St} {cv : Value} {nm nb b : Nat}
theorem LS.grown (h : LS w p s cv nm nb) (hg : w.grownBy w' (some b)) (h1 : b ≠ p.K) (h2 : b ≠ p.mb) (h3 : b ≠ p.bb) (h4 : cv.ownBlock ≠ some b) : LS w' p s cv nm nb :=
  { h with box := h.box.grown hg (fun e => h1 (Option.some.inj e)), row := h.row.kept hg (.inr h4), mm := h.mm.kept hg (fun e => h2 (Option.some.inj e).symm), bm := h.bm.kept hg (fun e => h3 (Option.some.inj e).symm) }
theorem LS.lt (h : LS w p s cv nm nb) : p.K < w.heap.size ∧ p.mb < w.heap.size ∧ p.bb < w.heap.size ∧ ∀ b, cv.ownBlock = some b → b < w.heap.size :=
  ⟨h.box.lt, h.mm.lt, h.bm.lt, fun b e => (h.row.lt b e).2⟩
end
theorem grown_row (w : World) (b : Nat) (cs : Array Value) : w.grownBy (w.setRow b cs) (some b) := ⟨rfl, rfl, rfl, by simp, fun k _ hk => setRow_other w b k cs (fun e => hk (by rw [e]))⟩
theorem box_row {w : World} {b : Nat} {old cs : Array Value} {T : TypeId} (h : BoxC w b old T) : BoxC (w.setRow b cs) b cs T := setRow_heap w b old cs T (0, 0) h
theorem below_row {w w' : World} {N b : Nat} {cs : Array Value} (h : Below N w w') (hb : N ≤ b) (hn : N ≤ w'.heap.size) : Below N w (w'.setRow b cs) := h.grown (grown_row w' b cs) hn (fun k e => by cases e; exact hb)
theorem step_store_row {P : Program} {ops : Array Oper} {o : Oper} {a : Act} {w : World} {K : Act → World → Prop} {Q : Exit → Act → World → Prop} {E : Prop} (hgd : o.guard = none) (ty : TypeId) (x y : Operand) (ho : o.op = .store ty x y)
    (g : Nat) (cells : Array Value) (hx : a.eval x = .pointer (some ⟨g, 0, none⟩)) (hy : a.eval y = .agg cells)
    (t : TypeId) (old : Array Value) (hg : w.heap[g]? = some (.cells old t (0, 0))) (hi : (P.info? ty).map (·.size) = some cells.size)
    (hold : old.size = cells.size) (h1 : cells.all (·.oneCell') = true) (h : K (a.put o.dst undef) (w.setRow g cells)) :
    if Region.wanted o (yielded ops a.tmps) = true then Oper.wp P o a w K Q else E := by
  have hw : Region.wanted o (yielded ops a.tmps) = true := by simp [Region.wanted, hgd]
  rw [if_pos hw]
  exact wp_store_row ty x y ho g cells hx hy t old hg hi hold h1 h
end Go.Proofs.YtmkknnofeebknaaDoor.lnk
