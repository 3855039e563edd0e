/- The linker's state in memory; what leaves it as it is; its map of things and its map of modules at an operation of a region that draws. -/
import Derived.Test.YtmkknnofeebknaaDoorLSLnkMapN
import Derived.Test.YtmkknnofeebknaaDoorLSTakeD
import Derived.Deep.RegionHeld
import Derived.OrdersHeld
import Derived.Laws.Tables
import Derived.OwnWalk
import Derived.Laws.OwnMore
namespace Go.Proofs.YtmkknnofeebknaaDoor.lnk
open Go.RowKit Go.Maps Go.WideMaps
open Go.Proofs.YtmkknnofeebknaaDoor.syn (isName eqS)
open Go.Proofs.YtmkknnofeebknaaDoor.mac (BoxC Ins grown_of_below)
open Go.Proofs.YtmkknnofeebknaaDoor.obj (ObjD PlcD RelD Vals ObjAt insV)
open Go.Proofs.YtmkknnofeebknaaDoor.face (VarD ProcD FaceD keyL)
set_option linter.unusedVariables false
set_option linter.unusedSimpArgs false
set_option maxRecDepth 100000
def insC (x : Ins) : List Value := [.int .i64 x.op, .int .i64 x.a, .int .i64 x.b, .int .i64 x.c, .int .i64 x.n]
/-- what the linker has laid so far -/
structure St where
  code : List Ins
  low : Int
  high : Int
  mods : ByteArray → Option Value
  begs : Thg → Option Int
/-- where it lies: its box, its maps, from block N on; how many entries the maps have at most -/
structure Pl where
  N : Nat
  K : Nat
  mb : Nat
  bb : Nat
  ov : Value
structure LS (w : World) (p : Pl) (s : St) (cv : Value) (nm nb : Nat) : Prop where
  box : BoxC w p.K #[cv, .int .i64 s.low, .int .i64 s.high, p.ov, .map (some p.mb), .map (some p.bb)] 46
  row : w.ownsRow p.N 67 5 cv s.code.length (s.code.flatMap insC)
  mm : MapN w p.mb nm s.mods
  bm : MapT w p.bb nb s.begs
  k1 : p.K ≠ p.mb
  k2 : p.K ≠ p.bb
  k3 : p.mb ≠ p.bb
  r1 : cv.ownBlock ≠ some p.K
  r2 : cv.ownBlock ≠ some p.mb
  r3 : cv.ownBlock ≠ some p.bb
  n1 : p.N ≤ p.K
  n2 : p.N ≤ p.mb
  n3 : p.N ≤ p.bb
section
variable {w w' : World} {p : Pl} {s : St} {cv : Value} {nm nb : Nat}
theorem LS.below (h : LS w p s cv nm nb) (hb : Below w.heap.size w w') : LS w' p s cv nm nb :=
  { h with box := h.box.below hb, row := h.row.kept (grown_of_below hb) (by cases cv.ownBlock <;> simp), mm := h.mm.below hb, bm := h.bm.kept (grown_of_below hb) (by simp) }
theorem LS.alloc (h : LS w p s cv nm nb) (o : Obj) : LS (w.alloc o) p s cv nm nb := h.below ((Below.refl _ _).alloc (Nat.le_refl _) o)
theorem LS.drew (h : LS w p s cv nm nb) : LS w.drew p s cv nm nb := h.below (Below.refl _ _).drew
/-- a thing is put -/
theorem LS.putB (h : LS w p s cv nm nb) {t : Thg} {v : Int} (hm : MapT w' p.bb (nb + 1) (putT s.begs t v)) (hg : w.grownBy w' (some p.bb)) : LS w' p { s with begs := putT s.begs t v } cv nm (nb + 1) :=
  { h with box := h.box.grown hg (fun e => h.k2 (Option.some.inj e).symm), row := h.row.kept hg (.inr h.r3), mm := h.mm.kept hg (fun e => h.k3 (Option.some.inj e)), bm := hm }
theorem LS.ob (h : LS w p s cv nm nb) : w.cell? ⟨p.K, 3, none⟩ = some p.ov := h.box.cell 3 rfl
theorem LS.cod (h : LS w p s cv nm nb) : w.cell? ⟨p.K, 0, none⟩ = some cv := h.box.cell 0 rfl
theorem LS.lo (h : LS w p s cv nm nb) : w.cell? ⟨p.K, 1, none⟩ = some (.int .i64 s.low) := h.box.cell 1 rfl
theorem LS.hi (h : LS w p s cv nm nb) : w.cell? ⟨p.K, 2, none⟩ = some (.int .i64 s.high) := h.box.cell 2 rfl
theorem LS.mo (h : LS w p s cv nm nb) : w.cell? ⟨p.K, 4, none⟩ = some (.map (some p.mb)) := h.box.cell 4 rfl
theorem LS.be (h : LS w p s cv nm nb) : w.cell? ⟨p.K, 5, none⟩ = some (.map (some p.bb)) := h.box.cell 5 rfl
theorem LS.shape (h : LS w p s cv nm nb) : ∃ a c, cv = .slice a s.code.length c := by
  rcases h.row.2 with ⟨e, e0⟩ | ⟨g, cap, cur, rfl, _⟩
  · exact ⟨none, 0, by rw [e, e0]⟩
  · exact ⟨_, _, rfl⟩
end
section
variable {w : World} {b n : Nat} {f : Thg → Option Int}
theorem MapT.run_look_ok (h : MapT w b n f) (t : Thg) (ht : t.ok) : (Instr.lookup 44 (.map (some b)) (thgV t) true).run Tryd.prog w = .ok (.tuple #[.int .i64 ((f t).getD 0), .bool (f t).isSome]) w := by
  obtain ⟨D, h, h2⟩ := h
  obtain ⟨l, hl⟩ := key_ok ht
  obtain ⟨v, ps, hrun, hv⟩ := h.look_ok lawT Tryd.underlying44 (zeroI w) (zd := .held (.int .i64 0)) (zp := []) rfl hl
  rw [hrun]
  obtain ⟨h3, h4⟩ := h2 t l hl
  have e : D.atKey l (.held (.int .i64 0)) = .held (.int .i64 ((f t).getD 0)) := by
    cases hf : f t with
    | none => rw [hf] at h3; exact atKey_of_not_has h3 _
    | some u => exact h4 u hf _
  have hv' : heldE v = some (D.atKey l (.held (.int .i64 0)), ps) := hv
  rw [e] at hv'
  rw [held_inj hv', h3]
/-- at a step of a region that draws: 'm[k] = v' -/
theorem MapT.step_put {ops : Array Oper} {o : Oper} {a : Act} {K : Act → World → Prop} {Q : Exit → Act → World → Prop} {E : Prop} (h : MapT w b n f) (hg : o.guard = none) (m x v : Operand) (hop : o.op = Op.mapUpdate 44 m x v) (hm : a.eval m = .map (some b)) (hn : n < maxLen) (t : Thg) (ht : t.ok) (hx : a.eval x = thgV t) (u : Int) (hv : a.eval v = .int .i64 u)
    (hK : ∀ w', MapT w' b (n + 1) (putT f t u) → w.grownBy w' (some b) → K (a.put o.dst undef) w') : if Region.wanted o (yielded ops a.tmps) = true then Oper.wp Tryd.prog o a w K Q else E := by
  have hw : Region.wanted o (yielded ops a.tmps) = true := by simp [Region.wanted, hg]
  rw [if_pos hw]
  obtain ⟨w', hrun, h1, h2⟩ := h.run_store hn t ht u
  unfold Oper.wp
  simp [execOp, hop, hm, hx, hv, hrun, Result.andThen]
  exact hK w' h1 h2
end
section
variable {w : World} {b n : Nat} {f : ByteArray → Option Value}
theorem MapN.run_look_ok (h : MapN w b n f) (x : ByteArray) (hx : x.size ≤ maxLen) : (Instr.lookup 43 (.map (some b)) (.string x) true).run Tryd.prog w = .ok (.tuple #[(f x).getD noFaceV, .bool (f x).isSome]) w := by
  obtain ⟨D, h, h2⟩ := h
  obtain ⟨v, ps, hrun, hv⟩ := h.look_ok face.lawS Tryd.underlying43 (zeroF w) (zd := .held noFaceV) (zp := []) rfl (keyOf_string_mk Tryd.underlying9 hx)
  rw [hrun]
  obtain ⟨h3, h4⟩ := h2 x
  have e : D.atKey (keyL x) (.held noFaceV) = .held ((f x).getD noFaceV) := by
    cases hf : f x with
    | none => rw [hf] at h3; exact atKey_of_not_has h3 _
    | some u => exact h4 u hf _
  have hv' : heldE v = some (D.atKey (keyL x) (.held noFaceV), ps) := hv
  rw [e] at hv'
  rw [held_inj hv', ← h3]
  rfl
theorem MapN.step_put {ops : Array Oper} {o : Oper} {a : Act} {K : Act → World → Prop} {Q : Exit → Act → World → Prop} {E : Prop} (h : MapN w b n f) (hg : o.guard = none) (m x v : Operand) (hop : o.op = Op.mapUpdate 43 m x v) (hm : a.eval m = .map (some b)) (hn : n < maxLen) (y : ByteArray) (hy : y.size ≤ maxLen) (hx : a.eval x = .string y) (u : Value) (hv : a.eval v = u)
    (hK : ∀ w', MapN w' b (n + 1) (fun z => if eqS z y then some u else f z) → w.grownBy w' (some b) → K (a.put o.dst undef) w') : if Region.wanted o (yielded ops a.tmps) = true then Oper.wp Tryd.prog o a w K Q else E := by
  have hw : Region.wanted o (yielded ops a.tmps) = true := by simp [Region.wanted, hg]
  rw [if_pos hw]
  obtain ⟨w', hrun, h1, h2⟩ := h.store hn y hy u
  unfold Oper.wp
  simp [execOp, hop, hm, hx, hv, hrun, Result.andThen]
  exact hK w' h1 h2
end
/-- what is thrown: a trouble -/
def ThrT (m c a : Int) : List PanicEntry := [{ v := .iface 28 (.agg #[.int .i64 m, .int .i64 c, .int .i64 a]), recovered := false }]
theorem oRefuse (m c a : Int) (w : World) : Calls Tryd.prog 14 #[.int .i64 m, .int .i64 c, .int .i64 a] w fun e w' => e = .panicked (ThrT m c a) ∧ w' = w := by
  have c3 : Tryd.prog.cellsOf 28 = 3 := by kernel_rfl
  go_enter Tryd.func14, Tryd.ntmps14
  go_wp2
  exact ⟨rfl, rfl, rfl⟩
set_option maxHeartbeats 1000000 in
/-- what main answers -/
theorem oMain {w : World} {p : Pl} {s : St} {cv : Value} {nm nb : Nat} (h : LS w p s cv nm nb) :
    Calls Tryd.prog 20 #[.pointer (some ⟨p.K, 0, none⟩)] w fun e w' => e = .returned (.tuple #[.int .i64 ((s.begs ⟨2, ⟨#[109, 97, 105, 110]⟩, ⟨#[109, 97, 105, 110]⟩⟩).getD 0), .bool (s.begs ⟨2, ⟨#[109, 97, 105, 110]⟩, ⟨#[109, 97, 105, 110]⟩⟩).isSome]) ∧ w' = w := by
  have m5 := h.be
  have hlk := h.bm.run_look_ok ⟨2, ⟨#[109, 97, 105, 110]⟩, ⟨#[109, 97, 105, 110]⟩⟩ ⟨by decide, by decide, by decide⟩
  unfold thgV at hlk
  dsimp only at hlk
  generalize s.begs ⟨2, ⟨#[109, 97, 105, 110]⟩, ⟨#[109, 97, 105, 110]⟩⟩ = G at *
  go_enter Tryd.func20, Tryd.ntmps20
  go_wp2
  go_ret2
  exact ⟨rfl, rfl⟩
end Go.Proofs.YtmkknnofeebknaaDoor.lnk
