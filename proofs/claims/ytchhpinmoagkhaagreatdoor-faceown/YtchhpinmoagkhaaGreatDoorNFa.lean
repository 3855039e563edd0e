/- Faces: as plain data, where they lie in memory, and how an argument that reads as one is opened. What chapter 4 says of faces that may be, and of faces that are the same: plain functions. No Go in sight. What the reference's Place answers: a contract. A box of six, and one of three: what leaves them as they are. What the node of a module looks like: imports and declarations, and nothing of theirs within blocks. No Go in sight. What chapter 4 says is wrong first of a module, and what others know of it: plain functions. No Go in sight. What the program goes over: the same faults, told with the module's own name among those that are known. No Go in sight. Which declarations are good: their names are short. No Go in sight. -/
import Derived.Test.YtchhpinmoagkhaaGreatDoorProg
import Derived.Test.YtchhpinmoagkhaaGreatDoorNSa
import Derived.WalkKit
import Derived.WalkLawsBesides
import Derived.ProofKit
import Derived.Below
import Derived.Deep.Slices
import Derived.Lib.SmallJoins
import Derived.Outline
import Derived.WalkSmall
import Derived.BigQuiet
import Derived.Deep.QuietTactic
import Derived.Deep.RegionWith
import Derived.WalkSpells
import Derived.Laws.OwnMore
import Derived.OwnWalk
import Derived.Test.YtchhpinmoagkhaaGreatDoorNPa
namespace Go.Proofs.YtchhpinmoagkhaaGreatDoor.face
open Go.RowKit Go.ChangeShapes Go.WideShapes
open Go.Proofs.YtchhpinmoagkhaaGreatDoor.syn (isName eqS)
set_option linter.unusedVariables false
set_option maxRecDepth 100000

structure VarD where
  name : ByteArray
  pub : Bool
  label : Int
  size : Int
structure ProcD where
  name : ByteArray
  pub : Bool
  params : List Int
  writes : Int
  gives : Bool
  given : Int
structure FaceD where
  module : ByteArray
  vars : List VarD
  procs : List ProcD
instance : Inhabited VarD := ⟨⟨default, default, default, default⟩⟩
instance : Inhabited ProcD := ⟨⟨default, default, default, default, default, default⟩⟩

/-- a row of numbers -/
def IntsIn (w : World) (v : Value) (l : List Int) : Prop := ∃ a c, v = .slice a l.length c ∧ l.length ≤ 9223372036854775807 ∧
  (l ≠ [] → ∃ g o, a = some ⟨g, o, none⟩ ∧ ∀ i (h : i < l.length), w.cell? ⟨g, o + i, none⟩ = some (.int .i64 l[i]))
def VarsIn (w : World) (v : Value) (l : List VarD) : Prop := ∃ a c, v = .slice a l.length c ∧ l.length ≤ 4611686018427387903 ∧
  (l ≠ [] → ∃ g o, a = some ⟨g, o, none⟩ ∧ ∀ i (h : i < l.length), w.cell? ⟨g, o + i * 4, none⟩ = some (.string l[i].name) ∧ w.cell? ⟨g, o + i * 4 + 1, none⟩ = some (.bool l[i].pub) ∧
    w.cell? ⟨g, o + i * 4 + 2, none⟩ = some (.int .i64 l[i].label) ∧ w.cell? ⟨g, o + i * 4 + 3, none⟩ = some (.int .i64 l[i].size))
def ProcsIn (w : World) (v : Value) (l : List ProcD) : Prop := ∃ a c, v = .slice a l.length c ∧ l.length ≤ 4611686018427387903 ∧
  (l ≠ [] → ∃ g o, a = some ⟨g, o, none⟩ ∧ ∀ i (h : i < l.length), w.cell? ⟨g, o + i * 6, none⟩ = some (.string l[i].name) ∧ w.cell? ⟨g, o + i * 6 + 1, none⟩ = some (.bool l[i].pub) ∧
    (∃ u, w.cell? ⟨g, o + i * 6 + 2, none⟩ = some u ∧ IntsIn w u l[i].params) ∧
    w.cell? ⟨g, o + i * 6 + 3, none⟩ = some (.int .i64 l[i].writes) ∧ w.cell? ⟨g, o + i * 6 + 4, none⟩ = some (.bool l[i].gives) ∧ w.cell? ⟨g, o + i * 6 + 5, none⟩ = some (.int .i64 l[i].given))
def FaceIn (w : World) (v : Value) (f : FaceD) : Prop := ∃ vv pv, v = .agg #[.string f.module, vv, pv] ∧ VarsIn w vv f.vars ∧ ProcsIn w pv f.procs
/-- the value of one procedure -/
def procV (p : ProcD) (u : Value) : Value := .agg #[.string p.name, .bool p.pub, u, .int .i64 p.writes, .bool p.gives, .int .i64 p.given]
def varV (v : VarD) : Value := .agg #[.string v.name, .bool v.pub, .int .i64 v.label, .int .i64 v.size]

/-! what was there stays -/
theorem keep {w w' : World} {a : Addr} {x : Value} (h : w.cell? a = some x) (hb : Below w.heap.size w w') : w'.cell? a = some x := by
  rw [hb.cell (World.block_lt_of_cell? w a h)]; exact h
theorem IntsIn.below {w w' : World} {v : Value} {l : List Int} (h : IntsIn w v l) (hb : Below w.heap.size w w') : IntsIn w' v l := by
  obtain ⟨a, c, e, hl, hk⟩ := h
  refine ⟨a, c, e, hl, fun hne => ?_⟩
  obtain ⟨g, o, e2, hc⟩ := hk hne
  exact ⟨g, o, e2, fun i hi => keep (hc i hi) hb⟩
theorem VarsIn.below {w w' : World} {v : Value} {l : List VarD} (h : VarsIn w v l) (hb : Below w.heap.size w w') : VarsIn w' v l := by
  obtain ⟨a, c, e, hl, hk⟩ := h
  refine ⟨a, c, e, hl, fun hne => ?_⟩
  obtain ⟨g, o, e2, hc⟩ := hk hne
  exact ⟨g, o, e2, fun i hi => ⟨keep (hc i hi).1 hb, keep (hc i hi).2.1 hb, keep (hc i hi).2.2.1 hb, keep (hc i hi).2.2.2 hb⟩⟩
theorem ProcsIn.below {w w' : World} {v : Value} {l : List ProcD} (h : ProcsIn w v l) (hb : Below w.heap.size w w') : ProcsIn w' v l := by
  obtain ⟨a, c, e, hl, hk⟩ := h
  refine ⟨a, c, e, hl, fun hne => ?_⟩
  obtain ⟨g, o, e2, hc⟩ := hk hne
  refine ⟨g, o, e2, fun i hi => ?_⟩
  obtain ⟨h0, h1, ⟨u, h2, hu⟩, h3, h4, h5⟩ := hc i hi
  exact ⟨keep h0 hb, keep h1 hb, ⟨u, keep h2 hb, hu.below hb⟩, keep h3 hb, keep h4 hb, keep h5 hb⟩
theorem FaceIn.below {w w' : World} {v : Value} {f : FaceD} (h : FaceIn w v f) (hb : Below w.heap.size w w') : FaceIn w' v f := by
  obtain ⟨vv, pv, e, h1, h2⟩ := h
  exact ⟨vv, pv, e, h1.below hb, h2.below hb⟩

/-! an argument is opened -/
theorem plain_addr {w : World} {a : Addr} {v : Value} (h : w.cell? a = some v) : ∃ g o, a = ⟨g, o, none⟩ := by
  obtain ⟨g, o, s⟩ := a
  cases s with
  | none => exact ⟨g, o, rfl⟩
  | some s =>
    unfold World.cell? at h
    simp only at h
    split at h
    · simp at h
    · cases h
section
variable {H : Type} {enc : TypeId × Value → H} {W : World} {n : Nat}
theorem cell4 : Tryz.prog.cellsOf 45 = 4 := by kernel_rfl
theorem cell6 : Tryz.prog.cellsOf 70 = 6 := by kernel_rfl
theorem cell1s : Tryz.prog.cellsOf 9 = 1 := by kernel_rfl
theorem cell1b : Tryz.prog.cellsOf 4 = 1 := by kernel_rfl
theorem cell1i : Tryz.prog.cellsOf 3 = 1 := by kernel_rfl
theorem cell1l : Tryz.prog.cellsOf 68 = 1 := by kernel_rfl
theorem cell3 : Tryz.prog.cellsOf 38 = 3 := by kernel_rfl
theorem maxLen_le : maxLen ≤ 9223372036854775807 := by unfold maxLen; omega
theorem reach_le : reachBytes ≤ 4611686018427387903 := by decide
theorem bytesVar : Tryz.prog.bytesOf 45 = 40 := by kernel_rfl
theorem bytesProc : Tryz.prog.bytesOf 70 = 72 := by kernel_rfl
theorem open_ints' {v : Value} {x : DataW H × List MemPlace} (h : DataW.trod enc Tryz.prog W 0 (fun _ => true) true n 68 [v] = some x) : ∃ l, IntsIn W v l := by
  rcases open_ints Tryz.underlying68 Tryz.underlying3 cell1i h with ⟨h0, _⟩ | ⟨a, len, cap, zs, h0, _, hl, hm, hz, _, hc, _⟩
  · simp only [List.cons.injEq, and_true] at h0
    exact ⟨[], none, 0, h0, by simp, fun h => absurd rfl h⟩
  · simp only [List.cons.injEq, and_true] at h0
    simp only [if_true] at hz
    have hlen : (zs.take len).length = len := by rw [List.length_take]; omega
    refine ⟨zs.take len, some a, cap, by rw [hlen]; exact h0, by rw [hlen]; have := maxLen_le; omega, fun hne => ?_⟩
    have hpos : 0 < len := by
      rcases Nat.eq_zero_or_pos len with h | h
      · subst h; simp at hne
      · exact h
    have h00 := hc 0 (by omega)
    rw [Addr.add, if_pos rfl] at h00
    obtain ⟨g, o, rfl⟩ := plain_addr h00
    refine ⟨g, o, rfl, fun i hi => ?_⟩
    rw [hlen] at hi
    have := hc i (by omega)
    rw [add_plain] at this
    rw [this, List.getElem_take, List.getD_eq_getElem?_getD, List.getElem?_eq_getElem (by omega)]
    rfl
theorem open_vars {v : Value} {x : DataW H × List MemPlace} (h : DataW.trod enc Tryz.prog W 0 (fun _ => true) true n 35 [v] = some x) (hwt : ∀ k ∈ x.1.weights Tryz.prog 35, k ≤ reachBytes) : ∃ l, VarsIn W v l := by
  rcases Deep.open_slice Tryz.underlying35 h with ⟨h0, _⟩ | ⟨a, len, cap, m, k, D, Pl, h0, _, hl, hm, hmm, rfl, hc⟩
  · simp only [List.cons.injEq, and_true] at h0
    exact ⟨[], none, 0, h0, by simp, fun h => absurd rfl h⟩
  · simp only [List.cons.injEq, and_true] at h0
    simp only [if_true] at hmm
    have hlim : len ≤ 4611686018427387903 := by
      have h2 := hwt ((len + (m - len)) * 40) (by simp [DataW.weights, Tryz.underlying35, bytesVar])
      have := reach_le
      omega
    have each : ∀ i, i < len → ∃ q : VarD, W.cell? (a.add (i * 4)) = some (.string q.name) ∧ W.cell? (a.add (i * 4 + 1)) = some (.bool q.pub) ∧ W.cell? (a.add (i * 4 + 2)) = some (.int .i64 q.label) ∧ W.cell? (a.add (i * 4 + 3)) = some (.int .i64 q.size) := by
      intro i hi
      obtain ⟨cs', h1, h2⟩ := hc i (by omega)
      rw [cell4] at h1
      obtain ⟨_, hlen, hcell⟩ := World.cells?_some h1
      obtain ⟨y0, y1, y2, y3, n', _, _, t0, t1, t2, t3⟩ := Joins.trod_struct4 Tryz.underlying45 h2
      simp only [cell1s, cell1b, cell1i] at t0 t1 t2 t3
      match cs', hlen with
      | [c0, c1, c2, c3], _ =>
        simp only [List.drop, List.take] at t0 t1 t2 t3
        obtain ⟨s, e0, _, _⟩ := DataW.trod_string Tryz.underlying9 t0
        obtain ⟨b, e1, _⟩ := DataW.trod_bool Tryz.underlying4 t1
        obtain ⟨j, e2, _, _⟩ := DataW.trod_int Tryz.underlying3 t2
        obtain ⟨z, e3, _, _⟩ := DataW.trod_int Tryz.underlying3 t3
        simp only [List.cons.injEq, and_true] at e0 e1 e2 e3
        subst e0 e1 e2 e3
        refine ⟨⟨s, b, j, z⟩, ?_, ?_, ?_, ?_⟩
        · simpa [Deep.add_add] using hcell 0 (by omega)
        · simpa [Deep.add_add] using hcell 1 (by omega)
        · simpa [Deep.add_add] using hcell 2 (by omega)
        · simpa [Deep.add_add] using hcell 3 (by omega)
    obtain ⟨V, hV⟩ := Deep.choose_lt each
    refine ⟨(List.range len).map V, some a, cap, by simpa using h0, by simpa using hlim, fun hne => ?_⟩
    have hpos : 0 < len := by
      rcases Nat.eq_zero_or_pos len with h | h
      · subst h; simp at hne
      · exact h
    have h00 := (hV 0 hpos).1
    rw [Nat.zero_mul, Addr.add, if_pos rfl] at h00
    obtain ⟨g, o, rfl⟩ := plain_addr h00
    refine ⟨g, o, rfl, fun i hi => ?_⟩
    have := hV i (by simpa using hi)
    simp only [add_plain] at this
    simp only [List.getElem_map, List.getElem_range]
    exact this
theorem trod_struct6 {P : Program} {w : World} {base : Nat} {spare : Nat → Bool} {held : Bool} {t : TypeId} {f0 f1 f2 f3 f4 f5 : Field} {fuel : Nat} {cs : List Value} {x : DataW H × List MemPlace} (ht : P.underlying t = some (.struct #[f0, f1, f2, f3, f4, f5])) (h : DataW.trod enc P w base spare held fuel t cs = some x) :
    ∃ y0 y1 y2 y3 y4 y5 n, DataW.trod enc P w base spare held n f0.type ((cs.drop f0.offset).take (P.cellsOf f0.type)) = some y0 ∧
      DataW.trod enc P w base spare held n f1.type ((cs.drop f1.offset).take (P.cellsOf f1.type)) = some y1 ∧ DataW.trod enc P w base spare held n f2.type ((cs.drop f2.offset).take (P.cellsOf f2.type)) = some y2 ∧
      DataW.trod enc P w base spare held n f3.type ((cs.drop f3.offset).take (P.cellsOf f3.type)) = some y3 ∧ DataW.trod enc P w base spare held n f4.type ((cs.drop f4.offset).take (P.cellsOf f4.type)) = some y4 ∧
      DataW.trod enc P w base spare held n f5.type ((cs.drop f5.offset).take (P.cellsOf f5.type)) = some y5 := by
  obtain ⟨xs, n, _, rfl, hl, hlen, hf⟩ := DataW.trod_struct ht h
  match xs, hlen with
  | [y0, y1, y2, y3, y4, y5], _ => exact ⟨y0, y1, y2, y3, y4, y5, n, by simpa using hf 0 f0 rfl, by simpa using hf 1 f1 rfl, by simpa using hf 2 f2 rfl, by simpa using hf 3 f3 rfl, by simpa using hf 4 f4 rfl, by simpa using hf 5 f5 rfl⟩
theorem open_procs {v : Value} {x : DataW H × List MemPlace} (h : DataW.trod enc Tryz.prog W 0 (fun _ => true) true n 36 [v] = some x) (hwt : ∀ k ∈ x.1.weights Tryz.prog 36, k ≤ reachBytes) : ∃ l, ProcsIn W v l := by
  rcases Deep.open_slice Tryz.underlying36 h with ⟨h0, _⟩ | ⟨a, len, cap, m, k, D, Pl, h0, _, hl, hm, hmm, rfl, hc⟩
  · simp only [List.cons.injEq, and_true] at h0
    exact ⟨[], none, 0, h0, by simp, fun h => absurd rfl h⟩
  · simp only [List.cons.injEq, and_true] at h0
    simp only [if_true] at hmm
    have hlim : len ≤ 4611686018427387903 := by
      have h2 := hwt ((len + (m - len)) * 72) (by simp [DataW.weights, Tryz.underlying36, bytesProc])
      have := reach_le
      omega
    have each : ∀ i, i < len → ∃ q : ProcD, W.cell? (a.add (i * 6)) = some (.string q.name) ∧ W.cell? (a.add (i * 6 + 1)) = some (.bool q.pub) ∧ (∃ u, W.cell? (a.add (i * 6 + 2)) = some u ∧ IntsIn W u q.params) ∧ W.cell? (a.add (i * 6 + 3)) = some (.int .i64 q.writes) ∧ W.cell? (a.add (i * 6 + 4)) = some (.bool q.gives) ∧ W.cell? (a.add (i * 6 + 5)) = some (.int .i64 q.given) := by
      intro i hi
      obtain ⟨cs', h1, h2⟩ := hc i (by omega)
      rw [cell6] at h1
      obtain ⟨_, hlen, hcell⟩ := World.cells?_some h1
      obtain ⟨y0, y1, y2, y3, y4, y5, n', t0, t1, t2, t3, t4, t5⟩ := trod_struct6 Tryz.underlying70 h2
      simp only [cell1s, cell1b, cell1i, cell1l] at t0 t1 t2 t3 t4 t5
      match cs', hlen with
      | [c0, c1, c2, c3, c4, c5], _ =>
        simp only [List.drop, List.take] at t0 t1 t2 t3 t4 t5
        obtain ⟨s, e0, _, _⟩ := DataW.trod_string Tryz.underlying9 t0
        obtain ⟨b, e1, _⟩ := DataW.trod_bool Tryz.underlying4 t1
        obtain ⟨zs, hzs⟩ := open_ints' t2
        obtain ⟨j, e3, _, _⟩ := DataW.trod_int Tryz.underlying3 t3
        obtain ⟨b', e4, _⟩ := DataW.trod_bool Tryz.underlying4 t4
        obtain ⟨z, e5, _, _⟩ := DataW.trod_int Tryz.underlying3 t5
        simp only [List.cons.injEq, and_true] at e0 e1 e3 e4 e5
        subst e0 e1 e3 e4 e5
        refine ⟨⟨s, b, zs, j, b', z⟩, ?_, ?_, ⟨c2, ?_, hzs⟩, ?_, ?_, ?_⟩
        · simpa [Deep.add_add] using hcell 0 (by omega)
        · simpa [Deep.add_add] using hcell 1 (by omega)
        · simpa [Deep.add_add] using hcell 2 (by omega)
        · simpa [Deep.add_add] using hcell 3 (by omega)
        · simpa [Deep.add_add] using hcell 4 (by omega)
        · simpa [Deep.add_add] using hcell 5 (by omega)
    obtain ⟨V, hV⟩ := Deep.choose_lt each
    refine ⟨(List.range len).map V, some a, cap, by simpa using h0, by simpa using hlim, fun hne => ?_⟩
    have hpos : 0 < len := by
      rcases Nat.eq_zero_or_pos len with h | h
      · subst h; simp at hne
      · exact h
    have h00 := (hV 0 hpos).1
    rw [Nat.zero_mul, Addr.add, if_pos rfl] at h00
    obtain ⟨g, o, rfl⟩ := plain_addr h00
    refine ⟨g, o, rfl, fun i hi => ?_⟩
    have := hV i (by simpa using hi)
    simp only [add_plain] at this
    simp only [List.getElem_map, List.getElem_range]
    exact this
theorem open_face {b0 : Nat} {v : Value} {d : DataW H} {p : List MemPlace} (hv : Value.okWide Tryz.prog W .any b0 38 v) (h : DataW.Trod enc Tryz.prog W 0 (fun _ => true) true 38 v d p) (hwt : ∀ k ∈ d.weights Tryz.prog 38, k ≤ reachBytes) : ∃ f, FaceIn W v f := by
  obtain ⟨v0, v1, v2, y0, y1, y2, k, rfl, rfl, _, t0, t1, t2⟩ := Joins.open_agg3 Tryz.underlying38 (by kernel_rfl) cell3 hv h
  obtain ⟨s, e0, _, _⟩ := DataW.trod_string Tryz.underlying9 t0
  simp only [List.cons.injEq, and_true] at e0
  subst e0
  obtain ⟨vs, hvs⟩ := open_vars t1 (fun k hk => hwt k (by simp [DataW.weights, DataW.weightsEach, Tryz.underlying38, hk]))
  obtain ⟨ps, hps⟩ := open_procs t2 (fun k hk => hwt k (by simp [DataW.weights, DataW.weightsEach, Tryz.underlying38, hk]))
  exact ⟨⟨s, vs, ps⟩, v1, v2, rfl, hvs, hps⟩
end
end Go.Proofs.YtchhpinmoagkhaaGreatDoor.face
namespace Go.Proofs.YtchhpinmoagkhaaGreatDoor.face
open Go.RowKit
open Go.Proofs.YtchhpinmoagkhaaGreatDoor.syn (isName eqS)
set_option linter.unusedVariables false

def labelB (n : Int) : Bool := n == 0 || n == 1
def mayVarB (v : VarD) : Bool := isName v.name && (v.pub && (labelB v.label && (decide (0 ≤ v.size) && decide (v.size ≤ 64))))
def mayProcB (p : ProcD) : Bool := isName p.name && (p.pub && (decide (p.params.length ≤ 5) && (p.params.all labelB && (labelB p.writes && (labelB p.given && (p.gives || p.given == 0))))))
/-- is a name among those? -/
def among (l : List ByteArray) (x : ByteArray) : Bool := l.any fun y => eqS y x
/-- are no two alike? -/
def apartB : List ByteArray → List ByteArray → Bool
  | _, [] => true
  | seen, x :: r => !among seen x && apartB (seen ++ [x]) r
def namesOf (f : FaceD) : List ByteArray := f.vars.map (·.name) ++ f.procs.map (·.name)
def mayB (f : FaceD) : Bool := isName f.module && (decide (f.vars.length + f.procs.length ≤ 20) && (f.vars.all mayVarB && (f.procs.all mayProcB && apartB [] (namesOf f))))

def sameVarB (a b : VarD) : Bool := eqS a.name b.name && (a.pub == b.pub && (a.label == b.label && a.size == b.size))
def sameProcB (a b : ProcD) : Bool := eqS a.name b.name && (a.pub == b.pub && (a.params == b.params && (a.writes == b.writes && (a.gives == b.gives && a.given == b.given))))
def all2 {α : Type} (p : α → α → Bool) : List α → List α → Bool
  | [], [] => true
  | x :: r, y :: s => p x y && all2 p r s
  | _, _ => false
def sameB (a b : FaceD) : Bool := eqS a.module b.module && (all2 sameVarB a.vars b.vars && all2 sameProcB a.procs b.procs)

theorem all2_len {α : Type} {p : α → α → Bool} : ∀ {l m : List α}, l.length ≠ m.length → all2 p l m = false
  | [], [], h => absurd rfl h
  | [], _ :: _, _ => rfl
  | _ :: _, [], _ => rfl
  | x :: r, y :: s, h => by
    have : all2 p r s = false := all2_len (by simpa using h)
    show (p x y && all2 p r s) = false
    rw [this, Bool.and_false]
theorem all2_no {α : Type} {p : α → α → Bool} : ∀ {l m : List α} (i : Nat) (h : i < l.length) (h2 : i < m.length), p l[i] m[i] = false → all2 p l m = false
  | [], _, _, h, _, _ => by simp at h
  | _ :: _, [], _, _, h, _ => by simp at h
  | x :: r, y :: s, 0, h, h2, hp => by
    show (p x y && all2 p r s) = false
    simp only [List.getElem_cons_zero] at hp
    rw [hp]; rfl
  | x :: r, y :: s, i + 1, h, h2, hp => by
    show (p x y && all2 p r s) = false
    simp only [List.getElem_cons_succ] at hp
    rw [all2_no i (by simpa using h) (by simpa using h2) hp, Bool.and_false]
theorem all2_yes {α : Type} {p : α → α → Bool} : ∀ {l m : List α}, l.length = m.length → (∀ i (h : i < l.length) (h2 : i < m.length), p l[i] m[i] = true) → all2 p l m = true
  | [], [], _, _ => rfl
  | [], _ :: _, h, _ => by simp at h
  | _ :: _, [], h, _ => by simp at h
  | x :: r, y :: s, h, hp => by
    show (p x y && all2 p r s) = true
    have h0 : p x y = true := hp 0 (by simp) (by simp)
    rw [h0, all2_yes (by simpa using h) (fun i h h2 => hp (i + 1) (by simp; omega) (by simp; omega))]
    rfl
theorem all_no {α : Type} {p : α → Bool} {l : List α} (i : Nat) (h : i < l.length) (hp : p l[i] = false) : l.all p = false := by
  rw [List.all_eq_false]
  exact ⟨l[i], List.getElem_mem h, by simp [hp]⟩
theorem all_yes {α : Type} {p : α → Bool} {l : List α} (hp : ∀ i (h : i < l.length), p l[i] = true) : l.all p = true := by
  rw [List.all_eq_true]
  intro x hx
  obtain ⟨k, hk, rfl⟩ := List.mem_iff_getElem.1 hx
  exact hp k hk
theorem ints_all2 : ∀ (l m : List Int), (l == m) = all2 (fun a b => a == b) l m
  | [], [] => rfl
  | [], _ :: _ => rfl
  | _ :: _, [] => rfl
  | x :: r, y :: s => by
    show (x :: r == y :: s) = (x == y && all2 _ r s)
    rw [List.cons_beq_cons, ints_all2 r s]
theorem ret_b {x y : Bool} (h : x = y) : Ending.returned (.bool x) = .returned (.bool y) := by rw [h]
theorem cell_new {w : World} {a : Addr} {v : Value} (h : w.cell? a = some v) (ob : Obj) : (w.alloc ob).cell? a = some v := by
  rw [((Below.refl _ _).alloc (Nat.le_refl _) ob).cell (World.block_lt_of_cell? w a h)]; exact h
end Go.Proofs.YtchhpinmoagkhaaGreatDoor.face
namespace Go.Proofs.YtchhpinmoagkhaaGreatDoor.face
open Go.RowKit
open Go.Proofs.YtchhpinmoagkhaaGreatDoor.syn (isName eqS)
set_option linter.unusedVariables false
set_option linter.unusedSimpArgs false
set_option maxRecDepth 100000

/-- a row of texts -/
def StrsIn (w : World) (v : Value) (l : List ByteArray) : Prop := ∃ a c, v = .slice a l.length c ∧ l.length ≤ 9223372036854775807 ∧
  (l ≠ [] → ∃ g o, a = some ⟨g, o, none⟩ ∧ ∀ i (h : i < l.length), w.cell? ⟨g, o + i, none⟩ = some (.string l[i]))
theorem among_hit {l : List ByteArray} {x : ByteArray} (i : Nat) (h : i < l.length) (he : eqS l[i] x = true) : among l x = true := by
  unfold among
  rw [List.any_eq_true]
  exact ⟨l[i], List.getElem_mem h, he⟩
theorem among_none {l : List ByteArray} {x : ByteArray} (hp : ∀ i (h : i < l.length), eqS l[i] x = false) : among l x = false := by
  unfold among
  rw [List.any_eq_false]
  intro y hy
  obtain ⟨k, hk, rfl⟩ := List.mem_iff_getElem.1 hy
  simp [hp k hk]
set_option maxHeartbeats 1000000 in
theorem rPlace (l : List ByteArray) (x : ByteArray) (v : Value) (w : World) (hv : StrsIn w v l) :
    Calls Tryz.prog 80 #[v, .string x] w fun e w' => (∃ n : Int, e = .returned (.int .i64 n) ∧ decide (0 ≤ n) = among l x) ∧ w' = w := by
  obtain ⟨a, c, rfl, hl, hk⟩ := hv
  go_enter Tryz.func80, Tryz.ntmps80
  go_wp2
  go_loopw [5] (fun t wr => ∃ j : Nat, j ≤ l.length ∧ t = .int .i64 j ∧ wr = w ∧ Hid (∀ i (h : i < l.length), i < j → eqS l[i] x = false)) (fun t _ => l.length - (intOf t).toNat)
  case atStart => exact ⟨0, Nat.zero_le _, rfl, rfl, fun i _ h => by omega⟩
  case round =>
    obtain ⟨j, hj, rfl, rfl, HN⟩ := hrel
    by_cases hlt : j < l.length
    · obtain ⟨g, o, rfl, hc⟩ := hk (by intro e; rw [e] at hlt; simp at hlt)
      have q := hc j hlt
      clear hc hk
      cases he : eqS l[j] x
      · have HE : Hid (eqS l[j] x = false) := he
        unfold eqS at he
        generalize l[j] = y at he q
        go_wp2
        go_roundw
        case rel => exact ⟨j + 1, by omega, by go_num, by trivial, fun i h h1 => by
          rcases Nat.lt_or_ge i j with h3 | h3
          · exact HN.out i h h3
          · have : i = j := by omega
            subst this
            exact HE.out⟩
        case measure => simp [intOf]; omega
      · have HE : Hid (among l x = true) := among_hit j hlt he
        unfold eqS at he
        generalize l[j] = y at he q
        go_wp2
        go_ret
        exact ⟨⟨_, rfl, by rw [HE.out]; simp⟩, rfl⟩
    · have HE : Hid (among l x = false) := among_none (fun i h => HN.out i h (by omega))
      go_wp2
      go_ret
      exact ⟨⟨_, rfl, by rw [HE.out]; simp⟩, rfl⟩
end Go.Proofs.YtchhpinmoagkhaaGreatDoor.face
namespace Go.Proofs.YtchhpinmoagkhaaGreatDoor.face
open Go.RowKit
set_option linter.unusedVariables false

theorem cell_grown {w w' : World} {row : Option Nat} (hg : w.grownBy w' row) {a : Addr} {v : Value} (h : w.cell? a = some v) (hne : row ≠ some a.block) : w'.cell? a = some v := by
  rw [World.cell?_of_block (a := a) (hg.block a.block (World.block_lt_of_cell? w a h) (fun e => hne e.symm))]
  exact h
structure Box6 (w : World) (N : Nat) (x0 x1 x2 x3 x4 x5 : Value) : Prop where
  c0 : w.cell? ⟨N, 0, none⟩ = some x0
  c1 : w.cell? ⟨N, 1, none⟩ = some x1
  c2 : w.cell? ⟨N, 2, none⟩ = some x2
  c3 : w.cell? ⟨N, 3, none⟩ = some x3
  c4 : w.cell? ⟨N, 4, none⟩ = some x4
  c5 : w.cell? ⟨N, 5, none⟩ = some x5
  f0 : w.frozen? ⟨N, 0, none⟩ = false
  f1 : w.frozen? ⟨N, 1, none⟩ = false
  f2 : w.frozen? ⟨N, 2, none⟩ = false
  f3 : w.frozen? ⟨N, 3, none⟩ = false
  f4 : w.frozen? ⟨N, 4, none⟩ = false
  f5 : w.frozen? ⟨N, 5, none⟩ = false
section
variable {w w' : World} {N : Nat} {x0 x1 x2 x3 x4 x5 : Value}
theorem Box6.new (w : World) (x0 x1 x2 x3 x4 x5 : Value) (T : TypeId) : Box6 (w.alloc (.cells #[x0, x1, x2, x3, x4, x5] T)) w.heap.size x0 x1 x2 x3 x4 x5 := by constructor <;> simp
theorem Box6.lt (h : Box6 w N x0 x1 x2 x3 x4 x5) : N < w.heap.size := World.block_lt_of_cell? w ⟨N, 0, none⟩ h.c0
theorem Box6.block (h : Box6 w N x0 x1 x2 x3 x4 x5) (hb : w'.heap[N]? = w.heap[N]?) : Box6 w' N x0 x1 x2 x3 x4 x5 :=
  ⟨(World.cell?_of_block (a := ⟨N, 0, none⟩) hb).trans h.c0, (World.cell?_of_block (a := ⟨N, 1, none⟩) hb).trans h.c1, (World.cell?_of_block (a := ⟨N, 2, none⟩) hb).trans h.c2, (World.cell?_of_block (a := ⟨N, 3, none⟩) hb).trans h.c3, (World.cell?_of_block (a := ⟨N, 4, none⟩) hb).trans h.c4, (World.cell?_of_block (a := ⟨N, 5, none⟩) hb).trans h.c5,
    (World.frozen?_of_block (a := ⟨N, 0, none⟩) hb).trans h.f0, (World.frozen?_of_block (a := ⟨N, 1, none⟩) hb).trans h.f1, (World.frozen?_of_block (a := ⟨N, 2, none⟩) hb).trans h.f2, (World.frozen?_of_block (a := ⟨N, 3, none⟩) hb).trans h.f3, (World.frozen?_of_block (a := ⟨N, 4, none⟩) hb).trans h.f4, (World.frozen?_of_block (a := ⟨N, 5, none⟩) hb).trans h.f5⟩
theorem Box6.below (h : Box6 w N x0 x1 x2 x3 x4 x5) (hb : Below w.heap.size w w') : Box6 w' N x0 x1 x2 x3 x4 x5 := h.block (hb.block N h.lt)
theorem Box6.alloc (h : Box6 w N x0 x1 x2 x3 x4 x5) (o : Obj) : Box6 (w.alloc o) N x0 x1 x2 x3 x4 x5 := h.below ((Below.refl _ _).alloc (Nat.le_refl _) o)
theorem Box6.grown {row : Option Nat} (h : Box6 w N x0 x1 x2 x3 x4 x5) (hg : w.grownBy w' row) (hne : row ≠ some N) : Box6 w' N x0 x1 x2 x3 x4 x5 := h.block (hg.block N h.lt (fun e => hne e.symm))
theorem Box6.other (h : Box6 w N x0 x1 x2 x3 x4 x5) {M o : Nat} (hne : M ≠ N) (v : Value) : Box6 (w.setCell ⟨M, o, none⟩ v) N x0 x1 x2 x3 x4 x5 := h.block (Below.heap_setCell _ _ _ _ (fun e => hne (by rw [e])))
theorem Box6.drew (h : Box6 w N x0 x1 x2 x3 x4 x5) : Box6 w.drew N x0 x1 x2 x3 x4 x5 := ⟨h.c0, h.c1, h.c2, h.c3, h.c4, h.c5, h.f0, h.f1, h.f2, h.f3, h.f4, h.f5⟩
theorem Box6.set2 (h : Box6 w N x0 x1 x2 x3 x4 x5) (v : Value) : Box6 (w.setCell ⟨N, 2, none⟩ v) N x0 x1 v x3 x4 x5 :=
  ⟨by rw [World.cell?_setCell_other _ _ _ _ (by simp)]; exact h.c0, by rw [World.cell?_setCell_other _ _ _ _ (by simp)]; exact h.c1, World.cell?_setCell_same _ _ _ h.c2, by rw [World.cell?_setCell_other _ _ _ _ (by simp)]; exact h.c3, by rw [World.cell?_setCell_other _ _ _ _ (by simp)]; exact h.c4, by rw [World.cell?_setCell_other _ _ _ _ (by simp)]; exact h.c5,
    by simp [h.f0], by simp [h.f1], by simp [h.f2], by simp [h.f3], by simp [h.f4], by simp [h.f5]⟩
end
end Go.Proofs.YtchhpinmoagkhaaGreatDoor.face
namespace Go.Proofs.YtchhpinmoagkhaaGreatDoor.face
open Go.Proofs.YtchhpinmoagkhaaGreatDoor.lexs (Tok scan)
open Go.Proofs.YtchhpinmoagkhaaGreatDoor.syn
set_option linter.unusedVariables false

mutual
/-- a node within which nothing is declared -/
def InT : Tree → Prop
  | .node k _ _ ks => (k = 0 ∨ 6 ≤ k) ∧ InL ks
def InL : List Tree → Prop
  | [] => True
  | t :: r => InT t ∧ InL r
end
theorem InL.snoc {t : Tree} (ht : InT t) : ∀ {ks : List Tree}, InL ks → InL (ks ++ [t])
  | [], _ => by show InT t ∧ InL []; exact ⟨ht, by unfold InL; trivial⟩
  | a :: r, h => by
    unfold InL at h
    show InT a ∧ InL (r ++ [t])
    exact ⟨h.1, InL.snoc ht h.2⟩
theorem inT_leaf {k m : Int} {x : ByteArray} (h : k = 0 ∨ 6 ≤ k) : InT (.node k x m []) := by unfold InT; exact ⟨h, by unfold InL; trivial⟩
theorem inT_one {k m : Int} {x : ByteArray} {t : Tree} (h : k = 0 ∨ 6 ≤ k) (ht : InT t) : InT (.node k x m [t]) := by
  unfold InT InL InL; exact ⟨h, ht, trivial⟩
theorem inT_two {k m : Int} {x : ByteArray} {t u : Tree} (h : k = 0 ∨ 6 ≤ k) (ht : InT t) (hu : InT u) : InT (.node k x m [t, u]) := by
  unfold InT InL InL InL; exact ⟨h, ht, hu, trivial⟩
theorem inT_three {k m : Int} {x : ByteArray} {t u v : Tree} (h : k = 0 ∨ 6 ≤ k) (ht : InT t) (hu : InT u) (hv : InT v) : InT (.node k x m [t, u, v]) := by
  unfold InT InL InL InL InL; exact ⟨h, ht, hu, hv, trivial⟩
section
variable (ts : List Tok)
/-- what is read as an expression declares nothing -/
structure InE (f : Nat) : Prop where
  ex : ∀ s q, exprF ts f s = some q → InT q.1
  bo : ∀ l s q, boundF ts f l s = some q → InT q.1
  bl : ∀ l n s q, InT n → boundL ts f l n s = some q → InT q.1
  un : ∀ s q, unaryF ts f s = some q → InT q.1
  ak : ∀ s q, askedF ts f s = some q → InT q.1
  pl : ∀ x s q, placeF ts f x s = some q → InT q.1
  ca : ∀ x s q, callF ts f x s = some q → InT q.1
  cl : ∀ x ks s on q, InL ks → callL ts f x ks s on = some q → InT q.1
theorem number_in (s : St) : InT (number ts s).1 := by
  unfold number
  split
  · exact inT_leaf (.inr (by omega))
  · split <;> exact inT_leaf (.inr (by omega))
theorem inE : ∀ f, InE ts f
  | 0 => by
    constructor
    · intro s q h; unfold exprF at h; cases h
    · intro l s q h; unfold boundF at h; cases h
    · intro l n s q hn h; unfold boundL at h; cases h
    · intro s q h; unfold unaryF at h; cases h
    · intro s q h; unfold askedF at h; cases h
    · intro x s q h; unfold placeF at h; cases h
    · intro x s q h; unfold callF at h; cases h
    · intro x ks s on q hk h; unfold callL at h; cases h
  | f + 1 => by
    have ih := inE f
    constructor
    · intro s q h
      unfold exprF at h
      split at h
      · cases h; exact inT_leaf (.inl rfl)
      · exact ih.bo _ _ _ h
    · intro l s q h
      unfold boundF at h
      split at h
      · exact ih.un _ _ h
      · obtain ⟨p, hp, h⟩ := Option.bind_eq_some_iff.1 h
        exact ih.bl _ _ _ _ (ih.bo _ _ _ hp) h
    · intro l n s q hn h
      unfold boundL at h
      split at h
      · cases h; exact hn
      · split at h
        · cases h; exact hn
        · obtain ⟨p, hp, h⟩ := Option.bind_eq_some_iff.1 h
          have h2 := ih.bo _ _ _ hp
          split at h
          · cases h; exact inT_two (.inr (by omega)) hn h2
          · exact ih.bl _ _ _ _ (inT_two (.inr (by omega)) hn h2) h
    · intro s q h
      unfold unaryF at h
      split at h
      · obtain ⟨p, hp, h⟩ := Option.bind_eq_some_iff.1 h
        cases h; exact inT_one (.inr (by omega)) (ih.un _ _ hp)
      · split at h
        · obtain ⟨p, hp, h⟩ := Option.bind_eq_some_iff.1 h
          cases h; exact inT_one (.inr (by omega)) (ih.un _ _ hp)
        · split at h
          · exact ih.ak _ _ h
          · split at h
            · cases h; exact number_in ts s
            · split at h
              · exact ih.ca _ _ _ h
              · exact ih.pl _ _ _ h
    · intro s q h
      unfold askedF at h
      obtain ⟨p, hp, h⟩ := Option.bind_eq_some_iff.1 h
      cases h
      show InT p.1
      exact ih.ex _ _ hp
    · intro x s q h
      unfold placeF at h
      split at h
      · obtain ⟨p, hp, h⟩ := Option.bind_eq_some_iff.1 h
        cases h; exact inT_one (.inr (by omega)) (ih.ex _ _ hp)
      · cases h; exact inT_leaf (.inr (by omega))
    · intro x s q h
      unfold callF at h
      split at h
      · cases h; exact inT_leaf (.inr (by omega))
      · exact ih.cl _ _ _ _ _ (by unfold InL; trivial) h
    · intro x ks s on q hk h
      unfold callL at h
      split at h
      · obtain ⟨p, hp, h⟩ := Option.bind_eq_some_iff.1 h
        exact ih.cl _ _ _ _ _ (InL.snoc (ih.ex _ _ hp) hk) h
      · cases h
        show InT (.node 18 x 0 ks)
        unfold InT
        exact ⟨.inr (by omega), hk⟩
structure InS (f : Nat) : Prop where
  bl : ∀ s q, blockF ts f s = some q → InT q.1
  li : ∀ ks s q, InL ks → blockL ts f ks s = some q → InT q.1
  st : ∀ s q, statF ts f s = some q → InT q.1
theorem inS : ∀ f, InS ts f
  | 0 => by
    constructor
    · intro s q h; unfold blockF at h; cases h
    · intro ks s q hk h; unfold blockL at h; cases h
    · intro s q h; unfold statF at h; cases h
  | f + 1 => by
    have ih := inS f
    have ie := inE ts f
    constructor
    · intro s q h
      unfold blockF at h
      exact ih.li _ _ _ (by unfold InL; trivial) h
    · intro ks s q hk h
      unfold blockL at h
      have hn : InT (.node 6 empty 0 ks) := by unfold InT; exact ⟨.inr (by omega), hk⟩
      split at h
      · cases h; exact hn
      · split at h
        · cases h; exact hn
        · obtain ⟨p, hp, h⟩ := Option.bind_eq_some_iff.1 h
          exact ih.li _ _ _ (InL.snoc (ih.st _ _ hp) hk) h
    · intro s q h
      unfold statF at h
      split at h
      · obtain ⟨x, hx, h⟩ := Option.bind_eq_some_iff.1 h
        obtain ⟨b, hb, h⟩ := Option.bind_eq_some_iff.1 h
        split at h
        · obtain ⟨c, hc, h⟩ := Option.bind_eq_some_iff.1 h
          cases h; exact inT_three (.inr (by omega)) (ie.ak _ _ hx) (ih.bl _ _ hb) (ih.bl _ _ hc)
        · cases h; exact inT_two (.inr (by omega)) (ie.ak _ _ hx) (ih.bl _ _ hb)
      · split at h
        · obtain ⟨x, hx, h⟩ := Option.bind_eq_some_iff.1 h
          obtain ⟨b, hb, h⟩ := Option.bind_eq_some_iff.1 h
          cases h; exact inT_two (.inr (by omega)) (ie.ak _ _ hx) (ih.bl _ _ hb)
        · split at h
          · obtain ⟨x, hx, h⟩ := Option.bind_eq_some_iff.1 h
            cases h; exact inT_one (.inr (by omega)) (ie.ex _ _ hx)
          · split at h
            · obtain ⟨x, hx, h⟩ := Option.bind_eq_some_iff.1 h
              cases h; exact inT_one (.inr (by omega)) (ie.ca _ _ _ hx)
            · split at h
              · obtain ⟨x, hx, h⟩ := Option.bind_eq_some_iff.1 h
                cases h; exact inT_one (.inr (by omega)) (ie.ex _ _ hx)
              · split at h
                · obtain ⟨x, hx, h⟩ := Option.bind_eq_some_iff.1 h
                  cases h; exact inT_one (.inr (by omega)) (ie.pl _ _ _ hx)
                · split at h
                  · obtain ⟨x, hx, h⟩ := Option.bind_eq_some_iff.1 h
                    cases h; exact inT_one (.inr (by omega)) (ie.ex _ _ hx)
                  · obtain ⟨x, hx, h⟩ := Option.bind_eq_some_iff.1 h
                    obtain ⟨y, hy, h⟩ := Option.bind_eq_some_iff.1 h
                    cases h; exact inT_two (.inr (by omega)) (ie.pl _ _ _ hx) (ie.ex _ _ hy)
end

/-! declarations -/
def bI (b : Bool) : Int := if b then 1 else 0
inductive Kid where
  | imp (x : ByteArray)
  | var (x : ByteArray) (p l : Bool) (n : Option Int)
  | proc (x : ByteArray) (p l : Bool) (g : Option Bool) (ps : List (ByteArray × Bool)) (b : Tree)
def gI : Option Bool → Int
  | none => 0
  | some b => 4 + 4 * bI b
def parT (q : ByteArray × Bool) : Tree := .node 5 q.1 (bI q.2) []
def Kid.tree : Kid → Tree
  | .imp x => .node 2 x 0 []
  | .var x p l none => .node 3 x (2 * bI p + bI l) []
  | .var x p l (some n) => .node 3 x (2 * bI p + bI l) [.node 15 empty n []]
  | .proc x p l g ps b => .node 4 x (2 * bI p + bI l + gI g) (ps.map parT ++ [b])
def Kid.fine : Kid → Prop
  | .proc _ _ _ _ _ b => InT b
  | _ => True
section
variable (ts : List Tok)
theorem label_is (s : St) : ∃ l : Bool, (label ts s).1 = bI l := by
  unfold label
  split
  · exact ⟨true, rfl⟩
  · exact ⟨false, rfl⟩
theorem pub_is (s : St) : ∃ p : Bool, pubN ts s = 2 * bI p := by
  unfold pubN
  split
  · exact ⟨true, rfl⟩
  · exact ⟨false, rfl⟩
theorem gives_is (p : Bool) (s : St) : ∃ (l : Bool) (g : Option Bool), givesN ts (2 * bI p) s = 2 * bI p + bI l + gI g := by
  obtain ⟨l, hl⟩ := label_is ts s
  unfold givesN
  split
  · obtain ⟨m, hm⟩ := label_is ts (label ts s).2.next
    refine ⟨l, some m, ?_⟩
    rw [hl, hm]
    show _ = 2 * bI p + bI l + (4 + 4 * bI m)
    omega
  · exact ⟨l, none, by rw [hl]; show _ = 2 * bI p + bI l + 0; omega⟩
theorem number_is (s : St) : ∃ n, (number ts s).1 = .node 15 empty n [] := by
  unfold number
  split
  · exact ⟨_, rfl⟩
  · split <;> exact ⟨_, rfl⟩
theorem paramsL_is : ∀ (f : Nat) (ps : List (ByteArray × Bool)) (s : St) (q : List Tree × St), paramsL ts f (ps.map parT) s = some q → ∃ ps' : List (ByteArray × Bool), q.1 = ps'.map parT
  | 0, ps, s, q, h => by unfold paramsL at h; cases h
  | f + 1, ps, s, q, h => by
    unfold paramsL at h
    obtain ⟨l, hl⟩ := label_is ts s
    have e : ps.map parT ++ [.node 5 (name ts (label ts s).2).1 (label ts s).1 []] = (ps ++ [((name ts (label ts s).2).1, l)]).map parT := by
      rw [List.map_append, hl]; rfl
    rw [e] at h
    split at h
    · exact paramsL_is f _ _ _ h
    · cases h; exact ⟨_, rfl⟩
theorem decl_is (f : Nat) (s : St) (q : Tree × St) (h : declF ts f s = some q) : ∃ k : Kid, q.1 = k.tree ∧ k.fine := by
  unfold declF at h
  obtain ⟨p, hp⟩ := pub_is ts s
  rw [hp] at h
  split at h
  · obtain ⟨a, ha, h⟩ := Option.bind_eq_some_iff.1 h
    obtain ⟨b, hb, h⟩ := Option.bind_eq_some_iff.1 h
    cases h
    obtain ⟨ps, hps⟩ : ∃ ps : List (ByteArray × Bool), a.1 = ps.map parT := by
      unfold params at ha
      split at ha
      · cases ha; exact ⟨[], rfl⟩
      · exact paramsL_is ts f [] _ _ ha
    obtain ⟨l, g, hg⟩ := gives_is ts p (must ts ⟨#[41]⟩ a.2)
    refine ⟨.proc (name ts (pubS ts s).next).1 p l g ps b.1, ?_, (inS ts f).bl _ _ hb⟩
    show Tree.node 4 _ _ _ = Tree.node 4 _ _ _
    rw [hg, hps]
  · cases h
    obtain ⟨l, hl⟩ := label_is ts (pubS ts s)
    rw [hl]
    unfold varS
    split
    · obtain ⟨n, hn⟩ := number_is ts (name ts (label ts (pubS ts s)).2).2.next
      rw [hn]
      exact ⟨.var _ p l (some n), rfl, trivial⟩
    · exact ⟨.var _ p l none, rfl, trivial⟩
theorem importsL_is : ∀ (f : Nat) (ks : List Kid) (s : St) (q : List Tree × St), (∀ k ∈ ks, k.fine) → importsL ts f (ks.map Kid.tree) s = some q → ∃ ks' : List Kid, q.1 = ks'.map Kid.tree ∧ ∀ k ∈ ks', k.fine
  | 0, ks, s, q, hk, h => by unfold importsL at h; cases h
  | f + 1, ks, s, q, hk, h => by
    unfold importsL at h
    split at h
    · have e : ks.map Kid.tree ++ [.node 2 (name ts s.next).1 0 []] = (ks ++ [Kid.imp (name ts s.next).1]).map Kid.tree := by rw [List.map_append]; rfl
      rw [e] at h
      refine importsL_is f _ _ _ ?_ h
      intro k hm
      rw [List.mem_append] at hm
      rcases hm with hm | hm
      · exact hk k hm
      · simp only [List.mem_singleton] at hm; subst hm; trivial
    · cases h; exact ⟨ks, rfl, hk⟩
theorem declsL_is : ∀ (f : Nat) (ks : List Kid) (s : St) (q : List Tree × St), (∀ k ∈ ks, k.fine) → declsL ts f (ks.map Kid.tree) s = some q → ∃ ks' : List Kid, q.1 = ks'.map Kid.tree ∧ ∀ k ∈ ks', k.fine
  | 0, ks, s, q, hk, h => by unfold declsL at h; cases h
  | f + 1, ks, s, q, hk, h => by
    unfold declsL at h
    split at h
    · cases h; exact ⟨ks, rfl, hk⟩
    · obtain ⟨p, hp, h⟩ := Option.bind_eq_some_iff.1 h
      obtain ⟨k, hk1, hk2⟩ := decl_is ts _ _ _ hp
      have e : ks.map Kid.tree ++ [p.1] = (ks ++ [k]).map Kid.tree := by rw [List.map_append, hk1]; rfl
      rw [e] at h
      refine declsL_is f _ _ _ ?_ h
      intro k' hm
      rw [List.mem_append] at hm
      rcases hm with hm | hm
      · exact hk k' hm
      · simp only [List.mem_singleton] at hm; subst hm; exact hk2
end
/-- THE SHAPE: of every text that is a module -/
theorem parse_shape (x : ByteArray) (h : (parse x).code = 0) : (∃ (m : ByteArray) (ks : List Kid), (parse x).tree = .node 1 m 0 (ks.map Kid.tree) ∧ (∀ k ∈ ks, k.fine) ∧ fitsT (parse x).tree = true) ∨ (parse x).tree = none0 := by
  unfold parse at h ⊢
  split
  · exact .inr rfl
  · rename_i ts hs
    cases hm : moduleF ts with
    | none => exact .inr rfl
    | some q =>
      rw [hs] at h
      simp only [hm] at h
      show (∃ (m : ByteArray) (ks : List Kid), (judge ts x.size q).tree = _ ∧ _ ∧ fitsT (judge ts x.size q).tree = true) ∨ (judge ts x.size q).tree = none0
      unfold judge at h ⊢
      split
      · rename_i hb
        rw [if_pos hb] at h
        simp at h
      · rename_i hb
        rw [if_neg hb] at h
        split
        · rename_i hf
          left
          unfold moduleF at hm
          obtain ⟨p, hp, hm⟩ := Option.bind_eq_some_iff.1 hm
          obtain ⟨r, hr, hm⟩ := Option.bind_eq_some_iff.1 hm
          cases hm
          obtain ⟨ks, e1, hk⟩ := importsL_is ts _ [] _ _ (fun k hk => by cases hk) hp
          rw [e1] at hr
          obtain ⟨ks', e2, hk'⟩ := declsL_is ts _ ks _ _ hk hr
          exact ⟨_, ks', by show Tree.node 1 _ 0 r.1 = _; rw [e2], hk', hf⟩
        · exact .inr rfl
end Go.Proofs.YtchhpinmoagkhaaGreatDoor.face
namespace Go.Proofs.YtchhpinmoagkhaaGreatDoor.face
open Go.Proofs.YtchhpinmoagkhaaGreatDoor.syn
set_option linter.unusedVariables false

def parF : List ByteArray → List (ByteArray × Bool) → Int → Option (Int × Int)
  | _, [], _ => none
  | seen, q :: r, a => if among seen q.1 then some (5, a) else parF (seen ++ [q.1]) r (a + 1)
def rangeF : Option Int → Int → Option (Int × Int)
  | none, _ => none
  | some n, a => if n < 1 ∨ 64 < n then some (6, a) else none
/-- what is wrong first: the module's name; imports and declarations ahead; the next node's number -/
def lookK (m : ByteArray) : List Kid → List ByteArray → List ByteArray → Int → Option (Int × Int)
  | [], _, _, _ => none
  | .imp x :: r, is, ns, a => if among is x || eqS x m then some (5, a) else if 5 ≤ is.length then some (1, a) else lookK m r (is ++ [x]) ns (a + 1)
  | .var x p l n :: r, is, ns, a => if among ns x then some (5, a) else if 20 ≤ ns.length then some (1, a) else
    match rangeF n a with
    | some e => some e
    | none => lookK m r is (ns ++ [x]) (a + cntT (Kid.var x p l n).tree)
  | .proc x p l g ps b :: r, is, ns, a => if among ns x then some (5, a) else if 20 ≤ ns.length then some (1, a) else if 5 < ps.length then some (1, a) else
    match parF [] ps (a + 1) with
    | some e => some e
    | none => lookK m r is (ns ++ [x]) (a + cntT (Kid.proc x p l g ps b).tree)
def varD (x : ByteArray) (p l : Bool) (n : Option Int) : VarD := ⟨x, p, bI l, n.getD 0⟩
def procD (x : ByteArray) (p l : Bool) (g : Option Bool) (ps : List (ByteArray × Bool)) : ProcD := ⟨x, p, ps.map fun q => bI q.2, bI l, g.isSome, bI (g.getD false)⟩
def importsK : List Kid → List ByteArray
  | [] => []
  | .imp x :: r => x :: importsK r
  | _ :: r => importsK r
/-- all of them, or what is pub -/
def varsK (all : Bool) : List Kid → List VarD
  | [] => []
  | .var x p l n :: r => if all || p then varD x p l n :: varsK all r else varsK all r
  | _ :: r => varsK all r
def procsK (all : Bool) : List Kid → List ProcD
  | [] => []
  | .proc x p l g ps b :: r => if all || p then procD x p l g ps :: procsK all r else procsK all r
  | _ :: r => procsK all r
def faceK (all : Bool) (m : ByteArray) (ks : List Kid) : FaceD := ⟨m, varsK all ks, procsK all ks⟩
theorem importsK_append : ∀ (a b : List Kid), importsK (a ++ b) = importsK a ++ importsK b
  | [], b => rfl
  | .imp x :: r, b => by show x :: importsK (r ++ b) = x :: (importsK r ++ importsK b); rw [importsK_append r b]
  | .var _ _ _ _ :: r, b => importsK_append r b
  | .proc _ _ _ _ _ _ :: r, b => importsK_append r b
theorem varsK_append (all : Bool) : ∀ (a b : List Kid), varsK all (a ++ b) = varsK all a ++ varsK all b
  | [], b => rfl
  | .imp x :: r, b => varsK_append all r b
  | .var x p l n :: r, b => by
    show (if all || p then varD x p l n :: varsK all (r ++ b) else varsK all (r ++ b)) = (if all || p then varD x p l n :: varsK all r else varsK all r) ++ varsK all b
    rw [varsK_append all r b]
    split <;> rfl
  | .proc _ _ _ _ _ _ :: r, b => varsK_append all r b
theorem procsK_append (all : Bool) : ∀ (a b : List Kid), procsK all (a ++ b) = procsK all a ++ procsK all b
  | [], b => rfl
  | .imp x :: r, b => procsK_append all r b
  | .var _ _ _ _ :: r, b => procsK_append all r b
  | .proc x p l g ps c :: r, b => by
    show (if all || p then procD x p l g ps :: procsK all (r ++ b) else procsK all (r ++ b)) = (if all || p then procD x p l g ps :: procsK all r else procsK all r) ++ procsK all b
    rw [procsK_append all r b]
    split <;> rfl
end Go.Proofs.YtchhpinmoagkhaaGreatDoor.face
namespace Go.Proofs.YtchhpinmoagkhaaGreatDoor.face
open Go.Proofs.YtchhpinmoagkhaaGreatDoor.syn
set_option linter.unusedVariables false

def parD : List ByteArray → List (ByteArray × Bool) → Int → Option (Int × Int)
  | _, [], _ => none
  | seen, q :: r, a => if among seen q.1 then some (5, a) else if 5 ≤ seen.length then some (1, a) else parD (seen ++ [q.1]) r (a + 1)
def lookD : List Kid → List ByteArray → List ByteArray → Int → Option (Int × Int)
  | [], _, _, _ => none
  | .imp x :: r, ms, ns, a => if among ms x then some (5, a) else if 6 ≤ ms.length then some (1, a) else lookD r (ms ++ [x]) ns (a + 1)
  | .var x p l n :: r, ms, ns, a => if among ns x then some (5, a) else if 20 ≤ ns.length then some (1, a) else
    match rangeF n a with
    | some e => some e
    | none => lookD r ms (ns ++ [x]) (a + cntT (Kid.var x p l n).tree)
  | .proc x p l g ps b :: r, ms, ns, a => if among ns x then some (5, a) else if 20 ≤ ns.length then some (1, a) else if 5 < ps.length then some (1, a) else
    match parD [] ps (a + 1) with
    | some e => some e
    | none => lookD r ms (ns ++ [x]) (a + cntT (Kid.proc x p l g ps b).tree)
theorem parD_is : ∀ (ps : List (ByteArray × Bool)) (seen : List ByteArray) (a : Int), seen.length + ps.length ≤ 5 → parD seen ps a = parF seen ps a
  | [], _, _, _ => rfl
  | q :: r, seen, a, h => by
    unfold parD parF
    simp only [List.length_cons] at h
    split
    · rfl
    · rw [if_neg (by omega)]
      exact parD_is r _ _ (by simp; omega)
theorem eqS_swap (x y : ByteArray) : eqS x y = eqS y x := by unfold eqS; rw [Bool.eq_iff_iff]; simp only [beq_iff_eq]; exact eq_comm
theorem among_own (m : ByteArray) (is : List ByteArray) (x : ByteArray) : among (m :: is) x = (among is x || eqS x m) := by
  show (eqS m x || among is x) = _
  rw [eqS_swap m x, Bool.or_comm]
theorem lookD_is (m : ByteArray) : ∀ (K : List Kid) (is ns : List ByteArray) (a : Int), lookD K (m :: is) ns a = lookK m K is ns a
  | [], _, _, _ => rfl
  | .imp x :: r, is, ns, a => by
    unfold lookD lookK
    rw [among_own]
    split
    · rfl
    · simp only [List.length_cons]
      by_cases h : 5 ≤ is.length
      · rw [if_pos (by omega), if_pos h]
      · rw [if_neg (by omega), if_neg h]
        exact lookD_is m r (is ++ [x]) ns (a + 1)
  | .var x p l n :: r, is, ns, a => by
    unfold lookD lookK
    split
    · rfl
    · split
      · rfl
      · cases rangeF n a with
        | some e => rfl
        | none => exact lookD_is m r is _ _
  | .proc x p l g ps b :: r, is, ns, a => by
    unfold lookD lookK
    split
    · rfl
    · split
      · rfl
      · split
        · rfl
        · rename_i h5
          rw [parD_is ps [] (a + 1) (by simp; omega)]
          cases parF [] ps (a + 1) with
          | some e => rfl
          | none => exact lookD_is m r is _ _
end Go.Proofs.YtchhpinmoagkhaaGreatDoor.face
namespace Go.Proofs.YtchhpinmoagkhaaGreatDoor.face
open Go.Proofs.YtchhpinmoagkhaaGreatDoor.syn
set_option linter.unusedVariables false

def Kid.good : Kid → Prop
  | .imp x => x.size ≤ 16
  | .var x _ _ _ => x.size ≤ 16
  | .proc x _ _ _ ps b => x.size ≤ 16 ∧ (∀ q ∈ ps, q.1.size ≤ 16) ∧ InT b
end Go.Proofs.YtchhpinmoagkhaaGreatDoor.face
