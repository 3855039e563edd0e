/- Faces: as plain data, where they lie in memory, and how an argument that reads as one is opened. What chapter 4 says of faces that may be, and of faces that are the same: plain functions. No Go in sight. A map of one's own that is a set of names: how many are known. -/
import Derived.Test.YthfeojjfehbgjaaGreatDoorProg
import Derived.Test.YthfeojjfehbgjaaGreatDoorOGSynSpec
import Derived.WalkKit
import Derived.WalkLawsBesides
import Derived.ProofKit
import Derived.Below
import Derived.Deep.Slices
import Derived.Lib.SmallJoins
import Derived.Test.YthfeojjfehbgjaaGreatDoorOGFaceDat
import Derived.Maps.OwnSet
namespace Go.Proofs.YthfeojjfehbgjaaGreatDoor.face
open Go.RowKit Go.ChangeShapes Go.WideShapes
open Go.Proofs.YthfeojjfehbgjaaGreatDoor.syn (isName eqS)
set_option linter.unusedVariables false
set_option maxRecDepth 100000

/-- a row of numbers -/
def IntsIn (w : World) (v : Value) (l : List Int) : Prop := ∃ a c, v = .slice a l.length c ∧ l.length ≤ 9223372036854775807 ∧
  (l ≠ [] → ∃ g o, a = some ⟨g, o, none⟩ ∧ ∀ i (h : i < l.length), w.cell? ⟨g, o + i, none⟩ = some (.int .i64 l[i]))
def VarsIn (w : World) (v : Value) (l : List VarD) : Prop := ∃ a c, v = .slice a l.length c ∧ l.length ≤ 4611686018427387903 ∧
  (l ≠ [] → ∃ g o, a = some ⟨g, o, none⟩ ∧ ∀ i (h : i < l.length), w.cell? ⟨g, o + i * 4, none⟩ = some (.string l[i].name) ∧ w.cell? ⟨g, o + i * 4 + 1, none⟩ = some (.bool l[i].pub) ∧
    w.cell? ⟨g, o + i * 4 + 2, none⟩ = some (.int .i64 l[i].label) ∧ w.cell? ⟨g, o + i * 4 + 3, none⟩ = some (.int .i64 l[i].size))
def ProcsIn (w : World) (v : Value) (l : List ProcD) : Prop := ∃ a c, v = .slice a l.length c ∧ l.length ≤ 4611686018427387903 ∧
  (l ≠ [] → ∃ g o, a = some ⟨g, o, none⟩ ∧ ∀ i (h : i < l.length), w.cell? ⟨g, o + i * 6, none⟩ = some (.string l[i].name) ∧ w.cell? ⟨g, o + i * 6 + 1, none⟩ = some (.bool l[i].pub) ∧
    (∃ u, w.cell? ⟨g, o + i * 6 + 2, none⟩ = some u ∧ IntsIn w u l[i].params) ∧
    w.cell? ⟨g, o + i * 6 + 3, none⟩ = some (.int .i64 l[i].writes) ∧ w.cell? ⟨g, o + i * 6 + 4, none⟩ = some (.bool l[i].gives) ∧ w.cell? ⟨g, o + i * 6 + 5, none⟩ = some (.int .i64 l[i].given))
def FaceIn (w : World) (v : Value) (f : FaceD) : Prop := ∃ vv pv, v = .agg #[.string f.module, vv, pv] ∧ VarsIn w vv f.vars ∧ ProcsIn w pv f.procs
/-- the value of one procedure -/
def procV (p : ProcD) (u : Value) : Value := .agg #[.string p.name, .bool p.pub, u, .int .i64 p.writes, .bool p.gives, .int .i64 p.given]
def varV (v : VarD) : Value := .agg #[.string v.name, .bool v.pub, .int .i64 v.label, .int .i64 v.size]

/-! what was there stays -/
theorem keep {w w' : World} {a : Addr} {x : Value} (h : w.cell? a = some x) (hb : Below w.heap.size w w') : w'.cell? a = some x := by
  rw [hb.cell (World.block_lt_of_cell? w a h)]; exact h
theorem IntsIn.below {w w' : World} {v : Value} {l : List Int} (h : IntsIn w v l) (hb : Below w.heap.size w w') : IntsIn w' v l := by
  obtain ⟨a, c, e, hl, hk⟩ := h
  refine ⟨a, c, e, hl, fun hne => ?_⟩
  obtain ⟨g, o, e2, hc⟩ := hk hne
  exact ⟨g, o, e2, fun i hi => keep (hc i hi) hb⟩
theorem VarsIn.below {w w' : World} {v : Value} {l : List VarD} (h : VarsIn w v l) (hb : Below w.heap.size w w') : VarsIn w' v l := by
  obtain ⟨a, c, e, hl, hk⟩ := h
  refine ⟨a, c, e, hl, fun hne => ?_⟩
  obtain ⟨g, o, e2, hc⟩ := hk hne
  exact ⟨g, o, e2, fun i hi => ⟨keep (hc i hi).1 hb, keep (hc i hi).2.1 hb, keep (hc i hi).2.2.1 hb, keep (hc i hi).2.2.2 hb⟩⟩
theorem ProcsIn.below {w w' : World} {v : Value} {l : List ProcD} (h : ProcsIn w v l) (hb : Below w.heap.size w w') : ProcsIn w' v l := by
  obtain ⟨a, c, e, hl, hk⟩ := h
  refine ⟨a, c, e, hl, fun hne => ?_⟩
  obtain ⟨g, o, e2, hc⟩ := hk hne
  refine ⟨g, o, e2, fun i hi => ?_⟩
  obtain ⟨h0, h1, ⟨u, h2, hu⟩, h3, h4, h5⟩ := hc i hi
  exact ⟨keep h0 hb, keep h1 hb, ⟨u, keep h2 hb, hu.below hb⟩, keep h3 hb, keep h4 hb, keep h5 hb⟩
theorem FaceIn.below {w w' : World} {v : Value} {f : FaceD} (h : FaceIn w v f) (hb : Below w.heap.size w w') : FaceIn w' v f := by
  obtain ⟨vv, pv, e, h1, h2⟩ := h
  exact ⟨vv, pv, e, h1.below hb, h2.below hb⟩

/-! an argument is opened -/
theorem plain_addr {w : World} {a : Addr} {v : Value} (h : w.cell? a = some v) : ∃ g o, a = ⟨g, o, none⟩ := by
  obtain ⟨g, o, s⟩ := a
  cases s with
  | none => exact ⟨g, o, rfl⟩
  | some s =>
    unfold World.cell? at h
    simp only at h
    split at h
    · simp at h
    · cases h
section
variable {H : Type} {enc : TypeId × Value → H} {W : World} {n : Nat}
theorem cell4 : Tryz.prog.cellsOf 100 = 4 := by kernel_rfl
theorem cell6 : Tryz.prog.cellsOf 102 = 6 := by kernel_rfl
theorem cell1s : Tryz.prog.cellsOf 9 = 1 := by kernel_rfl
theorem cell1b : Tryz.prog.cellsOf 4 = 1 := by kernel_rfl
theorem cell1i : Tryz.prog.cellsOf 3 = 1 := by kernel_rfl
theorem cell1l : Tryz.prog.cellsOf 83 = 1 := by kernel_rfl
theorem cell3 : Tryz.prog.cellsOf 25 = 3 := by kernel_rfl
theorem maxLen_le : maxLen ≤ 9223372036854775807 := by unfold maxLen; omega
theorem reach_le : reachBytes ≤ 4611686018427387903 := by decide
theorem bytesVar : Tryz.prog.bytesOf 100 = 40 := by kernel_rfl
theorem bytesProc : Tryz.prog.bytesOf 102 = 72 := by kernel_rfl
theorem open_ints' {v : Value} {x : DataW H × List MemPlace} (h : DataW.trod enc Tryz.prog W 0 (fun _ => true) true n 83 [v] = some x) : ∃ l, IntsIn W v l := by
  rcases open_ints Tryz.underlying83 Tryz.underlying3 cell1i h with ⟨h0, _⟩ | ⟨a, len, cap, zs, h0, _, hl, hm, hz, _, hc, _⟩
  · simp only [List.cons.injEq, and_true] at h0
    exact ⟨[], none, 0, h0, by simp, fun h => absurd rfl h⟩
  · simp only [List.cons.injEq, and_true] at h0
    simp only [if_true] at hz
    have hlen : (zs.take len).length = len := by rw [List.length_take]; omega
    refine ⟨zs.take len, some a, cap, by rw [hlen]; exact h0, by rw [hlen]; have := maxLen_le; omega, fun hne => ?_⟩
    have hpos : 0 < len := by
      rcases Nat.eq_zero_or_pos len with h | h
      · subst h; simp at hne
      · exact h
    have h00 := hc 0 (by omega)
    rw [Addr.add, if_pos rfl] at h00
    obtain ⟨g, o, rfl⟩ := plain_addr h00
    refine ⟨g, o, rfl, fun i hi => ?_⟩
    rw [hlen] at hi
    have := hc i (by omega)
    rw [add_plain] at this
    rw [this, List.getElem_take, List.getD_eq_getElem?_getD, List.getElem?_eq_getElem (by omega)]
    rfl
theorem open_vars {v : Value} {x : DataW H × List MemPlace} (h : DataW.trod enc Tryz.prog W 0 (fun _ => true) true n 22 [v] = some x) (hwt : ∀ k ∈ x.1.weights Tryz.prog 22, k ≤ reachBytes) : ∃ l, VarsIn W v l := by
  rcases Deep.open_slice Tryz.underlying22 h with ⟨h0, _⟩ | ⟨a, len, cap, m, k, D, Pl, h0, _, hl, hm, hmm, rfl, hc⟩
  · simp only [List.cons.injEq, and_true] at h0
    exact ⟨[], none, 0, h0, by simp, fun h => absurd rfl h⟩
  · simp only [List.cons.injEq, and_true] at h0
    simp only [if_true] at hmm
    have hlim : len ≤ 4611686018427387903 := by
      have h2 := hwt ((len + (m - len)) * 40) (by simp [DataW.weights, Tryz.underlying22, bytesVar])
      have := reach_le
      omega
    have each : ∀ i, i < len → ∃ q : VarD, W.cell? (a.add (i * 4)) = some (.string q.name) ∧ W.cell? (a.add (i * 4 + 1)) = some (.bool q.pub) ∧ W.cell? (a.add (i * 4 + 2)) = some (.int .i64 q.label) ∧ W.cell? (a.add (i * 4 + 3)) = some (.int .i64 q.size) := by
      intro i hi
      obtain ⟨cs', h1, h2⟩ := hc i (by omega)
      rw [cell4] at h1
      obtain ⟨_, hlen, hcell⟩ := World.cells?_some h1
      obtain ⟨y0, y1, y2, y3, n', _, _, t0, t1, t2, t3⟩ := Joins.trod_struct4 Tryz.underlying100 h2
      simp only [cell1s, cell1b, cell1i] at t0 t1 t2 t3
      match cs', hlen with
      | [c0, c1, c2, c3], _ =>
        simp only [List.drop, List.take] at t0 t1 t2 t3
        obtain ⟨s, e0, _, _⟩ := DataW.trod_string Tryz.underlying9 t0
        obtain ⟨b, e1, _⟩ := DataW.trod_bool Tryz.underlying4 t1
        obtain ⟨j, e2, _, _⟩ := DataW.trod_int Tryz.underlying3 t2
        obtain ⟨z, e3, _, _⟩ := DataW.trod_int Tryz.underlying3 t3
        simp only [List.cons.injEq, and_true] at e0 e1 e2 e3
        subst e0 e1 e2 e3
        refine ⟨⟨s, b, j, z⟩, ?_, ?_, ?_, ?_⟩
        · simpa [Deep.add_add] using hcell 0 (by omega)
        · simpa [Deep.add_add] using hcell 1 (by omega)
        · simpa [Deep.add_add] using hcell 2 (by omega)
        · simpa [Deep.add_add] using hcell 3 (by omega)
    obtain ⟨V, hV⟩ := Deep.choose_lt each
    refine ⟨(List.range len).map V, some a, cap, by simpa using h0, by simpa using hlim, fun hne => ?_⟩
    have hpos : 0 < len := by
      rcases Nat.eq_zero_or_pos len with h | h
      · subst h; simp at hne
      · exact h
    have h00 := (hV 0 hpos).1
    rw [Nat.zero_mul, Addr.add, if_pos rfl] at h00
    obtain ⟨g, o, rfl⟩ := plain_addr h00
    refine ⟨g, o, rfl, fun i hi => ?_⟩
    have := hV i (by simpa using hi)
    simp only [add_plain] at this
    simp only [List.getElem_map, List.getElem_range]
    exact this
theorem trod_struct6 {P : Program} {w : World} {base : Nat} {spare : Nat → Bool} {held : Bool} {t : TypeId} {f0 f1 f2 f3 f4 f5 : Field} {fuel : Nat} {cs : List Value} {x : DataW H × List MemPlace} (ht : P.underlying t = some (.struct #[f0, f1, f2, f3, f4, f5])) (h : DataW.trod enc P w base spare held fuel t cs = some x) :
    ∃ y0 y1 y2 y3 y4 y5 n, DataW.trod enc P w base spare held n f0.type ((cs.drop f0.offset).take (P.cellsOf f0.type)) = some y0 ∧
      DataW.trod enc P w base spare held n f1.type ((cs.drop f1.offset).take (P.cellsOf f1.type)) = some y1 ∧ DataW.trod enc P w base spare held n f2.type ((cs.drop f2.offset).take (P.cellsOf f2.type)) = some y2 ∧
      DataW.trod enc P w base spare held n f3.type ((cs.drop f3.offset).take (P.cellsOf f3.type)) = some y3 ∧ DataW.trod enc P w base spare held n f4.type ((cs.drop f4.offset).take (P.cellsOf f4.type)) = some y4 ∧
      DataW.trod enc P w base spare held n f5.type ((cs.drop f5.offset).take (P.cellsOf f5.type)) = some y5 := by
  obtain ⟨xs, n, _, rfl, hl, hlen, hf⟩ := DataW.trod_struct ht h
  match xs, hlen with
  | [y0, y1, y2, y3, y4, y5], _ => exact ⟨y0, y1, y2, y3, y4, y5, n, by simpa using hf 0 f0 rfl, by simpa using hf 1 f1 rfl, by simpa using hf 2 f2 rfl, by simpa using hf 3 f3 rfl, by simpa using hf 4 f4 rfl, by simpa using hf 5 f5 rfl⟩
theorem open_procs {v : Value} {x : DataW H × List MemPlace} (h : DataW.trod enc Tryz.prog W 0 (fun _ => true) true n 23 [v] = some x) (hwt : ∀ k ∈ x.1.weights Tryz.prog 23, k ≤ reachBytes) : ∃ l, ProcsIn W v l := by
  rcases Deep.open_slice Tryz.underlying23 h with ⟨h0, _⟩ | ⟨a, len, cap, m, k, D, Pl, h0, _, hl, hm, hmm, rfl, hc⟩
  · simp only [List.cons.injEq, and_true] at h0
    exact ⟨[], none, 0, h0, by simp, fun h => absurd rfl h⟩
  · simp only [List.cons.injEq, and_true] at h0
    simp only [if_true] at hmm
    have hlim : len ≤ 4611686018427387903 := by
      have h2 := hwt ((len + (m - len)) * 72) (by simp [DataW.weights, Tryz.underlying23, bytesProc])
      have := reach_le
      omega
    have each : ∀ i, i < len → ∃ q : ProcD, W.cell? (a.add (i * 6)) = some (.string q.name) ∧ W.cell? (a.add (i * 6 + 1)) = some (.bool q.pub) ∧ (∃ u, W.cell? (a.add (i * 6 + 2)) = some u ∧ IntsIn W u q.params) ∧ W.cell? (a.add (i * 6 + 3)) = some (.int .i64 q.writes) ∧ W.cell? (a.add (i * 6 + 4)) = some (.bool q.gives) ∧ W.cell? (a.add (i * 6 + 5)) = some (.int .i64 q.given) := by
      intro i hi
      obtain ⟨cs', h1, h2⟩ := hc i (by omega)
      rw [cell6] at h1
      obtain ⟨_, hlen, hcell⟩ := World.cells?_some h1
      obtain ⟨y0, y1, y2, y3, y4, y5, n', t0, t1, t2, t3, t4, t5⟩ := trod_struct6 Tryz.underlying102 h2
      simp only [cell1s, cell1b, cell1i, cell1l] at t0 t1 t2 t3 t4 t5
      match cs', hlen with
      | [c0, c1, c2, c3, c4, c5], _ =>
        simp only [List.drop, List.take] at t0 t1 t2 t3 t4 t5
        obtain ⟨s, e0, _, _⟩ := DataW.trod_string Tryz.underlying9 t0
        obtain ⟨b, e1, _⟩ := DataW.trod_bool Tryz.underlying4 t1
        obtain ⟨zs, hzs⟩ := open_ints' t2
        obtain ⟨j, e3, _, _⟩ := DataW.trod_int Tryz.underlying3 t3
        obtain ⟨b', e4, _⟩ := DataW.trod_bool Tryz.underlying4 t4
        obtain ⟨z, e5, _, _⟩ := DataW.trod_int Tryz.underlying3 t5
        simp only [List.cons.injEq, and_true] at e0 e1 e3 e4 e5
        subst e0 e1 e3 e4 e5
        refine ⟨⟨s, b, zs, j, b', z⟩, ?_, ?_, ⟨c2, ?_, hzs⟩, ?_, ?_, ?_⟩
        · simpa [Deep.add_add] using hcell 0 (by omega)
        · simpa [Deep.add_add] using hcell 1 (by omega)
        · simpa [Deep.add_add] using hcell 2 (by omega)
        · simpa [Deep.add_add] using hcell 3 (by omega)
        · simpa [Deep.add_add] using hcell 4 (by omega)
        · simpa [Deep.add_add] using hcell 5 (by omega)
    obtain ⟨V, hV⟩ := Deep.choose_lt each
    refine ⟨(List.range len).map V, some a, cap, by simpa using h0, by simpa using hlim, fun hne => ?_⟩
    have hpos : 0 < len := by
      rcases Nat.eq_zero_or_pos len with h | h
      · subst h; simp at hne
      · exact h
    have h00 := (hV 0 hpos).1
    rw [Nat.zero_mul, Addr.add, if_pos rfl] at h00
    obtain ⟨g, o, rfl⟩ := plain_addr h00
    refine ⟨g, o, rfl, fun i hi => ?_⟩
    have := hV i (by simpa using hi)
    simp only [add_plain] at this
    simp only [List.getElem_map, List.getElem_range]
    exact this
theorem open_face {b0 : Nat} {v : Value} {d : DataW H} {p : List MemPlace} (hv : Value.okWide Tryz.prog W .any b0 25 v) (h : DataW.Trod enc Tryz.prog W 0 (fun _ => true) true 25 v d p) (hwt : ∀ k ∈ d.weights Tryz.prog 25, k ≤ reachBytes) : ∃ f, FaceIn W v f := by
  obtain ⟨v0, v1, v2, y0, y1, y2, k, rfl, rfl, _, t0, t1, t2⟩ := Joins.open_agg3 Tryz.underlying25 (by kernel_rfl) cell3 hv h
  obtain ⟨s, e0, _, _⟩ := DataW.trod_string Tryz.underlying9 t0
  simp only [List.cons.injEq, and_true] at e0
  subst e0
  obtain ⟨vs, hvs⟩ := open_vars t1 (fun k hk => hwt k (by simp [DataW.weights, DataW.weightsEach, Tryz.underlying25, hk]))
  obtain ⟨ps, hps⟩ := open_procs t2 (fun k hk => hwt k (by simp [DataW.weights, DataW.weightsEach, Tryz.underlying25, hk]))
  exact ⟨⟨s, vs, ps⟩, v1, v2, rfl, hvs, hps⟩
end
end Go.Proofs.YthfeojjfehbgjaaGreatDoor.face
namespace Go.Proofs.YthfeojjfehbgjaaGreatDoor.face
open Go.RowKit
open Go.Proofs.YthfeojjfehbgjaaGreatDoor.syn (isName eqS)
set_option linter.unusedVariables false

theorem all2_len {α : Type} {p : α → α → Bool} : ∀ {l m : List α}, l.length ≠ m.length → all2 p l m = false
  | [], [], h => absurd rfl h
  | [], _ :: _, _ => rfl
  | _ :: _, [], _ => rfl
  | x :: r, y :: s, h => by
    have : all2 p r s = false := all2_len (by simpa using h)
    show (p x y && all2 p r s) = false
    rw [this, Bool.and_false]
theorem all2_no {α : Type} {p : α → α → Bool} : ∀ {l m : List α} (i : Nat) (h : i < l.length) (h2 : i < m.length), p l[i] m[i] = false → all2 p l m = false
  | [], _, _, h, _, _ => by simp at h
  | _ :: _, [], _, _, h, _ => by simp at h
  | x :: r, y :: s, 0, h, h2, hp => by
    show (p x y && all2 p r s) = false
    simp only [List.getElem_cons_zero] at hp
    rw [hp]; rfl
  | x :: r, y :: s, i + 1, h, h2, hp => by
    show (p x y && all2 p r s) = false
    simp only [List.getElem_cons_succ] at hp
    rw [all2_no i (by simpa using h) (by simpa using h2) hp, Bool.and_false]
theorem all2_yes {α : Type} {p : α → α → Bool} : ∀ {l m : List α}, l.length = m.length → (∀ i (h : i < l.length) (h2 : i < m.length), p l[i] m[i] = true) → all2 p l m = true
  | [], [], _, _ => rfl
  | [], _ :: _, h, _ => by simp at h
  | _ :: _, [], h, _ => by simp at h
  | x :: r, y :: s, h, hp => by
    show (p x y && all2 p r s) = true
    have h0 : p x y = true := hp 0 (by simp) (by simp)
    rw [h0, all2_yes (by simpa using h) (fun i h h2 => hp (i + 1) (by simp; omega) (by simp; omega))]
    rfl
theorem all_no {α : Type} {p : α → Bool} {l : List α} (i : Nat) (h : i < l.length) (hp : p l[i] = false) : l.all p = false := by
  rw [List.all_eq_false]
  exact ⟨l[i], List.getElem_mem h, by simp [hp]⟩
theorem all_yes {α : Type} {p : α → Bool} {l : List α} (hp : ∀ i (h : i < l.length), p l[i] = true) : l.all p = true := by
  rw [List.all_eq_true]
  intro x hx
  obtain ⟨k, hk, rfl⟩ := List.mem_iff_getElem.1 hx
  exact hp k hk
theorem ints_all2 : ∀ (l m : List Int), (l == m) = all2 (fun a b => a == b) l m
  | [], [] => rfl
  | [], _ :: _ => rfl
  | _ :: _, [] => rfl
  | x :: r, y :: s => by
    show (x :: r == y :: s) = (x == y && all2 _ r s)
    rw [List.cons_beq_cons, ints_all2 r s]
theorem ret_b {x y : Bool} (h : x = y) : Ending.returned (.bool x) = .returned (.bool y) := by rw [h]
theorem cell_new {w : World} {a : Addr} {v : Value} (h : w.cell? a = some v) (ob : Obj) : (w.alloc ob).cell? a = some v := by
  rw [((Below.refl _ _).alloc (Nat.le_refl _) ob).cell (World.block_lt_of_cell? w a h)]; exact h
end Go.Proofs.YthfeojjfehbgjaaGreatDoor.face
namespace Go.Proofs.YthfeojjfehbgjaaGreatDoor.face
open Go.RowKit Go.Maps Go.WideMaps
open Go.Proofs.YthfeojjfehbgjaaGreatDoor.syn (isName eqS)
set_option linter.unusedVariables false
set_option linter.unusedSimpArgs false
set_option maxRecDepth 100000

/-! how many names are known: plain facts -/
def keyL (x : ByteArray) : Lit := .string x.data.toList
def keysL (l : List ByteArray) : List Lit := l.map keyL
theorem eqS_key (x y : ByteArray) : (keyL x).sameKey (keyL y) = eqS x y := by
  show (x.data.toList == y.data.toList) = eqS x y
  unfold eqS
  rw [ByteArray.toList_eq, ByteArray.toList_eq]
theorem among_key (l : List ByteArray) (x : ByteArray) : ((keysL l).any fun y => y.sameKey (keyL x)) = among l x := by
  unfold keysL among
  rw [List.any_map]
  congr 1
  funext y
  exact eqS_key y x
theorem fold_le : ∀ (l acc : List Lit), (l.foldl addKey acc).length ≤ acc.length + l.length
  | [], acc => by simp
  | x :: r, acc => by
    rw [List.foldl_cons]
    have h1 := fold_le r (addKey acc x)
    have h2 : (addKey acc x).length ≤ acc.length + 1 := by unfold addKey; split <;> simp
    simp only [List.length_cons]
    omega
theorem fold_apart : ∀ (l seen : List ByteArray), (((keysL l).foldl addKey (keysL seen)).length == seen.length + l.length) = apartB seen l
  | [], seen => by simp [keysL, apartB]
  | x :: r, seen => by
    show (((keyL x :: keysL r).foldl addKey (keysL seen)).length == seen.length + (r.length + 1)) = (!among seen x && apartB (seen ++ [x]) r)
    rw [List.foldl_cons]
    unfold addKey
    rw [among_key]
    cases h : among seen x
    · simp only [Bool.false_eq_true, if_false, Bool.not_false, Bool.true_and]
      have e : keysL seen ++ [keyL x] = keysL (seen ++ [x]) := by simp [keysL]
      have := fold_apart r (seen ++ [x])
      rw [e, ← this]
      simp only [List.length_append, List.length_cons, List.length_nil]
      congr 1
      omega
    · simp only [if_true, Bool.not_true, Bool.false_and]
      have := fold_le (keysL r) (keysL seen)
      have e1 : (keysL seen).length = seen.length := by simp [keysL]
      have e2 : (keysL r).length = r.length := by simp [keysL]
      rw [beq_eq_false_iff_ne]
      show (List.foldl addKey (keysL seen) (keysL r)).length ≠ _
      omega
def setD (l : List ByteArray) : DataW Unit := setOf (.agg []) (keysL l)
theorem setD_size (l : List ByteArray) : (Maps.size (setD l) == l.length) = apartB [] l := by
  unfold setD
  rw [size_setOf _ _ (fun x hx => by obtain ⟨y, _, rfl⟩ := List.mem_map.1 hx; trivial)]
  have := fold_apart l []
  simpa [keysL] using this
theorem setD_snoc (l : List ByteArray) (x : ByteArray) : setD (l ++ [x]) = (setD l).put (keyL x) (.agg []) := by
  unfold setD keysL
  rw [List.map_append, List.map_singleton, setOf_snoc]

/-! the map while it is filled -/
theorem lawS : Keyed Tryz.prog 9 := string_keyed Tryz.underlying9
theorem isName_size {x : ByteArray} (h : isName x = true) : x.size ≤ maxLen := by
  unfold isName at h
  simp only [Bool.and_eq_true, decide_eq_true_eq] at h
  have := h.1.1.1.2
  unfold maxLen
  omega
theorem key_name {x : ByteArray} (h : isName x = true) : keyOf Tryz.prog 9 (.string x) = some (keyL x) := keyOf_string_mk Tryz.underlying9 (isName_size h)
theorem grown_of_below {w w' : World} (hb : Below w.heap.size w w') : w.grownBy w' none := ⟨hb.os, hb.tape, hb.output, hb.size, fun j hj _ => hb.block j hj⟩
theorem grown_cell {w w' : World} {row : Option Nat} (hg : w.grownBy w' row) {a : Addr} {v : Value} (h : w.cell? a = some v) (hne : some a.block ≠ row) : w'.cell? a = some v := by
  have := hg.block a.block (World.block_lt_of_cell? w a h) hne
  unfold World.cell? at h ⊢
  rw [this]
  exact h
end Go.Proofs.YthfeojjfehbgjaaGreatDoor.face
