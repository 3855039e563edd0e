/- An argument that reads as an object, and is not too great, is opened. Bytes that are handed in, of bulk up to 1048576. -/
import Derived.Test.YthfeojjfehbgjaaGreatDoorRows
import Derived.Test.YthfeojjfehbgjaaGreatDoorOGObjMem
import Derived.Test.YthfeojjfehbgjaaGreatDoorOGObjBack
import Derived.Test.YthfeojjfehbgjaaGreatDoorOGObjGetW
import Derived.ChangeSlices
namespace Go.Proofs.YthfeojjfehbgjaaGreatDoor.obj
open Go.RowKit Go.ChangeShapes Go.WideShapes
open Go.Proofs.YthfeojjfehbgjaaGreatDoor.mac (Ins)
open Go.Proofs.YthfeojjfehbgjaaGreatDoor.face (VarD ProcD FaceD VarsIn ProcsIn IntsIn FaceIn plain_addr cell1s cell1b cell1i cell1l cell3 cell4 cell6 open_ints' trod_struct6)
set_option linter.unusedVariables false
set_option maxRecDepth 100000
theorem bulk_pos {H : Type} (d : DataW H) : 1 ≤ Rows.uptoBulk d := by
  cases d with
  | lit l => cases l <;> simp [Rows.uptoBulk]
  | _ => simp [Rows.uptoBulk]
theorem bulk_part {H : Type} {d : DataW H} : ∀ {l : List (DataW H)}, d ∈ l → Rows.uptoBulk d ≤ Rows.uptoBulkAll l
  | [], h => by cases h
  | x :: r, h => by
    simp only [Rows.uptoBulkAll]
    rcases List.mem_cons.1 h with e | e
    · subst e; omega
    · have := bulk_part (l := r) e; omega
theorem bulk_len {H : Type} : ∀ l : List (DataW H), l.length ≤ Rows.uptoBulkAll l
  | [] => by simp [Rows.uptoBulkAll]
  | x :: r => by have := bulk_pos x; have := bulk_len r; simp only [Rows.uptoBulkAll, List.length_cons]; omega
section
variable {H : Type} {enc : TypeId × Value → H} {W : World} {n : Nat}
/-- a row of structures, opened element by element -/
theorem open_row {α : Type} [Inhabited α] {T E : TypeId} {k : Nat} (hT : Tryz.prog.underlying T = some (.slice E)) (hE : Tryz.prog.cellsOf E = k) (hk : 0 < k) (C : α → (Nat → Option Value) → Prop)
    (each : ∀ (cs : List Value) (m : Nat) (y : DataW H × List MemPlace), cs.length = k → DataW.trod enc Tryz.prog W 0 (fun _ => true) true m E cs = some y → Rows.uptoBulk y.1 ≤ 1048576 → ∃ q : α, ∀ f : Nat → Option Value, (∀ i (h : i < cs.length), f i = some cs[i]) → C q f)
    {v : Value} {x : DataW H × List MemPlace} (h : DataW.trod enc Tryz.prog W 0 (fun _ => true) true n T [v] = some x) (hb : Rows.uptoBulk x.1 ≤ 1048576) :
    ∃ l : List α, ∃ a c, v = .slice a l.length c ∧ l.length ≤ 1048576 ∧ (l ≠ [] → ∃ g o, a = some ⟨g, o, none⟩ ∧ ∀ i (h : i < l.length), C l[i] fun m => W.cell? ⟨g, o + i * k + m, none⟩) := by
  rcases Deep.open_slice hT h with ⟨h0, _⟩ | ⟨a, len, cap, m, q, D, Pl, h0, _, hl, hm, hmm, rfl, hc⟩
  · simp only [List.cons.injEq, and_true] at h0
    exact ⟨[], none, 0, h0, by simp, fun h => absurd rfl h⟩
  · simp only [List.cons.injEq, and_true] at h0
    simp only [if_true] at hmm
    simp only [Rows.uptoBulk] at hb
    have hlen := bulk_len ((List.range len).map D)
    rw [List.length_map, List.length_range] at hlen
    have one : ∀ i, i < len → ∃ q : α, ∀ g o, a = ⟨g, o, none⟩ → C q fun m => W.cell? ⟨g, o + i * k + m, none⟩ := by
      intro i hi
      obtain ⟨cs', h1, h2⟩ := hc i (by omega)
      rw [hE] at h1
      obtain ⟨_, hlen2, hcell⟩ := World.cells?_some h1
      have hpart := bulk_part (d := D i) (l := (List.range len).map D) (List.mem_map.2 ⟨i, List.mem_range.2 hi, rfl⟩)
      obtain ⟨q, hq⟩ := each cs' _ _ hlen2 h2 (by show Rows.uptoBulk (D i) ≤ _; omega)
      refine ⟨q, fun g o e => ?_⟩
      subst e
      refine hq _ fun j hj => ?_
      have := hcell j (by omega)
      rw [List.getElem?_eq_getElem hj] at this
      simpa [add_plain, Nat.add_assoc] using this
    obtain ⟨V, hV⟩ := Deep.choose_lt one
    refine ⟨(List.range len).map V, some a, cap, by simpa using h0, by simp; omega, fun hne => ?_⟩
    have hpos : 0 < len := by
      rcases Nat.eq_zero_or_pos len with h | h
      · subst h; simp at hne
      · exact h
    obtain ⟨g, o, e⟩ : ∃ g o, a = ⟨g, o, none⟩ := by
      obtain ⟨cs', h1, h2⟩ := hc 0 (by omega)
      rw [hE] at h1
      obtain ⟨_, hlen2, hcell⟩ := World.cells?_some h1
      have hc0 := hcell 0 (by omega)
      rw [List.getElem?_eq_getElem (show 0 < cs'.length by omega), Nat.zero_mul, Addr.add, if_pos rfl, Addr.add, if_pos rfl] at hc0
      exact plain_addr hc0
    refine ⟨g, o, by rw [e], fun i hi => ?_⟩
    simp only [List.getElem_map, List.getElem_range]
    exact (hV i (by simpa using hi)) g o e
theorem i64_of {z : Int} (h : (Lit.int .i64 z).wf = true) : I64 z := by
  have h2 : (decide (IntKind.i64.min ≤ z) && decide (z ≤ IntKind.i64.max)) = true := h
  simp only [Bool.and_eq_true, decide_eq_true_eq] at h2
  have e1 : IntKind.i64.min = -9223372036854775808 := by decide
  have e2 : IntKind.i64.max = 9223372036854775807 := by decide
  unfold I64
  omega
theorem cellI64 : Tryz.prog.cellsOf 2 = 1 := by kernel_rfl
theorem trod_struct2' {P : Program} {w : World} {base : Nat} {spare : Nat → Bool} {held : Bool} {t : TypeId} {f0 f1 : Field} {fuel : Nat} {cs : List Value} {x : DataW H × List MemPlace} (ht : P.underlying t = some (.struct #[f0, f1])) (h : DataW.trod enc P w base spare held fuel t cs = some x) :
    ∃ y0 y1 n, DataW.trod enc P w base spare held n f0.type ((cs.drop f0.offset).take (P.cellsOf f0.type)) = some y0 ∧ DataW.trod enc P w base spare held n f1.type ((cs.drop f1.offset).take (P.cellsOf f1.type)) = some y1 := by
  obtain ⟨xs, n, _, rfl, hl, hlen, hf⟩ := DataW.trod_struct ht h
  match xs, hlen with
  | [y0, y1], _ => exact ⟨y0, y1, n, by simpa using hf 0 f0 rfl, by simpa using hf 1 f1 rfl⟩
theorem trod_struct5' {P : Program} {w : World} {base : Nat} {spare : Nat → Bool} {held : Bool} {t : TypeId} {f0 f1 f2 f3 f4 : Field} {fuel : Nat} {cs : List Value} {x : DataW H × List MemPlace} (ht : P.underlying t = some (.struct #[f0, f1, f2, f3, f4])) (h : DataW.trod enc P w base spare held fuel t cs = some x) :
    ∃ y0 y1 y2 y3 y4 n, DataW.trod enc P w base spare held n f0.type ((cs.drop f0.offset).take (P.cellsOf f0.type)) = some y0 ∧
      DataW.trod enc P w base spare held n f1.type ((cs.drop f1.offset).take (P.cellsOf f1.type)) = some y1 ∧ DataW.trod enc P w base spare held n f2.type ((cs.drop f2.offset).take (P.cellsOf f2.type)) = some y2 ∧
      DataW.trod enc P w base spare held n f3.type ((cs.drop f3.offset).take (P.cellsOf f3.type)) = some y3 ∧ DataW.trod enc P w base spare held n f4.type ((cs.drop f4.offset).take (P.cellsOf f4.type)) = some y4 := by
  obtain ⟨xs, n, _, rfl, hl, hlen, hf⟩ := DataW.trod_struct ht h
  match xs, hlen with
  | [y0, y1, y2, y3, y4], _ => exact ⟨y0, y1, y2, y3, y4, n, by simpa using hf 0 f0 rfl, by simpa using hf 1 f1 rfl, by simpa using hf 2 f2 rfl, by simpa using hf 3 f3 rfl, by simpa using hf 4 f4 rfl⟩
theorem open_varsB {v : Value} {x : DataW H × List MemPlace} (h : DataW.trod enc Tryz.prog W 0 (fun _ => true) true n 22 [v] = some x) (hb : Rows.uptoBulk x.1 ≤ 1048576) : ∃ l, VarsIn W v l := by
  obtain ⟨l, a, c, e, hl, hc⟩ := open_row (α := VarD) Tryz.underlying22 cell4 (by decide) (fun q f => f 0 = some (.string q.name) ∧ f 1 = some (.bool q.pub) ∧ f 2 = some (.int .i64 q.label) ∧ f 3 = some (.int .i64 q.size)) (fun cs m y hlen ht hbb => by
    obtain ⟨y0, y1, y2, y3, n', _, _, t0, t1, t2, t3⟩ := Joins.trod_struct4 Tryz.underlying100 ht
    simp only [cell1s, cell1b, cell1i] at t0 t1 t2 t3
    match cs, hlen with
    | [c0, c1, c2, c3], _ =>
      simp only [List.drop, List.take] at t0 t1 t2 t3
      obtain ⟨s, e0, _, _⟩ := DataW.trod_string Tryz.underlying9 t0
      obtain ⟨b, e1, _⟩ := DataW.trod_bool Tryz.underlying4 t1
      obtain ⟨j, e2, _, _⟩ := DataW.trod_int Tryz.underlying3 t2
      obtain ⟨z, e3, _, _⟩ := DataW.trod_int Tryz.underlying3 t3
      simp only [List.cons.injEq, and_true] at e0 e1 e2 e3
      subst e0 e1 e2 e3
      exact ⟨⟨s, b, j, z⟩, fun f hf => ⟨hf 0 (by simp), hf 1 (by simp), hf 2 (by simp), hf 3 (by simp)⟩⟩) h hb
  exact ⟨l, a, c, e, by omega, hc⟩
theorem open_procsB {v : Value} {x : DataW H × List MemPlace} (h : DataW.trod enc Tryz.prog W 0 (fun _ => true) true n 23 [v] = some x) (hb : Rows.uptoBulk x.1 ≤ 1048576) : ∃ l, ProcsIn W v l := by
  obtain ⟨l, a, c, e, hl, hc⟩ := open_row (α := ProcD) Tryz.underlying23 cell6 (by decide) (fun q f => f 0 = some (.string q.name) ∧ f 1 = some (.bool q.pub) ∧ (∃ u, f 2 = some u ∧ IntsIn W u q.params) ∧ f 3 = some (.int .i64 q.writes) ∧ f 4 = some (.bool q.gives) ∧ f 5 = some (.int .i64 q.given)) (fun cs m y hlen ht hbb => by
    obtain ⟨y0, y1, y2, y3, y4, y5, n', t0, t1, t2, t3, t4, t5⟩ := trod_struct6 Tryz.underlying102 ht
    simp only [cell1s, cell1b, cell1i, cell1l] at t0 t1 t2 t3 t4 t5
    match cs, hlen with
    | [c0, c1, c2, c3, c4, c5], _ =>
      simp only [List.drop, List.take] at t0 t1 t2 t3 t4 t5
      obtain ⟨s, e0, _, _⟩ := DataW.trod_string Tryz.underlying9 t0
      obtain ⟨b, e1, _⟩ := DataW.trod_bool Tryz.underlying4 t1
      obtain ⟨zs, hzs⟩ := open_ints' t2
      obtain ⟨j, e3, _, _⟩ := DataW.trod_int Tryz.underlying3 t3
      obtain ⟨b', e4, _⟩ := DataW.trod_bool Tryz.underlying4 t4
      obtain ⟨z, e5, _, _⟩ := DataW.trod_int Tryz.underlying3 t5
      simp only [List.cons.injEq, and_true] at e0 e1 e3 e4 e5
      subst e0 e1 e3 e4 e5
      exact ⟨⟨s, b, zs, j, b', z⟩, fun f hf => ⟨hf 0 (by simp), hf 1 (by simp), ⟨c2, hf 2 (by simp), hzs⟩, hf 3 (by simp), hf 4 (by simp), hf 5 (by simp)⟩⟩) h hb
  exact ⟨l, a, c, e, by omega, hc⟩
theorem bulk3 {a b c : DataW H} (h : Rows.uptoBulk (.agg [a, b, c]) ≤ 1048576) : Rows.uptoBulk a ≤ 1048576 ∧ Rows.uptoBulk b ≤ 1048576 ∧ Rows.uptoBulk c ≤ 1048576 := by
  simp only [Rows.uptoBulk, Rows.uptoBulkAll] at h
  omega
theorem open_faces {v : Value} {x : DataW H × List MemPlace} (h : DataW.trod enc Tryz.prog W 0 (fun _ => true) true n 26 [v] = some x) (hb : Rows.uptoBulk x.1 ≤ 1048576) : ∃ l, FacesIn W v l := by
  obtain ⟨l, a, c, e, hl, hc⟩ := open_row (α := FaceD) Tryz.underlying26 cell3 (by decide) (fun q f => f 0 = some (.string q.module) ∧ (∃ vv, f 1 = some vv ∧ VarsIn W vv q.vars) ∧ (∃ pv, f 2 = some pv ∧ ProcsIn W pv q.procs)) (fun cs m y hlen ht hbb => by
    obtain ⟨y0, y1, y2, n', hx, _, t0, t1, t2⟩ := Deep.trod_struct3 Tryz.underlying25 ht
    subst hx
    have cv : Tryz.prog.cellsOf 22 = 1 := by kernel_rfl
    have cp : Tryz.prog.cellsOf 23 = 1 := by kernel_rfl
    simp only [cell1s, cv, cp] at t0 t1 t2
    obtain ⟨_, hb1, hb2⟩ := bulk3 hbb
    match cs, hlen with
    | [c0, c1, c2], _ =>
      simp only [List.drop, List.take] at t0 t1 t2
      obtain ⟨s, e0, _, _⟩ := DataW.trod_string Tryz.underlying9 t0
      obtain ⟨vs, hvs⟩ := open_varsB t1 hb1
      obtain ⟨ps, hps⟩ := open_procsB t2 hb2
      simp only [List.cons.injEq, and_true] at e0
      subst e0
      exact ⟨⟨s, vs, ps⟩, fun f hf => ⟨hf 0 (by simp), ⟨c1, hf 1 (by simp), hvs⟩, ⟨c2, hf 2 (by simp), hps⟩⟩⟩) h hb
  exact ⟨l, a, c, e, by omega, hc⟩
theorem open_codeB {v : Value} {x : DataW H × List MemPlace} (h : DataW.trod enc Tryz.prog W 0 (fun _ => true) true n 27 [v] = some x) (hb : Rows.uptoBulk x.1 ≤ 1048576) : ∃ l, CodeIn W v l ∧ ∀ i ∈ l, I64 i.n := by
  have cI : Tryz.prog.cellsOf 55 = 5 := by kernel_rfl
  obtain ⟨l, a, c, e, hl, hc⟩ := open_row (α := Ins) Tryz.underlying27 cI (by decide) (fun q f => (f 0 = some (.int .i64 q.op) ∧ f 1 = some (.int .i64 q.a) ∧ f 2 = some (.int .i64 q.b) ∧ f 3 = some (.int .i64 q.c) ∧ f 4 = some (.int .i64 q.n)) ∧ I64 q.n) (fun cs m y hlen ht hbb => by
    obtain ⟨y0, y1, y2, y3, y4, n', t0, t1, t2, t3, t4⟩ := trod_struct5' Tryz.underlying55 ht
    simp only [cell1i, cellI64] at t0 t1 t2 t3 t4
    match cs, hlen with
    | [c0, c1, c2, c3, c4], _ =>
      simp only [List.drop, List.take] at t0 t1 t2 t3 t4
      obtain ⟨j0, e0, _, _⟩ := DataW.trod_int Tryz.underlying3 t0
      obtain ⟨j1, e1, _, _⟩ := DataW.trod_int Tryz.underlying3 t1
      obtain ⟨j2, e2, _, _⟩ := DataW.trod_int Tryz.underlying3 t2
      obtain ⟨j3, e3, _, _⟩ := DataW.trod_int Tryz.underlying3 t3
      obtain ⟨j4, e4, _, hw⟩ := DataW.trod_int Tryz.underlying2 t4
      simp only [List.cons.injEq, and_true] at e0 e1 e2 e3 e4
      subst e0 e1 e2 e3 e4
      exact ⟨⟨j0, j1, j2, j3, j4⟩, fun f hf => ⟨⟨hf 0 (by simp), hf 1 (by simp), hf 2 (by simp), hf 3 (by simp), hf 4 (by simp)⟩, i64_of hw⟩⟩) h hb
  refine ⟨l, ⟨a, c, e, by omega, fun hne => ?_⟩, fun i hi => ?_⟩
  · obtain ⟨g, o, e2, hcc⟩ := hc hne
    exact ⟨g, o, e2, fun i hi => (hcc i hi).1⟩
  · obtain ⟨k, hk, rfl⟩ := List.mem_iff_getElem.1 hi
    obtain ⟨g, o, e2, hcc⟩ := hc (by intro e; rw [e] at hk; simp at hk)
    exact (hcc k hk).2
theorem open_rels {v : Value} {x : DataW H × List MemPlace} (h : DataW.trod enc Tryz.prog W 0 (fun _ => true) true n 28 [v] = some x) (hb : Rows.uptoBulk x.1 ≤ 1048576) : ∃ l, RelsIn W v l := by
  have cI : Tryz.prog.cellsOf 57 = 4 := by kernel_rfl
  obtain ⟨l, a, c, e, hl, hc⟩ := open_row (α := RelD) Tryz.underlying28 cI (by decide) (fun q f => f 0 = some (.int .i64 q.at') ∧ f 1 = some (.int .i64 q.kind) ∧ f 2 = some (.string q.module) ∧ f 3 = some (.string q.name)) (fun cs m y hlen ht hbb => by
    obtain ⟨y0, y1, y2, y3, n', _, _, t0, t1, t2, t3⟩ := Joins.trod_struct4 Tryz.underlying57 ht
    simp only [cell1s, cell1i] at t0 t1 t2 t3
    match cs, hlen with
    | [c0, c1, c2, c3], _ =>
      simp only [List.drop, List.take] at t0 t1 t2 t3
      obtain ⟨j, e0, _, _⟩ := DataW.trod_int Tryz.underlying3 t0
      obtain ⟨z, e1, _, _⟩ := DataW.trod_int Tryz.underlying3 t1
      obtain ⟨s, e2, _, _⟩ := DataW.trod_string Tryz.underlying9 t2
      obtain ⟨t, e3, _, _⟩ := DataW.trod_string Tryz.underlying9 t3
      simp only [List.cons.injEq, and_true] at e0 e1 e2 e3
      subst e0 e1 e2 e3
      exact ⟨⟨j, z, s, t⟩, fun f hf => ⟨hf 0 (by simp), hf 1 (by simp), hf 2 (by simp), hf 3 (by simp)⟩⟩) h hb
  exact ⟨l, a, c, e, by omega, hc⟩
theorem open_plcs {v : Value} {x : DataW H × List MemPlace} (h : DataW.trod enc Tryz.prog W 0 (fun _ => true) true n 29 [v] = some x) (hb : Rows.uptoBulk x.1 ≤ 1048576) : ∃ l, PlcsIn W v l := by
  have cI : Tryz.prog.cellsOf 85 = 2 := by kernel_rfl
  obtain ⟨l, a, c, e, hl, hc⟩ := open_row (α := PlcD) Tryz.underlying29 cI (by decide) (fun q f => f 0 = some (.string q.name) ∧ f 1 = some (.int .i64 q.at')) (fun cs m y hlen ht hbb => by
    obtain ⟨y0, y1, n', t0, t1⟩ := trod_struct2' Tryz.underlying85 ht
    simp only [cell1s, cell1i] at t0 t1
    match cs, hlen with
    | [c0, c1], _ =>
      simp only [List.drop, List.take] at t0 t1
      obtain ⟨s, e0, _, _⟩ := DataW.trod_string Tryz.underlying9 t0
      obtain ⟨j, e1, _, _⟩ := DataW.trod_int Tryz.underlying3 t1
      simp only [List.cons.injEq, and_true] at e0 e1
      subst e0 e1
      exact ⟨⟨s, j⟩, fun f hf => ⟨hf 0 (by simp), hf 1 (by simp)⟩⟩) h hb
  exact ⟨l, a, c, e, by omega, hc⟩
theorem arr13 {cs : Array Value} (h : cs.size = 13) : ∃ c0 c1 c2 c3 c4 c5 c6 c7 c8 c9 c10 c11 c12, cs = #[c0, c1, c2, c3, c4, c5, c6, c7, c8, c9, c10, c11, c12] := by
  obtain ⟨l⟩ := cs
  match l, h with
  | [c0, c1, c2, c3, c4, c5, c6, c7, c8, c9, c10, c11, c12], _ => exact ⟨c0, c1, c2, c3, c4, c5, c6, c7, c8, c9, c10, c11, c12, rfl⟩
theorem open_obj {b0 : Nat} {v : Value} {d : DataW H} {p : List MemPlace} (hv : Value.okWide Tryz.prog W .any b0 31 v) (h : DataW.Trod enc Tryz.prog W 0 (fun _ => true) true 31 v d p) (hb : Rows.uptoBulk d ≤ 1048576) :
    ∃ o x, v = objV o x ∧ ObjAt W x o ∧ Fit o := by
  have cO : Tryz.prog.cellsOf 31 = 13 := by kernel_rfl
  have k1 : Tryz.prog.cellsOf 26 = 1 := by kernel_rfl
  have k2 : Tryz.prog.cellsOf 27 = 1 := by kernel_rfl
  have k3 : Tryz.prog.cellsOf 28 = 1 := by kernel_rfl
  have k4 : Tryz.prog.cellsOf 29 = 1 := by kernel_rfl
  have k5 : Tryz.prog.cellsOf 22 = 1 := by kernel_rfl
  have k6 : Tryz.prog.cellsOf 23 = 1 := by kernel_rfl
  obtain ⟨cs, rfl, hsz⟩ := okWide_struct Tryz.underlying31 hv
  obtain ⟨c0, c1, c2, c3, c4, c5, c6, c7, c8, c9, c10, c11, c12, rfl⟩ := arr13 (hsz.trans cO)
  obtain ⟨fuel, hf⟩ := h
  obtain ⟨xs, n, _, hx, hl, hlen, hff⟩ := DataW.trod_struct Tryz.underlying31 hf
  match xs, hlen with
  | [y0, y1, y2, y3, y4, y5, y6, y7, y8, y9, y10], _ =>
    cases hx
    have t0 : DataW.trod enc Tryz.prog W 0 (fun _ => true) true n 25 [c0, c1, c2] = some y0 := by simpa [Value.cells, cell3, k1, k2, k3, k4, cell1i] using hff 0 _ rfl
    have t1 : DataW.trod enc Tryz.prog W 0 (fun _ => true) true n 26 [c3] = some y1 := by simpa [Value.cells, cell3, k1, k2, k3, k4, cell1i] using hff 1 _ rfl
    have t2 : DataW.trod enc Tryz.prog W 0 (fun _ => true) true n 27 [c4] = some y2 := by simpa [Value.cells, cell3, k1, k2, k3, k4, cell1i] using hff 2 _ rfl
    have t3 : DataW.trod enc Tryz.prog W 0 (fun _ => true) true n 28 [c5] = some y3 := by simpa [Value.cells, cell3, k1, k2, k3, k4, cell1i] using hff 3 _ rfl
    have t4 : DataW.trod enc Tryz.prog W 0 (fun _ => true) true n 29 [c6] = some y4 := by simpa [Value.cells, cell3, k1, k2, k3, k4, cell1i] using hff 4 _ rfl
    have t5 : DataW.trod enc Tryz.prog W 0 (fun _ => true) true n 29 [c7] = some y5 := by simpa [Value.cells, cell3, k1, k2, k3, k4, cell1i] using hff 5 _ rfl
    have t6 : DataW.trod enc Tryz.prog W 0 (fun _ => true) true n 29 [c8] = some y6 := by simpa [Value.cells, cell3, k1, k2, k3, k4, cell1i] using hff 6 _ rfl
    have t7 : DataW.trod enc Tryz.prog W 0 (fun _ => true) true n 3 [c9] = some y7 := by simpa [Value.cells, cell3, k1, k2, k3, k4, cell1i] using hff 7 _ rfl
    have t8 : DataW.trod enc Tryz.prog W 0 (fun _ => true) true n 3 [c10] = some y8 := by simpa [Value.cells, cell3, k1, k2, k3, k4, cell1i] using hff 8 _ rfl
    have t9 : DataW.trod enc Tryz.prog W 0 (fun _ => true) true n 3 [c11] = some y9 := by simpa [Value.cells, cell3, k1, k2, k3, k4, cell1i] using hff 9 _ rfl
    have t10 : DataW.trod enc Tryz.prog W 0 (fun _ => true) true n 3 [c12] = some y10 := by simpa [Value.cells, cell3, k1, k2, k3, k4, cell1i] using hff 10 _ rfl
    simp only [Rows.uptoBulk, Rows.uptoBulkAll, List.map_cons, List.map_nil] at hb
    obtain ⟨z0, z1, z2, n', hx, _, s0, s1, s2⟩ := Deep.trod_struct3 Tryz.underlying25 t0
    simp only [cell1s, k5, k6, List.drop, List.take] at s0 s1 s2
    have hb0 : Rows.uptoBulk y0.1 ≤ 1048576 := by omega
    rw [hx] at hb0
    obtain ⟨_, hb1, hb2⟩ := bulk3 hb0
    obtain ⟨s, e0, _, _⟩ := DataW.trod_string Tryz.underlying9 s0
    obtain ⟨vs, hvs⟩ := open_varsB s1 hb1
    obtain ⟨ps, hps⟩ := open_procsB s2 hb2
    obtain ⟨fs, hfs⟩ := open_faces t1 (by omega)
    obtain ⟨is, his, hin⟩ := open_codeB t2 (by omega)
    obtain ⟨rs, hrs⟩ := open_rels t3 (by omega)
    obtain ⟨p1, hp1⟩ := open_plcs t4 (by omega)
    obtain ⟨p2, hp2⟩ := open_plcs t5 (by omega)
    obtain ⟨p3, hp3⟩ := open_plcs t6 (by omega)
    obtain ⟨l1, e1, _, _⟩ := DataW.trod_int Tryz.underlying3 t7
    obtain ⟨l2, e2, _, _⟩ := DataW.trod_int Tryz.underlying3 t8
    obtain ⟨l3, e3, _, _⟩ := DataW.trod_int Tryz.underlying3 t9
    obtain ⟨l4, e4, _, _⟩ := DataW.trod_int Tryz.underlying3 t10
    simp only [List.cons.injEq, and_true] at e0 e1 e2 e3 e4
    subst e0 e1 e2 e3 e4
    refine ⟨⟨⟨s, vs, ps⟩, fs, is, rs, p1, p2, p3, l1, l2, l3, l4⟩, ⟨c1, c2, c3, c4, c5, c6, c7, c8⟩, rfl, ⟨hvs, hps, hfs, his, hrs, hp1, hp2, hp3⟩, ⟨hin, ?_, ?_, ?_, ?_⟩⟩
    · obtain ⟨_, _, _, h, _⟩ := hrs; exact h
    · obtain ⟨_, _, _, h, _⟩ := hp1; exact h
    · obtain ⟨_, _, _, h, _⟩ := hp2; exact h
    · obtain ⟨_, _, _, h, _⟩ := hp3; exact h
end
end Go.Proofs.YthfeojjfehbgjaaGreatDoor.obj
namespace Go.Proofs.YthfeojjfehbgjaaGreatDoor.obj
open Go.ChangeShapes Go.WideShapes Go.ChangeAt Go.RowKit
set_option linter.unusedVariables false
set_option maxRecDepth 100000
theorem maxLenLe : maxLen ≤ 9223372036854775807 := by unfold maxLen; omega
theorem cellU8 : Tryz.prog.cellsOf 5 = 1 := by kernel_rfl
theorem open_bytes {H : Type} {enc : TypeId × Value → H} {W : World} {b0 : Nat} {v : Value} {d : DataW H} {p : List MemPlace} (hv : Value.okWide Tryz.prog W .any b0 33 v) (h : DataW.Trod enc Tryz.prog W 0 (fun _ => true) true 33 v d p) (hb : Rows.uptoBulk d ≤ 1048576) :
    ∃ a c l, v = .slice a l.length c ∧ ByArg W a c l ∧ l.length ≤ 1048576 := by
  obtain ⟨va, vl, vc, rfl⟩ := okWide_slice Tryz.underlying33 hv
  have hpl : ∀ x, va = some x → ∃ g o, x = ⟨g, o, none⟩ := fun x e => by
    subst e
    simp only [Value.okWide, Tryz.underlying33, Cell.okWide, Cell.ok] at hv
    obtain ⟨_, _, _, hs, _⟩ := hv
    obtain ⟨g, o, s⟩ := x
    obtain rfl : s = none := hs
    exact ⟨g, o, rfl⟩
  obtain ⟨fuel, hf⟩ := h
  have hf : DataW.trod enc Tryz.prog W 0 (fun _ => true) true fuel 33 [.slice va vl vc] = some (d, p) := hf
  rcases open_ints Tryz.underlying33 Tryz.underlying5 cellU8 hf with ⟨h0, _⟩ | ⟨a, len, cap, zs, h0, _, hl, hm, hz, hx, hc, hw⟩
  · simp only [List.cons.injEq, and_true, Value.slice.injEq] at h0
    obtain ⟨rfl, rfl, rfl⟩ := h0
    exact ⟨none, 0, [], rfl, ⟨Nat.le_refl _, by omega, fun _ => rfl, fun x e => (by cases e), fun h => absurd rfl h⟩, by simp⟩
  · simp only [List.cons.injEq, and_true, Value.slice.injEq] at h0
    obtain ⟨rfl, rfl, rfl⟩ := h0
    simp only [if_true] at hz
    obtain ⟨g, o, rfl⟩ := hpl a rfl
    have hlen : (zs.take vl).length = vl := by rw [List.length_take]; omega
    have hsm : vl ≤ 1048576 := by
      injection hx with hx _
      subst hx
      simp only [Rows.uptoBulk] at hb
      have := bulk_len (lits (H := H) .u8 (zs.take vl))
      have e : (lits (H := H) .u8 (zs.take vl)).length = vl := by unfold lits; rw [List.length_map, hlen]
      omega
    have hb8 : ∀ z ∈ zs, 0 ≤ z ∧ z < 256 := fun z hz' => by
      have h2 : (decide (IntKind.u8.min ≤ z) && decide (z ≤ IntKind.u8.max)) = true := hw z hz'
      simp only [Bool.and_eq_true, decide_eq_true_eq] at h2
      have e1 : IntKind.u8.min = 0 := by decide
      have e2 : IntKind.u8.max = 255 := by decide
      omega
    refine ⟨some ⟨g, o, none⟩, vc, (zs.take vl).map fun z => UInt8.ofNat z.toNat, by rw [List.length_map, hlen], ⟨by rw [List.length_map, hlen]; exact hl, by have := maxLenLe; omega, (fun e => by cases e), (fun x e => by cases e; exact ⟨g, o, rfl⟩), fun hne => ⟨g, o, rfl, ?_, fun i hi => ?_⟩⟩, by rw [List.length_map, hlen]; exact hsm⟩
    · have hpos : 0 < vl := by
        rcases Nat.eq_zero_or_pos vl with h | h
        · subst h; simp at hne
        · exact h
      have h00 := hc 0 (by omega)
      rw [add_plain] at h00
      exact World.block_lt_of_cell? _ ⟨g, o + 0, none⟩ h00
    · rw [List.length_map, hlen] at hi
      have h1 := hc i (by omega)
      rw [add_plain] at h1
      rw [h1, List.getElem_map, List.getElem_take, List.getD_eq_getElem?_getD, List.getElem?_eq_getElem (by omega), Option.getD_some]
      have h3 := hb8 zs[i] (List.getElem_mem _)
      congr 1
      rw [UInt8.toNat_ofNat']
      congr 1
      omega
end Go.Proofs.YthfeojjfehbgjaaGreatDoor.obj
