/- Rows of objects of one's own: their cells, how they are read, how one turns. An argument that reads as a row of objects is opened: within the form's own reach. -/
import Derived.Test.YtaiocbbcjdpjgaaGreatDoorLMLnkStaleP
import Derived.Deep.AppendLies
namespace Go.Proofs.YtaiocbbcjdpjgaaGreatDoor.lnk
open Go.RowKit
open Go.Proofs.YtaiocbbcjdpjgaaGreatDoor.syn (isName eqS)
open Go.Proofs.YtaiocbbcjdpjgaaGreatDoor.mac (BoxC Ins grown_of_below)
open Go.Proofs.YtaiocbbcjdpjgaaGreatDoor.obj (ObjD PlcD RelD Vals ObjAt PlcsIn RelsIn CodeIn FacesIn objV relV mayO)
open Go.Proofs.YtaiocbbcjdpjgaaGreatDoor.face (VarD ProcD FaceD FaceIn keep VarsIn ProcsIn)
set_option linter.unusedVariables false
set_option linter.unusedSimpArgs false
set_option maxRecDepth 100000
def objC (p : ObjD × Vals) : List Value := [.string p.1.face.module, p.2.vv, p.2.pv, p.2.iv, p.2.cv, p.2.rv, p.2.p1, p.2.p2, p.2.p3, .int .i64 p.1.low, .int .i64 p.1.high, .int .i64 p.1.lowF, .int .i64 p.1.highF]
theorem flat13_len (l : List (ObjD × Vals)) : (l.flatMap objC).length = l.length * 13 := by
  induction l with
  | nil => rfl
  | cons x r ih => rw [List.flatMap_cons, List.length_append, ih, List.length_cons]; show 13 + _ = _; omega
theorem flat13_at : ∀ (l : List (ObjD × Vals)) (i : Nat) (hi : i < l.length) (j : Nat), j < 13 → (l.flatMap objC)[i * 13 + j]? = (objC l[i])[j]?
  | [], i, hi, _, _ => by simp at hi
  | x :: l, 0, hi, j, hj => by
    simp only [List.flatMap_cons, Nat.zero_mul, Nat.zero_add, List.getElem_cons_zero]
    rw [List.getElem?_append_left (show j < (objC x).length from hj)]
  | x :: l, i + 1, hi, j, hj => by
    have ih := flat13_at l i (by simpa using hi) j hj
    have e : (i + 1) * 13 + j = (objC x).length + (i * 13 + j) := by show _ = 13 + _; omega
    rw [List.flatMap_cons, e, List.getElem?_append_right (by omega), Nat.add_sub_cancel_left, ih]
    rfl
/-- objects that are handed in, with their values -/
theorem objs_list {w : World} {v : Value} {l : List ObjD} (h : ObjsIn w v l) : ∃ L : List (ObjD × Vals), L.map (·.1) = l ∧ ∃ a c, v = .slice a L.length c ∧ L.length ≤ 8796093022208 ∧
    (L ≠ [] → ∃ g o, a = some ⟨g, o, none⟩ ∧ ∀ i (h : i < L.length), ObjAt w L[i].2 L[i].1 ∧ OCells w g (o + i * 13) L[i].1 L[i].2) := by
  obtain ⟨a, c, rfl, hl, hk⟩ := h
  by_cases hn : l = []
  · subst hn
    exact ⟨[], rfl, a, c, rfl, hl, fun h => absurd rfl h⟩
  · obtain ⟨g, o, rfl, hc⟩ := hk hn
    haveI : Inhabited Vals := ⟨⟨.bool false, .bool false, .bool false, .bool false, .bool false, .bool false, .bool false, .bool false⟩⟩
    obtain ⟨V, hV⟩ := Deep.choose_lt (n := l.length) (p := fun i x => ∀ h : i < l.length, ObjAt w x l[i] ∧ OCells w g (o + i * 13) l[i] x) (fun i hi => by
      obtain ⟨x, h1, h2⟩ := hc i hi
      exact ⟨x, fun _ => ⟨h1, h2⟩⟩)
    refine ⟨l.zipIdx.map fun p => (p.1, V p.2), ?_, some ⟨g, o, none⟩, c, by simp, by simpa using hl, fun _ => ⟨g, o, rfl, fun i hi => ?_⟩⟩
    · rw [List.map_map]
      refine List.ext_getElem (by simp) fun i h1 h2 => ?_
      simp
    · have hi' : i < l.length := by simpa using hi
      have := hV i hi' hi'
      simpa using this
section
variable {w : World} {N g cap : Nat} {L : List (ObjD × Vals)}
theorem row_cell {n : Nat} (h : w.ownsRow N 31 13 (.slice (some ⟨g, 0, none⟩) n cap) n (L.flatMap objC)) (hn : n = L.length) {i j : Nat} (hi : i < L.length) (hj : j < 13) {v : Value} (hv : (objC L[i])[j]? = some v) : w.cell? ⟨g, i * 13 + j, none⟩ = some v := by
  subst hn
  rw [h.cellAt (i * 13 + j) (by omega), flat13_at _ _ hi j hj]
  exact hv
theorem objs_of_row {n : Nat} (h : w.ownsRow N 31 13 (.slice (some ⟨g, 0, none⟩) n cap) n (L.flatMap objC)) (hn : n = L.length) (hat : ∀ i (h : i < L.length), ObjAt w L[i].2 L[i].1) (hl : L.length ≤ 8796093022208) : ObjsIn w (.slice (some ⟨g, 0, none⟩) n cap) (L.map (·.1)) := by
  refine ⟨some ⟨g, 0, none⟩, cap, by rw [List.length_map, hn], by rwa [List.length_map], fun _ => ⟨g, 0, rfl, fun i hi => ?_⟩⟩
  have hi' : i < L.length := by simpa using hi
  refine ⟨L[i].2, by simpa using hat i hi', ?_⟩
  rw [List.getElem_map]
  have c := fun (j : Nat) (hj : j < 13) (v : Value) (hv : (objC L[i])[j]? = some v) => row_cell h hn hi' hj hv
  have e : ∀ k, 0 + i * 13 + k = i * 13 + k := fun k => by omega
  refine ⟨?_, ?_, ?_, ?_, ?_, ?_, ?_, ?_, ?_, ?_, ?_, ?_, ?_⟩
  · rw [Nat.zero_add]; exact c 0 (by decide) _ rfl
  · rw [e]; exact c 1 (by decide) _ rfl
  · rw [e]; exact c 2 (by decide) _ rfl
  · rw [e]; exact c 3 (by decide) _ rfl
  · rw [e]; exact c 4 (by decide) _ rfl
  · rw [e]; exact c 5 (by decide) _ rfl
  · rw [e]; exact c 6 (by decide) _ rfl
  · rw [e]; exact c 7 (by decide) _ rfl
  · rw [e]; exact c 8 (by decide) _ rfl
  · rw [e]; exact c 9 (by decide) _ rfl
  · rw [e]; exact c 10 (by decide) _ rfl
  · rw [e]; exact c 11 (by decide) _ rfl
  · rw [e]; exact c 12 (by decide) _ rfl
/-- a face turns where it lies -/
theorem setF_flat : ∀ (l : List (ObjD × Vals)) (k : Nat) (hk : k < l.length) (vs : List VarD) (u : Value), ((((l.flatMap objC).set (k * 13) (.string l[k].1.face.module)).set (k * 13 + 1) u).set (k * 13 + 2) l[k].2.pv) = (l.set k ({ l[k].1 with face := ⟨l[k].1.face.module, vs, l[k].1.face.procs⟩ }, { l[k].2 with vv := u })).flatMap objC
  | [], k, hk, _, _ => by simp at hk
  | x :: r, 0, hk, vs, u => by simp [objC]
  | x :: r, k + 1, hk, vs, u => by
    have ih := setF_flat r k (by simpa using hk) vs u
    have e : ∀ j, (k + 1) * 13 + j = (objC x).length + (k * 13 + j) := fun j => by show _ = 13 + _; omega
    have e0 := e 0
    simp only [Nat.add_zero] at e0
    rw [List.flatMap_cons, e 2, e 1, e0]
    simp only [List.set_append_right _ _ (Nat.le_add_right (objC x).length _), Nat.add_sub_cancel_left, List.set_cons_succ, List.flatMap_cons, List.getElem_cons_succ]
    rw [ih]
theorem row_setF {n : Nat} (h : w.ownsRow N 31 13 (.slice (some ⟨g, 0, none⟩) n cap) n (L.flatMap objC)) (hn : n = L.length) {k : Nat} (hk : k < L.length) (vs : List VarD) (u : Value) :
    (((w.setCell ⟨g, k * 13, none⟩ (.string L[k].1.face.module)).setCell ⟨g, k * 13 + 1, none⟩ u).setCell ⟨g, k * 13 + 2, none⟩ L[k].2.pv).ownsRow N 31 13 (.slice (some ⟨g, 0, none⟩) n cap) n ((L.set k ({ L[k].1 with face := ⟨L[k].1.face.module, vs, L[k].1.face.procs⟩ }, { L[k].2 with vv := u })).flatMap objC) := by
  have := own_set (own_set (own_set h (k * 13) (by omega) (.string L[k].1.face.module)) (k * 13 + 1) (by omega) u) (k * 13 + 2) (by omega) L[k].2.pv
  rw [setF_flat _ _ hk vs u] at this
  exact this
end
theorem infoO : (Tryz.prog.info? 31).map (fun i => (i.zero, i.size, i.bytes)) = some (some (.agg #[.string ⟨#[]⟩, .slice none 0 0, .slice none 0 0, .slice none 0 0, .slice none 0 0, .slice none 0 0, .slice none 0 0, .slice none 0 0, .slice none 0 0, .int .i64 0, .int .i64 0, .int .i64 0, .int .i64 0]), 13, 240) := by kernel_rfl
theorem infoV : (Tryz.prog.info? 118).map (fun i => (i.zero, i.size, i.bytes)) = some (some (.agg #[.string ⟨#[]⟩, .bool false, .int .i64 0, .int .i64 0]), 4, 40) := by kernel_rfl
def varC (v : VarD) : List Value := [.string v.name, .bool v.pub, .int .i64 v.label, .int .i64 v.size]
theorem flat4_len (l : List VarD) : (l.flatMap varC).length = l.length * 4 := by
  induction l with
  | nil => rfl
  | cons x r ih => rw [List.flatMap_cons, List.length_append, ih, List.length_cons]; show 4 + _ = _; omega
theorem flat4_at : ∀ (l : List VarD) (i : Nat) (hi : i < l.length) (j : Nat), j < 4 → (l.flatMap varC)[i * 4 + j]? = (varC l[i])[j]?
  | [], i, hi, _, _ => by simp at hi
  | x :: l, 0, hi, j, hj => by
    simp only [List.flatMap_cons, Nat.zero_mul, Nat.zero_add, List.getElem_cons_zero]
    rw [List.getElem?_append_left (show j < (varC x).length from hj)]
  | x :: l, i + 1, hi, j, hj => by
    have ih := flat4_at l i (by simpa using hi) j hj
    have e : (i + 1) * 4 + j = (varC x).length + (i * 4 + j) := by show _ = 4 + _; omega
    rw [List.flatMap_cons, e, List.getElem?_append_right (by omega), Nat.add_sub_cancel_left, ih]
    rfl
theorem vars_one (l : List VarD) : ∀ u ∈ l.flatMap varC, u.oneCell' = true := fun u hu => by
  obtain ⟨i, _, hi⟩ := List.mem_flatMap.1 hu
  simp only [varC, List.mem_cons, List.not_mem_nil, or_false] at hi
  rcases hi with rfl | rfl | rfl | rfl <;> rfl
/-- the cells of variables that are handed in -/
theorem vars_news {w : World} {g o : Nat} {l : List VarD} (h : ∀ i (h : i < l.length), w.cell? ⟨g, o + i * 4, none⟩ = some (.string l[i].name) ∧ w.cell? ⟨g, o + i * 4 + 1, none⟩ = some (.bool l[i].pub) ∧ w.cell? ⟨g, o + i * 4 + 2, none⟩ = some (.int .i64 l[i].label) ∧ w.cell? ⟨g, o + i * 4 + 3, none⟩ = some (.int .i64 l[i].size)) :
    ∀ j u, (l.flatMap varC)[j]? = some u → w.cell? (Addr.add ⟨g, o, none⟩ j) = some u := fun j u hu => by
  have hj : j < (l.flatMap varC).length := by
    rcases Nat.lt_or_ge j (l.flatMap varC).length with h | h
    · exact h
    · rw [List.getElem?_eq_none h] at hu; cases hu
  rw [flat4_len] at hj
  have hi : j / 4 < l.length := by omega
  have e : j = j / 4 * 4 + j % 4 := by omega
  have hc := h (j / 4) hi
  have ha : ((⟨g, o, none⟩ : Addr).add j) = ⟨g, o + j / 4 * 4 + j % 4, none⟩ := by
    rw [Go.WideShapes.add_plain]
    congr 1
    omega
  rw [ha]
  rw [e, flat4_at l (j / 4) hi (j % 4) (by omega)] at hu
  have hm := Nat.mod_lt j (show 0 < 4 by decide)
  generalize j / 4 = i at *
  generalize j % 4 = m at *
  match m, hm with
  | 0, _ => rw [← hu]; exact hc.1
  | 1, _ => rw [← hu]; exact hc.2.1
  | 2, _ => rw [← hu]; exact hc.2.2.1
  | 3, _ => rw [← hu]; exact hc.2.2.2
/-- variables in a row of one's own -/
theorem vars_of_row {w : World} {N g n cap : Nat} {l : List VarD} (h : w.ownsRow N 118 4 (.slice (some ⟨g, 0, none⟩) n cap) n (l.flatMap varC)) (hn : n = l.length) (hl : l.length ≤ 4611686018427387903) : VarsIn w (.slice (some ⟨g, 0, none⟩) n cap) l := by
  subst hn
  refine ⟨_, cap, rfl, hl, fun _ => ⟨g, 0, rfl, fun i hi => ?_⟩⟩
  have cell : ∀ f v, (varC l[i])[f]? = some v → f < 4 → w.cell? ⟨g, 0 + i * 4 + f, none⟩ = some v := fun f v hv hf => by
    rw [Nat.zero_add, h.cellAt (i * 4 + f) (by omega), flat4_at _ _ hi f hf]
    exact hv
  exact ⟨cell 0 _ rfl (by decide), cell 1 _ rfl (by decide), cell 2 _ rfl (by decide), cell 3 _ rfl (by decide)⟩
theorem turnL_flat : ∀ (v : VarD) (r : List VarD), ((v :: r).flatMap varC).set 2 (.int .i64 (1 - v.label)) = (turnL (v :: r)).flatMap varC
  | v, r => by simp [turnL, varC]
theorem row_turn {w : World} {N g n cap : Nat} {v : VarD} {r : List VarD} (h : w.ownsRow N 118 4 (.slice (some ⟨g, 0, none⟩) n cap) n ((v :: r).flatMap varC)) (hn : n = (v :: r).length) :
    (w.setCell ⟨g, 2, none⟩ (.int .i64 (1 - v.label))).ownsRow N 118 4 (.slice (some ⟨g, 0, none⟩) n cap) n ((turnL (v :: r)).flatMap varC) := by
  have := own_set h 2 (by rw [hn, List.length_cons]; omega) (.int .i64 (1 - v.label))
  rw [turnL_flat] at this
  exact this
end Go.Proofs.YtaiocbbcjdpjgaaGreatDoor.lnk
namespace Go.Proofs.YtaiocbbcjdpjgaaGreatDoor.lnk
open Go.RowKit Go.ChangeShapes Go.WideShapes
open Go.Proofs.YtaiocbbcjdpjgaaGreatDoor.mac (Ins)
open Go.Proofs.YtaiocbbcjdpjgaaGreatDoor.obj (ObjD PlcD RelD Vals ObjAt PlcsIn RelsIn CodeIn FacesIn)
open Go.Proofs.YtaiocbbcjdpjgaaGreatDoor.face (VarD ProcD FaceD VarsIn ProcsIn IntsIn FaceIn plain_addr cell1s cell1b cell1i cell1l cell3 cell4 cell6 open_vars open_procs)
set_option linter.unusedVariables false
set_option maxRecDepth 100000
theorem weights_all {H : Type} {P : Program} {e : TypeId} : ∀ {l : List (DataW H)} {d : DataW H}, d ∈ l → ∀ n ∈ d.weights P e, n ∈ DataW.weightsAll P e l
  | [], _, h, _, _ => by cases h
  | x :: r, d, h, n, hn => by
    rw [DataW.weightsAll, List.mem_append]
    rcases List.mem_cons.1 h with e | e
    · subst e; exact .inl hn
    · exact .inr (weights_all e n hn)
section
variable {H : Type} {enc : TypeId × Value → H} {W : World} {n : Nat}
theorem open_rowW {α : Type} [Inhabited α] {T E : TypeId} {k b : Nat} (hT : Tryz.prog.underlying T = some (.slice E)) (hE : Tryz.prog.cellsOf E = k) (hk : 0 < k) (hby : Tryz.prog.bytesOf E = b) (C : α → (Nat → Option Value) → Prop)
    (each : ∀ (cs : List Value) (m : Nat) (y : DataW H × List MemPlace), cs.length = k → DataW.trod enc Tryz.prog W 0 (fun _ => true) true m E cs = some y → (∀ j ∈ y.1.weights Tryz.prog E, j ≤ reachBytes) → ∃ q : α, ∀ f : Nat → Option Value, (∀ i (h : i < cs.length), f i = some cs[i]) → C q f)
    {v : Value} {x : DataW H × List MemPlace} (h : DataW.trod enc Tryz.prog W 0 (fun _ => true) true n T [v] = some x) (hwt : ∀ j ∈ x.1.weights Tryz.prog T, j ≤ reachBytes) :
    ∃ l : List α, ∃ a c, v = .slice a l.length c ∧ l.length * b ≤ reachBytes ∧ (l ≠ [] → ∃ g o, a = some ⟨g, o, none⟩ ∧ ∀ i (h : i < l.length), C l[i] fun m => W.cell? ⟨g, o + i * k + m, none⟩) := by
  rcases Deep.open_slice hT h with ⟨h0, _⟩ | ⟨a, len, cap, m, q, D, Pl, h0, _, hl, hm, hmm, rfl, hc⟩
  · simp only [List.cons.injEq, and_true] at h0
    exact ⟨[], none, 0, h0, by simp, fun h => absurd rfl h⟩
  · simp only [List.cons.injEq, and_true] at h0
    simp only [if_true] at hmm
    have hlim : len * b ≤ reachBytes := by
      have h2 := hwt ((len + (m - len)) * b) (by simp [DataW.weights, hT, hby])
      exact Nat.le_trans (Nat.mul_le_mul_right _ (Nat.le_add_right _ _)) h2
    have one : ∀ i, i < len → ∃ q : α, ∀ g o, a = ⟨g, o, none⟩ → C q fun m => W.cell? ⟨g, o + i * k + m, none⟩ := by
      intro i hi
      obtain ⟨cs', h1, h2⟩ := hc i (by omega)
      rw [hE] at h1
      obtain ⟨_, hlen2, hcell⟩ := World.cells?_some h1
      obtain ⟨q, hq⟩ := each cs' _ _ hlen2 h2 (fun j hj => hwt j (by
        simp only [DataW.weights, hT, List.mem_cons, List.mem_append]
        exact .inr (.inl (weights_all (List.mem_map.2 ⟨i, List.mem_range.2 hi, rfl⟩) j hj))))
      refine ⟨q, fun g o e => ?_⟩
      subst e
      refine hq _ fun j hj => ?_
      have := hcell j (by omega)
      rw [List.getElem?_eq_getElem hj] at this
      simpa [add_plain, Nat.add_assoc] using this
    obtain ⟨V, hV⟩ := Deep.choose_lt one
    refine ⟨(List.range len).map V, some a, cap, by simpa using h0, by simpa using hlim, fun hne => ?_⟩
    have hpos : 0 < len := by
      rcases Nat.eq_zero_or_pos len with h | h
      · subst h; simp at hne
      · exact h
    obtain ⟨g, o, e⟩ : ∃ g o, a = ⟨g, o, none⟩ := by
      obtain ⟨cs', h1, h2⟩ := hc 0 (by omega)
      rw [hE] at h1
      obtain ⟨_, hlen2, hcell⟩ := World.cells?_some h1
      have hc0 := hcell 0 (by omega)
      rw [List.getElem?_eq_getElem (show 0 < cs'.length by omega), Nat.zero_mul, Addr.add, if_pos rfl, Addr.add, if_pos rfl] at hc0
      exact plain_addr hc0
    refine ⟨g, o, by rw [e], fun i hi => ?_⟩
    simp only [List.getElem_map, List.getElem_range]
    exact (hV i (by simpa using hi)) g o e
theorem reach_is : reachBytes ≤ 140737488355328 := by decide
theorem cellI64 : Tryz.prog.cellsOf 2 = 1 := by kernel_rfl
theorem trod_s2 {P : Program} {w : World} {base : Nat} {spare : Nat → Bool} {held : Bool} {t : TypeId} {f0 f1 : Field} {fuel : Nat} {cs : List Value} {x : DataW H × List MemPlace} (ht : P.underlying t = some (.struct #[f0, f1])) (h : DataW.trod enc P w base spare held fuel t cs = some x) :
    ∃ y0 y1 n, DataW.trod enc P w base spare held n f0.type ((cs.drop f0.offset).take (P.cellsOf f0.type)) = some y0 ∧ DataW.trod enc P w base spare held n f1.type ((cs.drop f1.offset).take (P.cellsOf f1.type)) = some y1 := by
  obtain ⟨xs, n, _, rfl, hl, hlen, hf⟩ := DataW.trod_struct ht h
  match xs, hlen with
  | [y0, y1], _ => exact ⟨y0, y1, n, by simpa using hf 0 f0 rfl, by simpa using hf 1 f1 rfl⟩
theorem trod_s5 {P : Program} {w : World} {base : Nat} {spare : Nat → Bool} {held : Bool} {t : TypeId} {f0 f1 f2 f3 f4 : Field} {fuel : Nat} {cs : List Value} {x : DataW H × List MemPlace} (ht : P.underlying t = some (.struct #[f0, f1, f2, f3, f4])) (h : DataW.trod enc P w base spare held fuel t cs = some x) :
    ∃ y0 y1 y2 y3 y4 n, DataW.trod enc P w base spare held n f0.type ((cs.drop f0.offset).take (P.cellsOf f0.type)) = some y0 ∧
      DataW.trod enc P w base spare held n f1.type ((cs.drop f1.offset).take (P.cellsOf f1.type)) = some y1 ∧ DataW.trod enc P w base spare held n f2.type ((cs.drop f2.offset).take (P.cellsOf f2.type)) = some y2 ∧
      DataW.trod enc P w base spare held n f3.type ((cs.drop f3.offset).take (P.cellsOf f3.type)) = some y3 ∧ DataW.trod enc P w base spare held n f4.type ((cs.drop f4.offset).take (P.cellsOf f4.type)) = some y4 := by
  obtain ⟨xs, n, _, rfl, hl, hlen, hf⟩ := DataW.trod_struct ht h
  match xs, hlen with
  | [y0, y1, y2, y3, y4], _ => exact ⟨y0, y1, y2, y3, y4, n, by simpa using hf 0 f0 rfl, by simpa using hf 1 f1 rfl, by simpa using hf 2 f2 rfl, by simpa using hf 3 f3 rfl, by simpa using hf 4 f4 rfl⟩
theorem open_facesW {v : Value} {x : DataW H × List MemPlace} (h : DataW.trod enc Tryz.prog W 0 (fun _ => true) true n 26 [v] = some x) (hwt : ∀ j ∈ x.1.weights Tryz.prog 26, j ≤ reachBytes) : ∃ l, FacesIn W v l := by
  have hby : Tryz.prog.bytesOf 25 = 64 := by kernel_rfl
  obtain ⟨l, a, c, e, hl, hc⟩ := open_rowW (α := FaceD) Tryz.underlying26 cell3 (by decide) hby (fun q f => f 0 = some (.string q.module) ∧ (∃ vv, f 1 = some vv ∧ VarsIn W vv q.vars) ∧ (∃ pv, f 2 = some pv ∧ ProcsIn W pv q.procs)) (fun cs m y hlen ht hw => by
    obtain ⟨y0, y1, y2, n', hx, _, t0, t1, t2⟩ := Deep.trod_struct3 Tryz.underlying25 ht
    rw [hx] at hw
    have cv : Tryz.prog.cellsOf 22 = 1 := by kernel_rfl
    have cp : Tryz.prog.cellsOf 23 = 1 := by kernel_rfl
    simp only [cell1s, cv, cp] at t0 t1 t2
    match cs, hlen with
    | [c0, c1, c2], _ =>
      simp only [List.drop, List.take] at t0 t1 t2
      obtain ⟨s, e0, _, _⟩ := DataW.trod_string Tryz.underlying9 t0
      obtain ⟨vs, hvs⟩ := open_vars t1 (fun k hk => hw k (by simp [DataW.weights, DataW.weightsEach, Tryz.underlying25, hk]))
      obtain ⟨ps, hps⟩ := open_procs t2 (fun k hk => hw k (by simp [DataW.weights, DataW.weightsEach, Tryz.underlying25, hk]))
      simp only [List.cons.injEq, and_true] at e0
      subst e0
      exact ⟨⟨s, vs, ps⟩, fun f hf => ⟨hf 0 (by simp), ⟨c1, hf 1 (by simp), hvs⟩, ⟨c2, hf 2 (by simp), hps⟩⟩⟩) h hwt
  have := reach_is
  exact ⟨l, a, c, e, by omega, hc⟩
theorem open_codeW {v : Value} {x : DataW H × List MemPlace} (h : DataW.trod enc Tryz.prog W 0 (fun _ => true) true n 27 [v] = some x) (hwt : ∀ j ∈ x.1.weights Tryz.prog 27, j ≤ reachBytes) : ∃ l, CodeIn W v l := by
  have cI : Tryz.prog.cellsOf 64 = 5 := by kernel_rfl
  have hby : Tryz.prog.bytesOf 64 = 40 := by kernel_rfl
  obtain ⟨l, a, c, e, hl, hc⟩ := open_rowW (α := Ins) Tryz.underlying27 cI (by decide) hby (fun q f => f 0 = some (.int .i64 q.op) ∧ f 1 = some (.int .i64 q.a) ∧ f 2 = some (.int .i64 q.b) ∧ f 3 = some (.int .i64 q.c) ∧ f 4 = some (.int .i64 q.n)) (fun cs m y hlen ht hw => by
    obtain ⟨y0, y1, y2, y3, y4, n', t0, t1, t2, t3, t4⟩ := trod_s5 Tryz.underlying64 ht
    simp only [cell1i, cellI64] at t0 t1 t2 t3 t4
    match cs, hlen with
    | [c0, c1, c2, c3, c4], _ =>
      simp only [List.drop, List.take] at t0 t1 t2 t3 t4
      obtain ⟨j0, e0, _, _⟩ := DataW.trod_int Tryz.underlying3 t0
      obtain ⟨j1, e1, _, _⟩ := DataW.trod_int Tryz.underlying3 t1
      obtain ⟨j2, e2, _, _⟩ := DataW.trod_int Tryz.underlying3 t2
      obtain ⟨j3, e3, _, _⟩ := DataW.trod_int Tryz.underlying3 t3
      obtain ⟨j4, e4, _, _⟩ := DataW.trod_int Tryz.underlying2 t4
      simp only [List.cons.injEq, and_true] at e0 e1 e2 e3 e4
      subst e0 e1 e2 e3 e4
      exact ⟨⟨j0, j1, j2, j3, j4⟩, fun f hf => ⟨hf 0 (by simp), hf 1 (by simp), hf 2 (by simp), hf 3 (by simp), hf 4 (by simp)⟩⟩) h hwt
  have := reach_is
  exact ⟨l, a, c, e, by omega, hc⟩
theorem open_relsW {v : Value} {x : DataW H × List MemPlace} (h : DataW.trod enc Tryz.prog W 0 (fun _ => true) true n 28 [v] = some x) (hwt : ∀ j ∈ x.1.weights Tryz.prog 28, j ≤ reachBytes) : ∃ l, RelsIn W v l := by
  have cI : Tryz.prog.cellsOf 66 = 4 := by kernel_rfl
  have hby : Tryz.prog.bytesOf 66 = 48 := by kernel_rfl
  obtain ⟨l, a, c, e, hl, hc⟩ := open_rowW (α := RelD) Tryz.underlying28 cI (by decide) hby (fun q f => f 0 = some (.int .i64 q.at') ∧ f 1 = some (.int .i64 q.kind) ∧ f 2 = some (.string q.module) ∧ f 3 = some (.string q.name)) (fun cs m y hlen ht hw => by
    obtain ⟨y0, y1, y2, y3, n', _, _, t0, t1, t2, t3⟩ := Joins.trod_struct4 Tryz.underlying66 ht
    simp only [cell1s, cell1i] at t0 t1 t2 t3
    match cs, hlen with
    | [c0, c1, c2, c3], _ =>
      simp only [List.drop, List.take] at t0 t1 t2 t3
      obtain ⟨j, e0, _, _⟩ := DataW.trod_int Tryz.underlying3 t0
      obtain ⟨z, e1, _, _⟩ := DataW.trod_int Tryz.underlying3 t1
      obtain ⟨s, e2, _, _⟩ := DataW.trod_string Tryz.underlying9 t2
      obtain ⟨t, e3, _, _⟩ := DataW.trod_string Tryz.underlying9 t3
      simp only [List.cons.injEq, and_true] at e0 e1 e2 e3
      subst e0 e1 e2 e3
      exact ⟨⟨j, z, s, t⟩, fun f hf => ⟨hf 0 (by simp), hf 1 (by simp), hf 2 (by simp), hf 3 (by simp)⟩⟩) h hwt
  have := reach_is
  exact ⟨l, a, c, e, by omega, hc⟩
theorem open_plcsW {v : Value} {x : DataW H × List MemPlace} (h : DataW.trod enc Tryz.prog W 0 (fun _ => true) true n 29 [v] = some x) (hwt : ∀ j ∈ x.1.weights Tryz.prog 29, j ≤ reachBytes) : ∃ l, PlcsIn W v l := by
  have cI : Tryz.prog.cellsOf 103 = 2 := by kernel_rfl
  have hby : Tryz.prog.bytesOf 103 = 24 := by kernel_rfl
  obtain ⟨l, a, c, e, hl, hc⟩ := open_rowW (α := PlcD) Tryz.underlying29 cI (by decide) hby (fun q f => f 0 = some (.string q.name) ∧ f 1 = some (.int .i64 q.at')) (fun cs m y hlen ht hw => by
    obtain ⟨y0, y1, n', t0, t1⟩ := trod_s2 Tryz.underlying103 ht
    simp only [cell1s, cell1i] at t0 t1
    match cs, hlen with
    | [c0, c1], _ =>
      simp only [List.drop, List.take] at t0 t1
      obtain ⟨s, e0, _, _⟩ := DataW.trod_string Tryz.underlying9 t0
      obtain ⟨j, e1, _, _⟩ := DataW.trod_int Tryz.underlying3 t1
      simp only [List.cons.injEq, and_true] at e0 e1
      subst e0 e1
      exact ⟨⟨s, j⟩, fun f hf => ⟨hf 0 (by simp), hf 1 (by simp)⟩⟩) h hwt
  have := reach_is
  exact ⟨l, a, c, e, by omega, hc⟩
theorem each_mem {P : Program} : ∀ {ts : List TypeId} {ds : List (DataW H)} {i : Nat} {t : TypeId} {d : DataW H}, ts[i]? = some t → ds[i]? = some d → ∀ k ∈ d.weights P t, k ∈ DataW.weightsEach P ts ds := fun {ts ds i t d} h1 h2 k hk => DataW.weights_mem_each (j := i) h1 h2 k hk
theorem open_objsW {b0 : Nat} {v : Value} {d : DataW H} {p : List MemPlace} (hv : Value.okWide Tryz.prog W .any b0 42 v) (h : DataW.Trod enc Tryz.prog W 0 (fun _ => true) true 42 v d p) (hwt : ∀ j ∈ d.weights Tryz.prog 42, j ≤ reachBytes) : ∃ l, ObjsIn W v l := by
  have cO : Tryz.prog.cellsOf 31 = 13 := by kernel_rfl
  have hby : Tryz.prog.bytesOf 31 = 240 := by kernel_rfl
  have k1 : Tryz.prog.cellsOf 26 = 1 := by kernel_rfl
  have k2 : Tryz.prog.cellsOf 27 = 1 := by kernel_rfl
  have k3 : Tryz.prog.cellsOf 28 = 1 := by kernel_rfl
  have k4 : Tryz.prog.cellsOf 29 = 1 := by kernel_rfl
  have k5 : Tryz.prog.cellsOf 22 = 1 := by kernel_rfl
  have k6 : Tryz.prog.cellsOf 23 = 1 := by kernel_rfl
  haveI : Inhabited ObjD := ⟨⟨⟨⟨#[]⟩, [], []⟩, [], [], [], [], [], [], 0, 0, 0, 0⟩⟩
  obtain ⟨fuel, hf⟩ := h
  obtain ⟨va, vl, vc, rfl⟩ := okWide_slice Tryz.underlying42 hv
  have hf : DataW.trod enc Tryz.prog W 0 (fun _ => true) true fuel 42 [.slice va vl vc] = some (d, p) := hf
  obtain ⟨l, a, c, e, hl, hc⟩ := open_rowW (H := H) (enc := enc) (W := W) (α := ObjD) Tryz.underlying42 cO (by decide) hby (fun q f => ∃ x, ObjAt W x q ∧ f 0 = some (.string q.face.module) ∧ f 1 = some x.vv ∧ f 2 = some x.pv ∧ f 3 = some x.iv ∧ f 4 = some x.cv ∧ f 5 = some x.rv ∧ f 6 = some x.p1 ∧ f 7 = some x.p2 ∧ f 8 = some x.p3 ∧ f 9 = some (.int .i64 q.low) ∧ f 10 = some (.int .i64 q.high) ∧ f 11 = some (.int .i64 q.lowF) ∧ f 12 = some (.int .i64 q.highF)) (fun cs m y hlen ht hw => by
    obtain ⟨xs, n, _, hx, hl, hlen2, hff⟩ := DataW.trod_struct Tryz.underlying31 ht
    match xs, hlen2 with
    | [y0, y1, y2, y3, y4, y5, y6, y7, y8, y9, y10], _ =>
      rw [hx] at hw
      match cs, hlen with
      | [c0, c1, c2, c3, c4, c5, c6, c7, c8, c9, c10, c11, c12], _ =>
        have t0 : DataW.trod enc Tryz.prog W 0 (fun _ => true) true n 25 [c0, c1, c2] = some y0 := by simpa [cell3, k1, k2, k3, k4, cell1i] using hff 0 _ rfl
        have t1 : DataW.trod enc Tryz.prog W 0 (fun _ => true) true n 26 [c3] = some y1 := by simpa [cell3, k1, k2, k3, k4, cell1i] using hff 1 _ rfl
        have t2 : DataW.trod enc Tryz.prog W 0 (fun _ => true) true n 27 [c4] = some y2 := by simpa [cell3, k1, k2, k3, k4, cell1i] using hff 2 _ rfl
        have t3 : DataW.trod enc Tryz.prog W 0 (fun _ => true) true n 28 [c5] = some y3 := by simpa [cell3, k1, k2, k3, k4, cell1i] using hff 3 _ rfl
        have t4 : DataW.trod enc Tryz.prog W 0 (fun _ => true) true n 29 [c6] = some y4 := by simpa [cell3, k1, k2, k3, k4, cell1i] using hff 4 _ rfl
        have t5 : DataW.trod enc Tryz.prog W 0 (fun _ => true) true n 29 [c7] = some y5 := by simpa [cell3, k1, k2, k3, k4, cell1i] using hff 5 _ rfl
        have t6 : DataW.trod enc Tryz.prog W 0 (fun _ => true) true n 29 [c8] = some y6 := by simpa [cell3, k1, k2, k3, k4, cell1i] using hff 6 _ rfl
        have t7 : DataW.trod enc Tryz.prog W 0 (fun _ => true) true n 3 [c9] = some y7 := by simpa [cell3, k1, k2, k3, k4, cell1i] using hff 7 _ rfl
        have t8 : DataW.trod enc Tryz.prog W 0 (fun _ => true) true n 3 [c10] = some y8 := by simpa [cell3, k1, k2, k3, k4, cell1i] using hff 8 _ rfl
        have t9 : DataW.trod enc Tryz.prog W 0 (fun _ => true) true n 3 [c11] = some y9 := by simpa [cell3, k1, k2, k3, k4, cell1i] using hff 9 _ rfl
        have t10 : DataW.trod enc Tryz.prog W 0 (fun _ => true) true n 3 [c12] = some y10 := by simpa [cell3, k1, k2, k3, k4, cell1i] using hff 10 _ rfl
        simp only [DataW.weights, Tryz.underlying31, List.map_cons, List.map_nil] at hw
        have hw0 : ∀ j ∈ y0.1.weights Tryz.prog 25, j ≤ reachBytes := fun j hj => hw j (each_mem (i := 0) rfl rfl j hj)
        have hw1 : ∀ j ∈ y1.1.weights Tryz.prog 26, j ≤ reachBytes := fun j hj => hw j (each_mem (i := 1) rfl rfl j hj)
        have hw2 : ∀ j ∈ y2.1.weights Tryz.prog 27, j ≤ reachBytes := fun j hj => hw j (each_mem (i := 2) rfl rfl j hj)
        have hw3 : ∀ j ∈ y3.1.weights Tryz.prog 28, j ≤ reachBytes := fun j hj => hw j (each_mem (i := 3) rfl rfl j hj)
        have hw4 : ∀ j ∈ y4.1.weights Tryz.prog 29, j ≤ reachBytes := fun j hj => hw j (each_mem (i := 4) rfl rfl j hj)
        have hw5 : ∀ j ∈ y5.1.weights Tryz.prog 29, j ≤ reachBytes := fun j hj => hw j (each_mem (i := 5) rfl rfl j hj)
        have hw6 : ∀ j ∈ y6.1.weights Tryz.prog 29, j ≤ reachBytes := fun j hj => hw j (each_mem (i := 6) rfl rfl j hj)
        obtain ⟨z0, z1, z2, n', hz, _, s0, s1, s2⟩ := Deep.trod_struct3 Tryz.underlying25 t0
        simp only [cell1s, k5, k6, List.drop, List.take] at s0 s1 s2
        rw [hz] at hw0
        obtain ⟨s, e0, _, _⟩ := DataW.trod_string Tryz.underlying9 s0
        obtain ⟨vs, hvs⟩ := open_vars s1 (fun k hk => hw0 k (by simp [DataW.weights, DataW.weightsEach, Tryz.underlying25, hk]))
        obtain ⟨ps, hps⟩ := open_procs s2 (fun k hk => hw0 k (by simp [DataW.weights, DataW.weightsEach, Tryz.underlying25, hk]))
        obtain ⟨fs, hfs⟩ := open_facesW t1 hw1
        obtain ⟨is, his⟩ := open_codeW t2 hw2
        obtain ⟨rs, hrs⟩ := open_relsW t3 hw3
        obtain ⟨p1, hp1⟩ := open_plcsW t4 hw4
        obtain ⟨p2, hp2⟩ := open_plcsW t5 hw5
        obtain ⟨p3, hp3⟩ := open_plcsW t6 hw6
        obtain ⟨l1, e1, _, _⟩ := DataW.trod_int Tryz.underlying3 t7
        obtain ⟨l2, e2, _, _⟩ := DataW.trod_int Tryz.underlying3 t8
        obtain ⟨l3, e3, _, _⟩ := DataW.trod_int Tryz.underlying3 t9
        obtain ⟨l4, e4, _, _⟩ := DataW.trod_int Tryz.underlying3 t10
        simp only [List.cons.injEq, and_true] at e0 e1 e2 e3 e4
        subst e0 e1 e2 e3 e4
        refine ⟨⟨⟨s, vs, ps⟩, fs, is, rs, p1, p2, p3, l1, l2, l3, l4⟩, fun f hf => ⟨⟨c1, c2, c3, c4, c5, c6, c7, c8⟩, ⟨hvs, hps, hfs, his, hrs, hp1, hp2, hp3⟩, hf 0 (by simp), hf 1 (by simp), hf 2 (by simp), hf 3 (by simp), hf 4 (by simp), hf 5 (by simp), hf 6 (by simp), hf 7 (by simp), hf 8 (by simp), hf 9 (by simp), hf 10 (by simp), hf 11 (by simp), hf 12 (by simp)⟩⟩) (x := (d, p)) hf hwt
  have := reach_is
  refine ⟨l, a, c, e, by omega, fun hne => ?_⟩
  obtain ⟨g, o, e2, hcc⟩ := hc hne
  refine ⟨g, o, e2, fun i hi => ?_⟩
  obtain ⟨x, hx, q0, q1, q2, q3, q4, q5, q6, q7, q8, q9, q10, q11, q12⟩ := hcc i hi
  exact ⟨x, hx, ⟨q0, q1, q2, q3, q4, q5, q6, q7, q8, q9, q10, q11, q12⟩⟩
end
end Go.Proofs.YtaiocbbcjdpjgaaGreatDoor.lnk
