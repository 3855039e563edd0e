/- What the linker's add answers: a contract. (Written by mkadd.py: edit that.) -/
import Derived.Test.YtaiocbbcjdpjgaaGreatDoorLMLnkObj
import Derived.Deep.AppendLies
namespace Go.Proofs.YtaiocbbcjdpjgaaGreatDoor.lnk
open Go.RowKit Go.Maps Go.WideMaps
open Go.Proofs.YtaiocbbcjdpjgaaGreatDoor.syn (isName eqS)
open Go.Proofs.YtaiocbbcjdpjgaaGreatDoor.mac (BoxC Ins grown_of_below)
open Go.Proofs.YtaiocbbcjdpjgaaGreatDoor.ord (tkd putd)
open Go.Proofs.YtaiocbbcjdpjgaaGreatDoor.obj (ObjD PlcD RelD Vals ObjAt PlcsIn CodeIn objV)
open Go.Proofs.YtaiocbbcjdpjgaaGreatDoor.face (VarD ProcD FaceD FaceIn keep VarsIn ProcsIn)
set_option linter.unusedVariables false
set_option linter.unusedSimpArgs false
set_option maxRecDepth 100000
/-- what lies when an object more has been laid; its face lies at v -/
def addF (s : St) (o : ObjD) (v : Value) : St :=
  { code := s.code ++ o.code, low := s.low + o.low, high := s.high + o.high, mods := fun z => if eqS z o.face.module then some v else s.mods z,
    begs := placeF 4 o.face.module s.high (placeF 3 o.face.module s.low (placeF 2 o.face.module s.code.length (putT s.begs ⟨1, o.face.module, ⟨#[]⟩⟩ s.code.length) o.procs) o.lows) o.highs }
section
variable {w w' : World} {p : Pl} {s : St} {cv : Value} {nm nb : Nat}
theorem LS.putM (h : LS w p s cv nm nb) {x : ByteArray} {v : Value} (hm : MapN w' p.mb (nm + 1) (fun z => if eqS z x then some v else s.mods z)) (hg : w.grownBy w' (some p.mb)) : LS w' p { s with mods := fun z => if eqS z x then some v else s.mods z } cv (nm + 1) nb :=
  { h with box := h.box.grown hg (fun e => h.k1 (Option.some.inj e).symm), row := h.row.kept hg (.inr h.r2), mm := hm, bm := h.bm.kept hg (fun e => h.k3 (Option.some.inj e).symm) }
theorem Below.ofGrown {w0 w w' : World} {N b : Nat} (h : Below N w0 w) (hg : w.grownBy w' (some b)) (hb : N ≤ b) (hn : N ≤ w.heap.size) : Below N w0 w' := h.grown hg hn (fun k e => by cases e; exact hb)
end
/-- an object such as may be laid -/
structure AddOk (o : ObjD) : Prop where
  m : o.face.module.size ≤ 16
  code : o.code.length ≤ 20000
  low : 0 ≤ o.low ∧ o.low ≤ 20000
  high : 0 ≤ o.high ∧ o.high ≤ 20000
  p1 : ∀ q ∈ o.procs, q.name.size ≤ 16 ∧ 0 ≤ q.at' ∧ q.at' ≤ 20000
  p2 : ∀ q ∈ o.lows, q.name.size ≤ 16 ∧ 0 ≤ q.at' ∧ q.at' ≤ 20000
  p3 : ∀ q ∈ o.highs, q.name.size ≤ 16 ∧ 0 ≤ q.at' ∧ q.at' ≤ 20000
/-- what add comes to -/
def AddE (p : Pl) (s : St) (n0 b0 : Nat) (w : World) (e : Ending) (w' : World) : Prop :=
  e = .returned (.tuple #[]) ∧ Below p.N w w' ∧ ∃ g cap nm nb, LS w' p s (.slice (some ⟨g, 0, none⟩) s.code.length cap) nm nb ∧ nm = n0 + 1 ∧ nb ≤ b0 + 26388279066625
theorem infoI : (Tryz.prog.info? 64).map (fun i => (i.zero, i.size, i.bytes)) = some (some (.agg #[.int .i64 0, .int .i64 0, .int .i64 0, .int .i64 0, .int .i64 0]), 5, 40) := by kernel_rfl
theorem info_of {e : TypeId} {z : Value} {s b : Nat} (h : (Tryz.prog.info? e).map (fun i => (i.zero, i.size, i.bytes)) = some (some z, s, b)) : ∃ i, Tryz.prog.info? e = some i ∧ i.zero = some z ∧ i.size = s ∧ i.bytes = b := by
  cases hi : Tryz.prog.info? e with
  | none => rw [hi] at h; cases h
  | some i =>
    rw [hi] at h
    simp only [Option.map_some, Option.some.injEq, Prod.mk.injEq] at h
    exact ⟨i, rfl, h.1, h.2.1, h.2.2⟩
theorem flat5_len (l : List Ins) : (l.flatMap insC).length = l.length * 5 := by
  induction l with
  | nil => rfl
  | cons x r ih => rw [List.flatMap_cons, List.length_append, ih, List.length_cons]; show 5 + _ = _; omega
theorem flat5_at : ∀ (l : List Ins) (i : Nat) (hi : i < l.length) (j : Nat), j < 5 → (l.flatMap insC)[i * 5 + j]? = (insC l[i])[j]?
  | [], i, hi, _, _ => by simp at hi
  | x :: l, 0, hi, j, hj => by
    simp only [List.flatMap_cons, Nat.zero_mul, Nat.zero_add, List.getElem_cons_zero]
    rw [List.getElem?_append_left (show j < (insC x).length from hj)]
  | x :: l, i + 1, hi, j, hj => by
    have e : (i + 1) * 5 + j = (insC x).length + (i * 5 + j) := by show _ = 5 + _; omega
    rw [List.flatMap_cons, e, List.getElem?_append_right (by omega), Nat.add_sub_cancel_left]
    have := flat5_at l i (by simpa using hi) j hj
    simpa using this
/-- orders that lie somewhere, as what is appended -/
theorem code_news {w : World} {g o : Nat} {l : List Ins} (h : ∀ i (h : i < l.length), w.cell? ⟨g, o + i * 5, none⟩ = some (.int .i64 l[i].op) ∧ w.cell? ⟨g, o + i * 5 + 1, none⟩ = some (.int .i64 l[i].a) ∧ w.cell? ⟨g, o + i * 5 + 2, none⟩ = some (.int .i64 l[i].b) ∧ w.cell? ⟨g, o + i * 5 + 3, none⟩ = some (.int .i64 l[i].c) ∧ w.cell? ⟨g, o + i * 5 + 4, none⟩ = some (.int .i64 l[i].n)) :
    ∀ j u, (l.flatMap insC)[j]? = some u → w.cell? ((⟨g, o, none⟩ : Addr).add j) = some u := fun j u hu => by
  have hj : j < l.length * 5 := by
    rw [← flat5_len]
    exact (List.getElem?_eq_some_iff.1 hu).1
  have hi : j / 5 < l.length := by omega
  have e : j = j / 5 * 5 + j % 5 := by omega
  have hc := h (j / 5) hi
  have ha : ((⟨g, o, none⟩ : Addr).add j) = ⟨g, o + j / 5 * 5 + j % 5, none⟩ := by
    rw [Go.WideShapes.add_plain]
    congr 1
    omega
  rw [ha]
  rw [e, flat5_at l (j / 5) hi (j % 5) (by omega)] at hu
  have h5 : j % 5 < 5 := by omega
  generalize j % 5 = k at *
  match k, h5 with
  | 0, _ => rw [← hu]; exact hc.1
  | 1, _ => rw [← hu]; exact hc.2.1
  | 2, _ => rw [← hu]; exact hc.2.2.1
  | 3, _ => rw [← hu]; exact hc.2.2.2.1
  | 4, _ => rw [← hu]; exact hc.2.2.2.2
theorem code_one (l : List Ins) : ∀ u ∈ l.flatMap insC, u.oneCell' = true := fun u hu => by
  obtain ⟨i, _, hi⟩ := List.mem_flatMap.1 hu
  simp only [insC, List.mem_cons, List.not_mem_nil, or_false] at hi
  rcases hi with rfl | rfl | rfl | rfl | rfl <;> rfl
/-- orders more -/
theorem LS.code' {w w7 : World} {p : Pl} {s : St} {cv : Value} {nm nb : Nat} (h : LS w p s cv nm nb) {l : List Ins} {g5 cap5 : Nat} (hown : w7.ownsRow p.N 64 5 (.slice (some ⟨g5, 0, none⟩) (s.code.length + l.length) cap5) (s.code.length + l.length) (s.code.flatMap insC ++ l.flatMap insC))
    (hg : w.grownBy w7 cv.ownBlock) (hat : cv.ownBlock = some g5 ∨ g5 = w.heap.size) : LS (w7.setCell ⟨p.K, 0, none⟩ (.slice (some ⟨g5, 0, none⟩) (s.code.length + l.length) cap5)) p { s with code := s.code ++ l } (.slice (some ⟨g5, 0, none⟩) (s.code.length + l.length) cap5) nm nb := by
  have hlt := h.lt
  have hne : ∀ b, b < w.heap.size → cv.ownBlock ≠ some b → some g5 ≠ some b := fun b hb hc e => by
    cases e
    rcases hat with e | e
    · exact hc e
    · omega
  have e1 := hne p.K hlt.1 h.r1
  have e2 := hne p.mb hlt.2.1 h.r2
  have e3 := hne p.bb hlt.2.2.1 h.r3
  have hb := (h.box.grown hg h.r1).set 0 (.slice (some ⟨g5, 0, none⟩) (s.code.length + l.length) cap5)
  refine { h with box := ?_, row := ?_, mm := ?_, bm := ?_, r1 := e1, r2 := e2, r3 := e3 }
  · simpa using hb
  · rw [List.length_append, List.flatMap_append]
    exact hown.kept (mac.grown_set w7 p.K 0 _) (.inr e1)
  · exact (h.mm.kept hg (fun e => h.r2 e.symm)).kept (mac.grown_set w7 p.K 0 _) (fun e => h.k1 (Option.some.inj e).symm)
  · exact (h.bm.kept hg (fun e => h.r3 e.symm)).kept (mac.grown_set w7 p.K 0 _) (fun e => h.k2 (Option.some.inj e).symm)
theorem LS.low' {w : World} {p : Pl} {s : St} {cv : Value} {nm nb : Nat} (h : LS w p s cv nm nb) (n : Int) : LS (w.setCell ⟨p.K, 1, none⟩ (.int .i64 n)) p { s with low := n } cv nm nb := by
  have hb := h.box.set 1 (.int .i64 n)
  refine { h with box := ?_, row := ?_, mm := ?_, bm := ?_ }
  · simpa using hb
  · exact h.row.kept (mac.grown_set w p.K 1 _) (.inr h.r1)
  · exact h.mm.kept (mac.grown_set w p.K 1 _) (fun e => h.k1 (Option.some.inj e).symm)
  · exact h.bm.kept (mac.grown_set w p.K 1 _) (fun e => h.k2 (Option.some.inj e).symm)
theorem LS.high' {w : World} {p : Pl} {s : St} {cv : Value} {nm nb : Nat} (h : LS w p s cv nm nb) (n : Int) : LS (w.setCell ⟨p.K, 2, none⟩ (.int .i64 n)) p { s with high := n } cv nm nb := by
  have hb := h.box.set 2 (.int .i64 n)
  refine { h with box := ?_, row := ?_, mm := ?_, bm := ?_ }
  · simpa using hb
  · exact h.row.kept (mac.grown_set w p.K 2 _) (.inr h.r1)
  · exact h.mm.kept (mac.grown_set w p.K 2 _) (fun e => h.k1 (Option.some.inj e).symm)
  · exact h.bm.kept (mac.grown_set w p.K 2 _) (fun e => h.k2 (Option.some.inj e).symm)
/-- nothing is appended -/
theorem run_append_none {P : Program} (w : World) (t ty e : TypeId) (i : TypeInfo) (ht : P.underlying t = some (.slice e)) (hi : P.info? e = some i) (g n cap : Nat) (hn : n ≤ cap) (a : Option Addr) (c : Nat) :
    (Builtin.append_ #[t, t] ty #[.slice (some ⟨g, 0, none⟩) n cap, .slice a 0 c]).run P w = .ok (.slice (some ⟨g, 0, none⟩) n cap) w := by
  cases a with
  | none => simp [Builtin.append_, run_underlying ht, sizeOf, typeInfo, hi, Builtin.lenOf, hn, Builtin.firstCells, storeCells]
  | some x => simp [Builtin.append_, run_underlying ht, sizeOf, typeInfo, hi, Builtin.lenOf, hn, Builtin.firstCells, storeCells, loadCells, loadCellsFrom]
theorem step_append_none {P : Program} {w : World} {ops : Array Oper} {o : Oper} {a : Act} {K : Act → World → Prop} {Q : Exit → Act → World → Prop} {E : Prop} (hgd : o.guard = none) (s x : Operand) (t : TypeId)
    (ho : o.op = .call { callee := .builtin .append, args := #[s, x], argTypes := #[t, t] }) (v y : Value) (hs : a.eval s = v) (hx : a.eval x = y) (hr : ∀ ty, (Builtin.append_ #[t, t] ty #[v, y]).run P w = .ok v w) (h : K (a.put o.dst v) w) :
    if Region.wanted o (yielded ops a.tmps) = true then Oper.wp P o a w K Q else E := by
  have hw : Region.wanted o (yielded ops a.tmps) = true := by simp [Region.wanted, hgd]
  rw [if_pos hw]
  unfold Oper.wp execOp
  simp only [ho, resolve, invoke, builtin, Sem.run_bind, Sem.run_pure, Result.andThen_ok, List.map_toArray, List.map_cons, List.map_nil, hs, hx, hr]
  exact h
theorem LS.same {w : World} {p : Pl} {s : St} {cv : Value} {nm nb : Nat} (h : LS w p s cv nm nb) : LS (w.setCell ⟨p.K, 0, none⟩ cv) p s cv nm nb := by
  have hb := h.box.set 0 cv
  refine { h with box := ?_, row := ?_, mm := ?_, bm := ?_ }
  · simpa using hb
  · exact h.row.kept (mac.grown_set w p.K 0 _) (.inr h.r1)
  · exact h.mm.kept (mac.grown_set w p.K 0 _) (fun e => h.k1 (Option.some.inj e).symm)
  · exact h.bm.kept (mac.grown_set w p.K 0 _) (fun e => h.k2 (Option.some.inj e).symm)
set_option maxHeartbeats 8000000 in
theorem oAdd {w0 w : World} {p : Pl} {s : St} {g cap nm nb : Nat} (h : LS w p s (.slice (some ⟨g, 0, none⟩) s.code.length cap) nm nb) (hB : Below p.N w0 w) (hN : w0.heap.size = p.N) (o : ObjD) (x : Vals) (ho : ObjAt w0 x o) (hk : AddOk o)
    (hcl : s.code.length ≤ 200000) (hsl : 0 ≤ s.low ∧ s.low ≤ 200000) (hsh : 0 ≤ s.high ∧ s.high ≤ 200000) (hnm : nm ≤ 1000) (hnb : nb ≤ 281474976710656) (hp1 : o.procs.length ≤ 8796093022208) (hp2 : o.lows.length ≤ 8796093022208) (hp3 : o.highs.length ≤ 8796093022208) :
    Calls Tryz.prog 81 #[.pointer (some ⟨p.K, 0, none⟩), objV o x] w (AddE p (addF s o (.agg #[.string o.face.module, x.vv, x.pv])) nm nb w) := by
  have c13 : Tryz.prog.cellsOf 31 = 13 := by kernel_rfl
  have c3 : Tryz.prog.cellsOf 25 = 3 := by kernel_rfl
  have c5i : Tryz.prog.cellsOf 64 = 5 := by kernel_rfl
  obtain ⟨a1, c1, a2, c2, a3, c3', a4, c4', a5, c5, a6, c6, a7, c7, a8, c8, rfl⟩ := ho.shape
  have hNw : p.N ≤ w.heap.size := by have := h.n1; have := h.box.lt; omega
  have hL := h.alloc (.cells #[.string o.face.module, .slice a1 o.face.vars.length c1, .slice a2 o.face.procs.length c2, .slice a3 o.imports.length c3', .slice a4 o.code.length c4', .slice a5 o.relocs.length c5, .slice a6 o.procs.length c6, .slice a7 o.lows.length c7, .slice a8 o.highs.length c8, .int .i64 o.low, .int .i64 o.high, .int .i64 o.lowF, .int .i64 o.highF] 31)
  have hbo := BoxC.new w #[.string o.face.module, .slice a1 o.face.vars.length c1, .slice a2 o.face.procs.length c2, .slice a3 o.imports.length c3', .slice a4 o.code.length c4', .slice a5 o.relocs.length c5, .slice a6 o.procs.length c6, .slice a7 o.lows.length c7, .slice a8 o.highs.length c8, .int .i64 o.low, .int .i64 o.high, .int .i64 o.lowF, .int .i64 o.highF] 31
  have hG := (Below.refl p.N w).alloc hNw (.cells #[.string o.face.module, .slice a1 o.face.vars.length c1, .slice a2 o.face.procs.length c2, .slice a3 o.imports.length c3', .slice a4 o.code.length c4', .slice a5 o.relocs.length c5, .slice a6 o.procs.length c6, .slice a7 o.lows.length c7, .slice a8 o.highs.length c8, .int .i64 o.low, .int .i64 o.high, .int .i64 o.lowF, .int .i64 o.highF] 31)
  have hq1 := ho.q1
  have hq2 := ho.q2
  have hq3 := ho.q3
  have hcd := ho.code
  dsimp only at hq1 hq2 hq3 hcd
  have hok : Thg.ok ⟨1, o.face.module, ⟨#[]⟩⟩ := ⟨wf4 (k := 1) ⟨by decide, by decide⟩, by have := hk.m; unfold maxLen; dsimp only; omega, by unfold maxLen; show (⟨#[]⟩ : ByteArray).size ≤ _; decide⟩
  have hlt := h.lt
  have hm16 := hk.m
  unfold objV
  dsimp only
  go_enter Tryz.func81, Tryz.ntmps81
  go_wp2
  generalize hBdef : w.heap.size = B at *
  refine wp_region_held_drew (S := fun W => W.cell? ⟨p.K, 4, none⟩ = some (.map (some p.mb)) ∧ BoxC W B #[.string o.face.module, .slice a1 o.face.vars.length c1, .slice a2 o.face.procs.length c2, .slice a3 o.imports.length c3', .slice a4 o.code.length c4', .slice a5 o.relocs.length c5, .slice a6 o.procs.length c6, .slice a7 o.lows.length c7, .slice a8 o.highs.length c8, .int .i64 o.low, .int .i64 o.high, .int .i64 o.lowF, .int .i64 o.highF] 31) (by kernel_rfl) ⟨hL.drew.mo, hbo.below (Below.refl _ _).drew⟩ (fun hS => ?_)
  replace hL := hL.drew
  replace hbo := hbo.below (Below.refl _ _).drew
  replace hG := hG.drew
  generalize (w.alloc (.cells #[.string o.face.module, .slice a1 o.face.vars.length c1, .slice a2 o.face.procs.length c2, .slice a3 o.imports.length c3', .slice a4 o.code.length c4', .slice a5 o.relocs.length c5, .slice a6 o.procs.length c6, .slice a7 o.lows.length c7, .slice a8 o.highs.length c8, .int .i64 o.low, .int .i64 o.high, .int .i64 o.lowF, .int .i64 o.highF] 31)).drew = W at hL hbo hG hS ⊢
  refine tkd (i := 0) (v := .pointer (some ⟨p.K, 0, none⟩) ) rfl rfl (by kernel_rfl) (by kernel_rfl) (by kernel_rfl) (fun _ _ _ h => h) (Or.inl ⟨by rfl, fun wq hSw => by skip; go_simp⟩) hS ?_
  simp only [List.setIfInBounds_toArray, List.set_cons_zero, List.set_cons_succ]
  refine tkd (i := 1) (v := .pointer (some ⟨p.K, 0, none⟩) ) rfl rfl (by kernel_rfl) (by kernel_rfl) (by kernel_rfl) (fun _ _ _ h => h) (Or.inl ⟨by rfl, fun wq hSw => by skip; go_simp⟩) hS ?_
  simp only [List.setIfInBounds_toArray, List.set_cons_zero, List.set_cons_succ]
  refine tkd (i := 2) (v := .pointer (some ⟨p.K, 4, none⟩) ) rfl rfl (by kernel_rfl) (by kernel_rfl) (by kernel_rfl) (fun _ _ _ h => h) (Or.inl ⟨by rfl, fun wq hSw => by skip; go_simp⟩) hS ?_
  simp only [List.setIfInBounds_toArray, List.set_cons_zero, List.set_cons_succ]
  refine tkd (i := 3) (v := .map (some p.mb) ) rfl rfl (by kernel_rfl) (by kernel_rfl) (by kernel_rfl) (fun _ _ _ h => h) (Or.inl ⟨by rfl, fun wq hSw => by have m := hSw.1; go_simp⟩) hS ?_
  simp only [List.setIfInBounds_toArray, List.set_cons_zero, List.set_cons_succ]
  refine tkd (i := 4) (v := .string o.face.module ) rfl rfl (by kernel_rfl) (by kernel_rfl) (by kernel_rfl) (fun _ _ _ h => h) (Or.inl ⟨by rfl, fun wq hSw => by skip; go_simp⟩) hS ?_
  simp only [List.setIfInBounds_toArray, List.set_cons_zero, List.set_cons_succ]
  refine tkd (i := 5) (v := .pointer (some ⟨B, 0, none⟩) ) rfl rfl (by kernel_rfl) (by kernel_rfl) (by kernel_rfl) (fun _ _ _ h => h) (Or.inl ⟨by rfl, fun wq hSw => by skip; go_simp⟩) hS ?_
  simp only [List.setIfInBounds_toArray, List.set_cons_zero, List.set_cons_succ]
  refine tkd (i := 6) (v := (.agg #[.string o.face.module, .slice a1 o.face.vars.length c1, .slice a2 o.face.procs.length c2]) ) rfl rfl (by kernel_rfl) (by kernel_rfl) (by kernel_rfl) (fun _ _ _ h => h) (Or.inl ⟨by rfl, fun wq hSw => by have z0 := hSw.2.cell 0 rfl; have z1 := hSw.2.cell 1 rfl; have z2 := hSw.2.cell 2 rfl; go_simp⟩) hS ?_
  simp only [List.setIfInBounds_toArray, List.set_cons_zero, List.set_cons_succ]
  refine wpAnyH_ready (rs := [7]) (by kernel_rfl) (by simp) ?_
  refine AllReadyH.cons rfl (fun K hK => ?_) AllReadyH.nil
  refine hL.mm.step_put (by rfl) (.tmp 11) (.tmp 12) (.tmp 14) (by rfl) (by rfl) (by unfold maxLen; omega) o.face.module (by unfold maxLen; omega) (by rfl) _ (by rfl) ?_
  intro w2 hm2 hg2
  replace hL := hL.putM hm2 hg2
  replace hbo := hbo.grown hg2 (fun e => by have := Option.some.inj e; omega)
  replace hG := Below.ofGrown hG hg2 hL.n2 (by have := hG.size; omega)
  refine hK.out _ _ ⟨hL.mo, hbo⟩ (fun _ => ?_)
  clear hK K hm2 hg2 hS
  simp only [Act.put]
  refine wpAnyH_done (by kernel_rfl) ?_ _
  go_wp2
  refine wp_region_held_drew (S := fun W => W.cell? ⟨p.K, 5, none⟩ = some (.map (some p.bb)) ∧ W.cell? ⟨p.K, 0, none⟩ = some (.slice (some ⟨g, 0, none⟩) s.code.length cap) ∧ BoxC W B #[.string o.face.module, .slice a1 o.face.vars.length c1, .slice a2 o.face.procs.length c2, .slice a3 o.imports.length c3', .slice a4 o.code.length c4', .slice a5 o.relocs.length c5, .slice a6 o.procs.length c6, .slice a7 o.lows.length c7, .slice a8 o.highs.length c8, .int .i64 o.low, .int .i64 o.high, .int .i64 o.lowF, .int .i64 o.highF] 31) (by kernel_rfl) ⟨hL.drew.be, hL.drew.cod, hbo.below (Below.refl _ _).drew⟩ (fun hS => ?_)
  replace hL := hL.drew
  replace hbo := hbo.below (Below.refl _ _).drew
  replace hG := hG.drew
  generalize w2.drew = W2 at hL hbo hG hS ⊢
  refine tkd (i := 0) (v := .pointer (some ⟨p.K, 0, none⟩) ) rfl rfl (by kernel_rfl) (by kernel_rfl) (by kernel_rfl) (fun _ _ _ h => h) (Or.inl ⟨by rfl, fun wq hSw => by skip; go_simp⟩) hS ?_
  simp only [List.setIfInBounds_toArray, List.set_cons_zero, List.set_cons_succ]
  refine tkd (i := 1) (v := .pointer (some ⟨p.K, 0, none⟩) ) rfl rfl (by kernel_rfl) (by kernel_rfl) (by kernel_rfl) (fun _ _ _ h => h) (Or.inl ⟨by rfl, fun wq hSw => by skip; go_simp⟩) hS ?_
  simp only [List.setIfInBounds_toArray, List.set_cons_zero, List.set_cons_succ]
  refine tkd (i := 2) (v := .pointer (some ⟨p.K, 5, none⟩) ) rfl rfl (by kernel_rfl) (by kernel_rfl) (by kernel_rfl) (fun _ _ _ h => h) (Or.inl ⟨by rfl, fun wq hSw => by skip; go_simp⟩) hS ?_
  simp only [List.setIfInBounds_toArray, List.set_cons_zero, List.set_cons_succ]
  refine tkd (i := 3) (v := .map (some p.bb) ) rfl rfl (by kernel_rfl) (by kernel_rfl) (by kernel_rfl) (fun _ _ _ h => h) (Or.inl ⟨by rfl, fun wq hSw => by have m := hSw.1; go_simp⟩) hS ?_
  simp only [List.setIfInBounds_toArray, List.set_cons_zero, List.set_cons_succ]
  refine tkd (i := 4) (v := .string o.face.module ) rfl rfl (by kernel_rfl) (by kernel_rfl) (by kernel_rfl) (fun _ _ _ h => h) (Or.inl ⟨by rfl, fun wq hSw => by skip; go_simp⟩) hS ?_
  simp only [List.setIfInBounds_toArray, List.set_cons_zero, List.set_cons_succ]
  refine tkd (i := 5) (v := .agg #[.int .i64 1, .string o.face.module, .string ⟨#[]⟩] ) rfl rfl (by kernel_rfl) (by kernel_rfl) (by kernel_rfl) (fun _ _ _ h => h) (Or.inl ⟨by rfl, fun wq hSw => by skip; go_simp⟩) hS ?_
  simp only [List.setIfInBounds_toArray, List.set_cons_zero, List.set_cons_succ]
  refine tkd (i := 6) (v := .pointer (some ⟨p.K, 0, none⟩) ) rfl rfl (by kernel_rfl) (by kernel_rfl) (by kernel_rfl) (fun _ _ _ h => h) (Or.inl ⟨by rfl, fun wq hSw => by skip; go_simp⟩) hS ?_
  simp only [List.setIfInBounds_toArray, List.set_cons_zero, List.set_cons_succ]
  refine tkd (i := 7) (v := .pointer (some ⟨p.K, 0, none⟩) ) rfl rfl (by kernel_rfl) (by kernel_rfl) (by kernel_rfl) (fun _ _ _ h => h) (Or.inl ⟨by rfl, fun wq hSw => by skip; go_simp⟩) hS ?_
  simp only [List.setIfInBounds_toArray, List.set_cons_zero, List.set_cons_succ]
  refine tkd (i := 8) (v := .pointer (some ⟨p.K, 0, none⟩) ) rfl rfl (by kernel_rfl) (by kernel_rfl) (by kernel_rfl) (fun _ _ _ h => h) (Or.inl ⟨by rfl, fun wq hSw => by skip; go_simp⟩) hS ?_
  simp only [List.setIfInBounds_toArray, List.set_cons_zero, List.set_cons_succ]
  refine tkd (i := 9) (v := .pointer (some ⟨p.K, 0, none⟩) ) rfl rfl (by kernel_rfl) (by kernel_rfl) (by kernel_rfl) (fun _ _ _ h => h) (Or.inl ⟨by rfl, fun wq hSw => by skip; go_simp⟩) hS ?_
  simp only [List.setIfInBounds_toArray, List.set_cons_zero, List.set_cons_succ]
  refine tkd (i := 10) (v := .slice (some ⟨g, 0, none⟩) s.code.length cap ) rfl rfl (by kernel_rfl) (by kernel_rfl) (by kernel_rfl) (fun _ _ _ h => h) (Or.inl ⟨by rfl, fun wq hSw => by have m := hSw.2.1; go_simp⟩) hS ?_
  simp only [List.setIfInBounds_toArray, List.set_cons_zero, List.set_cons_succ]
  refine tkd (i := 11) (v := .int .i64 (s.code.length : Int) ) rfl rfl (by kernel_rfl) (by kernel_rfl) (by kernel_rfl) (fun _ _ _ h => h) (Or.inl ⟨by rfl, fun wq hSw => by skip; go_simp⟩) hS ?_
  simp only [List.setIfInBounds_toArray, List.set_cons_zero, List.set_cons_succ]
  refine wpAnyH_ready (rs := [12]) (by kernel_rfl) (by simp) ?_
  refine AllReadyH.cons rfl (fun K hK => ?_) AllReadyH.nil
  refine hL.bm.step_put (by rfl) (.tmp 18) (.tmp 20) (.tmp 26) (by rfl) (by rfl) (by unfold maxLen; omega) ⟨1, o.face.module, ⟨#[]⟩⟩ hok (by rfl) (s.code.length : Int) (by rfl) ?_
  intro w3 hm3 hg3
  replace hL := hL.putB hm3 hg3
  replace hbo := hbo.grown hg3 (fun e => by have := Option.some.inj e; omega)
  replace hG := Below.ofGrown hG hg3 hL.n3 (by have := hG.size; omega)
  refine hK.out _ _ ⟨hL.be, hL.cod, hbo⟩ (fun _ => ?_)
  clear hK K hm3 hg3 hS
  simp only [Act.put]
  refine wpAnyH_done (by kernel_rfl) ?_ _
  go_wp2
  refine wp_region_held_drew (S := fun W => W.cell? ⟨p.K, 0, none⟩ = some (.slice (some ⟨g, 0, none⟩) s.code.length cap) ∧ W.cell? ⟨p.K, 1, none⟩ = some (.int .i64 s.low) ∧ W.cell? ⟨p.K, 2, none⟩ = some (.int .i64 s.high) ∧ BoxC W B #[.string o.face.module, .slice a1 o.face.vars.length c1, .slice a2 o.face.procs.length c2, .slice a3 o.imports.length c3', .slice a4 o.code.length c4', .slice a5 o.relocs.length c5, .slice a6 o.procs.length c6, .slice a7 o.lows.length c7, .slice a8 o.highs.length c8, .int .i64 o.low, .int .i64 o.high, .int .i64 o.lowF, .int .i64 o.highF] 31) (by kernel_rfl) ⟨hL.drew.cod, hL.drew.lo, hL.drew.hi, hbo.below (Below.refl _ _).drew⟩ (fun hS => ?_)
  replace hL := hL.drew
  replace hbo := hbo.below (Below.refl _ _).drew
  replace hG := hG.drew
  generalize w3.drew = W3 at hL hbo hG hS ⊢
  refine tkd (i := 0) (v := .pointer (some ⟨p.K, 0, none⟩) ) rfl rfl (by kernel_rfl) (by kernel_rfl) (by kernel_rfl) (fun _ _ _ h => h) (Or.inl ⟨by rfl, fun wq hSw => by skip; go_simp⟩) hS ?_
  simp only [List.setIfInBounds_toArray, List.set_cons_zero, List.set_cons_succ]
  refine tkd (i := 1) (v := .string o.face.module ) rfl rfl (by kernel_rfl) (by kernel_rfl) (by kernel_rfl) (fun _ _ _ h => h) (Or.inl ⟨by rfl, fun wq hSw => by skip; go_simp⟩) hS ?_
  simp only [List.setIfInBounds_toArray, List.set_cons_zero, List.set_cons_succ]
  refine tkd (i := 2) (v := .pointer (some ⟨B, 6, none⟩) ) rfl rfl (by kernel_rfl) (by kernel_rfl) (by kernel_rfl) (fun _ _ _ h => h) (Or.inl ⟨by rfl, fun wq hSw => by skip; go_simp⟩) hS ?_
  simp only [List.setIfInBounds_toArray, List.set_cons_zero, List.set_cons_succ]
  refine tkd (i := 3) (v := .slice a6 o.procs.length c6 ) rfl rfl (by kernel_rfl) (by kernel_rfl) (by kernel_rfl) (fun _ _ _ h => h) (Or.inl ⟨by rfl, fun wq hSw => by have m := hSw.2.2.2.cell 6 rfl; go_simp⟩) hS ?_
  simp only [List.setIfInBounds_toArray, List.set_cons_zero, List.set_cons_succ]
  refine tkd (i := 4) (v := .pointer (some ⟨p.K, 0, none⟩) ) rfl rfl (by kernel_rfl) (by kernel_rfl) (by kernel_rfl) (fun _ _ _ h => h) (Or.inl ⟨by rfl, fun wq hSw => by skip; go_simp⟩) hS ?_
  simp only [List.setIfInBounds_toArray, List.set_cons_zero, List.set_cons_succ]
  refine tkd (i := 5) (v := .pointer (some ⟨p.K, 0, none⟩) ) rfl rfl (by kernel_rfl) (by kernel_rfl) (by kernel_rfl) (fun _ _ _ h => h) (Or.inl ⟨by rfl, fun wq hSw => by skip; go_simp⟩) hS ?_
  simp only [List.setIfInBounds_toArray, List.set_cons_zero, List.set_cons_succ]
  refine tkd (i := 6) (v := .pointer (some ⟨p.K, 0, none⟩) ) rfl rfl (by kernel_rfl) (by kernel_rfl) (by kernel_rfl) (fun _ _ _ h => h) (Or.inl ⟨by rfl, fun wq hSw => by skip; go_simp⟩) hS ?_
  simp only [List.setIfInBounds_toArray, List.set_cons_zero, List.set_cons_succ]
  refine tkd (i := 7) (v := .pointer (some ⟨p.K, 0, none⟩) ) rfl rfl (by kernel_rfl) (by kernel_rfl) (by kernel_rfl) (fun _ _ _ h => h) (Or.inl ⟨by rfl, fun wq hSw => by skip; go_simp⟩) hS ?_
  simp only [List.setIfInBounds_toArray, List.set_cons_zero, List.set_cons_succ]
  refine tkd (i := 8) (v := .slice (some ⟨g, 0, none⟩) s.code.length cap ) rfl rfl (by kernel_rfl) (by kernel_rfl) (by kernel_rfl) (fun _ _ _ h => h) (Or.inl ⟨by rfl, fun wq hSw => by have m := hSw.1; go_simp⟩) hS ?_
  simp only [List.setIfInBounds_toArray, List.set_cons_zero, List.set_cons_succ]
  refine tkd (i := 9) (v := .int .i64 (s.code.length : Int) ) rfl rfl (by kernel_rfl) (by kernel_rfl) (by kernel_rfl) (fun _ _ _ h => h) (Or.inl ⟨by rfl, fun wq hSw => by skip; go_simp⟩) hS ?_
  simp only [List.setIfInBounds_toArray, List.set_cons_zero, List.set_cons_succ]
  have hC := oPlace hL (hB.trans hG) hN 2 o.face.module o.procs _ (s.code.length : Int) hq1 ⟨by decide, by decide⟩ hm16 hk.p1 ⟨by omega, by omega⟩ (by omega)
  refine wpAnyH_ready (rs := [10]) (by kernel_rfl) (by simp) ?_
  refine AllReadyH.cons rfl (fun K hK => ?_) AllReadyH.nil
  go_simp
  go_at_call 119
  refine hC.mono ?_
  rintro e w4 ⟨rfl, hL4, hg4⟩
  clear hC
  replace hbo := hbo.grown hg4 (fun e => by have := Option.some.inj e; omega)
  replace hG := Below.ofGrown hG hg4 hL.n3 (by have := hG.size; omega)
  replace hL := hL4
  go_wp2
  refine hK.out _ _ ⟨hL.cod, hL.lo, hL.hi, hbo⟩ (fun _ => ?_)
  clear hK K hL4 hg4 hS
  refine wpAnyH_done (by kernel_rfl) ?_ _
  go_wp2
  refine wp_region_held_drew (S := fun W => W.cell? ⟨p.K, 0, none⟩ = some (.slice (some ⟨g, 0, none⟩) s.code.length cap) ∧ W.cell? ⟨p.K, 1, none⟩ = some (.int .i64 s.low) ∧ W.cell? ⟨p.K, 2, none⟩ = some (.int .i64 s.high) ∧ BoxC W B #[.string o.face.module, .slice a1 o.face.vars.length c1, .slice a2 o.face.procs.length c2, .slice a3 o.imports.length c3', .slice a4 o.code.length c4', .slice a5 o.relocs.length c5, .slice a6 o.procs.length c6, .slice a7 o.lows.length c7, .slice a8 o.highs.length c8, .int .i64 o.low, .int .i64 o.high, .int .i64 o.lowF, .int .i64 o.highF] 31) (by kernel_rfl) ⟨hL.drew.cod, hL.drew.lo, hL.drew.hi, hbo.below (Below.refl _ _).drew⟩ (fun hS => ?_)
  replace hL := hL.drew
  replace hbo := hbo.below (Below.refl _ _).drew
  replace hG := hG.drew
  generalize w4.drew = W4 at hL hbo hG hS ⊢
  refine tkd (i := 0) (v := .pointer (some ⟨p.K, 0, none⟩) ) rfl rfl (by kernel_rfl) (by kernel_rfl) (by kernel_rfl) (fun _ _ _ h => h) (Or.inl ⟨by rfl, fun wq hSw => by skip; go_simp⟩) hS ?_
  simp only [List.setIfInBounds_toArray, List.set_cons_zero, List.set_cons_succ]
  refine tkd (i := 1) (v := .string o.face.module ) rfl rfl (by kernel_rfl) (by kernel_rfl) (by kernel_rfl) (fun _ _ _ h => h) (Or.inl ⟨by rfl, fun wq hSw => by skip; go_simp⟩) hS ?_
  simp only [List.setIfInBounds_toArray, List.set_cons_zero, List.set_cons_succ]
  refine tkd (i := 2) (v := .pointer (some ⟨B, 7, none⟩) ) rfl rfl (by kernel_rfl) (by kernel_rfl) (by kernel_rfl) (fun _ _ _ h => h) (Or.inl ⟨by rfl, fun wq hSw => by skip; go_simp⟩) hS ?_
  simp only [List.setIfInBounds_toArray, List.set_cons_zero, List.set_cons_succ]
  refine tkd (i := 3) (v := .slice a7 o.lows.length c7 ) rfl rfl (by kernel_rfl) (by kernel_rfl) (by kernel_rfl) (fun _ _ _ h => h) (Or.inl ⟨by rfl, fun wq hSw => by have m := hSw.2.2.2.cell 7 rfl; go_simp⟩) hS ?_
  simp only [List.setIfInBounds_toArray, List.set_cons_zero, List.set_cons_succ]
  refine tkd (i := 4) (v := .pointer (some ⟨p.K, 0, none⟩) ) rfl rfl (by kernel_rfl) (by kernel_rfl) (by kernel_rfl) (fun _ _ _ h => h) (Or.inl ⟨by rfl, fun wq hSw => by skip; go_simp⟩) hS ?_
  simp only [List.setIfInBounds_toArray, List.set_cons_zero, List.set_cons_succ]
  refine tkd (i := 5) (v := .pointer (some ⟨p.K, 0, none⟩) ) rfl rfl (by kernel_rfl) (by kernel_rfl) (by kernel_rfl) (fun _ _ _ h => h) (Or.inl ⟨by rfl, fun wq hSw => by skip; go_simp⟩) hS ?_
  simp only [List.setIfInBounds_toArray, List.set_cons_zero, List.set_cons_succ]
  refine tkd (i := 6) (v := .pointer (some ⟨p.K, 0, none⟩) ) rfl rfl (by kernel_rfl) (by kernel_rfl) (by kernel_rfl) (fun _ _ _ h => h) (Or.inl ⟨by rfl, fun wq hSw => by skip; go_simp⟩) hS ?_
  simp only [List.setIfInBounds_toArray, List.set_cons_zero, List.set_cons_succ]
  refine tkd (i := 7) (v := .pointer (some ⟨p.K, 1, none⟩) ) rfl rfl (by kernel_rfl) (by kernel_rfl) (by kernel_rfl) (fun _ _ _ h => h) (Or.inl ⟨by rfl, fun wq hSw => by skip; go_simp⟩) hS ?_
  simp only [List.setIfInBounds_toArray, List.set_cons_zero, List.set_cons_succ]
  refine tkd (i := 8) (v := .int .i64 s.low ) rfl rfl (by kernel_rfl) (by kernel_rfl) (by kernel_rfl) (fun _ _ _ h => h) (Or.inl ⟨by rfl, fun wq hSw => by have m := hSw.2.1; go_simp⟩) hS ?_
  simp only [List.setIfInBounds_toArray, List.set_cons_zero, List.set_cons_succ]
  have hC := oPlace hL (hB.trans hG) hN 3 o.face.module o.lows _ s.low hq2 ⟨by decide, by decide⟩ hm16 hk.p2 ⟨by omega, by omega⟩ (by omega)
  refine wpAnyH_ready (rs := [9]) (by kernel_rfl) (by simp) ?_
  refine AllReadyH.cons rfl (fun K hK => ?_) AllReadyH.nil
  go_simp
  go_at_call 119
  refine hC.mono ?_
  rintro e w5 ⟨rfl, hL4, hg4⟩
  clear hC
  replace hbo := hbo.grown hg4 (fun e => by have := Option.some.inj e; omega)
  replace hG := Below.ofGrown hG hg4 hL.n3 (by have := hG.size; omega)
  replace hL := hL4
  go_wp2
  refine hK.out _ _ ⟨hL.cod, hL.lo, hL.hi, hbo⟩ (fun _ => ?_)
  clear hK K hL4 hg4 hS
  refine wpAnyH_done (by kernel_rfl) ?_ _
  go_wp2
  refine wp_region_held_drew (S := fun W => W.cell? ⟨p.K, 0, none⟩ = some (.slice (some ⟨g, 0, none⟩) s.code.length cap) ∧ W.cell? ⟨p.K, 1, none⟩ = some (.int .i64 s.low) ∧ W.cell? ⟨p.K, 2, none⟩ = some (.int .i64 s.high) ∧ BoxC W B #[.string o.face.module, .slice a1 o.face.vars.length c1, .slice a2 o.face.procs.length c2, .slice a3 o.imports.length c3', .slice a4 o.code.length c4', .slice a5 o.relocs.length c5, .slice a6 o.procs.length c6, .slice a7 o.lows.length c7, .slice a8 o.highs.length c8, .int .i64 o.low, .int .i64 o.high, .int .i64 o.lowF, .int .i64 o.highF] 31) (by kernel_rfl) ⟨hL.drew.cod, hL.drew.lo, hL.drew.hi, hbo.below (Below.refl _ _).drew⟩ (fun hS => ?_)
  replace hL := hL.drew
  replace hbo := hbo.below (Below.refl _ _).drew
  replace hG := hG.drew
  generalize w5.drew = W5 at hL hbo hG hS ⊢
  refine tkd (i := 0) (v := .pointer (some ⟨p.K, 0, none⟩) ) rfl rfl (by kernel_rfl) (by kernel_rfl) (by kernel_rfl) (fun _ _ _ h => h) (Or.inl ⟨by rfl, fun wq hSw => by skip; go_simp⟩) hS ?_
  simp only [List.setIfInBounds_toArray, List.set_cons_zero, List.set_cons_succ]
  refine tkd (i := 1) (v := .string o.face.module ) rfl rfl (by kernel_rfl) (by kernel_rfl) (by kernel_rfl) (fun _ _ _ h => h) (Or.inl ⟨by rfl, fun wq hSw => by skip; go_simp⟩) hS ?_
  simp only [List.setIfInBounds_toArray, List.set_cons_zero, List.set_cons_succ]
  refine tkd (i := 2) (v := .pointer (some ⟨B, 8, none⟩) ) rfl rfl (by kernel_rfl) (by kernel_rfl) (by kernel_rfl) (fun _ _ _ h => h) (Or.inl ⟨by rfl, fun wq hSw => by skip; go_simp⟩) hS ?_
  simp only [List.setIfInBounds_toArray, List.set_cons_zero, List.set_cons_succ]
  refine tkd (i := 3) (v := .slice a8 o.highs.length c8 ) rfl rfl (by kernel_rfl) (by kernel_rfl) (by kernel_rfl) (fun _ _ _ h => h) (Or.inl ⟨by rfl, fun wq hSw => by have m := hSw.2.2.2.cell 8 rfl; go_simp⟩) hS ?_
  simp only [List.setIfInBounds_toArray, List.set_cons_zero, List.set_cons_succ]
  refine tkd (i := 4) (v := .pointer (some ⟨p.K, 0, none⟩) ) rfl rfl (by kernel_rfl) (by kernel_rfl) (by kernel_rfl) (fun _ _ _ h => h) (Or.inl ⟨by rfl, fun wq hSw => by skip; go_simp⟩) hS ?_
  simp only [List.setIfInBounds_toArray, List.set_cons_zero, List.set_cons_succ]
  refine tkd (i := 5) (v := .pointer (some ⟨p.K, 0, none⟩) ) rfl rfl (by kernel_rfl) (by kernel_rfl) (by kernel_rfl) (fun _ _ _ h => h) (Or.inl ⟨by rfl, fun wq hSw => by skip; go_simp⟩) hS ?_
  simp only [List.setIfInBounds_toArray, List.set_cons_zero, List.set_cons_succ]
  refine tkd (i := 6) (v := .pointer (some ⟨p.K, 0, none⟩) ) rfl rfl (by kernel_rfl) (by kernel_rfl) (by kernel_rfl) (fun _ _ _ h => h) (Or.inl ⟨by rfl, fun wq hSw => by skip; go_simp⟩) hS ?_
  simp only [List.setIfInBounds_toArray, List.set_cons_zero, List.set_cons_succ]
  refine tkd (i := 7) (v := .pointer (some ⟨p.K, 2, none⟩) ) rfl rfl (by kernel_rfl) (by kernel_rfl) (by kernel_rfl) (fun _ _ _ h => h) (Or.inl ⟨by rfl, fun wq hSw => by skip; go_simp⟩) hS ?_
  simp only [List.setIfInBounds_toArray, List.set_cons_zero, List.set_cons_succ]
  refine tkd (i := 8) (v := .int .i64 s.high ) rfl rfl (by kernel_rfl) (by kernel_rfl) (by kernel_rfl) (fun _ _ _ h => h) (Or.inl ⟨by rfl, fun wq hSw => by have m := hSw.2.2.1; go_simp⟩) hS ?_
  simp only [List.setIfInBounds_toArray, List.set_cons_zero, List.set_cons_succ]
  have hC := oPlace hL (hB.trans hG) hN 4 o.face.module o.highs _ s.high hq3 ⟨by decide, by decide⟩ hm16 hk.p3 ⟨by omega, by omega⟩ (by omega)
  refine wpAnyH_ready (rs := [9]) (by kernel_rfl) (by simp) ?_
  refine AllReadyH.cons rfl (fun K hK => ?_) AllReadyH.nil
  go_simp
  go_at_call 119
  refine hC.mono ?_
  rintro e w6 ⟨rfl, hL4, hg4⟩
  clear hC
  replace hbo := hbo.grown hg4 (fun e => by have := Option.some.inj e; omega)
  replace hG := Below.ofGrown hG hg4 hL.n3 (by have := hG.size; omega)
  replace hL := hL4
  go_wp2
  refine hK.out _ _ ⟨hL.cod, hL.lo, hL.hi, hbo⟩ (fun _ => ?_)
  clear hK K hL4 hg4 hS
  refine wpAnyH_done (by kernel_rfl) ?_ _
  go_wp2
  obtain ⟨i0, hi0, hz0, hz1, hz2⟩ := info_of infoI
  have hKB : p.K ≠ B := by have := hlt.1; omega
  have hcap : s.code.length ≤ cap := by
    rcases h.row.2 with ⟨e, _⟩ | ⟨g', cap', cur, e, _, _, e2, _⟩
    · cases e
    · cases e
      exact e2
  cases hce : o.code with
  | nil =>
    have HC : Hid (o.code = []) := hce
    have HS : Hid (s.code ++ o.code = s.code) := by show _ = _; rw [hce, List.append_nil]
    have hap : ∀ (W : World) ty, (Builtin.append_ #[27, 27] ty #[.slice (some ⟨g, 0, none⟩) s.code.length cap, .slice a4 o.code.length c4']).run Tryz.prog W = .ok (.slice (some ⟨g, 0, none⟩) s.code.length cap) W := fun W ty => by
      rw [show o.code.length = 0 by rw [hce]; rfl]
      exact run_append_none W _ _ _ i0 Tryz.underlying27 hi0 g _ cap hcap a4 c4'
    clear hce
    refine wp_region_held_drew (S := fun W => BoxC W B #[.string o.face.module, .slice a1 o.face.vars.length c1, .slice a2 o.face.procs.length c2, .slice a3 o.imports.length c3', .slice a4 o.code.length c4', .slice a5 o.relocs.length c5, .slice a6 o.procs.length c6, .slice a7 o.lows.length c7, .slice a8 o.highs.length c8, .int .i64 o.low, .int .i64 o.high, .int .i64 o.lowF, .int .i64 o.highF] 31) (by kernel_rfl) (hbo.below (Below.refl _ _).drew) (fun hS => ?_)
    replace hL := hL.drew
    replace hbo := hbo.below (Below.refl _ _).drew
    replace hG := hG.drew
    generalize w6.drew = W6 at hL hbo hG hS ⊢
    refine tkd (i := 0) (v := .pointer (some ⟨p.K, 0, none⟩) ) rfl rfl (by kernel_rfl) (by kernel_rfl) (by kernel_rfl) (fun _ _ _ h => h) (Or.inl ⟨by rfl, fun wq hSw => by skip; go_simp⟩) hS ?_
    simp only [List.setIfInBounds_toArray, List.set_cons_zero, List.set_cons_succ]
    refine tkd (i := 1) (v := .pointer (some ⟨p.K, 0, none⟩) ) rfl rfl (by kernel_rfl) (by kernel_rfl) (by kernel_rfl) (fun _ _ _ h => h) (Or.inl ⟨by rfl, fun wq hSw => by skip; go_simp⟩) hS ?_
    simp only [List.setIfInBounds_toArray, List.set_cons_zero, List.set_cons_succ]
    refine tkd (i := 2) (v := .pointer (some ⟨p.K, 0, none⟩) ) rfl rfl (by kernel_rfl) (by kernel_rfl) (by kernel_rfl) (fun _ _ _ h => h) (Or.inl ⟨by rfl, fun wq hSw => by skip; go_simp⟩) hS ?_
    simp only [List.setIfInBounds_toArray, List.set_cons_zero, List.set_cons_succ]
    refine tkd (i := 3) (v := .pointer (some ⟨p.K, 0, none⟩) ) rfl rfl (by kernel_rfl) (by kernel_rfl) (by kernel_rfl) (fun _ _ _ h => h) (Or.inl ⟨by rfl, fun wq hSw => by skip; go_simp⟩) hS ?_
    simp only [List.setIfInBounds_toArray, List.set_cons_zero, List.set_cons_succ]
    refine tkd (i := 4) (v := .pointer (some ⟨p.K, 0, none⟩) ) rfl rfl (by kernel_rfl) (by kernel_rfl) (by kernel_rfl) (fun _ _ _ h => h) (Or.inl ⟨by rfl, fun wq hSw => by skip; go_simp⟩) hS ?_
    simp only [List.setIfInBounds_toArray, List.set_cons_zero, List.set_cons_succ]
    refine tkd (i := 6) (v := .pointer (some ⟨B, 4, none⟩) ) rfl rfl (by kernel_rfl) (by kernel_rfl) (by kernel_rfl) (fun _ _ _ h => h) (Or.inl ⟨by rfl, fun wq hSw => by skip; go_simp⟩) hS ?_
    simp only [List.setIfInBounds_toArray, List.set_cons_zero, List.set_cons_succ]
    refine tkd (i := 7) (v := (.slice a4 o.code.length c4') ) rfl rfl (by kernel_rfl) (by kernel_rfl) (by kernel_rfl) (fun _ _ _ h => h) (Or.inl ⟨by rfl, fun wq hSw => by have m := hSw.cell 4 rfl; go_simp⟩) hS ?_
    simp only [List.setIfInBounds_toArray, List.set_cons_zero, List.set_cons_succ]
    have m0 := hL.cod
    refine wpAnyH_ready (rs := [5]) (by kernel_rfl) (by simp) ?_
    refine AllReadyH.cons rfl (fun K hK => ?_) AllReadyH.nil
    go_simp
    refine hK.out _ _ hS (fun _ => ?_)
    clear hK K
    refine wpAnyH_ready (rs := [8]) (by kernel_rfl) (by simp) ?_
    refine AllReadyH.cons rfl (fun K hK => ?_) AllReadyH.nil
    have hbK := hL.box
    refine step_append_none (by rfl) (.tmp 63) (.tmp 65) 27 (by rfl) _ _ (by rfl) (by rfl) (hap W6) ?_
    refine hK.out _ _ hS (fun _ => ?_)
    clear hK K
    simp only [List.getElem_toArray, List.getElem_cons_succ, List.getElem_cons_zero, Act.put, List.setIfInBounds_toArray, List.set_cons_zero, List.set_cons_succ]
    refine tkd (i := 9) (v := .pointer (some ⟨p.K, 0, none⟩) ) rfl rfl (by kernel_rfl) (by kernel_rfl) (by kernel_rfl) (fun _ _ _ h => h) (Or.inl ⟨by rfl, fun wq hSw => by skip; go_simp⟩) hS ?_
    simp only [List.setIfInBounds_toArray, List.set_cons_zero, List.set_cons_succ]
    refine tkd (i := 10) (v := .pointer (some ⟨p.K, 0, none⟩) ) rfl rfl (by kernel_rfl) (by kernel_rfl) (by kernel_rfl) (fun _ _ _ h => h) (Or.inl ⟨by rfl, fun wq hSw => by skip; go_simp⟩) hS ?_
    simp only [List.setIfInBounds_toArray, List.set_cons_zero, List.set_cons_succ]
    refine tkd (i := 11) (v := .pointer (some ⟨p.K, 0, none⟩) ) rfl rfl (by kernel_rfl) (by kernel_rfl) (by kernel_rfl) (fun _ _ _ h => h) (Or.inl ⟨by rfl, fun wq hSw => by skip; go_simp⟩) hS ?_
    simp only [List.setIfInBounds_toArray, List.set_cons_zero, List.set_cons_succ]
    have k0 := hbK.cell 0 rfl
    have kf := hbK.fz 0
    refine wpAnyH_ready (rs := [12]) (by kernel_rfl) (by simp) ?_
    refine AllReadyH.cons rfl (fun K hK => ?_) AllReadyH.nil
    go_simp
    refine hK.out _ _ (hbo.other (fun e => hKB e.symm) _) (fun _ => ?_)
    clear hK K k0 kf hbK hS
    replace hG : Below p.N w (W6.setCell ⟨p.K, 0, none⟩ (.slice (some ⟨g, 0, none⟩) s.code.length cap)) := hG.setCell hL.n1 _
    replace hL := hL.same
    replace hbo : BoxC (W6.setCell ⟨p.K, 0, none⟩ (.slice (some ⟨g, 0, none⟩) s.code.length cap)) B #[.string o.face.module, .slice a1 o.face.vars.length c1, .slice a2 o.face.procs.length c2, .slice a3 o.imports.length c3', .slice a4 o.code.length c4', .slice a5 o.relocs.length c5, .slice a6 o.procs.length c6, .slice a7 o.lows.length c7, .slice a8 o.highs.length c8, .int .i64 o.low, .int .i64 o.high, .int .i64 o.lowF, .int .i64 o.highF] 31 := hbo.other (fun e => hKB e.symm) _
    generalize W6.setCell ⟨p.K, 0, none⟩ (.slice (some ⟨g, 0, none⟩) s.code.length cap) = w8 at *
    refine wpAnyH_done (by kernel_rfl) ?_ _
    go_wp2
    refine wp_region_held_drew (S := fun W => BoxC W B #[.string o.face.module, .slice a1 o.face.vars.length c1, .slice a2 o.face.procs.length c2, .slice a3 o.imports.length c3', .slice a4 o.code.length c4', .slice a5 o.relocs.length c5, .slice a6 o.procs.length c6, .slice a7 o.lows.length c7, .slice a8 o.highs.length c8, .int .i64 o.low, .int .i64 o.high, .int .i64 o.lowF, .int .i64 o.highF] 31) (by kernel_rfl) (hbo.below (Below.refl _ _).drew) (fun hS => ?_)
    replace hL := hL.drew
    replace hbo := hbo.below (Below.refl _ _).drew
    replace hG := hG.drew
    generalize w8.drew = W8 at hL hbo hG hS ⊢
    refine tkd (i := 0) (v := .pointer (some ⟨p.K, 0, none⟩) ) rfl rfl (by kernel_rfl) (by kernel_rfl) (by kernel_rfl) (fun _ _ _ h => h) (Or.inl ⟨by rfl, fun wq hSw => by skip; go_simp⟩) hS ?_
    simp only [List.setIfInBounds_toArray, List.set_cons_zero, List.set_cons_succ]
    refine tkd (i := 1) (v := .pointer (some ⟨p.K, 0, none⟩) ) rfl rfl (by kernel_rfl) (by kernel_rfl) (by kernel_rfl) (fun _ _ _ h => h) (Or.inl ⟨by rfl, fun wq hSw => by skip; go_simp⟩) hS ?_
    simp only [List.setIfInBounds_toArray, List.set_cons_zero, List.set_cons_succ]
    refine tkd (i := 2) (v := .pointer (some ⟨p.K, 0, none⟩) ) rfl rfl (by kernel_rfl) (by kernel_rfl) (by kernel_rfl) (fun _ _ _ h => h) (Or.inl ⟨by rfl, fun wq hSw => by skip; go_simp⟩) hS ?_
    simp only [List.setIfInBounds_toArray, List.set_cons_zero, List.set_cons_succ]
    refine tkd (i := 3) (v := .pointer (some ⟨p.K, 1, none⟩) ) rfl rfl (by kernel_rfl) (by kernel_rfl) (by kernel_rfl) (fun _ _ _ h => h) (Or.inl ⟨by rfl, fun wq hSw => by skip; go_simp⟩) hS ?_
    simp only [List.setIfInBounds_toArray, List.set_cons_zero, List.set_cons_succ]
    refine tkd (i := 5) (v := .pointer (some ⟨B, 9, none⟩) ) rfl rfl (by kernel_rfl) (by kernel_rfl) (by kernel_rfl) (fun _ _ _ h => h) (Or.inl ⟨by rfl, fun wq hSw => by skip; go_simp⟩) hS ?_
    simp only [List.setIfInBounds_toArray, List.set_cons_zero, List.set_cons_succ]
    refine tkd (i := 6) (v := .int .i64 o.low ) rfl rfl (by kernel_rfl) (by kernel_rfl) (by kernel_rfl) (fun _ _ _ h => h) (Or.inl ⟨by rfl, fun wq hSw => by have m := hSw.cell 9 rfl; go_simp⟩) hS ?_
    simp only [List.setIfInBounds_toArray, List.set_cons_zero, List.set_cons_succ]
    have m1 : W8.cell? ⟨p.K, 1, none⟩ = some (.int .i64 s.low) := hL.lo
    refine wpAnyH_ready (rs := [4]) (by kernel_rfl) (by simp) ?_
    refine AllReadyH.cons rfl (fun K hK => ?_) AllReadyH.nil
    go_simp
    refine hK.out _ _ hS (fun _ => ?_)
    clear hK K
    have hwr : IntKind.i64.wrap (s.low + o.low) = s.low + o.low := by have := hk.low; have := hk.high; rw [IntKind.wrap_i64]; omega
    refine tkd (i := 7) (v := .int .i64 (s.low + o.low) ) rfl rfl (by kernel_rfl) (by kernel_rfl) (by kernel_rfl) (fun _ _ _ h => h) (Or.inl ⟨by rfl, fun wq hSw => by have m := hwr; go_simp⟩) hS ?_
    simp only [List.setIfInBounds_toArray, List.set_cons_zero, List.set_cons_succ]
    refine tkd (i := 8) (v := .pointer (some ⟨p.K, 0, none⟩) ) rfl rfl (by kernel_rfl) (by kernel_rfl) (by kernel_rfl) (fun _ _ _ h => h) (Or.inl ⟨by rfl, fun wq hSw => by skip; go_simp⟩) hS ?_
    simp only [List.setIfInBounds_toArray, List.set_cons_zero, List.set_cons_succ]
    refine tkd (i := 9) (v := .pointer (some ⟨p.K, 0, none⟩) ) rfl rfl (by kernel_rfl) (by kernel_rfl) (by kernel_rfl) (fun _ _ _ h => h) (Or.inl ⟨by rfl, fun wq hSw => by skip; go_simp⟩) hS ?_
    simp only [List.setIfInBounds_toArray, List.set_cons_zero, List.set_cons_succ]
    refine tkd (i := 10) (v := .pointer (some ⟨p.K, 1, none⟩) ) rfl rfl (by kernel_rfl) (by kernel_rfl) (by kernel_rfl) (fun _ _ _ h => h) (Or.inl ⟨by rfl, fun wq hSw => by skip; go_simp⟩) hS ?_
    simp only [List.setIfInBounds_toArray, List.set_cons_zero, List.set_cons_succ]
    have kf := hL.box.fz 1
    refine wpAnyH_ready (rs := [11]) (by kernel_rfl) (by simp) ?_
    refine AllReadyH.cons rfl (fun K hK => ?_) AllReadyH.nil
    go_simp
    refine hK.out _ _ (hbo.other (fun e => hKB e.symm) _) (fun _ => ?_)
    clear hK K kf m1 hS
    replace hG : Below p.N w (W8.setCell ⟨p.K, 1, none⟩ (.int .i64 (s.low + o.low))) := hG.setCell hL.n1 _
    replace hbo : BoxC (W8.setCell ⟨p.K, 1, none⟩ (.int .i64 (s.low + o.low))) B #[.string o.face.module, .slice a1 o.face.vars.length c1, .slice a2 o.face.procs.length c2, .slice a3 o.imports.length c3', .slice a4 o.code.length c4', .slice a5 o.relocs.length c5, .slice a6 o.procs.length c6, .slice a7 o.lows.length c7, .slice a8 o.highs.length c8, .int .i64 o.low, .int .i64 o.high, .int .i64 o.lowF, .int .i64 o.highF] 31 := hbo.other (fun e => hKB e.symm) _
    replace hL := hL.low' (s.low + o.low)
    generalize W8.setCell ⟨p.K, 1, none⟩ (.int .i64 (s.low + o.low)) = w9 at *
    refine wpAnyH_done (by kernel_rfl) ?_ _
    go_wp2
    refine wp_region_held_drew (S := fun W => BoxC W B #[.string o.face.module, .slice a1 o.face.vars.length c1, .slice a2 o.face.procs.length c2, .slice a3 o.imports.length c3', .slice a4 o.code.length c4', .slice a5 o.relocs.length c5, .slice a6 o.procs.length c6, .slice a7 o.lows.length c7, .slice a8 o.highs.length c8, .int .i64 o.low, .int .i64 o.high, .int .i64 o.lowF, .int .i64 o.highF] 31) (by kernel_rfl) (hbo.below (Below.refl _ _).drew) (fun hS => ?_)
    replace hL := hL.drew
    replace hbo := hbo.below (Below.refl _ _).drew
    replace hG := hG.drew
    generalize w9.drew = W9 at hL hbo hG hS ⊢
    refine tkd (i := 0) (v := .pointer (some ⟨p.K, 0, none⟩) ) rfl rfl (by kernel_rfl) (by kernel_rfl) (by kernel_rfl) (fun _ _ _ h => h) (Or.inl ⟨by rfl, fun wq hSw => by skip; go_simp⟩) hS ?_
    simp only [List.setIfInBounds_toArray, List.set_cons_zero, List.set_cons_succ]
    refine tkd (i := 1) (v := .pointer (some ⟨p.K, 0, none⟩) ) rfl rfl (by kernel_rfl) (by kernel_rfl) (by kernel_rfl) (fun _ _ _ h => h) (Or.inl ⟨by rfl, fun wq hSw => by skip; go_simp⟩) hS ?_
    simp only [List.setIfInBounds_toArray, List.set_cons_zero, List.set_cons_succ]
    refine tkd (i := 2) (v := .pointer (some ⟨p.K, 0, none⟩) ) rfl rfl (by kernel_rfl) (by kernel_rfl) (by kernel_rfl) (fun _ _ _ h => h) (Or.inl ⟨by rfl, fun wq hSw => by skip; go_simp⟩) hS ?_
    simp only [List.setIfInBounds_toArray, List.set_cons_zero, List.set_cons_succ]
    refine tkd (i := 3) (v := .pointer (some ⟨p.K, 2, none⟩) ) rfl rfl (by kernel_rfl) (by kernel_rfl) (by kernel_rfl) (fun _ _ _ h => h) (Or.inl ⟨by rfl, fun wq hSw => by skip; go_simp⟩) hS ?_
    simp only [List.setIfInBounds_toArray, List.set_cons_zero, List.set_cons_succ]
    refine tkd (i := 5) (v := .pointer (some ⟨B, 10, none⟩) ) rfl rfl (by kernel_rfl) (by kernel_rfl) (by kernel_rfl) (fun _ _ _ h => h) (Or.inl ⟨by rfl, fun wq hSw => by skip; go_simp⟩) hS ?_
    simp only [List.setIfInBounds_toArray, List.set_cons_zero, List.set_cons_succ]
    refine tkd (i := 6) (v := .int .i64 o.high ) rfl rfl (by kernel_rfl) (by kernel_rfl) (by kernel_rfl) (fun _ _ _ h => h) (Or.inl ⟨by rfl, fun wq hSw => by have m := hSw.cell 10 rfl; go_simp⟩) hS ?_
    simp only [List.setIfInBounds_toArray, List.set_cons_zero, List.set_cons_succ]
    have m1 : W9.cell? ⟨p.K, 2, none⟩ = some (.int .i64 s.high) := hL.hi
    refine wpAnyH_ready (rs := [4]) (by kernel_rfl) (by simp) ?_
    refine AllReadyH.cons rfl (fun K hK => ?_) AllReadyH.nil
    go_simp
    refine hK.out _ _ hS (fun _ => ?_)
    clear hK K
    have hwr : IntKind.i64.wrap (s.high + o.high) = s.high + o.high := by have := hk.low; have := hk.high; rw [IntKind.wrap_i64]; omega
    refine tkd (i := 7) (v := .int .i64 (s.high + o.high) ) rfl rfl (by kernel_rfl) (by kernel_rfl) (by kernel_rfl) (fun _ _ _ h => h) (Or.inl ⟨by rfl, fun wq hSw => by have m := hwr; go_simp⟩) hS ?_
    simp only [List.setIfInBounds_toArray, List.set_cons_zero, List.set_cons_succ]
    refine tkd (i := 8) (v := .pointer (some ⟨p.K, 0, none⟩) ) rfl rfl (by kernel_rfl) (by kernel_rfl) (by kernel_rfl) (fun _ _ _ h => h) (Or.inl ⟨by rfl, fun wq hSw => by skip; go_simp⟩) hS ?_
    simp only [List.setIfInBounds_toArray, List.set_cons_zero, List.set_cons_succ]
    refine tkd (i := 9) (v := .pointer (some ⟨p.K, 0, none⟩) ) rfl rfl (by kernel_rfl) (by kernel_rfl) (by kernel_rfl) (fun _ _ _ h => h) (Or.inl ⟨by rfl, fun wq hSw => by skip; go_simp⟩) hS ?_
    simp only [List.setIfInBounds_toArray, List.set_cons_zero, List.set_cons_succ]
    refine tkd (i := 10) (v := .pointer (some ⟨p.K, 2, none⟩) ) rfl rfl (by kernel_rfl) (by kernel_rfl) (by kernel_rfl) (fun _ _ _ h => h) (Or.inl ⟨by rfl, fun wq hSw => by skip; go_simp⟩) hS ?_
    simp only [List.setIfInBounds_toArray, List.set_cons_zero, List.set_cons_succ]
    have kf := hL.box.fz 2
    refine wpAnyH_ready (rs := [11]) (by kernel_rfl) (by simp) ?_
    refine AllReadyH.cons rfl (fun K hK => ?_) AllReadyH.nil
    go_simp
    refine hK.out _ _ (hbo.other (fun e => hKB e.symm) _) (fun _ => ?_)
    clear hK K kf m1 hS
    replace hG : Below p.N w (W9.setCell ⟨p.K, 2, none⟩ (.int .i64 (s.high + o.high))) := hG.setCell hL.n1 _
    replace hbo : BoxC (W9.setCell ⟨p.K, 2, none⟩ (.int .i64 (s.high + o.high))) B #[.string o.face.module, .slice a1 o.face.vars.length c1, .slice a2 o.face.procs.length c2, .slice a3 o.imports.length c3', .slice a4 o.code.length c4', .slice a5 o.relocs.length c5, .slice a6 o.procs.length c6, .slice a7 o.lows.length c7, .slice a8 o.highs.length c8, .int .i64 o.low, .int .i64 o.high, .int .i64 o.lowF, .int .i64 o.highF] 31 := hbo.other (fun e => hKB e.symm) _
    replace hL := hL.high' (s.high + o.high)
    generalize W9.setCell ⟨p.K, 2, none⟩ (.int .i64 (s.high + o.high)) = w10 at *
    refine wpAnyH_done (by kernel_rfl) ?_ _
    go_wp2
    go_end0
    refine ⟨rfl, hG, g, cap, nm + 1, nb + 1 + o.procs.length + o.lows.length + o.highs.length, ?_, by omega, by omega⟩
    unfold addF
    rw [HS.out]
    exact hL
  | cons i1 ir =>
  have hpos : 0 < o.code.length := by rw [hce]; simp
  clear hce
  obtain ⟨_, _, hcv, _, hcc⟩ := hcd
  simp only [Value.slice.injEq, true_and] at hcv
  obtain ⟨rfl, rfl⟩ := hcv
  obtain ⟨g4, o4, rfl, hcc2⟩ := hcc (by intro e; rw [e] at hpos; simp at hpos)
  refine wp_region_held_drew (S := fun W => BoxC W B #[.string o.face.module, .slice a1 o.face.vars.length c1, .slice a2 o.face.procs.length c2, .slice a3 o.imports.length c3', .slice (some ⟨g4, o4, none⟩) o.code.length c4', .slice a5 o.relocs.length c5, .slice a6 o.procs.length c6, .slice a7 o.lows.length c7, .slice a8 o.highs.length c8, .int .i64 o.low, .int .i64 o.high, .int .i64 o.lowF, .int .i64 o.highF] 31) (by kernel_rfl) (hbo.below (Below.refl _ _).drew) (fun hS => ?_)
  replace hL := hL.drew
  replace hbo := hbo.below (Below.refl _ _).drew
  replace hG := hG.drew
  generalize w6.drew = W6 at hL hbo hG hS ⊢
  refine tkd (i := 0) (v := .pointer (some ⟨p.K, 0, none⟩) ) rfl rfl (by kernel_rfl) (by kernel_rfl) (by kernel_rfl) (fun _ _ _ h => h) (Or.inl ⟨by rfl, fun wq hSw => by skip; go_simp⟩) hS ?_
  simp only [List.setIfInBounds_toArray, List.set_cons_zero, List.set_cons_succ]
  refine tkd (i := 1) (v := .pointer (some ⟨p.K, 0, none⟩) ) rfl rfl (by kernel_rfl) (by kernel_rfl) (by kernel_rfl) (fun _ _ _ h => h) (Or.inl ⟨by rfl, fun wq hSw => by skip; go_simp⟩) hS ?_
  simp only [List.setIfInBounds_toArray, List.set_cons_zero, List.set_cons_succ]
  refine tkd (i := 2) (v := .pointer (some ⟨p.K, 0, none⟩) ) rfl rfl (by kernel_rfl) (by kernel_rfl) (by kernel_rfl) (fun _ _ _ h => h) (Or.inl ⟨by rfl, fun wq hSw => by skip; go_simp⟩) hS ?_
  simp only [List.setIfInBounds_toArray, List.set_cons_zero, List.set_cons_succ]
  refine tkd (i := 3) (v := .pointer (some ⟨p.K, 0, none⟩) ) rfl rfl (by kernel_rfl) (by kernel_rfl) (by kernel_rfl) (fun _ _ _ h => h) (Or.inl ⟨by rfl, fun wq hSw => by skip; go_simp⟩) hS ?_
  simp only [List.setIfInBounds_toArray, List.set_cons_zero, List.set_cons_succ]
  refine tkd (i := 4) (v := .pointer (some ⟨p.K, 0, none⟩) ) rfl rfl (by kernel_rfl) (by kernel_rfl) (by kernel_rfl) (fun _ _ _ h => h) (Or.inl ⟨by rfl, fun wq hSw => by skip; go_simp⟩) hS ?_
  simp only [List.setIfInBounds_toArray, List.set_cons_zero, List.set_cons_succ]
  refine tkd (i := 6) (v := .pointer (some ⟨B, 4, none⟩) ) rfl rfl (by kernel_rfl) (by kernel_rfl) (by kernel_rfl) (fun _ _ _ h => h) (Or.inl ⟨by rfl, fun wq hSw => by skip; go_simp⟩) hS ?_
  simp only [List.setIfInBounds_toArray, List.set_cons_zero, List.set_cons_succ]
  refine tkd (i := 7) (v := .slice (some ⟨g4, o4, none⟩) o.code.length c4' ) rfl rfl (by kernel_rfl) (by kernel_rfl) (by kernel_rfl) (fun _ _ _ h => h) (Or.inl ⟨by rfl, fun wq hSw => by have m := hSw.cell 4 rfl; go_simp⟩) hS ?_
  simp only [List.setIfInBounds_toArray, List.set_cons_zero, List.set_cons_succ]
  have m0 := hL.cod
  refine wpAnyH_ready (rs := [5]) (by kernel_rfl) (by simp) ?_
  refine AllReadyH.cons rfl (fun K hK => ?_) AllReadyH.nil
  go_simp
  refine hK.out _ _ hS (fun _ => ?_)
  clear hK K
  refine wpAnyH_ready (rs := [8]) (by kernel_rfl) (by simp) ?_
  refine AllReadyH.cons rfl (fun K hK => ?_) AllReadyH.nil
  have hB7 : Below w0.heap.size w0 W6 := by rw [hN]; exact hB.trans hG
  have hnews := code_news (w := W6) (g := g4) (o := o4) (l := o.code) (fun i hi => ⟨keep (hcc2 i hi).1 hB7, keep (hcc2 i hi).2.1 hB7, keep (hcc2 i hi).2.2.1 hB7, keep (hcc2 i hi).2.2.2.1 hB7, keep (hcc2 i hi).2.2.2.2 hB7⟩)
  have hkc := hk.code
  refine step_append_lies _ (by rfl) (.tmp 63) (.tmp 65) 27 (by rfl) p.N 64 i0 (.agg #[.int .i64 0, .int .i64 0, .int .i64 0, .int .i64 0, .int .i64 0]) 5 40 Tryz.underlying27 hi0 hz0 hz1 hz2 rfl (by decide) (.slice (some ⟨g, 0, none⟩) s.code.length cap) s.code.length (s.code.flatMap insC) (by rfl) hL.row ⟨g4, o4, none⟩ o.code.length _ (o.code.flatMap insC) (by rfl) (flat5_len _) hnews (code_one _) hpos (by unfold maxLen; omega) (by omega) (by have := hL.n1; have := hL.box.lt; omega) _ rfl ?_
  intro g5 cap5 w7 hown7 hgrow7 hat7 hlt7
  have hL7 := hL.code' hown7 hgrow7 hat7
  have hbK := hL.box.grown hgrow7 hL.r1
  have hb7 : BoxC w7 B #[.string o.face.module, .slice a1 o.face.vars.length c1, .slice a2 o.face.procs.length c2, .slice a3 o.imports.length c3', .slice (some ⟨g4, o4, none⟩) o.code.length c4', .slice a5 o.relocs.length c5, .slice a6 o.procs.length c6, .slice a7 o.lows.length c7, .slice a8 o.highs.length c8, .int .i64 o.low, .int .i64 o.high, .int .i64 o.lowF, .int .i64 o.highF] 31 := hbo.grown hgrow7 (fun e => by have := hlt.2.2.2 _ e; omega)
  have hG7 : Below p.N w w7 := hG.grown hgrow7 (by have := hG.size; omega) (fun k e => (hL.row.lt k e).1)
  refine hK.out _ _ hb7 (fun _ => ?_)
  clear hK K hown7 hgrow7 hat7 hnews hS
  have hS := hb7
  simp only [List.getElem_toArray, List.getElem_cons_succ, List.getElem_cons_zero, Act.put, List.setIfInBounds_toArray, List.set_cons_zero, List.set_cons_succ]
  refine tkd (i := 9) (v := .pointer (some ⟨p.K, 0, none⟩) ) rfl rfl (by kernel_rfl) (by kernel_rfl) (by kernel_rfl) (fun _ _ _ h => h) (Or.inl ⟨by rfl, fun wq hSw => by skip; go_simp⟩) hS ?_
  simp only [List.setIfInBounds_toArray, List.set_cons_zero, List.set_cons_succ]
  refine tkd (i := 10) (v := .pointer (some ⟨p.K, 0, none⟩) ) rfl rfl (by kernel_rfl) (by kernel_rfl) (by kernel_rfl) (fun _ _ _ h => h) (Or.inl ⟨by rfl, fun wq hSw => by skip; go_simp⟩) hS ?_
  simp only [List.setIfInBounds_toArray, List.set_cons_zero, List.set_cons_succ]
  refine tkd (i := 11) (v := .pointer (some ⟨p.K, 0, none⟩) ) rfl rfl (by kernel_rfl) (by kernel_rfl) (by kernel_rfl) (fun _ _ _ h => h) (Or.inl ⟨by rfl, fun wq hSw => by skip; go_simp⟩) hS ?_
  simp only [List.setIfInBounds_toArray, List.set_cons_zero, List.set_cons_succ]
  have k0 := hbK.cell 0 rfl
  have kf := hbK.fz 0
  refine wpAnyH_ready (rs := [12]) (by kernel_rfl) (by simp) ?_
  refine AllReadyH.cons rfl (fun K hK => ?_) AllReadyH.nil
  go_simp
  refine hK.out _ _ (hb7.other (fun e => hKB e.symm) _) (fun _ => ?_)
  clear hK K k0 kf hbK hS
  replace hL := hL7
  replace hbo : BoxC (w7.setCell ⟨p.K, 0, none⟩ (.slice (some ⟨g5, 0, none⟩) (s.code.length + o.code.length) cap5)) B #[.string o.face.module, .slice a1 o.face.vars.length c1, .slice a2 o.face.procs.length c2, .slice a3 o.imports.length c3', .slice (some ⟨g4, o4, none⟩) o.code.length c4', .slice a5 o.relocs.length c5, .slice a6 o.procs.length c6, .slice a7 o.lows.length c7, .slice a8 o.highs.length c8, .int .i64 o.low, .int .i64 o.high, .int .i64 o.lowF, .int .i64 o.highF] 31 := hb7.other (fun e => hKB e.symm) _
  replace hG : Below p.N w (w7.setCell ⟨p.K, 0, none⟩ (.slice (some ⟨g5, 0, none⟩) (s.code.length + o.code.length) cap5)) := hG7.setCell hL7.n1 _
  clear hL7 hb7 hG7
  generalize w7.setCell ⟨p.K, 0, none⟩ (.slice (some ⟨g5, 0, none⟩) (s.code.length + o.code.length) cap5) = w8 at *
  refine wpAnyH_done (by kernel_rfl) ?_ _
  go_wp2
  refine wp_region_held_drew (S := fun W => BoxC W B #[.string o.face.module, .slice a1 o.face.vars.length c1, .slice a2 o.face.procs.length c2, .slice a3 o.imports.length c3', .slice (some ⟨g4, o4, none⟩) o.code.length c4', .slice a5 o.relocs.length c5, .slice a6 o.procs.length c6, .slice a7 o.lows.length c7, .slice a8 o.highs.length c8, .int .i64 o.low, .int .i64 o.high, .int .i64 o.lowF, .int .i64 o.highF] 31) (by kernel_rfl) (hbo.below (Below.refl _ _).drew) (fun hS => ?_)
  replace hL := hL.drew
  replace hbo := hbo.below (Below.refl _ _).drew
  replace hG := hG.drew
  generalize w8.drew = W8 at hL hbo hG hS ⊢
  refine tkd (i := 0) (v := .pointer (some ⟨p.K, 0, none⟩) ) rfl rfl (by kernel_rfl) (by kernel_rfl) (by kernel_rfl) (fun _ _ _ h => h) (Or.inl ⟨by rfl, fun wq hSw => by skip; go_simp⟩) hS ?_
  simp only [List.setIfInBounds_toArray, List.set_cons_zero, List.set_cons_succ]
  refine tkd (i := 1) (v := .pointer (some ⟨p.K, 0, none⟩) ) rfl rfl (by kernel_rfl) (by kernel_rfl) (by kernel_rfl) (fun _ _ _ h => h) (Or.inl ⟨by rfl, fun wq hSw => by skip; go_simp⟩) hS ?_
  simp only [List.setIfInBounds_toArray, List.set_cons_zero, List.set_cons_succ]
  refine tkd (i := 2) (v := .pointer (some ⟨p.K, 0, none⟩) ) rfl rfl (by kernel_rfl) (by kernel_rfl) (by kernel_rfl) (fun _ _ _ h => h) (Or.inl ⟨by rfl, fun wq hSw => by skip; go_simp⟩) hS ?_
  simp only [List.setIfInBounds_toArray, List.set_cons_zero, List.set_cons_succ]
  refine tkd (i := 3) (v := .pointer (some ⟨p.K, 1, none⟩) ) rfl rfl (by kernel_rfl) (by kernel_rfl) (by kernel_rfl) (fun _ _ _ h => h) (Or.inl ⟨by rfl, fun wq hSw => by skip; go_simp⟩) hS ?_
  simp only [List.setIfInBounds_toArray, List.set_cons_zero, List.set_cons_succ]
  refine tkd (i := 5) (v := .pointer (some ⟨B, 9, none⟩) ) rfl rfl (by kernel_rfl) (by kernel_rfl) (by kernel_rfl) (fun _ _ _ h => h) (Or.inl ⟨by rfl, fun wq hSw => by skip; go_simp⟩) hS ?_
  simp only [List.setIfInBounds_toArray, List.set_cons_zero, List.set_cons_succ]
  refine tkd (i := 6) (v := .int .i64 o.low ) rfl rfl (by kernel_rfl) (by kernel_rfl) (by kernel_rfl) (fun _ _ _ h => h) (Or.inl ⟨by rfl, fun wq hSw => by have m := hSw.cell 9 rfl; go_simp⟩) hS ?_
  simp only [List.setIfInBounds_toArray, List.set_cons_zero, List.set_cons_succ]
  have m1 : W8.cell? ⟨p.K, 1, none⟩ = some (.int .i64 s.low) := hL.lo
  refine wpAnyH_ready (rs := [4]) (by kernel_rfl) (by simp) ?_
  refine AllReadyH.cons rfl (fun K hK => ?_) AllReadyH.nil
  go_simp
  refine hK.out _ _ hS (fun _ => ?_)
  clear hK K
  have hwr : IntKind.i64.wrap (s.low + o.low) = s.low + o.low := by have := hk.low; have := hk.high; rw [IntKind.wrap_i64]; omega
  refine tkd (i := 7) (v := .int .i64 (s.low + o.low) ) rfl rfl (by kernel_rfl) (by kernel_rfl) (by kernel_rfl) (fun _ _ _ h => h) (Or.inl ⟨by rfl, fun wq hSw => by have m := hwr; go_simp⟩) hS ?_
  simp only [List.setIfInBounds_toArray, List.set_cons_zero, List.set_cons_succ]
  refine tkd (i := 8) (v := .pointer (some ⟨p.K, 0, none⟩) ) rfl rfl (by kernel_rfl) (by kernel_rfl) (by kernel_rfl) (fun _ _ _ h => h) (Or.inl ⟨by rfl, fun wq hSw => by skip; go_simp⟩) hS ?_
  simp only [List.setIfInBounds_toArray, List.set_cons_zero, List.set_cons_succ]
  refine tkd (i := 9) (v := .pointer (some ⟨p.K, 0, none⟩) ) rfl rfl (by kernel_rfl) (by kernel_rfl) (by kernel_rfl) (fun _ _ _ h => h) (Or.inl ⟨by rfl, fun wq hSw => by skip; go_simp⟩) hS ?_
  simp only [List.setIfInBounds_toArray, List.set_cons_zero, List.set_cons_succ]
  refine tkd (i := 10) (v := .pointer (some ⟨p.K, 1, none⟩) ) rfl rfl (by kernel_rfl) (by kernel_rfl) (by kernel_rfl) (fun _ _ _ h => h) (Or.inl ⟨by rfl, fun wq hSw => by skip; go_simp⟩) hS ?_
  simp only [List.setIfInBounds_toArray, List.set_cons_zero, List.set_cons_succ]
  have kf := hL.box.fz 1
  refine wpAnyH_ready (rs := [11]) (by kernel_rfl) (by simp) ?_
  refine AllReadyH.cons rfl (fun K hK => ?_) AllReadyH.nil
  go_simp
  refine hK.out _ _ (hbo.other (fun e => hKB e.symm) _) (fun _ => ?_)
  clear hK K kf m1 hS
  replace hG : Below p.N w (W8.setCell ⟨p.K, 1, none⟩ (.int .i64 (s.low + o.low))) := hG.setCell hL.n1 _
  replace hbo : BoxC (W8.setCell ⟨p.K, 1, none⟩ (.int .i64 (s.low + o.low))) B #[.string o.face.module, .slice a1 o.face.vars.length c1, .slice a2 o.face.procs.length c2, .slice a3 o.imports.length c3', .slice (some ⟨g4, o4, none⟩) o.code.length c4', .slice a5 o.relocs.length c5, .slice a6 o.procs.length c6, .slice a7 o.lows.length c7, .slice a8 o.highs.length c8, .int .i64 o.low, .int .i64 o.high, .int .i64 o.lowF, .int .i64 o.highF] 31 := hbo.other (fun e => hKB e.symm) _
  replace hL := hL.low' (s.low + o.low)
  generalize W8.setCell ⟨p.K, 1, none⟩ (.int .i64 (s.low + o.low)) = w9 at *
  refine wpAnyH_done (by kernel_rfl) ?_ _
  go_wp2
  refine wp_region_held_drew (S := fun W => BoxC W B #[.string o.face.module, .slice a1 o.face.vars.length c1, .slice a2 o.face.procs.length c2, .slice a3 o.imports.length c3', .slice (some ⟨g4, o4, none⟩) o.code.length c4', .slice a5 o.relocs.length c5, .slice a6 o.procs.length c6, .slice a7 o.lows.length c7, .slice a8 o.highs.length c8, .int .i64 o.low, .int .i64 o.high, .int .i64 o.lowF, .int .i64 o.highF] 31) (by kernel_rfl) (hbo.below (Below.refl _ _).drew) (fun hS => ?_)
  replace hL := hL.drew
  replace hbo := hbo.below (Below.refl _ _).drew
  replace hG := hG.drew
  generalize w9.drew = W9 at hL hbo hG hS ⊢
  refine tkd (i := 0) (v := .pointer (some ⟨p.K, 0, none⟩) ) rfl rfl (by kernel_rfl) (by kernel_rfl) (by kernel_rfl) (fun _ _ _ h => h) (Or.inl ⟨by rfl, fun wq hSw => by skip; go_simp⟩) hS ?_
  simp only [List.setIfInBounds_toArray, List.set_cons_zero, List.set_cons_succ]
  refine tkd (i := 1) (v := .pointer (some ⟨p.K, 0, none⟩) ) rfl rfl (by kernel_rfl) (by kernel_rfl) (by kernel_rfl) (fun _ _ _ h => h) (Or.inl ⟨by rfl, fun wq hSw => by skip; go_simp⟩) hS ?_
  simp only [List.setIfInBounds_toArray, List.set_cons_zero, List.set_cons_succ]
  refine tkd (i := 2) (v := .pointer (some ⟨p.K, 0, none⟩) ) rfl rfl (by kernel_rfl) (by kernel_rfl) (by kernel_rfl) (fun _ _ _ h => h) (Or.inl ⟨by rfl, fun wq hSw => by skip; go_simp⟩) hS ?_
  simp only [List.setIfInBounds_toArray, List.set_cons_zero, List.set_cons_succ]
  refine tkd (i := 3) (v := .pointer (some ⟨p.K, 2, none⟩) ) rfl rfl (by kernel_rfl) (by kernel_rfl) (by kernel_rfl) (fun _ _ _ h => h) (Or.inl ⟨by rfl, fun wq hSw => by skip; go_simp⟩) hS ?_
  simp only [List.setIfInBounds_toArray, List.set_cons_zero, List.set_cons_succ]
  refine tkd (i := 5) (v := .pointer (some ⟨B, 10, none⟩) ) rfl rfl (by kernel_rfl) (by kernel_rfl) (by kernel_rfl) (fun _ _ _ h => h) (Or.inl ⟨by rfl, fun wq hSw => by skip; go_simp⟩) hS ?_
  simp only [List.setIfInBounds_toArray, List.set_cons_zero, List.set_cons_succ]
  refine tkd (i := 6) (v := .int .i64 o.high ) rfl rfl (by kernel_rfl) (by kernel_rfl) (by kernel_rfl) (fun _ _ _ h => h) (Or.inl ⟨by rfl, fun wq hSw => by have m := hSw.cell 10 rfl; go_simp⟩) hS ?_
  simp only [List.setIfInBounds_toArray, List.set_cons_zero, List.set_cons_succ]
  have m1 : W9.cell? ⟨p.K, 2, none⟩ = some (.int .i64 s.high) := hL.hi
  refine wpAnyH_ready (rs := [4]) (by kernel_rfl) (by simp) ?_
  refine AllReadyH.cons rfl (fun K hK => ?_) AllReadyH.nil
  go_simp
  refine hK.out _ _ hS (fun _ => ?_)
  clear hK K
  have hwr : IntKind.i64.wrap (s.high + o.high) = s.high + o.high := by have := hk.low; have := hk.high; rw [IntKind.wrap_i64]; omega
  refine tkd (i := 7) (v := .int .i64 (s.high + o.high) ) rfl rfl (by kernel_rfl) (by kernel_rfl) (by kernel_rfl) (fun _ _ _ h => h) (Or.inl ⟨by rfl, fun wq hSw => by have m := hwr; go_simp⟩) hS ?_
  simp only [List.setIfInBounds_toArray, List.set_cons_zero, List.set_cons_succ]
  refine tkd (i := 8) (v := .pointer (some ⟨p.K, 0, none⟩) ) rfl rfl (by kernel_rfl) (by kernel_rfl) (by kernel_rfl) (fun _ _ _ h => h) (Or.inl ⟨by rfl, fun wq hSw => by skip; go_simp⟩) hS ?_
  simp only [List.setIfInBounds_toArray, List.set_cons_zero, List.set_cons_succ]
  refine tkd (i := 9) (v := .pointer (some ⟨p.K, 0, none⟩) ) rfl rfl (by kernel_rfl) (by kernel_rfl) (by kernel_rfl) (fun _ _ _ h => h) (Or.inl ⟨by rfl, fun wq hSw => by skip; go_simp⟩) hS ?_
  simp only [List.setIfInBounds_toArray, List.set_cons_zero, List.set_cons_succ]
  refine tkd (i := 10) (v := .pointer (some ⟨p.K, 2, none⟩) ) rfl rfl (by kernel_rfl) (by kernel_rfl) (by kernel_rfl) (fun _ _ _ h => h) (Or.inl ⟨by rfl, fun wq hSw => by skip; go_simp⟩) hS ?_
  simp only [List.setIfInBounds_toArray, List.set_cons_zero, List.set_cons_succ]
  have kf := hL.box.fz 2
  refine wpAnyH_ready (rs := [11]) (by kernel_rfl) (by simp) ?_
  refine AllReadyH.cons rfl (fun K hK => ?_) AllReadyH.nil
  go_simp
  refine hK.out _ _ (hbo.other (fun e => hKB e.symm) _) (fun _ => ?_)
  clear hK K kf m1 hS
  replace hG : Below p.N w (W9.setCell ⟨p.K, 2, none⟩ (.int .i64 (s.high + o.high))) := hG.setCell hL.n1 _
  replace hbo : BoxC (W9.setCell ⟨p.K, 2, none⟩ (.int .i64 (s.high + o.high))) B #[.string o.face.module, .slice a1 o.face.vars.length c1, .slice a2 o.face.procs.length c2, .slice a3 o.imports.length c3', .slice (some ⟨g4, o4, none⟩) o.code.length c4', .slice a5 o.relocs.length c5, .slice a6 o.procs.length c6, .slice a7 o.lows.length c7, .slice a8 o.highs.length c8, .int .i64 o.low, .int .i64 o.high, .int .i64 o.lowF, .int .i64 o.highF] 31 := hbo.other (fun e => hKB e.symm) _
  replace hL := hL.high' (s.high + o.high)
  generalize W9.setCell ⟨p.K, 2, none⟩ (.int .i64 (s.high + o.high)) = w10 at *
  refine wpAnyH_done (by kernel_rfl) ?_ _
  go_wp2
  go_end0
  refine ⟨rfl, hG, g5, cap5, nm + 1, nb + 1 + o.procs.length + o.lows.length + o.highs.length, ?_, by omega, by omega⟩
  unfold addF
  rw [show (s.code ++ o.code).length = s.code.length + o.code.length from List.length_append]
  exact hL
end Go.Proofs.YtaiocbbcjdpjgaaGreatDoor.lnk
