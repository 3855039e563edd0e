/- The reference's Link: its state in memory; orders that are appended; an order's number that turns. -/
import Derived.Test.YtaiocbbcjdpjgaaGreatDoorLMLnkRefD
namespace Go.Proofs.YtaiocbbcjdpjgaaGreatDoor.lnk
open Go.RowKit
open Go.Proofs.YtaiocbbcjdpjgaaGreatDoor.syn (isName eqS)
open Go.Proofs.YtaiocbbcjdpjgaaGreatDoor.mac (BoxC Ins grown_of_below hasB goB)
open Go.Proofs.YtaiocbbcjdpjgaaGreatDoor.obj (ObjD PlcD RelD Vals ObjAt PlcsIn RelsIn CodeIn FacesIn objV relV mayO ordR fR regR)
open Go.Proofs.YtaiocbbcjdpjgaaGreatDoor.face (VarD ProcD FaceD FaceIn keep VarsIn ProcsIn IntsIn)
set_option linter.unusedVariables false
set_option linter.unusedSimpArgs false
set_option maxRecDepth 100000
/-- the answer's boxes as they were made; the image's box M; its row -/
structure RL (w wr : World) (M g n cap : Nat) (lo hi : Int) (c : List Ins) : Prop where
  to : Below w.heap.size w wr
  bI : BoxC wr w.heap.size #[.slice none 0 0, .int .i64 0, .int .i64 0] 44
  bT : BoxC wr (w.heap.size + 1) #[.int .i64 0, .int .i64 0, .int .i64 0] 46
  bM : BoxC wr M #[.slice (some ⟨g, 0, none⟩) n cap, .int .i64 lo, .int .i64 hi] 44
  row : wr.ownsRow (w.heap.size + 2) 64 5 (.slice (some ⟨g, 0, none⟩) n cap) n (c.flatMap insC)
  len : n = c.length
  gM : g ≠ M
  m2 : w.heap.size + 2 ≤ M
section
variable {w wr w2 : World} {M g n cap : Nat} {lo hi : Int} {c : List Ins}
theorem RL.g2 (h : RL w wr M g n cap lo hi c) : w.heap.size + 2 ≤ g ∧ g < wr.heap.size := h.row.lt g rfl
theorem RL.below (h : RL w wr M g n cap lo hi c) (hb : Below wr.heap.size wr w2) : RL w w2 M g n cap lo hi c :=
  { h with to := h.to.trans (hb.mono h.to.size), bI := h.bI.below hb, bT := h.bT.below hb, bM := h.bM.below hb, row := h.row.kept (grown_of_below hb) (.inr (by simp [Value.ownBlock])) }
theorem RL.alloc (h : RL w wr M g n cap lo hi c) (o : Obj) : RL w (wr.alloc o) M g n cap lo hi c := h.below ((Below.refl _ _).alloc (Nat.le_refl _) o)
theorem RL.cell (h : RL w wr M g n cap lo hi c) {i j : Nat} (hi : i < n) (hj : j < 5) {v : Value} (hv : (insC (c[i]'(by rw [← h.len]; exact hi)))[j]? = some v) : wr.cell? ⟨g, i * 5 + j, none⟩ = some v := by
  rw [h.row.cellAt (i * 5 + j) (by omega), flat5_at _ _ (by rw [← h.len]; exact hi) j hj]
  exact hv
/-- an order's number turns -/
theorem RL.setN (h : RL w wr M g n cap lo hi c) {i : Nat} (hi' : i < n) (v : Int) : RL w (wr.setCell ⟨g, i * 5 + 4, none⟩ (.int .i64 v)) M g n cap lo hi (lnk.setN c i v) := by
  have hg := mac.grown_set wr g (i * 5 + 4) (.int .i64 v)
  have h2 := h.g2
  have hrow := own_set h.row (i * 5 + 4) (by omega) (.int .i64 v)
  rw [setN_flat _ _ _ (by rw [← h.len]; exact hi')] at hrow
  exact { h with to := h.to.setCell (p := ⟨g, i * 5 + 4, none⟩) (by show w.heap.size ≤ g; omega) _, bI := h.bI.grown hg (fun e => by have := Option.some.inj e; omega), bT := h.bT.grown hg (fun e => by have := Option.some.inj e; omega), bM := h.bM.grown hg (fun e => h.gM (Option.some.inj e)), row := hrow, len := by rw [setN_len]; exact h.len }
/-- more orders, stored -/
theorem RL.more (h : RL w wr M g n cap lo hi c) {c2 : List Ins} {g5 cap5 : Nat} (hown : w2.ownsRow (w.heap.size + 2) 64 5 (.slice (some ⟨g5, 0, none⟩) (n + c2.length) cap5) (n + c2.length) ((c ++ c2).flatMap insC)) (hg : wr.grownBy w2 (some g)) (hat : g5 = g ∨ g5 = wr.heap.size) :
    RL w (w2.setCell ⟨M, 0, none⟩ (.slice (some ⟨g5, 0, none⟩) (n + c2.length) cap5)) M g5 (n + c2.length) cap5 lo hi (c ++ c2) := by
  have h2 := h.g2
  have hM := h.bM.lt
  have hm := h.m2
  have hw := h.to.size
  have hne : g5 ≠ M := by
    rcases hat with e | e
    · rw [e]; exact h.gM
    · omega
  have hB := h.to.grown hg (by omega) (fun k e => by cases e; omega)
  have hs := mac.grown_set w2 M 0 (.slice (some ⟨g5, 0, none⟩) (n + c2.length) cap5)
  have bM2 := (h.bM.grown hg (fun e => h.gM (Option.some.inj e))).set 0 (.slice (some ⟨g5, 0, none⟩) (n + c2.length) cap5)
  refine ⟨hB.setCell (p := ⟨M, 0, none⟩) (by show w.heap.size ≤ M; omega) _, (h.bI.grown hg (fun e => by have := Option.some.inj e; omega)).grown hs (fun e => by have := Option.some.inj e; omega), (h.bT.grown hg (fun e => by have := Option.some.inj e; omega)).grown hs (fun e => by have := Option.some.inj e; omega), by simpa using bM2, ?_, by rw [List.length_append, h.len], hne, hm⟩
  exact hown.kept hs (.inr (by simp [Value.ownBlock]; exact hne))
theorem RL.setLo (h : RL w wr M g n cap lo hi c) (v : Int) : RL w (wr.setCell ⟨M, 1, none⟩ (.int .i64 v)) M g n cap v hi c := by
  have hs := mac.grown_set wr M 1 (.int .i64 v)
  have hm := h.m2
  have bM2 := h.bM.set 1 (.int .i64 v)
  exact { h with to := h.to.setCell (p := ⟨M, 1, none⟩) (by show w.heap.size ≤ M; omega) _, bI := h.bI.grown hs (fun e => by have := Option.some.inj e; omega), bT := h.bT.grown hs (fun e => by have := Option.some.inj e; omega), bM := by simpa using bM2, row := h.row.kept hs (.inr (by simp [Value.ownBlock]; exact h.gM)) }
theorem RL.setHi (h : RL w wr M g n cap lo hi c) (v : Int) : RL w (wr.setCell ⟨M, 2, none⟩ (.int .i64 v)) M g n cap lo v c := by
  have hs := mac.grown_set wr M 2 (.int .i64 v)
  have hm := h.m2
  have bM2 := h.bM.set 2 (.int .i64 v)
  exact { h with to := h.to.setCell (p := ⟨M, 2, none⟩) (by show w.heap.size ≤ M; omega) _, bI := h.bI.grown hs (fun e => by have := Option.some.inj e; omega), bT := h.bT.grown hs (fun e => by have := Option.some.inj e; omega), bM := by simpa using bM2, row := h.row.kept hs (.inr (by simp [Value.ownBlock]; exact h.gM)) }
end
/-- orders are appended, or none -/
theorem step_append_code {w : World} {ops : Array Oper} {o : Oper} {a : Act} {K : Act → World → Prop} {Q : Exit → Act → World → Prop} {E : Prop} (hgd : o.guard = none) (s x : Operand)
    (ho : o.op = .call { callee := .builtin .append, args := #[s, x], argTypes := #[27, 27] }) {N g n cap : Nat} {l c2 : List Ins} {av : Option Addr} {cc : Nat} (hs : a.eval s = .slice (some ⟨g, 0, none⟩) n cap)
    (hown : w.ownsRow N 64 5 (.slice (some ⟨g, 0, none⟩) n cap) n (l.flatMap insC)) (hx : a.eval x = .slice av c2.length cc) (hc : CodeIn w (.slice av c2.length cc) c2) (h63 : n + c2.length ≤ 1000000) (hbase : N ≤ w.heap.size)
    (h : ∀ g5 cap5 w7, w7.ownsRow N 64 5 (.slice (some ⟨g5, 0, none⟩) (n + c2.length) cap5) (n + c2.length) ((l ++ c2).flatMap insC) → w.grownBy w7 (some g) → (g5 = g ∨ g5 = w.heap.size) → K (a.put o.dst (.slice (some ⟨g5, 0, none⟩) (n + c2.length) cap5)) w7) :
    if Region.wanted o (yielded ops a.tmps) = true then Oper.wp Tryz.prog o a w K Q else E := by
  obtain ⟨i0, hi0, hz0, hz1, hz2⟩ := info_of infoI
  have hcap : n ≤ cap := by
    rcases hown.2 with ⟨e, _⟩ | ⟨g', cap', cur, e, _, _, e2, _⟩
    · cases e
    · cases e
      exact e2
  cases hce : c2 with
  | nil =>
    subst hce
    refine step_append_none hgd s x 27 ho _ _ hs hx (fun ty => ?_) ?_
    · exact run_append_none w _ _ _ i0 Tryz.underlying27 hi0 g _ cap hcap av cc
    · have := h g cap w (by rw [List.append_nil]; exact hown) ⟨rfl, rfl, rfl, Nat.le_refl _, fun _ _ _ => rfl⟩ (.inl rfl)
      exact this
  | cons y r =>
    obtain ⟨av', cc', e1, hl, hcc⟩ := hc
    cases e1
    obtain ⟨g4, o4, rfl, hcc2⟩ := hcc (by rw [hce]; simp)
    have hpos : 0 < c2.length := by rw [hce]; simp
    refine step_append_lies _ hgd s x 27 ho N 64 i0 (.agg #[.int .i64 0, .int .i64 0, .int .i64 0, .int .i64 0, .int .i64 0]) 5 40 Tryz.underlying27 hi0 hz0 hz1 hz2 rfl (by decide) _ n (l.flatMap insC) hs hown ⟨g4, o4, none⟩ c2.length _ (c2.flatMap insC) hx (flat5_len _) (code_news hcc2) (code_one _) hpos (by unfold maxLen; omega) (by omega) hbase _ rfl ?_
    intro g5 cap5 w7 hown7 hgrow7 hat7 hlt7
    refine h g5 cap5 w7 (by rw [List.flatMap_append]; exact hown7) hgrow7 ?_
    rcases hat7 with e | e
    · left; simpa [Value.ownBlock] using e.symm
    · exact .inr e
theorem ord_among (i : Ins) (many : Int) : ordR i many = amongB i many := by
  have h0 := obj.insR_is i
  unfold obj.insR at h0
  unfold amongB
  rw [← h0]
  unfold ordR goB
  obtain ⟨op, a, b, c, n⟩ := i
  dsimp only
  by_cases hg : op = 8 ∨ op = 9 ∨ op = 11
  · simp only [if_pos hg]
    have hn : (fR op).2.1 = true := by rcases hg with rfl | rfl | rfl <;> rfl
    have hgb : (decide (op = 8) || decide (op = 9) || decide (op = 11)) = true := by rcases hg with rfl | rfl | rfl <;> rfl
    rw [hn, hgb]
    simp [Bool.and_assoc]
  · simp only [if_neg hg]
    have hgb : (decide (op = 8) || decide (op = 9) || decide (op = 11)) = false := by
      simp only [Bool.or_eq_false_iff, decide_eq_false_iff_not]
      omega
    rw [hgb]
    simp
end Go.Proofs.YtaiocbbcjdpjgaaGreatDoor.lnk
