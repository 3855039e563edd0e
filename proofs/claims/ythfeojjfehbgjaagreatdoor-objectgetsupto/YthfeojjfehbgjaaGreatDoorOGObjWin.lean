/- What was read lies in new memory: a window of blocks; rows that grow with items whose own rows lie beside. Items of lists that are read: how each lies, what a row of them is; how much is eaten. -/
import Derived.Test.YthfeojjfehbgjaaGreatDoorOGObjRd
import Derived.Test.YthfeojjfehbgjaaGreatDoorOGObjMem
namespace Go.Proofs.YthfeojjfehbgjaaGreatDoor.obj
open Go.RowKit
open Go.Proofs.YthfeojjfehbgjaaGreatDoor.mac (BoxC grown_of_below Ins)
open Go.Proofs.YthfeojjfehbgjaaGreatDoor.face (VarD ProcD FaceD IntsIn VarsIn ProcsIn varV procV)
set_option linter.unusedVariables false
set_option linter.unusedSimpArgs false
theorem Fr.grown {D : Nat} {w w' : World} (h : Fr D nilV nilV w w') : w.grownBy w' (some D) := ⟨h.os, h.tape, h.output, h.size, fun k hk hne => h.block k hk (fun e => hne (by rw [e])) (by simp [nilV, Value.ownBlock])⟩
/-- a world of which only some blocks are seen -/
def win (w : World) (N M : Nat) : World := { w with heap := w.heap.mapIdx fun i o => if decide (N ≤ i) && decide (i < M) then o else .cells #[] 0 (0, 0) }
theorem win_block {w : World} {N M b : Nat} (h1 : N ≤ b) (h2 : b < M) : (win w N M).heap[b]? = w.heap[b]? := by
  simp [win, h1, h2]
theorem win_cell {w : World} {N M : Nat} {a : Addr} {v : Value} (h : (win w N M).cell? a = some v) : N ≤ a.block ∧ a.block < M ∧ w.cell? a = some v := by
  by_cases hq : N ≤ a.block ∧ a.block < M
  · exact ⟨hq.1, hq.2, by rw [← World.cell?_of_block (win_block hq.1 hq.2)]; exact h⟩
  · exfalso
    have hlt : a.block < (win w N M).heap.size := World.block_lt_of_cell? _ a h
    have hb : (win w N M).heap[a.block]? = some (.cells #[] 0 (0, 0)) := by
      have hlt' : a.block < w.heap.size := by simpa [win] using hlt
      have hd : (decide (N ≤ a.block) && decide (a.block < M)) = false := by
        rw [Bool.eq_false_iff]
        intro h
        simp only [Bool.and_eq_true, decide_eq_true_eq] at h
        exact hq h
      simp only [win, Array.getElem?_mapIdx, Array.getElem?_eq_getElem hlt', Option.map_some]
      rw [hd]
      rfl
    simp [World.cell?, hb] at h
theorem win_keep {w : World} {N M : Nat} {a : Addr} {v : Value} (h1 : N ≤ a.block) (h2 : a.block < M) (h : w.cell? a = some v) : (win w N M).cell? a = some v := by
  rw [World.cell?_of_block (win_block h1 h2)]
  exact h
/-- what one world holds another does too -/
def Sub (w w' : World) : Prop := ∀ a v, w.cell? a = some v → w'.cell? a = some v
theorem win_sub (w : World) (N M : Nat) : Sub (win w N M) w := fun a v h => (win_cell h).2.2
theorem win_to {w w' : World} {N M N' M' : Nat} (hb : ∀ k, N ≤ k → k < M → w'.heap[k]? = w.heap[k]?) (h1 : N' ≤ N) (h2 : M ≤ M') : Sub (win w N M) (win w' N' M') := fun a v h => by
  obtain ⟨g1, g2, g3⟩ := win_cell h
  exact win_keep (by omega) (by omega) ((World.cell?_of_block (hb a.block g1 g2)).trans g3)
section
variable {w w' : World} {v : Value}
theorem intsSub {l : List Int} (hs : Sub w w') (h : IntsIn w v l) : IntsIn w' v l := by
  obtain ⟨a, c, e, hl, hk⟩ := h
  refine ⟨a, c, e, hl, fun hne => ?_⟩
  obtain ⟨g, o, e2, hc⟩ := hk hne
  exact ⟨g, o, e2, fun i hi => hs _ _ (hc i hi)⟩
theorem varsSub {l : List VarD} (hs : Sub w w') (h : VarsIn w v l) : VarsIn w' v l := by
  obtain ⟨a, c, e, hl, hk⟩ := h
  refine ⟨a, c, e, hl, fun hne => ?_⟩
  obtain ⟨g, o, e2, hc⟩ := hk hne
  exact ⟨g, o, e2, fun i hi => ⟨hs _ _ (hc i hi).1, hs _ _ (hc i hi).2.1, hs _ _ (hc i hi).2.2.1, hs _ _ (hc i hi).2.2.2⟩⟩
theorem procsSub {l : List ProcD} (hs : Sub w w') (h : ProcsIn w v l) : ProcsIn w' v l := by
  obtain ⟨a, c, e, hl, hk⟩ := h
  refine ⟨a, c, e, hl, fun hne => ?_⟩
  obtain ⟨g, o, e2, hc⟩ := hk hne
  refine ⟨g, o, e2, fun i hi => ?_⟩
  obtain ⟨h0, h1, ⟨u, h2, h2'⟩, h3, h4, h5⟩ := hc i hi
  exact ⟨hs _ _ h0, hs _ _ h1, ⟨u, hs _ _ h2, intsSub hs h2'⟩, hs _ _ h3, hs _ _ h4, hs _ _ h5⟩
theorem facesSub {l : List FaceD} (hs : Sub w w') (h : FacesIn w v l) : FacesIn w' v l := by
  obtain ⟨a, c, e, hl, hk⟩ := h
  refine ⟨a, c, e, hl, fun hne => ?_⟩
  obtain ⟨g, o, e2, hc⟩ := hk hne
  refine ⟨g, o, e2, fun i hi => ?_⟩
  obtain ⟨h0, ⟨x, h1, h2⟩, ⟨y, h3, h4⟩⟩ := hc i hi
  exact ⟨hs _ _ h0, ⟨x, hs _ _ h1, varsSub hs h2⟩, ⟨y, hs _ _ h3, procsSub hs h4⟩⟩
theorem codeSub {l : List Ins} (hs : Sub w w') (h : CodeIn w v l) : CodeIn w' v l := by
  obtain ⟨a, c, e, hl, hk⟩ := h
  refine ⟨a, c, e, hl, fun hne => ?_⟩
  obtain ⟨g, o, e2, hc⟩ := hk hne
  exact ⟨g, o, e2, fun i hi => ⟨hs _ _ (hc i hi).1, hs _ _ (hc i hi).2.1, hs _ _ (hc i hi).2.2.1, hs _ _ (hc i hi).2.2.2.1, hs _ _ (hc i hi).2.2.2.2⟩⟩
theorem relsSub {l : List RelD} (hs : Sub w w') (h : RelsIn w v l) : RelsIn w' v l := by
  obtain ⟨a, c, e, hl, hk⟩ := h
  refine ⟨a, c, e, hl, fun hne => ?_⟩
  obtain ⟨g, o, e2, hc⟩ := hk hne
  exact ⟨g, o, e2, fun i hi => ⟨hs _ _ (hc i hi).1, hs _ _ (hc i hi).2.1, hs _ _ (hc i hi).2.2.1, hs _ _ (hc i hi).2.2.2⟩⟩
theorem plcsSub {l : List PlcD} (hs : Sub w w') (h : PlcsIn w v l) : PlcsIn w' v l := by
  obtain ⟨a, c, e, hl, hk⟩ := h
  refine ⟨a, c, e, hl, fun hne => ?_⟩
  obtain ⟨g, o, e2, hc⟩ := hk hne
  exact ⟨g, o, e2, fun i hi => ⟨hs _ _ (hc i hi).1, hs _ _ (hc i hi).2⟩⟩
end
theorem flat_at {α : Type} {k : Nat} : ∀ {zs : List (α × List Value)}, (∀ z ∈ zs, z.2.length = k) → ∀ i (hi : i < zs.length) j, j < k → (zs.flatMap (·.2))[i * k + j]? = zs[i].2[j]?
  | [], _, i, hi, _, _ => by simp at hi
  | x :: l, hall, 0, hi, j, hj => by
    have hx := hall x (by simp)
    simp only [List.flatMap_cons, Nat.zero_mul, Nat.zero_add, List.getElem_cons_zero]
    rw [List.getElem?_append_left (by omega)]
  | x :: l, hall, i + 1, hi, j, hj => by
    have hx := hall x (by simp)
    have e : (i + 1) * k + j = x.2.length + (i * k + j) := by rw [Nat.add_mul, Nat.one_mul, hx]; omega
    rw [List.flatMap_cons, e, List.getElem?_append_right (by omega), Nat.add_sub_cancel_left]
    have := flat_at (zs := l) (fun z hz => hall z (List.mem_cons_of_mem _ hz)) i (by simpa using hi) j hj
    simpa using this
/-- an item lies so, and goes on so where more is seen -/
abbrev Lies (α : Type) := α → List Value → World → Prop
def Goes {α : Type} (It : Lies α) : Prop := ∀ x cs w w', Sub w w' → It x cs w → It x cs w'
/-- a row of items from block N on; each item's own rows lie in a window of their own, where the row itself does not lie -/
structure Lp {α : Type} (It : Lies α) (T : TypeId) (k N : Nat) (zs : List (α × List Value)) (s : Value) (w : World) : Prop where
  row : w.ownsRow N T k s zs.length (zs.flatMap (·.2))
  one : ∀ z ∈ zs, z.2.length = k ∧ ∃ n m, N ≤ n ∧ m ≤ w.heap.size ∧ (∀ g, s.ownBlock = some g → g < n ∨ m ≤ g) ∧ It z.1 z.2 (win w n m)
section
variable {α : Type} {It : Lies α} {T : TypeId} {k N r : Nat} {zs : List (α × List Value)} {s : Value} {w w' : World}
theorem Lp.nil (It : Lies α) (T : TypeId) (k N : Nat) (w : World) : Lp It T k N [] (.slice none 0 0) w := ⟨World.ownsRow_nil _ _ _ _, fun z h => by cases h⟩
theorem Lp.fr (h : Lp It T k N zs s w) (hI : Goes It) (hF : FrR r w w') (hr : r < N) : Lp It T k N zs s w' := by
  have hfar : s.ownBlock ≠ some r := fun e => by have := (h.row.lt _ e).1; omega
  refine ⟨h.row.kept hF.grown (.inr hfar), fun z hz => ?_⟩
  obtain ⟨h1, n, m, h2, h3, h4, h5⟩ := h.one z hz
  exact ⟨h1, n, m, h2, Nat.le_trans h3 hF.size, h4, hI _ _ _ _ (win_to (fun b hb1 hb2 => hF.block b (by omega) (by omega) (by simp [nilV, Value.ownBlock])) (Nat.le_refl _) (Nat.le_refl _)) h5⟩
/-- an item more: read from block n on, then laid into the row -/
theorem Lp.push {z : α × List Value} {n g cap : Nat} {w5 : World} {ob : Obj} (h : Lp It T k N zs s w) (hI : Goes It) (hn : N ≤ n) (hsn : ∀ b, s.ownBlock = some b → b < n) (hz : It z.1 z.2 (win w n w.heap.size)) (hk : z.2.length = k)
    (hown : w5.ownsRow N T k (.slice (some ⟨g, 0, none⟩) (zs.length + 1) cap) (zs.length + 1) (zs.flatMap (·.2) ++ z.2)) (hgrow : (w.alloc ob).grownBy w5 s.ownBlock) (hat : s.ownBlock = some g ∨ w.heap.size ≤ g) :
    Lp It T k N (zs ++ [z]) (.slice (some ⟨g, 0, none⟩) (zs.length + 1) cap) w5 := by
  have hsz : w.heap.size + 1 ≤ w5.heap.size := by have := hgrow.size; simpa using this
  have hblk : ∀ b, b < w.heap.size → s.ownBlock ≠ some b → w5.heap[b]? = w.heap[b]? := fun b hb hne => by
    rw [hgrow.block b (by simp; omega) (fun e => hne e.symm)]
    exact (Below.refl _ _ |>.alloc (Nat.le_refl _) ob).block b hb
  refine ⟨by simpa using hown, fun y hy => ?_⟩
  have key : y.2.length = k ∧ ∃ n m, N ≤ n ∧ m ≤ w.heap.size ∧ (∀ g, s.ownBlock = some g → g < n ∨ m ≤ g) ∧ It y.1 y.2 (win w n m) := by
    rcases List.mem_append.1 hy with hy | hy
    · exact h.one y hy
    · rw [List.mem_singleton] at hy
      subst hy
      exact ⟨hk, n, w.heap.size, hn, Nat.le_refl _, fun b e => .inl (hsn b e), hz⟩
  obtain ⟨h1, n', m, h2, h3, h4, h5⟩ := key
  refine ⟨h1, n', m, h2, by omega, fun b e => ?_, hI _ _ _ _ (win_to (fun b hb1 hb2 => hblk b (by omega) fun e => ?_) (Nat.le_refl _) (Nat.le_refl _)) h5⟩
  · have e' : some g = some b := e
    cases e'
    rcases hat with e | e
    · exact h4 _ e
    · omega
  · rcases h4 b e with h | h <;> omega
/-- the cells of the items, and what lies beside, from N on -/
theorem Lp.cells (h : Lp It T k N zs s w) (hI : Goes It) (hk : 0 < k) : ∃ a c, s = .slice a zs.length c ∧ (zs ≠ [] → ∃ g, a = some ⟨g, 0, none⟩ ∧ ∀ i (hi : i < zs.length), It zs[i].1 zs[i].2 (win w N w.heap.size) ∧ zs[i].2.length = k ∧ ∀ j, j < k → (win w N w.heap.size).cell? ⟨g, 0 + i * k + j, none⟩ = zs[i].2[j]?) := by
  rcases h.row.2 with ⟨rfl, hn⟩ | ⟨g, cap, cur, rfl, hg, _⟩
  · have : zs = [] := List.length_eq_zero_iff.1 hn
    subst this
    exact ⟨none, 0, rfl, fun h => absurd rfl h⟩
  · refine ⟨some ⟨g, 0, none⟩, cap, rfl, fun _ => ⟨g, rfl, fun i hi => ?_⟩⟩
    obtain ⟨h1, n, m, h2, h3, h4, h5⟩ := h.one zs[i] (List.getElem_mem hi)
    refine ⟨hI _ _ _ _ (win_to (fun _ _ _ => rfl) h2 h3) h5, h1, fun j hj => ?_⟩
    have hall : ∀ z ∈ zs, z.2.length = k := fun z hz => (h.one z hz).1
    have hlt : i * k + j < zs.length * k := by
      have : (i + 1) * k ≤ zs.length * k := Nat.mul_le_mul_right k hi
      rw [Nat.add_mul, Nat.one_mul] at this
      omega
    have hc := h.row.cellAt (i * k + j) hlt
    have hat := flat_at hall i hi j hj
    rw [hat] at hc
    have hg2 : g < w.heap.size := (h.row.lt g rfl).2
    rw [Nat.zero_add, World.cell?_of_block (a := ⟨g, i * k + j, none⟩) (win_block hg hg2)]
    exact hc
end
end Go.Proofs.YthfeojjfehbgjaaGreatDoor.obj
namespace Go.Proofs.YthfeojjfehbgjaaGreatDoor.obj
open Go.RowKit
open Go.Proofs.YthfeojjfehbgjaaGreatDoor.mac (BoxC grown_of_below Ins)
open Go.Proofs.YthfeojjfehbgjaaGreatDoor.face (VarD ProcD FaceD IntsIn VarsIn ProcsIn varV procV)
set_option linter.unusedVariables false
set_option linter.unusedSimpArgs false
def intC (x : Int) : List Value := [.int .i64 x]
def varC (x : VarD) : List Value := [.string x.name, .bool x.pub, .int .i64 x.label, .int .i64 x.size]
def procC (x : ProcD) (u : Value) : List Value := [.string x.name, .bool x.pub, u, .int .i64 x.writes, .bool x.gives, .int .i64 x.given]
def faceC (x : FaceD) (vv pv : Value) : List Value := [.string x.module, vv, pv]
def insC (x : Ins) : List Value := [.int .i64 x.op, .int .i64 x.a, .int .i64 x.b, .int .i64 x.c, .int .i64 x.n]
def relC (x : RelD) : List Value := [.int .i64 x.at', .int .i64 x.kind, .string x.module, .string x.name]
def plcC (x : PlcD) : List Value := [.string x.name, .int .i64 x.at']
def itInt : Lies Int := fun x cs _ => cs = intC x
def itVar : Lies VarD := fun x cs _ => cs = varC x
def itProc : Lies ProcD := fun x cs w => ∃ u, cs = procC x u ∧ IntsIn w u x.params
def itFace : Lies FaceD := fun x cs w => ∃ vv pv, cs = faceC x vv pv ∧ VarsIn w vv x.vars ∧ ProcsIn w pv x.procs
def itIns : Lies Ins := fun x cs _ => cs = insC x
def itRel : Lies RelD := fun x cs _ => cs = relC x
def itPlc : Lies PlcD := fun x cs _ => cs = plcC x
theorem goInt : Goes itInt := fun _ _ _ _ _ h => h
theorem goVar : Goes itVar := fun _ _ _ _ _ h => h
theorem goIns : Goes itIns := fun _ _ _ _ _ h => h
theorem goRel : Goes itRel := fun _ _ _ _ _ h => h
theorem goPlc : Goes itPlc := fun _ _ _ _ _ h => h
theorem goProc : Goes itProc := fun _ _ _ _ hs h => by
  obtain ⟨u, e, h⟩ := h
  exact ⟨u, e, intsSub hs h⟩
theorem goFace : Goes itFace := fun _ _ _ _ hs h => by
  obtain ⟨u, p, e, h1, h2⟩ := h
  exact ⟨u, p, e, varsSub hs h1, procsSub hs h2⟩
/-- a list that was read: from block N on -/
def LV {α : Type} (It : Lies α) (T : TypeId) (k N : Nat) (l : List α) (v : Value) (w : World) : Prop := ∃ zs : List (α × List Value), zs.map (·.1) = l ∧ Lp It T k N zs v w
section
variable {T : TypeId} {N : Nat} {v : Value} {w : World}
theorem LV.ints {l : List Int} (h : LV itInt T 1 N l v w) (hl : l.length ≤ 9223372036854775807) : IntsIn (win w N w.heap.size) v l := by
  obtain ⟨zs, rfl, h⟩ := h
  obtain ⟨a, c, rfl, hc⟩ := h.cells goInt (by decide)
  refine ⟨a, c, by rw [List.length_map], hl, fun hne => ?_⟩
  obtain ⟨g, rfl, hq⟩ := hc (by intro e; subst e; exact hne rfl)
  refine ⟨g, 0, rfl, fun i hi => ?_⟩
  have hi' : i < zs.length := by simpa using hi
  obtain ⟨hz, _, hj⟩ := hq i hi'
  simp only [List.getElem_map]
  generalize zs[i] = z at hz hj
  obtain ⟨x, cs⟩ := z
  dsimp only at hz hj ⊢
  obtain rfl : cs = intC x := hz
  have h0 := hj 0 (by decide)
  simpa [intC] using h0
theorem LV.vars {l : List VarD} (h : LV itVar T 4 N l v w) (hl : l.length ≤ 4611686018427387903) : VarsIn (win w N w.heap.size) v l := by
  obtain ⟨zs, rfl, h⟩ := h
  obtain ⟨a, c, rfl, hc⟩ := h.cells goVar (by decide)
  refine ⟨a, c, by rw [List.length_map], hl, fun hne => ?_⟩
  obtain ⟨g, rfl, hq⟩ := hc (by intro e; subst e; exact hne rfl)
  refine ⟨g, 0, rfl, fun i hi => ?_⟩
  have hi' : i < zs.length := by simpa using hi
  obtain ⟨hz, _, hj⟩ := hq i hi'
  simp only [List.getElem_map]
  generalize zs[i] = z at hz hj
  obtain ⟨x, cs⟩ := z
  dsimp only at hz hj ⊢
  obtain rfl : cs = varC x := hz
  exact ⟨hj 0 (by decide), hj 1 (by decide), hj 2 (by decide), hj 3 (by decide)⟩
theorem LV.procs {l : List ProcD} (h : LV itProc T 6 N l v w) (hl : l.length ≤ 4611686018427387903) : ProcsIn (win w N w.heap.size) v l := by
  obtain ⟨zs, rfl, h⟩ := h
  obtain ⟨a, c, rfl, hc⟩ := h.cells goProc (by decide)
  refine ⟨a, c, by rw [List.length_map], hl, fun hne => ?_⟩
  obtain ⟨g, rfl, hq⟩ := hc (by intro e; subst e; exact hne rfl)
  refine ⟨g, 0, rfl, fun i hi => ?_⟩
  have hi' : i < zs.length := by simpa using hi
  obtain ⟨hz, _, hj⟩ := hq i hi'
  simp only [List.getElem_map]
  generalize zs[i] = z at hz hj
  obtain ⟨x, cs⟩ := z
  dsimp only at hz hj ⊢
  obtain ⟨u, rfl, hu⟩ := hz
  exact ⟨hj 0 (by decide), hj 1 (by decide), ⟨u, hj 2 (by decide), hu⟩, hj 3 (by decide), hj 4 (by decide), hj 5 (by decide)⟩
theorem LV.faces {l : List FaceD} (h : LV itFace T 3 N l v w) (hl : l.length ≤ 1048576) : FacesIn (win w N w.heap.size) v l := by
  obtain ⟨zs, rfl, h⟩ := h
  obtain ⟨a, c, rfl, hc⟩ := h.cells goFace (by decide)
  refine ⟨a, c, by rw [List.length_map], hl, fun hne => ?_⟩
  obtain ⟨g, rfl, hq⟩ := hc (by intro e; subst e; exact hne rfl)
  refine ⟨g, 0, rfl, fun i hi => ?_⟩
  have hi' : i < zs.length := by simpa using hi
  obtain ⟨hz, _, hj⟩ := hq i hi'
  simp only [List.getElem_map]
  generalize zs[i] = z at hz hj
  obtain ⟨x, cs⟩ := z
  dsimp only at hz hj ⊢
  obtain ⟨u, p, rfl, hu, hp⟩ := hz
  exact ⟨hj 0 (by decide), ⟨u, hj 1 (by decide), hu⟩, ⟨p, hj 2 (by decide), hp⟩⟩
theorem LV.code {l : List Ins} (h : LV itIns T 5 N l v w) (hl : l.length ≤ 1048576) : CodeIn (win w N w.heap.size) v l := by
  obtain ⟨zs, rfl, h⟩ := h
  obtain ⟨a, c, rfl, hc⟩ := h.cells goIns (by decide)
  refine ⟨a, c, by rw [List.length_map], hl, fun hne => ?_⟩
  obtain ⟨g, rfl, hq⟩ := hc (by intro e; subst e; exact hne rfl)
  refine ⟨g, 0, rfl, fun i hi => ?_⟩
  have hi' : i < zs.length := by simpa using hi
  obtain ⟨hz, _, hj⟩ := hq i hi'
  simp only [List.getElem_map]
  generalize zs[i] = z at hz hj
  obtain ⟨x, cs⟩ := z
  dsimp only at hz hj ⊢
  obtain rfl : cs = insC x := hz
  exact ⟨hj 0 (by decide), hj 1 (by decide), hj 2 (by decide), hj 3 (by decide), hj 4 (by decide)⟩
theorem LV.rels {l : List RelD} (h : LV itRel T 4 N l v w) (hl : l.length ≤ 1048576) : RelsIn (win w N w.heap.size) v l := by
  obtain ⟨zs, rfl, h⟩ := h
  obtain ⟨a, c, rfl, hc⟩ := h.cells goRel (by decide)
  refine ⟨a, c, by rw [List.length_map], hl, fun hne => ?_⟩
  obtain ⟨g, rfl, hq⟩ := hc (by intro e; subst e; exact hne rfl)
  refine ⟨g, 0, rfl, fun i hi => ?_⟩
  have hi' : i < zs.length := by simpa using hi
  obtain ⟨hz, _, hj⟩ := hq i hi'
  simp only [List.getElem_map]
  generalize zs[i] = z at hz hj
  obtain ⟨x, cs⟩ := z
  dsimp only at hz hj ⊢
  obtain rfl : cs = relC x := hz
  exact ⟨hj 0 (by decide), hj 1 (by decide), hj 2 (by decide), hj 3 (by decide)⟩
theorem LV.plcs {l : List PlcD} (h : LV itPlc T 2 N l v w) (hl : l.length ≤ 1048576) : PlcsIn (win w N w.heap.size) v l := by
  obtain ⟨zs, rfl, h⟩ := h
  obtain ⟨a, c, rfl, hc⟩ := h.cells goPlc (by decide)
  refine ⟨a, c, by rw [List.length_map], hl, fun hne => ?_⟩
  obtain ⟨g, rfl, hq⟩ := hc (by intro e; subst e; exact hne rfl)
  refine ⟨g, 0, rfl, fun i hi => ?_⟩
  have hi' : i < zs.length := by simpa using hi
  obtain ⟨hz, _, hj⟩ := hq i hi'
  simp only [List.getElem_map]
  generalize zs[i] = z at hz hj
  obtain ⟨x, cs⟩ := z
  dsimp only at hz hj ⊢
  obtain rfl : cs = plcC x := hz
  exact ⟨hj 0 (by decide), hj 1 (by decide)⟩
end
/-! how much is eaten -/
def Less {α : Type} (g : By → Option (α × By)) : Prop := ∀ l x l2, g l = some (x, l2) → l2.length ≤ l.length
/-- an item takes a number's bytes at least -/
def Eats {α : Type} (g : By → Option (α × By)) : Prop := ∀ l x l2, g l = some (x, l2) → l2.length + 8 ≤ l.length
theorem Eats.less {α : Type} {g : By → Option (α × By)} (h : Eats g) : Less g := fun l x l2 e => by have := h l x l2 e; omega
theorem less_bind {α β : Type} {g : By → Option (α × By)} {k : α × By → Option (β × By)} (hg : Less g) (hk : ∀ a, Less fun l => k (a, l)) : Less fun l => (g l).bind k := fun l x r h => by
  simp only [Option.bind_eq_some_iff] at h
  obtain ⟨⟨a, l2⟩, h1, h2⟩ := h
  exact Nat.le_trans (hk a _ _ _ h2) (hg _ _ _ h1)
theorem eats_bind {α β : Type} {g : By → Option (α × By)} {k : α × By → Option (β × By)} (hg : Eats g) (hk : ∀ a, Less fun l => k (a, l)) : Eats fun l => (g l).bind k := fun l x r h => by
  simp only [Option.bind_eq_some_iff] at h
  obtain ⟨⟨a, l2⟩, h1, h2⟩ := h
  have h3 := hk a _ _ _ h2
  have h4 := hg _ _ _ h1
  omega
theorem less_some {α : Type} (x : α) : Less fun l => some (x, l) := fun l y r h => by
  simp only [Option.some.injEq, Prod.mk.injEq] at h
  rw [h.2]
  exact Nat.le_refl _
theorem eatsNum : Eats getNum := fun l x r h => by
  unfold getNum at h
  split at h
  · cases h
  · simp only [Option.some.injEq, Prod.mk.injEq] at h
    rw [← h.2, List.length_drop]
    omega
theorem eatsSize : Eats getSize := eats_bind eatsNum fun a l x r h => by
  dsimp only at h
  split at h
  · cases h
  · simp only [Option.some.injEq, Prod.mk.injEq] at h
    rw [h.2]
    exact Nat.le_refl _
theorem eatsBool : Eats getBool := eats_bind eatsNum fun a l x r h => by
  dsimp only at h
  split at h
  · simp only [Option.some.injEq, Prod.mk.injEq] at h
    rw [h.2]
    exact Nat.le_refl _
  · split at h
    · simp only [Option.some.injEq, Prod.mk.injEq] at h
      rw [h.2]
      exact Nat.le_refl _
    · cases h
theorem eatsText : Eats getText := eats_bind eatsSize fun a l x r h => by
  dsimp only at h
  split at h
  · cases h
  · simp only [Option.some.injEq, Prod.mk.injEq] at h
    rw [← h.2, List.length_drop]
    omega
theorem less_n {α : Type} {g : By → Option (α × By)} (hg : Less g) : ∀ n, Less (getN g n)
  | 0 => less_some []
  | n + 1 => by
    show Less fun l => (g l).bind fun x => (getN g n x.2).bind fun y => some (x.1 :: y.1, y.2)
    refine less_bind hg fun _ => ?_; dsimp only
    refine less_bind (less_n hg n) fun _ => ?_; dsimp only
    exact less_some _
theorem eats_l {α : Type} {g : By → Option (α × By)} (hg : Less g) : Eats (getL g) := by
  refine eats_bind eatsSize fun n => ?_; dsimp only
  exact less_n hg n
theorem eatsVar : Eats getVar := by
  refine eats_bind eatsText fun _ => ?_; dsimp only
  refine less_bind eatsBool.less fun _ => ?_; dsimp only
  refine less_bind eatsNum.less fun _ => ?_; dsimp only
  refine less_bind eatsNum.less fun _ => ?_; dsimp only
  exact less_some _
theorem eatsProc : Eats getProc := by
  refine eats_bind eatsText fun _ => ?_; dsimp only
  refine less_bind eatsBool.less fun _ => ?_; dsimp only
  refine less_bind (eats_l eatsNum.less).less fun _ => ?_; dsimp only
  refine less_bind eatsNum.less fun _ => ?_; dsimp only
  refine less_bind eatsBool.less fun _ => ?_; dsimp only
  refine less_bind eatsNum.less fun _ => ?_; dsimp only
  exact less_some _
theorem eatsFace : Eats getFace := by
  refine eats_bind eatsText fun _ => ?_; dsimp only
  refine less_bind (eats_l eatsVar.less).less fun _ => ?_; dsimp only
  refine less_bind (eats_l eatsProc.less).less fun _ => ?_; dsimp only
  exact less_some _
theorem eatsIns : Eats getIns := by
  refine eats_bind eatsNum fun _ => ?_; dsimp only
  refine less_bind eatsNum.less fun _ => ?_; dsimp only
  refine less_bind eatsNum.less fun _ => ?_; dsimp only
  refine less_bind eatsNum.less fun _ => ?_; dsimp only
  refine less_bind eatsNum.less fun _ => ?_; dsimp only
  exact less_some _
theorem eatsRel : Eats getRel := by
  refine eats_bind eatsNum fun _ => ?_; dsimp only
  refine less_bind eatsNum.less fun _ => ?_; dsimp only
  refine less_bind eatsText.less fun _ => ?_; dsimp only
  refine less_bind eatsText.less fun _ => ?_; dsimp only
  exact less_some _
theorem eatsPlc : Eats getPlc := by
  refine eats_bind eatsText fun _ => ?_; dsimp only
  refine less_bind eatsNum.less fun _ => ?_; dsimp only
  exact less_some _
/-- how long a list is that is read -/
theorem getN_len {α : Type} {g : By → Option (α × By)} : ∀ {n : Nat} {l : By} {x : List α} {r : By}, getN g n l = some (x, r) → x.length = n
  | 0, l, x, r, h => by
    have h : some (([] : List α), l) = some (x, r) := h
    cases h
    rfl
  | n + 1, l, x, r, h => by
    have h : ((g l).bind fun x => (getN g n x.2).bind fun y => some (x.1 :: y.1, y.2)) = some (x, r) := h
    simp only [Option.bind_eq_some_iff] at h
    obtain ⟨⟨a, l2⟩, h1, ⟨b, l3⟩, h2, h3⟩ := h
    cases h3
    have := getN_len h2
    dsimp only at this ⊢
    rw [List.length_cons, this]
theorem getN_eats {α : Type} {g : By → Option (α × By)} (hg : Eats g) : ∀ {n : Nat} {l : By} {x : List α} {r : By}, getN g n l = some (x, r) → r.length + 8 * n ≤ l.length
  | 0, l, x, r, h => by
    have h : some (([] : List α), l) = some (x, r) := h
    cases h
    omega
  | n + 1, l, x, r, h => by
    have h : ((g l).bind fun x => (getN g n x.2).bind fun y => some (x.1 :: y.1, y.2)) = some (x, r) := h
    simp only [Option.bind_eq_some_iff] at h
    obtain ⟨⟨a, l2⟩, h1, ⟨b, l3⟩, h2, h3⟩ := h
    cases h3
    have := getN_eats hg h2
    have := hg _ _ _ h1
    dsimp only at *
    omega
theorem getL_len {α : Type} {g : By → Option (α × By)} (hg : Eats g) {l : By} {x : List α} {r : By} (h : getL g l = some (x, r)) : r.length + 8 * x.length ≤ l.length := by
  unfold getL at h
  simp only [Option.bind_eq_some_iff] at h
  obtain ⟨⟨n, l2⟩, h1, h2⟩ := h
  have := getN_len h2
  have := getN_eats hg h2
  have := eatsSize _ _ _ h1
  dsimp only at *
  omega
theorem getN_step {α : Type} {g : By → Option (α × By)} {n : Nat} {l l2 : By} {x : α} (h : g l = some (x, l2)) : getN g (n + 1) l = (getN g n l2).bind fun y => some (x :: y.1, y.2) := by
  show (g l).bind _ = _
  rw [h]
  rfl
theorem getN_lost {α : Type} {g : By → Option (α × By)} {n : Nat} {l : By} (h : g l = none) : getN g (n + 1) l = none := by
  show (g l).bind _ = _
  rw [h]
  rfl
theorem getN_more {α : Type} {R : Option (List α × By)} {g : By → Option (α × By)} {n : Nat} {xs : List α} {x : α} {l l2 : By} (h : R = (getN g (n + 1) l).bind fun y => some (xs ++ y.1, y.2)) (hg : g l = some (x, l2)) : R = (getN g n l2).bind fun y => some ((xs ++ [x]) ++ y.1, y.2) := by
  rw [h, getN_step hg]
  cases getN g n l2 <;> simp
theorem info_of {e : TypeId} {z : Value} {s b : Nat} (h : (Tryz.prog.info? e).map (fun i => (i.zero, i.size, i.bytes)) = some (some z, s, b)) : ∃ i, Tryz.prog.info? e = some i ∧ i.zero = some z ∧ i.size = s ∧ i.bytes = b := by
  cases hi : Tryz.prog.info? e with
  | none => rw [hi] at h; cases h
  | some i =>
    rw [hi] at h
    simp only [Option.map_some, Option.some.injEq, Prod.mk.injEq] at h
    exact ⟨i, rfl, h.1, h.2.1, h.2.2⟩
end Go.Proofs.YthfeojjfehbgjaaGreatDoor.obj
