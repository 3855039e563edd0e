/- An object that may be is read as it was written; no shorter row is; how long its bytes are. Plain facts. -/
import Derived.Test.YthfeojjfehbgjaaGreatDoorOPObjBack
namespace Go.Proofs.YthfeojjfehbgjaaGreatDoor.obj
open Go.RowKit
open Go.Proofs.YthfeojjfehbgjaaGreatDoor.face (VarD ProcD FaceD apartB)
open Go.Proofs.YthfeojjfehbgjaaGreatDoor.mac (Ins hasB)
open Go.Proofs.YthfeojjfehbgjaaGreatDoor.syn (isName eqS)
set_option linter.unusedVariables false
/-- numbers that fit, lists that are not too long -/
structure Fit (o : ObjD) : Prop where
  n : ∀ i ∈ o.code, I64 i.n
  rel : o.relocs.length ≤ 1048576
  procs : o.procs.length ≤ 1048576
  lows : o.lows.length ≤ 1048576
  highs : o.highs.length ≤ 1048576
theorem name_le {x : ByteArray} (h : isName x = true) : x.size ≤ 16 := by
  unfold isName at h
  simp only [Bool.and_eq_true, decide_eq_true_eq] at h
  exact h.1.1.1.2
theorem empty_le {x : ByteArray} (h : emptyB x = true) : x.size ≤ 16 := by
  unfold emptyB at h
  rw [ByteArray.toList_eq, List.isEmpty_iff] at h
  show x.data.size ≤ 16
  rw [← Array.length_toList, h]
  simp
theorem lab_i {n : Int} (h : face.labelB n = true) : I64 n := by
  unfold face.labelB at h
  simp at h
  unfold I64
  omega
/-! back -/
/-- reads it, and has so many bytes at most -/
structure Ok {α : Type} (f : α → By) (g : By → Option (α × By)) (k : Nat) (x : α) : Prop where
  bk : Bk f g x
  le : (f x).length ≤ k
theorem flat_le {α : Type} {f : α → By} {k : Nat} : ∀ {l : List α}, (∀ x ∈ l, (f x).length ≤ k) → (l.map f).flatten.length ≤ k * l.length
  | [], _ => by simp
  | x :: r, h => by
    have h1 := h x (by simp)
    have h2 := flat_le (l := r) (fun y hy => h y (by simp [hy]))
    simp only [List.map_cons, List.flatten_cons, List.length_append, List.length_cons, Nat.mul_add, Nat.mul_one]
    omega
theorem okNum {n : Int} (h : I64 n) : Ok numB getNum 8 n := ⟨bkNum h, by simp [numB_len]⟩
theorem okBool (b : Bool) : Ok boolB getBool 8 b := ⟨bkBool b, by simp [boolB, numB_len]⟩
theorem okText {x : ByteArray} (h : x.size ≤ 16) : Ok textB getText 24 x := ⟨bkText (by omega), by
  have e : x.data.toList.length = x.size := rfl
  simp only [textB, List.length_append, numB_len]
  omega⟩
theorem okL {α : Type} {f : α → By} {g : By → Option (α × By)} {k n : Nat} {l : List α} (hl : l.length ≤ n) (hn : n ≤ 1048576) (h : ∀ x ∈ l, Ok f g k x) : Ok (listB f) (getL g) (8 + k * n) l := ⟨bkL (by omega) fun x hx => (h x hx).bk, by
  have h1 := flat_le fun x hx => (h x hx).le
  have h2 := Nat.mul_le_mul_left k hl
  simp only [listB, List.length_append, numB_len]
  omega⟩
theorem bind_bk {α β : Type} {x : Option (α × By)} {a : α} {r : By} {k : α × By → Option β} (h : x = some (a, r)) : x.bind k = k (a, r) := by rw [h]; rfl
theorem okVar {v : VarD} (h : face.mayVarB v = true) : Ok varB getVar 48 v := by
  unfold face.mayVarB at h
  simp only [Bool.and_eq_true, decide_eq_true_eq] at h
  obtain ⟨h1, _, h2, h3, h4⟩ := h
  have a := okText (name_le h1)
  have b := okBool v.pub
  have c := okNum (lab_i h2)
  have d := okNum (n := v.size) ⟨by omega, by omega⟩
  refine ⟨fun r => ?_, ?_⟩
  · unfold getVar varB intsB
    simp only [List.map_cons, List.map_nil, List.flatten_cons, List.flatten_nil, List.append_nil, List.append_assoc]
    refine (bind_bk (a.bk _)).trans ?_
    refine (bind_bk (b.bk _)).trans ?_
    refine (bind_bk (c.bk _)).trans ?_
    refine (bind_bk (d.bk _)).trans ?_
    rfl
  · have := a.le; have := b.le
    simp only [varB, intsB, List.map_cons, List.map_nil, List.flatten_cons, List.flatten_nil, List.append_nil, List.length_append, numB_len]
    omega
theorem okProc {v : ProcD} (h : face.mayProcB v = true) : Ok procB getProc 104 v := by
  unfold face.mayProcB at h
  simp only [Bool.and_eq_true, decide_eq_true_eq] at h
  obtain ⟨h1, _, h2, h3, h4, h5, _⟩ := h
  have a := okText (name_le h1)
  have b := okBool v.pub
  have c := okL (n := 5) h2 (by decide) fun x hx => okNum (lab_i (List.all_eq_true.1 h3 x hx))
  have d := okNum (lab_i h4)
  have e := okBool v.gives
  have f := okNum (lab_i h5)
  refine ⟨fun r => ?_, ?_⟩
  · unfold getProc procB
    simp only [List.append_assoc]
    refine (bind_bk (a.bk _)).trans ?_
    refine (bind_bk (b.bk _)).trans ?_
    refine (bind_bk (c.bk _)).trans ?_
    refine (bind_bk (d.bk _)).trans ?_
    refine (bind_bk (e.bk _)).trans ?_
    refine (bind_bk (f.bk _)).trans ?_
    rfl
  · have := a.le; have := b.le; have := c.le; have := e.le
    simp only [procB, List.length_append, numB_len]
    omega
theorem okFace {v : FaceD} (h : face.mayB v = true) : Ok faceB getFace 3080 v := by
  unfold face.mayB at h
  simp only [Bool.and_eq_true, decide_eq_true_eq] at h
  obtain ⟨h1, h2, h3, h4, _⟩ := h
  have a := okText (name_le h1)
  have b := okL (n := 20) (l := v.vars) (by omega) (by decide) fun x hx => okVar (List.all_eq_true.1 h3 x hx)
  have c := okL (n := 20) (l := v.procs) (by omega) (by decide) fun x hx => okProc (List.all_eq_true.1 h4 x hx)
  refine ⟨fun r => ?_, ?_⟩
  · unfold getFace faceB
    simp only [List.append_assoc]
    refine (bind_bk (a.bk _)).trans ?_
    refine (bind_bk (b.bk _)).trans ?_
    refine (bind_bk (c.bk _)).trans ?_
    rfl
  · have := a.le; have := b.le; have := c.le
    simp only [faceB, List.length_append]
    omega
theorem has_i {i : Ins} (h : hasB i = true) : I64 i.op ∧ I64 i.a ∧ I64 i.b ∧ I64 i.c := by
  unfold hasB at h
  split at h
  · cases h
  · simp only [Bool.and_eq_true] at h
    have ha := mac.regB_le h.1.1.1.2
    have hb := mac.regB_le h.1.1.2
    have hc := mac.regB_le h.1.2
    refine ⟨?_, ⟨by omega, by omega⟩, ⟨by omega, by omega⟩, ⟨by omega, by omega⟩⟩
    have h1 := h.1.1.1.1
    by_cases hx : -9223372036854775808 ≤ i.op ∧ i.op < 9223372036854775808
    · exact hx
    exfalso
    unfold mac.fld at h1
    rw [if_neg (by omega), if_neg (by omega), if_neg (by omega), if_neg (by omega), if_neg (by omega), if_neg (by omega), if_neg (by omega), if_neg (by omega), if_neg (by omega), if_neg (by omega), if_neg (by omega), if_neg (by omega), if_neg (by omega), if_neg (by omega), if_neg (by omega), if_neg (by omega), if_neg (by omega)] at h1
    simp only [Bool.and_eq_true, decide_eq_true_eq] at h1
    omega
theorem okIns {i : Ins} (h : hasB i = true) (hn : I64 i.n) : Ok insB getIns 40 i := by
  obtain ⟨h1, h2, h3, h4⟩ := has_i h
  refine ⟨fun r => ?_, by simp [insB, intsB, numB_len]⟩
  unfold getIns insB intsB
  simp only [List.map_cons, List.map_nil, List.flatten_cons, List.flatten_nil, List.append_nil, List.append_assoc]
  refine (bind_bk (bkNum h1 _)).trans ?_
  refine (bind_bk (bkNum h2 _)).trans ?_
  refine (bind_bk (bkNum h3 _)).trans ?_
  refine (bind_bk (bkNum h4 _)).trans ?_
  refine (bind_bk (bkNum hn _)).trans ?_
  rfl
theorem relocs_mem {n : Int} : ∀ {l : List RelD} {m : Int}, 0 ≤ m → relocsB n m l = true → ∀ r ∈ l, relB r = true ∧ 0 ≤ r.at' ∧ r.at' < n
  | [], _, _, _, _, h => by cases h
  | x :: l, m, hm, h, r, hr => by
    have h : (relAt n m x && relocsB n (x.at' + 1) l) = true := h
    simp only [relAt, Bool.and_eq_true, decide_eq_true_eq] at h
    obtain ⟨⟨h1, h2, h3⟩, h4⟩ := h
    rcases List.mem_cons.1 hr with rfl | hr
    · exact ⟨h3, by omega, h2⟩
    · exact relocs_mem (by omega) h4 r hr
theorem rel_i {r : RelD} (h : relB r = true) : I64 r.kind ∧ r.module.size ≤ 16 ∧ r.name.size ≤ 16 := by
  unfold relB at h
  unfold I64
  split at h
  · simp only [Bool.and_eq_true] at h
    exact ⟨by omega, empty_le h.1, empty_le h.2⟩
  · split at h
    · simp only [Bool.and_eq_true] at h
      exact ⟨by omega, name_le h.1, name_le h.2⟩
    · cases h
theorem okRel {n : Int} {r : RelD} (hn : n ≤ 20000) (h : relB r = true ∧ 0 ≤ r.at' ∧ r.at' < n) : Ok relBy getRel 64 r := by
  obtain ⟨h1, h2, h3⟩ := h
  obtain ⟨h4, h5, h6⟩ := rel_i h1
  have a := okNum (n := r.at') ⟨by omega, by omega⟩
  have b := okNum h4
  have c := okText h5
  have d := okText h6
  refine ⟨fun s => ?_, ?_⟩
  · unfold getRel relBy intsB
    simp only [List.map_cons, List.map_nil, List.flatten_cons, List.flatten_nil, List.append_nil, List.append_assoc]
    refine (bind_bk (a.bk _)).trans ?_
    refine (bind_bk (b.bk _)).trans ?_
    refine (bind_bk (c.bk _)).trans ?_
    refine (bind_bk (d.bk _)).trans ?_
    rfl
  · have := c.le; have := d.le
    simp only [relBy, intsB, List.map_cons, List.map_nil, List.flatten_cons, List.flatten_nil, List.append_nil, List.length_append, numB_len]
    omega
theorem okPlc {n : Int} {p : PlcD} (hn : n ≤ 20000) (h : plcB n p = true) : Ok plcBy getPlc 32 p := by
  simp only [plcB, Bool.and_eq_true, decide_eq_true_eq] at h
  obtain ⟨h1, h2, h3⟩ := h
  have a := okText (name_le h1)
  have b := okNum (n := p.at') ⟨by omega, by omega⟩
  refine ⟨fun s => ?_, ?_⟩
  · unfold getPlc plcBy
    simp only [List.append_assoc]
    refine (bind_bk (a.bk _)).trans ?_
    refine (bind_bk (b.bk _)).trans ?_
    rfl
  · have := a.le
    simp only [plcBy, List.length_append, numB_len]
    omega
theorem okPlcs {n : Int} {l : List PlcD} (hn : n ≤ 20000) (hl : l.length ≤ 1048576) (h : placesB l n = true) : Ok (listB plcBy) (getL getPlc) (8 + 32 * 1048576) l := by
  simp only [placesB, Bool.and_eq_true] at h
  exact okL (k := 32) (n := 1048576) hl (Nat.le_refl _) fun p hp => okPlc hn (List.all_eq_true.1 h.1 p hp)
theorem okO {o : ObjD} (h : mayO o = true) (hf : Fit o) : Ok objB getO 200000000 o := by
  simp only [mayO, facesB, codeB, wordsB, Bool.and_eq_true, decide_eq_true_eq] at h
  obtain ⟨⟨h1, h2, h3, _⟩, ⟨h4, h5⟩, h6, h7, h8, h9, h10⟩ := h
  have w : ∀ x, x = o.low ∨ x = o.high ∨ x = o.lowF ∨ x = o.highF → 0 ≤ x ∧ x ≤ 20000 := fun x hx => by
    have := List.all_eq_true.1 h7 x (by simpa using hx)
    simpa [wordB] using this
  have wl := w o.low (by simp); have wh := w o.high (by simp); have wf := w o.lowF (by simp); have wg := w o.highF (by simp)
  have a := okFace h1
  have b := okL (k := 3080) (n := 5) h2 (by decide) fun x hx => okFace (List.all_eq_true.1 h3 x hx)
  have c := okL (k := 40) (n := 20000) h4 (by decide) fun x hx => okIns (List.all_eq_true.1 h5 x hx) (hf.n x hx)
  have d := okL (k := 64) (n := 1048576) hf.rel (Nat.le_refl _) fun x hx => okRel (n := o.code.length) (by omega) (relocs_mem (by omega) h6 x hx)
  have e := okPlcs (n := o.code.length) (by omega) hf.procs h8
  have f := okPlcs (by omega) hf.lows h9
  have g := okPlcs (by omega) hf.highs h10
  have n1 := okNum (n := o.low) ⟨by omega, by omega⟩
  have n2 := okNum (n := o.high) ⟨by omega, by omega⟩
  have n3 := okNum (n := o.lowF) ⟨by omega, by omega⟩
  have n4 := okNum (n := o.highF) ⟨by omega, by omega⟩
  refine ⟨fun s => ?_, ?_⟩
  · unfold getO objB intsB
    simp only [List.map_cons, List.map_nil, List.flatten_cons, List.flatten_nil, List.append_nil, List.append_assoc]
    refine (bind_bk (a.bk _)).trans ?_
    refine (bind_bk (b.bk _)).trans ?_
    refine (bind_bk (c.bk _)).trans ?_
    refine (bind_bk (d.bk _)).trans ?_
    refine (bind_bk (e.bk _)).trans ?_
    refine (bind_bk (f.bk _)).trans ?_
    refine (bind_bk (g.bk _)).trans ?_
    refine (bind_bk (n1.bk _)).trans ?_
    refine (bind_bk (n2.bk _)).trans ?_
    refine (bind_bk (n3.bk _)).trans ?_
    refine (bind_bk (n4.bk _)).trans ?_
    rfl
  · have := a.le; have := b.le; have := c.le; have := d.le; have := e.le; have := f.le; have := g.le
    simp only [objB, intsB, List.map_cons, List.map_nil, List.flatten_cons, List.flatten_nil, List.append_nil, List.length_append, numB_len]
    omega
theorem all_back {o : ObjD} (h : mayO o = true) (hf : Fit o) : getAll (objB o) = some o := by
  have := (okO h hf).bk []
  rw [List.append_nil] at this
  unfold getAll
  rw [this]
  simp [h]
theorem all_short {o : ObjD} (h : mayO o = true) (hf : Fit o) {n : Nat} (hn : n < (objB o).length) : getAll ((objB o).take n) = none := by
  have h1 := (okO h hf).bk []
  rw [List.append_nil] at h1
  unfold getAll
  cases h2 : getO ((objB o).take n) with
  | none => rfl
  | some x =>
    obtain ⟨p, r⟩ := x
    have h3 := moO _ _ _ ((objB o).drop n) h2
    rw [List.take_append_drop, h1] at h3
    simp only [Option.some.injEq, Prod.mk.injEq] at h3
    have h4 : (objB o).drop n = [] := by
      cases h5 : (objB o).drop n with
      | nil => rfl
      | cons x y => rw [h5] at h3; simp at h3
    have : (objB o).length ≤ n := by simpa using h4
    omega
theorem obj_one {a b : ObjD} (ha : mayO a = true) (fa : Fit a) (hb : mayO b = true) (fb : Fit b) (h : objB a = objB b) : a = b := by
  have h1 := (okO ha fa).bk []
  have h2 := (okO hb fb).bk []
  rw [h, h2] at h1
  simp only [Option.some.injEq, Prod.mk.injEq] at h1
  exact h1.1.symm
theorem obj_pos (o : ObjD) : 0 < (objB o).length := by
  simp only [objB, faceB, textB, List.length_append, numB_len]
  omega
end Go.Proofs.YthfeojjfehbgjaaGreatDoor.obj
