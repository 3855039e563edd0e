/- What was written is read as it was; bytes behind what is read stay. Plain facts. An object that may be is read as it was written; no shorter row is; how long its bytes are. Plain facts. -/
import Derived.Test.YthfeojjfehbgjaaGreatDoorOGObjSpec
namespace Go.Proofs.YthfeojjfehbgjaaGreatDoor.obj
open Go.RowKit
open Go.Proofs.YthfeojjfehbgjaaGreatDoor.face (VarD ProcD FaceD apartB)
open Go.Proofs.YthfeojjfehbgjaaGreatDoor.mac (Ins hasB)
open Go.Proofs.YthfeojjfehbgjaaGreatDoor.syn (isName eqS)
set_option linter.unusedVariables false
theorem byteB_nat (n : Int) (k : Nat) : ((byteB n k).toNat : Int) = (n / (2 : Int) ^ k) % 256 := by
  unfold byteB
  have h0 := Int.emod_nonneg (n / (2 : Int) ^ k) (show (256 : Int) ≠ 0 by decide)
  have h1 := Int.emod_lt_of_pos (n / (2 : Int) ^ k) (show (0 : Int) < 256 by decide)
  rw [UInt8.toNat_ofNat']
  omega
theorem numB_len (n : Int) : (numB n).length = 8 := rfl
def I64 (n : Int) : Prop := -9223372036854775808 ≤ n ∧ n < 9223372036854775808
theorem dig (q : Int) (m : Int) (hm : m = 256 ∨ m = 65536 ∨ m = 16777216 ∨ m = 4294967296 ∨ m = 1099511627776 ∨ m = 281474976710656 ∨ m = 72057594037927936) : (q / 256 % m) * 256 + q % 256 = q % (m * 256) := by
  rcases hm with rfl | rfl | rfl | rfl | rfl | rfl | rfl <;> omega
theorem num_nat (n : Int) : ((natOf (numB n) : Nat) : Int) = n % 18446744073709551616 := by
  have h := fun k => byteB_nat n k
  have e : ∀ k, n / (2 : Int) ^ (k + 8) = n / (2 : Int) ^ k / 256 := fun k => by
    rw [Int.pow_add, Int.ediv_ediv_of_nonneg (Int.pow_nonneg (by decide))]; rfl
  have h56 := h 56; have h48 := h 48; have h40 := h 40; have h32 := h 32; have h24 := h 24; have h16 := h 16; have h8 := h 8; have h0 := h 0
  have e56 := e 48; have e48 := e 40; have e40 := e 32; have e32 := e 24; have e24 := e 16; have e16 := e 8; have e8 := e 0
  simp only [Nat.reduceAdd] at e56 e48 e40 e32 e24 e16 e8
  rw [e56] at h56
  simp only [natOf, numB, List.foldl_cons, List.foldl_nil, Nat.zero_mul, Nat.zero_add, Int.natCast_add, Int.natCast_mul, Int.cast_ofNat_Int]
  rw [h56, h48, dig _ 256 (by simp), e48, h40, dig _ _ (by simp), e40, h32, dig _ _ (by simp), e32, h24, dig _ _ (by simp), e24, h16, dig _ _ (by simp), e16, h8, dig _ _ (by simp), e8, h0, dig _ _ (by simp)]
  simp
theorem num_back {n : Int} (h : I64 n) : wrap64 (natOf (numB n)) = n := by
  obtain ⟨h1, h2⟩ := h
  rw [num_nat]
  unfold wrap64
  omega
/-- reads what was written -/
def Bk {α : Type} (f : α → By) (g : By → Option (α × By)) (x : α) : Prop := ∀ r, g (f x ++ r) = some (x, r)
/-- what stands behind stays -/
def Mo {α : Type} (g : By → Option (α × By)) : Prop := ∀ l x r s, g l = some (x, r) → g (l ++ s) = some (x, r ++ s)
theorem bkNum {n : Int} (h : I64 n) : Bk numB getNum n := fun r => by
  unfold getNum
  have e : (numB n ++ r).take 8 = numB n := rfl
  have e2 : (numB n ++ r).drop 8 = r := rfl
  rw [if_neg (by simp [numB_len]), e, e2, num_back h]
theorem moNum : Mo getNum := fun l x r s h => by
  unfold getNum at h ⊢
  split at h
  · cases h
  · rename_i h8
    simp only [Option.some.injEq, Prod.mk.injEq] at h
    obtain ⟨rfl, rfl⟩ := h
    rw [if_neg (by simp; omega), List.take_append_of_le_length (by omega), List.drop_append_of_le_length (by omega)]
theorem mo_bind {α β : Type} {g : By → Option (α × By)} {k : α × By → Option (β × By)} (hg : Mo g) (hk : ∀ a, Mo fun l => k (a, l)) : Mo fun l => (g l).bind k := fun l x r s h => by
  simp only [Option.bind_eq_some_iff] at h ⊢
  obtain ⟨⟨a, l2⟩, h1, h2⟩ := h
  exact ⟨(a, l2 ++ s), hg _ _ _ s h1, hk a _ _ _ s h2⟩
theorem mo_some {α : Type} (x : α) : Mo fun l => some (x, l) := fun l y r s h => by
  simp only [Option.some.injEq, Prod.mk.injEq] at h ⊢
  obtain ⟨rfl, rfl⟩ := h
  exact ⟨rfl, rfl⟩
theorem mo_if {α : Type} {p : Prop} {inst : Decidable p} {a b : By → Option (α × By)} (ha : Mo a) (hb : Mo b) : Mo fun l => if p then a l else b l := by
  by_cases h : p
  · simpa [h] using ha
  · simpa [h] using hb
theorem mo_none {α : Type} : Mo (fun _ => (none : Option (α × By))) := fun l x r s h => by cases h
theorem moSize : Mo getSize := by
  refine mo_bind moNum fun a => ?_; dsimp only
  by_cases h : a < 0
  · simp only [h, if_true]; exact mo_none
  · simp only [h, if_false]; exact mo_some _
theorem moBool : Mo getBool := by
  refine mo_bind moNum fun a => ?_; dsimp only
  by_cases h : a = 0
  · simp only [h, if_true]; exact mo_some _
  · by_cases h1 : a = 1
    · simp only [h1, if_true, if_neg (show ¬ (1 : Int) = 0 by decide)]; exact mo_some _
    · simp only [h, h1, if_false]; exact mo_none
theorem moText : Mo getText := mo_bind moSize fun n l x r s h => by
  dsimp only at h ⊢
  split at h
  · cases h
  · rename_i hn
    simp only [Option.some.injEq, Prod.mk.injEq] at h
    obtain ⟨rfl, rfl⟩ := h
    rw [if_neg (by simp; omega), List.take_append_of_le_length (by omega), List.drop_append_of_le_length (by omega)]
theorem moN {α : Type} {g : By → Option (α × By)} (hg : Mo g) : ∀ n, Mo (getN g n)
  | 0 => mo_some _
  | n + 1 => by
    show Mo fun l => (g l).bind fun x => (getN g n x.2).bind fun y => some (x.1 :: y.1, y.2)
    refine mo_bind hg fun _ => ?_; dsimp only
    refine mo_bind (moN hg n) fun _ => ?_; dsimp only
    exact mo_some _
theorem moL {α : Type} {g : By → Option (α × By)} (hg : Mo g) : Mo (getL g) := by
  refine mo_bind moSize fun _ => ?_; dsimp only
  exact moN hg _
theorem moVar : Mo getVar := by
  refine mo_bind moText fun _ => ?_; dsimp only
  refine mo_bind moBool fun _ => ?_; dsimp only
  refine mo_bind moNum fun _ => ?_; dsimp only
  refine mo_bind moNum fun _ => ?_; dsimp only
  exact mo_some _
theorem moProc : Mo getProc := by
  refine mo_bind moText fun _ => ?_; dsimp only
  refine mo_bind moBool fun _ => ?_; dsimp only
  refine mo_bind (moL moNum) fun _ => ?_; dsimp only
  refine mo_bind moNum fun _ => ?_; dsimp only
  refine mo_bind moBool fun _ => ?_; dsimp only
  refine mo_bind moNum fun _ => ?_; dsimp only
  exact mo_some _
theorem moFace : Mo getFace := by
  refine mo_bind moText fun _ => ?_; dsimp only
  refine mo_bind (moL moVar) fun _ => ?_; dsimp only
  refine mo_bind (moL moProc) fun _ => ?_; dsimp only
  exact mo_some _
theorem moIns : Mo getIns := by
  refine mo_bind moNum fun _ => ?_; dsimp only
  refine mo_bind moNum fun _ => ?_; dsimp only
  refine mo_bind moNum fun _ => ?_; dsimp only
  refine mo_bind moNum fun _ => ?_; dsimp only
  refine mo_bind moNum fun _ => ?_; dsimp only
  exact mo_some _
theorem moRel : Mo getRel := by
  refine mo_bind moNum fun _ => ?_; dsimp only
  refine mo_bind moNum fun _ => ?_; dsimp only
  refine mo_bind moText fun _ => ?_; dsimp only
  refine mo_bind moText fun _ => ?_; dsimp only
  exact mo_some _
theorem moPlc : Mo getPlc := by
  refine mo_bind moText fun _ => ?_; dsimp only
  refine mo_bind moNum fun _ => ?_; dsimp only
  exact mo_some _
theorem moO : Mo getO := by
  refine mo_bind moFace fun _ => ?_; dsimp only
  refine mo_bind (moL moFace) fun _ => ?_; dsimp only
  refine mo_bind (moL moIns) fun _ => ?_; dsimp only
  refine mo_bind (moL moRel) fun _ => ?_; dsimp only
  refine mo_bind (moL moPlc) fun _ => ?_; dsimp only
  refine mo_bind (moL moPlc) fun _ => ?_; dsimp only
  refine mo_bind (moL moPlc) fun _ => ?_; dsimp only
  refine mo_bind moNum fun _ => ?_; dsimp only
  refine mo_bind moNum fun _ => ?_; dsimp only
  refine mo_bind moNum fun _ => ?_; dsimp only
  refine mo_bind moNum fun _ => ?_; dsimp only
  exact mo_some _
/-! back -/
theorem bkSize {n : Nat} (h : n < 9223372036854775808) (r : By) : getSize (numB n ++ r) = some (n, r) := by
  unfold getSize
  rw [bkNum (n := (n : Int)) ⟨by omega, by omega⟩ r]
  simp only [Option.bind_some]
  rw [if_neg (by omega)]
  simp
theorem bkBool (b : Bool) : Bk boolB getBool b := fun r => by
  unfold getBool boolB
  cases b
  · rw [show (if false = true then (1 : Int) else 0) = 0 from rfl, bkNum (n := 0) ⟨by decide, by decide⟩ r]; rfl
  · rw [show (if true = true then (1 : Int) else 0) = 1 from rfl, bkNum (n := 1) ⟨by decide, by decide⟩ r]; rfl
theorem bkText {x : ByteArray} (h : x.size < 9223372036854775808) : Bk textB getText x := fun r => by
  unfold getText textB
  have e : x.data.toList.length = x.size := rfl
  rw [List.append_assoc, bkSize h]
  simp only [Option.bind_some]
  rw [if_neg (by rw [List.length_append]; omega), List.take_append_of_le_length (by omega), List.take_of_length_le (by omega)]
  have e2 : (x.data.toList ++ r).drop x.size = r := by rw [← e]; simp
  rw [e2]
theorem bkN {α : Type} {f : α → By} {g : By → Option (α × By)} : ∀ (l : List α), (∀ x ∈ l, Bk f g x) → ∀ r, getN g l.length ((l.map f).flatten ++ r) = some (l, r)
  | [], _, r => rfl
  | x :: l, h, r => by
    show (g _).bind _ = _
    rw [List.map_cons, List.flatten_cons, List.append_assoc, h x (by simp)]
    simp only [Option.bind_some]
    rw [bkN l (fun y hy => h y (by simp [hy]))]
    rfl
theorem bkL {α : Type} {f : α → By} {g : By → Option (α × By)} {l : List α} (hl : l.length < 9223372036854775808) (h : ∀ x ∈ l, Bk f g x) : Bk (listB f) (getL g) l := fun r => by
  unfold getL listB
  rw [List.append_assoc, bkSize hl]
  exact bkN l h r
end Go.Proofs.YthfeojjfehbgjaaGreatDoor.obj
namespace Go.Proofs.YthfeojjfehbgjaaGreatDoor.obj
open Go.RowKit
open Go.Proofs.YthfeojjfehbgjaaGreatDoor.face (VarD ProcD FaceD apartB)
open Go.Proofs.YthfeojjfehbgjaaGreatDoor.mac (Ins hasB)
open Go.Proofs.YthfeojjfehbgjaaGreatDoor.syn (isName eqS)
set_option linter.unusedVariables false
/-- numbers that fit, lists that are not too long -/
structure Fit (o : ObjD) : Prop where
  n : ∀ i ∈ o.code, I64 i.n
  rel : o.relocs.length ≤ 1048576
  procs : o.procs.length ≤ 1048576
  lows : o.lows.length ≤ 1048576
  highs : o.highs.length ≤ 1048576
theorem name_le {x : ByteArray} (h : isName x = true) : x.size ≤ 16 := by
  unfold isName at h
  simp only [Bool.and_eq_true, decide_eq_true_eq] at h
  exact h.1.1.1.2
theorem empty_le {x : ByteArray} (h : emptyB x = true) : x.size ≤ 16 := by
  unfold emptyB at h
  rw [ByteArray.toList_eq, List.isEmpty_iff] at h
  show x.data.size ≤ 16
  rw [← Array.length_toList, h]
  simp
theorem lab_i {n : Int} (h : face.labelB n = true) : I64 n := by
  unfold face.labelB at h
  simp at h
  unfold I64
  omega
/-! back -/
/-- reads it, and has so many bytes at most -/
structure Ok {α : Type} (f : α → By) (g : By → Option (α × By)) (k : Nat) (x : α) : Prop where
  bk : Bk f g x
  le : (f x).length ≤ k
theorem flat_le {α : Type} {f : α → By} {k : Nat} : ∀ {l : List α}, (∀ x ∈ l, (f x).length ≤ k) → (l.map f).flatten.length ≤ k * l.length
  | [], _ => by simp
  | x :: r, h => by
    have h1 := h x (by simp)
    have h2 := flat_le (l := r) (fun y hy => h y (by simp [hy]))
    simp only [List.map_cons, List.flatten_cons, List.length_append, List.length_cons, Nat.mul_add, Nat.mul_one]
    omega
theorem okNum {n : Int} (h : I64 n) : Ok numB getNum 8 n := ⟨bkNum h, by simp [numB_len]⟩
theorem okBool (b : Bool) : Ok boolB getBool 8 b := ⟨bkBool b, by simp [boolB, numB_len]⟩
theorem okText {x : ByteArray} (h : x.size ≤ 16) : Ok textB getText 24 x := ⟨bkText (by omega), by
  have e : x.data.toList.length = x.size := rfl
  simp only [textB, List.length_append, numB_len]
  omega⟩
theorem okL {α : Type} {f : α → By} {g : By → Option (α × By)} {k n : Nat} {l : List α} (hl : l.length ≤ n) (hn : n ≤ 1048576) (h : ∀ x ∈ l, Ok f g k x) : Ok (listB f) (getL g) (8 + k * n) l := ⟨bkL (by omega) fun x hx => (h x hx).bk, by
  have h1 := flat_le fun x hx => (h x hx).le
  have h2 := Nat.mul_le_mul_left k hl
  simp only [listB, List.length_append, numB_len]
  omega⟩
theorem bind_bk {α β : Type} {x : Option (α × By)} {a : α} {r : By} {k : α × By → Option β} (h : x = some (a, r)) : x.bind k = k (a, r) := by rw [h]; rfl
theorem okVar {v : VarD} (h : face.mayVarB v = true) : Ok varB getVar 48 v := by
  unfold face.mayVarB at h
  simp only [Bool.and_eq_true, decide_eq_true_eq] at h
  obtain ⟨h1, _, h2, h3, h4⟩ := h
  have a := okText (name_le h1)
  have b := okBool v.pub
  have c := okNum (lab_i h2)
  have d := okNum (n := v.size) ⟨by omega, by omega⟩
  refine ⟨fun r => ?_, ?_⟩
  · unfold getVar varB intsB
    simp only [List.map_cons, List.map_nil, List.flatten_cons, List.flatten_nil, List.append_nil, List.append_assoc]
    refine (bind_bk (a.bk _)).trans ?_
    refine (bind_bk (b.bk _)).trans ?_
    refine (bind_bk (c.bk _)).trans ?_
    refine (bind_bk (d.bk _)).trans ?_
    rfl
  · have := a.le; have := b.le
    simp only [varB, intsB, List.map_cons, List.map_nil, List.flatten_cons, List.flatten_nil, List.append_nil, List.length_append, numB_len]
    omega
theorem okProc {v : ProcD} (h : face.mayProcB v = true) : Ok procB getProc 104 v := by
  unfold face.mayProcB at h
  simp only [Bool.and_eq_true, decide_eq_true_eq] at h
  obtain ⟨h1, _, h2, h3, h4, h5, _⟩ := h
  have a := okText (name_le h1)
  have b := okBool v.pub
  have c := okL (n := 5) h2 (by decide) fun x hx => okNum (lab_i (List.all_eq_true.1 h3 x hx))
  have d := okNum (lab_i h4)
  have e := okBool v.gives
  have f := okNum (lab_i h5)
  refine ⟨fun r => ?_, ?_⟩
  · unfold getProc procB
    simp only [List.append_assoc]
    refine (bind_bk (a.bk _)).trans ?_
    refine (bind_bk (b.bk _)).trans ?_
    refine (bind_bk (c.bk _)).trans ?_
    refine (bind_bk (d.bk _)).trans ?_
    refine (bind_bk (e.bk _)).trans ?_
    refine (bind_bk (f.bk _)).trans ?_
    rfl
  · have := a.le; have := b.le; have := c.le; have := e.le
    simp only [procB, List.length_append, numB_len]
    omega
theorem okFace {v : FaceD} (h : face.mayB v = true) : Ok faceB getFace 3080 v := by
  unfold face.mayB at h
  simp only [Bool.and_eq_true, decide_eq_true_eq] at h
  obtain ⟨h1, h2, h3, h4, _⟩ := h
  have a := okText (name_le h1)
  have b := okL (n := 20) (l := v.vars) (by omega) (by decide) fun x hx => okVar (List.all_eq_true.1 h3 x hx)
  have c := okL (n := 20) (l := v.procs) (by omega) (by decide) fun x hx => okProc (List.all_eq_true.1 h4 x hx)
  refine ⟨fun r => ?_, ?_⟩
  · unfold getFace faceB
    simp only [List.append_assoc]
    refine (bind_bk (a.bk _)).trans ?_
    refine (bind_bk (b.bk _)).trans ?_
    refine (bind_bk (c.bk _)).trans ?_
    rfl
  · have := a.le; have := b.le; have := c.le
    simp only [faceB, List.length_append]
    omega
theorem has_i {i : Ins} (h : hasB i = true) : I64 i.op ∧ I64 i.a ∧ I64 i.b ∧ I64 i.c := by
  unfold hasB at h
  split at h
  · cases h
  · simp only [Bool.and_eq_true] at h
    have ha := mac.regB_le h.1.1.1.2
    have hb := mac.regB_le h.1.1.2
    have hc := mac.regB_le h.1.2
    refine ⟨?_, ⟨by omega, by omega⟩, ⟨by omega, by omega⟩, ⟨by omega, by omega⟩⟩
    have h1 := h.1.1.1.1
    by_cases hx : -9223372036854775808 ≤ i.op ∧ i.op < 9223372036854775808
    · exact hx
    exfalso
    unfold mac.fld at h1
    rw [if_neg (by omega), if_neg (by omega), if_neg (by omega), if_neg (by omega), if_neg (by omega), if_neg (by omega), if_neg (by omega), if_neg (by omega), if_neg (by omega), if_neg (by omega), if_neg (by omega), if_neg (by omega), if_neg (by omega), if_neg (by omega), if_neg (by omega), if_neg (by omega), if_neg (by omega)] at h1
    simp only [Bool.and_eq_true, decide_eq_true_eq] at h1
    omega
theorem okIns {i : Ins} (h : hasB i = true) (hn : I64 i.n) : Ok insB getIns 40 i := by
  obtain ⟨h1, h2, h3, h4⟩ := has_i h
  refine ⟨fun r => ?_, by simp [insB, intsB, numB_len]⟩
  unfold getIns insB intsB
  simp only [List.map_cons, List.map_nil, List.flatten_cons, List.flatten_nil, List.append_nil, List.append_assoc]
  refine (bind_bk (bkNum h1 _)).trans ?_
  refine (bind_bk (bkNum h2 _)).trans ?_
  refine (bind_bk (bkNum h3 _)).trans ?_
  refine (bind_bk (bkNum h4 _)).trans ?_
  refine (bind_bk (bkNum hn _)).trans ?_
  rfl
theorem relocs_mem {n : Int} : ∀ {l : List RelD} {m : Int}, 0 ≤ m → relocsB n m l = true → ∀ r ∈ l, relB r = true ∧ 0 ≤ r.at' ∧ r.at' < n
  | [], _, _, _, _, h => by cases h
  | x :: l, m, hm, h, r, hr => by
    have h : (relAt n m x && relocsB n (x.at' + 1) l) = true := h
    simp only [relAt, Bool.and_eq_true, decide_eq_true_eq] at h
    obtain ⟨⟨h1, h2, h3⟩, h4⟩ := h
    rcases List.mem_cons.1 hr with rfl | hr
    · exact ⟨h3, by omega, h2⟩
    · exact relocs_mem (by omega) h4 r hr
theorem rel_i {r : RelD} (h : relB r = true) : I64 r.kind ∧ r.module.size ≤ 16 ∧ r.name.size ≤ 16 := by
  unfold relB at h
  unfold I64
  split at h
  · simp only [Bool.and_eq_true] at h
    exact ⟨by omega, empty_le h.1, empty_le h.2⟩
  · split at h
    · simp only [Bool.and_eq_true] at h
      exact ⟨by omega, name_le h.1, name_le h.2⟩
    · cases h
theorem okRel {n : Int} {r : RelD} (hn : n ≤ 20000) (h : relB r = true ∧ 0 ≤ r.at' ∧ r.at' < n) : Ok relBy getRel 64 r := by
  obtain ⟨h1, h2, h3⟩ := h
  obtain ⟨h4, h5, h6⟩ := rel_i h1
  have a := okNum (n := r.at') ⟨by omega, by omega⟩
  have b := okNum h4
  have c := okText h5
  have d := okText h6
  refine ⟨fun s => ?_, ?_⟩
  · unfold getRel relBy intsB
    simp only [List.map_cons, List.map_nil, List.flatten_cons, List.flatten_nil, List.append_nil, List.append_assoc]
    refine (bind_bk (a.bk _)).trans ?_
    refine (bind_bk (b.bk _)).trans ?_
    refine (bind_bk (c.bk _)).trans ?_
    refine (bind_bk (d.bk _)).trans ?_
    rfl
  · have := c.le; have := d.le
    simp only [relBy, intsB, List.map_cons, List.map_nil, List.flatten_cons, List.flatten_nil, List.append_nil, List.length_append, numB_len]
    omega
theorem okPlc {n : Int} {p : PlcD} (hn : n ≤ 20000) (h : plcB n p = true) : Ok plcBy getPlc 32 p := by
  simp only [plcB, Bool.and_eq_true, decide_eq_true_eq] at h
  obtain ⟨h1, h2, h3⟩ := h
  have a := okText (name_le h1)
  have b := okNum (n := p.at') ⟨by omega, by omega⟩
  refine ⟨fun s => ?_, ?_⟩
  · unfold getPlc plcBy
    simp only [List.append_assoc]
    refine (bind_bk (a.bk _)).trans ?_
    refine (bind_bk (b.bk _)).trans ?_
    rfl
  · have := a.le
    simp only [plcBy, List.length_append, numB_len]
    omega
theorem okPlcs {n : Int} {l : List PlcD} (hn : n ≤ 20000) (hl : l.length ≤ 1048576) (h : placesB l n = true) : Ok (listB plcBy) (getL getPlc) (8 + 32 * 1048576) l := by
  simp only [placesB, Bool.and_eq_true] at h
  exact okL (k := 32) (n := 1048576) hl (Nat.le_refl _) fun p hp => okPlc hn (List.all_eq_true.1 h.1 p hp)
theorem okO {o : ObjD} (h : mayO o = true) (hf : Fit o) : Ok objB getO 200000000 o := by
  simp only [mayO, facesB, codeB, wordsB, Bool.and_eq_true, decide_eq_true_eq] at h
  obtain ⟨⟨h1, h2, h3, _⟩, ⟨h4, h5⟩, h6, h7, h8, h9, h10⟩ := h
  have w : ∀ x, x = o.low ∨ x = o.high ∨ x = o.lowF ∨ x = o.highF → 0 ≤ x ∧ x ≤ 20000 := fun x hx => by
    have := List.all_eq_true.1 h7 x (by simpa using hx)
    simpa [wordB] using this
  have wl := w o.low (by simp); have wh := w o.high (by simp); have wf := w o.lowF (by simp); have wg := w o.highF (by simp)
  have a := okFace h1
  have b := okL (k := 3080) (n := 5) h2 (by decide) fun x hx => okFace (List.all_eq_true.1 h3 x hx)
  have c := okL (k := 40) (n := 20000) h4 (by decide) fun x hx => okIns (List.all_eq_true.1 h5 x hx) (hf.n x hx)
  have d := okL (k := 64) (n := 1048576) hf.rel (Nat.le_refl _) fun x hx => okRel (n := o.code.length) (by omega) (relocs_mem (by omega) h6 x hx)
  have e := okPlcs (n := o.code.length) (by omega) hf.procs h8
  have f := okPlcs (by omega) hf.lows h9
  have g := okPlcs (by omega) hf.highs h10
  have n1 := okNum (n := o.low) ⟨by omega, by omega⟩
  have n2 := okNum (n := o.high) ⟨by omega, by omega⟩
  have n3 := okNum (n := o.lowF) ⟨by omega, by omega⟩
  have n4 := okNum (n := o.highF) ⟨by omega, by omega⟩
  refine ⟨fun s => ?_, ?_⟩
  · unfold getO objB intsB
    simp only [List.map_cons, List.map_nil, List.flatten_cons, List.flatten_nil, List.append_nil, List.append_assoc]
    refine (bind_bk (a.bk _)).trans ?_
    refine (bind_bk (b.bk _)).trans ?_
    refine (bind_bk (c.bk _)).trans ?_
    refine (bind_bk (d.bk _)).trans ?_
    refine (bind_bk (e.bk _)).trans ?_
    refine (bind_bk (f.bk _)).trans ?_
    refine (bind_bk (g.bk _)).trans ?_
    refine (bind_bk (n1.bk _)).trans ?_
    refine (bind_bk (n2.bk _)).trans ?_
    refine (bind_bk (n3.bk _)).trans ?_
    refine (bind_bk (n4.bk _)).trans ?_
    rfl
  · have := a.le; have := b.le; have := c.le; have := d.le; have := e.le; have := f.le; have := g.le
    simp only [objB, intsB, List.map_cons, List.map_nil, List.flatten_cons, List.flatten_nil, List.append_nil, List.length_append, numB_len]
    omega
theorem all_back {o : ObjD} (h : mayO o = true) (hf : Fit o) : getAll (objB o) = some o := by
  have := (okO h hf).bk []
  rw [List.append_nil] at this
  unfold getAll
  rw [this]
  simp [h]
theorem all_short {o : ObjD} (h : mayO o = true) (hf : Fit o) {n : Nat} (hn : n < (objB o).length) : getAll ((objB o).take n) = none := by
  have h1 := (okO h hf).bk []
  rw [List.append_nil] at h1
  unfold getAll
  cases h2 : getO ((objB o).take n) with
  | none => rfl
  | some x =>
    obtain ⟨p, r⟩ := x
    have h3 := moO _ _ _ ((objB o).drop n) h2
    rw [List.take_append_drop, h1] at h3
    simp only [Option.some.injEq, Prod.mk.injEq] at h3
    have h4 : (objB o).drop n = [] := by
      cases h5 : (objB o).drop n with
      | nil => rfl
      | cons x y => rw [h5] at h3; simp at h3
    have : (objB o).length ≤ n := by simpa using h4
    omega
theorem obj_one {a b : ObjD} (ha : mayO a = true) (fa : Fit a) (hb : mayO b = true) (fb : Fit b) (h : objB a = objB b) : a = b := by
  have h1 := (okO ha fa).bk []
  have h2 := (okO hb fb).bk []
  rw [h, h2] at h1
  simp only [Option.some.injEq, Prod.mk.injEq] at h1
  exact h1.1.symm
theorem obj_pos (o : ObjD) : 0 < (objB o).length := by
  simp only [objB, faceB, textB, List.length_append, numB_len]
  omega
end Go.Proofs.YthfeojjfehbgjaaGreatDoor.obj
