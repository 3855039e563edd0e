/- What was written is read as it was; bytes behind what is read stay. Plain facts. -/
import Derived.Test.YthfeojjfehbgjaaGreatDoorOPObjSpec
namespace Go.Proofs.YthfeojjfehbgjaaGreatDoor.obj
open Go.RowKit
open Go.Proofs.YthfeojjfehbgjaaGreatDoor.face (VarD ProcD FaceD apartB)
open Go.Proofs.YthfeojjfehbgjaaGreatDoor.mac (Ins hasB)
open Go.Proofs.YthfeojjfehbgjaaGreatDoor.syn (isName eqS)
set_option linter.unusedVariables false
theorem byteB_nat (n : Int) (k : Nat) : ((byteB n k).toNat : Int) = (n / (2 : Int) ^ k) % 256 := by
  unfold byteB
  have h0 := Int.emod_nonneg (n / (2 : Int) ^ k) (show (256 : Int) ≠ 0 by decide)
  have h1 := Int.emod_lt_of_pos (n / (2 : Int) ^ k) (show (0 : Int) < 256 by decide)
  rw [UInt8.toNat_ofNat']
  omega
theorem numB_len (n : Int) : (numB n).length = 8 := rfl
def I64 (n : Int) : Prop := -9223372036854775808 ≤ n ∧ n < 9223372036854775808
theorem dig (q : Int) (m : Int) (hm : m = 256 ∨ m = 65536 ∨ m = 16777216 ∨ m = 4294967296 ∨ m = 1099511627776 ∨ m = 281474976710656 ∨ m = 72057594037927936) : (q / 256 % m) * 256 + q % 256 = q % (m * 256) := by
  rcases hm with rfl | rfl | rfl | rfl | rfl | rfl | rfl <;> omega
theorem num_nat (n : Int) : ((natOf (numB n) : Nat) : Int) = n % 18446744073709551616 := by
  have h := fun k => byteB_nat n k
  have e : ∀ k, n / (2 : Int) ^ (k + 8) = n / (2 : Int) ^ k / 256 := fun k => by
    rw [Int.pow_add, Int.ediv_ediv_of_nonneg (Int.pow_nonneg (by decide))]; rfl
  have h56 := h 56; have h48 := h 48; have h40 := h 40; have h32 := h 32; have h24 := h 24; have h16 := h 16; have h8 := h 8; have h0 := h 0
  have e56 := e 48; have e48 := e 40; have e40 := e 32; have e32 := e 24; have e24 := e 16; have e16 := e 8; have e8 := e 0
  simp only [Nat.reduceAdd] at e56 e48 e40 e32 e24 e16 e8
  rw [e56] at h56
  simp only [natOf, numB, List.foldl_cons, List.foldl_nil, Nat.zero_mul, Nat.zero_add, Int.natCast_add, Int.natCast_mul, Int.cast_ofNat_Int]
  rw [h56, h48, dig _ 256 (by simp), e48, h40, dig _ _ (by simp), e40, h32, dig _ _ (by simp), e32, h24, dig _ _ (by simp), e24, h16, dig _ _ (by simp), e16, h8, dig _ _ (by simp), e8, h0, dig _ _ (by simp)]
  simp
theorem num_back {n : Int} (h : I64 n) : wrap64 (natOf (numB n)) = n := by
  obtain ⟨h1, h2⟩ := h
  rw [num_nat]
  unfold wrap64
  omega
/-- reads what was written -/
def Bk {α : Type} (f : α → By) (g : By → Option (α × By)) (x : α) : Prop := ∀ r, g (f x ++ r) = some (x, r)
/-- what stands behind stays -/
def Mo {α : Type} (g : By → Option (α × By)) : Prop := ∀ l x r s, g l = some (x, r) → g (l ++ s) = some (x, r ++ s)
theorem bkNum {n : Int} (h : I64 n) : Bk numB getNum n := fun r => by
  unfold getNum
  have e : (numB n ++ r).take 8 = numB n := rfl
  have e2 : (numB n ++ r).drop 8 = r := rfl
  rw [if_neg (by simp [numB_len]), e, e2, num_back h]
theorem moNum : Mo getNum := fun l x r s h => by
  unfold getNum at h ⊢
  split at h
  · cases h
  · rename_i h8
    simp only [Option.some.injEq, Prod.mk.injEq] at h
    obtain ⟨rfl, rfl⟩ := h
    rw [if_neg (by simp; omega), List.take_append_of_le_length (by omega), List.drop_append_of_le_length (by omega)]
theorem mo_bind {α β : Type} {g : By → Option (α × By)} {k : α × By → Option (β × By)} (hg : Mo g) (hk : ∀ a, Mo fun l => k (a, l)) : Mo fun l => (g l).bind k := fun l x r s h => by
  simp only [Option.bind_eq_some_iff] at h ⊢
  obtain ⟨⟨a, l2⟩, h1, h2⟩ := h
  exact ⟨(a, l2 ++ s), hg _ _ _ s h1, hk a _ _ _ s h2⟩
theorem mo_some {α : Type} (x : α) : Mo fun l => some (x, l) := fun l y r s h => by
  simp only [Option.some.injEq, Prod.mk.injEq] at h ⊢
  obtain ⟨rfl, rfl⟩ := h
  exact ⟨rfl, rfl⟩
theorem mo_if {α : Type} {p : Prop} {inst : Decidable p} {a b : By → Option (α × By)} (ha : Mo a) (hb : Mo b) : Mo fun l => if p then a l else b l := by
  by_cases h : p
  · simpa [h] using ha
  · simpa [h] using hb
theorem mo_none {α : Type} : Mo (fun _ => (none : Option (α × By))) := fun l x r s h => by cases h
theorem moSize : Mo getSize := by
  refine mo_bind moNum fun a => ?_; dsimp only
  by_cases h : a < 0
  · simp only [h, if_true]; exact mo_none
  · simp only [h, if_false]; exact mo_some _
theorem moBool : Mo getBool := by
  refine mo_bind moNum fun a => ?_; dsimp only
  by_cases h : a = 0
  · simp only [h, if_true]; exact mo_some _
  · by_cases h1 : a = 1
    · simp only [h1, if_true, if_neg (show ¬ (1 : Int) = 0 by decide)]; exact mo_some _
    · simp only [h, h1, if_false]; exact mo_none
theorem moText : Mo getText := mo_bind moSize fun n l x r s h => by
  dsimp only at h ⊢
  split at h
  · cases h
  · rename_i hn
    simp only [Option.some.injEq, Prod.mk.injEq] at h
    obtain ⟨rfl, rfl⟩ := h
    rw [if_neg (by simp; omega), List.take_append_of_le_length (by omega), List.drop_append_of_le_length (by omega)]
theorem moN {α : Type} {g : By → Option (α × By)} (hg : Mo g) : ∀ n, Mo (getN g n)
  | 0 => mo_some _
  | n + 1 => by
    show Mo fun l => (g l).bind fun x => (getN g n x.2).bind fun y => some (x.1 :: y.1, y.2)
    refine mo_bind hg fun _ => ?_; dsimp only
    refine mo_bind (moN hg n) fun _ => ?_; dsimp only
    exact mo_some _
theorem moL {α : Type} {g : By → Option (α × By)} (hg : Mo g) : Mo (getL g) := by
  refine mo_bind moSize fun _ => ?_; dsimp only
  exact moN hg _
theorem moVar : Mo getVar := by
  refine mo_bind moText fun _ => ?_; dsimp only
  refine mo_bind moBool fun _ => ?_; dsimp only
  refine mo_bind moNum fun _ => ?_; dsimp only
  refine mo_bind moNum fun _ => ?_; dsimp only
  exact mo_some _
theorem moProc : Mo getProc := by
  refine mo_bind moText fun _ => ?_; dsimp only
  refine mo_bind moBool fun _ => ?_; dsimp only
  refine mo_bind (moL moNum) fun _ => ?_; dsimp only
  refine mo_bind moNum fun _ => ?_; dsimp only
  refine mo_bind moBool fun _ => ?_; dsimp only
  refine mo_bind moNum fun _ => ?_; dsimp only
  exact mo_some _
theorem moFace : Mo getFace := by
  refine mo_bind moText fun _ => ?_; dsimp only
  refine mo_bind (moL moVar) fun _ => ?_; dsimp only
  refine mo_bind (moL moProc) fun _ => ?_; dsimp only
  exact mo_some _
theorem moIns : Mo getIns := by
  refine mo_bind moNum fun _ => ?_; dsimp only
  refine mo_bind moNum fun _ => ?_; dsimp only
  refine mo_bind moNum fun _ => ?_; dsimp only
  refine mo_bind moNum fun _ => ?_; dsimp only
  refine mo_bind moNum fun _ => ?_; dsimp only
  exact mo_some _
theorem moRel : Mo getRel := by
  refine mo_bind moNum fun _ => ?_; dsimp only
  refine mo_bind moNum fun _ => ?_; dsimp only
  refine mo_bind moText fun _ => ?_; dsimp only
  refine mo_bind moText fun _ => ?_; dsimp only
  exact mo_some _
theorem moPlc : Mo getPlc := by
  refine mo_bind moText fun _ => ?_; dsimp only
  refine mo_bind moNum fun _ => ?_; dsimp only
  exact mo_some _
theorem moO : Mo getO := by
  refine mo_bind moFace fun _ => ?_; dsimp only
  refine mo_bind (moL moFace) fun _ => ?_; dsimp only
  refine mo_bind (moL moIns) fun _ => ?_; dsimp only
  refine mo_bind (moL moRel) fun _ => ?_; dsimp only
  refine mo_bind (moL moPlc) fun _ => ?_; dsimp only
  refine mo_bind (moL moPlc) fun _ => ?_; dsimp only
  refine mo_bind (moL moPlc) fun _ => ?_; dsimp only
  refine mo_bind moNum fun _ => ?_; dsimp only
  refine mo_bind moNum fun _ => ?_; dsimp only
  refine mo_bind moNum fun _ => ?_; dsimp only
  refine mo_bind moNum fun _ => ?_; dsimp only
  exact mo_some _
/-! back -/
theorem bkSize {n : Nat} (h : n < 9223372036854775808) (r : By) : getSize (numB n ++ r) = some (n, r) := by
  unfold getSize
  rw [bkNum (n := (n : Int)) ⟨by omega, by omega⟩ r]
  simp only [Option.bind_some]
  rw [if_neg (by omega)]
  simp
theorem bkBool (b : Bool) : Bk boolB getBool b := fun r => by
  unfold getBool boolB
  cases b
  · rw [show (if false = true then (1 : Int) else 0) = 0 from rfl, bkNum (n := 0) ⟨by decide, by decide⟩ r]; rfl
  · rw [show (if true = true then (1 : Int) else 0) = 1 from rfl, bkNum (n := 1) ⟨by decide, by decide⟩ r]; rfl
theorem bkText {x : ByteArray} (h : x.size < 9223372036854775808) : Bk textB getText x := fun r => by
  unfold getText textB
  have e : x.data.toList.length = x.size := rfl
  rw [List.append_assoc, bkSize h]
  simp only [Option.bind_some]
  rw [if_neg (by rw [List.length_append]; omega), List.take_append_of_le_length (by omega), List.take_of_length_le (by omega)]
  have e2 : (x.data.toList ++ r).drop x.size = r := by rw [← e]; simp
  rw [e2]
theorem bkN {α : Type} {f : α → By} {g : By → Option (α × By)} : ∀ (l : List α), (∀ x ∈ l, Bk f g x) → ∀ r, getN g l.length ((l.map f).flatten ++ r) = some (l, r)
  | [], _, r => rfl
  | x :: l, h, r => by
    show (g _).bind _ = _
    rw [List.map_cons, List.flatten_cons, List.append_assoc, h x (by simp)]
    simp only [Option.bind_some]
    rw [bkN l (fun y hy => h y (by simp [hy]))]
    rfl
theorem bkL {α : Type} {f : α → By} {g : By → Option (α × By)} {l : List α} (hl : l.length < 9223372036854775808) (h : ∀ x ∈ l, Bk f g x) : Bk (listB f) (getL g) l := fun r => by
  unfold getL listB
  rw [List.append_assoc, bkSize hl]
  exact bkN l h r
end Go.Proofs.YthfeojjfehbgjaaGreatDoor.obj
