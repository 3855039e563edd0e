/- What lies when objects have been laid, and what is wrong first with them: plain functions. -/
import Derived.Test.YtaiocbbcjdpjgaaGreatDoorLMLnkRow
namespace Go.Proofs.YtaiocbbcjdpjgaaGreatDoor.lnk
open Go.Proofs.YtaiocbbcjdpjgaaGreatDoor.syn (isName eqS)
open Go.Proofs.YtaiocbbcjdpjgaaGreatDoor.mac (Ins)
open Go.Proofs.YtaiocbbcjdpjgaaGreatDoor.obj (ObjD PlcD RelD mayO)
open Go.Proofs.YtaiocbbcjdpjgaaGreatDoor.face (VarD ProcD FaceD FaceIn)
set_option linter.unusedVariables false
set_option linter.unusedSimpArgs false
/-- what is laid, without memory -/
structure PSt where
  code : List Ins
  low : Int
  high : Int
  begs : Thg → Option Int
  fcs : ByteArray → Option FaceD
def noIns : Ins := ⟨0, 0, 0, 0, 0⟩
def p0 : PSt := ⟨List.replicate 4 noIns, 0, 0, fun _ => none, fun _ => none⟩
def addP (s : PSt) (o : ObjD) : PSt :=
  { code := s.code ++ o.code, low := s.low + o.low, high := s.high + o.high,
    begs := placeF 4 o.face.module s.high (placeF 3 o.face.module s.low (placeF 2 o.face.module s.code.length (putT s.begs ⟨1, o.face.module, ⟨#[]⟩⟩ s.code.length) o.procs) o.lows) o.highs,
    fcs := fun z => if eqS z o.face.module then some o.face else s.fcs z }
def layP (l : List ObjD) : PSt := l.foldl addP p0
theorem layP_next {l : List ObjD} {i : Nat} (h : i < l.length) : layP (l.take (i + 1)) = addP (layP (l.take i)) l[i] := by
  unfold layP
  rw [List.take_succ_eq_append_getElem h, List.foldl_append]
  rfl
/-- what is wrong first as objects are laid -/
def layT : Int → PSt → List ObjD → Option (Int × Int × Int)
  | _, _, [] => none
  | i, q, o :: r => if mayO o = true then (if (q.fcs o.face.module).isSome = true then some (i, 5, 0) else layT (i + 1) (addP q o) r) else some (i, 2, 0)
theorem layT_at {i : Nat} {l : List ObjD} (h : i < l.length) : layT i (layP (l.take i)) (l.drop i) = if mayO l[i] = true then (if ((layP (l.take i)).fcs l[i].face.module).isSome = true then some ((i : Int), 5, 0) else layT ((i + 1 : Nat) : Int) (layP (l.take (i + 1))) (l.drop (i + 1))) else some ((i : Int), 2, 0) := by
  rw [List.drop_eq_getElem_cons h, layP_next h]
  rfl
def layR (l : List ObjD) : Option (Int × Int × Int) := if l.length = 0 ∨ 6 < l.length then some (0, 1, 0) else layT 0 p0 l
/-- what lies in memory is what is laid -/
structure SP (w0 : World) (s : St) (q : PSt) : Prop where
  code : s.code = q.code
  low : s.low = q.low
  high : s.high = q.high
  begs : s.begs = q.begs
  mods : FM w0 s.mods q.fcs
theorem SP.add {w0 : World} {s : St} {q : PSt} (h : SP w0 s q) {o : ObjD} {v : Value} (hv : FaceIn w0 v o.face) : SP w0 (addF s o v) (addP q o) := by
  obtain ⟨h1, h2, h3, h4, h5⟩ := h
  refine ⟨by simp [addF, addP, h1], by simp [addF, addP, h2], by simp [addF, addP, h3], by simp [addF, addP, h1, h2, h3, h4], fun z => ?_⟩
  show ((if eqS z o.face.module then some v else s.mods z) = none ∧ (if eqS z o.face.module then some o.face else q.fcs z) = none) ∨ _
  by_cases e : eqS z o.face.module = true
  · exact .inr ⟨v, o.face, by simp [addF, e], by simp [addP, e], hv⟩
  · rcases h5 z with ⟨a, b⟩ | ⟨u, fd, a, b, c⟩
    · exact .inl ⟨by simp [e, a], by simp [e, b]⟩
    · exact .inr ⟨u, fd, by simp [addF, e, a], by simp [addP, e, b], c⟩
/-- how much there is at most -/
structure Bnd (q : PSt) (n : Nat) : Prop where
  c : q.code.length ≤ 4 + 20000 * n
  c4 : 4 ≤ q.code.length
  l : 0 ≤ q.low ∧ q.low ≤ 20000 * n
  h : 0 ≤ q.high ∧ q.high ≤ 20000 * n
theorem name_16 {x : ByteArray} (h : isName x = true) : x.size ≤ 16 := by
  unfold isName at h
  simp only [Bool.and_eq_true, decide_eq_true_eq] at h
  exact h.1.1.1.2
theorem may_parts {o : ObjD} (h : mayO o = true) : face.mayB o.face = true ∧ (∀ q ∈ o.imports, face.mayB q = true) ∧ o.code.length ≤ 20000 ∧ obj.relocsB o.code.length 0 o.relocs = true ∧ (0 ≤ o.low ∧ o.low ≤ 20000) ∧ (0 ≤ o.high ∧ o.high ≤ 20000) ∧ (0 ≤ o.lowF ∧ o.lowF ≤ 20000) ∧ (0 ≤ o.highF ∧ o.highF ≤ 20000) ∧
    obj.placesB o.procs o.code.length = true ∧ obj.placesB o.lows o.low = true ∧ obj.placesB o.highs o.high = true := by
  unfold mayO obj.facesB obj.codeB obj.wordsB at h
  simp only [Bool.and_eq_true, decide_eq_true_eq, List.all_cons, List.all_nil, obj.wordB, Bool.and_true, List.all_eq_true] at h
  obtain ⟨⟨h1, _, h2, _⟩, ⟨h3, _⟩, h4, ⟨h5, h6, h7, h8⟩, h9, h10, h11⟩ := h
  exact ⟨h1, h2, h3, h4, h5, h6, h7, h8, h9, h10, h11⟩
theorem may_mod {f : FaceD} (h : face.mayB f = true) : f.module.size ≤ 16 := by
  unfold face.mayB at h
  simp only [Bool.and_eq_true] at h
  exact name_16 h.1
theorem plcs_ok {l : List PlcD} {n : Int} (h : obj.placesB l n = true) (hn : n ≤ 20000) : ∀ q ∈ l, q.name.size ≤ 16 ∧ 0 ≤ q.at' ∧ q.at' ≤ 20000 := fun q hq => by
  unfold obj.placesB at h
  simp only [Bool.and_eq_true, List.all_eq_true, obj.plcB, decide_eq_true_eq] at h
  have := h.1 q hq
  exact ⟨name_16 this.1, this.2.1, by omega⟩
theorem AddOk.of {o : ObjD} (h : mayO o = true) : AddOk o := by
  obtain ⟨h1, h2, h3, h4, h5, h6, h7, h8, h9, h10, h11⟩ := may_parts h
  exact ⟨may_mod h1, h3, h5, h6, plcs_ok h9 (by omega), plcs_ok h10 h5.2, plcs_ok h11 h6.2⟩
theorem empty_16 {x : ByteArray} (h : obj.emptyB x = true) : x.size ≤ 16 := by
  unfold obj.emptyB at h
  rw [ByteArray.toList_eq, List.isEmpty_iff] at h
  have e : x.size = x.data.toList.length := rfl
  rw [e, h]
  decide
theorem rels_ok {o : ObjD} (hm : o.face.module.size ≤ 16) {n : Int} : ∀ (l : List RelD) (k : Int), 0 ≤ k → obj.relocsB n k l = true → ∀ r ∈ l, RelOk o r ∧ 0 ≤ r.at' ∧ r.at' < n
  | [], _, _, _, r, hr => by cases hr
  | x :: l, k, hk, h, r, hr => by
    unfold obj.relocsB obj.relAt at h
    simp only [Bool.and_eq_true, decide_eq_true_eq] at h
    obtain ⟨⟨h1, h2, h3⟩, h4⟩ := h
    rcases List.mem_cons.1 hr with rfl | hr
    · refine ⟨?_, by omega, h2⟩
      unfold obj.relB at h3
      by_cases e : r.kind = 1
      · rw [if_pos e, Bool.and_eq_true] at h3
        exact ⟨by omega, hm, empty_16 h3.1, empty_16 h3.2⟩
      · rw [if_neg e] at h3
        by_cases e2 : r.kind = 2 ∨ r.kind = 3 ∨ r.kind = 4
        · rw [if_pos e2, Bool.and_eq_true] at h3
          exact ⟨by omega, hm, name_16 h3.1, name_16 h3.2⟩
        · rw [if_neg e2] at h3
          cases h3
    · exact rels_ok hm l _ (by omega) h4 r hr
theorem Bnd.add {q : PSt} {n : Nat} (h : Bnd q n) {o : ObjD} (ho : mayO o = true) : Bnd (addP q o) (n + 1) := by
  obtain ⟨h1, h2, h3, h4, h5, h6, h7, h8, h9, h10, h11⟩ := may_parts ho
  obtain ⟨a, b, c, d⟩ := h
  refine ⟨?_, ?_, ?_, ?_⟩
  · simp only [addP, List.length_append]; omega
  · simp only [addP, List.length_append]; omega
  · simp only [addP]; omega
  · simp only [addP]; omega
theorem Bnd.p0 : Bnd p0 0 := ⟨by decide, by decide, by decide, by decide⟩
theorem Bnd.lay : ∀ (l : List ObjD) (q : PSt) (n : Nat), Bnd q n → (∀ o ∈ l, mayO o = true) → Bnd (l.foldl addP q) (n + l.length)
  | [], _, _, h, _ => h
  | o :: l, q, n, h, ho => by
    have := Bnd.lay l (addP q o) (n + 1) (h.add (ho o (.head _))) fun x hx => ho x (.tail _ hx)
    rw [List.length_cons, Nat.add_comm l.length 1, ← Nat.add_assoc]
    exact this
theorem bnd_of {l : List ObjD} (h : ∀ o ∈ l, mayO o = true) : Bnd (layP l) l.length := by
  have := Bnd.lay l p0 0 Bnd.p0 h
  rw [Nat.zero_add] at this
  exact this
/-! where each object's orders begin -/
theorem eqS_eq {x y : ByteArray} (h : eqS x y = true) : x = y := by
  unfold eqS at h
  have e : x.toList = y.toList := by simpa using h
  rw [ByteArray.toList_eq, ByteArray.toList_eq] at e
  cases x; cases y
  congr
  exact Array.toList_inj.1 e
theorem eqS_refl (x : ByteArray) : eqS x x = true := by unfold eqS; exact beq_self_eq_true _
theorem placeF_other (kind : Int) (m : ByteArray) (b : Int) (t : Thg) (ht : t.kind ≠ kind) : ∀ (l : List PlcD) (f : Thg → Option Int), placeF kind m b f l t = f t
  | [], _ => rfl
  | q :: l, f => by
    rw [placeF, placeF_other kind m b t ht l]
    unfold putT
    rw [if_neg (fun e => ht (by rw [e]))]
theorem addP_begs {q : PSt} {o : ObjD} {m : ByteArray} : (addP q o).begs ⟨1, m, ⟨#[]⟩⟩ = if m = o.face.module then some (q.code.length : Int) else q.begs ⟨1, m, ⟨#[]⟩⟩ := by
  unfold addP
  dsimp only
  rw [placeF_other _ _ _ _ (by show (1 : Int) ≠ 4; decide), placeF_other _ _ _ _ (by show (1 : Int) ≠ 3; decide), placeF_other _ _ _ _ (by show (1 : Int) ≠ 2; decide)]
  unfold putT
  by_cases e : m = o.face.module
  · rw [if_pos (by rw [e]), if_pos e]
  · rw [if_neg (fun h => e (by injection h)), if_neg e]
theorem addP_len {q : PSt} {o : ObjD} : (addP q o).code.length = q.code.length + o.code.length := by simp [addP]
theorem layP_len {l : List ObjD} : ∀ {i : Nat}, i ≤ l.length → (layP (l.take i)).code.length = baseOf l i
  | 0, _ => by simp [layP, baseOf, p0]
  | i + 1, h => by rw [layP_next (by omega), addP_len, layP_len (by omega), baseOf_next (by omega)]
/-- nothing is wrong: each may be, and its name is new -/
theorem layT_none : ∀ (l : List ObjD) (i : Int) (q : PSt), layT i q l = none → (∀ o ∈ l, mayO o = true)
  | [], _, _, _, o, ho => by cases ho
  | x :: l, i, q, h, o, ho => by
    unfold layT at h
    split at h
    · rename_i hx
      split at h
      · cases h
      · rcases List.mem_cons.1 ho with rfl | ho
        · exact hx
        · exact layT_none l _ _ h o ho
    · cases h
theorem layT_step {l : List ObjD} (h : layT 0 p0 l = none) : ∀ {i : Nat} (hi : i < l.length), layT ((i : Nat) : Int) (layP (l.take i)) (l.drop i) = none ∧ ((layP (l.take i)).fcs l[i].face.module) = none
  | 0, hi => by
    have e : layT ((0 : Nat) : Int) (layP (l.take 0)) (l.drop 0) = none := h
    refine ⟨e, ?_⟩
    rfl
  | i + 1, hi => by
    have ih := (layT_step h (i := i) (by omega)).1
    rw [layT_at (by omega)] at ih
    split at ih
    · split at ih
      · cases ih
      · refine ⟨ih, ?_⟩
        rw [layT_at hi] at ih
        split at ih
        · split at ih
          · cases ih
          · rename_i hn
            simpa using hn
        · cases ih
    · cases ih
theorem fcs_has {l : List ObjD} {j : Nat} (hj : j < l.length) : ∀ {i : Nat}, j < i → i ≤ l.length → ((layP (l.take i)).fcs l[j].face.module).isSome = true
  | 0, h, _ => by omega
  | i + 1, h, hi => by
    rw [layP_next (by omega)]
    show (if eqS l[j].face.module l[i].face.module then some l[i].face else (layP (l.take i)).fcs l[j].face.module).isSome = true
    by_cases e : eqS l[j].face.module l[i].face.module = true
    · rw [if_pos e]; rfl
    · rw [if_neg e]
      by_cases e2 : j = i
      · subst e2; exact absurd (eqS_refl _) e
      · exact fcs_has hj (by omega) (by omega)
theorem mods_apart {l : List ObjD} (h : layT 0 p0 l = none) {i j : Nat} (hij : j < i) (hi : i < l.length) : l[j].face.module ≠ l[i].face.module := fun e => by
  have h1 := (layT_step h hi).2
  have h2 := fcs_has (l := l) (j := j) (by omega) hij (by omega)
  rw [e, h1] at h2
  cases h2
theorem begs_at {l : List ObjD} (h : layT 0 p0 l = none) {j : Nat} (hj : j < l.length) : ∀ {i : Nat}, j < i → i ≤ l.length → (layP (l.take i)).begs ⟨1, l[j].face.module, ⟨#[]⟩⟩ = some ((baseOf l j : Nat) : Int)
  | 0, hji, _ => by omega
  | i + 1, hji, hi => by
    rw [layP_next (by omega), addP_begs]
    by_cases e2 : j = i
    · subst e2
      rw [if_pos rfl, layP_len (by omega)]
    · rw [if_neg (mods_apart h (by omega) (by omega)), begs_at h hj (by omega) (by omega)]
theorem baseOf_le {l : List ObjD} {i : Nat} (h : i < l.length) : baseOf l i + l[i].code.length ≤ baseOf l l.length := by
  have key : ∀ k, i + 1 + k ≤ l.length → baseOf l i + l[i].code.length ≤ baseOf l (i + 1 + k) := by
    intro k
    induction k with
    | zero => intro _; rw [Nat.add_zero, baseOf_next h]; exact Nat.le_refl _
    | succ k ih => intro hk; rw [← Nat.add_assoc, baseOf_next (by omega)]; exact Nat.le_trans (ih (by omega)) (Nat.le_add_right _ _)
  have := key (l.length - (i + 1)) (by omega)
  rwa [show i + 1 + (l.length - (i + 1)) = l.length by omega] at this
theorem layP_all {l : List ObjD} (h : layT 0 p0 l = none) : ∀ i (hi : i < l.length), (layP l).begs ⟨1, l[i].face.module, ⟨#[]⟩⟩ = some ((baseOf l i : Nat) : Int) ∧ baseOf l i + l[i].code.length ≤ (layP l).code.length := fun i hi => by
  have h1 := begs_at h hi hi (Nat.le_refl _)
  have h2 := layP_len (l := l) (Nat.le_refl _)
  rw [List.take_length] at h1 h2
  exact ⟨h1, by rw [h2]; exact baseOf_le hi⟩
end Go.Proofs.YtaiocbbcjdpjgaaGreatDoor.lnk
