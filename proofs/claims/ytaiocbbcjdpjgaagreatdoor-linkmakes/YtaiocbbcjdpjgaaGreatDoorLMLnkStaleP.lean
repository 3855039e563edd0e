/- A face that has changed is not linked: the plain fact. No Go in sight. What the reference's Link reckons: plain functions; it is what the program's does. No Go in sight. What the reference's Link finds wrong first, and the orders that it makes, step by step: what the program's pure functions say. No Go in sight. -/
import Derived.Test.YtaiocbbcjdpjgaaGreatDoorLMLnkLink
namespace Go.Proofs.YtaiocbbcjdpjgaaGreatDoor.lnk
open Go.Proofs.YtaiocbbcjdpjgaaGreatDoor.syn (isName eqS)
open Go.Proofs.YtaiocbbcjdpjgaaGreatDoor.mac (Ins)
open Go.Proofs.YtaiocbbcjdpjgaaGreatDoor.obj (ObjD PlcD RelD mayO)
open Go.Proofs.YtaiocbbcjdpjgaaGreatDoor.face (VarD ProcD FaceD mayB sameB mayVarB labelB sameVarB sameProcB all2 namesOf)
set_option linter.unusedVariables false
set_option linter.unusedSimpArgs false
/-- the first variable's label is turned -/
def turnL : List VarD → List VarD
  | [] => []
  | v :: r => { v with label := 1 - v.label } :: r
def turnF (f : FaceD) : FaceD := ⟨f.module, turnL f.vars, f.procs⟩
def turnO (o : ObjD) : ObjD := { o with face := turnF o.face }
theorem turnL_len (l : List VarD) : (turnL l).length = l.length := by cases l <;> rfl
theorem turnL_names (l : List VarD) : (turnL l).map (·.name) = l.map (·.name) := by cases l <;> rfl
theorem may_turn {f : FaceD} (h : mayB f = true) : mayB (turnF f) = true := by
  unfold mayB at h ⊢
  have e : namesOf (turnF f) = namesOf f := by unfold namesOf turnF; rw [turnL_names]
  rw [e]
  show (isName f.module && (decide ((turnL f.vars).length + f.procs.length ≤ 20) && ((turnL f.vars).all mayVarB && (f.procs.all face.mayProcB && face.apartB [] (namesOf f))))) = true
  rw [turnL_len]
  simp only [Bool.and_eq_true] at h ⊢
  refine ⟨h.1, h.2.1, ?_, h.2.2.2⟩
  have h3 := h.2.2.1
  cases hv : f.vars with
  | nil => rfl
  | cons v r =>
    rw [hv, List.all_cons, Bool.and_eq_true] at h3
    show (mayVarB { v with label := 1 - v.label } && r.all mayVarB) = true
    rw [h3.2, Bool.and_true]
    have h1 := h3.1
    unfold mayVarB at h1 ⊢
    simp only [Bool.and_eq_true] at h1 ⊢
    refine ⟨h1.1, h1.2.1, ?_, h1.2.2.2⟩
    have h5 := h1.2.2.1
    unfold labelB at h5 ⊢
    simp only [Bool.or_eq_true, beq_iff_eq] at h5 ⊢
    omega
theorem same_turn {q f : FaceD} (h : sameB q f = true) (hv : f.vars ≠ []) : sameB q (turnF f) = false := by
  unfold sameB at h ⊢
  show (eqS q.module f.module && (all2 sameVarB q.vars (turnL f.vars) && all2 sameProcB q.procs f.procs)) = false
  simp only [Bool.and_eq_true] at h
  obtain ⟨_, h2, _⟩ := h
  have e : all2 sameVarB q.vars (turnL f.vars) = false := by
    cases hf : f.vars with
    | nil => exact absurd hf hv
    | cons v r =>
      rw [hf] at h2
      cases hq : q.vars with
      | nil => rw [hq] at h2; cases h2
      | cons u s =>
        rw [hq] at h2
        show (sameVarB u { v with label := 1 - v.label } && all2 sameVarB s r) = false
        have h3 : (sameVarB u v && all2 sameVarB s r) = true := h2
        rw [Bool.and_eq_true] at h3
        have h4 := h3.1
        unfold sameVarB at h4 ⊢
        simp only [Bool.and_eq_true, beq_iff_eq] at h4
        have : (u.label == 1 - v.label) = false := by rw [beq_eq_false_iff_ne]; omega
        simp [this]
  rw [e, Bool.false_and, Bool.and_false]
theorem mayO_turn {o : ObjD} (h : mayO o = true) : mayO (turnO o) = true := by
  unfold mayO obj.facesB at h ⊢
  simp only [Bool.and_eq_true] at h ⊢
  obtain ⟨⟨h1, h2⟩, h3⟩ := h
  exact ⟨⟨may_turn h1, h2⟩, h3⟩
/-! nothing is wrong as objects are laid, if each may be and the names are apart -/
theorem layT_of : ∀ (l : List ObjD) (i : Int) (q : PSt), (∀ o ∈ l, mayO o = true) → (∀ o ∈ l, q.fcs o.face.module = none) → (l.map fun o => o.face.module).Nodup → layT i q l = none
  | [], _, _, _, _, _ => rfl
  | o :: l, i, q, h1, h2, h3 => by
    unfold layT
    rw [if_pos (h1 o (.head _)), h2 o (.head _)]
    rw [if_neg (by simp)]
    rw [List.map_cons, List.nodup_cons] at h3
    refine layT_of l _ _ (fun x hx => h1 x (.tail _ hx)) (fun x hx => ?_) h3.2
    show (if eqS x.face.module o.face.module then some o.face else q.fcs x.face.module) = none
    rw [if_neg (fun e => h3.1 (by rw [← eqS_eq e]; exact List.mem_map.2 ⟨x, hx, rfl⟩))]
    exact h2 x (.tail _ hx)
theorem nodup_of {l : List ObjD} (h : layT 0 p0 l = none) : (l.map fun o => o.face.module).Nodup := by
  unfold List.Nodup
  rw [List.pairwise_iff_getElem]
  intro i j hi hj hij
  rw [List.getElem_map, List.getElem_map]
  exact mods_apart h hij (by simpa using hj)
theorem fcs_at {l : List ObjD} (h : layT 0 p0 l = none) {j : Nat} (hj : j < l.length) : ∀ {i : Nat}, j < i → i ≤ l.length → (layP (l.take i)).fcs l[j].face.module = some l[j].face
  | 0, hji, _ => by omega
  | i + 1, hji, hi => by
    rw [layP_next (by omega)]
    show (if eqS l[j].face.module l[i].face.module then some l[i].face else (layP (l.take i)).fcs l[j].face.module) = _
    by_cases e2 : j = i
    · subst e2
      rw [if_pos (eqS_refl _)]
    · rw [if_neg (fun e => mods_apart h (i := i) (j := j) (by omega) (by omega) (eqS_eq e))]
      exact fcs_at h hj (by omega) (by omega)
theorem fcs_src {l : List ObjD} {z : ByteArray} {f : FaceD} : ∀ {i : Nat}, i ≤ l.length → (layP (l.take i)).fcs z = some f → ∃ j, ∃ h : j < l.length, z = l[j].face.module ∧ f = l[j].face
  | 0, _, h => by cases h
  | i + 1, hi, h => by
    rw [layP_next (by omega)] at h
    have h' : (if eqS z l[i].face.module then some l[i].face else (layP (l.take i)).fcs z) = some f := h
    by_cases e : eqS z l[i].face.module = true
    · rw [if_pos e] at h'
      exact ⟨i, by omega, eqS_eq e, (Option.some.inj h').symm⟩
    · rw [if_neg e] at h'
      exact fcs_src (by omega) h'
theorem fcs_all {l : List ObjD} (h : layT 0 p0 l = none) {j : Nat} (hj : j < l.length) : (layP l).fcs l[j].face.module = some l[j].face := by
  have := fcs_at h hj hj (Nat.le_refl _)
  rwa [List.take_length] at this
theorem fcs_from {l : List ObjD} {z : ByteArray} {f : FaceD} (h : (layP l).fcs z = some f) : ∃ j, ∃ h : j < l.length, z = l[j].face.module ∧ f = l[j].face :=
  fcs_src (i := l.length) (Nat.le_refl _) (by rw [List.take_length]; exact h)
/-! imports -/
theorem impO_none {f : ByteArray → Option FaceD} {i : Int} : ∀ (l : List FaceD) (j : Int), impO f i j l = none → ∀ q ∈ l, ∃ own, f q.module = some own ∧ sameB q own = true
  | [], _, _, q, hq => by cases hq
  | x :: l, j, h, q, hq => by
    unfold impO at h
    cases hf : f x.module with
    | none => rw [hf] at h; cases h
    | some own =>
      rw [hf] at h
      dsimp only at h
      by_cases hs : sameB x own = true
      · rw [if_pos hs] at h
        rcases List.mem_cons.1 hq with rfl | hq
        · exact ⟨own, hf, hs⟩
        · exact impO_none l _ h q hq
      · rw [if_neg hs] at h; cases h
theorem impT_none {f : ByteArray → Option FaceD} : ∀ (l : List ObjD) (i : Int), impT f i l = none → ∀ o ∈ l, ∀ q ∈ o.imports, ∃ own, f q.module = some own ∧ sameB q own = true
  | [], _, _, o, ho => by cases ho
  | x :: l, i, h, o, ho => by
    unfold impT at h
    rw [Option.or_eq_none_iff] at h
    rcases List.mem_cons.1 ho with rfl | ho
    · exact impO_none _ _ h.1
    · exact impT_none l _ h.2 o ho
theorem impO_kind {f : ByteArray → Option FaceD} {i : Int} : ∀ (l : List FaceD) (j : Int), (∀ q ∈ l, ∃ own, f q.module = some own) → impO f i j l = none ∨ ∃ b, impO f i j l = some (i, 3, b)
  | [], _, _ => .inl rfl
  | x :: l, j, h => by
    obtain ⟨own, hf⟩ := h x (.head _)
    unfold impO
    rw [hf]
    dsimp only
    by_cases hs : sameB x own = true
    · rw [if_pos hs]
      exact impO_kind l _ fun q hq => h q (.tail _ hq)
    · rw [if_neg hs]
      exact .inr ⟨_, rfl⟩
theorem impT_kind {f : ByteArray → Option FaceD} : ∀ (l : List ObjD) (i : Int), (∀ o ∈ l, ∀ q ∈ o.imports, ∃ own, f q.module = some own) → impT f i l = none ∨ ∃ a b, impT f i l = some (a, 3, b)
  | [], _, _ => .inl rfl
  | x :: l, i, h => by
    unfold impT
    rcases impO_kind (i := i) x.imports 0 (h x (.head _)) with e | ⟨b, e⟩
    · rw [e]
      exact impT_kind l _ fun o ho => h o (.tail _ ho)
    · rw [e]
      exact .inr ⟨_, _, rfl⟩
/-- is the k-th one's name known to one of them? -/
def knownB (l : List ObjD) (m : ByteArray) : Bool := l.any fun o => o.imports.any fun q => eqS q.module m
theorem stale_pure {l : List ObjD} {k : Nat} (hk : k < l.length) (h : linkT l = none) (hv : l[k].face.vars ≠ []) (hkn : knownB l l[k].face.module = true) : ∃ a b, linkT (l.set k (turnO l[k])) = some (a, 3, b) := by
  unfold linkT at h
  simp only [Option.or_eq_none_iff] at h
  obtain ⟨h1, h2, _⟩ := h
  unfold layR at h1
  by_cases hl : l.length = 0 ∨ 6 < l.length
  · rw [if_pos hl] at h1; cases h1
  rw [if_neg hl] at h1
  have hmay := layT_none l 0 p0 h1
  obtain ⟨l', hl'⟩ : ∃ l', l' = l.set k (turnO l[k]) := ⟨_, rfl⟩
  have hlen : l'.length = l.length := by rw [hl', List.length_set]
  have hat : ∀ i (hi : i < l.length) (hi' : i < l'.length), l'[i] = if k = i then turnO l[i] else l[i] := fun i hi hi' => by
    subst hl'
    rw [List.getElem_set]
    by_cases e : k = i
    · subst e; simp
    · simp [e]
  have him : ∀ i (hi : i < l.length) (hi' : i < l'.length), l'[i].imports = l[i].imports ∧ l'[i].face.module = l[i].face.module := fun i hi hi' => by
    rw [hat i hi hi']
    split
    · exact ⟨rfl, rfl⟩
    · exact ⟨rfl, rfl⟩
  have hmods : (l'.map fun o => o.face.module) = l.map fun o => o.face.module := by
    refine List.ext_getElem (by simp [hlen]) fun i h1 h2 => ?_
    rw [List.getElem_map, List.getElem_map]
    exact (him i (by simpa using h2) (by simpa using h1)).2
  have hmay' : ∀ o ∈ l', mayO o = true := fun o ho => by
    obtain ⟨i, hi, rfl⟩ := List.mem_iff_getElem.1 ho
    rw [hat i (by omega) hi]
    split
    · exact mayO_turn (hmay _ (List.getElem_mem _))
    · exact hmay _ (List.getElem_mem _)
  have h1' : layT 0 p0 l' = none := layT_of l' 0 p0 hmay' (fun _ _ => rfl) (by rw [hmods]; exact nodup_of h1)
  have hR : layR l' = none := by unfold layR; rw [hlen, if_neg hl]; exact h1'
  have hall := impT_none l 0 h2
  -- what is found for an import, ahead and now
  have key : ∀ i (hi : i < l.length), ∀ q ∈ l[i].imports, ∃ j, ∃ hj : j < l.length, ∃ hj' : j < l'.length, q.module = l[j].face.module ∧ sameB q l[j].face = true ∧ (layP l').fcs q.module = some l'[j].face := fun i hi q hq => by
    obtain ⟨own, hf, hs⟩ := hall l[i] (List.getElem_mem _) q hq
    obtain ⟨j, hj, e1, e2⟩ := fcs_from hf
    subst e2
    refine ⟨j, hj, by omega, e1, hs, ?_⟩
    rw [e1, ← (him j hj (by omega)).2]
    exact fcs_all h1' (by omega)
  have hkind := impT_kind (f := (layP l').fcs) l' 0 (fun o ho q hq => by
    obtain ⟨i, hi, rfl⟩ := List.mem_iff_getElem.1 ho
    rw [(him i (by omega) hi).1] at hq
    obtain ⟨j, hj, hj', _, _, e⟩ := key i (by omega) q hq
    exact ⟨_, e⟩)
  have hsome : impT (layP l').fcs 0 l' ≠ none := fun hn => by
    have hall' := impT_none l' 0 hn
    unfold knownB at hkn
    obtain ⟨o, ho, hkn⟩ := List.any_eq_true.1 hkn
    obtain ⟨q, hq, hqm⟩ := List.any_eq_true.1 hkn
    obtain ⟨i, hi, rfl⟩ := List.mem_iff_getElem.1 ho
    obtain ⟨j, hj, hj', e1, e2, e3⟩ := key i hi q hq
    have hjk : j = k := by
      have e : l[j].face.module = l[k].face.module := by rw [← e1]; exact eqS_eq hqm
      rcases Nat.lt_trichotomy j k with h | h | h
      · exact absurd e (mods_apart h1 h hk)
      · exact h
      · exact absurd e.symm (mods_apart h1 h hj)
    subst hjk
    obtain ⟨own, hf, hs⟩ := hall' l'[i] (List.getElem_mem _) q (by rw [(him i hi (by omega)).1]; exact hq)
    rw [e3] at hf
    cases hf
    rw [hat j hj hj', if_pos rfl] at hs
    have : sameB q (turnF l[j].face) = false := same_turn e2 hv
    have h9 : sameB q (turnO l[j]).face = sameB q (turnF l[j].face) := rfl
    rw [h9, this] at hs
    cases hs
  rw [← hl']
  rcases hkind with e | ⟨a, b, e⟩
  · exact absurd e hsome
  · refine ⟨a, b, ?_⟩
    unfold linkT
    rw [hR, e]
    rfl
/-! what is wrong has a code -/
theorem linkT_code {l : List ObjD} {t : Int × Int × Int} (h : linkT l = some t) : t.2.1 ≠ 0 := by
  have o : ∀ {a b : Option (Int × Int × Int)}, (∀ t, a = some t → t.2.1 ≠ 0) → (∀ t, b = some t → t.2.1 ≠ 0) → ∀ t, a.or b = some t → t.2.1 ≠ 0 := fun {a b} ha hb t ht => by
    cases a with
    | none => exact hb t ht
    | some u => exact ha t ht
  have lay : ∀ (l : List ObjD) (i : Int) (q : PSt) (t : Int × Int × Int), layT i q l = some t → t.2.1 ≠ 0 := by
    intro l
    induction l with
    | nil => intro i q t h; cases h
    | cons x l ih =>
      intro i q t h
      unfold layT at h
      split at h
      · split at h
        · cases h; (dsimp only; decide)
        · exact ih _ _ _ h
      · cases h; (dsimp only; decide)
  have impo : ∀ (f : ByteArray → Option FaceD) (l : List FaceD) (i j : Int) (t : Int × Int × Int), impO f i j l = some t → t.2.1 ≠ 0 := by
    intro f l
    induction l with
    | nil => intro i j t h; cases h
    | cons x l ih =>
      intro i j t h
      unfold impO at h
      split at h
      · cases h; (dsimp only; decide)
      · split at h
        · exact ih _ _ _ h
        · cases h; (dsimp only; decide)
  have imp : ∀ (f : ByteArray → Option FaceD) (l : List ObjD) (i : Int) (t : Int × Int × Int), impT f i l = some t → t.2.1 ≠ 0 := by
    intro f l
    induction l with
    | nil => intro i t h; cases h
    | cons x l ih => intro i t h; unfold impT at h; exact o (impo f _ _ _) (ih _) t h
  have relo : ∀ (f : Thg → Option Int) (d : ObjD) (l : List RelD) (i j : Int) (t : Int × Int × Int), relO f d i j l = some t → t.2.1 ≠ 0 := by
    intro f d l
    induction l with
    | nil => intro i j t h; cases h
    | cons x l ih =>
      intro i j t h
      unfold relO at h
      split at h
      · exact ih _ _ _ h
      · cases h; (dsimp only; decide)
  have rel : ∀ (f : Thg → Option Int) (l : List ObjD) (i : Int) (t : Int × Int × Int), relT f i l = some t → t.2.1 ≠ 0 := by
    intro f l
    induction l with
    | nil => intro i t h; cases h
    | cons x l ih => intro i t h; unfold relT at h; exact o (relo f _ _ _ _) (ih _) t h
  have ordo : ∀ (l : List Ins) (N i j : Int) (t : Int × Int × Int), ordO N i j l = some t → t.2.1 ≠ 0 := by
    intro l
    induction l with
    | nil => intro N i j t h; cases h
    | cons x l ih =>
      intro N i j t h
      unfold ordO at h
      split at h
      · exact ih _ _ _ _ h
      · cases h; (dsimp only; decide)
  have ord : ∀ (l : List ObjD) (c : List Ins) (b : Nat) (i : Int) (t : Int × Int × Int), ordT c b i l = some t → t.2.1 ≠ 0 := by
    intro l
    induction l with
    | nil => intro c b i t h; cases h
    | cons x l ih => intro c b i t h; unfold ordT at h; exact o (ordo _ _ _ _) (ih _ _ _) t h
  unfold linkT at h
  refine o (fun t h => ?_) (o (imp _ _ _) (o (rel _ _ _) (o (fun t h => ?_) (o (fun t h => ?_) (ord _ _ _ _))))) t h
  · unfold layR at h
    split at h
    · cases h; (dsimp only; decide)
    · exact lay _ _ _ _ h
  · unfold mainT at h
    split at h
    · cases h
    · cases h; (dsimp only; decide)
  · unfold roomP at h
    split at h
    · cases h; (dsimp only; decide)
    · cases h
end Go.Proofs.YtaiocbbcjdpjgaaGreatDoor.lnk
namespace Go.Proofs.YtaiocbbcjdpjgaaGreatDoor.lnk
open Go.Proofs.YtaiocbbcjdpjgaaGreatDoor.syn (isName eqS)
open Go.Proofs.YtaiocbbcjdpjgaaGreatDoor.mac (Ins)
open Go.Proofs.YtaiocbbcjdpjgaaGreatDoor.obj (ObjD PlcD RelD mayO)
open Go.Proofs.YtaiocbbcjdpjgaaGreatDoor.face (VarD ProcD FaceD)
set_option linter.unusedVariables false
set_option linter.unusedSimpArgs false
def findF (nm : ByteArray) : List PlcD → Int
  | [] => -1
  | q :: r => if eqS q.name nm = true then q.at' else findF nm r
def modF (nm : ByteArray) : Int → List ObjD → Int
  | _, [] => -1
  | i, o :: r => if eqS o.face.module nm = true then i else modF nm (i + 1) r
def knowsR (o : ObjD) (nm : ByteArray) : Bool := eqS o.face.module nm || o.imports.any fun q => eqS q.module nm
def sizeK (kind : Int) (o : ObjD) : Int := if kind = 3 then o.low else if kind = 4 then o.high else o.code.length
def baseK (kind : Int) (l : List ObjD) : Int := (if kind = 1 ∨ kind = 2 then 4 else 0) + (l.map (sizeK kind)).sum
def plcsK (kind : Int) (o : ObjD) : List PlcD := if kind = 3 then o.lows else if kind = 4 then o.highs else o.procs
/-- where something with a name stands; below 0: nowhere -/
def standsF (l : List ObjD) (kind : Int) (m nm : ByteArray) : Int :=
  let n := modF m 0 l
  if n < 0 then -1 else
    let a := findF nm (plcsK kind (l[n.toNat]?.getD ⟨⟨⟨#[]⟩, [], []⟩, [], [], [], [], [], [], 0, 0, 0, 0⟩))
    if a < 0 then -1 else a + baseK kind (l.take n.toNat)
/-! where it stands is what the program's map holds -/
theorem modF_at {l : List ObjD} (h : (l.map fun o => o.face.module).Nodup) {j : Nat} (hj : j < l.length) : ∀ i : Int, modF l[j].face.module i l = i + j := by
  induction l generalizing j with
  | nil => simp at hj
  | cons o r ih =>
    intro i
    rw [List.map_cons, List.nodup_cons] at h
    cases j with
    | zero => simp [modF, eqS_refl]
    | succ j =>
      have hj' : j < r.length := by simpa using hj
      have hne : ¬ eqS o.face.module r[j].face.module = true := fun e => h.1 (by rw [eqS_eq e]; exact List.mem_map.2 ⟨r[j], List.getElem_mem _, rfl⟩)
      rw [List.getElem_cons_succ, modF, if_neg hne, ih h.2 hj']
      push_cast
      omega
theorem modF_no {m : ByteArray} : ∀ (l : List ObjD) (i : Int), (∀ o ∈ l, o.face.module ≠ m) → modF m i l = -1
  | [], _, _ => rfl
  | o :: l, i, h => by
    rw [modF, if_neg (fun e => h o (.head _) (eqS_eq e))]
    exact modF_no l _ fun x hx => h x (.tail _ hx)
theorem findF_at {l : List PlcD} (h : (l.map (·.name)).Nodup) {q : PlcD} (hq : q ∈ l) : findF q.name l = q.at' := by
  induction l with
  | nil => cases hq
  | cons x r ih =>
    rw [List.map_cons, List.nodup_cons] at h
    rw [findF]
    by_cases e : eqS x.name q.name = true
    · rw [if_pos e]
      rcases List.mem_cons.1 hq with rfl | hq
      · rfl
      · exact absurd (List.mem_map.2 ⟨q, hq, (eqS_eq e).symm⟩) h.1
    · rw [if_neg e]
      rcases List.mem_cons.1 hq with rfl | hq
      · exact absurd (eqS_refl _) e
      · exact ih h.2 hq
theorem findF_no {nm : ByteArray} : ∀ {l : List PlcD}, (∀ q ∈ l, q.name ≠ nm) → findF nm l = -1
  | [], _ => rfl
  | x :: l, h => by
    rw [findF, if_neg (fun e => h x (.head _) (eqS_eq e))]
    exact findF_no fun q hq => h q (.tail _ hq)
theorem placeF_at {kind : Int} {m : ByteArray} {b : Int} {nm : ByteArray} : ∀ (l : List PlcD) (f : Thg → Option Int), (l.map (·.name)).Nodup → placeF kind m b f l ⟨kind, m, nm⟩ = if (∃ q ∈ l, q.name = nm) then some (b + findF nm l) else f ⟨kind, m, nm⟩
  | [], f, _ => by simp [placeF]
  | x :: l, f, h => by
    rw [List.map_cons, List.nodup_cons] at h
    rw [placeF, placeF_at l _ h.2]
    by_cases e : x.name = nm
    · subst e
      have hn : ¬ ∃ q ∈ l, q.name = x.name := fun ⟨q, hq, e⟩ => h.1 (List.mem_map.2 ⟨q, hq, e⟩)
      rw [if_neg hn, if_pos ⟨x, .head _, rfl⟩]
      unfold putT
      rw [if_pos rfl, findF, if_pos (eqS_refl _)]
    · have he : ¬ eqS x.name nm = true := fun h => e (eqS_eq h)
      rw [findF, if_neg he]
      by_cases hx : ∃ q ∈ l, q.name = nm
      · rw [if_pos hx, if_pos (by obtain ⟨q, hq, e⟩ := hx; exact ⟨q, .tail _ hq, e⟩)]
      · rw [if_neg hx, if_neg (by
          rintro ⟨q, hq, e2⟩
          rcases List.mem_cons.1 hq with rfl | hq
          · exact e e2
          · exact hx ⟨q, hq, e2⟩)]
        unfold putT
        rw [if_neg (fun h => e (by injection h with _ _ h; exact h.symm))]
theorem placeF_mod {kind : Int} {m : ByteArray} {b : Int} {t : Thg} (ht : t.module ≠ m) : ∀ (l : List PlcD) (f : Thg → Option Int), placeF kind m b f l t = f t
  | [], _ => rfl
  | q :: l, f => by
    rw [placeF, placeF_mod ht l]
    unfold putT
    rw [if_neg (fun e => ht (by rw [e]))]
theorem apart_nodup {l : List PlcD} {n : Int} (h : obj.placesB l n = true) : (l.map (·.name)).Nodup := by
  unfold obj.placesB at h
  rw [Bool.and_eq_true] at h
  have key : ∀ (l : List ByteArray) (seen : List ByteArray), face.apartB seen l = true → l.Nodup ∧ ∀ x ∈ l, ∀ y ∈ seen, y ≠ x := by
    intro l
    induction l with
    | nil => intro seen _; exact ⟨List.nodup_nil, fun x hx => by cases hx⟩
    | cons x l ih =>
      intro seen h
      unfold face.apartB at h
      rw [Bool.and_eq_true, Bool.not_eq_true'] at h
      obtain ⟨h1, h2⟩ := ih _ h.2
      have hx : ∀ y ∈ seen, y ≠ x := fun y hy e => by
        subst e
        have h3 := h.1
        unfold face.among at h3
        rw [List.any_eq_false] at h3
        exact h3 y hy (eqS_refl _)
      refine ⟨List.nodup_cons.2 ⟨fun hm => h2 x hm x (by simp) rfl, h1⟩, fun z hz y hy => ?_⟩
      rcases List.mem_cons.1 hz with rfl | hz
      · exact hx y hy
      · exact h2 z hz y (by simp [hy])
  exact (key _ _ h.2).1
theorem find_pos {l : List PlcD} {n : Int} (h : obj.placesB l n = true) {nm : ByteArray} : (0 ≤ findF nm l) ↔ ∃ q ∈ l, q.name = nm := by
  constructor
  · intro h0
    rcases Classical.em (∃ q ∈ l, q.name = nm) with hx | hx
    · exact hx
    · rw [findF_no (fun q hq e => hx ⟨q, hq, e⟩)] at h0
      omega
  · rintro ⟨q, hq, rfl⟩
    rw [findF_at (apart_nodup h) hq]
    unfold obj.placesB at h
    simp only [Bool.and_eq_true, List.all_eq_true, obj.plcB, decide_eq_true_eq] at h
    exact (h.1 q hq).2.1
/-- the lists of an object by kind -/
theorem plcsK_may {o : ObjD} (h : mayO o = true) (kind : Int) : ∃ n, obj.placesB (plcsK kind o) n = true := by
  obtain ⟨_, _, _, _, _, _, _, _, h9, h10, h11⟩ := may_parts h
  unfold plcsK
  split
  · exact ⟨_, h10⟩
  · split
    · exact ⟨_, h11⟩
    · exact ⟨_, h9⟩
def offK (q : PSt) (kind : Int) : Int := if kind = 3 then q.low else if kind = 4 then q.high else q.code.length
theorem addP_thing {q : PSt} {o : ObjD} (ho : mayO o = true) {kind : Int} (hk : 2 ≤ kind ∧ kind ≤ 4) {m nm : ByteArray} : (addP q o).begs ⟨kind, m, nm⟩ = if m = o.face.module ∧ 0 ≤ findF nm (plcsK kind o) then some (offK q kind + findF nm (plcsK kind o)) else q.begs ⟨kind, m, nm⟩ := by
  obtain ⟨_, _, _, _, _, _, _, _, h9, h10, h11⟩ := may_parts ho
  by_cases e : m = o.face.module
  · subst e
    have hb : ∀ kind', kind' ≠ kind → ∀ b l f, placeF kind' o.face.module b f l ⟨kind, o.face.module, nm⟩ = f ⟨kind, o.face.module, nm⟩ := fun kind' hne b l f => placeF_other kind' _ b _ (fun e => hne e.symm) l f
    have hp : putT q.begs ⟨1, o.face.module, ⟨#[]⟩⟩ (q.code.length : Int) ⟨kind, o.face.module, nm⟩ = q.begs ⟨kind, o.face.module, nm⟩ := by
      unfold putT
      rw [if_neg (fun e => by injection e with e; omega)]
    have hcase : kind = 2 ∨ kind = 3 ∨ kind = 4 := by omega
    unfold addP
    dsimp only
    rcases hcase with rfl | rfl | rfl
    · rw [hb 4 (by decide), hb 3 (by decide), placeF_at _ _ (apart_nodup h9), hp]
      have hf := find_pos h9 (nm := nm)
      show (if _ then _ else _) = if o.face.module = o.face.module ∧ 0 ≤ findF nm o.procs then some ((q.code.length : Int) + findF nm o.procs) else _
      by_cases hx : 0 ≤ findF nm o.procs
      · rw [if_pos (hf.1 hx), if_pos ⟨rfl, hx⟩]
      · rw [if_neg (fun h => hx (hf.2 h)), if_neg (fun h => hx h.2)]
    · rw [hb 4 (by decide), placeF_at _ _ (apart_nodup h10), hb 2 (by decide), hp]
      have hf := find_pos h10 (nm := nm)
      show (if _ then _ else _) = if o.face.module = o.face.module ∧ 0 ≤ findF nm o.lows then some (q.low + findF nm o.lows) else _
      by_cases hx : 0 ≤ findF nm o.lows
      · rw [if_pos (hf.1 hx), if_pos ⟨rfl, hx⟩]
      · rw [if_neg (fun h => hx (hf.2 h)), if_neg (fun h => hx h.2)]
    · rw [placeF_at _ _ (apart_nodup h11), hb 3 (by decide), hb 2 (by decide), hp]
      have hf := find_pos h11 (nm := nm)
      show (if _ then _ else _) = if o.face.module = o.face.module ∧ 0 ≤ findF nm o.highs then some (q.high + findF nm o.highs) else _
      by_cases hx : 0 ≤ findF nm o.highs
      · rw [if_pos (hf.1 hx), if_pos ⟨rfl, hx⟩]
      · rw [if_neg (fun h => hx (hf.2 h)), if_neg (fun h => hx h.2)]
  · rw [if_neg (fun h => e h.1)]
    unfold addP
    dsimp only
    rw [placeF_mod (t := ⟨kind, m, nm⟩) e, placeF_mod (t := ⟨kind, m, nm⟩) e, placeF_mod (t := ⟨kind, m, nm⟩) e]
    unfold putT
    rw [if_neg (fun h => e (by injection h))]
theorem offK_lay {kind : Int} (hk : 2 ≤ kind ∧ kind ≤ 4) {l : List ObjD} : ∀ {i : Nat}, i ≤ l.length → offK (layP (l.take i)) kind = baseK kind (l.take i)
  | 0, _ => by
    unfold offK baseK
    have hcase : kind = 2 ∨ kind = 3 ∨ kind = 4 := by omega
    rcases hcase with rfl | rfl | rfl <;> simp [layP, p0]
  | i + 1, h => by
    have ih := offK_lay hk (l := l) (i := i) (by omega)
    have e : baseK kind (l.take (i + 1)) = baseK kind (l.take i) + sizeK kind l[i] := by
      unfold baseK
      rw [List.take_succ_eq_append_getElem (by omega), List.map_append, List.sum_append]
      simp
      omega
    rw [e, ← ih, layP_next (by omega)]
    unfold offK sizeK addP
    dsimp only
    split
    · rfl
    · split
      · rfl
      · rw [List.length_append]; push_cast; rfl
theorem stands_lay {l : List ObjD} (h : layT 0 p0 l = none) {kind : Int} (hk : 2 ≤ kind ∧ kind ≤ 4) {m nm : ByteArray} : ∀ {i : Nat}, i ≤ l.length → (layP (l.take i)).begs ⟨kind, m, nm⟩ = if 0 ≤ standsF (l.take i) kind m nm then some (standsF (l.take i) kind m nm) else none
  | 0, _ => by simp [layP, p0, standsF, modF]
  | i + 1, hi => by
    have ih := stands_lay h hk (m := m) (nm := nm) (i := i) (by omega)
    have hmay := layT_none l 0 p0 h
    have hil : i < l.length := by omega
    have hnd := nodup_of h
    rw [layP_next hil, addP_thing (hmay _ (List.getElem_mem _)) hk, offK_lay hk (by omega), ih]
    have hlt : (l.take (i + 1)) = l.take i ++ [l[i]] := List.take_succ_eq_append_getElem hil
    have hndi : ((l.take (i + 1)).map fun o => o.face.module).Nodup := by
      rw [List.map_take]
      exact (List.take_sublist _ _).nodup hnd
    obtain ⟨n0, hpl⟩ := plcsK_may (hmay l[i] (List.getElem_mem _)) kind
    by_cases e : m = l[i].face.module
    · -- it is the last one's
      have h1 : modF m 0 (l.take (i + 1)) = i := by
        have hj : i < (l.take (i + 1)).length := by simp; omega
        have := modF_at hndi hj 0
        rw [List.getElem_take] at this
        rw [e, this]
        omega
      have h2 : modF m 0 (l.take i) = -1 := modF_no _ _ fun o ho e2 => by
        obtain ⟨j, hj, rfl⟩ := List.mem_iff_getElem.1 ho
        rw [List.length_take] at hj
        rw [List.getElem_take] at e2
        exact mods_apart h (i := i) (j := j) (by omega) hil (by rw [e2, e])
      have h3 : standsF (l.take i) kind m nm = -1 := by unfold standsF; simp only [h2]; rfl
      have h4 : standsF (l.take (i + 1)) kind m nm = if findF nm (plcsK kind l[i]) < 0 then -1 else findF nm (plcsK kind l[i]) + baseK kind (l.take i) := by
        unfold standsF
        simp only [h1]
        rw [if_neg (by omega)]
        have : (l.take (i + 1))[(i : Int).toNat]? = some l[i] := by
          rw [Int.toNat_natCast, hlt, List.getElem?_append_right (by simp; omega)]
          simp [Nat.min_eq_left (Nat.le_of_lt hil)]
        rw [this, Option.getD_some, Int.toNat_natCast, List.take_take, Nat.min_eq_left (by omega)]
      by_cases hx : 0 ≤ findF nm (plcsK kind l[i])
      · have hb : 0 ≤ baseK kind (l.take i) := by
          rw [← offK_lay hk (by omega)]
          have := bnd_of (l := l.take i) (fun o ho => hmay o (List.mem_of_mem_take ho))
          unfold offK
          split
          · exact this.l.1
          · split
            · exact this.h.1
            · omega
        rw [if_neg (show ¬ findF nm (plcsK kind l[i]) < 0 by omega)] at h4
        rw [if_pos ⟨e, hx⟩, h4, if_pos (by omega)]
        congr 1
        omega
      · rw [if_pos (show findF nm (plcsK kind l[i]) < 0 by omega)] at h4
        rw [if_neg (fun h => hx h.2), h3, h4]
    · rw [if_neg (fun h => e h.1)]
      have h5 : modF m 0 (l.take (i + 1)) = modF m 0 (l.take i) := by
        rw [hlt]
        have key : ∀ (a : List ObjD) (k : Int), modF m k (a ++ [l[i]]) = modF m k a := by
          intro a
          induction a with
          | nil => intro k; simp only [List.nil_append, modF]; rw [if_neg (fun h => e (eqS_eq h).symm)]
          | cons x a ih => intro k; simp only [List.cons_append, modF, ih]
        exact key _ _
      have h6 : standsF (l.take (i + 1)) kind m nm = standsF (l.take i) kind m nm := by
        unfold standsF
        simp only [h5]
        by_cases hn : modF m 0 (l.take i) < 0
        · rw [if_pos hn, if_pos hn]
        · rw [if_neg hn, if_neg hn]
          have hlt2 : (modF m 0 (l.take i)).toNat < i := by
            have key : ∀ (a : List ObjD) (k : Int), modF m k a = -1 ∨ (k ≤ modF m k a ∧ modF m k a < k + a.length) := by
              intro a
              induction a with
              | nil => intro k; exact .inl rfl
              | cons x a ih =>
                intro k
                rw [modF]
                split
                · right; simp; omega
                · rcases ih (k + 1) with h | h
                  · exact .inl h
                  · right; rw [List.length_cons]; push_cast; omega
            rcases key (l.take i) 0 with h | h
            · omega
            · rw [List.length_take] at h; omega
          rw [hlt, List.getElem?_append_left (by simp; omega), List.take_append_of_le_length (by simp; omega)]
      rw [h6]
theorem stands_all {l : List ObjD} (h : layT 0 p0 l = none) {kind : Int} (hk : 2 ≤ kind ∧ kind ≤ 4) {m nm : ByteArray} : (layP l).begs ⟨kind, m, nm⟩ = if 0 ≤ standsF l kind m nm then some (standsF l kind m nm) else none := by
  have := stands_lay h hk (m := m) (nm := nm) (i := l.length) (Nat.le_refl _)
  rwa [List.take_length] at this
end Go.Proofs.YtaiocbbcjdpjgaaGreatDoor.lnk
namespace Go.Proofs.YtaiocbbcjdpjgaaGreatDoor.lnk
open Go.Proofs.YtaiocbbcjdpjgaaGreatDoor.syn (isName eqS)
open Go.Proofs.YtaiocbbcjdpjgaaGreatDoor.mac (Ins)
open Go.Proofs.YtaiocbbcjdpjgaaGreatDoor.obj (ObjD PlcD RelD mayO)
open Go.Proofs.YtaiocbbcjdpjgaaGreatDoor.face (VarD ProcD FaceD)
set_option linter.unusedVariables false
set_option linter.unusedSimpArgs false
theorem modF_iff {m : ByteArray} : ∀ (l : List ObjD) (i : Int), 0 ≤ i → ((0 ≤ modF m i l) ↔ ∃ o ∈ l, o.face.module = m)
  | [], i, _ => by simp [modF]
  | o :: l, i, hi => by
    rw [modF]
    by_cases e : eqS o.face.module m = true
    · rw [if_pos e]
      exact ⟨fun _ => ⟨o, .head _, eqS_eq e⟩, fun _ => hi⟩
    · rw [if_neg e, modF_iff l (i + 1) (by omega)]
      constructor
      · rintro ⟨x, hx, h⟩; exact ⟨x, .tail _ hx, h⟩
      · rintro ⟨x, hx, h⟩
        rcases List.mem_cons.1 hx with rfl | hx
        · exact absurd (by rw [h]; exact eqS_refl _) e
        · exact ⟨x, hx, h⟩
theorem fcs_iff {m : ByteArray} {l : List ObjD} : ∀ {i : Nat}, i ≤ l.length → (((layP (l.take i)).fcs m).isSome = true ↔ ∃ o ∈ l.take i, o.face.module = m)
  | 0, _ => by simp [layP, p0]
  | i + 1, h => by
    have ih := fcs_iff (m := m) (l := l) (i := i) (by omega)
    rw [layP_next (by omega), List.take_succ_eq_append_getElem (by omega)]
    show (if eqS m l[i].face.module then some l[i].face else (layP (l.take i)).fcs m).isSome = true ↔ _
    by_cases e : eqS m l[i].face.module = true
    · rw [if_pos e]
      exact ⟨fun _ => ⟨l[i], List.mem_append.2 (.inr (List.mem_singleton.2 rfl)), (eqS_eq e).symm⟩, fun _ => rfl⟩
    · rw [if_neg e, ih]
      constructor
      · rintro ⟨x, hx, h⟩; exact ⟨x, List.mem_append.2 (.inl hx), h⟩
      · rintro ⟨x, hx, h⟩
        rcases List.mem_append.1 hx with hx | hx
        · exact ⟨x, hx, h⟩
        · have : x = l[i] := List.mem_singleton.1 hx
          subst this
          exact absurd (by rw [h]; exact eqS_refl _) e
/-- is its name there already? -/
theorem twice_is {m : ByteArray} {l : List ObjD} {i : Nat} (h : i ≤ l.length) : ((layP (l.take i)).fcs m).isSome = decide (0 ≤ modF m 0 (l.take i)) := by
  rw [Bool.eq_iff_iff, fcs_iff h, decide_eq_true_iff, modF_iff _ _ (Int.le_refl _)]
theorem modF_lt {m : ByteArray} : ∀ (l : List ObjD) (k : Int), modF m k l = -1 ∨ (k ≤ modF m k l ∧ modF m k l < k + l.length)
  | [], k => .inl rfl
  | x :: a, k => by
    rw [modF]
    split
    · right; simp; omega
    · rcases modF_lt a (k + 1) with h | h
      · exact .inl h
      · right; rw [List.length_cons]; push_cast; omega
theorem modF_is {m : ByteArray} : ∀ (l : List ObjD) (k : Int) (_ : 0 ≤ k) (j : Nat) (hj : j < l.length), modF m k l = k + j → l[j].face.module = m
  | [], _, _, j, hj, _ => by simp at hj
  | x :: a, k, hk, j, hj, h => by
    rw [modF] at h
    split at h
    · rename_i e
      obtain rfl : j = 0 := by omega
      exact eqS_eq e
    · cases j with
      | zero =>
        rcases modF_lt (m := m) a (k + 1) with h2 | h2 <;> omega
      | succ j =>
        rw [List.getElem_cons_succ]
        exact modF_is a (k + 1) (by omega) j (by simpa using hj) (by push_cast at h; omega)
/-- the face of a module by its name -/
theorem fcs_mod {m : ByteArray} {l : List ObjD} (h : layT 0 p0 l = none) : ((modF m 0 l < 0 ∧ (layP l).fcs m = none) ∨ ∃ j, ∃ hj : j < l.length, modF m 0 l = (j : Int) ∧ (layP l).fcs m = some l[j].face) := by
  rcases modF_lt (m := m) l 0 with h1 | h1
  · left
    refine ⟨by omega, ?_⟩
    have := twice_is (m := m) (l := l) (i := l.length) (Nat.le_refl _)
    rw [List.take_length, h1] at this
    cases hf : (layP l).fcs m with
    | none => rfl
    | some f => rw [hf] at this; cases this
  · right
    have hj : (modF m 0 l).toNat < l.length := by omega
    have e : modF m 0 l = ((modF m 0 l).toNat : Int) := by omega
    refine ⟨_, hj, e, ?_⟩
    have := modF_is (m := m) l 0 (Int.le_refl _) _ hj (by omega)
    rw [← fcs_all h hj, this]
/-- relocs: is one wrong? -/
def relBad (l : List ObjD) (o : ObjD) (r : RelD) : Bool := r.kind != 1 && (!knowsR o r.module || decide (standsF l r.kind r.module r.name < 0))
theorem rel_is {l : List ObjD} (h : layT 0 p0 l = none) {o : ObjD} (ho : o ∈ l) {r : RelD} (hr : RelOk o r) : (((layP l).begs (askedF o r)).isSome && knowsF o r) = !relBad l o r := by
  obtain ⟨hk, _, _, _⟩ := hr
  unfold relBad knowsF askedF
  by_cases e : r.kind = 1
  · obtain ⟨j, hj, rfl⟩ := List.mem_iff_getElem.1 ho
    rw [if_pos e, (layP_all h j hj).1]
    simp [e]
  · rw [if_neg e, stands_all h (by omega)]
    have e2 : (r.kind != 1) = true := by simp [e]
    rw [e2]
    unfold knowsR
    by_cases hs : 0 ≤ standsF l r.kind r.module r.name
    · rw [if_pos hs, decide_eq_false (show ¬ standsF l r.kind r.module r.name < 0 by omega)]
      simp [e]
    · rw [if_neg hs, decide_eq_true (show standsF l r.kind r.module r.name < 0 by omega)]
      simp
/-- where main begins; below 0: there is none -/
def mainF (l : List ObjD) : Int :=
  let n := modF ⟨#[109, 97, 105, 110]⟩ 0 l
  if n < 0 then -1 else
    if (l[n.toNat]?.getD ⟨⟨⟨#[]⟩, [], []⟩, [], [], [], [], [], [], 0, 0, 0, 0⟩).face.procs.any isMainB = true then
      (let a := findF ⟨#[109, 97, 105, 110]⟩ (l[n.toNat]?.getD ⟨⟨⟨#[]⟩, [], []⟩, [], [], [], [], [], [], 0, 0, 0, 0⟩).procs
       if a < 0 then -1 else a + baseK 2 (l.take n.toNat))
    else -1
theorem main_is {l : List ObjD} (h : layT 0 p0 l = none) : (mainF l < 0 ∧ mainT (layP l).begs (layP l).fcs = some (0, 4, 0)) ∨ (0 ≤ mainF l ∧ mainT (layP l).begs (layP l).fcs = none ∧ (layP l).begs ⟨2, ⟨#[109, 97, 105, 110]⟩, ⟨#[109, 97, 105, 110]⟩⟩ = some (mainF l)) := by
  have hs := stands_all h (kind := 2) (by omega) (m := ⟨#[109, 97, 105, 110]⟩) (nm := ⟨#[109, 97, 105, 110]⟩)
  unfold mainT
  rcases fcs_mod (m := ⟨#[109, 97, 105, 110]⟩) h with ⟨h1, h2⟩ | ⟨j, hj, h1, h2⟩
  · left
    rw [h2]
    refine ⟨?_, ?_⟩
    · unfold mainF; simp only [h1, if_true]; decide
    · simp
  · have e1 : l[((j : Nat) : Int).toNat]? = some l[j] := by rw [Int.toNat_natCast]; exact List.getElem?_eq_getElem hj
    rw [h2]
    have hst : standsF l 2 ⟨#[109, 97, 105, 110]⟩ ⟨#[109, 97, 105, 110]⟩ = if findF ⟨#[109, 97, 105, 110]⟩ l[j].procs < 0 then -1 else findF ⟨#[109, 97, 105, 110]⟩ l[j].procs + baseK 2 (l.take j) := by
      unfold standsF
      simp only [h1]
      rw [if_neg (by omega), e1, Option.getD_some, Int.toNat_natCast]
      rfl
    have hmf : mainF l = if l[j].face.procs.any isMainB = true then (if findF ⟨#[109, 97, 105, 110]⟩ l[j].procs < 0 then -1 else findF ⟨#[109, 97, 105, 110]⟩ l[j].procs + baseK 2 (l.take j)) else -1 := by
      unfold mainF
      simp only [h1]
      rw [if_neg (by omega), e1, Option.getD_some, Int.toNat_natCast]
    cases hp : l[j].face.procs.any isMainB
    · left
      rw [hp] at hmf
      rw [if_neg (by decide)] at hmf
      refine ⟨by rw [hmf]; decide, ?_⟩
      simp [hp]
    · rw [hp, if_pos rfl, ← hst] at hmf
      by_cases h0 : 0 ≤ standsF l 2 ⟨#[109, 97, 105, 110]⟩ ⟨#[109, 97, 105, 110]⟩
      · right
        rw [if_pos h0] at hs
        refine ⟨by rw [hmf]; exact h0, ?_, by rw [hs, hmf]⟩
        rw [hs]
        simp [hp]
      · left
        rw [if_neg h0] at hs
        refine ⟨by rw [hmf]; omega, ?_⟩
        rw [hs]
        simp
/-! the orders, object by object -/
theorem setN_append {c x : List Ins} {i : Nat} {v : Int} (h : i < c.length) : setN (c ++ x) i v = setN c i v ++ x := by
  unfold setN
  refine List.ext_getElem? fun j => ?_
  rw [List.getElem?_modify]
  by_cases hj : j < c.length
  · rw [List.getElem?_append_left hj, List.getElem?_append_left (by simpa using hj), List.getElem?_modify]
  · rw [List.getElem?_append_right (by omega), List.getElem?_append_right (by simp; omega), List.length_modify]
    cases x[j - c.length]? with
    | none => rfl
    | some y => simp; omega
theorem addN_append {c x : List Ins} {i : Nat} {v : Int} (h : i < c.length) : addN (c ++ x) i v = addN c i v ++ x := by
  unfold addN
  rw [List.getElem?_append_left h, setN_append h]
theorem relocO_append {fb : Thg → Option Int} {o : ObjD} {b : Nat} {x : List Ins} : ∀ (rs : List RelD) (c : List Ins), (∀ r ∈ rs, b + r.at'.toNat < c.length) → relocO fb o b (c ++ x) rs = relocO fb o b c rs ++ x
  | [], _, _ => rfl
  | r :: rs, c, h => by
    rw [relocO, relocO, addN_append (h r (.head _))]
    exact relocO_append rs _ fun q hq => by rw [addN_len]; exact h q (.tail _ hq)
theorem relocL_append {fb : Thg → Option Int} {x : List Ins} : ∀ (l : List ObjD) (b : Nat) (c : List Ins), (∀ o ∈ l, ∀ r ∈ o.relocs, r.at'.toNat < o.code.length) → b + (l.map fun o => o.code.length).sum ≤ c.length → relocL fb b (c ++ x) l = relocL fb b c l ++ x
  | [], _, _, _, _ => rfl
  | o :: l, b, c, h, hb => by
    rw [List.map_cons, List.sum_cons] at hb
    rw [relocL, relocL, relocO_append _ _ (fun r hr => by have := h o (.head _) r hr; omega)]
    exact relocL_append l _ _ (fun q hq => h q (.tail _ hq)) (by rw [relocO_len]; omega)
theorem relocL_snoc {fb : Thg → Option Int} {o : ObjD} : ∀ (l : List ObjD) (b : Nat) (c : List Ins), relocL fb b c (l ++ [o]) = relocO fb o (b + (l.map fun o => o.code.length).sum) (relocL fb b c l) o.relocs
  | [], b, c => by simp [relocL]
  | x :: l, b, c => by
    rw [List.cons_append, relocL, relocL_snoc l]
    simp only [List.map_cons, List.sum_cons, relocL]
    congr 1
    omega
theorem relocO_snoc {fb : Thg → Option Int} {o : ObjD} {b : Nat} {r : RelD} : ∀ (rs : List RelD) (c : List Ins), relocO fb o b c (rs ++ [r]) = addN (relocO fb o b c rs) (b + r.at'.toNat) ((fb (askedF o r)).getD 0)
  | [], _ => rfl
  | x :: rs, c => by rw [List.cons_append, relocO, relocO_snoc rs]; rfl
def head4 (lo hi m : Int) : List Ins := [⟨1, 6, 0, 0, lo⟩, ⟨1, 7, 0, 0, hi⟩, ⟨11, 0, 0, 0, m⟩, ⟨17, 0, 0, 0, 0⟩]
def codesL (l : List ObjD) : List Ins := l.flatMap (·.code)
/-- the orders when so many objects are laid -/
def refC (l : List ObjD) (lo hi m : Int) (i : Nat) : List Ins := relocL (layP l).begs 4 (head4 lo hi m ++ codesL (l.take i)) (l.take i)
theorem codes_len (l : List ObjD) : (codesL l).length = (l.map fun o => o.code.length).sum := by
  induction l with
  | nil => rfl
  | cons o l ih => unfold codesL at *; rw [List.flatMap_cons, List.length_append, ih]; rfl
theorem refC_len {l : List ObjD} {lo hi m : Int} {i : Nat} : (refC l lo hi m i).length = baseOf l i := by
  unfold refC baseOf
  rw [relocL_len, List.length_append, codes_len]
  rfl
theorem refC_next {l : List ObjD} {lo hi m : Int} {i : Nat} (h : i < l.length) (hr : ∀ o ∈ l, ∀ r ∈ o.relocs, r.at'.toNat < o.code.length) : refC l lo hi m (i + 1) = relocO (layP l).begs l[i] (baseOf l i) (refC l lo hi m i ++ l[i].code) l[i].relocs := by
  unfold refC
  rw [List.take_succ_eq_append_getElem h, relocL_snoc]
  have e : codesL (l.take i ++ [l[i]]) = codesL (l.take i) ++ l[i].code := by unfold codesL; rw [List.flatMap_append]; simp
  rw [e, ← List.append_assoc, relocL_append _ _ _ (fun o ho => hr o (List.mem_of_mem_take ho)) (by rw [List.length_append, codes_len]; exact Nat.le_refl _)]
  rfl
theorem layP_code {l : List ObjD} : ∀ {i : Nat}, i ≤ l.length → (layP (l.take i)).code = List.replicate 4 noIns ++ codesL (l.take i)
  | 0, _ => by simp [layP, p0, codesL]
  | i + 1, h => by
    rw [layP_next (by omega), List.take_succ_eq_append_getElem (by omega)]
    show (layP (l.take i)).code ++ l[i].code = _
    rw [layP_code (by omega)]
    unfold codesL
    rw [List.flatMap_append]
    simp
theorem refC_all {l : List ObjD} : refC l (layP l).low (layP l).high (((layP l).begs ⟨2, ⟨#[109, 97, 105, 110]⟩, ⟨#[109, 97, 105, 110]⟩⟩).getD 0) l.length = codeP l := by
  unfold refC codeP headP
  have e := layP_code (l := l) (Nat.le_refl _)
  rw [List.take_length] at e ⊢
  rw [e]
  rfl
theorem base_all {l : List ObjD} (h : layT 0 p0 l = none) : (layP l).low = baseK 3 l ∧ (layP l).high = baseK 4 l := by
  have h3 := offK_lay (kind := 3) (by omega) (l := l) (Nat.le_refl _)
  have h4 := offK_lay (kind := 4) (by omega) (l := l) (Nat.le_refl _)
  rw [List.take_length] at h3 h4
  exact ⟨h3, h4⟩
theorem base_code {l : List ObjD} {i : Nat} : baseK 1 (l.take i) = (baseOf l i : Int) := by
  unfold baseK baseOf
  rw [if_pos (.inl rfl)]
  have key : ∀ a : List ObjD, (a.map (sizeK 1)).sum = ((a.map fun o => o.code.length).sum : Nat) := by
    intro a
    induction a with
    | nil => rfl
    | cons x a ih =>
      rw [List.map_cons, List.sum_cons, ih, List.map_cons, List.sum_cons]
      push_cast
      rfl
  rw [key]
  push_cast
  rfl
end Go.Proofs.YtaiocbbcjdpjgaaGreatDoor.lnk
