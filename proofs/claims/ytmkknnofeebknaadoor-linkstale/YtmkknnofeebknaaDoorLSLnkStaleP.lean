/- A face that has changed is not linked: the plain fact. No Go in sight. Rows of objects of one's own: their cells, how they are read, how one turns. An argument that reads as a row of objects is opened: within the form's own reach. -/
import Derived.Test.YtmkknnofeebknaaDoorLSLnkLink
import Derived.Deep.AppendLies
namespace Go.Proofs.YtmkknnofeebknaaDoor.lnk
open Go.Proofs.YtmkknnofeebknaaDoor.syn (isName eqS)
open Go.Proofs.YtmkknnofeebknaaDoor.mac (Ins)
open Go.Proofs.YtmkknnofeebknaaDoor.obj (ObjD PlcD RelD mayO)
open Go.Proofs.YtmkknnofeebknaaDoor.face (VarD ProcD FaceD mayB sameB mayVarB labelB sameVarB sameProcB all2 namesOf)
set_option linter.unusedVariables false
set_option linter.unusedSimpArgs false
/-- the first variable's label is turned -/
def turnL : List VarD → List VarD
  | [] => []
  | v :: r => { v with label := 1 - v.label } :: r
def turnF (f : FaceD) : FaceD := ⟨f.module, turnL f.vars, f.procs⟩
def turnO (o : ObjD) : ObjD := { o with face := turnF o.face }
theorem turnL_len (l : List VarD) : (turnL l).length = l.length := by cases l <;> rfl
theorem turnL_names (l : List VarD) : (turnL l).map (·.name) = l.map (·.name) := by cases l <;> rfl
theorem may_turn {f : FaceD} (h : mayB f = true) : mayB (turnF f) = true := by
  unfold mayB at h ⊢
  have e : namesOf (turnF f) = namesOf f := by unfold namesOf turnF; rw [turnL_names]
  rw [e]
  show (isName f.module && (decide ((turnL f.vars).length + f.procs.length ≤ 20) && ((turnL f.vars).all mayVarB && (f.procs.all face.mayProcB && face.apartB [] (namesOf f))))) = true
  rw [turnL_len]
  simp only [Bool.and_eq_true] at h ⊢
  refine ⟨h.1, h.2.1, ?_, h.2.2.2⟩
  have h3 := h.2.2.1
  cases hv : f.vars with
  | nil => rfl
  | cons v r =>
    rw [hv, List.all_cons, Bool.and_eq_true] at h3
    show (mayVarB { v with label := 1 - v.label } && r.all mayVarB) = true
    rw [h3.2, Bool.and_true]
    have h1 := h3.1
    unfold mayVarB at h1 ⊢
    simp only [Bool.and_eq_true] at h1 ⊢
    refine ⟨h1.1, h1.2.1, ?_, h1.2.2.2⟩
    have h5 := h1.2.2.1
    unfold labelB at h5 ⊢
    simp only [Bool.or_eq_true, beq_iff_eq] at h5 ⊢
    omega
theorem same_turn {q f : FaceD} (h : sameB q f = true) (hv : f.vars ≠ []) : sameB q (turnF f) = false := by
  unfold sameB at h ⊢
  show (eqS q.module f.module && (all2 sameVarB q.vars (turnL f.vars) && all2 sameProcB q.procs f.procs)) = false
  simp only [Bool.and_eq_true] at h
  obtain ⟨_, h2, _⟩ := h
  have e : all2 sameVarB q.vars (turnL f.vars) = false := by
    cases hf : f.vars with
    | nil => exact absurd hf hv
    | cons v r =>
      rw [hf] at h2
      cases hq : q.vars with
      | nil => rw [hq] at h2; cases h2
      | cons u s =>
        rw [hq] at h2
        show (sameVarB u { v with label := 1 - v.label } && all2 sameVarB s r) = false
        have h3 : (sameVarB u v && all2 sameVarB s r) = true := h2
        rw [Bool.and_eq_true] at h3
        have h4 := h3.1
        unfold sameVarB at h4 ⊢
        simp only [Bool.and_eq_true, beq_iff_eq] at h4
        have : (u.label == 1 - v.label) = false := by rw [beq_eq_false_iff_ne]; omega
        simp [this]
  rw [e, Bool.false_and, Bool.and_false]
theorem mayO_turn {o : ObjD} (h : mayO o = true) : mayO (turnO o) = true := by
  unfold mayO obj.facesB at h ⊢
  simp only [Bool.and_eq_true] at h ⊢
  obtain ⟨⟨h1, h2⟩, h3⟩ := h
  exact ⟨⟨may_turn h1, h2⟩, h3⟩
/-! nothing is wrong as objects are laid, if each may be and the names are apart -/
theorem layT_of : ∀ (l : List ObjD) (i : Int) (q : PSt), (∀ o ∈ l, mayO o = true) → (∀ o ∈ l, q.fcs o.face.module = none) → (l.map fun o => o.face.module).Nodup → layT i q l = none
  | [], _, _, _, _, _ => rfl
  | o :: l, i, q, h1, h2, h3 => by
    unfold layT
    rw [if_pos (h1 o (.head _)), h2 o (.head _)]
    rw [if_neg (by simp)]
    rw [List.map_cons, List.nodup_cons] at h3
    refine layT_of l _ _ (fun x hx => h1 x (.tail _ hx)) (fun x hx => ?_) h3.2
    show (if eqS x.face.module o.face.module then some o.face else q.fcs x.face.module) = none
    rw [if_neg (fun e => h3.1 (by rw [← eqS_eq e]; exact List.mem_map.2 ⟨x, hx, rfl⟩))]
    exact h2 x (.tail _ hx)
theorem nodup_of {l : List ObjD} (h : layT 0 p0 l = none) : (l.map fun o => o.face.module).Nodup := by
  unfold List.Nodup
  rw [List.pairwise_iff_getElem]
  intro i j hi hj hij
  rw [List.getElem_map, List.getElem_map]
  exact mods_apart h hij (by simpa using hj)
theorem fcs_at {l : List ObjD} (h : layT 0 p0 l = none) {j : Nat} (hj : j < l.length) : ∀ {i : Nat}, j < i → i ≤ l.length → (layP (l.take i)).fcs l[j].face.module = some l[j].face
  | 0, hji, _ => by omega
  | i + 1, hji, hi => by
    rw [layP_next (by omega)]
    show (if eqS l[j].face.module l[i].face.module then some l[i].face else (layP (l.take i)).fcs l[j].face.module) = _
    by_cases e2 : j = i
    · subst e2
      rw [if_pos (eqS_refl _)]
    · rw [if_neg (fun e => mods_apart h (i := i) (j := j) (by omega) (by omega) (eqS_eq e))]
      exact fcs_at h hj (by omega) (by omega)
theorem fcs_src {l : List ObjD} {z : ByteArray} {f : FaceD} : ∀ {i : Nat}, i ≤ l.length → (layP (l.take i)).fcs z = some f → ∃ j, ∃ h : j < l.length, z = l[j].face.module ∧ f = l[j].face
  | 0, _, h => by cases h
  | i + 1, hi, h => by
    rw [layP_next (by omega)] at h
    have h' : (if eqS z l[i].face.module then some l[i].face else (layP (l.take i)).fcs z) = some f := h
    by_cases e : eqS z l[i].face.module = true
    · rw [if_pos e] at h'
      exact ⟨i, by omega, eqS_eq e, (Option.some.inj h').symm⟩
    · rw [if_neg e] at h'
      exact fcs_src (by omega) h'
theorem fcs_all {l : List ObjD} (h : layT 0 p0 l = none) {j : Nat} (hj : j < l.length) : (layP l).fcs l[j].face.module = some l[j].face := by
  have := fcs_at h hj hj (Nat.le_refl _)
  rwa [List.take_length] at this
theorem fcs_from {l : List ObjD} {z : ByteArray} {f : FaceD} (h : (layP l).fcs z = some f) : ∃ j, ∃ h : j < l.length, z = l[j].face.module ∧ f = l[j].face :=
  fcs_src (i := l.length) (Nat.le_refl _) (by rw [List.take_length]; exact h)
/-! imports -/
theorem impO_none {f : ByteArray → Option FaceD} {i : Int} : ∀ (l : List FaceD) (j : Int), impO f i j l = none → ∀ q ∈ l, ∃ own, f q.module = some own ∧ sameB q own = true
  | [], _, _, q, hq => by cases hq
  | x :: l, j, h, q, hq => by
    unfold impO at h
    cases hf : f x.module with
    | none => rw [hf] at h; cases h
    | some own =>
      rw [hf] at h
      dsimp only at h
      by_cases hs : sameB x own = true
      · rw [if_pos hs] at h
        rcases List.mem_cons.1 hq with rfl | hq
        · exact ⟨own, hf, hs⟩
        · exact impO_none l _ h q hq
      · rw [if_neg hs] at h; cases h
theorem impT_none {f : ByteArray → Option FaceD} : ∀ (l : List ObjD) (i : Int), impT f i l = none → ∀ o ∈ l, ∀ q ∈ o.imports, ∃ own, f q.module = some own ∧ sameB q own = true
  | [], _, _, o, ho => by cases ho
  | x :: l, i, h, o, ho => by
    unfold impT at h
    rw [Option.or_eq_none_iff] at h
    rcases List.mem_cons.1 ho with rfl | ho
    · exact impO_none _ _ h.1
    · exact impT_none l _ h.2 o ho
theorem impO_kind {f : ByteArray → Option FaceD} {i : Int} : ∀ (l : List FaceD) (j : Int), (∀ q ∈ l, ∃ own, f q.module = some own) → impO f i j l = none ∨ ∃ b, impO f i j l = some (i, 3, b)
  | [], _, _ => .inl rfl
  | x :: l, j, h => by
    obtain ⟨own, hf⟩ := h x (.head _)
    unfold impO
    rw [hf]
    dsimp only
    by_cases hs : sameB x own = true
    · rw [if_pos hs]
      exact impO_kind l _ fun q hq => h q (.tail _ hq)
    · rw [if_neg hs]
      exact .inr ⟨_, rfl⟩
theorem impT_kind {f : ByteArray → Option FaceD} : ∀ (l : List ObjD) (i : Int), (∀ o ∈ l, ∀ q ∈ o.imports, ∃ own, f q.module = some own) → impT f i l = none ∨ ∃ a b, impT f i l = some (a, 3, b)
  | [], _, _ => .inl rfl
  | x :: l, i, h => by
    unfold impT
    rcases impO_kind (i := i) x.imports 0 (h x (.head _)) with e | ⟨b, e⟩
    · rw [e]
      exact impT_kind l _ fun o ho => h o (.tail _ ho)
    · rw [e]
      exact .inr ⟨_, _, rfl⟩
/-- is the k-th one's name known to one of them? -/
def knownB (l : List ObjD) (m : ByteArray) : Bool := l.any fun o => o.imports.any fun q => eqS q.module m
theorem stale_pure {l : List ObjD} {k : Nat} (hk : k < l.length) (h : linkT l = none) (hv : l[k].face.vars ≠ []) (hkn : knownB l l[k].face.module = true) : ∃ a b, linkT (l.set k (turnO l[k])) = some (a, 3, b) := by
  unfold linkT at h
  simp only [Option.or_eq_none_iff] at h
  obtain ⟨h1, h2, _⟩ := h
  unfold layR at h1
  by_cases hl : l.length = 0 ∨ 6 < l.length
  · rw [if_pos hl] at h1; cases h1
  rw [if_neg hl] at h1
  have hmay := layT_none l 0 p0 h1
  obtain ⟨l', hl'⟩ : ∃ l', l' = l.set k (turnO l[k]) := ⟨_, rfl⟩
  have hlen : l'.length = l.length := by rw [hl', List.length_set]
  have hat : ∀ i (hi : i < l.length) (hi' : i < l'.length), l'[i] = if k = i then turnO l[i] else l[i] := fun i hi hi' => by
    subst hl'
    rw [List.getElem_set]
    by_cases e : k = i
    · subst e; simp
    · simp [e]
  have him : ∀ i (hi : i < l.length) (hi' : i < l'.length), l'[i].imports = l[i].imports ∧ l'[i].face.module = l[i].face.module := fun i hi hi' => by
    rw [hat i hi hi']
    split
    · exact ⟨rfl, rfl⟩
    · exact ⟨rfl, rfl⟩
  have hmods : (l'.map fun o => o.face.module) = l.map fun o => o.face.module := by
    refine List.ext_getElem (by simp [hlen]) fun i h1 h2 => ?_
    rw [List.getElem_map, List.getElem_map]
    exact (him i (by simpa using h2) (by simpa using h1)).2
  have hmay' : ∀ o ∈ l', mayO o = true := fun o ho => by
    obtain ⟨i, hi, rfl⟩ := List.mem_iff_getElem.1 ho
    rw [hat i (by omega) hi]
    split
    · exact mayO_turn (hmay _ (List.getElem_mem _))
    · exact hmay _ (List.getElem_mem _)
  have h1' : layT 0 p0 l' = none := layT_of l' 0 p0 hmay' (fun _ _ => rfl) (by rw [hmods]; exact nodup_of h1)
  have hR : layR l' = none := by unfold layR; rw [hlen, if_neg hl]; exact h1'
  have hall := impT_none l 0 h2
  -- what is found for an import, ahead and now
  have key : ∀ i (hi : i < l.length), ∀ q ∈ l[i].imports, ∃ j, ∃ hj : j < l.length, ∃ hj' : j < l'.length, q.module = l[j].face.module ∧ sameB q l[j].face = true ∧ (layP l').fcs q.module = some l'[j].face := fun i hi q hq => by
    obtain ⟨own, hf, hs⟩ := hall l[i] (List.getElem_mem _) q hq
    obtain ⟨j, hj, e1, e2⟩ := fcs_from hf
    subst e2
    refine ⟨j, hj, by omega, e1, hs, ?_⟩
    rw [e1, ← (him j hj (by omega)).2]
    exact fcs_all h1' (by omega)
  have hkind := impT_kind (f := (layP l').fcs) l' 0 (fun o ho q hq => by
    obtain ⟨i, hi, rfl⟩ := List.mem_iff_getElem.1 ho
    rw [(him i (by omega) hi).1] at hq
    obtain ⟨j, hj, hj', _, _, e⟩ := key i (by omega) q hq
    exact ⟨_, e⟩)
  have hsome : impT (layP l').fcs 0 l' ≠ none := fun hn => by
    have hall' := impT_none l' 0 hn
    unfold knownB at hkn
    obtain ⟨o, ho, hkn⟩ := List.any_eq_true.1 hkn
    obtain ⟨q, hq, hqm⟩ := List.any_eq_true.1 hkn
    obtain ⟨i, hi, rfl⟩ := List.mem_iff_getElem.1 ho
    obtain ⟨j, hj, hj', e1, e2, e3⟩ := key i hi q hq
    have hjk : j = k := by
      have e : l[j].face.module = l[k].face.module := by rw [← e1]; exact eqS_eq hqm
      rcases Nat.lt_trichotomy j k with h | h | h
      · exact absurd e (mods_apart h1 h hk)
      · exact h
      · exact absurd e.symm (mods_apart h1 h hj)
    subst hjk
    obtain ⟨own, hf, hs⟩ := hall' l'[i] (List.getElem_mem _) q (by rw [(him i hi (by omega)).1]; exact hq)
    rw [e3] at hf
    cases hf
    rw [hat j hj hj', if_pos rfl] at hs
    have : sameB q (turnF l[j].face) = false := same_turn e2 hv
    have h9 : sameB q (turnO l[j]).face = sameB q (turnF l[j].face) := rfl
    rw [h9, this] at hs
    cases hs
  rw [← hl']
  rcases hkind with e | ⟨a, b, e⟩
  · exact absurd e hsome
  · refine ⟨a, b, ?_⟩
    unfold linkT
    rw [hR, e]
    rfl
/-! what is wrong has a code -/
theorem linkT_code {l : List ObjD} {t : Int × Int × Int} (h : linkT l = some t) : t.2.1 ≠ 0 := by
  have o : ∀ {a b : Option (Int × Int × Int)}, (∀ t, a = some t → t.2.1 ≠ 0) → (∀ t, b = some t → t.2.1 ≠ 0) → ∀ t, a.or b = some t → t.2.1 ≠ 0 := fun {a b} ha hb t ht => by
    cases a with
    | none => exact hb t ht
    | some u => exact ha t ht
  have lay : ∀ (l : List ObjD) (i : Int) (q : PSt) (t : Int × Int × Int), layT i q l = some t → t.2.1 ≠ 0 := by
    intro l
    induction l with
    | nil => intro i q t h; cases h
    | cons x l ih =>
      intro i q t h
      unfold layT at h
      split at h
      · split at h
        · cases h; (dsimp only; decide)
        · exact ih _ _ _ h
      · cases h; (dsimp only; decide)
  have impo : ∀ (f : ByteArray → Option FaceD) (l : List FaceD) (i j : Int) (t : Int × Int × Int), impO f i j l = some t → t.2.1 ≠ 0 := by
    intro f l
    induction l with
    | nil => intro i j t h; cases h
    | cons x l ih =>
      intro i j t h
      unfold impO at h
      split at h
      · cases h; (dsimp only; decide)
      · split at h
        · exact ih _ _ _ h
        · cases h; (dsimp only; decide)
  have imp : ∀ (f : ByteArray → Option FaceD) (l : List ObjD) (i : Int) (t : Int × Int × Int), impT f i l = some t → t.2.1 ≠ 0 := by
    intro f l
    induction l with
    | nil => intro i t h; cases h
    | cons x l ih => intro i t h; unfold impT at h; exact o (impo f _ _ _) (ih _) t h
  have relo : ∀ (f : Thg → Option Int) (d : ObjD) (l : List RelD) (i j : Int) (t : Int × Int × Int), relO f d i j l = some t → t.2.1 ≠ 0 := by
    intro f d l
    induction l with
    | nil => intro i j t h; cases h
    | cons x l ih =>
      intro i j t h
      unfold relO at h
      split at h
      · exact ih _ _ _ h
      · cases h; (dsimp only; decide)
  have rel : ∀ (f : Thg → Option Int) (l : List ObjD) (i : Int) (t : Int × Int × Int), relT f i l = some t → t.2.1 ≠ 0 := by
    intro f l
    induction l with
    | nil => intro i t h; cases h
    | cons x l ih => intro i t h; unfold relT at h; exact o (relo f _ _ _ _) (ih _) t h
  have ordo : ∀ (l : List Ins) (N i j : Int) (t : Int × Int × Int), ordO N i j l = some t → t.2.1 ≠ 0 := by
    intro l
    induction l with
    | nil => intro N i j t h; cases h
    | cons x l ih =>
      intro N i j t h
      unfold ordO at h
      split at h
      · exact ih _ _ _ _ h
      · cases h; (dsimp only; decide)
  have ord : ∀ (l : List ObjD) (c : List Ins) (b : Nat) (i : Int) (t : Int × Int × Int), ordT c b i l = some t → t.2.1 ≠ 0 := by
    intro l
    induction l with
    | nil => intro c b i t h; cases h
    | cons x l ih => intro c b i t h; unfold ordT at h; exact o (ordo _ _ _ _) (ih _ _ _) t h
  unfold linkT at h
  refine o (fun t h => ?_) (o (imp _ _ _) (o (rel _ _ _) (o (fun t h => ?_) (o (fun t h => ?_) (ord _ _ _ _))))) t h
  · unfold layR at h
    split at h
    · cases h; (dsimp only; decide)
    · exact lay _ _ _ _ h
  · unfold mainT at h
    split at h
    · cases h
    · cases h; (dsimp only; decide)
  · unfold roomP at h
    split at h
    · cases h; (dsimp only; decide)
    · cases h
end Go.Proofs.YtmkknnofeebknaaDoor.lnk
namespace Go.Proofs.YtmkknnofeebknaaDoor.lnk
open Go.RowKit
open Go.Proofs.YtmkknnofeebknaaDoor.syn (isName eqS)
open Go.Proofs.YtmkknnofeebknaaDoor.mac (BoxC Ins grown_of_below)
open Go.Proofs.YtmkknnofeebknaaDoor.obj (ObjD PlcD RelD Vals ObjAt PlcsIn RelsIn CodeIn FacesIn objV relV mayO)
open Go.Proofs.YtmkknnofeebknaaDoor.face (VarD ProcD FaceD FaceIn keep VarsIn ProcsIn)
set_option linter.unusedVariables false
set_option linter.unusedSimpArgs false
set_option maxRecDepth 100000
def objC (p : ObjD × Vals) : List Value := [.string p.1.face.module, p.2.vv, p.2.pv, p.2.iv, p.2.cv, p.2.rv, p.2.p1, p.2.p2, p.2.p3, .int .i64 p.1.low, .int .i64 p.1.high, .int .i64 p.1.lowF, .int .i64 p.1.highF]
theorem flat13_len (l : List (ObjD × Vals)) : (l.flatMap objC).length = l.length * 13 := by
  induction l with
  | nil => rfl
  | cons x r ih => rw [List.flatMap_cons, List.length_append, ih, List.length_cons]; show 13 + _ = _; omega
theorem flat13_at : ∀ (l : List (ObjD × Vals)) (i : Nat) (hi : i < l.length) (j : Nat), j < 13 → (l.flatMap objC)[i * 13 + j]? = (objC l[i])[j]?
  | [], i, hi, _, _ => by simp at hi
  | x :: l, 0, hi, j, hj => by
    simp only [List.flatMap_cons, Nat.zero_mul, Nat.zero_add, List.getElem_cons_zero]
    rw [List.getElem?_append_left (show j < (objC x).length from hj)]
  | x :: l, i + 1, hi, j, hj => by
    have ih := flat13_at l i (by simpa using hi) j hj
    have e : (i + 1) * 13 + j = (objC x).length + (i * 13 + j) := by show _ = 13 + _; omega
    rw [List.flatMap_cons, e, List.getElem?_append_right (by omega), Nat.add_sub_cancel_left, ih]
    rfl
/-- objects that are handed in, with their values -/
theorem objs_list {w : World} {v : Value} {l : List ObjD} (h : ObjsIn w v l) : ∃ L : List (ObjD × Vals), L.map (·.1) = l ∧ ∃ a c, v = .slice a L.length c ∧ L.length ≤ 8796093022208 ∧
    (L ≠ [] → ∃ g o, a = some ⟨g, o, none⟩ ∧ ∀ i (h : i < L.length), ObjAt w L[i].2 L[i].1 ∧ OCells w g (o + i * 13) L[i].1 L[i].2) := by
  obtain ⟨a, c, rfl, hl, hk⟩ := h
  by_cases hn : l = []
  · subst hn
    exact ⟨[], rfl, a, c, rfl, hl, fun h => absurd rfl h⟩
  · obtain ⟨g, o, rfl, hc⟩ := hk hn
    haveI : Inhabited Vals := ⟨⟨.bool false, .bool false, .bool false, .bool false, .bool false, .bool false, .bool false, .bool false⟩⟩
    obtain ⟨V, hV⟩ := Deep.choose_lt (n := l.length) (p := fun i x => ∀ h : i < l.length, ObjAt w x l[i] ∧ OCells w g (o + i * 13) l[i] x) (fun i hi => by
      obtain ⟨x, h1, h2⟩ := hc i hi
      exact ⟨x, fun _ => ⟨h1, h2⟩⟩)
    refine ⟨l.zipIdx.map fun p => (p.1, V p.2), ?_, some ⟨g, o, none⟩, c, by simp, by simpa using hl, fun _ => ⟨g, o, rfl, fun i hi => ?_⟩⟩
    · rw [List.map_map]
      refine List.ext_getElem (by simp) fun i h1 h2 => ?_
      simp
    · have hi' : i < l.length := by simpa using hi
      have := hV i hi' hi'
      simpa using this
section
variable {w : World} {N g cap : Nat} {L : List (ObjD × Vals)}
theorem row_cell {n : Nat} (h : w.ownsRow N 39 13 (.slice (some ⟨g, 0, none⟩) n cap) n (L.flatMap objC)) (hn : n = L.length) {i j : Nat} (hi : i < L.length) (hj : j < 13) {v : Value} (hv : (objC L[i])[j]? = some v) : w.cell? ⟨g, i * 13 + j, none⟩ = some v := by
  subst hn
  rw [h.cellAt (i * 13 + j) (by omega), flat13_at _ _ hi j hj]
  exact hv
theorem objs_of_row {n : Nat} (h : w.ownsRow N 39 13 (.slice (some ⟨g, 0, none⟩) n cap) n (L.flatMap objC)) (hn : n = L.length) (hat : ∀ i (h : i < L.length), ObjAt w L[i].2 L[i].1) (hl : L.length ≤ 8796093022208) : ObjsIn w (.slice (some ⟨g, 0, none⟩) n cap) (L.map (·.1)) := by
  refine ⟨some ⟨g, 0, none⟩, cap, by rw [List.length_map, hn], by rwa [List.length_map], fun _ => ⟨g, 0, rfl, fun i hi => ?_⟩⟩
  have hi' : i < L.length := by simpa using hi
  refine ⟨L[i].2, by simpa using hat i hi', ?_⟩
  rw [List.getElem_map]
  have c := fun (j : Nat) (hj : j < 13) (v : Value) (hv : (objC L[i])[j]? = some v) => row_cell h hn hi' hj hv
  have e : ∀ k, 0 + i * 13 + k = i * 13 + k := fun k => by omega
  refine ⟨?_, ?_, ?_, ?_, ?_, ?_, ?_, ?_, ?_, ?_, ?_, ?_, ?_⟩
  · rw [Nat.zero_add]; exact c 0 (by decide) _ rfl
  · rw [e]; exact c 1 (by decide) _ rfl
  · rw [e]; exact c 2 (by decide) _ rfl
  · rw [e]; exact c 3 (by decide) _ rfl
  · rw [e]; exact c 4 (by decide) _ rfl
  · rw [e]; exact c 5 (by decide) _ rfl
  · rw [e]; exact c 6 (by decide) _ rfl
  · rw [e]; exact c 7 (by decide) _ rfl
  · rw [e]; exact c 8 (by decide) _ rfl
  · rw [e]; exact c 9 (by decide) _ rfl
  · rw [e]; exact c 10 (by decide) _ rfl
  · rw [e]; exact c 11 (by decide) _ rfl
  · rw [e]; exact c 12 (by decide) _ rfl
/-- a face turns where it lies -/
theorem setF_flat : ∀ (l : List (ObjD × Vals)) (k : Nat) (hk : k < l.length) (vs : List VarD) (u : Value), ((((l.flatMap objC).set (k * 13) (.string l[k].1.face.module)).set (k * 13 + 1) u).set (k * 13 + 2) l[k].2.pv) = (l.set k ({ l[k].1 with face := ⟨l[k].1.face.module, vs, l[k].1.face.procs⟩ }, { l[k].2 with vv := u })).flatMap objC
  | [], k, hk, _, _ => by simp at hk
  | x :: r, 0, hk, vs, u => by simp [objC]
  | x :: r, k + 1, hk, vs, u => by
    have ih := setF_flat r k (by simpa using hk) vs u
    have e : ∀ j, (k + 1) * 13 + j = (objC x).length + (k * 13 + j) := fun j => by show _ = 13 + _; omega
    have e0 := e 0
    simp only [Nat.add_zero] at e0
    rw [List.flatMap_cons, e 2, e 1, e0]
    simp only [List.set_append_right _ _ (Nat.le_add_right (objC x).length _), Nat.add_sub_cancel_left, List.set_cons_succ, List.flatMap_cons, List.getElem_cons_succ]
    rw [ih]
theorem row_setF {n : Nat} (h : w.ownsRow N 39 13 (.slice (some ⟨g, 0, none⟩) n cap) n (L.flatMap objC)) (hn : n = L.length) {k : Nat} (hk : k < L.length) (vs : List VarD) (u : Value) :
    (((w.setCell ⟨g, k * 13, none⟩ (.string L[k].1.face.module)).setCell ⟨g, k * 13 + 1, none⟩ u).setCell ⟨g, k * 13 + 2, none⟩ L[k].2.pv).ownsRow N 39 13 (.slice (some ⟨g, 0, none⟩) n cap) n ((L.set k ({ L[k].1 with face := ⟨L[k].1.face.module, vs, L[k].1.face.procs⟩ }, { L[k].2 with vv := u })).flatMap objC) := by
  have := own_set (own_set (own_set h (k * 13) (by omega) (.string L[k].1.face.module)) (k * 13 + 1) (by omega) u) (k * 13 + 2) (by omega) L[k].2.pv
  rw [setF_flat _ _ hk vs u] at this
  exact this
end
theorem infoO : (Tryd.prog.info? 39).map (fun i => (i.zero, i.size, i.bytes)) = some (some (.agg #[.string ⟨#[]⟩, .slice none 0 0, .slice none 0 0, .slice none 0 0, .slice none 0 0, .slice none 0 0, .slice none 0 0, .slice none 0 0, .slice none 0 0, .int .i64 0, .int .i64 0, .int .i64 0, .int .i64 0]), 13, 240) := by kernel_rfl
theorem infoV : (Tryd.prog.info? 41).map (fun i => (i.zero, i.size, i.bytes)) = some (some (.agg #[.string ⟨#[]⟩, .bool false, .int .i64 0, .int .i64 0]), 4, 40) := by kernel_rfl
def varC (v : VarD) : List Value := [.string v.name, .bool v.pub, .int .i64 v.label, .int .i64 v.size]
theorem flat4_len (l : List VarD) : (l.flatMap varC).length = l.length * 4 := by
  induction l with
  | nil => rfl
  | cons x r ih => rw [List.flatMap_cons, List.length_append, ih, List.length_cons]; show 4 + _ = _; omega
theorem flat4_at : ∀ (l : List VarD) (i : Nat) (hi : i < l.length) (j : Nat), j < 4 → (l.flatMap varC)[i * 4 + j]? = (varC l[i])[j]?
  | [], i, hi, _, _ => by simp at hi
  | x :: l, 0, hi, j, hj => by
    simp only [List.flatMap_cons, Nat.zero_mul, Nat.zero_add, List.getElem_cons_zero]
    rw [List.getElem?_append_left (show j < (varC x).length from hj)]
  | x :: l, i + 1, hi, j, hj => by
    have ih := flat4_at l i (by simpa using hi) j hj
    have e : (i + 1) * 4 + j = (varC x).length + (i * 4 + j) := by show _ = 4 + _; omega
    rw [List.flatMap_cons, e, List.getElem?_append_right (by omega), Nat.add_sub_cancel_left, ih]
    rfl
theorem vars_one (l : List VarD) : ∀ u ∈ l.flatMap varC, u.oneCell' = true := fun u hu => by
  obtain ⟨i, _, hi⟩ := List.mem_flatMap.1 hu
  simp only [varC, List.mem_cons, List.not_mem_nil, or_false] at hi
  rcases hi with rfl | rfl | rfl | rfl <;> rfl
/-- the cells of variables that are handed in -/
theorem vars_news {w : World} {g o : Nat} {l : List VarD} (h : ∀ i (h : i < l.length), w.cell? ⟨g, o + i * 4, none⟩ = some (.string l[i].name) ∧ w.cell? ⟨g, o + i * 4 + 1, none⟩ = some (.bool l[i].pub) ∧ w.cell? ⟨g, o + i * 4 + 2, none⟩ = some (.int .i64 l[i].label) ∧ w.cell? ⟨g, o + i * 4 + 3, none⟩ = some (.int .i64 l[i].size)) :
    ∀ j u, (l.flatMap varC)[j]? = some u → w.cell? (Addr.add ⟨g, o, none⟩ j) = some u := fun j u hu => by
  have hj : j < (l.flatMap varC).length := by
    rcases Nat.lt_or_ge j (l.flatMap varC).length with h | h
    · exact h
    · rw [List.getElem?_eq_none h] at hu; cases hu
  rw [flat4_len] at hj
  have hi : j / 4 < l.length := by omega
  have e : j = j / 4 * 4 + j % 4 := by omega
  have hc := h (j / 4) hi
  have ha : ((⟨g, o, none⟩ : Addr).add j) = ⟨g, o + j / 4 * 4 + j % 4, none⟩ := by
    rw [Go.WideShapes.add_plain]
    congr 1
    omega
  rw [ha]
  rw [e, flat4_at l (j / 4) hi (j % 4) (by omega)] at hu
  have hm := Nat.mod_lt j (show 0 < 4 by decide)
  generalize j / 4 = i at *
  generalize j % 4 = m at *
  match m, hm with
  | 0, _ => rw [← hu]; exact hc.1
  | 1, _ => rw [← hu]; exact hc.2.1
  | 2, _ => rw [← hu]; exact hc.2.2.1
  | 3, _ => rw [← hu]; exact hc.2.2.2
/-- variables in a row of one's own -/
theorem vars_of_row {w : World} {N g n cap : Nat} {l : List VarD} (h : w.ownsRow N 41 4 (.slice (some ⟨g, 0, none⟩) n cap) n (l.flatMap varC)) (hn : n = l.length) (hl : l.length ≤ 4611686018427387903) : VarsIn w (.slice (some ⟨g, 0, none⟩) n cap) l := by
  subst hn
  refine ⟨_, cap, rfl, hl, fun _ => ⟨g, 0, rfl, fun i hi => ?_⟩⟩
  have cell : ∀ f v, (varC l[i])[f]? = some v → f < 4 → w.cell? ⟨g, 0 + i * 4 + f, none⟩ = some v := fun f v hv hf => by
    rw [Nat.zero_add, h.cellAt (i * 4 + f) (by omega), flat4_at _ _ hi f hf]
    exact hv
  exact ⟨cell 0 _ rfl (by decide), cell 1 _ rfl (by decide), cell 2 _ rfl (by decide), cell 3 _ rfl (by decide)⟩
theorem turnL_flat : ∀ (v : VarD) (r : List VarD), ((v :: r).flatMap varC).set 2 (.int .i64 (1 - v.label)) = (turnL (v :: r)).flatMap varC
  | v, r => by simp [turnL, varC]
theorem row_turn {w : World} {N g n cap : Nat} {v : VarD} {r : List VarD} (h : w.ownsRow N 41 4 (.slice (some ⟨g, 0, none⟩) n cap) n ((v :: r).flatMap varC)) (hn : n = (v :: r).length) :
    (w.setCell ⟨g, 2, none⟩ (.int .i64 (1 - v.label))).ownsRow N 41 4 (.slice (some ⟨g, 0, none⟩) n cap) n ((turnL (v :: r)).flatMap varC) := by
  have := own_set h 2 (by rw [hn, List.length_cons]; omega) (.int .i64 (1 - v.label))
  rw [turnL_flat] at this
  exact this
end Go.Proofs.YtmkknnofeebknaaDoor.lnk
namespace Go.Proofs.YtmkknnofeebknaaDoor.lnk
open Go.RowKit Go.ChangeShapes Go.WideShapes
open Go.Proofs.YtmkknnofeebknaaDoor.mac (Ins)
open Go.Proofs.YtmkknnofeebknaaDoor.obj (ObjD PlcD RelD Vals ObjAt PlcsIn RelsIn CodeIn FacesIn)
open Go.Proofs.YtmkknnofeebknaaDoor.face (VarD ProcD FaceD VarsIn ProcsIn IntsIn FaceIn plain_addr cell1s cell1b cell1i cell1l cell3 cell4 cell6 open_vars open_procs)
set_option linter.unusedVariables false
set_option maxRecDepth 100000
theorem weights_all {H : Type} {P : Program} {e : TypeId} : ∀ {l : List (DataW H)} {d : DataW H}, d ∈ l → ∀ n ∈ d.weights P e, n ∈ DataW.weightsAll P e l
  | [], _, h, _, _ => by cases h
  | x :: r, d, h, n, hn => by
    rw [DataW.weightsAll, List.mem_append]
    rcases List.mem_cons.1 h with e | e
    · subst e; exact .inl hn
    · exact .inr (weights_all e n hn)
section
variable {H : Type} {enc : TypeId × Value → H} {W : World} {n : Nat}
theorem open_rowW {α : Type} [Inhabited α] {T E : TypeId} {k b : Nat} (hT : Tryd.prog.underlying T = some (.slice E)) (hE : Tryd.prog.cellsOf E = k) (hk : 0 < k) (hby : Tryd.prog.bytesOf E = b) (C : α → (Nat → Option Value) → Prop)
    (each : ∀ (cs : List Value) (m : Nat) (y : DataW H × List MemPlace), cs.length = k → DataW.trod enc Tryd.prog W 0 (fun _ => true) true m E cs = some y → (∀ j ∈ y.1.weights Tryd.prog E, j ≤ reachBytes) → ∃ q : α, ∀ f : Nat → Option Value, (∀ i (h : i < cs.length), f i = some cs[i]) → C q f)
    {v : Value} {x : DataW H × List MemPlace} (h : DataW.trod enc Tryd.prog W 0 (fun _ => true) true n T [v] = some x) (hwt : ∀ j ∈ x.1.weights Tryd.prog T, j ≤ reachBytes) :
    ∃ l : List α, ∃ a c, v = .slice a l.length c ∧ l.length * b ≤ reachBytes ∧ (l ≠ [] → ∃ g o, a = some ⟨g, o, none⟩ ∧ ∀ i (h : i < l.length), C l[i] fun m => W.cell? ⟨g, o + i * k + m, none⟩) := by
  rcases Deep.open_slice hT h with ⟨h0, _⟩ | ⟨a, len, cap, m, q, D, Pl, h0, _, hl, hm, hmm, rfl, hc⟩
  · simp only [List.cons.injEq, and_true] at h0
    exact ⟨[], none, 0, h0, by simp, fun h => absurd rfl h⟩
  · simp only [List.cons.injEq, and_true] at h0
    simp only [if_true] at hmm
    have hlim : len * b ≤ reachBytes := by
      have h2 := hwt ((len + (m - len)) * b) (by simp [DataW.weights, hT, hby])
      exact Nat.le_trans (Nat.mul_le_mul_right _ (Nat.le_add_right _ _)) h2
    have one : ∀ i, i < len → ∃ q : α, ∀ g o, a = ⟨g, o, none⟩ → C q fun m => W.cell? ⟨g, o + i * k + m, none⟩ := by
      intro i hi
      obtain ⟨cs', h1, h2⟩ := hc i (by omega)
      rw [hE] at h1
      obtain ⟨_, hlen2, hcell⟩ := World.cells?_some h1
      obtain ⟨q, hq⟩ := each cs' _ _ hlen2 h2 (fun j hj => hwt j (by
        simp only [DataW.weights, hT, List.mem_cons, List.mem_append]
        exact .inr (.inl (weights_all (List.mem_map.2 ⟨i, List.mem_range.2 hi, rfl⟩) j hj))))
      refine ⟨q, fun g o e => ?_⟩
      subst e
      refine hq _ fun j hj => ?_
      have := hcell j (by omega)
      rw [List.getElem?_eq_getElem hj] at this
      simpa [add_plain, Nat.add_assoc] using this
    obtain ⟨V, hV⟩ := Deep.choose_lt one
    refine ⟨(List.range len).map V, some a, cap, by simpa using h0, by simpa using hlim, fun hne => ?_⟩
    have hpos : 0 < len := by
      rcases Nat.eq_zero_or_pos len with h | h
      · subst h; simp at hne
      · exact h
    obtain ⟨g, o, e⟩ : ∃ g o, a = ⟨g, o, none⟩ := by
      obtain ⟨cs', h1, h2⟩ := hc 0 (by omega)
      rw [hE] at h1
      obtain ⟨_, hlen2, hcell⟩ := World.cells?_some h1
      have hc0 := hcell 0 (by omega)
      rw [List.getElem?_eq_getElem (show 0 < cs'.length by omega), Nat.zero_mul, Addr.add, if_pos rfl, Addr.add, if_pos rfl] at hc0
      exact plain_addr hc0
    refine ⟨g, o, by rw [e], fun i hi => ?_⟩
    simp only [List.getElem_map, List.getElem_range]
    exact (hV i (by simpa using hi)) g o e
theorem reach_is : reachBytes ≤ 140737488355328 := by decide
theorem cellI64 : Tryd.prog.cellsOf 2 = 1 := by kernel_rfl
theorem trod_s2 {P : Program} {w : World} {base : Nat} {spare : Nat → Bool} {held : Bool} {t : TypeId} {f0 f1 : Field} {fuel : Nat} {cs : List Value} {x : DataW H × List MemPlace} (ht : P.underlying t = some (.struct #[f0, f1])) (h : DataW.trod enc P w base spare held fuel t cs = some x) :
    ∃ y0 y1 n, DataW.trod enc P w base spare held n f0.type ((cs.drop f0.offset).take (P.cellsOf f0.type)) = some y0 ∧ DataW.trod enc P w base spare held n f1.type ((cs.drop f1.offset).take (P.cellsOf f1.type)) = some y1 := by
  obtain ⟨xs, n, _, rfl, hl, hlen, hf⟩ := DataW.trod_struct ht h
  match xs, hlen with
  | [y0, y1], _ => exact ⟨y0, y1, n, by simpa using hf 0 f0 rfl, by simpa using hf 1 f1 rfl⟩
theorem trod_s5 {P : Program} {w : World} {base : Nat} {spare : Nat → Bool} {held : Bool} {t : TypeId} {f0 f1 f2 f3 f4 : Field} {fuel : Nat} {cs : List Value} {x : DataW H × List MemPlace} (ht : P.underlying t = some (.struct #[f0, f1, f2, f3, f4])) (h : DataW.trod enc P w base spare held fuel t cs = some x) :
    ∃ y0 y1 y2 y3 y4 n, DataW.trod enc P w base spare held n f0.type ((cs.drop f0.offset).take (P.cellsOf f0.type)) = some y0 ∧
      DataW.trod enc P w base spare held n f1.type ((cs.drop f1.offset).take (P.cellsOf f1.type)) = some y1 ∧ DataW.trod enc P w base spare held n f2.type ((cs.drop f2.offset).take (P.cellsOf f2.type)) = some y2 ∧
      DataW.trod enc P w base spare held n f3.type ((cs.drop f3.offset).take (P.cellsOf f3.type)) = some y3 ∧ DataW.trod enc P w base spare held n f4.type ((cs.drop f4.offset).take (P.cellsOf f4.type)) = some y4 := by
  obtain ⟨xs, n, _, rfl, hl, hlen, hf⟩ := DataW.trod_struct ht h
  match xs, hlen with
  | [y0, y1, y2, y3, y4], _ => exact ⟨y0, y1, y2, y3, y4, n, by simpa using hf 0 f0 rfl, by simpa using hf 1 f1 rfl, by simpa using hf 2 f2 rfl, by simpa using hf 3 f3 rfl, by simpa using hf 4 f4 rfl⟩
theorem open_facesW {v : Value} {x : DataW H × List MemPlace} (h : DataW.trod enc Tryd.prog W 0 (fun _ => true) true n 35 [v] = some x) (hwt : ∀ j ∈ x.1.weights Tryd.prog 35, j ≤ reachBytes) : ∃ l, FacesIn W v l := by
  have hby : Tryd.prog.bytesOf 34 = 64 := by kernel_rfl
  obtain ⟨l, a, c, e, hl, hc⟩ := open_rowW (α := FaceD) Tryd.underlying35 cell3 (by decide) hby (fun q f => f 0 = some (.string q.module) ∧ (∃ vv, f 1 = some vv ∧ VarsIn W vv q.vars) ∧ (∃ pv, f 2 = some pv ∧ ProcsIn W pv q.procs)) (fun cs m y hlen ht hw => by
    obtain ⟨y0, y1, y2, n', hx, _, t0, t1, t2⟩ := Deep.trod_struct3 Tryd.underlying34 ht
    rw [hx] at hw
    have cv : Tryd.prog.cellsOf 31 = 1 := by kernel_rfl
    have cp : Tryd.prog.cellsOf 32 = 1 := by kernel_rfl
    simp only [cell1s, cv, cp] at t0 t1 t2
    match cs, hlen with
    | [c0, c1, c2], _ =>
      simp only [List.drop, List.take] at t0 t1 t2
      obtain ⟨s, e0, _, _⟩ := DataW.trod_string Tryd.underlying9 t0
      obtain ⟨vs, hvs⟩ := open_vars t1 (fun k hk => hw k (by simp [DataW.weights, DataW.weightsEach, Tryd.underlying34, hk]))
      obtain ⟨ps, hps⟩ := open_procs t2 (fun k hk => hw k (by simp [DataW.weights, DataW.weightsEach, Tryd.underlying34, hk]))
      simp only [List.cons.injEq, and_true] at e0
      subst e0
      exact ⟨⟨s, vs, ps⟩, fun f hf => ⟨hf 0 (by simp), ⟨c1, hf 1 (by simp), hvs⟩, ⟨c2, hf 2 (by simp), hps⟩⟩⟩) h hwt
  have := reach_is
  exact ⟨l, a, c, e, by omega, hc⟩
theorem open_codeW {v : Value} {x : DataW H × List MemPlace} (h : DataW.trod enc Tryd.prog W 0 (fun _ => true) true n 23 [v] = some x) (hwt : ∀ j ∈ x.1.weights Tryd.prog 23, j ≤ reachBytes) : ∃ l, CodeIn W v l := by
  have cI : Tryd.prog.cellsOf 67 = 5 := by kernel_rfl
  have hby : Tryd.prog.bytesOf 67 = 40 := by kernel_rfl
  obtain ⟨l, a, c, e, hl, hc⟩ := open_rowW (α := Ins) Tryd.underlying23 cI (by decide) hby (fun q f => f 0 = some (.int .i64 q.op) ∧ f 1 = some (.int .i64 q.a) ∧ f 2 = some (.int .i64 q.b) ∧ f 3 = some (.int .i64 q.c) ∧ f 4 = some (.int .i64 q.n)) (fun cs m y hlen ht hw => by
    obtain ⟨y0, y1, y2, y3, y4, n', t0, t1, t2, t3, t4⟩ := trod_s5 Tryd.underlying67 ht
    simp only [cell1i, cellI64] at t0 t1 t2 t3 t4
    match cs, hlen with
    | [c0, c1, c2, c3, c4], _ =>
      simp only [List.drop, List.take] at t0 t1 t2 t3 t4
      obtain ⟨j0, e0, _, _⟩ := DataW.trod_int Tryd.underlying3 t0
      obtain ⟨j1, e1, _, _⟩ := DataW.trod_int Tryd.underlying3 t1
      obtain ⟨j2, e2, _, _⟩ := DataW.trod_int Tryd.underlying3 t2
      obtain ⟨j3, e3, _, _⟩ := DataW.trod_int Tryd.underlying3 t3
      obtain ⟨j4, e4, _, _⟩ := DataW.trod_int Tryd.underlying2 t4
      simp only [List.cons.injEq, and_true] at e0 e1 e2 e3 e4
      subst e0 e1 e2 e3 e4
      exact ⟨⟨j0, j1, j2, j3, j4⟩, fun f hf => ⟨hf 0 (by simp), hf 1 (by simp), hf 2 (by simp), hf 3 (by simp), hf 4 (by simp)⟩⟩) h hwt
  have := reach_is
  exact ⟨l, a, c, e, by omega, hc⟩
theorem open_relsW {v : Value} {x : DataW H × List MemPlace} (h : DataW.trod enc Tryd.prog W 0 (fun _ => true) true n 36 [v] = some x) (hwt : ∀ j ∈ x.1.weights Tryd.prog 36, j ≤ reachBytes) : ∃ l, RelsIn W v l := by
  have cI : Tryd.prog.cellsOf 54 = 4 := by kernel_rfl
  have hby : Tryd.prog.bytesOf 54 = 48 := by kernel_rfl
  obtain ⟨l, a, c, e, hl, hc⟩ := open_rowW (α := RelD) Tryd.underlying36 cI (by decide) hby (fun q f => f 0 = some (.int .i64 q.at') ∧ f 1 = some (.int .i64 q.kind) ∧ f 2 = some (.string q.module) ∧ f 3 = some (.string q.name)) (fun cs m y hlen ht hw => by
    obtain ⟨y0, y1, y2, y3, n', _, _, t0, t1, t2, t3⟩ := Joins.trod_struct4 Tryd.underlying54 ht
    simp only [cell1s, cell1i] at t0 t1 t2 t3
    match cs, hlen with
    | [c0, c1, c2, c3], _ =>
      simp only [List.drop, List.take] at t0 t1 t2 t3
      obtain ⟨j, e0, _, _⟩ := DataW.trod_int Tryd.underlying3 t0
      obtain ⟨z, e1, _, _⟩ := DataW.trod_int Tryd.underlying3 t1
      obtain ⟨s, e2, _, _⟩ := DataW.trod_string Tryd.underlying9 t2
      obtain ⟨t, e3, _, _⟩ := DataW.trod_string Tryd.underlying9 t3
      simp only [List.cons.injEq, and_true] at e0 e1 e2 e3
      subst e0 e1 e2 e3
      exact ⟨⟨j, z, s, t⟩, fun f hf => ⟨hf 0 (by simp), hf 1 (by simp), hf 2 (by simp), hf 3 (by simp)⟩⟩) h hwt
  have := reach_is
  exact ⟨l, a, c, e, by omega, hc⟩
theorem open_plcsW {v : Value} {x : DataW H × List MemPlace} (h : DataW.trod enc Tryd.prog W 0 (fun _ => true) true n 37 [v] = some x) (hwt : ∀ j ∈ x.1.weights Tryd.prog 37, j ≤ reachBytes) : ∃ l, PlcsIn W v l := by
  have cI : Tryd.prog.cellsOf 90 = 2 := by kernel_rfl
  have hby : Tryd.prog.bytesOf 90 = 24 := by kernel_rfl
  obtain ⟨l, a, c, e, hl, hc⟩ := open_rowW (α := PlcD) Tryd.underlying37 cI (by decide) hby (fun q f => f 0 = some (.string q.name) ∧ f 1 = some (.int .i64 q.at')) (fun cs m y hlen ht hw => by
    obtain ⟨y0, y1, n', t0, t1⟩ := trod_s2 Tryd.underlying90 ht
    simp only [cell1s, cell1i] at t0 t1
    match cs, hlen with
    | [c0, c1], _ =>
      simp only [List.drop, List.take] at t0 t1
      obtain ⟨s, e0, _, _⟩ := DataW.trod_string Tryd.underlying9 t0
      obtain ⟨j, e1, _, _⟩ := DataW.trod_int Tryd.underlying3 t1
      simp only [List.cons.injEq, and_true] at e0 e1
      subst e0 e1
      exact ⟨⟨s, j⟩, fun f hf => ⟨hf 0 (by simp), hf 1 (by simp)⟩⟩) h hwt
  have := reach_is
  exact ⟨l, a, c, e, by omega, hc⟩
theorem each_mem {P : Program} : ∀ {ts : List TypeId} {ds : List (DataW H)} {i : Nat} {t : TypeId} {d : DataW H}, ts[i]? = some t → ds[i]? = some d → ∀ k ∈ d.weights P t, k ∈ DataW.weightsEach P ts ds := fun {ts ds i t d} h1 h2 k hk => DataW.weights_mem_each (j := i) h1 h2 k hk
theorem open_objsW {b0 : Nat} {v : Value} {d : DataW H} {p : List MemPlace} (hv : Value.okWide Tryd.prog W .any b0 22 v) (h : DataW.Trod enc Tryd.prog W 0 (fun _ => true) true 22 v d p) (hwt : ∀ j ∈ d.weights Tryd.prog 22, j ≤ reachBytes) : ∃ l, ObjsIn W v l := by
  have cO : Tryd.prog.cellsOf 39 = 13 := by kernel_rfl
  have hby : Tryd.prog.bytesOf 39 = 240 := by kernel_rfl
  have k1 : Tryd.prog.cellsOf 35 = 1 := by kernel_rfl
  have k2 : Tryd.prog.cellsOf 23 = 1 := by kernel_rfl
  have k3 : Tryd.prog.cellsOf 36 = 1 := by kernel_rfl
  have k4 : Tryd.prog.cellsOf 37 = 1 := by kernel_rfl
  have k5 : Tryd.prog.cellsOf 31 = 1 := by kernel_rfl
  have k6 : Tryd.prog.cellsOf 32 = 1 := by kernel_rfl
  haveI : Inhabited ObjD := ⟨⟨⟨⟨#[]⟩, [], []⟩, [], [], [], [], [], [], 0, 0, 0, 0⟩⟩
  obtain ⟨fuel, hf⟩ := h
  obtain ⟨va, vl, vc, rfl⟩ := okWide_slice Tryd.underlying22 hv
  have hf : DataW.trod enc Tryd.prog W 0 (fun _ => true) true fuel 22 [.slice va vl vc] = some (d, p) := hf
  obtain ⟨l, a, c, e, hl, hc⟩ := open_rowW (H := H) (enc := enc) (W := W) (α := ObjD) Tryd.underlying22 cO (by decide) hby (fun q f => ∃ x, ObjAt W x q ∧ f 0 = some (.string q.face.module) ∧ f 1 = some x.vv ∧ f 2 = some x.pv ∧ f 3 = some x.iv ∧ f 4 = some x.cv ∧ f 5 = some x.rv ∧ f 6 = some x.p1 ∧ f 7 = some x.p2 ∧ f 8 = some x.p3 ∧ f 9 = some (.int .i64 q.low) ∧ f 10 = some (.int .i64 q.high) ∧ f 11 = some (.int .i64 q.lowF) ∧ f 12 = some (.int .i64 q.highF)) (fun cs m y hlen ht hw => by
    obtain ⟨xs, n, _, hx, hl, hlen2, hff⟩ := DataW.trod_struct Tryd.underlying39 ht
    match xs, hlen2 with
    | [y0, y1, y2, y3, y4, y5, y6, y7, y8, y9, y10], _ =>
      rw [hx] at hw
      match cs, hlen with
      | [c0, c1, c2, c3, c4, c5, c6, c7, c8, c9, c10, c11, c12], _ =>
        have t0 : DataW.trod enc Tryd.prog W 0 (fun _ => true) true n 34 [c0, c1, c2] = some y0 := by simpa [cell3, k1, k2, k3, k4, cell1i] using hff 0 _ rfl
        have t1 : DataW.trod enc Tryd.prog W 0 (fun _ => true) true n 35 [c3] = some y1 := by simpa [cell3, k1, k2, k3, k4, cell1i] using hff 1 _ rfl
        have t2 : DataW.trod enc Tryd.prog W 0 (fun _ => true) true n 23 [c4] = some y2 := by simpa [cell3, k1, k2, k3, k4, cell1i] using hff 2 _ rfl
        have t3 : DataW.trod enc Tryd.prog W 0 (fun _ => true) true n 36 [c5] = some y3 := by simpa [cell3, k1, k2, k3, k4, cell1i] using hff 3 _ rfl
        have t4 : DataW.trod enc Tryd.prog W 0 (fun _ => true) true n 37 [c6] = some y4 := by simpa [cell3, k1, k2, k3, k4, cell1i] using hff 4 _ rfl
        have t5 : DataW.trod enc Tryd.prog W 0 (fun _ => true) true n 37 [c7] = some y5 := by simpa [cell3, k1, k2, k3, k4, cell1i] using hff 5 _ rfl
        have t6 : DataW.trod enc Tryd.prog W 0 (fun _ => true) true n 37 [c8] = some y6 := by simpa [cell3, k1, k2, k3, k4, cell1i] using hff 6 _ rfl
        have t7 : DataW.trod enc Tryd.prog W 0 (fun _ => true) true n 3 [c9] = some y7 := by simpa [cell3, k1, k2, k3, k4, cell1i] using hff 7 _ rfl
        have t8 : DataW.trod enc Tryd.prog W 0 (fun _ => true) true n 3 [c10] = some y8 := by simpa [cell3, k1, k2, k3, k4, cell1i] using hff 8 _ rfl
        have t9 : DataW.trod enc Tryd.prog W 0 (fun _ => true) true n 3 [c11] = some y9 := by simpa [cell3, k1, k2, k3, k4, cell1i] using hff 9 _ rfl
        have t10 : DataW.trod enc Tryd.prog W 0 (fun _ => true) true n 3 [c12] = some y10 := by simpa [cell3, k1, k2, k3, k4, cell1i] using hff 10 _ rfl
        simp only [DataW.weights, Tryd.underlying39, List.map_cons, List.map_nil] at hw
        have hw0 : ∀ j ∈ y0.1.weights Tryd.prog 34, j ≤ reachBytes := fun j hj => hw j (each_mem (i := 0) rfl rfl j hj)
        have hw1 : ∀ j ∈ y1.1.weights Tryd.prog 35, j ≤ reachBytes := fun j hj => hw j (each_mem (i := 1) rfl rfl j hj)
        have hw2 : ∀ j ∈ y2.1.weights Tryd.prog 23, j ≤ reachBytes := fun j hj => hw j (each_mem (i := 2) rfl rfl j hj)
        have hw3 : ∀ j ∈ y3.1.weights Tryd.prog 36, j ≤ reachBytes := fun j hj => hw j (each_mem (i := 3) rfl rfl j hj)
        have hw4 : ∀ j ∈ y4.1.weights Tryd.prog 37, j ≤ reachBytes := fun j hj => hw j (each_mem (i := 4) rfl rfl j hj)
        have hw5 : ∀ j ∈ y5.1.weights Tryd.prog 37, j ≤ reachBytes := fun j hj => hw j (each_mem (i := 5) rfl rfl j hj)
        have hw6 : ∀ j ∈ y6.1.weights Tryd.prog 37, j ≤ reachBytes := fun j hj => hw j (each_mem (i := 6) rfl rfl j hj)
        obtain ⟨z0, z1, z2, n', hz, _, s0, s1, s2⟩ := Deep.trod_struct3 Tryd.underlying34 t0
        simp only [cell1s, k5, k6, List.drop, List.take] at s0 s1 s2
        rw [hz] at hw0
        obtain ⟨s, e0, _, _⟩ := DataW.trod_string Tryd.underlying9 s0
        obtain ⟨vs, hvs⟩ := open_vars s1 (fun k hk => hw0 k (by simp [DataW.weights, DataW.weightsEach, Tryd.underlying34, hk]))
        obtain ⟨ps, hps⟩ := open_procs s2 (fun k hk => hw0 k (by simp [DataW.weights, DataW.weightsEach, Tryd.underlying34, hk]))
        obtain ⟨fs, hfs⟩ := open_facesW t1 hw1
        obtain ⟨is, his⟩ := open_codeW t2 hw2
        obtain ⟨rs, hrs⟩ := open_relsW t3 hw3
        obtain ⟨p1, hp1⟩ := open_plcsW t4 hw4
        obtain ⟨p2, hp2⟩ := open_plcsW t5 hw5
        obtain ⟨p3, hp3⟩ := open_plcsW t6 hw6
        obtain ⟨l1, e1, _, _⟩ := DataW.trod_int Tryd.underlying3 t7
        obtain ⟨l2, e2, _, _⟩ := DataW.trod_int Tryd.underlying3 t8
        obtain ⟨l3, e3, _, _⟩ := DataW.trod_int Tryd.underlying3 t9
        obtain ⟨l4, e4, _, _⟩ := DataW.trod_int Tryd.underlying3 t10
        simp only [List.cons.injEq, and_true] at e0 e1 e2 e3 e4
        subst e0 e1 e2 e3 e4
        refine ⟨⟨⟨s, vs, ps⟩, fs, is, rs, p1, p2, p3, l1, l2, l3, l4⟩, fun f hf => ⟨⟨c1, c2, c3, c4, c5, c6, c7, c8⟩, ⟨hvs, hps, hfs, his, hrs, hp1, hp2, hp3⟩, hf 0 (by simp), hf 1 (by simp), hf 2 (by simp), hf 3 (by simp), hf 4 (by simp), hf 5 (by simp), hf 6 (by simp), hf 7 (by simp), hf 8 (by simp), hf 9 (by simp), hf 10 (by simp), hf 11 (by simp), hf 12 (by simp)⟩⟩) (x := (d, p)) hf hwt
  have := reach_is
  refine ⟨l, a, c, e, by omega, fun hne => ?_⟩
  obtain ⟨g, o, e2, hcc⟩ := hc hne
  refine ⟨g, o, e2, fun i hi => ?_⟩
  obtain ⟨x, hx, q0, q1, q2, q3, q4, q5, q6, q7, q8, q9, q10, q11, q12⟩ := hcc i hi
  exact ⟨x, hx, ⟨q0, q1, q2, q3, q4, q5, q6, q7, q8, q9, q10, q11, q12⟩⟩
end
end Go.Proofs.YtmkknnofeebknaaDoor.lnk
