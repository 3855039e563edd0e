/- What the reference's Show answers of nodes of a kind, once it does of the kids: contracts. (Written by mkshow.py: edit that.) -/
import Derived.Test.YtkoomoemkffjkaaGreatDoorNP06
set_option linter.unusedVariables false
set_option linter.unusedSimpArgs false
set_option maxRecDepth 100000
namespace Go.Proofs.YtkoomoemkffjkaaGreatDoor
namespace reg
open Go.RowKit
/-- an operation waits for smaller ones alone -/
def risesB (md : Region.Mode) (ops : Array Oper) : Bool := (List.range ops.size).all fun i => ((ops[i]?).map fun o => o.after.all fun e => !Region.binds md e || decide (e.on < i)).getD true
def waitsB (md : Region.Mode) (o : Oper) (j : Nat) : Bool := o.after.any fun e => Region.binds md e && e.on == j
def openL (l : Array Bool) : List Nat := (List.range l.size).filter fun i => !l.getD i true
def cnt (l : Array Bool) : Nat := l.toList.count false
theorem cnt_set {l : Array Bool} {i : Nat} (h : l.getD i true = false) : cnt (l.setIfInBounds i true) + 1 = cnt l := by
  have hi : i < l.size := by
    rcases Nat.lt_or_ge i l.size with h' | h'
    · exact h'
    · simp [Array.getElem?_eq_none h'] at h
  have hl : l.toList[i]'(by simpa using hi) = false := by simpa [hi] using h
  unfold cnt
  rw [Array.toList_setIfInBounds, List.count_set (by simpa using hi), hl]
  have : 0 < l.toList.count false := List.count_pos_iff.2 (by rw [← hl]; exact List.getElem_mem _)
  show l.toList.count false - 1 + 0 + 1 = _
  omega
theorem cnt_zero {l : Array Bool} (h : cnt l = 0) (i : Nat) : l.getD i true = true := by
  rcases Nat.lt_or_ge i l.size with h' | h'
  · unfold cnt at h
    rw [List.count_eq_zero] at h
    cases hb : l.getD i true with
    | true => rfl
    | false =>
      refine absurd ?_ h
      have : l.toList[i]'(by simpa using h') = false := by simpa [h'] using hb
      rw [← this]
      exact List.getElem_mem _
  · simp [Array.getElem?_eq_none h']
section
variable {P : Program} {ops : Array Oper} {Q : Exit → Act → World → Prop} {md : Region.Mode} {S : World → Prop}
theorem all_listed (hr : risesB md ops = true) {l : Array Bool} (hl : l.size = ops.size) (h : Region.ready md ops l = []) : ∀ n i, i < n → l.getD i true = true
  | 0, i, hi => by omega
  | n + 1, i, hi => by
    have ih := all_listed hr hl h n
    rcases Nat.lt_or_ge i n with h1 | h1
    · exact ih i h1
    · obtain rfl : i = n := by omega
      cases hb : l.getD i true with
      | true => rfl
      | false =>
        have hi2 : i < l.size := by
          rcases Nat.lt_or_ge i l.size with h' | h'
          · exact h'
          · simp [Array.getElem?_eq_none h'] at hb
        have hi3 : i < ops.size := by omega
        have : i ∈ Region.ready md ops l := mem_ready.2 ⟨hb, ops[i], Array.getElem?_eq_getElem hi3, fun e he hbind => by
          have h2 := List.all_eq_true.1 hr i (List.mem_range.2 hi3)
          rw [Array.getElem?_eq_getElem hi3] at h2
          have h3 := Array.all_eq_true'.1 h2 e he
          rw [hbind] at h3
          have h4 : e.on < i := by simpa using h3
          have h5 := ih e.on h4
          have h6 : e.on < l.size := by omega
          simpa [h6] using h5⟩
        rw [h] at this
        cases this
/-- one operation, run whatever has come up ahead of it: those that it waits for have -/
def Step (P : Program) (ops : Array Oper) (Q : Exit → Act → World → Prop) (md : Region.Mode) (S : World → Prop) (rs : List Nat) (fr : (Nat → Value) → Act) (R : Nat → Value → World → Prop) (i : Nat) : Prop :=
  ∀ U w, S w → (∀ j ∈ rs, (∀ o, ops[i]? = some o → waitsB md o j = true) → R j (U j) w) → ∀ o, ops[i]? = some o →
    ∀ K' : Act → World → Prop, Shut (∀ v w', S w' → Below w.heap.size w w' → R i v w' → K' (fr fun j => if j = i then v else U j) w') → if Region.wanted o (yielded ops (fr U).tmps) = true then Oper.wp P o (fr U) w K' Q else K' ((fr U).put o.dst undef) w
def Steps (P : Program) (ops : Array Oper) (Q : Exit → Act → World → Prop) (md : Region.Mode) (S : World → Prop) (rs : List Nat) (fr : (Nat → Value) → Act) (R : Nat → Value → World → Prop) (is : List Nat) : Prop := ∀ i ∈ is, Step P ops Q md S rs fr R i
theorem Steps.nil {rs : List Nat} {fr : (Nat → Value) → Act} {R : Nat → Value → World → Prop} : Steps P ops Q md S rs fr R [] := fun _ h => by cases h
/-- ds: which of those that are left it waits for -/
theorem Steps.cons {rs : List Nat} {fr : (Nat → Value) → Act} {R : Nat → Value → World → Prop} {i : Nat} {is : List Nat} {o : Oper} (ds : List Nat) (ho : ops[i]? = some o) (hd : (rs.filter (waitsB md o)) = ds)
    (h : ∀ U w, S w → (∀ j ∈ ds, R j (U j) w) → ∀ K' : Act → World → Prop, Shut (∀ v w', S w' → Below w.heap.size w w' → R i v w' → K' (fr fun j => if j = i then v else U j) w') → if Region.wanted o (yielded ops (fr U).tmps) = true then Oper.wp P o (fr U) w K' Q else K' ((fr U).put o.dst undef) w)
    (hs : Steps P ops Q md S rs fr R is) : Steps P ops Q md S rs fr R (i :: is) := fun j hj => by
  rcases List.mem_cons.1 hj with rfl | hj
  · intro U w hS hR o' ho' K' hK
    rw [ho] at ho'
    cases ho'
    refine h U w hS (fun k hk => ?_) K' hK
    rw [← hd, List.mem_filter] at hk
    exact hR k hk.1 fun o' e => by rw [ho] at e; cases e; exact hk.2
  · exact hs j hj
/-- slots whose values are known are written out -/
def putK (kn : List (Nat × Value)) (V : Nat → Value) : Nat → Value := kn.foldr (fun p f j => if j = p.1 then p.2 else f j) V
theorem putK_self : ∀ (kn : List (Nat × Value)) (U : Nat → Value), (∀ p ∈ kn, U p.1 = p.2) → putK kn U = U
  | [], U, _ => rfl
  | p :: r, U, h => by
    funext j
    show (if j = p.1 then p.2 else putK r U j) = U j
    rw [putK_self r U fun q hq => h q (List.mem_cons_of_mem _ hq)]
    split
    · subst j; exact (h p List.mem_cons_self).symm
    · rfl
/-- each value that is known is one that the operation waits for -/
def KnOk (R : Nat → Value → World → Prop) (c : Nat → Bool) : List (Nat × Value) → Prop
  | [] => True
  | p :: r => (c p.1 = true ∧ ∀ v w, R p.1 v w → v = p.2) ∧ KnOk R c r
theorem KnOk.all {R : Nat → Value → World → Prop} {c : Nat → Bool} : ∀ {kn : List (Nat × Value)}, KnOk R c kn → ∀ p ∈ kn, c p.1 = true ∧ ∀ v w, R p.1 v w → v = p.2
  | [], _, _, h => by cases h
  | q :: r, h, p, hp => by
    rcases List.mem_cons.1 hp with rfl | hp
    · exact h.1
    · exact h.2.all p hp
/-- does it wait for that one, which is left? -/
def after (md : Region.Mode) (rs : List Nat) (o : Oper) (j : Nat) : Bool := rs.contains j && waitsB md o j
/-- as cons; kn: values that are known -/
theorem Steps.consK {rs : List Nat} {fr : (Nat → Value) → Act} {R : Nat → Value → World → Prop} {i : Nat} {is : List Nat} {o : Oper} (kn : List (Nat × Value)) (ho : ops[i]? = some o)
    (hk : KnOk R (after md rs o) kn)
    (h : ∀ V w, S w → (∀ j, after md rs o j = true → R j (putK kn V j) w) → ∀ K' : Act → World → Prop, Shut (∀ v w', S w' → Below w.heap.size w w' → R i v w' → K' (fr fun j => if j = i then v else putK kn V j) w') → if Region.wanted o (yielded ops (fr (putK kn V)).tmps) = true then Oper.wp P o (fr (putK kn V)) w K' Q else K' ((fr (putK kn V)).put o.dst undef) w)
    (hs : Steps P ops Q md S rs fr R is) : Steps P ops Q md S rs fr R (i :: is) :=
  Steps.cons _ ho rfl (fun U w hS hR K' hK => by
    have hR2 : ∀ j, after md rs o j = true → R j (U j) w := fun j hj => by
      unfold after at hj
      simp only [Bool.and_eq_true, List.contains_iff_mem] at hj
      exact hR j (List.mem_filter.2 hj)
    have e := putK_self kn U fun p hp => (hk.all p hp).2 _ _ (hR2 p.1 (hk.all p hp).1)
    have := h U w hS
    rw [e] at this
    exact this hR2 K' hK) hs
/-- THE LAW: what is left to come up is rs; fr lays the slots' values out; R says what each slot holds once its operation has come up, and lasts -/
theorem wpAnyH_inv (rs : List Nat) (fr : (Nat → Value) → Act) (R : Nat → Value → World → Prop) {fuel : Nat} {l0 : Array Bool} {a : Act} {w : World}
    (hrise : risesB md ops = true) (hsz : l0.size = ops.size) (hrs : openL l0 = rs) (hf : cnt l0 ≤ fuel) (hS : S w)
    (hmono : ∀ j v w w', Below w.heap.size w w' → R j v w → R j v w')
    (hsteps : Steps P ops Q md S rs fr R rs)
    (U0 : Nat → Value) (ha : a = fr U0)
    (hend : ∀ U w, S w → (∀ j ∈ rs, R j (U j) w) → Q .normal (fr U) w) : wpAnyH P md ops Q S fuel l0 a w := by
  have main : ∀ (fuel : Nat) (l : Array Bool) (U : Nat → Value) (w : World), cnt l ≤ fuel → l.size = ops.size → (∀ i, l0.getD i true = true → l.getD i true = true) → S w → (∀ j ∈ rs, l.getD j true = true → R j (U j) w) → wpAnyH P md ops Q S fuel l (fr U) w := by
    intro fuel
    induction fuel with
    | zero =>
      intro l U w hc hz hl hS hR
      have hall := cnt_zero (Nat.le_zero.1 hc)
      refine ⟨?_, hend U w hS fun j hj => hR j hj (hall j)⟩
      rw [List.eq_nil_iff_forall_not_mem]
      intro i hi
      have := (mem_ready.1 hi).1
      rw [hall i] at this
      cases this
    | succ fuel ih =>
      intro l U w hc hz hl hS hR
      refine ⟨fun h => hend U w hS fun j hj => hR j hj (all_listed hrise hz h _ j (Nat.lt_succ_self j)), fun i hi => ?_⟩
      obtain ⟨hun, o, ho, hall⟩ := mem_ready.1 hi
      have hir : i ∈ rs := by
        rw [← hrs]
        unfold openL
        rw [List.mem_filter, List.mem_range]
        refine ⟨by rw [hsz]; exact (Array.getElem?_eq_some_iff.1 ho).1, ?_⟩
        cases h0 : l0.getD i true with
        | false => rfl
        | true => rw [hl i h0] at hun; cases hun
      refine wpOp_step ho (fun K' hK => hsteps i hir U w hS (fun j hj hw => ?_) o ho K' fun v w' hS' hb hv => hK _ _ ⟨hS', ?_⟩)
      · obtain ⟨e, he, hbe⟩ := Array.any_eq_true'.1 (hw o ho)
        simp only [Bool.and_eq_true, beq_iff_eq] at hbe
        obtain ⟨hb1, rfl⟩ := hbe
        have h1 := hall e he hb1
        refine hR _ hj ?_
        have h2 : e.on < l.size := by
          rcases Nat.lt_or_ge e.on l.size with h' | h'
          · exact h'
          · simp [Array.getElem?_eq_none h'] at h1
        simpa [h2] using h1
      · have hcs := cnt_set hun
        refine ih _ _ w' (by omega) (by simpa using hz) (fun k hk => ?_) hS' fun j hj hlj => ?_
        · by_cases hik : i = k
          · subst hik
            have h2 : i < l.size := by
              rcases Nat.lt_or_ge i l.size with h' | h'
              · exact h'
              · simp [Array.getElem?_eq_none h'] at hun
            simp [h2]
          · rw [getD_set_ne true hik]; exact hl k hk
        · by_cases hji : j = i
          · subst hji
            simpa using hv
          · simp only [if_neg hji]
            rw [getD_set_ne true (fun e => hji e.symm)] at hlj
            exact hmono j _ w w' hb (hR j hj hlj)
  rw [ha]
  refine main fuel l0 U0 w hf hsz (fun _ h => h) hS fun j hj hlj => ?_
  rw [← hrs] at hj
  unfold openL at hj
  rw [List.mem_filter] at hj
  rw [hlj] at hj
  exact absurd hj.2 (by simp)
/-- the frame at hand, the slots of those that are left laid out by U -/
def layS (slots : List (Nat × Nat)) (a : Act) (U : Nat → Value) : Act := { tmps := slots.foldl (fun t p => t.setIfInBounds p.1 (U p.2)) a.tmps, defers := a.defers }
def firstU (slots : List (Nat × Nat)) (a : Act) (i : Nat) : Value := ((slots.find? fun p => p.2 == i).map fun p => a.tmps.getD p.1 undef).getD undef
def slotsB (slots : List (Nat × Nat)) : Bool := slots.all fun p => ((slots.find? fun q => q.2 == p.2).map fun q => q.1 == p.1).getD false
theorem set_self (t : Array Value) (d : Nat) : t.setIfInBounds d (t.getD d undef) = t := by
  apply Array.ext
  · simp
  · intro i h1 h2
    rw [Array.getElem_setIfInBounds]
    split
    · subst i; simp [h2]
    · rfl
theorem fold_self (U : Nat → Value) (t : Array Value) : ∀ l : List (Nat × Nat), (∀ p ∈ l, U p.2 = t.getD p.1 undef) → l.foldl (fun t p => t.setIfInBounds p.1 (U p.2)) t = t
  | [], _ => rfl
  | p :: r, h => by
    rw [List.foldl_cons, h p List.mem_cons_self, set_self]
    exact fold_self U t r fun q hq => h q (List.mem_cons_of_mem _ hq)
theorem lay_self {slots : List (Nat × Nat)} (h : slotsB slots = true) (a : Act) : a = layS slots a (firstU slots a) := by
  unfold layS
  rw [fold_self]
  intro p hp
  have h1 := List.all_eq_true.1 h p hp
  unfold firstU
  revert h1
  cases (slots.find? fun q => q.2 == p.2) with
  | none => intro h1; cases h1
  | some q => intro h1; simp at h1; simp [h1]
theorem wpAnyH_lay (rs : List Nat) (slots : List (Nat × Nat)) (R : Nat → Value → World → Prop) {fuel : Nat} {l0 : Array Bool} {a : Act} {w : World}
    (hrise : risesB md ops = true) (hsz : l0.size = ops.size) (hrs : openL l0 = rs) (hf : cnt l0 ≤ fuel) (ha : slotsB slots = true) (hS : S w)
    (hmono : ∀ j v w w', Below w.heap.size w w' → R j v w → R j v w')
    (hsteps : Steps P ops Q md S rs (layS slots a) R rs)
    (hend : ∀ U w, S w → (∀ j ∈ rs, R j (U j) w) → Q .normal (layS slots a U) w) : wpAnyH P md ops Q S fuel l0 a w :=
  wpAnyH_inv rs (layS slots a) R hrise hsz hrs hf hS hmono hsteps (firstU slots a) (lay_self ha a) hend
end
end reg
namespace pr
open Go.RowKit
open Go.Proofs.YtkoomoemkffjkaaGreatDoor.syn Go.Proofs.YtkoomoemkffjkaaGreatDoor.face Go.Proofs.YtkoomoemkffjkaaGreatDoor.chk
open Go.Proofs.YtkoomoemkffjkaaGreatDoor.ord (tkd)
open Go.Proofs.YtkoomoemkffjkaaGreatDoor.reg
set_option maxHeartbeats 8000000 in
theorem rShow5 {x : ByteArray} {m : Int} {a : Option Addr} {c : Nat} (w : World) (hl : Lies (· < w.heap.size) w (.node 5 x m []) (.agg #[.int .i64 5, .string x, .int .i64 m, .slice a 0 c])) (hx : x.size ≤ 1000) (h0 : 0 ≤ m) (h1 : m ≤ 1) :
    Calls Tryz.prog 15 #[.agg #[.int .i64 5, .string x, .int .i64 m, .slice a 0 c]] w fun e w' => e = .returned (.string (sx (barR 5 x m [] []))) ∧ Below w.heap.size w w' := by
  have c24 : Tryz.prog.cellsOf 24 = 4 := by kernel_rfl
  obtain ⟨LB, hLB⟩ : ∃ L, L = sx (labR m) := ⟨_, rfl⟩
  have LBc : ∀ W1, Calls Tryz.prog 36 #[.int .i64 m] W1 fun e w' => e = .returned (.string LB) ∧ Below W1.heap.size W1 w' := fun W1 => by
    rw [hLB]
    exact (rLabelP m h0 W1).mono fun e w' h => ⟨h.1, by rw [h.2]; exact Below.refl _ _⟩
  replace LBc := (show Hid _ from LBc)
  have zL : LB.size ≤ 5 := by rw [hLB, sx_size]; exact lab_len m
  have HR : Hid (sx (barR 5 x m [] []) = (LB ++ x)) := by
    show sx (labR m ++ x.data.toList) = _
    rw [← sx_app, sx_data, hLB]
  generalize sx (barR 5 x m [] []) = R at *
  have dp : decide (2 ≤ m % 4) = false := decide_eq_false (by omega)
  clear hLB 
  unfold Lies at hl
  obtain ⟨a', c', e', ⟨hlen, hlc⟩, hat⟩ := hl
  simp only [Value.agg.injEq, Array.mk.injEq, List.cons.injEq, Value.slice.injEq, and_true, true_and] at e'
  obtain ⟨rfl, -, rfl⟩ := e'
  go_enter Tryz.func15, Tryz.ntmps15
  go_wp2
  have hbw : Below w.heap.size w (w.alloc (.cells #[.int .i64 5, .string x, .int .i64 m, .slice a 0 c] 24)).drew := ((Below.refl w.heap.size w).alloc (Nat.le_refl _) (.cells #[.int .i64 5, .string x, .int .i64 m, .slice a 0 c] 24)).drew
  obtain ⟨m0, m1, m2, m3, hW1, -⟩ := one_box ((Below.refl (w.heap.size + 1) (w.alloc (.cells #[.int .i64 5, .string x, .int .i64 m, .slice a 0 c] 24))).drew)
  refine wp_region_held_drew (S := fun W => Below (w.alloc (.cells #[.int .i64 5, .string x, .int .i64 m, .slice a 0 c] 24)).drew.heap.size (w.alloc (.cells #[.int .i64 5, .string x, .int .i64 m, .slice a 0 c] 24)).drew W) (by kernel_rfl) (Below.refl _ _) (fun hS => ?_)
  generalize (w.alloc (.cells #[.int .i64 5, .string x, .int .i64 m, .slice a 0 c] 24)).drew = W at *
  refine tkd (i := 0) (v := .pointer (some ⟨w.heap.size, 2, none⟩)) rfl rfl (by kernel_rfl) (by kernel_rfl) (by kernel_rfl) (fun _ _ _ h => h) (Or.inl ⟨by rfl, fun wq hSw => by skip; go_simp⟩) hS ?_
  simp only [List.setIfInBounds_toArray, List.set_cons_zero, List.set_cons_succ]
  refine tkd (i := 1) (v := .int .i64 m) rfl rfl (by kernel_rfl) (by kernel_rfl) (by kernel_rfl) (fun _ _ _ h => h) (Or.inl ⟨by rfl, fun wq hSw => by have q := pkeep m2 hSw; go_simp⟩) hS ?_
  simp only [List.setIfInBounds_toArray, List.set_cons_zero, List.set_cons_succ]
  refine tkd (i := 3) (v := .pointer (some ⟨w.heap.size, 1, none⟩)) rfl rfl (by kernel_rfl) (by kernel_rfl) (by kernel_rfl) (fun _ _ _ h => h) (Or.inl ⟨by rfl, fun wq hSw => by skip; go_simp⟩) hS ?_
  simp only [List.setIfInBounds_toArray, List.set_cons_zero, List.set_cons_succ]
  refine tkd (i := 4) (v := .string x) rfl rfl (by kernel_rfl) (by kernel_rfl) (by kernel_rfl) (fun _ _ _ h => h) (Or.inl ⟨by rfl, fun wq hSw => by have q := pkeep m1 hSw; go_simp⟩) hS ?_
  simp only [List.setIfInBounds_toArray, List.set_cons_zero, List.set_cons_succ]
  refine wpAnyH_lay [2, 5, 6] [(118, 2), (121, 5), (2, 6)] (fun i v W2 => match i with | 2 => v = .string LB | 5 => v = .string (LB ++ x) | _ => v = .string (LB ++ x)) (by kernel_rfl) (by rfl) (by kernel_rfl) (by decide) (by kernel_rfl) hS ?_ ?_ ?_
  · intro j v W1 W2 hb h
    split at h
    all_goals first | exact h | exact h.below hb
  · skip
    refine Steps.consK [] rfl trivial (fun U W1 hS1 hR K hK => ?_) ?_
    · skip
      have hcc := LBc.out W1
      simp only [layS, putK, List.foldr, List.foldl, List.setIfInBounds_toArray, List.set_cons_zero, List.set_cons_succ, reduceIte, Nat.reduceEqDiff]
      go_simp
      go_at_call 36
      refine hcc.mono ?_
      rintro e W2 ⟨rfl, hb⟩
      go_wp2
      have hk := hK.out (.string LB) W2 (hS1.trans (hb.mono hS1.size)) hb rfl
      simp only [layS, putK, List.foldr, List.foldl, List.setIfInBounds_toArray, List.set_cons_zero, List.set_cons_succ, reduceIte, Nat.reduceEqDiff] at hk
      exact hk
    refine Steps.consK [(2, .string LB)] rfl ⟨⟨by kernel_rfl, fun _ _ h => h⟩, trivial⟩ (fun U W1 hS1 hR K hK => ?_) ?_
    · skip
      simp only [layS, putK, List.foldr, List.foldl, List.setIfInBounds_toArray, List.set_cons_zero, List.set_cons_succ, reduceIte, Nat.reduceEqDiff]
      go_simp
      rw [if_neg (by first | omega | (simp only [ByteArray.size_append]; omega))]
      go_simp
      have hk := hK.out (.string (LB ++ x)) W1 hS1 (Below.refl _ _) rfl
      simp only [layS, putK, List.foldr, List.foldl, List.setIfInBounds_toArray, List.set_cons_zero, List.set_cons_succ, reduceIte, Nat.reduceEqDiff] at hk
      exact hk
    refine Steps.consK [(5, .string (LB ++ x))] rfl ⟨⟨by kernel_rfl, fun _ _ h => h⟩, trivial⟩ (fun U W1 hS1 hR K hK => ?_) Steps.nil
    · skip
      simp only [layS, putK, List.foldr, List.foldl, List.setIfInBounds_toArray, List.set_cons_zero, List.set_cons_succ, reduceIte, Nat.reduceEqDiff]
      go_simp
      have hk := hK.out (.string (LB ++ x)) W1 hS1 (Below.refl _ _) rfl
      simp only [layS, putK, List.foldr, List.foldl, List.setIfInBounds_toArray, List.set_cons_zero, List.set_cons_succ, reduceIte, Nat.reduceEqDiff] at hk
      exact hk
  · intro U W1 hS1 hR
    have hdd : U 6 = .string (LB ++ x) := hR 6 (by simp)
    simp only [layS, putK, List.foldr, List.foldl, List.setIfInBounds_toArray, List.set_cons_zero, List.set_cons_succ, reduceIte, Nat.reduceEqDiff]
    rw [hdd]
    clear hdd hR
    go_wp2
    go_ret
    exact ⟨by rw [HR.out]; rfl, hbw.trans (hS1.mono hbw.size)⟩
set_option maxHeartbeats 8000000 in
theorem rShow7 {x : ByteArray} {m : Int} {t0 : Tree} {a : Option Addr} {c : Nat} (w : World) (hl : Lies (· < w.heap.size) w (.node 7 x m [t0]) (.agg #[.int .i64 7, .string x, .int .i64 m, .slice a 1 c])) (hk0 : ShowOk t0) (z0' : (showT t0).length ≤ 50000) (hx : x.size ≤ 1000) (h0 : 0 ≤ m) (h1 : m ≤ 1) :
    Calls Tryz.prog 15 #[.agg #[.int .i64 7, .string x, .int .i64 m, .slice a 1 c]] w fun e w' => e = .returned (.string (sx (barR 7 x m [t0] [showT t0]))) ∧ Below w.heap.size w w' := by
  have c24 : Tryz.prog.cellsOf 24 = 4 := by kernel_rfl
  obtain ⟨T0, hT0⟩ : ∃ T, T = sx (showT t0) := ⟨_, rfl⟩
  have z0 : T0.size ≤ 50000 := by rw [hT0, sx_size]; exact z0'
  replace hT0 := (show Hid _ from hT0)
  obtain ⟨LB, hLB⟩ : ∃ L, L = sx (labR m) := ⟨_, rfl⟩
  have LBc : ∀ W1, Calls Tryz.prog 36 #[.int .i64 m] W1 fun e w' => e = .returned (.string LB) ∧ Below W1.heap.size W1 w' := fun W1 => by
    rw [hLB]
    exact (rLabelP m h0 W1).mono fun e w' h => ⟨h.1, by rw [h.2]; exact Below.refl _ _⟩
  replace LBc := (show Hid _ from LBc)
  have zL : LB.size ≤ 5 := by rw [hLB, sx_size]; exact lab_len m
  have HR : Hid (sx (barR 7 x m [t0] [showT t0]) = ((((LB ++ x) ++ (⟨#[32, 61, 32]⟩ : ByteArray)) ++ T0) ++ (⟨#[32, 59]⟩ : ByteArray))) := by
    show sx (labR m ++ x.data.toList ++ [32, 61, 32] ++ showT t0 ++ [32, 59]) = _
    rw [← sx_app, ← sx_app, ← sx_app, ← sx_app, sx_data, hLB, hT0.out]
    rfl
  generalize sx (barR 7 x m [t0] [showT t0]) = R at *
  have dp : decide (2 ≤ m % 4) = false := decide_eq_false (by omega)
  clear hLB z0'
  unfold Lies at hl
  obtain ⟨a', c', e', ⟨hlen, hlc⟩, hat⟩ := hl
  simp only [Value.agg.injEq, Array.mk.injEq, List.cons.injEq, Value.slice.injEq, and_true, true_and] at e'
  obtain ⟨rfl, -, rfl⟩ := e'
  obtain ⟨g, o, rfl, hg, hat⟩ := hat (by simp)
  obtain ⟨v0, ⟨xa0, xb0, xc0, xd0, rfl, q00, q01, q02, q03⟩, l0⟩ := hat.get 0 (by simp)
  obtain ⟨xx0, mm0, aa0, nn0, cc0, rfl, rfl, rfl, rfl⟩ := lies_kind2 l0
  simp only [List.getElem_cons_zero, List.getElem_cons_succ, Nat.zero_mul, Nat.one_mul, Nat.reduceMul, Nat.add_zero, Nat.add_assoc, Nat.reduceAdd] at l0 q00 q01 q02 q03
  generalize hkd0 : kindT t0 = kd0 at *
  go_enter Tryz.func15, Tryz.ntmps15
  go_wp2
  have hbw : Below w.heap.size w (w.alloc (.cells #[.int .i64 7, .string x, .int .i64 m, .slice (some ⟨g, o, none⟩) 1 c] 24)).drew := ((Below.refl w.heap.size w).alloc (Nat.le_refl _) (.cells #[.int .i64 7, .string x, .int .i64 m, .slice (some ⟨g, o, none⟩) 1 c] 24)).drew
  have K0 : ∀ W1, Below ((w.alloc (.cells #[.int .i64 7, .string x, .int .i64 m, .slice (some ⟨g, o, none⟩) 1 c] 24)).drew).heap.size ((w.alloc (.cells #[.int .i64 7, .string x, .int .i64 m, .slice (some ⟨g, o, none⟩) 1 c] 24)).drew) W1 → Calls Tryz.prog 15 #[.agg #[.int .i64 kd0, .string xx0, .int .i64 mm0, .slice aa0 nn0 cc0]] W1 fun e w' => e = .returned (.string T0) ∧ Below W1.heap.size W1 w' := fun W1 hb => by
    rw [hT0.out]
    exact hk0 _ _ (Lies.below (Lies.below l0 hbw) hb)
  have r00 := (hbw.cell (p := ⟨g, o, none⟩) hg).trans q00
  have r01 := (hbw.cell (p := ⟨g, o + 1, none⟩) hg).trans q01
  have r02 := (hbw.cell (p := ⟨g, o + 2, none⟩) hg).trans q02
  have r03 := (hbw.cell (p := ⟨g, o + 3, none⟩) hg).trans q03
  obtain ⟨m0, m1, m2, m3, hW1, -⟩ := one_box ((Below.refl (w.heap.size + 1) (w.alloc (.cells #[.int .i64 7, .string x, .int .i64 m, .slice (some ⟨g, o, none⟩) 1 c] 24))).drew)
  replace K0 := (show Hid _ from K0)
  clear q00 q01 q02 q03 l0 hat 
  refine wp_region_held_drew (S := fun W => Below (w.alloc (.cells #[.int .i64 7, .string x, .int .i64 m, .slice (some ⟨g, o, none⟩) 1 c] 24)).drew.heap.size (w.alloc (.cells #[.int .i64 7, .string x, .int .i64 m, .slice (some ⟨g, o, none⟩) 1 c] 24)).drew W) (by kernel_rfl) (Below.refl _ _) (fun hS => ?_)
  generalize (w.alloc (.cells #[.int .i64 7, .string x, .int .i64 m, .slice (some ⟨g, o, none⟩) 1 c] 24)).drew = W at *
  refine tkd (i := 0) (v := .pointer (some ⟨w.heap.size, 2, none⟩)) rfl rfl (by kernel_rfl) (by kernel_rfl) (by kernel_rfl) (fun _ _ _ h => h) (Or.inl ⟨by rfl, fun wq hSw => by skip; go_simp⟩) hS ?_
  simp only [List.setIfInBounds_toArray, List.set_cons_zero, List.set_cons_succ]
  refine tkd (i := 1) (v := .int .i64 m) rfl rfl (by kernel_rfl) (by kernel_rfl) (by kernel_rfl) (fun _ _ _ h => h) (Or.inl ⟨by rfl, fun wq hSw => by have q := pkeep m2 hSw; go_simp⟩) hS ?_
  simp only [List.setIfInBounds_toArray, List.set_cons_zero, List.set_cons_succ]
  refine tkd (i := 3) (v := .pointer (some ⟨w.heap.size, 1, none⟩)) rfl rfl (by kernel_rfl) (by kernel_rfl) (by kernel_rfl) (fun _ _ _ h => h) (Or.inl ⟨by rfl, fun wq hSw => by skip; go_simp⟩) hS ?_
  simp only [List.setIfInBounds_toArray, List.set_cons_zero, List.set_cons_succ]
  refine tkd (i := 4) (v := .string x) rfl rfl (by kernel_rfl) (by kernel_rfl) (by kernel_rfl) (fun _ _ _ h => h) (Or.inl ⟨by rfl, fun wq hSw => by have q := pkeep m1 hSw; go_simp⟩) hS ?_
  simp only [List.setIfInBounds_toArray, List.set_cons_zero, List.set_cons_succ]
  refine tkd (i := 7) (v := .pointer (some ⟨w.heap.size, 3, none⟩)) rfl rfl (by kernel_rfl) (by kernel_rfl) (by kernel_rfl) (fun _ _ _ h => h) (Or.inl ⟨by rfl, fun wq hSw => by skip; go_simp⟩) hS ?_
  simp only [List.setIfInBounds_toArray, List.set_cons_zero, List.set_cons_succ]
  refine tkd (i := 8) (v := .slice (some ⟨g, o, none⟩) 1 c) rfl rfl (by kernel_rfl) (by kernel_rfl) (by kernel_rfl) (fun _ _ _ h => h) (Or.inl ⟨by rfl, fun wq hSw => by have q := pkeep m3 hSw; go_simp⟩) hS ?_
  simp only [List.setIfInBounds_toArray, List.set_cons_zero, List.set_cons_succ]
  refine tkd (i := 9) (v := .pointer (some ⟨g, o, none⟩)) rfl rfl (by kernel_rfl) (by kernel_rfl) (by kernel_rfl) (fun _ _ _ h => h) (Or.inl ⟨by rfl, fun wq hSw => by skip; go_simp⟩) hS ?_
  simp only [List.setIfInBounds_toArray, List.set_cons_zero, List.set_cons_succ]
  refine tkd (i := 10) (v := .agg #[.int .i64 kd0, .string xx0, .int .i64 mm0, .slice aa0 nn0 cc0] ) rfl rfl (by kernel_rfl) (by kernel_rfl) (by kernel_rfl) (fun _ _ _ h => h) (Or.inl ⟨by rfl, fun wq hSw => by have e0 := pkeep r00 hSw; have e1 := pkeep r01 hSw; have e2 := pkeep r02 hSw; have e3 := pkeep r03 hSw; go_simp⟩) hS ?_
  simp only [List.setIfInBounds_toArray, List.set_cons_zero, List.set_cons_succ]
  refine wpAnyH_lay [2, 5, 6, 11, 12, 13, 14] [(135, 2), (138, 5), (139, 6), (144, 11), (145, 12), (146, 13), (2, 14)] (fun i v W2 => match i with | 2 => v = .string LB | 5 => v = .string (LB ++ x) | 6 => v = .string ((LB ++ x) ++ (⟨#[32, 61, 32]⟩ : ByteArray)) | 11 => v = .string T0 | 12 => v = .string (((LB ++ x) ++ (⟨#[32, 61, 32]⟩ : ByteArray)) ++ T0) | 13 => v = .string ((((LB ++ x) ++ (⟨#[32, 61, 32]⟩ : ByteArray)) ++ T0) ++ (⟨#[32, 59]⟩ : ByteArray)) | _ => v = .string ((((LB ++ x) ++ (⟨#[32, 61, 32]⟩ : ByteArray)) ++ T0) ++ (⟨#[32, 59]⟩ : ByteArray))) (by kernel_rfl) (by rfl) (by kernel_rfl) (by decide) (by kernel_rfl) hS ?_ ?_ ?_
  · intro j v W1 W2 hb h
    split at h
    all_goals first | exact h | exact h.below hb
  · skip
    refine Steps.consK [] rfl trivial (fun U W1 hS1 hR K hK => ?_) ?_
    · skip
      have hcc := LBc.out W1
      simp only [layS, putK, List.foldr, List.foldl, List.setIfInBounds_toArray, List.set_cons_zero, List.set_cons_succ, reduceIte, Nat.reduceEqDiff]
      go_simp
      go_at_call 36
      refine hcc.mono ?_
      rintro e W2 ⟨rfl, hb⟩
      go_wp2
      have hk := hK.out (.string LB) W2 (hS1.trans (hb.mono hS1.size)) hb rfl
      simp only [layS, putK, List.foldr, List.foldl, List.setIfInBounds_toArray, List.set_cons_zero, List.set_cons_succ, reduceIte, Nat.reduceEqDiff] at hk
      exact hk
    refine Steps.consK [(2, .string LB)] rfl ⟨⟨by kernel_rfl, fun _ _ h => h⟩, trivial⟩ (fun U W1 hS1 hR K hK => ?_) ?_
    · skip
      simp only [layS, putK, List.foldr, List.foldl, List.setIfInBounds_toArray, List.set_cons_zero, List.set_cons_succ, reduceIte, Nat.reduceEqDiff]
      go_simp
      rw [if_neg (by first | omega | (simp only [ByteArray.size_append]; omega))]
      go_simp
      have hk := hK.out (.string (LB ++ x)) W1 hS1 (Below.refl _ _) rfl
      simp only [layS, putK, List.foldr, List.foldl, List.setIfInBounds_toArray, List.set_cons_zero, List.set_cons_succ, reduceIte, Nat.reduceEqDiff] at hk
      exact hk
    refine Steps.consK [(5, .string (LB ++ x))] rfl ⟨⟨by kernel_rfl, fun _ _ h => h⟩, trivial⟩ (fun U W1 hS1 hR K hK => ?_) ?_
    · skip
      simp only [layS, putK, List.foldr, List.foldl, List.setIfInBounds_toArray, List.set_cons_zero, List.set_cons_succ, reduceIte, Nat.reduceEqDiff]
      go_simp
      rw [if_neg (by first | omega | (simp only [ByteArray.size_append]; omega))]
      go_simp
      have hk := hK.out (.string ((LB ++ x) ++ (⟨#[32, 61, 32]⟩ : ByteArray))) W1 hS1 (Below.refl _ _) rfl
      simp only [layS, putK, List.foldr, List.foldl, List.setIfInBounds_toArray, List.set_cons_zero, List.set_cons_succ, reduceIte, Nat.reduceEqDiff] at hk
      exact hk
    refine Steps.consK [] rfl trivial (fun U W1 hS1 hR K hK => ?_) ?_
    · skip
      have hcc := K0.out W1 hS1
      simp only [layS, putK, List.foldr, List.foldl, List.setIfInBounds_toArray, List.set_cons_zero, List.set_cons_succ, reduceIte, Nat.reduceEqDiff]
      go_simp
      go_at_call 15
      refine hcc.mono ?_
      rintro e W2 ⟨rfl, hb⟩
      go_wp2
      have hk := hK.out (.string T0) W2 (hS1.trans (hb.mono hS1.size)) hb rfl
      simp only [layS, putK, List.foldr, List.foldl, List.setIfInBounds_toArray, List.set_cons_zero, List.set_cons_succ, reduceIte, Nat.reduceEqDiff] at hk
      exact hk
    refine Steps.consK [(6, .string ((LB ++ x) ++ (⟨#[32, 61, 32]⟩ : ByteArray))), (11, .string T0)] rfl ⟨⟨by kernel_rfl, fun _ _ h => h⟩, ⟨by kernel_rfl, fun _ _ h => h⟩, trivial⟩ (fun U W1 hS1 hR K hK => ?_) ?_
    · skip
      simp only [layS, putK, List.foldr, List.foldl, List.setIfInBounds_toArray, List.set_cons_zero, List.set_cons_succ, reduceIte, Nat.reduceEqDiff]
      go_simp
      rw [if_neg (by first | omega | (simp only [ByteArray.size_append]; omega))]
      go_simp
      have hk := hK.out (.string (((LB ++ x) ++ (⟨#[32, 61, 32]⟩ : ByteArray)) ++ T0)) W1 hS1 (Below.refl _ _) rfl
      simp only [layS, putK, List.foldr, List.foldl, List.setIfInBounds_toArray, List.set_cons_zero, List.set_cons_succ, reduceIte, Nat.reduceEqDiff] at hk
      exact hk
    refine Steps.consK [(12, .string (((LB ++ x) ++ (⟨#[32, 61, 32]⟩ : ByteArray)) ++ T0))] rfl ⟨⟨by kernel_rfl, fun _ _ h => h⟩, trivial⟩ (fun U W1 hS1 hR K hK => ?_) ?_
    · skip
      simp only [layS, putK, List.foldr, List.foldl, List.setIfInBounds_toArray, List.set_cons_zero, List.set_cons_succ, reduceIte, Nat.reduceEqDiff]
      go_simp
      rw [if_neg (by first | omega | (simp only [ByteArray.size_append]; omega))]
      go_simp
      have hk := hK.out (.string ((((LB ++ x) ++ (⟨#[32, 61, 32]⟩ : ByteArray)) ++ T0) ++ (⟨#[32, 59]⟩ : ByteArray))) W1 hS1 (Below.refl _ _) rfl
      simp only [layS, putK, List.foldr, List.foldl, List.setIfInBounds_toArray, List.set_cons_zero, List.set_cons_succ, reduceIte, Nat.reduceEqDiff] at hk
      exact hk
    refine Steps.consK [(13, .string ((((LB ++ x) ++ (⟨#[32, 61, 32]⟩ : ByteArray)) ++ T0) ++ (⟨#[32, 59]⟩ : ByteArray)))] rfl ⟨⟨by kernel_rfl, fun _ _ h => h⟩, trivial⟩ (fun U W1 hS1 hR K hK => ?_) Steps.nil
    · skip
      simp only [layS, putK, List.foldr, List.foldl, List.setIfInBounds_toArray, List.set_cons_zero, List.set_cons_succ, reduceIte, Nat.reduceEqDiff]
      go_simp
      have hk := hK.out (.string ((((LB ++ x) ++ (⟨#[32, 61, 32]⟩ : ByteArray)) ++ T0) ++ (⟨#[32, 59]⟩ : ByteArray))) W1 hS1 (Below.refl _ _) rfl
      simp only [layS, putK, List.foldr, List.foldl, List.setIfInBounds_toArray, List.set_cons_zero, List.set_cons_succ, reduceIte, Nat.reduceEqDiff] at hk
      exact hk
  · intro U W1 hS1 hR
    have hdd : U 14 = .string ((((LB ++ x) ++ (⟨#[32, 61, 32]⟩ : ByteArray)) ++ T0) ++ (⟨#[32, 59]⟩ : ByteArray)) := hR 14 (by simp)
    simp only [layS, putK, List.foldr, List.foldl, List.setIfInBounds_toArray, List.set_cons_zero, List.set_cons_succ, reduceIte, Nat.reduceEqDiff]
    rw [hdd]
    clear hdd hR
    go_wp2
    go_ret
    exact ⟨by rw [HR.out]; rfl, hbw.trans (hS1.mono hbw.size)⟩
set_option maxHeartbeats 8000000 in
theorem rShow12 {x : ByteArray} {m : Int} {t0 : Tree} {a : Option Addr} {c : Nat} (w : World) (hl : Lies (· < w.heap.size) w (.node 12 x m [t0]) (.agg #[.int .i64 12, .string x, .int .i64 m, .slice a 1 c])) (hk0 : ShowOk t0) (z0' : (showT t0).length ≤ 50000) (hx : x.size ≤ 1000) (h0 : 0 ≤ m) (h1 : m ≤ 1) :
    Calls Tryz.prog 15 #[.agg #[.int .i64 12, .string x, .int .i64 m, .slice a 1 c]] w fun e w' => e = .returned (.string (sx (barR 12 x m [t0] [showT t0]))) ∧ Below w.heap.size w w' := by
  have c24 : Tryz.prog.cellsOf 24 = 4 := by kernel_rfl
  obtain ⟨T0, hT0⟩ : ∃ T, T = sx (showT t0) := ⟨_, rfl⟩
  have z0 : T0.size ≤ 50000 := by rw [hT0, sx_size]; exact z0'
  replace hT0 := (show Hid _ from hT0)
  obtain ⟨LB, hLB⟩ : ∃ L, L = sx (labR m) := ⟨_, rfl⟩
  have LBc : ∀ W1, Calls Tryz.prog 36 #[.int .i64 m] W1 fun e w' => e = .returned (.string LB) ∧ Below W1.heap.size W1 w' := fun W1 => by
    rw [hLB]
    exact (rLabelP m h0 W1).mono fun e w' h => ⟨h.1, by rw [h.2]; exact Below.refl _ _⟩
  replace LBc := (show Hid _ from LBc)
  have zL : LB.size ≤ 5 := by rw [hLB, sx_size]; exact lab_len m
  have HR : Hid (sx (barR 12 x m [t0] [showT t0]) = ((((⟨#[111, 117, 116, 32]⟩ : ByteArray) ++ LB) ++ T0) ++ (⟨#[32, 59]⟩ : ByteArray))) := by
    show sx ([111, 117, 116, 32] ++ labR m ++ showT t0 ++ [32, 59]) = _
    rw [← sx_app, ← sx_app, ← sx_app, hLB, hT0.out]
    rfl
  generalize sx (barR 12 x m [t0] [showT t0]) = R at *
  have dp : decide (2 ≤ m % 4) = false := decide_eq_false (by omega)
  clear hLB z0'
  unfold Lies at hl
  obtain ⟨a', c', e', ⟨hlen, hlc⟩, hat⟩ := hl
  simp only [Value.agg.injEq, Array.mk.injEq, List.cons.injEq, Value.slice.injEq, and_true, true_and] at e'
  obtain ⟨rfl, -, rfl⟩ := e'
  obtain ⟨g, o, rfl, hg, hat⟩ := hat (by simp)
  obtain ⟨v0, ⟨xa0, xb0, xc0, xd0, rfl, q00, q01, q02, q03⟩, l0⟩ := hat.get 0 (by simp)
  obtain ⟨xx0, mm0, aa0, nn0, cc0, rfl, rfl, rfl, rfl⟩ := lies_kind2 l0
  simp only [List.getElem_cons_zero, List.getElem_cons_succ, Nat.zero_mul, Nat.one_mul, Nat.reduceMul, Nat.add_zero, Nat.add_assoc, Nat.reduceAdd] at l0 q00 q01 q02 q03
  generalize hkd0 : kindT t0 = kd0 at *
  go_enter Tryz.func15, Tryz.ntmps15
  go_wp2
  have hbw : Below w.heap.size w (w.alloc (.cells #[.int .i64 12, .string x, .int .i64 m, .slice (some ⟨g, o, none⟩) 1 c] 24)).drew := ((Below.refl w.heap.size w).alloc (Nat.le_refl _) (.cells #[.int .i64 12, .string x, .int .i64 m, .slice (some ⟨g, o, none⟩) 1 c] 24)).drew
  have K0 : ∀ W1, Below ((w.alloc (.cells #[.int .i64 12, .string x, .int .i64 m, .slice (some ⟨g, o, none⟩) 1 c] 24)).drew).heap.size ((w.alloc (.cells #[.int .i64 12, .string x, .int .i64 m, .slice (some ⟨g, o, none⟩) 1 c] 24)).drew) W1 → Calls Tryz.prog 15 #[.agg #[.int .i64 kd0, .string xx0, .int .i64 mm0, .slice aa0 nn0 cc0]] W1 fun e w' => e = .returned (.string T0) ∧ Below W1.heap.size W1 w' := fun W1 hb => by
    rw [hT0.out]
    exact hk0 _ _ (Lies.below (Lies.below l0 hbw) hb)
  have r00 := (hbw.cell (p := ⟨g, o, none⟩) hg).trans q00
  have r01 := (hbw.cell (p := ⟨g, o + 1, none⟩) hg).trans q01
  have r02 := (hbw.cell (p := ⟨g, o + 2, none⟩) hg).trans q02
  have r03 := (hbw.cell (p := ⟨g, o + 3, none⟩) hg).trans q03
  obtain ⟨m0, m1, m2, m3, hW1, -⟩ := one_box ((Below.refl (w.heap.size + 1) (w.alloc (.cells #[.int .i64 12, .string x, .int .i64 m, .slice (some ⟨g, o, none⟩) 1 c] 24))).drew)
  replace K0 := (show Hid _ from K0)
  clear q00 q01 q02 q03 l0 hat 
  refine wp_region_held_drew (S := fun W => Below (w.alloc (.cells #[.int .i64 12, .string x, .int .i64 m, .slice (some ⟨g, o, none⟩) 1 c] 24)).drew.heap.size (w.alloc (.cells #[.int .i64 12, .string x, .int .i64 m, .slice (some ⟨g, o, none⟩) 1 c] 24)).drew W) (by kernel_rfl) (Below.refl _ _) (fun hS => ?_)
  generalize (w.alloc (.cells #[.int .i64 12, .string x, .int .i64 m, .slice (some ⟨g, o, none⟩) 1 c] 24)).drew = W at *
  refine tkd (i := 0) (v := .pointer (some ⟨w.heap.size, 2, none⟩)) rfl rfl (by kernel_rfl) (by kernel_rfl) (by kernel_rfl) (fun _ _ _ h => h) (Or.inl ⟨by rfl, fun wq hSw => by skip; go_simp⟩) hS ?_
  simp only [List.setIfInBounds_toArray, List.set_cons_zero, List.set_cons_succ]
  refine tkd (i := 1) (v := .int .i64 m) rfl rfl (by kernel_rfl) (by kernel_rfl) (by kernel_rfl) (fun _ _ _ h => h) (Or.inl ⟨by rfl, fun wq hSw => by have q := pkeep m2 hSw; go_simp⟩) hS ?_
  simp only [List.setIfInBounds_toArray, List.set_cons_zero, List.set_cons_succ]
  refine tkd (i := 4) (v := .pointer (some ⟨w.heap.size, 3, none⟩)) rfl rfl (by kernel_rfl) (by kernel_rfl) (by kernel_rfl) (fun _ _ _ h => h) (Or.inl ⟨by rfl, fun wq hSw => by skip; go_simp⟩) hS ?_
  simp only [List.setIfInBounds_toArray, List.set_cons_zero, List.set_cons_succ]
  refine tkd (i := 5) (v := .slice (some ⟨g, o, none⟩) 1 c) rfl rfl (by kernel_rfl) (by kernel_rfl) (by kernel_rfl) (fun _ _ _ h => h) (Or.inl ⟨by rfl, fun wq hSw => by have q := pkeep m3 hSw; go_simp⟩) hS ?_
  simp only [List.setIfInBounds_toArray, List.set_cons_zero, List.set_cons_succ]
  refine tkd (i := 6) (v := .pointer (some ⟨g, o, none⟩)) rfl rfl (by kernel_rfl) (by kernel_rfl) (by kernel_rfl) (fun _ _ _ h => h) (Or.inl ⟨by rfl, fun wq hSw => by skip; go_simp⟩) hS ?_
  simp only [List.setIfInBounds_toArray, List.set_cons_zero, List.set_cons_succ]
  refine tkd (i := 7) (v := .agg #[.int .i64 kd0, .string xx0, .int .i64 mm0, .slice aa0 nn0 cc0] ) rfl rfl (by kernel_rfl) (by kernel_rfl) (by kernel_rfl) (fun _ _ _ h => h) (Or.inl ⟨by rfl, fun wq hSw => by have e0 := pkeep r00 hSw; have e1 := pkeep r01 hSw; have e2 := pkeep r02 hSw; have e3 := pkeep r03 hSw; go_simp⟩) hS ?_
  simp only [List.setIfInBounds_toArray, List.set_cons_zero, List.set_cons_succ]
  refine wpAnyH_lay [2, 3, 8, 9, 10, 11] [(216, 2), (217, 3), (222, 8), (223, 9), (224, 10), (2, 11)] (fun i v W2 => match i with | 2 => v = .string LB | 3 => v = .string ((⟨#[111, 117, 116, 32]⟩ : ByteArray) ++ LB) | 8 => v = .string T0 | 9 => v = .string (((⟨#[111, 117, 116, 32]⟩ : ByteArray) ++ LB) ++ T0) | 10 => v = .string ((((⟨#[111, 117, 116, 32]⟩ : ByteArray) ++ LB) ++ T0) ++ (⟨#[32, 59]⟩ : ByteArray)) | _ => v = .string ((((⟨#[111, 117, 116, 32]⟩ : ByteArray) ++ LB) ++ T0) ++ (⟨#[32, 59]⟩ : ByteArray))) (by kernel_rfl) (by rfl) (by kernel_rfl) (by decide) (by kernel_rfl) hS ?_ ?_ ?_
  · intro j v W1 W2 hb h
    split at h
    all_goals first | exact h | exact h.below hb
  · skip
    refine Steps.consK [] rfl trivial (fun U W1 hS1 hR K hK => ?_) ?_
    · skip
      have hcc := LBc.out W1
      simp only [layS, putK, List.foldr, List.foldl, List.setIfInBounds_toArray, List.set_cons_zero, List.set_cons_succ, reduceIte, Nat.reduceEqDiff]
      go_simp
      go_at_call 36
      refine hcc.mono ?_
      rintro e W2 ⟨rfl, hb⟩
      go_wp2
      have hk := hK.out (.string LB) W2 (hS1.trans (hb.mono hS1.size)) hb rfl
      simp only [layS, putK, List.foldr, List.foldl, List.setIfInBounds_toArray, List.set_cons_zero, List.set_cons_succ, reduceIte, Nat.reduceEqDiff] at hk
      exact hk
    refine Steps.consK [(2, .string LB)] rfl ⟨⟨by kernel_rfl, fun _ _ h => h⟩, trivial⟩ (fun U W1 hS1 hR K hK => ?_) ?_
    · skip
      simp only [layS, putK, List.foldr, List.foldl, List.setIfInBounds_toArray, List.set_cons_zero, List.set_cons_succ, reduceIte, Nat.reduceEqDiff]
      go_simp
      rw [if_neg (by first | omega | (simp only [ByteArray.size_append]; omega))]
      go_simp
      have hk := hK.out (.string ((⟨#[111, 117, 116, 32]⟩ : ByteArray) ++ LB)) W1 hS1 (Below.refl _ _) rfl
      simp only [layS, putK, List.foldr, List.foldl, List.setIfInBounds_toArray, List.set_cons_zero, List.set_cons_succ, reduceIte, Nat.reduceEqDiff] at hk
      exact hk
    refine Steps.consK [] rfl trivial (fun U W1 hS1 hR K hK => ?_) ?_
    · skip
      have hcc := K0.out W1 hS1
      simp only [layS, putK, List.foldr, List.foldl, List.setIfInBounds_toArray, List.set_cons_zero, List.set_cons_succ, reduceIte, Nat.reduceEqDiff]
      go_simp
      go_at_call 15
      refine hcc.mono ?_
      rintro e W2 ⟨rfl, hb⟩
      go_wp2
      have hk := hK.out (.string T0) W2 (hS1.trans (hb.mono hS1.size)) hb rfl
      simp only [layS, putK, List.foldr, List.foldl, List.setIfInBounds_toArray, List.set_cons_zero, List.set_cons_succ, reduceIte, Nat.reduceEqDiff] at hk
      exact hk
    refine Steps.consK [(3, .string ((⟨#[111, 117, 116, 32]⟩ : ByteArray) ++ LB)), (8, .string T0)] rfl ⟨⟨by kernel_rfl, fun _ _ h => h⟩, ⟨by kernel_rfl, fun _ _ h => h⟩, trivial⟩ (fun U W1 hS1 hR K hK => ?_) ?_
    · skip
      simp only [layS, putK, List.foldr, List.foldl, List.setIfInBounds_toArray, List.set_cons_zero, List.set_cons_succ, reduceIte, Nat.reduceEqDiff]
      go_simp
      rw [if_neg (by first | omega | (simp only [ByteArray.size_append]; omega))]
      go_simp
      have hk := hK.out (.string (((⟨#[111, 117, 116, 32]⟩ : ByteArray) ++ LB) ++ T0)) W1 hS1 (Below.refl _ _) rfl
      simp only [layS, putK, List.foldr, List.foldl, List.setIfInBounds_toArray, List.set_cons_zero, List.set_cons_succ, reduceIte, Nat.reduceEqDiff] at hk
      exact hk
    refine Steps.consK [(9, .string (((⟨#[111, 117, 116, 32]⟩ : ByteArray) ++ LB) ++ T0))] rfl ⟨⟨by kernel_rfl, fun _ _ h => h⟩, trivial⟩ (fun U W1 hS1 hR K hK => ?_) ?_
    · skip
      simp only [layS, putK, List.foldr, List.foldl, List.setIfInBounds_toArray, List.set_cons_zero, List.set_cons_succ, reduceIte, Nat.reduceEqDiff]
      go_simp
      rw [if_neg (by first | omega | (simp only [ByteArray.size_append]; omega))]
      go_simp
      have hk := hK.out (.string ((((⟨#[111, 117, 116, 32]⟩ : ByteArray) ++ LB) ++ T0) ++ (⟨#[32, 59]⟩ : ByteArray))) W1 hS1 (Below.refl _ _) rfl
      simp only [layS, putK, List.foldr, List.foldl, List.setIfInBounds_toArray, List.set_cons_zero, List.set_cons_succ, reduceIte, Nat.reduceEqDiff] at hk
      exact hk
    refine Steps.consK [(10, .string ((((⟨#[111, 117, 116, 32]⟩ : ByteArray) ++ LB) ++ T0) ++ (⟨#[32, 59]⟩ : ByteArray)))] rfl ⟨⟨by kernel_rfl, fun _ _ h => h⟩, trivial⟩ (fun U W1 hS1 hR K hK => ?_) Steps.nil
    · skip
      simp only [layS, putK, List.foldr, List.foldl, List.setIfInBounds_toArray, List.set_cons_zero, List.set_cons_succ, reduceIte, Nat.reduceEqDiff]
      go_simp
      have hk := hK.out (.string ((((⟨#[111, 117, 116, 32]⟩ : ByteArray) ++ LB) ++ T0) ++ (⟨#[32, 59]⟩ : ByteArray))) W1 hS1 (Below.refl _ _) rfl
      simp only [layS, putK, List.foldr, List.foldl, List.setIfInBounds_toArray, List.set_cons_zero, List.set_cons_succ, reduceIte, Nat.reduceEqDiff] at hk
      exact hk
  · intro U W1 hS1 hR
    have hdd : U 11 = .string ((((⟨#[111, 117, 116, 32]⟩ : ByteArray) ++ LB) ++ T0) ++ (⟨#[32, 59]⟩ : ByteArray)) := hR 11 (by simp)
    simp only [layS, putK, List.foldr, List.foldl, List.setIfInBounds_toArray, List.set_cons_zero, List.set_cons_succ, reduceIte, Nat.reduceEqDiff]
    rw [hdd]
    clear hdd hR
    go_wp2
    go_ret
    exact ⟨by rw [HR.out]; rfl, hbw.trans (hS1.mono hbw.size)⟩
set_option maxHeartbeats 8000000 in
theorem rShow13 {x : ByteArray} {m : Int} {t0 : Tree} {a : Option Addr} {c : Nat} (w : World) (hl : Lies (· < w.heap.size) w (.node 13 x m [t0]) (.agg #[.int .i64 13, .string x, .int .i64 m, .slice a 1 c])) (hk0 : ShowOk t0) (z0' : (showT t0).length ≤ 50000) (hx : x.size ≤ 1000) (h0 : 0 ≤ m) (h1 : m ≤ 1) :
    Calls Tryz.prog 15 #[.agg #[.int .i64 13, .string x, .int .i64 m, .slice a 1 c]] w fun e w' => e = .returned (.string (sx (barR 13 x m [t0] [showT t0]))) ∧ Below w.heap.size w w' := by
  have c24 : Tryz.prog.cellsOf 24 = 4 := by kernel_rfl
  obtain ⟨T0, hT0⟩ : ∃ T, T = sx (showT t0) := ⟨_, rfl⟩
  have z0 : T0.size ≤ 50000 := by rw [hT0, sx_size]; exact z0'
  replace hT0 := (show Hid _ from hT0)
  obtain ⟨LB, hLB⟩ : ∃ L, L = sx (labR m) := ⟨_, rfl⟩
  have LBc : ∀ W1, Calls Tryz.prog 36 #[.int .i64 m] W1 fun e w' => e = .returned (.string LB) ∧ Below W1.heap.size W1 w' := fun W1 => by
    rw [hLB]
    exact (rLabelP m h0 W1).mono fun e w' h => ⟨h.1, by rw [h.2]; exact Below.refl _ _⟩
  replace LBc := (show Hid _ from LBc)
  have zL : LB.size ≤ 5 := by rw [hLB, sx_size]; exact lab_len m
  have HR : Hid (sx (barR 13 x m [t0] [showT t0]) = ((((⟨#[105, 110, 32]⟩ : ByteArray) ++ LB) ++ T0) ++ (⟨#[32, 59]⟩ : ByteArray))) := by
    show sx ([105, 110, 32] ++ labR m ++ showT t0 ++ [32, 59]) = _
    rw [← sx_app, ← sx_app, ← sx_app, hLB, hT0.out]
    rfl
  generalize sx (barR 13 x m [t0] [showT t0]) = R at *
  have dp : decide (2 ≤ m % 4) = false := decide_eq_false (by omega)
  clear hLB z0'
  unfold Lies at hl
  obtain ⟨a', c', e', ⟨hlen, hlc⟩, hat⟩ := hl
  simp only [Value.agg.injEq, Array.mk.injEq, List.cons.injEq, Value.slice.injEq, and_true, true_and] at e'
  obtain ⟨rfl, -, rfl⟩ := e'
  obtain ⟨g, o, rfl, hg, hat⟩ := hat (by simp)
  obtain ⟨v0, ⟨xa0, xb0, xc0, xd0, rfl, q00, q01, q02, q03⟩, l0⟩ := hat.get 0 (by simp)
  obtain ⟨xx0, mm0, aa0, nn0, cc0, rfl, rfl, rfl, rfl⟩ := lies_kind2 l0
  simp only [List.getElem_cons_zero, List.getElem_cons_succ, Nat.zero_mul, Nat.one_mul, Nat.reduceMul, Nat.add_zero, Nat.add_assoc, Nat.reduceAdd] at l0 q00 q01 q02 q03
  generalize hkd0 : kindT t0 = kd0 at *
  go_enter Tryz.func15, Tryz.ntmps15
  go_wp2
  have hbw : Below w.heap.size w (w.alloc (.cells #[.int .i64 13, .string x, .int .i64 m, .slice (some ⟨g, o, none⟩) 1 c] 24)).drew := ((Below.refl w.heap.size w).alloc (Nat.le_refl _) (.cells #[.int .i64 13, .string x, .int .i64 m, .slice (some ⟨g, o, none⟩) 1 c] 24)).drew
  have K0 : ∀ W1, Below ((w.alloc (.cells #[.int .i64 13, .string x, .int .i64 m, .slice (some ⟨g, o, none⟩) 1 c] 24)).drew).heap.size ((w.alloc (.cells #[.int .i64 13, .string x, .int .i64 m, .slice (some ⟨g, o, none⟩) 1 c] 24)).drew) W1 → Calls Tryz.prog 15 #[.agg #[.int .i64 kd0, .string xx0, .int .i64 mm0, .slice aa0 nn0 cc0]] W1 fun e w' => e = .returned (.string T0) ∧ Below W1.heap.size W1 w' := fun W1 hb => by
    rw [hT0.out]
    exact hk0 _ _ (Lies.below (Lies.below l0 hbw) hb)
  have r00 := (hbw.cell (p := ⟨g, o, none⟩) hg).trans q00
  have r01 := (hbw.cell (p := ⟨g, o + 1, none⟩) hg).trans q01
  have r02 := (hbw.cell (p := ⟨g, o + 2, none⟩) hg).trans q02
  have r03 := (hbw.cell (p := ⟨g, o + 3, none⟩) hg).trans q03
  obtain ⟨m0, m1, m2, m3, hW1, -⟩ := one_box ((Below.refl (w.heap.size + 1) (w.alloc (.cells #[.int .i64 13, .string x, .int .i64 m, .slice (some ⟨g, o, none⟩) 1 c] 24))).drew)
  replace K0 := (show Hid _ from K0)
  clear q00 q01 q02 q03 l0 hat 
  refine wp_region_held_drew (S := fun W => Below (w.alloc (.cells #[.int .i64 13, .string x, .int .i64 m, .slice (some ⟨g, o, none⟩) 1 c] 24)).drew.heap.size (w.alloc (.cells #[.int .i64 13, .string x, .int .i64 m, .slice (some ⟨g, o, none⟩) 1 c] 24)).drew W) (by kernel_rfl) (Below.refl _ _) (fun hS => ?_)
  generalize (w.alloc (.cells #[.int .i64 13, .string x, .int .i64 m, .slice (some ⟨g, o, none⟩) 1 c] 24)).drew = W at *
  refine tkd (i := 0) (v := .pointer (some ⟨w.heap.size, 2, none⟩)) rfl rfl (by kernel_rfl) (by kernel_rfl) (by kernel_rfl) (fun _ _ _ h => h) (Or.inl ⟨by rfl, fun wq hSw => by skip; go_simp⟩) hS ?_
  simp only [List.setIfInBounds_toArray, List.set_cons_zero, List.set_cons_succ]
  refine tkd (i := 1) (v := .int .i64 m) rfl rfl (by kernel_rfl) (by kernel_rfl) (by kernel_rfl) (fun _ _ _ h => h) (Or.inl ⟨by rfl, fun wq hSw => by have q := pkeep m2 hSw; go_simp⟩) hS ?_
  simp only [List.setIfInBounds_toArray, List.set_cons_zero, List.set_cons_succ]
  refine tkd (i := 4) (v := .pointer (some ⟨w.heap.size, 3, none⟩)) rfl rfl (by kernel_rfl) (by kernel_rfl) (by kernel_rfl) (fun _ _ _ h => h) (Or.inl ⟨by rfl, fun wq hSw => by skip; go_simp⟩) hS ?_
  simp only [List.setIfInBounds_toArray, List.set_cons_zero, List.set_cons_succ]
  refine tkd (i := 5) (v := .slice (some ⟨g, o, none⟩) 1 c) rfl rfl (by kernel_rfl) (by kernel_rfl) (by kernel_rfl) (fun _ _ _ h => h) (Or.inl ⟨by rfl, fun wq hSw => by have q := pkeep m3 hSw; go_simp⟩) hS ?_
  simp only [List.setIfInBounds_toArray, List.set_cons_zero, List.set_cons_succ]
  refine tkd (i := 6) (v := .pointer (some ⟨g, o, none⟩)) rfl rfl (by kernel_rfl) (by kernel_rfl) (by kernel_rfl) (fun _ _ _ h => h) (Or.inl ⟨by rfl, fun wq hSw => by skip; go_simp⟩) hS ?_
  simp only [List.setIfInBounds_toArray, List.set_cons_zero, List.set_cons_succ]
  refine tkd (i := 7) (v := .agg #[.int .i64 kd0, .string xx0, .int .i64 mm0, .slice aa0 nn0 cc0] ) rfl rfl (by kernel_rfl) (by kernel_rfl) (by kernel_rfl) (fun _ _ _ h => h) (Or.inl ⟨by rfl, fun wq hSw => by have e0 := pkeep r00 hSw; have e1 := pkeep r01 hSw; have e2 := pkeep r02 hSw; have e3 := pkeep r03 hSw; go_simp⟩) hS ?_
  simp only [List.setIfInBounds_toArray, List.set_cons_zero, List.set_cons_succ]
  refine wpAnyH_lay [2, 3, 8, 9, 10, 11] [(229, 2), (230, 3), (235, 8), (236, 9), (237, 10), (2, 11)] (fun i v W2 => match i with | 2 => v = .string LB | 3 => v = .string ((⟨#[105, 110, 32]⟩ : ByteArray) ++ LB) | 8 => v = .string T0 | 9 => v = .string (((⟨#[105, 110, 32]⟩ : ByteArray) ++ LB) ++ T0) | 10 => v = .string ((((⟨#[105, 110, 32]⟩ : ByteArray) ++ LB) ++ T0) ++ (⟨#[32, 59]⟩ : ByteArray)) | _ => v = .string ((((⟨#[105, 110, 32]⟩ : ByteArray) ++ LB) ++ T0) ++ (⟨#[32, 59]⟩ : ByteArray))) (by kernel_rfl) (by rfl) (by kernel_rfl) (by decide) (by kernel_rfl) hS ?_ ?_ ?_
  · intro j v W1 W2 hb h
    split at h
    all_goals first | exact h | exact h.below hb
  · skip
    refine Steps.consK [] rfl trivial (fun U W1 hS1 hR K hK => ?_) ?_
    · skip
      have hcc := LBc.out W1
      simp only [layS, putK, List.foldr, List.foldl, List.setIfInBounds_toArray, List.set_cons_zero, List.set_cons_succ, reduceIte, Nat.reduceEqDiff]
      go_simp
      go_at_call 36
      refine hcc.mono ?_
      rintro e W2 ⟨rfl, hb⟩
      go_wp2
      have hk := hK.out (.string LB) W2 (hS1.trans (hb.mono hS1.size)) hb rfl
      simp only [layS, putK, List.foldr, List.foldl, List.setIfInBounds_toArray, List.set_cons_zero, List.set_cons_succ, reduceIte, Nat.reduceEqDiff] at hk
      exact hk
    refine Steps.consK [(2, .string LB)] rfl ⟨⟨by kernel_rfl, fun _ _ h => h⟩, trivial⟩ (fun U W1 hS1 hR K hK => ?_) ?_
    · skip
      simp only [layS, putK, List.foldr, List.foldl, List.setIfInBounds_toArray, List.set_cons_zero, List.set_cons_succ, reduceIte, Nat.reduceEqDiff]
      go_simp
      rw [if_neg (by first | omega | (simp only [ByteArray.size_append]; omega))]
      go_simp
      have hk := hK.out (.string ((⟨#[105, 110, 32]⟩ : ByteArray) ++ LB)) W1 hS1 (Below.refl _ _) rfl
      simp only [layS, putK, List.foldr, List.foldl, List.setIfInBounds_toArray, List.set_cons_zero, List.set_cons_succ, reduceIte, Nat.reduceEqDiff] at hk
      exact hk
    refine Steps.consK [] rfl trivial (fun U W1 hS1 hR K hK => ?_) ?_
    · skip
      have hcc := K0.out W1 hS1
      simp only [layS, putK, List.foldr, List.foldl, List.setIfInBounds_toArray, List.set_cons_zero, List.set_cons_succ, reduceIte, Nat.reduceEqDiff]
      go_simp
      go_at_call 15
      refine hcc.mono ?_
      rintro e W2 ⟨rfl, hb⟩
      go_wp2
      have hk := hK.out (.string T0) W2 (hS1.trans (hb.mono hS1.size)) hb rfl
      simp only [layS, putK, List.foldr, List.foldl, List.setIfInBounds_toArray, List.set_cons_zero, List.set_cons_succ, reduceIte, Nat.reduceEqDiff] at hk
      exact hk
    refine Steps.consK [(3, .string ((⟨#[105, 110, 32]⟩ : ByteArray) ++ LB)), (8, .string T0)] rfl ⟨⟨by kernel_rfl, fun _ _ h => h⟩, ⟨by kernel_rfl, fun _ _ h => h⟩, trivial⟩ (fun U W1 hS1 hR K hK => ?_) ?_
    · skip
      simp only [layS, putK, List.foldr, List.foldl, List.setIfInBounds_toArray, List.set_cons_zero, List.set_cons_succ, reduceIte, Nat.reduceEqDiff]
      go_simp
      rw [if_neg (by first | omega | (simp only [ByteArray.size_append]; omega))]
      go_simp
      have hk := hK.out (.string (((⟨#[105, 110, 32]⟩ : ByteArray) ++ LB) ++ T0)) W1 hS1 (Below.refl _ _) rfl
      simp only [layS, putK, List.foldr, List.foldl, List.setIfInBounds_toArray, List.set_cons_zero, List.set_cons_succ, reduceIte, Nat.reduceEqDiff] at hk
      exact hk
    refine Steps.consK [(9, .string (((⟨#[105, 110, 32]⟩ : ByteArray) ++ LB) ++ T0))] rfl ⟨⟨by kernel_rfl, fun _ _ h => h⟩, trivial⟩ (fun U W1 hS1 hR K hK => ?_) ?_
    · skip
      simp only [layS, putK, List.foldr, List.foldl, List.setIfInBounds_toArray, List.set_cons_zero, List.set_cons_succ, reduceIte, Nat.reduceEqDiff]
      go_simp
      rw [if_neg (by first | omega | (simp only [ByteArray.size_append]; omega))]
      go_simp
      have hk := hK.out (.string ((((⟨#[105, 110, 32]⟩ : ByteArray) ++ LB) ++ T0) ++ (⟨#[32, 59]⟩ : ByteArray))) W1 hS1 (Below.refl _ _) rfl
      simp only [layS, putK, List.foldr, List.foldl, List.setIfInBounds_toArray, List.set_cons_zero, List.set_cons_succ, reduceIte, Nat.reduceEqDiff] at hk
      exact hk
    refine Steps.consK [(10, .string ((((⟨#[105, 110, 32]⟩ : ByteArray) ++ LB) ++ T0) ++ (⟨#[32, 59]⟩ : ByteArray)))] rfl ⟨⟨by kernel_rfl, fun _ _ h => h⟩, trivial⟩ (fun U W1 hS1 hR K hK => ?_) Steps.nil
    · skip
      simp only [layS, putK, List.foldr, List.foldl, List.setIfInBounds_toArray, List.set_cons_zero, List.set_cons_succ, reduceIte, Nat.reduceEqDiff]
      go_simp
      have hk := hK.out (.string ((((⟨#[105, 110, 32]⟩ : ByteArray) ++ LB) ++ T0) ++ (⟨#[32, 59]⟩ : ByteArray))) W1 hS1 (Below.refl _ _) rfl
      simp only [layS, putK, List.foldr, List.foldl, List.setIfInBounds_toArray, List.set_cons_zero, List.set_cons_succ, reduceIte, Nat.reduceEqDiff] at hk
      exact hk
  · intro U W1 hS1 hR
    have hdd : U 11 = .string ((((⟨#[105, 110, 32]⟩ : ByteArray) ++ LB) ++ T0) ++ (⟨#[32, 59]⟩ : ByteArray)) := hR 11 (by simp)
    simp only [layS, putK, List.foldr, List.foldl, List.setIfInBounds_toArray, List.set_cons_zero, List.set_cons_succ, reduceIte, Nat.reduceEqDiff]
    rw [hdd]
    clear hdd hR
    go_wp2
    go_ret
    exact ⟨by rw [HR.out]; rfl, hbw.trans (hS1.mono hbw.size)⟩
end pr
end Go.Proofs.YtkoomoemkffjkaaGreatDoor
