/- What the reference's faceBytes answers: a contract. -/
import Derived.Test.YthfeojjfehbgjaaGreatDoorOPObjRefB
import Derived.Test.YthfeojjfehbgjaaGreatDoorOPObjMem
import Derived.Test.YthfeojjfehbgjaaGreatDoorOPObjOne
import Derived.Test.YthfeojjfehbgjaaGreatDoorOPTakeD
import Derived.Test.YthfeojjfehbgjaaGreatDoorOPRegInv
namespace Go.Proofs.YthfeojjfehbgjaaGreatDoor.obj
open Go.RowKit
open Go.Proofs.YthfeojjfehbgjaaGreatDoor.mac (BoxC)
open Go.Proofs.YthfeojjfehbgjaaGreatDoor.ord (tkd putd)
open Go.Proofs.YthfeojjfehbgjaaGreatDoor.reg
open Go.Proofs.YthfeojjfehbgjaaGreatDoor.face (VarD ProcD FaceD keep IntsIn VarsIn ProcsIn)
set_option linter.unusedVariables false
set_option linter.unusedSimpArgs false
set_option maxRecDepth 100000
/-- a row of numbers that was just made -/
def RowI (v : Value) (w : World) (l : List Int) : Prop := ∃ g, v = .slice (some ⟨g, 0, none⟩) l.length l.length ∧ ∀ i (h : i < l.length), w.cell? ⟨g, 0 + i, none⟩ = some (.int .i64 l[i])
theorem RowI.below {v : Value} {w w' : World} {l : List Int} (h : RowI v w l) (hb : Below w.heap.size w w') : RowI v w' l := by
  obtain ⟨g, e, hc⟩ := h
  exact ⟨g, e, fun i hi => keep (hc i hi) hb⟩
theorem RowI.new (w : World) (l : List Int) : RowI (.slice (some ⟨w.heap.size, 0, none⟩) l.length l.length) (w.alloc (.cells (l.map fun x => Value.int .i64 x).toArray 3)) l := by
  refine ⟨w.heap.size, rfl, fun i hi => ?_⟩
  rw [Nat.zero_add]
  exact (BoxC.new w (l.map fun x => Value.int .i64 x).toArray 3).cell i (v := .int .i64 l[i]) (by simp [hi])
theorem rNumS {v : Value} {w : World} {l : List Int} (hl : l.length ≤ 1000000) (hi : ∀ x ∈ l, I64 x) (h : RowI v w l) : Calls Tryz.prog 24 #[v] w fun e w' => e = .returned (.string (tx (intsS l))) ∧ Below w.heap.size w w' := by
  obtain ⟨g, rfl, hc⟩ := h
  exact rNumbers l _ _ w (by omega) hi fun _ => ⟨g, 0, rfl, hc⟩
theorem tx_app (a b : By) : tx a ++ tx b = tx (a ++ b) := str_app a b
theorem tx_size (a : By) : (tx a).size = a.length := by show a.toArray.size = _; simp
theorem bools_len (b : Bool) : (boolB b).length = 8 := rfl
theorem textB_len (x : ByteArray) : (textB x).length = 8 + x.size := by
  have e : x.data.toList.length = x.size := rfl
  simp only [textB, List.length_append, numB_len]
  omega
/-- a struct's box that was made ahead, and all that was there before -/
structure MonoF (w wr : World) (xs : Array Value) (T : TypeId) : Prop where
  to : Below w.heap.size w wr
  bx : BoxC wr w.heap.size xs T
theorem MonoF.below {w wr w2 : World} {xs : Array Value} {T : TypeId} (h : MonoF w wr xs T) (hb : Below wr.heap.size wr w2) : MonoF w w2 xs T := ⟨h.to.trans (hb.mono h.to.size), h.bx.below hb⟩
theorem MonoF.new (w : World) (xs : Array Value) (T : TypeId) : MonoF w (w.alloc (.cells xs T)) xs T := ⟨(Below.refl _ _).alloc (Nat.le_refl _) _, BoxC.new w xs T⟩
theorem take_flat {α : Type} (f : α → By) (l : List α) (j : Nat) (h : j < l.length) : ((l.take (j + 1)).map f).flatten = ((l.take j).map f).flatten ++ f l[j] := by
  rw [List.take_succ_eq_append_getElem h, List.map_append, List.flatten_append]
  simp only [List.map_cons, List.map_nil, List.flatten_cons, List.flatten_nil, List.append_nil]
theorem hid {p : Prop} (h : p) : Hid p := h
set_option maxHeartbeats 8000000 in
theorem rFaceY (f : FaceD) (vv pv : Value) (w : World) (hv : VarsIn w vv f.vars) (hp : ProcsIn w pv f.procs) (hf : face.mayB f = true) :
    Calls Tryz.prog 23 #[faceV f vv pv] w fun e w' => e = .returned (.string (tx (faceB f))) ∧ Below w.heap.size w w' := by
  have c4 : Tryz.prog.cellsOf 100 = 4 := face.cell4
  have c6 : Tryz.prog.cellsOf 102 = 6 := face.cell6
  obtain ⟨va, vc, rfl, hvl, hvc⟩ := hv
  obtain ⟨pa, pc, rfl, hpl, hpc⟩ := hp
  unfold face.mayB at hf
  simp only [Bool.and_eq_true, decide_eq_true_eq] at hf
  obtain ⟨hM, hN, hVa, hPa, -⟩ := hf
  replace hM := name_le hM
  have hVL : f.vars.length ≤ 20 := by omega
  have hPL : f.procs.length ≤ 20 := by omega
  clear hN
  replace hVa : Hid (∀ x ∈ f.vars, face.mayVarB x = true) := List.all_eq_true.1 hVa
  replace hPa : Hid (∀ x ∈ f.procs, face.mayProcB x = true) := List.all_eq_true.1 hPa
  replace hvc := hid hvc
  replace hpc := hid hpc
  have hm0 := MonoF.new w #[.string f.module, .slice va f.vars.length vc, .slice pa f.procs.length pc] 25
  unfold faceV
  obtain ⟨RR, hRR⟩ : ∃ A, A = tx (faceB f) := ⟨_, rfl⟩
  rw [← hRR]
  replace hRR : Hid (RR = _) := hRR
  go_enter Tryz.func23, Tryz.ntmps23
  go_wp2
  have hm1 := hm0.below (Below.refl _ _).drew
  refine wp_region_held_drew (S := fun W => Below (w.alloc (.cells #[.string f.module, .slice va f.vars.length vc, .slice pa f.procs.length pc] 25)).drew.heap.size (w.alloc (.cells #[.string f.module, .slice va f.vars.length vc, .slice pa f.procs.length pc] 25)).drew W) (by kernel_rfl) (Below.refl _ _) (fun hS => ?_)
  generalize (w.alloc (.cells #[.string f.module, .slice va f.vars.length vc, .slice pa f.procs.length pc] 25)).drew = W at hS hm1 ⊢
  clear hm0
  have m0 := hm1.bx.cell 0 rfl
  have m1 := hm1.bx.cell 1 rfl
  obtain ⟨T2, hT2⟩ : ∃ A, A = tx (textB f.module) := ⟨_, rfl⟩
  obtain ⟨T7, hT7⟩ : ∃ A, A = tx (intsS [(f.vars.length : Int)]) := ⟨_, rfl⟩
  have z2 : T2.size ≤ 24 := by rw [hT2, tx_size, textB_len]; omega
  have z7 : T7.size ≤ 8 := by rw [hT7, tx_size, intsS_len]; simp
  have c2 := fun W => rText f.module (by omega) W
  rw [← hT2] at c2
  have c7 := fun v W h => rNumS (v := v) (w := W) (l := [(f.vars.length : Int)]) (by simp) (by simp; exact ⟨by omega, by omega⟩) h
  rw [← hT7] at c7
  have HE0 : Hid (T2 ++ T7 = tx ((textB f.module ++ numB f.vars.length) ++ ((f.vars.take 0).map varB).flatten)) := by show _ = _; rw [hT2, hT7, tx_app]; simp [intsS]
  clear hT2 hT7
  refine tkd (i := 0) (v := .pointer (some ⟨w.heap.size, 0, none⟩)) rfl rfl (by kernel_rfl) (by kernel_rfl) (by kernel_rfl) (fun _ _ _ h => h) (Or.inl ⟨by rfl, fun wq hSw => by skip; go_simp⟩) hS ?_
  simp only [List.setIfInBounds_toArray, List.set_cons_zero, List.set_cons_succ]
  refine tkd (i := 1) (v := .string f.module) rfl rfl (by kernel_rfl) (by kernel_rfl) (by kernel_rfl) (fun _ _ _ h => h) (Or.inl ⟨by rfl, fun wq hSw => by have q := keep m0 hSw; go_simp⟩) hS ?_
  simp only [List.setIfInBounds_toArray, List.set_cons_zero, List.set_cons_succ]
  refine tkd (i := 3) (v := .pointer (some ⟨w.heap.size, 1, none⟩)) rfl rfl (by kernel_rfl) (by kernel_rfl) (by kernel_rfl) (fun _ _ _ h => h) (Or.inl ⟨by rfl, fun wq hSw => by skip; go_simp⟩) hS ?_
  simp only [List.setIfInBounds_toArray, List.set_cons_zero, List.set_cons_succ]
  refine tkd (i := 4) (v := .slice va f.vars.length vc) rfl rfl (by kernel_rfl) (by kernel_rfl) (by kernel_rfl) (fun _ _ _ h => h) (Or.inl ⟨by rfl, fun wq hSw => by have q := keep m1 hSw; go_simp⟩) hS ?_
  simp only [List.setIfInBounds_toArray, List.set_cons_zero, List.set_cons_succ]
  refine tkd (i := 5) (v := .int .i64 (f.vars.length : Int)) rfl rfl (by kernel_rfl) (by kernel_rfl) (by kernel_rfl) (fun _ _ _ h => h) (Or.inl ⟨by rfl, fun wq hSw => by skip; go_simp⟩) hS ?_
  simp only [List.setIfInBounds_toArray, List.set_cons_zero, List.set_cons_succ]
  refine wpAnyH_lay [2, 6, 7, 8, 9] [(10, 2), (14, 6), (15, 7), (16, 8), (3, 9)] (fun i v W2 => match i with | 2 => v = .string T2 | 6 => RowI v W2 [(f.vars.length : Int)] | 7 => v = .string T7 | 8 => v = .string (T2 ++ T7) | _ => v = .string (T2 ++ T7)) (by kernel_rfl) (by rfl) (by kernel_rfl) (by decide) (by kernel_rfl) hS ?_ ?_ ?_
  · intro j v W1 W2 hb h
    split at h
    all_goals first | exact h | exact h.below hb
  · skip
    refine Steps.consK [] rfl trivial (fun U W1 hS1 hR K hK => ?_) ?_
    · skip
      have hcc := c2 W1
      simp only [layS, putK, List.foldr, List.foldl, List.setIfInBounds_toArray, List.set_cons_zero, List.set_cons_succ, reduceIte, Nat.reduceEqDiff]
      go_simp
      go_at_call 26
      refine hcc.mono ?_
      rintro e W2 ⟨rfl, hb⟩
      go_wp2
      have hk := hK.out (.string T2) W2 (hS1.trans (hb.mono hS1.size)) hb rfl
      simp only [layS, putK, List.foldr, List.foldl, List.setIfInBounds_toArray, List.set_cons_zero, List.set_cons_succ, reduceIte, Nat.reduceEqDiff] at hk
      exact hk
    refine Steps.consK [] rfl trivial (fun U W1 hS1 hR K hK => ?_) ?_
    · skip
      simp only [layS, putK, List.foldr, List.foldl, List.setIfInBounds_toArray, List.set_cons_zero, List.set_cons_succ, reduceIte, Nat.reduceEqDiff]
      go_simp
      have hk := hK.out _ _ (hS1.alloc hS1.size _) ((Below.refl _ _).alloc (Nat.le_refl _) _) (RowI.new W1 [(f.vars.length : Int)])
      simp only [layS, putK, List.foldr, List.foldl, List.setIfInBounds_toArray, List.set_cons_zero, List.set_cons_succ, reduceIte, Nat.reduceEqDiff] at hk
      exact hk
    refine Steps.consK [] rfl trivial (fun U W1 hS1 hR K hK => ?_) ?_
    · skip
      have hcc := c7 _ W1 (hR 6 (by kernel_rfl))
      simp only [layS, putK, List.foldr, List.foldl, List.setIfInBounds_toArray, List.set_cons_zero, List.set_cons_succ, reduceIte, Nat.reduceEqDiff]
      go_simp
      go_at_call 24
      refine hcc.mono ?_
      rintro e W2 ⟨rfl, hb⟩
      go_wp2
      have hk := hK.out (.string T7) W2 (hS1.trans (hb.mono hS1.size)) hb rfl
      simp only [layS, putK, List.foldr, List.foldl, List.setIfInBounds_toArray, List.set_cons_zero, List.set_cons_succ, reduceIte, Nat.reduceEqDiff] at hk
      exact hk
    refine Steps.consK [(2, .string T2), (7, .string T7)] rfl ⟨⟨by kernel_rfl, fun _ _ h => h⟩, ⟨by kernel_rfl, fun _ _ h => h⟩, trivial⟩ (fun U W1 hS1 hR K hK => ?_) ?_
    · skip
      simp only [layS, putK, List.foldr, List.foldl, List.setIfInBounds_toArray, List.set_cons_zero, List.set_cons_succ, reduceIte, Nat.reduceEqDiff]
      go_simp
      rw [if_neg (by first | omega | (simp only [ByteArray.size_append]; omega))]
      go_simp
      have hk := hK.out (.string (T2 ++ T7)) W1 hS1 (Below.refl _ _) rfl
      simp only [layS, putK, List.foldr, List.foldl, List.setIfInBounds_toArray, List.set_cons_zero, List.set_cons_succ, reduceIte, Nat.reduceEqDiff] at hk
      exact hk
    refine Steps.consK [(8, .string (T2 ++ T7))] rfl ⟨⟨by kernel_rfl, fun _ _ h => h⟩, trivial⟩ (fun U W1 hS1 hR K hK => ?_) Steps.nil
    · skip
      simp only [layS, putK, List.foldr, List.foldl, List.setIfInBounds_toArray, List.set_cons_zero, List.set_cons_succ, reduceIte, Nat.reduceEqDiff]
      go_simp
      have hk := hK.out (.string (T2 ++ T7)) W1 hS1 (Below.refl _ _) rfl
      simp only [layS, putK, List.foldr, List.foldl, List.setIfInBounds_toArray, List.set_cons_zero, List.set_cons_succ, reduceIte, Nat.reduceEqDiff] at hk
      exact hk
  · intro U W1 hS1 hR
    have hdd : U 9 = .string (T2 ++ T7) := hR 9 (by simp)
    simp only [layS, putK, List.foldr, List.foldl, List.setIfInBounds_toArray, List.set_cons_zero, List.set_cons_succ, reduceIte, Nat.reduceEqDiff]
    rw [hdd]
    clear hdd hR
    replace hm1 := hm1.below hS1
    clear hS1 hS m0 m1 c2 c7
    have z0 : (T2 ++ T7).size ≤ 32 := by rw [ByteArray.size_append]; omega
    clear z2 z7
    generalize T2 ++ T7 = S0 at *
    clear T2 T7
    have m1 := hm1.bx.cell 1 rfl
    go_wp2
    go_loopw [4, 3] (fun t s wr => ∃ (j : Nat) (Sj : ByteArray), j ≤ f.vars.length ∧ t = .int .i64 j ∧ s = .string Sj ∧ Hid (Sj = tx ((textB f.module ++ numB f.vars.length) ++ ((f.vars.take j).map varB).flatten)) ∧ MonoF w wr #[.string f.module, .slice va f.vars.length vc, .slice pa f.procs.length pc] 25) (fun t _ _ => f.vars.length - (intOf t).toNat)
    case atStart => exact ⟨0, S0, Nat.zero_le _, rfl, rfl, HE0, hm1⟩
    case round =>
      clear HE0 m1
      obtain ⟨j, Sj, hj, rfl, rfl, HE, hm⟩ := hrel
      have m1 := hm.bx.cell 1 rfl
      by_cases hlt : j < f.vars.length
      · obtain ⟨g, o, rfl, hcc⟩ := hvc.out (by intro e; rw [e] at hlt; simp at hlt)
        obtain ⟨k0, k1, k2, k3⟩ := hcc j hlt
        replace k0 := keep k0 hm.to
        replace k1 := keep k1 hm.to
        replace k2 := keep k2 hm.to
        replace k3 := keep k3 hm.to
        clear hcc
        have hma := hVa.out _ (List.getElem_mem hlt)
        have HE2 : Hid (tx ((textB f.module ++ numB f.vars.length) ++ ((f.vars.take (j + 1)).map varB).flatten) = tx (((textB f.module ++ numB f.vars.length) ++ ((f.vars.take j).map varB).flatten) ++ varB f.vars[j])) := by show _ = _; rw [take_flat varB _ j hlt]; simp only [List.append_assoc]
        have zj : Sj.size ≤ 2000 := by
          have h1 := flat_le (f := varB) (k := 48) (l := f.vars.take j) fun x hx => (okVar (hVa.out x (List.mem_of_mem_take hx))).le
          rw [HE.out, tx_size]
          simp only [List.length_append, textB_len, numB_len]
          rw [List.length_take] at h1
          omega
        generalize f.vars[j] = x at *
        obtain ⟨nm, pb, lb, sz⟩ := x
        dsimp only at k0 k1 k2 k3
        unfold face.mayVarB at hma
        simp only [Bool.and_eq_true, decide_eq_true_eq] at hma
        obtain ⟨h1, -, h2, h3, h4⟩ := hma
        replace h1 := name_le h1
        replace h2 : Hid (I64 lb) := lab_i h2
        obtain ⟨T3, hT3⟩ : ∃ A, A = tx (textB nm) := ⟨_, rfl⟩
        obtain ⟨T7, hT7⟩ : ∃ A, A = tx (boolB pb) := ⟨_, rfl⟩
        obtain ⟨T14, hT14⟩ : ∃ A, A = tx (intsS [lb, sz]) := ⟨_, rfl⟩
        have z3 : T3.size ≤ 24 := by rw [hT3, tx_size, textB_len]; omega
        have z7 : T7.size ≤ 8 := by rw [hT7, tx_size, bools_len]; omega
        have z14 : T14.size ≤ 16 := by rw [hT14, tx_size, intsS_len]; simp
        have d3 := fun W => rText nm (by omega) W
        rw [← hT3] at d3
        have d7 := fun W => rTruth pb W
        rw [← hT7] at d7
        have d14 := fun v W h => rNumS (v := v) (w := W) (l := [lb, sz]) (by simp) (by simp; exact ⟨h2.out, by omega, by omega⟩) h
        rw [← hT14] at d14
        have HE3 : Hid (((Sj ++ T3) ++ T7) ++ T14 = tx ((textB f.module ++ numB f.vars.length) ++ ((f.vars.take (j + 1)).map varB).flatten)) := by
          show _ = _
          rw [HE2.out, HE.out, hT3, hT7, hT14, tx_app, tx_app, tx_app]
          simp only [varB, intsS, intsB, List.append_assoc]
        clear hT3 hT7 hT14 HE HE2 h2
        go_wp2
        have hm2 := hm.below (((Below.refl _ _).alloc (Nat.le_refl _) (.cells #[.string nm, .bool pb, .int .i64 lb, .int .i64 sz] 100)).drew)
        have hx := (BoxC.new wr #[.string nm, .bool pb, .int .i64 lb, .int .i64 sz] 100).below (Below.refl _ _).drew
        refine wp_region_held_drew (S := fun W => Below (wr.alloc (.cells #[.string nm, .bool pb, .int .i64 lb, .int .i64 sz] 100)).drew.heap.size (wr.alloc (.cells #[.string nm, .bool pb, .int .i64 lb, .int .i64 sz] 100)).drew W) (by kernel_rfl) (Below.refl _ _) (fun hS => ?_)
        generalize (wr.alloc (.cells #[.string nm, .bool pb, .int .i64 lb, .int .i64 sz] 100)).drew = W at hS hm2 hx ⊢
        have n0 := hx.cell 0 rfl
        have n1 := hx.cell 1 rfl
        have n2 := hx.cell 2 rfl
        have n3 := hx.cell 3 rfl
        clear hx k0 k1 k2 k3 m1 hm
        refine tkd (i := 0) (v := .string Sj) rfl rfl (by kernel_rfl) (by kernel_rfl) (by kernel_rfl) (fun _ _ _ h => h) (Or.inl ⟨by rfl, fun wq hSw => by skip; go_simp⟩) hS ?_
        simp only [List.setIfInBounds_toArray, List.set_cons_zero, List.set_cons_succ]
        refine tkd (i := 1) (v := .pointer (some ⟨wr.heap.size, 0, none⟩)) rfl rfl (by kernel_rfl) (by kernel_rfl) (by kernel_rfl) (fun _ _ _ h => h) (Or.inl ⟨by rfl, fun wq hSw => by skip; go_simp⟩) hS ?_
        simp only [List.setIfInBounds_toArray, List.set_cons_zero, List.set_cons_succ]
        refine tkd (i := 2) (v := .string nm) rfl rfl (by kernel_rfl) (by kernel_rfl) (by kernel_rfl) (fun _ _ _ h => h) (Or.inl ⟨by rfl, fun wq hSw => by have q := keep n0 hSw; go_simp⟩) hS ?_
        simp only [List.setIfInBounds_toArray, List.set_cons_zero, List.set_cons_succ]
        refine tkd (i := 5) (v := .pointer (some ⟨wr.heap.size, 1, none⟩)) rfl rfl (by kernel_rfl) (by kernel_rfl) (by kernel_rfl) (fun _ _ _ h => h) (Or.inl ⟨by rfl, fun wq hSw => by skip; go_simp⟩) hS ?_
        simp only [List.setIfInBounds_toArray, List.set_cons_zero, List.set_cons_succ]
        refine tkd (i := 6) (v := .bool pb) rfl rfl (by kernel_rfl) (by kernel_rfl) (by kernel_rfl) (fun _ _ _ h => h) (Or.inl ⟨by rfl, fun wq hSw => by have q := keep n1 hSw; go_simp⟩) hS ?_
        simp only [List.setIfInBounds_toArray, List.set_cons_zero, List.set_cons_succ]
        refine tkd (i := 9) (v := .pointer (some ⟨wr.heap.size, 2, none⟩)) rfl rfl (by kernel_rfl) (by kernel_rfl) (by kernel_rfl) (fun _ _ _ h => h) (Or.inl ⟨by rfl, fun wq hSw => by skip; go_simp⟩) hS ?_
        simp only [List.setIfInBounds_toArray, List.set_cons_zero, List.set_cons_succ]
        refine tkd (i := 10) (v := .int .i64 lb) rfl rfl (by kernel_rfl) (by kernel_rfl) (by kernel_rfl) (fun _ _ _ h => h) (Or.inl ⟨by rfl, fun wq hSw => by have q := keep n2 hSw; go_simp⟩) hS ?_
        simp only [List.setIfInBounds_toArray, List.set_cons_zero, List.set_cons_succ]
        refine tkd (i := 11) (v := .pointer (some ⟨wr.heap.size, 3, none⟩)) rfl rfl (by kernel_rfl) (by kernel_rfl) (by kernel_rfl) (fun _ _ _ h => h) (Or.inl ⟨by rfl, fun wq hSw => by skip; go_simp⟩) hS ?_
        simp only [List.setIfInBounds_toArray, List.set_cons_zero, List.set_cons_succ]
        refine tkd (i := 12) (v := .int .i64 sz) rfl rfl (by kernel_rfl) (by kernel_rfl) (by kernel_rfl) (fun _ _ _ h => h) (Or.inl ⟨by rfl, fun wq hSw => by have q := keep n3 hSw; go_simp⟩) hS ?_
        simp only [List.setIfInBounds_toArray, List.set_cons_zero, List.set_cons_succ]
        refine wpAnyH_lay [3, 4, 7, 8, 13, 14, 15, 16] [(32, 3), (33, 4), (36, 7), (37, 8), (42, 13), (43, 14), (44, 15), (3, 16)] (fun i v W2 => match i with | 3 => v = .string T3 | 4 => v = .string (Sj ++ T3) | 7 => v = .string T7 | 8 => v = .string (Sj ++ T3 ++ T7) | 13 => RowI v W2 [lb, sz] | 14 => v = .string T14 | 15 => v = .string (Sj ++ T3 ++ T7 ++ T14) | _ => v = .string (Sj ++ T3 ++ T7 ++ T14)) (by kernel_rfl) (by rfl) (by kernel_rfl) (by decide) (by kernel_rfl) hS ?_ ?_ ?_
        · intro j v W1 W2 hb h
          split at h
          all_goals first | exact h | exact h.below hb
        · skip
          refine Steps.consK [] rfl trivial (fun U W1 hS1 hR K hK => ?_) ?_
          · skip
            have hcc := d3 W1
            simp only [layS, putK, List.foldr, List.foldl, List.setIfInBounds_toArray, List.set_cons_zero, List.set_cons_succ, reduceIte, Nat.reduceEqDiff]
            go_simp
            go_at_call 26
            refine hcc.mono ?_
            rintro e W2 ⟨rfl, hb⟩
            go_wp2
            have hk := hK.out (.string T3) W2 (hS1.trans (hb.mono hS1.size)) hb rfl
            simp only [layS, putK, List.foldr, List.foldl, List.setIfInBounds_toArray, List.set_cons_zero, List.set_cons_succ, reduceIte, Nat.reduceEqDiff] at hk
            exact hk
          refine Steps.consK [(3, .string T3)] rfl ⟨⟨by kernel_rfl, fun _ _ h => h⟩, trivial⟩ (fun U W1 hS1 hR K hK => ?_) ?_
          · skip
            simp only [layS, putK, List.foldr, List.foldl, List.setIfInBounds_toArray, List.set_cons_zero, List.set_cons_succ, reduceIte, Nat.reduceEqDiff]
            go_simp
            rw [if_neg (by first | omega | (simp only [ByteArray.size_append]; omega))]
            go_simp
            have hk := hK.out (.string (Sj ++ T3)) W1 hS1 (Below.refl _ _) rfl
            simp only [layS, putK, List.foldr, List.foldl, List.setIfInBounds_toArray, List.set_cons_zero, List.set_cons_succ, reduceIte, Nat.reduceEqDiff] at hk
            exact hk
          refine Steps.consK [] rfl trivial (fun U W1 hS1 hR K hK => ?_) ?_
          · skip
            have hcc := d7 W1
            simp only [layS, putK, List.foldr, List.foldl, List.setIfInBounds_toArray, List.set_cons_zero, List.set_cons_succ, reduceIte, Nat.reduceEqDiff]
            go_simp
            go_at_call 59
            refine hcc.mono ?_
            rintro e W2 ⟨rfl, hb⟩
            go_wp2
            have hk := hK.out (.string T7) W2 (hS1.trans (hb.mono hS1.size)) hb rfl
            simp only [layS, putK, List.foldr, List.foldl, List.setIfInBounds_toArray, List.set_cons_zero, List.set_cons_succ, reduceIte, Nat.reduceEqDiff] at hk
            exact hk
          refine Steps.consK [(4, .string (Sj ++ T3)), (7, .string T7)] rfl ⟨⟨by kernel_rfl, fun _ _ h => h⟩, ⟨by kernel_rfl, fun _ _ h => h⟩, trivial⟩ (fun U W1 hS1 hR K hK => ?_) ?_
          · skip
            simp only [layS, putK, List.foldr, List.foldl, List.setIfInBounds_toArray, List.set_cons_zero, List.set_cons_succ, reduceIte, Nat.reduceEqDiff]
            go_simp
            rw [if_neg (by first | omega | (simp only [ByteArray.size_append]; omega))]
            go_simp
            have hk := hK.out (.string (Sj ++ T3 ++ T7)) W1 hS1 (Below.refl _ _) rfl
            simp only [layS, putK, List.foldr, List.foldl, List.setIfInBounds_toArray, List.set_cons_zero, List.set_cons_succ, reduceIte, Nat.reduceEqDiff] at hk
            exact hk
          refine Steps.consK [] rfl trivial (fun U W1 hS1 hR K hK => ?_) ?_
          · skip
            simp only [layS, putK, List.foldr, List.foldl, List.setIfInBounds_toArray, List.set_cons_zero, List.set_cons_succ, reduceIte, Nat.reduceEqDiff]
            go_simp
            have hk := hK.out _ _ (hS1.alloc hS1.size _) ((Below.refl _ _).alloc (Nat.le_refl _) _) (RowI.new W1 [lb, sz])
            simp only [layS, putK, List.foldr, List.foldl, List.setIfInBounds_toArray, List.set_cons_zero, List.set_cons_succ, reduceIte, Nat.reduceEqDiff] at hk
            exact hk
          refine Steps.consK [] rfl trivial (fun U W1 hS1 hR K hK => ?_) ?_
          · skip
            have hcc := d14 _ W1 (hR 13 (by kernel_rfl))
            simp only [layS, putK, List.foldr, List.foldl, List.setIfInBounds_toArray, List.set_cons_zero, List.set_cons_succ, reduceIte, Nat.reduceEqDiff]
            go_simp
            go_at_call 24
            refine hcc.mono ?_
            rintro e W2 ⟨rfl, hb⟩
            go_wp2
            have hk := hK.out (.string T14) W2 (hS1.trans (hb.mono hS1.size)) hb rfl
            simp only [layS, putK, List.foldr, List.foldl, List.setIfInBounds_toArray, List.set_cons_zero, List.set_cons_succ, reduceIte, Nat.reduceEqDiff] at hk
            exact hk
          refine Steps.consK [(8, .string (Sj ++ T3 ++ T7)), (14, .string T14)] rfl ⟨⟨by kernel_rfl, fun _ _ h => h⟩, ⟨by kernel_rfl, fun _ _ h => h⟩, trivial⟩ (fun U W1 hS1 hR K hK => ?_) ?_
          · skip
            simp only [layS, putK, List.foldr, List.foldl, List.setIfInBounds_toArray, List.set_cons_zero, List.set_cons_succ, reduceIte, Nat.reduceEqDiff]
            go_simp
            rw [if_neg (by first | omega | (simp only [ByteArray.size_append]; omega))]
            go_simp
            have hk := hK.out (.string (Sj ++ T3 ++ T7 ++ T14)) W1 hS1 (Below.refl _ _) rfl
            simp only [layS, putK, List.foldr, List.foldl, List.setIfInBounds_toArray, List.set_cons_zero, List.set_cons_succ, reduceIte, Nat.reduceEqDiff] at hk
            exact hk
          refine Steps.consK [(15, .string (Sj ++ T3 ++ T7 ++ T14))] rfl ⟨⟨by kernel_rfl, fun _ _ h => h⟩, trivial⟩ (fun U W1 hS1 hR K hK => ?_) Steps.nil
          · skip
            simp only [layS, putK, List.foldr, List.foldl, List.setIfInBounds_toArray, List.set_cons_zero, List.set_cons_succ, reduceIte, Nat.reduceEqDiff]
            go_simp
            have hk := hK.out (.string (Sj ++ T3 ++ T7 ++ T14)) W1 hS1 (Below.refl _ _) rfl
            simp only [layS, putK, List.foldr, List.foldl, List.setIfInBounds_toArray, List.set_cons_zero, List.set_cons_succ, reduceIte, Nat.reduceEqDiff] at hk
            exact hk
        · intro U W1 hS1 hR
          have hdd : U 16 = .string (Sj ++ T3 ++ T7 ++ T14) := hR 16 (by simp)
          simp only [layS, putK, List.foldr, List.foldl, List.setIfInBounds_toArray, List.set_cons_zero, List.set_cons_succ, reduceIte, Nat.reduceEqDiff]
          rw [hdd]
          clear hdd hR
          replace hm2 := hm2.below hS1
          clear hS1 hS n0 n1 n2 n3 d3 d7 d14
          generalize Sj ++ T3 ++ T7 ++ T14 = S9 at *
          go_wp2
          go_roundw
          case rel => exact ⟨j + 1, S9, by omega, by go_num, rfl, HE3, hm2⟩
          case measure => simp [intOf]; omega
      · have hjl : j = f.vars.length := by omega
        subst hjl
        rw [List.take_length] at HE
        obtain ⟨T5, hT5⟩ : ∃ A, A = tx (numB (f.procs.length : Int)) := ⟨_, rfl⟩
        have z5 : T5.size ≤ 8 := by rw [hT5, tx_size, numB_len]; omega
        have zj : Sj.size ≤ 2000 := by
          have h1 := flat_le (f := varB) (k := 48) (l := f.vars) fun x hx => (okVar (hVa.out x hx)).le
          rw [HE.out, tx_size]
          simp only [List.length_append, textB_len, numB_len]
          omega
        have d5 := rNumbers1 (f.procs.length : Int) ⟨by omega, by omega⟩ wr
        rw [← hT5] at d5
        have HE1 : Hid (Sj ++ T5 = tx ((textB f.module ++ (listB varB f.vars ++ numB f.procs.length)) ++ ((f.procs.take 0).map procB).flatten)) := by
          show _ = _
          rw [HE.out, hT5, tx_app]
          simp only [listB, List.append_assoc, List.take_zero, List.map_nil, List.flatten_nil, List.append_nil]
        clear hT5 HE hlt
        have m2 := hm.bx.cell 2 rfl
        have hsz : Sj.size + T5.size ≤ 9223372036854775807 := by omega
        go_wp2_with (go_at_call 24; refine d5.mono ?_; rintro e W2 ⟨rfl, hb⟩)
        clear d5
        replace hm := hm.below hb
        clear hb m1 m2 hsz
        generalize Sj ++ T5 = S1 at *
        clear zj z5
        go_loopw [6, 3] (fun t s wr => ∃ (j : Nat) (Sj : ByteArray), j ≤ f.procs.length ∧ t = .int .i64 j ∧ s = .string Sj ∧ Hid (Sj = tx ((textB f.module ++ (listB varB f.vars ++ numB f.procs.length)) ++ ((f.procs.take j).map procB).flatten)) ∧ MonoF w wr #[.string f.module, .slice va f.vars.length vc, .slice pa f.procs.length pc] 25) (fun t _ _ => f.procs.length - (intOf t).toNat)
        case atStart => exact ⟨0, S1, Nat.zero_le _, rfl, rfl, HE1, hm⟩
        case round =>
          clear HE1 hm
          obtain ⟨j, Sj, hj, rfl, rfl, HE, hm⟩ := hrel
          have m2 := hm.bx.cell 2 rfl
          by_cases hlt : j < f.procs.length
          · obtain ⟨g, o, rfl, hcc⟩ := hpc.out (by intro e; rw [e] at hlt; simp at hlt)
            obtain ⟨k0, k1, ⟨u, k2, hu⟩, k3, k4, k5⟩ := hcc j hlt
            replace k0 := keep k0 hm.to
            replace k1 := keep k1 hm.to
            replace k2 := keep k2 hm.to
            replace k3 := keep k3 hm.to
            replace k4 := keep k4 hm.to
            replace k5 := keep k5 hm.to
            replace hu := hu.below hm.to
            clear hcc
            have hma := hPa.out _ (List.getElem_mem hlt)
            have HE2 : Hid (tx ((textB f.module ++ (listB varB f.vars ++ numB f.procs.length)) ++ ((f.procs.take (j + 1)).map procB).flatten) = tx (((textB f.module ++ (listB varB f.vars ++ numB f.procs.length)) ++ ((f.procs.take j).map procB).flatten) ++ procB f.procs[j])) := by show _ = _; rw [take_flat procB _ j hlt]; simp only [List.append_assoc]
            have zj : Sj.size ≤ 4000 := by
              have h0 := flat_le (f := varB) (k := 48) (l := f.vars) fun x hx => (okVar (hVa.out x hx)).le
              have h1 := flat_le (f := procB) (k := 104) (l := f.procs.take j) fun x hx => (okProc (hPa.out x (List.mem_of_mem_take hx))).le
              rw [HE.out, tx_size]
              simp only [listB, List.length_append, textB_len, numB_len]
              rw [List.length_take] at h1
              omega
            generalize f.procs[j] = x at *
            obtain ⟨nm, pb, ps, wt, gv, gn⟩ := x
            dsimp only at k0 k1 k2 k3 k4 k5 hu
            unfold face.mayProcB at hma
            simp only [Bool.and_eq_true, decide_eq_true_eq] at hma
            obtain ⟨h1, -, h2, h3, h4, h5, -⟩ := hma
            replace h1 := name_le h1
            obtain ⟨ua, uc, rfl, hul, hua⟩ := hu
            obtain ⟨T3, hT3⟩ : ∃ A, A = tx (textB nm) := ⟨_, rfl⟩
            obtain ⟨T7, hT7⟩ : ∃ A, A = tx (boolB pb) := ⟨_, rfl⟩
            obtain ⟨T13, hT13⟩ : ∃ A, A = tx (intsS [(ps.length : Int)]) := ⟨_, rfl⟩
            obtain ⟨T17, hT17⟩ : ∃ A, A = tx (intsS ps) := ⟨_, rfl⟩
            obtain ⟨T22, hT22⟩ : ∃ A, A = tx (intsS [wt]) := ⟨_, rfl⟩
            obtain ⟨T26, hT26⟩ : ∃ A, A = tx (boolB gv) := ⟨_, rfl⟩
            obtain ⟨T31, hT31⟩ : ∃ A, A = tx (intsS [gn]) := ⟨_, rfl⟩
            have z3 : T3.size ≤ 24 := by rw [hT3, tx_size, textB_len]; omega
            have z7 : T7.size ≤ 8 := by rw [hT7, tx_size, bools_len]; omega
            have z13 : T13.size ≤ 8 := by rw [hT13, tx_size, intsS_len]; simp
            have z17 : T17.size ≤ 40 := by rw [hT17, tx_size, intsS_len]; omega
            have z22 : T22.size ≤ 8 := by rw [hT22, tx_size, intsS_len]; simp
            have z26 : T26.size ≤ 8 := by rw [hT26, tx_size, bools_len]; omega
            have z31 : T31.size ≤ 8 := by rw [hT31, tx_size, intsS_len]; simp
            have d3 := fun W => rText nm (by omega) W
            rw [← hT3] at d3
            have d7 := fun W => rTruth pb W
            rw [← hT7] at d7
            have d13 := fun v W h => rNumS (v := v) (w := W) (l := [(ps.length : Int)]) (by simp) (by simp; exact ⟨by omega, by omega⟩) h
            rw [← hT13] at d13
            have d17 : ∀ W, Below wr.heap.size wr W → Calls Tryz.prog 24 #[.slice ua ps.length uc] W fun e w' => e = .returned (.string T17) ∧ Below W.heap.size W w' := fun W hb => by
              rw [hT17]
              refine rNumbers ps _ _ W (by omega) (fun x hx => lab_i (List.all_eq_true.1 h3 x hx)) fun hne => ?_
              obtain ⟨g2, o2, e2, h⟩ := hua hne
              exact ⟨g2, o2, e2, fun i hi => keep (h i hi) hb⟩
            have d22 := fun v W h => rNumS (v := v) (w := W) (l := [wt]) (by simp) (by simp; exact lab_i h4) h
            rw [← hT22] at d22
            have d26 := fun W => rTruth gv W
            rw [← hT26] at d26
            have d31 := fun v W h => rNumS (v := v) (w := W) (l := [gn]) (by simp) (by simp; exact lab_i h5) h
            rw [← hT31] at d31
            have HE3 : Hid (Sj ++ T3 ++ T7 ++ T13 ++ T17 ++ T22 ++ T26 ++ T31 = tx ((textB f.module ++ (listB varB f.vars ++ numB f.procs.length)) ++ ((f.procs.take (j + 1)).map procB).flatten)) := by
              show _ = _
              rw [HE2.out, HE.out, hT3, hT7, hT13, hT17, hT22, hT26, hT31, tx_app, tx_app, tx_app, tx_app, tx_app, tx_app, tx_app]
              simp only [procB, listB, intsS, List.map_cons, List.map_nil, List.flatten_cons, List.flatten_nil, List.append_nil, List.append_assoc]
            clear hT3 hT7 hT13 hT17 hT22 hT26 hT31 HE HE2 h2 h3 h4 h5 hua
            go_wp2
            have hm2 := hm.below (((Below.refl _ _).alloc (Nat.le_refl _) (.cells #[.string nm, .bool pb, .slice ua ps.length uc, .int .i64 wt, .bool gv, .int .i64 gn] 102)).drew)
            have hw2 := ((Below.refl wr.heap.size wr).alloc (Nat.le_refl _) (.cells #[.string nm, .bool pb, .slice ua ps.length uc, .int .i64 wt, .bool gv, .int .i64 gn] 102)).drew
            have hx := (BoxC.new wr #[.string nm, .bool pb, .slice ua ps.length uc, .int .i64 wt, .bool gv, .int .i64 gn] 102).below (Below.refl _ _).drew
            refine wp_region_held_drew (S := fun W => Below (wr.alloc (.cells #[.string nm, .bool pb, .slice ua ps.length uc, .int .i64 wt, .bool gv, .int .i64 gn] 102)).drew.heap.size (wr.alloc (.cells #[.string nm, .bool pb, .slice ua ps.length uc, .int .i64 wt, .bool gv, .int .i64 gn] 102)).drew W) (by kernel_rfl) (Below.refl _ _) (fun hS => ?_)
            generalize (wr.alloc (.cells #[.string nm, .bool pb, .slice ua ps.length uc, .int .i64 wt, .bool gv, .int .i64 gn] 102)).drew = W at hS hm2 hx hw2 ⊢
            have n0 := hx.cell 0 rfl
            have n1 := hx.cell 1 rfl
            have n2 := hx.cell 2 rfl
            have n3 := hx.cell 3 rfl
            have n4 := hx.cell 4 rfl
            have n5 := hx.cell 5 rfl
            clear hx k0 k1 k2 k3 k4 k5 m2 hm hul
            refine tkd (i := 0) (v := .string Sj) rfl rfl (by kernel_rfl) (by kernel_rfl) (by kernel_rfl) (fun _ _ _ h => h) (Or.inl ⟨by rfl, fun wq hSw => by skip; go_simp⟩) hS ?_
            simp only [List.setIfInBounds_toArray, List.set_cons_zero, List.set_cons_succ]
            refine tkd (i := 1) (v := .pointer (some ⟨wr.heap.size, 0, none⟩)) rfl rfl (by kernel_rfl) (by kernel_rfl) (by kernel_rfl) (fun _ _ _ h => h) (Or.inl ⟨by rfl, fun wq hSw => by skip; go_simp⟩) hS ?_
            simp only [List.setIfInBounds_toArray, List.set_cons_zero, List.set_cons_succ]
            refine tkd (i := 2) (v := .string nm) rfl rfl (by kernel_rfl) (by kernel_rfl) (by kernel_rfl) (fun _ _ _ h => h) (Or.inl ⟨by rfl, fun wq hSw => by have q := keep n0 hSw; go_simp⟩) hS ?_
            simp only [List.setIfInBounds_toArray, List.set_cons_zero, List.set_cons_succ]
            refine tkd (i := 5) (v := .pointer (some ⟨wr.heap.size, 1, none⟩)) rfl rfl (by kernel_rfl) (by kernel_rfl) (by kernel_rfl) (fun _ _ _ h => h) (Or.inl ⟨by rfl, fun wq hSw => by skip; go_simp⟩) hS ?_
            simp only [List.setIfInBounds_toArray, List.set_cons_zero, List.set_cons_succ]
            refine tkd (i := 6) (v := .bool pb) rfl rfl (by kernel_rfl) (by kernel_rfl) (by kernel_rfl) (fun _ _ _ h => h) (Or.inl ⟨by rfl, fun wq hSw => by have q := keep n1 hSw; go_simp⟩) hS ?_
            simp only [List.setIfInBounds_toArray, List.set_cons_zero, List.set_cons_succ]
            refine tkd (i := 9) (v := .pointer (some ⟨wr.heap.size, 2, none⟩)) rfl rfl (by kernel_rfl) (by kernel_rfl) (by kernel_rfl) (fun _ _ _ h => h) (Or.inl ⟨by rfl, fun wq hSw => by skip; go_simp⟩) hS ?_
            simp only [List.setIfInBounds_toArray, List.set_cons_zero, List.set_cons_succ]
            refine tkd (i := 10) (v := .slice ua ps.length uc) rfl rfl (by kernel_rfl) (by kernel_rfl) (by kernel_rfl) (fun _ _ _ h => h) (Or.inl ⟨by rfl, fun wq hSw => by have q := keep n2 hSw; go_simp⟩) hS ?_
            simp only [List.setIfInBounds_toArray, List.set_cons_zero, List.set_cons_succ]
            refine tkd (i := 11) (v := .int .i64 (ps.length : Int)) rfl rfl (by kernel_rfl) (by kernel_rfl) (by kernel_rfl) (fun _ _ _ h => h) (Or.inl ⟨by rfl, fun wq hSw => by skip; go_simp⟩) hS ?_
            simp only [List.setIfInBounds_toArray, List.set_cons_zero, List.set_cons_succ]
            refine tkd (i := 15) (v := .pointer (some ⟨wr.heap.size, 2, none⟩)) rfl rfl (by kernel_rfl) (by kernel_rfl) (by kernel_rfl) (fun _ _ _ h => h) (Or.inl ⟨by rfl, fun wq hSw => by skip; go_simp⟩) hS ?_
            simp only [List.setIfInBounds_toArray, List.set_cons_zero, List.set_cons_succ]
            refine tkd (i := 16) (v := .slice ua ps.length uc) rfl rfl (by kernel_rfl) (by kernel_rfl) (by kernel_rfl) (fun _ _ _ h => h) (Or.inl ⟨by rfl, fun wq hSw => by have q := keep n2 hSw; go_simp⟩) hS ?_
            simp only [List.setIfInBounds_toArray, List.set_cons_zero, List.set_cons_succ]
            refine tkd (i := 19) (v := .pointer (some ⟨wr.heap.size, 3, none⟩)) rfl rfl (by kernel_rfl) (by kernel_rfl) (by kernel_rfl) (fun _ _ _ h => h) (Or.inl ⟨by rfl, fun wq hSw => by skip; go_simp⟩) hS ?_
            simp only [List.setIfInBounds_toArray, List.set_cons_zero, List.set_cons_succ]
            refine tkd (i := 20) (v := .int .i64 wt) rfl rfl (by kernel_rfl) (by kernel_rfl) (by kernel_rfl) (fun _ _ _ h => h) (Or.inl ⟨by rfl, fun wq hSw => by have q := keep n3 hSw; go_simp⟩) hS ?_
            simp only [List.setIfInBounds_toArray, List.set_cons_zero, List.set_cons_succ]
            refine tkd (i := 24) (v := .pointer (some ⟨wr.heap.size, 4, none⟩)) rfl rfl (by kernel_rfl) (by kernel_rfl) (by kernel_rfl) (fun _ _ _ h => h) (Or.inl ⟨by rfl, fun wq hSw => by skip; go_simp⟩) hS ?_
            simp only [List.setIfInBounds_toArray, List.set_cons_zero, List.set_cons_succ]
            refine tkd (i := 25) (v := .bool gv) rfl rfl (by kernel_rfl) (by kernel_rfl) (by kernel_rfl) (fun _ _ _ h => h) (Or.inl ⟨by rfl, fun wq hSw => by have q := keep n4 hSw; go_simp⟩) hS ?_
            simp only [List.setIfInBounds_toArray, List.set_cons_zero, List.set_cons_succ]
            refine tkd (i := 28) (v := .pointer (some ⟨wr.heap.size, 5, none⟩)) rfl rfl (by kernel_rfl) (by kernel_rfl) (by kernel_rfl) (fun _ _ _ h => h) (Or.inl ⟨by rfl, fun wq hSw => by skip; go_simp⟩) hS ?_
            simp only [List.setIfInBounds_toArray, List.set_cons_zero, List.set_cons_succ]
            refine tkd (i := 29) (v := .int .i64 gn) rfl rfl (by kernel_rfl) (by kernel_rfl) (by kernel_rfl) (fun _ _ _ h => h) (Or.inl ⟨by rfl, fun wq hSw => by have q := keep n5 hSw; go_simp⟩) hS ?_
            simp only [List.setIfInBounds_toArray, List.set_cons_zero, List.set_cons_succ]
            refine wpAnyH_lay [3, 4, 7, 8, 12, 13, 14, 17, 18, 21, 22, 23, 26, 27, 30, 31, 32, 33] [(67, 3), (68, 4), (71, 7), (72, 8), (76, 12), (77, 13), (78, 14), (81, 17), (82, 18), (85, 21), (86, 22), (87, 23), (90, 26), (91, 27), (94, 30), (95, 31), (96, 32), (3, 33)] (fun i v W2 => match i with | 3 => v = .string T3 | 4 => v = .string (Sj ++ T3) | 7 => v = .string T7 | 8 => v = .string (Sj ++ T3 ++ T7) | 12 => RowI v W2 [(ps.length : Int)] | 13 => v = .string T13 | 14 => v = .string (Sj ++ T3 ++ T7 ++ T13) | 17 => v = .string T17 | 18 => v = .string (Sj ++ T3 ++ T7 ++ T13 ++ T17) | 21 => RowI v W2 [wt] | 22 => v = .string T22 | 23 => v = .string (Sj ++ T3 ++ T7 ++ T13 ++ T17 ++ T22) | 26 => v = .string T26 | 27 => v = .string (Sj ++ T3 ++ T7 ++ T13 ++ T17 ++ T22 ++ T26) | 30 => RowI v W2 [gn] | 31 => v = .string T31 | 32 => v = .string (Sj ++ T3 ++ T7 ++ T13 ++ T17 ++ T22 ++ T26 ++ T31) | _ => v = .string (Sj ++ T3 ++ T7 ++ T13 ++ T17 ++ T22 ++ T26 ++ T31)) (by kernel_rfl) (by rfl) (by kernel_rfl) (by decide) (by kernel_rfl) hS ?_ ?_ ?_
            · intro j v W1 W2 hb h
              split at h
              all_goals first | exact h | exact h.below hb
            · skip
              refine Steps.consK [] rfl trivial (fun U W1 hS1 hR K hK => ?_) ?_
              · skip
                have hcc := d3 W1
                simp only [layS, putK, List.foldr, List.foldl, List.setIfInBounds_toArray, List.set_cons_zero, List.set_cons_succ, reduceIte, Nat.reduceEqDiff]
                go_simp
                go_at_call 26
                refine hcc.mono ?_
                rintro e W2 ⟨rfl, hb⟩
                go_wp2
                have hk := hK.out (.string T3) W2 (hS1.trans (hb.mono hS1.size)) hb rfl
                simp only [layS, putK, List.foldr, List.foldl, List.setIfInBounds_toArray, List.set_cons_zero, List.set_cons_succ, reduceIte, Nat.reduceEqDiff] at hk
                exact hk
              refine Steps.consK [(3, .string T3)] rfl ⟨⟨by kernel_rfl, fun _ _ h => h⟩, trivial⟩ (fun U W1 hS1 hR K hK => ?_) ?_
              · skip
                simp only [layS, putK, List.foldr, List.foldl, List.setIfInBounds_toArray, List.set_cons_zero, List.set_cons_succ, reduceIte, Nat.reduceEqDiff]
                go_simp
                rw [if_neg (by first | omega | (simp only [ByteArray.size_append]; omega))]
                go_simp
                have hk := hK.out (.string (Sj ++ T3)) W1 hS1 (Below.refl _ _) rfl
                simp only [layS, putK, List.foldr, List.foldl, List.setIfInBounds_toArray, List.set_cons_zero, List.set_cons_succ, reduceIte, Nat.reduceEqDiff] at hk
                exact hk
              refine Steps.consK [] rfl trivial (fun U W1 hS1 hR K hK => ?_) ?_
              · skip
                have hcc := d7 W1
                simp only [layS, putK, List.foldr, List.foldl, List.setIfInBounds_toArray, List.set_cons_zero, List.set_cons_succ, reduceIte, Nat.reduceEqDiff]
                go_simp
                go_at_call 59
                refine hcc.mono ?_
                rintro e W2 ⟨rfl, hb⟩
                go_wp2
                have hk := hK.out (.string T7) W2 (hS1.trans (hb.mono hS1.size)) hb rfl
                simp only [layS, putK, List.foldr, List.foldl, List.setIfInBounds_toArray, List.set_cons_zero, List.set_cons_succ, reduceIte, Nat.reduceEqDiff] at hk
                exact hk
              refine Steps.consK [(4, .string (Sj ++ T3)), (7, .string T7)] rfl ⟨⟨by kernel_rfl, fun _ _ h => h⟩, ⟨by kernel_rfl, fun _ _ h => h⟩, trivial⟩ (fun U W1 hS1 hR K hK => ?_) ?_
              · skip
                simp only [layS, putK, List.foldr, List.foldl, List.setIfInBounds_toArray, List.set_cons_zero, List.set_cons_succ, reduceIte, Nat.reduceEqDiff]
                go_simp
                rw [if_neg (by first | omega | (simp only [ByteArray.size_append]; omega))]
                go_simp
                have hk := hK.out (.string (Sj ++ T3 ++ T7)) W1 hS1 (Below.refl _ _) rfl
                simp only [layS, putK, List.foldr, List.foldl, List.setIfInBounds_toArray, List.set_cons_zero, List.set_cons_succ, reduceIte, Nat.reduceEqDiff] at hk
                exact hk
              refine Steps.consK [] rfl trivial (fun U W1 hS1 hR K hK => ?_) ?_
              · skip
                simp only [layS, putK, List.foldr, List.foldl, List.setIfInBounds_toArray, List.set_cons_zero, List.set_cons_succ, reduceIte, Nat.reduceEqDiff]
                go_simp
                have hk := hK.out _ _ (hS1.alloc hS1.size _) ((Below.refl _ _).alloc (Nat.le_refl _) _) (RowI.new W1 [(ps.length : Int)])
                simp only [layS, putK, List.foldr, List.foldl, List.setIfInBounds_toArray, List.set_cons_zero, List.set_cons_succ, reduceIte, Nat.reduceEqDiff] at hk
                exact hk
              refine Steps.consK [] rfl trivial (fun U W1 hS1 hR K hK => ?_) ?_
              · skip
                have hcc := d13 _ W1 (hR 12 (by kernel_rfl))
                simp only [layS, putK, List.foldr, List.foldl, List.setIfInBounds_toArray, List.set_cons_zero, List.set_cons_succ, reduceIte, Nat.reduceEqDiff]
                go_simp
                go_at_call 24
                refine hcc.mono ?_
                rintro e W2 ⟨rfl, hb⟩
                go_wp2
                have hk := hK.out (.string T13) W2 (hS1.trans (hb.mono hS1.size)) hb rfl
                simp only [layS, putK, List.foldr, List.foldl, List.setIfInBounds_toArray, List.set_cons_zero, List.set_cons_succ, reduceIte, Nat.reduceEqDiff] at hk
                exact hk
              refine Steps.consK [(8, .string (Sj ++ T3 ++ T7)), (13, .string T13)] rfl ⟨⟨by kernel_rfl, fun _ _ h => h⟩, ⟨by kernel_rfl, fun _ _ h => h⟩, trivial⟩ (fun U W1 hS1 hR K hK => ?_) ?_
              · skip
                simp only [layS, putK, List.foldr, List.foldl, List.setIfInBounds_toArray, List.set_cons_zero, List.set_cons_succ, reduceIte, Nat.reduceEqDiff]
                go_simp
                rw [if_neg (by first | omega | (simp only [ByteArray.size_append]; omega))]
                go_simp
                have hk := hK.out (.string (Sj ++ T3 ++ T7 ++ T13)) W1 hS1 (Below.refl _ _) rfl
                simp only [layS, putK, List.foldr, List.foldl, List.setIfInBounds_toArray, List.set_cons_zero, List.set_cons_succ, reduceIte, Nat.reduceEqDiff] at hk
                exact hk
              refine Steps.consK [] rfl trivial (fun U W1 hS1 hR K hK => ?_) ?_
              · skip
                have hcc := d17 W1 (hw2.trans (hS1.mono hw2.size))
                simp only [layS, putK, List.foldr, List.foldl, List.setIfInBounds_toArray, List.set_cons_zero, List.set_cons_succ, reduceIte, Nat.reduceEqDiff]
                go_simp
                go_at_call 24
                refine hcc.mono ?_
                rintro e W2 ⟨rfl, hb⟩
                go_wp2
                have hk := hK.out (.string T17) W2 (hS1.trans (hb.mono hS1.size)) hb rfl
                simp only [layS, putK, List.foldr, List.foldl, List.setIfInBounds_toArray, List.set_cons_zero, List.set_cons_succ, reduceIte, Nat.reduceEqDiff] at hk
                exact hk
              refine Steps.consK [(14, .string (Sj ++ T3 ++ T7 ++ T13)), (17, .string T17)] rfl ⟨⟨by kernel_rfl, fun _ _ h => h⟩, ⟨by kernel_rfl, fun _ _ h => h⟩, trivial⟩ (fun U W1 hS1 hR K hK => ?_) ?_
              · skip
                simp only [layS, putK, List.foldr, List.foldl, List.setIfInBounds_toArray, List.set_cons_zero, List.set_cons_succ, reduceIte, Nat.reduceEqDiff]
                go_simp
                rw [if_neg (by first | omega | (simp only [ByteArray.size_append]; omega))]
                go_simp
                have hk := hK.out (.string (Sj ++ T3 ++ T7 ++ T13 ++ T17)) W1 hS1 (Below.refl _ _) rfl
                simp only [layS, putK, List.foldr, List.foldl, List.setIfInBounds_toArray, List.set_cons_zero, List.set_cons_succ, reduceIte, Nat.reduceEqDiff] at hk
                exact hk
              refine Steps.consK [] rfl trivial (fun U W1 hS1 hR K hK => ?_) ?_
              · skip
                simp only [layS, putK, List.foldr, List.foldl, List.setIfInBounds_toArray, List.set_cons_zero, List.set_cons_succ, reduceIte, Nat.reduceEqDiff]
                go_simp
                have hk := hK.out _ _ (hS1.alloc hS1.size _) ((Below.refl _ _).alloc (Nat.le_refl _) _) (RowI.new W1 [wt])
                simp only [layS, putK, List.foldr, List.foldl, List.setIfInBounds_toArray, List.set_cons_zero, List.set_cons_succ, reduceIte, Nat.reduceEqDiff] at hk
                exact hk
              refine Steps.consK [] rfl trivial (fun U W1 hS1 hR K hK => ?_) ?_
              · skip
                have hcc := d22 _ W1 (hR 21 (by kernel_rfl))
                simp only [layS, putK, List.foldr, List.foldl, List.setIfInBounds_toArray, List.set_cons_zero, List.set_cons_succ, reduceIte, Nat.reduceEqDiff]
                go_simp
                go_at_call 24
                refine hcc.mono ?_
                rintro e W2 ⟨rfl, hb⟩
                go_wp2
                have hk := hK.out (.string T22) W2 (hS1.trans (hb.mono hS1.size)) hb rfl
                simp only [layS, putK, List.foldr, List.foldl, List.setIfInBounds_toArray, List.set_cons_zero, List.set_cons_succ, reduceIte, Nat.reduceEqDiff] at hk
                exact hk
              refine Steps.consK [(18, .string (Sj ++ T3 ++ T7 ++ T13 ++ T17)), (22, .string T22)] rfl ⟨⟨by kernel_rfl, fun _ _ h => h⟩, ⟨by kernel_rfl, fun _ _ h => h⟩, trivial⟩ (fun U W1 hS1 hR K hK => ?_) ?_
              · skip
                simp only [layS, putK, List.foldr, List.foldl, List.setIfInBounds_toArray, List.set_cons_zero, List.set_cons_succ, reduceIte, Nat.reduceEqDiff]
                go_simp
                rw [if_neg (by first | omega | (simp only [ByteArray.size_append]; omega))]
                go_simp
                have hk := hK.out (.string (Sj ++ T3 ++ T7 ++ T13 ++ T17 ++ T22)) W1 hS1 (Below.refl _ _) rfl
                simp only [layS, putK, List.foldr, List.foldl, List.setIfInBounds_toArray, List.set_cons_zero, List.set_cons_succ, reduceIte, Nat.reduceEqDiff] at hk
                exact hk
              refine Steps.consK [] rfl trivial (fun U W1 hS1 hR K hK => ?_) ?_
              · skip
                have hcc := d26 W1
                simp only [layS, putK, List.foldr, List.foldl, List.setIfInBounds_toArray, List.set_cons_zero, List.set_cons_succ, reduceIte, Nat.reduceEqDiff]
                go_simp
                go_at_call 59
                refine hcc.mono ?_
                rintro e W2 ⟨rfl, hb⟩
                go_wp2
                have hk := hK.out (.string T26) W2 (hS1.trans (hb.mono hS1.size)) hb rfl
                simp only [layS, putK, List.foldr, List.foldl, List.setIfInBounds_toArray, List.set_cons_zero, List.set_cons_succ, reduceIte, Nat.reduceEqDiff] at hk
                exact hk
              refine Steps.consK [(23, .string (Sj ++ T3 ++ T7 ++ T13 ++ T17 ++ T22)), (26, .string T26)] rfl ⟨⟨by kernel_rfl, fun _ _ h => h⟩, ⟨by kernel_rfl, fun _ _ h => h⟩, trivial⟩ (fun U W1 hS1 hR K hK => ?_) ?_
              · skip
                simp only [layS, putK, List.foldr, List.foldl, List.setIfInBounds_toArray, List.set_cons_zero, List.set_cons_succ, reduceIte, Nat.reduceEqDiff]
                go_simp
                rw [if_neg (by first | omega | (simp only [ByteArray.size_append]; omega))]
                go_simp
                have hk := hK.out (.string (Sj ++ T3 ++ T7 ++ T13 ++ T17 ++ T22 ++ T26)) W1 hS1 (Below.refl _ _) rfl
                simp only [layS, putK, List.foldr, List.foldl, List.setIfInBounds_toArray, List.set_cons_zero, List.set_cons_succ, reduceIte, Nat.reduceEqDiff] at hk
                exact hk
              refine Steps.consK [] rfl trivial (fun U W1 hS1 hR K hK => ?_) ?_
              · skip
                simp only [layS, putK, List.foldr, List.foldl, List.setIfInBounds_toArray, List.set_cons_zero, List.set_cons_succ, reduceIte, Nat.reduceEqDiff]
                go_simp
                have hk := hK.out _ _ (hS1.alloc hS1.size _) ((Below.refl _ _).alloc (Nat.le_refl _) _) (RowI.new W1 [gn])
                simp only [layS, putK, List.foldr, List.foldl, List.setIfInBounds_toArray, List.set_cons_zero, List.set_cons_succ, reduceIte, Nat.reduceEqDiff] at hk
                exact hk
              refine Steps.consK [] rfl trivial (fun U W1 hS1 hR K hK => ?_) ?_
              · skip
                have hcc := d31 _ W1 (hR 30 (by kernel_rfl))
                simp only [layS, putK, List.foldr, List.foldl, List.setIfInBounds_toArray, List.set_cons_zero, List.set_cons_succ, reduceIte, Nat.reduceEqDiff]
                go_simp
                go_at_call 24
                refine hcc.mono ?_
                rintro e W2 ⟨rfl, hb⟩
                go_wp2
                have hk := hK.out (.string T31) W2 (hS1.trans (hb.mono hS1.size)) hb rfl
                simp only [layS, putK, List.foldr, List.foldl, List.setIfInBounds_toArray, List.set_cons_zero, List.set_cons_succ, reduceIte, Nat.reduceEqDiff] at hk
                exact hk
              refine Steps.consK [(27, .string (Sj ++ T3 ++ T7 ++ T13 ++ T17 ++ T22 ++ T26)), (31, .string T31)] rfl ⟨⟨by kernel_rfl, fun _ _ h => h⟩, ⟨by kernel_rfl, fun _ _ h => h⟩, trivial⟩ (fun U W1 hS1 hR K hK => ?_) ?_
              · skip
                simp only [layS, putK, List.foldr, List.foldl, List.setIfInBounds_toArray, List.set_cons_zero, List.set_cons_succ, reduceIte, Nat.reduceEqDiff]
                go_simp
                rw [if_neg (by first | omega | (simp only [ByteArray.size_append]; omega))]
                go_simp
                have hk := hK.out (.string (Sj ++ T3 ++ T7 ++ T13 ++ T17 ++ T22 ++ T26 ++ T31)) W1 hS1 (Below.refl _ _) rfl
                simp only [layS, putK, List.foldr, List.foldl, List.setIfInBounds_toArray, List.set_cons_zero, List.set_cons_succ, reduceIte, Nat.reduceEqDiff] at hk
                exact hk
              refine Steps.consK [(32, .string (Sj ++ T3 ++ T7 ++ T13 ++ T17 ++ T22 ++ T26 ++ T31))] rfl ⟨⟨by kernel_rfl, fun _ _ h => h⟩, trivial⟩ (fun U W1 hS1 hR K hK => ?_) Steps.nil
              · skip
                simp only [layS, putK, List.foldr, List.foldl, List.setIfInBounds_toArray, List.set_cons_zero, List.set_cons_succ, reduceIte, Nat.reduceEqDiff]
                go_simp
                have hk := hK.out (.string (Sj ++ T3 ++ T7 ++ T13 ++ T17 ++ T22 ++ T26 ++ T31)) W1 hS1 (Below.refl _ _) rfl
                simp only [layS, putK, List.foldr, List.foldl, List.setIfInBounds_toArray, List.set_cons_zero, List.set_cons_succ, reduceIte, Nat.reduceEqDiff] at hk
                exact hk
            · intro U W1 hS1 hR
              have hdd : U 33 = .string (Sj ++ T3 ++ T7 ++ T13 ++ T17 ++ T22 ++ T26 ++ T31) := hR 33 (by simp)
              simp only [layS, putK, List.foldr, List.foldl, List.setIfInBounds_toArray, List.set_cons_zero, List.set_cons_succ, reduceIte, Nat.reduceEqDiff]
              rw [hdd]
              clear hdd hR
              replace hm2 := hm2.below hS1
              clear hS1 hS hw2 n0 n1 n2 n3 n4 n5 d3 d7 d13 d17 d22 d26 d31
              generalize Sj ++ T3 ++ T7 ++ T13 ++ T17 ++ T22 ++ T26 ++ T31 = S9 at *
              go_wp2
              go_roundw
              case rel => exact ⟨j + 1, S9, by omega, by go_num, rfl, HE3, hm2⟩
              case measure => simp [intOf]; omega
          · have hjl : j = f.procs.length := by omega
            subst hjl
            rw [List.take_length] at HE
            have HF : Hid (Sj = RR) := by
              show _ = _
              rw [HE.out, hRR.out]
              simp only [faceB, listB, List.append_assoc]
            go_wp2
            go_ret
            exact ⟨congrArg (fun z => Ending.returned (.string z)) HF.out, hm.to⟩
end Go.Proofs.YthfeojjfehbgjaaGreatDoor.obj
