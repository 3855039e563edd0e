/- What the reference's placesBytes and Bytes answer: contracts. (Written by mkbytes2.py: edit that.) -/
import Derived.Test.YthfeojjfehbgjaaGreatDoorOPObjRefY
import Derived.Test.YthfeojjfehbgjaaGreatDoorOPObjMayC
namespace Go.Proofs.YthfeojjfehbgjaaGreatDoor.obj
open Go.RowKit
open Go.Proofs.YthfeojjfehbgjaaGreatDoor.mac (BoxC Ins hasB)
open Go.Proofs.YthfeojjfehbgjaaGreatDoor.ord (tkd putd)
open Go.Proofs.YthfeojjfehbgjaaGreatDoor.reg
open Go.Proofs.YthfeojjfehbgjaaGreatDoor.face (VarD ProcD FaceD keep IntsIn VarsIn ProcsIn)
set_option linter.unusedVariables false
set_option linter.unusedSimpArgs false
set_option maxRecDepth 100000
theorem flat_take_le {α : Type} (f : α → By) (l : List α) (j : Nat) : ((l.take j).map f).flatten.length ≤ (l.map f).flatten.length := by
  conv => rhs; rw [← List.take_append_drop j l]
  rw [List.map_append, List.flatten_append, List.length_append]
  omega
set_option maxHeartbeats 4000000 in
theorem rPlcY (l : List PlcD) (u : Value) (w : World) (hu : PlcsIn w u l) (hl : l.length ≤ 1048576) (hn : ∀ x ∈ l, x.name.size ≤ 16 ∧ I64 x.at') :
    Calls Tryz.prog 27 #[u] w fun e w' => e = .returned (.string (tx (listB plcBy l))) ∧ Below w.heap.size w w' := by
  have c2 : Tryz.prog.cellsOf 85 = 2 := by kernel_rfl
  obtain ⟨a, c, rfl, -, hc⟩ := hu
  replace hc := hid hc
  replace hn := hid hn
  obtain ⟨RR, hRR⟩ : ∃ A, A = tx (listB plcBy l) := ⟨_, rfl⟩
  rw [← hRR]
  replace hRR : Hid (RR = _) := hRR
  obtain ⟨T0, hT0⟩ : ∃ A, A = tx (numB (l.length : Int)) := ⟨_, rfl⟩
  have d0 := rNumbers1 (l.length : Int) ⟨by omega, by omega⟩ w
  rw [← hT0] at d0
  have HE0 : Hid (T0 = tx (numB l.length ++ ((l.take 0).map plcBy).flatten)) := by show _ = _; rw [hT0]; simp
  clear hT0
  go_enter Tryz.func27, Tryz.ntmps27
  go_wp2_with (go_at_call 24; refine d0.mono ?_; rintro e W0 ⟨rfl, hb0⟩)
  clear d0
  go_loopw [4, 3] (fun t s wr => ∃ (j : Nat) (Sj : ByteArray), j ≤ l.length ∧ t = .int .i64 j ∧ s = .string Sj ∧ Hid (Sj = tx (numB l.length ++ ((l.take j).map plcBy).flatten)) ∧ Below w.heap.size w wr) (fun t _ _ => l.length - (intOf t).toNat)
  case atStart => exact ⟨0, T0, Nat.zero_le _, rfl, rfl, HE0, hb0⟩
  case round =>
    clear HE0 hb0
    obtain ⟨j, Sj, hj, rfl, rfl, HE, hB⟩ := hrel
    by_cases hlt : j < l.length
    · obtain ⟨g, o, rfl, hcc⟩ := hc.out (by intro e; rw [e] at hlt; simp at hlt)
      obtain ⟨k0, k1⟩ := hcc j hlt
      have hB1 := hB.drew
      replace k0 := keep k0 hB1
      replace k1 := keep k1 hB1
      clear hcc
      obtain ⟨h1, h2⟩ := hn.out _ (List.getElem_mem hlt)
      replace h2 := hid h2
      have HE2 : Hid (tx (numB l.length ++ ((l.take (j + 1)).map plcBy).flatten) = tx ((numB l.length ++ ((l.take j).map plcBy).flatten) ++ plcBy l[j])) := by show _ = _; rw [take_flat plcBy _ j hlt]; simp only [List.append_assoc]
      have zj : Sj.size ≤ 100000000 := by
        have h1 := flat_le (f := plcBy) (k := 32) (l := l.take j) fun x hx => by
          have := (hn.out x (List.mem_of_mem_take hx)).1
          simp only [plcBy, List.length_append, textB_len, numB_len]
          omega
        rw [HE.out, tx_size]
        simp only [List.length_append, numB_len]
        rw [List.length_take] at h1
        omega
      generalize l[j] = x at *
      obtain ⟨nm, at1⟩ := x
      dsimp only at k0 k1 h1
      obtain ⟨T6, hT6⟩ : ∃ A, A = tx (textB nm) := ⟨_, rfl⟩
      obtain ⟨T14, hT14⟩ : ∃ A, A = tx (intsS [at1]) := ⟨_, rfl⟩
      have z6 : T6.size ≤ 24 := by rw [hT6, tx_size, textB_len]; omega
      have z14 : T14.size ≤ 8 := by rw [hT14, tx_size, intsS_len]; simp
      have d6 := fun W => rText nm (by omega) W
      rw [← hT6] at d6
      have d14 := fun v W h => rNumS (v := v) (w := W) (l := [at1]) (by simp) (by simp; exact h2.out) h
      rw [← hT14] at d14
      have HE3 : Hid (Sj ++ T6 ++ T14 = tx (numB l.length ++ ((l.take (j + 1)).map plcBy).flatten)) := by
        show _ = _
        rw [HE2.out, HE.out, hT6, hT14, tx_app, tx_app]
        simp only [plcBy, intsS, List.map_cons, List.map_nil, List.flatten_cons, List.flatten_nil, List.append_nil, List.append_assoc]
      clear hT6 hT14 HE HE2 h2
      go_wp2
      refine wp_region_held_drew (S := fun W => Below wr.drew.heap.size wr.drew W) (by kernel_rfl) (Below.refl _ _) (fun hS => ?_)
      generalize wr.drew = W at hS hB1 k0 k1 ⊢
      refine tkd (i := 0) (v := .string Sj) rfl rfl (by kernel_rfl) (by kernel_rfl) (by kernel_rfl) (fun _ _ _ h => h) (Or.inl ⟨by rfl, fun wq hSw => by skip; go_simp⟩) hS ?_
      simp only [List.setIfInBounds_toArray, List.set_cons_zero, List.set_cons_succ]
      refine tkd (i := 1) (v := .slice (some ⟨g, o, none⟩) l.length c) rfl rfl (by kernel_rfl) (by kernel_rfl) (by kernel_rfl) (fun _ _ _ h => h) (Or.inl ⟨by rfl, fun wq hSw => by skip; go_simp⟩) hS ?_
      simp only [List.setIfInBounds_toArray, List.set_cons_zero, List.set_cons_succ]
      refine tkd (i := 2) (v := .int .i64 (j : Int)) rfl rfl (by kernel_rfl) (by kernel_rfl) (by kernel_rfl) (fun _ _ _ h => h) (Or.inl ⟨by rfl, fun wq hSw => by skip; go_simp⟩) hS ?_
      simp only [List.setIfInBounds_toArray, List.set_cons_zero, List.set_cons_succ]
      refine tkd (i := 3) (v := .pointer (some ⟨g, o + j * 2, none⟩)) rfl rfl (by kernel_rfl) (by kernel_rfl) (by kernel_rfl) (fun _ _ _ h => h) (Or.inl ⟨by rfl, fun wq hSw => by skip; go_simp⟩) hS ?_
      simp only [List.setIfInBounds_toArray, List.set_cons_zero, List.set_cons_succ]
      refine tkd (i := 4) (v := .pointer (some ⟨g, o + j * 2, none⟩)) rfl rfl (by kernel_rfl) (by kernel_rfl) (by kernel_rfl) (fun _ _ _ h => h) (Or.inl ⟨by rfl, fun wq hSw => by skip; go_simp⟩) hS ?_
      simp only [List.setIfInBounds_toArray, List.set_cons_zero, List.set_cons_succ]
      refine tkd (i := 5) (v := .string nm) rfl rfl (by kernel_rfl) (by kernel_rfl) (by kernel_rfl) (fun _ _ _ h => h) (Or.inl ⟨by rfl, fun wq hSw => by have q := keep k0 hSw; go_simp⟩) hS ?_
      simp only [List.setIfInBounds_toArray, List.set_cons_zero, List.set_cons_succ]
      refine tkd (i := 8) (v := .slice (some ⟨g, o, none⟩) l.length c) rfl rfl (by kernel_rfl) (by kernel_rfl) (by kernel_rfl) (fun _ _ _ h => h) (Or.inl ⟨by rfl, fun wq hSw => by skip; go_simp⟩) hS ?_
      simp only [List.setIfInBounds_toArray, List.set_cons_zero, List.set_cons_succ]
      refine tkd (i := 9) (v := .int .i64 (j : Int)) rfl rfl (by kernel_rfl) (by kernel_rfl) (by kernel_rfl) (fun _ _ _ h => h) (Or.inl ⟨by rfl, fun wq hSw => by skip; go_simp⟩) hS ?_
      simp only [List.setIfInBounds_toArray, List.set_cons_zero, List.set_cons_succ]
      refine tkd (i := 10) (v := .pointer (some ⟨g, o + j * 2, none⟩)) rfl rfl (by kernel_rfl) (by kernel_rfl) (by kernel_rfl) (fun _ _ _ h => h) (Or.inl ⟨by rfl, fun wq hSw => by skip; go_simp⟩) hS ?_
      simp only [List.setIfInBounds_toArray, List.set_cons_zero, List.set_cons_succ]
      refine tkd (i := 11) (v := .pointer (some ⟨g, o + j * 2 + 1, none⟩)) rfl rfl (by kernel_rfl) (by kernel_rfl) (by kernel_rfl) (fun _ _ _ h => h) (Or.inl ⟨by rfl, fun wq hSw => by skip; go_simp⟩) hS ?_
      simp only [List.setIfInBounds_toArray, List.set_cons_zero, List.set_cons_succ]
      refine tkd (i := 12) (v := .int .i64 at1) rfl rfl (by kernel_rfl) (by kernel_rfl) (by kernel_rfl) (fun _ _ _ h => h) (Or.inl ⟨by rfl, fun wq hSw => by have q := keep k1 hSw; go_simp⟩) hS ?_
      simp only [List.setIfInBounds_toArray, List.set_cons_zero, List.set_cons_succ]
      refine wpAnyH_lay [6, 7, 13, 14, 15, 16] [(21, 6), (22, 7), (28, 13), (29, 14), (30, 15), (3, 16)] (fun i v W2 => match i with | 6 => v = .string T6 | 7 => v = .string (Sj ++ T6) | 13 => RowI v W2 [at1] | 14 => v = .string T14 | 15 => v = .string (Sj ++ T6 ++ T14) | _ => v = .string (Sj ++ T6 ++ T14)) (by kernel_rfl) (by rfl) (by kernel_rfl) (by decide) (by kernel_rfl) hS ?_ ?_ ?_
      · intro j v W1 W2 hb h
        split at h
        all_goals first | exact h | exact h.below hb
      · skip
        refine Steps.consK [] rfl trivial (fun U W1 hS1 hR K hK => ?_) ?_
        · skip
          have hcc := d6 W1
          simp only [layS, putK, List.foldr, List.foldl, List.setIfInBounds_toArray, List.set_cons_zero, List.set_cons_succ, reduceIte, Nat.reduceEqDiff]
          go_simp
          go_at_call 26
          refine hcc.mono ?_
          rintro e W2 ⟨rfl, hb⟩
          go_wp2
          have hk := hK.out (.string T6) W2 (hS1.trans (hb.mono hS1.size)) hb rfl
          simp only [layS, putK, List.foldr, List.foldl, List.setIfInBounds_toArray, List.set_cons_zero, List.set_cons_succ, reduceIte, Nat.reduceEqDiff] at hk
          exact hk
        refine Steps.consK [(6, .string T6)] rfl ⟨⟨by kernel_rfl, fun _ _ h => h⟩, trivial⟩ (fun U W1 hS1 hR K hK => ?_) ?_
        · skip
          simp only [layS, putK, List.foldr, List.foldl, List.setIfInBounds_toArray, List.set_cons_zero, List.set_cons_succ, reduceIte, Nat.reduceEqDiff]
          go_simp
          rw [if_neg (by first | omega | (simp only [ByteArray.size_append]; omega))]
          go_simp
          have hk := hK.out (.string (Sj ++ T6)) W1 hS1 (Below.refl _ _) rfl
          simp only [layS, putK, List.foldr, List.foldl, List.setIfInBounds_toArray, List.set_cons_zero, List.set_cons_succ, reduceIte, Nat.reduceEqDiff] at hk
          exact hk
        refine Steps.consK [] rfl trivial (fun U W1 hS1 hR K hK => ?_) ?_
        · skip
          simp only [layS, putK, List.foldr, List.foldl, List.setIfInBounds_toArray, List.set_cons_zero, List.set_cons_succ, reduceIte, Nat.reduceEqDiff]
          go_simp
          have hk := hK.out _ _ (hS1.alloc hS1.size _) ((Below.refl _ _).alloc (Nat.le_refl _) _) (RowI.new W1 [at1])
          simp only [layS, putK, List.foldr, List.foldl, List.setIfInBounds_toArray, List.set_cons_zero, List.set_cons_succ, reduceIte, Nat.reduceEqDiff] at hk
          exact hk
        refine Steps.consK [] rfl trivial (fun U W1 hS1 hR K hK => ?_) ?_
        · skip
          have hcc := d14 _ W1 (hR 13 (by kernel_rfl))
          simp only [layS, putK, List.foldr, List.foldl, List.setIfInBounds_toArray, List.set_cons_zero, List.set_cons_succ, reduceIte, Nat.reduceEqDiff]
          go_simp
          go_at_call 24
          refine hcc.mono ?_
          rintro e W2 ⟨rfl, hb⟩
          go_wp2
          have hk := hK.out (.string T14) W2 (hS1.trans (hb.mono hS1.size)) hb rfl
          simp only [layS, putK, List.foldr, List.foldl, List.setIfInBounds_toArray, List.set_cons_zero, List.set_cons_succ, reduceIte, Nat.reduceEqDiff] at hk
          exact hk
        refine Steps.consK [(7, .string (Sj ++ T6)), (14, .string T14)] rfl ⟨⟨by kernel_rfl, fun _ _ h => h⟩, ⟨by kernel_rfl, fun _ _ h => h⟩, trivial⟩ (fun U W1 hS1 hR K hK => ?_) ?_
        · skip
          simp only [layS, putK, List.foldr, List.foldl, List.setIfInBounds_toArray, List.set_cons_zero, List.set_cons_succ, reduceIte, Nat.reduceEqDiff]
          go_simp
          rw [if_neg (by first | omega | (simp only [ByteArray.size_append]; omega))]
          go_simp
          have hk := hK.out (.string (Sj ++ T6 ++ T14)) W1 hS1 (Below.refl _ _) rfl
          simp only [layS, putK, List.foldr, List.foldl, List.setIfInBounds_toArray, List.set_cons_zero, List.set_cons_succ, reduceIte, Nat.reduceEqDiff] at hk
          exact hk
        refine Steps.consK [(15, .string (Sj ++ T6 ++ T14))] rfl ⟨⟨by kernel_rfl, fun _ _ h => h⟩, trivial⟩ (fun U W1 hS1 hR K hK => ?_) Steps.nil
        · skip
          simp only [layS, putK, List.foldr, List.foldl, List.setIfInBounds_toArray, List.set_cons_zero, List.set_cons_succ, reduceIte, Nat.reduceEqDiff]
          go_simp
          have hk := hK.out (.string (Sj ++ T6 ++ T14)) W1 hS1 (Below.refl _ _) rfl
          simp only [layS, putK, List.foldr, List.foldl, List.setIfInBounds_toArray, List.set_cons_zero, List.set_cons_succ, reduceIte, Nat.reduceEqDiff] at hk
          exact hk
      · intro U W1 hS1 hR
        have hdd : U 16 = .string (Sj ++ T6 ++ T14) := hR 16 (by simp)
        simp only [layS, putK, List.foldr, List.foldl, List.setIfInBounds_toArray, List.set_cons_zero, List.set_cons_succ, reduceIte, Nat.reduceEqDiff]
        rw [hdd]
        clear hdd hR
        replace hB1 := hB1.trans (hS1.mono hB1.size)
        clear hS1 hS k0 k1 d6 d14
        generalize Sj ++ T6 ++ T14 = S9 at *
        go_wp2
        go_roundw
        case rel => exact ⟨j + 1, S9, by omega, by go_num, rfl, HE3, hB1⟩
        case measure => simp [intOf]; omega
    · have hjl : j = l.length := by omega
      subst hjl
      rw [List.take_length] at HE
      have HF : Hid (Sj = RR) := by
        show _ = _
        rw [HE.out, hRR.out]
        simp only [listB]
      go_wp2
      go_ret
      exact ⟨congrArg (fun z => Ending.returned (.string z)) HF.out, hB⟩
set_option maxHeartbeats 16000000 in
theorem rBytes (o : ObjD) (x : Vals) (w : World) (ho : ObjAt w x o) (hmo : mayO o = true) (hfo : Fit o) :
    Calls Tryz.prog 8 #[objV o x] w fun e w' => e = .returned (.string (tx (objB o))) ∧ Below w.heap.size w w' := by
  have cf13 : Tryz.prog.cellsOf 31 = 13 := by kernel_rfl
  have cf3 : Tryz.prog.cellsOf 25 = 3 := face.cell3
  have cf5 : Tryz.prog.cellsOf 55 = 5 := by kernel_rfl
  have cf4 : Tryz.prog.cellsOf 57 = 4 := by kernel_rfl
  have HL : Hid ((objB o).length ≤ 200000000) := (okO hmo hfo).le
  obtain ⟨a1, c1, a2, c2, a3, c3, a4, c4, a5, c5, a6, c6, a7, c7, a8, c8, rfl⟩ := ho.shape
  have hfa := ho.vars
  have hfb := ho.procs
  have hi := ho.imps
  have hcd := ho.code
  have hrl := ho.rels
  have q1 := ho.q1
  have q2 := ho.q2
  have q3 := ho.q3
  clear ho
  dsimp only at hfa hfb hi hcd hrl q1 q2 q3
  simp only [mayO, facesB, codeB, wordsB, Bool.and_eq_true, decide_eq_true_eq] at hmo
  obtain ⟨⟨g1, g2, g3, -⟩, ⟨g4, g5⟩, g6, g7, g8, g9, g10⟩ := hmo
  have gw : ∀ x, x = o.low ∨ x = o.high ∨ x = o.lowF ∨ x = o.highF → 0 ≤ x ∧ x ≤ 20000 := fun x hx => by
    have := List.all_eq_true.1 g7 x (by simpa using hx)
    simpa [wordB] using this
  have wl := gw o.low (by simp)
  have wh := gw o.high (by simp)
  have wf := gw o.lowF (by simp)
  have wg := gw o.highF (by simp)
  clear gw g7
  have plc : ∀ (l : List PlcD) (n : Int), n ≤ 20000 → placesB l n = true → ∀ x ∈ l, x.name.size ≤ 16 ∧ I64 x.at' := fun l n hn hp x hx => by
    unfold placesB at hp
    simp only [Bool.and_eq_true] at hp
    have h := List.all_eq_true.1 hp.1 x hx
    simp only [plcB, Bool.and_eq_true, decide_eq_true_eq] at h
    exact ⟨name_le h.1, by omega, by omega⟩
  have f1 := hid (plc o.procs _ (by omega) g8)
  have f2 := hid (plc o.lows _ (by omega) g9)
  have f3 := hid (plc o.highs _ (by omega) g10)
  clear plc g8 g9 g10
  have GI : Hid (∀ x ∈ o.imports, face.mayB x = true) := List.all_eq_true.1 g3
  have GC : Hid (∀ x ∈ o.code, hasB x = true ∧ I64 x.n) := fun x hx => ⟨List.all_eq_true.1 g5 x hx, hfo.n x hx⟩
  have GR : Hid (∀ x ∈ o.relocs, (I64 x.kind ∧ x.module.size ≤ 16 ∧ x.name.size ≤ 16) ∧ I64 x.at') := fun x hx => by
    have h := relocs_mem (by omega) g6 x hx
    exact ⟨rel_i h.1, by omega, by omega⟩
  have l1 := hfo.procs
  have l2 := hfo.lows
  have l3 := hfo.highs
  have l5 := hfo.rel
  clear g3 g5 g6 hfo
  replace q1 := hid q1
  replace q2 := hid q2
  replace q3 := hid q3
  replace hi := hid hi
  replace hcd := hid hcd
  replace hrl := hid hrl
  have hm0 := MonoF.new w #[.string o.face.module, .slice a1 o.face.vars.length c1, .slice a2 o.face.procs.length c2, .slice a3 o.imports.length c3, .slice a4 o.code.length c4, .slice a5 o.relocs.length c5, .slice a6 o.procs.length c6, .slice a7 o.lows.length c7, .slice a8 o.highs.length c8, .int .i64 o.low, .int .i64 o.high, .int .i64 o.lowF, .int .i64 o.highF] 31
  unfold objV
  dsimp only
  obtain ⟨RR, hRR⟩ : ∃ A, A = tx (objB o) := ⟨_, rfl⟩
  rw [← hRR]
  replace hRR : Hid (RR = _) := hRR
  have d2 : ∀ W, Below w.heap.size w W → Calls Tryz.prog 23 #[.agg #[.string o.face.module, .slice a1 o.face.vars.length c1, .slice a2 o.face.procs.length c2]] W fun e w' => e = .returned (.string (tx (faceB o.face))) ∧ Below W.heap.size W w' := fun W hb => rFaceY o.face _ _ W (hfa.below hb) (hfb.below hb) g1
  obtain ⟨T2, hT2⟩ : ∃ A, A = tx (faceB o.face) := ⟨_, rfl⟩
  obtain ⟨T7, hT7⟩ : ∃ A, A = tx (intsS [(o.imports.length : Int)]) := ⟨_, rfl⟩
  have z2 : T2.size ≤ 3080 := by rw [hT2, tx_size]; exact (okFace g1).le
  have z7 : T7.size ≤ 8 := by rw [hT7, tx_size, intsS_len]; simp
  rw [← hT2] at d2
  have d7 := fun v W h => rNumS (v := v) (w := W) (l := [(o.imports.length : Int)]) (by simp) (by simp; exact ⟨by omega, by omega⟩) h
  rw [← hT7] at d7
  have HE0 : Hid (T2 ++ T7 = tx ((faceB o.face ++ numB o.imports.length) ++ ((o.imports.take 0).map faceB).flatten)) := by show _ = _; rw [hT2, hT7, tx_app]; simp [intsS]
  clear hT2 hT7 g1 hfa hfb
  go_enter Tryz.func8, Tryz.ntmps8
  go_wp2
  have hm1 := hm0.below (Below.refl _ _).drew
  refine wp_region_held_drew (S := fun W => Below (w.alloc (.cells #[.string o.face.module, .slice a1 o.face.vars.length c1, .slice a2 o.face.procs.length c2, .slice a3 o.imports.length c3, .slice a4 o.code.length c4, .slice a5 o.relocs.length c5, .slice a6 o.procs.length c6, .slice a7 o.lows.length c7, .slice a8 o.highs.length c8, .int .i64 o.low, .int .i64 o.high, .int .i64 o.lowF, .int .i64 o.highF] 31)).drew.heap.size (w.alloc (.cells #[.string o.face.module, .slice a1 o.face.vars.length c1, .slice a2 o.face.procs.length c2, .slice a3 o.imports.length c3, .slice a4 o.code.length c4, .slice a5 o.relocs.length c5, .slice a6 o.procs.length c6, .slice a7 o.lows.length c7, .slice a8 o.highs.length c8, .int .i64 o.low, .int .i64 o.high, .int .i64 o.lowF, .int .i64 o.highF] 31)).drew W) (by kernel_rfl) (Below.refl _ _) (fun hS => ?_)
  generalize (w.alloc (.cells #[.string o.face.module, .slice a1 o.face.vars.length c1, .slice a2 o.face.procs.length c2, .slice a3 o.imports.length c3, .slice a4 o.code.length c4, .slice a5 o.relocs.length c5, .slice a6 o.procs.length c6, .slice a7 o.lows.length c7, .slice a8 o.highs.length c8, .int .i64 o.low, .int .i64 o.high, .int .i64 o.lowF, .int .i64 o.highF] 31)).drew = W at hS hm1 ⊢
  clear hm0
  have m0 := hm1.bx.cell 0 rfl
  have m1 := hm1.bx.cell 1 rfl
  have m2 := hm1.bx.cell 2 rfl
  have m3 := hm1.bx.cell 3 rfl
  refine tkd (i := 0) (v := .pointer (some ⟨w.heap.size, 0, none⟩)) rfl rfl (by kernel_rfl) (by kernel_rfl) (by kernel_rfl) (fun _ _ _ h => h) (Or.inl ⟨by rfl, fun wq hSw => by skip; go_simp⟩) hS ?_
  simp only [List.setIfInBounds_toArray, List.set_cons_zero, List.set_cons_succ]
  refine tkd (i := 1) (v := .agg #[.string o.face.module, .slice a1 o.face.vars.length c1, .slice a2 o.face.procs.length c2] ) rfl rfl (by kernel_rfl) (by kernel_rfl) (by kernel_rfl) (fun _ _ _ h => h) (Or.inl ⟨by rfl, fun wq hSw => by have q := keep m0 hSw; have qq := keep m1 hSw; have qqq := keep m2 hSw; go_simp⟩) hS ?_
  simp only [List.setIfInBounds_toArray, List.set_cons_zero, List.set_cons_succ]
  refine tkd (i := 3) (v := .pointer (some ⟨w.heap.size, 3, none⟩)) rfl rfl (by kernel_rfl) (by kernel_rfl) (by kernel_rfl) (fun _ _ _ h => h) (Or.inl ⟨by rfl, fun wq hSw => by skip; go_simp⟩) hS ?_
  simp only [List.setIfInBounds_toArray, List.set_cons_zero, List.set_cons_succ]
  refine tkd (i := 4) (v := .slice a3 o.imports.length c3) rfl rfl (by kernel_rfl) (by kernel_rfl) (by kernel_rfl) (fun _ _ _ h => h) (Or.inl ⟨by rfl, fun wq hSw => by have q := keep m3 hSw; go_simp⟩) hS ?_
  simp only [List.setIfInBounds_toArray, List.set_cons_zero, List.set_cons_succ]
  refine tkd (i := 5) (v := .int .i64 (o.imports.length : Int)) rfl rfl (by kernel_rfl) (by kernel_rfl) (by kernel_rfl) (fun _ _ _ h => h) (Or.inl ⟨by rfl, fun wq hSw => by skip; go_simp⟩) hS ?_
  simp only [List.setIfInBounds_toArray, List.set_cons_zero, List.set_cons_succ]
  refine wpAnyH_lay [2, 6, 7, 8, 9] [(12, 2), (16, 6), (17, 7), (18, 8), (3, 9)] (fun i v W2 => match i with | 2 => v = .string T2 | 6 => RowI v W2 [(o.imports.length : Int)] | 7 => v = .string T7 | 8 => v = .string (T2 ++ T7) | _ => v = .string (T2 ++ T7)) (by kernel_rfl) (by rfl) (by kernel_rfl) (by decide) (by kernel_rfl) hS ?_ ?_ ?_
  · intro j v W1 W2 hb h
    split at h
    all_goals first | exact h | exact h.below hb
  · skip
    refine Steps.consK [] rfl trivial (fun U W1 hS1 hR K hK => ?_) ?_
    · skip
      have hcc := d2 W1 (hm1.to.trans (hS1.mono hm1.to.size))
      simp only [layS, putK, List.foldr, List.foldl, List.setIfInBounds_toArray, List.set_cons_zero, List.set_cons_succ, reduceIte, Nat.reduceEqDiff]
      go_simp
      go_at_call 23
      refine hcc.mono ?_
      rintro e W2 ⟨rfl, hb⟩
      go_wp2
      have hk := hK.out (.string T2) W2 (hS1.trans (hb.mono hS1.size)) hb rfl
      simp only [layS, putK, List.foldr, List.foldl, List.setIfInBounds_toArray, List.set_cons_zero, List.set_cons_succ, reduceIte, Nat.reduceEqDiff] at hk
      exact hk
    refine Steps.consK [] rfl trivial (fun U W1 hS1 hR K hK => ?_) ?_
    · skip
      simp only [layS, putK, List.foldr, List.foldl, List.setIfInBounds_toArray, List.set_cons_zero, List.set_cons_succ, reduceIte, Nat.reduceEqDiff]
      go_simp
      have hk := hK.out _ _ (hS1.alloc hS1.size _) ((Below.refl _ _).alloc (Nat.le_refl _) _) (RowI.new W1 [(o.imports.length : Int)])
      simp only [layS, putK, List.foldr, List.foldl, List.setIfInBounds_toArray, List.set_cons_zero, List.set_cons_succ, reduceIte, Nat.reduceEqDiff] at hk
      exact hk
    refine Steps.consK [] rfl trivial (fun U W1 hS1 hR K hK => ?_) ?_
    · skip
      have hcc := d7 _ W1 (hR 6 (by kernel_rfl))
      simp only [layS, putK, List.foldr, List.foldl, List.setIfInBounds_toArray, List.set_cons_zero, List.set_cons_succ, reduceIte, Nat.reduceEqDiff]
      go_simp
      go_at_call 24
      refine hcc.mono ?_
      rintro e W2 ⟨rfl, hb⟩
      go_wp2
      have hk := hK.out (.string T7) W2 (hS1.trans (hb.mono hS1.size)) hb rfl
      simp only [layS, putK, List.foldr, List.foldl, List.setIfInBounds_toArray, List.set_cons_zero, List.set_cons_succ, reduceIte, Nat.reduceEqDiff] at hk
      exact hk
    refine Steps.consK [(2, .string T2), (7, .string T7)] rfl ⟨⟨by kernel_rfl, fun _ _ h => h⟩, ⟨by kernel_rfl, fun _ _ h => h⟩, trivial⟩ (fun U W1 hS1 hR K hK => ?_) ?_
    · skip
      simp only [layS, putK, List.foldr, List.foldl, List.setIfInBounds_toArray, List.set_cons_zero, List.set_cons_succ, reduceIte, Nat.reduceEqDiff]
      go_simp
      rw [if_neg (by first | omega | (simp only [ByteArray.size_append]; omega))]
      go_simp
      have hk := hK.out (.string (T2 ++ T7)) W1 hS1 (Below.refl _ _) rfl
      simp only [layS, putK, List.foldr, List.foldl, List.setIfInBounds_toArray, List.set_cons_zero, List.set_cons_succ, reduceIte, Nat.reduceEqDiff] at hk
      exact hk
    refine Steps.consK [(8, .string (T2 ++ T7))] rfl ⟨⟨by kernel_rfl, fun _ _ h => h⟩, trivial⟩ (fun U W1 hS1 hR K hK => ?_) Steps.nil
    · skip
      simp only [layS, putK, List.foldr, List.foldl, List.setIfInBounds_toArray, List.set_cons_zero, List.set_cons_succ, reduceIte, Nat.reduceEqDiff]
      go_simp
      have hk := hK.out (.string (T2 ++ T7)) W1 hS1 (Below.refl _ _) rfl
      simp only [layS, putK, List.foldr, List.foldl, List.setIfInBounds_toArray, List.set_cons_zero, List.set_cons_succ, reduceIte, Nat.reduceEqDiff] at hk
      exact hk
  · intro U W1 hS1 hR
    have hdd : U 9 = .string (T2 ++ T7) := hR 9 (by simp)
    simp only [layS, putK, List.foldr, List.foldl, List.setIfInBounds_toArray, List.set_cons_zero, List.set_cons_succ, reduceIte, Nat.reduceEqDiff]
    rw [hdd]
    clear hdd hR
    replace hm1 := hm1.below hS1
    clear hS1 hS m0 m1 m2 m3 d2 d7
    clear z2 z7
    generalize T2 ++ T7 = S1 at *
    clear T2 T7
    have m3 := hm1.bx.cell 3 rfl
    go_wp2
    clear m3
    have hm := hm1
    have HE1 := HE0
    clear hm1 HE0
    go_loopw [4, 3] (fun t s wr => ∃ (j : Nat) (Sj : ByteArray), j ≤ o.imports.length ∧ t = .int .i64 j ∧ s = .string Sj ∧ Hid (Sj = tx ((faceB o.face ++ numB o.imports.length) ++ ((o.imports.take j).map faceB).flatten)) ∧ MonoF w wr #[.string o.face.module, .slice a1 o.face.vars.length c1, .slice a2 o.face.procs.length c2, .slice a3 o.imports.length c3, .slice a4 o.code.length c4, .slice a5 o.relocs.length c5, .slice a6 o.procs.length c6, .slice a7 o.lows.length c7, .slice a8 o.highs.length c8, .int .i64 o.low, .int .i64 o.high, .int .i64 o.lowF, .int .i64 o.highF] 31) (fun t _ _ => o.imports.length - (intOf t).toNat)
    case atStart => exact ⟨0, S1, Nat.zero_le _, rfl, rfl, HE1, hm⟩
    case round =>
      clear HE1 hm
      obtain ⟨j, Sj, hj, rfl, rfl, HE, hm⟩ := hrel
      have mm := hm.bx.cell 3 rfl
      by_cases hlt : j < o.imports.length
      · obtain ⟨_, _, e0, -, hc0⟩ := hi.out
        cases e0
        obtain ⟨g, o2, rfl, hcc⟩ := hc0 (by intro e; rw [e] at hlt; simp at hlt)
        obtain ⟨k0, ⟨u1, k1, hu1⟩, ⟨u2, k2, hu2⟩⟩ := hcc j hlt
        replace k0 := keep k0 hm.to
        replace k1 := keep k1 hm.to
        replace k2 := keep k2 hm.to
        have hma := GI.out _ (List.getElem_mem hlt)
        have HE2 : Hid (tx ((faceB o.face ++ numB o.imports.length) ++ ((o.imports.take (j + 1)).map faceB).flatten) = tx (((faceB o.face ++ numB o.imports.length) ++ ((o.imports.take j).map faceB).flatten) ++ faceB o.imports[j])) := by show _ = _; rw [take_flat faceB _ j hlt]; simp only [List.append_assoc]
        have zj : Sj.size ≤ 200000000 := by
          have h0 := flat_take_le faceB o.imports j
          have h1 := HL.out
          rw [HE.out, tx_size]
          simp only [objB, listB, List.length_append] at h1 ⊢
          omega
        have z9 := (okFace hma).le
        have d9 := rFaceY o.imports[j] u1 u2 wr (hu1.below hm.to) (hu2.below hm.to) hma
        clear hcc hc0 hu1 hu2 hma
        generalize o.imports[j] = y at *
        obtain ⟨T9, hT9⟩ : ∃ A, A = tx (faceB y) := ⟨_, rfl⟩
        rw [← hT9] at d9
        rw [← tx_size, ← hT9] at z9
        have HE3 : Hid (Sj ++ T9 = tx ((faceB o.face ++ numB o.imports.length) ++ ((o.imports.take (j + 1)).map faceB).flatten)) := by
          show _ = _
          rw [HE2.out, HE.out, hT9, tx_app]
        clear hT9 HE HE2
        unfold faceV at d9
        have hsz : Sj.size + T9.size ≤ 9223372036854775807 := by omega
        go_wp2_with (go_at_call 23; refine d9.mono ?_; rintro e W2 ⟨rfl, hb⟩)
        replace hm := hm.below hb
        clear hb d9 hsz
        generalize Sj ++ T9 = S9 at *
        go_roundw
        case rel => exact ⟨j + 1, S9, by omega, by go_num, rfl, HE3, hm⟩
        case measure => simp [intOf]; omega
      · have hjl : j = o.imports.length := by omega
        subst hjl
        rw [List.take_length] at HE
        obtain ⟨T5, hT5⟩ : ∃ A, A = tx (numB (o.code.length : Int)) := ⟨_, rfl⟩
        have z5 : T5.size ≤ 8 := by rw [hT5, tx_size, numB_len]; omega
        have zj : Sj.size ≤ 200000000 := by
          have h1 := HL.out
          rw [HE.out, tx_size]
          simp only [objB, listB, List.length_append] at h1 ⊢
          omega
        have d5 := rNumbers1 (o.code.length : Int) ⟨by omega, by omega⟩ wr
        rw [← hT5] at d5
        have HE1 : Hid (Sj ++ T5 = tx ((faceB o.face ++ (listB faceB o.imports ++ numB o.code.length)) ++ ((o.code.take 0).map insB).flatten)) := by
          show _ = _
          rw [HE.out, hT5, tx_app]
          simp only [listB, List.append_assoc, List.take_zero, List.map_nil, List.flatten_nil, List.append_nil]
        clear hT5 HE hlt
        have m2 := hm.bx.cell 4 rfl
        have hsz : Sj.size + T5.size ≤ 9223372036854775807 := by omega
        go_wp2_with (go_at_call 24; refine d5.mono ?_; rintro e W2 ⟨rfl, hb⟩)
        clear d5
        replace hm := hm.below hb
        clear hb mm m2 hsz
        generalize Sj ++ T5 = S1 at *
        clear zj z5
        go_loopw [6, 3] (fun t s wr => ∃ (j : Nat) (Sj : ByteArray), j ≤ o.code.length ∧ t = .int .i64 j ∧ s = .string Sj ∧ Hid (Sj = tx ((faceB o.face ++ (listB faceB o.imports ++ numB o.code.length)) ++ ((o.code.take j).map insB).flatten)) ∧ MonoF w wr #[.string o.face.module, .slice a1 o.face.vars.length c1, .slice a2 o.face.procs.length c2, .slice a3 o.imports.length c3, .slice a4 o.code.length c4, .slice a5 o.relocs.length c5, .slice a6 o.procs.length c6, .slice a7 o.lows.length c7, .slice a8 o.highs.length c8, .int .i64 o.low, .int .i64 o.high, .int .i64 o.lowF, .int .i64 o.highF] 31) (fun t _ _ => o.code.length - (intOf t).toNat)
        case atStart => exact ⟨0, S1, Nat.zero_le _, rfl, rfl, HE1, hm⟩
        case round =>
          clear HE1 hm
          obtain ⟨j, Sj, hj, rfl, rfl, HE, hm⟩ := hrel
          have mm := hm.bx.cell 4 rfl
          by_cases hlt : j < o.code.length
          · obtain ⟨_, _, e0, -, hc0⟩ := hcd.out
            cases e0
            obtain ⟨g, o2, rfl, hcc⟩ := hc0 (by intro e; rw [e] at hlt; simp at hlt)
            obtain ⟨k0, k1, k2, k3, k4⟩ := hcc j hlt
            replace k0 := keep k0 hm.to
            replace k1 := keep k1 hm.to
            replace k2 := keep k2 hm.to
            replace k3 := keep k3 hm.to
            replace k4 := keep k4 hm.to
            obtain ⟨hma, hn1⟩ := GC.out _ (List.getElem_mem hlt)
            have HE2 : Hid (tx ((faceB o.face ++ (listB faceB o.imports ++ numB o.code.length)) ++ ((o.code.take (j + 1)).map insB).flatten) = tx (((faceB o.face ++ (listB faceB o.imports ++ numB o.code.length)) ++ ((o.code.take j).map insB).flatten) ++ insB o.code[j])) := by show _ = _; rw [take_flat insB _ j hlt]; simp only [List.append_assoc]
            have zj : Sj.size ≤ 200000000 := by
              have h0 := flat_take_le insB o.code j
              have h1 := HL.out
              rw [HE.out, tx_size]
              simp only [objB, listB, List.length_append] at h1 ⊢
              omega
            clear hcc hc0
            generalize o.code[j] = y at *
            obtain ⟨op1, aa1, bb1, cc1, nn1⟩ := y
            obtain ⟨i1, i2, i3, i4⟩ := has_i hma
            dsimp only at k0 k1 k2 k3 k4 hn1 i1 i2 i3 i4
            obtain ⟨T10, hT10⟩ : ∃ A, A = tx (intsS [op1, aa1, bb1, cc1]) := ⟨_, rfl⟩
            obtain ⟨T14, hT14⟩ : ∃ A, A = tx (numB nn1) := ⟨_, rfl⟩
            have z10 : T10.size ≤ 32 := by rw [hT10, tx_size, intsS_len]; simp
            have z14 : T14.size ≤ 8 := by rw [hT14, tx_size, numB_len]; omega
            have d10 := fun v W h => rNumS (v := v) (w := W) (l := [op1, aa1, bb1, cc1]) (by simp) (by simp; exact ⟨i1, i2, i3, i4⟩) h
            rw [← hT10] at d10
            have d14 : ∀ W, Calls Tryz.prog 25 #[.int .i64 nn1] W fun e w' => e = .returned (.string T14) ∧ Below W.heap.size W w' := fun W => by rw [hT14]; exact rNumber nn1 hn1 W
            have HE3 : Hid (Sj ++ T10 ++ T14 = tx ((faceB o.face ++ (listB faceB o.imports ++ numB o.code.length)) ++ ((o.code.take (j + 1)).map insB).flatten)) := by
              show _ = _
              rw [HE2.out, HE.out, hT10, hT14, tx_app, tx_app]
              simp only [insB, intsB, intsS, List.map_cons, List.map_nil, List.flatten_cons, List.flatten_nil, List.append_nil, List.append_assoc]
            clear hT10 hT14 HE HE2 hma i1 i2 i3 i4 hn1
            go_wp2
            have hm2 := hm.below (((Below.refl _ _).alloc (Nat.le_refl _) (.cells #[.int .i64 op1, .int .i64 aa1, .int .i64 bb1, .int .i64 cc1, .int .i64 nn1] 55)).drew)
            have hx := (BoxC.new wr #[.int .i64 op1, .int .i64 aa1, .int .i64 bb1, .int .i64 cc1, .int .i64 nn1] 55).below (Below.refl _ _).drew
            refine wp_region_held_drew (S := fun W => Below (wr.alloc (.cells #[.int .i64 op1, .int .i64 aa1, .int .i64 bb1, .int .i64 cc1, .int .i64 nn1] 55)).drew.heap.size (wr.alloc (.cells #[.int .i64 op1, .int .i64 aa1, .int .i64 bb1, .int .i64 cc1, .int .i64 nn1] 55)).drew W) (by kernel_rfl) (Below.refl _ _) (fun hS => ?_)
            generalize (wr.alloc (.cells #[.int .i64 op1, .int .i64 aa1, .int .i64 bb1, .int .i64 cc1, .int .i64 nn1] 55)).drew = W at hS hm2 hx ⊢
            have n0 := hx.cell 0 rfl
            have n1 := hx.cell 1 rfl
            have n2 := hx.cell 2 rfl
            have n3 := hx.cell 3 rfl
            have n4 := hx.cell 4 rfl
            clear hx k0 k1 k2 k3 k4 mm hm
            refine tkd (i := 0) (v := .string Sj) rfl rfl (by kernel_rfl) (by kernel_rfl) (by kernel_rfl) (fun _ _ _ h => h) (Or.inl ⟨by rfl, fun wq hSw => by skip; go_simp⟩) hS ?_
            simp only [List.setIfInBounds_toArray, List.set_cons_zero, List.set_cons_succ]
            refine tkd (i := 1) (v := .pointer (some ⟨wr.heap.size, 0, none⟩)) rfl rfl (by kernel_rfl) (by kernel_rfl) (by kernel_rfl) (fun _ _ _ h => h) (Or.inl ⟨by rfl, fun wq hSw => by skip; go_simp⟩) hS ?_
            simp only [List.setIfInBounds_toArray, List.set_cons_zero, List.set_cons_succ]
            refine tkd (i := 2) (v := .int .i64 op1) rfl rfl (by kernel_rfl) (by kernel_rfl) (by kernel_rfl) (fun _ _ _ h => h) (Or.inl ⟨by rfl, fun wq hSw => by have q := keep n0 hSw; go_simp⟩) hS ?_
            simp only [List.setIfInBounds_toArray, List.set_cons_zero, List.set_cons_succ]
            refine tkd (i := 3) (v := .pointer (some ⟨wr.heap.size, 1, none⟩)) rfl rfl (by kernel_rfl) (by kernel_rfl) (by kernel_rfl) (fun _ _ _ h => h) (Or.inl ⟨by rfl, fun wq hSw => by skip; go_simp⟩) hS ?_
            simp only [List.setIfInBounds_toArray, List.set_cons_zero, List.set_cons_succ]
            refine tkd (i := 4) (v := .int .i64 aa1) rfl rfl (by kernel_rfl) (by kernel_rfl) (by kernel_rfl) (fun _ _ _ h => h) (Or.inl ⟨by rfl, fun wq hSw => by have q := keep n1 hSw; go_simp⟩) hS ?_
            simp only [List.setIfInBounds_toArray, List.set_cons_zero, List.set_cons_succ]
            refine tkd (i := 5) (v := .pointer (some ⟨wr.heap.size, 2, none⟩)) rfl rfl (by kernel_rfl) (by kernel_rfl) (by kernel_rfl) (fun _ _ _ h => h) (Or.inl ⟨by rfl, fun wq hSw => by skip; go_simp⟩) hS ?_
            simp only [List.setIfInBounds_toArray, List.set_cons_zero, List.set_cons_succ]
            refine tkd (i := 6) (v := .int .i64 bb1) rfl rfl (by kernel_rfl) (by kernel_rfl) (by kernel_rfl) (fun _ _ _ h => h) (Or.inl ⟨by rfl, fun wq hSw => by have q := keep n2 hSw; go_simp⟩) hS ?_
            simp only [List.setIfInBounds_toArray, List.set_cons_zero, List.set_cons_succ]
            refine tkd (i := 7) (v := .pointer (some ⟨wr.heap.size, 3, none⟩)) rfl rfl (by kernel_rfl) (by kernel_rfl) (by kernel_rfl) (fun _ _ _ h => h) (Or.inl ⟨by rfl, fun wq hSw => by skip; go_simp⟩) hS ?_
            simp only [List.setIfInBounds_toArray, List.set_cons_zero, List.set_cons_succ]
            refine tkd (i := 8) (v := .int .i64 cc1) rfl rfl (by kernel_rfl) (by kernel_rfl) (by kernel_rfl) (fun _ _ _ h => h) (Or.inl ⟨by rfl, fun wq hSw => by have q := keep n3 hSw; go_simp⟩) hS ?_
            simp only [List.setIfInBounds_toArray, List.set_cons_zero, List.set_cons_succ]
            refine tkd (i := 12) (v := .pointer (some ⟨wr.heap.size, 4, none⟩)) rfl rfl (by kernel_rfl) (by kernel_rfl) (by kernel_rfl) (fun _ _ _ h => h) (Or.inl ⟨by rfl, fun wq hSw => by skip; go_simp⟩) hS ?_
            simp only [List.setIfInBounds_toArray, List.set_cons_zero, List.set_cons_succ]
            refine tkd (i := 13) (v := .int .i64 nn1) rfl rfl (by kernel_rfl) (by kernel_rfl) (by kernel_rfl) (fun _ _ _ h => h) (Or.inl ⟨by rfl, fun wq hSw => by have q := keep n4 hSw; go_simp⟩) hS ?_
            simp only [List.setIfInBounds_toArray, List.set_cons_zero, List.set_cons_succ]
            refine wpAnyH_lay [9, 10, 11, 14, 15, 16] [(63, 9), (64, 10), (65, 11), (68, 14), (69, 15), (3, 16)] (fun i v W2 => match i with | 9 => RowI v W2 [op1, aa1, bb1, cc1] | 10 => v = .string T10 | 11 => v = .string (Sj ++ T10) | 14 => v = .string T14 | 15 => v = .string (Sj ++ T10 ++ T14) | _ => v = .string (Sj ++ T10 ++ T14)) (by kernel_rfl) (by rfl) (by kernel_rfl) (by decide) (by kernel_rfl) hS ?_ ?_ ?_
            · intro j v W1 W2 hb h
              split at h
              all_goals first | exact h | exact h.below hb
            · skip
              refine Steps.consK [] rfl trivial (fun U W1 hS1 hR K hK => ?_) ?_
              · skip
                simp only [layS, putK, List.foldr, List.foldl, List.setIfInBounds_toArray, List.set_cons_zero, List.set_cons_succ, reduceIte, Nat.reduceEqDiff]
                go_simp
                have hk := hK.out _ _ (hS1.alloc hS1.size _) ((Below.refl _ _).alloc (Nat.le_refl _) _) (RowI.new W1 [op1, aa1, bb1, cc1])
                simp only [layS, putK, List.foldr, List.foldl, List.setIfInBounds_toArray, List.set_cons_zero, List.set_cons_succ, reduceIte, Nat.reduceEqDiff] at hk
                exact hk
              refine Steps.consK [] rfl trivial (fun U W1 hS1 hR K hK => ?_) ?_
              · skip
                have hcc := d10 _ W1 (hR 9 (by kernel_rfl))
                simp only [layS, putK, List.foldr, List.foldl, List.setIfInBounds_toArray, List.set_cons_zero, List.set_cons_succ, reduceIte, Nat.reduceEqDiff]
                go_simp
                go_at_call 24
                refine hcc.mono ?_
                rintro e W2 ⟨rfl, hb⟩
                go_wp2
                have hk := hK.out (.string T10) W2 (hS1.trans (hb.mono hS1.size)) hb rfl
                simp only [layS, putK, List.foldr, List.foldl, List.setIfInBounds_toArray, List.set_cons_zero, List.set_cons_succ, reduceIte, Nat.reduceEqDiff] at hk
                exact hk
              refine Steps.consK [(10, .string T10)] rfl ⟨⟨by kernel_rfl, fun _ _ h => h⟩, trivial⟩ (fun U W1 hS1 hR K hK => ?_) ?_
              · skip
                simp only [layS, putK, List.foldr, List.foldl, List.setIfInBounds_toArray, List.set_cons_zero, List.set_cons_succ, reduceIte, Nat.reduceEqDiff]
                go_simp
                rw [if_neg (by first | omega | (simp only [ByteArray.size_append]; omega))]
                go_simp
                have hk := hK.out (.string (Sj ++ T10)) W1 hS1 (Below.refl _ _) rfl
                simp only [layS, putK, List.foldr, List.foldl, List.setIfInBounds_toArray, List.set_cons_zero, List.set_cons_succ, reduceIte, Nat.reduceEqDiff] at hk
                exact hk
              refine Steps.consK [] rfl trivial (fun U W1 hS1 hR K hK => ?_) ?_
              · skip
                have hcc := d14 W1
                simp only [layS, putK, List.foldr, List.foldl, List.setIfInBounds_toArray, List.set_cons_zero, List.set_cons_succ, reduceIte, Nat.reduceEqDiff]
                go_simp
                go_at_call 25
                refine hcc.mono ?_
                rintro e W2 ⟨rfl, hb⟩
                go_wp2
                have hk := hK.out (.string T14) W2 (hS1.trans (hb.mono hS1.size)) hb rfl
                simp only [layS, putK, List.foldr, List.foldl, List.setIfInBounds_toArray, List.set_cons_zero, List.set_cons_succ, reduceIte, Nat.reduceEqDiff] at hk
                exact hk
              refine Steps.consK [(11, .string (Sj ++ T10)), (14, .string T14)] rfl ⟨⟨by kernel_rfl, fun _ _ h => h⟩, ⟨by kernel_rfl, fun _ _ h => h⟩, trivial⟩ (fun U W1 hS1 hR K hK => ?_) ?_
              · skip
                simp only [layS, putK, List.foldr, List.foldl, List.setIfInBounds_toArray, List.set_cons_zero, List.set_cons_succ, reduceIte, Nat.reduceEqDiff]
                go_simp
                rw [if_neg (by first | omega | (simp only [ByteArray.size_append]; omega))]
                go_simp
                have hk := hK.out (.string (Sj ++ T10 ++ T14)) W1 hS1 (Below.refl _ _) rfl
                simp only [layS, putK, List.foldr, List.foldl, List.setIfInBounds_toArray, List.set_cons_zero, List.set_cons_succ, reduceIte, Nat.reduceEqDiff] at hk
                exact hk
              refine Steps.consK [(15, .string (Sj ++ T10 ++ T14))] rfl ⟨⟨by kernel_rfl, fun _ _ h => h⟩, trivial⟩ (fun U W1 hS1 hR K hK => ?_) Steps.nil
              · skip
                simp only [layS, putK, List.foldr, List.foldl, List.setIfInBounds_toArray, List.set_cons_zero, List.set_cons_succ, reduceIte, Nat.reduceEqDiff]
                go_simp
                have hk := hK.out (.string (Sj ++ T10 ++ T14)) W1 hS1 (Below.refl _ _) rfl
                simp only [layS, putK, List.foldr, List.foldl, List.setIfInBounds_toArray, List.set_cons_zero, List.set_cons_succ, reduceIte, Nat.reduceEqDiff] at hk
                exact hk
            · intro U W1 hS1 hR
              have hdd : U 16 = .string (Sj ++ T10 ++ T14) := hR 16 (by simp)
              simp only [layS, putK, List.foldr, List.foldl, List.setIfInBounds_toArray, List.set_cons_zero, List.set_cons_succ, reduceIte, Nat.reduceEqDiff]
              rw [hdd]
              clear hdd hR
              replace hm2 := hm2.below hS1
              clear hS1 hS n0 n1 n2 n3 n4 d10 d14
              generalize Sj ++ T10 ++ T14 = S9 at *
              go_wp2
              go_roundw
              case rel => exact ⟨j + 1, S9, by omega, by go_num, rfl, HE3, hm2⟩
              case measure => simp [intOf]; omega
          · have hjl : j = o.code.length := by omega
            subst hjl
            rw [List.take_length] at HE
            obtain ⟨T5, hT5⟩ : ∃ A, A = tx (numB (o.relocs.length : Int)) := ⟨_, rfl⟩
            have z5 : T5.size ≤ 8 := by rw [hT5, tx_size, numB_len]; omega
            have zj : Sj.size ≤ 200000000 := by
              have h1 := HL.out
              rw [HE.out, tx_size]
              simp only [objB, listB, List.length_append] at h1 ⊢
              omega
            have d5 := rNumbers1 (o.relocs.length : Int) ⟨by omega, by omega⟩ wr
            rw [← hT5] at d5
            have HE1 : Hid (Sj ++ T5 = tx ((faceB o.face ++ (listB faceB o.imports ++ (listB insB o.code ++ numB o.relocs.length))) ++ ((o.relocs.take 0).map relBy).flatten)) := by
              show _ = _
              rw [HE.out, hT5, tx_app]
              simp only [listB, List.append_assoc, List.take_zero, List.map_nil, List.flatten_nil, List.append_nil]
            clear hT5 HE hlt
            have m2 := hm.bx.cell 5 rfl
            have hsz : Sj.size + T5.size ≤ 9223372036854775807 := by omega
            go_wp2_with (go_at_call 24; refine d5.mono ?_; rintro e W2 ⟨rfl, hb⟩)
            clear d5
            replace hm := hm.below hb
            clear hb mm m2 hsz
            generalize Sj ++ T5 = S1 at *
            clear zj z5
            go_loopw [8, 3] (fun t s wr => ∃ (j : Nat) (Sj : ByteArray), j ≤ o.relocs.length ∧ t = .int .i64 j ∧ s = .string Sj ∧ Hid (Sj = tx ((faceB o.face ++ (listB faceB o.imports ++ (listB insB o.code ++ numB o.relocs.length))) ++ ((o.relocs.take j).map relBy).flatten)) ∧ MonoF w wr #[.string o.face.module, .slice a1 o.face.vars.length c1, .slice a2 o.face.procs.length c2, .slice a3 o.imports.length c3, .slice a4 o.code.length c4, .slice a5 o.relocs.length c5, .slice a6 o.procs.length c6, .slice a7 o.lows.length c7, .slice a8 o.highs.length c8, .int .i64 o.low, .int .i64 o.high, .int .i64 o.lowF, .int .i64 o.highF] 31) (fun t _ _ => o.relocs.length - (intOf t).toNat)
            case atStart => exact ⟨0, S1, Nat.zero_le _, rfl, rfl, HE1, hm⟩
            case round =>
              clear HE1 hm
              obtain ⟨j, Sj, hj, rfl, rfl, HE, hm⟩ := hrel
              have mm := hm.bx.cell 5 rfl
              by_cases hlt : j < o.relocs.length
              · obtain ⟨_, _, e0, -, hc0⟩ := hrl.out
                cases e0
                obtain ⟨g, o2, rfl, hcc⟩ := hc0 (by intro e; rw [e] at hlt; simp at hlt)
                obtain ⟨k0, k1, k2, k3⟩ := hcc j hlt
                replace k0 := keep k0 hm.to
                replace k1 := keep k1 hm.to
                replace k2 := keep k2 hm.to
                replace k3 := keep k3 hm.to
                obtain ⟨⟨i1, i2, i3⟩, i4⟩ := GR.out _ (List.getElem_mem hlt)
                have HE2 : Hid (tx ((faceB o.face ++ (listB faceB o.imports ++ (listB insB o.code ++ numB o.relocs.length))) ++ ((o.relocs.take (j + 1)).map relBy).flatten) = tx (((faceB o.face ++ (listB faceB o.imports ++ (listB insB o.code ++ numB o.relocs.length))) ++ ((o.relocs.take j).map relBy).flatten) ++ relBy o.relocs[j])) := by show _ = _; rw [take_flat relBy _ j hlt]; simp only [List.append_assoc]
                have zj : Sj.size ≤ 200000000 := by
                  have h0 := flat_take_le relBy o.relocs j
                  have h1 := HL.out
                  rw [HE.out, tx_size]
                  simp only [objB, listB, List.length_append] at h1 ⊢
                  omega
                clear hcc hc0
                generalize o.relocs[j] = y at *
                obtain ⟨at1, kd1, mo1, nm1⟩ := y
                dsimp only at k0 k1 k2 k3 i1 i2 i3 i4
                obtain ⟨T6, hT6⟩ : ∃ A, A = tx (intsS [at1, kd1]) := ⟨_, rfl⟩
                obtain ⟨T10, hT10⟩ : ∃ A, A = tx (textB mo1) := ⟨_, rfl⟩
                obtain ⟨T14, hT14⟩ : ∃ A, A = tx (textB nm1) := ⟨_, rfl⟩
                have z6 : T6.size ≤ 16 := by rw [hT6, tx_size, intsS_len]; simp
                have z10 : T10.size ≤ 24 := by rw [hT10, tx_size, textB_len]; omega
                have z14 : T14.size ≤ 24 := by rw [hT14, tx_size, textB_len]; omega
                have d6 := fun v W h => rNumS (v := v) (w := W) (l := [at1, kd1]) (by simp) (by simp; exact ⟨i4, i1⟩) h
                rw [← hT6] at d6
                have d10 := fun W => rText mo1 (by omega) W
                rw [← hT10] at d10
                have d14 := fun W => rText nm1 (by omega) W
                rw [← hT14] at d14
                have HE3 : Hid (Sj ++ T6 ++ T10 ++ T14 = tx ((faceB o.face ++ (listB faceB o.imports ++ (listB insB o.code ++ numB o.relocs.length))) ++ ((o.relocs.take (j + 1)).map relBy).flatten)) := by
                  show _ = _
                  rw [HE2.out, HE.out, hT6, hT10, hT14, tx_app, tx_app, tx_app]
                  simp only [relBy, intsB, intsS, List.map_cons, List.map_nil, List.flatten_cons, List.flatten_nil, List.append_nil, List.append_assoc]
                clear hT6 hT10 hT14 HE HE2 i1 i4
                go_wp2
                have hm2 := hm.below (((Below.refl _ _).alloc (Nat.le_refl _) (.cells #[.int .i64 at1, .int .i64 kd1, .string mo1, .string nm1] 57)).drew)
                have hx := (BoxC.new wr #[.int .i64 at1, .int .i64 kd1, .string mo1, .string nm1] 57).below (Below.refl _ _).drew
                refine wp_region_held_drew (S := fun W => Below (wr.alloc (.cells #[.int .i64 at1, .int .i64 kd1, .string mo1, .string nm1] 57)).drew.heap.size (wr.alloc (.cells #[.int .i64 at1, .int .i64 kd1, .string mo1, .string nm1] 57)).drew W) (by kernel_rfl) (Below.refl _ _) (fun hS => ?_)
                generalize (wr.alloc (.cells #[.int .i64 at1, .int .i64 kd1, .string mo1, .string nm1] 57)).drew = W at hS hm2 hx ⊢
                have n0 := hx.cell 0 rfl
                have n1 := hx.cell 1 rfl
                have n2 := hx.cell 2 rfl
                have n3 := hx.cell 3 rfl
                clear hx k0 k1 k2 k3 mm hm
                refine tkd (i := 0) (v := .string Sj) rfl rfl (by kernel_rfl) (by kernel_rfl) (by kernel_rfl) (fun _ _ _ h => h) (Or.inl ⟨by rfl, fun wq hSw => by skip; go_simp⟩) hS ?_
                simp only [List.setIfInBounds_toArray, List.set_cons_zero, List.set_cons_succ]
                refine tkd (i := 1) (v := .pointer (some ⟨wr.heap.size, 0, none⟩)) rfl rfl (by kernel_rfl) (by kernel_rfl) (by kernel_rfl) (fun _ _ _ h => h) (Or.inl ⟨by rfl, fun wq hSw => by skip; go_simp⟩) hS ?_
                simp only [List.setIfInBounds_toArray, List.set_cons_zero, List.set_cons_succ]
                refine tkd (i := 2) (v := .int .i64 at1) rfl rfl (by kernel_rfl) (by kernel_rfl) (by kernel_rfl) (fun _ _ _ h => h) (Or.inl ⟨by rfl, fun wq hSw => by have q := keep n0 hSw; go_simp⟩) hS ?_
                simp only [List.setIfInBounds_toArray, List.set_cons_zero, List.set_cons_succ]
                refine tkd (i := 3) (v := .pointer (some ⟨wr.heap.size, 1, none⟩)) rfl rfl (by kernel_rfl) (by kernel_rfl) (by kernel_rfl) (fun _ _ _ h => h) (Or.inl ⟨by rfl, fun wq hSw => by skip; go_simp⟩) hS ?_
                simp only [List.setIfInBounds_toArray, List.set_cons_zero, List.set_cons_succ]
                refine tkd (i := 4) (v := .int .i64 kd1) rfl rfl (by kernel_rfl) (by kernel_rfl) (by kernel_rfl) (fun _ _ _ h => h) (Or.inl ⟨by rfl, fun wq hSw => by have q := keep n1 hSw; go_simp⟩) hS ?_
                simp only [List.setIfInBounds_toArray, List.set_cons_zero, List.set_cons_succ]
                refine tkd (i := 8) (v := .pointer (some ⟨wr.heap.size, 2, none⟩)) rfl rfl (by kernel_rfl) (by kernel_rfl) (by kernel_rfl) (fun _ _ _ h => h) (Or.inl ⟨by rfl, fun wq hSw => by skip; go_simp⟩) hS ?_
                simp only [List.setIfInBounds_toArray, List.set_cons_zero, List.set_cons_succ]
                refine tkd (i := 9) (v := .string mo1) rfl rfl (by kernel_rfl) (by kernel_rfl) (by kernel_rfl) (fun _ _ _ h => h) (Or.inl ⟨by rfl, fun wq hSw => by have q := keep n2 hSw; go_simp⟩) hS ?_
                simp only [List.setIfInBounds_toArray, List.set_cons_zero, List.set_cons_succ]
                refine tkd (i := 12) (v := .pointer (some ⟨wr.heap.size, 3, none⟩)) rfl rfl (by kernel_rfl) (by kernel_rfl) (by kernel_rfl) (fun _ _ _ h => h) (Or.inl ⟨by rfl, fun wq hSw => by skip; go_simp⟩) hS ?_
                simp only [List.setIfInBounds_toArray, List.set_cons_zero, List.set_cons_succ]
                refine tkd (i := 13) (v := .string nm1) rfl rfl (by kernel_rfl) (by kernel_rfl) (by kernel_rfl) (fun _ _ _ h => h) (Or.inl ⟨by rfl, fun wq hSw => by have q := keep n3 hSw; go_simp⟩) hS ?_
                simp only [List.setIfInBounds_toArray, List.set_cons_zero, List.set_cons_succ]
                refine wpAnyH_lay [5, 6, 7, 10, 11, 14, 15, 16] [(94, 5), (95, 6), (96, 7), (99, 10), (100, 11), (103, 14), (104, 15), (3, 16)] (fun i v W2 => match i with | 5 => RowI v W2 [at1, kd1] | 6 => v = .string T6 | 7 => v = .string (Sj ++ T6) | 10 => v = .string T10 | 11 => v = .string (Sj ++ T6 ++ T10) | 14 => v = .string T14 | 15 => v = .string (Sj ++ T6 ++ T10 ++ T14) | _ => v = .string (Sj ++ T6 ++ T10 ++ T14)) (by kernel_rfl) (by rfl) (by kernel_rfl) (by decide) (by kernel_rfl) hS ?_ ?_ ?_
                · intro j v W1 W2 hb h
                  split at h
                  all_goals first | exact h | exact h.below hb
                · skip
                  refine Steps.consK [] rfl trivial (fun U W1 hS1 hR K hK => ?_) ?_
                  · skip
                    simp only [layS, putK, List.foldr, List.foldl, List.setIfInBounds_toArray, List.set_cons_zero, List.set_cons_succ, reduceIte, Nat.reduceEqDiff]
                    go_simp
                    have hk := hK.out _ _ (hS1.alloc hS1.size _) ((Below.refl _ _).alloc (Nat.le_refl _) _) (RowI.new W1 [at1, kd1])
                    simp only [layS, putK, List.foldr, List.foldl, List.setIfInBounds_toArray, List.set_cons_zero, List.set_cons_succ, reduceIte, Nat.reduceEqDiff] at hk
                    exact hk
                  refine Steps.consK [] rfl trivial (fun U W1 hS1 hR K hK => ?_) ?_
                  · skip
                    have hcc := d6 _ W1 (hR 5 (by kernel_rfl))
                    simp only [layS, putK, List.foldr, List.foldl, List.setIfInBounds_toArray, List.set_cons_zero, List.set_cons_succ, reduceIte, Nat.reduceEqDiff]
                    go_simp
                    go_at_call 24
                    refine hcc.mono ?_
                    rintro e W2 ⟨rfl, hb⟩
                    go_wp2
                    have hk := hK.out (.string T6) W2 (hS1.trans (hb.mono hS1.size)) hb rfl
                    simp only [layS, putK, List.foldr, List.foldl, List.setIfInBounds_toArray, List.set_cons_zero, List.set_cons_succ, reduceIte, Nat.reduceEqDiff] at hk
                    exact hk
                  refine Steps.consK [(6, .string T6)] rfl ⟨⟨by kernel_rfl, fun _ _ h => h⟩, trivial⟩ (fun U W1 hS1 hR K hK => ?_) ?_
                  · skip
                    simp only [layS, putK, List.foldr, List.foldl, List.setIfInBounds_toArray, List.set_cons_zero, List.set_cons_succ, reduceIte, Nat.reduceEqDiff]
                    go_simp
                    rw [if_neg (by first | omega | (simp only [ByteArray.size_append]; omega))]
                    go_simp
                    have hk := hK.out (.string (Sj ++ T6)) W1 hS1 (Below.refl _ _) rfl
                    simp only [layS, putK, List.foldr, List.foldl, List.setIfInBounds_toArray, List.set_cons_zero, List.set_cons_succ, reduceIte, Nat.reduceEqDiff] at hk
                    exact hk
                  refine Steps.consK [] rfl trivial (fun U W1 hS1 hR K hK => ?_) ?_
                  · skip
                    have hcc := d10 W1
                    simp only [layS, putK, List.foldr, List.foldl, List.setIfInBounds_toArray, List.set_cons_zero, List.set_cons_succ, reduceIte, Nat.reduceEqDiff]
                    go_simp
                    go_at_call 26
                    refine hcc.mono ?_
                    rintro e W2 ⟨rfl, hb⟩
                    go_wp2
                    have hk := hK.out (.string T10) W2 (hS1.trans (hb.mono hS1.size)) hb rfl
                    simp only [layS, putK, List.foldr, List.foldl, List.setIfInBounds_toArray, List.set_cons_zero, List.set_cons_succ, reduceIte, Nat.reduceEqDiff] at hk
                    exact hk
                  refine Steps.consK [(7, .string (Sj ++ T6)), (10, .string T10)] rfl ⟨⟨by kernel_rfl, fun _ _ h => h⟩, ⟨by kernel_rfl, fun _ _ h => h⟩, trivial⟩ (fun U W1 hS1 hR K hK => ?_) ?_
                  · skip
                    simp only [layS, putK, List.foldr, List.foldl, List.setIfInBounds_toArray, List.set_cons_zero, List.set_cons_succ, reduceIte, Nat.reduceEqDiff]
                    go_simp
                    rw [if_neg (by first | omega | (simp only [ByteArray.size_append]; omega))]
                    go_simp
                    have hk := hK.out (.string (Sj ++ T6 ++ T10)) W1 hS1 (Below.refl _ _) rfl
                    simp only [layS, putK, List.foldr, List.foldl, List.setIfInBounds_toArray, List.set_cons_zero, List.set_cons_succ, reduceIte, Nat.reduceEqDiff] at hk
                    exact hk
                  refine Steps.consK [] rfl trivial (fun U W1 hS1 hR K hK => ?_) ?_
                  · skip
                    have hcc := d14 W1
                    simp only [layS, putK, List.foldr, List.foldl, List.setIfInBounds_toArray, List.set_cons_zero, List.set_cons_succ, reduceIte, Nat.reduceEqDiff]
                    go_simp
                    go_at_call 26
                    refine hcc.mono ?_
                    rintro e W2 ⟨rfl, hb⟩
                    go_wp2
                    have hk := hK.out (.string T14) W2 (hS1.trans (hb.mono hS1.size)) hb rfl
                    simp only [layS, putK, List.foldr, List.foldl, List.setIfInBounds_toArray, List.set_cons_zero, List.set_cons_succ, reduceIte, Nat.reduceEqDiff] at hk
                    exact hk
                  refine Steps.consK [(11, .string (Sj ++ T6 ++ T10)), (14, .string T14)] rfl ⟨⟨by kernel_rfl, fun _ _ h => h⟩, ⟨by kernel_rfl, fun _ _ h => h⟩, trivial⟩ (fun U W1 hS1 hR K hK => ?_) ?_
                  · skip
                    simp only [layS, putK, List.foldr, List.foldl, List.setIfInBounds_toArray, List.set_cons_zero, List.set_cons_succ, reduceIte, Nat.reduceEqDiff]
                    go_simp
                    rw [if_neg (by first | omega | (simp only [ByteArray.size_append]; omega))]
                    go_simp
                    have hk := hK.out (.string (Sj ++ T6 ++ T10 ++ T14)) W1 hS1 (Below.refl _ _) rfl
                    simp only [layS, putK, List.foldr, List.foldl, List.setIfInBounds_toArray, List.set_cons_zero, List.set_cons_succ, reduceIte, Nat.reduceEqDiff] at hk
                    exact hk
                  refine Steps.consK [(15, .string (Sj ++ T6 ++ T10 ++ T14))] rfl ⟨⟨by kernel_rfl, fun _ _ h => h⟩, trivial⟩ (fun U W1 hS1 hR K hK => ?_) Steps.nil
                  · skip
                    simp only [layS, putK, List.foldr, List.foldl, List.setIfInBounds_toArray, List.set_cons_zero, List.set_cons_succ, reduceIte, Nat.reduceEqDiff]
                    go_simp
                    have hk := hK.out (.string (Sj ++ T6 ++ T10 ++ T14)) W1 hS1 (Below.refl _ _) rfl
                    simp only [layS, putK, List.foldr, List.foldl, List.setIfInBounds_toArray, List.set_cons_zero, List.set_cons_succ, reduceIte, Nat.reduceEqDiff] at hk
                    exact hk
                · intro U W1 hS1 hR
                  have hdd : U 16 = .string (Sj ++ T6 ++ T10 ++ T14) := hR 16 (by simp)
                  simp only [layS, putK, List.foldr, List.foldl, List.setIfInBounds_toArray, List.set_cons_zero, List.set_cons_succ, reduceIte, Nat.reduceEqDiff]
                  rw [hdd]
                  clear hdd hR
                  replace hm2 := hm2.below hS1
                  clear hS1 hS n0 n1 n2 n3 d6 d10 d14
                  generalize Sj ++ T6 ++ T10 ++ T14 = S9 at *
                  go_wp2
                  go_roundw
                  case rel => exact ⟨j + 1, S9, by omega, by go_num, rfl, HE3, hm2⟩
                  case measure => simp [intOf]; omega
              · have hjl : j = o.relocs.length := by omega
                subst hjl
                rw [List.take_length] at HE
                obtain ⟨T3, hT3⟩ : ∃ A, A = tx (listB plcBy o.procs) := ⟨_, rfl⟩
                obtain ⟨T7, hT7⟩ : ∃ A, A = tx (listB plcBy o.lows) := ⟨_, rfl⟩
                obtain ⟨T11, hT11⟩ : ∃ A, A = tx (listB plcBy o.highs) := ⟨_, rfl⟩
                obtain ⟨T22, hT22⟩ : ∃ A, A = tx (intsS [o.low, o.high, o.lowF, o.highF]) := ⟨_, rfl⟩
                have zz : Sj.size + T3.size + T7.size + T11.size + T22.size ≤ 200000000 := by
                  have h1 := HL.out
                  rw [HE.out, hT3, hT7, hT11, hT22, tx_size, tx_size, tx_size, tx_size, tx_size]
                  simp only [objB, intsS, intsB, listB, List.length_append] at h1 ⊢
                  omega
                have d3 : ∀ W, Below w.heap.size w W → Calls Tryz.prog 27 #[.slice a6 o.procs.length c6] W fun e w' => e = .returned (.string T3) ∧ Below W.heap.size W w' := fun W hb => by rw [hT3]; exact rPlcY _ _ W (q1.out.below hb) l1 f1.out
                have d7 : ∀ W, Below w.heap.size w W → Calls Tryz.prog 27 #[.slice a7 o.lows.length c7] W fun e w' => e = .returned (.string T7) ∧ Below W.heap.size W w' := fun W hb => by rw [hT7]; exact rPlcY _ _ W (q2.out.below hb) l2 f2.out
                have d11 : ∀ W, Below w.heap.size w W → Calls Tryz.prog 27 #[.slice a8 o.highs.length c8] W fun e w' => e = .returned (.string T11) ∧ Below W.heap.size W w' := fun W hb => by rw [hT11]; exact rPlcY _ _ W (q3.out.below hb) l3 f3.out
                have d22 := fun v W h => rNumS (v := v) (w := W) (l := [o.low, o.high, o.lowF, o.highF]) (by simp) (by simp; exact ⟨⟨by omega, by omega⟩, ⟨by omega, by omega⟩, ⟨by omega, by omega⟩, ⟨by omega, by omega⟩⟩) h
                rw [← hT22] at d22
                have HF : Hid (Sj ++ T3 ++ T7 ++ T11 ++ T22 = RR) := by
                  show _ = _
                  rw [HE.out, hT3, hT7, hT11, hT22, hRR.out, tx_app, tx_app, tx_app, tx_app]
                  simp only [objB, intsS, intsB, listB, List.append_assoc]
                clear hT3 hT7 hT11 hT22 HE hRR
                go_wp2
                have hm2 := hm.below (Below.refl _ _).drew
                refine wp_region_held_drew (S := fun W => Below wr.drew.heap.size wr.drew W) (by kernel_rfl) (Below.refl _ _) (fun hS => ?_)
                generalize wr.drew = W at hS hm2 ⊢
                clear mm hm
                have n6 := hm2.bx.cell 6 rfl
                have n7 := hm2.bx.cell 7 rfl
                have n8 := hm2.bx.cell 8 rfl
                have n9 := hm2.bx.cell 9 rfl
                have n10 := hm2.bx.cell 10 rfl
                have n11 := hm2.bx.cell 11 rfl
                have n12 := hm2.bx.cell 12 rfl
                refine tkd (i := 0) (v := .string Sj) rfl rfl (by kernel_rfl) (by kernel_rfl) (by kernel_rfl) (fun _ _ _ h => h) (Or.inl ⟨by rfl, fun wq hSw => by skip; go_simp⟩) hS ?_
                simp only [List.setIfInBounds_toArray, List.set_cons_zero, List.set_cons_succ]
                refine tkd (i := 1) (v := .pointer (some ⟨w.heap.size, 6, none⟩)) rfl rfl (by kernel_rfl) (by kernel_rfl) (by kernel_rfl) (fun _ _ _ h => h) (Or.inl ⟨by rfl, fun wq hSw => by skip; go_simp⟩) hS ?_
                simp only [List.setIfInBounds_toArray, List.set_cons_zero, List.set_cons_succ]
                refine tkd (i := 2) (v := .slice a6 o.procs.length c6) rfl rfl (by kernel_rfl) (by kernel_rfl) (by kernel_rfl) (fun _ _ _ h => h) (Or.inl ⟨by rfl, fun wq hSw => by have q := keep n6 hSw; go_simp⟩) hS ?_
                simp only [List.setIfInBounds_toArray, List.set_cons_zero, List.set_cons_succ]
                refine tkd (i := 5) (v := .pointer (some ⟨w.heap.size, 7, none⟩)) rfl rfl (by kernel_rfl) (by kernel_rfl) (by kernel_rfl) (fun _ _ _ h => h) (Or.inl ⟨by rfl, fun wq hSw => by skip; go_simp⟩) hS ?_
                simp only [List.setIfInBounds_toArray, List.set_cons_zero, List.set_cons_succ]
                refine tkd (i := 6) (v := .slice a7 o.lows.length c7) rfl rfl (by kernel_rfl) (by kernel_rfl) (by kernel_rfl) (fun _ _ _ h => h) (Or.inl ⟨by rfl, fun wq hSw => by have q := keep n7 hSw; go_simp⟩) hS ?_
                simp only [List.setIfInBounds_toArray, List.set_cons_zero, List.set_cons_succ]
                refine tkd (i := 9) (v := .pointer (some ⟨w.heap.size, 8, none⟩)) rfl rfl (by kernel_rfl) (by kernel_rfl) (by kernel_rfl) (fun _ _ _ h => h) (Or.inl ⟨by rfl, fun wq hSw => by skip; go_simp⟩) hS ?_
                simp only [List.setIfInBounds_toArray, List.set_cons_zero, List.set_cons_succ]
                refine tkd (i := 10) (v := .slice a8 o.highs.length c8) rfl rfl (by kernel_rfl) (by kernel_rfl) (by kernel_rfl) (fun _ _ _ h => h) (Or.inl ⟨by rfl, fun wq hSw => by have q := keep n8 hSw; go_simp⟩) hS ?_
                simp only [List.setIfInBounds_toArray, List.set_cons_zero, List.set_cons_succ]
                refine tkd (i := 13) (v := .pointer (some ⟨w.heap.size, 9, none⟩)) rfl rfl (by kernel_rfl) (by kernel_rfl) (by kernel_rfl) (fun _ _ _ h => h) (Or.inl ⟨by rfl, fun wq hSw => by skip; go_simp⟩) hS ?_
                simp only [List.setIfInBounds_toArray, List.set_cons_zero, List.set_cons_succ]
                refine tkd (i := 14) (v := .int .i64 o.low) rfl rfl (by kernel_rfl) (by kernel_rfl) (by kernel_rfl) (fun _ _ _ h => h) (Or.inl ⟨by rfl, fun wq hSw => by have q := keep n9 hSw; go_simp⟩) hS ?_
                simp only [List.setIfInBounds_toArray, List.set_cons_zero, List.set_cons_succ]
                refine tkd (i := 15) (v := .pointer (some ⟨w.heap.size, 10, none⟩)) rfl rfl (by kernel_rfl) (by kernel_rfl) (by kernel_rfl) (fun _ _ _ h => h) (Or.inl ⟨by rfl, fun wq hSw => by skip; go_simp⟩) hS ?_
                simp only [List.setIfInBounds_toArray, List.set_cons_zero, List.set_cons_succ]
                refine tkd (i := 16) (v := .int .i64 o.high) rfl rfl (by kernel_rfl) (by kernel_rfl) (by kernel_rfl) (fun _ _ _ h => h) (Or.inl ⟨by rfl, fun wq hSw => by have q := keep n10 hSw; go_simp⟩) hS ?_
                simp only [List.setIfInBounds_toArray, List.set_cons_zero, List.set_cons_succ]
                refine tkd (i := 17) (v := .pointer (some ⟨w.heap.size, 11, none⟩)) rfl rfl (by kernel_rfl) (by kernel_rfl) (by kernel_rfl) (fun _ _ _ h => h) (Or.inl ⟨by rfl, fun wq hSw => by skip; go_simp⟩) hS ?_
                simp only [List.setIfInBounds_toArray, List.set_cons_zero, List.set_cons_succ]
                refine tkd (i := 18) (v := .int .i64 o.lowF) rfl rfl (by kernel_rfl) (by kernel_rfl) (by kernel_rfl) (fun _ _ _ h => h) (Or.inl ⟨by rfl, fun wq hSw => by have q := keep n11 hSw; go_simp⟩) hS ?_
                simp only [List.setIfInBounds_toArray, List.set_cons_zero, List.set_cons_succ]
                refine tkd (i := 19) (v := .pointer (some ⟨w.heap.size, 12, none⟩)) rfl rfl (by kernel_rfl) (by kernel_rfl) (by kernel_rfl) (fun _ _ _ h => h) (Or.inl ⟨by rfl, fun wq hSw => by skip; go_simp⟩) hS ?_
                simp only [List.setIfInBounds_toArray, List.set_cons_zero, List.set_cons_succ]
                refine tkd (i := 20) (v := .int .i64 o.highF) rfl rfl (by kernel_rfl) (by kernel_rfl) (by kernel_rfl) (fun _ _ _ h => h) (Or.inl ⟨by rfl, fun wq hSw => by have q := keep n12 hSw; go_simp⟩) hS ?_
                simp only [List.setIfInBounds_toArray, List.set_cons_zero, List.set_cons_succ]
                refine wpAnyH_lay [3, 4, 7, 8, 11, 12, 21, 22, 23, 24] [(108, 3), (109, 4), (112, 7), (113, 8), (116, 11), (117, 12), (126, 21), (127, 22), (128, 23), (2, 24)] (fun i v W2 => match i with | 3 => v = .string T3 | 4 => v = .string (Sj ++ T3) | 7 => v = .string T7 | 8 => v = .string (Sj ++ T3 ++ T7) | 11 => v = .string T11 | 12 => v = .string (Sj ++ T3 ++ T7 ++ T11) | 21 => RowI v W2 [o.low, o.high, o.lowF, o.highF] | 22 => v = .string T22 | 23 => v = .string (Sj ++ T3 ++ T7 ++ T11 ++ T22) | _ => v = .string (Sj ++ T3 ++ T7 ++ T11 ++ T22)) (by kernel_rfl) (by rfl) (by kernel_rfl) (by decide) (by kernel_rfl) hS ?_ ?_ ?_
                · intro j v W1 W2 hb h
                  split at h
                  all_goals first | exact h | exact h.below hb
                · skip
                  refine Steps.consK [] rfl trivial (fun U W1 hS1 hR K hK => ?_) ?_
                  · skip
                    have hcc := d3 W1 (hm2.to.trans (hS1.mono hm2.to.size))
                    simp only [layS, putK, List.foldr, List.foldl, List.setIfInBounds_toArray, List.set_cons_zero, List.set_cons_succ, reduceIte, Nat.reduceEqDiff]
                    go_simp
                    go_at_call 27
                    refine hcc.mono ?_
                    rintro e W2 ⟨rfl, hb⟩
                    go_wp2
                    have hk := hK.out (.string T3) W2 (hS1.trans (hb.mono hS1.size)) hb rfl
                    simp only [layS, putK, List.foldr, List.foldl, List.setIfInBounds_toArray, List.set_cons_zero, List.set_cons_succ, reduceIte, Nat.reduceEqDiff] at hk
                    exact hk
                  refine Steps.consK [(3, .string T3)] rfl ⟨⟨by kernel_rfl, fun _ _ h => h⟩, trivial⟩ (fun U W1 hS1 hR K hK => ?_) ?_
                  · skip
                    simp only [layS, putK, List.foldr, List.foldl, List.setIfInBounds_toArray, List.set_cons_zero, List.set_cons_succ, reduceIte, Nat.reduceEqDiff]
                    go_simp
                    rw [if_neg (by first | omega | (simp only [ByteArray.size_append]; omega))]
                    go_simp
                    have hk := hK.out (.string (Sj ++ T3)) W1 hS1 (Below.refl _ _) rfl
                    simp only [layS, putK, List.foldr, List.foldl, List.setIfInBounds_toArray, List.set_cons_zero, List.set_cons_succ, reduceIte, Nat.reduceEqDiff] at hk
                    exact hk
                  refine Steps.consK [] rfl trivial (fun U W1 hS1 hR K hK => ?_) ?_
                  · skip
                    have hcc := d7 W1 (hm2.to.trans (hS1.mono hm2.to.size))
                    simp only [layS, putK, List.foldr, List.foldl, List.setIfInBounds_toArray, List.set_cons_zero, List.set_cons_succ, reduceIte, Nat.reduceEqDiff]
                    go_simp
                    go_at_call 27
                    refine hcc.mono ?_
                    rintro e W2 ⟨rfl, hb⟩
                    go_wp2
                    have hk := hK.out (.string T7) W2 (hS1.trans (hb.mono hS1.size)) hb rfl
                    simp only [layS, putK, List.foldr, List.foldl, List.setIfInBounds_toArray, List.set_cons_zero, List.set_cons_succ, reduceIte, Nat.reduceEqDiff] at hk
                    exact hk
                  refine Steps.consK [(4, .string (Sj ++ T3)), (7, .string T7)] rfl ⟨⟨by kernel_rfl, fun _ _ h => h⟩, ⟨by kernel_rfl, fun _ _ h => h⟩, trivial⟩ (fun U W1 hS1 hR K hK => ?_) ?_
                  · skip
                    simp only [layS, putK, List.foldr, List.foldl, List.setIfInBounds_toArray, List.set_cons_zero, List.set_cons_succ, reduceIte, Nat.reduceEqDiff]
                    go_simp
                    rw [if_neg (by first | omega | (simp only [ByteArray.size_append]; omega))]
                    go_simp
                    have hk := hK.out (.string (Sj ++ T3 ++ T7)) W1 hS1 (Below.refl _ _) rfl
                    simp only [layS, putK, List.foldr, List.foldl, List.setIfInBounds_toArray, List.set_cons_zero, List.set_cons_succ, reduceIte, Nat.reduceEqDiff] at hk
                    exact hk
                  refine Steps.consK [] rfl trivial (fun U W1 hS1 hR K hK => ?_) ?_
                  · skip
                    have hcc := d11 W1 (hm2.to.trans (hS1.mono hm2.to.size))
                    simp only [layS, putK, List.foldr, List.foldl, List.setIfInBounds_toArray, List.set_cons_zero, List.set_cons_succ, reduceIte, Nat.reduceEqDiff]
                    go_simp
                    go_at_call 27
                    refine hcc.mono ?_
                    rintro e W2 ⟨rfl, hb⟩
                    go_wp2
                    have hk := hK.out (.string T11) W2 (hS1.trans (hb.mono hS1.size)) hb rfl
                    simp only [layS, putK, List.foldr, List.foldl, List.setIfInBounds_toArray, List.set_cons_zero, List.set_cons_succ, reduceIte, Nat.reduceEqDiff] at hk
                    exact hk
                  refine Steps.consK [(8, .string (Sj ++ T3 ++ T7)), (11, .string T11)] rfl ⟨⟨by kernel_rfl, fun _ _ h => h⟩, ⟨by kernel_rfl, fun _ _ h => h⟩, trivial⟩ (fun U W1 hS1 hR K hK => ?_) ?_
                  · skip
                    simp only [layS, putK, List.foldr, List.foldl, List.setIfInBounds_toArray, List.set_cons_zero, List.set_cons_succ, reduceIte, Nat.reduceEqDiff]
                    go_simp
                    rw [if_neg (by first | omega | (simp only [ByteArray.size_append]; omega))]
                    go_simp
                    have hk := hK.out (.string (Sj ++ T3 ++ T7 ++ T11)) W1 hS1 (Below.refl _ _) rfl
                    simp only [layS, putK, List.foldr, List.foldl, List.setIfInBounds_toArray, List.set_cons_zero, List.set_cons_succ, reduceIte, Nat.reduceEqDiff] at hk
                    exact hk
                  refine Steps.consK [] rfl trivial (fun U W1 hS1 hR K hK => ?_) ?_
                  · skip
                    simp only [layS, putK, List.foldr, List.foldl, List.setIfInBounds_toArray, List.set_cons_zero, List.set_cons_succ, reduceIte, Nat.reduceEqDiff]
                    go_simp
                    have hk := hK.out _ _ (hS1.alloc hS1.size _) ((Below.refl _ _).alloc (Nat.le_refl _) _) (RowI.new W1 [o.low, o.high, o.lowF, o.highF])
                    simp only [layS, putK, List.foldr, List.foldl, List.setIfInBounds_toArray, List.set_cons_zero, List.set_cons_succ, reduceIte, Nat.reduceEqDiff] at hk
                    exact hk
                  refine Steps.consK [] rfl trivial (fun U W1 hS1 hR K hK => ?_) ?_
                  · skip
                    have hcc := d22 _ W1 (hR 21 (by kernel_rfl))
                    simp only [layS, putK, List.foldr, List.foldl, List.setIfInBounds_toArray, List.set_cons_zero, List.set_cons_succ, reduceIte, Nat.reduceEqDiff]
                    go_simp
                    go_at_call 24
                    refine hcc.mono ?_
                    rintro e W2 ⟨rfl, hb⟩
                    go_wp2
                    have hk := hK.out (.string T22) W2 (hS1.trans (hb.mono hS1.size)) hb rfl
                    simp only [layS, putK, List.foldr, List.foldl, List.setIfInBounds_toArray, List.set_cons_zero, List.set_cons_succ, reduceIte, Nat.reduceEqDiff] at hk
                    exact hk
                  refine Steps.consK [(12, .string (Sj ++ T3 ++ T7 ++ T11)), (22, .string T22)] rfl ⟨⟨by kernel_rfl, fun _ _ h => h⟩, ⟨by kernel_rfl, fun _ _ h => h⟩, trivial⟩ (fun U W1 hS1 hR K hK => ?_) ?_
                  · skip
                    simp only [layS, putK, List.foldr, List.foldl, List.setIfInBounds_toArray, List.set_cons_zero, List.set_cons_succ, reduceIte, Nat.reduceEqDiff]
                    go_simp
                    rw [if_neg (by first | omega | (simp only [ByteArray.size_append]; omega))]
                    go_simp
                    have hk := hK.out (.string (Sj ++ T3 ++ T7 ++ T11 ++ T22)) W1 hS1 (Below.refl _ _) rfl
                    simp only [layS, putK, List.foldr, List.foldl, List.setIfInBounds_toArray, List.set_cons_zero, List.set_cons_succ, reduceIte, Nat.reduceEqDiff] at hk
                    exact hk
                  refine Steps.consK [(23, .string (Sj ++ T3 ++ T7 ++ T11 ++ T22))] rfl ⟨⟨by kernel_rfl, fun _ _ h => h⟩, trivial⟩ (fun U W1 hS1 hR K hK => ?_) Steps.nil
                  · skip
                    simp only [layS, putK, List.foldr, List.foldl, List.setIfInBounds_toArray, List.set_cons_zero, List.set_cons_succ, reduceIte, Nat.reduceEqDiff]
                    go_simp
                    have hk := hK.out (.string (Sj ++ T3 ++ T7 ++ T11 ++ T22)) W1 hS1 (Below.refl _ _) rfl
                    simp only [layS, putK, List.foldr, List.foldl, List.setIfInBounds_toArray, List.set_cons_zero, List.set_cons_succ, reduceIte, Nat.reduceEqDiff] at hk
                    exact hk
                · intro U W1 hS1 hR
                  have hdd : U 24 = .string (Sj ++ T3 ++ T7 ++ T11 ++ T22) := hR 24 (by simp)
                  simp only [layS, putK, List.foldr, List.foldl, List.setIfInBounds_toArray, List.set_cons_zero, List.set_cons_succ, reduceIte, Nat.reduceEqDiff]
                  rw [hdd]
                  clear hdd hR
                  replace hm2 := hm2.below hS1
                  clear hS1 hS n6 n7 n8 n9 n10 n11 n12 d3 d7 d11 d22
                  generalize Sj ++ T3 ++ T7 ++ T11 ++ T22 = S9 at *
                  go_wp2
                  go_ret
                  exact ⟨congrArg (fun z => Ending.returned (.string z)) HF.out, hm2.to⟩
end Go.Proofs.YthfeojjfehbgjaaGreatDoor.obj
