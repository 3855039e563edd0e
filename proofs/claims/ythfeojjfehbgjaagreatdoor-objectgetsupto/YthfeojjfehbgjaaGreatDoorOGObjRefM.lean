/- What the reference's May answers of an object: a contract. -/
import Derived.Test.YthfeojjfehbgjaaGreatDoorOGObjRefP
import Derived.Test.YthfeojjfehbgjaaGreatDoorOGObjMay
import Derived.Test.YthfeojjfehbgjaaGreatDoorOGFaceRefB
import Derived.BigQuiet
import Derived.Deep.QuietTactic
namespace Go.Proofs.YthfeojjfehbgjaaGreatDoor.obj
open Go.RowKit
open Go.Proofs.YthfeojjfehbgjaaGreatDoor.syn (isName eqS)
open Go.Proofs.YthfeojjfehbgjaaGreatDoor.mac (Ins BoxC hasB)
open Go.Proofs.YthfeojjfehbgjaaGreatDoor.ord (tkd putd)
open Go.Proofs.YthfeojjfehbgjaaGreatDoor.face (VarD ProcD FaceD VarsIn ProcsIn FaceIn keep ret_b all_no all_yes apartB among rName)
set_option linter.unusedVariables false
set_option linter.unusedSimpArgs false
set_option maxRecDepth 100000
theorem relB_no {r : RelD} (h : r.kind < 1 ∨ 4 < r.kind) : relB r = false := by unfold relB; rw [if_neg (by omega), if_neg (by omega)]
theorem below_drewN (w : World) (N n : Nat) : Below N w (w.drewN n) := ⟨rfl, rfl, rfl, Nat.le_refl _, fun _ _ => rfl⟩
/-- a box that stays -/
structure Mono (w wr : World) (xs : Array Value) : Prop where
  to : Below w.heap.size w wr
  bx : BoxC wr w.heap.size xs 31
theorem Mono.below {w wr w2 : World} {xs : Array Value} (h : Mono w wr xs) (hb : Below wr.heap.size wr w2) : Mono w w2 xs := ⟨h.to.trans (hb.mono h.to.size), h.bx.below hb⟩
theorem mayO_no1 {o : ObjD} (h : face.mayB o.face = false) : mayO o = false := by simp [mayO, facesB, h]
theorem mayO_no2 {o : ObjD} (h : ¬ o.imports.length ≤ 5) : mayO o = false := by simp [mayO, facesB, h]
theorem mayO_no3 {o : ObjD} (h : ¬ o.code.length ≤ 20000) : mayO o = false := by simp [mayO, codeB, h]
theorem mayO_no4 {o : ObjD} (h : wordB o.low = false ∨ wordB o.high = false ∨ wordB o.lowF = false ∨ wordB o.highF = false) : mayO o = false := by
  rcases h with h | h | h | h <;> simp [mayO, wordsB, h]
set_option maxHeartbeats 4000000 in
theorem rMayO (o : ObjD) (x : Vals) (w : World) (ho : ObjAt w x o) :
    Calls Tryz.prog 7 #[objV o x] w fun e w' => e = .returned (.bool (mayO o)) ∧ Below w.heap.size w w' := by
  have c13 : Tryz.prog.cellsOf 31 = 13 := by kernel_rfl
  have c3 : Tryz.prog.cellsOf 25 = 3 := face.cell3
  have c5i : Tryz.prog.cellsOf 55 = 5 := by kernel_rfl
  have c4r : Tryz.prog.cellsOf 57 = 4 := by kernel_rfl
  obtain ⟨a1, c1, a2, c2, a3, c3', a4, c4, a5, c5, a6, c6, a7, c7, a8, c8, rfl⟩ := ho.shape
  obtain ⟨h1, h2, h3, h4, h5, h6, h7, h8⟩ := ho
  dsimp only at h1 h2 h3 h4 h5 h6 h7 h8
  have hlc : o.code.length ≤ 1048576 := by obtain ⟨_, _, _, h, _⟩ := h4; exact h
  have hli : o.imports.length ≤ 1048576 := by obtain ⟨_, _, _, h, _⟩ := h3; exact h
  have hlr : o.relocs.length ≤ 1048576 := by obtain ⟨_, _, _, h, _⟩ := h5; exact h
  unfold objV
  dsimp only
  have hT : Mono w (w.alloc (.cells #[.string o.face.module, .slice a1 o.face.vars.length c1, .slice a2 o.face.procs.length c2, .slice a3 o.imports.length c3', .slice a4 o.code.length c4, .slice a5 o.relocs.length c5, .slice a6 o.procs.length c6, .slice a7 o.lows.length c7, .slice a8 o.highs.length c8, .int .i64 o.low, .int .i64 o.high, .int .i64 o.lowF, .int .i64 o.highF] 31)) #[.string o.face.module, .slice a1 o.face.vars.length c1, .slice a2 o.face.procs.length c2, .slice a3 o.imports.length c3', .slice a4 o.code.length c4, .slice a5 o.relocs.length c5, .slice a6 o.procs.length c6, .slice a7 o.lows.length c7, .slice a8 o.highs.length c8, .int .i64 o.low, .int .i64 o.high, .int .i64 o.lowF, .int .i64 o.highF] := ⟨(Below.refl w.heap.size w).alloc (Nat.le_refl _) _, BoxC.new w _ _⟩
  have hC := face.rMay o.face (.agg #[.string o.face.module, .slice a1 o.face.vars.length c1, .slice a2 o.face.procs.length c2]) _ ⟨_, _, rfl, h1.below hT.to, h2.below hT.to⟩
  obtain ⟨V, hV⟩ : ∃ V, V = mayO o := ⟨_, rfl⟩
  rw [← hV]
  replace hV : Hid (V = mayO o) := hV
  go_enter Tryz.func7, Tryz.ntmps7
  go_wp2_with (fail)
  refine hC.mono ?_
  rintro e w1 ⟨rfl, hb1⟩
  clear hC
  replace hT := hT.below hb1
  clear hb1
  obtain ⟨XS, hXS⟩ : ∃ XS : Array Value, XS = #[.string o.face.module, .slice a1 o.face.vars.length c1, .slice a2 o.face.procs.length c2, .slice a3 o.imports.length c3', .slice a4 o.code.length c4, .slice a5 o.relocs.length c5, .slice a6 o.procs.length c6, .slice a7 o.lows.length c7, .slice a8 o.highs.length c8, .int .i64 o.low, .int .i64 o.high, .int .i64 o.lowF, .int .i64 o.highF] := ⟨_, rfl⟩
  rw [← hXS] at hT
  have f0 : XS[0]? = some (.string o.face.module) := by rw [hXS]; rfl
  have f3 : XS[3]? = some (.slice a3 o.imports.length c3') := by rw [hXS]; rfl
  have f4 : XS[4]? = some (.slice a4 o.code.length c4) := by rw [hXS]; rfl
  have f5 : XS[5]? = some (.slice a5 o.relocs.length c5) := by rw [hXS]; rfl
  have f6 : XS[6]? = some (.slice a6 o.procs.length c6) := by rw [hXS]; rfl
  have f7 : XS[7]? = some (.slice a7 o.lows.length c7) := by rw [hXS]; rfl
  have f8 : XS[8]? = some (.slice a8 o.highs.length c8) := by rw [hXS]; rfl
  have f9 : XS[9]? = some (.int .i64 o.low) := by rw [hXS]; rfl
  have f10 : XS[10]? = some (.int .i64 o.high) := by rw [hXS]; rfl
  have f11 : XS[11]? = some (.int .i64 o.lowF) := by rw [hXS]; rfl
  have f12 : XS[12]? = some (.int .i64 o.highF) := by rw [hXS]; rfl
  clear hXS
  cases q1 : face.mayB o.face
  case false =>
    have HF : Hid (V = false) := hV.out.trans (mayO_no1 q1)
    go_wp2
    go_ret
    exact ⟨ret_b HF.out.symm, hT.to⟩
  have y3 := hT.bx.cell 3 f3
  by_cases q2 : 5 < (o.imports.length : Int)
  case pos =>
    have HF : Hid (V = false) := hV.out.trans (mayO_no2 (by omega))
    go_wp2
    go_ret
    exact ⟨ret_b HF.out.symm, hT.to⟩
  have y4 := hT.bx.cell 4 f4
  by_cases q3 : 20000 < (o.code.length : Int)
  case pos =>
    have HF : Hid (V = false) := hV.out.trans (mayO_no3 (by omega))
    go_wp2
    go_ret
    exact ⟨ret_b HF.out.symm, hT.to⟩
  have y9 := hT.bx.cell 9 f9
  have y10 := hT.bx.cell 10 f10
  have y11 := hT.bx.cell 11 f11
  have y12 := hT.bx.cell 12 f12
  go_wp2_with (fail)
  refine (rWords o.low _).mono ?_
  rintro e w4 ⟨rfl, hw⟩
  obtain rfl := hw.symm
  clear hw
  cases q4 : wordB o.low
  case false =>
    have HF : Hid (V = false) := hV.out.trans (mayO_no4 (.inl q4))
    go_wp2
    go_ret
    exact ⟨ret_b HF.out.symm, hT.to⟩
  go_wp2_with (fail)
  refine (rWords o.high _).mono ?_
  rintro e w5 ⟨rfl, hw⟩
  obtain rfl := hw.symm
  clear hw
  cases q5 : wordB o.high
  case false =>
    have HF : Hid (V = false) := hV.out.trans (mayO_no4 (.inr (.inl q5)))
    go_wp2
    go_ret
    exact ⟨ret_b HF.out.symm, hT.to⟩
  go_wp2_with (fail)
  refine (rWords o.lowF _).mono ?_
  rintro e w6 ⟨rfl, hw⟩
  obtain rfl := hw.symm
  clear hw
  cases q6 : wordB o.lowF
  case false =>
    have HF : Hid (V = false) := hV.out.trans (mayO_no4 (.inr (.inr (.inl q6))))
    go_wp2
    go_ret
    exact ⟨ret_b HF.out.symm, hT.to⟩
  go_wp2_with (fail)
  refine (rWords o.highF _).mono ?_
  rintro e w7 ⟨rfl, hw⟩
  obtain rfl := hw.symm
  clear hw
  cases q7 : wordB o.highF
  case false =>
    have HF : Hid (V = false) := hV.out.trans (mayO_no4 (.inr (.inr (.inr q7))))
    go_wp2
    go_ret
    exact ⟨ret_b HF.out.symm, hT.to⟩
  have HW : Hid (V = (facesB o.face o.imports && (codeB o.code && (relocsB o.code.length 0 o.relocs && (placesB o.procs o.code.length && (placesB o.lows o.low && placesB o.highs o.high)))))) := by
    show _ = _
    rw [hV.out]
    simp only [mayO, wordsB, List.all_cons, List.all_nil, q4, q5, q6, q7, Bool.and_true, Bool.true_and]
  clear hV y9 y10 y11 y12 q4 q5 q6 q7
  go_wp2
  go_loopw [3] (fun t wr => ∃ j : Nat, j ≤ o.imports.length ∧ t = .int .i64 j ∧ Mono w wr XS ∧ Hid (∀ i (h : i < o.imports.length), i < j → face.mayB o.imports[i] = true ∧ eqS o.face.module o.imports[i].module = false ∧ among ((o.imports.map (·.module)).take i) o.imports[i].module = false)) (fun t _ => o.imports.length - (intOf t).toNat)
  case atStart => exact ⟨0, Nat.zero_le _, rfl, hT, fun i _ h => by omega⟩
  case round =>
    clear hT y3 y4
    obtain ⟨j, hj, rfl, hT, HN⟩ := hrel
    have y3 := hT.bx.cell 3 f3
    by_cases hlt : j < o.imports.length
    · obtain ⟨_, _, e1, _, hc⟩ := h3
      cases e1
      obtain ⟨g, o1, rfl, hcc⟩ := hc (by intro e; rw [e] at hlt; simp at hlt)
      obtain ⟨k0, ⟨v1, k1, hv1⟩, ⟨v2, k2, hv2⟩⟩ := hcc j hlt
      have HFa : Hid (face.mayB o.imports[j] = false → V = false) := fun h => by rw [HW.out]; simp [facesB, all_no j hlt h]
      have HFb : Hid (among ((o.face.module :: o.imports.map (·.module)).take (j + 1)) o.imports[j].module = true → V = false) := fun h => by
        rw [HW.out]
        have := apB_no (l := o.face.module :: o.imports.map (·.module)) (seen := []) (j + 1) (by simpa using hlt) (by simpa using h)
        simp [facesB, this]
      have HJ : Hid (face.mayB o.imports[j] = true → eqS o.face.module o.imports[j].module = false → among ((o.imports.map (·.module)).take j) o.imports[j].module = false → ∀ i (h : i < o.imports.length), i < j + 1 → face.mayB o.imports[i] = true ∧ eqS o.face.module o.imports[i].module = false ∧ among ((o.imports.map (·.module)).take i) o.imports[i].module = false) := fun u1 u2 u3 i h h3 => by
        rcases Nat.lt_or_ge i j with h4 | h4
        · exact HN.out i h h4
        · have : i = j := by omega
          subst this
          exact ⟨u1, u2, u3⟩
      clear HN hc
      generalize hxx : o.imports[j] = x at *
      clear hxx
      obtain ⟨xa1, xc1, rfl⟩ : ∃ a c, v1 = .slice a x.vars.length c := by obtain ⟨a, c, e, _⟩ := hv1; exact ⟨a, c, e⟩
      obtain ⟨xa2, xc2, rfl⟩ : ∃ a c, v2 = .slice a x.procs.length c := by obtain ⟨a, c, e, _⟩ := hv2; exact ⟨a, c, e⟩
      go_wp2
      refine wp_region_held_drew (S := fun W => Mono w W XS) (by kernel_rfl) (hT.below (Below.refl _ _).drew) (fun hS => ?_)
      replace hT := hT.below (Below.refl _ _).drew
      have hC := face.rMay x (.agg #[.string x.module, .slice xa1 x.vars.length xc1, .slice xa2 x.procs.length xc2]) _ ⟨_, _, rfl, hv1.below hT.to, hv2.below hT.to⟩
      cases hx : face.mayB x
      · rw [hx] at hC
        have HR : Hid (V = false) := HFa.out hx
        refine tkd (i := 0) (v := .pointer (some ⟨w.heap.size, 3, none⟩)) rfl rfl (by kernel_rfl) (by kernel_rfl) (by kernel_rfl) (fun _ _ _ h => h) (Or.inl ⟨by rfl, fun wq hSw => by skip; go_simp⟩) hS ?_
        simp only [List.setIfInBounds_toArray, List.set_cons_zero, List.set_cons_succ]
        refine tkd (i := 1) (v := .slice (some ⟨g, o1, none⟩) o.imports.length c3') rfl rfl (by kernel_rfl) (by kernel_rfl) (by kernel_rfl) (fun _ _ _ h => h) (Or.inl ⟨by rfl, fun wq hSw => by have m := hSw.bx.cell 3 f3; go_simp⟩) hS ?_
        simp only [List.setIfInBounds_toArray, List.set_cons_zero, List.set_cons_succ]
        refine tkd (i := 2) (v := .int .i64 (j : Int)) rfl rfl (by kernel_rfl) (by kernel_rfl) (by kernel_rfl) (fun _ _ _ h => h) (Or.inl ⟨by rfl, fun wq hSw => by skip; go_simp⟩) hS ?_
        simp only [List.setIfInBounds_toArray, List.set_cons_zero, List.set_cons_succ]
        refine tkd (i := 3) (v := .pointer (some ⟨g, o1 + j * 3, none⟩)) rfl rfl (by kernel_rfl) (by kernel_rfl) (by kernel_rfl) (fun _ _ _ h => h) (Or.inl ⟨by rfl, fun wq hSw => by skip; go_simp⟩) hS ?_
        simp only [List.setIfInBounds_toArray, List.set_cons_zero, List.set_cons_succ]
        refine tkd (i := 4) (v := .agg #[.string x.module, .slice xa1 x.vars.length xc1, .slice xa2 x.procs.length xc2] ) rfl rfl (by kernel_rfl) (by kernel_rfl) (by kernel_rfl) (fun _ _ _ h => h) (Or.inl ⟨by rfl, fun wq hSw => by have m0 := keep k0 hSw.to; have m1 := keep k1 hSw.to; have m2 := keep k2 hSw.to; go_simp⟩) hS ?_
        simp only [List.setIfInBounds_toArray, List.set_cons_zero, List.set_cons_succ]
        refine wpAnyH_ready (rs := [5]) (by kernel_rfl) (by simp) ?_
        refine AllReadyH.cons rfl (fun K hK => ?_) AllReadyH.nil
        go_simp
        go_at_call 18
        refine hC.mono ?_
        rintro e w2 ⟨rfl, hb2⟩
        go_wp2
        replace hS := hT.below hb2
        clear hT hb2 hC
        refine hK.out _ _ hS (fun _ => ?_)
        clear hK K
        refine tkd (i := 6) (v := .bool true) rfl rfl (by kernel_rfl) (by kernel_rfl) (by kernel_rfl) (fun _ _ _ h => h) (Or.inl ⟨by rfl, fun wq hSw => by skip; go_simp⟩) hS ?_
        simp only [List.setIfInBounds_toArray, List.set_cons_zero, List.set_cons_succ]
        refine tkd (i := 7) (v := .bool true) rfl rfl (by kernel_rfl) (by kernel_rfl) (by kernel_rfl) (fun _ _ _ h => h) (Or.inl ⟨by rfl, fun wq hSw => by skip; go_simp⟩) hS ?_
        simp only [List.setIfInBounds_toArray, List.set_cons_zero, List.set_cons_succ]
        refine tkd (i := 8) (v := undef) rfl rfl (by kernel_rfl) (by kernel_rfl) (by kernel_rfl) (fun _ _ _ h => h) (Or.inr ⟨by rfl, rfl⟩) hS ?_
        simp only [List.setIfInBounds_toArray, List.set_cons_zero, List.set_cons_succ]
        refine tkd (i := 9) (v := undef) rfl rfl (by kernel_rfl) (by kernel_rfl) (by kernel_rfl) (fun _ _ _ h => h) (Or.inr ⟨by rfl, rfl⟩) hS ?_
        simp only [List.setIfInBounds_toArray, List.set_cons_zero, List.set_cons_succ]
        refine tkd (i := 10) (v := undef) rfl rfl (by kernel_rfl) (by kernel_rfl) (by kernel_rfl) (fun _ _ _ h => h) (Or.inr ⟨by rfl, rfl⟩) hS ?_
        simp only [List.setIfInBounds_toArray, List.set_cons_zero, List.set_cons_succ]
        refine tkd (i := 11) (v := undef) rfl rfl (by kernel_rfl) (by kernel_rfl) (by kernel_rfl) (fun _ _ _ h => h) (Or.inr ⟨by rfl, rfl⟩) hS ?_
        simp only [List.setIfInBounds_toArray, List.set_cons_zero, List.set_cons_succ]
        refine tkd (i := 12) (v := undef) rfl rfl (by kernel_rfl) (by kernel_rfl) (by kernel_rfl) (fun _ _ _ h => h) (Or.inr ⟨by rfl, rfl⟩) hS ?_
        simp only [List.setIfInBounds_toArray, List.set_cons_zero, List.set_cons_succ]
        refine tkd (i := 13) (v := undef) rfl rfl (by kernel_rfl) (by kernel_rfl) (by kernel_rfl) (fun _ _ _ h => h) (Or.inr ⟨by rfl, rfl⟩) hS ?_
        simp only [List.setIfInBounds_toArray, List.set_cons_zero, List.set_cons_succ]
        refine tkd (i := 14) (v := undef) rfl rfl (by kernel_rfl) (by kernel_rfl) (by kernel_rfl) (fun _ _ _ h => h) (Or.inr ⟨by rfl, rfl⟩) hS ?_
        simp only [List.setIfInBounds_toArray, List.set_cons_zero, List.set_cons_succ]
        refine tkd (i := 15) (v := undef) rfl rfl (by kernel_rfl) (by kernel_rfl) (by kernel_rfl) (fun _ _ _ h => h) (Or.inr ⟨by rfl, rfl⟩) hS ?_
        simp only [List.setIfInBounds_toArray, List.set_cons_zero, List.set_cons_succ]
        refine tkd (i := 16) (v := undef) rfl rfl (by kernel_rfl) (by kernel_rfl) (by kernel_rfl) (fun _ _ _ h => h) (Or.inr ⟨by rfl, rfl⟩) hS ?_
        simp only [List.setIfInBounds_toArray, List.set_cons_zero, List.set_cons_succ]
        refine tkd (i := 17) (v := undef) rfl rfl (by kernel_rfl) (by kernel_rfl) (by kernel_rfl) (fun _ _ _ h => h) (Or.inr ⟨by rfl, rfl⟩) hS ?_
        simp only [List.setIfInBounds_toArray, List.set_cons_zero, List.set_cons_succ]
        refine tkd (i := 18) (v := .bool true) rfl rfl (by kernel_rfl) (by kernel_rfl) (by kernel_rfl) (fun _ _ _ h => h) (Or.inl ⟨by rfl, fun wq hSw => by skip; go_simp⟩) hS ?_
        simp only [List.setIfInBounds_toArray, List.set_cons_zero, List.set_cons_succ]
        refine wpAnyH_done (by kernel_rfl) ?_ _
        go_wp2
        go_ret
        exact ⟨ret_b HR.out.symm, hS.to⟩
      rw [hx] at hC
      cases hq : (x.module.toList == o.face.module.toList)
      · have hq2 : eqS o.face.module x.module = false := by unfold eqS; rw [← hq]; exact Bool.beq_comm
        refine tkd (i := 0) (v := .pointer (some ⟨w.heap.size, 3, none⟩)) rfl rfl (by kernel_rfl) (by kernel_rfl) (by kernel_rfl) (fun _ _ _ h => h) (Or.inl ⟨by rfl, fun wq hSw => by skip; go_simp⟩) hS ?_
        simp only [List.setIfInBounds_toArray, List.set_cons_zero, List.set_cons_succ]
        refine tkd (i := 1) (v := .slice (some ⟨g, o1, none⟩) o.imports.length c3') rfl rfl (by kernel_rfl) (by kernel_rfl) (by kernel_rfl) (fun _ _ _ h => h) (Or.inl ⟨by rfl, fun wq hSw => by have m := hSw.bx.cell 3 f3; go_simp⟩) hS ?_
        simp only [List.setIfInBounds_toArray, List.set_cons_zero, List.set_cons_succ]
        refine tkd (i := 2) (v := .int .i64 (j : Int)) rfl rfl (by kernel_rfl) (by kernel_rfl) (by kernel_rfl) (fun _ _ _ h => h) (Or.inl ⟨by rfl, fun wq hSw => by skip; go_simp⟩) hS ?_
        simp only [List.setIfInBounds_toArray, List.set_cons_zero, List.set_cons_succ]
        refine tkd (i := 3) (v := .pointer (some ⟨g, o1 + j * 3, none⟩)) rfl rfl (by kernel_rfl) (by kernel_rfl) (by kernel_rfl) (fun _ _ _ h => h) (Or.inl ⟨by rfl, fun wq hSw => by skip; go_simp⟩) hS ?_
        simp only [List.setIfInBounds_toArray, List.set_cons_zero, List.set_cons_succ]
        refine tkd (i := 4) (v := .agg #[.string x.module, .slice xa1 x.vars.length xc1, .slice xa2 x.procs.length xc2] ) rfl rfl (by kernel_rfl) (by kernel_rfl) (by kernel_rfl) (fun _ _ _ h => h) (Or.inl ⟨by rfl, fun wq hSw => by have m0 := keep k0 hSw.to; have m1 := keep k1 hSw.to; have m2 := keep k2 hSw.to; go_simp⟩) hS ?_
        simp only [List.setIfInBounds_toArray, List.set_cons_zero, List.set_cons_succ]
        refine wpAnyH_ready (rs := [5]) (by kernel_rfl) (by simp) ?_
        refine AllReadyH.cons rfl (fun K hK => ?_) AllReadyH.nil
        go_simp
        go_at_call 18
        refine hC.mono ?_
        rintro e w2 ⟨rfl, hb2⟩
        go_wp2
        replace hS := hT.below hb2
        clear hT hb2 hC
        refine hK.out _ _ hS (fun _ => ?_)
        clear hK K
        refine tkd (i := 6) (v := .bool false) rfl rfl (by kernel_rfl) (by kernel_rfl) (by kernel_rfl) (fun _ _ _ h => h) (Or.inl ⟨by rfl, fun wq hSw => by skip; go_simp⟩) hS ?_
        simp only [List.setIfInBounds_toArray, List.set_cons_zero, List.set_cons_succ]
        refine tkd (i := 7) (v := .bool false) rfl rfl (by kernel_rfl) (by kernel_rfl) (by kernel_rfl) (fun _ _ _ h => h) (Or.inl ⟨by rfl, fun wq hSw => by skip; go_simp⟩) hS ?_
        simp only [List.setIfInBounds_toArray, List.set_cons_zero, List.set_cons_succ]
        refine tkd (i := 8) (v := .pointer (some ⟨w.heap.size, 3, none⟩)) rfl rfl (by kernel_rfl) (by kernel_rfl) (by kernel_rfl) (fun _ _ _ h => h) (Or.inl ⟨by rfl, fun wq hSw => by skip; go_simp⟩) hS ?_
        simp only [List.setIfInBounds_toArray, List.set_cons_zero, List.set_cons_succ]
        refine tkd (i := 9) (v := .slice (some ⟨g, o1, none⟩) o.imports.length c3') rfl rfl (by kernel_rfl) (by kernel_rfl) (by kernel_rfl) (fun _ _ _ h => h) (Or.inl ⟨by rfl, fun wq hSw => by have m := hSw.bx.cell 3 f3; go_simp⟩) hS ?_
        simp only [List.setIfInBounds_toArray, List.set_cons_zero, List.set_cons_succ]
        refine tkd (i := 10) (v := .int .i64 (j : Int)) rfl rfl (by kernel_rfl) (by kernel_rfl) (by kernel_rfl) (fun _ _ _ h => h) (Or.inl ⟨by rfl, fun wq hSw => by skip; go_simp⟩) hS ?_
        simp only [List.setIfInBounds_toArray, List.set_cons_zero, List.set_cons_succ]
        refine tkd (i := 11) (v := .pointer (some ⟨g, o1 + j * 3, none⟩)) rfl rfl (by kernel_rfl) (by kernel_rfl) (by kernel_rfl) (fun _ _ _ h => h) (Or.inl ⟨by rfl, fun wq hSw => by skip; go_simp⟩) hS ?_
        simp only [List.setIfInBounds_toArray, List.set_cons_zero, List.set_cons_succ]
        refine tkd (i := 12) (v := .pointer (some ⟨g, o1 + j * 3, none⟩)) rfl rfl (by kernel_rfl) (by kernel_rfl) (by kernel_rfl) (fun _ _ _ h => h) (Or.inl ⟨by rfl, fun wq hSw => by skip; go_simp⟩) hS ?_
        simp only [List.setIfInBounds_toArray, List.set_cons_zero, List.set_cons_succ]
        refine tkd (i := 13) (v := .string x.module) rfl rfl (by kernel_rfl) (by kernel_rfl) (by kernel_rfl) (fun _ _ _ h => h) (Or.inl ⟨by rfl, fun wq hSw => by have m0 := keep k0 hSw.to; go_simp⟩) hS ?_
        simp only [List.setIfInBounds_toArray, List.set_cons_zero, List.set_cons_succ]
        refine tkd (i := 14) (v := .pointer (some ⟨w.heap.size, 0, none⟩)) rfl rfl (by kernel_rfl) (by kernel_rfl) (by kernel_rfl) (fun _ _ _ h => h) (Or.inl ⟨by rfl, fun wq hSw => by skip; go_simp⟩) hS ?_
        simp only [List.setIfInBounds_toArray, List.set_cons_zero, List.set_cons_succ]
        refine tkd (i := 15) (v := .pointer (some ⟨w.heap.size, 0, none⟩)) rfl rfl (by kernel_rfl) (by kernel_rfl) (by kernel_rfl) (fun _ _ _ h => h) (Or.inl ⟨by rfl, fun wq hSw => by skip; go_simp⟩) hS ?_
        simp only [List.setIfInBounds_toArray, List.set_cons_zero, List.set_cons_succ]
        refine tkd (i := 16) (v := .string o.face.module) rfl rfl (by kernel_rfl) (by kernel_rfl) (by kernel_rfl) (fun _ _ _ h => h) (Or.inl ⟨by rfl, fun wq hSw => by have m := hSw.bx.cell 0 f0; go_simp⟩) hS ?_
        simp only [List.setIfInBounds_toArray, List.set_cons_zero, List.set_cons_succ]
        refine tkd (i := 17) (v := .bool false) rfl rfl (by kernel_rfl) (by kernel_rfl) (by kernel_rfl) (fun _ _ _ h => h) (Or.inl ⟨by rfl, fun wq hSw => by skip; go_simp⟩) hS ?_
        simp only [List.setIfInBounds_toArray, List.set_cons_zero, List.set_cons_succ]
        refine tkd (i := 18) (v := .bool false) rfl rfl (by kernel_rfl) (by kernel_rfl) (by kernel_rfl) (fun _ _ _ h => h) (Or.inl ⟨by rfl, fun wq hSw => by skip; go_simp⟩) hS ?_
        simp only [List.setIfInBounds_toArray, List.set_cons_zero, List.set_cons_succ]
        refine wpAnyH_done (by kernel_rfl) ?_ _
        go_wp2
        go_loopw [4] (fun t wr => ∃ k : Nat, k ≤ j ∧ t = .int .i64 k ∧ Mono w wr XS ∧ Hid (∀ i (h : i < o.imports.length), i < k → eqS o.imports[i].module x.module = false)) (fun t _ => j - (intOf t).toNat)
        case atStart => exact ⟨0, Nat.zero_le _, rfl, hS, fun i _ h => by omega⟩
        case round =>
          clear hS
          obtain ⟨k, hk, rfl, hT, HE⟩ := hrel
          by_cases hkj : k < j
          · obtain ⟨m0, _, _⟩ := hcc k (by omega)
            have HQ : Hid (eqS o.imports[k].module x.module = true → V = false) := fun h => HFb.out (by
              have := among_at (l := o.imports.map (·.module)) (k := k) (j := j) (x := x.module) (by simp; omega) hkj (by simpa using h)
              simp only [List.take_succ_cons]
              unfold among at this ⊢
              rw [List.any_cons, this, Bool.or_true])
            have HQ2 : Hid (eqS o.imports[k].module x.module = false → ∀ i (h : i < o.imports.length), i < k + 1 → eqS o.imports[i].module x.module = false) := fun u1 i h u2 => by
              rcases Nat.lt_or_ge i k with u3 | u3
              · exact HE.out i h u3
              · have : i = k := by omega
                subst this
                exact u1
            have hkl : k < o.imports.length := by omega
            generalize o.imports[k] = z at *
            obtain ⟨zm, zv, zp⟩ := z
            dsimp only at m0 HQ HQ2
            go_wp2
            refine wp_region_held_drew (S := fun W => Mono w W XS) (by kernel_rfl) (hT.below (Below.refl _ _).drew) (fun hS => ?_)
            clear hT
            refine tkd (i := 0) (v := .pointer (some ⟨w.heap.size, 3, none⟩)) rfl rfl (by kernel_rfl) (by kernel_rfl) (by kernel_rfl) (fun _ _ _ h => h) (Or.inl ⟨by rfl, fun wq hSw => by skip; go_simp⟩) hS ?_
            simp only [List.setIfInBounds_toArray, List.set_cons_zero, List.set_cons_succ]
            refine tkd (i := 1) (v := .slice (some ⟨g, o1, none⟩) o.imports.length c3') rfl rfl (by kernel_rfl) (by kernel_rfl) (by kernel_rfl) (fun _ _ _ h => h) (Or.inl ⟨by rfl, fun wq hSw => by have m := hSw.bx.cell 3 f3; go_simp⟩) hS ?_
            simp only [List.setIfInBounds_toArray, List.set_cons_zero, List.set_cons_succ]
            refine tkd (i := 2) (v := .int .i64 (k : Int)) rfl rfl (by kernel_rfl) (by kernel_rfl) (by kernel_rfl) (fun _ _ _ h => h) (Or.inl ⟨by rfl, fun wq hSw => by skip; go_simp⟩) hS ?_
            simp only [List.setIfInBounds_toArray, List.set_cons_zero, List.set_cons_succ]
            refine tkd (i := 3) (v := .pointer (some ⟨g, o1 + k * 3, none⟩)) rfl rfl (by kernel_rfl) (by kernel_rfl) (by kernel_rfl) (fun _ _ _ h => h) (Or.inl ⟨by rfl, fun wq hSw => by skip; go_simp⟩) hS ?_
            simp only [List.setIfInBounds_toArray, List.set_cons_zero, List.set_cons_succ]
            refine tkd (i := 4) (v := .pointer (some ⟨g, o1 + k * 3, none⟩)) rfl rfl (by kernel_rfl) (by kernel_rfl) (by kernel_rfl) (fun _ _ _ h => h) (Or.inl ⟨by rfl, fun wq hSw => by skip; go_simp⟩) hS ?_
            simp only [List.setIfInBounds_toArray, List.set_cons_zero, List.set_cons_succ]
            refine tkd (i := 5) (v := .string zm) rfl rfl (by kernel_rfl) (by kernel_rfl) (by kernel_rfl) (fun _ _ _ h => h) (Or.inl ⟨by rfl, fun wq hSw => by have q := keep m0 hSw.to; go_simp⟩) hS ?_
            simp only [List.setIfInBounds_toArray, List.set_cons_zero, List.set_cons_succ]
            refine tkd (i := 6) (v := .pointer (some ⟨w.heap.size, 3, none⟩)) rfl rfl (by kernel_rfl) (by kernel_rfl) (by kernel_rfl) (fun _ _ _ h => h) (Or.inl ⟨by rfl, fun wq hSw => by skip; go_simp⟩) hS ?_
            simp only [List.setIfInBounds_toArray, List.set_cons_zero, List.set_cons_succ]
            refine tkd (i := 7) (v := .slice (some ⟨g, o1, none⟩) o.imports.length c3') rfl rfl (by kernel_rfl) (by kernel_rfl) (by kernel_rfl) (fun _ _ _ h => h) (Or.inl ⟨by rfl, fun wq hSw => by have m := hSw.bx.cell 3 f3; go_simp⟩) hS ?_
            simp only [List.setIfInBounds_toArray, List.set_cons_zero, List.set_cons_succ]
            refine tkd (i := 8) (v := .int .i64 (j : Int)) rfl rfl (by kernel_rfl) (by kernel_rfl) (by kernel_rfl) (fun _ _ _ h => h) (Or.inl ⟨by rfl, fun wq hSw => by skip; go_simp⟩) hS ?_
            simp only [List.setIfInBounds_toArray, List.set_cons_zero, List.set_cons_succ]
            refine tkd (i := 9) (v := .pointer (some ⟨g, o1 + j * 3, none⟩)) rfl rfl (by kernel_rfl) (by kernel_rfl) (by kernel_rfl) (fun _ _ _ h => h) (Or.inl ⟨by rfl, fun wq hSw => by skip; go_simp⟩) hS ?_
            simp only [List.setIfInBounds_toArray, List.set_cons_zero, List.set_cons_succ]
            refine tkd (i := 10) (v := .pointer (some ⟨g, o1 + j * 3, none⟩)) rfl rfl (by kernel_rfl) (by kernel_rfl) (by kernel_rfl) (fun _ _ _ h => h) (Or.inl ⟨by rfl, fun wq hSw => by skip; go_simp⟩) hS ?_
            simp only [List.setIfInBounds_toArray, List.set_cons_zero, List.set_cons_succ]
            refine tkd (i := 11) (v := .string x.module) rfl rfl (by kernel_rfl) (by kernel_rfl) (by kernel_rfl) (fun _ _ _ h => h) (Or.inl ⟨by rfl, fun wq hSw => by have q := keep k0 hSw.to; go_simp⟩) hS ?_
            simp only [List.setIfInBounds_toArray, List.set_cons_zero, List.set_cons_succ]
            refine tkd (i := 12) (v := .bool (zm.toList == x.module.toList)) rfl rfl (by kernel_rfl) (by kernel_rfl) (by kernel_rfl) (fun _ _ _ h => h) (Or.inl ⟨by rfl, fun wq hSw => by skip; go_simp⟩) hS ?_
            simp only [List.setIfInBounds_toArray, List.set_cons_zero, List.set_cons_succ]
            refine wpAnyH_done (by kernel_rfl) ?_ _
            cases hz : (zm.toList == x.module.toList)
            · have HR : Hid (∀ i (h : i < o.imports.length), i < k + 1 → eqS o.imports[i].module x.module = false) := HQ2.out hz
              go_wp2
              go_roundw
              case rel => exact ⟨k + 1, by omega, by go_num, hS, HR.out⟩
              case measure => simp [intOf]; omega
            · have HR : Hid (V = false) := HQ.out hz
              go_wp2
              go_ret
              exact ⟨ret_b HR.out.symm, hS.to⟩
          · have HT : Hid (∀ i (h : i < o.imports.length), i < j + 1 → face.mayB o.imports[i] = true ∧ eqS o.face.module o.imports[i].module = false ∧ among ((o.imports.map (·.module)).take i) o.imports[i].module = false) := HJ.out hx hq2 (among_take (by simp; omega) fun i h h2 => by simpa using HE.out i (by simpa using h) (by omega))
            go_wp2
            go_roundw
            case rel => exact ⟨j + 1, by omega, by go_num, hT, HT.out⟩
            case measure => simp [intOf]; omega
      · have HR : Hid (V = false) := HFb.out (by
          simp only [List.take_succ_cons]
          unfold among
          rw [List.any_cons]
          have : eqS o.face.module x.module = true := by unfold eqS; rw [← hq]; exact Bool.beq_comm
          rw [this, Bool.true_or])
        refine tkd (i := 0) (v := .pointer (some ⟨w.heap.size, 3, none⟩)) rfl rfl (by kernel_rfl) (by kernel_rfl) (by kernel_rfl) (fun _ _ _ h => h) (Or.inl ⟨by rfl, fun wq hSw => by skip; go_simp⟩) hS ?_
        simp only [List.setIfInBounds_toArray, List.set_cons_zero, List.set_cons_succ]
        refine tkd (i := 1) (v := .slice (some ⟨g, o1, none⟩) o.imports.length c3') rfl rfl (by kernel_rfl) (by kernel_rfl) (by kernel_rfl) (fun _ _ _ h => h) (Or.inl ⟨by rfl, fun wq hSw => by have m := hSw.bx.cell 3 f3; go_simp⟩) hS ?_
        simp only [List.setIfInBounds_toArray, List.set_cons_zero, List.set_cons_succ]
        refine tkd (i := 2) (v := .int .i64 (j : Int)) rfl rfl (by kernel_rfl) (by kernel_rfl) (by kernel_rfl) (fun _ _ _ h => h) (Or.inl ⟨by rfl, fun wq hSw => by skip; go_simp⟩) hS ?_
        simp only [List.setIfInBounds_toArray, List.set_cons_zero, List.set_cons_succ]
        refine tkd (i := 3) (v := .pointer (some ⟨g, o1 + j * 3, none⟩)) rfl rfl (by kernel_rfl) (by kernel_rfl) (by kernel_rfl) (fun _ _ _ h => h) (Or.inl ⟨by rfl, fun wq hSw => by skip; go_simp⟩) hS ?_
        simp only [List.setIfInBounds_toArray, List.set_cons_zero, List.set_cons_succ]
        refine tkd (i := 4) (v := .agg #[.string x.module, .slice xa1 x.vars.length xc1, .slice xa2 x.procs.length xc2] ) rfl rfl (by kernel_rfl) (by kernel_rfl) (by kernel_rfl) (fun _ _ _ h => h) (Or.inl ⟨by rfl, fun wq hSw => by have m0 := keep k0 hSw.to; have m1 := keep k1 hSw.to; have m2 := keep k2 hSw.to; go_simp⟩) hS ?_
        simp only [List.setIfInBounds_toArray, List.set_cons_zero, List.set_cons_succ]
        refine wpAnyH_ready (rs := [5]) (by kernel_rfl) (by simp) ?_
        refine AllReadyH.cons rfl (fun K hK => ?_) AllReadyH.nil
        go_simp
        go_at_call 18
        refine hC.mono ?_
        rintro e w2 ⟨rfl, hb2⟩
        go_wp2
        replace hS := hT.below hb2
        clear hT hb2 hC
        refine hK.out _ _ hS (fun _ => ?_)
        clear hK K
        refine tkd (i := 6) (v := .bool false) rfl rfl (by kernel_rfl) (by kernel_rfl) (by kernel_rfl) (fun _ _ _ h => h) (Or.inl ⟨by rfl, fun wq hSw => by skip; go_simp⟩) hS ?_
        simp only [List.setIfInBounds_toArray, List.set_cons_zero, List.set_cons_succ]
        refine tkd (i := 7) (v := .bool false) rfl rfl (by kernel_rfl) (by kernel_rfl) (by kernel_rfl) (fun _ _ _ h => h) (Or.inl ⟨by rfl, fun wq hSw => by skip; go_simp⟩) hS ?_
        simp only [List.setIfInBounds_toArray, List.set_cons_zero, List.set_cons_succ]
        refine tkd (i := 8) (v := .pointer (some ⟨w.heap.size, 3, none⟩)) rfl rfl (by kernel_rfl) (by kernel_rfl) (by kernel_rfl) (fun _ _ _ h => h) (Or.inl ⟨by rfl, fun wq hSw => by skip; go_simp⟩) hS ?_
        simp only [List.setIfInBounds_toArray, List.set_cons_zero, List.set_cons_succ]
        refine tkd (i := 9) (v := .slice (some ⟨g, o1, none⟩) o.imports.length c3') rfl rfl (by kernel_rfl) (by kernel_rfl) (by kernel_rfl) (fun _ _ _ h => h) (Or.inl ⟨by rfl, fun wq hSw => by have m := hSw.bx.cell 3 f3; go_simp⟩) hS ?_
        simp only [List.setIfInBounds_toArray, List.set_cons_zero, List.set_cons_succ]
        refine tkd (i := 10) (v := .int .i64 (j : Int)) rfl rfl (by kernel_rfl) (by kernel_rfl) (by kernel_rfl) (fun _ _ _ h => h) (Or.inl ⟨by rfl, fun wq hSw => by skip; go_simp⟩) hS ?_
        simp only [List.setIfInBounds_toArray, List.set_cons_zero, List.set_cons_succ]
        refine tkd (i := 11) (v := .pointer (some ⟨g, o1 + j * 3, none⟩)) rfl rfl (by kernel_rfl) (by kernel_rfl) (by kernel_rfl) (fun _ _ _ h => h) (Or.inl ⟨by rfl, fun wq hSw => by skip; go_simp⟩) hS ?_
        simp only [List.setIfInBounds_toArray, List.set_cons_zero, List.set_cons_succ]
        refine tkd (i := 12) (v := .pointer (some ⟨g, o1 + j * 3, none⟩)) rfl rfl (by kernel_rfl) (by kernel_rfl) (by kernel_rfl) (fun _ _ _ h => h) (Or.inl ⟨by rfl, fun wq hSw => by skip; go_simp⟩) hS ?_
        simp only [List.setIfInBounds_toArray, List.set_cons_zero, List.set_cons_succ]
        refine tkd (i := 13) (v := .string x.module) rfl rfl (by kernel_rfl) (by kernel_rfl) (by kernel_rfl) (fun _ _ _ h => h) (Or.inl ⟨by rfl, fun wq hSw => by have m0 := keep k0 hSw.to; go_simp⟩) hS ?_
        simp only [List.setIfInBounds_toArray, List.set_cons_zero, List.set_cons_succ]
        refine tkd (i := 14) (v := .pointer (some ⟨w.heap.size, 0, none⟩)) rfl rfl (by kernel_rfl) (by kernel_rfl) (by kernel_rfl) (fun _ _ _ h => h) (Or.inl ⟨by rfl, fun wq hSw => by skip; go_simp⟩) hS ?_
        simp only [List.setIfInBounds_toArray, List.set_cons_zero, List.set_cons_succ]
        refine tkd (i := 15) (v := .pointer (some ⟨w.heap.size, 0, none⟩)) rfl rfl (by kernel_rfl) (by kernel_rfl) (by kernel_rfl) (fun _ _ _ h => h) (Or.inl ⟨by rfl, fun wq hSw => by skip; go_simp⟩) hS ?_
        simp only [List.setIfInBounds_toArray, List.set_cons_zero, List.set_cons_succ]
        refine tkd (i := 16) (v := .string o.face.module) rfl rfl (by kernel_rfl) (by kernel_rfl) (by kernel_rfl) (fun _ _ _ h => h) (Or.inl ⟨by rfl, fun wq hSw => by have m := hSw.bx.cell 0 f0; go_simp⟩) hS ?_
        simp only [List.setIfInBounds_toArray, List.set_cons_zero, List.set_cons_succ]
        refine tkd (i := 17) (v := .bool true) rfl rfl (by kernel_rfl) (by kernel_rfl) (by kernel_rfl) (fun _ _ _ h => h) (Or.inl ⟨by rfl, fun wq hSw => by skip; go_simp⟩) hS ?_
        simp only [List.setIfInBounds_toArray, List.set_cons_zero, List.set_cons_succ]
        refine tkd (i := 18) (v := .bool true) rfl rfl (by kernel_rfl) (by kernel_rfl) (by kernel_rfl) (fun _ _ _ h => h) (Or.inl ⟨by rfl, fun wq hSw => by skip; go_simp⟩) hS ?_
        simp only [List.setIfInBounds_toArray, List.set_cons_zero, List.set_cons_succ]
        refine wpAnyH_done (by kernel_rfl) ?_ _
        go_wp2
        go_ret
        exact ⟨ret_b HR.out.symm, hS.to⟩
    · have HX : Hid (V = (codeB o.code && (relocsB o.code.length 0 o.relocs && (placesB o.procs o.code.length && (placesB o.lows o.low && placesB o.highs o.high))))) := by
        show _ = _
        rw [HW.out]
        have e1 : facesB o.face o.imports = true := by
          unfold facesB
          rw [q1, decide_eq_true (by omega), all_yes (fun i h => (HN.out i h (by omega)).1), apB_yes (l := o.face.module :: o.imports.map (·.module)) (seen := []) (fun i h => ?_)]
          · rfl
          · cases i with
            | zero => rfl
            | succ i =>
              have hi : i < o.imports.length := by simpa using h
              have u := HN.out i hi (by omega)
              simp only [List.nil_append, List.take_succ_cons, List.getElem_cons_succ, List.getElem_map]
              unfold among at u ⊢
              rw [List.any_cons, u.2.1, u.2.2]
              rfl
        rw [e1, Bool.true_and]
      clear HW HN
      go_wp2
      have y4 := hT.bx.cell 4 f4
      go_loopw [5] (fun t wr => ∃ j : Nat, j ≤ o.code.length ∧ t = .int .i64 j ∧ Mono w wr XS ∧ Hid (∀ i (h : i < o.code.length), i < j → hasB o.code[i] = true)) (fun t _ => o.code.length - (intOf t).toNat)
      case atStart => exact ⟨0, Nat.zero_le _, rfl, hT, fun i _ h => by omega⟩
      case round =>
        clear hT y4 y3
        obtain ⟨j, hj, rfl, hT, HN⟩ := hrel
        have y4 := hT.bx.cell 4 f4
        by_cases hlt : j < o.code.length
        · obtain ⟨_, _, e1, _, hc⟩ := h4
          cases e1
          obtain ⟨g, o1, rfl, hcc⟩ := hc (by intro e; rw [e] at hlt; simp at hlt)
          obtain ⟨k0, k1, k2, k3, k4⟩ := hcc j hlt
          replace k0 := keep k0 hT.to
          replace k1 := keep k1 hT.to
          replace k2 := keep k2 hT.to
          replace k3 := keep k3 hT.to
          replace k4 := keep k4 hT.to
          have HF : Hid (hasB o.code[j] = false → V = false) := fun h => by rw [HX.out]; simp [codeB, all_no j hlt h]
          have HJ : Hid (hasB o.code[j] = true → ∀ i (h : i < o.code.length), i < j + 1 → hasB o.code[i] = true) := fun u1 i h u2 => by
            rcases Nat.lt_or_ge i j with u3 | u3
            · exact HN.out i h u3
            · have : i = j := by omega
              subst this
              exact u1
          clear hcc hc HN
          generalize hxx : o.code[j] = x at *
          clear hxx
          have hC := rInstr x wr
          unfold insV at hC
          obtain ⟨op, x1, x2, x3, x4⟩ := x
          dsimp only at k0 k1 k2 k3 k4 hC
          go_wp2_with (fail)
          refine hC.mono ?_
          rintro e w2 ⟨rfl, hb2⟩
          replace hT := hT.below hb2
          cases hx : hasB ⟨op, x1, x2, x3, x4⟩
          · have HR : Hid (V = false) := HF.out hx
            go_wp2
            go_ret
            exact ⟨ret_b HR.out.symm, hT.to⟩
          · have HT : Hid (∀ i (h : i < o.code.length), i < j + 1 → hasB o.code[i] = true) := HJ.out hx
            go_wp2
            go_roundw
            case rel => exact ⟨j + 1, by omega, by go_num, hT, HT.out⟩
            case measure => simp [intOf]; omega
        · replace HX : Hid (V = (relocsB o.code.length 0 o.relocs && (placesB o.procs o.code.length && (placesB o.lows o.low && placesB o.highs o.high)))) := by
            show _ = _
            rw [HX.out]
            have : codeB o.code = true := by unfold codeB; rw [decide_eq_true (by omega), all_yes (fun i h => HN.out i h (by omega))]; rfl
            rw [this, Bool.true_and]
          clear HN
          go_wp2
          clear y4
          generalize hPL : (placesB o.procs o.code.length && (placesB o.lows o.low && placesB o.highs o.high)) = PL at HX
          replace hPL : Hid ((placesB o.procs o.code.length && (placesB o.lows o.low && placesB o.highs o.high)) = PL) := hPL
          go_loopw [6] (fun t wr => ∃ (j : Nat) (m : Int), j ≤ o.relocs.length ∧ t = .int .i64 j ∧ Mono w wr XS ∧ 0 ≤ m ∧ m ≤ 1048577 ∧ (j = 0 → m = 0) ∧ Hid (∀ k (h : k < o.relocs.length), j = k + 1 → m = o.relocs[k].at' + 1) ∧ Hid (V = (relocsB o.code.length m (o.relocs.drop j) && PL))) (fun t _ => o.relocs.length - (intOf t).toNat)
          case atStart => exact ⟨0, 0, Nat.zero_le _, rfl, hT, by omega, by omega, fun _ => rfl, fun k h e => by omega, HX.out⟩
          case round =>
            clear hT HX
            obtain ⟨j, m, hj, rfl, hT, hm0, hm1, hmj, HM, HV0⟩ := hrel
            have y5 := hT.bx.cell 5 f5
            by_cases hlt : j < o.relocs.length
            · obtain ⟨_, _, e1, _, hc⟩ := h5
              cases e1
              obtain ⟨g, o1, rfl, hcc⟩ := hc (by intro e; rw [e] at hlt; simp at hlt)
              obtain ⟨k0, k1, k2, k3⟩ := hcc j hlt
              replace k0 := keep k0 hT.to
              replace k1 := keep k1 hT.to
              replace k2 := keep k2 hT.to
              replace k3 := keep k3 hT.to
              replace HV0 : Hid (V = ((relAt o.code.length m o.relocs[j] && relocsB o.code.length (o.relocs[j].at' + 1) (o.relocs.drop (j + 1))) && PL)) := by show _ = _; rw [HV0.out, relocs_at _ _ j hlt]
              have HP : Hid (∀ k (h : k < o.relocs.length), j + 1 = k + 1 → o.relocs[j].at' + 1 = o.relocs[k].at' + 1) := fun k h e => by
                have : k = j := by omega
                subst this
                rfl
              have HQ : Hid (∀ k (h : k < o.relocs.length), j = k + 1 → w.cell? ⟨g, o1 + k * 4, none⟩ = some (.int .i64 o.relocs[k].at')) := fun k h e => (hcc k h).1
              clear hcc hc
              generalize hxx : o.relocs[j] = x at *
              clear hxx
              obtain ⟨at1, kd, md, nm⟩ := x
              dsimp only at k0 k1 k2 k3 HV0 HP
              have hb0 := BoxC.new wr #[.int .i64 at1, .int .i64 kd, .string md, .string nm] 57
              have hT1 := hT.below ((Below.refl _ _).alloc (Nat.le_refl _) (.cells #[.int .i64 at1, .int .i64 kd, .string md, .string nm] 57))
              go_wp2
              clear y5 k0 k1 k2 k3 hT
              generalize wr.alloc (.cells #[.int .i64 at1, .int .i64 kd, .string md, .string nm] 57) = WW at *
              generalize wr.heap.size = bR at *
              have z0 := hb0.cell 0 rfl
              have z1 := hb0.cell 1 rfl
              have q4 := hT1.bx.cell 4 f4
              have q5 := hT1.bx.cell 5 f5
              have HT1 : Hid (Mono w WW XS) := hT1
              have HB0 : Hid (BoxC WW bR #[.int .i64 at1, .int .i64 kd, .string md, .string nm] 57) := hb0
              clear hT1 hb0
              cases j with
              | zero =>
                have hm00 := hmj rfl
                subst hm00
                clear HQ HM hmj
                have HFa : Hid (relAt o.code.length 0 ⟨at1, kd, md, nm⟩ = false → V = false) := fun h => by rw [HV0.out, h]; rfl
                have HN0 : Hid (relAt o.code.length 0 ⟨at1, kd, md, nm⟩ = true → V = (relocsB o.code.length (at1 + 1) (o.relocs.drop (0 + 1)) && PL)) := fun h => by rw [HV0.out, h]; rfl
                clear HV0
                by_cases u1 : at1 < 0
                · have d1 : decide (at1 < 0) = true := decide_eq_true u1
                  have HR : Hid (V = false) := HFa.out (by simp [relAt]; omega)
                  go_quiet (fail)
                  go_wp2
                  go_ret
                  exact ⟨ret_b HR.out.symm, (HT1.out.below (below_drewN _ _ _)).to⟩
                have d1 : decide (at1 < 0) = false := decide_eq_false u1
                by_cases u2 : (o.code.length : Int) ≤ at1
                · have d2 : decide ((o.code.length : Int) ≤ at1) = true := decide_eq_true u2
                  have HR : Hid (V = false) := HFa.out (by simp [relAt]; omega)
                  go_quiet (fail)
                  go_wp2
                  go_ret
                  exact ⟨ret_b HR.out.symm, (HT1.out.below (below_drewN _ _ _)).to⟩
                have d2 : decide ((o.code.length : Int) ≤ at1) = false := decide_eq_false u2
                by_cases u4 : kd < 1
                · have d4 : decide (kd < 1) = true := decide_eq_true u4
                  have HR : Hid (V = false) := HFa.out (by simp [relAt, relB_no (r := ⟨at1, kd, md, nm⟩) (.inl u4)])
                  go_quiet (fail)
                  go_wp2
                  go_ret
                  exact ⟨ret_b HR.out.symm, (HT1.out.below (below_drewN _ _ _)).to⟩
                have d4 : decide (kd < 1) = false := decide_eq_false u4
                by_cases u5 : 4 < kd
                · have d5 : decide (4 < kd) = true := decide_eq_true u5
                  have HR : Hid (V = false) := HFa.out (by simp [relAt, relB_no (r := ⟨at1, kd, md, nm⟩) (.inr u5)])
                  go_quiet (fail)
                  go_wp2
                  go_ret
                  exact ⟨ret_b HR.out.symm, (HT1.out.below (below_drewN _ _ _)).to⟩
                have d5 : decide (4 < kd) = false := decide_eq_false u5
                go_quiet (fail)
                have HN2 : Hid (relB ⟨at1, kd, md, nm⟩ = true → V = (relocsB o.code.length (at1 + 1) (o.relocs.drop (0 + 1)) && PL)) := fun h => HN0.out (by simp [relAt, h]; omega)
                have HN3 : Hid (relB ⟨at1, kd, md, nm⟩ = false → V = false) := fun h => HFa.out (by simp [relAt, h])
                clear HN0 HFa
                replace HT1 : Hid (Mono w (WW.drewN nq) XS) := HT1.out.below (below_drewN _ _ _)
                replace HB0 : Hid (BoxC (WW.drewN nq) bR #[.int .i64 at1, .int .i64 kd, .string md, .string nm] 57) := HB0.out.below (below_drewN _ _ _)
                generalize WW.drewN nq = WV at *
                clear z0 z1 q4 q5
                have z1 := HB0.out.cell 1 rfl
                have z2 := HB0.out.cell 2 rfl
                have z3 := HB0.out.cell 3 rfl
                clear d1 d2 d4 d5 
                by_cases u6 : kd = 1
                · subst u6
                  have HB : Hid (relB ⟨at1, 1, md, nm⟩ = (md.toList.isEmpty && nm.toList.isEmpty)) := rfl
                  cases e2 : md.toList.isEmpty
                  · have HR : Hid (V = false) := HN3.out (by rw [HB.out, e2]; rfl)
                    go_wp2
                    go_ret
                    exact ⟨ret_b HR.out.symm, HT1.out.to⟩
                  cases e3 : nm.toList.isEmpty
                  · have HR : Hid (V = false) := HN3.out (by rw [HB.out, e2, e3]; rfl)
                    go_wp2
                    go_ret
                    exact ⟨ret_b HR.out.symm, HT1.out.to⟩
                  have HR : Hid (V = (relocsB o.code.length (at1 + 1) (o.relocs.drop (0 + 1)) && PL)) := HN2.out (by rw [HB.out, e2, e3]; rfl)
                  go_wp2
                  exact ⟨⟨0 + 1, at1 + 1, by omega, by go_num, HT1.out, by omega, by omega, fun h => absurd h (by omega), HP, HR⟩, by simp [intOf]; omega⟩
                · have u6b : (kd == 1) = false := by simpa using u6
                  have HB : Hid (relB ⟨at1, kd, md, nm⟩ = (isName md && isName nm)) := by show _ = _; simp only [relB]; rw [if_neg u6, if_pos (by omega)]
                  have hC1 := rName md
                  have hC2 := rName nm
                  go_wp2_with (fail)
                  refine (hC1 _).mono ?_
                  rintro e w4 ⟨rfl, hb4⟩
                  replace HT1 : Hid (Mono w w4 XS) := HT1.out.below hb4
                  replace HB0 : Hid (BoxC w4 bR #[.int .i64 at1, .int .i64 kd, .string md, .string nm] 57) := HB0.out.below hb4
                  clear hb4
                  have z5 := HB0.out.cell 3 rfl
                  cases e2 : isName md
                  · have HR : Hid (V = false) := HN3.out (by rw [HB.out, e2]; rfl)
                    go_wp2
                    go_ret
                    exact ⟨ret_b HR.out.symm, HT1.out.to⟩
                  go_wp2_with (fail)
                  refine (hC2 _).mono ?_
                  rintro e w5 ⟨rfl, hb5⟩
                  replace HT1 : Hid (Mono w w5 XS) := HT1.out.below hb5
                  clear hb5 HB0
                  cases e3 : isName nm
                  · have HR : Hid (V = false) := HN3.out (by rw [HB.out, e2, e3]; rfl)
                    go_wp2
                    go_ret
                    exact ⟨ret_b HR.out.symm, HT1.out.to⟩
                  have HR : Hid (V = (relocsB o.code.length (at1 + 1) (o.relocs.drop (0 + 1)) && PL)) := HN2.out (by rw [HB.out, e2, e3]; rfl)
                  go_wp2
                  exact ⟨⟨0 + 1, at1 + 1, by omega, by go_num, HT1.out, by omega, by omega, fun h => absurd h (by omega), HP, HR⟩, by simp [intOf]; omega⟩
              | succ k =>
                have hkl : k < o.relocs.length := by omega
                have hmk := HM.out k hkl rfl
                have kp := keep (HQ.out k hkl rfl) HT1.out.to
                generalize o.relocs[k].at' = pv at hmk kp
                subst hmk
                clear HQ HM hmj
                have dj : decide (0 < (k : Int) + 1) = true := decide_eq_true (by omega)
                have dk : IntKind.i64.wrap ((k : Int) + 1 - 1) = (k : Int) := by rw [IntKind.wrap_i64]; omega
                have dl : (k : Int) < (o.relocs.length : Int) := by omega
                have HFa : Hid (relAt o.code.length (pv + 1) ⟨at1, kd, md, nm⟩ = false → V = false) := fun h => by rw [HV0.out, h]; rfl
                have HN0 : Hid (relAt o.code.length (pv + 1) ⟨at1, kd, md, nm⟩ = true → V = (relocsB o.code.length (at1 + 1) (o.relocs.drop (k + 1 + 1)) && PL)) := fun h => by rw [HV0.out, h]; rfl
                clear HV0
                by_cases u1 : at1 < 0
                · have d1 : decide (at1 < 0) = true := decide_eq_true u1
                  have HR : Hid (V = false) := HFa.out (by simp [relAt]; omega)
                  go_quiet (fail)
                  go_wp2
                  go_ret
                  exact ⟨ret_b HR.out.symm, (HT1.out.below (below_drewN _ _ _)).to⟩
                have d1 : decide (at1 < 0) = false := decide_eq_false u1
                by_cases u2 : (o.code.length : Int) ≤ at1
                · have d2 : decide ((o.code.length : Int) ≤ at1) = true := decide_eq_true u2
                  have HR : Hid (V = false) := HFa.out (by simp [relAt]; omega)
                  go_quiet (fail)
                  go_wp2
                  go_ret
                  exact ⟨ret_b HR.out.symm, (HT1.out.below (below_drewN _ _ _)).to⟩
                have d2 : decide ((o.code.length : Int) ≤ at1) = false := decide_eq_false u2
                by_cases u3 : at1 ≤ pv
                · have d3 : decide (at1 ≤ pv) = true := decide_eq_true u3
                  have HR : Hid (V = false) := HFa.out (by simp [relAt]; omega)
                  go_quiet (fail)
                  go_wp2
                  go_ret
                  exact ⟨ret_b HR.out.symm, (HT1.out.below (below_drewN _ _ _)).to⟩
                have d3 : decide (at1 ≤ pv) = false := decide_eq_false u3
                by_cases u4 : kd < 1
                · have d4 : decide (kd < 1) = true := decide_eq_true u4
                  have HR : Hid (V = false) := HFa.out (by simp [relAt, relB_no (r := ⟨at1, kd, md, nm⟩) (.inl u4)])
                  go_quiet (fail)
                  go_wp2
                  go_ret
                  exact ⟨ret_b HR.out.symm, (HT1.out.below (below_drewN _ _ _)).to⟩
                have d4 : decide (kd < 1) = false := decide_eq_false u4
                by_cases u5 : 4 < kd
                · have d5 : decide (4 < kd) = true := decide_eq_true u5
                  have HR : Hid (V = false) := HFa.out (by simp [relAt, relB_no (r := ⟨at1, kd, md, nm⟩) (.inr u5)])
                  go_quiet (fail)
                  go_wp2
                  go_ret
                  exact ⟨ret_b HR.out.symm, (HT1.out.below (below_drewN _ _ _)).to⟩
                have d5 : decide (4 < kd) = false := decide_eq_false u5
                go_quiet (fail)
                have HN2 : Hid (relB ⟨at1, kd, md, nm⟩ = true → V = (relocsB o.code.length (at1 + 1) (o.relocs.drop (k + 1 + 1)) && PL)) := fun h => HN0.out (by simp [relAt, h]; omega)
                have HN3 : Hid (relB ⟨at1, kd, md, nm⟩ = false → V = false) := fun h => HFa.out (by simp [relAt, h])
                clear HN0 HFa
                replace HT1 : Hid (Mono w (WW.drewN nq) XS) := HT1.out.below (below_drewN _ _ _)
                replace HB0 : Hid (BoxC (WW.drewN nq) bR #[.int .i64 at1, .int .i64 kd, .string md, .string nm] 57) := HB0.out.below (below_drewN _ _ _)
                generalize WW.drewN nq = WV at *
                clear z0 z1 q4 q5
                have z1 := HB0.out.cell 1 rfl
                have z2 := HB0.out.cell 2 rfl
                have z3 := HB0.out.cell 3 rfl
                clear d1 d2 d4 d5 d3 dj dk dl kp
                by_cases u6 : kd = 1
                · subst u6
                  have HB : Hid (relB ⟨at1, 1, md, nm⟩ = (md.toList.isEmpty && nm.toList.isEmpty)) := rfl
                  cases e2 : md.toList.isEmpty
                  · have HR : Hid (V = false) := HN3.out (by rw [HB.out, e2]; rfl)
                    go_wp2
                    go_ret
                    exact ⟨ret_b HR.out.symm, HT1.out.to⟩
                  cases e3 : nm.toList.isEmpty
                  · have HR : Hid (V = false) := HN3.out (by rw [HB.out, e2, e3]; rfl)
                    go_wp2
                    go_ret
                    exact ⟨ret_b HR.out.symm, HT1.out.to⟩
                  have HR : Hid (V = (relocsB o.code.length (at1 + 1) (o.relocs.drop (k + 1 + 1)) && PL)) := HN2.out (by rw [HB.out, e2, e3]; rfl)
                  go_wp2
                  exact ⟨⟨k + 1 + 1, at1 + 1, by omega, by go_num, HT1.out, by omega, by omega, fun h => absurd h (by omega), HP, HR⟩, by simp [intOf]; omega⟩
                · have u6b : (kd == 1) = false := by simpa using u6
                  have HB : Hid (relB ⟨at1, kd, md, nm⟩ = (isName md && isName nm)) := by show _ = _; simp only [relB]; rw [if_neg u6, if_pos (by omega)]
                  have hC1 := rName md
                  have hC2 := rName nm
                  go_wp2_with (fail)
                  refine (hC1 _).mono ?_
                  rintro e w4 ⟨rfl, hb4⟩
                  replace HT1 : Hid (Mono w w4 XS) := HT1.out.below hb4
                  replace HB0 : Hid (BoxC w4 bR #[.int .i64 at1, .int .i64 kd, .string md, .string nm] 57) := HB0.out.below hb4
                  clear hb4
                  have z5 := HB0.out.cell 3 rfl
                  cases e2 : isName md
                  · have HR : Hid (V = false) := HN3.out (by rw [HB.out, e2]; rfl)
                    go_wp2
                    go_ret
                    exact ⟨ret_b HR.out.symm, HT1.out.to⟩
                  go_wp2_with (fail)
                  refine (hC2 _).mono ?_
                  rintro e w5 ⟨rfl, hb5⟩
                  replace HT1 : Hid (Mono w w5 XS) := HT1.out.below hb5
                  clear hb5 HB0
                  cases e3 : isName nm
                  · have HR : Hid (V = false) := HN3.out (by rw [HB.out, e2, e3]; rfl)
                    go_wp2
                    go_ret
                    exact ⟨ret_b HR.out.symm, HT1.out.to⟩
                  have HR : Hid (V = (relocsB o.code.length (at1 + 1) (o.relocs.drop (k + 1 + 1)) && PL)) := HN2.out (by rw [HB.out, e2, e3]; rfl)
                  go_wp2
                  exact ⟨⟨k + 1 + 1, at1 + 1, by omega, by go_num, HT1.out, by omega, by omega, fun h => absurd h (by omega), HP, HR⟩, by simp [intOf]; omega⟩
            · have HZ : Hid (V = (placesB o.procs o.code.length && (placesB o.lows o.low && placesB o.highs o.high))) := by
                show _ = _
                rw [HV0.out, List.drop_eq_nil_of_le (by omega), hPL.out]
                rfl
              clear HV0 hPL HM
              have y6 := hT.bx.cell 6 f6
              have y4 := hT.bx.cell 4 f4
              go_wp2_with (fail)
              refine (rPlaces o.procs _ o.code.length _ (h6.below hT.to)).mono ?_
              rintro e w5 ⟨rfl, hb5⟩
              replace hT := hT.below hb5
              cases r1 : placesB o.procs o.code.length
              · have HR : Hid (V = false) := by show _ = _; rw [HZ.out, r1]; rfl
                go_wp2
                go_ret
                exact ⟨ret_b HR.out.symm, hT.to⟩
              have y7 := hT.bx.cell 7 f7
              have y9 := hT.bx.cell 9 f9
              go_wp2_with (fail)
              refine (rPlaces o.lows _ o.low _ (h7.below hT.to)).mono ?_
              rintro e w6 ⟨rfl, hb6⟩
              replace hT := hT.below hb6
              cases r2 : placesB o.lows o.low
              · have HR : Hid (V = false) := by show _ = _; rw [HZ.out, r1, r2]; rfl
                go_wp2
                go_ret
                exact ⟨ret_b HR.out.symm, hT.to⟩
              have y8 := hT.bx.cell 8 f8
              have y10 := hT.bx.cell 10 f10
              go_wp2_with (fail)
              refine (rPlaces o.highs _ o.high _ (h8.below hT.to)).mono ?_
              rintro e w7 ⟨rfl, hb7⟩
              replace hT := hT.below hb7
              have HR : Hid (V = placesB o.highs o.high) := by show _ = _; rw [HZ.out, r1, r2]; rfl
              generalize placesB o.highs o.high = R at HR ⊢
              go_wp2
              go_ret
              exact ⟨ret_b HR.out.symm, hT.to⟩
end Go.Proofs.YthfeojjfehbgjaaGreatDoor.obj
