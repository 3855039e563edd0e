/- What the reference finds wrong first with objects: a contract. (Written by mkwrong.py: edit that.) -/
import Derived.Test.YtaiocbbcjdpjgaaGreatDoorLMLnkRefC
import Derived.Test.YtaiocbbcjdpjgaaGreatDoorLMObjRefM
namespace Go.Proofs.YtaiocbbcjdpjgaaGreatDoor.lnk
open Go.RowKit
open Go.Proofs.YtaiocbbcjdpjgaaGreatDoor.syn (isName eqS)
open Go.Proofs.YtaiocbbcjdpjgaaGreatDoor.mac (BoxC Ins grown_of_below)
open Go.Proofs.YtaiocbbcjdpjgaaGreatDoor.ord (tkd putd)
open Go.Proofs.YtaiocbbcjdpjgaaGreatDoor.obj (ObjD PlcD RelD Vals ObjAt PlcsIn RelsIn CodeIn FacesIn objV relV mayO rMayO)
open Go.Proofs.YtaiocbbcjdpjgaaGreatDoor.face (VarD ProcD FaceD FaceIn keep VarsIn ProcsIn IntsIn)
set_option linter.unusedVariables false
set_option linter.unusedSimpArgs false
set_option maxRecDepth 100000
/-- the answer's own box stays as it was made -/
structure Mn (w wr : World) : Prop where
  to : Below w.heap.size w wr
  bx : BoxC wr w.heap.size #[.int .i64 0, .int .i64 0, .int .i64 0] 46
theorem Mn.below {w wr w2 : World} (h : Mn w wr) (hb : Below wr.heap.size wr w2) : Mn w w2 := ⟨h.to.trans (hb.mono h.to.size), h.bx.below hb⟩
theorem Mn.alloc {w wr : World} (h : Mn w wr) (o : Obj) : Mn w (wr.alloc o) := h.below ((Below.refl _ _).alloc (Nat.le_refl _) o)
theorem res_wrong {W : World} {a0 a1 y0 y1 y2 : Value} (tl : List Value) (B : Nat) (h : BoxC W B #[y0, y1, y2] 46) (c : Tryz.prog.cellsOf 46 = 3) : (results Tryz.f50 (List.toArray (a0 :: a1 :: .pointer (some ⟨B, 0, none⟩) :: tl))).run Tryz.prog W = .ok (.agg #[y0, y1, y2]) W := by
  have z0 := h.cell 0 rfl
  have z1 := h.cell 1 rfl
  have z2 := h.cell 2 rfl
  simp [results, Tryz.f50, go_sem, z0, z1, z2]
/-- what is wrong ahead of the image -/
def wrongT (l : List ObjD) : Option (Int × Int × Int) :=
  (layR l).or ((impT (layP l).fcs 0 l).or ((relT (layP l).begs 0 l).or (mainT (layP l).begs (layP l).fcs)))
def trV (t : Option (Int × Int × Int)) : Value := .agg #[.int .i64 (t.getD (0, 0, 0)).1, .int .i64 (t.getD (0, 0, 0)).2.1, .int .i64 (t.getD (0, 0, 0)).2.2]
set_option maxHeartbeats 8000000 in
theorem rWrong {w : World} {l : List ObjD} {a : Option Addr} {c : Nat} (ho : ObjsIn w (.slice a l.length c) l) (hcap : l.length ≤ c) :
    Calls Tryz.prog 50 #[.slice a l.length c] w fun e w' => e = .returned (trV (wrongT l)) ∧ Below w.heap.size w w' := by
  have c3t : Tryz.prog.cellsOf 46 = 3 := by kernel_rfl
  have c13 : Tryz.prog.cellsOf 31 = 13 := by kernel_rfl
  have c3 : Tryz.prog.cellsOf 25 = 3 := by kernel_rfl
  have c4 : Tryz.prog.cellsOf 66 = 4 := by kernel_rfl
  have HM : Hid (Mn w (w.alloc (.cells #[.int .i64 0, .int .i64 0, .int .i64 0] 46))) := ⟨(Below.refl _ _).alloc (Nat.le_refl _) _, BoxC.new w _ _⟩
  obtain ⟨T, hT⟩ : ∃ T, T = wrongT l := ⟨_, rfl⟩
  rw [← hT]
  unfold wrongT at hT
  have hob := ho
  obtain ⟨a', c', e1, hll, hoc⟩ := ho
  cases e1
  by_cases h0 : l.length = 0
  · have HR : Hid (T = some (0, 1, 0)) := by show _ = _; rw [hT]; unfold layR; rw [if_pos (.inl h0)]; rfl
    rw [h0] at hob ⊢
    clear hT
    go_enter Tryz.func50, Tryz.ntmps50
    go_wp2
    have hbz := BoxC.new w #[.int .i64 0, .int .i64 1, .int .i64 0] 46
    refine bodyPost_ret (res_wrong _ _ hbz c3t) rfl ?_
    exact ⟨by rw [HR.out]; rfl, (Below.refl _ _).alloc (Nat.le_refl _) _⟩
  have h0' : ¬ (l.length : Int) < 1 := by omega
  have h0d : decide ((l.length : Int) < 1) = false := decide_eq_false h0'
  by_cases h6 : 6 < l.length
  · have HR : Hid (T = some (0, 1, 0)) := by show _ = _; rw [hT]; unfold layR; rw [if_pos (.inr h6)]; rfl
    have h6' : 6 < (l.length : Int) := by omega
    clear hT
    go_enter Tryz.func50, Tryz.ntmps50
    go_wp2
    have hbz := BoxC.new w #[.int .i64 0, .int .i64 1, .int .i64 0] 46
    refine bodyPost_ret (res_wrong _ _ hbz c3t) rfl ?_
    exact ⟨by rw [HR.out]; rfl, (Below.refl _ _).alloc (Nat.le_refl _) _⟩
  have h6' : ¬ 6 < (l.length : Int) := by omega
  unfold layR at hT
  rw [if_neg (by omega)] at hT
  obtain ⟨g, o, rfl, hcc⟩ := hoc (by intro e; rw [e] at h0; exact h0 rfl)
  clear hoc
  replace hcc : Hid (∀ i (h : i < l.length), ∃ x, ObjAt w x l[i] ∧ OCells w g (o + i * 13) l[i] x) := hcc
  obtain ⟨T1, hT1⟩ : ∃ T1, T1 = (impT (layP l).fcs 0 l).or ((relT (layP l).begs 0 l).or (mainT (layP l).begs (layP l).fcs)) := ⟨_, rfl⟩
  rw [← hT1] at hT
  replace hT1 : Hid (T1 = (impT (layP l).fcs 0 l).or ((relT (layP l).begs 0 l).or (mainT (layP l).begs (layP l).fcs))) := hT1
  obtain ⟨X, hX⟩ : ∃ X, X = layT 0 p0 l := ⟨_, rfl⟩
  rw [← hX] at hT
  replace hT : Hid (T = X.or T1) := hT
  have HX0 : Hid (X = layT 0 p0 l) := hX
  replace hX : Hid (X = layT ((0 : Nat) : Int) (layP (l.take 0)) (l.drop 0)) := hX
  have HOB : Hid (ObjsIn w (.slice (some ⟨g, o, none⟩) l.length c) l) := hob
  clear hob
  go_enter Tryz.func50, Tryz.ntmps50
  go_wp2
  go_loopw [3] (fun t wr => ∃ i : Nat, i ≤ l.length ∧ t = .int .i64 i ∧ Mn w wr ∧ (∀ o ∈ l.take i, mayO o = true) ∧ Hid (X = layT (i : Int) (layP (l.take i)) (l.drop i))) (fun t _ => l.length - (intOf t).toNat)
  case atStart => exact ⟨0, Nat.zero_le _, rfl, HM.out, (fun o ho => by cases ho), hX⟩
  case round =>
    clear HM hX
    obtain ⟨i, hi, rfl, hM, hmay, HT⟩ := hrel
    by_cases hlt : i < l.length
    · obtain ⟨x, hat, hcs⟩ := hcc.out i hlt
      rw [layT_at hlt, twice_is hi] at HT
      have hcs1 := hcs.below hM.to
      have hMod : Hid (∀ (W : World) (nm : ByteArray), Below w.heap.size w W → Calls Tryz.prog 90 #[.slice (some ⟨g, o, none⟩) i c, .string nm] W fun e w' => e = .returned (.int .i64 (modF nm 0 (l.take i))) ∧ w' = W) := fun W nm hb => rModule _ _ nm W ((HOB.out.cut i c hi).below hb)
      have hmn : ∀ o ∈ l.take (i + 1), o ∈ l.take i ∨ o = l[i] := fun o ho => by
        rw [List.take_succ_eq_append_getElem hlt] at ho
        rcases List.mem_append.1 ho with h | h
        · exact .inl h
        · exact .inr (List.mem_singleton.1 h)
      have hMy := rMayO l[i] x wr (hat.below hM.to)
      generalize l[i] = d at *
      obtain ⟨a1, c1, a2, c2, a3, c3', a4, c4', a5, c5, a6, c6, a7, c7, a8, c8, rfl⟩ := hat.shape
      obtain ⟨y0, y1, y2, y3, y4, y5, y6, y7, y8, y9, y10, y11, y12⟩ := hcs1
      dsimp only at y1 y2 y3 y4 y5 y6 y7 y8
      unfold objV at hMy
      dsimp only at hMy
      have hlt' : (i : Int) < (l.length : Int) := by omega
      have hic : (i : Int) ≤ (c : Int) := by omega
      cases hmy : mayO d
      · rw [hmy] at HT hMy
        have HR : Hid (T = some ((i : Int), 2, 0)) := by show _ = _; rw [hT.out, HT.out]; rfl
        clear HT
        go_wp2_with (fail)
        refine hMy.mono ?_
        rintro e w2 ⟨rfl, hb2⟩
        have HM : Hid (Mn w w2) := hM.below hb2
        clear hb2 hMy
        have HRB : Hid (BoxC (((w2.setCell ⟨w.heap.size, 0, none⟩ (.int .i64 (i : Int))).setCell ⟨w.heap.size, 1, none⟩ (.int .i64 2)).setCell ⟨w.heap.size, 2, none⟩ (.int .i64 0)) w.heap.size #[.int .i64 (i : Int), .int .i64 2, .int .i64 0] 46) := by
          have := ((HM.out.bx.set 0 (.int .i64 (i : Int))).set 1 (.int .i64 2)).set 2 (.int .i64 0)
          show BoxC _ _ _ _
          simpa using this
        have HBl : Hid (Below w.heap.size w (((w2.setCell ⟨w.heap.size, 0, none⟩ (.int .i64 (i : Int))).setCell ⟨w.heap.size, 1, none⟩ (.int .i64 2)).setCell ⟨w.heap.size, 2, none⟩ (.int .i64 0))) := ((HM.out.to.setCell (p := ⟨w.heap.size, 0, none⟩) (Nat.le_refl _) _).setCell (p := ⟨w.heap.size, 1, none⟩) (Nat.le_refl _) _).setCell (p := ⟨w.heap.size, 2, none⟩) (Nat.le_refl _) _
        have x0 := HM.out.bx.cell 0 rfl
        have x1 := HM.out.bx.cell 1 rfl
        have x2 := HM.out.bx.cell 2 rfl
        have f0 := HM.out.bx.fz 0
        have f1 := HM.out.bx.fz 1
        have f2 := HM.out.bx.fz 2
        go_wp2
        refine bodyPost_ret (res_wrong _ _ HRB.out c3t) rfl ?_
        exact ⟨by rw [HR.out]; rfl, HBl.out⟩
      · rw [hmy] at HT hMy
        go_wp2_with (fail)
        refine hMy.mono ?_
        rintro e w2 ⟨rfl, hb2⟩
        have HM : Hid (Mn w w2) := hM.below hb2
        have z0 := keep y0 hb2
        have HMd : Hid (∀ k, Calls Tryz.prog 90 #[.slice (some ⟨g, o, none⟩) i c, .string d.face.module] (w2.drewN k) fun e w' => e = .returned (.int .i64 (modF d.face.module 0 (l.take i))) ∧ w' = w2.drewN k) := fun k => hMod.out (w2.drewN k) d.face.module (HM.out.to.trans (below_drewN _ _ _))
        clear hb2 hMy hM y0 y1 y2 y3 y4 y5 y6 y7 y8 y9 y10 y11 y12 hat hcs hMod
        generalize modF d.face.module 0 (l.take i) = F at *
        by_cases hF : 0 ≤ F
        · rw [decide_eq_true hF] at HT
          have HR : Hid (T = some ((i : Int), 5, 0)) := by show _ = _; rw [hT.out, HT.out]; rfl
          clear HT
          go_wp2
          go_quiet (first | (go_at_call 90; refine Calls.quiet_of_same (HMd.out _)))
          replace HM : Hid (Mn w (w2.drewN nq)) := HM.out.below (below_drewN _ _ _)
          generalize w2.drewN nq = w3 at *
          have HRB : Hid (BoxC (((w3.setCell ⟨w.heap.size, 0, none⟩ (.int .i64 (i : Int))).setCell ⟨w.heap.size, 1, none⟩ (.int .i64 5)).setCell ⟨w.heap.size, 2, none⟩ (.int .i64 0)) w.heap.size #[.int .i64 (i : Int), .int .i64 5, .int .i64 0] 46) := by
            have := ((HM.out.bx.set 0 (.int .i64 (i : Int))).set 1 (.int .i64 5)).set 2 (.int .i64 0)
            show BoxC _ _ _ _
            simpa using this
          have HBl : Hid (Below w.heap.size w (((w3.setCell ⟨w.heap.size, 0, none⟩ (.int .i64 (i : Int))).setCell ⟨w.heap.size, 1, none⟩ (.int .i64 5)).setCell ⟨w.heap.size, 2, none⟩ (.int .i64 0))) := ((HM.out.to.setCell (p := ⟨w.heap.size, 0, none⟩) (Nat.le_refl _) _).setCell (p := ⟨w.heap.size, 1, none⟩) (Nat.le_refl _) _).setCell (p := ⟨w.heap.size, 2, none⟩) (Nat.le_refl _) _
          have x0 := HM.out.bx.cell 0 rfl
          have x1 := HM.out.bx.cell 1 rfl
          have x2 := HM.out.bx.cell 2 rfl
          have f0 := HM.out.bx.fz 0
          have f1 := HM.out.bx.fz 1
          have f2 := HM.out.bx.fz 2
          go_wp2
          refine bodyPost_ret (res_wrong _ _ HRB.out c3t) rfl ?_
          exact ⟨by rw [HR.out]; rfl, HBl.out⟩
        · rw [decide_eq_false hF] at HT
          have HR : Hid (X = layT ((i + 1 : Nat) : Int) (layP (l.take (i + 1))) (l.drop (i + 1))) := HT.out
          clear HT
          have HMA : Hid (∀ o ∈ l.take (i + 1), mayO o = true) := fun o ho => by
            rcases hmn o ho with h | h
            · exact hmay o h
            · rw [h]; exact hmy
          clear hmay hmn
          go_wp2
          go_quiet (first | (go_at_call 90; refine Calls.quiet_of_same (HMd.out _)))
          go_wp2
          exact ⟨⟨i + 1, by omega, by go_num, HM.out.below (below_drewN _ _ _), HMA.out, HR⟩, by simp [intOf]; omega⟩
    · obtain rfl : i = l.length := by omega
      have HLN : Hid (layT 0 p0 l = none) := by show _ = _; rw [← HX0.out, HT.out, List.drop_eq_nil_of_le (Nat.le_refl _)]; rfl
      replace hT : Hid (T = T1) := by show _ = _; rw [hT.out, HX0.out, HLN.out]; rfl
      rw [List.take_length] at hmay
      clear HT HX0 hi hlt
      obtain ⟨T2, hT2⟩ : ∃ T2, T2 = (relT (layP l).begs 0 l).or (mainT (layP l).begs (layP l).fcs) := ⟨_, rfl⟩
      replace hT : Hid (T = (impT (layP l).fcs ((0 : Nat) : Int) (l.drop 0)).or T2) := by show _ = _; rw [hT.out, hT1.out, hT2]; rfl
      replace hT2 : Hid (T2 = (relT (layP l).begs 0 l).or (mainT (layP l).begs (layP l).fcs)) := hT2
      clear hT1
      replace hmay : Hid (∀ o ∈ l, mayO o = true) := hmay
      have HM : Hid (Mn w wr) := hM
      clear hM
      go_wp2
      generalize wr = w1 at *
      go_loopw [4] (fun t wr => ∃ i : Nat, i ≤ l.length ∧ t = .int .i64 i ∧ Mn w wr ∧ Hid (T = (impT (layP l).fcs (i : Int) (l.drop i)).or T2)) (fun t _ => l.length - (intOf t).toNat)
      case atStart => exact ⟨0, Nat.zero_le _, rfl, HM.out, hT⟩
      case round =>
        clear HM hT w1
        obtain ⟨i, hi, rfl, hM, HT⟩ := hrel
        by_cases hlt : i < l.length
        · obtain ⟨x, hat, hcs⟩ := hcc.out i hlt
          have HI : Hid (T = ((impO (layP l).fcs (i : Int) ((0 : Nat) : Int) (l[i].imports.drop 0)).or (impT (layP l).fcs ((i + 1 : Nat) : Int) (l.drop (i + 1)))).or T2) := by show _ = _; rw [HT.out, impT_at hlt]; rfl
          clear HT
          have y3' := hcs.c3
          have him := hat.imps
          generalize l[i].imports = I at *
          obtain ⟨ia, ic, hia, hil, hic⟩ := him
          rw [hia] at y3'
          clear hia hat hcs
          replace hic : Hid (I ≠ [] → ∃ g o, ia = some ⟨g, o, none⟩ ∧ ∀ i (h : i < I.length), w.cell? ⟨g, o + i * 3, none⟩ = some (.string I[i].module) ∧ (∃ vv, w.cell? ⟨g, o + i * 3 + 1, none⟩ = some vv ∧ VarsIn w vv I[i].vars) ∧ (∃ pv, w.cell? ⟨g, o + i * 3 + 2, none⟩ = some pv ∧ ProcsIn w pv I[i].procs)) := hic
          obtain ⟨T3, hT3⟩ : ∃ T3, T3 = impT (layP l).fcs ((i + 1 : Nat) : Int) (l.drop (i + 1)) := ⟨_, rfl⟩
          rw [← hT3] at HI
          replace hT3 : Hid (T3 = impT (layP l).fcs ((i + 1 : Nat) : Int) (l.drop (i + 1))) := hT3
          have hlt' : (i : Int) < (l.length : Int) := by omega
          have HM : Hid (Mn w wr) := hM
          clear hM
          go_wp2
          generalize wr = w1 at *
          go_loopw [5] (fun t wr => ∃ k : Nat, k ≤ I.length ∧ t = .int .i64 k ∧ Mn w wr ∧ Hid (T = ((impO (layP l).fcs (i : Int) (k : Int) (I.drop k)).or T3).or T2)) (fun t _ => I.length - (intOf t).toNat)
          case atStart => exact ⟨0, Nat.zero_le _, rfl, HM.out, HI⟩
          case round =>
            clear HI HM w1
            obtain ⟨k, hk, rfl, hM, HI⟩ := hrel
            have y3 := keep y3' hM.to
            by_cases hkl : k < I.length
            · obtain ⟨g2, o2, rfl, hcj⟩ := hic.out (by intro e; rw [e] at hkl; simp at hkl)
              obtain ⟨k0, ⟨y, k1, hy⟩, ⟨z, k2, hz⟩⟩ := hcj k hkl
              have k0' := keep k0 hM.to
              have k1' := keep k1 hM.to
              have k2' := keep k2 hM.to
              rw [impO_at hkl] at HI
              have hMd := rModule l _ I[k].module wr (HOB.out.below hM.to)
              clear hcj k0 k1 k2
              generalize I[k] = q at *
              obtain ⟨ya, yc, rfl⟩ : ∃ a c, y = .slice a q.vars.length c := by obtain ⟨a, c, e, _⟩ := hy; exact ⟨a, c, e⟩
              obtain ⟨za, zc, rfl⟩ : ∃ a c, z = .slice a q.procs.length c := by obtain ⟨a, c, e, _⟩ := hz; exact ⟨a, c, e⟩
              have hkl' : (k : Int) < (I.length : Int) := by omega
              rcases fcs_mod (m := q.module) HLN.out with ⟨h1, h2⟩ | ⟨j, hj, h1, h2⟩
              · rw [h2] at HI
                have HR : Hid (T = some ((i : Int), 4, (k : Int))) := HI.out
                obtain ⟨F, hF⟩ : ∃ F, F = modF q.module 0 l := ⟨_, rfl⟩
                rw [← hF] at h1 hMd
                clear HI h2 hF
                have HM : Hid (Mn w wr) := hM
                clear hM
                go_wp2_with (fail)
                refine hMd.mono ?_
                rintro e w2 ⟨rfl, hw2⟩
                subst hw2
                clear hMd
                have HRB : Hid (BoxC (((w2.setCell ⟨w.heap.size, 0, none⟩ (.int .i64 (i : Int))).setCell ⟨w.heap.size, 1, none⟩ (.int .i64 4)).setCell ⟨w.heap.size, 2, none⟩ (.int .i64 (k : Int))) w.heap.size #[.int .i64 (i : Int), .int .i64 4, .int .i64 (k : Int)] 46) := by
                  have := ((HM.out.bx.set 0 (.int .i64 (i : Int))).set 1 (.int .i64 4)).set 2 (.int .i64 (k : Int))
                  show BoxC _ _ _ _
                  simpa using this
                have HBl : Hid (Below w.heap.size w (((w2.setCell ⟨w.heap.size, 0, none⟩ (.int .i64 (i : Int))).setCell ⟨w.heap.size, 1, none⟩ (.int .i64 4)).setCell ⟨w.heap.size, 2, none⟩ (.int .i64 (k : Int)))) := ((HM.out.to.setCell (p := ⟨w.heap.size, 0, none⟩) (Nat.le_refl _) _).setCell (p := ⟨w.heap.size, 1, none⟩) (Nat.le_refl _) _).setCell (p := ⟨w.heap.size, 2, none⟩) (Nat.le_refl _) _
                have x0 := HM.out.bx.cell 0 rfl
                have x1 := HM.out.bx.cell 1 rfl
                have x2 := HM.out.bx.cell 2 rfl
                have f0 := HM.out.bx.fz 0
                have f1 := HM.out.bx.fz 1
                have f2 := HM.out.bx.fz 2
                go_wp2
                refine bodyPost_ret (res_wrong _ _ HRB.out c3t) rfl ?_
                exact ⟨by rw [HR.out]; rfl, HBl.out⟩
              · rw [h2] at HI
                rw [h1] at hMd
                obtain ⟨xj, hatj, hcsj⟩ := hcc.out j hj
                have q0 := keep hcsj.c0 hM.to
                have q1 := keep hcsj.c1 hM.to
                have q2 := keep hcsj.c2 hM.to
                have hvj := hatj.vars
                have hpj := hatj.procs
                have hj' : (j : Int) < (l.length : Int) := by omega
                clear h1 h2 hcsj hatj
                generalize l[j] = dj at *
                obtain ⟨va, vc, hva⟩ : ∃ a c, xj.vv = .slice a dj.face.vars.length c := by obtain ⟨a, c, e, _⟩ := hvj; exact ⟨a, c, e⟩
                obtain ⟨pa, pc, hpa⟩ : ∃ a c, xj.pv = .slice a dj.face.procs.length c := by obtain ⟨a, c, e, _⟩ := hpj; exact ⟨a, c, e⟩
                rw [hva] at q1 hvj
                rw [hpa] at q2 hpj
                clear hva hpa
                generalize dj.face = fd at *
                have HM : Hid (Mn w wr) := hM
                clear hM
                go_wp2_with (fail)
                refine hMd.mono ?_
                rintro e w2 ⟨rfl, hw2⟩
                subst hw2
                clear hMd
                go_wp2
                refine wp_region_held_drew (S := fun W => Mn w W ∧ Below w2.heap.size w2 W) (by kernel_rfl) ⟨HM.out.below (Below.refl _ _).drew, (Below.refl _ _).drew⟩ (fun hS => ?_)
                generalize w2.drew = W at hS ⊢
                refine tkd (i := 0) (v := .slice (some ⟨g, o, none⟩) l.length c ) rfl rfl (by kernel_rfl) (by kernel_rfl) (by kernel_rfl) (fun _ _ _ h => h) (Or.inl ⟨by rfl, fun wq hSw => by skip; go_simp⟩) hS ?_
                simp only [List.setIfInBounds_toArray, List.set_cons_zero, List.set_cons_succ]
                refine tkd (i := 1) (v := .int .i64 (i : Int) ) rfl rfl (by kernel_rfl) (by kernel_rfl) (by kernel_rfl) (fun _ _ _ h => h) (Or.inl ⟨by rfl, fun wq hSw => by skip; go_simp⟩) hS ?_
                simp only [List.setIfInBounds_toArray, List.set_cons_zero, List.set_cons_succ]
                refine tkd (i := 2) (v := .pointer (some ⟨g, o + i * 13, none⟩) ) rfl rfl (by kernel_rfl) (by kernel_rfl) (by kernel_rfl) (fun _ _ _ h => h) (Or.inl ⟨by rfl, fun wq hSw => by have m := hlt; go_simp⟩) hS ?_
                simp only [List.setIfInBounds_toArray, List.set_cons_zero, List.set_cons_succ]
                refine tkd (i := 3) (v := .pointer (some ⟨g, o + i * 13 + 3, none⟩) ) rfl rfl (by kernel_rfl) (by kernel_rfl) (by kernel_rfl) (fun _ _ _ h => h) (Or.inl ⟨by rfl, fun wq hSw => by skip; go_simp⟩) hS ?_
                simp only [List.setIfInBounds_toArray, List.set_cons_zero, List.set_cons_succ]
                refine tkd (i := 4) (v := .slice (some ⟨g2, o2, none⟩) I.length ic ) rfl rfl (by kernel_rfl) (by kernel_rfl) (by kernel_rfl) (fun _ _ _ h => h) (Or.inl ⟨by rfl, fun wq hSw => by have m := keep y3 hSw.2; go_simp⟩) hS ?_
                simp only [List.setIfInBounds_toArray, List.set_cons_zero, List.set_cons_succ]
                refine tkd (i := 5) (v := .int .i64 (k : Int) ) rfl rfl (by kernel_rfl) (by kernel_rfl) (by kernel_rfl) (fun _ _ _ h => h) (Or.inl ⟨by rfl, fun wq hSw => by skip; go_simp⟩) hS ?_
                simp only [List.setIfInBounds_toArray, List.set_cons_zero, List.set_cons_succ]
                refine tkd (i := 6) (v := .pointer (some ⟨g2, o2 + k * 3, none⟩) ) rfl rfl (by kernel_rfl) (by kernel_rfl) (by kernel_rfl) (fun _ _ _ h => h) (Or.inl ⟨by rfl, fun wq hSw => by have m := hkl; go_simp⟩) hS ?_
                simp only [List.setIfInBounds_toArray, List.set_cons_zero, List.set_cons_succ]
                refine tkd (i := 7) (v := .agg #[.string q.module, .slice ya q.vars.length yc, .slice za q.procs.length zc] ) rfl rfl (by kernel_rfl) (by kernel_rfl) (by kernel_rfl) (fun _ _ _ h => h) (Or.inl ⟨by rfl, fun wq hSw => by have m0 := keep k0' hSw.2; have m1 := keep k1' hSw.2; have m2 := keep k2' hSw.2; go_simp⟩) hS ?_
                simp only [List.setIfInBounds_toArray, List.set_cons_zero, List.set_cons_succ]
                refine tkd (i := 8) (v := .slice (some ⟨g, o, none⟩) l.length c ) rfl rfl (by kernel_rfl) (by kernel_rfl) (by kernel_rfl) (fun _ _ _ h => h) (Or.inl ⟨by rfl, fun wq hSw => by skip; go_simp⟩) hS ?_
                simp only [List.setIfInBounds_toArray, List.set_cons_zero, List.set_cons_succ]
                refine tkd (i := 9) (v := .int .i64 (j : Int) ) rfl rfl (by kernel_rfl) (by kernel_rfl) (by kernel_rfl) (fun _ _ _ h => h) (Or.inl ⟨by rfl, fun wq hSw => by skip; go_simp⟩) hS ?_
                simp only [List.setIfInBounds_toArray, List.set_cons_zero, List.set_cons_succ]
                refine tkd (i := 10) (v := .pointer (some ⟨g, o + j * 13, none⟩) ) rfl rfl (by kernel_rfl) (by kernel_rfl) (by kernel_rfl) (fun _ _ _ h => h) (Or.inl ⟨by rfl, fun wq hSw => by have m := hj; go_simp⟩) hS ?_
                simp only [List.setIfInBounds_toArray, List.set_cons_zero, List.set_cons_succ]
                refine tkd (i := 11) (v := .pointer (some ⟨g, o + j * 13, none⟩) ) rfl rfl (by kernel_rfl) (by kernel_rfl) (by kernel_rfl) (fun _ _ _ h => h) (Or.inl ⟨by rfl, fun wq hSw => by skip; go_simp⟩) hS ?_
                simp only [List.setIfInBounds_toArray, List.set_cons_zero, List.set_cons_succ]
                refine tkd (i := 12) (v := .agg #[.string fd.module, .slice va fd.vars.length vc, .slice pa fd.procs.length pc] ) rfl rfl (by kernel_rfl) (by kernel_rfl) (by kernel_rfl) (fun _ _ _ h => h) (Or.inl ⟨by rfl, fun wq hSw => by have m0 := keep q0 hSw.2; have m1 := keep q1 hSw.2; have m2 := keep q2 hSw.2; go_simp⟩) hS ?_
                simp only [List.setIfInBounds_toArray, List.set_cons_zero, List.set_cons_succ]
                have hSm := face.rSame q fd (.agg #[.string q.module, .slice ya q.vars.length yc, .slice za q.procs.length zc]) (.agg #[.string fd.module, .slice va fd.vars.length vc, .slice pa fd.procs.length pc]) W ⟨_, _, rfl, hy.below hS.1.to, hz.below hS.1.to⟩ ⟨_, _, rfl, hvj.below hS.1.to, hpj.below hS.1.to⟩
                refine wpAnyH_ready (rs := [13]) (by kernel_rfl) (by simp) ?_
                refine AllReadyH.cons rfl (fun K hK => ?_) AllReadyH.nil
                go_simp
                go_at_call 39
                refine hSm.mono ?_
                rintro e w3 ⟨rfl, hb3⟩
                clear hSm
                replace hS : Mn w w3 ∧ Below w2.heap.size w2 w3 := ⟨hS.1.below hb3, hS.2.trans (hb3.mono hS.2.size)⟩
                clear hb3
                go_wp2
                refine hK.out _ _ hS (fun _ => ?_)
                clear hK K
                cases hsm : face.sameB q fd
                · have HR : Hid (T = some ((i : Int), 3, (k : Int))) := by show _ = _; rw [HI.out]; simp [hsm]
                  clear HI hsm
                  refine tkd (i := 14) (v := .bool true ) rfl rfl (by kernel_rfl) (by kernel_rfl) (by kernel_rfl) (fun _ _ _ h => h) (Or.inl ⟨by rfl, fun wq hSw => by skip; go_simp⟩) hS ?_
                  simp only [List.setIfInBounds_toArray, List.set_cons_zero, List.set_cons_succ]
                  refine wpAnyH_done (by kernel_rfl) ?_ _
                  replace HM : Hid (Mn w w3) := hS.1
                  have HRB : Hid (BoxC (((w3.setCell ⟨w.heap.size, 0, none⟩ (.int .i64 (i : Int))).setCell ⟨w.heap.size, 1, none⟩ (.int .i64 3)).setCell ⟨w.heap.size, 2, none⟩ (.int .i64 (k : Int))) w.heap.size #[.int .i64 (i : Int), .int .i64 3, .int .i64 (k : Int)] 46) := by
                    have := ((HM.out.bx.set 0 (.int .i64 (i : Int))).set 1 (.int .i64 3)).set 2 (.int .i64 (k : Int))
                    show BoxC _ _ _ _
                    simpa using this
                  have HBl : Hid (Below w.heap.size w (((w3.setCell ⟨w.heap.size, 0, none⟩ (.int .i64 (i : Int))).setCell ⟨w.heap.size, 1, none⟩ (.int .i64 3)).setCell ⟨w.heap.size, 2, none⟩ (.int .i64 (k : Int)))) := ((HM.out.to.setCell (p := ⟨w.heap.size, 0, none⟩) (Nat.le_refl _) _).setCell (p := ⟨w.heap.size, 1, none⟩) (Nat.le_refl _) _).setCell (p := ⟨w.heap.size, 2, none⟩) (Nat.le_refl _) _
                  have x0 := HM.out.bx.cell 0 rfl
                  have x1 := HM.out.bx.cell 1 rfl
                  have x2 := HM.out.bx.cell 2 rfl
                  have f0 := HM.out.bx.fz 0
                  have f1 := HM.out.bx.fz 1
                  have f2 := HM.out.bx.fz 2
                  go_wp2
                  refine bodyPost_ret (res_wrong _ _ HRB.out c3t) rfl ?_
                  exact ⟨by rw [HR.out]; rfl, HBl.out⟩
                · have HR : Hid (T = ((impO (layP l).fcs (i : Int) ((k + 1 : Nat) : Int) (I.drop (k + 1))).or T3).or T2) := by show _ = _; rw [HI.out]; simp [hsm]
                  clear HI hsm
                  refine tkd (i := 14) (v := .bool false ) rfl rfl (by kernel_rfl) (by kernel_rfl) (by kernel_rfl) (fun _ _ _ h => h) (Or.inl ⟨by rfl, fun wq hSw => by skip; go_simp⟩) hS ?_
                  simp only [List.setIfInBounds_toArray, List.set_cons_zero, List.set_cons_succ]
                  refine wpAnyH_done (by kernel_rfl) ?_ _
                  go_wp2
                  exact ⟨⟨k + 1, by omega, by go_num, hS.1, HR⟩, by simp [intOf]; omega⟩
            · have HN : Hid (T = T3.or T2) := by show _ = _; rw [HI.out, List.drop_eq_nil_of_le (by omega)]; rfl
              clear HI
              have HM : Hid (Mn w wr) := hM
              clear hM
              go_wp2
              exact ⟨⟨i + 1, by omega, by go_num, HM.out, by show _ = _; rw [HN.out, hT3.out]⟩, by simp [intOf]; omega⟩
        · have HN : Hid (T = T2) := by show _ = _; rw [HT.out, List.drop_eq_nil_of_le (by omega)]; rfl
          obtain rfl : i = l.length := by omega
          clear HT hlt hi
          have HM : Hid (Mn w wr) := hM
          clear hM
          go_wp2
          obtain ⟨T4, hT4⟩ : ∃ T4, T4 = mainT (layP l).begs (layP l).fcs := ⟨_, rfl⟩
          have HR0 : Hid (T = (relT (layP l).begs ((0 : Nat) : Int) (l.drop 0)).or T4) := by show _ = _; rw [HN.out, hT2.out, hT4]; rfl
          replace hT4 : Hid (T4 = mainT (layP l).begs (layP l).fcs) := hT4
          clear HN hT2
          generalize wr = w1 at *
          go_loopw [7] (fun t wr => ∃ i : Nat, i ≤ l.length ∧ t = .int .i64 i ∧ Mn w wr ∧ Hid (T = (relT (layP l).begs (i : Int) (l.drop i)).or T4)) (fun t _ => l.length - (intOf t).toNat)
          case atStart => exact ⟨0, Nat.zero_le _, rfl, HM.out, HR0⟩
          case round =>
            clear HM HR0 w1
            obtain ⟨i, hi, rfl, hM, HT⟩ := hrel
            by_cases hlt : i < l.length
            · obtain ⟨x, hat, hcs⟩ := hcc.out i hlt
              have HI : Hid (T = ((relO (layP l).begs l[i] (i : Int) ((0 : Nat) : Int) (l[i].relocs.drop 0)).or (relT (layP l).begs ((i + 1 : Nat) : Int) (l.drop (i + 1)))).or T4) := by show _ = _; rw [HT.out, relT_at hlt]; rfl
              clear HT
              have hdm := hmay.out l[i] (List.getElem_mem hlt)
              have HRI : Hid (∀ r ∈ l[i].relocs, (((layP l).begs (askedF l[i] r)).isSome && knowsF l[i] r) = !relBad l l[i] r) := fun r hr => rel_is HLN.out (List.getElem_mem hlt) (rels_ok (may_mod (may_parts hdm).1) _ 0 (Int.le_refl _) (may_parts hdm).2.2.2.1 r hr).1
              clear hdm
              generalize l[i] = d at *
              obtain ⟨a1, c1, a2, c2, a3, c3', a4, c4', a5, c5, a6, c6, a7, c7, a8, c8, rfl⟩ := hat.shape
              have HAT : Hid (ObjAt w _ d) := hat
              have HCS : Hid (OCells w g (o + i * 13) d _) := hcs
              have him := hat.rels
              dsimp only at him
              obtain ⟨ia, ic, hia, hil, hic⟩ := him
              simp only [Value.slice.injEq, true_and] at hia
              obtain ⟨rfl, rfl⟩ := hia
              clear hat hcs
              replace hic : Hid (d.relocs ≠ [] → ∃ g o, a5 = some ⟨g, o, none⟩ ∧ ∀ i (h : i < d.relocs.length), w.cell? ⟨g, o + i * 4, none⟩ = some (.int .i64 d.relocs[i].at') ∧ w.cell? ⟨g, o + i * 4 + 1, none⟩ = some (.int .i64 d.relocs[i].kind) ∧ w.cell? ⟨g, o + i * 4 + 2, none⟩ = some (.string d.relocs[i].module) ∧ w.cell? ⟨g, o + i * 4 + 3, none⟩ = some (.string d.relocs[i].name)) := hic
              obtain ⟨T3, hT3⟩ : ∃ T3, T3 = relT (layP l).begs ((i + 1 : Nat) : Int) (l.drop (i + 1)) := ⟨_, rfl⟩
              rw [← hT3] at HI
              replace hT3 : Hid (T3 = relT (layP l).begs ((i + 1 : Nat) : Int) (l.drop (i + 1))) := hT3
              have hlt' : (i : Int) < (l.length : Int) := by omega
              have HM : Hid (Mn w wr) := hM
              clear hM
              go_wp2
              generalize wr = w1 at *
              go_loopw [8] (fun t wr => ∃ k : Nat, k ≤ d.relocs.length ∧ t = .int .i64 k ∧ Mn w wr ∧ Hid (T = ((relO (layP l).begs d (i : Int) (k : Int) (d.relocs.drop k)).or T3).or T4)) (fun t _ => d.relocs.length - (intOf t).toNat)
              case atStart => exact ⟨0, Nat.zero_le _, rfl, HM.out, HI⟩
              case round =>
                clear HI HM w1
                obtain ⟨k, hk, rfl, hM, HI⟩ := hrel
                have y5 := keep HCS.out.c5 hM.to
                dsimp only at y5
                by_cases hkl : k < d.relocs.length
                · obtain ⟨g2, o2, rfl, hcj⟩ := hic.out (by intro e; rw [e] at hkl; simp at hkl)
                  obtain ⟨k0, k1, k2, k3⟩ := hcj k hkl
                  replace k0 := keep k0 hM.to
                  replace k1 := keep k1 hM.to
                  replace k2 := keep k2 hM.to
                  replace k3 := keep k3 hM.to
                  rw [relO_at hkl, HRI.out _ (List.getElem_mem hkl)] at HI
                  clear hcj
                  generalize d.relocs[k] = r at *
                  obtain ⟨ra, kd, md, nm⟩ := r
                  dsimp only at k0 k1 k2 k3
                  have hkl' : (k : Int) < (d.relocs.length : Int) := by omega
                  have HM2 : Hid (Mn w (wr.alloc (.cells #[.int .i64 ra, .int .i64 kd, .string md, .string nm] 66))) := hM.alloc _
                  have HBR : Hid (BoxC (wr.alloc (.cells #[.int .i64 ra, .int .i64 kd, .string md, .string nm] 66)) wr.heap.size #[.int .i64 ra, .int .i64 kd, .string md, .string nm] 66) := BoxC.new wr _ _
                  go_wp2
                  clear k0 k1 k2 k3 y5 hM
                  generalize wr.alloc (.cells #[.int .i64 ra, .int .i64 kd, .string md, .string nm] 66) = w2 at *
                  generalize wr.heap.size = B at *
                  refine wp_region_held_drew (S := fun W => Mn w W ∧ Below w2.heap.size w2 W) (by kernel_rfl) ⟨HM2.out.below (Below.refl _ _).drew, (Below.refl _ _).drew⟩ (fun hS => ?_)
                  generalize w2.drew = W at hS ⊢
                  by_cases k1 : kd = 1
                  · subst k1
                    have HR : Hid (T = ((relO (layP l).begs d (i : Int) ((k + 1 : Nat) : Int) (d.relocs.drop (k + 1))).or T3).or T4) := by show _ = _; rw [HI.out]; simp [relBad]
                    clear HI
                    refine tkd (i := 0) (v := .pointer (some ⟨B, 1, none⟩) ) rfl rfl (by kernel_rfl) (by kernel_rfl) (by kernel_rfl) (fun _ _ _ h => h) (Or.inl ⟨by rfl, fun wq hSw => by skip; go_simp⟩) hS ?_
                    simp only [List.setIfInBounds_toArray, List.set_cons_zero, List.set_cons_succ]
                    refine tkd (i := 1) (v := .int .i64 1 ) rfl rfl (by kernel_rfl) (by kernel_rfl) (by kernel_rfl) (fun _ _ _ h => h) (Or.inl ⟨by rfl, fun wq hSw => by have m := keep (HBR.out.cell 1 rfl) hSw.2; go_simp⟩) hS ?_
                    simp only [List.setIfInBounds_toArray, List.set_cons_zero, List.set_cons_succ]
                    refine tkd (i := 2) (v := .bool false ) rfl rfl (by kernel_rfl) (by kernel_rfl) (by kernel_rfl) (fun _ _ _ h => h) (Or.inl ⟨by rfl, fun wq hSw => by skip; go_simp⟩) hS ?_
                    simp only [List.setIfInBounds_toArray, List.set_cons_zero, List.set_cons_succ]
                    refine tkd (i := 3) (v := .bool false ) rfl rfl (by kernel_rfl) (by kernel_rfl) (by kernel_rfl) (fun _ _ _ h => h) (Or.inl ⟨by rfl, fun wq hSw => by skip; go_simp⟩) hS ?_
                    simp only [List.setIfInBounds_toArray, List.set_cons_zero, List.set_cons_succ]
                    refine tkd (i := 4) (v := undef) rfl rfl (by kernel_rfl) (by kernel_rfl) (by kernel_rfl) (fun _ _ _ h => h) (Or.inr ⟨by rfl, rfl⟩) hS ?_
                    simp only [List.setIfInBounds_toArray, List.set_cons_zero, List.set_cons_succ]
                    refine tkd (i := 5) (v := undef) rfl rfl (by kernel_rfl) (by kernel_rfl) (by kernel_rfl) (fun _ _ _ h => h) (Or.inr ⟨by rfl, rfl⟩) hS ?_
                    simp only [List.setIfInBounds_toArray, List.set_cons_zero, List.set_cons_succ]
                    refine tkd (i := 6) (v := undef) rfl rfl (by kernel_rfl) (by kernel_rfl) (by kernel_rfl) (fun _ _ _ h => h) (Or.inr ⟨by rfl, rfl⟩) hS ?_
                    simp only [List.setIfInBounds_toArray, List.set_cons_zero, List.set_cons_succ]
                    refine tkd (i := 7) (v := undef) rfl rfl (by kernel_rfl) (by kernel_rfl) (by kernel_rfl) (fun _ _ _ h => h) (Or.inr ⟨by rfl, rfl⟩) hS ?_
                    simp only [List.setIfInBounds_toArray, List.set_cons_zero, List.set_cons_succ]
                    refine tkd (i := 8) (v := undef) rfl rfl (by kernel_rfl) (by kernel_rfl) (by kernel_rfl) (fun _ _ _ h => h) (Or.inr ⟨by rfl, rfl⟩) hS ?_
                    simp only [List.setIfInBounds_toArray, List.set_cons_zero, List.set_cons_succ]
                    refine tkd (i := 9) (v := undef) rfl rfl (by kernel_rfl) (by kernel_rfl) (by kernel_rfl) (fun _ _ _ h => h) (Or.inr ⟨by rfl, rfl⟩) hS ?_
                    simp only [List.setIfInBounds_toArray, List.set_cons_zero, List.set_cons_succ]
                    refine tkd (i := 10) (v := undef) rfl rfl (by kernel_rfl) (by kernel_rfl) (by kernel_rfl) (fun _ _ _ h => h) (Or.inr ⟨by rfl, rfl⟩) hS ?_
                    simp only [List.setIfInBounds_toArray, List.set_cons_zero, List.set_cons_succ]
                    refine tkd (i := 11) (v := undef) rfl rfl (by kernel_rfl) (by kernel_rfl) (by kernel_rfl) (fun _ _ _ h => h) (Or.inr ⟨by rfl, rfl⟩) hS ?_
                    simp only [List.setIfInBounds_toArray, List.set_cons_zero, List.set_cons_succ]
                    refine tkd (i := 12) (v := undef) rfl rfl (by kernel_rfl) (by kernel_rfl) (by kernel_rfl) (fun _ _ _ h => h) (Or.inr ⟨by rfl, rfl⟩) hS ?_
                    simp only [List.setIfInBounds_toArray, List.set_cons_zero, List.set_cons_succ]
                    refine tkd (i := 13) (v := undef) rfl rfl (by kernel_rfl) (by kernel_rfl) (by kernel_rfl) (fun _ _ _ h => h) (Or.inr ⟨by rfl, rfl⟩) hS ?_
                    simp only [List.setIfInBounds_toArray, List.set_cons_zero, List.set_cons_succ]
                    refine tkd (i := 14) (v := undef) rfl rfl (by kernel_rfl) (by kernel_rfl) (by kernel_rfl) (fun _ _ _ h => h) (Or.inr ⟨by rfl, rfl⟩) hS ?_
                    simp only [List.setIfInBounds_toArray, List.set_cons_zero, List.set_cons_succ]
                    refine tkd (i := 15) (v := undef) rfl rfl (by kernel_rfl) (by kernel_rfl) (by kernel_rfl) (fun _ _ _ h => h) (Or.inr ⟨by rfl, rfl⟩) hS ?_
                    simp only [List.setIfInBounds_toArray, List.set_cons_zero, List.set_cons_succ]
                    refine tkd (i := 16) (v := undef) rfl rfl (by kernel_rfl) (by kernel_rfl) (by kernel_rfl) (fun _ _ _ h => h) (Or.inr ⟨by rfl, rfl⟩) hS ?_
                    simp only [List.setIfInBounds_toArray, List.set_cons_zero, List.set_cons_succ]
                    refine tkd (i := 17) (v := undef) rfl rfl (by kernel_rfl) (by kernel_rfl) (by kernel_rfl) (fun _ _ _ h => h) (Or.inr ⟨by rfl, rfl⟩) hS ?_
                    simp only [List.setIfInBounds_toArray, List.set_cons_zero, List.set_cons_succ]
                    refine tkd (i := 18) (v := .bool false ) rfl rfl (by kernel_rfl) (by kernel_rfl) (by kernel_rfl) (fun _ _ _ h => h) (Or.inl ⟨by rfl, fun wq hSw => by skip; go_simp⟩) hS ?_
                    simp only [List.setIfInBounds_toArray, List.set_cons_zero, List.set_cons_succ]
                    refine wpAnyH_done (by kernel_rfl) ?_ _
                    go_wp2
                    exact ⟨⟨k + 1, by omega, by go_num, hS.1, HR⟩, by simp [intOf]; omega⟩
                  have k1b : (kd != 1) = true := by simp [k1]
                  have hBad : relBad l d ⟨ra, kd, md, nm⟩ = (!knowsR d md || decide (standsF l kd md nm < 0)) := by unfold relBad; rw [k1b]; rfl
                  rw [hBad] at HI
                  clear hBad
                  refine tkd (i := 0) (v := .pointer (some ⟨B, 1, none⟩) ) rfl rfl (by kernel_rfl) (by kernel_rfl) (by kernel_rfl) (fun _ _ _ h => h) (Or.inl ⟨by rfl, fun wq hSw => by skip; go_simp⟩) hS ?_
                  simp only [List.setIfInBounds_toArray, List.set_cons_zero, List.set_cons_succ]
                  refine tkd (i := 1) (v := .int .i64 kd ) rfl rfl (by kernel_rfl) (by kernel_rfl) (by kernel_rfl) (fun _ _ _ h => h) (Or.inl ⟨by rfl, fun wq hSw => by have m := keep (HBR.out.cell 1 rfl) hSw.2; go_simp⟩) hS ?_
                  simp only [List.setIfInBounds_toArray, List.set_cons_zero, List.set_cons_succ]
                  refine tkd (i := 2) (v := .bool true ) rfl rfl (by kernel_rfl) (by kernel_rfl) (by kernel_rfl) (fun _ _ _ h => h) (Or.inl ⟨by rfl, fun wq hSw => by have m := k1b; go_simp⟩) hS ?_
                  simp only [List.setIfInBounds_toArray, List.set_cons_zero, List.set_cons_succ]
                  refine tkd (i := 3) (v := .bool true ) rfl rfl (by kernel_rfl) (by kernel_rfl) (by kernel_rfl) (fun _ _ _ h => h) (Or.inl ⟨by rfl, fun wq hSw => by skip; go_simp⟩) hS ?_
                  simp only [List.setIfInBounds_toArray, List.set_cons_zero, List.set_cons_succ]
                  refine tkd (i := 4) (v := .slice (some ⟨g, o, none⟩) l.length c ) rfl rfl (by kernel_rfl) (by kernel_rfl) (by kernel_rfl) (fun _ _ _ h => h) (Or.inl ⟨by rfl, fun wq hSw => by skip; go_simp⟩) hS ?_
                  simp only [List.setIfInBounds_toArray, List.set_cons_zero, List.set_cons_succ]
                  refine tkd (i := 5) (v := .int .i64 (i : Int) ) rfl rfl (by kernel_rfl) (by kernel_rfl) (by kernel_rfl) (fun _ _ _ h => h) (Or.inl ⟨by rfl, fun wq hSw => by skip; go_simp⟩) hS ?_
                  simp only [List.setIfInBounds_toArray, List.set_cons_zero, List.set_cons_succ]
                  refine tkd (i := 6) (v := .pointer (some ⟨g, o + i * 13, none⟩) ) rfl rfl (by kernel_rfl) (by kernel_rfl) (by kernel_rfl) (fun _ _ _ h => h) (Or.inl ⟨by rfl, fun wq hSw => by have m := hlt; go_simp⟩) hS ?_
                  simp only [List.setIfInBounds_toArray, List.set_cons_zero, List.set_cons_succ]
                  refine tkd (i := 7) (v := .agg #[.string d.face.module, .slice a1 d.face.vars.length c1, .slice a2 d.face.procs.length c2, .slice a3 d.imports.length c3', .slice a4 d.code.length c4', .slice (some ⟨g2, o2, none⟩) d.relocs.length c5, .slice a6 d.procs.length c6, .slice a7 d.lows.length c7, .slice a8 d.highs.length c8, .int .i64 d.low, .int .i64 d.high, .int .i64 d.lowF, .int .i64 d.highF] ) rfl rfl (by kernel_rfl) (by kernel_rfl) (by kernel_rfl) (fun _ _ _ h => h) (Or.inl ⟨by rfl, fun wq hSw => by have hh := HCS.out.below hSw.1.to; obtain ⟨m0, m1, m2, m3, m4, m5, m6, m7, m8, m9, m10, m11, m12⟩ := hh; dsimp only at m1 m2 m3 m4 m5 m6 m7 m8; go_simp⟩) hS ?_
                  simp only [List.setIfInBounds_toArray, List.set_cons_zero, List.set_cons_succ]
                  refine tkd (i := 8) (v := .pointer (some ⟨B, 2, none⟩) ) rfl rfl (by kernel_rfl) (by kernel_rfl) (by kernel_rfl) (fun _ _ _ h => h) (Or.inl ⟨by rfl, fun wq hSw => by skip; go_simp⟩) hS ?_
                  simp only [List.setIfInBounds_toArray, List.set_cons_zero, List.set_cons_succ]
                  refine tkd (i := 9) (v := .string md ) rfl rfl (by kernel_rfl) (by kernel_rfl) (by kernel_rfl) (fun _ _ _ h => h) (Or.inl ⟨by rfl, fun wq hSw => by have m := keep (HBR.out.cell 2 rfl) hSw.2; go_simp⟩) hS ?_
                  simp only [List.setIfInBounds_toArray, List.set_cons_zero, List.set_cons_succ]
                  have hKn := rKnows d ⟨.slice a1 d.face.vars.length c1, .slice a2 d.face.procs.length c2, .slice a3 d.imports.length c3', .slice a4 d.code.length c4', .slice (some ⟨g2, o2, none⟩) d.relocs.length c5, .slice a6 d.procs.length c6, .slice a7 d.lows.length c7, .slice a8 d.highs.length c8⟩ md W (HAT.out.below hS.1.to)
                  unfold objV at hKn
                  dsimp only at hKn
                  refine wpAnyH_ready (rs := [10]) (by kernel_rfl) (by simp) ?_
                  refine AllReadyH.cons rfl (fun K hK => ?_) AllReadyH.nil
                  go_simp
                  go_at_call 91
                  refine hKn.mono ?_
                  rintro e w3 ⟨rfl, hb3⟩
                  clear hKn
                  replace hS : Mn w w3 ∧ Below w2.heap.size w2 w3 := ⟨hS.1.below hb3, hS.2.trans (hb3.mono hS.2.size)⟩
                  clear hb3
                  go_wp2
                  refine hK.out _ _ hS (fun _ => ?_)
                  clear hK K
                  cases hkn : knowsR d md
                  · have HR : Hid (T = some ((i : Int), 4, (k : Int))) := by show _ = _; rw [HI.out, hkn]; simp
                    clear HI hkn
                    refine tkd (i := 11) (v := .bool true ) rfl rfl (by kernel_rfl) (by kernel_rfl) (by kernel_rfl) (fun _ _ _ h => h) (Or.inl ⟨by rfl, fun wq hSw => by skip; go_simp⟩) hS ?_
                    simp only [List.setIfInBounds_toArray, List.set_cons_zero, List.set_cons_succ]
                    refine tkd (i := 12) (v := .bool true ) rfl rfl (by kernel_rfl) (by kernel_rfl) (by kernel_rfl) (fun _ _ _ h => h) (Or.inl ⟨by rfl, fun wq hSw => by skip; go_simp⟩) hS ?_
                    simp only [List.setIfInBounds_toArray, List.set_cons_zero, List.set_cons_succ]
                    refine tkd (i := 13) (v := undef) rfl rfl (by kernel_rfl) (by kernel_rfl) (by kernel_rfl) (fun _ _ _ h => h) (Or.inr ⟨by rfl, rfl⟩) hS ?_
                    simp only [List.setIfInBounds_toArray, List.set_cons_zero, List.set_cons_succ]
                    refine tkd (i := 14) (v := undef) rfl rfl (by kernel_rfl) (by kernel_rfl) (by kernel_rfl) (fun _ _ _ h => h) (Or.inr ⟨by rfl, rfl⟩) hS ?_
                    simp only [List.setIfInBounds_toArray, List.set_cons_zero, List.set_cons_succ]
                    refine tkd (i := 15) (v := undef) rfl rfl (by kernel_rfl) (by kernel_rfl) (by kernel_rfl) (fun _ _ _ h => h) (Or.inr ⟨by rfl, rfl⟩) hS ?_
                    simp only [List.setIfInBounds_toArray, List.set_cons_zero, List.set_cons_succ]
                    refine tkd (i := 16) (v := undef) rfl rfl (by kernel_rfl) (by kernel_rfl) (by kernel_rfl) (fun _ _ _ h => h) (Or.inr ⟨by rfl, rfl⟩) hS ?_
                    simp only [List.setIfInBounds_toArray, List.set_cons_zero, List.set_cons_succ]
                    refine tkd (i := 17) (v := .bool true ) rfl rfl (by kernel_rfl) (by kernel_rfl) (by kernel_rfl) (fun _ _ _ h => h) (Or.inl ⟨by rfl, fun wq hSw => by skip; go_simp⟩) hS ?_
                    simp only [List.setIfInBounds_toArray, List.set_cons_zero, List.set_cons_succ]
                    refine tkd (i := 18) (v := .bool true ) rfl rfl (by kernel_rfl) (by kernel_rfl) (by kernel_rfl) (fun _ _ _ h => h) (Or.inl ⟨by rfl, fun wq hSw => by skip; go_simp⟩) hS ?_
                    simp only [List.setIfInBounds_toArray, List.set_cons_zero, List.set_cons_succ]
                    refine wpAnyH_done (by kernel_rfl) ?_ _
                    have HM : Hid (Mn w w3) := hS.1
                    clear hS
                    have HRB : Hid (BoxC (((w3.setCell ⟨w.heap.size, 0, none⟩ (.int .i64 (i : Int))).setCell ⟨w.heap.size, 1, none⟩ (.int .i64 4)).setCell ⟨w.heap.size, 2, none⟩ (.int .i64 (k : Int))) w.heap.size #[.int .i64 (i : Int), .int .i64 4, .int .i64 (k : Int)] 46) := by
                      have := ((HM.out.bx.set 0 (.int .i64 (i : Int))).set 1 (.int .i64 4)).set 2 (.int .i64 (k : Int))
                      show BoxC _ _ _ _
                      simpa using this
                    have HBl : Hid (Below w.heap.size w (((w3.setCell ⟨w.heap.size, 0, none⟩ (.int .i64 (i : Int))).setCell ⟨w.heap.size, 1, none⟩ (.int .i64 4)).setCell ⟨w.heap.size, 2, none⟩ (.int .i64 (k : Int)))) := ((HM.out.to.setCell (p := ⟨w.heap.size, 0, none⟩) (Nat.le_refl _) _).setCell (p := ⟨w.heap.size, 1, none⟩) (Nat.le_refl _) _).setCell (p := ⟨w.heap.size, 2, none⟩) (Nat.le_refl _) _
                    have x0 := HM.out.bx.cell 0 rfl
                    have x1 := HM.out.bx.cell 1 rfl
                    have x2 := HM.out.bx.cell 2 rfl
                    have f0 := HM.out.bx.fz 0
                    have f1 := HM.out.bx.fz 1
                    have f2 := HM.out.bx.fz 2
                    go_wp2
                    refine bodyPost_ret (res_wrong _ _ HRB.out c3t) rfl ?_
                    exact ⟨by rw [HR.out]; rfl, HBl.out⟩
                  · rw [hkn] at HI
                    clear hkn
                    refine tkd (i := 11) (v := .bool false ) rfl rfl (by kernel_rfl) (by kernel_rfl) (by kernel_rfl) (fun _ _ _ h => h) (Or.inl ⟨by rfl, fun wq hSw => by skip; go_simp⟩) hS ?_
                    simp only [List.setIfInBounds_toArray, List.set_cons_zero, List.set_cons_succ]
                    refine tkd (i := 12) (v := .bool false ) rfl rfl (by kernel_rfl) (by kernel_rfl) (by kernel_rfl) (fun _ _ _ h => h) (Or.inl ⟨by rfl, fun wq hSw => by skip; go_simp⟩) hS ?_
                    simp only [List.setIfInBounds_toArray, List.set_cons_zero, List.set_cons_succ]
                    refine tkd (i := 13) (v := .slice (some ⟨g, o, none⟩) l.length c ) rfl rfl (by kernel_rfl) (by kernel_rfl) (by kernel_rfl) (fun _ _ _ h => h) (Or.inl ⟨by rfl, fun wq hSw => by skip; go_simp⟩) hS ?_
                    simp only [List.setIfInBounds_toArray, List.set_cons_zero, List.set_cons_succ]
                    refine tkd (i := 14) (v := .agg #[.int .i64 ra, .int .i64 kd, .string md, .string nm] ) rfl rfl (by kernel_rfl) (by kernel_rfl) (by kernel_rfl) (fun _ _ _ h => h) (Or.inl ⟨by rfl, fun wq hSw => by have m0 := keep (HBR.out.cell 0 rfl) hSw.2; have m1 := keep (HBR.out.cell 1 rfl) hSw.2; have m2 := keep (HBR.out.cell 2 rfl) hSw.2; have m3 := keep (HBR.out.cell 3 rfl) hSw.2; go_simp⟩) hS ?_
                    simp only [List.setIfInBounds_toArray, List.set_cons_zero, List.set_cons_succ]
                    have hSt := rStands l _ ⟨ra, kd, md, nm⟩ w3 (HOB.out.below hS.1.to) hmay.out (by omega)
                    unfold relV at hSt
                    dsimp only at hSt
                    refine wpAnyH_ready (rs := [15]) (by kernel_rfl) (by simp) ?_
                    refine AllReadyH.cons rfl (fun K hK => ?_) AllReadyH.nil
                    go_simp
                    go_at_call 53
                    refine hSt.mono ?_
                    rintro e w4 ⟨rfl, hb4⟩
                    clear hSt
                    replace hS : Mn w w4 ∧ Below w2.heap.size w2 w4 := ⟨hS.1.below hb4, hS.2.trans (hb4.mono hS.2.size)⟩
                    clear hb4
                    go_wp2
                    refine hK.out _ _ hS (fun _ => ?_)
                    clear hK K
                    generalize standsF l kd md nm = F at *
                    by_cases hF : F < 0
                    · have dF : decide (F < 0) = true := decide_eq_true hF
                      have HR : Hid (T = some ((i : Int), 4, (k : Int))) := by show _ = _; rw [HI.out, dF]; rfl
                      clear HI
                      refine tkd (i := 16) (v := .bool true ) rfl rfl (by kernel_rfl) (by kernel_rfl) (by kernel_rfl) (fun _ _ _ h => h) (Or.inl ⟨by rfl, fun wq hSw => by have m := dF; go_simp⟩) hS ?_
                      simp only [List.setIfInBounds_toArray, List.set_cons_zero, List.set_cons_succ]
                      refine tkd (i := 17) (v := .bool true ) rfl rfl (by kernel_rfl) (by kernel_rfl) (by kernel_rfl) (fun _ _ _ h => h) (Or.inl ⟨by rfl, fun wq hSw => by skip; go_simp⟩) hS ?_
                      simp only [List.setIfInBounds_toArray, List.set_cons_zero, List.set_cons_succ]
                      refine tkd (i := 18) (v := .bool true ) rfl rfl (by kernel_rfl) (by kernel_rfl) (by kernel_rfl) (fun _ _ _ h => h) (Or.inl ⟨by rfl, fun wq hSw => by skip; go_simp⟩) hS ?_
                      simp only [List.setIfInBounds_toArray, List.set_cons_zero, List.set_cons_succ]
                      refine wpAnyH_done (by kernel_rfl) ?_ _
                      have HM : Hid (Mn w w4) := hS.1
                      clear hS
                      have HRB : Hid (BoxC (((w4.setCell ⟨w.heap.size, 0, none⟩ (.int .i64 (i : Int))).setCell ⟨w.heap.size, 1, none⟩ (.int .i64 4)).setCell ⟨w.heap.size, 2, none⟩ (.int .i64 (k : Int))) w.heap.size #[.int .i64 (i : Int), .int .i64 4, .int .i64 (k : Int)] 46) := by
                        have := ((HM.out.bx.set 0 (.int .i64 (i : Int))).set 1 (.int .i64 4)).set 2 (.int .i64 (k : Int))
                        show BoxC _ _ _ _
                        simpa using this
                      have HBl : Hid (Below w.heap.size w (((w4.setCell ⟨w.heap.size, 0, none⟩ (.int .i64 (i : Int))).setCell ⟨w.heap.size, 1, none⟩ (.int .i64 4)).setCell ⟨w.heap.size, 2, none⟩ (.int .i64 (k : Int)))) := ((HM.out.to.setCell (p := ⟨w.heap.size, 0, none⟩) (Nat.le_refl _) _).setCell (p := ⟨w.heap.size, 1, none⟩) (Nat.le_refl _) _).setCell (p := ⟨w.heap.size, 2, none⟩) (Nat.le_refl _) _
                      have x0 := HM.out.bx.cell 0 rfl
                      have x1 := HM.out.bx.cell 1 rfl
                      have x2 := HM.out.bx.cell 2 rfl
                      have f0 := HM.out.bx.fz 0
                      have f1 := HM.out.bx.fz 1
                      have f2 := HM.out.bx.fz 2
                      go_wp2
                      refine bodyPost_ret (res_wrong _ _ HRB.out c3t) rfl ?_
                      exact ⟨by rw [HR.out]; rfl, HBl.out⟩
                    · have dF : decide (F < 0) = false := decide_eq_false hF
                      have HR : Hid (T = ((relO (layP l).begs d (i : Int) ((k + 1 : Nat) : Int) (d.relocs.drop (k + 1))).or T3).or T4) := by show _ = _; rw [HI.out, dF]; rfl
                      clear HI
                      refine tkd (i := 16) (v := .bool false ) rfl rfl (by kernel_rfl) (by kernel_rfl) (by kernel_rfl) (fun _ _ _ h => h) (Or.inl ⟨by rfl, fun wq hSw => by have m := dF; go_simp⟩) hS ?_
                      simp only [List.setIfInBounds_toArray, List.set_cons_zero, List.set_cons_succ]
                      refine tkd (i := 17) (v := .bool false ) rfl rfl (by kernel_rfl) (by kernel_rfl) (by kernel_rfl) (fun _ _ _ h => h) (Or.inl ⟨by rfl, fun wq hSw => by skip; go_simp⟩) hS ?_
                      simp only [List.setIfInBounds_toArray, List.set_cons_zero, List.set_cons_succ]
                      refine tkd (i := 18) (v := .bool false ) rfl rfl (by kernel_rfl) (by kernel_rfl) (by kernel_rfl) (fun _ _ _ h => h) (Or.inl ⟨by rfl, fun wq hSw => by skip; go_simp⟩) hS ?_
                      simp only [List.setIfInBounds_toArray, List.set_cons_zero, List.set_cons_succ]
                      refine wpAnyH_done (by kernel_rfl) ?_ _
                      go_wp2
                      exact ⟨⟨k + 1, by omega, by go_num, hS.1, HR⟩, by simp [intOf]; omega⟩
                · have HN : Hid (T = T3.or T4) := by show _ = _; rw [HI.out, List.drop_eq_nil_of_le (by omega)]; rfl
                  clear HI
                  have HM : Hid (Mn w wr) := hM
                  clear hM
                  go_wp2
                  exact ⟨⟨i + 1, by omega, by go_num, HM.out, by show _ = _; rw [HN.out, hT3.out]⟩, by simp [intOf]; omega⟩
            · have HN : Hid (T = T4) := by show _ = _; rw [HT.out, List.drop_eq_nil_of_le (by omega)]; rfl
              obtain rfl : i = l.length := by omega
              clear HT hlt hi
              have hMn := rMain l _ wr (HOB.out.below hM.to) hmay.out (by omega)
              have HM : Hid (Mn w wr) := hM
              clear hM
              rcases main_is HLN.out with ⟨h1, h2⟩ | ⟨h1, h2, _⟩
              · have HR : Hid (T = some (0, 4, 0)) := by show _ = _; rw [HN.out, hT4.out, h2]
                clear HN hT4 h2
                go_wp2_with (fail)
                refine hMn.mono ?_
                rintro e w3 ⟨rfl, hb3⟩
                replace HM : Hid (Mn w w3) := HM.out.below hb3
                clear hMn hb3
                generalize mainF l = F at *
                have HRB : Hid (BoxC (((w3.setCell ⟨w.heap.size, 0, none⟩ (.int .i64 0)).setCell ⟨w.heap.size, 1, none⟩ (.int .i64 4)).setCell ⟨w.heap.size, 2, none⟩ (.int .i64 0)) w.heap.size #[.int .i64 0, .int .i64 4, .int .i64 0] 46) := by
                  have := ((HM.out.bx.set 0 (.int .i64 0)).set 1 (.int .i64 4)).set 2 (.int .i64 0)
                  show BoxC _ _ _ _
                  simpa using this
                have HBl : Hid (Below w.heap.size w (((w3.setCell ⟨w.heap.size, 0, none⟩ (.int .i64 0)).setCell ⟨w.heap.size, 1, none⟩ (.int .i64 4)).setCell ⟨w.heap.size, 2, none⟩ (.int .i64 0))) := ((HM.out.to.setCell (p := ⟨w.heap.size, 0, none⟩) (Nat.le_refl _) _).setCell (p := ⟨w.heap.size, 1, none⟩) (Nat.le_refl _) _).setCell (p := ⟨w.heap.size, 2, none⟩) (Nat.le_refl _) _
                have x0 := HM.out.bx.cell 0 rfl
                have x1 := HM.out.bx.cell 1 rfl
                have x2 := HM.out.bx.cell 2 rfl
                have f0 := HM.out.bx.fz 0
                have f1 := HM.out.bx.fz 1
                have f2 := HM.out.bx.fz 2
                go_wp2
                refine bodyPost_ret (res_wrong _ _ HRB.out c3t) rfl ?_
                exact ⟨by rw [HR.out]; rfl, HBl.out⟩
              · have HR : Hid (T = none) := by show _ = _; rw [HN.out, hT4.out, h2]
                clear HN hT4 h2
                go_wp2_with (fail)
                refine hMn.mono ?_
                rintro e w3 ⟨rfl, hb3⟩
                replace HM : Hid (Mn w w3) := HM.out.below hb3
                clear hMn hb3
                generalize mainF l = F at *
                have HRB : Hid (BoxC (((w3.setCell ⟨w.heap.size, 0, none⟩ (.int .i64 0)).setCell ⟨w.heap.size, 1, none⟩ (.int .i64 0)).setCell ⟨w.heap.size, 2, none⟩ (.int .i64 0)) w.heap.size #[.int .i64 0, .int .i64 0, .int .i64 0] 46) := by
                  have := ((HM.out.bx.set 0 (.int .i64 0)).set 1 (.int .i64 0)).set 2 (.int .i64 0)
                  show BoxC _ _ _ _
                  simpa using this
                have HBl : Hid (Below w.heap.size w (((w3.setCell ⟨w.heap.size, 0, none⟩ (.int .i64 0)).setCell ⟨w.heap.size, 1, none⟩ (.int .i64 0)).setCell ⟨w.heap.size, 2, none⟩ (.int .i64 0))) := ((HM.out.to.setCell (p := ⟨w.heap.size, 0, none⟩) (Nat.le_refl _) _).setCell (p := ⟨w.heap.size, 1, none⟩) (Nat.le_refl _) _).setCell (p := ⟨w.heap.size, 2, none⟩) (Nat.le_refl _) _
                have x0 := HM.out.bx.cell 0 rfl
                have x1 := HM.out.bx.cell 1 rfl
                have x2 := HM.out.bx.cell 2 rfl
                have f0 := HM.out.bx.fz 0
                have f1 := HM.out.bx.fz 1
                have f2 := HM.out.bx.fz 2
                go_wp2
                refine bodyPost_ret (res_wrong _ _ HRB.out c3t) rfl ?_
                exact ⟨by rw [HR.out]; rfl, HBl.out⟩


end Go.Proofs.YtaiocbbcjdpjgaaGreatDoor.lnk
