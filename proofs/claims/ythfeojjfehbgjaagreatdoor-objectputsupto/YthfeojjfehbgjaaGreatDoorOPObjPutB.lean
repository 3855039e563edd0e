/- What the writer's object answers: a contract. -/
import Derived.Test.YthfeojjfehbgjaaGreatDoorOPObjPutA
namespace Go.Proofs.YthfeojjfehbgjaaGreatDoor.obj
open Go.RowKit
open Go.Proofs.YthfeojjfehbgjaaGreatDoor.mac (BoxC grown_of_below Ins)
open Go.Proofs.YthfeojjfehbgjaaGreatDoor.face (VarD ProcD FaceD VarsIn ProcsIn IntsIn FaceIn varV procV keep)
set_option linter.unusedVariables false
set_option linter.unusedSimpArgs false
set_option maxRecDepth 100000
section
variable {w0 w : World} {r c : Nat} {v : Value} {L : By}

theorem cell5 : Tryz.prog.cellsOf 55 = 5 := by kernel_rfl
theorem cellR : Tryz.prog.cellsOf 57 = 4 := by kernel_rfl
theorem cellP : Tryz.prog.cellsOf 85 = 2 := by kernel_rfl
theorem cellO : Tryz.prog.cellsOf 31 = 13 := by kernel_rfl
set_option maxHeartbeats 1000000 in
theorem clFace (h : WR w r v L) (hk : Cap w r v c) (ho : Old w0 w r) (x : FaceD) (vv pv : Value) (hv : VarsIn w0 vv x.vars) (hp : ProcsIn w0 pv x.procs) (hn : L.length + (faceB x).length ≤ 1000000000) :
    Calls Tryz.prog 43 #[faceV x vv pv, .pointer (some ⟨c, 0, none⟩)] w (WE r w v L (faceB x)) := by
  have c3 : Tryz.prog.cellsOf 25 = 3 := face.cell3
  obtain ⟨va, vc, rfl⟩ : ∃ a c, vv = .slice a x.vars.length c := by obtain ⟨a, c, e, _⟩ := hv; exact ⟨a, c, e⟩
  obtain ⟨pa, pc, rfl⟩ : ∃ a c, pv = .slice a x.procs.length c := by obtain ⟨a, c, e, _⟩ := hp; exact ⟨a, c, e⟩
  unfold faceV
  have hC := oFace (h.alloc (.cells #[.string x.module, .slice va x.vars.length vc, .slice pa x.procs.length pc] 25)) (ho.alloc (.cells #[.string x.module, .slice va x.vars.length vc, .slice pa x.procs.length pc] 25)) x _ _ hv hp hn
  unfold faceV at hC
  replace hk := hk.alloc (.cells #[.string x.module, .slice va x.vars.length vc, .slice pa x.procs.length pc] 25)
  have m0 := hk.cell 0 rfl
  go_enter Tryz.func43, Tryz.ntmps43
  go_wp2_with (fail)
  refine hC.mono ?_
  rintro e w2 ⟨rfl, v2, hW2, hF2⟩
  go_wp2
  go_end0
  exact ⟨rfl, v2, hW2, (Fr.new r v w _).trans hF2⟩
set_option maxHeartbeats 1000000 in
theorem clIns (h : WR w r v L) (hk : Cap w r v c) (x : Ins) (hn : L.length + (insB x).length ≤ 1000000000) :
    Calls Tryz.prog 45 #[insV x, .pointer (some ⟨c, 0, none⟩)] w (WE r w v L (insB x)) := by
  obtain ⟨op, a, b, d, n⟩ := x
  have hn2 : L.length + 40 ≤ 1000000000 := by
    simp only [insB, intsB_len, List.length_cons, List.length_nil] at hn
    omega
  clear hn
  have c5 := cell5
  unfold insV
  have hb := h.lk (#[.int .i64 op, .int .i64 a, .int .i64 b, .int .i64 d, .int .i64 n]) 55
  replace hk := hk.alloc (.cells (#[.int .i64 op, .int .i64 a, .int .i64 b, .int .i64 d, .int .i64 n]) 55)
  have hW1 := h.alloc (.cells (#[.int .i64 op, .int .i64 a, .int .i64 b, .int .i64 d, .int .i64 n]) 55)
  have hF := Fr.new r v w (.cells (#[.int .i64 op, .int .i64 a, .int .i64 b, .int .i64 d, .int .i64 n]) 55)
  have m0 := hk.cell 0 rfl
  have y0 := hb.cell 0 rfl
  have y1 := hb.cell 1 rfl
  have y2 := hb.cell 2 rfl
  have y3 := hb.cell 3 rfl
  have hC := oInts4 hW1 op a b d (by omega)
  rw [World.size_alloc] at hC
  go_enter Tryz.func45, Tryz.ntmps45
  go_wp2_with (fail)
  refine (hC).mono ?_
  rintro e w2 ⟨rfl, v2, hW2, hF2⟩
  replace hk := hk.fr hF2
  replace hb := hb.fr hF2
  replace hF := hF.trans hF2
  clear hF2
  have m0 := hk.cell 0 rfl
  have y4 := hb.cell 4 rfl
  go_wp2_with (fail)
  refine (oNum hW2 n (by rw [List.length_append, intsB_len]; simp only [List.length_cons, List.length_nil]; omega)).mono ?_
  rintro e w3 ⟨rfl, v3, hW3, hF3⟩
  replace hF := hF.trans hF3
  clear hF3
  go_wp2
  go_end0
  refine ⟨rfl, v3, ?_, hF⟩
  simp only [insB, intsB, List.map_cons, List.map_nil, List.flatten_cons, List.flatten_nil, List.append_nil, List.append_assoc] at hW3 ⊢
  exact hW3
set_option maxHeartbeats 1000000 in
theorem clRel (h : WR w r v L) (hk : Cap w r v c) (x : RelD) (hn : L.length + (relBy x).length ≤ 1000000000) :
    Calls Tryz.prog 49 #[relV x, .pointer (some ⟨c, 0, none⟩)] w (WE r w v L (relBy x)) := by
  obtain ⟨at1, kd, md, nm⟩ := x
  have e8 : ∀ x : ByteArray, (textB x).length = 8 + x.size := fun x => by rw [textB, List.length_append, numB_len]; rfl
  have ei : ∀ x y : Int, (intsB [x, y]).length = 16 := fun x y => rfl
  have hn2 : L.length + 16 + (8 + md.size) + (8 + nm.size) ≤ 1000000000 := by
    simp only [relBy, List.length_append, e8, ei] at hn
    omega
  clear hn
  have c4 := cellR
  unfold relV
  have hb := h.lk (#[.int .i64 at1, .int .i64 kd, .string md, .string nm]) 57
  replace hk := hk.alloc (.cells (#[.int .i64 at1, .int .i64 kd, .string md, .string nm]) 57)
  have hW1 := h.alloc (.cells (#[.int .i64 at1, .int .i64 kd, .string md, .string nm]) 57)
  have hF := Fr.new r v w (.cells (#[.int .i64 at1, .int .i64 kd, .string md, .string nm]) 57)
  have m0 := hk.cell 0 rfl
  have y0 := hb.cell 0 rfl
  have y1 := hb.cell 1 rfl
  have hC := oInts2 hW1 at1 kd (by omega)
  rw [World.size_alloc] at hC
  go_enter Tryz.func49, Tryz.ntmps49
  go_wp2_with (fail)
  refine (hC).mono ?_
  rintro e w2 ⟨rfl, v2, hW2, hF2⟩
  replace hk := hk.fr hF2
  replace hb := hb.fr hF2
  replace hF := hF.trans hF2
  clear hF2
  have m0 := hk.cell 0 rfl
  have y2 := hb.cell 2 rfl
  go_wp2_with (fail)
  refine (oText hW2 md (by simp only [List.length_append, ei]; omega)).mono ?_
  rintro e w3 ⟨rfl, v3, hW3, hF3⟩
  replace hk := hk.fr hF3
  replace hb := hb.fr hF3
  replace hF := hF.trans hF3
  clear hF3
  have m0 := hk.cell 0 rfl
  have y3 := hb.cell 3 rfl
  go_wp2_with (fail)
  refine (oText hW3 nm (by simp only [List.length_append, ei, e8]; omega)).mono ?_
  rintro e w4 ⟨rfl, v4, hW4, hF4⟩
  replace hF := hF.trans hF4
  clear hF4
  go_wp2
  go_end0
  refine ⟨rfl, v4, ?_, hF⟩
  simpa [relBy, List.append_assoc] using hW4
set_option maxHeartbeats 1000000 in
theorem clPlc (h : WR w r v L) (hk : Cap w r v c) (x : PlcD) (hn : L.length + (plcBy x).length ≤ 1000000000) :
    Calls Tryz.prog 52 #[plcV x, .pointer (some ⟨c, 0, none⟩)] w (WE r w v L (plcBy x)) := by
  obtain ⟨nm, at1⟩ := x
  have e8 : ∀ x : ByteArray, (textB x).length = 8 + x.size := fun x => by rw [textB, List.length_append, numB_len]; rfl
  have hn2 : L.length + (8 + nm.size) + 8 ≤ 1000000000 := by
    simp only [plcBy, List.length_append, e8, numB_len] at hn
    omega
  clear hn
  have c2 := cellP
  unfold plcV
  have hb := h.lk (#[.string nm, .int .i64 at1]) 85
  replace hk := hk.alloc (.cells (#[.string nm, .int .i64 at1]) 85)
  have hW1 := h.alloc (.cells (#[.string nm, .int .i64 at1]) 85)
  have hF := Fr.new r v w (.cells (#[.string nm, .int .i64 at1]) 85)
  have m0 := hk.cell 0 rfl
  have y0 := hb.cell 0 rfl
  go_enter Tryz.func52, Tryz.ntmps52
  go_wp2_with (fail)
  refine (oText hW1 nm (by omega)).mono ?_
  rintro e w2 ⟨rfl, v2, hW2, hF2⟩
  replace hk := hk.fr hF2
  replace hb := hb.fr hF2
  replace hF := hF.trans hF2
  clear hF2
  have m0 := hk.cell 0 rfl
  have y1 := hb.cell 1 rfl
  go_wp2_with (fail)
  refine (oInts1 hW2 at1 (by simp only [List.length_append, e8]; omega)).mono ?_
  rintro e w3 ⟨rfl, v3, hW3, hF3⟩
  replace hF := hF.trans hF3
  clear hF3
  go_wp2
  go_end0
  refine ⟨rfl, v3, ?_, hF⟩
  simpa [plcBy, List.append_assoc] using hW3
set_option maxHeartbeats 1000000 in
theorem pFaces (h : WR w r v L) (hk : Cap w r v c) (ho : Old w0 w r) (l : List FaceD) (u : Value) (hu : FacesIn w0 u l) (hn : L.length + (listB faceB l).length ≤ 1000000000) :
    Calls Tryz.prog 42 #[.pointer (some ⟨r, 0, none⟩), u, .func (.func 43) #[] #[.pointer (some ⟨c, 0, none⟩)]] w (WE r w v L (listB faceB l)) := by
  obtain ⟨a, cp, rfl, hl, hc⟩ := hu
  have c3 : Tryz.prog.cellsOf 25 = 3 := face.cell3
  have hn2 : L.length + 8 + (l.map faceB).flatten.length ≤ 1000000000 := by
    simp only [listB, List.length_append, numB_len] at hn
    omega
  clear hn
  go_enter Tryz.func42, Tryz.ntmps42
  go_wp2_with (fail)
  refine (oInts1 h (l.length : Int) (by omega)).mono ?_
  rintro e w1 ⟨rfl, v1, hW1, hF1⟩
  replace hk := hk.fr hF1
  replace ho := ho.fr h hF1
  generalize hM : L ++ numB (l.length : Int) = M at hW1
  have hM1 : M.length = L.length + 8 := by rw [← hM, List.length_append, numB_len]
  have hM2 : Hid (M.length + (l.map faceB).flatten.length ≤ 1000000000) := by show _ ≤ _; omega
  replace hM : Hid (L ++ numB (l.length : Int) = M) := hM
  clear hM1 hn2
  go_wp2
  go_loopw [15] (fun t wr => ∃ (j : Nat) (u : Value), j ≤ l.length ∧ t = .int .i64 j ∧ WR wr r u (M ++ ((l.take j).map faceB).flatten) ∧ Cap wr r u c ∧ Old w0 wr r ∧ Fr r v u w wr) (fun t _ => l.length - (intOf t).toNat)
  case atStart => exact ⟨0, v1, by omega, rfl, by simpa using hW1, hk, ho, hF1⟩
  case round =>
    clear hW1 hk ho hF1
    obtain ⟨j, u, hj, rfl, hW, hk, ho, hF⟩ := hrel
    by_cases hq : j < l.length
    · obtain ⟨g, o, rfl, hcc⟩ := hc (by intro e; rw [e] at hq; simp at hq)
      have hr := flat_room faceB l j hq
      have hb2 := hM2.out
      have hlen : (M ++ ((l.take j).map faceB).flatten).length + (faceB l[j]).length ≤ 1000000000 := by rw [List.length_append]; omega
      clear hr hb2
      have HE : Hid (((l.take (j + 1)).map faceB).flatten = ((l.take j).map faceB).flatten ++ faceB l[j]) := flat_take faceB l j hq
      have hcj := hcc j hq
      clear hcc hc
      generalize l[j] = x at *
      obtain ⟨k0, ⟨y, k1, hy⟩, ⟨z, k2, hz⟩⟩ := hcj
      replace k0 := keep k0 ho.to
      replace k1 := keep k1 ho.to
      replace k2 := keep k2 ho.to
      obtain ⟨ya, yc, rfl⟩ : ∃ a c, y = .slice a x.vars.length c := by obtain ⟨a, c, e, _⟩ := hy; exact ⟨a, c, e⟩
      obtain ⟨za, zc, rfl⟩ : ∃ a c, z = .slice a x.procs.length c := by obtain ⟨a, c, e, _⟩ := hz; exact ⟨a, c, e⟩
      have hB := Fr.new r u wr (.cells #[.string x.module, .slice ya x.vars.length yc, .slice za x.procs.length zc] 25)
      go_wp2_with (fail)
      refine (clFace (hW.alloc _) (hk.alloc _) (ho.alloc _) x _ _ hy hz hlen).mono ?_
      rintro e w2 ⟨rfl, v2, hW2, hF2⟩
      go_wp2
      go_roundw
      case rel => exact ⟨j + 1, v2, by omega, by go_num, by rw [HE.out, ← List.append_assoc]; exact hW2, (hk.fr (hB.trans hF2)), ho.fr hW (hB.trans hF2), hF.trans (hB.trans hF2)⟩
      case measure => simp [intOf]; omega
    · go_wp2
      go_end0
      have : l.take j = l := List.take_of_length_le (by omega)
      rw [this, ← hM.out, List.append_assoc] at hW
      exact ⟨rfl, u, hW, hF⟩
set_option maxHeartbeats 1000000 in
theorem pCode (h : WR w r v L) (hk : Cap w r v c) (ho : Old w0 w r) (l : List Ins) (u : Value) (hu : CodeIn w0 u l) (hn : L.length + (listB insB l).length ≤ 1000000000) :
    Calls Tryz.prog 44 #[.pointer (some ⟨r, 0, none⟩), u, .func (.func 45) #[] #[.pointer (some ⟨c, 0, none⟩)]] w (WE r w v L (listB insB l)) := by
  obtain ⟨a, cp, rfl, hl, hc⟩ := hu
  have c5 := cell5
  have hn2 : L.length + 8 + (l.map insB).flatten.length ≤ 1000000000 := by
    simp only [listB, List.length_append, numB_len] at hn
    omega
  clear hn
  go_enter Tryz.func44, Tryz.ntmps44
  go_wp2_with (fail)
  refine (oInts1 h (l.length : Int) (by omega)).mono ?_
  rintro e w1 ⟨rfl, v1, hW1, hF1⟩
  replace hk := hk.fr hF1
  replace ho := ho.fr h hF1
  generalize hM : L ++ numB (l.length : Int) = M at hW1
  have hM1 : M.length = L.length + 8 := by rw [← hM, List.length_append, numB_len]
  have hM2 : Hid (M.length + (l.map insB).flatten.length ≤ 1000000000) := by show _ ≤ _; omega
  replace hM : Hid (L ++ numB (l.length : Int) = M) := hM
  clear hM1 hn2
  go_wp2
  go_loopw [15] (fun t wr => ∃ (j : Nat) (u : Value), j ≤ l.length ∧ t = .int .i64 j ∧ WR wr r u (M ++ ((l.take j).map insB).flatten) ∧ Cap wr r u c ∧ Old w0 wr r ∧ Fr r v u w wr) (fun t _ => l.length - (intOf t).toNat)
  case atStart => exact ⟨0, v1, by omega, rfl, by simpa using hW1, hk, ho, hF1⟩
  case round =>
    clear hW1 hk ho hF1
    obtain ⟨j, u, hj, rfl, hW, hk, ho, hF⟩ := hrel
    by_cases hq : j < l.length
    · obtain ⟨g, o, rfl, hcc⟩ := hc (by intro e; rw [e] at hq; simp at hq)
      have hr := flat_room insB l j hq
      have hb2 := hM2.out
      have hlen : (M ++ ((l.take j).map insB).flatten).length + (insB l[j]).length ≤ 1000000000 := by rw [List.length_append]; omega
      clear hr hb2
      have HE : Hid (((l.take (j + 1)).map insB).flatten = ((l.take j).map insB).flatten ++ insB l[j]) := flat_take insB l j hq
      have hcj := hcc j hq
      clear hcc hc
      generalize l[j] = x at *
      obtain ⟨k0, k1, k2, k3, k4⟩ := hcj
      replace k0 := keep k0 ho.to
      replace k1 := keep k1 ho.to
      replace k2 := keep k2 ho.to
      replace k3 := keep k3 ho.to
      replace k4 := keep k4 ho.to
      have hB := Fr.new r u wr (.cells #[.int .i64 x.op, .int .i64 x.a, .int .i64 x.b, .int .i64 x.c, .int .i64 x.n] 55)
      go_wp2_with (fail)
      refine (clIns (hW.alloc _) (hk.alloc _) x hlen).mono ?_
      rintro e w2 ⟨rfl, v2, hW2, hF2⟩
      go_wp2
      go_roundw
      case rel => exact ⟨j + 1, v2, by omega, by go_num, by rw [HE.out, ← List.append_assoc]; exact hW2, (hk.fr (hB.trans hF2)), ho.fr hW (hB.trans hF2), hF.trans (hB.trans hF2)⟩
      case measure => simp [intOf]; omega
    · go_wp2
      go_end0
      have : l.take j = l := List.take_of_length_le (by omega)
      rw [this, ← hM.out, List.append_assoc] at hW
      exact ⟨rfl, u, hW, hF⟩
set_option maxHeartbeats 1000000 in
theorem pRels (h : WR w r v L) (hk : Cap w r v c) (ho : Old w0 w r) (l : List RelD) (u : Value) (hu : RelsIn w0 u l) (hn : L.length + (listB relBy l).length ≤ 1000000000) :
    Calls Tryz.prog 48 #[.pointer (some ⟨r, 0, none⟩), u, .func (.func 49) #[] #[.pointer (some ⟨c, 0, none⟩)]] w (WE r w v L (listB relBy l)) := by
  obtain ⟨a, cp, rfl, hl, hc⟩ := hu
  have c4 := cellR
  have hn2 : L.length + 8 + (l.map relBy).flatten.length ≤ 1000000000 := by
    simp only [listB, List.length_append, numB_len] at hn
    omega
  clear hn
  go_enter Tryz.func48, Tryz.ntmps48
  go_wp2_with (fail)
  refine (oInts1 h (l.length : Int) (by omega)).mono ?_
  rintro e w1 ⟨rfl, v1, hW1, hF1⟩
  replace hk := hk.fr hF1
  replace ho := ho.fr h hF1
  generalize hM : L ++ numB (l.length : Int) = M at hW1
  have hM1 : M.length = L.length + 8 := by rw [← hM, List.length_append, numB_len]
  have hM2 : Hid (M.length + (l.map relBy).flatten.length ≤ 1000000000) := by show _ ≤ _; omega
  replace hM : Hid (L ++ numB (l.length : Int) = M) := hM
  clear hM1 hn2
  go_wp2
  go_loopw [15] (fun t wr => ∃ (j : Nat) (u : Value), j ≤ l.length ∧ t = .int .i64 j ∧ WR wr r u (M ++ ((l.take j).map relBy).flatten) ∧ Cap wr r u c ∧ Old w0 wr r ∧ Fr r v u w wr) (fun t _ => l.length - (intOf t).toNat)
  case atStart => exact ⟨0, v1, by omega, rfl, by simpa using hW1, hk, ho, hF1⟩
  case round =>
    clear hW1 hk ho hF1
    obtain ⟨j, u, hj, rfl, hW, hk, ho, hF⟩ := hrel
    by_cases hq : j < l.length
    · obtain ⟨g, o, rfl, hcc⟩ := hc (by intro e; rw [e] at hq; simp at hq)
      have hr := flat_room relBy l j hq
      have hb2 := hM2.out
      have hlen : (M ++ ((l.take j).map relBy).flatten).length + (relBy l[j]).length ≤ 1000000000 := by rw [List.length_append]; omega
      clear hr hb2
      have HE : Hid (((l.take (j + 1)).map relBy).flatten = ((l.take j).map relBy).flatten ++ relBy l[j]) := flat_take relBy l j hq
      have hcj := hcc j hq
      clear hcc hc
      generalize l[j] = x at *
      obtain ⟨k0, k1, k2, k3⟩ := hcj
      replace k0 := keep k0 ho.to
      replace k1 := keep k1 ho.to
      replace k2 := keep k2 ho.to
      replace k3 := keep k3 ho.to
      have hB := Fr.new r u wr (.cells #[.int .i64 x.at', .int .i64 x.kind, .string x.module, .string x.name] 57)
      go_wp2_with (fail)
      refine (clRel (hW.alloc _) (hk.alloc _) x hlen).mono ?_
      rintro e w2 ⟨rfl, v2, hW2, hF2⟩
      go_wp2
      go_roundw
      case rel => exact ⟨j + 1, v2, by omega, by go_num, by rw [HE.out, ← List.append_assoc]; exact hW2, (hk.fr (hB.trans hF2)), ho.fr hW (hB.trans hF2), hF.trans (hB.trans hF2)⟩
      case measure => simp [intOf]; omega
    · go_wp2
      go_end0
      have : l.take j = l := List.take_of_length_le (by omega)
      rw [this, ← hM.out, List.append_assoc] at hW
      exact ⟨rfl, u, hW, hF⟩
set_option maxHeartbeats 1000000 in
theorem pPlcs (h : WR w r v L) (hk : Cap w r v c) (ho : Old w0 w r) (l : List PlcD) (u : Value) (hu : PlcsIn w0 u l) (hn : L.length + (listB plcBy l).length ≤ 1000000000) :
    Calls Tryz.prog 51 #[.pointer (some ⟨r, 0, none⟩), u, .func (.func 52) #[] #[.pointer (some ⟨c, 0, none⟩)]] w (WE r w v L (listB plcBy l)) := by
  obtain ⟨a, cp, rfl, hl, hc⟩ := hu
  have c2 := cellP
  have hn2 : L.length + 8 + (l.map plcBy).flatten.length ≤ 1000000000 := by
    simp only [listB, List.length_append, numB_len] at hn
    omega
  clear hn
  go_enter Tryz.func51, Tryz.ntmps51
  go_wp2_with (fail)
  refine (oInts1 h (l.length : Int) (by omega)).mono ?_
  rintro e w1 ⟨rfl, v1, hW1, hF1⟩
  replace hk := hk.fr hF1
  replace ho := ho.fr h hF1
  generalize hM : L ++ numB (l.length : Int) = M at hW1
  have hM1 : M.length = L.length + 8 := by rw [← hM, List.length_append, numB_len]
  have hM2 : Hid (M.length + (l.map plcBy).flatten.length ≤ 1000000000) := by show _ ≤ _; omega
  replace hM : Hid (L ++ numB (l.length : Int) = M) := hM
  clear hM1 hn2
  go_wp2
  go_loopw [15] (fun t wr => ∃ (j : Nat) (u : Value), j ≤ l.length ∧ t = .int .i64 j ∧ WR wr r u (M ++ ((l.take j).map plcBy).flatten) ∧ Cap wr r u c ∧ Old w0 wr r ∧ Fr r v u w wr) (fun t _ => l.length - (intOf t).toNat)
  case atStart => exact ⟨0, v1, by omega, rfl, by simpa using hW1, hk, ho, hF1⟩
  case round =>
    clear hW1 hk ho hF1
    obtain ⟨j, u, hj, rfl, hW, hk, ho, hF⟩ := hrel
    by_cases hq : j < l.length
    · obtain ⟨g, o, rfl, hcc⟩ := hc (by intro e; rw [e] at hq; simp at hq)
      have hr := flat_room plcBy l j hq
      have hb2 := hM2.out
      have hlen : (M ++ ((l.take j).map plcBy).flatten).length + (plcBy l[j]).length ≤ 1000000000 := by rw [List.length_append]; omega
      clear hr hb2
      have HE : Hid (((l.take (j + 1)).map plcBy).flatten = ((l.take j).map plcBy).flatten ++ plcBy l[j]) := flat_take plcBy l j hq
      have hcj := hcc j hq
      clear hcc hc
      generalize l[j] = x at *
      obtain ⟨k0, k1⟩ := hcj
      replace k0 := keep k0 ho.to
      replace k1 := keep k1 ho.to
      have hB := Fr.new r u wr (.cells #[.string x.name, .int .i64 x.at'] 85)
      go_wp2_with (fail)
      refine (clPlc (hW.alloc _) (hk.alloc _) x hlen).mono ?_
      rintro e w2 ⟨rfl, v2, hW2, hF2⟩
      go_wp2
      go_roundw
      case rel => exact ⟨j + 1, v2, by omega, by go_num, by rw [HE.out, ← List.append_assoc]; exact hW2, (hk.fr (hB.trans hF2)), ho.fr hW (hB.trans hF2), hF.trans (hB.trans hF2)⟩
      case measure => simp [intOf]; omega
    · go_wp2
      go_end0
      have : l.take j = l := List.take_of_length_le (by omega)
      rw [this, ← hM.out, List.append_assoc] at hW
      exact ⟨rfl, u, hW, hF⟩
end
end Go.Proofs.YthfeojjfehbgjaaGreatDoor.obj
