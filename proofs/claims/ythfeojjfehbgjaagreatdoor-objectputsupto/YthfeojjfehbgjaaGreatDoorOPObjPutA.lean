/- What the writer's lists of variables and procedures, and its face, answer: contracts. -/
import Derived.Test.YthfeojjfehbgjaaGreatDoorOPObjWr
import Derived.Test.YthfeojjfehbgjaaGreatDoorOPObjMem
import Derived.Test.YthfeojjfehbgjaaGreatDoorOPObjOne
namespace Go.Proofs.YthfeojjfehbgjaaGreatDoor.obj
open Go.RowKit
open Go.Proofs.YthfeojjfehbgjaaGreatDoor.mac (BoxC grown_of_below Ins)
open Go.Proofs.YthfeojjfehbgjaaGreatDoor.face (VarD ProcD FaceD VarsIn ProcsIn IntsIn FaceIn varV procV keep)
set_option linter.unusedVariables false
set_option linter.unusedSimpArgs false
set_option maxRecDepth 100000
theorem hmf : ∀ (fn : Fn) (first cap : Array Value) (w : World), (Instr.makeFunc fn first cap).run Tryz.prog w = .ok (.func fn first cap) w := fun _ _ _ _ => rfl
theorem flat_take {α : Type} (f : α → By) (l : List α) (j : Nat) (h : j < l.length) : ((l.take (j + 1)).map f).flatten = ((l.take j).map f).flatten ++ f l[j] := by
  rw [List.take_add_one, List.getElem?_eq_getElem h, List.map_append, List.flatten_append]
  simp only [Option.toList_some, List.map_cons, List.map_nil, List.flatten_cons, List.flatten_nil, List.append_nil]
theorem flat_room {α : Type} (f : α → By) (l : List α) (j : Nat) (h : j < l.length) : ((l.take j).map f).flatten.length + (f l[j]).length ≤ (l.map f).flatten.length := by
  have h1 := congrArg List.length (flat_take f l j h)
  rw [List.length_append] at h1
  have h2 : l.map f = (l.take (j + 1)).map f ++ (l.drop (j + 1)).map f := by rw [← List.map_append, List.take_append_drop]
  have h3 := congrArg (fun x => (List.flatten x).length) h2
  simp only [List.flatten_append, List.length_append] at h3
  omega
/-- the box in which a closure holds the writer -/
abbrev Cap (w : World) (r : Nat) (v : Value) (c : Nat) : Prop := Lk w r v c #[.pointer (some ⟨r, 0, none⟩)] 47
/-- what was there before the writer -/
structure Old (w0 w : World) (r : Nat) : Prop where
  le : w0.heap.size ≤ r
  to : Below w0.heap.size w0 w
theorem Old.fr {w0 w w' : World} {r : Nat} {v v' : Value} {L : By} (h : Old w0 w r) (hW : WR w r v L) (hf : Fr r v v' w w') : Old w0 w' r := ⟨h.le, h.to.trans ((hW.to hf).mono h.le)⟩
theorem Old.alloc {w0 w : World} {r : Nat} (h : Old w0 w r) (o : Obj) : Old w0 (w.alloc o) r := ⟨h.le, h.to.alloc h.to.size o⟩
section
variable {w0 w : World} {r c : Nat} {v : Value} {L : By}
set_option maxHeartbeats 1000000 in
theorem clVar (h : WR w r v L) (hk : Cap w r v c) (x : VarD) (hn : L.length + (varB x).length ≤ 1000000000) :
    Calls Tryz.prog 70 #[varV x, .pointer (some ⟨c, 0, none⟩)] w (WE r w v L (varB x)) := by
  obtain ⟨nm, pb, lb, sz⟩ := x
  have hn2 : L.length + (8 + nm.size) + 8 + 16 ≤ 1000000000 := by
    have e : nm.data.toList.length = nm.size := rfl
    simp only [varB, textB, boolB, List.length_append, numB_len, intsB_len, List.length_cons, List.length_nil] at hn
    omega
  clear hn
  have e8 : (textB nm).length = 8 + nm.size := by rw [textB, List.length_append, numB_len]; rfl
  have c4 : Tryz.prog.cellsOf 100 = 4 := face.cell4
  unfold varV
  have hb := h.lk (#[.string nm, .bool pb, .int .i64 lb, .int .i64 sz]) 100
  replace hk := hk.alloc (.cells (#[.string nm, .bool pb, .int .i64 lb, .int .i64 sz]) 100)
  have hW1 := h.alloc (.cells (#[.string nm, .bool pb, .int .i64 lb, .int .i64 sz]) 100)
  have hF := Fr.new r v w (.cells (#[.string nm, .bool pb, .int .i64 lb, .int .i64 sz]) 100)
  have m0 := hk.cell 0 rfl
  have y0 := hb.cell 0 rfl
  go_enter Tryz.func70, Tryz.ntmps70
  go_wp2_with (fail)
  refine (oText hW1 nm (by omega)).mono ?_
  rintro e w2 ⟨rfl, v2, hW2, hF2⟩
  replace hk := hk.fr hF2
  replace hb := hb.fr hF2
  replace hF := hF.trans hF2
  clear hF2
  have m0 := hk.cell 0 rfl
  have y1 := hb.cell 1 rfl
  go_wp2_with (fail)
  refine (oBool hW2 pb (by rw [List.length_append, e8]; omega)).mono ?_
  rintro e w3 ⟨rfl, v3, hW3, hF3⟩
  replace hk := hk.fr hF3
  replace hb := hb.fr hF3
  replace hF := hF.trans hF3
  clear hF3
  have m0 := hk.cell 0 rfl
  have y2 := hb.cell 2 rfl
  have y3 := hb.cell 3 rfl
  go_wp2_with (fail)
  refine (oInts2 hW3 lb sz (by rw [List.length_append, List.length_append, e8]; simp only [boolB, numB_len]; omega)).mono ?_
  rintro e w4 ⟨rfl, v4, hW4, hF4⟩
  replace hF := hF.trans hF4
  clear hF4
  go_wp2
  go_end0
  refine ⟨rfl, v4, ?_, hF⟩
  simpa [varB, List.append_assoc] using hW4
set_option maxHeartbeats 1000000 in
theorem pVars (h : WR w r v L) (hk : Cap w r v c) (ho : Old w0 w r) (l : List VarD) (u : Value) (hu : VarsIn w0 u l) (hn : L.length + (listB varB l).length ≤ 1000000000) :
    Calls Tryz.prog 69 #[.pointer (some ⟨r, 0, none⟩), u, .func (.func 70) #[] #[.pointer (some ⟨c, 0, none⟩)]] w (WE r w v L (listB varB l)) := by
  obtain ⟨a, cp, rfl, hl, hc⟩ := hu
  have c4 : Tryz.prog.cellsOf 100 = 4 := face.cell4
  have hn2 : L.length + 8 + (l.map varB).flatten.length ≤ 1000000000 := by
    simp only [listB, List.length_append, numB_len] at hn
    omega
  clear hn
  go_enter Tryz.func69, Tryz.ntmps69
  go_wp2_with (fail)
  refine (oInts1 h (l.length : Int) (by omega)).mono ?_
  rintro e w1 ⟨rfl, v1, hW1, hF1⟩
  replace hk := hk.fr hF1
  replace ho := ho.fr h hF1
  generalize hM : L ++ numB (l.length : Int) = M at hW1
  have hM1 : M.length = L.length + 8 := by rw [← hM, List.length_append, numB_len]
  have hM2 : Hid (M.length + (l.map varB).flatten.length ≤ 1000000000) := by show _ ≤ _; omega
  replace hM : Hid (L ++ numB (l.length : Int) = M) := hM
  clear hM1 hn2
  go_wp2
  go_loopw [15] (fun t wr => ∃ (j : Nat) (u : Value), j ≤ l.length ∧ t = .int .i64 j ∧ WR wr r u (M ++ ((l.take j).map varB).flatten) ∧ Cap wr r u c ∧ Old w0 wr r ∧ Fr r v u w wr) (fun t _ => l.length - (intOf t).toNat)
  case atStart => exact ⟨0, v1, by omega, rfl, by simpa using hW1, hk, ho, hF1⟩
  case round =>
    clear hW1 hk ho hF1
    obtain ⟨j, u, hj, rfl, hW, hk, ho, hF⟩ := hrel
    by_cases hq : j < l.length
    · obtain ⟨g, o, rfl, hcc⟩ := hc (by intro e; rw [e] at hq; simp at hq)
      have hr := flat_room varB l j hq
      have hb2 := hM2.out
      have hlen : (M ++ ((l.take j).map varB).flatten).length + (varB l[j]).length ≤ 1000000000 := by rw [List.length_append]; omega
      clear hr hb2
      have HE : Hid (((l.take (j + 1)).map varB).flatten = ((l.take j).map varB).flatten ++ varB l[j]) := flat_take varB l j hq
      have hcj := hcc j hq
      clear hcc hc
      generalize l[j] = x at *
      obtain ⟨k0, k1, k2, k3⟩ := hcj
      replace k0 := keep k0 ho.to
      replace k1 := keep k1 ho.to
      replace k2 := keep k2 ho.to
      replace k3 := keep k3 ho.to
      have hB := Fr.new r u wr (.cells #[.string x.name, .bool x.pub, .int .i64 x.label, .int .i64 x.size] 100)
      go_wp2_with (fail)
      refine (clVar (hW.alloc _) (hk.alloc _) x hlen).mono ?_
      rintro e w2 ⟨rfl, v2, hW2, hF2⟩
      go_wp2
      go_roundw
      case rel => exact ⟨j + 1, v2, by omega, by go_num, by rw [HE.out, ← List.append_assoc]; exact hW2, (hk.fr (hB.trans hF2)), ho.fr hW (hB.trans hF2), hF.trans (hB.trans hF2)⟩
      case measure => simp [intOf]; omega
    · go_wp2
      go_end0
      have : l.take j = l := List.take_of_length_le (by omega)
      rw [this, ← hM.out, List.append_assoc] at hW
      exact ⟨rfl, u, hW, hF⟩
set_option maxHeartbeats 1000000 in
theorem clInt (h : WR w r v L) (hk : Cap w r v c) (x : Int) (hn : L.length + (numB x).length ≤ 1000000000) :
    Calls Tryz.prog 75 #[.int .i64 x, .pointer (some ⟨c, 0, none⟩)] w (WE r w v L (numB x)) := by
  have m0 := hk.cell 0 rfl
  go_enter Tryz.func75, Tryz.ntmps75
  go_wp2_with (fail)
  refine (oInts1 h x (by rw [numB_len] at hn; exact hn)).mono ?_
  rintro e w2 ⟨rfl, v2, hW2, hF2⟩
  go_wp2
  go_end0
  exact ⟨rfl, v2, hW2, hF2⟩
set_option maxHeartbeats 1000000 in
theorem pInts (h : WR w r v L) (hk : Cap w r v c) (ho : Old w0 w r) (l : List Int) (u : Value) (hu : IntsIn w0 u l) (hn : L.length + (listB numB l).length ≤ 1000000000) :
    Calls Tryz.prog 74 #[.pointer (some ⟨r, 0, none⟩), u, .func (.func 75) #[] #[.pointer (some ⟨c, 0, none⟩)]] w (WE r w v L (listB numB l)) := by
  obtain ⟨a, cp, rfl, hl, hc⟩ := hu
  skip
  have hn2 : L.length + 8 + (l.map numB).flatten.length ≤ 1000000000 := by
    simp only [listB, List.length_append, numB_len] at hn
    omega
  clear hn
  go_enter Tryz.func74, Tryz.ntmps74
  go_wp2_with (fail)
  refine (oInts1 h (l.length : Int) (by omega)).mono ?_
  rintro e w1 ⟨rfl, v1, hW1, hF1⟩
  replace hk := hk.fr hF1
  replace ho := ho.fr h hF1
  generalize hM : L ++ numB (l.length : Int) = M at hW1
  have hM1 : M.length = L.length + 8 := by rw [← hM, List.length_append, numB_len]
  have hM2 : Hid (M.length + (l.map numB).flatten.length ≤ 1000000000) := by show _ ≤ _; omega
  replace hM : Hid (L ++ numB (l.length : Int) = M) := hM
  clear hM1 hn2
  go_wp2
  go_loopw [15] (fun t wr => ∃ (j : Nat) (u : Value), j ≤ l.length ∧ t = .int .i64 j ∧ WR wr r u (M ++ ((l.take j).map numB).flatten) ∧ Cap wr r u c ∧ Old w0 wr r ∧ Fr r v u w wr) (fun t _ => l.length - (intOf t).toNat)
  case atStart => exact ⟨0, v1, by omega, rfl, by simpa using hW1, hk, ho, hF1⟩
  case round =>
    clear hW1 hk ho hF1
    obtain ⟨j, u, hj, rfl, hW, hk, ho, hF⟩ := hrel
    by_cases hq : j < l.length
    · obtain ⟨g, o, rfl, hcc⟩ := hc (by intro e; rw [e] at hq; simp at hq)
      have hr := flat_room numB l j hq
      have hb2 := hM2.out
      have hlen : (M ++ ((l.take j).map numB).flatten).length + (numB l[j]).length ≤ 1000000000 := by rw [List.length_append]; omega
      clear hr hb2
      have HE : Hid (((l.take (j + 1)).map numB).flatten = ((l.take j).map numB).flatten ++ numB l[j]) := flat_take numB l j hq
      have hcj := hcc j hq
      clear hcc hc
      generalize l[j] = x at *
      replace hcj := keep hcj ho.to
      go_wp2_with (fail)
      refine (clInt hW hk x hlen).mono ?_
      rintro e w2 ⟨rfl, v2, hW2, hF2⟩
      go_wp2
      go_roundw
      case rel => exact ⟨j + 1, v2, by omega, by go_num, by rw [HE.out, ← List.append_assoc]; exact hW2, (hk.fr hF2), ho.fr hW hF2, hF.trans hF2⟩
      case measure => simp [intOf]; omega
    · go_wp2
      go_end0
      have : l.take j = l := List.take_of_length_le (by omega)
      rw [this, ← hM.out, List.append_assoc] at hW
      exact ⟨rfl, u, hW, hF⟩
set_option maxHeartbeats 1000000 in
theorem clProc (h : WR w r v L) (hk : Cap w r v c) (ho : Old w0 w r) (x : ProcD) (y : Value) (hy : IntsIn w0 y x.params) (hn : L.length + (procB x).length ≤ 1000000000) :
    Calls Tryz.prog 73 #[procV x y, .pointer (some ⟨c, 0, none⟩)] w (WE r w v L (procB x)) := by
  obtain ⟨nm, pb, ps, wr, gv, gn⟩ := x
  have hmf := hmf
  have e8 : (textB nm).length = 8 + nm.size := by rw [textB, List.length_append, numB_len]; rfl
  have eb : ∀ b, (boolB b).length = 8 := fun b => rfl
  have hn2 : L.length + (8 + nm.size) + 8 + (listB numB ps).length + 8 + 8 + 8 ≤ 1000000000 := by
    simp only [procB, List.length_append, numB_len, e8, eb] at hn
    omega
  clear hn
  have c6 : Tryz.prog.cellsOf 102 = 6 := face.cell6
  obtain ⟨ya, yc, rfl⟩ : ∃ a c, y = .slice a ps.length c := by obtain ⟨a, c, e, _⟩ := hy; exact ⟨a, c, e⟩
  unfold procV
  replace ho := ho.alloc (.cells #[.string nm, .bool pb, .slice ya ps.length yc, .int .i64 wr, .bool gv, .int .i64 gn] 102)
  have hb := h.lk (#[.string nm, .bool pb, .slice ya ps.length yc, .int .i64 wr, .bool gv, .int .i64 gn]) 102
  replace hk := hk.alloc (.cells (#[.string nm, .bool pb, .slice ya ps.length yc, .int .i64 wr, .bool gv, .int .i64 gn]) 102)
  have hW1 := h.alloc (.cells (#[.string nm, .bool pb, .slice ya ps.length yc, .int .i64 wr, .bool gv, .int .i64 gn]) 102)
  have hF := Fr.new r v w (.cells (#[.string nm, .bool pb, .slice ya ps.length yc, .int .i64 wr, .bool gv, .int .i64 gn]) 102)
  have m0 := hk.cell 0 rfl
  have y0 := hb.cell 0 rfl
  dsimp only at hy
  go_enter Tryz.func73, Tryz.ntmps73
  go_wp2_with (fail)
  refine (oText hW1 nm (by omega)).mono ?_
  rintro e w2 ⟨rfl, v2, hW2, hF2⟩
  replace hk := hk.fr hF2
  replace hb := hb.fr hF2
  replace hF := hF.trans hF2
  replace ho := ho.fr hW1 hF2
  clear hF2
  have m0 := hk.cell 0 rfl
  have y1 := hb.cell 1 rfl
  go_wp2_with (fail)
  refine (oBool hW2 pb (by simp only [List.length_append, e8]; omega)).mono ?_
  rintro e w3 ⟨rfl, v3, hW3, hF3⟩
  replace hk := hk.fr hF3
  replace hb := hb.fr hF3
  replace hF := hF.trans hF3
  replace ho := ho.fr hW2 hF3
  clear hF3
  have m0 := hk.cell 0 rfl
  have y2 := hb.cell 2 rfl
  go_wp2_with (fail)
  refine (pInts hW3 hk ho ps (.slice ya ps.length yc) hy (by simp only [List.length_append, e8, eb]; omega)).mono ?_
  rintro e w4 ⟨rfl, v4, hW4, hF4⟩
  replace hk := hk.fr hF4
  replace hb := hb.fr hF4
  replace hF := hF.trans hF4
  replace ho := ho.fr hW3 hF4
  clear hF4
  have m0 := hk.cell 0 rfl
  have y3 := hb.cell 3 rfl
  go_wp2_with (fail)
  refine (oInts1 hW4 wr (by simp only [List.length_append, e8, eb]; omega)).mono ?_
  rintro e w5 ⟨rfl, v5, hW5, hF5⟩
  replace hk := hk.fr hF5
  replace hb := hb.fr hF5
  replace hF := hF.trans hF5
  replace ho := ho.fr hW4 hF5
  clear hF5
  have m0 := hk.cell 0 rfl
  have y4 := hb.cell 4 rfl
  go_wp2_with (fail)
  refine (oBool hW5 gv (by simp only [List.length_append, e8, eb, numB_len]; omega)).mono ?_
  rintro e w6 ⟨rfl, v6, hW6, hF6⟩
  replace hk := hk.fr hF6
  replace hb := hb.fr hF6
  replace hF := hF.trans hF6
  replace ho := ho.fr hW5 hF6
  clear hF6
  have m0 := hk.cell 0 rfl
  have y5 := hb.cell 5 rfl
  go_wp2_with (fail)
  refine (oInts1 hW6 gn (by simp only [List.length_append, e8, eb, numB_len]; omega)).mono ?_
  rintro e w7 ⟨rfl, v7, hW7, hF7⟩
  replace hF := hF.trans hF7
  clear hF7
  go_wp2
  go_end0
  refine ⟨rfl, v7, ?_, hF⟩
  simpa [procB, List.append_assoc] using hW7
set_option maxHeartbeats 1000000 in
theorem pProcs (h : WR w r v L) (hk : Cap w r v c) (ho : Old w0 w r) (l : List ProcD) (u : Value) (hu : ProcsIn w0 u l) (hn : L.length + (listB procB l).length ≤ 1000000000) :
    Calls Tryz.prog 72 #[.pointer (some ⟨r, 0, none⟩), u, .func (.func 73) #[] #[.pointer (some ⟨c, 0, none⟩)]] w (WE r w v L (listB procB l)) := by
  obtain ⟨a, cp, rfl, hl, hc⟩ := hu
  have c6 : Tryz.prog.cellsOf 102 = 6 := face.cell6
  have hn2 : L.length + 8 + (l.map procB).flatten.length ≤ 1000000000 := by
    simp only [listB, List.length_append, numB_len] at hn
    omega
  clear hn
  go_enter Tryz.func72, Tryz.ntmps72
  go_wp2_with (fail)
  refine (oInts1 h (l.length : Int) (by omega)).mono ?_
  rintro e w1 ⟨rfl, v1, hW1, hF1⟩
  replace hk := hk.fr hF1
  replace ho := ho.fr h hF1
  generalize hM : L ++ numB (l.length : Int) = M at hW1
  have hM1 : M.length = L.length + 8 := by rw [← hM, List.length_append, numB_len]
  have hM2 : Hid (M.length + (l.map procB).flatten.length ≤ 1000000000) := by show _ ≤ _; omega
  replace hM : Hid (L ++ numB (l.length : Int) = M) := hM
  clear hM1 hn2
  go_wp2
  go_loopw [15] (fun t wr => ∃ (j : Nat) (u : Value), j ≤ l.length ∧ t = .int .i64 j ∧ WR wr r u (M ++ ((l.take j).map procB).flatten) ∧ Cap wr r u c ∧ Old w0 wr r ∧ Fr r v u w wr) (fun t _ => l.length - (intOf t).toNat)
  case atStart => exact ⟨0, v1, by omega, rfl, by simpa using hW1, hk, ho, hF1⟩
  case round =>
    clear hW1 hk ho hF1
    obtain ⟨j, u, hj, rfl, hW, hk, ho, hF⟩ := hrel
    by_cases hq : j < l.length
    · obtain ⟨g, o, rfl, hcc⟩ := hc (by intro e; rw [e] at hq; simp at hq)
      have hr := flat_room procB l j hq
      have hb2 := hM2.out
      have hlen : (M ++ ((l.take j).map procB).flatten).length + (procB l[j]).length ≤ 1000000000 := by rw [List.length_append]; omega
      clear hr hb2
      have HE : Hid (((l.take (j + 1)).map procB).flatten = ((l.take j).map procB).flatten ++ procB l[j]) := flat_take procB l j hq
      have hcj := hcc j hq
      clear hcc hc
      generalize l[j] = x at *
      obtain ⟨k0, k1, ⟨y, k2, hy⟩, k3, k4, k5⟩ := hcj
      replace k0 := keep k0 ho.to
      replace k1 := keep k1 ho.to
      replace k2 := keep k2 ho.to
      replace k3 := keep k3 ho.to
      replace k4 := keep k4 ho.to
      replace k5 := keep k5 ho.to
      obtain ⟨ya, yc, rfl⟩ : ∃ a c, y = .slice a x.params.length c := by obtain ⟨a, c, e, _⟩ := hy; exact ⟨a, c, e⟩
      have hB := Fr.new r u wr (.cells #[.string x.name, .bool x.pub, .slice ya x.params.length yc, .int .i64 x.writes, .bool x.gives, .int .i64 x.given] 102)
      go_wp2_with (fail)
      refine (clProc (hW.alloc _) (hk.alloc _) (ho.alloc _) x _ hy hlen).mono ?_
      rintro e w2 ⟨rfl, v2, hW2, hF2⟩
      go_wp2
      go_roundw
      case rel => exact ⟨j + 1, v2, by omega, by go_num, by rw [HE.out, ← List.append_assoc]; exact hW2, (hk.fr (hB.trans hF2)), ho.fr hW (hB.trans hF2), hF.trans (hB.trans hF2)⟩
      case measure => simp [intOf]; omega
    · go_wp2
      go_end0
      have : l.take j = l := List.take_of_length_le (by omega)
      rw [this, ← hM.out, List.append_assoc] at hW
      exact ⟨rfl, u, hW, hF⟩
set_option maxHeartbeats 1000000 in
theorem oFace (h : WR w r v L) (ho : Old w0 w r) (x : FaceD) (vv pv : Value) (hv : VarsIn w0 vv x.vars) (hp : ProcsIn w0 pv x.procs) (hn : L.length + (faceB x).length ≤ 1000000000) :
    Calls Tryz.prog 41 #[.pointer (some ⟨r, 0, none⟩), faceV x vv pv] w (WE r w v L (faceB x)) := by
  obtain ⟨nm, vs, ps⟩ := x
  have hmf := hmf
  have e8 : (textB nm).length = 8 + nm.size := by rw [textB, List.length_append, numB_len]; rfl
  have hn2 : L.length + (8 + nm.size) + (listB varB vs).length + (listB procB ps).length ≤ 1000000000 := by
    simp only [faceB, List.length_append, e8] at hn
    omega
  clear hn
  have c3 : Tryz.prog.cellsOf 25 = 3 := face.cell3
  obtain ⟨va, vc, rfl⟩ : ∃ a c, vv = .slice a vs.length c := by obtain ⟨a, c, e, _⟩ := hv; exact ⟨a, c, e⟩
  obtain ⟨pa, pc, rfl⟩ : ∃ a c, pv = .slice a ps.length c := by obtain ⟨a, c, e, _⟩ := hp; exact ⟨a, c, e⟩
  unfold faceV
  dsimp only at hv hp ⊢
  have hk := h.lk #[.pointer (some ⟨r, 0, none⟩)] 47
  replace hk := hk.alloc (.cells #[.string nm, .slice va vs.length vc, .slice pa ps.length pc] 25)
  have hW0 := h.alloc (.cells #[.pointer (some ⟨r, 0, none⟩)] 47)
  have hF := (Fr.new r v w (.cells #[.pointer (some ⟨r, 0, none⟩)] 47)).alloc (.cells #[.string nm, .slice va vs.length vc, .slice pa ps.length pc] 25)
  have hb := hW0.lk #[.string nm, .slice va vs.length vc, .slice pa ps.length pc] 25
  have hW1 := hW0.alloc (.cells #[.string nm, .slice va vs.length vc, .slice pa ps.length pc] 25)
  replace ho := (ho.alloc (.cells #[.pointer (some ⟨r, 0, none⟩)] 47)).alloc (.cells #[.string nm, .slice va vs.length vc, .slice pa ps.length pc] 25)
  rw [World.size_alloc] at hb
  have m0 := hk.cell 0 rfl
  have y0 := hb.cell 0 rfl
  go_enter Tryz.func41, Tryz.ntmps41
  go_wp2_with (fail)
  refine (oText hW1 nm (by omega)).mono ?_
  rintro e w2 ⟨rfl, v2, hW2, hF2⟩
  replace hk := hk.fr hF2
  replace hb := hb.fr hF2
  replace hF := hF.trans hF2
  replace ho := ho.fr hW1 hF2
  clear hF2
  have m0 := hk.cell 0 rfl
  have y1 := hb.cell 1 rfl
  go_wp2_with (fail)
  refine (pVars hW2 hk ho vs (.slice va vs.length vc) hv (by simp only [List.length_append, e8]; omega)).mono ?_
  rintro e w3 ⟨rfl, v3, hW3, hF3⟩
  replace hk := hk.fr hF3
  replace hb := hb.fr hF3
  replace hF := hF.trans hF3
  replace ho := ho.fr hW2 hF3
  clear hF3
  have m0 := hk.cell 0 rfl
  have y2 := hb.cell 2 rfl
  go_wp2_with (fail)
  refine (pProcs hW3 hk ho ps (.slice pa ps.length pc) hp (by simp only [List.length_append, e8]; omega)).mono ?_
  rintro e w4 ⟨rfl, v4, hW4, hF4⟩
  replace hF := hF.trans hF4
  clear hF4
  go_wp2
  go_end0
  refine ⟨rfl, v4, ?_, hF⟩
  simpa [faceB, List.append_assoc] using hW4
end
end Go.Proofs.YthfeojjfehbgjaaGreatDoor.obj
