/- What the reader's closures answer: contracts. (Written by mkget.py: edit that.) -/
import Derived.Test.YthfeojjfehbgjaaGreatDoorOGObjRdN
import Derived.Test.YthfeojjfehbgjaaGreatDoorOGObjMem
import Derived.Test.YthfeojjfehbgjaaGreatDoorOGTakeD
import Derived.Laws.Tables
namespace Go.Proofs.YthfeojjfehbgjaaGreatDoor.obj
open Go.RowKit
open Go.Proofs.YthfeojjfehbgjaaGreatDoor.mac (BoxC grown_of_below Ins)
open Go.Proofs.YthfeojjfehbgjaaGreatDoor.ord (tkd putd)
open Go.Proofs.YthfeojjfehbgjaaGreatDoor.face (VarD ProcD FaceD varV procV)
set_option linter.unusedVariables false
set_option linter.unusedSimpArgs false
set_option maxRecDepth 100000
/-- the box in which a closure holds the reader -/
abbrev CapR (w : World) (r c : Nat) : Prop := Lk w r nilV c #[.pointer (some ⟨r, 0, none⟩)] 66
theorem RS.lt {w : World} {r : Nat} {l : By} (h : RS w r l) : r < w.heap.size := by
  obtain ⟨a, c, hb, _⟩ := h.ex
  exact hb.lt
theorem RS.low {w w' : World} {r : Nat} {l : By} (h : RS w r l) (hb : Below (r + 1) w w') : RS w' r l := by
  obtain ⟨a, c, h1, h2, h3, h4, h5, h6⟩ := h.ex
  refine ⟨a, c, (hb.block r (by omega)).trans h1, h2, h3, h4, h5, fun hne => ?_⟩
  obtain ⟨g, o, e, hg, hc⟩ := h6 hne
  exact ⟨g, o, e, hg, fun i hi => (hb.cell (p := ⟨g, o + i, none⟩) (by show g < r + 1; omega)).trans (hc i hi)⟩
theorem RS.fr {w w' : World} {r : Nat} {l : By} (h : RS w r l) (hb : Below w.heap.size w w') : RS w' r l := h.low (hb.mono h.lt)
theorem RS.lk {w : World} {r : Nat} {l : By} (h : RS w r l) (cs : Array Value) (T : TypeId) : Lk (w.alloc (.cells cs T)) r nilV w.heap.size cs T :=
  ⟨BoxC.new w cs T, fun e => by have := h.lt; omega, by simp [nilV, Value.ownBlock]⟩
theorem Fr.row {D b : Nat} {u u1 : Value} {w w1 : World} (h : Fr D u u1 w w1) (hb : w.heap.size ≤ b) (cs : Array Value) : Fr D u u1 w (w1.setRow b cs) :=
  ⟨h.os, h.tape, h.output, by have := h.size; simpa using this, fun k h1 h2 h3 => (setRow_other w1 b k cs (by omega)).trans (h.block k h1 h2 h3), h.own⟩
theorem below_setRow (w : World) (b : Nat) (cs : Array Value) : Below b w (w.setRow b cs) := ⟨rfl, rfl, rfl, by simp, fun k hk => setRow_other w b k cs (by omega)⟩
theorem step_store_row {P : Program} {ops : Array Oper} {o : Oper} {a : Act} {w : World} {K : Act → World → Prop} {Q : Exit → Act → World → Prop} {E : Prop} (hgd : o.guard = none) (ty : TypeId) (x y : Operand) (ho : o.op = .store ty x y)
    (g : Nat) (cells : Array Value) (hx : a.eval x = .pointer (some ⟨g, 0, none⟩)) (hy : a.eval y = .agg cells)
    (t : TypeId) (old : Array Value) (hg : w.heap[g]? = some (.cells old t (0, 0))) (hi : (P.info? ty).map (·.size) = some cells.size)
    (hold : old.size = cells.size) (h1 : cells.all (·.oneCell') = true) (h : K (a.put o.dst undef) (w.setRow g cells)) :
    if Region.wanted o (yielded ops a.tmps) = true then Oper.wp P o a w K Q else E := by
  have hw : Region.wanted o (yielded ops a.tmps) = true := by simp [Region.wanted, hgd]
  rw [if_pos hw]
  exact wp_store_row ty x y ho g cells hx hy t old hg hi hold h1 h
theorem box_row {w : World} {b : Nat} {old cs : Array Value} {T : TypeId} (h : BoxC w b old T) : BoxC (w.setRow b cs) b cs T := setRow_heap w b old cs T (0, 0) h
theorem res_gVar {W : World} {a0 x1 x2 x3 x4 : Value} (tl : List Value) (B : Nat) (h : BoxC W B #[x1, x2, x3, x4] 100) (c : Tryz.prog.cellsOf 100 = 4) : (results Tryz.f97 (List.toArray (a0 :: .pointer (some ⟨B, 0, none⟩) :: tl))).run Tryz.prog W = .ok (.agg #[x1, x2, x3, x4]) W := by
  have z0 := h.cell 0 rfl
  have z1 := h.cell 1 rfl
  have z2 := h.cell 2 rfl
  have z3 := h.cell 3 rfl
  simp [results, Tryz.f97, go_sem, z0, z1, z2, z3]
def VarV (x : VarD) (v : Value) (w : World) : Prop := v = varV x
set_option maxHeartbeats 1000000 in
theorem gVar {w : World} {r c : Nat} {l : By} (h : RS w r l) (hk : CapR w r c) :
    Calls Tryz.prog 97 #[.pointer (some ⟨c, 0, none⟩)] w (RdE r w (getVar l) VarV) := by
  have cT : Tryz.prog.cellsOf 100 = 4 := by kernel_rfl
  have hb0 := h.lk #[.string ⟨#[]⟩, .bool false, .int .i64 0, .int .i64 0] 100
  have hA := (Below.refl w.heap.size w).alloc (Nat.le_refl _) (.cells #[.string ⟨#[]⟩, .bool false, .int .i64 0, .int .i64 0] 100)
  have hR0 := h.fr hA
  have hk0 := hk.alloc (.cells #[.string ⟨#[]⟩, .bool false, .int .i64 0, .int .i64 0] 100)
  have hF0 : FrR r w (w.alloc (.cells #[.string ⟨#[]⟩, .bool false, .int .i64 0, .int .i64 0] 100)) := Fr.new r nilV w _
  have hcb : c < w.heap.size := hk.box.lt
  have hrb : r < w.heap.size := h.lt
  obtain ⟨G, hG⟩ : ∃ G, G = getVar l := ⟨_, rfl⟩
  rw [← hG]
  replace hG : Hid (G = getVar l) := hG
  go_enter Tryz.func97, Tryz.ntmps97
  go_wp2
  refine wp_region_held_drew (S := fun W => CapR W r c) (by kernel_rfl) (hk0.fr (Fr.refl _ _ _).drew) (fun hS => ?_)
  replace hb0 := hb0.fr (Fr.refl _ _ _).drew
  replace hR0 := hR0.fr (Below.refl _ _).drew
  replace hF0 := hF0.drew
  generalize hWW : (w.alloc (.cells #[.string ⟨#[]⟩, .bool false, .int .i64 0, .int .i64 0] 100)).drew = W at hb0 hR0 hF0 hS ⊢
  clear hWW hA hk0 hk h
  refine tkd (i := 0) (v := .pointer (some ⟨r, 0, none⟩)) rfl rfl (by kernel_rfl) (by kernel_rfl) (by kernel_rfl) (fun _ _ _ h => h) (Or.inl ⟨by rfl, fun wq hSw => by have m := hSw.cell 0 rfl; go_simp⟩) hS ?_
  simp only [List.setIfInBounds_toArray, List.set_cons_zero, List.set_cons_succ]
  refine tkd (i := 2) (v := .pointer (some ⟨r, 0, none⟩)) rfl rfl (by kernel_rfl) (by kernel_rfl) (by kernel_rfl) (fun _ _ _ h => h) (Or.inl ⟨by rfl, fun wq hSw => by have m := hSw.cell 0 rfl; go_simp⟩) hS ?_
  simp only [List.setIfInBounds_toArray, List.set_cons_zero, List.set_cons_succ]
  refine tkd (i := 4) (v := .pointer (some ⟨r, 0, none⟩)) rfl rfl (by kernel_rfl) (by kernel_rfl) (by kernel_rfl) (fun _ _ _ h => h) (Or.inl ⟨by rfl, fun wq hSw => by have m := hSw.cell 0 rfl; go_simp⟩) hS ?_
  simp only [List.setIfInBounds_toArray, List.set_cons_zero, List.set_cons_succ]
  refine tkd (i := 6) (v := .pointer (some ⟨r, 0, none⟩)) rfl rfl (by kernel_rfl) (by kernel_rfl) (by kernel_rfl) (fun _ _ _ h => h) (Or.inl ⟨by rfl, fun wq hSw => by have m := hSw.cell 0 rfl; go_simp⟩) hS ?_
  simp only [List.setIfInBounds_toArray, List.set_cons_zero, List.set_cons_succ]
  refine wpAnyH_ready (rs := [1]) (by kernel_rfl) (by simp) ?_
  refine AllReadyH.cons rfl (fun K hK => ?_) AllReadyH.nil
  go_simp
  go_at_call 87
  refine (oTextR hR0).mono ?_
  rintro e w1 ⟨hF1, hE⟩
  cases hg1 : getText l with
  | none =>
    rw [hg1] at hE
    dsimp only at hE
    have HE : Hid (G = none) := by show _ = _; rw [hG.out]; unfold getVar; simp [hg1]
    subst hE
    go_wp2
    exact ⟨rfl, hF0.trans hF1, by rw [HE.out]⟩
  | some p1 =>
  obtain ⟨x1, l1⟩ := p1
  rw [hg1] at hE
  obtain ⟨v, rfl, hv, hR1⟩ := hE
  have hv2 : v = .string x1 := hv
  subst hv2
  clear hv
  go_wp2
  replace hS := hS.fr hF1
  replace hb0 := hb0.fr hF1
  replace hF0 := hF0.trans hF1
  clear hF1 hR0
  refine hK.out _ _ hS (fun _ => ?_)
  clear hK K
  refine wpAnyH_ready (rs := [3]) (by kernel_rfl) (by simp) ?_
  refine AllReadyH.cons rfl (fun K hK => ?_) AllReadyH.nil
  go_simp
  go_at_call 98
  refine (oBoolR hR1).mono ?_
  rintro e w2 ⟨hF2, hE⟩
  cases hg2 : getBool l1 with
  | none =>
    rw [hg2] at hE
    dsimp only at hE
    have HE : Hid (G = none) := by show _ = _; rw [hG.out]; unfold getVar; simp [hg1, hg2]
    subst hE
    go_wp2
    exact ⟨rfl, hF0.trans hF2, by rw [HE.out]⟩
  | some p2 =>
  obtain ⟨x2, l2⟩ := p2
  rw [hg2] at hE
  obtain ⟨v, rfl, hv, hR2⟩ := hE
  have hv2 : v = .bool x2 := hv
  subst hv2
  clear hv
  go_wp2
  replace hS := hS.fr hF2
  replace hb0 := hb0.fr hF2
  replace hF0 := hF0.trans hF2
  clear hF2 hR1
  refine hK.out _ _ hS (fun _ => ?_)
  clear hK K
  refine wpAnyH_ready (rs := [5]) (by kernel_rfl) (by simp) ?_
  refine AllReadyH.cons rfl (fun K hK => ?_) AllReadyH.nil
  go_simp
  go_at_call 83
  refine (oInt hR2).mono ?_
  rintro e w3 ⟨hF3, hE⟩
  cases hg3 : getNum l2 with
  | none =>
    rw [hg3] at hE
    dsimp only at hE
    have HE : Hid (G = none) := by show _ = _; rw [hG.out]; unfold getVar; simp [hg1, hg2, hg3]
    subst hE
    go_wp2
    exact ⟨rfl, hF0.trans hF3, by rw [HE.out]⟩
  | some p3 =>
  obtain ⟨x3, l3⟩ := p3
  rw [hg3] at hE
  obtain ⟨v, rfl, hv, hR3⟩ := hE
  have hv2 : v = .int .i64 x3 := hv
  subst hv2
  clear hv
  go_wp2
  replace hS := hS.fr hF3
  replace hb0 := hb0.fr hF3
  replace hF0 := hF0.trans hF3
  clear hF3 hR2
  refine hK.out _ _ hS (fun _ => ?_)
  clear hK K
  refine wpAnyH_ready (rs := [7]) (by kernel_rfl) (by simp) ?_
  refine AllReadyH.cons rfl (fun K hK => ?_) AllReadyH.nil
  go_simp
  go_at_call 83
  refine (oInt hR3).mono ?_
  rintro e w4 ⟨hF4, hE⟩
  cases hg4 : getNum l3 with
  | none =>
    rw [hg4] at hE
    dsimp only at hE
    have HE : Hid (G = none) := by show _ = _; rw [hG.out]; unfold getVar; simp [hg1, hg2, hg3, hg4]
    subst hE
    go_wp2
    exact ⟨rfl, hF0.trans hF4, by rw [HE.out]⟩
  | some p4 =>
  obtain ⟨x4, l4⟩ := p4
  rw [hg4] at hE
  obtain ⟨v, rfl, hv, hR4⟩ := hE
  have hv2 : v = .int .i64 x4 := hv
  subst hv2
  clear hv
  go_wp2
  replace hS := hS.fr hF4
  replace hb0 := hb0.fr hF4
  replace hF0 := hF0.trans hF4
  clear hF4 hR3
  refine hK.out _ _ hS (fun _ => ?_)
  clear hK K

  refine tkd (i := 8) (v := .agg #[.string x1, .bool x2, .int .i64 x3, .int .i64 x4] ) rfl rfl (by kernel_rfl) (by kernel_rfl) (by kernel_rfl) (fun _ _ _ h => h) (Or.inl ⟨by rfl, fun wq hSw => by skip; go_simp⟩) hS ?_
  simp only [List.setIfInBounds_toArray, List.set_cons_zero, List.set_cons_succ]
  refine wpAnyH_ready (rs := [9]) (by kernel_rfl) (by simp) ?_
  refine AllReadyH.cons rfl (fun K hK => ?_) AllReadyH.nil
  refine step_store_row (by rfl) 100 (.tmp 1) (.tmp 10) (by rfl) w.heap.size #[.string x1, .bool x2, .int .i64 x3, .int .i64 x4] (by rfl) (by rfl) 100 _ hb0.box (by kernel_rfl) (by rfl) (by kernel_rfl) ?_
  have hbF := box_row (cs := #[.string x1, .bool x2, .int .i64 x3, .int .i64 x4]) hb0.box
  have hRF := hR4.low ((below_setRow w4 w.heap.size #[.string x1, .bool x2, .int .i64 x3, .int .i64 x4]).mono (by omega))
  have hFF := hF0.row (Nat.le_refl _) #[.string x1, .bool x2, .int .i64 x3, .int .i64 x4]
  have hSF : CapR (w4.setRow w.heap.size #[.string x1, .bool x2, .int .i64 x3, .int .i64 x4]) r c := ⟨(setRow_other w4 w.heap.size c #[.string x1, .bool x2, .int .i64 x3, .int .i64 x4] (by omega)).trans hS.box, hS.ne, hS.row⟩
  refine hK.out _ _ hSF (fun _ => ?_)
  clear hK K
  refine wpAnyH_done (by kernel_rfl) ?_ _
  have HE : Hid (G = some (⟨x1, x2, x3, x4⟩, l4)) := by show _ = _; rw [hG.out]; unfold getVar; simp [hg1, hg2, hg3, hg4]
  clear hb0 hS hF0 hR4
  generalize w4.setRow w.heap.size #[.string x1, .bool x2, .int .i64 x3, .int .i64 x4] = WF at *
  go_wp2
  refine bodyPost_ret (v := .agg #[.string x1, .bool x2, .int .i64 x3, .int .i64 x4]) (res_gVar _ _ hbF cT) rfl ?_
  refine ⟨hFF, ?_⟩
  rw [HE.out]
  exact ⟨_, rfl, rfl, hRF⟩
theorem res_gIns {W : World} {a0 x1 x2 x3 x4 x5 : Value} (tl : List Value) (B : Nat) (h : BoxC W B #[x1, x2, x3, x4, x5] 55) (c : Tryz.prog.cellsOf 55 = 5) : (results Tryz.f82 (List.toArray (a0 :: .pointer (some ⟨B, 0, none⟩) :: tl))).run Tryz.prog W = .ok (.agg #[x1, x2, x3, x4, x5]) W := by
  have z0 := h.cell 0 rfl
  have z1 := h.cell 1 rfl
  have z2 := h.cell 2 rfl
  have z3 := h.cell 3 rfl
  have z4 := h.cell 4 rfl
  simp [results, Tryz.f82, go_sem, z0, z1, z2, z3, z4]
def InsV (x : Ins) (v : Value) (w : World) : Prop := v = insV x
set_option maxHeartbeats 1000000 in
theorem gIns {w : World} {r c : Nat} {l : By} (h : RS w r l) (hk : CapR w r c) :
    Calls Tryz.prog 82 #[.pointer (some ⟨c, 0, none⟩)] w (RdE r w (getIns l) InsV) := by
  have cT : Tryz.prog.cellsOf 55 = 5 := by kernel_rfl
  have hb0 := h.lk #[.int .i64 0, .int .i64 0, .int .i64 0, .int .i64 0, .int .i64 0] 55
  have hA := (Below.refl w.heap.size w).alloc (Nat.le_refl _) (.cells #[.int .i64 0, .int .i64 0, .int .i64 0, .int .i64 0, .int .i64 0] 55)
  have hR0 := h.fr hA
  have hk0 := hk.alloc (.cells #[.int .i64 0, .int .i64 0, .int .i64 0, .int .i64 0, .int .i64 0] 55)
  have hF0 : FrR r w (w.alloc (.cells #[.int .i64 0, .int .i64 0, .int .i64 0, .int .i64 0, .int .i64 0] 55)) := Fr.new r nilV w _
  have hcb : c < w.heap.size := hk.box.lt
  have hrb : r < w.heap.size := h.lt
  obtain ⟨G, hG⟩ : ∃ G, G = getIns l := ⟨_, rfl⟩
  rw [← hG]
  replace hG : Hid (G = getIns l) := hG
  go_enter Tryz.func82, Tryz.ntmps82
  go_wp2
  refine wp_region_held_drew (S := fun W => CapR W r c) (by kernel_rfl) (hk0.fr (Fr.refl _ _ _).drew) (fun hS => ?_)
  replace hb0 := hb0.fr (Fr.refl _ _ _).drew
  replace hR0 := hR0.fr (Below.refl _ _).drew
  replace hF0 := hF0.drew
  generalize hWW : (w.alloc (.cells #[.int .i64 0, .int .i64 0, .int .i64 0, .int .i64 0, .int .i64 0] 55)).drew = W at hb0 hR0 hF0 hS ⊢
  clear hWW hA hk0 hk h
  refine tkd (i := 0) (v := .pointer (some ⟨r, 0, none⟩)) rfl rfl (by kernel_rfl) (by kernel_rfl) (by kernel_rfl) (fun _ _ _ h => h) (Or.inl ⟨by rfl, fun wq hSw => by have m := hSw.cell 0 rfl; go_simp⟩) hS ?_
  simp only [List.setIfInBounds_toArray, List.set_cons_zero, List.set_cons_succ]
  refine tkd (i := 2) (v := .pointer (some ⟨r, 0, none⟩)) rfl rfl (by kernel_rfl) (by kernel_rfl) (by kernel_rfl) (fun _ _ _ h => h) (Or.inl ⟨by rfl, fun wq hSw => by have m := hSw.cell 0 rfl; go_simp⟩) hS ?_
  simp only [List.setIfInBounds_toArray, List.set_cons_zero, List.set_cons_succ]
  refine tkd (i := 4) (v := .pointer (some ⟨r, 0, none⟩)) rfl rfl (by kernel_rfl) (by kernel_rfl) (by kernel_rfl) (fun _ _ _ h => h) (Or.inl ⟨by rfl, fun wq hSw => by have m := hSw.cell 0 rfl; go_simp⟩) hS ?_
  simp only [List.setIfInBounds_toArray, List.set_cons_zero, List.set_cons_succ]
  refine tkd (i := 6) (v := .pointer (some ⟨r, 0, none⟩)) rfl rfl (by kernel_rfl) (by kernel_rfl) (by kernel_rfl) (fun _ _ _ h => h) (Or.inl ⟨by rfl, fun wq hSw => by have m := hSw.cell 0 rfl; go_simp⟩) hS ?_
  simp only [List.setIfInBounds_toArray, List.set_cons_zero, List.set_cons_succ]
  refine tkd (i := 8) (v := .pointer (some ⟨r, 0, none⟩)) rfl rfl (by kernel_rfl) (by kernel_rfl) (by kernel_rfl) (fun _ _ _ h => h) (Or.inl ⟨by rfl, fun wq hSw => by have m := hSw.cell 0 rfl; go_simp⟩) hS ?_
  simp only [List.setIfInBounds_toArray, List.set_cons_zero, List.set_cons_succ]
  refine wpAnyH_ready (rs := [1]) (by kernel_rfl) (by simp) ?_
  refine AllReadyH.cons rfl (fun K hK => ?_) AllReadyH.nil
  go_simp
  go_at_call 83
  refine (oInt hR0).mono ?_
  rintro e w1 ⟨hF1, hE⟩
  cases hg1 : getNum l with
  | none =>
    rw [hg1] at hE
    dsimp only at hE
    have HE : Hid (G = none) := by show _ = _; rw [hG.out]; unfold getIns; simp [hg1]
    subst hE
    go_wp2
    exact ⟨rfl, hF0.trans hF1, by rw [HE.out]⟩
  | some p1 =>
  obtain ⟨x1, l1⟩ := p1
  rw [hg1] at hE
  obtain ⟨v, rfl, hv, hR1⟩ := hE
  have hv2 : v = .int .i64 x1 := hv
  subst hv2
  clear hv
  go_wp2
  replace hS := hS.fr hF1
  replace hb0 := hb0.fr hF1
  replace hF0 := hF0.trans hF1
  clear hF1 hR0
  refine hK.out _ _ hS (fun _ => ?_)
  clear hK K
  refine wpAnyH_ready (rs := [3]) (by kernel_rfl) (by simp) ?_
  refine AllReadyH.cons rfl (fun K hK => ?_) AllReadyH.nil
  go_simp
  go_at_call 83
  refine (oInt hR1).mono ?_
  rintro e w2 ⟨hF2, hE⟩
  cases hg2 : getNum l1 with
  | none =>
    rw [hg2] at hE
    dsimp only at hE
    have HE : Hid (G = none) := by show _ = _; rw [hG.out]; unfold getIns; simp [hg1, hg2]
    subst hE
    go_wp2
    exact ⟨rfl, hF0.trans hF2, by rw [HE.out]⟩
  | some p2 =>
  obtain ⟨x2, l2⟩ := p2
  rw [hg2] at hE
  obtain ⟨v, rfl, hv, hR2⟩ := hE
  have hv2 : v = .int .i64 x2 := hv
  subst hv2
  clear hv
  go_wp2
  replace hS := hS.fr hF2
  replace hb0 := hb0.fr hF2
  replace hF0 := hF0.trans hF2
  clear hF2 hR1
  refine hK.out _ _ hS (fun _ => ?_)
  clear hK K
  refine wpAnyH_ready (rs := [5]) (by kernel_rfl) (by simp) ?_
  refine AllReadyH.cons rfl (fun K hK => ?_) AllReadyH.nil
  go_simp
  go_at_call 83
  refine (oInt hR2).mono ?_
  rintro e w3 ⟨hF3, hE⟩
  cases hg3 : getNum l2 with
  | none =>
    rw [hg3] at hE
    dsimp only at hE
    have HE : Hid (G = none) := by show _ = _; rw [hG.out]; unfold getIns; simp [hg1, hg2, hg3]
    subst hE
    go_wp2
    exact ⟨rfl, hF0.trans hF3, by rw [HE.out]⟩
  | some p3 =>
  obtain ⟨x3, l3⟩ := p3
  rw [hg3] at hE
  obtain ⟨v, rfl, hv, hR3⟩ := hE
  have hv2 : v = .int .i64 x3 := hv
  subst hv2
  clear hv
  go_wp2
  replace hS := hS.fr hF3
  replace hb0 := hb0.fr hF3
  replace hF0 := hF0.trans hF3
  clear hF3 hR2
  refine hK.out _ _ hS (fun _ => ?_)
  clear hK K
  refine wpAnyH_ready (rs := [7]) (by kernel_rfl) (by simp) ?_
  refine AllReadyH.cons rfl (fun K hK => ?_) AllReadyH.nil
  go_simp
  go_at_call 83
  refine (oInt hR3).mono ?_
  rintro e w4 ⟨hF4, hE⟩
  cases hg4 : getNum l3 with
  | none =>
    rw [hg4] at hE
    dsimp only at hE
    have HE : Hid (G = none) := by show _ = _; rw [hG.out]; unfold getIns; simp [hg1, hg2, hg3, hg4]
    subst hE
    go_wp2
    exact ⟨rfl, hF0.trans hF4, by rw [HE.out]⟩
  | some p4 =>
  obtain ⟨x4, l4⟩ := p4
  rw [hg4] at hE
  obtain ⟨v, rfl, hv, hR4⟩ := hE
  have hv2 : v = .int .i64 x4 := hv
  subst hv2
  clear hv
  go_wp2
  replace hS := hS.fr hF4
  replace hb0 := hb0.fr hF4
  replace hF0 := hF0.trans hF4
  clear hF4 hR3
  refine hK.out _ _ hS (fun _ => ?_)
  clear hK K
  refine wpAnyH_ready (rs := [9]) (by kernel_rfl) (by simp) ?_
  refine AllReadyH.cons rfl (fun K hK => ?_) AllReadyH.nil
  go_simp
  go_at_call 84
  refine (oNumber hR4).mono ?_
  rintro e w5 ⟨hF5, hE⟩
  cases hg5 : getNum l4 with
  | none =>
    rw [hg5] at hE
    dsimp only at hE
    have HE : Hid (G = none) := by show _ = _; rw [hG.out]; unfold getIns; simp [hg1, hg2, hg3, hg4, hg5]
    subst hE
    go_wp2
    exact ⟨rfl, hF0.trans hF5, by rw [HE.out]⟩
  | some p5 =>
  obtain ⟨x5, l5⟩ := p5
  rw [hg5] at hE
  obtain ⟨v, rfl, hv, hR5⟩ := hE
  have hv2 : v = .int .i64 x5 := hv
  subst hv2
  clear hv
  go_wp2
  replace hS := hS.fr hF5
  replace hb0 := hb0.fr hF5
  replace hF0 := hF0.trans hF5
  clear hF5 hR4
  refine hK.out _ _ hS (fun _ => ?_)
  clear hK K

  refine tkd (i := 10) (v := .agg #[.int .i64 x1, .int .i64 x2, .int .i64 x3, .int .i64 x4, .int .i64 x5] ) rfl rfl (by kernel_rfl) (by kernel_rfl) (by kernel_rfl) (fun _ _ _ h => h) (Or.inl ⟨by rfl, fun wq hSw => by skip; go_simp⟩) hS ?_
  simp only [List.setIfInBounds_toArray, List.set_cons_zero, List.set_cons_succ]
  refine wpAnyH_ready (rs := [11]) (by kernel_rfl) (by simp) ?_
  refine AllReadyH.cons rfl (fun K hK => ?_) AllReadyH.nil
  refine step_store_row (by rfl) 55 (.tmp 1) (.tmp 12) (by rfl) w.heap.size #[.int .i64 x1, .int .i64 x2, .int .i64 x3, .int .i64 x4, .int .i64 x5] (by rfl) (by rfl) 55 _ hb0.box (by kernel_rfl) (by rfl) (by kernel_rfl) ?_
  have hbF := box_row (cs := #[.int .i64 x1, .int .i64 x2, .int .i64 x3, .int .i64 x4, .int .i64 x5]) hb0.box
  have hRF := hR5.low ((below_setRow w5 w.heap.size #[.int .i64 x1, .int .i64 x2, .int .i64 x3, .int .i64 x4, .int .i64 x5]).mono (by omega))
  have hFF := hF0.row (Nat.le_refl _) #[.int .i64 x1, .int .i64 x2, .int .i64 x3, .int .i64 x4, .int .i64 x5]
  have hSF : CapR (w5.setRow w.heap.size #[.int .i64 x1, .int .i64 x2, .int .i64 x3, .int .i64 x4, .int .i64 x5]) r c := ⟨(setRow_other w5 w.heap.size c #[.int .i64 x1, .int .i64 x2, .int .i64 x3, .int .i64 x4, .int .i64 x5] (by omega)).trans hS.box, hS.ne, hS.row⟩
  refine hK.out _ _ hSF (fun _ => ?_)
  clear hK K
  refine wpAnyH_done (by kernel_rfl) ?_ _
  have HE : Hid (G = some (⟨x1, x2, x3, x4, x5⟩, l5)) := by show _ = _; rw [hG.out]; unfold getIns; simp [hg1, hg2, hg3, hg4, hg5]
  clear hb0 hS hF0 hR5
  generalize w5.setRow w.heap.size #[.int .i64 x1, .int .i64 x2, .int .i64 x3, .int .i64 x4, .int .i64 x5] = WF at *
  go_wp2
  refine bodyPost_ret (v := .agg #[.int .i64 x1, .int .i64 x2, .int .i64 x3, .int .i64 x4, .int .i64 x5]) (res_gIns _ _ hbF cT) rfl ?_
  refine ⟨hFF, ?_⟩
  rw [HE.out]
  exact ⟨_, rfl, rfl, hRF⟩
theorem res_gRel {W : World} {a0 x1 x2 x3 x4 : Value} (tl : List Value) (B : Nat) (h : BoxC W B #[x1, x2, x3, x4] 57) (c : Tryz.prog.cellsOf 57 = 4) : (results Tryz.f86 (List.toArray (a0 :: .pointer (some ⟨B, 0, none⟩) :: tl))).run Tryz.prog W = .ok (.agg #[x1, x2, x3, x4]) W := by
  have z0 := h.cell 0 rfl
  have z1 := h.cell 1 rfl
  have z2 := h.cell 2 rfl
  have z3 := h.cell 3 rfl
  simp [results, Tryz.f86, go_sem, z0, z1, z2, z3]
def RelV (x : RelD) (v : Value) (w : World) : Prop := v = relV x
set_option maxHeartbeats 1000000 in
theorem gRel {w : World} {r c : Nat} {l : By} (h : RS w r l) (hk : CapR w r c) :
    Calls Tryz.prog 86 #[.pointer (some ⟨c, 0, none⟩)] w (RdE r w (getRel l) RelV) := by
  have cT : Tryz.prog.cellsOf 57 = 4 := by kernel_rfl
  have hb0 := h.lk #[.int .i64 0, .int .i64 0, .string ⟨#[]⟩, .string ⟨#[]⟩] 57
  have hA := (Below.refl w.heap.size w).alloc (Nat.le_refl _) (.cells #[.int .i64 0, .int .i64 0, .string ⟨#[]⟩, .string ⟨#[]⟩] 57)
  have hR0 := h.fr hA
  have hk0 := hk.alloc (.cells #[.int .i64 0, .int .i64 0, .string ⟨#[]⟩, .string ⟨#[]⟩] 57)
  have hF0 : FrR r w (w.alloc (.cells #[.int .i64 0, .int .i64 0, .string ⟨#[]⟩, .string ⟨#[]⟩] 57)) := Fr.new r nilV w _
  have hcb : c < w.heap.size := hk.box.lt
  have hrb : r < w.heap.size := h.lt
  obtain ⟨G, hG⟩ : ∃ G, G = getRel l := ⟨_, rfl⟩
  rw [← hG]
  replace hG : Hid (G = getRel l) := hG
  go_enter Tryz.func86, Tryz.ntmps86
  go_wp2
  refine wp_region_held_drew (S := fun W => CapR W r c) (by kernel_rfl) (hk0.fr (Fr.refl _ _ _).drew) (fun hS => ?_)
  replace hb0 := hb0.fr (Fr.refl _ _ _).drew
  replace hR0 := hR0.fr (Below.refl _ _).drew
  replace hF0 := hF0.drew
  generalize hWW : (w.alloc (.cells #[.int .i64 0, .int .i64 0, .string ⟨#[]⟩, .string ⟨#[]⟩] 57)).drew = W at hb0 hR0 hF0 hS ⊢
  clear hWW hA hk0 hk h
  refine tkd (i := 0) (v := .pointer (some ⟨r, 0, none⟩)) rfl rfl (by kernel_rfl) (by kernel_rfl) (by kernel_rfl) (fun _ _ _ h => h) (Or.inl ⟨by rfl, fun wq hSw => by have m := hSw.cell 0 rfl; go_simp⟩) hS ?_
  simp only [List.setIfInBounds_toArray, List.set_cons_zero, List.set_cons_succ]
  refine tkd (i := 2) (v := .pointer (some ⟨r, 0, none⟩)) rfl rfl (by kernel_rfl) (by kernel_rfl) (by kernel_rfl) (fun _ _ _ h => h) (Or.inl ⟨by rfl, fun wq hSw => by have m := hSw.cell 0 rfl; go_simp⟩) hS ?_
  simp only [List.setIfInBounds_toArray, List.set_cons_zero, List.set_cons_succ]
  refine tkd (i := 4) (v := .pointer (some ⟨r, 0, none⟩)) rfl rfl (by kernel_rfl) (by kernel_rfl) (by kernel_rfl) (fun _ _ _ h => h) (Or.inl ⟨by rfl, fun wq hSw => by have m := hSw.cell 0 rfl; go_simp⟩) hS ?_
  simp only [List.setIfInBounds_toArray, List.set_cons_zero, List.set_cons_succ]
  refine tkd (i := 6) (v := .pointer (some ⟨r, 0, none⟩)) rfl rfl (by kernel_rfl) (by kernel_rfl) (by kernel_rfl) (fun _ _ _ h => h) (Or.inl ⟨by rfl, fun wq hSw => by have m := hSw.cell 0 rfl; go_simp⟩) hS ?_
  simp only [List.setIfInBounds_toArray, List.set_cons_zero, List.set_cons_succ]
  refine wpAnyH_ready (rs := [1]) (by kernel_rfl) (by simp) ?_
  refine AllReadyH.cons rfl (fun K hK => ?_) AllReadyH.nil
  go_simp
  go_at_call 83
  refine (oInt hR0).mono ?_
  rintro e w1 ⟨hF1, hE⟩
  cases hg1 : getNum l with
  | none =>
    rw [hg1] at hE
    dsimp only at hE
    have HE : Hid (G = none) := by show _ = _; rw [hG.out]; unfold getRel; simp [hg1]
    subst hE
    go_wp2
    exact ⟨rfl, hF0.trans hF1, by rw [HE.out]⟩
  | some p1 =>
  obtain ⟨x1, l1⟩ := p1
  rw [hg1] at hE
  obtain ⟨v, rfl, hv, hR1⟩ := hE
  have hv2 : v = .int .i64 x1 := hv
  subst hv2
  clear hv
  go_wp2
  replace hS := hS.fr hF1
  replace hb0 := hb0.fr hF1
  replace hF0 := hF0.trans hF1
  clear hF1 hR0
  refine hK.out _ _ hS (fun _ => ?_)
  clear hK K
  refine wpAnyH_ready (rs := [3]) (by kernel_rfl) (by simp) ?_
  refine AllReadyH.cons rfl (fun K hK => ?_) AllReadyH.nil
  go_simp
  go_at_call 83
  refine (oInt hR1).mono ?_
  rintro e w2 ⟨hF2, hE⟩
  cases hg2 : getNum l1 with
  | none =>
    rw [hg2] at hE
    dsimp only at hE
    have HE : Hid (G = none) := by show _ = _; rw [hG.out]; unfold getRel; simp [hg1, hg2]
    subst hE
    go_wp2
    exact ⟨rfl, hF0.trans hF2, by rw [HE.out]⟩
  | some p2 =>
  obtain ⟨x2, l2⟩ := p2
  rw [hg2] at hE
  obtain ⟨v, rfl, hv, hR2⟩ := hE
  have hv2 : v = .int .i64 x2 := hv
  subst hv2
  clear hv
  go_wp2
  replace hS := hS.fr hF2
  replace hb0 := hb0.fr hF2
  replace hF0 := hF0.trans hF2
  clear hF2 hR1
  refine hK.out _ _ hS (fun _ => ?_)
  clear hK K
  refine wpAnyH_ready (rs := [5]) (by kernel_rfl) (by simp) ?_
  refine AllReadyH.cons rfl (fun K hK => ?_) AllReadyH.nil
  go_simp
  go_at_call 87
  refine (oTextR hR2).mono ?_
  rintro e w3 ⟨hF3, hE⟩
  cases hg3 : getText l2 with
  | none =>
    rw [hg3] at hE
    dsimp only at hE
    have HE : Hid (G = none) := by show _ = _; rw [hG.out]; unfold getRel; simp [hg1, hg2, hg3]
    subst hE
    go_wp2
    exact ⟨rfl, hF0.trans hF3, by rw [HE.out]⟩
  | some p3 =>
  obtain ⟨x3, l3⟩ := p3
  rw [hg3] at hE
  obtain ⟨v, rfl, hv, hR3⟩ := hE
  have hv2 : v = .string x3 := hv
  subst hv2
  clear hv
  go_wp2
  replace hS := hS.fr hF3
  replace hb0 := hb0.fr hF3
  replace hF0 := hF0.trans hF3
  clear hF3 hR2
  refine hK.out _ _ hS (fun _ => ?_)
  clear hK K
  refine wpAnyH_ready (rs := [7]) (by kernel_rfl) (by simp) ?_
  refine AllReadyH.cons rfl (fun K hK => ?_) AllReadyH.nil
  go_simp
  go_at_call 87
  refine (oTextR hR3).mono ?_
  rintro e w4 ⟨hF4, hE⟩
  cases hg4 : getText l3 with
  | none =>
    rw [hg4] at hE
    dsimp only at hE
    have HE : Hid (G = none) := by show _ = _; rw [hG.out]; unfold getRel; simp [hg1, hg2, hg3, hg4]
    subst hE
    go_wp2
    exact ⟨rfl, hF0.trans hF4, by rw [HE.out]⟩
  | some p4 =>
  obtain ⟨x4, l4⟩ := p4
  rw [hg4] at hE
  obtain ⟨v, rfl, hv, hR4⟩ := hE
  have hv2 : v = .string x4 := hv
  subst hv2
  clear hv
  go_wp2
  replace hS := hS.fr hF4
  replace hb0 := hb0.fr hF4
  replace hF0 := hF0.trans hF4
  clear hF4 hR3
  refine hK.out _ _ hS (fun _ => ?_)
  clear hK K

  refine tkd (i := 8) (v := .agg #[.int .i64 x1, .int .i64 x2, .string x3, .string x4] ) rfl rfl (by kernel_rfl) (by kernel_rfl) (by kernel_rfl) (fun _ _ _ h => h) (Or.inl ⟨by rfl, fun wq hSw => by skip; go_simp⟩) hS ?_
  simp only [List.setIfInBounds_toArray, List.set_cons_zero, List.set_cons_succ]
  refine wpAnyH_ready (rs := [9]) (by kernel_rfl) (by simp) ?_
  refine AllReadyH.cons rfl (fun K hK => ?_) AllReadyH.nil
  refine step_store_row (by rfl) 57 (.tmp 1) (.tmp 10) (by rfl) w.heap.size #[.int .i64 x1, .int .i64 x2, .string x3, .string x4] (by rfl) (by rfl) 57 _ hb0.box (by kernel_rfl) (by rfl) (by kernel_rfl) ?_
  have hbF := box_row (cs := #[.int .i64 x1, .int .i64 x2, .string x3, .string x4]) hb0.box
  have hRF := hR4.low ((below_setRow w4 w.heap.size #[.int .i64 x1, .int .i64 x2, .string x3, .string x4]).mono (by omega))
  have hFF := hF0.row (Nat.le_refl _) #[.int .i64 x1, .int .i64 x2, .string x3, .string x4]
  have hSF : CapR (w4.setRow w.heap.size #[.int .i64 x1, .int .i64 x2, .string x3, .string x4]) r c := ⟨(setRow_other w4 w.heap.size c #[.int .i64 x1, .int .i64 x2, .string x3, .string x4] (by omega)).trans hS.box, hS.ne, hS.row⟩
  refine hK.out _ _ hSF (fun _ => ?_)
  clear hK K
  refine wpAnyH_done (by kernel_rfl) ?_ _
  have HE : Hid (G = some (⟨x1, x2, x3, x4⟩, l4)) := by show _ = _; rw [hG.out]; unfold getRel; simp [hg1, hg2, hg3, hg4]
  clear hb0 hS hF0 hR4
  generalize w4.setRow w.heap.size #[.int .i64 x1, .int .i64 x2, .string x3, .string x4] = WF at *
  go_wp2
  refine bodyPost_ret (v := .agg #[.int .i64 x1, .int .i64 x2, .string x3, .string x4]) (res_gRel _ _ hbF cT) rfl ?_
  refine ⟨hFF, ?_⟩
  rw [HE.out]
  exact ⟨_, rfl, rfl, hRF⟩
theorem res_gPlc {W : World} {a0 x1 x2 : Value} (tl : List Value) (B : Nat) (h : BoxC W B #[x1, x2] 85) (c : Tryz.prog.cellsOf 85 = 2) : (results Tryz.f106 (List.toArray (a0 :: .pointer (some ⟨B, 0, none⟩) :: tl))).run Tryz.prog W = .ok (.agg #[x1, x2]) W := by
  have z0 := h.cell 0 rfl
  have z1 := h.cell 1 rfl
  simp [results, Tryz.f106, go_sem, z0, z1]
def PlcV (x : PlcD) (v : Value) (w : World) : Prop := v = plcV x
set_option maxHeartbeats 1000000 in
theorem gPlc {w : World} {r c : Nat} {l : By} (h : RS w r l) (hk : CapR w r c) :
    Calls Tryz.prog 106 #[.pointer (some ⟨c, 0, none⟩)] w (RdE r w (getPlc l) PlcV) := by
  have cT : Tryz.prog.cellsOf 85 = 2 := by kernel_rfl
  have hb0 := h.lk #[.string ⟨#[]⟩, .int .i64 0] 85
  have hA := (Below.refl w.heap.size w).alloc (Nat.le_refl _) (.cells #[.string ⟨#[]⟩, .int .i64 0] 85)
  have hR0 := h.fr hA
  have hk0 := hk.alloc (.cells #[.string ⟨#[]⟩, .int .i64 0] 85)
  have hF0 : FrR r w (w.alloc (.cells #[.string ⟨#[]⟩, .int .i64 0] 85)) := Fr.new r nilV w _
  have hcb : c < w.heap.size := hk.box.lt
  have hrb : r < w.heap.size := h.lt
  obtain ⟨G, hG⟩ : ∃ G, G = getPlc l := ⟨_, rfl⟩
  rw [← hG]
  replace hG : Hid (G = getPlc l) := hG
  go_enter Tryz.func106, Tryz.ntmps106
  go_wp2
  refine wp_region_held_drew (S := fun W => CapR W r c) (by kernel_rfl) (hk0.fr (Fr.refl _ _ _).drew) (fun hS => ?_)
  replace hb0 := hb0.fr (Fr.refl _ _ _).drew
  replace hR0 := hR0.fr (Below.refl _ _).drew
  replace hF0 := hF0.drew
  generalize hWW : (w.alloc (.cells #[.string ⟨#[]⟩, .int .i64 0] 85)).drew = W at hb0 hR0 hF0 hS ⊢
  clear hWW hA hk0 hk h
  refine tkd (i := 0) (v := .pointer (some ⟨r, 0, none⟩)) rfl rfl (by kernel_rfl) (by kernel_rfl) (by kernel_rfl) (fun _ _ _ h => h) (Or.inl ⟨by rfl, fun wq hSw => by have m := hSw.cell 0 rfl; go_simp⟩) hS ?_
  simp only [List.setIfInBounds_toArray, List.set_cons_zero, List.set_cons_succ]
  refine tkd (i := 2) (v := .pointer (some ⟨r, 0, none⟩)) rfl rfl (by kernel_rfl) (by kernel_rfl) (by kernel_rfl) (fun _ _ _ h => h) (Or.inl ⟨by rfl, fun wq hSw => by have m := hSw.cell 0 rfl; go_simp⟩) hS ?_
  simp only [List.setIfInBounds_toArray, List.set_cons_zero, List.set_cons_succ]
  refine wpAnyH_ready (rs := [1]) (by kernel_rfl) (by simp) ?_
  refine AllReadyH.cons rfl (fun K hK => ?_) AllReadyH.nil
  go_simp
  go_at_call 87
  refine (oTextR hR0).mono ?_
  rintro e w1 ⟨hF1, hE⟩
  cases hg1 : getText l with
  | none =>
    rw [hg1] at hE
    dsimp only at hE
    have HE : Hid (G = none) := by show _ = _; rw [hG.out]; unfold getPlc; simp [hg1]
    subst hE
    go_wp2
    exact ⟨rfl, hF0.trans hF1, by rw [HE.out]⟩
  | some p1 =>
  obtain ⟨x1, l1⟩ := p1
  rw [hg1] at hE
  obtain ⟨v, rfl, hv, hR1⟩ := hE
  have hv2 : v = .string x1 := hv
  subst hv2
  clear hv
  go_wp2
  replace hS := hS.fr hF1
  replace hb0 := hb0.fr hF1
  replace hF0 := hF0.trans hF1
  clear hF1 hR0
  refine hK.out _ _ hS (fun _ => ?_)
  clear hK K
  refine wpAnyH_ready (rs := [3]) (by kernel_rfl) (by simp) ?_
  refine AllReadyH.cons rfl (fun K hK => ?_) AllReadyH.nil
  go_simp
  go_at_call 83
  refine (oInt hR1).mono ?_
  rintro e w2 ⟨hF2, hE⟩
  cases hg2 : getNum l1 with
  | none =>
    rw [hg2] at hE
    dsimp only at hE
    have HE : Hid (G = none) := by show _ = _; rw [hG.out]; unfold getPlc; simp [hg1, hg2]
    subst hE
    go_wp2
    exact ⟨rfl, hF0.trans hF2, by rw [HE.out]⟩
  | some p2 =>
  obtain ⟨x2, l2⟩ := p2
  rw [hg2] at hE
  obtain ⟨v, rfl, hv, hR2⟩ := hE
  have hv2 : v = .int .i64 x2 := hv
  subst hv2
  clear hv
  go_wp2
  replace hS := hS.fr hF2
  replace hb0 := hb0.fr hF2
  replace hF0 := hF0.trans hF2
  clear hF2 hR1
  refine hK.out _ _ hS (fun _ => ?_)
  clear hK K

  refine tkd (i := 4) (v := .agg #[.string x1, .int .i64 x2] ) rfl rfl (by kernel_rfl) (by kernel_rfl) (by kernel_rfl) (fun _ _ _ h => h) (Or.inl ⟨by rfl, fun wq hSw => by skip; go_simp⟩) hS ?_
  simp only [List.setIfInBounds_toArray, List.set_cons_zero, List.set_cons_succ]
  refine wpAnyH_ready (rs := [5]) (by kernel_rfl) (by simp) ?_
  refine AllReadyH.cons rfl (fun K hK => ?_) AllReadyH.nil
  refine step_store_row (by rfl) 85 (.tmp 1) (.tmp 6) (by rfl) w.heap.size #[.string x1, .int .i64 x2] (by rfl) (by rfl) 85 _ hb0.box (by kernel_rfl) (by rfl) (by kernel_rfl) ?_
  have hbF := box_row (cs := #[.string x1, .int .i64 x2]) hb0.box
  have hRF := hR2.low ((below_setRow w2 w.heap.size #[.string x1, .int .i64 x2]).mono (by omega))
  have hFF := hF0.row (Nat.le_refl _) #[.string x1, .int .i64 x2]
  have hSF : CapR (w2.setRow w.heap.size #[.string x1, .int .i64 x2]) r c := ⟨(setRow_other w2 w.heap.size c #[.string x1, .int .i64 x2] (by omega)).trans hS.box, hS.ne, hS.row⟩
  refine hK.out _ _ hSF (fun _ => ?_)
  clear hK K
  refine wpAnyH_done (by kernel_rfl) ?_ _
  have HE : Hid (G = some (⟨x1, x2⟩, l2)) := by show _ = _; rw [hG.out]; unfold getPlc; simp [hg1, hg2]
  clear hb0 hS hF0 hR2
  generalize w2.setRow w.heap.size #[.string x1, .int .i64 x2] = WF at *
  go_wp2
  refine bodyPost_ret (v := .agg #[.string x1, .int .i64 x2]) (res_gPlc _ _ hbF cT) rfl ?_
  refine ⟨hFF, ?_⟩
  rw [HE.out]
  exact ⟨_, rfl, rfl, hRF⟩
end Go.Proofs.YthfeojjfehbgjaaGreatDoor.obj
