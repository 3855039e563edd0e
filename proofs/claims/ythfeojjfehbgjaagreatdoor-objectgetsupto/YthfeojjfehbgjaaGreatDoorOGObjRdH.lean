/- What the reference's Get answers: a contract. (Written by mkrdg.py: edit that.) -/
import Derived.Test.YthfeojjfehbgjaaGreatDoorOGObjRdG
namespace Go.Proofs.YthfeojjfehbgjaaGreatDoor.obj
open Go.RowKit
open Go.Proofs.YthfeojjfehbgjaaGreatDoor.mac (BoxC grown_of_below Ins)
open Go.Proofs.YthfeojjfehbgjaaGreatDoor.face (VarD ProcD FaceD IntsIn VarsIn ProcsIn)
set_option linter.unusedVariables false
set_option linter.unusedSimpArgs false
set_option maxRecDepth 100000
theorem info_rFace : (Tryz.prog.info? 25).map (fun i => (i.zero, i.size, i.bytes)) = some (some (.agg #[.string ⟨#[]⟩, .slice none 0 0, .slice none 0 0]), 3, 64) := by kernel_rfl
theorem info_rIns : (Tryz.prog.info? 55).map (fun i => (i.zero, i.size, i.bytes)) = some (some (.agg #[.int .i64 0, .int .i64 0, .int .i64 0, .int .i64 0, .int .i64 0]), 5, 40) := by kernel_rfl
theorem info_rRel : (Tryz.prog.info? 57).map (fun i => (i.zero, i.size, i.bytes)) = some (some (.agg #[.int .i64 0, .int .i64 0, .string ⟨#[]⟩, .string ⟨#[]⟩]), 4, 48) := by kernel_rfl
/-! what is left of an object's reading -/
def kN4 (o : ObjD) (d : Int × By) : Option (ObjD × By) := some ({ o with highF := d.1 }, d.2)
def kN3 (o : ObjD) (d : Int × By) : Option (ObjD × By) := (getNum d.2).bind (kN4 { o with lowF := d.1 })
def kN2 (o : ObjD) (d : Int × By) : Option (ObjD × By) := (getNum d.2).bind (kN3 { o with high := d.1 })
def kN1 (o : ObjD) (d : Int × By) : Option (ObjD × By) := (getNum d.2).bind (kN2 { o with low := d.1 })
def kP3 (o : ObjD) (e : List PlcD × By) : Option (ObjD × By) := (getNum e.2).bind (kN1 { o with highs := e.1 })
def kP2 (o : ObjD) (e : List PlcD × By) : Option (ObjD × By) := (getL getPlc e.2).bind (kP3 { o with lows := e.1 })
def kP1 (o : ObjD) (e : List PlcD × By) : Option (ObjD × By) := (getL getPlc e.2).bind (kP2 { o with procs := e.1 })
def kPl (f : FaceD) (is : List FaceD) (cs : List Ins) (rs : List RelD) (l : By) : Option (ObjD × By) := (getL getPlc l).bind fun e => (getL getPlc e.2).bind fun f1 => (getL getPlc f1.2).bind fun g =>
  (getNum g.2).bind fun h => (getNum h.2).bind fun i => (getNum i.2).bind fun j => (getNum j.2).bind fun k => some (⟨f, is, cs, rs, e.1, f1.1, g.1, h.1, i.1, j.1, k.1⟩, k.2)
def kRel (f : FaceD) (is : List FaceD) (cs : List Ins) (d : List RelD × By) : Option (ObjD × By) := kPl f is cs d.1 d.2
def kCode (f : FaceD) (is : List FaceD) (c : List Ins × By) : Option (ObjD × By) := (getL getRel c.2).bind fun d => kRel f is c.1 d
def kImp (f : FaceD) (b : List FaceD × By) : Option (ObjD × By) := (getL getIns b.2).bind fun c => kCode f b.1 c
theorem getO_is (l : By) : getO l = (getFace l).bind fun a => (getL getFace a.2).bind fun b => kImp a.1 b := rfl
/-- the face was read, and stored into the object's box -/
theorem GS.face0 {w wr : World} {a : Option Addr} {c M : Nat} {L : By} {o : ObjD} {x : Vals} {pj : Nat} {bj : Bool} (h : GS w wr a c L M o x x pj bj) {f : FaceD} {vv pv : Value} (hv : VarsIn (win wr (w.heap.size + 3) wr.heap.size) vv f.vars) (hp : ProcsIn (win wr (w.heap.size + 3) wr.heap.size) pv f.procs) :
    GS w (((wr.setCell ⟨w.heap.size + 2, 0, none⟩ (.string f.module)).setCell ⟨w.heap.size + 2, 1, none⟩ vv).setCell ⟨w.heap.size + 2, 2, none⟩ pv) a c L wr.heap.size { o with face := f } { x with vv := vv, pv := pv } { x with vv := vv, pv := pv } pj bj := by
  have h1 := h.m1
  have hA := h.all h.m2
  have s1 := h.store 0 (.string f.module) (o2 := { o with face := { o.face with module := f.module } }) (x2 := x) (x2' := x) rfl ⟨hA.vars, hA.procs, hA.imps, hA.code, hA.rels, hA.q1, hA.q2, hA.q3⟩ h.m2 (Nat.le_refl _)
  have t1 := fun k (k1 : w.heap.size + 3 ≤ k) (k2 : k < wr.heap.size) => Below.heap_setCell wr ⟨w.heap.size + 2, 0, none⟩ (.string f.module) k (by show k ≠ w.heap.size + 2; omega)
  have e1 := s1.at'
  have hv1 := varsSub (win_to t1 (Nat.le_refl _) (Nat.le_refl _)) hv
  have hp1 := procsSub (win_to t1 (Nat.le_refl _) (Nat.le_refl _)) hp
  have s2 := s1.store 1 vv (o2 := { o with face := { o.face with module := f.module, vars := f.vars } }) (x2 := { x with vv := vv }) (x2' := { x with vv := vv }) rfl ⟨hv1, e1.procs, e1.imps, e1.code, e1.rels, e1.q1, e1.q2, e1.q3⟩ (Nat.le_refl _) (by simp)
  have t2 := fun k (k1 : w.heap.size + 3 ≤ k) (k2 : k < wr.heap.size) => Below.heap_setCell (wr.setCell ⟨w.heap.size + 2, 0, none⟩ (.string f.module)) ⟨w.heap.size + 2, 1, none⟩ vv k (by show k ≠ w.heap.size + 2; omega)
  have e2 := s2.at'
  have hp2 := procsSub (win_to t2 (Nat.le_refl _) (Nat.le_refl _)) hp1
  exact s2.store 2 pv (o2 := { o with face := f }) (x2 := { x with vv := vv, pv := pv }) (x2' := { x with vv := vv, pv := pv }) rfl ⟨e2.vars, hp2, e2.imps, e2.code, e2.rels, e2.q1, e2.q2, e2.q3⟩ (Nat.le_refl _) (by simp)
theorem GS.put1 {w wr : World} {a : Option Addr} {c M : Nat} {L : By} {o : ObjD} {x : Vals} {pj : Nat} {bj : Bool} (h : GS w wr a c L M o x x pj bj) {l : List PlcD} {v : Value} (hv : PlcsIn (win wr (w.heap.size + 3) wr.heap.size) v l) :
    GS w (wr.setCell ⟨w.heap.size + 2, 6, none⟩ v) a c L wr.heap.size { o with procs := l } { x with p1 := v } { x with p1 := v } pj bj := by
  have hA := h.all h.m2
  have hv1 := hv
  exact h.store 6 v (o2 := { o with procs := l }) (x2 := { x with p1 := v }) (x2' := { x with p1 := v }) rfl ⟨hA.vars, hA.procs, hA.imps, hA.code, hA.rels, hv1, hA.q2, hA.q3⟩ h.m2 (Nat.le_refl _)
theorem GS.put2 {w wr : World} {a : Option Addr} {c M : Nat} {L : By} {o : ObjD} {x : Vals} {pj : Nat} {bj : Bool} (h : GS w wr a c L M o x x pj bj) {l : List PlcD} {v : Value} (hv : PlcsIn (win wr (w.heap.size + 3) wr.heap.size) v l) :
    GS w (wr.setCell ⟨w.heap.size + 2, 7, none⟩ v) a c L wr.heap.size { o with lows := l } { x with p2 := v } { x with p2 := v } pj bj := by
  have hA := h.all h.m2
  have hv1 := hv
  exact h.store 7 v (o2 := { o with lows := l }) (x2 := { x with p2 := v }) (x2' := { x with p2 := v }) rfl ⟨hA.vars, hA.procs, hA.imps, hA.code, hA.rels, hA.q1, hv1, hA.q3⟩ h.m2 (Nat.le_refl _)
theorem GS.put3 {w wr : World} {a : Option Addr} {c M : Nat} {L : By} {o : ObjD} {x : Vals} {pj : Nat} {bj : Bool} (h : GS w wr a c L M o x x pj bj) {l : List PlcD} {v : Value} (hv : PlcsIn (win wr (w.heap.size + 3) wr.heap.size) v l) :
    GS w (wr.setCell ⟨w.heap.size + 2, 8, none⟩ v) a c L wr.heap.size { o with highs := l } { x with p3 := v } { x with p3 := v } pj bj := by
  have hA := h.all h.m2
  have hv1 := hv
  exact h.store 8 v (o2 := { o with highs := l }) (x2 := { x with p3 := v }) (x2' := { x with p3 := v }) rfl ⟨hA.vars, hA.procs, hA.imps, hA.code, hA.rels, hA.q1, hA.q2, hv1⟩ h.m2 (Nat.le_refl _)
theorem GS.num1 {w wr : World} {a : Option Addr} {c M : Nat} {L : By} {o : ObjD} {x : Vals} {pj : Nat} {bj : Bool} (h : GS w wr a c L M o x x pj bj) (n : Int) :
    GS w (wr.setCell ⟨w.heap.size + 2, 9, none⟩ (.int .i64 n)) a c L wr.heap.size { o with low := n } x x pj bj := by
  have hA := h.all h.m2
  exact h.store 9 (.int .i64 n) (o2 := { o with low := n }) (x2 := x) (x2' := x) rfl ⟨hA.vars, hA.procs, hA.imps, hA.code, hA.rels, hA.q1, hA.q2, hA.q3⟩ h.m2 (Nat.le_refl _)
theorem GS.num2 {w wr : World} {a : Option Addr} {c M : Nat} {L : By} {o : ObjD} {x : Vals} {pj : Nat} {bj : Bool} (h : GS w wr a c L M o x x pj bj) (n : Int) :
    GS w (wr.setCell ⟨w.heap.size + 2, 10, none⟩ (.int .i64 n)) a c L wr.heap.size { o with high := n } x x pj bj := by
  have hA := h.all h.m2
  exact h.store 10 (.int .i64 n) (o2 := { o with high := n }) (x2 := x) (x2' := x) rfl ⟨hA.vars, hA.procs, hA.imps, hA.code, hA.rels, hA.q1, hA.q2, hA.q3⟩ h.m2 (Nat.le_refl _)
theorem GS.num3 {w wr : World} {a : Option Addr} {c M : Nat} {L : By} {o : ObjD} {x : Vals} {pj : Nat} {bj : Bool} (h : GS w wr a c L M o x x pj bj) (n : Int) :
    GS w (wr.setCell ⟨w.heap.size + 2, 11, none⟩ (.int .i64 n)) a c L wr.heap.size { o with lowF := n } x x pj bj := by
  have hA := h.all h.m2
  exact h.store 11 (.int .i64 n) (o2 := { o with lowF := n }) (x2 := x) (x2' := x) rfl ⟨hA.vars, hA.procs, hA.imps, hA.code, hA.rels, hA.q1, hA.q2, hA.q3⟩ h.m2 (Nat.le_refl _)
theorem GS.num4 {w wr : World} {a : Option Addr} {c M : Nat} {L : By} {o : ObjD} {x : Vals} {pj : Nat} {bj : Bool} (h : GS w wr a c L M o x x pj bj) (n : Int) :
    GS w (wr.setCell ⟨w.heap.size + 2, 12, none⟩ (.int .i64 n)) a c L wr.heap.size { o with highF := n } x x pj bj := by
  have hA := h.all h.m2
  exact h.store 12 (.int .i64 n) (o2 := { o with highF := n }) (x2 := x) (x2' := x) rfl ⟨hA.vars, hA.procs, hA.imps, hA.code, hA.rels, hA.q1, hA.q2, hA.q3⟩ h.m2 (Nat.le_refl _)
theorem res_rget {W : World} {a0 a1 y0 y1 y2 y3 y4 y5 y6 y7 y8 y9 y10 y11 y12 : Value} {z : Int} (tl : List Value) (B : Nat) (h : BoxC W B #[y0, y1, y2, y3, y4, y5, y6, y7, y8, y9, y10, y11, y12] 31) (c : Tryz.prog.cellsOf 31 = 13) : (results Tryz.f10 (List.toArray (a0 :: a1 :: .pointer (some ⟨B, 0, none⟩) :: .int .i64 z :: tl))).run Tryz.prog W = .ok (.tuple #[.agg #[y0, y1, y2, y3, y4, y5, y6, y7, y8, y9, y10, y11, y12], .int .i64 z]) W := by
  have z0 := h.cell 0 rfl
  have z1 := h.cell 1 rfl
  have z2 := h.cell 2 rfl
  have z3 := h.cell 3 rfl
  have z4 := h.cell 4 rfl
  have z5 := h.cell 5 rfl
  have z6 := h.cell 6 rfl
  have z7 := h.cell 7 rfl
  have z8 := h.cell 8 rfl
  have z9 := h.cell 9 rfl
  have z10 := h.cell 10 rfl
  have z11 := h.cell 11 rfl
  have z12 := h.cell 12 rfl
  simp [results, Tryz.f10, go_sem, z0, z1, z2, z3, z4, z5, z6, z7, z8, z9, z10, z11, z12]
theorem getAll_of {L : By} {G : Option (ObjD × By)} (hG : G = getO (L.drop 0)) : getAll L = G.bind fun x => if x.2 = [] ∧ mayO x.1 = true then some x.1 else none := by rw [hG]; rfl
set_option maxHeartbeats 4000000 in
theorem rGet {w : World} {a : Option Addr} {c : Nat} {L : By} (h : ByArg w a c L) (hL : L.length ≤ 1048576) : Calls Tryz.prog 10 #[.slice a L.length c] w (GetE w (getAll L)) := by
  have c13 : Tryz.prog.cellsOf 31 = 13 := by kernel_rfl
  have c3 : Tryz.prog.cellsOf 25 = 3 := face.cell3
  have c5 : Tryz.prog.cellsOf 55 = 5 := by kernel_rfl
  have c4 : Tryz.prog.cellsOf 57 = 4 := by kernel_rfl
  have cR : Tryz.prog.cellsOf 72 = 3 := by kernel_rfl
  obtain ⟨jf, hjf, jf0, jf1, jf2⟩ := info_of info_rFace
  obtain ⟨ji, hji, ji0, ji1, ji2⟩ := info_of info_rIns
  obtain ⟨jr, hjr, jr0, jr1, jr2⟩ := info_of info_rRel
  have hB1 := (Below.refl w.heap.size w).alloc (Nat.le_refl _) (.cells #[.string ⟨#[]⟩, .slice none 0 0, .slice none 0 0, .slice none 0 0, .slice none 0 0, .slice none 0 0, .slice none 0 0, .slice none 0 0, .slice none 0 0, .int .i64 0, .int .i64 0, .int .i64 0, .int .i64 0] 31)
  have hB2 := hB1.alloc hB1.size (.cells #[.slice a L.length c, .int .i64 0, .bool false] 72)
  have hB3 := hB2.alloc hB2.size (.cells #[.string ⟨#[]⟩, .slice none 0 0, .slice none 0 0, .slice none 0 0, .slice none 0 0, .slice none 0 0, .slice none 0 0, .slice none 0 0, .slice none 0 0, .int .i64 0, .int .i64 0, .int .i64 0, .int .i64 0] 31)
  have bR := ((BoxC.new w #[.string ⟨#[]⟩, .slice none 0 0, .slice none 0 0, .slice none 0 0, .slice none 0 0, .slice none 0 0, .slice none 0 0, .slice none 0 0, .slice none 0 0, .int .i64 0, .int .i64 0, .int .i64 0, .int .i64 0] 31).alloc (.cells #[.slice a L.length c, .int .i64 0, .bool false] 72)).alloc (.cells #[.string ⟨#[]⟩, .slice none 0 0, .slice none 0 0, .slice none 0 0, .slice none 0 0, .slice none 0 0, .slice none 0 0, .slice none 0 0, .slice none 0 0, .int .i64 0, .int .i64 0, .int .i64 0, .int .i64 0] 31)
  have bD := (BoxC.new (w.alloc (.cells #[.string ⟨#[]⟩, .slice none 0 0, .slice none 0 0, .slice none 0 0, .slice none 0 0, .slice none 0 0, .slice none 0 0, .slice none 0 0, .slice none 0 0, .int .i64 0, .int .i64 0, .int .i64 0, .int .i64 0] 31)) #[.slice a L.length c, .int .i64 0, .bool false] 72).alloc (.cells #[.string ⟨#[]⟩, .slice none 0 0, .slice none 0 0, .slice none 0 0, .slice none 0 0, .slice none 0 0, .slice none 0 0, .slice none 0 0, .slice none 0 0, .int .i64 0, .int .i64 0, .int .i64 0, .int .i64 0] 31)
  have bO := BoxC.new ((w.alloc (.cells #[.string ⟨#[]⟩, .slice none 0 0, .slice none 0 0, .slice none 0 0, .slice none 0 0, .slice none 0 0, .slice none 0 0, .slice none 0 0, .slice none 0 0, .int .i64 0, .int .i64 0, .int .i64 0, .int .i64 0] 31)).alloc (.cells #[.slice a L.length c, .int .i64 0, .bool false] 72)) #[.string ⟨#[]⟩, .slice none 0 0, .slice none 0 0, .slice none 0 0, .slice none 0 0, .slice none 0 0, .slice none 0 0, .slice none 0 0, .slice none 0 0, .int .i64 0, .int .i64 0, .int .i64 0, .int .i64 0] 31
  rw [World.size_alloc] at bD
  rw [World.size_alloc, World.size_alloc] at bO
  have hG0 : GS w (((w.alloc (.cells #[.string ⟨#[]⟩, .slice none 0 0, .slice none 0 0, .slice none 0 0, .slice none 0 0, .slice none 0 0, .slice none 0 0, .slice none 0 0, .slice none 0 0, .int .i64 0, .int .i64 0, .int .i64 0, .int .i64 0] 31)).alloc (.cells #[.slice a L.length c, .int .i64 0, .bool false] 72)).alloc (.cells #[.string ⟨#[]⟩, .slice none 0 0, .slice none 0 0, .slice none 0 0, .slice none 0 0, .slice none 0 0, .slice none 0 0, .slice none 0 0, .slice none 0 0, .int .i64 0, .int .i64 0, .int .i64 0, .int .i64 0] 31)) a c L (w.heap.size + 3) zeroO zeroX zeroX 0 false := ⟨bR, bO, zeroAt _, Nat.le_refl _, by simp, ⟨bD, Nat.zero_le _, by omega, h.le, h.most, h.nil, h.plain, fun hne => by
    obtain ⟨g, o, e, hg, hc⟩ := h.by' hne
    exact ⟨g, o, e, by omega, fun i hi => (hB3.cell (p := ⟨g, o + i, none⟩) hg).trans (hc i hi)⟩⟩, hB3⟩
  have hs3 : (((w.alloc (.cells #[.string ⟨#[]⟩, .slice none 0 0, .slice none 0 0, .slice none 0 0, .slice none 0 0, .slice none 0 0, .slice none 0 0, .slice none 0 0, .slice none 0 0, .int .i64 0, .int .i64 0, .int .i64 0, .int .i64 0] 31)).alloc (.cells #[.slice a L.length c, .int .i64 0, .bool false] 72)).alloc (.cells #[.string ⟨#[]⟩, .slice none 0 0, .slice none 0 0, .slice none 0 0, .slice none 0 0, .slice none 0 0, .slice none 0 0, .slice none 0 0, .slice none 0 0, .int .i64 0, .int .i64 0, .int .i64 0, .int .i64 0] 31)).heap.size = w.heap.size + 3 := by simp
  have hC := rFaceR hG0.rb
  rw [hs3] at hC
  obtain ⟨G, hG⟩ : ∃ G, G = getO (L.drop 0) := ⟨_, rfl⟩
  have HK : Hid (KR false false G ((getFace (L.drop 0)).bind fun a => (getL getFace a.2).bind fun b => kImp a.1 b)) := (KR.begin false G).eq hG
  replace hG : Hid (G = _) := hG
  go_enter Tryz.func10, Tryz.ntmps10
  go_wp2_with (fail)
  refine hC.mono ?_
  rintro e w1 ⟨hF1, fc, v, p1, b1, rfl, ⟨vv, pv, rfl, hv1, hv2⟩, hB1', hp1, h81, hS1⟩
  clear hC
  replace HK : Hid _ := KR.step (C := id) HK.out rfl hS1
  have hG1 := hG0.call hF1 hB1'
  have hG2 := hG1.face0 hv1 hv2
  have y0 := hG1.bO.cell 0 rfl
  have y1 := hG1.bO.cell 1 rfl
  have y2 := hG1.bO.cell 2 rfl
  have g0 := hG1.bO.fz 0
  have g1 := hG1.bO.fz 1
  have g2 := hG1.bO.fz 2
  obtain ⟨va, vc, hva⟩ : ∃ a c, vv = .slice a fc.vars.length c := by obtain ⟨x, y, e, _⟩ := hv1; exact ⟨x, y, e⟩
  obtain ⟨pa, pc, hpa⟩ : ∃ a c, pv = .slice a fc.procs.length c := by obtain ⟨x, y, e, _⟩ := hv2; exact ⟨x, y, e⟩
  subst hva hpa
  unfold faceV
  clear hG1 hG0 hB1 hB2 hB3 bR bD bO hs3 hF1 hB1' h81 hS1 hv1 hv2 hp1
  have hC := rNumberR hG2.rb
  have hS : GS w (((w1.setCell ⟨w.heap.size + 2, 0, none⟩ (.string fc.module)).setCell ⟨w.heap.size + 2, 1, none⟩ (.slice va fc.vars.length vc)).setCell ⟨w.heap.size + 2, 2, none⟩ (.slice pa fc.procs.length pc)) a c L w1.heap.size (⟨fc, [], [], [], [], [], [], 0, 0, 0, 0⟩ : ObjD) (⟨.slice va fc.vars.length vc, .slice pa fc.procs.length pc, nilV, nilV, nilV, nilV, nilV, nilV⟩ : Vals) (⟨.slice va fc.vars.length vc, .slice pa fc.procs.length pc, nilV, nilV, nilV, nilV, nilV, nilV⟩ : Vals) p1 b1 := hG2
  obtain ⟨M, hM⟩ : ∃ M, M = w1.heap.size := ⟨_, rfl⟩
  rw [← hM] at hS
  clear hM hG2
  have hC := rNumberR hS.rb
  go_wp2_with (fail)
  refine hC.mono ?_
  rintro e w3 ⟨hF3, n, v, p3, b3, rfl, ⟨rfl, hn1, hn2⟩, hB3, hp3, h83, hS3⟩
  clear hC
  replace HK : Hid _ := KR.list (C := fun o => id o) (g := getFace) (k := kImp fc) HK.out rfl hS3
  replace hS := hS.call hF3 hB3
  clear hF3 hB3 hS3 h83 hp3 y0 y1 y2 g0 g1 g2
  go_upto_block 0 with fail
  go_cut [7] (fun _ wc => ∃ (zs : List (FaceD × List Value)) (s : Value) (pj : Nat) (bj : Bool), 8 * zs.length ≤ pj + 8 ∧ GS w wc a c L M (⟨fc, [], [], [], [], [], [], 0, 0, 0, 0⟩ : ObjD) (⟨.slice va fc.vars.length vc, .slice pa fc.procs.length pc, nilV, nilV, nilV, nilV, nilV, nilV⟩ : Vals) (⟨.slice va fc.vars.length vc, .slice pa fc.procs.length pc, s, nilV, nilV, nilV, nilV, nilV⟩ : Vals) pj bj ∧ Lp itFace 25 3 M zs s wc ∧ Hid (KR false bj G (id (sel n (kImp fc (zs.map (·.1), L.drop pj))))))
  case first =>
    go_wp2
    go_loopw [7] (fun t wr => ∃ (zs : List (FaceD × List Value)) (s : Value) (pj : Nat) (bj : Bool), t = .int .i64 (zs.length : Int) ∧ ((zs.length : Int) ≤ n ∨ zs.length = 0) ∧ (bj = false → 8 * zs.length ≤ pj) ∧ 8 * zs.length ≤ pj + 8 ∧ GS w wr a c L M (⟨fc, [], [], [], [], [], [], 0, 0, 0, 0⟩ : ObjD) (⟨.slice va fc.vars.length vc, .slice pa fc.procs.length pc, nilV, nilV, nilV, nilV, nilV, nilV⟩ : Vals) (⟨.slice va fc.vars.length vc, .slice pa fc.procs.length pc, s, nilV, nilV, nilV, nilV, nilV⟩ : Vals) pj bj ∧ Lp itFace 25 3 M zs s wr ∧ Hid (KR false bj G (id (sel n ((getN getFace (n.toNat - zs.length) (L.drop pj)).bind fun y => kImp fc (zs.map (·.1) ++ y.1, y.2)))))) (fun t _ => (n - intOf t).toNat)
    case atStart => exact ⟨[], nilV, p3, b3, rfl, .inr rfl, (fun _ => by simp), by simp, hS, Lp.nil _ _ _ _ _, HK⟩
    case round =>
      clear hS HK
      obtain ⟨zs, s, pj, bj, rfl, hjn, hc1, hc2, hS, hrow, HK⟩ := hrel
      have hle := hS.rb.le
      have m2 := hS.rb.box.cell 2 rfl
      obtain ⟨sa, sc, rfl⟩ := own_shape hrow.row
      cases bj with
      | true =>
        by_cases hlt : (zs.length : Int) < n
        all_goals
          go_wp2
          go_meet
          case rel => exact ⟨zs, _, pj, true, hc2, hS, hrow, HK.out.any⟩
      | false =>
        by_cases hlt : (zs.length : Int) < n
        · have hcz : 8 * zs.length ≤ pj := by first | exact hc1 rfl | exact hc1 trivial
          have hm : n.toNat - zs.length = (n.toNat - (zs.length + 1)) + 1 := by omega
          replace HK : Hid (KR false false G (id (sel n ((getN getFace ((n.toNat - (zs.length + 1)) + 1) (L.drop pj)).bind fun y => kImp fc (zs.map (·.1) ++ y.1, y.2))))) := by show KR _ _ _ _; rw [← hm]; exact HK.out
          clear hm hc1
          have hrl := hS.rb.lt
          have hbl := hS.bO.lt
          have hM1 := hS.m1
          have hM2 := hS.m2
          have hC := rFaceR hS.rb
          go_wp2_with (fail)
          refine hC.mono ?_
          rintro e w_0 ⟨hFn, x1, v, q_0, d_0, rfl, ⟨vv1, pv1, rfl, hq1, hq2⟩, hBn, hqn, h8n, hSn⟩
          clear hC
          obtain ⟨ua, uc, hua⟩ : ∃ a c, vv1 = .slice a x1.vars.length c := by obtain ⟨x, y, e, _⟩ := hq1; exact ⟨x, y, e⟩
          obtain ⟨za, zc, hza⟩ : ∃ a c, pv1 = .slice a x1.procs.length c := by obtain ⟨x, y, e, _⟩ := hq2; exact ⟨x, y, e⟩
          subst hua hza
          unfold faceV
          have hSa := hS.call hFn hBn
          have hrow1 := hrow.fr goFace hFn (by omega)
          have hsz0 := hFn.size
          have hS2 := hSa.low ((Below.refl M w_0).alloc hSa.m2 (.cells #[.string x1.module, .slice ua x1.vars.length uc, .slice za x1.procs.length zc] 25))
          have hrow2 := hrow1.fr goFace (Fr.new (w.heap.size + 1) nilV w_0 (.cells #[.string x1.module, .slice ua x1.vars.length uc, .slice za x1.procs.length zc] 25)) (by omega)
          have hx := BoxC.new w_0 #[.string x1.module, .slice ua x1.vars.length uc, .slice za x1.procs.length zc] 25
          have v0 := hx.cell 0 rfl
          have v1 := hx.cell 1 rfl
          have v2 := hx.cell 2 rfl
          have H8 : Hid (d_0 = false → pj + 8 ≤ q_0) := h8n
          have HSI : Hid (Stp getFace L pj false x1 q_0 d_0) := hSn
          clear hSa hrow1 hFn hBn h8n hSn hx

          have hrow4 := hrow2.row.alloc (.cells #[.string x1.module, .slice ua x1.vars.length uc, .slice za x1.procs.length zc] 25)
          have hsn : ∀ b, (Value.slice sa zs.length sc).ownBlock = some b → b < wr.heap.size := fun b e => (hrow.row.lt b e).2
          have hnw : ∀ j u, (faceC x1 (.slice ua x1.vars.length uc) (.slice za x1.procs.length zc))[j]? = some u → ((w_0.alloc (.cells #[.string x1.module, .slice ua x1.vars.length uc, .slice za x1.procs.length zc] 25)).alloc (.cells #[.string x1.module, .slice ua x1.vars.length uc, .slice za x1.procs.length zc] 25)).cell? ((⟨w_0.heap.size + 1, 0, none⟩ : Addr).add j) = some u := by
            rw [show w_0.heap.size + 1 = (w_0.alloc (.cells #[.string x1.module, .slice ua x1.vars.length uc, .slice za x1.procs.length zc] 25)).heap.size by simp]
            exact World.news_of_block (BoxC.new (w_0.alloc (.cells #[.string x1.module, .slice ua x1.vars.length uc, .slice za x1.procs.length zc] 25)) #[.string x1.module, .slice ua x1.vars.length uc, .slice za x1.procs.length zc] 25)
          have hone : ∀ u ∈ faceC x1 (.slice ua x1.vars.length uc) (.slice za x1.procs.length zc), u.oneCell' = true := by intro u hu; simp [intC, varC, procC, faceC, insC, relC, plcC] at hu; rcases hu with rfl | rfl | rfl <;> rfl
          have hle9 := hS2.rb.le
          replace HK : Hid _ := KR.more (C := fun o => id (sel n o)) (k := kImp fc) HK.out (by show id (sel n none) = none; simp only [id, sel_none]) HSI.out
          have hsW : M ≤ (w_0.alloc (.cells #[.string x1.module, .slice ua x1.vars.length uc, .slice za x1.procs.length zc] 25)).heap.size := hS2.m2
          have hyO := hS2.bO.cell 3 rfl
          have hin : Hid (itFace x1 (faceC x1 (.slice ua x1.vars.length uc) (.slice za x1.procs.length zc)) (win (w_0.alloc (.cells #[.string x1.module, .slice ua x1.vars.length uc, .slice za x1.procs.length zc] 25)) wr.heap.size (w_0.alloc (.cells #[.string x1.module, .slice ua x1.vars.length uc, .slice za x1.procs.length zc] 25)).heap.size)) := ⟨_, _, rfl, varsSub (win_to (fun k k1 k2 => ((Below.refl w_0.heap.size w_0).alloc (Nat.le_refl _) _).block k k2) (Nat.le_refl _) (by simp)) hq1, procsSub (win_to (fun k k1 k2 => ((Below.refl w_0.heap.size w_0).alloc (Nat.le_refl _) _).block k k2) (Nat.le_refl _) (by simp)) hq2⟩
          clear hS hrow HSI
          go_wp2_with (at_builtin; refine wpList_append_lies _ rfl (.tmp 39) (.tmp 41) 26 rfl M 25 jf _ 3 64 Tryz.underlying26 hjf jf0 jf1 jf2 rfl (by decide) _ _ _ rfl hrow4 ⟨w_0.heap.size + 1, 0, none⟩ 1 1 (faceC x1 (.slice ua x1.vars.length uc) (.slice za x1.procs.length zc)) rfl rfl hnw hone (by omega) ?_ ?_ ?_ _ rfl ?_; (· unfold maxLen; omega); (· omega); (· simp; omega); intro g7 cap7 w7 hown7 hgrow7 hat7 hlt7; have hb7 : Below M (w_0.alloc (.cells #[.string x1.module, .slice ua x1.vars.length uc, .slice za x1.procs.length zc] 25)) w7 := ((Below.refl M (w_0.alloc (.cells #[.string x1.module, .slice ua x1.vars.length uc, .slice za x1.procs.length zc] 25))).alloc hsW _).grown hgrow7 (by simp at hsW ⊢; omega) (fun k e => by have := (hrow4.lt _ e).1; omega); have hS7 := hS2.low hb7; have yO8 := hS7.bO.cell 3 rfl; have gO8 := hS7.bO.fz 3)
          have hrow7 := hrow2.push (z := (x1, faceC x1 (.slice ua x1.vars.length uc) (.slice za x1.procs.length zc))) goFace hM2 hsn hin.out rfl hown7 hgrow7 (hat7.imp id fun e => by rw [e]; simp)
          have hS8 := hS7.store 3 (.slice (some ⟨g7, 0, none⟩) (zs.length + 1) cap7) (o2 := (⟨fc, [], [], [], [], [], [], 0, 0, 0, 0⟩ : ObjD)) (x2 := (⟨.slice va fc.vars.length vc, .slice pa fc.procs.length pc, nilV, nilV, nilV, nilV, nilV, nilV⟩ : Vals)) (x2' := (⟨.slice va fc.vars.length vc, .slice pa fc.procs.length pc, .slice (some ⟨g7, 0, none⟩) (zs.length + 1) cap7, nilV, nilV, nilV, nilV, nilV⟩ : Vals)) rfl (hS7.all (Nat.le_refl _)) (Nat.le_refl _) hS7.m2
          have hrow8 := hrow7.fr goFace ((Fr.refl (w.heap.size + 2) nilV w7).set 3 (.slice (some ⟨g7, 0, none⟩) (zs.length + 1) cap7)) (by omega)
          refine ⟨⟨zs ++ [(x1, faceC x1 (.slice ua x1.vars.length uc) (.slice za x1.procs.length zc))], _, q_0, d_0, by simp, .inl (by simp; omega), (fun e => ?_), by simp; omega, hS8, hrow8, ?_⟩, by simp [intOf]; omega⟩
          · have := H8.out e
            simp
            omega
          · have h2 := HK.out
            show KR _ _ _ _
            rw [List.length_append, List.map_append]
            exact h2
        · go_wp2
          go_meet
          case rel =>
            refine ⟨zs, _, pj, false, hc2, hS, hrow, ?_⟩
            by_cases hn0 : n < 0
            · exact HK.out.eq (by show id (sel n _) = id (sel n _); rw [sel_neg hn0, sel_neg hn0])
            · exact KR.last (C := fun o => id (sel n o)) (k := kImp fc) HK.out (.inr (by omega))
  case rest =>
    clear hS HK
    obtain ⟨zs, iv1, pj, bj, hc2, hS, hrow, HK⟩ := hcut
    obtain ⟨is1, his1⟩ : ∃ l, l = zs.map (·.1) := ⟨_, rfl⟩
    rw [← his1] at HK
    have hpl := hS.rb.le
    have hFI := GS.faces hS.m1 ⟨zs, his1.symm, hrow⟩ (by rw [his1, List.length_map]; omega)
    have hA := hS.all hS.m2
    have hS9 : GS w wc a c L wc.heap.size (⟨fc, is1, [], [], [], [], [], 0, 0, 0, 0⟩ : ObjD) (⟨.slice va fc.vars.length vc, .slice pa fc.procs.length pc, iv1, nilV, nilV, nilV, nilV, nilV⟩ : Vals) (⟨.slice va fc.vars.length vc, .slice pa fc.procs.length pc, iv1, nilV, nilV, nilV, nilV, nilV⟩ : Vals) pj bj := ⟨hS.bR, hS.bO, ⟨hA.vars, hA.procs, hFI, hA.code, hA.rels, hA.q1, hA.q2, hA.q3⟩, Nat.le_trans hS.m1 hS.m2, Nat.le_refl _, hS.rb, hS.fr⟩
    obtain ⟨M9, hM9⟩ : ∃ M, M = wc.heap.size := ⟨_, rfl⟩
    rw [← hM9] at hS9
    clear hS hrow hc2 hpl hFI hA hM9 his1 M
    have hS := hS9
    clear hS9
    obtain ⟨M, hM⟩ : ∃ M, M = M9 := ⟨_, rfl⟩
    rw [← hM] at hS
    clear hM M9
    have hC := rNumberR hS.rb
    go_wp2_with (fail)
    refine hC.mono ?_
    rintro e w3 ⟨hF3, m, v, p3, b3, rfl, ⟨rfl, hn1, hn2⟩, hB3, hp3, h83, hS3⟩
    clear hC
    replace HK : Hid _ := KR.list (C := fun o => id (sel n o)) (g := getIns) (k := kCode fc is1) HK.out (by show sel n none = none; exact sel_none n) hS3
    replace hS := hS.call hF3 hB3
    clear hF3 hB3 hS3 h83 hp3 
    go_upto_block 2 with fail
    go_cut [10] (fun _ wc => ∃ (zs : List (Ins × List Value)) (s : Value) (pj : Nat) (bj : Bool), 8 * zs.length ≤ pj + 8 ∧ GS w wc a c L M (⟨fc, is1, [], [], [], [], [], 0, 0, 0, 0⟩ : ObjD) (⟨.slice va fc.vars.length vc, .slice pa fc.procs.length pc, iv1, nilV, nilV, nilV, nilV, nilV⟩ : Vals) (⟨.slice va fc.vars.length vc, .slice pa fc.procs.length pc, iv1, s, nilV, nilV, nilV, nilV⟩ : Vals) pj bj ∧ Lp itIns 55 5 M zs s wc ∧ Hid (KR false bj G (id (sel n (sel m (kCode fc is1 (zs.map (·.1), L.drop pj)))))))
    case first =>
      go_wp2
      go_loopw [10] (fun t wr => ∃ (zs : List (Ins × List Value)) (s : Value) (pj : Nat) (bj : Bool), t = .int .i64 (zs.length : Int) ∧ ((zs.length : Int) ≤ m ∨ zs.length = 0) ∧ (bj = false → 8 * zs.length ≤ pj) ∧ 8 * zs.length ≤ pj + 8 ∧ GS w wr a c L M (⟨fc, is1, [], [], [], [], [], 0, 0, 0, 0⟩ : ObjD) (⟨.slice va fc.vars.length vc, .slice pa fc.procs.length pc, iv1, nilV, nilV, nilV, nilV, nilV⟩ : Vals) (⟨.slice va fc.vars.length vc, .slice pa fc.procs.length pc, iv1, s, nilV, nilV, nilV, nilV⟩ : Vals) pj bj ∧ Lp itIns 55 5 M zs s wr ∧ Hid (KR false bj G (id (sel n (sel m ((getN getIns (m.toNat - zs.length) (L.drop pj)).bind fun y => kCode fc is1 (zs.map (·.1) ++ y.1, y.2))))))) (fun t _ => (m - intOf t).toNat)
      case atStart => exact ⟨[], nilV, p3, b3, rfl, .inr rfl, (fun _ => by simp), by simp, hS, Lp.nil _ _ _ _ _, HK⟩
      case round =>
        clear hS HK
        obtain ⟨zs, s, pj, bj, rfl, hjn, hc1, hc2, hS, hrow, HK⟩ := hrel
        have hle := hS.rb.le
        have m2 := hS.rb.box.cell 2 rfl
        obtain ⟨sa, sc, rfl⟩ := own_shape hrow.row
        cases bj with
        | true =>
          by_cases hlt : (zs.length : Int) < m
          all_goals
            go_wp2
            go_meet
            case rel => exact ⟨zs, _, pj, true, hc2, hS, hrow, HK.out.any⟩
        | false =>
          by_cases hlt : (zs.length : Int) < m
          · have hcz : 8 * zs.length ≤ pj := by first | exact hc1 rfl | exact hc1 trivial
            have hm : m.toNat - zs.length = (m.toNat - (zs.length + 1)) + 1 := by omega
            replace HK : Hid (KR false false G (id (sel n (sel m ((getN getIns ((m.toNat - (zs.length + 1)) + 1) (L.drop pj)).bind fun y => kCode fc is1 (zs.map (·.1) ++ y.1, y.2)))))) := by show KR _ _ _ _; rw [← hm]; exact HK.out
            clear hm hc1
            have hrl := hS.rb.lt
            have hbl := hS.bO.lt
            have hM1 := hS.m1
            have hM2 := hS.m2
            have hA := (Below.refl wr.heap.size wr).alloc (Nat.le_refl _) (.cells #[.int .i64 0, .int .i64 0, .int .i64 0, .int .i64 0, .int .i64 0] 55)
            have hx := BoxC.new wr #[.int .i64 0, .int .i64 0, .int .i64 0, .int .i64 0, .int .i64 0] 55
            have hFr : FrR (w.heap.size + 1) wr (wr.alloc (.cells #[.int .i64 0, .int .i64 0, .int .i64 0, .int .i64 0, .int .i64 0] 55)) := Fr.new (w.heap.size + 1) nilV wr _
            have hrV : wr.heap.size ≠ w.heap.size + 1 := by omega
            have hB := hS.rb.low hA hrl
            have HKI : Hid (KR false false (getIns (L.drop pj)) (getIns (L.drop pj))) := KR.begin _ _
            clear hA

            have hC := rNumberR hB
            go_wp2_with (fail)
            refine hC.mono ?_
            rintro e w_0 ⟨hFn, x1, v, q_0, d_0, rfl, ⟨rfl, hva, hvb⟩, hBn, hqn, h8n, hSn⟩
            clear hC hB
            replace HKI : Hid _ := KR.step (C := id) HKI.out rfl hSn
            have HST0 : Hid (false = true → d_0 = true) := hSn.stays
            have HE0 : Hid (d_0 = false → pj + 8 ≤ q_0) := h8n
            replace hx := box_fr hx hFn hrV
            replace hFr := hFr.trans hFn
            have hle0 : pj ≤ q_0 := hqn

            clear hFn hSn h8n hqn

            have y0 := hx.cell 0 (v := .int .i64 0) rfl
            have g0 := hx.fz 0
            have hB := hBn.fr ((Fr.refl (wr.heap.size) nilV w_0).set 0 (.int .i64 x1)) (by omega)
            replace hx := hx.set 0 (.int .i64 x1)
            replace hFr := frr_new (k := 0) (v := .int .i64 x1) hFr (Nat.le_refl _)
            clear hBn


            have hC := rNumberR hB
            go_wp2_with (fail)
            refine hC.mono ?_
            rintro e w_1 ⟨hFn, x2, v, q_1, d_1, rfl, ⟨rfl, hva, hvb⟩, hBn, hqn, h8n, hSn⟩
            clear hC hB
            replace HKI : Hid _ := KR.step (C := id) HKI.out rfl hSn
            have HST1 : Hid (d_0 = true → d_1 = true) := hSn.stays
            have HE1 : Hid (d_1 = false → q_0 + 8 ≤ q_1) := h8n
            replace hx := box_fr hx hFn hrV
            replace hFr := hFr.trans hFn
            have hle1 : q_0 ≤ q_1 := hqn

            clear hFn hSn h8n hqn

            have y1 := hx.cell 1 (v := .int .i64 0) rfl
            have g1 := hx.fz 1
            have hB := hBn.fr ((Fr.refl (wr.heap.size) nilV w_1).set 1 (.int .i64 x2)) (by omega)
            replace hx := hx.set 1 (.int .i64 x2)
            replace hFr := frr_new (k := 1) (v := .int .i64 x2) hFr (Nat.le_refl _)
            clear hBn


            have hC := rNumberR hB
            go_wp2_with (fail)
            refine hC.mono ?_
            rintro e w_2 ⟨hFn, x3, v, q_2, d_2, rfl, ⟨rfl, hva, hvb⟩, hBn, hqn, h8n, hSn⟩
            clear hC hB
            replace HKI : Hid _ := KR.step (C := id) HKI.out rfl hSn
            have HST2 : Hid (d_1 = true → d_2 = true) := hSn.stays
            have HE2 : Hid (d_2 = false → q_1 + 8 ≤ q_2) := h8n
            replace hx := box_fr hx hFn hrV
            replace hFr := hFr.trans hFn
            have hle2 : q_1 ≤ q_2 := hqn

            clear hFn hSn h8n hqn

            have y2 := hx.cell 2 (v := .int .i64 0) rfl
            have g2 := hx.fz 2
            have hB := hBn.fr ((Fr.refl (wr.heap.size) nilV w_2).set 2 (.int .i64 x3)) (by omega)
            replace hx := hx.set 2 (.int .i64 x3)
            replace hFr := frr_new (k := 2) (v := .int .i64 x3) hFr (Nat.le_refl _)
            clear hBn


            have hC := rNumberR hB
            go_wp2_with (fail)
            refine hC.mono ?_
            rintro e w_3 ⟨hFn, x4, v, q_3, d_3, rfl, ⟨rfl, hva, hvb⟩, hBn, hqn, h8n, hSn⟩
            clear hC hB
            replace HKI : Hid _ := KR.step (C := id) HKI.out rfl hSn
            have HST3 : Hid (d_2 = true → d_3 = true) := hSn.stays
            have HE3 : Hid (d_3 = false → q_2 + 8 ≤ q_3) := h8n
            replace hx := box_fr hx hFn hrV
            replace hFr := hFr.trans hFn
            have hle3 : q_2 ≤ q_3 := hqn

            clear hFn hSn h8n hqn

            have y3 := hx.cell 3 (v := .int .i64 0) rfl
            have g3 := hx.fz 3
            have hB := hBn.fr ((Fr.refl (wr.heap.size) nilV w_3).set 3 (.int .i64 x4)) (by omega)
            replace hx := hx.set 3 (.int .i64 x4)
            replace hFr := frr_new (k := 3) (v := .int .i64 x4) hFr (Nat.le_refl _)
            clear hBn


            have hC := rWide hB
            go_wp2_with (fail)
            refine hC.mono ?_
            rintro e w_4 ⟨hFn, x5, v, q_4, d_4, rfl, ⟨rfl, hva, hvb⟩, hBn, hqn, h8n, hSn⟩
            clear hC hB
            replace HKI : Hid _ := KR.step (C := id) HKI.out rfl hSn
            have HST4 : Hid (d_3 = true → d_4 = true) := hSn.stays
            have HE4 : Hid (d_4 = false → q_3 + 8 ≤ q_4) := h8n
            replace hx := box_fr hx hFn hrV
            replace hFr := hFr.trans hFn
            have hle4 : q_3 ≤ q_4 := hqn

            clear hFn hSn h8n hqn

            have y4 := hx.cell 4 (v := .int .i64 0) rfl
            have g4 := hx.fz 4
            have hB := hBn.fr ((Fr.refl (wr.heap.size) nilV w_4).set 4 (.int .i64 x5)) (by omega)
            replace hx := hx.set 4 (.int .i64 x5)
            replace hFr := frr_new (k := 4) (v := .int .i64 x5) hFr (Nat.le_refl _)
            clear hBn


            have H8 : Hid (d_4 = false → pj + 8 ≤ q_4) := fun e => by
              have h0 : d_0 = false := by
                cases h0 : d_0 with
                | false => rfl
                | true => rw [HST4.out (HST3.out (HST2.out (HST1.out (h0))))] at e; cases e
              have := HE0.out h0
              omega
            have HSI : Hid (Stp getIns L pj false (⟨x1, x2, x3, x4, x5⟩ : Ins) q_4 d_4) := KR.to HKI.out (fun e => by cases e)
            have hS2 := hS.call hFr hB
            have hrow2 := hrow.fr goIns hFr (by omega)
            have z0 := hx.cell 0 (v := .int .i64 x1) rfl
            have z1 := hx.cell 1 (v := .int .i64 x2) rfl
            have z2 := hx.cell 2 (v := .int .i64 x3) rfl
            have z3 := hx.cell 3 (v := .int .i64 x4) rfl
            have z4 := hx.cell 4 (v := .int .i64 x5) rfl
            have hszw := hFr.size
            clear hFr hB hx HKI HST0 HST1 HST2 HST3 HST4 HE0 HE1 HE2 HE3 HE4 y0 g0 y1 g1 y2 g2 y3 g3
            go_upto_region 20 with fail
            clear y4 g4
            generalize (w_4.setCell ⟨wr.heap.size, 4, none⟩ (.int .i64 x5)) = W5 at *

            have hrow4 := hrow2.row.alloc (.cells #[.int .i64 x1, .int .i64 x2, .int .i64 x3, .int .i64 x4, .int .i64 x5] 55)
            have hsn : ∀ b, (Value.slice sa zs.length sc).ownBlock = some b → b < wr.heap.size := fun b e => (hrow.row.lt b e).2
            have hnw : ∀ j u, (insC (⟨x1, x2, x3, x4, x5⟩ : Ins))[j]? = some u → (W5.alloc (.cells #[.int .i64 x1, .int .i64 x2, .int .i64 x3, .int .i64 x4, .int .i64 x5] 55)).cell? ((⟨W5.heap.size, 0, none⟩ : Addr).add j) = some u := by
              
              exact World.news_of_block (BoxC.new W5 #[.int .i64 x1, .int .i64 x2, .int .i64 x3, .int .i64 x4, .int .i64 x5] 55)
            have hone : ∀ u ∈ insC (⟨x1, x2, x3, x4, x5⟩ : Ins), u.oneCell' = true := by intro u hu; simp [intC, varC, procC, faceC, insC, relC, plcC] at hu; rcases hu with rfl | rfl | rfl | rfl | rfl <;> rfl
            have hle9 := hS2.rb.le
            replace HK : Hid _ := KR.more (C := fun o => id (sel n (sel m o))) (k := kCode fc is1) HK.out (by show id (sel n (sel m none)) = none; simp only [id, sel_none]) HSI.out
            have hsW : M ≤ W5.heap.size := hS2.m2
            have hyO := hS2.bO.cell 4 rfl
            have hin : Hid (itIns (⟨x1, x2, x3, x4, x5⟩ : Ins) (insC (⟨x1, x2, x3, x4, x5⟩ : Ins)) (win W5 wr.heap.size W5.heap.size)) := rfl
            clear hS hrow HSI
            go_wp2_with (at_builtin; refine wpList_append_lies _ rfl (.tmp 75) (.tmp 77) 27 rfl M 55 ji _ 5 40 Tryz.underlying27 hji ji0 ji1 ji2 rfl (by decide) _ _ _ rfl hrow4 ⟨W5.heap.size, 0, none⟩ 1 1 (insC (⟨x1, x2, x3, x4, x5⟩ : Ins)) rfl rfl hnw hone (by omega) ?_ ?_ ?_ _ rfl ?_; (· unfold maxLen; omega); (· omega); (· simp; omega); intro g7 cap7 w7 hown7 hgrow7 hat7 hlt7; have hb7 : Below M W5 w7 := ((Below.refl M W5).alloc hsW _).grown hgrow7 (by simp at hsW ⊢; omega) (fun k e => by have := (hrow4.lt _ e).1; omega); have hS7 := hS2.low hb7; have yO8 := hS7.bO.cell 4 rfl; have gO8 := hS7.bO.fz 4)
            have hrow7 := hrow2.push (z := ((⟨x1, x2, x3, x4, x5⟩ : Ins), insC (⟨x1, x2, x3, x4, x5⟩ : Ins))) goIns hM2 hsn hin.out rfl hown7 hgrow7 (hat7.imp id fun e => by rw [e]; simp)
            have hS8 := hS7.store 4 (.slice (some ⟨g7, 0, none⟩) (zs.length + 1) cap7) (o2 := (⟨fc, is1, [], [], [], [], [], 0, 0, 0, 0⟩ : ObjD)) (x2 := (⟨.slice va fc.vars.length vc, .slice pa fc.procs.length pc, iv1, nilV, nilV, nilV, nilV, nilV⟩ : Vals)) (x2' := (⟨.slice va fc.vars.length vc, .slice pa fc.procs.length pc, iv1, .slice (some ⟨g7, 0, none⟩) (zs.length + 1) cap7, nilV, nilV, nilV, nilV⟩ : Vals)) rfl (hS7.all (Nat.le_refl _)) (Nat.le_refl _) hS7.m2
            have hrow8 := hrow7.fr goIns ((Fr.refl (w.heap.size + 2) nilV w7).set 4 (.slice (some ⟨g7, 0, none⟩) (zs.length + 1) cap7)) (by omega)
            refine ⟨⟨zs ++ [((⟨x1, x2, x3, x4, x5⟩ : Ins), insC (⟨x1, x2, x3, x4, x5⟩ : Ins))], _, q_4, d_4, by simp, .inl (by simp; omega), (fun e => ?_), by simp; omega, hS8, hrow8, ?_⟩, by simp [intOf]; omega⟩
            · have := H8.out e
              simp
              omega
            · have h2 := HK.out
              show KR _ _ _ _
              rw [List.length_append, List.map_append]
              exact h2
          · go_wp2
            go_meet
            case rel =>
              refine ⟨zs, _, pj, false, hc2, hS, hrow, ?_⟩
              by_cases hn0 : m < 0
              · exact HK.out.eq (by show id (sel n (sel m _)) = id (sel n (sel m _)); rw [sel_neg hn0, sel_neg hn0])
              · exact KR.last (C := fun o => id (sel n (sel m o))) (k := kCode fc is1) HK.out (.inr (by omega))
    case rest =>
      clear hS HK
      obtain ⟨zs, cv1, pj, bj, hc2, hS, hrow, HK⟩ := hcut
      obtain ⟨cs1, hcs1⟩ : ∃ l, l = zs.map (·.1) := ⟨_, rfl⟩
      rw [← hcs1] at HK
      have hpl := hS.rb.le
      have hFI := GS.code hS.m1 ⟨zs, hcs1.symm, hrow⟩ (by rw [hcs1, List.length_map]; omega)
      have hA := hS.all hS.m2
      have hS9 : GS w wc a c L wc.heap.size (⟨fc, is1, cs1, [], [], [], [], 0, 0, 0, 0⟩ : ObjD) (⟨.slice va fc.vars.length vc, .slice pa fc.procs.length pc, iv1, cv1, nilV, nilV, nilV, nilV⟩ : Vals) (⟨.slice va fc.vars.length vc, .slice pa fc.procs.length pc, iv1, cv1, nilV, nilV, nilV, nilV⟩ : Vals) pj bj := ⟨hS.bR, hS.bO, ⟨hA.vars, hA.procs, hA.imps, hFI, hA.rels, hA.q1, hA.q2, hA.q3⟩, Nat.le_trans hS.m1 hS.m2, Nat.le_refl _, hS.rb, hS.fr⟩
      obtain ⟨M9, hM9⟩ : ∃ M, M = wc.heap.size := ⟨_, rfl⟩
      rw [← hM9] at hS9
      clear hS hrow hc2 hpl hFI hA hM9 hcs1 M
      have hS := hS9
      clear hS9
      obtain ⟨M, hM⟩ : ∃ M, M = M9 := ⟨_, rfl⟩
      rw [← hM] at hS
      clear hM M9
      have hC := rNumberR hS.rb
      go_wp2_with (fail)
      refine hC.mono ?_
      rintro e w3 ⟨hF3, k, v, p3, b3, rfl, ⟨rfl, hn1, hn2⟩, hB3, hp3, h83, hS3⟩
      clear hC
      replace HK : Hid _ := KR.list (C := fun o => id (sel n (sel m o))) (g := getRel) (k := kRel fc is1 cs1) HK.out (by show sel n (sel m none) = none; rw [sel_none, sel_none]) hS3
      replace hS := hS.call hF3 hB3
      clear hF3 hB3 hS3 h83 hp3 
      go_upto_block 4 with fail
      go_cut [13] (fun _ wc => ∃ (zs : List (RelD × List Value)) (s : Value) (pj : Nat) (bj : Bool), 8 * zs.length ≤ pj + 8 ∧ GS w wc a c L M (⟨fc, is1, cs1, [], [], [], [], 0, 0, 0, 0⟩ : ObjD) (⟨.slice va fc.vars.length vc, .slice pa fc.procs.length pc, iv1, cv1, nilV, nilV, nilV, nilV⟩ : Vals) (⟨.slice va fc.vars.length vc, .slice pa fc.procs.length pc, iv1, cv1, s, nilV, nilV, nilV⟩ : Vals) pj bj ∧ Lp itRel 57 4 M zs s wc ∧ Hid (KR false bj G (id (sel n (sel m (sel k (kRel fc is1 cs1 (zs.map (·.1), L.drop pj))))))))
      case first =>
        go_wp2
        go_loopw [13] (fun t wr => ∃ (zs : List (RelD × List Value)) (s : Value) (pj : Nat) (bj : Bool), t = .int .i64 (zs.length : Int) ∧ ((zs.length : Int) ≤ k ∨ zs.length = 0) ∧ (bj = false → 8 * zs.length ≤ pj) ∧ 8 * zs.length ≤ pj + 8 ∧ GS w wr a c L M (⟨fc, is1, cs1, [], [], [], [], 0, 0, 0, 0⟩ : ObjD) (⟨.slice va fc.vars.length vc, .slice pa fc.procs.length pc, iv1, cv1, nilV, nilV, nilV, nilV⟩ : Vals) (⟨.slice va fc.vars.length vc, .slice pa fc.procs.length pc, iv1, cv1, s, nilV, nilV, nilV⟩ : Vals) pj bj ∧ Lp itRel 57 4 M zs s wr ∧ Hid (KR false bj G (id (sel n (sel m (sel k ((getN getRel (k.toNat - zs.length) (L.drop pj)).bind fun y => kRel fc is1 cs1 (zs.map (·.1) ++ y.1, y.2)))))))) (fun t _ => (k - intOf t).toNat)
        case atStart => exact ⟨[], nilV, p3, b3, rfl, .inr rfl, (fun _ => by simp), by simp, hS, Lp.nil _ _ _ _ _, HK⟩
        case round =>
          clear hS HK
          obtain ⟨zs, s, pj, bj, rfl, hjn, hc1, hc2, hS, hrow, HK⟩ := hrel
          have hle := hS.rb.le
          have m2 := hS.rb.box.cell 2 rfl
          obtain ⟨sa, sc, rfl⟩ := own_shape hrow.row
          cases bj with
          | true =>
            by_cases hlt : (zs.length : Int) < k
            all_goals
              go_wp2
              go_meet
              case rel => exact ⟨zs, _, pj, true, hc2, hS, hrow, HK.out.any⟩
          | false =>
            by_cases hlt : (zs.length : Int) < k
            · have hcz : 8 * zs.length ≤ pj := by first | exact hc1 rfl | exact hc1 trivial
              have hm : k.toNat - zs.length = (k.toNat - (zs.length + 1)) + 1 := by omega
              replace HK : Hid (KR false false G (id (sel n (sel m (sel k ((getN getRel ((k.toNat - (zs.length + 1)) + 1) (L.drop pj)).bind fun y => kRel fc is1 cs1 (zs.map (·.1) ++ y.1, y.2))))))) := by show KR _ _ _ _; rw [← hm]; exact HK.out
              clear hm hc1
              have hrl := hS.rb.lt
              have hbl := hS.bO.lt
              have hM1 := hS.m1
              have hM2 := hS.m2
              have hA := (Below.refl wr.heap.size wr).alloc (Nat.le_refl _) (.cells #[.int .i64 0, .int .i64 0, .string ⟨#[]⟩, .string ⟨#[]⟩] 57)
              have hx := BoxC.new wr #[.int .i64 0, .int .i64 0, .string ⟨#[]⟩, .string ⟨#[]⟩] 57
              have hFr : FrR (w.heap.size + 1) wr (wr.alloc (.cells #[.int .i64 0, .int .i64 0, .string ⟨#[]⟩, .string ⟨#[]⟩] 57)) := Fr.new (w.heap.size + 1) nilV wr _
              have hrV : wr.heap.size ≠ w.heap.size + 1 := by omega
              have hB := hS.rb.low hA hrl
              have HKI : Hid (KR false false (getRel (L.drop pj)) (getRel (L.drop pj))) := KR.begin _ _
              clear hA

              have hC := rNumberR hB
              go_wp2_with (fail)
              refine hC.mono ?_
              rintro e w_0 ⟨hFn, x1, v, q_0, d_0, rfl, ⟨rfl, hva, hvb⟩, hBn, hqn, h8n, hSn⟩
              clear hC hB
              replace HKI : Hid _ := KR.step (C := id) HKI.out rfl hSn
              have HST0 : Hid (false = true → d_0 = true) := hSn.stays
              have HE0 : Hid (d_0 = false → pj + 8 ≤ q_0) := h8n
              replace hx := box_fr hx hFn hrV
              replace hFr := hFr.trans hFn
              have hle0 : pj ≤ q_0 := hqn

              clear hFn hSn h8n hqn

              have y0 := hx.cell 0 (v := .int .i64 0) rfl
              have g0 := hx.fz 0
              have hB := hBn.fr ((Fr.refl (wr.heap.size) nilV w_0).set 0 (.int .i64 x1)) (by omega)
              replace hx := hx.set 0 (.int .i64 x1)
              replace hFr := frr_new (k := 0) (v := .int .i64 x1) hFr (Nat.le_refl _)
              clear hBn


              have hC := rNumberR hB
              go_wp2_with (fail)
              refine hC.mono ?_
              rintro e w_1 ⟨hFn, x2, v, q_1, d_1, rfl, ⟨rfl, hva, hvb⟩, hBn, hqn, h8n, hSn⟩
              clear hC hB
              replace HKI : Hid _ := KR.step (C := id) HKI.out rfl hSn
              have HST1 : Hid (d_0 = true → d_1 = true) := hSn.stays
              have HE1 : Hid (d_1 = false → q_0 + 8 ≤ q_1) := h8n
              replace hx := box_fr hx hFn hrV
              replace hFr := hFr.trans hFn
              have hle1 : q_0 ≤ q_1 := hqn

              clear hFn hSn h8n hqn

              have y1 := hx.cell 1 (v := .int .i64 0) rfl
              have g1 := hx.fz 1
              have hB := hBn.fr ((Fr.refl (wr.heap.size) nilV w_1).set 1 (.int .i64 x2)) (by omega)
              replace hx := hx.set 1 (.int .i64 x2)
              replace hFr := frr_new (k := 1) (v := .int .i64 x2) hFr (Nat.le_refl _)
              clear hBn


              have hC := rTextR hB
              go_wp2_with (fail)
              refine hC.mono ?_
              rintro e w_2 ⟨hFn, x3, v, q_2, d_2, rfl, rfl, hBn, hqn, h8n, hSn⟩
              clear hC hB
              replace HKI : Hid _ := KR.step (C := id) HKI.out rfl hSn
              have HST2 : Hid (d_1 = true → d_2 = true) := hSn.stays
              have HE2 : Hid (d_2 = false → q_1 + 8 ≤ q_2) := h8n
              replace hx := box_fr hx hFn hrV
              replace hFr := hFr.trans hFn
              have hle2 : q_1 ≤ q_2 := hqn

              clear hFn hSn h8n hqn

              have y2 := hx.cell 2 (v := .string ⟨#[]⟩) rfl
              have g2 := hx.fz 2
              have hB := hBn.fr ((Fr.refl (wr.heap.size) nilV w_2).set 2 (.string x3)) (by omega)
              replace hx := hx.set 2 (.string x3)
              replace hFr := frr_new (k := 2) (v := .string x3) hFr (Nat.le_refl _)
              clear hBn


              have hC := rTextR hB
              go_wp2_with (fail)
              refine hC.mono ?_
              rintro e w_3 ⟨hFn, x4, v, q_3, d_3, rfl, rfl, hBn, hqn, h8n, hSn⟩
              clear hC hB
              replace HKI : Hid _ := KR.step (C := id) HKI.out rfl hSn
              have HST3 : Hid (d_2 = true → d_3 = true) := hSn.stays
              have HE3 : Hid (d_3 = false → q_2 + 8 ≤ q_3) := h8n
              replace hx := box_fr hx hFn hrV
              replace hFr := hFr.trans hFn
              have hle3 : q_2 ≤ q_3 := hqn

              clear hFn hSn h8n hqn

              have y3 := hx.cell 3 (v := .string ⟨#[]⟩) rfl
              have g3 := hx.fz 3
              have hB := hBn.fr ((Fr.refl (wr.heap.size) nilV w_3).set 3 (.string x4)) (by omega)
              replace hx := hx.set 3 (.string x4)
              replace hFr := frr_new (k := 3) (v := .string x4) hFr (Nat.le_refl _)
              clear hBn


              have H8 : Hid (d_3 = false → pj + 8 ≤ q_3) := fun e => by
                have h0 : d_0 = false := by
                  cases h0 : d_0 with
                  | false => rfl
                  | true => rw [HST3.out (HST2.out (HST1.out (h0)))] at e; cases e
                have := HE0.out h0
                omega
              have HSI : Hid (Stp getRel L pj false (⟨x1, x2, x3, x4⟩ : RelD) q_3 d_3) := KR.to HKI.out (fun e => by cases e)
              have hS2 := hS.call hFr hB
              have hrow2 := hrow.fr goRel hFr (by omega)
              have z0 := hx.cell 0 (v := .int .i64 x1) rfl
              have z1 := hx.cell 1 (v := .int .i64 x2) rfl
              have z2 := hx.cell 2 (v := .string x3) rfl
              have z3 := hx.cell 3 (v := .string x4) rfl
              have hszw := hFr.size
              clear hFr hB hx HKI HST0 HST1 HST2 HST3 HE0 HE1 HE2 HE3 y0 g0 y1 g1 y2 g2
              go_upto_region 30 with fail
              clear y3 g3
              generalize (w_3.setCell ⟨wr.heap.size, 3, none⟩ (.string x4)) = W5 at *

              have hrow4 := hrow2.row.alloc (.cells #[.int .i64 x1, .int .i64 x2, .string x3, .string x4] 57)
              have hsn : ∀ b, (Value.slice sa zs.length sc).ownBlock = some b → b < wr.heap.size := fun b e => (hrow.row.lt b e).2
              have hnw : ∀ j u, (relC (⟨x1, x2, x3, x4⟩ : RelD))[j]? = some u → (W5.alloc (.cells #[.int .i64 x1, .int .i64 x2, .string x3, .string x4] 57)).cell? ((⟨W5.heap.size, 0, none⟩ : Addr).add j) = some u := by
                
                exact World.news_of_block (BoxC.new W5 #[.int .i64 x1, .int .i64 x2, .string x3, .string x4] 57)
              have hone : ∀ u ∈ relC (⟨x1, x2, x3, x4⟩ : RelD), u.oneCell' = true := by intro u hu; simp [intC, varC, procC, faceC, insC, relC, plcC] at hu; rcases hu with rfl | rfl | rfl | rfl <;> rfl
              have hle9 := hS2.rb.le
              replace HK : Hid _ := KR.more (C := fun o => id (sel n (sel m (sel k o)))) (k := kRel fc is1 cs1) HK.out (by show id (sel n (sel m (sel k none))) = none; simp only [id, sel_none]) HSI.out
              have hsW : M ≤ W5.heap.size := hS2.m2
              have hyO := hS2.bO.cell 5 rfl
              have hin : Hid (itRel (⟨x1, x2, x3, x4⟩ : RelD) (relC (⟨x1, x2, x3, x4⟩ : RelD)) (win W5 wr.heap.size W5.heap.size)) := rfl
              clear hS hrow HSI
              go_wp2_with (at_builtin; refine wpList_append_lies _ rfl (.tmp 108) (.tmp 110) 28 rfl M 57 jr _ 4 48 Tryz.underlying28 hjr jr0 jr1 jr2 rfl (by decide) _ _ _ rfl hrow4 ⟨W5.heap.size, 0, none⟩ 1 1 (relC (⟨x1, x2, x3, x4⟩ : RelD)) rfl rfl hnw hone (by omega) ?_ ?_ ?_ _ rfl ?_; (· unfold maxLen; omega); (· omega); (· simp; omega); intro g7 cap7 w7 hown7 hgrow7 hat7 hlt7; have hb7 : Below M W5 w7 := ((Below.refl M W5).alloc hsW _).grown hgrow7 (by simp at hsW ⊢; omega) (fun k e => by have := (hrow4.lt _ e).1; omega); have hS7 := hS2.low hb7; have yO8 := hS7.bO.cell 5 rfl; have gO8 := hS7.bO.fz 5)
              have hrow7 := hrow2.push (z := ((⟨x1, x2, x3, x4⟩ : RelD), relC (⟨x1, x2, x3, x4⟩ : RelD))) goRel hM2 hsn hin.out rfl hown7 hgrow7 (hat7.imp id fun e => by rw [e]; simp)
              have hS8 := hS7.store 5 (.slice (some ⟨g7, 0, none⟩) (zs.length + 1) cap7) (o2 := (⟨fc, is1, cs1, [], [], [], [], 0, 0, 0, 0⟩ : ObjD)) (x2 := (⟨.slice va fc.vars.length vc, .slice pa fc.procs.length pc, iv1, cv1, nilV, nilV, nilV, nilV⟩ : Vals)) (x2' := (⟨.slice va fc.vars.length vc, .slice pa fc.procs.length pc, iv1, cv1, .slice (some ⟨g7, 0, none⟩) (zs.length + 1) cap7, nilV, nilV, nilV⟩ : Vals)) rfl (hS7.all (Nat.le_refl _)) (Nat.le_refl _) hS7.m2
              have hrow8 := hrow7.fr goRel ((Fr.refl (w.heap.size + 2) nilV w7).set 5 (.slice (some ⟨g7, 0, none⟩) (zs.length + 1) cap7)) (by omega)
              refine ⟨⟨zs ++ [((⟨x1, x2, x3, x4⟩ : RelD), relC (⟨x1, x2, x3, x4⟩ : RelD))], _, q_3, d_3, by simp, .inl (by simp; omega), (fun e => ?_), by simp; omega, hS8, hrow8, ?_⟩, by simp [intOf]; omega⟩
              · have := H8.out e
                simp
                omega
              · have h2 := HK.out
                show KR _ _ _ _
                rw [List.length_append, List.map_append]
                exact h2
            · go_wp2
              go_meet
              case rel =>
                refine ⟨zs, _, pj, false, hc2, hS, hrow, ?_⟩
                by_cases hn0 : k < 0
                · exact HK.out.eq (by show id (sel n (sel m (sel k _))) = id (sel n (sel m (sel k _))); rw [sel_neg hn0, sel_neg hn0])
                · exact KR.last (C := fun o => id (sel n (sel m (sel k o)))) (k := kRel fc is1 cs1) HK.out (.inr (by omega))
      case rest =>
        clear hS HK
        obtain ⟨zs, rv1, pj, bj, hc2, hS, hrow, HK⟩ := hcut
        obtain ⟨rs1, hrs1⟩ : ∃ l, l = zs.map (·.1) := ⟨_, rfl⟩
        rw [← hrs1] at HK
        have hpl := hS.rb.le
        have hFI := GS.rels hS.m1 ⟨zs, hrs1.symm, hrow⟩ (by rw [hrs1, List.length_map]; omega)
        have hA := hS.all hS.m2
        have hS9 : GS w wc a c L wc.heap.size (⟨fc, is1, cs1, rs1, [], [], [], 0, 0, 0, 0⟩ : ObjD) (⟨.slice va fc.vars.length vc, .slice pa fc.procs.length pc, iv1, cv1, rv1, nilV, nilV, nilV⟩ : Vals) (⟨.slice va fc.vars.length vc, .slice pa fc.procs.length pc, iv1, cv1, rv1, nilV, nilV, nilV⟩ : Vals) pj bj := ⟨hS.bR, hS.bO, ⟨hA.vars, hA.procs, hA.imps, hA.code, hFI, hA.q1, hA.q2, hA.q3⟩, Nat.le_trans hS.m1 hS.m2, Nat.le_refl _, hS.rb, hS.fr⟩
        obtain ⟨M9, hM9⟩ : ∃ M, M = wc.heap.size := ⟨_, rfl⟩
        rw [← hM9] at hS9
        clear hS hrow hc2 hpl hFI hA hM9 hrs1 M
        have hS := hS9
        clear hS9
        obtain ⟨M, hM⟩ : ∃ M, M = M9 := ⟨_, rfl⟩
        rw [← hM] at hS
        clear hM M9
        replace HK : Hid (KR false bj G (id (sel n (sel m (sel k ((getL getPlc (L.drop pj)).bind (kP1 (⟨fc, is1, cs1, rs1, [], [], [], 0, 0, 0, 0⟩ : ObjD)))))))) := HK
        generalize (⟨fc, is1, cs1, rs1, [], [], [], 0, 0, 0, 0⟩ : ObjD) = o at hS HK
        generalize (⟨.slice va fc.vars.length vc, .slice pa fc.procs.length pc, iv1, cv1, rv1, nilV, nilV, nilV⟩ : Vals) = x at hS
        have hCC : ∀ _ : Unit, id (sel n (sel m (sel k (none : Option (ObjD × By))))) = none := fun _ => by show sel n (sel m (sel k none)) = none; rw [sel_none, sel_none, sel_none]
        replace hCC := (show Hid _ from hCC)

        have hC := rPlacesR hS.rb
        go_wp2_with (fail)
        refine hC.mono ?_
        rintro e w_P0 ⟨hF, l0, v0, pp0, bp0, rfl, ⟨hlv, hl8⟩, hB, hpp, h8, hSt⟩
        clear hC
        replace HK : Hid _ := KR.step (C := fun o => id (sel n (sel m (sel k o)))) (k := kP1 _) HK.out (hCC.out ()) hSt
        have hPI := GS.plcs (Nat.le_trans hS.m1 hS.m2) hlv (by omega)
        obtain ⟨qa0, qc0, hq⟩ : ∃ a c, v0 = .slice a l0.length c := by obtain ⟨x, y, e, _⟩ := hPI; exact ⟨x, y, e⟩
        subst hq
        have hS1 := hS.call hF hB
        clear hS hF hB hpp h8 hSt hlv hl8 
        have y := hS1.bO.cell 6 rfl
        have g := hS1.bO.fz 6
        have hS := hS1.put1 hPI
        clear hS1 hPI

        have hC := rPlacesR hS.rb
        go_wp2_with (fail)
        refine hC.mono ?_
        rintro e w_P1 ⟨hF, l1, v1, pp1, bp1, rfl, ⟨hlv, hl8⟩, hB, hpp, h8, hSt⟩
        clear hC
        replace HK : Hid _ := KR.step (C := fun o => id (sel n (sel m (sel k o)))) (k := kP2 _) HK.out (hCC.out ()) hSt
        have hPI := GS.plcs (Nat.le_trans hS.m1 hS.m2) hlv (by omega)
        obtain ⟨qa1, qc1, hq⟩ : ∃ a c, v1 = .slice a l1.length c := by obtain ⟨x, y, e, _⟩ := hPI; exact ⟨x, y, e⟩
        subst hq
        have hS1 := hS.call hF hB
        clear hS hF hB hpp h8 hSt hlv hl8 y g
        have y := hS1.bO.cell 7 rfl
        have g := hS1.bO.fz 7
        have hS := hS1.put2 hPI
        clear hS1 hPI

        have hC := rPlacesR hS.rb
        go_wp2_with (fail)
        refine hC.mono ?_
        rintro e w_P2 ⟨hF, l2, v2, pp2, bp2, rfl, ⟨hlv, hl8⟩, hB, hpp, h8, hSt⟩
        clear hC
        replace HK : Hid _ := KR.step (C := fun o => id (sel n (sel m (sel k o)))) (k := kP3 _) HK.out (hCC.out ()) hSt
        have hPI := GS.plcs (Nat.le_trans hS.m1 hS.m2) hlv (by omega)
        obtain ⟨qa2, qc2, hq⟩ : ∃ a c, v2 = .slice a l2.length c := by obtain ⟨x, y, e, _⟩ := hPI; exact ⟨x, y, e⟩
        subst hq
        have hS1 := hS.call hF hB
        clear hS hF hB hpp h8 hSt hlv hl8 y g
        have y := hS1.bO.cell 8 rfl
        have g := hS1.bO.fz 8
        have hS := hS1.put3 hPI
        clear hS1 hPI

        have hC := rNumberR hS.rb
        go_wp2_with (fail)
        refine hC.mono ?_
        rintro e w_N0 ⟨hF, n0, v, pn0, bn0, rfl, ⟨rfl, hva, hvb⟩, hB, hpp, h8, hSt⟩
        clear hC
        replace HK : Hid _ := KR.step (C := fun o => id (sel n (sel m (sel k o)))) (k := kN1 _) HK.out (hCC.out ()) hSt
        have hS1 := hS.call hF hB
        clear hS hF hB hpp h8 hSt hva hvb y g
        have y := hS1.bO.cell 9 rfl
        have g := hS1.bO.fz 9
        have hS := hS1.num1 n0
        clear hS1

        have hC := rNumberR hS.rb
        go_wp2_with (fail)
        refine hC.mono ?_
        rintro e w_N1 ⟨hF, n1, v, pn1, bn1, rfl, ⟨rfl, hva, hvb⟩, hB, hpp, h8, hSt⟩
        clear hC
        replace HK : Hid _ := KR.step (C := fun o => id (sel n (sel m (sel k o)))) (k := kN2 _) HK.out (hCC.out ()) hSt
        have hS1 := hS.call hF hB
        clear hS hF hB hpp h8 hSt hva hvb y g
        have y := hS1.bO.cell 10 rfl
        have g := hS1.bO.fz 10
        have hS := hS1.num2 n1
        clear hS1

        have hC := rNumberR hS.rb
        go_wp2_with (fail)
        refine hC.mono ?_
        rintro e w_N2 ⟨hF, n2, v, pn2, bn2, rfl, ⟨rfl, hva, hvb⟩, hB, hpp, h8, hSt⟩
        clear hC
        replace HK : Hid _ := KR.step (C := fun o => id (sel n (sel m (sel k o)))) (k := kN3 _) HK.out (hCC.out ()) hSt
        have hS1 := hS.call hF hB
        clear hS hF hB hpp h8 hSt hva hvb y g
        have y := hS1.bO.cell 11 rfl
        have g := hS1.bO.fz 11
        have hS := hS1.num3 n2
        clear hS1

        have hC := rNumberR hS.rb
        go_wp2_with (fail)
        refine hC.mono ?_
        rintro e w_N3 ⟨hF, n3, v, pn3, bn3, rfl, ⟨rfl, hva, hvb⟩, hB, hpp, h8, hSt⟩
        clear hC
        replace HK : Hid _ := KR.step (C := fun o => id (sel n (sel m (sel k o)))) (k := kN4 _) HK.out (hCC.out ()) hSt
        have hS1 := hS.call hF hB
        clear hS hF hB hpp h8 hSt hva hvb y g
        have y := hS1.bO.cell 12 rfl
        have g := hS1.bO.fz 12
        have hS := hS1.num4 n3
        clear hS1

        go_upto_region 38 with fail
        clear y g
        replace HK : Hid (KR false bn3 G (sel n (sel m (sel k (some (({ o with procs := l0, lows := l1, highs := l2, low := n0, high := n1, lowF := n2, highF := n3 } : ObjD), L.drop pn3)))))) := HK
        generalize w_N3.setCell ⟨w.heap.size + 2, 12, none⟩ (.int .i64 n3) = W at *
        generalize hoo : ({ o with procs := l0, lows := l1, highs := l2, low := n0, high := n1, lowF := n2, highF := n3 } : ObjD) = oo at *
        generalize hxx : ({ x with p1 := .slice qa0 l0.length qc0, p2 := .slice qa1 l1.length qc1, p3 := .slice qa2 l2.length qc2 } : Vals) = xx at *
        generalize w_N3.heap.size = M9 at *
        clear hCC hoo hxx
        have HGA : Hid (getAll L = G.bind fun x => if x.2 = [] ∧ mayO x.1 = true then some x.1 else none) := getAll_of hG.out
        have hle := hS.rb.le
        have m1 := hS.rb.box.cell 1 rfl
        have m2 := hS.rb.box.cell 2 rfl
        have hfr : Hid (Below w.heap.size w W) := hS.fr
        have hws : w.heap.size + 3 ≤ W.heap.size := Nat.le_trans hS.m1 hS.m2
        have bZ : BoxC W w.heap.size #[.string ⟨#[]⟩, .slice none 0 0, .slice none 0 0, .slice none 0 0, .slice none 0 0, .slice none 0 0, .slice none 0 0, .slice none 0 0, .slice none 0 0, .int .i64 0, .int .i64 0, .int .i64 0, .int .i64 0] 31 := hS.bR
        have bO : BoxC W (w.heap.size + 2) #[.string oo.face.module, xx.vv, xx.pv, xx.iv, xx.cv, xx.rv, xx.p1, xx.p2, xx.p3, .int .i64 oo.low, .int .i64 oo.high, .int .i64 oo.lowF, .int .i64 oo.highF] 31 := hS.bO
        have hAT := hS.at'.sub (win_sub W _ _)
        have hATw := (show Hid _ from hS.at')
        have hMW : M9 ≤ W.heap.size := hS.m2
        clear hS

        cases bn3 with
        | true =>
          have HN : Hid (getAll L = none) := by
            show _ = _
            rw [HGA.out, HK.out.lost rfl rfl]
            rfl
          have z0 := bZ.cell 0 rfl
          have f0 := bZ.fz 0
          have z1 := bZ.cell 1 rfl
          have f1 := bZ.fz 1
          have z2 := bZ.cell 2 rfl
          have f2 := bZ.fz 2
          have z3 := bZ.cell 3 rfl
          have f3 := bZ.fz 3
          have z4 := bZ.cell 4 rfl
          have f4 := bZ.fz 4
          have z5 := bZ.cell 5 rfl
          have f5 := bZ.fz 5
          have z6 := bZ.cell 6 rfl
          have f6 := bZ.fz 6
          have z7 := bZ.cell 7 rfl
          have f7 := bZ.fz 7
          have z8 := bZ.cell 8 rfl
          have f8 := bZ.fz 8
          have z9 := bZ.cell 9 rfl
          have f9 := bZ.fz 9
          have z10 := bZ.cell 10 rfl
          have f10 := bZ.fz 10
          have z11 := bZ.cell 11 rfl
          have f11 := bZ.fz 11
          have z12 := bZ.cell 12 rfl
          have f12 := bZ.fz 12
          have h13 := set13 (x0 := .string ⟨#[]⟩) (x1 := .slice none 0 0) (x2 := .slice none 0 0) (x3 := .slice none 0 0) (x4 := .slice none 0 0) (x5 := .slice none 0 0) (x6 := .slice none 0 0) (x7 := .slice none 0 0) (x8 := .slice none 0 0) (x9 := .int .i64 0) (x10 := .int .i64 0) (x11 := .int .i64 0) (x12 := .int .i64 0) bZ
          have bF := box_row (cs := #[.string ⟨#[]⟩, .slice none 0 0, .slice none 0 0, .slice none 0 0, .slice none 0 0, .slice none 0 0, .slice none 0 0, .slice none 0 0, .slice none 0 0, .int .i64 0, .int .i64 0, .int .i64 0, .int .i64 0]) bZ
          have HB : Hid (Below w.heap.size w (W.setRow w.heap.size #[.string ⟨#[]⟩, .slice none 0 0, .slice none 0 0, .slice none 0 0, .slice none 0 0, .slice none 0 0, .slice none 0 0, .slice none 0 0, .slice none 0 0, .int .i64 0, .int .i64 0, .int .i64 0, .int .i64 0])) := hfr.out.trans ((below_setRow W w.heap.size _).mono (Nat.le_refl _))
          have HF := (show Hid _ from bF)
          clear bF bZ bO hAT hfr HK HGA
          go_wp2
          refine bodyPost_ret (v := .tuple #[.agg #[.string ⟨#[]⟩, .slice none 0 0, .slice none 0 0, .slice none 0 0, .slice none 0 0, .slice none 0 0, .slice none 0 0, .slice none 0 0, .slice none 0 0, .int .i64 0, .int .i64 0, .int .i64 0, .int .i64 0], .int .i64 2]) (res_rget _ _ HF.out c13) rfl ?_
          rw [HN.out]
          exact ⟨HB.out, zeroX, rfl, zeroAt _⟩

        | false =>
          have HX := (HK.out.got rfl).2
          by_cases q1 : n < 0
          · have e1 : decide (n < 0) = true := decide_eq_true q1
            have HN : Hid (getAll L = none) := by
              show _ = _
              rw [HGA.out, HX, sel_neg q1]
              rfl
            clear HX
            have z0 := bZ.cell 0 rfl
            have f0 := bZ.fz 0
            have z1 := bZ.cell 1 rfl
            have f1 := bZ.fz 1
            have z2 := bZ.cell 2 rfl
            have f2 := bZ.fz 2
            have z3 := bZ.cell 3 rfl
            have f3 := bZ.fz 3
            have z4 := bZ.cell 4 rfl
            have f4 := bZ.fz 4
            have z5 := bZ.cell 5 rfl
            have f5 := bZ.fz 5
            have z6 := bZ.cell 6 rfl
            have f6 := bZ.fz 6
            have z7 := bZ.cell 7 rfl
            have f7 := bZ.fz 7
            have z8 := bZ.cell 8 rfl
            have f8 := bZ.fz 8
            have z9 := bZ.cell 9 rfl
            have f9 := bZ.fz 9
            have z10 := bZ.cell 10 rfl
            have f10 := bZ.fz 10
            have z11 := bZ.cell 11 rfl
            have f11 := bZ.fz 11
            have z12 := bZ.cell 12 rfl
            have f12 := bZ.fz 12
            have h13 := set13 (x0 := .string ⟨#[]⟩) (x1 := .slice none 0 0) (x2 := .slice none 0 0) (x3 := .slice none 0 0) (x4 := .slice none 0 0) (x5 := .slice none 0 0) (x6 := .slice none 0 0) (x7 := .slice none 0 0) (x8 := .slice none 0 0) (x9 := .int .i64 0) (x10 := .int .i64 0) (x11 := .int .i64 0) (x12 := .int .i64 0) bZ
            have bF := box_row (cs := #[.string ⟨#[]⟩, .slice none 0 0, .slice none 0 0, .slice none 0 0, .slice none 0 0, .slice none 0 0, .slice none 0 0, .slice none 0 0, .slice none 0 0, .int .i64 0, .int .i64 0, .int .i64 0, .int .i64 0]) bZ
            have HB : Hid (Below w.heap.size w (W.setRow w.heap.size #[.string ⟨#[]⟩, .slice none 0 0, .slice none 0 0, .slice none 0 0, .slice none 0 0, .slice none 0 0, .slice none 0 0, .slice none 0 0, .slice none 0 0, .int .i64 0, .int .i64 0, .int .i64 0, .int .i64 0])) := hfr.out.trans ((below_setRow W w.heap.size _).mono (Nat.le_refl _))
            have HF := (show Hid _ from bF)
            clear bF bZ bO hAT hfr HK HGA
            go_wp2
            refine bodyPost_ret (v := .tuple #[.agg #[.string ⟨#[]⟩, .slice none 0 0, .slice none 0 0, .slice none 0 0, .slice none 0 0, .slice none 0 0, .slice none 0 0, .slice none 0 0, .slice none 0 0, .int .i64 0, .int .i64 0, .int .i64 0, .int .i64 0], .int .i64 2]) (res_rget _ _ HF.out c13) rfl ?_
            rw [HN.out]
            exact ⟨HB.out, zeroX, rfl, zeroAt _⟩

          have e1 : decide (n < 0) = false := decide_eq_false q1
          rw [sel_pos q1] at HX
          by_cases q2 : m < 0
          · have e2 : decide (m < 0) = true := decide_eq_true q2
            have HN : Hid (getAll L = none) := by
              show _ = _
              rw [HGA.out, HX, sel_neg q2]
              rfl
            clear HX
            have z0 := bZ.cell 0 rfl
            have f0 := bZ.fz 0
            have z1 := bZ.cell 1 rfl
            have f1 := bZ.fz 1
            have z2 := bZ.cell 2 rfl
            have f2 := bZ.fz 2
            have z3 := bZ.cell 3 rfl
            have f3 := bZ.fz 3
            have z4 := bZ.cell 4 rfl
            have f4 := bZ.fz 4
            have z5 := bZ.cell 5 rfl
            have f5 := bZ.fz 5
            have z6 := bZ.cell 6 rfl
            have f6 := bZ.fz 6
            have z7 := bZ.cell 7 rfl
            have f7 := bZ.fz 7
            have z8 := bZ.cell 8 rfl
            have f8 := bZ.fz 8
            have z9 := bZ.cell 9 rfl
            have f9 := bZ.fz 9
            have z10 := bZ.cell 10 rfl
            have f10 := bZ.fz 10
            have z11 := bZ.cell 11 rfl
            have f11 := bZ.fz 11
            have z12 := bZ.cell 12 rfl
            have f12 := bZ.fz 12
            have h13 := set13 (x0 := .string ⟨#[]⟩) (x1 := .slice none 0 0) (x2 := .slice none 0 0) (x3 := .slice none 0 0) (x4 := .slice none 0 0) (x5 := .slice none 0 0) (x6 := .slice none 0 0) (x7 := .slice none 0 0) (x8 := .slice none 0 0) (x9 := .int .i64 0) (x10 := .int .i64 0) (x11 := .int .i64 0) (x12 := .int .i64 0) bZ
            have bF := box_row (cs := #[.string ⟨#[]⟩, .slice none 0 0, .slice none 0 0, .slice none 0 0, .slice none 0 0, .slice none 0 0, .slice none 0 0, .slice none 0 0, .slice none 0 0, .int .i64 0, .int .i64 0, .int .i64 0, .int .i64 0]) bZ
            have HB : Hid (Below w.heap.size w (W.setRow w.heap.size #[.string ⟨#[]⟩, .slice none 0 0, .slice none 0 0, .slice none 0 0, .slice none 0 0, .slice none 0 0, .slice none 0 0, .slice none 0 0, .slice none 0 0, .int .i64 0, .int .i64 0, .int .i64 0, .int .i64 0])) := hfr.out.trans ((below_setRow W w.heap.size _).mono (Nat.le_refl _))
            have HF := (show Hid _ from bF)
            clear bF bZ bO hAT hfr HK HGA
            go_wp2
            refine bodyPost_ret (v := .tuple #[.agg #[.string ⟨#[]⟩, .slice none 0 0, .slice none 0 0, .slice none 0 0, .slice none 0 0, .slice none 0 0, .slice none 0 0, .slice none 0 0, .slice none 0 0, .int .i64 0, .int .i64 0, .int .i64 0, .int .i64 0], .int .i64 2]) (res_rget _ _ HF.out c13) rfl ?_
            rw [HN.out]
            exact ⟨HB.out, zeroX, rfl, zeroAt _⟩

          have e2 : decide (m < 0) = false := decide_eq_false q2
          rw [sel_pos q2] at HX
          by_cases q3 : k < 0
          · have e3 : decide (k < 0) = true := decide_eq_true q3
            have HN : Hid (getAll L = none) := by
              show _ = _
              rw [HGA.out, HX, sel_neg q3]
              rfl
            clear HX
            have z0 := bZ.cell 0 rfl
            have f0 := bZ.fz 0
            have z1 := bZ.cell 1 rfl
            have f1 := bZ.fz 1
            have z2 := bZ.cell 2 rfl
            have f2 := bZ.fz 2
            have z3 := bZ.cell 3 rfl
            have f3 := bZ.fz 3
            have z4 := bZ.cell 4 rfl
            have f4 := bZ.fz 4
            have z5 := bZ.cell 5 rfl
            have f5 := bZ.fz 5
            have z6 := bZ.cell 6 rfl
            have f6 := bZ.fz 6
            have z7 := bZ.cell 7 rfl
            have f7 := bZ.fz 7
            have z8 := bZ.cell 8 rfl
            have f8 := bZ.fz 8
            have z9 := bZ.cell 9 rfl
            have f9 := bZ.fz 9
            have z10 := bZ.cell 10 rfl
            have f10 := bZ.fz 10
            have z11 := bZ.cell 11 rfl
            have f11 := bZ.fz 11
            have z12 := bZ.cell 12 rfl
            have f12 := bZ.fz 12
            have h13 := set13 (x0 := .string ⟨#[]⟩) (x1 := .slice none 0 0) (x2 := .slice none 0 0) (x3 := .slice none 0 0) (x4 := .slice none 0 0) (x5 := .slice none 0 0) (x6 := .slice none 0 0) (x7 := .slice none 0 0) (x8 := .slice none 0 0) (x9 := .int .i64 0) (x10 := .int .i64 0) (x11 := .int .i64 0) (x12 := .int .i64 0) bZ
            have bF := box_row (cs := #[.string ⟨#[]⟩, .slice none 0 0, .slice none 0 0, .slice none 0 0, .slice none 0 0, .slice none 0 0, .slice none 0 0, .slice none 0 0, .slice none 0 0, .int .i64 0, .int .i64 0, .int .i64 0, .int .i64 0]) bZ
            have HB : Hid (Below w.heap.size w (W.setRow w.heap.size #[.string ⟨#[]⟩, .slice none 0 0, .slice none 0 0, .slice none 0 0, .slice none 0 0, .slice none 0 0, .slice none 0 0, .slice none 0 0, .slice none 0 0, .int .i64 0, .int .i64 0, .int .i64 0, .int .i64 0])) := hfr.out.trans ((below_setRow W w.heap.size _).mono (Nat.le_refl _))
            have HF := (show Hid _ from bF)
            clear bF bZ bO hAT hfr HK HGA
            go_wp2
            refine bodyPost_ret (v := .tuple #[.agg #[.string ⟨#[]⟩, .slice none 0 0, .slice none 0 0, .slice none 0 0, .slice none 0 0, .slice none 0 0, .slice none 0 0, .slice none 0 0, .slice none 0 0, .int .i64 0, .int .i64 0, .int .i64 0, .int .i64 0], .int .i64 2]) (res_rget _ _ HF.out c13) rfl ?_
            rw [HN.out]
            exact ⟨HB.out, zeroX, rfl, zeroAt _⟩

          have e3 : decide (k < 0) = false := decide_eq_false q3
          rw [sel_pos q3] at HX
          by_cases q4 : pn3 = L.length
          case neg =>
            have e4 : ((pn3 : Int) != (L.length : Int)) = true := by simp; omega
            have HN : Hid (getAll L = none) := by
              show _ = _
              rw [HGA.out, HX, Option.bind_some, if_neg]
              rintro ⟨h1, _⟩
              have : (L.drop pn3).length = 0 := by rw [show L.drop pn3 = [] from h1]; rfl
              rw [List.length_drop] at this
              omega
            clear HX
            have z0 := bZ.cell 0 rfl
            have f0 := bZ.fz 0
            have z1 := bZ.cell 1 rfl
            have f1 := bZ.fz 1
            have z2 := bZ.cell 2 rfl
            have f2 := bZ.fz 2
            have z3 := bZ.cell 3 rfl
            have f3 := bZ.fz 3
            have z4 := bZ.cell 4 rfl
            have f4 := bZ.fz 4
            have z5 := bZ.cell 5 rfl
            have f5 := bZ.fz 5
            have z6 := bZ.cell 6 rfl
            have f6 := bZ.fz 6
            have z7 := bZ.cell 7 rfl
            have f7 := bZ.fz 7
            have z8 := bZ.cell 8 rfl
            have f8 := bZ.fz 8
            have z9 := bZ.cell 9 rfl
            have f9 := bZ.fz 9
            have z10 := bZ.cell 10 rfl
            have f10 := bZ.fz 10
            have z11 := bZ.cell 11 rfl
            have f11 := bZ.fz 11
            have z12 := bZ.cell 12 rfl
            have f12 := bZ.fz 12
            have h13 := set13 (x0 := .string ⟨#[]⟩) (x1 := .slice none 0 0) (x2 := .slice none 0 0) (x3 := .slice none 0 0) (x4 := .slice none 0 0) (x5 := .slice none 0 0) (x6 := .slice none 0 0) (x7 := .slice none 0 0) (x8 := .slice none 0 0) (x9 := .int .i64 0) (x10 := .int .i64 0) (x11 := .int .i64 0) (x12 := .int .i64 0) bZ
            have bF := box_row (cs := #[.string ⟨#[]⟩, .slice none 0 0, .slice none 0 0, .slice none 0 0, .slice none 0 0, .slice none 0 0, .slice none 0 0, .slice none 0 0, .slice none 0 0, .int .i64 0, .int .i64 0, .int .i64 0, .int .i64 0]) bZ
            have HB : Hid (Below w.heap.size w (W.setRow w.heap.size #[.string ⟨#[]⟩, .slice none 0 0, .slice none 0 0, .slice none 0 0, .slice none 0 0, .slice none 0 0, .slice none 0 0, .slice none 0 0, .slice none 0 0, .int .i64 0, .int .i64 0, .int .i64 0, .int .i64 0])) := hfr.out.trans ((below_setRow W w.heap.size _).mono (Nat.le_refl _))
            have HF := (show Hid _ from bF)
            clear bF bZ bO hAT hfr HK HGA
            go_wp2
            refine bodyPost_ret (v := .tuple #[.agg #[.string ⟨#[]⟩, .slice none 0 0, .slice none 0 0, .slice none 0 0, .slice none 0 0, .slice none 0 0, .slice none 0 0, .slice none 0 0, .slice none 0 0, .int .i64 0, .int .i64 0, .int .i64 0, .int .i64 0], .int .i64 2]) (res_rget _ _ HF.out c13) rfl ?_
            rw [HN.out]
            exact ⟨HB.out, zeroX, rfl, zeroAt _⟩

          have hdr : L.drop pn3 = [] := List.drop_eq_nil_of_le (by omega)
          rw [hdr] at HX
          subst q4
          have hCM := rMayO oo xx W hAT
          unfold objV at hCM
          have w0 := bO.cell 0 rfl
          have w1 := bO.cell 1 rfl
          have w2 := bO.cell 2 rfl
          have w3 := bO.cell 3 rfl
          have w4 := bO.cell 4 rfl
          have w5 := bO.cell 5 rfl
          have w6 := bO.cell 6 rfl
          have w7 := bO.cell 7 rfl
          have w8 := bO.cell 8 rfl
          have w9 := bO.cell 9 rfl
          have w10 := bO.cell 10 rfl
          have w11 := bO.cell 11 rfl
          have w12 := bO.cell 12 rfl

          go_wp2_with (fail)
          refine hCM.mono ?_
          rintro e W2 ⟨rfl, hb2⟩
          clear hCM w0 w1 w2 w3 w4 w5 w6 w7 w8 w9 w10 w11 w12 m1 m2
          have bZ2 := bZ.below hb2
          have bO2 := bO.below hb2
          have hAT2 := hAT.below hb2
          have hfr2 : Hid (Below w.heap.size w W2) := hfr.out.trans (hb2.mono (by omega))
          have hws2 : w.heap.size + 3 ≤ W2.heap.size := Nat.le_trans hws hb2.size
          have hAT3 := (show Hid _ from hATw.out.sub (win_to (w' := W2) (fun k k1 k2 => hb2.block k (by omega)) (Nat.le_refl _) (Nat.le_refl _)))
          clear bZ bO hAT hfr hb2 hws
          cases hmo : mayO oo with
          | false =>
            have HN : Hid (getAll L = none) := by
              show _ = _
              rw [HGA.out, HX, Option.bind_some, if_neg]
              rintro ⟨_, h2⟩
              rw [show mayO oo = true from h2] at hmo
              cases hmo
            clear HX hmo
            have z0 := bZ2.cell 0 rfl
            have f0 := bZ2.fz 0
            have z1 := bZ2.cell 1 rfl
            have f1 := bZ2.fz 1
            have z2 := bZ2.cell 2 rfl
            have f2 := bZ2.fz 2
            have z3 := bZ2.cell 3 rfl
            have f3 := bZ2.fz 3
            have z4 := bZ2.cell 4 rfl
            have f4 := bZ2.fz 4
            have z5 := bZ2.cell 5 rfl
            have f5 := bZ2.fz 5
            have z6 := bZ2.cell 6 rfl
            have f6 := bZ2.fz 6
            have z7 := bZ2.cell 7 rfl
            have f7 := bZ2.fz 7
            have z8 := bZ2.cell 8 rfl
            have f8 := bZ2.fz 8
            have z9 := bZ2.cell 9 rfl
            have f9 := bZ2.fz 9
            have z10 := bZ2.cell 10 rfl
            have f10 := bZ2.fz 10
            have z11 := bZ2.cell 11 rfl
            have f11 := bZ2.fz 11
            have z12 := bZ2.cell 12 rfl
            have f12 := bZ2.fz 12
            have h13 := set13 (x0 := .string ⟨#[]⟩) (x1 := .slice none 0 0) (x2 := .slice none 0 0) (x3 := .slice none 0 0) (x4 := .slice none 0 0) (x5 := .slice none 0 0) (x6 := .slice none 0 0) (x7 := .slice none 0 0) (x8 := .slice none 0 0) (x9 := .int .i64 0) (x10 := .int .i64 0) (x11 := .int .i64 0) (x12 := .int .i64 0) bZ2
            have bF := box_row (cs := #[.string ⟨#[]⟩, .slice none 0 0, .slice none 0 0, .slice none 0 0, .slice none 0 0, .slice none 0 0, .slice none 0 0, .slice none 0 0, .slice none 0 0, .int .i64 0, .int .i64 0, .int .i64 0, .int .i64 0]) bZ2
            have HB : Hid (Below w.heap.size w (W2.setRow w.heap.size #[.string ⟨#[]⟩, .slice none 0 0, .slice none 0 0, .slice none 0 0, .slice none 0 0, .slice none 0 0, .slice none 0 0, .slice none 0 0, .slice none 0 0, .int .i64 0, .int .i64 0, .int .i64 0, .int .i64 0])) := hfr2.out.trans ((below_setRow W2 w.heap.size _).mono (Nat.le_refl _))
            have HF := (show Hid _ from bF)
            clear bF bZ2 bO2 hAT2 hfr2 HK HGA
            go_wp2
            refine bodyPost_ret (v := .tuple #[.agg #[.string ⟨#[]⟩, .slice none 0 0, .slice none 0 0, .slice none 0 0, .slice none 0 0, .slice none 0 0, .slice none 0 0, .slice none 0 0, .slice none 0 0, .int .i64 0, .int .i64 0, .int .i64 0, .int .i64 0], .int .i64 2]) (res_rget _ _ HF.out c13) rfl ?_
            rw [HN.out]
            exact ⟨HB.out, zeroX, rfl, zeroAt _⟩

          | true =>
            have HN : Hid (getAll L = some oo) := by
              show _ = _
              rw [HGA.out, HX, Option.bind_some, if_pos ⟨rfl, hmo⟩]
            clear HX hmo HK HGA
            obtain ⟨vv, pv, iv, cv, rv, p1, p2, p3⟩ := xx
            dsimp only at bO2
            obtain ⟨xa0, xc0, hq⟩ : ∃ a c, vv = .slice a oo.face.vars.length c := by obtain ⟨x, y, e, _⟩ := hAT2.vars; exact ⟨x, y, e⟩
            subst hq
            obtain ⟨xa1, xc1, hq⟩ : ∃ a c, pv = .slice a oo.face.procs.length c := by obtain ⟨x, y, e, _⟩ := hAT2.procs; exact ⟨x, y, e⟩
            subst hq
            obtain ⟨xa2, xc2, hq⟩ : ∃ a c, iv = .slice a oo.imports.length c := by obtain ⟨x, y, e, _⟩ := hAT2.imps; exact ⟨x, y, e⟩
            subst hq
            obtain ⟨xa3, xc3, hq⟩ : ∃ a c, cv = .slice a oo.code.length c := by obtain ⟨x, y, e, _⟩ := hAT2.code; exact ⟨x, y, e⟩
            subst hq
            obtain ⟨xa4, xc4, hq⟩ : ∃ a c, rv = .slice a oo.relocs.length c := by obtain ⟨x, y, e, _⟩ := hAT2.rels; exact ⟨x, y, e⟩
            subst hq
            obtain ⟨xa5, xc5, hq⟩ : ∃ a c, p1 = .slice a oo.procs.length c := by obtain ⟨x, y, e, _⟩ := hAT2.q1; exact ⟨x, y, e⟩
            subst hq
            obtain ⟨xa6, xc6, hq⟩ : ∃ a c, p2 = .slice a oo.lows.length c := by obtain ⟨x, y, e, _⟩ := hAT2.q2; exact ⟨x, y, e⟩
            subst hq
            obtain ⟨xa7, xc7, hq⟩ : ∃ a c, p3 = .slice a oo.highs.length c := by obtain ⟨x, y, e, _⟩ := hAT2.q3; exact ⟨x, y, e⟩
            subst hq
            have z0 := bZ2.cell 0 rfl
            have f0 := bZ2.fz 0
            have w0 := bO2.cell 0 rfl
            have z1 := bZ2.cell 1 rfl
            have f1 := bZ2.fz 1
            have w1 := bO2.cell 1 rfl
            have z2 := bZ2.cell 2 rfl
            have f2 := bZ2.fz 2
            have w2 := bO2.cell 2 rfl
            have z3 := bZ2.cell 3 rfl
            have f3 := bZ2.fz 3
            have w3 := bO2.cell 3 rfl
            have z4 := bZ2.cell 4 rfl
            have f4 := bZ2.fz 4
            have w4 := bO2.cell 4 rfl
            have z5 := bZ2.cell 5 rfl
            have f5 := bZ2.fz 5
            have w5 := bO2.cell 5 rfl
            have z6 := bZ2.cell 6 rfl
            have f6 := bZ2.fz 6
            have w6 := bO2.cell 6 rfl
            have z7 := bZ2.cell 7 rfl
            have f7 := bZ2.fz 7
            have w7 := bO2.cell 7 rfl
            have z8 := bZ2.cell 8 rfl
            have f8 := bZ2.fz 8
            have w8 := bO2.cell 8 rfl
            have z9 := bZ2.cell 9 rfl
            have f9 := bZ2.fz 9
            have w9 := bO2.cell 9 rfl
            have z10 := bZ2.cell 10 rfl
            have f10 := bZ2.fz 10
            have w10 := bO2.cell 10 rfl
            have z11 := bZ2.cell 11 rfl
            have f11 := bZ2.fz 11
            have w11 := bO2.cell 11 rfl
            have z12 := bZ2.cell 12 rfl
            have f12 := bZ2.fz 12
            have w12 := bO2.cell 12 rfl
            have h13 := set13 (x0 := .string oo.face.module) (x1 := .slice xa0 oo.face.vars.length xc0) (x2 := .slice xa1 oo.face.procs.length xc1) (x3 := .slice xa2 oo.imports.length xc2) (x4 := .slice xa3 oo.code.length xc3) (x5 := .slice xa4 oo.relocs.length xc4) (x6 := .slice xa5 oo.procs.length xc5) (x7 := .slice xa6 oo.lows.length xc6) (x8 := .slice xa7 oo.highs.length xc7) (x9 := .int .i64 oo.low) (x10 := .int .i64 oo.high) (x11 := .int .i64 oo.lowF) (x12 := .int .i64 oo.highF) bZ2
            have HF : Hid (BoxC (W2.setRow w.heap.size #[.string oo.face.module, .slice xa0 oo.face.vars.length xc0, .slice xa1 oo.face.procs.length xc1, .slice xa2 oo.imports.length xc2, .slice xa3 oo.code.length xc3, .slice xa4 oo.relocs.length xc4, .slice xa5 oo.procs.length xc5, .slice xa6 oo.lows.length xc6, .slice xa7 oo.highs.length xc7, .int .i64 oo.low, .int .i64 oo.high, .int .i64 oo.lowF, .int .i64 oo.highF]) w.heap.size #[.string oo.face.module, .slice xa0 oo.face.vars.length xc0, .slice xa1 oo.face.procs.length xc1, .slice xa2 oo.imports.length xc2, .slice xa3 oo.code.length xc3, .slice xa4 oo.relocs.length xc4, .slice xa5 oo.procs.length xc5, .slice xa6 oo.lows.length xc6, .slice xa7 oo.highs.length xc7, .int .i64 oo.low, .int .i64 oo.high, .int .i64 oo.lowF, .int .i64 oo.highF] 31) := box_row bZ2
            have HB : Hid (Below w.heap.size w (W2.setRow w.heap.size #[.string oo.face.module, .slice xa0 oo.face.vars.length xc0, .slice xa1 oo.face.procs.length xc1, .slice xa2 oo.imports.length xc2, .slice xa3 oo.code.length xc3, .slice xa4 oo.relocs.length xc4, .slice xa5 oo.procs.length xc5, .slice xa6 oo.lows.length xc6, .slice xa7 oo.highs.length xc7, .int .i64 oo.low, .int .i64 oo.high, .int .i64 oo.lowF, .int .i64 oo.highF])) := hfr2.out.trans ((below_setRow W2 w.heap.size _).mono (Nat.le_refl _))
            have HAT : Hid (ObjAt (W2.setRow w.heap.size #[.string oo.face.module, .slice xa0 oo.face.vars.length xc0, .slice xa1 oo.face.procs.length xc1, .slice xa2 oo.imports.length xc2, .slice xa3 oo.code.length xc3, .slice xa4 oo.relocs.length xc4, .slice xa5 oo.procs.length xc5, .slice xa6 oo.lows.length xc6, .slice xa7 oo.highs.length xc7, .int .i64 oo.low, .int .i64 oo.high, .int .i64 oo.lowF, .int .i64 oo.highF]) ⟨.slice xa0 oo.face.vars.length xc0, .slice xa1 oo.face.procs.length xc1, .slice xa2 oo.imports.length xc2, .slice xa3 oo.code.length xc3, .slice xa4 oo.relocs.length xc4, .slice xa5 oo.procs.length xc5, .slice xa6 oo.lows.length xc6, .slice xa7 oo.highs.length xc7⟩ oo) := hAT3.out.sub fun q v h => by
              obtain ⟨g1, g2, g3⟩ := win_cell h
              exact (World.cell?_of_block (setRow_other W2 w.heap.size _ _ (by omega))).trans g3
            clear bZ2 bO2 hAT2 hfr2
            go_wp2
            refine bodyPost_ret (v := .tuple #[.agg #[.string oo.face.module, .slice xa0 oo.face.vars.length xc0, .slice xa1 oo.face.procs.length xc1, .slice xa2 oo.imports.length xc2, .slice xa3 oo.code.length xc3, .slice xa4 oo.relocs.length xc4, .slice xa5 oo.procs.length xc5, .slice xa6 oo.lows.length xc6, .slice xa7 oo.highs.length xc7, .int .i64 oo.low, .int .i64 oo.high, .int .i64 oo.lowF, .int .i64 oo.highF], .int .i64 0]) (res_rget _ _ HF.out c13) rfl ?_
            rw [HN.out]
            exact ⟨HB.out, _, rfl, HAT.out⟩
end Go.Proofs.YthfeojjfehbgjaaGreatDoor.obj
