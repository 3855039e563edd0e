/- What the program's mayPlaces, mayFaces and May answer: contracts. -/
import Derived.Test.YthfeojjfehbgjaaGreatDoorOPObjMay
namespace Go.Proofs.YthfeojjfehbgjaaGreatDoor.obj
open Go.RowKit Go.Maps Go.WideMaps
open Go.Proofs.YthfeojjfehbgjaaGreatDoor.lexs (HasErr)
open Go.Proofs.YthfeojjfehbgjaaGreatDoor.syn (isName eqS)
open Go.Proofs.YthfeojjfehbgjaaGreatDoor.mac (Ins hasB BoxC)
open Go.Proofs.YthfeojjfehbgjaaGreatDoor.face (VarD ProcD FaceD keep ret_b all_no all_yes setD keyL key_name setD_snoc setD_size apartB grown_of_below below_box box_cell take_next VarsIn ProcsIn)
set_option linter.unusedVariables false
set_option linter.unusedSimpArgs false
set_option maxRecDepth 100000
theorem lawSo : Keyed Tryz.prog 9 := face.lawS
/-- a set of names of one's own -/
structure PInv (w wr : World) (B : Nat) (l : List ByteArray) : Prop where
  below : Below w.heap.size w wr
  le : w.heap.size ≤ B
  own : wr.ownsMap Tryz.prog 9 (unitElem (H := Unit)) B l.length (setD l)
theorem PInv.next {w wr w2 : World} {B : Nat} {l : List ByteArray} (h : PInv w wr B l) (hb : Below wr.heap.size wr w2) : PInv w w2 B l :=
  ⟨h.below.trans (hb.mono h.below.size), h.le, h.own.kept (grown_of_below hb) (by simp)⟩
theorem PInv.put {w wr w2 : World} {B : Nat} {y : ByteArray} {l : List ByteArray} (h : PInv w wr B l) (hg : wr.grownBy w2 (some B)) (ho : w2.ownsMap Tryz.prog 9 (unitElem (H := Unit)) B (l.length + 1) ((setD l).put (keyL y) (.agg []))) : PInv w w2 B (l ++ [y]) := by
  refine ⟨h.below.grown hg h.below.size (fun k hk => ?_), h.le, ?_⟩
  · cases hk
    exact h.le
  · rw [setD_snoc, List.length_append]
    exact ho
set_option maxHeartbeats 2000000 in
theorem oMayPlaces (l : List PlcD) (u : Value) (n : Int) (w : World) (hw : HasErr w) (hu : PlcsIn w u l) :
    Calls Tryz.prog 16 #[u, .int .i64 n] w fun e w' => e = .returned (.bool (placesB l n)) ∧ Below w.heap.size w w' := by
  have c2 : Tryz.prog.cellsOf 85 = 2 := by kernel_rfl
  have hmm := @run_makeMap Tryz.prog
  obtain ⟨a, c, rfl, hl, hc⟩ := hu
  obtain ⟨V, hV⟩ : ∃ V, V = placesB l n := ⟨_, rfl⟩
  rw [← hV]
  have HV : Hid (V = (l.all (plcB n) && apartB [] (l.map (·.name)))) := hV
  clear hV
  have hI0 : PInv w (w.alloc (.map #[] 0)) w.heap.size ((l.take 0).map (·.name)) := ⟨(Below.refl _ _).alloc (Nat.le_refl _) _, Nat.le_refl _, World.ownsMap_made _ _ _ _⟩
  go_enter Tryz.func16, Tryz.ntmps16
  go_wp2
  have hB0 : w.heap.size ≤ w.heap.size := Nat.le_refl _
  generalize hBB : w.heap.size = B at hI0 ⊢
  go_loopw [11] (fun t wr => ∃ j : Nat, j ≤ l.length ∧ t = .int .i64 j ∧ PInv w wr B ((l.take j).map (·.name)) ∧ Hid (∀ i (h : i < l.length), i < j → plcB n l[i] = true)) (fun t _ => l.length - (intOf t).toNat)
  case atStart => exact ⟨0, Nat.zero_le _, rfl, hI0, fun i _ h => by omega⟩
  case round =>
    clear hI0 hBB
    obtain ⟨j, hj, rfl, hI, HN⟩ := hrel
    by_cases hlt : j < l.length
    · obtain ⟨g, o, rfl, hcc⟩ := hc (by intro e; rw [e] at hlt; simp at hlt)
      obtain ⟨k0, k1⟩ := hcc j hlt
      replace k0 := keep k0 hI.below
      replace k1 := keep k1 hI.below
      have HF : Hid (plcB n l[j] = false → V = false) := fun h => by rw [HV.out, all_no j hlt h]; rfl
      have HJ : Hid (plcB n l[j] = true → ∀ i (h : i < l.length), i < j + 1 → plcB n l[i] = true) := fun h1 i h h2 => by
        rcases Nat.lt_or_ge i j with h3 | h3
        · exact HN.out i h h3
        · have : i = j := by omega
          subst this
          exact h1
      have HT : Hid ((l.take (j + 1)).map (·.name) = (l.take j).map (·.name) ++ [l[j].name]) := take_next _ _ _ hlt
      have hlen : ((l.take j).map (·.name)).length < maxLen := by unfold maxLen; simp; omega
      clear hcc hc HN
      generalize l[j] = x at *
      obtain ⟨nm, at1⟩ := x
      dsimp only at k0 k1 HT
      have hB2 := hI.below.alloc hI.below.size (.cells #[.string nm, .int .i64 at1] 85)
      have hI2 := hI.next ((Below.refl _ _).alloc (Nat.le_refl _) (.cells #[.string nm, .int .i64 at1] 85))
      have hR := face.oName nm (wr.alloc (.cells #[.string nm, .int .i64 at1] 85)) (face.HasErr.below hw hB2)
      cases hx : isName nm
      · have HF2 : Hid (V = false) := HF.out (by simp [plcB, hx])
        rw [hx] at hR
        go_wp2_with (go_at_call 40; refine hR.mono ?_; rintro e w3 ⟨rfl, hb3⟩; have y1 := box_cell hb3 1)
        go_ret
        exact ⟨ret_b HF2.out.symm, hB2.trans (hb3.mono hB2.size)⟩
      · rw [hx] at hR
        by_cases h0 : at1 < 0
        · have HF2 : Hid (V = false) := HF.out (by simp [plcB]; omega)
          go_wp2_with (go_at_call 40; refine hR.mono ?_; rintro e w3 ⟨rfl, hb3⟩; have y1 := box_cell hb3 1)
          go_ret
          exact ⟨ret_b HF2.out.symm, hB2.trans (hb3.mono hB2.size)⟩
        · by_cases h1 : n ≤ at1
          · have HF2 : Hid (V = false) := HF.out (by simp [plcB]; omega)
            go_wp2_with (go_at_call 40; refine hR.mono ?_; rintro e w3 ⟨rfl, hb3⟩; have y1 := box_cell hb3 1)
            go_ret
            exact ⟨ret_b HF2.out.symm, hB2.trans (hb3.mono hB2.size)⟩
          · have HT2 : Hid (∀ i (h : i < l.length), i < j + 1 → plcB n l[i] = true) := HJ.out (by simp [plcB, hx]; omega)
            have hkey := key_name hx
            go_wp2_with first
              | (go_at_call 40; refine hR.mono ?_; rintro e w3 ⟨rfl, hb3⟩; have y1 := box_cell hb3 1; have y0 := box_cell hb3 0; have hI3 := hI2.next hb3)
              | (at_mapUpdate; refine wpList_mapUpdate_own _ rfl _ _ _ 81 rfl 9 64 lawSo Tryz.underlying81 (unitElem (H := Unit)) B _ _ rfl hI3.own hlen _ _ _ rfl rfl hkey _ [] unitElem_mk ?_; intro w5 hown5 hgrow5)
              | go_in
            go_roundw
            case rel => exact ⟨j + 1, by omega, by go_num, by rw [HT.out]; exact hI3.put hgrow5 hown5, HT2.out⟩
            case measure => simp [intOf]; omega
    · rw [List.take_of_length_le (by omega)] at hI
      have HB : Hid (V = ((Maps.size (setD (l.map (·.name))) : Int) == (l.length : Int))) := by
        show _ = _
        rw [HV.out, all_yes (fun i h => HN.out i h (by omega)), ← setD_size]
        simp only [List.length_map, Bool.true_and]
        rw [Bool.eq_iff_iff]
        simp only [beq_iff_eq]
        omega
      have hown := hI.own
      have hfin := hI.below
      clear HN hI hc
      generalize (l.map (·.name)).length = L at hown
      generalize setD (l.map (·.name)) = D at hown HB
      go_wp2_with first
        | (at_len; refine wpList_len_own _ rfl _ 81 rfl 9 64 Tryz.underlying81 (unitElem (H := Unit)) B _ _ rfl hown ?_)
        | go_in
      go_ret
      exact ⟨ret_b HB.out.symm, hfin⟩
/-- a name that a literal lays into a map of one's own -/
theorem wpList_insert_own {H : Type} {P : Program} (w : World) {ops : Array Oper} {rest : List Oper} {o : Oper} {a : Act} {Q : Exit → Act → World → Prop}
    (hg : o.guard = none) (m x v : Operand) (t : TypeId) (hop : o.op = Op.insert t m x v)
    (k e : TypeId) (K : Keyed P k) (ht : P.underlying t = some (.map k e)) (R : Value → Option (DataW H × List MemPlace)) (b n : Nat) (D : DataW H)
    (hm : a.eval m = .map (some b)) (hown : w.ownsMap P k R b n D) (hn : n < maxLen) (key val : Value) (kl : Lit) (hx : a.eval x = key) (hv : a.eval v = val) (hkey : keyOf P k key = some kl)
    (d : DataW H) (ps : List MemPlace) (hval : R val = some (d, ps))
    (hK : ∀ w', w'.ownsMap P k R b (n + 1) (D.put kl d) → w.grownBy w' (some b) → wpList P ops Q rest (a.put o.dst undef) w') :
    wpList P ops Q (o :: rest) a w := by
  refine wpList_plain hg fun K' hK' => ?_
  obtain ⟨w', hrun, r1, r2⟩ := hown.update K ht hn hkey hval
  unfold Oper.wp
  simp [execOp, hop, hm, hx, hv, hrun, Result.andThen]
  exact hK' _ _ (hK w' r1 r2)
theorem may_name {f : FaceD} (h : face.mayB f = true) : isName f.module = true := by
  unfold face.mayB at h
  simp only [Bool.and_eq_true] at h
  exact h.1
set_option maxHeartbeats 2000000 in
theorem oMayFaces (f : FaceD) (vv pv : Value) (l : List FaceD) (u : Value) (w : World) (hw : HasErr w) (hv : VarsIn w vv f.vars) (hp : ProcsIn w pv f.procs) (hu : FacesIn w u l) :
    Calls Tryz.prog 12 #[faceV f vv pv, u] w fun e w' => e = .returned (.bool (facesB f l)) ∧ Below w.heap.size w w' := by
  have c3 : Tryz.prog.cellsOf 25 = 3 := face.cell3
  have hmm := @run_makeMap Tryz.prog
  obtain ⟨a, c, rfl, hl, hc⟩ := hu
  obtain ⟨va, vc, rfl⟩ : ∃ a c, vv = .slice a f.vars.length c := by obtain ⟨a, c, e, _⟩ := hv; exact ⟨a, c, e⟩
  obtain ⟨pa, pc, rfl⟩ : ∃ a c, pv = .slice a f.procs.length c := by obtain ⟨a, c, e, _⟩ := hp; exact ⟨a, c, e⟩
  obtain ⟨V, hV⟩ : ∃ V, V = facesB f l := ⟨_, rfl⟩
  rw [← hV]
  have HV : Hid (V = (face.mayB f && (decide (l.length ≤ 5) && (l.all face.mayB && apartB [] (f.module :: l.map (·.module)))))) := hV
  clear hV
  unfold faceV
  have hB0 := (Below.refl w.heap.size w).alloc (Nat.le_refl _) (.cells #[.string f.module, .slice va f.vars.length vc, .slice pa f.procs.length pc] 25)
  have hR0 := face.oMay f (.agg #[.string f.module, .slice va f.vars.length vc, .slice pa f.procs.length pc]) _ (face.HasErr.below hw hB0) ⟨_, _, rfl, hv.below hB0, hp.below hB0⟩
  cases hm : face.mayB f
  · have HF : Hid (V = false) := by show _ = _; rw [HV.out, hm]; rfl
    rw [hm] at hR0
    go_enter Tryz.func12, Tryz.ntmps12
    go_wp2_with (go_at_call 37; refine hR0.mono ?_; rintro e w2 ⟨rfl, hb2⟩)
    go_ret
    exact ⟨ret_b HF.out.symm, hB0.trans (hb2.mono hB0.size)⟩
  rw [hm] at hR0
  by_cases h5 : 5 < (l.length : Int)
  · have HF : Hid (V = false) := by show _ = _; rw [HV.out, decide_eq_false (by omega)]; simp
    go_enter Tryz.func12, Tryz.ntmps12
    go_wp2_with (go_at_call 37; refine hR0.mono ?_; rintro e w2 ⟨rfl, hb2⟩)
    go_ret
    exact ⟨ret_b HF.out.symm, hB0.trans (hb2.mono hB0.size)⟩
  replace HV : Hid (V = (l.all face.mayB && apartB [] (f.module :: l.map (·.module)))) := by show _ = _; rw [HV.out, hm, decide_eq_true (by omega)]; rfl
  have hkey0 := key_name (may_name hm)
  go_enter Tryz.func12, Tryz.ntmps12
  go_wp2_with first
    | (go_at_call 37; refine hR0.mono ?_; rintro e w2 ⟨rfl, hb2⟩; have y0 := box_cell hb2 0; have hb20 := hB0.trans (hb2.mono hB0.size); have hI0 : PInv w (w2.alloc (.map #[] 0)) w2.heap.size [] := ⟨hb20.alloc hb20.size _, hb20.size, World.ownsMap_made _ _ _ _⟩; have y00 := fun ob => face.cell_new y0 ob)
    | (refine wpList_insert_own _ rfl _ _ _ 81 rfl 9 64 lawSo Tryz.underlying81 (unitElem (H := Unit)) w2.heap.size _ _ rfl hI0.own (by decide) _ _ _ rfl rfl hkey0 _ [] unitElem_mk ?_; intro w5 hown5 hgrow5)
    | go_in
  have hI1 : PInv w w5 w2.heap.size (f.module :: (l.take 0).map (·.module)) := hI0.put hgrow5 hown5
  clear hI0 hown5 hgrow5 y0 y00 hR0 hkey0
  generalize w2.heap.size = B at hI1 ⊢
  go_loopw [23] (fun t wr => ∃ j : Nat, j ≤ l.length ∧ t = .int .i64 j ∧ PInv w wr B (f.module :: (l.take j).map (·.module)) ∧ Hid (∀ i (h : i < l.length), i < j → face.mayB l[i] = true)) (fun t _ => l.length - (intOf t).toNat)
  case atStart => exact ⟨0, Nat.zero_le _, rfl, hI1, fun i _ h => by omega⟩
  case round =>
    clear hI1
    obtain ⟨j, hj, rfl, hI, HN⟩ := hrel
    by_cases hlt : j < l.length
    · obtain ⟨g, o, rfl, hcc⟩ := hc (by intro e; rw [e] at hlt; simp at hlt)
      obtain ⟨k0, ⟨y, k1, hy⟩, ⟨z, k2, hz⟩⟩ := hcc j hlt
      replace k0 := keep k0 hI.below
      replace k1 := keep k1 hI.below
      replace k2 := keep k2 hI.below
      replace hy := hy.below hI.below
      replace hz := hz.below hI.below
      have HF : Hid (face.mayB l[j] = false → V = false) := fun h => by rw [HV.out, all_no j hlt h]; rfl
      have HJ : Hid (face.mayB l[j] = true → ∀ i (h : i < l.length), i < j + 1 → face.mayB l[i] = true) := fun h1 i h h2 => by
        rcases Nat.lt_or_ge i j with h3 | h3
        · exact HN.out i h h3
        · have : i = j := by omega
          subst this
          exact h1
      have HT : Hid ((l.take (j + 1)).map (·.module) = (l.take j).map (·.module) ++ [l[j].module]) := take_next _ _ _ hlt
      have hlen : (f.module :: (l.take j).map (·.module)).length < maxLen := by unfold maxLen; simp; omega
      clear hcc hc HN
      generalize l[j] = x at *
      obtain ⟨ya, yc, rfl⟩ : ∃ a c, y = .slice a x.vars.length c := by obtain ⟨a, c, e, _⟩ := hy; exact ⟨a, c, e⟩
      obtain ⟨za, zc, rfl⟩ : ∃ a c, z = .slice a x.procs.length c := by obtain ⟨a, c, e, _⟩ := hz; exact ⟨a, c, e⟩
      have hA := (Below.refl wr.heap.size wr).alloc (Nat.le_refl _) (.cells #[.string x.module, .slice ya x.vars.length yc, .slice za x.procs.length zc] 25)
      have hI2 := hI.next hA
      have hR := face.oMay x (.agg #[.string x.module, .slice ya x.vars.length yc, .slice za x.procs.length zc]) _ (face.HasErr.below hw hI2.below) ⟨_, _, rfl, hy.below hA, hz.below hA⟩
      cases hx : face.mayB x
      · have HF2 : Hid (V = false) := HF.out hx
        rw [hx] at hR
        go_wp2_with (go_at_call 37; refine hR.mono ?_; rintro e w3 ⟨rfl, hb3⟩; have y0 := box_cell hb3 0)
        go_ret
        exact ⟨ret_b HF2.out.symm, hI2.below.trans (hb3.mono hI2.below.size)⟩
      · rw [hx] at hR
        have HT2 : Hid (∀ i (h : i < l.length), i < j + 1 → face.mayB l[i] = true) := HJ.out hx
        have hkey := key_name (may_name hx)
        go_wp2_with first
          | (go_at_call 37; refine hR.mono ?_; rintro e w3 ⟨rfl, hb3⟩; have y0 := box_cell hb3 0; have hI3 := hI2.next hb3)
          | (at_mapUpdate; refine wpList_mapUpdate_own _ rfl _ _ _ 81 rfl 9 64 lawSo Tryz.underlying81 (unitElem (H := Unit)) B _ _ rfl hI3.own hlen _ _ _ rfl rfl hkey _ [] unitElem_mk ?_; intro w6 hown6 hgrow6)
          | go_in
        go_roundw
        case rel => exact ⟨j + 1, by omega, by go_num, by rw [HT.out, ← List.cons_append]; exact hI3.put hgrow6 hown6, HT2.out⟩
        case measure => simp [intOf]; omega
    · rw [List.take_of_length_le (by omega)] at hI
      have HB : Hid (V = ((Maps.size (setD (f.module :: l.map (·.module))) : Int) == (l.length : Int) + 1)) := by
        show _ = _
        rw [HV.out, all_yes (fun i h => HN.out i h (by omega)), ← setD_size]
        simp only [List.length_cons, List.length_map, Bool.true_and]
        rw [Bool.eq_iff_iff]
        simp only [beq_iff_eq]
        omega
      have hown := hI.own
      have hfin := hI.below
      have hwr : wrap64 ((l.length : Int) + 1) = (l.length : Int) + 1 := by unfold wrap64; omega
      clear HN hI hc
      generalize (f.module :: l.map (·.module)).length = L at hown
      generalize setD (f.module :: l.map (·.module)) = D at hown HB
      go_wp2_with first
        | (at_len; refine wpList_len_own _ rfl _ 81 rfl 9 64 Tryz.underlying81 (unitElem (H := Unit)) B _ _ rfl hown ?_)
        | go_in
      go_ret
      exact ⟨ret_b HB.out.symm, hfin⟩
/-- the object's box -/
def objC (o : ObjD) (x : Vals) : Array Value := #[.string o.face.module, x.vv, x.pv, x.iv, x.cv, x.rv, x.p1, x.p2, x.p3, .int .i64 o.low, .int .i64 o.high, .int .i64 o.lowF, .int .i64 o.highF]
end Go.Proofs.YthfeojjfehbgjaaGreatDoor.obj
