/- The law FaceOwn, walked. -/
import Derived.Test.YtchhpinmoagkhaaGreatDoorProg
import Derived.WalkKit
import Derived.WalkLawsBesides
import Derived.Outline
import Derived.WalkSmall
import Derived.BigQuiet
import Derived.Deep.QuietTactic
import Derived.Deep.RegionWith
import Derived.Test.YtchhpinmoagkhaaGreatDoorNGc
import Derived.Test.YtchhpinmoagkhaaGreatDoorNFn
namespace Go.Proofs.YtchhpinmoagkhaaGreatDoor.face
open Go.RowKit
open Go.Proofs.YtchhpinmoagkhaaGreatDoor.lexs (HasErr)
open Go.Proofs.YtchhpinmoagkhaaGreatDoor.syn
set_option linter.unusedVariables false
set_option linter.unusedSimpArgs false
set_option maxRecDepth 100000

set_option maxHeartbeats 4000000 in
theorem faceOwn_bad (x : ByteArray) (n : Int) (c a : Int) (w : World) (hc : c ≠ 0) (hE : ∀ w', Below w.heap.size w w' → HasErr w')
    (h1 : Calls Tryz.prog 14 #[.string x] w (OfRes w noFace [] c a)) :
    Calls Tryz.prog 8 #[.string x, .int .u8 n] w fun e w' => e = .returned (.bool true) ∧ Below w.heap.size w w' := by
  have c27 : Tryz.prog.cellsOf 27 = 2 := by kernel_rfl
  have c3 : Tryz.prog.cellsOf 38 = 3 := cell3
  have hcn : (c != 0) = true := by simp [bne, beq_false_of_ne hc]
  go_enter Tryz.func8, Tryz.ntmps8
  go_wp2_with first
    | (go_at_call 14; refine h1.mono ?_; rintro e w1 ⟨fv, lv, rfl, hF1, hS1, hb1⟩; have hF1' := hF1; obtain ⟨va, pa, rfl, ⟨av, cv, rfl, _, _⟩, ⟨ap, cp, rfl, _, _⟩⟩ := hF1'; have hS1' := hS1; obtain ⟨al, cl, rfl, _, _⟩ := hS1'; have hA1 := Joins.below_alloc2 w1 (.cells #[.string noFace.module, .slice av noFace.vars.length cv, .slice ap noFace.procs.length cp] 38) (.cells #[.int .i64 c, .int .i64 a] 27); have hZ := hb1.trans (hA1.mono hb1.size); have hM := oMay noFace _ _ (hE _ hZ) (hF1.below hA1); rw [show mayB noFace = false from no_may] at hM; simp only [show noFace.module = ⟨#[]⟩ from rfl, show noFace.vars.length = 0 from rfl, show noFace.procs.length = 0 from rfl] at *)
    | (go_at_call 17; refine hM.mono ?_; rintro e w2 ⟨rfl, hb2⟩)
  go_ret
  exact ⟨rfl, hZ.trans (hb2.mono hZ.size)⟩
/-- a face that lies in rows of its own -/
theorem FR.faceIn {X : Nat → Prop} {B : Nat} {w : World} {vv pv : Value} {m : ByteArray} {K : List Kid} {P : List (ProcD × Value)} (hF : FR X B w vv pv (varsK false K) P) (hP : P.map (·.1) = procsK false K) (hn : (namesK K).length ≤ 20) : FaceIn w (.agg #[.string m, vv, pv]) (faceK false m K) := by
  have hV := varsN_len false K
  have hPl : P.length ≤ 1000 := by have h1 := congrArg List.length hP; have h2 := procsN_len false K; rw [List.length_map] at h1; omega
  have := hF.face (m := m) (by omega) hPl
  rw [hP] at this
  exact this
/-- a label is turned in the row -/
theorem FR.turned {X : Nat → Prop} {B g cv : Nat} {w : World} {pv : Value} {m : ByteArray} {K : List Kid} {P : List (ProcD × Value)} (hF : FR X B w (.slice (some ⟨g, 0, none⟩) (varsK false K).length cv) pv (varsK false K) P) (hP : P.map (·.1) = procsK false K) (hn : (namesK K).length ≤ 20) {k : Nat} (hk : k < (varsK false K).length) :
    FaceIn (w.setCell ⟨g, k * 4 + 2, none⟩ (.int .i64 (1 - (varsK false K)[k].label))) (.agg #[.string m, .slice (some ⟨g, 0, none⟩) (varsK false K).length cv, pv]) (turned (faceK false m K) k) := by
  have hV := varsN_len false K
  have hPl : P.length ≤ 1000 := by have h1 := congrArg List.length hP; have h2 := procsN_len false K; rw [List.length_map] at h1; omega
  obtain ⟨h1, h2⟩ := hF.ov.stored (k * 4 + 2) (.int .i64 (1 - (varsK false K)[k].label))
  rw [← turn_cells _ _ hk] at h1
  have e := turn_len (varsK false K) k
  have h3 : pv.ownBlock = none ∨ pv.ownBlock ≠ some g := by
    cases e : pv.ownBlock with
    | none => exact .inl rfl
    | some b => exact .inr (fun e2 => hF.dj g rfl (by rw [e, e2]))
  have h4 := hF.op.kept h2 h3
  rw [← e] at h1
  have r1 := vars_in h1 (by omega)
  have r2 := procs_in h4 (by omega) (fun q hq => ((hF.par q hq).to (R := fun _ => True) (fun b hb => trivial) (fun b hb o v hc => cell_grown h2 hc (fun e => hb.2.2.1 e))).ints)
  rw [hP] at r2
  rw [e] at r1
  exact ⟨_, _, rfl, r1, r2⟩
set_option maxHeartbeats 1000000 in
theorem faceOwn_ok (x : ByteArray) (n : Int) (m : ByteArray) (K : List Kid) (w : World) (hH : HasBoth w) (h0 : 0 ≤ n) (h255 : n ≤ 255) (hl : lookD K [m] [] 1 = none) (hmay : mayB (faceK false m K) = true)
    (hOf : ∀ w', HasBoth w' → Calls Tryz.prog 14 #[.string x] w' (DeclOut w' m K)) :
    Calls Tryz.prog 8 #[.string x, .int .u8 n] w fun e w' => e = .returned (.bool true) ∧ Below w.heap.size w w' := by
  have c27 : Tryz.prog.cellsOf 27 = 2 := by kernel_rfl
  have c3 : Tryz.prog.cellsOf 38 = 3 := cell3
  have hO1 := (hOf w hH).mono (fun e w' h => (DeclOut.ok hl).1 h)
  have hO2 := fun w' hw => (hOf w' hw).mono (fun e w' h => (DeclOut.ok hl).1 h)
  clear hOf
  go_enter Tryz.func8, Tryz.ntmps8
  go_wp2_with (fail)
  refine hO1.mono ?_
  rintro e w1 ⟨X, B, vv, pv, iv, P, hB, rfl, hF, hP, hn, hi, hb1⟩
  have hFI := FR.faceIn (m := m) hF hP hn
  obtain ⟨av, cv, rfl⟩ := hF.shapeV
  obtain ⟨ap, cp, rfl⟩ := hF.shapeP
  obtain ⟨ai, ci, rfl, _, _⟩ := lexs.own_shape hi
  have hA1 := Joins.below_alloc2 w1 (.cells #[.string m, .slice av (varsK false K).length cv, .slice ap P.length cp] 38) (.cells #[.int .i64 0, .int .i64 0] 27)
  have hZ1 := hb1.trans (hA1.mono hb1.size)
  have hH1 := hasBoth_below hH hZ1
  have hFI1 := hFI.below hA1
  have hM := oMay (faceK false m K) _ _ hH1.1 hFI1
  rw [hmay] at hM
  have bf := (Box3.new w1 (.string m) (.slice av (varsK false K).length cv) (.slice ap P.length cp) 38).alloc (.cells #[.int .i64 0, .int .i64 0] 27)
  clear hF hi hB hFI hO1 hA1
  obtain ⟨L, hL⟩ : ∃ L, (varsK false K).length = L := ⟨_, rfl⟩
  rw [hL] at hM bf hFI1 hZ1 hH1 ⊢
  have HL : Hid ((varsK false K).length = L) := hL
  clear hL
  go_wp2_with (fail)
  generalize (w1.alloc (.cells #[.string m, .slice av L cv, .slice ap P.length cp] 38)).alloc (.cells #[.int .i64 0, .int .i64 0] 27) = W1 at *
  generalize w1.heap.size = N at *
  refine hM.mono ?_
  rintro e w2 ⟨rfl, hb2⟩
  have hS := oSame (faceK false m K) (faceK false m K) _ _ w2 (hFI1.below hb2) (hFI1.below hb2)
  rw [sameB_refl] at hS
  obtain ⟨t0, t1, t2, _, _, _⟩ := id (bf.below hb2)
  clear hM
  go_wp2_with (fail)
  refine hS.mono ?_
  rintro e w3 ⟨rfl, hb3⟩
  have hZ3 := (hZ1.trans (hb2.mono hZ1.size))
  replace hZ3 := hZ3.trans (hb3.mono hZ3.size)
  have hH3 := hasBoth_below (hasBoth_below hH1 hb2) hb3
  have bf3 := (bf.below hb2).below hb3
  have hFI3 := (hFI1.below hb2).below hb3
  clear hS t0 t1 t2 hb2 hb3 hZ1 hH1 bf hFI1 hH hb1 hn hP
  go_wp2_with (fail)
  refine (hO2 w3 hH3).mono ?_
  rintro e w4 ⟨X', B', vv', pv', iv', P', hB', rfl, hF, hP, hn, hi, hb4⟩
  have hFI := FR.faceIn (m := m) hF hP hn
  obtain ⟨av', cv', rfl⟩ := hF.shapeV
  obtain ⟨ap', cp', rfl⟩ := hF.shapeP
  obtain ⟨ai', ci', rfl, _, _⟩ := lexs.own_shape hi
  have hA4 := Joins.below_alloc2 w4 (.cells #[.string m, .slice av' (varsK false K).length cv', .slice ap' P'.length cp'] 38) (.cells #[.int .i64 0, .int .i64 0] 27)
  have hB4 := hb4.trans (hA4.mono hb4.size)
  have hF4 := hF.below hA4
  have hgl : ∀ b, av'.map (·.block) = some b → b < w4.heap.size := fun b e => (hF.ov.lt b (by cases av' with | none => cases e | some q => exact e)).2
  have hFI4 := hFI.below hA4
  have bf4 := bf3.below hB4
  have bfw := bf3.below hb4
  have hNlt := bfw.lt
  have bg4 := (Box3.new w4 (.string m) (.slice av' (varsK false K).length cv') (.slice ap' P'.length cp') 38).alloc (.cells #[.int .i64 0, .int .i64 0] 27)
  have hH4 := hasBoth_below hH3 hB4
  have hsz4 : w3.heap.size ≤ w4.heap.size := hb4.size
  have bf3' := bf3
  have hH3' := hH3
  clear hF hi hFI hO2 hA4 bf3 hH3 bf4
  rw [HL.out] at hFI4 hF4 hB4 hH4 bg4 ⊢
  obtain ⟨t0, t1, t2, _, _, _⟩ := id bfw
  clear bfw
  by_cases hz : L = 0
  · subst hz
    clear hF4 hB' hH4 bg4
    have hS4 := oSame (faceK false m K) (faceK false m K) _ _ _ (hFI3.below hB4) hFI4
    rw [sameB_refl] at hS4
    go_wp2_with (go_at_call 18; refine hS4.mono ?_; rintro e w5 ⟨rfl, hb5⟩)
    go_ret
    exact ⟨rfl, (hZ3.trans (hB4.mono hZ3.size)).trans (hb5.mono (hZ3.trans (hB4.mono hZ3.size)).size)⟩
  have hLpos : 0 < L := by omega
  have hz1 : ¬ (L : Int) = 0 := by omega
  have hz2 : ((L : Int) == 0) = false := by rw [beq_eq_false_iff_ne]; exact hz1
  obtain ⟨k, hk, hkm⟩ : ∃ k : Nat, k < L ∧ n.tmod (L : Int) = (k : Int) := by
    obtain ⟨q, rfl⟩ : ∃ q : Nat, n = (q : Int) := ⟨n.toNat, by omega⟩
    exact ⟨q % L, Nat.mod_lt _ hLpos, rfl⟩
  have hov := hF4.ov
  rw [HL.out] at hov
  obtain ⟨_, _, ee, _, hg⟩ := lexs.own_shape hov
  obtain ⟨g, rfl⟩ : ∃ g, av' = some ⟨g, 0, none⟩ := by
    obtain ⟨g, e⟩ := hg hLpos
    injection ee with e1 e2 e3
    exact ⟨g, by rw [e1]; exact e⟩
  clear ee hg
  have hlt := hov.lt g rfl
  have hkV : k < (varsK false K).length := by rw [HL.out]; exact hk
  have hcell := (hov.cellAt (k * 4 + 2) (by omega)).trans (varCells_at _ k hkV).2.2.1
  have hfr := hov.frozenAt (k * 4 + 2)
  have hgw := hgl g rfl
  have hNw := bf3'.lt
  clear hgl
  have hT := FR.turned (m := m) (by rw [HL.out]; exact hF4) hP hn hkV
  rw [HL.out] at hT
  have hMay := may_turned hmay k
  have hSam := same_turned (f := faceK false m K) k hkV
  have hBg := hB4.setCell (p := ⟨g, k * 4 + 2, none⟩) (by show w3.heap.size ≤ g; omega) (.int .i64 (1 - (varsK false K)[k].label))
  replace hBg := hBg.drew
  replace hT := hT.below (Below.refl _ _).drew
  have bf5 : Box3 _ N _ _ _ := (bf3'.below hB4).other (M := g) (o := k * 4 + 2) (by omega) (.int .i64 (1 - (varsK false K)[k].label))
  replace bf5 := bf5.drew
  have bg5 := bg4.other (M := g) (o := k * 4 + 2) (by omega) (.int .i64 (1 - (varsK false K)[k].label))
  replace bg5 := bg5.drew
  have hM5 := oMay (turned (faceK false m K) k) _ _ (lexs.hasErr_below hH3'.1 hBg) hT
  rw [hMay] at hM5
  have hS5 := fun W (hb : Below ((((w4.alloc (.cells #[.string m, .slice (some ⟨g, 0, none⟩) L cv', .slice ap' P'.length cp'] 38)).alloc (.cells #[.int .i64 0, .int .i64 0] 27)).setCell ⟨g, k * 4 + 2, none⟩ (.int .i64 (1 - (varsK false K)[k].label)))).drew.heap.size _ W) => oSame (faceK false m K) (turned (faceK false m K) k) _ _ W ((hFI3.below hBg).below hb) (hT.below hb)
  rw [hSam] at hS5
  have HZ : Hid (Below w.heap.size w w3) := hZ3
  have hlb : 0 ≤ (varsK false K)[k].label ∧ (varsK false K)[k].label ≤ 1 := by
    have h1 : (varsK false K).all mayVarB = true := by
      unfold mayB at hmay
      simp only [Bool.and_eq_true] at hmay
      exact hmay.2.2.1
    have h2 := List.all_eq_true.1 h1 _ (List.getElem_mem hkV)
    unfold mayVarB labelB at h2
    simp only [Bool.and_eq_true, Bool.or_eq_true, beq_iff_eq] at h2
    omega
  have HBg : Hid _ := hBg
  have hne1 : g ≠ N := by omega
  have hne2 : g ≠ w4.heap.size := by omega
  clear hT hMay hSam hBg hF4 hov hlt hH4 bf3' hH3' hFI3 hFI4 hmay hl hP hn hZ3 hB4 hb4 hB'
  go_wp2
  clear t0 t1 t2
  generalize (varsK false K)[k].label = lb at *
  generalize (w4.alloc (.cells #[.string m, .slice (some ⟨g, 0, none⟩) L cv', .slice ap' P'.length cp'] 38)).alloc (.cells #[.int .i64 0, .int .i64 0] 27) = W4 at *
  generalize w4.heap.size = M at *
  obtain ⟨y0, y1, y2, _, _, _⟩ := id bg4
  clear bg4
  go_region
  all_goals
    generalize (W4.setCell ⟨g, k * 4 + 2, none⟩ (.int .i64 (1 - lb))).drew = W5 at *
    obtain ⟨u0, u1, u2, _, _, _⟩ := id bg5
    clear y0 y1 y2 hcell hfr
    go_wp2_with (fail)
    refine hM5.mono ?_
    rintro e w6 ⟨rfl, hb6⟩
    obtain ⟨v0, v1, v2, _, _, _⟩ := bg5.below hb6
    obtain ⟨z0, z1, z2, _, _, _⟩ := bf5.below hb6
    have hS6 := hS5 w6 hb6
    clear hS5 hM5 u0 u1 u2
    go_wp2_with (go_at_call 18; refine hS6.mono ?_; rintro e w7 ⟨rfl, hb7⟩)
    go_ret
    exact ⟨rfl, (HZ.out.trans (HBg.out.mono HZ.out.size)).trans ((hb6.trans (hb7.mono hb6.size)).mono (HZ.out.trans (HBg.out.mono HZ.out.size)).size)⟩
end Go.Proofs.YtchhpinmoagkhaaGreatDoor.face
