/- What the linker's tryRelocs answers: a contract. (Written by mkrel.py: edit that.) -/
import Derived.Test.YtmkknnofeebknaaDoorLSLnkImp
namespace Go.Proofs.YtmkknnofeebknaaDoor.lnk
open Go.RowKit Go.Maps Go.WideMaps
open Go.Proofs.YtmkknnofeebknaaDoor.syn (isName eqS)
open Go.Proofs.YtmkknnofeebknaaDoor.mac (BoxC Ins grown_of_below)
open Go.Proofs.YtmkknnofeebknaaDoor.ord (tkd putd)
open Go.Proofs.YtmkknnofeebknaaDoor.obj (ObjD PlcD RelD Vals ObjAt PlcsIn RelsIn objV relV)
open Go.Proofs.YtmkknnofeebknaaDoor.face (VarD ProcD FaceD FaceIn keep VarsIn ProcsIn)
set_option linter.unusedVariables false
set_option linter.unusedSimpArgs false
set_option maxRecDepth 100000
/-- what is wrong first with the relocs of one object, and of all -/
def relO (fb : Thg → Option Int) (o : ObjD) (i : Int) : Int → List RelD → Option (Int × Int × Int)
  | _, [] => none
  | j, r :: rs => if ((fb (askedF o r)).isSome && knowsF o r) = true then relO fb o i (j + 1) rs else some (i, 4, j)
def relT (fb : Thg → Option Int) : Int → List ObjD → Option (Int × Int × Int)
  | _, [] => none
  | i, o :: r => (relO fb o i 0 o.relocs).or (relT fb (i + 1) r)
theorem relT_at {f : Thg → Option Int} {i : Nat} {l : List ObjD} (h : i < l.length) : relT f i (l.drop i) = (relO f l[i] i 0 l[i].relocs).or (relT f ((i + 1 : Nat) : Int) (l.drop (i + 1))) := by
  rw [List.drop_eq_getElem_cons h]
  rfl
theorem relO_at {f : Thg → Option Int} {o : ObjD} {i : Int} {k : Nat} {l : List RelD} (h : k < l.length) : relO f o i k (l.drop k) = if ((f (askedF o l[k])).isSome && knowsF o l[k]) = true then relO f o i ((k + 1 : Nat) : Int) (l.drop (k + 1)) else some (i, 4, (k : Int)) := by
  rw [List.drop_eq_getElem_cons h]
  rfl
/-- relocs such as may be -/
structure RelOk (o : ObjD) (r : RelD) : Prop where
  k : 1 ≤ r.kind ∧ r.kind ≤ 4
  o' : o.face.module.size ≤ 16
  m : r.module.size ≤ 16
  n : r.name.size ≤ 16
theorem RelOk.asked {o : ObjD} {r : RelD} (h : RelOk o r) : (askedF o r).ok := by
  unfold askedF
  have h1 := h.o'
  have h2 := h.m
  have h3 := h.n
  split
  · exact ⟨wf4 (k := 1) ⟨by decide, by decide⟩, by unfold maxLen; dsimp only; omega, by unfold maxLen; show (⟨#[]⟩ : ByteArray).size ≤ _; decide⟩
  · exact ⟨wf4 h.k, by unfold maxLen; dsimp only; omega, by unfold maxLen; dsimp only; omega⟩
set_option maxHeartbeats 4000000 in
theorem oTryRelocs {w0 w : World} {p : Pl} {s : St} {cv : Value} {nm nb : Nat} {l : List ObjD} (h : LS w p s cv nm nb) (hB : Below w0.heap.size w0 w) (ho : ObjsIn w0 p.ov l) (hnm : ∀ o ∈ l, ∀ q ∈ o.relocs, RelOk o q) :
    Calls Tryd.prog 8 #[.pointer (some ⟨p.K, 0, none⟩)] w (ImpE w (relT s.begs 0 l)) := by
  have c13 : Tryd.prog.cellsOf 39 = 13 := by kernel_rfl
  have c4 : Tryd.prog.cellsOf 54 = 4 := by kernel_rfl
  have m3 := h.ob
  obtain ⟨oa, oc, hov, hll, hoc⟩ := ho
  rw [hov] at m3
  obtain ⟨T, hT⟩ : ∃ T, T = relT s.begs 0 l := ⟨_, rfl⟩
  rw [← hT]
  replace hT : Hid (T = relT s.begs ((0 : Nat) : Int) (l.drop 0)) := hT
  go_enter Tryd.func8, Tryd.ntmps8
  go_wp2
  go_loopw [13] (fun t wr => ∃ i : Nat, i ≤ l.length ∧ t = .int .i64 i ∧ Below w.heap.size w wr ∧ Hid (T = relT s.begs (i : Int) (l.drop i))) (fun t _ => l.length - (intOf t).toNat)
  case atStart => exact ⟨0, Nat.zero_le _, rfl, Below.refl _ _, hT⟩
  case round =>
    clear hT
    obtain ⟨i, hi, rfl, hBr, HT⟩ := hrel
    by_cases hlt : i < l.length
    · obtain ⟨g, o, rfl, hcc⟩ := hoc (by intro e; rw [e] at hlt; simp at hlt)
      obtain ⟨x, hat, hcs⟩ := hcc i hlt
      have hB1 := hB.trans (hBr.mono hB.size)
      have hcs1 := hcs.below hB1
      have hnm1 := hnm l[i] (List.getElem_mem hlt)
      obtain ⟨a1, c1, a2, c2, a3, c3', a4, c4', a5, c5, a6, c6, a7, c7, a8, c8, rfl⟩ := hat.shape
      obtain ⟨y0, y1, y2, y3, y4, y5, y6, y7, y8, y9, y10, y11, y12⟩ := hcs1
      dsimp only at y1 y2 y3 y4 y5 y6 y7 y8
      have him := hat.rels
      dsimp only at him
      have HI : Hid (T = (relO s.begs l[i] (i : Int) ((0 : Nat) : Int) (l[i].relocs.drop 0)).or (relT s.begs ((i + 1 : Nat) : Int) (l.drop (i + 1)))) := by show _ = _; rw [HT.out, relT_at hlt]; rfl
      clear HT hcc hoc hcs
      generalize hgi : l[i] = d at *
      obtain ⟨T2, hT2⟩ : ∃ T2, T2 = relT s.begs ((i + 1 : Nat) : Int) (l.drop (i + 1)) := ⟨_, rfl⟩
      rw [← hT2] at HI
      replace hT2 : Hid (T2 = relT s.begs ((i + 1 : Nat) : Int) (l.drop (i + 1))) := hT2
      obtain ⟨ia, ic, hia, hil, hic⟩ := him
      simp only [Value.slice.injEq, true_and] at hia
      obtain ⟨rfl, rfl⟩ := hia
      have hBin : Below w.heap.size w (wr.alloc (.cells #[.string d.face.module, .slice a1 d.face.vars.length c1, .slice a2 d.face.procs.length c2, .slice a3 d.imports.length c3', .slice a4 d.code.length c4', .slice a5 d.relocs.length c5, .slice a6 d.procs.length c6, .slice a7 d.lows.length c7, .slice a8 d.highs.length c8, .int .i64 d.low, .int .i64 d.high, .int .i64 d.lowF, .int .i64 d.highF] 39)) := hBr.alloc hBr.size _
      have hbo := BoxC.new wr #[.string d.face.module, .slice a1 d.face.vars.length c1, .slice a2 d.face.procs.length c2, .slice a3 d.imports.length c3', .slice a4 d.code.length c4', .slice a5 d.relocs.length c5, .slice a6 d.procs.length c6, .slice a7 d.lows.length c7, .slice a8 d.highs.length c8, .int .i64 d.low, .int .i64 d.high, .int .i64 d.lowF, .int .i64 d.highF] 39
      go_wp2
      generalize wr.heap.size = B1 at *
      go_loopw [21] (fun t wr => ∃ k : Nat, k ≤ d.relocs.length ∧ t = .int .i64 k ∧ Below w.heap.size w wr ∧ BoxC wr B1 #[.string d.face.module, .slice a1 d.face.vars.length c1, .slice a2 d.face.procs.length c2, .slice a3 d.imports.length c3', .slice a4 d.code.length c4', .slice a5 d.relocs.length c5, .slice a6 d.procs.length c6, .slice a7 d.lows.length c7, .slice a8 d.highs.length c8, .int .i64 d.low, .int .i64 d.high, .int .i64 d.lowF, .int .i64 d.highF] 39 ∧ Hid (T = (relO s.begs d (i : Int) (k : Int) (d.relocs.drop k)).or T2)) (fun t _ => d.relocs.length - (intOf t).toNat)
      case atStart => exact ⟨0, Nat.zero_le _, rfl, hBin, hbo, HI⟩
      case round =>
        clear HI hBin hBr hB1 hbo
        obtain ⟨k, hk, rfl, hBr, hbo, HI⟩ := hrel
        by_cases hkl : k < d.relocs.length
        · obtain ⟨g2, o2, rfl, hcc⟩ := hic (by intro e; rw [e] at hkl; simp at hkl)
          obtain ⟨k0, k1, k2, k3⟩ := hcc k hkl
          have hB1 := hB.trans (hBr.mono hB.size)
          replace k0 := keep k0 hB1
          replace k1 := keep k1 hB1
          replace k2 := keep k2 hB1
          replace k3 := keep k3 hB1
          have hqn := hnm1 _ (List.getElem_mem hkl)
          have HO := relO_at (f := s.begs) (o := d) (i := (i : Int)) hkl
          rw [HO] at HI
          clear HO hcc hic
          generalize d.relocs[k] = q at *
          have hI2 := (h.below hBr).alloc (.cells #[.int .i64 q.at', .int .i64 q.kind, .string q.module, .string q.name] 54)
          have hbo2 := hbo.alloc (.cells #[.int .i64 q.at', .int .i64 q.kind, .string q.module, .string q.name] 54)
          have hbx := BoxC.new wr #[.int .i64 q.at', .int .i64 q.kind, .string q.module, .string q.name] 54
          have hGz := hBr.alloc hBr.size (.cells #[.int .i64 q.at', .int .i64 q.kind, .string q.module, .string q.name] 54)
          have hwr : w.heap.size ≤ wr.heap.size := hBr.size
          have hok := hqn.asked
          go_wp2
          refine wp_region_held_drew (S := fun W => LS W p s cv nm nb ∧ BoxC W B1 #[.string d.face.module, .slice a1 d.face.vars.length c1, .slice a2 d.face.procs.length c2, .slice a3 d.imports.length c3', .slice a4 d.code.length c4', .slice (some ⟨g2, o2, none⟩) d.relocs.length c5, .slice a6 d.procs.length c6, .slice a7 d.lows.length c7, .slice a8 d.highs.length c8, .int .i64 d.low, .int .i64 d.high, .int .i64 d.lowF, .int .i64 d.highF] 39 ∧ BoxC W wr.heap.size #[.int .i64 q.at', .int .i64 q.kind, .string q.module, .string q.name] 54) (by kernel_rfl) ⟨hI2.drew, hbo2.below (Below.refl _ _).drew, hbx.below (Below.refl _ _).drew⟩ (fun hS => ?_)
          replace hGz := hGz.drew
          generalize (wr.alloc (.cells #[.int .i64 q.at', .int .i64 q.kind, .string q.module, .string q.name] 54)).drew = W at hGz hS ⊢
          generalize wr.heap.size = B at *
          clear hI2 hbx hbo2
          refine tkd (i := 0) (v := .pointer (some ⟨p.K, 0, none⟩)) rfl rfl (by kernel_rfl) (by kernel_rfl) (by kernel_rfl) (fun _ _ _ h => h) (Or.inl ⟨by rfl, fun wq hSw => by skip; go_simp⟩) hS ?_
          simp only [List.setIfInBounds_toArray, List.set_cons_zero, List.set_cons_succ]
          refine tkd (i := 1) (v := .pointer (some ⟨p.K, 0, none⟩)) rfl rfl (by kernel_rfl) (by kernel_rfl) (by kernel_rfl) (fun _ _ _ h => h) (Or.inl ⟨by rfl, fun wq hSw => by skip; go_simp⟩) hS ?_
          simp only [List.setIfInBounds_toArray, List.set_cons_zero, List.set_cons_succ]
          refine tkd (i := 2) (v := .pointer (some ⟨p.K, 5, none⟩)) rfl rfl (by kernel_rfl) (by kernel_rfl) (by kernel_rfl) (fun _ _ _ h => h) (Or.inl ⟨by rfl, fun wq hSw => by skip; go_simp⟩) hS ?_
          simp only [List.setIfInBounds_toArray, List.set_cons_zero, List.set_cons_succ]
          refine tkd (i := 3) (v := .map (some p.bb)) rfl rfl (by kernel_rfl) (by kernel_rfl) (by kernel_rfl) (fun _ _ _ h => h) (Or.inl ⟨by rfl, fun wq hSw => by have m := hSw.1.be; go_simp⟩) hS ?_
          simp only [List.setIfInBounds_toArray, List.set_cons_zero, List.set_cons_succ]
          refine tkd (i := 4) (v := .agg #[.string d.face.module, .slice a1 d.face.vars.length c1, .slice a2 d.face.procs.length c2, .slice a3 d.imports.length c3', .slice a4 d.code.length c4', .slice (some ⟨g2, o2, none⟩) d.relocs.length c5, .slice a6 d.procs.length c6, .slice a7 d.lows.length c7, .slice a8 d.highs.length c8, .int .i64 d.low, .int .i64 d.high, .int .i64 d.lowF, .int .i64 d.highF] ) rfl rfl (by kernel_rfl) (by kernel_rfl) (by kernel_rfl) (fun _ _ _ h => h) (Or.inl ⟨by rfl, fun wq hSw => by have z0 := hSw.2.1.cell 0 rfl; have z1 := hSw.2.1.cell 1 rfl; have z2 := hSw.2.1.cell 2 rfl; have z3 := hSw.2.1.cell 3 rfl; have z4 := hSw.2.1.cell 4 rfl; have z5 := hSw.2.1.cell 5 rfl; have z6 := hSw.2.1.cell 6 rfl; have z7 := hSw.2.1.cell 7 rfl; have z8 := hSw.2.1.cell 8 rfl; have z9 := hSw.2.1.cell 9 rfl; have z10 := hSw.2.1.cell 10 rfl; have z11 := hSw.2.1.cell 11 rfl; have z12 := hSw.2.1.cell 12 rfl; go_simp⟩) hS ?_
          simp only [List.setIfInBounds_toArray, List.set_cons_zero, List.set_cons_succ]
          refine tkd (i := 5) (v := .agg #[.int .i64 q.at', .int .i64 q.kind, .string q.module, .string q.name] ) rfl rfl (by kernel_rfl) (by kernel_rfl) (by kernel_rfl) (fun _ _ _ h => h) (Or.inl ⟨by rfl, fun wq hSw => by have z0 := hSw.2.2.cell 0 rfl; have z1 := hSw.2.2.cell 1 rfl; have z2 := hSw.2.2.cell 2 rfl; have z3 := hSw.2.2.cell 3 rfl; go_simp⟩) hS ?_
          simp only [List.setIfInBounds_toArray, List.set_cons_zero, List.set_cons_succ]
          have hBW := hB.trans (hGz.mono hB.size)
          have hC := oAsked d ⟨.slice a1 d.face.vars.length c1, .slice a2 d.face.procs.length c2, .slice a3 d.imports.length c3', .slice a4 d.code.length c4', .slice (some ⟨g2, o2, none⟩) d.relocs.length c5, .slice a6 d.procs.length c6, .slice a7 d.lows.length c7, .slice a8 d.highs.length c8⟩ q W (hat.below hBW)
          unfold objV relV at hC
          dsimp only at hC
          refine wpAnyH_ready (rs := [6]) (by kernel_rfl) (by simp) ?_
          refine AllReadyH.cons rfl (fun K hK => ?_) AllReadyH.nil
          go_simp
          go_at_call 18
          refine hC.mono ?_
          rintro e w1 ⟨rfl, hb1⟩
          clear hC
          replace hGz := hGz.trans (hb1.mono hGz.size)
          replace hS : LS w1 p s cv nm nb ∧ BoxC w1 B1 #[.string d.face.module, .slice a1 d.face.vars.length c1, .slice a2 d.face.procs.length c2, .slice a3 d.imports.length c3', .slice a4 d.code.length c4', .slice (some ⟨g2, o2, none⟩) d.relocs.length c5, .slice a6 d.procs.length c6, .slice a7 d.lows.length c7, .slice a8 d.highs.length c8, .int .i64 d.low, .int .i64 d.high, .int .i64 d.lowF, .int .i64 d.highF] 39 ∧ BoxC w1 B #[.int .i64 q.at', .int .i64 q.kind, .string q.module, .string q.name] 54 := ⟨hS.1.below hb1, hS.2.1.below hb1, hS.2.2.below hb1⟩
          go_wp2
          refine hK.out _ _ hS (fun _ => ?_)
          clear hK K hb1 hBW
          have hlk : ∀ wq, LS wq p s cv nm nb → (Instr.lookup 44 (.map (some p.bb)) (thgV (askedF d q)) true).run Tryd.prog wq = .ok (.tuple #[.int .i64 ((s.begs (askedF d q)).getD 0), .bool (s.begs (askedF d q)).isSome]) wq := fun wq h => h.bm.run_look_ok _ hok
          generalize s.begs (askedF d q) = G at *
          refine tkd (i := 7) (v := .tuple #[.int .i64 (G.getD 0), .bool G.isSome] ) rfl rfl (by kernel_rfl) (by kernel_rfl) (by kernel_rfl) (fun _ _ _ h => h) (Or.inl ⟨by rfl, fun wq hSw => by have m := hlk wq hSw.1; go_simp⟩) hS ?_
          simp only [List.setIfInBounds_toArray, List.set_cons_zero, List.set_cons_succ]
          refine tkd (i := 8) (v := .tuple #[.int .i64 (G.getD 0), .bool G.isSome] ) rfl rfl (by kernel_rfl) (by kernel_rfl) (by kernel_rfl) (fun _ _ _ h => h) (Or.inl ⟨by rfl, fun wq hSw => by skip; go_simp⟩) hS ?_
          simp only [List.setIfInBounds_toArray, List.set_cons_zero, List.set_cons_succ]
          refine tkd (i := 9) (v := .int .i64 (G.getD 0)) rfl rfl (by kernel_rfl) (by kernel_rfl) (by kernel_rfl) (fun _ _ _ h => h) (Or.inl ⟨by rfl, fun wq hSw => by skip; go_simp⟩) hS ?_
          simp only [List.setIfInBounds_toArray, List.set_cons_zero, List.set_cons_succ]
          refine tkd (i := 10) (v := .bool G.isSome) rfl rfl (by kernel_rfl) (by kernel_rfl) (by kernel_rfl) (fun _ _ _ h => h) (Or.inl ⟨by rfl, fun wq hSw => by skip; go_simp⟩) hS ?_
          simp only [List.setIfInBounds_toArray, List.set_cons_zero, List.set_cons_succ]
          refine tkd (i := 11) (v := .int .i64 (G.getD 0)) rfl rfl (by kernel_rfl) (by kernel_rfl) (by kernel_rfl) (fun _ _ _ h => h) (Or.inl ⟨by rfl, fun wq hSw => by skip; go_simp⟩) hS ?_
          simp only [List.setIfInBounds_toArray, List.set_cons_zero, List.set_cons_succ]
          refine tkd (i := 12) (v := .bool G.isSome) rfl rfl (by kernel_rfl) (by kernel_rfl) (by kernel_rfl) (fun _ _ _ h => h) (Or.inl ⟨by rfl, fun wq hSw => by skip; go_simp⟩) hS ?_
          simp only [List.setIfInBounds_toArray, List.set_cons_zero, List.set_cons_succ]
          refine wpAnyH_done (by kernel_rfl) ?_ _
          clear hlk
          cases G with
          | none =>
            have HR : Hid (T = some ((i : Int), 4, (k : Int))) := HI.out
            clear HI
            go_wp2_with (fail)
            refine (oRefuse _ _ _ _).mono ?_
            rintro e w9 ⟨rfl, rfl⟩
            go_wp2
            exact ⟨rfl, hGz, EndT.yes HR.out⟩
          | some gv =>
            have hBW := hB.trans (hGz.mono hB.size)
            have hC := oKnows d ⟨.slice a1 d.face.vars.length c1, .slice a2 d.face.procs.length c2, .slice a3 d.imports.length c3', .slice a4 d.code.length c4', .slice (some ⟨g2, o2, none⟩) d.relocs.length c5, .slice a6 d.procs.length c6, .slice a7 d.lows.length c7, .slice a8 d.highs.length c8⟩ q w1 (hat.below hBW)
            unfold objV relV at hC
            dsimp only at hC
            have z0 := hS.2.1.cell 0 rfl
            have z1 := hS.2.1.cell 1 rfl
            have z2 := hS.2.1.cell 2 rfl
            have z3 := hS.2.1.cell 3 rfl
            have z4 := hS.2.1.cell 4 rfl
            have z5 := hS.2.1.cell 5 rfl
            have z6 := hS.2.1.cell 6 rfl
            have z7 := hS.2.1.cell 7 rfl
            have z8 := hS.2.1.cell 8 rfl
            have z9 := hS.2.1.cell 9 rfl
            have z10 := hS.2.1.cell 10 rfl
            have z11 := hS.2.1.cell 11 rfl
            have z12 := hS.2.1.cell 12 rfl
            have x0 := hS.2.2.cell 0 rfl
            have x1 := hS.2.2.cell 1 rfl
            have x2 := hS.2.2.cell 2 rfl
            have x3 := hS.2.2.cell 3 rfl
            cases hkn : knowsF d q
            · rw [hkn] at hC
              have HR : Hid (T = some ((i : Int), 4, (k : Int))) := by show _ = _; rw [HI.out]; simp [hkn]
              clear HI
              go_wp2_with (fail)
              refine hC.mono ?_
              rintro e w8 ⟨rfl, hb8⟩
              go_wp2_with (fail)
              refine (oRefuse _ _ _ _).mono ?_
              rintro e w9 ⟨rfl, rfl⟩
              go_wp2
              exact ⟨rfl, hGz.trans (hb8.mono hGz.size), EndT.yes HR.out⟩
            · rw [hkn] at hC
              have HR : Hid (T = (relO s.begs d (i : Int) ((k + 1 : Nat) : Int) (d.relocs.drop (k + 1))).or T2) := by show _ = _; rw [HI.out]; simp [hkn]
              clear HI
              go_wp2_with (fail)
              refine hC.mono ?_
              rintro e w8 ⟨rfl, hb8⟩
              have hbF := hS.2.1.below hb8
              go_wp2
              exact ⟨⟨k + 1, by omega, by go_num, hGz.trans (hb8.mono hGz.size), hbF, HR⟩, by simp [intOf]; omega⟩
        · have HN : Hid (T = T2) := by show _ = _; rw [HI.out, List.drop_eq_nil_of_le (by omega)]; rfl
          clear HI
          go_wp2
          refine ⟨⟨i + 1, by omega, by go_num, hBr, by show _ = _; rw [HN.out, hT2.out]⟩, by simp [intOf]; omega⟩
    · have HN : Hid (T = none) := by show _ = _; rw [HT.out, List.drop_eq_nil_of_le (by omega)]; rfl
      clear HT
      go_wp2
      go_end0
      exact ⟨hBr, EndT.no HN.out⟩
end Go.Proofs.YtmkknnofeebknaaDoor.lnk
