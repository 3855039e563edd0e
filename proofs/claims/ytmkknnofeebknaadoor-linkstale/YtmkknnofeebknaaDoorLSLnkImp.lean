/- What the linker's tryImports answers: a contract. -/
import Derived.Test.YtmkknnofeebknaaDoorLSLnkObj
namespace Go.Proofs.YtmkknnofeebknaaDoor.lnk
open Go.RowKit Go.Maps Go.WideMaps
open Go.Proofs.YtmkknnofeebknaaDoor.syn (isName eqS)
open Go.Proofs.YtmkknnofeebknaaDoor.mac (BoxC Ins grown_of_below)
open Go.Proofs.YtmkknnofeebknaaDoor.ord (tkd putd)
open Go.Proofs.YtmkknnofeebknaaDoor.obj (ObjD PlcD RelD Vals ObjAt PlcsIn objV)
open Go.Proofs.YtmkknnofeebknaaDoor.face (VarD ProcD FaceD FaceIn keep VarsIn ProcsIn)
set_option linter.unusedVariables false
set_option linter.unusedSimpArgs false
set_option maxRecDepth 100000
/-- all stays, and a trouble is thrown or none -/
def ImpE (w : World) (t : Option (Int × Int × Int)) (e : Ending) (w' : World) : Prop := Below w.heap.size w w' ∧ EndT t e
set_option maxHeartbeats 4000000 in
theorem oTryImports {w0 w : World} {p : Pl} {s : St} {cv : Value} {nm nb : Nat} {f : ByteArray → Option FaceD} {l : List ObjD} (h : LS w p s cv nm nb) (hB : Below w0.heap.size w0 w) (ho : ObjsIn w0 p.ov l) (hf : FM w0 s.mods f) (hnm : ∀ o ∈ l, ∀ q ∈ o.imports, q.module.size ≤ 16) :
    Calls Tryd.prog 7 #[.pointer (some ⟨p.K, 0, none⟩)] w (ImpE w (impT f 0 l)) := by
  have c13 : Tryd.prog.cellsOf 39 = 13 := by kernel_rfl
  have c3 : Tryd.prog.cellsOf 34 = 3 := by kernel_rfl
  have m3 := h.ob
  obtain ⟨oa, oc, hov, hll, hoc⟩ := ho
  rw [hov] at m3
  obtain ⟨T, hT⟩ : ∃ T, T = impT f 0 l := ⟨_, rfl⟩
  rw [← hT]
  replace hT : Hid (T = impT f ((0 : Nat) : Int) (l.drop 0)) := hT
  go_enter Tryd.func7, Tryd.ntmps7
  go_wp2
  go_loopw [13] (fun t wr => ∃ i : Nat, i ≤ l.length ∧ t = .int .i64 i ∧ Below w.heap.size w wr ∧ Hid (T = impT f (i : Int) (l.drop i))) (fun t _ => l.length - (intOf t).toNat)
  case atStart => exact ⟨0, Nat.zero_le _, rfl, Below.refl _ _, hT⟩
  case round =>
    clear hT
    obtain ⟨i, hi, rfl, hBr, HT⟩ := hrel
    by_cases hlt : i < l.length
    · obtain ⟨g, o, rfl, hcc⟩ := hoc (by intro e; rw [e] at hlt; simp at hlt)
      obtain ⟨x, hat, hcs⟩ := hcc i hlt
      have hB1 := hB.trans (hBr.mono hB.size)
      have hat1 := hat.below hB1
      have hcs1 := hcs.below hB1
      have hnm1 := hnm l[i] (List.getElem_mem hlt)
      obtain ⟨a1, c1, a2, c2, a3, c3', a4, c4', a5, c5, a6, c6, a7, c7, a8, c8, rfl⟩ := hat1.shape
      obtain ⟨y0, y1, y2, y3, y4, y5, y6, y7, y8, y9, y10, y11, y12⟩ := hcs1
      dsimp only at y1 y2 y3 y4 y5 y6 y7 y8
      have him := hat.imps
      dsimp only at him
      have HI : Hid (T = (impO f (i : Int) ((0 : Nat) : Int) (l[i].imports.drop 0)).or (impT f ((i + 1 : Nat) : Int) (l.drop (i + 1)))) := by show _ = _; rw [HT.out, impT_at hlt]; rfl
      clear HT hcc hoc hat1 hcs hat
      generalize hgi : l[i] = d at *
      obtain ⟨T2, hT2⟩ : ∃ T2, T2 = impT f ((i + 1 : Nat) : Int) (l.drop (i + 1)) := ⟨_, rfl⟩
      rw [← hT2] at HI
      replace hT2 : Hid (T2 = impT f ((i + 1 : Nat) : Int) (l.drop (i + 1))) := hT2
      obtain ⟨ia, ic, hia, hil, hic⟩ := him
      simp only [Value.slice.injEq, true_and] at hia
      obtain ⟨rfl, rfl⟩ := hia
      have hBin : Below w.heap.size w (wr.alloc (.cells #[.string d.face.module, .slice a1 d.face.vars.length c1, .slice a2 d.face.procs.length c2, .slice a3 d.imports.length c3', .slice a4 d.code.length c4', .slice a5 d.relocs.length c5, .slice a6 d.procs.length c6, .slice a7 d.lows.length c7, .slice a8 d.highs.length c8, .int .i64 d.low, .int .i64 d.high, .int .i64 d.lowF, .int .i64 d.highF] 39)) := hBr.alloc hBr.size _
      go_wp2
      go_loopw [21] (fun t wr => ∃ k : Nat, k ≤ d.imports.length ∧ t = .int .i64 k ∧ Below w.heap.size w wr ∧ Hid (T = (impO f (i : Int) (k : Int) (d.imports.drop k)).or T2)) (fun t _ => d.imports.length - (intOf t).toNat)
      case atStart => exact ⟨0, Nat.zero_le _, rfl, hBin, HI⟩
      case round =>
        clear HI hBin hBr hB1
        obtain ⟨k, hk, rfl, hBr, HI⟩ := hrel
        by_cases hkl : k < d.imports.length
        · obtain ⟨g2, o2, rfl, hcc⟩ := hic (by intro e; rw [e] at hkl; simp at hkl)
          obtain ⟨k0, ⟨y, k1, hy⟩, ⟨z, k2, hz⟩⟩ := hcc k hkl
          have hB1 := hB.trans (hBr.mono hB.size)
          replace k0 := keep k0 hB1
          replace k1 := keep k1 hB1
          replace k2 := keep k2 hB1
          have hqn := hnm1 _ (List.getElem_mem hkl)
          have HO := impO_at (f := f) (i := (i : Int)) hkl
          obtain ⟨ya, yc, rfl⟩ : ∃ a c, y = .slice a d.imports[k].vars.length c := by obtain ⟨a, c, e, _⟩ := hy; exact ⟨a, c, e⟩
          obtain ⟨za, zc, rfl⟩ : ∃ a c, z = .slice a d.imports[k].procs.length c := by obtain ⟨a, c, e, _⟩ := hz; exact ⟨a, c, e⟩
          rw [HO] at HI
          clear HO hcc hic
          generalize d.imports[k] = q at *
          have hI2 := (h.below hBr).alloc (.cells #[.string q.module, .slice ya q.vars.length yc, .slice za q.procs.length zc] 34)
          have hbx := BoxC.new wr #[.string q.module, .slice ya q.vars.length yc, .slice za q.procs.length zc] 34
          have hGz := hBr.alloc hBr.size (.cells #[.string q.module, .slice ya q.vars.length yc, .slice za q.procs.length zc] 34)
          have hfq := hf q.module
          have hlen16 : q.module.size ≤ maxLen := by unfold maxLen; omega
          have hwr : w.heap.size ≤ wr.heap.size := hBr.size
          rcases hfq with ⟨hm1, hm2⟩ | ⟨v, fd, hm1, hm2, hm3⟩
          · rw [hm2] at HI
            have HR : Hid (T = some ((i : Int), 4, (k : Int))) := HI.out
            have hlk : ∀ wq, LS wq p s cv nm nb → (Instr.lookup 43 (.map (some p.mb)) (.string q.module) true).run Tryd.prog wq = .ok (.tuple #[.agg #[.string ⟨#[]⟩, .slice none 0 0, .slice none 0 0], .bool false]) wq := fun wq h => by
              have m := h.mm.run_look_ok q.module hlen16
              rw [hm1] at m
              exact m
            clear HI
            go_wp2
            refine wp_region_held_drew (S := fun W => LS W p s cv nm nb ∧ BoxC W wr.heap.size #[.string q.module, .slice ya q.vars.length yc, .slice za q.procs.length zc] 34) (by kernel_rfl) ⟨hI2.drew, hbx.below (Below.refl _ _).drew⟩ (fun hS => ?_)
            replace hGz := hGz.drew
            have hBW : wr.heap.size < (wr.alloc (.cells #[.string q.module, .slice ya q.vars.length yc, .slice za q.procs.length zc] 34)).drew.heap.size := by show wr.heap.size < (wr.alloc _).heap.size; simp
            generalize (wr.alloc (.cells #[.string q.module, .slice ya q.vars.length yc, .slice za q.procs.length zc] 34)).drew = W at hGz hS hBW ⊢
            generalize wr.heap.size = B at *
            clear hI2 hbx
            refine tkd (i := 0) (v := .pointer (some ⟨p.K, 0, none⟩)) rfl rfl (by kernel_rfl) (by kernel_rfl) (by kernel_rfl) (fun _ _ _ h => h) (Or.inl ⟨by rfl, fun wq hSw => by skip; go_simp⟩) hS ?_
            simp only [List.setIfInBounds_toArray, List.set_cons_zero, List.set_cons_succ]
            refine tkd (i := 1) (v := .pointer (some ⟨p.K, 0, none⟩)) rfl rfl (by kernel_rfl) (by kernel_rfl) (by kernel_rfl) (fun _ _ _ h => h) (Or.inl ⟨by rfl, fun wq hSw => by skip; go_simp⟩) hS ?_
            simp only [List.setIfInBounds_toArray, List.set_cons_zero, List.set_cons_succ]
            refine tkd (i := 2) (v := .pointer (some ⟨p.K, 4, none⟩)) rfl rfl (by kernel_rfl) (by kernel_rfl) (by kernel_rfl) (fun _ _ _ h => h) (Or.inl ⟨by rfl, fun wq hSw => by skip; go_simp⟩) hS ?_
            simp only [List.setIfInBounds_toArray, List.set_cons_zero, List.set_cons_succ]
            refine tkd (i := 3) (v := .map (some p.mb)) rfl rfl (by kernel_rfl) (by kernel_rfl) (by kernel_rfl) (fun _ _ _ h => h) (Or.inl ⟨by rfl, fun wq hSw => by have m := hSw.1.mo; go_simp⟩) hS ?_
            simp only [List.setIfInBounds_toArray, List.set_cons_zero, List.set_cons_succ]
            refine tkd (i := 4) (v := .pointer (some ⟨B, 0, none⟩)) rfl rfl (by kernel_rfl) (by kernel_rfl) (by kernel_rfl) (fun _ _ _ h => h) (Or.inl ⟨by rfl, fun wq hSw => by skip; go_simp⟩) hS ?_
            simp only [List.setIfInBounds_toArray, List.set_cons_zero, List.set_cons_succ]
            refine tkd (i := 5) (v := .string q.module) rfl rfl (by kernel_rfl) (by kernel_rfl) (by kernel_rfl) (fun _ _ _ h => h) (Or.inl ⟨by rfl, fun wq hSw => by have m := hSw.2.cell 0 rfl; go_simp⟩) hS ?_
            simp only [List.setIfInBounds_toArray, List.set_cons_zero, List.set_cons_succ]
            refine tkd (i := 6) (v := .tuple #[.agg #[.string ⟨#[]⟩, .slice none 0 0, .slice none 0 0] , .bool false] ) rfl rfl (by kernel_rfl) (by kernel_rfl) (by kernel_rfl) (fun _ _ _ h => h) (Or.inl ⟨by rfl, fun wq hSw => by have m := hlk wq hSw.1; go_simp⟩) hS ?_
            simp only [List.setIfInBounds_toArray, List.set_cons_zero, List.set_cons_succ]
            refine tkd (i := 7) (v := .tuple #[.agg #[.string ⟨#[]⟩, .slice none 0 0, .slice none 0 0] , .bool false] ) rfl rfl (by kernel_rfl) (by kernel_rfl) (by kernel_rfl) (fun _ _ _ h => h) (Or.inl ⟨by rfl, fun wq hSw => by skip; go_simp⟩) hS ?_
            simp only [List.setIfInBounds_toArray, List.set_cons_zero, List.set_cons_succ]
            refine tkd (i := 8) (v := .agg #[.string ⟨#[]⟩, .slice none 0 0, .slice none 0 0]  ) rfl rfl (by kernel_rfl) (by kernel_rfl) (by kernel_rfl) (fun _ _ _ h => h) (Or.inl ⟨by rfl, fun wq hSw => by skip; go_simp⟩) hS ?_
            simp only [List.setIfInBounds_toArray, List.set_cons_zero, List.set_cons_succ]
            refine tkd (i := 9) (v := .bool false) rfl rfl (by kernel_rfl) (by kernel_rfl) (by kernel_rfl) (fun _ _ _ h => h) (Or.inl ⟨by rfl, fun wq hSw => by skip; go_simp⟩) hS ?_
            simp only [List.setIfInBounds_toArray, List.set_cons_zero, List.set_cons_succ]
            refine wpAnyH_ready (rs := [10]) (by kernel_rfl) (by simp) ?_
            refine AllReadyH.cons rfl (fun K hK => ?_) AllReadyH.nil
            go_simp
            have hN := BoxC.new W #[.string ⟨#[]⟩, .slice none 0 0, .slice none 0 0] 34
            have hltS := hS.1.lt
            replace hGz := hGz.alloc (by have := hGz.size; omega) (.cells #[.string ⟨#[]⟩, .slice none 0 0, .slice none 0 0] 34)
            replace hS : LS (W.alloc (.cells #[.string ⟨#[]⟩, .slice none 0 0, .slice none 0 0] 34)) p s cv nm nb ∧ BoxC (W.alloc (.cells #[.string ⟨#[]⟩, .slice none 0 0, .slice none 0 0] 34)) B #[.string q.module, .slice ya q.vars.length yc, .slice za q.procs.length zc] 34 := ⟨hS.1.alloc _, hS.2.alloc _⟩
            refine hK.out _ _ hS (fun _ => ?_)
            clear hK K
            have hNs : W.heap.size < (W.alloc (.cells #[.string ⟨#[]⟩, .slice none 0 0, .slice none 0 0] 34)).heap.size := by simp
            have hwN : w.heap.size ≤ W.heap.size := by omega
            generalize W.alloc (.cells #[.string ⟨#[]⟩, .slice none 0 0, .slice none 0 0] 34) = W1 at *
            generalize W.heap.size = N at *
            refine wpAnyH_ready (rs := [11]) (by kernel_rfl) (by simp) ?_
            refine AllReadyH.cons rfl (fun K hK => ?_) AllReadyH.nil
            refine step_store_row (by rfl) 34 (.tmp 6) (.tmp 34) (by rfl) N #[.string ⟨#[]⟩, .slice none 0 0, .slice none 0 0]  (by rfl) (by rfl) 34 _ hN (by kernel_rfl) (by rfl) (by kernel_rfl) ?_
            replace hN := box_row (cs := #[.string ⟨#[]⟩, .slice none 0 0, .slice none 0 0] ) hN
            replace hGz := below_row (cs := #[.string ⟨#[]⟩, .slice none 0 0, .slice none 0 0] ) hGz hwN (by omega)
            replace hS : LS (W1.setRow N #[.string ⟨#[]⟩, .slice none 0 0, .slice none 0 0] ) p s cv nm nb ∧ BoxC (W1.setRow N #[.string ⟨#[]⟩, .slice none 0 0, .slice none 0 0] ) B #[.string q.module, .slice ya q.vars.length yc, .slice za q.procs.length zc] 34 := ⟨hS.1.grown (grown_row _ _ _) (by omega) (by omega) (by omega) (fun e => by have := hltS.2.2.2 _ e; omega), (setRow_other _ _ _ _ (by omega)).trans hS.2⟩
            refine hK.out _ _ hS (fun _ => ?_)
            clear hK K
            generalize W1.setRow N #[.string ⟨#[]⟩, .slice none 0 0, .slice none 0 0]  = W2 at *
            simp only [Act.put]
            refine tkd (i := 12) (v := .bool false) rfl rfl (by kernel_rfl) (by kernel_rfl) (by kernel_rfl) (fun _ _ _ h => h) (Or.inl ⟨by rfl, fun wq hSw => by skip; go_simp⟩) hS ?_
            simp only [List.setIfInBounds_toArray, List.set_cons_zero, List.set_cons_succ]
            refine wpAnyH_done (by kernel_rfl) ?_ _
            go_wp2_with (fail)
            refine (oRefuse _ _ _ _).mono ?_
            rintro e w9 ⟨rfl, rfl⟩
            go_wp2
            exact ⟨rfl, hGz, EndT.yes HR.out⟩
          · rw [hm2] at HI
            obtain ⟨vv, pv, rfl, hvv, hpv⟩ := hm3
            obtain ⟨va, vc, rfl⟩ : ∃ a c, vv = .slice a fd.vars.length c := by obtain ⟨a, c, e, _⟩ := hvv; exact ⟨a, c, e⟩
            obtain ⟨pa, pc, rfl⟩ : ∃ a c, pv = .slice a fd.procs.length c := by obtain ⟨a, c, e, _⟩ := hpv; exact ⟨a, c, e⟩
            have hlk : ∀ wq, LS wq p s cv nm nb → (Instr.lookup 43 (.map (some p.mb)) (.string q.module) true).run Tryd.prog wq = .ok (.tuple #[.agg #[.string fd.module, .slice va fd.vars.length vc, .slice pa fd.procs.length pc], .bool true]) wq := fun wq h => by
              have m := h.mm.run_look_ok q.module hlen16
              rw [hm1] at m
              exact m
            go_wp2
            refine wp_region_held_drew (S := fun W => LS W p s cv nm nb ∧ BoxC W wr.heap.size #[.string q.module, .slice ya q.vars.length yc, .slice za q.procs.length zc] 34) (by kernel_rfl) ⟨hI2.drew, hbx.below (Below.refl _ _).drew⟩ (fun hS => ?_)
            replace hGz := hGz.drew
            have hBW : wr.heap.size < (wr.alloc (.cells #[.string q.module, .slice ya q.vars.length yc, .slice za q.procs.length zc] 34)).drew.heap.size := by show wr.heap.size < (wr.alloc _).heap.size; simp
            generalize (wr.alloc (.cells #[.string q.module, .slice ya q.vars.length yc, .slice za q.procs.length zc] 34)).drew = W at hGz hS hBW ⊢
            generalize wr.heap.size = B at *
            clear hI2 hbx
            refine tkd (i := 0) (v := .pointer (some ⟨p.K, 0, none⟩)) rfl rfl (by kernel_rfl) (by kernel_rfl) (by kernel_rfl) (fun _ _ _ h => h) (Or.inl ⟨by rfl, fun wq hSw => by skip; go_simp⟩) hS ?_
            simp only [List.setIfInBounds_toArray, List.set_cons_zero, List.set_cons_succ]
            refine tkd (i := 1) (v := .pointer (some ⟨p.K, 0, none⟩)) rfl rfl (by kernel_rfl) (by kernel_rfl) (by kernel_rfl) (fun _ _ _ h => h) (Or.inl ⟨by rfl, fun wq hSw => by skip; go_simp⟩) hS ?_
            simp only [List.setIfInBounds_toArray, List.set_cons_zero, List.set_cons_succ]
            refine tkd (i := 2) (v := .pointer (some ⟨p.K, 4, none⟩)) rfl rfl (by kernel_rfl) (by kernel_rfl) (by kernel_rfl) (fun _ _ _ h => h) (Or.inl ⟨by rfl, fun wq hSw => by skip; go_simp⟩) hS ?_
            simp only [List.setIfInBounds_toArray, List.set_cons_zero, List.set_cons_succ]
            refine tkd (i := 3) (v := .map (some p.mb)) rfl rfl (by kernel_rfl) (by kernel_rfl) (by kernel_rfl) (fun _ _ _ h => h) (Or.inl ⟨by rfl, fun wq hSw => by have m := hSw.1.mo; go_simp⟩) hS ?_
            simp only [List.setIfInBounds_toArray, List.set_cons_zero, List.set_cons_succ]
            refine tkd (i := 4) (v := .pointer (some ⟨B, 0, none⟩)) rfl rfl (by kernel_rfl) (by kernel_rfl) (by kernel_rfl) (fun _ _ _ h => h) (Or.inl ⟨by rfl, fun wq hSw => by skip; go_simp⟩) hS ?_
            simp only [List.setIfInBounds_toArray, List.set_cons_zero, List.set_cons_succ]
            refine tkd (i := 5) (v := .string q.module) rfl rfl (by kernel_rfl) (by kernel_rfl) (by kernel_rfl) (fun _ _ _ h => h) (Or.inl ⟨by rfl, fun wq hSw => by have m := hSw.2.cell 0 rfl; go_simp⟩) hS ?_
            simp only [List.setIfInBounds_toArray, List.set_cons_zero, List.set_cons_succ]
            refine tkd (i := 6) (v := .tuple #[.agg #[.string fd.module, .slice va fd.vars.length vc, .slice pa fd.procs.length pc] , .bool true] ) rfl rfl (by kernel_rfl) (by kernel_rfl) (by kernel_rfl) (fun _ _ _ h => h) (Or.inl ⟨by rfl, fun wq hSw => by have m := hlk wq hSw.1; go_simp⟩) hS ?_
            simp only [List.setIfInBounds_toArray, List.set_cons_zero, List.set_cons_succ]
            refine tkd (i := 7) (v := .tuple #[.agg #[.string fd.module, .slice va fd.vars.length vc, .slice pa fd.procs.length pc] , .bool true] ) rfl rfl (by kernel_rfl) (by kernel_rfl) (by kernel_rfl) (fun _ _ _ h => h) (Or.inl ⟨by rfl, fun wq hSw => by skip; go_simp⟩) hS ?_
            simp only [List.setIfInBounds_toArray, List.set_cons_zero, List.set_cons_succ]
            refine tkd (i := 8) (v := .agg #[.string fd.module, .slice va fd.vars.length vc, .slice pa fd.procs.length pc]  ) rfl rfl (by kernel_rfl) (by kernel_rfl) (by kernel_rfl) (fun _ _ _ h => h) (Or.inl ⟨by rfl, fun wq hSw => by skip; go_simp⟩) hS ?_
            simp only [List.setIfInBounds_toArray, List.set_cons_zero, List.set_cons_succ]
            refine tkd (i := 9) (v := .bool true) rfl rfl (by kernel_rfl) (by kernel_rfl) (by kernel_rfl) (fun _ _ _ h => h) (Or.inl ⟨by rfl, fun wq hSw => by skip; go_simp⟩) hS ?_
            simp only [List.setIfInBounds_toArray, List.set_cons_zero, List.set_cons_succ]
            refine wpAnyH_ready (rs := [10]) (by kernel_rfl) (by simp) ?_
            refine AllReadyH.cons rfl (fun K hK => ?_) AllReadyH.nil
            go_simp
            have hN := BoxC.new W #[.string ⟨#[]⟩, .slice none 0 0, .slice none 0 0] 34
            have hltS := hS.1.lt
            replace hGz := hGz.alloc (by have := hGz.size; omega) (.cells #[.string ⟨#[]⟩, .slice none 0 0, .slice none 0 0] 34)
            replace hS : LS (W.alloc (.cells #[.string ⟨#[]⟩, .slice none 0 0, .slice none 0 0] 34)) p s cv nm nb ∧ BoxC (W.alloc (.cells #[.string ⟨#[]⟩, .slice none 0 0, .slice none 0 0] 34)) B #[.string q.module, .slice ya q.vars.length yc, .slice za q.procs.length zc] 34 := ⟨hS.1.alloc _, hS.2.alloc _⟩
            refine hK.out _ _ hS (fun _ => ?_)
            clear hK K
            have hNs : W.heap.size < (W.alloc (.cells #[.string ⟨#[]⟩, .slice none 0 0, .slice none 0 0] 34)).heap.size := by simp
            have hwN : w.heap.size ≤ W.heap.size := by omega
            generalize W.alloc (.cells #[.string ⟨#[]⟩, .slice none 0 0, .slice none 0 0] 34) = W1 at *
            generalize W.heap.size = N at *
            refine wpAnyH_ready (rs := [11]) (by kernel_rfl) (by simp) ?_
            refine AllReadyH.cons rfl (fun K hK => ?_) AllReadyH.nil
            refine step_store_row (by rfl) 34 (.tmp 6) (.tmp 34) (by rfl) N #[.string fd.module, .slice va fd.vars.length vc, .slice pa fd.procs.length pc]  (by rfl) (by rfl) 34 _ hN (by kernel_rfl) (by rfl) (by kernel_rfl) ?_
            replace hN := box_row (cs := #[.string fd.module, .slice va fd.vars.length vc, .slice pa fd.procs.length pc] ) hN
            replace hGz := below_row (cs := #[.string fd.module, .slice va fd.vars.length vc, .slice pa fd.procs.length pc] ) hGz hwN (by omega)
            replace hS : LS (W1.setRow N #[.string fd.module, .slice va fd.vars.length vc, .slice pa fd.procs.length pc] ) p s cv nm nb ∧ BoxC (W1.setRow N #[.string fd.module, .slice va fd.vars.length vc, .slice pa fd.procs.length pc] ) B #[.string q.module, .slice ya q.vars.length yc, .slice za q.procs.length zc] 34 := ⟨hS.1.grown (grown_row _ _ _) (by omega) (by omega) (by omega) (fun e => by have := hltS.2.2.2 _ e; omega), (setRow_other _ _ _ _ (by omega)).trans hS.2⟩
            refine hK.out _ _ hS (fun _ => ?_)
            clear hK K
            generalize W1.setRow N #[.string fd.module, .slice va fd.vars.length vc, .slice pa fd.procs.length pc]  = W2 at *
            simp only [Act.put]
            refine tkd (i := 12) (v := .bool true) rfl rfl (by kernel_rfl) (by kernel_rfl) (by kernel_rfl) (fun _ _ _ h => h) (Or.inl ⟨by rfl, fun wq hSw => by skip; go_simp⟩) hS ?_
            simp only [List.setIfInBounds_toArray, List.set_cons_zero, List.set_cons_succ]
            refine wpAnyH_done (by kernel_rfl) ?_ _
            have hBz := hB.trans (hGz.mono hB.size)
            have hSm := face.oSame q fd (.agg #[.string q.module, .slice ya q.vars.length yc, .slice za q.procs.length zc]) (.agg #[.string fd.module, .slice va fd.vars.length vc, .slice pa fd.procs.length pc]) W2 ⟨_, _, rfl, hy.below hBz, hz.below hBz⟩ ⟨_, _, rfl, hvv.below hBz, hpv.below hBz⟩
            have b0 := hS.2.cell 0 rfl
            have b1 := hS.2.cell 1 rfl
            have b2 := hS.2.cell 2 rfl
            have n0 := hN.cell 0 rfl
            have n1 := hN.cell 1 rfl
            have n2 := hN.cell 2 rfl
            cases hsm : face.sameB q fd
            · rw [hsm] at hSm
              have HR : Hid (T = some ((i : Int), 3, (k : Int))) := by show _ = _; rw [HI.out]; simp [hsm]
              clear HI
              go_wp2_with (fail)
              refine hSm.mono ?_
              rintro e w8 ⟨rfl, hb8⟩
              go_wp2_with (fail)
              refine (oRefuse _ _ _ _).mono ?_
              rintro e w9 ⟨rfl, rfl⟩
              go_wp2
              exact ⟨rfl, hGz.trans (hb8.mono hGz.size), EndT.yes HR.out⟩
            · rw [hsm] at hSm
              have HR : Hid (T = (impO f (i : Int) ((k + 1 : Nat) : Int) (d.imports.drop (k + 1))).or T2) := by show _ = _; rw [HI.out]; simp [hsm]
              clear HI
              go_wp2_with (fail)
              refine hSm.mono ?_
              rintro e w8 ⟨rfl, hb8⟩
              go_wp2
              exact ⟨⟨k + 1, by omega, by go_num, hGz.trans (hb8.mono hGz.size), HR⟩, by simp [intOf]; omega⟩
        · have HN : Hid (T = T2) := by show _ = _; rw [HI.out, List.drop_eq_nil_of_le (by omega)]; rfl
          clear HI
          go_wp2
          refine ⟨⟨i + 1, by omega, by go_num, hBr, by show _ = _; rw [HN.out, hT2.out]⟩, by simp [intOf]; omega⟩
    · have HN : Hid (T = none) := by show _ = _; rw [HT.out, List.drop_eq_nil_of_le (by omega)]; rfl
      clear HT
      go_wp2
      go_end0
      exact ⟨hBr, EndT.no HN.out⟩
end Go.Proofs.YtmkknnofeebknaaDoor.lnk
