/- What the linker's lay answers: a contract. (Written by mklay.py: edit that.) -/
import Derived.Test.YtaiocbbcjdpjgaaGreatDoorLMLnkPure
namespace Go.Proofs.YtaiocbbcjdpjgaaGreatDoor.lnk
open Go.RowKit Go.Maps Go.WideMaps
open Go.Proofs.YtaiocbbcjdpjgaaGreatDoor.syn (isName eqS)
open Go.Proofs.YtaiocbbcjdpjgaaGreatDoor.mac (BoxC Ins grown_of_below)
open Go.Proofs.YtaiocbbcjdpjgaaGreatDoor.ord (tkd putd)
open Go.Proofs.YtaiocbbcjdpjgaaGreatDoor.obj (ObjD PlcD RelD Vals ObjAt PlcsIn objV mayO oMayO)
open Go.Proofs.YtaiocbbcjdpjgaaGreatDoor.lexs (HasErr hasErr_below)
open Go.Proofs.YtaiocbbcjdpjgaaGreatDoor.face (VarD ProcD FaceD FaceIn keep VarsIn ProcsIn)
set_option linter.unusedVariables false
set_option linter.unusedSimpArgs false
set_option maxRecDepth 100000
/-- the linker's row is made: four orders of nothing -/
theorem LS.made {w : World} {p : Pl} {s : St} {nm nb : Nat} (h : LS w p s (.slice none 0 0) nm nb) (hs : s.code = []) :
    LS ((w.setCell ⟨p.K, 0, none⟩ (.slice (some ⟨w.heap.size, 0, none⟩) 4 4)).alloc (.cells #[.int .i64 0, .int .i64 0, .int .i64 0, .int .i64 0, .int .i64 0, .int .i64 0, .int .i64 0, .int .i64 0, .int .i64 0, .int .i64 0, .int .i64 0, .int .i64 0, .int .i64 0, .int .i64 0, .int .i64 0, .int .i64 0, .int .i64 0, .int .i64 0, .int .i64 0, .int .i64 0] 64)) p { s with code := List.replicate 4 noIns } (.slice (some ⟨w.heap.size, 0, none⟩) 4 4) nm nb := by
  have hN : p.N ≤ w.heap.size := by have := h.n1; have := h.box.lt; omega
  have hown : (w.alloc (.cells #[.int .i64 0, .int .i64 0, .int .i64 0, .int .i64 0, .int .i64 0, .int .i64 0, .int .i64 0, .int .i64 0, .int .i64 0, .int .i64 0, .int .i64 0, .int .i64 0, .int .i64 0, .int .i64 0, .int .i64 0, .int .i64 0, .int .i64 0, .int .i64 0, .int .i64 0, .int .i64 0] 64)).ownsRow p.N 64 5 (.slice (some ⟨w.heap.size, 0, none⟩) (s.code.length + (List.replicate 4 noIns).length) 4) (s.code.length + (List.replicate 4 noIns).length) (s.code.flatMap insC ++ (List.replicate 4 noIns).flatMap insC) := by
    rw [hs]
    exact ⟨rfl, .inr ⟨_, 4, #[.int .i64 0, .int .i64 0, .int .i64 0, .int .i64 0, .int .i64 0, .int .i64 0, .int .i64 0, .int .i64 0, .int .i64 0, .int .i64 0, .int .i64 0, .int .i64 0, .int .i64 0, .int .i64 0, .int .i64 0, .int .i64 0, .int .i64 0, .int .i64 0, .int .i64 0, .int .i64 0], rfl, hN, BoxC.new w #[.int .i64 0, .int .i64 0, .int .i64 0, .int .i64 0, .int .i64 0, .int .i64 0, .int .i64 0, .int .i64 0, .int .i64 0, .int .i64 0, .int .i64 0, .int .i64 0, .int .i64 0, .int .i64 0, .int .i64 0, .int .i64 0, .int .i64 0, .int .i64 0, .int .i64 0, .int .i64 0] 64, by decide, by unfold maxLen; decide, rfl, rfl⟩⟩
  have := h.code' hown (grown_of_below ((Below.refl w.heap.size w).alloc (Nat.le_refl _) _)) (.inr rfl)
  rw [hs, World.setCell_alloc_past _ _ _ _ h.box.lt] at this
  exact this
/-- what lay comes to -/
def LayE (p : Pl) (w0 : World) (l : List ObjD) (t : Option (Int × Int × Int)) (w : World) (e : Ending) (w' : World) : Prop :=
  Below p.N w w' ∧ EndT t e ∧ (t = none → ∃ s g cap nm nb, LS w' p s (.slice (some ⟨g, 0, none⟩) s.code.length cap) nm nb ∧ SP w0 s (layP l))
set_option maxHeartbeats 4000000 in
theorem oLay {w0 w : World} {p : Pl} {s0 : St} {l : List ObjD} (h : LS w p s0 (.slice none 0 0) 0 0) (hs0 : s0 = ⟨[], 0, 0, fun _ => none, fun _ => none⟩) (hB : Below p.N w0 w) (hN : w0.heap.size = p.N) (ho : ObjsIn w0 p.ov l) (he : HasErr w0) :
    Calls Tryz.prog 42 #[.pointer (some ⟨p.K, 0, none⟩)] w (LayE p w0 l (layR l) w) := by
  have c13 : Tryz.prog.cellsOf 31 = 13 := by kernel_rfl
  have c3 : Tryz.prog.cellsOf 25 = 3 := by kernel_rfl
  have c5i : Tryz.prog.cellsOf 64 = 5 := by kernel_rfl
  have hmk : ∀ w, (Instr.makeSlice 27 (.int .i64 4) (.int .i64 4)).run Tryz.prog w = .ok (.slice (some ⟨w.heap.size, 0, none⟩) 4 4) (w.alloc (.cells #[.int .i64 0, .int .i64 0, .int .i64 0, .int .i64 0, .int .i64 0, .int .i64 0, .int .i64 0, .int .i64 0, .int .i64 0, .int .i64 0, .int .i64 0, .int .i64 0, .int .i64 0, .int .i64 0, .int .i64 0, .int .i64 0, .int .i64 0, .int .i64 0, .int .i64 0, .int .i64 0] 64)) := fun _ => by kernel_rfl
  have m3 := h.ob
  have m0 := h.cod
  have f0 := h.box.fz 0
  obtain ⟨oa, oc, hov, hll, hoc⟩ := ho
  rw [hov] at m3
  have hNw : p.N ≤ w.heap.size := by have := h.n1; have := h.box.lt; omega
  have hKw : p.K < w.heap.size := h.box.lt
  obtain ⟨T, hT⟩ : ∃ T, T = layR l := ⟨_, rfl⟩
  rw [← hT]
  unfold layR at hT
  have hR := oRefuse 0 1 0 w
  by_cases h0 : l.length = 0
  · rw [if_pos (.inl h0)] at hT
    have HR : Hid (T = some (0, 1, 0)) := hT
    clear hT
    rw [h0] at m3
    go_enter Tryz.func42, Tryz.ntmps42
    go_wp2_with (fail)
    refine hR.mono ?_
    rintro e w2 ⟨rfl, rfl⟩
    go_wp2
    exact ⟨rfl, Below.refl _ _, EndT.yes HR.out, fun e => by rw [HR.out] at e; cases e⟩
  have h0' : ¬ (l.length : Int) = 0 := by omega
  by_cases h6 : 6 < l.length
  · rw [if_pos (.inr h6)] at hT
    have HR : Hid (T = some (0, 1, 0)) := hT
    clear hT
    have h6' : 6 < (l.length : Int) := by omega
    go_enter Tryz.func42, Tryz.ntmps42
    go_wp2_with (fail)
    refine hR.mono ?_
    rintro e w2 ⟨rfl, rfl⟩
    go_wp2
    exact ⟨rfl, Below.refl _ _, EndT.yes HR.out, fun e => by rw [HR.out] at e; cases e⟩
  rw [if_neg (by omega)] at hT
  have h6' : ¬ 6 < (l.length : Int) := by omega
  have HM : Hid (LS _ _ _ _ _ _) := h.made (by rw [hs0])
  have HP : Hid (SP w0 { s0 with code := List.replicate 4 noIns } p0) := by
    show SP _ _ _
    rw [hs0]
    exact ⟨rfl, rfl, rfl, rfl, fun _ => .inl ⟨rfl, rfl⟩⟩
  have HG : Hid (Below p.N w ((w.setCell ⟨p.K, 0, none⟩ (.slice (some ⟨w.heap.size, 0, none⟩) 4 4)).alloc (.cells #[.int .i64 0, .int .i64 0, .int .i64 0, .int .i64 0, .int .i64 0, .int .i64 0, .int .i64 0, .int .i64 0, .int .i64 0, .int .i64 0, .int .i64 0, .int .i64 0, .int .i64 0, .int .i64 0, .int .i64 0, .int .i64 0, .int .i64 0, .int .i64 0, .int .i64 0, .int .i64 0] 64))) := ((Below.refl p.N w).setCell h.n1 _).alloc (by simpa using hNw) _
  have hKN : p.K ≠ w.heap.size := by omega
  have hNK : w.heap.size ≠ p.K := by omega
  replace hT : Hid (T = layT ((0 : Nat) : Int) (layP (l.take 0)) (l.drop 0)) := hT
  clear h hR
  go_enter Tryz.func42, Tryz.ntmps42
  go_wp2
  replace HP := HP.out
  replace HM := HM.out
  replace HG := HG.out
  generalize ({ s0 with code := List.replicate 4 noIns } : St) = s1 at HP HM
  have hs1 : s1.code.length = 4 := by rw [HP.code]; rfl
  go_loopw [31] (fun t wr => ∃ (i : Nat) (s : St) (g cap nm nb : Nat), i ≤ l.length ∧ t = .int .i64 i ∧ Below p.N w wr ∧ LS wr p s (.slice (some ⟨g, 0, none⟩) s.code.length cap) nm nb ∧ SP w0 s (layP (l.take i)) ∧ nm = i ∧ nb ≤ i * 26388279066625 ∧ (∀ o ∈ l.take i, mayO o = true) ∧ Hid (T = layT (i : Int) (layP (l.take i)) (l.drop i))) (fun t _ => l.length - (intOf t).toNat)
  case atStart => exact ⟨0, s1, _, _, 0, 0, Nat.zero_le _, rfl, HG, by rw [hs1]; exact HM, HP, rfl, Nat.zero_le _, (fun o ho => by cases ho), hT⟩
  case round =>
    clear hT HM HG HP hs1 s1
    obtain ⟨i, s, g, cap, nm, nb, hi, rfl, hBr, hL, hP, hnm, hnb, hmay, HT⟩ := hrel
    by_cases hlt : i < l.length
    · obtain ⟨g1, o1, rfl, hcc⟩ := hoc (by intro e; rw [e] at hlt; simp at hlt)
      obtain ⟨x, hat, hcs⟩ := hcc i hlt
      have hB1 : Below w0.heap.size w0 wr := by rw [hN]; exact hB.trans hBr
      have hcs1 := hcs.below hB1
      obtain ⟨a1, c1, a2, c2, a3, c3', a4, c4', a5, c5, a6, c6, a7, c7, a8, c8, hx⟩ := hat.shape
      obtain ⟨y0, y1, y2, y3, y4, y5, y6, y7, y8, y9, y10, y11, y12⟩ := hcs1
      rw [layT_at hlt] at HT
      have hbd := bnd_of hmay
      have hbc := hbd.c
      have hbl := hbd.l
      have hbh := hbd.h
      rw [List.length_take, Nat.min_eq_left hi] at hbc hbl hbh
      rw [← hP.code] at hbc
      rw [← hP.low] at hbl
      rw [← hP.high] at hbh
      have hlp := layP_next hlt
      have hmn : ∀ o ∈ l.take (i + 1), o ∈ l.take i ∨ o = l[i] := fun o ho => by
        rw [List.take_succ_eq_append_getElem hlt] at ho
        rcases List.mem_append.1 ho with h | h
        · exact .inl h
        · exact .inr (List.mem_singleton.1 h)
      have hfm := hP.mods l[i].face.module
      clear hcc hcs hoc hbd
      generalize l[i] = d at *
      obtain ⟨T2, hT2⟩ : ∃ T2, T2 = layT ((i + 1 : Nat) : Int) (layP (l.take (i + 1))) (l.drop (i + 1)) := ⟨_, rfl⟩
      rw [← hT2] at HT
      replace hT2 : Hid (T2 = layT ((i + 1 : Nat) : Int) (layP (l.take (i + 1))) (l.drop (i + 1))) := hT2
      replace hlp : Hid (layP (l.take (i + 1)) = addP (layP (l.take i)) d) := hlp
      generalize hQ9 : layP (l.take (i + 1)) = q9 at *
      generalize layP (l.take i) = q at *
      have hat0 := hat
      subst hx
      dsimp only at y1 y2 y3 y4 y5 y6 y7 y8
      have hNr : p.N ≤ wr.heap.size := by have := hL.n1; have := hL.box.lt; omega
      have hL2 := hL.alloc (.cells #[.string d.face.module, .slice a1 d.face.vars.length c1, .slice a2 d.face.procs.length c2, .slice a3 d.imports.length c3', .slice a4 d.code.length c4', .slice a5 d.relocs.length c5, .slice a6 d.procs.length c6, .slice a7 d.lows.length c7, .slice a8 d.highs.length c8, .int .i64 d.low, .int .i64 d.high, .int .i64 d.lowF, .int .i64 d.highF] 31)
      have hbx := BoxC.new wr #[.string d.face.module, .slice a1 d.face.vars.length c1, .slice a2 d.face.procs.length c2, .slice a3 d.imports.length c3', .slice a4 d.code.length c4', .slice a5 d.relocs.length c5, .slice a6 d.procs.length c6, .slice a7 d.lows.length c7, .slice a8 d.highs.length c8, .int .i64 d.low, .int .i64 d.high, .int .i64 d.lowF, .int .i64 d.highF] 31
      have hGz := hBr.alloc hNr (.cells #[.string d.face.module, .slice a1 d.face.vars.length c1, .slice a2 d.face.procs.length c2, .slice a3 d.imports.length c3', .slice a4 d.code.length c4', .slice a5 d.relocs.length c5, .slice a6 d.procs.length c6, .slice a7 d.lows.length c7, .slice a8 d.highs.length c8, .int .i64 d.low, .int .i64 d.high, .int .i64 d.lowF, .int .i64 d.highF] 31)
      have hMay := oMayO d _ (wr.alloc (.cells #[.string d.face.module, .slice a1 d.face.vars.length c1, .slice a2 d.face.procs.length c2, .slice a3 d.imports.length c3', .slice a4 d.code.length c4', .slice a5 d.relocs.length c5, .slice a6 d.procs.length c6, .slice a7 d.lows.length c7, .slice a8 d.highs.length c8, .int .i64 d.low, .int .i64 d.high, .int .i64 d.lowF, .int .i64 d.highF] 31)) (hasErr_below he (by rw [hN]; exact hB.trans hGz)) (hat0.below (by rw [hN]; exact hB.trans hGz))
      unfold objV at hMay
      dsimp only at hMay
      cases hmy : mayO d
      · rw [hmy] at HT hMay
        have HR : Hid (T = some ((i : Int), 2, 0)) := HT.out
        clear HT
        go_wp2_with (fail)
        refine hMay.mono ?_
        rintro e w8 ⟨rfl, hb8⟩
        go_wp2_with (fail)
        refine (oRefuse _ _ _ _).mono ?_
        rintro e w9 ⟨rfl, rfl⟩
        go_wp2
        exact ⟨rfl, hGz.trans (hb8.mono (by have := hGz.size; simp; omega)), EndT.yes HR.out, fun e => by rw [HR.out] at e; cases e⟩
      · rw [hmy] at HT hMay
        have hok := AddOk.of hmy
        have hlen16 : d.face.module.size ≤ maxLen := by have := hok.m; unfold maxLen; omega
        have hp1 : d.procs.length ≤ 8796093022208 := by obtain ⟨_, _, _, h, _⟩ := hat.q1; exact h
        have hp2 : d.lows.length ≤ 8796093022208 := by obtain ⟨_, _, _, h, _⟩ := hat.q2; exact h
        have hp3 : d.highs.length ≤ 8796093022208 := by obtain ⟨_, _, _, h, _⟩ := hat.q3; exact h
        rcases hfm with ⟨hm1, hm2⟩ | ⟨v, fd, hm1, hm2, hm3⟩
        · rw [hm2] at HT
          have HR : Hid (T = T2) := HT.out
          have hlk : ∀ wq, LS wq p s (.slice (some ⟨g, 0, none⟩) s.code.length cap) nm nb → (Instr.lookup 89 (.map (some p.mb)) (.string d.face.module) true).run Tryz.prog wq = .ok (.tuple #[.agg #[.string ⟨#[]⟩, .slice none 0 0, .slice none 0 0], .bool false]) wq := fun wq h => by
            have m := h.mm.run_look_ok d.face.module hlen16
            rw [hm1] at m
            exact m
          clear HT
          go_wp2_with (fail)
          refine hMay.mono ?_
          rintro e W8 ⟨rfl, hb8⟩
          replace hL2 := hL2.below hb8
          replace hbx := hbx.below hb8
          have hs8 := hb8.size
          rw [World.size_alloc] at hs8
          replace hGz := hGz.trans (hb8.mono (by rw [World.size_alloc]; omega))
          have hB8 : wr.heap.size < W8.heap.size := by omega
          clear hMay hb8
          go_wp2
          generalize wr.heap.size = B at *
          refine wp_region_held_drew (S := fun W => LS W p s (.slice (some ⟨g, 0, none⟩) s.code.length cap) nm nb ∧ BoxC W B #[.string d.face.module, .slice a1 d.face.vars.length c1, .slice a2 d.face.procs.length c2, .slice a3 d.imports.length c3', .slice a4 d.code.length c4', .slice a5 d.relocs.length c5, .slice a6 d.procs.length c6, .slice a7 d.lows.length c7, .slice a8 d.highs.length c8, .int .i64 d.low, .int .i64 d.high, .int .i64 d.lowF, .int .i64 d.highF] 31) (by kernel_rfl) ⟨hL2.drew, hbx.below (Below.refl _ _).drew⟩ (fun hS => ?_)
          replace hGz := hGz.drew
          have hBW : B < W8.drew.heap.size := by show B < W8.heap.size; exact hB8
          generalize W8.drew = W at hGz hS hBW ⊢
          clear hL2 hbx
          refine tkd (i := 0) (v := .pointer (some ⟨p.K, 0, none⟩)) rfl rfl (by kernel_rfl) (by kernel_rfl) (by kernel_rfl) (fun _ _ _ h => h) (Or.inl ⟨by rfl, fun wq hSw => by skip; go_simp⟩) hS ?_
          simp only [List.setIfInBounds_toArray, List.set_cons_zero, List.set_cons_succ]
          refine tkd (i := 1) (v := .pointer (some ⟨p.K, 0, none⟩)) rfl rfl (by kernel_rfl) (by kernel_rfl) (by kernel_rfl) (fun _ _ _ h => h) (Or.inl ⟨by rfl, fun wq hSw => by skip; go_simp⟩) hS ?_
          simp only [List.setIfInBounds_toArray, List.set_cons_zero, List.set_cons_succ]
          refine tkd (i := 2) (v := .pointer (some ⟨p.K, 4, none⟩)) rfl rfl (by kernel_rfl) (by kernel_rfl) (by kernel_rfl) (fun _ _ _ h => h) (Or.inl ⟨by rfl, fun wq hSw => by skip; go_simp⟩) hS ?_
          simp only [List.setIfInBounds_toArray, List.set_cons_zero, List.set_cons_succ]
          refine tkd (i := 3) (v := .map (some p.mb)) rfl rfl (by kernel_rfl) (by kernel_rfl) (by kernel_rfl) (fun _ _ _ h => h) (Or.inl ⟨by rfl, fun wq hSw => by have m := hSw.1.mo; go_simp⟩) hS ?_
          simp only [List.setIfInBounds_toArray, List.set_cons_zero, List.set_cons_succ]
          refine tkd (i := 4) (v := .pointer (some ⟨B, 0, none⟩)) rfl rfl (by kernel_rfl) (by kernel_rfl) (by kernel_rfl) (fun _ _ _ h => h) (Or.inl ⟨by rfl, fun wq hSw => by skip; go_simp⟩) hS ?_
          simp only [List.setIfInBounds_toArray, List.set_cons_zero, List.set_cons_succ]
          refine tkd (i := 5) (v := .pointer (some ⟨B, 0, none⟩)) rfl rfl (by kernel_rfl) (by kernel_rfl) (by kernel_rfl) (fun _ _ _ h => h) (Or.inl ⟨by rfl, fun wq hSw => by skip; go_simp⟩) hS ?_
          simp only [List.setIfInBounds_toArray, List.set_cons_zero, List.set_cons_succ]
          refine tkd (i := 6) (v := .string d.face.module) rfl rfl (by kernel_rfl) (by kernel_rfl) (by kernel_rfl) (fun _ _ _ h => h) (Or.inl ⟨by rfl, fun wq hSw => by have m := hSw.2.cell 0 rfl; go_simp⟩) hS ?_
          simp only [List.setIfInBounds_toArray, List.set_cons_zero, List.set_cons_succ]
          refine tkd (i := 7) (v := .tuple #[.agg #[.string ⟨#[]⟩, .slice none 0 0, .slice none 0 0] , .bool false] ) rfl rfl (by kernel_rfl) (by kernel_rfl) (by kernel_rfl) (fun _ _ _ h => h) (Or.inl ⟨by rfl, fun wq hSw => by have m := hlk wq hSw.1; go_simp⟩) hS ?_
          simp only [List.setIfInBounds_toArray, List.set_cons_zero, List.set_cons_succ]
          refine tkd (i := 8) (v := .tuple #[.agg #[.string ⟨#[]⟩, .slice none 0 0, .slice none 0 0] , .bool false] ) rfl rfl (by kernel_rfl) (by kernel_rfl) (by kernel_rfl) (fun _ _ _ h => h) (Or.inl ⟨by rfl, fun wq hSw => by skip; go_simp⟩) hS ?_
          simp only [List.setIfInBounds_toArray, List.set_cons_zero, List.set_cons_succ]
          refine tkd (i := 9) (v := .agg #[.string ⟨#[]⟩, .slice none 0 0, .slice none 0 0]  ) rfl rfl (by kernel_rfl) (by kernel_rfl) (by kernel_rfl) (fun _ _ _ h => h) (Or.inl ⟨by rfl, fun wq hSw => by skip; go_simp⟩) hS ?_
          simp only [List.setIfInBounds_toArray, List.set_cons_zero, List.set_cons_succ]
          refine tkd (i := 10) (v := .bool false) rfl rfl (by kernel_rfl) (by kernel_rfl) (by kernel_rfl) (fun _ _ _ h => h) (Or.inl ⟨by rfl, fun wq hSw => by skip; go_simp⟩) hS ?_
          simp only [List.setIfInBounds_toArray, List.set_cons_zero, List.set_cons_succ]
          refine wpAnyH_ready (rs := [11]) (by kernel_rfl) (by simp) ?_
          refine AllReadyH.cons rfl (fun K hK => ?_) AllReadyH.nil
          go_simp
          have hNb := BoxC.new W #[.string ⟨#[]⟩, .slice none 0 0, .slice none 0 0] 25
          have hltS := hS.1.lt
          have hNW : p.N ≤ W.heap.size := by have := hS.1.n1; omega
          replace hGz := hGz.alloc hNW (.cells #[.string ⟨#[]⟩, .slice none 0 0, .slice none 0 0] 25)
          replace hS : LS (W.alloc (.cells #[.string ⟨#[]⟩, .slice none 0 0, .slice none 0 0] 25)) p s (.slice (some ⟨g, 0, none⟩) s.code.length cap) nm nb ∧ BoxC (W.alloc (.cells #[.string ⟨#[]⟩, .slice none 0 0, .slice none 0 0] 25)) B #[.string d.face.module, .slice a1 d.face.vars.length c1, .slice a2 d.face.procs.length c2, .slice a3 d.imports.length c3', .slice a4 d.code.length c4', .slice a5 d.relocs.length c5, .slice a6 d.procs.length c6, .slice a7 d.lows.length c7, .slice a8 d.highs.length c8, .int .i64 d.low, .int .i64 d.high, .int .i64 d.lowF, .int .i64 d.highF] 31 := ⟨hS.1.alloc _, hS.2.alloc _⟩
          refine hK.out _ _ hS (fun _ => ?_)
          clear hK K
          have hNs : W.heap.size < (W.alloc (.cells #[.string ⟨#[]⟩, .slice none 0 0, .slice none 0 0] 25)).heap.size := by simp
          generalize W.alloc (.cells #[.string ⟨#[]⟩, .slice none 0 0, .slice none 0 0] 25) = W1 at *
          generalize W.heap.size = N at *
          refine wpAnyH_ready (rs := [12]) (by kernel_rfl) (by simp) ?_
          refine AllReadyH.cons rfl (fun K hK => ?_) AllReadyH.nil
          refine step_store_row (by rfl) 25 (.tmp 4) (.tmp 50) (by rfl) N #[.string ⟨#[]⟩, .slice none 0 0, .slice none 0 0]  (by rfl) (by rfl) 25 _ hNb (by kernel_rfl) (by rfl) (by kernel_rfl) ?_
          replace hNb := box_row (cs := #[.string ⟨#[]⟩, .slice none 0 0, .slice none 0 0] ) hNb
          replace hGz := below_row (cs := #[.string ⟨#[]⟩, .slice none 0 0, .slice none 0 0] ) hGz hNW (by omega)
          replace hS : LS (W1.setRow N #[.string ⟨#[]⟩, .slice none 0 0, .slice none 0 0] ) p s (.slice (some ⟨g, 0, none⟩) s.code.length cap) nm nb ∧ BoxC (W1.setRow N #[.string ⟨#[]⟩, .slice none 0 0, .slice none 0 0] ) B #[.string d.face.module, .slice a1 d.face.vars.length c1, .slice a2 d.face.procs.length c2, .slice a3 d.imports.length c3', .slice a4 d.code.length c4', .slice a5 d.relocs.length c5, .slice a6 d.procs.length c6, .slice a7 d.lows.length c7, .slice a8 d.highs.length c8, .int .i64 d.low, .int .i64 d.high, .int .i64 d.lowF, .int .i64 d.highF] 31 := ⟨hS.1.grown (grown_row _ _ _) (by omega) (by omega) (by omega) (fun e => by have := hltS.2.2.2 _ e; omega), (setRow_other _ _ _ _ (by omega)).trans hS.2⟩
          refine hK.out _ _ hS (fun _ => ?_)
          clear hK K
          generalize W1.setRow N #[.string ⟨#[]⟩, .slice none 0 0, .slice none 0 0]  = W2 at *
          simp only [Act.put]
          refine tkd (i := 13) (v := .bool false) rfl rfl (by kernel_rfl) (by kernel_rfl) (by kernel_rfl) (fun _ _ _ h => h) (Or.inl ⟨by rfl, fun wq hSw => by skip; go_simp⟩) hS ?_
          simp only [List.setIfInBounds_toArray, List.set_cons_zero, List.set_cons_succ]
          refine wpAnyH_done (by kernel_rfl) ?_ _
          have hAd := oAdd hS.1 (hB.trans hGz) hN d _ hat hok (by omega) (by omega) (by omega) (by omega) (by omega) hp1 hp2 hp3
          unfold objV at hAd
          dsimp only at hAd
          have b0 := hS.2.cell 0 rfl
          have b1 := hS.2.cell 1 rfl
          have b2 := hS.2.cell 2 rfl
          have b3 := hS.2.cell 3 rfl
          have b4 := hS.2.cell 4 rfl
          have b5 := hS.2.cell 5 rfl
          have b6 := hS.2.cell 6 rfl
          have b7 := hS.2.cell 7 rfl
          have b8 := hS.2.cell 8 rfl
          have b9 := hS.2.cell 9 rfl
          have b10 := hS.2.cell 10 rfl
          have b11 := hS.2.cell 11 rfl
          have b12 := hS.2.cell 12 rfl
          go_wp2_with (fail)
          refine hAd.mono ?_
          rintro e w9 ⟨rfl, hb9, g9, cap9, nm9, nb9, hL9, hn9, hbn9⟩
          clear hAd
          have hP9 := hP.add (v := .agg #[.string d.face.module, .slice a1 d.face.vars.length c1, .slice a2 d.face.procs.length c2]) ⟨_, _, rfl, hat.vars, hat.procs⟩
          rw [← hlp.out] at hP9
          generalize addF s d (.agg #[.string d.face.module, .slice a1 d.face.vars.length c1, .slice a2 d.face.procs.length c2]) = s9 at *
          have hmay9 : ∀ o ∈ l.take (i + 1), mayO o = true := fun o ho => by
            rcases hmn o ho with h | h
            · exact hmay o h
            · rw [h]; exact hmy
          have HX : Hid (∃ (i' : Nat) (s : St) (g cap nm nb : Nat), i' ≤ l.length ∧ Value.int .i64 ((i : Int) + 1) = .int .i64 i' ∧ Below p.N w w9 ∧ LS w9 p s (.slice (some ⟨g, 0, none⟩) s.code.length cap) nm nb ∧ SP w0 s (layP (l.take i')) ∧ nm = i' ∧ nb ≤ i' * 26388279066625 ∧ (∀ o ∈ l.take i', mayO o = true) ∧ Hid (T = layT (i' : Int) (layP (l.take i')) (l.drop i'))) := by
            refine ⟨i + 1, s9, g9, cap9, nm9, nb9, by omega, by simp, hGz.trans hb9, hL9, ?_, by omega, by omega, hmay9, ?_⟩
            · rw [hQ9]; exact hP9
            · show _ = _; rw [HR.out, hT2.out, hQ9]
          clear hP9 hmay9 hL9 hb9 hS hNb hGz hlk HR hmn hmay hP hlp hT2 b0 b1 b2 b3 b4 b5 b6 b7 b8 b9 b10 b11 b12
          go_wp2
          exact ⟨HX.out, by simp [intOf]; omega⟩
        · obtain ⟨vv, pv, rfl, hvv, hpv⟩ := hm3
          obtain ⟨va, vc, rfl⟩ : ∃ a c, vv = .slice a fd.vars.length c := by obtain ⟨a, c, e, _⟩ := hvv; exact ⟨a, c, e⟩
          obtain ⟨pa, pc, rfl⟩ : ∃ a c, pv = .slice a fd.procs.length c := by obtain ⟨a, c, e, _⟩ := hpv; exact ⟨a, c, e⟩
          rw [hm2] at HT
          have HR : Hid (T = some ((i : Int), 5, 0)) := HT.out
          have hlk : ∀ wq, LS wq p s (.slice (some ⟨g, 0, none⟩) s.code.length cap) nm nb → (Instr.lookup 89 (.map (some p.mb)) (.string d.face.module) true).run Tryz.prog wq = .ok (.tuple #[.agg #[.string fd.module, .slice va fd.vars.length vc, .slice pa fd.procs.length pc], .bool true]) wq := fun wq h => by
            have m := h.mm.run_look_ok d.face.module hlen16
            rw [hm1] at m
            exact m
          clear HT
          go_wp2_with (fail)
          refine hMay.mono ?_
          rintro e W8 ⟨rfl, hb8⟩
          replace hL2 := hL2.below hb8
          replace hbx := hbx.below hb8
          have hs8 := hb8.size
          rw [World.size_alloc] at hs8
          replace hGz := hGz.trans (hb8.mono (by rw [World.size_alloc]; omega))
          have hB8 : wr.heap.size < W8.heap.size := by omega
          clear hMay hb8
          go_wp2
          generalize wr.heap.size = B at *
          refine wp_region_held_drew (S := fun W => LS W p s (.slice (some ⟨g, 0, none⟩) s.code.length cap) nm nb ∧ BoxC W B #[.string d.face.module, .slice a1 d.face.vars.length c1, .slice a2 d.face.procs.length c2, .slice a3 d.imports.length c3', .slice a4 d.code.length c4', .slice a5 d.relocs.length c5, .slice a6 d.procs.length c6, .slice a7 d.lows.length c7, .slice a8 d.highs.length c8, .int .i64 d.low, .int .i64 d.high, .int .i64 d.lowF, .int .i64 d.highF] 31) (by kernel_rfl) ⟨hL2.drew, hbx.below (Below.refl _ _).drew⟩ (fun hS => ?_)
          replace hGz := hGz.drew
          have hBW : B < W8.drew.heap.size := by show B < W8.heap.size; exact hB8
          generalize W8.drew = W at hGz hS hBW ⊢
          clear hL2 hbx
          refine tkd (i := 0) (v := .pointer (some ⟨p.K, 0, none⟩)) rfl rfl (by kernel_rfl) (by kernel_rfl) (by kernel_rfl) (fun _ _ _ h => h) (Or.inl ⟨by rfl, fun wq hSw => by skip; go_simp⟩) hS ?_
          simp only [List.setIfInBounds_toArray, List.set_cons_zero, List.set_cons_succ]
          refine tkd (i := 1) (v := .pointer (some ⟨p.K, 0, none⟩)) rfl rfl (by kernel_rfl) (by kernel_rfl) (by kernel_rfl) (fun _ _ _ h => h) (Or.inl ⟨by rfl, fun wq hSw => by skip; go_simp⟩) hS ?_
          simp only [List.setIfInBounds_toArray, List.set_cons_zero, List.set_cons_succ]
          refine tkd (i := 2) (v := .pointer (some ⟨p.K, 4, none⟩)) rfl rfl (by kernel_rfl) (by kernel_rfl) (by kernel_rfl) (fun _ _ _ h => h) (Or.inl ⟨by rfl, fun wq hSw => by skip; go_simp⟩) hS ?_
          simp only [List.setIfInBounds_toArray, List.set_cons_zero, List.set_cons_succ]
          refine tkd (i := 3) (v := .map (some p.mb)) rfl rfl (by kernel_rfl) (by kernel_rfl) (by kernel_rfl) (fun _ _ _ h => h) (Or.inl ⟨by rfl, fun wq hSw => by have m := hSw.1.mo; go_simp⟩) hS ?_
          simp only [List.setIfInBounds_toArray, List.set_cons_zero, List.set_cons_succ]
          refine tkd (i := 4) (v := .pointer (some ⟨B, 0, none⟩)) rfl rfl (by kernel_rfl) (by kernel_rfl) (by kernel_rfl) (fun _ _ _ h => h) (Or.inl ⟨by rfl, fun wq hSw => by skip; go_simp⟩) hS ?_
          simp only [List.setIfInBounds_toArray, List.set_cons_zero, List.set_cons_succ]
          refine tkd (i := 5) (v := .pointer (some ⟨B, 0, none⟩)) rfl rfl (by kernel_rfl) (by kernel_rfl) (by kernel_rfl) (fun _ _ _ h => h) (Or.inl ⟨by rfl, fun wq hSw => by skip; go_simp⟩) hS ?_
          simp only [List.setIfInBounds_toArray, List.set_cons_zero, List.set_cons_succ]
          refine tkd (i := 6) (v := .string d.face.module) rfl rfl (by kernel_rfl) (by kernel_rfl) (by kernel_rfl) (fun _ _ _ h => h) (Or.inl ⟨by rfl, fun wq hSw => by have m := hSw.2.cell 0 rfl; go_simp⟩) hS ?_
          simp only [List.setIfInBounds_toArray, List.set_cons_zero, List.set_cons_succ]
          refine tkd (i := 7) (v := .tuple #[.agg #[.string fd.module, .slice va fd.vars.length vc, .slice pa fd.procs.length pc] , .bool true] ) rfl rfl (by kernel_rfl) (by kernel_rfl) (by kernel_rfl) (fun _ _ _ h => h) (Or.inl ⟨by rfl, fun wq hSw => by have m := hlk wq hSw.1; go_simp⟩) hS ?_
          simp only [List.setIfInBounds_toArray, List.set_cons_zero, List.set_cons_succ]
          refine tkd (i := 8) (v := .tuple #[.agg #[.string fd.module, .slice va fd.vars.length vc, .slice pa fd.procs.length pc] , .bool true] ) rfl rfl (by kernel_rfl) (by kernel_rfl) (by kernel_rfl) (fun _ _ _ h => h) (Or.inl ⟨by rfl, fun wq hSw => by skip; go_simp⟩) hS ?_
          simp only [List.setIfInBounds_toArray, List.set_cons_zero, List.set_cons_succ]
          refine tkd (i := 9) (v := .agg #[.string fd.module, .slice va fd.vars.length vc, .slice pa fd.procs.length pc]  ) rfl rfl (by kernel_rfl) (by kernel_rfl) (by kernel_rfl) (fun _ _ _ h => h) (Or.inl ⟨by rfl, fun wq hSw => by skip; go_simp⟩) hS ?_
          simp only [List.setIfInBounds_toArray, List.set_cons_zero, List.set_cons_succ]
          refine tkd (i := 10) (v := .bool true) rfl rfl (by kernel_rfl) (by kernel_rfl) (by kernel_rfl) (fun _ _ _ h => h) (Or.inl ⟨by rfl, fun wq hSw => by skip; go_simp⟩) hS ?_
          simp only [List.setIfInBounds_toArray, List.set_cons_zero, List.set_cons_succ]
          refine wpAnyH_ready (rs := [11]) (by kernel_rfl) (by simp) ?_
          refine AllReadyH.cons rfl (fun K hK => ?_) AllReadyH.nil
          go_simp
          have hNb := BoxC.new W #[.string ⟨#[]⟩, .slice none 0 0, .slice none 0 0] 25
          have hltS := hS.1.lt
          have hNW : p.N ≤ W.heap.size := by have := hS.1.n1; omega
          replace hGz := hGz.alloc hNW (.cells #[.string ⟨#[]⟩, .slice none 0 0, .slice none 0 0] 25)
          replace hS : LS (W.alloc (.cells #[.string ⟨#[]⟩, .slice none 0 0, .slice none 0 0] 25)) p s (.slice (some ⟨g, 0, none⟩) s.code.length cap) nm nb ∧ BoxC (W.alloc (.cells #[.string ⟨#[]⟩, .slice none 0 0, .slice none 0 0] 25)) B #[.string d.face.module, .slice a1 d.face.vars.length c1, .slice a2 d.face.procs.length c2, .slice a3 d.imports.length c3', .slice a4 d.code.length c4', .slice a5 d.relocs.length c5, .slice a6 d.procs.length c6, .slice a7 d.lows.length c7, .slice a8 d.highs.length c8, .int .i64 d.low, .int .i64 d.high, .int .i64 d.lowF, .int .i64 d.highF] 31 := ⟨hS.1.alloc _, hS.2.alloc _⟩
          refine hK.out _ _ hS (fun _ => ?_)
          clear hK K
          have hNs : W.heap.size < (W.alloc (.cells #[.string ⟨#[]⟩, .slice none 0 0, .slice none 0 0] 25)).heap.size := by simp
          generalize W.alloc (.cells #[.string ⟨#[]⟩, .slice none 0 0, .slice none 0 0] 25) = W1 at *
          generalize W.heap.size = N at *
          refine wpAnyH_ready (rs := [12]) (by kernel_rfl) (by simp) ?_
          refine AllReadyH.cons rfl (fun K hK => ?_) AllReadyH.nil
          refine step_store_row (by rfl) 25 (.tmp 4) (.tmp 50) (by rfl) N #[.string fd.module, .slice va fd.vars.length vc, .slice pa fd.procs.length pc]  (by rfl) (by rfl) 25 _ hNb (by kernel_rfl) (by rfl) (by kernel_rfl) ?_
          replace hNb := box_row (cs := #[.string fd.module, .slice va fd.vars.length vc, .slice pa fd.procs.length pc] ) hNb
          replace hGz := below_row (cs := #[.string fd.module, .slice va fd.vars.length vc, .slice pa fd.procs.length pc] ) hGz hNW (by omega)
          replace hS : LS (W1.setRow N #[.string fd.module, .slice va fd.vars.length vc, .slice pa fd.procs.length pc] ) p s (.slice (some ⟨g, 0, none⟩) s.code.length cap) nm nb ∧ BoxC (W1.setRow N #[.string fd.module, .slice va fd.vars.length vc, .slice pa fd.procs.length pc] ) B #[.string d.face.module, .slice a1 d.face.vars.length c1, .slice a2 d.face.procs.length c2, .slice a3 d.imports.length c3', .slice a4 d.code.length c4', .slice a5 d.relocs.length c5, .slice a6 d.procs.length c6, .slice a7 d.lows.length c7, .slice a8 d.highs.length c8, .int .i64 d.low, .int .i64 d.high, .int .i64 d.lowF, .int .i64 d.highF] 31 := ⟨hS.1.grown (grown_row _ _ _) (by omega) (by omega) (by omega) (fun e => by have := hltS.2.2.2 _ e; omega), (setRow_other _ _ _ _ (by omega)).trans hS.2⟩
          refine hK.out _ _ hS (fun _ => ?_)
          clear hK K
          generalize W1.setRow N #[.string fd.module, .slice va fd.vars.length vc, .slice pa fd.procs.length pc]  = W2 at *
          simp only [Act.put]
          refine tkd (i := 13) (v := .bool true) rfl rfl (by kernel_rfl) (by kernel_rfl) (by kernel_rfl) (fun _ _ _ h => h) (Or.inl ⟨by rfl, fun wq hSw => by skip; go_simp⟩) hS ?_
          simp only [List.setIfInBounds_toArray, List.set_cons_zero, List.set_cons_succ]
          refine wpAnyH_done (by kernel_rfl) ?_ _
          go_wp2_with (fail)
          refine (oRefuse _ _ _ _).mono ?_
          rintro e w9 ⟨rfl, rfl⟩
          go_wp2
          exact ⟨rfl, hGz, EndT.yes HR.out, fun e => by rw [HR.out] at e; cases e⟩
    · have HN : Hid (T = none) := by show _ = _; rw [HT.out, List.drop_eq_nil_of_le (by omega)]; rfl
      obtain rfl : i = l.length := by omega
      rw [List.take_length] at hP
      clear HT
      go_wp2
      go_end0
      exact ⟨hBr, EndT.no HN.out, fun _ => ⟨s, g, cap, nm, nb, hL, hP⟩⟩
end Go.Proofs.YtaiocbbcjdpjgaaGreatDoor.lnk
