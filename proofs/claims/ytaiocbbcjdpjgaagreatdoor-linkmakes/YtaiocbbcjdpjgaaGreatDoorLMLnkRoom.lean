/- What the linker's tryRoom and orders answer: contracts. -/
import Derived.Test.YtaiocbbcjdpjgaaGreatDoorLMLnkPlace
import Derived.Test.YtaiocbbcjdpjgaaGreatDoorLMObjMay
namespace Go.Proofs.YtaiocbbcjdpjgaaGreatDoor.lnk
open Go.RowKit Go.Maps Go.WideMaps
open Go.Proofs.YtaiocbbcjdpjgaaGreatDoor.syn (isName eqS)
open Go.Proofs.YtaiocbbcjdpjgaaGreatDoor.mac (BoxC Ins grown_of_below)
open Go.Proofs.YtaiocbbcjdpjgaaGreatDoor.ord (tkd putd)
open Go.Proofs.YtaiocbbcjdpjgaaGreatDoor.obj (ObjD PlcD RelD Vals ObjAt PlcsIn objV)
open Go.Proofs.YtaiocbbcjdpjgaaGreatDoor.face (VarD ProcD FaceD keep)
set_option linter.unusedVariables false
set_option linter.unusedSimpArgs false
set_option maxRecDepth 100000
/-- a trouble is thrown, or nothing is told -/
def EndT (t : Option (Int × Int × Int)) (e : Ending) : Prop := match t with
  | some t => e = .panicked (ThrT t.1 t.2.1 t.2.2)
  | none => e = .returned (.tuple #[])
theorem EndT.yes {t : Option (Int × Int × Int)} {m c a : Int} (h : t = some (m, c, a)) : EndT t (.panicked (ThrT m c a)) := by rw [h]; rfl
theorem EndT.no {t : Option (Int × Int × Int)} (h : t = none) : EndT t (.returned (.tuple #[])) := by rw [h]; rfl
/-- is there no room? -/
def roomB (s : St) : Bool := decide (20000 < s.code.length) || (decide (20000 < s.low) || decide (20000 < s.high))
def roomT (s : St) : Option (Int × Int × Int) := if roomB s = true then some (0, 1, 0) else none
set_option maxHeartbeats 1000000 in
theorem oTryRoom {w : World} {p : Pl} {s : St} {cv : Value} {nm nb : Nat} (h : LS w p s cv nm nb) :
    Calls Tryz.prog 47 #[.pointer (some ⟨p.K, 0, none⟩)] w fun e w' => w' = w ∧ EndT (roomT s) e := by
  have m0 := h.cod
  have m1 := h.lo
  have m2 := h.hi
  obtain ⟨a, c, rfl⟩ := h.shape
  have hR := oRefuse 0 1 0 w
  by_cases h1 : 20000 < s.code.length
  · have HE : Hid (roomB s = true) := by show _ = _; unfold roomB; rw [decide_eq_true h1]; rfl
    have h1' : 20000 < (s.code.length : Int) := by omega
    go_enter Tryz.func47, Tryz.ntmps47
    go_wp2_with (fail)
    refine hR.mono ?_
    rintro e w2 ⟨rfl, rfl⟩
    go_wp2
    exact ⟨rfl, rfl, EndT.yes (if_pos HE.out)⟩
  · have h1' : ¬ 20000 < (s.code.length : Int) := by omega
    by_cases h2 : 20000 < s.low
    · have HE : Hid (roomB s = true) := by show _ = _; unfold roomB; rw [decide_eq_true h2]; simp
      go_enter Tryz.func47, Tryz.ntmps47
      go_wp2_with (fail)
      refine hR.mono ?_
      rintro e w2 ⟨rfl, rfl⟩
      go_wp2
      exact ⟨rfl, rfl, EndT.yes (if_pos HE.out)⟩
    · by_cases h3 : 20000 < s.high
      · have HE : Hid (roomB s = true) := by show _ = _; unfold roomB; rw [decide_eq_true h3]; simp
        go_enter Tryz.func47, Tryz.ntmps47
        go_wp2_with (fail)
        refine hR.mono ?_
        rintro e w2 ⟨rfl, rfl⟩
        go_wp2
        exact ⟨rfl, rfl, EndT.yes (if_pos HE.out)⟩
      · have HE : Hid (roomB s = false) := by show _ = _; unfold roomB; rw [decide_eq_false h1, decide_eq_false h2, decide_eq_false h3]; rfl
        go_enter Tryz.func47, Tryz.ntmps47
        go_wp2
        go_end0
        exact ⟨rfl, EndT.no (by unfold roomT; rw [HE.out]; rfl)⟩
/-- so many orders, from there on -/
def OrdE (w : World) (g b n : Nat) (e : Ending) (w' : World) : Prop := Below w.heap.size w w' ∧ ∃ g' c', e = .returned (.slice (some ⟨g, g', none⟩) n c') ∧ (0 < n → g' = b * 5)
set_option maxHeartbeats 2000000 in
/-- the orders of an object as they lie in the image -/
theorem oOrders {w : World} {p : Pl} {s : St} {g cap nm nb : Nat} (h : LS w p s (.slice (some ⟨g, 0, none⟩) s.code.length cap) nm nb) (o : ObjD) (x : Vals) (ho : ObjAt w x o) (b : Nat) (hm : o.face.module.size ≤ 16)
    (hb : s.begs ⟨1, o.face.module, ⟨#[]⟩⟩ = some (b : Int)) (hbl : b + o.code.length ≤ s.code.length) (hcl : s.code.length ≤ 1000000) :
    Calls Tryz.prog 88 #[.pointer (some ⟨p.K, 0, none⟩), objV o x] w (OrdE w g b o.code.length) := by
  have c13 : Tryz.prog.cellsOf 31 = 13 := by kernel_rfl
  have c5i : Tryz.prog.cellsOf 64 = 5 := by kernel_rfl
  have hcap : s.code.length ≤ cap := by
    rcases h.row.2 with ⟨e, _⟩ | ⟨g', cap', cur, e, _, _, e2, _⟩
    · cases e
    · cases e
      exact e2
  have hcap2 : cap ≤ 9223372036854775807 := by
    rcases h.row.2 with ⟨e, _⟩ | ⟨g', cap', cur, e, _, _, _, e2, _⟩
    · cases e
    · cases e
      exact e2
  obtain ⟨a1, c1, a2, c2, a3, c3', a4, c4', a5, c5, a6, c6, a7, c7, a8, c8, rfl⟩ := ho.shape
  have hA := (Below.refl w.heap.size w).alloc (Nat.le_refl _) (.cells #[.string o.face.module, .slice a1 o.face.vars.length c1, .slice a2 o.face.procs.length c2, .slice a3 o.imports.length c3', .slice a4 o.code.length c4', .slice a5 o.relocs.length c5, .slice a6 o.procs.length c6, .slice a7 o.lows.length c7, .slice a8 o.highs.length c8, .int .i64 o.low, .int .i64 o.high, .int .i64 o.lowF, .int .i64 o.highF] 31)
  have hbo := BoxC.new w #[.string o.face.module, .slice a1 o.face.vars.length c1, .slice a2 o.face.procs.length c2, .slice a3 o.imports.length c3', .slice a4 o.code.length c4', .slice a5 o.relocs.length c5, .slice a6 o.procs.length c6, .slice a7 o.lows.length c7, .slice a8 o.highs.length c8, .int .i64 o.low, .int .i64 o.high, .int .i64 o.lowF, .int .i64 o.highF] 31
  have hL := h.alloc (.cells #[.string o.face.module, .slice a1 o.face.vars.length c1, .slice a2 o.face.procs.length c2, .slice a3 o.imports.length c3', .slice a4 o.code.length c4', .slice a5 o.relocs.length c5, .slice a6 o.procs.length c6, .slice a7 o.lows.length c7, .slice a8 o.highs.length c8, .int .i64 o.low, .int .i64 o.high, .int .i64 o.lowF, .int .i64 o.highF] 31)
  have hok : Thg.ok ⟨1, o.face.module, ⟨#[]⟩⟩ := ⟨wf4 (k := 1) ⟨by decide, by decide⟩, by unfold maxLen; dsimp only; omega, by unfold maxLen; show (⟨#[]⟩ : ByteArray).size ≤ _; decide⟩
  have hlk : ∀ wq, LS wq p s (.slice (some ⟨g, 0, none⟩) s.code.length cap) nm nb → (Instr.lookup 90 (.map (some p.bb)) (.agg #[.int .i64 1, .string o.face.module, .string ⟨#[]⟩]) false).run Tryz.prog wq = .ok (.int .i64 (b : Int)) wq := fun wq h => by
    have m := h.bm.run_look _ hok
    rw [hb] at m
    exact m
  unfold objV
  dsimp only
  go_enter Tryz.func88, Tryz.ntmps88
  go_wp2
  have hbW := hbo.below (Below.refl _ _).drew
  have hLW := hL.drew
  have hBW := hA.drew
  refine wp_region_held_drew (S := fun W => LS W p s (.slice (some ⟨g, 0, none⟩) s.code.length cap) nm nb ∧ BoxC W w.heap.size #[.string o.face.module, .slice a1 o.face.vars.length c1, .slice a2 o.face.procs.length c2, .slice a3 o.imports.length c3', .slice a4 o.code.length c4', .slice a5 o.relocs.length c5, .slice a6 o.procs.length c6, .slice a7 o.lows.length c7, .slice a8 o.highs.length c8, .int .i64 o.low, .int .i64 o.high, .int .i64 o.lowF, .int .i64 o.highF] 31) (by kernel_rfl) ⟨hLW, hbW⟩ (fun hS => ?_)
  generalize (w.alloc (.cells #[.string o.face.module, .slice a1 o.face.vars.length c1, .slice a2 o.face.procs.length c2, .slice a3 o.imports.length c3', .slice a4 o.code.length c4', .slice a5 o.relocs.length c5, .slice a6 o.procs.length c6, .slice a7 o.lows.length c7, .slice a8 o.highs.length c8, .int .i64 o.low, .int .i64 o.high, .int .i64 o.lowF, .int .i64 o.highF] 31)).drew = W at *
  have hB0 : w.heap.size = w.heap.size := rfl
  clear hL hbo hA h hLW hbW
  refine tkd (i := 0) (v := .pointer (some ⟨p.K, 0, none⟩)) rfl rfl (by kernel_rfl) (by kernel_rfl) (by kernel_rfl) (fun _ _ _ h => h) (Or.inl ⟨by rfl, fun wq hSw => by skip; go_simp⟩) hS ?_
  simp only [List.setIfInBounds_toArray, List.set_cons_zero, List.set_cons_succ]
  refine tkd (i := 1) (v := .pointer (some ⟨p.K, 0, none⟩)) rfl rfl (by kernel_rfl) (by kernel_rfl) (by kernel_rfl) (fun _ _ _ h => h) (Or.inl ⟨by rfl, fun wq hSw => by skip; go_simp⟩) hS ?_
  simp only [List.setIfInBounds_toArray, List.set_cons_zero, List.set_cons_succ]
  refine tkd (i := 2) (v := .pointer (some ⟨p.K, 5, none⟩)) rfl rfl (by kernel_rfl) (by kernel_rfl) (by kernel_rfl) (fun _ _ _ h => h) (Or.inl ⟨by rfl, fun wq hSw => by skip; go_simp⟩) hS ?_
  simp only [List.setIfInBounds_toArray, List.set_cons_zero, List.set_cons_succ]
  refine tkd (i := 3) (v := .map (some p.bb)) rfl rfl (by kernel_rfl) (by kernel_rfl) (by kernel_rfl) (fun _ _ _ h => h) (Or.inl ⟨by rfl, fun wq hSw => by have m := hSw.1.be; go_simp⟩) hS ?_
  simp only [List.setIfInBounds_toArray, List.set_cons_zero, List.set_cons_succ]
  refine tkd (i := 4) (v := .pointer (some ⟨w.heap.size, 0, none⟩)) rfl rfl (by kernel_rfl) (by kernel_rfl) (by kernel_rfl) (fun _ _ _ h => h) (Or.inl ⟨by rfl, fun wq hSw => by skip; go_simp⟩) hS ?_
  simp only [List.setIfInBounds_toArray, List.set_cons_zero, List.set_cons_succ]
  refine tkd (i := 5) (v := .pointer (some ⟨w.heap.size, 0, none⟩)) rfl rfl (by kernel_rfl) (by kernel_rfl) (by kernel_rfl) (fun _ _ _ h => h) (Or.inl ⟨by rfl, fun wq hSw => by skip; go_simp⟩) hS ?_
  simp only [List.setIfInBounds_toArray, List.set_cons_zero, List.set_cons_succ]
  refine tkd (i := 6) (v := .string o.face.module) rfl rfl (by kernel_rfl) (by kernel_rfl) (by kernel_rfl) (fun _ _ _ h => h) (Or.inl ⟨by rfl, fun wq hSw => by have m := hSw.2.cell 0 rfl; go_simp⟩) hS ?_
  simp only [List.setIfInBounds_toArray, List.set_cons_zero, List.set_cons_succ]
  refine tkd (i := 7) (v := .agg #[.int .i64 1, .string o.face.module, .string ⟨#[]⟩] ) rfl rfl (by kernel_rfl) (by kernel_rfl) (by kernel_rfl) (fun _ _ _ h => h) (Or.inl ⟨by rfl, fun wq hSw => by skip; go_simp⟩) hS ?_
  simp only [List.setIfInBounds_toArray, List.set_cons_zero, List.set_cons_succ]
  refine tkd (i := 8) (v := .int .i64 (b : Int)) rfl rfl (by kernel_rfl) (by kernel_rfl) (by kernel_rfl) (fun _ _ _ h => h) (Or.inl ⟨by rfl, fun wq hSw => by have m := hlk wq hSw.1; go_simp⟩) hS ?_
  simp only [List.setIfInBounds_toArray, List.set_cons_zero, List.set_cons_succ]
  refine tkd (i := 9) (v := .int .i64 (b : Int)) rfl rfl (by kernel_rfl) (by kernel_rfl) (by kernel_rfl) (fun _ _ _ h => h) (Or.inl ⟨by rfl, fun wq hSw => by skip; go_simp⟩) hS ?_
  simp only [List.setIfInBounds_toArray, List.set_cons_zero, List.set_cons_succ]
  refine wpAnyH_done (by kernel_rfl) ?_ _
  go_wp2
  replace hS : LS W.drew p s (.slice (some ⟨g, 0, none⟩) s.code.length cap) nm nb ∧ BoxC W.drew w.heap.size #[.string o.face.module, .slice a1 o.face.vars.length c1, .slice a2 o.face.procs.length c2, .slice a3 o.imports.length c3', .slice a4 o.code.length c4', .slice a5 o.relocs.length c5, .slice a6 o.procs.length c6, .slice a7 o.lows.length c7, .slice a8 o.highs.length c8, .int .i64 o.low, .int .i64 o.high, .int .i64 o.lowF, .int .i64 o.highF] 31 := ⟨hS.1.drew, hS.2.below (Below.refl _ _).drew⟩
  replace hBW := hBW.drew
  have hw1 : IntKind.i64.wrap ((b : Int) + (o.code.length : Int)) = (b : Int) + (o.code.length : Int) := by rw [IntKind.wrap_i64]; omega
  refine wp_region_held_drew (S := fun W => LS W p s (.slice (some ⟨g, 0, none⟩) s.code.length cap) nm nb ∧ BoxC W w.heap.size #[.string o.face.module, .slice a1 o.face.vars.length c1, .slice a2 o.face.procs.length c2, .slice a3 o.imports.length c3', .slice a4 o.code.length c4', .slice a5 o.relocs.length c5, .slice a6 o.procs.length c6, .slice a7 o.lows.length c7, .slice a8 o.highs.length c8, .int .i64 o.low, .int .i64 o.high, .int .i64 o.lowF, .int .i64 o.highF] 31) (by kernel_rfl) hS (fun hS => ?_)
  generalize W.drew = W2 at *
  have hle : 0 ≤ (b : Int) + (o.code.length : Int) ∧ (b : Int) + (o.code.length : Int) ≤ (cap : Int) := by omega
  have htn : ((b : Int) + (o.code.length : Int)).toNat = b + o.code.length := by omega
  have hsub : b + o.code.length - b = o.code.length := by omega
  by_cases hcb : cap = b
  · have HZ : Hid (o.code.length = 0) := by show _ = _; omega
    have hno : ¬ (b : Int) < (b : Int) + (o.code.length : Int) := by have := HZ.out; omega
    refine tkd (i := 0) (v := .pointer (some ⟨p.K, 0, none⟩)) rfl rfl (by kernel_rfl) (by kernel_rfl) (by kernel_rfl) (fun _ _ _ h => h) (Or.inl ⟨by rfl, fun wq hSw => by skip; go_simp⟩) hS ?_
    simp only [List.setIfInBounds_toArray, List.set_cons_zero, List.set_cons_succ]
    refine tkd (i := 1) (v := .pointer (some ⟨p.K, 0, none⟩)) rfl rfl (by kernel_rfl) (by kernel_rfl) (by kernel_rfl) (fun _ _ _ h => h) (Or.inl ⟨by rfl, fun wq hSw => by skip; go_simp⟩) hS ?_
    simp only [List.setIfInBounds_toArray, List.set_cons_zero, List.set_cons_succ]
    refine tkd (i := 2) (v := .pointer (some ⟨p.K, 0, none⟩)) rfl rfl (by kernel_rfl) (by kernel_rfl) (by kernel_rfl) (fun _ _ _ h => h) (Or.inl ⟨by rfl, fun wq hSw => by skip; go_simp⟩) hS ?_
    simp only [List.setIfInBounds_toArray, List.set_cons_zero, List.set_cons_succ]
    refine tkd (i := 3) (v := .pointer (some ⟨p.K, 0, none⟩)) rfl rfl (by kernel_rfl) (by kernel_rfl) (by kernel_rfl) (fun _ _ _ h => h) (Or.inl ⟨by rfl, fun wq hSw => by skip; go_simp⟩) hS ?_
    simp only [List.setIfInBounds_toArray, List.set_cons_zero, List.set_cons_succ]
    refine tkd (i := 4) (v := .slice (some ⟨g, 0, none⟩) s.code.length cap) rfl rfl (by kernel_rfl) (by kernel_rfl) (by kernel_rfl) (fun _ _ _ h => h) (Or.inl ⟨by rfl, fun wq hSw => by have m := hSw.1.cod; go_simp⟩) hS ?_
    simp only [List.setIfInBounds_toArray, List.set_cons_zero, List.set_cons_succ]
    refine tkd (i := 5) (v := .int .i64 (b : Int)) rfl rfl (by kernel_rfl) (by kernel_rfl) (by kernel_rfl) (fun _ _ _ h => h) (Or.inl ⟨by rfl, fun wq hSw => by skip; go_simp⟩) hS ?_
    simp only [List.setIfInBounds_toArray, List.set_cons_zero, List.set_cons_succ]
    refine tkd (i := 6) (v := .int .i64 (b : Int)) rfl rfl (by kernel_rfl) (by kernel_rfl) (by kernel_rfl) (fun _ _ _ h => h) (Or.inl ⟨by rfl, fun wq hSw => by skip; go_simp⟩) hS ?_
    simp only [List.setIfInBounds_toArray, List.set_cons_zero, List.set_cons_succ]
    refine tkd (i := 7) (v := .pointer (some ⟨w.heap.size, 4, none⟩)) rfl rfl (by kernel_rfl) (by kernel_rfl) (by kernel_rfl) (fun _ _ _ h => h) (Or.inl ⟨by rfl, fun wq hSw => by skip; go_simp⟩) hS ?_
    simp only [List.setIfInBounds_toArray, List.set_cons_zero, List.set_cons_succ]
    refine tkd (i := 8) (v := .slice a4 o.code.length c4') rfl rfl (by kernel_rfl) (by kernel_rfl) (by kernel_rfl) (fun _ _ _ h => h) (Or.inl ⟨by rfl, fun wq hSw => by have m := hSw.2.cell 4 rfl; go_simp⟩) hS ?_
    simp only [List.setIfInBounds_toArray, List.set_cons_zero, List.set_cons_succ]
    refine tkd (i := 9) (v := .int .i64 (o.code.length : Int)) rfl rfl (by kernel_rfl) (by kernel_rfl) (by kernel_rfl) (fun _ _ _ h => h) (Or.inl ⟨by rfl, fun wq hSw => by skip; go_simp⟩) hS ?_
    simp only [List.setIfInBounds_toArray, List.set_cons_zero, List.set_cons_succ]
    refine tkd (i := 10) (v := .int .i64 ((b : Int) + (o.code.length : Int))) rfl rfl (by kernel_rfl) (by kernel_rfl) (by kernel_rfl) (fun _ _ _ h => h) (Or.inl ⟨by rfl, fun wq hSw => by have m := hw1; go_simp⟩) hS ?_
    simp only [List.setIfInBounds_toArray, List.set_cons_zero, List.set_cons_succ]
    refine tkd (i := 11) (v := .slice (some ⟨g, 0, none⟩) o.code.length (cap - b)) rfl rfl (by kernel_rfl) (by kernel_rfl) (by kernel_rfl) (fun _ _ _ h => h) (Or.inl ⟨by rfl, fun wq hSw => by have m1 := hle; have m2 := htn; have m3 := hsub; have m5 := hno; go_simp⟩) hS ?_
    simp only [List.setIfInBounds_toArray, List.set_cons_zero, List.set_cons_succ]
    refine tkd (i := 12) (v := .slice (some ⟨g, 0, none⟩) o.code.length (cap - b)) rfl rfl (by kernel_rfl) (by kernel_rfl) (by kernel_rfl) (fun _ _ _ h => h) (Or.inl ⟨by rfl, fun wq hSw => by skip; go_simp⟩) hS ?_
    simp only [List.setIfInBounds_toArray, List.set_cons_zero, List.set_cons_succ]
    refine wpAnyH_done (by kernel_rfl) ?_ _
    go_wp2
    go_ret
    exact ⟨hBW, _, _, rfl, fun h => by have := HZ.out; omega⟩
  · have hcb2 : ¬ (cap - b = 0) := by omega
    refine tkd (i := 0) (v := .pointer (some ⟨p.K, 0, none⟩)) rfl rfl (by kernel_rfl) (by kernel_rfl) (by kernel_rfl) (fun _ _ _ h => h) (Or.inl ⟨by rfl, fun wq hSw => by skip; go_simp⟩) hS ?_
    simp only [List.setIfInBounds_toArray, List.set_cons_zero, List.set_cons_succ]
    refine tkd (i := 1) (v := .pointer (some ⟨p.K, 0, none⟩)) rfl rfl (by kernel_rfl) (by kernel_rfl) (by kernel_rfl) (fun _ _ _ h => h) (Or.inl ⟨by rfl, fun wq hSw => by skip; go_simp⟩) hS ?_
    simp only [List.setIfInBounds_toArray, List.set_cons_zero, List.set_cons_succ]
    refine tkd (i := 2) (v := .pointer (some ⟨p.K, 0, none⟩)) rfl rfl (by kernel_rfl) (by kernel_rfl) (by kernel_rfl) (fun _ _ _ h => h) (Or.inl ⟨by rfl, fun wq hSw => by skip; go_simp⟩) hS ?_
    simp only [List.setIfInBounds_toArray, List.set_cons_zero, List.set_cons_succ]
    refine tkd (i := 3) (v := .pointer (some ⟨p.K, 0, none⟩)) rfl rfl (by kernel_rfl) (by kernel_rfl) (by kernel_rfl) (fun _ _ _ h => h) (Or.inl ⟨by rfl, fun wq hSw => by skip; go_simp⟩) hS ?_
    simp only [List.setIfInBounds_toArray, List.set_cons_zero, List.set_cons_succ]
    refine tkd (i := 4) (v := .slice (some ⟨g, 0, none⟩) s.code.length cap) rfl rfl (by kernel_rfl) (by kernel_rfl) (by kernel_rfl) (fun _ _ _ h => h) (Or.inl ⟨by rfl, fun wq hSw => by have m := hSw.1.cod; go_simp⟩) hS ?_
    simp only [List.setIfInBounds_toArray, List.set_cons_zero, List.set_cons_succ]
    refine tkd (i := 5) (v := .int .i64 (b : Int)) rfl rfl (by kernel_rfl) (by kernel_rfl) (by kernel_rfl) (fun _ _ _ h => h) (Or.inl ⟨by rfl, fun wq hSw => by skip; go_simp⟩) hS ?_
    simp only [List.setIfInBounds_toArray, List.set_cons_zero, List.set_cons_succ]
    refine tkd (i := 6) (v := .int .i64 (b : Int)) rfl rfl (by kernel_rfl) (by kernel_rfl) (by kernel_rfl) (fun _ _ _ h => h) (Or.inl ⟨by rfl, fun wq hSw => by skip; go_simp⟩) hS ?_
    simp only [List.setIfInBounds_toArray, List.set_cons_zero, List.set_cons_succ]
    refine tkd (i := 7) (v := .pointer (some ⟨w.heap.size, 4, none⟩)) rfl rfl (by kernel_rfl) (by kernel_rfl) (by kernel_rfl) (fun _ _ _ h => h) (Or.inl ⟨by rfl, fun wq hSw => by skip; go_simp⟩) hS ?_
    simp only [List.setIfInBounds_toArray, List.set_cons_zero, List.set_cons_succ]
    refine tkd (i := 8) (v := .slice a4 o.code.length c4') rfl rfl (by kernel_rfl) (by kernel_rfl) (by kernel_rfl) (fun _ _ _ h => h) (Or.inl ⟨by rfl, fun wq hSw => by have m := hSw.2.cell 4 rfl; go_simp⟩) hS ?_
    simp only [List.setIfInBounds_toArray, List.set_cons_zero, List.set_cons_succ]
    refine tkd (i := 9) (v := .int .i64 (o.code.length : Int)) rfl rfl (by kernel_rfl) (by kernel_rfl) (by kernel_rfl) (fun _ _ _ h => h) (Or.inl ⟨by rfl, fun wq hSw => by skip; go_simp⟩) hS ?_
    simp only [List.setIfInBounds_toArray, List.set_cons_zero, List.set_cons_succ]
    refine tkd (i := 10) (v := .int .i64 ((b : Int) + (o.code.length : Int))) rfl rfl (by kernel_rfl) (by kernel_rfl) (by kernel_rfl) (fun _ _ _ h => h) (Or.inl ⟨by rfl, fun wq hSw => by have m := hw1; go_simp⟩) hS ?_
    simp only [List.setIfInBounds_toArray, List.set_cons_zero, List.set_cons_succ]
    refine tkd (i := 11) (v := .slice (some ⟨g, b * 5, none⟩) o.code.length (cap - b)) rfl rfl (by kernel_rfl) (by kernel_rfl) (by kernel_rfl) (fun _ _ _ h => h) (Or.inl ⟨by rfl, fun wq hSw => by have m1 := hle; have m2 := htn; have m3 := hsub; skip; go_simp⟩) hS ?_
    simp only [List.setIfInBounds_toArray, List.set_cons_zero, List.set_cons_succ]
    refine tkd (i := 12) (v := .slice (some ⟨g, b * 5, none⟩) o.code.length (cap - b)) rfl rfl (by kernel_rfl) (by kernel_rfl) (by kernel_rfl) (fun _ _ _ h => h) (Or.inl ⟨by rfl, fun wq hSw => by skip; go_simp⟩) hS ?_
    simp only [List.setIfInBounds_toArray, List.set_cons_zero, List.set_cons_succ]
    refine wpAnyH_done (by kernel_rfl) ?_ _
    go_wp2
    go_ret
    exact ⟨hBW, _, _, rfl, fun _ => rfl⟩
end Go.Proofs.YtaiocbbcjdpjgaaGreatDoor.lnk
