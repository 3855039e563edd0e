/- The law ObjectBack: an object's bytes are read as it, and that has the same bytes; no shorter row of bytes is read. (Written by mkback.py: edit that.) -/
import Derived.Test.YtpghikgmdenagaaGreatDoorBObjGetW
import Derived.Test.YtpghikgmdenagaaGreatDoorBObjPut
import Derived.Test.YtpghikgmdenagaaGreatDoorBObjStr
namespace Go.Proofs.YtpghikgmdenagaaGreatDoor.obj
open Go.RowKit Go.ChangeShapes Go.WideShapes
open Go.Proofs.YtpghikgmdenagaaGreatDoor.lexs (HasErr)
open Go.Proofs.YtpghikgmdenagaaGreatDoor.mac (Ins BoxC)
open Go.Proofs.YtpghikgmdenagaaGreatDoor.face (VarD ProcD FaceD IntsIn VarsIn ProcsIn)
set_option linter.unusedVariables false
set_option linter.unusedSimpArgs false
set_option maxRecDepth 100000
theorem small_of {o : ObjD} (h : mayO o = true) (hf : Fit o) : Small o := by
  simp only [mayO, facesB, codeB, Bool.and_eq_true, decide_eq_true_eq] at h
  obtain ⟨⟨_, h2, _, _⟩, ⟨h4, _⟩, _⟩ := h
  exact ⟨by omega, by omega, hf.rel, hf.procs, hf.lows, hf.highs⟩
theorem small_back {o : ObjD} (h : mayO o = true) (hf : Fit o) : ∀ p l2, getO (objB o) = some (p, l2) → Small p := fun p l2 e => by
  have := (okO h hf).bk []
  rw [List.append_nil, e] at this
  simp only [Option.some.injEq, Prod.mk.injEq] at this
  rw [this.1]
  exact small_of h hf
theorem small_len {l : By} (hl : l.length ≤ 1048576) : ∀ p l2, getO l = some (p, l2) → Small p := fun p l2 h => by
  unfold getO at h
  simp only [Option.bind_eq_some_iff] at h
  obtain ⟨⟨x1, r1⟩, h1, ⟨x2, r2⟩, h2, ⟨x3, r3⟩, h3, ⟨x4, r4⟩, h4, ⟨x5, r5⟩, h5, ⟨x6, r6⟩, h6, ⟨x7, r7⟩, h7, ⟨x8, r8⟩, h8, ⟨x9, r9⟩, h9, ⟨x10, r10⟩, h10, ⟨x11, r11⟩, h11, e⟩ := h
  cases e
  have k1 := eatsFace _ _ _ h1
  have k2 := getL_len eatsFace h2
  have k3 := getL_len eatsIns h3
  have k4 := getL_len eatsRel h4
  have k5 := getL_len eatsPlc h5
  have k6 := getL_len eatsPlc h6
  have k7 := getL_len eatsPlc h7
  dsimp only at *
  refine ⟨?_, ?_, ?_, ?_, ?_, ?_⟩ <;> (dsimp only; omega)
/-- bytes in a row of one's own, as an argument -/
theorem own_arg {w W : World} {b g c : Nat} {l : By} (h : w.ownsRow b 5 1 (.slice (some ⟨g, 0, none⟩) l.length c) l.length (bv l)) (hg : g < w.heap.size) (hb : Below w.heap.size w W) (n : Nat) (hn : n ≤ l.length) : ByArg W (some ⟨g, 0, none⟩) c (l.take n) := by
  have hcap : l.length ≤ c ∧ c ≤ 9223372036854775807 := by
    rcases h.2 with ⟨e, _⟩ | ⟨g', cap, cur, e, _, _, e2, e3, _⟩
    · cases e
    · cases e
      exact ⟨e2, e3⟩
  refine ⟨by rw [List.length_take]; omega, hcap.2, (fun e => by cases e), (fun x e => by cases e; exact ⟨g, 0, rfl⟩), fun _ => ⟨g, 0, rfl, Nat.lt_of_lt_of_le hg hb.size, fun i hi => ?_⟩⟩
  have hi' : i < l.length := by rw [List.length_take] at hi; omega
  have h1 := h.cells (g := g) rfl i (.int .u8 l[i].toNat) (by simp [bv, hi'])
  rw [add_plain] at h1
  rw [hb.cell (p := ⟨g, 0 + i, none⟩) hg, h1, List.getElem_take]
set_option maxHeartbeats 4000000 in
theorem back_walk (o : ObjD) (x : Vals) (cut : Nat) (hcut : cut ≤ 65535) (w : World) (hw : HasErr w) (ho : ObjAt w x o) (fo : Fit o) :
    Calls Tryz.prog 5 #[objV o x, .int .u16 cut] w fun e w' => e = .returned (.bool true) ∧ Below w.heap.size w w' := by
  have c13 : Tryz.prog.cellsOf 31 = 13 := by kernel_rfl
  obtain ⟨a1, c1, a2, c2, a3, c3, a4, c4, a5, c5, a6, c6, a7, c7, a8, c8, rfl⟩ := ho.shape
  have hB := (Below.refl w.heap.size w).alloc (Nat.le_refl _) (.cells #[.string o.face.module, .slice a1 o.face.vars.length c1, .slice a2 o.face.procs.length c2, .slice a3 o.imports.length c3, .slice a4 o.code.length c4, .slice a5 o.relocs.length c5, .slice a6 o.procs.length c6, .slice a7 o.lows.length c7, .slice a8 o.highs.length c8, .int .i64 o.low, .int .i64 o.high, .int .i64 o.lowF, .int .i64 o.highF] 31)
  have hC := oPut o _ _ (face.HasErr.below hw hB) (ho.below hB) fo
  unfold objV at hC ⊢
  dsimp only at hC ⊢
  go_enter Tryz.func5, Tryz.ntmps5
  go_wp2_with (fail)
  refine hC.mono ?_
  rintro e w1 ⟨hb1, hE1⟩
  clear hC
  replace hB := hB.trans (hb1.mono hB.size)
  clear hb1 ho
  cases hm : mayO o
  · rw [hm] at hE1
    simp only [Bool.false_eq_true, if_false] at hE1
    subst hE1
    go_wp2
    go_ret
    exact ⟨rfl, hB⟩
  · rw [hm] at hE1
    simp only [if_true] at hE1
    obtain ⟨v1, rfl, hown1⟩ := hE1
    have hp1 := obj_pos o
    have hle := (okO hm fo).le
    obtain ⟨g1, k1, rfl, hg1⟩ := own_pos hown1 hp1
    have hArg := own_arg hown1 hg1 (Below.refl _ _) (objB o).length (Nat.le_refl _)
    rw [List.take_length] at hArg
    have hG := oGet hArg (face.HasErr.below hw hB) (by omega) (small_back hm fo)
    rw [all_back hm fo] at hG
    go_wp2_with (fail)
    refine hG.mono ?_
    rintro e w2 ⟨hb2, y, rfl, hy⟩
    clear hG hArg
    obtain ⟨d1, e1, d2, e2, d3, e3, d4, e4, d5, e5, d6, e6, d7, e7, d8, e8, rfl⟩ := hy.shape
    have hB2 := hB.trans (hb2.mono hB.size)
    have hb2' := hb2
    have hA3 := (Below.refl w2.heap.size w2).alloc (Nat.le_refl _) (.cells #[.string o.face.module, .slice d1 o.face.vars.length e1, .slice d2 o.face.procs.length e2, .slice d3 o.imports.length e3, .slice d4 o.code.length e4, .slice d5 o.relocs.length e5, .slice d6 o.procs.length e6, .slice d7 o.lows.length e7, .slice d8 o.highs.length e8, .int .i64 o.low, .int .i64 o.high, .int .i64 o.lowF, .int .i64 o.highF] 31)
    have hB3 := hB2.trans (hA3.mono hB2.size)
    have hP := oPut o _ _ (face.HasErr.below hw hB3) (hy.below hA3) fo
    unfold objV at hP ⊢
    simp only [Option.getD_some, Option.isSome_some, if_true] at hP ⊢
    go_wp2_with (fail)
    refine hP.mono ?_
    rintro e w3 ⟨hb3, hE3⟩
    clear hP
    rw [hm] at hE3
    simp only [if_true] at hE3
    obtain ⟨v3, rfl, hown3⟩ := hE3
    obtain ⟨g3, k3, rfl, hg3⟩ := own_pos hown3 hp1
    replace hB3 := hB3.trans (hb3.mono hB3.size)
    have hb13 : Below w1.heap.size w1 w3 := (hb2.trans (hA3.mono hb2.size)).trans (hb3.mono (by have := hb2.size; simp; omega))
    clear hb2 hb2' hA3 hb3 hy
    have hcv : wrap64 (cut : Int) = (cut : Int) := by unfold wrap64; omega
    have hL : 0 < ((objB o).length : Int) := by omega
    by_cases hlt : cut < (objB o).length
    · have hltI : (cut : Int) < ((objB o).length : Int) := by omega
      have hS := all_short hm fo hlt
      have hArg := own_arg hown1 hg1 hb13 cut (by omega)
      have hcl : ((objB o).take cut).length = cut := by rw [List.length_take]; omega
      have hG := oGet hArg (face.HasErr.below hw hB3) (by omega) (small_len (by omega))
      rw [hS, hcl] at hG
      clear hS hArg
      generalize hN : objB o = LL at *
      have hcap : LL.length ≤ k1 := by
        rcases hown1.2 with ⟨e, _⟩ | ⟨g', cap, cur, e, _, _, e2, e3, _⟩
        · cases e
        · cases e
          exact e2
      go_wp2_with (fail)
      refine hG.mono ?_
      rintro e w4 ⟨hb4, y, rfl, hy⟩
      clear hG
      obtain ⟨s1, t1, s2, t2, s3, t3, s4, t4, s5, t5, s6, t6, s7, t7, s8, t8, rfl⟩ := hy.shape
      have hB4 := hB3.trans (hb4.mono hB3.size)
      have hA5 := (Below.refl w4.heap.size w4).alloc (Nat.le_refl _) (.cells #[.string zeroO.face.module, .slice s1 zeroO.face.vars.length t1, .slice s2 zeroO.face.procs.length t2, .slice s3 zeroO.imports.length t3, .slice s4 zeroO.code.length t4, .slice s5 zeroO.relocs.length t5, .slice s6 zeroO.procs.length t6, .slice s7 zeroO.lows.length t7, .slice s8 zeroO.highs.length t8, .int .i64 zeroO.low, .int .i64 zeroO.high, .int .i64 zeroO.lowF, .int .i64 zeroO.highF] 31)
      have hS1 := conv_bytes hown1 hp1 _ ((hb13.trans (hb4.mono hb13.size)).trans (hA5.mono (Nat.le_trans hb13.size hb4.size)))
      have hS3 := conv_bytes hown3 hp1 _ (hb4.trans (hA5.mono hb4.size))
      have HB : Hid (Below w.heap.size w (w4.alloc (.cells #[.string zeroO.face.module, .slice s1 zeroO.face.vars.length t1, .slice s2 zeroO.face.procs.length t2, .slice s3 zeroO.imports.length t3, .slice s4 zeroO.code.length t4, .slice s5 zeroO.relocs.length t5, .slice s6 zeroO.procs.length t6, .slice s7 zeroO.lows.length t7, .slice s8 zeroO.highs.length t8, .int .i64 zeroO.low, .int .i64 zeroO.high, .int .i64 zeroO.lowF, .int .i64 zeroO.highF] 31))) := hB4.trans (hA5.mono hB4.size)
      clear hb4 hA5 hB4 hy hown1 hown3 hb13 hB3 hB2 hB hN
      unfold objV
      simp only [Option.getD_none, Option.isSome_none, Bool.false_eq_true, if_false]
      go_wp2
      go_ret
      exact ⟨rfl, HB.out⟩
    · have hltI : ¬ (cut : Int) < ((objB o).length : Int) := by omega
      have hS1 := conv_bytes hown1 hp1 _ hb13
      have hS3 := conv_bytes hown3 hp1 _ (Below.refl _ _)
      generalize hN : objB o = LL at *
      clear hown1 hown3 hb13 hB2 hB hN
      go_wp2
      go_ret
      exact ⟨rfl, hB3⟩
end Go.Proofs.YtpghikgmdenagaaGreatDoor.obj
