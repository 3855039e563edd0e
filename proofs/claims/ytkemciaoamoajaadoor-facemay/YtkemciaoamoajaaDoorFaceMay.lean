/- The law FaceMay, walked. -/
import Derived.Test.YtkemciaoamoajaaDoorProg
import Derived.WalkKit
import Derived.WalkLawsBesides
import Derived.Outline
import Derived.WalkSmall
import Derived.BigQuiet
import Derived.Deep.QuietTactic
import Derived.Deep.RegionWith
import Derived.Test.YtkemciaoamoajaaDoorFaceOwnD
import Derived.Test.YtkemciaoamoajaaDoorFaceRefA
import Derived.Test.YtkemciaoamoajaaDoorFaceRefC
namespace Go.Proofs.YtkemciaoamoajaaDoor.face
open Go.RowKit
open Go.Proofs.YtkemciaoamoajaaDoor.lexs (HasErr)
set_option linter.unusedVariables false
set_option linter.unusedSimpArgs false
set_option maxRecDepth 100000

theorem FaceIn.mk {w : World} {f : FaceD} {x : ByteArray} {vv pv : Value} (e : x = f.module) (h1 : VarsIn w vv f.vars) (h2 : ProcsIn w pv f.procs) : FaceIn w (.agg #[.string x, vv, pv]) f := by
  subst e
  exact ⟨vv, pv, rfl, h1, h2⟩
set_option maxHeartbeats 2000000 in
theorem faceMay_walk (f g : FaceD) (u v : Value) (w : World) (hw : HasErr w) (hu : FaceIn w u f) (hv : FaceIn w v g) :
    Calls Tryd.prog 5 #[u, v] w fun e w' => e = .returned (.bool true) ∧ Below w.heap.size w w' := by
  have c3 : Tryd.prog.cellsOf 34 = 3 := cell3
  obtain ⟨va, pa, rfl, hva, hpa⟩ := hu
  obtain ⟨vb, pb, rfl, hvb, hpb⟩ := hv
  obtain ⟨a, c, e1, hva'⟩ := id hva
  obtain ⟨a2, c2, e2, hpa'⟩ := id hpa
  obtain ⟨b, d, e3, hvb'⟩ := id hvb
  obtain ⟨b2, d2, e4, hpb'⟩ := id hpb
  clear hva' hpa' hvb' hpb'
  subst e1 e2 e3 e4
  have HB0 := below_allocs (w := w) (.cells #[.string f.module, .slice a f.vars.length c, .slice a2 f.procs.length c2] 34) (.cells #[.string g.module, .slice b g.vars.length d, .slice b2 g.procs.length d2] 34)
  have hAll : Hid (∀ w', Below w.heap.size w w' → FaceIn w' (.agg #[.string f.module, .slice a f.vars.length c, .slice a2 f.procs.length c2]) f ∧ FaceIn w' (.agg #[.string g.module, .slice b g.vars.length d, .slice b2 g.procs.length d2]) g ∧ HasErr w') :=
    fun w' hb => ⟨FaceIn.mk rfl (hva.below hb) (hpa.below hb), FaceIn.mk rfl (hvb.below hb) (hpb.below hb), HasErr.below hw hb⟩
  have hStep : Hid (∀ w1 w2, (∀ k, w1.cell? ⟨w.heap.size, k, none⟩ = (#[.string f.module, .slice a f.vars.length c, .slice a2 f.procs.length c2] : Array Value)[k]? ∧ w1.cell? ⟨w.heap.size + 1, k, none⟩ = (#[.string g.module, .slice b g.vars.length d, .slice b2 g.procs.length d2] : Array Value)[k]?) → w.heap.size + 1 < w1.heap.size → Below w1.heap.size w1 w2 →
      (∀ k, w2.cell? ⟨w.heap.size, k, none⟩ = (#[.string f.module, .slice a f.vars.length c, .slice a2 f.procs.length c2] : Array Value)[k]? ∧ w2.cell? ⟨w.heap.size + 1, k, none⟩ = (#[.string g.module, .slice b g.vars.length d, .slice b2 g.procs.length d2] : Array Value)[k]?) ∧ w.heap.size + 1 < w2.heap.size) :=
    fun w1 w2 hc hl hb => ⟨fun k => ⟨by rw [hb.cell (p := ⟨w.heap.size, k, none⟩) (by show w.heap.size < _; omega)]; exact (hc k).1, by rw [hb.cell (p := ⟨w.heap.size + 1, k, none⟩) hl]; exact (hc k).2⟩, Nat.lt_of_lt_of_le hl hb.size⟩
  obtain ⟨F0, G0, E0⟩ := hAll.out _ HB0
  have hM := oMay f _ _ E0 F0
  clear hva hpa hvb hpb
  go_enter Tryd.func5, Tryd.ntmps5
  go_wp2_with first
    | (go_at_call 8; refine hM.mono ?_; rintro e w1 ⟨rfl, hb1⟩; have hC1 := hStep.out _ w1 (fun k => ⟨by simp, by simp⟩) (by simp) hb1; have hB1 := HB0.trans (hb1.mono HB0.size); have p0 := (hC1.1 0).1; have p1 := (hC1.1 1).1; have p2 := (hC1.1 2).1; have p3 := (hC1.1 0).2; have p4 := (hC1.1 1).2; have p5 := (hC1.1 2).2; simp at p0 p1 p2 p3 p4 p5; obtain ⟨F1, G1, E1⟩ := hAll.out _ hB1; have hS := oSame f g _ _ _ F1 G1)
    | (go_at_call 9; refine hS.mono ?_; rintro e w2 ⟨rfl, hb2⟩; have hC2 := hStep.out _ w2 hC1.1 hC1.2 hb2; have hB2 := hB1.trans (hb2.mono hB1.size); clear p0 p1 p2 p3 p4 p5; have p0 := (hC2.1 0).1; have p1 := (hC2.1 1).1; have p2 := (hC2.1 2).1; have p3 := (hC2.1 0).2; have p4 := (hC2.1 1).2; have p5 := (hC2.1 2).2; simp at p0 p1 p2 p3 p4 p5; obtain ⟨F2, G2, E2⟩ := hAll.out _ hB2; have hR := rMay f _ _ F2)
    | (go_at_call 10; refine hR.mono ?_; rintro e w3 ⟨rfl, hb3⟩; have hC3 := hStep.out _ w3 hC2.1 hC2.2 hb3; have hB3 := hB2.trans (hb3.mono hB2.size); clear p0 p1 p2 p3 p4 p5; have p0 := (hC3.1 0).1; have p1 := (hC3.1 1).1; have p2 := (hC3.1 2).1; have p3 := (hC3.1 0).2; have p4 := (hC3.1 1).2; have p5 := (hC3.1 2).2; simp at p0 p1 p2 p3 p4 p5; obtain ⟨F3, G3, E3⟩ := hAll.out _ hB3; have hT := rSame f g _ _ _ F3 G3)
    | (go_at_call 11; refine hT.mono ?_; rintro e w4 ⟨rfl, hb4⟩)
  go_ret
  exact ⟨by simp, hB3.trans (hb4.mono hB3.size)⟩
end Go.Proofs.YtkemciaoamoajaaDoor.face
