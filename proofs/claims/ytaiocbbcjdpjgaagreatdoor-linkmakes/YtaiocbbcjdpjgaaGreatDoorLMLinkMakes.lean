/- The law LinkMakes: the program makes the image that the reference makes, or tells the same trouble: the walk. -/
import Derived.Test.YtaiocbbcjdpjgaaGreatDoorLMLnkRefF
namespace Go.Proofs.YtaiocbbcjdpjgaaGreatDoor.lnk
open Go.RowKit
open Go.Proofs.YtaiocbbcjdpjgaaGreatDoor.syn (isName eqS)
open Go.Proofs.YtaiocbbcjdpjgaaGreatDoor.mac (BoxC Ins grown_of_below)
open Go.Proofs.YtaiocbbcjdpjgaaGreatDoor.obj (ObjD PlcD RelD Vals ObjAt PlcsIn RelsIn CodeIn FacesIn objV relV mayO)
open Go.Proofs.YtaiocbbcjdpjgaaGreatDoor.lexs (HasErr hasErr_below)
open Go.Proofs.YtaiocbbcjdpjgaaGreatDoor.face (VarD ProcD FaceD FaceIn keep VarsIn ProcsIn IntsIn)
set_option linter.unusedVariables false
set_option linter.unusedSimpArgs false
set_option maxRecDepth 100000
theorem eqT (a b c : Int) (w : World) : (Op.equalIn 10000 46 (.agg #[.int .i64 a, .int .i64 b, .int .i64 c]) (.agg #[.int .i64 a, .int .i64 b, .int .i64 c])).run Tryz.prog w = .ok true w := by
  have hS : Tryz.prog.underlying 46 = some (.struct (Tryz.prog.fieldsOf 46)) := by kernel_rfl
  have hp : Tryz.prog.stoodInHeld 46 = false := by kernel_rfl
  have u4 := Tryz.underlying3
  have u5 := Tryz.isAgg3
  have u6 := Tryz.sizeOf3
  have u7 := Tryz.underlying34
  have u8 := Tryz.isAgg34
  have u9 := Tryz.sizeOf34
  rw [show (10000 : Nat) = 9999 + 1 from rfl, run_equalIn_agg w 9999 46 _ _ hS hp]
  simp only [Program.fieldsOf, Tryz.underlying46]
  go_simp
theorem rLink {w : World} {l : List ObjD} {a : Option Addr} {c : Nat} (ho : ObjsIn w (.slice a l.length c) l) (hcap : l.length ≤ c) :
    Calls Tryz.prog 14 #[.slice a l.length c] w (LinkE w l (linkT l)) := by
  cases hw : wrongT l with
  | some t => exact rLink_bad ho hcap hw
  | none => exact rLink_good ho hcap hw
set_option maxHeartbeats 4000000 in
theorem makes_walk {w : World} {l : List ObjD} {a : Option Addr} {c : Nat} (ho : ObjsIn w (.slice a l.length c) l) (hcap : l.length ≤ c) (he : HasErr w) :
    Calls Tryz.prog 5 #[.slice a l.length c] w fun e w' => e = .returned (.bool true) ∧ Below w.heap.size w w' := by
  have c3 : Tryz.prog.cellsOf 44 = 3 := by kernel_rfl
  have c3t : Tryz.prog.cellsOf 46 = 3 := by kernel_rfl
  have hC := oLink ho he
  have HOB : Hid (ObjsIn w (.slice a l.length c) l) := ho
  clear ho he
  generalize hTT : linkT l = T at *
  obtain ⟨t, ht⟩ : ∃ t, t = T.getD (0, 0, 0) := ⟨_, rfl⟩
  have hR : Hid (∀ W, Below w.heap.size w W → Calls Tryz.prog 14 #[.slice a l.length c] W (LinkE W l T)) := fun W hb => by rw [← hTT]; exact rLink (HOB.out.below hb) hcap
  clear hTT
  go_enter Tryz.func5, Tryz.ntmps5
  go_wp2_with (fail)
  refine hC.mono ?_
  clear hC
  rintro e w1 ⟨hb1, a1, n1, cap1, lo1, hi1, cs1, rfl, hn1, hc1, hx1⟩
  subst hn1
  rw [← ht]
  have HX1 : Hid ((cs1, lo1, hi1) = if T.isSome = true then ([], 0, 0) else (codeP l, lowP l, highP l)) := hx1
  clear hx1
  obtain ⟨s1, s2, s3⟩ := t
  dsimp only
  have hB1 : Below w.heap.size w ((w1.alloc (.cells #[.slice a1 cs1.length cap1, .int .i64 lo1, .int .i64 hi1] 44)).alloc (.cells #[.int .i64 s1, .int .i64 s2, .int .i64 s3] 46)) := (hb1.alloc hb1.size _).alloc (by have := hb1.size; simp; omega) _
  have hbA := (BoxC.new w1 #[.slice a1 cs1.length cap1, .int .i64 lo1, .int .i64 hi1] 44).alloc (.cells #[.int .i64 s1, .int .i64 s2, .int .i64 s3] 46)
  have hbB := BoxC.new (w1.alloc (.cells #[.slice a1 cs1.length cap1, .int .i64 lo1, .int .i64 hi1] 44)) #[.int .i64 s1, .int .i64 s2, .int .i64 s3] 46
  rw [World.size_alloc] at hbB
  replace hc1 := (hc1.below ((Below.refl w1.heap.size w1).alloc (Nat.le_refl _) (.cells #[.slice a1 cs1.length cap1, .int .i64 lo1, .int .i64 hi1] 44))).below ((Below.refl _ _).alloc (Nat.le_refl _) (.cells #[.int .i64 s1, .int .i64 s2, .int .i64 s3] 46))
  have hC2 := hR.out _ hB1
  clear hb1
  go_wp2_with (fail)
  refine hC2.mono ?_
  clear hC2
  generalize (w1.alloc (.cells #[.slice a1 cs1.length cap1, .int .i64 lo1, .int .i64 hi1] 44)).alloc (.cells #[.int .i64 s1, .int .i64 s2, .int .i64 s3] 46) = W1 at *
  rintro e w2 ⟨hb2, a2, n2, cap2, lo2, hi2, cs2, rfl, hn2, hc2, hx2⟩
  rw [← ht]
  dsimp only
  have hxx := HX1.out.trans hx2.symm
  simp only [Prod.mk.injEq] at hxx
  obtain ⟨rfl, rfl, rfl⟩ := hxx
  clear hx2 HX1 hR ht HOB hcap
  subst hn2
  have hB2 := hB1.trans (hb2.mono hB1.size)
  have HB3 : Hid (Below w.heap.size w ((w2.alloc (.cells #[.slice a2 cs1.length cap2, .int .i64 lo1, .int .i64 hi1] 44)).alloc (.cells #[.int .i64 s1, .int .i64 s2, .int .i64 s3] 46))) := (hB2.alloc hB2.size _).alloc (by have := hB2.size; simp; omega) _
  have hE := eqT s1 s2 s3
  have hSm := rSameI cs1 a1 a2 cap1 cap2 lo1 hi1 ((w2.alloc (.cells #[.slice a2 cs1.length cap2, .int .i64 lo1, .int .i64 hi1] 44)).alloc (.cells #[.int .i64 s1, .int .i64 s2, .int .i64 s3] 46)) (((hc1.below hb2).below ((Below.refl _ _).alloc (Nat.le_refl _) _)).below ((Below.refl _ _).alloc (Nat.le_refl _) _)) ((hc2.below ((Below.refl _ _).alloc (Nat.le_refl _) _)).below ((Below.refl _ _).alloc (Nat.le_refl _) _))
  replace hbA := hbA.below hb2
  replace hbB := hbB.below hb2
  have x0 := hbA.cell 0 rfl
  have x1 := hbA.cell 1 rfl
  have x2 := hbA.cell 2 rfl
  have z0 := hbB.cell 0 rfl
  have z1 := hbB.cell 1 rfl
  have z2 := hbB.cell 2 rfl
  have hl1 := hbA.lt
  have hl2 := hbB.lt
  clear hbA hbB hb2 hB1 hB2 hc1 hc2
  generalize w1.heap.size = B at *
  go_wp2_with (fail)
  refine hSm.mono ?_
  rintro e w5 ⟨rfl, hb5⟩
  clear hSm
  have HB6 : Hid (Below w.heap.size w w5) := HB3.out.trans (hb5.mono HB3.out.size)
  clear hb5 HB3
  go_wp2
  go_ret
  exact ⟨rfl, HB6.out⟩
end Go.Proofs.YtaiocbbcjdpjgaaGreatDoor.lnk
