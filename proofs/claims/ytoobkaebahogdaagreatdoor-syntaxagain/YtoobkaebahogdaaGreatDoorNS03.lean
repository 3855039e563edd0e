/- The law SyntaxAgain: what is read as a module is printed, unless that is too long, and what is printed is printed as itself. -/
import Derived.Test.YtoobkaebahogdaaGreatDoorNB00
import Derived.Test.YtoobkaebahogdaaGreatDoorNB01
import Derived.Test.YtoobkaebahogdaaGreatDoorNB02
import Derived.Test.YtoobkaebahogdaaGreatDoorNB03
import Derived.Test.YtoobkaebahogdaaGreatDoorNB04
import Derived.Test.YtoobkaebahogdaaGreatDoorNB05
import Derived.Test.YtoobkaebahogdaaGreatDoorNB06
import Derived.Test.YtoobkaebahogdaaGreatDoorNB07
import Derived.Test.YtoobkaebahogdaaGreatDoorNB08
import Derived.Test.YtoobkaebahogdaaGreatDoorNB09
import Derived.Test.YtoobkaebahogdaaGreatDoorNB10
import Derived.Test.YtoobkaebahogdaaGreatDoorNB11
import Derived.Test.YtoobkaebahogdaaGreatDoorNB12
import Derived.Test.YtoobkaebahogdaaGreatDoorNB13
import Derived.Test.YtoobkaebahogdaaGreatDoorNB14
import Derived.Test.YtoobkaebahogdaaGreatDoorNB15
import Derived.Test.YtoobkaebahogdaaGreatDoorNB16
import Derived.Test.YtoobkaebahogdaaGreatDoorNB17
import Derived.Test.YtoobkaebahogdaaGreatDoorNB18
import Derived.Test.YtoobkaebahogdaaGreatDoorNB19
import Derived.Test.YtoobkaebahogdaaGreatDoorNB20
import Derived.Test.YtoobkaebahogdaaGreatDoorNB21
import Derived.Test.YtoobkaebahogdaaGreatDoorNS00
import Derived.Test.YtoobkaebahogdaaGreatDoorNS01
import Derived.Shelf.Strings.Cut
import Derived.Test.YtoobkaebahogdaaGreatDoorProg
import Derived.WalkLawsBesides
import Derived.Deep.LoopGhost
import Derived.Shelf.RegionOpen
import Derived.Maps.OwnIn
import Derived.RangeFuncNested
import Derived.RangeFuncBound
import Derived.LoopNIn
import Derived.LoopIn
import Derived.Deep.AppendLies
import Derived.WalkSpells
import Derived.Lib.SmallJoins
import Derived.Deep.RegionHeld
import Derived.Lib.BufferOwn
import Derived.Shelf.Strconv.ErrVarParseInt
import Derived.Shelf.Strconv.Itoa4
import Derived.Shelf.Strings.OnBuilder
import Derived.Laws.EntriesVeiled
import Derived.Test.YtoobkaebahogdaaGreatDoorNS02
set_option linter.unusedVariables false
set_option linter.unusedSimpArgs false
set_option maxRecDepth 100000
namespace Go.Proofs.YtoobkaebahogdaaGreatDoor
namespace pr
open Go.RowKit Go.Shelf
open Go.Proofs.YtoobkaebahogdaaGreatDoor.syn Go.Proofs.YtoobkaebahogdaaGreatDoor.face Go.Proofs.YtoobkaebahogdaaGreatDoor.chk
def knownX : ByteArray := ⟨#[109, 111, 100, 117, 108, 101, 32, 109, 59, 112, 117, 98, 32, 104, 105, 103, 104, 32, 120, 59]⟩
def toldX : ByteArray := ⟨#[109, 111, 100, 117, 108, 101, 32, 109, 32, 59, 32, 112, 117, 98, 32, 104, 105, 103, 104, 32, 120, 32, 59]⟩
def knownT : Tree := .node 1 ⟨#[109]⟩ 0 [.node 3 ⟨#[120]⟩ 3 []]
theorem known_parse : parse knownX = ⟨knownT, 0, 0⟩ := by kernel_rfl
theorem known_print : printT knownT = (toldX.data.toList, 0) := by kernel_rfl
/-- what Parse and Print make of a text -/
theorem print_of {x : ByteArray} {w w' : World} {nv : Value} (hP : PH w') (hl : Lies (· < w'.heap.size) w' (parse x).tree nv) : Calls Tryz.prog 16 #[nv] w' (PrE w' (printT (parse x).tree)) := oPrint w' hP _ nv hl (tx_sh _ (parse_tx x))
set_option maxHeartbeats 4000000 in
theorem again_walk (x : ByteArray) (w : World) (hP : PH w) :
    Calls Tryz.prog 6 #[.string x] w fun e w' => e = .returned (.bool true) ∧ Below w.heap.size w w' := by
  have c24 : Tryz.prog.cellsOf 24 = 4 := by kernel_rfl
  have c27 : Tryz.prog.cellsOf 27 = 2 := by kernel_rfl
  have HP := show Hid _ from hP
  have hO1 := oparse knownX w ⟨hP.err, hP.ops⟩
  have hT1 := tx_sh _ (parse_tx knownX)
  rw [known_parse] at hO1 hT1
  unfold PsOut at hO1
  simp only at hO1
  unfold knownX at hO1
  go_enter Tryz.func6, Tryz.ntmps6
  go_wp2_with (fail)
  refine hO1.mono ?_
  clear hO1
  rintro e w1 ⟨v1, rfl, hl1, hb1⟩
  obtain ⟨k1, x1, m1, a1, n1, c1, rfl⟩ := lies_shape hl1
  have hbB : Below w1.heap.size w1 ((w1.alloc (.cells #[.int .i64 k1, .string x1, .int .i64 m1, .slice a1 n1 c1] 24)).alloc (.cells #[.int .i64 0, .int .i64 0] 27)) := ((Below.refl _ _).alloc (Nat.le_refl _) _).alloc (by simp) _
  have hbw2 := hb1.trans (hbB.mono hb1.size)
  have hlB := (Lies.to (w := w1) (w' := w1) (Q := fun b => b < w1.heap.size) (fun b hb => hb.2) (fun _ _ _ => rfl) hl1).below hbB
  have hC2 := oPrint _ (HP.out.below hbw2) knownT _ hlB hT1
  rw [known_print] at hC2
  unfold PrE at hC2
  clear hl1 hlB hT1
  go_wp2_with (fail)
  refine hC2.mono ?_
  clear hC2
  rintro e w2 ⟨rfl, hb2⟩
  have hbw3 := hbw2.trans (hb2.mono hbw2.size)
  have hP3 := HP.out.below hbw3
  have hO3 := oparse x w2 ⟨hP3.err, hP3.ops⟩
  have heq : (⟨toldX.data.toList.toArray⟩ : ByteArray) = ⟨#[109, 111, 100, 117, 108, 101, 32, 109, 32, 59, 32, 112, 117, 98, 32, 104, 105, 103, 104, 32, 120, 32, 59]⟩ := rfl
  dsimp only
  rw [heq]
  clear heq
  have HPR : Hid (∀ (W : World) (nv : Value), Below w.heap.size w W → Lies (· < W.heap.size) W (parse x).tree nv → Calls Tryz.prog 16 #[nv] W (PrE W (printT (parse x).tree))) := fun W nv h1 h2 => print_of (w := w) (HP.out.below h1) h2
  by_cases hc : (parse x).code = 0
  · have hsh := print_read hc
    have hag := again_short x hc
    have hbk := fun h => print_back (t := (parse x).tree) h
    unfold PsOut at hO3
    rw [hc] at hO3
    generalize hpp : (parse x).place = pp at *
    clear hpp
    generalize (parse x).tree = T at *
    go_wp2_with (fail)
    refine hO3.mono ?_
    clear hO3
    rintro e w4 ⟨v4, rfl, hl4, hb4⟩
    obtain ⟨k4, x4, m4, a4, n4, c4, rfl⟩ := lies_shape hl4
    have hbw4 := hbw3.trans (hb4.mono hbw3.size)
    have hbD : Below w4.heap.size w4 ((w4.alloc (.cells #[.int .i64 k4, .string x4, .int .i64 m4, .slice a4 n4 c4] 24)).alloc (.cells #[.int .i64 0, .int .i64 pp] 27)) := ((Below.refl _ _).alloc (Nat.le_refl _) _).alloc (by simp) _
    have hbw5 := hbw4.trans (hbD.mono hbw4.size)
    have hlD := (Lies.to (w := w4) (w' := w4) (Q := fun b => b < w4.heap.size) (fun b hb => hb.2) (fun _ _ _ => rfl) hl4).below hbD
    have hC5 := HPR.out _ _ hbw5 hlD
    unfold PrE at hC5
    clear hl4 hlD
    rcases hsh with h0 | h0
    · have hb := hbk h0
      have hO6 := oparse ⟨(printT T).1.toArray⟩
      generalize hyy : (⟨(printT T).1.toArray⟩ : ByteArray) = y at *
      rw [h0] at hC5
      unfold Parses at hO6
      rw [hb] at hO6
      unfold PsOut at hO6
      simp only at hO6
      have HO6 := show Hid _ from hO6
      have HY : Hid (printT T = (y.data.toList, 0)) := by
        show _ = _
        rw [← hyy, ← h0]
      clear hO6 hag hbk hb h0 hyy
      go_wp2_with (fail)
      refine hC5.mono ?_
      clear hC5
      rintro e w6 ⟨rfl, hb6⟩
      have hbw6 := hbw5.trans (hb6.mono hbw5.size)
      have hP6 := HP.out.below hbw6
      go_wp2_with (fail)
      refine (HO6.out w6 ⟨hP6.err, hP6.ops⟩).mono ?_
      rintro e w7 ⟨v7, rfl, hl7, hb7⟩
      obtain ⟨k7, x7, m7, a7, n7, c7, rfl⟩ := lies_shape hl7
      have hbw7 := hbw6.trans (hb7.mono hbw6.size)
      have hbE : Below w7.heap.size w7 ((w7.alloc (.cells #[.int .i64 k7, .string x7, .int .i64 m7, .slice a7 n7 c7] 24)).alloc (.cells #[.int .i64 0, .int .i64 0] 27)) := ((Below.refl _ _).alloc (Nat.le_refl _) _).alloc (by simp) _
      have hbw8 := hbw7.trans (hbE.mono hbw7.size)
      have hlE := (Lies.to (w := w7) (w' := w7) (Q := fun b => b < w7.heap.size) (fun b hb => hb.2) (fun _ _ _ => rfl) hl7).below hbE
      have hC8 := HPR.out _ _ hbw8 hlE
      rw [HY.out] at hC8
      unfold PrE at hC8
      have bF := BoxC.new (w7.alloc (.cells #[.int .i64 k7, .string x7, .int .i64 m7, .slice a7 n7 c7] 24)) #[.int .i64 0, .int .i64 0] 27
      rw [World.size_alloc] at bF
      have ey : (⟨y.data.toList.toArray⟩ : ByteArray) = y := rfl
      dsimp only at hC8
      rw [ey] at hC8
      clear hl7 hlE ey
      go_wp2_with (fail)
      refine hC8.mono ?_
      clear hC8
      rintro e w9 ⟨rfl, hb9⟩
      have bF9 := bF.below hb9
      have z0 := bF9.cell 0 rfl
      have z1 := bF9.cell 1 rfl
      go_wp2
      go_ret
      exact ⟨rfl, hbw8.trans (hb9.mono hbw8.size)⟩
    · have hx : ¬ x.size ≤ 1000 := fun hx => by
        have := hag hx
        rw [h0] at this
        exact absurd this (by decide)
      rw [h0] at hC5
      have hxd : decide (1000 < (x.size : Int)) = true := decide_eq_true (by omega)
      clear hag hbk h0 hx
      go_wp2_with (fail)
      refine hC5.mono ?_
      clear hC5
      rintro e w6 ⟨rfl, hb6⟩
      go_wp2
      go_ret
      exact ⟨rfl, hbw5.trans (hb6.mono hbw5.size)⟩
  · unfold PsOut at hO3
    generalize (parse x).code = pc at *
    generalize (parse x).place = pp at *
    generalize (parse x).tree = T at *
    go_wp2_with (fail)
    refine hO3.mono ?_
    clear hO3
    rintro e w4 ⟨v4, rfl, hl4, hb4⟩
    obtain ⟨k4, x4, m4, a4, n4, c4, rfl⟩ := lies_shape hl4
    have hbw4 := hbw3.trans (hb4.mono hbw3.size)
    go_wp2
    go_ret
    exact ⟨rfl, (hbw4.alloc hbw4.size _).alloc (by have := hbw4.size; simp; omega) _⟩
end pr
end Go.Proofs.YtoobkaebahogdaaGreatDoor
