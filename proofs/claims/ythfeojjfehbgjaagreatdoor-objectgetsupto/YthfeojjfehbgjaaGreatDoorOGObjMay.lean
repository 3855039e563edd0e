/- What the program's mayWords, mayReloc, mayRelocs, mayCode, mayPlaces answer: contracts. What the program's mayPlaces, mayFaces and May answer: contracts. What the program's May answers of an object: a contract. -/
import Derived.Test.YthfeojjfehbgjaaGreatDoorProg
import Derived.WalkKit
import Derived.WalkLawsBesides
import Derived.Outline
import Derived.WalkSmall
import Derived.BigQuiet
import Derived.Deep.QuietTactic
import Derived.Deep.RegionWith
import Derived.Maps.OwnSet
import Derived.Test.YthfeojjfehbgjaaGreatDoorOGObjMem
import Derived.Test.YthfeojjfehbgjaaGreatDoorOGFaceOwnD
import Derived.Test.YthfeojjfehbgjaaGreatDoorOGMacBox
namespace Go.Proofs.YthfeojjfehbgjaaGreatDoor.obj
open Go.RowKit Go.Maps Go.WideMaps
open Go.Proofs.YthfeojjfehbgjaaGreatDoor.lexs (HasErr)
open Go.Proofs.YthfeojjfehbgjaaGreatDoor.syn (isName eqS)
open Go.Proofs.YthfeojjfehbgjaaGreatDoor.mac (Ins hasB)
open Go.Proofs.YthfeojjfehbgjaaGreatDoor.face (VarD ProcD FaceD keep ret_b all_no all_yes setD keyL key_name setD_snoc setD_size apartB grown_of_below below_box box_cell take_next)
set_option linter.unusedVariables false
set_option linter.unusedSimpArgs false
set_option maxRecDepth 100000
set_option maxHeartbeats 1000000 in
theorem oMayWords (l : List Int) (a : Option Addr) (c : Nat) (w : World) (hl : l.length ≤ 1048576) (ha : l ≠ [] → ∃ g o, a = some ⟨g, o, none⟩ ∧ ∀ i (h : i < l.length), w.cell? ⟨g, o + i, none⟩ = some (.int .i64 l[i])) :
    Calls Tryz.prog 15 #[.slice a l.length c] w fun e w' => e = .returned (.bool (wordsB l)) ∧ w' = w := by
  have HV : Hid (∀ i (h : i < l.length), wordB l[i] = false → wordsB l = false) := fun i h e => all_no i h e
  have HV2 : Hid ((∀ i (h : i < l.length), wordB l[i] = true) → wordsB l = true) := fun h => all_yes h
  go_enter Tryz.func15, Tryz.ntmps15
  go_wp2
  go_loop [7] (fun t => ∃ j : Nat, j ≤ l.length ∧ t = .int .i64 j ∧ Hid (∀ i (h : i < l.length), i < j → wordB l[i] = true)) (fun t => l.length - (intOf t).toNat)
  case atStart => exact ⟨0, Nat.zero_le _, rfl, fun i _ h => by omega⟩
  case round =>
    obtain ⟨j, hj, rfl, HN⟩ := hrel
    by_cases hlt : j < l.length
    · obtain ⟨g, o, rfl, hc⟩ := ha (by intro e; rw [e] at hlt; simp at hlt)
      have q := hc j hlt
      clear hc ha
      have HX : Hid (∀ b, wordB l[j] = b → wordB l[j] = b) := fun b h => h
      have HW := HV.out j hlt
      have HJ : Hid (wordB l[j] = true → ∀ i (h : i < l.length), i < j + 1 → wordB l[i] = true) := fun h1 i h h2 => by
        rcases Nat.lt_or_ge i j with h3 | h3
        · exact HN.out i h h3
        · have : i = j := by omega
          subst this
          exact h1
      replace HW : Hid (wordB l[j] = false → wordsB l = false) := HW
      clear HN HX
      generalize l[j] = x at *
      by_cases h0 : x < 0
      · have HF : Hid (wordsB l = false) := HW.out (by simp [wordB]; omega)
        go_wp2
        go_ret
        exact ⟨ret_b HF.out.symm, rfl⟩
      · by_cases h1 : 20000 < x
        · have HF : Hid (wordsB l = false) := HW.out (by simp [wordB]; omega)
          go_wp2
          go_ret
          exact ⟨ret_b HF.out.symm, rfl⟩
        · have HT : Hid (wordB x = true) := by show _ = _; simp [wordB]; omega
          go_wp2
          go_round
          case rel => exact ⟨j + 1, by omega, by go_num, HJ.out HT.out⟩
          case measure => simp [intOf]; omega
    · have HF : Hid (wordsB l = true) := HV2.out fun i h => HN.out i h (by omega)
      go_wp2
      go_ret
      exact ⟨ret_b HF.out.symm, rfl⟩
set_option maxHeartbeats 1000000 in
theorem oMayReloc (x : RelD) (w : World) (hw : HasErr w) :
    Calls Tryz.prog 39 #[relV x] w fun e w' => e = .returned (.bool (relB x)) ∧ Below w.heap.size w w' := by
  have c4 : Tryz.prog.cellsOf 57 = 4 := by kernel_rfl
  obtain ⟨at1, kd, md, nm⟩ := x
  unfold relV
  have hB := (Below.refl w.heap.size w).alloc (Nat.le_refl _) (.cells #[.int .i64 at1, .int .i64 kd, .string md, .string nm] 57)
  have hN := face.oName md _ (face.HasErr.below hw hB)
  have hM := fun W (hb : Below (w.alloc (.cells #[.int .i64 at1, .int .i64 kd, .string md, .string nm] 57)).heap.size (w.alloc (.cells #[.int .i64 at1, .int .i64 kd, .string md, .string nm] 57)) W) => face.oName nm W (face.HasErr.below (face.HasErr.below hw hB) hb)
  obtain ⟨V, hV⟩ : ∃ V, V = relB ⟨at1, kd, md, nm⟩ := ⟨_, rfl⟩
  rw [← hV]
  by_cases h1 : kd = 1
  · subst h1
    have HV : Hid (V = (md.toList.isEmpty && nm.toList.isEmpty)) := by show _ = _; rw [hV]; rfl
    clear hV hN hM
    cases h2 : md.toList.isEmpty <;> cases h3 : nm.toList.isEmpty
    all_goals
      go_enter Tryz.func39, Tryz.ntmps39
      go_wp2
      go_ret
      exact ⟨ret_b (by simp [HV.out, h2, h3]), hB⟩
  have k1 : (kd == 1) = false := by simpa using h1
  by_cases h2 : kd = 2 ∨ kd = 3 ∨ kd = 4
  · have HV : Hid (V = (isName md && isName nm)) := by show _ = _; rw [hV]; simp only [relB]; rw [if_neg h1, if_pos h2]
    clear hV h1
    cases hn : isName md <;> cases hm : isName nm
    all_goals
      rw [hn] at hN
      simp only [hm] at hM
      rcases h2 with rfl | rfl | rfl
      all_goals
        go_enter Tryz.func39, Tryz.ntmps39
        go_wp2_with first
          | (go_at_call 40; refine (hM w2 hb2).mono ?_; rintro e w3 ⟨rfl, hb3⟩)
          | (go_at_call 40; refine hN.mono ?_; rintro e w2 ⟨rfl, hb2⟩; have y3 := box_cell hb2 3)
        go_ret
        first
          | exact ⟨ret_b (by simp [HV.out, hn, hm]), hB.trans ((hb2.trans (hb3.mono hb2.size)).mono (by simp))⟩
          | exact ⟨ret_b (by simp [HV.out, hn, hm]), hB.trans (hb2.mono (by simp))⟩
  · have HF : Hid (V = false) := by show _ = _; rw [hV]; simp only [relB]; rw [if_neg h1, if_neg h2]
    have k2 : (kd == 2) = false := by simp; omega
    have k3 : (kd == 3) = false := by simp; omega
    have k4 : (kd == 4) = false := by simp; omega
    clear hV h1 h2
    go_enter Tryz.func39, Tryz.ntmps39
    go_wp2
    go_ret
    exact ⟨ret_b HF.out.symm, hB⟩
/-- what is left of relocs -/
theorem relocs_at (n : Int) (l : List RelD) : ∀ (j : Nat) (h : j < l.length) (m : Int), relocsB n m (l.drop j) = (relAt n m l[j] && relocsB n (l[j].at' + 1) (l.drop (j + 1))) := fun j h m => by
  rw [List.drop_eq_getElem_cons h]
  rfl
set_option maxHeartbeats 1000000 in
theorem oMayRelocs (l : List RelD) (u : Value) (n : Nat) (w : World) (hw : HasErr w) (hn : n ≤ 1048576) (hu : RelsIn w u l) :
    Calls Tryz.prog 14 #[u, .int .i64 n] w fun e w' => e = .returned (.bool (relocsB n 0 l)) ∧ Below w.heap.size w w' := by
  have c4 : Tryz.prog.cellsOf 57 = 4 := by kernel_rfl
  obtain ⟨a, c, rfl, hl, hc⟩ := hu
  obtain ⟨V, hV⟩ : ∃ V, V = relocsB n 0 l := ⟨_, rfl⟩
  rw [← hV]
  go_enter Tryz.func14, Tryz.ntmps14
  go_wp2
  go_loopw [10, 5] (fun t s wr => ∃ (j : Nat) (m : Int), j ≤ l.length ∧ t = .int .i64 j ∧ s = .int .i64 m ∧ Hid (V = relocsB n m (l.drop j)) ∧ 0 ≤ m ∧ m ≤ 1048577 ∧ Below w.heap.size w wr) (fun t s _ => l.length - (intOf t).toNat)
  case atStart => exact ⟨0, 0, Nat.zero_le _, rfl, rfl, hV, by omega, by omega, Below.refl _ _⟩
  case round =>
    clear hV
    obtain ⟨j, m, hj, rfl, rfl, HV, hm0, hm1, hB⟩ := hrel
    by_cases hlt : j < l.length
    · obtain ⟨g, o, rfl, hcc⟩ := hc (by intro e; rw [e] at hlt; simp at hlt)
      obtain ⟨k0, k1, k2, k3⟩ := hcc j hlt
      replace HV : Hid (V = (relAt n m l[j] && relocsB n (l[j].at' + 1) (l.drop (j + 1)))) := HV.out.trans (relocs_at n l j hlt m)
      replace k0 := keep k0 hB
      replace k1 := keep k1 hB
      replace k2 := keep k2 hB
      replace k3 := keep k3 hB
      clear hcc hc
      generalize l[j] = x at *
      have hB2 := hB.alloc hB.size (.cells #[.int .i64 x.at', .int .i64 x.kind, .string x.module, .string x.name] 57)
      have hR := oMayReloc x _ (face.HasErr.below hw hB2)
      unfold relV at hR
      by_cases h0 : x.at' < m
      · have HF : Hid (V = false) := by show _ = _; rw [HV.out]; simp [relAt]; omega
        go_wp2
        go_ret
        exact ⟨ret_b HF.out.symm, hB2⟩
      · by_cases h1 : (n : Int) ≤ x.at'
        · have HF : Hid (V = false) := by show _ = _; rw [HV.out]; simp [relAt]; omega
          go_wp2
          go_ret
          exact ⟨ret_b HF.out.symm, hB2⟩
        · cases hx : relB x
          · have HF : Hid (V = false) := by show _ = _; rw [HV.out]; simp [relAt, hx]
            rw [hx] at hR
            go_wp2_with (go_at_call 39; refine hR.mono ?_; rintro e w3 ⟨rfl, hb3⟩)
            go_ret
            exact ⟨ret_b HF.out.symm, hB2.trans (hb3.mono hB2.size)⟩
          · have HT : Hid (V = relocsB n (x.at' + 1) (l.drop (j + 1))) := by show _ = _; rw [HV.out]; simp [relAt, hx, show m ≤ x.at' by omega, show x.at' < (n : Int) by omega]
            rw [hx] at hR
            have hwr : wrap64 (x.at' + 1) = x.at' + 1 := by unfold wrap64; omega
            go_wp2_with (go_at_call 39; refine hR.mono ?_; rintro e w3 ⟨rfl, hb3⟩; have y0 := box_cell hb3 0)
            go_roundw
            case rel => exact ⟨j + 1, x.at' + 1, by omega, by go_num, rfl, HT.out, by omega, by omega, hB2.trans (hb3.mono hB2.size)⟩
            case measure => simp [intOf]; omega
    · have HF : Hid (V = true) := by show _ = _; rw [HV.out, List.drop_eq_nil_of_le (by omega)]; rfl
      go_wp2
      go_ret
      exact ⟨ret_b HF.out.symm, hB⟩
set_option maxHeartbeats 1000000 in
theorem oMayCode (l : List Ins) (u : Value) (w : World) (hu : CodeIn w u l) :
    Calls Tryz.prog 13 #[u] w fun e w' => e = .returned (.bool (codeB l)) ∧ Below w.heap.size w w' := by
  have c5 : Tryz.prog.cellsOf 55 = 5 := by kernel_rfl
  obtain ⟨a, c, rfl, hl, hc⟩ := hu
  obtain ⟨V, hV⟩ : ∃ V, V = codeB l := ⟨_, rfl⟩
  rw [← hV]
  by_cases hlen : 20000 < (l.length : Int)
  · have HF : Hid (V = false) := by show _ = _; rw [hV]; simp [codeB]; omega
    clear hV
    go_enter Tryz.func13, Tryz.ntmps13
    go_wp2
    go_ret
    exact ⟨ret_b HF.out.symm, Below.refl _ _⟩
  have HV : Hid (V = l.all hasB) := by show _ = _; rw [hV]; simp [codeB]; omega
  clear hV
  go_enter Tryz.func13, Tryz.ntmps13
  go_wp2
  go_loopw [10] (fun t wr => ∃ j : Nat, j ≤ l.length ∧ t = .int .i64 j ∧ Below w.heap.size w wr ∧ Hid (∀ i (h : i < l.length), i < j → hasB l[i] = true)) (fun t _ => l.length - (intOf t).toNat)
  case atStart => exact ⟨0, Nat.zero_le _, rfl, Below.refl _ _, fun i _ h => by omega⟩
  case round =>
    obtain ⟨j, hj, rfl, hB, HN⟩ := hrel
    by_cases hlt : j < l.length
    · obtain ⟨g, o, rfl, hcc⟩ := hc (by intro e; rw [e] at hlt; simp at hlt)
      obtain ⟨k0, k1, k2, k3, k4⟩ := hcc j hlt
      replace k0 := keep k0 hB
      replace k1 := keep k1 hB
      replace k2 := keep k2 hB
      replace k3 := keep k3 hB
      replace k4 := keep k4 hB
      have HF : Hid (hasB l[j] = false → V = false) := fun h => by rw [HV.out]; exact all_no j hlt h
      have HJ : Hid (hasB l[j] = true → ∀ i (h : i < l.length), i < j + 1 → hasB l[i] = true) := fun h1 i h h2 => by
        rcases Nat.lt_or_ge i j with h3 | h3
        · exact HN.out i h h3
        · have : i = j := by omega
          subst this
          exact h1
      clear hcc hc HN
      generalize l[j] = x at *
      obtain ⟨op, a1, b1, c1, n1⟩ := x
      dsimp only at k0 k1 k2 k3 k4
      have hB2 := hB.alloc hB.size (.cells #[.int .i64 op, .int .i64 a1, .int .i64 b1, .int .i64 c1, .int .i64 n1] 55)
      have hR := mac.oHas' op a1 b1 c1 n1 (wr.alloc (.cells #[.int .i64 op, .int .i64 a1, .int .i64 b1, .int .i64 c1, .int .i64 n1] 55))
      cases hx : hasB ⟨op, a1, b1, c1, n1⟩
      · have HF2 : Hid (V = false) := HF.out hx
        rw [hx] at hR
        go_wp2_with (go_at_call 38; refine hR.mono ?_; rintro e w3 ⟨rfl, hb3⟩)
        go_ret
        exact ⟨ret_b HF2.out.symm, hB2.trans (hb3.mono hB2.size)⟩
      · have HT : Hid (∀ i (h : i < l.length), i < j + 1 → hasB l[i] = true) := HJ.out hx
        rw [hx] at hR
        go_wp2_with (go_at_call 38; refine hR.mono ?_; rintro e w3 ⟨rfl, hb3⟩)
        go_roundw
        case rel => exact ⟨j + 1, by omega, by go_num, hB2.trans (hb3.mono hB2.size), HT.out⟩
        case measure => simp [intOf]; omega
    · have HF : Hid (V = true) := by show _ = _; rw [HV.out]; exact all_yes fun i h => HN.out i h (by omega)
      go_wp2
      go_ret
      exact ⟨ret_b HF.out.symm, hB⟩
end Go.Proofs.YthfeojjfehbgjaaGreatDoor.obj
namespace Go.Proofs.YthfeojjfehbgjaaGreatDoor.obj
open Go.RowKit Go.Maps Go.WideMaps
open Go.Proofs.YthfeojjfehbgjaaGreatDoor.lexs (HasErr)
open Go.Proofs.YthfeojjfehbgjaaGreatDoor.syn (isName eqS)
open Go.Proofs.YthfeojjfehbgjaaGreatDoor.mac (Ins hasB BoxC)
open Go.Proofs.YthfeojjfehbgjaaGreatDoor.face (VarD ProcD FaceD keep ret_b all_no all_yes setD keyL key_name setD_snoc setD_size apartB grown_of_below below_box box_cell take_next VarsIn ProcsIn)
set_option linter.unusedVariables false
set_option linter.unusedSimpArgs false
set_option maxRecDepth 100000
theorem lawSo : Keyed Tryz.prog 9 := face.lawS
/-- a set of names of one's own -/
structure PInv (w wr : World) (B : Nat) (l : List ByteArray) : Prop where
  below : Below w.heap.size w wr
  le : w.heap.size ≤ B
  own : wr.ownsMap Tryz.prog 9 (unitElem (H := Unit)) B l.length (setD l)
theorem PInv.next {w wr w2 : World} {B : Nat} {l : List ByteArray} (h : PInv w wr B l) (hb : Below wr.heap.size wr w2) : PInv w w2 B l :=
  ⟨h.below.trans (hb.mono h.below.size), h.le, h.own.kept (grown_of_below hb) (by simp)⟩
theorem PInv.put {w wr w2 : World} {B : Nat} {y : ByteArray} {l : List ByteArray} (h : PInv w wr B l) (hg : wr.grownBy w2 (some B)) (ho : w2.ownsMap Tryz.prog 9 (unitElem (H := Unit)) B (l.length + 1) ((setD l).put (keyL y) (.agg []))) : PInv w w2 B (l ++ [y]) := by
  refine ⟨h.below.grown hg h.below.size (fun k hk => ?_), h.le, ?_⟩
  · cases hk
    exact h.le
  · rw [setD_snoc, List.length_append]
    exact ho
set_option maxHeartbeats 2000000 in
theorem oMayPlaces (l : List PlcD) (u : Value) (n : Int) (w : World) (hw : HasErr w) (hu : PlcsIn w u l) :
    Calls Tryz.prog 16 #[u, .int .i64 n] w fun e w' => e = .returned (.bool (placesB l n)) ∧ Below w.heap.size w w' := by
  have c2 : Tryz.prog.cellsOf 85 = 2 := by kernel_rfl
  have hmm := @run_makeMap Tryz.prog
  obtain ⟨a, c, rfl, hl, hc⟩ := hu
  obtain ⟨V, hV⟩ : ∃ V, V = placesB l n := ⟨_, rfl⟩
  rw [← hV]
  have HV : Hid (V = (l.all (plcB n) && apartB [] (l.map (·.name)))) := hV
  clear hV
  have hI0 : PInv w (w.alloc (.map #[] 0)) w.heap.size ((l.take 0).map (·.name)) := ⟨(Below.refl _ _).alloc (Nat.le_refl _) _, Nat.le_refl _, World.ownsMap_made _ _ _ _⟩
  go_enter Tryz.func16, Tryz.ntmps16
  go_wp2
  have hB0 : w.heap.size ≤ w.heap.size := Nat.le_refl _
  generalize hBB : w.heap.size = B at hI0 ⊢
  go_loopw [11] (fun t wr => ∃ j : Nat, j ≤ l.length ∧ t = .int .i64 j ∧ PInv w wr B ((l.take j).map (·.name)) ∧ Hid (∀ i (h : i < l.length), i < j → plcB n l[i] = true)) (fun t _ => l.length - (intOf t).toNat)
  case atStart => exact ⟨0, Nat.zero_le _, rfl, hI0, fun i _ h => by omega⟩
  case round =>
    clear hI0 hBB
    obtain ⟨j, hj, rfl, hI, HN⟩ := hrel
    by_cases hlt : j < l.length
    · obtain ⟨g, o, rfl, hcc⟩ := hc (by intro e; rw [e] at hlt; simp at hlt)
      obtain ⟨k0, k1⟩ := hcc j hlt
      replace k0 := keep k0 hI.below
      replace k1 := keep k1 hI.below
      have HF : Hid (plcB n l[j] = false → V = false) := fun h => by rw [HV.out, all_no j hlt h]; rfl
      have HJ : Hid (plcB n l[j] = true → ∀ i (h : i < l.length), i < j + 1 → plcB n l[i] = true) := fun h1 i h h2 => by
        rcases Nat.lt_or_ge i j with h3 | h3
        · exact HN.out i h h3
        · have : i = j := by omega
          subst this
          exact h1
      have HT : Hid ((l.take (j + 1)).map (·.name) = (l.take j).map (·.name) ++ [l[j].name]) := take_next _ _ _ hlt
      have hlen : ((l.take j).map (·.name)).length < maxLen := by unfold maxLen; simp; omega
      clear hcc hc HN
      generalize l[j] = x at *
      obtain ⟨nm, at1⟩ := x
      dsimp only at k0 k1 HT
      have hB2 := hI.below.alloc hI.below.size (.cells #[.string nm, .int .i64 at1] 85)
      have hI2 := hI.next ((Below.refl _ _).alloc (Nat.le_refl _) (.cells #[.string nm, .int .i64 at1] 85))
      have hR := face.oName nm (wr.alloc (.cells #[.string nm, .int .i64 at1] 85)) (face.HasErr.below hw hB2)
      cases hx : isName nm
      · have HF2 : Hid (V = false) := HF.out (by simp [plcB, hx])
        rw [hx] at hR
        go_wp2_with (go_at_call 40; refine hR.mono ?_; rintro e w3 ⟨rfl, hb3⟩; have y1 := box_cell hb3 1)
        go_ret
        exact ⟨ret_b HF2.out.symm, hB2.trans (hb3.mono hB2.size)⟩
      · rw [hx] at hR
        by_cases h0 : at1 < 0
        · have HF2 : Hid (V = false) := HF.out (by simp [plcB]; omega)
          go_wp2_with (go_at_call 40; refine hR.mono ?_; rintro e w3 ⟨rfl, hb3⟩; have y1 := box_cell hb3 1)
          go_ret
          exact ⟨ret_b HF2.out.symm, hB2.trans (hb3.mono hB2.size)⟩
        · by_cases h1 : n ≤ at1
          · have HF2 : Hid (V = false) := HF.out (by simp [plcB]; omega)
            go_wp2_with (go_at_call 40; refine hR.mono ?_; rintro e w3 ⟨rfl, hb3⟩; have y1 := box_cell hb3 1)
            go_ret
            exact ⟨ret_b HF2.out.symm, hB2.trans (hb3.mono hB2.size)⟩
          · have HT2 : Hid (∀ i (h : i < l.length), i < j + 1 → plcB n l[i] = true) := HJ.out (by simp [plcB, hx]; omega)
            have hkey := key_name hx
            go_wp2_with first
              | (go_at_call 40; refine hR.mono ?_; rintro e w3 ⟨rfl, hb3⟩; have y1 := box_cell hb3 1; have y0 := box_cell hb3 0; have hI3 := hI2.next hb3)
              | (at_mapUpdate; refine wpList_mapUpdate_own _ rfl _ _ _ 81 rfl 9 64 lawSo Tryz.underlying81 (unitElem (H := Unit)) B _ _ rfl hI3.own hlen _ _ _ rfl rfl hkey _ [] unitElem_mk ?_; intro w5 hown5 hgrow5)
              | go_in
            go_roundw
            case rel => exact ⟨j + 1, by omega, by go_num, by rw [HT.out]; exact hI3.put hgrow5 hown5, HT2.out⟩
            case measure => simp [intOf]; omega
    · rw [List.take_of_length_le (by omega)] at hI
      have HB : Hid (V = ((Maps.size (setD (l.map (·.name))) : Int) == (l.length : Int))) := by
        show _ = _
        rw [HV.out, all_yes (fun i h => HN.out i h (by omega)), ← setD_size]
        simp only [List.length_map, Bool.true_and]
        rw [Bool.eq_iff_iff]
        simp only [beq_iff_eq]
        omega
      have hown := hI.own
      have hfin := hI.below
      clear HN hI hc
      generalize (l.map (·.name)).length = L at hown
      generalize setD (l.map (·.name)) = D at hown HB
      go_wp2_with first
        | (at_len; refine wpList_len_own _ rfl _ 81 rfl 9 64 Tryz.underlying81 (unitElem (H := Unit)) B _ _ rfl hown ?_)
        | go_in
      go_ret
      exact ⟨ret_b HB.out.symm, hfin⟩
/-- a name that a literal lays into a map of one's own -/
theorem wpList_insert_own {H : Type} {P : Program} (w : World) {ops : Array Oper} {rest : List Oper} {o : Oper} {a : Act} {Q : Exit → Act → World → Prop}
    (hg : o.guard = none) (m x v : Operand) (t : TypeId) (hop : o.op = Op.insert t m x v)
    (k e : TypeId) (K : Keyed P k) (ht : P.underlying t = some (.map k e)) (R : Value → Option (DataW H × List MemPlace)) (b n : Nat) (D : DataW H)
    (hm : a.eval m = .map (some b)) (hown : w.ownsMap P k R b n D) (hn : n < maxLen) (key val : Value) (kl : Lit) (hx : a.eval x = key) (hv : a.eval v = val) (hkey : keyOf P k key = some kl)
    (d : DataW H) (ps : List MemPlace) (hval : R val = some (d, ps))
    (hK : ∀ w', w'.ownsMap P k R b (n + 1) (D.put kl d) → w.grownBy w' (some b) → wpList P ops Q rest (a.put o.dst undef) w') :
    wpList P ops Q (o :: rest) a w := by
  refine wpList_plain hg fun K' hK' => ?_
  obtain ⟨w', hrun, r1, r2⟩ := hown.update K ht hn hkey hval
  unfold Oper.wp
  simp [execOp, hop, hm, hx, hv, hrun, Result.andThen]
  exact hK' _ _ (hK w' r1 r2)
theorem may_name {f : FaceD} (h : face.mayB f = true) : isName f.module = true := by
  unfold face.mayB at h
  simp only [Bool.and_eq_true] at h
  exact h.1
set_option maxHeartbeats 2000000 in
theorem oMayFaces (f : FaceD) (vv pv : Value) (l : List FaceD) (u : Value) (w : World) (hw : HasErr w) (hv : VarsIn w vv f.vars) (hp : ProcsIn w pv f.procs) (hu : FacesIn w u l) :
    Calls Tryz.prog 12 #[faceV f vv pv, u] w fun e w' => e = .returned (.bool (facesB f l)) ∧ Below w.heap.size w w' := by
  have c3 : Tryz.prog.cellsOf 25 = 3 := face.cell3
  have hmm := @run_makeMap Tryz.prog
  obtain ⟨a, c, rfl, hl, hc⟩ := hu
  obtain ⟨va, vc, rfl⟩ : ∃ a c, vv = .slice a f.vars.length c := by obtain ⟨a, c, e, _⟩ := hv; exact ⟨a, c, e⟩
  obtain ⟨pa, pc, rfl⟩ : ∃ a c, pv = .slice a f.procs.length c := by obtain ⟨a, c, e, _⟩ := hp; exact ⟨a, c, e⟩
  obtain ⟨V, hV⟩ : ∃ V, V = facesB f l := ⟨_, rfl⟩
  rw [← hV]
  have HV : Hid (V = (face.mayB f && (decide (l.length ≤ 5) && (l.all face.mayB && apartB [] (f.module :: l.map (·.module)))))) := hV
  clear hV
  unfold faceV
  have hB0 := (Below.refl w.heap.size w).alloc (Nat.le_refl _) (.cells #[.string f.module, .slice va f.vars.length vc, .slice pa f.procs.length pc] 25)
  have hR0 := face.oMay f (.agg #[.string f.module, .slice va f.vars.length vc, .slice pa f.procs.length pc]) _ (face.HasErr.below hw hB0) ⟨_, _, rfl, hv.below hB0, hp.below hB0⟩
  cases hm : face.mayB f
  · have HF : Hid (V = false) := by show _ = _; rw [HV.out, hm]; rfl
    rw [hm] at hR0
    go_enter Tryz.func12, Tryz.ntmps12
    go_wp2_with (go_at_call 37; refine hR0.mono ?_; rintro e w2 ⟨rfl, hb2⟩)
    go_ret
    exact ⟨ret_b HF.out.symm, hB0.trans (hb2.mono hB0.size)⟩
  rw [hm] at hR0
  by_cases h5 : 5 < (l.length : Int)
  · have HF : Hid (V = false) := by show _ = _; rw [HV.out, decide_eq_false (by omega)]; simp
    go_enter Tryz.func12, Tryz.ntmps12
    go_wp2_with (go_at_call 37; refine hR0.mono ?_; rintro e w2 ⟨rfl, hb2⟩)
    go_ret
    exact ⟨ret_b HF.out.symm, hB0.trans (hb2.mono hB0.size)⟩
  replace HV : Hid (V = (l.all face.mayB && apartB [] (f.module :: l.map (·.module)))) := by show _ = _; rw [HV.out, hm, decide_eq_true (by omega)]; rfl
  have hkey0 := key_name (may_name hm)
  go_enter Tryz.func12, Tryz.ntmps12
  go_wp2_with first
    | (go_at_call 37; refine hR0.mono ?_; rintro e w2 ⟨rfl, hb2⟩; have y0 := box_cell hb2 0; have hb20 := hB0.trans (hb2.mono hB0.size); have hI0 : PInv w (w2.alloc (.map #[] 0)) w2.heap.size [] := ⟨hb20.alloc hb20.size _, hb20.size, World.ownsMap_made _ _ _ _⟩; have y00 := fun ob => face.cell_new y0 ob)
    | (refine wpList_insert_own _ rfl _ _ _ 81 rfl 9 64 lawSo Tryz.underlying81 (unitElem (H := Unit)) w2.heap.size _ _ rfl hI0.own (by decide) _ _ _ rfl rfl hkey0 _ [] unitElem_mk ?_; intro w5 hown5 hgrow5)
    | go_in
  have hI1 : PInv w w5 w2.heap.size (f.module :: (l.take 0).map (·.module)) := hI0.put hgrow5 hown5
  clear hI0 hown5 hgrow5 y0 y00 hR0 hkey0
  generalize w2.heap.size = B at hI1 ⊢
  go_loopw [23] (fun t wr => ∃ j : Nat, j ≤ l.length ∧ t = .int .i64 j ∧ PInv w wr B (f.module :: (l.take j).map (·.module)) ∧ Hid (∀ i (h : i < l.length), i < j → face.mayB l[i] = true)) (fun t _ => l.length - (intOf t).toNat)
  case atStart => exact ⟨0, Nat.zero_le _, rfl, hI1, fun i _ h => by omega⟩
  case round =>
    clear hI1
    obtain ⟨j, hj, rfl, hI, HN⟩ := hrel
    by_cases hlt : j < l.length
    · obtain ⟨g, o, rfl, hcc⟩ := hc (by intro e; rw [e] at hlt; simp at hlt)
      obtain ⟨k0, ⟨y, k1, hy⟩, ⟨z, k2, hz⟩⟩ := hcc j hlt
      replace k0 := keep k0 hI.below
      replace k1 := keep k1 hI.below
      replace k2 := keep k2 hI.below
      replace hy := hy.below hI.below
      replace hz := hz.below hI.below
      have HF : Hid (face.mayB l[j] = false → V = false) := fun h => by rw [HV.out, all_no j hlt h]; rfl
      have HJ : Hid (face.mayB l[j] = true → ∀ i (h : i < l.length), i < j + 1 → face.mayB l[i] = true) := fun h1 i h h2 => by
        rcases Nat.lt_or_ge i j with h3 | h3
        · exact HN.out i h h3
        · have : i = j := by omega
          subst this
          exact h1
      have HT : Hid ((l.take (j + 1)).map (·.module) = (l.take j).map (·.module) ++ [l[j].module]) := take_next _ _ _ hlt
      have hlen : (f.module :: (l.take j).map (·.module)).length < maxLen := by unfold maxLen; simp; omega
      clear hcc hc HN
      generalize l[j] = x at *
      obtain ⟨ya, yc, rfl⟩ : ∃ a c, y = .slice a x.vars.length c := by obtain ⟨a, c, e, _⟩ := hy; exact ⟨a, c, e⟩
      obtain ⟨za, zc, rfl⟩ : ∃ a c, z = .slice a x.procs.length c := by obtain ⟨a, c, e, _⟩ := hz; exact ⟨a, c, e⟩
      have hA := (Below.refl wr.heap.size wr).alloc (Nat.le_refl _) (.cells #[.string x.module, .slice ya x.vars.length yc, .slice za x.procs.length zc] 25)
      have hI2 := hI.next hA
      have hR := face.oMay x (.agg #[.string x.module, .slice ya x.vars.length yc, .slice za x.procs.length zc]) _ (face.HasErr.below hw hI2.below) ⟨_, _, rfl, hy.below hA, hz.below hA⟩
      cases hx : face.mayB x
      · have HF2 : Hid (V = false) := HF.out hx
        rw [hx] at hR
        go_wp2_with (go_at_call 37; refine hR.mono ?_; rintro e w3 ⟨rfl, hb3⟩; have y0 := box_cell hb3 0)
        go_ret
        exact ⟨ret_b HF2.out.symm, hI2.below.trans (hb3.mono hI2.below.size)⟩
      · rw [hx] at hR
        have HT2 : Hid (∀ i (h : i < l.length), i < j + 1 → face.mayB l[i] = true) := HJ.out hx
        have hkey := key_name (may_name hx)
        go_wp2_with first
          | (go_at_call 37; refine hR.mono ?_; rintro e w3 ⟨rfl, hb3⟩; have y0 := box_cell hb3 0; have hI3 := hI2.next hb3)
          | (at_mapUpdate; refine wpList_mapUpdate_own _ rfl _ _ _ 81 rfl 9 64 lawSo Tryz.underlying81 (unitElem (H := Unit)) B _ _ rfl hI3.own hlen _ _ _ rfl rfl hkey _ [] unitElem_mk ?_; intro w6 hown6 hgrow6)
          | go_in
        go_roundw
        case rel => exact ⟨j + 1, by omega, by go_num, by rw [HT.out, ← List.cons_append]; exact hI3.put hgrow6 hown6, HT2.out⟩
        case measure => simp [intOf]; omega
    · rw [List.take_of_length_le (by omega)] at hI
      have HB : Hid (V = ((Maps.size (setD (f.module :: l.map (·.module))) : Int) == (l.length : Int) + 1)) := by
        show _ = _
        rw [HV.out, all_yes (fun i h => HN.out i h (by omega)), ← setD_size]
        simp only [List.length_cons, List.length_map, Bool.true_and]
        rw [Bool.eq_iff_iff]
        simp only [beq_iff_eq]
        omega
      have hown := hI.own
      have hfin := hI.below
      have hwr : wrap64 ((l.length : Int) + 1) = (l.length : Int) + 1 := by unfold wrap64; omega
      clear HN hI hc
      generalize (f.module :: l.map (·.module)).length = L at hown
      generalize setD (f.module :: l.map (·.module)) = D at hown HB
      go_wp2_with first
        | (at_len; refine wpList_len_own _ rfl _ 81 rfl 9 64 Tryz.underlying81 (unitElem (H := Unit)) B _ _ rfl hown ?_)
        | go_in
      go_ret
      exact ⟨ret_b HB.out.symm, hfin⟩
/-- the object's box -/
def objC (o : ObjD) (x : Vals) : Array Value := #[.string o.face.module, x.vv, x.pv, x.iv, x.cv, x.rv, x.p1, x.p2, x.p3, .int .i64 o.low, .int .i64 o.high, .int .i64 o.lowF, .int .i64 o.highF]
end Go.Proofs.YthfeojjfehbgjaaGreatDoor.obj
namespace Go.Proofs.YthfeojjfehbgjaaGreatDoor.obj
open Go.RowKit
open Go.Proofs.YthfeojjfehbgjaaGreatDoor.lexs (HasErr)
open Go.Proofs.YthfeojjfehbgjaaGreatDoor.mac (Ins hasB BoxC)
open Go.Proofs.YthfeojjfehbgjaaGreatDoor.face (VarD ProcD FaceD keep ret_b VarsIn ProcsIn)
set_option linter.unusedVariables false
set_option linter.unusedSimpArgs false
set_option maxRecDepth 100000
/-- its slices, written out -/
theorem ObjAt.shape {w : World} {x : Vals} {o : ObjD} (h : ObjAt w x o) : ∃ a1 c1 a2 c2 a3 c3 a4 c4 a5 c5 a6 c6 a7 c7 a8 c8, x = ⟨.slice a1 o.face.vars.length c1, .slice a2 o.face.procs.length c2, .slice a3 o.imports.length c3, .slice a4 o.code.length c4, .slice a5 o.relocs.length c5, .slice a6 o.procs.length c6, .slice a7 o.lows.length c7, .slice a8 o.highs.length c8⟩ := by
  obtain ⟨vv, pv, iv, cv, rv, p1, p2, p3⟩ := x
  obtain ⟨h1, h2, h3, h4, h5, h6, h7, h8⟩ := h
  dsimp only at h1 h2 h3 h4 h5 h6 h7 h8
  obtain ⟨a1, c1, rfl, _⟩ := h1
  obtain ⟨a2, c2, rfl, _⟩ := h2
  obtain ⟨a3, c3, rfl, _⟩ := h3
  obtain ⟨a4, c4, rfl, _⟩ := h4
  obtain ⟨a5, c5, rfl, _⟩ := h5
  obtain ⟨a6, c6, rfl, _⟩ := h6
  obtain ⟨a7, c7, rfl, _⟩ := h7
  obtain ⟨a8, c8, rfl, _⟩ := h8
  exact ⟨_, _, _, _, _, _, _, _, _, _, _, _, _, _, _, _, rfl⟩
theorem cells_row (w : World) (l : List Int) : l ≠ [] → ∃ g o, some (⟨w.heap.size, 0, none⟩ : Addr) = some ⟨g, o, none⟩ ∧ ∀ i (h : i < l.length), (w.alloc (.cells (l.map fun x => Value.int .i64 x).toArray 3)).cell? ⟨g, o + i, none⟩ = some (.int .i64 l[i]) := fun _ => by
  refine ⟨w.heap.size, 0, rfl, fun i hi => ?_⟩
  rw [Nat.zero_add]
  exact (BoxC.new w (l.map fun x => Value.int .i64 x).toArray 3).cell i (v := .int .i64 l[i]) (by simp [hi])
theorem oMayWords4 (a b c d : Int) (w : World) :
    Calls Tryz.prog 15 #[.slice (some ⟨w.heap.size, 0, none⟩) 4 4] (w.alloc (.cells #[.int .i64 a, .int .i64 b, .int .i64 c, .int .i64 d] 3)) fun e w' => e = .returned (.bool (wordsB [a, b, c, d])) ∧ Below w.heap.size w w' :=
  (oMayWords [a, b, c, d] _ 4 _ (by simp) (cells_row w [a, b, c, d])).mono fun e w' h => ⟨h.1, h.2 ▸ (Below.refl _ _).alloc (Nat.le_refl _) _⟩
set_option maxHeartbeats 2000000 in
theorem oMayO (o : ObjD) (x : Vals) (w : World) (hw : HasErr w) (ho : ObjAt w x o) :
    Calls Tryz.prog 5 #[objV o x] w fun e w' => e = .returned (.bool (mayO o)) ∧ Below w.heap.size w w' := by
  have c13 : Tryz.prog.cellsOf 31 = 13 := by kernel_rfl
  have c3 : Tryz.prog.cellsOf 25 = 3 := face.cell3
  obtain ⟨a1, c1, a2, c2, a3, c3', a4, c4, a5, c5, a6, c6, a7, c7, a8, c8, rfl⟩ := ho.shape
  obtain ⟨h1, h2, h3, h4, h5, h6, h7, h8⟩ := ho
  dsimp only at h1 h2 h3 h4 h5 h6 h7 h8
  have HV : Hid (mayO o = (facesB o.face o.imports && (codeB o.code && (relocsB o.code.length 0 o.relocs && (wordsB [o.low, o.high, o.lowF, o.highF] && (placesB o.procs o.code.length && (placesB o.lows o.low && placesB o.highs o.high))))))) := rfl
  have hcl : o.code.length ≤ 1048576 := by obtain ⟨_, _, _, h, _⟩ := h4; exact h
  unfold objV
  dsimp only
  have hB := (Below.refl w.heap.size w).alloc (Nat.le_refl _) (.cells #[.string o.face.module, .slice a1 o.face.vars.length c1, .slice a2 o.face.procs.length c2, .slice a3 o.imports.length c3', .slice a4 o.code.length c4, .slice a5 o.relocs.length c5, .slice a6 o.procs.length c6, .slice a7 o.lows.length c7, .slice a8 o.highs.length c8, .int .i64 o.low, .int .i64 o.high, .int .i64 o.lowF, .int .i64 o.highF] 31)
  have hbx := BoxC.new w #[.string o.face.module, .slice a1 o.face.vars.length c1, .slice a2 o.face.procs.length c2, .slice a3 o.imports.length c3', .slice a4 o.code.length c4, .slice a5 o.relocs.length c5, .slice a6 o.procs.length c6, .slice a7 o.lows.length c7, .slice a8 o.highs.length c8, .int .i64 o.low, .int .i64 o.high, .int .i64 o.lowF, .int .i64 o.highF] 31
  have hC := oMayFaces o.face (.slice a1 o.face.vars.length c1) (.slice a2 o.face.procs.length c2) o.imports (.slice a3 o.imports.length c3') (w.alloc (.cells #[.string o.face.module, .slice a1 o.face.vars.length c1, .slice a2 o.face.procs.length c2, .slice a3 o.imports.length c3', .slice a4 o.code.length c4, .slice a5 o.relocs.length c5, .slice a6 o.procs.length c6, .slice a7 o.lows.length c7, .slice a8 o.highs.length c8, .int .i64 o.low, .int .i64 o.high, .int .i64 o.lowF, .int .i64 o.highF] 31)) (face.HasErr.below hw hB) (h1.below hB) (h2.below hB) (h3.below hB)
  unfold faceV at hC
  go_enter Tryz.func5, Tryz.ntmps5
  go_wp2_with (fail)
  refine hC.mono ?_
  rintro e w1 ⟨rfl, hb1⟩
  clear hC
  replace hB := hB.trans (hb1.mono hB.size)
  replace hbx := hbx.below hb1
  cases q1 : facesB o.face o.imports
  case false =>
    have HF : Hid (mayO o = false) := by show _ = _; rw [HV.out, q1]; rfl
    go_wp2
    go_ret
    exact ⟨ret_b HF.out.symm, hB⟩
  have y4 := hbx.cell 4 rfl
  go_wp2_with (fail)
  refine (oMayCode o.code _ _ (h4.below hB)).mono ?_
  rintro e w2 ⟨rfl, hb2⟩
  replace hB := hB.trans (hb2.mono hB.size)
  replace hbx := hbx.below hb2
  cases q2 : codeB o.code
  case false =>
    have HF : Hid (mayO o = false) := by show _ = _; rw [HV.out, q1, q2]; rfl
    go_wp2
    go_ret
    exact ⟨ret_b HF.out.symm, hB⟩
  have y5 := hbx.cell 5 rfl
  go_wp2_with (fail)
  refine (oMayRelocs o.relocs _ o.code.length _ (face.HasErr.below hw hB) hcl (h5.below hB)).mono ?_
  rintro e w3 ⟨rfl, hb3⟩
  replace hB := hB.trans (hb3.mono hB.size)
  replace hbx := hbx.below hb3
  cases q3 : relocsB o.code.length 0 o.relocs
  case false =>
    have HF : Hid (mayO o = false) := by show _ = _; rw [HV.out, q1, q2, q3]; rfl
    go_wp2
    go_ret
    exact ⟨ret_b HF.out.symm, hB⟩
  have y9 := hbx.cell 9 rfl
  have y10 := hbx.cell 10 rfl
  have y11 := hbx.cell 11 rfl
  have y12 := hbx.cell 12 rfl
  go_wp2_with (fail)
  refine (oMayWords4 o.low o.high o.lowF o.highF w3).mono ?_
  rintro e w4 ⟨rfl, hb4⟩
  replace hB := hB.trans (hb4.mono hB.size)
  replace hbx := hbx.below hb4
  cases q4 : wordsB [o.low, o.high, o.lowF, o.highF]
  case false =>
    have HF : Hid (mayO o = false) := by show _ = _; rw [HV.out, q1, q2, q3, q4]; rfl
    go_wp2
    go_ret
    exact ⟨ret_b HF.out.symm, hB⟩
  have z6 := hbx.cell 6 rfl
  go_wp2_with (fail)
  refine (oMayPlaces o.procs _ o.code.length _ (face.HasErr.below hw hB) (h6.below hB)).mono ?_
  rintro e w5 ⟨rfl, hb5⟩
  replace hB := hB.trans (hb5.mono hB.size)
  replace hbx := hbx.below hb5
  cases q5 : placesB o.procs o.code.length
  case false =>
    have HF : Hid (mayO o = false) := by show _ = _; rw [HV.out, q1, q2, q3, q4, q5]; rfl
    go_wp2
    go_ret
    exact ⟨ret_b HF.out.symm, hB⟩
  have z7 := hbx.cell 7 rfl
  have z9 := hbx.cell 9 rfl
  go_wp2_with (fail)
  refine (oMayPlaces o.lows _ o.low _ (face.HasErr.below hw hB) (h7.below hB)).mono ?_
  rintro e w6 ⟨rfl, hb6⟩
  replace hB := hB.trans (hb6.mono hB.size)
  replace hbx := hbx.below hb6
  cases q6 : placesB o.lows o.low
  case false =>
    have HF : Hid (mayO o = false) := by show _ = _; rw [HV.out, q1, q2, q3, q4, q5, q6]; rfl
    go_wp2
    go_ret
    exact ⟨ret_b HF.out.symm, hB⟩
  have z8 := hbx.cell 8 rfl
  have z10 := hbx.cell 10 rfl
  go_wp2_with (fail)
  refine (oMayPlaces o.highs _ o.high _ (face.HasErr.below hw hB) (h8.below hB)).mono ?_
  rintro e w7 ⟨rfl, hb7⟩
  replace hB := hB.trans (hb7.mono hB.size)
  cases q7 : placesB o.highs o.high
  case false =>
    have HF : Hid (mayO o = false) := by show _ = _; rw [HV.out, q1, q2, q3, q4, q5, q6, q7]; rfl
    go_wp2
    go_ret
    exact ⟨ret_b HF.out.symm, hB⟩
  have HF : Hid (mayO o = true) := by show _ = _; rw [HV.out, q1, q2, q3, q4, q5, q6, q7]; rfl
  go_wp2
  go_ret
  exact ⟨ret_b HF.out.symm, hB⟩
end Go.Proofs.YthfeojjfehbgjaaGreatDoor.obj
