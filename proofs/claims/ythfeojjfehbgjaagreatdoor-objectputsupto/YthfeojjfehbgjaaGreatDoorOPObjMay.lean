/- What the program's mayWords, mayReloc, mayRelocs, mayCode, mayPlaces answer: contracts. -/
import Derived.Test.YthfeojjfehbgjaaGreatDoorProg
import Derived.WalkKit
import Derived.WalkLawsBesides
import Derived.Outline
import Derived.WalkSmall
import Derived.BigQuiet
import Derived.Deep.QuietTactic
import Derived.Deep.RegionWith
import Derived.Maps.OwnSet
import Derived.Test.YthfeojjfehbgjaaGreatDoorOPObjMem
import Derived.Test.YthfeojjfehbgjaaGreatDoorOPFaceOwnD
import Derived.Test.YthfeojjfehbgjaaGreatDoorOPMacHas
namespace Go.Proofs.YthfeojjfehbgjaaGreatDoor.obj
open Go.RowKit Go.Maps Go.WideMaps
open Go.Proofs.YthfeojjfehbgjaaGreatDoor.lexs (HasErr)
open Go.Proofs.YthfeojjfehbgjaaGreatDoor.syn (isName eqS)
open Go.Proofs.YthfeojjfehbgjaaGreatDoor.mac (Ins hasB)
open Go.Proofs.YthfeojjfehbgjaaGreatDoor.face (VarD ProcD FaceD keep ret_b all_no all_yes setD keyL key_name setD_snoc setD_size apartB grown_of_below below_box box_cell take_next)
set_option linter.unusedVariables false
set_option linter.unusedSimpArgs false
set_option maxRecDepth 100000
set_option maxHeartbeats 1000000 in
theorem oMayWords (l : List Int) (a : Option Addr) (c : Nat) (w : World) (hl : l.length ≤ 1048576) (ha : l ≠ [] → ∃ g o, a = some ⟨g, o, none⟩ ∧ ∀ i (h : i < l.length), w.cell? ⟨g, o + i, none⟩ = some (.int .i64 l[i])) :
    Calls Tryz.prog 15 #[.slice a l.length c] w fun e w' => e = .returned (.bool (wordsB l)) ∧ w' = w := by
  have HV : Hid (∀ i (h : i < l.length), wordB l[i] = false → wordsB l = false) := fun i h e => all_no i h e
  have HV2 : Hid ((∀ i (h : i < l.length), wordB l[i] = true) → wordsB l = true) := fun h => all_yes h
  go_enter Tryz.func15, Tryz.ntmps15
  go_wp2
  go_loop [7] (fun t => ∃ j : Nat, j ≤ l.length ∧ t = .int .i64 j ∧ Hid (∀ i (h : i < l.length), i < j → wordB l[i] = true)) (fun t => l.length - (intOf t).toNat)
  case atStart => exact ⟨0, Nat.zero_le _, rfl, fun i _ h => by omega⟩
  case round =>
    obtain ⟨j, hj, rfl, HN⟩ := hrel
    by_cases hlt : j < l.length
    · obtain ⟨g, o, rfl, hc⟩ := ha (by intro e; rw [e] at hlt; simp at hlt)
      have q := hc j hlt
      clear hc ha
      have HX : Hid (∀ b, wordB l[j] = b → wordB l[j] = b) := fun b h => h
      have HW := HV.out j hlt
      have HJ : Hid (wordB l[j] = true → ∀ i (h : i < l.length), i < j + 1 → wordB l[i] = true) := fun h1 i h h2 => by
        rcases Nat.lt_or_ge i j with h3 | h3
        · exact HN.out i h h3
        · have : i = j := by omega
          subst this
          exact h1
      replace HW : Hid (wordB l[j] = false → wordsB l = false) := HW
      clear HN HX
      generalize l[j] = x at *
      by_cases h0 : x < 0
      · have HF : Hid (wordsB l = false) := HW.out (by simp [wordB]; omega)
        go_wp2
        go_ret
        exact ⟨ret_b HF.out.symm, rfl⟩
      · by_cases h1 : 20000 < x
        · have HF : Hid (wordsB l = false) := HW.out (by simp [wordB]; omega)
          go_wp2
          go_ret
          exact ⟨ret_b HF.out.symm, rfl⟩
        · have HT : Hid (wordB x = true) := by show _ = _; simp [wordB]; omega
          go_wp2
          go_round
          case rel => exact ⟨j + 1, by omega, by go_num, HJ.out HT.out⟩
          case measure => simp [intOf]; omega
    · have HF : Hid (wordsB l = true) := HV2.out fun i h => HN.out i h (by omega)
      go_wp2
      go_ret
      exact ⟨ret_b HF.out.symm, rfl⟩
set_option maxHeartbeats 1000000 in
theorem oMayReloc (x : RelD) (w : World) (hw : HasErr w) :
    Calls Tryz.prog 39 #[relV x] w fun e w' => e = .returned (.bool (relB x)) ∧ Below w.heap.size w w' := by
  have c4 : Tryz.prog.cellsOf 57 = 4 := by kernel_rfl
  obtain ⟨at1, kd, md, nm⟩ := x
  unfold relV
  have hB := (Below.refl w.heap.size w).alloc (Nat.le_refl _) (.cells #[.int .i64 at1, .int .i64 kd, .string md, .string nm] 57)
  have hN := face.oName md _ (face.HasErr.below hw hB)
  have hM := fun W (hb : Below (w.alloc (.cells #[.int .i64 at1, .int .i64 kd, .string md, .string nm] 57)).heap.size (w.alloc (.cells #[.int .i64 at1, .int .i64 kd, .string md, .string nm] 57)) W) => face.oName nm W (face.HasErr.below (face.HasErr.below hw hB) hb)
  obtain ⟨V, hV⟩ : ∃ V, V = relB ⟨at1, kd, md, nm⟩ := ⟨_, rfl⟩
  rw [← hV]
  by_cases h1 : kd = 1
  · subst h1
    have HV : Hid (V = (md.toList.isEmpty && nm.toList.isEmpty)) := by show _ = _; rw [hV]; rfl
    clear hV hN hM
    cases h2 : md.toList.isEmpty <;> cases h3 : nm.toList.isEmpty
    all_goals
      go_enter Tryz.func39, Tryz.ntmps39
      go_wp2
      go_ret
      exact ⟨ret_b (by simp [HV.out, h2, h3]), hB⟩
  have k1 : (kd == 1) = false := by simpa using h1
  by_cases h2 : kd = 2 ∨ kd = 3 ∨ kd = 4
  · have HV : Hid (V = (isName md && isName nm)) := by show _ = _; rw [hV]; simp only [relB]; rw [if_neg h1, if_pos h2]
    clear hV h1
    cases hn : isName md <;> cases hm : isName nm
    all_goals
      rw [hn] at hN
      simp only [hm] at hM
      rcases h2 with rfl | rfl | rfl
      all_goals
        go_enter Tryz.func39, Tryz.ntmps39
        go_wp2_with first
          | (go_at_call 40; refine (hM w2 hb2).mono ?_; rintro e w3 ⟨rfl, hb3⟩)
          | (go_at_call 40; refine hN.mono ?_; rintro e w2 ⟨rfl, hb2⟩; have y3 := box_cell hb2 3)
        go_ret
        first
          | exact ⟨ret_b (by simp [HV.out, hn, hm]), hB.trans ((hb2.trans (hb3.mono hb2.size)).mono (by simp))⟩
          | exact ⟨ret_b (by simp [HV.out, hn, hm]), hB.trans (hb2.mono (by simp))⟩
  · have HF : Hid (V = false) := by show _ = _; rw [hV]; simp only [relB]; rw [if_neg h1, if_neg h2]
    have k2 : (kd == 2) = false := by simp; omega
    have k3 : (kd == 3) = false := by simp; omega
    have k4 : (kd == 4) = false := by simp; omega
    clear hV h1 h2
    go_enter Tryz.func39, Tryz.ntmps39
    go_wp2
    go_ret
    exact ⟨ret_b HF.out.symm, hB⟩
/-- what is left of relocs -/
theorem relocs_at (n : Int) (l : List RelD) : ∀ (j : Nat) (h : j < l.length) (m : Int), relocsB n m (l.drop j) = (relAt n m l[j] && relocsB n (l[j].at' + 1) (l.drop (j + 1))) := fun j h m => by
  rw [List.drop_eq_getElem_cons h]
  rfl
set_option maxHeartbeats 1000000 in
theorem oMayRelocs (l : List RelD) (u : Value) (n : Nat) (w : World) (hw : HasErr w) (hn : n ≤ 1048576) (hu : RelsIn w u l) :
    Calls Tryz.prog 14 #[u, .int .i64 n] w fun e w' => e = .returned (.bool (relocsB n 0 l)) ∧ Below w.heap.size w w' := by
  have c4 : Tryz.prog.cellsOf 57 = 4 := by kernel_rfl
  obtain ⟨a, c, rfl, hl, hc⟩ := hu
  obtain ⟨V, hV⟩ : ∃ V, V = relocsB n 0 l := ⟨_, rfl⟩
  rw [← hV]
  go_enter Tryz.func14, Tryz.ntmps14
  go_wp2
  go_loopw [10, 5] (fun t s wr => ∃ (j : Nat) (m : Int), j ≤ l.length ∧ t = .int .i64 j ∧ s = .int .i64 m ∧ Hid (V = relocsB n m (l.drop j)) ∧ 0 ≤ m ∧ m ≤ 1048577 ∧ Below w.heap.size w wr) (fun t s _ => l.length - (intOf t).toNat)
  case atStart => exact ⟨0, 0, Nat.zero_le _, rfl, rfl, hV, by omega, by omega, Below.refl _ _⟩
  case round =>
    clear hV
    obtain ⟨j, m, hj, rfl, rfl, HV, hm0, hm1, hB⟩ := hrel
    by_cases hlt : j < l.length
    · obtain ⟨g, o, rfl, hcc⟩ := hc (by intro e; rw [e] at hlt; simp at hlt)
      obtain ⟨k0, k1, k2, k3⟩ := hcc j hlt
      replace HV : Hid (V = (relAt n m l[j] && relocsB n (l[j].at' + 1) (l.drop (j + 1)))) := HV.out.trans (relocs_at n l j hlt m)
      replace k0 := keep k0 hB
      replace k1 := keep k1 hB
      replace k2 := keep k2 hB
      replace k3 := keep k3 hB
      clear hcc hc
      generalize l[j] = x at *
      have hB2 := hB.alloc hB.size (.cells #[.int .i64 x.at', .int .i64 x.kind, .string x.module, .string x.name] 57)
      have hR := oMayReloc x _ (face.HasErr.below hw hB2)
      unfold relV at hR
      by_cases h0 : x.at' < m
      · have HF : Hid (V = false) := by show _ = _; rw [HV.out]; simp [relAt]; omega
        go_wp2
        go_ret
        exact ⟨ret_b HF.out.symm, hB2⟩
      · by_cases h1 : (n : Int) ≤ x.at'
        · have HF : Hid (V = false) := by show _ = _; rw [HV.out]; simp [relAt]; omega
          go_wp2
          go_ret
          exact ⟨ret_b HF.out.symm, hB2⟩
        · cases hx : relB x
          · have HF : Hid (V = false) := by show _ = _; rw [HV.out]; simp [relAt, hx]
            rw [hx] at hR
            go_wp2_with (go_at_call 39; refine hR.mono ?_; rintro e w3 ⟨rfl, hb3⟩)
            go_ret
            exact ⟨ret_b HF.out.symm, hB2.trans (hb3.mono hB2.size)⟩
          · have HT : Hid (V = relocsB n (x.at' + 1) (l.drop (j + 1))) := by show _ = _; rw [HV.out]; simp [relAt, hx, show m ≤ x.at' by omega, show x.at' < (n : Int) by omega]
            rw [hx] at hR
            have hwr : wrap64 (x.at' + 1) = x.at' + 1 := by unfold wrap64; omega
            go_wp2_with (go_at_call 39; refine hR.mono ?_; rintro e w3 ⟨rfl, hb3⟩; have y0 := box_cell hb3 0)
            go_roundw
            case rel => exact ⟨j + 1, x.at' + 1, by omega, by go_num, rfl, HT.out, by omega, by omega, hB2.trans (hb3.mono hB2.size)⟩
            case measure => simp [intOf]; omega
    · have HF : Hid (V = true) := by show _ = _; rw [HV.out, List.drop_eq_nil_of_le (by omega)]; rfl
      go_wp2
      go_ret
      exact ⟨ret_b HF.out.symm, hB⟩
set_option maxHeartbeats 1000000 in
theorem oMayCode (l : List Ins) (u : Value) (w : World) (hu : CodeIn w u l) :
    Calls Tryz.prog 13 #[u] w fun e w' => e = .returned (.bool (codeB l)) ∧ Below w.heap.size w w' := by
  have c5 : Tryz.prog.cellsOf 55 = 5 := by kernel_rfl
  obtain ⟨a, c, rfl, hl, hc⟩ := hu
  obtain ⟨V, hV⟩ : ∃ V, V = codeB l := ⟨_, rfl⟩
  rw [← hV]
  by_cases hlen : 20000 < (l.length : Int)
  · have HF : Hid (V = false) := by show _ = _; rw [hV]; simp [codeB]; omega
    clear hV
    go_enter Tryz.func13, Tryz.ntmps13
    go_wp2
    go_ret
    exact ⟨ret_b HF.out.symm, Below.refl _ _⟩
  have HV : Hid (V = l.all hasB) := by show _ = _; rw [hV]; simp [codeB]; omega
  clear hV
  go_enter Tryz.func13, Tryz.ntmps13
  go_wp2
  go_loopw [10] (fun t wr => ∃ j : Nat, j ≤ l.length ∧ t = .int .i64 j ∧ Below w.heap.size w wr ∧ Hid (∀ i (h : i < l.length), i < j → hasB l[i] = true)) (fun t _ => l.length - (intOf t).toNat)
  case atStart => exact ⟨0, Nat.zero_le _, rfl, Below.refl _ _, fun i _ h => by omega⟩
  case round =>
    obtain ⟨j, hj, rfl, hB, HN⟩ := hrel
    by_cases hlt : j < l.length
    · obtain ⟨g, o, rfl, hcc⟩ := hc (by intro e; rw [e] at hlt; simp at hlt)
      obtain ⟨k0, k1, k2, k3, k4⟩ := hcc j hlt
      replace k0 := keep k0 hB
      replace k1 := keep k1 hB
      replace k2 := keep k2 hB
      replace k3 := keep k3 hB
      replace k4 := keep k4 hB
      have HF : Hid (hasB l[j] = false → V = false) := fun h => by rw [HV.out]; exact all_no j hlt h
      have HJ : Hid (hasB l[j] = true → ∀ i (h : i < l.length), i < j + 1 → hasB l[i] = true) := fun h1 i h h2 => by
        rcases Nat.lt_or_ge i j with h3 | h3
        · exact HN.out i h h3
        · have : i = j := by omega
          subst this
          exact h1
      clear hcc hc HN
      generalize l[j] = x at *
      obtain ⟨op, a1, b1, c1, n1⟩ := x
      dsimp only at k0 k1 k2 k3 k4
      have hB2 := hB.alloc hB.size (.cells #[.int .i64 op, .int .i64 a1, .int .i64 b1, .int .i64 c1, .int .i64 n1] 55)
      have hR := mac.oHas' op a1 b1 c1 n1 (wr.alloc (.cells #[.int .i64 op, .int .i64 a1, .int .i64 b1, .int .i64 c1, .int .i64 n1] 55))
      cases hx : hasB ⟨op, a1, b1, c1, n1⟩
      · have HF2 : Hid (V = false) := HF.out hx
        rw [hx] at hR
        go_wp2_with (go_at_call 38; refine hR.mono ?_; rintro e w3 ⟨rfl, hb3⟩)
        go_ret
        exact ⟨ret_b HF2.out.symm, hB2.trans (hb3.mono hB2.size)⟩
      · have HT : Hid (∀ i (h : i < l.length), i < j + 1 → hasB l[i] = true) := HJ.out hx
        rw [hx] at hR
        go_wp2_with (go_at_call 38; refine hR.mono ?_; rintro e w3 ⟨rfl, hb3⟩)
        go_roundw
        case rel => exact ⟨j + 1, by omega, by go_num, hB2.trans (hb3.mono hB2.size), HT.out⟩
        case measure => simp [intOf]; omega
    · have HF : Hid (V = true) := by show _ = _; rw [HV.out]; exact all_yes fun i h => HN.out i h (by omega)
      go_wp2
      go_ret
      exact ⟨ret_b HF.out.symm, hB⟩
end Go.Proofs.YthfeojjfehbgjaaGreatDoor.obj
