/- What the reference's Letter, Digit, Inside, numeral and sign answer: contracts. What the reference's Name answers: a contract. -/
import Derived.Test.YthfeojjfehbgjaaGreatDoorProg
import Derived.WalkKit
import Derived.WalkLawsBesides
import Derived.Outline
import Derived.Test.YthfeojjfehbgjaaGreatDoorOGLexSpec
import Derived.Test.YthfeojjfehbgjaaGreatDoorOGLexRefP
import Derived.WalkSmall
import Derived.BigQuiet
import Derived.Deep.QuietTactic
import Derived.Test.YthfeojjfehbgjaaGreatDoorOGFaceFine
namespace Go.Proofs.YthfeojjfehbgjaaGreatDoor.lexs
open Go.RowKit
set_option linter.unusedVariables false

theorem rletter (c : Int) (w : World) :
    Calls Tryz.prog 56 #[.int .u8 c] w fun e w' => e = .returned (.bool (ltrI c)) ∧ w' = w := by
  go_enter Tryz.func56, Tryz.ntmps56
  go_wp2
  all_goals
    go_ret
    exact ⟨ret_bool (by rw [Bool.eq_iff_iff]; simp [ltrI] <;> omega), rfl⟩
theorem rdigit (c : Int) (w : World) :
    Calls Tryz.prog 77 #[.int .u8 c] w fun e w' => e = .returned (.bool (digI c)) ∧ w' = w := by
  go_enter Tryz.func77, Tryz.ntmps77
  go_wp2
  all_goals
    go_ret
    exact ⟨ret_bool (by rw [Bool.eq_iff_iff]; simp [digI] <;> omega), rfl⟩
theorem rinside (c : Int) (w : World) :
    Calls Tryz.prog 57 #[.int .u8 c] w fun e w' => e = .returned (.bool (insI c)) ∧ w' = w := by
  cases h1 : ltrI c <;> cases h2 : digI c
  all_goals
    go_enter Tryz.func57, Tryz.ntmps57
    go_wp2_with (first | (go_at_call 56; refine (rletter _ _).mono ?_; rintro e w' ⟨rfl, rfl⟩) | (go_at_call 77; refine (rdigit _ _).mono ?_; rintro e w' ⟨rfl, rfl⟩))
    go_ret
    exact ⟨ret_bool (by unfold insI; rw [h1, h2]; simp), rfl⟩
end Go.Proofs.YthfeojjfehbgjaaGreatDoor.lexs
namespace Go.Proofs.YthfeojjfehbgjaaGreatDoor.face
open Go.RowKit
open Go.Proofs.YthfeojjfehbgjaaGreatDoor.lexs (Tok ltrI insI rletter rinside)
open Go.Proofs.YthfeojjfehbgjaaGreatDoor.syn
set_option linter.unusedVariables false

def rv (k : Nat) : ByteArray := reserved.getD k empty
theorem any_hit (x : ByteArray) (k : Nat) (hk : k < 14) (h : eqS (rv k) x = true) : (reserved.any fun y => eqS y x) = true := by
  rw [List.any_eq_true]
  refine ⟨rv k, ?_, h⟩
  unfold rv
  rw [List.getD_eq_getElem?_getD, List.getElem?_eq_getElem (show k < reserved.length from hk)]
  exact List.getElem_mem _
theorem any_none (x : ByteArray) (h : ∀ j, j < 14 → eqS (rv j) x = false) : (reserved.any fun y => eqS y x) = false := by
  rw [List.any_eq_false]
  intro y hy
  obtain ⟨k, hk, rfl⟩ := List.mem_iff_getElem.1 hy
  have := h k hk
  unfold rv at this
  rw [List.getD_eq_getElem?_getD, List.getElem?_eq_getElem hk] at this
  simpa using this
theorem ret_bool {x y : Bool} (h : x = y) : Ending.returned (.bool x) = .returned (.bool y) := by rw [h]
theorem isName_short {x : ByteArray} (h : ¬ (1 ≤ x.size ∧ x.size ≤ 16)) : isName x = false := by unfold isName; rw [decide_eq_false h]; rfl
theorem isName_letter {x : ByteArray} (h0 : 0 < x.size) (h : ltrI (x[0].toNat : Int) = false) : isName x = false := by
  unfold isName
  rw [lexs.headL x h0, h]
  simp
theorem isName_inside {x : ByteArray} (k : Nat) (hk : k < x.size) (h : insI (x[k].toNat : Int) = false) : isName x = false := by
  have : x.data.toList.all (fun c => insI (c.toNat : Int)) = false := by
    rw [List.all_eq_false]
    exact ⟨x[k], by rw [← lexs.getL x k hk]; exact List.getElem_mem _, by simp [h]⟩
  unfold isName
  rw [this]
  simp
theorem isName_rest {x : ByteArray} (h0 : 1 ≤ x.size ∧ x.size ≤ 16) (hl : ltrI (x[0].toNat : Int) = true) (ha : ∀ k (h : k < x.size), insI (x[k].toNat : Int) = true) : isName x = !(reserved.any fun y => eqS y x) := by
  have : x.data.toList.all (fun c => insI (c.toNat : Int)) = true := by
    rw [List.all_eq_true]
    intro c hc
    obtain ⟨k, hk, rfl⟩ := List.mem_iff_getElem.1 hc
    rw [lexs.len_L] at hk
    exact ha k hk
  unfold isName
  rw [this, lexs.headL x h0.1, hl, decide_eq_true h0]
  simp
set_option maxRecDepth 100000 in
set_option maxHeartbeats 1000000 in
theorem rName (x : ByteArray) (w : World) :
    Calls Tryz.prog 21 #[.string x] w fun e w' => e = .returned (.bool (isName x)) ∧ Below w.heap.size w w' := by
  by_cases hz : 1 ≤ x.size
  case neg =>
    rw [isName_short (fun h => hz h.1)]
    have hz' : (x.size : Int) < 1 := by omega
    go_enter Tryz.func21, Tryz.ntmps21
    go_wp2
    go_ret
    exact ⟨rfl, Below.refl _ _⟩
  by_cases h16 : x.size ≤ 16
  case neg =>
    rw [isName_short (fun h => h16 h.2)]
    go_enter Tryz.func21, Tryz.ntmps21
    go_wp2_with (go_at_call 56; refine (rletter _ _).mono ?_; rintro e w' ⟨rfl, hw⟩; obtain rfl := hw.symm)
    go_ret
    exact ⟨rfl, Below.refl _ _⟩
  cases hl : ltrI (x[0].toNat : Int)
  · rw [isName_letter hz hl]
    go_enter Tryz.func21, Tryz.ntmps21
    go_wp2_with (go_at_call 56; refine (rletter _ _).mono ?_; rintro e w' ⟨rfl, hw⟩; obtain rfl := hw.symm)
    go_ret
    exact ⟨rfl, Below.refl _ _⟩
  · obtain ⟨V, hV⟩ : ∃ V, V = isName x := ⟨_, rfl⟩
    rw [← hV]
    have HV : Hid (V = isName x) := hV
    clear hV
    go_enter Tryz.func21, Tryz.ntmps21
    go_wp2_with (go_at_call 56; refine (rletter _ _).mono ?_; rintro e w' ⟨rfl, hw⟩; obtain rfl := hw.symm)
    go_loop [3] (fun t => ∃ j : Nat, j ≤ x.size ∧ t = .int .i64 j ∧ Hid (∀ k (h : k < x.size), k < j → insI (x[k].toNat : Int) = true)) (fun t => x.size - (intOf t).toNat)
    case atStart => exact ⟨0, Nat.zero_le _, rfl, fun k _ h => by omega⟩
    case round =>
      obtain ⟨j, hj, rfl, HN⟩ := hrel
      by_cases hq : j < x.size
      · cases hin : insI (x[j].toNat : Int)
        · have HF : Hid (V = false) := HV.out.trans (isName_inside j hq hin)
          go_wp2_with (go_at_call 57; refine (rinside _ _).mono ?_; rintro e w' ⟨rfl, hw⟩; obtain rfl := hw.symm)
          go_ret
          exact ⟨ret_bool HF.out.symm, Below.refl _ _⟩
        · go_wp2_with (go_at_call 57; refine (rinside _ _).mono ?_; rintro e w' ⟨rfl, hw⟩; obtain rfl := hw.symm)
          go_round
          case rel => exact ⟨j + 1, by omega, by go_num, fun k h h1 => by
            rcases Nat.lt_or_ge k j with h3 | h3
            · exact HN.out k h h3
            · have : k = j := by omega
              subst this
              exact hin⟩
          case measure => simp [intOf]; omega
      · have HA : Hid (V = !(reserved.any fun y => eqS y x)) := HV.out.trans (isName_rest ⟨hz, h16⟩ hl (fun k h => HN.out k h (by omega)))
        clear HN HV hl
        go_wp2_with go_in
        go_loopw [5] (fun t wr => ∃ k : Nat, k ≤ 14 ∧ t = .int .i64 k ∧ (∀ j, j < 14 → wr.cell? ⟨w.heap.size, j, none⟩ = some (.string (rv j))) ∧ Below w.heap.size w wr ∧ Hid (∀ j, j < k → eqS (rv j) x = false)) (fun t _ => 14 - (intOf t).toNat)
        case atStart =>
          refine ⟨0, by omega, rfl, ?_, (Below.refl _ _).alloc (Nat.le_refl _) _, fun j hj => by omega⟩
          intro j hj
          have hc : j = 0 ∨ j = 1 ∨ j = 2 ∨ j = 3 ∨ j = 4 ∨ j = 5 ∨ j = 6 ∨ j = 7 ∨ j = 8 ∨ j = 9 ∨ j = 10 ∨ j = 11 ∨ j = 12 ∨ j = 13 := by omega
          rcases hc with rfl | rfl | rfl | rfl | rfl | rfl | rfl | rfl | rfl | rfl | rfl | rfl | rfl | rfl <;> simp <;> rfl
        case round =>
          obtain ⟨k, hk, rfl, hcells, hbw, HN⟩ := hrel
          by_cases hlt : k < 14
          · have hcell := hcells k hlt
            have HC : Hid (∀ j, j < 14 → wr.cell? ⟨w.heap.size, j, none⟩ = some (.string (rv j))) := hcells
            clear hcells
            cases he : eqS (rv k) x
            · have HE : Hid (eqS (rv k) x = false) := he
              unfold eqS at he
              generalize rv k = y at hcell he
              go_wp2
              go_roundw
              case rel => exact ⟨k + 1, by omega, by go_num, HC.out, hbw, fun j hj => by
                rcases Nat.lt_or_ge j k with h | h
                · exact HN.out j h
                · have : j = k := by omega
                  subst this
                  exact HE.out⟩
              case measure => simp [intOf]; omega
            · have HF : Hid (V = false) := by
                show _ = _
                rw [HA.out, any_hit x k hlt he]
                rfl
              unfold eqS at he
              generalize rv k = y at hcell he
              go_wp2
              go_ret
              exact ⟨ret_bool HF.out.symm, hbw⟩
          · have HF : Hid (V = true) := by
              show _ = _
              rw [HA.out, any_none x (fun j hj => HN.out j (by omega))]
              rfl
            go_wp2
            go_ret
            exact ⟨ret_bool HF.out.symm, hbw⟩
end Go.Proofs.YthfeojjfehbgjaaGreatDoor.face
