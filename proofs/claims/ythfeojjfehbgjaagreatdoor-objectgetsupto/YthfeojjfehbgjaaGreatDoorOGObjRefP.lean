/- What the reference's places answers: a contract. -/
import Derived.Test.YthfeojjfehbgjaaGreatDoorOGObjRefI
import Derived.Test.YthfeojjfehbgjaaGreatDoorOGLexRefL
import Derived.Test.YthfeojjfehbgjaaGreatDoorOGFaceMem
import Derived.Test.YthfeojjfehbgjaaGreatDoorOGTakeD
namespace Go.Proofs.YthfeojjfehbgjaaGreatDoor.obj
open Go.RowKit
open Go.Proofs.YthfeojjfehbgjaaGreatDoor.syn (isName eqS)
open Go.Proofs.YthfeojjfehbgjaaGreatDoor.ord (tkd putd)
open Go.Proofs.YthfeojjfehbgjaaGreatDoor.face (keep ret_b all_no all_yes apartB among rName)
set_option linter.unusedVariables false
set_option linter.unusedSimpArgs false
set_option maxRecDepth 100000
theorem apB_no : ∀ {l seen : List ByteArray} (i : Nat) (h : i < l.length), among (seen ++ l.take i) l[i] = true → apartB seen l = false
  | [], _, _, h, _ => by simp at h
  | x :: r, seen, 0, h, hp => by
    show (!among seen x && apartB (seen ++ [x]) r) = false
    simp only [List.getElem_cons_zero, List.take_zero, List.append_nil] at hp
    rw [hp]; rfl
  | x :: r, seen, i + 1, h, hp => by
    show (!among seen x && apartB (seen ++ [x]) r) = false
    simp only [List.getElem_cons_succ, List.take_succ_cons] at hp
    rw [apB_no (seen := seen ++ [x]) i (by simpa using h) (by simpa using hp), Bool.and_false]
theorem apB_yes : ∀ {l seen : List ByteArray}, (∀ i (h : i < l.length), among (seen ++ l.take i) l[i] = false) → apartB seen l = true
  | [], _, _ => rfl
  | x :: r, seen, hp => by
    show (!among seen x && apartB (seen ++ [x]) r) = true
    have h0 : among (seen ++ []) x = false := hp 0 (by simp)
    rw [List.append_nil] at h0
    rw [h0, apB_yes (fun i h => by
      have := hp (i + 1) (by simp; omega)
      simpa using this)]
    rfl
theorem among_take {l : List ByteArray} {x : ByteArray} {j : Nat} (hj : j ≤ l.length) : (∀ i (h : i < l.length), i < j → eqS l[i] x = false) → among (l.take j) x = false := fun h => by
  unfold among
  rw [List.any_eq_false]
  intro y hy
  obtain ⟨k, hk, rfl⟩ := List.mem_iff_getElem.1 hy
  rw [List.length_take] at hk
  rw [List.getElem_take, h k (by omega) (by omega)]
  simp
theorem among_at {l : List ByteArray} {x : ByteArray} {j k : Nat} (hk : k < l.length) (hkj : k < j) (h : eqS l[k] x = true) : among (l.take j) x = true := by
  unfold among
  rw [List.any_eq_true]
  exact ⟨l[k], List.mem_iff_getElem.2 ⟨k, by rw [List.length_take]; omega, by rw [List.getElem_take]⟩, h⟩
set_option maxHeartbeats 2000000 in
theorem rPlaces (l : List PlcD) (u : Value) (n : Int) (w : World) (hu : PlcsIn w u l) :
    Calls Tryz.prog 22 #[u, .int .i64 n] w fun e w' => e = .returned (.bool (placesB l n)) ∧ Below w.heap.size w w' := by
  have c2 : Tryz.prog.cellsOf 85 = 2 := by kernel_rfl
  obtain ⟨a, c, rfl, hl, hc⟩ := hu
  obtain ⟨V, hV⟩ : ∃ V, V = placesB l n := ⟨_, rfl⟩
  rw [← hV]
  have HV : Hid (V = (l.all (plcB n) && apartB [] (l.map (·.name)))) := hV
  clear hV
  go_enter Tryz.func22, Tryz.ntmps22
  go_wp2
  go_loopw [5] (fun t wr => ∃ j : Nat, j ≤ l.length ∧ t = .int .i64 j ∧ Below w.heap.size w wr ∧ Hid (∀ i (h : i < l.length), i < j → plcB n l[i] = true ∧ among ((l.map (·.name)).take i) l[i].name = false)) (fun t _ => l.length - (intOf t).toNat)
  case atStart => exact ⟨0, Nat.zero_le _, rfl, Below.refl _ _, fun i _ h => by omega⟩
  case round =>
    obtain ⟨j, hj, rfl, hB, HN⟩ := hrel
    by_cases hlt : j < l.length
    · obtain ⟨g, o, rfl, hcc⟩ := hc (by intro e; rw [e] at hlt; simp at hlt)
      obtain ⟨k0, k1⟩ := hcc j hlt
      replace k0 := keep k0 hB
      replace k1 := keep k1 hB
      have HF : Hid (plcB n l[j] = false → V = false) := fun h => by rw [HV.out, all_no j hlt h]; rfl
      have HF2 : Hid (among ((l.map (·.name)).take j) l[j].name = true → V = false) := fun h => by
        rw [HV.out, apB_no (l := l.map (·.name)) (seen := []) j (by simpa using hlt) (by simpa using h), Bool.and_false]
      have hR := rName l[j].name wr
      have hcj := hcc j hlt
      have HX : Hid (plcB n l[j] = (isName l[j].name && (decide (0 ≤ l[j].at') && decide (l[j].at' < n)))) := rfl
      have HJ : Hid (plcB n l[j] = true → among ((l.map (·.name)).take j) l[j].name = false → ∀ i (h : i < l.length), i < j + 1 → plcB n l[i] = true ∧ among ((l.map (·.name)).take i) l[i].name = false) := fun h1 h2 i h h3 => by
        rcases Nat.lt_or_ge i j with h4 | h4
        · exact HN.out i h h4
        · have : i = j := by omega
          subst this
          exact ⟨h1, h2⟩
      clear HN hc
      generalize hxx : l[j] = x at *
      clear hxx
      obtain ⟨nm, at1⟩ := x
      dsimp only at k0 k1 hcj HX HJ HF2 hR
      cases hx : isName nm
      · have HF3 : Hid (V = false) := HF.out (by rw [HX.out, hx]; rfl)
        rw [hx] at hR
        go_wp2_with (go_at_call 21; refine hR.mono ?_; rintro e w3 ⟨rfl, hb3⟩)
        go_ret
        exact ⟨ret_b HF3.out.symm, hB.trans (hb3.mono hB.size)⟩
      · rw [hx] at hR
        by_cases h0 : at1 < 0
        · have HF3 : Hid (V = false) := HF.out (by rw [HX.out]; simp; omega)
          go_wp2_with (go_at_call 21; refine hR.mono ?_; rintro e w3 ⟨rfl, hb3⟩; have y1 := keep k1 hb3)
          go_ret
          exact ⟨ret_b HF3.out.symm, hB.trans (hb3.mono hB.size)⟩
        · by_cases h1 : n ≤ at1
          · have HF3 : Hid (V = false) := HF.out (by rw [HX.out]; simp; omega)
            go_wp2_with (go_at_call 21; refine hR.mono ?_; rintro e w3 ⟨rfl, hb3⟩; have y1 := keep k1 hb3)
            go_ret
            exact ⟨ret_b HF3.out.symm, hB.trans (hb3.mono hB.size)⟩
          · have HP : Hid (plcB n ⟨nm, at1⟩ = true) := by show _ = _; rw [HX.out, hx]; simp; omega
            clear HF HX
            go_wp2_with (go_at_call 21; refine hR.mono ?_; rintro e w3 ⟨rfl, hb3⟩; have y1 := keep k1 hb3)
            have hB3 := hB.trans (hb3.mono hB.size)
            clear hb3 y1 k0 k1 hR hB
            go_loopw [6] (fun t wr => ∃ k : Nat, k ≤ j ∧ t = .int .i64 k ∧ Below w.heap.size w wr ∧ Hid (∀ i (h : i < l.length), i < k → eqS l[i].name nm = false)) (fun t _ => j - (intOf t).toNat)
            case atStart => exact ⟨0, Nat.zero_le _, rfl, hB3, fun i _ h => by omega⟩
            case round =>
              clear hB3
              obtain ⟨k, hk, rfl, hB, HE⟩ := hrel
              by_cases hkj : k < j
              · obtain ⟨m0, _⟩ := hcc k (by omega)
                have hB1 := hB.drew
                have n0 := hcj.1
                have HQ : Hid (eqS l[k].name nm = true → V = false) := fun h => HF2.out (among_at (l := l.map (·.name)) (k := k) (by simp; omega) hkj (by simpa using h))
                have HQ2 : Hid (eqS l[k].name nm = false → ∀ i (h : i < l.length), i < k + 1 → eqS l[i].name nm = false) := fun h1 i h h2 => by
                  rcases Nat.lt_or_ge i k with h3 | h3
                  · exact HE.out i h h3
                  · have : i = k := by omega
                    subst this
                    exact h1
                have hkl : k < l.length := by omega
                generalize l[k] = z at *
                obtain ⟨zn, za⟩ := z
                dsimp only at m0 HQ HQ2
                go_wp2
                refine wp_region_held_drew (S := fun W => Below w.heap.size w W) (by kernel_rfl) hB1 (fun hS => ?_)
                refine tkd (i := 0) (v := .slice (some ⟨g, o, none⟩) l.length c) rfl rfl (by kernel_rfl) (by kernel_rfl) (by kernel_rfl) (fun _ _ _ h => h) (Or.inl ⟨by rfl, fun wq hSw => by skip; go_simp⟩) hS ?_
                simp only [List.setIfInBounds_toArray, List.set_cons_zero, List.set_cons_succ]
                refine tkd (i := 1) (v := .int .i64 (k : Int)) rfl rfl (by kernel_rfl) (by kernel_rfl) (by kernel_rfl) (fun _ _ _ h => h) (Or.inl ⟨by rfl, fun wq hSw => by skip; go_simp⟩) hS ?_
                simp only [List.setIfInBounds_toArray, List.set_cons_zero, List.set_cons_succ]
                refine tkd (i := 2) (v := .pointer (some ⟨g, o + k * 2, none⟩)) rfl rfl (by kernel_rfl) (by kernel_rfl) (by kernel_rfl) (fun _ _ _ h => h) (Or.inl ⟨by rfl, fun wq hSw => by skip; go_simp⟩) hS ?_
                simp only [List.setIfInBounds_toArray, List.set_cons_zero, List.set_cons_succ]
                refine tkd (i := 3) (v := .pointer (some ⟨g, o + k * 2, none⟩)) rfl rfl (by kernel_rfl) (by kernel_rfl) (by kernel_rfl) (fun _ _ _ h => h) (Or.inl ⟨by rfl, fun wq hSw => by skip; go_simp⟩) hS ?_
                simp only [List.setIfInBounds_toArray, List.set_cons_zero, List.set_cons_succ]
                refine tkd (i := 4) (v := .string zn) rfl rfl (by kernel_rfl) (by kernel_rfl) (by kernel_rfl) (fun _ _ _ h => h) (Or.inl ⟨by rfl, fun wq hSw => by have q := keep m0 hSw; go_simp⟩) hS ?_
                simp only [List.setIfInBounds_toArray, List.set_cons_zero, List.set_cons_succ]
                refine tkd (i := 5) (v := .slice (some ⟨g, o, none⟩) l.length c) rfl rfl (by kernel_rfl) (by kernel_rfl) (by kernel_rfl) (fun _ _ _ h => h) (Or.inl ⟨by rfl, fun wq hSw => by skip; go_simp⟩) hS ?_
                simp only [List.setIfInBounds_toArray, List.set_cons_zero, List.set_cons_succ]
                refine tkd (i := 6) (v := .int .i64 (j : Int)) rfl rfl (by kernel_rfl) (by kernel_rfl) (by kernel_rfl) (fun _ _ _ h => h) (Or.inl ⟨by rfl, fun wq hSw => by skip; go_simp⟩) hS ?_
                simp only [List.setIfInBounds_toArray, List.set_cons_zero, List.set_cons_succ]
                refine tkd (i := 7) (v := .pointer (some ⟨g, o + j * 2, none⟩)) rfl rfl (by kernel_rfl) (by kernel_rfl) (by kernel_rfl) (fun _ _ _ h => h) (Or.inl ⟨by rfl, fun wq hSw => by skip; go_simp⟩) hS ?_
                simp only [List.setIfInBounds_toArray, List.set_cons_zero, List.set_cons_succ]
                refine tkd (i := 8) (v := .pointer (some ⟨g, o + j * 2, none⟩)) rfl rfl (by kernel_rfl) (by kernel_rfl) (by kernel_rfl) (fun _ _ _ h => h) (Or.inl ⟨by rfl, fun wq hSw => by skip; go_simp⟩) hS ?_
                simp only [List.setIfInBounds_toArray, List.set_cons_zero, List.set_cons_succ]
                refine tkd (i := 9) (v := .string nm) rfl rfl (by kernel_rfl) (by kernel_rfl) (by kernel_rfl) (fun _ _ _ h => h) (Or.inl ⟨by rfl, fun wq hSw => by have q := keep n0 hSw; go_simp⟩) hS ?_
                simp only [List.setIfInBounds_toArray, List.set_cons_zero, List.set_cons_succ]
                refine tkd (i := 10) (v := .bool (zn.toList == nm.toList)) rfl rfl (by kernel_rfl) (by kernel_rfl) (by kernel_rfl) (fun _ _ _ h => h) (Or.inl ⟨by rfl, fun wq hSw => by skip; go_simp⟩) hS ?_
                simp only [List.setIfInBounds_toArray, List.set_cons_zero, List.set_cons_succ]
                refine wpAnyH_done (by kernel_rfl) ?_ _
                cases hz : (zn.toList == nm.toList)
                · have HR : Hid (∀ i (h : i < l.length), i < k + 1 → eqS l[i].name nm = false) := HQ2.out hz
                  go_wp2
                  go_roundw
                  case rel => exact ⟨k + 1, by omega, by go_num, hB1, HR.out⟩
                  case measure => simp [intOf]; omega
                · have HR : Hid (V = false) := HQ.out hz
                  go_wp2
                  go_ret
                  exact ⟨ret_b HR.out.symm, hB1⟩
              · have HT : Hid (∀ i (h : i < l.length), i < j + 1 → plcB n l[i] = true ∧ among ((l.map (·.name)).take i) l[i].name = false) := HJ.out HP.out (among_take (by simp; omega) fun i h h2 => by simpa using HE.out i (by simpa using h) (by omega))
                go_wp2
                go_roundw
                case rel => exact ⟨j + 1, by omega, by go_num, hB, HT.out⟩
                case measure => simp [intOf]; omega
    · have HF : Hid (V = true) := by
        show _ = _
        rw [HV.out, all_yes (fun i h => (HN.out i h (by omega)).1), apB_yes (l := l.map (·.name)) (seen := []) (fun i h => by simpa using (HN.out i (by simpa using h) (by have h2 : i < l.length := (by simpa using h); omega)).2)]
        rfl
      go_wp2
      go_ret
      exact ⟨ret_b HF.out.symm, hB⟩
end Go.Proofs.YthfeojjfehbgjaaGreatDoor.obj
