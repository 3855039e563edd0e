/- What the writer's number answers: a contract. -/
import Derived.Test.YthfeojjfehbgjaaGreatDoorProg
import Derived.Test.YthfeojjfehbgjaaGreatDoorOPObjFr
import Derived.Test.YthfeojjfehbgjaaGreatDoorOPObjBack
import Derived.Test.YthfeojjfehbgjaaGreatDoorOPTakeD
import Derived.Outline
import Derived.Deep.AppendLies
namespace Go.Proofs.YthfeojjfehbgjaaGreatDoor.obj
open Go.RowKit
open Go.Proofs.YthfeojjfehbgjaaGreatDoor.mac (BoxC grown_of_below)
open Go.Proofs.YthfeojjfehbgjaaGreatDoor.ord (tkd putd)
set_option linter.unusedVariables false
set_option linter.unusedSimpArgs false
set_option maxRecDepth 100000
theorem infoB : (Tryz.prog.info? 5).map (fun i => (i.zero, i.size, i.bytes)) = some (some (.int .u8 0), 1, 1) := by kernel_rfl
theorem info_parts {e : TypeId} {z : Value} {s b : Nat} (h : (Tryz.prog.info? e).map (fun i => (i.zero, i.size, i.bytes)) = some (some z, s, b)) : ∃ i, Tryz.prog.info? e = some i ∧ i.zero = some z ∧ i.size = s ∧ i.bytes = b := by
  cases hi : Tryz.prog.info? e with
  | none => rw [hi] at h; cases h
  | some i =>
    rw [hi] at h
    simp only [Option.map_some, Option.some.injEq, Prod.mk.injEq] at h
    exact ⟨i, rfl, h.1, h.2.1, h.2.2⟩
theorem byte_val (n : Int) (k : Nat) : Value.int .u8 ((byteB n k).toNat : Int) = .int .u8 ((n / (2 : Int) ^ k) % 256) := by rw [byteB_nat]
set_option maxHeartbeats 1000000 in
theorem oNum {w : World} {r : Nat} {v : Value} {L : By} (h : WR w r v L) (n : Int) (hn : L.length ≤ 1000000000) :
    Calls Tryz.prog 47 #[.pointer (some ⟨r, 0, none⟩), .int .i64 n] w (WE r w v L (numB n)) := by
  obtain ⟨i0, hi, hz0, hz1, hz2⟩ := info_parts infoB
  go_enter Tryz.func47, Tryz.ntmps47
  go_wp2
  go_loopw [4] (fun t wr => ∃ (j : Nat) (u : Value), j ≤ 8 ∧ t = .int .i64 j ∧ WR wr r u (L ++ (numB n).take (8 - j)) ∧ Fr r v u w wr) (fun t _ => (intOf t).toNat)
  case atStart => exact ⟨8, v, by omega, rfl, by simpa using h, Fr.refl _ _ _⟩
  case round =>
    obtain ⟨j, u, hj, rfl, hW, hF⟩ := hrel
    have : j = 0 ∨ j = 1 ∨ j = 2 ∨ j = 3 ∨ j = 4 ∨ j = 5 ∨ j = 6 ∨ j = 7 ∨ j = 8 := by omega
    clear hj
    rcases this with rfl | rfl | rfl | rfl | rfl | rfl | rfl | rfl | rfl
    · go_wp2
      go_end0
      exact ⟨rfl, u, hW, hF⟩
    · skip
      generalize hM : L ++ (numB n).take (8 - 1) = M at hW
      have hlen : M.length = L.length + 7 := by rw [← hM, List.length_append]; rfl
      replace hM : Hid (L ++ (numB n).take (8 - 1) = M) := hM
      have hM1 : M.length ≤ 1000000008 := by omega
      clear hlen
      obtain ⟨ua, uc, rfl⟩ := hW.shape
      go_wp2
      refine wp_region_held_drew (S := fun _ => True) (by kernel_rfl) trivial (fun hS => ?_)
      replace hW := hW.drew
      replace hF := hF.drew
      generalize wr.drew = W at *
      refine tkd (i := 0) (v := .pointer (some ⟨r, 0, none⟩)) rfl rfl (by kernel_rfl) (by kernel_rfl) (by kernel_rfl) (fun _ _ _ h => h) (Or.inl ⟨by rfl, fun w hSw => by skip; go_simp⟩) hS ?_
      simp only [List.setIfInBounds_toArray, List.set_cons_zero, List.set_cons_succ]
      refine tkd (i := 1) (v := .pointer (some ⟨r, 0, none⟩)) rfl rfl (by kernel_rfl) (by kernel_rfl) (by kernel_rfl) (fun _ _ _ h => h) (Or.inl ⟨by rfl, fun w hSw => by skip; go_simp⟩) hS ?_
      simp only [List.setIfInBounds_toArray, List.set_cons_zero, List.set_cons_succ]
      refine tkd (i := 2) (v := .pointer (some ⟨r, 0, none⟩)) rfl rfl (by kernel_rfl) (by kernel_rfl) (by kernel_rfl) (fun _ _ _ h => h) (Or.inl ⟨by rfl, fun w hSw => by skip; go_simp⟩) hS ?_
      simp only [List.setIfInBounds_toArray, List.set_cons_zero, List.set_cons_succ]
      refine tkd (i := 3) (v := .pointer (some ⟨r, 0, none⟩)) rfl rfl (by kernel_rfl) (by kernel_rfl) (by kernel_rfl) (fun _ _ _ h => h) (Or.inl ⟨by rfl, fun w hSw => by skip; go_simp⟩) hS ?_
      simp only [List.setIfInBounds_toArray, List.set_cons_zero, List.set_cons_succ]
      refine tkd (i := 5) (v := .int .i64 n) rfl rfl (by kernel_rfl) (by kernel_rfl) (by kernel_rfl) (fun _ _ _ h => h) (Or.inl ⟨by rfl, fun w hSw => by skip; go_simp⟩) hS ?_
      simp only [List.setIfInBounds_toArray, List.set_cons_zero, List.set_cons_succ]
      refine tkd (i := 6) (v := .int .i64 1) rfl rfl (by kernel_rfl) (by kernel_rfl) (by kernel_rfl) (fun _ _ _ h => h) (Or.inl ⟨by rfl, fun w hSw => by skip; go_simp⟩) hS ?_
      simp only [List.setIfInBounds_toArray, List.set_cons_zero, List.set_cons_succ]
      refine tkd (i := 7) (v := .int .i64 0) rfl rfl (by kernel_rfl) (by kernel_rfl) (by kernel_rfl) (fun _ _ _ h => h) (Or.inl ⟨by rfl, fun w hSw => by go_simp; exact rfl⟩) hS ?_
      simp only [List.setIfInBounds_toArray, List.set_cons_zero, List.set_cons_succ]
      refine tkd (i := 8) (v := .int .i64 0) rfl rfl (by kernel_rfl) (by kernel_rfl) (by kernel_rfl) (fun _ _ _ h => h) (Or.inl ⟨by rfl, fun w hSw => by go_simp; exact rfl⟩) hS ?_
      simp only [List.setIfInBounds_toArray, List.set_cons_zero, List.set_cons_succ]
      refine tkd (i := 9) (v := .int .i64 (n)) rfl rfl (by kernel_rfl) (by kernel_rfl) (by kernel_rfl) (fun _ _ _ h => h) (Or.inl ⟨by rfl, fun w hSw => by skip; go_simp⟩) hS ?_
      simp only [List.setIfInBounds_toArray, List.set_cons_zero, List.set_cons_succ]
      refine tkd (i := 10) (v := .int .u8 (n % 256)) rfl rfl (by kernel_rfl) (by kernel_rfl) (by kernel_rfl) (fun _ _ _ h => h) (Or.inl ⟨by rfl, fun w hSw => by go_simp; exact rfl⟩) hS ?_
      simp only [List.setIfInBounds_toArray, List.set_cons_zero, List.set_cons_succ]
      refine wpAnyH_ready (rs := [4, 11]) (by kernel_rfl) (by simp) ?_
      refine AllReadyH.cons rfl (fun K hK => ?_) (AllReadyH.cons rfl (fun K hK => ?_) AllReadyH.nil)
      focus
        have m0 := hW.box.cell 0 rfl
        go_simp
        refine hK.out _ _ trivial (fun _ => ?_)
        clear hK K m0
        refine wpAnyH_ready (rs := [11]) (by kernel_rfl) (by simp) ?_
        refine AllReadyH.cons rfl (fun K hK => ?_) AllReadyH.nil
        go_simp
        have hsl : ∀ j u, (bv [byteB n 0])[j]? = some u → (W.alloc (.cells #[.int .u8 (n % 256)] 5)).cell? ((⟨W.heap.size, 0, none⟩ : Addr).add j) = some u := by
          have := cell_one_new W (.int .u8 (n % 256)) 5
          simpa [bv, byteB_nat] using this
        have hss : W.heap.size + 1 = (W.alloc (.cells #[.int .u8 (n % 256)] 5)).heap.size := by simp
        replace hW := hW.alloc (.cells #[.int .u8 (n % 256)] 5)
        replace hF := hF.alloc (.cells #[.int .u8 (n % 256)] 5)
        refine hK.out _ _ trivial (fun _ => ?_)
        clear hK K
        generalize W.alloc (.cells #[.int .u8 (n % 256)] 5) = W3 at *
        generalize W.heap.size = s0 at *
      rotate_left
      focus
        go_simp
        have hsl : ∀ j u, (bv [byteB n 0])[j]? = some u → (W.alloc (.cells #[.int .u8 (n % 256)] 5)).cell? ((⟨W.heap.size, 0, none⟩ : Addr).add j) = some u := by
          have := cell_one_new W (.int .u8 (n % 256)) 5
          simpa [bv, byteB_nat] using this
        have hss : W.heap.size + 1 = (W.alloc (.cells #[.int .u8 (n % 256)] 5)).heap.size := by simp
        replace hW := hW.alloc (.cells #[.int .u8 (n % 256)] 5)
        replace hF := hF.alloc (.cells #[.int .u8 (n % 256)] 5)
        refine hK.out _ _ trivial (fun _ => ?_)
        clear hK K
        generalize W.alloc (.cells #[.int .u8 (n % 256)] 5) = W3 at *
        generalize W.heap.size = s0 at *
        refine wpAnyH_ready (rs := [4]) (by kernel_rfl) (by simp) ?_
        refine AllReadyH.cons rfl (fun K hK => ?_) AllReadyH.nil
        have m0 := hW.box.cell 0 rfl
        go_simp
        refine hK.out _ _ trivial (fun _ => ?_)
        clear hK K m0
      all_goals
        refine wpAnyH_ready (rs := [12]) (by kernel_rfl) (by simp) ?_
        refine AllReadyH.cons rfl (fun K hK => ?_) AllReadyH.nil
        refine step_append_lies _ (by rfl) (.tmp 13) (.tmp 20) 33 (by rfl) (r + 1) 5 i0 (.int .u8 0) 1 1 Tryz.underlying33 hi hz0 hz1 hz2 rfl (by decide) (.slice ua M.length uc) M.length (bv M) (by simp [Act.eval, Act.put]) hW.row ⟨s0, 0, none⟩ 1 1 (bv [byteB n 0]) (by simp [Act.eval, Act.put]) rfl hsl (by intro u hu; simp [bv] at hu; subst hu; rfl) (by omega) (by unfold maxLen; omega) (by omega) (by have := hW.lt; omega) (s0 + 1) hss.symm ?_
        intro g5 cap5 w5 hown5 hgrow5 hat5 hlt5
        have hP := hW.push (o := [byteB n 0]) hown5 hgrow5 (hat5.imp id (fun e => Nat.le_of_eq (hss.symm.trans e.symm)))
        have hb5 := hW.box.grown hgrow5 (fun e => by have := (hW.own _ e).1; omega)
        have m0 := hb5.cell 0 rfl
        have mf := hb5.fz 0
        refine hK.out _ _ trivial (fun _ => ?_)
        clear hK K
        rw [putd (d := 21) rfl]
        simp only [List.setIfInBounds_toArray, List.set_cons_zero, List.set_cons_succ]
        refine tkd (i := 13) (v := .pointer (some ⟨r, 0, none⟩)) rfl rfl (by kernel_rfl) (by kernel_rfl) (by kernel_rfl) (fun _ _ _ h => h) (Or.inl ⟨by rfl, fun w hSw => by skip; go_simp⟩) hS ?_
        simp only [List.setIfInBounds_toArray, List.set_cons_zero, List.set_cons_succ]
        refine tkd (i := 14) (v := .pointer (some ⟨r, 0, none⟩)) rfl rfl (by kernel_rfl) (by kernel_rfl) (by kernel_rfl) (fun _ _ _ h => h) (Or.inl ⟨by rfl, fun w hSw => by skip; go_simp⟩) hS ?_
        simp only [List.setIfInBounds_toArray, List.set_cons_zero, List.set_cons_succ]
        refine wpAnyH_ready (rs := [15]) (by kernel_rfl) (by simp) ?_
        refine AllReadyH.cons rfl (fun K hK => ?_) AllReadyH.nil
        go_simp
        refine hK.out _ _ trivial (fun _ => ?_)
        clear hK K m0 mf
        refine wpAnyH_done (by kernel_rfl) ?_ _
        go_wp2
        go_roundw
        case rel => exact ⟨0, _, by omega, rfl, by rw [show L ++ (numB n).take (8 - 0) = M ++ [byteB n 0] by rw [← hM.out, List.append_assoc]; rfl]; exact hP.1, hF.trans hP.2⟩
        case measure => simp [intOf]
    · skip
      generalize hM : L ++ (numB n).take (8 - 2) = M at hW
      have hlen : M.length = L.length + 6 := by rw [← hM, List.length_append]; rfl
      replace hM : Hid (L ++ (numB n).take (8 - 2) = M) := hM
      have hM1 : M.length ≤ 1000000008 := by omega
      clear hlen
      obtain ⟨ua, uc, rfl⟩ := hW.shape
      go_wp2
      refine wp_region_held_drew (S := fun _ => True) (by kernel_rfl) trivial (fun hS => ?_)
      replace hW := hW.drew
      replace hF := hF.drew
      generalize wr.drew = W at *
      refine tkd (i := 0) (v := .pointer (some ⟨r, 0, none⟩)) rfl rfl (by kernel_rfl) (by kernel_rfl) (by kernel_rfl) (fun _ _ _ h => h) (Or.inl ⟨by rfl, fun w hSw => by skip; go_simp⟩) hS ?_
      simp only [List.setIfInBounds_toArray, List.set_cons_zero, List.set_cons_succ]
      refine tkd (i := 1) (v := .pointer (some ⟨r, 0, none⟩)) rfl rfl (by kernel_rfl) (by kernel_rfl) (by kernel_rfl) (fun _ _ _ h => h) (Or.inl ⟨by rfl, fun w hSw => by skip; go_simp⟩) hS ?_
      simp only [List.setIfInBounds_toArray, List.set_cons_zero, List.set_cons_succ]
      refine tkd (i := 2) (v := .pointer (some ⟨r, 0, none⟩)) rfl rfl (by kernel_rfl) (by kernel_rfl) (by kernel_rfl) (fun _ _ _ h => h) (Or.inl ⟨by rfl, fun w hSw => by skip; go_simp⟩) hS ?_
      simp only [List.setIfInBounds_toArray, List.set_cons_zero, List.set_cons_succ]
      refine tkd (i := 3) (v := .pointer (some ⟨r, 0, none⟩)) rfl rfl (by kernel_rfl) (by kernel_rfl) (by kernel_rfl) (fun _ _ _ h => h) (Or.inl ⟨by rfl, fun w hSw => by skip; go_simp⟩) hS ?_
      simp only [List.setIfInBounds_toArray, List.set_cons_zero, List.set_cons_succ]
      refine tkd (i := 5) (v := .int .i64 n) rfl rfl (by kernel_rfl) (by kernel_rfl) (by kernel_rfl) (fun _ _ _ h => h) (Or.inl ⟨by rfl, fun w hSw => by skip; go_simp⟩) hS ?_
      simp only [List.setIfInBounds_toArray, List.set_cons_zero, List.set_cons_succ]
      refine tkd (i := 6) (v := .int .i64 2) rfl rfl (by kernel_rfl) (by kernel_rfl) (by kernel_rfl) (fun _ _ _ h => h) (Or.inl ⟨by rfl, fun w hSw => by skip; go_simp⟩) hS ?_
      simp only [List.setIfInBounds_toArray, List.set_cons_zero, List.set_cons_succ]
      refine tkd (i := 7) (v := .int .i64 1) rfl rfl (by kernel_rfl) (by kernel_rfl) (by kernel_rfl) (fun _ _ _ h => h) (Or.inl ⟨by rfl, fun w hSw => by go_simp; exact rfl⟩) hS ?_
      simp only [List.setIfInBounds_toArray, List.set_cons_zero, List.set_cons_succ]
      refine tkd (i := 8) (v := .int .i64 8) rfl rfl (by kernel_rfl) (by kernel_rfl) (by kernel_rfl) (fun _ _ _ h => h) (Or.inl ⟨by rfl, fun w hSw => by go_simp; exact rfl⟩) hS ?_
      simp only [List.setIfInBounds_toArray, List.set_cons_zero, List.set_cons_succ]
      refine tkd (i := 9) (v := .int .i64 (n / 256)) rfl rfl (by kernel_rfl) (by kernel_rfl) (by kernel_rfl) (fun _ _ _ h => h) (Or.inl ⟨by rfl, fun w hSw => by skip; go_simp⟩) hS ?_
      simp only [List.setIfInBounds_toArray, List.set_cons_zero, List.set_cons_succ]
      refine tkd (i := 10) (v := .int .u8 (n / 256 % 256)) rfl rfl (by kernel_rfl) (by kernel_rfl) (by kernel_rfl) (fun _ _ _ h => h) (Or.inl ⟨by rfl, fun w hSw => by go_simp; exact rfl⟩) hS ?_
      simp only [List.setIfInBounds_toArray, List.set_cons_zero, List.set_cons_succ]
      refine wpAnyH_ready (rs := [4, 11]) (by kernel_rfl) (by simp) ?_
      refine AllReadyH.cons rfl (fun K hK => ?_) (AllReadyH.cons rfl (fun K hK => ?_) AllReadyH.nil)
      focus
        have m0 := hW.box.cell 0 rfl
        go_simp
        refine hK.out _ _ trivial (fun _ => ?_)
        clear hK K m0
        refine wpAnyH_ready (rs := [11]) (by kernel_rfl) (by simp) ?_
        refine AllReadyH.cons rfl (fun K hK => ?_) AllReadyH.nil
        go_simp
        have hsl : ∀ j u, (bv [byteB n 8])[j]? = some u → (W.alloc (.cells #[.int .u8 (n / 256 % 256)] 5)).cell? ((⟨W.heap.size, 0, none⟩ : Addr).add j) = some u := by
          have := cell_one_new W (.int .u8 (n / 256 % 256)) 5
          simpa [bv, byteB_nat] using this
        have hss : W.heap.size + 1 = (W.alloc (.cells #[.int .u8 (n / 256 % 256)] 5)).heap.size := by simp
        replace hW := hW.alloc (.cells #[.int .u8 (n / 256 % 256)] 5)
        replace hF := hF.alloc (.cells #[.int .u8 (n / 256 % 256)] 5)
        refine hK.out _ _ trivial (fun _ => ?_)
        clear hK K
        generalize W.alloc (.cells #[.int .u8 (n / 256 % 256)] 5) = W3 at *
        generalize W.heap.size = s0 at *
      rotate_left
      focus
        go_simp
        have hsl : ∀ j u, (bv [byteB n 8])[j]? = some u → (W.alloc (.cells #[.int .u8 (n / 256 % 256)] 5)).cell? ((⟨W.heap.size, 0, none⟩ : Addr).add j) = some u := by
          have := cell_one_new W (.int .u8 (n / 256 % 256)) 5
          simpa [bv, byteB_nat] using this
        have hss : W.heap.size + 1 = (W.alloc (.cells #[.int .u8 (n / 256 % 256)] 5)).heap.size := by simp
        replace hW := hW.alloc (.cells #[.int .u8 (n / 256 % 256)] 5)
        replace hF := hF.alloc (.cells #[.int .u8 (n / 256 % 256)] 5)
        refine hK.out _ _ trivial (fun _ => ?_)
        clear hK K
        generalize W.alloc (.cells #[.int .u8 (n / 256 % 256)] 5) = W3 at *
        generalize W.heap.size = s0 at *
        refine wpAnyH_ready (rs := [4]) (by kernel_rfl) (by simp) ?_
        refine AllReadyH.cons rfl (fun K hK => ?_) AllReadyH.nil
        have m0 := hW.box.cell 0 rfl
        go_simp
        refine hK.out _ _ trivial (fun _ => ?_)
        clear hK K m0
      all_goals
        refine wpAnyH_ready (rs := [12]) (by kernel_rfl) (by simp) ?_
        refine AllReadyH.cons rfl (fun K hK => ?_) AllReadyH.nil
        refine step_append_lies _ (by rfl) (.tmp 13) (.tmp 20) 33 (by rfl) (r + 1) 5 i0 (.int .u8 0) 1 1 Tryz.underlying33 hi hz0 hz1 hz2 rfl (by decide) (.slice ua M.length uc) M.length (bv M) (by simp [Act.eval, Act.put]) hW.row ⟨s0, 0, none⟩ 1 1 (bv [byteB n 8]) (by simp [Act.eval, Act.put]) rfl hsl (by intro u hu; simp [bv] at hu; subst hu; rfl) (by omega) (by unfold maxLen; omega) (by omega) (by have := hW.lt; omega) (s0 + 1) hss.symm ?_
        intro g5 cap5 w5 hown5 hgrow5 hat5 hlt5
        have hP := hW.push (o := [byteB n 8]) hown5 hgrow5 (hat5.imp id (fun e => Nat.le_of_eq (hss.symm.trans e.symm)))
        have hb5 := hW.box.grown hgrow5 (fun e => by have := (hW.own _ e).1; omega)
        have m0 := hb5.cell 0 rfl
        have mf := hb5.fz 0
        refine hK.out _ _ trivial (fun _ => ?_)
        clear hK K
        rw [putd (d := 21) rfl]
        simp only [List.setIfInBounds_toArray, List.set_cons_zero, List.set_cons_succ]
        refine tkd (i := 13) (v := .pointer (some ⟨r, 0, none⟩)) rfl rfl (by kernel_rfl) (by kernel_rfl) (by kernel_rfl) (fun _ _ _ h => h) (Or.inl ⟨by rfl, fun w hSw => by skip; go_simp⟩) hS ?_
        simp only [List.setIfInBounds_toArray, List.set_cons_zero, List.set_cons_succ]
        refine tkd (i := 14) (v := .pointer (some ⟨r, 0, none⟩)) rfl rfl (by kernel_rfl) (by kernel_rfl) (by kernel_rfl) (fun _ _ _ h => h) (Or.inl ⟨by rfl, fun w hSw => by skip; go_simp⟩) hS ?_
        simp only [List.setIfInBounds_toArray, List.set_cons_zero, List.set_cons_succ]
        refine wpAnyH_ready (rs := [15]) (by kernel_rfl) (by simp) ?_
        refine AllReadyH.cons rfl (fun K hK => ?_) AllReadyH.nil
        go_simp
        refine hK.out _ _ trivial (fun _ => ?_)
        clear hK K m0 mf
        refine wpAnyH_done (by kernel_rfl) ?_ _
        go_wp2
        go_roundw
        case rel => exact ⟨1, _, by omega, rfl, by rw [show L ++ (numB n).take (8 - 1) = M ++ [byteB n 8] by rw [← hM.out, List.append_assoc]; rfl]; exact hP.1, hF.trans hP.2⟩
        case measure => simp [intOf]
    · skip
      generalize hM : L ++ (numB n).take (8 - 3) = M at hW
      have hlen : M.length = L.length + 5 := by rw [← hM, List.length_append]; rfl
      replace hM : Hid (L ++ (numB n).take (8 - 3) = M) := hM
      have hM1 : M.length ≤ 1000000008 := by omega
      clear hlen
      obtain ⟨ua, uc, rfl⟩ := hW.shape
      go_wp2
      refine wp_region_held_drew (S := fun _ => True) (by kernel_rfl) trivial (fun hS => ?_)
      replace hW := hW.drew
      replace hF := hF.drew
      generalize wr.drew = W at *
      refine tkd (i := 0) (v := .pointer (some ⟨r, 0, none⟩)) rfl rfl (by kernel_rfl) (by kernel_rfl) (by kernel_rfl) (fun _ _ _ h => h) (Or.inl ⟨by rfl, fun w hSw => by skip; go_simp⟩) hS ?_
      simp only [List.setIfInBounds_toArray, List.set_cons_zero, List.set_cons_succ]
      refine tkd (i := 1) (v := .pointer (some ⟨r, 0, none⟩)) rfl rfl (by kernel_rfl) (by kernel_rfl) (by kernel_rfl) (fun _ _ _ h => h) (Or.inl ⟨by rfl, fun w hSw => by skip; go_simp⟩) hS ?_
      simp only [List.setIfInBounds_toArray, List.set_cons_zero, List.set_cons_succ]
      refine tkd (i := 2) (v := .pointer (some ⟨r, 0, none⟩)) rfl rfl (by kernel_rfl) (by kernel_rfl) (by kernel_rfl) (fun _ _ _ h => h) (Or.inl ⟨by rfl, fun w hSw => by skip; go_simp⟩) hS ?_
      simp only [List.setIfInBounds_toArray, List.set_cons_zero, List.set_cons_succ]
      refine tkd (i := 3) (v := .pointer (some ⟨r, 0, none⟩)) rfl rfl (by kernel_rfl) (by kernel_rfl) (by kernel_rfl) (fun _ _ _ h => h) (Or.inl ⟨by rfl, fun w hSw => by skip; go_simp⟩) hS ?_
      simp only [List.setIfInBounds_toArray, List.set_cons_zero, List.set_cons_succ]
      refine tkd (i := 5) (v := .int .i64 n) rfl rfl (by kernel_rfl) (by kernel_rfl) (by kernel_rfl) (fun _ _ _ h => h) (Or.inl ⟨by rfl, fun w hSw => by skip; go_simp⟩) hS ?_
      simp only [List.setIfInBounds_toArray, List.set_cons_zero, List.set_cons_succ]
      refine tkd (i := 6) (v := .int .i64 3) rfl rfl (by kernel_rfl) (by kernel_rfl) (by kernel_rfl) (fun _ _ _ h => h) (Or.inl ⟨by rfl, fun w hSw => by skip; go_simp⟩) hS ?_
      simp only [List.setIfInBounds_toArray, List.set_cons_zero, List.set_cons_succ]
      refine tkd (i := 7) (v := .int .i64 2) rfl rfl (by kernel_rfl) (by kernel_rfl) (by kernel_rfl) (fun _ _ _ h => h) (Or.inl ⟨by rfl, fun w hSw => by go_simp; exact rfl⟩) hS ?_
      simp only [List.setIfInBounds_toArray, List.set_cons_zero, List.set_cons_succ]
      refine tkd (i := 8) (v := .int .i64 16) rfl rfl (by kernel_rfl) (by kernel_rfl) (by kernel_rfl) (fun _ _ _ h => h) (Or.inl ⟨by rfl, fun w hSw => by go_simp; exact rfl⟩) hS ?_
      simp only [List.setIfInBounds_toArray, List.set_cons_zero, List.set_cons_succ]
      refine tkd (i := 9) (v := .int .i64 (n / 65536)) rfl rfl (by kernel_rfl) (by kernel_rfl) (by kernel_rfl) (fun _ _ _ h => h) (Or.inl ⟨by rfl, fun w hSw => by skip; go_simp⟩) hS ?_
      simp only [List.setIfInBounds_toArray, List.set_cons_zero, List.set_cons_succ]
      refine tkd (i := 10) (v := .int .u8 (n / 65536 % 256)) rfl rfl (by kernel_rfl) (by kernel_rfl) (by kernel_rfl) (fun _ _ _ h => h) (Or.inl ⟨by rfl, fun w hSw => by go_simp; exact rfl⟩) hS ?_
      simp only [List.setIfInBounds_toArray, List.set_cons_zero, List.set_cons_succ]
      refine wpAnyH_ready (rs := [4, 11]) (by kernel_rfl) (by simp) ?_
      refine AllReadyH.cons rfl (fun K hK => ?_) (AllReadyH.cons rfl (fun K hK => ?_) AllReadyH.nil)
      focus
        have m0 := hW.box.cell 0 rfl
        go_simp
        refine hK.out _ _ trivial (fun _ => ?_)
        clear hK K m0
        refine wpAnyH_ready (rs := [11]) (by kernel_rfl) (by simp) ?_
        refine AllReadyH.cons rfl (fun K hK => ?_) AllReadyH.nil
        go_simp
        have hsl : ∀ j u, (bv [byteB n 16])[j]? = some u → (W.alloc (.cells #[.int .u8 (n / 65536 % 256)] 5)).cell? ((⟨W.heap.size, 0, none⟩ : Addr).add j) = some u := by
          have := cell_one_new W (.int .u8 (n / 65536 % 256)) 5
          simpa [bv, byteB_nat] using this
        have hss : W.heap.size + 1 = (W.alloc (.cells #[.int .u8 (n / 65536 % 256)] 5)).heap.size := by simp
        replace hW := hW.alloc (.cells #[.int .u8 (n / 65536 % 256)] 5)
        replace hF := hF.alloc (.cells #[.int .u8 (n / 65536 % 256)] 5)
        refine hK.out _ _ trivial (fun _ => ?_)
        clear hK K
        generalize W.alloc (.cells #[.int .u8 (n / 65536 % 256)] 5) = W3 at *
        generalize W.heap.size = s0 at *
      rotate_left
      focus
        go_simp
        have hsl : ∀ j u, (bv [byteB n 16])[j]? = some u → (W.alloc (.cells #[.int .u8 (n / 65536 % 256)] 5)).cell? ((⟨W.heap.size, 0, none⟩ : Addr).add j) = some u := by
          have := cell_one_new W (.int .u8 (n / 65536 % 256)) 5
          simpa [bv, byteB_nat] using this
        have hss : W.heap.size + 1 = (W.alloc (.cells #[.int .u8 (n / 65536 % 256)] 5)).heap.size := by simp
        replace hW := hW.alloc (.cells #[.int .u8 (n / 65536 % 256)] 5)
        replace hF := hF.alloc (.cells #[.int .u8 (n / 65536 % 256)] 5)
        refine hK.out _ _ trivial (fun _ => ?_)
        clear hK K
        generalize W.alloc (.cells #[.int .u8 (n / 65536 % 256)] 5) = W3 at *
        generalize W.heap.size = s0 at *
        refine wpAnyH_ready (rs := [4]) (by kernel_rfl) (by simp) ?_
        refine AllReadyH.cons rfl (fun K hK => ?_) AllReadyH.nil
        have m0 := hW.box.cell 0 rfl
        go_simp
        refine hK.out _ _ trivial (fun _ => ?_)
        clear hK K m0
      all_goals
        refine wpAnyH_ready (rs := [12]) (by kernel_rfl) (by simp) ?_
        refine AllReadyH.cons rfl (fun K hK => ?_) AllReadyH.nil
        refine step_append_lies _ (by rfl) (.tmp 13) (.tmp 20) 33 (by rfl) (r + 1) 5 i0 (.int .u8 0) 1 1 Tryz.underlying33 hi hz0 hz1 hz2 rfl (by decide) (.slice ua M.length uc) M.length (bv M) (by simp [Act.eval, Act.put]) hW.row ⟨s0, 0, none⟩ 1 1 (bv [byteB n 16]) (by simp [Act.eval, Act.put]) rfl hsl (by intro u hu; simp [bv] at hu; subst hu; rfl) (by omega) (by unfold maxLen; omega) (by omega) (by have := hW.lt; omega) (s0 + 1) hss.symm ?_
        intro g5 cap5 w5 hown5 hgrow5 hat5 hlt5
        have hP := hW.push (o := [byteB n 16]) hown5 hgrow5 (hat5.imp id (fun e => Nat.le_of_eq (hss.symm.trans e.symm)))
        have hb5 := hW.box.grown hgrow5 (fun e => by have := (hW.own _ e).1; omega)
        have m0 := hb5.cell 0 rfl
        have mf := hb5.fz 0
        refine hK.out _ _ trivial (fun _ => ?_)
        clear hK K
        rw [putd (d := 21) rfl]
        simp only [List.setIfInBounds_toArray, List.set_cons_zero, List.set_cons_succ]
        refine tkd (i := 13) (v := .pointer (some ⟨r, 0, none⟩)) rfl rfl (by kernel_rfl) (by kernel_rfl) (by kernel_rfl) (fun _ _ _ h => h) (Or.inl ⟨by rfl, fun w hSw => by skip; go_simp⟩) hS ?_
        simp only [List.setIfInBounds_toArray, List.set_cons_zero, List.set_cons_succ]
        refine tkd (i := 14) (v := .pointer (some ⟨r, 0, none⟩)) rfl rfl (by kernel_rfl) (by kernel_rfl) (by kernel_rfl) (fun _ _ _ h => h) (Or.inl ⟨by rfl, fun w hSw => by skip; go_simp⟩) hS ?_
        simp only [List.setIfInBounds_toArray, List.set_cons_zero, List.set_cons_succ]
        refine wpAnyH_ready (rs := [15]) (by kernel_rfl) (by simp) ?_
        refine AllReadyH.cons rfl (fun K hK => ?_) AllReadyH.nil
        go_simp
        refine hK.out _ _ trivial (fun _ => ?_)
        clear hK K m0 mf
        refine wpAnyH_done (by kernel_rfl) ?_ _
        go_wp2
        go_roundw
        case rel => exact ⟨2, _, by omega, rfl, by rw [show L ++ (numB n).take (8 - 2) = M ++ [byteB n 16] by rw [← hM.out, List.append_assoc]; rfl]; exact hP.1, hF.trans hP.2⟩
        case measure => simp [intOf]
    · skip
      generalize hM : L ++ (numB n).take (8 - 4) = M at hW
      have hlen : M.length = L.length + 4 := by rw [← hM, List.length_append]; rfl
      replace hM : Hid (L ++ (numB n).take (8 - 4) = M) := hM
      have hM1 : M.length ≤ 1000000008 := by omega
      clear hlen
      obtain ⟨ua, uc, rfl⟩ := hW.shape
      go_wp2
      refine wp_region_held_drew (S := fun _ => True) (by kernel_rfl) trivial (fun hS => ?_)
      replace hW := hW.drew
      replace hF := hF.drew
      generalize wr.drew = W at *
      refine tkd (i := 0) (v := .pointer (some ⟨r, 0, none⟩)) rfl rfl (by kernel_rfl) (by kernel_rfl) (by kernel_rfl) (fun _ _ _ h => h) (Or.inl ⟨by rfl, fun w hSw => by skip; go_simp⟩) hS ?_
      simp only [List.setIfInBounds_toArray, List.set_cons_zero, List.set_cons_succ]
      refine tkd (i := 1) (v := .pointer (some ⟨r, 0, none⟩)) rfl rfl (by kernel_rfl) (by kernel_rfl) (by kernel_rfl) (fun _ _ _ h => h) (Or.inl ⟨by rfl, fun w hSw => by skip; go_simp⟩) hS ?_
      simp only [List.setIfInBounds_toArray, List.set_cons_zero, List.set_cons_succ]
      refine tkd (i := 2) (v := .pointer (some ⟨r, 0, none⟩)) rfl rfl (by kernel_rfl) (by kernel_rfl) (by kernel_rfl) (fun _ _ _ h => h) (Or.inl ⟨by rfl, fun w hSw => by skip; go_simp⟩) hS ?_
      simp only [List.setIfInBounds_toArray, List.set_cons_zero, List.set_cons_succ]
      refine tkd (i := 3) (v := .pointer (some ⟨r, 0, none⟩)) rfl rfl (by kernel_rfl) (by kernel_rfl) (by kernel_rfl) (fun _ _ _ h => h) (Or.inl ⟨by rfl, fun w hSw => by skip; go_simp⟩) hS ?_
      simp only [List.setIfInBounds_toArray, List.set_cons_zero, List.set_cons_succ]
      refine tkd (i := 5) (v := .int .i64 n) rfl rfl (by kernel_rfl) (by kernel_rfl) (by kernel_rfl) (fun _ _ _ h => h) (Or.inl ⟨by rfl, fun w hSw => by skip; go_simp⟩) hS ?_
      simp only [List.setIfInBounds_toArray, List.set_cons_zero, List.set_cons_succ]
      refine tkd (i := 6) (v := .int .i64 4) rfl rfl (by kernel_rfl) (by kernel_rfl) (by kernel_rfl) (fun _ _ _ h => h) (Or.inl ⟨by rfl, fun w hSw => by skip; go_simp⟩) hS ?_
      simp only [List.setIfInBounds_toArray, List.set_cons_zero, List.set_cons_succ]
      refine tkd (i := 7) (v := .int .i64 3) rfl rfl (by kernel_rfl) (by kernel_rfl) (by kernel_rfl) (fun _ _ _ h => h) (Or.inl ⟨by rfl, fun w hSw => by go_simp; exact rfl⟩) hS ?_
      simp only [List.setIfInBounds_toArray, List.set_cons_zero, List.set_cons_succ]
      refine tkd (i := 8) (v := .int .i64 24) rfl rfl (by kernel_rfl) (by kernel_rfl) (by kernel_rfl) (fun _ _ _ h => h) (Or.inl ⟨by rfl, fun w hSw => by go_simp; exact rfl⟩) hS ?_
      simp only [List.setIfInBounds_toArray, List.set_cons_zero, List.set_cons_succ]
      refine tkd (i := 9) (v := .int .i64 (n / 16777216)) rfl rfl (by kernel_rfl) (by kernel_rfl) (by kernel_rfl) (fun _ _ _ h => h) (Or.inl ⟨by rfl, fun w hSw => by skip; go_simp⟩) hS ?_
      simp only [List.setIfInBounds_toArray, List.set_cons_zero, List.set_cons_succ]
      refine tkd (i := 10) (v := .int .u8 (n / 16777216 % 256)) rfl rfl (by kernel_rfl) (by kernel_rfl) (by kernel_rfl) (fun _ _ _ h => h) (Or.inl ⟨by rfl, fun w hSw => by go_simp; exact rfl⟩) hS ?_
      simp only [List.setIfInBounds_toArray, List.set_cons_zero, List.set_cons_succ]
      refine wpAnyH_ready (rs := [4, 11]) (by kernel_rfl) (by simp) ?_
      refine AllReadyH.cons rfl (fun K hK => ?_) (AllReadyH.cons rfl (fun K hK => ?_) AllReadyH.nil)
      focus
        have m0 := hW.box.cell 0 rfl
        go_simp
        refine hK.out _ _ trivial (fun _ => ?_)
        clear hK K m0
        refine wpAnyH_ready (rs := [11]) (by kernel_rfl) (by simp) ?_
        refine AllReadyH.cons rfl (fun K hK => ?_) AllReadyH.nil
        go_simp
        have hsl : ∀ j u, (bv [byteB n 24])[j]? = some u → (W.alloc (.cells #[.int .u8 (n / 16777216 % 256)] 5)).cell? ((⟨W.heap.size, 0, none⟩ : Addr).add j) = some u := by
          have := cell_one_new W (.int .u8 (n / 16777216 % 256)) 5
          simpa [bv, byteB_nat] using this
        have hss : W.heap.size + 1 = (W.alloc (.cells #[.int .u8 (n / 16777216 % 256)] 5)).heap.size := by simp
        replace hW := hW.alloc (.cells #[.int .u8 (n / 16777216 % 256)] 5)
        replace hF := hF.alloc (.cells #[.int .u8 (n / 16777216 % 256)] 5)
        refine hK.out _ _ trivial (fun _ => ?_)
        clear hK K
        generalize W.alloc (.cells #[.int .u8 (n / 16777216 % 256)] 5) = W3 at *
        generalize W.heap.size = s0 at *
      rotate_left
      focus
        go_simp
        have hsl : ∀ j u, (bv [byteB n 24])[j]? = some u → (W.alloc (.cells #[.int .u8 (n / 16777216 % 256)] 5)).cell? ((⟨W.heap.size, 0, none⟩ : Addr).add j) = some u := by
          have := cell_one_new W (.int .u8 (n / 16777216 % 256)) 5
          simpa [bv, byteB_nat] using this
        have hss : W.heap.size + 1 = (W.alloc (.cells #[.int .u8 (n / 16777216 % 256)] 5)).heap.size := by simp
        replace hW := hW.alloc (.cells #[.int .u8 (n / 16777216 % 256)] 5)
        replace hF := hF.alloc (.cells #[.int .u8 (n / 16777216 % 256)] 5)
        refine hK.out _ _ trivial (fun _ => ?_)
        clear hK K
        generalize W.alloc (.cells #[.int .u8 (n / 16777216 % 256)] 5) = W3 at *
        generalize W.heap.size = s0 at *
        refine wpAnyH_ready (rs := [4]) (by kernel_rfl) (by simp) ?_
        refine AllReadyH.cons rfl (fun K hK => ?_) AllReadyH.nil
        have m0 := hW.box.cell 0 rfl
        go_simp
        refine hK.out _ _ trivial (fun _ => ?_)
        clear hK K m0
      all_goals
        refine wpAnyH_ready (rs := [12]) (by kernel_rfl) (by simp) ?_
        refine AllReadyH.cons rfl (fun K hK => ?_) AllReadyH.nil
        refine step_append_lies _ (by rfl) (.tmp 13) (.tmp 20) 33 (by rfl) (r + 1) 5 i0 (.int .u8 0) 1 1 Tryz.underlying33 hi hz0 hz1 hz2 rfl (by decide) (.slice ua M.length uc) M.length (bv M) (by simp [Act.eval, Act.put]) hW.row ⟨s0, 0, none⟩ 1 1 (bv [byteB n 24]) (by simp [Act.eval, Act.put]) rfl hsl (by intro u hu; simp [bv] at hu; subst hu; rfl) (by omega) (by unfold maxLen; omega) (by omega) (by have := hW.lt; omega) (s0 + 1) hss.symm ?_
        intro g5 cap5 w5 hown5 hgrow5 hat5 hlt5
        have hP := hW.push (o := [byteB n 24]) hown5 hgrow5 (hat5.imp id (fun e => Nat.le_of_eq (hss.symm.trans e.symm)))
        have hb5 := hW.box.grown hgrow5 (fun e => by have := (hW.own _ e).1; omega)
        have m0 := hb5.cell 0 rfl
        have mf := hb5.fz 0
        refine hK.out _ _ trivial (fun _ => ?_)
        clear hK K
        rw [putd (d := 21) rfl]
        simp only [List.setIfInBounds_toArray, List.set_cons_zero, List.set_cons_succ]
        refine tkd (i := 13) (v := .pointer (some ⟨r, 0, none⟩)) rfl rfl (by kernel_rfl) (by kernel_rfl) (by kernel_rfl) (fun _ _ _ h => h) (Or.inl ⟨by rfl, fun w hSw => by skip; go_simp⟩) hS ?_
        simp only [List.setIfInBounds_toArray, List.set_cons_zero, List.set_cons_succ]
        refine tkd (i := 14) (v := .pointer (some ⟨r, 0, none⟩)) rfl rfl (by kernel_rfl) (by kernel_rfl) (by kernel_rfl) (fun _ _ _ h => h) (Or.inl ⟨by rfl, fun w hSw => by skip; go_simp⟩) hS ?_
        simp only [List.setIfInBounds_toArray, List.set_cons_zero, List.set_cons_succ]
        refine wpAnyH_ready (rs := [15]) (by kernel_rfl) (by simp) ?_
        refine AllReadyH.cons rfl (fun K hK => ?_) AllReadyH.nil
        go_simp
        refine hK.out _ _ trivial (fun _ => ?_)
        clear hK K m0 mf
        refine wpAnyH_done (by kernel_rfl) ?_ _
        go_wp2
        go_roundw
        case rel => exact ⟨3, _, by omega, rfl, by rw [show L ++ (numB n).take (8 - 3) = M ++ [byteB n 24] by rw [← hM.out, List.append_assoc]; rfl]; exact hP.1, hF.trans hP.2⟩
        case measure => simp [intOf]
    · skip
      generalize hM : L ++ (numB n).take (8 - 5) = M at hW
      have hlen : M.length = L.length + 3 := by rw [← hM, List.length_append]; rfl
      replace hM : Hid (L ++ (numB n).take (8 - 5) = M) := hM
      have hM1 : M.length ≤ 1000000008 := by omega
      clear hlen
      obtain ⟨ua, uc, rfl⟩ := hW.shape
      go_wp2
      refine wp_region_held_drew (S := fun _ => True) (by kernel_rfl) trivial (fun hS => ?_)
      replace hW := hW.drew
      replace hF := hF.drew
      generalize wr.drew = W at *
      refine tkd (i := 0) (v := .pointer (some ⟨r, 0, none⟩)) rfl rfl (by kernel_rfl) (by kernel_rfl) (by kernel_rfl) (fun _ _ _ h => h) (Or.inl ⟨by rfl, fun w hSw => by skip; go_simp⟩) hS ?_
      simp only [List.setIfInBounds_toArray, List.set_cons_zero, List.set_cons_succ]
      refine tkd (i := 1) (v := .pointer (some ⟨r, 0, none⟩)) rfl rfl (by kernel_rfl) (by kernel_rfl) (by kernel_rfl) (fun _ _ _ h => h) (Or.inl ⟨by rfl, fun w hSw => by skip; go_simp⟩) hS ?_
      simp only [List.setIfInBounds_toArray, List.set_cons_zero, List.set_cons_succ]
      refine tkd (i := 2) (v := .pointer (some ⟨r, 0, none⟩)) rfl rfl (by kernel_rfl) (by kernel_rfl) (by kernel_rfl) (fun _ _ _ h => h) (Or.inl ⟨by rfl, fun w hSw => by skip; go_simp⟩) hS ?_
      simp only [List.setIfInBounds_toArray, List.set_cons_zero, List.set_cons_succ]
      refine tkd (i := 3) (v := .pointer (some ⟨r, 0, none⟩)) rfl rfl (by kernel_rfl) (by kernel_rfl) (by kernel_rfl) (fun _ _ _ h => h) (Or.inl ⟨by rfl, fun w hSw => by skip; go_simp⟩) hS ?_
      simp only [List.setIfInBounds_toArray, List.set_cons_zero, List.set_cons_succ]
      refine tkd (i := 5) (v := .int .i64 n) rfl rfl (by kernel_rfl) (by kernel_rfl) (by kernel_rfl) (fun _ _ _ h => h) (Or.inl ⟨by rfl, fun w hSw => by skip; go_simp⟩) hS ?_
      simp only [List.setIfInBounds_toArray, List.set_cons_zero, List.set_cons_succ]
      refine tkd (i := 6) (v := .int .i64 5) rfl rfl (by kernel_rfl) (by kernel_rfl) (by kernel_rfl) (fun _ _ _ h => h) (Or.inl ⟨by rfl, fun w hSw => by skip; go_simp⟩) hS ?_
      simp only [List.setIfInBounds_toArray, List.set_cons_zero, List.set_cons_succ]
      refine tkd (i := 7) (v := .int .i64 4) rfl rfl (by kernel_rfl) (by kernel_rfl) (by kernel_rfl) (fun _ _ _ h => h) (Or.inl ⟨by rfl, fun w hSw => by go_simp; exact rfl⟩) hS ?_
      simp only [List.setIfInBounds_toArray, List.set_cons_zero, List.set_cons_succ]
      refine tkd (i := 8) (v := .int .i64 32) rfl rfl (by kernel_rfl) (by kernel_rfl) (by kernel_rfl) (fun _ _ _ h => h) (Or.inl ⟨by rfl, fun w hSw => by go_simp; exact rfl⟩) hS ?_
      simp only [List.setIfInBounds_toArray, List.set_cons_zero, List.set_cons_succ]
      refine tkd (i := 9) (v := .int .i64 (n / 4294967296)) rfl rfl (by kernel_rfl) (by kernel_rfl) (by kernel_rfl) (fun _ _ _ h => h) (Or.inl ⟨by rfl, fun w hSw => by skip; go_simp⟩) hS ?_
      simp only [List.setIfInBounds_toArray, List.set_cons_zero, List.set_cons_succ]
      refine tkd (i := 10) (v := .int .u8 (n / 4294967296 % 256)) rfl rfl (by kernel_rfl) (by kernel_rfl) (by kernel_rfl) (fun _ _ _ h => h) (Or.inl ⟨by rfl, fun w hSw => by go_simp; exact rfl⟩) hS ?_
      simp only [List.setIfInBounds_toArray, List.set_cons_zero, List.set_cons_succ]
      refine wpAnyH_ready (rs := [4, 11]) (by kernel_rfl) (by simp) ?_
      refine AllReadyH.cons rfl (fun K hK => ?_) (AllReadyH.cons rfl (fun K hK => ?_) AllReadyH.nil)
      focus
        have m0 := hW.box.cell 0 rfl
        go_simp
        refine hK.out _ _ trivial (fun _ => ?_)
        clear hK K m0
        refine wpAnyH_ready (rs := [11]) (by kernel_rfl) (by simp) ?_
        refine AllReadyH.cons rfl (fun K hK => ?_) AllReadyH.nil
        go_simp
        have hsl : ∀ j u, (bv [byteB n 32])[j]? = some u → (W.alloc (.cells #[.int .u8 (n / 4294967296 % 256)] 5)).cell? ((⟨W.heap.size, 0, none⟩ : Addr).add j) = some u := by
          have := cell_one_new W (.int .u8 (n / 4294967296 % 256)) 5
          simpa [bv, byteB_nat] using this
        have hss : W.heap.size + 1 = (W.alloc (.cells #[.int .u8 (n / 4294967296 % 256)] 5)).heap.size := by simp
        replace hW := hW.alloc (.cells #[.int .u8 (n / 4294967296 % 256)] 5)
        replace hF := hF.alloc (.cells #[.int .u8 (n / 4294967296 % 256)] 5)
        refine hK.out _ _ trivial (fun _ => ?_)
        clear hK K
        generalize W.alloc (.cells #[.int .u8 (n / 4294967296 % 256)] 5) = W3 at *
        generalize W.heap.size = s0 at *
      rotate_left
      focus
        go_simp
        have hsl : ∀ j u, (bv [byteB n 32])[j]? = some u → (W.alloc (.cells #[.int .u8 (n / 4294967296 % 256)] 5)).cell? ((⟨W.heap.size, 0, none⟩ : Addr).add j) = some u := by
          have := cell_one_new W (.int .u8 (n / 4294967296 % 256)) 5
          simpa [bv, byteB_nat] using this
        have hss : W.heap.size + 1 = (W.alloc (.cells #[.int .u8 (n / 4294967296 % 256)] 5)).heap.size := by simp
        replace hW := hW.alloc (.cells #[.int .u8 (n / 4294967296 % 256)] 5)
        replace hF := hF.alloc (.cells #[.int .u8 (n / 4294967296 % 256)] 5)
        refine hK.out _ _ trivial (fun _ => ?_)
        clear hK K
        generalize W.alloc (.cells #[.int .u8 (n / 4294967296 % 256)] 5) = W3 at *
        generalize W.heap.size = s0 at *
        refine wpAnyH_ready (rs := [4]) (by kernel_rfl) (by simp) ?_
        refine AllReadyH.cons rfl (fun K hK => ?_) AllReadyH.nil
        have m0 := hW.box.cell 0 rfl
        go_simp
        refine hK.out _ _ trivial (fun _ => ?_)
        clear hK K m0
      all_goals
        refine wpAnyH_ready (rs := [12]) (by kernel_rfl) (by simp) ?_
        refine AllReadyH.cons rfl (fun K hK => ?_) AllReadyH.nil
        refine step_append_lies _ (by rfl) (.tmp 13) (.tmp 20) 33 (by rfl) (r + 1) 5 i0 (.int .u8 0) 1 1 Tryz.underlying33 hi hz0 hz1 hz2 rfl (by decide) (.slice ua M.length uc) M.length (bv M) (by simp [Act.eval, Act.put]) hW.row ⟨s0, 0, none⟩ 1 1 (bv [byteB n 32]) (by simp [Act.eval, Act.put]) rfl hsl (by intro u hu; simp [bv] at hu; subst hu; rfl) (by omega) (by unfold maxLen; omega) (by omega) (by have := hW.lt; omega) (s0 + 1) hss.symm ?_
        intro g5 cap5 w5 hown5 hgrow5 hat5 hlt5
        have hP := hW.push (o := [byteB n 32]) hown5 hgrow5 (hat5.imp id (fun e => Nat.le_of_eq (hss.symm.trans e.symm)))
        have hb5 := hW.box.grown hgrow5 (fun e => by have := (hW.own _ e).1; omega)
        have m0 := hb5.cell 0 rfl
        have mf := hb5.fz 0
        refine hK.out _ _ trivial (fun _ => ?_)
        clear hK K
        rw [putd (d := 21) rfl]
        simp only [List.setIfInBounds_toArray, List.set_cons_zero, List.set_cons_succ]
        refine tkd (i := 13) (v := .pointer (some ⟨r, 0, none⟩)) rfl rfl (by kernel_rfl) (by kernel_rfl) (by kernel_rfl) (fun _ _ _ h => h) (Or.inl ⟨by rfl, fun w hSw => by skip; go_simp⟩) hS ?_
        simp only [List.setIfInBounds_toArray, List.set_cons_zero, List.set_cons_succ]
        refine tkd (i := 14) (v := .pointer (some ⟨r, 0, none⟩)) rfl rfl (by kernel_rfl) (by kernel_rfl) (by kernel_rfl) (fun _ _ _ h => h) (Or.inl ⟨by rfl, fun w hSw => by skip; go_simp⟩) hS ?_
        simp only [List.setIfInBounds_toArray, List.set_cons_zero, List.set_cons_succ]
        refine wpAnyH_ready (rs := [15]) (by kernel_rfl) (by simp) ?_
        refine AllReadyH.cons rfl (fun K hK => ?_) AllReadyH.nil
        go_simp
        refine hK.out _ _ trivial (fun _ => ?_)
        clear hK K m0 mf
        refine wpAnyH_done (by kernel_rfl) ?_ _
        go_wp2
        go_roundw
        case rel => exact ⟨4, _, by omega, rfl, by rw [show L ++ (numB n).take (8 - 4) = M ++ [byteB n 32] by rw [← hM.out, List.append_assoc]; rfl]; exact hP.1, hF.trans hP.2⟩
        case measure => simp [intOf]
    · skip
      generalize hM : L ++ (numB n).take (8 - 6) = M at hW
      have hlen : M.length = L.length + 2 := by rw [← hM, List.length_append]; rfl
      replace hM : Hid (L ++ (numB n).take (8 - 6) = M) := hM
      have hM1 : M.length ≤ 1000000008 := by omega
      clear hlen
      obtain ⟨ua, uc, rfl⟩ := hW.shape
      go_wp2
      refine wp_region_held_drew (S := fun _ => True) (by kernel_rfl) trivial (fun hS => ?_)
      replace hW := hW.drew
      replace hF := hF.drew
      generalize wr.drew = W at *
      refine tkd (i := 0) (v := .pointer (some ⟨r, 0, none⟩)) rfl rfl (by kernel_rfl) (by kernel_rfl) (by kernel_rfl) (fun _ _ _ h => h) (Or.inl ⟨by rfl, fun w hSw => by skip; go_simp⟩) hS ?_
      simp only [List.setIfInBounds_toArray, List.set_cons_zero, List.set_cons_succ]
      refine tkd (i := 1) (v := .pointer (some ⟨r, 0, none⟩)) rfl rfl (by kernel_rfl) (by kernel_rfl) (by kernel_rfl) (fun _ _ _ h => h) (Or.inl ⟨by rfl, fun w hSw => by skip; go_simp⟩) hS ?_
      simp only [List.setIfInBounds_toArray, List.set_cons_zero, List.set_cons_succ]
      refine tkd (i := 2) (v := .pointer (some ⟨r, 0, none⟩)) rfl rfl (by kernel_rfl) (by kernel_rfl) (by kernel_rfl) (fun _ _ _ h => h) (Or.inl ⟨by rfl, fun w hSw => by skip; go_simp⟩) hS ?_
      simp only [List.setIfInBounds_toArray, List.set_cons_zero, List.set_cons_succ]
      refine tkd (i := 3) (v := .pointer (some ⟨r, 0, none⟩)) rfl rfl (by kernel_rfl) (by kernel_rfl) (by kernel_rfl) (fun _ _ _ h => h) (Or.inl ⟨by rfl, fun w hSw => by skip; go_simp⟩) hS ?_
      simp only [List.setIfInBounds_toArray, List.set_cons_zero, List.set_cons_succ]
      refine tkd (i := 5) (v := .int .i64 n) rfl rfl (by kernel_rfl) (by kernel_rfl) (by kernel_rfl) (fun _ _ _ h => h) (Or.inl ⟨by rfl, fun w hSw => by skip; go_simp⟩) hS ?_
      simp only [List.setIfInBounds_toArray, List.set_cons_zero, List.set_cons_succ]
      refine tkd (i := 6) (v := .int .i64 6) rfl rfl (by kernel_rfl) (by kernel_rfl) (by kernel_rfl) (fun _ _ _ h => h) (Or.inl ⟨by rfl, fun w hSw => by skip; go_simp⟩) hS ?_
      simp only [List.setIfInBounds_toArray, List.set_cons_zero, List.set_cons_succ]
      refine tkd (i := 7) (v := .int .i64 5) rfl rfl (by kernel_rfl) (by kernel_rfl) (by kernel_rfl) (fun _ _ _ h => h) (Or.inl ⟨by rfl, fun w hSw => by go_simp; exact rfl⟩) hS ?_
      simp only [List.setIfInBounds_toArray, List.set_cons_zero, List.set_cons_succ]
      refine tkd (i := 8) (v := .int .i64 40) rfl rfl (by kernel_rfl) (by kernel_rfl) (by kernel_rfl) (fun _ _ _ h => h) (Or.inl ⟨by rfl, fun w hSw => by go_simp; exact rfl⟩) hS ?_
      simp only [List.setIfInBounds_toArray, List.set_cons_zero, List.set_cons_succ]
      refine tkd (i := 9) (v := .int .i64 (n / 1099511627776)) rfl rfl (by kernel_rfl) (by kernel_rfl) (by kernel_rfl) (fun _ _ _ h => h) (Or.inl ⟨by rfl, fun w hSw => by skip; go_simp⟩) hS ?_
      simp only [List.setIfInBounds_toArray, List.set_cons_zero, List.set_cons_succ]
      refine tkd (i := 10) (v := .int .u8 (n / 1099511627776 % 256)) rfl rfl (by kernel_rfl) (by kernel_rfl) (by kernel_rfl) (fun _ _ _ h => h) (Or.inl ⟨by rfl, fun w hSw => by go_simp; exact rfl⟩) hS ?_
      simp only [List.setIfInBounds_toArray, List.set_cons_zero, List.set_cons_succ]
      refine wpAnyH_ready (rs := [4, 11]) (by kernel_rfl) (by simp) ?_
      refine AllReadyH.cons rfl (fun K hK => ?_) (AllReadyH.cons rfl (fun K hK => ?_) AllReadyH.nil)
      focus
        have m0 := hW.box.cell 0 rfl
        go_simp
        refine hK.out _ _ trivial (fun _ => ?_)
        clear hK K m0
        refine wpAnyH_ready (rs := [11]) (by kernel_rfl) (by simp) ?_
        refine AllReadyH.cons rfl (fun K hK => ?_) AllReadyH.nil
        go_simp
        have hsl : ∀ j u, (bv [byteB n 40])[j]? = some u → (W.alloc (.cells #[.int .u8 (n / 1099511627776 % 256)] 5)).cell? ((⟨W.heap.size, 0, none⟩ : Addr).add j) = some u := by
          have := cell_one_new W (.int .u8 (n / 1099511627776 % 256)) 5
          simpa [bv, byteB_nat] using this
        have hss : W.heap.size + 1 = (W.alloc (.cells #[.int .u8 (n / 1099511627776 % 256)] 5)).heap.size := by simp
        replace hW := hW.alloc (.cells #[.int .u8 (n / 1099511627776 % 256)] 5)
        replace hF := hF.alloc (.cells #[.int .u8 (n / 1099511627776 % 256)] 5)
        refine hK.out _ _ trivial (fun _ => ?_)
        clear hK K
        generalize W.alloc (.cells #[.int .u8 (n / 1099511627776 % 256)] 5) = W3 at *
        generalize W.heap.size = s0 at *
      rotate_left
      focus
        go_simp
        have hsl : ∀ j u, (bv [byteB n 40])[j]? = some u → (W.alloc (.cells #[.int .u8 (n / 1099511627776 % 256)] 5)).cell? ((⟨W.heap.size, 0, none⟩ : Addr).add j) = some u := by
          have := cell_one_new W (.int .u8 (n / 1099511627776 % 256)) 5
          simpa [bv, byteB_nat] using this
        have hss : W.heap.size + 1 = (W.alloc (.cells #[.int .u8 (n / 1099511627776 % 256)] 5)).heap.size := by simp
        replace hW := hW.alloc (.cells #[.int .u8 (n / 1099511627776 % 256)] 5)
        replace hF := hF.alloc (.cells #[.int .u8 (n / 1099511627776 % 256)] 5)
        refine hK.out _ _ trivial (fun _ => ?_)
        clear hK K
        generalize W.alloc (.cells #[.int .u8 (n / 1099511627776 % 256)] 5) = W3 at *
        generalize W.heap.size = s0 at *
        refine wpAnyH_ready (rs := [4]) (by kernel_rfl) (by simp) ?_
        refine AllReadyH.cons rfl (fun K hK => ?_) AllReadyH.nil
        have m0 := hW.box.cell 0 rfl
        go_simp
        refine hK.out _ _ trivial (fun _ => ?_)
        clear hK K m0
      all_goals
        refine wpAnyH_ready (rs := [12]) (by kernel_rfl) (by simp) ?_
        refine AllReadyH.cons rfl (fun K hK => ?_) AllReadyH.nil
        refine step_append_lies _ (by rfl) (.tmp 13) (.tmp 20) 33 (by rfl) (r + 1) 5 i0 (.int .u8 0) 1 1 Tryz.underlying33 hi hz0 hz1 hz2 rfl (by decide) (.slice ua M.length uc) M.length (bv M) (by simp [Act.eval, Act.put]) hW.row ⟨s0, 0, none⟩ 1 1 (bv [byteB n 40]) (by simp [Act.eval, Act.put]) rfl hsl (by intro u hu; simp [bv] at hu; subst hu; rfl) (by omega) (by unfold maxLen; omega) (by omega) (by have := hW.lt; omega) (s0 + 1) hss.symm ?_
        intro g5 cap5 w5 hown5 hgrow5 hat5 hlt5
        have hP := hW.push (o := [byteB n 40]) hown5 hgrow5 (hat5.imp id (fun e => Nat.le_of_eq (hss.symm.trans e.symm)))
        have hb5 := hW.box.grown hgrow5 (fun e => by have := (hW.own _ e).1; omega)
        have m0 := hb5.cell 0 rfl
        have mf := hb5.fz 0
        refine hK.out _ _ trivial (fun _ => ?_)
        clear hK K
        rw [putd (d := 21) rfl]
        simp only [List.setIfInBounds_toArray, List.set_cons_zero, List.set_cons_succ]
        refine tkd (i := 13) (v := .pointer (some ⟨r, 0, none⟩)) rfl rfl (by kernel_rfl) (by kernel_rfl) (by kernel_rfl) (fun _ _ _ h => h) (Or.inl ⟨by rfl, fun w hSw => by skip; go_simp⟩) hS ?_
        simp only [List.setIfInBounds_toArray, List.set_cons_zero, List.set_cons_succ]
        refine tkd (i := 14) (v := .pointer (some ⟨r, 0, none⟩)) rfl rfl (by kernel_rfl) (by kernel_rfl) (by kernel_rfl) (fun _ _ _ h => h) (Or.inl ⟨by rfl, fun w hSw => by skip; go_simp⟩) hS ?_
        simp only [List.setIfInBounds_toArray, List.set_cons_zero, List.set_cons_succ]
        refine wpAnyH_ready (rs := [15]) (by kernel_rfl) (by simp) ?_
        refine AllReadyH.cons rfl (fun K hK => ?_) AllReadyH.nil
        go_simp
        refine hK.out _ _ trivial (fun _ => ?_)
        clear hK K m0 mf
        refine wpAnyH_done (by kernel_rfl) ?_ _
        go_wp2
        go_roundw
        case rel => exact ⟨5, _, by omega, rfl, by rw [show L ++ (numB n).take (8 - 5) = M ++ [byteB n 40] by rw [← hM.out, List.append_assoc]; rfl]; exact hP.1, hF.trans hP.2⟩
        case measure => simp [intOf]
    · skip
      generalize hM : L ++ (numB n).take (8 - 7) = M at hW
      have hlen : M.length = L.length + 1 := by rw [← hM, List.length_append]; rfl
      replace hM : Hid (L ++ (numB n).take (8 - 7) = M) := hM
      have hM1 : M.length ≤ 1000000008 := by omega
      clear hlen
      obtain ⟨ua, uc, rfl⟩ := hW.shape
      go_wp2
      refine wp_region_held_drew (S := fun _ => True) (by kernel_rfl) trivial (fun hS => ?_)
      replace hW := hW.drew
      replace hF := hF.drew
      generalize wr.drew = W at *
      refine tkd (i := 0) (v := .pointer (some ⟨r, 0, none⟩)) rfl rfl (by kernel_rfl) (by kernel_rfl) (by kernel_rfl) (fun _ _ _ h => h) (Or.inl ⟨by rfl, fun w hSw => by skip; go_simp⟩) hS ?_
      simp only [List.setIfInBounds_toArray, List.set_cons_zero, List.set_cons_succ]
      refine tkd (i := 1) (v := .pointer (some ⟨r, 0, none⟩)) rfl rfl (by kernel_rfl) (by kernel_rfl) (by kernel_rfl) (fun _ _ _ h => h) (Or.inl ⟨by rfl, fun w hSw => by skip; go_simp⟩) hS ?_
      simp only [List.setIfInBounds_toArray, List.set_cons_zero, List.set_cons_succ]
      refine tkd (i := 2) (v := .pointer (some ⟨r, 0, none⟩)) rfl rfl (by kernel_rfl) (by kernel_rfl) (by kernel_rfl) (fun _ _ _ h => h) (Or.inl ⟨by rfl, fun w hSw => by skip; go_simp⟩) hS ?_
      simp only [List.setIfInBounds_toArray, List.set_cons_zero, List.set_cons_succ]
      refine tkd (i := 3) (v := .pointer (some ⟨r, 0, none⟩)) rfl rfl (by kernel_rfl) (by kernel_rfl) (by kernel_rfl) (fun _ _ _ h => h) (Or.inl ⟨by rfl, fun w hSw => by skip; go_simp⟩) hS ?_
      simp only [List.setIfInBounds_toArray, List.set_cons_zero, List.set_cons_succ]
      refine tkd (i := 5) (v := .int .i64 n) rfl rfl (by kernel_rfl) (by kernel_rfl) (by kernel_rfl) (fun _ _ _ h => h) (Or.inl ⟨by rfl, fun w hSw => by skip; go_simp⟩) hS ?_
      simp only [List.setIfInBounds_toArray, List.set_cons_zero, List.set_cons_succ]
      refine tkd (i := 6) (v := .int .i64 7) rfl rfl (by kernel_rfl) (by kernel_rfl) (by kernel_rfl) (fun _ _ _ h => h) (Or.inl ⟨by rfl, fun w hSw => by skip; go_simp⟩) hS ?_
      simp only [List.setIfInBounds_toArray, List.set_cons_zero, List.set_cons_succ]
      refine tkd (i := 7) (v := .int .i64 6) rfl rfl (by kernel_rfl) (by kernel_rfl) (by kernel_rfl) (fun _ _ _ h => h) (Or.inl ⟨by rfl, fun w hSw => by go_simp; exact rfl⟩) hS ?_
      simp only [List.setIfInBounds_toArray, List.set_cons_zero, List.set_cons_succ]
      refine tkd (i := 8) (v := .int .i64 48) rfl rfl (by kernel_rfl) (by kernel_rfl) (by kernel_rfl) (fun _ _ _ h => h) (Or.inl ⟨by rfl, fun w hSw => by go_simp; exact rfl⟩) hS ?_
      simp only [List.setIfInBounds_toArray, List.set_cons_zero, List.set_cons_succ]
      refine tkd (i := 9) (v := .int .i64 (n / 281474976710656)) rfl rfl (by kernel_rfl) (by kernel_rfl) (by kernel_rfl) (fun _ _ _ h => h) (Or.inl ⟨by rfl, fun w hSw => by skip; go_simp⟩) hS ?_
      simp only [List.setIfInBounds_toArray, List.set_cons_zero, List.set_cons_succ]
      refine tkd (i := 10) (v := .int .u8 (n / 281474976710656 % 256)) rfl rfl (by kernel_rfl) (by kernel_rfl) (by kernel_rfl) (fun _ _ _ h => h) (Or.inl ⟨by rfl, fun w hSw => by go_simp; exact rfl⟩) hS ?_
      simp only [List.setIfInBounds_toArray, List.set_cons_zero, List.set_cons_succ]
      refine wpAnyH_ready (rs := [4, 11]) (by kernel_rfl) (by simp) ?_
      refine AllReadyH.cons rfl (fun K hK => ?_) (AllReadyH.cons rfl (fun K hK => ?_) AllReadyH.nil)
      focus
        have m0 := hW.box.cell 0 rfl
        go_simp
        refine hK.out _ _ trivial (fun _ => ?_)
        clear hK K m0
        refine wpAnyH_ready (rs := [11]) (by kernel_rfl) (by simp) ?_
        refine AllReadyH.cons rfl (fun K hK => ?_) AllReadyH.nil
        go_simp
        have hsl : ∀ j u, (bv [byteB n 48])[j]? = some u → (W.alloc (.cells #[.int .u8 (n / 281474976710656 % 256)] 5)).cell? ((⟨W.heap.size, 0, none⟩ : Addr).add j) = some u := by
          have := cell_one_new W (.int .u8 (n / 281474976710656 % 256)) 5
          simpa [bv, byteB_nat] using this
        have hss : W.heap.size + 1 = (W.alloc (.cells #[.int .u8 (n / 281474976710656 % 256)] 5)).heap.size := by simp
        replace hW := hW.alloc (.cells #[.int .u8 (n / 281474976710656 % 256)] 5)
        replace hF := hF.alloc (.cells #[.int .u8 (n / 281474976710656 % 256)] 5)
        refine hK.out _ _ trivial (fun _ => ?_)
        clear hK K
        generalize W.alloc (.cells #[.int .u8 (n / 281474976710656 % 256)] 5) = W3 at *
        generalize W.heap.size = s0 at *
      rotate_left
      focus
        go_simp
        have hsl : ∀ j u, (bv [byteB n 48])[j]? = some u → (W.alloc (.cells #[.int .u8 (n / 281474976710656 % 256)] 5)).cell? ((⟨W.heap.size, 0, none⟩ : Addr).add j) = some u := by
          have := cell_one_new W (.int .u8 (n / 281474976710656 % 256)) 5
          simpa [bv, byteB_nat] using this
        have hss : W.heap.size + 1 = (W.alloc (.cells #[.int .u8 (n / 281474976710656 % 256)] 5)).heap.size := by simp
        replace hW := hW.alloc (.cells #[.int .u8 (n / 281474976710656 % 256)] 5)
        replace hF := hF.alloc (.cells #[.int .u8 (n / 281474976710656 % 256)] 5)
        refine hK.out _ _ trivial (fun _ => ?_)
        clear hK K
        generalize W.alloc (.cells #[.int .u8 (n / 281474976710656 % 256)] 5) = W3 at *
        generalize W.heap.size = s0 at *
        refine wpAnyH_ready (rs := [4]) (by kernel_rfl) (by simp) ?_
        refine AllReadyH.cons rfl (fun K hK => ?_) AllReadyH.nil
        have m0 := hW.box.cell 0 rfl
        go_simp
        refine hK.out _ _ trivial (fun _ => ?_)
        clear hK K m0
      all_goals
        refine wpAnyH_ready (rs := [12]) (by kernel_rfl) (by simp) ?_
        refine AllReadyH.cons rfl (fun K hK => ?_) AllReadyH.nil
        refine step_append_lies _ (by rfl) (.tmp 13) (.tmp 20) 33 (by rfl) (r + 1) 5 i0 (.int .u8 0) 1 1 Tryz.underlying33 hi hz0 hz1 hz2 rfl (by decide) (.slice ua M.length uc) M.length (bv M) (by simp [Act.eval, Act.put]) hW.row ⟨s0, 0, none⟩ 1 1 (bv [byteB n 48]) (by simp [Act.eval, Act.put]) rfl hsl (by intro u hu; simp [bv] at hu; subst hu; rfl) (by omega) (by unfold maxLen; omega) (by omega) (by have := hW.lt; omega) (s0 + 1) hss.symm ?_
        intro g5 cap5 w5 hown5 hgrow5 hat5 hlt5
        have hP := hW.push (o := [byteB n 48]) hown5 hgrow5 (hat5.imp id (fun e => Nat.le_of_eq (hss.symm.trans e.symm)))
        have hb5 := hW.box.grown hgrow5 (fun e => by have := (hW.own _ e).1; omega)
        have m0 := hb5.cell 0 rfl
        have mf := hb5.fz 0
        refine hK.out _ _ trivial (fun _ => ?_)
        clear hK K
        rw [putd (d := 21) rfl]
        simp only [List.setIfInBounds_toArray, List.set_cons_zero, List.set_cons_succ]
        refine tkd (i := 13) (v := .pointer (some ⟨r, 0, none⟩)) rfl rfl (by kernel_rfl) (by kernel_rfl) (by kernel_rfl) (fun _ _ _ h => h) (Or.inl ⟨by rfl, fun w hSw => by skip; go_simp⟩) hS ?_
        simp only [List.setIfInBounds_toArray, List.set_cons_zero, List.set_cons_succ]
        refine tkd (i := 14) (v := .pointer (some ⟨r, 0, none⟩)) rfl rfl (by kernel_rfl) (by kernel_rfl) (by kernel_rfl) (fun _ _ _ h => h) (Or.inl ⟨by rfl, fun w hSw => by skip; go_simp⟩) hS ?_
        simp only [List.setIfInBounds_toArray, List.set_cons_zero, List.set_cons_succ]
        refine wpAnyH_ready (rs := [15]) (by kernel_rfl) (by simp) ?_
        refine AllReadyH.cons rfl (fun K hK => ?_) AllReadyH.nil
        go_simp
        refine hK.out _ _ trivial (fun _ => ?_)
        clear hK K m0 mf
        refine wpAnyH_done (by kernel_rfl) ?_ _
        go_wp2
        go_roundw
        case rel => exact ⟨6, _, by omega, rfl, by rw [show L ++ (numB n).take (8 - 6) = M ++ [byteB n 48] by rw [← hM.out, List.append_assoc]; rfl]; exact hP.1, hF.trans hP.2⟩
        case measure => simp [intOf]
    · skip
      generalize hM : L ++ (numB n).take (8 - 8) = M at hW
      have hlen : M.length = L.length + 0 := by rw [← hM, List.length_append]; rfl
      replace hM : Hid (L ++ (numB n).take (8 - 8) = M) := hM
      have hM1 : M.length ≤ 1000000008 := by omega
      clear hlen
      obtain ⟨ua, uc, rfl⟩ := hW.shape
      go_wp2
      refine wp_region_held_drew (S := fun _ => True) (by kernel_rfl) trivial (fun hS => ?_)
      replace hW := hW.drew
      replace hF := hF.drew
      generalize wr.drew = W at *
      refine tkd (i := 0) (v := .pointer (some ⟨r, 0, none⟩)) rfl rfl (by kernel_rfl) (by kernel_rfl) (by kernel_rfl) (fun _ _ _ h => h) (Or.inl ⟨by rfl, fun w hSw => by skip; go_simp⟩) hS ?_
      simp only [List.setIfInBounds_toArray, List.set_cons_zero, List.set_cons_succ]
      refine tkd (i := 1) (v := .pointer (some ⟨r, 0, none⟩)) rfl rfl (by kernel_rfl) (by kernel_rfl) (by kernel_rfl) (fun _ _ _ h => h) (Or.inl ⟨by rfl, fun w hSw => by skip; go_simp⟩) hS ?_
      simp only [List.setIfInBounds_toArray, List.set_cons_zero, List.set_cons_succ]
      refine tkd (i := 2) (v := .pointer (some ⟨r, 0, none⟩)) rfl rfl (by kernel_rfl) (by kernel_rfl) (by kernel_rfl) (fun _ _ _ h => h) (Or.inl ⟨by rfl, fun w hSw => by skip; go_simp⟩) hS ?_
      simp only [List.setIfInBounds_toArray, List.set_cons_zero, List.set_cons_succ]
      refine tkd (i := 3) (v := .pointer (some ⟨r, 0, none⟩)) rfl rfl (by kernel_rfl) (by kernel_rfl) (by kernel_rfl) (fun _ _ _ h => h) (Or.inl ⟨by rfl, fun w hSw => by skip; go_simp⟩) hS ?_
      simp only [List.setIfInBounds_toArray, List.set_cons_zero, List.set_cons_succ]
      refine tkd (i := 5) (v := .int .i64 n) rfl rfl (by kernel_rfl) (by kernel_rfl) (by kernel_rfl) (fun _ _ _ h => h) (Or.inl ⟨by rfl, fun w hSw => by skip; go_simp⟩) hS ?_
      simp only [List.setIfInBounds_toArray, List.set_cons_zero, List.set_cons_succ]
      refine tkd (i := 6) (v := .int .i64 8) rfl rfl (by kernel_rfl) (by kernel_rfl) (by kernel_rfl) (fun _ _ _ h => h) (Or.inl ⟨by rfl, fun w hSw => by skip; go_simp⟩) hS ?_
      simp only [List.setIfInBounds_toArray, List.set_cons_zero, List.set_cons_succ]
      refine tkd (i := 7) (v := .int .i64 7) rfl rfl (by kernel_rfl) (by kernel_rfl) (by kernel_rfl) (fun _ _ _ h => h) (Or.inl ⟨by rfl, fun w hSw => by go_simp; exact rfl⟩) hS ?_
      simp only [List.setIfInBounds_toArray, List.set_cons_zero, List.set_cons_succ]
      refine tkd (i := 8) (v := .int .i64 56) rfl rfl (by kernel_rfl) (by kernel_rfl) (by kernel_rfl) (fun _ _ _ h => h) (Or.inl ⟨by rfl, fun w hSw => by go_simp; exact rfl⟩) hS ?_
      simp only [List.setIfInBounds_toArray, List.set_cons_zero, List.set_cons_succ]
      refine tkd (i := 9) (v := .int .i64 (n / 72057594037927936)) rfl rfl (by kernel_rfl) (by kernel_rfl) (by kernel_rfl) (fun _ _ _ h => h) (Or.inl ⟨by rfl, fun w hSw => by skip; go_simp⟩) hS ?_
      simp only [List.setIfInBounds_toArray, List.set_cons_zero, List.set_cons_succ]
      refine tkd (i := 10) (v := .int .u8 (n / 72057594037927936 % 256)) rfl rfl (by kernel_rfl) (by kernel_rfl) (by kernel_rfl) (fun _ _ _ h => h) (Or.inl ⟨by rfl, fun w hSw => by go_simp; exact rfl⟩) hS ?_
      simp only [List.setIfInBounds_toArray, List.set_cons_zero, List.set_cons_succ]
      refine wpAnyH_ready (rs := [4, 11]) (by kernel_rfl) (by simp) ?_
      refine AllReadyH.cons rfl (fun K hK => ?_) (AllReadyH.cons rfl (fun K hK => ?_) AllReadyH.nil)
      focus
        have m0 := hW.box.cell 0 rfl
        go_simp
        refine hK.out _ _ trivial (fun _ => ?_)
        clear hK K m0
        refine wpAnyH_ready (rs := [11]) (by kernel_rfl) (by simp) ?_
        refine AllReadyH.cons rfl (fun K hK => ?_) AllReadyH.nil
        go_simp
        have hsl : ∀ j u, (bv [byteB n 56])[j]? = some u → (W.alloc (.cells #[.int .u8 (n / 72057594037927936 % 256)] 5)).cell? ((⟨W.heap.size, 0, none⟩ : Addr).add j) = some u := by
          have := cell_one_new W (.int .u8 (n / 72057594037927936 % 256)) 5
          simpa [bv, byteB_nat] using this
        have hss : W.heap.size + 1 = (W.alloc (.cells #[.int .u8 (n / 72057594037927936 % 256)] 5)).heap.size := by simp
        replace hW := hW.alloc (.cells #[.int .u8 (n / 72057594037927936 % 256)] 5)
        replace hF := hF.alloc (.cells #[.int .u8 (n / 72057594037927936 % 256)] 5)
        refine hK.out _ _ trivial (fun _ => ?_)
        clear hK K
        generalize W.alloc (.cells #[.int .u8 (n / 72057594037927936 % 256)] 5) = W3 at *
        generalize W.heap.size = s0 at *
      rotate_left
      focus
        go_simp
        have hsl : ∀ j u, (bv [byteB n 56])[j]? = some u → (W.alloc (.cells #[.int .u8 (n / 72057594037927936 % 256)] 5)).cell? ((⟨W.heap.size, 0, none⟩ : Addr).add j) = some u := by
          have := cell_one_new W (.int .u8 (n / 72057594037927936 % 256)) 5
          simpa [bv, byteB_nat] using this
        have hss : W.heap.size + 1 = (W.alloc (.cells #[.int .u8 (n / 72057594037927936 % 256)] 5)).heap.size := by simp
        replace hW := hW.alloc (.cells #[.int .u8 (n / 72057594037927936 % 256)] 5)
        replace hF := hF.alloc (.cells #[.int .u8 (n / 72057594037927936 % 256)] 5)
        refine hK.out _ _ trivial (fun _ => ?_)
        clear hK K
        generalize W.alloc (.cells #[.int .u8 (n / 72057594037927936 % 256)] 5) = W3 at *
        generalize W.heap.size = s0 at *
        refine wpAnyH_ready (rs := [4]) (by kernel_rfl) (by simp) ?_
        refine AllReadyH.cons rfl (fun K hK => ?_) AllReadyH.nil
        have m0 := hW.box.cell 0 rfl
        go_simp
        refine hK.out _ _ trivial (fun _ => ?_)
        clear hK K m0
      all_goals
        refine wpAnyH_ready (rs := [12]) (by kernel_rfl) (by simp) ?_
        refine AllReadyH.cons rfl (fun K hK => ?_) AllReadyH.nil
        refine step_append_lies _ (by rfl) (.tmp 13) (.tmp 20) 33 (by rfl) (r + 1) 5 i0 (.int .u8 0) 1 1 Tryz.underlying33 hi hz0 hz1 hz2 rfl (by decide) (.slice ua M.length uc) M.length (bv M) (by simp [Act.eval, Act.put]) hW.row ⟨s0, 0, none⟩ 1 1 (bv [byteB n 56]) (by simp [Act.eval, Act.put]) rfl hsl (by intro u hu; simp [bv] at hu; subst hu; rfl) (by omega) (by unfold maxLen; omega) (by omega) (by have := hW.lt; omega) (s0 + 1) hss.symm ?_
        intro g5 cap5 w5 hown5 hgrow5 hat5 hlt5
        have hP := hW.push (o := [byteB n 56]) hown5 hgrow5 (hat5.imp id (fun e => Nat.le_of_eq (hss.symm.trans e.symm)))
        have hb5 := hW.box.grown hgrow5 (fun e => by have := (hW.own _ e).1; omega)
        have m0 := hb5.cell 0 rfl
        have mf := hb5.fz 0
        refine hK.out _ _ trivial (fun _ => ?_)
        clear hK K
        rw [putd (d := 21) rfl]
        simp only [List.setIfInBounds_toArray, List.set_cons_zero, List.set_cons_succ]
        refine tkd (i := 13) (v := .pointer (some ⟨r, 0, none⟩)) rfl rfl (by kernel_rfl) (by kernel_rfl) (by kernel_rfl) (fun _ _ _ h => h) (Or.inl ⟨by rfl, fun w hSw => by skip; go_simp⟩) hS ?_
        simp only [List.setIfInBounds_toArray, List.set_cons_zero, List.set_cons_succ]
        refine tkd (i := 14) (v := .pointer (some ⟨r, 0, none⟩)) rfl rfl (by kernel_rfl) (by kernel_rfl) (by kernel_rfl) (fun _ _ _ h => h) (Or.inl ⟨by rfl, fun w hSw => by skip; go_simp⟩) hS ?_
        simp only [List.setIfInBounds_toArray, List.set_cons_zero, List.set_cons_succ]
        refine wpAnyH_ready (rs := [15]) (by kernel_rfl) (by simp) ?_
        refine AllReadyH.cons rfl (fun K hK => ?_) AllReadyH.nil
        go_simp
        refine hK.out _ _ trivial (fun _ => ?_)
        clear hK K m0 mf
        refine wpAnyH_done (by kernel_rfl) ?_ _
        go_wp2
        go_roundw
        case rel => exact ⟨7, _, by omega, rfl, by rw [show L ++ (numB n).take (8 - 7) = M ++ [byteB n 56] by rw [← hM.out, List.append_assoc]; rfl]; exact hP.1, hF.trans hP.2⟩
        case measure => simp [intOf]
end Go.Proofs.YthfeojjfehbgjaaGreatDoor.obj
