/- What the reference's Is answers: a contract. (Written by mkprtd2.py: edit that.) -/
import Derived.Test.YtkoomoemkffjkaaGreatDoorNP13
set_option linter.unusedVariables false
set_option linter.unusedSimpArgs false
set_option maxRecDepth 100000
namespace Go.Proofs.YtkoomoemkffjkaaGreatDoor
namespace pr
open Go.RowKit
open Go.Proofs.YtkoomoemkffjkaaGreatDoor.syn Go.Proofs.YtkoomoemkffjkaaGreatDoor.face Go.Proofs.YtkoomoemkffjkaaGreatDoor.chk
set_option maxHeartbeats 4000000 in
theorem isLoopF {m : Int} {k : Int} {x : ByteArray} {ks : List Tree} {a : Option Addr} {c : Nat} (w : World) (ih : ∀ i (hi : i < ks.length) (va : Value) (w : World), Lies (· < w.heap.size) w ks[i] va → ShT 4611686018427387904 ks[i] → Calls Tryz.prog 14 #[va] w fun e w' => e = .returned (.bool (isT ks[i])) ∧ Below w.heap.size w w') (ha : Lies (· < w.heap.size) w (.node k x m ks) (.agg #[.int .i64 k, .string x, .int .i64 m, .slice a ks.length c])) (hx : x.size < 4611686018427387904) (HSK : Hid (∀ i (hi : i < ks.length), ShT 4611686018427387904 ks[i])) (hk : 1 ≤ k ∧ k ≤ 21) (h19 : ¬ k = 19) (d2 : decide (0 ≤ cntsM k) = true) (hA : lookA k x ks.length = true) (hN : lookN k m = true) :
    Calls Tryz.prog 14 #[.agg #[.int .i64 k, .string x, .int .i64 m, .slice a ks.length c]] w fun e w' => e = .returned (.bool (isT (.node k x m ks))) ∧ Below w.heap.size w w' := by
  have c24 : Tryz.prog.cellsOf 24 = 4 := by kernel_rfl
  replace ih := (show Hid _ from ih)
  have HA := (show Hid _ from ha)
  unfold Lies at ha
  obtain ⟨a', c', e', ⟨hlen, hlc⟩, hka⟩ := ha
  simp only [Value.agg.injEq, Array.mk.injEq, List.cons.injEq, Value.slice.injEq, and_true, true_and] at e'
  obtain ⟨rfl, -, rfl⟩ := e'
  replace hka := (show Hid _ from hka)
  have hk21 : 1 ≤ (k : Int) ∧ (k : Int) ≤ 21 := hk
  have hC := rCounts k (w.alloc (.cells #[.int .i64 k, .string x, .int .i64 m, .slice a ks.length c] 24))
  unfold CountsE at hC
  simp only [if_pos hk21] at hC
  have HT := (show Hid _ from isT_node k m x ks)
  have HH : Hid (headR k x m ks.length = true) := by
    show _ = _
    rw [head_split hk21, hA, hN]
    rfl
  have hcl := shape_class k
  unfold lookA at hA
  simp only [Bool.and_eq_true, Bool.not_eq_true'] at hA
  obtain ⟨⟨d1, d3⟩, dT⟩ := hA
  rw [d2] at d3
  simp only [Bool.true_and, Bool.false_and] at d3
  have hXx := rTexts x _ hcl (w.alloc (.cells #[.int .i64 k, .string x, .int .i64 m, .slice a ks.length c] 24)) hx
  rw [dT] at hXx
  unfold lookN at hN
  rw [if_neg h19] at hN
  simp only [Bool.not_eq_true', Bool.or_eq_false_iff] at hN
  obtain ⟨m1, m2⟩ := hN
  have k19 : (k == 19) = false := by simpa using h19
  generalize (shapeF k).2.2.2.1 = cL at *
  generalize cntsM k = cM at *
  generalize cntsN k = cN at *
  generalize (shapeF k).1 = cC at *
  clear hcl hk h19 hk21 dT
  obtain ⟨V, hV⟩ : ∃ V, V = isL k ks.length 0 0 ks := ⟨_, rfl⟩
  rw [← hV] at HT
  replace hV : Hid (V = _) := hV
  go_enter Tryz.func14, Tryz.ntmps14
  go_wp2_with first
    | (go_at_call 32; refine hC.mono ?_; rintro e w1 ⟨rfl, rfl⟩)
    | (go_at_call 33; refine hXx.mono ?_; rintro e w2 ⟨rfl, hb2⟩; have hbb : Below (w.heap.size + 1) (w.alloc (.cells #[.int .i64 k, .string x, .int .i64 m, .slice a ks.length c] 24)) w2 := hb2.mono (by simp); obtain ⟨q0, q1, q2, q3, hsz, hbz⟩ := one_box hbb; have hbL := hbb)
  clear q0 q1 q2 q3 hC hXx hb2 hbb hsz hbz m1 m2 k19 d1 d3 d2
  go_loopw [10] (fun t wr => ∃ (j : Nat) (p : Int), j ≤ ks.length ∧ t = .int .i64 j ∧ Hid (∀ i, j = i + 1 → ∀ (h : i < ks.length), kindT ks[i] = p) ∧ Hid (isL k ks.length j p (ks.drop j) = V) ∧ Below (w.heap.size + 1) (w.alloc (.cells #[.int .i64 k, .string x, .int .i64 m, .slice a ks.length c] 24)) wr) (fun t _ => ks.length - (intOf t).toNat)
  case atStart => exact ⟨0, 0, Nat.zero_le _, rfl, (fun i e => by omega), hV.out.symm, hbL⟩
  case round =>
    clear hbL
    obtain ⟨j, p, hj, rfl, hp, HV, hbr⟩ := hrel
    by_cases hlt : j < ks.length
    · obtain ⟨g, o, rfl, hg, hat⟩ := hka.out (by intro e; rw [e] at hlt; simp at hlt)
      obtain ⟨p0, p1, p2, p3, -, -⟩ := one_box hbr
      go_wp2
      have hbD := hbr.drew
      clear p0 p1 p2 p3
      clear hbr
      obtain ⟨q0, q1, q2, q3, hsz, hbw⟩ := one_box hbD
      obtain ⟨x0, x1, x2, x3, c0, c1, c2, c3, hxk⟩ := hat.kid1 hg hbw hlt
      obtain ⟨xx, mm, aa, nn, cc, rfl, rfl, rfl, rfl⟩ := lies_kind hxk
      have hisl := isL_at (k := k) (n := ks.length) (p := p) hlt
      have hCf := rFitsP wr.drew (Lies.below HA.out hbw) j hlt p (kindT ks[j]) hp.out
      have hCi := fun W' (h : Below wr.drew.heap.size wr.drew W') => ih.out j hlt _ W' (hxk.below h) (HSK.out j hlt)
      have HP2 : Hid (∀ i, j + 1 = i + 1 → ∀ (h : i < ks.length), kindT ks[i] = kindT ks[j]) := fun i e h => by
        obtain rfl : i = j := by omega
        rfl
      clear hxk hat hp
      generalize kindT ks[j] = kd at *
      generalize isT ks[j] = bi at *
      generalize fitB k ks.length j p kd = bf at *
      replace HV := HV.out
      rw [hisl] at HV
      clear hisl
      replace HV : Hid (_ = _) := HV
      replace HP2 := (show Hid _ from HP2)
      replace hCi := (show Hid _ from hCi)
      have hgl : g < wr.drew.heap.size := Nat.lt_of_lt_of_le hg hbw.size
      have hS : wr.drew.cell? ⟨w.heap.size, 0, none⟩ = some (.int .i64 k) ∧ wr.drew.cell? ⟨w.heap.size, 1, none⟩ = some (.string x) ∧ wr.drew.cell? ⟨w.heap.size, 2, none⟩ = some (.int .i64 m) ∧ wr.drew.cell? ⟨w.heap.size, 3, none⟩ = some (.slice (some ⟨g, o, none⟩) ks.length c) ∧ wr.drew.cell? ⟨g, o + j * 4, none⟩ = some (.int .i64 kd) ∧ wr.drew.cell? ⟨g, o + j * 4 + 1, none⟩ = some (.string xx) ∧ wr.drew.cell? ⟨g, o + j * 4 + 2, none⟩ = some (.int .i64 mm) ∧ wr.drew.cell? ⟨g, o + j * 4 + 3, none⟩ = some (.slice aa nn cc) := ⟨q0, q1, q2, q3, c0, c1, c2, c3⟩
      refine wp_region_held_drew (S := fun W => W.cell? ⟨w.heap.size, 0, none⟩ = some (.int .i64 k) ∧ W.cell? ⟨w.heap.size, 1, none⟩ = some (.string x) ∧ W.cell? ⟨w.heap.size, 2, none⟩ = some (.int .i64 m) ∧ W.cell? ⟨w.heap.size, 3, none⟩ = some (.slice (some ⟨g, o, none⟩) ks.length c) ∧ W.cell? ⟨g, o + j * 4, none⟩ = some (.int .i64 kd) ∧ W.cell? ⟨g, o + j * 4 + 1, none⟩ = some (.string xx) ∧ W.cell? ⟨g, o + j * 4 + 2, none⟩ = some (.int .i64 mm) ∧ W.cell? ⟨g, o + j * 4 + 3, none⟩ = some (.slice aa nn cc)) (by kernel_rfl) hS (fun hHeld => ?_)
      clear hHeld q0 q1 q2 q3 c0 c1 c2 c3
      generalize wr.drew = W at *
      refine ord.tkd (i := 0) (v := .agg #[.int .i64 k, .string x, .int .i64 m, .slice (some ⟨g, o, none⟩) ks.length c] ) rfl rfl (by kernel_rfl) (by kernel_rfl) (by kernel_rfl) (fun _ _ _ h => h) (Or.inl ⟨by rfl, fun wq hSw => by obtain ⟨y0, y1, y2, y3, z0, z1, z2, z3⟩ := hSw; go_simp⟩) hS ?_
      simp only [List.setIfInBounds_toArray, List.set_cons_zero, List.set_cons_succ]
      refine ord.tkd (i := 1) (v := .int .i64 j) rfl rfl (by kernel_rfl) (by kernel_rfl) (by kernel_rfl) (fun _ _ _ h => h) (Or.inl ⟨by rfl, fun wq hSw => by obtain ⟨y0, y1, y2, y3, z0, z1, z2, z3⟩ := hSw; go_simp⟩) hS ?_
      simp only [List.setIfInBounds_toArray, List.set_cons_zero, List.set_cons_succ]
      refine ord.tkd (i := 2) (v := .pointer (some ⟨w.heap.size, 3, none⟩)) rfl rfl (by kernel_rfl) (by kernel_rfl) (by kernel_rfl) (fun _ _ _ h => h) (Or.inl ⟨by rfl, fun wq hSw => by obtain ⟨y0, y1, y2, y3, z0, z1, z2, z3⟩ := hSw; go_simp⟩) hS ?_
      simp only [List.setIfInBounds_toArray, List.set_cons_zero, List.set_cons_succ]
      refine ord.tkd (i := 3) (v := .slice (some ⟨g, o, none⟩) ks.length c) rfl rfl (by kernel_rfl) (by kernel_rfl) (by kernel_rfl) (fun _ _ _ h => h) (Or.inl ⟨by rfl, fun wq hSw => by obtain ⟨y0, y1, y2, y3, z0, z1, z2, z3⟩ := hSw; go_simp⟩) hS ?_
      simp only [List.setIfInBounds_toArray, List.set_cons_zero, List.set_cons_succ]
      refine ord.tkd (i := 4) (v := .int .i64 j) rfl rfl (by kernel_rfl) (by kernel_rfl) (by kernel_rfl) (fun _ _ _ h => h) (Or.inl ⟨by rfl, fun wq hSw => by obtain ⟨y0, y1, y2, y3, z0, z1, z2, z3⟩ := hSw; go_simp⟩) hS ?_
      simp only [List.setIfInBounds_toArray, List.set_cons_zero, List.set_cons_succ]
      refine ord.tkd (i := 5) (v := .pointer (some ⟨g, o + j * 4, none⟩)) rfl rfl (by kernel_rfl) (by kernel_rfl) (by kernel_rfl) (fun _ _ _ h => h) (Or.inl ⟨by rfl, fun wq hSw => by obtain ⟨y0, y1, y2, y3, z0, z1, z2, z3⟩ := hSw; go_simp⟩) hS ?_
      simp only [List.setIfInBounds_toArray, List.set_cons_zero, List.set_cons_succ]
      refine ord.tkd (i := 6) (v := .pointer (some ⟨g, o + j * 4, none⟩)) rfl rfl (by kernel_rfl) (by kernel_rfl) (by kernel_rfl) (fun _ _ _ h => h) (Or.inl ⟨by rfl, fun wq hSw => by obtain ⟨y0, y1, y2, y3, z0, z1, z2, z3⟩ := hSw; go_simp⟩) hS ?_
      simp only [List.setIfInBounds_toArray, List.set_cons_zero, List.set_cons_succ]
      refine ord.tkd (i := 7) (v := .int .i64 kd) rfl rfl (by kernel_rfl) (by kernel_rfl) (by kernel_rfl) (fun _ _ _ h => h) (Or.inl ⟨by rfl, fun wq hSw => by obtain ⟨y0, y1, y2, y3, z0, z1, z2, z3⟩ := hSw; go_simp⟩) hS ?_
      simp only [List.setIfInBounds_toArray, List.set_cons_zero, List.set_cons_succ]
      refine wpAnyH_ready (rs := [8]) (by kernel_rfl) (by simp) ?_
      refine AllReadyH.cons rfl (fun KK hK => ?_) AllReadyH.nil
      go_simp
      go_at_call 35
      refine hCf.mono ?_
      clear hCf
      rintro e w2 ⟨rfl, hb2⟩
      go_wp2
      have hbD2 := hbD.trans (hb2.mono hsz)
      have hbw2 := hbw.trans (hb2.mono hbw.size)
      have hS2 : w2.cell? ⟨w.heap.size, 0, none⟩ = some (.int .i64 k) ∧ w2.cell? ⟨w.heap.size, 1, none⟩ = some (.string x) ∧ w2.cell? ⟨w.heap.size, 2, none⟩ = some (.int .i64 m) ∧ w2.cell? ⟨w.heap.size, 3, none⟩ = some (.slice (some ⟨g, o, none⟩) ks.length c) ∧ w2.cell? ⟨g, o + j * 4, none⟩ = some (.int .i64 kd) ∧ w2.cell? ⟨g, o + j * 4 + 1, none⟩ = some (.string xx) ∧ w2.cell? ⟨g, o + j * 4 + 2, none⟩ = some (.int .i64 mm) ∧ w2.cell? ⟨g, o + j * 4 + 3, none⟩ = some (.slice aa nn cc) := by
        obtain ⟨y0, y1, y2, y3, z0, z1, z2, z3⟩ := hS
        have hwW : w.heap.size < W.heap.size := by omega
        exact ⟨(hb2.cell (p := ⟨w.heap.size, 0, none⟩) hwW).trans y0, (hb2.cell (p := ⟨w.heap.size, 1, none⟩) hwW).trans y1, (hb2.cell (p := ⟨w.heap.size, 2, none⟩) hwW).trans y2, (hb2.cell (p := ⟨w.heap.size, 3, none⟩) hwW).trans y3, (hb2.cell (p := ⟨g, o + j * 4, none⟩) hgl).trans z0, (hb2.cell (p := ⟨g, o + j * 4 + 1, none⟩) hgl).trans z1, (hb2.cell (p := ⟨g, o + j * 4 + 2, none⟩) hgl).trans z2, (hb2.cell (p := ⟨g, o + j * 4 + 3, none⟩) hgl).trans z3⟩
      refine hK.out _ _ hS2 (fun _ => ?_)
      clear hK KK hS
      have hS := hS2
      clear hS2
      cases bf with
      | false =>
        have HE : Hid (V = false) := by show _ = _; rw [← HV.out]; rfl
        refine ord.tkd (i := 9) (v := .bool true) rfl rfl (by kernel_rfl) (by kernel_rfl) (by kernel_rfl) (fun _ _ _ h => h) (Or.inl ⟨by rfl, fun wq hSw => by obtain ⟨y0, y1, y2, y3, z0, z1, z2, z3⟩ := hSw; go_simp⟩) hS ?_
        simp only [List.setIfInBounds_toArray, List.set_cons_zero, List.set_cons_succ]
        refine ord.tkd (i := 10) (v := .bool true) rfl rfl (by kernel_rfl) (by kernel_rfl) (by kernel_rfl) (fun _ _ _ h => h) (Or.inl ⟨by rfl, fun wq hSw => by obtain ⟨y0, y1, y2, y3, z0, z1, z2, z3⟩ := hSw; go_simp⟩) hS ?_
        simp only [List.setIfInBounds_toArray, List.set_cons_zero, List.set_cons_succ]
        refine ord.tkd (i := 11) (v := undef) rfl rfl (by kernel_rfl) (by kernel_rfl) (by kernel_rfl) (fun _ _ _ h => h) (Or.inr ⟨by rfl, rfl⟩) hS ?_
        simp only [List.setIfInBounds_toArray, List.set_cons_zero, List.set_cons_succ]
        refine ord.tkd (i := 12) (v := undef) rfl rfl (by kernel_rfl) (by kernel_rfl) (by kernel_rfl) (fun _ _ _ h => h) (Or.inr ⟨by rfl, rfl⟩) hS ?_
        simp only [List.setIfInBounds_toArray, List.set_cons_zero, List.set_cons_succ]
        refine ord.tkd (i := 13) (v := undef) rfl rfl (by kernel_rfl) (by kernel_rfl) (by kernel_rfl) (fun _ _ _ h => h) (Or.inr ⟨by rfl, rfl⟩) hS ?_
        simp only [List.setIfInBounds_toArray, List.set_cons_zero, List.set_cons_succ]
        refine ord.tkd (i := 14) (v := undef) rfl rfl (by kernel_rfl) (by kernel_rfl) (by kernel_rfl) (fun _ _ _ h => h) (Or.inr ⟨by rfl, rfl⟩) hS ?_
        simp only [List.setIfInBounds_toArray, List.set_cons_zero, List.set_cons_succ]
        refine ord.tkd (i := 15) (v := undef) rfl rfl (by kernel_rfl) (by kernel_rfl) (by kernel_rfl) (fun _ _ _ h => h) (Or.inr ⟨by rfl, rfl⟩) hS ?_
        simp only [List.setIfInBounds_toArray, List.set_cons_zero, List.set_cons_succ]
        refine ord.tkd (i := 16) (v := undef) rfl rfl (by kernel_rfl) (by kernel_rfl) (by kernel_rfl) (fun _ _ _ h => h) (Or.inr ⟨by rfl, rfl⟩) hS ?_
        simp only [List.setIfInBounds_toArray, List.set_cons_zero, List.set_cons_succ]
        refine ord.tkd (i := 17) (v := undef) rfl rfl (by kernel_rfl) (by kernel_rfl) (by kernel_rfl) (fun _ _ _ h => h) (Or.inr ⟨by rfl, rfl⟩) hS ?_
        simp only [List.setIfInBounds_toArray, List.set_cons_zero, List.set_cons_succ]
        refine ord.tkd (i := 18) (v := .bool true) rfl rfl (by kernel_rfl) (by kernel_rfl) (by kernel_rfl) (fun _ _ _ h => h) (Or.inl ⟨by rfl, fun wq hSw => by obtain ⟨y0, y1, y2, y3, z0, z1, z2, z3⟩ := hSw; go_simp⟩) hS ?_
        simp only [List.setIfInBounds_toArray, List.set_cons_zero, List.set_cons_succ]
        refine wpAnyH_done (by kernel_rfl) ?_ _
        clear hS
        go_wp2
        go_ret
        exact ⟨by rw [HT.out, HH.out, HE.out]; rfl, hbw2⟩
      | true =>
        have hC2 := hCi.out w2 hb2
        refine ord.tkd (i := 9) (v := .bool false) rfl rfl (by kernel_rfl) (by kernel_rfl) (by kernel_rfl) (fun _ _ _ h => h) (Or.inl ⟨by rfl, fun wq hSw => by obtain ⟨y0, y1, y2, y3, z0, z1, z2, z3⟩ := hSw; go_simp⟩) hS ?_
        simp only [List.setIfInBounds_toArray, List.set_cons_zero, List.set_cons_succ]
        refine ord.tkd (i := 10) (v := .bool false) rfl rfl (by kernel_rfl) (by kernel_rfl) (by kernel_rfl) (fun _ _ _ h => h) (Or.inl ⟨by rfl, fun wq hSw => by obtain ⟨y0, y1, y2, y3, z0, z1, z2, z3⟩ := hSw; go_simp⟩) hS ?_
        simp only [List.setIfInBounds_toArray, List.set_cons_zero, List.set_cons_succ]
        refine ord.tkd (i := 11) (v := .pointer (some ⟨w.heap.size, 3, none⟩)) rfl rfl (by kernel_rfl) (by kernel_rfl) (by kernel_rfl) (fun _ _ _ h => h) (Or.inl ⟨by rfl, fun wq hSw => by obtain ⟨y0, y1, y2, y3, z0, z1, z2, z3⟩ := hSw; go_simp⟩) hS ?_
        simp only [List.setIfInBounds_toArray, List.set_cons_zero, List.set_cons_succ]
        refine ord.tkd (i := 12) (v := .slice (some ⟨g, o, none⟩) ks.length c) rfl rfl (by kernel_rfl) (by kernel_rfl) (by kernel_rfl) (fun _ _ _ h => h) (Or.inl ⟨by rfl, fun wq hSw => by obtain ⟨y0, y1, y2, y3, z0, z1, z2, z3⟩ := hSw; go_simp⟩) hS ?_
        simp only [List.setIfInBounds_toArray, List.set_cons_zero, List.set_cons_succ]
        refine ord.tkd (i := 13) (v := .int .i64 j) rfl rfl (by kernel_rfl) (by kernel_rfl) (by kernel_rfl) (fun _ _ _ h => h) (Or.inl ⟨by rfl, fun wq hSw => by obtain ⟨y0, y1, y2, y3, z0, z1, z2, z3⟩ := hSw; go_simp⟩) hS ?_
        simp only [List.setIfInBounds_toArray, List.set_cons_zero, List.set_cons_succ]
        refine ord.tkd (i := 14) (v := .pointer (some ⟨g, o + j * 4, none⟩)) rfl rfl (by kernel_rfl) (by kernel_rfl) (by kernel_rfl) (fun _ _ _ h => h) (Or.inl ⟨by rfl, fun wq hSw => by obtain ⟨y0, y1, y2, y3, z0, z1, z2, z3⟩ := hSw; go_simp⟩) hS ?_
        simp only [List.setIfInBounds_toArray, List.set_cons_zero, List.set_cons_succ]
        refine ord.tkd (i := 15) (v := .agg #[.int .i64 kd, .string xx, .int .i64 mm, .slice aa nn cc] ) rfl rfl (by kernel_rfl) (by kernel_rfl) (by kernel_rfl) (fun _ _ _ h => h) (Or.inl ⟨by rfl, fun wq hSw => by obtain ⟨y0, y1, y2, y3, z0, z1, z2, z3⟩ := hSw; go_simp⟩) hS ?_
        simp only [List.setIfInBounds_toArray, List.set_cons_zero, List.set_cons_succ]
        refine wpAnyH_ready (rs := [16]) (by kernel_rfl) (by simp) ?_
        refine AllReadyH.cons rfl (fun KK hK => ?_) AllReadyH.nil
        go_simp
        go_at_call 14
        refine hC2.mono ?_
        clear hC2
        rintro e w3 ⟨rfl, hb3⟩
        go_wp2
        have hbD3 := hbD2.trans (hb3.mono (Nat.le_trans hsz hb2.size))
        have hbw3 := hbw2.trans (hb3.mono hbw2.size)
        have hS2 : w3.cell? ⟨w.heap.size, 0, none⟩ = some (.int .i64 k) ∧ w3.cell? ⟨w.heap.size, 1, none⟩ = some (.string x) ∧ w3.cell? ⟨w.heap.size, 2, none⟩ = some (.int .i64 m) ∧ w3.cell? ⟨w.heap.size, 3, none⟩ = some (.slice (some ⟨g, o, none⟩) ks.length c) ∧ w3.cell? ⟨g, o + j * 4, none⟩ = some (.int .i64 kd) ∧ w3.cell? ⟨g, o + j * 4 + 1, none⟩ = some (.string xx) ∧ w3.cell? ⟨g, o + j * 4 + 2, none⟩ = some (.int .i64 mm) ∧ w3.cell? ⟨g, o + j * 4 + 3, none⟩ = some (.slice aa nn cc) := by
          obtain ⟨y0, y1, y2, y3, z0, z1, z2, z3⟩ := hS
          have hwW : w.heap.size < w2.heap.size := by have := hb2.size; omega
          have hgl2 : g < w2.heap.size := Nat.lt_of_lt_of_le hgl hb2.size
          exact ⟨(hb3.cell (p := ⟨w.heap.size, 0, none⟩) hwW).trans y0, (hb3.cell (p := ⟨w.heap.size, 1, none⟩) hwW).trans y1, (hb3.cell (p := ⟨w.heap.size, 2, none⟩) hwW).trans y2, (hb3.cell (p := ⟨w.heap.size, 3, none⟩) hwW).trans y3, (hb3.cell (p := ⟨g, o + j * 4, none⟩) hgl2).trans z0, (hb3.cell (p := ⟨g, o + j * 4 + 1, none⟩) hgl2).trans z1, (hb3.cell (p := ⟨g, o + j * 4 + 2, none⟩) hgl2).trans z2, (hb3.cell (p := ⟨g, o + j * 4 + 3, none⟩) hgl2).trans z3⟩
        refine hK.out _ _ hS2 (fun _ => ?_)
        clear hK KK hS
        have hS := hS2
        clear hS2
        cases bi with
        | false =>
          have HE : Hid (V = false) := by show _ = _; rw [← HV.out]; rfl
          refine ord.tkd (i := 17) (v := .bool true) rfl rfl (by kernel_rfl) (by kernel_rfl) (by kernel_rfl) (fun _ _ _ h => h) (Or.inl ⟨by rfl, fun wq hSw => by obtain ⟨y0, y1, y2, y3, z0, z1, z2, z3⟩ := hSw; go_simp⟩) hS ?_
          simp only [List.setIfInBounds_toArray, List.set_cons_zero, List.set_cons_succ]
          refine ord.tkd (i := 18) (v := .bool true) rfl rfl (by kernel_rfl) (by kernel_rfl) (by kernel_rfl) (fun _ _ _ h => h) (Or.inl ⟨by rfl, fun wq hSw => by obtain ⟨y0, y1, y2, y3, z0, z1, z2, z3⟩ := hSw; go_simp⟩) hS ?_
          simp only [List.setIfInBounds_toArray, List.set_cons_zero, List.set_cons_succ]
          refine wpAnyH_done (by kernel_rfl) ?_ _
          clear hS
          go_wp2
          go_ret
          exact ⟨by rw [HT.out, HH.out, HE.out]; rfl, hbw3⟩
        | true =>
          have HV2 : Hid (isL k ks.length (j + 1) kd (ks.drop (j + 1)) = V) := by show _ = _; rw [← HV.out]; rfl
          refine ord.tkd (i := 17) (v := .bool false) rfl rfl (by kernel_rfl) (by kernel_rfl) (by kernel_rfl) (fun _ _ _ h => h) (Or.inl ⟨by rfl, fun wq hSw => by obtain ⟨y0, y1, y2, y3, z0, z1, z2, z3⟩ := hSw; go_simp⟩) hS ?_
          simp only [List.setIfInBounds_toArray, List.set_cons_zero, List.set_cons_succ]
          refine ord.tkd (i := 18) (v := .bool false) rfl rfl (by kernel_rfl) (by kernel_rfl) (by kernel_rfl) (fun _ _ _ h => h) (Or.inl ⟨by rfl, fun wq hSw => by obtain ⟨y0, y1, y2, y3, z0, z1, z2, z3⟩ := hSw; go_simp⟩) hS ?_
          simp only [List.setIfInBounds_toArray, List.set_cons_zero, List.set_cons_succ]
          refine wpAnyH_done (by kernel_rfl) ?_ _
          clear hS
          go_wp2
          go_roundw
          case rel => exact ⟨j + 1, kd, by omega, by go_num, HP2.out, HV2.out, hbD3⟩
          case measure => simp [intOf]; omega
    · have HE : Hid (V = true) := by
        show _ = _
        rw [← HV.out, List.drop_eq_nil_of_le (by omega)]
        unfold isL
        rfl
      have hbz := (one_box hbr).2.2.2.2.2
      obtain ⟨q0, q1, q2, q3, hsz, -⟩ := one_box hbr
      clear hp HV
      go_wp2
      go_ret
      exact ⟨by rw [HT.out, HH.out, HE.out]; rfl, hbz⟩
set_option maxHeartbeats 4000000 in
theorem isLoopG {m : Int} {x : ByteArray} {ks : List Tree} {a : Option Addr} {c : Nat} (w : World) (ih : ∀ i (hi : i < ks.length) (va : Value) (w : World), Lies (· < w.heap.size) w ks[i] va → ShT 4611686018427387904 ks[i] → Calls Tryz.prog 14 #[va] w fun e w' => e = .returned (.bool (isT ks[i])) ∧ Below w.heap.size w w') (ha : Lies (· < w.heap.size) w (.node 19 x m ks) (.agg #[.int .i64 19, .string x, .int .i64 m, .slice a ks.length c])) (hx : x.size < 4611686018427387904) (HSK : Hid (∀ i (hi : i < ks.length), ShT 4611686018427387904 ks[i])) (d2 : decide (0 ≤ cntsM 19) = true) (hA : lookA 19 x ks.length = true) (hN : lookN 19 m = true) :
    Calls Tryz.prog 14 #[.agg #[.int .i64 19, .string x, .int .i64 m, .slice a ks.length c]] w fun e w' => e = .returned (.bool (isT (.node 19 x m ks))) ∧ Below w.heap.size w w' := by
  have c24 : Tryz.prog.cellsOf 24 = 4 := by kernel_rfl
  replace ih := (show Hid _ from ih)
  have HA := (show Hid _ from ha)
  unfold Lies at ha
  obtain ⟨a', c', e', ⟨hlen, hlc⟩, hka⟩ := ha
  simp only [Value.agg.injEq, Array.mk.injEq, List.cons.injEq, Value.slice.injEq, and_true, true_and] at e'
  obtain ⟨rfl, -, rfl⟩ := e'
  replace hka := (show Hid _ from hka)
  have hk21 : 1 ≤ (19 : Int) ∧ (19 : Int) ≤ 21 := by decide
  have hC := rCounts 19 (w.alloc (.cells #[.int .i64 19, .string x, .int .i64 m, .slice a ks.length c] 24))
  unfold CountsE at hC
  simp only [if_pos hk21] at hC
  have HT := (show Hid _ from isT_node 19 m x ks)
  have HH : Hid (headR 19 x m ks.length = true) := by
    show _ = _
    rw [head_split hk21, hA, hN]
    rfl
  have hcl := shape_class 19
  unfold lookA at hA
  simp only [Bool.and_eq_true, Bool.not_eq_true'] at hA
  obtain ⟨⟨d1, d3⟩, dT⟩ := hA
  rw [d2] at d3
  simp only [Bool.true_and, Bool.false_and] at d3
  have hXx := rTexts x _ hcl (w.alloc (.cells #[.int .i64 19, .string x, .int .i64 m, .slice a ks.length c] 24)) hx
  rw [dT] at hXx
  unfold lookN at hN
  rw [if_pos rfl] at hN
  have h9 : 1 ≤ m ∧ m ≤ 9 := of_decide_eq_true hN
  have hG := rSignOf m
  have e1 : ((sgnS m).toList == ([] : List UInt8)) = false := sgn_ne h9
  generalize sgnS m = ys at *
  clear hN h9
  generalize (shapeF 19).2.2.2.1 = cL at *
  generalize cntsM 19 = cM at *
  generalize cntsN 19 = cN at *
  generalize (shapeF 19).1 = cC at *
  clear hcl  hk21 dT
  obtain ⟨V, hV⟩ : ∃ V, V = isL 19 ks.length 0 0 ks := ⟨_, rfl⟩
  rw [← hV] at HT
  replace hV : Hid (V = _) := hV
  go_enter Tryz.func14, Tryz.ntmps14
  go_wp2_with first
    | (go_at_call 32; refine hC.mono ?_; rintro e w1 ⟨rfl, rfl⟩)
    | (go_at_call 33; refine hXx.mono ?_; rintro e w2 ⟨rfl, hb2⟩; have hbb : Below (w.heap.size + 1) (w.alloc (.cells #[.int .i64 19, .string x, .int .i64 m, .slice a ks.length c] 24)) w2 := hb2.mono (by simp); obtain ⟨q0, q1, q2, q3, hsz, hbz⟩ := one_box hbb)
    | (go_at_call 34; refine (hG _).mono ?_; rintro e w3 ⟨rfl, hb3⟩; have hbL : Below (w.heap.size + 1) (w.alloc (.cells #[.int .i64 19, .string x, .int .i64 m, .slice a ks.length c] 24)) w3 := hbb.trans (hb3.mono hsz))
  clear q0 q1 q2 q3 hC hXx hG hb2 hb3 hbb hsz hbz e1 d1 d3 d2
  go_loopw [10] (fun t wr => ∃ (j : Nat) (p : Int), j ≤ ks.length ∧ t = .int .i64 j ∧ Hid (∀ i, j = i + 1 → ∀ (h : i < ks.length), kindT ks[i] = p) ∧ Hid (isL 19 ks.length j p (ks.drop j) = V) ∧ Below (w.heap.size + 1) (w.alloc (.cells #[.int .i64 19, .string x, .int .i64 m, .slice a ks.length c] 24)) wr) (fun t _ => ks.length - (intOf t).toNat)
  case atStart => exact ⟨0, 0, Nat.zero_le _, rfl, (fun i e => by omega), hV.out.symm, hbL⟩
  case round =>
    clear hbL
    obtain ⟨j, p, hj, rfl, hp, HV, hbr⟩ := hrel
    by_cases hlt : j < ks.length
    · obtain ⟨g, o, rfl, hg, hat⟩ := hka.out (by intro e; rw [e] at hlt; simp at hlt)
      obtain ⟨p0, p1, p2, p3, -, -⟩ := one_box hbr
      go_wp2
      have hbD := hbr.drew
      clear p0 p1 p2 p3
      clear hbr
      obtain ⟨q0, q1, q2, q3, hsz, hbw⟩ := one_box hbD
      obtain ⟨x0, x1, x2, x3, c0, c1, c2, c3, hxk⟩ := hat.kid1 hg hbw hlt
      obtain ⟨xx, mm, aa, nn, cc, rfl, rfl, rfl, rfl⟩ := lies_kind hxk
      have hisl := isL_at (k := 19) (n := ks.length) (p := p) hlt
      have hCf := rFitsP wr.drew (Lies.below HA.out hbw) j hlt p (kindT ks[j]) hp.out
      have hCi := fun W' (h : Below wr.drew.heap.size wr.drew W') => ih.out j hlt _ W' (hxk.below h) (HSK.out j hlt)
      have HP2 : Hid (∀ i, j + 1 = i + 1 → ∀ (h : i < ks.length), kindT ks[i] = kindT ks[j]) := fun i e h => by
        obtain rfl : i = j := by omega
        rfl
      clear hxk hat hp
      generalize kindT ks[j] = kd at *
      generalize isT ks[j] = bi at *
      generalize fitB 19 ks.length j p kd = bf at *
      replace HV := HV.out
      rw [hisl] at HV
      clear hisl
      replace HV : Hid (_ = _) := HV
      replace HP2 := (show Hid _ from HP2)
      replace hCi := (show Hid _ from hCi)
      have hgl : g < wr.drew.heap.size := Nat.lt_of_lt_of_le hg hbw.size
      have hS : wr.drew.cell? ⟨w.heap.size, 0, none⟩ = some (.int .i64 19) ∧ wr.drew.cell? ⟨w.heap.size, 1, none⟩ = some (.string x) ∧ wr.drew.cell? ⟨w.heap.size, 2, none⟩ = some (.int .i64 m) ∧ wr.drew.cell? ⟨w.heap.size, 3, none⟩ = some (.slice (some ⟨g, o, none⟩) ks.length c) ∧ wr.drew.cell? ⟨g, o + j * 4, none⟩ = some (.int .i64 kd) ∧ wr.drew.cell? ⟨g, o + j * 4 + 1, none⟩ = some (.string xx) ∧ wr.drew.cell? ⟨g, o + j * 4 + 2, none⟩ = some (.int .i64 mm) ∧ wr.drew.cell? ⟨g, o + j * 4 + 3, none⟩ = some (.slice aa nn cc) := ⟨q0, q1, q2, q3, c0, c1, c2, c3⟩
      refine wp_region_held_drew (S := fun W => W.cell? ⟨w.heap.size, 0, none⟩ = some (.int .i64 19) ∧ W.cell? ⟨w.heap.size, 1, none⟩ = some (.string x) ∧ W.cell? ⟨w.heap.size, 2, none⟩ = some (.int .i64 m) ∧ W.cell? ⟨w.heap.size, 3, none⟩ = some (.slice (some ⟨g, o, none⟩) ks.length c) ∧ W.cell? ⟨g, o + j * 4, none⟩ = some (.int .i64 kd) ∧ W.cell? ⟨g, o + j * 4 + 1, none⟩ = some (.string xx) ∧ W.cell? ⟨g, o + j * 4 + 2, none⟩ = some (.int .i64 mm) ∧ W.cell? ⟨g, o + j * 4 + 3, none⟩ = some (.slice aa nn cc)) (by kernel_rfl) hS (fun hHeld => ?_)
      clear hHeld q0 q1 q2 q3 c0 c1 c2 c3
      generalize wr.drew = W at *
      refine ord.tkd (i := 0) (v := .agg #[.int .i64 19, .string x, .int .i64 m, .slice (some ⟨g, o, none⟩) ks.length c] ) rfl rfl (by kernel_rfl) (by kernel_rfl) (by kernel_rfl) (fun _ _ _ h => h) (Or.inl ⟨by rfl, fun wq hSw => by obtain ⟨y0, y1, y2, y3, z0, z1, z2, z3⟩ := hSw; go_simp⟩) hS ?_
      simp only [List.setIfInBounds_toArray, List.set_cons_zero, List.set_cons_succ]
      refine ord.tkd (i := 1) (v := .int .i64 j) rfl rfl (by kernel_rfl) (by kernel_rfl) (by kernel_rfl) (fun _ _ _ h => h) (Or.inl ⟨by rfl, fun wq hSw => by obtain ⟨y0, y1, y2, y3, z0, z1, z2, z3⟩ := hSw; go_simp⟩) hS ?_
      simp only [List.setIfInBounds_toArray, List.set_cons_zero, List.set_cons_succ]
      refine ord.tkd (i := 2) (v := .pointer (some ⟨w.heap.size, 3, none⟩)) rfl rfl (by kernel_rfl) (by kernel_rfl) (by kernel_rfl) (fun _ _ _ h => h) (Or.inl ⟨by rfl, fun wq hSw => by obtain ⟨y0, y1, y2, y3, z0, z1, z2, z3⟩ := hSw; go_simp⟩) hS ?_
      simp only [List.setIfInBounds_toArray, List.set_cons_zero, List.set_cons_succ]
      refine ord.tkd (i := 3) (v := .slice (some ⟨g, o, none⟩) ks.length c) rfl rfl (by kernel_rfl) (by kernel_rfl) (by kernel_rfl) (fun _ _ _ h => h) (Or.inl ⟨by rfl, fun wq hSw => by obtain ⟨y0, y1, y2, y3, z0, z1, z2, z3⟩ := hSw; go_simp⟩) hS ?_
      simp only [List.setIfInBounds_toArray, List.set_cons_zero, List.set_cons_succ]
      refine ord.tkd (i := 4) (v := .int .i64 j) rfl rfl (by kernel_rfl) (by kernel_rfl) (by kernel_rfl) (fun _ _ _ h => h) (Or.inl ⟨by rfl, fun wq hSw => by obtain ⟨y0, y1, y2, y3, z0, z1, z2, z3⟩ := hSw; go_simp⟩) hS ?_
      simp only [List.setIfInBounds_toArray, List.set_cons_zero, List.set_cons_succ]
      refine ord.tkd (i := 5) (v := .pointer (some ⟨g, o + j * 4, none⟩)) rfl rfl (by kernel_rfl) (by kernel_rfl) (by kernel_rfl) (fun _ _ _ h => h) (Or.inl ⟨by rfl, fun wq hSw => by obtain ⟨y0, y1, y2, y3, z0, z1, z2, z3⟩ := hSw; go_simp⟩) hS ?_
      simp only [List.setIfInBounds_toArray, List.set_cons_zero, List.set_cons_succ]
      refine ord.tkd (i := 6) (v := .pointer (some ⟨g, o + j * 4, none⟩)) rfl rfl (by kernel_rfl) (by kernel_rfl) (by kernel_rfl) (fun _ _ _ h => h) (Or.inl ⟨by rfl, fun wq hSw => by obtain ⟨y0, y1, y2, y3, z0, z1, z2, z3⟩ := hSw; go_simp⟩) hS ?_
      simp only [List.setIfInBounds_toArray, List.set_cons_zero, List.set_cons_succ]
      refine ord.tkd (i := 7) (v := .int .i64 kd) rfl rfl (by kernel_rfl) (by kernel_rfl) (by kernel_rfl) (fun _ _ _ h => h) (Or.inl ⟨by rfl, fun wq hSw => by obtain ⟨y0, y1, y2, y3, z0, z1, z2, z3⟩ := hSw; go_simp⟩) hS ?_
      simp only [List.setIfInBounds_toArray, List.set_cons_zero, List.set_cons_succ]
      refine wpAnyH_ready (rs := [8]) (by kernel_rfl) (by simp) ?_
      refine AllReadyH.cons rfl (fun KK hK => ?_) AllReadyH.nil
      go_simp
      go_at_call 35
      refine hCf.mono ?_
      clear hCf
      rintro e w2 ⟨rfl, hb2⟩
      go_wp2
      have hbD2 := hbD.trans (hb2.mono hsz)
      have hbw2 := hbw.trans (hb2.mono hbw.size)
      have hS2 : w2.cell? ⟨w.heap.size, 0, none⟩ = some (.int .i64 19) ∧ w2.cell? ⟨w.heap.size, 1, none⟩ = some (.string x) ∧ w2.cell? ⟨w.heap.size, 2, none⟩ = some (.int .i64 m) ∧ w2.cell? ⟨w.heap.size, 3, none⟩ = some (.slice (some ⟨g, o, none⟩) ks.length c) ∧ w2.cell? ⟨g, o + j * 4, none⟩ = some (.int .i64 kd) ∧ w2.cell? ⟨g, o + j * 4 + 1, none⟩ = some (.string xx) ∧ w2.cell? ⟨g, o + j * 4 + 2, none⟩ = some (.int .i64 mm) ∧ w2.cell? ⟨g, o + j * 4 + 3, none⟩ = some (.slice aa nn cc) := by
        obtain ⟨y0, y1, y2, y3, z0, z1, z2, z3⟩ := hS
        have hwW : w.heap.size < W.heap.size := by omega
        exact ⟨(hb2.cell (p := ⟨w.heap.size, 0, none⟩) hwW).trans y0, (hb2.cell (p := ⟨w.heap.size, 1, none⟩) hwW).trans y1, (hb2.cell (p := ⟨w.heap.size, 2, none⟩) hwW).trans y2, (hb2.cell (p := ⟨w.heap.size, 3, none⟩) hwW).trans y3, (hb2.cell (p := ⟨g, o + j * 4, none⟩) hgl).trans z0, (hb2.cell (p := ⟨g, o + j * 4 + 1, none⟩) hgl).trans z1, (hb2.cell (p := ⟨g, o + j * 4 + 2, none⟩) hgl).trans z2, (hb2.cell (p := ⟨g, o + j * 4 + 3, none⟩) hgl).trans z3⟩
      refine hK.out _ _ hS2 (fun _ => ?_)
      clear hK KK hS
      have hS := hS2
      clear hS2
      cases bf with
      | false =>
        have HE : Hid (V = false) := by show _ = _; rw [← HV.out]; rfl
        refine ord.tkd (i := 9) (v := .bool true) rfl rfl (by kernel_rfl) (by kernel_rfl) (by kernel_rfl) (fun _ _ _ h => h) (Or.inl ⟨by rfl, fun wq hSw => by obtain ⟨y0, y1, y2, y3, z0, z1, z2, z3⟩ := hSw; go_simp⟩) hS ?_
        simp only [List.setIfInBounds_toArray, List.set_cons_zero, List.set_cons_succ]
        refine ord.tkd (i := 10) (v := .bool true) rfl rfl (by kernel_rfl) (by kernel_rfl) (by kernel_rfl) (fun _ _ _ h => h) (Or.inl ⟨by rfl, fun wq hSw => by obtain ⟨y0, y1, y2, y3, z0, z1, z2, z3⟩ := hSw; go_simp⟩) hS ?_
        simp only [List.setIfInBounds_toArray, List.set_cons_zero, List.set_cons_succ]
        refine ord.tkd (i := 11) (v := undef) rfl rfl (by kernel_rfl) (by kernel_rfl) (by kernel_rfl) (fun _ _ _ h => h) (Or.inr ⟨by rfl, rfl⟩) hS ?_
        simp only [List.setIfInBounds_toArray, List.set_cons_zero, List.set_cons_succ]
        refine ord.tkd (i := 12) (v := undef) rfl rfl (by kernel_rfl) (by kernel_rfl) (by kernel_rfl) (fun _ _ _ h => h) (Or.inr ⟨by rfl, rfl⟩) hS ?_
        simp only [List.setIfInBounds_toArray, List.set_cons_zero, List.set_cons_succ]
        refine ord.tkd (i := 13) (v := undef) rfl rfl (by kernel_rfl) (by kernel_rfl) (by kernel_rfl) (fun _ _ _ h => h) (Or.inr ⟨by rfl, rfl⟩) hS ?_
        simp only [List.setIfInBounds_toArray, List.set_cons_zero, List.set_cons_succ]
        refine ord.tkd (i := 14) (v := undef) rfl rfl (by kernel_rfl) (by kernel_rfl) (by kernel_rfl) (fun _ _ _ h => h) (Or.inr ⟨by rfl, rfl⟩) hS ?_
        simp only [List.setIfInBounds_toArray, List.set_cons_zero, List.set_cons_succ]
        refine ord.tkd (i := 15) (v := undef) rfl rfl (by kernel_rfl) (by kernel_rfl) (by kernel_rfl) (fun _ _ _ h => h) (Or.inr ⟨by rfl, rfl⟩) hS ?_
        simp only [List.setIfInBounds_toArray, List.set_cons_zero, List.set_cons_succ]
        refine ord.tkd (i := 16) (v := undef) rfl rfl (by kernel_rfl) (by kernel_rfl) (by kernel_rfl) (fun _ _ _ h => h) (Or.inr ⟨by rfl, rfl⟩) hS ?_
        simp only [List.setIfInBounds_toArray, List.set_cons_zero, List.set_cons_succ]
        refine ord.tkd (i := 17) (v := undef) rfl rfl (by kernel_rfl) (by kernel_rfl) (by kernel_rfl) (fun _ _ _ h => h) (Or.inr ⟨by rfl, rfl⟩) hS ?_
        simp only [List.setIfInBounds_toArray, List.set_cons_zero, List.set_cons_succ]
        refine ord.tkd (i := 18) (v := .bool true) rfl rfl (by kernel_rfl) (by kernel_rfl) (by kernel_rfl) (fun _ _ _ h => h) (Or.inl ⟨by rfl, fun wq hSw => by obtain ⟨y0, y1, y2, y3, z0, z1, z2, z3⟩ := hSw; go_simp⟩) hS ?_
        simp only [List.setIfInBounds_toArray, List.set_cons_zero, List.set_cons_succ]
        refine wpAnyH_done (by kernel_rfl) ?_ _
        clear hS
        go_wp2
        go_ret
        exact ⟨by rw [HT.out, HH.out, HE.out]; rfl, hbw2⟩
      | true =>
        have hC2 := hCi.out w2 hb2
        refine ord.tkd (i := 9) (v := .bool false) rfl rfl (by kernel_rfl) (by kernel_rfl) (by kernel_rfl) (fun _ _ _ h => h) (Or.inl ⟨by rfl, fun wq hSw => by obtain ⟨y0, y1, y2, y3, z0, z1, z2, z3⟩ := hSw; go_simp⟩) hS ?_
        simp only [List.setIfInBounds_toArray, List.set_cons_zero, List.set_cons_succ]
        refine ord.tkd (i := 10) (v := .bool false) rfl rfl (by kernel_rfl) (by kernel_rfl) (by kernel_rfl) (fun _ _ _ h => h) (Or.inl ⟨by rfl, fun wq hSw => by obtain ⟨y0, y1, y2, y3, z0, z1, z2, z3⟩ := hSw; go_simp⟩) hS ?_
        simp only [List.setIfInBounds_toArray, List.set_cons_zero, List.set_cons_succ]
        refine ord.tkd (i := 11) (v := .pointer (some ⟨w.heap.size, 3, none⟩)) rfl rfl (by kernel_rfl) (by kernel_rfl) (by kernel_rfl) (fun _ _ _ h => h) (Or.inl ⟨by rfl, fun wq hSw => by obtain ⟨y0, y1, y2, y3, z0, z1, z2, z3⟩ := hSw; go_simp⟩) hS ?_
        simp only [List.setIfInBounds_toArray, List.set_cons_zero, List.set_cons_succ]
        refine ord.tkd (i := 12) (v := .slice (some ⟨g, o, none⟩) ks.length c) rfl rfl (by kernel_rfl) (by kernel_rfl) (by kernel_rfl) (fun _ _ _ h => h) (Or.inl ⟨by rfl, fun wq hSw => by obtain ⟨y0, y1, y2, y3, z0, z1, z2, z3⟩ := hSw; go_simp⟩) hS ?_
        simp only [List.setIfInBounds_toArray, List.set_cons_zero, List.set_cons_succ]
        refine ord.tkd (i := 13) (v := .int .i64 j) rfl rfl (by kernel_rfl) (by kernel_rfl) (by kernel_rfl) (fun _ _ _ h => h) (Or.inl ⟨by rfl, fun wq hSw => by obtain ⟨y0, y1, y2, y3, z0, z1, z2, z3⟩ := hSw; go_simp⟩) hS ?_
        simp only [List.setIfInBounds_toArray, List.set_cons_zero, List.set_cons_succ]
        refine ord.tkd (i := 14) (v := .pointer (some ⟨g, o + j * 4, none⟩)) rfl rfl (by kernel_rfl) (by kernel_rfl) (by kernel_rfl) (fun _ _ _ h => h) (Or.inl ⟨by rfl, fun wq hSw => by obtain ⟨y0, y1, y2, y3, z0, z1, z2, z3⟩ := hSw; go_simp⟩) hS ?_
        simp only [List.setIfInBounds_toArray, List.set_cons_zero, List.set_cons_succ]
        refine ord.tkd (i := 15) (v := .agg #[.int .i64 kd, .string xx, .int .i64 mm, .slice aa nn cc] ) rfl rfl (by kernel_rfl) (by kernel_rfl) (by kernel_rfl) (fun _ _ _ h => h) (Or.inl ⟨by rfl, fun wq hSw => by obtain ⟨y0, y1, y2, y3, z0, z1, z2, z3⟩ := hSw; go_simp⟩) hS ?_
        simp only [List.setIfInBounds_toArray, List.set_cons_zero, List.set_cons_succ]
        refine wpAnyH_ready (rs := [16]) (by kernel_rfl) (by simp) ?_
        refine AllReadyH.cons rfl (fun KK hK => ?_) AllReadyH.nil
        go_simp
        go_at_call 14
        refine hC2.mono ?_
        clear hC2
        rintro e w3 ⟨rfl, hb3⟩
        go_wp2
        have hbD3 := hbD2.trans (hb3.mono (Nat.le_trans hsz hb2.size))
        have hbw3 := hbw2.trans (hb3.mono hbw2.size)
        have hS2 : w3.cell? ⟨w.heap.size, 0, none⟩ = some (.int .i64 19) ∧ w3.cell? ⟨w.heap.size, 1, none⟩ = some (.string x) ∧ w3.cell? ⟨w.heap.size, 2, none⟩ = some (.int .i64 m) ∧ w3.cell? ⟨w.heap.size, 3, none⟩ = some (.slice (some ⟨g, o, none⟩) ks.length c) ∧ w3.cell? ⟨g, o + j * 4, none⟩ = some (.int .i64 kd) ∧ w3.cell? ⟨g, o + j * 4 + 1, none⟩ = some (.string xx) ∧ w3.cell? ⟨g, o + j * 4 + 2, none⟩ = some (.int .i64 mm) ∧ w3.cell? ⟨g, o + j * 4 + 3, none⟩ = some (.slice aa nn cc) := by
          obtain ⟨y0, y1, y2, y3, z0, z1, z2, z3⟩ := hS
          have hwW : w.heap.size < w2.heap.size := by have := hb2.size; omega
          have hgl2 : g < w2.heap.size := Nat.lt_of_lt_of_le hgl hb2.size
          exact ⟨(hb3.cell (p := ⟨w.heap.size, 0, none⟩) hwW).trans y0, (hb3.cell (p := ⟨w.heap.size, 1, none⟩) hwW).trans y1, (hb3.cell (p := ⟨w.heap.size, 2, none⟩) hwW).trans y2, (hb3.cell (p := ⟨w.heap.size, 3, none⟩) hwW).trans y3, (hb3.cell (p := ⟨g, o + j * 4, none⟩) hgl2).trans z0, (hb3.cell (p := ⟨g, o + j * 4 + 1, none⟩) hgl2).trans z1, (hb3.cell (p := ⟨g, o + j * 4 + 2, none⟩) hgl2).trans z2, (hb3.cell (p := ⟨g, o + j * 4 + 3, none⟩) hgl2).trans z3⟩
        refine hK.out _ _ hS2 (fun _ => ?_)
        clear hK KK hS
        have hS := hS2
        clear hS2
        cases bi with
        | false =>
          have HE : Hid (V = false) := by show _ = _; rw [← HV.out]; rfl
          refine ord.tkd (i := 17) (v := .bool true) rfl rfl (by kernel_rfl) (by kernel_rfl) (by kernel_rfl) (fun _ _ _ h => h) (Or.inl ⟨by rfl, fun wq hSw => by obtain ⟨y0, y1, y2, y3, z0, z1, z2, z3⟩ := hSw; go_simp⟩) hS ?_
          simp only [List.setIfInBounds_toArray, List.set_cons_zero, List.set_cons_succ]
          refine ord.tkd (i := 18) (v := .bool true) rfl rfl (by kernel_rfl) (by kernel_rfl) (by kernel_rfl) (fun _ _ _ h => h) (Or.inl ⟨by rfl, fun wq hSw => by obtain ⟨y0, y1, y2, y3, z0, z1, z2, z3⟩ := hSw; go_simp⟩) hS ?_
          simp only [List.setIfInBounds_toArray, List.set_cons_zero, List.set_cons_succ]
          refine wpAnyH_done (by kernel_rfl) ?_ _
          clear hS
          go_wp2
          go_ret
          exact ⟨by rw [HT.out, HH.out, HE.out]; rfl, hbw3⟩
        | true =>
          have HV2 : Hid (isL 19 ks.length (j + 1) kd (ks.drop (j + 1)) = V) := by show _ = _; rw [← HV.out]; rfl
          refine ord.tkd (i := 17) (v := .bool false) rfl rfl (by kernel_rfl) (by kernel_rfl) (by kernel_rfl) (fun _ _ _ h => h) (Or.inl ⟨by rfl, fun wq hSw => by obtain ⟨y0, y1, y2, y3, z0, z1, z2, z3⟩ := hSw; go_simp⟩) hS ?_
          simp only [List.setIfInBounds_toArray, List.set_cons_zero, List.set_cons_succ]
          refine ord.tkd (i := 18) (v := .bool false) rfl rfl (by kernel_rfl) (by kernel_rfl) (by kernel_rfl) (fun _ _ _ h => h) (Or.inl ⟨by rfl, fun wq hSw => by obtain ⟨y0, y1, y2, y3, z0, z1, z2, z3⟩ := hSw; go_simp⟩) hS ?_
          simp only [List.setIfInBounds_toArray, List.set_cons_zero, List.set_cons_succ]
          refine wpAnyH_done (by kernel_rfl) ?_ _
          clear hS
          go_wp2
          go_roundw
          case rel => exact ⟨j + 1, kd, by omega, by go_num, HP2.out, HV2.out, hbD3⟩
          case measure => simp [intOf]; omega
    · have HE : Hid (V = true) := by
        show _ = _
        rw [← HV.out, List.drop_eq_nil_of_le (by omega)]
        unfold isL
        rfl
      have hbz := (one_box hbr).2.2.2.2.2
      obtain ⟨q0, q1, q2, q3, hsz, -⟩ := one_box hbr
      clear hp HV
      go_wp2
      go_ret
      exact ⟨by rw [HT.out, HH.out, HE.out]; rfl, hbz⟩
set_option maxHeartbeats 4000000 in
theorem rIsP (t : Tree) (va : Value) (w : World) (ha : Lies (· < w.heap.size) w t va) (hs : ShT 4611686018427387904 t) :
    Calls Tryz.prog 14 #[va] w fun e w' => e = .returned (.bool (isT t)) ∧ Below w.heap.size w w' := by
  have c24 : Tryz.prog.cellsOf 24 = 4 := by kernel_rfl
  match t with
  | .node k x m ks =>
    have ih : ∀ i (hi : i < ks.length) (va : Value) (w : World), Lies (· < w.heap.size) w ks[i] va → ShT 4611686018427387904 ks[i] → Calls Tryz.prog 14 #[va] w fun e w' => e = .returned (.bool (isT ks[i])) ∧ Below w.heap.size w w' :=
      fun i hi va w h1 h2 => rIsP ks[i] va w h1 h2
    unfold ShT at hs
    obtain ⟨hx, hsk⟩ := hs
    have HSK : Hid (∀ i (hi : i < ks.length), ShT 4611686018427387904 ks[i]) := fun i hi => sh_kid hsk (List.getElem_mem hi)
    clear hsk
    have ha2 := ha
    unfold Lies at ha2
    obtain ⟨a, c, rfl, -, -⟩ := ha2
    have HE := fun (hk : 1 ≤ k ∧ k ≤ 21) (h19 : ¬ k = 19) (d2 : decide (0 ≤ cntsM k) = false) (hA : lookA k x ks.length = true) (hN : lookN k m = true) => isLoopE w ih ha hx HSK hk h19 d2 hA hN
    have HF := fun (hk : 1 ≤ k ∧ k ≤ 21) (h19 : ¬ k = 19) (d2 : decide (0 ≤ cntsM k) = true) (hA : lookA k x ks.length = true) (hN : lookN k m = true) => isLoopF w ih ha hx HSK hk h19 d2 hA hN
    have HG := fun (h19 : k = 19) => show (decide (0 ≤ cntsM k) = true → lookA k x ks.length = true → lookN k m = true → Calls Tryz.prog 14 #[.agg #[.int .i64 k, .string x, .int .i64 m, .slice a ks.length c]] w fun e w' => e = .returned (.bool (isT (.node k x m ks))) ∧ Below w.heap.size w w') from by
      subst h19
      exact fun d2 hA hN => isLoopG w ih ha hx HSK d2 hA hN
    have h19c : k = 19 → cntsM k = 2 := fun e => by subst e; rfl
    replace HE := (show Hid _ from HE)
    replace HF := (show Hid _ from HF)
    replace HG := (show Hid _ from HG)
    replace h19c := (show Hid _ from h19c)
    clear ih ha HSK
    have hB1 := (Below.refl w.heap.size w).alloc (Nat.le_refl _) (.cells #[.int .i64 k, .string x, .int .i64 m, .slice a ks.length c] 24)
    have hC := rCounts k (w.alloc (.cells #[.int .i64 k, .string x, .int .i64 m, .slice a ks.length c] 24))
    unfold CountsE at hC
    have HT := (show Hid _ from isT_node k m x ks)
    by_cases hk : 1 ≤ k ∧ k ≤ 21
    case neg =>
      simp only [if_neg hk] at hC
      have HN : Hid (isT (.node k x m ks) = false) := by
        show _ = _
        rw [HT.out]
        unfold headR
        rw [decide_eq_false hk]
        rfl
      go_enter Tryz.func14, Tryz.ntmps14
      go_wp2_with (go_at_call 32; refine hC.mono ?_; rintro e w1 ⟨rfl, rfl⟩)
      go_ret
      exact ⟨by rw [HN.out]; rfl, hB1⟩
    simp only [if_pos hk] at hC
    have hhead := (show Hid _ from head_split (k := k) (m := m) (x := x) (n := ks.length) hk)
    have hcl := shape_class k
    have hX := fun W => rTexts x _ hcl W hx
    have hdA : Hid (lookA k x ks.length = (!decide ((ks.length : Int) < (shapeF k).2.2.2.1) && !(decide (0 ≤ cntsM k) && decide (cntsM k < (ks.length : Int))) && textsR x (shapeF k).1)) := rfl
    have hdN : Hid (lookN k m = if k = 19 then decide (1 ≤ m ∧ m ≤ 9) else !(decide (m < 0) || decide (cntsN k < m))) := rfl
    generalize (shapeF k).2.2.2.1 = cL at *
    generalize cntsM k = cM at *
    generalize cntsN k = cN at *
    generalize (shapeF k).1 = cC at *
    clear hcl
    have hNo : ∀ _ : lookA k x ks.length = false ∨ lookN k m = false, isT (.node k x m ks) = false := fun h => by
      rw [HT.out, hhead.out]
      rcases h with h | h <;> rw [h] <;> simp
    replace hNo := (show Hid _ from hNo)
    cases d1 : decide ((ks.length : Int) < cL)
    case true =>
      have HN : Hid (isT (.node k x m ks) = false) := hNo.out (.inl (by rw [hdA.out, d1]; rfl))
      go_enter Tryz.func14, Tryz.ntmps14
      go_wp2_with (go_at_call 32; refine hC.mono ?_; rintro e w1 ⟨rfl, rfl⟩)
      go_ret
      exact ⟨by rw [HN.out]; rfl, hB1⟩
    cases d2 : decide (0 ≤ cM)
    case false =>
      have hXx := hX (w.alloc (.cells #[.int .i64 k, .string x, .int .i64 m, .slice a ks.length c] 24))
      cases dT : textsR x cC
      case false =>
        rw [dT] at hXx
        have HN : Hid (isT (.node k x m ks) = false) := hNo.out (.inl (by rw [hdA.out, dT]; simp))
        go_enter Tryz.func14, Tryz.ntmps14
        go_wp2_with first
          | (go_at_call 32; refine hC.mono ?_; rintro e w1 ⟨rfl, rfl⟩)
          | (go_at_call 33; refine hXx.mono ?_; rintro e w2 ⟨rfl, hb2⟩; have hbb : Below (w.heap.size + 1) (w.alloc (.cells #[.int .i64 k, .string x, .int .i64 m, .slice a ks.length c] 24)) w2 := hb2.mono (by simp); obtain ⟨q0, q1, q2, q3, hsz, hbz⟩ := one_box hbb)
        go_ret
        exact ⟨by rw [HN.out]; rfl, hbz⟩
      rw [dT] at hXx
      have hA : lookA k x ks.length = true := by rw [hdA.out, d1, dT]; rw [d2]; rfl
      have h19 : ¬ k = 19 := fun e => by
        rw [h19c.out e] at d2
        cases d2
      have hN19 : lookN k m = !(decide (m < 0) || decide (cN < m)) := by rw [hdN.out, if_neg h19]
      have k19 : (k == 19) = false := by simpa using h19
      cases m1 : decide (m < 0)
      case true =>
        have HN : Hid (isT (.node k x m ks) = false) := hNo.out (.inr (by rw [hN19, m1]; rfl))
        go_enter Tryz.func14, Tryz.ntmps14
        go_wp2_with first
          | (go_at_call 32; refine hC.mono ?_; rintro e w1 ⟨rfl, rfl⟩)
          | (go_at_call 33; refine hXx.mono ?_; rintro e w2 ⟨rfl, hb2⟩; have hbb : Below (w.heap.size + 1) (w.alloc (.cells #[.int .i64 k, .string x, .int .i64 m, .slice a ks.length c] 24)) w2 := hb2.mono (by simp); obtain ⟨q0, q1, q2, q3, hsz, hbz⟩ := one_box hbb)
        go_ret
        exact ⟨by rw [HN.out]; rfl, hbz⟩
      cases m2 : decide (cN < m)
      case true =>
        have HN : Hid (isT (.node k x m ks) = false) := hNo.out (.inr (by rw [hN19, m1, m2]; rfl))
        go_enter Tryz.func14, Tryz.ntmps14
        go_wp2_with first
          | (go_at_call 32; refine hC.mono ?_; rintro e w1 ⟨rfl, rfl⟩)
          | (go_at_call 33; refine hXx.mono ?_; rintro e w2 ⟨rfl, hb2⟩; have hbb : Below (w.heap.size + 1) (w.alloc (.cells #[.int .i64 k, .string x, .int .i64 m, .slice a ks.length c] 24)) w2 := hb2.mono (by simp); obtain ⟨q0, q1, q2, q3, hsz, hbz⟩ := one_box hbb)
        go_ret
        exact ⟨by rw [HN.out]; rfl, hbz⟩
      exact HE.out hk h19 d2 hA (by rw [hN19, m1, m2]; rfl)
    case true =>
      cases d3 : decide (cM < (ks.length : Int))
      case true =>
        have HN : Hid (isT (.node k x m ks) = false) := hNo.out (.inl (by rw [hdA.out, d1, d2, d3]; rfl))
        go_enter Tryz.func14, Tryz.ntmps14
        go_wp2_with (go_at_call 32; refine hC.mono ?_; rintro e w1 ⟨rfl, rfl⟩)
        go_ret
        exact ⟨by rw [HN.out]; rfl, hB1⟩
      case false =>
        have hXx := hX (w.alloc (.cells #[.int .i64 k, .string x, .int .i64 m, .slice a ks.length c] 24))
        cases dT : textsR x cC
        case false =>
          rw [dT] at hXx
          have HN : Hid (isT (.node k x m ks) = false) := hNo.out (.inl (by rw [hdA.out, dT]; simp))
          go_enter Tryz.func14, Tryz.ntmps14
          go_wp2_with first
            | (go_at_call 32; refine hC.mono ?_; rintro e w1 ⟨rfl, rfl⟩)
            | (go_at_call 33; refine hXx.mono ?_; rintro e w2 ⟨rfl, hb2⟩; have hbb : Below (w.heap.size + 1) (w.alloc (.cells #[.int .i64 k, .string x, .int .i64 m, .slice a ks.length c] 24)) w2 := hb2.mono (by simp); obtain ⟨q0, q1, q2, q3, hsz, hbz⟩ := one_box hbb)
          go_ret
          exact ⟨by rw [HN.out]; rfl, hbz⟩
        rw [dT] at hXx
        have hA : lookA k x ks.length = true := by rw [hdA.out, d1, dT]; rw [d2, d3]; rfl
        by_cases h19 : k = 19
        · by_cases h9 : 1 ≤ m ∧ m ≤ 9
          · exact HG.out h19 d2 hA (by rw [hdN.out, if_pos h19, decide_eq_true h9])
          · have HN : Hid (isT (.node k x m ks) = false) := hNo.out (.inr (by rw [hdN.out, if_pos h19, decide_eq_false h9]))
            have hG := rSignOf m
            have e1 : sgnS m = (⟨#[]⟩ : ByteArray) := by unfold sgnS; rw [if_neg h9]; rfl
            rw [e1] at hG
            have k19 : (k == 19) = true := by simpa using h19
            clear h19 h9 HE HF HG
            go_enter Tryz.func14, Tryz.ntmps14
            go_wp2_with first
              | (go_at_call 32; refine hC.mono ?_; rintro e w1 ⟨rfl, rfl⟩)
              | (go_at_call 33; refine hXx.mono ?_; rintro e w2 ⟨rfl, hb2⟩; have hbb : Below (w.heap.size + 1) (w.alloc (.cells #[.int .i64 k, .string x, .int .i64 m, .slice a ks.length c] 24)) w2 := hb2.mono (by simp); obtain ⟨q0, q1, q2, q3, hsz, hbz⟩ := one_box hbb)
              | (go_at_call 34; refine (hG _).mono ?_; rintro e w3 ⟨rfl, hb3⟩; have hbz3 := hbz.trans (hb3.mono hbz.size))
            go_ret
            exact ⟨by rw [HN.out]; rfl, hbz3⟩
        have hN19 : lookN k m = !(decide (m < 0) || decide (cN < m)) := by rw [hdN.out, if_neg h19]
        have k19 : (k == 19) = false := by simpa using h19
        cases m1 : decide (m < 0)
        case true =>
          have HN : Hid (isT (.node k x m ks) = false) := hNo.out (.inr (by rw [hN19, m1]; rfl))
          go_enter Tryz.func14, Tryz.ntmps14
          go_wp2_with first
            | (go_at_call 32; refine hC.mono ?_; rintro e w1 ⟨rfl, rfl⟩)
            | (go_at_call 33; refine hXx.mono ?_; rintro e w2 ⟨rfl, hb2⟩; have hbb : Below (w.heap.size + 1) (w.alloc (.cells #[.int .i64 k, .string x, .int .i64 m, .slice a ks.length c] 24)) w2 := hb2.mono (by simp); obtain ⟨q0, q1, q2, q3, hsz, hbz⟩ := one_box hbb)
          go_ret
          exact ⟨by rw [HN.out]; rfl, hbz⟩
        cases m2 : decide (cN < m)
        case true =>
          have HN : Hid (isT (.node k x m ks) = false) := hNo.out (.inr (by rw [hN19, m1, m2]; rfl))
          go_enter Tryz.func14, Tryz.ntmps14
          go_wp2_with first
            | (go_at_call 32; refine hC.mono ?_; rintro e w1 ⟨rfl, rfl⟩)
            | (go_at_call 33; refine hXx.mono ?_; rintro e w2 ⟨rfl, hb2⟩; have hbb : Below (w.heap.size + 1) (w.alloc (.cells #[.int .i64 k, .string x, .int .i64 m, .slice a ks.length c] 24)) w2 := hb2.mono (by simp); obtain ⟨q0, q1, q2, q3, hsz, hbz⟩ := one_box hbb)
          go_ret
          exact ⟨by rw [HN.out]; rfl, hbz⟩
        exact HF.out hk h19 d2 hA (by rw [hN19, m1, m2]; rfl)
termination_by SizeOf.sizeOf t
decreasing_by exact kid_lt hi
end pr
end Go.Proofs.YtkoomoemkffjkaaGreatDoor
