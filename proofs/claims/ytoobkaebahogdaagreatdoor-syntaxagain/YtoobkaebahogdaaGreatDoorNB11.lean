/- What the program's choice answers, once those that it calls do: a contract; and all that read statements. -/
import Derived.Test.YtoobkaebahogdaaGreatDoorNB10
set_option linter.unusedVariables false
set_option linter.unusedSimpArgs false
set_option maxRecDepth 100000
namespace Go.Proofs.YtoobkaebahogdaaGreatDoor
namespace syn
open Go.RowKit
open Go.Proofs.YtoobkaebahogdaaGreatDoor.lexs (Tok Fine own_shape)

section
variable {w w' w0 : World} {r G B : Nat} {ts : List Tok} {s : St}
set_option maxHeartbeats 4000000 in
theorem ochoice {f : Nat} (ihA : Gives r G ts 234 (askedF ts f)) (ihB : Gives r G ts 189 (blockF ts f)) : Gives r G ts 233 (choiceF ts f) := by
  intro w s q hL hq
  have c24 : Tryz.prog.cellsOf 24 = 4 := by kernel_rfl
  have hr := hL.lt
  obtain ⟨i0, hi, hz0, hz1', hz2⟩ := info_parts nodeInfo
  have hB0 := Box4.new w (.int .i64 0) (.string empty) (.int .i64 0) (.slice none 0 0) 24
  unfold choiceF at hq
  obtain ⟨q1, h1, h2⟩ := bind_some_is hq
  obtain ⟨q2, h3, h4⟩ := bind_some_is h2
  clear hq h2
  have hT : Hid (q2.2.bad = true → q.2 = q2.2) := fun hb => by
    rw [eqS_bad (by decide) hb, if_neg (by decide)] at h4
    simp only [Option.some.injEq] at h4
    rw [← h4]
  have S1 : Hid (q1.2.bad = true → q.2 = q1.2) := fun hb => by
    have e1 := (stuck2 ts f).bk _ _ hb h3
    rw [hT.out (by rw [e1]; exact hb), e1]
  have HQ : Hid ((if eqS (txt ts q2.2) ⟨#[101, 108, 115, 101]⟩ then (blockF ts f q2.2.next).bind fun c => some (.node 10 empty 0 [q1.1, q2.1, c.1], c.2) else some (.node 10 empty 0 [q1.1, q2.1], q2.2)) = some q) := h4
  clear h4
  go_enter Tryz.func233, Tryz.ntmps233
  go_wp2_with (fail)
  refine (ihA (hL.alloc _) h1).mono ?_
  rintro e w2 (⟨hb2, rfl, hF2⟩ | ⟨hb2, v2, rfl, hl2, hL2, hF2⟩)
  · go_wp2
    exact ⟨rfl, OAns.lost (S1.out hb2) hb2 ((Fr.al _ _).trans hF2)⟩
  obtain ⟨k, x, m, _, rfl, a, n, c, rfl⟩ := hl2.shape
  go_wp2_with (fail)
  refine (ihB hL2 h3).mono ?_
  rintro e w3 (⟨hb3, rfl, hF3⟩ | ⟨hb3, v3, rfl, hl3, hL3, hF3⟩)
  · go_wp2
    exact ⟨rfl, OAns.lost (hT.out hb3) hb3 (((Fr.al _ _).trans hF2).trans hF3)⟩
  obtain ⟨k3, x3, m3, _, rfl, a3, n3, c3, rfl⟩ := hl3.shape
  have z2 := hF2.size
  have z3 := hF3.size
  rw [World.size_alloc] at z2 hl2
  have hFw : Fr r w w3 := ((Fr.al _ _).trans hF2).trans hF3
  have hb0 := (hB0.fr hF2 (by omega)).fr hF3 (by omega)
  have m3' : Lies (fun b => w.heap.size < b ∧ b < w3.heap.size) w3 q2.1 (.agg #[.int .i64 k3, .string x3, .int .i64 m3, .slice a3 n3 c3]) := hl3.to (fun b hb => ⟨by omega, hb.2⟩) (fun _ _ _ => rfl)
  have n3' : Lies (fun b => w.heap.size < b ∧ b < w3.heap.size) w3 q1.1 (.agg #[.int .i64 k, .string x, .int .i64 m, .slice a n c]) := hl2.frP (x := r) hF3 (fun b hb => ⟨hb.2, by omega⟩) (fun b hb => ⟨by omega, by omega⟩)
  cases he : eqS (txt ts q2.2) ⟨#[101, 108, 115, 101]⟩
  case false =>
    have hq2 := HQ.out
    rw [he, if_neg (by decide)] at hq2
    simp only [Option.some.injEq] at hq2
    subst hq2
    have hrow := n3'.rowed2P (T := 24) (k := 10) (x := empty) (m := 0) (c := 2) (Q := fun b => w.heap.size < b ∧ b < (w3.alloc (.cells #[.int .i64 k, .string x, .int .i64 m, .slice a n c, .int .i64 k3, .string x3, .int .i64 m3, .slice a3 n3 c3] 24)).heap.size) m3' (fun b hb => hb.2) (fun b hb => ⟨hb.1, by rw [World.size_alloc]; omega⟩) rfl ⟨by omega, by rw [World.size_alloc]; omega⟩
    go_wp2_with (fail)
    refine (skip_no ((hL3.alloc _).alloc _) ⟨#[101, 108, 115, 101]⟩ (by decide) he (by simp)).mono ?_
    rintro e w4 ⟨rfl, hL4, hF4⟩
    obtain ⟨f0, f1, f2, f3, o0, o1, o2, o3⟩ := ((hb0.alloc _).alloc _).fr hF4 (by omega)
    obtain ⟨p0, p1, p2, p3, _, _, _, _⟩ := (Box4.new (w3.alloc (.cells #[.int .i64 k, .string x, .int .i64 m, .slice a n c, .int .i64 k3, .string x3, .int .i64 m3, .slice a3 n3 c3] 24)) (.int .i64 10) (.string empty) (.int .i64 0) (.slice (some ⟨w3.heap.size, 0, none⟩) 2 2) 24).fr hF4 (by simp <;> omega)
    simp only [World.size_alloc] at p0 p1 p2 p3
    go_wp2
    exact bodyPost_ret (v := .agg #[.int .i64 10, .string empty, .int .i64 0, .slice (some ⟨w3.heap.size, 0, none⟩) 2 2]) (by simp [results, Tryz.results233, go_sem, f0, f1, f2, f3]) rfl
      (OAns.fin hr (hFw.trans (((Fr.al _ _).trans (Fr.al _ _)).trans hF4)) hL4 (Nat.le_refl _) (Nat.lt_succ_self _) (hrow.frP (x := r) ((Fr.al _ _).trans hF4) (fun b hb => ⟨hb.2, by omega⟩) (fun b hb => ⟨by omega, Nat.lt_of_lt_of_le hb.2 ((Fr.al (r := r) _ _).trans hF4).size⟩)))
  case true =>
    have hq2 := HQ.out
    rw [he, if_pos rfl] at hq2
    obtain ⟨q3, h5, h6⟩ := bind_some_is hq2
    simp only [Option.some.injEq] at h6
    subst h6
    clear hq2 HQ hT S1
    go_wp2_with (fail)
    refine (skip_yes ((hL3.alloc _).alloc _) ⟨#[101, 108, 115, 101]⟩ (by decide) he (by simp)).mono ?_
    rintro e w4 ⟨rfl, hL4, hF4⟩
    have hF34 : Fr r w3 w4 := ((Fr.al _ _).trans (Fr.al _ _)).trans hF4
    have hFw4 : Fr r w w4 := hFw.trans hF34
    have z4 := hF4.size
    simp only [World.size_alloc] at z4
    have hb34 := (Box4.new (w3.alloc (.cells #[.int .i64 k, .string x, .int .i64 m, .slice a n c, .int .i64 k3, .string x3, .int .i64 m3, .slice a3 n3 c3] 24)) (.int .i64 10) (.string empty) (.int .i64 0) (.slice (some ⟨w3.heap.size, 0, none⟩) 2 2) 24).fr hF4 (by simp <;> omega)
    rw [World.size_alloc] at hb34
    have hb04 := ((hb0.alloc _).alloc _).fr hF4 (by omega)
    have ho4 := ((World.ownsRow_lit (e := 24) (size := 4) w3 #[.int .i64 k, .string x, .int .i64 m, .slice a n c, .int .i64 k3, .string x3, .int .i64 m3, .slice a3 n3 c3] 2 (base := w.heap.size + 1) (by omega) (by decide) rfl).alloc (.cells #[.int .i64 10, .string empty, .int .i64 0, .slice (some ⟨w3.heap.size, 0, none⟩) 2 2] 24)).kept hF4 (.inr (by simp [Value.ownBlock]; omega))
    have A14 := n3'.frP (x := r) (Q := fun b => w.heap.size < b ∧ b < w4.heap.size ∧ b ≠ w3.heap.size ∧ b ≠ w3.heap.size + 1) hF34 (fun b hb => ⟨hb.2, by omega⟩) (fun b hb => ⟨hb.1, by omega, by omega, by omega⟩)
    have A24 := m3'.frP (x := r) (Q := fun b => w.heap.size < b ∧ b < w4.heap.size ∧ b ≠ w3.heap.size ∧ b ≠ w3.heap.size + 1) hF34 (fun b hb => ⟨hb.2, by omega⟩) (fun b hb => ⟨hb.1, by omega, by omega, by omega⟩)
    obtain ⟨p0, p1, p2, p3, _, _, _, _⟩ := id hb34
    by_cases hbq : q3.2.bad = true
    · go_wp2
      refine wp_region_any (by kernel_rfl) ?_
      change wpAny _ _ _ _ _ _ _ (World.drew _)
      refine wpAny_take (i := 0) (v := .pointer (some ⟨w3.heap.size + 1, 3, none⟩)) rfl (by kernel_rfl) (by kernel_rfl) (by kernel_rfl) (fun _ _ _ h => h) (Or.inl ⟨by rfl, fun w => by go_simp⟩) ?_
      refine wpAny_take (i := 2) (v := .pointer (some ⟨r, 0, none⟩)) rfl (by kernel_rfl) (by kernel_rfl) (by kernel_rfl) (fun _ _ _ h => h) (Or.inl ⟨by rfl, fun w => by go_simp⟩) ?_
      refine wpAny_ready (rs := [1, 3]) (by kernel_rfl) (by simp) ?_
      refine AllReady.cons rfl (fun K hK => ?_) ?_
      · go_simp
        refine hK _ _ ?_
        clear hK K
        refine wpAny_ready (rs := [3]) (by kernel_rfl) (by simp) ?_
        refine AllReady.cons rfl (fun K hK => ?_) AllReady.nil
        go_simp
        go_at_call 189
        refine (ihB.lost (hL4.drewN 1) h5 hbq).mono ?_
        rintro e w5 ⟨rfl, hF5⟩
        go_wp2
        exact ⟨rfl, OAns.lost rfl hbq ((hFw4.drewN 1).trans hF5)⟩
      refine AllReady.cons rfl (fun K hK => ?_) AllReady.nil
      go_simp
      go_at_call 189
      refine (ihB.lost (hL4.drewN 1) h5 hbq).mono ?_
      rintro e w5 ⟨rfl, hF5⟩
      go_wp2
      exact ⟨rfl, OAns.lost rfl hbq ((hFw4.drewN 1).trans hF5)⟩
    · have hbq' : q3.2.bad = false := by simpa using hbq
      go_wp2
      refine wp_region_any (by kernel_rfl) ?_
      change wpAny _ _ _ _ _ _ _ (World.drew _)
      refine wpAny_take (i := 0) (v := .pointer (some ⟨w3.heap.size + 1, 3, none⟩)) rfl (by kernel_rfl) (by kernel_rfl) (by kernel_rfl) (fun _ _ _ h => h) (Or.inl ⟨by rfl, fun w => by go_simp⟩) ?_
      refine wpAny_take (i := 2) (v := .pointer (some ⟨r, 0, none⟩)) rfl (by kernel_rfl) (by kernel_rfl) (by kernel_rfl) (fun _ _ _ h => h) (Or.inl ⟨by rfl, fun w => by go_simp⟩) ?_
      refine wpAny_ready (rs := [1, 3]) (by kernel_rfl) (by simp) ?_
      refine AllReady.cons rfl (fun K hK => ?_) ?_
      · go_simp
        refine hK _ _ ?_
        clear hK K
        refine wpAny_ready (rs := [3]) (by kernel_rfl) (by simp) ?_
        refine AllReady.cons rfl (fun K hK => ?_) AllReady.nil
        go_simp
        go_at_call 189
        refine (ihB.fine (hL4.drewN 1) h5 hbq').mono ?_
        rintro e w5 ⟨v5, rfl, hl5, hL5, hF5⟩
        obtain ⟨k5, x5, m5, _, rfl, a5, n5, c5, rfl⟩ := hl5.shape
        have hF45 : Fr r w4 w5 := ((Fr.refl r w4).drewN 1).trans hF5
        have z5 := hF45.size
        have hb35 := hb34.fr hF45 (by omega)
        have hb05 := hb04.fr hF45 (by omega)
        have ho5 := ho4.kept hF45 (.inr (by simp [Value.ownBlock]; omega))
        obtain ⟨g0, g1, g2, g3, _, _, _, _⟩ := id hb35
        have z5' : w3.heap.size + 1 < w5.heap.size := hb35.lt
        have z5'' : w.heap.size < w5.heap.size := hb05.lt
        have A1 : Hid (Lies (fun b => w.heap.size < b ∧ b < w5.heap.size ∧ b ≠ w3.heap.size ∧ b ≠ w3.heap.size + 1) w5 q1.1 (.agg #[.int .i64 k, .string x, .int .i64 m, .slice a n c])) := A14.frP (x := r) hF45 (fun b hb => ⟨hb.2.1, by omega⟩) (fun b hb => ⟨hb.1, by omega, hb.2.2.1, hb.2.2.2⟩)
        have A2 : Hid (Lies (fun b => w.heap.size < b ∧ b < w5.heap.size ∧ b ≠ w3.heap.size ∧ b ≠ w3.heap.size + 1) w5 q2.1 (.agg #[.int .i64 k3, .string x3, .int .i64 m3, .slice a3 n3 c3])) := A24.frP (x := r) hF45 (fun b hb => ⟨hb.2.1, by omega⟩) (fun b hb => ⟨hb.1, by omega, hb.2.2.1, hb.2.2.2⟩)
        have A3 : Hid (Lies (fun b => w.heap.size < b ∧ b < w5.heap.size ∧ b ≠ w3.heap.size ∧ b ≠ w3.heap.size + 1) w5 q3.1 (.agg #[.int .i64 k5, .string x5, .int .i64 m5, .slice a5 n5 c5])) := hl5.to (fun b hb => by
          have h1 : w4.heap.size ≤ b := hb.1
          exact ⟨by omega, hb.2, by omega, by omega⟩) (fun _ _ _ => rfl)
        go_wp2
        refine wpAny_ready (rs := [4]) (by kernel_rfl) (by simp) ?_
        refine AllReady.cons rfl (fun K hK => ?_) AllReady.nil
        go_simp
        refine hK _ _ ?_
        clear hK K
        refine wpAny_ready (rs := [5]) (by kernel_rfl) (by simp) ?_
        refine AllReady.cons rfl (fun K hK => ?_) AllReady.nil
        refine step_append_lies _ (by rfl) (.tmp 14) (.tmp 17) 22 (by rfl) (w.heap.size + 1) 24 i0 (.agg #[.int .i64 0, .string ⟨#[]⟩, .int .i64 0, .slice none 0 0]) 4 56 Tryz.underlying22 hi hz0 hz1' hz2 rfl (by decide) (.slice (some ⟨w3.heap.size, 0, none⟩) 2 2) 2 [.int .i64 k, .string x, .int .i64 m, .slice a n c, .int .i64 k3, .string x3, .int .i64 m3, .slice a3 n3 c3] rfl (ho5.alloc _) ⟨w5.heap.size, 0, none⟩ 1 1 [.int .i64 k5, .string x5, .int .i64 m5, .slice a5 n5 c5] rfl rfl (cells4_new _ _ _ _ _ _ _ rfl) (by intro u hu; simp at hu; rcases hu with rfl | rfl | rfl | rfl <;> rfl) (by omega) (by unfold maxLen; omega) (by omega) (by simp; omega) (w5.heap.size + 1) (by simp) ?_
        intro g cap w6 hown' hgrow hat hlt
        refine hK _ _ ?_
        clear hK K
        have hG : w5.grownBy w6 (some w3.heap.size) := grown_trans (World.grownBy_alloc w5 _ _) hgrow
        have z6 := hG.size
        have hb36 := (hb35.alloc (.cells #[.int .i64 k5, .string x5, .int .i64 m5, .slice a5 n5 c5] 24)).grown hgrow (by simp [Value.ownBlock])
        have hb06 := (hb05.alloc (.cells #[.int .i64 k5, .string x5, .int .i64 m5, .slice a5 n5 c5] 24)).grown hgrow (by simp [Value.ownBlock]; omega)
        obtain ⟨e0, e1, e2, e3, d0, d1, d2, d3⟩ := id hb36
        obtain ⟨j0, j1, j2, j3, l0, l1, l2, l3⟩ := id hb06
        have hgg : w.heap.size < g ∧ g ≠ w3.heap.size + 1 := by
          rcases hat with e | e
          · have e' : w3.heap.size = g := by simpa [Value.ownBlock] using e
            omega
          · omega
        refine wpAny_ready (rs := [6]) (by kernel_rfl) (by simp) ?_
        refine AllReady.cons rfl (fun K hK => ?_) AllReady.nil
        go_simp
        refine hK _ _ ?_
        clear hK K
        refine wpAny_ready (rs := [7]) (by kernel_rfl) (by simp) ?_
        refine AllReady.cons rfl (fun K hK => ?_) AllReady.nil
        go_simp
        refine hK _ _ ?_
        clear hK K
        refine wpAny_done (by kernel_rfl) ?_ _
        go_wp2
        refine bodyPost_ret (v := .agg #[.int .i64 10, .string empty, .int .i64 0, .slice (some ⟨g, 0, none⟩) 3 cap]) (by simp [results, Tryz.results233, go_sem, j0, j1, j2, j3, empty]) rfl ?_
        have hFw6 : Fr r w w6 := ⟨hG.os.trans (hFw4.trans hF45).os, hG.tape.trans (hFw4.trans hF45).tape, hG.output.trans (hFw4.trans hF45).output, Nat.le_trans (hFw4.trans hF45).size hG.size, fun j hj hn => (hG.block j (by omega) (by simp; omega)).trans ((hFw4.trans hF45).block j hj hn)⟩
        have hL6 := hL5.keep hG (fun k e => by
          obtain rfl : w3.heap.size = k := by simpa using e
          omega)
        have hput := Fr.put (w6.setCell ⟨w3.heap.size + 1, 3, none⟩ (.slice (some ⟨g, 0, none⟩) 3 cap)) w.heap.size (.int .i64 10) (.string empty) (.int .i64 0) (.slice (some ⟨g, 0, none⟩) 3 cap)
        have hsame : ∀ b, (w.heap.size < b ∧ b < w5.heap.size ∧ b ≠ w3.heap.size ∧ b ≠ w3.heap.size + 1) → ∀ j, World.cell? _ ⟨b, j, none⟩ = w5.cell? ⟨b, j, none⟩ := fun b hb j => by
          rw [World.cell?_of_block (a := ⟨b, j, none⟩) (hput.block b (by rw [World.size_setCell]; omega) (by simp <;> omega)), World.cell?_setCell_other _ _ _ _ (by simp <;> omega)]
          exact World.cell?_of_block (a := ⟨b, j, none⟩) (hG.block b hb.2.1 (by simp; omega))
        have n1 : (Value.slice (some ⟨g, 0, none⟩) 3 cap).ownBlock ≠ some (w3.heap.size + 1) := by simp [Value.ownBlock]; omega
        have n2 : (Value.slice (some ⟨g, 0, none⟩) 3 cap).ownBlock ≠ some w.heap.size := by simp [Value.ownBlock]; omega
        have hkids : Kids (w.heap.size + 1) (fun b => w.heap.size ≤ b ∧ b < w6.heap.size) _ (.slice (some ⟨g, 0, none⟩) 3 cap) [q1.1, q2.1, q3.1] := ⟨[(.int .i64 k, .string x, .int .i64 m, .slice a n c), (.int .i64 k3, .string x3, .int .i64 m3, .slice a3 n3 c3), (.int .i64 k5, .string x5, .int .i64 m5, .slice a5 n5 c5)],
          ownsRow_setCell_other (ownsRow_setCell_other (ownsRow_setCell_other (ownsRow_setCell_other (ownsRow_setCell_other hown' n1 _) n2 _) n2 _) n2 _) n2 _,
          A1.out.to (fun b hb => ⟨by omega, by omega⟩) hsame, A2.out.to (fun b hb => ⟨by omega, by omega⟩) hsame, A3.out.to (fun b hb => ⟨by omega, by omega⟩) hsame, trivial⟩
        exact .inr ⟨hbq', _, rfl, hkids.lies (fun b hb => ⟨hb.1, by simpa using hb.2⟩) (fun g' hg' => by
          obtain rfl : g = g' := by simpa [Value.ownBlock] using hg'
          exact ⟨by omega, by simpa using hlt⟩) (by simp), (hL6.set (by omega) 3 _).put4 (by omega) _ _ _ _, (hFw6.setNew (by omega) _).put4 (Nat.le_refl _) _ _ _ _⟩
      refine AllReady.cons rfl (fun K hK => ?_) AllReady.nil
      go_simp
      go_at_call 189
      refine (ihB.fine (hL4.drewN 1) h5 hbq').mono ?_
      rintro e w5 ⟨v5, rfl, hl5, hL5, hF5⟩
      obtain ⟨k5, x5, m5, _, rfl, a5, n5, c5, rfl⟩ := hl5.shape
      have hF45 : Fr r w4 w5 := ((Fr.refl r w4).drewN 1).trans hF5
      have z5 := hF45.size
      have hb35 := hb34.fr hF45 (by omega)
      have hb05 := hb04.fr hF45 (by omega)
      have ho5 := ho4.kept hF45 (.inr (by simp [Value.ownBlock]; omega))
      obtain ⟨g0, g1, g2, g3, _, _, _, _⟩ := id hb35
      have z5' : w3.heap.size + 1 < w5.heap.size := hb35.lt
      have z5'' : w.heap.size < w5.heap.size := hb05.lt
      have A1 : Hid (Lies (fun b => w.heap.size < b ∧ b < w5.heap.size ∧ b ≠ w3.heap.size ∧ b ≠ w3.heap.size + 1) w5 q1.1 (.agg #[.int .i64 k, .string x, .int .i64 m, .slice a n c])) := A14.frP (x := r) hF45 (fun b hb => ⟨hb.2.1, by omega⟩) (fun b hb => ⟨hb.1, by omega, hb.2.2.1, hb.2.2.2⟩)
      have A2 : Hid (Lies (fun b => w.heap.size < b ∧ b < w5.heap.size ∧ b ≠ w3.heap.size ∧ b ≠ w3.heap.size + 1) w5 q2.1 (.agg #[.int .i64 k3, .string x3, .int .i64 m3, .slice a3 n3 c3])) := A24.frP (x := r) hF45 (fun b hb => ⟨hb.2.1, by omega⟩) (fun b hb => ⟨hb.1, by omega, hb.2.2.1, hb.2.2.2⟩)
      have A3 : Hid (Lies (fun b => w.heap.size < b ∧ b < w5.heap.size ∧ b ≠ w3.heap.size ∧ b ≠ w3.heap.size + 1) w5 q3.1 (.agg #[.int .i64 k5, .string x5, .int .i64 m5, .slice a5 n5 c5])) := hl5.to (fun b hb => by
        have h1 : w4.heap.size ≤ b := hb.1
        exact ⟨by omega, hb.2, by omega, by omega⟩) (fun _ _ _ => rfl)
      go_wp2
      refine wpAny_ready (rs := [1, 4]) (by kernel_rfl) (by simp) ?_
      refine AllReady.cons rfl (fun K hK => ?_) ?_
      · go_simp
        refine hK _ _ ?_
        clear hK K
        refine wpAny_ready (rs := [4]) (by kernel_rfl) (by simp) ?_
        refine AllReady.cons rfl (fun K hK => ?_) AllReady.nil
        go_simp
        refine hK _ _ ?_
        clear hK K
        refine wpAny_ready (rs := [5]) (by kernel_rfl) (by simp) ?_
        refine AllReady.cons rfl (fun K hK => ?_) AllReady.nil
        refine step_append_lies _ (by rfl) (.tmp 14) (.tmp 17) 22 (by rfl) (w.heap.size + 1) 24 i0 (.agg #[.int .i64 0, .string ⟨#[]⟩, .int .i64 0, .slice none 0 0]) 4 56 Tryz.underlying22 hi hz0 hz1' hz2 rfl (by decide) (.slice (some ⟨w3.heap.size, 0, none⟩) 2 2) 2 [.int .i64 k, .string x, .int .i64 m, .slice a n c, .int .i64 k3, .string x3, .int .i64 m3, .slice a3 n3 c3] rfl (ho5.alloc _) ⟨w5.heap.size, 0, none⟩ 1 1 [.int .i64 k5, .string x5, .int .i64 m5, .slice a5 n5 c5] rfl rfl (cells4_new _ _ _ _ _ _ _ rfl) (by intro u hu; simp at hu; rcases hu with rfl | rfl | rfl | rfl <;> rfl) (by omega) (by unfold maxLen; omega) (by omega) (by simp; omega) (w5.heap.size + 1) (by simp) ?_
        intro g cap w6 hown' hgrow hat hlt
        refine hK _ _ ?_
        clear hK K
        have hG : w5.grownBy w6 (some w3.heap.size) := grown_trans (World.grownBy_alloc w5 _ _) hgrow
        have z6 := hG.size
        have hb36 := (hb35.alloc (.cells #[.int .i64 k5, .string x5, .int .i64 m5, .slice a5 n5 c5] 24)).grown hgrow (by simp [Value.ownBlock])
        have hb06 := (hb05.alloc (.cells #[.int .i64 k5, .string x5, .int .i64 m5, .slice a5 n5 c5] 24)).grown hgrow (by simp [Value.ownBlock]; omega)
        obtain ⟨e0, e1, e2, e3, d0, d1, d2, d3⟩ := id hb36
        obtain ⟨j0, j1, j2, j3, l0, l1, l2, l3⟩ := id hb06
        have hgg : w.heap.size < g ∧ g ≠ w3.heap.size + 1 := by
          rcases hat with e | e
          · have e' : w3.heap.size = g := by simpa [Value.ownBlock] using e
            omega
          · omega
        refine wpAny_ready (rs := [6]) (by kernel_rfl) (by simp) ?_
        refine AllReady.cons rfl (fun K hK => ?_) AllReady.nil
        go_simp
        refine hK _ _ ?_
        clear hK K
        refine wpAny_ready (rs := [7]) (by kernel_rfl) (by simp) ?_
        refine AllReady.cons rfl (fun K hK => ?_) AllReady.nil
        go_simp
        refine hK _ _ ?_
        clear hK K
        refine wpAny_done (by kernel_rfl) ?_ _
        go_wp2
        refine bodyPost_ret (v := .agg #[.int .i64 10, .string empty, .int .i64 0, .slice (some ⟨g, 0, none⟩) 3 cap]) (by simp [results, Tryz.results233, go_sem, j0, j1, j2, j3, empty]) rfl ?_
        have hFw6 : Fr r w w6 := ⟨hG.os.trans (hFw4.trans hF45).os, hG.tape.trans (hFw4.trans hF45).tape, hG.output.trans (hFw4.trans hF45).output, Nat.le_trans (hFw4.trans hF45).size hG.size, fun j hj hn => (hG.block j (by omega) (by simp; omega)).trans ((hFw4.trans hF45).block j hj hn)⟩
        have hL6 := hL5.keep hG (fun k e => by
          obtain rfl : w3.heap.size = k := by simpa using e
          omega)
        have hput := Fr.put (w6.setCell ⟨w3.heap.size + 1, 3, none⟩ (.slice (some ⟨g, 0, none⟩) 3 cap)) w.heap.size (.int .i64 10) (.string empty) (.int .i64 0) (.slice (some ⟨g, 0, none⟩) 3 cap)
        have hsame : ∀ b, (w.heap.size < b ∧ b < w5.heap.size ∧ b ≠ w3.heap.size ∧ b ≠ w3.heap.size + 1) → ∀ j, World.cell? _ ⟨b, j, none⟩ = w5.cell? ⟨b, j, none⟩ := fun b hb j => by
          rw [World.cell?_of_block (a := ⟨b, j, none⟩) (hput.block b (by rw [World.size_setCell]; omega) (by simp <;> omega)), World.cell?_setCell_other _ _ _ _ (by simp <;> omega)]
          exact World.cell?_of_block (a := ⟨b, j, none⟩) (hG.block b hb.2.1 (by simp; omega))
        have n1 : (Value.slice (some ⟨g, 0, none⟩) 3 cap).ownBlock ≠ some (w3.heap.size + 1) := by simp [Value.ownBlock]; omega
        have n2 : (Value.slice (some ⟨g, 0, none⟩) 3 cap).ownBlock ≠ some w.heap.size := by simp [Value.ownBlock]; omega
        have hkids : Kids (w.heap.size + 1) (fun b => w.heap.size ≤ b ∧ b < w6.heap.size) _ (.slice (some ⟨g, 0, none⟩) 3 cap) [q1.1, q2.1, q3.1] := ⟨[(.int .i64 k, .string x, .int .i64 m, .slice a n c), (.int .i64 k3, .string x3, .int .i64 m3, .slice a3 n3 c3), (.int .i64 k5, .string x5, .int .i64 m5, .slice a5 n5 c5)],
          ownsRow_setCell_other (ownsRow_setCell_other (ownsRow_setCell_other (ownsRow_setCell_other (ownsRow_setCell_other hown' n1 _) n2 _) n2 _) n2 _) n2 _,
          A1.out.to (fun b hb => ⟨by omega, by omega⟩) hsame, A2.out.to (fun b hb => ⟨by omega, by omega⟩) hsame, A3.out.to (fun b hb => ⟨by omega, by omega⟩) hsame, trivial⟩
        exact .inr ⟨hbq', _, rfl, hkids.lies (fun b hb => ⟨hb.1, by simpa using hb.2⟩) (fun g' hg' => by
          obtain rfl : g = g' := by simpa [Value.ownBlock] using hg'
          exact ⟨by omega, by simpa using hlt⟩) (by simp), (hL6.set (by omega) 3 _).put4 (by omega) _ _ _ _, (hFw6.setNew (by omega) _).put4 (Nat.le_refl _) _ _ _ _⟩
      refine AllReady.cons rfl (fun K hK => ?_) AllReady.nil
      go_simp
      refine hK _ _ ?_
      clear hK K
      refine wpAny_ready (rs := [1]) (by kernel_rfl) (by simp) ?_
      refine AllReady.cons rfl (fun K hK => ?_) AllReady.nil
      go_simp
      refine hK _ _ ?_
      clear hK K
      refine wpAny_ready (rs := [5]) (by kernel_rfl) (by simp) ?_
      refine AllReady.cons rfl (fun K hK => ?_) AllReady.nil
      refine step_append_lies _ (by rfl) (.tmp 14) (.tmp 17) 22 (by rfl) (w.heap.size + 1) 24 i0 (.agg #[.int .i64 0, .string ⟨#[]⟩, .int .i64 0, .slice none 0 0]) 4 56 Tryz.underlying22 hi hz0 hz1' hz2 rfl (by decide) (.slice (some ⟨w3.heap.size, 0, none⟩) 2 2) 2 [.int .i64 k, .string x, .int .i64 m, .slice a n c, .int .i64 k3, .string x3, .int .i64 m3, .slice a3 n3 c3] rfl (ho5.alloc _) ⟨w5.heap.size, 0, none⟩ 1 1 [.int .i64 k5, .string x5, .int .i64 m5, .slice a5 n5 c5] rfl rfl (cells4_new _ _ _ _ _ _ _ rfl) (by intro u hu; simp at hu; rcases hu with rfl | rfl | rfl | rfl <;> rfl) (by omega) (by unfold maxLen; omega) (by omega) (by simp; omega) (w5.heap.size + 1) (by simp) ?_
      intro g cap w6 hown' hgrow hat hlt
      refine hK _ _ ?_
      clear hK K
      have hG : w5.grownBy w6 (some w3.heap.size) := grown_trans (World.grownBy_alloc w5 _ _) hgrow
      have z6 := hG.size
      have hb36 := (hb35.alloc (.cells #[.int .i64 k5, .string x5, .int .i64 m5, .slice a5 n5 c5] 24)).grown hgrow (by simp [Value.ownBlock])
      have hb06 := (hb05.alloc (.cells #[.int .i64 k5, .string x5, .int .i64 m5, .slice a5 n5 c5] 24)).grown hgrow (by simp [Value.ownBlock]; omega)
      obtain ⟨e0, e1, e2, e3, d0, d1, d2, d3⟩ := id hb36
      obtain ⟨j0, j1, j2, j3, l0, l1, l2, l3⟩ := id hb06
      have hgg : w.heap.size < g ∧ g ≠ w3.heap.size + 1 := by
        rcases hat with e | e
        · have e' : w3.heap.size = g := by simpa [Value.ownBlock] using e
          omega
        · omega
      refine wpAny_ready (rs := [6]) (by kernel_rfl) (by simp) ?_
      refine AllReady.cons rfl (fun K hK => ?_) AllReady.nil
      go_simp
      refine hK _ _ ?_
      clear hK K
      refine wpAny_ready (rs := [7]) (by kernel_rfl) (by simp) ?_
      refine AllReady.cons rfl (fun K hK => ?_) AllReady.nil
      go_simp
      refine hK _ _ ?_
      clear hK K
      refine wpAny_done (by kernel_rfl) ?_ _
      go_wp2
      refine bodyPost_ret (v := .agg #[.int .i64 10, .string empty, .int .i64 0, .slice (some ⟨g, 0, none⟩) 3 cap]) (by simp [results, Tryz.results233, go_sem, j0, j1, j2, j3, empty]) rfl ?_
      have hFw6 : Fr r w w6 := ⟨hG.os.trans (hFw4.trans hF45).os, hG.tape.trans (hFw4.trans hF45).tape, hG.output.trans (hFw4.trans hF45).output, Nat.le_trans (hFw4.trans hF45).size hG.size, fun j hj hn => (hG.block j (by omega) (by simp; omega)).trans ((hFw4.trans hF45).block j hj hn)⟩
      have hL6 := hL5.keep hG (fun k e => by
        obtain rfl : w3.heap.size = k := by simpa using e
        omega)
      have hput := Fr.put (w6.setCell ⟨w3.heap.size + 1, 3, none⟩ (.slice (some ⟨g, 0, none⟩) 3 cap)) w.heap.size (.int .i64 10) (.string empty) (.int .i64 0) (.slice (some ⟨g, 0, none⟩) 3 cap)
      have hsame : ∀ b, (w.heap.size < b ∧ b < w5.heap.size ∧ b ≠ w3.heap.size ∧ b ≠ w3.heap.size + 1) → ∀ j, World.cell? _ ⟨b, j, none⟩ = w5.cell? ⟨b, j, none⟩ := fun b hb j => by
        rw [World.cell?_of_block (a := ⟨b, j, none⟩) (hput.block b (by rw [World.size_setCell]; omega) (by simp <;> omega)), World.cell?_setCell_other _ _ _ _ (by simp <;> omega)]
        exact World.cell?_of_block (a := ⟨b, j, none⟩) (hG.block b hb.2.1 (by simp; omega))
      have n1 : (Value.slice (some ⟨g, 0, none⟩) 3 cap).ownBlock ≠ some (w3.heap.size + 1) := by simp [Value.ownBlock]; omega
      have n2 : (Value.slice (some ⟨g, 0, none⟩) 3 cap).ownBlock ≠ some w.heap.size := by simp [Value.ownBlock]; omega
      have hkids : Kids (w.heap.size + 1) (fun b => w.heap.size ≤ b ∧ b < w6.heap.size) _ (.slice (some ⟨g, 0, none⟩) 3 cap) [q1.1, q2.1, q3.1] := ⟨[(.int .i64 k, .string x, .int .i64 m, .slice a n c), (.int .i64 k3, .string x3, .int .i64 m3, .slice a3 n3 c3), (.int .i64 k5, .string x5, .int .i64 m5, .slice a5 n5 c5)],
        ownsRow_setCell_other (ownsRow_setCell_other (ownsRow_setCell_other (ownsRow_setCell_other (ownsRow_setCell_other hown' n1 _) n2 _) n2 _) n2 _) n2 _,
        A1.out.to (fun b hb => ⟨by omega, by omega⟩) hsame, A2.out.to (fun b hb => ⟨by omega, by omega⟩) hsame, A3.out.to (fun b hb => ⟨by omega, by omega⟩) hsame, trivial⟩
      exact .inr ⟨hbq', _, rfl, hkids.lies (fun b hb => ⟨hb.1, by simpa using hb.2⟩) (fun g' hg' => by
        obtain rfl : g = g' := by simpa [Value.ownBlock] using hg'
        exact ⟨by omega, by simpa using hlt⟩) (by simp), (hL6.set (by omega) 3 _).put4 (by omega) _ _ _ _, (hFw6.setNew (by omega) _).put4 (Nat.le_refl _) _ _ _ _⟩
structure GoodY (r G : Nat) (ts : List Tok) (f : Nat) : Prop where
  b : Gives r G ts 189 (blockF ts f)
  s : Gives r G ts 213 (statF ts f)
theorem goodY (r G : Nat) (ts : List Tok) (F : Nat) (hF : F ≤ 100000) : ∀ {f : Nat}, f ≤ F → GoodY r G ts f := by
  induction F with
  | zero =>
    intro f hf
    obtain rfl : f = 0 := by omega
    exact ⟨fun {w s q} _ h => by simp [blockF] at h, fun {w s q} _ h => by simp [statF] at h⟩
  | succ F ih =>
    intro f hf
    have IH : ∀ {g : Nat}, g ≤ F → GoodY r G ts g := ih (by omega)
    rcases Nat.lt_or_ge f (F + 1) with h | h
    · exact IH (by omega)
    obtain rfl : f = F + 1 := by omega
    refine ⟨oblock (by omega) (fun h => (IH h).s), ostat ⟨fun h => goodX r G ts F (by omega) h, (IH (Nat.le_refl _)).b, ?_, by omega⟩⟩
    exact ochoice (goodX r G ts F (by omega) (Nat.le_refl _)).a (IH (Nat.le_refl _)).b
end
end syn
end Go.Proofs.YtoobkaebahogdaaGreatDoor
