/- What the program's sum, product and expr answer, once those that they call do: contracts. -/
import Derived.Test.YtoobkaebahogdaaGreatDoorNB07
set_option linter.unusedVariables false
set_option linter.unusedSimpArgs false
set_option maxRecDepth 100000
namespace Go.Proofs.YtoobkaebahogdaaGreatDoor
namespace syn
open Go.RowKit
open Go.Proofs.YtoobkaebahogdaaGreatDoor.lexs (Tok Fine)

section
variable {w w' : World} {r G : Nat} {ts : List Tok} {s : St}
theorem Gives.lost {F : Nat} {g : St → Option (Tree × St)} (h : Gives r G ts F g) {q : Tree × St} (hL : Ld w r G ts s) (hq : g s = some q) (hb : q.2.bad = true) :
    Calls Tryz.prog F #[.pointer (some ⟨r, 0, none⟩)] w fun e w' => e = .panicked (Pan ts q.2) ∧ Fr r w w' :=
  (h hL hq).mono fun e w' h => by
    rcases h with ⟨_, h1, h2⟩ | ⟨h1, _⟩
    · exact ⟨h1, h2⟩
    · rw [hb] at h1; cases h1
theorem Gives.fine {F : Nat} {g : St → Option (Tree × St)} (h : Gives r G ts F g) {q : Tree × St} (hL : Ld w r G ts s) (hq : g s = some q) (hb : q.2.bad = false) :
    Calls Tryz.prog F #[.pointer (some ⟨r, 0, none⟩)] w fun e w' => ∃ v, e = .returned v ∧ Lies (fun b => w.heap.size ≤ b ∧ b < w'.heap.size) w' q.1 v ∧ Ld w' r G ts q.2 ∧ Fr r w w' :=
  (h hL hq).mono fun e w' h => by
    rcases h with ⟨h1, _⟩ | ⟨_, h1⟩
    · rw [hb] at h1; cases h1
    · exact h1
theorem Lies.rowed2P {P Q : Nat → Prop} {W : World} {t t' : Tree} {y0 y1 y2 y3 z0 z1 z2 z3 : Value} {T : TypeId} {M c : Nat} {k m : Int} {x : ByteArray} (h : Lies P W t (.agg #[y0, y1, y2, y3])) (h' : Lies P W t' (.agg #[z0, z1, z2, z3])) (hlt : ∀ b, P b → b < W.heap.size) (hQ : ∀ b, P b → Q b) (hM : M = W.heap.size) (hQM : Q M) (hc : 2 ≤ c := by omega) :
    Lies Q (W.alloc (.cells #[y0, y1, y2, y3, z0, z1, z2, z3] T)) (.node k x m [t, t']) (.agg #[.int .i64 k, .string x, .int .i64 m, .slice (some ⟨M, 0, none⟩) 2 c]) := by
  obtain ⟨c1, c2⟩ := cell4_two W (y0 := y0) (y1 := y1) (y2 := y2) (y3 := y3) (z0 := z0) (z1 := z1) (z2 := z2) (z3 := z3) (T := T) hM
  refine Lies.two hQM c1 c2 ?_ ?_
  · exact h.to hQ (fun b hb o => ((Below.refl W.heap.size W).alloc (Nat.le_refl _) _).cell (p := ⟨b, o, none⟩) (hlt b hb))
  · exact h'.to hQ (fun b hb o => ((Below.refl W.heap.size W).alloc (Nat.le_refl _) _).cell (p := ⟨b, o, none⟩) (hlt b hb))
theorem sign_empty : sign empty = (0, -1) := by rw [sign_data]; decide
theorem sign_raw (hL : Ld w r G ts s) (h : 0 ≤ (sign (txt ts s)).2) : ∃ hlt : s.i < ts.length, raw ts[s.i] = txt ts s := by
  have hlt := sign_lt h
  refine ⟨hlt, ?_⟩
  unfold txt at h ⊢
  rw [here_is hL.ok, lt_get hlt] at h ⊢
  simp only at h ⊢
  split at h
  · rw [sign_empty] at h
    exact absurd h (by decide)
  · rename_i hk
    rw [if_neg hk]
    rfl
/-- op: the sign that stands here, and what stands behind it -/
theorem oop_fine_sum {g : St → Option (Tree × St)} (ih : Gives r G ts 250 g) (hL : Ld w r G ts s) {B D : Nat} (hB : r < B) (hBw : B ≤ w.heap.size) (hD : D < w.heap.size) {n : Tree} {k m : Int} {x : ByteArray} {a : Option Addr} {nn c : Nat}
    (hl : Lies (fun b => B ≤ b ∧ b ≠ D ∧ b < w.heap.size) w n (.agg #[.int .i64 k, .string x, .int .i64 m, .slice a nn c])) (hs : 0 ≤ (sign (txt ts s)).2) {q : Tree × St} (hq : g s.next = some q) (hb : q.2.bad = false) :
    Calls Tryz.prog 251 #[.pointer (some ⟨r, 0, none⟩), .agg #[.int .i64 k, .string x, .int .i64 m, .slice a nn c], .func (.func 250) #[.pointer (some ⟨r, 0, none⟩)] #[]] w fun e w' =>
      ∃ v, e = .returned v ∧ Lies (fun b => B ≤ b ∧ b ≠ D ∧ b < w'.heap.size) w' (.node 19 empty (sign (txt ts s)).1 [n, q.1]) v ∧ Ld w' r G ts q.2 ∧ Fr r w w' := by
  have c24 : Tryz.prog.cellsOf 24 = 4 := by kernel_rfl
  have hr := hL.lt
  obtain ⟨hlt, hraw⟩ := sign_raw hL hs
  have hL0 := (hL.alloc (.cells #[.int .i64 k, .string x, .int .i64 m, .slice a nn c] 24)).alloc (.cells #[.int .i64 0, .string empty, .int .i64 0, .slice none 0 0] 24)
  have hB1 := (Box4.new w (.int .i64 k) (.string x) (.int .i64 m) (.slice a nn c) 24).alloc (.cells #[.int .i64 0, .string empty, .int .i64 0, .slice none 0 0] 24)
  have hB2 := Box4.new (w.alloc (.cells #[.int .i64 k, .string x, .int .i64 m, .slice a nn c] 24)) (.int .i64 0) (.string empty) (.int .i64 0) (.slice none 0 0) 24
  rw [World.size_alloc] at hB2
  have hN := onext hL0 hlt
  rw [hraw] at hN
  have hO := fun w hw => oopOf (txt ts s) w hw hs
  generalize (sign (txt ts s)).1 = o at *
  generalize txt ts s = y at *
  go_enter Tryz.func251, Tryz.ntmps251
  go_wp2_with (fail)
  refine hN.mono ?_
  rintro e w1 ⟨rfl, hL1, hF1⟩
  go_wp2_with (fail)
  refine (hO _ hL1.ops).mono ?_
  rintro e w2 ⟨rfl, hb2⟩
  have hL2 := hL1.below hb2
  have hF2 : Fr r w1 w2 := Fr.below hb2
  have hB1' := (hB1.fr hF1 (by omega)).fr hF2 (by omega)
  have hB2' := (hB2.fr hF1 (by omega)).fr hF2 (by omega)
  obtain ⟨p0, p1, p2, p3, e0, e1, e2, e3⟩ := id hB1'
  have hz : w.heap.size + 1 < w2.heap.size := hB2'.lt
  have z1 : w.heap.size + 2 ≤ w1.heap.size := by have := hF1.size; simpa using this
  have z2 := hF2.size
  go_wp2
  go_region_with (go_at_call 250; refine (ih.fine (hL2.drewN 1) hq hb).mono ?_; rintro e w3 ⟨v3, rfl, hl3, hL3, hF3⟩; obtain ⟨k3, x3, m3, _, rfl, a3, n3, c3, rfl⟩ := hl3.shape; obtain ⟨g0, g1, g2, g3, _, _, _, _⟩ := (hB1'.drewN 1).fr hF3 (by omega); obtain ⟨f0, f1, f2, f3, i0, i1, i2, i3⟩ := (hB2'.drewN 1).fr hF3 (by omega); have z3 : w.heap.size + 1 < w3.heap.size := ((hB2'.drewN 1).fr hF3 (by omega)).lt)
  all_goals
    go_wp2
    refine bodyPost_ret (v := .agg #[.int .i64 19, .string empty, .int .i64 o, .slice (some ⟨w3.heap.size, 0, none⟩) 2 2]) (by simp [results, Tryz.results251, go_sem, f0, f1, f2, f3, z3, empty]) rfl ?_
    have hFw : Fr r w w3 := (((((Fr.al _ _).trans (Fr.al _ _)).trans hF1).trans hF2).drewN 1).trans hF3
    have y3 := hF3.size
    have y3' : w2.heap.size ≤ w3.heap.size := y3
    have n3' : Lies (fun b => B ≤ b ∧ b ≠ D ∧ b < w3.heap.size ∧ b ≠ w.heap.size + 1) w3 n (.agg #[.int .i64 k, .string x, .int .i64 m, .slice a nn c]) := hl.frP (x := r) hFw (fun b hb => ⟨hb.2.2, by omega⟩) (fun b hb => ⟨hb.1, hb.2.1, by omega, by omega⟩)
    have m3' : Lies (fun b => B ≤ b ∧ b ≠ D ∧ b < w3.heap.size ∧ b ≠ w.heap.size + 1) w3 q.1 (.agg #[.int .i64 k3, .string x3, .int .i64 m3, .slice a3 n3 c3]) := hl3.to (fun b hb => by
      have h1 : w2.heap.size ≤ b := hb.1
      exact ⟨by omega, by omega, hb.2, by omega⟩) (fun _ _ _ => rfl)
    have hput := Fr.put w3 (w.heap.size + 1) (.int .i64 19) (.string empty) (.int .i64 o) (.slice (some ⟨w3.heap.size, 0, none⟩) 2 2)
    have n4 := n3'.frP (x := w.heap.size + 1) hput (fun b hb => ⟨hb.2.2.1, hb.2.2.2⟩) (fun b hb => hb)
    have m4 := m3'.frP (x := w.heap.size + 1) hput (fun b hb => ⟨hb.2.2.1, hb.2.2.2⟩) (fun b hb => hb)
    exact ⟨_, rfl, n4.rowed2P m4 (fun b hb => by simpa using hb.2.2.1) (fun b hb => ⟨hb.1, hb.2.1, by simp; omega⟩) (by simp) ⟨by omega, by omega, by simp⟩, (hL3.put4 (by omega) _ _ _ _).alloc _, (hFw.put4 (by omega) _ _ _ _).alloc _⟩
theorem oop_lost_sum {g : St → Option (Tree × St)} (ih : Gives r G ts 250 g) (hL : Ld w r G ts s) {k m : Int} {x : ByteArray} {a : Option Addr} {nn c : Nat}
    (hs : 0 ≤ (sign (txt ts s)).2) {q : Tree × St} (hq : g s.next = some q) (hb : q.2.bad = true) :
    Calls Tryz.prog 251 #[.pointer (some ⟨r, 0, none⟩), .agg #[.int .i64 k, .string x, .int .i64 m, .slice a nn c], .func (.func 250) #[.pointer (some ⟨r, 0, none⟩)] #[]] w fun e w' => e = .panicked (Pan ts q.2) ∧ Fr r w w' := by
  have c24 : Tryz.prog.cellsOf 24 = 4 := by kernel_rfl
  have hr := hL.lt
  obtain ⟨hlt, hraw⟩ := sign_raw hL hs
  have hL0 := (hL.alloc (.cells #[.int .i64 k, .string x, .int .i64 m, .slice a nn c] 24)).alloc (.cells #[.int .i64 0, .string empty, .int .i64 0, .slice none 0 0] 24)
  have hB1 := (Box4.new w (.int .i64 k) (.string x) (.int .i64 m) (.slice a nn c) 24).alloc (.cells #[.int .i64 0, .string empty, .int .i64 0, .slice none 0 0] 24)
  have hN := onext hL0 hlt
  rw [hraw] at hN
  have hO := fun w hw => oopOf (txt ts s) w hw hs
  generalize (sign (txt ts s)).1 = o at *
  generalize txt ts s = y at *
  go_enter Tryz.func251, Tryz.ntmps251
  go_wp2_with (fail)
  refine hN.mono ?_
  rintro e w1 ⟨rfl, hL1, hF1⟩
  go_wp2_with (fail)
  refine (hO _ hL1.ops).mono ?_
  rintro e w2 ⟨rfl, hb2⟩
  have hL2 := hL1.below hb2
  have hF2 : Fr r w1 w2 := Fr.below hb2
  obtain ⟨p0, p1, p2, p3, _, _, _, _⟩ := (hB1.fr hF1 (by omega)).fr hF2 (by omega)
  go_wp2
  refine wp_region_any (by kernel_rfl) ?_
  change wpAny _ _ _ _ _ _ _ (World.drew _)
  refine wpAny_take (i := 0) (v := .int .i64 o) rfl (by kernel_rfl) (by kernel_rfl) (by kernel_rfl) (fun _ _ _ h => h) (Or.inl ⟨by rfl, fun w => by go_simp⟩) ?_
  refine wpAny_take (i := 2) (v := .func (.func 250) #[.pointer (some ⟨r, 0, none⟩)] #[]) rfl (by kernel_rfl) (by kernel_rfl) (by kernel_rfl) (fun _ _ _ h => h) (Or.inl ⟨by rfl, fun w => by go_simp⟩) ?_
  refine wpAny_ready (rs := [1, 3]) (by kernel_rfl) (by simp) ?_
  refine AllReady.cons rfl (fun K hK => ?_) ?_
  · go_simp
    refine hK _ _ ?_
    clear hK K
    refine wpAny_ready (rs := [3]) (by kernel_rfl) (by simp) ?_
    refine AllReady.cons rfl (fun K hK => ?_) AllReady.nil
    go_simp
    go_at_call 250
    refine (ih.lost (hL2.drewN 1) hq hb).mono ?_
    rintro e w3 ⟨rfl, hF3⟩
    go_wp2
    exact ⟨rfl, rfl, (((((Fr.al _ _).trans (Fr.al _ _)).trans hF1).trans hF2).drewN 1).trans hF3⟩
  refine AllReady.cons rfl (fun K hK => ?_) AllReady.nil
  go_simp
  go_at_call 250
  refine (ih.lost (hL2.drewN 1) hq hb).mono ?_
  rintro e w3 ⟨rfl, hF3⟩
  go_wp2
  exact ⟨rfl, rfl, (((((Fr.al _ _).trans (Fr.al _ _)).trans hF1).trans hF2).drewN 1).trans hF3⟩
/-- op: the sign that stands here, and what stands behind it -/
theorem oop_fine_product {g : St → Option (Tree × St)} (ih : Gives r G ts 261 g) (hL : Ld w r G ts s) {B D : Nat} (hB : r < B) (hBw : B ≤ w.heap.size) (hD : D < w.heap.size) {n : Tree} {k m : Int} {x : ByteArray} {a : Option Addr} {nn c : Nat}
    (hl : Lies (fun b => B ≤ b ∧ b ≠ D ∧ b < w.heap.size) w n (.agg #[.int .i64 k, .string x, .int .i64 m, .slice a nn c])) (hs : 0 ≤ (sign (txt ts s)).2) {q : Tree × St} (hq : g s.next = some q) (hb : q.2.bad = false) :
    Calls Tryz.prog 251 #[.pointer (some ⟨r, 0, none⟩), .agg #[.int .i64 k, .string x, .int .i64 m, .slice a nn c], .func (.func 261) #[.pointer (some ⟨r, 0, none⟩)] #[]] w fun e w' =>
      ∃ v, e = .returned v ∧ Lies (fun b => B ≤ b ∧ b ≠ D ∧ b < w'.heap.size) w' (.node 19 empty (sign (txt ts s)).1 [n, q.1]) v ∧ Ld w' r G ts q.2 ∧ Fr r w w' := by
  have c24 : Tryz.prog.cellsOf 24 = 4 := by kernel_rfl
  have hr := hL.lt
  obtain ⟨hlt, hraw⟩ := sign_raw hL hs
  have hL0 := (hL.alloc (.cells #[.int .i64 k, .string x, .int .i64 m, .slice a nn c] 24)).alloc (.cells #[.int .i64 0, .string empty, .int .i64 0, .slice none 0 0] 24)
  have hB1 := (Box4.new w (.int .i64 k) (.string x) (.int .i64 m) (.slice a nn c) 24).alloc (.cells #[.int .i64 0, .string empty, .int .i64 0, .slice none 0 0] 24)
  have hB2 := Box4.new (w.alloc (.cells #[.int .i64 k, .string x, .int .i64 m, .slice a nn c] 24)) (.int .i64 0) (.string empty) (.int .i64 0) (.slice none 0 0) 24
  rw [World.size_alloc] at hB2
  have hN := onext hL0 hlt
  rw [hraw] at hN
  have hO := fun w hw => oopOf (txt ts s) w hw hs
  generalize (sign (txt ts s)).1 = o at *
  generalize txt ts s = y at *
  go_enter Tryz.func251, Tryz.ntmps251
  go_wp2_with (fail)
  refine hN.mono ?_
  rintro e w1 ⟨rfl, hL1, hF1⟩
  go_wp2_with (fail)
  refine (hO _ hL1.ops).mono ?_
  rintro e w2 ⟨rfl, hb2⟩
  have hL2 := hL1.below hb2
  have hF2 : Fr r w1 w2 := Fr.below hb2
  have hB1' := (hB1.fr hF1 (by omega)).fr hF2 (by omega)
  have hB2' := (hB2.fr hF1 (by omega)).fr hF2 (by omega)
  obtain ⟨p0, p1, p2, p3, e0, e1, e2, e3⟩ := id hB1'
  have hz : w.heap.size + 1 < w2.heap.size := hB2'.lt
  have z1 : w.heap.size + 2 ≤ w1.heap.size := by have := hF1.size; simpa using this
  have z2 := hF2.size
  go_wp2
  go_region_with (go_at_call 261; refine (ih.fine (hL2.drewN 1) hq hb).mono ?_; rintro e w3 ⟨v3, rfl, hl3, hL3, hF3⟩; obtain ⟨k3, x3, m3, _, rfl, a3, n3, c3, rfl⟩ := hl3.shape; obtain ⟨g0, g1, g2, g3, _, _, _, _⟩ := (hB1'.drewN 1).fr hF3 (by omega); obtain ⟨f0, f1, f2, f3, i0, i1, i2, i3⟩ := (hB2'.drewN 1).fr hF3 (by omega); have z3 : w.heap.size + 1 < w3.heap.size := ((hB2'.drewN 1).fr hF3 (by omega)).lt)
  all_goals
    go_wp2
    refine bodyPost_ret (v := .agg #[.int .i64 19, .string empty, .int .i64 o, .slice (some ⟨w3.heap.size, 0, none⟩) 2 2]) (by simp [results, Tryz.results251, go_sem, f0, f1, f2, f3, z3, empty]) rfl ?_
    have hFw : Fr r w w3 := (((((Fr.al _ _).trans (Fr.al _ _)).trans hF1).trans hF2).drewN 1).trans hF3
    have y3 := hF3.size
    have y3' : w2.heap.size ≤ w3.heap.size := y3
    have n3' : Lies (fun b => B ≤ b ∧ b ≠ D ∧ b < w3.heap.size ∧ b ≠ w.heap.size + 1) w3 n (.agg #[.int .i64 k, .string x, .int .i64 m, .slice a nn c]) := hl.frP (x := r) hFw (fun b hb => ⟨hb.2.2, by omega⟩) (fun b hb => ⟨hb.1, hb.2.1, by omega, by omega⟩)
    have m3' : Lies (fun b => B ≤ b ∧ b ≠ D ∧ b < w3.heap.size ∧ b ≠ w.heap.size + 1) w3 q.1 (.agg #[.int .i64 k3, .string x3, .int .i64 m3, .slice a3 n3 c3]) := hl3.to (fun b hb => by
      have h1 : w2.heap.size ≤ b := hb.1
      exact ⟨by omega, by omega, hb.2, by omega⟩) (fun _ _ _ => rfl)
    have hput := Fr.put w3 (w.heap.size + 1) (.int .i64 19) (.string empty) (.int .i64 o) (.slice (some ⟨w3.heap.size, 0, none⟩) 2 2)
    have n4 := n3'.frP (x := w.heap.size + 1) hput (fun b hb => ⟨hb.2.2.1, hb.2.2.2⟩) (fun b hb => hb)
    have m4 := m3'.frP (x := w.heap.size + 1) hput (fun b hb => ⟨hb.2.2.1, hb.2.2.2⟩) (fun b hb => hb)
    exact ⟨_, rfl, n4.rowed2P m4 (fun b hb => by simpa using hb.2.2.1) (fun b hb => ⟨hb.1, hb.2.1, by simp; omega⟩) (by simp) ⟨by omega, by omega, by simp⟩, (hL3.put4 (by omega) _ _ _ _).alloc _, (hFw.put4 (by omega) _ _ _ _).alloc _⟩
theorem oop_lost_product {g : St → Option (Tree × St)} (ih : Gives r G ts 261 g) (hL : Ld w r G ts s) {k m : Int} {x : ByteArray} {a : Option Addr} {nn c : Nat}
    (hs : 0 ≤ (sign (txt ts s)).2) {q : Tree × St} (hq : g s.next = some q) (hb : q.2.bad = true) :
    Calls Tryz.prog 251 #[.pointer (some ⟨r, 0, none⟩), .agg #[.int .i64 k, .string x, .int .i64 m, .slice a nn c], .func (.func 261) #[.pointer (some ⟨r, 0, none⟩)] #[]] w fun e w' => e = .panicked (Pan ts q.2) ∧ Fr r w w' := by
  have c24 : Tryz.prog.cellsOf 24 = 4 := by kernel_rfl
  have hr := hL.lt
  obtain ⟨hlt, hraw⟩ := sign_raw hL hs
  have hL0 := (hL.alloc (.cells #[.int .i64 k, .string x, .int .i64 m, .slice a nn c] 24)).alloc (.cells #[.int .i64 0, .string empty, .int .i64 0, .slice none 0 0] 24)
  have hB1 := (Box4.new w (.int .i64 k) (.string x) (.int .i64 m) (.slice a nn c) 24).alloc (.cells #[.int .i64 0, .string empty, .int .i64 0, .slice none 0 0] 24)
  have hN := onext hL0 hlt
  rw [hraw] at hN
  have hO := fun w hw => oopOf (txt ts s) w hw hs
  generalize (sign (txt ts s)).1 = o at *
  generalize txt ts s = y at *
  go_enter Tryz.func251, Tryz.ntmps251
  go_wp2_with (fail)
  refine hN.mono ?_
  rintro e w1 ⟨rfl, hL1, hF1⟩
  go_wp2_with (fail)
  refine (hO _ hL1.ops).mono ?_
  rintro e w2 ⟨rfl, hb2⟩
  have hL2 := hL1.below hb2
  have hF2 : Fr r w1 w2 := Fr.below hb2
  obtain ⟨p0, p1, p2, p3, _, _, _, _⟩ := (hB1.fr hF1 (by omega)).fr hF2 (by omega)
  go_wp2
  refine wp_region_any (by kernel_rfl) ?_
  change wpAny _ _ _ _ _ _ _ (World.drew _)
  refine wpAny_take (i := 0) (v := .int .i64 o) rfl (by kernel_rfl) (by kernel_rfl) (by kernel_rfl) (fun _ _ _ h => h) (Or.inl ⟨by rfl, fun w => by go_simp⟩) ?_
  refine wpAny_take (i := 2) (v := .func (.func 261) #[.pointer (some ⟨r, 0, none⟩)] #[]) rfl (by kernel_rfl) (by kernel_rfl) (by kernel_rfl) (fun _ _ _ h => h) (Or.inl ⟨by rfl, fun w => by go_simp⟩) ?_
  refine wpAny_ready (rs := [1, 3]) (by kernel_rfl) (by simp) ?_
  refine AllReady.cons rfl (fun K hK => ?_) ?_
  · go_simp
    refine hK _ _ ?_
    clear hK K
    refine wpAny_ready (rs := [3]) (by kernel_rfl) (by simp) ?_
    refine AllReady.cons rfl (fun K hK => ?_) AllReady.nil
    go_simp
    go_at_call 261
    refine (ih.lost (hL2.drewN 1) hq hb).mono ?_
    rintro e w3 ⟨rfl, hF3⟩
    go_wp2
    exact ⟨rfl, rfl, (((((Fr.al _ _).trans (Fr.al _ _)).trans hF1).trans hF2).drewN 1).trans hF3⟩
  refine AllReady.cons rfl (fun K hK => ?_) AllReady.nil
  go_simp
  go_at_call 261
  refine (ih.lost (hL2.drewN 1) hq hb).mono ?_
  rintro e w3 ⟨rfl, hF3⟩
  go_wp2
  exact ⟨rfl, rfl, (((((Fr.al _ _).trans (Fr.al _ _)).trans hF1).trans hF2).drewN 1).trans hF3⟩
/-- op: the sign that stands here, and what stands behind it -/
theorem oop_fine_prefixed {g : St → Option (Tree × St)} (ih : Gives r G ts 271 g) (hL : Ld w r G ts s) {B D : Nat} (hB : r < B) (hBw : B ≤ w.heap.size) (hD : D < w.heap.size) {n : Tree} {k m : Int} {x : ByteArray} {a : Option Addr} {nn c : Nat}
    (hl : Lies (fun b => B ≤ b ∧ b ≠ D ∧ b < w.heap.size) w n (.agg #[.int .i64 k, .string x, .int .i64 m, .slice a nn c])) (hs : 0 ≤ (sign (txt ts s)).2) {q : Tree × St} (hq : g s.next = some q) (hb : q.2.bad = false) :
    Calls Tryz.prog 251 #[.pointer (some ⟨r, 0, none⟩), .agg #[.int .i64 k, .string x, .int .i64 m, .slice a nn c], .func (.func 271) #[.pointer (some ⟨r, 0, none⟩)] #[]] w fun e w' =>
      ∃ v, e = .returned v ∧ Lies (fun b => B ≤ b ∧ b ≠ D ∧ b < w'.heap.size) w' (.node 19 empty (sign (txt ts s)).1 [n, q.1]) v ∧ Ld w' r G ts q.2 ∧ Fr r w w' := by
  have c24 : Tryz.prog.cellsOf 24 = 4 := by kernel_rfl
  have hr := hL.lt
  obtain ⟨hlt, hraw⟩ := sign_raw hL hs
  have hL0 := (hL.alloc (.cells #[.int .i64 k, .string x, .int .i64 m, .slice a nn c] 24)).alloc (.cells #[.int .i64 0, .string empty, .int .i64 0, .slice none 0 0] 24)
  have hB1 := (Box4.new w (.int .i64 k) (.string x) (.int .i64 m) (.slice a nn c) 24).alloc (.cells #[.int .i64 0, .string empty, .int .i64 0, .slice none 0 0] 24)
  have hB2 := Box4.new (w.alloc (.cells #[.int .i64 k, .string x, .int .i64 m, .slice a nn c] 24)) (.int .i64 0) (.string empty) (.int .i64 0) (.slice none 0 0) 24
  rw [World.size_alloc] at hB2
  have hN := onext hL0 hlt
  rw [hraw] at hN
  have hO := fun w hw => oopOf (txt ts s) w hw hs
  generalize (sign (txt ts s)).1 = o at *
  generalize txt ts s = y at *
  go_enter Tryz.func251, Tryz.ntmps251
  go_wp2_with (fail)
  refine hN.mono ?_
  rintro e w1 ⟨rfl, hL1, hF1⟩
  go_wp2_with (fail)
  refine (hO _ hL1.ops).mono ?_
  rintro e w2 ⟨rfl, hb2⟩
  have hL2 := hL1.below hb2
  have hF2 : Fr r w1 w2 := Fr.below hb2
  have hB1' := (hB1.fr hF1 (by omega)).fr hF2 (by omega)
  have hB2' := (hB2.fr hF1 (by omega)).fr hF2 (by omega)
  obtain ⟨p0, p1, p2, p3, e0, e1, e2, e3⟩ := id hB1'
  have hz : w.heap.size + 1 < w2.heap.size := hB2'.lt
  have z1 : w.heap.size + 2 ≤ w1.heap.size := by have := hF1.size; simpa using this
  have z2 := hF2.size
  go_wp2
  go_region_with (go_at_call 271; refine (ih.fine (hL2.drewN 1) hq hb).mono ?_; rintro e w3 ⟨v3, rfl, hl3, hL3, hF3⟩; obtain ⟨k3, x3, m3, _, rfl, a3, n3, c3, rfl⟩ := hl3.shape; obtain ⟨g0, g1, g2, g3, _, _, _, _⟩ := (hB1'.drewN 1).fr hF3 (by omega); obtain ⟨f0, f1, f2, f3, i0, i1, i2, i3⟩ := (hB2'.drewN 1).fr hF3 (by omega); have z3 : w.heap.size + 1 < w3.heap.size := ((hB2'.drewN 1).fr hF3 (by omega)).lt)
  all_goals
    go_wp2
    refine bodyPost_ret (v := .agg #[.int .i64 19, .string empty, .int .i64 o, .slice (some ⟨w3.heap.size, 0, none⟩) 2 2]) (by simp [results, Tryz.results251, go_sem, f0, f1, f2, f3, z3, empty]) rfl ?_
    have hFw : Fr r w w3 := (((((Fr.al _ _).trans (Fr.al _ _)).trans hF1).trans hF2).drewN 1).trans hF3
    have y3 := hF3.size
    have y3' : w2.heap.size ≤ w3.heap.size := y3
    have n3' : Lies (fun b => B ≤ b ∧ b ≠ D ∧ b < w3.heap.size ∧ b ≠ w.heap.size + 1) w3 n (.agg #[.int .i64 k, .string x, .int .i64 m, .slice a nn c]) := hl.frP (x := r) hFw (fun b hb => ⟨hb.2.2, by omega⟩) (fun b hb => ⟨hb.1, hb.2.1, by omega, by omega⟩)
    have m3' : Lies (fun b => B ≤ b ∧ b ≠ D ∧ b < w3.heap.size ∧ b ≠ w.heap.size + 1) w3 q.1 (.agg #[.int .i64 k3, .string x3, .int .i64 m3, .slice a3 n3 c3]) := hl3.to (fun b hb => by
      have h1 : w2.heap.size ≤ b := hb.1
      exact ⟨by omega, by omega, hb.2, by omega⟩) (fun _ _ _ => rfl)
    have hput := Fr.put w3 (w.heap.size + 1) (.int .i64 19) (.string empty) (.int .i64 o) (.slice (some ⟨w3.heap.size, 0, none⟩) 2 2)
    have n4 := n3'.frP (x := w.heap.size + 1) hput (fun b hb => ⟨hb.2.2.1, hb.2.2.2⟩) (fun b hb => hb)
    have m4 := m3'.frP (x := w.heap.size + 1) hput (fun b hb => ⟨hb.2.2.1, hb.2.2.2⟩) (fun b hb => hb)
    exact ⟨_, rfl, n4.rowed2P m4 (fun b hb => by simpa using hb.2.2.1) (fun b hb => ⟨hb.1, hb.2.1, by simp; omega⟩) (by simp) ⟨by omega, by omega, by simp⟩, (hL3.put4 (by omega) _ _ _ _).alloc _, (hFw.put4 (by omega) _ _ _ _).alloc _⟩
theorem oop_lost_prefixed {g : St → Option (Tree × St)} (ih : Gives r G ts 271 g) (hL : Ld w r G ts s) {k m : Int} {x : ByteArray} {a : Option Addr} {nn c : Nat}
    (hs : 0 ≤ (sign (txt ts s)).2) {q : Tree × St} (hq : g s.next = some q) (hb : q.2.bad = true) :
    Calls Tryz.prog 251 #[.pointer (some ⟨r, 0, none⟩), .agg #[.int .i64 k, .string x, .int .i64 m, .slice a nn c], .func (.func 271) #[.pointer (some ⟨r, 0, none⟩)] #[]] w fun e w' => e = .panicked (Pan ts q.2) ∧ Fr r w w' := by
  have c24 : Tryz.prog.cellsOf 24 = 4 := by kernel_rfl
  have hr := hL.lt
  obtain ⟨hlt, hraw⟩ := sign_raw hL hs
  have hL0 := (hL.alloc (.cells #[.int .i64 k, .string x, .int .i64 m, .slice a nn c] 24)).alloc (.cells #[.int .i64 0, .string empty, .int .i64 0, .slice none 0 0] 24)
  have hB1 := (Box4.new w (.int .i64 k) (.string x) (.int .i64 m) (.slice a nn c) 24).alloc (.cells #[.int .i64 0, .string empty, .int .i64 0, .slice none 0 0] 24)
  have hN := onext hL0 hlt
  rw [hraw] at hN
  have hO := fun w hw => oopOf (txt ts s) w hw hs
  generalize (sign (txt ts s)).1 = o at *
  generalize txt ts s = y at *
  go_enter Tryz.func251, Tryz.ntmps251
  go_wp2_with (fail)
  refine hN.mono ?_
  rintro e w1 ⟨rfl, hL1, hF1⟩
  go_wp2_with (fail)
  refine (hO _ hL1.ops).mono ?_
  rintro e w2 ⟨rfl, hb2⟩
  have hL2 := hL1.below hb2
  have hF2 : Fr r w1 w2 := Fr.below hb2
  obtain ⟨p0, p1, p2, p3, _, _, _, _⟩ := (hB1.fr hF1 (by omega)).fr hF2 (by omega)
  go_wp2
  refine wp_region_any (by kernel_rfl) ?_
  change wpAny _ _ _ _ _ _ _ (World.drew _)
  refine wpAny_take (i := 0) (v := .int .i64 o) rfl (by kernel_rfl) (by kernel_rfl) (by kernel_rfl) (fun _ _ _ h => h) (Or.inl ⟨by rfl, fun w => by go_simp⟩) ?_
  refine wpAny_take (i := 2) (v := .func (.func 271) #[.pointer (some ⟨r, 0, none⟩)] #[]) rfl (by kernel_rfl) (by kernel_rfl) (by kernel_rfl) (fun _ _ _ h => h) (Or.inl ⟨by rfl, fun w => by go_simp⟩) ?_
  refine wpAny_ready (rs := [1, 3]) (by kernel_rfl) (by simp) ?_
  refine AllReady.cons rfl (fun K hK => ?_) ?_
  · go_simp
    refine hK _ _ ?_
    clear hK K
    refine wpAny_ready (rs := [3]) (by kernel_rfl) (by simp) ?_
    refine AllReady.cons rfl (fun K hK => ?_) AllReady.nil
    go_simp
    go_at_call 271
    refine (ih.lost (hL2.drewN 1) hq hb).mono ?_
    rintro e w3 ⟨rfl, hF3⟩
    go_wp2
    exact ⟨rfl, rfl, (((((Fr.al _ _).trans (Fr.al _ _)).trans hF1).trans hF2).drewN 1).trans hF3⟩
  refine AllReady.cons rfl (fun K hK => ?_) AllReady.nil
  go_simp
  go_at_call 271
  refine (ih.lost (hL2.drewN 1) hq hb).mono ?_
  rintro e w3 ⟨rfl, hF3⟩
  go_wp2
  exact ⟨rfl, rfl, (((((Fr.al _ _).trans (Fr.al _ _)).trans hF1).trans hF2).drewN 1).trans hF3⟩
end

section
variable {w w' : World} {r G : Nat} {ts : List Tok} {s : St}
theorem sign_sv {j : Nat} (h : j < 9) : sign (sv j) = (so j, sl j) := by
  rw [sign_data]
  rcases nine h with rfl | rfl | rfl | rfl | rfl | rfl | rfl | rfl | rfl <;> rfl
theorem has_lev {ws : List ByteArray} {l : Int} (h1 : ∀ y ∈ ws, (sign y).2 = l) (h2 : ∀ j, j < 9 → sl j = l → sv j ∈ ws) (hl : 0 ≤ l) : hasW ts s ws = ((sign (txt ts s)).2 == l) := by
  unfold hasW
  generalize txt ts s = x
  rw [Bool.eq_iff_iff, List.any_eq_true, beq_iff_eq]
  constructor
  · rintro ⟨y, hy, he⟩
    obtain rfl := eqS_eq he
    exact h1 _ hy
  · intro h
    by_cases hn : ∀ j, j < 9 → eqS (sv j) x = false
    · rw [sign_none x hn] at h
      exfalso
      rw [← h] at hl
      exact absurd hl (by decide)
    · obtain ⟨j, hj, he⟩ : ∃ j, j < 9 ∧ eqS (sv j) x = true := by
        refine Classical.byContradiction fun hc => hn fun j hj => ?_
        cases hx : eqS (sv j) x
        · rfl
        · exact absurd ⟨j, hj, hx⟩ hc
      obtain rfl := eqS_eq he
      rw [sign_sv hj] at h
      exact ⟨_, h2 j hj h, by unfold eqS; simp⟩
def ws0 : List ByteArray := [⟨#[61, 61]⟩, ⟨#[60]⟩]
def ws1 : List ByteArray := [⟨#[43]⟩, ⟨#[45]⟩, ⟨#[124]⟩]
def ws2 : List ByteArray := [⟨#[42]⟩, ⟨#[47]⟩, ⟨#[37]⟩, ⟨#[38]⟩]
theorem lev0 : hasW ts s ws0 = ((sign (txt ts s)).2 == 0) := by
  refine has_lev (fun y hy => ?_) (fun j hj => ?_) (by decide)
  · simp only [ws0, List.mem_cons, List.not_mem_nil, or_false] at hy
    rcases hy with rfl | rfl <;> rw [sign_data] <;> rfl
  · rcases nine hj with rfl | rfl | rfl | rfl | rfl | rfl | rfl | rfl | rfl <;> intro h <;> first | (exact absurd h (by decide)) | (simp [ws0, sv, signs])
theorem lev1 : hasW ts s ws1 = ((sign (txt ts s)).2 == 1) := by
  refine has_lev (fun y hy => ?_) (fun j hj => ?_) (by decide)
  · simp only [ws1, List.mem_cons, List.not_mem_nil, or_false] at hy
    rcases hy with rfl | rfl | rfl <;> rw [sign_data] <;> rfl
  · rcases nine hj with rfl | rfl | rfl | rfl | rfl | rfl | rfl | rfl | rfl <;> intro h <;> first | (exact absurd h (by decide)) | (simp [ws1, sv, signs])
theorem lev2 : hasW ts s ws2 = ((sign (txt ts s)).2 == 2) := by
  refine has_lev (fun y hy => ?_) (fun j hj => ?_) (by decide)
  · simp only [ws2, List.mem_cons, List.not_mem_nil, or_false] at hy
    rcases hy with rfl | rfl | rfl | rfl <;> rw [sign_data] <;> rfl
  · rcases nine hj with rfl | rfl | rfl | rfl | rfl | rfl | rfl | rfl | rfl <;> intro h <;> first | (exact absurd h (by decide)) | (simp [ws2, sv, signs])
theorem Words.three (w : World) (x y z : ByteArray) (T : TypeId) {M : Nat} (hM : M = w.heap.size) : Words (w.alloc (.cells #[.string x, .string y, .string z] T)) M [x, y, z] := by
  subst hM
  intro k hk
  have : k = 0 ∨ k = 1 ∨ k = 2 := by simp at hk; omega
  rcases this with rfl | rfl | rfl <;> simp
theorem Words.four (w : World) (x y z u : ByteArray) (T : TypeId) {M : Nat} (hM : M = w.heap.size) : Words (w.alloc (.cells #[.string x, .string y, .string z, .string u] T)) M [x, y, z, u] := by
  subst hM
  intro k hk
  have : k = 0 ∨ k = 1 ∨ k = 2 ∨ k = 3 := by simp at hk; omega
  rcases this with rfl | rfl | rfl | rfl <;> simp
theorem has_at1 (hL : Ld w r G ts s) {M : Nat} {T : TypeId} (hM : M = w.heap.size) : Calls Tryz.prog 154 #[.pointer (some ⟨r, 0, none⟩), .slice (some ⟨M, 0, none⟩) 3 3] (w.alloc (.cells #[.string ⟨#[43]⟩, .string ⟨#[45]⟩, .string ⟨#[124]⟩] T)) fun e w' => e = .returned (.bool ((sign (txt ts s)).2 == 1)) ∧ w' = w.alloc (.cells #[.string ⟨#[43]⟩, .string ⟨#[45]⟩, .string ⟨#[124]⟩] T) := by
  rw [← lev1]
  exact ohas (hL.alloc _) ws1 M 3 (by decide) (by decide) (Words.three w _ _ _ T hM)
theorem has_at2 (hL : Ld w r G ts s) {M : Nat} {T : TypeId} (hM : M = w.heap.size) : Calls Tryz.prog 154 #[.pointer (some ⟨r, 0, none⟩), .slice (some ⟨M, 0, none⟩) 4 4] (w.alloc (.cells #[.string ⟨#[42]⟩, .string ⟨#[47]⟩, .string ⟨#[37]⟩, .string ⟨#[38]⟩] T)) fun e w' => e = .returned (.bool ((sign (txt ts s)).2 == 2)) ∧ w' = w.alloc (.cells #[.string ⟨#[42]⟩, .string ⟨#[47]⟩, .string ⟨#[37]⟩, .string ⟨#[38]⟩] T) := by
  rw [← lev2]
  exact ohas (hL.alloc _) ws2 M 4 (by decide) (by decide) (Words.four w _ _ _ _ T hM)
theorem has_at0 (hL : Ld w r G ts s) {M : Nat} {T : TypeId} (hM : M = w.heap.size) : Calls Tryz.prog 154 #[.pointer (some ⟨r, 0, none⟩), .slice (some ⟨M, 0, none⟩) 2 2] (w.alloc (.cells #[.string ⟨#[61, 61]⟩, .string ⟨#[60]⟩] T)) fun e w' => e = .returned (.bool ((sign (txt ts s)).2 == 0)) ∧ w' = w.alloc (.cells #[.string ⟨#[61, 61]⟩, .string ⟨#[60]⟩] T) := by
  rw [← lev0]
  exact ohas (hL.alloc _) ws0 M 2 (by decide) (by decide) (Words.two w _ _ T hM)
end

section
variable {w w' : World} {r G : Nat} {ts : List Tok} {s : St}
set_option maxHeartbeats 2000000 in
theorem osum {f : Nat} (ih : ∀ {g : Nat}, g ≤ f → Gives r G ts 261 (boundF ts g 2)) : Gives r G ts 250 (boundF ts (f + 1) 1) := by
  intro w s q hL hq
  have c24 : Tryz.prog.cellsOf 24 = 4 := by kernel_rfl
  have hmf : ∀ (fn : Fn) (first cap : Array Value) (w : World), (Instr.makeFunc fn first cap).run Tryz.prog w = .ok (.func fn first cap) w := fun _ _ _ _ => rfl
  have hr := hL.lt
  have hB0 := Box4.new w (.int .i64 0) (.string empty) (.int .i64 0) (.slice none 0 0) 24
  unfold boundF at hq
  rw [if_neg (by decide)] at hq
  obtain ⟨q1, h1, h2⟩ := bind_some_is hq
  have HQ : Hid (boundL ts f 1 q1.1 q1.2 = some q) := h2
  clear hq h2
  go_enter Tryz.func250, Tryz.ntmps250
  go_wp2_with (fail)
  refine (ih (Nat.le_refl _) (hL.alloc _) h1).mono ?_
  rintro e w1 (⟨hb, rfl, hF1⟩ | ⟨hb, v1, rfl, hl1, hL1, hF1⟩)
  · go_wp2
    exact ⟨rfl, OAns.lost ((stuck ts f).bl _ _ _ _ hb HQ.out) hb ((Fr.al _ _).trans hF1)⟩
  obtain ⟨k1, y1, m1, _, rfl, a1, n1, c1, rfl⟩ := hl1.shape
  have z1 := hF1.size
  rw [World.size_alloc] at z1 hl1
  go_wp2
  go_loopg [] f (fun k wr => ∃ (n : Tree) (s1 : St) (k0 m0 : Int) (x0 : ByteArray) (a0 : Option Addr) (n0 c0 : Nat), Hid (boundL ts k 1 n s1 = some q) ∧ k ≤ f ∧ Box4 wr w.heap.size (.int .i64 0) (.string empty) (.int .i64 0) (.slice none 0 0) ∧ Box4 wr w1.heap.size (.int .i64 k0) (.string x0) (.int .i64 m0) (.slice a0 n0 c0) ∧
    Lies (fun b => w.heap.size + 1 ≤ b ∧ b ≠ w1.heap.size ∧ b < wr.heap.size) wr n (.agg #[.int .i64 k0, .string x0, .int .i64 m0, .slice a0 n0 c0]) ∧ Ld wr r G ts s1 ∧ Fr r w wr)
  case atStart =>
    refine ⟨q1.1, q1.2, k1, m1, y1, a1, n1, c1, HQ.out, Nat.le_refl _, (hB0.fr hF1 (by omega)).alloc _, Box4.new _ _ _ _ _ _, ?_, hL1.alloc _, (((Fr.al _ _).trans hF1).alloc _)⟩
    exact hl1.frP (x := r) (Fr.al _ _) (fun b hb => ⟨hb.2, by omega⟩) (fun b hb => ⟨by omega, by omega, by rw [World.size_alloc]; omega⟩)
  case round =>
    obtain ⟨n, s1, k0, m0, x0, a0, n0, c0, HL, hkf, hb0, hb1, hLn, hLr, hFr⟩ := hrel
    have hz1 := hb1.lt
    cases gk with
    | zero => have := HL.out; unfold boundL at this; simp at this
    | succ k =>
      have hq2 := HL.out
      clear HL HQ
      unfold boundL at hq2
      rw [hLr.ok, if_neg (by decide)] at hq2
      have hH := has_at1 (T := 9) hLr rfl
      have hLa := hLr.alloc (.cells #[.string ⟨#[43]⟩, .string ⟨#[45]⟩, .string ⟨#[124]⟩] 9)
      have hb1a := hb1.alloc (.cells #[.string ⟨#[43]⟩, .string ⟨#[45]⟩, .string ⟨#[124]⟩] 9)
      have hb0a := hb0.alloc (.cells #[.string ⟨#[43]⟩, .string ⟨#[45]⟩, .string ⟨#[124]⟩] 9)
      have hLna := hLn.frP (x := r) (Q := fun b => w.heap.size + 1 ≤ b ∧ b ≠ w1.heap.size ∧ b < (wr.alloc (.cells #[.string ⟨#[43]⟩, .string ⟨#[45]⟩, .string ⟨#[124]⟩] 9)).heap.size) (Fr.al wr (.cells #[.string ⟨#[43]⟩, .string ⟨#[45]⟩, .string ⟨#[124]⟩] 9)) (fun b hb => ⟨hb.2.2, by omega⟩) (fun b hb => ⟨hb.1, hb.2.1, by rw [World.size_alloc]; omega⟩)
      cases hs : ((sign (txt ts s1)).2 == 1)
      case false =>
        rw [hs] at hH
        have hne : ((sign (txt ts s1)).2 != ((1 : Nat) : Int)) = true := by simp only [bne]; rw [show ((1 : Nat) : Int) = 1 from rfl, hs]; rfl
        rw [hne, if_pos rfl] at hq2
        simp only [Option.some.injEq] at hq2
        subst hq2
        clear hs hne
        obtain ⟨t0, t1, t2, t3, i0, i1, i2, i3⟩ := hb0
        obtain ⟨p0, p1, p2, p3, _, _, _, _⟩ := hb1
        have hz0 : w.heap.size < wr.heap.size := by omega
        go_wp2_with (fail)
        refine hH.mono ?_
        rintro e w2 ⟨rfl, hw2⟩
        obtain rfl := hw2.symm
        go_wp2
        refine bodyPost_ret (v := .agg #[.int .i64 k0, .string x0, .int .i64 m0, .slice a0 n0 c0]) (by simp [results, Tryz.results250, go_sem, t0, t1, t2, t3, hz0]) rfl ?_
        have hput := Fr.put wr w.heap.size (.int .i64 k0) (.string x0) (.int .i64 m0) (.slice a0 n0 c0)
        exact .inr ⟨hLr.ok, _, rfl, (hLn.frP (x := w.heap.size) hput (fun b hb => ⟨hb.2.2, by omega⟩) (fun b hb => hb)).frP (x := r) (Fr.al _ _) (fun b hb => ⟨by simpa using hb.2.2, by omega⟩) (fun b hb => ⟨by omega, by simp; omega⟩), (hLr.put4 (by omega) _ _ _ _).alloc _, (hFr.put4 (Nat.le_refl _) _ _ _ _).alloc _⟩
      case true =>
        rw [hs] at hH
        have hne : ((sign (txt ts s1)).2 != ((1 : Nat) : Int)) = false := by simp only [bne]; rw [show ((1 : Nat) : Int) = 1 from rfl, hs]; rfl
        rw [hne, if_neg (by decide)] at hq2
        obtain ⟨q2, hq3, hq4⟩ := bind_some_is hq2
        rw [if_neg (by decide)] at hq4
        have HQ4 : Hid (boundL ts k 1 (.node 19 empty (sign (txt ts s1)).1 [n, q2.1]) q2.2 = some q) := hq4
        have hsg : 0 ≤ (sign (txt ts s1)).2 := by rw [beq_iff_eq] at hs; rw [hs]; decide
        clear hq2 hq4 hs hne
        obtain ⟨p0, p1, p2, p3, _, _, _, _⟩ := id hb1
        by_cases hbq : q2.2.bad = true
        · have hC := oop_lost_product (k := k0) (m := m0) (x := x0) (a := a0) (nn := n0) (c := c0) (ih (show k ≤ f by omega)) hLa hsg hq3 hbq
          have HS : Hid (q.2 = q2.2) := (stuck ts k).bl _ _ _ _ hbq HQ4.out
          clear hsg
          go_wp2_with (fail)
          refine hH.mono ?_
          rintro e w2 ⟨rfl, hw2⟩
          obtain rfl := hw2.symm
          go_wp2_with (fail)
          refine hC.mono ?_
          rintro e w3 ⟨rfl, hF3⟩
          go_wp2
          exact ⟨rfl, OAns.lost HS.out hbq ((hFr.trans (Fr.al _ _)).trans hF3)⟩
        · have hbq' : q2.2.bad = false := by simpa using hbq
          have hC := oop_fine_product (ih (show k ≤ f by omega)) hLa (B := w.heap.size + 1) (D := w1.heap.size) (by omega) (by rw [World.size_alloc]; omega) (by rw [World.size_alloc]; omega) hLna hsg hq3 hbq'
          clear hsg hbq hbq'
          generalize (sign (txt ts s1)).1 = o at *
          go_wp2_with (fail)
          refine hH.mono ?_
          rintro e w2 ⟨rfl, hw2⟩
          obtain rfl := hw2.symm
          go_wp2_with (fail)
          refine hC.mono ?_
          rintro e w3 ⟨v3, rfl, hl3, hL3, hF3⟩
          obtain ⟨k3, x3, m3, _, rfl, a3, n3, c3, rfl⟩ := hl3.shape
          have hb3 := hb1a.fr hF3 (by omega)
          have hb30 := hb0a.fr hF3 (by omega)
          have hz3 := hb3.lt
          obtain ⟨t0, t1, t2, t3, i0, i1, i2, i3⟩ := id hb3
          go_wp2
          go_roundg k
          case rel =>
            refine ⟨_, q2.2, k3, m3, x3, a3, n3, c3, HQ4.out, by omega, ?_, hb3.put, ?_, hL3.put4 (by omega) _ _ _ _, ((hFr.trans (Fr.al _ _)).trans hF3).put4 (by omega) _ _ _ _⟩
            · exact (((hb30.other (by omega) _).other (by omega) _).other (by omega) _).other (by omega) _
            · exact hl3.frP (x := w1.heap.size) (Fr.put _ _ _ _ _ _) (fun b hb => ⟨hb.2.2, hb.2.1⟩) (fun b hb => ⟨hb.1, hb.2.1, by simpa using hb.2.2⟩)
          case measure => omega
set_option maxHeartbeats 2000000 in
theorem oproduct {f : Nat} (ih : ∀ {g : Nat}, g ≤ f → Gives r G ts 271 (boundF ts g 3)) : Gives r G ts 261 (boundF ts (f + 1) 2) := by
  intro w s q hL hq
  have c24 : Tryz.prog.cellsOf 24 = 4 := by kernel_rfl
  have hmf : ∀ (fn : Fn) (first cap : Array Value) (w : World), (Instr.makeFunc fn first cap).run Tryz.prog w = .ok (.func fn first cap) w := fun _ _ _ _ => rfl
  have hr := hL.lt
  have hB0 := Box4.new w (.int .i64 0) (.string empty) (.int .i64 0) (.slice none 0 0) 24
  unfold boundF at hq
  rw [if_neg (by decide)] at hq
  obtain ⟨q1, h1, h2⟩ := bind_some_is hq
  have HQ : Hid (boundL ts f 2 q1.1 q1.2 = some q) := h2
  clear hq h2
  go_enter Tryz.func261, Tryz.ntmps261
  go_wp2_with (fail)
  refine (ih (Nat.le_refl _) (hL.alloc _) h1).mono ?_
  rintro e w1 (⟨hb, rfl, hF1⟩ | ⟨hb, v1, rfl, hl1, hL1, hF1⟩)
  · go_wp2
    exact ⟨rfl, OAns.lost ((stuck ts f).bl _ _ _ _ hb HQ.out) hb ((Fr.al _ _).trans hF1)⟩
  obtain ⟨k1, y1, m1, _, rfl, a1, n1, c1, rfl⟩ := hl1.shape
  have z1 := hF1.size
  rw [World.size_alloc] at z1 hl1
  go_wp2
  go_loopg [] f (fun k wr => ∃ (n : Tree) (s1 : St) (k0 m0 : Int) (x0 : ByteArray) (a0 : Option Addr) (n0 c0 : Nat), Hid (boundL ts k 2 n s1 = some q) ∧ k ≤ f ∧ Box4 wr w.heap.size (.int .i64 0) (.string empty) (.int .i64 0) (.slice none 0 0) ∧ Box4 wr w1.heap.size (.int .i64 k0) (.string x0) (.int .i64 m0) (.slice a0 n0 c0) ∧
    Lies (fun b => w.heap.size + 1 ≤ b ∧ b ≠ w1.heap.size ∧ b < wr.heap.size) wr n (.agg #[.int .i64 k0, .string x0, .int .i64 m0, .slice a0 n0 c0]) ∧ Ld wr r G ts s1 ∧ Fr r w wr)
  case atStart =>
    refine ⟨q1.1, q1.2, k1, m1, y1, a1, n1, c1, HQ.out, Nat.le_refl _, (hB0.fr hF1 (by omega)).alloc _, Box4.new _ _ _ _ _ _, ?_, hL1.alloc _, (((Fr.al _ _).trans hF1).alloc _)⟩
    exact hl1.frP (x := r) (Fr.al _ _) (fun b hb => ⟨hb.2, by omega⟩) (fun b hb => ⟨by omega, by omega, by rw [World.size_alloc]; omega⟩)
  case round =>
    obtain ⟨n, s1, k0, m0, x0, a0, n0, c0, HL, hkf, hb0, hb1, hLn, hLr, hFr⟩ := hrel
    have hz1 := hb1.lt
    cases gk with
    | zero => have := HL.out; unfold boundL at this; simp at this
    | succ k =>
      have hq2 := HL.out
      clear HL HQ
      unfold boundL at hq2
      rw [hLr.ok, if_neg (by decide)] at hq2
      have hH := has_at2 (T := 9) hLr rfl
      have hLa := hLr.alloc (.cells #[.string ⟨#[42]⟩, .string ⟨#[47]⟩, .string ⟨#[37]⟩, .string ⟨#[38]⟩] 9)
      have hb1a := hb1.alloc (.cells #[.string ⟨#[42]⟩, .string ⟨#[47]⟩, .string ⟨#[37]⟩, .string ⟨#[38]⟩] 9)
      have hb0a := hb0.alloc (.cells #[.string ⟨#[42]⟩, .string ⟨#[47]⟩, .string ⟨#[37]⟩, .string ⟨#[38]⟩] 9)
      have hLna := hLn.frP (x := r) (Q := fun b => w.heap.size + 1 ≤ b ∧ b ≠ w1.heap.size ∧ b < (wr.alloc (.cells #[.string ⟨#[42]⟩, .string ⟨#[47]⟩, .string ⟨#[37]⟩, .string ⟨#[38]⟩] 9)).heap.size) (Fr.al wr (.cells #[.string ⟨#[42]⟩, .string ⟨#[47]⟩, .string ⟨#[37]⟩, .string ⟨#[38]⟩] 9)) (fun b hb => ⟨hb.2.2, by omega⟩) (fun b hb => ⟨hb.1, hb.2.1, by rw [World.size_alloc]; omega⟩)
      cases hs : ((sign (txt ts s1)).2 == 2)
      case false =>
        rw [hs] at hH
        have hne : ((sign (txt ts s1)).2 != ((2 : Nat) : Int)) = true := by simp only [bne]; rw [show ((2 : Nat) : Int) = 2 from rfl, hs]; rfl
        rw [hne, if_pos rfl] at hq2
        simp only [Option.some.injEq] at hq2
        subst hq2
        clear hs hne
        obtain ⟨t0, t1, t2, t3, i0, i1, i2, i3⟩ := hb0
        obtain ⟨p0, p1, p2, p3, _, _, _, _⟩ := hb1
        have hz0 : w.heap.size < wr.heap.size := by omega
        go_wp2_with (fail)
        refine hH.mono ?_
        rintro e w2 ⟨rfl, hw2⟩
        obtain rfl := hw2.symm
        go_wp2
        refine bodyPost_ret (v := .agg #[.int .i64 k0, .string x0, .int .i64 m0, .slice a0 n0 c0]) (by simp [results, Tryz.results261, go_sem, t0, t1, t2, t3, hz0]) rfl ?_
        have hput := Fr.put wr w.heap.size (.int .i64 k0) (.string x0) (.int .i64 m0) (.slice a0 n0 c0)
        exact .inr ⟨hLr.ok, _, rfl, (hLn.frP (x := w.heap.size) hput (fun b hb => ⟨hb.2.2, by omega⟩) (fun b hb => hb)).frP (x := r) (Fr.al _ _) (fun b hb => ⟨by simpa using hb.2.2, by omega⟩) (fun b hb => ⟨by omega, by simp; omega⟩), (hLr.put4 (by omega) _ _ _ _).alloc _, (hFr.put4 (Nat.le_refl _) _ _ _ _).alloc _⟩
      case true =>
        rw [hs] at hH
        have hne : ((sign (txt ts s1)).2 != ((2 : Nat) : Int)) = false := by simp only [bne]; rw [show ((2 : Nat) : Int) = 2 from rfl, hs]; rfl
        rw [hne, if_neg (by decide)] at hq2
        obtain ⟨q2, hq3, hq4⟩ := bind_some_is hq2
        rw [if_neg (by decide)] at hq4
        have HQ4 : Hid (boundL ts k 2 (.node 19 empty (sign (txt ts s1)).1 [n, q2.1]) q2.2 = some q) := hq4
        have hsg : 0 ≤ (sign (txt ts s1)).2 := by rw [beq_iff_eq] at hs; rw [hs]; decide
        clear hq2 hq4 hs hne
        obtain ⟨p0, p1, p2, p3, _, _, _, _⟩ := id hb1
        by_cases hbq : q2.2.bad = true
        · have hC := oop_lost_prefixed (k := k0) (m := m0) (x := x0) (a := a0) (nn := n0) (c := c0) (ih (show k ≤ f by omega)) hLa hsg hq3 hbq
          have HS : Hid (q.2 = q2.2) := (stuck ts k).bl _ _ _ _ hbq HQ4.out
          clear hsg
          go_wp2_with (fail)
          refine hH.mono ?_
          rintro e w2 ⟨rfl, hw2⟩
          obtain rfl := hw2.symm
          go_wp2_with (fail)
          refine hC.mono ?_
          rintro e w3 ⟨rfl, hF3⟩
          go_wp2
          exact ⟨rfl, OAns.lost HS.out hbq ((hFr.trans (Fr.al _ _)).trans hF3)⟩
        · have hbq' : q2.2.bad = false := by simpa using hbq
          have hC := oop_fine_prefixed (ih (show k ≤ f by omega)) hLa (B := w.heap.size + 1) (D := w1.heap.size) (by omega) (by rw [World.size_alloc]; omega) (by rw [World.size_alloc]; omega) hLna hsg hq3 hbq'
          clear hsg hbq hbq'
          generalize (sign (txt ts s1)).1 = o at *
          go_wp2_with (fail)
          refine hH.mono ?_
          rintro e w2 ⟨rfl, hw2⟩
          obtain rfl := hw2.symm
          go_wp2_with (fail)
          refine hC.mono ?_
          rintro e w3 ⟨v3, rfl, hl3, hL3, hF3⟩
          obtain ⟨k3, x3, m3, _, rfl, a3, n3, c3, rfl⟩ := hl3.shape
          have hb3 := hb1a.fr hF3 (by omega)
          have hb30 := hb0a.fr hF3 (by omega)
          have hz3 := hb3.lt
          obtain ⟨t0, t1, t2, t3, i0, i1, i2, i3⟩ := id hb3
          go_wp2
          go_roundg k
          case rel =>
            refine ⟨_, q2.2, k3, m3, x3, a3, n3, c3, HQ4.out, by omega, ?_, hb3.put, ?_, hL3.put4 (by omega) _ _ _ _, ((hFr.trans (Fr.al _ _)).trans hF3).put4 (by omega) _ _ _ _⟩
            · exact (((hb30.other (by omega) _).other (by omega) _).other (by omega) _).other (by omega) _
            · exact hl3.frP (x := w1.heap.size) (Fr.put _ _ _ _ _ _) (fun b hb => ⟨hb.2.2, hb.2.1⟩) (fun b hb => ⟨hb.1, hb.2.1, by simpa using hb.2.2⟩)
          case measure => omega
set_option maxHeartbeats 2000000 in
theorem oexpr {f : Nat} (ih : ∀ {g : Nat}, g ≤ f → Gives r G ts 250 (boundF ts g 1)) : Gives r G ts 235 (exprF ts (f + 2)) := by
  intro w s q hL hq
  have c24 : Tryz.prog.cellsOf 24 = 4 := by kernel_rfl
  have hmf : ∀ (fn : Fn) (first cap : Array Value) (w : World), (Instr.makeFunc fn first cap).run Tryz.prog w = .ok (.func fn first cap) w := fun _ _ _ _ => rfl
  have hr := hL.lt
  have hB0 := Box4.new w (.int .i64 0) (.string empty) (.int .i64 0) (.slice none 0 0) 24
  unfold exprF at hq
  rw [hL.ok, if_neg (by decide)] at hq
  unfold boundF at hq
  rw [if_neg (by decide)] at hq
  obtain ⟨q1, h1, h2⟩ := bind_some_is hq
  have HQ : Hid (boundL ts f 0 q1.1 q1.2 = some q) := h2
  clear hq h2
  go_enter Tryz.func235, Tryz.ntmps235
  go_wp2_with (fail)
  refine (ih (Nat.le_refl _) (hL.alloc _) h1).mono ?_
  rintro e w1 (⟨hb, rfl, hF1⟩ | ⟨hb, v1, rfl, hl1, hL1, hF1⟩)
  · go_wp2
    exact ⟨rfl, OAns.lost ((stuck ts f).bl _ _ _ _ hb HQ.out) hb ((Fr.al _ _).trans hF1)⟩
  obtain ⟨k0, x0, m0, _, rfl, a0, n0, c0, rfl⟩ := hl1.shape
  have z1 := hF1.size
  rw [World.size_alloc] at z1 hl1
  have hLr := hL1.alloc (.cells #[.int .i64 k0, .string x0, .int .i64 m0, .slice a0 n0 c0] 24)
  have hb0 := (hB0.fr hF1 (by omega)).alloc (.cells #[.int .i64 k0, .string x0, .int .i64 m0, .slice a0 n0 c0] 24)
  have hb1 := Box4.new w1 (.int .i64 k0) (.string x0) (.int .i64 m0) (.slice a0 n0 c0) 24
  have hFr := ((Fr.al w (.cells #[.int .i64 0, .string empty, .int .i64 0, .slice none 0 0] 24)).trans hF1).alloc (.cells #[.int .i64 k0, .string x0, .int .i64 m0, .slice a0 n0 c0] 24)
  have hLn := hl1.frP (x := r) (Q := fun b => w.heap.size + 1 ≤ b ∧ b ≠ w1.heap.size ∧ b < (w1.alloc (.cells #[.int .i64 k0, .string x0, .int .i64 m0, .slice a0 n0 c0] 24)).heap.size) (Fr.al w1 (.cells #[.int .i64 k0, .string x0, .int .i64 m0, .slice a0 n0 c0] 24)) (fun b hb => ⟨hb.2, by omega⟩) (fun b hb => ⟨by omega, by omega, by rw [World.size_alloc]; omega⟩)
  have hzr : (w1.alloc (.cells #[.int .i64 k0, .string x0, .int .i64 m0, .slice a0 n0 c0] 24)).heap.size = w1.heap.size + 1 := World.size_alloc _ _
  have hH := has_at0 (T := 9) (M := w1.heap.size + 1) hLr hzr.symm
  have hLa := hLr.alloc (.cells #[.string ⟨#[61, 61]⟩, .string ⟨#[60]⟩] 9)
  have hb1a := hb1.alloc (.cells #[.string ⟨#[61, 61]⟩, .string ⟨#[60]⟩] 9)
  have hb0a := hb0.alloc (.cells #[.string ⟨#[61, 61]⟩, .string ⟨#[60]⟩] 9)
  have hLna := hLn.frP (x := r) (Q := fun b => w.heap.size + 1 ≤ b ∧ b ≠ w1.heap.size ∧ b < ((w1.alloc (.cells #[.int .i64 k0, .string x0, .int .i64 m0, .slice a0 n0 c0] 24)).alloc (.cells #[.string ⟨#[61, 61]⟩, .string ⟨#[60]⟩] 9)).heap.size) (Fr.al _ (.cells #[.string ⟨#[61, 61]⟩, .string ⟨#[60]⟩] 9)) (fun b hb => ⟨hb.2.2, by omega⟩) (fun b hb => ⟨hb.1, hb.2.1, by rw [World.size_alloc]; omega⟩)
  cases f with
  | zero => have := HQ.out; unfold boundL at this; simp at this
  | succ k =>
    have hq2 := HQ.out
    clear HQ
    unfold boundL at hq2
    rw [hb, if_neg (by decide)] at hq2
    cases hs : ((sign (txt ts q1.2)).2 == 0)
    case false =>
      rw [hs] at hH
      have hne : ((sign (txt ts q1.2)).2 != ((0 : Nat) : Int)) = true := by simp only [bne]; rw [show ((0 : Nat) : Int) = 0 from rfl, hs]; rfl
      rw [hne, if_pos rfl] at hq2
      simp only [Option.some.injEq] at hq2
      subst hq2
      clear hs hne
      obtain ⟨t0, t1, t2, t3, i0, i1, i2, i3⟩ := hB0.fr hF1 (by omega)
      have hz0 : w.heap.size < w1.heap.size := by omega
      go_wp2_with (fail)
      refine hH.mono ?_
      rintro e w2 ⟨rfl, hw2⟩
      obtain rfl := hw2.symm
      go_wp2
      refine bodyPost_ret (v := .agg #[.int .i64 k0, .string x0, .int .i64 m0, .slice a0 n0 c0]) (by simp [results, Tryz.results235, go_sem, t0, t1, t2, t3, hz0]) rfl ?_
      have hput := Fr.put w1 w.heap.size (.int .i64 k0) (.string x0) (.int .i64 m0) (.slice a0 n0 c0)
      exact .inr ⟨hb, _, rfl, (hl1.frP (x := w.heap.size) hput (fun b hb => ⟨hb.2, by omega⟩) (fun b hb => hb)).frP (x := r) ((Fr.al _ _).trans (Fr.al _ _)) (fun b hb => ⟨by simpa using hb.2, by omega⟩) (fun b hb => ⟨by omega, by simp; omega⟩), ((hL1.put4 (by omega) _ _ _ _).alloc _).alloc _, ((((Fr.al _ _).trans hF1).put4 (Nat.le_refl _) _ _ _ _).alloc _).alloc _⟩
    case true =>
      rw [hs] at hH
      have hne : ((sign (txt ts q1.2)).2 != ((0 : Nat) : Int)) = false := by simp only [bne]; rw [show ((0 : Nat) : Int) = 0 from rfl, hs]; rfl
      rw [hne, if_neg (by decide)] at hq2
      obtain ⟨q2, hq3, hq4⟩ := bind_some_is hq2
      rw [if_pos (by decide)] at hq4
      simp only [Option.some.injEq] at hq4
      subst hq4
      have hsg : 0 ≤ (sign (txt ts q1.2)).2 := by rw [beq_iff_eq] at hs; rw [hs]; decide
      clear hq2 hs hne
      by_cases hbq : q2.2.bad = true
      · have hC := oop_lost_sum (k := k0) (m := m0) (x := x0) (a := a0) (nn := n0) (c := c0) (ih (show k ≤ k + 1 by omega)) hLa hsg hq3 hbq
        clear hsg
        go_wp2_with (fail)
        refine hH.mono ?_
        rintro e w2 ⟨rfl, hw2⟩
        obtain rfl := hw2.symm
        go_wp2_with (fail)
        refine hC.mono ?_
        rintro e w3 ⟨rfl, hF3⟩
        go_wp2
        exact ⟨rfl, OAns.lost rfl hbq ((hFr.trans (Fr.al _ _)).trans hF3)⟩
      · have hbq' : q2.2.bad = false := by simpa using hbq
        have hC := oop_fine_sum (ih (show k ≤ k + 1 by omega)) hLa (B := w.heap.size + 1) (D := w1.heap.size) (by omega) (by rw [World.size_alloc]; omega) (by rw [World.size_alloc]; omega) hLna hsg hq3 hbq'
        clear hsg hbq
        generalize (sign (txt ts q1.2)).1 = o at *
        go_wp2_with (fail)
        refine hH.mono ?_
        rintro e w2 ⟨rfl, hw2⟩
        obtain rfl := hw2.symm
        go_wp2_with (fail)
        refine hC.mono ?_
        rintro e w3 ⟨v3, rfl, hl3, hL3, hF3⟩
        obtain ⟨k3, x3, m3, _, rfl, a3, n3, c3, rfl⟩ := hl3.shape
        have hb3 := hb1a.fr hF3 (by omega)
        have hb30 := hb0a.fr hF3 (by omega)
        have hz3 := hb3.lt
        obtain ⟨t0, t1, t2, t3, i0, i1, i2, i3⟩ := id hb3
        obtain ⟨u0, u1, u2, u3, v0, v1, v2, v3⟩ := id hb30
        go_wp2
        refine bodyPost_ret (v := .agg #[.int .i64 k3, .string x3, .int .i64 m3, .slice a3 n3 c3]) (by simp [results, Tryz.results235, go_sem, u0, u1, u2, u3]) rfl ?_
        have hF4 : Fr r w _ := ((hFr.trans (Fr.al _ _)).trans hF3).put4 (N := w1.heap.size) (by omega) (.int .i64 k3) (.string x3) (.int .i64 m3) (.slice a3 n3 c3)
        have hl4 := hl3.frP (x := w1.heap.size) (Fr.put w3 w1.heap.size (.int .i64 k3) (.string x3) (.int .i64 m3) (.slice a3 n3 c3)) (fun b hb => ⟨hb.2.2, hb.2.1⟩) (fun b hb => hb)
        exact .inr ⟨hbq', _, rfl, hl4.frP (x := w.heap.size) (Fr.put _ _ _ _ _ _) (fun b hb => ⟨by simpa using hb.2.2, by omega⟩) (fun b hb => ⟨by omega, by simpa using hb.2.2⟩), (hL3.put4 (by omega) _ _ _ _).put4 (by omega) _ _ _ _, hF4.put4 (Nat.le_refl _) _ _ _ _⟩
end
end syn
end Go.Proofs.YtoobkaebahogdaaGreatDoor
