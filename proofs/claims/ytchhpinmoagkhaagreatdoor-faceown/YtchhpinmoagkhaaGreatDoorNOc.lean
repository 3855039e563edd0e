/- What the program's op answers, once what it calls does: a contract. -/
import Derived.Test.YtchhpinmoagkhaaGreatDoorProg
import Derived.WalkKit
import Derived.WalkLawsBesides
import Derived.Outline
import Derived.WalkSmall
import Derived.BigQuiet
import Derived.Deep.QuietTactic
import Derived.Test.YtchhpinmoagkhaaGreatDoorNOa
import Derived.Test.YtchhpinmoagkhaaGreatDoorNOb
namespace Go.Proofs.YtchhpinmoagkhaaGreatDoor.syn
open Go.RowKit
open Go.Proofs.YtchhpinmoagkhaaGreatDoor.lexs (Tok Fine)
set_option linter.unusedVariables false
set_option linter.unusedSimpArgs false
set_option maxRecDepth 100000

section
variable {w w' : World} {r G : Nat} {ts : List Tok} {s : St}
theorem Gives.lost {F : Nat} {g : St → Option (Tree × St)} (h : Gives r G ts F g) {q : Tree × St} (hL : Ld w r G ts s) (hq : g s = some q) (hb : q.2.bad = true) :
    Calls Tryz.prog F #[.pointer (some ⟨r, 0, none⟩)] w fun e w' => e = .panicked (Pan ts q.2) ∧ Fr r w w' :=
  (h hL hq).mono fun e w' h => by
    rcases h with ⟨_, h1, h2⟩ | ⟨h1, _⟩
    · exact ⟨h1, h2⟩
    · rw [hb] at h1; cases h1
theorem Gives.fine {F : Nat} {g : St → Option (Tree × St)} (h : Gives r G ts F g) {q : Tree × St} (hL : Ld w r G ts s) (hq : g s = some q) (hb : q.2.bad = false) :
    Calls Tryz.prog F #[.pointer (some ⟨r, 0, none⟩)] w fun e w' => ∃ v, e = .returned v ∧ Lies (fun b => w.heap.size ≤ b ∧ b < w'.heap.size) w' q.1 v ∧ Ld w' r G ts q.2 ∧ Fr r w w' :=
  (h hL hq).mono fun e w' h => by
    rcases h with ⟨h1, _⟩ | ⟨_, h1⟩
    · rw [hb] at h1; cases h1
    · exact h1
theorem Lies.rowed2P {P Q : Nat → Prop} {W : World} {t t' : Tree} {y0 y1 y2 y3 z0 z1 z2 z3 : Value} {T : TypeId} {M c : Nat} {k m : Int} {x : ByteArray} (h : Lies P W t (.agg #[y0, y1, y2, y3])) (h' : Lies P W t' (.agg #[z0, z1, z2, z3])) (hlt : ∀ b, P b → b < W.heap.size) (hQ : ∀ b, P b → Q b) (hM : M = W.heap.size) (hQM : Q M) :
    Lies Q (W.alloc (.cells #[y0, y1, y2, y3, z0, z1, z2, z3] T)) (.node k x m [t, t']) (.agg #[.int .i64 k, .string x, .int .i64 m, .slice (some ⟨M, 0, none⟩) 2 c]) := by
  obtain ⟨c1, c2⟩ := cell4_two W (y0 := y0) (y1 := y1) (y2 := y2) (y3 := y3) (z0 := z0) (z1 := z1) (z2 := z2) (z3 := z3) (T := T) hM
  refine Lies.two hQM c1 c2 ?_ ?_
  · exact h.to hQ (fun b hb o => ((Below.refl W.heap.size W).alloc (Nat.le_refl _) _).cell (p := ⟨b, o, none⟩) (hlt b hb))
  · exact h'.to hQ (fun b hb o => ((Below.refl W.heap.size W).alloc (Nat.le_refl _) _).cell (p := ⟨b, o, none⟩) (hlt b hb))
theorem sign_empty : sign empty = (0, -1) := by rw [sign_data]; decide
theorem sign_raw (hL : Ld w r G ts s) (h : 0 ≤ (sign (txt ts s)).2) : ∃ hlt : s.i < ts.length, raw ts[s.i] = txt ts s := by
  have hlt := sign_lt h
  refine ⟨hlt, ?_⟩
  unfold txt at h ⊢
  rw [here_is hL.ok, lt_get hlt] at h ⊢
  simp only at h ⊢
  split at h
  · rw [sign_empty] at h
    exact absurd h (by decide)
  · rename_i hk
    rw [if_neg hk]
    rfl
/-- op: the sign that stands here, and what stands behind it -/
theorem oop_fine_sum {g : St → Option (Tree × St)} (ih : Gives r G ts 189 g) (hL : Ld w r G ts s) {B D : Nat} (hB : r < B) (hBw : B ≤ w.heap.size) (hD : D < w.heap.size) {n : Tree} {k m : Int} {x : ByteArray} {a : Option Addr} {nn c : Nat}
    (hl : Lies (fun b => B ≤ b ∧ b ≠ D ∧ b < w.heap.size) w n (.agg #[.int .i64 k, .string x, .int .i64 m, .slice a nn c])) (hs : 0 ≤ (sign (txt ts s)).2) {q : Tree × St} (hq : g s.next = some q) (hb : q.2.bad = false) :
    Calls Tryz.prog 190 #[.pointer (some ⟨r, 0, none⟩), .agg #[.int .i64 k, .string x, .int .i64 m, .slice a nn c], .func (.func 189) #[.pointer (some ⟨r, 0, none⟩)] #[]] w fun e w' =>
      ∃ v, e = .returned v ∧ Lies (fun b => B ≤ b ∧ b ≠ D ∧ b < w'.heap.size) w' (.node 19 empty (sign (txt ts s)).1 [n, q.1]) v ∧ Ld w' r G ts q.2 ∧ Fr r w w' := by
  have c24 : Tryz.prog.cellsOf 24 = 4 := by kernel_rfl
  have hr := hL.lt
  obtain ⟨hlt, hraw⟩ := sign_raw hL hs
  have hL0 := (hL.alloc (.cells #[.int .i64 k, .string x, .int .i64 m, .slice a nn c] 24)).alloc (.cells #[.int .i64 0, .string empty, .int .i64 0, .slice none 0 0] 24)
  have hB1 := (Box4.new w (.int .i64 k) (.string x) (.int .i64 m) (.slice a nn c) 24).alloc (.cells #[.int .i64 0, .string empty, .int .i64 0, .slice none 0 0] 24)
  have hB2 := Box4.new (w.alloc (.cells #[.int .i64 k, .string x, .int .i64 m, .slice a nn c] 24)) (.int .i64 0) (.string empty) (.int .i64 0) (.slice none 0 0) 24
  rw [World.size_alloc] at hB2
  have hN := onext hL0 hlt
  rw [hraw] at hN
  have hO := fun w hw => oopOf (txt ts s) w hw hs
  generalize (sign (txt ts s)).1 = o at *
  generalize txt ts s = y at *
  go_enter Tryz.func190, Tryz.ntmps190
  go_wp2_with (fail)
  refine hN.mono ?_
  rintro e w1 ⟨rfl, hL1, hF1⟩
  go_wp2_with (fail)
  refine (hO _ hL1.ops).mono ?_
  rintro e w2 ⟨rfl, hb2⟩
  have hL2 := hL1.below hb2
  have hF2 : Fr r w1 w2 := Fr.below hb2
  have hB1' := (hB1.fr hF1 (by omega)).fr hF2 (by omega)
  have hB2' := (hB2.fr hF1 (by omega)).fr hF2 (by omega)
  obtain ⟨p0, p1, p2, p3, e0, e1, e2, e3⟩ := id hB1'
  have hz : w.heap.size + 1 < w2.heap.size := hB2'.lt
  have z1 : w.heap.size + 2 ≤ w1.heap.size := by have := hF1.size; simpa using this
  have z2 := hF2.size
  go_wp2
  go_region_with (go_at_call 189; refine (ih.fine (hL2.drewN 1) hq hb).mono ?_; rintro e w3 ⟨v3, rfl, hl3, hL3, hF3⟩; obtain ⟨k3, x3, m3, _, rfl, a3, n3, c3, rfl⟩ := hl3.shape; obtain ⟨g0, g1, g2, g3, _, _, _, _⟩ := (hB1'.drewN 1).fr hF3 (by omega); obtain ⟨f0, f1, f2, f3, i0, i1, i2, i3⟩ := (hB2'.drewN 1).fr hF3 (by omega); have z3 : w.heap.size + 1 < w3.heap.size := ((hB2'.drewN 1).fr hF3 (by omega)).lt)
  all_goals
    go_wp2
    refine bodyPost_ret (v := .agg #[.int .i64 19, .string empty, .int .i64 o, .slice (some ⟨w3.heap.size, 0, none⟩) 2 2]) (by simp [results, Tryz.results190, go_sem, f0, f1, f2, f3, z3, empty]) rfl ?_
    have hFw : Fr r w w3 := (((((Fr.al _ _).trans (Fr.al _ _)).trans hF1).trans hF2).drewN 1).trans hF3
    have y3 := hF3.size
    have y3' : w2.heap.size ≤ w3.heap.size := y3
    have n3' : Lies (fun b => B ≤ b ∧ b ≠ D ∧ b < w3.heap.size ∧ b ≠ w.heap.size + 1) w3 n (.agg #[.int .i64 k, .string x, .int .i64 m, .slice a nn c]) := hl.frP (x := r) hFw (fun b hb => ⟨hb.2.2, by omega⟩) (fun b hb => ⟨hb.1, hb.2.1, by omega, by omega⟩)
    have m3' : Lies (fun b => B ≤ b ∧ b ≠ D ∧ b < w3.heap.size ∧ b ≠ w.heap.size + 1) w3 q.1 (.agg #[.int .i64 k3, .string x3, .int .i64 m3, .slice a3 n3 c3]) := hl3.to (fun b hb => by
      have h1 : w2.heap.size ≤ b := hb.1
      exact ⟨by omega, by omega, hb.2, by omega⟩) (fun _ _ _ => rfl)
    have hput := Fr.put w3 (w.heap.size + 1) (.int .i64 19) (.string empty) (.int .i64 o) (.slice (some ⟨w3.heap.size, 0, none⟩) 2 2)
    have n4 := n3'.frP (x := w.heap.size + 1) hput (fun b hb => ⟨hb.2.2.1, hb.2.2.2⟩) (fun b hb => hb)
    have m4 := m3'.frP (x := w.heap.size + 1) hput (fun b hb => ⟨hb.2.2.1, hb.2.2.2⟩) (fun b hb => hb)
    exact ⟨_, rfl, n4.rowed2P m4 (fun b hb => by simpa using hb.2.2.1) (fun b hb => ⟨hb.1, hb.2.1, by simp; omega⟩) (by simp) ⟨by omega, by omega, by simp⟩, (hL3.put4 (by omega) _ _ _ _).alloc _, (hFw.put4 (by omega) _ _ _ _).alloc _⟩
theorem oop_lost_sum {g : St → Option (Tree × St)} (ih : Gives r G ts 189 g) (hL : Ld w r G ts s) {k m : Int} {x : ByteArray} {a : Option Addr} {nn c : Nat}
    (hs : 0 ≤ (sign (txt ts s)).2) {q : Tree × St} (hq : g s.next = some q) (hb : q.2.bad = true) :
    Calls Tryz.prog 190 #[.pointer (some ⟨r, 0, none⟩), .agg #[.int .i64 k, .string x, .int .i64 m, .slice a nn c], .func (.func 189) #[.pointer (some ⟨r, 0, none⟩)] #[]] w fun e w' => e = .panicked (Pan ts q.2) ∧ Fr r w w' := by
  have c24 : Tryz.prog.cellsOf 24 = 4 := by kernel_rfl
  have hr := hL.lt
  obtain ⟨hlt, hraw⟩ := sign_raw hL hs
  have hL0 := (hL.alloc (.cells #[.int .i64 k, .string x, .int .i64 m, .slice a nn c] 24)).alloc (.cells #[.int .i64 0, .string empty, .int .i64 0, .slice none 0 0] 24)
  have hB1 := (Box4.new w (.int .i64 k) (.string x) (.int .i64 m) (.slice a nn c) 24).alloc (.cells #[.int .i64 0, .string empty, .int .i64 0, .slice none 0 0] 24)
  have hN := onext hL0 hlt
  rw [hraw] at hN
  have hO := fun w hw => oopOf (txt ts s) w hw hs
  generalize (sign (txt ts s)).1 = o at *
  generalize txt ts s = y at *
  go_enter Tryz.func190, Tryz.ntmps190
  go_wp2_with (fail)
  refine hN.mono ?_
  rintro e w1 ⟨rfl, hL1, hF1⟩
  go_wp2_with (fail)
  refine (hO _ hL1.ops).mono ?_
  rintro e w2 ⟨rfl, hb2⟩
  have hL2 := hL1.below hb2
  have hF2 : Fr r w1 w2 := Fr.below hb2
  obtain ⟨p0, p1, p2, p3, _, _, _, _⟩ := (hB1.fr hF1 (by omega)).fr hF2 (by omega)
  go_wp2
  refine wp_region_any (by kernel_rfl) ?_
  change wpAny _ _ _ _ _ _ _ (World.drew _)
  refine wpAny_take (i := 0) (v := .int .i64 o) rfl (by kernel_rfl) (by kernel_rfl) (by kernel_rfl) (fun _ _ _ h => h) (Or.inl ⟨by rfl, fun w => by go_simp⟩) ?_
  refine wpAny_take (i := 2) (v := .func (.func 189) #[.pointer (some ⟨r, 0, none⟩)] #[]) rfl (by kernel_rfl) (by kernel_rfl) (by kernel_rfl) (fun _ _ _ h => h) (Or.inl ⟨by rfl, fun w => by go_simp⟩) ?_
  refine wpAny_ready (rs := [1, 3]) (by kernel_rfl) (by simp) ?_
  refine AllReady.cons rfl (fun K hK => ?_) ?_
  · go_simp
    refine hK _ _ ?_
    clear hK K
    refine wpAny_ready (rs := [3]) (by kernel_rfl) (by simp) ?_
    refine AllReady.cons rfl (fun K hK => ?_) AllReady.nil
    go_simp
    go_at_call 189
    refine (ih.lost (hL2.drewN 1) hq hb).mono ?_
    rintro e w3 ⟨rfl, hF3⟩
    go_wp2
    exact ⟨rfl, rfl, (((((Fr.al _ _).trans (Fr.al _ _)).trans hF1).trans hF2).drewN 1).trans hF3⟩
  refine AllReady.cons rfl (fun K hK => ?_) AllReady.nil
  go_simp
  go_at_call 189
  refine (ih.lost (hL2.drewN 1) hq hb).mono ?_
  rintro e w3 ⟨rfl, hF3⟩
  go_wp2
  exact ⟨rfl, rfl, (((((Fr.al _ _).trans (Fr.al _ _)).trans hF1).trans hF2).drewN 1).trans hF3⟩
/-- op: the sign that stands here, and what stands behind it -/
theorem oop_fine_product {g : St → Option (Tree × St)} (ih : Gives r G ts 198 g) (hL : Ld w r G ts s) {B D : Nat} (hB : r < B) (hBw : B ≤ w.heap.size) (hD : D < w.heap.size) {n : Tree} {k m : Int} {x : ByteArray} {a : Option Addr} {nn c : Nat}
    (hl : Lies (fun b => B ≤ b ∧ b ≠ D ∧ b < w.heap.size) w n (.agg #[.int .i64 k, .string x, .int .i64 m, .slice a nn c])) (hs : 0 ≤ (sign (txt ts s)).2) {q : Tree × St} (hq : g s.next = some q) (hb : q.2.bad = false) :
    Calls Tryz.prog 190 #[.pointer (some ⟨r, 0, none⟩), .agg #[.int .i64 k, .string x, .int .i64 m, .slice a nn c], .func (.func 198) #[.pointer (some ⟨r, 0, none⟩)] #[]] w fun e w' =>
      ∃ v, e = .returned v ∧ Lies (fun b => B ≤ b ∧ b ≠ D ∧ b < w'.heap.size) w' (.node 19 empty (sign (txt ts s)).1 [n, q.1]) v ∧ Ld w' r G ts q.2 ∧ Fr r w w' := by
  have c24 : Tryz.prog.cellsOf 24 = 4 := by kernel_rfl
  have hr := hL.lt
  obtain ⟨hlt, hraw⟩ := sign_raw hL hs
  have hL0 := (hL.alloc (.cells #[.int .i64 k, .string x, .int .i64 m, .slice a nn c] 24)).alloc (.cells #[.int .i64 0, .string empty, .int .i64 0, .slice none 0 0] 24)
  have hB1 := (Box4.new w (.int .i64 k) (.string x) (.int .i64 m) (.slice a nn c) 24).alloc (.cells #[.int .i64 0, .string empty, .int .i64 0, .slice none 0 0] 24)
  have hB2 := Box4.new (w.alloc (.cells #[.int .i64 k, .string x, .int .i64 m, .slice a nn c] 24)) (.int .i64 0) (.string empty) (.int .i64 0) (.slice none 0 0) 24
  rw [World.size_alloc] at hB2
  have hN := onext hL0 hlt
  rw [hraw] at hN
  have hO := fun w hw => oopOf (txt ts s) w hw hs
  generalize (sign (txt ts s)).1 = o at *
  generalize txt ts s = y at *
  go_enter Tryz.func190, Tryz.ntmps190
  go_wp2_with (fail)
  refine hN.mono ?_
  rintro e w1 ⟨rfl, hL1, hF1⟩
  go_wp2_with (fail)
  refine (hO _ hL1.ops).mono ?_
  rintro e w2 ⟨rfl, hb2⟩
  have hL2 := hL1.below hb2
  have hF2 : Fr r w1 w2 := Fr.below hb2
  have hB1' := (hB1.fr hF1 (by omega)).fr hF2 (by omega)
  have hB2' := (hB2.fr hF1 (by omega)).fr hF2 (by omega)
  obtain ⟨p0, p1, p2, p3, e0, e1, e2, e3⟩ := id hB1'
  have hz : w.heap.size + 1 < w2.heap.size := hB2'.lt
  have z1 : w.heap.size + 2 ≤ w1.heap.size := by have := hF1.size; simpa using this
  have z2 := hF2.size
  go_wp2
  go_region_with (go_at_call 198; refine (ih.fine (hL2.drewN 1) hq hb).mono ?_; rintro e w3 ⟨v3, rfl, hl3, hL3, hF3⟩; obtain ⟨k3, x3, m3, _, rfl, a3, n3, c3, rfl⟩ := hl3.shape; obtain ⟨g0, g1, g2, g3, _, _, _, _⟩ := (hB1'.drewN 1).fr hF3 (by omega); obtain ⟨f0, f1, f2, f3, i0, i1, i2, i3⟩ := (hB2'.drewN 1).fr hF3 (by omega); have z3 : w.heap.size + 1 < w3.heap.size := ((hB2'.drewN 1).fr hF3 (by omega)).lt)
  all_goals
    go_wp2
    refine bodyPost_ret (v := .agg #[.int .i64 19, .string empty, .int .i64 o, .slice (some ⟨w3.heap.size, 0, none⟩) 2 2]) (by simp [results, Tryz.results190, go_sem, f0, f1, f2, f3, z3, empty]) rfl ?_
    have hFw : Fr r w w3 := (((((Fr.al _ _).trans (Fr.al _ _)).trans hF1).trans hF2).drewN 1).trans hF3
    have y3 := hF3.size
    have y3' : w2.heap.size ≤ w3.heap.size := y3
    have n3' : Lies (fun b => B ≤ b ∧ b ≠ D ∧ b < w3.heap.size ∧ b ≠ w.heap.size + 1) w3 n (.agg #[.int .i64 k, .string x, .int .i64 m, .slice a nn c]) := hl.frP (x := r) hFw (fun b hb => ⟨hb.2.2, by omega⟩) (fun b hb => ⟨hb.1, hb.2.1, by omega, by omega⟩)
    have m3' : Lies (fun b => B ≤ b ∧ b ≠ D ∧ b < w3.heap.size ∧ b ≠ w.heap.size + 1) w3 q.1 (.agg #[.int .i64 k3, .string x3, .int .i64 m3, .slice a3 n3 c3]) := hl3.to (fun b hb => by
      have h1 : w2.heap.size ≤ b := hb.1
      exact ⟨by omega, by omega, hb.2, by omega⟩) (fun _ _ _ => rfl)
    have hput := Fr.put w3 (w.heap.size + 1) (.int .i64 19) (.string empty) (.int .i64 o) (.slice (some ⟨w3.heap.size, 0, none⟩) 2 2)
    have n4 := n3'.frP (x := w.heap.size + 1) hput (fun b hb => ⟨hb.2.2.1, hb.2.2.2⟩) (fun b hb => hb)
    have m4 := m3'.frP (x := w.heap.size + 1) hput (fun b hb => ⟨hb.2.2.1, hb.2.2.2⟩) (fun b hb => hb)
    exact ⟨_, rfl, n4.rowed2P m4 (fun b hb => by simpa using hb.2.2.1) (fun b hb => ⟨hb.1, hb.2.1, by simp; omega⟩) (by simp) ⟨by omega, by omega, by simp⟩, (hL3.put4 (by omega) _ _ _ _).alloc _, (hFw.put4 (by omega) _ _ _ _).alloc _⟩
theorem oop_lost_product {g : St → Option (Tree × St)} (ih : Gives r G ts 198 g) (hL : Ld w r G ts s) {k m : Int} {x : ByteArray} {a : Option Addr} {nn c : Nat}
    (hs : 0 ≤ (sign (txt ts s)).2) {q : Tree × St} (hq : g s.next = some q) (hb : q.2.bad = true) :
    Calls Tryz.prog 190 #[.pointer (some ⟨r, 0, none⟩), .agg #[.int .i64 k, .string x, .int .i64 m, .slice a nn c], .func (.func 198) #[.pointer (some ⟨r, 0, none⟩)] #[]] w fun e w' => e = .panicked (Pan ts q.2) ∧ Fr r w w' := by
  have c24 : Tryz.prog.cellsOf 24 = 4 := by kernel_rfl
  have hr := hL.lt
  obtain ⟨hlt, hraw⟩ := sign_raw hL hs
  have hL0 := (hL.alloc (.cells #[.int .i64 k, .string x, .int .i64 m, .slice a nn c] 24)).alloc (.cells #[.int .i64 0, .string empty, .int .i64 0, .slice none 0 0] 24)
  have hB1 := (Box4.new w (.int .i64 k) (.string x) (.int .i64 m) (.slice a nn c) 24).alloc (.cells #[.int .i64 0, .string empty, .int .i64 0, .slice none 0 0] 24)
  have hN := onext hL0 hlt
  rw [hraw] at hN
  have hO := fun w hw => oopOf (txt ts s) w hw hs
  generalize (sign (txt ts s)).1 = o at *
  generalize txt ts s = y at *
  go_enter Tryz.func190, Tryz.ntmps190
  go_wp2_with (fail)
  refine hN.mono ?_
  rintro e w1 ⟨rfl, hL1, hF1⟩
  go_wp2_with (fail)
  refine (hO _ hL1.ops).mono ?_
  rintro e w2 ⟨rfl, hb2⟩
  have hL2 := hL1.below hb2
  have hF2 : Fr r w1 w2 := Fr.below hb2
  obtain ⟨p0, p1, p2, p3, _, _, _, _⟩ := (hB1.fr hF1 (by omega)).fr hF2 (by omega)
  go_wp2
  refine wp_region_any (by kernel_rfl) ?_
  change wpAny _ _ _ _ _ _ _ (World.drew _)
  refine wpAny_take (i := 0) (v := .int .i64 o) rfl (by kernel_rfl) (by kernel_rfl) (by kernel_rfl) (fun _ _ _ h => h) (Or.inl ⟨by rfl, fun w => by go_simp⟩) ?_
  refine wpAny_take (i := 2) (v := .func (.func 198) #[.pointer (some ⟨r, 0, none⟩)] #[]) rfl (by kernel_rfl) (by kernel_rfl) (by kernel_rfl) (fun _ _ _ h => h) (Or.inl ⟨by rfl, fun w => by go_simp⟩) ?_
  refine wpAny_ready (rs := [1, 3]) (by kernel_rfl) (by simp) ?_
  refine AllReady.cons rfl (fun K hK => ?_) ?_
  · go_simp
    refine hK _ _ ?_
    clear hK K
    refine wpAny_ready (rs := [3]) (by kernel_rfl) (by simp) ?_
    refine AllReady.cons rfl (fun K hK => ?_) AllReady.nil
    go_simp
    go_at_call 198
    refine (ih.lost (hL2.drewN 1) hq hb).mono ?_
    rintro e w3 ⟨rfl, hF3⟩
    go_wp2
    exact ⟨rfl, rfl, (((((Fr.al _ _).trans (Fr.al _ _)).trans hF1).trans hF2).drewN 1).trans hF3⟩
  refine AllReady.cons rfl (fun K hK => ?_) AllReady.nil
  go_simp
  go_at_call 198
  refine (ih.lost (hL2.drewN 1) hq hb).mono ?_
  rintro e w3 ⟨rfl, hF3⟩
  go_wp2
  exact ⟨rfl, rfl, (((((Fr.al _ _).trans (Fr.al _ _)).trans hF1).trans hF2).drewN 1).trans hF3⟩
/-- op: the sign that stands here, and what stands behind it -/
theorem oop_fine_prefixed {g : St → Option (Tree × St)} (ih : Gives r G ts 207 g) (hL : Ld w r G ts s) {B D : Nat} (hB : r < B) (hBw : B ≤ w.heap.size) (hD : D < w.heap.size) {n : Tree} {k m : Int} {x : ByteArray} {a : Option Addr} {nn c : Nat}
    (hl : Lies (fun b => B ≤ b ∧ b ≠ D ∧ b < w.heap.size) w n (.agg #[.int .i64 k, .string x, .int .i64 m, .slice a nn c])) (hs : 0 ≤ (sign (txt ts s)).2) {q : Tree × St} (hq : g s.next = some q) (hb : q.2.bad = false) :
    Calls Tryz.prog 190 #[.pointer (some ⟨r, 0, none⟩), .agg #[.int .i64 k, .string x, .int .i64 m, .slice a nn c], .func (.func 207) #[.pointer (some ⟨r, 0, none⟩)] #[]] w fun e w' =>
      ∃ v, e = .returned v ∧ Lies (fun b => B ≤ b ∧ b ≠ D ∧ b < w'.heap.size) w' (.node 19 empty (sign (txt ts s)).1 [n, q.1]) v ∧ Ld w' r G ts q.2 ∧ Fr r w w' := by
  have c24 : Tryz.prog.cellsOf 24 = 4 := by kernel_rfl
  have hr := hL.lt
  obtain ⟨hlt, hraw⟩ := sign_raw hL hs
  have hL0 := (hL.alloc (.cells #[.int .i64 k, .string x, .int .i64 m, .slice a nn c] 24)).alloc (.cells #[.int .i64 0, .string empty, .int .i64 0, .slice none 0 0] 24)
  have hB1 := (Box4.new w (.int .i64 k) (.string x) (.int .i64 m) (.slice a nn c) 24).alloc (.cells #[.int .i64 0, .string empty, .int .i64 0, .slice none 0 0] 24)
  have hB2 := Box4.new (w.alloc (.cells #[.int .i64 k, .string x, .int .i64 m, .slice a nn c] 24)) (.int .i64 0) (.string empty) (.int .i64 0) (.slice none 0 0) 24
  rw [World.size_alloc] at hB2
  have hN := onext hL0 hlt
  rw [hraw] at hN
  have hO := fun w hw => oopOf (txt ts s) w hw hs
  generalize (sign (txt ts s)).1 = o at *
  generalize txt ts s = y at *
  go_enter Tryz.func190, Tryz.ntmps190
  go_wp2_with (fail)
  refine hN.mono ?_
  rintro e w1 ⟨rfl, hL1, hF1⟩
  go_wp2_with (fail)
  refine (hO _ hL1.ops).mono ?_
  rintro e w2 ⟨rfl, hb2⟩
  have hL2 := hL1.below hb2
  have hF2 : Fr r w1 w2 := Fr.below hb2
  have hB1' := (hB1.fr hF1 (by omega)).fr hF2 (by omega)
  have hB2' := (hB2.fr hF1 (by omega)).fr hF2 (by omega)
  obtain ⟨p0, p1, p2, p3, e0, e1, e2, e3⟩ := id hB1'
  have hz : w.heap.size + 1 < w2.heap.size := hB2'.lt
  have z1 : w.heap.size + 2 ≤ w1.heap.size := by have := hF1.size; simpa using this
  have z2 := hF2.size
  go_wp2
  go_region_with (go_at_call 207; refine (ih.fine (hL2.drewN 1) hq hb).mono ?_; rintro e w3 ⟨v3, rfl, hl3, hL3, hF3⟩; obtain ⟨k3, x3, m3, _, rfl, a3, n3, c3, rfl⟩ := hl3.shape; obtain ⟨g0, g1, g2, g3, _, _, _, _⟩ := (hB1'.drewN 1).fr hF3 (by omega); obtain ⟨f0, f1, f2, f3, i0, i1, i2, i3⟩ := (hB2'.drewN 1).fr hF3 (by omega); have z3 : w.heap.size + 1 < w3.heap.size := ((hB2'.drewN 1).fr hF3 (by omega)).lt)
  all_goals
    go_wp2
    refine bodyPost_ret (v := .agg #[.int .i64 19, .string empty, .int .i64 o, .slice (some ⟨w3.heap.size, 0, none⟩) 2 2]) (by simp [results, Tryz.results190, go_sem, f0, f1, f2, f3, z3, empty]) rfl ?_
    have hFw : Fr r w w3 := (((((Fr.al _ _).trans (Fr.al _ _)).trans hF1).trans hF2).drewN 1).trans hF3
    have y3 := hF3.size
    have y3' : w2.heap.size ≤ w3.heap.size := y3
    have n3' : Lies (fun b => B ≤ b ∧ b ≠ D ∧ b < w3.heap.size ∧ b ≠ w.heap.size + 1) w3 n (.agg #[.int .i64 k, .string x, .int .i64 m, .slice a nn c]) := hl.frP (x := r) hFw (fun b hb => ⟨hb.2.2, by omega⟩) (fun b hb => ⟨hb.1, hb.2.1, by omega, by omega⟩)
    have m3' : Lies (fun b => B ≤ b ∧ b ≠ D ∧ b < w3.heap.size ∧ b ≠ w.heap.size + 1) w3 q.1 (.agg #[.int .i64 k3, .string x3, .int .i64 m3, .slice a3 n3 c3]) := hl3.to (fun b hb => by
      have h1 : w2.heap.size ≤ b := hb.1
      exact ⟨by omega, by omega, hb.2, by omega⟩) (fun _ _ _ => rfl)
    have hput := Fr.put w3 (w.heap.size + 1) (.int .i64 19) (.string empty) (.int .i64 o) (.slice (some ⟨w3.heap.size, 0, none⟩) 2 2)
    have n4 := n3'.frP (x := w.heap.size + 1) hput (fun b hb => ⟨hb.2.2.1, hb.2.2.2⟩) (fun b hb => hb)
    have m4 := m3'.frP (x := w.heap.size + 1) hput (fun b hb => ⟨hb.2.2.1, hb.2.2.2⟩) (fun b hb => hb)
    exact ⟨_, rfl, n4.rowed2P m4 (fun b hb => by simpa using hb.2.2.1) (fun b hb => ⟨hb.1, hb.2.1, by simp; omega⟩) (by simp) ⟨by omega, by omega, by simp⟩, (hL3.put4 (by omega) _ _ _ _).alloc _, (hFw.put4 (by omega) _ _ _ _).alloc _⟩
theorem oop_lost_prefixed {g : St → Option (Tree × St)} (ih : Gives r G ts 207 g) (hL : Ld w r G ts s) {k m : Int} {x : ByteArray} {a : Option Addr} {nn c : Nat}
    (hs : 0 ≤ (sign (txt ts s)).2) {q : Tree × St} (hq : g s.next = some q) (hb : q.2.bad = true) :
    Calls Tryz.prog 190 #[.pointer (some ⟨r, 0, none⟩), .agg #[.int .i64 k, .string x, .int .i64 m, .slice a nn c], .func (.func 207) #[.pointer (some ⟨r, 0, none⟩)] #[]] w fun e w' => e = .panicked (Pan ts q.2) ∧ Fr r w w' := by
  have c24 : Tryz.prog.cellsOf 24 = 4 := by kernel_rfl
  have hr := hL.lt
  obtain ⟨hlt, hraw⟩ := sign_raw hL hs
  have hL0 := (hL.alloc (.cells #[.int .i64 k, .string x, .int .i64 m, .slice a nn c] 24)).alloc (.cells #[.int .i64 0, .string empty, .int .i64 0, .slice none 0 0] 24)
  have hB1 := (Box4.new w (.int .i64 k) (.string x) (.int .i64 m) (.slice a nn c) 24).alloc (.cells #[.int .i64 0, .string empty, .int .i64 0, .slice none 0 0] 24)
  have hN := onext hL0 hlt
  rw [hraw] at hN
  have hO := fun w hw => oopOf (txt ts s) w hw hs
  generalize (sign (txt ts s)).1 = o at *
  generalize txt ts s = y at *
  go_enter Tryz.func190, Tryz.ntmps190
  go_wp2_with (fail)
  refine hN.mono ?_
  rintro e w1 ⟨rfl, hL1, hF1⟩
  go_wp2_with (fail)
  refine (hO _ hL1.ops).mono ?_
  rintro e w2 ⟨rfl, hb2⟩
  have hL2 := hL1.below hb2
  have hF2 : Fr r w1 w2 := Fr.below hb2
  obtain ⟨p0, p1, p2, p3, _, _, _, _⟩ := (hB1.fr hF1 (by omega)).fr hF2 (by omega)
  go_wp2
  refine wp_region_any (by kernel_rfl) ?_
  change wpAny _ _ _ _ _ _ _ (World.drew _)
  refine wpAny_take (i := 0) (v := .int .i64 o) rfl (by kernel_rfl) (by kernel_rfl) (by kernel_rfl) (fun _ _ _ h => h) (Or.inl ⟨by rfl, fun w => by go_simp⟩) ?_
  refine wpAny_take (i := 2) (v := .func (.func 207) #[.pointer (some ⟨r, 0, none⟩)] #[]) rfl (by kernel_rfl) (by kernel_rfl) (by kernel_rfl) (fun _ _ _ h => h) (Or.inl ⟨by rfl, fun w => by go_simp⟩) ?_
  refine wpAny_ready (rs := [1, 3]) (by kernel_rfl) (by simp) ?_
  refine AllReady.cons rfl (fun K hK => ?_) ?_
  · go_simp
    refine hK _ _ ?_
    clear hK K
    refine wpAny_ready (rs := [3]) (by kernel_rfl) (by simp) ?_
    refine AllReady.cons rfl (fun K hK => ?_) AllReady.nil
    go_simp
    go_at_call 207
    refine (ih.lost (hL2.drewN 1) hq hb).mono ?_
    rintro e w3 ⟨rfl, hF3⟩
    go_wp2
    exact ⟨rfl, rfl, (((((Fr.al _ _).trans (Fr.al _ _)).trans hF1).trans hF2).drewN 1).trans hF3⟩
  refine AllReady.cons rfl (fun K hK => ?_) AllReady.nil
  go_simp
  go_at_call 207
  refine (ih.lost (hL2.drewN 1) hq hb).mono ?_
  rintro e w3 ⟨rfl, hF3⟩
  go_wp2
  exact ⟨rfl, rfl, (((((Fr.al _ _).trans (Fr.al _ _)).trans hF1).trans hF2).drewN 1).trans hF3⟩
end
end Go.Proofs.YtchhpinmoagkhaaGreatDoor.syn
