/- What the program's stat answers, once those that it calls do: a contract. -/
import Derived.Deep.AppendLies
import Derived.Test.YtoobkaebahogdaaGreatDoorNB09
set_option linter.unusedVariables false
set_option linter.unusedSimpArgs false
set_option maxRecDepth 100000
namespace Go.Proofs.YtoobkaebahogdaaGreatDoor
namespace syn
open Go.RowKit
open Go.Proofs.YtoobkaebahogdaaGreatDoor.lexs (Tok Fine own_shape)

section
variable {w w' w0 : World} {r G B : Nat} {ts : List Tok} {s : St}
theorem OAns.kids {w3 : World} {s3 : St} {kv : Value} {ks : List Tree} {k m : Int} {x : ByteArray} {N B : Nat} (hr : r < w.heap.size) (hK : KO w B r G ts w3 s3 kv ks) (hN : w.heap.size ≤ N) (hB : N < B) (hl : ks.length ≤ 4611686018427387904) :
    OAns w r G ts (.node k x m ks, s3) (.returned (.agg #[.int .i64 k, .string x, .int .i64 m, kv])) ((((w3.setCell ⟨N, 0, none⟩ (.int .i64 k)).setCell ⟨N, 1, none⟩ (.string x)).setCell ⟨N, 2, none⟩ (.int .i64 m)).setCell ⟨N, 3, none⟩ kv) :=
  OAns.fin hr hK.fr hK.ld hN hB (hK.kids.lies (fun b hb => ⟨hb.1, hb.2.1⟩) (fun g hg => hK.kids.blk hg) hl)
set_option maxHeartbeats 4000000 in
theorem oblock {f : Nat} (hf : f ≤ 100000) (ihS : ∀ {g : Nat}, g ≤ f → Gives r G ts 213 (statF ts g)) : Gives r G ts 189 (blockF ts (f + 1)) := by
  intro w s q hL hq
  have c24 : Tryz.prog.cellsOf 24 = 4 := by kernel_rfl
  have hr := hL.lt
  obtain ⟨i0, hi, hz0, hz1', hz2⟩ := info_parts nodeInfo
  have hB0 := (Box4.new w (.int .i64 0) (.string empty) (.int .i64 0) (.slice none 0 0) 24).alloc (.cells #[.int .i64 6, .string empty, .int .i64 0, .slice none 0 0] 24)
  have hB1 := Box4.new (w.alloc (.cells #[.int .i64 0, .string empty, .int .i64 0, .slice none 0 0] 24)) (.int .i64 6) (.string empty) (.int .i64 0) (.slice none 0 0) 24
  rw [World.size_alloc] at hB1
  have hL0 := (hL.alloc (.cells #[.int .i64 0, .string empty, .int .i64 0, .slice none 0 0] 24)).alloc (.cells #[.int .i64 6, .string empty, .int .i64 0, .slice none 0 0] 24)
  unfold blockF at hq
  have hT := take_must (T := 9) hL0 ⟨#[123]⟩ (by decide) (M := w.heap.size + 2) (by simp)
  have HQ : Hid (blockL ts f [] (must ts ⟨#[123]⟩ s) = some q) := hq
  clear hq
  generalize must ts ⟨#[123]⟩ s = s0 at *
  go_enter Tryz.func189, Tryz.ntmps189
  go_wp2_with (fail)
  refine hT.mono ?_
  rintro e w1 ⟨y, ⟨hb, rfl, hF1⟩ | ⟨hb, rfl, hL1, hF1⟩⟩
  · go_wp2
    exact ⟨rfl, OAns.lost ((stuck2 ts f).bl _ _ _ hb HQ.out) hb (((Fr.al _ _).trans (Fr.al _ _)).trans hF1)⟩
  go_wp2
  go_loopg [] f (fun k wr => ∃ (ks : List Tree) (s1 : St) (kv : Value), Hid (blockL ts k ks s1 = some q) ∧ ks.length + k ≤ f ∧ KO w (w.heap.size + 2) r G ts wr s1 kv ks ∧ Box4 wr (w.heap.size + 1) (.int .i64 6) (.string empty) (.int .i64 0) kv ∧ Box4 wr w.heap.size (.int .i64 0) (.string empty) (.int .i64 0) (.slice none 0 0))
  case atStart =>
    exact ⟨[], s0, .slice none 0 0, HQ.out, by simp, ⟨hL1, hr, by omega, ((Fr.al _ _).trans (Fr.al _ _)).trans hF1, Kids.nil _ _ _⟩, hB1.fr hF1 (by omega), hB0.fr hF1 (by omega)⟩
  case round =>
    obtain ⟨ks, s1, kv, HL, hkf, hK, hb1, hb0⟩ := hrel
    clear HQ
    obtain ⟨a, c, rfl⟩ := hK.kids.shape
    cases gk with
    | zero => have := HL.out; unfold blockL at this; simp at this
    | succ k =>
      have hq2 := HL.out
      clear HL
      unfold blockL at hq2
      rw [hK.ld.ok, if_neg (by decide)] at hq2
      cases he : eqS (txt ts s1) ⟨#[125]⟩
      case true =>
        rw [he, if_pos rfl] at hq2
        simp only [Option.some.injEq] at hq2
        subst hq2
        go_wp2_with (fail)
        refine (skip_yes hK.ld ⟨#[125]⟩ (by decide) he rfl).mono ?_
        rintro e w2 ⟨rfl, hL2, hF2⟩
        have hK2 := hK.step hL2 hF2
        obtain ⟨p0, p1, p2, p3, _, _, _, _⟩ := hb1.fr hF2 (by omega)
        obtain ⟨t0, t1, t2, t3, u0, u1, u2, u3⟩ := hb0.fr hF2 (by omega)
        go_wp2
        exact bodyPost_ret (v := .agg #[.int .i64 6, .string empty, .int .i64 0, .slice a ks.length c]) (by simp [results, Tryz.results189, go_sem, t0, t1, t2, t3]) rfl (OAns.kids hr hK2 (Nat.le_refl _) (by omega) (by omega))
      case false =>
        rw [he, if_neg (by decide)] at hq2
        obtain ⟨q1, h1, hq3⟩ := bind_some_is hq2
        have HQ : Hid (blockL ts k (ks ++ [q1.1]) q1.2 = some q) := hq3
        clear hq2 hq3
        go_wp2_with (fail)
        refine (skip_no hK.ld ⟨#[125]⟩ (by decide) he rfl).mono ?_
        rintro e w2 ⟨rfl, hL2, hF2⟩
        have hK2 := hK.step hL2 hF2
        have hb12 := hb1.fr hF2 (by omega)
        have hb02 := hb0.fr hF2 (by omega)
        obtain ⟨p0, p1, p2, p3, _, _, _, _⟩ := id hb12
        have hS : Gives r G ts 213 (statF ts k) := ihS (by omega)
        by_cases hbq : q1.2.bad = true
        · have HS : Hid (q.2 = q1.2) := (stuck2 ts k).bl _ _ _ hbq HQ.out
          go_wp2
          refine wp_region_any (by kernel_rfl) ?_
          change wpAny _ _ _ _ _ _ _ (World.drew _)
          refine wpAny_take (i := 0) (v := .pointer (some ⟨w.heap.size + 1, 3, none⟩)) rfl (by kernel_rfl) (by kernel_rfl) (by kernel_rfl) (fun _ _ _ h => h) (Or.inl ⟨by rfl, fun w => by go_simp⟩) ?_
          refine wpAny_take (i := 2) (v := .pointer (some ⟨r, 0, none⟩)) rfl (by kernel_rfl) (by kernel_rfl) (by kernel_rfl) (fun _ _ _ h => h) (Or.inl ⟨by rfl, fun w => by go_simp⟩) ?_
          refine wpAny_ready (rs := [1, 3]) (by kernel_rfl) (by simp) ?_
          refine AllReady.cons rfl (fun K hK => ?_) ?_
          · go_simp
            refine hK _ _ ?_
            clear hK K
            refine wpAny_ready (rs := [3]) (by kernel_rfl) (by simp) ?_
            refine AllReady.cons rfl (fun K hK => ?_) AllReady.nil
            go_simp
            go_at_call 213
            refine (hS.lost (hL2.drewN 1) h1 hbq).mono ?_
            rintro e w4 ⟨rfl, hF4⟩
            go_wp2
            exact ⟨rfl, OAns.lost HS.out hbq ((hK2.fr.drewN 1).trans hF4)⟩
          refine AllReady.cons rfl (fun K hK => ?_) AllReady.nil
          go_simp
          go_at_call 213
          refine (hS.lost (hL2.drewN 1) h1 hbq).mono ?_
          rintro e w4 ⟨rfl, hF4⟩
          go_wp2
          exact ⟨rfl, OAns.lost HS.out hbq ((hK2.fr.drewN 1).trans hF4)⟩
        · have hbq' : q1.2.bad = false := by simpa using hbq
          go_wp2
          refine wp_region_any (by kernel_rfl) ?_
          change wpAny _ _ _ _ _ _ _ (World.drew _)
          refine wpAny_take (i := 0) (v := .pointer (some ⟨w.heap.size + 1, 3, none⟩)) rfl (by kernel_rfl) (by kernel_rfl) (by kernel_rfl) (fun _ _ _ h => h) (Or.inl ⟨by rfl, fun w => by go_simp⟩) ?_
          refine wpAny_take (i := 2) (v := .pointer (some ⟨r, 0, none⟩)) rfl (by kernel_rfl) (by kernel_rfl) (by kernel_rfl) (fun _ _ _ h => h) (Or.inl ⟨by rfl, fun w => by go_simp⟩) ?_
          refine wpAny_ready (rs := [1, 3]) (by kernel_rfl) (by simp) ?_
          refine AllReady.cons rfl (fun K hK => ?_) ?_
          · go_simp
            refine hK _ _ ?_
            clear hK K
            refine wpAny_ready (rs := [3]) (by kernel_rfl) (by simp) ?_
            refine AllReady.cons rfl (fun K hK => ?_) AllReady.nil
            go_simp
            go_at_call 213
            refine (hS.fine (hL2.drewN 1) h1 hbq').mono ?_
            rintro e w4 ⟨v4, rfl, hl4, hL4, hF4⟩
            obtain ⟨kc, yc, mc, _, rfl, ac, nc, cc, rfl⟩ := hl4.shape
            have hF24 : Fr r w2 w4 := ((Fr.refl r w2).drewN 1).trans hF4
            have hkb : ∀ g, (Value.slice a ks.length c).ownBlock = some g → w.heap.size + 2 ≤ g ∧ g < w2.heap.size := fun g hg => hK2.kids.blk hg
            have hK4 := hK2.step hL4 hF24
            have zz := hF24.size
            have z2 := hb12.lt
            have hlc : Lies (fun b => w.heap.size + 2 ≤ b ∧ b < w4.heap.size ∧ some b ≠ (Value.slice a ks.length c).ownBlock) w4 q1.1 (.agg #[.int .i64 kc, .string yc, .int .i64 mc, .slice ac nc cc]) :=
              hl4.to (fun b hb => by
                have h1 : w2.heap.size ≤ b := hb.1
                exact ⟨by omega, hb.2, fun e => by have := (hkb b e.symm).2; omega⟩) (fun _ _ _ => rfl)
            obtain ⟨vs, ho, ha⟩ := hK4.kids
            have HA : Hid (AllLie (fun b => w.heap.size + 2 ≤ b ∧ b < w4.heap.size ∧ some b ≠ (Value.slice a ks.length c).ownBlock) w4 ks vs) := ha
            have hlk : ks.length ≤ 100001 := by omega
            have hb14 := hb12.fr hF24 (by omega)
            have hb04 := hb02.fr hF24 (by omega)
            obtain ⟨g0, g1, g2, g3, _, _, _, _⟩ := id hb14
            have z4 : w.heap.size + 1 < w4.heap.size := hb14.lt
            have z4' : w.heap.size < w4.heap.size := hb04.lt
            clear ha
            go_wp2
            refine wpAny_ready (rs := [4]) (by kernel_rfl) (by simp) ?_
            refine AllReady.cons rfl (fun K hK => ?_) AllReady.nil
            go_simp
            refine hK _ _ ?_
            clear hK K
            refine wpAny_ready (rs := [5]) (by kernel_rfl) (by simp) ?_
            refine AllReady.cons rfl (fun K hK => ?_) AllReady.nil
            refine step_append_lies _ (by rfl) (.tmp 13) (.tmp 16) 22 (by rfl) (w.heap.size + 2) 24 i0 (.agg #[.int .i64 0, .string ⟨#[]⟩, .int .i64 0, .slice none 0 0]) 4 56 Tryz.underlying22 hi hz0 hz1' hz2 rfl (by decide) (.slice a ks.length c) ks.length (flat4 vs) rfl (ho.alloc _) ⟨w4.heap.size, 0, none⟩ 1 1 [.int .i64 kc, .string yc, .int .i64 mc, .slice ac nc cc] rfl rfl (cells4_new _ _ _ _ _ _ _ rfl) (by intro u hu; simp at hu; rcases hu with rfl | rfl | rfl | rfl <;> rfl) (by omega) (by unfold maxLen; omega) (by omega) (by simp; omega) (w4.heap.size + 1) (by simp) ?_
            intro g cap w5 hown' hgrow hat hlt
            refine hK _ _ ?_
            clear hK K
            have hK5 := KO.pushed (q := (.int .i64 kc, .string yc, .int .i64 mc, .slice ac nc cc)) (t := q1.1) hK4 ho HA.out hlc hown' hgrow (by rcases hat with e | e; exact .inl e.symm; exact .inr (by rw [e]; rfl))
            have hnb : (Value.slice a ks.length c).ownBlock ≠ some (w.heap.size + 1) := fun e => by have := (hkb _ e).1; omega
            have hnb0 : (Value.slice a ks.length c).ownBlock ≠ some w.heap.size := fun e => by have := (hkb _ e).1; omega
            have hb15 := (hb14.alloc (.cells #[.int .i64 kc, .string yc, .int .i64 mc, .slice ac nc cc] 24)).grown hgrow hnb
            have hb05 := (hb04.alloc (.cells #[.int .i64 kc, .string yc, .int .i64 mc, .slice ac nc cc] 24)).grown hgrow hnb0
            obtain ⟨e0, e1, e2, e3, d0, d1, d2, d3⟩ := id hb15
            refine wpAny_ready (rs := [6]) (by kernel_rfl) (by simp) ?_
            refine AllReady.cons rfl (fun K hK => ?_) AllReady.nil
            go_simp
            refine hK _ _ ?_
            clear hK K
            refine wpAny_ready (rs := [7]) (by kernel_rfl) (by simp) ?_
            refine AllReady.cons rfl (fun K hK => ?_) AllReady.nil
            go_simp
            refine hK _ _ ?_
            clear hK K
            refine wpAny_done (by kernel_rfl) ?_ _
            go_wp2
            go_roundg k
            case rel => exact ⟨ks ++ [q1.1], q1.2, _, HQ.out, by rw [List.length_append]; simp; omega, hK5.set (by omega) (by omega) 3 _, hb15.set3 _, hb05.other (by omega) _⟩
            case measure => omega
          refine AllReady.cons rfl (fun K hK => ?_) AllReady.nil
          go_simp
          go_at_call 213
          refine (hS.fine (hL2.drewN 1) h1 hbq').mono ?_
          rintro e w4 ⟨v4, rfl, hl4, hL4, hF4⟩
          obtain ⟨kc, yc, mc, _, rfl, ac, nc, cc, rfl⟩ := hl4.shape
          have hF24 : Fr r w2 w4 := ((Fr.refl r w2).drewN 1).trans hF4
          have hkb : ∀ g, (Value.slice a ks.length c).ownBlock = some g → w.heap.size + 2 ≤ g ∧ g < w2.heap.size := fun g hg => hK2.kids.blk hg
          have hK4 := hK2.step hL4 hF24
          have zz := hF24.size
          have z2 := hb12.lt
          have hlc : Lies (fun b => w.heap.size + 2 ≤ b ∧ b < w4.heap.size ∧ some b ≠ (Value.slice a ks.length c).ownBlock) w4 q1.1 (.agg #[.int .i64 kc, .string yc, .int .i64 mc, .slice ac nc cc]) :=
            hl4.to (fun b hb => by
              have h1 : w2.heap.size ≤ b := hb.1
              exact ⟨by omega, hb.2, fun e => by have := (hkb b e.symm).2; omega⟩) (fun _ _ _ => rfl)
          obtain ⟨vs, ho, ha⟩ := hK4.kids
          have HA : Hid (AllLie (fun b => w.heap.size + 2 ≤ b ∧ b < w4.heap.size ∧ some b ≠ (Value.slice a ks.length c).ownBlock) w4 ks vs) := ha
          have hlk : ks.length ≤ 100001 := by omega
          have hb14 := hb12.fr hF24 (by omega)
          have hb04 := hb02.fr hF24 (by omega)
          obtain ⟨g0, g1, g2, g3, _, _, _, _⟩ := id hb14
          have z4 : w.heap.size + 1 < w4.heap.size := hb14.lt
          have z4' : w.heap.size < w4.heap.size := hb04.lt
          clear ha
          go_wp2
          refine wpAny_ready (rs := [1, 4]) (by kernel_rfl) (by simp) ?_
          refine AllReady.cons rfl (fun K hK => ?_) ?_
          · go_simp
            refine hK _ _ ?_
            clear hK K
            refine wpAny_ready (rs := [4]) (by kernel_rfl) (by simp) ?_
            refine AllReady.cons rfl (fun K hK => ?_) AllReady.nil
            go_simp
            refine hK _ _ ?_
            clear hK K
            refine wpAny_ready (rs := [5]) (by kernel_rfl) (by simp) ?_
            refine AllReady.cons rfl (fun K hK => ?_) AllReady.nil
            refine step_append_lies _ (by rfl) (.tmp 13) (.tmp 16) 22 (by rfl) (w.heap.size + 2) 24 i0 (.agg #[.int .i64 0, .string ⟨#[]⟩, .int .i64 0, .slice none 0 0]) 4 56 Tryz.underlying22 hi hz0 hz1' hz2 rfl (by decide) (.slice a ks.length c) ks.length (flat4 vs) rfl (ho.alloc _) ⟨w4.heap.size, 0, none⟩ 1 1 [.int .i64 kc, .string yc, .int .i64 mc, .slice ac nc cc] rfl rfl (cells4_new _ _ _ _ _ _ _ rfl) (by intro u hu; simp at hu; rcases hu with rfl | rfl | rfl | rfl <;> rfl) (by omega) (by unfold maxLen; omega) (by omega) (by simp; omega) (w4.heap.size + 1) (by simp) ?_
            intro g cap w5 hown' hgrow hat hlt
            refine hK _ _ ?_
            clear hK K
            have hK5 := KO.pushed (q := (.int .i64 kc, .string yc, .int .i64 mc, .slice ac nc cc)) (t := q1.1) hK4 ho HA.out hlc hown' hgrow (by rcases hat with e | e; exact .inl e.symm; exact .inr (by rw [e]; rfl))
            have hnb : (Value.slice a ks.length c).ownBlock ≠ some (w.heap.size + 1) := fun e => by have := (hkb _ e).1; omega
            have hnb0 : (Value.slice a ks.length c).ownBlock ≠ some w.heap.size := fun e => by have := (hkb _ e).1; omega
            have hb15 := (hb14.alloc (.cells #[.int .i64 kc, .string yc, .int .i64 mc, .slice ac nc cc] 24)).grown hgrow hnb
            have hb05 := (hb04.alloc (.cells #[.int .i64 kc, .string yc, .int .i64 mc, .slice ac nc cc] 24)).grown hgrow hnb0
            obtain ⟨e0, e1, e2, e3, d0, d1, d2, d3⟩ := id hb15
            refine wpAny_ready (rs := [6]) (by kernel_rfl) (by simp) ?_
            refine AllReady.cons rfl (fun K hK => ?_) AllReady.nil
            go_simp
            refine hK _ _ ?_
            clear hK K
            refine wpAny_ready (rs := [7]) (by kernel_rfl) (by simp) ?_
            refine AllReady.cons rfl (fun K hK => ?_) AllReady.nil
            go_simp
            refine hK _ _ ?_
            clear hK K
            refine wpAny_done (by kernel_rfl) ?_ _
            go_wp2
            go_roundg k
            case rel => exact ⟨ks ++ [q1.1], q1.2, _, HQ.out, by rw [List.length_append]; simp; omega, hK5.set (by omega) (by omega) 3 _, hb15.set3 _, hb05.other (by omega) _⟩
            case measure => omega
          refine AllReady.cons rfl (fun K hK => ?_) AllReady.nil
          go_simp
          refine hK _ _ ?_
          clear hK K
          refine wpAny_ready (rs := [1]) (by kernel_rfl) (by simp) ?_
          refine AllReady.cons rfl (fun K hK => ?_) AllReady.nil
          go_simp
          refine hK _ _ ?_
          clear hK K
          refine wpAny_ready (rs := [5]) (by kernel_rfl) (by simp) ?_
          refine AllReady.cons rfl (fun K hK => ?_) AllReady.nil
          refine step_append_lies _ (by rfl) (.tmp 13) (.tmp 16) 22 (by rfl) (w.heap.size + 2) 24 i0 (.agg #[.int .i64 0, .string ⟨#[]⟩, .int .i64 0, .slice none 0 0]) 4 56 Tryz.underlying22 hi hz0 hz1' hz2 rfl (by decide) (.slice a ks.length c) ks.length (flat4 vs) rfl (ho.alloc _) ⟨w4.heap.size, 0, none⟩ 1 1 [.int .i64 kc, .string yc, .int .i64 mc, .slice ac nc cc] rfl rfl (cells4_new _ _ _ _ _ _ _ rfl) (by intro u hu; simp at hu; rcases hu with rfl | rfl | rfl | rfl <;> rfl) (by omega) (by unfold maxLen; omega) (by omega) (by simp; omega) (w4.heap.size + 1) (by simp) ?_
          intro g cap w5 hown' hgrow hat hlt
          refine hK _ _ ?_
          clear hK K
          have hK5 := KO.pushed (q := (.int .i64 kc, .string yc, .int .i64 mc, .slice ac nc cc)) (t := q1.1) hK4 ho HA.out hlc hown' hgrow (by rcases hat with e | e; exact .inl e.symm; exact .inr (by rw [e]; rfl))
          have hnb : (Value.slice a ks.length c).ownBlock ≠ some (w.heap.size + 1) := fun e => by have := (hkb _ e).1; omega
          have hnb0 : (Value.slice a ks.length c).ownBlock ≠ some w.heap.size := fun e => by have := (hkb _ e).1; omega
          have hb15 := (hb14.alloc (.cells #[.int .i64 kc, .string yc, .int .i64 mc, .slice ac nc cc] 24)).grown hgrow hnb
          have hb05 := (hb04.alloc (.cells #[.int .i64 kc, .string yc, .int .i64 mc, .slice ac nc cc] 24)).grown hgrow hnb0
          obtain ⟨e0, e1, e2, e3, d0, d1, d2, d3⟩ := id hb15
          refine wpAny_ready (rs := [6]) (by kernel_rfl) (by simp) ?_
          refine AllReady.cons rfl (fun K hK => ?_) AllReady.nil
          go_simp
          refine hK _ _ ?_
          clear hK K
          refine wpAny_ready (rs := [7]) (by kernel_rfl) (by simp) ?_
          refine AllReady.cons rfl (fun K hK => ?_) AllReady.nil
          go_simp
          refine hK _ _ ?_
          clear hK K
          refine wpAny_done (by kernel_rfl) ?_ _
          go_wp2
          go_roundg k
          case rel => exact ⟨ks ++ [q1.1], q1.2, _, HQ.out, by rw [List.length_append]; simp; omega, hK5.set (by omega) (by omega) 3 _, hb15.set3 _, hb05.other (by omega) _⟩
          case measure => omega
end

section
variable {w w' w0 : World} {r G B : Nat} {ts : List Tok} {s : St}
def choiceF (ts : List Tok) (f : Nat) (s : St) : Option (Tree × St) :=
  (askedF ts f s).bind fun x => (blockF ts f x.2).bind fun b =>
    if eqS (txt ts b.2) ⟨#[101, 108, 115, 101]⟩ then (blockF ts f b.2.next).bind fun c => some (.node 10 empty 0 [x.1, b.1, c.1], c.2) else some (.node 10 empty 0 [x.1, b.1], b.2)
theorem eq_other {x y : ByteArray} (h : eqS (txt ts s) x = true) (hxy : (x.data.toList == y.data.toList) = false) : eqS (txt ts s) y = false := by
  have e := eqS_eq h
  rw [← e, eqS_data]
  exact hxy
theorem has_two (hL : Ld w r G ts s) (x y : ByteArray) (hx : [x, y].all wordy = true) {b : Bool} (h : (eqS (txt ts s) x || eqS (txt ts s) y) = b) {M : Nat} {T : TypeId} (hM : M = w.heap.size) :
    Calls Tryz.prog 154 #[.pointer (some ⟨r, 0, none⟩), .slice (some ⟨M, 0, none⟩) 2 2] (w.alloc (.cells #[.string x, .string y] T)) fun e w' => e = .returned (.bool b) ∧ Ld w' r G ts s ∧ Fr r w w' :=
  (ohas (hL.alloc _) [x, y] M 2 (by simp) hx (Words.two w x y T hM)).mono fun e w' ⟨h1, h2⟩ => ⟨by rw [h1, ← h]; unfold hasW; simp, by rw [h2]; exact hL.alloc _, by rw [h2]; exact Fr.al _ _⟩
structure StatHyps (r G : Nat) (ts : List Tok) (f : Nat) : Prop where
  x : ∀ {g : Nat}, g ≤ f → GoodX r G ts g
  b : Gives r G ts 189 (blockF ts f)
  c : Gives r G ts 233 (choiceF ts f)
  hf : f ≤ 100000

set_option maxHeartbeats 2000000 in
theorem ostat_low {f : Nat} (H : StatHyps r G ts f) (hL : Ld w r G ts s) {q : Tree × St} (hq : statF ts (f + 1) s = some q) (hlh : (eqS (txt ts s) ⟨#[108, 111, 119]⟩ || eqS (txt ts s) ⟨#[104, 105, 103, 104]⟩) = true) (hif : eqS (txt ts s) ⟨#[105, 102]⟩ = false) (hwh : eqS (txt ts s) ⟨#[119, 104, 105, 108, 101]⟩ = false) :
    Calls Tryz.prog 213 #[.pointer (some ⟨r, 0, none⟩)] w (OAns w r G ts q) := by
  have c24 : Tryz.prog.cellsOf 24 = 4 := by kernel_rfl
  have hr := hL.lt
  unfold statF at hq
  rw [hif, if_neg (by decide)] at hq
  rw [hwh, if_neg (by decide)] at hq
  rw [hlh, if_pos rfl] at hq
  obtain ⟨q1, h1, rfl⟩ : ∃ q1, localF ts f s = some q1 ∧ q = (q1.1, must ts ⟨#[59]⟩ q1.2) := by
    obtain ⟨y, h1, h2⟩ := bind_some_is hq
    simp only [Option.some.injEq] at h2
    exact ⟨_, by unfold localF; rw [h1]; rfl, h2.symm⟩
  have hB0 := Box4.new w (.int .i64 0) (.string empty) (.int .i64 0) (.slice none 0 0) 24
  have hL0 := hL.alloc (.cells #[.int .i64 0, .string empty, .int .i64 0, .slice none 0 0] 24)
  have hH := has_two (T := 9) hL0 ⟨#[108, 111, 119]⟩ ⟨#[104, 105, 103, 104]⟩ (by decide) (b := true) hlh (M := w.heap.size + 1) (by simp)
  go_enter Tryz.func213, Tryz.ntmps213
  go_wp2_with (fail)
  refine hH.mono ?_
  rintro e u0 ⟨rfl, hLu0, hFu0⟩
  have hF0 := hFu0
  have hL1 := hLu0
  have z0 := hF0.size
  rw [World.size_alloc] at z0
  generalize u0 = w1 at *
  go_wp2_with (fail)
  refine (olocal (H.x (Nat.le_refl _)).e hL1 h1).mono ?_
  rintro e w3 (⟨hb3, rfl, hF3⟩ | ⟨hb3, v3, rfl, hl3, hL3, hF3⟩)
  · go_wp2
    exact ⟨rfl, OAns.lost (must_st (by decide) hb3) hb3 (((Fr.al _ _).trans hF0).trans hF3)⟩
  obtain ⟨k, x, m, _, rfl, a, n, c, rfl⟩ := hl3.shape
  have z3 := hF3.size
  go_wp2_with (fail)
  refine (oended hL3 _ _ _ _ _ _).mono ?_
  rintro e we (⟨hbe, rfl, hFe⟩ | ⟨hbe, rfl, hLe, hFe⟩)
  · go_wp2
    exact ⟨rfl, OAns.lost rfl hbe ((((Fr.al _ _).trans hF0).trans hF3).trans hFe)⟩
  obtain ⟨q0, q1', q2, q3, t0, t1, t2, t3⟩ := ((hB0.fr hF0 (by omega)).fr hF3 (by omega)).fr hFe (by omega)
  go_wp2
  exact bodyPost_ret (v := .agg #[.int .i64 k, .string x, .int .i64 m, .slice a n c]) (by simp [results, Tryz.results213, go_sem, q0, q1', q2, q3, empty]) rfl (OAns.fin hr ((((Fr.al _ _).trans hF0).trans hF3).trans hFe) hLe (Nat.le_refl _) (show w.heap.size < w1.heap.size by omega) ((hl3).fr (by omega) hFe))
set_option maxHeartbeats 2000000 in
theorem ostat_do {f : Nat} (H : StatHyps r G ts f) (hL : Ld w r G ts s) {q : Tree × St} (hq : statF ts (f + 1) s = some q) (h_do : eqS (txt ts s) ⟨#[100, 111]⟩ = true) :
    Calls Tryz.prog 213 #[.pointer (some ⟨r, 0, none⟩)] w (OAns w r G ts q) := by
  have c24 : Tryz.prog.cellsOf 24 = 4 := by kernel_rfl
  have hr := hL.lt
  have h_if : eqS (txt ts s) ⟨#[105, 102]⟩ = false := eq_other h_do rfl
  have h_while : eqS (txt ts s) ⟨#[119, 104, 105, 108, 101]⟩ = false := eq_other h_do rfl
  have h_out : eqS (txt ts s) ⟨#[111, 117, 116]⟩ = false := eq_other h_do rfl
  have h_in : eqS (txt ts s) ⟨#[105, 110]⟩ = false := eq_other h_do rfl
  have h_return : eqS (txt ts s) ⟨#[114, 101, 116, 117, 114, 110]⟩ = false := eq_other h_do rfl
  have h_low : eqS (txt ts s) ⟨#[108, 111, 119]⟩ = false := eq_other h_do rfl
  have h_high : eqS (txt ts s) ⟨#[104, 105, 103, 104]⟩ = false := eq_other h_do rfl
  have hlh : (eqS (txt ts s) ⟨#[108, 111, 119]⟩ || eqS (txt ts s) ⟨#[104, 105, 103, 104]⟩) = false := by rw [h_low, h_high]; rfl
  unfold statF at hq
  rw [h_if, if_neg (by decide)] at hq
  rw [h_while, if_neg (by decide)] at hq
  rw [hlh, if_neg (by decide)] at hq
  rw [h_do, if_pos rfl] at hq
  obtain ⟨q1, h1, h2⟩ := bind_some_is hq
  simp only [Option.some.injEq] at h2
  subst h2
  have S1 : Hid ((whole ts s.next).2.bad = true → must ts ⟨#[59]⟩ q1.2 = (whole ts s.next).2) := fun hb => by
    rw [(stuck ts f).c _ _ _ hb h1]
    exact must_st (by decide) hb
  obtain ⟨f, rfl⟩ : ∃ f', f = f' + 1 := by
    cases f with
    | zero => unfold callF at h1; simp at h1
    | succ f => exact ⟨f, rfl⟩
  have S2 : Hid ((must ts ⟨#[40]⟩ (whole ts s.next).2).bad = true → must ts ⟨#[59]⟩ q1.2 = must ts ⟨#[40]⟩ (whole ts s.next).2) := fun hb => by
    have e1 : q1.2 = must ts ⟨#[40]⟩ (whole ts s.next).2 := by
      unfold callF at h1
      rw [eqS_bad (by decide) hb, if_neg (by decide)] at h1
      exact (stuck ts f).cl _ _ _ _ _ hb h1
    rw [e1]
    exact must_st (by decide) hb
  have hB0 := Box4.new w (.int .i64 0) (.string empty) (.int .i64 0) (.slice none 0 0) 24
  have hL0 := hL.alloc (.cells #[.int .i64 0, .string empty, .int .i64 0, .slice none 0 0] 24)
  have hH := has_two (T := 9) hL0 ⟨#[108, 111, 119]⟩ ⟨#[104, 105, 103, 104]⟩ (by decide) (b := false) hlh (M := w.heap.size + 1) (by simp)
  go_enter Tryz.func213, Tryz.ntmps213
  go_wp2_with (fail)
  refine hH.mono ?_
  rintro e u0 ⟨rfl, hLu0, hFu0⟩
  go_wp2_with (fail)
  refine (skip_yes hLu0 ⟨#[100, 111]⟩ (by decide) h_do rfl).mono ?_
  rintro e u1 ⟨rfl, hLu1, hFx⟩
  have hFu1 := hFu0.trans hFx
  clear hFx
  have hF0 := hFu1
  have hL1 := hLu1
  have z0 := hF0.size
  rw [World.size_alloc] at z0
  generalize u1 = w1 at *
  go_wp2_with (fail)
  refine (olongName hL1).mono ?_
  rintro e w2 (⟨hb2, rfl, hF2⟩ | ⟨hb2, rfl, hL2, hF2⟩)
  · go_wp2
    exact ⟨rfl, OAns.lost (S1.out hb2) hb2 (((Fr.al _ _).trans hF0).trans hF2)⟩
  go_wp2_with (fail)
  refine (take_must hL2 ⟨#[40]⟩ (by decide) rfl).mono ?_
  rintro e w4 ⟨y4, ⟨hb4, rfl, hF4⟩ | ⟨hb4, rfl, hL4, hF4⟩⟩
  · go_wp2
    exact ⟨rfl, OAns.lost (S2.out hb4) hb4 ((((Fr.al _ _).trans hF0).trans hF2).trans hF4)⟩
  obtain ⟨p, hp, rfl⟩ := callF_list hb4 h1
  go_wp2_with (fail)
  refine (ocall (fun h => (H.x (by omega)).e) (by have := H.hf; omega) _ hL4 hp).mono ?_
  rintro e w3 (⟨hb3, rfl, hF3⟩ | ⟨hb3, v3, rfl, hl3, hL3, hF3⟩)
  · go_wp2
    exact ⟨rfl, OAns.lost (must_st (by decide) hb3) hb3 (((((Fr.al _ _).trans hF0).trans hF2).trans hF4).trans hF3)⟩
  obtain ⟨k, x, m, _, rfl, a, n, c, rfl⟩ := hl3.shape
  have z2 := hF2.size
  have z3 := hF3.size
  have z4 := hF4.size
  go_wp2_with (fail)
  refine (oended (hL3.alloc _) _ _ _ _ _ _).mono ?_
  rintro e we (⟨hbe, rfl, hFe⟩ | ⟨hbe, rfl, hLe, hFe⟩)
  · go_wp2
    exact ⟨rfl, OAns.lost rfl hbe ((((((Fr.al _ _).trans hF0).trans hF2).trans hF4).trans (hF3.trans (Fr.al _ _))).trans hFe)⟩
  obtain ⟨q0, q1', q2, q3, t0, t1, t2, t3⟩ := ((((((hB0.fr hF0 (by omega)).fr hF2 (by omega)).fr hF4 (by omega)).fr hF3 (by omega)).alloc _)).fr hFe (by omega)
  go_wp2
  exact bodyPost_ret (v := .agg #[.int .i64 9, .string empty, .int .i64 0, .slice (some ⟨w3.heap.size, 0, none⟩) 1 1]) (by simp [results, Tryz.results213, go_sem, q0, q1', q2, q3, empty]) rfl (OAns.fin hr ((((((Fr.al _ _).trans hF0).trans hF2).trans hF4).trans (hF3.trans (Fr.al _ _))).trans hFe) hLe (Nat.le_refl _) (show w.heap.size < w4.heap.size by omega) (((hl3.rowed (k := 9) (x := empty) (m := 0) (c := 1) hF3.size rfl)).fr (by omega) hFe))
set_option maxHeartbeats 2000000 in
theorem ostat_if {f : Nat} (H : StatHyps r G ts f) (hL : Ld w r G ts s) {q : Tree × St} (hq : statF ts (f + 1) s = some q) (h_if : eqS (txt ts s) ⟨#[105, 102]⟩ = true) :
    Calls Tryz.prog 213 #[.pointer (some ⟨r, 0, none⟩)] w (OAns w r G ts q) := by
  have c24 : Tryz.prog.cellsOf 24 = 4 := by kernel_rfl
  have hr := hL.lt
  have h_do : eqS (txt ts s) ⟨#[100, 111]⟩ = false := eq_other h_if rfl
  have h_while : eqS (txt ts s) ⟨#[119, 104, 105, 108, 101]⟩ = false := eq_other h_if rfl
  have h_out : eqS (txt ts s) ⟨#[111, 117, 116]⟩ = false := eq_other h_if rfl
  have h_in : eqS (txt ts s) ⟨#[105, 110]⟩ = false := eq_other h_if rfl
  have h_return : eqS (txt ts s) ⟨#[114, 101, 116, 117, 114, 110]⟩ = false := eq_other h_if rfl
  have h_low : eqS (txt ts s) ⟨#[108, 111, 119]⟩ = false := eq_other h_if rfl
  have h_high : eqS (txt ts s) ⟨#[104, 105, 103, 104]⟩ = false := eq_other h_if rfl
  have hlh : (eqS (txt ts s) ⟨#[108, 111, 119]⟩ || eqS (txt ts s) ⟨#[104, 105, 103, 104]⟩) = false := by rw [h_low, h_high]; rfl
  unfold statF at hq
  rw [h_if, if_pos rfl] at hq
  have hq' : choiceF ts f s.next = some q := hq
  have hB0 := Box4.new w (.int .i64 0) (.string empty) (.int .i64 0) (.slice none 0 0) 24
  have hL0 := hL.alloc (.cells #[.int .i64 0, .string empty, .int .i64 0, .slice none 0 0] 24)
  have hH := has_two (T := 9) hL0 ⟨#[108, 111, 119]⟩ ⟨#[104, 105, 103, 104]⟩ (by decide) (b := false) hlh (M := w.heap.size + 1) (by simp)
  go_enter Tryz.func213, Tryz.ntmps213
  go_wp2_with (fail)
  refine hH.mono ?_
  rintro e u0 ⟨rfl, hLu0, hFu0⟩
  go_wp2_with (fail)
  refine (skip_no hLu0 ⟨#[100, 111]⟩ (by decide) h_do rfl).mono ?_
  rintro e u1 ⟨rfl, hLu1, hFx⟩
  have hFu1 := hFu0.trans hFx
  clear hFx
  go_wp2_with (fail)
  refine (skip_yes hLu1 ⟨#[105, 102]⟩ (by decide) h_if rfl).mono ?_
  rintro e u2 ⟨rfl, hLu2, hFx⟩
  have hFu2 := hFu1.trans hFx
  clear hFx
  have hF0 := hFu2
  have hL1 := hLu2
  have z0 := hF0.size
  rw [World.size_alloc] at z0
  generalize u2 = w1 at *
  go_wp2_with (fail)
  refine (H.c hL1 hq').mono ?_
  rintro e w9 (⟨hb9, rfl, hF9⟩ | ⟨hb9, v9, rfl, hl9, hL9, hF9⟩)
  · go_wp2
    exact ⟨rfl, OAns.lost rfl hb9 (((Fr.al _ _).trans hF0).trans hF9)⟩
  obtain ⟨k9, x9, m9, _, rfl, a9, n9, c9, rfl⟩ := hl9.shape
  obtain ⟨q0, q1', q2, q3, t0, t1, t2, t3⟩ := (hB0.fr hF0 (by omega)).fr hF9 (by omega)
  go_wp2
  exact bodyPost_ret (v := .agg #[.int .i64 k9, .string x9, .int .i64 m9, .slice a9 n9 c9]) (by simp [results, Tryz.results213, go_sem, q0, q1', q2, q3]) rfl (OAns.hand hr ((Fr.al _ _).trans hF0) (by omega) hb9 hl9 hL9 hF9)
set_option maxHeartbeats 2000000 in
theorem ostat_while {f : Nat} (H : StatHyps r G ts f) (hL : Ld w r G ts s) {q : Tree × St} (hq : statF ts (f + 1) s = some q) (h_while : eqS (txt ts s) ⟨#[119, 104, 105, 108, 101]⟩ = true) :
    Calls Tryz.prog 213 #[.pointer (some ⟨r, 0, none⟩)] w (OAns w r G ts q) := by
  have c24 : Tryz.prog.cellsOf 24 = 4 := by kernel_rfl
  have hr := hL.lt
  have h_do : eqS (txt ts s) ⟨#[100, 111]⟩ = false := eq_other h_while rfl
  have h_if : eqS (txt ts s) ⟨#[105, 102]⟩ = false := eq_other h_while rfl
  have h_out : eqS (txt ts s) ⟨#[111, 117, 116]⟩ = false := eq_other h_while rfl
  have h_in : eqS (txt ts s) ⟨#[105, 110]⟩ = false := eq_other h_while rfl
  have h_return : eqS (txt ts s) ⟨#[114, 101, 116, 117, 114, 110]⟩ = false := eq_other h_while rfl
  have h_low : eqS (txt ts s) ⟨#[108, 111, 119]⟩ = false := eq_other h_while rfl
  have h_high : eqS (txt ts s) ⟨#[104, 105, 103, 104]⟩ = false := eq_other h_while rfl
  have hlh : (eqS (txt ts s) ⟨#[108, 111, 119]⟩ || eqS (txt ts s) ⟨#[104, 105, 103, 104]⟩) = false := by rw [h_low, h_high]; rfl
  unfold statF at hq
  rw [h_if, if_neg (by decide)] at hq
  rw [h_while, if_pos rfl] at hq
  obtain ⟨q1, h1, h2⟩ := bind_some_is hq
  obtain ⟨q2, h3, h4⟩ := bind_some_is h2
  simp only [Option.some.injEq] at h4
  subst h4
  have S1 : Hid (q1.2.bad = true → q2.2 = q1.2) := fun hb => (stuck2 ts f).bk _ _ hb h3
  have hB0 := Box4.new w (.int .i64 0) (.string empty) (.int .i64 0) (.slice none 0 0) 24
  have hL0 := hL.alloc (.cells #[.int .i64 0, .string empty, .int .i64 0, .slice none 0 0] 24)
  have hH := has_two (T := 9) hL0 ⟨#[108, 111, 119]⟩ ⟨#[104, 105, 103, 104]⟩ (by decide) (b := false) hlh (M := w.heap.size + 1) (by simp)
  go_enter Tryz.func213, Tryz.ntmps213
  go_wp2_with (fail)
  refine hH.mono ?_
  rintro e u0 ⟨rfl, hLu0, hFu0⟩
  go_wp2_with (fail)
  refine (skip_no hLu0 ⟨#[100, 111]⟩ (by decide) h_do rfl).mono ?_
  rintro e u1 ⟨rfl, hLu1, hFx⟩
  have hFu1 := hFu0.trans hFx
  clear hFx
  go_wp2_with (fail)
  refine (skip_no hLu1 ⟨#[105, 102]⟩ (by decide) h_if rfl).mono ?_
  rintro e u2 ⟨rfl, hLu2, hFx⟩
  have hFu2 := hFu1.trans hFx
  clear hFx
  go_wp2_with (fail)
  refine (skip_yes hLu2 ⟨#[119, 104, 105, 108, 101]⟩ (by decide) h_while rfl).mono ?_
  rintro e u3 ⟨rfl, hLu3, hFx⟩
  have hFu3 := hFu2.trans hFx
  clear hFx
  have hF0 := hFu3
  have hL1 := hLu3
  have z0 := hF0.size
  rw [World.size_alloc] at z0
  generalize u3 = w1 at *
  go_wp2_with (fail)
  refine ((H.x (Nat.le_refl _)).a hL1 h1).mono ?_
  rintro e w2 (⟨hb2, rfl, hF2⟩ | ⟨hb2, v2, rfl, hl2, hL2, hF2⟩)
  · go_wp2
    exact ⟨rfl, OAns.lost (S1.out hb2) hb2 (((Fr.al _ _).trans hF0).trans hF2)⟩
  obtain ⟨k, x, m, _, rfl, a, n, c, rfl⟩ := hl2.shape
  go_wp2_with (fail)
  refine (H.b hL2 h3).mono ?_
  rintro e w3 (⟨hb3, rfl, hF3⟩ | ⟨hb3, v3, rfl, hl3, hL3, hF3⟩)
  · go_wp2
    exact ⟨rfl, OAns.lost rfl hb3 ((((Fr.al _ _).trans hF0).trans hF2).trans hF3)⟩
  obtain ⟨k3, x3, m3, _, rfl, a3, n3, c3, rfl⟩ := hl3.shape
  have z2 := hF2.size
  have z3 := hF3.size
  have y4 : w.heap.size < w3.heap.size := by omega
  have hFw : Fr r w w3 := (((Fr.al _ _).trans hF0).trans hF2).trans hF3
  obtain ⟨f0, f1, f2, f3, i0, i1, i2, i3⟩ := ((hB0.fr hF0 (by omega)).fr hF2 (by omega)).fr hF3 (by omega)
  go_wp2
  refine bodyPost_ret (v := .agg #[.int .i64 11, .string empty, .int .i64 0, .slice (some ⟨w3.heap.size, 0, none⟩) 2 2]) (by simp [results, Tryz.results213, go_sem, f0, f1, f2, f3, y4, empty]) rfl ?_
  have m3' : Lies (fun b => w.heap.size < b ∧ b < w3.heap.size) w3 q2.1 (.agg #[.int .i64 k3, .string x3, .int .i64 m3, .slice a3 n3 c3]) := hl3.to (fun b hb => ⟨by omega, hb.2⟩) (fun _ _ _ => rfl)
  have n3' : Lies (fun b => w.heap.size < b ∧ b < w3.heap.size) w3 q1.1 (.agg #[.int .i64 k, .string x, .int .i64 m, .slice a n c]) := hl2.frP (x := r) hF3 (fun b hb => ⟨hb.2, by omega⟩) (fun b hb => ⟨by omega, by omega⟩)
  have hput := Fr.put w3 w.heap.size (.int .i64 11) (.string empty) (.int .i64 0) (.slice (some ⟨w3.heap.size, 0, none⟩) 2 2)
  have n4' := n3'.frP (x := w.heap.size) hput (fun b hb => ⟨hb.2, by omega⟩) (fun b hb => hb)
  have m4' := m3'.frP (x := w.heap.size) hput (fun b hb => ⟨hb.2, by omega⟩) (fun b hb => hb)
  exact .inr ⟨hb3, _, rfl, n4'.rowed2P m4' (fun b hb => by simpa using hb.2) (fun b hb => ⟨by omega, by simp; omega⟩) (by simp) ⟨by omega, by simp⟩, (hL3.put4 (by omega) _ _ _ _).alloc _, (hFw.put4 (Nat.le_refl _) _ _ _ _).alloc _⟩
set_option maxHeartbeats 2000000 in
theorem ostat_out {f : Nat} (H : StatHyps r G ts f) (hL : Ld w r G ts s) {q : Tree × St} (hq : statF ts (f + 1) s = some q) (h_out : eqS (txt ts s) ⟨#[111, 117, 116]⟩ = true) :
    Calls Tryz.prog 213 #[.pointer (some ⟨r, 0, none⟩)] w (OAns w r G ts q) := by
  have c24 : Tryz.prog.cellsOf 24 = 4 := by kernel_rfl
  have hr := hL.lt
  have h_do : eqS (txt ts s) ⟨#[100, 111]⟩ = false := eq_other h_out rfl
  have h_if : eqS (txt ts s) ⟨#[105, 102]⟩ = false := eq_other h_out rfl
  have h_while : eqS (txt ts s) ⟨#[119, 104, 105, 108, 101]⟩ = false := eq_other h_out rfl
  have h_in : eqS (txt ts s) ⟨#[105, 110]⟩ = false := eq_other h_out rfl
  have h_return : eqS (txt ts s) ⟨#[114, 101, 116, 117, 114, 110]⟩ = false := eq_other h_out rfl
  have h_low : eqS (txt ts s) ⟨#[108, 111, 119]⟩ = false := eq_other h_out rfl
  have h_high : eqS (txt ts s) ⟨#[104, 105, 103, 104]⟩ = false := eq_other h_out rfl
  have hlh : (eqS (txt ts s) ⟨#[108, 111, 119]⟩ || eqS (txt ts s) ⟨#[104, 105, 103, 104]⟩) = false := by rw [h_low, h_high]; rfl
  unfold statF at hq
  rw [h_if, if_neg (by decide)] at hq
  rw [h_while, if_neg (by decide)] at hq
  rw [hlh, if_neg (by decide)] at hq
  rw [h_do, if_neg (by decide)] at hq
  rw [h_out, if_pos rfl] at hq
  obtain ⟨q1, h1, h2⟩ := bind_some_is hq
  simp only [Option.some.injEq] at h2
  subst h2
  have S1 : Hid ((label ts s.next).2.bad = true → must ts ⟨#[59]⟩ q1.2 = (label ts s.next).2) := fun hb => by
    rw [(stuck ts f).e _ _ hb h1]
    exact must_st (by decide) hb
  have hB0 := Box4.new w (.int .i64 0) (.string empty) (.int .i64 0) (.slice none 0 0) 24
  have hL0 := hL.alloc (.cells #[.int .i64 0, .string empty, .int .i64 0, .slice none 0 0] 24)
  have hH := has_two (T := 9) hL0 ⟨#[108, 111, 119]⟩ ⟨#[104, 105, 103, 104]⟩ (by decide) (b := false) hlh (M := w.heap.size + 1) (by simp)
  go_enter Tryz.func213, Tryz.ntmps213
  go_wp2_with (fail)
  refine hH.mono ?_
  rintro e u0 ⟨rfl, hLu0, hFu0⟩
  go_wp2_with (fail)
  refine (skip_no hLu0 ⟨#[100, 111]⟩ (by decide) h_do rfl).mono ?_
  rintro e u1 ⟨rfl, hLu1, hFx⟩
  have hFu1 := hFu0.trans hFx
  clear hFx
  go_wp2_with (fail)
  refine (skip_no hLu1 ⟨#[105, 102]⟩ (by decide) h_if rfl).mono ?_
  rintro e u2 ⟨rfl, hLu2, hFx⟩
  have hFu2 := hFu1.trans hFx
  clear hFx
  go_wp2_with (fail)
  refine (skip_no hLu2 ⟨#[119, 104, 105, 108, 101]⟩ (by decide) h_while rfl).mono ?_
  rintro e u3 ⟨rfl, hLu3, hFx⟩
  have hFu3 := hFu2.trans hFx
  clear hFx
  go_wp2_with (fail)
  refine (skip_yes hLu3 ⟨#[111, 117, 116]⟩ (by decide) h_out rfl).mono ?_
  rintro e u4 ⟨rfl, hLu4, hFx⟩
  have hFu4 := hFu3.trans hFx
  clear hFx
  have hF0 := hFu4
  have hL1 := hLu4
  have z0 := hF0.size
  rw [World.size_alloc] at z0
  generalize u4 = w1 at *
  go_wp2_with (fail)
  refine (olabel hL1).mono ?_
  rintro e w2 (⟨hb2, rfl, hF2⟩ | ⟨hb2, rfl, hL2, hF2⟩)
  · go_wp2
    exact ⟨rfl, OAns.lost (S1.out hb2) hb2 (((Fr.al _ _).trans hF0).trans hF2)⟩
  go_wp2_with (fail)
  refine ((H.x (Nat.le_refl _)).e hL2 h1).mono ?_
  rintro e w3 (⟨hb3, rfl, hF3⟩ | ⟨hb3, v3, rfl, hl3, hL3, hF3⟩)
  · go_wp2
    exact ⟨rfl, OAns.lost (must_st (by decide) hb3) hb3 ((((Fr.al _ _).trans hF0).trans hF2).trans hF3)⟩
  obtain ⟨k, x, m, _, rfl, a, n, c, rfl⟩ := hl3.shape
  have z2 := hF2.size
  have z3 := hF3.size
  go_wp2_with (fail)
  refine (oended (hL3.alloc _) _ _ _ _ _ _).mono ?_
  rintro e we (⟨hbe, rfl, hFe⟩ | ⟨hbe, rfl, hLe, hFe⟩)
  · go_wp2
    exact ⟨rfl, OAns.lost rfl hbe (((((Fr.al _ _).trans hF0).trans hF2).trans (hF3.trans (Fr.al _ _))).trans hFe)⟩
  obtain ⟨q0, q1', q2, q3, t0, t1, t2, t3⟩ := (((((hB0.fr hF0 (by omega)).fr hF2 (by omega)).fr hF3 (by omega)).alloc _)).fr hFe (by omega)
  go_wp2
  exact bodyPost_ret (v := .agg #[.int .i64 12, .string empty, .int .i64 (label ts s.next).1, .slice (some ⟨w3.heap.size, 0, none⟩) 1 1]) (by simp [results, Tryz.results213, go_sem, q0, q1', q2, q3, empty]) rfl (OAns.fin hr (((((Fr.al _ _).trans hF0).trans hF2).trans (hF3.trans (Fr.al _ _))).trans hFe) hLe (Nat.le_refl _) (show w.heap.size < w2.heap.size by omega) (((hl3.rowed (k := 12) (x := empty) (m := (label ts s.next).1) (c := 1) hF3.size rfl)).fr (by omega) hFe))
set_option maxHeartbeats 2000000 in
theorem ostat_in {f : Nat} (H : StatHyps r G ts f) (hL : Ld w r G ts s) {q : Tree × St} (hq : statF ts (f + 1) s = some q) (h_in : eqS (txt ts s) ⟨#[105, 110]⟩ = true) :
    Calls Tryz.prog 213 #[.pointer (some ⟨r, 0, none⟩)] w (OAns w r G ts q) := by
  have c24 : Tryz.prog.cellsOf 24 = 4 := by kernel_rfl
  have hr := hL.lt
  have h_do : eqS (txt ts s) ⟨#[100, 111]⟩ = false := eq_other h_in rfl
  have h_if : eqS (txt ts s) ⟨#[105, 102]⟩ = false := eq_other h_in rfl
  have h_while : eqS (txt ts s) ⟨#[119, 104, 105, 108, 101]⟩ = false := eq_other h_in rfl
  have h_out : eqS (txt ts s) ⟨#[111, 117, 116]⟩ = false := eq_other h_in rfl
  have h_return : eqS (txt ts s) ⟨#[114, 101, 116, 117, 114, 110]⟩ = false := eq_other h_in rfl
  have h_low : eqS (txt ts s) ⟨#[108, 111, 119]⟩ = false := eq_other h_in rfl
  have h_high : eqS (txt ts s) ⟨#[104, 105, 103, 104]⟩ = false := eq_other h_in rfl
  have hlh : (eqS (txt ts s) ⟨#[108, 111, 119]⟩ || eqS (txt ts s) ⟨#[104, 105, 103, 104]⟩) = false := by rw [h_low, h_high]; rfl
  unfold statF at hq
  rw [h_if, if_neg (by decide)] at hq
  rw [h_while, if_neg (by decide)] at hq
  rw [hlh, if_neg (by decide)] at hq
  rw [h_do, if_neg (by decide)] at hq
  rw [h_out, if_neg (by decide)] at hq
  rw [h_in, if_pos rfl] at hq
  obtain ⟨q1, h1, h2⟩ := bind_some_is hq
  simp only [Option.some.injEq] at h2
  subst h2
  have S2 : Hid ((whole ts (label ts s.next).2).2.bad = true → must ts ⟨#[59]⟩ q1.2 = (whole ts (label ts s.next).2).2) := fun hb => by
    rw [(stuck ts f).p _ _ _ hb h1]
    exact must_st (by decide) hb
  have S1 : Hid ((label ts s.next).2.bad = true → must ts ⟨#[59]⟩ q1.2 = (label ts s.next).2) := fun hb => by
    have e1 := whole_st (ts := ts) hb
    rw [S2.out (by rw [e1]; exact hb), e1]
  have hB0 := Box4.new w (.int .i64 0) (.string empty) (.int .i64 0) (.slice none 0 0) 24
  have hL0 := hL.alloc (.cells #[.int .i64 0, .string empty, .int .i64 0, .slice none 0 0] 24)
  have hH := has_two (T := 9) hL0 ⟨#[108, 111, 119]⟩ ⟨#[104, 105, 103, 104]⟩ (by decide) (b := false) hlh (M := w.heap.size + 1) (by simp)
  go_enter Tryz.func213, Tryz.ntmps213
  go_wp2_with (fail)
  refine hH.mono ?_
  rintro e u0 ⟨rfl, hLu0, hFu0⟩
  go_wp2_with (fail)
  refine (skip_no hLu0 ⟨#[100, 111]⟩ (by decide) h_do rfl).mono ?_
  rintro e u1 ⟨rfl, hLu1, hFx⟩
  have hFu1 := hFu0.trans hFx
  clear hFx
  go_wp2_with (fail)
  refine (skip_no hLu1 ⟨#[105, 102]⟩ (by decide) h_if rfl).mono ?_
  rintro e u2 ⟨rfl, hLu2, hFx⟩
  have hFu2 := hFu1.trans hFx
  clear hFx
  go_wp2_with (fail)
  refine (skip_no hLu2 ⟨#[119, 104, 105, 108, 101]⟩ (by decide) h_while rfl).mono ?_
  rintro e u3 ⟨rfl, hLu3, hFx⟩
  have hFu3 := hFu2.trans hFx
  clear hFx
  go_wp2_with (fail)
  refine (skip_no hLu3 ⟨#[111, 117, 116]⟩ (by decide) h_out rfl).mono ?_
  rintro e u4 ⟨rfl, hLu4, hFx⟩
  have hFu4 := hFu3.trans hFx
  clear hFx
  go_wp2_with (fail)
  refine (skip_yes hLu4 ⟨#[105, 110]⟩ (by decide) h_in rfl).mono ?_
  rintro e u5 ⟨rfl, hLu5, hFx⟩
  have hFu5 := hFu4.trans hFx
  clear hFx
  have hF0 := hFu5
  have hL1 := hLu5
  have z0 := hF0.size
  rw [World.size_alloc] at z0
  generalize u5 = w1 at *
  go_wp2_with (fail)
  refine (olabel hL1).mono ?_
  rintro e w2 (⟨hb2, rfl, hF2⟩ | ⟨hb2, rfl, hL2, hF2⟩)
  · go_wp2
    exact ⟨rfl, OAns.lost (S1.out hb2) hb2 (((Fr.al _ _).trans hF0).trans hF2)⟩
  go_wp2_with (fail)
  refine (olongName hL2).mono ?_
  rintro e w4 (⟨hb4, rfl, hF4⟩ | ⟨hb4, rfl, hL4, hF4⟩)
  · go_wp2
    exact ⟨rfl, OAns.lost (S2.out hb4) hb4 ((((Fr.al _ _).trans hF0).trans hF2).trans hF4)⟩
  go_wp2_with (fail)
  refine ((H.x (Nat.le_refl _)).p _ hL4 h1).mono ?_
  rintro e w3 (⟨hb3, rfl, hF3⟩ | ⟨hb3, v3, rfl, hl3, hL3, hF3⟩)
  · go_wp2
    exact ⟨rfl, OAns.lost (must_st (by decide) hb3) hb3 (((((Fr.al _ _).trans hF0).trans hF2).trans hF4).trans hF3)⟩
  obtain ⟨k, x, m, _, rfl, a, n, c, rfl⟩ := hl3.shape
  have z2 := hF2.size
  have z3 := hF3.size
  have z4 := hF4.size
  go_wp2_with (fail)
  refine (oended (hL3.alloc _) _ _ _ _ _ _).mono ?_
  rintro e we (⟨hbe, rfl, hFe⟩ | ⟨hbe, rfl, hLe, hFe⟩)
  · go_wp2
    exact ⟨rfl, OAns.lost rfl hbe ((((((Fr.al _ _).trans hF0).trans hF2).trans hF4).trans (hF3.trans (Fr.al _ _))).trans hFe)⟩
  obtain ⟨q0, q1', q2, q3, t0, t1, t2, t3⟩ := ((((((hB0.fr hF0 (by omega)).fr hF2 (by omega)).fr hF4 (by omega)).fr hF3 (by omega)).alloc _)).fr hFe (by omega)
  go_wp2
  exact bodyPost_ret (v := .agg #[.int .i64 13, .string empty, .int .i64 (label ts s.next).1, .slice (some ⟨w3.heap.size, 0, none⟩) 1 1]) (by simp [results, Tryz.results213, go_sem, q0, q1', q2, q3, empty]) rfl (OAns.fin hr ((((((Fr.al _ _).trans hF0).trans hF2).trans hF4).trans (hF3.trans (Fr.al _ _))).trans hFe) hLe (Nat.le_refl _) (show w.heap.size < w4.heap.size by omega) (((hl3.rowed (k := 13) (x := empty) (m := (label ts s.next).1) (c := 1) hF3.size rfl)).fr (by omega) hFe))
set_option maxHeartbeats 2000000 in
theorem ostat_return {f : Nat} (H : StatHyps r G ts f) (hL : Ld w r G ts s) {q : Tree × St} (hq : statF ts (f + 1) s = some q) (h_return : eqS (txt ts s) ⟨#[114, 101, 116, 117, 114, 110]⟩ = true) :
    Calls Tryz.prog 213 #[.pointer (some ⟨r, 0, none⟩)] w (OAns w r G ts q) := by
  have c24 : Tryz.prog.cellsOf 24 = 4 := by kernel_rfl
  have hr := hL.lt
  have h_do : eqS (txt ts s) ⟨#[100, 111]⟩ = false := eq_other h_return rfl
  have h_if : eqS (txt ts s) ⟨#[105, 102]⟩ = false := eq_other h_return rfl
  have h_while : eqS (txt ts s) ⟨#[119, 104, 105, 108, 101]⟩ = false := eq_other h_return rfl
  have h_out : eqS (txt ts s) ⟨#[111, 117, 116]⟩ = false := eq_other h_return rfl
  have h_in : eqS (txt ts s) ⟨#[105, 110]⟩ = false := eq_other h_return rfl
  have h_low : eqS (txt ts s) ⟨#[108, 111, 119]⟩ = false := eq_other h_return rfl
  have h_high : eqS (txt ts s) ⟨#[104, 105, 103, 104]⟩ = false := eq_other h_return rfl
  have hlh : (eqS (txt ts s) ⟨#[108, 111, 119]⟩ || eqS (txt ts s) ⟨#[104, 105, 103, 104]⟩) = false := by rw [h_low, h_high]; rfl
  unfold statF at hq
  rw [h_if, if_neg (by decide)] at hq
  rw [h_while, if_neg (by decide)] at hq
  rw [hlh, if_neg (by decide)] at hq
  rw [h_do, if_neg (by decide)] at hq
  rw [h_out, if_neg (by decide)] at hq
  rw [h_in, if_neg (by decide)] at hq
  rw [h_return, if_pos rfl] at hq
  obtain ⟨q1, h1, h2⟩ := bind_some_is hq
  simp only [Option.some.injEq] at h2
  subst h2
  have hB0 := Box4.new w (.int .i64 0) (.string empty) (.int .i64 0) (.slice none 0 0) 24
  have hL0 := hL.alloc (.cells #[.int .i64 0, .string empty, .int .i64 0, .slice none 0 0] 24)
  have hH := has_two (T := 9) hL0 ⟨#[108, 111, 119]⟩ ⟨#[104, 105, 103, 104]⟩ (by decide) (b := false) hlh (M := w.heap.size + 1) (by simp)
  go_enter Tryz.func213, Tryz.ntmps213
  go_wp2_with (fail)
  refine hH.mono ?_
  rintro e u0 ⟨rfl, hLu0, hFu0⟩
  go_wp2_with (fail)
  refine (skip_no hLu0 ⟨#[100, 111]⟩ (by decide) h_do rfl).mono ?_
  rintro e u1 ⟨rfl, hLu1, hFx⟩
  have hFu1 := hFu0.trans hFx
  clear hFx
  go_wp2_with (fail)
  refine (skip_no hLu1 ⟨#[105, 102]⟩ (by decide) h_if rfl).mono ?_
  rintro e u2 ⟨rfl, hLu2, hFx⟩
  have hFu2 := hFu1.trans hFx
  clear hFx
  go_wp2_with (fail)
  refine (skip_no hLu2 ⟨#[119, 104, 105, 108, 101]⟩ (by decide) h_while rfl).mono ?_
  rintro e u3 ⟨rfl, hLu3, hFx⟩
  have hFu3 := hFu2.trans hFx
  clear hFx
  go_wp2_with (fail)
  refine (skip_no hLu3 ⟨#[111, 117, 116]⟩ (by decide) h_out rfl).mono ?_
  rintro e u4 ⟨rfl, hLu4, hFx⟩
  have hFu4 := hFu3.trans hFx
  clear hFx
  go_wp2_with (fail)
  refine (skip_no hLu4 ⟨#[105, 110]⟩ (by decide) h_in rfl).mono ?_
  rintro e u5 ⟨rfl, hLu5, hFx⟩
  have hFu5 := hFu4.trans hFx
  clear hFx
  go_wp2_with (fail)
  refine (skip_yes hLu5 ⟨#[114, 101, 116, 117, 114, 110]⟩ (by decide) h_return rfl).mono ?_
  rintro e u6 ⟨rfl, hLu6, hFx⟩
  have hFu6 := hFu5.trans hFx
  clear hFx
  have hF0 := hFu6
  have hL1 := hLu6
  have z0 := hF0.size
  rw [World.size_alloc] at z0
  generalize u6 = w1 at *
  go_wp2_with (fail)
  refine ((H.x (Nat.le_refl _)).e hL1 h1).mono ?_
  rintro e w3 (⟨hb3, rfl, hF3⟩ | ⟨hb3, v3, rfl, hl3, hL3, hF3⟩)
  · go_wp2
    exact ⟨rfl, OAns.lost (must_st (by decide) hb3) hb3 (((Fr.al _ _).trans hF0).trans hF3)⟩
  obtain ⟨k, x, m, _, rfl, a, n, c, rfl⟩ := hl3.shape
  have z3 := hF3.size
  go_wp2_with (fail)
  refine (oended (hL3.alloc _) _ _ _ _ _ _).mono ?_
  rintro e we (⟨hbe, rfl, hFe⟩ | ⟨hbe, rfl, hLe, hFe⟩)
  · go_wp2
    exact ⟨rfl, OAns.lost rfl hbe ((((Fr.al _ _).trans hF0).trans (hF3.trans (Fr.al _ _))).trans hFe)⟩
  obtain ⟨q0, q1', q2, q3, t0, t1, t2, t3⟩ := ((((hB0.fr hF0 (by omega)).fr hF3 (by omega)).alloc _)).fr hFe (by omega)
  go_wp2
  exact bodyPost_ret (v := .agg #[.int .i64 14, .string empty, .int .i64 0, .slice (some ⟨w3.heap.size, 0, none⟩) 1 1]) (by simp [results, Tryz.results213, go_sem, q0, q1', q2, q3, empty]) rfl (OAns.fin hr ((((Fr.al _ _).trans hF0).trans (hF3.trans (Fr.al _ _))).trans hFe) hLe (Nat.le_refl _) (show w.heap.size < w1.heap.size by omega) (((hl3.rowed (k := 14) (x := empty) (m := 0) (c := 1) hF3.size rfl)).fr (by omega) hFe))
set_option maxHeartbeats 2000000 in
theorem ostat_set {f : Nat} (H : StatHyps r G ts f) (hL : Ld w r G ts s) {q : Tree × St} (hq : statF ts (f + 1) s = some q) (hlh : (eqS (txt ts s) ⟨#[108, 111, 119]⟩ || eqS (txt ts s) ⟨#[104, 105, 103, 104]⟩) = false) (h_do : eqS (txt ts s) ⟨#[100, 111]⟩ = false) (h_if : eqS (txt ts s) ⟨#[105, 102]⟩ = false) (h_while : eqS (txt ts s) ⟨#[119, 104, 105, 108, 101]⟩ = false) (h_out : eqS (txt ts s) ⟨#[111, 117, 116]⟩ = false) (h_in : eqS (txt ts s) ⟨#[105, 110]⟩ = false) (h_return : eqS (txt ts s) ⟨#[114, 101, 116, 117, 114, 110]⟩ = false) :
    Calls Tryz.prog 213 #[.pointer (some ⟨r, 0, none⟩)] w (OAns w r G ts q) := by
  have c24 : Tryz.prog.cellsOf 24 = 4 := by kernel_rfl
  have hr := hL.lt
  unfold statF at hq
  rw [h_if, if_neg (by decide)] at hq
  rw [h_while, if_neg (by decide)] at hq
  rw [hlh, if_neg (by decide)] at hq
  rw [h_do, if_neg (by decide)] at hq
  rw [h_out, if_neg (by decide)] at hq
  rw [h_in, if_neg (by decide)] at hq
  rw [h_return, if_neg (by decide)] at hq
  obtain ⟨q1, h1, rfl⟩ : ∃ q1, setF ts f s = some q1 ∧ q = (q1.1, must ts ⟨#[59]⟩ q1.2) := by
    obtain ⟨y, h1, h2⟩ := bind_some_is hq
    obtain ⟨z, h3, h4⟩ := bind_some_is h2
    simp only [Option.some.injEq] at h4
    refine ⟨_, by unfold setF; rw [h1]; simp only [Option.bind_some]; rw [h3]; rfl, h4.symm⟩
  have hB0 := Box4.new w (.int .i64 0) (.string empty) (.int .i64 0) (.slice none 0 0) 24
  have hL0 := hL.alloc (.cells #[.int .i64 0, .string empty, .int .i64 0, .slice none 0 0] 24)
  have hH := has_two (T := 9) hL0 ⟨#[108, 111, 119]⟩ ⟨#[104, 105, 103, 104]⟩ (by decide) (b := false) hlh (M := w.heap.size + 1) (by simp)
  go_enter Tryz.func213, Tryz.ntmps213
  go_wp2_with (fail)
  refine hH.mono ?_
  rintro e u0 ⟨rfl, hLu0, hFu0⟩
  go_wp2_with (fail)
  refine (skip_no hLu0 ⟨#[100, 111]⟩ (by decide) h_do rfl).mono ?_
  rintro e u1 ⟨rfl, hLu1, hFx⟩
  have hFu1 := hFu0.trans hFx
  clear hFx
  go_wp2_with (fail)
  refine (skip_no hLu1 ⟨#[105, 102]⟩ (by decide) h_if rfl).mono ?_
  rintro e u2 ⟨rfl, hLu2, hFx⟩
  have hFu2 := hFu1.trans hFx
  clear hFx
  go_wp2_with (fail)
  refine (skip_no hLu2 ⟨#[119, 104, 105, 108, 101]⟩ (by decide) h_while rfl).mono ?_
  rintro e u3 ⟨rfl, hLu3, hFx⟩
  have hFu3 := hFu2.trans hFx
  clear hFx
  go_wp2_with (fail)
  refine (skip_no hLu3 ⟨#[111, 117, 116]⟩ (by decide) h_out rfl).mono ?_
  rintro e u4 ⟨rfl, hLu4, hFx⟩
  have hFu4 := hFu3.trans hFx
  clear hFx
  go_wp2_with (fail)
  refine (skip_no hLu4 ⟨#[105, 110]⟩ (by decide) h_in rfl).mono ?_
  rintro e u5 ⟨rfl, hLu5, hFx⟩
  have hFu5 := hFu4.trans hFx
  clear hFx
  go_wp2_with (fail)
  refine (skip_no hLu5 ⟨#[114, 101, 116, 117, 114, 110]⟩ (by decide) h_return rfl).mono ?_
  rintro e u6 ⟨rfl, hLu6, hFx⟩
  have hFu6 := hFu5.trans hFx
  clear hFx
  have hF0 := hFu6
  have hL1 := hLu6
  have z0 := hF0.size
  rw [World.size_alloc] at z0
  generalize u6 = w1 at *
  go_wp2_with (fail)
  refine (oset (H.x (Nat.le_refl _)).p (H.x (Nat.le_refl _)).e hL1 h1).mono ?_
  rintro e w3 (⟨hb3, rfl, hF3⟩ | ⟨hb3, v3, rfl, hl3, hL3, hF3⟩)
  · go_wp2
    exact ⟨rfl, OAns.lost (must_st (by decide) hb3) hb3 (((Fr.al _ _).trans hF0).trans hF3)⟩
  obtain ⟨k, x, m, _, rfl, a, n, c, rfl⟩ := hl3.shape
  have z3 := hF3.size
  go_wp2_with (fail)
  refine (oended hL3 _ _ _ _ _ _).mono ?_
  rintro e we (⟨hbe, rfl, hFe⟩ | ⟨hbe, rfl, hLe, hFe⟩)
  · go_wp2
    exact ⟨rfl, OAns.lost rfl hbe ((((Fr.al _ _).trans hF0).trans hF3).trans hFe)⟩
  obtain ⟨q0, q1', q2, q3, t0, t1, t2, t3⟩ := ((hB0.fr hF0 (by omega)).fr hF3 (by omega)).fr hFe (by omega)
  go_wp2
  exact bodyPost_ret (v := .agg #[.int .i64 k, .string x, .int .i64 m, .slice a n c]) (by simp [results, Tryz.results213, go_sem, q0, q1', q2, q3, empty]) rfl (OAns.fin hr ((((Fr.al _ _).trans hF0).trans hF3).trans hFe) hLe (Nat.le_refl _) (show w.heap.size < w1.heap.size by omega) ((hl3).fr (by omega) hFe))
theorem ostat {f : Nat} (H : StatHyps r G ts f) : Gives r G ts 213 (statF ts (f + 1)) := by
  intro w s q hL hq
  cases h_if : eqS (txt ts s) ⟨#[105, 102]⟩
  case true => exact ostat_if H hL hq h_if
  cases h_while : eqS (txt ts s) ⟨#[119, 104, 105, 108, 101]⟩
  case true => exact ostat_while H hL hq h_while
  cases hlh : (eqS (txt ts s) ⟨#[108, 111, 119]⟩ || eqS (txt ts s) ⟨#[104, 105, 103, 104]⟩)
  case true => exact ostat_low H hL hq hlh h_if h_while
  cases h_do : eqS (txt ts s) ⟨#[100, 111]⟩
  case true => exact ostat_do H hL hq h_do
  cases h_out : eqS (txt ts s) ⟨#[111, 117, 116]⟩
  case true => exact ostat_out H hL hq h_out
  cases h_in : eqS (txt ts s) ⟨#[105, 110]⟩
  case true => exact ostat_in H hL hq h_in
  cases h_return : eqS (txt ts s) ⟨#[114, 101, 116, 117, 114, 110]⟩
  case true => exact ostat_return H hL hq h_return
  exact ostat_set H hL hq hlh h_do h_if h_while h_out h_in h_return
end
end syn
end Go.Proofs.YtoobkaebahogdaaGreatDoor
