/- What the program's local and set answer, once those that they call do: contracts. What the program's block answers, once stat does: a contract. -/
import Derived.Test.YtchhpinmoagkhaaGreatDoorProg
import Derived.WalkKit
import Derived.WalkLawsBesides
import Derived.Outline
import Derived.WalkSmall
import Derived.Test.YtchhpinmoagkhaaGreatDoorNOf
import Derived.OneCell
import Derived.Deep.LoopGhost
import Derived.Deep.AppendLies
namespace Go.Proofs.YtchhpinmoagkhaaGreatDoor.syn
open Go.RowKit
open Go.Proofs.YtchhpinmoagkhaaGreatDoor.lexs (Tok Fine own_shape)
set_option linter.unusedVariables false
set_option linter.unusedSimpArgs false
set_option maxRecDepth 100000

section
variable {w w' w0 : World} {r G B : Nat} {ts : List Tok} {s : St}
def localF (ts : List Tok) (f : Nat) (s : St) : Option (Tree × St) :=
  (exprF ts f (must ts ⟨#[61]⟩ (name ts (label ts s).2).2)).bind fun x => some (.node 7 (name ts (label ts s).2).1 (label ts s).1 [x.1], x.2)
def setF (ts : List Tok) (f : Nat) (s : St) : Option (Tree × St) :=
  (placeF ts f (whole ts s).1 (whole ts s).2).bind fun x => (exprF ts f (must ts ⟨#[61]⟩ x.2)).bind fun y => some (.node 8 empty 0 [x.1, y.1], y.2)
set_option maxHeartbeats 2000000 in
theorem olocal {f : Nat} (ih : Gives r G ts 177 (exprF ts f)) : Gives r G ts 172 (localF ts f) := by
  intro w s q hL hq
  have c24 : Tryz.prog.cellsOf 24 = 4 := by kernel_rfl
  have hr := hL.lt
  have hB0 := Box4.new w (.int .i64 0) (.string empty) (.int .i64 0) (.slice none 0 0) 24
  unfold localF at hq
  obtain ⟨q1, h1, h2⟩ := bind_some_is hq
  simp only [Option.some.injEq] at h2
  subst h2
  clear hq
  have S1 : Hid ((label ts s).2.bad = true → q1.2 = (label ts s).2) := fun hb => by
    have e1 := name_st (ts := ts) hb
    rw [e1, must_st (by decide) hb] at h1
    exact (stuck ts f).e _ _ hb h1
  have S2 : Hid ((name ts (label ts s).2).2.bad = true → q1.2 = (name ts (label ts s).2).2) := fun hb => by
    rw [must_st (by decide) hb] at h1
    exact (stuck ts f).e _ _ hb h1
  have S3 : Hid ((must ts ⟨#[61]⟩ (name ts (label ts s).2).2).bad = true → q1.2 = must ts ⟨#[61]⟩ (name ts (label ts s).2).2) := fun hb => (stuck ts f).e _ _ hb h1
  have hLab := olabel (hL.alloc (.cells #[.int .i64 0, .string empty, .int .i64 0, .slice none 0 0] 24))
  generalize label ts s = lb at *
  obtain ⟨lm, ls⟩ := lb
  have hNam := fun (w : World) (h : Ld w r G ts ls) => oname h
  simp only at *
  generalize name ts ls = nb at *
  obtain ⟨nx, ns⟩ := nb
  simp only at *
  go_enter Tryz.func172, Tryz.ntmps172
  go_wp2_with (fail)
  refine hLab.mono ?_
  rintro e w1 (⟨hb, rfl, hF1⟩ | ⟨hb, rfl, hL1, hF1⟩)
  · go_wp2
    exact ⟨rfl, OAns.lost (S1.out hb) hb ((Fr.al _ _).trans hF1)⟩
  go_wp2_with (fail)
  refine (hNam _ hL1).mono ?_
  rintro e w2 (⟨hb2, rfl, hF2⟩ | ⟨hb2, rfl, hL2, hF2⟩)
  · go_wp2
    exact ⟨rfl, OAns.lost (S2.out hb2) hb2 (((Fr.al _ _).trans hF1).trans hF2)⟩
  go_wp2_with (fail)
  refine (take_must (hL2.alloc _) ⟨#[61]⟩ (by decide) (by simp)).mono ?_
  rintro e w3 ⟨y3, ⟨hb3, rfl, hF3⟩ | ⟨hb3, rfl, hL3, hF3⟩⟩
  · go_wp2
    exact ⟨rfl, OAns.lost (S3.out hb3) hb3 ((((Fr.al _ _).trans hF1).trans hF2).trans ((Fr.al _ _).trans hF3))⟩
  go_wp2_with (fail)
  refine (ih hL3 h1).mono ?_
  rintro e w4 (⟨hb4, rfl, hF4⟩ | ⟨hb4, v4, rfl, hl4, hL4, hF4⟩)
  · go_wp2
    exact ⟨rfl, OAns.lost rfl hb4 (((((Fr.al _ _).trans hF1).trans hF2).trans ((Fr.al _ _).trans hF3)).trans hF4)⟩
  obtain ⟨k, x, m, _, rfl, a, n, c, rfl⟩ := hl4.shape
  have z1 := hF1.size
  have z2 := hF2.size
  have z3 := hF3.size
  have z4 := hF4.size
  rw [World.size_alloc] at z1 z3
  obtain ⟨q0, q1', q2, q3, t0, t1, t2, t3⟩ := ((((hB0.fr hF1 (by omega)).fr hF2 (by omega)).alloc _).fr hF3 (by omega)).fr hF4 (by omega)
  obtain ⟨p0, p1, p2, p3, u0, u1, u2, u3⟩ := ((Box4.new w2 (.int .i64 7) (.string nx) (.int .i64 lm) (.slice none 0 0) 24).fr hF3 (by omega)).fr hF4 (by omega)
  have hz0 : w.heap.size < w4.heap.size := by omega
  have hz2 : w2.heap.size < w4.heap.size := by omega
  go_wp2
  refine bodyPost_ret (v := .agg #[.int .i64 7, .string nx, .int .i64 lm, .slice (some ⟨w4.heap.size, 0, none⟩) 1 1]) (by simp [results, Tryz.results172, go_sem, q0, q1', q2, q3, hz0, hz2]) rfl ?_
  have hFw : Fr r w w4 := ((((Fr.al _ _).trans hF1).trans hF2).trans ((Fr.al _ _).trans hF3)).trans hF4
  have l5 := hl4.frP (x := w2.heap.size) ((Fr.refl w2.heap.size w4).set 3 (.slice (some ⟨w4.heap.size, 0, none⟩) 1 1)) (fun b hb => ⟨hb.2, by omega⟩) (fun b hb => (⟨hb.1, by rw [World.size_setCell]; exact hb.2⟩ : w3.heap.size ≤ b ∧ b < (w4.setCell ⟨w2.heap.size, 3, none⟩ (.slice (some ⟨w4.heap.size, 0, none⟩) 1 1)).heap.size))
  have hput := Fr.put (w4.setCell ⟨w2.heap.size, 3, none⟩ (.slice (some ⟨w4.heap.size, 0, none⟩) 1 1)) w.heap.size (.int .i64 7) (.string nx) (.int .i64 lm) (.slice (some ⟨w4.heap.size, 0, none⟩) 1 1)
  exact .inr ⟨hb4, _, rfl, ((l5.fr (show w.heap.size < w3.heap.size by omega) hput).low (show w.heap.size ≤ w3.heap.size by omega)).rowed (by simp; omega) (by simp), ((hL4.set (by omega) 3 _).put4 (by omega) _ _ _ _).alloc _, ((hFw.setNew (by omega) _).put4 (Nat.le_refl _) _ _ _ _).alloc _⟩
set_option maxHeartbeats 2000000 in
theorem oset {f : Nat} (ihP : ∀ (x : ByteArray) {w : World} {s : St} {q : Tree × St}, Ld w r G ts s → placeF ts f x s = some q → Calls Tryz.prog 178 #[.pointer (some ⟨r, 0, none⟩), .string x] w (OAns w r G ts q)) (ih : Gives r G ts 177 (exprF ts f)) : Gives r G ts 179 (setF ts f) := by
  intro w s q hL hq
  have c24 : Tryz.prog.cellsOf 24 = 4 := by kernel_rfl
  have hr := hL.lt
  have hB0 := Box4.new w (.int .i64 0) (.string empty) (.int .i64 0) (.slice none 0 0) 24
  unfold setF at hq
  obtain ⟨q1, h1, h2⟩ := bind_some_is hq
  obtain ⟨q2, h3, h4⟩ := bind_some_is h2
  simp only [Option.some.injEq] at h4
  subst h4
  clear hq h2
  have S2 : Hid (q1.2.bad = true → q2.2 = q1.2) := fun hb => by
    rw [must_st (by decide) hb] at h3
    exact (stuck ts f).e _ _ hb h3
  have S1 : Hid ((whole ts s).2.bad = true → q2.2 = (whole ts s).2) := fun hb => by
    have e1 := (stuck ts f).p _ _ _ hb h1
    rw [S2.out (by rw [e1]; exact hb), e1]
  have S3 : Hid ((must ts ⟨#[61]⟩ q1.2).bad = true → q2.2 = must ts ⟨#[61]⟩ q1.2) := fun hb => (stuck ts f).e _ _ hb h3
  have hLab := olongName (hL.alloc (.cells #[.int .i64 0, .string empty, .int .i64 0, .slice none 0 0] 24))
  generalize whole ts s = lb at *
  obtain ⟨nx, ns⟩ := lb
  simp only at *
  go_enter Tryz.func179, Tryz.ntmps179
  go_wp2_with (fail)
  refine hLab.mono ?_
  rintro e w1 (⟨hb, rfl, hF1⟩ | ⟨hb, rfl, hL1, hF1⟩)
  · go_wp2
    exact ⟨rfl, OAns.lost (S1.out hb) hb ((Fr.al _ _).trans hF1)⟩
  go_wp2_with (fail)
  refine (ihP nx hL1 h1).mono ?_
  rintro e w2 (⟨hb2, rfl, hF2⟩ | ⟨hb2, v2, rfl, hl2, hL2, hF2⟩)
  · go_wp2
    exact ⟨rfl, OAns.lost (S2.out hb2) hb2 (((Fr.al _ _).trans hF1).trans hF2)⟩
  obtain ⟨k, x, m, _, rfl, a, n, c, rfl⟩ := hl2.shape
  go_wp2_with (fail)
  refine (take_must (hL2.alloc _) ⟨#[61]⟩ (by decide) (by simp)).mono ?_
  rintro e w3 ⟨y3, ⟨hb3, rfl, hF3⟩ | ⟨hb3, rfl, hL3, hF3⟩⟩
  · go_wp2
    exact ⟨rfl, OAns.lost (S3.out hb3) hb3 ((((Fr.al _ _).trans hF1).trans hF2).trans ((Fr.al _ _).trans hF3))⟩
  have z1 := hF1.size
  have z2 := hF2.size
  have z3 := hF3.size
  rw [World.size_alloc] at z1 z3
  have hB1 := (Box4.new w2 (.int .i64 k) (.string x) (.int .i64 m) (.slice a n c) 24).fr hF3 (by omega)
  have hB3 := (((hB0.fr hF1 (by omega)).fr hF2 (by omega)).alloc _).fr hF3 (by omega)
  obtain ⟨p0, p1, p2, p3, u0, u1, u2, u3⟩ := id hB1
  have hFw : Fr r w w3 := (((Fr.al _ _).trans hF1).trans hF2).trans ((Fr.al _ _).trans hF3)
  by_cases hbq : q2.2.bad = true
  · go_wp2
    refine wp_region_any (by kernel_rfl) ?_
    change wpAny _ _ _ _ _ _ _ (World.drew _)
    refine wpAny_take (i := 1) (v := .pointer (some ⟨r, 0, none⟩)) rfl (by kernel_rfl) (by kernel_rfl) (by kernel_rfl) (fun _ _ _ h => h) (Or.inl ⟨by rfl, fun w => by go_simp⟩) ?_
    refine wpAny_ready (rs := [0, 2]) (by kernel_rfl) (by simp) ?_
    refine AllReady.cons rfl (fun K hK => ?_) ?_
    · go_simp
      refine hK _ _ ?_
      clear hK K
      refine wpAny_ready (rs := [2]) (by kernel_rfl) (by simp) ?_
      refine AllReady.cons rfl (fun K hK => ?_) AllReady.nil
      go_simp
      go_at_call 177
      refine (ih.lost (hL3.drewN 1) h3 hbq).mono ?_
      rintro e w4 ⟨rfl, hF4⟩
      go_wp2
      exact ⟨rfl, OAns.lost rfl hbq ((hFw.drewN 1).trans hF4)⟩
    refine AllReady.cons rfl (fun K hK => ?_) AllReady.nil
    go_simp
    go_at_call 177
    refine (ih.lost (hL3.drewN 1) h3 hbq).mono ?_
    rintro e w4 ⟨rfl, hF4⟩
    go_wp2
    exact ⟨rfl, OAns.lost rfl hbq ((hFw.drewN 1).trans hF4)⟩
  · have hbq' : q2.2.bad = false := by simpa using hbq
    go_wp2
    go_region_with (go_at_call 177; refine (ih.fine (hL3.drewN 1) h3 hbq').mono ?_; rintro e w4 ⟨v4, rfl, hl4, hL4, hF4⟩; obtain ⟨k4, x4, m4, _, rfl, a4, n4, c4, rfl⟩ := hl4.shape; obtain ⟨g0, g1, g2, g3, _, _, _, _⟩ := (hB1.drewN 1).fr hF4 (by omega); obtain ⟨f0, f1, f2, f3, i0, i1, i2, i3⟩ := (hB3.drewN 1).fr hF4 (by omega); have y4 : w.heap.size < w4.heap.size := ((hB3.drewN 1).fr hF4 (by omega)).lt)
    all_goals
      go_wp2
      refine bodyPost_ret (v := .agg #[.int .i64 8, .string empty, .int .i64 0, .slice (some ⟨w4.heap.size, 0, none⟩) 2 2]) (by simp [results, Tryz.results179, go_sem, f0, f1, f2, f3, y4, empty]) rfl ?_
      have hF34 : Fr r w3 w4 := ((Fr.refl r w3).drewN 1).trans hF4
      have y3' := hF34.size
      have m3' : Lies (fun b => w.heap.size < b ∧ b < w4.heap.size) w4 q2.1 (.agg #[.int .i64 k4, .string x4, .int .i64 m4, .slice a4 n4 c4]) := hl4.to (fun b hb => by
        have h1 : w3.heap.size ≤ b := hb.1
        exact ⟨by omega, hb.2⟩) (fun _ _ _ => rfl)
      have n3' : Lies (fun b => w.heap.size < b ∧ b < w4.heap.size) w4 q1.1 (.agg #[.int .i64 k, .string x, .int .i64 m, .slice a n c]) := hl2.frP (x := r) (((Fr.al _ _).trans hF3).trans hF34) (fun b hb => ⟨hb.2, by omega⟩) (fun b hb => ⟨by omega, by omega⟩)
      have hput := Fr.put w4 w.heap.size (.int .i64 8) (.string empty) (.int .i64 0) (.slice (some ⟨w4.heap.size, 0, none⟩) 2 2)
      have n4' := n3'.frP (x := w.heap.size) hput (fun b hb => ⟨hb.2, by omega⟩) (fun b hb => hb)
      have m4' := m3'.frP (x := w.heap.size) hput (fun b hb => ⟨hb.2, by omega⟩) (fun b hb => hb)
      exact .inr ⟨hbq', _, rfl, n4'.rowed2P m4' (fun b hb => by simpa using hb.2) (fun b hb => ⟨by omega, by simp; omega⟩) (by simp) ⟨by omega, by simp⟩, (hL4.put4 (by omega) _ _ _ _).alloc _, ((hFw.trans hF34).put4 (Nat.le_refl _) _ _ _ _).alloc _⟩
end
end Go.Proofs.YtchhpinmoagkhaaGreatDoor.syn
namespace Go.Proofs.YtchhpinmoagkhaaGreatDoor.syn
open Go.RowKit
open Go.Proofs.YtchhpinmoagkhaaGreatDoor.lexs (Tok Fine own_shape)
set_option linter.unusedVariables false
set_option linter.unusedSimpArgs false
set_option maxRecDepth 100000

section
variable {w w' w0 : World} {r G B : Nat} {ts : List Tok} {s : St}
theorem OAns.kids {w3 : World} {s3 : St} {kv : Value} {ks : List Tree} {k m : Int} {x : ByteArray} {N B : Nat} (hr : r < w.heap.size) (hK : KO w B r G ts w3 s3 kv ks) (hN : w.heap.size ≤ N) (hB : N < B) (hl : ks.length ≤ 4611686018427387904) :
    OAns w r G ts (.node k x m ks, s3) (.returned (.agg #[.int .i64 k, .string x, .int .i64 m, kv])) ((((w3.setCell ⟨N, 0, none⟩ (.int .i64 k)).setCell ⟨N, 1, none⟩ (.string x)).setCell ⟨N, 2, none⟩ (.int .i64 m)).setCell ⟨N, 3, none⟩ kv) :=
  OAns.fin hr hK.fr hK.ld hN hB (hK.kids.lies (fun b hb => ⟨hb.1, hb.2.1⟩) (fun g hg => hK.kids.blk hg) hl)
set_option maxHeartbeats 4000000 in
theorem oblock {f : Nat} (hf : f ≤ 100000) (ihS : ∀ {g : Nat}, g ≤ f → Gives r G ts 162 (statF ts g)) : Gives r G ts 146 (blockF ts (f + 1)) := by
  intro w s q hL hq
  have c24 : Tryz.prog.cellsOf 24 = 4 := by kernel_rfl
  have hr := hL.lt
  obtain ⟨i0, hi, hz0, hz1', hz2⟩ := info_parts nodeInfo
  have hB0 := (Box4.new w (.int .i64 0) (.string empty) (.int .i64 0) (.slice none 0 0) 24).alloc (.cells #[.int .i64 6, .string empty, .int .i64 0, .slice none 0 0] 24)
  have hB1 := Box4.new (w.alloc (.cells #[.int .i64 0, .string empty, .int .i64 0, .slice none 0 0] 24)) (.int .i64 6) (.string empty) (.int .i64 0) (.slice none 0 0) 24
  rw [World.size_alloc] at hB1
  have hL0 := (hL.alloc (.cells #[.int .i64 0, .string empty, .int .i64 0, .slice none 0 0] 24)).alloc (.cells #[.int .i64 6, .string empty, .int .i64 0, .slice none 0 0] 24)
  unfold blockF at hq
  have hT := take_must (T := 9) hL0 ⟨#[123]⟩ (by decide) (M := w.heap.size + 2) (by simp)
  have HQ : Hid (blockL ts f [] (must ts ⟨#[123]⟩ s) = some q) := hq
  clear hq
  generalize must ts ⟨#[123]⟩ s = s0 at *
  go_enter Tryz.func146, Tryz.ntmps146
  go_wp2_with (fail)
  refine hT.mono ?_
  rintro e w1 ⟨y, ⟨hb, rfl, hF1⟩ | ⟨hb, rfl, hL1, hF1⟩⟩
  · go_wp2
    exact ⟨rfl, OAns.lost ((stuck2 ts f).bl _ _ _ hb HQ.out) hb (((Fr.al _ _).trans (Fr.al _ _)).trans hF1)⟩
  go_wp2
  go_loopg [] f (fun k wr => ∃ (ks : List Tree) (s1 : St) (kv : Value), Hid (blockL ts k ks s1 = some q) ∧ ks.length + k ≤ f ∧ KO w (w.heap.size + 2) r G ts wr s1 kv ks ∧ Box4 wr (w.heap.size + 1) (.int .i64 6) (.string empty) (.int .i64 0) kv ∧ Box4 wr w.heap.size (.int .i64 0) (.string empty) (.int .i64 0) (.slice none 0 0))
  case atStart =>
    exact ⟨[], s0, .slice none 0 0, HQ.out, by simp, ⟨hL1, hr, by omega, ((Fr.al _ _).trans (Fr.al _ _)).trans hF1, Kids.nil _ _ _⟩, hB1.fr hF1 (by omega), hB0.fr hF1 (by omega)⟩
  case round =>
    obtain ⟨ks, s1, kv, HL, hkf, hK, hb1, hb0⟩ := hrel
    clear HQ
    obtain ⟨a, c, rfl⟩ := hK.kids.shape
    cases gk with
    | zero => have := HL.out; unfold blockL at this; simp at this
    | succ k =>
      have hq2 := HL.out
      clear HL
      unfold blockL at hq2
      rw [hK.ld.ok, if_neg (by decide)] at hq2
      cases he : eqS (txt ts s1) ⟨#[125]⟩
      case true =>
        rw [he, if_pos rfl] at hq2
        simp only [Option.some.injEq] at hq2
        subst hq2
        go_wp2_with (fail)
        refine (skip_yes hK.ld ⟨#[125]⟩ (by decide) he rfl).mono ?_
        rintro e w2 ⟨rfl, hL2, hF2⟩
        have hK2 := hK.step hL2 hF2
        obtain ⟨p0, p1, p2, p3, _, _, _, _⟩ := hb1.fr hF2 (by omega)
        obtain ⟨t0, t1, t2, t3, u0, u1, u2, u3⟩ := hb0.fr hF2 (by omega)
        go_wp2
        exact bodyPost_ret (v := .agg #[.int .i64 6, .string empty, .int .i64 0, .slice a ks.length c]) (by simp [results, Tryz.results146, go_sem, t0, t1, t2, t3]) rfl (OAns.kids hr hK2 (Nat.le_refl _) (by omega) (by omega))
      case false =>
        rw [he, if_neg (by decide)] at hq2
        obtain ⟨q1, h1, hq3⟩ := bind_some_is hq2
        have HQ : Hid (blockL ts k (ks ++ [q1.1]) q1.2 = some q) := hq3
        clear hq2 hq3
        go_wp2_with (fail)
        refine (skip_no hK.ld ⟨#[125]⟩ (by decide) he rfl).mono ?_
        rintro e w2 ⟨rfl, hL2, hF2⟩
        have hK2 := hK.step hL2 hF2
        have hb12 := hb1.fr hF2 (by omega)
        have hb02 := hb0.fr hF2 (by omega)
        obtain ⟨p0, p1, p2, p3, _, _, _, _⟩ := id hb12
        have hS : Gives r G ts 162 (statF ts k) := ihS (by omega)
        by_cases hbq : q1.2.bad = true
        · have HS : Hid (q.2 = q1.2) := (stuck2 ts k).bl _ _ _ hbq HQ.out
          go_wp2
          refine wp_region_any (by kernel_rfl) ?_
          change wpAny _ _ _ _ _ _ _ (World.drew _)
          refine wpAny_take (i := 0) (v := .pointer (some ⟨w.heap.size + 1, 3, none⟩)) rfl (by kernel_rfl) (by kernel_rfl) (by kernel_rfl) (fun _ _ _ h => h) (Or.inl ⟨by rfl, fun w => by go_simp⟩) ?_
          refine wpAny_take (i := 2) (v := .pointer (some ⟨r, 0, none⟩)) rfl (by kernel_rfl) (by kernel_rfl) (by kernel_rfl) (fun _ _ _ h => h) (Or.inl ⟨by rfl, fun w => by go_simp⟩) ?_
          refine wpAny_ready (rs := [1, 3]) (by kernel_rfl) (by simp) ?_
          refine AllReady.cons rfl (fun K hK => ?_) ?_
          · go_simp
            refine hK _ _ ?_
            clear hK K
            refine wpAny_ready (rs := [3]) (by kernel_rfl) (by simp) ?_
            refine AllReady.cons rfl (fun K hK => ?_) AllReady.nil
            go_simp
            go_at_call 162
            refine (hS.lost (hL2.drewN 1) h1 hbq).mono ?_
            rintro e w4 ⟨rfl, hF4⟩
            go_wp2
            exact ⟨rfl, OAns.lost HS.out hbq ((hK2.fr.drewN 1).trans hF4)⟩
          refine AllReady.cons rfl (fun K hK => ?_) AllReady.nil
          go_simp
          go_at_call 162
          refine (hS.lost (hL2.drewN 1) h1 hbq).mono ?_
          rintro e w4 ⟨rfl, hF4⟩
          go_wp2
          exact ⟨rfl, OAns.lost HS.out hbq ((hK2.fr.drewN 1).trans hF4)⟩
        · have hbq' : q1.2.bad = false := by simpa using hbq
          go_wp2
          refine wp_region_any (by kernel_rfl) ?_
          change wpAny _ _ _ _ _ _ _ (World.drew _)
          refine wpAny_take (i := 0) (v := .pointer (some ⟨w.heap.size + 1, 3, none⟩)) rfl (by kernel_rfl) (by kernel_rfl) (by kernel_rfl) (fun _ _ _ h => h) (Or.inl ⟨by rfl, fun w => by go_simp⟩) ?_
          refine wpAny_take (i := 2) (v := .pointer (some ⟨r, 0, none⟩)) rfl (by kernel_rfl) (by kernel_rfl) (by kernel_rfl) (fun _ _ _ h => h) (Or.inl ⟨by rfl, fun w => by go_simp⟩) ?_
          refine wpAny_ready (rs := [1, 3]) (by kernel_rfl) (by simp) ?_
          refine AllReady.cons rfl (fun K hK => ?_) ?_
          · go_simp
            refine hK _ _ ?_
            clear hK K
            refine wpAny_ready (rs := [3]) (by kernel_rfl) (by simp) ?_
            refine AllReady.cons rfl (fun K hK => ?_) AllReady.nil
            go_simp
            go_at_call 162
            refine (hS.fine (hL2.drewN 1) h1 hbq').mono ?_
            rintro e w4 ⟨v4, rfl, hl4, hL4, hF4⟩
            obtain ⟨kc, yc, mc, _, rfl, ac, nc, cc, rfl⟩ := hl4.shape
            have hF24 : Fr r w2 w4 := ((Fr.refl r w2).drewN 1).trans hF4
            have hkb : ∀ g, (Value.slice a ks.length c).ownBlock = some g → w.heap.size + 2 ≤ g ∧ g < w2.heap.size := fun g hg => hK2.kids.blk hg
            have hK4 := hK2.step hL4 hF24
            have zz := hF24.size
            have z2 := hb12.lt
            have hlc : Lies (fun b => w.heap.size + 2 ≤ b ∧ b < w4.heap.size ∧ some b ≠ (Value.slice a ks.length c).ownBlock) w4 q1.1 (.agg #[.int .i64 kc, .string yc, .int .i64 mc, .slice ac nc cc]) :=
              hl4.to (fun b hb => by
                have h1 : w2.heap.size ≤ b := hb.1
                exact ⟨by omega, hb.2, fun e => by have := (hkb b e.symm).2; omega⟩) (fun _ _ _ => rfl)
            obtain ⟨vs, ho, ha⟩ := hK4.kids
            have HA : Hid (AllLie (fun b => w.heap.size + 2 ≤ b ∧ b < w4.heap.size ∧ some b ≠ (Value.slice a ks.length c).ownBlock) w4 ks vs) := ha
            have hlk : ks.length ≤ 100001 := by omega
            have hb14 := hb12.fr hF24 (by omega)
            have hb04 := hb02.fr hF24 (by omega)
            obtain ⟨g0, g1, g2, g3, _, _, _, _⟩ := id hb14
            have z4 : w.heap.size + 1 < w4.heap.size := hb14.lt
            have z4' : w.heap.size < w4.heap.size := hb04.lt
            clear ha
            go_wp2
            refine wpAny_ready (rs := [4]) (by kernel_rfl) (by simp) ?_
            refine AllReady.cons rfl (fun K hK => ?_) AllReady.nil
            go_simp
            refine hK _ _ ?_
            clear hK K
            refine wpAny_ready (rs := [5]) (by kernel_rfl) (by simp) ?_
            refine AllReady.cons rfl (fun K hK => ?_) AllReady.nil
            refine step_append_lies _ (by rfl) (.tmp 13) (.tmp 16) 22 (by rfl) (w.heap.size + 2) 24 i0 (.agg #[.int .i64 0, .string ⟨#[]⟩, .int .i64 0, .slice none 0 0]) 4 56 Tryz.underlying22 hi hz0 hz1' hz2 rfl (by decide) (.slice a ks.length c) ks.length (flat4 vs) rfl (ho.alloc _) ⟨w4.heap.size, 0, none⟩ 1 1 [.int .i64 kc, .string yc, .int .i64 mc, .slice ac nc cc] rfl rfl (cells4_new _ _ _ _ _ _ _ rfl) (by intro u hu; simp at hu; rcases hu with rfl | rfl | rfl | rfl <;> rfl) (by omega) (by unfold maxLen; omega) (by omega) (by simp; omega) (w4.heap.size + 1) (by simp) ?_
            intro g cap w5 hown' hgrow hat hlt
            refine hK _ _ ?_
            clear hK K
            have hK5 := KO.pushed (q := (.int .i64 kc, .string yc, .int .i64 mc, .slice ac nc cc)) (t := q1.1) hK4 ho HA.out hlc hown' hgrow (by rcases hat with e | e; exact .inl e.symm; exact .inr (by rw [e]; rfl))
            have hnb : (Value.slice a ks.length c).ownBlock ≠ some (w.heap.size + 1) := fun e => by have := (hkb _ e).1; omega
            have hnb0 : (Value.slice a ks.length c).ownBlock ≠ some w.heap.size := fun e => by have := (hkb _ e).1; omega
            have hb15 := (hb14.alloc (.cells #[.int .i64 kc, .string yc, .int .i64 mc, .slice ac nc cc] 24)).grown hgrow hnb
            have hb05 := (hb04.alloc (.cells #[.int .i64 kc, .string yc, .int .i64 mc, .slice ac nc cc] 24)).grown hgrow hnb0
            obtain ⟨e0, e1, e2, e3, d0, d1, d2, d3⟩ := id hb15
            refine wpAny_ready (rs := [6]) (by kernel_rfl) (by simp) ?_
            refine AllReady.cons rfl (fun K hK => ?_) AllReady.nil
            go_simp
            refine hK _ _ ?_
            clear hK K
            refine wpAny_ready (rs := [7]) (by kernel_rfl) (by simp) ?_
            refine AllReady.cons rfl (fun K hK => ?_) AllReady.nil
            go_simp
            refine hK _ _ ?_
            clear hK K
            refine wpAny_done (by kernel_rfl) ?_ _
            go_wp2
            go_roundg k
            case rel => exact ⟨ks ++ [q1.1], q1.2, _, HQ.out, by rw [List.length_append]; simp; omega, hK5.set (by omega) (by omega) 3 _, hb15.set3 _, hb05.other (by omega) _⟩
            case measure => omega
          refine AllReady.cons rfl (fun K hK => ?_) AllReady.nil
          go_simp
          go_at_call 162
          refine (hS.fine (hL2.drewN 1) h1 hbq').mono ?_
          rintro e w4 ⟨v4, rfl, hl4, hL4, hF4⟩
          obtain ⟨kc, yc, mc, _, rfl, ac, nc, cc, rfl⟩ := hl4.shape
          have hF24 : Fr r w2 w4 := ((Fr.refl r w2).drewN 1).trans hF4
          have hkb : ∀ g, (Value.slice a ks.length c).ownBlock = some g → w.heap.size + 2 ≤ g ∧ g < w2.heap.size := fun g hg => hK2.kids.blk hg
          have hK4 := hK2.step hL4 hF24
          have zz := hF24.size
          have z2 := hb12.lt
          have hlc : Lies (fun b => w.heap.size + 2 ≤ b ∧ b < w4.heap.size ∧ some b ≠ (Value.slice a ks.length c).ownBlock) w4 q1.1 (.agg #[.int .i64 kc, .string yc, .int .i64 mc, .slice ac nc cc]) :=
            hl4.to (fun b hb => by
              have h1 : w2.heap.size ≤ b := hb.1
              exact ⟨by omega, hb.2, fun e => by have := (hkb b e.symm).2; omega⟩) (fun _ _ _ => rfl)
          obtain ⟨vs, ho, ha⟩ := hK4.kids
          have HA : Hid (AllLie (fun b => w.heap.size + 2 ≤ b ∧ b < w4.heap.size ∧ some b ≠ (Value.slice a ks.length c).ownBlock) w4 ks vs) := ha
          have hlk : ks.length ≤ 100001 := by omega
          have hb14 := hb12.fr hF24 (by omega)
          have hb04 := hb02.fr hF24 (by omega)
          obtain ⟨g0, g1, g2, g3, _, _, _, _⟩ := id hb14
          have z4 : w.heap.size + 1 < w4.heap.size := hb14.lt
          have z4' : w.heap.size < w4.heap.size := hb04.lt
          clear ha
          go_wp2
          refine wpAny_ready (rs := [1, 4]) (by kernel_rfl) (by simp) ?_
          refine AllReady.cons rfl (fun K hK => ?_) ?_
          · go_simp
            refine hK _ _ ?_
            clear hK K
            refine wpAny_ready (rs := [4]) (by kernel_rfl) (by simp) ?_
            refine AllReady.cons rfl (fun K hK => ?_) AllReady.nil
            go_simp
            refine hK _ _ ?_
            clear hK K
            refine wpAny_ready (rs := [5]) (by kernel_rfl) (by simp) ?_
            refine AllReady.cons rfl (fun K hK => ?_) AllReady.nil
            refine step_append_lies _ (by rfl) (.tmp 13) (.tmp 16) 22 (by rfl) (w.heap.size + 2) 24 i0 (.agg #[.int .i64 0, .string ⟨#[]⟩, .int .i64 0, .slice none 0 0]) 4 56 Tryz.underlying22 hi hz0 hz1' hz2 rfl (by decide) (.slice a ks.length c) ks.length (flat4 vs) rfl (ho.alloc _) ⟨w4.heap.size, 0, none⟩ 1 1 [.int .i64 kc, .string yc, .int .i64 mc, .slice ac nc cc] rfl rfl (cells4_new _ _ _ _ _ _ _ rfl) (by intro u hu; simp at hu; rcases hu with rfl | rfl | rfl | rfl <;> rfl) (by omega) (by unfold maxLen; omega) (by omega) (by simp; omega) (w4.heap.size + 1) (by simp) ?_
            intro g cap w5 hown' hgrow hat hlt
            refine hK _ _ ?_
            clear hK K
            have hK5 := KO.pushed (q := (.int .i64 kc, .string yc, .int .i64 mc, .slice ac nc cc)) (t := q1.1) hK4 ho HA.out hlc hown' hgrow (by rcases hat with e | e; exact .inl e.symm; exact .inr (by rw [e]; rfl))
            have hnb : (Value.slice a ks.length c).ownBlock ≠ some (w.heap.size + 1) := fun e => by have := (hkb _ e).1; omega
            have hnb0 : (Value.slice a ks.length c).ownBlock ≠ some w.heap.size := fun e => by have := (hkb _ e).1; omega
            have hb15 := (hb14.alloc (.cells #[.int .i64 kc, .string yc, .int .i64 mc, .slice ac nc cc] 24)).grown hgrow hnb
            have hb05 := (hb04.alloc (.cells #[.int .i64 kc, .string yc, .int .i64 mc, .slice ac nc cc] 24)).grown hgrow hnb0
            obtain ⟨e0, e1, e2, e3, d0, d1, d2, d3⟩ := id hb15
            refine wpAny_ready (rs := [6]) (by kernel_rfl) (by simp) ?_
            refine AllReady.cons rfl (fun K hK => ?_) AllReady.nil
            go_simp
            refine hK _ _ ?_
            clear hK K
            refine wpAny_ready (rs := [7]) (by kernel_rfl) (by simp) ?_
            refine AllReady.cons rfl (fun K hK => ?_) AllReady.nil
            go_simp
            refine hK _ _ ?_
            clear hK K
            refine wpAny_done (by kernel_rfl) ?_ _
            go_wp2
            go_roundg k
            case rel => exact ⟨ks ++ [q1.1], q1.2, _, HQ.out, by rw [List.length_append]; simp; omega, hK5.set (by omega) (by omega) 3 _, hb15.set3 _, hb05.other (by omega) _⟩
            case measure => omega
          refine AllReady.cons rfl (fun K hK => ?_) AllReady.nil
          go_simp
          refine hK _ _ ?_
          clear hK K
          refine wpAny_ready (rs := [1]) (by kernel_rfl) (by simp) ?_
          refine AllReady.cons rfl (fun K hK => ?_) AllReady.nil
          go_simp
          refine hK _ _ ?_
          clear hK K
          refine wpAny_ready (rs := [5]) (by kernel_rfl) (by simp) ?_
          refine AllReady.cons rfl (fun K hK => ?_) AllReady.nil
          refine step_append_lies _ (by rfl) (.tmp 13) (.tmp 16) 22 (by rfl) (w.heap.size + 2) 24 i0 (.agg #[.int .i64 0, .string ⟨#[]⟩, .int .i64 0, .slice none 0 0]) 4 56 Tryz.underlying22 hi hz0 hz1' hz2 rfl (by decide) (.slice a ks.length c) ks.length (flat4 vs) rfl (ho.alloc _) ⟨w4.heap.size, 0, none⟩ 1 1 [.int .i64 kc, .string yc, .int .i64 mc, .slice ac nc cc] rfl rfl (cells4_new _ _ _ _ _ _ _ rfl) (by intro u hu; simp at hu; rcases hu with rfl | rfl | rfl | rfl <;> rfl) (by omega) (by unfold maxLen; omega) (by omega) (by simp; omega) (w4.heap.size + 1) (by simp) ?_
          intro g cap w5 hown' hgrow hat hlt
          refine hK _ _ ?_
          clear hK K
          have hK5 := KO.pushed (q := (.int .i64 kc, .string yc, .int .i64 mc, .slice ac nc cc)) (t := q1.1) hK4 ho HA.out hlc hown' hgrow (by rcases hat with e | e; exact .inl e.symm; exact .inr (by rw [e]; rfl))
          have hnb : (Value.slice a ks.length c).ownBlock ≠ some (w.heap.size + 1) := fun e => by have := (hkb _ e).1; omega
          have hnb0 : (Value.slice a ks.length c).ownBlock ≠ some w.heap.size := fun e => by have := (hkb _ e).1; omega
          have hb15 := (hb14.alloc (.cells #[.int .i64 kc, .string yc, .int .i64 mc, .slice ac nc cc] 24)).grown hgrow hnb
          have hb05 := (hb04.alloc (.cells #[.int .i64 kc, .string yc, .int .i64 mc, .slice ac nc cc] 24)).grown hgrow hnb0
          obtain ⟨e0, e1, e2, e3, d0, d1, d2, d3⟩ := id hb15
          refine wpAny_ready (rs := [6]) (by kernel_rfl) (by simp) ?_
          refine AllReady.cons rfl (fun K hK => ?_) AllReady.nil
          go_simp
          refine hK _ _ ?_
          clear hK K
          refine wpAny_ready (rs := [7]) (by kernel_rfl) (by simp) ?_
          refine AllReady.cons rfl (fun K hK => ?_) AllReady.nil
          go_simp
          refine hK _ _ ?_
          clear hK K
          refine wpAny_done (by kernel_rfl) ?_ _
          go_wp2
          go_roundg k
          case rel => exact ⟨ks ++ [q1.1], q1.2, _, HQ.out, by rw [List.length_append]; simp; omega, hK5.set (by omega) (by omega) 3 _, hb15.set3 _, hb05.other (by omega) _⟩
          case measure => omega
end
end Go.Proofs.YtchhpinmoagkhaaGreatDoor.syn
