/- What the program's ended, number, param, enclosed and place answer: contracts. What the program's enclosed and place answer, once expr does: contracts. -/
import Derived.Test.YtchhpinmoagkhaaGreatDoorProg
import Derived.WalkKit
import Derived.WalkLawsBesides
import Derived.Outline
import Derived.WalkSmall
import Derived.BigQuiet
import Derived.Deep.QuietTactic
import Derived.Test.YtchhpinmoagkhaaGreatDoorNLe
import Derived.Test.YtchhpinmoagkhaaGreatDoorNRb
import Derived.Test.YtchhpinmoagkhaaGreatDoorNOa
namespace Go.Proofs.YtchhpinmoagkhaaGreatDoor.syn
open Go.RowKit
open Go.Proofs.YtchhpinmoagkhaaGreatDoor.lexs (Tok Fine val numE digB)
set_option linter.unusedVariables false
set_option linter.unusedSimpArgs false
set_option maxRecDepth 100000

/-- what a call of the program's reader answers: a node, in new memory, or it gives up -/
def OAns (w : World) (r G : Nat) (ts : List Tok) (q : Tree × St) (e : Ending) (w' : World) : Prop :=
  (q.2.bad = true ∧ e = .panicked (Pan ts q.2) ∧ Fr r w w') ∨ (q.2.bad = false ∧ ∃ v, e = .returned v ∧ Lies (fun b => w.heap.size ≤ b ∧ b < w'.heap.size) w' q.1 v ∧ Ld w' r G ts q.2 ∧ Fr r w w')
section
variable {w w' : World} {r G : Nat} {ts : List Tok} {s : St}
theorem OVal.lost {v : Value} {s' s1 : St} (hq : s' = s1) (hb : s1.bad = true) (hF : Fr r w w') : OVal w r G ts v s' (.panicked (Pan ts s1)) w' := .inl ⟨by rw [hq]; exact hb, by rw [hq], hF⟩
theorem OAns.lost {q : Tree × St} {s1 : St} (hq : q.2 = s1) (hb : s1.bad = true) (hF : Fr r w w') : OAns w r G ts q (.panicked (Pan ts s1)) w' := .inl ⟨by rw [hq]; exact hb, by rw [hq], hF⟩
theorem Ld.put4 (h : Ld w r G ts s) {N : Nat} (hN : r < N) (x0 x1 x2 x3 : Value) : Ld ((((w.setCell ⟨N, 0, none⟩ x0).setCell ⟨N, 1, none⟩ x1).setCell ⟨N, 2, none⟩ x2).setCell ⟨N, 3, none⟩ x3) r G ts s :=
  (((h.set hN 0 x0).set hN 1 x1).set hN 2 x2).set hN 3 x3
/-- the end: the node is put into the box that was laid first -/
theorem OAns.fin {w3 : World} {s3 : St} {t : Tree} {x0 x1 x2 x3 : Value} {B N : Nat} (hr : r < w.heap.size) (hF : Fr r w w3) (hL3 : Ld w3 r G ts s3) (hN : w.heap.size ≤ N) (hB : N < B) (hL : Lies (fun b => B ≤ b ∧ b < w3.heap.size) w3 t (.agg #[x0, x1, x2, x3])) :
    OAns w r G ts (t, s3) (.returned (.agg #[x0, x1, x2, x3])) ((((w3.setCell ⟨N, 0, none⟩ x0).setCell ⟨N, 1, none⟩ x1).setCell ⟨N, 2, none⟩ x2).setCell ⟨N, 3, none⟩ x3) :=
  .inr ⟨hL3.ok, _, rfl, (hL.fr hB (Fr.put _ _ _ _ _ _)).low (by omega), hL3.put4 (by omega) _ _ _ _, hF.put4 hN _ _ _ _⟩
/-- a node over one, whose row is laid now -/
theorem Lies.rowed {W : World} {B : Nat} {t : Tree} {y0 y1 y2 y3 : Value} {T : TypeId} {M c : Nat} {k m : Int} {x : ByteArray} (h : Lies (fun b => B ≤ b ∧ b < W.heap.size) W t (.agg #[y0, y1, y2, y3])) (hB : B ≤ W.heap.size) (hM : M = W.heap.size) :
    Lies (fun b => B ≤ b ∧ b < (W.alloc (.cells #[y0, y1, y2, y3] T)).heap.size) (W.alloc (.cells #[y0, y1, y2, y3] T)) (.node k x m [t]) (.agg #[.int .i64 k, .string x, .int .i64 m, .slice (some ⟨M, 0, none⟩) 1 c]) := by
  refine Lies.one ⟨by omega, by rw [World.size_alloc]; omega⟩ (cell4_new _ hM) ?_
  exact h.to (fun b hb => ⟨hb.1, by rw [World.size_alloc]; omega⟩) (fun b hb o => ((Below.refl W.heap.size W).alloc (Nat.le_refl _) _).cell (p := ⟨b, o, none⟩) hb.2)
theorem Lies.rowed2 {W : World} {B : Nat} {t t' : Tree} {y0 y1 y2 y3 z0 z1 z2 z3 : Value} {T : TypeId} {M c : Nat} {k m : Int} {x : ByteArray} (h : Lies (fun b => B ≤ b ∧ b < W.heap.size) W t (.agg #[y0, y1, y2, y3])) (h' : Lies (fun b => B ≤ b ∧ b < W.heap.size) W t' (.agg #[z0, z1, z2, z3])) (hB : B ≤ W.heap.size) (hM : M = W.heap.size) :
    Lies (fun b => B ≤ b ∧ b < (W.alloc (.cells #[y0, y1, y2, y3, z0, z1, z2, z3] T)).heap.size) (W.alloc (.cells #[y0, y1, y2, y3, z0, z1, z2, z3] T)) (.node k x m [t, t']) (.agg #[.int .i64 k, .string x, .int .i64 m, .slice (some ⟨M, 0, none⟩) 2 c]) := by
  obtain ⟨c1, c2⟩ := cell4_two W (y0 := y0) (y1 := y1) (y2 := y2) (y3 := y3) (z0 := z0) (z1 := z1) (z2 := z2) (z3 := z3) (T := T) hM
  refine Lies.two ⟨by omega, by rw [World.size_alloc]; omega⟩ c1 c2 ?_ ?_
  · exact h.to (fun b hb => ⟨hb.1, by rw [World.size_alloc]; omega⟩) (fun b hb o => ((Below.refl W.heap.size W).alloc (Nat.le_refl _) _).cell (p := ⟨b, o, none⟩) hb.2)
  · exact h'.to (fun b hb => ⟨hb.1, by rw [World.size_alloc]; omega⟩) (fun b hb o => ((Below.refl W.heap.size W).alloc (Nat.le_refl _) _).cell (p := ⟨b, o, none⟩) hb.2)
theorem OAns.box {w1 : World} {q : Tree × St} {e : Ending} (h : OAns w1 r G ts q e w') (hF : Fr r w w1) : OAns w r G ts q e w' := by
  rcases h with ⟨hb, he, h⟩ | ⟨hb, v, he, hl, hL, h⟩
  · exact .inl ⟨hb, he, hF.trans h⟩
  · exact .inr ⟨hb, v, he, hl.low hF.size, hL, hF.trans h⟩
/-- ended: the node that came in, behind a ';' -/
theorem oended (hL : Ld w r G ts s) (k m : Int) (x : ByteArray) (a : Option Addr) (n c : Nat) :
    Calls Tryz.prog 99 #[.pointer (some ⟨r, 0, none⟩), .agg #[.int .i64 k, .string x, .int .i64 m, .slice a n c]] w (OVal w r G ts (.agg #[.int .i64 k, .string x, .int .i64 m, .slice a n c]) (must ts ⟨#[59]⟩ s)) := by
  have c24 : Tryz.prog.cellsOf 24 = 4 := by kernel_rfl
  have hr := hL.lt
  have hB1 := Box4.new w (.int .i64 k) (.string x) (.int .i64 m) (.slice a n c) 24
  have hB2 := Box4.new (w.alloc (.cells #[.int .i64 k, .string x, .int .i64 m, .slice a n c] 24)) (.int .i64 0) (.string empty) (.int .i64 0) (.slice none 0 0) 24
  have hB1' := hB1.alloc (.cells #[.int .i64 0, .string empty, .int .i64 0, .slice none 0 0] 24)
  go_enter Tryz.func99, Tryz.ntmps99
  go_wp2_with (fail)
  refine (take_must ((hL.alloc _).alloc _) ⟨#[59]⟩ (by decide) (by simp)).mono ?_
  rintro e w1 ⟨y, ⟨hb, rfl, hF⟩ | ⟨hb, rfl, hL1, hF⟩⟩
  · go_wp2
    exact ⟨rfl, OVal.lost rfl hb (((Fr.al _ _).trans (Fr.al _ _)).trans hF)⟩
  · obtain ⟨q0, q1', q2, q3, t0, t1, t2, t3⟩ := hB2.fr hF (by simp <;> omega)
    obtain ⟨p0, p1, p2, p3, _, _, _, _⟩ := hB1'.fr hF (by omega)
    simp only [World.size_alloc] at q0 q1' q2 q3 t0 t1 t2 t3
    have hz := hF.size
    simp only [World.size_alloc] at hz
    go_wp2
    exact bodyPost_ret (v := .agg #[.int .i64 k, .string x, .int .i64 m, .slice a n c]) (by simp [results, Tryz.results99, go_sem, q0, q1', q2, q3]) rfl
      (.inr ⟨hb, rfl, hL1.put4 (by omega) _ _ _ _, (((Fr.al _ _).trans (Fr.al _ _)).trans hF).put4 (by omega) _ _ _ _⟩)
theorem oparam (hL : Ld w r G ts s) :
    Calls Tryz.prog 145 #[.pointer (some ⟨r, 0, none⟩)] w (OAns w r G ts (.node 5 (name ts (label ts s).2).1 (label ts s).1 [], (name ts (label ts s).2).2)) := by
  have c24 : Tryz.prog.cellsOf 24 = 4 := by kernel_rfl
  have hr := hL.lt
  have hB0 := Box4.new w (.int .i64 0) (.string empty) (.int .i64 0) (.slice none 0 0) 24
  go_enter Tryz.func145, Tryz.ntmps145
  go_wp2_with (fail)
  refine (olabel (hL.alloc _)).mono ?_
  rintro e w1 (⟨hb, rfl, hF1⟩ | ⟨hb, rfl, hL1, hF1⟩)
  · go_wp2
    exact ⟨rfl, OAns.lost (name_st hb) hb ((Fr.al _ _).trans hF1)⟩
  go_wp2_with (fail)
  refine (oname hL1).mono ?_
  rintro e w2 (⟨hb2, rfl, hF2⟩ | ⟨hb2, rfl, hL2, hF2⟩)
  · go_wp2
    exact ⟨rfl, OAns.lost rfl hb2 (((Fr.al _ _).trans hF1).trans hF2)⟩
  obtain ⟨q0, q1', q2, q3, t0, t1, t2, t3⟩ := (hB0.fr hF1 (by omega)).fr hF2 (by omega)
  go_wp2
  exact bodyPost_ret (v := .agg #[.int .i64 5, .string (name ts (label ts s).2).1, .int .i64 (label ts s).1, .slice none 0 0]) (by simp [results, Tryz.results145, go_sem, q0, q1', q2, q3]) rfl
    (OAns.fin hr (((Fr.al _ _).trans hF1).trans hF2) hL2 (Nat.le_refl _) (Nat.lt_succ_self _) (Lies.leaf _ _ _ _ _))
theorem fine_num {l : List UInt8} (h : numE l = 0) (h0 : l ≠ []) : l.all digB = true ∧ val l < 9223372036854775808 ∧ l.length ≤ 3000 := by
  have hd := num_digits h
  have hz : (decide (1 < l.length) && l.headD 0 == 48) = false := by
    cases hz : (decide (1 < l.length) && l.headD 0 == 48)
    · rfl
    · unfold numE at h
      rw [hd, hz] at h
      simp at h
  have hv := lexs.numE_val l hd h0 hz
  rw [h] at hv
  refine ⟨hd, ?_, ?_⟩
  · rcases Nat.lt_or_ge (val l) 9223372036854775808 with h1 | h1
    · exact h1
    · rw [if_neg (by omega)] at hv; simp at hv
  · unfold numE at h
    rw [hd, hz] at h
    simp only [Bool.true_eq_false, Bool.false_eq_true, if_false] at h
    rcases Nat.lt_or_ge 19 l.length with h1 | h1
    · rw [decide_eq_true h1] at h; simp at h
    · omega
theorem onumber (hL : Ld w r G ts s) :
    Calls Tryz.prog 123 #[.pointer (some ⟨r, 0, none⟩)] w (OAns w r G ts (number ts s)) := by
  have c29 : Tryz.prog.cellsOf 58 = 3 := by kernel_rfl
  have c24 : Tryz.prog.cellsOf 24 = 4 := by kernel_rfl
  have hlen := hL.len
  have hr := hL.lt
  have hB0 := Box4.new w (.int .i64 0) (.string empty) (.int .i64 0) (.slice none 0 0) 24
  have hL0 := hL.alloc (.cells #[.int .i64 0, .string empty, .int .i64 0, .slice none 0 0] 24)
  obtain ⟨a, cp, h0, h1, h2⟩ := hL.c0
  unfold number
  rw [here_is hL.ok]
  by_cases hlt : s.i < ts.length
  · obtain rfl := h2 hlt
    rw [lt_get hlt]
    obtain ⟨y0, y1, y2⟩ := hL.tok s.i hlt
    have hG := hL.gt (by omega)
    have hn : 0 < ts.length - s.i := by omega
    have hn' : ts.length - s.i ≤ 3000 := by omega
    simp only
    cases hk : (ts[s.i].kind == 2)
    · simp only [Bool.false_eq_true, if_false]
      have hk' : (ts[s.i].kind != 2) = true := by simp only [bne, hk, Bool.not_false]
      have hg := ogiveUp hL0
      generalize ts[s.i].kind = tk at *
      generalize ts.length - s.i = n at *
      go_enter Tryz.func123, Tryz.ntmps123
      go_wp2_with (fail)
      refine hg.mono ?_
      rintro e w2 ⟨rfl, hw2⟩
      obtain rfl := hw2.symm
      go_wp2
      exact ⟨rfl, .inl ⟨rfl, rfl, Fr.al _ _⟩⟩
    · simp only [if_true]
      have hk' : (ts[s.i].kind != 2) = false := by simp only [bne, hk, Bool.not_true]
      have hfine := hL.good _ (List.getElem_mem hlt)
      obtain ⟨hd, hv, hl⟩ := fine_num (hfine.num (by simpa using hk)) hfine.ne
      have hN := onext hL0 hlt
      have hP := fun w => lexs.parse_ok (raw ts[s.i]) (by rw [raw_size]; exact hl) (by rw [raw_list]; exact hd) (by rw [raw_list]; exact hfine.ne) (by rw [raw_list]; exact hv) w
      rw [raw_list] at hP
      generalize ts[s.i].kind = tk at *
      generalize ts.length - s.i = n at *
      generalize raw ts[s.i] = x at *
      generalize val ts[s.i].text = m at *
      go_enter Tryz.func123, Tryz.ntmps123
      go_wp2_with (fail)
      refine hN.mono ?_
      rintro e w1 ⟨rfl, hL1, hF1⟩
      go_wp2_with (fail)
      refine (hP _).mono ?_
      rintro e w2 ⟨rfl, hb2⟩
      have hF2 : Fr r w1 w2 := Fr.below hb2
      obtain ⟨q0, q1', q2, q3, t0, t1, t2, t3⟩ := (hB0.fr hF1 (by omega)).fr hF2 (by omega)
      go_wp2
      exact bodyPost_ret (v := .agg #[.int .i64 15, .string empty, .int .i64 m, .slice none 0 0]) (by simp [results, Tryz.results123, go_sem, q0, q1', q2, q3, empty]) rfl
        (OAns.fin hr (((Fr.al _ _).trans hF1).trans hF2) (hL1.below hb2) (Nat.le_refl _) (Nat.lt_succ_self _) (Lies.leaf _ _ _ _ _))
  · rw [List.getElem?_eq_none (by omega)]
    have hn : ts.length - s.i = 0 := by omega
    rw [hn] at h0
    have hg := ogiveUp hL0
    go_enter Tryz.func123, Tryz.ntmps123
    go_wp2_with (fail)
    refine hg.mono ?_
    rintro e w2 ⟨rfl, hw2⟩
    obtain rfl := hw2.symm
    go_wp2
    exact ⟨rfl, .inl ⟨rfl, rfl, Fr.al _ _⟩⟩
end
end Go.Proofs.YtchhpinmoagkhaaGreatDoor.syn
namespace Go.Proofs.YtchhpinmoagkhaaGreatDoor.syn
open Go.RowKit
open Go.Proofs.YtchhpinmoagkhaaGreatDoor.lexs (Tok Fine)
set_option linter.unusedVariables false
set_option linter.unusedSimpArgs false
set_option maxRecDepth 100000

section
variable {w w' : World} {r G : Nat} {ts : List Tok} {s : St}
/-- what function F of the program's answers, by a plain function -/
def Gives (r G : Nat) (ts : List Tok) (F : Nat) (g : St → Option (Tree × St)) : Prop :=
  ∀ {w : World} {s : St} {q : Tree × St}, Ld w r G ts s → g s = some q → Calls Tryz.prog F #[.pointer (some ⟨r, 0, none⟩)] w (OAns w r G ts q)
set_option maxHeartbeats 1000000 in
theorem oenclosed {f : Nat} (ih : Gives r G ts 177 (exprF ts f)) : Gives r G ts 176 (askedF ts (f + 1)) := by
  intro w s q hL hq
  have c24 : Tryz.prog.cellsOf 24 = 4 := by kernel_rfl
  have hr := hL.lt
  have hB0 := Box4.new w (.int .i64 0) (.string empty) (.int .i64 0) (.slice none 0 0) 24
  unfold askedF at hq
  obtain ⟨q1, h1, h2⟩ := bind_some_is hq
  simp only [Option.some.injEq] at h2
  subst h2
  have hT := take_must (T := 9) (hL.alloc (.cells #[.int .i64 0, .string empty, .int .i64 0, .slice none 0 0] 24)) ⟨#[40]⟩ (by decide) (M := w.heap.size + 1) (by simp)
  have hst : Hid ((must ts ⟨#[40]⟩ s).bad = true → must ts ⟨#[41]⟩ q1.2 = must ts ⟨#[40]⟩ s) := fun hb => by
    rw [(stuck ts f).e _ _ hb h1]
    exact must_st (by decide) hb
  generalize must ts ⟨#[40]⟩ s = s1 at *
  go_enter Tryz.func176, Tryz.ntmps176
  go_wp2_with (fail)
  refine hT.mono ?_
  rintro e w1 ⟨y, ⟨hb, rfl, hF1⟩ | ⟨hb, rfl, hL1, hF1⟩⟩
  · go_wp2
    exact ⟨rfl, OAns.lost (hst.out hb) hb ((Fr.al _ _).trans hF1)⟩
  go_wp2_with (fail)
  refine (ih hL1 h1).mono ?_
  rintro e w2 (⟨hb2, rfl, hF2⟩ | ⟨hb2, v2, rfl, hl2, hL2, hF2⟩)
  · go_wp2
    exact ⟨rfl, OAns.lost (must_st (by decide) hb2) hb2 (((Fr.al _ _).trans hF1).trans hF2)⟩
  obtain ⟨k, x, m, _, rfl, a, n, c, rfl⟩ := hl2.shape
  go_wp2_with (fail)
  refine (take_must (hL2.alloc _) ⟨#[41]⟩ (by decide) (by simp)).mono ?_
  rintro e w3 ⟨y3, ⟨hb3, rfl, hF3⟩ | ⟨hb3, rfl, hL3, hF3⟩⟩
  · go_wp2
    exact ⟨rfl, OAns.lost rfl hb3 ((((Fr.al _ _).trans hF1).trans hF2).trans ((Fr.al _ _).trans hF3))⟩
  have z1 := hF1.size
  have z2 := hF2.size
  rw [World.size_alloc] at z1
  obtain ⟨q0, q1', q2, q3, t0, t1, t2, t3⟩ := (((hB0.fr hF1 (by omega)).fr hF2 (by omega)).alloc _).fr hF3 (by omega)
  obtain ⟨p0, p1, p2, p3, _, _, _, _⟩ := (Box4.new w2 (.int .i64 k) (.string x) (.int .i64 m) (.slice a n c) 24).fr hF3 (by omega)
  go_wp2
  exact bodyPost_ret (v := .agg #[.int .i64 k, .string x, .int .i64 m, .slice a n c]) (by simp [results, Tryz.results176, go_sem, q0, q1', q2, q3]) rfl
    (OAns.fin hr ((((Fr.al _ _).trans hF1).trans hF2).trans ((Fr.al _ _).trans hF3)) hL3 (Nat.le_refl _) (show w.heap.size < w1.heap.size by omega) (hl2.fr (by omega) ((Fr.al _ _).trans hF3)))
set_option maxHeartbeats 1000000 in
theorem oplace {f : Nat} (ih : Gives r G ts 177 (exprF ts f)) (x : ByteArray) {w : World} {s : St} {q : Tree × St} (hL : Ld w r G ts s) (hq : placeF ts (f + 1) x s = some q) :
    Calls Tryz.prog 178 #[.pointer (some ⟨r, 0, none⟩), .string x] w (OAns w r G ts q) := by
  have c24 : Tryz.prog.cellsOf 24 = 4 := by kernel_rfl
  have hr := hL.lt
  have hB0 := Box4.new w (.int .i64 0) (.string empty) (.int .i64 0) (.slice none 0 0) 24
  have hL0 := hL.alloc (.cells #[.int .i64 0, .string empty, .int .i64 0, .slice none 0 0] 24)
  unfold placeF at hq
  cases he : eqS (txt ts s) ⟨#[91]⟩
  · rw [he] at hq
    simp only [Bool.false_eq_true, if_false, Option.some.injEq] at hq
    subst hq
    have hE := skip_no (T := 9) hL0 ⟨#[91]⟩ (by decide) he (M := w.heap.size + 1) (by simp)
    clear he
    go_enter Tryz.func178, Tryz.ntmps178
    go_wp2_with (fail)
    refine hE.mono ?_
    rintro e w1 ⟨rfl, hL1, hF1⟩
    obtain ⟨q0, q1', q2, q3, t0, t1, t2, t3⟩ := hB0.fr hF1 (by omega)
    go_wp2
    exact bodyPost_ret (v := .agg #[.int .i64 16, .string x, .int .i64 0, .slice none 0 0]) (by simp [results, Tryz.results178, go_sem, q0, q1', q2, q3]) rfl
      (OAns.fin hr ((Fr.al _ _).trans hF1) hL1 (Nat.le_refl _) (Nat.lt_succ_self _) (Lies.leaf _ _ _ _ _))
  · rw [he] at hq
    simp only [if_true] at hq
    obtain ⟨q1, h1, h2⟩ := bind_some_is hq
    simp only [Option.some.injEq] at h2
    subst h2
    have hE := skip_yes (T := 9) hL0 ⟨#[91]⟩ (by decide) he (M := w.heap.size + 1) (by simp)
    clear he
    go_enter Tryz.func178, Tryz.ntmps178
    go_wp2_with (fail)
    refine hE.mono ?_
    rintro e w1 ⟨rfl, hL1, hF1⟩
    go_wp2_with (fail)
    refine (ih hL1 h1).mono ?_
    rintro e w2 (⟨hb2, rfl, hF2⟩ | ⟨hb2, v2, rfl, hl2, hL2, hF2⟩)
    · go_wp2
      exact ⟨rfl, OAns.lost (must_st (by decide) hb2) hb2 (((Fr.al _ _).trans hF1).trans hF2)⟩
    obtain ⟨k, y, m, _, rfl, a, n, c, rfl⟩ := hl2.shape
    have hrow := hl2.rowed (T := 24) (k := 17) (x := x) (m := 0) (c := 1) hF2.size rfl
    go_wp2_with (fail)
    refine (take_must ((hL2.alloc _).alloc _) ⟨#[93]⟩ (by decide) (by simp)).mono ?_
    rintro e w3 ⟨y3, ⟨hb3, rfl, hF3⟩ | ⟨hb3, rfl, hL3, hF3⟩⟩
    · go_wp2
      exact ⟨rfl, OAns.lost rfl hb3 ((((Fr.al _ _).trans hF1).trans hF2).trans (((Fr.al _ _).trans (Fr.al _ _)).trans hF3))⟩
    have z1 := hF1.size
    have z2 := hF2.size
    rw [World.size_alloc] at z1
    obtain ⟨q0, q1', q2, q3, t0, t1, t2, t3⟩ := ((((hB0.fr hF1 (by omega)).fr hF2 (by omega)).alloc _).alloc _).fr hF3 (by omega)
    obtain ⟨p0, p1, p2, p3, _, _, _, _⟩ := (Box4.new (w2.alloc (.cells #[.int .i64 k, .string y, .int .i64 m, .slice a n c] 24)) (.int .i64 17) (.string x) (.int .i64 0) (.slice (some ⟨w2.heap.size, 0, none⟩) 1 1) 24).fr hF3 (by simp <;> omega)
    simp only [World.size_alloc] at p0 p1 p2 p3
    go_wp2
    exact bodyPost_ret (v := .agg #[.int .i64 17, .string x, .int .i64 0, .slice (some ⟨w2.heap.size, 0, none⟩) 1 1]) (by simp [results, Tryz.results178, go_sem, q0, q1', q2, q3]) rfl
      (OAns.fin hr ((((Fr.al _ _).trans hF1).trans hF2).trans (((Fr.al _ _).trans (Fr.al _ _)).trans hF3)) hL3 (Nat.le_refl _) (show w.heap.size < w1.heap.size by omega) (hrow.fr (by omega) ((Fr.al _ _).trans hF3)))
end
end Go.Proofs.YtchhpinmoagkhaaGreatDoor.syn
