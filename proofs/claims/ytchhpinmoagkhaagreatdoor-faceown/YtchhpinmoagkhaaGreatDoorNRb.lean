/- What the reference's asked, place, unary and expr answer, once those that they call do: contracts. What the reference's unary answers, once those that it calls do: a contract. What the reference's bound answers, once those that it calls do: a contract. An append to a row of one's own: the new row is the old one, or lies in new memory. -/
import Derived.Test.YtchhpinmoagkhaaGreatDoorProg
import Derived.WalkKit
import Derived.WalkLawsBesides
import Derived.Outline
import Derived.WalkSmall
import Derived.BigQuiet
import Derived.Deep.QuietTactic
import Derived.Test.YtchhpinmoagkhaaGreatDoorNSa
import Derived.Test.YtchhpinmoagkhaaGreatDoorNRa
import Derived.Deep.LoopGhost
import Derived.Laws.AppendOwn
import Derived.Laws.OwnMore
namespace Go.Proofs.YtchhpinmoagkhaaGreatDoor.syn
open Go.RowKit
open Go.Proofs.YtchhpinmoagkhaaGreatDoor.lexs (Tok tok_cells own_shape)
set_option linter.unusedVariables false

/-- what a call of the reader's answers: a node, in new memory, and where the reader is -/
def Ans (w : World) (r : Nat) (L : Value) (ts : List Tok) (q : Tree × St) (e : Ending) (w' : World) : Prop :=
  ∃ v, e = .returned v ∧ Lies (fun b => w.heap.size ≤ b ∧ b < w'.heap.size) w' q.1 v ∧ Rd w' r L ts q.2 ∧ Fr r w w'
section
variable {w : World} {r : Nat} {L : Value} {ts : List Tok} {s : St}
theorem Rd.lt (h : Rd w r L ts s) : r < w.heap.size := World.block_lt_of_cell? w ⟨r, 0, none⟩ h.c0
/-- a node's value is four cells -/
theorem Lies.shape {P : Nat → Prop} {t : Tree} {v : Value} (h : Lies P w t v) : ∃ k x m sl, v = .agg #[.int .i64 k, .string x, .int .i64 m, sl] ∧ ∃ a n c, sl = .slice a n c := by
  cases t with
  | node k x m ks =>
    unfold Lies at h
    obtain ⟨a, c, rfl, _⟩ := h
    exact ⟨k, x, m, _, rfl, a, ks.length, c, rfl⟩
/-- behind a call of the reader's -/
theorem Lies.fr {B : Nat} {w1 w2 : World} {t : Tree} {v : Value} (h : Lies (fun b => B ≤ b ∧ b < w1.heap.size) w1 t v) (hr : r < B) (hF : Fr r w1 w2) : Lies (fun b => B ≤ b ∧ b < w2.heap.size) w2 t v :=
  h.to (fun b hb => ⟨hb.1, Nat.lt_of_lt_of_le hb.2 hF.size⟩) (fun b hb o => World.cell?_of_block (a := ⟨b, o, none⟩) (hF.block b hb.2 (by simp; omega)))
theorem Lies.low {B B' : Nat} {t : Tree} {v : Value} (h : Lies (fun b => B ≤ b ∧ b < w.heap.size) w t v) (hB : B' ≤ B) : Lies (fun b => B' ≤ b ∧ b < w.heap.size) w t v :=
  h.to (fun b hb => ⟨Nat.le_trans hB hb.1, hb.2⟩) (fun _ _ _ => rfl)
theorem Fr.put (w : World) (N : Nat) (x0 x1 x2 x3 : Value) : Fr N w ((((w.setCell ⟨N, 0, none⟩ x0).setCell ⟨N, 1, none⟩ x1).setCell ⟨N, 2, none⟩ x2).setCell ⟨N, 3, none⟩ x3) :=
  ((((Fr.refl _ _).set _ _).set _ _).set _ _).set _ _
/-- the end: the node is put into the box that was laid first -/
theorem Ans.fin {w3 : World} {s3 : St} {t : Tree} {x0 x1 x2 x3 : Value} {B : Nat} (hR : Rd w r L ts s) (hF : Fr r w w3) (hR3 : Rd w3 r L ts s3) (hB : w.heap.size < B) (hL : Lies (fun b => B ≤ b ∧ b < w3.heap.size) w3 t (.agg #[x0, x1, x2, x3])) :
    Ans w r L ts (t, s3) (.returned (.agg #[x0, x1, x2, x3])) ((((w3.setCell ⟨w.heap.size, 0, none⟩ x0).setCell ⟨w.heap.size, 1, none⟩ x1).setCell ⟨w.heap.size, 2, none⟩ x2).setCell ⟨w.heap.size, 3, none⟩ x3) :=
  ⟨_, rfl, (hL.fr hB (Fr.put _ _ _ _ _ _)).low (by omega), hR3.put4 (hR.old (Nat.le_refl _)).1 (hR.old (Nat.le_refl _)).2 _ _ _ _, hF.put4 (Nat.le_refl _) _ _ _ _⟩
theorem Fr.al (w : World) (o : Obj) : Fr r w (w.alloc o) := (Fr.refl _ _).alloc o
theorem rasked {f : Nat} (ih : ∀ {w : World} {s : St} {q : Tree × St}, Rd w r L ts s → exprF ts f s = some q → Calls Tryz.prog 126 #[.pointer (some ⟨r, 0, none⟩)] w (Ans w r L ts q))
    (hR : Rd w r L ts s) {q : Tree × St} (hq : askedF ts (f + 1) s = some q) : Calls Tryz.prog 124 #[.pointer (some ⟨r, 0, none⟩)] w (Ans w r L ts q) := by
  have c24 : Tryz.prog.cellsOf 24 = 4 := by kernel_rfl
  have hr := hR.lt
  unfold askedF at hq
  cases h1 : exprF ts f (must ts ⟨#[40]⟩ s) with
  | none => rw [h1] at hq; simp at hq
  | some q1 =>
    rw [h1] at hq
    simp only [Option.bind_some, Option.some.injEq] at hq
    subst hq
    have hB0 := Box4.new w (.int .i64 0) (.string empty) (.int .i64 0) (.slice none 0 0) 24
    go_enter Tryz.func124, Tryz.ntmps124
    go_wp2_with (fail)
    refine (rmust (hR.alloc _) ⟨#[40]⟩ (by decide)).mono ?_
    rintro e w1 ⟨rfl, hR1, hF1⟩
    go_wp2_with (fail)
    refine (ih hR1 h1).mono ?_
    rintro e w2 ⟨v2, rfl, hL2, hR2, hF2⟩
    obtain ⟨k, x, m, _, rfl, a, n, c, rfl⟩ := hL2.shape
    go_wp2_with (fail)
    refine (rmust (hR2.alloc _) ⟨#[41]⟩ (by decide)).mono ?_
    rintro e w3 ⟨rfl, hR3, hF3⟩
    have z1 := hF1.size
    have z2 := hF2.size
    rw [World.size_alloc] at z1
    obtain ⟨q0, q1', q2, q3, t0, t1, t2, t3⟩ := (((hB0.fr hF1 (by omega)).fr hF2 (by omega)).alloc _).fr hF3 (by omega)
    obtain ⟨p0, p1, p2, p3, _, _, _, _⟩ := (Box4.new w2 (.int .i64 k) (.string x) (.int .i64 m) (.slice a n c) 24).fr hF3 (by omega)
    go_wp2
    exact bodyPost_ret (v := .agg #[.int .i64 k, .string x, .int .i64 m, .slice a n c]) (by simp [results, Tryz.results124, go_sem, q0, q1', q2, q3]) rfl
      (Ans.fin hR ((((Fr.al _ _).trans hF1).trans hF2).trans ((Fr.al _ _).trans hF3)) hR3 (by omega) (hL2.fr (by omega) ((Fr.al _ _).trans hF3)))
theorem cell4_new (w : World) {y0 y1 y2 y3 : Value} {T : TypeId} {M : Nat} (hM : M = w.heap.size) : cell4 (w.alloc (.cells #[y0, y1, y2, y3] T)) M 0 (.agg #[y0, y1, y2, y3]) := by
  subst hM
  exact ⟨y0, y1, y2, y3, rfl, by simp, by simp, by simp, by simp⟩
theorem Lies.one {P : Nat → Prop} {M : Nat} {t : Tree} {v : Value} {k m : Int} {x : ByteArray} {c : Nat} (hP : P M) (h4 : cell4 w M 0 v) (hL : Lies P w t v) : Lies P w (.node k x m [t]) (.agg #[.int .i64 k, .string x, .int .i64 m, .slice (some ⟨M, 0, none⟩) 1 c]) := by
  unfold Lies
  refine ⟨some ⟨M, 0, none⟩, c, rfl, by simp, fun _ => ⟨M, 0, rfl, hP, ?_⟩⟩
  unfold LiesAt
  exact ⟨⟨v, h4, hL⟩, by unfold LiesAt; trivial⟩
/-- the end: a node over one more, in a row that is laid last -/
theorem Ans.row {W : World} {s3 : St} {t : Tree} {y0 y1 y2 y3 : Value} {T : TypeId} {M : Nat} {k m : Int} {x : ByteArray} (hF : Fr r w W) (hR3 : Rd W r L ts s3) (hL : Lies (fun b => w.heap.size ≤ b ∧ b < W.heap.size) W t (.agg #[y0, y1, y2, y3])) (hM : M = W.heap.size) :
    Ans w r L ts (.node k x m [t], s3) (.returned (.agg #[.int .i64 k, .string x, .int .i64 m, .slice (some ⟨M, 0, none⟩) 1 1])) (W.alloc (.cells #[y0, y1, y2, y3] T)) := by
  have hz := hF.size
  refine ⟨_, rfl, ?_, hR3.alloc _, hF.alloc _⟩
  refine Lies.one ⟨by omega, by rw [World.size_alloc]; omega⟩ (cell4_new _ hM) ?_
  exact hL.to (fun b hb => ⟨hb.1, by rw [World.size_alloc]; omega⟩) (fun b hb o => ((Below.refl W.heap.size W).alloc (Nat.le_refl _) _).cell (p := ⟨b, o, none⟩) hb.2)
theorem rplace {f : Nat} (ih : ∀ {w : World} {s : St} {q : Tree × St}, Rd w r L ts s → exprF ts f s = some q → Calls Tryz.prog 126 #[.pointer (some ⟨r, 0, none⟩)] w (Ans w r L ts q))
    (hR : Rd w r L ts s) (x : ByteArray) {q : Tree × St} (hq : placeF ts (f + 1) x s = some q) : Calls Tryz.prog 129 #[.pointer (some ⟨r, 0, none⟩), .string x] w (Ans w r L ts q) := by
  have c24 : Tryz.prog.cellsOf 24 = 4 := by kernel_rfl
  have hr := hR.lt
  have hB0 := Box4.new w (.int .i64 0) (.string empty) (.int .i64 0) (.slice none 0 0) 24
  have hE := reat _ r L ts s (hR.alloc (.cells #[.int .i64 0, .string empty, .int .i64 0, .slice none 0 0] 24)) ⟨#[91]⟩ (by decide)
  unfold eat at hE
  unfold placeF at hq
  cases he : eqS (txt ts s) ⟨#[91]⟩
  · rw [he] at hE hq
    simp only [Bool.false_eq_true, if_false, Option.some.injEq] at hE hq
    subst hq
    clear he
    go_enter Tryz.func129, Tryz.ntmps129
    go_wp2_with (fail)
    refine hE.mono ?_
    rintro e w1 ⟨rfl, hR1, hF1⟩
    obtain ⟨q0, q1', q2, q3, t0, t1, t2, t3⟩ := hB0.fr hF1 (by omega)
    go_wp2
    exact bodyPost_ret (v := .agg #[.int .i64 16, .string x, .int .i64 0, .slice none 0 0]) (by simp [results, Tryz.results129, go_sem, q0, q1', q2, q3]) rfl
      (Ans.fin hR ((Fr.al _ _).trans hF1) hR1 (Nat.lt_succ_self _) (Lies.leaf _ _ _ _ _))
  · rw [he] at hE hq
    simp only [if_true] at hE hq
    clear he
    cases h1 : exprF ts f s.next with
    | none => rw [h1] at hq; simp at hq
    | some q1 =>
      rw [h1] at hq
      simp only [Option.bind_some, Option.some.injEq] at hq
      subst hq
      go_enter Tryz.func129, Tryz.ntmps129
      go_wp2_with (fail)
      refine hE.mono ?_
      rintro e w1 ⟨rfl, hR1, hF1⟩
      go_wp2_with (fail)
      refine (ih hR1 h1).mono ?_
      rintro e w2 ⟨v2, rfl, hL2, hR2, hF2⟩
      obtain ⟨k, y, m, _, rfl, a, n, c, rfl⟩ := hL2.shape
      go_wp2_with (fail)
      refine (rmust (hR2.alloc _) ⟨#[93]⟩ (by decide)).mono ?_
      rintro e w3 ⟨rfl, hR3, hF3⟩
      have z1 := hF1.size
      have z2 := hF2.size
      have z3 := hF3.size
      rw [World.size_alloc] at z1 z3
      obtain ⟨q0, q1', q2, q3, t0, t1, t2, t3⟩ := (((hB0.fr hF1 (by omega)).fr hF2 (by omega)).alloc _).fr hF3 (by omega)
      obtain ⟨p0, p1, p2, p3, _, _, _, _⟩ := (Box4.new w2 (.int .i64 k) (.string y) (.int .i64 m) (.slice a n c) 24).fr hF3 (by omega)
      have hz : w.heap.size < w3.heap.size := by omega
      go_wp2
      refine bodyPost_ret (v := .agg #[.int .i64 17, .string x, .int .i64 0, .slice (some ⟨w3.heap.size, 0, none⟩) 1 1]) (by simp [results, Tryz.results129, go_sem, q0, q1', q2, q3, hz]) rfl ?_
      exact Ans.row (((((Fr.al _ _).trans hF1).trans hF2).trans ((Fr.al _ _).trans hF3)).put4 (Nat.le_refl _) _ _ _ _) (hR3.put4 (hR.old (Nat.le_refl _)).1 (hR.old (Nat.le_refl _)).2 _ _ _ _)
        (((hL2.fr (by omega) ((Fr.al _ _).trans hF3)).fr (show w.heap.size < w1.heap.size by omega) (Fr.put _ _ _ _ _ _)).low (by omega)) (by simp)
theorem rexpr {f : Nat} (ih : ∀ {w : World} {s : St} {q : Tree × St}, Rd w r L ts s → boundF ts f 0 s = some q → Calls Tryz.prog 147 #[.pointer (some ⟨r, 0, none⟩), .int .i64 0] w (Ans w r L ts q))
    (hR : Rd w r L ts s) {q : Tree × St} (hq : exprF ts (f + 1) s = some q) : Calls Tryz.prog 126 #[.pointer (some ⟨r, 0, none⟩)] w (Ans w r L ts q) := by
  have c24 : Tryz.prog.cellsOf 24 = 4 := by kernel_rfl
  have hr := hR.lt
  have hB0 := Box4.new w (.int .i64 0) (.string empty) (.int .i64 0) (.slice none 0 0) 24
  have c2 := hR.c2
  unfold exprF at hq
  cases hb : s.bad
  · rw [hb] at hq c2
    simp only [Bool.false_eq_true, if_false] at hq
    go_enter Tryz.func126, Tryz.ntmps126
    go_wp2_with (fail)
    refine (ih (hR.alloc _) hq).mono ?_
    rintro e w2 ⟨v2, rfl, hL2, hR2, hF2⟩
    obtain ⟨k, y, m, _, rfl, a, n, c, rfl⟩ := hL2.shape
    have z2 := hF2.size
    rw [World.size_alloc] at z2
    obtain ⟨q0, q1', q2, q3, t0, t1, t2, t3⟩ := hB0.fr hF2 (by omega)
    go_wp2
    exact bodyPost_ret (v := .agg #[.int .i64 k, .string y, .int .i64 m, .slice a n c]) (by simp [results, Tryz.results126, go_sem, q0, q1', q2, q3]) rfl
      (Ans.fin hR ((Fr.al _ _).trans hF2) hR2 (by rw [World.size_alloc]; omega) hL2)
  · rw [hb] at hq c2
    simp only [if_true, Option.some.injEq] at hq
    subst hq
    go_enter Tryz.func126, Tryz.ntmps126
    go_wp2
    exact bodyPost_ret (v := .agg #[.int .i64 0, .string empty, .int .i64 0, .slice none 0 0]) (by simp [results, Tryz.results126, go_sem, empty]) rfl
      ⟨_, rfl, Lies.leaf _ _ _ _ _, hR.alloc _, Fr.al _ _⟩
end
end Go.Proofs.YtchhpinmoagkhaaGreatDoor.syn
namespace Go.Proofs.YtchhpinmoagkhaaGreatDoor.syn
open Go.RowKit
open Go.Proofs.YtchhpinmoagkhaaGreatDoor.lexs (Tok tok_cells own_shape)
set_option linter.unusedVariables false

section
variable {r : Nat} {L : Value} {ts : List Tok} {s : St}
theorem eqS_lit (y : ByteArray) (l : List UInt8) : eqS y ⟨l.toArray⟩ = (y.toList == l) := by unfold eqS; rw [ByteArray.toList_eq ⟨l.toArray⟩]
theorem number_shape (ts : List Tok) (s : St) : (number ts s).1 = .node 15 empty (numN (number ts s).1) [] := by
  unfold number
  split
  · rfl
  · split <;> rfl
theorem isNum_yes {ts : List Tok} {s : St} (h : isNum ts s = true) : s.bad = false ∧ ∃ hlt : s.i < ts.length, (ts[s.i].kind == 2) = true := by
  unfold isNum here at h
  cases hb : s.bad
  · rw [hb] at h
    rcases Nat.lt_or_ge s.i ts.length with hl | hl
    · refine ⟨rfl, hl, ?_⟩
      simpa [hl] using h
    · rw [List.getElem?_eq_none hl] at h
      simp at h
  · rw [hb] at h
    simp at h
theorem isNum_no {ts : List Tok} {s : St} (h : isNum ts s = false) (hb : s.bad = false) (hl : s.i < ts.length) : (ts[s.i].kind == 2) = false := by
  unfold isNum here at h
  rw [hb] at h
  simpa [hl] using h
/-- eat, where it is there, and where it is not -/
theorem reat_yes {w : World} (hR : Rd w r L ts s) (x : ByteArray) (hx : 0 < x.size) (he : eqS (txt ts s) x = true) :
    Calls Tryz.prog 25 #[.pointer (some ⟨r, 0, none⟩), .string x] w fun e w' => e = .returned (.bool true) ∧ Rd w' r L ts s.next ∧ Fr r w w' := by
  have h := reat _ r L ts s hR x hx
  unfold eat at h
  rw [he] at h
  simpa using h
theorem reat_no {w : World} (hR : Rd w r L ts s) (x : ByteArray) (hx : 0 < x.size) (he : eqS (txt ts s) x = false) :
    Calls Tryz.prog 25 #[.pointer (some ⟨r, 0, none⟩), .string x] w fun e w' => e = .returned (.bool false) ∧ Rd w' r L ts s ∧ Fr r w w' := by
  have h := reat _ r L ts s hR x hx
  unfold eat at h
  rw [he] at h
  simpa using h
set_option maxRecDepth 100000 in
set_option maxHeartbeats 1000000 in
theorem runary {f : Nat}
    (ihU : ∀ {w : World} {s : St} {q : Tree × St}, Rd w r L ts s → unaryF ts f s = some q → Calls Tryz.prog 163 #[.pointer (some ⟨r, 0, none⟩)] w (Ans w r L ts q))
    (ihA : ∀ {w : World} {s : St} {q : Tree × St}, Rd w r L ts s → askedF ts f s = some q → Calls Tryz.prog 124 #[.pointer (some ⟨r, 0, none⟩)] w (Ans w r L ts q))
    (ihP : ∀ {w : World} {s : St} {q : Tree × St} (x : ByteArray), Rd w r L ts s → placeF ts f x s = some q → Calls Tryz.prog 129 #[.pointer (some ⟨r, 0, none⟩), .string x] w (Ans w r L ts q))
    (ihC : ∀ {w : World} {s : St} {q : Tree × St} (x : ByteArray), Rd w r L ts s → callF ts f x s = some q → Calls Tryz.prog 128 #[.pointer (some ⟨r, 0, none⟩), .string x] w (Ans w r L ts q))
    {w : World} (hR : Rd w r L ts s) {q : Tree × St} (hq : unaryF ts (f + 1) s = some q) : Calls Tryz.prog 163 #[.pointer (some ⟨r, 0, none⟩)] w (Ans w r L ts q) := by
  have c24 : Tryz.prog.cellsOf 24 = 4 := by kernel_rfl
  have c29 : Tryz.prog.cellsOf 58 = 3 := by kernel_rfl
  have hr := hR.lt
  have hB0 := Box4.new w (.int .i64 0) (.string empty) (.int .i64 0) (.slice none 0 0) 24
  unfold unaryF at hq
  cases hm : eqS (txt ts s) ⟨#[45]⟩
  case true =>
    rw [hm] at hq
    simp only [if_true] at hq
    cases h1 : unaryF ts f s.next with
    | none => rw [h1] at hq; simp at hq
    | some q1 =>
      rw [h1] at hq
      simp only [Option.bind_some, Option.some.injEq] at hq
      subst hq
      go_enter Tryz.func163, Tryz.ntmps163
      go_wp2_with (fail)
      refine (reat_yes (hR.alloc _) ⟨#[45]⟩ (by decide) hm).mono ?_
      rintro e wa ⟨rfl, hRa, hFa⟩
      have hFa' := (Fr.al w _).trans hFa
      have hB1 := hB0.fr hFa (by omega)
      have hza := hB1.lt
      go_wp2_with (fail)
      refine (ihU hRa h1).mono ?_
      rintro e w2 ⟨v2, rfl, hL2, hR2, hF2⟩
      obtain ⟨k, y, m, _, rfl, a, n, c, rfl⟩ := hL2.shape
      have z1 := hFa.size
      have z2 := hF2.size
      obtain ⟨q0, q1', q2, q3, t0, t1, t2, t3⟩ := hB1.fr hF2 (by omega)
      have hz : w.heap.size < w2.heap.size := by omega
      go_wp2
      refine bodyPost_ret (v := .agg #[.int .i64 20, .string empty, .int .i64 0, .slice (some ⟨w2.heap.size + 1, 0, none⟩) 1 1]) (by simp [results, Tryz.results163, go_sem, q0, q1', q2, q3, hz, empty]) rfl ?_
      exact Ans.row (((hFa'.trans hF2).put4 (Nat.le_refl _) _ _ _ _).alloc _) ((hR2.put4 (hR.old (Nat.le_refl _)).1 (hR.old (Nat.le_refl _)).2 _ _ _ _).alloc _)
        (((hL2.fr (show w.heap.size < wa.heap.size by omega) (Fr.put _ _ _ _ _ _)).fr (r := r) (by omega) (Fr.al _ _)).low (by omega)) (by simp)
  case false =>
    rw [hm] at hq
    simp only [Bool.false_eq_true, if_false] at hq
    cases hn : eqS (txt ts s) ⟨#[33]⟩
    case true =>
      rw [hn] at hq
      simp only [if_true] at hq
      cases h1 : unaryF ts f s.next with
      | none => rw [h1] at hq; simp at hq
      | some q1 =>
        rw [h1] at hq
        simp only [Option.bind_some, Option.some.injEq] at hq
        subst hq
        go_enter Tryz.func163, Tryz.ntmps163
        go_wp2_with (fail)
        refine (reat_no (hR.alloc _) ⟨#[45]⟩ (by decide) hm).mono ?_
        rintro e w0 ⟨rfl, hR0, hF0⟩
        go_wp2_with (fail)
        refine (reat_yes hR0 ⟨#[33]⟩ (by decide) hn).mono ?_
        rintro e wa ⟨rfl, hRa, hFa⟩
        have hFa' := ((Fr.al w _).trans hF0).trans hFa
        have hB1 := (hB0.fr hF0 (by omega)).fr hFa (by omega)
        have hza := hB1.lt
        go_wp2_with (fail)
        refine (ihU hRa h1).mono ?_
        rintro e w2 ⟨v2, rfl, hL2, hR2, hF2⟩
        obtain ⟨k, y, m, _, rfl, a, n, c, rfl⟩ := hL2.shape
        have z1 := hFa.size
        have z2 := hF2.size
        obtain ⟨q0, q1', q2, q3, t0, t1, t2, t3⟩ := hB1.fr hF2 (by omega)
        have hz : w.heap.size < w2.heap.size := by omega
        go_wp2
        refine bodyPost_ret (v := .agg #[.int .i64 21, .string empty, .int .i64 0, .slice (some ⟨w2.heap.size + 1, 0, none⟩) 1 1]) (by simp [results, Tryz.results163, go_sem, q0, q1', q2, q3, hz, empty]) rfl ?_
        exact Ans.row (((hFa'.trans hF2).put4 (Nat.le_refl _) _ _ _ _).alloc _) ((hR2.put4 (hR.old (Nat.le_refl _)).1 (hR.old (Nat.le_refl _)).2 _ _ _ _).alloc _)
          (((hL2.fr (show w.heap.size < wa.heap.size by omega) (Fr.put _ _ _ _ _ _)).fr (r := r) (by omega) (Fr.al _ _)).low (by omega)) (by simp)
    case false =>
      rw [hn] at hq
      simp only [Bool.false_eq_true, if_false] at hq
      have hT : ∀ {w : World}, Rd w r L ts s → Calls Tryz.prog 56 #[.pointer (some ⟨r, 0, none⟩)] w fun e w' => e = .returned (.string (txt ts s)) ∧ ∃ n, w' = w.drewN n := fun h => rtext _ r L ts s h
      cases hp : eqS (txt ts s) ⟨#[40]⟩
      case true =>
        rw [hp] at hq
        simp only [if_true] at hq
        have hp : (txt ts s).toList == [40] := (eqS_lit _ _).symm.trans hp
        go_enter Tryz.func163, Tryz.ntmps163
        go_wp2_with (fail)
        refine (reat_no (hR.alloc _) ⟨#[45]⟩ (by decide) hm).mono ?_
        rintro e w0 ⟨rfl, hR0, hF0⟩
        go_wp2_with (fail)
        refine (reat_no hR0 ⟨#[33]⟩ (by decide) hn).mono ?_
        rintro e wa ⟨rfl, hRa, hFa⟩
        have hFa' := ((Fr.al w _).trans hF0).trans hFa
        have hB1 := (hB0.fr hF0 (by omega)).fr hFa (by omega)
        have hza := hB1.lt
        clear hm hn
        generalize txt ts s = y at hT hp
        go_wp2_with (first
          | (go_at_call 56; refine (hT hRa).mono ?_; rintro e w2 ⟨rfl, n, rfl⟩)
          | (go_at_call 124; refine (ihA (hRa.drewN n) hq).mono ?_; rintro e w3 ⟨v3, rfl, hL3, hR3, hF3⟩; obtain ⟨k, y, m, _, rfl, a, nn, c, rfl⟩ := hL3.shape; obtain ⟨q0, q1', q2, q3, t0, t1, t2, t3⟩ := (hB1.drewN n).fr hF3 (by omega)))
        exact bodyPost_ret (v := .agg #[.int .i64 k, .string y, .int .i64 m, .slice a nn c]) (by simp [results, Tryz.results163, go_sem, q0, q1', q2, q3]) rfl
          (Ans.fin hR ((hFa'.drewN n).trans hF3) hR3 hza hL3)
      case false =>
        rw [hp] at hq
        simp only [Bool.false_eq_true, if_false] at hq
        have hp : ((txt ts s).toList == [40]) = false := (eqS_lit _ _).symm.trans hp
        cases hk : isNum ts s
        case true =>
          rw [hk] at hq
          simp only [if_true, Option.some.injEq] at hq
          subst hq
          have hN : ∀ {w : World}, Rd w r L ts s → Calls Tryz.prog 59 #[.pointer (some ⟨r, 0, none⟩)] w fun e w' => e = .returned (numV (numN (number ts s).1)) ∧ Rd w' r L ts (number ts s).2 ∧ Fr r w w' := fun h => rnumber h
          have hsh := number_shape ts s
          unfold numV at hN
          generalize number ts s = nm at hN hsh ⊢
          obtain ⟨nt, ns⟩ := nm
          dsimp only at hN hsh ⊢
          generalize numN nt = nn at hN hsh
          subst hsh
          obtain ⟨hbad, hlt, hkd⟩ := isNum_yes hk
          go_enter Tryz.func163, Tryz.ntmps163
          go_wp2_with (fail)
          refine (reat_no (hR.alloc _) ⟨#[45]⟩ (by decide) hm).mono ?_
          rintro e w0 ⟨rfl, hR0, hF0⟩
          go_wp2_with (fail)
          refine (reat_no hR0 ⟨#[33]⟩ (by decide) hn).mono ?_
          rintro e wa ⟨rfl, hRa, hFa⟩
          have hFa' := ((Fr.al w _).trans hF0).trans hFa
          have hB1 := (hB0.fr hF0 (by omega)).fr hFa (by omega)
          have hza := hB1.lt
          clear hm hn hk
          generalize txt ts s = y at hT hp
          go_wp2_with (fail)
          refine (hT hRa).mono ?_
          rintro e w2 ⟨rfl, n, rfl⟩
          have c0 := hRa.c0
          have c1 := hRa.c1
          have c2 := hRa.c2
          have hlen := hRa.len
          have hle := hRa.le
          obtain ⟨a, cp, rfl, hmx, hg⟩ := own_shape hRa.own
          obtain ⟨g, rfl⟩ := hg (by omega)
          obtain ⟨y0, y1, y2⟩ := tok_cells hRa.own hlt
          rw [hbad] at c2
          generalize ts[s.i].kind = tk at *
          generalize s.i = i at *
          have hd : decide ((i : Int) < (ts.length : Int)) = true := by simp; omega
          go_wp2
          go_quiet (fail)
          go_wp2_with (go_at_call 59; refine (hN (hRa.drewN _)).mono ?_; rintro e w3 ⟨rfl, hR3, hF3⟩; obtain ⟨q0, q1', q2, q3, t0, t1, t2, t3⟩ := (hB1.drewN _).fr hF3 (by omega))
          exact bodyPost_ret (v := .agg #[.int .i64 15, .string empty, .int .i64 nn, .slice none 0 0]) (by simp [results, Tryz.results163, go_sem, q0, q1', q2, q3]) rfl
            (Ans.fin hR ((hFa'.drewN _).trans hF3) hR3 (Nat.lt_succ_self _) (Lies.leaf _ _ _ _ _))
        case false =>
          rw [hk] at hq
          simp only [Bool.false_eq_true, if_false] at hq
          have hW : ∀ {w : World}, Rd w r L ts s → Calls Tryz.prog 127 #[.pointer (some ⟨r, 0, none⟩)] w fun e w' => e = .returned (.string (whole ts s).1) ∧ Rd w' r L ts (whole ts s).2 ∧ Fr r w w' := fun h => rwhole h
          generalize whole ts s = wh at hW hq
          obtain ⟨wx, ws⟩ := wh
          dsimp only at hW hq
          have hT2 : ∀ {w : World}, Rd w r L ts ws → Calls Tryz.prog 56 #[.pointer (some ⟨r, 0, none⟩)] w fun e w' => e = .returned (.string (txt ts ws)) ∧ ∃ n, w' = w.drewN n := fun h => rtext _ r L ts ws h
          cases hp2 : eqS (txt ts ws) ⟨#[40]⟩
          case true =>
            rw [hp2] at hq
            simp only [if_true] at hq
            have hp2 : ((txt ts ws).toList == [40]) = true := (eqS_lit _ _).symm.trans hp2
            generalize txt ts ws = y2 at hT2 hp2
            go_enter Tryz.func163, Tryz.ntmps163
            go_wp2_with (fail)
            refine (reat_no (hR.alloc _) ⟨#[45]⟩ (by decide) hm).mono ?_
            rintro e w0 ⟨rfl, hR0, hF0⟩
            go_wp2_with (fail)
            refine (reat_no hR0 ⟨#[33]⟩ (by decide) hn).mono ?_
            rintro e wa ⟨rfl, hRa, hFa⟩
            have hFa' := ((Fr.al w _).trans hF0).trans hFa
            have hB1 := (hB0.fr hF0 (by omega)).fr hFa (by omega)
            have hza := hB1.lt
            clear hm hn
            generalize txt ts s = y at hT hp
            go_wp2_with (fail)
            refine (hT hRa).mono ?_
            rintro e w2 ⟨rfl, n, rfl⟩
            have c0 := hRa.c0
            have c1 := hRa.c1
            have c2 := hRa.c2
            have hlen := hRa.len
            have hle := hRa.le
            obtain ⟨a, cp, rfl, hmx, hg⟩ := own_shape hRa.own
            cases hbad : s.bad
            · rw [hbad] at c2
              by_cases hlt : s.i < ts.length
              · have hkd := isNum_no hk hbad hlt
                clear hk
                obtain ⟨g, rfl⟩ := hg (by omega)
                obtain ⟨y0, y1, y2'⟩ := tok_cells hRa.own hlt
                generalize ts[s.i].kind = tk at *
                have hd : decide ((s.i : Int) < (ts.length : Int)) = true := by simp; omega
                go_wp2
                go_quiet (fail)
                go_wp2_with (fail)
                refine (hW (hRa.drewN _)).mono ?_
                rintro e w3 ⟨rfl, hR3, hF3⟩
                have hB3 := (hB1.drewN _).fr hF3 (by omega)
                go_wp2_with (fail)
                refine (hT2 hR3).mono ?_
                rintro e w4 ⟨rfl, n4, rfl⟩
                go_wp2_with (fail)
                refine (ihC _ (hR3.drewN n4) hq).mono ?_
                rintro e w5 ⟨v5, rfl, hL5, hR5, hF5⟩
                obtain ⟨k, yy, m, _, rfl, a5, n5, c5, rfl⟩ := hL5.shape
                obtain ⟨q0, q1', q2, q3, t0, t1, t2, t3⟩ := (hB3.drewN n4).fr hF5 (by omega)
                go_wp2
                exact bodyPost_ret (v := .agg #[.int .i64 k, .string yy, .int .i64 m, .slice a5 n5 c5]) (by simp [results, Tryz.results163, go_sem, q0, q1', q2, q3]) rfl
                  (Ans.fin hR (((hFa'.drewN _).trans (hF3.drewN n4)).trans hF5) hR5 hB3.lt hL5)
              · have hd : decide ((s.i : Int) < (ts.length : Int)) = false := by simp; omega
                go_wp2
                go_quiet (fail)
                go_wp2_with (fail)
                refine (hW (hRa.drewN _)).mono ?_
                rintro e w3 ⟨rfl, hR3, hF3⟩
                have hB3 := (hB1.drewN _).fr hF3 (by omega)
                go_wp2_with (fail)
                refine (hT2 hR3).mono ?_
                rintro e w4 ⟨rfl, n4, rfl⟩
                go_wp2_with (fail)
                refine (ihC _ (hR3.drewN n4) hq).mono ?_
                rintro e w5 ⟨v5, rfl, hL5, hR5, hF5⟩
                obtain ⟨k, yy, m, _, rfl, a5, n5, c5, rfl⟩ := hL5.shape
                obtain ⟨q0, q1', q2, q3, t0, t1, t2, t3⟩ := (hB3.drewN n4).fr hF5 (by omega)
                go_wp2
                exact bodyPost_ret (v := .agg #[.int .i64 k, .string yy, .int .i64 m, .slice a5 n5 c5]) (by simp [results, Tryz.results163, go_sem, q0, q1', q2, q3]) rfl
                  (Ans.fin hR (((hFa'.drewN _).trans (hF3.drewN n4)).trans hF5) hR5 hB3.lt hL5)
            · rw [hbad] at c2
              go_wp2
              go_quiet (fail)
              go_wp2_with (fail)
              refine (hW (hRa.drewN _)).mono ?_
              rintro e w3 ⟨rfl, hR3, hF3⟩
              have hB3 := (hB1.drewN _).fr hF3 (by omega)
              go_wp2_with (fail)
              refine (hT2 hR3).mono ?_
              rintro e w4 ⟨rfl, n4, rfl⟩
              go_wp2_with (fail)
              refine (ihC _ (hR3.drewN n4) hq).mono ?_
              rintro e w5 ⟨v5, rfl, hL5, hR5, hF5⟩
              obtain ⟨k, yy, m, _, rfl, a5, n5, c5, rfl⟩ := hL5.shape
              obtain ⟨q0, q1', q2, q3, t0, t1, t2, t3⟩ := (hB3.drewN n4).fr hF5 (by omega)
              go_wp2
              exact bodyPost_ret (v := .agg #[.int .i64 k, .string yy, .int .i64 m, .slice a5 n5 c5]) (by simp [results, Tryz.results163, go_sem, q0, q1', q2, q3]) rfl
                (Ans.fin hR (((hFa'.drewN _).trans (hF3.drewN n4)).trans hF5) hR5 hB3.lt hL5)
          case false =>
            rw [hp2] at hq
            simp only [Bool.false_eq_true, if_false] at hq
            have hp2 : ((txt ts ws).toList == [40]) = false := (eqS_lit _ _).symm.trans hp2
            generalize txt ts ws = y2 at hT2 hp2
            go_enter Tryz.func163, Tryz.ntmps163
            go_wp2_with (fail)
            refine (reat_no (hR.alloc _) ⟨#[45]⟩ (by decide) hm).mono ?_
            rintro e w0 ⟨rfl, hR0, hF0⟩
            go_wp2_with (fail)
            refine (reat_no hR0 ⟨#[33]⟩ (by decide) hn).mono ?_
            rintro e wa ⟨rfl, hRa, hFa⟩
            have hFa' := ((Fr.al w _).trans hF0).trans hFa
            have hB1 := (hB0.fr hF0 (by omega)).fr hFa (by omega)
            have hza := hB1.lt
            clear hm hn
            generalize txt ts s = y at hT hp
            go_wp2_with (fail)
            refine (hT hRa).mono ?_
            rintro e w2 ⟨rfl, n, rfl⟩
            have c0 := hRa.c0
            have c1 := hRa.c1
            have c2 := hRa.c2
            have hlen := hRa.len
            have hle := hRa.le
            obtain ⟨a, cp, rfl, hmx, hg⟩ := own_shape hRa.own
            cases hbad : s.bad
            · rw [hbad] at c2
              by_cases hlt : s.i < ts.length
              · have hkd := isNum_no hk hbad hlt
                clear hk
                obtain ⟨g, rfl⟩ := hg (by omega)
                obtain ⟨y0, y1, y2'⟩ := tok_cells hRa.own hlt
                generalize ts[s.i].kind = tk at *
                have hd : decide ((s.i : Int) < (ts.length : Int)) = true := by simp; omega
                go_wp2
                go_quiet (fail)
                go_wp2_with (fail)
                refine (hW (hRa.drewN _)).mono ?_
                rintro e w3 ⟨rfl, hR3, hF3⟩
                have hB3 := (hB1.drewN _).fr hF3 (by omega)
                go_wp2_with (fail)
                refine (hT2 hR3).mono ?_
                rintro e w4 ⟨rfl, n4, rfl⟩
                go_wp2_with (fail)
                refine (ihP _ (hR3.drewN n4) hq).mono ?_
                rintro e w5 ⟨v5, rfl, hL5, hR5, hF5⟩
                obtain ⟨k, yy, m, _, rfl, a5, n5, c5, rfl⟩ := hL5.shape
                obtain ⟨q0, q1', q2, q3, t0, t1, t2, t3⟩ := (hB3.drewN n4).fr hF5 (by omega)
                go_wp2
                exact bodyPost_ret (v := .agg #[.int .i64 k, .string yy, .int .i64 m, .slice a5 n5 c5]) (by simp [results, Tryz.results163, go_sem, q0, q1', q2, q3]) rfl
                  (Ans.fin hR (((hFa'.drewN _).trans (hF3.drewN n4)).trans hF5) hR5 hB3.lt hL5)
              · have hd : decide ((s.i : Int) < (ts.length : Int)) = false := by simp; omega
                go_wp2
                go_quiet (fail)
                go_wp2_with (fail)
                refine (hW (hRa.drewN _)).mono ?_
                rintro e w3 ⟨rfl, hR3, hF3⟩
                have hB3 := (hB1.drewN _).fr hF3 (by omega)
                go_wp2_with (fail)
                refine (hT2 hR3).mono ?_
                rintro e w4 ⟨rfl, n4, rfl⟩
                go_wp2_with (fail)
                refine (ihP _ (hR3.drewN n4) hq).mono ?_
                rintro e w5 ⟨v5, rfl, hL5, hR5, hF5⟩
                obtain ⟨k, yy, m, _, rfl, a5, n5, c5, rfl⟩ := hL5.shape
                obtain ⟨q0, q1', q2, q3, t0, t1, t2, t3⟩ := (hB3.drewN n4).fr hF5 (by omega)
                go_wp2
                exact bodyPost_ret (v := .agg #[.int .i64 k, .string yy, .int .i64 m, .slice a5 n5 c5]) (by simp [results, Tryz.results163, go_sem, q0, q1', q2, q3]) rfl
                  (Ans.fin hR (((hFa'.drewN _).trans (hF3.drewN n4)).trans hF5) hR5 hB3.lt hL5)
            · rw [hbad] at c2
              go_wp2
              go_quiet (fail)
              go_wp2_with (fail)
              refine (hW (hRa.drewN _)).mono ?_
              rintro e w3 ⟨rfl, hR3, hF3⟩
              have hB3 := (hB1.drewN _).fr hF3 (by omega)
              go_wp2_with (fail)
              refine (hT2 hR3).mono ?_
              rintro e w4 ⟨rfl, n4, rfl⟩
              go_wp2_with (fail)
              refine (ihP _ (hR3.drewN n4) hq).mono ?_
              rintro e w5 ⟨v5, rfl, hL5, hR5, hF5⟩
              obtain ⟨k, yy, m, _, rfl, a5, n5, c5, rfl⟩ := hL5.shape
              obtain ⟨q0, q1', q2, q3, t0, t1, t2, t3⟩ := (hB3.drewN n4).fr hF5 (by omega)
              go_wp2
              exact bodyPost_ret (v := .agg #[.int .i64 k, .string yy, .int .i64 m, .slice a5 n5 c5]) (by simp [results, Tryz.results163, go_sem, q0, q1', q2, q3]) rfl
                (Ans.fin hR (((hFa'.drewN _).trans (hF3.drewN n4)).trans hF5) hR5 hB3.lt hL5)
end
end Go.Proofs.YtchhpinmoagkhaaGreatDoor.syn
namespace Go.Proofs.YtchhpinmoagkhaaGreatDoor.syn
open Go.RowKit
open Go.Proofs.YtchhpinmoagkhaaGreatDoor.lexs (Tok tok_cells own_shape)
set_option linter.unusedVariables false

section
variable {w : World} {r : Nat} {L : Value} {ts : List Tok} {s : St}
theorem Lies.frP {P Q : Nat → Prop} {x : Nat} {w1 w2 : World} {t : Tree} {v : Value} (h : Lies P w1 t v) (hF : Fr x w1 w2) (hP : ∀ b, P b → b < w1.heap.size ∧ b ≠ x) (hQ : ∀ b, P b → Q b) : Lies Q w2 t v :=
  h.to hQ (fun b hb o => World.cell?_of_block (a := ⟨b, o, none⟩) (hF.block b (hP b hb).1 (by have := (hP b hb).2; simpa using this)))
theorem Lies.two {P : Nat → Prop} {M : Nat} {t t' : Tree} {v v' : Value} {k m : Int} {x : ByteArray} {c : Nat} (hP : P M) (h4 : cell4 w M 0 v) (h4' : cell4 w M 4 v') (hL : Lies P w t v) (hL' : Lies P w t' v') : Lies P w (.node k x m [t, t']) (.agg #[.int .i64 k, .string x, .int .i64 m, .slice (some ⟨M, 0, none⟩) 2 c]) := by
  unfold Lies
  refine ⟨some ⟨M, 0, none⟩, c, rfl, by simp, fun _ => ⟨M, 0, rfl, hP, ?_⟩⟩
  unfold LiesAt
  refine ⟨⟨v, h4, hL⟩, ?_⟩
  unfold LiesAt
  exact ⟨⟨v', h4', hL'⟩, by unfold LiesAt; trivial⟩
theorem cell4_two (w : World) {y0 y1 y2 y3 z0 z1 z2 z3 : Value} {T : TypeId} {M : Nat} (hM : M = w.heap.size) : cell4 (w.alloc (.cells #[y0, y1, y2, y3, z0, z1, z2, z3] T)) M 0 (.agg #[y0, y1, y2, y3]) ∧ cell4 (w.alloc (.cells #[y0, y1, y2, y3, z0, z1, z2, z3] T)) M 4 (.agg #[z0, z1, z2, z3]) := by
  subst hM
  exact ⟨⟨y0, y1, y2, y3, rfl, by simp, by simp, by simp, by simp⟩, ⟨z0, z1, z2, z3, rfl, by simp, by simp, by simp, by simp⟩⟩
theorem Box4.put {N : Nat} {x0 x1 x2 x3 y0 y1 y2 y3 : Value} (h : Box4 w N x0 x1 x2 x3) : Box4 ((((w.setCell ⟨N, 0, none⟩ y0).setCell ⟨N, 1, none⟩ y1).setCell ⟨N, 2, none⟩ y2).setCell ⟨N, 3, none⟩ y3) N y0 y1 y2 y3 := by
  have h0 : ∀ o, (World.setCell w ⟨N, 0, none⟩ y0).frozen? ⟨N, o, none⟩ = w.frozen? ⟨N, o, none⟩ := fun o => by simp
  refine ⟨?_, ?_, ?_, ?_, by simp [h.f0], by simp [h.f1], by simp [h.f2], by simp [h.f3]⟩
  · rw [World.cell?_setCell_other _ _ _ _ (by simp), World.cell?_setCell_other _ _ _ _ (by simp), World.cell?_setCell_other _ _ _ _ (by simp)]
    exact World.cell?_setCell_same _ _ _ h.c0
  · rw [World.cell?_setCell_other _ _ _ _ (by simp), World.cell?_setCell_other _ _ _ _ (by simp)]
    exact World.cell?_setCell_same _ _ _ (u := x1) (by rw [World.cell?_setCell_other _ _ _ _ (by simp)]; exact h.c1)
  · rw [World.cell?_setCell_other _ _ _ _ (by simp)]
    exact World.cell?_setCell_same _ _ _ (u := x2) (by rw [World.cell?_setCell_other _ _ _ _ (by simp), World.cell?_setCell_other _ _ _ _ (by simp)]; exact h.c2)
  · exact World.cell?_setCell_same _ _ _ (u := x3) (by rw [World.cell?_setCell_other _ _ _ _ (by simp), World.cell?_setCell_other _ _ _ _ (by simp), World.cell?_setCell_other _ _ _ _ (by simp)]; exact h.c3)
/-- the end: a node over two, in a row that is laid last -/
theorem Ans.row2 {W : World} {s3 : St} {t t' : Tree} {y0 y1 y2 y3 z0 z1 z2 z3 : Value} {T : TypeId} {M : Nat} {k m : Int} {x : ByteArray} (hF : Fr r w W) (hR3 : Rd W r L ts s3) (hL : Lies (fun b => w.heap.size ≤ b ∧ b < W.heap.size) W t (.agg #[y0, y1, y2, y3])) (hL' : Lies (fun b => w.heap.size ≤ b ∧ b < W.heap.size) W t' (.agg #[z0, z1, z2, z3])) (hM : M = W.heap.size) :
    Ans w r L ts (.node k x m [t, t'], s3) (.returned (.agg #[.int .i64 k, .string x, .int .i64 m, .slice (some ⟨M, 0, none⟩) 2 2])) (W.alloc (.cells #[y0, y1, y2, y3, z0, z1, z2, z3] T)) := by
  have hz := hF.size
  have hc := cell4_two W (y0 := y0) (y1 := y1) (y2 := y2) (y3 := y3) (z0 := z0) (z1 := z1) (z2 := z2) (z3 := z3) (T := T) hM
  refine ⟨_, rfl, ?_, hR3.alloc _, hF.alloc _⟩
  refine Lies.two ⟨by omega, by rw [World.size_alloc]; omega⟩ hc.1 hc.2 ?_ ?_
  · exact hL.to (fun b hb => ⟨hb.1, by rw [World.size_alloc]; omega⟩) (fun b hb o => ((Below.refl W.heap.size W).alloc (Nat.le_refl _) _).cell (p := ⟨b, o, none⟩) hb.2)
  · exact hL'.to (fun b hb => ⟨hb.1, by rw [World.size_alloc]; omega⟩) (fun b hb o => ((Below.refl W.heap.size W).alloc (Nat.le_refl _) _).cell (p := ⟨b, o, none⟩) hb.2)
/-- a tree that lies in neither of the two boxes -/
theorem Lies.three {w4 : World} {N n' : Nat} {t : Tree} {v x0 x1 x2 x3 y0 y1 y2 y3 : Value} {o : Obj} (h : Lies (fun b => N < b ∧ b ≠ n' ∧ b < w4.heap.size) w4 t v) :
    Lies (fun b => N ≤ b ∧ b < (((((((((w4.setCell ⟨n', 0, none⟩ x0).setCell ⟨n', 1, none⟩ x1).setCell ⟨n', 2, none⟩ x2).setCell ⟨n', 3, none⟩ x3).setCell ⟨N, 0, none⟩ y0).setCell ⟨N, 1, none⟩ y1).setCell ⟨N, 2, none⟩ y2).setCell ⟨N, 3, none⟩ y3).alloc o).heap.size)
      (((((((((w4.setCell ⟨n', 0, none⟩ x0).setCell ⟨n', 1, none⟩ x1).setCell ⟨n', 2, none⟩ x2).setCell ⟨n', 3, none⟩ x3).setCell ⟨N, 0, none⟩ y0).setCell ⟨N, 1, none⟩ y1).setCell ⟨N, 2, none⟩ y2).setCell ⟨N, 3, none⟩ y3).alloc o) t v := by
  have h1 := h.frP (Q := fun b => N < b ∧ b < w4.heap.size) (Fr.put w4 n' x0 x1 x2 x3) (fun b hb => ⟨hb.2.2, hb.2.1⟩) (fun b hb => ⟨hb.1, hb.2.2⟩)
  have h2 := h1.frP (Q := fun b => N < b ∧ b < w4.heap.size) (Fr.put _ N y0 y1 y2 y3) (fun b hb => ⟨by simpa using hb.2, by omega⟩) (fun b hb => hb)
  exact h2.frP (x := N) (Fr.al _ o) (fun b hb => ⟨by simpa using hb.2, by omega⟩) (fun b hb => ⟨by omega, by simp; omega⟩)
theorem Lies.three' {w4 : World} {N n' : Nat} {t : Tree} {v x0 x1 x2 x3 : Value} {o o' : Obj} (h : Lies (fun b => N < b ∧ b ≠ n' ∧ b < w4.heap.size) w4 t v) :
    Lies (fun b => N < b ∧ b ≠ n' ∧ b < ((((((w4.setCell ⟨n', 0, none⟩ x0).setCell ⟨n', 1, none⟩ x1).setCell ⟨n', 2, none⟩ x2).setCell ⟨n', 3, none⟩ x3).alloc o).alloc o').heap.size)
      ((((((w4.setCell ⟨n', 0, none⟩ x0).setCell ⟨n', 1, none⟩ x1).setCell ⟨n', 2, none⟩ x2).setCell ⟨n', 3, none⟩ x3).alloc o).alloc o') t v := by
  have h1 := h.frP (Q := fun b => N < b ∧ b ≠ n' ∧ b < w4.heap.size) (Fr.put w4 n' x0 x1 x2 x3) (fun b hb => ⟨hb.2.2, hb.2.1⟩) (fun b hb => hb)
  have h2 := h1.frP (x := n') (Q := fun b => N < b ∧ b ≠ n' ∧ b < w4.heap.size) (Fr.al _ o) (fun b hb => ⟨by simpa using hb.2.2, hb.2.1⟩) (fun b hb => hb)
  exact h2.frP (x := n') (Fr.al _ o') (fun b hb => ⟨by simp; omega, hb.2.1⟩) (fun b hb => ⟨hb.1, hb.2.1, by simp; omega⟩)
theorem Rd.next (h : Rd w r L ts s) (hlt : s.i < ts.length) : Rd (w.setCell ⟨r, 1, none⟩ (.int .i64 ((s.i : Int) + 1))) r L ts s.next := h.setAt (s.i + 1) hlt
theorem sign_lt (h : 0 ≤ (sign (txt ts s)).2) : s.i < ts.length := by
  rcases Nat.lt_or_ge s.i ts.length with hl | hl
  · exact hl
  · exfalso
    have he : txt ts s = empty := by
      unfold txt here
      rw [List.getElem?_eq_none hl]
      cases s.bad <;> rfl
    rw [he, sign_none empty (fun j hj => ?_)] at h
    · exact absurd h (by decide)
    · rw [show empty = ⟨([] : List UInt8).toArray⟩ from rfl, eqS_lit (sv j) [], ByteArray.toList_eq]
      rcases nine hj with rfl | rfl | rfl | rfl | rfl | rfl | rfl | rfl | rfl <;> rfl
set_option maxRecDepth 100000 in
set_option maxHeartbeats 1000000 in
theorem rbound {f : Nat}
    (ihU : ∀ {w : World} {s : St} {q : Tree × St}, Rd w r L ts s → unaryF ts f s = some q → Calls Tryz.prog 163 #[.pointer (some ⟨r, 0, none⟩)] w (Ans w r L ts q))
    (ihB : ∀ {g : Nat}, g ≤ f → ∀ {w : World} {s : St} {q : Tree × St} (least : Nat), least ≤ 3 → Rd w r L ts s → boundF ts g least s = some q → Calls Tryz.prog 147 #[.pointer (some ⟨r, 0, none⟩), .int .i64 least] w (Ans w r L ts q))
    (hR : Rd w r L ts s) (least : Nat) (hl : least ≤ 3) {q : Tree × St} (hq : boundF ts (f + 1) least s = some q) : Calls Tryz.prog 147 #[.pointer (some ⟨r, 0, none⟩), .int .i64 least] w (Ans w r L ts q) := by
  have c24 : Tryz.prog.cellsOf 24 = 4 := by kernel_rfl
  have hr := hR.lt
  have hB0 := Box4.new w (.int .i64 0) (.string empty) (.int .i64 0) (.slice none 0 0) 24
  unfold boundF at hq
  by_cases h2 : 2 < least
  · rw [if_pos h2] at hq
    go_enter Tryz.func147, Tryz.ntmps147
    go_wp2_with (fail)
    refine (ihU (hR.alloc _) hq).mono ?_
    rintro e w2 ⟨v2, rfl, hL2, hR2, hF2⟩
    obtain ⟨k, y, m, _, rfl, a, n, c, rfl⟩ := hL2.shape
    obtain ⟨q0, q1', q2, q3, t0, t1, t2, t3⟩ := hB0.fr hF2 (by omega)
    go_wp2
    exact bodyPost_ret (v := .agg #[.int .i64 k, .string y, .int .i64 m, .slice a n c]) (by simp [results, Tryz.results147, go_sem, q0, q1', q2, q3]) rfl
      (Ans.fin hR ((Fr.al _ _).trans hF2) hR2 (by rw [World.size_alloc]; omega) hL2)
  · rw [if_neg h2] at hq
    cases h1 : boundF ts f (least + 1) s with
    | none => rw [h1] at hq; simp at hq
    | some q1 =>
      rw [h1] at hq
      simp only [Option.bind_some] at hq
      have HQ : Hid (boundL ts f least q1.1 q1.2 = some q) := hq
      have hB : ∀ {g : Nat} {w : World} {s : St} {q : Tree × St}, g ≤ f → Rd w r L ts s → boundF ts g (least + 1) s = some q → Calls Tryz.prog 147 #[.pointer (some ⟨r, 0, none⟩), .int .i64 ((least : Int) + 1)] w (Ans w r L ts q) := fun hg hR h => by
        have := ihB hg (least + 1) (by omega) hR h
        rw [Int.natCast_add] at this
        exact this
      clear ihB hq
      go_enter Tryz.func147, Tryz.ntmps147
      go_wp2_with (fail)
      refine (hB (Nat.le_refl _) (hR.alloc _) h1).mono ?_
      rintro e w1 ⟨v1, rfl, hL1, hR1, hF1⟩
      obtain ⟨k1, y1, m1, _, rfl, a1, n1, c1, rfl⟩ := hL1.shape
      have z1 := hF1.size
      rw [World.size_alloc] at z1 hL1
      go_wp2
      go_loopg [] f (fun k wr => ∃ (n : Tree) (s1 : St) (k0 m0 : Int) (x0 : ByteArray) (a0 : Option Addr) (n0 c0 : Nat), Hid (boundL ts k least n s1 = some q) ∧ k ≤ f ∧ Box4 wr w.heap.size (.int .i64 0) (.string empty) (.int .i64 0) (.slice none 0 0) ∧ Box4 wr w1.heap.size (.int .i64 k0) (.string x0) (.int .i64 m0) (.slice a0 n0 c0) ∧
        Lies (fun b => w.heap.size < b ∧ b ≠ w1.heap.size ∧ b < wr.heap.size) wr n (.agg #[.int .i64 k0, .string x0, .int .i64 m0, .slice a0 n0 c0]) ∧ Rd wr r L ts s1 ∧ Fr r w wr)
      case atStart =>
        refine ⟨q1.1, q1.2, k1, m1, y1, a1, n1, c1, HQ.out, Nat.le_refl _, (hB0.fr hF1 (by omega)).alloc _, Box4.new _ _ _ _ _ _, ?_, hR1.alloc _, (((Fr.al _ _).trans hF1).alloc _)⟩
        exact hL1.frP (x := r) (Fr.al _ _) (fun b hb => ⟨hb.2, by omega⟩) (fun b hb => ⟨by omega, by omega, by rw [World.size_alloc]; omega⟩)
      case round =>
        obtain ⟨n, s1, k0, m0, x0, a0, n0, c0, HL, hkf, hb0, hb1, hLn, hRr, hFr⟩ := hrel
        have hz1 := hb1.lt
        have hl' : (least : Int) + 1 ≤ 3 := by omega
        cases gk with
        | zero => have := HL.out; unfold boundL at this; simp at this
        | succ k =>
          have hq2 := HL.out
          clear HL HQ
          unfold boundL at hq2
          cases hbad : s1.bad
          case true =>
            rw [hbad] at hq2
            simp only [if_true, Option.some.injEq] at hq2
            subst hq2
            have d2 := hRr.c2
            rw [hbad] at d2
            obtain ⟨q0, q1', q2, q3, t0, t1, t2, t3⟩ := hb0
            obtain ⟨p0, p1, p2, p3, _, _, _, _⟩ := hb1
            go_wp2
            exact bodyPost_ret (v := .agg #[.int .i64 k0, .string x0, .int .i64 m0, .slice a0 n0 c0]) (by simp [results, Tryz.results147, go_sem, q0, q1', q2, q3]) rfl
              (Ans.fin hR hFr hRr (Nat.lt_succ_self _) (hLn.to (fun b hb => ⟨hb.1, hb.2.2⟩) (fun _ _ _ => rfl)))
          case false =>
            rw [hbad] at hq2
            simp only [Bool.false_eq_true, if_false] at hq2
            have d2 := hRr.c2
            rw [hbad] at d2
            have hT := rtext _ r L ts s1 hRr
            have hS := rSign (txt ts s1)
            have hlt : 0 ≤ (sign (txt ts s1)).2 → s1.i < ts.length := sign_lt
            generalize txt ts s1 = y at hT hS hq2 hlt
            generalize sign y = sg at hS hq2 hlt
            obtain ⟨so, sk⟩ := sg
            dsimp only at hS hq2 hlt
            cases hne : (sk != (least : Int))
            case true =>
              rw [hne] at hq2
              simp only [if_true, Option.some.injEq] at hq2
              subst hq2
              go_wp2_with (first
                | (go_at_call 56; refine hT.mono ?_; rintro e w2 ⟨rfl, nn, rfl⟩)
                | (go_at_call 164; refine (hS _).mono ?_; rintro e w3 ⟨rfl, hb3⟩; have hF3 : Fr r wr w3 := ((Fr.refl _ _).drewN nn).trans (Fr.below hb3); obtain ⟨q0, q1', q2, q3, t0, t1, t2, t3⟩ := hb0.fr hF3 (by omega); obtain ⟨p0, p1, p2, p3, _, _, _, _⟩ := hb1.fr hF3 (by omega)))
              exact bodyPost_ret (v := .agg #[.int .i64 k0, .string x0, .int .i64 m0, .slice a0 n0 c0]) (by simp [results, Tryz.results147, go_sem, q0, q1', q2, q3]) rfl
                (Ans.fin hR (hFr.trans hF3) ((hRr.drewN nn).below hb3) (Nat.lt_succ_self _) (hLn.frP hF3 (fun b hb => ⟨hb.2.2, by omega⟩) (fun b hb => ⟨hb.1, Nat.lt_of_lt_of_le hb.2.2 hF3.size⟩)))
            case false =>
              rw [hne] at hq2
              simp only [Bool.false_eq_true, if_false] at hq2
              cases h3 : boundF ts k (least + 1) s1.next with
              | none => rw [h3] at hq2; simp at hq2
              | some q3t =>
                rw [h3] at hq2
                simp only [Option.bind_some] at hq2
                have hlt := hlt (by have : sk = (least : Int) := by simpa using hne
                                    omega)
                have hlen := hRr.len
                have d1 := hRr.c1
                go_wp2_with (first
                  | (go_at_call 56; refine hT.mono ?_; rintro e w2 ⟨rfl, nn, rfl⟩)
                  | (go_at_call 164; refine (hS _).mono ?_; rintro e w3 ⟨rfl, hb3⟩; have hR3 := (hRr.drewN nn).below hb3; have hF3 : Fr r wr w3 := ((Fr.refl _ _).drewN nn).trans (Fr.below hb3); have d1 := hR3.c1; have e1 := hR3.f1))
                refine (hB (by omega) (hR3.next hlt) h3).mono ?_
                rintro e w4 ⟨v4, rfl, hL4, hR4, hF4⟩
                obtain ⟨k4, y4, m4, _, rfl, a4, n4, c4, rfl⟩ := hL4.shape
                have hF34 : Fr r wr w4 := (hF3.set _ _).trans hF4
                have hz4 : w1.heap.size < w4.heap.size := Nat.lt_of_lt_of_le hz1 hF34.size
                have hz5 : w.heap.size < w4.heap.size := by omega
                have hs3 := hF3.size
                have hs4 := hF34.size
                have hb1' := hb1.fr hF34 (by omega)
                have hb0' := hb0.fr hF34 (by omega)
                have HN : Hid (Lies (fun b => w.heap.size < b ∧ b ≠ w1.heap.size ∧ b < w4.heap.size) w4 n (.agg #[.int .i64 k0, .string x0, .int .i64 m0, .slice a0 n0 c0]) ∧ Lies (fun b => w.heap.size < b ∧ b ≠ w1.heap.size ∧ b < w4.heap.size) w4 q3t.1 (.agg #[.int .i64 k4, .string y4, .int .i64 m4, .slice a4 n4 c4])) := by
                  refine ⟨hLn.frP hF34 (fun b hb => ⟨hb.2.2, by omega⟩) (fun b hb => ⟨hb.1, hb.2.1, by omega⟩), ?_⟩
                  exact hL4.to (fun b hb => by rw [World.size_setCell] at hb; exact ⟨by omega, by omega, hb.2⟩) (fun _ _ _ => rfl)
                have HB : Hid (Box4 w4 w1.heap.size (.int .i64 k0) (.string x0) (.int .i64 m0) (.slice a0 n0 c0) ∧ Box4 w4 w.heap.size (.int .i64 0) (.string empty) (.int .i64 0) (.slice none 0 0)) := ⟨hb1', hb0'⟩
                have HF : Hid (Fr r w w4 ∧ w.heap.size ≤ w1.heap.size ∧ r < w.heap.size ∧ w1.heap.size < w4.heap.size) := ⟨hFr.trans hF34, by omega, hr, hz4⟩
                clear hLn hL4 hb1 hb0
                obtain ⟨p0, p1, p2, p3, o0, o1, o2, o3⟩ := hb1'
                obtain ⟨q0, q1', q2, q3, t0, t1, t2, t3⟩ := hb0'
                cases hl0 : ((least : Int) == 0)
                case true =>
                  have hq3 : (Tree.node 19 empty so [n, q3t.1], q3t.2) = q := by
                    have : (least == 0) = true := by simpa using hl0
                    rw [this] at hq2
                    simpa using hq2
                  subst hq3
                  go_wp2
                  refine bodyPost_ret (v := .agg #[.int .i64 19, .string empty, .int .i64 so, .slice (some ⟨w4.heap.size + 1, 0, none⟩) 2 2]) (by simp [results, Tryz.results147, go_sem, q0, q1', q2, q3, hz5, empty]) rfl ?_
                  obtain ⟨f1, f2, f3, f4⟩ := HF.out
                  obtain ⟨l1, l2⟩ := HN.out
                  refine Ans.row2 (((f1.put4 f2 _ _ _ _).put4 (Nat.le_refl _) _ _ _ _).alloc _) (((hR4.put4 (hR.old f2).1 (hR.old f2).2 _ _ _ _).put4 (hR.old (Nat.le_refl _)).1 (hR.old (Nat.le_refl _)).2 _ _ _ _).alloc _) ?_ ?_ (by simp)
                  · exact Lies.three l1
                  · exact Lies.three l2
                case false =>
                  have hq3 : boundL ts k least (.node 19 empty so [n, q3t.1]) q3t.2 = some q := by
                    have : (least == 0) = false := by simpa using hl0
                    rw [this] at hq2
                    simpa using hq2
                  have HQ3 : Hid (boundL ts k least (.node 19 empty so [n, q3t.1]) q3t.2 = some q) := hq3
                  clear hq3 hq2
                  go_wp2
                  go_roundg k
                  case measure => exact Nat.lt_succ_self _
                  case rel =>
                    obtain ⟨f1, f2, f3, f4⟩ := HF.out
                    obtain ⟨l1, l2⟩ := HN.out
                    obtain ⟨b1, b2⟩ := HB.out
                    refine ⟨.node 19 empty so [n, q3t.1], q3t.2, 19, so, empty, some ⟨w4.heap.size + 1, 0, none⟩, 2, 2, HQ3.out, by omega, ((b2.fr (Fr.put _ _ _ _ _ _) (by omega)).alloc _).alloc _, (b1.put.alloc _).alloc _, ?_, ((hR4.put4 (hR.old f2).1 (hR.old f2).2 _ _ _ _).alloc _).alloc _, ((f1.put4 f2 _ _ _ _).alloc _).alloc _⟩
                    have hc := cell4_two (((((w4.setCell ⟨w1.heap.size, 0, none⟩ (.int .i64 19)).setCell ⟨w1.heap.size, 1, none⟩ (.string empty)).setCell ⟨w1.heap.size, 2, none⟩ (.int .i64 so)).setCell ⟨w1.heap.size, 3, none⟩ (.slice (some ⟨w4.heap.size + 1, 0, none⟩) 2 2)).alloc (.cells #[.int .i64 k4, .string y4, .int .i64 m4, .slice a4 n4 c4] 24)) (y0 := .int .i64 k0) (y1 := .string x0) (y2 := .int .i64 m0) (y3 := .slice a0 n0 c0) (z0 := .int .i64 k4) (z1 := .string y4) (z2 := .int .i64 m4) (z3 := .slice a4 n4 c4) (T := 24) (M := w4.heap.size + 1) (by simp)
                    refine Lies.two ⟨by omega, by omega, by simp⟩ hc.1 hc.2 ?_ ?_
                    · exact Lies.three' l1
                    · exact Lies.three' l2
end
end Go.Proofs.YtchhpinmoagkhaaGreatDoor.syn
namespace Go.Proofs.YtchhpinmoagkhaaGreatDoor.syn
open Go

theorem append_block {P : Program} (w : World) (base : Nat) (t ty e : TypeId) (i : TypeInfo) (z : Value) (size bytes : Nat) (ht : P.underlying t = some (.slice e)) (hi : P.info? e = some i) (hz : i.zero = some z)
    (hsize : i.size = size) (hby : i.bytes = bytes) (v : Value) (n : Nat) (xs : List Value) (hown : w.ownsRow base e size v n xs)
    (a : Addr) (m c : Nat) (news : List Value) (hl : news.length = m * size) (hnews : ∀ j u, news[j]? = some u → w.cell? (a.add j) = some u) (h1 : ∀ u ∈ news, u.oneCell' = true)
    (h63 : n + m ≤ maxLen) (hbytes : (n + m) * bytes ≤ 140737488355328) (hm : 0 < m) {v' : Value} {w' : World}
    (hr : (Builtin.append_ #[t, t] ty #[v, .slice (some a) m c]).run P w = .ok v' w') : v'.ownBlock = v.ownBlock ∨ v'.ownBlock = some w.heap.size := by
  subst hsize
  subst hby
  have hsmall : n + m ≤ 9223372036854775807 := by simp only [maxLen] at h63; omega
  rcases hown.2 with ⟨rfl, rfl⟩ | ⟨g, cap, cur, rfl, hbg, hg, hnc, hcm, hcs, htake⟩
  · have hx := run_append_nil (P := P) w t ty e i z ht hi hz a m c news hl hnews (by omega) (by omega) (by simp only [Nat.zero_add] at hbytes; omega)
    rw [hr] at hx
    injection hx with hv _
    rw [hv]
    exact .inr rfl
  · by_cases hroom : n + m ≤ cap
    · have hfit : n * i.size + news.length ≤ cur.size := by rw [hl, hcs, ← Nat.add_mul]; exact Nat.mul_le_mul_right _ hroom
      have hx := run_append_room (P := P) w t ty e i ht hi g n cap cur hg a m c news hl hnews h1 hroom hfit
      rw [hr] at hx
      injection hx with hv _
      rw [hv]
      exact .inl rfl
    · have holds : ∀ j u, xs[j]? = some u → w.cell? ((⟨g, 0, none⟩ : Addr).add j) = some u := hown.cells (g := g) rfl
      have hx := run_append_grow (P := P) w t ty e i z ht hi hz ⟨g, 0, none⟩ n cap xs hown.1 holds a m c news hl hnews (by omega) (by omega) (growslice_fits (by omega) hbytes)
      rw [hr] at hx
      injection hx with hv _
      rw [hv]
      exact .inr rfl
theorem wpList_append_fresh {P : Program} {w : World} {ops : Array Oper} {rest : List Oper} {o : Oper} {a : Act} {Q : Exit → Act → World → Prop} (hgd : o.guard = none) (s x : Operand) (t : TypeId)
    (ho : o.op = .call { callee := .builtin .append, args := #[s, x], argTypes := #[t, t] })
    (base : Nat) (e : TypeId) (i : TypeInfo) (z : Value) (size bytes : Nat) (ht : P.underlying t = some (.slice e)) (hi : P.info? e = some i) (hz : i.zero = some z)
    (hsize : i.size = size) (hby : i.bytes = bytes) (hzs : z.cells.size = size) (hsz : 0 < size)
    (v : Value) (n : Nat) (xs : List Value) (hs : a.eval s = v) (hown : w.ownsRow base e size v n xs)
    (ad : Addr) (m c : Nat) (news : List Value) (hx : a.eval x = .slice (some ad) m c) (hl : news.length = m * size) (hnews : ∀ j u, news[j]? = some u → w.cell? (ad.add j) = some u) (h1 : ∀ u ∈ news, u.oneCell' = true)
    (h63 : n + m ≤ maxLen) (hbytes : (n + m) * bytes ≤ 140737488355328) (hbase : base ≤ w.heap.size) (hm : 0 < m)
    (h : ∀ v' w', w'.ownsRow base e size v' (n + m) (xs ++ news) → w.grownBy w' v.ownBlock → (v'.ownBlock = v.ownBlock ∨ v'.ownBlock = some w.heap.size) → wpList P ops Q rest (a.put o.dst v') w') : wpList P ops Q (o :: rest) a w := by
  refine wpList_plain hgd fun K hK => ?_
  obtain ⟨v', w', hr, h2, h3, _⟩ := run_append_own (P := P) w base t o.type e i z size bytes ht hi hz hsize hby hzs hsz v n xs hown ad m c news hl hnews h1 h63 hbytes hbase
  have h4 := append_block w base t o.type e i z size bytes ht hi hz hsize hby v n xs hown ad m c news hl hnews h1 h63 hbytes hm hr
  unfold Oper.wp execOp
  simp only [ho, resolve, invoke, builtin, Sem.run_bind, Sem.run_pure, Result.andThen_ok, List.map_toArray, List.map_cons, List.map_nil, hs, hx, hr]
  exact hK _ _ (h v' w' h2 h3 h4)
end Go.Proofs.YtchhpinmoagkhaaGreatDoor.syn
