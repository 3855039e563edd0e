/- Boxes: what leaves them as they are. What the machine's small functions answer: contracts. What the machine's IsOrder answers: contracts. -/
import Derived.WalkKit
import Derived.WalkLawsBesides
import Derived.WalkSmall
import Derived.Below
import Derived.OwnWalk
import Derived.Laws.OwnMore
import Derived.Test.YthfeojjfehbgjaaGreatDoorOGMacSpec
import Derived.Test.YthfeojjfehbgjaaGreatDoorProg
import Derived.Outline
import Derived.Deep.AppendLies
namespace Go.Proofs.YthfeojjfehbgjaaGreatDoor.mac
open Go.RowKit
set_option linter.unusedVariables false
/-- a box: its cells -/
def BoxC (W : World) (B : Nat) (cs : Array Value) (T : TypeId) : Prop := W.heap[B]? = some (.cells cs T (0, 0))
section
variable {W W' : World} {B D : Nat} {cs : Array Value} {T : TypeId} {u u' : Value}
theorem BoxC.lt (h : BoxC W B cs T) : B < W.heap.size := (Array.getElem?_eq_some_iff.1 h).1
theorem BoxC.new (W : World) (cs : Array Value) (T : TypeId) : BoxC (W.alloc (.cells cs T)) W.heap.size cs T := heap_alloc_new W _
theorem BoxC.below (h : BoxC W B cs T) (hb : Below W.heap.size W W') : BoxC W' B cs T := (hb.block B h.lt).trans h
theorem BoxC.grown {row : Option Nat} (h : BoxC W B cs T) (hg : W.grownBy W' row) (hne : row ≠ some B) : BoxC W' B cs T := (hg.block B h.lt (fun e => hne e.symm)).trans h
theorem BoxC.alloc (h : BoxC W B cs T) (o : Obj) : BoxC (W.alloc o) B cs T := h.below ((Below.refl _ _).alloc (Nat.le_refl _) o)
theorem BoxC.other (h : BoxC W B cs T) {b o : Nat} (hne : B ≠ b) (v : Value) : BoxC (W.setCell ⟨b, o, none⟩ v) B cs T := (Below.heap_setCell W ⟨b, o, none⟩ v B hne).trans h
theorem BoxC.set (h : BoxC W B cs T) (i : Nat) (v : Value) : BoxC (W.setCell ⟨B, i, none⟩ v) B (cs.setIfInBounds i v) T := heap_setCell_same W B i cs T v h
theorem BoxC.cell (h : BoxC W B cs T) (i : Nat) {v : Value} (hv : cs[i]? = some v) : W.cell? ⟨B, i, none⟩ = some v := by
  simp [World.cell?, show W.heap[B]? = _ from h, hv]
theorem BoxC.fz (h : BoxC W B cs T) (i : Nat) : W.frozen? ⟨B, i, none⟩ = false := by
  simp [World.frozen?, show W.heap[B]? = _ from h]
end
theorem grown_of_below {w w' : World} (hb : Below w.heap.size w w') : w.grownBy w' none := ⟨hb.os, hb.tape, hb.output, hb.size, fun j hj _ => hb.block j hj⟩
theorem keep {w w' : World} {a : Addr} {x : Value} (h : w.cell? a = some x) (hb : Below w.heap.size w w') : w'.cell? a = some x := by
  rw [hb.cell (World.block_lt_of_cell? w a h)]; exact h
theorem grown_set (w : World) (B i : Nat) (v : Value) : w.grownBy (w.setCell ⟨B, i, none⟩ v) (some B) :=
  ⟨rfl, rfl, rfl, by simp, fun k _ hk => Below.heap_setCell w ⟨B, i, none⟩ v k (fun e => hk (by rw [e]))⟩
end Go.Proofs.YthfeojjfehbgjaaGreatDoor.mac
namespace Go.Proofs.YthfeojjfehbgjaaGreatDoor.mac
open Go.RowKit
set_option linter.unusedVariables false
set_option linter.unusedSimpArgs false
set_option maxRecDepth 100000
theorem oUpTo (x m : Int) (w : World) :
    Calls Tryz.prog 90 #[.int .i64 x, .int .i64 m] w fun e w' => e = .returned (.bool (upB x m)) ∧ w' = w := by
  by_cases h1 : 0 ≤ x
  · by_cases h2 : x ≤ m
    · have e : upB x m = true := by simp [upB, h1, h2]
      rw [e]
      go_enter Tryz.func90, Tryz.ntmps90
      go_wp2
      go_ret
      exact ⟨rfl, rfl⟩
    · have e : upB x m = false := by simp [upB, h1, h2]
      rw [e]
      go_enter Tryz.func90, Tryz.ntmps90
      go_wp2
      go_ret
      exact ⟨rfl, rfl⟩
  · have e : upB x m = false := by simp [upB, h1]
    rw [e]
    go_enter Tryz.func90, Tryz.ntmps90
    go_wp2
    go_ret
    exact ⟨rfl, rfl⟩
theorem oReg (x : Int) (f : Bool) (w : World) :
    Calls Tryz.prog 66 #[.int .i64 x, .bool f] w fun e w' => e = .returned (.bool (regB x f)) ∧ w' = w := by
  cases f with
  | true =>
    have e : regB x true = upB x 7 := rfl
    rw [e]
    have hc := oUpTo x 7 w
    go_enter Tryz.func66, Tryz.ntmps66
    go_wp2_with (go_at_call 90; refine hc.mono ?_; rintro e w1 ⟨rfl, hw⟩; obtain rfl := hw.symm)
    go_ret
    exact ⟨rfl, rfl⟩
  | false =>
    by_cases h : x = 0
    · subst h
      go_enter Tryz.func66, Tryz.ntmps66
      go_wp2
      go_ret
      exact ⟨rfl, rfl⟩
    · have e : regB x false = false := by simp [regB, h]
      rw [e]
      have k : (x == 0) = false := by simpa using h
      go_enter Tryz.func66, Tryz.ntmps66
      go_wp2
      go_ret
      exact ⟨rfl, rfl⟩
def fldV (f : Fld) : Value := .tuple #[.agg #[.bool f.a, .bool f.b, .bool f.c, .bool f.n], .bool f.one]
set_option maxHeartbeats 2000000 in
theorem oFields (x : Int) (w : World) :
    Calls Tryz.prog 65 #[.int .i64 x] w fun e w' => e = .returned (fldV (fld x)) ∧ Below w.heap.size w w' := by
  have c : Tryz.prog.cellsOf 115 = 4 := by kernel_rfl
  by_cases h1 : x = 1
  · subst h1
    go_enter Tryz.func65, Tryz.ntmps65
    go_wp2
    refine bodyPost_ret (v := fldV (fld 1)) (by simp [results, Tryz.f65, go_sem, fldV, fld]) rfl ?_
    exact ⟨rfl, by repeat (first | exact Below.refl _ _ | refine Below.setCell ?_ (Nat.le_refl _) _ | refine Below.alloc ?_ (Nat.le_refl _) _)⟩
  have k1 : (x == 1) = false := by simpa using h1
  by_cases h9 : x = 9
  · subst h9
    go_enter Tryz.func65, Tryz.ntmps65
    go_wp2
    refine bodyPost_ret (v := fldV (fld 9)) (by simp [results, Tryz.f65, go_sem, fldV, fld]) rfl ?_
    exact ⟨rfl, by repeat (first | exact Below.refl _ _ | refine Below.setCell ?_ (Nat.le_refl _) _ | refine Below.alloc ?_ (Nat.le_refl _) _)⟩
  have k9 : (x == 9) = false := by simpa using h9
  by_cases h10 : x = 10
  · subst h10
    go_enter Tryz.func65, Tryz.ntmps65
    go_wp2
    refine bodyPost_ret (v := fldV (fld 10)) (by simp [results, Tryz.f65, go_sem, fldV, fld]) rfl ?_
    exact ⟨rfl, by repeat (first | exact Below.refl _ _ | refine Below.setCell ?_ (Nat.le_refl _) _ | refine Below.alloc ?_ (Nat.le_refl _) _)⟩
  have k10 : (x == 10) = false := by simpa using h10
  by_cases h2 : x = 2
  · subst h2
    go_enter Tryz.func65, Tryz.ntmps65
    go_wp2
    refine bodyPost_ret (v := fldV (fld 2)) (by simp [results, Tryz.f65, go_sem, fldV, fld]) rfl ?_
    exact ⟨rfl, by repeat (first | exact Below.refl _ _ | refine Below.setCell ?_ (Nat.le_refl _) _ | refine Below.alloc ?_ (Nat.le_refl _) _)⟩
  have k2 : (x == 2) = false := by simpa using h2
  by_cases h3 : x = 3
  · subst h3
    go_enter Tryz.func65, Tryz.ntmps65
    go_wp2
    refine bodyPost_ret (v := fldV (fld 3)) (by simp [results, Tryz.f65, go_sem, fldV, fld]) rfl ?_
    exact ⟨rfl, by repeat (first | exact Below.refl _ _ | refine Below.setCell ?_ (Nat.le_refl _) _ | refine Below.alloc ?_ (Nat.le_refl _) _)⟩
  have k3 : (x == 3) = false := by simpa using h3
  by_cases h4 : x = 4
  · subst h4
    go_enter Tryz.func65, Tryz.ntmps65
    go_wp2
    refine bodyPost_ret (v := fldV (fld 4)) (by simp [results, Tryz.f65, go_sem, fldV, fld]) rfl ?_
    exact ⟨rfl, by repeat (first | exact Below.refl _ _ | refine Below.setCell ?_ (Nat.le_refl _) _ | refine Below.alloc ?_ (Nat.le_refl _) _)⟩
  have k4 : (x == 4) = false := by simpa using h4
  by_cases h5 : x = 5
  · subst h5
    go_enter Tryz.func65, Tryz.ntmps65
    go_wp2
    refine bodyPost_ret (v := fldV (fld 5)) (by simp [results, Tryz.f65, go_sem, fldV, fld]) rfl ?_
    exact ⟨rfl, by repeat (first | exact Below.refl _ _ | refine Below.setCell ?_ (Nat.le_refl _) _ | refine Below.alloc ?_ (Nat.le_refl _) _)⟩
  have k5 : (x == 5) = false := by simpa using h5
  by_cases h6 : x = 6
  · subst h6
    go_enter Tryz.func65, Tryz.ntmps65
    go_wp2
    refine bodyPost_ret (v := fldV (fld 6)) (by simp [results, Tryz.f65, go_sem, fldV, fld]) rfl ?_
    exact ⟨rfl, by repeat (first | exact Below.refl _ _ | refine Below.setCell ?_ (Nat.le_refl _) _ | refine Below.alloc ?_ (Nat.le_refl _) _)⟩
  have k6 : (x == 6) = false := by simpa using h6
  by_cases h7 : x = 7
  · subst h7
    go_enter Tryz.func65, Tryz.ntmps65
    go_wp2
    refine bodyPost_ret (v := fldV (fld 7)) (by simp [results, Tryz.f65, go_sem, fldV, fld]) rfl ?_
    exact ⟨rfl, by repeat (first | exact Below.refl _ _ | refine Below.setCell ?_ (Nat.le_refl _) _ | refine Below.alloc ?_ (Nat.le_refl _) _)⟩
  have k7 : (x == 7) = false := by simpa using h7
  by_cases h8 : x = 8
  · subst h8
    go_enter Tryz.func65, Tryz.ntmps65
    go_wp2
    refine bodyPost_ret (v := fldV (fld 8)) (by simp [results, Tryz.f65, go_sem, fldV, fld]) rfl ?_
    exact ⟨rfl, by repeat (first | exact Below.refl _ _ | refine Below.setCell ?_ (Nat.le_refl _) _ | refine Below.alloc ?_ (Nat.le_refl _) _)⟩
  have k8 : (x == 8) = false := by simpa using h8
  by_cases h11 : x = 11
  · subst h11
    go_enter Tryz.func65, Tryz.ntmps65
    go_wp2
    refine bodyPost_ret (v := fldV (fld 11)) (by simp [results, Tryz.f65, go_sem, fldV, fld]) rfl ?_
    exact ⟨rfl, by repeat (first | exact Below.refl _ _ | refine Below.setCell ?_ (Nat.le_refl _) _ | refine Below.alloc ?_ (Nat.le_refl _) _)⟩
  have k11 : (x == 11) = false := by simpa using h11
  by_cases h12 : x = 12
  · subst h12
    go_enter Tryz.func65, Tryz.ntmps65
    go_wp2
    refine bodyPost_ret (v := fldV (fld 12)) (by simp [results, Tryz.f65, go_sem, fldV, fld]) rfl ?_
    exact ⟨rfl, by repeat (first | exact Below.refl _ _ | refine Below.setCell ?_ (Nat.le_refl _) _ | refine Below.alloc ?_ (Nat.le_refl _) _)⟩
  have k12 : (x == 12) = false := by simpa using h12
  by_cases h17 : x = 17
  · subst h17
    go_enter Tryz.func65, Tryz.ntmps65
    go_wp2
    refine bodyPost_ret (v := fldV (fld 17)) (by simp [results, Tryz.f65, go_sem, fldV, fld]) rfl ?_
    exact ⟨rfl, by repeat (first | exact Below.refl _ _ | refine Below.setCell ?_ (Nat.le_refl _) _ | refine Below.alloc ?_ (Nat.le_refl _) _)⟩
  have k17 : (x == 17) = false := by simpa using h17
  by_cases h13 : x = 13
  · subst h13
    go_enter Tryz.func65, Tryz.ntmps65
    go_wp2
    refine bodyPost_ret (v := fldV (fld 13)) (by simp [results, Tryz.f65, go_sem, fldV, fld]) rfl ?_
    exact ⟨rfl, by repeat (first | exact Below.refl _ _ | refine Below.setCell ?_ (Nat.le_refl _) _ | refine Below.alloc ?_ (Nat.le_refl _) _)⟩
  have k13 : (x == 13) = false := by simpa using h13
  by_cases h14 : x = 14
  · subst h14
    go_enter Tryz.func65, Tryz.ntmps65
    go_wp2
    refine bodyPost_ret (v := fldV (fld 14)) (by simp [results, Tryz.f65, go_sem, fldV, fld]) rfl ?_
    exact ⟨rfl, by repeat (first | exact Below.refl _ _ | refine Below.setCell ?_ (Nat.le_refl _) _ | refine Below.alloc ?_ (Nat.le_refl _) _)⟩
  have k14 : (x == 14) = false := by simpa using h14
  by_cases h15 : x = 15
  · subst h15
    go_enter Tryz.func65, Tryz.ntmps65
    go_wp2
    refine bodyPost_ret (v := fldV (fld 15)) (by simp [results, Tryz.f65, go_sem, fldV, fld]) rfl ?_
    exact ⟨rfl, by repeat (first | exact Below.refl _ _ | refine Below.setCell ?_ (Nat.le_refl _) _ | refine Below.alloc ?_ (Nat.le_refl _) _)⟩
  have k15 : (x == 15) = false := by simpa using h15
  by_cases h16 : x = 16
  · subst h16
    go_enter Tryz.func65, Tryz.ntmps65
    go_wp2
    refine bodyPost_ret (v := fldV (fld 16)) (by simp [results, Tryz.f65, go_sem, fldV, fld]) rfl ?_
    exact ⟨rfl, by repeat (first | exact Below.refl _ _ | refine Below.setCell ?_ (Nat.le_refl _) _ | refine Below.alloc ?_ (Nat.le_refl _) _)⟩
  have k16 : (x == 16) = false := by simpa using h16
  have e : fld x = ⟨true, true, true, false, decide (21 ≤ x) && decide (x ≤ 29)⟩ := by
    unfold fld
    rw [if_neg h1, if_neg h9, if_neg h10, if_neg h2, if_neg h3, if_neg h4, if_neg h5, if_neg h6, if_neg h7, if_neg h8, if_neg h11, if_neg h12, if_neg h17, if_neg h13, if_neg h14, if_neg h15, if_neg h16]
  rw [e]
  clear e h1 h9 h10 h2 h3 h4 h5 h6 h7 h8 h11 h12 h17 h13 h14 h15 h16
  by_cases g1 : 21 ≤ x
  · by_cases g2 : x ≤ 29
    · rw [show (decide (21 ≤ x) && decide (x ≤ 29)) = true by simp [g1, g2]]
      go_enter Tryz.func65, Tryz.ntmps65
      go_wp2
      refine bodyPost_ret (v := fldV ⟨true, true, true, false, true⟩) (by simp [results, Tryz.f65, go_sem, fldV]) rfl ?_
      exact ⟨rfl, by repeat (first | exact Below.refl _ _ | refine Below.setCell ?_ (Nat.le_refl _) _ | refine Below.alloc ?_ (Nat.le_refl _) _)⟩
    · rw [show (decide (21 ≤ x) && decide (x ≤ 29)) = false by simp [g1, g2]]
      go_enter Tryz.func65, Tryz.ntmps65
      go_wp2
      refine bodyPost_ret (v := fldV ⟨true, true, true, false, false⟩) (by simp [results, Tryz.f65, go_sem, fldV]) rfl ?_
      exact ⟨rfl, by repeat (first | exact Below.refl _ _ | refine Below.setCell ?_ (Nat.le_refl _) _ | refine Below.alloc ?_ (Nat.le_refl _) _)⟩
  · rw [show (decide (21 ≤ x) && decide (x ≤ 29)) = false by simp [g1]]
    go_enter Tryz.func65, Tryz.ntmps65
    go_wp2
    refine bodyPost_ret (v := fldV ⟨true, true, true, false, false⟩) (by simp [results, Tryz.f65, go_sem, fldV]) rfl ?_
    exact ⟨rfl, by repeat (first | exact Below.refl _ _ | refine Below.setCell ?_ (Nat.le_refl _) _ | refine Below.alloc ?_ (Nat.le_refl _) _)⟩
end Go.Proofs.YthfeojjfehbgjaaGreatDoor.mac
namespace Go.Proofs.YthfeojjfehbgjaaGreatDoor.mac
open Go.RowKit
set_option linter.unusedVariables false
set_option linter.unusedSimpArgs false
set_option maxRecDepth 100000
def insV (o : Ins) : Value := .agg #[.int .i64 o.op, .int .i64 o.a, .int .i64 o.b, .int .i64 o.c, .int .i64 o.n]
def insC (o : Ins) : List Value := [.int .i64 o.op, .int .i64 o.a, .int .i64 o.b, .int .i64 o.c, .int .i64 o.n]
set_option maxHeartbeats 4000000 in
theorem oHas (o : Ins) (w : World) :
    Calls Tryz.prog 38 #[insV o] w fun e w' => e = .returned (.bool (hasB o)) ∧ Below w.heap.size w w' := by
  have c55 : Tryz.prog.cellsOf 115 = 4 := by kernel_rfl
  have c46 : Tryz.prog.cellsOf 55 = 5 := by kernel_rfl
  obtain ⟨op, a, b, c, n⟩ := o
  unfold insV hasB chkB
  dsimp only
  generalize hf : fld op = f
  obtain ⟨fa, fb, fc, fn, one⟩ := f
  dsimp only
  have hF := oFields op (w.alloc (.cells #[.int .i64 op, .int .i64 a, .int .i64 b, .int .i64 c, .int .i64 n] 55))
  rw [hf] at hF
  have hbx := BoxC.new w #[.int .i64 op, .int .i64 a, .int .i64 b, .int .i64 c, .int .i64 n] 55
  have hB1 : Below w.heap.size w (w.alloc (.cells #[.int .i64 op, .int .i64 a, .int .i64 b, .int .i64 c, .int .i64 n] 55)) := (Below.refl _ _).alloc (Nat.le_refl _) _
  by_cases h10 : op = 10
  · by_cases hn : n < 1
    · rw [show (decide (op = 10) && (decide (n < 1) || decide (64 < n))) = true by simp [h10, hn], if_pos rfl]
      have k10 : (op == 10) = true := by simpa using h10
      clear h10
      go_enter Tryz.func38, Tryz.ntmps38
      go_wp2_with first
        | (go_at_call 65; refine hF.mono ?_; unfold fldV; rintro e w2 ⟨rfl, hb2⟩; have q := hbx.below hb2; have y0 := q.cell 0 rfl; have y1 := q.cell 1 rfl; have y2 := q.cell 2 rfl; have y3 := q.cell 3 rfl; have y4 := q.cell 4 rfl; have hlt := q.lt; have hB2 := hB1.trans (hb2.mono (by simp)); clear q hb2)
        | (go_at_call 66; refine (oReg _ _ _).mono ?_; rintro e w3 ⟨rfl, hw⟩; obtain rfl := hw.symm)
      go_ret
      exact ⟨by simp [*], by repeat (first | exact hB2 | refine Below.setCell ?_ (Nat.le_of_lt hlt) _ | refine Below.alloc ?_ (Nat.le_of_lt hlt) _)⟩
    · by_cases hn2 : 64 < n
      · rw [show (decide (op = 10) && (decide (n < 1) || decide (64 < n))) = true by simp [h10, hn2], if_pos rfl]
        have k10 : (op == 10) = true := by simpa using h10
        clear h10
        go_enter Tryz.func38, Tryz.ntmps38
        go_wp2_with first
          | (go_at_call 65; refine hF.mono ?_; unfold fldV; rintro e w2 ⟨rfl, hb2⟩; have q := hbx.below hb2; have y0 := q.cell 0 rfl; have y1 := q.cell 1 rfl; have y2 := q.cell 2 rfl; have y3 := q.cell 3 rfl; have y4 := q.cell 4 rfl; have hlt := q.lt; have hB2 := hB1.trans (hb2.mono (by simp)); clear q hb2)
          | (go_at_call 66; refine (oReg _ _ _).mono ?_; rintro e w3 ⟨rfl, hw⟩; obtain rfl := hw.symm)
        go_ret
        exact ⟨by simp [*], by repeat (first | exact hB2 | refine Below.setCell ?_ (Nat.le_of_lt hlt) _ | refine Below.alloc ?_ (Nat.le_of_lt hlt) _)⟩
      · rw [show (decide (op = 10) && (decide (n < 1) || decide (64 < n))) = false by simp [h10, hn, hn2], if_neg (by simp)]
        have k10 : (op == 10) = true := by simpa using h10
        clear h10
        cases one with
        | false =>
          go_enter Tryz.func38, Tryz.ntmps38
          go_wp2_with first
            | (go_at_call 65; refine hF.mono ?_; unfold fldV; rintro e w2 ⟨rfl, hb2⟩; have q := hbx.below hb2; have y0 := q.cell 0 rfl; have y1 := q.cell 1 rfl; have y2 := q.cell 2 rfl; have y3 := q.cell 3 rfl; have y4 := q.cell 4 rfl; have hlt := q.lt; have hB2 := hB1.trans (hb2.mono (by simp)); clear q hb2)
            | (go_at_call 66; refine (oReg _ _ _).mono ?_; rintro e w3 ⟨rfl, hw⟩; obtain rfl := hw.symm)
          go_ret
          exact ⟨by simp [*], by repeat (first | exact hB2 | refine Below.setCell ?_ (Nat.le_of_lt hlt) _ | refine Below.alloc ?_ (Nat.le_of_lt hlt) _)⟩
        | true =>
          cases hA : regB a fa with
          | false =>
            go_enter Tryz.func38, Tryz.ntmps38
            go_wp2_with first
              | (go_at_call 65; refine hF.mono ?_; unfold fldV; rintro e w2 ⟨rfl, hb2⟩; have q := hbx.below hb2; have y0 := q.cell 0 rfl; have y1 := q.cell 1 rfl; have y2 := q.cell 2 rfl; have y3 := q.cell 3 rfl; have y4 := q.cell 4 rfl; have hlt := q.lt; have hB2 := hB1.trans (hb2.mono (by simp)); clear q hb2)
              | (go_at_call 66; refine (oReg _ _ _).mono ?_; rintro e w3 ⟨rfl, hw⟩; obtain rfl := hw.symm)
            go_ret
            exact ⟨by simp [*], by repeat (first | exact hB2 | refine Below.setCell ?_ (Nat.le_of_lt hlt) _ | refine Below.alloc ?_ (Nat.le_of_lt hlt) _)⟩
          | true =>
            cases hBb : regB b fb with
            | false =>
              go_enter Tryz.func38, Tryz.ntmps38
              go_wp2_with first
                | (go_at_call 65; refine hF.mono ?_; unfold fldV; rintro e w2 ⟨rfl, hb2⟩; have q := hbx.below hb2; have y0 := q.cell 0 rfl; have y1 := q.cell 1 rfl; have y2 := q.cell 2 rfl; have y3 := q.cell 3 rfl; have y4 := q.cell 4 rfl; have hlt := q.lt; have hB2 := hB1.trans (hb2.mono (by simp)); clear q hb2)
                | (go_at_call 66; refine (oReg _ _ _).mono ?_; rintro e w3 ⟨rfl, hw⟩; obtain rfl := hw.symm)
              go_ret
              exact ⟨by simp [*], by repeat (first | exact hB2 | refine Below.setCell ?_ (Nat.le_of_lt hlt) _ | refine Below.alloc ?_ (Nat.le_of_lt hlt) _)⟩
            | true =>
              cases hC : regB c fc with
              | false =>
                go_enter Tryz.func38, Tryz.ntmps38
                go_wp2_with first
                  | (go_at_call 65; refine hF.mono ?_; unfold fldV; rintro e w2 ⟨rfl, hb2⟩; have q := hbx.below hb2; have y0 := q.cell 0 rfl; have y1 := q.cell 1 rfl; have y2 := q.cell 2 rfl; have y3 := q.cell 3 rfl; have y4 := q.cell 4 rfl; have hlt := q.lt; have hB2 := hB1.trans (hb2.mono (by simp)); clear q hb2)
                  | (go_at_call 66; refine (oReg _ _ _).mono ?_; rintro e w3 ⟨rfl, hw⟩; obtain rfl := hw.symm)
                go_ret
                exact ⟨by simp [*], by repeat (first | exact hB2 | refine Below.setCell ?_ (Nat.le_of_lt hlt) _ | refine Below.alloc ?_ (Nat.le_of_lt hlt) _)⟩
              | true =>
                cases fn with
                | true =>
                  go_enter Tryz.func38, Tryz.ntmps38
                  go_wp2_with first
                    | (go_at_call 65; refine hF.mono ?_; unfold fldV; rintro e w2 ⟨rfl, hb2⟩; have q := hbx.below hb2; have y0 := q.cell 0 rfl; have y1 := q.cell 1 rfl; have y2 := q.cell 2 rfl; have y3 := q.cell 3 rfl; have y4 := q.cell 4 rfl; have hlt := q.lt; have hB2 := hB1.trans (hb2.mono (by simp)); clear q hb2)
                    | (go_at_call 66; refine (oReg _ _ _).mono ?_; rintro e w3 ⟨rfl, hw⟩; obtain rfl := hw.symm)
                  go_ret
                  exact ⟨by simp [*], by repeat (first | exact hB2 | refine Below.setCell ?_ (Nat.le_of_lt hlt) _ | refine Below.alloc ?_ (Nat.le_of_lt hlt) _)⟩
                | false =>
                  by_cases h0 : n = 0
                  · skip
                    exact absurd h0 (by omega)
                  · have k0 : (n == 0) = false := by simpa using h0
                    go_enter Tryz.func38, Tryz.ntmps38
                    go_wp2_with first
                      | (go_at_call 65; refine hF.mono ?_; unfold fldV; rintro e w2 ⟨rfl, hb2⟩; have q := hbx.below hb2; have y0 := q.cell 0 rfl; have y1 := q.cell 1 rfl; have y2 := q.cell 2 rfl; have y3 := q.cell 3 rfl; have y4 := q.cell 4 rfl; have hlt := q.lt; have hB2 := hB1.trans (hb2.mono (by simp)); clear q hb2)
                      | (go_at_call 66; refine (oReg _ _ _).mono ?_; rintro e w3 ⟨rfl, hw⟩; obtain rfl := hw.symm)
                    go_ret
                    exact ⟨by simp [*], by repeat (first | exact hB2 | refine Below.setCell ?_ (Nat.le_of_lt hlt) _ | refine Below.alloc ?_ (Nat.le_of_lt hlt) _)⟩
  · rw [show (decide (op = 10) && (decide (n < 1) || decide (64 < n))) = false by simp [h10], if_neg (by simp)]
    have k10 : (op == 10) = false := by simpa using h10
    clear h10
    cases one with
    | false =>
      go_enter Tryz.func38, Tryz.ntmps38
      go_wp2_with first
        | (go_at_call 65; refine hF.mono ?_; unfold fldV; rintro e w2 ⟨rfl, hb2⟩; have q := hbx.below hb2; have y0 := q.cell 0 rfl; have y1 := q.cell 1 rfl; have y2 := q.cell 2 rfl; have y3 := q.cell 3 rfl; have y4 := q.cell 4 rfl; have hlt := q.lt; have hB2 := hB1.trans (hb2.mono (by simp)); clear q hb2)
        | (go_at_call 66; refine (oReg _ _ _).mono ?_; rintro e w3 ⟨rfl, hw⟩; obtain rfl := hw.symm)
      go_ret
      exact ⟨by simp [*], by repeat (first | exact hB2 | refine Below.setCell ?_ (Nat.le_of_lt hlt) _ | refine Below.alloc ?_ (Nat.le_of_lt hlt) _)⟩
    | true =>
      cases hA : regB a fa with
      | false =>
        go_enter Tryz.func38, Tryz.ntmps38
        go_wp2_with first
          | (go_at_call 65; refine hF.mono ?_; unfold fldV; rintro e w2 ⟨rfl, hb2⟩; have q := hbx.below hb2; have y0 := q.cell 0 rfl; have y1 := q.cell 1 rfl; have y2 := q.cell 2 rfl; have y3 := q.cell 3 rfl; have y4 := q.cell 4 rfl; have hlt := q.lt; have hB2 := hB1.trans (hb2.mono (by simp)); clear q hb2)
          | (go_at_call 66; refine (oReg _ _ _).mono ?_; rintro e w3 ⟨rfl, hw⟩; obtain rfl := hw.symm)
        go_ret
        exact ⟨by simp [*], by repeat (first | exact hB2 | refine Below.setCell ?_ (Nat.le_of_lt hlt) _ | refine Below.alloc ?_ (Nat.le_of_lt hlt) _)⟩
      | true =>
        cases hBb : regB b fb with
        | false =>
          go_enter Tryz.func38, Tryz.ntmps38
          go_wp2_with first
            | (go_at_call 65; refine hF.mono ?_; unfold fldV; rintro e w2 ⟨rfl, hb2⟩; have q := hbx.below hb2; have y0 := q.cell 0 rfl; have y1 := q.cell 1 rfl; have y2 := q.cell 2 rfl; have y3 := q.cell 3 rfl; have y4 := q.cell 4 rfl; have hlt := q.lt; have hB2 := hB1.trans (hb2.mono (by simp)); clear q hb2)
            | (go_at_call 66; refine (oReg _ _ _).mono ?_; rintro e w3 ⟨rfl, hw⟩; obtain rfl := hw.symm)
          go_ret
          exact ⟨by simp [*], by repeat (first | exact hB2 | refine Below.setCell ?_ (Nat.le_of_lt hlt) _ | refine Below.alloc ?_ (Nat.le_of_lt hlt) _)⟩
        | true =>
          cases hC : regB c fc with
          | false =>
            go_enter Tryz.func38, Tryz.ntmps38
            go_wp2_with first
              | (go_at_call 65; refine hF.mono ?_; unfold fldV; rintro e w2 ⟨rfl, hb2⟩; have q := hbx.below hb2; have y0 := q.cell 0 rfl; have y1 := q.cell 1 rfl; have y2 := q.cell 2 rfl; have y3 := q.cell 3 rfl; have y4 := q.cell 4 rfl; have hlt := q.lt; have hB2 := hB1.trans (hb2.mono (by simp)); clear q hb2)
              | (go_at_call 66; refine (oReg _ _ _).mono ?_; rintro e w3 ⟨rfl, hw⟩; obtain rfl := hw.symm)
            go_ret
            exact ⟨by simp [*], by repeat (first | exact hB2 | refine Below.setCell ?_ (Nat.le_of_lt hlt) _ | refine Below.alloc ?_ (Nat.le_of_lt hlt) _)⟩
          | true =>
            cases fn with
            | true =>
              go_enter Tryz.func38, Tryz.ntmps38
              go_wp2_with first
                | (go_at_call 65; refine hF.mono ?_; unfold fldV; rintro e w2 ⟨rfl, hb2⟩; have q := hbx.below hb2; have y0 := q.cell 0 rfl; have y1 := q.cell 1 rfl; have y2 := q.cell 2 rfl; have y3 := q.cell 3 rfl; have y4 := q.cell 4 rfl; have hlt := q.lt; have hB2 := hB1.trans (hb2.mono (by simp)); clear q hb2)
                | (go_at_call 66; refine (oReg _ _ _).mono ?_; rintro e w3 ⟨rfl, hw⟩; obtain rfl := hw.symm)
              go_ret
              exact ⟨by simp [*], by repeat (first | exact hB2 | refine Below.setCell ?_ (Nat.le_of_lt hlt) _ | refine Below.alloc ?_ (Nat.le_of_lt hlt) _)⟩
            | false =>
              by_cases h0 : n = 0
              · skip
                subst h0
                go_enter Tryz.func38, Tryz.ntmps38
                go_wp2_with first
                  | (go_at_call 65; refine hF.mono ?_; unfold fldV; rintro e w2 ⟨rfl, hb2⟩; have q := hbx.below hb2; have y0 := q.cell 0 rfl; have y1 := q.cell 1 rfl; have y2 := q.cell 2 rfl; have y3 := q.cell 3 rfl; have y4 := q.cell 4 rfl; have hlt := q.lt; have hB2 := hB1.trans (hb2.mono (by simp)); clear q hb2)
                  | (go_at_call 66; refine (oReg _ _ _).mono ?_; rintro e w3 ⟨rfl, hw⟩; obtain rfl := hw.symm)
                go_ret
                exact ⟨by simp [*], by repeat (first | exact hB2 | refine Below.setCell ?_ (Nat.le_of_lt hlt) _ | refine Below.alloc ?_ (Nat.le_of_lt hlt) _)⟩
              · have k0 : (n == 0) = false := by simpa using h0
                go_enter Tryz.func38, Tryz.ntmps38
                go_wp2_with first
                  | (go_at_call 65; refine hF.mono ?_; unfold fldV; rintro e w2 ⟨rfl, hb2⟩; have q := hbx.below hb2; have y0 := q.cell 0 rfl; have y1 := q.cell 1 rfl; have y2 := q.cell 2 rfl; have y3 := q.cell 3 rfl; have y4 := q.cell 4 rfl; have hlt := q.lt; have hB2 := hB1.trans (hb2.mono (by simp)); clear q hb2)
                  | (go_at_call 66; refine (oReg _ _ _).mono ?_; rintro e w3 ⟨rfl, hw⟩; obtain rfl := hw.symm)
                go_ret
                exact ⟨by simp [*], by repeat (first | exact hB2 | refine Below.setCell ?_ (Nat.le_of_lt hlt) _ | refine Below.alloc ?_ (Nat.le_of_lt hlt) _)⟩
theorem oHas' (op a b c n : Int) (w : World) :
    Calls Tryz.prog 38 #[.agg #[.int .i64 op, .int .i64 a, .int .i64 b, .int .i64 c, .int .i64 n]] w fun e w' => e = .returned (.bool (hasB ⟨op, a, b, c, n⟩)) ∧ Below w.heap.size w w' := oHas ⟨op, a, b, c, n⟩ w
end Go.Proofs.YthfeojjfehbgjaaGreatDoor.mac
