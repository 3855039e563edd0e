/- What a machine does, as plain functions: which orders may be, what each does, how a run ends; with more fuel it goes on as with less. -/
import Derived.WalkKit
namespace Go.Proofs.YthfeojjfehbgjaaGreatDoor.mac
open Go.RowKit
set_option linter.unusedVariables false
/-- an order -/
structure Ins where
  op : Int
  a : Int
  b : Int
  c : Int
  n : Int
/-- which fields it names; whether there is such an order -/
structure Fld where
  a : Bool
  b : Bool
  c : Bool
  n : Bool
  one : Bool
def fld (op : Int) : Fld :=
  if op = 1 then ⟨true, false, false, true, true⟩
  else if op = 9 then ⟨true, false, false, true, true⟩
  else if op = 10 then ⟨true, false, false, true, true⟩
  else if op = 2 then ⟨true, true, false, false, true⟩
  else if op = 3 then ⟨true, true, false, true, true⟩
  else if op = 4 then ⟨true, true, false, true, true⟩
  else if op = 5 then ⟨true, true, false, true, true⟩
  else if op = 6 then ⟨true, true, false, true, true⟩
  else if op = 7 then ⟨true, true, false, true, true⟩
  else if op = 8 then ⟨false, false, false, true, true⟩
  else if op = 11 then ⟨false, false, false, true, true⟩
  else if op = 12 then ⟨false, false, false, false, true⟩
  else if op = 17 then ⟨false, false, false, false, true⟩
  else if op = 13 then ⟨true, false, false, false, true⟩
  else if op = 14 then ⟨true, false, false, false, true⟩
  else if op = 15 then ⟨true, false, false, false, true⟩
  else if op = 16 then ⟨true, false, false, false, true⟩
  else ⟨true, true, true, false, decide (21 ≤ op) && decide (op ≤ 29)⟩
def regB (x : Int) (named : Bool) : Bool := if named = true then decide (0 ≤ x) && decide (x ≤ 7) else decide (x = 0)
def chkB (o : Ins) : Bool := decide (o.op = 10) && (decide (o.n < 1) || decide (64 < o.n))
def hasB (o : Ins) : Bool := if chkB o = true then false else (((((fld o.op).one && regB o.a (fld o.op).a) && regB o.b (fld o.op).b) && regB o.c (fld o.op).c) && ((fld o.op).n || decide (o.n = 0)))
def goB (op : Int) : Bool := (decide (op = 8) || decide (op = 9)) || decide (op = 11)
def belB (n : Int) (many : Nat) : Bool := decide (0 ≤ n) && decide (n < many)
def insB (many : Nat) (o : Ins) : Bool := hasB o && !(goB o.op && !belB o.n many)
def upB (x m : Int) : Bool := decide (0 ≤ x) && decide (x ≤ m)
def headB (many : Nat) (lo hi : Int) : Bool := !(((decide ((many : Int) < 1) || decide (20000 < (many : Int))) || !upB lo 20000) || !upB hi 20000)
def mayB (code : List Ins) (lo hi : Int) : Bool := headB code.length lo hi && code.all (insB code.length)
theorem regB_le {x : Int} {f : Bool} (h : regB x f = true) : 0 ≤ x ∧ x ≤ 7 := by
  cases f <;> simp [regB] at h <;> omega
theorem insB_ok {many : Nat} {o : Ins} (h : insB many o = true) : (0 ≤ o.a ∧ o.a ≤ 7) ∧ (0 ≤ o.b ∧ o.b ≤ 7) ∧ (0 ≤ o.c ∧ o.c ≤ 7) ∧ (o.op = 8 ∨ o.op = 9 ∨ o.op = 11 → 0 ≤ o.n ∧ o.n < many) := by
  unfold insB at h
  rw [Bool.and_eq_true] at h
  obtain ⟨h1, h2⟩ := h
  unfold hasB at h1
  split at h1
  · cases h1
  · simp only [Bool.and_eq_true] at h1
    refine ⟨regB_le h1.1.1.1.2, regB_le h1.1.1.2, regB_le h1.1.2, fun h3 => ?_⟩
    have h4 : goB o.op = true := by
      unfold goB
      rcases h3 with h3 | h3 | h3 <;> simp [h3]
    rw [h4] at h2
    simp [belB] at h2
    exact h2
/-- a machine's state -/
structure St where
  oL : List Int
  oH : List Int
  uL : Nat
  uH : Nat
  steps : Nat
  next : Nat
  regs : List Int
  lw : List Int
  hw : List Int
  backs : List Nat
def rd (l : List Int) (i : Int) : Int := l.getD i.toNat 0
def St.setR (s : St) (i x : Int) : St := { s with regs := s.regs.set i.toNat x }
/-- is there such a word? -/
def there (l : List Int) (i : Int) : Bool := decide (0 ≤ i) && decide (i < (l.length : Int))
/-- what num.Op answers -/
def opF (o a b : Int) : Option Int :=
  if o = 1 then some (wrap64 (a + b))
  else if o = 2 then some (wrap64 (a - b))
  else if o = 3 then some (wrap64 (a * b))
  else if o = 4 then (if b = 0 then none else some (wrap64 (a.tdiv b)))
  else if o = 5 then (if b = 0 then none else some (a.tmod b))
  else if o = 6 then some (bits BinOp.and IntKind.i64 a b)
  else if o = 7 then some (bits BinOp.or IntKind.i64 a b)
  else if o = 8 then some (if a < b then 1 else 0)
  else if o = 9 then some (if a = b then 1 else 0)
  else none
/-- an order is done: how the run ends there, if it does -/
def doF (iL iH : List Int) (o : Ins) (s : St) : Option Nat × St :=
  if o.op = 1 then (none, s.setR o.a o.n)
  else if o.op = 2 then (none, s.setR o.a (rd s.regs o.b))
  else if o.op = 3 then (none, s.setR o.a (wrap64 (rd s.regs o.b + o.n)))
  else if o.op = 4 then (if there s.lw (wrap64 (rd s.regs o.b + o.n)) then (none, s.setR o.a (rd s.lw (wrap64 (rd s.regs o.b + o.n)))) else (some 6, s))
  else if o.op = 5 then (if there s.hw (wrap64 (rd s.regs o.b + o.n)) then (none, s.setR o.a (rd s.hw (wrap64 (rd s.regs o.b + o.n)))) else (some 6, s))
  else if o.op = 6 then (if there s.lw (wrap64 (rd s.regs o.b + o.n)) then (none, { s with lw := s.lw.set (wrap64 (rd s.regs o.b + o.n)).toNat (rd s.regs o.a) }) else (some 6, s))
  else if o.op = 7 then (if there s.hw (wrap64 (rd s.regs o.b + o.n)) then (none, { s with hw := s.hw.set (wrap64 (rd s.regs o.b + o.n)).toNat (rd s.regs o.a) }) else (some 6, s))
  else if o.op = 8 then (none, { s with next := o.n.toNat })
  else if o.op = 9 then (if rd s.regs o.a = 0 then (none, { s with next := o.n.toNat }) else (none, s))
  else if o.op = 10 then (if rd s.regs o.a < 0 ∨ o.n ≤ rd s.regs o.a then (some 3, s) else (none, s))
  else if o.op = 11 then (if s.backs.length = 30 then (some 5, s) else (none, { s with backs := s.backs ++ [s.next], next := o.n.toNat }))
  else if o.op = 12 then (if s.backs.length = 0 then (some 6, s) else (none, { s with next := s.backs.getLastD 0, backs := s.backs.dropLast }))
  else if o.op = 13 then (none, { s with oL := s.oL ++ [rd s.regs o.a] })
  else if o.op = 14 then (none, { s with oH := s.oH ++ [rd s.regs o.a] })
  else if o.op = 15 then (if s.uL = iL.length then (some 4, s) else (none, { s with uL := s.uL + 1 }.setR o.a (iL.getD s.uL 0)))
  else if o.op = 16 then (if s.uH = iH.length then (some 4, s) else (none, { s with uH := s.uH + 1 }.setR o.a (iH.getD s.uH 0)))
  else if o.op = 17 then (some 1, s)
  else match opF (o.op - 20) (rd s.regs o.b) (rd s.regs o.c) with
    | none => (some 2, s)
    | some x => (none, s.setR o.a x)
def St.tick (s : St) : St := { s with steps := s.steps + 1, next := s.next + 1 }
/-- orders are done, with so much fuel -/
def runF (iL iH : List Int) (code : List Ins) : Nat → St → Nat × St
  | 0, s => if s.next = code.length then (6, s) else (0, s)
  | k + 1, s => if s.next = code.length then (6, s) else match doF iL iH (code.getD s.next ⟨0, 0, 0, 0, 0⟩) s.tick with
    | (some e, s') => (e, s')
    | (none, s') => runF iL iH code k s'
/-- what an order leaves as it was, or lets grow -/
structure Goes (s s' : St) : Prop where
  steps : s'.steps = s.steps
  oL : s.oL <+: s'.oL
  oH : s.oH <+: s'.oH
  lw : s'.lw.length = s.lw.length
  hw : s'.hw.length = s.hw.length
theorem Goes.refl (s : St) : Goes s s := ⟨rfl, List.prefix_rfl, List.prefix_rfl, rfl, rfl⟩
def GG (s : St) (r : Option Nat × St) : Prop := Goes s r.2 ∧ r.1 ≠ some 0
theorem gg_ite {s : St} {c : Prop} [Decidable c] {a b : Option Nat × St} (ha : GG s a) (hb : GG s b) : GG s (if c then a else b) := by
  by_cases h : c
  · rw [if_pos h]; exact ha
  · rw [if_neg h]; exact hb
theorem doF_goes (iL iH : List Int) (o : Ins) (s : St) : GG s (doF iL iH o s) := by
  unfold doF
  repeat' apply gg_ite
  all_goals first
    | exact ⟨Goes.refl s, by simp⟩
    | (cases opF (o.op - 20) (rd s.regs o.b) (rd s.regs o.c) <;> exact ⟨⟨rfl, List.prefix_rfl, List.prefix_rfl, rfl, rfl⟩, by simp⟩)
    | exact ⟨⟨rfl, List.prefix_rfl, List.prefix_rfl, rfl, rfl⟩, by simp⟩
    | exact ⟨⟨rfl, List.prefix_rfl, List.prefix_rfl, by simp, rfl⟩, by simp⟩
    | exact ⟨⟨rfl, List.prefix_rfl, List.prefix_rfl, rfl, by simp⟩, by simp⟩
    | exact ⟨⟨rfl, List.prefix_append _ _, List.prefix_rfl, rfl, rfl⟩, by simp⟩
    | exact ⟨⟨rfl, List.prefix_rfl, List.prefix_append _ _, rfl, rfl⟩, by simp⟩
/-- a run only lets grow -/
structure Grew (s s' : St) : Prop where
  steps : s.steps ≤ s'.steps
  oL : s.oL <+: s'.oL
  oH : s.oH <+: s'.oH
  lw : s'.lw.length = s.lw.length
  hw : s'.hw.length = s.hw.length
theorem Grew.refl (s : St) : Grew s s := ⟨Nat.le_refl _, List.prefix_rfl, List.prefix_rfl, rfl, rfl⟩
theorem Goes.grew {s s' s2 : St} (h : Goes s.tick s') (h2 : Grew s' s2) : Grew s s2 :=
  ⟨by have := h.steps; have := h2.steps; simp [St.tick] at *; omega, h.oL.trans h2.oL, h.oH.trans h2.oH, h2.lw.trans h.lw, h2.hw.trans h.hw⟩
theorem runF_grew (iL iH : List Int) (code : List Ins) : ∀ (k : Nat) (s : St), Grew s (runF iL iH code k s).2
  | 0, s => by unfold runF; split <;> exact Grew.refl s
  | k + 1, s => by
    unfold runF
    split
    · exact Grew.refl s
    · have h := (doF_goes iL iH (code.getD s.next ⟨0, 0, 0, 0, 0⟩) s.tick).1
      revert h
      split
      · rename_i e s' he
        intro h
        rw [he] at h
        exact h.grew (Grew.refl _)
      · rename_i s' he
        intro h
        rw [he] at h
        exact h.grew (runF_grew iL iH code k s')
theorem runF_end (iL iH : List Int) (code : List Ins) (s : St) (h : s.next = code.length) : ∀ k, runF iL iH code k s = (6, s)
  | 0 => by unfold runF; rw [if_pos h]
  | k + 1 => by unfold runF; rw [if_pos h]
theorem runF_some {iL iH : List Int} {code : List Ins} {s s' : St} {e : Nat} (h : ¬ s.next = code.length) (hd : doF iL iH (code.getD s.next ⟨0, 0, 0, 0, 0⟩) s.tick = (some e, s')) (k : Nat) : runF iL iH code (k + 1) s = (e, s') := by
  unfold runF
  rw [if_neg h, hd]
theorem runF_none {iL iH : List Int} {code : List Ins} {s s' : St} (h : ¬ s.next = code.length) (hd : doF iL iH (code.getD s.next ⟨0, 0, 0, 0, 0⟩) s.tick = (none, s')) (k : Nat) : runF iL iH code (k + 1) s = runF iL iH code k s' := by
  conv => lhs; unfold runF
  rw [if_neg h, hd]
/-- who has ended stays so; whose fuel was used up goes on -/
theorem runF_more (iL iH : List Int) (code : List Ins) : ∀ (k m : Nat) (s : St), ((runF iL iH code k s).1 ≠ 0 → runF iL iH code (k + m) s = runF iL iH code k s) ∧ ((runF iL iH code k s).1 = 0 → (runF iL iH code k s).2.steps = s.steps + k ∧ runF iL iH code (k + m) s = runF iL iH code m (runF iL iH code k s).2)
  | 0, m, s => by
    by_cases h : s.next = code.length
    · rw [runF_end iL iH code s h, runF_end iL iH code s h]
      exact ⟨fun _ => rfl, fun h0 => by simp at h0⟩
    · have e0 : runF iL iH code 0 s = (0, s) := by unfold runF; rw [if_neg h]
      rw [e0, Nat.zero_add]
      exact ⟨fun h0 => absurd rfl h0, fun _ => ⟨rfl, rfl⟩⟩
  | k + 1, m, s => by
    rw [Nat.add_right_comm]
    by_cases h : s.next = code.length
    · rw [runF_end iL iH code s h, runF_end iL iH code s h]
      exact ⟨fun _ => rfl, fun h0 => by simp at h0⟩
    · have hg := doF_goes iL iH (code.getD s.next ⟨0, 0, 0, 0, 0⟩) s.tick
      cases hd : doF iL iH (code.getD s.next ⟨0, 0, 0, 0, 0⟩) s.tick with
      | mk e s' =>
        rw [hd] at hg
        cases e with
        | some e =>
          rw [runF_some h hd, runF_some h hd]
          exact ⟨fun _ => rfl, fun h0 => absurd (by rw [show e = 0 from h0]) hg.2⟩
        | none =>
          rw [runF_none h hd, runF_none h hd]
          obtain ⟨h1, h2⟩ := runF_more iL iH code k m s'
          refine ⟨h1, fun h0 => ?_⟩
          obtain ⟨h3, h4⟩ := h2 h0
          refine ⟨?_, h4⟩
          have := hg.1.steps
          simp [St.tick] at this
          omega
/-- what always holds of a state -/
structure Inv (iL iH : List Int) (many : Nat) (s : St) : Prop where
  next : s.next ≤ many
  regs : s.regs.length = 8
  uL : s.uL ≤ iL.length
  uH : s.uH ≤ iH.length
  oL : s.oL.length ≤ s.steps
  oH : s.oH.length ≤ s.steps
  backs : s.backs.length ≤ 30
  back : ∀ b ∈ s.backs, b ≤ many
end Go.Proofs.YthfeojjfehbgjaaGreatDoor.mac
