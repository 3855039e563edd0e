/- The law MachineLonger: what two runs have in common, as plain functions. -/
import Derived.Test.YtcfibghjekimkaaMacLaw
namespace Go.Proofs.Ytcfibghjekimkaa.mac
open Go.RowKit
set_option linter.unusedVariables false
set_option linter.unusedSimpArgs false
set_option maxRecDepth 100000
theorem newC_same {nl nh f m : Nat} (hf : f ≤ 90000) (hm : m ≤ 90000) : newC nl nh f 90000 = newC nl nh m 90000 := by
  unfold newC
  rw [if_neg (show ¬ ((f : Int) < 0 ∨ (90000 : Int) < f) by omega), if_neg (show ¬ ((m : Int) < 0 ∨ (90000 : Int) < m) by omega)]
theorem runC_same {code : List Ins} {lo hi : Int} {nl nh f m : Nat} (hf : f ≤ 90000) (hm : m ≤ 90000) : runC code lo hi nl nh f = runC code lo hi nl nh m := by
  unfold runC
  rw [newC_same hf hm]
theorem len_small {iL iH : List Int} {code : List Ins} : ∀ (k : Nat) (s : St), (runF iL iH code k s).2.steps ≤ s.steps + k
  | 0, s => by unfold runF; split <;> exact Nat.le_refl _
  | k + 1, s => by
    by_cases h : s.next = code.length
    · rw [runF_end _ _ _ _ h]; exact Nat.le_add_right _ _
    · have hg := doF_goes iL iH (code.getD s.next ⟨0, 0, 0, 0, 0⟩) s.tick
      cases hd : doF iL iH (code.getD s.next ⟨0, 0, 0, 0, 0⟩) s.tick with
      | mk e s' =>
        rw [hd] at hg
        have e1 : s'.steps = s.steps + 1 := hg.1.steps
        cases e with
        | some e => rw [runF_some h hd]; show s'.steps ≤ _; omega
        | none =>
          rw [runF_none h hd]
          have := len_small (iL := iL) (iH := iH) (code := code) k s'
          omega
def G1 (s : St) (r : Option Nat × St) : Prop := r.2.oL.length ≤ s.oL.length + 1 ∧ r.2.oH.length ≤ s.oH.length + 1
theorem g1_ite {s : St} {c : Prop} [Decidable c] {a b : Option Nat × St} (ha : G1 s a) (hb : G1 s b) : G1 s (if c then a else b) := by
  by_cases h : c
  · rw [if_pos h]; exact ha
  · rw [if_neg h]; exact hb
theorem doF_g1 (iL iH : List Int) (o : Ins) (s : St) : G1 s (doF iL iH o s) := by
  unfold doF
  repeat' apply g1_ite
  all_goals first
    | exact ⟨Nat.le_succ _, Nat.le_succ _⟩
    | (cases opF (o.op - 20) (rd s.regs o.b) (rd s.regs o.c) <;> exact ⟨Nat.le_succ _, Nat.le_succ _⟩)
    | exact ⟨by simp, Nat.le_succ _⟩
    | exact ⟨Nat.le_succ _, by simp⟩
/-- what comes out is no more than was done -/
theorem out_small {iL iH : List Int} {code : List Ins} : ∀ (k : Nat) (s : St), (runF iL iH code k s).2.oL.length ≤ s.oL.length + k ∧ (runF iL iH code k s).2.oH.length ≤ s.oH.length + k
  | 0, s => by unfold runF; split <;> exact ⟨Nat.le_refl _, Nat.le_refl _⟩
  | k + 1, s => by
    by_cases h : s.next = code.length
    · rw [runF_end _ _ _ _ h]; exact ⟨Nat.le_add_right _ _, Nat.le_add_right _ _⟩
    · have hg := doF_g1 iL iH (code.getD s.next ⟨0, 0, 0, 0, 0⟩) s.tick
      cases hd : doF iL iH (code.getD s.next ⟨0, 0, 0, 0, 0⟩) s.tick with
      | mk e s' =>
        rw [hd] at hg
        have e1 : s'.oL.length ≤ s.oL.length + 1 := hg.1
        have e2 : s'.oH.length ≤ s.oH.length + 1 := hg.2
        cases e with
        | some e => rw [runF_some h hd]; exact ⟨by show s'.oL.length ≤ _; omega, by show s'.oH.length ≤ _; omega⟩
        | none =>
          rw [runF_none h hd]
          have := out_small (iL := iL) (iH := iH) (code := code) k s'
          omega
/-- how two runs of one machine hang together -/
theorem two_runs (iL iH : List Int) (code : List Ins) {f m : Nat} (h : f ≤ m) (s : St) : ((runF iL iH code f s).1 ≠ 0 → runF iL iH code m s = runF iL iH code f s) ∧ ((runF iL iH code f s).1 = 0 → (runF iL iH code f s).2.steps = s.steps + f ∧ Grew (runF iL iH code f s).2 (runF iL iH code m s).2) := by
  obtain ⟨k, rfl⟩ : ∃ k, m = f + k := ⟨m - f, by omega⟩
  obtain ⟨h1, h2⟩ := runF_more iL iH code f k s
  refine ⟨h1, fun h0 => ?_⟩
  obtain ⟨h3, h4⟩ := h2 h0
  exact ⟨h3, by rw [h4]; exact runF_grew _ _ _ _ _⟩
theorem mem_len (iL iH : List Int) (code : List Ins) (k l h : Nat) : (runF iL iH code k (s0 l h)).2.lw.length = l ∧ (runF iL iH code k (s0 l h)).2.hw.length = h := by
  have := runF_grew iL iH code k (s0 l h)
  exact ⟨by rw [this.lw]; simp [s0], by rw [this.hw]; simp [s0]⟩
end Go.Proofs.Ytcfibghjekimkaa.mac
