/- What the reader's take answers: a contract. -/
import Derived.Test.YthfeojjfehbgjaaGreatDoorProg
import Derived.Test.YthfeojjfehbgjaaGreatDoorOGObjFr
import Derived.Test.YthfeojjfehbgjaaGreatDoorOGObjBack
import Derived.Outline
namespace Go.Proofs.YthfeojjfehbgjaaGreatDoor.obj
open Go.RowKit
open Go.Proofs.YthfeojjfehbgjaaGreatDoor.mac (BoxC grown_of_below)
set_option linter.unusedVariables false
set_option linter.unusedSimpArgs false
set_option maxRecDepth 100000
/-- bytes that lie in a row, not in the reader's box -/
def ByIn (w : World) (r : Nat) (a : Option Addr) (l : By) : Prop := l ≠ [] → ∃ g o, a = some ⟨g, o, none⟩ ∧ g < r ∧ ∀ i (h : i < l.length), w.cell? ⟨g, o + i, none⟩ = some (.int .u8 (l[i].toNat : Int))
/-- the reader: what is left -/
structure RS (w : World) (r : Nat) (l : By) : Prop where
  ex : ∃ a c, BoxC w r #[.slice a l.length c] 68 ∧ l.length ≤ c ∧ c ≤ 9223372036854775807 ∧ (a = none → c = 0) ∧ (∀ x, a = some x → ∃ g o, x = ⟨g, o, none⟩) ∧ ByIn w r a l
abbrev nilV : Value := .slice none 0 0
/-- all stays but the reader's box -/
abbrev FrR (r : Nat) (w w' : World) : Prop := Fr r nilV nilV w w'
theorem ByIn.fr {w w' : World} {r : Nat} {a : Option Addr} {l : By} (h : ByIn w r a l) (hf : FrR r w w') : ByIn w' r a l := fun hne => by
  obtain ⟨g, o, e, h1, hc⟩ := h hne
  have hlt : g < w.heap.size := World.block_lt_of_cell? w _ (hc 0 (by cases l with | nil => exact absurd rfl hne | cons x y => simp))
  exact ⟨g, o, e, h1, fun i hi => (World.cell?_of_block (a := ⟨g, o + i, none⟩) (hf.block g hlt (Nat.ne_of_lt h1) (by simp [nilV, Value.ownBlock]))).trans (hc i hi)⟩
/-- what is thrown where bytes are none's -/
def NOB : List PanicEntry := [{ v := .iface 65 (.agg #[]), recovered := false }]
/-- so many bytes are taken, if there are as many -/
def TakeE (r : Nat) (w : World) (l : By) (n : Nat) (e : Ending) (w' : World) : Prop :=
  FrR r w w' ∧ (if l.length < n then e = .panicked NOB else ∃ a c, e = .returned (.slice a n c) ∧ (∀ x, a = some x → ∃ g o, x = ⟨g, o, none⟩) ∧ ByIn w' r a (l.take n) ∧ RS w' r (l.drop n))
set_option maxHeartbeats 1000000 in
theorem oTake {w : World} {r : Nat} {l : By} (h : RS w r l) (n : Nat) (hn : n ≤ 9223372036854775807) :
    Calls Tryz.prog 104 #[.pointer (some ⟨r, 0, none⟩), .int .i64 n] w (TakeE r w l n) := by
  obtain ⟨a, c, hb, hlc, hcm, hnil, hsm, hby⟩ := h.ex
  have m0 := hb.cell 0 rfl
  have mf := hb.fz 0
  by_cases hlt : (l.length : Int) < (n : Int)
  · go_enter Tryz.func104, Tryz.ntmps104
    go_wp2
    exact ⟨rfl, Fr.refl _ _ _, by rw [if_pos (by omega)]; rfl⟩
  · cases a with
    | none =>
      obtain rfl := hnil rfl
      obtain rfl : l = [] := List.eq_nil_of_length_eq_zero (by omega)
      obtain rfl : n = 0 := by simpa using hlt
      go_enter Tryz.func104, Tryz.ntmps104
      go_wp2
      go_ret
      refine ⟨(Fr.refl _ _ _).set 0 _, ?_⟩
      rw [if_neg (by simp)]
      refine ⟨_, _, rfl, (fun x e => by cases e), fun hne => absurd rfl hne, ⟨none, 0, ?_, by simp, by simp, fun _ => rfl, (fun x e => by cases e), fun hne => absurd rfl hne⟩⟩
      have := hb.set 0 (.slice none 0 0)
      simpa using this
    | some x =>
      obtain ⟨g, o, rfl⟩ := hsm x rfl
      have hfin : ∀ (o2 c2 : Nat), (n < l.length → o2 = o + n) → l.length - n ≤ c2 → c2 ≤ 9223372036854775807 → TakeE r w l n (.returned (.slice (some ⟨g, o, none⟩) n c)) (w.setCell ⟨r, 0, none⟩ (.slice (some ⟨g, o2, none⟩) (l.length - n) c2)) := fun o2 c2 ho hc1 hc2 => by
        have hF : FrR r w (w.setCell ⟨r, 0, none⟩ (.slice (some ⟨g, o2, none⟩) (l.length - n) c2)) := (Fr.refl _ _ _).set 0 _
        refine ⟨hF, ?_⟩
        rw [if_neg (by omega)]
        have hby2 := hby.fr hF
        refine ⟨_, _, rfl, (fun x e => by cases e; exact ⟨g, o, rfl⟩), fun hne => ?_, ⟨some ⟨g, o2, none⟩, c2, ?_, by rw [List.length_drop]; exact hc1, hc2, (fun e => by cases e), (fun x e => by cases e; exact ⟨g, o2, rfl⟩), fun hne => ?_⟩⟩
        · obtain ⟨g1, o1, e, h1, hc⟩ := hby2 (by intro e; rw [e] at hne; simp at hne)
          cases e
          refine ⟨g, o, rfl, h1, fun i hi => ?_⟩
          rw [List.getElem_take]
          exact hc i (by rw [List.length_take] at hi; omega)
        · have := hb.set 0 (.slice (some ⟨g, o2, none⟩) (l.length - n) c2)
          rw [List.length_drop]
          simpa using this
        · have hlt2 : n < l.length := by
            rcases Nat.lt_or_ge n l.length with h | h
            · exact h
            · exact absurd (List.drop_eq_nil_of_le h) hne
          obtain rfl := ho hlt2
          obtain ⟨g1, o1, e, h1, hc⟩ := hby2 (by intro e; rw [e] at hlt2; simp at hlt2)
          cases e
          refine ⟨g, o + n, rfl, h1, fun i hi => ?_⟩
          rw [List.getElem_drop, Nat.add_assoc]
          exact hc (n + i) (by rw [List.length_drop] at hi; omega)
      clear hby
      go_enter Tryz.func104, Tryz.ntmps104
      go_wp2
      all_goals
        go_ret
        first
          | exact hfin _ _ (fun _ => rfl) (by omega) (by omega)
          | (have hcn : c = n := by omega
             rw [hcn] at hfin
             exact hfin _ 0 (fun h => by omega) (by omega) (by omega))
end Go.Proofs.YthfeojjfehbgjaaGreatDoor.obj
