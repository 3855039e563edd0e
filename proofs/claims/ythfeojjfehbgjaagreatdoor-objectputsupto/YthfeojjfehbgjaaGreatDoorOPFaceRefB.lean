/- What the reference's isLabel, Place and May answer: contracts. -/
import Derived.Test.YthfeojjfehbgjaaGreatDoorProg
import Derived.WalkKit
import Derived.WalkLawsBesides
import Derived.Outline
import Derived.WalkSmall
import Derived.BigQuiet
import Derived.Deep.QuietTactic
import Derived.Deep.RegionWith
import Derived.WalkSpells
import Derived.Laws.OwnMore
import Derived.Test.YthfeojjfehbgjaaGreatDoorOPFaceNameR
import Derived.Test.YthfeojjfehbgjaaGreatDoorOPFaceMem
namespace Go.Proofs.YthfeojjfehbgjaaGreatDoor.face
open Go.RowKit
open Go.Proofs.YthfeojjfehbgjaaGreatDoor.syn (isName eqS)
set_option linter.unusedVariables false
set_option linter.unusedSimpArgs false
set_option maxRecDepth 100000

/-! in the reference's order: plain facts -/
def varR (v : VarD) : Bool := v.pub && (labelB v.label && (decide (0 ≤ v.size) && decide (v.size ≤ 64)))
def procR (p : ProcD) : Bool := p.pub && (decide (p.params.length ≤ 5) && (labelB p.writes && (labelB p.given && (p.gives || p.given == 0))))
def procA (p : ProcD) : Bool := procR p && p.params.all labelB
def apartN : List ByteArray → List ByteArray → Bool
  | _, [] => true
  | seen, x :: r => (isName x && !among seen x) && apartN (seen ++ [x]) r
theorem apartN_eq : ∀ (l seen : List ByteArray), apartN seen l = (l.all isName && apartB seen l)
  | [], _ => rfl
  | x :: r, seen => by
    show ((isName x && !among seen x) && apartN (seen ++ [x]) r) = ((isName x && r.all isName) && (!among seen x && apartB (seen ++ [x]) r))
    rw [apartN_eq r (seen ++ [x])]
    cases isName x <;> cases among seen x <;> cases r.all isName <;> rfl
theorem apartN_no : ∀ {l seen : List ByteArray} (i : Nat) (h : i < l.length), (isName l[i] && !among (seen ++ l.take i) l[i]) = false → apartN seen l = false
  | [], _, _, h, _ => by simp at h
  | x :: r, seen, 0, h, hp => by
    show ((isName x && !among seen x) && apartN (seen ++ [x]) r) = false
    simp only [List.getElem_cons_zero, List.take_zero, List.append_nil] at hp
    rw [hp]; rfl
  | x :: r, seen, i + 1, h, hp => by
    show ((isName x && !among seen x) && apartN (seen ++ [x]) r) = false
    simp only [List.getElem_cons_succ, List.take_succ_cons] at hp
    rw [apartN_no (seen := seen ++ [x]) i (by simpa using h) (by simpa using hp), Bool.and_false]
theorem apartN_yes : ∀ {l seen : List ByteArray}, (∀ i (h : i < l.length), (isName l[i] && !among (seen ++ l.take i) l[i]) = true) → apartN seen l = true
  | [], _, _ => rfl
  | x :: r, seen, hp => by
    show ((isName x && !among seen x) && apartN (seen ++ [x]) r) = true
    have h0 : (isName x && !among (seen ++ []) x) = true := hp 0 (by simp)
    rw [List.append_nil] at h0
    rw [h0, apartN_yes (fun i h => by
      have := hp (i + 1) (by simp; omega)
      simpa using this)]
    rfl
theorem all_and {α : Type} (p q r : α → Bool) (h : ∀ x, p x = (q x && r x)) : ∀ l : List α, l.all p = (l.all q && l.all r)
  | [] => rfl
  | x :: l => by
    rw [List.all_cons, List.all_cons, List.all_cons, h, all_and p q r h l]
    cases q x <;> cases r x <;> cases l.all q <;> rfl
theorem mayB_ref (f : FaceD) : mayB f = (isName f.module && (decide (f.vars.length + f.procs.length ≤ 20) && (f.vars.all varR && (f.procs.all procA && apartN [] (f.vars.map (·.name) ++ f.procs.map (·.name)))))) := by
  unfold mayB
  rw [apartN_eq, List.all_append, List.all_map, List.all_map, all_and mayVarB (isName ∘ (·.name)) varR (fun v => rfl), all_and mayProcB (isName ∘ (·.name)) procA (fun p => by
    unfold mayProcB procA procR
    show _ = (isName p.name && _)
    cases isName p.name <;> cases p.pub <;> cases decide (p.params.length ≤ 5) <;> cases p.params.all labelB <;> cases labelB p.writes <;> cases labelB p.given <;> cases (p.gives || p.given == 0) <;> rfl)]
  show _ = _
  unfold namesOf
  cases isName f.module <;> cases decide (f.vars.length + f.procs.length ≤ 20) <;> cases f.vars.all (isName ∘ (·.name)) <;> cases f.vars.all varR <;> cases f.procs.all (isName ∘ (·.name)) <;> cases f.procs.all procA <;> rfl

/-! contracts -/
theorem rLabel (n : Int) (w : World) : Calls Tryz.prog 53 #[.int .i64 n] w fun e w' => e = .returned (.bool (labelB n)) ∧ w' = w := by
  unfold labelB
  cases h0 : (n == 0)
  · cases h1 : (n == 1)
    all_goals
      go_enter Tryz.func53, Tryz.ntmps53
      go_wp2
      go_ret
      exact ⟨rfl, rfl⟩
  · go_enter Tryz.func53, Tryz.ntmps53
    go_wp2
    go_ret
    exact ⟨rfl, rfl⟩
/-- a row of texts -/
def StrsIn (w : World) (v : Value) (l : List ByteArray) : Prop := ∃ a c, v = .slice a l.length c ∧ l.length ≤ 9223372036854775807 ∧
  (l ≠ [] → ∃ g o, a = some ⟨g, o, none⟩ ∧ ∀ i (h : i < l.length), w.cell? ⟨g, o + i, none⟩ = some (.string l[i]))
theorem among_hit {l : List ByteArray} {x : ByteArray} (i : Nat) (h : i < l.length) (he : eqS l[i] x = true) : among l x = true := by
  unfold among
  rw [List.any_eq_true]
  exact ⟨l[i], List.getElem_mem h, he⟩
theorem among_none {l : List ByteArray} {x : ByteArray} (hp : ∀ i (h : i < l.length), eqS l[i] x = false) : among l x = false := by
  unfold among
  rw [List.any_eq_false]
  intro y hy
  obtain ⟨k, hk, rfl⟩ := List.mem_iff_getElem.1 hy
  simp [hp k hk]
set_option maxHeartbeats 1000000 in
theorem rPlace (l : List ByteArray) (x : ByteArray) (v : Value) (w : World) (hv : StrsIn w v l) :
    Calls Tryz.prog 54 #[v, .string x] w fun e w' => (∃ n : Int, e = .returned (.int .i64 n) ∧ decide (0 ≤ n) = among l x) ∧ w' = w := by
  obtain ⟨a, c, rfl, hl, hk⟩ := hv
  go_enter Tryz.func54, Tryz.ntmps54
  go_wp2
  go_loopw [5] (fun t wr => ∃ j : Nat, j ≤ l.length ∧ t = .int .i64 j ∧ wr = w ∧ Hid (∀ i (h : i < l.length), i < j → eqS l[i] x = false)) (fun t _ => l.length - (intOf t).toNat)
  case atStart => exact ⟨0, Nat.zero_le _, rfl, rfl, fun i _ h => by omega⟩
  case round =>
    obtain ⟨j, hj, rfl, rfl, HN⟩ := hrel
    by_cases hlt : j < l.length
    · obtain ⟨g, o, rfl, hc⟩ := hk (by intro e; rw [e] at hlt; simp at hlt)
      have q := hc j hlt
      clear hc hk
      cases he : eqS l[j] x
      · have HE : Hid (eqS l[j] x = false) := he
        unfold eqS at he
        generalize l[j] = y at he q
        go_wp2
        go_roundw
        case rel => exact ⟨j + 1, by omega, by go_num, by trivial, fun i h h1 => by
          rcases Nat.lt_or_ge i j with h3 | h3
          · exact HN.out i h h3
          · have : i = j := by omega
            subst this
            exact HE.out⟩
        case measure => simp [intOf]; omega
      · have HE : Hid (among l x = true) := among_hit j hlt he
        unfold eqS at he
        generalize l[j] = y at he q
        go_wp2
        go_ret
        exact ⟨⟨_, rfl, by rw [HE.out]; simp⟩, rfl⟩
    · have HE : Hid (among l x = false) := among_none (fun i h => HN.out i h (by omega))
      go_wp2
      go_ret
      exact ⟨⟨_, rfl, by rw [HE.out]; simp⟩, rfl⟩
end Go.Proofs.YthfeojjfehbgjaaGreatDoor.face
