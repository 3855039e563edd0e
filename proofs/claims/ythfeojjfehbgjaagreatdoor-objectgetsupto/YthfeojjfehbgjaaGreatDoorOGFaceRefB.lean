/- What the reference's isLabel, Place and May answer: contracts. What the reference's May answers: a contract. -/
import Derived.Test.YthfeojjfehbgjaaGreatDoorProg
import Derived.WalkKit
import Derived.WalkLawsBesides
import Derived.Outline
import Derived.WalkSmall
import Derived.BigQuiet
import Derived.Deep.QuietTactic
import Derived.Deep.RegionWith
import Derived.WalkSpells
import Derived.Laws.OwnMore
import Derived.Test.YthfeojjfehbgjaaGreatDoorOGLexRefL
import Derived.Test.YthfeojjfehbgjaaGreatDoorOGFaceMem
import Derived.Maps.AppendAt
import Derived.Deep.LoopGhost
import Derived.Deep.AppendLies
import Derived.Test.YthfeojjfehbgjaaGreatDoorOGLexMem
namespace Go.Proofs.YthfeojjfehbgjaaGreatDoor.face
open Go.RowKit
open Go.Proofs.YthfeojjfehbgjaaGreatDoor.syn (isName eqS)
set_option linter.unusedVariables false
set_option linter.unusedSimpArgs false
set_option maxRecDepth 100000

/-! in the reference's order: plain facts -/
def varR (v : VarD) : Bool := v.pub && (labelB v.label && (decide (0 ≤ v.size) && decide (v.size ≤ 64)))
def procR (p : ProcD) : Bool := p.pub && (decide (p.params.length ≤ 5) && (labelB p.writes && (labelB p.given && (p.gives || p.given == 0))))
def procA (p : ProcD) : Bool := procR p && p.params.all labelB
def apartN : List ByteArray → List ByteArray → Bool
  | _, [] => true
  | seen, x :: r => (isName x && !among seen x) && apartN (seen ++ [x]) r
theorem apartN_eq : ∀ (l seen : List ByteArray), apartN seen l = (l.all isName && apartB seen l)
  | [], _ => rfl
  | x :: r, seen => by
    show ((isName x && !among seen x) && apartN (seen ++ [x]) r) = ((isName x && r.all isName) && (!among seen x && apartB (seen ++ [x]) r))
    rw [apartN_eq r (seen ++ [x])]
    cases isName x <;> cases among seen x <;> cases r.all isName <;> rfl
theorem apartN_no : ∀ {l seen : List ByteArray} (i : Nat) (h : i < l.length), (isName l[i] && !among (seen ++ l.take i) l[i]) = false → apartN seen l = false
  | [], _, _, h, _ => by simp at h
  | x :: r, seen, 0, h, hp => by
    show ((isName x && !among seen x) && apartN (seen ++ [x]) r) = false
    simp only [List.getElem_cons_zero, List.take_zero, List.append_nil] at hp
    rw [hp]; rfl
  | x :: r, seen, i + 1, h, hp => by
    show ((isName x && !among seen x) && apartN (seen ++ [x]) r) = false
    simp only [List.getElem_cons_succ, List.take_succ_cons] at hp
    rw [apartN_no (seen := seen ++ [x]) i (by simpa using h) (by simpa using hp), Bool.and_false]
theorem apartN_yes : ∀ {l seen : List ByteArray}, (∀ i (h : i < l.length), (isName l[i] && !among (seen ++ l.take i) l[i]) = true) → apartN seen l = true
  | [], _, _ => rfl
  | x :: r, seen, hp => by
    show ((isName x && !among seen x) && apartN (seen ++ [x]) r) = true
    have h0 : (isName x && !among (seen ++ []) x) = true := hp 0 (by simp)
    rw [List.append_nil] at h0
    rw [h0, apartN_yes (fun i h => by
      have := hp (i + 1) (by simp; omega)
      simpa using this)]
    rfl
theorem all_and {α : Type} (p q r : α → Bool) (h : ∀ x, p x = (q x && r x)) : ∀ l : List α, l.all p = (l.all q && l.all r)
  | [] => rfl
  | x :: l => by
    rw [List.all_cons, List.all_cons, List.all_cons, h, all_and p q r h l]
    cases q x <;> cases r x <;> cases l.all q <;> rfl
theorem mayB_ref (f : FaceD) : mayB f = (isName f.module && (decide (f.vars.length + f.procs.length ≤ 20) && (f.vars.all varR && (f.procs.all procA && apartN [] (f.vars.map (·.name) ++ f.procs.map (·.name)))))) := by
  unfold mayB
  rw [apartN_eq, List.all_append, List.all_map, List.all_map, all_and mayVarB (isName ∘ (·.name)) varR (fun v => rfl), all_and mayProcB (isName ∘ (·.name)) procA (fun p => by
    unfold mayProcB procA procR
    show _ = (isName p.name && _)
    cases isName p.name <;> cases p.pub <;> cases decide (p.params.length ≤ 5) <;> cases p.params.all labelB <;> cases labelB p.writes <;> cases labelB p.given <;> cases (p.gives || p.given == 0) <;> rfl)]
  show _ = _
  unfold namesOf
  cases isName f.module <;> cases decide (f.vars.length + f.procs.length ≤ 20) <;> cases f.vars.all (isName ∘ (·.name)) <;> cases f.vars.all varR <;> cases f.procs.all (isName ∘ (·.name)) <;> cases f.procs.all procA <;> rfl

/-! contracts -/
theorem rLabel (n : Int) (w : World) : Calls Tryz.prog 53 #[.int .i64 n] w fun e w' => e = .returned (.bool (labelB n)) ∧ w' = w := by
  unfold labelB
  cases h0 : (n == 0)
  · cases h1 : (n == 1)
    all_goals
      go_enter Tryz.func53, Tryz.ntmps53
      go_wp2
      go_ret
      exact ⟨rfl, rfl⟩
  · go_enter Tryz.func53, Tryz.ntmps53
    go_wp2
    go_ret
    exact ⟨rfl, rfl⟩
/-- a row of texts -/
def StrsIn (w : World) (v : Value) (l : List ByteArray) : Prop := ∃ a c, v = .slice a l.length c ∧ l.length ≤ 9223372036854775807 ∧
  (l ≠ [] → ∃ g o, a = some ⟨g, o, none⟩ ∧ ∀ i (h : i < l.length), w.cell? ⟨g, o + i, none⟩ = some (.string l[i]))
theorem among_hit {l : List ByteArray} {x : ByteArray} (i : Nat) (h : i < l.length) (he : eqS l[i] x = true) : among l x = true := by
  unfold among
  rw [List.any_eq_true]
  exact ⟨l[i], List.getElem_mem h, he⟩
theorem among_none {l : List ByteArray} {x : ByteArray} (hp : ∀ i (h : i < l.length), eqS l[i] x = false) : among l x = false := by
  unfold among
  rw [List.any_eq_false]
  intro y hy
  obtain ⟨k, hk, rfl⟩ := List.mem_iff_getElem.1 hy
  simp [hp k hk]
set_option maxHeartbeats 1000000 in
theorem rPlace (l : List ByteArray) (x : ByteArray) (v : Value) (w : World) (hv : StrsIn w v l) :
    Calls Tryz.prog 54 #[v, .string x] w fun e w' => (∃ n : Int, e = .returned (.int .i64 n) ∧ decide (0 ≤ n) = among l x) ∧ w' = w := by
  obtain ⟨a, c, rfl, hl, hk⟩ := hv
  go_enter Tryz.func54, Tryz.ntmps54
  go_wp2
  go_loopw [5] (fun t wr => ∃ j : Nat, j ≤ l.length ∧ t = .int .i64 j ∧ wr = w ∧ Hid (∀ i (h : i < l.length), i < j → eqS l[i] x = false)) (fun t _ => l.length - (intOf t).toNat)
  case atStart => exact ⟨0, Nat.zero_le _, rfl, rfl, fun i _ h => by omega⟩
  case round =>
    obtain ⟨j, hj, rfl, rfl, HN⟩ := hrel
    by_cases hlt : j < l.length
    · obtain ⟨g, o, rfl, hc⟩ := hk (by intro e; rw [e] at hlt; simp at hlt)
      have q := hc j hlt
      clear hc hk
      cases he : eqS l[j] x
      · have HE : Hid (eqS l[j] x = false) := he
        unfold eqS at he
        generalize l[j] = y at he q
        go_wp2
        go_roundw
        case rel => exact ⟨j + 1, by omega, by go_num, by trivial, fun i h h1 => by
          rcases Nat.lt_or_ge i j with h3 | h3
          · exact HN.out i h h3
          · have : i = j := by omega
            subst this
            exact HE.out⟩
        case measure => simp [intOf]; omega
      · have HE : Hid (among l x = true) := among_hit j hlt he
        unfold eqS at he
        generalize l[j] = y at he q
        go_wp2
        go_ret
        exact ⟨⟨_, rfl, by rw [HE.out]; simp⟩, rfl⟩
    · have HE : Hid (among l x = false) := among_none (fun i h => HN.out i h (by omega))
      go_wp2
      go_ret
      exact ⟨⟨_, rfl, by rw [HE.out]; simp⟩, rfl⟩
end Go.Proofs.YthfeojjfehbgjaaGreatDoor.face
namespace Go.Proofs.YthfeojjfehbgjaaGreatDoor.face
open Go.RowKit
open Go.Proofs.YthfeojjfehbgjaaGreatDoor.lexs (own_below own_shape)
open Go.Proofs.YthfeojjfehbgjaaGreatDoor.syn (isName eqS)
set_option linter.unusedVariables false
set_option linter.unusedSimpArgs false
set_option maxRecDepth 100000

def strV (l : List ByteArray) : List Value := l.map Value.string
theorem infoS : (Tryz.prog.info? 9).map (fun i => (i.zero, i.size, i.bytes)) = some (some (.string ⟨#[]⟩), 1, 16) := by kernel_rfl
/-- the box of the face, and the row of names so far -/
structure RInv (w wr : World) (x : ByteArray) (vv pv v : Value) (l : List ByteArray) : Prop where
  below : Below w.heap.size w wr
  lt : w.heap.size + 1 ≤ wr.heap.size
  c1 : wr.cell? ⟨w.heap.size, 1, none⟩ = some vv
  c2 : wr.cell? ⟨w.heap.size, 2, none⟩ = some pv
  own : wr.ownsRow (w.heap.size + 1) 9 1 v l.length (strV l)
theorem RInv.next {w wr w2 : World} {x : ByteArray} {vv pv v : Value} {l : List ByteArray} (h : RInv w wr x vv pv v l) (hb : Below wr.heap.size wr w2) : RInv w w2 x vv pv v l :=
  ⟨h.below.trans (hb.mono h.below.size), Nat.le_trans h.lt hb.size, keep h.c1 hb, keep h.c2 hb, own_below h.own hb⟩
theorem grown_cellR {w w' : World} {row : Option Nat} (hg : w.grownBy w' row) {a : Addr} {v : Value} (h : w.cell? a = some v) (hne : some a.block ≠ row) : w'.cell? a = some v := by
  have := hg.block a.block (World.block_lt_of_cell? w a h) hne
  unfold World.cell? at h ⊢
  rw [this]
  exact h
theorem RInv.put {w wr w2 : World} {x y : ByteArray} {vv pv v v' : Value} {l : List ByteArray} (h : RInv w wr x vv pv v l) (hg : wr.grownBy w2 v.ownBlock) (ho : w2.ownsRow (w.heap.size + 1) 9 1 v' (l.length + 1) (strV l ++ [.string y])) :
    RInv w w2 x vv pv v' (l ++ [y]) := by
  have hne : some w.heap.size ≠ v.ownBlock := fun e => by have := (h.own.lt _ e.symm).1; omega
  refine ⟨h.below.grown hg h.below.size (fun k hk => ?_), Nat.le_trans h.lt hg.size, grown_cellR hg h.c1 hne, grown_cellR hg h.c2 hne, ?_⟩
  · have := (h.own.lt _ hk).1
    omega
  · rw [List.length_append]
    have e : strV (l ++ [y]) = strV l ++ [.string y] := by simp [strV]
    rw [e]
    exact ho
theorem one_string (y : ByteArray) : ∀ u ∈ [Value.string y], u.oneCell' = true := by intro u hu; simp at hu; rw [hu]; rfl
theorem below_one {w : World} (o : Obj) : Below w.heap.size w (w.alloc o) := (Below.refl _ _).alloc (Nat.le_refl _) o
theorem box_cellR {w w2 : World} {cs : Array Value} {T : TypeId} (hb : Below (w.alloc (.cells cs T)).heap.size (w.alloc (.cells cs T)) w2) (k : Nat) : w2.cell? ⟨w.heap.size, k, none⟩ = cs[k]? := by
  rw [hb.cell (p := ⟨w.heap.size, k, none⟩) (by simp)]
  simp
theorem below_boxR {w w2 : World} {o : Obj} (hb : Below (w.alloc o).heap.size (w.alloc o) w2) : Below w.heap.size w w2 :=
  ((Below.refl _ _).alloc (Nat.le_refl _) o).trans (hb.mono (by simp))
theorem take_nextR {α β : Type} (f : α → β) (l : List α) (j : Nat) (h : j < l.length) : (l.take (j + 1)).map f = (l.take j).map f ++ [f l[j]] := by
  rw [List.take_add_one, List.map_append, List.getElem?_eq_getElem h]
  rfl
theorem cell_one {w : World} (y : Value) (T : TypeId) (n : Nat) (hn : n = w.heap.size) : ∀ j u, [y][j]? = some u → (w.alloc (.cells #[y] T)).cell? ((⟨n, 0, none⟩ : Addr).add j) = some u := by
  subst hn
  exact cell_one_new w y T
theorem own_strs {w : World} {B : Nat} {v : Value} {L : List ByteArray} (h : w.ownsRow B 9 1 v L.length (strV L)) :
    ∃ a c, v = .slice a L.length c ∧ L.length ≤ c ∧ c ≤ 9223372036854775807 ∧ (L ≠ [] → ∃ g, a = some ⟨g, 0, none⟩ ∧ ∀ i (hi : i < L.length), w.cell? ⟨g, i, none⟩ = some (.string L[i])) := by
  rcases h.2 with ⟨rfl, hn⟩ | ⟨g, cap, cur, rfl, _, _, h1, h2, _⟩
  · have : L = [] := List.length_eq_zero_iff.1 hn
    subst this
    exact ⟨none, 0, rfl, by simp, by omega, fun h => absurd rfl h⟩
  · refine ⟨some ⟨g, 0, none⟩, cap, rfl, h1, by unfold maxLen at h2; omega, fun _ => ⟨g, rfl, fun i hi => ?_⟩⟩
    have := h.cellAt i (by omega)
    rw [this]
    unfold strV
    rw [List.getElem?_map, List.getElem?_eq_getElem hi]
    rfl
theorem strs_take {w : World} {L : List ByteArray} {g c : Nat} {i : Nat} (hi : i ≤ L.length) (h20 : L.length ≤ 9223372036854775807) (hc : ∀ i (hi : i < L.length), w.cell? ⟨g, i, none⟩ = some (.string L[i])) : StrsIn w (.slice (some ⟨g, 0, none⟩) i c) (L.take i) := by
  have e : (L.take i).length = i := by rw [List.length_take]; omega
  refine ⟨some ⟨g, 0, none⟩, c, by rw [e], by rw [e]; omega, fun _ => ⟨g, 0, rfl, fun k hk => ?_⟩⟩
  rw [e] at hk
  rw [Nat.zero_add, hc k (by omega), List.getElem_take]
set_option maxHeartbeats 8000000 in
theorem rMay (f : FaceD) (u : Value) (w : World) (hu : FaceIn w u f) :
    Calls Tryz.prog 18 #[u] w fun e w' => e = .returned (.bool (mayB f)) ∧ Below w.heap.size w w' := by
  have c3 : Tryz.prog.cellsOf 25 = 3 := cell3
  have c4 : Tryz.prog.cellsOf 100 = 4 := cell4
  have c6 : Tryz.prog.cellsOf 102 = 6 := cell6
  have c1 : Tryz.prog.cellsOf 9 = 1 := cell1s
  obtain ⟨i0, hi, hz0, hz1, hz2⟩ := info_parts infoS
  rw [mayB_ref]
  obtain ⟨vv, pv, rfl, hvs, hps⟩ := hu
  obtain ⟨x, vs, ps⟩ := f
  simp only at hvs hps ⊢
  obtain ⟨a, c, rfl, hl, hk⟩ := hvs
  obtain ⟨b, d, rfl, hl2, hk2⟩ := hps
  have hN := rName x (w.alloc (.cells #[.string x, .slice a vs.length c, .slice b ps.length d] 25))
  obtain ⟨V, hV⟩ : ∃ V, V = (isName x && (decide (vs.length + ps.length ≤ 20) && (vs.all varR && (ps.all procA && apartN [] (vs.map (·.name) ++ ps.map (·.name)))))) := ⟨_, rfl⟩
  rw [← hV]
  have HV : Hid (V = (isName x && (decide (vs.length + ps.length ≤ 20) && (vs.all varR && (ps.all procA && apartN [] (vs.map (·.name) ++ ps.map (·.name))))))) := hV
  clear hV
  cases hn : isName x
  case false =>
    have HF : Hid (V = false) := by show _ = _; rw [HV.out, hn]; rfl
    go_enter Tryz.func18, Tryz.ntmps18
    go_wp2_with (go_at_call 21; refine hN.mono ?_; rw [hn]; rintro e w2 ⟨rfl, hb2⟩)
    go_ret
    exact ⟨ret_b HF.out.symm, below_boxR hb2⟩
  by_cases h20 : vs.length + ps.length ≤ 20
  case neg =>
    have HF : Hid (V = false) := by show _ = _; rw [HV.out, hn, decide_eq_false h20]; rfl
    by_cases v20 : vs.length ≤ 20
    case neg =>
      go_enter Tryz.func18, Tryz.ntmps18
      go_wp2_with (go_at_call 21; refine hN.mono ?_; rw [hn]; rintro e w2 ⟨rfl, hb2⟩; have q1 : w2.cell? ⟨w.heap.size, 1, none⟩ = some (.slice a vs.length c) := box_cellR hb2 1)
      go_ret
      exact ⟨ret_b HF.out.symm, below_boxR hb2⟩
    by_cases p20 : ps.length ≤ 20
    case neg =>
      go_enter Tryz.func18, Tryz.ntmps18
      go_wp2_with (go_at_call 21; refine hN.mono ?_; rw [hn]; rintro e w2 ⟨rfl, hb2⟩; have q1 : w2.cell? ⟨w.heap.size, 1, none⟩ = some (.slice a vs.length c) := box_cellR hb2 1; have q2 : w2.cell? ⟨w.heap.size, 2, none⟩ = some (.slice b ps.length d) := box_cellR hb2 2)
      go_ret
      exact ⟨ret_b HF.out.symm, below_boxR hb2⟩
    have h20' : 20 < (vs.length : Int) + (ps.length : Int) := by omega
    have hwr : wrap64 ((vs.length : Int) + (ps.length : Int)) = (vs.length : Int) + (ps.length : Int) := by unfold wrap64; omega
    go_enter Tryz.func18, Tryz.ntmps18
    go_wp2_with (go_at_call 21; refine hN.mono ?_; rw [hn]; rintro e w2 ⟨rfl, hb2⟩; have q1 : w2.cell? ⟨w.heap.size, 1, none⟩ = some (.slice a vs.length c) := box_cellR hb2 1; have q2 : w2.cell? ⟨w.heap.size, 2, none⟩ = some (.slice b ps.length d) := box_cellR hb2 2)
    go_ret
    exact ⟨ret_b HF.out.symm, below_boxR hb2⟩
  have HV2 : Hid (V = (vs.all varR && (ps.all procA && apartN [] (vs.map (·.name) ++ ps.map (·.name))))) := by show _ = _; rw [HV.out, hn, decide_eq_true h20]; rfl
  clear HV
  have v20 : vs.length ≤ 20 := by omega
  have p20 : ps.length ≤ 20 := by omega
  have h20' : (vs.length : Int) + (ps.length : Int) ≤ 20 := by omega
  have hwr : wrap64 ((vs.length : Int) + (ps.length : Int)) = (vs.length : Int) + (ps.length : Int) := by unfold wrap64; omega
  go_enter Tryz.func18, Tryz.ntmps18
  go_wp2_with (go_at_call 21; refine hN.mono ?_; rw [hn]; rintro e w2 ⟨rfl, hb2⟩; have q1 : w2.cell? ⟨w.heap.size, 1, none⟩ = some (.slice a vs.length c) := box_cellR hb2 1; have q2 : w2.cell? ⟨w.heap.size, 2, none⟩ = some (.slice b ps.length d) := box_cellR hb2 2)
  have hI0 : RInv w w2 x (.slice a vs.length c) (.slice b ps.length d) (.slice none 0 0) ((vs.take 0).map (·.name)) :=
    ⟨below_boxR hb2, World.block_lt_of_cell? _ _ q1, q1, q2, World.ownsRow_nil _ _ _ _⟩
  clear q1 q2 hb2
  go_loopw [3, 4] (fun v t wr => ∃ j : Nat, j ≤ vs.length ∧ t = .int .i64 j ∧ RInv w wr x (.slice a vs.length c) (.slice b ps.length d) v ((vs.take j).map (·.name)) ∧ Hid (∀ i (h : i < vs.length), i < j → varR vs[i] = true)) (fun _ t _ => vs.length - (intOf t).toNat)
  case atStart => exact ⟨0, Nat.zero_le _, rfl, hI0, fun i _ h => by omega⟩
  case round =>
    clear hI0
    obtain ⟨j, hj, rfl, hI, HN⟩ := hrel
    have t1 := hI.c1
    by_cases hlt : j < vs.length
    · obtain ⟨g, o, rfl, hc⟩ := hk (by intro e; rw [e] at hlt; simp at hlt)
      obtain ⟨k0, k1, k2, k3⟩ := hc j hlt
      have q0 := keep k0 hI.below
      have q1 := keep k1 hI.below
      have q2 := keep k2 hI.below
      have q3 := keep k3 hI.below
      clear k0 k1 k2 k3
      obtain ⟨X, hX⟩ : ∃ X, X = varR vs[j] := ⟨_, rfl⟩
      have HX : Hid (X = varR vs[j]) := hX
      have HY : Hid (X = false → V = false) := fun h => HV2.out.trans (by rw [all_no j hlt (by rw [← HX.out]; exact h)]; rfl)
      have HT : Hid ((vs.take (j + 1)).map (·.name) = (vs.take j).map (·.name) ++ [vs[j].name]) := take_nextR _ _ _ hlt
      unfold varR at hX
      generalize vs[j].name = s0, vs[j].pub = s1, vs[j].label = s2, vs[j].size = s3 at hX q0 q1 q2 q3 HT
      cases e1 : s1
      case false =>
        subst e1
        have HF : Hid (V = false) := HY.out (by rw [hX]; rfl)
        go_wp2
        go_ret
        exact ⟨ret_b HF.out.symm, (hI.next (below_one _)).below⟩
      subst e1
      cases e2 : labelB s2
      case false =>
        have HF : Hid (V = false) := HY.out (by rw [hX, e2]; rfl)
        go_wp2_with (go_at_call 53; refine (rLabel _ _).mono ?_; rw [e2]; rintro e w3 ⟨rfl, hw3⟩; obtain rfl := hw3.symm)
        go_ret
        exact ⟨ret_b HF.out.symm, (hI.next (below_one _)).below⟩
      by_cases e3 : 0 ≤ s3
      case neg =>
        have HF : Hid (V = false) := HY.out (by rw [hX, e2, decide_eq_false e3]; rfl)
        go_wp2_with (go_at_call 53; refine (rLabel _ _).mono ?_; rw [e2]; rintro e w3 ⟨rfl, hw3⟩; obtain rfl := hw3.symm)
        go_ret
        exact ⟨ret_b HF.out.symm, (hI.next (below_one _)).below⟩
      by_cases e4 : s3 ≤ 64
      case neg =>
        have HF : Hid (V = false) := HY.out (by rw [hX, e2, decide_eq_true e3, decide_eq_false e4]; rfl)
        go_wp2_with (go_at_call 53; refine (rLabel _ _).mono ?_; rw [e2]; rintro e w3 ⟨rfl, hw3⟩; obtain rfl := hw3.symm)
        go_ret
        exact ⟨ret_b HF.out.symm, (hI.next (below_one _)).below⟩
      have HE : Hid (varR vs[j] = true) := HX.out.symm.trans (by rw [hX, e2, decide_eq_true e3, decide_eq_true e4]; rfl)
      have hI1 := hI.next (below_one (.cells #[.string s0, .bool true, .int .i64 s2, .int .i64 s3] 100))
      have hlen : ((vs.take j).map (·.name)).length ≤ 20 := by simp; omega
      clear HX HY hX
      go_wp2_with first
        | (go_at_call 53; refine (rLabel _ _).mono ?_; rw [e2]; rintro e w3 ⟨rfl, hw3⟩; obtain rfl := hw3.symm)
        | (at_builtin; refine wpList_append_own _ rfl (.tmp 67) (.tmp 70) 98 rfl (w.heap.size + 1) 9 i0 (.string ⟨#[]⟩) 1 16 Tryz.underlying98 hi hz0 hz1 hz2 rfl (by decide) _ _ _ rfl (hI1.own.alloc _) ⟨wr.heap.size + 1, 0, none⟩ 1 1 [.string s0] rfl rfl (cell_one _ _ _ (by simp)) (one_string _) (by unfold maxLen; omega) (by omega) (by have := hI.lt; simp; omega) ?_; intro v' w5 hown5 hgrow5 hnil5)
        | go_in
      go_roundw
      case rel => exact ⟨j + 1, by omega, by go_num, by rw [HT.out]; exact (hI1.next (below_one _)).put hgrow5 hown5, fun i h h1 => by
        rcases Nat.lt_or_ge i j with h3 | h3
        · exact HN.out i h h3
        · have : i = j := by omega
          subst this
          exact HE.out⟩
      case measure => simp [intOf]; omega
    · have HA : Hid (V = (ps.all procA && apartN [] (vs.map (·.name) ++ ps.map (·.name)))) := by show _ = _; rw [HV2.out, all_yes (fun i h => HN.out i h (by omega))]; rfl
      clear HV2 HN hk
      rw [List.take_of_length_le (by omega)] at hI
      go_wp2
      go_loopw [3, 6] (fun v t wr => ∃ j : Nat, j ≤ ps.length ∧ t = .int .i64 j ∧ RInv w wr x (.slice a vs.length c) (.slice b ps.length d) v (vs.map (·.name) ++ (ps.take j).map (·.name)) ∧ Hid (∀ i (h : i < ps.length), i < j → procA ps[i] = true)) (fun _ t _ => ps.length - (intOf t).toNat)
      case atStart => exact ⟨0, Nat.zero_le _, rfl, by simpa using hI, fun i _ h => by omega⟩
      case round =>
        clear hI t1
        obtain ⟨j, hj, rfl, hI, HN⟩ := hrel
        have t2 := hI.c2
        by_cases hlt : j < ps.length
        · obtain ⟨g, o, rfl, hc⟩ := hk2 (by intro e; rw [e] at hlt; simp at hlt)
          obtain ⟨k0, k1, ⟨y, k2, hy⟩, k3, k4, k5⟩ := hc j hlt
          obtain ⟨ay, cy, rfl, hly, hky⟩ := hy
          have q0 := keep k0 hI.below
          have q1 := keep k1 hI.below
          have q2 := keep k2 hI.below
          have q3 := keep k3 hI.below
          have q4 := keep k4 hI.below
          have q5 := keep k5 hI.below
          clear k0 k1 k2 k3 k4 k5
          obtain ⟨X, hX⟩ : ∃ X, X = procA ps[j] := ⟨_, rfl⟩
          have HX : Hid (X = procA ps[j]) := hX
          have HY : Hid (X = false → V = false) := fun h => HA.out.trans (by rw [all_no j hlt (by rw [← HX.out]; exact h)]; rfl)
          have HT : Hid ((ps.take (j + 1)).map (·.name) = (ps.take j).map (·.name) ++ [ps[j].name]) := take_nextR _ _ _ hlt
          unfold procA procR at hX
          generalize ps[j].name = s0, ps[j].pub = s1, ps[j].params = s2, ps[j].writes = s3, ps[j].gives = s4, ps[j].given = s5 at hX q0 q1 q2 q3 q4 q5 HT hly hky
          cases e1 : s1
          case false =>
            subst e1
            have HF : Hid (V = false) := HY.out (by rw [hX]; rfl)
            go_wp2
            go_ret
            exact ⟨ret_b HF.out.symm, (hI.next (below_one _)).below⟩
          subst e1
          by_cases e2 : s2.length ≤ 5
          case neg =>
            have HF : Hid (V = false) := HY.out (by rw [hX, decide_eq_false e2]; rfl)
            go_wp2
            go_ret
            exact ⟨ret_b HF.out.symm, (hI.next (below_one _)).below⟩
          cases e3 : labelB s3
          case false =>
            have HF : Hid (V = false) := HY.out (by rw [hX, e3]; simp)
            go_wp2_with (go_at_call 53; refine (rLabel _ _).mono ?_; rw [e3]; rintro e w3 ⟨rfl, hw3⟩; obtain rfl := hw3.symm)
            go_ret
            exact ⟨ret_b HF.out.symm, (hI.next (below_one _)).below⟩
          cases e5 : labelB s5
          case false =>
            have HF : Hid (V = false) := HY.out (by rw [hX, e5]; simp)
            go_wp2_with (go_at_call 53; refine (rLabel _ _).mono ?_; (first | rw [e3] | rw [e5]); rintro e w3 ⟨rfl, hw3⟩; obtain rfl := hw3.symm)
            go_ret
            exact ⟨ret_b HF.out.symm, (hI.next (below_one _)).below⟩
          by_cases e4 : s4 = true ∨ s5 = 0
          case neg =>
            have e4a : s4 = false := by cases s4 <;> simp_all
            have e4b : ¬ s5 = 0 := fun h => e4 (.inr h)
            have e4c : (s5 == 0) = false := beq_false_of_ne e4b
            have e4d : (s5 != 0) = true := by simp [bne, e4c]
            subst e4a
            have HF : Hid (V = false) := HY.out (by rw [hX, e4c]; simp)
            go_wp2_with (go_at_call 53; refine (rLabel _ _).mono ?_; (first | rw [e3] | rw [e5]); rintro e w3 ⟨rfl, hw3⟩; obtain rfl := hw3.symm)
            go_ret
            exact ⟨ret_b HF.out.symm, (hI.next (below_one _)).below⟩
            all_goals exact absurd (show (s5 != 0) = false from by simp_all) (by simp [e4b])
          have HX2 : Hid (X = s2.all labelB) := by
            show _ = _
            have : (s4 || s5 == 0) = true := by rcases e4 with h | h <;> simp [h]
            rw [hX, e3, e5, this, decide_eq_true e2]
            rfl
          have hI1 := hI.next (below_one (.cells #[.string s0, .bool true, .slice ay s2.length cy, .int .i64 s3, .bool s4, .int .i64 s5] 102))
          have hlen : (vs.map (·.name) ++ (ps.take j).map (·.name)).length ≤ 20 := by simp; omega
          clear hX
          have e4e : (s4 = false ∧ s5 = 0) ∨ s4 = true := by cases h : s4 <;> simp_all
          rcases e4e with ⟨rfl, rfl⟩ | rfl
          all_goals
            go_wp2_with (go_at_call 53; refine (rLabel _ _).mono ?_; (first | rw [e3] | rw [e5]); rintro e w3 ⟨rfl, hw3⟩; obtain rfl := hw3.symm)
            go_loopw [8] (fun t wq => ∃ k : Nat, k ≤ s2.length ∧ t = .int .i64 k ∧ Below wr.heap.size wr wq ∧ wq.cell? ⟨wr.heap.size, 0, none⟩ = some (.string s0) ∧ wq.cell? ⟨wr.heap.size, 2, none⟩ = some (.slice ay s2.length cy) ∧ Hid (∀ i (h : i < s2.length), i < k → labelB s2[i] = true)) (fun t _ => s2.length - (intOf t).toNat)
            case atStart => exact ⟨0, Nat.zero_le _, rfl, below_one _, by simp, by simp, fun i _ h => by omega⟩
            case round =>
              clear q0 q1 q2 q3 q4 q5 t2
              obtain ⟨k, hk, rfl, hbq, b0, b2, HM⟩ := hrel
              have hIq := hI.next hbq
              by_cases hlk : k < s2.length
              · obtain ⟨gy, oy, rfl, hcy⟩ := hky (by intro e; rw [e] at hlk; simp at hlk)
                have q := keep (hcy k hlk) hIq.below
                clear hcy hky
                cases he : labelB s2[k]
                · have HF : Hid (V = false) := HY.out (by rw [HX2.out, all_no k hlk he])
                  generalize s2[k] = z at he q
                  go_wp2_with (go_at_call 53; refine (rLabel _ _).mono ?_; rw [he]; rintro e w3 ⟨rfl, hw3⟩; obtain rfl := hw3.symm)
                  go_ret
                  exact ⟨ret_b HF.out.symm, hIq.below⟩
                · have HE : Hid (labelB s2[k] = true) := he
                  generalize s2[k] = z at he q
                  go_wp2_with (go_at_call 53; refine (rLabel _ _).mono ?_; rw [he]; rintro e w3 ⟨rfl, hw3⟩; obtain rfl := hw3.symm)
                  go_roundw
                  case rel => exact ⟨k + 1, by omega, by go_num, hbq, b0, b2, fun i h h1 => by
                    rcases Nat.lt_or_ge i k with h3 | h3
                    · exact HM.out i h h3
                    · have : i = k := by omega
                      subst this
                      exact HE.out⟩
                  case measure => simp [intOf]; omega
              · have HE : Hid (procA ps[j] = true) := HX.out.symm.trans (HX2.out.trans (all_yes (fun i h => HM.out i h (by omega))))
                go_wp2_with first
                  | (at_builtin; refine wpList_append_own _ rfl (.tmp 129) (.tmp 132) 98 rfl (w.heap.size + 1) 9 i0 (.string ⟨#[]⟩) 1 16 Tryz.underlying98 hi hz0 hz1 hz2 rfl (by decide) _ _ _ rfl (hIq.own.alloc _) ⟨wr.heap.size, 0, none⟩ 1 1 [.string s0] rfl rfl (cell_one _ _ _ (by simp)) (one_string _) (by unfold maxLen; omega) (by omega) (by have := hIq.lt; simp; omega) ?_; intro v' w5 hown5 hgrow5 hnil5)
                  | go_in
                go_roundw
                case rel => exact ⟨j + 1, by omega, by go_num, by rw [HT.out, ← List.append_assoc]; exact (hIq.next (below_one _)).put hgrow5 hown5, fun i h h1 => by
                  rcases Nat.lt_or_ge i j with h3 | h3
                  · exact HN.out i h h3
                  · have : i = j := by omega
                    subst this
                    exact HE.out⟩
                case measure => simp [intOf]; omega
        · rw [List.take_of_length_le (by omega)] at hI
          have HB : Hid (V = apartN [] (vs.map (·.name) ++ ps.map (·.name))) := by show _ = _; rw [HA.out, all_yes (fun i h => HN.out i h (by omega))]; rfl
          have hL : (vs.map (·.name) ++ ps.map (·.name)).length ≤ 20 := by simp; omega
          clear HA HN hk2
          generalize vs.map (·.name) ++ ps.map (·.name) = L at HB hI hL
          have hIo := hI.own
          obtain ⟨an, cn, rfl, hcn, hcm, _⟩ := own_strs hIo
          clear hIo
          go_wp2
          go_loopw [9] (fun t wq => ∃ k : Nat, k ≤ L.length ∧ t = .int .i64 k ∧ RInv w wq x (.slice a vs.length c) (.slice b ps.length d) (.slice an L.length cn) L ∧ Hid (∀ i (h : i < L.length), i < k → (isName L[i] && !among ([] ++ L.take i) L[i]) = true)) (fun t _ => L.length - (intOf t).toNat)
          case atStart => exact ⟨0, Nat.zero_le _, rfl, hI, fun i _ h => by omega⟩
          case round =>
            clear hI t2
            obtain ⟨k, hk, rfl, hI, HM⟩ := hrel
            by_cases hlk : k < L.length
            · obtain ⟨_, _, e, _, _, hcs0⟩ := own_strs hI.own
              cases e
              obtain ⟨g, rfl, hcs⟩ := hcs0 (by intro e; rw [e] at hlk; simp at hlk)
              clear hcs0
              have q := hcs k hlk
              have HC : Hid (∀ w3, Below wr.drew.heap.size wr.drew w3 → w3.cell? ⟨g, k, none⟩ = some (.string L[k]) ∧ RInv w w3 x (.slice a vs.length c) (.slice b ps.length d) (.slice (some ⟨g, 0, none⟩) L.length cn) L ∧ StrsIn w3 (.slice (some ⟨g, 0, none⟩) k cn) (L.take k)) := fun w3 hb3 => by
                have hb4 : Below wr.heap.size wr w3 := ⟨hb3.os, hb3.tape, hb3.output, hb3.size, hb3.block⟩
                exact ⟨keep (hcs k hlk) hb4, hI.next hb4, strs_take (Nat.le_of_lt hlk) (by omega) (fun i hi => keep (hcs i hi) hb4)⟩
              have HZ : Hid ((isName L[k] && !among (L.take k) L[k]) = false → V = false) := fun h => HB.out.trans (apartN_no k hlk (by simpa using h))
              have HW : Hid ((isName L[k] && !among (L.take k) L[k]) = true → (isName L[k] && !among ([] ++ L.take k) L[k]) = true) := fun h => by simpa using h
              clear hcs
              have hN := rName L[k] wr.drew
              have hP := fun w3 (h : StrsIn w3 (.slice (some ⟨g, 0, none⟩) k cn) (L.take k)) => rPlace (L.take k) L[k] _ w3 h
              have hcn' : (k : Int) ≤ cn := by omega
              cases e1 : isName L[k]
              · have HF : Hid (V = false) := HZ.out (by rw [e1]; rfl)
                rw [e1] at hN
                generalize L[k] = y at q hN
                clear hP HC
                go_wp2
                refine wp_region_any (by kernel_rfl) ?_
                change wpAny _ _ _ _ _ _ _ (World.drew _)
                refine wpAny_take (i := 0) (v := .slice (some ⟨g, 0, none⟩) L.length cn) rfl (by kernel_rfl) (by kernel_rfl) (by kernel_rfl) (fun _ _ _ h => h) (Or.inl ⟨by rfl, fun w => by go_simp⟩) ?_
                go_simp
                refine wpAny_take (i := 1) (v := .int .i64 (k : Int)) rfl (by kernel_rfl) (by kernel_rfl) (by kernel_rfl) (fun _ _ _ h => h) (Or.inl ⟨by rfl, fun w => by go_simp⟩) ?_
                go_simp
                refine wpAny_take (i := 2) (v := .pointer (some ⟨g, k, none⟩)) rfl (by kernel_rfl) (by kernel_rfl) (by kernel_rfl) (fun _ _ _ h => h) (Or.inl ⟨by rfl, fun w => by go_simp⟩) ?_
                go_simp
                refine wpAny_ready (rs := [3]) (by kernel_rfl) (by simp) ?_
                refine AllReady.cons rfl (fun K hK => ?_) AllReady.nil
                go_simp
                refine hK _ _ ?_
                clear hK K
                refine wpAny_ready (rs := [4]) (by kernel_rfl) (by simp) ?_
                refine AllReady.cons rfl (fun K hK => ?_) AllReady.nil
                go_simp
                go_at_call 21
                refine hN.mono ?_
                rintro e w3 ⟨rfl, hb3⟩
                go_simp
                refine hK _ _ ?_
                clear hK K
                refine wpAny_take (i := 5) (v := .bool true) rfl (by kernel_rfl) (by kernel_rfl) (by kernel_rfl) (fun _ _ _ h => h) (Or.inl ⟨by rfl, fun w => by go_simp⟩) ?_
                go_simp
                refine wpAny_take (i := 6) (v := .bool true) rfl (by kernel_rfl) (by kernel_rfl) (by kernel_rfl) (fun _ _ _ h => h) (Or.inl ⟨by rfl, fun w => by go_simp⟩) ?_
                go_simp
                refine wpAny_take (i := 7) (v := undef) rfl (by kernel_rfl) (by kernel_rfl) (by kernel_rfl) (fun _ _ _ h => h) (Or.inr ⟨by rfl, rfl⟩) ?_
                go_simp
                refine wpAny_take (i := 8) (v := undef) rfl (by kernel_rfl) (by kernel_rfl) (by kernel_rfl) (fun _ _ _ h => h) (Or.inr ⟨by rfl, rfl⟩) ?_
                go_simp
                refine wpAny_take (i := 9) (v := undef) rfl (by kernel_rfl) (by kernel_rfl) (by kernel_rfl) (fun _ _ _ h => h) (Or.inr ⟨by rfl, rfl⟩) ?_
                go_simp
                refine wpAny_take (i := 10) (v := undef) rfl (by kernel_rfl) (by kernel_rfl) (by kernel_rfl) (fun _ _ _ h => h) (Or.inr ⟨by rfl, rfl⟩) ?_
                go_simp
                refine wpAny_take (i := 11) (v := undef) rfl (by kernel_rfl) (by kernel_rfl) (by kernel_rfl) (fun _ _ _ h => h) (Or.inr ⟨by rfl, rfl⟩) ?_
                go_simp
                refine wpAny_take (i := 12) (v := undef) rfl (by kernel_rfl) (by kernel_rfl) (by kernel_rfl) (fun _ _ _ h => h) (Or.inr ⟨by rfl, rfl⟩) ?_
                go_simp
                refine wpAny_take (i := 13) (v := undef) rfl (by kernel_rfl) (by kernel_rfl) (by kernel_rfl) (fun _ _ _ h => h) (Or.inr ⟨by rfl, rfl⟩) ?_
                go_simp
                refine wpAny_take (i := 14) (v := undef) rfl (by kernel_rfl) (by kernel_rfl) (by kernel_rfl) (fun _ _ _ h => h) (Or.inr ⟨by rfl, rfl⟩) ?_
                go_simp
                refine wpAny_take (i := 15) (v := undef) rfl (by kernel_rfl) (by kernel_rfl) (by kernel_rfl) (fun _ _ _ h => h) (Or.inr ⟨by rfl, rfl⟩) ?_
                go_simp
                refine wpAny_take (i := 16) (v := .bool true) rfl (by kernel_rfl) (by kernel_rfl) (by kernel_rfl) (fun _ _ _ h => h) (Or.inl ⟨by rfl, fun w => by go_simp⟩) ?_
                go_simp
                refine wpAny_done (by kernel_rfl) ?_ _
                go_wp2
                go_ret
                exact ⟨ret_b HF.out.symm, (hI.next ⟨hb3.os, hb3.tape, hb3.output, hb3.size, hb3.block⟩).below⟩
              · rw [e1] at hN
                cases e2 : among (L.take k) L[k]
                · have HE : Hid ((isName L[k] && !among ([] ++ L.take k) L[k]) = true) := HW.out (by rw [e1, e2]; rfl)
                  rw [e2] at hP
                  generalize L[k] = y at q hN hP HC
                  go_wp2
                  refine wp_region_any (by kernel_rfl) ?_
                  change wpAny _ _ _ _ _ _ _ (World.drew _)
                  refine wpAny_take (i := 0) (v := .slice (some ⟨g, 0, none⟩) L.length cn) rfl (by kernel_rfl) (by kernel_rfl) (by kernel_rfl) (fun _ _ _ h => h) (Or.inl ⟨by rfl, fun w => by go_simp⟩) ?_
                  go_simp
                  refine wpAny_take (i := 1) (v := .int .i64 (k : Int)) rfl (by kernel_rfl) (by kernel_rfl) (by kernel_rfl) (fun _ _ _ h => h) (Or.inl ⟨by rfl, fun w => by go_simp⟩) ?_
                  go_simp
                  refine wpAny_take (i := 2) (v := .pointer (some ⟨g, k, none⟩)) rfl (by kernel_rfl) (by kernel_rfl) (by kernel_rfl) (fun _ _ _ h => h) (Or.inl ⟨by rfl, fun w => by go_simp⟩) ?_
                  go_simp
                  refine wpAny_ready (rs := [3]) (by kernel_rfl) (by simp) ?_
                  refine AllReady.cons rfl (fun K hK => ?_) AllReady.nil
                  go_simp
                  refine hK _ _ ?_
                  clear hK K
                  refine wpAny_ready (rs := [4]) (by kernel_rfl) (by simp) ?_
                  refine AllReady.cons rfl (fun K hK => ?_) AllReady.nil
                  go_simp
                  go_at_call 21
                  refine hN.mono ?_
                  rintro e w3 ⟨rfl, hb3⟩
                  go_simp
                  refine hK _ _ ?_
                  clear hK K
                  obtain ⟨q3, hI3, hS3⟩ := HC.out w3 hb3
                  refine wpAny_take (i := 5) (v := .bool false) rfl (by kernel_rfl) (by kernel_rfl) (by kernel_rfl) (fun _ _ _ h => h) (Or.inl ⟨by rfl, fun w => by go_simp⟩) ?_
                  go_simp
                  refine wpAny_take (i := 6) (v := .bool false) rfl (by kernel_rfl) (by kernel_rfl) (by kernel_rfl) (fun _ _ _ h => h) (Or.inl ⟨by rfl, fun w => by go_simp⟩) ?_
                  go_simp
                  refine wpAny_take (i := 7) (v := .slice (some ⟨g, 0, none⟩) L.length cn) rfl (by kernel_rfl) (by kernel_rfl) (by kernel_rfl) (fun _ _ _ h => h) (Or.inl ⟨by rfl, fun w => by go_simp⟩) ?_
                  go_simp
                  refine wpAny_take (i := 8) (v := .int .i64 (k : Int)) rfl (by kernel_rfl) (by kernel_rfl) (by kernel_rfl) (fun _ _ _ h => h) (Or.inl ⟨by rfl, fun w => by go_simp⟩) ?_
                  go_simp
                  refine wpAny_take (i := 9) (v := .slice (some ⟨g, 0, none⟩) k cn) rfl (by kernel_rfl) (by kernel_rfl) (by kernel_rfl) (fun _ _ _ h => h) (Or.inl ⟨by rfl, fun w => by go_simp⟩) ?_
                  go_simp
                  refine wpAny_take (i := 10) (v := .slice (some ⟨g, 0, none⟩) L.length cn) rfl (by kernel_rfl) (by kernel_rfl) (by kernel_rfl) (fun _ _ _ h => h) (Or.inl ⟨by rfl, fun w => by go_simp⟩) ?_
                  go_simp
                  refine wpAny_take (i := 11) (v := .int .i64 (k : Int)) rfl (by kernel_rfl) (by kernel_rfl) (by kernel_rfl) (fun _ _ _ h => h) (Or.inl ⟨by rfl, fun w => by go_simp⟩) ?_
                  go_simp
                  refine wpAny_take (i := 12) (v := .pointer (some ⟨g, k, none⟩)) rfl (by kernel_rfl) (by kernel_rfl) (by kernel_rfl) (fun _ _ _ h => h) (Or.inl ⟨by rfl, fun w => by go_simp⟩) ?_
                  go_simp
                  refine wpAny_ready (rs := [13]) (by kernel_rfl) (by simp) ?_
                  refine AllReady.cons rfl (fun K hK => ?_) AllReady.nil
                  go_simp
                  refine hK _ _ ?_
                  clear hK K
                  refine wpAny_ready (rs := [14]) (by kernel_rfl) (by simp) ?_
                  refine AllReady.cons rfl (fun K hK => ?_) AllReady.nil
                  go_simp
                  go_at_call 54
                  refine (hP _ hS3).mono ?_
                  rintro e w4 ⟨⟨n, rfl, hn4⟩, hw4⟩
                  obtain rfl := hw4.symm
                  simp only [decide_eq_true_eq, decide_eq_false_iff_not] at hn4
                  go_simp
                  refine hK _ _ ?_
                  clear hK K
                  refine wpAny_take (i := 15) (v := .bool false) rfl (by kernel_rfl) (by kernel_rfl) (by kernel_rfl) (fun _ _ _ h => h) (Or.inl ⟨by rfl, fun w => by go_simp⟩) ?_
                  go_simp
                  refine wpAny_take (i := 16) (v := .bool false) rfl (by kernel_rfl) (by kernel_rfl) (by kernel_rfl) (fun _ _ _ h => h) (Or.inl ⟨by rfl, fun w => by go_simp⟩) ?_
                  go_simp
                  refine wpAny_done (by kernel_rfl) ?_ _
                  go_wp2
                  go_roundw
                  case rel => exact ⟨k + 1, by omega, by go_num, hI3, fun i h h1 => by
                    rcases Nat.lt_or_ge i k with h3 | h3
                    · exact HM.out i h h3
                    · have : i = k := by omega
                      subst this
                      exact HE.out⟩
                  case measure => simp [intOf]; omega
                · have HF : Hid (V = false) := HZ.out (by rw [e1, e2]; rfl)
                  rw [e2] at hP
                  generalize L[k] = y at q hN hP HC
                  go_wp2
                  refine wp_region_any (by kernel_rfl) ?_
                  change wpAny _ _ _ _ _ _ _ (World.drew _)
                  refine wpAny_take (i := 0) (v := .slice (some ⟨g, 0, none⟩) L.length cn) rfl (by kernel_rfl) (by kernel_rfl) (by kernel_rfl) (fun _ _ _ h => h) (Or.inl ⟨by rfl, fun w => by go_simp⟩) ?_
                  go_simp
                  refine wpAny_take (i := 1) (v := .int .i64 (k : Int)) rfl (by kernel_rfl) (by kernel_rfl) (by kernel_rfl) (fun _ _ _ h => h) (Or.inl ⟨by rfl, fun w => by go_simp⟩) ?_
                  go_simp
                  refine wpAny_take (i := 2) (v := .pointer (some ⟨g, k, none⟩)) rfl (by kernel_rfl) (by kernel_rfl) (by kernel_rfl) (fun _ _ _ h => h) (Or.inl ⟨by rfl, fun w => by go_simp⟩) ?_
                  go_simp
                  refine wpAny_ready (rs := [3]) (by kernel_rfl) (by simp) ?_
                  refine AllReady.cons rfl (fun K hK => ?_) AllReady.nil
                  go_simp
                  refine hK _ _ ?_
                  clear hK K
                  refine wpAny_ready (rs := [4]) (by kernel_rfl) (by simp) ?_
                  refine AllReady.cons rfl (fun K hK => ?_) AllReady.nil
                  go_simp
                  go_at_call 21
                  refine hN.mono ?_
                  rintro e w3 ⟨rfl, hb3⟩
                  go_simp
                  refine hK _ _ ?_
                  clear hK K
                  obtain ⟨q3, hI3, hS3⟩ := HC.out w3 hb3
                  refine wpAny_take (i := 5) (v := .bool false) rfl (by kernel_rfl) (by kernel_rfl) (by kernel_rfl) (fun _ _ _ h => h) (Or.inl ⟨by rfl, fun w => by go_simp⟩) ?_
                  go_simp
                  refine wpAny_take (i := 6) (v := .bool false) rfl (by kernel_rfl) (by kernel_rfl) (by kernel_rfl) (fun _ _ _ h => h) (Or.inl ⟨by rfl, fun w => by go_simp⟩) ?_
                  go_simp
                  refine wpAny_take (i := 7) (v := .slice (some ⟨g, 0, none⟩) L.length cn) rfl (by kernel_rfl) (by kernel_rfl) (by kernel_rfl) (fun _ _ _ h => h) (Or.inl ⟨by rfl, fun w => by go_simp⟩) ?_
                  go_simp
                  refine wpAny_take (i := 8) (v := .int .i64 (k : Int)) rfl (by kernel_rfl) (by kernel_rfl) (by kernel_rfl) (fun _ _ _ h => h) (Or.inl ⟨by rfl, fun w => by go_simp⟩) ?_
                  go_simp
                  refine wpAny_take (i := 9) (v := .slice (some ⟨g, 0, none⟩) k cn) rfl (by kernel_rfl) (by kernel_rfl) (by kernel_rfl) (fun _ _ _ h => h) (Or.inl ⟨by rfl, fun w => by go_simp⟩) ?_
                  go_simp
                  refine wpAny_take (i := 10) (v := .slice (some ⟨g, 0, none⟩) L.length cn) rfl (by kernel_rfl) (by kernel_rfl) (by kernel_rfl) (fun _ _ _ h => h) (Or.inl ⟨by rfl, fun w => by go_simp⟩) ?_
                  go_simp
                  refine wpAny_take (i := 11) (v := .int .i64 (k : Int)) rfl (by kernel_rfl) (by kernel_rfl) (by kernel_rfl) (fun _ _ _ h => h) (Or.inl ⟨by rfl, fun w => by go_simp⟩) ?_
                  go_simp
                  refine wpAny_take (i := 12) (v := .pointer (some ⟨g, k, none⟩)) rfl (by kernel_rfl) (by kernel_rfl) (by kernel_rfl) (fun _ _ _ h => h) (Or.inl ⟨by rfl, fun w => by go_simp⟩) ?_
                  go_simp
                  refine wpAny_ready (rs := [13]) (by kernel_rfl) (by simp) ?_
                  refine AllReady.cons rfl (fun K hK => ?_) AllReady.nil
                  go_simp
                  refine hK _ _ ?_
                  clear hK K
                  refine wpAny_ready (rs := [14]) (by kernel_rfl) (by simp) ?_
                  refine AllReady.cons rfl (fun K hK => ?_) AllReady.nil
                  go_simp
                  go_at_call 54
                  refine (hP _ hS3).mono ?_
                  rintro e w4 ⟨⟨n, rfl, hn4⟩, hw4⟩
                  obtain rfl := hw4.symm
                  simp only [decide_eq_true_eq, decide_eq_false_iff_not] at hn4
                  go_simp
                  refine hK _ _ ?_
                  clear hK K
                  refine wpAny_take (i := 15) (v := .bool true) rfl (by kernel_rfl) (by kernel_rfl) (by kernel_rfl) (fun _ _ _ h => h) (Or.inl ⟨by rfl, fun w => by go_simp⟩) ?_
                  go_simp
                  refine wpAny_take (i := 16) (v := .bool true) rfl (by kernel_rfl) (by kernel_rfl) (by kernel_rfl) (fun _ _ _ h => h) (Or.inl ⟨by rfl, fun w => by go_simp⟩) ?_
                  go_simp
                  refine wpAny_done (by kernel_rfl) ?_ _
                  go_wp2
                  go_ret
                  exact ⟨ret_b HF.out.symm, hI3.below⟩
            · have HF : Hid (V = true) := HB.out.trans (apartN_yes (fun i h => HM.out i h (by omega)))
              go_wp2
              go_ret
              exact ⟨ret_b HF.out.symm, hI.below⟩
end Go.Proofs.YthfeojjfehbgjaaGreatDoor.face
