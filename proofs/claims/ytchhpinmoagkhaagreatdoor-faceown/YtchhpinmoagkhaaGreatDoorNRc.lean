/- Rows of nodes that are made; what the reference's more answers: a contract. What the reference's call answers, once those that it calls do: a contract. What the reference's reader answers of expressions: the six contracts together, by induction over the fuel. What the reference's block answers, once stat does: a contract. What the reference's stat answers, once those that it calls do: contracts, a way at a time. -/
import Derived.Test.YtchhpinmoagkhaaGreatDoorProg
import Derived.WalkKit
import Derived.WalkLawsBesides
import Derived.Outline
import Derived.WalkSmall
import Derived.OneCell
import Derived.Test.YtchhpinmoagkhaaGreatDoorNRb
import Derived.Deep.LoopGhost
import Derived.Test.YtchhpinmoagkhaaGreatDoorNSa
import Derived.Deep.RegionWith
namespace Go.Proofs.YtchhpinmoagkhaaGreatDoor.syn
open Go.RowKit
open Go.Proofs.YtchhpinmoagkhaaGreatDoor.lexs (Tok own_shape)
set_option linter.unusedVariables false

theorem nodeInfo : (Tryz.prog.info? 24).map (fun i => (i.zero, i.size, i.bytes)) = some (some (.agg #[.int .i64 0, .string ⟨#[]⟩, .int .i64 0, .slice none 0 0]), 4, 56) := by kernel_rfl
abbrev Q4 := Value × Value × Value × Value
def Q4.v (q : Q4) : Value := .agg #[q.1, q.2.1, q.2.2.1, q.2.2.2]
def flat4 (vs : List Q4) : List Value := vs.flatMap fun q => [q.1, q.2.1, q.2.2.1, q.2.2.2]
theorem flat4_length (vs : List Q4) : (flat4 vs).length = vs.length * 4 := by
  induction vs with
  | nil => rfl
  | cons q vs ih => simp only [flat4, List.flatMap_cons, List.length_append, List.length_cons, List.length_nil] at ih ⊢; omega
theorem flat4_snoc (vs : List Q4) (q : Q4) : flat4 (vs ++ [q]) = flat4 vs ++ [q.1, q.2.1, q.2.2.1, q.2.2.2] := by simp [flat4]
def AllLie (P : Nat → Prop) (w : World) : List Tree → List Q4 → Prop
  | [], [] => True
  | t :: r, q :: vs => Lies P w t q.v ∧ AllLie P w r vs
  | _, _ => False
theorem AllLie.length {P : Nat → Prop} {w : World} : ∀ {ks : List Tree} {vs : List Q4}, AllLie P w ks vs → ks.length = vs.length
  | [], [], _ => rfl
  | t :: r, q :: vs, h => by simp [AllLie.length h.2]
  | [], _ :: _, h => by simp [AllLie] at h
  | _ :: _, [], h => by simp [AllLie] at h
theorem AllLie.to {P Q : Nat → Prop} {w w' : World} (hPQ : ∀ b, P b → Q b) (hw : ∀ b, P b → ∀ o, w'.cell? ⟨b, o, none⟩ = w.cell? ⟨b, o, none⟩) : ∀ {ks : List Tree} {vs : List Q4}, AllLie P w ks vs → AllLie Q w' ks vs
  | [], [], _ => trivial
  | t :: r, q :: vs, h => ⟨h.1.to hPQ hw, AllLie.to hPQ hw h.2⟩
  | [], _ :: _, h => by simp [AllLie] at h
  | _ :: _, [], h => by simp [AllLie] at h
theorem AllLie.snoc {P : Nat → Prop} {w : World} {t : Tree} {q : Q4} (hq : Lies P w t q.v) : ∀ {ks : List Tree} {vs : List Q4}, AllLie P w ks vs → AllLie P w (ks ++ [t]) (vs ++ [q])
  | [], [], _ => ⟨hq, trivial⟩
  | t' :: r, q' :: vs, h => ⟨h.1, AllLie.snoc hq h.2⟩
  | [], _ :: _, h => by simp [AllLie] at h
  | _ :: _, [], h => by simp [AllLie] at h
theorem AllLie.at {P : Nat → Prop} {w : World} {g : Nat} : ∀ {ks : List Tree} {vs : List Q4} {o : Nat}, AllLie P w ks vs → (∀ j, j < vs.length * 4 → w.cell? ⟨g, o + j, none⟩ = (flat4 vs)[j]?) → LiesAt P w ks g o
  | [], [], o, _, _ => by unfold LiesAt; trivial
  | t :: r, q :: vs, o, h, hc => by
    unfold LiesAt
    have e : flat4 (q :: vs) = [q.1, q.2.1, q.2.2.1, q.2.2.2] ++ flat4 vs := rfl
    refine ⟨⟨q.v, ⟨q.1, q.2.1, q.2.2.1, q.2.2.2, rfl, ?_, ?_, ?_, ?_⟩, h.1⟩, AllLie.at h.2 ?_⟩
    · have := hc 0 (by simp <;> omega); rw [e] at this; simpa using this
    · have := hc 1 (by simp <;> omega); rw [e] at this; simpa using this
    · have := hc 2 (by simp <;> omega); rw [e] at this; simpa using this
    · have := hc 3 (by simp <;> omega); rw [e] at this; simpa using this
    · intro j hj
      have := hc (4 + j) (by simp; omega)
      rw [e, List.getElem?_append_right (by simp), ← Nat.add_assoc] at this
      simpa using this
  | [], _ :: _, _, h, _ => by simp [AllLie] at h
  | _ :: _, [], _, h, _ => by simp [AllLie] at h
/-- a row of nodes of one's own -/
def Kids (B : Nat) (P : Nat → Prop) (w : World) (kv : Value) (ks : List Tree) : Prop := ∃ vs, w.ownsRow B 24 4 kv ks.length (flat4 vs) ∧ AllLie P w ks vs
theorem Kids.nil (B : Nat) (P : Nat → Prop) (w : World) : Kids B P w (.slice none 0 0) [] := ⟨[], World.ownsRow_nil _ _ _ _, trivial⟩
theorem Kids.lies {B : Nat} {P Q : Nat → Prop} {w : World} {kv : Value} {ks : List Tree} {k m : Int} {x : ByteArray} (h : Kids B P w kv ks) (hPQ : ∀ b, P b → Q b) (hg : ∀ g, kv.ownBlock = some g → Q g) (hl : ks.length ≤ 4611686018427387904) : Lies Q w (.node k x m ks) (.agg #[.int .i64 k, .string x, .int .i64 m, kv]) := by
  obtain ⟨vs, ho, ha⟩ := h
  have hlen := ha.length
  obtain ⟨a, c, rfl, _, hs⟩ := own_shape ho
  unfold Lies
  refine ⟨a, c, rfl, hl, fun hne => ?_⟩
  have h0 : 0 < ks.length := by cases ks with | nil => exact absurd rfl hne | cons _ _ => simp
  obtain ⟨g, rfl⟩ := hs h0
  refine ⟨g, 0, rfl, hg g rfl, (ha.to hPQ (fun _ _ _ => rfl)).at ?_⟩
  intro j hj
  rw [Nat.zero_add]
  exact ho.cellAt j (by omega)
theorem cells4_new (w : World) (a b c d : Value) (t : TypeId) (g : Nat) (hg : g = w.heap.size) : ∀ j u, [a, b, c, d][j]? = some u → (w.alloc (.cells #[a, b, c, d] t)).cell? ((⟨g, 0, none⟩ : Addr).add j) = some u := by
  subst hg
  intro j u hj
  match j, hj with
  | 0, hj => simp at hj; subst hj; simp [Addr.add]
  | 1, hj => simp at hj; subst hj; simp [Addr.add]
  | 2, hj => simp at hj; subst hj; simp [Addr.add]
  | 3, hj => simp at hj; subst hj; simp [Addr.add]
theorem grown_trans {a b c : World} {row : Option Nat} (h : a.grownBy b row) (k : b.grownBy c row) : a.grownBy c row :=
  ⟨k.os.trans h.os, k.tape.trans h.tape, k.output.trans h.output, Nat.le_trans h.size k.size, fun j hj hn => (k.block j (Nat.lt_of_lt_of_le hj h.size) hn).trans (h.block j hj hn)⟩
theorem grown_set {w w1 : World} {row : Option Nat} (h : w.grownBy w1 row) {N o : Nat} (hN : w.heap.size ≤ N) (v : Value) : w.grownBy (w1.setCell ⟨N, o, none⟩ v) row :=
  ⟨h.os, h.tape, h.output, by rw [World.size_setCell]; exact h.size, fun j hj hn => (Below.heap_setCell _ _ _ _ (by simp <;> omega)).trans (h.block j hj hn)⟩
theorem Box4.grown {w w' : World} {row : Option Nat} {N : Nat} {x0 x1 x2 x3 : Value} (h : Box4 w N x0 x1 x2 x3) (hF : w.grownBy w' row) (hN : row ≠ some N) : Box4 w' N x0 x1 x2 x3 := by
  have hb := hF.block N h.lt (fun e => hN e.symm)
  exact ⟨(World.cell?_of_block (a := ⟨N, 0, none⟩) hb).trans h.c0, (World.cell?_of_block (a := ⟨N, 1, none⟩) hb).trans h.c1, (World.cell?_of_block (a := ⟨N, 2, none⟩) hb).trans h.c2, (World.cell?_of_block (a := ⟨N, 3, none⟩) hb).trans h.c3,
    (World.frozen?_of_block (a := ⟨N, 0, none⟩) hb).trans h.f0, (World.frozen?_of_block (a := ⟨N, 1, none⟩) hb).trans h.f1, (World.frozen?_of_block (a := ⟨N, 2, none⟩) hb).trans h.f2, (World.frozen?_of_block (a := ⟨N, 3, none⟩) hb).trans h.f3⟩
set_option maxRecDepth 100000 in
set_option maxHeartbeats 1000000 in
theorem rmore (w : World) (kk m : Int) (x : ByteArray) (kv : Value) (ks : List Tree) (B : Nat) (P : Nat → Prop) (t : Tree) (y0 y2 : Int) (y1 : ByteArray) (ya : Option Addr) (yn yc : Nat) (hK : Kids B P w kv ks) (hB : B ≤ w.heap.size) (hlen : ks.length ≤ 100000)
    (hL : Lies P w t (.agg #[.int .i64 y0, .string y1, .int .i64 y2, .slice ya yn yc])) (hP : ∀ b, P b → b < w.heap.size ∧ some b ≠ kv.ownBlock) :
    Calls Tryz.prog 125 #[.agg #[.int .i64 kk, .string x, .int .i64 m, kv], .agg #[.int .i64 y0, .string y1, .int .i64 y2, .slice ya yn yc]] w fun e w' => ∃ kv', e = .returned (.agg #[.int .i64 kk, .string x, .int .i64 m, kv']) ∧ Kids B P w' kv' (ks ++ [t]) ∧ w.grownBy w' kv.ownBlock ∧
      (kv'.ownBlock = kv.ownBlock ∨ ∃ g, kv'.ownBlock = some g ∧ w.heap.size ≤ g) := by
  have c24 : Tryz.prog.cellsOf 24 = 4 := by kernel_rfl
  obtain ⟨i0, hi, hz0, hz1, hz2⟩ := info_parts nodeInfo
  obtain ⟨vs, ho, ha⟩ := hK
  have HVL : Hid (AllLie P w ks vs) := ha
  clear ha
  obtain ⟨a, c, rfl, hmx, hs⟩ := own_shape ho
  have hob : (Value.slice a ks.length c).ownBlock ≠ some w.heap.size ∧ (Value.slice a ks.length c).ownBlock ≠ some (w.heap.size + 1) ∧ (Value.slice a ks.length c).ownBlock ≠ some (w.heap.size + 2) := by
    refine ⟨fun e => ?_, fun e => ?_, fun e => ?_⟩ <;> (have := (ho.lt _ e).2; omega)
  have hbx := Box4.new ((w.alloc (.cells #[.int .i64 kk, .string x, .int .i64 m, .slice a ks.length c] 24)).alloc (.cells #[.int .i64 y0, .string y1, .int .i64 y2, .slice ya yn yc] 24)) (.int .i64 0) (.string empty) (.int .i64 0) (.slice none 0 0) 24
  rw [World.size_alloc, World.size_alloc] at hbx
  go_enter Tryz.func125, Tryz.ntmps125
  go_wp2_with (at_builtin; refine wpList_append_fresh rfl (.tmp 6) (.tmp 8) 22 rfl B 24 i0 (.agg #[.int .i64 0, .string ⟨#[]⟩, .int .i64 0, .slice none 0 0]) 4 56 Tryz.underlying22 hi hz0 hz1 hz2 rfl (by decide) _ _ _ rfl ((((ho.alloc _).alloc _).alloc _).alloc _) ⟨w.heap.size + 3, 0, none⟩ 1 1 [.int .i64 y0, .string y1, .int .i64 y2, .slice ya yn yc] rfl rfl (cells4_new _ _ _ _ _ _ _ (by simp)) (by intro u hu; simp at hu; rcases hu with rfl | rfl | rfl | rfl <;> rfl) (by unfold maxLen; omega) (by omega) (by simp <;> omega) (by decide) ?_; intro v' w1 hown' hgrow hfr; obtain ⟨a', c', rfl, hmx', _⟩ := own_shape hown'; obtain ⟨p0, p1, p2, p3, e0, e1, e2, e3⟩ := ((((Box4.new w (.int .i64 kk) (.string x) (.int .i64 m) (.slice a ks.length c) 24).alloc _).alloc _).alloc _).grown hgrow hob.1; obtain ⟨q0, q1, q2, q3, t0, t1, t2, t3⟩ := ((hbx).alloc _).grown hgrow hob.2.2)
  have hG : w.grownBy w1 (Value.slice a ks.length c).ownBlock := grown_trans (grown_trans (grown_trans (grown_trans (World.grownBy_alloc w _ _) (World.grownBy_alloc _ _ _)) (World.grownBy_alloc _ _ _)) (World.grownBy_alloc _ _ _)) hgrow
  have hfr' : (Value.slice a' (ks.length + 1) c').ownBlock = (Value.slice a ks.length c).ownBlock ∨ (Value.slice a' (ks.length + 1) c').ownBlock = some (w.heap.size + 4) := by
    rcases hfr with e | e
    · exact .inl e
    · exact .inr (by rw [e]; simp)
  have n0 : (Value.slice a' (ks.length + 1) c').ownBlock ≠ some w.heap.size := by rcases hfr' with e | e <;> rw [e]; exact hob.1; simp
  have n2 : (Value.slice a' (ks.length + 1) c').ownBlock ≠ some (w.heap.size + 1 + 1) := by rcases hfr' with e | e <;> rw [e]; exact hob.2.2; simp
  have hG' := grown_set (o := 3) (grown_set (o := 2) (grown_set (o := 1) (grown_set (o := 0) (grown_set (o := 3) (N := w.heap.size) hG (Nat.le_refl _) (.slice a' (ks.length + 1) c')) (show w.heap.size ≤ w.heap.size + 1 + 1 by omega) (.int .i64 kk)) (show w.heap.size ≤ w.heap.size + 1 + 1 by omega) (.string x)) (show w.heap.size ≤ w.heap.size + 1 + 1 by omega) (.int .i64 m)) (show w.heap.size ≤ w.heap.size + 1 + 1 by omega) (.slice a' (ks.length + 1) c')
  have hsame : ∀ b, P b → ∀ o, World.cell? _ ⟨b, o, none⟩ = w.cell? ⟨b, o, none⟩ := fun b hb o => World.cell?_of_block (a := ⟨b, o, none⟩) (hG'.block b (hP b hb).1 (hP b hb).2)
  refine bodyPost_ret (v := .agg #[.int .i64 kk, .string x, .int .i64 m, .slice a' (ks.length + 1) c']) (by simp [results, Tryz.results125, go_sem, q0, q1, q2, q3]) rfl ⟨_, rfl, ⟨vs ++ [(.int .i64 y0, .string y1, .int .i64 y2, .slice ya yn yc)], ?_, ?_⟩, hG', ?_⟩
  · rw [flat4_snoc, List.length_append]
    exact ownsRow_setCell_other (ownsRow_setCell_other (ownsRow_setCell_other (ownsRow_setCell_other (ownsRow_setCell_other hown' n0 _) n2 _) n2 _) n2 _) n2 _
  · exact AllLie.snoc (hL.to (fun _ h => h) hsame) (HVL.out.to (fun _ h => h) hsame)
  · rcases hfr' with e | e
    · exact .inl e
    · exact .inr ⟨_, e, by omega⟩
end Go.Proofs.YtchhpinmoagkhaaGreatDoor.syn
namespace Go.Proofs.YtchhpinmoagkhaaGreatDoor.syn
open Go.RowKit
open Go.Proofs.YtchhpinmoagkhaaGreatDoor.lexs (Tok own_shape)
set_option linter.unusedVariables false

section
variable {w : World} {r : Nat} {L : Value} {ts : List Tok} {s : St}
theorem Kids.shape {B : Nat} {P : Nat → Prop} {kv : Value} {ks : List Tree} (h : Kids B P w kv ks) : ∃ a c, kv = .slice a ks.length c := by
  obtain ⟨vs, ho, _⟩ := h
  obtain ⟨a, c, e, _⟩ := own_shape ho
  exact ⟨a, c, e⟩
theorem Kids.blk {B : Nat} {P : Nat → Prop} {kv : Value} {ks : List Tree} (h : Kids B P w kv ks) {g : Nat} (hg : kv.ownBlock = some g) : B ≤ g ∧ g < w.heap.size := by
  obtain ⟨vs, ho, _⟩ := h
  exact ho.lt g hg
/-- behind what leaves the row and the trees -/
theorem Kids.grown {B : Nat} {P Q : Nat → Prop} {w' : World} {row : Option Nat} {kv : Value} {ks : List Tree} (h : Kids B P w kv ks) (hg : w.grownBy w' row) (hk : kv.ownBlock = none ∨ kv.ownBlock ≠ row) (hP : ∀ b, P b → b < w.heap.size ∧ some b ≠ row) (hQ : ∀ b, P b → Q b) : Kids B Q w' kv ks := by
  obtain ⟨vs, ho, ha⟩ := h
  exact ⟨vs, ho.kept hg hk, ha.to hQ (fun b hb o => World.cell?_of_block (a := ⟨b, o, none⟩) (hg.block b (hP b hb).1 (hP b hb).2))⟩
theorem Rd.grown {w' : World} {row : Option Nat} (h : Rd w r L ts s) (hg : w.grownBy w' row) (hr : row ≠ some r) (hL : L.ownBlock = none ∨ L.ownBlock ≠ row) : Rd w' r L ts s := by
  have hb := hg.block r h.lt (fun e => hr e.symm)
  exact ⟨(World.cell?_of_block (a := ⟨r, 0, none⟩) hb).trans h.c0, (World.cell?_of_block (a := ⟨r, 1, none⟩) hb).trans h.c1, (World.cell?_of_block (a := ⟨r, 2, none⟩) hb).trans h.c2, (World.frozen?_of_block (a := ⟨r, 1, none⟩) hb).trans h.f1, (World.frozen?_of_block (a := ⟨r, 2, none⟩) hb).trans h.f2,
    h.own.kept hg hL, h.ne, h.len, h.le, h.num⟩
theorem Fr.grown {w1 w2 : World} {row : Option Nat} (h : Fr r w w1) (hg : w1.grownBy w2 row) (hr : ∀ k, row = some k → w.heap.size ≤ k) : Fr r w w2 :=
  ⟨hg.os.trans h.os, hg.tape.trans h.tape, hg.output.trans h.output, Nat.le_trans h.size hg.size, fun j hj hn => (hg.block j (Nat.lt_of_lt_of_le hj h.size) (fun e => by have := hr j e.symm; omega)).trans (h.block j hj hn)⟩
set_option maxRecDepth 100000 in
set_option maxHeartbeats 1000000 in
theorem rcall {f : Nat} (hf : f ≤ 100000)
    (ihE : ∀ {g : Nat}, g ≤ f → ∀ {w : World} {s : St} {q : Tree × St}, Rd w r L ts s → exprF ts g s = some q → Calls Tryz.prog 126 #[.pointer (some ⟨r, 0, none⟩)] w (Ans w r L ts q))
    (hR : Rd w r L ts s) (x : ByteArray) {q : Tree × St} (hq : callF ts (f + 1) x s = some q) : Calls Tryz.prog 128 #[.pointer (some ⟨r, 0, none⟩), .string x] w (Ans w r L ts q) := by
  have c24 : Tryz.prog.cellsOf 24 = 4 := by kernel_rfl
  have hr := hR.lt
  have hB0 := (Box4.new w (.int .i64 0) (.string empty) (.int .i64 0) (.slice none 0 0) 24).alloc (.cells #[.int .i64 18, .string x, .int .i64 0, .slice none 0 0] 24)
  have hB1 := Box4.new (w.alloc (.cells #[.int .i64 0, .string empty, .int .i64 0, .slice none 0 0] 24)) (.int .i64 18) (.string x) (.int .i64 0) (.slice none 0 0) 24
  rw [World.size_alloc] at hB1
  unfold callF at hq
  have hM : ∀ {w : World}, Rd w r L ts s → Calls Tryz.prog 23 #[.pointer (some ⟨r, 0, none⟩), .string ⟨#[40]⟩] w fun e w' => e = .returned (.tuple #[]) ∧ Rd w' r L ts (must ts ⟨#[40]⟩ s) ∧ Fr r w w' := fun h => rmust h ⟨#[40]⟩ (by decide)
  generalize must ts ⟨#[40]⟩ s = s0 at hM hq
  cases he : eqS (txt ts s0) ⟨#[41]⟩
  case true =>
    rw [he] at hq
    simp only [if_true, Option.some.injEq] at hq
    subst hq
    go_enter Tryz.func128, Tryz.ntmps128
    go_wp2_with (fail)
    refine (hM ((hR.alloc _).alloc _)).mono ?_
    rintro e w1 ⟨rfl, hR1, hF1⟩
    go_wp2_with (fail)
    refine (reat_yes hR1 ⟨#[41]⟩ (by decide) he).mono ?_
    rintro e w2 ⟨rfl, hR2, hF2⟩
    obtain ⟨q0, q1, q2, q3, t0, t1, t2, t3⟩ := (hB0.fr hF1 (by omega)).fr hF2 (by omega)
    obtain ⟨p0, p1, p2, p3, _, _, _, _⟩ := (hB1.fr hF1 (by omega)).fr hF2 (by omega)
    go_wp2
    exact bodyPost_ret (v := .agg #[.int .i64 18, .string x, .int .i64 0, .slice none 0 0]) (by simp [results, Tryz.results128, go_sem, q0, q1, q2, q3]) rfl
      (Ans.fin hR ((((Fr.al _ _).alloc _).trans hF1).trans hF2) hR2 (Nat.lt_succ_self _) (Lies.leaf _ _ _ _ _))
  case false =>
    rw [he] at hq
    simp only [Bool.false_eq_true, if_false] at hq
    have HQ : Hid (callL ts f x [] s0 true = some q) := hq
    clear hq
    go_enter Tryz.func128, Tryz.ntmps128
    go_wp2_with (fail)
    refine (hM ((hR.alloc _).alloc _)).mono ?_
    rintro e w1 ⟨rfl, hR1, hF1⟩
    go_wp2_with (fail)
    refine (reat_no hR1 ⟨#[41]⟩ (by decide) he).mono ?_
    rintro e w2 ⟨rfl, hR2, hF2⟩
    have hB0' := (hB0.fr hF1 (by omega)).fr hF2 (by omega)
    have hB1' := (hB1.fr hF1 (by omega)).fr hF2 (by omega)
    have hF02 := (((Fr.al w (.cells #[.int .i64 0, .string empty, .int .i64 0, .slice none 0 0] 24) (r := r)).alloc _).trans hF1).trans hF2
    clear hB0 hB1 he
    go_wp2
    go_loopg [6] f (fun k on wr => ∃ (ks : List Tree) (s1 : St) (kv : Value) (onb : Bool), on = .bool onb ∧ Hid (callL ts k x ks s1 onb = some q) ∧ ks.length + k ≤ f ∧ Box4 wr w.heap.size (.int .i64 0) (.string empty) (.int .i64 0) (.slice none 0 0) ∧ Box4 wr (w.heap.size + 1) (.int .i64 18) (.string x) (.int .i64 0) kv ∧
      Kids (w.heap.size + 2) (fun b => w.heap.size + 2 ≤ b ∧ b < wr.heap.size ∧ some b ≠ kv.ownBlock) wr kv ks ∧ Rd wr r L ts s1 ∧ Fr r w wr)
    case atStart => exact ⟨[], s0, .slice none 0 0, true, rfl, HQ.out, by simp, hB0', hB1', Kids.nil _ _ _, hR2, hF02⟩
    case round =>
      obtain ⟨ks, s1, kv, onb, rfl, HL, hkf, hb0, hb1, hK, hRr, hFr⟩ := hrel
      have hz1 := hb1.lt
      have hkb : ∀ g, kv.ownBlock = some g → w.heap.size + 2 ≤ g ∧ g < wr.heap.size := fun g hg => hK.blk hg
      cases gk with
      | zero => have := HL.out; unfold callL at this; simp at this
      | succ k =>
        have hq2 := HL.out
        clear HL HQ
        unfold callL at hq2
        cases onb
        case false =>
          simp only [Bool.false_and, Bool.false_eq_true, if_false, Option.some.injEq] at hq2
          subst hq2
          obtain ⟨a, c, rfl⟩ := hK.shape
          go_wp2_with (fail)
          refine (rmust hRr ⟨#[41]⟩ (by decide)).mono ?_
          rintro e w3 ⟨rfl, hR3, hF3⟩
          have hs3 := hF3.size
          obtain ⟨q0, q1, q2, q3, t0, t1, t2, t3⟩ := hb0.fr hF3 (by omega)
          obtain ⟨p0, p1, p2, p3, _, _, _, _⟩ := hb1.fr hF3 (by omega)
          have hK3 : Kids (w.heap.size + 2) (fun b => w.heap.size + 1 ≤ b ∧ b < w3.heap.size) w3 (.slice a ks.length c) ks :=
            hK.grown hF3 (.inr fun e => by have := (hkb r e).1; omega) (fun b hb => ⟨hb.2.1, by simp; omega⟩) (fun b hb => ⟨by omega, by omega⟩)
          have HK : Hid (Lies (fun b => w.heap.size + 1 ≤ b ∧ b < w3.heap.size) w3 (.node 18 x 0 ks) (.agg #[.int .i64 18, .string x, .int .i64 0, .slice a ks.length c])) :=
            hK3.lies (fun _ h => h) (fun g hg => ⟨by have := (hkb g hg).1; omega, by have := (hkb g hg).2; omega⟩) (by omega)
          clear hK hK3 hkb
          go_wp2
          exact bodyPost_ret (v := .agg #[.int .i64 18, .string x, .int .i64 0, .slice a ks.length c]) (by simp [results, Tryz.results128, go_sem, q0, q1, q2, q3]) rfl
            (Ans.fin hR (hFr.trans hF3) hR3 (Nat.lt_succ_self _) HK.out)
        case true =>
          have d2 := hRr.c2
          cases hbad : s1.bad
          case true =>
            rw [hbad] at hq2 d2
            simp only [Bool.not_true, Bool.and_false, Bool.false_eq_true, if_false, Option.some.injEq] at hq2
            subst hq2
            obtain ⟨a, c, rfl⟩ := hK.shape
            go_wp2_with (fail)
            refine (rmust hRr ⟨#[41]⟩ (by decide)).mono ?_
            rintro e w3 ⟨rfl, hR3, hF3⟩
            have hs3 := hF3.size
            obtain ⟨q0, q1, q2, q3, t0, t1, t2, t3⟩ := hb0.fr hF3 (by omega)
            obtain ⟨p0, p1, p2, p3, _, _, _, _⟩ := hb1.fr hF3 (by omega)
            have hK3 : Kids (w.heap.size + 2) (fun b => w.heap.size + 1 ≤ b ∧ b < w3.heap.size) w3 (.slice a ks.length c) ks :=
              hK.grown hF3 (.inr fun e => by have := (hkb r e).1; omega) (fun b hb => ⟨hb.2.1, by simp; omega⟩) (fun b hb => ⟨by omega, by omega⟩)
            have HK : Hid (Lies (fun b => w.heap.size + 1 ≤ b ∧ b < w3.heap.size) w3 (.node 18 x 0 ks) (.agg #[.int .i64 18, .string x, .int .i64 0, .slice a ks.length c])) :=
              hK3.lies (fun _ h => h) (fun g hg => ⟨by have := (hkb g hg).1; omega, by have := (hkb g hg).2; omega⟩) (by omega)
            clear hK hK3 hkb
            go_wp2
            exact bodyPost_ret (v := .agg #[.int .i64 18, .string x, .int .i64 0, .slice a ks.length c]) (by simp [results, Tryz.results128, go_sem, q0, q1, q2, q3]) rfl
              (Ans.fin hR (hFr.trans hF3) hR3 (Nat.lt_succ_self _) HK.out)
          case false =>
            rw [hbad] at hq2 d2
            simp only [Bool.not_false, Bool.and_true, if_true] at hq2
            cases h1 : exprF ts k s1 with
            | none => rw [h1] at hq2; simp at hq2
            | some q1 =>
              rw [h1] at hq2
              simp only [Option.bind_some] at hq2
              have HQ2 : Hid (callL ts k x (ks ++ [q1.1]) (eat ts ⟨#[44]⟩ q1.2).2 (eat ts ⟨#[44]⟩ q1.2).1 = some q) := hq2
              clear hq2
              obtain ⟨a, c, rfl⟩ := hK.shape
              go_wp2_with (fail)
              refine (ihE (by omega) hRr h1).mono ?_
              rintro e w3 ⟨v3, rfl, hL3, hR3, hF3⟩
              obtain ⟨k3, y3, m3, _, rfl, a3, n3, c3, rfl⟩ := hL3.shape
              have hs3 := hF3.size
              have hz3 : w.heap.size + 1 < w3.heap.size := by omega
              have hb1' := hb1.fr hF3 (by omega)
              have hb0' := hb0.fr hF3 (by omega)
              have HB : Hid (Box4 w3 w.heap.size (.int .i64 0) (.string empty) (.int .i64 0) (.slice none 0 0) ∧ Box4 w3 (w.heap.size + 1) (.int .i64 18) (.string x) (.int .i64 0) (.slice a ks.length c)) := ⟨hb0', hb1'⟩
              clear hb0 hb1 hb0'
              obtain ⟨p0, p1, p2, p3, o0, o1, o2, o3⟩ := hb1'
              have hnr : (Value.slice a ks.length c).ownBlock ≠ some r := fun e => by have := (hkb r e).1; omega
              have hK3 : Kids (w.heap.size + 2) (fun b => w.heap.size + 2 ≤ b ∧ b < w3.heap.size ∧ some b ≠ (Value.slice a ks.length c).ownBlock) w3 (.slice a ks.length c) ks :=
                hK.grown hF3 (.inr hnr) (fun b hb => ⟨hb.2.1, by simp; omega⟩) (fun b hb => ⟨hb.1, by omega, hb.2.2⟩)
              have hL3' : Lies (fun b => w.heap.size + 2 ≤ b ∧ b < w3.heap.size ∧ some b ≠ (Value.slice a ks.length c).ownBlock) w3 q1.1 (.agg #[.int .i64 k3, .string y3, .int .i64 m3, .slice a3 n3 c3]) :=
                hL3.to (fun b hb => ⟨by omega, hb.2, fun e => by have := (hkb b e.symm).2; omega⟩) (fun _ _ _ => rfl)
              have hC := rmore (w3.alloc (.cells #[.int .i64 k3, .string y3, .int .i64 m3, .slice a3 n3 c3] 24)) 18 0 x (.slice a ks.length c) ks (w.heap.size + 2) (fun b => w.heap.size + 2 ≤ b ∧ b < w3.heap.size ∧ some b ≠ (Value.slice a ks.length c).ownBlock) q1.1 k3 m3 y3 a3 n3 c3
                (hK3.grown (World.grownBy_alloc w3 _ none) (by cases h : (Value.slice a ks.length c).ownBlock <;> simp) (fun b hb => ⟨hb.2.1, by simp⟩) (fun _ h => h)) (by rw [World.size_alloc]; omega) (by omega)
                (hL3'.frP (x := w3.heap.size) (Fr.al _ _) (fun b hb => ⟨hb.2.1, by omega⟩) (fun _ h => h)) (fun b hb => ⟨by rw [World.size_alloc]; omega, hb.2.2⟩)
              have HK : Hid (Fr r w w3 ∧ (Value.slice a ks.length c).ownBlock ≠ some r ∧ (∀ g, (Value.slice a ks.length c).ownBlock = some g → w.heap.size + 2 ≤ g ∧ g < wr.heap.size) ∧ r < w.heap.size ∧ wr.heap.size ≤ w3.heap.size ∧ w.heap.size + 1 < wr.heap.size ∧ ks.length + (k + 1) ≤ f) := ⟨hFr.trans hF3, hnr, hkb, hr, hs3, hz1, hkf⟩
              clear hK hK3 hL3 hL3' hkb
              have hLo : ∀ g, L.ownBlock = some g → g < w.heap.size := fun g hg => (hR.own.lt g hg).2
              go_wp2_with (first
                | (go_at_call 125; refine hC.mono ?_; rintro e w4 ⟨kv', rfl, hK4, hG4, hfr4⟩; obtain ⟨a4, c4, rfl⟩ := hK4.shape; obtain ⟨g0, g1, g2, g3, l0, l1, l2, l3⟩ := (HB.out.2.alloc _).grown hG4 (fun e => by have := (HK.out.2.2.1 _ e).1; omega); have hR4 := (hR3.alloc _).grown hG4 HK.out.2.1 (by cases h : L.ownBlock with | none => exact .inl rfl | some g => exact .inr (fun e => by have h1 := hLo g h; have h2 := (HK.out.2.2.1 g e.symm).1; omega)))
                | (go_at_call 25; refine (reat _ r L ts q1.2 (hR4.put4 (show w.heap.size + 1 ≠ r by omega) (fun e => by have := hLo _ e; omega) _ _ _ _) ⟨#[44]⟩ (by decide)).mono ?_; rintro e w6 ⟨rfl, hR6, hF6⟩))
              obtain ⟨hFw3, hnr', hkb', hr', hs3', hz1', hkf'⟩ := HK.out
              obtain ⟨hb0', hb1'⟩ := HB.out
              go_roundg k
              case measure => exact Nat.lt_succ_self _
              case rel =>
                have s4 := hG4.size
                have s6 := hF6.size
                rw [World.size_alloc] at s4
                simp only [World.size_setCell] at s6
                have hle : (ks ++ [q1.1]).length = ks.length + 1 := by simp
                rw [hle] at hK4 hfr4
                refine ⟨ks ++ [q1.1], (eat ts ⟨#[44]⟩ q1.2).2, .slice a4 (ks.length + 1) c4, (eat ts ⟨#[44]⟩ q1.2).1, rfl, HQ2.out, by rw [List.length_append]; simp; omega, ?_, ?_, ?_, hR6, ?_⟩
                · exact (((hb0'.alloc _).grown hG4 (fun e => by have := (hkb' _ e).1; omega)).fr (Fr.put w4 (w.heap.size + 1) _ _ _ _) (by omega)).fr hF6 (by omega)
                · exact (((hb1'.alloc _).grown hG4 (fun e => by have := (hkb' _ e).1; omega)).put).fr hF6 (by omega)
                · have hK5 := hK4.grown (Q := fun b => w.heap.size + 2 ≤ b ∧ b < w3.heap.size ∧ some b ≠ (Value.slice a4 (ks.length + 1) c4).ownBlock) (Fr.put w4 (w.heap.size + 1) (.int .i64 18) (.string x) (.int .i64 0) (.slice a4 (ks.length + 1) c4)) (.inr fun e => by have := (hK4.blk e).1; omega) (fun b hb => ⟨by omega, by simp; omega⟩) (fun b hb => ⟨hb.1, hb.2.1, fun e => by
                    rcases hfr4 with h | ⟨g, h, hg⟩
                    · exact hb.2.2 (e.trans h)
                    · rw [h] at e
                      rw [World.size_alloc] at hg
                      have : b = g := by simpa using e
                      omega⟩)
                  exact hK5.grown hF6 (.inr fun e => by have := (hK5.blk e).1; omega) (fun b hb => ⟨by simp only [World.size_setCell]; omega, by simp; omega⟩) (fun b hb => ⟨hb.1, by omega, hb.2.2⟩)
                · exact ((((hFw3.alloc _).grown hG4 (fun g e => by have := (hkb' g e).1; omega)).put4 (show w.heap.size ≤ w.heap.size + 1 by omega) _ _ _ _)).trans hF6
end
end Go.Proofs.YtchhpinmoagkhaaGreatDoor.syn
namespace Go.Proofs.YtchhpinmoagkhaaGreatDoor.syn
open Go.RowKit
open Go.Proofs.YtchhpinmoagkhaaGreatDoor.lexs (Tok)

structure GoodE (r : Nat) (L : Value) (ts : List Tok) (f : Nat) : Prop where
  expr : ∀ {w : World} {s : St} {q : Tree × St}, Rd w r L ts s → exprF ts f s = some q → Calls Tryz.prog 126 #[.pointer (some ⟨r, 0, none⟩)] w (Ans w r L ts q)
  bound : ∀ {w : World} {s : St} {q : Tree × St} (least : Nat), least ≤ 3 → Rd w r L ts s → boundF ts f least s = some q → Calls Tryz.prog 147 #[.pointer (some ⟨r, 0, none⟩), .int .i64 least] w (Ans w r L ts q)
  unary : ∀ {w : World} {s : St} {q : Tree × St}, Rd w r L ts s → unaryF ts f s = some q → Calls Tryz.prog 163 #[.pointer (some ⟨r, 0, none⟩)] w (Ans w r L ts q)
  asked : ∀ {w : World} {s : St} {q : Tree × St}, Rd w r L ts s → askedF ts f s = some q → Calls Tryz.prog 124 #[.pointer (some ⟨r, 0, none⟩)] w (Ans w r L ts q)
  place : ∀ {w : World} {s : St} {q : Tree × St} (x : ByteArray), Rd w r L ts s → placeF ts f x s = some q → Calls Tryz.prog 129 #[.pointer (some ⟨r, 0, none⟩), .string x] w (Ans w r L ts q)
  call : ∀ {w : World} {s : St} {q : Tree × St} (x : ByteArray), Rd w r L ts s → callF ts f x s = some q → Calls Tryz.prog 128 #[.pointer (some ⟨r, 0, none⟩), .string x] w (Ans w r L ts q)
theorem goodE (r : Nat) (L : Value) (ts : List Tok) (f : Nat) (hf : f ≤ 100000) : GoodE r L ts f := by
  induction f using Nat.strongRecOn with
  | _ f ih =>
    cases f with
    | zero =>
      refine ⟨fun _ h => ?_, fun _ _ _ h => ?_, fun _ h => ?_, fun _ h => ?_, fun _ _ h => ?_, fun _ _ h => ?_⟩
      · unfold exprF at h; simp at h
      · unfold boundF at h; simp at h
      · unfold unaryF at h; simp at h
      · unfold askedF at h; simp at h
      · unfold placeF at h; simp at h
      · unfold callF at h; simp at h
    | succ f =>
      have i0 := ih f (Nat.lt_succ_self f) (by omega)
      refine ⟨fun hR h => rexpr (fun hR h => i0.bound 0 (by omega) hR h) hR h,
        fun least hl hR h => rbound (fun hR h => i0.unary hR h) (fun {g} hg {_ _ _} least hl hR h => (ih g (by omega) (by omega)).bound least hl hR h) hR least hl h,
        fun hR h => runary (fun hR h => i0.unary hR h) (fun hR h => i0.asked hR h) (fun x hR h => i0.place x hR h) (fun x hR h => i0.call x hR h) hR h,
        fun hR h => rasked (fun hR h => i0.expr hR h) hR h,
        fun x hR h => rplace (fun hR h => i0.expr hR h) hR x h,
        fun x hR h => rcall (by omega) (fun {g} hg {_ _ _} hR h => (ih g (by omega) (by omega)).expr hR h) hR x h⟩
end Go.Proofs.YtchhpinmoagkhaaGreatDoor.syn
namespace Go.Proofs.YtchhpinmoagkhaaGreatDoor.syn
open Go.RowKit
open Go.Proofs.YtchhpinmoagkhaaGreatDoor.lexs (Tok own_shape)
set_option linter.unusedVariables false

section
variable {w : World} {r : Nat} {L : Value} {ts : List Tok} {s : St}
set_option maxRecDepth 100000 in
set_option maxHeartbeats 1000000 in
theorem rblock {f : Nat} (hf : f ≤ 100000)
    (ihS : ∀ {g : Nat}, g ≤ f → ∀ {w : World} {s : St} {q : Tree × St}, Rd w r L ts s → statF ts g s = some q → Calls Tryz.prog 102 #[.pointer (some ⟨r, 0, none⟩)] w (Ans w r L ts q))
    (hR : Rd w r L ts s) {q : Tree × St} (hq : blockF ts (f + 1) s = some q) : Calls Tryz.prog 60 #[.pointer (some ⟨r, 0, none⟩)] w (Ans w r L ts q) := by
  have c24 : Tryz.prog.cellsOf 24 = 4 := by kernel_rfl
  obtain ⟨i0, hi, hz0, hz1', hz2⟩ := info_parts nodeInfo
  have hr := hR.lt
  have hB0 := (Box4.new w (.int .i64 0) (.string empty) (.int .i64 0) (.slice none 0 0) 24).alloc (.cells #[.int .i64 6, .string empty, .int .i64 0, .slice none 0 0] 24)
  have hB1 := Box4.new (w.alloc (.cells #[.int .i64 0, .string empty, .int .i64 0, .slice none 0 0] 24)) (.int .i64 6) (.string empty) (.int .i64 0) (.slice none 0 0) 24
  rw [World.size_alloc] at hB1
  have hLo : ∀ g, L.ownBlock = some g → g < w.heap.size := fun g hg => (hR.own.lt g hg).2
  unfold blockF at hq
  have HQ : Hid (blockL ts f [] (must ts ⟨#[123]⟩ s) = some q) := hq
  clear hq
  go_enter Tryz.func60, Tryz.ntmps60
  go_wp2_with (fail)
  refine (rmust ((hR.alloc _).alloc _) ⟨#[123]⟩ (by decide)).mono ?_
  rintro e w1 ⟨rfl, hR1, hF1⟩
  have hB0' := hB0.fr hF1 (by omega)
  have hB1' := hB1.fr hF1 (by omega)
  have hF02 := ((Fr.al w (.cells #[.int .i64 0, .string empty, .int .i64 0, .slice none 0 0] 24) (r := r)).alloc _).trans hF1
  clear hB0 hB1
  go_wp2
  go_loopg [] f (fun k wr => ∃ (ks : List Tree) (s1 : St) (kv : Value), Hid (blockL ts k ks s1 = some q) ∧ ks.length + k ≤ f ∧ Box4 wr w.heap.size (.int .i64 0) (.string empty) (.int .i64 0) (.slice none 0 0) ∧ Box4 wr (w.heap.size + 1) (.int .i64 6) (.string empty) (.int .i64 0) kv ∧
    Kids (w.heap.size + 2) (fun b => w.heap.size + 2 ≤ b ∧ b < wr.heap.size ∧ some b ≠ kv.ownBlock) wr kv ks ∧ Rd wr r L ts s1 ∧ Fr r w wr)
  case atStart => exact ⟨[], _, .slice none 0 0, HQ.out, by simp, hB0', hB1', Kids.nil _ _ _, hR1, hF02⟩
  case round =>
    obtain ⟨ks, s1, kv, HL, hkf, hb0, hb1, hK, hRr, hFr⟩ := hrel
    have hz1 := hb1.lt
    have hkb : ∀ g, kv.ownBlock = some g → w.heap.size + 2 ≤ g ∧ g < wr.heap.size := fun g hg => hK.blk hg
    have d2 := hRr.c2
    cases gk with
    | zero => have := HL.out; unfold blockL at this; simp at this
    | succ k =>
      have hq2 := HL.out
      clear HL HQ
      unfold blockL at hq2
      cases hbad : s1.bad
      case true =>
        rw [hbad] at hq2 d2
        simp only [if_true, Option.some.injEq] at hq2
        subst hq2
        obtain ⟨a, c, rfl⟩ := hK.shape
        have HK : Hid (Lies (fun b => w.heap.size + 1 ≤ b ∧ b < wr.heap.size) wr (.node 6 empty 0 ks) (.agg #[.int .i64 6, .string empty, .int .i64 0, .slice a ks.length c])) :=
          hK.lies (fun b hb => ⟨by omega, hb.2.1⟩) (fun g hg => ⟨by have := (hkb g hg).1; omega, (hkb g hg).2⟩) (by omega)
        clear hK hkb
        obtain ⟨q0, q1, q2, q3, t0, t1, t2, t3⟩ := hb0
        obtain ⟨p0, p1, p2, p3, _, _, _, _⟩ := hb1
        go_wp2
        exact bodyPost_ret (v := .agg #[.int .i64 6, .string empty, .int .i64 0, .slice a ks.length c]) (by simp [results, Tryz.results60, go_sem, q0, q1, q2, q3]) rfl
          (Ans.fin hR hFr hRr (Nat.lt_succ_self _) HK.out)
      case false =>
        rw [hbad] at hq2 d2
        simp only [Bool.false_eq_true, if_false] at hq2
        cases he : eqS (txt ts s1) ⟨#[125]⟩
        case true =>
          rw [he] at hq2
          simp only [if_true, Option.some.injEq] at hq2
          have hE := reat_yes hRr ⟨#[125]⟩ (by decide) he
          clear he
          subst hq2
          obtain ⟨a, c, rfl⟩ := hK.shape
          have HK : Hid (Lies (fun b => w.heap.size + 1 ≤ b ∧ b < wr.heap.size) wr (.node 6 empty 0 ks) (.agg #[.int .i64 6, .string empty, .int .i64 0, .slice a ks.length c])) :=
            hK.lies (fun b hb => ⟨by omega, hb.2.1⟩) (fun g hg => ⟨by have := (hkb g hg).1; omega, (hkb g hg).2⟩) (by omega)
          clear hK hkb
          go_wp2_with (go_at_call 25; refine hE.mono ?_; rintro e w3 ⟨rfl, hR3, hF3⟩; obtain ⟨q0, q1, q2, q3, t0, t1, t2, t3⟩ := hb0.fr hF3 (by omega); obtain ⟨p0, p1, p2, p3, _, _, _, _⟩ := hb1.fr hF3 (by omega))
          exact bodyPost_ret (v := .agg #[.int .i64 6, .string empty, .int .i64 0, .slice a ks.length c]) (by simp [results, Tryz.results60, go_sem, q0, q1, q2, q3]) rfl
            (Ans.fin hR (hFr.trans hF3) hR3 (Nat.lt_succ_self _) (HK.out.fr (by omega) hF3))
        case false =>
          rw [he] at hq2
          simp only [Bool.false_eq_true, if_false] at hq2
          have hE := reat_no hRr ⟨#[125]⟩ (by decide) he
          clear he
          cases h1 : statF ts k s1 with
          | none => rw [h1] at hq2; simp at hq2
          | some q1 =>
            rw [h1] at hq2
            simp only [Option.bind_some] at hq2
            have HQ2 : Hid (blockL ts k (ks ++ [q1.1]) q1.2 = some q) := hq2
            clear hq2
            obtain ⟨a, c, rfl⟩ := hK.shape
            go_wp2_with (go_at_call 25; refine hE.mono ?_; rintro e w2 ⟨rfl, hR2, hF2⟩)
            refine (ihS (by omega) hR2 h1).mono ?_
            rintro e w3 ⟨v3, rfl, hL3, hR3, hF3⟩
            obtain ⟨k3, y3, m3, _, rfl, a3, n3, c3, rfl⟩ := hL3.shape
            have hF23 := hF2.trans hF3
            have hs2 := hF2.size
            have hs3 := hF23.size
            have hz3 : w.heap.size + 1 < w3.heap.size := by omega
            have hb1' := hb1.fr hF23 (by omega)
            have hb0' := hb0.fr hF23 (by omega)
            have HB : Hid (Box4 w3 w.heap.size (.int .i64 0) (.string empty) (.int .i64 0) (.slice none 0 0) ∧ Box4 w3 (w.heap.size + 1) (.int .i64 6) (.string empty) (.int .i64 0) (.slice a ks.length c)) := ⟨hb0', hb1'⟩
            clear hb0 hb1 hb0'
            obtain ⟨p0, p1, p2, p3, o0, o1, o2, o3⟩ := hb1'
            have hnr : (Value.slice a ks.length c).ownBlock ≠ some r := fun e => by have := (hkb r e).1; omega
            have hK3 : Kids (w.heap.size + 2) (fun b => w.heap.size + 2 ≤ b ∧ b < w3.heap.size ∧ some b ≠ (Value.slice a ks.length c).ownBlock) w3 (.slice a ks.length c) ks :=
              hK.grown hF23 (.inr hnr) (fun b hb => ⟨hb.2.1, by simp; omega⟩) (fun b hb => ⟨hb.1, by omega, hb.2.2⟩)
            have hL3' : Lies (fun b => w.heap.size + 2 ≤ b ∧ b < w3.heap.size ∧ some b ≠ (Value.slice a ks.length c).ownBlock) w3 q1.1 (.agg #[.int .i64 k3, .string y3, .int .i64 m3, .slice a3 n3 c3]) :=
              hL3.to (fun b hb => ⟨by omega, hb.2, fun e => by have := (hkb b e.symm).2; omega⟩) (fun _ _ _ => rfl)
            obtain ⟨vs, ho, ha⟩ := hK3
            have HK : Hid (Fr r w w3 ∧ (Value.slice a ks.length c).ownBlock ≠ some r ∧ (∀ g, (Value.slice a ks.length c).ownBlock = some g → w.heap.size + 2 ≤ g ∧ g < wr.heap.size) ∧ r < w.heap.size ∧ wr.heap.size ≤ w3.heap.size ∧ w.heap.size + 1 < wr.heap.size ∧ ks.length + (k + 1) ≤ f ∧ AllLie (fun b => w.heap.size + 2 ≤ b ∧ b < w3.heap.size ∧ some b ≠ (Value.slice a ks.length c).ownBlock) w3 ks vs ∧ Lies (fun b => w.heap.size + 2 ≤ b ∧ b < w3.heap.size ∧ some b ≠ (Value.slice a ks.length c).ownBlock) w3 q1.1 (.agg #[.int .i64 k3, .string y3, .int .i64 m3, .slice a3 n3 c3])) := ⟨hFr.trans hF23, hnr, hkb, hr, hs3, hz1, hkf, ha, hL3'⟩
            clear hK hL3 hL3' hkb ha
            go_wp2_with (at_builtin; refine wpList_append_fresh rfl (.tmp 21) (.tmp 23) 22 rfl (w.heap.size + 2) 24 i0 (.agg #[.int .i64 0, .string ⟨#[]⟩, .int .i64 0, .slice none 0 0]) 4 56 Tryz.underlying22 hi hz0 hz1' hz2 rfl (by decide) _ _ _ rfl ((ho.alloc _).alloc _) ⟨w3.heap.size + 1, 0, none⟩ 1 1 [.int .i64 k3, .string y3, .int .i64 m3, .slice a3 n3 c3] rfl rfl (cells4_new _ _ _ _ _ _ _ (by simp)) (by intro u hu; simp at hu; rcases hu with rfl | rfl | rfl | rfl <;> rfl) (by unfold maxLen; omega) (by omega) (by simp <;> omega) (by decide) ?_; intro v' w4 hown' hgrow hfr; obtain ⟨a4, c4, rfl, hmx', _⟩ := own_shape hown'; obtain ⟨g0, g1, g2, g3, l0, l1, l2, l3⟩ := ((HB.out.2.alloc _).alloc _).grown hgrow (fun e => by have := (HK.out.2.2.1 _ e).1; omega))
            obtain ⟨hFw3, hnr', hkb', hr', hs3', hz1'', hkf', ha, hL3'⟩ := HK.out
            obtain ⟨hb0', hb1'⟩ := HB.out
            have hG4 : w3.grownBy w4 (Value.slice a ks.length c).ownBlock := grown_trans (grown_trans (World.grownBy_alloc w3 _ _) (World.grownBy_alloc _ _ _)) hgrow
            have hfr' : (Value.slice a4 (ks.length + 1) c4).ownBlock = (Value.slice a ks.length c).ownBlock ∨ (Value.slice a4 (ks.length + 1) c4).ownBlock = some (w3.heap.size + 2) := by
              rcases hfr with e | e
              · exact .inl e
              · exact .inr (by rw [e]; simp)
            have s4 := hG4.size
            have n1 : (Value.slice a4 (ks.length + 1) c4).ownBlock ≠ some (w.heap.size + 1) := fun e => by
              rcases hfr' with h | h
              · rw [h] at e; have := (hkb' _ e).1; omega
              · rw [h] at e; have : w3.heap.size + 2 = w.heap.size + 1 := by simpa using e
                omega
            have hsame : ∀ b, (w.heap.size + 2 ≤ b ∧ b < w3.heap.size ∧ some b ≠ (Value.slice a ks.length c).ownBlock) → ∀ o, (w4.setCell ⟨w.heap.size + 1, 3, none⟩ (.slice a4 (ks.length + 1) c4)).cell? ⟨b, o, none⟩ = w3.cell? ⟨b, o, none⟩ := fun b hb o => by
              rw [World.cell?_setCell_other _ _ _ _ (by simp <;> omega)]
              exact World.cell?_of_block (a := ⟨b, o, none⟩) (hG4.block b hb.2.1 hb.2.2)
            go_roundg k
            case measure => exact Nat.lt_succ_self _
            case rel =>
              refine ⟨ks ++ [q1.1], q1.2, .slice a4 (ks.length + 1) c4, HQ2.out, by rw [List.length_append]; simp; omega, ?_, ?_, ⟨vs ++ [(.int .i64 k3, .string y3, .int .i64 m3, .slice a3 n3 c3)], ?_, ?_⟩, ?_, ?_⟩
              · exact (hb0'.grown hG4 (fun e => by have := (hkb' _ e).1; omega)).other (by omega) _
              · exact (hb1'.grown hG4 (fun e => by have := (hkb' _ e).1; omega)).set3 _
              · rw [flat4_snoc, List.length_append]
                exact ownsRow_setCell_other hown' n1 _
              · have hQ : ∀ b, (w.heap.size + 2 ≤ b ∧ b < w3.heap.size ∧ some b ≠ (Value.slice a ks.length c).ownBlock) → (w.heap.size + 2 ≤ b ∧ b < (w4.setCell ⟨w.heap.size + 1, 3, none⟩ (.slice a4 (ks.length + 1) c4)).heap.size ∧ some b ≠ (Value.slice a4 (ks.length + 1) c4).ownBlock) := fun b hb => ⟨hb.1, by rw [World.size_setCell]; omega, fun e => by
                  rcases hfr' with h | h
                  · exact hb.2.2 (e.trans h)
                  · rw [h] at e; have : b = w3.heap.size + 2 := by simpa using e
                    omega⟩
                exact AllLie.snoc (hL3'.to hQ hsame) (ha.to hQ hsame)
              · exact (hR3.grown hG4 hnr' (by cases h : L.ownBlock with | none => exact .inl rfl | some g => exact .inr (fun e => by have h1 := hLo g h; have h2 := (hkb' g e.symm).1; omega))).setNew (by omega) (fun e => by have := hLo _ e; omega) _
              · exact (hFw3.grown hG4 (fun g e => by have := (hkb' g e).1; omega)).setNew (by omega) _
end
end Go.Proofs.YtchhpinmoagkhaaGreatDoor.syn
namespace Go.Proofs.YtchhpinmoagkhaaGreatDoor.syn
open Go.RowKit
open Go.Proofs.YtchhpinmoagkhaaGreatDoor.lexs (Tok own_shape)
set_option linter.unusedVariables false

section
variable {w : World} {r : Nat} {L : Value} {ts : List Tok} {s : St}
theorem Box4.set0 {N : Nat} {x0 x1 x2 x3 : Value} (h : Box4 w N x0 x1 x2 x3) (v : Value) : Box4 (w.setCell ⟨N, 0, none⟩ v) N v x1 x2 x3 :=
  ⟨World.cell?_setCell_same _ _ _ h.c0, by rw [World.cell?_setCell_other _ _ _ _ (by simp)]; exact h.c1, by rw [World.cell?_setCell_other _ _ _ _ (by simp)]; exact h.c2, by rw [World.cell?_setCell_other _ _ _ _ (by simp)]; exact h.c3, by simp [h.f0], by simp [h.f1], by simp [h.f2], by simp [h.f3]⟩
theorem Box4.set1 {N : Nat} {x0 x1 x2 x3 : Value} (h : Box4 w N x0 x1 x2 x3) (v : Value) : Box4 (w.setCell ⟨N, 1, none⟩ v) N x0 v x2 x3 :=
  ⟨by rw [World.cell?_setCell_other _ _ _ _ (by simp)]; exact h.c0, World.cell?_setCell_same _ _ _ h.c1, by rw [World.cell?_setCell_other _ _ _ _ (by simp)]; exact h.c2, by rw [World.cell?_setCell_other _ _ _ _ (by simp)]; exact h.c3, by simp [h.f0], by simp [h.f1], by simp [h.f2], by simp [h.f3]⟩
/-- what stands while a statement is read: two boxes, the reader -/
structure Mid (w : World) (r : Nat) (L : Value) (ts : List Tok) (wk : World) (s : St) (k : Int) (x : ByteArray) (m : Int) (kv : Value) : Prop where
  rd : Rd wk r L ts s
  fr : Fr r w wk
  b0 : Box4 wk w.heap.size (.int .i64 0) (.string empty) (.int .i64 0) (.slice none 0 0)
  b1 : Box4 wk (w.heap.size + 1) (.int .i64 k) (.string x) (.int .i64 m) kv
  old : r < w.heap.size
  own : ∀ g, L.ownBlock = some g → g < w.heap.size
section
variable {wk : World} {k m : Int} {x : ByteArray} {kv : Value}
theorem Mid.size (h : Mid w r L ts wk s k x m kv) : w.heap.size + 1 < wk.heap.size := h.b1.lt
theorem Mid.step (h : Mid w r L ts wk s k x m kv) {w' : World} {s' : St} (hR : Rd w' r L ts s') (hF : Fr r wk w') : Mid w r L ts w' s' k x m kv :=
  ⟨hR, h.fr.trans hF, h.b0.fr hF (by have := h.old; omega), h.b1.fr hF (by have := h.old; omega), h.old, h.own⟩
theorem Mid.kind (h : Mid w r L ts wk s k x m kv) (k' : Int) : Mid w r L ts (wk.setCell ⟨w.heap.size + 1, 0, none⟩ (.int .i64 k')) s k' x m kv :=
  ⟨h.rd.setNew (by have := h.old; omega) (fun e => by have := h.own _ e; omega) _, h.fr.setNew (by omega) _, h.b0.other (by omega) _, h.b1.set0 _, h.old, h.own⟩
theorem Mid.text (h : Mid w r L ts wk s k x m kv) (x' : ByteArray) : Mid w r L ts (wk.setCell ⟨w.heap.size + 1, 1, none⟩ (.string x')) s k x' m kv :=
  ⟨h.rd.setNew (by have := h.old; omega) (fun e => by have := h.own _ e; omega) _, h.fr.setNew (by omega) _, h.b0.other (by omega) _, h.b1.set1 _, h.old, h.own⟩
theorem Mid.num (h : Mid w r L ts wk s k x m kv) (m' : Int) : Mid w r L ts (wk.setCell ⟨w.heap.size + 1, 2, none⟩ (.int .i64 m')) s k x m' kv :=
  ⟨h.rd.setNew (by have := h.old; omega) (fun e => by have := h.own _ e; omega) _, h.fr.setNew (by omega) _, h.b0.other (by omega) _, h.b1.set2 _, h.old, h.own⟩
theorem Mid.alloc (h : Mid w r L ts wk s k x m kv) (o : Obj) : Mid w r L ts (wk.alloc o) s k x m kv := h.step (h.rd.alloc o) (Fr.al _ _)
theorem Mid.drewN (h : Mid w r L ts wk s k x m kv) (n : Nat) : Mid w r L ts (wk.drewN n) s k x m kv := h.step (h.rd.drewN n) ((Fr.refl _ _).drewN n)
theorem Mid.grown (h : Mid w r L ts wk s k x m kv) {w' : World} {row : Option Nat} (hg : wk.grownBy w' row) (hr : ∀ g, row = some g → w.heap.size + 2 ≤ g) : Mid w r L ts w' s k x m kv :=
  ⟨h.rd.grown hg (fun e => by have := hr _ e; have := h.old; omega) (by cases e : L.ownBlock with | none => exact .inl rfl | some g => exact .inr (fun e2 => by have h1 := h.own g e; have h2 := hr g e2.symm; omega)), h.fr.grown hg (fun g e => by have := hr g e; omega),
    h.b0.grown hg (fun e => by have := hr _ e; omega), h.b1.grown hg (fun e => by have := hr _ e; omega), h.old, h.own⟩
theorem Mid.put (h : Mid w r L ts wk s k x m kv) (k' m' : Int) (x' : ByteArray) (kv' : Value) : Mid w r L ts ((((wk.setCell ⟨w.heap.size + 1, 0, none⟩ (.int .i64 k')).setCell ⟨w.heap.size + 1, 1, none⟩ (.string x')).setCell ⟨w.heap.size + 1, 2, none⟩ (.int .i64 m')).setCell ⟨w.heap.size + 1, 3, none⟩ kv') s k' x' m' kv' :=
  ⟨h.rd.put4 (by have := h.old; omega) (fun e => by have := h.own _ e; omega) _ _ _ _, h.fr.put4 (by omega) _ _ _ _, h.b0.fr (Fr.put _ _ _ _ _ _) (by omega), h.b1.put, h.old, h.own⟩
/-- at the start -/
theorem Mid.start (hR : Rd w r L ts s) : Mid w r L ts ((w.alloc (.cells #[.int .i64 0, .string empty, .int .i64 0, .slice none 0 0] 24)).alloc (.cells #[.int .i64 0, .string empty, .int .i64 0, .slice none 0 0] 24)) s 0 empty 0 (.slice none 0 0) := by
  have h1 := Box4.new (w.alloc (.cells #[.int .i64 0, .string empty, .int .i64 0, .slice none 0 0] 24)) (.int .i64 0) (.string empty) (.int .i64 0) (.slice none 0 0) 24
  rw [World.size_alloc] at h1
  exact ⟨(hR.alloc _).alloc _, (Fr.al _ _).alloc _, (Box4.new w _ _ _ _ _).alloc _, h1, hR.lt, fun g hg => (hR.own.lt g hg).2⟩
/-- the first kid of a node -/
theorem Mid.first (h : Mid w r L ts wk s k x m (.slice none 0 0)) {t : Tree} {y0 y2 : Int} {y1 : ByteArray} {ya : Option Addr} {yn yc : Nat} {B : Nat} (hB : w.heap.size + 2 ≤ B) (hL : Lies (fun b => B ≤ b ∧ b < wk.heap.size) wk t (.agg #[.int .i64 y0, .string y1, .int .i64 y2, .slice ya yn yc])) :
    Calls Tryz.prog 125 #[.agg #[.int .i64 k, .string x, .int .i64 m, .slice none 0 0], .agg #[.int .i64 y0, .string y1, .int .i64 y2, .slice ya yn yc]] wk fun e w' => ∃ a c, e = .returned (.agg #[.int .i64 k, .string x, .int .i64 m, .slice a 1 c]) ∧
      Kids (w.heap.size + 2) (fun b => w.heap.size + 2 ≤ b ∧ b < wk.heap.size) w' (.slice a 1 c) [t] ∧ Mid w r L ts w' s k x m (.slice none 0 0) ∧ wk.grownBy w' none ∧ (∀ g, (Value.slice a 1 c).ownBlock = some g → wk.heap.size ≤ g) := by
  have hz := h.size
  refine (rmore wk k m x (.slice none 0 0) [] (w.heap.size + 2) (fun b => w.heap.size + 2 ≤ b ∧ b < wk.heap.size) t y0 y2 y1 ya yn yc (Kids.nil _ _ _) (by omega) (by simp) (hL.to (fun b hb => ⟨by omega, hb.2⟩) (fun _ _ _ => rfl)) (fun b hb => ⟨hb.2, by simp [Value.ownBlock]⟩)).mono ?_
  rintro e w' ⟨kv', rfl, hK, hG, hfr⟩
  obtain ⟨a, c, rfl⟩ := hK.shape
  refine ⟨a, c, rfl, hK, h.grown hG (fun g e => by simp [Value.ownBlock] at e), hG, fun g hg => ?_⟩
  rcases hfr with e | ⟨g', e, hg'⟩
  · have e2 : (Value.slice a 1 c).ownBlock = none := e
    rw [e2] at hg
    simp at hg
  · have e2 : (Value.slice a 1 c).ownBlock = some g' := e
    rw [e2] at hg
    have : g' = g := by simpa using hg
    omega
end
end
end Go.Proofs.YtchhpinmoagkhaaGreatDoor.syn
