/- What a call that tells a text's face answers; what is never a fault. What the program's declare answers: a contract; a fault is thrown, and recovered. What the node of a module looks like: its texts are short, too. No Go in sight. What the program's Of answers: a contract. -/
import Derived.Test.YtchhpinmoagkhaaGreatDoorProg
import Derived.WalkKit
import Derived.WalkLawsBesides
import Derived.Test.YtchhpinmoagkhaaGreatDoorNFc
import Derived.Test.YtchhpinmoagkhaaGreatDoorNOm
import Derived.Test.YtchhpinmoagkhaaGreatDoorNFm
import Derived.Test.YtchhpinmoagkhaaGreatDoorNFa
namespace Go.Proofs.YtchhpinmoagkhaaGreatDoor.face
open Go.RowKit
open Go.Proofs.YtchhpinmoagkhaaGreatDoor.syn
set_option linter.unusedVariables false
set_option linter.unusedSimpArgs false
set_option maxRecDepth 100000

/-- what a call that tells a text's face answers -/
def OfRes (w : World) (f : FaceD) (l : List ByteArray) (c a : Int) (e : Ending) (w' : World) : Prop :=
  ∃ fv lv, e = .returned (.tuple #[fv, lv, .agg #[.int .i64 c, .int .i64 a]]) ∧ FaceIn w' fv f ∧ StrsIn w' lv l ∧ Below w.heap.size w w'
def noFace : FaceD := ⟨⟨#[]⟩, [], []⟩
theorem noFace_in (w : World) : FaceIn w (.agg #[.string ⟨#[]⟩, .slice none 0 0, .slice none 0 0]) noFace :=
  ⟨_, _, rfl, ⟨none, 0, rfl, by simp [noFace], fun h => absurd rfl h⟩, ⟨none, 0, rfl, by simp [noFace], fun h => absurd rfl h⟩⟩
theorem noStrs_in (w : World) : StrsIn w (.slice none 0 0) [] := ⟨none, 0, rfl, by simp, fun h => absurd rfl h⟩
theorem lies_shape {Q : Nat → Prop} {w : World} {t : Tree} {v : Value} (h : Lies Q w t v) : ∃ k x m a n c, v = .agg #[.int .i64 k, .string x, .int .i64 m, .slice a n c] := by
  match t, h with
  | .node k x m ks, h =>
    unfold Lies at h
    obtain ⟨a, c, e, _⟩ := h
    exact ⟨k, x, m, a, _, c, e⟩
theorem parF_ne : ∀ (ps : List (ByteArray × Bool)) (seen : List ByteArray) (a : Int) (e : Int × Int), parF seen ps a = some e → e.1 ≠ 0
  | [], _, _, e, h => by cases h
  | q :: r, seen, a, e, h => by
    unfold parF at h
    split at h
    · cases h; simp
    · exact parF_ne r _ _ e h
theorem lookK_ne (m : ByteArray) : ∀ (K : List Kid) (is ns : List ByteArray) (a : Int) (e : Int × Int), lookK m K is ns a = some e → e.1 ≠ 0
  | [], _, _, _, e, h => by cases h
  | .imp x :: r, is, ns, a, e, h => by
    unfold lookK at h
    split at h
    · cases h; simp
    · split at h
      · cases h; simp
      · exact lookK_ne m r _ _ _ e h
  | .var x p l n :: r, is, ns, a, e, h => by
    unfold lookK at h
    split at h
    · cases h; simp
    · split at h
      · cases h; simp
      · split at h
        · rename_i e' he
          cases h
          cases n with
          | none => cases he
          | some n =>
            rw [show rangeF (some n) a = if n < 1 ∨ 64 < n then some (6, a) else none from rfl] at he
            split at he
            · cases he; simp
            · cases he
        · exact lookK_ne m r _ _ _ e h
  | .proc x p l g ps b :: r, is, ns, a, e, h => by
    unfold lookK at h
    split at h
    · cases h; simp
    · split at h
      · cases h; simp
      · split at h
        · cases h; simp
        · split at h
          · rename_i e' he
            cases h
            exact parF_ne _ _ _ _ he
          · exact lookK_ne m r _ _ _ e h
theorem box2_other {w : World} {N : Nat} {x0 x1 : Value} (h : Box2 w N x0 x1) {M o : Nat} (hne : M ≠ N) (v : Value) : Box2 (w.setCell ⟨M, o, none⟩ v) N x0 x1 := by
  have hb : (w.setCell ⟨M, o, none⟩ v).heap[N]? = w.heap[N]? := Below.heap_setCell _ _ _ _ (fun e => hne (by rw [e]))
  exact ⟨(World.cell?_of_block (a := ⟨N, 0, none⟩) hb).trans h.c0, (World.cell?_of_block (a := ⟨N, 1, none⟩) hb).trans h.c1, (World.frozen?_of_block (a := ⟨N, 0, none⟩) hb).trans h.f0, (World.frozen?_of_block (a := ⟨N, 1, none⟩) hb).trans h.f1⟩
theorem below_two_set {B : Nat} {w wr : World} (h : Below B w wr) {M : Nat} (hM : B ≤ M) (x y : Value) : Below B w ((wr.setCell ⟨M, 0, none⟩ x).setCell ⟨M, 1, none⟩ y) := (h.setCell hM _).setCell hM _
theorem mod_shape {B : Nat} {w : World} {m : ByteArray} {K : List Kid} {v : Value} (h : Lies (fun b => B ≤ b ∧ b < w.heap.size) w (.node 1 m 0 (K.map Kid.tree)) v) :
    ∃ a d, v = .agg #[.int .i64 1, .string m, .int .i64 0, .slice a K.length d] ∧ Lies (· < w.heap.size) w (.node 1 m 0 (K.map Kid.tree)) (.agg #[.int .i64 1, .string m, .int .i64 0, .slice a K.length d]) := by
  have h2 := h.to (Q := (· < w.heap.size)) (w' := w) (fun b hb => hb.2) (fun _ _ _ => rfl)
  have h3 := h2
  unfold Lies at h3
  obtain ⟨a, d, e, _, _⟩ := h3
  rw [List.length_map] at e
  subst e
  exact ⟨a, d, rfl, h2⟩
theorem eqS_refl (x : ByteArray) : eqS x x = true := by unfold eqS; simp
theorem all2_refl {α : Type} {p : α → α → Bool} (h : ∀ x, p x x = true) : ∀ l : List α, all2 p l l = true
  | [] => rfl
  | x :: r => by show (p x x && all2 p r r) = true; rw [h x, all2_refl h r]; rfl
theorem sameB_refl (f : FaceD) : sameB f f = true := by
  unfold sameB
  rw [eqS_refl, all2_refl (fun v => by unfold sameVarB; simp [eqS_refl]), all2_refl (fun q => by unfold sameProcB; simp [eqS_refl])]
  rfl
theorem StrsIn.below {w w' : World} {v : Value} {l : List ByteArray} (h : StrsIn w v l) (hb : Below w.heap.size w w') : StrsIn w' v l := by
  obtain ⟨a, c, e, hl, hk⟩ := h
  refine ⟨a, c, e, hl, fun hne => ?_⟩
  obtain ⟨g, o, e2, hc⟩ := hk hne
  exact ⟨g, o, e2, fun i hi => keep (hc i hi) hb⟩
end Go.Proofs.YtchhpinmoagkhaaGreatDoor.face
namespace Go.Proofs.YtchhpinmoagkhaaGreatDoor.face
open Go.RowKit Go.Maps
open Go.Proofs.YtchhpinmoagkhaaGreatDoor.syn
set_option linter.unusedVariables false
set_option linter.unusedSimpArgs false
set_option maxRecDepth 100000

section
variable {w w' : World}
theorem DC.new (w : World) (x0 x1 x2 x3 x4 x5 x6 x7 : Value) (T : TypeId) : DC (w.alloc (.cells #[x0, x1, x2, x3, x4, x5, x6, x7] T)) w.heap.size x0 x1 x2 x3 x4 x5 x6 x7 := by
  constructor <;> simp
theorem DI.new (w : World) (T : TypeId) : DI (((w.alloc (.map #[] 0)).alloc (.map #[] 0)).alloc (.cells #[.string ⟨#[]⟩, .slice none 0 0, .slice none 0 0, .slice none 0 0, .map (some w.heap.size), .map (some (w.heap.size + 1)), .map none, .int .i64 0] T)) (w.heap.size + 1 + 1) w.heap.size (w.heap.size + 1) none (.slice none 0 0) (.slice none 0 0) (.slice none 0 0) ⟨#[]⟩ [] [] [] [] [] [] 0 := by
  have h1 : SetIn (w.alloc (.map #[] 0)) w.heap.size [] := World.ownsMap_made _ _ _ _
  have h2 : SetIn ((w.alloc (.map #[] 0)).alloc (.map #[] 0)) (w.heap.size + 1) [] := by
    have := World.ownsMap_made (w.alloc (.map #[] 0)) Tryz.prog 9 (unitElem (H := Unit))
    rw [World.size_alloc] at this
    exact this
  have hd := DC.new ((w.alloc (.map #[] 0)).alloc (.map #[] 0)) (.string ⟨#[]⟩) (.slice none 0 0) (.slice none 0 0) (.slice none 0 0) (.map (some w.heap.size)) (.map (some (w.heap.size + 1))) (.map none) (.int .i64 0) T
  rw [World.size_alloc, World.size_alloc] at hd
  exact ⟨hd, by omega, by omega, fun b e => (by cases e), FR.nil _ _ _, World.ownsRow_nil _ _ _ _, fun b e => (by cases e), (h1.alloc _).alloc _, rfl, h2.alloc _, rfl, fun b e => (by cases e), rfl⟩
set_option maxHeartbeats 200000 in
theorem dcatch_idle (p : Addr) (w : World) :
    CallsD Tryz.prog 78 #[.pointer (some p)] .returning w fun e u' w' => e = .returned (.tuple #[]) ∧ u' = .returning ∧ w' = w := by
  have hnn : ∀ w : World, (binOp BinOp.eql 20 .nilIface .nilIface).run Tryz.prog w = .ok (.bool true) w := fun _ => by kernel_rfl
  refine callsD_of_wpS Tryz.func78 rfl fun c₀ cs hu => ?_
  refine recover_none (by simp [recoverD, hu]) ?_
  simp only [Tryz.ntmps78, List.size_toArray, List.length_cons, List.length_nil, Nat.reduceAdd, Nat.reduceSub, Array.replicate_succ, Array.replicate_zero, List.push_toArray, List.append_toArray, List.nil_append, List.cons_append, Act.put, List.setIfInBounds_toArray, List.set_cons_succ, List.set_cons_zero]
  refine wpS_of_wp (wp_mono (Q := fun e a w' => e = .normal ∧ a.defers = [] ∧ w' = w) ?_ ?_)
  · go_wp2
  · rintro e a w' ⟨rfl, h1, rfl⟩
    exact ⟨h1, _, rfl, .tuple #[], by simp [results, Tryz.results78], rfl, hu, rfl⟩
set_option maxHeartbeats 1000000 in
theorem dcatch (fb : Nat) (c a : Int) (w : World) (h0 : w.cell? ⟨fb, 0, none⟩ = some (.int .i64 0)) (h1 : w.cell? ⟨fb, 1, none⟩ = some (.int .i64 0)) (f0 : w.frozen? ⟨fb, 0, none⟩ = false) (f1 : w.frozen? ⟨fb, 1, none⟩ = false) (hfb : fb < w.heap.size) :
    CallsD Tryz.prog 78 #[.pointer (some ⟨fb, 0, none⟩)] (.panicking (Thrown c a)) w fun e u' w' => e = .returned (.tuple #[]) ∧ u' = .panicking [{ v := .iface 27 (.agg #[.int .i64 c, .int .i64 a]), recovered := true }] ∧ w'.cell? ⟨fb, 0, none⟩ = some (.int .i64 c) ∧ w'.cell? ⟨fb, 1, none⟩ = some (.int .i64 a) ∧ Fr fb w w' := by
  have c27 : Tryz.prog.cellsOf 27 = 2 := by kernel_rfl
  have hnn : ∀ w : World, (binOp BinOp.eql 20 (.iface 27 (.agg #[.int .i64 c, .int .i64 a])) .nilIface).run Tryz.prog w = .ok (.bool false) w := fun _ => by kernel_rfl
  have hta : ∀ w : World, (Instr.typeAssert (.iface 27 (.agg #[.int .i64 c, .int .i64 a])) 20 27 true).run Tryz.prog w = .ok (.tuple #[.agg #[.int .i64 c, .int .i64 a], .bool true]) w := fun _ => by kernel_rfl
  unfold Thrown
  refine callsD_of_wpS Tryz.func78 rfl fun c₀ cs hu => ?_
  refine recover_some (v := .iface 27 (.agg #[.int .i64 c, .int .i64 a])) (cs' := { c₀ with mode := .panicking [{ v := .iface 27 (.agg #[.int .i64 c, .int .i64 a]), recovered := true }] } :: cs) (by simp [recoverD, hu]) ?_
  simp only [Tryz.ntmps78, List.size_toArray, List.length_cons, List.length_nil, Nat.reduceAdd, Nat.reduceSub, Array.replicate_succ, Array.replicate_zero, List.push_toArray, List.append_toArray, List.nil_append, List.cons_append, Act.put, List.setIfInBounds_toArray, List.set_cons_succ, List.set_cons_zero]
  refine wpS_of_wp (wp_mono (Q := fun e q w' => e = .normal ∧ q.defers = [] ∧ w'.cell? ⟨fb, 0, none⟩ = some (.int .i64 c) ∧ w'.cell? ⟨fb, 1, none⟩ = some (.int .i64 a) ∧ Fr fb w w') ?_ ?_)
  · go_wp2
    exact (((Fr.refl _ _).set _ _).set _ _).alloc _
  · rintro e q w' ⟨rfl, h1, h2, h3, h4⟩
    exact ⟨h1, _, rfl, .tuple #[], by simp [results, Tryz.results78], rfl, rfl, h2, h3, h4⟩
theorem decl_fin {N D Bm Bd : Nat} {mp : Option Nat} {vv pv iv : Value} {m : ByteArray} {K : List Kid} {P : List (ProcD × Value)} {ms ns qs : List ByteArray} {a : Int} {w0 : World} (h : DI w D Bm Bd mp vv pv iv m (varsK false K) P (importsK K) ms ns qs a) (hP : P.map (·.1) = procsK false K) (hn : (namesK K).length ≤ 20) (hN : N + 1 < D) (B : Nat) (hBN : B ≤ N) (hB : Below B w0 w) (x y z p q : Value) :
    FR (fun b => iv.ownBlock = some b ∨ mp = some b) (D + 1) (((((w.setCell ⟨N, 0, none⟩ x).setCell ⟨N, 1, none⟩ y).setCell ⟨N, 2, none⟩ z).setCell ⟨N + 1, 0, none⟩ p).setCell ⟨N + 1, 1, none⟩ q).drew vv pv (varsK false K) P ∧
    (((((w.setCell ⟨N, 0, none⟩ x).setCell ⟨N, 1, none⟩ y).setCell ⟨N, 2, none⟩ z).setCell ⟨N + 1, 0, none⟩ p).setCell ⟨N + 1, 1, none⟩ q).drew.ownsRow (D + 1) 9 1 iv (importsK K).length (strV (importsK K)) ∧
    Below B w0 (((((w.setCell ⟨N, 0, none⟩ x).setCell ⟨N, 1, none⟩ y).setCell ⟨N, 2, none⟩ z).setCell ⟨N + 1, 0, none⟩ p).setCell ⟨N + 1, 1, none⟩ q).drew := by
  refine ⟨?_, ?_, ?_⟩
  · have h := (((((h.fr.set (M := N) (o := 0) (by omega) x).set (M := N) (o := 1) (by omega) y).set (M := N) (o := 2) (by omega) z).set (M := N + 1) (o := 0) (by omega) p).set (M := N + 1) (o := 1) (by omega) q).drew
    exact h
  · have n0 : iv.ownBlock ≠ some N := fun e => by have := (h.oi.lt _ e).1; omega
    have n1 : iv.ownBlock ≠ some (N + 1) := fun e => by have := (h.oi.lt _ e).1; omega
    have r := ownsRow_setCell_other (a := ⟨N + 1, 1, none⟩) (ownsRow_setCell_other (a := ⟨N + 1, 0, none⟩) (ownsRow_setCell_other (a := ⟨N, 2, none⟩) (ownsRow_setCell_other (a := ⟨N, 1, none⟩) (ownsRow_setCell_other (a := ⟨N, 0, none⟩) h.oi n0 x) n0 y) n0 z) n1 p) n1 q
    generalize ((((w.setCell ⟨N, 0, none⟩ x).setCell ⟨N, 1, none⟩ y).setCell ⟨N, 2, none⟩ z).setCell ⟨N + 1, 0, none⟩ p).setCell ⟨N + 1, 1, none⟩ q = W at *
    exact r.drew
  · exact (((((hB.setCell hBN _).setCell hBN _).setCell hBN _).setCell (Nat.le_succ_of_le hBN) _).setCell (Nat.le_succ_of_le hBN) _).drew
/-- what declare answers -/
def DeclOut (w : World) (m : ByteArray) (K : List Kid) (e : Ending) (w' : World) : Prop :=
  match lookD K [m] [] 1 with
  | some q => e = .returned (.tuple #[.agg #[.string ⟨#[]⟩, .slice none 0 0, .slice none 0 0], .slice none 0 0, .agg #[.int .i64 q.1, .int .i64 q.2]]) ∧ Below w.heap.size w w'
  | none => ∃ (X : Nat → Prop) (B : Nat) (vv pv iv : Value) (P : List (ProcD × Value)), w.heap.size ≤ B ∧ e = .returned (.tuple #[.agg #[.string m, vv, pv], iv, .agg #[.int .i64 0, .int .i64 0]]) ∧ FR X B w' vv pv (varsK false K) P ∧ P.map (·.1) = procsK false K ∧ (namesK K).length ≤ 20 ∧ w'.ownsRow B 9 1 iv (importsK K).length (strV (importsK K)) ∧ Below w.heap.size w w'
set_option maxHeartbeats 4000000 in
theorem oDeclare (m : ByteArray) (K : List Kid) (v : Value) (w : World) (hv : Lies (· < w.heap.size) w (.node 1 m 0 (K.map Kid.tree)) v) (hm16 : m.size ≤ 16) (hgood : ∀ k ∈ K, k.good) (hcnt : cntL (K.map Kid.tree) ≤ 1000) (hps : ∀ k ∈ K, k.kids.length ≤ 1000) :
    Calls Tryz.prog 32 #[v] w (DeclOut w m K) := by
  have c24 : Tryz.prog.cellsOf 24 = 4 := by kernel_rfl
  have c27 : Tryz.prog.cellsOf 27 = 2 := by kernel_rfl
  have c3 : Tryz.prog.cellsOf 38 = 3 := cell3
  have c8 : Tryz.prog.cellsOf 120 = 8 := by kernel_rfl
  have hmm0 := @run_makeMap Tryz.prog
  have hmf : ∀ (fn : Fn) (first cap : Array Value) (w : World), (Instr.makeFunc fn first cap).run Tryz.prog w = .ok (.func fn first cap) w := fun _ _ _ _ => rfl
  obtain ⟨k1, x1, m1, a1, n1, d1, rfl⟩ := lies_shape hv
  obtain ⟨w3, hw3⟩ : ∃ w3, w3 = ((w.alloc (.cells #[.int .i64 k1, .string x1, .int .i64 m1, .slice a1 n1 d1] 24)).alloc (.cells #[.string ⟨#[]⟩, .slice none 0 0, .slice none 0 0] 38)).alloc (.cells #[.int .i64 0, .int .i64 0] 27) := ⟨_, rfl⟩
  have hs3 : w3.heap.size = w.heap.size + 1 + 1 + 1 := by rw [hw3]; simp
  have hb3 : Below w.heap.size w w3 := by rw [hw3]; exact (((Below.refl _ _).alloc (Nat.le_refl _) _).alloc (by simp) _).alloc (by simp; omega) _
  have bF : Box3 w3 (w.heap.size + 1) (.string ⟨#[]⟩) (.slice none 0 0) (.slice none 0 0) := by
    have := (Box3.new (w.alloc (.cells #[.int .i64 k1, .string x1, .int .i64 m1, .slice a1 n1 d1] 24)) (.string ⟨#[]⟩) (.slice none 0 0) (.slice none 0 0) 38).alloc (.cells #[.int .i64 0, .int .i64 0] 27)
    rw [World.size_alloc] at this
    rw [hw3]
    exact this
  have bG : Box2 w3 (w.heap.size + 1 + 1) (.int .i64 0) (.int .i64 0) := by
    have := Box2.new ((w.alloc (.cells #[.int .i64 k1, .string x1, .int .i64 m1, .slice a1 n1 d1] 24)).alloc (.cells #[.string ⟨#[]⟩, .slice none 0 0, .slice none 0 0] 38)) (.int .i64 0) (.int .i64 0) 27
    rw [World.size_alloc, World.size_alloc] at this
    rw [hw3]
    exact this
  have hI := DI.new w3 120
  have hv3 : Lies (· < w3.heap.size) (((w3.alloc (.map #[] 0)).alloc (.map #[] 0)).alloc (.cells #[.string ⟨#[]⟩, .slice none 0 0, .slice none 0 0, .slice none 0 0, .map (some w3.heap.size), .map (some (w3.heap.size + 1)), .map none, .int .i64 0] 120)) (.node 1 m 0 (K.map Kid.tree)) (.agg #[.int .i64 k1, .string x1, .int .i64 m1, .slice a1 n1 d1]) :=
    hv.to (fun b hb => by show b < w3.heap.size; have : b < w.heap.size := hb; omega) (fun b hb o => by
      have h1 := hb3.cell (p := ⟨b, o, none⟩) hb
      have h2 := ((((Below.refl w3.heap.size w3).alloc (Nat.le_refl _) (.map #[] 0)).alloc (by simp) (.map #[] 0)).alloc (by simp; omega) (.cells #[.string ⟨#[]⟩, .slice none 0 0, .slice none 0 0, .slice none 0 0, .map (some w3.heap.size), .map (some (w3.heap.size + 1)), .map none, .int .i64 0] 120)).cell (p := ⟨b, o, none⟩) (by show b < w3.heap.size; have : b < w.heap.size := hb; omega)
      exact h2.trans h1)
  have hM := vMod m K _ _ hv3 hI hm16 hgood hcnt hps
  have hb34 := ((((Below.refl w3.heap.size w3).alloc (Nat.le_refl _) (.map #[] 0)).alloc (by simp) (.map #[] 0)).alloc (by simp; omega) (.cells #[.string ⟨#[]⟩, .slice none 0 0, .slice none 0 0, .slice none 0 0, .map (some w3.heap.size), .map (some (w3.heap.size + 1)), .map none, .int .i64 0] 120))
  have hs4 : (((w3.alloc (.map #[] 0)).alloc (.map #[] 0)).alloc (.cells #[.string ⟨#[]⟩, .slice none 0 0, .slice none 0 0, .slice none 0 0, .map (some w3.heap.size), .map (some (w3.heap.size + 1)), .map none, .int .i64 0] 120)).heap.size = w3.heap.size + 3 := by simp
  obtain ⟨w4, hw4⟩ : ∃ w4, w4 = (((w3.alloc (.map #[] 0)).alloc (.map #[] 0)).alloc (.cells #[.string ⟨#[]⟩, .slice none 0 0, .slice none 0 0, .slice none 0 0, .map (some w3.heap.size), .map (some (w3.heap.size + 1)), .map none, .int .i64 0] 120)) := ⟨_, rfl⟩
  rw [← hw4] at hM hb34 hs4
  clear hI hv3 hv
  rw [hs3] at hw4
  rw [hw3] at hw4
  rw [hs3] at hM
  go_enter_defers Tryz.func32, Tryz.ntmps32
  go_wp2_with (fail)
  rw [← hw4]
  refine hM.mono ?_
  clear hw4 hw3 hM
  rintro e w5 ⟨hb5, (⟨q, hq, rfl⟩ | ⟨hq, rfl, mp', vv', pv', iv', P', ms', ns', qs', a', hI5, hP5, hn20, hi6⟩)⟩
  · have hb35 : Below w3.heap.size w3 w5 := hb34.trans (by rw [hs3]; exact hb5)
    have bG5 := bG.below hb35
    have bF5 := bF.below hb35
    have hz := bG5.lt
    have key := dcatch (w.heap.size + 1 + 1) q.1 q.2 w5 bG5.c0 bG5.c1 bG5.f0 bG5.f1 hz
    have HK : Hid (Below w.heap.size w w5) := hb3.trans (hb35.mono hb3.size)
    have HQ : Hid (lookD K [m] [] 1 = some q) := hq
    clear hq hb5 hb35 hb34
    go_wp2
    refine leaves_cons (f := 78) (args := #[.pointer (some ⟨w.heap.size + 1 + 1, 0, none⟩)]) (by simp) (by simp [go_sem]) ?_
    refine key.mono ?_
    rintro e u' w6 ⟨rfl, rfl, c0, c1, hF6⟩
    have bF6 := bF5.block (w' := w6) (hF6.block _ (by omega) (by simp))
    obtain ⟨t0, t1, t2, _, _, _⟩ := id bF6
    have HK6 : Below w.heap.size w w6 := ⟨hF6.os.trans HK.out.os, hF6.tape.trans HK.out.tape, hF6.output.trans HK.out.output, Nat.le_trans HK.out.size hF6.size, fun j hj => (hF6.block j (by have := HK.out.size; omega) (by simp; omega)).trans (HK.out.block j hj)⟩
    refine ⟨.tuple #[.agg #[.string ⟨#[]⟩, .slice none 0 0, .slice none 0 0], .slice none 0 0, .agg #[.int .i64 q.1, .int .i64 q.2]], ?_, ?_⟩
    · simp [results, Tryz.results32, go_sem, t0, t1, t2, c0, c1]
    · unfold DeclOut
      rw [HQ.out]
      exact ⟨rfl, HK6⟩
  have hb35 : Below w3.heap.size w3 w5 := hb34.trans (by rw [hs3]; exact hb5)
  have bG5 := bG.below hb35
  have bF5 := bF.below hb35
  have hz := bG5.lt
  have HK1 : Hid (Below w.heap.size w w5) := hb3.trans (hb35.mono hb3.size)
  have HQ : Hid (lookD K [m] [] 1 = none) := hq
  have HP : Hid (P'.map (·.1) = procsK false K ∧ (namesK K).length ≤ 20 ∧ (importsK K).length ≤ 6) := ⟨hP5, hn20, hi6⟩
  clear hq hb5 hb35 hb34 hP5 hn20 hi6
  obtain ⟨av, cv, rfl⟩ := hI5.fr.shapeV
  obtain ⟨ap, cp, rfl⟩ := hI5.fr.shapeP
  obtain ⟨ai, ci, rfl, _, _⟩ := lexs.own_shape hI5.oi
  obtain ⟨m0, m1, m2, m3, _, _, _, _, _⟩ := id hI5.dc
  obtain ⟨t0, t1, t2, t3, t4, t5⟩ := id bF5
  obtain ⟨s0, s1, s2, s3⟩ := id bG5
  have hDlt := hI5.dc.lt
  have HF : Hid _ := decl_fin (N := w.heap.size + 1) hI5 HP.out.1 HP.out.2.1 (by omega) _ (Nat.le_succ _) HK1.out (.string m) (.slice av (varsK false K).length cv) (.slice ap P'.length cp) (.int .i64 0) (.int .i64 0)
  go_wp2
  go_region
  all_goals
    go_wp2
    refine leaves_cons (f := 78) (args := #[.pointer (some ⟨w.heap.size + 1 + 1, 0, none⟩)]) (by simp) (by simp [go_sem]) ?_
    refine (dcatch_idle _ _).mono ?_
    rintro e u' w6 ⟨rfl, rfl, hw6⟩
    subst hw6
    refine ⟨.tuple #[.agg #[.string m, .slice av (varsK false K).length cv, .slice ap P'.length cp], .slice ai (importsK K).length ci, .agg #[.int .i64 0, .int .i64 0]], ?_, ?_⟩
    · simp [results, Tryz.results32, go_sem, t0, t1, t2, s0, s1]
    · unfold DeclOut
      rw [HQ.out]
      exact ⟨_, _, _, _, _, _, by omega, rfl, HF.out.1, HP.out.1, HP.out.2.1, HF.out.2⟩
end
end Go.Proofs.YtchhpinmoagkhaaGreatDoor.face
namespace Go.Proofs.YtchhpinmoagkhaaGreatDoor.face
open Go.Proofs.YtchhpinmoagkhaaGreatDoor.lexs (Tok scan scan_len)
open Go.Proofs.YtchhpinmoagkhaaGreatDoor.syn
set_option linter.unusedVariables false

section
variable (ts : List Tok)
theorem name_size (s : St) : (name ts s).1.size ≤ 16 := by
  unfold name
  split
  · rename_i h
    unfold isName at h
    simp only [Bool.and_eq_true, decide_eq_true_eq] at h
    exact h.1.1.1.2
  · exact Nat.zero_le _
theorem paramsL_is2 : ∀ (f : Nat) (ps : List (ByteArray × Bool)) (s : St) (q : List Tree × St), (∀ q ∈ ps, q.1.size ≤ 16) → paramsL ts f (ps.map parT) s = some q → ∃ ps' : List (ByteArray × Bool), q.1 = ps'.map parT ∧ ∀ q ∈ ps', q.1.size ≤ 16
  | 0, ps, s, q, hs, h => by unfold paramsL at h; cases h
  | f + 1, ps, s, q, hs, h => by
    unfold paramsL at h
    obtain ⟨l, hl⟩ := label_is ts s
    have e : ps.map parT ++ [.node 5 (name ts (label ts s).2).1 (label ts s).1 []] = (ps ++ [((name ts (label ts s).2).1, l)]).map parT := by
      rw [List.map_append, hl]; rfl
    rw [e] at h
    have hs2 : ∀ q ∈ ps ++ [((name ts (label ts s).2).1, l)], q.1.size ≤ 16 := by
      intro q hq
      rw [List.mem_append] at hq
      rcases hq with hq | hq
      · exact hs q hq
      · simp only [List.mem_singleton] at hq; subst hq; exact name_size ts _
    split at h
    · exact paramsL_is2 f _ _ _ hs2 h
    · cases h; exact ⟨_, rfl, hs2⟩
theorem decl_is2 (f : Nat) (s : St) (q : Tree × St) (h : declF ts f s = some q) : ∃ k : Kid, q.1 = k.tree ∧ k.good := by
  unfold declF at h
  obtain ⟨p, hp⟩ := pub_is ts s
  rw [hp] at h
  split at h
  · obtain ⟨a, ha, h⟩ := Option.bind_eq_some_iff.1 h
    obtain ⟨b, hb, h⟩ := Option.bind_eq_some_iff.1 h
    cases h
    obtain ⟨ps, hps, hsz⟩ : ∃ ps : List (ByteArray × Bool), a.1 = ps.map parT ∧ ∀ q ∈ ps, q.1.size ≤ 16 := by
      unfold params at ha
      split at ha
      · cases ha; exact ⟨[], rfl, fun q hq => by cases hq⟩
      · exact paramsL_is2 ts f [] _ _ (fun q hq => by cases hq) ha
    obtain ⟨l, g, hg⟩ := gives_is ts p (must ts ⟨#[41]⟩ a.2)
    refine ⟨.proc (name ts (pubS ts s).next).1 p l g ps b.1, ?_, name_size ts _, hsz, (inS ts f).bl _ _ hb⟩
    show Tree.node 4 _ _ _ = Tree.node 4 _ _ _
    rw [hg, hps]
  · cases h
    obtain ⟨l, hl⟩ := label_is ts (pubS ts s)
    rw [hl]
    unfold varS
    split
    · obtain ⟨n, hn⟩ := number_is ts (name ts (label ts (pubS ts s)).2).2.next
      rw [hn]
      exact ⟨.var _ p l (some n), rfl, name_size ts _⟩
    · exact ⟨.var _ p l none, rfl, name_size ts _⟩
theorem importsL_is2 : ∀ (f : Nat) (ks : List Kid) (s : St) (q : List Tree × St), (∀ k ∈ ks, k.good) → importsL ts f (ks.map Kid.tree) s = some q → ∃ ks' : List Kid, q.1 = ks'.map Kid.tree ∧ ∀ k ∈ ks', k.good
  | 0, ks, s, q, hk, h => by unfold importsL at h; cases h
  | f + 1, ks, s, q, hk, h => by
    unfold importsL at h
    split at h
    · have e : ks.map Kid.tree ++ [.node 2 (name ts s.next).1 0 []] = (ks ++ [Kid.imp (name ts s.next).1]).map Kid.tree := by rw [List.map_append]; rfl
      rw [e] at h
      refine importsL_is2 f _ _ _ ?_ h
      intro k hm
      rw [List.mem_append] at hm
      rcases hm with hm | hm
      · exact hk k hm
      · simp only [List.mem_singleton] at hm; subst hm; exact name_size ts _
    · cases h; exact ⟨ks, rfl, hk⟩
theorem declsL_is2 : ∀ (f : Nat) (ks : List Kid) (s : St) (q : List Tree × St), (∀ k ∈ ks, k.good) → declsL ts f (ks.map Kid.tree) s = some q → ∃ ks' : List Kid, q.1 = ks'.map Kid.tree ∧ ∀ k ∈ ks', k.good
  | 0, ks, s, q, hk, h => by unfold declsL at h; cases h
  | f + 1, ks, s, q, hk, h => by
    unfold declsL at h
    split at h
    · cases h; exact ⟨ks, rfl, hk⟩
    · obtain ⟨p, hp, h⟩ := Option.bind_eq_some_iff.1 h
      obtain ⟨k, hk1, hk2⟩ := decl_is2 ts _ _ _ hp
      have e : ks.map Kid.tree ++ [p.1] = (ks ++ [k]).map Kid.tree := by rw [List.map_append, hk1]; rfl
      rw [e] at h
      refine declsL_is2 f _ _ _ ?_ h
      intro k' hm
      rw [List.mem_append] at hm
      rcases hm with hm | hm
      · exact hk k' hm
      · simp only [List.mem_singleton] at hm; subst hm; exact hk2
end
/-- THE SHAPE: of every text that is a module -/
theorem parse_shape2 (x : ByteArray) (h : (parse x).code = 0) : ∃ (m : ByteArray) (ks : List Kid), (parse x).tree = .node 1 m 0 (ks.map Kid.tree) ∧ m.size ≤ 16 ∧ (∀ k ∈ ks, k.good) ∧ fitsT (parse x).tree = true := by
  unfold parse at h ⊢
  cases hs : scan x.data.toList with
  | err c p =>
    rw [hs] at h
    exact absurd h (lexs.scan_err hs)
  | ok ts =>
    obtain ⟨p, q, hp, hq, hm⟩ := moduleF_has (ts := ts) (scan_len hs)
    rw [hs] at h
    simp only [hm] at h ⊢
    unfold judge at h ⊢
    cases hb : q.2.bad with
    | true =>
      rw [if_pos hb] at h
      simp at h
    | false =>
      rw [if_neg (by simp [hb])] at h ⊢
      cases hf : fitsT (.node 1 (headX ts) 0 q.1) with
      | false =>
        rw [if_neg (by simp [hf])] at h
        simp at h
      | true =>
        rw [if_pos rfl]
        obtain ⟨ks, e1, hk⟩ := importsL_is2 ts _ [] _ _ (fun k hk => by cases hk) hp
        rw [e1] at hq
        obtain ⟨ks', e2, hk'⟩ := declsL_is2 ts _ ks _ _ hk hq
        exact ⟨headX ts, ks', by show Tree.node 1 _ 0 q.1 = _; rw [e2], name_size ts _, hk', hf⟩
end Go.Proofs.YtchhpinmoagkhaaGreatDoor.face
namespace Go.Proofs.YtchhpinmoagkhaaGreatDoor.face
open Go.RowKit Go.Maps
open Go.Proofs.YtchhpinmoagkhaaGreatDoor.syn
set_option linter.unusedVariables false
set_option linter.unusedSimpArgs false
set_option maxRecDepth 100000

theorem hasBoth_below {w w' : World} (h : HasBoth w) (hb : Below w.heap.size w w') : HasBoth w' := ⟨lexs.hasErr_below h.1 hb, hasOps_below h.2 hb⟩
theorem lookD_ne (m : ByteArray) (K : List Kid) (a : Int) (e : Int × Int) (h : lookD K [m] [] a = some e) : e.1 ≠ 0 := by
  rw [lookD_is] at h
  exact lookK_ne m K [] [] a e h
/-- what a call answers that tells a face, as the document says it -/
theorem DeclOut.res {w : World} {m : ByteArray} {K : List Kid} {e : Ending} {w' : World} (h : DeclOut w m K e w') :
    (match lookK m K [] [] 1 with
      | some e => OfRes w noFace [] e.1 e.2
      | none => OfRes w (faceK false m K) (importsK K) 0 0) e w' := by
  unfold DeclOut at h
  rw [lookD_is] at h
  cases hl : lookK m K [] [] 1 with
  | some q =>
    rw [hl] at h
    exact ⟨_, _, h.1, noFace_in _, noStrs_in _, h.2⟩
  | none =>
    rw [hl] at h
    obtain ⟨X, B, vv, pv, iv, P, hB, he, hF, hP, hn, hi, hb⟩ := h
    have hV := varsN_len false K
    have hPl : P.length ≤ 1000 := by have h1 := congrArg List.length hP; have h2 := procsN_len false K; rw [List.length_map] at h1; omega
    refine ⟨_, _, he, ?_, strs_own hi, hb⟩
    have := hF.face (m := m) (by omega) hPl
    rw [hP] at this
    exact this
set_option maxHeartbeats 4000000 in
theorem oOf_bad (x : ByteArray) (w : World) (hH : HasBoth w) (hc : (parse x).code ≠ 0) :
    Calls Tryz.prog 14 #[.string x] w (OfRes w noFace [] (parse x).code (parse x).place) := by
  have c24 : Tryz.prog.cellsOf 24 = 4 := by kernel_rfl
  have c27 : Tryz.prog.cellsOf 27 = 2 := by kernel_rfl
  have c3 : Tryz.prog.cellsOf 38 = 3 := cell3
  have hB := Joins.below_alloc2 w (.cells #[.string ⟨#[]⟩, .slice none 0 0, .slice none 0 0] 38) (.cells #[.int .i64 0, .int .i64 0] 27)
  have hP := oparse x ((w.alloc (.cells #[.string ⟨#[]⟩, .slice none 0 0, .slice none 0 0] 38)).alloc (.cells #[.int .i64 0, .int .i64 0] 27)) (hasBoth_below hH hB)
  unfold PsOut at hP
  have hcb : ((parse x).code == 0) = false := beq_false_of_ne hc
  have hcn : ((parse x).code != 0) = true := by simp [bne, hcb]
  generalize (parse x).code = cc at hP hc hcb hcn
  generalize (parse x).place = pp at hP
  generalize (parse x).tree = tt at hP
  have bF := (Box3.new w (.string ⟨#[]⟩) (.slice none 0 0) (.slice none 0 0) 38).alloc (.cells #[.int .i64 0, .int .i64 0] 27)
  have bG := Box2.new (w.alloc (.cells #[.string ⟨#[]⟩, .slice none 0 0, .slice none 0 0] 38)) (.int .i64 0) (.int .i64 0) 27
  rw [World.size_alloc] at bG
  go_enter Tryz.func14, Tryz.ntmps14
  go_wp2_with (go_at_call 9; refine hP.mono ?_; rintro e w1 ⟨v, rfl, hly, hb1⟩; obtain ⟨k0, x0, m0, a0, n0, d0, rfl⟩ := lies_shape hly; have bF1 := ((bF.below hb1).alloc (.cells #[.int .i64 k0, .string x0, .int .i64 m0, .slice a0 n0 d0] 24)).alloc (.cells #[.int .i64 cc, .int .i64 pp] 27); have bG1 := ((bG.below hb1).alloc (.cells #[.int .i64 k0, .string x0, .int .i64 m0, .slice a0 n0 d0] 24)).alloc (.cells #[.int .i64 cc, .int .i64 pp] 27); have hB2 := (hB.trans (hb1.mono hB.size)).trans ((Joins.below_alloc2 w1 (.cells #[.int .i64 k0, .string x0, .int .i64 m0, .slice a0 n0 d0] 24) (.cells #[.int .i64 cc, .int .i64 pp] 27)).mono (hB.trans (hb1.mono hB.size)).size); obtain ⟨t0, t1, t2, t3, t4, t5⟩ := id bF1; obtain ⟨s0, s1, s2, s3⟩ := id bG1)
  have hsz : w.heap.size + 1 < w1.heap.size := (bG.below hb1).lt
  go_region
  all_goals
    go_wp2
    refine bodyPost_ret (v := .tuple #[.agg #[.string ⟨#[]⟩, .slice none 0 0, .slice none 0 0], .slice none 0 0, .agg #[.int .i64 cc, .int .i64 pp]]) (by simp [results, Tryz.results14, go_sem, t0, t1, t2, s0, s1]) rfl ⟨_, _, rfl, noFace_in _, noStrs_in _, ?_⟩
    exact (((((hB2.setCell (Nat.le_refl _) _).setCell (Nat.le_refl _) _).setCell (Nat.le_refl _) _).setCell (Nat.le_succ _) _).setCell (Nat.le_succ _) _).drew
theorem of_put {w w5 : World} {X : Nat → Prop} {B : Nat} {vv pv iv : Value} {V : List VarD} {P : List (ProcD × Value)} {L : List ByteArray} (hB : w.heap.size + 2 ≤ B) (hF : FR X B w5 vv pv V P) (hi : w5.ownsRow B 9 1 iv L.length (strV L)) (hb : Below w.heap.size w w5) (x y z p q : Value) :
    FR X B (((((w5.setCell ⟨w.heap.size, 0, none⟩ x).setCell ⟨w.heap.size, 1, none⟩ y).setCell ⟨w.heap.size, 2, none⟩ z).setCell ⟨w.heap.size + 1, 0, none⟩ p).setCell ⟨w.heap.size + 1, 1, none⟩ q) vv pv V P ∧
    (((((w5.setCell ⟨w.heap.size, 0, none⟩ x).setCell ⟨w.heap.size, 1, none⟩ y).setCell ⟨w.heap.size, 2, none⟩ z).setCell ⟨w.heap.size + 1, 0, none⟩ p).setCell ⟨w.heap.size + 1, 1, none⟩ q).ownsRow B 9 1 iv L.length (strV L) ∧
    Below w.heap.size w (((((w5.setCell ⟨w.heap.size, 0, none⟩ x).setCell ⟨w.heap.size, 1, none⟩ y).setCell ⟨w.heap.size, 2, none⟩ z).setCell ⟨w.heap.size + 1, 0, none⟩ p).setCell ⟨w.heap.size + 1, 1, none⟩ q) := by
  refine ⟨?_, ?_, ?_⟩
  · exact ((((hF.set (M := w.heap.size) (o := 0) (by omega) x).set (M := w.heap.size) (o := 1) (by omega) y).set (M := w.heap.size) (o := 2) (by omega) z).set (M := w.heap.size + 1) (o := 0) (by omega) p).set (M := w.heap.size + 1) (o := 1) (by omega) q
  · have n0 : iv.ownBlock ≠ some w.heap.size := fun e => by have := (hi.lt _ e).1; omega
    have n1 : iv.ownBlock ≠ some (w.heap.size + 1) := fun e => by have := (hi.lt _ e).1; omega
    exact ownsRow_setCell_other (a := ⟨w.heap.size + 1, 1, none⟩) (ownsRow_setCell_other (a := ⟨w.heap.size + 1, 0, none⟩) (ownsRow_setCell_other (a := ⟨w.heap.size, 2, none⟩) (ownsRow_setCell_other (a := ⟨w.heap.size, 1, none⟩) (ownsRow_setCell_other (a := ⟨w.heap.size, 0, none⟩) hi n0 x) n0 y) n0 z) n1 p) n1 q
  · exact ((((hb.setCell (Nat.le_refl _) _).setCell (Nat.le_refl _) _).setCell (Nat.le_refl _) _).setCell (Nat.le_succ _) _).setCell (Nat.le_succ _) _
theorem DeclOut.bad {w : World} {m : ByteArray} {K : List Kid} {q : Int × Int} {e : Ending} {w' : World} (hq : lookD K [m] [] 1 = some q) : DeclOut w m K e w' ↔ (e = .returned (.tuple #[.agg #[.string ⟨#[]⟩, .slice none 0 0, .slice none 0 0], .slice none 0 0, .agg #[.int .i64 q.1, .int .i64 q.2]]) ∧ Below w.heap.size w w') := by
  unfold DeclOut; rw [hq]
theorem DeclOut.ok {w : World} {m : ByteArray} {K : List Kid} {e : Ending} {w' : World} (hq : lookD K [m] [] 1 = none) : DeclOut w m K e w' ↔ ∃ (X : Nat → Prop) (B : Nat) (vv pv iv : Value) (P : List (ProcD × Value)), w.heap.size ≤ B ∧ e = .returned (.tuple #[.agg #[.string m, vv, pv], iv, .agg #[.int .i64 0, .int .i64 0]]) ∧ FR X B w' vv pv (varsK false K) P ∧ P.map (·.1) = procsK false K ∧ (namesK K).length ≤ 20 ∧ w'.ownsRow B 9 1 iv (importsK K).length (strV (importsK K)) ∧ Below w.heap.size w w' := by
  unfold DeclOut; rw [hq]
set_option maxHeartbeats 8000000 in
theorem oOf_ok (x : ByteArray) (m : ByteArray) (K : List Kid) (w : World) (hH : HasBoth w) (hc : (parse x).code = 0) (ht : (parse x).tree = .node 1 m 0 (K.map Kid.tree)) (hm16 : m.size ≤ 16) (hgood : ∀ k ∈ K, k.good) (hK : cntL (K.map Kid.tree) ≤ 1000) (hps : ∀ k ∈ K, k.kids.length ≤ 1000) :
    Calls Tryz.prog 14 #[.string x] w (DeclOut w m K) := by
  have c24 : Tryz.prog.cellsOf 24 = 4 := by kernel_rfl
  have c27 : Tryz.prog.cellsOf 27 = 2 := by kernel_rfl
  have c3 : Tryz.prog.cellsOf 38 = 3 := cell3
  have hB := Joins.below_alloc2 w (.cells #[.string ⟨#[]⟩, .slice none 0 0, .slice none 0 0] 38) (.cells #[.int .i64 0, .int .i64 0] 27)
  have hP := oparse x ((w.alloc (.cells #[.string ⟨#[]⟩, .slice none 0 0, .slice none 0 0] 38)).alloc (.cells #[.int .i64 0, .int .i64 0] 27)) (hasBoth_below hH hB)
  unfold PsOut at hP
  rw [hc, ht] at hP
  generalize (parse x).place = pp at hP
  clear hc ht
  have bF := (Box3.new w (.string ⟨#[]⟩) (.slice none 0 0) (.slice none 0 0) 38).alloc (.cells #[.int .i64 0, .int .i64 0] 27)
  have bG := Box2.new (w.alloc (.cells #[.string ⟨#[]⟩, .slice none 0 0, .slice none 0 0] 38)) (.int .i64 0) (.int .i64 0) 27
  rw [World.size_alloc] at bG
  go_enter Tryz.func14, Tryz.ntmps14
  go_wp2_with first
    | (go_at_call 9; refine hP.mono ?_; rintro e w1 ⟨v, rfl, hly, hb1⟩; obtain ⟨a0, d0, rfl, hlyN⟩ := mod_shape hly; have hW0 := hB.trans (hb1.mono hB.size); have hWa := Joins.below_alloc2 w1 (.cells #[.int .i64 1, .string m, .int .i64 0, .slice a0 K.length d0] 24) (.cells #[.int .i64 0, .int .i64 pp] 27); have hW := hW0.trans (hWa.mono hW0.size); have hlyW := hlyN.below hWa; have bFn := (bF.below hb1).below hWa; have bGn := (bG.below hb1).below hWa; have hsz : w.heap.size + 1 < w1.heap.size := (bG.below hb1).lt; have hD := oDeclare m K _ _ hlyW hm16 hgood hK hps)
    | fail
  cases hq : lookD K [m] [] 1 with
  | some q =>
    refine hD.mono ?_
    intro e w4 h4
    rw [DeclOut.bad hq] at h4
    obtain ⟨rfl, hb4⟩ := h4
    obtain ⟨t0, t1, t2, t3, t4, t5⟩ := bFn.below hb4
    obtain ⟨s0, s1, s2, s3⟩ := bGn.below hb4
    have HB : Hid (Below w.heap.size w w4) := hW.trans (hb4.mono hW.size)
    have HQ : Hid (lookD K [m] [] 1 = some q) := hq
    clear hq bF bG bFn bGn hP hD hb4 hW hW0 hWa hB
    go_wp2
    refine bodyPost_ret (v := .tuple #[.agg #[.string ⟨#[]⟩, .slice none 0 0, .slice none 0 0], .slice none 0 0, .agg #[.int .i64 q.1, .int .i64 q.2]]) (by simp [results, Tryz.results14, go_sem, t0, t1, t2, s0, s1]) rfl ?_
    rw [DeclOut.bad HQ.out]
    exact ⟨rfl, ((((HB.out.setCell (Nat.le_refl _) _).setCell (Nat.le_refl _) _).setCell (Nat.le_refl _) _).setCell (Nat.le_succ _) _).setCell (Nat.le_succ _) _⟩
  | none =>
    refine hD.mono ?_
    intro e w4 h4
    rw [DeclOut.ok hq] at h4
    obtain ⟨X, B, vv, pv, iv, P, hBB, rfl, hF, hPm, hn, hi, hb4⟩ := h4
    obtain ⟨av, cv, rfl⟩ := hF.shapeV
    obtain ⟨ap, cp, rfl⟩ := hF.shapeP
    obtain ⟨ai, ci, rfl, _, _⟩ := lexs.own_shape hi
    obtain ⟨t0, t1, t2, t3, t4, t5⟩ := bFn.below hb4
    obtain ⟨s0, s1, s2, s3⟩ := bGn.below hb4
    have hsw : w1.heap.size ≤ B := by have := hWa.size; omega
    have HF : Hid _ := of_put (w := w) (by omega) hF hi (hW.trans (hb4.mono hW.size)) (.string m) (.slice av (varsK false K).length cv) (.slice ap P.length cp) (.int .i64 0) (.int .i64 0)
    have HP : Hid (P.map (·.1) = procsK false K ∧ (namesK K).length ≤ 20 ∧ w.heap.size ≤ B) := ⟨hPm, hn, by omega⟩
    have HQ : Hid (lookD K [m] [] 1 = none) := hq
    clear hq bF bG bFn bGn hP hD hb4 hW hW0 hWa hB hF hi hPm hn
    go_wp2
    refine bodyPost_ret (v := .tuple #[.agg #[.string m, .slice av (varsK false K).length cv, .slice ap P.length cp], .slice ai (importsK K).length ci, .agg #[.int .i64 0, .int .i64 0]]) (by simp [results, Tryz.results14, go_sem, t0, t1, t2, s0, s1]) rfl ?_
    rw [DeclOut.ok HQ.out]
    exact ⟨X, B, _, _, _, P, HP.out.2.2, rfl, HF.out.1, HP.out.1, HP.out.2.1, HF.out.2⟩
end Go.Proofs.YtchhpinmoagkhaaGreatDoor.face
