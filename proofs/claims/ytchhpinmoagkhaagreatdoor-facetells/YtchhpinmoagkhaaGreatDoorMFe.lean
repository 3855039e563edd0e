/- What the reference's Of answers: a contract. -/
import Derived.Test.YtchhpinmoagkhaaGreatDoorProg
import Derived.WalkKit
import Derived.WalkLawsBesides
import Derived.Outline
import Derived.WalkSmall
import Derived.BigQuiet
import Derived.Deep.QuietTactic
import Derived.Deep.RegionWith
import Derived.Test.YtchhpinmoagkhaaGreatDoorMZa
import Derived.Test.YtchhpinmoagkhaaGreatDoorMFd
namespace Go.Proofs.YtchhpinmoagkhaaGreatDoor.face
open Go.RowKit
open Go.Proofs.YtchhpinmoagkhaaGreatDoor.syn
set_option linter.unusedVariables false
set_option linter.unusedSimpArgs false
set_option maxRecDepth 100000

/-- what a call that tells a text's face answers -/
def OfRes (w : World) (f : FaceD) (l : List ByteArray) (c a : Int) (e : Ending) (w' : World) : Prop :=
  ∃ fv lv, e = .returned (.tuple #[fv, lv, .agg #[.int .i64 c, .int .i64 a]]) ∧ FaceIn w' fv f ∧ StrsIn w' lv l ∧ Below w.heap.size w w'
def noFace : FaceD := ⟨⟨#[]⟩, [], []⟩
theorem noFace_in (w : World) : FaceIn w (.agg #[.string ⟨#[]⟩, .slice none 0 0, .slice none 0 0]) noFace :=
  ⟨_, _, rfl, ⟨none, 0, rfl, by simp [noFace], fun h => absurd rfl h⟩, ⟨none, 0, rfl, by simp [noFace], fun h => absurd rfl h⟩⟩
theorem noStrs_in (w : World) : StrsIn w (.slice none 0 0) [] := ⟨none, 0, rfl, by simp, fun h => absurd rfl h⟩
theorem lies_shape {Q : Nat → Prop} {w : World} {t : Tree} {v : Value} (h : Lies Q w t v) : ∃ k x m a n c, v = .agg #[.int .i64 k, .string x, .int .i64 m, .slice a n c] := by
  match t, h with
  | .node k x m ks, h =>
    unfold Lies at h
    obtain ⟨a, c, e, _⟩ := h
    exact ⟨k, x, m, a, _, c, e⟩
set_option maxHeartbeats 4000000 in
theorem rOf_bad (x : ByteArray) (w : World) (hc : (parse x).code ≠ 0) :
    Calls Tryz.prog 15 #[.string x] w (OfRes w noFace [] (parse x).code (parse x).place) := by
  have c24 : Tryz.prog.cellsOf 24 = 4 := by kernel_rfl
  have c27 : Tryz.prog.cellsOf 27 = 2 := by kernel_rfl
  have c3 : Tryz.prog.cellsOf 38 = 3 := cell3
  have hB := Joins.below_alloc2 w (.cells #[.string ⟨#[]⟩, .slice none 0 0, .slice none 0 0] 38) (.cells #[.int .i64 0, .int .i64 0] 27)
  have hP := rparse x ((w.alloc (.cells #[.string ⟨#[]⟩, .slice none 0 0, .slice none 0 0] 38)).alloc (.cells #[.int .i64 0, .int .i64 0] 27)) trivial
  unfold PsOut at hP
  have hcb : ((parse x).code == 0) = false := beq_false_of_ne hc
  have hcn : ((parse x).code != 0) = true := by simp [bne, hcb]
  generalize (parse x).code = cc at hP hc hcb hcn
  generalize (parse x).place = pp at hP
  generalize (parse x).tree = tt at hP
  have bF := (Box3.new w (.string ⟨#[]⟩) (.slice none 0 0) (.slice none 0 0) 38).alloc (.cells #[.int .i64 0, .int .i64 0] 27)
  have bG := Box2.new (w.alloc (.cells #[.string ⟨#[]⟩, .slice none 0 0, .slice none 0 0] 38)) (.int .i64 0) (.int .i64 0) 27
  rw [World.size_alloc] at bG
  go_enter Tryz.func15, Tryz.ntmps15
  go_wp2_with (go_at_call 10; refine hP.mono ?_; rintro e w1 ⟨v, rfl, hly, hb1⟩; obtain ⟨k0, x0, m0, a0, n0, d0, rfl⟩ := lies_shape hly; have bF1 := ((bF.below hb1).alloc (.cells #[.int .i64 k0, .string x0, .int .i64 m0, .slice a0 n0 d0] 24)).alloc (.cells #[.int .i64 cc, .int .i64 pp] 27); have bG1 := ((bG.below hb1).alloc (.cells #[.int .i64 k0, .string x0, .int .i64 m0, .slice a0 n0 d0] 24)).alloc (.cells #[.int .i64 cc, .int .i64 pp] 27); have hB2 := (hB.trans (hb1.mono hB.size)).trans ((Joins.below_alloc2 w1 (.cells #[.int .i64 k0, .string x0, .int .i64 m0, .slice a0 n0 d0] 24) (.cells #[.int .i64 cc, .int .i64 pp] 27)).mono (hB.trans (hb1.mono hB.size)).size); obtain ⟨t0, t1, t2, t3, t4, t5⟩ := id bF1; obtain ⟨s0, s1, s2, s3⟩ := id bG1)
  have hsz : w.heap.size + 1 < w1.heap.size := (bG.below hb1).lt
  go_region
  all_goals
    go_wp2
    refine bodyPost_ret (v := .tuple #[.agg #[.string ⟨#[]⟩, .slice none 0 0, .slice none 0 0], .slice none 0 0, .agg #[.int .i64 cc, .int .i64 pp]]) (by simp [results, Tryz.results15, go_sem, t0, t1, t2, s0, s1]) rfl ⟨_, _, rfl, noFace_in _, noStrs_in _, ?_⟩
    exact (((((hB2.setCell (Nat.le_refl _) _).setCell (Nat.le_refl _) _).setCell (Nat.le_refl _) _).setCell (Nat.le_succ _) _).setCell (Nat.le_succ _) _).drew
theorem parF_ne : ∀ (ps : List (ByteArray × Bool)) (seen : List ByteArray) (a : Int) (e : Int × Int), parF seen ps a = some e → e.1 ≠ 0
  | [], _, _, e, h => by cases h
  | q :: r, seen, a, e, h => by
    unfold parF at h
    split at h
    · cases h; simp
    · exact parF_ne r _ _ e h
theorem lookK_ne (m : ByteArray) : ∀ (K : List Kid) (is ns : List ByteArray) (a : Int) (e : Int × Int), lookK m K is ns a = some e → e.1 ≠ 0
  | [], _, _, _, e, h => by cases h
  | .imp x :: r, is, ns, a, e, h => by
    unfold lookK at h
    split at h
    · cases h; simp
    · split at h
      · cases h; simp
      · exact lookK_ne m r _ _ _ e h
  | .var x p l n :: r, is, ns, a, e, h => by
    unfold lookK at h
    split at h
    · cases h; simp
    · split at h
      · cases h; simp
      · split at h
        · rename_i e' he
          cases h
          cases n with
          | none => cases he
          | some n =>
            rw [show rangeF (some n) a = if n < 1 ∨ 64 < n then some (6, a) else none from rfl] at he
            split at he
            · cases he; simp
            · cases he
        · exact lookK_ne m r _ _ _ e h
  | .proc x p l g ps b :: r, is, ns, a, e, h => by
    unfold lookK at h
    split at h
    · cases h; simp
    · split at h
      · cases h; simp
      · split at h
        · cases h; simp
        · split at h
          · rename_i e' he
            cases h
            exact parF_ne _ _ _ _ he
          · exact lookK_ne m r _ _ _ e h
theorem box2_other {w : World} {N : Nat} {x0 x1 : Value} (h : Box2 w N x0 x1) {M o : Nat} (hne : M ≠ N) (v : Value) : Box2 (w.setCell ⟨M, o, none⟩ v) N x0 x1 := by
  have hb : (w.setCell ⟨M, o, none⟩ v).heap[N]? = w.heap[N]? := Below.heap_setCell _ _ _ _ (fun e => hne (by rw [e]))
  exact ⟨(World.cell?_of_block (a := ⟨N, 0, none⟩) hb).trans h.c0, (World.cell?_of_block (a := ⟨N, 1, none⟩) hb).trans h.c1, (World.frozen?_of_block (a := ⟨N, 0, none⟩) hb).trans h.f0, (World.frozen?_of_block (a := ⟨N, 1, none⟩) hb).trans h.f1⟩
theorem below_two_set {B : Nat} {w wr : World} (h : Below B w wr) {M : Nat} (hM : B ≤ M) (x y : Value) : Below B w ((wr.setCell ⟨M, 0, none⟩ x).setCell ⟨M, 1, none⟩ y) := (h.setCell hM _).setCell hM _
theorem mod_shape {B : Nat} {w : World} {m : ByteArray} {K : List Kid} {v : Value} (h : Lies (fun b => B ≤ b ∧ b < w.heap.size) w (.node 1 m 0 (K.map Kid.tree)) v) :
    ∃ a d, v = .agg #[.int .i64 1, .string m, .int .i64 0, .slice a K.length d] ∧ Lies (· < w.heap.size) w (.node 1 m 0 (K.map Kid.tree)) (.agg #[.int .i64 1, .string m, .int .i64 0, .slice a K.length d]) := by
  have h2 := h.to (Q := (· < w.heap.size)) (w' := w) (fun b hb => hb.2) (fun _ _ _ => rfl)
  have h3 := h2
  unfold Lies at h3
  obtain ⟨a, d, e, _, _⟩ := h3
  rw [List.length_map] at e
  subst e
  exact ⟨a, d, rfl, h2⟩
theorem of_fin {w W3 w4 w5 : World} {m : ByteArray} {K : List Kid} {vv pv u : Value} {Pq : List (ProcD × Value)} (hW3 : Below w.heap.size w W3) (hsz : w.heap.size + 1 < W3.heap.size) (hFR : FR (fun _ => False) (W3.heap.size + 3) w4 vv pv (varsK false K) Pq) (hPq : Pq.map (·.1) = procsK false K) (hb4 : Below W3.heap.size W3 w4)
    (hou : w5.ownsRow (w4.heap.size + 1) 9 1 u (importsK K).length (strV (importsK K))) (hb5 : Below w4.heap.size w4 w5) (hKl : K.length ≤ 1000) (x y z p q : Value) :
    FaceIn (((((w5.setCell ⟨w.heap.size, 0, none⟩ x).setCell ⟨w.heap.size, 1, none⟩ y).setCell ⟨w.heap.size, 2, none⟩ z).setCell ⟨w.heap.size + 1, 0, none⟩ p).setCell ⟨w.heap.size + 1, 1, none⟩ q) (.agg #[.string m, vv, pv]) (faceK false m K) ∧
    StrsIn (((((w5.setCell ⟨w.heap.size, 0, none⟩ x).setCell ⟨w.heap.size, 1, none⟩ y).setCell ⟨w.heap.size, 2, none⟩ z).setCell ⟨w.heap.size + 1, 0, none⟩ p).setCell ⟨w.heap.size + 1, 1, none⟩ q) u (importsK K) ∧
    Below w.heap.size w (((((w5.setCell ⟨w.heap.size, 0, none⟩ x).setCell ⟨w.heap.size, 1, none⟩ y).setCell ⟨w.heap.size, 2, none⟩ z).setCell ⟨w.heap.size + 1, 0, none⟩ p).setCell ⟨w.heap.size + 1, 1, none⟩ q) := by
  have h4 := hb4.size
  have h5 := hb5.size
  have hV := varsK_len false K
  have hP : Pq.length ≤ 1000 := by have h1 := congrArg List.length hPq; have h2 := procsK_len false K; rw [List.length_map] at h1; omega
  refine ⟨?_, ?_, ?_⟩
  · have h := ((((((hFR.below hb5).set (M := w.heap.size) (o := 0) (by omega) x).set (M := w.heap.size) (o := 1) (by omega) y).set (M := w.heap.size) (o := 2) (by omega) z).set (M := w.heap.size + 1) (o := 0) (by omega) p).set (M := w.heap.size + 1) (o := 1) (by omega) q).face (m := m) (by omega) hP
    rw [hPq] at h
    exact h
  · have n0 : u.ownBlock ≠ some w.heap.size := fun e => by have := (hou.lt _ e).1; omega
    have n1 : u.ownBlock ≠ some (w.heap.size + 1) := fun e => by have := (hou.lt _ e).1; omega
    exact strs_own (ownsRow_setCell_other (ownsRow_setCell_other (ownsRow_setCell_other (ownsRow_setCell_other (ownsRow_setCell_other hou n0 _) n0 _) n0 _) n1 _) n1 _)
  · have h45 : Below w.heap.size w w5 := (hW3.trans (hb4.mono hW3.size)).trans (hb5.mono (by have := hW3.size; omega))
    exact ((((h45.setCell (Nat.le_refl _) _).setCell (Nat.le_refl _) _).setCell (Nat.le_refl _) _).setCell (Nat.le_succ _) _).setCell (Nat.le_succ _) _
set_option maxHeartbeats 8000000 in
theorem rOf_ok (x : ByteArray) (m : ByteArray) (K : List Kid) (w : World) (hc : (parse x).code = 0) (ht : (parse x).tree = .node 1 m 0 (K.map Kid.tree)) (hK : cntL (K.map Kid.tree) ≤ 1000) (hKl : K.length ≤ 1000) (hps : ∀ k ∈ K, k.kids.length ≤ 1000) :
    Calls Tryz.prog 15 #[.string x] w (match lookK m K [] [] 1 with
      | some e => OfRes w noFace [] e.1 e.2
      | none => OfRes w (faceK false m K) (importsK K) 0 0) := by
  have c24 : Tryz.prog.cellsOf 24 = 4 := by kernel_rfl
  have c27 : Tryz.prog.cellsOf 27 = 2 := by kernel_rfl
  have c3 : Tryz.prog.cellsOf 38 = 3 := cell3
  have hB := Joins.below_alloc2 w (.cells #[.string ⟨#[]⟩, .slice none 0 0, .slice none 0 0] 38) (.cells #[.int .i64 0, .int .i64 0] 27)
  have hP := rparse x ((w.alloc (.cells #[.string ⟨#[]⟩, .slice none 0 0, .slice none 0 0] 38)).alloc (.cells #[.int .i64 0, .int .i64 0] 27)) trivial
  unfold PsOut at hP
  rw [hc, ht] at hP
  generalize (parse x).place = pp at hP
  clear hc ht
  have bF := (Box3.new w (.string ⟨#[]⟩) (.slice none 0 0) (.slice none 0 0) 38).alloc (.cells #[.int .i64 0, .int .i64 0] 27)
  have bG := Box2.new (w.alloc (.cells #[.string ⟨#[]⟩, .slice none 0 0, .slice none 0 0] 38)) (.int .i64 0) (.int .i64 0) 27
  rw [World.size_alloc] at bG
  cases hR : lookK m K [] [] 1 with
  | some e =>
    obtain ⟨cc, qq⟩ := e
    have hne : cc ≠ 0 := lookK_ne m K [] [] 1 _ hR
    have hcn : (cc != 0) = true := by simp [bne, beq_false_of_ne hne]
    show Calls _ _ _ _ (OfRes w noFace [] cc qq)
    go_enter Tryz.func15, Tryz.ntmps15
    go_wp2_with first
      | (go_at_call 10; refine hP.mono ?_; rintro e w1 ⟨v, rfl, hly, hb1⟩; obtain ⟨a0, d0, rfl, hlyN⟩ := mod_shape hly; have hW0 := hB.trans (hb1.mono hB.size); have hWa := Joins.below_alloc2 w1 (.cells #[.int .i64 1, .string m, .int .i64 0, .slice a0 K.length d0] 24) (.cells #[.int .i64 0, .int .i64 pp] 27); have hW := hW0.trans (hWa.mono hW0.size); have hlyW := hlyN.below hWa; have bFn := (bF.below hb1).below hWa; have bGn := (bG.below hb1).below hWa; have bN := (Box4.new w1 (.int .i64 1) (.string m) (.int .i64 0) (.slice a0 K.length d0) 24).alloc (.cells #[.int .i64 0, .int .i64 pp] 27); have bE := Box2.new (w1.alloc (.cells #[.int .i64 1, .string m, .int .i64 0, .slice a0 K.length d0] 24)) (.int .i64 0) (.int .i64 pp) 27; rw [World.size_alloc] at bE; have hsz : w.heap.size + 1 < w1.heap.size := (bG.below hb1).lt; have hLk := rLook m K _ _ hlyW hK hKl hps; rw [hR] at hLk)
      | (go_at_call 33; refine hLk.mono ?_; rintro e w2 ⟨rfl, hb2⟩; have hW2 := hW.trans (hb2.mono hW.size); have bF2 := bFn.below hb2; have bG2 := bGn.below hb2; have bN2 := bN.below hb2; have bE2 := bE.below hb2; have hlyV := hlyW.below hb2; obtain ⟨e0, e1, e2, e3⟩ := id bE2; unfold faultV)
    have bF3 := (bF2.other (M := w1.heap.size + 1) (o := 0) (by omega) (.int .i64 cc)).other (M := w1.heap.size + 1) (o := 1) (by omega) (.int .i64 qq)
    have bG3 := box2_other (box2_other bG2 (M := w1.heap.size + 1) (o := 0) (by omega) (.int .i64 cc)) (M := w1.heap.size + 1) (o := 1) (by omega) (.int .i64 qq)
    have hW3 := below_two_set hW2 (M := w1.heap.size + 1) (by omega) (.int .i64 cc) (.int .i64 qq)
    obtain ⟨t0, t1, t2, t3, t4, t5⟩ := id bF3
    obtain ⟨s0, s1, s2, s3⟩ := id bG3
    go_region
    all_goals
      go_wp2
      refine bodyPost_ret (v := .tuple #[.agg #[.string ⟨#[]⟩, .slice none 0 0, .slice none 0 0], .slice none 0 0, .agg #[.int .i64 cc, .int .i64 qq]]) (by simp [results, Tryz.results15, go_sem, t0, t1, t2, s0, s1]) rfl ⟨_, _, rfl, noFace_in _, noStrs_in _, ?_⟩
      exact (((((hW3.setCell (Nat.le_refl _) _).setCell (Nat.le_refl _) _).setCell (Nat.le_refl _) _).setCell (Nat.le_succ _) _).setCell (Nat.le_succ _) _).drew
  | none =>
    show Calls _ _ _ _ (OfRes w (faceK false m K) (importsK K) 0 0)
    go_enter Tryz.func15, Tryz.ntmps15
    go_wp2_with first
      | (go_at_call 10; refine hP.mono ?_; rintro e w1 ⟨v, rfl, hly, hb1⟩; obtain ⟨a0, d0, rfl, hlyN⟩ := mod_shape hly; have hW0 := hB.trans (hb1.mono hB.size); have hWa := Joins.below_alloc2 w1 (.cells #[.int .i64 1, .string m, .int .i64 0, .slice a0 K.length d0] 24) (.cells #[.int .i64 0, .int .i64 pp] 27); have hW := hW0.trans (hWa.mono hW0.size); have hlyW := hlyN.below hWa; have bFn := (bF.below hb1).below hWa; have bGn := (bG.below hb1).below hWa; have bN := (Box4.new w1 (.int .i64 1) (.string m) (.int .i64 0) (.slice a0 K.length d0) 24).alloc (.cells #[.int .i64 0, .int .i64 pp] 27); have bE := Box2.new (w1.alloc (.cells #[.int .i64 1, .string m, .int .i64 0, .slice a0 K.length d0] 24)) (.int .i64 0) (.int .i64 pp) 27; rw [World.size_alloc] at bE; have hsz : w.heap.size + 1 < w1.heap.size := (bG.below hb1).lt; have hLk := rLook m K _ _ hlyW hK hKl hps; rw [hR] at hLk)
      | (go_at_call 33; refine hLk.mono ?_; rintro e w2 ⟨rfl, hb2⟩; have hW2 := hW.trans (hb2.mono hW.size); have bF2 := bFn.below hb2; have bG2 := bGn.below hb2; have bN2 := bN.below hb2; have bE2 := bE.below hb2; have hlyV := hlyW.below hb2; obtain ⟨e0, e1, e2, e3⟩ := id bE2; unfold faultV)
    have hB3 := below_two_set ((hWa.trans (hb2.mono hWa.size))) (M := w1.heap.size + 1) (by omega) (.int .i64 0) (.int .i64 0)
    have hW3 := below_two_set hW2 (M := w1.heap.size + 1) (by omega) (.int .i64 0) (.int .i64 0)
    have bF3 := (bF2.other (M := w1.heap.size + 1) (o := 0) (by omega) (.int .i64 0)).other (M := w1.heap.size + 1) (o := 1) (by omega) (.int .i64 0)
    have bG3 := box2_other (box2_other bG2 (M := w1.heap.size + 1) (o := 0) (by omega) (.int .i64 0)) (M := w1.heap.size + 1) (o := 1) (by omega) (.int .i64 0)
    have bN3 := (bN2.other (M := w1.heap.size + 1) (o := 0) (by omega) (.int .i64 0)).other (M := w1.heap.size + 1) (o := 1) (by omega) (.int .i64 0)
    have y0 : ((w2.setCell ⟨w1.heap.size + 1, 0, none⟩ (.int .i64 0)).setCell ⟨w1.heap.size + 1, 1, none⟩ (.int .i64 0)).cell? ⟨w1.heap.size + 1, 0, none⟩ = some (.int .i64 0) := by rw [World.cell?_setCell_other _ _ _ _ (by simp)]; exact World.cell?_setCell_same _ _ _ e0
    have y1 : ((w2.setCell ⟨w1.heap.size + 1, 0, none⟩ (.int .i64 0)).setCell ⟨w1.heap.size + 1, 1, none⟩ (.int .i64 0)).cell? ⟨w1.heap.size + 1, 1, none⟩ = some (.int .i64 0) := World.cell?_setCell_same _ _ _ (by rw [World.cell?_setCell_other _ _ _ _ (by simp)]; exact e1)
    generalize ((w2.setCell ⟨w1.heap.size + 1, 0, none⟩ (.int .i64 0)).setCell ⟨w1.heap.size + 1, 1, none⟩ (.int .i64 0)) = W3 at hB3 hW3 bF3 bG3 bN3 y0 y1 ⊢
    have hFc := rFace m K _ W3.drew (hlyN.below (w' := W3.drew) ⟨hB3.os, hB3.tape, hB3.output, hB3.size, hB3.block⟩) hKl hps
    have hIc := fun W (hb : Below w1.heap.size w1 W) => rImports m K _ W (hlyN.below hb) hKl
    obtain ⟨n0, n1, n2, n3, _, _, _, _⟩ := id bN3
    clear bF bG bFn bGn bF2 bG2 bN bN2 bE bE2 e0 e1 e2 e3 hP hLk
    go_region_with first
      | (go_at_call 34; refine hFc.mono ?_; rintro e w4 ⟨vv, pv, Pq, rfl, hFR, hPq, hb4'⟩; have hb4 : Below W3.heap.size W3 w4 := ⟨hb4'.os, hb4'.tape, hb4'.output, hb4'.size, hb4'.block⟩; obtain ⟨av, cv, rfl⟩ := hFR.shapeV; obtain ⟨ap, cp, rfl⟩ := hFR.shapeP; have bF4 := bF3.below hb4; have bG4 := bG3.below hb4; obtain ⟨p0, p1, p2, p3, _, _, _, _⟩ := id (bN3.below hb4); have z0 := keep y0 hb4; have z1 := keep y1 hb4; have hB4 := hB3.trans (hb4.mono hB3.size))
      | (go_at_call 35; refine (hIc _ hB4).mono ?_; rintro e w5 ⟨u, rfl, hou, hb5⟩; obtain ⟨au, cu, rfl, _, _⟩ := lexs.own_shape hou; have bF5 := bF4.below hb5; have bG5 := bG4.below hb5; have x0 := keep z0 hb5; have x1 := keep z1 hb5; obtain ⟨t0, t1, t2, t3, t4, t5⟩ := id bF5; obtain ⟨s0, s1, s2, s3⟩ := id bG5)
    all_goals
      obtain ⟨hFI, hSI, hBI⟩ := of_fin (m := m) hW3 (by have := hB3.size; omega) hFR hPq hb4 hou hb5 hKl (.string m) (.slice av (varsK false K).length cv) (.slice ap Pq.length cp) (.int .i64 0) (.int .i64 0)
      go_wp2
      exact bodyPost_ret (v := .tuple #[.agg #[.string m, .slice av (varsK false K).length cv, .slice ap Pq.length cp], .slice au (importsK K).length cu, .agg #[.int .i64 0, .int .i64 0]]) (by simp [results, Tryz.results15, go_sem, t0, t1, t2, s0, s1]) rfl ⟨_, _, rfl, hFI, hSI, hBI⟩
end Go.Proofs.YtchhpinmoagkhaaGreatDoor.face
