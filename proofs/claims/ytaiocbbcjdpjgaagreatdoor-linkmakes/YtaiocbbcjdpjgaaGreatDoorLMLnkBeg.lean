/- What the linker's begin answers: a contract. -/
import Derived.Test.YtaiocbbcjdpjgaaGreatDoorLMLnkRow
import Derived.Laws.Small
namespace Go.Proofs.YtaiocbbcjdpjgaaGreatDoor.lnk
open Go.RowKit Go.Maps Go.WideMaps
open Go.Proofs.YtaiocbbcjdpjgaaGreatDoor.syn (isName eqS)
open Go.Proofs.YtaiocbbcjdpjgaaGreatDoor.mac (BoxC Ins grown_of_below)
open Go.Proofs.YtaiocbbcjdpjgaaGreatDoor.ord (tkd putd)
open Go.Proofs.YtaiocbbcjdpjgaaGreatDoor.obj (ObjD PlcD RelD Vals ObjAt PlcsIn RelsIn objV relV)
open Go.Proofs.YtaiocbbcjdpjgaaGreatDoor.face (VarD ProcD FaceD FaceIn keep VarsIn ProcsIn)
set_option linter.unusedVariables false
set_option linter.unusedSimpArgs false
set_option maxRecDepth 100000
theorem grown_trans {w w1 w2 : World} {row : Option Nat} (h : w.grownBy w1 row) (h2 : w1.grownBy w2 row) : w.grownBy w2 row :=
  ⟨h2.os.trans h.os, h2.tape.trans h.tape, h2.output.trans h.output, Nat.le_trans h.size h2.size, fun k hk hne => (h2.block k (Nat.lt_of_lt_of_le hk h.size) hne).trans (h.block k hk hne)⟩
theorem setI_flat : ∀ (l : List Ins) (i : Nat) (x : Ins), i < l.length → ((((((l.flatMap insC).set (i * 5) (.int .i64 x.op)).set (i * 5 + 1) (.int .i64 x.a)).set (i * 5 + 2) (.int .i64 x.b)).set (i * 5 + 3) (.int .i64 x.c)).set (i * 5 + 4) (.int .i64 x.n)) = (l.set i x).flatMap insC
  | [], i, x, h => by simp at h
  | y :: r, 0, x, h => by simp [insC]
  | y :: r, i + 1, x, h => by
    have ih := setI_flat r i x (by simpa using h)
    have e : ∀ k, (i + 1) * 5 + k = (insC y).length + (i * 5 + k) := fun k => by show _ = 5 + _; omega
    have e0 := e 0
    simp only [Nat.add_zero] at e0
    rw [List.flatMap_cons, e 4, e 3, e 2, e 1, e0]
    simp only [List.set_append_right _ _ (Nat.le_add_right (insC y).length _), Nat.add_sub_cancel_left, List.set_cons_succ, List.flatMap_cons]
    rw [ih]
/-- an order turns -/
theorem LS.setI' {w : World} {p : Pl} {s : St} {g n cap nm nb : Nat} (h : LS w p s (.slice (some ⟨g, 0, none⟩) n cap) nm nb) (hn : n = s.code.length) {i : Nat} (hi : i < n) (x : Ins) :
    LS (((((w.setCell ⟨g, i * 5, none⟩ (.int .i64 x.op)).setCell ⟨g, i * 5 + 1, none⟩ (.int .i64 x.a)).setCell ⟨g, i * 5 + 2, none⟩ (.int .i64 x.b)).setCell ⟨g, i * 5 + 3, none⟩ (.int .i64 x.c)).setCell ⟨g, i * 5 + 4, none⟩ (.int .i64 x.n)) p { s with code := s.code.set i x } (.slice (some ⟨g, 0, none⟩) n cap) nm nb := by
  subst hn
  have e1 : g ≠ p.K := fun e => h.r1 (by rw [e]; rfl)
  have e2 : g ≠ p.mb := fun e => h.r2 (by rw [e]; rfl)
  have e3 : g ≠ p.bb := fun e => h.r3 (by rw [e]; rfl)
  have hrow := own_set (own_set (own_set (own_set (own_set h.row (i * 5) (by omega) (.int .i64 x.op)) (i * 5 + 1) (by omega) (.int .i64 x.a)) (i * 5 + 2) (by omega) (.int .i64 x.b)) (i * 5 + 3) (by omega) (.int .i64 x.c)) (i * 5 + 4) (by omega) (.int .i64 x.n)
  rw [setI_flat _ _ _ hi] at hrow
  have hg := grown_trans (grown_trans (grown_trans (grown_trans (mac.grown_set w g (i * 5) (.int .i64 x.op)) (mac.grown_set _ g (i * 5 + 1) (.int .i64 x.a))) (mac.grown_set _ g (i * 5 + 2) (.int .i64 x.b))) (mac.grown_set _ g (i * 5 + 3) (.int .i64 x.c))) (mac.grown_set _ g (i * 5 + 4) (.int .i64 x.n))
  refine { h with box := h.box.grown hg (fun e => e1 (Option.some.inj e)), row := ?_, mm := h.mm.kept hg (fun e => e2 (Option.some.inj e).symm), bm := h.bm.kept hg (fun e => e3 (Option.some.inj e).symm) }
  show World.ownsRow _ _ _ _ _ (s.code.set i x).length _
  rw [List.length_set]
  exact hrow
theorem LS.st {w : World} {p : Pl} {s s' : St} {cv : Value} {nm nb : Nat} (h : LS w p s cv nm nb) (e : s = s') : LS w p s' cv nm nb := e ▸ h
theorem LS.gN {w : World} {p : Pl} {s : St} {g n cap nm nb : Nat} (h : LS w p s (.slice (some ⟨g, 0, none⟩) n cap) nm nb) : p.N ≤ g := (h.row.lt g rfl).1
theorem below_setI {w0 w : World} {N g : Nat} (h : Below N w0 w) (hg : N ≤ g) (i : Nat) (a b c d e : Value) : Below N w0 (((((w.setCell ⟨g, i, none⟩ a).setCell ⟨g, i + 1, none⟩ b).setCell ⟨g, i + 2, none⟩ c).setCell ⟨g, i + 3, none⟩ d).setCell ⟨g, i + 4, none⟩ e) :=
  ((((h.setCell hg _).setCell hg _).setCell hg _).setCell hg _).setCell hg _
theorem LS.gcell {w : World} {p : Pl} {s : St} {g n cap nm nb : Nat} (h : LS w p s (.slice (some ⟨g, 0, none⟩) n cap) nm nb) (hn : n = s.code.length) {j : Nat} (hj : j < n * 5) : (∃ v, w.cell? ⟨g, j, none⟩ = some v) ∧ w.frozen? ⟨g, j, none⟩ = false := by
  subst hn
  have hc := h.row.cellAt j hj
  rcases h.row.2 with ⟨e, _⟩ | ⟨g', cap', cur, e, _, hb, _⟩
  · cases e
  · cases e
    refine ⟨?_, BoxC.fz (W := w) (B := g) (cs := cur) hb j⟩
    rw [hc]
    have : j < (s.code.flatMap insC).length := by rw [flat5_len]; exact hj
    exact ⟨_, List.getElem?_eq_getElem this⟩
/-- the greatest frames -/
def mx (x y : Int) : Int := max x y
def lowM (l : List ObjD) : Int := l.foldl (fun m o => mx m o.lowF) 0
def highM (l : List ObjD) : Int := l.foldl (fun m o => mx m o.highF) 0
theorem lowM_next {l : List ObjD} {i : Nat} (h : i < l.length) : lowM (l.take (i + 1)) = mx (lowM (l.take i)) l[i].lowF := by
  unfold lowM
  rw [List.take_succ_eq_append_getElem h, List.foldl_append]
  rfl
theorem highM_next {l : List ObjD} {i : Nat} (h : i < l.length) : highM (l.take (i + 1)) = mx (highM (l.take i)) l[i].highF := by
  unfold highM
  rw [List.take_succ_eq_append_getElem h, List.foldl_append]
  rfl
theorem mx_le {x y : Int} (h : 0 ≤ x ∧ x ≤ 20000) (h2 : 0 ≤ y ∧ y ≤ 20000) : 0 ≤ mx x y ∧ mx x y ≤ 20000 := by unfold mx; omega
theorem lowM_le {l : List ObjD} (h : ∀ o ∈ l, 0 ≤ o.lowF ∧ o.lowF ≤ 20000) : 0 ≤ lowM l ∧ lowM l ≤ 20000 := by
  have key : ∀ (l : List ObjD) (m : Int), (0 ≤ m ∧ m ≤ 20000) → (∀ o ∈ l, 0 ≤ o.lowF ∧ o.lowF ≤ 20000) → 0 ≤ l.foldl (fun m o => mx m o.lowF) m ∧ l.foldl (fun m o => mx m o.lowF) m ≤ 20000 := by
    intro l
    induction l with
    | nil => exact fun m hm _ => hm
    | cons x r ih => exact fun m hm h => ih _ (mx_le hm (h x (.head _))) fun o ho => h o (.tail _ ho)
  exact key l 0 ⟨by decide, by decide⟩ h
theorem highM_le {l : List ObjD} (h : ∀ o ∈ l, 0 ≤ o.highF ∧ o.highF ≤ 20000) : 0 ≤ highM l ∧ highM l ≤ 20000 := by
  have key : ∀ (l : List ObjD) (m : Int), (0 ≤ m ∧ m ≤ 20000) → (∀ o ∈ l, 0 ≤ o.highF ∧ o.highF ≤ 20000) → 0 ≤ l.foldl (fun m o => mx m o.highF) m ∧ l.foldl (fun m o => mx m o.highF) m ≤ 20000 := by
    intro l
    induction l with
    | nil => exact fun m hm _ => hm
    | cons x r ih => exact fun m hm h => ih _ (mx_le hm (h x (.head _))) fun o ho => h o (.tail _ ho)
  exact key l 0 ⟨by decide, by decide⟩ h
/-- the orders ahead -/
def headF (c : List Ins) (lo hi m : Int) : List Ins := (((c.set 0 ⟨1, 6, 0, 0, lo⟩).set 1 ⟨1, 7, 0, 0, hi⟩).set 2 ⟨11, 0, 0, 0, m⟩).set 3 ⟨17, 0, 0, 0, 0⟩
theorem headF_len (c : List Ins) (lo hi m : Int) : (headF c lo hi m).length = c.length := by simp [headF]
def beginF (s : St) (l : List ObjD) : St := { s with code := headF s.code s.low s.high ((s.begs ⟨2, ⟨#[109, 97, 105, 110]⟩, ⟨#[109, 97, 105, 110]⟩⟩).getD 0), low := s.low + 31 * lowM l, high := s.high + 31 * highM l }
def BegE (p : Pl) (s : St) (g cap nm nb : Nat) (w : World) (e : Ending) (w' : World) : Prop := e = .returned (.tuple #[]) ∧ Below p.N w w' ∧ LS w' p s (.slice (some ⟨g, 0, none⟩) s.code.length cap) nm nb
set_option maxHeartbeats 4000000 in
theorem oBegin {w0 w : World} {p : Pl} {s : St} {g cap nm nb : Nat} {l : List ObjD} (h : LS w p s (.slice (some ⟨g, 0, none⟩) s.code.length cap) nm nb) (hB : Below p.N w0 w) (hN : w0.heap.size = p.N) (ho : ObjsIn w0 p.ov l) (h4 : 4 ≤ s.code.length)
    (hsl : 0 ≤ s.low ∧ s.low ≤ 1000000) (hsh : 0 ≤ s.high ∧ s.high ≤ 1000000) (hfl : ∀ o ∈ l, 0 ≤ o.lowF ∧ o.lowF ≤ 20000) (hfh : ∀ o ∈ l, 0 ≤ o.highF ∧ o.highF ≤ 20000) :
    Calls Tryz.prog 46 #[.pointer (some ⟨p.K, 0, none⟩)] w (BegE p (beginF s l) g cap nm nb w) := by
  have c13 : Tryz.prog.cellsOf 31 = 13 := by kernel_rfl
  have c5i : Tryz.prog.cellsOf 64 = 5 := by kernel_rfl
  obtain ⟨oa, oc, hov, hll, hoc⟩ := ho
  have hgN := h.gN
  have hM := oMain h
  have HS : Hid (beginF s l = { s with code := headF s.code s.low s.high ((s.begs ⟨2, ⟨#[109, 97, 105, 110]⟩, ⟨#[109, 97, 105, 110]⟩⟩).getD 0), low := s.low + 31 * lowM l, high := s.high + 31 * highM l }) := rfl
  generalize (s.begs ⟨2, ⟨#[109, 97, 105, 110]⟩, ⟨#[109, 97, 105, 110]⟩⟩).getD 0 = M at *
  generalize (s.begs ⟨2, ⟨#[109, 97, 105, 110]⟩, ⟨#[109, 97, 105, 110]⟩⟩).isSome = Mb at *
  generalize beginF s l = s9 at *
  have hG := Below.refl p.N w
  have hL := h
  clear h
  obtain ⟨n, hn⟩ : ∃ n, n = s.code.length := ⟨_, rfl⟩
  have hn4 : 4 ≤ n := by omega
  have hn0 : 0 < n := by omega
  have hn1 : 1 < n := by omega
  have hn2 : 2 < n := by omega
  have hn3 : 3 < n := by omega
  have hi1 : ¬ (n : Int) ≤ 1 := by omega
  have hi2 : ¬ (n : Int) ≤ 2 := by omega
  have hi3 : ¬ (n : Int) ≤ 3 := by omega
  rw [← hn] at hL
  replace hn : Hid (n = s.code.length) := hn
  clear h4
  go_enter Tryz.func46, Tryz.ntmps46
  go_wp2_with (fail)
  refine hM.mono ?_
  rintro e w1 ⟨rfl, rfl⟩
  clear hM
  go_wp2
  refine wp_region_held_drew (S := fun W => W.cell? ⟨p.K, 0, none⟩ = some (.slice (some ⟨g, 0, none⟩) n cap) ∧ W.cell? ⟨p.K, 1, none⟩ = some (.int .i64 s.low)) (by kernel_rfl) ⟨hL.drew.cod, hL.drew.lo⟩ (fun hS => ?_)
  replace hL := hL.drew
  replace hG := hG.drew
  generalize World.drew w1 = W at hL hG hS ⊢
  refine tkd (i := 0) (v := .pointer (some ⟨p.K, 0, none⟩) ) rfl rfl (by kernel_rfl) (by kernel_rfl) (by kernel_rfl) (fun _ _ _ h => h) (Or.inl ⟨by rfl, fun wq hSw => by skip; go_simp⟩) hS ?_
  simp only [List.setIfInBounds_toArray, List.set_cons_zero, List.set_cons_succ]
  refine tkd (i := 1) (v := .pointer (some ⟨p.K, 0, none⟩) ) rfl rfl (by kernel_rfl) (by kernel_rfl) (by kernel_rfl) (fun _ _ _ h => h) (Or.inl ⟨by rfl, fun wq hSw => by skip; go_simp⟩) hS ?_
  simp only [List.setIfInBounds_toArray, List.set_cons_zero, List.set_cons_succ]
  refine tkd (i := 2) (v := .pointer (some ⟨p.K, 0, none⟩) ) rfl rfl (by kernel_rfl) (by kernel_rfl) (by kernel_rfl) (fun _ _ _ h => h) (Or.inl ⟨by rfl, fun wq hSw => by skip; go_simp⟩) hS ?_
  simp only [List.setIfInBounds_toArray, List.set_cons_zero, List.set_cons_succ]
  refine tkd (i := 3) (v := .pointer (some ⟨p.K, 0, none⟩) ) rfl rfl (by kernel_rfl) (by kernel_rfl) (by kernel_rfl) (fun _ _ _ h => h) (Or.inl ⟨by rfl, fun wq hSw => by skip; go_simp⟩) hS ?_
  simp only [List.setIfInBounds_toArray, List.set_cons_zero, List.set_cons_succ]
  refine tkd (i := 4) (v := .slice (some ⟨g, 0, none⟩) n cap ) rfl rfl (by kernel_rfl) (by kernel_rfl) (by kernel_rfl) (fun _ _ _ h => h) (Or.inl ⟨by rfl, fun wq hSw => by have m := hSw.1; go_simp⟩) hS ?_
  simp only [List.setIfInBounds_toArray, List.set_cons_zero, List.set_cons_succ]
  refine tkd (i := 5) (v := .pointer (some ⟨p.K, 0, none⟩) ) rfl rfl (by kernel_rfl) (by kernel_rfl) (by kernel_rfl) (fun _ _ _ h => h) (Or.inl ⟨by rfl, fun wq hSw => by skip; go_simp⟩) hS ?_
  simp only [List.setIfInBounds_toArray, List.set_cons_zero, List.set_cons_succ]
  refine tkd (i := 6) (v := .pointer (some ⟨p.K, 0, none⟩) ) rfl rfl (by kernel_rfl) (by kernel_rfl) (by kernel_rfl) (fun _ _ _ h => h) (Or.inl ⟨by rfl, fun wq hSw => by skip; go_simp⟩) hS ?_
  simp only [List.setIfInBounds_toArray, List.set_cons_zero, List.set_cons_succ]
  refine tkd (i := 7) (v := .pointer (some ⟨p.K, 0, none⟩) ) rfl rfl (by kernel_rfl) (by kernel_rfl) (by kernel_rfl) (fun _ _ _ h => h) (Or.inl ⟨by rfl, fun wq hSw => by skip; go_simp⟩) hS ?_
  simp only [List.setIfInBounds_toArray, List.set_cons_zero, List.set_cons_succ]
  refine tkd (i := 8) (v := .pointer (some ⟨p.K, 1, none⟩) ) rfl rfl (by kernel_rfl) (by kernel_rfl) (by kernel_rfl) (fun _ _ _ h => h) (Or.inl ⟨by rfl, fun wq hSw => by skip; go_simp⟩) hS ?_
  simp only [List.setIfInBounds_toArray, List.set_cons_zero, List.set_cons_succ]
  refine tkd (i := 9) (v := .int .i64 s.low ) rfl rfl (by kernel_rfl) (by kernel_rfl) (by kernel_rfl) (fun _ _ _ h => h) (Or.inl ⟨by rfl, fun wq hSw => by have m := hSw.2; go_simp⟩) hS ?_
  simp only [List.setIfInBounds_toArray, List.set_cons_zero, List.set_cons_succ]
  refine tkd (i := 10) (v := .agg #[.int .i64 1, .int .i64 6, .int .i64 0, .int .i64 0, .int .i64 s.low] ) rfl rfl (by kernel_rfl) (by kernel_rfl) (by kernel_rfl) (fun _ _ _ h => h) (Or.inl ⟨by rfl, fun wq hSw => by skip; go_simp⟩) hS ?_
  simp only [List.setIfInBounds_toArray, List.set_cons_zero, List.set_cons_succ]
  refine tkd (i := 11) (v := .pointer (some ⟨g, 0, none⟩) ) rfl rfl (by kernel_rfl) (by kernel_rfl) (by kernel_rfl) (fun _ _ _ h => h) (Or.inl ⟨by rfl, fun wq hSw => by have m := hn0; go_simp⟩) hS ?_
  simp only [List.setIfInBounds_toArray, List.set_cons_zero, List.set_cons_succ]
  have H := hL.setI' hn.out (i := 0) hn0 ⟨1, 6, 0, 0, s.low⟩
  replace hG := below_setI hG hgN (0 * 5) (.int .i64 1) (.int .i64 6) (.int .i64 0) (.int .i64 0) (.int .i64 s.low)
  simp only [Nat.reduceMul, Nat.reduceAdd] at H hG
  obtain ⟨⟨v0, z0⟩, f0⟩ := hL.gcell hn.out (j := 0) (by omega)
  obtain ⟨⟨v1, z1⟩, f1⟩ := hL.gcell hn.out (j := 0 + 1) (by omega)
  obtain ⟨⟨v2, z2⟩, f2⟩ := hL.gcell hn.out (j := 0 + 2) (by omega)
  obtain ⟨⟨v3, z3⟩, f3⟩ := hL.gcell hn.out (j := 0 + 3) (by omega)
  obtain ⟨⟨v4, z4⟩, f4⟩ := hL.gcell hn.out (j := 0 + 4) (by omega)
  simp only [Nat.reduceMul, Nat.reduceAdd] at z0 z1 z2 z3 z4 f0 f1 f2 f3 f4
  refine wpAnyH_ready (rs := [12]) (by kernel_rfl) (by simp) ?_
  refine AllReadyH.cons rfl (fun K hK => ?_) AllReadyH.nil
  go_simp
  refine hK.out _ _ ⟨H.cod, H.lo⟩ (fun _ => ?_)
  clear hK K hS hL z0 z1 z2 z3 z4 f0 f1 f2 f3 f4 v0 v1 v2 v3 v4
  have hL := H
  clear H
  generalize (((((W.setCell ⟨g, 0, none⟩ (.int .i64 1)).setCell ⟨g, 1, none⟩ (.int .i64 6)).setCell ⟨g, 2, none⟩ (.int .i64 0)).setCell ⟨g, 3, none⟩ (.int .i64 0)).setCell ⟨g, 4, none⟩ (.int .i64 s.low)) = W2 at hL hG ⊢
  refine wpAnyH_done (by kernel_rfl) ?_ _
  go_wp2
  replace hn : Hid (n = ({ s with code := s.code.set 0 ⟨1, 6, 0, 0, s.low⟩ } : St).code.length) := by show _ = _; rw [hn.out]; simp
  refine wp_region_held_drew (S := fun W => W.cell? ⟨p.K, 0, none⟩ = some (.slice (some ⟨g, 0, none⟩) n cap) ∧ W.cell? ⟨p.K, 2, none⟩ = some (.int .i64 s.high)) (by kernel_rfl) ⟨hL.drew.cod, hL.drew.hi⟩ (fun hS => ?_)
  replace hL := hL.drew
  replace hG := hG.drew
  generalize World.drew W2 = W at hL hG hS ⊢
  refine tkd (i := 0) (v := .pointer (some ⟨p.K, 0, none⟩) ) rfl rfl (by kernel_rfl) (by kernel_rfl) (by kernel_rfl) (fun _ _ _ h => h) (Or.inl ⟨by rfl, fun wq hSw => by skip; go_simp⟩) hS ?_
  simp only [List.setIfInBounds_toArray, List.set_cons_zero, List.set_cons_succ]
  refine tkd (i := 1) (v := .pointer (some ⟨p.K, 0, none⟩) ) rfl rfl (by kernel_rfl) (by kernel_rfl) (by kernel_rfl) (fun _ _ _ h => h) (Or.inl ⟨by rfl, fun wq hSw => by skip; go_simp⟩) hS ?_
  simp only [List.setIfInBounds_toArray, List.set_cons_zero, List.set_cons_succ]
  refine tkd (i := 2) (v := .pointer (some ⟨p.K, 0, none⟩) ) rfl rfl (by kernel_rfl) (by kernel_rfl) (by kernel_rfl) (fun _ _ _ h => h) (Or.inl ⟨by rfl, fun wq hSw => by skip; go_simp⟩) hS ?_
  simp only [List.setIfInBounds_toArray, List.set_cons_zero, List.set_cons_succ]
  refine tkd (i := 3) (v := .pointer (some ⟨p.K, 0, none⟩) ) rfl rfl (by kernel_rfl) (by kernel_rfl) (by kernel_rfl) (fun _ _ _ h => h) (Or.inl ⟨by rfl, fun wq hSw => by skip; go_simp⟩) hS ?_
  simp only [List.setIfInBounds_toArray, List.set_cons_zero, List.set_cons_succ]
  refine tkd (i := 4) (v := .slice (some ⟨g, 0, none⟩) n cap ) rfl rfl (by kernel_rfl) (by kernel_rfl) (by kernel_rfl) (fun _ _ _ h => h) (Or.inl ⟨by rfl, fun wq hSw => by have m := hSw.1; go_simp⟩) hS ?_
  simp only [List.setIfInBounds_toArray, List.set_cons_zero, List.set_cons_succ]
  refine tkd (i := 5) (v := .pointer (some ⟨p.K, 0, none⟩) ) rfl rfl (by kernel_rfl) (by kernel_rfl) (by kernel_rfl) (fun _ _ _ h => h) (Or.inl ⟨by rfl, fun wq hSw => by skip; go_simp⟩) hS ?_
  simp only [List.setIfInBounds_toArray, List.set_cons_zero, List.set_cons_succ]
  refine tkd (i := 6) (v := .pointer (some ⟨p.K, 0, none⟩) ) rfl rfl (by kernel_rfl) (by kernel_rfl) (by kernel_rfl) (fun _ _ _ h => h) (Or.inl ⟨by rfl, fun wq hSw => by skip; go_simp⟩) hS ?_
  simp only [List.setIfInBounds_toArray, List.set_cons_zero, List.set_cons_succ]
  refine tkd (i := 7) (v := .pointer (some ⟨p.K, 0, none⟩) ) rfl rfl (by kernel_rfl) (by kernel_rfl) (by kernel_rfl) (fun _ _ _ h => h) (Or.inl ⟨by rfl, fun wq hSw => by skip; go_simp⟩) hS ?_
  simp only [List.setIfInBounds_toArray, List.set_cons_zero, List.set_cons_succ]
  refine tkd (i := 8) (v := .pointer (some ⟨p.K, 2, none⟩) ) rfl rfl (by kernel_rfl) (by kernel_rfl) (by kernel_rfl) (fun _ _ _ h => h) (Or.inl ⟨by rfl, fun wq hSw => by skip; go_simp⟩) hS ?_
  simp only [List.setIfInBounds_toArray, List.set_cons_zero, List.set_cons_succ]
  refine tkd (i := 9) (v := .int .i64 s.high ) rfl rfl (by kernel_rfl) (by kernel_rfl) (by kernel_rfl) (fun _ _ _ h => h) (Or.inl ⟨by rfl, fun wq hSw => by have m := hSw.2; go_simp⟩) hS ?_
  simp only [List.setIfInBounds_toArray, List.set_cons_zero, List.set_cons_succ]
  refine tkd (i := 10) (v := .agg #[.int .i64 1, .int .i64 7, .int .i64 0, .int .i64 0, .int .i64 s.high] ) rfl rfl (by kernel_rfl) (by kernel_rfl) (by kernel_rfl) (fun _ _ _ h => h) (Or.inl ⟨by rfl, fun wq hSw => by skip; go_simp⟩) hS ?_
  simp only [List.setIfInBounds_toArray, List.set_cons_zero, List.set_cons_succ]
  refine tkd (i := 11) (v := .pointer (some ⟨g, 5, none⟩) ) rfl rfl (by kernel_rfl) (by kernel_rfl) (by kernel_rfl) (fun _ _ _ h => h) (Or.inl ⟨by rfl, fun wq hSw => by have m := hi1; go_simp⟩) hS ?_
  simp only [List.setIfInBounds_toArray, List.set_cons_zero, List.set_cons_succ]
  have H := hL.setI' hn.out (i := 1) hn1 ⟨1, 7, 0, 0, s.high⟩
  replace hG := below_setI hG hgN (1 * 5) (.int .i64 1) (.int .i64 7) (.int .i64 0) (.int .i64 0) (.int .i64 s.high)
  simp only [Nat.reduceMul, Nat.reduceAdd] at H hG
  obtain ⟨⟨v0, z0⟩, f0⟩ := hL.gcell hn.out (j := 5) (by omega)
  obtain ⟨⟨v1, z1⟩, f1⟩ := hL.gcell hn.out (j := 5 + 1) (by omega)
  obtain ⟨⟨v2, z2⟩, f2⟩ := hL.gcell hn.out (j := 5 + 2) (by omega)
  obtain ⟨⟨v3, z3⟩, f3⟩ := hL.gcell hn.out (j := 5 + 3) (by omega)
  obtain ⟨⟨v4, z4⟩, f4⟩ := hL.gcell hn.out (j := 5 + 4) (by omega)
  simp only [Nat.reduceMul, Nat.reduceAdd] at z0 z1 z2 z3 z4 f0 f1 f2 f3 f4
  refine wpAnyH_ready (rs := [12]) (by kernel_rfl) (by simp) ?_
  refine AllReadyH.cons rfl (fun K hK => ?_) AllReadyH.nil
  go_simp
  refine hK.out _ _ ⟨H.cod, H.hi⟩ (fun _ => ?_)
  clear hK K hS hL z0 z1 z2 z3 z4 f0 f1 f2 f3 f4 v0 v1 v2 v3 v4
  have hL := H
  clear H
  generalize (((((W.setCell ⟨g, 5, none⟩ (.int .i64 1)).setCell ⟨g, 6, none⟩ (.int .i64 7)).setCell ⟨g, 7, none⟩ (.int .i64 0)).setCell ⟨g, 8, none⟩ (.int .i64 0)).setCell ⟨g, 9, none⟩ (.int .i64 s.high)) = W3 at hL hG ⊢
  refine wpAnyH_done (by kernel_rfl) ?_ _
  replace hn : Hid (n = ({ s with code := (s.code.set 0 ⟨1, 6, 0, 0, s.low⟩).set 1 ⟨1, 7, 0, 0, s.high⟩ } : St).code.length) := by show _ = _; rw [hn.out]; simp
  have H3 := hL.setI' hn.out (i := 2) hn2 ⟨11, 0, 0, 0, M⟩
  have H4 := H3.setI' (by rw [hn.out]; simp) (i := 3) hn3 ⟨17, 0, 0, 0, 0⟩
  clear H3
  replace hG := below_setI hG hgN (2 * 5) (.int .i64 11) (.int .i64 0) (.int .i64 0) (.int .i64 0) (.int .i64 M)
  replace hG := below_setI hG hgN (3 * 5) (.int .i64 17) (.int .i64 0) (.int .i64 0) (.int .i64 0) (.int .i64 0)
  simp only [Nat.reduceMul, Nat.reduceAdd] at H4 hG
  obtain ⟨⟨v10, z10⟩, f10⟩ := hL.gcell hn.out (j := 10) (by omega)
  obtain ⟨⟨v11, z11⟩, f11⟩ := hL.gcell hn.out (j := 11) (by omega)
  obtain ⟨⟨v12, z12⟩, f12⟩ := hL.gcell hn.out (j := 12) (by omega)
  obtain ⟨⟨v13, z13⟩, f13⟩ := hL.gcell hn.out (j := 13) (by omega)
  obtain ⟨⟨v14, z14⟩, f14⟩ := hL.gcell hn.out (j := 14) (by omega)
  obtain ⟨⟨v15, z15⟩, f15⟩ := hL.gcell hn.out (j := 15) (by omega)
  obtain ⟨⟨v16, z16⟩, f16⟩ := hL.gcell hn.out (j := 16) (by omega)
  obtain ⟨⟨v17, z17⟩, f17⟩ := hL.gcell hn.out (j := 17) (by omega)
  obtain ⟨⟨v18, z18⟩, f18⟩ := hL.gcell hn.out (j := 18) (by omega)
  obtain ⟨⟨v19, z19⟩, f19⟩ := hL.gcell hn.out (j := 19) (by omega)
  have m0 := hL.cod
  have m3 := hL.ob
  rw [hov] at m3
  have hgK : g ≠ p.K := fun e => hL.r1 (by rw [e]; rfl)
  have hKg : p.K ≠ g := fun e => hgK e.symm
  clear hL
  replace H4 : Hid (LS _ _ _ _ _ _) := H4
  replace hG : Hid (Below _ _ _) := hG
  go_wp2
  obtain ⟨s4, hs4⟩ : ∃ s4, s4 = ({ s with code := headF s.code s.low s.high M } : St) := ⟨_, rfl⟩
  replace H4 := LS.st H4.out (s' := s4) (by rw [hs4]; rfl)
  replace hG := hG.out
  have HS9 : Hid (s9 = { s4 with low := s.low + 31 * lowM l, high := s.high + 31 * highM l }) := by show _ = _; rw [HS.out, hs4]
  have hs1 : s4.low = s.low := by rw [hs4]
  have hs2 : s4.high = s.high := by rw [hs4]
  have hs3 : s9.code.length = n := by rw [HS.out]; simp only [headF_len]; rw [hn.out]; simp
  clear HS hs4 hn
  go_loopw [4, 5, 57] (fun u v t wr => ∃ i : Nat, i ≤ l.length ∧ t = .int .i64 i ∧ u = .int .i64 (lowM (l.take i)) ∧ v = .int .i64 (highM (l.take i)) ∧ Below p.N w1 wr ∧ LS wr p s4 (.slice (some ⟨g, 0, none⟩) n cap) nm nb) (fun _ _ t _ => l.length - (intOf t).toNat)
  case atStart => exact ⟨0, Nat.zero_le _, rfl, rfl, rfl, hG, H4⟩
  case round =>
    clear hG H4
    obtain ⟨i, hi, rfl, rfl, rfl, hBr, hL⟩ := hrel
    by_cases hlt : i < l.length
    · obtain ⟨g1, o1, rfl, hcc⟩ := hoc (by intro e; rw [e] at hlt; simp at hlt)
      obtain ⟨x, hat, hcs⟩ := hcc i hlt
      have hB1 : Below w0.heap.size w0 wr := by rw [hN]; exact hB.trans hBr
      have hcs1 := hcs.below hB1
      obtain ⟨a1, c1, a2, c2, a3, c3', a4, c4', a5, c5, a6, c6, a7, c7, a8, c8, rfl⟩ := hat.shape
      obtain ⟨y0, y1, y2, y3, y4, y5, y6, y7, y8, y9, y10, y11, y12⟩ := hcs1
      dsimp only at y1 y2 y3 y4 y5 y6 y7 y8
      have HL1 : Hid (lowM (l.take (i + 1)) = mx (lowM (l.take i)) l[i].lowF) := lowM_next hlt
      have HL2 : Hid (highM (l.take (i + 1)) = mx (highM (l.take i)) l[i].highF) := highM_next hlt
      clear hcc hcs hat hoc
      generalize l[i] = d at *
      have hNw : p.N ≤ wr.heap.size := by have := hL.n1; have := hL.box.lt; omega
      have hL2 := hL.alloc (.cells #[.string d.face.module, .slice a1 d.face.vars.length c1, .slice a2 d.face.procs.length c2, .slice a3 d.imports.length c3', .slice a4 d.code.length c4', .slice a5 d.relocs.length c5, .slice a6 d.procs.length c6, .slice a7 d.lows.length c7, .slice a8 d.highs.length c8, .int .i64 d.low, .int .i64 d.high, .int .i64 d.lowF, .int .i64 d.highF] 31)
      have hbx := BoxC.new wr #[.string d.face.module, .slice a1 d.face.vars.length c1, .slice a2 d.face.procs.length c2, .slice a3 d.imports.length c3', .slice a4 d.code.length c4', .slice a5 d.relocs.length c5, .slice a6 d.procs.length c6, .slice a7 d.lows.length c7, .slice a8 d.highs.length c8, .int .i64 d.low, .int .i64 d.high, .int .i64 d.lowF, .int .i64 d.highF] 31
      have hGz := hBr.alloc hNw (.cells #[.string d.face.module, .slice a1 d.face.vars.length c1, .slice a2 d.face.procs.length c2, .slice a3 d.imports.length c3', .slice a4 d.code.length c4', .slice a5 d.relocs.length c5, .slice a6 d.procs.length c6, .slice a7 d.lows.length c7, .slice a8 d.highs.length c8, .int .i64 d.low, .int .i64 d.high, .int .i64 d.lowF, .int .i64 d.highF] 31)
      generalize lowM (l.take i) = ml at *
      generalize highM (l.take i) = mh at *
      go_wp2
      refine wp_region_held_drew (S := fun W => BoxC W wr.heap.size #[.string d.face.module, .slice a1 d.face.vars.length c1, .slice a2 d.face.procs.length c2, .slice a3 d.imports.length c3', .slice a4 d.code.length c4', .slice a5 d.relocs.length c5, .slice a6 d.procs.length c6, .slice a7 d.lows.length c7, .slice a8 d.highs.length c8, .int .i64 d.low, .int .i64 d.high, .int .i64 d.lowF, .int .i64 d.highF] 31) (by kernel_rfl) (hbx.below (Below.refl _ _).drew) (fun hS => ?_)
      replace hL2 := hL2.drew
      replace hGz := hGz.drew
      generalize (wr.alloc (.cells #[.string d.face.module, .slice a1 d.face.vars.length c1, .slice a2 d.face.procs.length c2, .slice a3 d.imports.length c3', .slice a4 d.code.length c4', .slice a5 d.relocs.length c5, .slice a6 d.procs.length c6, .slice a7 d.lows.length c7, .slice a8 d.highs.length c8, .int .i64 d.low, .int .i64 d.high, .int .i64 d.lowF, .int .i64 d.highF] 31)).drew = W at hL2 hGz hS ⊢
      generalize wr.heap.size = B at *
      obtain ⟨m1, hm1⟩ : ∃ m, m = mx ml d.lowF := ⟨_, rfl⟩
      obtain ⟨m2, hm2⟩ : ∃ m, m = mx mh d.highF := ⟨_, rfl⟩
      rw [← hm1] at HL1
      rw [← hm2] at HL2
      replace hm1 : Hid (m1 = mx ml d.lowF) := hm1
      replace hm2 : Hid (m2 = mx mh d.highF) := hm2
      refine tkd (i := 0) (v := .int .i64 ml ) rfl rfl (by kernel_rfl) (by kernel_rfl) (by kernel_rfl) (fun _ _ _ h => h) (Or.inl ⟨by rfl, fun wq hSw => by skip; go_simp⟩) hS ?_
      simp only [List.setIfInBounds_toArray, List.set_cons_zero, List.set_cons_succ]
      refine tkd (i := 1) (v := .pointer (some ⟨B, 11, none⟩) ) rfl rfl (by kernel_rfl) (by kernel_rfl) (by kernel_rfl) (fun _ _ _ h => h) (Or.inl ⟨by rfl, fun wq hSw => by skip; go_simp⟩) hS ?_
      simp only [List.setIfInBounds_toArray, List.set_cons_zero, List.set_cons_succ]
      refine tkd (i := 2) (v := .int .i64 d.lowF ) rfl rfl (by kernel_rfl) (by kernel_rfl) (by kernel_rfl) (fun _ _ _ h => h) (Or.inl ⟨by rfl, fun wq hSw => by have m := hSw.cell 11 rfl; go_simp⟩) hS ?_
      simp only [List.setIfInBounds_toArray, List.set_cons_zero, List.set_cons_succ]
      refine tkd (i := 3) (v := .int .i64 m1 ) rfl rfl (by kernel_rfl) (by kernel_rfl) (by kernel_rfl) (fun _ _ _ h => h) (Or.inl ⟨by rfl, fun wq hSw => by rw [hm1.out]; unfold mx; go_simp⟩) hS ?_
      simp only [List.setIfInBounds_toArray, List.set_cons_zero, List.set_cons_succ]
      refine tkd (i := 4) (v := .int .i64 mh ) rfl rfl (by kernel_rfl) (by kernel_rfl) (by kernel_rfl) (fun _ _ _ h => h) (Or.inl ⟨by rfl, fun wq hSw => by skip; go_simp⟩) hS ?_
      simp only [List.setIfInBounds_toArray, List.set_cons_zero, List.set_cons_succ]
      refine tkd (i := 5) (v := .pointer (some ⟨B, 12, none⟩) ) rfl rfl (by kernel_rfl) (by kernel_rfl) (by kernel_rfl) (fun _ _ _ h => h) (Or.inl ⟨by rfl, fun wq hSw => by skip; go_simp⟩) hS ?_
      simp only [List.setIfInBounds_toArray, List.set_cons_zero, List.set_cons_succ]
      refine tkd (i := 6) (v := .int .i64 d.highF ) rfl rfl (by kernel_rfl) (by kernel_rfl) (by kernel_rfl) (fun _ _ _ h => h) (Or.inl ⟨by rfl, fun wq hSw => by have m := hSw.cell 12 rfl; go_simp⟩) hS ?_
      simp only [List.setIfInBounds_toArray, List.set_cons_zero, List.set_cons_succ]
      refine tkd (i := 7) (v := .int .i64 m2 ) rfl rfl (by kernel_rfl) (by kernel_rfl) (by kernel_rfl) (fun _ _ _ h => h) (Or.inl ⟨by rfl, fun wq hSw => by rw [hm2.out]; unfold mx; go_simp⟩) hS ?_
      simp only [List.setIfInBounds_toArray, List.set_cons_zero, List.set_cons_succ]
      refine tkd (i := 8) (v := .int .i64 m1 ) rfl rfl (by kernel_rfl) (by kernel_rfl) (by kernel_rfl) (fun _ _ _ h => h) (Or.inl ⟨by rfl, fun wq hSw => by skip; go_simp⟩) hS ?_
      simp only [List.setIfInBounds_toArray, List.set_cons_zero, List.set_cons_succ]
      refine tkd (i := 9) (v := .int .i64 m2 ) rfl rfl (by kernel_rfl) (by kernel_rfl) (by kernel_rfl) (fun _ _ _ h => h) (Or.inl ⟨by rfl, fun wq hSw => by skip; go_simp⟩) hS ?_
      simp only [List.setIfInBounds_toArray, List.set_cons_zero, List.set_cons_succ]
      refine wpAnyH_done (by kernel_rfl) ?_ _
      go_wp2
      exact ⟨⟨i + 1, by omega, by go_num, by rw [HL1.out], by rw [HL2.out], hGz, hL2⟩, by simp [intOf]; omega⟩
    · obtain rfl : i = l.length := by omega
      rw [List.take_length] at *
      have hl1 := lowM_le hfl
      have hl2 := highM_le hfh
      generalize lowM l = ml at *
      generalize highM l = mh at *
      have q1 := hL.lo
      have q2 := hL.hi
      rw [hs1] at q1
      rw [hs2] at q2
      have f1 := hL.box.fz 1
      have f2 := hL.box.fz 2
      have hw1 : IntKind.i64.wrap (31 * ml) = 31 * ml := by rw [IntKind.wrap_i64]; omega
      have hw2 : IntKind.i64.wrap (31 * mh) = 31 * mh := by rw [IntKind.wrap_i64]; omega
      have hw3 : IntKind.i64.wrap (s.low + 31 * ml) = s.low + 31 * ml := by rw [IntKind.wrap_i64]; omega
      have hw4 : IntKind.i64.wrap (s.high + 31 * mh) = s.high + 31 * mh := by rw [IntKind.wrap_i64]; omega
      have HL : Hid (LS _ _ _ _ _ _) := (hL.low' (s.low + 31 * ml)).high' (s.high + 31 * mh)
      have HG : Hid (Below _ _ _) := (hBr.setCell (p := ⟨p.K, 1, none⟩) hL.n1 (.int .i64 (s.low + 31 * ml))).setCell (p := ⟨p.K, 2, none⟩) hL.n1 (.int .i64 (s.high + 31 * mh))
      go_wp2
      go_end0
      refine ⟨rfl, HG.out, ?_⟩
      rw [hs3]
      exact LS.st HL.out (by rw [HS9.out])
end Go.Proofs.YtaiocbbcjdpjgaaGreatDoor.lnk
