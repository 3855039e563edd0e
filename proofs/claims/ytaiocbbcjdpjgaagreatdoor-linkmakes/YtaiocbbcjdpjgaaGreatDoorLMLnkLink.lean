/- What the program's Link answers: a contract; a trouble is thrown, and recovered. (Written by mklink.py: edit that.) -/
import Derived.Test.YtaiocbbcjdpjgaaGreatDoorLMLnkReloc
import Derived.Test.YtaiocbbcjdpjgaaGreatDoorLMLnkLayB
import Derived.Test.YtaiocbbcjdpjgaaGreatDoorLMLnkCatch
namespace Go.Proofs.YtaiocbbcjdpjgaaGreatDoor.lnk
open Go.RowKit Go.Maps Go.WideMaps
open Go.Proofs.YtaiocbbcjdpjgaaGreatDoor.syn (isName eqS)
open Go.Proofs.YtaiocbbcjdpjgaaGreatDoor.mac (BoxC Ins grown_of_below)
open Go.Proofs.YtaiocbbcjdpjgaaGreatDoor.obj (ObjD PlcD RelD Vals ObjAt PlcsIn RelsIn CodeIn objV relV mayO)
open Go.Proofs.YtaiocbbcjdpjgaaGreatDoor.lexs (HasErr hasErr_below)
open Go.Proofs.YtaiocbbcjdpjgaaGreatDoor.face (VarD ProcD FaceD FaceIn keep VarsIn ProcsIn)
set_option linter.unusedVariables false
set_option linter.unusedSimpArgs false
set_option maxRecDepth 100000
/-- the image: its orders, ahead of the relocs and with them; its words -/
def headP (l : List ObjD) : List Ins := headF (layP l).code (layP l).low (layP l).high (((layP l).begs ⟨2, ⟨#[109, 97, 105, 110]⟩, ⟨#[109, 97, 105, 110]⟩⟩).getD 0)
def codeP (l : List ObjD) : List Ins := relocL (layP l).begs (baseOf l 0) (headP l) l
def lowP (l : List ObjD) : Int := (layP l).low + 31 * lowM l
def highP (l : List ObjD) : Int := (layP l).high + 31 * highM l
def roomP (l : List ObjD) : Option (Int × Int × Int) := if (decide (20000 < (layP l).code.length) || (decide (20000 < lowP l) || decide (20000 < highP l))) = true then some (0, 1, 0) else none
/-- what is wrong first -/
def linkT (l : List ObjD) : Option (Int × Int × Int) :=
  (layR l).or ((impT (layP l).fcs 0 l).or ((relT (layP l).begs 0 l).or ((mainT (layP l).begs (layP l).fcs).or ((roomP l).or (ordT (codeP l) (baseOf l 0) 0 l)))))
theorem code_in {w : World} {N g n cap : Nat} {l : List Ins} (h : w.ownsRow N 64 5 (.slice (some ⟨g, 0, none⟩) n cap) n (l.flatMap insC)) (hn : n = l.length) (hl : l.length ≤ 8796093022208) : CodeIn w (.slice (some ⟨g, 0, none⟩) l.length cap) l := by
  subst hn
  refine ⟨_, cap, rfl, hl, fun _ => ⟨g, 0, rfl, fun i hi => ?_⟩⟩
  have cell : ∀ f v, (insC l[i])[f]? = some v → f < 5 → w.cell? ⟨g, 0 + i * 5 + f, none⟩ = some v := fun f v hv hf => by
    rw [Nat.zero_add, h.cellAt (i * 5 + f) (by omega), flat5_at _ _ hi f hf]
    exact hv
  exact ⟨cell 0 _ rfl (by decide), cell 1 _ rfl (by decide), cell 2 _ rfl (by decide), cell 3 _ rfl (by decide), cell 4 _ rfl (by decide)⟩
/-- what Link answers -/
def LinkE (w : World) (l : List ObjD) (t : Option (Int × Int × Int)) (e : Ending) (w' : World) : Prop :=
  Below w.heap.size w w' ∧ ∃ a n cap lo hi c, e = .returned (.tuple #[.agg #[.slice a n cap, .int .i64 lo, .int .i64 hi], .agg #[.int .i64 (t.getD (0, 0, 0)).1, .int .i64 (t.getD (0, 0, 0)).2.1, .int .i64 (t.getD (0, 0, 0)).2.2]]) ∧ n = c.length ∧ CodeIn w' (.slice a n cap) c ∧ (c, lo, hi) = (if t.isSome = true then ([], 0, 0) else (codeP l, lowP l, highP l))
theorem res_link {W : World} {a0 a1 y0 y1 y2 z0 z1 z2 : Value} (tl : List Value) (B C : Nat) (h : BoxC W B #[y0, y1, y2] 44) (hC : BoxC W C #[z0, z1, z2] 46) (c3 : Tryz.prog.cellsOf 44 = 3) (c3' : Tryz.prog.cellsOf 46 = 3) : (results Tryz.f13 (List.toArray (a0 :: a1 :: .pointer (some ⟨B, 0, none⟩) :: .pointer (some ⟨C, 0, none⟩) :: tl))).run Tryz.prog W = .ok (.tuple #[.agg #[y0, y1, y2], .agg #[z0, z1, z2]]) W := by
  have q0 := h.cell 0 rfl
  have q1 := h.cell 1 rfl
  have q2 := h.cell 2 rfl
  have u0 := hC.cell 0 rfl
  have u1 := hC.cell 1 rfl
  have u2 := hC.cell 2 rfl
  simp [results, Tryz.f13, go_sem, q0, q1, q2, u0, u1, u2]
theorem nil_code (w : World) : CodeIn w (.slice none 0 0) [] := ⟨none, 0, rfl, by simp, fun h => absurd rfl h⟩
theorem frt_below {w w' w0 : World} {b N : Nat} (h : FrT b w w') (hb : Below N w0 w) (hN : N ≤ b) (hN2 : N ≤ w.heap.size) : Below N w0 w' :=
  ⟨h.os.trans hb.os, h.tape.trans hb.tape, h.output.trans hb.output, Nat.le_trans hb.size h.size, fun k hk => (h.block k (by omega) (by omega)).trans (hb.block k hk)⟩
theorem BoxC.set' {w : World} {B b i : Nat} {cs : Array Value} {T : TypeId} {u : Value} (hne : b ≠ B) (h : BoxC w B cs T) : BoxC (w.setCell ⟨b, i, none⟩ u) B cs T := h.grown (mac.grown_set w b i u) (fun e => hne (Option.some.inj e))
theorem cell_other {w : World} {g b i j : Nat} {u : Value} (h : g ≠ b) : (w.setCell ⟨b, i, none⟩ u).cell? ⟨g, j, none⟩ = w.cell? ⟨g, j, none⟩ := World.cell?_of_block (Below.heap_setCell w ⟨b, i, none⟩ u g h)
theorem ObjsIn.below {w w' : World} {v : Value} {l : List ObjD} (h : ObjsIn w v l) (hb : Below w.heap.size w w') : ObjsIn w' v l := by
  obtain ⟨a, c, e, hl, hk⟩ := h
  refine ⟨a, c, e, hl, fun hne => ?_⟩
  obtain ⟨g, o, e2, hc⟩ := hk hne
  refine ⟨g, o, e2, fun i hi => ?_⟩
  obtain ⟨x, h1, h2⟩ := hc i hi
  exact ⟨x, h1.below hb, h2.below hb⟩
set_option maxHeartbeats 4000000 in
theorem oLink {w : World} {l : List ObjD} {ov : Value} (ho : ObjsIn w ov l) (he : HasErr w) :
    Calls Tryz.prog 13 #[ov] w (LinkE w l (linkT l)) := by
  have c3 : Tryz.prog.cellsOf 44 = 3 := by kernel_rfl
  have c3t : Tryz.prog.cellsOf 46 = 3 := by kernel_rfl
  have c6 : Tryz.prog.cellsOf 92 = 6 := by kernel_rfl
  have hmm0 := @run_makeMap Tryz.prog
  have hmf : ∀ (fn : Fn) (first cap : Array Value) (w : World), (Instr.makeFunc fn first cap).run Tryz.prog w = .ok (.func fn first cap) w := fun _ _ _ _ => rfl
  obtain ⟨oa, oc, hov, _⟩ := id ho
  obtain ⟨w2, hw2⟩ : ∃ w2, w2 = (w.alloc (.cells #[.slice none 0 0, .int .i64 0, .int .i64 0] 44)).alloc (.cells #[.int .i64 0, .int .i64 0, .int .i64 0] 46) := ⟨_, rfl⟩
  have hs2 : w2.heap.size = w.heap.size + 2 := by rw [hw2]; simp
  have hB2 : Below w.heap.size w w2 := by rw [hw2]; exact ((Below.refl _ _).alloc (Nat.le_refl _) _).alloc (by simp) _
  have bO2 : BoxC w2 w.heap.size #[.slice none 0 0, .int .i64 0, .int .i64 0] 44 := by rw [hw2]; exact (BoxC.new w _ _).alloc _
  have bE2 : BoxC w2 (w.heap.size + 1) #[.int .i64 0, .int .i64 0, .int .i64 0] 46 := by
    have := BoxC.new (w.alloc (.cells #[.slice none 0 0, .int .i64 0, .int .i64 0] 44)) #[.int .i64 0, .int .i64 0, .int .i64 0] 46
    rw [World.size_alloc] at this
    rw [hw2]
    exact this
  have ho2 : ObjsIn w2 ov l := ho.below hB2
  have he2 : HasErr w2 := hasErr_below he hB2
  obtain ⟨w3, hw3⟩ : ∃ w3, w3 = ((w2.alloc (.map #[] 0)).alloc (.map #[] 0)).alloc (.cells #[.slice none 0 0, .int .i64 0, .int .i64 0, ov, .map (some (w.heap.size + 2)), .map (some (w.heap.size + 2 + 1))] 92) := ⟨_, rfl⟩
  have hB3 : Below (w.heap.size + 2) w2 w3 := by rw [hw3, ← hs2]; exact (((Below.refl _ _).alloc (Nat.le_refl _) _).alloc (by simp) _).alloc (by simp; omega) _
  obtain ⟨p, hp⟩ : ∃ p : Pl, p = ⟨w.heap.size + 2, w.heap.size + 4, w.heap.size + 2, w.heap.size + 3, ov⟩ := ⟨_, rfl⟩
  have hL3 : LS w3 p ⟨[], 0, 0, fun _ => none, fun _ => none⟩ (.slice none 0 0) 0 0 := by
    rw [hp]
    have h1 : (w2.alloc (.map #[] 0)).heap.size = w.heap.size + 3 := by simp; omega
    have h2 : ((w2.alloc (.map #[] 0)).alloc (.map #[] 0)).heap.size = w.heap.size + 4 := by simp; omega
    have hbx := BoxC.new ((w2.alloc (.map #[] 0)).alloc (.map #[] 0)) #[.slice none 0 0, .int .i64 0, .int .i64 0, ov, .map (some (w.heap.size + 2)), .map (some (w.heap.size + 2 + 1))] 92
    rw [h2, ← hw3] at hbx
    have hm1 := MapN.made w2
    rw [hs2] at hm1
    have hm2 := MapT.made (w2.alloc (.map #[] 0))
    rw [h1] at hm2
    have hba : Below (w2.alloc (.map #[] 0)).heap.size (w2.alloc (.map #[] 0)) w3 := by rw [hw3]; exact ((Below.refl _ _).alloc (Nat.le_refl _) _).alloc (by simp) _
    have hbb : Below ((w2.alloc (.map #[] 0)).alloc (.map #[] 0)).heap.size ((w2.alloc (.map #[] 0)).alloc (.map #[] 0)) w3 := by rw [hw3]; exact (Below.refl _ _).alloc (Nat.le_refl _) _
    exact ⟨hbx, ⟨rfl, .inl ⟨rfl, rfl⟩⟩, hm1.below hba, hm2.kept (grown_of_below hbb) (by simp), by simp, by simp, by simp, by simp [Value.ownBlock], by simp [Value.ownBlock], by simp [Value.ownBlock], by simp, by simp, by simp⟩
  have hpN : p.N = w.heap.size + 2 := by rw [hp]
  have hpK : p.K = w.heap.size + 4 := by rw [hp]
  have hpo : p.ov = ov := by rw [hp]
  have hN2 : w2.heap.size = p.N := by rw [hpN, hs2]
  rw [← hpN] at hB3
  rw [← hpo] at ho2
  have hC := oLay hL3 rfl hB3 hN2 ho2 he2
  rw [hpK] at hC
  obtain ⟨T, hT⟩ : ∃ T, T = linkT l := ⟨_, rfl⟩
  rw [← hT]
  replace hT : Hid (T = linkT l) := hT
  rw [hw2] at hw3
  clear hL3 ho he
  rw [hov] at hw3 ⊢
  go_enter_defers Tryz.func13, Tryz.ntmps13
  go_wp2_with (fail)
  rw [← hw3]
  refine hC.mono ?_
  clear hw3 hw2 hC hmm0 hmf
  rintro e w9 ⟨hb9, hE9, hS9⟩
  have hb := hB3.trans hb9
  rw [hpN] at hb
  clear hB3 hb9
  cases hR1 : layR l with
  | some t =>
    rw [hR1] at hE9
    have HR : Hid (T = some t) := by show _ = _; rw [hT.out]; unfold linkT; rw [hR1]; rfl
    obtain ⟨t1, t2, t3⟩ := t
    have hE : e = .panicked (ThrT t1 t2 t3) := by exact hE9
    subst hE
    have bO9 := (bO2.below (hb.mono (by omega)))
    have bE9 := (bE2.below (hb.mono (by omega)))
    have HK : Hid (Below w.heap.size w w9) := hB2.trans (hb.mono (by omega))
    have hs9 := hb.size
    have key := lcatch (w.heap.size + 1) t1 t2 t3 w9 bE9
    clear hb hS9
    go_wp2
    refine leaves_cons (f := 41) (args := #[.pointer (some ⟨w.heap.size + 1, 0, none⟩)]) (by simp) (by simp [go_sem]) ?_
    refine key.mono ?_
    rintro e u' w6 ⟨rfl, rfl, bE6, hF6⟩
    have bO6 : BoxC w6 w.heap.size #[.slice none 0 0, .int .i64 0, .int .i64 0] 44 := (hF6.block _ (by omega) (by omega)).trans bO9
    refine ⟨.tuple #[.agg #[.slice none 0 0, .int .i64 0, .int .i64 0], .agg #[.int .i64 t1, .int .i64 t2, .int .i64 t3]], res_link _ _ _ bO6 bE6 c3 c3t, frt_below hF6 HK.out (by omega) (by have := HK.out.size; omega), none, 0, 0, 0, 0, [], ?_, rfl, nil_code _, ?_⟩
    · rw [HR.out]; rfl
    · rw [HR.out]; rfl
  | none =>
  rw [hR1] at hE9
  obtain rfl : e = .returned (.tuple #[]) := hE9
  obtain ⟨s, g, cap, nm, nb, hL, hP⟩ := hS9 hR1
  clear hS9
  have hl6 : ¬ (l.length = 0 ∨ 6 < l.length) := fun h => by unfold layR at hR1; rw [if_pos h] at hR1; cases hR1
  have hlt : layT 0 p0 l = none := by unfold layR at hR1; rwa [if_neg hl6] at hR1
  have hmay := layT_none l 0 p0 hlt
  have hbnd := bnd_of hmay
  obtain ⟨bc, bc4, bl, bh⟩ := hbnd
  have hall := layP_all hlt
  obtain ⟨q, hq⟩ : ∃ q, q = layP l := ⟨_, rfl⟩
  rw [← hq] at hP bc bc4 bl bh hall
  obtain ⟨P1, P2, P3, P4, P5⟩ := hP
  have hmm : ∀ o ∈ l, o.face.module.size ≤ 16 := fun o ho => may_mod (may_parts (hmay o ho)).1
  have hrel : ∀ o ∈ l, ∀ r ∈ o.relocs, RelOk o r ∧ 0 ≤ r.at' ∧ r.at' < o.code.length := fun o ho => rels_ok (hmm o ho) o.relocs 0 (Int.le_refl _) (may_parts (hmay o ho)).2.2.2.1
  have hbg : ∀ i (h : i < l.length), s.begs ⟨1, l[i].face.module, ⟨#[]⟩⟩ = some ((baseOf l i : Nat) : Int) ∧ baseOf l i + l[i].code.length ≤ s.code.length := by rw [P4, P1]; exact hall
  have hc5 : s.code.length ≤ 200000 := by rw [P1]; omega
  have hc4 : 4 ≤ s.code.length := by rw [P1]; exact bc4
  have hsl : 0 ≤ s.low ∧ s.low ≤ 1000000 := by rw [P2]; omega
  have hsh : 0 ≤ s.high ∧ s.high ≤ 1000000 := by rw [P3]; omega
  clear bc bc4 bl bh hall
  have hX := oTryImports hL (by rw [hs2]; exact hb) ho2 P5 (fun o ho q' hq' => may_mod ((may_parts (hmay o ho)).2.1 q' hq'))
  rw [hpK] at hX
  go_wp2_with (fail)
  refine hX.mono ?_
  clear hX
  rintro e w10 ⟨hbn, hE⟩
  replace hL := hL.below hbn
  have hb := hb.trans (hbn.mono (by have := hL.box.lt; have := hbn.size; have := hb.size; omega))
  clear hbn
  cases hR2 : impT q.fcs 0 l with
  | some t =>
    rw [hR2] at hE
    have HR : Hid (T = some t) := by show _ = _; rw [hT.out]; unfold linkT; rw [hR1, ← hq, hR2]; rfl
    obtain ⟨t1, t2, t3⟩ := t
    have hE : e = .panicked (ThrT t1 t2 t3) := by exact hE
    subst hE
    have bO9 := (bO2.below (hb.mono (by omega)))
    have bE9 := (bE2.below (hb.mono (by omega)))
    have HK : Hid (Below w.heap.size w w10) := hB2.trans (hb.mono (by omega))
    have hs9 := hb.size
    have key := lcatch (w.heap.size + 1) t1 t2 t3 w10 bE9
    clear hb hL
    go_wp2
    refine leaves_cons (f := 41) (args := #[.pointer (some ⟨w.heap.size + 1, 0, none⟩)]) (by simp) (by simp [go_sem]) ?_
    refine key.mono ?_
    rintro e u' w6 ⟨rfl, rfl, bE6, hF6⟩
    have bO6 : BoxC w6 w.heap.size #[.slice none 0 0, .int .i64 0, .int .i64 0] 44 := (hF6.block _ (by omega) (by omega)).trans bO9
    refine ⟨.tuple #[.agg #[.slice none 0 0, .int .i64 0, .int .i64 0], .agg #[.int .i64 t1, .int .i64 t2, .int .i64 t3]], res_link _ _ _ bO6 bE6 c3 c3t, frt_below hF6 HK.out (by omega) (by have := HK.out.size; omega), none, 0, 0, 0, 0, [], ?_, rfl, nil_code _, ?_⟩
    · rw [HR.out]; rfl
    · rw [HR.out]; rfl
  | none =>
  rw [hR2] at hE
  obtain rfl : e = .returned (.tuple #[]) := hE
  have hX := oTryRelocs hL (by rw [hs2]; exact hb) ho2 (fun o ho r hr => (hrel o ho r hr).1)
  rw [hpK] at hX
  go_wp2_with (fail)
  refine hX.mono ?_
  clear hX
  rintro e w11 ⟨hbn, hE⟩
  replace hL := hL.below hbn
  have hb := hb.trans (hbn.mono (by have := hL.box.lt; have := hbn.size; have := hb.size; omega))
  clear hbn
  rw [P4] at hE
  cases hR3 : relT q.begs 0 l with
  | some t =>
    rw [hR3] at hE
    have HR : Hid (T = some t) := by show _ = _; rw [hT.out]; unfold linkT; rw [hR1, ← hq, hR2, hR3]; rfl
    obtain ⟨t1, t2, t3⟩ := t
    have hE : e = .panicked (ThrT t1 t2 t3) := by exact hE
    subst hE
    have bO9 := (bO2.below (hb.mono (by omega)))
    have bE9 := (bE2.below (hb.mono (by omega)))
    have HK : Hid (Below w.heap.size w w11) := hB2.trans (hb.mono (by omega))
    have hs9 := hb.size
    have key := lcatch (w.heap.size + 1) t1 t2 t3 w11 bE9
    clear hb hL
    go_wp2
    refine leaves_cons (f := 41) (args := #[.pointer (some ⟨w.heap.size + 1, 0, none⟩)]) (by simp) (by simp [go_sem]) ?_
    refine key.mono ?_
    rintro e u' w6 ⟨rfl, rfl, bE6, hF6⟩
    have bO6 : BoxC w6 w.heap.size #[.slice none 0 0, .int .i64 0, .int .i64 0] 44 := (hF6.block _ (by omega) (by omega)).trans bO9
    refine ⟨.tuple #[.agg #[.slice none 0 0, .int .i64 0, .int .i64 0], .agg #[.int .i64 t1, .int .i64 t2, .int .i64 t3]], res_link _ _ _ bO6 bE6 c3 c3t, frt_below hF6 HK.out (by omega) (by have := HK.out.size; omega), none, 0, 0, 0, 0, [], ?_, rfl, nil_code _, ?_⟩
    · rw [HR.out]; rfl
    · rw [HR.out]; rfl
  | none =>
  rw [hR3] at hE
  obtain rfl : e = .returned (.tuple #[]) := hE
  have hX := oTryMain hL (by rw [hs2]; exact hb) P5
  rw [hpK] at hX
  go_wp2_with (fail)
  refine hX.mono ?_
  clear hX
  rintro e w12 ⟨hbn, hE⟩
  replace hL := hL.below hbn
  have hb := hb.trans (hbn.mono (by have := hL.box.lt; have := hbn.size; have := hb.size; omega))
  clear hbn
  rw [P4] at hE
  cases hR4 : mainT q.begs q.fcs with
  | some t =>
    rw [hR4] at hE
    have HR : Hid (T = some t) := by show _ = _; rw [hT.out]; unfold linkT; rw [hR1, ← hq, hR2, hR3, hR4]; rfl
    obtain ⟨t1, t2, t3⟩ := t
    have hE : e = .panicked (ThrT t1 t2 t3) := by exact hE
    subst hE
    have bO9 := (bO2.below (hb.mono (by omega)))
    have bE9 := (bE2.below (hb.mono (by omega)))
    have HK : Hid (Below w.heap.size w w12) := hB2.trans (hb.mono (by omega))
    have hs9 := hb.size
    have key := lcatch (w.heap.size + 1) t1 t2 t3 w12 bE9
    clear hb hL
    go_wp2
    refine leaves_cons (f := 41) (args := #[.pointer (some ⟨w.heap.size + 1, 0, none⟩)]) (by simp) (by simp [go_sem]) ?_
    refine key.mono ?_
    rintro e u' w6 ⟨rfl, rfl, bE6, hF6⟩
    have bO6 : BoxC w6 w.heap.size #[.slice none 0 0, .int .i64 0, .int .i64 0] 44 := (hF6.block _ (by omega) (by omega)).trans bO9
    refine ⟨.tuple #[.agg #[.slice none 0 0, .int .i64 0, .int .i64 0], .agg #[.int .i64 t1, .int .i64 t2, .int .i64 t3]], res_link _ _ _ bO6 bE6 c3 c3t, frt_below hF6 HK.out (by omega) (by have := HK.out.size; omega), none, 0, 0, 0, 0, [], ?_, rfl, nil_code _, ?_⟩
    · rw [HR.out]; rfl
    · rw [HR.out]; rfl
  | none =>
  rw [hR4] at hE
  obtain rfl : e = .returned (.tuple #[]) := hE
  have hX := oBegin hL (by rw [hpN]; exact hb) hN2 ho2 hc4 hsl hsh (fun o ho => (may_parts (hmay o ho)).2.2.2.2.2.2.1) (fun o ho => (may_parts (hmay o ho)).2.2.2.2.2.2.2.1)
  rw [hpK] at hX
  go_wp2_with (fail)
  refine hX.mono ?_
  clear hX hL
  rintro e w13 ⟨rfl, hbn, hL⟩
  rw [hpN] at hbn
  have hb := hb.trans hbn
  clear hbn
  have e1 : (beginF s l).code = headP l := by unfold beginF headP; rw [← hq, P1, P2, P3, P4]
  have e2 : (beginF s l).low = lowP l := by unfold beginF lowP; rw [← hq, P2]
  have e3 : (beginF s l).high = highP l := by unfold beginF highP; rw [← hq, P3]
  have e4 : (beginF s l).begs = q.begs := by unfold beginF; exact P4
  have e5 : (headP l).length = q.code.length := by unfold headP; rw [headF_len, hq]
  have hrm : roomT (beginF s l) = roomP l := by unfold roomT roomP roomB; rw [e1, e2, e3, e5, hq]
  have hX := oTryRoom hL
  rw [hpK, hrm] at hX
  go_wp2_with (fail)
  refine hX.mono ?_
  clear hX
  rintro e w14 ⟨hw14, hE⟩
  subst hw14
  cases hR5 : roomP l with
  | some t =>
    rw [hR5] at hE
    have HR : Hid (T = some t) := by show _ = _; rw [hT.out]; unfold linkT; rw [hR1, ← hq, hR2, hR3, hR4, hR5]; rfl
    obtain ⟨t1, t2, t3⟩ := t
    have hE : e = .panicked (ThrT t1 t2 t3) := by exact hE
    subst hE
    have bO9 := (bO2.below (hb.mono (by omega)))
    have bE9 := (bE2.below (hb.mono (by omega)))
    have HK : Hid (Below w.heap.size w w14) := hB2.trans (hb.mono (by omega))
    have hs9 := hb.size
    have key := lcatch (w.heap.size + 1) t1 t2 t3 w14 bE9
    clear hb hL
    go_wp2
    refine leaves_cons (f := 41) (args := #[.pointer (some ⟨w.heap.size + 1, 0, none⟩)]) (by simp) (by simp [go_sem]) ?_
    refine key.mono ?_
    rintro e u' w6 ⟨rfl, rfl, bE6, hF6⟩
    have bO6 : BoxC w6 w.heap.size #[.slice none 0 0, .int .i64 0, .int .i64 0] 44 := (hF6.block _ (by omega) (by omega)).trans bO9
    refine ⟨.tuple #[.agg #[.slice none 0 0, .int .i64 0, .int .i64 0], .agg #[.int .i64 t1, .int .i64 t2, .int .i64 t3]], res_link _ _ _ bO6 bE6 c3 c3t, frt_below hF6 HK.out (by omega) (by have := HK.out.size; omega), none, 0, 0, 0, 0, [], ?_, rfl, nil_code _, ?_⟩
    · rw [HR.out]; rfl
    · rw [HR.out]; rfl
  | none =>
  rw [hR5] at hE
  obtain rfl : e = .returned (.tuple #[]) := hE
  have hX := oRelocate hL (by rw [hpN]; exact hb) hN2 ho2 hmm (by rw [e1, e5, ← P1]; omega) (by rw [e4, e1, e5, ← P4, ← P1]; exact hbg) hrel
  rw [hpK] at hX
  go_wp2_with (fail)
  refine hX.mono ?_
  clear hX hL
  rintro e w15 ⟨rfl, hbn, hL⟩
  rw [hpN] at hbn
  have hb := hb.trans hbn
  clear hbn
  have e6 : relocL (beginF s l).begs (baseOf l 0) (beginF s l).code l = codeP l := by unfold codeP; rw [e1, e4, hq]
  have e7 : (codeP l).length = s.code.length := by unfold codeP; rw [relocL_len, e5, P1]
  rw [e6, e1, e5, ← P1] at hL
  obtain ⟨s9, hs9⟩ : ∃ s9, s9 = ({ beginF s l with code := codeP l } : St) := ⟨_, rfl⟩
  rw [← hs9] at hL
  have g1 : s9.code = codeP l := by rw [hs9]
  have g2 : s9.low = lowP l := by rw [hs9]; exact e2
  have g3 : s9.high = highP l := by rw [hs9]; exact e3
  have g4 : s9.begs = s.begs := by rw [hs9]; rfl
  have hL9 : LS w15 p s9 (.slice (some ⟨g, 0, none⟩) s9.code.length cap) nm nb := by rw [g1, e7]; exact hL
  have hX := oTryOrders hL9 (by rw [hs2]; exact hb) ho2 hmm (by rw [g1, e7]; omega) (by rw [g4, g1, e7]; exact hbg)
  rw [hpK, g1] at hX
  go_wp2_with (fail)
  refine hX.mono ?_
  clear hX
  rintro e w16 ⟨hbn, hE⟩
  replace hL := hL.below hbn
  have hb := hb.trans (hbn.mono (by have := hL.box.lt; have := hbn.size; have := hb.size; omega))
  clear hbn hL9
  cases hR6 : ordT (codeP l) (baseOf l 0) 0 l with
  | some t =>
    rw [hR6] at hE
    have HR : Hid (T = some t) := by show _ = _; rw [hT.out]; unfold linkT; rw [hR1, ← hq, hR2, hR3, hR4, hR5, hR6]; rfl
    obtain ⟨t1, t2, t3⟩ := t
    have hE : e = .panicked (ThrT t1 t2 t3) := by exact hE
    subst hE
    have bO9 := (bO2.below (hb.mono (by omega)))
    have bE9 := (bE2.below (hb.mono (by omega)))
    have HK : Hid (Below w.heap.size w w16) := hB2.trans (hb.mono (by omega))
    have hs9 := hb.size
    have key := lcatch (w.heap.size + 1) t1 t2 t3 w16 bE9
    clear hb hL
    go_wp2
    refine leaves_cons (f := 41) (args := #[.pointer (some ⟨w.heap.size + 1, 0, none⟩)]) (by simp) (by simp [go_sem]) ?_
    refine key.mono ?_
    rintro e u' w6 ⟨rfl, rfl, bE6, hF6⟩
    have bO6 : BoxC w6 w.heap.size #[.slice none 0 0, .int .i64 0, .int .i64 0] 44 := (hF6.block _ (by omega) (by omega)).trans bO9
    refine ⟨.tuple #[.agg #[.slice none 0 0, .int .i64 0, .int .i64 0], .agg #[.int .i64 t1, .int .i64 t2, .int .i64 t3]], res_link _ _ _ bO6 bE6 c3 c3t, frt_below hF6 HK.out (by omega) (by have := HK.out.size; omega), none, 0, 0, 0, 0, [], ?_, rfl, nil_code _, ?_⟩
    · rw [HR.out]; rfl
    · rw [HR.out]; rfl
  | none =>
  rw [hR6] at hE
  obtain rfl : e = .returned (.tuple #[]) := hE
  have HR : Hid (T = none) := by show _ = _; rw [hT.out]; unfold linkT; rw [hR1, ← hq, hR2, hR3, hR4, hR5, hR6]; rfl
  have bO9 := (bO2.below (hb.mono (by omega)))
  have bE9 := (bE2.below (hb.mono (by omega)))
  have hK0 := hL.cod
  have hK1 := hL.lo
  have hK2 := hL.hi
  rw [hpK] at hK0 hK1 hK2
  rw [g2] at hK1
  rw [g3] at hK2
  have hKlt := hL.box.lt
  rw [hpK] at hKlt
  have hrow := hL.row
  rw [g1, e7, ← e7] at hrow
  rw [e7] at hrow
  have hcin := code_in hrow e7.symm (by rw [e7]; omega)
  rw [e7] at hcin
  have hgN := hL.gN
  rw [hpN] at hgN
  obtain ⟨V, hV⟩ : ∃ V, V = Value.slice (some ⟨g, 0, none⟩) s.code.length cap := ⟨_, rfl⟩
  have bOF := ((bO9.set 0 (.slice (some ⟨g, 0, none⟩) s.code.length cap)).set 1 (.int .i64 (lowP l))).set 2 (.int .i64 (highP l))
  have bOG : BoxC (((((((w16.setCell ⟨w.heap.size, 0, none⟩ (.slice (some ⟨g, 0, none⟩) s.code.length cap)).setCell ⟨w.heap.size, 1, none⟩ (.int .i64 (lowP l))).setCell ⟨w.heap.size, 2, none⟩ (.int .i64 (highP l)))).setCell ⟨w.heap.size + 1, 0, none⟩ (.int .i64 0)).setCell ⟨w.heap.size + 1, 1, none⟩ (.int .i64 0)).setCell ⟨w.heap.size + 1, 2, none⟩ (.int .i64 0)) w.heap.size #[.slice (some ⟨g, 0, none⟩) s.code.length cap, .int .i64 (lowP l), .int .i64 (highP l)] 44 := by
    refine BoxC.set' (by omega) (BoxC.set' (by omega) (BoxC.set' (by omega) ?_))
    simpa using bOF
  have bEG : BoxC (((((((w16.setCell ⟨w.heap.size, 0, none⟩ (.slice (some ⟨g, 0, none⟩) s.code.length cap)).setCell ⟨w.heap.size, 1, none⟩ (.int .i64 (lowP l))).setCell ⟨w.heap.size, 2, none⟩ (.int .i64 (highP l)))).setCell ⟨w.heap.size + 1, 0, none⟩ (.int .i64 0)).setCell ⟨w.heap.size + 1, 1, none⟩ (.int .i64 0)).setCell ⟨w.heap.size + 1, 2, none⟩ (.int .i64 0)) (w.heap.size + 1) #[.int .i64 0, .int .i64 0, .int .i64 0] 46 := by
    have := (((BoxC.set' (b := w.heap.size) (i := 2) (u := .int .i64 (highP l)) (by omega) (BoxC.set' (b := w.heap.size) (i := 1) (u := .int .i64 (lowP l)) (by omega) (BoxC.set' (b := w.heap.size) (i := 0) (u := .slice (some ⟨g, 0, none⟩) s.code.length cap) (by omega) bE9))).set 0 (.int .i64 0)).set 1 (.int .i64 0)).set 2 (.int .i64 0)
    simpa using this
  have HG : Hid (Below w.heap.size w (((((((w16.setCell ⟨w.heap.size, 0, none⟩ (.slice (some ⟨g, 0, none⟩) s.code.length cap)).setCell ⟨w.heap.size, 1, none⟩ (.int .i64 (lowP l))).setCell ⟨w.heap.size, 2, none⟩ (.int .i64 (highP l)))).setCell ⟨w.heap.size + 1, 0, none⟩ (.int .i64 0)).setCell ⟨w.heap.size + 1, 1, none⟩ (.int .i64 0)).setCell ⟨w.heap.size + 1, 2, none⟩ (.int .i64 0))) :=
    ((((((hB2.trans (hb.mono (by omega))).setCell (p := ⟨w.heap.size, 0, none⟩) (Nat.le_refl _) _).setCell (p := ⟨w.heap.size, 1, none⟩) (Nat.le_refl _) _).setCell (p := ⟨w.heap.size, 2, none⟩) (Nat.le_refl _) _).setCell (p := ⟨w.heap.size + 1, 0, none⟩) (Nat.le_succ _) _).setCell (p := ⟨w.heap.size + 1, 1, none⟩) (Nat.le_succ _) _).setCell (p := ⟨w.heap.size + 1, 2, none⟩) (Nat.le_succ _) _
  have HC : Hid (CodeIn (((((((w16.setCell ⟨w.heap.size, 0, none⟩ (.slice (some ⟨g, 0, none⟩) s.code.length cap)).setCell ⟨w.heap.size, 1, none⟩ (.int .i64 (lowP l))).setCell ⟨w.heap.size, 2, none⟩ (.int .i64 (highP l)))).setCell ⟨w.heap.size + 1, 0, none⟩ (.int .i64 0)).setCell ⟨w.heap.size + 1, 1, none⟩ (.int .i64 0)).setCell ⟨w.heap.size + 1, 2, none⟩ (.int .i64 0)) (.slice (some ⟨g, 0, none⟩) s.code.length cap) (codeP l)) := by
    obtain ⟨a, c, h1, h2, h3⟩ := hcin
    refine ⟨a, c, h1, h2, fun hne => ?_⟩
    obtain ⟨g', o, h4, h5⟩ := h3 hne
    simp only [Value.slice.injEq] at h1
    obtain ⟨rfl, _, rfl⟩ := h1
    cases h4
    refine ⟨g, 0, rfl, fun i hi => ?_⟩
    obtain ⟨k0, k1, k2, k3, k4⟩ := h5 i hi
    have cell : ∀ j v, w16.cell? ⟨g, j, none⟩ = some v → (((((((w16.setCell ⟨w.heap.size, 0, none⟩ (.slice (some ⟨g, 0, none⟩) s.code.length cap)).setCell ⟨w.heap.size, 1, none⟩ (.int .i64 (lowP l))).setCell ⟨w.heap.size, 2, none⟩ (.int .i64 (highP l)))).setCell ⟨w.heap.size + 1, 0, none⟩ (.int .i64 0)).setCell ⟨w.heap.size + 1, 1, none⟩ (.int .i64 0)).setCell ⟨w.heap.size + 1, 2, none⟩ (.int .i64 0)).cell? ⟨g, j, none⟩ = some v := fun j v hv => by
      rw [cell_other (by omega), cell_other (by omega), cell_other (by omega), cell_other (by omega), cell_other (by omega), cell_other (by omega)]
      exact hv
    exact ⟨cell _ _ k0, cell _ _ k1, cell _ _ k2, cell _ _ k3, cell _ _ k4⟩
  have o0 := bO9.cell 0 rfl
  have o1 := bO9.cell 1 rfl
  have o2 := bO9.cell 2 rfl
  have f0 := bO9.fz 0
  have f1 := bO9.fz 1
  have f2 := bO9.fz 2
  have r0 := bE9.cell 0 rfl
  have r1 := bE9.cell 1 rfl
  have r2 := bE9.cell 2 rfl
  have t0 := bE9.fz 0
  have t1 := bE9.fz 1
  have t2 := bE9.fz 2
  replace bOG : Hid (BoxC _ _ _ _) := bOG
  replace bEG : Hid (BoxC _ _ _ _) := bEG
  replace e7 : Hid ((codeP l).length = s.code.length) := e7
  clear hb hL bOF bO9 bE9 hcin hrow g1 g2 g3 g4 hs9 s9 e1 e2 e3 e4 e5 e6 hq hbg hrel hmm hmay hR1 hR2 hR3 hR4 hR5 hR6 P1 P2 P3 P4 P5 bO2 bE2 hB2 hV V hT
  go_wp2
  refine leaves_cons (f := 41) (args := #[.pointer (some ⟨w.heap.size + 1, 0, none⟩)]) (by simp) (by simp [go_sem]) ?_
  refine (lcatch_idle _ _).mono ?_
  rintro e u' w6 ⟨rfl, rfl, hw6⟩
  subst hw6
  refine ⟨.tuple #[.agg #[.slice (some ⟨g, 0, none⟩) s.code.length cap, .int .i64 (lowP l), .int .i64 (highP l)], .agg #[.int .i64 0, .int .i64 0, .int .i64 0]], res_link _ _ _ bOG.out bEG.out c3 c3t, HG.out, some ⟨g, 0, none⟩, s.code.length, cap, lowP l, highP l, codeP l, ?_, e7.out.symm, HC.out, ?_⟩
  · rw [HR.out]; rfl
  · rw [HR.out]; rfl
end Go.Proofs.YtaiocbbcjdpjgaaGreatDoor.lnk
