/- What the reference's Link answers: a contract. (Written by mkreflink.py: edit that.) -/
import Derived.Test.YtaiocbbcjdpjgaaGreatDoorLMLnkRefE
import Derived.Deep.Cut
namespace Go.Proofs.YtaiocbbcjdpjgaaGreatDoor.lnk
open Go.RowKit
open Go.Proofs.YtaiocbbcjdpjgaaGreatDoor.syn (isName eqS)
open Go.Proofs.YtaiocbbcjdpjgaaGreatDoor.mac (BoxC Ins grown_of_below)
open Go.Proofs.YtaiocbbcjdpjgaaGreatDoor.ord (tkd putd)
open Go.Proofs.YtaiocbbcjdpjgaaGreatDoor.obj (ObjD PlcD RelD Vals ObjAt PlcsIn RelsIn CodeIn FacesIn objV relV insV mayO ordR rOrder)
open Go.Proofs.YtaiocbbcjdpjgaaGreatDoor.face (VarD ProcD FaceD FaceIn keep VarsIn ProcsIn IntsIn)
set_option linter.unusedVariables false
set_option linter.unusedSimpArgs false
set_option maxRecDepth 100000
theorem res_rlink {W : World} {a0 a1 y0 y1 y2 z0 z1 z2 : Value} (tl : List Value) (B C : Nat) (h : BoxC W B #[y0, y1, y2] 44) (hC : BoxC W C #[z0, z1, z2] 46) (c3 : Tryz.prog.cellsOf 44 = 3) (c3' : Tryz.prog.cellsOf 46 = 3) : (results Tryz.f14 (List.toArray (a0 :: a1 :: .pointer (some ⟨B, 0, none⟩) :: .pointer (some ⟨C, 0, none⟩) :: tl))).run Tryz.prog W = .ok (.tuple #[.agg #[y0, y1, y2], .agg #[z0, z1, z2]]) W := by
  have q0 := h.cell 0 rfl
  have q1 := h.cell 1 rfl
  have q2 := h.cell 2 rfl
  have u0 := hC.cell 0 rfl
  have u1 := hC.cell 1 rfl
  have u2 := hC.cell 2 rfl
  simp [results, Tryz.f14, go_sem, q0, q1, q2, u0, u1, u2]
theorem wrong_link (l : List ObjD) : linkT l = (wrongT l).or ((roomP l).or (ordT (codeP l) (baseOf l 0) 0 l)) := by
  unfold linkT wrongT
  simp only [Option.or_assoc]
theorem RL.first {w w5 : World} {M : Nat} (hB : Below w.heap.size w w5) (bI : BoxC w5 w.heap.size #[.slice none 0 0, .int .i64 0, .int .i64 0] 44) (bT : BoxC w5 (w.heap.size + 1) #[.int .i64 0, .int .i64 0, .int .i64 0] 46) (bM : BoxC w5 M #[.slice none 0 0, .int .i64 0, .int .i64 0] 44) (hM : w.heap.size + 2 ≤ M) (LO HI MA : Int) :
    RL w ((w5.setCell ⟨M, 0, none⟩ (.slice (some ⟨w5.heap.size, 0, none⟩) 4 4)).alloc (.cells #[.int .i64 1, .int .i64 6, .int .i64 0, .int .i64 0, .int .i64 LO, .int .i64 1, .int .i64 7, .int .i64 0, .int .i64 0, .int .i64 HI, .int .i64 11, .int .i64 0, .int .i64 0, .int .i64 0, .int .i64 MA, .int .i64 17, .int .i64 0, .int .i64 0, .int .i64 0, .int .i64 0] 64)) M w5.heap.size 4 4 0 0 (head4 LO HI MA) := by
  have hlt := bM.lt
  have hs := mac.grown_set w5 M 0 (.slice (some ⟨w5.heap.size, 0, none⟩) 4 4)
  have hb1 : Below (w5.setCell ⟨M, 0, none⟩ (.slice (some ⟨w5.heap.size, 0, none⟩) 4 4)).heap.size (w5.setCell ⟨M, 0, none⟩ (.slice (some ⟨w5.heap.size, 0, none⟩) 4 4)) ((w5.setCell ⟨M, 0, none⟩ (.slice (some ⟨w5.heap.size, 0, none⟩) 4 4)).alloc (.cells #[.int .i64 1, .int .i64 6, .int .i64 0, .int .i64 0, .int .i64 LO, .int .i64 1, .int .i64 7, .int .i64 0, .int .i64 0, .int .i64 HI, .int .i64 11, .int .i64 0, .int .i64 0, .int .i64 0, .int .i64 MA, .int .i64 17, .int .i64 0, .int .i64 0, .int .i64 0, .int .i64 0] 64)) := (Below.refl _ _).alloc (Nat.le_refl _) _
  have bM2 := bM.set 0 (.slice (some ⟨w5.heap.size, 0, none⟩) 4 4)
  have hsz : (w5.setCell ⟨M, 0, none⟩ (.slice (some ⟨w5.heap.size, 0, none⟩) 4 4)).heap.size = w5.heap.size := by simp
  refine ⟨(hB.setCell (p := ⟨M, 0, none⟩) (by show w.heap.size ≤ M; omega) _).trans (hb1.mono (by rw [hsz]; exact hB.size)), (bI.grown hs (fun e => by have := Option.some.inj e; omega)).below hb1, (bT.grown hs (fun e => by have := Option.some.inj e; omega)).below hb1, ?_, ?_, rfl, by omega, hM⟩
  · have := bM2.below hb1
    simpa using this
  · have hn := BoxC.new (w5.setCell ⟨M, 0, none⟩ (.slice (some ⟨w5.heap.size, 0, none⟩) 4 4)) #[.int .i64 1, .int .i64 6, .int .i64 0, .int .i64 0, .int .i64 LO, .int .i64 1, .int .i64 7, .int .i64 0, .int .i64 0, .int .i64 HI, .int .i64 11, .int .i64 0, .int .i64 0, .int .i64 0, .int .i64 MA, .int .i64 17, .int .i64 0, .int .i64 0, .int .i64 0, .int .i64 0] 64
    rw [hsz] at hn
    exact ⟨rfl, .inr ⟨_, 4, #[.int .i64 1, .int .i64 6, .int .i64 0, .int .i64 0, .int .i64 LO, .int .i64 1, .int .i64 7, .int .i64 0, .int .i64 0, .int .i64 HI, .int .i64 11, .int .i64 0, .int .i64 0, .int .i64 0, .int .i64 MA, .int .i64 17, .int .i64 0, .int .i64 0, .int .i64 0, .int .i64 0], rfl, by omega, hn, Nat.le_refl _, by unfold maxLen; decide, rfl, rfl⟩⟩
/-- what is to be added for a reloc -/
theorem add_is {l : List ObjD} (h : layT 0 p0 l = none) (hr : relT (layP l).begs 0 l = none) {i : Nat} (hi : i < l.length) {r : RelD} (hrm : r ∈ l[i].relocs) (hok : RelOk l[i] r) : ((layP l).begs (askedF l[i] r)).getD 0 = if r.kind = 1 then ((baseOf l i : Nat) : Int) else standsF l r.kind r.module r.name := by
  unfold askedF
  by_cases e : r.kind = 1
  · rw [if_pos e, if_pos e, (layP_all h i hi).1]
    rfl
  · rw [if_neg e, if_neg e]
    have key : ∀ (a : List ObjD) (k : Int), relT (layP l).begs k a = none → ∀ o ∈ a, ∀ (rs : List RelD) (j : Int), relO (layP l).begs o k j rs = none → True := fun _ _ _ _ _ _ _ _ => trivial
    have hall : ∀ (a : List ObjD) (k : Int), relT (layP l).begs k a = none → ∀ o ∈ a, ∀ r ∈ o.relocs, (((layP l).begs (askedF o r)).isSome && knowsF o r) = true := by
      intro a
      induction a with
      | nil => intro k _ o ho; cases ho
      | cons x a ih =>
        intro k hk o ho
        unfold relT at hk
        rw [Option.or_eq_none_iff] at hk
        rcases List.mem_cons.1 ho with rfl | ho
        · have key2 : ∀ (rs : List RelD) (j : Int), relO (layP l).begs o k j rs = none → ∀ r ∈ rs, (((layP l).begs (askedF o r)).isSome && knowsF o r) = true := by
            intro rs
            induction rs with
            | nil => intro j _ r hr; cases hr
            | cons y rs ih2 =>
              intro j hj r hr
              unfold relO at hj
              split at hj
              · rename_i hy
                rcases List.mem_cons.1 hr with rfl | hr
                · exact hy
                · exact ih2 _ hj r hr
              · cases hj
          exact key2 _ _ hk.1
        · exact ih _ hk.2 o ho
    have h1 := hall l 0 hr l[i] (List.getElem_mem _) r hrm
    rw [Bool.and_eq_true] at h1
    have h2 := h1.1
    unfold askedF at h2
    rw [if_neg e] at h2
    have hk := hok.k
    rw [stands_all h (by omega)] at h2 ⊢
    split at h2
    · rename_i h0
      rw [if_pos h0]
      rfl
    · cases h2
set_option maxHeartbeats 8000000 in
theorem rLink_bad {w : World} {l : List ObjD} {a : Option Addr} {c : Nat} (ho : ObjsIn w (.slice a l.length c) l) (hcap : l.length ≤ c) {t : Int × Int × Int} (hw : wrongT l = some t) :
    Calls Tryz.prog 14 #[.slice a l.length c] w (LinkE w l (linkT l)) := by
  have c3 : Tryz.prog.cellsOf 44 = 3 := by kernel_rfl
  have c3t : Tryz.prog.cellsOf 46 = 3 := by kernel_rfl
  have hL : linkT l = some t := by rw [wrong_link, hw]; rfl
  have hne := linkT_code hL
  rw [hL]
  obtain ⟨t1, t2, t3⟩ := t
  dsimp only at hne
  obtain ⟨w2, hw2⟩ : ∃ w2, w2 = (w.alloc (.cells #[.slice none 0 0, .int .i64 0, .int .i64 0] 44)).alloc (.cells #[.int .i64 0, .int .i64 0, .int .i64 0] 46) := ⟨_, rfl⟩
  have hB2 : Below w.heap.size w w2 := by rw [hw2]; exact ((Below.refl _ _).alloc (Nat.le_refl _) _).alloc (by simp) _
  have hs2 : w2.heap.size = w.heap.size + 2 := by rw [hw2]; simp
  have bO2 : BoxC w2 w.heap.size #[.slice none 0 0, .int .i64 0, .int .i64 0] 44 := by rw [hw2]; exact (BoxC.new w _ _).alloc _
  have bE2 : BoxC w2 (w.heap.size + 1) #[.int .i64 0, .int .i64 0, .int .i64 0] 46 := by
    have := BoxC.new (w.alloc (.cells #[.slice none 0 0, .int .i64 0, .int .i64 0] 44)) #[.int .i64 0, .int .i64 0, .int .i64 0] 46
    rw [World.size_alloc] at this
    rw [hw2]
    exact this
  have hC := rWrong (ho.below hB2) hcap
  rw [hw] at hC
  unfold trV at hC
  dsimp only [Option.getD_some] at hC
  go_enter Tryz.func14, Tryz.ntmps14
  go_wp2_with (fail)
  rw [← hw2]
  refine hC.mono ?_
  clear hC
  rintro e w3 ⟨rfl, hb3⟩
  have hB3 := hB2.trans (hb3.mono hB2.size)
  have bO3 := (bO2.below hb3).alloc (.cells #[.int .i64 t1, .int .i64 t2, .int .i64 t3] 46)
  have bE3 := (bE2.below hb3).alloc (.cells #[.int .i64 t1, .int .i64 t2, .int .i64 t3] 46)
  have b4 := BoxC.new w3 #[.int .i64 t1, .int .i64 t2, .int .i64 t3] 46
  have hs3 := hb3.size
  replace hB3 := hB3.alloc hB3.size (.cells #[.int .i64 t1, .int .i64 t2, .int .i64 t3] 46)
  clear hb3 bO2 bE2 hw2
  go_wp2
  generalize w3.alloc (.cells #[.int .i64 t1, .int .i64 t2, .int .i64 t3] 46) = W at *
  have hB4 : w.heap.size + 2 ≤ w3.heap.size := by omega
  generalize w3.heap.size = B at *
  refine wp_region_held_drew (S := fun W => BoxC W B #[.int .i64 t1, .int .i64 t2, .int .i64 t3] 46) (by kernel_rfl) (b4.below (Below.refl _ _).drew) (fun hS => ?_)
  replace bO3 := bO3.below (Below.refl _ _).drew
  replace bE3 := bE3.below (Below.refl _ _).drew
  replace hB3 := hB3.drew
  generalize W.drew = V at *
  clear b4
  refine tkd (i := 0) (v := .agg #[.slice none 0 0, .int .i64 0, .int .i64 0] ) rfl rfl (by kernel_rfl) (by kernel_rfl) (by kernel_rfl) (fun _ _ _ h => h) (Or.inl ⟨by rfl, fun wq hSw => by skip; go_simp⟩) hS ?_
  simp only [List.setIfInBounds_toArray, List.set_cons_zero, List.set_cons_succ]
  refine tkd (i := 1) (v := .agg #[.int .i64 t1, .int .i64 t2, .int .i64 t3] ) rfl rfl (by kernel_rfl) (by kernel_rfl) (by kernel_rfl) (fun _ _ _ h => h) (Or.inl ⟨by rfl, fun wq hSw => by have m0 := hSw.cell 0 rfl; have m1 := hSw.cell 1 rfl; have m2 := hSw.cell 2 rfl; go_simp⟩) hS ?_
  simp only [List.setIfInBounds_toArray, List.set_cons_zero, List.set_cons_succ]
  refine wpAnyH_ready (rs := [2]) (by kernel_rfl) (by simp) ?_
  refine AllReadyH.cons rfl (fun K hK => ?_) AllReadyH.nil
  refine step_store_row (by rfl) 44 (.tmp 2) (.tmp 25) (by rfl) w.heap.size #[.slice none 0 0, .int .i64 0, .int .i64 0] (by rfl) (by rfl) 44 _ bO3 (by kernel_rfl) (by rfl) (by kernel_rfl) ?_
  replace bE3 : BoxC (V.setRow w.heap.size #[.slice none 0 0, .int .i64 0, .int .i64 0]) (w.heap.size + 1) #[.int .i64 0, .int .i64 0, .int .i64 0] 46 := (setRow_other _ _ _ _ (by omega)).trans bE3
  replace hB3 := below_row (cs := #[.slice none 0 0, .int .i64 0, .int .i64 0]) hB3 (Nat.le_refl _) hB3.size
  replace hS : BoxC (V.setRow w.heap.size #[.slice none 0 0, .int .i64 0, .int .i64 0]) B #[.int .i64 t1, .int .i64 t2, .int .i64 t3] 46 := (setRow_other _ _ _ _ (by omega)).trans hS
  replace bO3 := box_row (cs := #[.slice none 0 0, .int .i64 0, .int .i64 0]) bO3
  refine hK.out _ _ hS (fun _ => ?_)
  clear hK K
  generalize V.setRow w.heap.size #[.slice none 0 0, .int .i64 0, .int .i64 0] = V2 at *
  refine wpAnyH_ready (rs := [3]) (by kernel_rfl) (by simp) ?_
  refine AllReadyH.cons rfl (fun K hK => ?_) AllReadyH.nil
  refine step_store_row (by rfl) 46 (.tmp 3) (.tmp 26) (by rfl) (w.heap.size + 1) #[.int .i64 t1, .int .i64 t2, .int .i64 t3] (by rfl) (by rfl) 46 _ bE3 (by kernel_rfl) (by rfl) (by kernel_rfl) ?_
  replace bO3 : BoxC (V2.setRow (w.heap.size + 1) #[.int .i64 t1, .int .i64 t2, .int .i64 t3]) w.heap.size #[.slice none 0 0, .int .i64 0, .int .i64 0] 44 := (setRow_other _ _ _ _ (by omega)).trans bO3
  replace hB3 := below_row (cs := #[.int .i64 t1, .int .i64 t2, .int .i64 t3]) hB3 (Nat.le_succ w.heap.size) hB3.size
  replace hS : BoxC (V2.setRow (w.heap.size + 1) #[.int .i64 t1, .int .i64 t2, .int .i64 t3]) B #[.int .i64 t1, .int .i64 t2, .int .i64 t3] 46 := (setRow_other _ _ _ _ (by omega)).trans hS
  replace bE3 := box_row (cs := #[.int .i64 t1, .int .i64 t2, .int .i64 t3]) bE3
  refine hK.out _ _ hS (fun _ => ?_)
  clear hK K
  generalize V2.setRow (w.heap.size + 1) #[.int .i64 t1, .int .i64 t2, .int .i64 t3] = V3 at *
  refine wpAnyH_done (by kernel_rfl) ?_ _
  go_wp2
  refine bodyPost_ret (res_rlink _ _ _ bO3 bE3 c3 c3t) rfl ?_
  exact ⟨hB3, none, 0, 0, 0, 0, [], rfl, rfl, nil_code _, rfl⟩
theorem refC_zero (l : List ObjD) (lo hi m : Int) : refC l lo hi m 0 = head4 lo hi m := by simp [refC, codesL, relocL]
theorem addN_is {c : List Ins} {i : Nat} (h : i < c.length) (v : Int) : addN c i v = setN c i (IntKind.i64.wrap (c[i].n + v)) := by
  unfold addN
  rw [List.getElem?_eq_getElem h]
  rfl
set_option maxHeartbeats 16000000 in
theorem rLink_good {w : World} {l : List ObjD} {a : Option Addr} {c : Nat} (ho : ObjsIn w (.slice a l.length c) l) (hcap : l.length ≤ c) (hw : wrongT l = none) :
    Calls Tryz.prog 14 #[.slice a l.length c] w (LinkE w l (linkT l)) := by
  have c3 : Tryz.prog.cellsOf 44 = 3 := by kernel_rfl
  have c3t : Tryz.prog.cellsOf 46 = 3 := by kernel_rfl
  have c13 : Tryz.prog.cellsOf 31 = 13 := by kernel_rfl
  have c4 : Tryz.prog.cellsOf 66 = 4 := by kernel_rfl
  have c5i : Tryz.prog.cellsOf 64 = 5 := by kernel_rfl
  obtain ⟨T, hT⟩ : ∃ T, T = linkT l := ⟨_, rfl⟩
  rw [← hT]
  rw [wrong_link, hw, Option.none_or] at hT
  replace hT : Hid (T = (roomP l).or (ordT (codeP l) (baseOf l 0) 0 l)) := hT
  have hw' := hw
  unfold wrongT at hw'
  simp only [Option.or_eq_none_iff] at hw'
  obtain ⟨hl1, hl2, hl3, hl4⟩ := hw'
  have hl6 : ¬ (l.length = 0 ∨ 6 < l.length) := fun h => by unfold layR at hl1; rw [if_pos h] at hl1; cases hl1
  have hlt : layT 0 p0 l = none := by unfold layR at hl1; rwa [if_neg hl6] at hl1
  have hmay := layT_none l 0 p0 hlt
  obtain ⟨hma0, hma⟩ : 0 ≤ mainF l ∧ (layP l).begs ⟨2, ⟨#[109, 97, 105, 110]⟩, ⟨#[109, 97, 105, 110]⟩⟩ = some (mainF l) := by
    rcases main_is hlt with ⟨_, h2⟩ | ⟨h1, _, h3⟩
    · rw [h2] at hl4; cases hl4
    · exact ⟨h1, h3⟩
  obtain ⟨hlo, hhi⟩ := base_all hlt
  have hrel : ∀ o ∈ l, ∀ r ∈ o.relocs, RelOk o r ∧ 0 ≤ r.at' ∧ r.at' < o.code.length := fun o ho => rels_ok (may_mod (may_parts (hmay o ho)).1) o.relocs 0 (Int.le_refl _) (may_parts (hmay o ho)).2.2.2.1
  have hrel2 : ∀ o ∈ l, ∀ r ∈ o.relocs, r.at'.toNat < o.code.length := fun o ho r hr => by have := hrel o ho r hr; omega
  have HAD : Hid (∀ i (hi : i < l.length), ∀ r ∈ l[i].relocs, ((layP l).begs (askedF l[i] r)).getD 0 = if r.kind = 1 then ((baseOf l i : Nat) : Int) else standsF l r.kind r.module r.name) := fun i hi r hr => add_is hlt hl3 hi hr (hrel _ (List.getElem_mem _) r hr).1
  have HNX : Hid (∀ i (hi : i < l.length), refC l (baseK 3 l) (baseK 4 l) (mainF l) (i + 1) = relocO (layP l).begs l[i] (baseOf l i) (refC l (baseK 3 l) (baseK 4 l) (mainF l) i ++ l[i].code) l[i].relocs ∧ baseOf l (i + 1) = baseOf l i + l[i].code.length) := fun i hi => ⟨refC_next hi hrel2, baseOf_next hi⟩
  have HALL : Hid (refC l (baseK 3 l) (baseK 4 l) (mainF l) l.length = codeP l) := by
    have := refC_all (l := l)
    rw [hma, hlo, hhi] at this
    exact this
  have HLOP : Hid (lowP l = baseK 3 l + 31 * lowM l ∧ highP l = baseK 4 l + 31 * highM l) := by show _ ∧ _; unfold lowP highP; rw [hlo, hhi]; exact ⟨rfl, rfl⟩
  have hbnd := bnd_of hmay
  have hb3 := baseK_le hmay (kind := 3) (i := l.length) (Nat.le_refl _)
  have hb4 := baseK_le hmay (kind := 4) (i := l.length) (Nat.le_refl _)
  rw [List.take_length] at hb3 hb4
  have hcl : (layP l).code.length = baseOf l l.length := by
    have := layP_len (l := l) (Nat.le_refl _)
    rwa [List.take_length] at this
  have hcb := hbnd.c
  rw [hcl] at hcb
  have HRM : Hid (roomP l = if (decide (20000 < baseOf l l.length) || (decide (20000 < lowP l) || decide (20000 < highP l))) = true then some (0, 1, 0) else none) := by show _ = _; unfold roomP; rw [hcl]
  have hlM := lowM_le (l := l) (fun o ho => (may_parts (hmay o ho)).2.2.2.2.2.2.1)
  have hhM := highM_le (l := l) (fun o ho => (may_parts (hmay o ho)).2.2.2.2.2.2.2.1)
  have HCN : Hid (∀ i (hi : i < l.length), l[i].code.length ≤ 20000 ∧ baseOf l i ≤ 120004 ∧ baseOf l i + l[i].code.length ≤ baseOf l l.length) := fun i hi => ⟨(may_parts (hmay _ (List.getElem_mem _))).2.2.1, by have := baseOf_le hi; omega, baseOf_le hi⟩
  have HREL : Hid (∀ o ∈ l, ∀ r ∈ o.relocs, RelOk o r ∧ 0 ≤ r.at' ∧ r.at' < o.code.length) := hrel
  have HMAY : Hid (∀ o ∈ l, mayO o = true) := hmay
  have hwn := hw
  clear hl1 hl2 hl3 hl4 hlt hbnd hcl hrel hrel2 hmay hlo hhi hma hw
  obtain ⟨w2, hw2⟩ : ∃ w2, w2 = (w.alloc (.cells #[.slice none 0 0, .int .i64 0, .int .i64 0] 44)).alloc (.cells #[.int .i64 0, .int .i64 0, .int .i64 0] 46) := ⟨_, rfl⟩
  have hB2 : Below w.heap.size w w2 := by rw [hw2]; exact ((Below.refl _ _).alloc (Nat.le_refl _) _).alloc (by simp) _
  have hs2 : w2.heap.size = w.heap.size + 2 := by rw [hw2]; simp
  have bO2 : BoxC w2 w.heap.size #[.slice none 0 0, .int .i64 0, .int .i64 0] 44 := by rw [hw2]; exact (BoxC.new w _ _).alloc _
  have bE2 : BoxC w2 (w.heap.size + 1) #[.int .i64 0, .int .i64 0, .int .i64 0] 46 := by
    have := BoxC.new (w.alloc (.cells #[.slice none 0 0, .int .i64 0, .int .i64 0] 44)) #[.int .i64 0, .int .i64 0, .int .i64 0] 46
    rw [World.size_alloc] at this
    rw [hw2]
    exact this
  have hC := rWrong (ho.below hB2) hcap
  rw [hwn] at hC
  unfold trV at hC
  dsimp only [Option.getD_none] at hC
  have HOB : Hid (ObjsIn w (.slice a l.length c) l) := ho
  obtain ⟨a', c', e1, hll, hoc⟩ := ho
  cases e1
  obtain ⟨g0, o0, rfl, hcc⟩ := hoc (by intro e; rw [e] at hl6; exact hl6 (.inl rfl))
  clear hoc
  replace hcc : Hid (∀ i (h : i < l.length), ∃ x, ObjAt w x l[i] ∧ OCells w g0 (o0 + i * 13) l[i] x) := hcc
  go_enter Tryz.func14, Tryz.ntmps14
  go_wp2_with (fail)
  rw [← hw2]
  refine hC.mono ?_
  clear hC hw2 hwn
  rintro e w3 ⟨rfl, hb3'⟩
  have hB3 := (hB2.trans (hb3'.mono hB2.size)).alloc (hB2.trans (hb3'.mono hB2.size)).size (.cells #[.int .i64 0, .int .i64 0, .int .i64 0] 46)
  have bO3 := (bO2.below hb3').alloc (.cells #[.int .i64 0, .int .i64 0, .int .i64 0] 46)
  have bE3 := (bE2.below hb3').alloc (.cells #[.int .i64 0, .int .i64 0, .int .i64 0] 46)
  have hs3 : w.heap.size + 2 ≤ w3.heap.size := by rw [← hs2]; exact hb3'.size
  have hlb3 := rBase l _ l.length 3 (w3.alloc (.cells #[.int .i64 0, .int .i64 0, .int .i64 0] 46)) (HOB.out.below hB3) (Nat.le_refl _) HMAY.out (by omega)
  have hlb4 := rBase l _ l.length 4 (w3.alloc (.cells #[.int .i64 0, .int .i64 0, .int .i64 0] 46)) (HOB.out.below hB3) (Nat.le_refl _) HMAY.out (by omega)
  rw [List.take_length] at hlb3 hlb4
  have hMn := rMain l _ ((w3.alloc (.cells #[.int .i64 0, .int .i64 0, .int .i64 0] 46)).alloc (.cells #[.slice none 0 0, .int .i64 0, .int .i64 0] 44)) (HOB.out.below (hB3.alloc hB3.size _)) HMAY.out (by omega)
  have hsz3 : (w3.alloc (.cells #[.int .i64 0, .int .i64 0, .int .i64 0] 46)).heap.size = w3.heap.size + 1 := by simp
  have bM3 := BoxC.new (w3.alloc (.cells #[.int .i64 0, .int .i64 0, .int .i64 0] 46)) #[.slice none 0 0, .int .i64 0, .int .i64 0] 44
  rw [hsz3] at bM3
  replace bO3 := bO3.alloc (.cells #[.slice none 0 0, .int .i64 0, .int .i64 0] 44)
  replace bE3 := bE3.alloc (.cells #[.slice none 0 0, .int .i64 0, .int .i64 0] 44)
  have hB4 := hB3.alloc hB3.size (.cells #[.slice none 0 0, .int .i64 0, .int .i64 0] 44)
  clear hb3' bO2 bE2 hB3 hs2
  go_wp2_with (fail)
  refine hlb3.mono ?_
  rintro e w4 ⟨rfl, hw4⟩
  subst hw4
  clear hlb3
  go_wp2_with (fail)
  refine hlb4.mono ?_
  rintro e w4 ⟨rfl, hw4⟩
  subst hw4
  clear hlb4
  go_wp2_with (fail)
  refine hMn.mono ?_
  rintro e w5 ⟨rfl, hb5⟩
  clear hMn
  replace bO3 := bO3.below hb5
  replace bE3 := bE3.below hb5
  replace bM3 := bM3.below hb5
  have hB5 := hB4.trans (hb5.mono hB4.size)
  have hM2 : w.heap.size + 2 ≤ w3.heap.size + 1 := by omega
  clear hb5 hB4 hsz3
  generalize w3.heap.size + 1 = M at *
  have hF := RL.first hB5 bO3 bE3 bM3 hM2 (baseK 3 l) (baseK 4 l) (mainF l)
  have b0 := bM3.cell 0 rfl
  have b0f := bM3.fz 0
  have hMl := bM3.lt
  rw [← refC_zero l] at hF
  have HF : Hid (RL w _ M w5.heap.size 4 4 0 0 (refC l (baseK 3 l) (baseK 4 l) (mainF l) 0)) := hF
  clear hF hB5 bO3 bE3 bM3
  obtain ⟨LO, hLO⟩ : ∃ LO, LO = baseK 3 l := ⟨_, rfl⟩
  obtain ⟨HI, hHI⟩ : ∃ HI, HI = baseK 4 l := ⟨_, rfl⟩
  obtain ⟨MA, hMA⟩ : ∃ MA, MA = mainF l := ⟨_, rfl⟩
  rw [← hLO] at HF HNX HALL hb3 HLOP ⊢
  rw [← hHI] at HF HNX HALL hb4 HLOP ⊢
  rw [← hMA] at HF HNX HALL ⊢
  clear hLO hHI hMA hma0
  go_wp2
  go_loopw [8, 9, 12] (fun u v t wr => ∃ i g cap : Nat, i ≤ l.length ∧ t = .int .i64 i ∧ u = .int .i64 (lowM (l.take i)) ∧ v = .int .i64 (highM (l.take i)) ∧ RL w wr M g (baseOf l i) cap 0 0 (refC l LO HI MA i)) (fun _ _ t _ => l.length - (intOf t).toNat)
  case atStart => exact ⟨0, _, _, Nat.zero_le _, rfl, rfl, rfl, HF.out⟩
  case round =>
    clear HF b0 b0f
    obtain ⟨i, g, cap, hi, rfl, rfl, rfl, hR⟩ := hrel
    by_cases hlt : i < l.length
    · obtain ⟨x, hat, hcs⟩ := hcc.out i hlt
      have y11 := keep hcs.c11 hR.to
      have y12 := keep hcs.c12 hR.to
      have m0 := hR.bM.cell 0 rfl
      have HL1 : Hid (lowM (l.take (i + 1)) = max (lowM (l.take i)) l[i].lowF) := lowM_next hlt
      have HL2 : Hid (highM (l.take (i + 1)) = max (highM (l.take i)) l[i].highF) := highM_next hlt
      have hnx := HNX.out i hlt
      have had := HAD.out i hlt
      obtain ⟨hcn1, hcn2, hcn3⟩ := HCN.out i hlt
      have hre := HREL.out l[i] (List.getElem_mem hlt)
      replace had : Hid (∀ r ∈ l[i].relocs, ((layP l).begs (askedF l[i] r)).getD 0 = if r.kind = 1 then ((baseOf l i : Nat) : Int) else standsF l r.kind r.module r.name) := had
      replace hre : Hid (∀ r ∈ l[i].relocs, RelOk l[i] r ∧ 0 ≤ r.at' ∧ r.at' < l[i].code.length) := hre
      replace hnx : Hid (refC l LO HI MA (i + 1) = relocO (layP l).begs l[i] (baseOf l i) (refC l LO HI MA i ++ l[i].code) l[i].relocs ∧ baseOf l (i + 1) = baseOf l i + l[i].code.length) := hnx
      obtain ⟨a1, c1, a2, c2, a3, c3', a4, c4', a5, c5, a6, c6, a7, c7, a8, c8, rfl⟩ := hat.shape
      have hcd := hat.code
      have hrd := hat.rels
      have y4 := hcs.c4
      have y5 := hcs.c5
      dsimp only at hcd hrd y4 y5
      generalize l[i] = d at *
      generalize hCC : refC l LO HI MA i = C at *
      generalize hbb : baseOf l i = b at *
      clear hCC hbb hat hcs
      have HR : Hid (RL w wr M g b cap 0 0 C) := hR
      generalize lowM (l.take i) = ml at *
      generalize highM (l.take i) = mh at *
      have hlt' : (i : Int) < (l.length : Int) := by omega
      go_wp2
      generalize wr = w6 at *
      refine wp_region_held_drew (S := fun W => Below w.heap.size w W) (by kernel_rfl) hR.to.drew (fun hS => ?_)
      replace hR := hR.below (Below.refl _ _).drew
      clear m0 HR y11 y12
      generalize w6.drew = W at *
      refine tkd (i := 0) (v := .pointer (some ⟨M, 0, none⟩) ) rfl rfl (by kernel_rfl) (by kernel_rfl) (by kernel_rfl) (fun _ _ _ h => h) (Or.inl ⟨by rfl, fun wq hSw => by skip; go_simp⟩) hS ?_
      simp only [List.setIfInBounds_toArray, List.set_cons_zero, List.set_cons_succ]
      refine tkd (i := 2) (v := .slice (some ⟨g0, o0, none⟩) l.length c ) rfl rfl (by kernel_rfl) (by kernel_rfl) (by kernel_rfl) (fun _ _ _ h => h) (Or.inl ⟨by rfl, fun wq hSw => by skip; go_simp⟩) hS ?_
      simp only [List.setIfInBounds_toArray, List.set_cons_zero, List.set_cons_succ]
      refine tkd (i := 3) (v := .int .i64 (i : Int) ) rfl rfl (by kernel_rfl) (by kernel_rfl) (by kernel_rfl) (fun _ _ _ h => h) (Or.inl ⟨by rfl, fun wq hSw => by skip; go_simp⟩) hS ?_
      simp only [List.setIfInBounds_toArray, List.set_cons_zero, List.set_cons_succ]
      refine tkd (i := 4) (v := .pointer (some ⟨g0, o0 + i * 13, none⟩) ) rfl rfl (by kernel_rfl) (by kernel_rfl) (by kernel_rfl) (fun _ _ _ h => h) (Or.inl ⟨by rfl, fun wq hSw => by have m := hlt; go_simp⟩) hS ?_
      simp only [List.setIfInBounds_toArray, List.set_cons_zero, List.set_cons_succ]
      refine tkd (i := 5) (v := .pointer (some ⟨g0, o0 + i * 13 + 4, none⟩) ) rfl rfl (by kernel_rfl) (by kernel_rfl) (by kernel_rfl) (fun _ _ _ h => h) (Or.inl ⟨by rfl, fun wq hSw => by skip; go_simp⟩) hS ?_
      simp only [List.setIfInBounds_toArray, List.set_cons_zero, List.set_cons_succ]
      refine tkd (i := 6) (v := .slice a4 d.code.length c4' ) rfl rfl (by kernel_rfl) (by kernel_rfl) (by kernel_rfl) (fun _ _ _ h => h) (Or.inl ⟨by rfl, fun wq hSw => by have m := keep y4 hSw; go_simp⟩) hS ?_
      simp only [List.setIfInBounds_toArray, List.set_cons_zero, List.set_cons_succ]
      have m0 := hR.bM.cell 0 rfl
      refine wpAnyH_ready (rs := [1]) (by kernel_rfl) (by simp) ?_
      refine AllReadyH.cons rfl (fun K hK => ?_) AllReadyH.nil
      go_simp
      refine hK.out _ _ hS (fun _ => ?_)
      clear hK K
      refine wpAnyH_ready (rs := [7]) (by kernel_rfl) (by simp) ?_
      refine AllReadyH.cons rfl (fun K hK => ?_) AllReadyH.nil
      refine step_append_code (by rfl) (.tmp 70) (.tmp 75) (by rfl) (by rfl) hR.row (by rfl) (hcd.below hS) (by omega) (by have := hR.m2; have := hR.bM.lt; omega) ?_
      intro g5 cap5 w7 hown7 hgrow7 hat7
      have hg2 := hR.g2
      have hS7 : Below w.heap.size w w7 := hS.grown hgrow7 hS.size (fun k e => by cases e; omega)
      refine hK.out _ _ hS7 (fun _ => ?_)
      clear hK K m0 hS
      have hS := hS7
      clear hS7
      simp only [List.getElem_toArray, List.getElem_cons_succ, List.getElem_cons_zero, Act.put, List.setIfInBounds_toArray, List.set_cons_zero, List.set_cons_succ]
      refine tkd (i := 8) (v := .pointer (some ⟨M, 0, none⟩) ) rfl rfl (by kernel_rfl) (by kernel_rfl) (by kernel_rfl) (fun _ _ _ h => h) (Or.inl ⟨by rfl, fun wq hSw => by skip; go_simp⟩) hS ?_
      simp only [List.setIfInBounds_toArray, List.set_cons_zero, List.set_cons_succ]
      have bM7 := hR.bM.grown hgrow7 (fun e => hR.gM (Option.some.inj e))
      have k0 := bM7.cell 0 rfl
      have kf := bM7.fz 0
      have hR2 := hR.more hown7 hgrow7 hat7
      refine wpAnyH_ready (rs := [9]) (by kernel_rfl) (by simp) ?_
      refine AllReadyH.cons rfl (fun K hK => ?_) AllReadyH.nil
      go_simp
      refine hK.out _ _ hR2.to (fun _ => ?_)
      clear hK K k0 kf bM7 hown7 hgrow7 hat7 hR hg2 hS
      generalize w7.setCell ⟨M, 0, none⟩ (.slice (some ⟨g5, 0, none⟩) (b + d.code.length) cap5) = w8 at *
      refine wpAnyH_done (by kernel_rfl) ?_ _
      obtain ⟨ia, ic, hia, hil, hic⟩ := hrd
      simp only [Value.slice.injEq, true_and] at hia
      obtain ⟨rfl, rfl⟩ := hia
      replace hic : Hid (d.relocs ≠ [] → ∃ g o, a5 = some ⟨g, o, none⟩ ∧ ∀ i (h : i < d.relocs.length), w.cell? ⟨g, o + i * 4, none⟩ = some (.int .i64 d.relocs[i].at') ∧ w.cell? ⟨g, o + i * 4 + 1, none⟩ = some (.int .i64 d.relocs[i].kind) ∧ w.cell? ⟨g, o + i * 4 + 2, none⟩ = some (.string d.relocs[i].module) ∧ w.cell? ⟨g, o + i * 4 + 3, none⟩ = some (.string d.relocs[i].name)) := hic
      have HR2 : Hid (RL w w8 M g5 (b + d.code.length) cap5 0 0 (relocO (layP l).begs d b (C ++ d.code) (d.relocs.take 0))) := hR2
      clear hR2 hcd
      obtain ⟨m1, hm1⟩ : ∃ m, m = max ml d.lowF := ⟨_, rfl⟩
      obtain ⟨m2, hm2⟩ : ∃ m, m = max mh d.highF := ⟨_, rfl⟩
      rw [← hm1] at HL1 ⊢
      rw [← hm2] at HL2 ⊢
      clear hm1 hm2
      go_wp2
      go_loopw [14] (fun t wr => ∃ k : Nat, k ≤ d.relocs.length ∧ t = .int .i64 k ∧ RL w wr M g5 (b + d.code.length) cap5 0 0 (relocO (layP l).begs d b (C ++ d.code) (d.relocs.take k))) (fun t _ => d.relocs.length - (intOf t).toNat)
      case atStart => exact ⟨0, Nat.zero_le _, rfl, HR2.out⟩
      case round =>
        clear HR2
        obtain ⟨k, hk, rfl, hR⟩ := hrel
        have y5' := keep y5 hR.to
        by_cases hkl : k < d.relocs.length
        · obtain ⟨g2, o2, rfl, hcj⟩ := hic.out (by intro e; rw [e] at hkl; simp at hkl)
          obtain ⟨k0, k1, k2, k3⟩ := hcj k hkl
          replace k0 := keep k0 hR.to
          replace k1 := keep k1 hR.to
          replace k2 := keep k2 hR.to
          replace k3 := keep k3 hR.to
          have hadk := had.out _ (List.getElem_mem hkl)
          obtain ⟨hqn, hq0, hq1⟩ := hre.out _ (List.getElem_mem hkl)
          have hsn : relocO (layP l).begs d b (C ++ d.code) (d.relocs.take (k + 1)) = addN (relocO (layP l).begs d b (C ++ d.code) (d.relocs.take k)) (b + d.relocs[k].at'.toNat) (((layP l).begs (askedF d d.relocs[k])).getD 0) := by rw [List.take_succ_eq_append_getElem hkl, relocO_snoc]
          rw [hadk] at hsn
          clear hadk hqn hcj
          have hCl : (relocO (layP l).begs d b (C ++ d.code) (d.relocs.take k)).length = b + d.code.length := hR.len.symm
          generalize d.relocs[k] = r at *
          obtain ⟨ra, kd, md, nm⟩ := r
          dsimp only at k0 k1 k2 k3 hq0 hq1 hsn
          obtain ⟨A, rfl⟩ : ∃ A : Nat, ra = (A : Int) := ⟨ra.toNat, (Int.toNat_of_nonneg hq0).symm⟩
          rw [Int.toNat_natCast] at hsn
          obtain ⟨J, hJ⟩ : ∃ J : Nat, J = b + A := ⟨_, rfl⟩
          rw [← hJ] at hsn
          have hJn : J < b + d.code.length := by omega
          have hJn' : (J : Int) < (b : Int) + (d.code.length : Int) := by omega
          have hwJ : IntKind.i64.wrap ((b : Int) + (A : Int)) = (J : Int) := by rw [IntKind.wrap_i64]; omega
          clear hJ
          generalize hC2 : relocO (layP l).begs d b (C ++ d.code) (d.relocs.take k) = C2 at *
          clear hC2
          rw [addN_is (by rw [hCl]; exact hJn)] at hsn
          have hkl' : (k : Int) < (d.relocs.length : Int) := by omega
          have hR2 := hR.alloc (.cells #[.int .i64 (A : Int), .int .i64 kd, .string md, .string nm] 66)
          have hbr := BoxC.new wr #[.int .i64 (A : Int), .int .i64 kd, .string md, .string nm] 66
          have hgw : g5 < wr.heap.size := hR.g2.2
          have hMw : M < wr.heap.size := hR.bM.lt
          clear hR
          have HR2 : Hid (RL w (wr.alloc (.cells #[.int .i64 (A : Int), .int .i64 kd, .string md, .string nm] 66)) M g5 (b + d.code.length) cap5 0 0 C2) := hR2
          have HBR : Hid (BoxC (wr.alloc (.cells #[.int .i64 (A : Int), .int .i64 kd, .string md, .string nm] 66)) wr.heap.size #[.int .i64 (A : Int), .int .i64 kd, .string md, .string nm] 66) := hbr
          have hSt := rStands l _ ⟨(A : Int), kd, md, nm⟩ (wr.alloc (.cells #[.int .i64 (A : Int), .int .i64 kd, .string md, .string nm] 66)) (HOB.out.below hR2.to) HMAY.out (by omega)
          unfold relV at hSt
          dsimp only at hSt
          clear hR2 hbr
          by_cases k1 : kd = 1
          · subst k1
            rw [if_pos rfl] at hsn
            go_wp2
            clear k0 k1 k2 k3 y5' hSt
            generalize wr.alloc (.cells #[.int .i64 (A : Int), .int .i64 1, .string md, .string nm] 66) = W1 at *
            generalize wr.heap.size = B at *
            refine wp_region_held_drew (S := fun W => W.cell? ⟨M, 0, none⟩ = some (.slice (some ⟨g5, 0, none⟩) (b + d.code.length) cap5) ∧ BoxC W B #[.int .i64 (A : Int), .int .i64 1, .string md, .string nm] 66) (by kernel_rfl) ⟨(HR2.out.below (Below.refl _ _).drew).bM.cell 0 rfl, HBR.out.below (Below.refl _ _).drew⟩ (fun hS => ?_)
            have hRW := HR2.out.below (Below.refl W1.heap.size W1).drew
            generalize W1.drew = W at *
            clear HR2 HBR
            refine tkd (i := 0) (v := .pointer (some ⟨M, 0, none⟩) ) rfl rfl (by kernel_rfl) (by kernel_rfl) (by kernel_rfl) (fun _ _ _ h => h) (Or.inl ⟨by rfl, fun wq hSw => by skip; go_simp⟩) hS ?_
            simp only [List.setIfInBounds_toArray, List.set_cons_zero, List.set_cons_succ]
            refine tkd (i := 1) (v := .slice (some ⟨g5, 0, none⟩) (b + d.code.length) cap5 ) rfl rfl (by kernel_rfl) (by kernel_rfl) (by kernel_rfl) (fun _ _ _ h => h) (Or.inl ⟨by rfl, fun wq hSw => by have m := hSw.1; go_simp⟩) hS ?_
            simp only [List.setIfInBounds_toArray, List.set_cons_zero, List.set_cons_succ]
            refine tkd (i := 2) (v := .int .i64 (b : Int) ) rfl rfl (by kernel_rfl) (by kernel_rfl) (by kernel_rfl) (fun _ _ _ h => h) (Or.inl ⟨by rfl, fun wq hSw => by skip; go_simp⟩) hS ?_
            simp only [List.setIfInBounds_toArray, List.set_cons_zero, List.set_cons_succ]
            refine tkd (i := 3) (v := .pointer (some ⟨B, 0, none⟩) ) rfl rfl (by kernel_rfl) (by kernel_rfl) (by kernel_rfl) (fun _ _ _ h => h) (Or.inl ⟨by rfl, fun wq hSw => by skip; go_simp⟩) hS ?_
            simp only [List.setIfInBounds_toArray, List.set_cons_zero, List.set_cons_succ]
            refine tkd (i := 4) (v := .int .i64 (A : Int) ) rfl rfl (by kernel_rfl) (by kernel_rfl) (by kernel_rfl) (fun _ _ _ h => h) (Or.inl ⟨by rfl, fun wq hSw => by have m := hSw.2.cell 0 rfl; go_simp⟩) hS ?_
            simp only [List.setIfInBounds_toArray, List.set_cons_zero, List.set_cons_succ]
            refine tkd (i := 5) (v := .int .i64 (J : Int) ) rfl rfl (by kernel_rfl) (by kernel_rfl) (by kernel_rfl) (fun _ _ _ h => h) (Or.inl ⟨by rfl, fun wq hSw => by have m := hwJ; go_simp⟩) hS ?_
            simp only [List.setIfInBounds_toArray, List.set_cons_zero, List.set_cons_succ]
            refine tkd (i := 6) (v := .pointer (some ⟨M, 0, none⟩) ) rfl rfl (by kernel_rfl) (by kernel_rfl) (by kernel_rfl) (fun _ _ _ h => h) (Or.inl ⟨by rfl, fun wq hSw => by skip; go_simp⟩) hS ?_
            simp only [List.setIfInBounds_toArray, List.set_cons_zero, List.set_cons_succ]
            refine tkd (i := 7) (v := .slice (some ⟨g5, 0, none⟩) (b + d.code.length) cap5 ) rfl rfl (by kernel_rfl) (by kernel_rfl) (by kernel_rfl) (fun _ _ _ h => h) (Or.inl ⟨by rfl, fun wq hSw => by have m := hSw.1; go_simp⟩) hS ?_
            simp only [List.setIfInBounds_toArray, List.set_cons_zero, List.set_cons_succ]
            refine tkd (i := 8) (v := .int .i64 (b : Int) ) rfl rfl (by kernel_rfl) (by kernel_rfl) (by kernel_rfl) (fun _ _ _ h => h) (Or.inl ⟨by rfl, fun wq hSw => by skip; go_simp⟩) hS ?_
            simp only [List.setIfInBounds_toArray, List.set_cons_zero, List.set_cons_succ]
            refine tkd (i := 9) (v := .pointer (some ⟨B, 0, none⟩) ) rfl rfl (by kernel_rfl) (by kernel_rfl) (by kernel_rfl) (fun _ _ _ h => h) (Or.inl ⟨by rfl, fun wq hSw => by skip; go_simp⟩) hS ?_
            simp only [List.setIfInBounds_toArray, List.set_cons_zero, List.set_cons_succ]
            refine tkd (i := 10) (v := .int .i64 (A : Int) ) rfl rfl (by kernel_rfl) (by kernel_rfl) (by kernel_rfl) (fun _ _ _ h => h) (Or.inl ⟨by rfl, fun wq hSw => by have m := hSw.2.cell 0 rfl; go_simp⟩) hS ?_
            simp only [List.setIfInBounds_toArray, List.set_cons_zero, List.set_cons_succ]
            refine tkd (i := 11) (v := .int .i64 (J : Int) ) rfl rfl (by kernel_rfl) (by kernel_rfl) (by kernel_rfl) (fun _ _ _ h => h) (Or.inl ⟨by rfl, fun wq hSw => by have m := hwJ; go_simp⟩) hS ?_
            simp only [List.setIfInBounds_toArray, List.set_cons_zero, List.set_cons_succ]
            refine tkd (i := 12) (v := .pointer (some ⟨g5, J * 5, none⟩) ) rfl rfl (by kernel_rfl) (by kernel_rfl) (by kernel_rfl) (fun _ _ _ h => h) (Or.inl ⟨by rfl, fun wq hSw => by have m := hJn; go_simp⟩) hS ?_
            simp only [List.setIfInBounds_toArray, List.set_cons_zero, List.set_cons_succ]
            refine tkd (i := 13) (v := .pointer (some ⟨g5, J * 5 + 4, none⟩) ) rfl rfl (by kernel_rfl) (by kernel_rfl) (by kernel_rfl) (fun _ _ _ h => h) (Or.inl ⟨by rfl, fun wq hSw => by skip; go_simp⟩) hS ?_
            simp only [List.setIfInBounds_toArray, List.set_cons_zero, List.set_cons_succ]
            refine tkd (i := 15) (v := .int .i64 (b : Int) ) rfl rfl (by kernel_rfl) (by kernel_rfl) (by kernel_rfl) (fun _ _ _ h => h) (Or.inl ⟨by rfl, fun wq hSw => by skip; go_simp⟩) hS ?_
            simp only [List.setIfInBounds_toArray, List.set_cons_zero, List.set_cons_succ]
            have hz := hRW.cell (i := J) (j := 4) hJn (by decide) rfl
            have hJC : J < C2.length := by rw [hCl]; exact hJn
            generalize hvv : C2[J].n = v0 at hz hsn
            refine wpAnyH_ready (rs := [14]) (by kernel_rfl) (by simp) ?_
            refine AllReadyH.cons rfl (fun K hK => ?_) AllReadyH.nil
            go_simp
            refine hK.out _ _ hS (fun _ => ?_)
            clear hK K
            refine tkd (i := 16) (v := .int .i64 (IntKind.i64.wrap (v0 + (b : Int))) ) rfl rfl (by kernel_rfl) (by kernel_rfl) (by kernel_rfl) (fun _ _ _ h => h) (Or.inl ⟨by rfl, fun wq hSw => by skip; go_simp⟩) hS ?_
            simp only [List.setIfInBounds_toArray, List.set_cons_zero, List.set_cons_succ]
            refine tkd (i := 17) (v := .pointer (some ⟨g5, J * 5, none⟩) ) rfl rfl (by kernel_rfl) (by kernel_rfl) (by kernel_rfl) (fun _ _ _ h => h) (Or.inl ⟨by rfl, fun wq hSw => by have m := hJn; go_simp⟩) hS ?_
            simp only [List.setIfInBounds_toArray, List.set_cons_zero, List.set_cons_succ]
            refine tkd (i := 18) (v := .pointer (some ⟨g5, J * 5 + 4, none⟩) ) rfl rfl (by kernel_rfl) (by kernel_rfl) (by kernel_rfl) (fun _ _ _ h => h) (Or.inl ⟨by rfl, fun wq hSw => by skip; go_simp⟩) hS ?_
            simp only [List.setIfInBounds_toArray, List.set_cons_zero, List.set_cons_succ]
            have hfz := hRW.row.frozenAt (J * 5 + 4)
            have hR3 := hRW.setN (i := J) hJn (IntKind.i64.wrap (v0 + (b : Int)))
            have hgw := mac.grown_set W g5 (J * 5 + 4) (.int .i64 (IntKind.i64.wrap (v0 + (b : Int))))
            replace hR3 : Hid (RL _ _ _ _ _ _ _ _ _) := hR3
            refine wpAnyH_ready (rs := [19]) (by kernel_rfl) (by simp) ?_
            refine AllReadyH.cons rfl (fun K hK => ?_) AllReadyH.nil
            go_simp
            replace hS : (W.setCell ⟨g5, J * 5 + 4, none⟩ (.int .i64 (IntKind.i64.wrap (v0 + (b : Int))))).cell? ⟨M, 0, none⟩ = some (.slice (some ⟨g5, 0, none⟩) (b + d.code.length) cap5) ∧ BoxC (W.setCell ⟨g5, J * 5 + 4, none⟩ (.int .i64 (IntKind.i64.wrap (v0 + (b : Int))))) B #[.int .i64 (A : Int), .int .i64 1, .string md, .string nm] 66 := ⟨hR3.out.bM.cell 0 rfl, hS.2.grown hgw (fun e => by have := Option.some.inj e; omega)⟩
            refine hK.out _ _ hS (fun _ => ?_)
            clear hK K hgw hz hfz hRW
            have HR4 : Hid (RL w (W.setCell ⟨g5, J * 5 + 4, none⟩ (.int .i64 (IntKind.i64.wrap (v0 + (b : Int))))) M g5 (b + d.code.length) cap5 0 0 (relocO (layP l).begs d b (C ++ d.code) (d.relocs.take (k + 1)))) := by show RL _ _ _ _ _ _ _ _ _; rw [hsn]; exact hR3.out
            clear hR3 hsn hvv
            generalize (W.setCell ⟨g5, J * 5 + 4, none⟩ (.int .i64 (IntKind.i64.wrap (v0 + (b : Int))))) = W9 at *
            refine wpAnyH_done (by kernel_rfl) ?_ _
            go_wp2
            go_roundw
            case rel => exact ⟨k + 1, by omega, by go_num, HR4.out⟩
            case measure => simp [intOf]; omega
          · rw [if_neg k1] at hsn
            have k1b : (kd != 1) = true := by simp [k1]
            generalize standsF l kd md nm = AD at *
            go_wp2_with (fail)
            refine hSt.mono ?_
            rintro e W1 ⟨rfl, hb1⟩
            replace HR2 : Hid (RL w W1 M g5 (b + d.code.length) cap5 0 0 C2) := HR2.out.below hb1
            replace HBR : Hid (BoxC W1 wr.heap.size #[.int .i64 (A : Int), .int .i64 kd, .string md, .string nm] 66) := HBR.out.below hb1
            clear hb1 hSt k0 k2 k3 y5'
            generalize wr.heap.size = B at *
            go_wp2
            refine wp_region_held_drew (S := fun W => W.cell? ⟨M, 0, none⟩ = some (.slice (some ⟨g5, 0, none⟩) (b + d.code.length) cap5) ∧ BoxC W B #[.int .i64 (A : Int), .int .i64 kd, .string md, .string nm] 66) (by kernel_rfl) ⟨(HR2.out.below (Below.refl _ _).drew).bM.cell 0 rfl, HBR.out.below (Below.refl _ _).drew⟩ (fun hS => ?_)
            have hRW := HR2.out.below (Below.refl W1.heap.size W1).drew
            generalize W1.drew = W at *
            clear HR2 HBR
            refine tkd (i := 0) (v := .pointer (some ⟨M, 0, none⟩) ) rfl rfl (by kernel_rfl) (by kernel_rfl) (by kernel_rfl) (fun _ _ _ h => h) (Or.inl ⟨by rfl, fun wq hSw => by skip; go_simp⟩) hS ?_
            simp only [List.setIfInBounds_toArray, List.set_cons_zero, List.set_cons_succ]
            refine tkd (i := 1) (v := .slice (some ⟨g5, 0, none⟩) (b + d.code.length) cap5 ) rfl rfl (by kernel_rfl) (by kernel_rfl) (by kernel_rfl) (fun _ _ _ h => h) (Or.inl ⟨by rfl, fun wq hSw => by have m := hSw.1; go_simp⟩) hS ?_
            simp only [List.setIfInBounds_toArray, List.set_cons_zero, List.set_cons_succ]
            refine tkd (i := 2) (v := .int .i64 (b : Int) ) rfl rfl (by kernel_rfl) (by kernel_rfl) (by kernel_rfl) (fun _ _ _ h => h) (Or.inl ⟨by rfl, fun wq hSw => by skip; go_simp⟩) hS ?_
            simp only [List.setIfInBounds_toArray, List.set_cons_zero, List.set_cons_succ]
            refine tkd (i := 3) (v := .pointer (some ⟨B, 0, none⟩) ) rfl rfl (by kernel_rfl) (by kernel_rfl) (by kernel_rfl) (fun _ _ _ h => h) (Or.inl ⟨by rfl, fun wq hSw => by skip; go_simp⟩) hS ?_
            simp only [List.setIfInBounds_toArray, List.set_cons_zero, List.set_cons_succ]
            refine tkd (i := 4) (v := .int .i64 (A : Int) ) rfl rfl (by kernel_rfl) (by kernel_rfl) (by kernel_rfl) (fun _ _ _ h => h) (Or.inl ⟨by rfl, fun wq hSw => by have m := hSw.2.cell 0 rfl; go_simp⟩) hS ?_
            simp only [List.setIfInBounds_toArray, List.set_cons_zero, List.set_cons_succ]
            refine tkd (i := 5) (v := .int .i64 (J : Int) ) rfl rfl (by kernel_rfl) (by kernel_rfl) (by kernel_rfl) (fun _ _ _ h => h) (Or.inl ⟨by rfl, fun wq hSw => by have m := hwJ; go_simp⟩) hS ?_
            simp only [List.setIfInBounds_toArray, List.set_cons_zero, List.set_cons_succ]
            refine tkd (i := 6) (v := .pointer (some ⟨M, 0, none⟩) ) rfl rfl (by kernel_rfl) (by kernel_rfl) (by kernel_rfl) (fun _ _ _ h => h) (Or.inl ⟨by rfl, fun wq hSw => by skip; go_simp⟩) hS ?_
            simp only [List.setIfInBounds_toArray, List.set_cons_zero, List.set_cons_succ]
            refine tkd (i := 7) (v := .slice (some ⟨g5, 0, none⟩) (b + d.code.length) cap5 ) rfl rfl (by kernel_rfl) (by kernel_rfl) (by kernel_rfl) (fun _ _ _ h => h) (Or.inl ⟨by rfl, fun wq hSw => by have m := hSw.1; go_simp⟩) hS ?_
            simp only [List.setIfInBounds_toArray, List.set_cons_zero, List.set_cons_succ]
            refine tkd (i := 8) (v := .int .i64 (b : Int) ) rfl rfl (by kernel_rfl) (by kernel_rfl) (by kernel_rfl) (fun _ _ _ h => h) (Or.inl ⟨by rfl, fun wq hSw => by skip; go_simp⟩) hS ?_
            simp only [List.setIfInBounds_toArray, List.set_cons_zero, List.set_cons_succ]
            refine tkd (i := 9) (v := .pointer (some ⟨B, 0, none⟩) ) rfl rfl (by kernel_rfl) (by kernel_rfl) (by kernel_rfl) (fun _ _ _ h => h) (Or.inl ⟨by rfl, fun wq hSw => by skip; go_simp⟩) hS ?_
            simp only [List.setIfInBounds_toArray, List.set_cons_zero, List.set_cons_succ]
            refine tkd (i := 10) (v := .int .i64 (A : Int) ) rfl rfl (by kernel_rfl) (by kernel_rfl) (by kernel_rfl) (fun _ _ _ h => h) (Or.inl ⟨by rfl, fun wq hSw => by have m := hSw.2.cell 0 rfl; go_simp⟩) hS ?_
            simp only [List.setIfInBounds_toArray, List.set_cons_zero, List.set_cons_succ]
            refine tkd (i := 11) (v := .int .i64 (J : Int) ) rfl rfl (by kernel_rfl) (by kernel_rfl) (by kernel_rfl) (fun _ _ _ h => h) (Or.inl ⟨by rfl, fun wq hSw => by have m := hwJ; go_simp⟩) hS ?_
            simp only [List.setIfInBounds_toArray, List.set_cons_zero, List.set_cons_succ]
            refine tkd (i := 12) (v := .pointer (some ⟨g5, J * 5, none⟩) ) rfl rfl (by kernel_rfl) (by kernel_rfl) (by kernel_rfl) (fun _ _ _ h => h) (Or.inl ⟨by rfl, fun wq hSw => by have m := hJn; go_simp⟩) hS ?_
            simp only [List.setIfInBounds_toArray, List.set_cons_zero, List.set_cons_succ]
            refine tkd (i := 13) (v := .pointer (some ⟨g5, J * 5 + 4, none⟩) ) rfl rfl (by kernel_rfl) (by kernel_rfl) (by kernel_rfl) (fun _ _ _ h => h) (Or.inl ⟨by rfl, fun wq hSw => by skip; go_simp⟩) hS ?_
            simp only [List.setIfInBounds_toArray, List.set_cons_zero, List.set_cons_succ]
            refine tkd (i := 15) (v := .int .i64 AD ) rfl rfl (by kernel_rfl) (by kernel_rfl) (by kernel_rfl) (fun _ _ _ h => h) (Or.inl ⟨by rfl, fun wq hSw => by skip; go_simp⟩) hS ?_
            simp only [List.setIfInBounds_toArray, List.set_cons_zero, List.set_cons_succ]
            have hz := hRW.cell (i := J) (j := 4) hJn (by decide) rfl
            have hJC : J < C2.length := by rw [hCl]; exact hJn
            generalize hvv : C2[J].n = v0 at hz hsn
            refine wpAnyH_ready (rs := [14]) (by kernel_rfl) (by simp) ?_
            refine AllReadyH.cons rfl (fun K hK => ?_) AllReadyH.nil
            go_simp
            refine hK.out _ _ hS (fun _ => ?_)
            clear hK K
            refine tkd (i := 16) (v := .int .i64 (IntKind.i64.wrap (v0 + AD)) ) rfl rfl (by kernel_rfl) (by kernel_rfl) (by kernel_rfl) (fun _ _ _ h => h) (Or.inl ⟨by rfl, fun wq hSw => by skip; go_simp⟩) hS ?_
            simp only [List.setIfInBounds_toArray, List.set_cons_zero, List.set_cons_succ]
            refine tkd (i := 17) (v := .pointer (some ⟨g5, J * 5, none⟩) ) rfl rfl (by kernel_rfl) (by kernel_rfl) (by kernel_rfl) (fun _ _ _ h => h) (Or.inl ⟨by rfl, fun wq hSw => by have m := hJn; go_simp⟩) hS ?_
            simp only [List.setIfInBounds_toArray, List.set_cons_zero, List.set_cons_succ]
            refine tkd (i := 18) (v := .pointer (some ⟨g5, J * 5 + 4, none⟩) ) rfl rfl (by kernel_rfl) (by kernel_rfl) (by kernel_rfl) (fun _ _ _ h => h) (Or.inl ⟨by rfl, fun wq hSw => by skip; go_simp⟩) hS ?_
            simp only [List.setIfInBounds_toArray, List.set_cons_zero, List.set_cons_succ]
            have hfz := hRW.row.frozenAt (J * 5 + 4)
            have hR3 := hRW.setN (i := J) hJn (IntKind.i64.wrap (v0 + AD))
            have hgw := mac.grown_set W g5 (J * 5 + 4) (.int .i64 (IntKind.i64.wrap (v0 + AD)))
            replace hR3 : Hid (RL _ _ _ _ _ _ _ _ _) := hR3
            refine wpAnyH_ready (rs := [19]) (by kernel_rfl) (by simp) ?_
            refine AllReadyH.cons rfl (fun K hK => ?_) AllReadyH.nil
            go_simp
            replace hS : (W.setCell ⟨g5, J * 5 + 4, none⟩ (.int .i64 (IntKind.i64.wrap (v0 + AD)))).cell? ⟨M, 0, none⟩ = some (.slice (some ⟨g5, 0, none⟩) (b + d.code.length) cap5) ∧ BoxC (W.setCell ⟨g5, J * 5 + 4, none⟩ (.int .i64 (IntKind.i64.wrap (v0 + AD)))) B #[.int .i64 (A : Int), .int .i64 kd, .string md, .string nm] 66 := ⟨hR3.out.bM.cell 0 rfl, hS.2.grown hgw (fun e => by have := Option.some.inj e; omega)⟩
            refine hK.out _ _ hS (fun _ => ?_)
            clear hK K hgw hz hfz hRW
            have HR4 : Hid (RL w (W.setCell ⟨g5, J * 5 + 4, none⟩ (.int .i64 (IntKind.i64.wrap (v0 + AD)))) M g5 (b + d.code.length) cap5 0 0 (relocO (layP l).begs d b (C ++ d.code) (d.relocs.take (k + 1)))) := by show RL _ _ _ _ _ _ _ _ _; rw [hsn]; exact hR3.out
            clear hR3 hsn hvv
            generalize (W.setCell ⟨g5, J * 5 + 4, none⟩ (.int .i64 (IntKind.i64.wrap (v0 + AD)))) = W9 at *
            refine wpAnyH_done (by kernel_rfl) ?_ _
            go_wp2
            go_roundw
            case rel => exact ⟨k + 1, by omega, by go_num, HR4.out⟩
            case measure => simp [intOf]; omega
        · have HN : Hid (RL w wr M g5 (baseOf l (i + 1)) cap5 0 0 (refC l LO HI MA (i + 1))) := by
            rw [List.take_of_length_le (by omega)] at hR
            show RL _ _ _ _ _ _ _ _ _
            rw [hnx.out.1, hnx.out.2]
            exact hR
          clear hR
          go_wp2
          exact ⟨⟨i + 1, g5, cap5, by omega, by go_num, by rw [HL1.out], by rw [HL2.out], HN.out⟩, by simp [intOf]; omega⟩
    · obtain rfl : i = l.length := by omega
      rw [List.take_length] at *
      rw [HALL.out] at hR
      have m1 := hR.bM.cell 1 rfl
      have f1 := hR.bM.fz 1
      have m2 := hR.bM.cell 2 rfl
      have f2 := hR.bM.fz 2
      obtain ⟨n, hn⟩ : ∃ n, n = baseOf l l.length := ⟨_, rfl⟩
      rw [← hn] at hR HRM hcb HCN
      obtain ⟨ml, hml⟩ : ∃ ml, ml = lowM l := ⟨_, rfl⟩
      obtain ⟨mh, hmh⟩ : ∃ mh, mh = highM l := ⟨_, rfl⟩
      rw [← hml] at hlM HLOP ⊢
      rw [← hmh] at hhM HLOP ⊢
      clear hml hmh hi hlt HNX HAD HALL
      have q1 : IntKind.i64.wrap (31 * ml) = 31 * ml := by rw [IntKind.wrap_i64]; omega
      have q2 : IntKind.i64.wrap (31 * mh) = 31 * mh := by rw [IntKind.wrap_i64]; omega
      have q3 : IntKind.i64.wrap (LO + 31 * ml) = lowP l := by rw [IntKind.wrap_i64, HLOP.out.1]; omega
      have q4 : IntKind.i64.wrap (HI + 31 * mh) = highP l := by rw [IntKind.wrap_i64, HLOP.out.2]; omega
      obtain ⟨LP, hLP⟩ : ∃ LP, LP = lowP l := ⟨_, rfl⟩
      obtain ⟨HP, hHP⟩ : ∃ HP, HP = highP l := ⟨_, rfl⟩
      have HLH : Hid (LP = lowP l ∧ HP = highP l) := ⟨hLP, hHP⟩
      rw [← hLP] at q3 HRM
      rw [← hHP] at q4 HRM
      clear hLP hHP
      replace hR := (hR.setLo LP).setHi HP
      have HR0 : Hid (RL w ((wr.setCell ⟨M, 1, none⟩ (.int .i64 LP)).setCell ⟨M, 2, none⟩ (.int .i64 HP)) M g n cap LP HP (codeP l)) := hR
      clear hR HLOP
      go_upto_region 29 with fail
      generalize ((wr.setCell ⟨M, 1, none⟩ (.int .i64 LP)).setCell ⟨M, 2, none⟩ (.int .i64 HP)) = W9 at *
      clear m1 m2 f1 f2 q1 q2 q3 q4
      have HQ : Hid (l.length ≤ 6 ∧ n ≤ 4 + 20000 * l.length) := ⟨by omega, hcb⟩
      clear hn hl6 hcap hb3 hb4 hcb hlM hhM hll hs3 hM2
      have hR := HR0.out
      have m0 := hR.bM.cell 0 rfl
      have m1 := hR.bM.cell 1 rfl
      have m2 := hR.bM.cell 2 rfl
      by_cases h1 : 20000 < n
      · have h1' : 20000 < (n : Int) := by omega
        have HR : Hid (T = some (0, 1, 0)) := by show _ = _; rw [hT.out, HRM.out, decide_eq_true h1]; rfl
        have o0 := hR.bI.cell 0 rfl
        have o1 := hR.bI.cell 1 rfl
        have o2 := hR.bI.cell 2 rfl
        have f0 := hR.bI.fz 0
        have f1 := hR.bI.fz 1
        have f2 := hR.bI.fz 2
        have r0 := hR.bT.cell 0 rfl
        have r1 := hR.bT.cell 1 rfl
        have r2 := hR.bT.cell 2 rfl
        have t0 := hR.bT.fz 0
        have t1 := hR.bT.fz 1
        have t2 := hR.bT.fz 2
        have HOI : Hid (BoxC ((((((W9.setCell ⟨w.heap.size, 0, none⟩ (.slice none 0 0)).setCell ⟨w.heap.size, 1, none⟩ (.int .i64 0)).setCell ⟨w.heap.size, 2, none⟩ (.int .i64 0)).setCell ⟨w.heap.size + 1, 0, none⟩ (.int .i64 0)).setCell ⟨w.heap.size + 1, 1, none⟩ (.int .i64 1)).setCell ⟨w.heap.size + 1, 2, none⟩ (.int .i64 0)) w.heap.size #[(.slice none 0 0), (.int .i64 0), (.int .i64 0)] 44) := by
          have := ((hR.bI.set 0 (.slice none 0 0)).set 1 (.int .i64 0)).set 2 (.int .i64 0)
          show BoxC _ _ _ _
          refine BoxC.set' (by omega) (BoxC.set' (by omega) (BoxC.set' (by omega) ?_))
          simpa using this
        have HOT : Hid (BoxC ((((((W9.setCell ⟨w.heap.size, 0, none⟩ (.slice none 0 0)).setCell ⟨w.heap.size, 1, none⟩ (.int .i64 0)).setCell ⟨w.heap.size, 2, none⟩ (.int .i64 0)).setCell ⟨w.heap.size + 1, 0, none⟩ (.int .i64 0)).setCell ⟨w.heap.size + 1, 1, none⟩ (.int .i64 1)).setCell ⟨w.heap.size + 1, 2, none⟩ (.int .i64 0)) (w.heap.size + 1) #[(.int .i64 0), (.int .i64 1), (.int .i64 0)] 46) := by
          have := (((BoxC.set' (b := w.heap.size) (i := 2) (u := (.int .i64 0)) (by omega) (BoxC.set' (b := w.heap.size) (i := 1) (u := (.int .i64 0)) (by omega) (BoxC.set' (b := w.heap.size) (i := 0) (u := (.slice none 0 0)) (by omega) hR.bT))).set 0 (.int .i64 0)).set 1 (.int .i64 1)).set 2 (.int .i64 0)
          show BoxC _ _ _ _
          simpa using this
        have HOW : Hid (Below w.heap.size w ((((((W9.setCell ⟨w.heap.size, 0, none⟩ (.slice none 0 0)).setCell ⟨w.heap.size, 1, none⟩ (.int .i64 0)).setCell ⟨w.heap.size, 2, none⟩ (.int .i64 0)).setCell ⟨w.heap.size + 1, 0, none⟩ (.int .i64 0)).setCell ⟨w.heap.size + 1, 1, none⟩ (.int .i64 1)).setCell ⟨w.heap.size + 1, 2, none⟩ (.int .i64 0))) :=
          (((((hR.to.setCell (p := ⟨w.heap.size, 0, none⟩) (Nat.le_refl _) _).setCell (p := ⟨w.heap.size, 1, none⟩) (Nat.le_refl _) _).setCell (p := ⟨w.heap.size, 2, none⟩) (Nat.le_refl _) _).setCell (p := ⟨w.heap.size + 1, 0, none⟩) (Nat.le_succ _) _).setCell (p := ⟨w.heap.size + 1, 1, none⟩) (Nat.le_succ _) _).setCell (p := ⟨w.heap.size + 1, 2, none⟩) (Nat.le_succ _) _
        clear hR HR0
        go_wp2
        refine bodyPost_ret (res_rlink _ _ _ HOI.out HOT.out c3 c3t) rfl ?_
        exact ⟨HOW.out, none, 0, 0, 0, 0, [], by rw [HR.out]; rfl, rfl, nil_code _, by rw [HR.out]; rfl⟩
      have h1' : ¬ 20000 < (n : Int) := by omega
      have d1 : decide (20000 < (n : Int)) = false := decide_eq_false h1'
      by_cases h2 : 20000 < LP
      · have HR : Hid (T = some (0, 1, 0)) := by show _ = _; rw [hT.out, HRM.out, decide_eq_true h2, Bool.true_or, Bool.or_true]; rfl
        have o0 := hR.bI.cell 0 rfl
        have o1 := hR.bI.cell 1 rfl
        have o2 := hR.bI.cell 2 rfl
        have f0 := hR.bI.fz 0
        have f1 := hR.bI.fz 1
        have f2 := hR.bI.fz 2
        have r0 := hR.bT.cell 0 rfl
        have r1 := hR.bT.cell 1 rfl
        have r2 := hR.bT.cell 2 rfl
        have t0 := hR.bT.fz 0
        have t1 := hR.bT.fz 1
        have t2 := hR.bT.fz 2
        have HOI : Hid (BoxC ((((((W9.setCell ⟨w.heap.size, 0, none⟩ (.slice none 0 0)).setCell ⟨w.heap.size, 1, none⟩ (.int .i64 0)).setCell ⟨w.heap.size, 2, none⟩ (.int .i64 0)).setCell ⟨w.heap.size + 1, 0, none⟩ (.int .i64 0)).setCell ⟨w.heap.size + 1, 1, none⟩ (.int .i64 1)).setCell ⟨w.heap.size + 1, 2, none⟩ (.int .i64 0)) w.heap.size #[(.slice none 0 0), (.int .i64 0), (.int .i64 0)] 44) := by
          have := ((hR.bI.set 0 (.slice none 0 0)).set 1 (.int .i64 0)).set 2 (.int .i64 0)
          show BoxC _ _ _ _
          refine BoxC.set' (by omega) (BoxC.set' (by omega) (BoxC.set' (by omega) ?_))
          simpa using this
        have HOT : Hid (BoxC ((((((W9.setCell ⟨w.heap.size, 0, none⟩ (.slice none 0 0)).setCell ⟨w.heap.size, 1, none⟩ (.int .i64 0)).setCell ⟨w.heap.size, 2, none⟩ (.int .i64 0)).setCell ⟨w.heap.size + 1, 0, none⟩ (.int .i64 0)).setCell ⟨w.heap.size + 1, 1, none⟩ (.int .i64 1)).setCell ⟨w.heap.size + 1, 2, none⟩ (.int .i64 0)) (w.heap.size + 1) #[(.int .i64 0), (.int .i64 1), (.int .i64 0)] 46) := by
          have := (((BoxC.set' (b := w.heap.size) (i := 2) (u := (.int .i64 0)) (by omega) (BoxC.set' (b := w.heap.size) (i := 1) (u := (.int .i64 0)) (by omega) (BoxC.set' (b := w.heap.size) (i := 0) (u := (.slice none 0 0)) (by omega) hR.bT))).set 0 (.int .i64 0)).set 1 (.int .i64 1)).set 2 (.int .i64 0)
          show BoxC _ _ _ _
          simpa using this
        have HOW : Hid (Below w.heap.size w ((((((W9.setCell ⟨w.heap.size, 0, none⟩ (.slice none 0 0)).setCell ⟨w.heap.size, 1, none⟩ (.int .i64 0)).setCell ⟨w.heap.size, 2, none⟩ (.int .i64 0)).setCell ⟨w.heap.size + 1, 0, none⟩ (.int .i64 0)).setCell ⟨w.heap.size + 1, 1, none⟩ (.int .i64 1)).setCell ⟨w.heap.size + 1, 2, none⟩ (.int .i64 0))) :=
          (((((hR.to.setCell (p := ⟨w.heap.size, 0, none⟩) (Nat.le_refl _) _).setCell (p := ⟨w.heap.size, 1, none⟩) (Nat.le_refl _) _).setCell (p := ⟨w.heap.size, 2, none⟩) (Nat.le_refl _) _).setCell (p := ⟨w.heap.size + 1, 0, none⟩) (Nat.le_succ _) _).setCell (p := ⟨w.heap.size + 1, 1, none⟩) (Nat.le_succ _) _).setCell (p := ⟨w.heap.size + 1, 2, none⟩) (Nat.le_succ _) _
        clear hR HR0
        go_wp2
        refine bodyPost_ret (res_rlink _ _ _ HOI.out HOT.out c3 c3t) rfl ?_
        exact ⟨HOW.out, none, 0, 0, 0, 0, [], by rw [HR.out]; rfl, rfl, nil_code _, by rw [HR.out]; rfl⟩
      have d2 : decide (20000 < LP) = false := decide_eq_false h2
      by_cases h3 : 20000 < HP
      · have HR : Hid (T = some (0, 1, 0)) := by show _ = _; rw [hT.out, HRM.out, decide_eq_true h3, Bool.or_true, Bool.or_true]; rfl
        have o0 := hR.bI.cell 0 rfl
        have o1 := hR.bI.cell 1 rfl
        have o2 := hR.bI.cell 2 rfl
        have f0 := hR.bI.fz 0
        have f1 := hR.bI.fz 1
        have f2 := hR.bI.fz 2
        have r0 := hR.bT.cell 0 rfl
        have r1 := hR.bT.cell 1 rfl
        have r2 := hR.bT.cell 2 rfl
        have t0 := hR.bT.fz 0
        have t1 := hR.bT.fz 1
        have t2 := hR.bT.fz 2
        have HOI : Hid (BoxC ((((((W9.setCell ⟨w.heap.size, 0, none⟩ (.slice none 0 0)).setCell ⟨w.heap.size, 1, none⟩ (.int .i64 0)).setCell ⟨w.heap.size, 2, none⟩ (.int .i64 0)).setCell ⟨w.heap.size + 1, 0, none⟩ (.int .i64 0)).setCell ⟨w.heap.size + 1, 1, none⟩ (.int .i64 1)).setCell ⟨w.heap.size + 1, 2, none⟩ (.int .i64 0)) w.heap.size #[(.slice none 0 0), (.int .i64 0), (.int .i64 0)] 44) := by
          have := ((hR.bI.set 0 (.slice none 0 0)).set 1 (.int .i64 0)).set 2 (.int .i64 0)
          show BoxC _ _ _ _
          refine BoxC.set' (by omega) (BoxC.set' (by omega) (BoxC.set' (by omega) ?_))
          simpa using this
        have HOT : Hid (BoxC ((((((W9.setCell ⟨w.heap.size, 0, none⟩ (.slice none 0 0)).setCell ⟨w.heap.size, 1, none⟩ (.int .i64 0)).setCell ⟨w.heap.size, 2, none⟩ (.int .i64 0)).setCell ⟨w.heap.size + 1, 0, none⟩ (.int .i64 0)).setCell ⟨w.heap.size + 1, 1, none⟩ (.int .i64 1)).setCell ⟨w.heap.size + 1, 2, none⟩ (.int .i64 0)) (w.heap.size + 1) #[(.int .i64 0), (.int .i64 1), (.int .i64 0)] 46) := by
          have := (((BoxC.set' (b := w.heap.size) (i := 2) (u := (.int .i64 0)) (by omega) (BoxC.set' (b := w.heap.size) (i := 1) (u := (.int .i64 0)) (by omega) (BoxC.set' (b := w.heap.size) (i := 0) (u := (.slice none 0 0)) (by omega) hR.bT))).set 0 (.int .i64 0)).set 1 (.int .i64 1)).set 2 (.int .i64 0)
          show BoxC _ _ _ _
          simpa using this
        have HOW : Hid (Below w.heap.size w ((((((W9.setCell ⟨w.heap.size, 0, none⟩ (.slice none 0 0)).setCell ⟨w.heap.size, 1, none⟩ (.int .i64 0)).setCell ⟨w.heap.size, 2, none⟩ (.int .i64 0)).setCell ⟨w.heap.size + 1, 0, none⟩ (.int .i64 0)).setCell ⟨w.heap.size + 1, 1, none⟩ (.int .i64 1)).setCell ⟨w.heap.size + 1, 2, none⟩ (.int .i64 0))) :=
          (((((hR.to.setCell (p := ⟨w.heap.size, 0, none⟩) (Nat.le_refl _) _).setCell (p := ⟨w.heap.size, 1, none⟩) (Nat.le_refl _) _).setCell (p := ⟨w.heap.size, 2, none⟩) (Nat.le_refl _) _).setCell (p := ⟨w.heap.size + 1, 0, none⟩) (Nat.le_succ _) _).setCell (p := ⟨w.heap.size + 1, 1, none⟩) (Nat.le_succ _) _).setCell (p := ⟨w.heap.size + 1, 2, none⟩) (Nat.le_succ _) _
        clear hR HR0
        go_wp2
        refine bodyPost_ret (res_rlink _ _ _ HOI.out HOT.out c3 c3t) rfl ?_
        exact ⟨HOW.out, none, 0, 0, 0, 0, [], by rw [HR.out]; rfl, rfl, nil_code _, by rw [HR.out]; rfl⟩
      have d3 : decide (20000 < HP) = false := decide_eq_false h3
      have HT : Hid (T = ordT (codeP l) (baseOf l 0) ((0 : Nat) : Int) (l.drop 0)) := by show _ = _; rw [hT.out, HRM.out, decide_eq_false h1, d2, d3]; rfl
      clear hT HRM
      have hcl : (codeP l).length = n := hR.len.symm
      clear hR
      go_wp2
      clear m0 m1 m2 d1 d2 d3
      go_loopw [17] (fun t wr => ∃ i : Nat, i ≤ l.length ∧ t = .int .i64 i ∧ RL w wr M g n cap LP HP (codeP l) ∧ Hid (T = ordT (codeP l) (baseOf l i) (i : Int) (l.drop i))) (fun t _ => l.length - (intOf t).toNat)
      case atStart => exact ⟨0, Nat.zero_le _, rfl, HR0.out, HT⟩
      case round =>
        clear HR0 HT
        obtain ⟨i, hi, rfl, hR, HT⟩ := hrel
        have hl6' := HQ.out.1
        by_cases hlt : i < l.length
        · obtain ⟨x, hat, hcs⟩ := hcc.out i hlt
          have y4 := hcs.c4
          obtain ⟨_, _, hcv, _, _⟩ := hat.code
          rw [hcv] at y4
          clear hcv hat hcs
          obtain ⟨hcn1, hcn2, hcn3⟩ := HCN.out i hlt
          have HI2 : Hid (T = (ordO (codeP l).length (i : Int) ((0 : Nat) : Int) ((((codeP l).drop (baseOf l i)).take l[i].code.length).drop 0)).or (ordT (codeP l) (baseOf l (i + 1)) ((i + 1 : Nat) : Int) (l.drop (i + 1)))) := by show _ = _; rw [HT.out, ordT_at hlt]; rfl
          clear HT
          have hBs := rBase l _ i 1 wr (HOB.out.below hR.to) hi HMAY.out HQ.out.1
          rw [base_code] at hBs
          generalize l[i] = d at *
          obtain ⟨T3, hT3⟩ : ∃ T3, T3 = ordT (codeP l) (baseOf l (i + 1)) ((i + 1 : Nat) : Int) (l.drop (i + 1)) := ⟨_, rfl⟩
          rw [← hT3] at HI2
          replace hT3 : Hid (T3 = ordT (codeP l) (baseOf l (i + 1)) ((i + 1 : Nat) : Int) (l.drop (i + 1))) := hT3
          generalize baseOf l i = b at *
          obtain ⟨sub, hsub⟩ : ∃ sub, sub = ((codeP l).drop b).take d.code.length := ⟨_, rfl⟩
          have hsl : sub.length = d.code.length := by rw [hsub, List.length_take, List.length_drop]; omega
          have hsat : Hid (∀ k (hk : k < sub.length), b + k < (codeP l).length ∧ ∀ (h2 : b + k < (codeP l).length), sub[k] = (codeP l)[b + k]) := fun k hk => ⟨by omega, fun h2 => by subst hsub; simp⟩
          rw [← hsub] at HI2
          clear hsub
          have HR1 : Hid (RL w wr M g n cap LP HP (codeP l)) := hR
          clear hR
          go_wp2_with (fail)
          refine hBs.mono ?_
          rintro e w1 ⟨rfl, hw1⟩
          subst hw1
          clear hBs
          go_wp2
          go_loopw [19] (fun t wr => ∃ k : Nat, k ≤ sub.length ∧ t = .int .i64 k ∧ RL w wr M g n cap LP HP (codeP l) ∧ Hid (T = (ordO (codeP l).length (i : Int) (k : Int) (sub.drop k)).or T3)) (fun t _ => sub.length - (intOf t).toNat)
          case atStart => exact ⟨0, Nat.zero_le _, rfl, HR1.out, HI2⟩
          case round =>
            clear HR1 HI2
            obtain ⟨k, hk, rfl, hR, HI2⟩ := hrel
            have y4' := keep y4 hR.to
            by_cases hkl : k < sub.length
            · obtain ⟨hs1, hs2⟩ := hsat.out k hkl
              have hkd : k < d.code.length := by omega
              have hkd' : (k : Int) < (d.code.length : Int) := by omega
              rw [ordO_at hkl, hs2 hs1, ← ord_among, hcl] at HI2
              have HJ : Hid (∀ W, RL w W M g n cap LP HP (codeP l) → W.cell? ⟨g, (b + k) * 5, none⟩ = some (.int .i64 (codeP l)[b + k].op) ∧ W.cell? ⟨g, (b + k) * 5 + 1, none⟩ = some (.int .i64 (codeP l)[b + k].a) ∧ W.cell? ⟨g, (b + k) * 5 + 2, none⟩ = some (.int .i64 (codeP l)[b + k].b) ∧ W.cell? ⟨g, (b + k) * 5 + 3, none⟩ = some (.int .i64 (codeP l)[b + k].c) ∧ W.cell? ⟨g, (b + k) * 5 + 4, none⟩ = some (.int .i64 (codeP l)[b + k].n)) := fun W h => ⟨h.cell (i := b + k) (j := 0) (by omega) (by decide) rfl, h.cell (i := b + k) (j := 1) (by omega) (by decide) rfl, h.cell (i := b + k) (j := 2) (by omega) (by decide) rfl, h.cell (i := b + k) (j := 3) (by omega) (by decide) rfl, h.cell (i := b + k) (j := 4) (by omega) (by decide) rfl⟩
              clear hs2
              generalize (codeP l)[b + k] = q at *
              obtain ⟨J, hJ⟩ : ∃ J : Nat, J = b + k := ⟨_, rfl⟩
              rw [← hJ] at HJ
              have hJn : J < n := by omega
              have hwJ : IntKind.i64.wrap ((b : Int) + (k : Int)) = (J : Int) := by rw [IntKind.wrap_i64]; omega
              clear hJ
              obtain ⟨q0, q1, q2, q3, q4⟩ := q
              dsimp only at HJ
              go_wp2
              refine wp_region_held_drew (S := fun W => RL w W M g n cap LP HP (codeP l)) (by kernel_rfl) (hR.below (Below.refl _ _).drew) (fun hS => ?_)
              generalize wr.drew = W at hS ⊢
              clear hR y4'
              refine tkd (i := 0) (v := .pointer (some ⟨M, 0, none⟩) ) rfl rfl (by kernel_rfl) (by kernel_rfl) (by kernel_rfl) (fun _ _ _ h => h) (Or.inl ⟨by rfl, fun wq hSw => by skip; go_simp⟩) hS ?_
              simp only [List.setIfInBounds_toArray, List.set_cons_zero, List.set_cons_succ]
              refine tkd (i := 1) (v := .slice (some ⟨g, 0, none⟩) n cap ) rfl rfl (by kernel_rfl) (by kernel_rfl) (by kernel_rfl) (fun _ _ _ h => h) (Or.inl ⟨by rfl, fun wq hSw => by have m := hSw.bM.cell 0 rfl; go_simp⟩) hS ?_
              simp only [List.setIfInBounds_toArray, List.set_cons_zero, List.set_cons_succ]
              refine tkd (i := 2) (v := .int .i64 (b : Int) ) rfl rfl (by kernel_rfl) (by kernel_rfl) (by kernel_rfl) (fun _ _ _ h => h) (Or.inl ⟨by rfl, fun wq hSw => by skip; go_simp⟩) hS ?_
              simp only [List.setIfInBounds_toArray, List.set_cons_zero, List.set_cons_succ]
              refine tkd (i := 3) (v := .int .i64 (k : Int) ) rfl rfl (by kernel_rfl) (by kernel_rfl) (by kernel_rfl) (fun _ _ _ h => h) (Or.inl ⟨by rfl, fun wq hSw => by skip; go_simp⟩) hS ?_
              simp only [List.setIfInBounds_toArray, List.set_cons_zero, List.set_cons_succ]
              refine tkd (i := 4) (v := .int .i64 (J : Int) ) rfl rfl (by kernel_rfl) (by kernel_rfl) (by kernel_rfl) (fun _ _ _ h => h) (Or.inl ⟨by rfl, fun wq hSw => by have m := hwJ; go_simp⟩) hS ?_
              simp only [List.setIfInBounds_toArray, List.set_cons_zero, List.set_cons_succ]
              refine tkd (i := 5) (v := .pointer (some ⟨g, J * 5, none⟩) ) rfl rfl (by kernel_rfl) (by kernel_rfl) (by kernel_rfl) (fun _ _ _ h => h) (Or.inl ⟨by rfl, fun wq hSw => by have m := hJn; go_simp⟩) hS ?_
              simp only [List.setIfInBounds_toArray, List.set_cons_zero, List.set_cons_succ]
              refine tkd (i := 6) (v := .agg #[.int .i64 q0, .int .i64 q1, .int .i64 q2, .int .i64 q3, .int .i64 q4] ) rfl rfl (by kernel_rfl) (by kernel_rfl) (by kernel_rfl) (fun _ _ _ h => h) (Or.inl ⟨by rfl, fun wq hSw => by obtain ⟨m0, m1, m2, m3, m4⟩ := HJ.out wq hSw; go_simp⟩) hS ?_
              simp only [List.setIfInBounds_toArray, List.set_cons_zero, List.set_cons_succ]
              refine tkd (i := 7) (v := .pointer (some ⟨M, 0, none⟩) ) rfl rfl (by kernel_rfl) (by kernel_rfl) (by kernel_rfl) (fun _ _ _ h => h) (Or.inl ⟨by rfl, fun wq hSw => by skip; go_simp⟩) hS ?_
              simp only [List.setIfInBounds_toArray, List.set_cons_zero, List.set_cons_succ]
              refine tkd (i := 8) (v := .slice (some ⟨g, 0, none⟩) n cap ) rfl rfl (by kernel_rfl) (by kernel_rfl) (by kernel_rfl) (fun _ _ _ h => h) (Or.inl ⟨by rfl, fun wq hSw => by have m := hSw.bM.cell 0 rfl; go_simp⟩) hS ?_
              simp only [List.setIfInBounds_toArray, List.set_cons_zero, List.set_cons_succ]
              refine tkd (i := 9) (v := .int .i64 (n : Int) ) rfl rfl (by kernel_rfl) (by kernel_rfl) (by kernel_rfl) (fun _ _ _ h => h) (Or.inl ⟨by rfl, fun wq hSw => by skip; go_simp⟩) hS ?_
              simp only [List.setIfInBounds_toArray, List.set_cons_zero, List.set_cons_succ]
              have hOr := rOrder ⟨q0, q1, q2, q3, q4⟩ (n : Int) W
              unfold insV at hOr
              dsimp only at hOr
              refine wpAnyH_ready (rs := [10]) (by kernel_rfl) (by simp) ?_
              refine AllReadyH.cons rfl (fun K hK => ?_) AllReadyH.nil
              go_simp
              go_at_call 54
              refine hOr.mono ?_
              rintro e w3 ⟨rfl, hb3'⟩
              clear hOr
              replace hS : RL w w3 M g n cap LP HP (codeP l) := hS.below hb3'
              clear hb3'
              go_wp2
              refine hK.out _ _ hS (fun _ => ?_)
              clear hK K
              cases hor : ordR ⟨q0, q1, q2, q3, q4⟩ (n : Int)
              · have HR : Hid (T = some ((i : Int), 6, (k : Int))) := by show _ = _; rw [HI2.out, hor]; rfl
                clear HI2 hor
                refine tkd (i := 11) (v := .bool true ) rfl rfl (by kernel_rfl) (by kernel_rfl) (by kernel_rfl) (fun _ _ _ h => h) (Or.inl ⟨by rfl, fun wq hSw => by skip; go_simp⟩) hS ?_
                simp only [List.setIfInBounds_toArray, List.set_cons_zero, List.set_cons_succ]
                refine wpAnyH_done (by kernel_rfl) ?_ _
                have hR := hS
                clear hS
                have o0 := hR.bI.cell 0 rfl
                have o1 := hR.bI.cell 1 rfl
                have o2 := hR.bI.cell 2 rfl
                have f0 := hR.bI.fz 0
                have f1 := hR.bI.fz 1
                have f2 := hR.bI.fz 2
                have r0 := hR.bT.cell 0 rfl
                have r1 := hR.bT.cell 1 rfl
                have r2 := hR.bT.cell 2 rfl
                have t0 := hR.bT.fz 0
                have t1 := hR.bT.fz 1
                have t2 := hR.bT.fz 2
                have HOI : Hid (BoxC ((((((w3.setCell ⟨w.heap.size, 0, none⟩ (.slice none 0 0)).setCell ⟨w.heap.size, 1, none⟩ (.int .i64 0)).setCell ⟨w.heap.size, 2, none⟩ (.int .i64 0)).setCell ⟨w.heap.size + 1, 0, none⟩ (.int .i64 (i : Int))).setCell ⟨w.heap.size + 1, 1, none⟩ (.int .i64 6)).setCell ⟨w.heap.size + 1, 2, none⟩ (.int .i64 (k : Int))) w.heap.size #[(.slice none 0 0), (.int .i64 0), (.int .i64 0)] 44) := by
                  have := ((hR.bI.set 0 (.slice none 0 0)).set 1 (.int .i64 0)).set 2 (.int .i64 0)
                  show BoxC _ _ _ _
                  refine BoxC.set' (by omega) (BoxC.set' (by omega) (BoxC.set' (by omega) ?_))
                  simpa using this
                have HOT : Hid (BoxC ((((((w3.setCell ⟨w.heap.size, 0, none⟩ (.slice none 0 0)).setCell ⟨w.heap.size, 1, none⟩ (.int .i64 0)).setCell ⟨w.heap.size, 2, none⟩ (.int .i64 0)).setCell ⟨w.heap.size + 1, 0, none⟩ (.int .i64 (i : Int))).setCell ⟨w.heap.size + 1, 1, none⟩ (.int .i64 6)).setCell ⟨w.heap.size + 1, 2, none⟩ (.int .i64 (k : Int))) (w.heap.size + 1) #[(.int .i64 (i : Int)), (.int .i64 6), (.int .i64 (k : Int))] 46) := by
                  have := (((BoxC.set' (b := w.heap.size) (i := 2) (u := (.int .i64 0)) (by omega) (BoxC.set' (b := w.heap.size) (i := 1) (u := (.int .i64 0)) (by omega) (BoxC.set' (b := w.heap.size) (i := 0) (u := (.slice none 0 0)) (by omega) hR.bT))).set 0 (.int .i64 (i : Int))).set 1 (.int .i64 6)).set 2 (.int .i64 (k : Int))
                  show BoxC _ _ _ _
                  simpa using this
                have HOW : Hid (Below w.heap.size w ((((((w3.setCell ⟨w.heap.size, 0, none⟩ (.slice none 0 0)).setCell ⟨w.heap.size, 1, none⟩ (.int .i64 0)).setCell ⟨w.heap.size, 2, none⟩ (.int .i64 0)).setCell ⟨w.heap.size + 1, 0, none⟩ (.int .i64 (i : Int))).setCell ⟨w.heap.size + 1, 1, none⟩ (.int .i64 6)).setCell ⟨w.heap.size + 1, 2, none⟩ (.int .i64 (k : Int)))) :=
                  (((((hR.to.setCell (p := ⟨w.heap.size, 0, none⟩) (Nat.le_refl _) _).setCell (p := ⟨w.heap.size, 1, none⟩) (Nat.le_refl _) _).setCell (p := ⟨w.heap.size, 2, none⟩) (Nat.le_refl _) _).setCell (p := ⟨w.heap.size + 1, 0, none⟩) (Nat.le_succ _) _).setCell (p := ⟨w.heap.size + 1, 1, none⟩) (Nat.le_succ _) _).setCell (p := ⟨w.heap.size + 1, 2, none⟩) (Nat.le_succ _) _
                clear hR
                go_wp2
                refine bodyPost_ret (res_rlink _ _ _ HOI.out HOT.out c3 c3t) rfl ?_
                exact ⟨HOW.out, none, 0, 0, 0, 0, [], by rw [HR.out]; rfl, rfl, nil_code _, by rw [HR.out]; rfl⟩
              · have HR : Hid (T = (ordO (codeP l).length (i : Int) ((k + 1 : Nat) : Int) (sub.drop (k + 1))).or T3) := by show _ = _; rw [HI2.out, hor, hcl]; rfl
                clear HI2 hor
                refine tkd (i := 11) (v := .bool false ) rfl rfl (by kernel_rfl) (by kernel_rfl) (by kernel_rfl) (fun _ _ _ h => h) (Or.inl ⟨by rfl, fun wq hSw => by skip; go_simp⟩) hS ?_
                simp only [List.setIfInBounds_toArray, List.set_cons_zero, List.set_cons_succ]
                refine wpAnyH_done (by kernel_rfl) ?_ _
                go_wp2
                go_roundw
                case rel => exact ⟨k + 1, by omega, by go_num, hS, HR⟩
                case measure => simp [intOf]; omega
            · have HN : Hid (T = T3) := by show _ = _; rw [HI2.out, List.drop_eq_nil_of_le (by omega)]; rfl
              have hnk : ¬ (k : Int) < (d.code.length : Int) := by omega
              have HR1 : Hid (RL w wr M g n cap LP HP (codeP l)) := hR
              clear HI2 hR
              go_wp2
              exact ⟨⟨i + 1, by omega, by go_num, HR1.out, by show _ = _; rw [HN.out, hT3.out]⟩, by simp [intOf]; omega⟩
        · have HR : Hid (T = none) := by show _ = _; rw [HT.out, List.drop_eq_nil_of_le (by omega)]; rfl
          obtain rfl : i = l.length := by omega
          clear HT hlt hi
          have m0 := hR.bM.cell 0 rfl
          have m1 := hR.bM.cell 1 rfl
          have m2 := hR.bM.cell 2 rfl
          have hg2 := hR.g2
          have hcin := code_in hR.row hR.len (by rw [hcl]; have := HQ.out; omega)
          rw [hcl] at hcin
          have o0 := hR.bI.cell 0 rfl
          have o1 := hR.bI.cell 1 rfl
          have o2 := hR.bI.cell 2 rfl
          have f0 := hR.bI.fz 0
          have f1 := hR.bI.fz 1
          have f2 := hR.bI.fz 2
          have r0 := hR.bT.cell 0 rfl
          have r1 := hR.bT.cell 1 rfl
          have r2 := hR.bT.cell 2 rfl
          have t0 := hR.bT.fz 0
          have t1 := hR.bT.fz 1
          have t2 := hR.bT.fz 2
          have HOI : Hid (BoxC ((((((wr.setCell ⟨w.heap.size, 0, none⟩ (.slice (some ⟨g, 0, none⟩) n cap)).setCell ⟨w.heap.size, 1, none⟩ (.int .i64 LP)).setCell ⟨w.heap.size, 2, none⟩ (.int .i64 HP)).setCell ⟨w.heap.size + 1, 0, none⟩ (.int .i64 0)).setCell ⟨w.heap.size + 1, 1, none⟩ (.int .i64 0)).setCell ⟨w.heap.size + 1, 2, none⟩ (.int .i64 0)) w.heap.size #[(.slice (some ⟨g, 0, none⟩) n cap), (.int .i64 LP), (.int .i64 HP)] 44) := by
            have := ((hR.bI.set 0 (.slice (some ⟨g, 0, none⟩) n cap)).set 1 (.int .i64 LP)).set 2 (.int .i64 HP)
            show BoxC _ _ _ _
            refine BoxC.set' (by omega) (BoxC.set' (by omega) (BoxC.set' (by omega) ?_))
            simpa using this
          have HOT : Hid (BoxC ((((((wr.setCell ⟨w.heap.size, 0, none⟩ (.slice (some ⟨g, 0, none⟩) n cap)).setCell ⟨w.heap.size, 1, none⟩ (.int .i64 LP)).setCell ⟨w.heap.size, 2, none⟩ (.int .i64 HP)).setCell ⟨w.heap.size + 1, 0, none⟩ (.int .i64 0)).setCell ⟨w.heap.size + 1, 1, none⟩ (.int .i64 0)).setCell ⟨w.heap.size + 1, 2, none⟩ (.int .i64 0)) (w.heap.size + 1) #[(.int .i64 0), (.int .i64 0), (.int .i64 0)] 46) := by
            have := (((BoxC.set' (b := w.heap.size) (i := 2) (u := (.int .i64 HP)) (by omega) (BoxC.set' (b := w.heap.size) (i := 1) (u := (.int .i64 LP)) (by omega) (BoxC.set' (b := w.heap.size) (i := 0) (u := (.slice (some ⟨g, 0, none⟩) n cap)) (by omega) hR.bT))).set 0 (.int .i64 0)).set 1 (.int .i64 0)).set 2 (.int .i64 0)
            show BoxC _ _ _ _
            simpa using this
          have HOW : Hid (Below w.heap.size w ((((((wr.setCell ⟨w.heap.size, 0, none⟩ (.slice (some ⟨g, 0, none⟩) n cap)).setCell ⟨w.heap.size, 1, none⟩ (.int .i64 LP)).setCell ⟨w.heap.size, 2, none⟩ (.int .i64 HP)).setCell ⟨w.heap.size + 1, 0, none⟩ (.int .i64 0)).setCell ⟨w.heap.size + 1, 1, none⟩ (.int .i64 0)).setCell ⟨w.heap.size + 1, 2, none⟩ (.int .i64 0))) :=
            (((((hR.to.setCell (p := ⟨w.heap.size, 0, none⟩) (Nat.le_refl _) _).setCell (p := ⟨w.heap.size, 1, none⟩) (Nat.le_refl _) _).setCell (p := ⟨w.heap.size, 2, none⟩) (Nat.le_refl _) _).setCell (p := ⟨w.heap.size + 1, 0, none⟩) (Nat.le_succ _) _).setCell (p := ⟨w.heap.size + 1, 1, none⟩) (Nat.le_succ _) _).setCell (p := ⟨w.heap.size + 1, 2, none⟩) (Nat.le_succ _) _
          have HC : Hid (CodeIn ((((((wr.setCell ⟨w.heap.size, 0, none⟩ (.slice (some ⟨g, 0, none⟩) n cap)).setCell ⟨w.heap.size, 1, none⟩ (.int .i64 LP)).setCell ⟨w.heap.size, 2, none⟩ (.int .i64 HP)).setCell ⟨w.heap.size + 1, 0, none⟩ (.int .i64 0)).setCell ⟨w.heap.size + 1, 1, none⟩ (.int .i64 0)).setCell ⟨w.heap.size + 1, 2, none⟩ (.int .i64 0)) (.slice (some ⟨g, 0, none⟩) n cap) (codeP l)) := by
            obtain ⟨a, c, h1, h2, h3⟩ := hcin
            refine ⟨a, c, h1, h2, fun hne => ?_⟩
            obtain ⟨g', o, h4, h5⟩ := h3 hne
            simp only [Value.slice.injEq] at h1
            obtain ⟨rfl, _, rfl⟩ := h1
            cases h4
            refine ⟨g, 0, rfl, fun i hi => ?_⟩
            obtain ⟨k0, k1, k2, k3, k4⟩ := h5 i hi
            have cell : ∀ j v, wr.cell? ⟨g, j, none⟩ = some v → ((((((wr.setCell ⟨w.heap.size, 0, none⟩ (.slice (some ⟨g, 0, none⟩) n cap)).setCell ⟨w.heap.size, 1, none⟩ (.int .i64 LP)).setCell ⟨w.heap.size, 2, none⟩ (.int .i64 HP)).setCell ⟨w.heap.size + 1, 0, none⟩ (.int .i64 0)).setCell ⟨w.heap.size + 1, 1, none⟩ (.int .i64 0)).setCell ⟨w.heap.size + 1, 2, none⟩ (.int .i64 0)).cell? ⟨g, j, none⟩ = some v := fun j v hv => by
              rw [cell_other (by omega), cell_other (by omega), cell_other (by omega), cell_other (by omega), cell_other (by omega), cell_other (by omega)]
              exact hv
            exact ⟨cell _ _ k0, cell _ _ k1, cell _ _ k2, cell _ _ k3, cell _ _ k4⟩
          clear hR hcin
          go_wp2
          refine bodyPost_ret (res_rlink _ _ _ HOI.out HOT.out c3 c3t) rfl ?_
          exact ⟨HOW.out, some ⟨g, 0, none⟩, n, cap, LP, HP, codeP l, by rw [HR.out]; rfl, hcl.symm, HC.out, by rw [HR.out, HLH.out.1, HLH.out.2]; rfl⟩

end Go.Proofs.YtaiocbbcjdpjgaaGreatDoor.lnk
