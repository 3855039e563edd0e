/- The law LinkStale: objects that are linked are not, if a label in a face that others know is turned: the walk. (Written by mkstale.py: edit that.) -/
import Derived.Test.YtmkknnofeebknaaDoorLSLnkStaleP
namespace Go.Proofs.YtmkknnofeebknaaDoor.lnk
open Go.RowKit
open Go.Proofs.YtmkknnofeebknaaDoor.syn (isName eqS)
open Go.Proofs.YtmkknnofeebknaaDoor.mac (BoxC Ins grown_of_below)
open Go.Proofs.YtmkknnofeebknaaDoor.ord (tkd putd)
open Go.Proofs.YtmkknnofeebknaaDoor.obj (ObjD PlcD RelD Vals ObjAt PlcsIn RelsIn CodeIn FacesIn objV relV mayO)
open Go.Proofs.YtmkknnofeebknaaDoor.lexs (HasErr hasErr_below)
open Go.Proofs.YtmkknnofeebknaaDoor.face (VarD ProcD FaceD FaceIn keep VarsIn ProcsIn)
set_option linter.unusedVariables false
set_option linter.unusedSimpArgs false
set_option maxRecDepth 100000
theorem objC_one {d : ObjD} {x : Vals} {w : World} (h : ObjAt w x d) : ∀ u ∈ objC (d, x), u.oneCell' = true := fun u hu => by
  obtain ⟨a1, c1, a2, c2, a3, c3', a4, c4', a5, c5, a6, c6, a7, c7, a8, c8, rfl⟩ := h.shape
  simp only [objC, List.mem_cons, List.not_mem_nil, or_false] at hu
  rcases hu with rfl | rfl | rfl | rfl | rfl | rfl | rfl | rfl | rfl | rfl | rfl | rfl | rfl <;> rfl
set_option maxHeartbeats 4000000 in
theorem stale_some {w : World} {l : List ObjD} {ov : Value} (n : Nat) (ho : ObjsIn w ov l) (he : HasErr w) {t : Int × Int × Int} (hT : linkT l = some t) :
    Calls Tryd.prog 3 #[ov, .int .u8 n] w fun e w' => e = .returned (.bool true) ∧ Below w.heap.size w w' := by
  have c3 : Tryd.prog.cellsOf 25 = 3 := by kernel_rfl
  have c3t : Tryd.prog.cellsOf 28 = 3 := by kernel_rfl
  have hC := oLink ho he
  have hne := linkT_code hT
  rw [hT] at hC
  obtain ⟨t1, t2, t3⟩ := t
  dsimp only at hne
  go_enter Tryd.func3, Tryd.ntmps3
  go_wp2_with (fail)
  refine hC.mono ?_
  rintro e w1 ⟨hb1, a1, n1, cap1, lo, hi, cs, rfl, hn1, hc1, hx1⟩
  dsimp only [Option.getD_some]
  clear hC
  have HB : Hid (Below w.heap.size w w1) := hb1
  clear hb1 hn1 hc1 hx1
  go_wp2
  go_ret
  exact ⟨rfl, (HB.out.alloc HB.out.size _).alloc (by have := HB.out.size; simp; omega) _⟩
/-- what is known so far -/
def knA (m : ByteArray) (l : List ObjD) : Bool := l.any fun o => o.imports.any fun q => eqS q.module m
theorem knA_next {m : ByteArray} {l : List ObjD} {i : Nat} (h : i < l.length) : knA m (l.take (i + 1)) = (knA m (l.take i) || l[i].imports.any fun q => eqS q.module m) := by
  unfold knA
  rw [List.take_succ_eq_append_getElem h, List.any_append]
  simp
theorem imA_next {m : ByteArray} {l : List FaceD} {i : Nat} (h : i < l.length) : ((l.take (i + 1)).any fun q => eqS q.module m) = ((l.take i).any (fun q => eqS q.module m) || eqS l[i].module m) := by
  rw [List.take_succ_eq_append_getElem h, List.any_append]
  simp
set_option maxHeartbeats 4000000 in
theorem stale_none {w : World} {l : List ObjD} {ov : Value} (n : Nat) (hn255 : n ≤ 255) (ho : ObjsIn w ov l) (he : HasErr w) (hT : linkT l = none) :
    Calls Tryd.prog 3 #[ov, .int .u8 n] w fun e w' => e = .returned (.bool true) ∧ Below w.heap.size w w' := by
  have c3 : Tryd.prog.cellsOf 25 = 3 := by kernel_rfl
  have c3t : Tryd.prog.cellsOf 28 = 3 := by kernel_rfl
  have c13 : Tryd.prog.cellsOf 39 = 13 := by kernel_rfl
  have cF : Tryd.prog.cellsOf 34 = 3 := by kernel_rfl
  have cV : Tryd.prog.cellsOf 41 = 4 := by kernel_rfl
  have hC := oLink ho he
  rw [hT] at hC
  have hl6 : ¬ (l.length = 0 ∨ 6 < l.length) := fun h => by
    unfold linkT at hT
    rw [Option.or_eq_none_iff] at hT
    have := hT.1
    unfold layR at this
    rw [if_pos h] at this
    cases this
  obtain ⟨L, hLm, a, c, rfl, hll, hLc⟩ := objs_list ho
  have hlen : L.length = l.length := by rw [← hLm, List.length_map]
  have hpos : 0 < L.length := by omega
  have h6 : L.length ≤ 6 := by omega
  clear hl6
  have hz1 : ¬ (L.length : Int) = 0 := by omega
  have hz2 : ((L.length : Int) == 0) = false := by rw [beq_eq_false_iff_ne]; exact hz1
  obtain ⟨g0, o0, rfl, hcc⟩ := hLc (by intro e; rw [e] at hpos; simp at hpos)
  obtain ⟨iO, hiO, hzO, hsO, hbO⟩ := info_of infoO
  obtain ⟨iV, hiV, hzV, hsV, hbV⟩ := info_of infoV
  have HS : Hid (L.map (·.1) = l ∧ linkT l = none ∧ HasErr w ∧ L.length ≤ 8796093022208) := ⟨hLm, hT, he, hll⟩
  replace hcc : Hid (∀ i (h : i < L.length), ObjAt w L[i].2 L[i].1 ∧ OCells w g0 (o0 + i * 13) L[i].1 L[i].2) := hcc
  have hIO : Hid (Tryd.prog.info? 39 = some iO ∧ iO.zero = some (.agg #[.string ⟨#[]⟩, .slice none 0 0, .slice none 0 0, .slice none 0 0, .slice none 0 0, .slice none 0 0, .slice none 0 0, .slice none 0 0, .slice none 0 0, .int .i64 0, .int .i64 0, .int .i64 0, .int .i64 0]) ∧ iO.size = 13 ∧ iO.bytes = 240) := ⟨hiO, hzO, hsO, hbO⟩
  have hIV : Hid (Tryd.prog.info? 41 = some iV ∧ iV.zero = some (.agg #[.string ⟨#[]⟩, .bool false, .int .i64 0, .int .i64 0]) ∧ iV.size = 4 ∧ iV.bytes = 40) := ⟨hiV, hzV, hsV, hbV⟩
  clear hLm hT he hll hlen ho hiO hzO hsO hbO hiV hzV hsV hbV hLc
  go_enter Tryd.func3, Tryd.ntmps3
  go_wp2_with (fail)
  refine hC.mono ?_
  rintro e w1 ⟨hb1, ax, nx, capx, lo, hi, cs, rfl, hn1, hc1, hx1⟩
  dsimp only [Option.getD_none]
  clear hC hn1 hc1 hx1
  have hB1 : Below w.heap.size w ((w1.alloc (.cells #[.slice ax nx capx, .int .i64 lo, .int .i64 hi] 25)).alloc (.cells #[.int .i64 0, .int .i64 0, .int .i64 0] 28)) := (hb1.alloc hb1.size _).alloc (by have := hb1.size; simp; omega) _
  clear hb1
  go_wp2
  generalize ((w1.alloc (.cells #[.slice ax nx capx, .int .i64 lo, .int .i64 hi] 25)).alloc (.cells #[.int .i64 0, .int .i64 0, .int .i64 0] 28)) = W1 at *
  generalize w1.heap.size = m1 at *
  obtain ⟨N, hN⟩ : ∃ N, N = W1.heap.size := ⟨_, rfl⟩
  have hown0 : W1.ownsRow N 39 13 (.slice none 0 0) 0 ((L.take 0).flatMap objC) := ⟨rfl, .inl ⟨rfl, rfl⟩⟩
  go_loopw [7, 8] (fun u t wr => ∃ i : Nat, i ≤ L.length ∧ t = .int .i64 i ∧ Below N W1 wr ∧ wr.ownsRow N 39 13 u i ((L.take i).flatMap objC)) (fun _ t _ => L.length - (intOf t).toNat)
  case atStart => exact ⟨0, Nat.zero_le _, rfl, by rw [hN]; exact Below.refl _ _, hown0⟩
  case round =>
    clear hown0
    obtain ⟨i, hi, rfl, hBr, hown⟩ := hrel
    have hsz := hBr.size
    have hB2 : Below w.heap.size w wr := hB1.trans (hBr.mono (by rw [hN]; exact hB1.size))
    by_cases hlt : i < L.length
    · obtain ⟨hat, hcs⟩ := hcc.out i hlt
      have hone := objC_one hat
      have hcs1 := hcs.below hB2
      have HF : Hid ((L.take (i + 1)).flatMap objC = (L.take i).flatMap objC ++ objC L[i]) := by show _ = _; rw [List.take_succ_eq_append_getElem hlt, List.flatMap_append]; simp
      clear hcs
      generalize L[i] = q at *
      obtain ⟨d, x⟩ := q
      dsimp only at hat hcs1
      obtain ⟨a1, c1, a2, c2, a3, c3', a4, c4', a5, c5, a6, c6, a7, c7, a8, c8, rfl⟩ := hat.shape
      obtain ⟨y0, y1, y2, y3, y4, y5, y6, y7, y8, y9, y10, y11, y12⟩ := hcs1
      dsimp only at y1 y2 y3 y4 y5 y6 y7 y8
      have hNr : N ≤ wr.heap.size := by omega
      obtain ⟨P, hP⟩ : ∃ P, P = (L.take i).flatMap objC := ⟨_, rfl⟩
      rw [← hP] at hown HF
      clear hP hat
      go_wp2_with first
        | (at_builtin; refine wpList_append_own _ rfl (.tmp 33) (.tmp 38) 22 rfl N 39 iO (.agg #[.string ⟨#[]⟩, .slice none 0 0, .slice none 0 0, .slice none 0 0, .slice none 0 0, .slice none 0 0, .slice none 0 0, .slice none 0 0, .slice none 0 0, .int .i64 0, .int .i64 0, .int .i64 0, .int .i64 0]) 13 240 Tryd.underlying22 hIO.out.1 hIO.out.2.1 hIO.out.2.2.1 hIO.out.2.2.2 rfl (by decide) _ _ _ rfl (hown.alloc _) ⟨wr.heap.size, 0, none⟩ 1 1 _ rfl rfl (World.news_of_block (BoxC.new wr #[.string d.face.module, .slice a1 d.face.vars.length c1, .slice a2 d.face.procs.length c2, .slice a3 d.imports.length c3', .slice a4 d.code.length c4', .slice a5 d.relocs.length c5, .slice a6 d.procs.length c6, .slice a7 d.lows.length c7, .slice a8 d.highs.length c8, .int .i64 d.low, .int .i64 d.high, .int .i64 d.lowF, .int .i64 d.highF] 39)) hone (by unfold maxLen; omega) (by omega) (by simp; omega) ?_; intro v' w5 hown5 hgrow5 hnil5)
        | go_in
      go_roundw
      case rel =>
        refine ⟨i + 1, by omega, by go_num, ?_, ?_⟩
        · exact (hBr.alloc hNr _).grown hgrow5 (by simp; omega) (fun k hk => (hown.lt _ hk).1)
        · rw [HF.out]; exact hown5
      case measure => simp [intOf]; omega
    · obtain rfl : i = L.length := by omega
      rw [List.take_length] at hown
      obtain ⟨g, cap, rfl, hgN, hgl⟩ := hown.form hpos
      generalize wr = W2 at *
      have hNr : N ≤ W2.heap.size := by omega
      obtain ⟨k, hk, hkm⟩ : ∃ k : Nat, k < L.length ∧ (n : Int).tmod (L.length : Int) = (k : Int) := ⟨n % L.length, Nat.mod_lt _ hpos, rfl⟩
      obtain ⟨M, hM⟩ : ∃ M, M = L[k].1.face.module := ⟨_, rfl⟩
      have hck0 : W2.cell? ⟨g, k * 13, none⟩ = some (.string M) := by rw [hM]; exact row_cell hown rfl hk (j := 0) (by decide) rfl
      replace hM : Hid (M = L[k].1.face.module) := hM
      have HB2 : Hid (Below w.heap.size w W2) := hB2
      have HBr : Hid (Below N W1 W2) := hBr
      have HO : Hid (W2.ownsRow N 39 13 (.slice (some ⟨g, 0, none⟩) L.length cap) L.length (L.flatMap objC)) := hown
      clear hB2 hBr hown hi hsz
      have hk' : (k : Int) < (L.length : Int) := by omega
      go_wp2
      go_loopw [10, 11] (fun u t wv => ∃ i : Nat, i ≤ L.length ∧ t = .int .i64 i ∧ u = .bool (knA M ((L.map (·.1)).take i)) ∧ Below W2.heap.size W2 wv) (fun _ t _ => L.length - (intOf t).toNat)
      case atStart => exact ⟨0, Nat.zero_le _, rfl, rfl, Below.refl _ _⟩
      case round =>
        generalize wr = wv at *
        obtain ⟨i, hi, rfl, rfl, hBv⟩ := hrel
        by_cases hlt : i < L.length
        · have y3 := row_cell HO.out rfl hlt (j := 3) (by decide) rfl
          have him := (hcc.out i hlt).1.imps
          have hnx := knA_next (m := M) (l := L.map (·.1)) (i := i) (by simpa using hlt)
          rw [List.getElem_map] at hnx
          obtain ⟨ia, ic, hia, hil, hic⟩ := him
          rw [hia] at y3
          clear hia
          replace hnx : Hid (knA M ((L.map (·.1)).take (i + 1)) = (knA M ((L.map (·.1)).take i) || L[i].1.imports.any fun q => eqS q.module M)) := hnx
          generalize L[i].1.imports = I at *
          obtain ⟨K0, hK0⟩ : ∃ K0, K0 = knA M ((L.map (·.1)).take i) := ⟨_, rfl⟩
          rw [← hK0] at hnx ⊢
          clear hK0
          replace hic : Hid (I ≠ [] → ∃ g o, ia = some ⟨g, o, none⟩ ∧ ∀ i (h : i < I.length), w.cell? ⟨g, o + i * 3, none⟩ = some (.string I[i].module) ∧ (∃ vv, w.cell? ⟨g, o + i * 3 + 1, none⟩ = some vv ∧ VarsIn w vv I[i].vars) ∧ (∃ pv, w.cell? ⟨g, o + i * 3 + 2, none⟩ = some pv ∧ ProcsIn w pv I[i].procs)) := hic
          have hlt' : (i : Int) < (L.length : Int) := by omega
          go_wp2
          go_loopw [10, 12] (fun u t wz => ∃ j : Nat, j ≤ I.length ∧ t = .int .i64 j ∧ u = .bool (K0 || (I.take j).any fun q => eqS q.module M) ∧ Below W2.heap.size W2 wz) (fun _ t _ => I.length - (intOf t).toNat)
          case atStart => exact ⟨0, Nat.zero_le _, rfl, by simp, hBv⟩
          case round =>
            generalize wr = wz at *
            clear hBv
            obtain ⟨j, hj, rfl, rfl, hBz⟩ := hrel
            have z3 := keep y3 hBz
            have zk := keep hck0 hBz
            by_cases hjl : j < I.length
            · obtain ⟨gi, oi, rfl, hcj⟩ := hic.out (by intro e; rw [e] at hjl; simp at hjl)
              have zj := keep (hcj j hjl).1 (HB2.out.trans (hBz.mono HB2.out.size))
              have hnj : Hid (((I.take (j + 1)).any fun q => eqS q.module M) = ((I.take j).any (fun q => eqS q.module M) || eqS I[j].module M)) := imA_next hjl
              clear hcj
              generalize I[j].module = qm at *
              generalize ((I.take j).any fun q => eqS q.module M) = J0 at *
              have HBz : Hid (Below W2.heap.size W2 wz) := hBz
              clear hBz
              obtain ⟨b, hb⟩ : ∃ b, b = (K0 || J0) := ⟨_, rfl⟩
              rw [← hb]
              replace hb : Hid (b = (K0 || J0)) := hb
              go_wp2
              refine wp_region_held_drew (S := fun W => W.cell? ⟨g, i * 13 + 3, none⟩ = some (.slice (some ⟨gi, oi, none⟩) I.length ic) ∧ W.cell? ⟨gi, oi + j * 3, none⟩ = some (.string qm) ∧ W.cell? ⟨g, k * 13, none⟩ = some (.string M)) (by kernel_rfl) ⟨z3, zj, zk⟩ (fun hS => ?_)
              have HBd : Hid (Below W2.heap.size W2 wz.drew) := HBz.out.drew
              generalize wz.drew = W at hS HBd ⊢
              clear z3 zj zk HBz
              cases b
              · skip
                refine tkd (i := 0) (v := .bool false ) rfl rfl (by kernel_rfl) (by kernel_rfl) (by kernel_rfl) (fun _ _ _ h => h) (Or.inl ⟨by rfl, fun wq hSw => by skip; go_simp⟩) hS ?_
                simp only [List.setIfInBounds_toArray, List.set_cons_zero, List.set_cons_succ]
                refine tkd (i := 1) (v := .bool false ) rfl rfl (by kernel_rfl) (by kernel_rfl) (by kernel_rfl) (fun _ _ _ h => h) (Or.inl ⟨by rfl, fun wq hSw => by skip; go_simp⟩) hS ?_
                simp only [List.setIfInBounds_toArray, List.set_cons_zero, List.set_cons_succ]
                refine tkd (i := 2) (v := .slice (some ⟨g, 0, none⟩) L.length cap ) rfl rfl (by kernel_rfl) (by kernel_rfl) (by kernel_rfl) (fun _ _ _ h => h) (Or.inl ⟨by rfl, fun wq hSw => by skip; go_simp⟩) hS ?_
                simp only [List.setIfInBounds_toArray, List.set_cons_zero, List.set_cons_succ]
                refine tkd (i := 3) (v := .int .i64 (i : Int) ) rfl rfl (by kernel_rfl) (by kernel_rfl) (by kernel_rfl) (fun _ _ _ h => h) (Or.inl ⟨by rfl, fun wq hSw => by skip; go_simp⟩) hS ?_
                simp only [List.setIfInBounds_toArray, List.set_cons_zero, List.set_cons_succ]
                refine tkd (i := 4) (v := .pointer (some ⟨g, i * 13, none⟩) ) rfl rfl (by kernel_rfl) (by kernel_rfl) (by kernel_rfl) (fun _ _ _ h => h) (Or.inl ⟨by rfl, fun wq hSw => by have m := hlt; go_simp⟩) hS ?_
                simp only [List.setIfInBounds_toArray, List.set_cons_zero, List.set_cons_succ]
                refine tkd (i := 5) (v := .pointer (some ⟨g, i * 13 + 3, none⟩) ) rfl rfl (by kernel_rfl) (by kernel_rfl) (by kernel_rfl) (fun _ _ _ h => h) (Or.inl ⟨by rfl, fun wq hSw => by skip; go_simp⟩) hS ?_
                simp only [List.setIfInBounds_toArray, List.set_cons_zero, List.set_cons_succ]
                refine tkd (i := 6) (v := .slice (some ⟨gi, oi, none⟩) I.length ic ) rfl rfl (by kernel_rfl) (by kernel_rfl) (by kernel_rfl) (fun _ _ _ h => h) (Or.inl ⟨by rfl, fun wq hSw => by have m := hSw.1; go_simp⟩) hS ?_
                simp only [List.setIfInBounds_toArray, List.set_cons_zero, List.set_cons_succ]
                refine tkd (i := 7) (v := .int .i64 (j : Int) ) rfl rfl (by kernel_rfl) (by kernel_rfl) (by kernel_rfl) (fun _ _ _ h => h) (Or.inl ⟨by rfl, fun wq hSw => by skip; go_simp⟩) hS ?_
                simp only [List.setIfInBounds_toArray, List.set_cons_zero, List.set_cons_succ]
                refine tkd (i := 8) (v := .pointer (some ⟨gi, oi + j * 3, none⟩) ) rfl rfl (by kernel_rfl) (by kernel_rfl) (by kernel_rfl) (fun _ _ _ h => h) (Or.inl ⟨by rfl, fun wq hSw => by have m := hjl; go_simp⟩) hS ?_
                simp only [List.setIfInBounds_toArray, List.set_cons_zero, List.set_cons_succ]
                refine tkd (i := 9) (v := .pointer (some ⟨gi, oi + j * 3, none⟩) ) rfl rfl (by kernel_rfl) (by kernel_rfl) (by kernel_rfl) (fun _ _ _ h => h) (Or.inl ⟨by rfl, fun wq hSw => by skip; go_simp⟩) hS ?_
                simp only [List.setIfInBounds_toArray, List.set_cons_zero, List.set_cons_succ]
                refine tkd (i := 10) (v := .string qm ) rfl rfl (by kernel_rfl) (by kernel_rfl) (by kernel_rfl) (fun _ _ _ h => h) (Or.inl ⟨by rfl, fun wq hSw => by have m := hSw.2.1; go_simp⟩) hS ?_
                simp only [List.setIfInBounds_toArray, List.set_cons_zero, List.set_cons_succ]
                refine tkd (i := 11) (v := .slice (some ⟨g, 0, none⟩) L.length cap ) rfl rfl (by kernel_rfl) (by kernel_rfl) (by kernel_rfl) (fun _ _ _ h => h) (Or.inl ⟨by rfl, fun wq hSw => by skip; go_simp⟩) hS ?_
                simp only [List.setIfInBounds_toArray, List.set_cons_zero, List.set_cons_succ]
                refine tkd (i := 12) (v := .int .i64 (k : Int) ) rfl rfl (by kernel_rfl) (by kernel_rfl) (by kernel_rfl) (fun _ _ _ h => h) (Or.inl ⟨by rfl, fun wq hSw => by skip; go_simp⟩) hS ?_
                simp only [List.setIfInBounds_toArray, List.set_cons_zero, List.set_cons_succ]
                refine tkd (i := 13) (v := .pointer (some ⟨g, k * 13, none⟩) ) rfl rfl (by kernel_rfl) (by kernel_rfl) (by kernel_rfl) (fun _ _ _ h => h) (Or.inl ⟨by rfl, fun wq hSw => by have m := hk; go_simp⟩) hS ?_
                simp only [List.setIfInBounds_toArray, List.set_cons_zero, List.set_cons_succ]
                refine tkd (i := 14) (v := .pointer (some ⟨g, k * 13, none⟩) ) rfl rfl (by kernel_rfl) (by kernel_rfl) (by kernel_rfl) (fun _ _ _ h => h) (Or.inl ⟨by rfl, fun wq hSw => by skip; go_simp⟩) hS ?_
                simp only [List.setIfInBounds_toArray, List.set_cons_zero, List.set_cons_succ]
                refine tkd (i := 15) (v := .pointer (some ⟨g, k * 13, none⟩) ) rfl rfl (by kernel_rfl) (by kernel_rfl) (by kernel_rfl) (fun _ _ _ h => h) (Or.inl ⟨by rfl, fun wq hSw => by skip; go_simp⟩) hS ?_
                simp only [List.setIfInBounds_toArray, List.set_cons_zero, List.set_cons_succ]
                refine tkd (i := 16) (v := .string M ) rfl rfl (by kernel_rfl) (by kernel_rfl) (by kernel_rfl) (fun _ _ _ h => h) (Or.inl ⟨by rfl, fun wq hSw => by have m := hSw.2.2; go_simp⟩) hS ?_
                simp only [List.setIfInBounds_toArray, List.set_cons_zero, List.set_cons_succ]
                refine tkd (i := 17) (v := .bool (qm.toList == M.toList) ) rfl rfl (by kernel_rfl) (by kernel_rfl) (by kernel_rfl) (fun _ _ _ h => h) (Or.inl ⟨by rfl, fun wq hSw => by skip; go_simp⟩) hS ?_
                simp only [List.setIfInBounds_toArray, List.set_cons_zero, List.set_cons_succ]
                refine tkd (i := 18) (v := .bool (qm.toList == M.toList) ) rfl rfl (by kernel_rfl) (by kernel_rfl) (by kernel_rfl) (fun _ _ _ h => h) (Or.inl ⟨by rfl, fun wq hSw => by skip; go_simp⟩) hS ?_
                simp only [List.setIfInBounds_toArray, List.set_cons_zero, List.set_cons_succ]
                refine tkd (i := 19) (v := .bool (qm.toList == M.toList) ) rfl rfl (by kernel_rfl) (by kernel_rfl) (by kernel_rfl) (fun _ _ _ h => h) (Or.inl ⟨by rfl, fun wq hSw => by skip; go_simp⟩) hS ?_
                simp only [List.setIfInBounds_toArray, List.set_cons_zero, List.set_cons_succ]
                refine wpAnyH_done (by kernel_rfl) ?_ _
                have HV : Hid ((qm.toList == M.toList) = (K0 || (I.take (j + 1)).any fun q => eqS q.module M)) := by show _ = _; rw [hnj.out, ← Bool.or_assoc, ← hb.out]; rfl
                generalize (qm.toList == M.toList) = V at *
                go_wp2
                exact ⟨⟨j + 1, by omega, by go_num, by rw [HV.out], HBd.out⟩, by simp [intOf]; omega⟩
              · skip
                refine tkd (i := 0) (v := .bool true ) rfl rfl (by kernel_rfl) (by kernel_rfl) (by kernel_rfl) (fun _ _ _ h => h) (Or.inl ⟨by rfl, fun wq hSw => by skip; go_simp⟩) hS ?_
                simp only [List.setIfInBounds_toArray, List.set_cons_zero, List.set_cons_succ]
                refine tkd (i := 1) (v := .bool true ) rfl rfl (by kernel_rfl) (by kernel_rfl) (by kernel_rfl) (fun _ _ _ h => h) (Or.inl ⟨by rfl, fun wq hSw => by skip; go_simp⟩) hS ?_
                simp only [List.setIfInBounds_toArray, List.set_cons_zero, List.set_cons_succ]
                refine tkd (i := 2) (v := undef) rfl rfl (by kernel_rfl) (by kernel_rfl) (by kernel_rfl) (fun _ _ _ h => h) (Or.inr ⟨by rfl, rfl⟩) hS ?_
                simp only [List.setIfInBounds_toArray, List.set_cons_zero, List.set_cons_succ]
                refine tkd (i := 3) (v := undef) rfl rfl (by kernel_rfl) (by kernel_rfl) (by kernel_rfl) (fun _ _ _ h => h) (Or.inr ⟨by rfl, rfl⟩) hS ?_
                simp only [List.setIfInBounds_toArray, List.set_cons_zero, List.set_cons_succ]
                refine tkd (i := 4) (v := undef) rfl rfl (by kernel_rfl) (by kernel_rfl) (by kernel_rfl) (fun _ _ _ h => h) (Or.inr ⟨by rfl, rfl⟩) hS ?_
                simp only [List.setIfInBounds_toArray, List.set_cons_zero, List.set_cons_succ]
                refine tkd (i := 5) (v := undef) rfl rfl (by kernel_rfl) (by kernel_rfl) (by kernel_rfl) (fun _ _ _ h => h) (Or.inr ⟨by rfl, rfl⟩) hS ?_
                simp only [List.setIfInBounds_toArray, List.set_cons_zero, List.set_cons_succ]
                refine tkd (i := 6) (v := undef) rfl rfl (by kernel_rfl) (by kernel_rfl) (by kernel_rfl) (fun _ _ _ h => h) (Or.inr ⟨by rfl, rfl⟩) hS ?_
                simp only [List.setIfInBounds_toArray, List.set_cons_zero, List.set_cons_succ]
                refine tkd (i := 7) (v := undef) rfl rfl (by kernel_rfl) (by kernel_rfl) (by kernel_rfl) (fun _ _ _ h => h) (Or.inr ⟨by rfl, rfl⟩) hS ?_
                simp only [List.setIfInBounds_toArray, List.set_cons_zero, List.set_cons_succ]
                refine tkd (i := 8) (v := undef) rfl rfl (by kernel_rfl) (by kernel_rfl) (by kernel_rfl) (fun _ _ _ h => h) (Or.inr ⟨by rfl, rfl⟩) hS ?_
                simp only [List.setIfInBounds_toArray, List.set_cons_zero, List.set_cons_succ]
                refine tkd (i := 9) (v := undef) rfl rfl (by kernel_rfl) (by kernel_rfl) (by kernel_rfl) (fun _ _ _ h => h) (Or.inr ⟨by rfl, rfl⟩) hS ?_
                simp only [List.setIfInBounds_toArray, List.set_cons_zero, List.set_cons_succ]
                refine tkd (i := 10) (v := undef) rfl rfl (by kernel_rfl) (by kernel_rfl) (by kernel_rfl) (fun _ _ _ h => h) (Or.inr ⟨by rfl, rfl⟩) hS ?_
                simp only [List.setIfInBounds_toArray, List.set_cons_zero, List.set_cons_succ]
                refine tkd (i := 11) (v := undef) rfl rfl (by kernel_rfl) (by kernel_rfl) (by kernel_rfl) (fun _ _ _ h => h) (Or.inr ⟨by rfl, rfl⟩) hS ?_
                simp only [List.setIfInBounds_toArray, List.set_cons_zero, List.set_cons_succ]
                refine tkd (i := 12) (v := undef) rfl rfl (by kernel_rfl) (by kernel_rfl) (by kernel_rfl) (fun _ _ _ h => h) (Or.inr ⟨by rfl, rfl⟩) hS ?_
                simp only [List.setIfInBounds_toArray, List.set_cons_zero, List.set_cons_succ]
                refine tkd (i := 13) (v := undef) rfl rfl (by kernel_rfl) (by kernel_rfl) (by kernel_rfl) (fun _ _ _ h => h) (Or.inr ⟨by rfl, rfl⟩) hS ?_
                simp only [List.setIfInBounds_toArray, List.set_cons_zero, List.set_cons_succ]
                refine tkd (i := 14) (v := undef) rfl rfl (by kernel_rfl) (by kernel_rfl) (by kernel_rfl) (fun _ _ _ h => h) (Or.inr ⟨by rfl, rfl⟩) hS ?_
                simp only [List.setIfInBounds_toArray, List.set_cons_zero, List.set_cons_succ]
                refine tkd (i := 15) (v := undef) rfl rfl (by kernel_rfl) (by kernel_rfl) (by kernel_rfl) (fun _ _ _ h => h) (Or.inr ⟨by rfl, rfl⟩) hS ?_
                simp only [List.setIfInBounds_toArray, List.set_cons_zero, List.set_cons_succ]
                refine tkd (i := 16) (v := undef) rfl rfl (by kernel_rfl) (by kernel_rfl) (by kernel_rfl) (fun _ _ _ h => h) (Or.inr ⟨by rfl, rfl⟩) hS ?_
                simp only [List.setIfInBounds_toArray, List.set_cons_zero, List.set_cons_succ]
                refine tkd (i := 17) (v := undef) rfl rfl (by kernel_rfl) (by kernel_rfl) (by kernel_rfl) (fun _ _ _ h => h) (Or.inr ⟨by rfl, rfl⟩) hS ?_
                simp only [List.setIfInBounds_toArray, List.set_cons_zero, List.set_cons_succ]
                refine tkd (i := 18) (v := .bool true ) rfl rfl (by kernel_rfl) (by kernel_rfl) (by kernel_rfl) (fun _ _ _ h => h) (Or.inl ⟨by rfl, fun wq hSw => by skip; go_simp⟩) hS ?_
                simp only [List.setIfInBounds_toArray, List.set_cons_zero, List.set_cons_succ]
                refine tkd (i := 19) (v := .bool true ) rfl rfl (by kernel_rfl) (by kernel_rfl) (by kernel_rfl) (fun _ _ _ h => h) (Or.inl ⟨by rfl, fun wq hSw => by skip; go_simp⟩) hS ?_
                simp only [List.setIfInBounds_toArray, List.set_cons_zero, List.set_cons_succ]
                refine wpAnyH_done (by kernel_rfl) ?_ _
                have HV : Hid (true = (K0 || (I.take (j + 1)).any fun q => eqS q.module M)) := by show _ = _; rw [hnj.out, ← Bool.or_assoc, ← hb.out]; rfl
                go_wp2
                exact ⟨⟨j + 1, by omega, by go_num, by rw [← HV.out], HBd.out⟩, by simp [intOf]; omega⟩
            · obtain rfl : j = I.length := by omega
              rw [List.take_length, ← hnx.out]
              have HBz : Hid (Below W2.heap.size W2 wz) := hBz
              clear hBz
              generalize hKn : knA M ((L.map (·.1)).take (i + 1)) = Kn
              replace hKn : Hid (knA M ((L.map (·.1)).take (i + 1)) = Kn) := hKn
              go_wp2
              exact ⟨⟨i + 1, by omega, by go_num, by rw [hKn.out], HBz.out⟩, by simp [intOf]; omega⟩
        · obtain rfl : i = L.length := by omega
          rw [show (L.map (·.1)).take L.length = L.map (·.1) from List.take_of_length_le (by simp)]
          have hB4 : Below w.heap.size w wv := HB2.out.trans (hBv.mono HB2.out.size)
          have HB4 : Hid (Below w.heap.size w wv) := hB4
          have hat := (hcc.out k hk).1
          obtain ⟨a1, c1, a2, c2, a3, c3', a4, c4', a5, c5, a6, c6, a7, c7, a8, c8, hx⟩ := hat.shape
          have e0 := keep hck0 hBv
          have e1 := keep (row_cell HO.out rfl hk (j := 1) (v := L[k].2.vv) (by decide) rfl) hBv
          have e2 := keep (row_cell HO.out rfl hk (j := 2) (v := L[k].2.pv) (by decide) rfl) hBv
          have hmayk : mayO L[k].1 = true := by
            have h1 := HS.out.2.1
            unfold linkT at h1
            rw [Option.or_eq_none_iff] at h1
            have h2 := h1.1
            unfold layR at h2
            split at h2
            · cases h2
            · refine layT_none l 0 p0 h2 _ ?_
              rw [← HS.out.1]
              exact List.mem_map.2 ⟨L[k], List.getElem_mem _, rfl⟩
          have hmf := (may_parts hmayk).1
          rw [hx] at e1 e2
          dsimp only at e1 e2
          have hvr := hat.vars
          rw [hx] at hvr
          dsimp only at hvr
          obtain ⟨va, vc, hva, hvl, hvc⟩ := hvr
          simp only [Value.slice.injEq, true_and] at hva
          obtain ⟨rfl, rfl⟩ := hva
          have HX : Hid (L[k].2 = ⟨.slice a1 L[k].1.face.vars.length c1, .slice a2 L[k].1.face.procs.length c2, .slice a3 L[k].1.imports.length c3', .slice a4 L[k].1.code.length c4', .slice a5 L[k].1.relocs.length c5, .slice a6 L[k].1.procs.length c6, .slice a7 L[k].1.lows.length c7, .slice a8 L[k].1.highs.length c8⟩) := hx
          have HAT : Hid (ObjAt w L[k].2 L[k].1) := hat
          clear hx hat hmayk
          obtain ⟨d, hd⟩ : ∃ d, d = L[k].1 := ⟨_, rfl⟩
          rw [← hd] at e1 e2 hmf hvl hvc HX hM
          replace hd : Hid (d = L[k].1) := hd
          have HVC : Hid (d.face.vars ≠ [] → ∃ g o, a1 = some ⟨g, o, none⟩ ∧ ∀ i (h : i < d.face.vars.length), w.cell? ⟨g, o + i * 4, none⟩ = some (.string d.face.vars[i].name) ∧ w.cell? ⟨g, o + i * 4 + 1, none⟩ = some (.bool d.face.vars[i].pub) ∧ w.cell? ⟨g, o + i * 4 + 2, none⟩ = some (.int .i64 d.face.vars[i].label) ∧ w.cell? ⟨g, o + i * 4 + 3, none⟩ = some (.int .i64 d.face.vars[i].size)) := hvc
          clear hvc hvl hB4
          have HBv : Hid (Below W2.heap.size W2 wv) := hBv
          clear hBv
          by_cases hv0 : d.face.vars.length = 0
          · rw [hv0] at e1
            clear hmf
            go_wp2
            go_ret
            exact ⟨rfl, HB4.out⟩
          have hv1 : ¬ (d.face.vars.length : Int) = 0 := by omega
          have hv2 : ((d.face.vars.length : Int) == 0) = false := by rw [beq_eq_false_iff_ne]; exact hv1
          cases hkn : knA M (L.map (·.1))
          · clear hmf
            go_wp2
            go_ret
            exact ⟨rfl, HB4.out⟩
          have HKN : Hid (knA M (L.map (·.1)) = true) := hkn
          clear hkn
          obtain ⟨gv, ov, rfl, hvc⟩ := HVC.out (by intro e; rw [e] at hv0; exact hv0 rfl)
          clear HVC
          have hlab : ∀ v r, d.face.vars = v :: r → 0 ≤ v.label ∧ v.label ≤ 1 := fun v r e => by
            unfold face.mayB at hmf
            simp only [Bool.and_eq_true] at hmf
            have h2 := List.all_eq_true.1 hmf.2.2.1 v (by rw [e]; exact .head _)
            unfold face.mayVarB face.labelB at h2
            simp only [Bool.and_eq_true, Bool.or_eq_true, beq_iff_eq] at h2
            omega
          have hv20 : d.face.vars.length ≤ 20 := by
            unfold face.mayB at hmf
            simp only [Bool.and_eq_true, decide_eq_true_eq] at hmf
            omega
          have hnews := vars_news (fun i hi => by
            have := hvc i hi
            exact ⟨keep this.1 HB4.out, keep this.2.1 HB4.out, keep this.2.2.1 HB4.out, keep this.2.2.2 HB4.out⟩)
          have hgvw : gv < wv.heap.size := by
            have := (hvc 0 (by omega)).1
            have h3 := World.block_lt_of_cell? w _ this
            exact Nat.lt_of_lt_of_le h3 HB4.out.size
          clear hvc hmf
          have hnews3 : ∀ j u, (d.face.vars.flatMap varC)[j]? = some u → ((wv.alloc (.cells #[.string M, .slice (some ⟨gv, ov, none⟩) d.face.vars.length c1, .slice a2 d.face.procs.length c2] 34)).alloc (.cells #[] 41)).cell? (Addr.add ⟨gv, ov, none⟩ j) = some u := fun j u hu => keep (keep (hnews j u hu) ((Below.refl _ _).alloc (Nat.le_refl _) _)) ((Below.refl _ _).alloc (Nat.le_refl _) _)
          have hown3 : ((wv.alloc (.cells #[.string M, .slice (some ⟨gv, ov, none⟩) d.face.vars.length c1, .slice a2 d.face.procs.length c2] 34)).alloc (.cells #[] 41)).ownsRow (wv.heap.size + 1) 41 4 (.slice (some ⟨wv.heap.size + 1, 0, none⟩) 0 0) 0 [] := by
            have := BoxC.new (wv.alloc (.cells #[.string M, .slice (some ⟨gv, ov, none⟩) d.face.vars.length c1, .slice a2 d.face.procs.length c2] 34)) #[] 41
            rw [World.size_alloc] at this
            exact ⟨rfl, .inr ⟨_, 0, #[], rfl, Nat.le_refl _, this, Nat.le_refl _, by unfold maxLen; omega, rfl, rfl⟩⟩
          have hbF := (BoxC.new wv #[.string M, .slice (some ⟨gv, ov, none⟩) d.face.vars.length c1, .slice a2 d.face.procs.length c2] 34).alloc (.cells #[] 41)
          have hB5 : Below wv.heap.size wv ((wv.alloc (.cells #[.string M, .slice (some ⟨gv, ov, none⟩) d.face.vars.length c1, .slice a2 d.face.procs.length c2] 34)).alloc (.cells #[] 41)) := ((Below.refl _ _).alloc (Nat.le_refl _) _).alloc (by simp) _
          clear hnews
          have HN3 : Hid (∀ j u, (d.face.vars.flatMap varC)[j]? = some u → ((wv.alloc (.cells #[.string M, .slice (some ⟨gv, ov, none⟩) d.face.vars.length c1, .slice a2 d.face.procs.length c2] 34)).alloc (.cells #[] 41)).cell? (Addr.add ⟨gv, ov, none⟩ j) = some u) := hnews3
          have HOW3 : Hid (((wv.alloc (.cells #[.string M, .slice (some ⟨gv, ov, none⟩) d.face.vars.length c1, .slice a2 d.face.procs.length c2] 34)).alloc (.cells #[] 41)).ownsRow (wv.heap.size + 1) 41 4 (.slice (some ⟨wv.heap.size + 1, 0, none⟩) 0 0) 0 []) := hown3
          have HBF : Hid (BoxC _ _ _ _) := hbF
          have HB5 : Hid (Below wv.heap.size wv ((wv.alloc (.cells #[.string M, .slice (some ⟨gv, ov, none⟩) d.face.vars.length c1, .slice a2 d.face.procs.length c2] 34)).alloc (.cells #[] 41))) := hB5
          have HLAB : Hid (∀ v r, d.face.vars = v :: r → 0 ≤ v.label ∧ v.label ≤ 1) := hlab
          clear hnews3 hown3 hbF hB5 hlab
          go_wp2_with first
            | (at_builtin; refine wpList_append_lies _ rfl (.tmp 97) (.tmp 99) 31 rfl (wv.heap.size + 1) 41 iV (.agg #[.string ⟨#[]⟩, .bool false, .int .i64 0, .int .i64 0]) 4 40 Tryd.underlying31 hIV.out.1 hIV.out.2.1 hIV.out.2.2.1 hIV.out.2.2.2 rfl (by decide) (.slice (some ⟨wv.heap.size + 1, 0, none⟩) 0 0) 0 [] rfl HOW3.out ⟨gv, ov, none⟩ d.face.vars.length c1 (d.face.vars.flatMap varC) rfl (flat4_len _) HN3.out (vars_one _) (by omega) (by unfold maxLen; omega) (by omega) (by simp) _ rfl ?_; intro g5 cap5 w5 hown5 hgrow5 hat5 hlt5; have bF5 := HBF.out.grown hgrow5 (by simp [Value.ownBlock]); have q1 := bF5.cell 1 rfl; have f1 := bF5.fz 1; rw [Nat.zero_add] at hown5 ⊢)
            | go_in
          have hg5 : wv.heap.size + 1 ≤ g5 := (hown5.lt g5 rfl).1
          have hB6 : Below wv.heap.size wv w5 := HB5.out.grown hgrow5 (by simp; omega) (fun k hk => by simp [Value.ownBlock] at hk; omega)
          have hs5 := hB6.size
          clear hat5 hgrow5 q1 f1 HN3 HOW3 HBF HB5
          rw [List.nil_append] at hown5
          obtain ⟨v0, vr, hvr⟩ : ∃ v r, d.face.vars = v :: r := by
            cases h : d.face.vars with
            | nil => rw [h] at hv0; exact absurd rfl hv0
            | cons v r => exact ⟨v, r, rfl⟩
          obtain ⟨hl0, hl1⟩ := HLAB.out v0 vr hvr
          obtain ⟨nv, hnv⟩ : ∃ nv, nv = d.face.vars.length := ⟨_, rfl⟩
          rw [← hnv] at hown5 bF5 e1 hv0 hv1 hv2 hv20 HX ⊢
          have hnv2 : nv = (v0 :: vr).length := by rw [hnv, hvr]
          rw [hvr] at hown5
          replace hnv : Hid (nv = d.face.vars.length) := hnv
          replace hvr : Hid (d.face.vars = v0 :: vr) := hvr
          have hnv0 : 0 < nv := by omega
          have bF6 := bF5.set 1 (.slice (some ⟨g5, 0, none⟩) nv cap5)
          simp only [Array.setIfInBounds, List.size_toArray, List.length_cons, List.length_nil, Nat.reduceAdd, Nat.reduceLT, dite_true, List.set_toArray, List.set_cons_succ, List.set_cons_zero] at bF6
          have hown6 : (w5.setCell ⟨wv.heap.size, 1, none⟩ (.slice (some ⟨g5, 0, none⟩) nv cap5)).ownsRow (wv.heap.size + 1) 41 4 (.slice (some ⟨g5, 0, none⟩) nv cap5) nv ((v0 :: vr).flatMap varC) := hown5.kept (mac.grown_set w5 wv.heap.size 1 _) (.inr (by simp [Value.ownBlock]; omega))
          have hB7 : Below wv.heap.size wv (w5.setCell ⟨wv.heap.size, 1, none⟩ (.slice (some ⟨g5, 0, none⟩) nv cap5)) := hB6.setCell (p := ⟨wv.heap.size, 1, none⟩) (Nat.le_refl _) _
          clear hown5 bF5 hB6
          refine wp_region_held_drew (S := fun W => W.cell? ⟨wv.heap.size, 1, none⟩ = some (.slice (some ⟨g5, 0, none⟩) nv cap5)) (by kernel_rfl) (bF6.cell 1 rfl) (fun hS => ?_)
          replace bF6 := bF6.below (Below.refl _ _).drew
          replace hown6 := hown6.kept (grown_of_below (Below.refl _ _).drew) (.inr (by simp [Value.ownBlock]))
          replace hB7 := hB7.drew
          generalize (w5.setCell ⟨wv.heap.size, 1, none⟩ (.slice (some ⟨g5, 0, none⟩) nv cap5)).drew = W6 at *
          have hlb := hown6.cellAt 2 (by omega)
          have hlf := hown6.frozenAt 2
          rw [show ((v0 :: vr).flatMap varC)[2]? = some (.int .i64 v0.label) from rfl] at hlb
          have hwr : IntKind.i64.wrap (1 - v0.label) = 1 - v0.label := by rw [IntKind.wrap_i64]; omega
          have hown7 := row_turn hown6 hnv2
          refine tkd (i := 0) (v := .pointer (some ⟨wv.heap.size, 1, none⟩) ) rfl rfl (by kernel_rfl) (by kernel_rfl) (by kernel_rfl) (fun _ _ _ h => h) (Or.inl ⟨by rfl, fun wq hSw => by skip; go_simp⟩) hS ?_
          simp only [List.setIfInBounds_toArray, List.set_cons_zero, List.set_cons_succ]
          refine tkd (i := 1) (v := .slice (some ⟨g5, 0, none⟩) nv cap5 ) rfl rfl (by kernel_rfl) (by kernel_rfl) (by kernel_rfl) (fun _ _ _ h => h) (Or.inl ⟨by rfl, fun wq hSw => by have m : wq.cell? ⟨wv.heap.size, 1, none⟩ = _ := hSw; go_simp⟩) hS ?_
          simp only [List.setIfInBounds_toArray, List.set_cons_zero, List.set_cons_succ]
          refine tkd (i := 2) (v := .pointer (some ⟨wv.heap.size, 1, none⟩) ) rfl rfl (by kernel_rfl) (by kernel_rfl) (by kernel_rfl) (fun _ _ _ h => h) (Or.inl ⟨by rfl, fun wq hSw => by skip; go_simp⟩) hS ?_
          simp only [List.setIfInBounds_toArray, List.set_cons_zero, List.set_cons_succ]
          refine tkd (i := 3) (v := .slice (some ⟨g5, 0, none⟩) nv cap5 ) rfl rfl (by kernel_rfl) (by kernel_rfl) (by kernel_rfl) (fun _ _ _ h => h) (Or.inl ⟨by rfl, fun wq hSw => by have m : wq.cell? ⟨wv.heap.size, 1, none⟩ = _ := hSw; go_simp⟩) hS ?_
          simp only [List.setIfInBounds_toArray, List.set_cons_zero, List.set_cons_succ]
          refine tkd (i := 4) (v := .pointer (some ⟨g5, 0, none⟩) ) rfl rfl (by kernel_rfl) (by kernel_rfl) (by kernel_rfl) (fun _ _ _ h => h) (Or.inl ⟨by rfl, fun wq hSw => by have m := hnv0; go_simp⟩) hS ?_
          simp only [List.setIfInBounds_toArray, List.set_cons_zero, List.set_cons_succ]
          refine tkd (i := 5) (v := .pointer (some ⟨g5, 2, none⟩) ) rfl rfl (by kernel_rfl) (by kernel_rfl) (by kernel_rfl) (fun _ _ _ h => h) (Or.inl ⟨by rfl, fun wq hSw => by skip; go_simp⟩) hS ?_
          simp only [List.setIfInBounds_toArray, List.set_cons_zero, List.set_cons_succ]
          refine wpAnyH_ready (rs := [6]) (by kernel_rfl) (by simp) ?_
          refine AllReadyH.cons rfl (fun K hK => ?_) AllReadyH.nil
          go_simp
          refine hK.out _ _ hS (fun _ => ?_)
          clear hK K
          refine tkd (i := 7) (v := .int .i64 (1 - v0.label) ) rfl rfl (by kernel_rfl) (by kernel_rfl) (by kernel_rfl) (fun _ _ _ h => h) (Or.inl ⟨by rfl, fun wq hSw => by have m := hwr; go_simp⟩) hS ?_
          simp only [List.setIfInBounds_toArray, List.set_cons_zero, List.set_cons_succ]
          refine tkd (i := 8) (v := .pointer (some ⟨g5, 0, none⟩) ) rfl rfl (by kernel_rfl) (by kernel_rfl) (by kernel_rfl) (fun _ _ _ h => h) (Or.inl ⟨by rfl, fun wq hSw => by have m := hnv0; go_simp⟩) hS ?_
          simp only [List.setIfInBounds_toArray, List.set_cons_zero, List.set_cons_succ]
          refine tkd (i := 9) (v := .pointer (some ⟨g5, 2, none⟩) ) rfl rfl (by kernel_rfl) (by kernel_rfl) (by kernel_rfl) (fun _ _ _ h => h) (Or.inl ⟨by rfl, fun wq hSw => by skip; go_simp⟩) hS ?_
          simp only [List.setIfInBounds_toArray, List.set_cons_zero, List.set_cons_succ]
          refine wpAnyH_ready (rs := [10]) (by kernel_rfl) (by simp) ?_
          refine AllReadyH.cons rfl (fun K hK => ?_) AllReadyH.nil
          go_simp
          have hgF : g5 ≠ wv.heap.size := by omega
          have bF7 := BoxC.set' (b := g5) (i := 2) (u := .int .i64 (1 - v0.label)) hgF bF6
          have hB8 := hB7.setCell (p := ⟨g5, 2, none⟩) (show wv.heap.size ≤ g5 by omega) (.int .i64 (1 - v0.label))
          have hg56 : g5 < W6.heap.size := (hown6.lt g5 rfl).2
          refine hK.out _ _ (bF7.cell 1 rfl) (fun _ => ?_)
          clear hK K hS hlb hlf bF6 hB7 hown6 hwr
          have hs7 : (W6.setCell ⟨g5, 2, none⟩ (.int .i64 (1 - v0.label))).heap.size = W6.heap.size := by simp
          generalize (W6.setCell ⟨g5, 2, none⟩ (.int .i64 (1 - v0.label))) = W7 at *
          refine wpAnyH_done (by kernel_rfl) ?_ _
          have u0 := bF7.cell 0 rfl
          have u1 := bF7.cell 1 rfl
          have u2 := bF7.cell 2 rfl
          have r0 := keep e0 hB8
          have r1 := keep e1 hB8
          have r2 := keep e2 hB8
          have hB9 : Below W2.heap.size W2 W7 := HBv.out.trans (hB8.mono HBv.out.size)
          have hrow := HO.out.kept (grown_of_below hB9) (.inr (by simp [Value.ownBlock]))
          have k0 := hrow.frozenAt (k * 13)
          have k1 := hrow.frozenAt (k * 13 + 1)
          have k2 := hrow.frozenAt (k * 13 + 2)
          have hgw : g < wv.heap.size := Nat.lt_of_lt_of_le hgl HBv.out.size
          have hwN : w.heap.size ≤ g := by have := hB1.size; omega
          have em : L[k].1.face.module = M := by rw [← hd.out]; exact hM.out.symm
          have ep : L[k].2.pv = .slice a2 d.face.procs.length c2 := by rw [HX.out]
          obtain ⟨L', hL'⟩ : ∃ L', L' = L.set k ({ L[k].1 with face := ⟨L[k].1.face.module, turnL L[k].1.face.vars, L[k].1.face.procs⟩ }, { L[k].2 with vv := .slice (some ⟨g5, 0, none⟩) nv cap5 }) := ⟨_, rfl⟩
          have hrow8 := row_setF hrow rfl hk (turnL L[k].1.face.vars) (.slice (some ⟨g5, 0, none⟩) nv cap5)
          rw [← hL', em, ep] at hrow8
          have hlen8 : L.length = L'.length := by rw [hL', List.length_set]
          have hB10 : Below w.heap.size w (((W7.setCell ⟨g, k * 13, none⟩ (.string M)).setCell ⟨g, k * 13 + 1, none⟩ (.slice (some ⟨g5, 0, none⟩) nv cap5)).setCell ⟨g, k * 13 + 2, none⟩ (.slice a2 d.face.procs.length c2)) := (((HB4.out.trans (hB8.mono HB4.out.size)).setCell (p := ⟨g, k * 13, none⟩) hwN _).setCell (p := ⟨g, k * 13 + 1, none⟩) hwN _).setCell (p := ⟨g, k * 13 + 2, none⟩) hwN _
          have hne5 : g ≠ g5 := by omega
          have hown8 : (((W7.setCell ⟨g, k * 13, none⟩ (.string M)).setCell ⟨g, k * 13 + 1, none⟩ (.slice (some ⟨g5, 0, none⟩) nv cap5)).setCell ⟨g, k * 13 + 2, none⟩ (.slice a2 d.face.procs.length c2)).ownsRow (wv.heap.size + 1) 41 4 (.slice (some ⟨g5, 0, none⟩) nv cap5) nv ((turnL (v0 :: vr)).flatMap varC) :=
            ((hown7.kept (mac.grown_set _ g (k * 13) _) (.inr (by simp [Value.ownBlock]; omega))).kept (mac.grown_set _ g (k * 13 + 1) _) (.inr (by simp [Value.ownBlock]; omega))).kept (mac.grown_set _ g (k * 13 + 2) _) (.inr (by simp [Value.ownBlock]; omega))
          have hat8 : ∀ i (h : i < L'.length), ObjAt (((W7.setCell ⟨g, k * 13, none⟩ (.string M)).setCell ⟨g, k * 13 + 1, none⟩ (.slice (some ⟨g5, 0, none⟩) nv cap5)).setCell ⟨g, k * 13 + 2, none⟩ (.slice a2 d.face.procs.length c2)) L'[i].2 L'[i].1 := fun i hi => by
            subst hL'
            rw [List.getElem_set]
            by_cases e : k = i
            · rw [if_pos e]
              have hA := HAT.out.below hB10
              refine ⟨?_, hA.procs, hA.imps, hA.code, hA.rels, hA.q1, hA.q2, hA.q3⟩
              show VarsIn _ (.slice (some ⟨g5, 0, none⟩) nv cap5) (turnL L[k].1.face.vars)
              rw [← hd.out, hvr.out]
              exact vars_of_row hown8 (by rw [turnL_len]; exact hnv2) (by rw [turnL_len, ← hnv2]; omega)
            · rw [if_neg e]
              exact (hcc.out i (by simpa using hi)).1.below hB10
          have hC8 := oLink (objs_of_row hrow8 hlen8 hat8 (by omega)) (hasErr_below HS.out.2.2.1 hB10)
          have hkl : k < (L.map (·.1)).length := by simpa using hk
          have hst := stale_pure (l := L.map (·.1)) (k := k) hkl (by rw [HS.out.1]; exact HS.out.2.1) (by rw [List.getElem_map, ← hd.out, hvr.out]; simp) (by rw [List.getElem_map, ← hd.out, ← hM.out]; exact HKN.out)
          rw [show (L.map (·.1)).set k (turnO (L.map (·.1))[k]) = L'.map (·.1) from by rw [hL', List.map_set, List.getElem_map]; rfl] at hst
          obtain ⟨ta, tb, hst⟩ := hst
          rw [hst] at hC8
          have HB10 : Hid (Below w.heap.size w (((W7.setCell ⟨g, k * 13, none⟩ (.string M)).setCell ⟨g, k * 13 + 1, none⟩ (.slice (some ⟨g5, 0, none⟩) nv cap5)).setCell ⟨g, k * 13 + 2, none⟩ (.slice a2 d.face.procs.length c2))) := hB10
          clear hst hkl hat8 hown8 hB10 hlen8 hrow8 hL' em ep hrow hB9 hown7 bF7 hB8 hvr hnv hnv2 HX HAT HKN hd hM HB2 HBr HO HS hcc HLAB
          go_wp2_with (fail)
          refine hC8.mono ?_
          clear hC8
          rintro e w9 ⟨hb9, ay, ny, capy, loy, hiy, cy, rfl, hny, hcy, hxy⟩
          dsimp only [Option.getD_some]
          have HB11 : Hid (Below w.heap.size w w9) := HB10.out.trans (hb9.mono HB10.out.size)
          clear hb9 hny hcy hxy HB10 u0 u1 u2 r0 r1 r2 k0 k1 k2
          go_wp2
          go_ret
          exact ⟨rfl, (HB11.out.alloc HB11.out.size _).alloc (by have := HB11.out.size; simp; omega) _⟩

theorem stale_walk {w : World} {l : List ObjD} {ov : Value} (n : Nat) (hn255 : n ≤ 255) (ho : ObjsIn w ov l) (he : HasErr w) :
    Calls Tryd.prog 3 #[ov, .int .u8 n] w fun e w' => e = .returned (.bool true) ∧ Below w.heap.size w w' := by
  cases hT : linkT l with
  | some t => exact stale_some n ho he hT
  | none => exact stale_none n hn255 ho he hT
end Go.Proofs.YtmkknnofeebknaaDoor.lnk
