/- What the reference's Main and Same (of images) answer: contracts. -/
import Derived.Test.YtaiocbbcjdpjgaaGreatDoorLMLnkRefA
import Derived.Test.YtaiocbbcjdpjgaaGreatDoorLMObjSame
namespace Go.Proofs.YtaiocbbcjdpjgaaGreatDoor.lnk
open Go.RowKit
open Go.Proofs.YtaiocbbcjdpjgaaGreatDoor.syn (isName eqS)
open Go.Proofs.YtaiocbbcjdpjgaaGreatDoor.mac (BoxC Ins grown_of_below)
open Go.Proofs.YtaiocbbcjdpjgaaGreatDoor.obj (ObjD PlcD RelD Vals ObjAt PlcsIn RelsIn CodeIn FacesIn objV relV mayO)
open Go.Proofs.YtaiocbbcjdpjgaaGreatDoor.face (VarD ProcD FaceD FaceIn keep VarsIn ProcsIn IntsIn)
set_option linter.unusedVariables false
set_option linter.unusedSimpArgs false
set_option maxRecDepth 100000
theorem main_drop {l : List ProcD} {i : Nat} (h : i < l.length) : (l.drop i).any isMainB = (isMainB l[i] || (l.drop (i + 1)).any isMainB) := by
  rw [List.drop_eq_getElem_cons h, List.any_cons]
set_option maxHeartbeats 4000000 in
theorem rMain (l : List ObjD) (v : Value) (w : World) (hv : ObjsIn w v l) (hm : ∀ o ∈ l, mayO o = true) (hl6 : l.length ≤ 6) :
    Calls Tryz.prog 52 #[v] w fun e w' => e = .returned (.int .i64 (mainF l)) ∧ Below w.heap.size w w' := by
  have c13 : Tryz.prog.cellsOf 31 = 13 := by kernel_rfl
  have c6 : Tryz.prog.cellsOf 120 = 6 := by kernel_rfl
  obtain ⟨V, hV⟩ : ∃ V, V = mainF l := ⟨_, rfl⟩
  rw [← hV]
  replace hV : Hid (V = mainF l) := hV
  have hMd := rModule l v ⟨#[109, 97, 105, 110]⟩ w hv
  have hvW := hv
  obtain ⟨oa, oc, rfl, hll, hoc⟩ := hv
  go_enter Tryz.func52, Tryz.ntmps52
  go_wp2_with (fail)
  refine hMd.mono ?_
  clear hMd
  rintro e w2 ⟨rfl, hw2⟩
  subst hw2
  rcases modF_lt (m := ⟨#[109, 97, 105, 110]⟩) l 0 with h1 | ⟨h1, h2⟩
  · have HR : Hid (V = -1) := by show _ = _; rw [hV.out]; unfold mainF; simp only [h1]; rfl
    rw [h1]
    clear hV h1
    go_wp2
    go_ret
    exact ⟨by rw [HR.out]; rfl, Below.refl _ _⟩
  · obtain ⟨j, hj⟩ : ∃ j : Nat, modF ⟨#[109, 97, 105, 110]⟩ 0 l = (j : Int) := ⟨(modF ⟨#[109, 97, 105, 110]⟩ 0 l).toNat, by omega⟩
    rw [hj] at h1 h2 ⊢
    have hjl : j < l.length := by omega
    obtain ⟨g, o, rfl, hcc⟩ := hoc (by intro e; rw [e] at hjl; simp at hjl)
    obtain ⟨x, hat, hcs⟩ := hcc j hjl
    have hdm := hm l[j] (List.getElem_mem hjl)
    have hbl := baseK_le hm (kind := 2) (Nat.le_of_lt hjl)
    have hBs : Hid (∀ W, Below w2.heap.size w2 W → Calls Tryz.prog 51 #[.slice (some ⟨g, o, none⟩) l.length oc, .int .i64 j, .int .i64 2] W fun e w' => e = .returned (.int .i64 (baseK 2 (l.take j))) ∧ w' = W) := fun W hb => rBase l _ j 2 W (hvW.below hb) (Nat.le_of_lt hjl) hm hl6
    have hSt : mainF l = if l[j].face.procs.any isMainB = true then (if findF ⟨#[109, 97, 105, 110]⟩ l[j].procs < 0 then -1 else findF ⟨#[109, 97, 105, 110]⟩ l[j].procs + baseK 2 (l.take j)) else -1 := by
      unfold mainF
      simp only [hj]
      rw [if_neg (by omega), Int.toNat_natCast, List.getElem?_eq_getElem hjl]
      rfl
    rw [hSt] at hV
    clear hoc hcc hm hj hSt hvW
    obtain ⟨_, _, m3, _, m5, m6, _, _, m9, m10, m11⟩ := may_parts hdm
    have hFb : findF ⟨#[109, 97, 105, 110]⟩ l[j].procs ≤ 20000 := find_le m9 (by omega) ⟨#[109, 97, 105, 110]⟩
    have hj6 : j ≤ 6 := by omega
    generalize l[j] = d at *
    have hFd : Hid (∀ W, Below w2.heap.size w2 W → Calls Tryz.prog 92 #[x.p1, .string ⟨#[109, 97, 105, 110]⟩] W fun e w' => e = .returned (.int .i64 (findF ⟨#[109, 97, 105, 110]⟩ d.procs)) ∧ w' = W) := fun W hb => rFind d.procs x.p1 ⟨#[109, 97, 105, 110]⟩ W (hat.q1.below hb)
    have hpr := hat.procs
    obtain ⟨a1, c1, a2, c2, a3, c3', a4, c4', a5, c5, a6, c6', a7, c7, a8, c8, rfl⟩ := hat.shape
    have y2 := hcs.c2
    have y6 := hcs.c6
    dsimp only at y2 y6 hpr hFd
    obtain ⟨pa, pc, hpa, hpl, hpc⟩ := hpr
    simp only [Value.slice.injEq, true_and] at hpa
    obtain ⟨rfl, rfl⟩ := hpa
    clear hcs hat hdm m3 m5 m6 m9 m10 m11
    have hjl' : (j : Int) < (l.length : Int) := by omega
    obtain ⟨F, hFF⟩ : ∃ F, F = findF ⟨#[109, 97, 105, 110]⟩ d.procs := ⟨_, rfl⟩
    rw [← hFF] at hV hFd hFb
    clear hFF
    obtain ⟨A, hA⟩ : ∃ A, A = d.face.procs.any isMainB := ⟨_, rfl⟩
    rw [← hA] at hV
    have HA0 : Hid ((d.face.procs.drop 0).any isMainB = A) := by show _ = _; rw [hA]; rfl
    clear hA
    replace hpc : Hid (d.face.procs ≠ [] → ∃ g o, a2 = some ⟨g, o, none⟩ ∧ ∀ i (h : i < d.face.procs.length), w2.cell? ⟨g, o + i * 6, none⟩ = some (.string d.face.procs[i].name) ∧ w2.cell? ⟨g, o + i * 6 + 1, none⟩ = some (.bool d.face.procs[i].pub) ∧ (∃ u, w2.cell? ⟨g, o + i * 6 + 2, none⟩ = some u ∧ IntsIn w2 u d.face.procs[i].params) ∧ w2.cell? ⟨g, o + i * 6 + 3, none⟩ = some (.int .i64 d.face.procs[i].writes) ∧ w2.cell? ⟨g, o + i * 6 + 4, none⟩ = some (.bool d.face.procs[i].gives) ∧ w2.cell? ⟨g, o + i * 6 + 5, none⟩ = some (.int .i64 d.face.procs[i].given)) := hpc
    generalize baseK 2 (l.take j) = BB at *
    go_wp2
    go_loopw [4] (fun t wr => ∃ i : Nat, i ≤ d.face.procs.length ∧ t = .int .i64 i ∧ Below w2.heap.size w2 wr ∧ Hid ((d.face.procs.drop i).any isMainB = A)) (fun t _ => d.face.procs.length - (intOf t).toNat)
    case atStart => exact ⟨0, Nat.zero_le _, rfl, Below.refl _ _, HA0⟩
    case round =>
      clear HA0
      obtain ⟨i, hi, rfl, hBr, HA⟩ := hrel
      have z2 := keep y2 hBr
      have z6 := keep y6 hBr
      have HBr : Hid (Below w2.heap.size w2 wr) := hBr
      by_cases hlt : i < d.face.procs.length
      · obtain ⟨g3, o3, rfl, hcc⟩ := hpc.out (by intro e; rw [e] at hlt; simp at hlt)
        obtain ⟨k0, k1, ⟨u, k2, hu⟩, k3, k4, k5⟩ := hcc i hlt
        obtain ⟨ua, uc, rfl, _, _⟩ := hu
        replace k0 := keep k0 hBr
        replace k1 := keep k1 hBr
        replace k2 := keep k2 hBr
        replace k3 := keep k3 hBr
        replace k4 := keep k4 hBr
        replace k5 := keep k5 hBr
        have hlt' : i < d.face.procs.length := hlt
        clear hcc hBr
        by_cases n1 : d.face.procs[i].name.toList = [109, 97, 105, 110]
        rotate_left
        · have hX : Hid (isMainB d.face.procs[i] = false) := by show _ = _; unfold isMainB; rw [show eqS d.face.procs[i].name ⟨#[109, 97, 105, 110]⟩ = (d.face.procs[i].name.toList == [109, 97, 105, 110]) from eqS_lit _ [109, 97, 105, 110]]; simp [n1]
          have HN : Hid ((d.face.procs.drop (i + 1)).any isMainB = A) := by show _ = _; rw [← HA.out, main_drop hlt', hX.out]; rfl
          clear HA hX
          generalize d.face.procs[i] = q at *
          obtain ⟨d0, d1, d2, d3, d4, d5⟩ := q
          dsimp only at k0 k1 k3 k4 k5 n1 k2
          go_wp2
          exact ⟨⟨i + 1, by omega, by go_num, HBr.out.alloc HBr.out.size _, HN⟩, by simp [intOf]; omega⟩
        have hM : eqS d.face.procs[i].name ⟨#[109, 97, 105, 110]⟩ = true := by rw [show eqS d.face.procs[i].name ⟨#[109, 97, 105, 110]⟩ = (d.face.procs[i].name.toList == [109, 97, 105, 110]) from eqS_lit _ [109, 97, 105, 110]]; simpa using n1
        by_cases n2 : d.face.procs[i].params.length = 0
        rotate_left
        · have hX : Hid (isMainB d.face.procs[i] = false) := by show _ = _; unfold isMainB; simp [n2]
          have n2' : ¬ ((d.face.procs[i].params.length : Int) = 0) := by omega
          clear hM
          have HN : Hid ((d.face.procs.drop (i + 1)).any isMainB = A) := by show _ = _; rw [← HA.out, main_drop hlt', hX.out]; rfl
          clear HA hX
          generalize d.face.procs[i] = q at *
          obtain ⟨d0, d1, d2, d3, d4, d5⟩ := q
          dsimp only at k0 k1 k3 k4 k5 n1 n2 n2' k2
          go_wp2
          exact ⟨⟨i + 1, by omega, by go_num, HBr.out.alloc HBr.out.size _, HN⟩, by simp [intOf]; omega⟩
        rw [n2] at k2
        by_cases n3 : d.face.procs[i].writes = 0
        rotate_left
        · have hX : Hid (isMainB d.face.procs[i] = false) := by show _ = _; unfold isMainB; simp [n3]
          clear hM n2
          have HN : Hid ((d.face.procs.drop (i + 1)).any isMainB = A) := by show _ = _; rw [← HA.out, main_drop hlt', hX.out]; rfl
          clear HA hX
          generalize d.face.procs[i] = q at *
          obtain ⟨d0, d1, d2, d3, d4, d5⟩ := q
          dsimp only at k0 k1 k3 k4 k5 n1 n3
          go_wp2
          exact ⟨⟨i + 1, by omega, by go_num, HBr.out.alloc HBr.out.size _, HN⟩, by simp [intOf]; omega⟩
        cases n4 : d.face.procs[i].gives
        rotate_left
        · have hX : Hid (isMainB d.face.procs[i] = false) := by show _ = _; unfold isMainB; simp [n4]
          clear hM n2
          rw [n4] at k4
          clear n4
          have HN : Hid ((d.face.procs.drop (i + 1)).any isMainB = A) := by show _ = _; rw [← HA.out, main_drop hlt', hX.out]; rfl
          clear HA hX
          generalize d.face.procs[i] = q at *
          obtain ⟨d0, d1, d2, d3, d4, d5⟩ := q
          dsimp only at k0 k1 k3 k4 k5 n1 n3
          go_wp2
          exact ⟨⟨i + 1, by omega, by go_num, HBr.out.alloc HBr.out.size _, HN⟩, by simp [intOf]; omega⟩
        have hX : isMainB d.face.procs[i] = true := by unfold isMainB; rw [hM]; simp [n2, n3, n4]
        have hAt : A = true := by rw [← HA.out, main_drop hlt', hX]; rfl
        rw [hAt, if_pos rfl] at hV
        clear hX hAt HA hM n2
        rw [n4] at k4
        clear n4
        rw [n3] at k3
        clear n3
        generalize d.face.procs[i] = q at *
        obtain ⟨d0, d1, d2, d3, d4, d5⟩ := q
        dsimp only at k0 k1 k3 k4 k5 n1
        have hF2 := hFd.out (wr.alloc (.cells #[.string d0, .bool d1, .slice ua 0 uc, .int .i64 0, .bool false, .int .i64 d5] 120)) (HBr.out.alloc HBr.out.size _)
        have hB2 := hBs.out (wr.alloc (.cells #[.string d0, .bool d1, .slice ua 0 uc, .int .i64 0, .bool false, .int .i64 d5] 120)) (HBr.out.alloc HBr.out.size _)
        have z6' := keep z6 ((Below.refl wr.heap.size wr).alloc (Nat.le_refl _) (.cells #[.string d0, .bool d1, .slice ua 0 uc, .int .i64 0, .bool false, .int .i64 d5] 120))
        by_cases hF0 : F < 0
        · have HR : Hid (V = -1) := by show _ = _; rw [hV.out, if_pos hF0]
          clear hV
          go_wp2_with (fail)
          refine hF2.mono ?_
          rintro e w5 ⟨rfl, hw5⟩
          subst hw5
          go_wp2
          go_ret
          exact ⟨by rw [HR.out]; rfl, HBr.out.alloc HBr.out.size _⟩
        · have HR : Hid (V = F + BB) := by show _ = _; rw [hV.out, if_neg hF0]
          have hwr : IntKind.i64.wrap (F + BB) = F + BB := by rw [IntKind.wrap_i64]; omega
          clear hV
          go_wp2_with (fail)
          refine hF2.mono ?_
          rintro e w5 ⟨rfl, hw5⟩
          subst hw5
          go_wp2_with (fail)
          refine hB2.mono ?_
          rintro e w5 ⟨rfl, hw5⟩
          subst hw5
          go_wp2
          go_ret
          exact ⟨by rw [HR.out]; rfl, HBr.out.alloc HBr.out.size _⟩
      · have hAf : A = false := by rw [← HA.out, List.drop_eq_nil_of_le (by omega)]; rfl
        have HR : Hid (V = -1) := by show _ = _; rw [hV.out, hAf]; rfl
        clear hV HA hAf hBr
        go_wp2
        go_ret
        exact ⟨by rw [HR.out]; rfl, HBr.out⟩
set_option maxHeartbeats 2000000 in
/-- two images that are alike are one -/
theorem rSameI (c : List Ins) (a b : Option Addr) (c1 c2 : Nat) (lo hi : Int) (w : World) (ha : CodeIn w (.slice a c.length c1) c) (hb : CodeIn w (.slice b c.length c2) c) :
    Calls Tryz.prog 15 #[.agg #[.slice a c.length c1, .int .i64 lo, .int .i64 hi], .agg #[.slice b c.length c2, .int .i64 lo, .int .i64 hi]] w fun e w' => e = .returned (.bool true) ∧ Below w.heap.size w w' := by
  have c3 : Tryz.prog.cellsOf 44 = 3 := by kernel_rfl
  have c5 : Tryz.prog.cellsOf 64 = 5 := by kernel_rfl
  obtain ⟨a', c1', e1, hl, hc⟩ := ha
  cases e1
  obtain ⟨b', c2', e2, _, hd⟩ := hb
  cases e2
  have hB : Below w.heap.size w ((w.alloc (.cells #[.slice a c.length c1, .int .i64 lo, .int .i64 hi] 44)).alloc (.cells #[.slice b c.length c2, .int .i64 lo, .int .i64 hi] 44)) := ((Below.refl _ _).alloc (Nat.le_refl _) _).alloc (by simp) _
  have x0 := ((BoxC.new w #[.slice a c.length c1, .int .i64 lo, .int .i64 hi] 44).alloc (.cells #[.slice b c.length c2, .int .i64 lo, .int .i64 hi] 44)).cell 0 rfl
  have y0 := (BoxC.new (w.alloc (.cells #[.slice a c.length c1, .int .i64 lo, .int .i64 hi] 44)) #[.slice b c.length c2, .int .i64 lo, .int .i64 hi] 44).cell 0 rfl
  rw [World.size_alloc] at y0
  have HB : Hid (Below w.heap.size w ((w.alloc (.cells #[.slice a c.length c1, .int .i64 lo, .int .i64 hi] 44)).alloc (.cells #[.slice b c.length c2, .int .i64 lo, .int .i64 hi] 44))) := hB
  clear hB
  replace hc : Hid (c ≠ [] → ∃ g o, a = some ⟨g, o, none⟩ ∧ ∀ i (h : i < c.length), w.cell? ⟨g, o + i * 5, none⟩ = some (.int .i64 c[i].op) ∧ w.cell? ⟨g, o + i * 5 + 1, none⟩ = some (.int .i64 c[i].a) ∧ w.cell? ⟨g, o + i * 5 + 2, none⟩ = some (.int .i64 c[i].b) ∧ w.cell? ⟨g, o + i * 5 + 3, none⟩ = some (.int .i64 c[i].c) ∧ w.cell? ⟨g, o + i * 5 + 4, none⟩ = some (.int .i64 c[i].n)) := hc
  replace hd : Hid (c ≠ [] → ∃ g o, b = some ⟨g, o, none⟩ ∧ ∀ i (h : i < c.length), w.cell? ⟨g, o + i * 5, none⟩ = some (.int .i64 c[i].op) ∧ w.cell? ⟨g, o + i * 5 + 1, none⟩ = some (.int .i64 c[i].a) ∧ w.cell? ⟨g, o + i * 5 + 2, none⟩ = some (.int .i64 c[i].b) ∧ w.cell? ⟨g, o + i * 5 + 3, none⟩ = some (.int .i64 c[i].c) ∧ w.cell? ⟨g, o + i * 5 + 4, none⟩ = some (.int .i64 c[i].n)) := hd
  have hbn : ∀ z : Int, (z != z) = false := fun z => by simp
  go_enter Tryz.func15, Tryz.ntmps15
  go_wp2
  generalize ((w.alloc (.cells #[.slice a c.length c1, .int .i64 lo, .int .i64 hi] 44)).alloc (.cells #[.slice b c.length c2, .int .i64 lo, .int .i64 hi] 44)) = W at *
  go_loopw [5] (fun t wr => ∃ j : Nat, j ≤ c.length ∧ t = .int .i64 j ∧ ∃ n, wr = W.drewN n) (fun t _ => c.length - (intOf t).toNat)
  case atStart => exact ⟨0, Nat.zero_le _, rfl, 0, rfl⟩
  case round =>
    obtain ⟨j, hj, rfl, n, rfl⟩ := hrel
    by_cases hlt : j < c.length
    · obtain ⟨g, o, rfl, hcc⟩ := hc.out (by intro e; rw [e] at hlt; simp at hlt)
      obtain ⟨g2, o2, rfl, hdd⟩ := hd.out (by intro e; rw [e] at hlt; simp at hlt)
      obtain ⟨k0, k1, k2, k3, k4⟩ := hcc j hlt
      obtain ⟨z0, z1, z2, z3, z4⟩ := hdd j hlt
      have hB5 := HB.out
      replace k0 := keep k0 hB5
      replace k1 := keep k1 hB5
      replace k2 := keep k2 hB5
      replace k3 := keep k3 hB5
      replace k4 := keep k4 hB5
      replace z0 := keep z0 hB5
      replace z1 := keep z1 hB5
      replace z2 := keep z2 hB5
      replace z3 := keep z3 hB5
      replace z4 := keep z4 hB5
      clear hB5 hcc hdd
      generalize c[j] = q at *
      obtain ⟨q0, q1, q2, q3, q4⟩ := q
      dsimp only at k0 k1 k2 k3 k4 z0 z1 z2 z3 z4
      have hE := obj.eqI q0 q1 q2 q3 q4
      have hlt' : (j : Int) < (c.length : Int) := by omega
      go_wp2
      go_quiet (fail)
      go_wp2
      exact ⟨⟨j + 1, by omega, by go_num, _, rfl⟩, by simp [intOf]; omega⟩
    · go_wp2
      go_ret
      exact ⟨rfl, HB.out.trans (below_drewN _ _ _)⟩
end Go.Proofs.YtaiocbbcjdpjgaaGreatDoor.lnk
