/- What the linker's relocate answers: a contract. (Written by mkreloc.py: edit that.) -/
import Derived.Test.YtaiocbbcjdpjgaaGreatDoorLMLnkBeg
import Derived.Test.YtaiocbbcjdpjgaaGreatDoorLMLnkPure
namespace Go.Proofs.YtaiocbbcjdpjgaaGreatDoor.lnk
open Go.RowKit Go.Maps Go.WideMaps
open Go.Proofs.YtaiocbbcjdpjgaaGreatDoor.syn (isName eqS)
open Go.Proofs.YtaiocbbcjdpjgaaGreatDoor.mac (BoxC Ins grown_of_below)
open Go.Proofs.YtaiocbbcjdpjgaaGreatDoor.ord (tkd putd)
open Go.Proofs.YtaiocbbcjdpjgaaGreatDoor.obj (ObjD PlcD RelD Vals ObjAt PlcsIn RelsIn objV relV)
open Go.Proofs.YtaiocbbcjdpjgaaGreatDoor.face (VarD ProcD FaceD FaceIn keep VarsIn ProcsIn)
set_option linter.unusedVariables false
set_option linter.unusedSimpArgs false
set_option maxRecDepth 100000
/-- an order's number becomes one more -/
def addN (c : List Ins) (i : Nat) (v : Int) : List Ins := setN c i (IntKind.i64.wrap ((c[i]?.getD noIns).n + v))
theorem addN_len (c : List Ins) (i : Nat) (v : Int) : (addN c i v).length = c.length := setN_len _ _ _
/-- the orders of one object, relocated; of all -/
def relocO (fb : Thg → Option Int) (o : ObjD) (b : Nat) : List Ins → List RelD → List Ins
  | c, [] => c
  | c, r :: rs => relocO fb o b (addN c (b + r.at'.toNat) ((fb (askedF o r)).getD 0)) rs
def relocL (fb : Thg → Option Int) : Nat → List Ins → List ObjD → List Ins
  | _, c, [] => c
  | b, c, o :: r => relocL fb (b + o.code.length) (relocO fb o b c o.relocs) r
theorem relocO_len (fb : Thg → Option Int) (o : ObjD) (b : Nat) : ∀ (rs : List RelD) (c : List Ins), (relocO fb o b c rs).length = c.length
  | [], _ => rfl
  | r :: rs, c => by rw [relocO, relocO_len fb o b rs, addN_len]
theorem relocL_len (fb : Thg → Option Int) : ∀ (l : List ObjD) (b : Nat) (c : List Ins), (relocL fb b c l).length = c.length
  | [], _, _ => rfl
  | o :: l, b, c => by rw [relocL, relocL_len fb l, relocO_len]
theorem relocL_at {fb : Thg → Option Int} {c : List Ins} {i : Nat} {l : List ObjD} (h : i < l.length) : relocL fb (baseOf l i) c (l.drop i) = relocL fb (baseOf l (i + 1)) (relocO fb l[i] (baseOf l i) c l[i].relocs) (l.drop (i + 1)) := by
  rw [List.drop_eq_getElem_cons h, baseOf_next h]
  rfl
theorem relocO_at {fb : Thg → Option Int} {o : ObjD} {b : Nat} {c : List Ins} {k : Nat} {l : List RelD} (h : k < l.length) : relocO fb o b c (l.drop k) = relocO fb o b (addN c (b + l[k].at'.toNat) ((fb (askedF o l[k])).getD 0)) (l.drop (k + 1)) := by
  rw [List.drop_eq_getElem_cons h]
  rfl
def RelocE (p : Pl) (s : St) (g n cap nm nb : Nat) (w : World) (e : Ending) (w' : World) : Prop := e = .returned (.tuple #[]) ∧ Below p.N w w' ∧ LS w' p s (.slice (some ⟨g, 0, none⟩) n cap) nm nb
set_option maxHeartbeats 4000000 in
theorem oRelocate {w0 w : World} {p : Pl} {s : St} {g cap nm nb : Nat} {l : List ObjD} (h : LS w p s (.slice (some ⟨g, 0, none⟩) s.code.length cap) nm nb) (hB : Below p.N w0 w) (hN : w0.heap.size = p.N) (ho : ObjsIn w0 p.ov l) (hm16 : ∀ o ∈ l, o.face.module.size ≤ 16) (hcl : s.code.length ≤ 1000000)
    (hbeg : ∀ i (h : i < l.length), s.begs ⟨1, l[i].face.module, ⟨#[]⟩⟩ = some ((baseOf l i : Nat) : Int) ∧ baseOf l i + l[i].code.length ≤ s.code.length) (hrel : ∀ o ∈ l, ∀ r ∈ o.relocs, RelOk o r ∧ 0 ≤ r.at' ∧ r.at' < o.code.length) :
    Calls Tryz.prog 48 #[.pointer (some ⟨p.K, 0, none⟩)] w (RelocE p { s with code := relocL s.begs (baseOf l 0) s.code l } g s.code.length cap nm nb w) := by
  have c13 : Tryz.prog.cellsOf 31 = 13 := by kernel_rfl
  have c4 : Tryz.prog.cellsOf 66 = 4 := by kernel_rfl
  have c5i : Tryz.prog.cellsOf 64 = 5 := by kernel_rfl
  have m3 := h.ob
  obtain ⟨oa, oc, hov, hll, hoc⟩ := ho
  rw [hov] at m3
  obtain ⟨C, hC⟩ : ∃ C, C = relocL s.begs (baseOf l 0) s.code l := ⟨_, rfl⟩
  rw [← hC]
  replace hC : Hid (C = relocL s.begs (baseOf l 0) s.code (l.drop 0)) := hC
  obtain ⟨n, hn⟩ : ∃ n, n = s.code.length := ⟨_, rfl⟩
  rw [← hn] at h hbeg hcl ⊢
  replace hrel : Hid (∀ o ∈ l, ∀ r ∈ o.relocs, RelOk o r ∧ 0 ≤ r.at' ∧ r.at' < o.code.length) := hrel
  have HREL := hrel
  clear hrel
  go_enter Tryz.func48, Tryz.ntmps48
  go_wp2
  go_loopw [12] (fun t wr => ∃ (i : Nat) (c : List Ins), i ≤ l.length ∧ t = .int .i64 i ∧ Below p.N w wr ∧ LS wr p { s with code := c } (.slice (some ⟨g, 0, none⟩) n cap) nm nb ∧ c.length = n ∧ Hid (C = relocL s.begs (baseOf l i) c (l.drop i))) (fun t _ => l.length - (intOf t).toNat)
  case atStart => exact ⟨0, s.code, Nat.zero_le _, rfl, Below.refl _ _, h, hn.symm, hC⟩
  case round =>
    clear hC h
    obtain ⟨i, c, hi, rfl, hBr, hL, hcn, HT⟩ := hrel
    by_cases hlt : i < l.length
    · obtain ⟨g1, o1, rfl, hcc⟩ := hoc (by intro e; rw [e] at hlt; simp at hlt)
      obtain ⟨x, hat, hcs⟩ := hcc i hlt
      have hB1 : Below w0.heap.size w0 wr := by rw [hN]; exact hB.trans hBr
      have hcs1 := hcs.below hB1
      have hm1 := hm16 l[i] (List.getElem_mem hlt)
      have hro := HREL.out l[i] (List.getElem_mem hlt)
      obtain ⟨hbg, hbl⟩ := hbeg i hlt
      obtain ⟨a1, c1, a2, c2, a3, c3', a4, c4', a5, c5, a6, c6, a7, c7, a8, c8, rfl⟩ := hat.shape
      obtain ⟨y0, y1, y2, y3, y4, y5, y6, y7, y8, y9, y10, y11, y12⟩ := hcs1
      dsimp only at y1 y2 y3 y4 y5 y6 y7 y8
      have him := hat.rels
      dsimp only at him
      have HI : Hid (C = relocL s.begs (baseOf l (i + 1)) (relocO s.begs l[i] (baseOf l i) c (l[i].relocs.drop 0)) (l.drop (i + 1))) := by show _ = _; rw [HT.out, relocL_at hlt]; rfl
      clear HT hcc hoc hcs hbeg
      generalize hgi : l[i] = d at *
      generalize hb5 : baseOf l (i + 1) = b' at *
      replace hb5 : Hid (baseOf l (i + 1) = b') := hb5
      generalize baseOf l i = b at *
      obtain ⟨ia, ic, hia, hil, hic⟩ := him
      simp only [Value.slice.injEq, true_and] at hia
      obtain ⟨rfl, rfl⟩ := hia
      have hNr : p.N ≤ wr.heap.size := by have := hL.n1; have := hL.box.lt; omega
      have hBin : Below wr.heap.size wr (wr.alloc (.cells #[.string d.face.module, .slice a1 d.face.vars.length c1, .slice a2 d.face.procs.length c2, .slice a3 d.imports.length c3', .slice a4 d.code.length c4', .slice a5 d.relocs.length c5, .slice a6 d.procs.length c6, .slice a7 d.lows.length c7, .slice a8 d.highs.length c8, .int .i64 d.low, .int .i64 d.high, .int .i64 d.lowF, .int .i64 d.highF] 31)) := (Below.refl _ _).alloc (Nat.le_refl _) _
      have hbo := BoxC.new wr #[.string d.face.module, .slice a1 d.face.vars.length c1, .slice a2 d.face.procs.length c2, .slice a3 d.imports.length c3', .slice a4 d.code.length c4', .slice a5 d.relocs.length c5, .slice a6 d.procs.length c6, .slice a7 d.lows.length c7, .slice a8 d.highs.length c8, .int .i64 d.low, .int .i64 d.high, .int .i64 d.lowF, .int .i64 d.highF] 31
      have hgB : g < wr.heap.size := hL.lt.2.2.2 g rfl
      have hKB : p.K < wr.heap.size := hL.box.lt
      have hbB : p.bb < wr.heap.size := hL.bm.lt
      have hLa := hL.below hBin
      have hLb : LS (wr.alloc (.cells #[.string d.face.module, .slice a1 d.face.vars.length c1, .slice a2 d.face.procs.length c2, .slice a3 d.imports.length c3', .slice a4 d.code.length c4', .slice a5 d.relocs.length c5, .slice a6 d.procs.length c6, .slice a7 d.lows.length c7, .slice a8 d.highs.length c8, .int .i64 d.low, .int .i64 d.high, .int .i64 d.lowF, .int .i64 d.highF] 31)) p { s with code := c } (.slice (some ⟨g, 0, none⟩) ({ s with code := c } : St).code.length cap) nm nb := by show LS _ _ _ (.slice _ c.length _) _ _; rw [hcn]; exact hLa
      have hOr := oOrders hLb d ⟨.slice a1 d.face.vars.length c1, .slice a2 d.face.procs.length c2, .slice a3 d.imports.length c3', .slice a4 d.code.length c4', .slice a5 d.relocs.length c5, .slice a6 d.procs.length c6, .slice a7 d.lows.length c7, .slice a8 d.highs.length c8⟩ (hat.below (by rw [hN]; exact hB.trans (hBr.trans (hBin.mono hNr)))) b hm1 hbg (by show _ ≤ c.length; omega) (by show c.length ≤ _; omega)
      clear hLb
      unfold objV at hOr
      dsimp only at hOr
      go_wp2_with (fail)
      refine hOr.mono ?_
      rintro e w2 ⟨hb2, g', c', rfl, hg'⟩
      clear hOr
      have hL2 := hLa.below hb2
      replace hbo := hbo.below hb2
      have hB2 := (hBr.trans (hBin.mono hNr)).trans (hb2.mono (by rw [World.size_alloc]; omega))
      clear hLa hL hBin hb2 hBr hB1
      have z5 := hbo.cell 5 rfl
      go_wp2
      clear z5
      generalize wr.heap.size = B1 at *
      go_loopw [22] (fun t wr => ∃ (k : Nat) (c : List Ins), k ≤ d.relocs.length ∧ t = .int .i64 k ∧ Below p.N w wr ∧ BoxC wr B1 #[.string d.face.module, .slice a1 d.face.vars.length c1, .slice a2 d.face.procs.length c2, .slice a3 d.imports.length c3', .slice a4 d.code.length c4', .slice a5 d.relocs.length c5, .slice a6 d.procs.length c6, .slice a7 d.lows.length c7, .slice a8 d.highs.length c8, .int .i64 d.low, .int .i64 d.high, .int .i64 d.lowF, .int .i64 d.highF] 31 ∧ LS wr p { s with code := c } (.slice (some ⟨g, 0, none⟩) n cap) nm nb ∧ c.length = n ∧ Hid (C = relocL s.begs b' (relocO s.begs d b c (d.relocs.drop k)) (l.drop (i + 1)))) (fun t _ => d.relocs.length - (intOf t).toNat)
      case atStart => exact ⟨0, c, Nat.zero_le _, rfl, hB2, hbo, hL2, hcn, HI⟩
      case round =>
        clear HI hB2 hbo hL2 hcn c
        obtain ⟨k, c, hk, rfl, hBr, hbo, hL, hcn, HI⟩ := hrel
        by_cases hkl : k < d.relocs.length
        · obtain ⟨g2, o2, rfl, hcc⟩ := hic (by intro e; rw [e] at hkl; simp at hkl)
          obtain ⟨k0, k1, k2, k3⟩ := hcc k hkl
          have hB1 : Below w0.heap.size w0 wr := by rw [hN]; exact hB.trans hBr
          replace k0 := keep k0 hB1
          replace k1 := keep k1 hB1
          replace k2 := keep k2 hB1
          replace k3 := keep k3 hB1
          obtain ⟨hqn, hq0, hq1⟩ := hro _ (List.getElem_mem hkl)
          rw [relocO_at hkl] at HI
          clear hcc hic
          generalize d.relocs[k] = q at *
          have hok := hqn.asked
          obtain ⟨qa, qk, qm, qn⟩ := q
          dsimp only at k0 k1 k2 k3 hq0 hq1 HI
          obtain ⟨A, rfl⟩ : ∃ A : Nat, qa = (A : Int) := ⟨qa.toNat, (Int.toNat_of_nonneg hq0).symm⟩
          rw [Int.toNat_natCast] at HI
          have hAd : A < d.code.length := by omega
          obtain rfl : g' = b * 5 := hg' (by omega)
          have hbA : b + A < c.length := by omega
          have hcell : ∀ wq, LS wq p { s with code := c } (.slice (some ⟨g, 0, none⟩) n cap) nm nb → wq.cell? ⟨g, b * 5 + A * 5 + 4, none⟩ = some (.int .i64 c[b + A].n) := fun wq h => by
            have e : b * 5 + A * 5 + 4 = (b + A) * 5 + 4 := by omega
            have hr := h.row
            rw [show (n : Nat) = c.length from hcn.symm] at hr
            rw [e, hr.cellAt ((b + A) * 5 + 4) (by show _ < c.length * 5; omega), flat5_at _ _ hbA 4 (by decide)]
            rfl
          have hL2 := hL.alloc (.cells #[.int .i64 (A : Int), .int .i64 qk, .string qm, .string qn] 66)
          have hbo2 := hbo.alloc (.cells #[.int .i64 (A : Int), .int .i64 qk, .string qm, .string qn] 66)
          have hbx := BoxC.new wr #[.int .i64 (A : Int), .int .i64 qk, .string qm, .string qn] 66
          have hNr2 : p.N ≤ wr.heap.size := by have := hL.n1; have := hL.box.lt; omega
          have hGz := hBr.alloc hNr2 (.cells #[.int .i64 (A : Int), .int .i64 qk, .string qm, .string qn] 66)
          have hgW : g < wr.heap.size := hL.lt.2.2.2 g rfl
          have hnm : c[b + A]?.getD noIns = c[b + A] := by rw [List.getElem?_eq_getElem hbA]; rfl
          unfold addN at HI
          rw [hnm] at HI
          clear hnm
          generalize hcv : c[b + A].n = v0 at *
          have hlk : ∀ wq, MapT wq p.bb nb s.begs → (Instr.lookup 90 (.map (some p.bb)) (thgV (askedF d ⟨(A : Int), qk, qm, qn⟩)) false).run Tryz.prog wq = .ok (.int .i64 ((s.begs (askedF d ⟨(A : Int), qk, qm, qn⟩)).getD 0)) wq := fun wq h => h.run_look _ hok
          generalize (s.begs (askedF d ⟨(A : Int), qk, qm, qn⟩)).getD 0 = G at *
          go_wp2
          refine wp_region_held_drew (S := fun W => W.cell? ⟨p.K, 5, none⟩ = some (.map (some p.bb)) ∧ MapT W p.bb nb s.begs ∧ BoxC W B1 #[.string d.face.module, .slice a1 d.face.vars.length c1, .slice a2 d.face.procs.length c2, .slice a3 d.imports.length c3', .slice a4 d.code.length c4', .slice (some ⟨g2, o2, none⟩) d.relocs.length c5, .slice a6 d.procs.length c6, .slice a7 d.lows.length c7, .slice a8 d.highs.length c8, .int .i64 d.low, .int .i64 d.high, .int .i64 d.lowF, .int .i64 d.highF] 31 ∧ BoxC W wr.heap.size #[.int .i64 (A : Int), .int .i64 qk, .string qm, .string qn] 66) (by kernel_rfl) ⟨hL2.drew.be, hL2.drew.bm, hbo2.below (Below.refl _ _).drew, hbx.below (Below.refl _ _).drew⟩ (fun hS => ?_)
          replace hGz := hGz.drew
          replace hL2 := hL2.drew
          generalize (wr.alloc (.cells #[.int .i64 (A : Int), .int .i64 qk, .string qm, .string qn] 66)).drew = W at hGz hS hL2 ⊢
          generalize wr.heap.size = B at *
          clear hbx hbo2 hbo hL hB1
          refine tkd (i := 0) (v := .slice (some ⟨g, b * 5, none⟩) d.code.length c' ) rfl rfl (by kernel_rfl) (by kernel_rfl) (by kernel_rfl) (fun _ _ _ h => h) (Or.inl ⟨by rfl, fun wq hSw => by skip; go_simp⟩) hS ?_
          simp only [List.setIfInBounds_toArray, List.set_cons_zero, List.set_cons_succ]
          refine tkd (i := 1) (v := .pointer (some ⟨B, 0, none⟩)) rfl rfl (by kernel_rfl) (by kernel_rfl) (by kernel_rfl) (fun _ _ _ h => h) (Or.inl ⟨by rfl, fun wq hSw => by skip; go_simp⟩) hS ?_
          simp only [List.setIfInBounds_toArray, List.set_cons_zero, List.set_cons_succ]
          refine tkd (i := 2) (v := .int .i64 (A : Int)) rfl rfl (by kernel_rfl) (by kernel_rfl) (by kernel_rfl) (fun _ _ _ h => h) (Or.inl ⟨by rfl, fun wq hSw => by have m := hSw.2.2.2.cell 0 rfl; go_simp⟩) hS ?_
          simp only [List.setIfInBounds_toArray, List.set_cons_zero, List.set_cons_succ]
          refine tkd (i := 3) (v := .pointer (some ⟨g, b * 5 + A * 5, none⟩)) rfl rfl (by kernel_rfl) (by kernel_rfl) (by kernel_rfl) (fun _ _ _ h => h) (Or.inl ⟨by rfl, fun wq hSw => by have m := hAd; go_simp⟩) hS ?_
          simp only [List.setIfInBounds_toArray, List.set_cons_zero, List.set_cons_succ]
          refine tkd (i := 4) (v := .pointer (some ⟨g, b * 5 + A * 5 + 4, none⟩)) rfl rfl (by kernel_rfl) (by kernel_rfl) (by kernel_rfl) (fun _ _ _ h => h) (Or.inl ⟨by rfl, fun wq hSw => by skip; go_simp⟩) hS ?_
          simp only [List.setIfInBounds_toArray, List.set_cons_zero, List.set_cons_succ]
          refine tkd (i := 6) (v := .pointer (some ⟨p.K, 0, none⟩)) rfl rfl (by kernel_rfl) (by kernel_rfl) (by kernel_rfl) (fun _ _ _ h => h) (Or.inl ⟨by rfl, fun wq hSw => by skip; go_simp⟩) hS ?_
          simp only [List.setIfInBounds_toArray, List.set_cons_zero, List.set_cons_succ]
          refine tkd (i := 7) (v := .pointer (some ⟨p.K, 0, none⟩)) rfl rfl (by kernel_rfl) (by kernel_rfl) (by kernel_rfl) (fun _ _ _ h => h) (Or.inl ⟨by rfl, fun wq hSw => by skip; go_simp⟩) hS ?_
          simp only [List.setIfInBounds_toArray, List.set_cons_zero, List.set_cons_succ]
          refine tkd (i := 8) (v := .pointer (some ⟨p.K, 5, none⟩)) rfl rfl (by kernel_rfl) (by kernel_rfl) (by kernel_rfl) (fun _ _ _ h => h) (Or.inl ⟨by rfl, fun wq hSw => by skip; go_simp⟩) hS ?_
          simp only [List.setIfInBounds_toArray, List.set_cons_zero, List.set_cons_succ]
          refine tkd (i := 9) (v := .map (some p.bb)) rfl rfl (by kernel_rfl) (by kernel_rfl) (by kernel_rfl) (fun _ _ _ h => h) (Or.inl ⟨by rfl, fun wq hSw => by have m := hSw.1; go_simp⟩) hS ?_
          simp only [List.setIfInBounds_toArray, List.set_cons_zero, List.set_cons_succ]
          refine tkd (i := 10) (v := .agg #[.string d.face.module, .slice a1 d.face.vars.length c1, .slice a2 d.face.procs.length c2, .slice a3 d.imports.length c3', .slice a4 d.code.length c4', .slice (some ⟨g2, o2, none⟩) d.relocs.length c5, .slice a6 d.procs.length c6, .slice a7 d.lows.length c7, .slice a8 d.highs.length c8, .int .i64 d.low, .int .i64 d.high, .int .i64 d.lowF, .int .i64 d.highF] ) rfl rfl (by kernel_rfl) (by kernel_rfl) (by kernel_rfl) (fun _ _ _ h => h) (Or.inl ⟨by rfl, fun wq hSw => by have z0 := hSw.2.2.1.cell 0 rfl; have z1 := hSw.2.2.1.cell 1 rfl; have z2 := hSw.2.2.1.cell 2 rfl; have z3 := hSw.2.2.1.cell 3 rfl; have z4 := hSw.2.2.1.cell 4 rfl; have z5 := hSw.2.2.1.cell 5 rfl; have z6 := hSw.2.2.1.cell 6 rfl; have z7 := hSw.2.2.1.cell 7 rfl; have z8 := hSw.2.2.1.cell 8 rfl; have z9 := hSw.2.2.1.cell 9 rfl; have z10 := hSw.2.2.1.cell 10 rfl; have z11 := hSw.2.2.1.cell 11 rfl; have z12 := hSw.2.2.1.cell 12 rfl; go_simp⟩) hS ?_
          simp only [List.setIfInBounds_toArray, List.set_cons_zero, List.set_cons_succ]
          refine tkd (i := 11) (v := .agg #[.int .i64 (A : Int), .int .i64 qk, .string qm, .string qn] ) rfl rfl (by kernel_rfl) (by kernel_rfl) (by kernel_rfl) (fun _ _ _ h => h) (Or.inl ⟨by rfl, fun wq hSw => by have z0 := hSw.2.2.2.cell 0 rfl; have z1 := hSw.2.2.2.cell 1 rfl; have z2 := hSw.2.2.2.cell 2 rfl; have z3 := hSw.2.2.2.cell 3 rfl; go_simp⟩) hS ?_
          simp only [List.setIfInBounds_toArray, List.set_cons_zero, List.set_cons_succ]
          have hBW : Below w0.heap.size w0 W := by rw [hN]; exact hB.trans hGz
          have hNW : p.N ≤ W.heap.size := by have := hL2.n1; have := hL2.box.lt; omega
          have hC := oAsked d ⟨.slice a1 d.face.vars.length c1, .slice a2 d.face.procs.length c2, .slice a3 d.imports.length c3', .slice a4 d.code.length c4', .slice (some ⟨g2, o2, none⟩) d.relocs.length c5, .slice a6 d.procs.length c6, .slice a7 d.lows.length c7, .slice a8 d.highs.length c8⟩ ⟨(A : Int), qk, qm, qn⟩ W (hat.below hBW)
          unfold objV relV at hC
          dsimp only at hC
          have hz := hcell W hL2
          refine wpAnyH_ready (rs := [5, 12]) (by kernel_rfl) (by simp) ?_
          refine AllReadyH.cons rfl (fun K hK => ?_) (AllReadyH.cons rfl (fun K hK => ?_) AllReadyH.nil)
          · go_simp
            refine hK.out _ _ hS (fun _ => ?_)
            clear hK K
            refine wpAnyH_ready (rs := [12]) (by kernel_rfl) (by simp) ?_
            refine AllReadyH.cons rfl (fun K hK => ?_) AllReadyH.nil
            go_simp
            go_at_call 83
            refine hC.mono ?_
            rintro e w1 ⟨rfl, hb1⟩
            clear hC hz
            replace hGz := hGz.trans (hb1.mono hNW)
            replace hL2 := hL2.below hb1
            replace hS : w1.cell? ⟨p.K, 5, none⟩ = some (.map (some p.bb)) ∧ MapT w1 p.bb nb s.begs ∧ BoxC w1 B1 #[.string d.face.module, .slice a1 d.face.vars.length c1, .slice a2 d.face.procs.length c2, .slice a3 d.imports.length c3', .slice a4 d.code.length c4', .slice (some ⟨g2, o2, none⟩) d.relocs.length c5, .slice a6 d.procs.length c6, .slice a7 d.lows.length c7, .slice a8 d.highs.length c8, .int .i64 d.low, .int .i64 d.high, .int .i64 d.lowF, .int .i64 d.highF] 31 ∧ BoxC w1 B #[.int .i64 (A : Int), .int .i64 qk, .string qm, .string qn] 66 := ⟨hL2.be, hL2.bm, hS.2.2.1.below hb1, hS.2.2.2.below hb1⟩
            go_wp2
            refine hK.out _ _ hS (fun _ => ?_)
            clear hK K hb1 hBW
            refine tkd (i := 13) (v := .int .i64 G) rfl rfl (by kernel_rfl) (by kernel_rfl) (by kernel_rfl) (fun _ _ _ h => h) (Or.inl ⟨by rfl, fun wq hSw => by have m := hlk wq hSw.2.1; go_simp⟩) hS ?_
            simp only [List.setIfInBounds_toArray, List.set_cons_zero, List.set_cons_succ]
            refine tkd (i := 14) (v := .int .i64 (IntKind.i64.wrap (v0 + G))) rfl rfl (by kernel_rfl) (by kernel_rfl) (by kernel_rfl) (fun _ _ _ h => h) (Or.inl ⟨by rfl, fun wq hSw => by skip; go_simp⟩) hS ?_
            simp only [List.setIfInBounds_toArray, List.set_cons_zero, List.set_cons_succ]
            refine tkd (i := 15) (v := .pointer (some ⟨g, b * 5 + A * 5, none⟩)) rfl rfl (by kernel_rfl) (by kernel_rfl) (by kernel_rfl) (fun _ _ _ h => h) (Or.inl ⟨by rfl, fun wq hSw => by have m := hAd; go_simp⟩) hS ?_
            simp only [List.setIfInBounds_toArray, List.set_cons_zero, List.set_cons_succ]
            refine tkd (i := 16) (v := .pointer (some ⟨g, b * 5 + A * 5 + 4, none⟩)) rfl rfl (by kernel_rfl) (by kernel_rfl) (by kernel_rfl) (fun _ _ _ h => h) (Or.inl ⟨by rfl, fun wq hSw => by skip; go_simp⟩) hS ?_
            simp only [List.setIfInBounds_toArray, List.set_cons_zero, List.set_cons_succ]
            have hz := hcell w1 hL2
            have hfz := (hL2.gcell hcn.symm (j := (b + A) * 5 + 4) (by omega)).2
            have ee : b * 5 + A * 5 + 4 = (b + A) * 5 + 4 := by omega
            rw [← ee] at hfz
            have hL4 : LS w1 p { s with code := c } (.slice (some ⟨g, 0, none⟩) ({ s with code := c } : St).code.length cap) nm nb := by show LS _ _ _ (.slice _ c.length _) _ _; rw [hcn]; exact hL2
            have hL3 := hL4.setN' (i := b + A) hbA (IntKind.i64.wrap (v0 + G))
            rw [setN_len] at hL3
            rw [← ee] at hL3
            replace hL3 : Hid (LS _ _ _ _ _ _) := hL3
            have hgN := hL2.gN
            have hGg := hGz.setCell (p := ⟨g, b * 5 + A * 5 + 4, none⟩) hgN (.int .i64 (IntKind.i64.wrap (v0 + G)))
            replace hGg : Hid (Below _ _ _) := hGg
            clear hL4 ee
            refine wpAnyH_ready (rs := [17]) (by kernel_rfl) (by simp) ?_
            refine AllReadyH.cons rfl (fun K hK => ?_) AllReadyH.nil
            go_simp
            have hgw := mac.grown_set w1 g (b * 5 + A * 5 + 4) (.int .i64 (IntKind.i64.wrap (v0 + G)))
            replace hS : (w1.setCell ⟨g, b * 5 + A * 5 + 4, none⟩ (.int .i64 (IntKind.i64.wrap (v0 + G)))).cell? ⟨p.K, 5, none⟩ = some (.map (some p.bb)) ∧ MapT (w1.setCell ⟨g, b * 5 + A * 5 + 4, none⟩ (.int .i64 (IntKind.i64.wrap (v0 + G)))) p.bb nb s.begs ∧ BoxC (w1.setCell ⟨g, b * 5 + A * 5 + 4, none⟩ (.int .i64 (IntKind.i64.wrap (v0 + G)))) B1 #[.string d.face.module, .slice a1 d.face.vars.length c1, .slice a2 d.face.procs.length c2, .slice a3 d.imports.length c3', .slice a4 d.code.length c4', .slice (some ⟨g2, o2, none⟩) d.relocs.length c5, .slice a6 d.procs.length c6, .slice a7 d.lows.length c7, .slice a8 d.highs.length c8, .int .i64 d.low, .int .i64 d.high, .int .i64 d.lowF, .int .i64 d.highF] 31 ∧ BoxC (w1.setCell ⟨g, b * 5 + A * 5 + 4, none⟩ (.int .i64 (IntKind.i64.wrap (v0 + G)))) B #[.int .i64 (A : Int), .int .i64 qk, .string qm, .string qn] 66 := ⟨hL3.out.be, hL3.out.bm, hS.2.2.1.grown hgw (fun e => by have := Option.some.inj e; omega), hS.2.2.2.grown hgw (fun e => by have := Option.some.inj e; omega)⟩
            refine hK.out _ _ hS (fun _ => ?_)
            clear hK K hgw hz hfz
            generalize (w1.setCell ⟨g, b * 5 + A * 5 + 4, none⟩ (.int .i64 (IntKind.i64.wrap (v0 + G)))) = W9 at *
            refine wpAnyH_done (by kernel_rfl) ?_ _
            clear hlk hcell
            go_wp2
            exact ⟨⟨k + 1, setN c (b + A) (IntKind.i64.wrap (v0 + G)), by omega, by go_num, hGg.out, hS.2.2.1, by have := hL3.out; show LS _ _ _ _ _ _; rw [← hcn]; exact this, by rw [setN_len]; exact hcn, HI⟩, by simp [intOf]; omega⟩
          · go_simp
            go_at_call 83
            refine hC.mono ?_
            rintro e w1 ⟨rfl, hb1⟩
            clear hC hz
            replace hGz := hGz.trans (hb1.mono hNW)
            replace hL2 := hL2.below hb1
            replace hS : w1.cell? ⟨p.K, 5, none⟩ = some (.map (some p.bb)) ∧ MapT w1 p.bb nb s.begs ∧ BoxC w1 B1 #[.string d.face.module, .slice a1 d.face.vars.length c1, .slice a2 d.face.procs.length c2, .slice a3 d.imports.length c3', .slice a4 d.code.length c4', .slice (some ⟨g2, o2, none⟩) d.relocs.length c5, .slice a6 d.procs.length c6, .slice a7 d.lows.length c7, .slice a8 d.highs.length c8, .int .i64 d.low, .int .i64 d.high, .int .i64 d.lowF, .int .i64 d.highF] 31 ∧ BoxC w1 B #[.int .i64 (A : Int), .int .i64 qk, .string qm, .string qn] 66 := ⟨hL2.be, hL2.bm, hS.2.2.1.below hb1, hS.2.2.2.below hb1⟩
            go_wp2
            refine hK.out _ _ hS (fun _ => ?_)
            clear hK K hb1 hBW
            refine tkd (i := 13) (v := .int .i64 G) rfl rfl (by kernel_rfl) (by kernel_rfl) (by kernel_rfl) (fun _ _ _ h => h) (Or.inl ⟨by rfl, fun wq hSw => by have m := hlk wq hSw.2.1; go_simp⟩) hS ?_
            simp only [List.setIfInBounds_toArray, List.set_cons_zero, List.set_cons_succ]
            have hz := hcell w1 hL2
            refine wpAnyH_ready (rs := [5]) (by kernel_rfl) (by simp) ?_
            refine AllReadyH.cons rfl (fun K hK => ?_) AllReadyH.nil
            go_simp
            refine hK.out _ _ hS (fun _ => ?_)
            clear hK K hz
            refine tkd (i := 14) (v := .int .i64 (IntKind.i64.wrap (v0 + G))) rfl rfl (by kernel_rfl) (by kernel_rfl) (by kernel_rfl) (fun _ _ _ h => h) (Or.inl ⟨by rfl, fun wq hSw => by skip; go_simp⟩) hS ?_
            simp only [List.setIfInBounds_toArray, List.set_cons_zero, List.set_cons_succ]
            refine tkd (i := 15) (v := .pointer (some ⟨g, b * 5 + A * 5, none⟩)) rfl rfl (by kernel_rfl) (by kernel_rfl) (by kernel_rfl) (fun _ _ _ h => h) (Or.inl ⟨by rfl, fun wq hSw => by have m := hAd; go_simp⟩) hS ?_
            simp only [List.setIfInBounds_toArray, List.set_cons_zero, List.set_cons_succ]
            refine tkd (i := 16) (v := .pointer (some ⟨g, b * 5 + A * 5 + 4, none⟩)) rfl rfl (by kernel_rfl) (by kernel_rfl) (by kernel_rfl) (fun _ _ _ h => h) (Or.inl ⟨by rfl, fun wq hSw => by skip; go_simp⟩) hS ?_
            simp only [List.setIfInBounds_toArray, List.set_cons_zero, List.set_cons_succ]
            have hz := hcell w1 hL2
            have hfz := (hL2.gcell hcn.symm (j := (b + A) * 5 + 4) (by omega)).2
            have ee : b * 5 + A * 5 + 4 = (b + A) * 5 + 4 := by omega
            rw [← ee] at hfz
            have hL4 : LS w1 p { s with code := c } (.slice (some ⟨g, 0, none⟩) ({ s with code := c } : St).code.length cap) nm nb := by show LS _ _ _ (.slice _ c.length _) _ _; rw [hcn]; exact hL2
            have hL3 := hL4.setN' (i := b + A) hbA (IntKind.i64.wrap (v0 + G))
            rw [setN_len] at hL3
            rw [← ee] at hL3
            replace hL3 : Hid (LS _ _ _ _ _ _) := hL3
            have hgN := hL2.gN
            have hGg := hGz.setCell (p := ⟨g, b * 5 + A * 5 + 4, none⟩) hgN (.int .i64 (IntKind.i64.wrap (v0 + G)))
            replace hGg : Hid (Below _ _ _) := hGg
            clear hL4 ee
            refine wpAnyH_ready (rs := [17]) (by kernel_rfl) (by simp) ?_
            refine AllReadyH.cons rfl (fun K hK => ?_) AllReadyH.nil
            go_simp
            have hgw := mac.grown_set w1 g (b * 5 + A * 5 + 4) (.int .i64 (IntKind.i64.wrap (v0 + G)))
            replace hS : (w1.setCell ⟨g, b * 5 + A * 5 + 4, none⟩ (.int .i64 (IntKind.i64.wrap (v0 + G)))).cell? ⟨p.K, 5, none⟩ = some (.map (some p.bb)) ∧ MapT (w1.setCell ⟨g, b * 5 + A * 5 + 4, none⟩ (.int .i64 (IntKind.i64.wrap (v0 + G)))) p.bb nb s.begs ∧ BoxC (w1.setCell ⟨g, b * 5 + A * 5 + 4, none⟩ (.int .i64 (IntKind.i64.wrap (v0 + G)))) B1 #[.string d.face.module, .slice a1 d.face.vars.length c1, .slice a2 d.face.procs.length c2, .slice a3 d.imports.length c3', .slice a4 d.code.length c4', .slice (some ⟨g2, o2, none⟩) d.relocs.length c5, .slice a6 d.procs.length c6, .slice a7 d.lows.length c7, .slice a8 d.highs.length c8, .int .i64 d.low, .int .i64 d.high, .int .i64 d.lowF, .int .i64 d.highF] 31 ∧ BoxC (w1.setCell ⟨g, b * 5 + A * 5 + 4, none⟩ (.int .i64 (IntKind.i64.wrap (v0 + G)))) B #[.int .i64 (A : Int), .int .i64 qk, .string qm, .string qn] 66 := ⟨hL3.out.be, hL3.out.bm, hS.2.2.1.grown hgw (fun e => by have := Option.some.inj e; omega), hS.2.2.2.grown hgw (fun e => by have := Option.some.inj e; omega)⟩
            refine hK.out _ _ hS (fun _ => ?_)
            clear hK K hgw hz hfz
            generalize (w1.setCell ⟨g, b * 5 + A * 5 + 4, none⟩ (.int .i64 (IntKind.i64.wrap (v0 + G)))) = W9 at *
            refine wpAnyH_done (by kernel_rfl) ?_ _
            clear hlk hcell
            go_wp2
            exact ⟨⟨k + 1, setN c (b + A) (IntKind.i64.wrap (v0 + G)), by omega, by go_num, hGg.out, hS.2.2.1, by have := hL3.out; show LS _ _ _ _ _ _; rw [← hcn]; exact this, by rw [setN_len]; exact hcn, HI⟩, by simp [intOf]; omega⟩
        · have HN : Hid (C = relocL s.begs b' c (l.drop (i + 1))) := by show _ = _; rw [HI.out, List.drop_eq_nil_of_le (by omega)]; rfl
          clear HI
          go_wp2
          exact ⟨⟨i + 1, c, by omega, by go_num, hBr, hL, hcn, by show _ = _; rw [HN.out, hb5.out]⟩, by simp [intOf]; omega⟩
    · have HE : Hid (C = c) := by show _ = _; rw [HT.out, List.drop_eq_nil_of_le (by omega)]; rfl
      clear HT
      go_wp2
      go_end0
      exact ⟨rfl, hBr, by rw [HE.out]; exact hL⟩
end Go.Proofs.YtaiocbbcjdpjgaaGreatDoor.lnk
