/- An order in the linker's row turns: memory. What IsOrderAmong answers: a contract. What the linker's tryOrders answers: a contract. (Written by mkord.py: edit that.) -/
import Derived.Test.YtaiocbbcjdpjgaaGreatDoorLMLnkAdd
namespace Go.Proofs.YtaiocbbcjdpjgaaGreatDoor.lnk
open Go.RowKit
open Go.Proofs.YtaiocbbcjdpjgaaGreatDoor.mac (BoxC Ins grown_of_below)
set_option linter.unusedVariables false
set_option linter.unusedSimpArgs false
/-- a cell of a row of one's own turns -/
theorem own_set {w : World} {base g n cap size : Nat} {e : TypeId} {xs : List Value} (h : w.ownsRow base e size (.slice (some ⟨g, 0, none⟩) n cap) n xs) (j : Nat) (hj : j < n * size) (u : Value) :
    (w.setCell ⟨g, j, none⟩ u).ownsRow base e size (.slice (some ⟨g, 0, none⟩) n cap) n (xs.set j u) := by
  obtain ⟨h1, h2⟩ := h
  rcases h2 with ⟨e1, _⟩ | ⟨g', cap', cur, e1, hb, hg, h3, h4, h5, h6⟩
  · cases e1
  · cases e1
    refine ⟨by rw [List.length_set]; exact h1, .inr ⟨g, cap, cur.setIfInBounds j u, rfl, hb, ?_, h3, h4, by rw [Array.size_setIfInBounds]; exact h5, ?_⟩⟩
    · exact BoxC.set (W := w) (B := g) (cs := cur) (T := e) hg j u
    · rw [Array.toList_setIfInBounds, ← h6, List.take_set]
/-- an order's number turns -/
def setN (l : List Ins) (i : Nat) (v : Int) : List Ins := l.modify i fun x => { x with n := v }
theorem setN_len (l : List Ins) (i : Nat) (v : Int) : (setN l i v).length = l.length := by simp [setN]
theorem setN_flat : ∀ (l : List Ins) (i : Nat) (v : Int), i < l.length → (l.flatMap insC).set (i * 5 + 4) (.int .i64 v) = (setN l i v).flatMap insC
  | [], i, v, h => by simp at h
  | x :: r, 0, v, h => by simp [setN, insC]
  | x :: r, i + 1, v, h => by
    have ih := setN_flat r i v (by simpa using h)
    have e : (i + 1) * 5 + 4 = (insC x).length + (i * 5 + 4) := by show _ = 5 + _; omega
    rw [List.flatMap_cons, e, List.set_append_right _ _ (by omega), Nat.add_sub_cancel_left, ih]
    simp [setN]
theorem LS.setN' {w : World} {p : Pl} {s : St} {g cap nm nb : Nat} (h : LS w p s (.slice (some ⟨g, 0, none⟩) s.code.length cap) nm nb) {i : Nat} (hi : i < s.code.length) (v : Int) :
    LS (w.setCell ⟨g, i * 5 + 4, none⟩ (.int .i64 v)) p { s with code := setN s.code i v } (.slice (some ⟨g, 0, none⟩) (setN s.code i v).length cap) nm nb := by
  have e1 : g ≠ p.K := fun e => h.r1 (by rw [e]; rfl)
  have e2 : g ≠ p.mb := fun e => h.r2 (by rw [e]; rfl)
  have e3 : g ≠ p.bb := fun e => h.r3 (by rw [e]; rfl)
  have hrow := own_set h.row (i * 5 + 4) (by omega) (.int .i64 v)
  rw [setN_flat _ _ _ hi] at hrow
  have hg := mac.grown_set w g (i * 5 + 4) (.int .i64 v)
  rw [setN_len]
  refine { h with box := h.box.grown hg (fun e => e1 (Option.some.inj e)), row := ?_, mm := h.mm.kept hg (fun e => e2 (Option.some.inj e).symm), bm := h.bm.kept hg (fun e => e3 (Option.some.inj e).symm) }
  show World.ownsRow _ _ _ _ _ (setN s.code i v).length _
  rw [setN_len]
  exact hrow
end Go.Proofs.YtaiocbbcjdpjgaaGreatDoor.lnk
namespace Go.Proofs.YtaiocbbcjdpjgaaGreatDoor.lnk
open Go.RowKit
open Go.Proofs.YtaiocbbcjdpjgaaGreatDoor.mac (BoxC Ins hasB goB grown_of_below)
open Go.Proofs.YtaiocbbcjdpjgaaGreatDoor.face (ret_b)
set_option linter.unusedVariables false
set_option linter.unusedSimpArgs false
set_option maxRecDepth 100000
def amongB (x : Ins) (n : Int) : Bool := hasB x && (!goB x.op || (decide (0 ≤ x.n) && decide (x.n < n)))
set_option maxHeartbeats 1000000 in
theorem oAmong (x : Ins) (n : Int) (w : World) :
    Calls Tryz.prog 89 #[.agg #[.int .i64 x.op, .int .i64 x.a, .int .i64 x.b, .int .i64 x.c, .int .i64 x.n], .int .i64 n] w fun e w' => e = .returned (.bool (amongB x n)) ∧ Below w.heap.size w w' := by
  have c5 : Tryz.prog.cellsOf 64 = 5 := by kernel_rfl
  have hA := (Below.refl w.heap.size w).alloc (Nat.le_refl _) (.cells #[.int .i64 x.op, .int .i64 x.a, .int .i64 x.b, .int .i64 x.c, .int .i64 x.n] 64)
  have hbx := BoxC.new w #[.int .i64 x.op, .int .i64 x.a, .int .i64 x.b, .int .i64 x.c, .int .i64 x.n] 64
  have hC := mac.oHas' x.op x.a x.b x.c x.n (w.alloc (.cells #[.int .i64 x.op, .int .i64 x.a, .int .i64 x.b, .int .i64 x.c, .int .i64 x.n] 64))
  obtain ⟨V, hV⟩ : ∃ V, V = amongB x n := ⟨_, rfl⟩
  rw [← hV]
  replace hV : Hid (V = (hasB x && (!goB x.op || (decide (0 ≤ x.n) && decide (x.n < n))))) := hV
  cases hh : hasB x
  · have HF : Hid (V = false) := by show _ = _; rw [hV.out, hh]; rfl
    rw [show hasB ⟨x.op, x.a, x.b, x.c, x.n⟩ = false from hh] at hC
    go_enter Tryz.func89, Tryz.ntmps89
    go_wp2_with (fail)
    refine hC.mono ?_
    rintro e w2 ⟨rfl, hb2⟩
    go_wp2
    go_ret
    exact ⟨ret_b HF.out.symm, hA.trans (hb2.mono hA.size)⟩
  · rw [show hasB ⟨x.op, x.a, x.b, x.c, x.n⟩ = true from hh] at hC
    have HV : Hid (V = (!goB x.op || (decide (0 ≤ x.n) && decide (x.n < n)))) := by show _ = _; rw [hV.out, hh]; rfl
    obtain ⟨op, xa, xb, xc, xn⟩ := x
    dsimp only at *
    clear hV hh
    have hgo : Hid (goB op = (decide (op = 8) || decide (op = 9) || decide (op = 11))) := rfl
    by_cases h8 : op = 8 ∨ op = 9 ∨ op = 11
    · have hg : goB op = true := by rw [hgo.out]; rcases h8 with h | h | h <;> simp [h]
      by_cases h0 : 0 ≤ xn
      · by_cases h1 : xn < n
        · have HF : Hid (V = true) := by show _ = _; rw [HV.out, hg, decide_eq_true h0, decide_eq_true h1]; rfl
          clear HV hgo hg
          rcases h8 with rfl | rfl | rfl <;>
          · go_enter Tryz.func89, Tryz.ntmps89
            go_wp2_with (fail)
            refine hC.mono ?_
            rintro e w2 ⟨rfl, hb2⟩
            have y0 := (hbx.below hb2).cell 0 rfl
            have y4 := (hbx.below hb2).cell 4 rfl
            go_wp2
            go_ret
            exact ⟨ret_b HF.out.symm, hA.trans (hb2.mono hA.size)⟩
        · have HF : Hid (V = decide (xn < n)) := by show _ = _; rw [HV.out, hg, decide_eq_true h0]; rfl
          clear HV hgo hg
          rcases h8 with rfl | rfl | rfl <;>
          · go_enter Tryz.func89, Tryz.ntmps89
            go_wp2_with (fail)
            refine hC.mono ?_
            rintro e w2 ⟨rfl, hb2⟩
            have y0 := (hbx.below hb2).cell 0 rfl
            have y4 := (hbx.below hb2).cell 4 rfl
            go_wp2
            go_ret
            exact ⟨ret_b HF.out.symm, hA.trans (hb2.mono hA.size)⟩
      · have HF : Hid (V = false) := by show _ = _; rw [HV.out, hg, decide_eq_false h0]; rfl
        clear HV hgo hg
        rcases h8 with rfl | rfl | rfl <;>
        · go_enter Tryz.func89, Tryz.ntmps89
          go_wp2_with (fail)
          refine hC.mono ?_
          rintro e w2 ⟨rfl, hb2⟩
          have y0 := (hbx.below hb2).cell 0 rfl
          have y4 := (hbx.below hb2).cell 4 rfl
          go_wp2
          go_ret
          exact ⟨ret_b HF.out.symm, hA.trans (hb2.mono hA.size)⟩
    · have h81 : (op == 8) = false := by simp; omega
      have h91 : (op == 9) = false := by simp; omega
      have h111 : (op == 11) = false := by simp; omega
      have HF : Hid (V = true) := by show _ = _; rw [HV.out, hgo.out, decide_eq_false (by omega), decide_eq_false (by omega), decide_eq_false (by omega)]; rfl
      clear HV hgo h8
      go_enter Tryz.func89, Tryz.ntmps89
      go_wp2_with (fail)
      refine hC.mono ?_
      rintro e w2 ⟨rfl, hb2⟩
      have y0 := (hbx.below hb2).cell 0 rfl
      have y4 := (hbx.below hb2).cell 4 rfl
      go_wp2
      go_ret
      exact ⟨ret_b HF.out.symm, hA.trans (hb2.mono hA.size)⟩
end Go.Proofs.YtaiocbbcjdpjgaaGreatDoor.lnk
namespace Go.Proofs.YtaiocbbcjdpjgaaGreatDoor.lnk
open Go.RowKit Go.Maps Go.WideMaps
open Go.Proofs.YtaiocbbcjdpjgaaGreatDoor.syn (isName eqS)
open Go.Proofs.YtaiocbbcjdpjgaaGreatDoor.mac (BoxC Ins grown_of_below)
open Go.Proofs.YtaiocbbcjdpjgaaGreatDoor.ord (tkd putd)
open Go.Proofs.YtaiocbbcjdpjgaaGreatDoor.obj (ObjD PlcD RelD Vals ObjAt PlcsIn RelsIn objV relV)
open Go.Proofs.YtaiocbbcjdpjgaaGreatDoor.face (VarD ProcD FaceD FaceIn keep VarsIn ProcsIn)
set_option linter.unusedVariables false
set_option linter.unusedSimpArgs false
set_option maxRecDepth 100000
/-- the first order of an object that no image may have; of all objects, laid one behind the other -/
def ordO (N i : Int) : Int → List Ins → Option (Int × Int × Int)
  | _, [] => none
  | k, x :: r => if amongB x N = true then ordO N i (k + 1) r else some (i, 6, k)
def ordT (code : List Ins) : Nat → Int → List ObjD → Option (Int × Int × Int)
  | _, _, [] => none
  | b, i, o :: r => (ordO code.length i 0 ((code.drop b).take o.code.length)).or (ordT code (b + o.code.length) (i + 1) r)
/-- where an object's orders begin -/
def baseOf (l : List ObjD) (i : Nat) : Nat := 4 + ((l.take i).map (·.code.length)).sum
theorem baseOf_next {l : List ObjD} {i : Nat} (h : i < l.length) : baseOf l (i + 1) = baseOf l i + l[i].code.length := by
  unfold baseOf
  rw [List.take_succ_eq_append_getElem h, List.map_append, List.sum_append]
  simp
  omega
theorem ordT_at {c : List Ins} {i : Nat} {l : List ObjD} (h : i < l.length) : ordT c (baseOf l i) i (l.drop i) = (ordO c.length i 0 ((c.drop (baseOf l i)).take l[i].code.length)).or (ordT c (baseOf l (i + 1)) ((i + 1 : Nat) : Int) (l.drop (i + 1))) := by
  rw [List.drop_eq_getElem_cons h, baseOf_next h]
  rfl
theorem ordO_at {N i : Int} {k : Nat} {l : List Ins} (h : k < l.length) : ordO N i k (l.drop k) = if amongB l[k] N = true then ordO N i ((k + 1 : Nat) : Int) (l.drop (k + 1)) else some (i, 6, (k : Int)) := by
  rw [List.drop_eq_getElem_cons h]
  rfl
set_option maxHeartbeats 4000000 in
theorem oTryOrders {w0 w : World} {p : Pl} {s : St} {g cap nm nb : Nat} {l : List ObjD} (h : LS w p s (.slice (some ⟨g, 0, none⟩) s.code.length cap) nm nb) (hB : Below w0.heap.size w0 w) (ho : ObjsIn w0 p.ov l) (hm16 : ∀ o ∈ l, o.face.module.size ≤ 16) (hcl : s.code.length ≤ 1000000)
    (hbeg : ∀ i (h : i < l.length), s.begs ⟨1, l[i].face.module, ⟨#[]⟩⟩ = some ((baseOf l i : Nat) : Int) ∧ baseOf l i + l[i].code.length ≤ s.code.length) :
    Calls Tryz.prog 49 #[.pointer (some ⟨p.K, 0, none⟩)] w (ImpE w (ordT s.code (baseOf l 0) 0 l)) := by
  have c13 : Tryz.prog.cellsOf 31 = 13 := by kernel_rfl
  have c5i : Tryz.prog.cellsOf 64 = 5 := by kernel_rfl
  have m3 := h.ob
  obtain ⟨oa, oc, hov, hll, hoc⟩ := ho
  rw [hov] at m3
  obtain ⟨T, hT⟩ : ∃ T, T = ordT s.code (baseOf l 0) 0 l := ⟨_, rfl⟩
  rw [← hT]
  replace hT : Hid (T = ordT s.code (baseOf l 0) ((0 : Nat) : Int) (l.drop 0)) := hT
  go_enter Tryz.func49, Tryz.ntmps49
  go_wp2
  go_loopw [11] (fun t wr => ∃ i : Nat, i ≤ l.length ∧ t = .int .i64 i ∧ Below w.heap.size w wr ∧ Hid (T = ordT s.code (baseOf l i) (i : Int) (l.drop i))) (fun t _ => l.length - (intOf t).toNat)
  case atStart => exact ⟨0, Nat.zero_le _, rfl, Below.refl _ _, hT⟩
  case round =>
    clear hT
    obtain ⟨i, hi, rfl, hBr, HT⟩ := hrel
    by_cases hlt : i < l.length
    · obtain ⟨g1, o1, rfl, hcc⟩ := hoc (by intro e; rw [e] at hlt; simp at hlt)
      obtain ⟨x, hat, hcs⟩ := hcc i hlt
      have hB1 := hB.trans (hBr.mono hB.size)
      have hcs1 := hcs.below hB1
      have hm1 := hm16 l[i] (List.getElem_mem hlt)
      obtain ⟨hbg, hbl⟩ := hbeg i hlt
      obtain ⟨a1, c1, a2, c2, a3, c3', a4, c4', a5, c5, a6, c6, a7, c7, a8, c8, rfl⟩ := hat.shape
      obtain ⟨y0, y1, y2, y3, y4, y5, y6, y7, y8, y9, y10, y11, y12⟩ := hcs1
      dsimp only at y1 y2 y3 y4 y5 y6 y7 y8
      have HI : Hid (T = (ordO s.code.length (i : Int) ((0 : Nat) : Int) (((s.code.drop (baseOf l i)).take l[i].code.length).drop 0)).or (ordT s.code (baseOf l (i + 1)) ((i + 1 : Nat) : Int) (l.drop (i + 1)))) := by show _ = _; rw [HT.out, ordT_at hlt]; rfl
      clear HT hcc hoc hcs hbeg
      generalize hgi : l[i] = d at *
      obtain ⟨T2, hT2⟩ : ∃ T2, T2 = ordT s.code (baseOf l (i + 1)) ((i + 1 : Nat) : Int) (l.drop (i + 1)) := ⟨_, rfl⟩
      rw [← hT2] at HI
      replace hT2 : Hid (T2 = ordT s.code (baseOf l (i + 1)) ((i + 1 : Nat) : Int) (l.drop (i + 1))) := hT2
      generalize baseOf l i = b at *
      have hBin : Below w.heap.size w (wr.alloc (.cells #[.string d.face.module, .slice a1 d.face.vars.length c1, .slice a2 d.face.procs.length c2, .slice a3 d.imports.length c3', .slice a4 d.code.length c4', .slice a5 d.relocs.length c5, .slice a6 d.procs.length c6, .slice a7 d.lows.length c7, .slice a8 d.highs.length c8, .int .i64 d.low, .int .i64 d.high, .int .i64 d.lowF, .int .i64 d.highF] 31)) := hBr.alloc hBr.size _
      have hOr := oOrders (h.below hBin) d ⟨.slice a1 d.face.vars.length c1, .slice a2 d.face.procs.length c2, .slice a3 d.imports.length c3', .slice a4 d.code.length c4', .slice a5 d.relocs.length c5, .slice a6 d.procs.length c6, .slice a7 d.lows.length c7, .slice a8 d.highs.length c8⟩ (hat.below (hB.trans (hBin.mono hB.size))) b hm1 hbg hbl hcl
      unfold objV at hOr
      dsimp only at hOr
      obtain ⟨sub, hsub⟩ : ∃ sub, sub = (s.code.drop b).take d.code.length := ⟨_, rfl⟩
      have hsl : sub.length = d.code.length := by rw [hsub, List.length_take, List.length_drop]; omega
      have hsat : ∀ k (hk : k < sub.length), b + k < s.code.length ∧ ∀ (h2 : b + k < s.code.length), sub[k] = s.code[b + k] := fun k hk => ⟨by omega, fun h2 => by subst hsub; simp⟩
      rw [← hsub] at HI
      clear hsub
      go_wp2_with (fail)
      refine hOr.mono ?_
      rintro e w2 ⟨hb2, g', c', rfl, hg'⟩
      have hB2 := hBin.trans (hb2.mono hBin.size)
      clear hOr
      go_wp2
      go_loopw [20] (fun t wr => ∃ k : Nat, k ≤ sub.length ∧ t = .int .i64 k ∧ Below w.heap.size w wr ∧ Hid (T = (ordO s.code.length (i : Int) (k : Int) (sub.drop k)).or T2)) (fun t _ => sub.length - (intOf t).toNat)
      case atStart => exact ⟨0, Nat.zero_le _, rfl, hB2, HI⟩
      case round =>
        clear HI hBin hBr hB1 hB2 hb2
        obtain ⟨k, hk, rfl, hBr, HI⟩ := hrel
        by_cases hkl : k < sub.length
        · obtain ⟨hs1, hs2⟩ := hsat k hkl
          obtain rfl : g' = b * 5 := hg' (by omega)
          have hkd : k < d.code.length := by omega
          have hL2 := h.below hBr
          have cell : ∀ f v, (insC s.code[b + k])[f]? = some v → f < 5 → wr.cell? ⟨g, b * 5 + k * 5 + f, none⟩ = some v := fun f v hv hf => by
            have e : b * 5 + k * 5 + f = (b + k) * 5 + f := by omega
            rw [e, hL2.row.cellAt ((b + k) * 5 + f) (by omega), flat5_at _ _ hs1 f hf]
            exact hv
          have k0 := cell 0 _ rfl (by decide)
          have k1 := cell 1 _ rfl (by decide)
          have k2 := cell 2 _ rfl (by decide)
          have k3 := cell 3 _ rfl (by decide)
          have k4 := cell 4 _ rfl (by decide)
          rw [Nat.add_zero] at k0
          have HO := ordO_at (N := s.code.length) (i := (i : Int)) hkl
          rw [HO, hs2 hs1] at HI
          clear HO cell hs2
          generalize s.code[b + k] = q at *
          have hbx := BoxC.new wr #[.int .i64 q.op, .int .i64 q.a, .int .i64 q.b, .int .i64 q.c, .int .i64 q.n] 64
          have hI2 := hL2.alloc (.cells #[.int .i64 q.op, .int .i64 q.a, .int .i64 q.b, .int .i64 q.c, .int .i64 q.n] 64)
          have hGz := hBr.alloc hBr.size (.cells #[.int .i64 q.op, .int .i64 q.a, .int .i64 q.b, .int .i64 q.c, .int .i64 q.n] 64)
          have hwr : w.heap.size ≤ wr.heap.size := hBr.size
          go_wp2
          refine wp_region_held_drew (S := fun W => LS W p s (.slice (some ⟨g, 0, none⟩) s.code.length cap) nm nb ∧ BoxC W wr.heap.size #[.int .i64 q.op, .int .i64 q.a, .int .i64 q.b, .int .i64 q.c, .int .i64 q.n] 64) (by kernel_rfl) ⟨hI2.drew, hbx.below (Below.refl _ _).drew⟩ (fun hS => ?_)
          replace hGz := hGz.drew
          generalize (wr.alloc (.cells #[.int .i64 q.op, .int .i64 q.a, .int .i64 q.b, .int .i64 q.c, .int .i64 q.n] 64)).drew = W at hGz hS ⊢
          generalize wr.heap.size = B at *
          clear hI2 hbx
          refine tkd (i := 0) (v := .agg #[.int .i64 q.op, .int .i64 q.a, .int .i64 q.b, .int .i64 q.c, .int .i64 q.n] ) rfl rfl (by kernel_rfl) (by kernel_rfl) (by kernel_rfl) (fun _ _ _ h => h) (Or.inl ⟨by rfl, fun wq hSw => by have z0 := hSw.2.cell 0 rfl; have z1 := hSw.2.cell 1 rfl; have z2 := hSw.2.cell 2 rfl; have z3 := hSw.2.cell 3 rfl; have z4 := hSw.2.cell 4 rfl; go_simp⟩) hS ?_
          simp only [List.setIfInBounds_toArray, List.set_cons_zero, List.set_cons_succ]
          refine tkd (i := 1) (v := .pointer (some ⟨p.K, 0, none⟩)) rfl rfl (by kernel_rfl) (by kernel_rfl) (by kernel_rfl) (fun _ _ _ h => h) (Or.inl ⟨by rfl, fun wq hSw => by skip; go_simp⟩) hS ?_
          simp only [List.setIfInBounds_toArray, List.set_cons_zero, List.set_cons_succ]
          refine tkd (i := 2) (v := .pointer (some ⟨p.K, 0, none⟩)) rfl rfl (by kernel_rfl) (by kernel_rfl) (by kernel_rfl) (fun _ _ _ h => h) (Or.inl ⟨by rfl, fun wq hSw => by skip; go_simp⟩) hS ?_
          simp only [List.setIfInBounds_toArray, List.set_cons_zero, List.set_cons_succ]
          refine tkd (i := 3) (v := .pointer (some ⟨p.K, 0, none⟩)) rfl rfl (by kernel_rfl) (by kernel_rfl) (by kernel_rfl) (fun _ _ _ h => h) (Or.inl ⟨by rfl, fun wq hSw => by skip; go_simp⟩) hS ?_
          simp only [List.setIfInBounds_toArray, List.set_cons_zero, List.set_cons_succ]
          refine tkd (i := 4) (v := .pointer (some ⟨p.K, 0, none⟩)) rfl rfl (by kernel_rfl) (by kernel_rfl) (by kernel_rfl) (fun _ _ _ h => h) (Or.inl ⟨by rfl, fun wq hSw => by skip; go_simp⟩) hS ?_
          simp only [List.setIfInBounds_toArray, List.set_cons_zero, List.set_cons_succ]
          refine tkd (i := 5) (v := .slice (some ⟨g, 0, none⟩) s.code.length cap) rfl rfl (by kernel_rfl) (by kernel_rfl) (by kernel_rfl) (fun _ _ _ h => h) (Or.inl ⟨by rfl, fun wq hSw => by have m := hSw.1.cod; go_simp⟩) hS ?_
          simp only [List.setIfInBounds_toArray, List.set_cons_zero, List.set_cons_succ]
          refine tkd (i := 6) (v := .int .i64 (s.code.length : Int)) rfl rfl (by kernel_rfl) (by kernel_rfl) (by kernel_rfl) (fun _ _ _ h => h) (Or.inl ⟨by rfl, fun wq hSw => by skip; go_simp⟩) hS ?_
          simp only [List.setIfInBounds_toArray, List.set_cons_zero, List.set_cons_succ]
          have hC := oAmong q s.code.length W
          generalize amongB q s.code.length = V at *
          refine wpAnyH_ready (rs := [7]) (by kernel_rfl) (by simp) ?_
          refine AllReadyH.cons rfl (fun K hK => ?_) AllReadyH.nil
          go_simp
          go_at_call 89
          refine hC.mono ?_
          rintro e w1 ⟨rfl, hb1⟩
          clear hC
          replace hGz := hGz.trans (hb1.mono hGz.size)
          replace hS : LS w1 p s (.slice (some ⟨g, 0, none⟩) s.code.length cap) nm nb ∧ BoxC w1 B #[.int .i64 q.op, .int .i64 q.a, .int .i64 q.b, .int .i64 q.c, .int .i64 q.n] 64 := ⟨hS.1.below hb1, hS.2.below hb1⟩
          go_wp2
          refine hK.out _ _ hS (fun _ => ?_)
          clear hK K hb1
          refine tkd (i := 8) (v := .bool (!V)) rfl rfl (by kernel_rfl) (by kernel_rfl) (by kernel_rfl) (fun _ _ _ h => h) (Or.inl ⟨by rfl, fun wq hSw => by skip; go_simp⟩) hS ?_
          simp only [List.setIfInBounds_toArray, List.set_cons_zero, List.set_cons_succ]
          refine wpAnyH_done (by kernel_rfl) ?_ _
          cases V
          · have HR : Hid (T = some ((i : Int), 6, (k : Int))) := HI.out
            clear HI
            go_wp2_with (fail)
            refine (oRefuse _ _ _ _).mono ?_
            rintro e w9 ⟨rfl, rfl⟩
            go_wp2
            exact ⟨rfl, hGz, EndT.yes HR.out⟩
          · have HR : Hid (T = (ordO s.code.length (i : Int) ((k + 1 : Nat) : Int) (sub.drop (k + 1))).or T2) := HI.out
            clear HI
            go_wp2
            exact ⟨⟨k + 1, by omega, by go_num, hGz, HR⟩, by simp [intOf]; omega⟩
        · have HN : Hid (T = T2) := by show _ = _; rw [HI.out, List.drop_eq_nil_of_le (by omega)]; rfl
          have hkd : ¬ k < d.code.length := by omega
          clear HI
          go_wp2
          refine ⟨⟨i + 1, by omega, by go_num, hBr, by show _ = _; rw [HN.out, hT2.out]⟩, by simp [intOf]; omega⟩
    · have HN : Hid (T = none) := by show _ = _; rw [HT.out, List.drop_eq_nil_of_le (by omega)]; rfl
      clear HT
      go_wp2
      go_end0
      exact ⟨hBr, EndT.no HN.out⟩
end Go.Proofs.YtaiocbbcjdpjgaaGreatDoor.lnk
