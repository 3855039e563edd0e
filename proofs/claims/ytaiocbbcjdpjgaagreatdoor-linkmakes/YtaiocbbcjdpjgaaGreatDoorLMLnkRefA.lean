/- What the reference's find, module, knows and Base answer: contracts. What the reference's stands, Main and Same (of images) answer: contracts. -/
import Derived.Test.YtaiocbbcjdpjgaaGreatDoorLMLnkStaleP
import Derived.BigQuiet
import Derived.Deep.QuietTactic
namespace Go.Proofs.YtaiocbbcjdpjgaaGreatDoor.lnk
open Go.RowKit
open Go.Proofs.YtaiocbbcjdpjgaaGreatDoor.syn (isName eqS)
open Go.Proofs.YtaiocbbcjdpjgaaGreatDoor.mac (BoxC Ins grown_of_below)
open Go.Proofs.YtaiocbbcjdpjgaaGreatDoor.obj (ObjD PlcD RelD Vals ObjAt PlcsIn RelsIn CodeIn FacesIn objV relV mayO)
open Go.Proofs.YtaiocbbcjdpjgaaGreatDoor.face (VarD ProcD FaceD FaceIn keep VarsIn ProcsIn)
set_option linter.unusedVariables false
set_option linter.unusedSimpArgs false
set_option maxRecDepth 100000
theorem findF_at' {nm : ByteArray} {l : List PlcD} {i : Nat} (h : i < l.length) : findF nm (l.drop i) = if eqS l[i].name nm = true then l[i].at' else findF nm (l.drop (i + 1)) := by
  rw [List.drop_eq_getElem_cons h]
  rfl
theorem modF_at' {nm : ByteArray} {l : List ObjD} {i : Nat} (h : i < l.length) : modF nm (i : Int) (l.drop i) = if eqS l[i].face.module nm = true then (i : Int) else modF nm ((i + 1 : Nat) : Int) (l.drop (i + 1)) := by
  rw [List.drop_eq_getElem_cons h]
  rfl
set_option maxHeartbeats 1000000 in
theorem rFind (l : List PlcD) (v : Value) (nm : ByteArray) (w : World) (hv : PlcsIn w v l) :
    Calls Tryz.prog 92 #[v, .string nm] w fun e w' => e = .returned (.int .i64 (findF nm l)) ∧ w' = w := by
  have c2 : Tryz.prog.cellsOf 103 = 2 := by kernel_rfl
  obtain ⟨a, c, rfl, hl, hc⟩ := hv
  obtain ⟨V, hV⟩ : ∃ V, V = findF nm l := ⟨_, rfl⟩
  rw [← hV]
  replace hV : Hid (V = findF nm (l.drop 0)) := hV
  go_enter Tryz.func92, Tryz.ntmps92
  go_wp2
  go_loopw [5] (fun t wr => ∃ i : Nat, i ≤ l.length ∧ t = .int .i64 i ∧ wr = w ∧ Hid (V = findF nm (l.drop i))) (fun t _ => l.length - (intOf t).toNat)
  case atStart => exact ⟨0, Nat.zero_le _, rfl, rfl, hV⟩
  case round =>
    clear hV
    obtain ⟨i, hi, rfl, rfl, HV⟩ := hrel
    by_cases hlt : i < l.length
    · obtain ⟨g, o, rfl, hcc⟩ := hc (by intro e; rw [e] at hlt; simp at hlt)
      obtain ⟨k0, k1⟩ := hcc i hlt
      have HO := findF_at' (nm := nm) hlt
      rw [HO] at HV
      clear HO hcc hc
      generalize l[i] = q at *
      cases hq : eqS q.name nm
      · rw [hq] at HV
        have HN : Hid (V = findF nm (l.drop (i + 1))) := HV.out
        have hq2 : (q.name.toList == nm.toList) = false := hq
        clear HV hq
        go_wp2
        exact ⟨⟨i + 1, by omega, by go_num, trivial, HN⟩, by simp [intOf]; omega⟩
      · rw [hq] at HV
        have HN : Hid (V = q.at') := HV.out
        have hq2 : (q.name.toList == nm.toList) = true := hq
        clear HV hq
        go_wp2
        go_ret
        exact ⟨by rw [HN.out]; rfl, rfl⟩
    · have HN : Hid (V = -1) := by show _ = _; rw [HV.out, List.drop_eq_nil_of_le (by omega)]; rfl
      clear HV
      go_wp2
      go_ret
      exact ⟨by rw [HN.out]; rfl, rfl⟩
/-- rows of objects, as many of them as are asked for -/
theorem ObjsIn.cut {w : World} {a : Option Addr} {n c : Nat} {l : List ObjD} (h : ObjsIn w (.slice a n c) l) (k : Nat) (c' : Nat) (hk : k ≤ l.length) : ObjsIn w (.slice a k c') (l.take k) := by
  obtain ⟨a', c2, e, hl, hc⟩ := h
  cases e
  refine ⟨a, c', by rw [List.length_take, Nat.min_eq_left hk], by rw [List.length_take]; omega, fun hne => ?_⟩
  obtain ⟨g, o, e2, hcc⟩ := hc (fun e => hne (by rw [e]; simp))
  refine ⟨g, o, e2, fun i hi => ?_⟩
  rw [List.length_take] at hi
  rw [List.getElem_take]
  exact hcc i (by omega)
set_option maxHeartbeats 1000000 in
theorem rModule (l : List ObjD) (v : Value) (nm : ByteArray) (w : World) (hv : ObjsIn w v l) :
    Calls Tryz.prog 90 #[v, .string nm] w fun e w' => e = .returned (.int .i64 (modF nm 0 l)) ∧ w' = w := by
  have c13 : Tryz.prog.cellsOf 31 = 13 := by kernel_rfl
  obtain ⟨a, c, rfl, hl, hc⟩ := hv
  obtain ⟨V, hV⟩ : ∃ V, V = modF nm 0 l := ⟨_, rfl⟩
  rw [← hV]
  replace hV : Hid (V = modF nm ((0 : Nat) : Int) (l.drop 0)) := hV
  go_enter Tryz.func90, Tryz.ntmps90
  go_wp2
  go_loopw [5] (fun t wr => ∃ i : Nat, i ≤ l.length ∧ t = .int .i64 i ∧ wr = w ∧ Hid (V = modF nm (i : Int) (l.drop i))) (fun t _ => l.length - (intOf t).toNat)
  case atStart => exact ⟨0, Nat.zero_le _, rfl, rfl, hV⟩
  case round =>
    clear hV
    obtain ⟨i, hi, rfl, rfl, HV⟩ := hrel
    by_cases hlt : i < l.length
    · obtain ⟨g, o, rfl, hcc⟩ := hc (by intro e; rw [e] at hlt; simp at hlt)
      obtain ⟨x, _, hcs⟩ := hcc i hlt
      have k0 := hcs.c0
      have HO := modF_at' (nm := nm) hlt
      rw [HO] at HV
      clear HO hcc hc hcs
      generalize l[i].face.module = q at *
      cases hq : eqS q nm
      · rw [hq] at HV
        have HN : Hid (V = modF nm ((i + 1 : Nat) : Int) (l.drop (i + 1))) := HV.out
        have hq2 : (q.toList == nm.toList) = false := hq
        clear HV hq
        go_wp2
        exact ⟨⟨i + 1, by omega, by go_num, trivial, HN⟩, by simp [intOf]; omega⟩
      · rw [hq] at HV
        have HN : Hid (V = (i : Int)) := HV.out
        have hq2 : (q.toList == nm.toList) = true := hq
        clear HV hq
        go_wp2
        go_ret
        exact ⟨by rw [HN.out]; rfl, rfl⟩
    · have HN : Hid (V = -1) := by show _ = _; rw [HV.out, List.drop_eq_nil_of_le (by omega)]; rfl
      clear HV
      go_wp2
      go_ret
      exact ⟨by rw [HN.out]; rfl, rfl⟩
theorem imA_drop {m : ByteArray} {l : List FaceD} {i : Nat} (h : i < l.length) : ((l.drop i).any fun q => eqS q.module m) = (eqS l[i].module m || (l.drop (i + 1)).any fun q => eqS q.module m) := by
  rw [List.drop_eq_getElem_cons h, List.any_cons]
set_option maxHeartbeats 1000000 in
theorem rKnows (o : ObjD) (x : Vals) (nm : ByteArray) (w : World) (ho : ObjAt w x o) :
    Calls Tryz.prog 91 #[objV o x, .string nm] w fun e w' => e = .returned (.bool (knowsR o nm)) ∧ Below w.heap.size w w' := by
  have c13 : Tryz.prog.cellsOf 31 = 13 := by kernel_rfl
  have c3 : Tryz.prog.cellsOf 25 = 3 := by kernel_rfl
  obtain ⟨a1, c1, a2, c2, a3, c3', a4, c4', a5, c5, a6, c6, a7, c7, a8, c8, rfl⟩ := ho.shape
  have him := ho.imps
  dsimp only at him
  obtain ⟨ia, ic, hia, hil, hic⟩ := him
  simp only [Value.slice.injEq, true_and] at hia
  obtain ⟨rfl, rfl⟩ := hia
  unfold objV
  dsimp only
  have hB := (Below.refl w.heap.size w).alloc (Nat.le_refl _) (.cells #[.string o.face.module, .slice a1 o.face.vars.length c1, .slice a2 o.face.procs.length c2, .slice a3 o.imports.length c3', .slice a4 o.code.length c4', .slice a5 o.relocs.length c5, .slice a6 o.procs.length c6, .slice a7 o.lows.length c7, .slice a8 o.highs.length c8, .int .i64 o.low, .int .i64 o.high, .int .i64 o.lowF, .int .i64 o.highF] 31)
  have hbo := BoxC.new w #[.string o.face.module, .slice a1 o.face.vars.length c1, .slice a2 o.face.procs.length c2, .slice a3 o.imports.length c3', .slice a4 o.code.length c4', .slice a5 o.relocs.length c5, .slice a6 o.procs.length c6, .slice a7 o.lows.length c7, .slice a8 o.highs.length c8, .int .i64 o.low, .int .i64 o.high, .int .i64 o.lowF, .int .i64 o.highF] 31
  obtain ⟨V, hV⟩ : ∃ V, V = knowsR o nm := ⟨_, rfl⟩
  rw [← hV]
  unfold knowsR at hV
  have HB : Hid (Below w.heap.size w (w.alloc (.cells #[.string o.face.module, .slice a1 o.face.vars.length c1, .slice a2 o.face.procs.length c2, .slice a3 o.imports.length c3', .slice a4 o.code.length c4', .slice a5 o.relocs.length c5, .slice a6 o.procs.length c6, .slice a7 o.lows.length c7, .slice a8 o.highs.length c8, .int .i64 o.low, .int .i64 o.high, .int .i64 o.lowF, .int .i64 o.highF] 31))) := hB
  have hic2 : Hid (o.imports ≠ [] → ∃ g p, a3 = some ⟨g, p, none⟩ ∧ ∀ i (h : i < o.imports.length), (w.alloc (.cells #[.string o.face.module, .slice a1 o.face.vars.length c1, .slice a2 o.face.procs.length c2, .slice a3 o.imports.length c3', .slice a4 o.code.length c4', .slice a5 o.relocs.length c5, .slice a6 o.procs.length c6, .slice a7 o.lows.length c7, .slice a8 o.highs.length c8, .int .i64 o.low, .int .i64 o.high, .int .i64 o.lowF, .int .i64 o.highF] 31)).cell? ⟨g, p + i * 3, none⟩ = some (.string o.imports[i].module)) := fun hne => by
    obtain ⟨g, p, e, h⟩ := hic hne
    exact ⟨g, p, e, fun i hi => keep (h i hi).1 hB⟩
  clear hB hic ho
  cases hq : eqS o.face.module nm
  · rw [hq, Bool.false_or] at hV
    have hq2 : (o.face.module.toList == nm.toList) = false := hq
    replace hV : Hid (V = (o.imports.drop 0).any fun q => eqS q.module nm) := hV
    clear hq
    go_enter Tryz.func91, Tryz.ntmps91
    go_wp2
    have y3 := hbo.cell 3 rfl
    clear hbo
    generalize w.alloc (.cells #[.string o.face.module, .slice a1 o.face.vars.length c1, .slice a2 o.face.procs.length c2, .slice a3 o.imports.length c3', .slice a4 o.code.length c4', .slice a5 o.relocs.length c5, .slice a6 o.procs.length c6, .slice a7 o.lows.length c7, .slice a8 o.highs.length c8, .int .i64 o.low, .int .i64 o.high, .int .i64 o.lowF, .int .i64 o.highF] 31) = W at *
    go_loopw [5] (fun t wr => ∃ i : Nat, i ≤ o.imports.length ∧ t = .int .i64 i ∧ wr = W ∧ Hid (V = (o.imports.drop i).any fun q => eqS q.module nm)) (fun t _ => o.imports.length - (intOf t).toNat)
    case atStart => exact ⟨0, Nat.zero_le _, rfl, rfl, hV⟩
    case round =>
      clear hV
      obtain ⟨i, hi, rfl, rfl, HV⟩ := hrel
      by_cases hlt : i < o.imports.length
      · obtain ⟨g, p, rfl, hcc⟩ := hic2.out (by intro e; rw [e] at hlt; simp at hlt)
        have k0 := hcc i hlt
        have HO := imA_drop (m := nm) hlt
        rw [HO] at HV
        clear HO hcc hic2
        generalize o.imports[i].module = q at *
        cases hq : eqS q nm
        · rw [hq, Bool.false_or] at HV
          have hq3 : (q.toList == nm.toList) = false := hq
          clear hq
          go_wp2
          exact ⟨⟨i + 1, by omega, by go_num, trivial, HV⟩, by simp [intOf]; omega⟩
        · rw [hq, Bool.true_or] at HV
          have HN : Hid (V = true) := HV.out
          have hq3 : (q.toList == nm.toList) = true := hq
          clear hq HV
          go_wp2
          go_ret
          exact ⟨by rw [HN.out]; rfl, HB.out⟩
      · have HN : Hid (V = false) := by show _ = _; rw [HV.out, List.drop_eq_nil_of_le (by omega)]; rfl
        clear HV
        go_wp2
        go_ret
        exact ⟨by rw [HN.out]; rfl, HB.out⟩
  · rw [hq, Bool.true_or] at hV
    have HN : Hid (V = true) := hV
    have hq2 : (o.face.module.toList == nm.toList) = true := hq
    clear hq hV
    go_enter Tryz.func91, Tryz.ntmps91
    go_wp2
    go_ret
    exact ⟨by rw [HN.out]; rfl, HB.out⟩
theorem baseK_next {kind : Int} {l : List ObjD} {i : Nat} (h : i < l.length) : baseK kind (l.take (i + 1)) = baseK kind (l.take i) + sizeK kind l[i] := by
  unfold baseK
  rw [List.take_succ_eq_append_getElem h, List.map_append, List.sum_append]
  simp
  omega
theorem baseK_le {kind : Int} {l : List ObjD} (h : ∀ o ∈ l, mayO o = true) : ∀ {i : Nat}, i ≤ l.length → 0 ≤ baseK kind (l.take i) ∧ baseK kind (l.take i) ≤ 4 + 20000 * i
  | 0, _ => by unfold baseK; simp; split <;> omega
  | i + 1, hi => by
    have ih := baseK_le h (kind := kind) (i := i) (by omega)
    rw [baseK_next (by omega)]
    obtain ⟨_, _, h3, _, h5, h6, _⟩ := may_parts (h l[i] (List.getElem_mem _))
    unfold sizeK
    split
    · push_cast; omega
    · split
      · push_cast; omega
      · push_cast; omega
set_option maxHeartbeats 2000000 in
theorem rBase (l : List ObjD) (v : Value) (n : Nat) (kind : Int) (w : World) (hv : ObjsIn w v l) (hn : n ≤ l.length) (hm : ∀ o ∈ l, mayO o = true) (hl6 : l.length ≤ 6) :
    Calls Tryz.prog 51 #[v, .int .i64 n, .int .i64 kind] w fun e w' => e = .returned (.int .i64 (baseK kind (l.take n))) ∧ w' = w := by
  have c13 : Tryz.prog.cellsOf 31 = 13 := by kernel_rfl
  obtain ⟨a, c, rfl, hl, hc⟩ := hv
  have hb0 : baseK kind (l.take 0) = if kind = 1 ∨ kind = 2 then 4 else 0 := by unfold baseK; simp
  have hle := fun i (hi : i ≤ l.length) => baseK_le hm (kind := kind) hi
  replace hle : Hid (∀ i, i ≤ l.length → 0 ≤ baseK kind (l.take i) ∧ baseK kind (l.take i) ≤ 4 + 20000 * i) := hle
  have hnx : Hid (∀ i (h : i < l.length), baseK kind (l.take (i + 1)) = baseK kind (l.take i) + sizeK kind l[i]) := fun i h => baseK_next h
  replace hc : Hid (l ≠ [] → ∃ g o, a = some ⟨g, o, none⟩ ∧ ∀ i (h : i < l.length), ∃ x, ObjAt w x l[i] ∧ OCells w g (o + i * 13) l[i] x) := hc
  have hN : Hid (n ≤ l.length) := hn
  clear hn hm
  by_cases k1 : kind = 1
  · subst k1
    have hb0' : Hid (baseK 1 (l.take 0) = if (1 : Int) = 1 ∨ (1 : Int) = 2 then 4 else 0) := hb0
    clear hb0
    go_enter Tryz.func51, Tryz.ntmps51
    go_wp2
    go_loopw [7, 8] (fun u t wr => ∃ i : Nat, i ≤ n ∧ t = .int .i64 i ∧ u = .int .i64 (baseK 1 (l.take i)) ∧ wr = w) (fun _ t _ => n - (intOf t).toNat)
    case atStart => exact ⟨0, Nat.zero_le _, rfl, by rw [hb0'.out]; simp [*], rfl⟩
    case round =>
      obtain ⟨i, hi, rfl, rfl, rfl⟩ := hrel
      by_cases hlt : i < n
      · have hil : i < l.length := Nat.lt_of_lt_of_le hlt hN.out
        obtain ⟨g, o, rfl, hcc⟩ := hc.out (by intro e; rw [e] at hil; simp at hil)
        obtain ⟨x, hat, hcs⟩ := hcc i hil
        have hsz : sizeK 1 l[i] = (l[i].code.length : Int) := rfl
        have hx1 := hnx.out i hil
        rw [hsz] at hx1
        have hx2 := hle.out (i + 1) (by omega)
        rw [hx1] at hx2
        have hcd := hat.code; obtain ⟨ca, cc, hcv, _, _⟩ := hcd; have y4 := hcs.c4; rw [hcv] at y4; clear hcv
        have HX : Hid (baseK 1 (l.take (i + 1)) = baseK 1 (l.take i) + (l[i].code.length : Int)) := hx1
        have hwr : IntKind.i64.wrap (baseK 1 (l.take i) + (l[i].code.length : Int)) = baseK 1 (l.take i) + (l[i].code.length : Int) := by rw [IntKind.wrap_i64]; omega
        clear hx1 hx2 hsz hat hcs hcc
        generalize l[i] = d at *
        generalize baseK 1 (l.take i) = B at *
        go_wp2
        exact ⟨⟨i + 1, by omega, by go_num, by rw [HX.out], trivial⟩, by simp [intOf]; omega⟩
      · obtain rfl : i = n := by omega
        go_wp2
        go_ret
        exact ⟨rfl, rfl⟩
  by_cases k2 : kind = 2
  · subst k2
    have hb0' : Hid (baseK 2 (l.take 0) = if (2 : Int) = 1 ∨ (2 : Int) = 2 then 4 else 0) := hb0
    clear hb0
    go_enter Tryz.func51, Tryz.ntmps51
    go_wp2
    go_loopw [7, 8] (fun u t wr => ∃ i : Nat, i ≤ n ∧ t = .int .i64 i ∧ u = .int .i64 (baseK 2 (l.take i)) ∧ wr = w) (fun _ t _ => n - (intOf t).toNat)
    case atStart => exact ⟨0, Nat.zero_le _, rfl, by rw [hb0'.out]; simp [*], rfl⟩
    case round =>
      obtain ⟨i, hi, rfl, rfl, rfl⟩ := hrel
      by_cases hlt : i < n
      · have hil : i < l.length := Nat.lt_of_lt_of_le hlt hN.out
        obtain ⟨g, o, rfl, hcc⟩ := hc.out (by intro e; rw [e] at hil; simp at hil)
        obtain ⟨x, hat, hcs⟩ := hcc i hil
        have hsz : sizeK 2 l[i] = (l[i].code.length : Int) := rfl
        have hx1 := hnx.out i hil
        rw [hsz] at hx1
        have hx2 := hle.out (i + 1) (by omega)
        rw [hx1] at hx2
        have hcd := hat.code; obtain ⟨ca, cc, hcv, _, _⟩ := hcd; have y4 := hcs.c4; rw [hcv] at y4; clear hcv
        have HX : Hid (baseK 2 (l.take (i + 1)) = baseK 2 (l.take i) + (l[i].code.length : Int)) := hx1
        have hwr : IntKind.i64.wrap (baseK 2 (l.take i) + (l[i].code.length : Int)) = baseK 2 (l.take i) + (l[i].code.length : Int) := by rw [IntKind.wrap_i64]; omega
        clear hx1 hx2 hsz hat hcs hcc
        generalize l[i] = d at *
        generalize baseK 2 (l.take i) = B at *
        go_wp2
        exact ⟨⟨i + 1, by omega, by go_num, by rw [HX.out], trivial⟩, by simp [intOf]; omega⟩
      · obtain rfl : i = n := by omega
        go_wp2
        go_ret
        exact ⟨rfl, rfl⟩
  by_cases k3 : kind = 3
  · subst k3
    have hb0' : Hid (baseK 3 (l.take 0) = if (3 : Int) = 1 ∨ (3 : Int) = 2 then 4 else 0) := hb0
    clear hb0
    go_enter Tryz.func51, Tryz.ntmps51
    go_wp2
    go_loopw [7, 8] (fun u t wr => ∃ i : Nat, i ≤ n ∧ t = .int .i64 i ∧ u = .int .i64 (baseK 3 (l.take i)) ∧ wr = w) (fun _ t _ => n - (intOf t).toNat)
    case atStart => exact ⟨0, Nat.zero_le _, rfl, by rw [hb0'.out]; simp [*], rfl⟩
    case round =>
      obtain ⟨i, hi, rfl, rfl, rfl⟩ := hrel
      by_cases hlt : i < n
      · have hil : i < l.length := Nat.lt_of_lt_of_le hlt hN.out
        obtain ⟨g, o, rfl, hcc⟩ := hc.out (by intro e; rw [e] at hil; simp at hil)
        obtain ⟨x, hat, hcs⟩ := hcc i hil
        have hsz : sizeK 3 l[i] = l[i].low := rfl
        have hx1 := hnx.out i hil
        rw [hsz] at hx1
        have hx2 := hle.out (i + 1) (by omega)
        rw [hx1] at hx2
        have y9 := hcs.c9
        have HX : Hid (baseK 3 (l.take (i + 1)) = baseK 3 (l.take i) + l[i].low) := hx1
        have hwr : IntKind.i64.wrap (baseK 3 (l.take i) + l[i].low) = baseK 3 (l.take i) + l[i].low := by rw [IntKind.wrap_i64]; omega
        clear hx1 hx2 hsz hat hcs hcc
        generalize l[i] = d at *
        generalize baseK 3 (l.take i) = B at *
        go_wp2
        exact ⟨⟨i + 1, by omega, by go_num, by rw [HX.out], trivial⟩, by simp [intOf]; omega⟩
      · obtain rfl : i = n := by omega
        go_wp2
        go_ret
        exact ⟨rfl, rfl⟩
  by_cases k4 : kind = 4
  · subst k4
    have hb0' : Hid (baseK 4 (l.take 0) = if (4 : Int) = 1 ∨ (4 : Int) = 2 then 4 else 0) := hb0
    clear hb0
    go_enter Tryz.func51, Tryz.ntmps51
    go_wp2
    go_loopw [7, 8] (fun u t wr => ∃ i : Nat, i ≤ n ∧ t = .int .i64 i ∧ u = .int .i64 (baseK 4 (l.take i)) ∧ wr = w) (fun _ t _ => n - (intOf t).toNat)
    case atStart => exact ⟨0, Nat.zero_le _, rfl, by rw [hb0'.out]; simp [*], rfl⟩
    case round =>
      obtain ⟨i, hi, rfl, rfl, rfl⟩ := hrel
      by_cases hlt : i < n
      · have hil : i < l.length := Nat.lt_of_lt_of_le hlt hN.out
        obtain ⟨g, o, rfl, hcc⟩ := hc.out (by intro e; rw [e] at hil; simp at hil)
        obtain ⟨x, hat, hcs⟩ := hcc i hil
        have hsz : sizeK 4 l[i] = l[i].high := rfl
        have hx1 := hnx.out i hil
        rw [hsz] at hx1
        have hx2 := hle.out (i + 1) (by omega)
        rw [hx1] at hx2
        have y10 := hcs.c10
        have HX : Hid (baseK 4 (l.take (i + 1)) = baseK 4 (l.take i) + l[i].high) := hx1
        have hwr : IntKind.i64.wrap (baseK 4 (l.take i) + l[i].high) = baseK 4 (l.take i) + l[i].high := by rw [IntKind.wrap_i64]; omega
        clear hx1 hx2 hsz hat hcs hcc
        generalize l[i] = d at *
        generalize baseK 4 (l.take i) = B at *
        go_wp2
        exact ⟨⟨i + 1, by omega, by go_num, by rw [HX.out], trivial⟩, by simp [intOf]; omega⟩
      · obtain rfl : i = n := by omega
        go_wp2
        go_ret
        exact ⟨rfl, rfl⟩
  have j1 : (kind == 1) = false := by rw [beq_eq_false_iff_ne]; exact k1
  have j2 : (kind == 2) = false := by rw [beq_eq_false_iff_ne]; exact k2
  have j3 : (kind == 3) = false := by rw [beq_eq_false_iff_ne]; exact k3
  have j4 : (kind == 4) = false := by rw [beq_eq_false_iff_ne]; exact k4
  have hb0' : Hid (baseK kind (l.take 0) = if (kind : Int) = 1 ∨ (kind : Int) = 2 then 4 else 0) := hb0
  clear hb0
  go_enter Tryz.func51, Tryz.ntmps51
  go_wp2
  go_loopw [7, 8] (fun u t wr => ∃ i : Nat, i ≤ n ∧ t = .int .i64 i ∧ u = .int .i64 (baseK kind (l.take i)) ∧ wr = w) (fun _ t _ => n - (intOf t).toNat)
  case atStart => exact ⟨0, Nat.zero_le _, rfl, by rw [hb0'.out]; simp [*], rfl⟩
  case round =>
    obtain ⟨i, hi, rfl, rfl, rfl⟩ := hrel
    by_cases hlt : i < n
    · have hil : i < l.length := Nat.lt_of_lt_of_le hlt hN.out
      obtain ⟨g, o, rfl, hcc⟩ := hc.out (by intro e; rw [e] at hil; simp at hil)
      obtain ⟨x, hat, hcs⟩ := hcc i hil
      have hsz : sizeK kind l[i] = (l[i].code.length : Int) := by unfold sizeK; rw [if_neg k3, if_neg k4] 
      have hx1 := hnx.out i hil
      rw [hsz] at hx1
      have hx2 := hle.out (i + 1) (by omega)
      rw [hx1] at hx2
      have hcd := hat.code; obtain ⟨ca, cc, hcv, _, _⟩ := hcd; have y4 := hcs.c4; rw [hcv] at y4; clear hcv
      have HX : Hid (baseK kind (l.take (i + 1)) = baseK kind (l.take i) + (l[i].code.length : Int)) := hx1
      have hwr : IntKind.i64.wrap (baseK kind (l.take i) + (l[i].code.length : Int)) = baseK kind (l.take i) + (l[i].code.length : Int) := by rw [IntKind.wrap_i64]; omega
      clear hx1 hx2 hsz hat hcs hcc
      generalize l[i] = d at *
      generalize baseK kind (l.take i) = B at *
      go_wp2
      exact ⟨⟨i + 1, by omega, by go_num, by rw [HX.out], trivial⟩, by simp [intOf]; omega⟩
    · obtain rfl : i = n := by omega
      go_wp2
      go_ret
      exact ⟨rfl, rfl⟩
end Go.Proofs.YtaiocbbcjdpjgaaGreatDoor.lnk
namespace Go.Proofs.YtaiocbbcjdpjgaaGreatDoor.lnk
open Go.RowKit
open Go.Proofs.YtaiocbbcjdpjgaaGreatDoor.syn (isName eqS)
open Go.Proofs.YtaiocbbcjdpjgaaGreatDoor.mac (BoxC Ins grown_of_below)
open Go.Proofs.YtaiocbbcjdpjgaaGreatDoor.obj (ObjD PlcD RelD Vals ObjAt PlcsIn RelsIn CodeIn FacesIn objV relV mayO)
open Go.Proofs.YtaiocbbcjdpjgaaGreatDoor.face (VarD ProcD FaceD FaceIn keep VarsIn ProcsIn IntsIn)
set_option linter.unusedVariables false
set_option linter.unusedSimpArgs false
set_option maxRecDepth 100000
theorem below_drewN (w : World) (N n : Nat) : Below N w (w.drewN n) := ⟨rfl, rfl, rfl, Nat.le_refl _, fun _ _ => rfl⟩
theorem find_le {l : List PlcD} {n : Int} (h : obj.placesB l n = true) (hn : n ≤ 20000) (nm : ByteArray) : findF nm l ≤ 20000 := by
  rcases Classical.em (∃ q ∈ l, q.name = nm) with ⟨q, hq, rfl⟩ | hx
  · rw [findF_at (apart_nodup h) hq]
    exact (plcs_ok h hn q hq).2.2
  · rw [findF_no (fun q hq e => hx ⟨q, hq, e⟩)]
    decide
set_option maxHeartbeats 2000000 in
theorem rStands (l : List ObjD) (v : Value) (r : RelD) (w : World) (hv : ObjsIn w v l) (hm : ∀ o ∈ l, mayO o = true) (hl6 : l.length ≤ 6) :
    Calls Tryz.prog 53 #[v, relV r] w fun e w' => e = .returned (.int .i64 (standsF l r.kind r.module r.name)) ∧ Below w.heap.size w w' := by
  have c13 : Tryz.prog.cellsOf 31 = 13 := by kernel_rfl
  have c4 : Tryz.prog.cellsOf 66 = 4 := by kernel_rfl
  obtain ⟨ra, kd, md, nm⟩ := r
  unfold relV
  dsimp only
  have hB := (Below.refl w.heap.size w).alloc (Nat.le_refl _) (.cells #[.int .i64 ra, .int .i64 kd, .string md, .string nm] 66)
  have hbx := BoxC.new w #[.int .i64 ra, .int .i64 kd, .string md, .string nm] 66
  have hvW := hv.below hB
  obtain ⟨V, hV⟩ : ∃ V, V = standsF l kd md nm := ⟨_, rfl⟩
  rw [← hV]
  replace hV : Hid (V = standsF l kd md nm) := hV
  obtain ⟨oa, oc, rfl, hll, hoc⟩ := hv
  have hMd := rModule l _ md _ hvW
  go_enter Tryz.func53, Tryz.ntmps53
  go_wp2_with (fail)
  refine hMd.mono ?_
  clear hMd
  generalize w.alloc (.cells #[.int .i64 ra, .int .i64 kd, .string md, .string nm] 66) = W at *
  rintro e w2 ⟨rfl, hw2⟩
  subst hw2
  have hbx1 := hbx.cell 1 rfl
  have hbx3 := hbx.cell 3 rfl
  clear hbx
  have HBd : Hid (Below w.heap.size w w2) := hB
  rcases modF_lt (m := md) l 0 with h1 | ⟨h1, h2⟩
  · have HR : Hid (V = -1) := by show _ = _; rw [hV.out]; unfold standsF; simp only [h1]; rfl
    rw [h1]
    clear hV h1 hB
    go_wp2
    go_ret
    exact ⟨by rw [HR.out]; rfl, HBd.out⟩
  · obtain ⟨j, hj⟩ : ∃ j : Nat, modF md 0 l = (j : Int) := ⟨(modF md 0 l).toNat, by omega⟩
    rw [hj] at h1 h2 ⊢
    have hjl : j < l.length := by omega
    obtain ⟨g, o, rfl, hcc⟩ := hoc (by intro e; rw [e] at hjl; simp at hjl)
    obtain ⟨x, hat, hcs⟩ := hcc j hjl
    have hdm := hm l[j] (List.getElem_mem hjl)
    have hbl := baseK_le hm (kind := kd) (Nat.le_of_lt hjl)
    have hBs := fun k => rBase l _ j kd (w2.drewN k) (hvW.below (below_drewN _ _ k)) (Nat.le_of_lt hjl) hm hl6
    have hSt : standsF l kd md nm = if findF nm (plcsK kd l[j]) < 0 then -1 else findF nm (plcsK kd l[j]) + baseK kd (l.take j) := by
      unfold standsF
      simp only [hj]
      rw [if_neg (by omega), Int.toNat_natCast, List.getElem?_eq_getElem hjl]
      rfl
    clear hoc hcc hm hj
    obtain ⟨_, _, m3, _, m5, m6, _, _, m9, m10, m11⟩ := may_parts hdm
    have hj6 : j ≤ 6 := by omega
    generalize l[j] = d at *
    obtain ⟨a1, c1, a2, c2, a3, c3', a4, c4', a5, c5, a6, c6, a7, c7, a8, c8, rfl⟩ := hat.shape
    have y6 := keep hcs.c6 hB
    have y7 := keep hcs.c7 hB
    have y8 := keep hcs.c8 hB
    have h6 := hat.q1.below hB
    have h7 := hat.q2.below hB
    have h8 := hat.q3.below hB
    dsimp only at y6 y7 y8 h6 h7 h8
    clear hcs hat hvW
    have hjl' : (j : Int) < (l.length : Int) := by omega
    by_cases k3 : kd = 3
    · subst k3
      have hFb : findF nm d.lows ≤ 20000 := find_le m10 m5.2 nm
      have hF := fun k => rFind d.lows (.slice a7 d.lows.length c7) nm (w2.drewN k) (h7.below (below_drewN w2 _ k))
      have HST : Hid (V = if findF nm d.lows < 0 then -1 else findF nm d.lows + baseK 3 (l.take j)) := by show _ = _; rw [hV.out]; rw [hSt]; rfl
      clear hV hdm
      obtain ⟨F, hFF⟩ : ∃ F, F = findF nm d.lows := ⟨_, rfl⟩
      rw [← hFF] at HST hFb
      replace hF : Hid (∀ k, Calls Tryz.prog 92 #[(.slice a7 d.lows.length c7), .string nm] (w2.drewN k) fun e w' => e = .returned (.int .i64 F) ∧ w' = w2.drewN k) := by rw [hFF]; exact hF
      replace hBs : Hid (∀ k, Calls Tryz.prog 51 #[.slice (some ⟨g, o, none⟩) l.length oc, .int .i64 j, .int .i64 3] (w2.drewN k) fun e w' => e = .returned (.int .i64 (baseK 3 (l.take j))) ∧ w' = w2.drewN k) := hBs
      clear hFF
      by_cases hF0 : F < 0
      · have HR : Hid (V = -1) := by show _ = _; rw [HST.out, if_pos hF0]
        clear HST
        go_wp2
        go_quiet (first | (go_at_call 92; refine Calls.quiet_of_same (hF.out _)))
        go_wp2
        go_ret
        exact ⟨by rw [HR.out]; rfl, HBd.out.trans (below_drewN _ _ _)⟩
      · have HR : Hid (V = F + baseK 3 (l.take j)) := by show _ = _; rw [HST.out, if_neg hF0]
        have hwr : IntKind.i64.wrap (F + baseK 3 (l.take j)) = F + baseK 3 (l.take j) := by rw [IntKind.wrap_i64]; omega
        clear HST
        generalize baseK 3 (l.take j) = BB at *
        go_wp2
        go_quiet (first | (go_at_call 92; refine Calls.quiet_of_same (hF.out _)))
        go_wp2_with (fail)
        refine (hBs.out _).mono ?_
        rintro e w5 ⟨rfl, hw5⟩
        subst hw5
        go_wp2
        go_ret
        exact ⟨by rw [HR.out]; rfl, HBd.out.trans (below_drewN _ _ _)⟩
    by_cases k4 : kd = 4
    · subst k4
      have hFb : findF nm d.highs ≤ 20000 := find_le m11 m6.2 nm
      have hF := fun k => rFind d.highs (.slice a8 d.highs.length c8) nm (w2.drewN k) (h8.below (below_drewN w2 _ k))
      have HST : Hid (V = if findF nm d.highs < 0 then -1 else findF nm d.highs + baseK 4 (l.take j)) := by show _ = _; rw [hV.out]; rw [hSt]; rfl
      clear hV hdm
      obtain ⟨F, hFF⟩ : ∃ F, F = findF nm d.highs := ⟨_, rfl⟩
      rw [← hFF] at HST hFb
      replace hF : Hid (∀ k, Calls Tryz.prog 92 #[(.slice a8 d.highs.length c8), .string nm] (w2.drewN k) fun e w' => e = .returned (.int .i64 F) ∧ w' = w2.drewN k) := by rw [hFF]; exact hF
      replace hBs : Hid (∀ k, Calls Tryz.prog 51 #[.slice (some ⟨g, o, none⟩) l.length oc, .int .i64 j, .int .i64 4] (w2.drewN k) fun e w' => e = .returned (.int .i64 (baseK 4 (l.take j))) ∧ w' = w2.drewN k) := hBs
      clear hFF
      by_cases hF0 : F < 0
      · have HR : Hid (V = -1) := by show _ = _; rw [HST.out, if_pos hF0]
        clear HST
        go_wp2
        go_quiet (first | (go_at_call 92; refine Calls.quiet_of_same (hF.out _)))
        go_wp2
        go_ret
        exact ⟨by rw [HR.out]; rfl, HBd.out.trans (below_drewN _ _ _)⟩
      · have HR : Hid (V = F + baseK 4 (l.take j)) := by show _ = _; rw [HST.out, if_neg hF0]
        have hwr : IntKind.i64.wrap (F + baseK 4 (l.take j)) = F + baseK 4 (l.take j) := by rw [IntKind.wrap_i64]; omega
        clear HST
        generalize baseK 4 (l.take j) = BB at *
        go_wp2
        go_quiet (first | (go_at_call 92; refine Calls.quiet_of_same (hF.out _)))
        go_wp2_with (fail)
        refine (hBs.out _).mono ?_
        rintro e w5 ⟨rfl, hw5⟩
        subst hw5
        go_wp2
        go_ret
        exact ⟨by rw [HR.out]; rfl, HBd.out.trans (below_drewN _ _ _)⟩
    have j3 : (kd == 3) = false := by rw [beq_eq_false_iff_ne]; exact k3
    have j4 : (kd == 4) = false := by rw [beq_eq_false_iff_ne]; exact k4
    have hFb : findF nm d.procs ≤ 20000 := find_le m9 (by omega) nm
    have hF := fun k => rFind d.procs (.slice a6 d.procs.length c6) nm (w2.drewN k) (h6.below (below_drewN w2 _ k))
    have HST : Hid (V = if findF nm d.procs < 0 then -1 else findF nm d.procs + baseK kd (l.take j)) := by show _ = _; rw [hV.out]; rw [hSt]; unfold plcsK; rw [if_neg k3, if_neg k4] 
    clear hV hdm
    obtain ⟨F, hFF⟩ : ∃ F, F = findF nm d.procs := ⟨_, rfl⟩
    rw [← hFF] at HST hFb
    replace hF : Hid (∀ k, Calls Tryz.prog 92 #[(.slice a6 d.procs.length c6), .string nm] (w2.drewN k) fun e w' => e = .returned (.int .i64 F) ∧ w' = w2.drewN k) := by rw [hFF]; exact hF
    replace hBs : Hid (∀ k, Calls Tryz.prog 51 #[.slice (some ⟨g, o, none⟩) l.length oc, .int .i64 j, .int .i64 kd] (w2.drewN k) fun e w' => e = .returned (.int .i64 (baseK kd (l.take j))) ∧ w' = w2.drewN k) := hBs
    clear hFF
    by_cases hF0 : F < 0
    · have HR : Hid (V = -1) := by show _ = _; rw [HST.out, if_pos hF0]
      clear HST
      go_wp2
      go_quiet (first | (go_at_call 92; refine Calls.quiet_of_same (hF.out _)))
      go_wp2
      go_ret
      exact ⟨by rw [HR.out]; rfl, HBd.out.trans (below_drewN _ _ _)⟩
    · have HR : Hid (V = F + baseK kd (l.take j)) := by show _ = _; rw [HST.out, if_neg hF0]
      have hwr : IntKind.i64.wrap (F + baseK kd (l.take j)) = F + baseK kd (l.take j) := by rw [IntKind.wrap_i64]; omega
      clear HST
      generalize baseK kd (l.take j) = BB at *
      go_wp2
      go_quiet (first | (go_at_call 92; refine Calls.quiet_of_same (hF.out _)))
      go_wp2_with (fail)
      refine (hBs.out _).mono ?_
      rintro e w5 ⟨rfl, hw5⟩
      subst hw5
      go_wp2
      go_ret
      exact ⟨by rw [HR.out]; rfl, HBd.out.trans (below_drewN _ _ _)⟩
end Go.Proofs.YtaiocbbcjdpjgaaGreatDoor.lnk
