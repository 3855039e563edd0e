/- What the linker's asked and knows answer: contracts. -/
import Derived.Test.YtaiocbbcjdpjgaaGreatDoorLMLnkMapN
import Derived.Test.YtaiocbbcjdpjgaaGreatDoorLMObjMay
namespace Go.Proofs.YtaiocbbcjdpjgaaGreatDoor.lnk
open Go.RowKit Go.Maps Go.WideMaps
open Go.Proofs.YtaiocbbcjdpjgaaGreatDoor.syn (isName eqS)
open Go.Proofs.YtaiocbbcjdpjgaaGreatDoor.mac (BoxC Ins grown_of_below)
open Go.Proofs.YtaiocbbcjdpjgaaGreatDoor.obj (ObjD PlcD RelD Vals ObjAt PlcsIn FacesIn objV relV faceV)
open Go.Proofs.YtaiocbbcjdpjgaaGreatDoor.face (VarD ProcD FaceD keep ret_b VarsIn ProcsIn)
set_option linter.unusedVariables false
set_option linter.unusedSimpArgs false
set_option maxRecDepth 100000
/-- what a reloc asks for -/
def askedF (o : ObjD) (r : RelD) : Thg := if r.kind = 1 then ⟨1, o.face.module, ⟨#[]⟩⟩ else ⟨r.kind, r.module, r.name⟩
theorem any_one {α : Type} {p : α → Bool} {l : List α} {k : Nat} (hk : k < l.length) (h : p l[k] = true) : l.any p = true := List.any_eq_true.2 ⟨l[k], List.getElem_mem hk, h⟩
theorem any_none {α : Type} {p : α → Bool} {l : List α} (h : ∀ j (hj : j < l.length), p l[j] = false) : l.any p = false := by
  rw [List.any_eq_false]
  intro x hx
  obtain ⟨j, hj, rfl⟩ := List.mem_iff_getElem.1 hx
  rw [h j hj]
  decide
theorem res_asked {W : World} {a0 a1 a2 a3 y0 y1 y2 : Value} (tl : List Value) (B : Nat) (h : BoxC W B #[y0, y1, y2] 133) (c : Tryz.prog.cellsOf 133 = 3) : (results Tryz.f83 (List.toArray (a0 :: a1 :: a2 :: a3 :: .pointer (some ⟨B, 0, none⟩) :: tl))).run Tryz.prog W = .ok (.agg #[y0, y1, y2]) W := by
  have z0 := h.cell 0 rfl
  have z1 := h.cell 1 rfl
  have z2 := h.cell 2 rfl
  simp [results, Tryz.f83, go_sem, z0, z1, z2]
set_option maxHeartbeats 1000000 in
theorem oAsked (o : ObjD) (x : Vals) (r : RelD) (w : World) (ho : ObjAt w x o) :
    Calls Tryz.prog 83 #[objV o x, relV r] w fun e w' => e = .returned (thgV (askedF o r)) ∧ Below w.heap.size w w' := by
  have c13 : Tryz.prog.cellsOf 31 = 13 := by kernel_rfl
  have c4 : Tryz.prog.cellsOf 66 = 4 := by kernel_rfl
  have c3 : Tryz.prog.cellsOf 133 = 3 := by kernel_rfl
  obtain ⟨a1, c1, a2, c2, a3, c3', a4, c4', a5, c5, a6, c6, a7, c7, a8, c8, rfl⟩ := ho.shape
  obtain ⟨ra, rk, rm, rn⟩ := r
  unfold objV relV
  dsimp only
  have hA1 := (Below.refl w.heap.size w).alloc (Nat.le_refl _) (.cells #[.string o.face.module, .slice a1 o.face.vars.length c1, .slice a2 o.face.procs.length c2, .slice a3 o.imports.length c3', .slice a4 o.code.length c4', .slice a5 o.relocs.length c5, .slice a6 o.procs.length c6, .slice a7 o.lows.length c7, .slice a8 o.highs.length c8, .int .i64 o.low, .int .i64 o.high, .int .i64 o.lowF, .int .i64 o.highF] 31)
  have hA2 := hA1.alloc hA1.size (.cells #[.int .i64 ra, .int .i64 rk, .string rm, .string rn] 66)
  by_cases h1 : rk = 1
  · subst h1
    have HE : Hid (askedF o ⟨ra, 1, rm, rn⟩ = ⟨1, o.face.module, ⟨#[]⟩⟩) := rfl
    generalize askedF o ⟨ra, 1, rm, rn⟩ = G at *
    have hA3 := hA2.alloc hA2.size (.cells #[.int .i64 1, .string o.face.module, .string ⟨#[]⟩] 133)
    have hb3 := BoxC.new ((w.alloc (.cells #[.string o.face.module, .slice a1 o.face.vars.length c1, .slice a2 o.face.procs.length c2, .slice a3 o.imports.length c3', .slice a4 o.code.length c4', .slice a5 o.relocs.length c5, .slice a6 o.procs.length c6, .slice a7 o.lows.length c7, .slice a8 o.highs.length c8, .int .i64 o.low, .int .i64 o.high, .int .i64 o.lowF, .int .i64 o.highF] 31)).alloc (.cells #[.int .i64 ra, .int .i64 1, .string rm, .string rn] 66)) #[.int .i64 1, .string o.face.module, .string ⟨#[]⟩] 133
    rw [World.size_alloc, World.size_alloc] at hb3
    go_enter Tryz.func83, Tryz.ntmps83
    go_wp2
    refine bodyPost_ret (res_asked _ _ hb3 c3) rfl ?_
    exact ⟨by rw [HE.out]; rfl, hA3⟩
  · have HE : Hid (askedF o ⟨ra, rk, rm, rn⟩ = ⟨rk, rm, rn⟩) := by show _ = _; unfold askedF; rw [if_neg h1]
    generalize askedF o ⟨ra, rk, rm, rn⟩ = G at *
    have hA3 := hA2.alloc hA2.size (.cells #[.int .i64 rk, .string rm, .string rn] 133)
    have hb3 := BoxC.new ((w.alloc (.cells #[.string o.face.module, .slice a1 o.face.vars.length c1, .slice a2 o.face.procs.length c2, .slice a3 o.imports.length c3', .slice a4 o.code.length c4', .slice a5 o.relocs.length c5, .slice a6 o.procs.length c6, .slice a7 o.lows.length c7, .slice a8 o.highs.length c8, .int .i64 o.low, .int .i64 o.high, .int .i64 o.lowF, .int .i64 o.highF] 31)).alloc (.cells #[.int .i64 ra, .int .i64 rk, .string rm, .string rn] 66)) #[.int .i64 rk, .string rm, .string rn] 133
    rw [World.size_alloc, World.size_alloc] at hb3
    go_enter Tryz.func83, Tryz.ntmps83
    go_wp2
    refine bodyPost_ret (res_asked _ _ hb3 c3) rfl ?_
    exact ⟨by rw [HE.out]; rfl, hA3⟩
set_option maxHeartbeats 1000000 in
theorem oIts (f : FaceD) (a : Option Addr) (n c : Nat) (a' : Option Addr) (n' c' : Nat) (rb : Nat) (r : RelD) (w : World) (hr : BoxC w rb #[.int .i64 r.at', .int .i64 r.kind, .string r.module, .string r.name] 66) :
    Calls Tryz.prog 123 #[.agg #[.string f.module, .slice a n c, .slice a' n' c'], .pointer (some ⟨rb, 0, none⟩)] w fun e w' => e = .returned (.bool (eqS f.module r.module)) ∧ Below w.heap.size w w' := by
  have c3 : Tryz.prog.cellsOf 25 = 3 := by kernel_rfl
  have hA := (Below.refl w.heap.size w).alloc (Nat.le_refl _) (.cells #[.string f.module, .slice a n c, .slice a' n' c'] 25)
  have hr2 := hr.alloc (.cells #[.string f.module, .slice a n c, .slice a' n' c'] 25)
  have q2 := hr2.cell 2 rfl
  have HE : Hid (eqS f.module r.module = (f.module.toList == r.module.toList)) := rfl
  generalize eqS f.module r.module = G at *
  go_enter Tryz.func123, Tryz.ntmps123
  go_wp2
  go_ret
  exact ⟨by rw [HE.out]; first | rfl | simp, hA⟩
set_option maxHeartbeats 1000000 in
theorem oIndexF (l : List FaceD) (v : Value) (rb : Nat) (r : RelD) (w : World) (hv : FacesIn w v l) (hr : BoxC w rb #[.int .i64 r.at', .int .i64 r.kind, .string r.module, .string r.name] 66) :
    Calls Tryz.prog 147 #[v, .func (.func 123) #[] #[.pointer (some ⟨rb, 0, none⟩)]] w fun e w' => ∃ k : Int, e = .returned (.int .i64 k) ∧ decide (0 ≤ k) = l.any (fun f => eqS f.module r.module) ∧ Below w.heap.size w w' := by
  have c3 : Tryz.prog.cellsOf 25 = 3 := by kernel_rfl
  obtain ⟨ia, ic, rfl, hl, hc⟩ := hv
  go_enter Tryz.func147, Tryz.ntmps147
  go_wp2
  go_loopw [8] (fun u wr => ∃ k : Nat, k ≤ l.length ∧ u = .int .i64 k ∧ Below w.heap.size w wr ∧ Hid (∀ j (hj : j < l.length), j < k → eqS l[j].module r.module = false)) (fun u _ => l.length - (intOf u).toNat)
  case atStart => exact ⟨0, Nat.zero_le _, rfl, Below.refl _ _, fun j _ hj => by omega⟩
  case round =>
    obtain ⟨k, hkl, rfl, hBr, HN⟩ := hrel
    by_cases hlt : k < l.length
    · obtain ⟨g, o, rfl, hcc⟩ := hc (by intro e; rw [e] at hlt; simp at hlt)
      obtain ⟨k0, ⟨y, k1, hy⟩, ⟨z, k2, hz⟩⟩ := hcc k hlt
      replace k0 := keep k0 hBr
      replace k1 := keep k1 hBr
      replace k2 := keep k2 hBr
      obtain ⟨ya, yc, rfl⟩ : ∃ a c, y = .slice a l[k].vars.length c := by obtain ⟨a, c, e, _⟩ := hy; exact ⟨a, c, e⟩
      obtain ⟨za, zc, rfl⟩ : ∃ a c, z = .slice a l[k].procs.length c := by obtain ⟨a, c, e, _⟩ := hz; exact ⟨a, c, e⟩
      have hct := oIts l[k] ya l[k].vars.length yc za l[k].procs.length zc rb r wr (hr.below hBr)
      cases hV : eqS l[k].module r.module
      · rw [hV] at hct
        have HE : Hid (∀ j (hj : j < l.length), j = k → eqS l[j].module r.module = false) := fun j hj e => by subst e; exact hV
        clear hV hcc hc hy hz
        generalize l[k] = x at *
        go_wp2_with (go_at_call 123; refine hct.mono ?_; rintro e w2 ⟨rfl, hb2⟩)
        go_roundw
        case rel => exact ⟨k + 1, by omega, by go_num, hBr.trans (hb2.mono hBr.size), fun j hj h1 => by
          rcases Nat.lt_or_ge j k with h | h
          · exact HN.out j hj h
          · exact HE.out j hj (by omega)⟩
        case measure => simp [intOf]; omega
      · rw [hV] at hct
        have HE : Hid (l.any (fun f => eqS f.module r.module) = true) := any_one hlt hV
        clear hV hcc hc hy hz
        generalize l[k] = x at *
        go_wp2_with (go_at_call 123; refine hct.mono ?_; rintro e w2 ⟨rfl, hb2⟩)
        go_ret
        exact ⟨(k : Int), rfl, by rw [HE.out]; simp, hBr.trans (hb2.mono hBr.size)⟩
    · have HE : Hid (l.any (fun f => eqS f.module r.module) = false) := any_none (fun j hj => HN.out j hj (by omega))
      clear HN
      go_wp2
      go_ret
      exact ⟨-1, rfl, by rw [HE.out]; rfl, hBr⟩
theorem oContainsF (l : List FaceD) (v : Value) (rb : Nat) (r : RelD) (w : World) (hv : FacesIn w v l) (hr : BoxC w rb #[.int .i64 r.at', .int .i64 r.kind, .string r.module, .string r.name] 66) :
    Calls Tryz.prog 124 #[v, .func (.func 123) #[] #[.pointer (some ⟨rb, 0, none⟩)]] w fun e w' => e = .returned (.bool (l.any fun f => eqS f.module r.module)) ∧ Below w.heap.size w w' := by
  have h := oIndexF l v rb r w hv hr
  obtain ⟨ia, ic, rfl⟩ : ∃ a c, v = .slice a l.length c := by obtain ⟨a, c, e, _⟩ := hv; exact ⟨a, c, e⟩
  generalize (l.any fun f => eqS f.module r.module) = V at *
  go_enter Tryz.func124, Tryz.ntmps124
  go_wp2_with (fail)
  refine h.mono ?_
  rintro e w1 ⟨k, rfl, hi, hw⟩
  go_wp2
  go_ret
  exact ⟨by rw [← hi]; rfl, hw⟩
/-- does an object know the module that a reloc of it asks for? -/
def knowsF (o : ObjD) (r : RelD) : Bool := decide (r.kind = 1) || (eqS o.face.module r.module || o.imports.any fun f => eqS f.module r.module)
set_option maxHeartbeats 2000000 in
theorem oKnows (o : ObjD) (x : Vals) (r : RelD) (w : World) (ho : ObjAt w x o) :
    Calls Tryz.prog 84 #[objV o x, relV r] w fun e w' => e = .returned (.bool (knowsF o r)) ∧ Below w.heap.size w w' := by
  have c13 : Tryz.prog.cellsOf 31 = 13 := by kernel_rfl
  have c4 : Tryz.prog.cellsOf 66 = 4 := by kernel_rfl
  have c3 : Tryz.prog.cellsOf 25 = 3 := by kernel_rfl
  have hmf : ∀ (fn : Fn) (first cap : Array Value) (w : World), (Instr.makeFunc fn first cap).run Tryz.prog w = .ok (.func fn first cap) w := fun _ _ _ _ => rfl
  obtain ⟨ra, rk, rm, rn⟩ := r
  obtain ⟨a1, c1, a2, c2, a3, c3', a4, c4', a5, c5, a6, c6, a7, c7, a8, c8, rfl⟩ := ho.shape
  have hA1 := (Below.refl w.heap.size w).alloc (Nat.le_refl _) (.cells #[.string o.face.module, .slice a1 o.face.vars.length c1, .slice a2 o.face.procs.length c2, .slice a3 o.imports.length c3', .slice a4 o.code.length c4', .slice a5 o.relocs.length c5, .slice a6 o.procs.length c6, .slice a7 o.lows.length c7, .slice a8 o.highs.length c8, .int .i64 o.low, .int .i64 o.high, .int .i64 o.lowF, .int .i64 o.highF] 31)
  have hA2 := hA1.alloc hA1.size (.cells #[.int .i64 ra, .int .i64 rk, .string rm, .string rn] 66)
  have hbo := (BoxC.new w #[.string o.face.module, .slice a1 o.face.vars.length c1, .slice a2 o.face.procs.length c2, .slice a3 o.imports.length c3', .slice a4 o.code.length c4', .slice a5 o.relocs.length c5, .slice a6 o.procs.length c6, .slice a7 o.lows.length c7, .slice a8 o.highs.length c8, .int .i64 o.low, .int .i64 o.high, .int .i64 o.lowF, .int .i64 o.highF] 31).alloc (.cells #[.int .i64 ra, .int .i64 rk, .string rm, .string rn] 66)
  have hbr := BoxC.new (w.alloc (.cells #[.string o.face.module, .slice a1 o.face.vars.length c1, .slice a2 o.face.procs.length c2, .slice a3 o.imports.length c3', .slice a4 o.code.length c4', .slice a5 o.relocs.length c5, .slice a6 o.procs.length c6, .slice a7 o.lows.length c7, .slice a8 o.highs.length c8, .int .i64 o.low, .int .i64 o.high, .int .i64 o.lowF, .int .i64 o.highF] 31)) #[.int .i64 ra, .int .i64 rk, .string rm, .string rn] 66
  rw [World.size_alloc] at hbr
  have hI := oIts o.face a1 o.face.vars.length c1 a2 o.face.procs.length c2 (w.heap.size + 1) ⟨ra, rk, rm, rn⟩ _ hbr
  have HV : Hid (knowsF o ⟨ra, rk, rm, rn⟩ = (decide (rk = 1) || (eqS o.face.module rm || o.imports.any fun f => eqS f.module rm))) := rfl
  generalize knowsF o ⟨ra, rk, rm, rn⟩ = G at *
  unfold objV relV
  dsimp only at hI ⊢
  by_cases h1 : rk = 1
  · subst h1
    have HE : Hid (G = true) := by show _ = _; rw [HV.out]; rfl
    go_enter Tryz.func84, Tryz.ntmps84
    go_wp2
    go_ret
    exact ⟨ret_b HE.out.symm, hA2⟩
  · have hk : (rk == 1) = false := by simp [h1]
    cases h2 : eqS o.face.module rm
    · rw [h2] at hI
      go_enter Tryz.func84, Tryz.ntmps84
      go_wp2_with (fail)
      refine hI.mono ?_
      rintro e w2 ⟨rfl, hb2⟩
      have hB2 := hA2.trans (hb2.mono hA2.size)
      have hC := oContainsF o.imports (.slice a3 o.imports.length c3') (w.heap.size + 1) ⟨ra, rk, rm, rn⟩ w2 (ho.imps.below hB2) (hbr.below hb2)
      have HE : Hid (G = (o.imports.any fun f => eqS f.module rm)) := by show _ = _; rw [HV.out, decide_eq_false h1, h2]; rfl
      generalize (o.imports.any fun f => eqS f.module rm) = V at *
      have y3 := (hbo.below hb2).cell 3 rfl
      go_wp2_with (fail)
      refine hC.mono ?_
      rintro e w3 ⟨rfl, hb3⟩
      go_wp2
      go_ret
      exact ⟨ret_b HE.out.symm, hB2.trans (hb3.mono hB2.size)⟩
    · rw [h2] at hI
      have HE : Hid (G = true) := by show _ = _; rw [HV.out, h2]; simp
      go_enter Tryz.func84, Tryz.ntmps84
      go_wp2_with (fail)
      refine hI.mono ?_
      rintro e w2 ⟨rfl, hb2⟩
      go_wp2
      go_ret
      exact ⟨ret_b HE.out.symm, hA2.trans (hb2.mono hA2.size)⟩
end Go.Proofs.YtaiocbbcjdpjgaaGreatDoor.lnk
