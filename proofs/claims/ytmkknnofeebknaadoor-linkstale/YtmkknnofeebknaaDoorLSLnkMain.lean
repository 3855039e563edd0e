/- What IsMain, and the linker's tryMain answer: contracts. -/
import Derived.Test.YtmkknnofeebknaaDoorLSLnkRel
namespace Go.Proofs.YtmkknnofeebknaaDoor.lnk
open Go.RowKit Go.Maps Go.WideMaps
open Go.Proofs.YtmkknnofeebknaaDoor.syn (isName eqS)
open Go.Proofs.YtmkknnofeebknaaDoor.mac (BoxC Ins grown_of_below)
open Go.Proofs.YtmkknnofeebknaaDoor.obj (ObjD PlcD RelD Vals ObjAt PlcsIn objV)
open Go.Proofs.YtmkknnofeebknaaDoor.face (VarD ProcD FaceD FaceIn keep VarsIn ProcsIn IntsIn)
set_option linter.unusedVariables false
set_option linter.unusedSimpArgs false
set_option maxRecDepth 100000
theorem eqS_lit (x : ByteArray) (l : List UInt8) : eqS x ⟨l.toArray⟩ = (x.toList == l) := by
  unfold eqS
  congr 1
  rw [ByteArray.toList_eq]
def isMainB (p : ProcD) : Bool := eqS p.name ⟨#[109, 97, 105, 110]⟩ && p.params.length == 0 && p.writes == 0 && !p.gives
set_option maxHeartbeats 1000000 in
theorem oIsMain (nm : ByteArray) (pb gv : Bool) (a : Option Addr) (n c : Nat) (wr gn : Int) (w : World) :
    Calls Tryd.prog 22 #[.agg #[.string nm, .bool pb, .slice a n c, .int .i64 wr, .bool gv, .int .i64 gn]] w fun e w' => e = .returned (.bool (eqS nm ⟨#[109, 97, 105, 110]⟩ && n == 0 && wr == 0 && !gv)) ∧ Below w.heap.size w w' := by
  have c6 : Tryd.prog.cellsOf 64 = 6 := by kernel_rfl
  have hA := (Below.refl w.heap.size w).alloc (Nat.le_refl _) (.cells #[.string nm, .bool pb, .slice a n c, .int .i64 wr, .bool gv, .int .i64 gn] 64)
  by_cases h1 : nm.toList = [109, 97, 105, 110]
  rotate_left
  · have HM : Hid (eqS nm ⟨#[109, 97, 105, 110]⟩ = false) := by show _ = _; rw [show eqS nm ⟨#[109, 97, 105, 110]⟩ = (nm.toList == [109, 97, 105, 110]) from eqS_lit nm [109, 97, 105, 110]]; simpa using h1
    go_enter Tryd.func22, Tryd.ntmps22
    go_wp2
    go_ret
    exact ⟨by rw [HM.out]; rfl, hA⟩
  · have HM : Hid (eqS nm ⟨#[109, 97, 105, 110]⟩ = true) := by show _ = _; rw [show eqS nm ⟨#[109, 97, 105, 110]⟩ = (nm.toList == [109, 97, 105, 110]) from eqS_lit nm [109, 97, 105, 110]]; simpa using h1
    by_cases h2 : n = 0
    · subst h2
      by_cases h3 : wr = 0
      · subst h3
        cases gv
        · go_enter Tryd.func22, Tryd.ntmps22
          go_wp2
          go_ret
          exact ⟨by rw [HM.out]; rfl, hA⟩
        · go_enter Tryd.func22, Tryd.ntmps22
          go_wp2
          go_ret
          exact ⟨by rw [HM.out]; rfl, hA⟩
      · have HE : Hid ((wr == 0) = false) := by show _ = _; simp [h3]
        go_enter Tryd.func22, Tryd.ntmps22
        go_wp2
        go_ret
        exact ⟨by rw [HM.out, HE.out]; rfl, hA⟩
    · have HE : Hid ((n == 0) = false) := by show _ = _; simp [h2]
      have h2' : ¬ ((n : Int) = 0) := by omega
      go_enter Tryd.func22, Tryd.ntmps22
      go_wp2
      go_ret
      exact ⟨by rw [HM.out, HE.out]; rfl, hA⟩
set_option maxHeartbeats 1000000 in
theorem oIndexP (l : List ProcD) (v : Value) (w : World) (hv : ProcsIn w v l) :
    Calls Tryd.prog 36 #[v, .func (.func 22) #[] #[]] w fun e w' => ∃ k : Int, e = .returned (.int .i64 k) ∧ decide (0 ≤ k) = l.any isMainB ∧ Below w.heap.size w w' := by
  have c6 : Tryd.prog.cellsOf 64 = 6 := by kernel_rfl
  have hl : l.length ≤ 4611686018427387903 := by obtain ⟨_, _, _, h, _⟩ := hv; exact h
  obtain ⟨ia, ic, rfl⟩ : ∃ a c, v = .slice a l.length c := by obtain ⟨a, c, e, _⟩ := hv; exact ⟨a, c, e⟩
  go_enter Tryd.func36, Tryd.ntmps36
  go_wp2
  go_loopw [8] (fun u wr => ∃ k : Nat, k ≤ l.length ∧ u = .int .i64 k ∧ Below w.heap.size w wr ∧ Hid (∀ j (hj : j < l.length), j < k → isMainB l[j] = false)) (fun u _ => l.length - (intOf u).toNat)
  case atStart => exact ⟨0, Nat.zero_le _, rfl, Below.refl _ _, fun j _ hj => by omega⟩
  case round =>
    obtain ⟨k, hkl, rfl, hBr, HN⟩ := hrel
    by_cases hlt : k < l.length
    · obtain ⟨g, o, rfl, q0, q1, ⟨u, q2, hu⟩, q3, q4, q5⟩ : ∃ g o, ia = some ⟨g, o, none⟩ ∧ wr.cell? ⟨g, o + k * 6, none⟩ = some (.string l[k].name) ∧ wr.cell? ⟨g, o + k * 6 + 1, none⟩ = some (.bool l[k].pub) ∧
    (∃ u, wr.cell? ⟨g, o + k * 6 + 2, none⟩ = some u ∧ IntsIn wr u l[k].params) ∧
    wr.cell? ⟨g, o + k * 6 + 3, none⟩ = some (.int .i64 l[k].writes) ∧ wr.cell? ⟨g, o + k * 6 + 4, none⟩ = some (.bool l[k].gives) ∧ wr.cell? ⟨g, o + k * 6 + 5, none⟩ = some (.int .i64 l[k].given) := by
        obtain ⟨a', c', e', _, hk'⟩ := hv.below hBr
        obtain ⟨g', o', e2, hc⟩ := hk' (by intro e; rw [e] at hlt; simp at hlt)
        injection e' with e1
        exact ⟨g', o', e1.trans e2, hc k hlt⟩
      obtain ⟨pa, pc, rfl, -, -⟩ := hu
      have hct := oIsMain l[k].name l[k].pub l[k].gives pa l[k].params.length pc l[k].writes l[k].given wr
      generalize hV : (eqS l[k].name ⟨#[109, 97, 105, 110]⟩ && l[k].params.length == 0 && l[k].writes == 0 && !l[k].gives) = V at hct
      cases V
      · have HE : Hid (isMainB l[k] = false) := hV
        clear hV
        generalize l[k].params.length = pn at *
        generalize l[k].name = d0 at *
        generalize l[k].pub = d1 at *
        generalize l[k].writes = d3 at *
        generalize l[k].gives = d4 at *
        generalize l[k].given = d5 at *
        go_wp2_with (go_at_call 22; refine hct.mono ?_; rintro e w2 ⟨rfl, hb2⟩)
        go_roundw
        case rel => exact ⟨k + 1, by omega, by go_num, hBr.trans (hb2.mono hBr.size), fun j hj h1 => by
          rcases Nat.lt_or_ge j k with h | h
          · exact HN.out j hj h
          · have : j = k := by omega
            subst this
            exact HE.out⟩
        case measure => simp [intOf]; omega
      · have HE : Hid (l.any isMainB = true) := any_one hlt hV
        clear hV
        generalize l[k].params.length = pn at *
        generalize l[k].name = d0 at *
        generalize l[k].pub = d1 at *
        generalize l[k].writes = d3 at *
        generalize l[k].gives = d4 at *
        generalize l[k].given = d5 at *
        go_wp2_with (go_at_call 22; refine hct.mono ?_; rintro e w2 ⟨rfl, hb2⟩)
        go_ret
        exact ⟨(k : Int), rfl, by rw [HE.out]; simp, hBr.trans (hb2.mono hBr.size)⟩
    · have HE : Hid (l.any isMainB = false) := any_none (fun j hj => HN.out j hj (by omega))
      clear HN
      go_wp2
      go_ret
      exact ⟨-1, rfl, by rw [HE.out]; rfl, hBr⟩
theorem oContainsP (l : List ProcD) (v : Value) (w : World) (hv : ProcsIn w v l) :
    Calls Tryd.prog 21 #[v, .func (.func 22) #[] #[]] w fun e w' => e = .returned (.bool (l.any isMainB)) ∧ Below w.heap.size w w' := by
  have h := oIndexP l v w hv
  obtain ⟨ia, ic, rfl⟩ : ∃ a c, v = .slice a l.length c := by obtain ⟨a, c, e, _⟩ := hv; exact ⟨a, c, e⟩
  generalize l.any isMainB = V at *
  go_enter Tryd.func21, Tryd.ntmps21
  go_wp2_with (fail)
  refine h.mono ?_
  rintro e w1 ⟨k, rfl, hi, hw⟩
  go_wp2
  go_ret
  exact ⟨by rw [← hi]; rfl, hw⟩
/-- is there no main to begin with? -/
def mainT (fb : Thg → Option Int) (f : ByteArray → Option FaceD) : Option (Int × Int × Int) :=
  if ((fb ⟨2, ⟨#[109, 97, 105, 110]⟩, ⟨#[109, 97, 105, 110]⟩⟩).isSome && ((f ⟨#[109, 97, 105, 110]⟩).map fun fd => fd.procs.any isMainB).getD false) = true then none else some (0, 4, 0)
set_option maxHeartbeats 2000000 in
theorem oTryMain {w0 w : World} {p : Pl} {s : St} {cv : Value} {nm nb : Nat} {f : ByteArray → Option FaceD} (h : LS w p s cv nm nb) (hB : Below w0.heap.size w0 w) (hf : FM w0 s.mods f) :
    Calls Tryd.prog 9 #[.pointer (some ⟨p.K, 0, none⟩)] w (ImpE w (mainT s.begs f)) := by
  have c3 : Tryd.prog.cellsOf 34 = 3 := by kernel_rfl
  have hM := oMain h
  have m4 := h.mo
  have hl := h.mm.look ⟨#[109, 97, 105, 110]⟩ (by unfold maxLen; decide)
  obtain ⟨T, hT⟩ : ∃ T, T = mainT s.begs f := ⟨_, rfl⟩
  rw [← hT]
  unfold mainT at hT
  cases hG : s.begs ⟨2, ⟨#[109, 97, 105, 110]⟩, ⟨#[109, 97, 105, 110]⟩⟩ with
  | none =>
    rw [hG] at hM hT
    have HR : Hid (T = some (0, 4, 0)) := hT
    clear hT
    go_enter Tryd.func9, Tryd.ntmps9
    go_wp2_with (fail)
    refine hM.mono ?_
    rintro e w1 ⟨rfl, rfl⟩
    go_wp2_with (fail)
    refine (oRefuse _ _ _ _).mono ?_
    rintro e w9 ⟨rfl, rfl⟩
    go_wp2
    exact ⟨rfl, Below.refl _ _, EndT.yes HR.out⟩
  | some gv =>
    rw [hG] at hM hT
    rcases hf ⟨#[109, 97, 105, 110]⟩ with ⟨hm1, hm2⟩ | ⟨v, fd, hm1, hm2, hm3⟩
    · rw [hm1] at hl
      rw [hm2] at hT
      have HR : Hid (T = some (0, 4, 0)) := hT
      have hC := oContainsP [] (.slice none 0 0) w ⟨none, 0, rfl, by simp, fun h => absurd rfl h⟩
      have hfl : ∀ w : World, (Instr.field 34 noFaceV 2).run Tryd.prog w = .ok (.slice none 0 0) w := fun _ => by kernel_rfl
      clear hT
      replace hl : (Instr.lookup 43 (.map (some p.mb)) (.string ⟨#[109, 97, 105, 110]⟩) false).run Tryd.prog w = .ok noFaceV w := hl
      go_enter Tryd.func9, Tryd.ntmps9
      go_wp2_with (fail)
      refine hM.mono ?_
      rintro e w1 ⟨rfl, rfl⟩
      go_wp2_with (fail)
      refine hC.mono ?_
      rintro e w2 ⟨rfl, hb2⟩
      go_wp2_with (fail)
      refine (oRefuse _ _ _ _).mono ?_
      rintro e w9 ⟨rfl, rfl⟩
      go_wp2
      exact ⟨rfl, hb2, EndT.yes HR.out⟩
    · obtain ⟨vv, pv, rfl, hvv, hpv⟩ := hm3
      obtain ⟨pa, pc, rfl⟩ : ∃ a c, pv = .slice a fd.procs.length c := by obtain ⟨a, c, e, _⟩ := hpv; exact ⟨a, c, e⟩
      obtain ⟨va, vc, rfl⟩ : ∃ a c, vv = .slice a fd.vars.length c := by obtain ⟨a, c, e, _⟩ := hvv; exact ⟨a, c, e⟩
      rw [hm1] at hl
      rw [hm2] at hT
      replace hl : (Instr.lookup 43 (.map (some p.mb)) (.string ⟨#[109, 97, 105, 110]⟩) false).run Tryd.prog w = .ok (.agg #[.string fd.module, .slice va fd.vars.length vc, .slice pa fd.procs.length pc]) w := hl
      have hC := oContainsP fd.procs (.slice pa fd.procs.length pc) w (hpv.below hB)
      have hfl : ∀ w : World, (Instr.field 34 (.agg #[.string fd.module, .slice va fd.vars.length vc, .slice pa fd.procs.length pc]) 2).run Tryd.prog w = .ok (.slice pa fd.procs.length pc) w := fun _ => by kernel_rfl
      cases hA : fd.procs.any isMainB
      · rw [hA] at hC
        have HR : Hid (T = some (0, 4, 0)) := by show _ = _; rw [hT]; simp [hA]
        clear hT
        go_enter Tryd.func9, Tryd.ntmps9
        go_wp2_with (fail)
        refine hM.mono ?_
        rintro e w1 ⟨rfl, rfl⟩
        go_wp2_with (fail)
        refine hC.mono ?_
        rintro e w2 ⟨rfl, hb2⟩
        go_wp2_with (fail)
        refine (oRefuse _ _ _ _).mono ?_
        rintro e w9 ⟨rfl, rfl⟩
        go_wp2
        exact ⟨rfl, hb2, EndT.yes HR.out⟩
      · rw [hA] at hC
        have HR : Hid (T = none) := by show _ = _; rw [hT]; simp [hA]
        clear hT
        go_enter Tryd.func9, Tryd.ntmps9
        go_wp2_with (fail)
        refine hM.mono ?_
        rintro e w1 ⟨rfl, rfl⟩
        go_wp2_with (fail)
        refine hC.mono ?_
        rintro e w2 ⟨rfl, hb2⟩
        go_wp2
        go_end0
        exact ⟨hb2, EndT.no HR.out⟩
end Go.Proofs.YtmkknnofeebknaaDoor.lnk
