/- The reference's reader: its state; what wide, number, truth and text answer: contracts. A longer reading, step by step: lists; what is lost stays lost. Plain facts. -/
import Derived.BigQuiet
import Derived.Deep.QuietTactic
import Derived.Test.YthfeojjfehbgjaaGreatDoorOGObjWin
import Derived.Test.YthfeojjfehbgjaaGreatDoorOGObjRdN
namespace Go.Proofs.YthfeojjfehbgjaaGreatDoor.obj
open Go.RowKit
open Go.Proofs.YthfeojjfehbgjaaGreatDoor.mac (BoxC grown_of_below)
set_option linter.unusedVariables false
set_option linter.unusedSimpArgs false
set_option maxRecDepth 100000
/-- the reader: all bytes, where it is, whether it has failed -/
structure RB (w : World) (r : Nat) (a : Option Addr) (c : Nat) (L : By) (p : Nat) (bad : Bool) : Prop where
  box : BoxC w r #[.slice a L.length c, .int .i64 (p : Int), .bool bad] 72
  le : p ≤ L.length
  most : L.length ≤ 1073741824
  lc : L.length ≤ c
  cm : c ≤ 9223372036854775807
  nil : a = none → c = 0
  plain : ∀ x, a = some x → ∃ g o, x = ⟨g, o, none⟩
  by' : ByIn w r a L
section
variable {w w' : World} {r c p : Nat} {a : Option Addr} {L : By} {bad : Bool}
theorem RB.lt (h : RB w r a c L p bad) : r < w.heap.size := h.box.lt
theorem RB.low {N : Nat} (h : RB w r a c L p bad) (hb : Below N w w') (hr : r < N) : RB w' r a c L p bad :=
  ⟨(hb.block r hr).trans h.box, h.le, h.most, h.lc, h.cm, h.nil, h.plain, fun hne => by
    obtain ⟨g, o, e, h1, hc⟩ := h.by' hne
    exact ⟨g, o, e, h1, fun i hi => (World.cell?_of_block (a := ⟨g, o + i, none⟩) (hb.block g (by omega))).trans (hc i hi)⟩⟩
theorem RB.fr {D : Nat} (h : RB w r a c L p bad) (hf : FrR D w w') (hD : r < D) : RB w' r a c L p bad :=
  ⟨(hf.block r h.lt (Nat.ne_of_lt hD) (by simp [nilV, Value.ownBlock])).trans h.box, h.le, h.most, h.lc, h.cm, h.nil, h.plain, fun hne => by
    obtain ⟨g, o, e, h1, hc⟩ := h.by' hne
    have hlt : g < w.heap.size := by have := h.lt; omega
    exact ⟨g, o, e, h1, fun i hi => (World.cell?_of_block (a := ⟨g, o + i, none⟩) (hf.block g hlt (by omega) (by simp [nilV, Value.ownBlock]))).trans (hc i hi)⟩⟩
theorem RB.bytes (h : RB w r a c L p bad) (k : Nat) (v : Value) : ByIn (w.setCell ⟨r, k, none⟩ v) r a L := h.by'.fr ((Fr.refl _ _ _).set k v)
theorem RB.setBad (h : RB w r a c L p bad) (b : Bool) : RB (w.setCell ⟨r, 2, none⟩ (.bool b)) r a c L p b :=
  ⟨by have := h.box.set 2 (.bool b); simpa using this, h.le, h.most, h.lc, h.cm, h.nil, h.plain, h.bytes _ _⟩
theorem RB.setAt (h : RB w r a c L p bad) (q : Nat) (hq : q ≤ L.length) : RB (w.setCell ⟨r, 1, none⟩ (.int .i64 (q : Int))) r a c L q bad :=
  ⟨by have := h.box.set 1 (.int .i64 (q : Int)); simpa using this, hq, h.most, h.lc, h.cm, h.nil, h.plain, h.bytes _ _⟩
theorem RB.drewN (h : RB w r a c L p bad) (n : Nat) : RB (w.drewN n) r a c L p bad := h.low (N := w.heap.size) ⟨rfl, rfl, rfl, Nat.le_refl _, fun _ _ => rfl⟩ h.lt
theorem RB.drew (h : RB w r a c L p bad) : RB w.drew r a c L p bad := h.low (Below.refl _ _).drew h.lt
end
theorem frr_drewN (r : Nat) (w : World) (n : Nat) : FrR r w (w.drewN n) := Fr.below (show Below w.heap.size w (w.drewN n) from ⟨rfl, rfl, rfl, Nat.le_refl _, fun _ _ => rfl⟩) r nilV
/-- a step of the reader: as the plain reading says, while nothing is lost -/
structure Stp {α : Type} (g : By → Option (α × By)) (L : By) (p : Nat) (b : Bool) (x : α) (p' : Nat) (b' : Bool) : Prop where
  stays : b = true → b' = true
  lost : b = false → b' = true → g (L.drop p) = none
  got : b' = false → g (L.drop p) = some (x, L.drop p')
/-- how a longer reading stands: lost, or what is left of it -/
structure KR {β : Type} (b0 b : Bool) (G X : Option β) : Prop where
  lost : b = true → b0 = false → G = none
  got : b = false → b0 = false ∧ G = X
theorem KR.begin {β : Type} (b : Bool) (G : Option β) : KR b b G G := ⟨(fun h1 h2 => by rw [h1] at h2; cases h2), fun h => ⟨h, rfl⟩⟩
theorem KR.step {α β : Type} {b0 b b' : Bool} {G : Option β} {C : Option β → Option β} {g : By → Option (α × By)} {k : α × By → Option β} {L : By} {p p' : Nat} {x : α} (h : KR b0 b G (C ((g (L.drop p)).bind k))) (hC : C none = none) (s : Stp g L p b x p' b') : KR b0 b' G (C (k (x, L.drop p'))) := by
  refine ⟨fun h1 h2 => ?_, fun h1 => ?_⟩
  · cases hb : b with
    | true => exact h.lost hb h2
    | false =>
      have := (h.got hb).2
      rw [s.lost hb h1] at this
      exact this.trans hC
  · have hb : b = false := by
      cases hb : b with
      | false => rfl
      | true => rw [s.stays hb] at h1; cases h1
    have := h.got hb
    rw [s.got h1] at this
    exact this
theorem KR.to {α : Type} {b0 b : Bool} {g : By → Option (α × By)} {L : By} {p p' : Nat} {x : α} (h : KR b0 b (g (L.drop p)) (some (x, L.drop p'))) (hb : b0 = true → b = true) : Stp g L p b0 x p' b :=
  ⟨hb, fun h1 h2 => h.lost h2 h1, fun h1 => (h.got h1).2⟩
/-- what a call of the reader's comes to -/
def RE {α : Type} (g : By → Option (α × By)) (V : α → Value → World → Prop) (r : Nat) (a : Option Addr) (c : Nat) (L : By) (p : Nat) (bad : Bool) (w : World) (e : Ending) (w' : World) : Prop :=
  FrR r w w' ∧ ∃ x v p' bad', e = .returned v ∧ V x v w' ∧ RB w' r a c L p' bad' ∧ p ≤ p' ∧ (bad' = false → p + 8 ≤ p') ∧ Stp g L p bad x p' bad'
def IntW (x : Int) (v : Value) (w : World) : Prop := v = .int .i64 x ∧ -9223372036854775808 ≤ x ∧ x ≤ 9223372036854775807
theorem wide_next {z : Int} {N0 N1 b : Nat} (hz : z = N0) (h0 : N0 < 72057594037927936) (hb : b < 256) (h1 : N1 = N0 * 256 + b) : wrap64 (wrap64 (z * 256) + (b : Int)) = wrap64 (N1 : Int) := by
  subst hz h1
  unfold wrap64
  omega
theorem wide_small {N : Nat} (h : N < 72057594037927936) : wrap64 (N : Int) = N := by unfold wrap64; omega
section
variable {w : World} {r c p : Nat} {a : Option Addr} {L : By} {bad : Bool}
set_option maxHeartbeats 1000000 in
theorem rWide (h : RB w r a c L p bad) : Calls Tryz.prog 32 #[.pointer (some ⟨r, 0, none⟩)] w (RE getNum IntW r a c L p bad w) := by
  have hle := h.le
  have hmost := h.most
  have hlc := h.lc
  have hcm := h.cm
  have m0 := h.box.cell 0 rfl
  have m1 := h.box.cell 1 rfl
  have m2 := h.box.cell 2 rfl
  have f1 := h.box.fz 1
  have f2 := h.box.fz 2
  cases bad with
  | true =>
    go_enter Tryz.func32, Tryz.ntmps32
    go_wp2
    go_quiet (fail)
    generalize hW : w.drewN nq = W
    have hB := h.drewN nq
    have hF := frr_drewN r w nq
    rw [hW] at hB hF
    clear m0 m1 m2 f1 f2
    have f2 := hB.box.fz 2
    have m2 := hB.box.cell 2 rfl
    go_wp2
    go_ret
    exact ⟨hF.trans ((Fr.refl _ _ _).set 2 _), 0, _, p, true, rfl, ⟨rfl, by decide, by decide⟩, hB.setBad true, Nat.le_refl _, (fun e => by cases e), ⟨fun e => e, (fun e => by cases e), fun e => by cases e⟩⟩
  | false =>
    by_cases h8 : (L.length : Int) - (p : Int) < 8
    · have d8 : decide ((L.length : Int) - (p : Int) < 8) = true := by simpa using h8
      have HN : Hid (getNum (L.drop p) = none) := by show _ = _; unfold getNum; rw [if_pos (by rw [List.length_drop]; omega)]
      go_enter Tryz.func32, Tryz.ntmps32
      go_wp2
      go_quiet (fail)
      generalize hW : w.drewN nq = W
      have hB := h.drewN nq
      have hF := frr_drewN r w nq
      rw [hW] at hB hF
      clear m0 m1 m2 f1 f2
      have f2 := hB.box.fz 2
      have m2 := hB.box.cell 2 rfl
      go_wp2
      go_ret
      exact ⟨hF.trans ((Fr.refl _ _ _).set 2 _), 0, _, p, true, rfl, ⟨rfl, by decide, by decide⟩, hB.setBad true, Nat.le_refl _, (fun e => by cases e), ⟨fun _ => rfl, fun _ _ => HN.out, fun e => by cases e⟩⟩
    · have d8 : decide ((L.length : Int) - (p : Int) < 8) = false := by simpa using h8
      go_enter Tryz.func32, Tryz.ntmps32
      go_wp2
      go_quiet (fail)
      generalize hW : w.drewN nq = W
      have hB := h.drewN nq
      have hF := frr_drewN r w nq
      rw [hW] at hB hF
      clear m0 m1 m2 f1 f2 d8 hW
      have hl8 : ((L.drop p).take 8).length = 8 := by rw [List.length_take, List.length_drop]; omega
      go_wp2
      go_loopw [4, 3] (fun t s wr => ∃ (j : Nat) (z : Int), j ≤ 8 ∧ t = .int .i64 j ∧ s = .int .i64 z ∧ Hid (z = wrap64 (natOf (((L.drop p).take 8).take j) : Int)) ∧ Hid (j < 8 → natOf (((L.drop p).take 8).take j) < 72057594037927936) ∧ RB wr r a c L p false ∧ FrR r w wr) (fun t _ _ => 8 - (intOf t).toNat)
      case atStart => exact ⟨0, 0, by omega, rfl, rfl, (show (0 : Int) = wrap64 ((0 : Nat) : Int) from (wide_small (by decide)).symm), (fun _ => by show (0 : Nat) < _; omega), hB, hF⟩
      case round =>
        clear hB hF
        obtain ⟨j, z, hj, rfl, rfl, HZ, hz, hB, hF⟩ := hrel
        have m0 := hB.box.cell 0 rfl
        have m1 := hB.box.cell 1 rfl
        by_cases hq : j < 8
        · obtain ⟨g, o, rfl, hg, hc⟩ := h.by' (by intro e; rw [e] at hl8; simp at hl8)
          have hpj : p + j < L.length := by omega
          have hj8 : j < ((L.drop p).take 8).length := by omega
          have q := (hB.by'.fr (Fr.refl _ _ _))
          obtain ⟨g1, o1, e1, -, hc1⟩ := q (by intro e; rw [e] at hpj; simp at hpj)
          cases e1
          have q := hc1 (p + j) hpj
          have e1 := natOf_take ((L.drop p).take 8) j hj8
          have e2 : ((L.drop p).take 8)[j] = L[p + j] := by rw [List.getElem_take, List.getElem_drop]
          rw [e2] at e1
          have hb := (L[p + j]).toNat_lt
          clear hc hc1 e2
          generalize L[p + j] = bb at q e1 hb
          have e3 := natOf_lt (((L.drop p).take 8).take (j + 1))
          have e4 : (((L.drop p).take 8).take (j + 1)).length = j + 1 := by rw [List.length_take]; omega
          rw [e4] at e3
          have e5 : z = natOf (((L.drop p).take 8).take j) := by rw [HZ.out]; exact wide_small (hz.out hq)
          have hz2 : z < 72057594037927936 := by have := hz.out hq; omega
          have hz1 : 0 ≤ z := by omega
          have HW : Hid (wrap64 (wrap64 (z * 256) + (bb.toNat : Int)) = wrap64 (natOf (((L.drop p).take 8).take (j + 1)) : Int)) := wide_next e5 (hz.out hq) hb e1
          have HV : Hid (j + 1 < 8 → natOf (((L.drop p).take 8).take (j + 1)) < 72057594037927936) := fun hlt => by
            have : (256 : Nat) ^ (j + 1) ≤ 256 ^ 7 := Nat.pow_le_pow_right (by decide) (by omega)
            exact Nat.lt_of_lt_of_le e3 this
          clear e5
          clear e1 e3 e4 HZ hj8 hz
          have ht : ((p : Int) + (j : Int)).toNat = p + j := by omega
          go_wp2
          go_quiet (fail)
          generalize hW : wr.drewN nq = W2
          have hB2 := hB.drewN nq
          have hF2 := hF.trans (frr_drewN r wr nq)
          rw [hW] at hB2 hF2
          clear m0 m1 q hB hF hW
          go_wp2
          go_roundw
          case rel => exact ⟨j + 1, _, by omega, by go_num, rfl, HW, HV, hB2, hF2⟩
          case measure => simp [intOf]; omega
        · have hj8 : j = 8 := by omega
          subst hj8
          have HE : Hid (getNum (L.drop p) = some (z, L.drop (p + 8))) := by
            show _ = _
            unfold getNum
            rw [if_neg (by rw [List.length_drop]; omega), HZ.out, List.take_take, List.drop_drop]
            rfl
          have hzi : -9223372036854775808 ≤ z ∧ z ≤ 9223372036854775807 := by
            rw [HZ.out]; unfold wrap64; omega
          have f1 := hB.box.fz 1
          clear HZ hz
          go_wp2
          go_ret
          have hR := hB.setAt (p + 8) (by omega)
          refine ⟨hF.trans ((Fr.refl _ _ _).set 1 _), z, _, p + 8, false, rfl, ⟨rfl, hzi.1, hzi.2⟩, hR, by omega, (fun _ => by omega), ⟨(fun e => by cases e), (fun _ e => by cases e), fun _ => HE.out⟩⟩
set_option maxHeartbeats 1000000 in
theorem rNumberR (h : RB w r a c L p bad) : Calls Tryz.prog 31 #[.pointer (some ⟨r, 0, none⟩)] w (RE getNum IntW r a c L p bad w) := by
  have hC := rWide h
  go_enter Tryz.func31, Tryz.ntmps31
  go_wp2_with (go_at_call 32; refine hC.mono ?_; rintro e w2 ⟨hF, x, v, p', b', rfl, ⟨rfl, hx1, hx2⟩, hB, hp, hp8, hS⟩)
  go_ret
  exact ⟨hF, x, _, p', b', rfl, ⟨rfl, hx1, hx2⟩, hB, hp, hp8, hS⟩
theorem stp_bad {α β : Type} {g : By → Option (α × By)} {k : By → Option (β × By)} {f : α × By → Option (β × By)} {p p' : Nat} {b b' : Bool} {x : α} (s : Stp g L p b x p' b') (hk : ∀ l, k l = (g l).bind f) (y : β) (h : b' = false → f (x, L.drop p') = none) : Stp k L p b y p' true :=
  ⟨fun _ => rfl, fun h1 _ => by
    rw [hk]
    cases hb : b' with
    | true => rw [s.lost h1 hb]; rfl
    | false => rw [s.got hb]; exact h hb, fun e => by cases e⟩
theorem stp_ok {α β : Type} {g : By → Option (α × By)} {k : By → Option (β × By)} {f : α × By → Option (β × By)} {p p' q : Nat} {b : Bool} {x : α} (s : Stp g L p b x p' false) (hk : ∀ l, k l = (g l).bind f) {y : β} (h : f (x, L.drop p') = some (y, L.drop q)) : Stp k L p b y q false :=
  ⟨(fun e => by have := s.stays e; cases this), (fun _ e => by cases e), fun _ => by rw [hk, s.got rfl]; exact h⟩
theorem stp_to {α β : Type} {g : By → Option (α × By)} {k : By → Option (β × By)} {f : α × By → Option (β × By)} {p p' : Nat} {b b' : Bool} {x : α} (s : Stp g L p b x p' b') (hk : ∀ l, k l = (g l).bind f) {y : β} (h : f (x, L.drop p') = some (y, L.drop p')) : Stp k L p b y p' b' := by
  cases b' with
  | false => exact stp_ok s hk h
  | true => exact stp_bad s hk y (fun e => by cases e)
set_option maxHeartbeats 1000000 in
theorem rTruthR (h : RB w r a c L p bad) : Calls Tryz.prog 61 #[.pointer (some ⟨r, 0, none⟩)] w (RE getBool BoolV r a c L p bad w) := by
  have hC := rWide h
  go_enter Tryz.func61, Tryz.ntmps61
  go_wp2_with (fail)
  refine hC.mono ?_
  rintro e w2 ⟨hF, x, v, p', b', rfl, ⟨rfl, hx1, hx2⟩, hB, hp, hp8, hS⟩
  clear hC
  have m2 := hB.box.cell 2 rfl
  have f2 := hB.box.fz 2
  by_cases h0 : x = 0
  · subst h0
    go_wp2
    go_ret
    exact ⟨hF, false, _, p', b', rfl, rfl, hB, hp, hp8, stp_to hS (fun l => rfl) (by rfl)⟩
  · by_cases h1 : x = 1
    · subst h1
      go_wp2
      go_ret
      exact ⟨hF, true, _, p', b', rfl, rfl, hB, hp, hp8, stp_to hS (fun l => rfl) (by rfl)⟩
    · have e0 : (x != 0) = true := by simpa using h0
      have e1 : (x != 1) = true := by simpa using h1
      have e2 : (x == 1) = false := by simpa using h1
      go_wp2
      go_ret
      exact ⟨hF.trans ((Fr.refl _ _ _).set 2 _), false, _, p', true, by simp [h1], rfl, hB.setBad true, hp, (fun e => by cases e), stp_bad hS (fun l => rfl) _ (fun _ => by dsimp only; rw [if_neg h0, if_neg h1])⟩
set_option maxHeartbeats 1000000 in
theorem rTextR (h : RB w r a c L p bad) : Calls Tryz.prog 33 #[.pointer (some ⟨r, 0, none⟩)] w (RE getText TextV r a c L p bad w) := by
  have hC := rNumberR h
  have hk : ∀ l, getText l = (getNum l).bind fun x => (if x.1 < 0 then none else some (x.1.toNat, x.2)).bind fun x => if x.2.length < x.1 then none else some (⟨(x.2.take x.1).toArray⟩, x.2.drop x.1) := fun l => by
    unfold getText getSize
    rw [Option.bind_assoc]
  replace hk := (show Hid _ from hk)
  go_enter Tryz.func33, Tryz.ntmps33
  go_wp2_with (fail)
  refine hC.mono ?_
  rintro e w2 ⟨hF, z, v, p', b', rfl, ⟨rfl, hx1, hx2⟩, hB, hp, hp8, hS⟩
  clear hC
  have hle := hB.le
  have hmost := hB.most
  have m0 := hB.box.cell 0 rfl
  have m1 := hB.box.cell 1 rfl
  have m2 := hB.box.cell 2 rfl
  have f1 := hB.box.fz 1
  have f2 := hB.box.fz 2
  have HBAD : Hid (∀ W, RB W r a c L p' true → FrR r w2 W → (b' = false → ((if z < 0 then none else some (z.toNat, L.drop p')).bind fun x => if x.2.length < x.1 then none else some ((⟨(x.2.take x.1).toArray⟩ : ByteArray), x.2.drop x.1)) = none) → RE getText TextV r a c L p bad w (.returned (.string ⟨#[]⟩)) W) := fun W hW hFW hn =>
    ⟨hF.trans hFW, ⟨#[]⟩, _, p', true, rfl, rfl, hW, hp, (fun e => by cases e), stp_bad hS hk.out _ hn⟩
  cases b' with
  | true =>
    go_wp2
    go_quiet (fail)
    generalize hW : w2.drewN nq = W
    have hB2 := hB.drewN nq
    have hF2 := frr_drewN r w2 nq
    rw [hW] at hB2 hF2
    clear m0 m1 m2 f1 f2 hW
    have f2 := hB2.box.fz 2
    have m2 := hB2.box.cell 2 rfl
    go_wp2
    go_ret
    exact HBAD.out _ (hB2.setBad true) (hF2.trans ((Fr.refl _ _ _).set 2 _)) (fun e => by cases e)
  | false =>
    have h8 : Hid (p + 8 ≤ p') := hp8 rfl
    by_cases hz0 : z < 0
    · have d0 : decide (z < 0) = true := by simpa using hz0
      go_wp2
      go_quiet (fail)
      generalize hW : w2.drewN nq = W
      have hB2 := hB.drewN nq
      have hF2 := frr_drewN r w2 nq
      rw [hW] at hB2 hF2
      clear m0 m1 m2 f1 f2 hW
      have f2 := hB2.box.fz 2
      have m2 := hB2.box.cell 2 rfl
      go_wp2
      go_ret
      exact HBAD.out _ (hB2.setBad true) (hF2.trans ((Fr.refl _ _ _).set 2 _)) (fun _ => by rw [if_pos hz0]; rfl)
    · have d0 : decide (z < 0) = false := by simpa using hz0
      by_cases hzl : (L.length : Int) - (p' : Int) < z
      · have d1 : decide ((L.length : Int) - (p' : Int) < z) = true := by simpa using hzl
        go_wp2
        go_quiet (fail)
        generalize hW : w2.drewN nq = W
        have hB2 := hB.drewN nq
        have hF2 := frr_drewN r w2 nq
        rw [hW] at hB2 hF2
        clear m0 m1 m2 f1 f2 hW
        have f2 := hB2.box.fz 2
        have m2 := hB2.box.cell 2 rfl
        go_wp2
        go_ret
        exact HBAD.out _ (hB2.setBad true) (hF2.trans ((Fr.refl _ _ _).set 2 _)) (fun _ => by rw [if_neg (by omega)]; show (if _ then _ else _) = _; rw [if_pos (by rw [List.length_drop]; omega)])
      · have d1 : decide ((L.length : Int) - (p' : Int) < z) = false := by simpa using hzl
        go_wp2
        go_quiet (fail)
        generalize hW : w2.drewN nq = W
        have hB2 := hB.drewN nq
        have hF2 := frr_drewN r w2 nq
        rw [hW] at hB2 hF2
        clear m0 m1 m2 f1 f2 hW
        have f2 := hB2.box.fz 2
        have m2 := hB2.box.cell 2 rfl
        obtain ⟨n, rfl⟩ : ∃ n : Nat, z = n := ⟨z.toNat, by omega⟩
        have m1 := hB2.box.cell 1 rfl
        have f1 := hB2.box.fz 1
        have HG : Hid (Stp getText L p bad (⟨((L.drop p').take n).toArray⟩ : ByteArray) (p' + n) false) := stp_ok hS hk.out (by
          rw [if_neg (by omega)]
          show (if _ then _ else _) = _
          rw [if_neg (by rw [List.length_drop]; omega), List.drop_drop]
          rfl)
        have hB3 := hB2.setAt (p' + n) (by omega)
        have hF3 := hF2.trans ((Fr.refl r nilV W).set 1 (.int .i64 ((p' + n : Nat) : Int)))
        rw [Int.natCast_add] at hB3 hF3
        have hlc := hB2.lc
        have hcm := hB2.cm
        go_wp2
        generalize W.setCell ⟨r, 1, none⟩ (.int .i64 ((p' : Int) + (n : Int))) = W3 at hB3 hF3 ⊢
        clear m1 m2 f1 f2 hB2 hF2 d0 d1 HBAD hS hB
        have m0 := hB3.box.cell 0 rfl
        have m1 := hB3.box.cell 1 rfl
        have e1 : (p' : Int) + (n : Int) - (n : Int) = (p' : Int) := by omega
        have hby : ∀ k (b : Option Addr) (cc : Nat), ByIn (W3.drewN k) r b ((L.drop p').take n) → (∀ x, b = some x → ∃ g o, x = ⟨g, o, none⟩) → (convert 33 9 (.slice b n cc)).run Tryz.prog (W3.drewN k) = .ok (.string ⟨((L.drop p').take n).toArray⟩) (W3.drewN k) := fun k b cc h1 h2 => by
          have hl : ((L.drop p').take n).length = n := by rw [List.length_take, List.length_drop]; omega
          have := conv_by (c := cc) h1 h2
          rw [hl] at this
          exact this
        cases a with
        | none =>
          obtain rfl := hB3.nil rfl
          have hL0 : L = [] := List.eq_nil_of_length_eq_zero (by omega)
          subst hL0
          obtain rfl : n = 0 := by simp at hle; omega
          obtain rfl : p' = 0 := by simp at hle; omega
          have hcv := fun k => hby k none 0 (fun hne => absurd rfl hne) (fun x e => by cases e)
          clear hby
          go_quiet (fail)
          generalize hW : W3.drewN nq = W4
          have hB4 := hB3.drewN nq
          have hF4 := hF3.trans (frr_drewN r W3 nq)
          rw [hW] at hB4 hF4
          clear hcv m0 m1 hW
          go_wp2
          go_ret
          exact ⟨hF.trans hF4, _, _, _, false, rfl, rfl, hB4, by omega, (fun _ => by have := h8.out; omega), HG.out⟩
        | some x =>
          obtain ⟨g, o, rfl⟩ := hB3.plain x rfl
          by_cases hpc : p' < c
          · have hcv := fun k => hby k (some ⟨g, o + p', none⟩) (c - p') (fun hne => by
              obtain ⟨g1, o1, e, hg, hc⟩ := (hB3.drewN k).by' (by intro e; rw [e] at hne; simp at hne)
              cases e
              refine ⟨g, o + p', rfl, hg, fun i hi => ?_⟩
              rw [List.length_take, List.length_drop] at hi
              rw [List.getElem_take, List.getElem_drop, Nat.add_assoc]
              exact hc (p' + i) (by omega)) (fun x e => by cases e; exact ⟨_, _, rfl⟩)
            clear hby
            go_quiet (fail)
            generalize hW : W3.drewN nq = W4
            have hB4 := hB3.drewN nq
            have hF4 := hF3.trans (frr_drewN r W3 nq)
            rw [hW] at hB4 hF4
            clear hcv m0 m1 hW
            go_wp2
            go_ret
            exact ⟨hF.trans hF4, _, _, _, false, rfl, rfl, hB4, by omega, (fun _ => by have := h8.out; omega), HG.out⟩
          · obtain rfl : p' = c := by omega
            obtain rfl : n = 0 := by omega
            have hcv := fun k => hby k (some ⟨g, o, none⟩) 0 (fun hne => absurd (by simp) hne) (fun x e => by cases e; exact ⟨_, _, rfl⟩)
            clear hby
            go_quiet (fail)
            generalize hW : W3.drewN nq = W4
            have hB4 := hB3.drewN nq
            have hF4 := hF3.trans (frr_drewN r W3 nq)
            rw [hW] at hB4 hF4
            clear hcv m0 m1 hW
            go_wp2
            go_ret
            exact ⟨hF.trans hF4, _, _, _, false, rfl, rfl, hB4, by omega, (fun _ => by have := h8.out; omega), HG.out⟩
end
end Go.Proofs.YthfeojjfehbgjaaGreatDoor.obj
namespace Go.Proofs.YthfeojjfehbgjaaGreatDoor.obj
open Go.RowKit
open Go.Proofs.YthfeojjfehbgjaaGreatDoor.mac (BoxC grown_of_below)
open Go.Proofs.YthfeojjfehbgjaaGreatDoor.face (VarD ProcD FaceD IntsIn VarsIn ProcsIn)
set_option linter.unusedVariables false
set_option linter.unusedSimpArgs false
theorem KR.any {β : Type} {b0 : Bool} {G X Y : Option β} (h : KR b0 true G X) : KR b0 true G Y := ⟨fun _ h0 => h.lost rfl h0, fun e => by cases e⟩
theorem KR.eq {β : Type} {b0 b : Bool} {G X Y : Option β} (h : KR b0 b G X) (e : X = Y) : KR b0 b G Y := by rw [← e]; exact h
theorem KR.of {α : Type} {b0 b : Bool} {G : Option α} {X : Option α} (h : KR b0 b G X) (d : Bool) (hd : d = true → b = true ∨ X = none) (hb : b = true → d = true) : KR b0 d G X :=
  ⟨fun h1 h0 => by
    rcases hd h1 with e | e
    · exact h.lost e h0
    · cases hb' : b with
      | true => exact h.lost hb' h0
      | false => exact (h.got hb').2.trans e, fun h1 => by
    cases hb' : b with
    | true => rw [hb hb'] at h1; cases h1
    | false => exact h.got hb'⟩
theorem getN_bind {α β : Type} (g : By → Option (α × By)) (m : Nat) (l : By) (k : List α × By → Option β) : (getN g (m + 1) l).bind k = (g l).bind fun x => (getN g m x.2).bind fun y => k (x.1 :: y.1, y.2) := by
  show ((g l).bind fun x => (getN g m x.2).bind fun y => some (x.1 :: y.1, y.2)).bind k = _
  rw [Option.bind_assoc]
  congr 1
  funext x
  rw [Option.bind_assoc]
  rfl
theorem KR.more {α β : Type} {b0 b b' : Bool} {G : Option β} {C : Option β → Option β} {g : By → Option (α × By)} {k : List α × By → Option β} {L : By} {p p' m : Nat} {xs : List α} {x : α} (h : KR b0 b G (C ((getN g (m + 1) (L.drop p)).bind fun y => k (xs ++ y.1, y.2)))) (hC : C none = none) (s : Stp g L p b x p' b') :
    KR b0 b' G (C ((getN g m (L.drop p')).bind fun y => k ((xs ++ [x]) ++ y.1, y.2))) := by
  have h2 : KR b0 b G (C ((g (L.drop p)).bind fun x => (getN g m x.2).bind fun y => k (xs ++ (x.1 :: y.1), y.2))) := h.eq (by rw [getN_bind])
  have h3 := h2.step hC s
  refine h3.eq ?_
  simp only [List.append_assoc, List.singleton_append]
theorem KR.last {α β : Type} {b0 b : Bool} {G : Option β} {C : Option β → Option β} {g : By → Option (α × By)} {k : List α × By → Option β} {L : By} {p m : Nat} {xs : List α} (h : KR b0 b G (C ((getN g m (L.drop p)).bind fun y => k (xs ++ y.1, y.2)))) (hm : b = true ∨ m = 0) : KR b0 b G (C (k (xs, L.drop p))) := by
  rcases hm with rfl | rfl
  · exact h.any
  · refine h.eq ?_
    show C (k (xs ++ [], L.drop p)) = _
    rw [List.append_nil]
/-- none, if the size is below 0 -/
def sel {β : Type} (n : Int) (o : Option β) : Option β := if n < 0 then none else o
theorem sel_none {β : Type} (n : Int) : sel n (none : Option β) = none := by unfold sel; split <;> rfl
theorem sel_neg {β : Type} {n : Int} (h : n < 0) (o : Option β) : sel n o = none := by unfold sel; rw [if_pos h]
theorem sel_pos {β : Type} {n : Int} (h : ¬ n < 0) (o : Option β) : sel n o = o := by unfold sel; rw [if_neg h]
theorem getL_bind {α β : Type} (g : By → Option (α × By)) (l : By) (k : List α × By → Option β) : (getL g l).bind k = (getNum l).bind fun x => sel x.1 ((getN g x.1.toNat x.2).bind fun y => k ([] ++ y.1, y.2)) := by
  unfold getL getSize
  rw [Option.bind_assoc, Option.bind_assoc]
  congr 1
  funext x
  unfold sel
  split
  · rfl
  · rfl
/-- a size was read: a list begins -/
theorem KR.list {α β : Type} {b0 b b' : Bool} {G : Option β} {C : Option β → Option β} {g : By → Option (α × By)} {k : List α × By → Option β} {L : By} {p p' : Nat} {n : Int} (h : KR b0 b G (C ((getL g (L.drop p)).bind k))) (hC : C none = none) (s : Stp getNum L p b n p' b') :
    KR b0 b' G (C (sel n ((getN g (n.toNat - 0) (L.drop p')).bind fun y => k ([] ++ y.1, y.2)))) := by
  have h2 := h.eq (by rw [getL_bind])
  exact (h2.step hC s)
/-- all stays but the reader's box; a block that was made since is written -/
theorem frr_new {r V k : Nat} {w w1 : World} {v : Value} (h : FrR r w w1) (hV : w.heap.size ≤ V) : FrR r w (w1.setCell ⟨V, k, none⟩ v) :=
  ⟨h.os, h.tape, h.output, by simpa using h.size, fun b h1 h2 h3 => (Below.heap_setCell w1 ⟨V, k, none⟩ v b (by show b ≠ V; omega)).trans (h.block b h1 h2 h3), fun _ e => .inl e⟩
theorem frr_low {r N : Nat} {w w1 w2 : World} (h : FrR r w w1) (hb : Below N w1 w2) (hN : w.heap.size ≤ N) : FrR r w w2 :=
  ⟨hb.os.trans h.os, hb.tape.trans h.tape, hb.output.trans h.output, Nat.le_trans h.size hb.size, fun b h1 h2 h3 => (hb.block b (by omega)).trans (h.block b h1 h2 h3), fun _ e => .inl e⟩
theorem box_fr {w w' : World} {r B : Nat} {cs : Array Value} {T : TypeId} (h : BoxC w B cs T) (hf : FrR r w w') (hne : B ≠ r) : BoxC w' B cs T := (hf.block B h.lt hne (by simp [nilV, Value.ownBlock])).trans h
theorem box_low {w w' : World} {N B : Nat} {cs : Array Value} {T : TypeId} (h : BoxC w B cs T) (hb : Below N w w') (hN : B < N) : BoxC w' B cs T := (hb.block B hN).trans h
end Go.Proofs.YthfeojjfehbgjaaGreatDoor.obj
