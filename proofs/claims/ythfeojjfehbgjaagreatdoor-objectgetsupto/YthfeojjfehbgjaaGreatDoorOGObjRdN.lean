/- What the reader's number, int, size, bool and text answer: contracts. -/
import Derived.Test.YthfeojjfehbgjaaGreatDoorOGObjRd
import Derived.Laws.BitsAllLaws
import Derived.Laws.BytesArg
namespace Go.Proofs.YthfeojjfehbgjaaGreatDoor.obj
open Go.RowKit
open Go.Proofs.YthfeojjfehbgjaaGreatDoor.mac (BoxC grown_of_below)
set_option linter.unusedVariables false
set_option linter.unusedSimpArgs false
set_option maxRecDepth 100000
/-- a value is read, or nothing is -/
def RdE {α : Type} (r : Nat) (w : World) (x : Option (α × By)) (V : α → Value → World → Prop) (e : Ending) (w' : World) : Prop :=
  FrR r w w' ∧ match x with
    | none => e = .panicked NOB
    | some p => ∃ v, e = .returned v ∧ V p.1 v w' ∧ RS w' r p.2
def IntV (x : Int) (v : Value) (w : World) : Prop := v = .int .i64 x
theorem natOf_take (l : By) (j : Nat) (h : j < l.length) : natOf (l.take (j + 1)) = natOf (l.take j) * 256 + l[j].toNat := by
  unfold natOf
  rw [List.take_add_one, List.getElem?_eq_getElem h, List.foldl_append]
  rfl
theorem natOf_lt : ∀ l : By, natOf l < 256 ^ l.length := by
  intro l
  unfold natOf
  have : ∀ (l : By) (a k : Nat), a < 256 ^ k → l.foldl (fun a b => a * 256 + b.toNat) a < 256 ^ (k + l.length) := by
    intro l
    induction l with
    | nil => intro a k h; simpa using h
    | cons x r ih =>
      intro a k h
      have hx := x.toNat_lt
      have := ih (a * 256 + x.toNat) (k + 1) (by rw [Nat.pow_succ]; omega)
      rw [List.length_cons, show k + (r.length + 1) = k + 1 + r.length by omega]
      exact this
  have := this l 0 0 (by decide)
  simpa using this
theorem or8 (x b : Nat) (hx : x < 72057594037927936) (hb : b < 256) : bits .or .u64 (IntKind.u64.wrap ((x : Int) * 256)) (IntKind.u64.wrap (b : Int)) = ((x * 256 + b : Nat) : Int) := by
  have e1 : IntKind.u64.wrap ((x : Int) * 256) = ((x * 256 : Nat) : Int) := by
    show ((x : Int) * 256) % 18446744073709551616 = _
    omega
  have e2 : IntKind.u64.wrap (b : Int) = (b : Int) := by
    show (b : Int) % 18446744073709551616 = _
    omega
  rw [e1, e2, u64_or_nat _ _ (by omega) (by omega)]
  have := Nat.shiftLeft_add_eq_or_of_lt (i := 8) (b := b) (by simpa using hb) x
  rw [Nat.shiftLeft_eq] at this
  have h2 : x * 256 + b = x * 256 ||| b := this
  rw [← h2]
set_option maxHeartbeats 1000000 in
theorem oNumber {w : World} {r : Nat} {l : By} (h : RS w r l) :
    Calls Tryz.prog 84 #[.pointer (some ⟨r, 0, none⟩)] w (RdE r w (getNum l) IntV) := by
  have hC := oTake h 8 (by decide)
  by_cases h8 : l.length < 8
  · have HE : Hid (getNum l = none) := by show _ = _; unfold getNum; rw [if_pos h8]
    go_enter Tryz.func84, Tryz.ntmps84
    go_wp2_with (fail)
    refine hC.mono ?_
    rintro e w2 ⟨hF, hE⟩
    rw [if_pos h8] at hE
    subst hE
    go_wp2
    exact ⟨rfl, hF, by rw [HE.out]⟩
  · go_enter Tryz.func84, Tryz.ntmps84
    go_wp2_with (fail)
    refine hC.mono ?_
    rintro e w2 ⟨hF, hE⟩
    rw [if_neg h8] at hE
    obtain ⟨a, c, rfl, _, hby, hR⟩ := hE
    clear hC
    go_wp2
    have hl8 : (l.take 8).length = 8 := by rw [List.length_take]; omega
    go_loop [9, 3] (fun t s => ∃ j : Nat, j ≤ 8 ∧ t = .int .i64 j ∧ s = .int .u64 (natOf ((l.take 8).take j) : Int)) (fun t _ => 8 - (intOf t).toNat)
    case atStart => exact ⟨0, by omega, rfl, rfl⟩
    case round =>
      obtain ⟨j, hj, rfl, rfl⟩ := hrel
      by_cases hq : j < 8
      · obtain ⟨g, o, rfl, _, hc⟩ := hby (by intro e; rw [e] at hl8; simp at hl8)
        have hj8 : j < (l.take 8).length := by omega
        have q := hc j hj8
        have e1 := natOf_take (l.take 8) j hj8
        have hb := ((l.take 8)[j]).toNat_lt
        generalize (l.take 8)[j] = bb at q e1 hb
        have e2 := natOf_lt ((l.take 8).take j)
        have e3 : ((l.take 8).take j).length = j := by rw [List.length_take]; omega
        rw [e3] at e2
        have hpw : natOf ((l.take 8).take j) < 72057594037927936 := Nat.lt_of_lt_of_le e2 (by
          have : (256 : Nat) ^ j ≤ 256 ^ 7 := Nat.pow_le_pow_right (by decide) (by omega)
          exact this)
        have HO := or8 (natOf ((l.take 8).take j)) bb.toNat hpw hb
        rw [← e1] at HO
        replace HO : Hid _ := HO
        clear e1 e2 e3 hpw hb hc hj8
        go_wp2
        refine ⟨⟨j + 1, by omega, by go_num, ?_⟩, by simp [intOf]; omega⟩
        rw [← HO.out]
      · have : j = 8 := by omega
        subst this
        have HE : Hid (getNum l = some (wrap64 (natOf (l.take 8)), l.drop 8)) := by show _ = _; unfold getNum; rw [if_neg h8]
        have e4 : (l.take 8).take 8 = l.take 8 := by rw [List.take_take]; rfl
        rw [e4]
        go_wp2
        go_ret
        refine ⟨hF, ?_⟩
        rw [HE.out]
        exact ⟨_, rfl, rfl, hR⟩
theorem oInt {w : World} {r : Nat} {l : By} (h : RS w r l) :
    Calls Tryz.prog 83 #[.pointer (some ⟨r, 0, none⟩)] w (RdE r w (getNum l) IntV) := by
  have hC := oNumber h
  cases hg : getNum l with
  | none =>
    rw [hg] at hC
    go_enter Tryz.func83, Tryz.ntmps83
    go_wp2_with (fail)
    refine hC.mono ?_
    rintro e w2 ⟨hF, hE⟩
    dsimp only at hE
    subst hE
    go_wp2
    exact ⟨rfl, hF, rfl⟩
  | some p =>
    obtain ⟨z, l2⟩ := p
    rw [hg] at hC
    go_enter Tryz.func83, Tryz.ntmps83
    go_wp2_with (fail)
    refine hC.mono ?_
    rintro e w2 ⟨hF, v, rfl, hv, hR⟩
    have hv2 : v = .int .i64 z := hv
    subst hv2
    go_wp2
    go_ret
    exact ⟨hF, _, rfl, rfl, hR⟩
def NatV (x : Nat) (v : Value) (w : World) : Prop := v = .int .i64 (x : Int)
def BoolV (x : Bool) (v : Value) (w : World) : Prop := v = .bool x
def TextV (x : ByteArray) (v : Value) (w : World) : Prop := v = .string x
theorem getNum_i {l : By} {z : Int} {l2 : By} (h : getNum l = some (z, l2)) : -9223372036854775808 ≤ z ∧ z ≤ 9223372036854775807 := by
  unfold getNum at h
  split at h
  · cases h
  · simp only [Option.some.injEq, Prod.mk.injEq] at h
    rw [← h.1]
    unfold wrap64
    omega
theorem oSize {w : World} {r : Nat} {l : By} (h : RS w r l) :
    Calls Tryz.prog 103 #[.pointer (some ⟨r, 0, none⟩)] w (RdE r w (getSize l) NatV) := by
  have hC := oNumber h
  cases hg : getNum l with
  | none =>
    have HE : Hid (getSize l = none) := by show _ = _; unfold getSize; rw [hg]; rfl
    rw [hg] at hC
    go_enter Tryz.func103, Tryz.ntmps103
    go_wp2_with (fail)
    refine hC.mono ?_
    rintro e w2 ⟨hF, hE⟩
    dsimp only at hE
    subst hE
    go_wp2
    exact ⟨rfl, hF, by rw [HE.out]⟩
  | some p =>
    obtain ⟨z, l2⟩ := p
    rw [hg] at hC
    by_cases hz : z < 0
    · have HE : Hid (getSize l = none) := by show _ = _; unfold getSize; rw [hg]; simp [hz]
      go_enter Tryz.func103, Tryz.ntmps103
      go_wp2_with (fail)
      refine hC.mono ?_
      rintro e w2 ⟨hF, v, rfl, hv, hR⟩
      have hv2 : v = .int .i64 z := hv
      subst hv2
      go_wp2
      exact ⟨rfl, hF, by rw [HE.out]; rfl⟩
    · have HE : Hid (getSize l = some (z.toNat, l2)) := by show _ = _; unfold getSize; rw [hg]; simp [hz]
      go_enter Tryz.func103, Tryz.ntmps103
      go_wp2_with (fail)
      refine hC.mono ?_
      rintro e w2 ⟨hF, v, rfl, hv, hR⟩
      have hv2 : v = .int .i64 z := hv
      subst hv2
      go_wp2
      go_ret
      refine ⟨hF, ?_⟩
      rw [HE.out]
      refine ⟨_, rfl, ?_, hR⟩
      show Value.int .i64 z = .int .i64 (z.toNat : Int)
      rw [Int.toNat_of_nonneg (by omega)]
theorem oBoolR {w : World} {r : Nat} {l : By} (h : RS w r l) :
    Calls Tryz.prog 98 #[.pointer (some ⟨r, 0, none⟩)] w (RdE r w (getBool l) BoolV) := by
  have hC := oNumber h
  cases hg : getNum l with
  | none =>
    have HE : Hid (getBool l = none) := by show _ = _; unfold getBool; rw [hg]; rfl
    rw [hg] at hC
    go_enter Tryz.func98, Tryz.ntmps98
    go_wp2_with (fail)
    refine hC.mono ?_
    rintro e w2 ⟨hF, hE⟩
    dsimp only at hE
    subst hE
    go_wp2
    exact ⟨rfl, hF, by rw [HE.out]⟩
  | some p =>
    obtain ⟨z, l2⟩ := p
    rw [hg] at hC
    by_cases h0 : z = 0
    · subst h0
      have HE : Hid (getBool l = some (false, l2)) := by show _ = _; unfold getBool; rw [hg]; rfl
      go_enter Tryz.func98, Tryz.ntmps98
      go_wp2_with (fail)
      refine hC.mono ?_
      rintro e w2 ⟨hF, v, rfl, hv, hR⟩
      have hv2 : v = .int .i64 0 := hv
      subst hv2
      go_wp2
      go_ret
      refine ⟨hF, ?_⟩
      rw [HE.out]
      exact ⟨_, rfl, rfl, hR⟩
    by_cases h1 : z = 1
    · subst h1
      have HE : Hid (getBool l = some (true, l2)) := by show _ = _; unfold getBool; rw [hg]; rfl
      go_enter Tryz.func98, Tryz.ntmps98
      go_wp2_with (fail)
      refine hC.mono ?_
      rintro e w2 ⟨hF, v, rfl, hv, hR⟩
      have hv2 : v = .int .i64 1 := hv
      subst hv2
      go_wp2
      go_ret
      refine ⟨hF, ?_⟩
      rw [HE.out]
      exact ⟨_, rfl, rfl, hR⟩
    have HE : Hid (getBool l = none) := by show _ = _; unfold getBool; rw [hg]; simp [h0, h1]
    have k0 : (z == 0) = false := by simpa using h0
    have k1 : (z == 1) = false := by simpa using h1
    clear h0 h1
    go_enter Tryz.func98, Tryz.ntmps98
    go_wp2_with (fail)
    refine hC.mono ?_
    rintro e w2 ⟨hF, v, rfl, hv, hR⟩
    have hv2 : v = .int .i64 z := hv
    subst hv2
    go_wp2
    exact ⟨rfl, hF, by rw [HE.out]; rfl⟩
theorem size_i {l : By} {n : Nat} {l2 : By} (h : getSize l = some (n, l2)) : n ≤ 9223372036854775807 := by
  unfold getSize at h
  cases hg : getNum l with
  | none => rw [hg] at h; cases h
  | some p =>
    obtain ⟨z, l3⟩ := p
    have := getNum_i hg
    rw [hg] at h
    simp only [Option.bind_some] at h
    split at h
    · cases h
    · simp only [Option.some.injEq, Prod.mk.injEq] at h
      omega
/-- bytes that were taken, as a text -/
theorem conv_by {w : World} {r : Nat} {a : Option Addr} {c : Nat} {l : By} (h : ByIn w r a l) (ha : ∀ x, a = some x → ∃ g o, x = ⟨g, o, none⟩) :
    (convert 33 9 (.slice a l.length c)).run Tryz.prog w = .ok (.string ⟨l.toArray⟩) w := by
  have e : strOfNums (l.map fun b => (b.toNat : Int)) = ⟨l.toArray⟩ := by
    unfold strOfNums
    congr 2
    rw [List.map_map]
    have : ((fun n : Int => UInt8.ofNat n.toNat) ∘ fun b : UInt8 => (b.toNat : Int)) = id := by
      funext b
      simp
    rw [this, List.map_id]
  cases a with
  | none =>
    have hl : l = [] := by
      cases l with
      | nil => rfl
      | cons x y => obtain ⟨g, o, e, _⟩ := h (by simp); cases e
    subst hl
    exact run_convert_bytes_nil w 33 5 Tryz.underlying33 Tryz.underlying5 _ c 9 Tryz.underlying9
  | some x =>
    obtain ⟨g, o, rfl⟩ := ha x rfl
    rw [← e]
    refine run_convert_bytes_arg w 33 5 Tryz.underlying33 Tryz.underlying5 g o l.length c (l.map fun b => (b.toNat : Int)) (by simp) (fun i hi => ?_) 9 Tryz.underlying9
    obtain ⟨g1, o1, e1, _, hc⟩ := h (by intro e; rw [e] at hi; simp at hi)
    cases e1
    rw [hc i hi]
    simp [hi]
set_option maxHeartbeats 1000000 in
theorem oTextR {w : World} {r : Nat} {l : By} (h : RS w r l) :
    Calls Tryz.prog 87 #[.pointer (some ⟨r, 0, none⟩)] w (RdE r w (getText l) TextV) := by
  have hC := oSize h
  cases hg : getSize l with
  | none =>
    have HE : Hid (getText l = none) := by show _ = _; unfold getText; rw [hg]; rfl
    rw [hg] at hC
    go_enter Tryz.func87, Tryz.ntmps87
    go_wp2_with (fail)
    refine hC.mono ?_
    rintro e w2 ⟨hF, hE⟩
    dsimp only at hE
    subst hE
    go_wp2
    exact ⟨rfl, hF, by rw [HE.out]⟩
  | some p =>
    obtain ⟨n, l2⟩ := p
    have hn := size_i hg
    rw [hg] at hC
    have HG : Hid (getText l = if l2.length < n then none else some (⟨(l2.take n).toArray⟩, l2.drop n)) := by show _ = _; unfold getText; rw [hg]; rfl
    go_enter Tryz.func87, Tryz.ntmps87
    go_wp2_with (fail)
    refine hC.mono ?_
    rintro e w2 ⟨hF, v, rfl, hv, hR⟩
    have hv2 : v = .int .i64 (n : Int) := hv
    subst hv2
    clear hv hC
    dsimp only at hR
    have hT := oTake hR n hn
    go_wp2_with (fail)
    refine hT.mono ?_
    rintro e w3 ⟨hF3, hE⟩
    by_cases hlt : l2.length < n
    · rw [if_pos hlt] at hE
      have HE : Hid (getText l = none) := by show _ = _; rw [HG.out, if_pos hlt]
      subst hE
      go_wp2
      exact ⟨rfl, hF.trans hF3, by rw [HE.out]⟩
    · rw [if_neg hlt] at hE
      have HE : Hid (getText l = some (⟨(l2.take n).toArray⟩, l2.drop n)) := by show _ = _; rw [HG.out, if_neg hlt]
      obtain ⟨a, c, rfl, hsm, hby, hR3⟩ := hE
      have hcv := conv_by (c := c) hby hsm
      rw [show (l2.take n).length = n by rw [List.length_take]; omega] at hcv
      clear HG
      go_wp2
      go_ret
      refine ⟨hF.trans hF3, ?_⟩
      rw [HE.out]
      exact ⟨_, rfl, rfl, hR3⟩
end Go.Proofs.YthfeojjfehbgjaaGreatDoor.obj
