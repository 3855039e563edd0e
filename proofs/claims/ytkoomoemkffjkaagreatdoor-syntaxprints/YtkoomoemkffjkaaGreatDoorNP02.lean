/- How many words statements and blocks take. No Go in sight. -/
import Derived.Test.YtkoomoemkffjkaaGreatDoorNP01
set_option linter.unusedVariables false
set_option linter.unusedSimpArgs false
namespace Go.Proofs.YtkoomoemkffjkaaGreatDoor
namespace pr
open Go.Proofs.YtkoomoemkffjkaaGreatDoor.syn Go.Proofs.YtkoomoemkffjkaaGreatDoor.face Go.Proofs.YtkoomoemkffjkaaGreatDoor.chk
theorem contains1 (a k : Int) : [a].contains k = (k == a) := Bool.eq_iff_iff.2 (by simp)
theorem contains2 (a b k : Int) : [a, b].contains k = (k == a || k == b) := Bool.eq_iff_iff.2 (by simp)
theorem stat_kinds (k : Int) : statKinds.contains k = statB k := Bool.eq_iff_iff.2 (by simp [statKinds, statB]; omega)
theorem seq_list (l : List (List UInt8)) (h : l ≠ []) : l.flatMap (32 :: ·) = 32 :: listR [32] l := by
  cases l with
  | nil => exact (h rfl).elim
  | cons s r => rfl
theorem ex0 {f : Nat} {t : Tree} (hd : depT t ≤ f) (hc : cntT t ≤ 500) : OkW (opnF f 0 t) (exprB (kindT t) && isT t) (showT t) := by
  have := ex_ok f t hd hc 0 (by decide)
  rw [at_zero] at this
  exact this
theorem zplace_ok {f : Nat} {t : Tree} (hd : depT t ≤ f) (hc : cntT t ≤ 500) : OkW (placeW f t) ((kindT t == 16 || kindT t == 17) && isT t) (showT t) := by
  have h := ex0 hd hc
  obtain ⟨k, x, m, ks⟩ := t
  unfold placeW
  rw [look_is (kid_len hc) (by simp; omega), isT_node] at *
  have e : [16, 17].contains k = (k == 16 || k == 17) := contains2 16 17 k
  rw [e]
  show OkW _ ((k == 16 || k == 17) && _) _
  cases hk : (k == 16 || k == 17) with
  | false => rfl
  | true =>
    cases hh : headR k x m ks.length with
    | false => rfl
    | true =>
      have he : exprB (kindT (.node k x m ks)) = true := by show exprB k = true; unfold exprB; simp at hk ⊢; omega
      rw [he, hh] at h
      exact h
theorem zdo_ok {f : Nat} {t : Tree} (hd : depT t ≤ f) (hc : cntT t ≤ 500) : OkW (doW f t) (kindT t == 18 && isT t) (showT t) := by
  have h := ex0 hd hc
  obtain ⟨k, x, m, ks⟩ := t
  unfold doW
  rw [look_is (kid_len hc) (by simp; omega), isT_node] at *
  have e : [18].contains k = (k == 18) := contains1 18 k
  rw [e]
  show OkW _ (k == 18 && _) _
  cases hk : (k == 18) with
  | false => rfl
  | true =>
    cases hh : headR k x m ks.length with
    | false => rfl
    | true =>
      have he : exprB (kindT (.node k x m ks)) = true := by show exprB k = true; unfold exprB; simp at hk ⊢; omega
      rw [he, hh] at h
      exact h
theorem lab_is {m : Int} (h0 : 0 ≤ m) (h1 : m ≤ 1) : (labW m).data.toList ++ [32] = labR m := by
  have : m = 0 ∨ m = 1 := by omega
  rcases this with rfl | rfl <;> rfl
theorem round1 {f : Nat} {t : Tree} (hd : depT t ≤ f) (hc : cntT t ≤ 500) : OkW (roundF (opnF f 0) [t]) (exprB (kindT t) && isT t) ([40, 32] ++ showT t ++ [32, 41]) := by
  have := pround_ok (g := opnF f 0) (c := exprB) [t] (fun u hu => by rw [List.mem_singleton.1 hu]; exact ex0 hd hc)
  simp only [List.all_cons, List.all_nil, Bool.and_true] at this
  have e : roundR (showL [t]) = [40, 32] ++ showT t ++ [32, 41] := by
    unfold showL showL roundR listR
    simp
  rw [e] at this
  exact this
theorem bind_ok {o : Option (List ByteArray)} {b c : Bool} {s : List UInt8} (h : OkW o b s) {k : List ByteArray → Option (List ByteArray)} {s2 : List UInt8} (hk : ∀ w, o = some w → blW w = 32 :: s → OkW (k w) c s2) : OkW (o.bind k) (b && c) s2 := by
  cases hg : o with
  | none => show _ = false; rw [h.none hg]; rfl
  | some w =>
    obtain ⟨g1, g2⟩ := h.some hg
    rw [g1, Bool.true_and, Option.bind_some]
    exact hk w hg g2
theorem fin_ok {ws : List ByteArray} {s : List UInt8} (h : blW ws = 32 :: s) : OkW (some ws) true s := ⟨rfl, h⟩
theorem bs_ok : ∀ (f : Nat), (∀ t, depT t ≤ f → cntT t ≤ 500 → OkW (blockW f t) (kindT t == 6 && isT t) (showT t)) ∧ (∀ t, depT t ≤ f → cntT t ≤ 500 → OkW (statW f t) (statB (kindT t) && isT t) (showT t))
  | 0 => ⟨fun t h _ => by have := depT_pos t; omega, fun t h _ => by have := depT_pos t; omega⟩
  | f + 1 => by
    obtain ⟨hB, hS⟩ := bs_ok f
    refine ⟨?_, ?_⟩
    · rintro ⟨k, x, m, ks⟩ hd hc
      have hs := pseq_ok (g := statW f) (c := statB) ks (fun t ht => hS t (kid_dep hd ht) (kid_cnt hc ht))
      unfold blockW
      rw [look_is (kid_len hc) (by simp; omega), isT_node, showT_node]
      have e : [6].contains k = (k == 6) := contains1 6 k
      rw [e]
      show OkW _ (k == 6 && _) _
      cases hk : (k == 6) with
      | false => rfl
      | true =>
        obtain rfl : k = 6 := by simpa using hk
        cases hh : headR 6 x m ks.length with
        | false => rfl
        | true =>
          rw [isL_all (c := statB) (fun i p kd => rfl)]
          simp only [Bool.true_and, if_true]
          cases hg : seqF (statW f) ks with
          | none => rw [hg] at hs; exact hs
          | some w =>
            rw [hg] at hs
            refine ⟨hs.1, ?_⟩
            have h2 := hs.2
            show _ = 32 :: (if (showL ks).length = 0 then [123, 32, 125] else [123, 32] ++ listR [32] (showL ks) ++ [32, 125])
            cases ks with
            | nil =>
              unfold showL at h2 ⊢
              simp only [List.flatMap_nil] at h2
              simp [blW_app, blW_cons, blW_nil, h2]
            | cons t r =>
              rw [seq_list _ (by unfold showL; simp)] at h2
              rw [if_neg (by unfold showL; simp)]
              simp [blW_app, blW_cons, blW_nil, h2]
    · rintro ⟨k, x, m, ks⟩ hd hc
      have hE : ∀ t ∈ ks, OkW (opnF f 0 t) (exprB (kindT t) && isT t) (showT t) := fun t ht => ex0 (kid_dep hd ht) (kid_cnt hc ht)
      have hP : ∀ t ∈ ks, OkW (placeW f t) ((kindT t == 16 || kindT t == 17) && isT t) (showT t) := fun t ht => zplace_ok (kid_dep hd ht) (kid_cnt hc ht)
      have hD : ∀ t ∈ ks, OkW (doW f t) (kindT t == 18 && isT t) (showT t) := fun t ht => zdo_ok (kid_dep hd ht) (kid_cnt hc ht)
      have hR : ∀ t ∈ ks, OkW (roundF (opnF f 0) [t]) (exprB (kindT t) && isT t) ([40, 32] ++ showT t ++ [32, 41]) := fun t ht => round1 (kid_dep hd ht) (kid_cnt hc ht)
      have hK : ∀ t ∈ ks, OkW (blockW f t) (kindT t == 6 && isT t) (showT t) := fun t ht => hB t (kid_dep hd ht) (kid_cnt hc ht)
      unfold statW
      rw [look_is (kid_len hc) (by rw [stat_kinds]; unfold statB; simp; omega), stat_kinds, isT_node, showT_node]
      show OkW _ (statB k && _) _
      cases hk : statB k with
      | false => rfl
      | true =>
        cases hh : headR k x m ks.length with
        | false => rfl
        | true =>
          obtain ⟨h1, h2, h3, h4, h5⟩ := head_facts hh
          clear hB hS hh hd hc
          have hk' : k = 7 ∨ k = 8 ∨ k = 9 ∨ k = 10 ∨ k = 11 ∨ k = 12 ∨ k = 13 ∨ k = 14 := by unfold statB at hk; simp at hk; omega
          rcases hk' with rfl | rfl | rfl | rfl | rfl | rfl | rfl | rfl
          · obtain ⟨t, rfl⟩ := len1 h3 (h4.resolve_left (by decide))
            have e : isL 7 [t].length 0 0 [t] = ((exprB (kindT t) && isT t) && true) := by simp [isL, fitB]
            rw [e]
            refine bind_ok (hE t (by simp)) fun w hw gw => fin_ok ?_
            show _ = 32 :: (labR m ++ x.data.toList ++ [32, 61, 32] ++ showT t ++ [32, 59])
            rw [← lab_is (show 0 ≤ m from h1) (show m ≤ 1 from h2)]
            simp [blW_app, blW_cons, blW_nil, gw]
          · obtain ⟨t, u, rfl⟩ := len2 h3 (h4.resolve_left (by decide))
            have e : isL 8 [t, u].length 0 0 [t, u] = (((kindT t == 16 || kindT t == 17) && isT t) && ((exprB (kindT u) && isT u) && true)) := by simp [isL, fitB]
            rw [e]
            refine bind_ok (hP t (by simp)) fun w hw gw => bind_ok (hE u (by simp)) fun w2 hw2 gw2 => fin_ok ?_
            show _ = 32 :: (showT t ++ [32, 61, 32] ++ showT u ++ [32, 59])
            simp [blW_app, blW_cons, blW_nil, gw, gw2]
          · obtain ⟨t, rfl⟩ := len1 h3 (h4.resolve_left (by decide))
            have e : isL 9 [t].length 0 0 [t] = ((kindT t == 18 && isT t) && true) := by simp [isL, fitB]
            rw [e]
            refine bind_ok (hD t (by simp)) fun w hw gw => fin_ok ?_
            show _ = 32 :: ([100, 111, 32] ++ showT t ++ [32, 59])
            simp [blW_app, blW_cons, blW_nil, gw]
          · have h6 : (2 : Int) ≤ ks.length := h3
            have h7 : (ks.length : Int) ≤ 3 := h4.resolve_left (by decide)
            match ks, h6, h7, hR, hK with
            | [t, u], _, _, hR, hK =>
              have e : isL 10 [t, u].length 0 0 [t, u] = ((exprB (kindT t) && isT t) && ((kindT u == 6 && isT u) && true)) := by simp [isL, fitB]
              rw [e]
              refine bind_ok (hR t (by simp)) fun w hw gw => bind_ok (hK u (by simp)) fun w2 hw2 gw2 => fin_ok ?_
              show _ = 32 :: ([105, 102, 32, 40, 32] ++ showT t ++ [32, 41, 32] ++ showT u ++ [])
              simp [blW_app, blW_cons, blW_nil, gw, gw2]
            | [t, u, v], _, _, hR, hK =>
              have e : isL 10 [t, u, v].length 0 0 [t, u, v] = ((exprB (kindT t) && isT t) && ((kindT u == 6 && isT u) && ((kindT v == 6 && isT v) && true))) := by simp [isL, fitB]
              rw [e]
              refine bind_ok (hR t (by simp)) fun w hw gw => bind_ok (hK u (by simp)) fun w2 hw2 gw2 => bind_ok (hK v (by simp)) fun w3 hw3 gw3 => fin_ok ?_
              show _ = 32 :: ([105, 102, 32, 40, 32] ++ showT t ++ [32, 41, 32] ++ showT u ++ ([32, 101, 108, 115, 101, 32] ++ showT v))
              simp [blW_app, blW_cons, blW_nil, gw, gw2, gw3]
          · obtain ⟨t, u, rfl⟩ := len2 h3 (h4.resolve_left (by decide))
            have e : isL 11 [t, u].length 0 0 [t, u] = ((exprB (kindT t) && isT t) && ((kindT u == 6 && isT u) && true)) := by simp [isL, fitB]
            rw [e]
            refine bind_ok (hR t (by simp)) fun w hw gw => bind_ok (hK u (by simp)) fun w2 hw2 gw2 => fin_ok ?_
            show _ = 32 :: ([119, 104, 105, 108, 101, 32, 40, 32] ++ showT t ++ [32, 41, 32] ++ showT u)
            simp [blW_app, blW_cons, blW_nil, gw, gw2]
          · obtain ⟨t, rfl⟩ := len1 h3 (h4.resolve_left (by decide))
            have e : isL 12 [t].length 0 0 [t] = ((exprB (kindT t) && isT t) && true) := by simp [isL, fitB]
            rw [e]
            refine bind_ok (hE t (by simp)) fun w hw gw => fin_ok ?_
            show _ = 32 :: ([111, 117, 116, 32] ++ labR m ++ showT t ++ [32, 59])
            rw [← lab_is (show 0 ≤ m from h1) (show m ≤ 1 from h2)]
            simp [blW_app, blW_cons, blW_nil, gw]
          · obtain ⟨t, rfl⟩ := len1 h3 (h4.resolve_left (by decide))
            have e : isL 13 [t].length 0 0 [t] = (((kindT t == 16 || kindT t == 17) && isT t) && true) := by simp [isL, fitB]
            rw [e]
            refine bind_ok (hP t (by simp)) fun w hw gw => fin_ok ?_
            show _ = 32 :: ([105, 110, 32] ++ labR m ++ showT t ++ [32, 59])
            rw [← lab_is (show 0 ≤ m from h1) (show m ≤ 1 from h2)]
            simp [blW_app, blW_cons, blW_nil, gw]
          · obtain ⟨t, rfl⟩ := len1 h3 (h4.resolve_left (by decide))
            have e : isL 14 [t].length 0 0 [t] = ((exprB (kindT t) && isT t) && true) := by simp [isL, fitB]
            rw [e]
            refine bind_ok (hE t (by simp)) fun w hw gw => fin_ok ?_
            show _ = 32 :: ([114, 101, 116, 117, 114, 110, 32] ++ showT t ++ [32, 59])
            simp [blW_app, blW_cons, blW_nil, gw]
theorem zpar_ok {t : Tree} (hc : cntT t ≤ 500) : OkW (parW t) (kindT t == 5 && isT t) (showT t) := by
  obtain ⟨k, x, m, ks⟩ := t
  unfold parW
  dsimp only
  rw [look_is (kid_len hc) (by simp; omega), isT_node, showT_node]
  have e : [5].contains k = (k == 5) := contains1 5 k
  rw [e]
  show OkW _ (k == 5 && _) _
  cases hk : (k == 5) with
  | false => rfl
  | true =>
    obtain rfl : k = 5 := by simpa using hk
    cases hh : headR 5 x m ks.length with
    | false => rfl
    | true =>
      obtain ⟨h1, h2, h3, h4, h5⟩ := head_facts hh
      obtain rfl := len0 (h4.resolve_left (by decide))
      refine ⟨by simp [isL], ?_⟩
      show _ = 32 :: (labR m ++ x.data.toList)
      rw [← lab_is (show 0 ≤ m from h1) (show m ≤ 1 from h2)]
      simp [blW_app, blW_cons, blW_nil]
theorem znum_ok {t : Tree} (hc : cntT t ≤ 500) : OkW (numK t) (kindT t == 15 && isT t) (showT t) := by
  obtain ⟨k, x, m, ks⟩ := t
  unfold numK
  dsimp only
  rw [look_is (kid_len hc) (by simp; omega), isT_node, showT_node]
  have e : [15].contains k = (k == 15) := contains1 15 k
  rw [e]
  show OkW _ (k == 15 && _) _
  cases hk : (k == 15) with
  | false => rfl
  | true =>
    obtain rfl : k = 15 := by simpa using hk
    cases hh : headR 15 x m ks.length with
    | false => rfl
    | true =>
      obtain ⟨h1, h2, h3, h4, h5⟩ := head_facts hh
      obtain rfl := len0 (h4.resolve_left (by decide))
      refine ⟨by simp [isL], ?_⟩
      show _ = 32 :: (numW m).data.toList
      simp [blW_app, blW_cons, blW_nil]
theorem zimp_ok {t : Tree} (hc : cntT t ≤ 500) (hk : kindT t = 2) : OkW (impW t) (isT t) (showT t) := by
  obtain ⟨k, x, m, ks⟩ := t
  obtain rfl : k = 2 := hk
  unfold impW
  dsimp only
  rw [look_is (kid_len hc) (by simp), isT_node, showT_node]
  cases hh : headR 2 x m ks.length with
  | false => rfl
  | true =>
    obtain ⟨h1, h2, h3, h4, h5⟩ := head_facts hh
    obtain rfl := len0 (h4.resolve_left (by decide))
    refine ⟨by simp [isL], ?_⟩
    show _ = 32 :: ([105, 109, 112, 111, 114, 116, 32] ++ x.data.toList ++ [32, 59])
    simp [blW_app, blW_cons, blW_nil]
/-- parameters, and a block behind them -/
theorem pars_ok (n : Nat) (b : Tree) : ∀ (l : List Tree) (i : Nat) (p : Int), i + l.length + 1 = n → isL 4 n i p (l ++ [b]) = ((l.all fun t => kindT t == 5 && isT t) && (kindT b == 6 && isT b))
  | [], i, p, h => by
    have h' : i + 1 = n := by simpa using h
    simp [isL, fitB, h']
  | t :: r, i, p, h => by
    have h' : ¬ i + 1 = n := by simp at h; omega
    rw [List.cons_append]
    unfold isL
    rw [pars_ok n b r (i + 1) (kindT t) (by simp at h ⊢; omega), List.all_cons]
    have e : fitB 4 n i p (kindT t) = (kindT t == 5) := by simp [fitB, h']
    rw [e, Bool.and_assoc, Bool.and_assoc, Bool.and_assoc]
theorem showL_cons (t : Tree) (r : List Tree) : showL (t :: r) = showT t :: showL r := by rw [showL]
theorem showL_nil : showL [] = [] := by rw [showL]
theorem showL_app : ∀ (a b : List Tree), showL (a ++ b) = showL a ++ showL b
  | [], b => by rw [List.nil_append, showL_nil, List.nil_append]
  | t :: r, b => by rw [List.cons_append, showL_cons, showL_cons, showL_app r b, List.cons_append]
theorem split_last {α : Type} : ∀ (l : List α), (1 : Int) ≤ l.length → ∃ a b, l = a ++ [b]
  | [], h => by simp at h
  | t :: r, h => ⟨(t :: r).dropLast, (t :: r).getLast (by simp), (List.dropLast_concat_getLast (by simp)).symm⟩
theorem proc_num {m : Int} (h0 : 0 ≤ m) (h1 : m ≤ 11) (x : ByteArray) (p b : List ByteArray) (sp sb : List UInt8) (hp : blW p = 32 :: sp) (hb : blW b = 32 :: sb) :
    blW ((if m.toNat / 2 % 2 = 1 then [⟨#[112, 117, 98]⟩] else []) ++ [⟨#[112, 114, 111, 99]⟩, x] ++ p ++ [labW (m % 2)] ++ givW m ++ b) = 32 :: ((if 2 ≤ m % 4 then [112, 117, 98, 32] else []) ++ [112, 114, 111, 99, 32] ++ x.data.toList ++ [32] ++ sp ++ [32] ++ labR m ++ (if 4 ≤ m then [103, 105, 118, 101, 115, 32] ++ labR (m.tdiv 8) else []) ++ sb) := by
  have hm : m = 0 ∨ m = 1 ∨ m = 2 ∨ m = 3 ∨ m = 4 ∨ m = 5 ∨ m = 6 ∨ m = 7 ∨ m = 8 ∨ m = 9 ∨ m = 10 ∨ m = 11 := by omega
  rcases hm with rfl | rfl | rfl | rfl | rfl | rfl | rfl | rfl | rfl | rfl | rfl | rfl
  all_goals simp [blW_app, blW_cons, blW_nil, hp, hb, labW, labR, givW]
theorem var_num {m : Int} (h0 : 0 ≤ m) (h1 : m ≤ 3) (x : ByteArray) (q : List ByteArray) (sq : List UInt8) (hq : blW q = sq ++ [32, 59]) :
    blW ((if m.toNat / 2 % 2 = 1 then [⟨#[112, 117, 98]⟩] else []) ++ [labW (m % 2)] ++ [x] ++ q) = 32 :: ((if 2 ≤ m % 4 then [112, 117, 98, 32] else []) ++ labR m ++ x.data.toList ++ sq ++ [32, 59]) := by
  have hm : m = 0 ∨ m = 1 ∨ m = 2 ∨ m = 3 := by omega
  rcases hm with rfl | rfl | rfl | rfl
  all_goals simp [blW_app, blW_cons, blW_nil, hq, labW, labR]
theorem zdecl_ok {f : Nat} {t : Tree} (hd : depT t ≤ (f + 1 : Nat)) (hc : cntT t ≤ 500) : OkW (declW f t) ((kindT t == 3 || kindT t == 4) && isT t) (showT t) := by
  obtain ⟨k, x, m, ks⟩ := t
  unfold declW
  dsimp only
  rw [look_is (kid_len hc) (by simp; omega), isT_node, showT_node]
  have e : [3, 4].contains k = (k == 3 || k == 4) := contains2 3 4 k
  rw [e]
  show OkW _ ((k == 3 || k == 4) && _) _
  cases hk : (k == 3 || k == 4) with
  | false => rfl
  | true =>
    cases hh : headR k x m ks.length with
    | false => rfl
    | true =>
      obtain ⟨h1, h2, h3, h4, h5⟩ := head_facts hh
      have hk' : k = 3 ∨ k = 4 := by simpa using hk
      rcases hk' with rfl | rfl
      · have h1' : 0 ≤ m := h1
        have h2' : m ≤ 3 := h2
        have h7 : (ks.length : Int) ≤ 1 := h4.resolve_left (by decide)
        match ks, h7, hc with
        | [], _, _ =>
          refine ⟨by simp [isL], ?_⟩
          show blW ((if m.toNat / 2 % 2 = 1 then [⟨#[112, 117, 98]⟩] else []) ++ [labW (m % 2)] ++ [x] ++ [⟨#[59]⟩]) = 32 :: ((if 2 ≤ m % 4 then [112, 117, 98, 32] else []) ++ labR m ++ x.data.toList ++ [] ++ [32, 59])
          exact var_num h1' h2' x [⟨#[59]⟩] [] (by simp [blW_cons, blW_nil])
        | [t], _, hc =>
          have e : isL 3 [t].length 0 0 [t] = ((kindT t == 15 && isT t) && true) := by simp [isL, fitB]
          rw [e]
          refine bind_ok (znum_ok (kid_cnt hc (by simp))) fun w hw gw => fin_ok ?_
          show blW ((if m.toNat / 2 % 2 = 1 then [⟨#[112, 117, 98]⟩] else []) ++ [labW (m % 2)] ++ [x] ++ [⟨#[91]⟩] ++ w ++ [⟨#[93]⟩] ++ [⟨#[59]⟩]) = 32 :: ((if 2 ≤ m % 4 then [112, 117, 98, 32] else []) ++ labR m ++ x.data.toList ++ ([32, 91, 32] ++ showT t ++ [32, 93]) ++ [32, 59])
          have := var_num h1' h2' x ([⟨#[91]⟩] ++ w ++ [⟨#[93]⟩] ++ [⟨#[59]⟩]) ([32, 91, 32] ++ showT t ++ [32, 93]) (by simp [blW_app, blW_cons, blW_nil, gw])
          simpa using this
      · obtain ⟨l, b, rfl⟩ := split_last ks h3
        have hb := (bs_ok f).1 b (kid_dep hd (by simp)) (kid_cnt hc (by simp))
        have hr := pround_ok (g := parW) (c := fun k => k == 5) l (fun t ht => zpar_ok (kid_cnt hc (List.mem_append_left _ ht)))
        have e1 : (l ++ [b]).take ((l ++ [b]).length - 1) = l := by simp
        have e2 : (l ++ [b]).getD ((l ++ [b]).length - 1) noT = b := by simp
        rw [pars_ok _ b l 0 0 (by simp), if_pos rfl, e1, e2]
        simp only [Bool.true_and, if_true]
        have hg := bind_ok (c := kindT b == 6 && isT b) hr (k := fun p => (blockW f b).bind fun b => some ((if m.toNat / 2 % 2 = 1 then [⟨#[112, 117, 98]⟩] else []) ++ [⟨#[112, 114, 111, 99]⟩, x] ++ p ++ [labW (m % 2)] ++ givW m ++ b)) (s2 := barR 4 x m (l ++ [b]) (showL (l ++ [b]))) (fun w hw gw => by
          have := bind_ok (c := true) hb (k := fun b => some ((if m.toNat / 2 % 2 = 1 then [⟨#[112, 117, 98]⟩] else []) ++ [⟨#[112, 114, 111, 99]⟩, x] ++ w ++ [labW (m % 2)] ++ givW m ++ b)) (s2 := barR 4 x m (l ++ [b]) (showL (l ++ [b]))) (fun w2 hw2 gw2 => fin_ok (by
            rw [proc_num (show 0 ≤ m from h1) (show m ≤ 11 from h2) x w w2 _ _ gw gw2, showL_app]
            have hb1 : showL [b] = [showT b] := by unfold showL showL; rfl
            rw [hb1]
            unfold barR
            simp))
          rw [Bool.and_true] at this
          exact this)
        exact hg
theorem impB_kind (t : Tree) : impB t = (kindT t == 2) := by obtain ⟨k, x, m, ks⟩ := t; rfl
/-- declarations, behind all imports -/
theorem decls_ok {f n : Nat} : ∀ (ks : List Tree) (i : Nat) (p : Int), (∀ t ∈ ks, depT t ≤ (f + 1 : Nat) ∧ cntT t ≤ 500) → 0 < i → p ≠ 2 → OkB (seqF (declW f) ks) (isL 1 n i p ks) ((showL ks).flatMap (32 :: ·))
  | [], i, p, h, _, _ => by unfold seqF isL showL; exact ⟨rfl, rfl⟩
  | t :: r, i, p, h, hi, hp => by
    have h1 := zdecl_ok (h t (by simp)).1 (h t (by simp)).2
    unfold seqF isL showL
    rw [List.flatMap_cons]
    have e : fitB 1 n i p (kindT t) = (kindT t == 3 || kindT t == 4) := by
      unfold fitB
      rw [if_pos rfl]
      by_cases h2 : kindT t = 2
      · have hi0 : (i == 0) = false := by simp; omega
        have hp0 : (p == 2) = false := by simpa using hp
        rw [if_pos h2, h2, hi0, hp0]; rfl
      · rw [if_neg h2]
    rw [e]
    cases hg : declW f t with
    | none => rw [hg] at h1; show (_ && _) = false; rw [show ((kindT t == 3 || kindT t == 4) && isT t) = false from h1]; rfl
    | some a =>
      rw [hg] at h1
      obtain ⟨g1, g2⟩ := h1
      rw [Option.bind_some, g1, Bool.true_and]
      have hk : kindT t ≠ 2 := by intro e2; rw [e2] at g1; simp at g1
      have h2 := decls_ok (f := f) (n := n) r (i + 1) (kindT t) (fun u hu => h u (List.mem_cons_of_mem _ hu)) (by omega) hk
      cases hr : seqF (declW f) r with
      | none => rw [hr] at h2; exact h2
      | some b =>
        rw [hr] at h2
        exact ⟨h2.1, by rw [blW_app, g2, h2.2]; try rfl⟩
theorem mods_ok {f n : Nat} : ∀ (ks : List Tree) (i : Nat) (p : Int), (∀ t ∈ ks, depT t ≤ (f + 1 : Nat) ∧ cntT t ≤ 500) → (i = 0 ∨ p = 2) → OkB ((seqF impW (ks.takeWhile impB)).bind fun a => (seqF (declW f) (ks.dropWhile impB)).bind fun b => some (a ++ b)) (isL 1 n i p ks) ((showL ks).flatMap (32 :: ·))
  | [], i, p, h, _ => by unfold isL showL; exact ⟨rfl, rfl⟩
  | t :: r, i, p, h, hi => by
    by_cases hk : kindT t = 2
    · have hb : impB t = true := by rw [impB_kind, hk]; rfl
      rw [List.takeWhile_cons, List.dropWhile_cons, hb]
      simp only [if_true]
      have h1 := zimp_ok (h t (by simp)).2 hk
      have h2 := mods_ok (f := f) (n := n) r (i + 1) (kindT t) (fun u hu => h u (List.mem_cons_of_mem _ hu)) (.inr hk)
      have e : fitB 1 n i p (kindT t) = true := by
        unfold fitB
        rw [if_pos rfl, if_pos hk]
        rcases hi with rfl | rfl <;> simp
      unfold isL showL
      rw [e, Bool.true_and, List.flatMap_cons]
      show OkB (((impW t).bind fun a => (seqF impW (r.takeWhile impB)).bind fun b => some (a ++ b)).bind _) _ _
      cases hg : impW t with
      | none => rw [hg] at h1; show _ = false; rw [show isT t = false from h1]; rfl
      | some a =>
        rw [hg] at h1
        obtain ⟨g1, g2⟩ := h1
        rw [Option.bind_some, g1, Bool.true_and]
        cases ha : seqF impW (r.takeWhile impB) with
        | none => rw [ha] at h2; exact h2
        | some b =>
          rw [ha] at h2
          rw [Option.bind_some, Option.bind_some]
          rw [Option.bind_some] at h2
          cases hd : seqF (declW f) (r.dropWhile impB) with
          | none => rw [hd] at h2; exact h2
          | some d =>
            rw [hd] at h2
            exact ⟨h2.1, by rw [List.append_assoc, blW_app, g2, h2.2]; try rfl⟩
    · have hb : impB t = false := by rw [impB_kind]; simpa using hk
      rw [List.takeWhile_cons, List.dropWhile_cons, hb]
      simp only [Bool.false_eq_true, if_false]
      have h1 := zdecl_ok (h t (by simp)).1 (h t (by simp)).2
      have e : fitB 1 n i p (kindT t) = (kindT t == 3 || kindT t == 4) := by
        unfold fitB
        rw [if_pos rfl, if_neg hk]
      unfold isL showL
      rw [e, List.flatMap_cons]
      show OkB ((some []).bind fun a => (((declW f t).bind fun a => (seqF (declW f) r).bind fun b => some (a ++ b)).bind fun b => some (a ++ b))) _ _
      rw [Option.bind_some]
      cases hg : declW f t with
      | none => rw [hg] at h1; show (_ && _) = false; rw [show ((kindT t == 3 || kindT t == 4) && isT t) = false from h1]; rfl
      | some a =>
        rw [hg] at h1
        obtain ⟨g1, g2⟩ := h1
        rw [Option.bind_some, g1, Bool.true_and]
        have h2 := decls_ok (f := f) (n := n) r (i + 1) (kindT t) (fun u hu => h u (List.mem_cons_of_mem _ hu)) (by omega) hk
        cases hr : seqF (declW f) r with
        | none => rw [hr] at h2; exact h2
        | some b =>
          rw [hr] at h2
          exact ⟨h2.1, by rw [List.nil_append, blW_app, g2, h2.2]; try rfl⟩
theorem zmodule_ok {f : Nat} {t : Tree} (hd : depT t ≤ (f + 2 : Nat)) (hc : cntT t ≤ 500) : OkW (moduleW f t) (kindT t == 1 && isT t) (showT t) := by
  obtain ⟨k, x, m, ks⟩ := t
  unfold moduleW
  dsimp only
  rw [look_is (kid_len hc) (by simp; omega), isT_node, showT_node]
  have e : [1].contains k = (k == 1) := contains1 1 k
  rw [e]
  show OkW _ (k == 1 && _) _
  cases hk : (k == 1) with
  | false => rfl
  | true =>
    obtain rfl : k = 1 := by simpa using hk
    cases hh : headR 1 x m ks.length with
    | false => rfl
    | true =>
      have h2 := mods_ok (f := f) (n := ks.length) ks 0 0 (fun t ht => ⟨kid_dep (f := f + 1) hd ht, kid_cnt hc ht⟩) (.inl rfl)
      simp only [Bool.true_and, if_true]
      cases ha : seqF impW (ks.takeWhile impB) with
      | none => rw [ha] at h2; exact h2
      | some a =>
        rw [ha, Option.bind_some] at h2
        rw [Option.bind_some]
        cases hb : seqF (declW f) (ks.dropWhile impB) with
        | none => rw [hb] at h2; exact h2
        | some b =>
          rw [hb] at h2
          refine ⟨h2.1, ?_⟩
          show _ = 32 :: ([109, 111, 100, 117, 108, 101, 32] ++ x.data.toList ++ [32, 59] ++ (showL ks).flatMap (32 :: ·))
          have e : [⟨#[109, 111, 100, 117, 108, 101]⟩, x, ⟨#[59]⟩] ++ a ++ b = [⟨#[109, 111, 100, 117, 108, 101]⟩, x, ⟨#[59]⟩] ++ (a ++ b) := by simp
          rw [e, blW_app, h2.2]
          simp [blW_cons, blW_nil]
/-- PRINT, alike -/
theorem print_is (t : Tree) : printR t = printT t := by
  unfold printR printT
  by_cases hf : fitsT t = true
  · rw [if_pos hf, if_pos hf]
    have hw := within_fits t
    rw [hf, withinT_is t 1 0 (by omega) (by omega) (by omega) (by omega)] at hw
    have hz : depT t + 1 ≤ 17 ∧ 0 + cntT t ≤ 500 := by
      by_cases h : depT t + 1 ≤ 17 ∧ 0 + cntT t ≤ 500
      · exact h
      · rw [if_neg h] at hw; cases hw
    have hm := zmodule_ok (f := 16) (t := t) (by omega) (by omega)
    cases hg : moduleW 16 t with
    | none =>
      rw [hg] at hm
      have hm : (kindT t == 1 && isT t) = false := hm
      rw [if_neg]
      rintro ⟨h1, h2⟩
      rw [h1, h2] at hm
      cases hm
    | some w =>
      rw [hg] at hm
      obtain ⟨h1, h2⟩ := hm
      have h1' : kindT t = 1 ∧ isT t = true := by simpa using h1
      rw [if_pos h1']
      have hj : joinW w = showT t := by
        have hne : w ≠ [] := by rintro rfl; cases h2
        rw [blW_join w hne] at h2
        injection h2
      dsimp only
      rw [hj]
  · rw [if_neg hf, if_neg hf]
/-- all, and eight besides for each -/
def sum8 : List (List UInt8) → Int
  | [] => 0
  | s :: r => (s.length : Int) + 8 + sum8 r
theorem sum8_pos : ∀ l : List (List UInt8), 0 ≤ sum8 l
  | [] => Int.le_refl _
  | s :: r => by have := sum8_pos r; unfold sum8; omega
theorem nd_le : ∀ (k u : Nat), u < 10 ^ (k + 1) → Lib.nDigits u ≤ k + 1
  | 0, u, h => by rw [Lib.nDigits_small (by simpa using h)]; exact Nat.le_refl _
  | k + 1, u, h => by
    by_cases hs : u < 10
    · rw [Lib.nDigits_small hs]; omega
    · rw [Lib.nDigits_big hs]
      have := nd_le k (u / 10) (by rw [Nat.pow_succ] at h; omega)
      omega
theorem znum_len {m : Int} (h0 : 0 ≤ m) (h1 : m ≤ 9223372036854775807) : (numW m).data.toList.length ≤ 19 := by
  unfold numW
  show (Lib.itoa m).toArray.toList.length ≤ 19
  rw [List.toList_toArray]
  unfold Lib.itoa
  rw [if_neg (by omega), Lib.decDigits_length]
  exact nd_le 18 m.toNat (by have : (10 : Nat) ^ 19 = 10000000000000000000 := by decide
                             omega)
theorem nm_len {x : ByteArray} (h : isName x = true) : x.data.toList.length ≤ 16 := by
  unfold isName at h
  simp only [Bool.and_eq_true, decide_eq_true_eq] at h
  rw [← size_data]
  exact h.1.1.1.2
theorem spaced_len {x : ByteArray} (h : textsR x 2 = true) : (spacedR x).length ≤ 35 := by
  unfold textsR at h
  rw [if_neg (by decide), if_neg (by decide)] at h
  unfold partsR at h
  unfold spacedR
  rcases hc : cutL x.data.toList with ⟨u, _ | v⟩
  · rw [hc] at h
    simp only [Bool.and_eq_true] at h
    have := nm_len h.1
    dsimp only
    omega
  · have hl := cutL_len x.data.toList
    rw [hc] at h hl
    dsimp only at h hl ⊢
    split at h
    · rename_i heq
      cases h
    · rename_i p heq
      split at heq
      · cases heq
      · cases heq
        simp only [Bool.and_eq_true, Bool.or_eq_true, decide_eq_true_eq] at h
        have h1 := nm_len h.1
        have e1 : (⟨u.toArray⟩ : ByteArray).size = u.length := size_arr u
        have e2 : (⟨v.toArray⟩ : ByteArray).size = v.length := size_arr v
        have e3 : x.size = u.length + (v.length + 1) := by rw [size_data, hl]; simp
        rcases h.2 with h2 | h2
        · exact absurd h2 (by omega)
        · have h3 := nm_len h2
          simp at h1 h3 ⊢
          omega
theorem lab_len (m : Int) : (labR m).length ≤ 5 := by unfold labR; split <;> decide
theorem op_len (n : Nat) : (opAt n).data.toList.length ≤ 2 := by
  unfold opAt
  by_cases h : n < 10
  · have : ∀ n : Fin 10, (opS.getD n.1 empty).data.toList.length ≤ 2 := by decide
    exact this ⟨n, h⟩
  · have : opS.getD n empty = empty := by rw [List.getD_eq_getElem?_getD, List.getElem?_eq_none (by show 10 ≤ n; omega)]; rfl
    rw [this]; decide
theorem list_len (sep : List UInt8) (h : sep.length ≤ 8) : ∀ l : List (List UInt8), ((listR sep l).length : Int) ≤ sum8 l
  | [] => Int.le_refl _
  | s :: r => by
    have key : ∀ r : List (List UInt8), ((r.flatMap (sep ++ ·)).length : Int) ≤ sum8 r := by
      intro r
      induction r with
      | nil => exact Int.le_refl _
      | cons a r ih =>
        rw [List.flatMap_cons, List.length_append, List.length_append]
        unfold sum8
        omega
    have := key r
    unfold listR sum8
    rw [List.length_append]
    omega
theorem zround_len (l : List (List UInt8)) : ((roundR l).length : Int) ≤ sum8 l + 4 := by
  unfold roundR
  split
  · have := sum8_pos l
    have e : ([40, 32, 41] : List UInt8).length = 3 := rfl
    omega
  · have := list_len [32, 44, 32] (by decide) l
    rw [List.length_append, List.length_append]
    have e1 : ([40, 32] : List UInt8).length = 2 := rfl
    have e2 : ([32, 41] : List UInt8).length = 2 := rfl
    omega
theorem flat_len : ∀ l : List (List UInt8), ((l.flatMap (32 :: ·)).length : Int) ≤ sum8 l
  | [] => Int.le_refl _
  | s :: r => by
    have := flat_len r
    rw [List.flatMap_cons, List.length_append, List.length_cons]
    unfold sum8
    omega
theorem at_len (t : Tree) (s : List UInt8) (l : Int) : (atR t s l).length ≤ s.length + 4 := by
  unfold atR
  split
  · simp
  · omega
theorem sum8_cons (s : List UInt8) (r : List (List UInt8)) : sum8 (s :: r) = (s.length : Int) + 8 + sum8 r := by rw [sum8]
theorem sum8_nil : sum8 [] = 0 := by rw [sum8]
theorem sum8_split : ∀ (l : List (List UInt8)) (b : List UInt8), sum8 (l ++ [b]) = sum8 l + ((b.length : Int) + 8)
  | [], b => by rw [List.nil_append, sum8_cons, sum8_nil]; omega
  | s :: r, b => by
    rw [List.cons_append]
    unfold sum8
    rw [sum8_split r b]
    omega
theorem isL_mem {k : Int} {n : Nat} {t : Tree} : ∀ {ks : List Tree} {i : Nat} {p : Int}, isL k n i p ks = true → t ∈ ks → isT t = true
  | [], _, _, _, h => by cases h
  | a :: r, i, p, h, ht => by
    unfold isL at h
    simp only [Bool.and_eq_true] at h
    rcases List.mem_cons.1 ht with rfl | ht
    · exact h.1.2
    · exact isL_mem h.2 ht
theorem bar_len {k m : Int} {x : ByteArray} {ks : List Tree} (hh : headR k x m ks.length = true) : ((barR k x m ks (showL ks)).length : Int) ≤ 92 + sum8 (showL ks) := by
  obtain ⟨h1, h2, h3, h4, h5⟩ := head_facts hh
  have hk : 1 ≤ k ∧ k ≤ 21 := by
    unfold headR at hh
    simp only [Bool.and_eq_true, decide_eq_true_eq] at hh
    exact hh.1.1.1.1.1
  have hp := sum8_pos (showL ks)
  have hl := lab_len m
  have hkk : k = 1 ∨ k = 2 ∨ k = 3 ∨ k = 4 ∨ k = 5 ∨ k = 6 ∨ k = 7 ∨ k = 8 ∨ k = 9 ∨ k = 10 ∨ k = 11 ∨ k = 12 ∨ k = 13 ∨ k = 14 ∨ k = 15 ∨ k = 16 ∨ k = 17 ∨ k = 18 ∨ k = 19 ∨ k = 20 ∨ k = 21 := by omega
  have hn1 : ∀ _ : (shapeF k).1 = 1, x.data.toList.length ≤ 16 := fun e => by
    rw [e] at h5
    unfold textsR at h5
    rw [if_neg (by decide), if_pos rfl] at h5
    exact nm_len h5
  have hn2 : ∀ _ : (shapeF k).1 = 2, (spacedR x).length ≤ 35 := fun e => by rw [e] at h5; exact spaced_len h5
  have hpub : (if 2 ≤ m % 4 then [112, 117, 98, 32] else ([] : List UInt8)).length ≤ 4 := by split <;> decide
  rcases hkk with rfl | rfl | rfl | rfl | rfl | rfl | rfl | rfl | rfl | rfl | rfl | rfl | rfl | rfl | rfl | rfl | rfl | rfl | rfl | rfl | rfl
  · have := hn1 rfl
    have := flat_len (showL ks)
    show (([109, 111, 100, 117, 108, 101, 32] ++ x.data.toList ++ [32, 59] ++ (showL ks).flatMap (32 :: ·)).length : Int) ≤ _
    simp only [List.length_append, List.length_cons, List.length_nil]
    omega
  · have := hn1 rfl
    show (([105, 109, 112, 111, 114, 116, 32] ++ x.data.toList ++ [32, 59]).length : Int) ≤ _
    simp only [List.length_append, List.length_cons, List.length_nil]
    omega
  · have := hn1 rfl
    have h7 : (ks.length : Int) ≤ 1 := h4.resolve_left (by decide)
    match ks, h7 with
    | [], _ =>
      rw [showL_nil, sum8_nil]
      show (((if 2 ≤ m % 4 then [112, 117, 98, 32] else []) ++ labR m ++ x.data.toList ++ [] ++ [32, 59]).length : Int) ≤ _
      simp only [List.length_append, List.length_cons, List.length_nil] at *
      omega
    | [t], _ =>
      rw [showL_cons, showL_nil, sum8_cons, sum8_nil]
      show (((if 2 ≤ m % 4 then [112, 117, 98, 32] else []) ++ labR m ++ x.data.toList ++ ([32, 91, 32] ++ showT t ++ [32, 93]) ++ [32, 59]).length : Int) ≤ _
      simp only [List.length_append, List.length_cons, List.length_nil] at *
      omega
  · obtain ⟨l, b, rfl⟩ := split_last ks h3
    have := hn1 rfl
    have hr := zround_len (showL l)
    have hl8 := lab_len (m.tdiv 8)
    have hg : (if 4 ≤ m then [103, 105, 118, 101, 115, 32] ++ labR (m.tdiv 8) else ([] : List UInt8)).length ≤ 11 := by
      split
      · rw [List.length_append]; have e : ([103, 105, 118, 101, 115, 32] : List UInt8).length = 6 := rfl
        omega
      · exact Nat.zero_le _
    have hb1 : showL [b] = [showT b] := by rw [showL_cons, showL_nil]
    have hs := sum8_split (showL l) (showT b)
    rw [showL_app, hb1] at hp ⊢
    rw [hs]
    show (((if 2 ≤ m % 4 then [112, 117, 98, 32] else []) ++ [112, 114, 111, 99, 32] ++ x.data.toList ++ [32] ++ roundR ((showL l ++ [showT b]).take ((showL l ++ [showT b]).length - 1)) ++ [32] ++ labR m ++ (if 4 ≤ m then [103, 105, 118, 101, 115, 32] ++ labR (m.tdiv 8) else []) ++ (showL l ++ [showT b]).getD ((showL l ++ [showT b]).length - 1) []).length : Int) ≤ _
    have e1 : (showL l ++ [showT b]).take ((showL l ++ [showT b]).length - 1) = showL l := by simp
    have e2 : (showL l ++ [showT b]).getD ((showL l ++ [showT b]).length - 1) [] = showT b := by simp
    rw [e1, e2]
    simp only [List.length_append, List.length_cons, List.length_nil] at *
    omega
  · have := hn1 rfl
    show ((labR m ++ x.data.toList).length : Int) ≤ _
    simp only [List.length_append]
    omega
  · have := list_len [32] (by decide) (showL ks)
    show ((if (showL ks).length = 0 then [123, 32, 125] else [123, 32] ++ listR [32] (showL ks) ++ [32, 125]).length : Int) ≤ _
    split
    · have e : ([123, 32, 125] : List UInt8).length = 3 := rfl
      omega
    · simp only [List.length_append, List.length_cons, List.length_nil] at *
      omega
  · obtain ⟨t, rfl⟩ := len1 h3 (h4.resolve_left (by decide))
    have := hn1 rfl
    rw [showL_cons, showL_nil]
    unfold sum8 sum8
    show ((labR m ++ x.data.toList ++ [32, 61, 32] ++ showT t ++ [32, 59]).length : Int) ≤ _
    simp only [List.length_append, List.length_cons, List.length_nil] at *
    omega
  · obtain ⟨t, u, rfl⟩ := len2 h3 (h4.resolve_left (by decide))
    rw [showL_cons, showL_cons, showL_nil]
    unfold sum8 sum8 sum8
    show ((showT t ++ [32, 61, 32] ++ showT u ++ [32, 59]).length : Int) ≤ _
    simp only [List.length_append, List.length_cons, List.length_nil] at *
    omega
  · obtain ⟨t, rfl⟩ := len1 h3 (h4.resolve_left (by decide))
    rw [showL_cons, showL_nil]
    unfold sum8 sum8
    show (([100, 111, 32] ++ showT t ++ [32, 59]).length : Int) ≤ _
    simp only [List.length_append, List.length_cons, List.length_nil] at *
    omega
  · have h6 : (2 : Int) ≤ ks.length := h3
    have h7 : (ks.length : Int) ≤ 3 := h4.resolve_left (by decide)
    match ks, h6, h7 with
    | [t, u], _, _ =>
      rw [showL_cons, showL_cons, showL_nil]
      unfold sum8 sum8 sum8
      show (([105, 102, 32, 40, 32] ++ showT t ++ [32, 41, 32] ++ showT u ++ []).length : Int) ≤ _
      simp only [List.length_append, List.length_cons, List.length_nil] at *
      omega
    | [t, u, v], _, _ =>
      rw [showL_cons, showL_cons, showL_cons, showL_nil]
      unfold sum8 sum8 sum8 sum8
      show (([105, 102, 32, 40, 32] ++ showT t ++ [32, 41, 32] ++ showT u ++ ([32, 101, 108, 115, 101, 32] ++ showT v)).length : Int) ≤ _
      simp only [List.length_append, List.length_cons, List.length_nil] at *
      omega
  · obtain ⟨t, u, rfl⟩ := len2 h3 (h4.resolve_left (by decide))
    rw [showL_cons, showL_cons, showL_nil]
    unfold sum8 sum8 sum8
    show (([119, 104, 105, 108, 101, 32, 40, 32] ++ showT t ++ [32, 41, 32] ++ showT u).length : Int) ≤ _
    simp only [List.length_append, List.length_cons, List.length_nil] at *
    omega
  · obtain ⟨t, rfl⟩ := len1 h3 (h4.resolve_left (by decide))
    rw [showL_cons, showL_nil]
    unfold sum8 sum8
    show (([111, 117, 116, 32] ++ labR m ++ showT t ++ [32, 59]).length : Int) ≤ _
    simp only [List.length_append, List.length_cons, List.length_nil] at *
    omega
  · obtain ⟨t, rfl⟩ := len1 h3 (h4.resolve_left (by decide))
    rw [showL_cons, showL_nil]
    unfold sum8 sum8
    show (([105, 110, 32] ++ labR m ++ showT t ++ [32, 59]).length : Int) ≤ _
    simp only [List.length_append, List.length_cons, List.length_nil] at *
    omega
  · obtain ⟨t, rfl⟩ := len1 h3 (h4.resolve_left (by decide))
    rw [showL_cons, showL_nil]
    unfold sum8 sum8
    show (([114, 101, 116, 117, 114, 110, 32] ++ showT t ++ [32, 59]).length : Int) ≤ _
    simp only [List.length_append, List.length_cons, List.length_nil] at *
    omega
  · have := znum_len (m := m) h1 h2
    show ((numW m).data.toList.length : Int) ≤ _
    omega
  · have := hn2 rfl
    show ((spacedR x).length : Int) ≤ _
    omega
  · obtain ⟨t, rfl⟩ := len1 h3 (h4.resolve_left (by decide))
    have := hn2 rfl
    rw [showL_cons, showL_nil]
    unfold sum8 sum8
    show ((spacedR x ++ [32, 91, 32] ++ showT t ++ [32, 93]).length : Int) ≤ _
    simp only [List.length_append, List.length_cons, List.length_nil] at *
    omega
  · have := hn2 rfl
    have := zround_len (showL ks)
    show ((spacedR x ++ [32] ++ roundR (showL ks)).length : Int) ≤ _
    simp only [List.length_append, List.length_cons, List.length_nil] at *
    omega
  · obtain ⟨t, u, rfl⟩ := len2 h3 (h4.resolve_left (by decide))
    rw [showL_cons, showL_cons, showL_nil]
    unfold sum8 sum8 sum8
    have a1 := at_len t (showT t) (max (levelR m) 1)
    have a2 := at_len u (showT u) (levelR m + 1)
    have a3 := op_len m.toNat
    show ((atR t (showT t) (max (levelR m) 1) ++ [32] ++ (opAt m.toNat).data.toList ++ [32] ++ atR u (showT u) (levelR m + 1)).length : Int) ≤ _
    simp only [List.length_append, List.length_cons, List.length_nil] at *
    omega
  · obtain ⟨t, rfl⟩ := len1 h3 (h4.resolve_left (by decide))
    rw [showL_cons, showL_nil]
    unfold sum8 sum8
    have a1 := at_len t (showT t) 3
    show (([45, 32] ++ atR t (showT t) 3).length : Int) ≤ _
    simp only [List.length_append, List.length_cons, List.length_nil] at *
    omega
  · obtain ⟨t, rfl⟩ := len1 h3 (h4.resolve_left (by decide))
    rw [showL_cons, showL_nil]
    unfold sum8 sum8
    have a1 := at_len t (showT t) 3
    show (([33, 32] ++ atR t (showT t) 3).length : Int) ≤ _
    simp only [List.length_append, List.length_cons, List.length_nil] at *
    omega
mutual
theorem show_len : ∀ t : Tree, isT t = true → ((showT t).length : Int) + 8 ≤ 100 * cntT t
  | .node k x m ks, h => by
    rw [isT_node] at h
    simp only [Bool.and_eq_true] at h
    have h1 := bar_len h.1
    have h2 := showL_sum ks (fun t ht => isL_mem h.2 ht)
    rw [showT_node]
    unfold cntT
    omega
theorem showL_sum : ∀ ks : List Tree, (∀ t ∈ ks, isT t = true) → sum8 (showL ks) ≤ 100 * cntL ks
  | [], _ => by rw [showL_nil]; unfold sum8 cntL; omega
  | t :: r, h => by
    have h1 := show_len t (h t (by simp))
    have h2 := showL_sum r (fun u hu => h u (List.mem_cons_of_mem _ hu))
    rw [showL_cons]
    unfold sum8 cntL
    omega
end
theorem words_len {x : ByteArray} {l : List ByteArray} (h : wordsF x = some l) : l.length ≤ 3 := by
  unfold wordsF at h
  split at h
  · split at h
    · injection h with h; subst h; simp
    · cases h
  · split at h
    · injection h with h; subst h; simp
    · cases h
theorem opn_no (f : Nat) (l : Int) : opnF f l noT = none := by
  cases f <;> rfl
theorem items_len {g : Tree → Option (List ByteArray)} (hg : ∀ t o, g t = some o → (o.length : Int) ≤ 8 * cntT t - 1) : ∀ (ks : List Tree) (a : Nat) (o : List ByteArray), itemsF g a ks = some o → (o.length : Int) ≤ 8 * cntL ks
  | [], a, o, h => by
    unfold itemsF at h
    injection h with h
    subst h
    simp [cntL]
  | t :: r, a, o, h => by
    unfold itemsF at h
    cases h1 : g t with
    | none => rw [h1] at h; cases h
    | some p =>
      rw [h1] at h
      cases h2 : itemsF g (a + 1) r with
      | none => rw [h2] at h; cases h
      | some q =>
        rw [h2] at h
        simp only [Option.bind_some] at h
        injection h with h
        subst h
        have e1 := hg _ _ h1
        have e2 := items_len hg r _ _ h2
        simp only [cntL, List.length_append]
        split <;> simp only [List.length_nil, List.length_cons] <;> push_cast <;> omega
theorem bare_len {f : Nat} (hg : ∀ l t o, opnF f l t = some o → (o.length : Int) ≤ 8 * cntT t - 1) : ∀ (t : Tree) (o : List ByteArray), bareF (opnF f) t = some o → (o.length : Int) ≤ 8 * cntT t - 3
  | .node k x m ks, o, h => by
    have hc : cntT (.node k x m ks) = 1 + cntL ks := by first | rfl | (simp only [cntT]; omega)
    have hp := cntL_pos ks
    have k0 : ∀ l o, opnF f l (ks.getD 0 noT) = some o → (o.length : Int) ≤ 8 * cntL ks - 1 := fun l o e => by
      cases ks with
      | nil => rw [show ([] : List Tree).getD 0 noT = noT from rfl, opn_no] at e; cases e
      | cons t r =>
        have h1 := hg _ _ _ e
        have h2 := cntL_pos r
        simp only [cntL, List.getD_cons_zero] at h1 ⊢
        omega
    have k1 : ∀ l l' o o', opnF f l (ks.getD 0 noT) = some o → opnF f l' (ks.getD 1 noT) = some o' → (o.length : Int) + o'.length ≤ 8 * cntL ks - 2 := fun l l' o o' e e' => by
      match ks, e, e' with
      | [], e, e' => rw [show ([] : List Tree).getD 0 noT = noT from rfl, opn_no] at e; cases e
      | [t], e, e' => rw [show [t].getD 1 noT = noT from rfl, opn_no] at e'; cases e'
      | t :: u :: r, e, e' =>
        have h1 := hg _ _ _ e
        have h2 := hg _ _ _ e'
        have h3 := cntL_pos r
        simp only [cntL, List.getD_cons_zero, List.getD_cons_succ] at h1 h2 ⊢
        omega
    rw [hc]
    simp only [bareF] at h
    split at h
    · injection h with h; subst h; simp; omega
    split at h
    · have := words_len h
      omega
    split at h
    · cases h1 : wordsF x with
      | none => rw [h1] at h; cases h
      | some nm =>
        rw [h1] at h
        simp only [Option.bind_some] at h
        cases h2 : opnF f 0 (ks.getD 0 noT) with
        | none => rw [h2] at h; cases h
        | some e =>
          rw [h2] at h
          simp only [Option.bind_some] at h
          injection h with h
          subst h
          have e1 := words_len h1
          have e2 := k0 _ _ h2
          simp only [List.length_append, List.length_cons, List.length_nil]
          push_cast
          omega
    split at h
    · cases h1 : wordsF x with
      | none => rw [h1] at h; cases h
      | some nm =>
        rw [h1] at h
        simp only [Option.bind_some] at h
        cases h2 : itemsF (opnF f 0) 0 ks with
        | none => rw [h2] at h; cases h
        | some e =>
          rw [h2] at h
          simp only [Option.bind_some] at h
          injection h with h
          subst h
          have e1 := words_len h1
          have e2 := items_len (hg 0) _ _ _ h2
          simp only [List.length_append, List.length_cons, List.length_nil]
          push_cast
          omega
    split at h
    · cases h1 : opnF f (max (opIs m.toNat) 1) (ks.getD 0 noT) with
      | none => rw [h1] at h; cases h
      | some p =>
        rw [h1] at h
        simp only [Option.bind_some] at h
        cases h2 : opnF f (opIs m.toNat + 1) (ks.getD 1 noT) with
        | none => rw [h2] at h; cases h
        | some q =>
          rw [h2] at h
          simp only [Option.bind_some] at h
          injection h with h
          subst h
          have e2 := k1 _ _ _ _ h1 h2
          simp only [List.length_append, List.length_cons, List.length_nil]
          push_cast
          omega
    split at h
    all_goals
      cases h2 : opnF f 3 (ks.getD 0 noT) with
      | none => rw [h2] at h; cases h
      | some e =>
        rw [h2] at h
        simp only [Option.bind_some] at h
        injection h with h
        subst h
        have e2 := k0 _ _ h2
        simp only [List.length_append, List.length_cons, List.length_nil]
        push_cast
        omega
theorem opn_len : ∀ (f : Nat) (l : Int) (t : Tree) (o : List ByteArray), opnF f l t = some o → (o.length : Int) ≤ 8 * cntT t - 1
  | 0, l, t, o, h => by cases h
  | f + 1, l, .node k x m ks, o, h => by
    unfold opnF at h
    split at h
    · split at h
      · have := bare_len (opn_len f) _ _ h
        omega
      · cases h2 : bareF (opnF f) (.node k x m ks) with
        | none => rw [h2] at h; cases h
        | some e =>
          rw [h2] at h
          simp only [Option.bind_some] at h
          injection h with h
          subst h
          have := bare_len (opn_len f) _ _ h2
          simp only [List.length_append, List.length_cons, List.length_nil]
          push_cast
          omega
    · cases h
theorem cnt_n (k : Int) (x : ByteArray) (m : Int) (ks : List Tree) : cntT (.node k x m ks) = cntL ks + 1 := by
  unfold cntT; rfl
theorem cnt0 : ∀ {ks : List Tree}, 0 < ks.length → cntT (ks.getD 0 noT) ≤ cntL ks
  | [], h => by simp at h
  | a :: r, h => by have := cntL_pos r; show cntT a ≤ cntL (a :: r); unfold cntL; omega
theorem cnt01 : ∀ {ks : List Tree}, 1 < ks.length → cntT (ks.getD 0 noT) + cntT (ks.getD 1 noT) ≤ cntL ks
  | [], h => by simp at h
  | a :: r, h => by
    have := cnt0 (ks := r) (by simpa using h)
    show cntT a + cntT (r.getD 0 noT) ≤ cntL (a :: r)
    unfold cntL; omega
theorem cnt012 : ∀ {ks : List Tree}, 2 < ks.length → cntT (ks.getD 0 noT) + cntT (ks.getD 1 noT) + cntT (ks.getD 2 noT) ≤ cntL ks
  | [], h => by simp at h
  | a :: r, h => by
    have := cnt01 (ks := r) (by simp only [List.length_cons] at h; omega)
    show cntT a + cntT (r.getD 0 noT) + cntT (r.getD 1 noT) ≤ cntL (a :: r)
    unfold cntL; omega
/-- what is not there has no words -/
theorem some_lt {g : Tree → Option (List ByteArray)} (hg : g noT = none) {ks : List Tree} {i : Nat} {w : List ByteArray} (h : g (ks.getD i noT) = some w) : i < ks.length := by
  rcases Nat.lt_or_ge i ks.length with h1 | h1
  · exact h1
  · rw [List.getD_eq_getElem?_getD, List.getElem?_eq_none h1, Option.getD_none, hg] at h
    cases h
theorem blk_no {f : Nat} : blockW f noT = none := by cases f <;> rfl
theorem place_no (f : Nat) : placeW f noT = none := rfl
theorem do_no (f : Nat) : doW f noT = none := rfl
theorem place_len {f : Nat} {t : Tree} {w : List ByteArray} (h : placeW f t = some w) : (w.length : Int) ≤ 8 * cntT t - 1 := by
  unfold placeW at h
  by_cases hl : lookB [16, 17] t = true
  · rw [if_pos hl] at h; exact opn_len _ _ _ _ h
  · rw [if_neg hl] at h; cases h
theorem do_len {f : Nat} {t : Tree} {w : List ByteArray} (h : doW f t = some w) : (w.length : Int) ≤ 8 * cntT t - 1 := by
  unfold doW at h
  by_cases hl : lookB [18] t = true
  · rw [if_pos hl] at h; exact opn_len _ _ _ _ h
  · rw [if_neg hl] at h; cases h
theorem round_len {g : Tree → Option (List ByteArray)} (hg : ∀ t o, g t = some o → (o.length : Int) ≤ 8 * cntT t - 1) {ks : List Tree} {w : List ByteArray} (h : roundF g ks = some w) : (w.length : Int) ≤ 8 * cntL ks + 2 := by
  unfold roundF at h
  cases hw : itemsF g 0 ks with
  | none => rw [hw] at h; cases h
  | some e =>
    rw [hw] at h
    obtain rfl := Option.some.inj h
    have := items_len hg ks 0 e hw
    simp only [List.length_append, List.length_cons, List.length_nil]; push_cast; omega
theorem round_len1 {g : Tree → Option (List ByteArray)} (hg : ∀ t o, g t = some o → (o.length : Int) ≤ 8 * cntT t - 1) {ks : List Tree} {w : List ByteArray} (h : roundF g (ks.take 1) = some w) : (w.length : Int) ≤ 8 * cntT (ks.getD 0 noT) + 2 := by
  have h1 := round_len hg h
  cases ks with
  | nil => have := cntT_pos noT; rw [show cntL (([] : List Tree).take 1) = 0 from rfl] at h1; show (w.length : Int) ≤ 8 * cntT noT + 2; omega
  | cons a r =>
    rw [show cntL ((a :: r).take 1) = cntT a + 0 from rfl] at h1
    show (w.length : Int) ≤ 8 * cntT a + 2
    omega
theorem seq_len {g : Tree → Option (List ByteArray)} (hg : ∀ t o, g t = some o → (o.length : Int) ≤ 8 * cntT t) : ∀ (ks : List Tree) (w : List ByteArray), seqF g ks = some w → (w.length : Int) ≤ 8 * cntL ks
  | [], w, h => by obtain rfl := Option.some.inj h; simp [cntL]
  | t :: r, w, h => by
    unfold seqF at h
    cases h1 : g t with
    | none => rw [h1] at h; cases h
    | some a =>
      rw [h1] at h
      cases h2 : seqF g r with
      | none => simp only [Option.bind_some, h2] at h; cases h
      | some b =>
        simp only [Option.bind_some, h2, Option.some.injEq] at h
        subst h
        have e1 := hg t a h1
        have e2 := seq_len hg r b h2
        simp only [cntL, List.length_append]; push_cast; omega
structure SLen (f : Nat) : Prop where
  bk : ∀ t w, blockW f t = some w → (w.length : Int) ≤ 8 * cntT t
  st : ∀ t w, statW f t = some w → (w.length : Int) ≤ 8 * cntT t
theorem s_len : ∀ f, SLen f
  | 0 => ⟨fun _ _ h => by simp [blockW] at h, fun _ _ h => by simp [statW] at h⟩
  | f + 1 => by
    have ih := s_len f
    have io : ∀ t a, opnF f 0 t = some a → (a.length : Int) ≤ 8 * cntT t - 1 := fun t a h => opn_len f 0 t a h
    refine ⟨fun t w h => ?_, fun t w h => ?_⟩
    · obtain ⟨k, x, m, ks⟩ := t
      unfold blockW at h
      by_cases hl : lookB [6] (.node k x m ks) = true
      · rw [if_pos hl] at h
        cases hb : seqF (statW f) ks with
        | none => rw [hb] at h; cases h
        | some b =>
          rw [hb] at h
          obtain rfl := Option.some.inj h
          have e1 := seq_len ih.st ks b hb
          rw [cnt_n]
          simp only [List.length_append, List.length_cons, List.length_nil]; push_cast; omega
      · rw [if_neg hl] at h; cases h
    · obtain ⟨k, x, m, ks⟩ := t
      unfold statW at h
      by_cases hl : lookB statKinds (.node k x m ks) = true
      · rw [if_pos hl] at h
        by_cases h10 : k = 10
        · rw [if_pos h10] at h
          cases hc : roundF (opnF f 0) (ks.take 1) with
          | none => rw [hc] at h; cases h
          | some c =>
            rw [hc] at h
            cases hb : blockW f (ks.getD 1 noT) with
            | none => simp only [Option.bind_some, hb] at h; cases h
            | some b =>
              simp only [Option.bind_some, hb] at h
              have e1 := round_len1 io hc
              have e2 := ih.bk _ _ hb
              have e3 := some_lt blk_no hb
              have e4 := cnt01 e3
              by_cases h2 : 2 < ks.length
              · rw [if_pos h2] at h
                cases hd : blockW f (ks.getD 2 noT) with
                | none => rw [hd] at h; cases h
                | some d =>
                  rw [hd] at h
                  obtain rfl := Option.some.inj h
                  have e5 := ih.bk _ _ hd
                  have e6 := cnt012 h2
                  rw [cnt_n]
                  simp only [List.length_append, List.length_cons, List.length_nil]; push_cast; omega
              · rw [if_neg h2] at h
                obtain rfl := Option.some.inj h
                rw [cnt_n]
                simp only [List.length_append, List.length_cons, List.length_nil]; push_cast; omega
        rw [if_neg h10] at h
        by_cases h11 : k = 11
        · rw [if_pos h11] at h
          cases hc : roundF (opnF f 0) (ks.take 1) with
          | none => rw [hc] at h; cases h
          | some c =>
            rw [hc] at h
            cases hb : blockW f (ks.getD 1 noT) with
            | none => simp only [Option.bind_some, hb] at h; cases h
            | some b =>
              simp only [Option.bind_some, hb, Option.some.injEq] at h
              subst h
              have e1 := round_len1 io hc
              have e2 := ih.bk _ _ hb
              have e3 := some_lt blk_no hb
              have e4 := cnt01 e3
              rw [cnt_n]
              simp only [List.length_append, List.length_cons, List.length_nil]; push_cast; omega
        rw [if_neg h11] at h
        by_cases h7 : k = 7
        · rw [if_pos h7] at h
          subst h7
          cases hc : opnF f 0 (ks.getD 0 noT) with
          | none => rw [hc] at h; cases h
          | some c =>
            rw [hc] at h
            obtain rfl := Option.some.inj h
            have e1 := io _ _ hc
            have e3 := some_lt (opn_no f 0) hc
            have e4 := cnt0 e3
            rw [cnt_n]
            simp only [List.length_append, List.length_cons, List.length_nil]; push_cast; omega
        rw [if_neg h7] at h
        by_cases h8 : k = 8
        · rw [if_pos h8] at h
          cases hp : placeW f (ks.getD 0 noT) with
          | none => rw [hp] at h; cases h
          | some p =>
            rw [hp] at h
            cases hc : opnF f 0 (ks.getD 1 noT) with
            | none => simp only [Option.bind_some, hc] at h; cases h
            | some c =>
              simp only [Option.bind_some, hc, Option.some.injEq] at h
              subst h
              have e1 := place_len hp
              have e2 := io _ _ hc
              have e3 := some_lt (opn_no f 0) hc
              have e4 := cnt01 e3
              rw [cnt_n]
              simp only [List.length_append, List.length_cons, List.length_nil]; push_cast; omega
        rw [if_neg h8] at h
        by_cases h9 : k = 9
        · rw [if_pos h9] at h
          cases hc : doW f (ks.getD 0 noT) with
          | none => rw [hc] at h; cases h
          | some c =>
            rw [hc] at h
            obtain rfl := Option.some.inj h
            have e1 := do_len hc
            have e3 := some_lt (do_no f) hc
            have e4 := cnt0 e3
            rw [cnt_n]
            simp only [List.length_append, List.length_cons, List.length_nil]; push_cast; omega
        rw [if_neg h9] at h
        by_cases h12 : k = 12
        · rw [if_pos h12] at h
          cases hc : opnF f 0 (ks.getD 0 noT) with
          | none => rw [hc] at h; cases h
          | some c =>
            rw [hc] at h
            obtain rfl := Option.some.inj h
            have e1 := io _ _ hc
            have e3 := some_lt (opn_no f 0) hc
            have e4 := cnt0 e3
            rw [cnt_n]
            simp only [List.length_append, List.length_cons, List.length_nil]; push_cast; omega
        rw [if_neg h12] at h
        by_cases h13 : k = 13
        · rw [if_pos h13] at h
          cases hc : placeW f (ks.getD 0 noT) with
          | none => rw [hc] at h; cases h
          | some c =>
            rw [hc] at h
            obtain rfl := Option.some.inj h
            have e1 := place_len hc
            have e3 := some_lt (place_no f) hc
            have e4 := cnt0 e3
            rw [cnt_n]
            simp only [List.length_append, List.length_cons, List.length_nil]; push_cast; omega
        rw [if_neg h13] at h
        cases hc : opnF f 0 (ks.getD 0 noT) with
        | none => rw [hc] at h; cases h
        | some c =>
          rw [hc] at h
          obtain rfl := Option.some.inj h
          have e1 := io _ _ hc
          have e3 := some_lt (opn_no f 0) hc
          have e4 := cnt0 e3
          rw [cnt_n]
          simp only [List.length_append, List.length_cons, List.length_nil]; push_cast; omega
      · rw [if_neg hl] at h; cases h
end pr
end Go.Proofs.YtkoomoemkffjkaaGreatDoor
