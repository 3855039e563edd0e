/- What the program's list writes of parameters: a contract. -/
import Derived.Test.YtkoomoemkffjkaaGreatDoorNP16
import Derived.Test.YtkoomoemkffjkaaGreatDoorNP06
set_option linter.unusedVariables false
set_option linter.unusedSimpArgs false
set_option maxRecDepth 100000
namespace Go.Proofs.YtkoomoemkffjkaaGreatDoor
namespace pr
open Go.RowKit Go.Shelf
open Go.Proofs.YtkoomoemkffjkaaGreatDoor.syn Go.Proofs.YtkoomoemkffjkaaGreatDoor.face Go.Proofs.YtkoomoemkffjkaaGreatDoor.chk
open Go.Proofs.YtkoomoemkffjkaaGreatDoor.lexs (HasErr)
/-- what bare makes of an expression's node -/
def WriB (w0 : World) (r f : Nat) : Prop :=
  ∀ (t : Tree) (nv : Value), Lies (· < r) w0 t nv → okN (f + 1) t → lookB exprKinds t = true → ∀ (w : World) (v : Value) (ws : List ByteArray), Below r w0 w → WR w r v ws → ws.length + 10 * cntT t ≤ 800002 → Calls Tryz.prog 227 #[.pointer (some ⟨r, 0, none⟩), nv] w (WO r w v ws (bareF (opnF f) t))
section
variable {w0 : World} {r f : Nat}
theorem ints_seven (w : World) : IntsIn (w.alloc (.cells #[.int .i64 15, .int .i64 16, .int .i64 17, .int .i64 18, .int .i64 19, .int .i64 20, .int .i64 21] 3)) (.slice (some ⟨w.heap.size, 0, none⟩) 7 7) exprKinds := by
  have := ints_at w exprKinds (by decide)
  simpa [exprKinds] using this
set_option maxHeartbeats 4000000 in
theorem oOperand (hr : w0.heap.size = r) (hP : PH w0) (hBare : WriB w0 r f) (h8 : ∀ t l, bareF (opnF f) t = some l → (l.length : Int) ≤ 8 * cntT t) : WriO w0 r (opnF (f + 1)) (okN (f + 1)) := by
  intro least t nv hl hq w v ws hB hW hn
  have c24 : Tryz.prog.cellsOf 24 = 4 := by kernel_rfl
  obtain ⟨k, x, m, ks⟩ := t
  have hl' := hl
  unfold Lies at hl'
  obtain ⟨a, c, rfl, ⟨hk1, hk2⟩, _⟩ := hl'
  have hrl := hW.lt
  have hA := (Below.refl w.heap.size w).alloc (Nat.le_refl _) (.cells #[.int .i64 k, .string x, .int .i64 m, .slice a ks.length c] 24)
  have hA2 := hA.alloc (by simp) (.cells #[.int .i64 15, .int .i64 16, .int .i64 17, .int .i64 18, .int .i64 19, .int .i64 20, .int .i64 21] 3)
  have hPw := hP.below (hr ▸ hB)
  have hP2 := hPw.below hA2
  have hI := ints_seven (w.alloc (.cells #[.int .i64 k, .string x, .int .i64 m, .slice a ks.length c] 24))
  rw [World.size_alloc] at hI
  have bN := (BoxC.new w #[.int .i64 k, .string x, .int .i64 m, .slice a ks.length c] 24).alloc (.cells #[.int .i64 15, .int .i64 16, .int .i64 17, .int .i64 18, .int .i64 19, .int .i64 20, .int .i64 21] 3)
  have hL := oLook exprKinds _ k m x a ks.length c _ hP2.sh hP2.err hP2.mx hq.1 hk1 hI (by decide) (fun i hi => by simp [exprKinds] at hi; omega)
  have HO : Hid (opnF (f + 1) least (.node k x m ks) = if lookB exprKinds (.node k x m ks) then (if least ≤ bindsF k m then bareF (opnF f) (.node k x m ks) else (bareF (opnF f) (.node k x m ks)).bind fun e => some ([⟨#[40]⟩] ++ e ++ [⟨#[41]⟩])) else none) := rfl
  have HE : Hid (lookB exprKinds (.node k x m ks) = lookK exprKinds k x m ks.length) := rfl
  cases hlk : lookK exprKinds k x m ks.length with
  | false =>
    rw [hlk] at hL
    have HN : Hid (opnF (f + 1) least (.node k x m ks) = none) := by show _ = _; rw [HO.out, HE.out, hlk]; rfl
    clear hI hP2 hlk hPw
    go_enter Tryz.func203, Tryz.ntmps203
    go_wp2_with (go_at_call 62; refine hL.mono ?_; rintro e w3 ⟨hb3, rfl⟩)
    refine ⟨rfl, ?_⟩
    rw [HN.out]
    exact ⟨rfl, (hA2.mono (Nat.le_of_lt hrl)).trans (hb3.mono (by have := hA2.size; omega))⟩
  | true =>
    rw [hlk] at hL
    have hm19 : k = 19 → 1 ≤ m ∧ m ≤ 9 := fun e => by
      subst e
      unfold lookK at hlk
      simp only [Bool.and_eq_true, decide_eq_true_eq] at hlk
      exact ⟨hlk.1.1.1.1.2, hlk.1.1.1.2⟩
    have hlb : lookB exprKinds (.node k x m ks) = true := HE.out.trans hlk
    have HBd : Hid (∀ W, PH W → Calls Tryz.prog 226 #[.agg #[.int .i64 k, .string x, .int .i64 m, .slice a ks.length c]] W fun e w' => e = .returned (.int .i64 (bindsF k m)) ∧ Below W.heap.size W w') := fun W hW => oBinds k m x a ks.length c W hW.ops hm19
    have HNW : Hid (w.heap.size ≠ r ∧ v.ownBlock ≠ some w.heap.size) := ⟨by omega, fun e => by have := (hW.row.lt _ e).2; omega⟩
    have HBa : Hid (∀ (W : World) (V : Value) (WS : List ByteArray), Below r w0 W → WR W r V WS → WS.length ≤ ws.length + 2 → Calls Tryz.prog 227 #[.pointer (some ⟨r, 0, none⟩), .agg #[.int .i64 k, .string x, .int .i64 m, .slice a ks.length c]] W (WO r W V WS (bareF (opnF f) (.node k x m ks)))) := fun W V WS h1 h2 h3 => hBare _ _ hl hq hlb W V WS h1 h2 (by omega)
    have HO2 : Hid (opnF (f + 1) least (.node k x m ks) = if least ≤ bindsF k m then bareF (opnF f) (.node k x m ks) else (bareF (opnF f) (.node k x m ks)).bind fun e => some ([⟨#[40]⟩] ++ e ++ [⟨#[41]⟩])) := by show _ = _; rw [HO.out, if_pos hlb]
    have hcp := cntT_pos (.node k x m ks)
    have hbl : Hid (∀ l, bareF (opnF f) (.node k x m ks) = some l → (l.length : Int) ≤ 8 * cntT (.node k x m ks)) := fun l e => h8 _ l e
    clear hI hP2 hlk hlb hm19 hBare HO HE h8 hP hl hq hk1 hk2
    generalize bindsF k m = bd at *
    generalize hob : bareF (opnF f) (.node k x m ks) = ob at *
    generalize opnF (f + 1) least (.node k x m ks) = OO at *
    clear hob
    by_cases hle : least ≤ bd
    · rw [if_pos hle] at HO2
      obtain rfl := HO2.out
      cases OO with
      | none =>
        go_enter Tryz.func203, Tryz.ntmps203
        go_wp2_with first
          | (go_at_call 62; refine hL.mono ?_; rintro e w3 ⟨hb3, rfl⟩; have hb4 := hA2.trans (hb3.mono hA2.size); have bN3 := bN.below hb3; have z0 := bN3.cell 0 rfl; have z1 := bN3.cell 1 rfl; have z2 := bN3.cell 2 rfl; have z3 := bN3.cell 3 rfl)
          | (go_at_call 226; refine (HBd.out w3 (hPw.below hb4)).mono ?_; rintro e w5 ⟨rfl, hb5⟩; have hb6 := hb4.trans (hb5.mono hb4.size); have bN5 := bN3.below hb5; have y0 := bN5.cell 0 rfl; have y1 := bN5.cell 1 rfl; have y2 := bN5.cell 2 rfl; have y3 := bN5.cell 3 rfl)
          | (go_at_call 227; refine (HBa.out w5 v ws (hB.trans (hb6.mono (Nat.le_of_lt hrl))) (hW.below hb6) (by omega)).mono ?_; rintro e w8 ⟨rfl, hb8⟩)
        exact ⟨rfl, rfl, (hb6.mono (Nat.le_of_lt hrl)).trans hb8⟩
      | some l =>
        go_enter Tryz.func203, Tryz.ntmps203
        go_wp2_with first
          | (go_at_call 62; refine hL.mono ?_; rintro e w3 ⟨hb3, rfl⟩; have hb4 := hA2.trans (hb3.mono hA2.size); have bN3 := bN.below hb3; have z0 := bN3.cell 0 rfl; have z1 := bN3.cell 1 rfl; have z2 := bN3.cell 2 rfl; have z3 := bN3.cell 3 rfl)
          | (go_at_call 226; refine (HBd.out w3 (hPw.below hb4)).mono ?_; rintro e w5 ⟨rfl, hb5⟩; have hb6 := hb4.trans (hb5.mono hb4.size); have bN5 := bN3.below hb5; have y0 := bN5.cell 0 rfl; have y1 := bN5.cell 1 rfl; have y2 := bN5.cell 2 rfl; have y3 := bN5.cell 3 rfl)
          | (go_at_call 227; refine (HBa.out w5 v ws (hB.trans (hb6.mono (Nat.le_of_lt hrl))) (hW.below hb6) (by omega)).mono ?_; rintro e w8 ⟨rfl, v8, hW8, hF8, hB8⟩)
        go_end0
        exact ⟨rfl, v8, hW8, (FrU.below hb6 r v).trans hF8, (hb6.mono (Nat.le_of_lt hrl)).trans hB8⟩
    · rw [if_neg hle] at HO2
      obtain rfl := HO2.out
      cases ob with
      | none =>
        go_enter Tryz.func203, Tryz.ntmps203
        go_wp2_with first
          | (go_at_call 62; refine hL.mono ?_; rintro e w3 ⟨hb3, rfl⟩; have hb4 := hA2.trans (hb3.mono hA2.size); have bN3 := bN.below hb3; have z0 := bN3.cell 0 rfl; have z1 := bN3.cell 1 rfl; have z2 := bN3.cell 2 rfl; have z3 := bN3.cell 3 rfl)
          | (go_at_call 226; refine (HBd.out w3 (hPw.below hb4)).mono ?_; rintro e w5 ⟨rfl, hb5⟩; have hb6 := hb4.trans (hb5.mono hb4.size); have bN5 := bN3.below hb5; have y0 := bN5.cell 0 rfl; have y1 := bN5.cell 1 rfl; have y2 := bN5.cell 2 rfl; have y3 := bN5.cell 3 rfl)
          | (go_at_call 63; refine (oPut1 (hW.below hb6) ⟨#[40]⟩ (by omega)).mono ?_; rintro e w7 ⟨rfl, v7, hW7, hF7, hB7⟩; have bN7 := bN5.fr hF7 HNW.out.1 HNW.out.2; have x0 := bN7.cell 0 rfl; have x1' := bN7.cell 1 rfl; have x2 := bN7.cell 2 rfl; have x3 := bN7.cell 3 rfl; have hB8 := (hB.trans (hb6.mono (Nat.le_of_lt hrl))).trans hB7)
          | (go_at_call 227; refine (HBa.out w7 v7 _ hB8 hW7 (by simp)).mono ?_; rintro e w9 ⟨rfl, hb9⟩)
        exact ⟨rfl, rfl, ((hb6.mono (Nat.le_of_lt hrl)).trans hB7).trans hb9⟩
      | some l =>
        have hl8 := hbl.out l rfl
        go_enter Tryz.func203, Tryz.ntmps203
        go_wp2_with first
          | (go_at_call 62; refine hL.mono ?_; rintro e w3 ⟨hb3, rfl⟩; have hb4 := hA2.trans (hb3.mono hA2.size); have bN3 := bN.below hb3; have z0 := bN3.cell 0 rfl; have z1 := bN3.cell 1 rfl; have z2 := bN3.cell 2 rfl; have z3 := bN3.cell 3 rfl)
          | (go_at_call 226; refine (HBd.out w3 (hPw.below hb4)).mono ?_; rintro e w5 ⟨rfl, hb5⟩; have hb6 := hb4.trans (hb5.mono hb4.size); have bN5 := bN3.below hb5; have y0 := bN5.cell 0 rfl; have y1 := bN5.cell 1 rfl; have y2 := bN5.cell 2 rfl; have y3 := bN5.cell 3 rfl)
          | (go_at_call 63; refine (oPut1 hW9 ⟨#[41]⟩ (by simp only [List.length_append, List.length_cons, List.length_nil]; omega)).mono ?_; rintro e w10 ⟨rfl, v10, hW10, hF10, hB10⟩)
          | (go_at_call 63; refine (oPut1 (hW.below hb6) ⟨#[40]⟩ (by omega)).mono ?_; rintro e w7 ⟨rfl, v7, hW7, hF7, hB7⟩; have bN7 := bN5.fr hF7 HNW.out.1 HNW.out.2; have x0 := bN7.cell 0 rfl; have x1' := bN7.cell 1 rfl; have x2 := bN7.cell 2 rfl; have x3 := bN7.cell 3 rfl; have hB8 := (hB.trans (hb6.mono (Nat.le_of_lt hrl))).trans hB7)
          | (go_at_call 227; refine (HBa.out w7 v7 _ hB8 hW7 (by simp)).mono ?_; rintro e w9 ⟨rfl, v9, hW9, hF9, hB9⟩)
        go_end0
        exact ⟨rfl, v10, by simpa [List.append_assoc] using hW10, ((FrU.below hb6 r v).trans hF7).trans (hF9.trans hF10), (((hb6.mono (Nat.le_of_lt hrl)).trans hB7).trans hB9).trans hB10⟩
end
end pr
namespace pr
open Go.RowKit Go.Shelf
open Go.Proofs.YtkoomoemkffjkaaGreatDoor.syn Go.Proofs.YtkoomoemkffjkaaGreatDoor.face Go.Proofs.YtkoomoemkffjkaaGreatDoor.chk
section
variable {w0 : World} {r f : Nat}
set_option maxHeartbeats 4000000 in
theorem oOp (hr : w0.heap.size = r) (hP : PH w0) (hO : WriO w0 r (opnF f) (okN f)) (x : ByteArray) (mn : Nat) (t0 t1 : Tree) (nv : Value) (hl : Lies (· < r) w0 (.node 19 x mn [t0, t1]) nv) (hm : 1 ≤ mn ∧ mn ≤ 9) (h0 : okN f t0) (h1 : okN f t1)
    (w : World) (v : Value) (ws : List ByteArray) (hB : Below r w0 w) (hW : WR w r v ws) (hn : ws.length + 10 * (cntT t0 + cntT t1 + 1) ≤ 800002) :
    Calls Tryz.prog 236 #[.pointer (some ⟨r, 0, none⟩), nv] w (WO r w v ws ((opnF f (max (opIs mn) 1) t0).bind fun a => (opnF f (opIs mn + 1) t1).bind fun b => some (a ++ [syn.opAt mn] ++ b))) := by
  have c24 : Tryz.prog.cellsOf 24 = 4 := by kernel_rfl
  have c2 : Tryz.prog.cellsOf 251 = 2 := by kernel_rfl
  have hrl := hW.lt
  have p0 := cntT_pos t0
  have p1 := cntT_pos t1
  unfold Lies at hl
  obtain ⟨a, c, rfl, hk, hat⟩ := hl
  obtain ⟨g, o, rfl, hg, hat⟩ := hat (by simp)
  obtain ⟨n0, ⟨a0, a1, a2, a3, rfl, q0, q1, q2, q3⟩, l0⟩ := hat.get 0 (by simp)
  obtain ⟨n1, ⟨b0, b1, b2, b3, rfl, s0, s1, s2, s3⟩, l1⟩ := hat.get 1 (by simp)
  simp only [List.getElem_cons_zero, List.getElem_cons_succ, Nat.zero_mul, Nat.one_mul, Nat.add_zero] at l0 l1 q0 q1 q2 q3 s0 s1 s2 s3
  have hk0 : ∀ W, Below r w0 W → W.cell? ⟨g, o, none⟩ = some a0 ∧ W.cell? ⟨g, o + 1, none⟩ = some a1 ∧ W.cell? ⟨g, o + 2, none⟩ = some a2 ∧ W.cell? ⟨g, o + 3, none⟩ = some a3 ∧ W.cell? ⟨g, o + 4, none⟩ = some b0 ∧ W.cell? ⟨g, o + 4 + 1, none⟩ = some b1 ∧ W.cell? ⟨g, o + 4 + 2, none⟩ = some b2 ∧ W.cell? ⟨g, o + 4 + 3, none⟩ = some b3 := fun W hb => by
    have e : ∀ i u, w0.cell? ⟨g, i, none⟩ = some u → W.cell? ⟨g, i, none⟩ = some u := fun i u h => by rw [hb.cell (p := ⟨g, i, none⟩) hg]; exact h
    exact ⟨e _ _ q0, e _ _ q1, e _ _ q2, e _ _ q3, e _ _ s0, e _ _ s1, e _ _ s2, e _ _ s3⟩
  have hA := (Below.refl w.heap.size w).alloc (Nat.le_refl _) (.cells #[.int .i64 19, .string x, .int .i64 mn, .slice (some ⟨g, o, none⟩) 2 c] 24)
  have hA2 := hA.alloc (by simp) (.cells #[.string (syn.opAt mn), .int .i64 (opIs mn)] 251)
  have hPw := hP.below (hr ▸ hB)
  have qo : (w.alloc (.cells #[.int .i64 19, .string x, .int .i64 mn, .slice (some ⟨g, o, none⟩) 2 c] 24)).cell? ⟨5, mn * 2, none⟩ = some (.string (syn.opAt mn)) ∧ (w.alloc (.cells #[.int .i64 19, .string x, .int .i64 mn, .slice (some ⟨g, o, none⟩) 2 c] 24)).cell? ⟨5, mn * 2 + 1, none⟩ = some (.int .i64 (opIs mn)) := by
    obtain ⟨cs, t, fr, h1, h2, h3⟩ := hasOps_below hPw.ops hA
    have := h3 mn (by omega)
    exact ⟨by simp [World.cell?, h1, this.1], by simp [World.cell?, h1, this.2]⟩
  obtain ⟨qo1, qo2⟩ := qo
  obtain ⟨e0, e1, e2, e3, d0, d1, d2, d3⟩ := hk0 _ (hB.trans (hA2.mono (Nat.le_of_lt hrl)))
  obtain ⟨ka, xa, ma, aa, na, ca, ea⟩ := lies_shape l0
  obtain ⟨kb, xb, mb, ab, nb, cb, eb⟩ := lies_shape l1
  injection ea with ea
  injection eb with eb
  simp only [Array.mk.injEq, List.cons.injEq, and_true] at ea eb
  obtain ⟨rfl, rfl, rfl, rfl⟩ := ea
  obtain ⟨rfl, rfl, rfl, rfl⟩ := eb
  have hC := hO (max (opIs mn) 1) t0 _ l0 h0 _ v ws (hB.trans (hA2.mono (Nat.le_of_lt hrl))) (hW.below hA2) (by omega)
  clear hat hP q0 q1 q2 q3 s0 s1 s2 s3
  cases hg0 : opnF f (max (opIs mn) 1) t0 with
  | none =>
    rw [hg0] at hC
    generalize opIs mn = z at *
    generalize syn.opAt mn = y at *
    go_enter Tryz.func236, Tryz.ntmps236
    go_wp2_with (go_at_call 203; refine hC.mono ?_; rintro e w5 ⟨rfl, hb5⟩)
    exact ⟨rfl, rfl, (hA2.mono (Nat.le_of_lt hrl)).trans hb5⟩
  | some la =>
    rw [hg0] at hC
    have hla := opn_len f _ _ _ hg0
    have HC1 : Hid (∀ (W : World) (V : Value) (WS : List ByteArray), Below r w0 W → WR W r V WS → (WS.length : Int) ≤ ws.length + la.length + 1 → Calls Tryz.prog 203 #[.pointer (some ⟨r, 0, none⟩), .agg #[.int .i64 kb, .string xb, .int .i64 mb, .slice ab nb cb], .int .i64 (opIs mn + 1)] W (WO r W V WS (opnF f (opIs mn + 1) t1))) := fun W V WS g1 g2 g3 => hO _ t1 _ l1 h1 W V WS g1 g2 (by omega)
    have hz1 : 0 ≤ opIs mn ∧ opIs mn ≤ 2 := by
      have : mn = 1 ∨ mn = 2 ∨ mn = 3 ∨ mn = 4 ∨ mn = 5 ∨ mn = 6 ∨ mn = 7 ∨ mn = 8 ∨ mn = 9 := by omega
      rcases this with rfl | rfl | rfl | rfl | rfl | rfl | rfl | rfl | rfl <;> decide
    have HNW : Hid ((w.heap.size ≠ r ∧ v.ownBlock ≠ some w.heap.size) ∧ (w.heap.size + 1 ≠ r ∧ v.ownBlock ≠ some (w.heap.size + 1))) := ⟨⟨by omega, fun e => by have := (hW.row.lt _ e).2; omega⟩, ⟨by omega, fun e => by have := (hW.row.lt _ e).2; omega⟩⟩
    have bN := (BoxC.new w #[.int .i64 19, .string x, .int .i64 mn, .slice (some ⟨g, o, none⟩) 2 c] 24).alloc (.cells #[.string (syn.opAt mn), .int .i64 (opIs mn)] 251)
    have bM := BoxC.new (w.alloc (.cells #[.int .i64 19, .string x, .int .i64 mn, .slice (some ⟨g, o, none⟩) 2 c] 24)) #[.string (syn.opAt mn), .int .i64 (opIs mn)] 251
    rw [World.size_alloc] at bM
    have HK := show Hid _ from hk0
    have hB2 := hB.trans (hA2.mono (Nat.le_of_lt hrl))
    have hs2 : ((w.alloc (.cells #[.int .i64 19, .string x, .int .i64 mn, .slice (some ⟨g, o, none⟩) 2 c] 24)).alloc (.cells #[.string (syn.opAt mn), .int .i64 (opIs mn)] 251)).heap.size = w.heap.size + 2 := by simp
    have HS2 := show Hid _ from hs2
    clear hs2 hk0 l0 l1 h0 h1 hO hg0 hPw
    generalize hob : opnF f (opIs mn + 1) t1 = ob at *
    clear hob
    generalize opIs mn = z at *
    generalize syn.opAt mn = y at *
    go_enter Tryz.func236, Tryz.ntmps236
    go_wp2_with first
      | (go_at_call 63; refine (oPut1 hW5 y (by rw [List.length_append]; omega)).mono ?_; rintro e w7 ⟨rfl, v7, hW7, hF7, hB7⟩)
      | (go_at_call 203; refine hC.mono ?_; rintro e w5 ⟨rfl, v5, hW5, hF5, hB5⟩; have bN5 := bN.fr hF5 HNW.out.1.1 HNW.out.1.2; have bM5 := bM.fr hF5 HNW.out.2.1 HNW.out.2.2; have i0 := bM5.cell 0 rfl)
    have hv5 : ∀ b, b < w.heap.size + 2 → v.ownBlock ≠ some b → v5.ownBlock ≠ some b := fun b h1 h2 e => by
      rcases hF5.own b e with h | h
      · exact h2 h
      · have := HS2.out; omega
    have HV7 : Hid (v7.ownBlock ≠ some w.heap.size ∧ v7.ownBlock ≠ some (w.heap.size + 1)) := by
      have hs5 : w.heap.size + 2 ≤ w5.heap.size := by have := hF5.size; have := HS2.out; omega
      exact ⟨fun e => (hF7.own _ e).elim (hv5 _ (by omega) HNW.out.1.2) (fun h => by omega), fun e => (hF7.own _ e).elim (hv5 _ (by omega) HNW.out.2.2) (fun h => by omega)⟩
    have hwz : IntKind.i64.wrap (z + 1) = z + 1 := by rw [IntKind.wrap_i64]; omega
    have hw78 : w.heap.size + 2 ≤ w7.heap.size := by have := hF7.size; have := hF5.size; have := HS2.out; omega
    have bN7 := (bN5.fr hF7 HNW.out.1.1 (hv5 _ (by omega) HNW.out.1.2)).below (Below.refl _ _).drew
    have bM7 := (bM5.fr hF7 HNW.out.2.1 (hv5 _ (by omega) HNW.out.2.2)).below (Below.refl _ _).drew
    have hB8 := ((hB2.trans hB5).trans hB7).drew
    have hW8 := hW7.below (Below.refl _ _).drew
    have hFF := ((FrU.below hA2 r v).trans hF5).trans hF7
    have hBB := ((hA2.mono (Nat.le_of_lt hrl)).trans hB5).trans hB7
    obtain ⟨-, -, -, -, j0, j1, j2, j3⟩ := HK.out _ hB8
    have hS : w7.drew.cell? ⟨w.heap.size, 3, none⟩ = some (.slice (some ⟨g, o, none⟩) 2 c) ∧ w7.drew.cell? ⟨w.heap.size + 1, 1, none⟩ = some (.int .i64 z) ∧ w7.drew.cell? ⟨g, o + 4, none⟩ = some (.int .i64 kb) ∧ w7.drew.cell? ⟨g, o + 4 + 1, none⟩ = some (.string xb) ∧ w7.drew.cell? ⟨g, o + 4 + 2, none⟩ = some (.int .i64 mb) ∧ w7.drew.cell? ⟨g, o + 4 + 3, none⟩ = some (.slice ab nb cb) := ⟨bN7.cell 3 rfl, bM7.cell 1 rfl, j0, j1, j2, j3⟩
    refine wp_region_held_drew (S := fun W => W.cell? ⟨w.heap.size, 3, none⟩ = some (.slice (some ⟨g, o, none⟩) 2 c) ∧ W.cell? ⟨w.heap.size + 1, 1, none⟩ = some (.int .i64 z) ∧ W.cell? ⟨g, o + 4, none⟩ = some (.int .i64 kb) ∧ W.cell? ⟨g, o + 4 + 1, none⟩ = some (.string xb) ∧ W.cell? ⟨g, o + 4 + 2, none⟩ = some (.int .i64 mb) ∧ W.cell? ⟨g, o + 4 + 3, none⟩ = some (.slice ab nb cb)) (by kernel_rfl) hS (fun hHeld => ?_)
    clear hHeld bN7 bM7 bN5 bM5 bN bM i0 j0 j1 j2 j3 e0 e1 e2 e3 d0 d1 d2 d3 qo1 qo2 hC hv5
    have hD7 : Below w7.heap.size w7 w7.drew := (Below.refl _ _).drew
    generalize w7.drew = W at *
    refine ord.tkd (i := 0) (v := .pointer (some ⟨r, 0, none⟩)) rfl rfl (by kernel_rfl) (by kernel_rfl) (by kernel_rfl) (fun _ _ _ h => h) (Or.inl ⟨by rfl, fun w hSw => by obtain ⟨z0, z1, z2, z3, z4, z5⟩ := hSw; go_simp⟩) hS ?_
    simp only [List.setIfInBounds_toArray, List.set_cons_zero, List.set_cons_succ]
    refine ord.tkd (i := 1) (v := .pointer (some ⟨w.heap.size, 3, none⟩)) rfl rfl (by kernel_rfl) (by kernel_rfl) (by kernel_rfl) (fun _ _ _ h => h) (Or.inl ⟨by rfl, fun w hSw => by obtain ⟨z0, z1, z2, z3, z4, z5⟩ := hSw; go_simp⟩) hS ?_
    simp only [List.setIfInBounds_toArray, List.set_cons_zero, List.set_cons_succ]
    refine ord.tkd (i := 2) (v := .slice (some ⟨g, o, none⟩) 2 c) rfl rfl (by kernel_rfl) (by kernel_rfl) (by kernel_rfl) (fun _ _ _ h => h) (Or.inl ⟨by rfl, fun w hSw => by obtain ⟨z0, z1, z2, z3, z4, z5⟩ := hSw; go_simp⟩) hS ?_
    simp only [List.setIfInBounds_toArray, List.set_cons_zero, List.set_cons_succ]
    refine ord.tkd (i := 3) (v := .pointer (some ⟨g, o + 4, none⟩)) rfl rfl (by kernel_rfl) (by kernel_rfl) (by kernel_rfl) (fun _ _ _ h => h) (Or.inl ⟨by rfl, fun w hSw => by obtain ⟨z0, z1, z2, z3, z4, z5⟩ := hSw; go_simp⟩) hS ?_
    simp only [List.setIfInBounds_toArray, List.set_cons_zero, List.set_cons_succ]
    refine ord.tkd (i := 4) (v := .agg #[.int .i64 kb, .string xb, .int .i64 mb, .slice ab nb cb] ) rfl rfl (by kernel_rfl) (by kernel_rfl) (by kernel_rfl) (fun _ _ _ h => h) (Or.inl ⟨by rfl, fun w hSw => by obtain ⟨z0, z1, z2, z3, z4, z5⟩ := hSw; go_simp⟩) hS ?_
    simp only [List.setIfInBounds_toArray, List.set_cons_zero, List.set_cons_succ]
    refine ord.tkd (i := 5) (v := .pointer (some ⟨w.heap.size + 1, 1, none⟩)) rfl rfl (by kernel_rfl) (by kernel_rfl) (by kernel_rfl) (fun _ _ _ h => h) (Or.inl ⟨by rfl, fun w hSw => by obtain ⟨z0, z1, z2, z3, z4, z5⟩ := hSw; go_simp⟩) hS ?_
    simp only [List.setIfInBounds_toArray, List.set_cons_zero, List.set_cons_succ]
    refine ord.tkd (i := 6) (v := .int .i64 z) rfl rfl (by kernel_rfl) (by kernel_rfl) (by kernel_rfl) (fun _ _ _ h => h) (Or.inl ⟨by rfl, fun w hSw => by obtain ⟨z0, z1, z2, z3, z4, z5⟩ := hSw; go_simp⟩) hS ?_
    simp only [List.setIfInBounds_toArray, List.set_cons_zero, List.set_cons_succ]
    refine ord.tkd (i := 7) (v := .int .i64 (z + 1)) rfl rfl (by kernel_rfl) (by kernel_rfl) (by kernel_rfl) (fun _ _ _ h => h) (Or.inl ⟨by rfl, fun w hSw => by obtain ⟨z0, z1, z2, z3, z4, z5⟩ := hSw; go_simp⟩) hS ?_
    simp only [List.setIfInBounds_toArray, List.set_cons_zero, List.set_cons_succ]
    refine wpAnyH_ready (rs := [8]) (by kernel_rfl) (by simp) ?_
    refine AllReadyH.cons rfl (fun KK hK => ?_) AllReadyH.nil
    go_simp
    go_at_call 203
    refine (HC1.out W v7 _ hB8 hW8 (by simp only [List.length_append, List.length_cons, List.length_nil]; push_cast; omega)).mono ?_
    cases ob with
    | none =>
      rintro e w9 ⟨rfl, hb9⟩
      go_wp2
      exact ⟨rfl, rfl, (hBB.trans (hD7.mono (by omega))).trans hb9⟩
    | some lb =>
      rintro e w9 ⟨rfl, v9, hW9, hF9, hB9⟩
      go_wp2
      obtain ⟨g1, g2, g3, g4, g5, g6⟩ := hS
      have hws : w.heap.size + 2 ≤ W.heap.size := by have := hD7.size; omega
      have key : ∀ i u, W.cell? ⟨g, i, none⟩ = some u → w9.cell? ⟨g, i, none⟩ = some u := fun i u h => by rw [hB9.cell (p := ⟨g, i, none⟩) hg]; exact h
      refine hK.out _ _ ⟨by rw [hF9.cell (by omega) HNW.out.1.1 HV7.out.1]; exact g1, by rw [hF9.cell (by omega) HNW.out.2.1 HV7.out.2]; exact g2, key _ _ g3, key _ _ g4, key _ _ g5, key _ _ g6⟩ (fun _ => ?_)
      clear hK KK
      refine wpAnyH_done (by kernel_rfl) ?_ _
      go_wp2
      go_end0
      exact ⟨rfl, v9, by simpa [List.append_assoc] using hW9, hFF.trans ((FrU.below hD7 r v7).trans hF9), (hBB.trans (hD7.mono (by omega))).trans hB9⟩
end
section
variable {w0 : World} {r f : Nat}
theorem bare15 (hr : w0.heap.size = r) (hP : PH w0) (m : Int) (x : ByteArray) (a : Option Addr) (n c : Nat) (hlk : lookK [15] 15 x m n = true) (hx : x.size < 4611686018427387904) (hk : n ≤ 4611686018427387904) (hm : 0 ≤ m ∧ m ≤ 9223372036854775807)
    (w : World) (v : Value) (ws : List ByteArray) (hB : Below r w0 w) (hW : WR w r v ws) (hn : ws.length ≤ 900000) :
    Calls Tryz.prog 227 #[.pointer (some ⟨r, 0, none⟩), .agg #[.int .i64 15, .string x, .int .i64 m, .slice a n c]] w (WE r w v ws [numW m]) := by
  have c24 : Tryz.prog.cellsOf 24 = 4 := by kernel_rfl
  have hrl := hW.lt
  have hA := (Below.refl w.heap.size w).alloc (Nat.le_refl _) (.cells #[.int .i64 15, .string x, .int .i64 m, .slice a n c] 24)
  have hC := oPutNumber hr hP (hB.trans (hA.mono (Nat.le_of_lt hrl))) (hW.below hA) m x a n c hlk hx hk hm hn
  generalize numW m = y at *
  go_enter Tryz.func227, Tryz.ntmps227
  go_wp2_with (go_at_call 104; refine hC.mono ?_; rintro e w2 ⟨rfl, v2, hW2, hF2, hB2⟩)
  go_end0
  exact ⟨rfl, v2, hW2, (FrU.below hA r v).trans hF2, (hA.mono (Nat.le_of_lt hrl)).trans hB2⟩
theorem bare16 (hr : w0.heap.size = r) (hP : PH w0) (m : Int) (x : ByteArray) (a : Option Addr) (n c : Nat) (l : List ByteArray) (hl : wordsF x = some l) (hx : x.size < 4611686018427387904)
    (w : World) (v : Value) (ws : List ByteArray) (hB : Below r w0 w) (hW : WR w r v ws) (hn : ws.length ≤ 900000) :
    Calls Tryz.prog 227 #[.pointer (some ⟨r, 0, none⟩), .agg #[.int .i64 16, .string x, .int .i64 m, .slice a n c]] w (WE r w v ws l) := by
  have c24 : Tryz.prog.cellsOf 24 = 4 := by kernel_rfl
  have hrl := hW.lt
  have hA := (Below.refl w.heap.size w).alloc (Nat.le_refl _) (.cells #[.int .i64 16, .string x, .int .i64 m, .slice a n c] 24)
  have hPa := (hP.below (hr ▸ hB)).below hA
  have hC := oPutName (hW.below hA) x l hl hx hPa.err hPa.mx hn
  clear hl
  go_enter Tryz.func227, Tryz.ntmps227
  go_wp2_with (go_at_call 235; refine hC.mono ?_; rintro e w2 ⟨rfl, v2, hW2, hF2, hB2⟩)
  go_end0
  exact ⟨rfl, v2, hW2, (FrU.below hA r v).trans hF2, (hA.mono (Nat.le_of_lt hrl)).trans hB2⟩
theorem bare19 (hr : w0.heap.size = r) (hP : PH w0) (hO : WriO w0 r (opnF f) (okN f)) (x : ByteArray) (mn : Nat) (t0 t1 : Tree) (nv : Value) (hl : Lies (· < r) w0 (.node 19 x mn [t0, t1]) nv) (hm : 1 ≤ mn ∧ mn ≤ 9) (h0 : okN f t0) (h1 : okN f t1)
    (w : World) (v : Value) (ws : List ByteArray) (hB : Below r w0 w) (hW : WR w r v ws) (hn : ws.length + 10 * (cntT t0 + cntT t1 + 1) ≤ 800002) :
    Calls Tryz.prog 227 #[.pointer (some ⟨r, 0, none⟩), nv] w (WO r w v ws ((opnF f (max (opIs mn) 1) t0).bind fun a => (opnF f (opIs mn + 1) t1).bind fun b => some (a ++ [syn.opAt mn] ++ b))) := by
  have c24 : Tryz.prog.cellsOf 24 = 4 := by kernel_rfl
  have hrl := hW.lt
  have hl' := hl
  unfold Lies at hl'
  obtain ⟨a, c, rfl, _, _⟩ := hl'
  have hA := (Below.refl w.heap.size w).alloc (Nat.le_refl _) (.cells #[.int .i64 19, .string x, .int .i64 mn, .slice a [t0, t1].length c] 24)
  have hC := oOp hr hP hO x mn t0 t1 _ hl hm h0 h1 _ v ws (hB.trans (hA.mono (Nat.le_of_lt hrl))) (hW.below hA) hn
  generalize ((opnF f (max (opIs mn) 1) t0).bind fun a => (opnF f (opIs mn + 1) t1).bind fun b => some (a ++ [syn.opAt mn] ++ b)) = ob at *
  clear hl
  cases ob with
  | none =>
    go_enter Tryz.func227, Tryz.ntmps227
    go_wp2_with (go_at_call 236; refine hC.mono ?_; rintro e w2 ⟨rfl, hb2⟩)
    exact ⟨rfl, rfl, (hA.mono (Nat.le_of_lt hrl)).trans hb2⟩
  | some l =>
    go_enter Tryz.func227, Tryz.ntmps227
    go_wp2_with (go_at_call 236; refine hC.mono ?_; rintro e w2 ⟨rfl, v2, hW2, hF2, hB2⟩)
    go_end0
    exact ⟨rfl, v2, hW2, (FrU.below hA r v).trans hF2, (hA.mono (Nat.le_of_lt hrl)).trans hB2⟩
end
section
variable {w0 : World} {r f : Nat}
/-- the one kid of a node: where it lies -/
theorem one_kid {k : Int} {x : ByteArray} {m : Int} {t0 : Tree} {nv : Value} (hl : Lies (· < r) w0 (.node k x m [t0]) nv) :
    ∃ g o c ka xa ma aa na ca, nv = .agg #[.int .i64 k, .string x, .int .i64 m, .slice (some ⟨g, o, none⟩) 1 c] ∧ Lies (· < r) w0 t0 (.agg #[.int .i64 ka, .string xa, .int .i64 ma, .slice aa na ca]) ∧ ∀ W, Below r w0 W → W.cell? ⟨g, o, none⟩ = some (.int .i64 ka) ∧ W.cell? ⟨g, o + 1, none⟩ = some (.string xa) ∧ W.cell? ⟨g, o + 2, none⟩ = some (.int .i64 ma) ∧ W.cell? ⟨g, o + 3, none⟩ = some (.slice aa na ca) := by
  unfold Lies at hl
  obtain ⟨a, c, rfl, hk, hat⟩ := hl
  obtain ⟨g, o, rfl, hg, hat⟩ := hat (by simp)
  obtain ⟨n0, ⟨a0, a1, a2, a3, rfl, q0, q1, q2, q3⟩, l0⟩ := hat.get 0 (by simp)
  simp only [List.getElem_cons_zero, Nat.zero_mul, Nat.add_zero] at l0 q0 q1 q2 q3
  obtain ⟨ka, xa, ma, aa, na, ca, ea⟩ := lies_shape l0
  injection ea with ea
  simp only [Array.mk.injEq, List.cons.injEq, and_true] at ea
  obtain ⟨rfl, rfl, rfl, rfl⟩ := ea
  refine ⟨g, o, c, ka, xa, ma, aa, na, ca, rfl, l0, fun W hb => ?_⟩
  have e : ∀ i u, w0.cell? ⟨g, i, none⟩ = some u → W.cell? ⟨g, i, none⟩ = some u := fun i u h => by rw [hb.cell (p := ⟨g, i, none⟩) hg]; exact h
  exact ⟨e _ _ q0, e _ _ q1, e _ _ q2, e _ _ q3⟩
set_option maxHeartbeats 2000000 in
theorem bare20 (hr : w0.heap.size = r) (hO : WriO w0 r (opnF f) (okN f)) (x : ByteArray) (m : Int) (t0 : Tree) (nv : Value) (hl : Lies (· < r) w0 (.node 20 x m [t0]) nv) (h0 : okN f t0)
    (w : World) (v : Value) (ws : List ByteArray) (hB : Below r w0 w) (hW : WR w r v ws) (hn : ws.length + 10 * (cntT t0 + 1) ≤ 800002) :
    Calls Tryz.prog 227 #[.pointer (some ⟨r, 0, none⟩), nv] w (WO r w v ws ((opnF f 3 t0).bind fun e => some ([⟨#[45]⟩] ++ e))) := by
  have c24 : Tryz.prog.cellsOf 24 = 4 := by kernel_rfl
  have hrl := hW.lt
  have p0 := cntT_pos t0
  obtain ⟨g, o, c, ka, xa, ma, aa, na, ca, rfl, l0, hk⟩ := one_kid hl
  have HK := show Hid _ from hk
  have hA := (Below.refl w.heap.size w).alloc (Nat.le_refl _) (.cells #[.int .i64 20, .string x, .int .i64 m, .slice (some ⟨g, o, none⟩) 1 c] 24)
  have hBA := hB.trans (hA.mono (Nat.le_of_lt hrl))
  have bN := BoxC.new w #[.int .i64 20, .string x, .int .i64 m, .slice (some ⟨g, o, none⟩) 1 c] 24
  have hCp := oPut1 (hW.below hA) ⟨#[45]⟩ (by omega)
  rw [World.size_alloc] at hCp
  have HNW : Hid (w.heap.size ≠ r ∧ v.ownBlock ≠ some w.heap.size) := ⟨by omega, fun e => by have := (hW.row.lt _ e).2; omega⟩
  have HC1 : Hid (∀ (W : World) (V : Value) (WS : List ByteArray), Below r w0 W → WR W r V WS → (WS.length : Int) ≤ ws.length + 1 → Calls Tryz.prog 203 #[.pointer (some ⟨r, 0, none⟩), .agg #[.int .i64 ka, .string xa, .int .i64 ma, .slice aa na ca], .int .i64 3] W (WO r W V WS (opnF f 3 t0))) := fun W V WS g1 g2 g3 => hO _ t0 _ l0 h0 W V WS g1 g2 (by omega)
  clear hl hk l0 hO h0
  generalize opnF f 3 t0 = ob at *
  cases ob with
  | none =>
    go_enter Tryz.func227, Tryz.ntmps227
    go_wp2_with first
      | (go_at_call 63; refine hCp.mono ?_; rintro e w3 ⟨rfl, v3, hW3, hF3, hB3⟩; have bN3 := bN.fr hF3 HNW.out.1 HNW.out.2; have z3 := bN3.cell 3 rfl; obtain ⟨y0, y1, y2, y3⟩ := HK.out _ (hBA.trans hB3))
      | (go_at_call 203; refine (HC1.out w3 v3 _ (hBA.trans hB3) hW3 (by simp)).mono ?_; rintro e w5 ⟨rfl, hb5⟩)
    exact ⟨rfl, rfl, ((hA.mono (Nat.le_of_lt hrl)).trans hB3).trans hb5⟩
  | some l =>
    go_enter Tryz.func227, Tryz.ntmps227
    go_wp2_with first
      | (go_at_call 63; refine hCp.mono ?_; rintro e w3 ⟨rfl, v3, hW3, hF3, hB3⟩; have bN3 := bN.fr hF3 HNW.out.1 HNW.out.2; have z3 := bN3.cell 3 rfl; obtain ⟨y0, y1, y2, y3⟩ := HK.out _ (hBA.trans hB3))
      | (go_at_call 203; refine (HC1.out w3 v3 _ (hBA.trans hB3) hW3 (by simp)).mono ?_; rintro e w5 ⟨rfl, v5, hW5, hF5, hB5⟩)
    go_end0
    exact ⟨rfl, v5, by simpa [List.append_assoc] using hW5, ((FrU.below hA r v).trans hF3).trans hF5, ((hA.mono (Nat.le_of_lt hrl)).trans hB3).trans hB5⟩
set_option maxHeartbeats 2000000 in
theorem bare21 (hr : w0.heap.size = r) (hO : WriO w0 r (opnF f) (okN f)) (x : ByteArray) (m : Int) (t0 : Tree) (nv : Value) (hl : Lies (· < r) w0 (.node 21 x m [t0]) nv) (h0 : okN f t0)
    (w : World) (v : Value) (ws : List ByteArray) (hB : Below r w0 w) (hW : WR w r v ws) (hn : ws.length + 10 * (cntT t0 + 1) ≤ 800002) :
    Calls Tryz.prog 227 #[.pointer (some ⟨r, 0, none⟩), nv] w (WO r w v ws ((opnF f 3 t0).bind fun e => some ([⟨#[33]⟩] ++ e))) := by
  have c24 : Tryz.prog.cellsOf 24 = 4 := by kernel_rfl
  have hrl := hW.lt
  have p0 := cntT_pos t0
  obtain ⟨g, o, c, ka, xa, ma, aa, na, ca, rfl, l0, hk⟩ := one_kid hl
  have HK := show Hid _ from hk
  have hA := (Below.refl w.heap.size w).alloc (Nat.le_refl _) (.cells #[.int .i64 21, .string x, .int .i64 m, .slice (some ⟨g, o, none⟩) 1 c] 24)
  have hBA := hB.trans (hA.mono (Nat.le_of_lt hrl))
  have bN := BoxC.new w #[.int .i64 21, .string x, .int .i64 m, .slice (some ⟨g, o, none⟩) 1 c] 24
  have hCp := oPut1 (hW.below hA) ⟨#[33]⟩ (by omega)
  rw [World.size_alloc] at hCp
  have HNW : Hid (w.heap.size ≠ r ∧ v.ownBlock ≠ some w.heap.size) := ⟨by omega, fun e => by have := (hW.row.lt _ e).2; omega⟩
  have HC1 : Hid (∀ (W : World) (V : Value) (WS : List ByteArray), Below r w0 W → WR W r V WS → (WS.length : Int) ≤ ws.length + 1 → Calls Tryz.prog 203 #[.pointer (some ⟨r, 0, none⟩), .agg #[.int .i64 ka, .string xa, .int .i64 ma, .slice aa na ca], .int .i64 3] W (WO r W V WS (opnF f 3 t0))) := fun W V WS g1 g2 g3 => hO _ t0 _ l0 h0 W V WS g1 g2 (by omega)
  clear hl hk l0 hO h0
  generalize opnF f 3 t0 = ob at *
  cases ob with
  | none =>
    go_enter Tryz.func227, Tryz.ntmps227
    go_wp2_with first
      | (go_at_call 63; refine hCp.mono ?_; rintro e w3 ⟨rfl, v3, hW3, hF3, hB3⟩; have bN3 := bN.fr hF3 HNW.out.1 HNW.out.2; have z3 := bN3.cell 3 rfl; obtain ⟨y0, y1, y2, y3⟩ := HK.out _ (hBA.trans hB3))
      | (go_at_call 203; refine (HC1.out w3 v3 _ (hBA.trans hB3) hW3 (by simp)).mono ?_; rintro e w5 ⟨rfl, hb5⟩)
    exact ⟨rfl, rfl, ((hA.mono (Nat.le_of_lt hrl)).trans hB3).trans hb5⟩
  | some l =>
    go_enter Tryz.func227, Tryz.ntmps227
    go_wp2_with first
      | (go_at_call 63; refine hCp.mono ?_; rintro e w3 ⟨rfl, v3, hW3, hF3, hB3⟩; have bN3 := bN.fr hF3 HNW.out.1 HNW.out.2; have z3 := bN3.cell 3 rfl; obtain ⟨y0, y1, y2, y3⟩ := HK.out _ (hBA.trans hB3))
      | (go_at_call 203; refine (HC1.out w3 v3 _ (hBA.trans hB3) hW3 (by simp)).mono ?_; rintro e w5 ⟨rfl, v5, hW5, hF5, hB5⟩)
    go_end0
    exact ⟨rfl, v5, by simpa [List.append_assoc] using hW5, ((FrU.below hA r v).trans hF3).trans hF5, ((hA.mono (Nat.le_of_lt hrl)).trans hB3).trans hB5⟩
end
section
variable {w0 : World} {r f : Nat}
set_option maxHeartbeats 2000000 in
theorem bare18 (hr : w0.heap.size = r) (hP : PH w0) (hO : WriO w0 r (opnF f) (okN f)) (x : ByteArray) (m : Int) (ks : List Tree) (nv : Value) (hl : Lies (· < r) w0 (.node 18 x m ks) nv) (hq : ∀ t ∈ ks, okN f t) (nm : List ByteArray) (hnm : wordsF x = some nm) (hx : x.size < 4611686018427387904)
    (w : World) (v : Value) (ws : List ByteArray) (hB : Below r w0 w) (hW : WR w r v ws) (hn : (ws.length : Int) + 10 * (cntL ks + 1) ≤ 800002) :
    Calls Tryz.prog 227 #[.pointer (some ⟨r, 0, none⟩), nv] w (WO r w v ws ((itemsF (opnF f 0) 0 ks).bind fun e => some (nm ++ [⟨#[40]⟩] ++ e ++ [⟨#[41]⟩]))) := by
  have c24 : Tryz.prog.cellsOf 24 = 4 := by kernel_rfl
  have hmf : ∀ (fn : Fn) (first cap : Array Value) (w : World), (Instr.makeFunc fn first cap).run Tryz.prog w = .ok (.func fn first cap) w := fun _ _ _ _ => rfl
  have hrl := hW.lt
  have p0 := cntL_pos ks
  have hl3 := words_len hnm
  unfold Lies at hl
  obtain ⟨a, c, rfl, hk, hat⟩ := hl
  have hA := (Below.refl w.heap.size w).alloc (Nat.le_refl _) (.cells #[.int .i64 18, .string x, .int .i64 m, .slice a ks.length c] 24)
  have hBA := hB.trans (hA.mono (Nat.le_of_lt hrl))
  have bN := BoxC.new w #[.int .i64 18, .string x, .int .i64 m, .slice a ks.length c] 24
  have hPa := (hP.below (hr ▸ hB)).below hA
  have hCp := oPutName (hW.below hA) x nm hnm hx hPa.err hPa.mx (by omega)
  have HNW : Hid (w.heap.size ≠ r ∧ v.ownBlock ≠ some w.heap.size) := ⟨by omega, fun e => by have := (hW.row.lt _ e).2; omega⟩
  have HC1 : Hid (∀ (W : World) (V : Value) (WS : List ByteArray), Below r w0 W → WR W r V WS → (WS.length : Int) ≤ ws.length + 3 → Calls Tryz.prog 134 #[.pointer (some ⟨r, 0, none⟩), .slice a ks.length c, .func (.func 184) #[.pointer (some ⟨r, 0, none⟩)] #[]] W (WO r W V WS (roundF (opnF f 0) ks))) := fun W V WS g1 g2 g3 =>
    oList_expr (oExpr hO) (fun t o e => by have := opn_len f 0 t o e; omega) ks a c hk.1 hat hq hr W V WS g1 g2 (by omega)
  have HR : Hid (roundF (opnF f 0) ks = (itemsF (opnF f 0) 0 ks).bind fun e => some ([⟨#[40]⟩] ++ e ++ [⟨#[41]⟩])) := rfl
  clear hat hO hq hnm hP hPa
  generalize itemsF (opnF f 0) 0 ks = ob at *
  generalize roundF (opnF f 0) ks = rb at *
  obtain rfl := HR.out
  cases ob with
  | none =>
    go_enter Tryz.func227, Tryz.ntmps227
    go_wp2_with first
      | (go_at_call 235; refine hCp.mono ?_; rintro e w3 ⟨rfl, v3, hW3, hF3, hB3⟩; have bN3 := bN.fr hF3 HNW.out.1 HNW.out.2; have z3 := bN3.cell 3 rfl)
      | (go_at_call 134; refine (HC1.out w3 v3 _ (hBA.trans hB3) hW3 (by rw [List.length_append]; push_cast; omega)).mono ?_; rintro e w5 ⟨rfl, hb5⟩)
    exact ⟨rfl, rfl, ((hA.mono (Nat.le_of_lt hrl)).trans hB3).trans hb5⟩
  | some l =>
    go_enter Tryz.func227, Tryz.ntmps227
    go_wp2_with first
      | (go_at_call 235; refine hCp.mono ?_; rintro e w3 ⟨rfl, v3, hW3, hF3, hB3⟩; have bN3 := bN.fr hF3 HNW.out.1 HNW.out.2; have z3 := bN3.cell 3 rfl)
      | (go_at_call 134; refine (HC1.out w3 v3 _ (hBA.trans hB3) hW3 (by rw [List.length_append]; push_cast; omega)).mono ?_; rintro e w5 ⟨rfl, v5, hW5, hF5, hB5⟩)
    go_end0
    exact ⟨rfl, v5, by simpa [List.append_assoc] using hW5, ((FrU.below hA r v).trans hF3).trans hF5, ((hA.mono (Nat.le_of_lt hrl)).trans hB3).trans hB5⟩
end
section
variable {w0 : World} {r f : Nat}
set_option maxHeartbeats 2000000 in
theorem bare17 (hr : w0.heap.size = r) (hP : PH w0) (hO : WriO w0 r (opnF f) (okN f)) (x : ByteArray) (m : Int) (t0 : Tree) (nv : Value) (hl : Lies (· < r) w0 (.node 17 x m [t0]) nv) (h0 : okN f t0) (nm : List ByteArray) (hnm : wordsF x = some nm) (hx : x.size < 4611686018427387904)
    (w : World) (v : Value) (ws : List ByteArray) (hB : Below r w0 w) (hW : WR w r v ws) (hn : (ws.length : Int) + 10 * (cntT t0 + 1) ≤ 800002) :
    Calls Tryz.prog 227 #[.pointer (some ⟨r, 0, none⟩), nv] w (WO r w v ws ((opnF f 0 t0).bind fun e => some (nm ++ [⟨#[91]⟩] ++ e ++ [⟨#[93]⟩]))) := by
  have c24 : Tryz.prog.cellsOf 24 = 4 := by kernel_rfl
  have hrl := hW.lt
  have p0 := cntT_pos t0
  have hl3 := words_len hnm
  have h8 := opn_len f 0 t0
  obtain ⟨g, o, c, ka, xa, ma, aa, na, ca, rfl, l0, hk⟩ := one_kid hl
  have HK := show Hid _ from hk
  have hA := (Below.refl w.heap.size w).alloc (Nat.le_refl _) (.cells #[.int .i64 17, .string x, .int .i64 m, .slice (some ⟨g, o, none⟩) 1 c] 24)
  have hBA := hB.trans (hA.mono (Nat.le_of_lt hrl))
  have bN := BoxC.new w #[.int .i64 17, .string x, .int .i64 m, .slice (some ⟨g, o, none⟩) 1 c] 24
  have hPa := (hP.below (hr ▸ hB)).below hA
  have hCp := oPutName (hW.below hA) x nm hnm hx hPa.err hPa.mx (by omega)
  have HNW : Hid (w.heap.size ≠ r ∧ v.ownBlock ≠ some w.heap.size) := ⟨by omega, fun e => by have := (hW.row.lt _ e).2; omega⟩
  have HV3 : Hid (∀ v3 w3, FrU r v v3 (w.alloc (.cells #[.int .i64 17, .string x, .int .i64 m, .slice (some ⟨g, o, none⟩) 1 c] 24)) w3 → v3.ownBlock ≠ some w.heap.size) := fun v3 w3 hF e => (hF.own _ e).elim HNW.out.2 (fun h => by rw [World.size_alloc] at h; omega)
  have HC1 : Hid (∀ (W : World) (V : Value) (WS : List ByteArray), Below r w0 W → WR W r V WS → (WS.length : Int) ≤ ws.length + 4 → Calls Tryz.prog 184 #[.pointer (some ⟨r, 0, none⟩), .agg #[.int .i64 ka, .string xa, .int .i64 ma, .slice aa na ca]] W (WO r W V WS (opnF f 0 t0))) := fun W V WS g1 g2 g3 => oExpr hO t0 _ l0 h0 W V WS g1 g2 (by omega)
  clear hl hk l0 hO h0 hnm hP hPa
  generalize opnF f 0 t0 = ob at *
  cases ob with
  | none =>
    go_enter Tryz.func227, Tryz.ntmps227
    go_wp2_with first
      | (go_at_call 184; refine (HC1.out w5 v5 _ ((hBA.trans hB3).trans hB5) hW5 (by simp only [List.length_append, List.length_cons, List.length_nil]; push_cast; omega)).mono ?_; rintro e w7 ⟨rfl, hb7⟩)
      | (go_at_call 63; refine (oPut1 hW3 ⟨#[91]⟩ (by rw [List.length_append]; omega)).mono ?_; rintro e w5 ⟨rfl, v5, hW5, hF5, hB5⟩; have bN5 := bN3.fr hF5 HNW.out.1 (HV3.out _ _ hF3); have z3 := bN5.cell 3 rfl; obtain ⟨y0, y1, y2, y3⟩ := HK.out _ ((hBA.trans hB3).trans hB5))
      | (go_at_call 235; refine hCp.mono ?_; rintro e w3 ⟨rfl, v3, hW3, hF3, hB3⟩; have bN3 := bN.fr hF3 HNW.out.1 HNW.out.2)
    exact ⟨rfl, rfl, (((hA.mono (Nat.le_of_lt hrl)).trans hB3).trans hB5).trans hb7⟩
  | some l =>
    have hl8 := h8 l rfl
    clear h8
    go_enter Tryz.func227, Tryz.ntmps227
    go_wp2_with first
      | (go_at_call 63; refine (oPut1 hW7 ⟨#[93]⟩ (by simp only [List.length_append, List.length_cons, List.length_nil]; omega)).mono ?_; rintro e w9 ⟨rfl, v9, hW9, hF9, hB9⟩)
      | (go_at_call 184; refine (HC1.out w5 v5 _ ((hBA.trans hB3).trans hB5) hW5 (by simp only [List.length_append, List.length_cons, List.length_nil]; push_cast; omega)).mono ?_; rintro e w7 ⟨rfl, v7, hW7, hF7, hB7⟩)
      | (go_at_call 63; refine (oPut1 hW3 ⟨#[91]⟩ (by rw [List.length_append]; omega)).mono ?_; rintro e w5 ⟨rfl, v5, hW5, hF5, hB5⟩; have bN5 := bN3.fr hF5 HNW.out.1 (HV3.out _ _ hF3); have z3 := bN5.cell 3 rfl; obtain ⟨y0, y1, y2, y3⟩ := HK.out _ ((hBA.trans hB3).trans hB5))
      | (go_at_call 235; refine hCp.mono ?_; rintro e w3 ⟨rfl, v3, hW3, hF3, hB3⟩; have bN3 := bN.fr hF3 HNW.out.1 HNW.out.2)
    go_end0
    exact ⟨rfl, v9, by simpa [List.append_assoc] using hW9, ((FrU.below hA r v).trans hF3).trans (hF5.trans (hF7.trans hF9)), ((((hA.mono (Nat.le_of_lt hrl)).trans hB3).trans hB5).trans hB7).trans hB9⟩
end
section
variable {w0 : World} {r f : Nat}
theorem text_words {x : ByteArray} (h : textB x 2 = true) : ∃ l, wordsF x = some l := by
  unfold textB at h
  rw [if_neg (by decide)] at h
  split at h
  · exact ⟨_, by assumption⟩
  · cases h
theorem one_of : ∀ (ks : List Tree), (1 : Int) ≤ ks.length → (ks.length : Int) ≤ 1 → ∃ t0, ks = [t0]
  | [t0], _, _ => ⟨t0, rfl⟩
  | [], a, _ => by simp at a
  | _ :: _ :: _, _, b => by simp only [List.length_cons] at b; omega
theorem two_of : ∀ (ks : List Tree), (2 : Int) ≤ ks.length → (ks.length : Int) ≤ 2 → ∃ t0 t1, ks = [t0, t1]
  | [t0, t1], _, _ => ⟨t0, t1, rfl⟩
  | [], a, _ => by simp at a
  | [_], a, _ => by simp at a
  | _ :: _ :: _ :: _, _, b => by simp only [List.length_cons] at b; omega
theorem oBare (hr : w0.heap.size = r) (hP : PH w0) (hO : WriO w0 r (opnF f) (okN f)) : WriB w0 r f := by
  intro t nv hl hq hlk w v ws hB hW hn
  obtain ⟨k, x, m, ks⟩ := t
  obtain ⟨hx, hks⟩ := hq
  have hcn : cntT (.node k x m ks) = 1 + cntL ks := by first | rfl | (simp only [cntT]; omega)
  have hcp := cntL_pos ks
  rw [hcn] at hn
  have hlk' : lookK exprKinds k x m ks.length = true := hlk
  unfold lookK at hlk'
  simp only [Bool.and_eq_true, decide_eq_true_eq] at hlk'
  obtain ⟨⟨⟨⟨⟨hc, h1⟩, h2⟩, h3⟩, h4⟩, h5⟩ := hlk'
  have hk : k = 15 ∨ k = 16 ∨ k = 17 ∨ k = 18 ∨ k = 19 ∨ k = 20 ∨ k = 21 := by
    have := List.contains_iff_mem.1 hc
    simpa [exprKinds] using this
  have hone : (1 : Int) ≤ ks.length → (ks.length : Int) ≤ 1 → ∃ t0, ks = [t0] := one_of ks
  rcases hk with rfl | rfl | rfl | rfl | rfl | rfl | rfl
  · have hl' := hl
    unfold Lies at hl'
    obtain ⟨a, c, rfl, hkk, _⟩ := hl'
    have h15 : lookK [15] 15 x m ks.length = true := by
      unfold lookK
      simp only [Bool.and_eq_true, decide_eq_true_eq]
      exact ⟨⟨⟨⟨⟨by decide, h1⟩, h2⟩, h3⟩, h4⟩, h5⟩
    exact bare15 hr hP m x a ks.length c h15 hx hkk.1 ⟨h1, h2⟩ w v ws hB hW (by omega)
  · have hl' := hl
    unfold Lies at hl'
    obtain ⟨a, c, rfl, hkk, _⟩ := hl'
    obtain ⟨l, hlw⟩ := text_words h5
    have e : bareF (opnF f) (.node 16 x m ks) = some l := hlw
    rw [e]
    exact bare16 hr hP m x a ks.length c l hlw hx w v ws hB hW (by omega)
  · obtain ⟨t0, rfl⟩ := hone h3 h4
    obtain ⟨l, hlw⟩ := text_words h5
    have e : bareF (opnF f) (.node 17 x m [t0]) = (opnF f 0 t0).bind fun e => some (l ++ [⟨#[91]⟩] ++ e ++ [⟨#[93]⟩]) := by
      show ((wordsF x).bind fun nm => (opnF f 0 t0).bind fun e => some (nm ++ [⟨#[91]⟩] ++ e ++ [⟨#[93]⟩])) = _
      rw [hlw]
      rfl
    rw [e]
    have hc0 : cntL [t0] = cntT t0 := by simp [cntL]
    exact bare17 hr hP hO x m t0 nv hl (hks t0 (by simp)) l hlw hx w v ws hB hW (by omega)
  · obtain ⟨l, hlw⟩ := text_words h5
    have e : bareF (opnF f) (.node 18 x m ks) = (itemsF (opnF f 0) 0 ks).bind fun e => some (l ++ [⟨#[40]⟩] ++ e ++ [⟨#[41]⟩]) := by
      show ((wordsF x).bind fun nm => (itemsF (opnF f 0) 0 ks).bind fun e => some (nm ++ [⟨#[40]⟩] ++ e ++ [⟨#[41]⟩])) = _
      rw [hlw]
      rfl
    rw [e]
    exact bare18 hr hP hO x m ks nv hl hks l hlw hx w v ws hB hW (by omega)
  · have h1' : (1 : Int) ≤ m := h1
    have h2' : m ≤ 9 := h2
    obtain ⟨mn, rfl⟩ : ∃ mn : Nat, m = (mn : Int) := ⟨m.toNat, by omega⟩
    have h3' : (2 : Int) ≤ ks.length := h3
    have h4' : (ks.length : Int) ≤ 2 := h4
    obtain ⟨t0, t1, rfl⟩ := two_of ks h3' h4'
    have hc0 : cntL [t0, t1] = cntT t0 + cntT t1 := by simp [cntL]
    exact bare19 hr hP hO x mn t0 t1 nv hl ⟨by omega, by omega⟩ (hks t0 (by simp)) (hks t1 (by simp)) w v ws hB hW (by omega)
  · obtain ⟨t0, rfl⟩ := hone h3 h4
    have hc0 : cntL [t0] = cntT t0 := by simp [cntL]
    exact bare20 hr hO x m t0 nv hl (hks t0 (by simp)) w v ws hB hW (by omega)
  · obtain ⟨t0, rfl⟩ := hone h3 h4
    have hc0 : cntL [t0] = cntT t0 := by simp [cntL]
    exact bare21 hr hO x m t0 nv hl (hks t0 (by simp)) w v ws hB hW (by omega)
/-- every expression -/
theorem allOpn (hr : w0.heap.size = r) (hP : PH w0) : ∀ f, WriO w0 r (opnF f) (okN f)
  | 0 => fun least t nv hl hq => hq.elim
  | f + 1 => oOperand hr hP (oBare hr hP (allOpn hr hP f)) (fun t l e => by have := bare_len (opn_len f) t l e; omega)
end
section
variable {w0 : World} {r f : Nat}
set_option maxHeartbeats 2000000 in
theorem oParam (hr : w0.heap.size = r) (hP : PH w0) : Wri w0 r 135 parW (okN (f + 1)) := by
  intro t nv hl hq w v ws hB hW hn
  have c24 : Tryz.prog.cellsOf 24 = 4 := by kernel_rfl
  obtain ⟨k, x, m, ks⟩ := t
  have hcp := cntT_pos (.node k x m ks)
  unfold Lies at hl
  obtain ⟨a, c, rfl, ⟨hk1, hk2⟩, _⟩ := hl
  have hrl := hW.lt
  have hA := (Below.refl w.heap.size w).alloc (Nat.le_refl _) (.cells #[.int .i64 k, .string x, .int .i64 m, .slice a ks.length c] 24)
  have hA2 := hA.alloc (by simp) (.cells #[.int .i64 5] 3)
  have hP2 := (hP.below (hr ▸ hB)).below hA2
  have hI : IntsIn ((w.alloc (.cells #[.int .i64 k, .string x, .int .i64 m, .slice a ks.length c] 24)).alloc (.cells #[.int .i64 5] 3)) (.slice (some ⟨w.heap.size + 1, 0, none⟩) 1 1) [5] := by
    have := ints_at (w.alloc (.cells #[.int .i64 k, .string x, .int .i64 m, .slice a ks.length c] 24)) [5] (by decide)
    simp only [List.map_cons, List.map_nil, List.length_cons, List.length_nil, World.size_alloc, Nat.zero_add] at this
    exact this
  have bN := (BoxC.new w #[.int .i64 k, .string x, .int .i64 m, .slice a ks.length c] 24).alloc (.cells #[.int .i64 5] 3)
  have hL := oLook [5] _ k m x a ks.length c _ hP2.sh hP2.err hP2.mx hq.1 hk1 hI (by decide) (fun i hi => by simp at hi; omega)
  have HO : Hid (parW (.node k x m ks) = if lookK [5] k x m ks.length then some ([labW m] ++ [x]) else none) := rfl
  have HNW : Hid (w.heap.size ≠ r ∧ v.ownBlock ≠ some w.heap.size) := ⟨by omega, fun e => by have := (hW.row.lt _ e).2; omega⟩
  clear hI hP2 hP hq hk1 hk2
  generalize parW (.node k x m ks) = OO at *
  cases hlk : lookK [5] k x m ks.length with
  | false =>
    rw [hlk] at hL HO
    obtain rfl := HO.out
    clear hlk
    go_enter Tryz.func135, Tryz.ntmps135
    go_wp2_with (go_at_call 62; refine hL.mono ?_; rintro e w3 ⟨hb3, rfl⟩)
    exact ⟨rfl, rfl, (hA2.mono (Nat.le_of_lt hrl)).trans (hb3.mono (by have := hA2.size; omega))⟩
  | true =>
    rw [hlk] at hL HO
    obtain rfl := HO.out
    clear hlk
    have HLb : Hid (∀ W V, WR W r V ws → Calls Tryz.prog 103 #[.pointer (some ⟨r, 0, none⟩), .int .i64 m] W (WE r W V ws [labW m])) := fun W V h => oPutLabel h m (by omega)
    generalize labW m = y at *
    go_enter Tryz.func135, Tryz.ntmps135
    go_wp2_with first
      | (go_at_call 62; refine hL.mono ?_; rintro e w3 ⟨hb3, rfl⟩; have hb4 := hA2.trans (hb3.mono hA2.size); have bN3 := bN.below hb3; have z2 := bN3.cell 2 rfl)
      | (go_at_call 103; refine (HLb.out w3 v (hW.below hb4)).mono ?_; rintro e w5 ⟨rfl, v5, hW5, hF5, hB5⟩; have bN5 := bN3.fr hF5 HNW.out.1 HNW.out.2; have z1 := bN5.cell 1 rfl)
      | (go_at_call 63; refine (oPut1 hW5 x (by rw [List.length_append]; simp only [List.length_cons, List.length_nil]; omega)).mono ?_; rintro e w7 ⟨rfl, v7, hW7, hF7, hB7⟩)
    go_end0
    exact ⟨rfl, v7, by simpa [List.append_assoc] using hW7, ((FrU.below hb4 r v).trans hF5).trans hF7, ((hb4.mono (Nat.le_of_lt hrl)).trans hB5).trans hB7⟩
end
end pr
namespace pr
open Go.RowKit Go.Shelf
open Go.Proofs.YtkoomoemkffjkaaGreatDoor.syn Go.Proofs.YtkoomoemkffjkaaGreatDoor.face Go.Proofs.YtkoomoemkffjkaaGreatDoor.chk
open Go.Proofs.YtkoomoemkffjkaaGreatDoor.lexs (HasErr)
section
variable {w0 : World} {r : Nat}
set_option maxHeartbeats 4000000 in
theorem oList_param {g : Tree → Option (List ByteArray)} {Q : Tree → Prop} (hF : Wri w0 r 135 g Q) (hlen : ∀ t o, g t = some o → o.length ≤ 8 * cntT t)
    (ks : List Tree) (a : Option Addr) (c : Nat) (hl : ks.length ≤ 4611686018427387904) (hlies : ks ≠ [] → ∃ gb o, a = some ⟨gb, o, none⟩ ∧ gb < r ∧ LiesAt (· < r) w0 ks gb o) (hq : ∀ t ∈ ks, Q t)
    (hr : w0.heap.size = r) (w : World) (v : Value) (ws : List ByteArray) (hB : Below r w0 w) (hW : WR w r v ws) (hn : (ws.length : Int) + 10 * cntL ks ≤ 799998) :
    Calls Tryz.prog 134 #[.pointer (some ⟨r, 0, none⟩), .slice a ks.length c, .func (.func 135) #[.pointer (some ⟨r, 0, none⟩)] #[]] w (WO r w v ws (roundF g ks)) := by
  have c24 : Tryz.prog.cellsOf 24 = 4 := by kernel_rfl
  have hrl := hW.lt
  have hcp0 := cntL_pos ks
  have hC0 := oPut1 hW ⟨#[40]⟩ (by omega)
  go_enter Tryz.func134, Tryz.ntmps134
  go_wp2_with (go_at_call 63; refine hC0.mono ?_; rintro e w1 ⟨rfl, v1, hW1, hF1, hB1⟩)
  go_loopw [13] (fun u wr => ∃ (j : Nat) (vj : Value) (o : List ByteArray), j ≤ ks.length ∧ u = .int .i64 j ∧ WR wr r vj (ws ++ [⟨#[40]⟩] ++ o) ∧ FrU r v vj w wr ∧ Below r w wr ∧ o.length ≤ 9 * cntL (ks.take j) ∧ Hid (itemsF g 0 ks = (itemsF g j (ks.drop j)).bind fun b => some (o ++ b))) (fun u _ => ks.length - (intOf u).toNat)
  case atStart =>
    refine ⟨0, v1, [], Nat.zero_le _, rfl, by simpa using hW1, hF1, hB1, by simp [cntL], ?_⟩
    show _ = _
    rw [List.drop_zero]
    cases itemsF g 0 ks <;> rfl
  case round =>
    clear hC0 hW1 hF1 hB1
    obtain ⟨j, vj, o, hj, rfl, hWj, hFj, hBj, hol, HI⟩ := hrel
    have hct := cntL_take ks j
    have hctp := cntL_pos (ks.take j)
    by_cases hlt : j < ks.length
    · obtain ⟨gb, og, rfl, hgb, hat⟩ := hlies (by intro e; rw [e] at hlt; simp at hlt)
      obtain ⟨nv, ⟨y0, y1, y2, y3, rfl, q0, q1, q2, q3⟩, hln⟩ := hat.get j hlt
      obtain ⟨k1, x1, m1, a1, n1, c1, e1⟩ := lies_shape hln
      injection e1 with e1
      simp only [Array.mk.injEq, List.cons.injEq, and_true] at e1
      obtain ⟨rfl, rfl, rfl, rfl⟩ := e1
      have hBr := hB.trans hBj
      have hk : ∀ i u, w0.cell? ⟨gb, i, none⟩ = some u → wr.cell? ⟨gb, i, none⟩ = some u := fun i u h => by rw [hBr.cell (p := ⟨gb, i, none⟩) hgb]; exact h
      replace q0 := hk _ _ q0
      replace q1 := hk _ _ q1
      replace q2 := hk _ _ q2
      replace q3 := hk _ _ q3
      have hQj := hq _ (List.getElem_mem hlt)
      have hcn := cnt_at hlt
      have hcn2 := cntL_take ks (j + 1)
      have HX := show Hid _ from itemsF_drop (g := g) hlt
      have hA := (Below.refl wr.heap.size wr).alloc (Nat.le_refl _) (.cells #[.int .i64 k1, .string x1, .int .i64 m1, .slice a1 n1 c1] 24)
      have hrw := hWj.lt
      have hWa := hWj.alloc (.cells #[.int .i64 k1, .string x1, .int .i64 m1, .slice a1 n1 c1] 24)
      have hBa := hBr.alloc (Nat.le_of_lt hrw) (.cells #[.int .i64 k1, .string x1, .int .i64 m1, .slice a1 n1 c1] 24)
      have bN := BoxC.new wr #[.int .i64 k1, .string x1, .int .i64 m1, .slice a1 n1 c1] 24
      have hwl : (ws ++ [(⟨#[40]⟩ : ByteArray)] ++ o).length = ws.length + 1 + o.length := by simp; omega
      have HNW : Hid (wr.heap.size ≠ r ∧ vj.ownBlock ≠ some wr.heap.size) := ⟨by omega, fun e => by have := (hWj.row.lt _ e).2; omega⟩
      by_cases hj0 : j = 0
      · have hjn : ¬ 0 < j := by omega
        have hC := hF _ _ hln hQj _ _ _ hBa hWa (by omega)
        cases hg : g ks[j] with
        | none =>
          rw [hg] at hC
          have HN : Hid (roundF g ks = none) := by show _ = _; unfold roundF; rw [HI.out, HX.out, hg]; rfl
          clear hj0
          go_wp2_with (go_at_call 135; refine hC.mono ?_; rintro e w2 ⟨rfl, hb2⟩)
          refine ⟨rfl, ?_⟩
          rw [HN.out]
          exact ⟨rfl, (hBj.trans (hA.mono (Nat.le_of_lt hrw))).trans hb2⟩
        | some l1 =>
          rw [hg] at hC
          have hl1 := hlen _ _ hg
          have HI2 : Hid (itemsF g 0 ks = (itemsF g (j + 1) (ks.drop (j + 1))).bind fun b => some ((o ++ l1) ++ b)) := by
            show _ = _
            rw [HI.out, HX.out, hg, if_pos hj0]
            cases itemsF g (j + 1) (ks.drop (j + 1)) with
            | none => rfl
            | some b => simp
          clear hj0 hg
          go_wp2_with (go_at_call 135; refine hC.mono ?_; rintro e w2 ⟨rfl, v2, hW2, hF2, hb2⟩)
          go_roundw
          case rel => exact ⟨j + 1, v2, o ++ l1, by omega, by go_num, by rw [← List.append_assoc]; exact hW2, hFj.trans ((FrU.below hA r vj).trans hF2), (hBj.trans (hA.mono (Nat.le_of_lt hrw))).trans hb2, by rw [hcn, List.length_append]; push_cast; omega, HI2⟩
          case measure => simp [intOf]; omega
      · have hjn : 0 < j := by omega
        have hCp := oPut1 hWa ⟨#[44]⟩ (by rw [hwl]; omega)
        rw [World.size_alloc] at hCp
        have hCi : ∀ (W : World) (V : Value), WR W r V (ws ++ [⟨#[40]⟩] ++ o ++ [⟨#[44]⟩]) → Below r (wr.alloc (.cells #[.int .i64 k1, .string x1, .int .i64 m1, .slice a1 n1 c1] 24)) W → Calls Tryz.prog 135 #[.pointer (some ⟨r, 0, none⟩), .agg #[.int .i64 k1, .string x1, .int .i64 m1, .slice a1 n1 c1]] W (WO r W V (ws ++ [⟨#[40]⟩] ++ o ++ [⟨#[44]⟩]) (g ks[j])) := fun W V hW3 hB3 => hF _ _ hln hQj _ _ _ (hBa.trans hB3) hW3 (by rw [List.length_append, hwl]; simp only [List.length_cons, List.length_nil]; push_cast; omega)
        cases hg : g ks[j] with
        | none =>
          rw [hg] at hCi
          have HCi := show Hid _ from hCi
          clear hCi
          have HN : Hid (roundF g ks = none) := by show _ = _; unfold roundF; rw [HI.out, HX.out, hg]; rfl
          clear hj0 hg
          go_wp2_with first
            | (go_at_call 63; refine hCp.mono ?_; rintro e w3 ⟨rfl, v3, hW3, hF3, hB3⟩; have bN3 := bN.fr hF3 HNW.out.1 HNW.out.2; have z0 := bN3.cell 0 rfl; have z1 := bN3.cell 1 rfl; have z2 := bN3.cell 2 rfl; have z3 := bN3.cell 3 rfl)
            | (go_at_call 135; refine (HCi.out w3 v3 hW3 hB3).mono ?_; rintro e w2 ⟨rfl, hb2⟩)
          refine ⟨rfl, ?_⟩
          rw [HN.out]
          exact ⟨rfl, ((hBj.trans (hA.mono (Nat.le_of_lt hrw))).trans hB3).trans hb2⟩
        | some l1 =>
          rw [hg] at hCi
          have HCi := show Hid _ from hCi
          clear hCi
          have hl1 := hlen _ _ hg
          have hcp := cntT_pos ks[j]
          have HI2 : Hid (itemsF g 0 ks = (itemsF g (j + 1) (ks.drop (j + 1))).bind fun b => some ((o ++ [⟨#[44]⟩] ++ l1) ++ b)) := by
            show _ = _
            rw [HI.out, HX.out, hg, if_neg hj0]
            cases itemsF g (j + 1) (ks.drop (j + 1)) with
            | none => rfl
            | some b => simp
          clear hj0 hg
          go_wp2_with first
            | (go_at_call 63; refine hCp.mono ?_; rintro e w3 ⟨rfl, v3, hW3, hF3, hB3⟩; have bN3 := bN.fr hF3 HNW.out.1 HNW.out.2; have z0 := bN3.cell 0 rfl; have z1 := bN3.cell 1 rfl; have z2 := bN3.cell 2 rfl; have z3 := bN3.cell 3 rfl)
            | (go_at_call 135; refine (HCi.out w3 v3 hW3 hB3).mono ?_; rintro e w2 ⟨rfl, v2, hW2, hF2, hb2⟩)
          go_roundw
          case rel => exact ⟨j + 1, v2, o ++ [⟨#[44]⟩] ++ l1, by omega, by go_num, by simpa [List.append_assoc] using hW2, hFj.trans ((FrU.below hA r vj).trans (hF3.trans hF2)), ((hBj.trans (hA.mono (Nat.le_of_lt hrw))).trans hB3).trans hb2, by rw [hcn, List.length_append, List.length_append]; simp only [List.length_cons, List.length_nil]; push_cast; omega, HI2⟩
          case measure => simp [intOf]; omega
    · have hjj : j = ks.length := by omega
      have hwl : (ws ++ [(⟨#[40]⟩ : ByteArray)] ++ o).length = ws.length + 1 + o.length := by simp; omega
      have hCe := oPut1 hWj ⟨#[41]⟩ (by rw [hwl]; omega)
      have HR : Hid (roundF g ks = some ([⟨#[40]⟩] ++ o ++ [⟨#[41]⟩])) := by
        show _ = _
        unfold roundF
        rw [HI.out, hjj, List.drop_length]
        simp [itemsF]
      clear hjj
      go_wp2_with (go_at_call 63; refine hCe.mono ?_; rintro e w3 ⟨rfl, v3, hW3, hF3, hB3⟩)
      go_end0
      rw [HR.out]
      exact ⟨rfl, v3, by simpa [List.append_assoc] using hW3, hFj.trans hF3, hBj.trans hB3⟩
end
end pr
end Go.Proofs.YtkoomoemkffjkaaGreatDoor
