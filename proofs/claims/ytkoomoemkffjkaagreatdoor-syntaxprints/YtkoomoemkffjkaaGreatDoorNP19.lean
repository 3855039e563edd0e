/- What the program's decl writes: a contract. -/
import Derived.Test.YtkoomoemkffjkaaGreatDoorNP18
import Derived.Test.YtkoomoemkffjkaaGreatDoorNP03
set_option linter.unusedVariables false
set_option linter.unusedSimpArgs false
set_option maxRecDepth 100000
namespace Go.Proofs.YtkoomoemkffjkaaGreatDoor
namespace pr
open Go.RowKit Go.Shelf
open Go.Proofs.YtkoomoemkffjkaaGreatDoor.syn Go.Proofs.YtkoomoemkffjkaaGreatDoor.face Go.Proofs.YtkoomoemkffjkaaGreatDoor.chk
section
variable {w0 : World} {r f : Nat}
set_option maxHeartbeats 4000000 in
theorem choice2 (hr : w0.heap.size = r) (hO : WriO w0 r (opnF f) (okN f)) (hBl : Wri w0 r 136 (blockW f) (okN f)) (x : ByteArray) (m : Int) (t0 t1 : Tree) (nv : Value) (hl : Lies (· < r) w0 (.node 10 x m [t0, t1]) nv) (h0 : okN f t0) (h1 : okN f t1) (OO : Option (List ByteArray)) (HO : Hid (OO = (roundF (opnF f 0) [t0]).bind fun c => (blockW f t1).bind fun b => some ([⟨#[105, 102]⟩] ++ c ++ b)))
    (w : World) (v : Value) (ws : List ByteArray) (hB : Below r w0 w) (hW : WR w r v ws) (hn : (ws.length : Int) + 10 * (cntT t0 + cntT t1 + 1) ≤ 800000) :
    Calls Tryz.prog 183 #[.pointer (some ⟨r, 0, none⟩), nv] w (WO r w v ws OO) := by
  have c24 : Tryz.prog.cellsOf 24 = 4 := by kernel_rfl
  have hmf : ∀ (fn : Fn) (first cap : Array Value) (w : World), (Instr.makeFunc fn first cap).run Tryz.prog w = .ok (.func fn first cap) w := fun _ _ _ _ => rfl
  have hrl := hW.lt
  have p0 := cntT_pos t0
  have p1 := cntT_pos t1
  obtain ⟨g, o, c, ka, xa, ma, aa, na, ca, kb, xb, mb, ab, nb, cb, rfl, ⟨hc2, hg, hat⟩, l0, l1, hk⟩ := two_kids hl
  simp only [List.length_cons, List.length_nil, Nat.zero_add, Nat.reduceAdd] at hc2 ⊢
  have HK := show Hid _ from hk
  have hc1 : 1 ≤ c := by omega
  have hb3 := (Below.refl w.heap.size w).alloc (Nat.le_refl _) (.cells #[.int .i64 10, .string x, .int .i64 m, .slice (some ⟨g, o, none⟩) 2 c] 24)
  have bN := BoxC.new w #[.int .i64 10, .string x, .int .i64 m, .slice (some ⟨g, o, none⟩) 2 c] 24
  have HNW : Hid (w.heap.size ≠ r ∧ v.ownBlock ≠ some w.heap.size) := ⟨by omega, fun e => by have := (hW.row.lt _ e).2; omega⟩
  have S3 := Wg.start (hB.trans (hb3.mono (Nat.le_of_lt hrl))) (hW.below hb3)
  have hC0 := S3.put ⟨#[105, 102]⟩ (by simp only [List.length_append, List.length_cons, List.length_nil]; omega)
  rw [World.size_alloc] at hC0
  clear hl hk
  go_enter Tryz.func183, Tryz.ntmps183
  go_wp2_with (fail)
  refine (hC0).mono ?_
  rintro e w5 ⟨rfl, v5, S5⟩
  have b5 := S5.box bN HNW.out.1 HNW.out.2
  have u1 := b5.cell 1 rfl
  have u2 := b5.cell 2 rfl
  have u3 := b5.cell 3 rfl
  have HQ := HK.out _ S5.b0
  go_wp2_with (fail)
  refine (S5.items hr hO [t0] (some ⟨g, o, none⟩) c (by simp) (one_lies hg hat) (fun t ht => by rw [List.mem_singleton.1 ht]; exact h0) (by rw [show cntL [t0] = cntT t0 from by simp [cntL] ]; simp only [List.length_append, List.length_cons, List.length_nil]; push_cast; omega)).mono ?_
  rintro e w7 (⟨hN, rfl, hb7⟩ | ⟨l7, v7, hs7, rfl, S7⟩)
  · have HN : Hid (OO = none) := by show _ = _; rw [HO.out, hN]; rfl
    clear hN
    go_wp2
    refine ⟨rfl, ?_⟩
    rw [HN.out]
    exact ⟨rfl, (hb3.mono (Nat.le_of_lt hrl)).trans hb7⟩
  have hl7 := round_len (fun t o e => opn_len f 0 t o e) hs7
  have b7 := S7.box bN HNW.out.1 HNW.out.2
  have u1 := b7.cell 1 rfl
  have u2 := b7.cell 2 rfl
  have u3 := b7.cell 3 rfl
  have HQ := HK.out _ S7.b0
  rw [show cntL [t0] = cntT t0 from by simp [cntL] ] at hl7
  obtain ⟨q0, q1, q2, q3, q4, q5, q6, q7⟩ := HQ
  go_wp2_with (fail)
  refine (S7.wri hBl l1 h1 (by simp only [List.length_append, List.length_cons, List.length_nil]; push_cast; omega)).mono ?_
  rintro e w9 (⟨hN, rfl, hb9⟩ | ⟨l9, v9, hs9, rfl, S9⟩)
  · have HN : Hid (OO = none) := by show _ = _; rw [HO.out, hs7, Option.bind_some, hN]; rfl
    clear hN
    go_wp2
    refine ⟨rfl, ?_⟩
    rw [HN.out]
    exact ⟨rfl, (hb3.mono (Nat.le_of_lt hrl)).trans hb9⟩
  have hl9 := (s_len f).bk _ _ hs9
  have b9 := S9.box bN HNW.out.1 HNW.out.2
  have u1 := b9.cell 1 rfl
  have u2 := b9.cell 2 rfl
  have u3 := b9.cell 3 rfl
  have HQ := HK.out _ S9.b0
  go_wp2
  go_end0
  rw [HO.out, hs7, Option.bind_some, hs9]
  exact S9.done hb3 (Nat.le_of_lt hrl)
set_option maxHeartbeats 4000000 in
theorem choice3 (hr : w0.heap.size = r) (hO : WriO w0 r (opnF f) (okN f)) (hBl : Wri w0 r 136 (blockW f) (okN f)) (x : ByteArray) (m : Int) (t0 t1 t2 : Tree) (nv : Value) (hl : Lies (· < r) w0 (.node 10 x m [t0, t1, t2]) nv) (h0 : okN f t0) (h1 : okN f t1) (h2 : okN f t2) (OO : Option (List ByteArray)) (HO : Hid (OO = (roundF (opnF f 0) [t0]).bind fun c => (blockW f t1).bind fun b => (blockW f t2).bind fun d => some ([⟨#[105, 102]⟩] ++ c ++ b ++ [⟨#[101, 108, 115, 101]⟩] ++ d)))
    (w : World) (v : Value) (ws : List ByteArray) (hB : Below r w0 w) (hW : WR w r v ws) (hn : (ws.length : Int) + 10 * (cntT t0 + cntT t1 + cntT t2 + 1) ≤ 800000) :
    Calls Tryz.prog 183 #[.pointer (some ⟨r, 0, none⟩), nv] w (WO r w v ws OO) := by
  have c24 : Tryz.prog.cellsOf 24 = 4 := by kernel_rfl
  have hmf : ∀ (fn : Fn) (first cap : Array Value) (w : World), (Instr.makeFunc fn first cap).run Tryz.prog w = .ok (.func fn first cap) w := fun _ _ _ _ => rfl
  have hrl := hW.lt
  have p0 := cntT_pos t0
  have p1 := cntT_pos t1
  have p2 := cntT_pos t2
  obtain ⟨g, o, c, ka, xa, ma, aa, na, ca, kb, xb, mb, ab, nb, cb, rfl, ⟨hc2, hg, hat⟩, l0, l1, hk⟩ := two_kids hl
  simp only [List.length_cons, List.length_nil, Nat.zero_add, Nat.reduceAdd] at hc2 ⊢
  have HK := show Hid _ from hk
  obtain ⟨kc, xc, mc, ac, nc, cc, l2, hk2⟩ := kidV hg hat 2 (by simp)
  simp only [List.getElem_cons_zero, List.getElem_cons_succ, Nat.reduceMul] at l2 hk2
  have HK2 := show Hid _ from hk2
  have hc1 : 1 ≤ c := by omega
  have hb3 := (Below.refl w.heap.size w).alloc (Nat.le_refl _) (.cells #[.int .i64 10, .string x, .int .i64 m, .slice (some ⟨g, o, none⟩) 3 c] 24)
  have bN := BoxC.new w #[.int .i64 10, .string x, .int .i64 m, .slice (some ⟨g, o, none⟩) 3 c] 24
  have HNW : Hid (w.heap.size ≠ r ∧ v.ownBlock ≠ some w.heap.size) := ⟨by omega, fun e => by have := (hW.row.lt _ e).2; omega⟩
  have S3 := Wg.start (hB.trans (hb3.mono (Nat.le_of_lt hrl))) (hW.below hb3)
  have hC0 := S3.put ⟨#[105, 102]⟩ (by simp only [List.length_append, List.length_cons, List.length_nil]; omega)
  rw [World.size_alloc] at hC0
  clear hl hk hk2
  go_enter Tryz.func183, Tryz.ntmps183
  go_wp2_with (fail)
  refine (hC0).mono ?_
  rintro e w5 ⟨rfl, v5, S5⟩
  have b5 := S5.box bN HNW.out.1 HNW.out.2
  have u1 := b5.cell 1 rfl
  have u2 := b5.cell 2 rfl
  have u3 := b5.cell 3 rfl
  have HQ := HK.out _ S5.b0
  go_wp2_with (fail)
  refine (S5.items hr hO [t0] (some ⟨g, o, none⟩) c (by simp) (one_lies hg hat) (fun t ht => by rw [List.mem_singleton.1 ht]; exact h0) (by rw [show cntL [t0] = cntT t0 from by simp [cntL] ]; simp only [List.length_append, List.length_cons, List.length_nil]; push_cast; omega)).mono ?_
  rintro e w7 (⟨hN, rfl, hb7⟩ | ⟨l7, v7, hs7, rfl, S7⟩)
  · have HN : Hid (OO = none) := by show _ = _; rw [HO.out, hN]; rfl
    clear hN
    go_wp2
    refine ⟨rfl, ?_⟩
    rw [HN.out]
    exact ⟨rfl, (hb3.mono (Nat.le_of_lt hrl)).trans hb7⟩
  have hl7 := round_len (fun t o e => opn_len f 0 t o e) hs7
  have b7 := S7.box bN HNW.out.1 HNW.out.2
  have u1 := b7.cell 1 rfl
  have u2 := b7.cell 2 rfl
  have u3 := b7.cell 3 rfl
  have HQ := HK.out _ S7.b0
  rw [show cntL [t0] = cntT t0 from by simp [cntL] ] at hl7
  obtain ⟨q0, q1, q2, q3, q4, q5, q6, q7⟩ := HQ
  go_wp2_with (fail)
  refine (S7.wri hBl l1 h1 (by simp only [List.length_append, List.length_cons, List.length_nil]; push_cast; omega)).mono ?_
  rintro e w9 (⟨hN, rfl, hb9⟩ | ⟨l9, v9, hs9, rfl, S9⟩)
  · have HN : Hid (OO = none) := by show _ = _; rw [HO.out, hs7, Option.bind_some, hN]; rfl
    clear hN
    go_wp2
    refine ⟨rfl, ?_⟩
    rw [HN.out]
    exact ⟨rfl, (hb3.mono (Nat.le_of_lt hrl)).trans hb9⟩
  have hl9 := (s_len f).bk _ _ hs9
  have b9 := S9.box bN HNW.out.1 HNW.out.2
  have u1 := b9.cell 1 rfl
  have u2 := b9.cell 2 rfl
  have u3 := b9.cell 3 rfl
  have HQ := HK.out _ S9.b0
  go_wp2_with (fail)
  refine (S9.put ⟨#[101, 108, 115, 101]⟩ (by simp only [List.length_append, List.length_cons, List.length_nil]; omega)).mono ?_
  rintro e w11 ⟨rfl, v11, S11⟩
  have b11 := S11.box bN HNW.out.1 HNW.out.2
  have u1 := b11.cell 1 rfl
  have u2 := b11.cell 2 rfl
  have u3 := b11.cell 3 rfl
  have HQ := HK.out _ S11.b0
  obtain ⟨q0, q1, q2, q3⟩ := HK2.out _ S11.b0
  go_wp2_with (fail)
  refine (S11.wri hBl l2 h2 (by simp only [List.length_append, List.length_cons, List.length_nil]; push_cast; omega)).mono ?_
  rintro e w13 (⟨hN, rfl, hb13⟩ | ⟨l13, v13, hs13, rfl, S13⟩)
  · have HN : Hid (OO = none) := by show _ = _; rw [HO.out, hs7, Option.bind_some, hs9, Option.bind_some, hN]; rfl
    clear hN
    go_wp2
    refine ⟨rfl, ?_⟩
    rw [HN.out]
    exact ⟨rfl, (hb3.mono (Nat.le_of_lt hrl)).trans hb13⟩
  have hl13 := (s_len f).bk _ _ hs13
  have b13 := S13.box bN HNW.out.1 HNW.out.2
  have u1 := b13.cell 1 rfl
  have u2 := b13.cell 2 rfl
  have u3 := b13.cell 3 rfl
  have HQ := HK.out _ S13.b0
  go_wp2
  go_end0
  rw [HO.out, hs7, Option.bind_some, hs9, Option.bind_some, hs13]
  exact S13.done hb3 (Nat.le_of_lt hrl)
def isIf : Tree → Prop
  | .node k _ _ _ => k = 10
theorem shape_of {kinds : List Int} {k : Int} {x : ByteArray} {m : Int} {n : Nat} (h : lookK kinds k x m n = true) : k ∈ kinds ∧ (shapeF k).2.1 ≤ m ∧ m ≤ (shapeF k).2.2.1 ∧ (shapeF k).2.2.2.1 ≤ n ∧ (n : Int) ≤ (shapeF k).2.2.2.2 ∧ textB x (shapeF k).1 = true := by
  unfold lookK at h
  simp only [Bool.and_eq_true, decide_eq_true_eq] at h
  obtain ⟨⟨⟨⟨⟨hc, h1⟩, h2⟩, h3⟩, h4⟩, h5⟩ := h
  exact ⟨List.contains_iff_mem.1 hc, h1, h2, h3, h4, h5⟩
theorem two_three : ∀ (ks : List Tree), (2 : Int) ≤ ks.length → (ks.length : Int) ≤ 3 → (∃ t0 t1, ks = [t0, t1]) ∨ ∃ t0 t1 t2, ks = [t0, t1, t2]
  | [t0, t1], _, _ => .inl ⟨t0, t1, rfl⟩
  | [t0, t1, t2], _, _ => .inr ⟨t0, t1, t2, rfl⟩
  | [], a, _ => by simp at a
  | [_], a, _ => by simp at a
  | _ :: _ :: _ :: _ :: _, _, b => by simp only [List.length_cons] at b; omega
theorem oChoice (hr : w0.heap.size = r) (hO : WriO w0 r (opnF f) (okN f)) (hBl : Wri w0 r 136 (blockW f) (okN f)) : Wri w0 r 183 (statW (f + 1)) (fun t => okN (f + 1) t ∧ isIf t ∧ lookB statKinds t = true) := by
  intro t nv hl ⟨hq, hi, hlk⟩ w v ws hB hW hn
  obtain ⟨k, x, m, ks⟩ := t
  obtain rfl : k = 10 := hi
  obtain ⟨-, -, -, h3, h4, -⟩ := shape_of (show lookK statKinds 10 x m ks.length = true from hlk)
  rw [cnt_n] at hn
  rcases two_three ks h3 h4 with ⟨t0, t1, rfl⟩ | ⟨t0, t1, t2, rfl⟩
  · exact choice2 hr hO hBl x m t0 t1 nv hl (hq.2 t0 (by simp)) (hq.2 t1 (by simp)) _ (by show _ = _; unfold statW; rw [if_pos hlk]; rfl) w v ws hB hW (by simp only [cntL] at hn; omega)
  · exact choice3 hr hO hBl x m t0 t1 t2 nv hl (hq.2 t0 (by simp)) (hq.2 t1 (by simp)) (hq.2 t2 (by simp)) _ (by show _ = _; unfold statW; rw [if_pos hlk]; rfl) w v ws hB hW (by simp only [cntL] at hn; omega)
set_option maxHeartbeats 2000000 in
theorem stat_no (hr : w0.heap.size = r) (hP : PH w0) (k : Int) (x : ByteArray) (m : Int) (ks : List Tree) (nv : Value) (hl : Lies (· < r) w0 (.node k x m ks) nv) (hx : x.size < 4611686018427387904) (hlk : lookK statKinds k x m ks.length = false)
    (w : World) (v : Value) (ws : List ByteArray) (hB : Below r w0 w) (hW : WR w r v ws) :
    Calls Tryz.prog 165 #[.pointer (some ⟨r, 0, none⟩), nv] w (WO r w v ws none) := by
  have c24 : Tryz.prog.cellsOf 24 = 4 := by kernel_rfl
  have hrl := hW.lt
  have hl' := hl
  unfold Lies at hl'
  obtain ⟨a, c, rfl, ⟨hk1, hk2⟩, -⟩ := hl'
  have hL := lookAt hr hP hB statKinds k m x a ks.length c hx hk1 (by decide) (fun i hi => by simp [statKinds] at hi; omega)
  rw [hlk] at hL
  simp only [statKinds, List.map_cons, List.map_nil, List.length_cons, List.length_nil, Nat.zero_add, Nat.reduceAdd] at hL
  clear hl hlk
  go_enter Tryz.func165, Tryz.ntmps165
  go_wp2_with (fail)
  refine hL.mono ?_
  clear hL
  rintro e w3 (⟨-, rfl, hb3⟩ | ⟨hf, -⟩)
  · go_wp2
    exact ⟨rfl, rfl, hb3.mono (Nat.le_of_lt hrl)⟩
  · cases hf
set_option maxHeartbeats 2000000 in
theorem stat10 (hr : w0.heap.size = r) (hP : PH w0) (hCh : Wri w0 r 183 (statW (f + 1)) (fun t => okN (f + 1) t ∧ isIf t ∧ lookB statKinds t = true)) (x : ByteArray) (m : Int) (ks : List Tree) (nv : Value) (hl : Lies (· < r) w0 (.node 10 x m ks) nv) (hq : okN (f + 1) (.node 10 x m ks)) (hlk : lookK statKinds 10 x m ks.length = true)
    (w : World) (v : Value) (ws : List ByteArray) (hB : Below r w0 w) (hW : WR w r v ws) (hn : (ws.length : Int) + 10 * cntT (.node 10 x m ks) ≤ 800000) :
    Calls Tryz.prog 165 #[.pointer (some ⟨r, 0, none⟩), nv] w (WO r w v ws (statW (f + 1) (.node 10 x m ks))) := by
  have hx := hq.1
  have hlb : lookB statKinds (.node 10 x m ks) = true := hlk
  have c24 : Tryz.prog.cellsOf 24 = 4 := by kernel_rfl
  have hrl := hW.lt
  have hl' := hl
  unfold Lies at hl'
  obtain ⟨a, c, rfl, ⟨hk1, hk2⟩, -⟩ := hl'
  have hL := lookAt hr hP hB statKinds 10 m x a ks.length c hx hk1 (by decide) (fun i hi => by simp [statKinds] at hi; omega)
  rw [hlk] at hL
  simp only [statKinds, List.map_cons, List.map_nil, List.length_cons, List.length_nil, Nat.zero_add, Nat.reduceAdd] at hL
  go_enter Tryz.func165, Tryz.ntmps165
  go_wp2_with (fail)
  refine hL.mono ?_
  clear hL
  intro e w3 hl3
  obtain ⟨rfl, hb3, bN⟩ := hl3.yes
  clear hl3
  have S3 := Wg.start (hB.trans (hb3.mono (Nat.le_of_lt hrl))) (hW.below hb3)
  have u0 := bN.cell 0 rfl
  have u1 := bN.cell 1 rfl
  have u2 := bN.cell 2 rfl
  have u3 := bN.cell 3 rfl
  have hC := S3.wri hCh hl ⟨hq, rfl, hlb⟩ (by simpa using hn)
  generalize statW (f + 1) (.node 10 x m ks) = OO at *
  clear hl hlk hlb hq
  go_wp2_with (fail)
  refine hC.mono ?_
  clear hC
  rintro e w5 (⟨rfl, rfl, hb5⟩ | ⟨l5, v5, rfl, rfl, S5⟩)
  · go_wp2
    exact ⟨rfl, rfl, (hb3.mono (Nat.le_of_lt hrl)).trans hb5⟩
  · go_wp2
    go_end0
    exact S5.done hb3 (Nat.le_of_lt hrl)
theorem oStat (hr : w0.heap.size = r) (hP : PH w0) (hO : WriO w0 r (opnF f) (okN f)) (hBl : Wri w0 r 136 (blockW f) (okN f)) : Wri w0 r 165 (statW (f + 1)) (okN (f + 1)) := by
  intro t nv hl hq w v ws hB hW hn
  obtain ⟨k, x, m, ks⟩ := t
  have hn' := hn
  rw [cnt_n] at hn
  cases hlk : lookK statKinds k x m ks.length with
  | false =>
    have e : statW (f + 1) (.node k x m ks) = none := by unfold statW; rw [if_neg (by rw [show lookB statKinds (.node k x m ks) = lookK statKinds k x m ks.length from rfl, hlk]; simp)]
    rw [e]
    exact stat_no hr hP k x m ks nv hl hq.1 hlk w v ws hB hW
  | true =>
    obtain ⟨hk, -, -, h3, h4, -⟩ := shape_of hlk
    have hk : k = 7 ∨ k = 8 ∨ k = 9 ∨ k = 10 ∨ k = 11 ∨ k = 12 ∨ k = 13 ∨ k = 14 := by simpa [statKinds] using hk
    have c1 : ∀ t0, cntL [t0] = cntT t0 := fun t0 => by simp [cntL]
    have c2 : ∀ t0 t1, cntL [t0, t1] = cntT t0 + cntT t1 := fun t0 t1 => by simp [cntL]
    rcases hk with rfl | rfl | rfl | rfl | rfl | rfl | rfl | rfl
    · obtain ⟨t0, rfl⟩ := one_of ks h3 h4
      exact stat7 hr hP hO x m t0 nv hl (hq.2 t0 (by simp)) hq.1 hlk w v ws hB hW (by rw [c1] at hn; omega)
    · obtain ⟨t0, t1, rfl⟩ := two_of ks h3 h4
      exact stat8 hr hP hO x m t0 t1 nv hl (hq.2 t0 (by simp)) (hq.2 t1 (by simp)) hq.1 hlk w v ws hB hW (by rw [c2] at hn; omega)
    · obtain ⟨t0, rfl⟩ := one_of ks h3 h4
      exact stat9 hr hP hO x m t0 nv hl (hq.2 t0 (by simp)) hq.1 hlk w v ws hB hW (by rw [c1] at hn; omega)
    · exact stat10 hr hP (oChoice hr hO hBl) x m ks nv hl hq hlk w v ws hB hW hn'
    · obtain ⟨t0, t1, rfl⟩ := two_of ks h3 h4
      exact stat11 hr hP hO hBl x m t0 t1 nv hl (hq.2 t0 (by simp)) (hq.2 t1 (by simp)) hq.1 hlk w v ws hB hW (by rw [c2] at hn; omega)
    · obtain ⟨t0, rfl⟩ := one_of ks h3 h4
      exact stat12 hr hP hO x m t0 nv hl (hq.2 t0 (by simp)) hq.1 hlk w v ws hB hW (by rw [c1] at hn; omega)
    · obtain ⟨t0, rfl⟩ := one_of ks h3 h4
      exact stat13 hr hP hO x m t0 nv hl (hq.2 t0 (by simp)) hq.1 hlk w v ws hB hW (by rw [c1] at hn; omega)
    · obtain ⟨t0, rfl⟩ := one_of ks h3 h4
      exact stat14 hr hP hO x m t0 nv hl (hq.2 t0 (by simp)) hq.1 hlk w v ws hB hW (by rw [c1] at hn; omega)
/-- every statement and every block -/
theorem allStat (hr : w0.heap.size = r) (hP : PH w0) : ∀ f, Wri w0 r 165 (statW f) (okN f) ∧ Wri w0 r 136 (blockW f) (okN f)
  | 0 => ⟨fun t nv hl hq => hq.elim, fun t nv hl hq => hq.elim⟩
  | f + 1 => ⟨oStat hr hP (allOpn hr hP f) (allStat hr hP f).2, oBlock hr hP (allStat hr hP f).1⟩
end
section
variable {w0 : World} {r f : Nat}
set_option maxHeartbeats 2000000 in
theorem number_no (hr : w0.heap.size = r) (hP : PH w0) (k : Int) (x : ByteArray) (m : Int) (a : Option Addr) (n c : Nat) (hx : x.size < 4611686018427387904) (hk1 : n ≤ 4611686018427387904) (hlk : lookK [15] k x m n = false)
    (w : World) (v : Value) (ws : List ByteArray) (hB : Below r w0 w) (hW : WR w r v ws) :
    Calls Tryz.prog 104 #[.pointer (some ⟨r, 0, none⟩), .agg #[.int .i64 k, .string x, .int .i64 m, .slice a n c]] w (WO r w v ws none) := by
  have c24 : Tryz.prog.cellsOf 24 = 4 := by kernel_rfl
  have hrl := hW.lt
  have hL := lookAt hr hP hB [15] k m x a n c hx hk1 (by decide) (fun i hi => by simp at hi; omega)
  rw [hlk] at hL
  simp only [List.map_cons, List.map_nil, List.length_cons, List.length_nil, Nat.zero_add] at hL
  clear hlk
  go_enter Tryz.func104, Tryz.ntmps104
  go_wp2_with (fail)
  refine hL.mono ?_
  clear hL
  rintro e w3 (⟨-, rfl, hb3⟩ | ⟨hf, -⟩)
  · go_wp2
    exact ⟨rfl, rfl, hb3.mono (Nat.le_of_lt hrl)⟩
  · cases hf
theorem oNumK (hr : w0.heap.size = r) (hP : PH w0) : Wri w0 r 104 numK (okN (f + 1)) := by
  intro t nv hl hq w v ws hB hW hn
  obtain ⟨k, x, m, ks⟩ := t
  have p0 := cntT_pos (.node k x m ks)
  unfold Lies at hl
  obtain ⟨a, c, rfl, ⟨hk1, hk2⟩, -⟩ := hl
  cases hlk : lookK [15] k x m ks.length with
  | false =>
    have e : numK (.node k x m ks) = none := by unfold numK; dsimp only; rw [if_neg (by rw [show lookB [15] (.node k x m ks) = lookK [15] k x m ks.length from rfl, hlk]; simp)]
    rw [e]
    exact number_no hr hP k x m a _ c hq.1 hk1 hlk w v ws hB hW
  | true =>
    obtain ⟨hk, h1, h2, -⟩ := shape_of hlk
    obtain rfl : k = 15 := by simpa using hk
    have e : numK (.node 15 x m ks) = some [numW m] := by unfold numK; dsimp only; rw [if_pos (show lookB [15] (.node 15 x m ks) = true from hlk)]
    rw [e]
    exact oPutNumber hr hP hB hW m x a _ c hlk hq.1 hk1 ⟨h1, h2⟩ (by omega)
/-- how a number of a declaration is taken apart -/
theorem bits_all : ∀ m : Nat, m ≤ 11 → (bits BinOp.and IntKind.i64 m 2 != 0) = decide (m / 2 % 2 = 1) ∧ bits BinOp.and IntKind.i64 m 1 = (m : Int) % 2 ∧ bits BinOp.and IntKind.i64 m 12 = ((m / 4 % 4 * 4 : Nat) : Int) := by decide +kernel
def procW (f : Nat) (x : ByteArray) (m : Int) (ps : List Tree) (tb : Tree) : Option (List ByteArray) := (roundF parW ps).bind fun p => (blockW f tb).bind fun b => some ([⟨#[112, 114, 111, 99]⟩, x] ++ p ++ [labW (m % 2)] ++ givW m ++ b)
theorem Wg.params {w W : World} {v V : Value} {ws o : List ByteArray} (h : Wg w0 w r v ws o W V) (hr : w0.heap.size = r) (hP : PH w0) (ks : List Tree) (a : Option Addr) (c : Nat) (hl : ks.length ≤ 4611686018427387904) (hlies : ks ≠ [] → ∃ gb o, a = some ⟨gb, o, none⟩ ∧ gb < r ∧ LiesAt (· < r) w0 ks gb o) (hq : ∀ t ∈ ks, okN (f + 1) t) (hn : (ws.length : Int) + o.length + 10 * cntL ks ≤ 799998) :
    Calls Tryz.prog 134 #[.pointer (some ⟨r, 0, none⟩), .slice a ks.length c, .func (.func 135) #[.pointer (some ⟨r, 0, none⟩)] #[]] W (SO w0 w r v ws o (roundF parW ks)) :=
  (oList_param (oParam (f := f) hr hP) (fun t o e => by have := par_len t o e; omega) ks a c hl hlies hq hr W V _ h.b0 h.wr (by rw [h.len]; push_cast; omega)).mono fun e w' g => h.wo g
theorem lies_ps {ps : List Tree} {tb : Tree} {g o : Nat} (hg : g < r) (h : LiesAt (· < r) w0 (ps ++ [tb]) g o) : ps ≠ [] → ∃ gb og, (some ⟨g, o, none⟩ : Option Addr) = some ⟨gb, og, none⟩ ∧ gb < r ∧ LiesAt (· < r) w0 ps gb og := fun _ => ⟨g, o, rfl, hg, by have := liesAt_take ps.length h; rwa [List.take_left] at this⟩
set_option maxHeartbeats 4000000 in
theorem oProc {q : Nat} (hr : w0.heap.size = r) (hP : PH w0) (x : ByteArray) (m : Nat) (hm : m ≤ 11) (ps : List Tree) (tb : Tree) (g o c : Nat) (hg : g < r) (hc : ps.length + 1 ≤ c) (hcl : ps.length + 1 ≤ 4611686018427387904) (hat : LiesAt (· < r) w0 (ps ++ [tb]) g o) (hps : ∀ t ∈ ps, okN (q + 1) t) (htb : okN f tb)
    (w : World) (v : Value) (ws : List ByteArray) (hB : Below r w0 w) (hW : WR w r v ws) (hn : (ws.length : Int) + 10 * (cntL ps + cntT tb) + 8 ≤ 800000) :
    Calls Tryz.prog 102 #[.pointer (some ⟨r, 0, none⟩), .agg #[.int .i64 4, .string x, .int .i64 m, .slice (some ⟨g, o, none⟩) (ps.length + 1) c]] w (WO r w v ws (procW f x m ps tb)) := by
  have c24 : Tryz.prog.cellsOf 24 = 4 := by kernel_rfl
  have hmf : ∀ (fn : Fn) (first cap : Array Value) (w : World), (Instr.makeFunc fn first cap).run Tryz.prog w = .ok (.func fn first cap) w := fun _ _ _ _ => rfl
  have hrl := hW.lt
  have p0 := cntL_pos ps
  have p1 := cntT_pos tb
  obtain ⟨-, b1, b12⟩ := bits_all m hm
  have B12 := show Hid _ from b12
  clear b12
  obtain ⟨kb, xb, mb, ab, nb, cb, l1, hk⟩ := kidV hg hat ps.length (by simp)
  rw [List.getElem_append_right (Nat.le_refl _)] at l1
  simp only [Nat.sub_self, List.getElem_cons_zero] at l1
  have HK := show Hid _ from hk
  have hb3 := (Below.refl w.heap.size w).alloc (Nat.le_refl _) (.cells #[.int .i64 4, .string x, .int .i64 m, .slice (some ⟨g, o, none⟩) (ps.length + 1) c] 24)
  have bN := BoxC.new w #[.int .i64 4, .string x, .int .i64 m, .slice (some ⟨g, o, none⟩) (ps.length + 1) c] 24
  have HNW : Hid (w.heap.size ≠ r ∧ v.ownBlock ≠ some w.heap.size) := ⟨by omega, fun e => by have := (hW.row.lt _ e).2; omega⟩
  have S3 := Wg.start (hB.trans (hb3.mono (Nat.le_of_lt hrl))) (hW.below hb3)
  have hC0 := S3.put2 ⟨#[112, 114, 111, 99]⟩ x (by simp only [List.length_append, List.length_cons, List.length_nil]; omega)
  rw [World.size_alloc] at hC0
  have HO : Hid (procW f x m ps tb = (roundF parW ps).bind fun p => (blockW f tb).bind fun b => some ([⟨#[112, 114, 111, 99]⟩, x] ++ p ++ [labW ((m : Int) % 2)] ++ givW m ++ b)) := rfl
  have hgl := giv_len m
  generalize procW f x m ps tb = OO at *
  clear hk
  go_enter Tryz.func102, Tryz.ntmps102
  go_wp2_with (fail)
  refine (hC0).mono ?_
  rintro e w5 ⟨rfl, v5, S5⟩
  have b5 := S5.box bN HNW.out.1 HNW.out.2
  have u1 := b5.cell 1 rfl
  have u2 := b5.cell 2 rfl
  have u3 := b5.cell 3 rfl
  have HQ := HK.out _ S5.b0
  go_wp2_with (fail)
  refine (S5.params (f := q) hr hP ps (some ⟨g, o, none⟩) c (by omega) (lies_ps hg hat) hps (by simp only [List.length_append, List.length_cons, List.length_nil]; push_cast; omega)).mono ?_
  rintro e w7 (⟨hN, rfl, hb7⟩ | ⟨l7, v7, hs7, rfl, S7⟩)
  · have HN : Hid (OO = none) := by show _ = _; rw [HO.out, hN]; rfl
    clear hN
    go_wp2
    refine ⟨rfl, ?_⟩
    rw [HN.out]
    exact ⟨rfl, (hb3.mono (Nat.le_of_lt hrl)).trans hb7⟩
  have hl7 := round_len par_len hs7
  have b7 := S7.box bN HNW.out.1 HNW.out.2
  have u1 := b7.cell 1 rfl
  have u2 := b7.cell 2 rfl
  have u3 := b7.cell 3 rfl
  have HQ := HK.out _ S7.b0
  have hCl := S7.label ((m : Int) % 2) (by simp only [List.length_append, List.length_cons, List.length_nil]; omega)
  go_wp2_with (fail)
  refine (hCl).mono ?_
  rintro e w9 ⟨rfl, v9, S9⟩
  have b9 := S9.box bN HNW.out.1 HNW.out.2
  have u1 := b9.cell 1 rfl
  have u2 := b9.cell 2 rfl
  have u3 := b9.cell 3 rfl
  have HQ := HK.out _ S9.b0
  have HB := show Hid _ from (allStat hr hP f).2
  have HG : Hid (givW m = if m / 4 % 4 = 1 then [⟨#[103, 105, 118, 101, 115]⟩, ⟨#[108, 111, 119]⟩] else if m / 4 % 4 = 2 then [⟨#[103, 105, 118, 101, 115]⟩, ⟨#[104, 105, 103, 104]⟩] else []) := by show _ = _; unfold givW; rw [Int.toNat_natCast]
  by_cases h4 : m / 4 % 4 = 1
  · have e12 : bits BinOp.and IntKind.i64 m 12 = 4 := by rw [B12.out, h4]; rfl
    rw [if_pos h4] at HG
    rw [HG.out] at HO
    clear h4 B12 HG
    go_wp2_with (fail)
    refine (S9.put2 ⟨#[103, 105, 118, 101, 115]⟩ ⟨#[108, 111, 119]⟩ (by simp only [List.length_append, List.length_cons, List.length_nil]; omega)).mono ?_
    rintro e w11 ⟨rfl, v11, S11⟩
    have b11 := S11.box bN HNW.out.1 HNW.out.2
    have u1 := b11.cell 1 rfl
    have u2 := b11.cell 2 rfl
    have u3 := b11.cell 3 rfl
    have HQ := HK.out _ S11.b0
    obtain ⟨q0, q1, q2, q3⟩ := HQ
    go_wp2_with (fail)
    refine (S11.wri HB.out l1 htb (by simp only [List.length_append, List.length_cons, List.length_nil]; push_cast; omega)).mono ?_
    rintro e w13 (⟨hN, rfl, hb13⟩ | ⟨l13, v13, hs13, rfl, S13⟩)
    · have HN : Hid (OO = none) := by show _ = _; rw [HO.out, hs7, Option.bind_some, hN]; rfl
      clear hN
      go_wp2
      refine ⟨rfl, ?_⟩
      rw [HN.out]
      exact ⟨rfl, (hb3.mono (Nat.le_of_lt hrl)).trans hb13⟩
    have hl13 := (s_len f).bk _ _ hs13
    have b13 := S13.box bN HNW.out.1 HNW.out.2
    have u1 := b13.cell 1 rfl
    have u2 := b13.cell 2 rfl
    have u3 := b13.cell 3 rfl
    have HQ := HK.out _ S13.b0
    go_wp2
    go_end0
    rw [HO.out, hs7, Option.bind_some, hs13]
    exact S13.done hb3 (Nat.le_of_lt hrl)
  by_cases h8 : m / 4 % 4 = 2
  · have e12 : bits BinOp.and IntKind.i64 m 12 = 8 := by rw [B12.out, h8]; rfl
    rw [if_neg h4, if_pos h8] at HG
    rw [HG.out] at HO
    clear h4 h8 B12 HG
    go_wp2_with (fail)
    refine (S9.put2 ⟨#[103, 105, 118, 101, 115]⟩ ⟨#[104, 105, 103, 104]⟩ (by simp only [List.length_append, List.length_cons, List.length_nil]; omega)).mono ?_
    rintro e w11 ⟨rfl, v11, S11⟩
    have b11 := S11.box bN HNW.out.1 HNW.out.2
    have u1 := b11.cell 1 rfl
    have u2 := b11.cell 2 rfl
    have u3 := b11.cell 3 rfl
    have HQ := HK.out _ S11.b0
    obtain ⟨q0, q1, q2, q3⟩ := HQ
    go_wp2_with (fail)
    refine (S11.wri HB.out l1 htb (by simp only [List.length_append, List.length_cons, List.length_nil]; push_cast; omega)).mono ?_
    rintro e w13 (⟨hN, rfl, hb13⟩ | ⟨l13, v13, hs13, rfl, S13⟩)
    · have HN : Hid (OO = none) := by show _ = _; rw [HO.out, hs7, Option.bind_some, hN]; rfl
      clear hN
      go_wp2
      refine ⟨rfl, ?_⟩
      rw [HN.out]
      exact ⟨rfl, (hb3.mono (Nat.le_of_lt hrl)).trans hb13⟩
    have hl13 := (s_len f).bk _ _ hs13
    have b13 := S13.box bN HNW.out.1 HNW.out.2
    have u1 := b13.cell 1 rfl
    have u2 := b13.cell 2 rfl
    have u3 := b13.cell 3 rfl
    have HQ := HK.out _ S13.b0
    go_wp2
    go_end0
    rw [HO.out, hs7, Option.bind_some, hs13]
    exact S13.done hb3 (Nat.le_of_lt hrl)
  · have e4 : (bits BinOp.and IntKind.i64 m 12 == 4) = false := by rw [B12.out]; exact beq_eq_false_iff_ne.2 (by omega)
    have e8 : (bits BinOp.and IntKind.i64 m 12 == 8) = false := by rw [B12.out]; exact beq_eq_false_iff_ne.2 (by omega)
    rw [if_neg h4, if_neg h8] at HG
    rw [HG.out] at HO
    have n4 : ¬ bits BinOp.and IntKind.i64 m 12 = 4 := beq_eq_false_iff_ne.1 e4
    have n8 : ¬ bits BinOp.and IntKind.i64 m 12 = 8 := beq_eq_false_iff_ne.1 e8
    clear h4 h8 B12 HG
    obtain ⟨q0, q1, q2, q3⟩ := HQ
    go_wp2_with (fail)
    refine (S9.wri HB.out l1 htb (by simp only [List.length_append, List.length_cons, List.length_nil]; push_cast; omega)).mono ?_
    rintro e w13 (⟨hN, rfl, hb13⟩ | ⟨l13, v13, hs13, rfl, S13⟩)
    · have HN : Hid (OO = none) := by show _ = _; rw [HO.out, hs7, Option.bind_some, hN]; rfl
      clear hN
      go_wp2
      refine ⟨rfl, ?_⟩
      rw [HN.out]
      exact ⟨rfl, (hb3.mono (Nat.le_of_lt hrl)).trans hb13⟩
    have hl13 := (s_len f).bk _ _ hs13
    have b13 := S13.box bN HNW.out.1 HNW.out.2
    have u1 := b13.cell 1 rfl
    have u2 := b13.cell 2 rfl
    have u3 := b13.cell 3 rfl
    have HQ := HK.out _ S13.b0
    go_wp2
    go_end0
    rw [HO.out, hs7, Option.bind_some, hs13]
    have := S13.done hb3 (Nat.le_of_lt hrl)
    rw [List.append_nil]
    exact this
end
section
variable {w0 : World} {r f : Nat}
set_option maxHeartbeats 2000000 in
theorem decl_no (hr : w0.heap.size = r) (hP : PH w0) (k : Int) (x : ByteArray) (m : Int) (a : Option Addr) (n c : Nat) (hx : x.size < 4611686018427387904) (hk1 : n ≤ 4611686018427387904) (hlk : lookK [3, 4] k x m n = false)
    (w : World) (v : Value) (ws : List ByteArray) (hB : Below r w0 w) (hW : WR w r v ws) :
    Calls Tryz.prog 64 #[.pointer (some ⟨r, 0, none⟩), .agg #[.int .i64 k, .string x, .int .i64 m, .slice a n c]] w (WO r w v ws none) := by
  have c24 : Tryz.prog.cellsOf 24 = 4 := by kernel_rfl
  have hrl := hW.lt
  have hL := lookAt hr hP hB [3, 4] k m x a n c hx hk1 (by decide) (fun i hi => by simp at hi; omega)
  rw [hlk] at hL
  simp only [List.map_cons, List.map_nil, List.length_cons, List.length_nil, Nat.zero_add] at hL
  clear hlk
  go_enter Tryz.func64, Tryz.ntmps64
  go_wp2_with (fail)
  refine hL.mono ?_
  clear hL
  rintro e w3 (⟨-, rfl, hb3⟩ | ⟨hf, -⟩)
  · go_wp2
    exact ⟨rfl, rfl, hb3.mono (Nat.le_of_lt hrl)⟩
  · cases hf
theorem num_len {t : Tree} {l : List ByteArray} (h : numK t = some l) : (l.length : Int) = 1 := by
  obtain ⟨k, x, m, ks⟩ := t
  unfold numK at h
  dsimp only at h
  by_cases hl : lookB [15] (.node k x m ks) = true
  · rw [if_pos hl] at h; obtain rfl := Option.some.inj h; rfl
  · rw [if_neg hl] at h; cases h
set_option maxHeartbeats 4000000 in
theorem declV (hr : w0.heap.size = r) (hP : PH w0) (x : ByteArray) (m : Nat) (hm : m ≤ 11) (hpub : ¬ m / 2 % 2 = 1) (nv : Value) (hl : Lies (· < r) w0 (.node 3 x m []) nv) (hx : x.size < 4611686018427387904) (hlk : lookK [3, 4] 3 x m 0 = true) (OO : Option (List ByteArray)) (HO : Hid (OO = some ([labW ((m : Int) % 2)] ++ [x] ++ [⟨#[59]⟩])))
    (w : World) (v : Value) (ws : List ByteArray) (hB : Below r w0 w) (hW : WR w r v ws) (hn : (ws.length : Int) + 10 * (1) ≤ 800000) :
    Calls Tryz.prog 64 #[.pointer (some ⟨r, 0, none⟩), nv] w (WO r w v ws OO) := by
  have c24 : Tryz.prog.cellsOf 24 = 4 := by kernel_rfl
  have hrl := hW.lt
  obtain ⟨b2, b1, -⟩ := bits_all m hm
  rw [decide_eq_false hpub] at b2
  have hl' := hl
  unfold Lies at hl'
  obtain ⟨a, c, rfl, hk, -⟩ := hl'
  have HK : Hid (∀ W : World, Below r w0 W → True) := fun _ _ => trivial
  have hL := lookAt hr hP hB [3, 4] 3 m x a 0 c hx (by decide) (by decide) (fun i hi => by simp at hi; omega)
  clear hk
  rw [hlk] at hL
  simp only [List.map_cons, List.map_nil, List.length_cons, List.length_nil, Nat.zero_add] at hL ⊢
  clear hl hlk hpub
  have HNW : Hid (w.heap.size ≠ r ∧ v.ownBlock ≠ some w.heap.size) := ⟨by omega, fun e => by have := (hW.row.lt _ e).2; omega⟩
  go_enter Tryz.func64, Tryz.ntmps64
  go_wp2_with (fail)
  refine hL.mono ?_
  clear hL
  intro e w3 hl3
  obtain ⟨rfl, hb3, bN⟩ := hl3.yes
  clear hl3
  have S3 := Wg.start (hB.trans (hb3.mono (Nat.le_of_lt hrl))) (hW.below hb3)
  have u0 := bN.cell 0 rfl
  have u1 := bN.cell 1 rfl
  have u2 := bN.cell 2 rfl
  have u3 := bN.cell 3 rfl
  have HQ := HK.out _ S3.b0
  have hCl := S3.label ((m : Int) % 2) (by simp only [List.length_append, List.length_cons, List.length_nil]; omega)
  go_wp2_with (fail)
  refine (hCl).mono ?_
  rintro e w7 ⟨rfl, v7, S7⟩
  have b7 := S7.box bN HNW.out.1 HNW.out.2
  have u1 := b7.cell 1 rfl
  have u2 := b7.cell 2 rfl
  have u3 := b7.cell 3 rfl
  have HQ := HK.out _ S7.b0
  go_wp2_with (fail)
  refine (S7.put x (by simp only [List.length_append, List.length_cons, List.length_nil]; omega)).mono ?_
  rintro e w9 ⟨rfl, v9, S9⟩
  have b9 := S9.box bN HNW.out.1 HNW.out.2
  have u1 := b9.cell 1 rfl
  have u2 := b9.cell 2 rfl
  have u3 := b9.cell 3 rfl
  have HQ := HK.out _ S9.b0
  go_wp2_with (fail)
  refine (S9.put ⟨#[59]⟩ (by simp only [List.length_append, List.length_cons, List.length_nil]; omega)).mono ?_
  rintro e w11 ⟨rfl, v11, S11⟩
  have b11 := S11.box bN HNW.out.1 HNW.out.2
  have u1 := b11.cell 1 rfl
  have u2 := b11.cell 2 rfl
  have u3 := b11.cell 3 rfl
  have HQ := HK.out _ S11.b0
  go_wp2
  go_end0
  rw [HO.out]
  exact S11.done hb3 (Nat.le_of_lt hrl)
set_option maxHeartbeats 4000000 in
theorem declVP (hr : w0.heap.size = r) (hP : PH w0) (x : ByteArray) (m : Nat) (hm : m ≤ 11) (hpub : m / 2 % 2 = 1) (nv : Value) (hl : Lies (· < r) w0 (.node 3 x m []) nv) (hx : x.size < 4611686018427387904) (hlk : lookK [3, 4] 3 x m 0 = true) (OO : Option (List ByteArray)) (HO : Hid (OO = some ([⟨#[112, 117, 98]⟩] ++ [labW ((m : Int) % 2)] ++ [x] ++ [⟨#[59]⟩])))
    (w : World) (v : Value) (ws : List ByteArray) (hB : Below r w0 w) (hW : WR w r v ws) (hn : (ws.length : Int) + 10 * (1) ≤ 800000) :
    Calls Tryz.prog 64 #[.pointer (some ⟨r, 0, none⟩), nv] w (WO r w v ws OO) := by
  have c24 : Tryz.prog.cellsOf 24 = 4 := by kernel_rfl
  have hrl := hW.lt
  obtain ⟨b2, b1, -⟩ := bits_all m hm
  rw [decide_eq_true hpub] at b2
  have hl' := hl
  unfold Lies at hl'
  obtain ⟨a, c, rfl, hk, -⟩ := hl'
  have HK : Hid (∀ W : World, Below r w0 W → True) := fun _ _ => trivial
  have hL := lookAt hr hP hB [3, 4] 3 m x a 0 c hx (by decide) (by decide) (fun i hi => by simp at hi; omega)
  clear hk
  rw [hlk] at hL
  simp only [List.map_cons, List.map_nil, List.length_cons, List.length_nil, Nat.zero_add] at hL ⊢
  clear hl hlk hpub
  have HNW : Hid (w.heap.size ≠ r ∧ v.ownBlock ≠ some w.heap.size) := ⟨by omega, fun e => by have := (hW.row.lt _ e).2; omega⟩
  go_enter Tryz.func64, Tryz.ntmps64
  go_wp2_with (fail)
  refine hL.mono ?_
  clear hL
  intro e w3 hl3
  obtain ⟨rfl, hb3, bN⟩ := hl3.yes
  clear hl3
  have S3 := Wg.start (hB.trans (hb3.mono (Nat.le_of_lt hrl))) (hW.below hb3)
  have u0 := bN.cell 0 rfl
  have u1 := bN.cell 1 rfl
  have u2 := bN.cell 2 rfl
  have u3 := bN.cell 3 rfl
  have HQ := HK.out _ S3.b0
  go_wp2_with (fail)
  refine (S3.put ⟨#[112, 117, 98]⟩ (by simp only [List.length_append, List.length_cons, List.length_nil]; omega)).mono ?_
  rintro e w5 ⟨rfl, v5, S5⟩
  have b5 := S5.box bN HNW.out.1 HNW.out.2
  have u1 := b5.cell 1 rfl
  have u2 := b5.cell 2 rfl
  have u3 := b5.cell 3 rfl
  have HQ := HK.out _ S5.b0
  have u0 := b5.cell 0 rfl
  have hCl := S5.label ((m : Int) % 2) (by simp only [List.length_append, List.length_cons, List.length_nil]; omega)
  go_wp2_with (fail)
  refine (hCl).mono ?_
  rintro e w7 ⟨rfl, v7, S7⟩
  have b7 := S7.box bN HNW.out.1 HNW.out.2
  have u1 := b7.cell 1 rfl
  have u2 := b7.cell 2 rfl
  have u3 := b7.cell 3 rfl
  have HQ := HK.out _ S7.b0
  go_wp2_with (fail)
  refine (S7.put x (by simp only [List.length_append, List.length_cons, List.length_nil]; omega)).mono ?_
  rintro e w9 ⟨rfl, v9, S9⟩
  have b9 := S9.box bN HNW.out.1 HNW.out.2
  have u1 := b9.cell 1 rfl
  have u2 := b9.cell 2 rfl
  have u3 := b9.cell 3 rfl
  have HQ := HK.out _ S9.b0
  go_wp2_with (fail)
  refine (S9.put ⟨#[59]⟩ (by simp only [List.length_append, List.length_cons, List.length_nil]; omega)).mono ?_
  rintro e w11 ⟨rfl, v11, S11⟩
  have b11 := S11.box bN HNW.out.1 HNW.out.2
  have u1 := b11.cell 1 rfl
  have u2 := b11.cell 2 rfl
  have u3 := b11.cell 3 rfl
  have HQ := HK.out _ S11.b0
  go_wp2
  go_end0
  rw [HO.out]
  exact S11.done hb3 (Nat.le_of_lt hrl)
set_option maxHeartbeats 4000000 in
theorem declVK (hr : w0.heap.size = r) (hP : PH w0) (x : ByteArray) (m : Nat) (hm : m ≤ 11) (hpub : ¬ m / 2 % 2 = 1) (t0 : Tree) (nv : Value) (hl : Lies (· < r) w0 (.node 3 x m [t0]) nv) (h0 : okN (f + 1) t0) (hx : x.size < 4611686018427387904) (hlk : lookK [3, 4] 3 x m 1 = true) (OO : Option (List ByteArray)) (HO : Hid (OO = (numK t0).bind fun n => some ([labW ((m : Int) % 2)] ++ [x] ++ [⟨#[91]⟩] ++ n ++ [⟨#[93]⟩] ++ [⟨#[59]⟩])))
    (w : World) (v : Value) (ws : List ByteArray) (hB : Below r w0 w) (hW : WR w r v ws) (hn : (ws.length : Int) + 10 * (cntT t0 + 1) ≤ 800000) :
    Calls Tryz.prog 64 #[.pointer (some ⟨r, 0, none⟩), nv] w (WO r w v ws OO) := by
  have c24 : Tryz.prog.cellsOf 24 = 4 := by kernel_rfl
  have hrl := hW.lt
  obtain ⟨b2, b1, -⟩ := bits_all m hm
  rw [decide_eq_false hpub] at b2
  have p0 := cntT_pos t0
  obtain ⟨g, o, c, ka, xa, ma, aa, na, ca, rfl, l0, hk⟩ := one_kid hl
  have HK := show Hid _ from hk
  have hL := lookAt hr hP hB [3, 4] 3 m x (some ⟨g, o, none⟩) 1 c hx (by decide) (by decide) (fun i hi => by simp at hi; omega)
  clear hk
  rw [hlk] at hL
  simp only [List.map_cons, List.map_nil, List.length_cons, List.length_nil, Nat.zero_add] at hL ⊢
  clear hl hlk hpub
  have HNW : Hid (w.heap.size ≠ r ∧ v.ownBlock ≠ some w.heap.size) := ⟨by omega, fun e => by have := (hW.row.lt _ e).2; omega⟩
  go_enter Tryz.func64, Tryz.ntmps64
  go_wp2_with (fail)
  refine hL.mono ?_
  clear hL
  intro e w3 hl3
  obtain ⟨rfl, hb3, bN⟩ := hl3.yes
  clear hl3
  have S3 := Wg.start (hB.trans (hb3.mono (Nat.le_of_lt hrl))) (hW.below hb3)
  have u0 := bN.cell 0 rfl
  have u1 := bN.cell 1 rfl
  have u2 := bN.cell 2 rfl
  have u3 := bN.cell 3 rfl
  have HQ := HK.out _ S3.b0
  have hCl := S3.label ((m : Int) % 2) (by simp only [List.length_append, List.length_cons, List.length_nil]; omega)
  go_wp2_with (fail)
  refine (hCl).mono ?_
  rintro e w7 ⟨rfl, v7, S7⟩
  have b7 := S7.box bN HNW.out.1 HNW.out.2
  have u1 := b7.cell 1 rfl
  have u2 := b7.cell 2 rfl
  have u3 := b7.cell 3 rfl
  have HQ := HK.out _ S7.b0
  go_wp2_with (fail)
  refine (S7.put x (by simp only [List.length_append, List.length_cons, List.length_nil]; omega)).mono ?_
  rintro e w9 ⟨rfl, v9, S9⟩
  have b9 := S9.box bN HNW.out.1 HNW.out.2
  have u1 := b9.cell 1 rfl
  have u2 := b9.cell 2 rfl
  have u3 := b9.cell 3 rfl
  have HQ := HK.out _ S9.b0
  go_wp2_with (fail)
  refine (S9.put ⟨#[91]⟩ (by simp only [List.length_append, List.length_cons, List.length_nil]; omega)).mono ?_
  rintro e w11 ⟨rfl, v11, S11⟩
  have b11 := S11.box bN HNW.out.1 HNW.out.2
  have u1 := b11.cell 1 rfl
  have u2 := b11.cell 2 rfl
  have u3 := b11.cell 3 rfl
  have HQ := HK.out _ S11.b0
  obtain ⟨q0, q1, q2, q3⟩ := HQ
  go_wp2_with (fail)
  refine (S11.wri (oNumK (f := f) hr hP) l0 h0 (by simp only [List.length_append, List.length_cons, List.length_nil]; push_cast; omega)).mono ?_
  rintro e w13 (⟨hN, rfl, hb13⟩ | ⟨l13, v13, hs13, rfl, S13⟩)
  · have HN : Hid (OO = none) := by show _ = _; rw [HO.out, hN]; rfl
    clear hN
    go_wp2
    refine ⟨rfl, ?_⟩
    rw [HN.out]
    exact ⟨rfl, (hb3.mono (Nat.le_of_lt hrl)).trans hb13⟩
  have hl13 := num_len hs13
  have b13 := S13.box bN HNW.out.1 HNW.out.2
  have u1 := b13.cell 1 rfl
  have u2 := b13.cell 2 rfl
  have u3 := b13.cell 3 rfl
  have HQ := HK.out _ S13.b0
  go_wp2_with (fail)
  refine (S13.put ⟨#[93]⟩ (by simp only [List.length_append, List.length_cons, List.length_nil]; omega)).mono ?_
  rintro e w15 ⟨rfl, v15, S15⟩
  have b15 := S15.box bN HNW.out.1 HNW.out.2
  have u1 := b15.cell 1 rfl
  have u2 := b15.cell 2 rfl
  have u3 := b15.cell 3 rfl
  have HQ := HK.out _ S15.b0
  go_wp2_with (fail)
  refine (S15.put ⟨#[59]⟩ (by simp only [List.length_append, List.length_cons, List.length_nil]; omega)).mono ?_
  rintro e w17 ⟨rfl, v17, S17⟩
  have b17 := S17.box bN HNW.out.1 HNW.out.2
  have u1 := b17.cell 1 rfl
  have u2 := b17.cell 2 rfl
  have u3 := b17.cell 3 rfl
  have HQ := HK.out _ S17.b0
  go_wp2
  go_end0
  rw [HO.out, hs13]
  exact S17.done hb3 (Nat.le_of_lt hrl)
set_option maxHeartbeats 4000000 in
theorem declVKP (hr : w0.heap.size = r) (hP : PH w0) (x : ByteArray) (m : Nat) (hm : m ≤ 11) (hpub : m / 2 % 2 = 1) (t0 : Tree) (nv : Value) (hl : Lies (· < r) w0 (.node 3 x m [t0]) nv) (h0 : okN (f + 1) t0) (hx : x.size < 4611686018427387904) (hlk : lookK [3, 4] 3 x m 1 = true) (OO : Option (List ByteArray)) (HO : Hid (OO = (numK t0).bind fun n => some ([⟨#[112, 117, 98]⟩] ++ [labW ((m : Int) % 2)] ++ [x] ++ [⟨#[91]⟩] ++ n ++ [⟨#[93]⟩] ++ [⟨#[59]⟩])))
    (w : World) (v : Value) (ws : List ByteArray) (hB : Below r w0 w) (hW : WR w r v ws) (hn : (ws.length : Int) + 10 * (cntT t0 + 1) ≤ 800000) :
    Calls Tryz.prog 64 #[.pointer (some ⟨r, 0, none⟩), nv] w (WO r w v ws OO) := by
  have c24 : Tryz.prog.cellsOf 24 = 4 := by kernel_rfl
  have hrl := hW.lt
  obtain ⟨b2, b1, -⟩ := bits_all m hm
  rw [decide_eq_true hpub] at b2
  have p0 := cntT_pos t0
  obtain ⟨g, o, c, ka, xa, ma, aa, na, ca, rfl, l0, hk⟩ := one_kid hl
  have HK := show Hid _ from hk
  have hL := lookAt hr hP hB [3, 4] 3 m x (some ⟨g, o, none⟩) 1 c hx (by decide) (by decide) (fun i hi => by simp at hi; omega)
  clear hk
  rw [hlk] at hL
  simp only [List.map_cons, List.map_nil, List.length_cons, List.length_nil, Nat.zero_add] at hL ⊢
  clear hl hlk hpub
  have HNW : Hid (w.heap.size ≠ r ∧ v.ownBlock ≠ some w.heap.size) := ⟨by omega, fun e => by have := (hW.row.lt _ e).2; omega⟩
  go_enter Tryz.func64, Tryz.ntmps64
  go_wp2_with (fail)
  refine hL.mono ?_
  clear hL
  intro e w3 hl3
  obtain ⟨rfl, hb3, bN⟩ := hl3.yes
  clear hl3
  have S3 := Wg.start (hB.trans (hb3.mono (Nat.le_of_lt hrl))) (hW.below hb3)
  have u0 := bN.cell 0 rfl
  have u1 := bN.cell 1 rfl
  have u2 := bN.cell 2 rfl
  have u3 := bN.cell 3 rfl
  have HQ := HK.out _ S3.b0
  go_wp2_with (fail)
  refine (S3.put ⟨#[112, 117, 98]⟩ (by simp only [List.length_append, List.length_cons, List.length_nil]; omega)).mono ?_
  rintro e w5 ⟨rfl, v5, S5⟩
  have b5 := S5.box bN HNW.out.1 HNW.out.2
  have u1 := b5.cell 1 rfl
  have u2 := b5.cell 2 rfl
  have u3 := b5.cell 3 rfl
  have HQ := HK.out _ S5.b0
  have u0 := b5.cell 0 rfl
  have hCl := S5.label ((m : Int) % 2) (by simp only [List.length_append, List.length_cons, List.length_nil]; omega)
  go_wp2_with (fail)
  refine (hCl).mono ?_
  rintro e w7 ⟨rfl, v7, S7⟩
  have b7 := S7.box bN HNW.out.1 HNW.out.2
  have u1 := b7.cell 1 rfl
  have u2 := b7.cell 2 rfl
  have u3 := b7.cell 3 rfl
  have HQ := HK.out _ S7.b0
  go_wp2_with (fail)
  refine (S7.put x (by simp only [List.length_append, List.length_cons, List.length_nil]; omega)).mono ?_
  rintro e w9 ⟨rfl, v9, S9⟩
  have b9 := S9.box bN HNW.out.1 HNW.out.2
  have u1 := b9.cell 1 rfl
  have u2 := b9.cell 2 rfl
  have u3 := b9.cell 3 rfl
  have HQ := HK.out _ S9.b0
  go_wp2_with (fail)
  refine (S9.put ⟨#[91]⟩ (by simp only [List.length_append, List.length_cons, List.length_nil]; omega)).mono ?_
  rintro e w11 ⟨rfl, v11, S11⟩
  have b11 := S11.box bN HNW.out.1 HNW.out.2
  have u1 := b11.cell 1 rfl
  have u2 := b11.cell 2 rfl
  have u3 := b11.cell 3 rfl
  have HQ := HK.out _ S11.b0
  obtain ⟨q0, q1, q2, q3⟩ := HQ
  go_wp2_with (fail)
  refine (S11.wri (oNumK (f := f) hr hP) l0 h0 (by simp only [List.length_append, List.length_cons, List.length_nil]; push_cast; omega)).mono ?_
  rintro e w13 (⟨hN, rfl, hb13⟩ | ⟨l13, v13, hs13, rfl, S13⟩)
  · have HN : Hid (OO = none) := by show _ = _; rw [HO.out, hN]; rfl
    clear hN
    go_wp2
    refine ⟨rfl, ?_⟩
    rw [HN.out]
    exact ⟨rfl, (hb3.mono (Nat.le_of_lt hrl)).trans hb13⟩
  have hl13 := num_len hs13
  have b13 := S13.box bN HNW.out.1 HNW.out.2
  have u1 := b13.cell 1 rfl
  have u2 := b13.cell 2 rfl
  have u3 := b13.cell 3 rfl
  have HQ := HK.out _ S13.b0
  go_wp2_with (fail)
  refine (S13.put ⟨#[93]⟩ (by simp only [List.length_append, List.length_cons, List.length_nil]; omega)).mono ?_
  rintro e w15 ⟨rfl, v15, S15⟩
  have b15 := S15.box bN HNW.out.1 HNW.out.2
  have u1 := b15.cell 1 rfl
  have u2 := b15.cell 2 rfl
  have u3 := b15.cell 3 rfl
  have HQ := HK.out _ S15.b0
  go_wp2_with (fail)
  refine (S15.put ⟨#[59]⟩ (by simp only [List.length_append, List.length_cons, List.length_nil]; omega)).mono ?_
  rintro e w17 ⟨rfl, v17, S17⟩
  have b17 := S17.box bN HNW.out.1 HNW.out.2
  have u1 := b17.cell 1 rfl
  have u2 := b17.cell 2 rfl
  have u3 := b17.cell 3 rfl
  have HQ := HK.out _ S17.b0
  go_wp2
  go_end0
  rw [HO.out, hs13]
  exact S17.done hb3 (Nat.le_of_lt hrl)
set_option maxHeartbeats 4000000 in
theorem declR (hr : w0.heap.size = r) (hP : PH w0) (x : ByteArray) (m : Nat) (hm : m ≤ 11) (hpub : ¬ m / 2 % 2 = 1) (ps : List Tree) (tb : Tree) (nv : Value) (hl : Lies (· < r) w0 (.node 4 x m (ps ++ [tb])) nv) (hps : ∀ t ∈ ps, okN (f + 1) t) (htb : okN (f + 1) tb) (hx : x.size < 4611686018427387904) (hlk : lookK [3, 4] 4 x m (ps.length + 1) = true) (OO : Option (List ByteArray)) (HO : Hid (OO = (procW (f + 1) x m ps tb).bind fun q => some ([] ++ q)))
    (w : World) (v : Value) (ws : List ByteArray) (hB : Below r w0 w) (hW : WR w r v ws) (hn : (ws.length : Int) + 10 * (cntL ps + cntT tb + 1) ≤ 800000) :
    Calls Tryz.prog 64 #[.pointer (some ⟨r, 0, none⟩), nv] w (WO r w v ws OO) := by
  have c24 : Tryz.prog.cellsOf 24 = 4 := by kernel_rfl
  have hrl := hW.lt
  obtain ⟨b2, b1, -⟩ := bits_all m hm
  rw [decide_eq_false hpub] at b2
  have p0 := cntL_pos ps
  have p1 := cntT_pos tb
  unfold Lies at hl
  obtain ⟨a, c, rfl, ⟨hk1, hk2⟩, hat⟩ := hl
  obtain ⟨g, o, rfl, hg, hat⟩ := hat (by simp)
  simp only [List.length_append, List.length_cons, List.length_nil, Nat.zero_add] at hk1 hk2 ⊢
  have HK : Hid (∀ W : World, Below r w0 W → True) := fun _ _ => trivial
  have hL := lookAt hr hP hB [3, 4] 4 m x (some ⟨g, o, none⟩) (ps.length + 1) c hx hk1 (by decide) (fun i hi => by simp at hi; omega)
  rw [hlk] at hL
  simp only [List.map_cons, List.map_nil, List.length_cons, List.length_nil, Nat.zero_add] at hL
  clear hlk hpub
  have HNW : Hid (w.heap.size ≠ r ∧ v.ownBlock ≠ some w.heap.size) := ⟨by omega, fun e => by have := (hW.row.lt _ e).2; omega⟩
  go_enter Tryz.func64, Tryz.ntmps64
  go_wp2_with (fail)
  refine hL.mono ?_
  clear hL
  intro e w3 hl3
  obtain ⟨rfl, hb3, bN⟩ := hl3.yes
  clear hl3
  have S3 := Wg.start (hB.trans (hb3.mono (Nat.le_of_lt hrl))) (hW.below hb3)
  have u0 := bN.cell 0 rfl
  have u1 := bN.cell 1 rfl
  have u2 := bN.cell 2 rfl
  have u3 := bN.cell 3 rfl
  have HQ := HK.out _ S3.b0
  have hCp := (oProc hr hP x m hm ps tb g o c  hg hk2 hk1 hat hps htb _ _ _ S3.b0 S3.wr (by simp only [List.length_append, List.length_cons, List.length_nil]; push_cast; omega)).mono fun e w' g => S3.wo g
  generalize procW (f + 1) x m ps tb = ob at *
  go_wp2_with (fail)
  refine (hCp).mono ?_
  rintro e w7 (⟨hN, rfl, hb7⟩ | ⟨l7, v7, hs7, rfl, S7⟩)
  · have HN : Hid (OO = none) := by show _ = _; rw [HO.out, hN]; rfl
    clear hN
    go_wp2
    refine ⟨rfl, ?_⟩
    rw [HN.out]
    exact ⟨rfl, (hb3.mono (Nat.le_of_lt hrl)).trans hb7⟩
  have hl7 := id hs7
  have b7 := S7.box bN HNW.out.1 HNW.out.2
  have u1 := b7.cell 1 rfl
  have u2 := b7.cell 2 rfl
  have u3 := b7.cell 3 rfl
  have HQ := HK.out _ S7.b0
  go_wp2
  go_end0
  rw [HO.out, hs7]
  exact S7.done hb3 (Nat.le_of_lt hrl)
set_option maxHeartbeats 4000000 in
theorem declRP (hr : w0.heap.size = r) (hP : PH w0) (x : ByteArray) (m : Nat) (hm : m ≤ 11) (hpub : m / 2 % 2 = 1) (ps : List Tree) (tb : Tree) (nv : Value) (hl : Lies (· < r) w0 (.node 4 x m (ps ++ [tb])) nv) (hps : ∀ t ∈ ps, okN (f + 1) t) (htb : okN (f + 1) tb) (hx : x.size < 4611686018427387904) (hlk : lookK [3, 4] 4 x m (ps.length + 1) = true) (OO : Option (List ByteArray)) (HO : Hid (OO = (procW (f + 1) x m ps tb).bind fun q => some ([⟨#[112, 117, 98]⟩] ++ q)))
    (w : World) (v : Value) (ws : List ByteArray) (hB : Below r w0 w) (hW : WR w r v ws) (hn : (ws.length : Int) + 10 * (cntL ps + cntT tb + 1) ≤ 800000) :
    Calls Tryz.prog 64 #[.pointer (some ⟨r, 0, none⟩), nv] w (WO r w v ws OO) := by
  have c24 : Tryz.prog.cellsOf 24 = 4 := by kernel_rfl
  have hrl := hW.lt
  obtain ⟨b2, b1, -⟩ := bits_all m hm
  rw [decide_eq_true hpub] at b2
  have p0 := cntL_pos ps
  have p1 := cntT_pos tb
  unfold Lies at hl
  obtain ⟨a, c, rfl, ⟨hk1, hk2⟩, hat⟩ := hl
  obtain ⟨g, o, rfl, hg, hat⟩ := hat (by simp)
  simp only [List.length_append, List.length_cons, List.length_nil, Nat.zero_add] at hk1 hk2 ⊢
  have HK : Hid (∀ W : World, Below r w0 W → True) := fun _ _ => trivial
  have hL := lookAt hr hP hB [3, 4] 4 m x (some ⟨g, o, none⟩) (ps.length + 1) c hx hk1 (by decide) (fun i hi => by simp at hi; omega)
  rw [hlk] at hL
  simp only [List.map_cons, List.map_nil, List.length_cons, List.length_nil, Nat.zero_add] at hL
  clear hlk hpub
  have HNW : Hid (w.heap.size ≠ r ∧ v.ownBlock ≠ some w.heap.size) := ⟨by omega, fun e => by have := (hW.row.lt _ e).2; omega⟩
  go_enter Tryz.func64, Tryz.ntmps64
  go_wp2_with (fail)
  refine hL.mono ?_
  clear hL
  intro e w3 hl3
  obtain ⟨rfl, hb3, bN⟩ := hl3.yes
  clear hl3
  have S3 := Wg.start (hB.trans (hb3.mono (Nat.le_of_lt hrl))) (hW.below hb3)
  have u0 := bN.cell 0 rfl
  have u1 := bN.cell 1 rfl
  have u2 := bN.cell 2 rfl
  have u3 := bN.cell 3 rfl
  have HQ := HK.out _ S3.b0
  go_wp2_with (fail)
  refine (S3.put ⟨#[112, 117, 98]⟩ (by simp only [List.length_append, List.length_cons, List.length_nil]; omega)).mono ?_
  rintro e w5 ⟨rfl, v5, S5⟩
  have b5 := S5.box bN HNW.out.1 HNW.out.2
  have u1 := b5.cell 1 rfl
  have u2 := b5.cell 2 rfl
  have u3 := b5.cell 3 rfl
  have HQ := HK.out _ S5.b0
  have u0 := b5.cell 0 rfl
  have hCp := (oProc hr hP x m hm ps tb g o c  hg hk2 hk1 hat hps htb _ _ _ S5.b0 S5.wr (by simp only [List.length_append, List.length_cons, List.length_nil]; push_cast; omega)).mono fun e w' g => S5.wo g
  generalize procW (f + 1) x m ps tb = ob at *
  go_wp2_with (fail)
  refine (hCp).mono ?_
  rintro e w7 (⟨hN, rfl, hb7⟩ | ⟨l7, v7, hs7, rfl, S7⟩)
  · have HN : Hid (OO = none) := by show _ = _; rw [HO.out, hN]; rfl
    clear hN
    go_wp2
    refine ⟨rfl, ?_⟩
    rw [HN.out]
    exact ⟨rfl, (hb3.mono (Nat.le_of_lt hrl)).trans hb7⟩
  have hl7 := id hs7
  have b7 := S7.box bN HNW.out.1 HNW.out.2
  have u1 := b7.cell 1 rfl
  have u2 := b7.cell 2 rfl
  have u3 := b7.cell 3 rfl
  have HQ := HK.out _ S7.b0
  go_wp2
  go_end0
  rw [HO.out, hs7]
  exact S7.done hb3 (Nat.le_of_lt hrl)
end
end pr
end Go.Proofs.YtkoomoemkffjkaaGreatDoor
