/- What the program's has, next, giveUp, skip and take answer: contracts. -/
import Derived.Test.YtoobkaebahogdaaGreatDoorNB05
import Derived.Deep.LoopGhost
import Derived.Test.YtoobkaebahogdaaGreatDoorNB01
set_option linter.unusedVariables false
set_option maxRecDepth 100000
namespace Go.Proofs.YtoobkaebahogdaaGreatDoor
namespace lexs
open Go.RowKit

theorem fine_next {w wr w1 : World} {o : Obj} {e : TypeId} {k n : Nat} {v : Value} {xs : List Value} (hown : wr.ownsRow (w.heap.size + 1) e k v n xs) (hbw : Below (w.heap.size + 1) (w.alloc o) wr) (hb : Below wr.heap.size wr w1) :
    w1.ownsRow (w.heap.size + 1) e k v n xs ∧ Below (w.heap.size + 1) (w.alloc o) w1 := by
  have hs := hbw.size
  rw [World.size_alloc] at hs
  exact ⟨own_below hown hb, hbw.trans (hb.mono hs)⟩
theorem fine_err {w wr : World} {o : Obj} (he : HasErr w) (hbw : Below (w.heap.size + 1) (w.alloc o) wr) : HasErr wr := hasErr_below he (below_old hbw)
set_option maxRecDepth 100000 in
set_option maxHeartbeats 2000000 in
theorem oscan (s : ByteArray) (w : World) (hs : s.size ≤ 3000) (he : HasErr w) :
    Calls Tryz.prog 27 #[.string s] w fun e w' => ∃ v, e = .returned (.tuple #[v, .agg #[.int .i64 (scan s.data.toList).code, .int .i64 (scan s.data.toList).place]]) ∧
      w'.ownsRow w.heap.size 70 3 v (scan s.data.toList).toks.length (cellsOf (scan s.data.toList).toks) ∧ Below w.heap.size w w' := by
  obtain ⟨i0, hi, hz0, hz1, hz2⟩ := info_parts tokInfo
  have hsz : ¬ (3000 : Int) < (s.size : Int) := by omega
  obtain ⟨R, hR⟩ : ∃ R, R = scan s.data.toList := ⟨_, rfl⟩
  rw [← hR]
  have HR : Hid (scanL s.size (s.data.toList.drop 0) 0 [] = R) := by
    show _ = _
    rw [hR, scan, if_neg (by rw [len_L]; omega), len_L]; rfl
  have HE : Hid (HasErr w) := he
  clear hR he
  go_enter Tryz.func27, Tryz.ntmps27
  go_wp2_with (go_at_call 54; refine (skip_any s 0 hs (by omega) _).mono ?_; rintro e w' ⟨q, rfl, hg, hq, hw⟩; obtain rfl := hw.symm)
  obtain ⟨f0, hf0, HR0⟩ := hg.on s.size [] R (by omega) HR.out
  have hqs := hg.top
  go_loopw [4, 5] (fun v i wr => ∃ (p f : Nat) (acc : List Tok), p ≤ s.size ∧ i = .int .i64 p ∧ s.size ≤ p + f ∧ Hid (∀ h : p < s.size, ((s[p].toNat : Int) == 32) = false ∧ ((s[p].toNat : Int) == 10) = false ∧ ((s[p].toNat : Int) == 35) = false) ∧ Hid (scanL f (s.data.toList.drop p) p acc = R) ∧ wr.ownsRow (w.heap.size + 1) 70 3 v acc.length (cellsOf acc) ∧ acc.length ≤ p ∧ Below (w.heap.size + 1) (w.alloc (.cells #[.int .i64 0, .int .i64 0] 27)) wr)
    (fun _ i _ => s.size - (intOf i).toNat)
  case atStart =>
    exact ⟨q, f0, [], hqs, rfl, hf0, hq, HR0, World.ownsRow_nil _ _ _ _, by simp, Below.refl _ _⟩
  case round =>
    obtain ⟨p, f, acc, hp, rfl, hf, HB, HS, hown, hal, hbw⟩ := hrel
    obtain ⟨hc0, hc1, hz0', hz1', hB⟩ := boxes hbw
    have hB' : w.heap.size < wr.heap.size := hB
    by_cases hlt : p < s.size
    · obtain ⟨f, rfl⟩ : ∃ f', f = f' + 1 := ⟨f - 1, by omega⟩
      obtain ⟨n, K, E, hn, hm, H1, H2, HBR, HJ⟩ := row_any s p hs hlt (HB.out hlt).1 (HB.out hlt).2.1 (HB.out hlt).2.2
      have hsl := slice_is 9 Tryz.underlying9 s p n hm
      have hx := ext_size s p n hm
      cases hE : (E != 0)
      · have hst : Hid (stepL (s.data.toList.drop p) = .tok K n) := H1 hE
        clear H1 H2
        have hsk : ∀ w, Calls Tryz.prog 54 #[.string s, .int .i64 ((p : Int) + (n : Int))] w fun e w' => ∃ j : Nat, e = .returned (.int .i64 j) ∧ Goes s (p + n) j ∧ (∀ h : j < s.size, ((s[j].toNat : Int) == 32) = false ∧ ((s[j].toNat : Int) == 10) = false ∧ ((s[j].toNat : Int) == 35) = false) ∧ w' = w := by
          intro w
          have h := skip_any s (p + n) hs hm w
          rw [Int.natCast_add] at h
          exact h
        go_wp2_with (first
          | (go_at_call 56; refine (HBR _).mono ?_; rintro e w1 ⟨fv, rfl, hb1, hreach⟩)
          | (go_at_call 55; refine hreach.mono ?_; rintro e w2 ⟨rfl, hb2⟩; obtain ⟨hown2, hbw2⟩ := fine_next hown hbw hb2)
          | (go_at_call 57; refine (HJ _ (fine_err HE.out hbw2)).mono ?_; rintro e w3 ⟨rfl, hb3⟩; obtain ⟨hown3, hbw3⟩ := fine_next hown2 hbw2 hb3;  clear hown2 hbw2 hb2 hb3)
          | (go_at_call 58; refine (clone_any _ (by omega) _).mono ?_; rintro e w4 ⟨rfl, hb4⟩; obtain ⟨hown4, hbw4⟩ := fine_next hown3 hbw3 hb4; obtain ⟨_, _, _, _, hB4⟩ := boxes hbw4; clear hown3 hbw3 hb4)
          | (at_builtin; refine wpList_append_own _ rfl (.tmp 40) (.tmp 49) 59 rfl (w.heap.size + 1) 70 i0 (.agg #[.int .i64 0, .string ⟨#[]⟩, .int .i64 0]) 3 32 Tryz.underlying59 hi hz0 hz1 hz2 rfl (by decide) _ _ _ rfl (hown4.alloc _) ⟨w4.heap.size, 0, none⟩ 1 1 [.int .i64 K, .string (s.extract p (p + n)), .int .i64 (p : Int)] rfl rfl (cell_three_new _ _ _ _ _ _ (by simp)) (one_cells _ _ _) (by unfold maxLen; omega) (by omega) (by simp <;> omega) ?_; intro v' w5 hown' hgrow hne; have X : Hid (w5.ownsRow (w.heap.size + 1) 70 3 v' (acc.length + 1) (cellsOf acc ++ [.int .i64 K, .string (s.extract p (p + n)), .int .i64 (p : Int)]) ∧ Below (w.heap.size + 1) (w.alloc (.cells #[.int .i64 0, .int .i64 0] 27)) w5) := ⟨hown', rel_tok (hbw4.alloc (by omega) _) (by simp <;> omega) (hown4.alloc _) hgrow⟩; clear hown' hgrow hne)
          | (go_at_call 54; refine (hsk _).mono ?_; rintro e w' ⟨j, rfl, hg2, hq2, hw⟩; obtain rfl := hw.symm))
        have hT := go_tok hlt hst.out HS.out
        obtain ⟨f', hf', HR'⟩ := hg2.on f _ R (by omega) hT.1
        have hjt := hg2.top
        have hjl := hg2.le
        go_roundw
        case rel => exact ⟨j, f', _, hjt, rfl, hf', hq2, HR', own_tok X.out.1, by rw [List.length_append]; simp; omega, X.out.2⟩
        case measure => simp [intOf]; omega
      · have hst : Hid (stepL (s.data.toList.drop p) = .fault E) := H2 hE
        clear H1 H2
        have hend := go_fault hlt hst.out HS.out
        subst hend
        go_wp2_with (first
          | (go_at_call 56; refine (HBR _).mono ?_; rintro e w1 ⟨fv, rfl, hb1, hreach⟩)
          | (go_at_call 55; refine hreach.mono ?_; rintro e w2 ⟨rfl, hb2⟩; obtain ⟨hown2, hbw2⟩ := fine_next hown hbw hb2)
          | (go_at_call 57; refine (HJ _ (fine_err HE.out hbw2)).mono ?_; rintro e w3 ⟨rfl, hb3⟩; obtain ⟨hown3, hbw3⟩ := fine_next hown2 hbw2 hb3; obtain ⟨c0, c1, e0, e1, hB3⟩ := boxes hbw3; clear hown2 hbw2 hb2 hb3))
        refine bodyPost_ret (v := .tuple #[.slice none 0 0, .agg #[.int .i64 E, .int .i64 p]]) (by simp [results, Tryz.results27, go_sem, c0, c1]) rfl ⟨_, rfl, World.ownsRow_nil _ _ _ _, ?_⟩
        exact ((below_old hbw3).setCell (Nat.le_refl _) _).setCell (Nat.le_refl _) _
    · have hend := go_end (by omega) HS.out
      subst hend
      go_wp2
      refine bodyPost_ret (v := .tuple #[u4, .agg #[.int .i64 0, .int .i64 0]]) (by simp [results, Tryz.results27, go_sem, hc0, hc1]) rfl ⟨u4, rfl, ?_, ?_⟩
      · exact ownsRow_le (ownsRow_setCell_below (ownsRow_setCell_below hown (by simp) _) (by simp) _) (by omega)
      · exact ((below_old hbw).setCell (Nat.le_refl _) _).setCell (Nat.le_refl _) _
theorem oscan_long (s : ByteArray) (w : World) (hs : 3000 < s.size) :
    Calls Tryz.prog 27 #[.string s] w fun e w' => ∃ v, e = .returned (.tuple #[v, .agg #[.int .i64 (scan s.data.toList).code, .int .i64 (scan s.data.toList).place]]) ∧
      w'.ownsRow w.heap.size 70 3 v (scan s.data.toList).toks.length (cellsOf (scan s.data.toList).toks) ∧ Below w.heap.size w w' := by
  have hsz : (3000 : Int) < (s.size : Int) := by omega
  have hR : scan s.data.toList = .err 1 0 := by rw [scan, if_pos (by rw [len_L]; omega)]
  rw [hR]
  clear hR
  go_enter Tryz.func27, Tryz.ntmps27
  go_wp2
  refine bodyPost_ret (v := .tuple #[.slice none 0 0, .agg #[.int .i64 1, .int .i64 0]]) (by simp [results, Tryz.results27, go_sem]) rfl ⟨_, rfl, World.ownsRow_nil _ _ _ _, ?_⟩
  exact (Below.refl _ _).alloc (Nat.le_refl _) _
/-- THE CONTRACT: whatever the text -/
theorem scan_own (s : ByteArray) : Scans HasErr 27 s := by
  intro w he
  rcases Nat.lt_or_ge 3000 s.size with h | h
  · exact oscan_long s w h
  · exact oscan s w h he
end lexs
namespace syn
open Go

theorem append_block {P : Program} (w : World) (base : Nat) (t ty e : TypeId) (i : TypeInfo) (z : Value) (size bytes : Nat) (ht : P.underlying t = some (.slice e)) (hi : P.info? e = some i) (hz : i.zero = some z)
    (hsize : i.size = size) (hby : i.bytes = bytes) (v : Value) (n : Nat) (xs : List Value) (hown : w.ownsRow base e size v n xs)
    (a : Addr) (m c : Nat) (news : List Value) (hl : news.length = m * size) (hnews : ∀ j u, news[j]? = some u → w.cell? (a.add j) = some u) (h1 : ∀ u ∈ news, u.oneCell' = true)
    (h63 : n + m ≤ maxLen) (hbytes : (n + m) * bytes ≤ 140737488355328) (hm : 0 < m) {v' : Value} {w' : World}
    (hr : (Builtin.append_ #[t, t] ty #[v, .slice (some a) m c]).run P w = .ok v' w') : v'.ownBlock = v.ownBlock ∨ v'.ownBlock = some w.heap.size := by
  subst hsize
  subst hby
  have hsmall : n + m ≤ 9223372036854775807 := by simp only [maxLen] at h63; omega
  rcases hown.2 with ⟨rfl, rfl⟩ | ⟨g, cap, cur, rfl, hbg, hg, hnc, hcm, hcs, htake⟩
  · have hx := run_append_nil (P := P) w t ty e i z ht hi hz a m c news hl hnews (by omega) (by omega) (by simp only [Nat.zero_add] at hbytes; omega)
    rw [hr] at hx
    injection hx with hv _
    rw [hv]
    exact .inr rfl
  · by_cases hroom : n + m ≤ cap
    · have hfit : n * i.size + news.length ≤ cur.size := by rw [hl, hcs, ← Nat.add_mul]; exact Nat.mul_le_mul_right _ hroom
      have hx := run_append_room (P := P) w t ty e i ht hi g n cap cur hg a m c news hl hnews h1 hroom hfit
      rw [hr] at hx
      injection hx with hv _
      rw [hv]
      exact .inl rfl
    · have holds : ∀ j u, xs[j]? = some u → w.cell? ((⟨g, 0, none⟩ : Addr).add j) = some u := hown.cells (g := g) rfl
      have hx := run_append_grow (P := P) w t ty e i z ht hi hz ⟨g, 0, none⟩ n cap xs hown.1 holds a m c news hl hnews (by omega) (by omega) (growslice_fits (by omega) hbytes)
      rw [hr] at hx
      injection hx with hv _
      rw [hv]
      exact .inr rfl
theorem wpList_append_fresh {P : Program} {w : World} {ops : Array Oper} {rest : List Oper} {o : Oper} {a : Act} {Q : Exit → Act → World → Prop} (hgd : o.guard = none) (s x : Operand) (t : TypeId)
    (ho : o.op = .call { callee := .builtin .append, args := #[s, x], argTypes := #[t, t] })
    (base : Nat) (e : TypeId) (i : TypeInfo) (z : Value) (size bytes : Nat) (ht : P.underlying t = some (.slice e)) (hi : P.info? e = some i) (hz : i.zero = some z)
    (hsize : i.size = size) (hby : i.bytes = bytes) (hzs : z.cells.size = size) (hsz : 0 < size)
    (v : Value) (n : Nat) (xs : List Value) (hs : a.eval s = v) (hown : w.ownsRow base e size v n xs)
    (ad : Addr) (m c : Nat) (news : List Value) (hx : a.eval x = .slice (some ad) m c) (hl : news.length = m * size) (hnews : ∀ j u, news[j]? = some u → w.cell? (ad.add j) = some u) (h1 : ∀ u ∈ news, u.oneCell' = true)
    (h63 : n + m ≤ maxLen) (hbytes : (n + m) * bytes ≤ 140737488355328) (hbase : base ≤ w.heap.size) (hm : 0 < m)
    (h : ∀ v' w', w'.ownsRow base e size v' (n + m) (xs ++ news) → w.grownBy w' v.ownBlock → (v'.ownBlock = v.ownBlock ∨ v'.ownBlock = some w.heap.size) → wpList P ops Q rest (a.put o.dst v') w') : wpList P ops Q (o :: rest) a w := by
  refine wpList_plain hgd fun K hK => ?_
  obtain ⟨v', w', hr, h2, h3, _⟩ := run_append_own (P := P) w base t o.type e i z size bytes ht hi hz hsize hby hzs hsz v n xs hown ad m c news hl hnews h1 h63 hbytes hbase
  have h4 := append_block w base t o.type e i z size bytes ht hi hz hsize hby v n xs hown ad m c news hl hnews h1 h63 hbytes hm hr
  unfold Oper.wp execOp
  simp only [ho, resolve, invoke, builtin, Sem.run_bind, Sem.run_pure, Result.andThen_ok, List.map_toArray, List.map_cons, List.map_nil, hs, hx, hr]
  exact hK _ _ (h v' w' h2 h3 h4)
end syn
namespace syn
open Go.RowKit

/-- four cells in a row -/
def cell4 (w : World) (g o : Nat) (v : Value) : Prop := ∃ x0 x1 x2 x3, v = .agg #[x0, x1, x2, x3] ∧ w.cell? ⟨g, o, none⟩ = some x0 ∧ w.cell? ⟨g, o + 1, none⟩ = some x1 ∧ w.cell? ⟨g, o + 2, none⟩ = some x2 ∧ w.cell? ⟨g, o + 3, none⟩ = some x3
mutual
/-- the value of a node: its tree lies in blocks such as P says -/
def Lies (P : Nat → Prop) (w : World) : Tree → Value → Prop
  | .node k x m ks, v => ∃ a c, v = .agg #[.int .i64 k, .string x, .int .i64 m, .slice a ks.length c] ∧ (ks.length ≤ 4611686018427387904 ∧ ks.length ≤ c) ∧ (ks ≠ [] → ∃ g o, a = some ⟨g, o, none⟩ ∧ P g ∧ LiesAt P w ks g o)
def LiesAt (P : Nat → Prop) (w : World) : List Tree → Nat → Nat → Prop
  | [], _, _ => True
  | t :: r, g, o => (∃ v, cell4 w g o v ∧ Lies P w t v) ∧ LiesAt P w r g (o + 4)
end
mutual
theorem Lies.to {P Q : Nat → Prop} {w w' : World} (hPQ : ∀ b, P b → Q b) (hw : ∀ b, P b → ∀ o, w'.cell? ⟨b, o, none⟩ = w.cell? ⟨b, o, none⟩) : ∀ {t : Tree} {v : Value}, Lies P w t v → Lies Q w' t v
  | .node k x m ks, v, h => by
    unfold Lies at h ⊢
    obtain ⟨a, c, e, hl, hk⟩ := h
    refine ⟨a, c, e, hl, fun hne => ?_⟩
    obtain ⟨g, o, e2, hp, hat⟩ := hk hne
    exact ⟨g, o, e2, hPQ _ hp, LiesAt.to hPQ hw hp hat⟩
theorem LiesAt.to {P Q : Nat → Prop} {w w' : World} (hPQ : ∀ b, P b → Q b) (hw : ∀ b, P b → ∀ o, w'.cell? ⟨b, o, none⟩ = w.cell? ⟨b, o, none⟩) : ∀ {ks : List Tree} {g o : Nat}, P g → LiesAt P w ks g o → LiesAt Q w' ks g o
  | [], g, o, hp, h => by unfold LiesAt; trivial
  | t :: r, g, o, hp, h => by
    unfold LiesAt at h ⊢
    obtain ⟨⟨v, ⟨x0, x1, x2, x3, e, c0, c1, c2, c3⟩, hl⟩, hr⟩ := h
    refine ⟨⟨v, ⟨x0, x1, x2, x3, e, ?_, ?_, ?_, ?_⟩, Lies.to hPQ hw hl⟩, LiesAt.to hPQ hw hp hr⟩
    · rw [hw _ hp]; exact c0
    · rw [hw _ hp]; exact c1
    · rw [hw _ hp]; exact c2
    · rw [hw _ hp]; exact c3
end
/-- the i-th kid -/
theorem LiesAt.get {P : Nat → Prop} {w : World} : ∀ {ks : List Tree} {g o : Nat}, LiesAt P w ks g o → ∀ (i : Nat) (hi : i < ks.length), ∃ v, cell4 w g (o + i * 4) v ∧ Lies P w ks[i] v
  | [], g, o, h, i, hi => by simp at hi
  | t :: r, g, o, h, i, hi => by
    unfold LiesAt at h
    cases i with
    | zero => simpa using h.1
    | succ i =>
      have := LiesAt.get h.2 i (by simpa using hi)
      have e : o + (i + 1) * 4 = o + 4 + i * 4 := by omega
      rw [e]
      exact this
/-- behind a call that leaves all that was there -/
theorem Lies.below {w w' : World} {t : Tree} {v : Value} (h : Lies (· < w.heap.size) w t v) (hb : Below w.heap.size w w') : Lies (· < w'.heap.size) w' t v :=
  h.to (fun b hb' => Nat.lt_of_lt_of_le hb' hb.size) (fun b hb' o => hb.cell (p := ⟨b, o, none⟩) hb')
theorem LiesAt.below {w w' : World} {ks : List Tree} {g o : Nat} (hg : g < w.heap.size) (h : LiesAt (· < w.heap.size) w ks g o) (hb : Below w.heap.size w w') : LiesAt (· < w'.heap.size) w' ks g o :=
  h.to (fun b hb' => Nat.lt_of_lt_of_le hb' hb.size) (fun b hb' o => hb.cell (p := ⟨b, o, none⟩) hb') hg
theorem Lies.drew {w : World} {t : Tree} {v : Value} (h : Lies (· < w.heap.size) w t v) : Lies (· < w.drew.heap.size) w.drew t v :=
  Lies.to (w := w) (w' := w.drew) (fun _ h => h) (fun _ _ _ => rfl) h
theorem kid_lt {k : Int} {x : ByteArray} {m : Int} {ks : List Tree} {i : Nat} (hi : i < ks.length) : SizeOf.sizeOf ks[i] < SizeOf.sizeOf (Tree.node k x m ks) := by
  have h1 := List.sizeOf_lt_of_mem (List.getElem_mem hi)
  simp
  omega
end syn
namespace syn
open Go.RowKit
open Go.Proofs.YtoobkaebahogdaaGreatDoor.lexs (Tok cellsOf tok_cells own_shape numE)

/-- what leaves all blocks that were there but the reader's -/
abbrev Fr (r : Nat) (w w' : World) : Prop := w.grownBy w' (some r)
theorem Fr.refl (r : Nat) (w : World) : Fr r w w := World.grownBy.refl _ _
theorem Fr.drewN {r : Nat} {w w' : World} (h : Fr r w w') (n : Nat) : Fr r w (w'.drewN n) := ⟨h.os, h.tape, h.output, h.size, h.block⟩
theorem Fr.trans {r : Nat} {a b c : World} (h : Fr r a b) (k : Fr r b c) : Fr r a c :=
  ⟨k.os.trans h.os, k.tape.trans h.tape, k.output.trans h.output, Nat.le_trans h.size k.size, fun j hj hn => (k.block j (Nat.lt_of_lt_of_le hj h.size) hn).trans (h.block j hj hn)⟩
theorem Fr.set {r : Nat} {w w' : World} (h : Fr r w w') (o : Nat) (v : Value) : Fr r w (w'.setCell ⟨r, o, none⟩ v) :=
  ⟨h.os, h.tape, h.output, by rw [World.size_setCell]; exact h.size, fun j hj hn => (Below.heap_setCell _ _ _ _ (fun e => hn (by rw [e]))).trans (h.block j hj hn)⟩
end syn
namespace syn
open Go.RowKit
open Go.Proofs.YtoobkaebahogdaaGreatDoor.lexs (Tok ltrI insI)

section
variable {w : World} {r : Nat} {L : Value} {ts : List Tok} {s : St}
theorem Fr.below {w' : World} (hb : Below w.heap.size w w') : Fr r w w' := ⟨hb.os, hb.tape, hb.output, hb.size, fun j hj _ => hb.block j hj⟩
end

theorem ret_str {x y : ByteArray} (h : x = y) : Ending.returned (.string x) = .returned (.string y) := by rw [h]
theorem name_size (ts : List Tok) (s : St) : (name ts s).1.size ≤ 16 := by
  unfold name
  cases he : isName (txt ts s)
  · exact Nat.zero_le _
  · simp only [if_true]
    rcases Nat.lt_or_ge 16 (txt ts s).size with h | h
    · rw [isName_short (by omega)] at he
      exact absurd he (by decide)
    · exact h
end syn
namespace syn
open Go.RowKit
open Go.Proofs.YtoobkaebahogdaaGreatDoor.lexs (Tok ltrI insI digB val numE tok_cells own_shape)

section
variable {w : World} {r : Nat} {L : Value} {ts : List Tok} {s : St}
theorem Fr.alloc {w' : World} (h : Fr r w w') (o : Obj) : Fr r w (w'.alloc o) := h.trans (Fr.below ((Below.refl _ _).alloc (Nat.le_refl _) o))
/-- a node without kids lies wherever it is -/
theorem Lies.leaf (P : Nat → Prop) (w : World) (k : Int) (x : ByteArray) (m : Int) : Lies P w (.node k x m []) (.agg #[.int .i64 k, .string x, .int .i64 m, .slice none 0 0]) := by
  unfold Lies
  exact ⟨none, 0, rfl, ⟨by simp, by simp⟩, fun h => absurd rfl h⟩
/-- four cells of a block of its own, that can be written -/
structure Box4 (w : World) (N : Nat) (x0 x1 x2 x3 : Value) : Prop where
  c0 : w.cell? ⟨N, 0, none⟩ = some x0
  c1 : w.cell? ⟨N, 1, none⟩ = some x1
  c2 : w.cell? ⟨N, 2, none⟩ = some x2
  c3 : w.cell? ⟨N, 3, none⟩ = some x3
  f0 : w.frozen? ⟨N, 0, none⟩ = false
  f1 : w.frozen? ⟨N, 1, none⟩ = false
  f2 : w.frozen? ⟨N, 2, none⟩ = false
  f3 : w.frozen? ⟨N, 3, none⟩ = false
theorem Box4.new (w : World) (x0 x1 x2 x3 : Value) (T : TypeId) : Box4 (w.alloc (.cells #[x0, x1, x2, x3] T)) w.heap.size x0 x1 x2 x3 := by
  constructor <;> simp
theorem Box4.lt {N : Nat} {x0 x1 x2 x3 : Value} (h : Box4 w N x0 x1 x2 x3) : N < w.heap.size := World.block_lt_of_cell? w ⟨N, 0, none⟩ h.c0
theorem Box4.fr {w' : World} {N : Nat} {x0 x1 x2 x3 : Value} (h : Box4 w N x0 x1 x2 x3) (hF : Fr r w w') (hN : N ≠ r) : Box4 w' N x0 x1 x2 x3 := by
  have hb := hF.block N h.lt (by simpa using hN)
  exact ⟨(World.cell?_of_block (a := ⟨N, 0, none⟩) hb).trans h.c0, (World.cell?_of_block (a := ⟨N, 1, none⟩) hb).trans h.c1, (World.cell?_of_block (a := ⟨N, 2, none⟩) hb).trans h.c2, (World.cell?_of_block (a := ⟨N, 3, none⟩) hb).trans h.c3,
    (World.frozen?_of_block (a := ⟨N, 0, none⟩) hb).trans h.f0, (World.frozen?_of_block (a := ⟨N, 1, none⟩) hb).trans h.f1, (World.frozen?_of_block (a := ⟨N, 2, none⟩) hb).trans h.f2, (World.frozen?_of_block (a := ⟨N, 3, none⟩) hb).trans h.f3⟩
theorem Box4.alloc {N : Nat} {x0 x1 x2 x3 : Value} (h : Box4 w N x0 x1 x2 x3) (o : Obj) : Box4 (w.alloc o) N x0 x1 x2 x3 :=
  h.fr (r := w.heap.size) (Fr.below ((Below.refl _ _).alloc (Nat.le_refl _) o)) (by have := h.lt; omega)
theorem Box4.drewN {N : Nat} {x0 x1 x2 x3 : Value} (h : Box4 w N x0 x1 x2 x3) (n : Nat) : Box4 (w.drewN n) N x0 x1 x2 x3 := ⟨h.c0, h.c1, h.c2, h.c3, h.f0, h.f1, h.f2, h.f3⟩
theorem Box4.other {N M o : Nat} {x0 x1 x2 x3 : Value} (h : Box4 w N x0 x1 x2 x3) (hM : M ≠ N) (v : Value) : Box4 (w.setCell ⟨M, o, none⟩ v) N x0 x1 x2 x3 :=
  h.fr (r := M) ((Fr.refl _ _).set o v) (by omega)
theorem Box4.set2 {N : Nat} {x0 x1 x2 x3 : Value} (h : Box4 w N x0 x1 x2 x3) (v : Value) : Box4 (w.setCell ⟨N, 2, none⟩ v) N x0 x1 v x3 :=
  ⟨by rw [World.cell?_setCell_other _ _ _ _ (by simp)]; exact h.c0, by rw [World.cell?_setCell_other _ _ _ _ (by simp)]; exact h.c1, World.cell?_setCell_same _ _ _ h.c2, by rw [World.cell?_setCell_other _ _ _ _ (by simp)]; exact h.c3, by simp [h.f0], by simp [h.f1], by simp [h.f2], by simp [h.f3]⟩
theorem Box4.set3 {N : Nat} {x0 x1 x2 x3 : Value} (h : Box4 w N x0 x1 x2 x3) (v : Value) : Box4 (w.setCell ⟨N, 3, none⟩ v) N x0 x1 x2 v :=
  ⟨by rw [World.cell?_setCell_other _ _ _ _ (by simp)]; exact h.c0, by rw [World.cell?_setCell_other _ _ _ _ (by simp)]; exact h.c1, by rw [World.cell?_setCell_other _ _ _ _ (by simp)]; exact h.c2, World.cell?_setCell_same _ _ _ h.c3, by simp [h.f0], by simp [h.f1], by simp [h.f2], by simp [h.f3]⟩
theorem Fr.setNew {w' : World} (h : Fr r w w') {N o : Nat} (hN : w.heap.size ≤ N) (v : Value) : Fr r w (w'.setCell ⟨N, o, none⟩ v) :=
  ⟨h.os, h.tape, h.output, by rw [World.size_setCell]; exact h.size, fun j hj hn => (Below.heap_setCell _ _ _ _ (by simp; omega)).trans (h.block j hj hn)⟩
theorem Fr.put4 {w' : World} (h : Fr r w w') {N : Nat} (hN : w.heap.size ≤ N) (x0 x1 x2 x3 : Value) : Fr r w ((((w'.setCell ⟨N, 0, none⟩ x0).setCell ⟨N, 1, none⟩ x1).setCell ⟨N, 2, none⟩ x2).setCell ⟨N, 3, none⟩ x3) :=
  (((h.setNew hN x0).setNew hN x1).setNew hN x2).setNew hN x3
end
end syn
namespace syn
open Go.RowKit
open Go.Proofs.YtoobkaebahogdaaGreatDoor.lexs (Tok tok_cells own_shape)

section
variable {w : World} {r : Nat} {L : Value} {ts : List Tok} {s : St}
/-- a node's value is four cells -/
theorem Lies.shape {P : Nat → Prop} {t : Tree} {v : Value} (h : Lies P w t v) : ∃ k x m sl, v = .agg #[.int .i64 k, .string x, .int .i64 m, sl] ∧ ∃ a n c, sl = .slice a n c := by
  cases t with
  | node k x m ks =>
    unfold Lies at h
    obtain ⟨a, c, rfl, _⟩ := h
    exact ⟨k, x, m, _, rfl, a, ks.length, c, rfl⟩
/-- behind a call of the reader's -/
theorem Lies.fr {B : Nat} {w1 w2 : World} {t : Tree} {v : Value} (h : Lies (fun b => B ≤ b ∧ b < w1.heap.size) w1 t v) (hr : r < B) (hF : Fr r w1 w2) : Lies (fun b => B ≤ b ∧ b < w2.heap.size) w2 t v :=
  h.to (fun b hb => ⟨hb.1, Nat.lt_of_lt_of_le hb.2 hF.size⟩) (fun b hb o => World.cell?_of_block (a := ⟨b, o, none⟩) (hF.block b hb.2 (by simp; omega)))
theorem Lies.low {B B' : Nat} {t : Tree} {v : Value} (h : Lies (fun b => B ≤ b ∧ b < w.heap.size) w t v) (hB : B' ≤ B) : Lies (fun b => B' ≤ b ∧ b < w.heap.size) w t v :=
  h.to (fun b hb => ⟨Nat.le_trans hB hb.1, hb.2⟩) (fun _ _ _ => rfl)
theorem Fr.put (w : World) (N : Nat) (x0 x1 x2 x3 : Value) : Fr N w ((((w.setCell ⟨N, 0, none⟩ x0).setCell ⟨N, 1, none⟩ x1).setCell ⟨N, 2, none⟩ x2).setCell ⟨N, 3, none⟩ x3) :=
  ((((Fr.refl _ _).set _ _).set _ _).set _ _).set _ _
theorem Fr.al (w : World) (o : Obj) : Fr r w (w.alloc o) := (Fr.refl _ _).alloc o
theorem cell4_new (w : World) {y0 y1 y2 y3 : Value} {T : TypeId} {M : Nat} (hM : M = w.heap.size) : cell4 (w.alloc (.cells #[y0, y1, y2, y3] T)) M 0 (.agg #[y0, y1, y2, y3]) := by
  subst hM
  exact ⟨y0, y1, y2, y3, rfl, by simp, by simp, by simp, by simp⟩
theorem Lies.one {P : Nat → Prop} {M : Nat} {t : Tree} {v : Value} {k m : Int} {x : ByteArray} {c : Nat} (hP : P M) (h4 : cell4 w M 0 v) (hL : Lies P w t v) (hc : 1 ≤ c := by omega) : Lies P w (.node k x m [t]) (.agg #[.int .i64 k, .string x, .int .i64 m, .slice (some ⟨M, 0, none⟩) 1 c]) := by
  unfold Lies
  refine ⟨some ⟨M, 0, none⟩, c, rfl, ⟨by simp, by simpa using hc⟩, fun _ => ⟨M, 0, rfl, hP, ?_⟩⟩
  unfold LiesAt
  exact ⟨⟨v, h4, hL⟩, by unfold LiesAt; trivial⟩
end

section
variable {w : World} {r : Nat} {L : Value} {ts : List Tok} {s : St}
theorem Lies.frP {P Q : Nat → Prop} {x : Nat} {w1 w2 : World} {t : Tree} {v : Value} (h : Lies P w1 t v) (hF : Fr x w1 w2) (hP : ∀ b, P b → b < w1.heap.size ∧ b ≠ x) (hQ : ∀ b, P b → Q b) : Lies Q w2 t v :=
  h.to hQ (fun b hb o => World.cell?_of_block (a := ⟨b, o, none⟩) (hF.block b (hP b hb).1 (by have := (hP b hb).2; simpa using this)))
theorem Lies.two {P : Nat → Prop} {M : Nat} {t t' : Tree} {v v' : Value} {k m : Int} {x : ByteArray} {c : Nat} (hP : P M) (h4 : cell4 w M 0 v) (h4' : cell4 w M 4 v') (hL : Lies P w t v) (hL' : Lies P w t' v') (hc : 2 ≤ c := by omega) : Lies P w (.node k x m [t, t']) (.agg #[.int .i64 k, .string x, .int .i64 m, .slice (some ⟨M, 0, none⟩) 2 c]) := by
  unfold Lies
  refine ⟨some ⟨M, 0, none⟩, c, rfl, ⟨by simp, by simpa using hc⟩, fun _ => ⟨M, 0, rfl, hP, ?_⟩⟩
  unfold LiesAt
  refine ⟨⟨v, h4, hL⟩, ?_⟩
  unfold LiesAt
  exact ⟨⟨v', h4', hL'⟩, by unfold LiesAt; trivial⟩
theorem cell4_two (w : World) {y0 y1 y2 y3 z0 z1 z2 z3 : Value} {T : TypeId} {M : Nat} (hM : M = w.heap.size) : cell4 (w.alloc (.cells #[y0, y1, y2, y3, z0, z1, z2, z3] T)) M 0 (.agg #[y0, y1, y2, y3]) ∧ cell4 (w.alloc (.cells #[y0, y1, y2, y3, z0, z1, z2, z3] T)) M 4 (.agg #[z0, z1, z2, z3]) := by
  subst hM
  exact ⟨⟨y0, y1, y2, y3, rfl, by simp, by simp, by simp, by simp⟩, ⟨z0, z1, z2, z3, rfl, by simp, by simp, by simp, by simp⟩⟩
theorem Box4.put {N : Nat} {x0 x1 x2 x3 y0 y1 y2 y3 : Value} (h : Box4 w N x0 x1 x2 x3) : Box4 ((((w.setCell ⟨N, 0, none⟩ y0).setCell ⟨N, 1, none⟩ y1).setCell ⟨N, 2, none⟩ y2).setCell ⟨N, 3, none⟩ y3) N y0 y1 y2 y3 := by
  have h0 : ∀ o, (World.setCell w ⟨N, 0, none⟩ y0).frozen? ⟨N, o, none⟩ = w.frozen? ⟨N, o, none⟩ := fun o => by simp
  refine ⟨?_, ?_, ?_, ?_, by simp [h.f0], by simp [h.f1], by simp [h.f2], by simp [h.f3]⟩
  · rw [World.cell?_setCell_other _ _ _ _ (by simp), World.cell?_setCell_other _ _ _ _ (by simp), World.cell?_setCell_other _ _ _ _ (by simp)]
    exact World.cell?_setCell_same _ _ _ h.c0
  · rw [World.cell?_setCell_other _ _ _ _ (by simp), World.cell?_setCell_other _ _ _ _ (by simp)]
    exact World.cell?_setCell_same _ _ _ (u := x1) (by rw [World.cell?_setCell_other _ _ _ _ (by simp)]; exact h.c1)
  · rw [World.cell?_setCell_other _ _ _ _ (by simp)]
    exact World.cell?_setCell_same _ _ _ (u := x2) (by rw [World.cell?_setCell_other _ _ _ _ (by simp), World.cell?_setCell_other _ _ _ _ (by simp)]; exact h.c2)
  · exact World.cell?_setCell_same _ _ _ (u := x3) (by rw [World.cell?_setCell_other _ _ _ _ (by simp), World.cell?_setCell_other _ _ _ _ (by simp), World.cell?_setCell_other _ _ _ _ (by simp)]; exact h.c3)
end
end syn
namespace syn
open Go.RowKit
open Go.Proofs.YtoobkaebahogdaaGreatDoor.lexs (Tok own_shape)

theorem nodeInfo : (Tryz.prog.info? 24).map (fun i => (i.zero, i.size, i.bytes)) = some (some (.agg #[.int .i64 0, .string ⟨#[]⟩, .int .i64 0, .slice none 0 0]), 4, 56) := by kernel_rfl
abbrev Q4 := Value × Value × Value × Value
def Q4.v (q : Q4) : Value := .agg #[q.1, q.2.1, q.2.2.1, q.2.2.2]
def flat4 (vs : List Q4) : List Value := vs.flatMap fun q => [q.1, q.2.1, q.2.2.1, q.2.2.2]
theorem flat4_snoc (vs : List Q4) (q : Q4) : flat4 (vs ++ [q]) = flat4 vs ++ [q.1, q.2.1, q.2.2.1, q.2.2.2] := by simp [flat4]
def AllLie (P : Nat → Prop) (w : World) : List Tree → List Q4 → Prop
  | [], [] => True
  | t :: r, q :: vs => Lies P w t q.v ∧ AllLie P w r vs
  | _, _ => False
theorem AllLie.length {P : Nat → Prop} {w : World} : ∀ {ks : List Tree} {vs : List Q4}, AllLie P w ks vs → ks.length = vs.length
  | [], [], _ => rfl
  | t :: r, q :: vs, h => by simp [AllLie.length h.2]
  | [], _ :: _, h => by simp [AllLie] at h
  | _ :: _, [], h => by simp [AllLie] at h
theorem AllLie.to {P Q : Nat → Prop} {w w' : World} (hPQ : ∀ b, P b → Q b) (hw : ∀ b, P b → ∀ o, w'.cell? ⟨b, o, none⟩ = w.cell? ⟨b, o, none⟩) : ∀ {ks : List Tree} {vs : List Q4}, AllLie P w ks vs → AllLie Q w' ks vs
  | [], [], _ => trivial
  | t :: r, q :: vs, h => ⟨h.1.to hPQ hw, AllLie.to hPQ hw h.2⟩
  | [], _ :: _, h => by simp [AllLie] at h
  | _ :: _, [], h => by simp [AllLie] at h
theorem AllLie.snoc {P : Nat → Prop} {w : World} {t : Tree} {q : Q4} (hq : Lies P w t q.v) : ∀ {ks : List Tree} {vs : List Q4}, AllLie P w ks vs → AllLie P w (ks ++ [t]) (vs ++ [q])
  | [], [], _ => ⟨hq, trivial⟩
  | t' :: r, q' :: vs, h => ⟨h.1, AllLie.snoc hq h.2⟩
  | [], _ :: _, h => by simp [AllLie] at h
  | _ :: _, [], h => by simp [AllLie] at h
theorem AllLie.at {P : Nat → Prop} {w : World} {g : Nat} : ∀ {ks : List Tree} {vs : List Q4} {o : Nat}, AllLie P w ks vs → (∀ j, j < vs.length * 4 → w.cell? ⟨g, o + j, none⟩ = (flat4 vs)[j]?) → LiesAt P w ks g o
  | [], [], o, _, _ => by unfold LiesAt; trivial
  | t :: r, q :: vs, o, h, hc => by
    unfold LiesAt
    have e : flat4 (q :: vs) = [q.1, q.2.1, q.2.2.1, q.2.2.2] ++ flat4 vs := rfl
    refine ⟨⟨q.v, ⟨q.1, q.2.1, q.2.2.1, q.2.2.2, rfl, ?_, ?_, ?_, ?_⟩, h.1⟩, AllLie.at h.2 ?_⟩
    · have := hc 0 (by simp <;> omega); rw [e] at this; simpa using this
    · have := hc 1 (by simp <;> omega); rw [e] at this; simpa using this
    · have := hc 2 (by simp <;> omega); rw [e] at this; simpa using this
    · have := hc 3 (by simp <;> omega); rw [e] at this; simpa using this
    · intro j hj
      have := hc (4 + j) (by simp; omega)
      rw [e, List.getElem?_append_right (by simp), ← Nat.add_assoc] at this
      simpa using this
  | [], _ :: _, _, h, _ => by simp [AllLie] at h
  | _ :: _, [], _, h, _ => by simp [AllLie] at h
/-- a row of nodes of one's own -/
def Kids (B : Nat) (P : Nat → Prop) (w : World) (kv : Value) (ks : List Tree) : Prop := ∃ vs, w.ownsRow B 24 4 kv ks.length (flat4 vs) ∧ AllLie P w ks vs
theorem Kids.nil (B : Nat) (P : Nat → Prop) (w : World) : Kids B P w (.slice none 0 0) [] := ⟨[], World.ownsRow_nil _ _ _ _, trivial⟩
theorem Kids.lies {B : Nat} {P Q : Nat → Prop} {w : World} {kv : Value} {ks : List Tree} {k m : Int} {x : ByteArray} (h : Kids B P w kv ks) (hPQ : ∀ b, P b → Q b) (hg : ∀ g, kv.ownBlock = some g → Q g) (hl : ks.length ≤ 4611686018427387904) : Lies Q w (.node k x m ks) (.agg #[.int .i64 k, .string x, .int .i64 m, kv]) := by
  obtain ⟨vs, ho, ha⟩ := h
  have hlen := ha.length
  obtain ⟨a, c, rfl, _, hs⟩ := own_shape ho
  have hcap : ks.length ≤ c := by
    rcases ho.2 with ⟨e, hn⟩ | ⟨g, cap, cur, e, h3, h4, h5, h6, _⟩
    · omega
    · injection e with _ _ e2; omega
  unfold Lies
  refine ⟨a, c, rfl, ⟨hl, hcap⟩, fun hne => ?_⟩
  have h0 : 0 < ks.length := by cases ks with | nil => exact absurd rfl hne | cons _ _ => simp
  obtain ⟨g, rfl⟩ := hs h0
  refine ⟨g, 0, rfl, hg g rfl, (ha.to hPQ (fun _ _ _ => rfl)).at ?_⟩
  intro j hj
  rw [Nat.zero_add]
  exact ho.cellAt j (by omega)
theorem cells4_new (w : World) (a b c d : Value) (t : TypeId) (g : Nat) (hg : g = w.heap.size) : ∀ j u, [a, b, c, d][j]? = some u → (w.alloc (.cells #[a, b, c, d] t)).cell? ((⟨g, 0, none⟩ : Addr).add j) = some u := by
  subst hg
  intro j u hj
  match j, hj with
  | 0, hj => simp at hj; subst hj; simp [Addr.add]
  | 1, hj => simp at hj; subst hj; simp [Addr.add]
  | 2, hj => simp at hj; subst hj; simp [Addr.add]
  | 3, hj => simp at hj; subst hj; simp [Addr.add]
theorem grown_trans {a b c : World} {row : Option Nat} (h : a.grownBy b row) (k : b.grownBy c row) : a.grownBy c row :=
  ⟨k.os.trans h.os, k.tape.trans h.tape, k.output.trans h.output, Nat.le_trans h.size k.size, fun j hj hn => (k.block j (Nat.lt_of_lt_of_le hj h.size) hn).trans (h.block j hj hn)⟩
theorem Box4.grown {w w' : World} {row : Option Nat} {N : Nat} {x0 x1 x2 x3 : Value} (h : Box4 w N x0 x1 x2 x3) (hF : w.grownBy w' row) (hN : row ≠ some N) : Box4 w' N x0 x1 x2 x3 := by
  have hb := hF.block N h.lt (fun e => hN e.symm)
  exact ⟨(World.cell?_of_block (a := ⟨N, 0, none⟩) hb).trans h.c0, (World.cell?_of_block (a := ⟨N, 1, none⟩) hb).trans h.c1, (World.cell?_of_block (a := ⟨N, 2, none⟩) hb).trans h.c2, (World.cell?_of_block (a := ⟨N, 3, none⟩) hb).trans h.c3,
    (World.frozen?_of_block (a := ⟨N, 0, none⟩) hb).trans h.f0, (World.frozen?_of_block (a := ⟨N, 1, none⟩) hb).trans h.f1, (World.frozen?_of_block (a := ⟨N, 2, none⟩) hb).trans h.f2, (World.frozen?_of_block (a := ⟨N, 3, none⟩) hb).trans h.f3⟩

section
variable {w : World} {r : Nat} {L : Value} {ts : List Tok} {s : St}
theorem Kids.shape {B : Nat} {P : Nat → Prop} {kv : Value} {ks : List Tree} (h : Kids B P w kv ks) : ∃ a c, kv = .slice a ks.length c := by
  obtain ⟨vs, ho, _⟩ := h
  obtain ⟨a, c, e, _⟩ := own_shape ho
  exact ⟨a, c, e⟩
theorem Kids.blk {B : Nat} {P : Nat → Prop} {kv : Value} {ks : List Tree} (h : Kids B P w kv ks) {g : Nat} (hg : kv.ownBlock = some g) : B ≤ g ∧ g < w.heap.size := by
  obtain ⟨vs, ho, _⟩ := h
  exact ho.lt g hg
/-- behind what leaves the row and the trees -/
theorem Kids.grown {B : Nat} {P Q : Nat → Prop} {w' : World} {row : Option Nat} {kv : Value} {ks : List Tree} (h : Kids B P w kv ks) (hg : w.grownBy w' row) (hk : kv.ownBlock = none ∨ kv.ownBlock ≠ row) (hP : ∀ b, P b → b < w.heap.size ∧ some b ≠ row) (hQ : ∀ b, P b → Q b) : Kids B Q w' kv ks := by
  obtain ⟨vs, ho, ha⟩ := h
  exact ⟨vs, ho.kept hg hk, ha.to hQ (fun b hb o => World.cell?_of_block (a := ⟨b, o, none⟩) (hg.block b (hP b hb).1 (hP b hb).2))⟩
end

section
variable {w : World} {r : Nat} {L : Value} {ts : List Tok} {s : St}
theorem label_01 (ts : List Tok) (s : St) : 0 ≤ (label ts s).1 ∧ (label ts s).1 ≤ 1 := by
  unfold label
  split <;> simp
end
end syn
namespace syn
open Go.RowKit

/-- the program's table of operators lies where its variable does -/
def HasOps (w : World) : Prop := ∃ cs t fr, w.heap[5]? = some (.cells cs t fr) ∧ cs.size = 20 ∧ ∀ k, k < 10 → cs[k * 2]? = some (.string (opAt k)) ∧ cs[k * 2 + 1]? = some (.int .i64 (opIs k))
end syn
namespace syn
open Go.RowKit
open Go.Proofs.YtoobkaebahogdaaGreatDoor.lexs (Tok Fine)

/-- the program's reader lies in block r: what is left of its tokens, which lie in block G -/
structure Ld (w : World) (r G : Nat) (ts : List Tok) (s : St) : Prop where
  c0 : ∃ a c, w.cell? ⟨r, 0, none⟩ = some (.slice a (ts.length - s.i) c) ∧ ts.length - s.i ≤ c ∧ (s.i < ts.length → a = some ⟨G, s.i * 3, none⟩)
  f0 : w.frozen? ⟨r, 0, none⟩ = false
  tok : ∀ (k : Nat) (h : k < ts.length), w.cell? ⟨G, k * 3, none⟩ = some (.int .i64 ts[k].kind) ∧ w.cell? ⟨G, k * 3 + 1, none⟩ = some (.string (raw ts[k])) ∧ w.cell? ⟨G, k * 3 + 2, none⟩ = some (.int .i64 (ts[k].at_ : Int))
  old : G < r
  len : ts.length ≤ 3000
  le : s.i ≤ ts.length
  good : ∀ t ∈ ts, Fine t
  ok : s.bad = false
  ops : HasOps w
  low : 5 < r
section
variable {w w' : World} {r G : Nat} {ts : List Tok} {s : St}
theorem Ld.lt (h : Ld w r G ts s) : r < w.heap.size := by obtain ⟨a, c, h0, _⟩ := h.c0; exact World.block_lt_of_cell? w ⟨r, 0, none⟩ h0
theorem Ld.gt (h : Ld w r G ts s) (hk : 0 < ts.length) : G < w.heap.size := World.block_lt_of_cell? w ⟨G, 0 * 3, none⟩ (h.tok 0 hk).1
/-- behind what leaves the reader's block, and the tokens' -/
theorem Ld.keep (h : Ld w r G ts s) {row : Option Nat} (hF : w.grownBy w' row) (hr : ∀ k, row = some k → r < k) : Ld w' r G ts s := by
  have hb := hF.block r h.lt (fun e => by have := hr r e.symm; omega)
  refine ⟨?_, (World.frozen?_of_block (a := ⟨r, 0, none⟩) hb).trans h.f0, ?_, h.old, h.len, h.le, h.good, h.ok, ?_, h.low⟩
  · obtain ⟨a, c, h0, h1, h2⟩ := h.c0
    exact ⟨a, c, (World.cell?_of_block (a := ⟨r, 0, none⟩) hb).trans h0, h1, h2⟩
  · intro k hk
    have hG := hF.block G (h.gt (by omega)) (fun e => by have h1 := hr G e.symm; have h2 := h.old; omega)
    rw [World.cell?_of_block (a := ⟨G, k * 3, none⟩) hG, World.cell?_of_block (a := ⟨G, k * 3 + 1, none⟩) hG, World.cell?_of_block (a := ⟨G, k * 3 + 2, none⟩) hG]
    exact h.tok k hk
  · obtain ⟨cs, t, fr, h1, h2, h3⟩ := h.ops
    have hl := h.low
    have hlt := h.lt
    exact ⟨cs, t, fr, by rw [hF.block _ (by omega) (fun e => by have := hr _ e.symm; omega)]; exact h1, h2, h3⟩
theorem Ld.alloc (h : Ld w r G ts s) (o : Obj) : Ld (w.alloc o) r G ts s := h.keep (World.grownBy_alloc w o none) (by simp)
theorem Ld.drewN (h : Ld w r G ts s) (n : Nat) : Ld (w.drewN n) r G ts s := ⟨h.c0, h.f0, h.tok, h.old, h.len, h.le, h.good, h.ok, h.ops, h.low⟩
theorem Ld.set (h : Ld w r G ts s) {N : Nat} (hN : r < N) (o : Nat) (v : Value) : Ld (w.setCell ⟨N, o, none⟩ v) r G ts s :=
  h.keep ((Fr.refl N w).set o v) (fun k e => by
    obtain rfl : N = k := by simpa using e
    exact hN)
/-- one of those words stands here -/
def hasW (ts : List Tok) (s : St) (ws : List ByteArray) : Bool := ws.any fun y => eqS (txt ts s) y
theorem hasW_none (ht : ¬ s.i < ts.length) {ws : List ByteArray} (hw : ws.all wordy = true) : hasW ts s ws = false := by
  unfold hasW
  rw [List.any_eq_false]
  intro y hy
  rw [List.all_eq_true] at hw
  rw [eq_none (by simp; omega) (hw y hy)]
  simp
theorem hasW_raw (hL : Ld w r G ts s) (ht : s.i < ts.length) {ws : List ByteArray} (hw : ws.all wordy = true) : hasW ts s ws = ws.any fun y => eqS (raw ts[s.i]) y := by
  unfold hasW
  rw [List.all_eq_true] at hw
  have h : ∀ y ∈ ws, eqS (txt ts s) y = eqS (raw ts[s.i]) y := fun y hy => eq_raw (hL.good _ (List.getElem_mem ht)) hL.ok (by simp [ht]) (hw y hy)
  clear hw
  induction ws with
  | nil => rfl
  | cons a l ih =>
    rw [List.any_cons, List.any_cons, h a (by simp), ih (fun y hy => h y (by simp [hy]))]
/-- where a reader gives up -/
def lost (ts : List Tok) (s : St) : Value := match ts[s.i]? with
  | some t => .iface 105 (.agg #[.int .i64 (t.at_ : Int)])
  | none => .iface 106 (.agg #[])
def Pan (ts : List Tok) (s : St) : List PanicEntry := [{ v := lost ts s, recovered := false }]
/-- words in a row -/
def Words (w : World) (g : Nat) (ws : List ByteArray) : Prop := ∀ (k : Nat) (h : k < ws.length), w.cell? ⟨g, k, none⟩ = some (.string ws[k])
theorem any_first {x : ByteArray} {ws : List ByteArray} {k : Nat} (hk : k < ws.length) (h : eqS x ws[k] = true) : (ws.any fun y => eqS x y) = true := by
  rw [List.any_eq_true]
  exact ⟨ws[k], List.getElem_mem _, h⟩
theorem any_not {x : ByteArray} {ws : List ByteArray} (h : ∀ j (hj : j < ws.length), eqS x ws[j] = false) : (ws.any fun y => eqS x y) = false := by
  rw [List.any_eq_false]
  intro y hy
  obtain ⟨k, hk, rfl⟩ := List.mem_iff_getElem.1 hy
  simp [h k hk]
set_option maxHeartbeats 1000000 in
theorem oindex (x : ByteArray) (ws : List ByteArray) (g c : Nat) (hl : ws.length ≤ 100) (hc : Words w g ws) :
    Calls Tryz.prog 212 #[.slice (some ⟨g, 0, none⟩) ws.length c, .string x] w fun e w' => ∃ i : Int, e = .returned (.int .i64 i) ∧ decide (0 ≤ i) = (ws.any fun y => eqS x y) ∧ w' = w := by
  go_enter Tryz.func212, Tryz.ntmps212
  go_wp2
  go_loop [8] (fun t => ∃ k : Nat, k ≤ ws.length ∧ t = .int .i64 k ∧ Hid (∀ j (hj : j < ws.length), j < k → eqS x ws[j] = false)) (fun t => ws.length - (intOf t).toNat)
  case atStart => exact ⟨0, Nat.zero_le _, rfl, fun j _ hj => by omega⟩
  case round =>
    obtain ⟨k, hk, rfl, HN⟩ := hrel
    by_cases hlt : k < ws.length
    · have hcell := hc k hlt
      have HC : Hid (Words w g ws) := hc
      clear hc
      have HK : Hid (eqS x ws[k] = eqS x ws[k]) := rfl
      cases he : eqS x ws[k]
      · have HE : Hid (eqS x ws[k] = false) := he
        unfold eqS at he
        go_wp2
        go_round
        case rel => exact ⟨k + 1, by omega, by go_num, fun j hj h1 => by
          rcases Nat.lt_or_ge j k with h | h
          · exact HN.out j hj h
          · have : j = k := by omega
            subst this
            exact HE.out⟩
        case measure => simp [intOf]; omega
      · have HE : Hid ((ws.any fun y => eqS x y) = true) := any_first hlt he
        unfold eqS at he
        go_wp2
        go_ret
        exact ⟨(k : Int), rfl, by rw [HE.out]; simp, rfl⟩
    · have HE : Hid ((ws.any fun y => eqS x y) = false) := any_not (fun j hj => HN.out j hj (by omega))
      clear HN
      go_wp2
      go_ret
      exact ⟨-1, rfl, by rw [HE.out]; rfl, rfl⟩
theorem ocontains (x : ByteArray) (ws : List ByteArray) (g c : Nat) (hl : ws.length ≤ 100) (hc : Words w g ws) :
    Calls Tryz.prog 186 #[.slice (some ⟨g, 0, none⟩) ws.length c, .string x] w fun e w' => e = .returned (.bool (ws.any fun y => eqS x y)) ∧ w' = w := by
  have h := oindex x ws g c hl hc
  generalize (ws.any fun y => eqS x y) = V at *
  go_enter Tryz.func186, Tryz.ntmps186
  go_wp2_with (fail)
  refine h.mono ?_
  rintro e w1 ⟨i, rfl, hi, hw⟩
  obtain rfl := hw.symm
  go_wp2
  go_ret
  exact ⟨by rw [← hi]; rfl, rfl⟩
end

section
variable {w w' : World} {r G : Nat} {ts : List Tok} {s : St}
theorem ohas (hL : Ld w r G ts s) (ws : List ByteArray) (g c : Nat) (hl : ws.length ≤ 100) (hw : ws.all wordy = true) (hc : Words w g ws) :
    Calls Tryz.prog 154 #[.pointer (some ⟨r, 0, none⟩), .slice (some ⟨g, 0, none⟩) ws.length c] w fun e w' => e = .returned (.bool (hasW ts s ws)) ∧ w' = w := by
  have c29 : Tryz.prog.cellsOf 70 = 3 := by kernel_rfl
  have hlen := hL.len
  obtain ⟨a, cp, h0, h1, h2⟩ := hL.c0
  by_cases hlt : s.i < ts.length
  · obtain rfl := h2 hlt
    rw [hasW_raw hL hlt hw]
    obtain ⟨y0, y1, y2⟩ := hL.tok s.i hlt
    have hC := ocontains (w := w) (raw ts[s.i]) ws g c hl hc
    generalize (ws.any fun y => eqS (raw ts[s.i]) y) = V at *
    generalize raw ts[s.i] = x at *
    have hn : 0 < ts.length - s.i := by omega
    have hn' : ts.length - s.i ≤ 3000 := by omega
    generalize ts.length - s.i = n at *
    go_enter Tryz.func154, Tryz.ntmps154
    go_wp2_with (fail)
    refine hC.mono ?_
    rintro e w1 ⟨rfl, hw1⟩
    obtain rfl := hw1.symm
    go_wp2
    go_ret
    exact ⟨rfl, rfl⟩
  · rw [hasW_none hlt hw]
    have hn : ts.length - s.i = 0 := by omega
    rw [hn] at h0
    go_enter Tryz.func154, Tryz.ntmps154
    go_wp2
    go_ret
    exact ⟨rfl, rfl⟩
theorem ogiveUp (hL : Ld w r G ts s) :
    Calls Tryz.prog 155 #[.pointer (some ⟨r, 0, none⟩)] w fun e w' => e = .panicked (Pan ts s) ∧ w' = w := by
  have c29 : Tryz.prog.cellsOf 70 = 3 := by kernel_rfl
  have hlen := hL.len
  obtain ⟨a, cp, h0, h1, h2⟩ := hL.c0
  unfold Pan lost
  by_cases hlt : s.i < ts.length
  · obtain rfl := h2 hlt
    rw [List.getElem?_eq_getElem hlt]
    obtain ⟨y0, y1, y2⟩ := hL.tok s.i hlt
    have hn : 0 < ts.length - s.i := by omega
    have hn' : ts.length - s.i ≤ 3000 := by omega
    generalize ts.length - s.i = n at *
    dsimp only
    go_enter Tryz.func155, Tryz.ntmps155
    go_wp2
    exact ⟨rfl, rfl, rfl⟩
  · rw [List.getElem?_eq_none (by omega)]
    have hn : ts.length - s.i = 0 := by omega
    rw [hn] at h0
    dsimp only
    go_enter Tryz.func155, Tryz.ntmps155
    go_wp2
    exact ⟨rfl, rfl, rfl⟩
/-- one token further -/
theorem onext (hL : Ld w r G ts s) (hlt : s.i < ts.length) :
    Calls Tryz.prog 156 #[.pointer (some ⟨r, 0, none⟩)] w fun e w' => e = .returned (.string (raw ts[s.i])) ∧ Ld w' r G ts s.next ∧ Fr r w w' := by
  have c29 : Tryz.prog.cellsOf 70 = 3 := by kernel_rfl
  have hlen := hL.len
  obtain ⟨a, cp, h0, h1, h2⟩ := hL.c0
  obtain rfl := h2 hlt
  obtain ⟨y0, y1, y2⟩ := hL.tok s.i hlt
  have hf := hL.f0
  have hn : 0 < ts.length - s.i := by omega
  have hn' : ts.length - s.i ≤ 3000 := by omega
  have hN : ts.length - s.next.i = ts.length - s.i - 1 := by unfold St.next; dsimp only; omega
  have key : ∀ (a' : Option Addr) (c' : Nat), ts.length - s.i - 1 ≤ c' → (1 < ts.length - s.i → a' = some ⟨G, s.i * 3 + 3, none⟩) → Ld (w.setCell ⟨r, 0, none⟩ (.slice a' (ts.length - s.i - 1) c')) r G ts s.next := by
    intro a' c' hc' ha'
    refine ⟨⟨a', c', ?_, by omega, fun h => ?_⟩, by simp [hf], ?_, hL.old, hL.len, hlt, hL.good, hL.ok, ?_, hL.low⟩
    · rw [World.cell?_setCell_same _ _ _ h0, hN]
    · rw [ha' (by unfold St.next at h; dsimp only at h; omega)]
      unfold St.next
      simp only [Option.some.injEq, Addr.mk.injEq, true_and, and_true]
      omega
    · intro k hk
      have hG := hL.old
      rw [World.cell?_setCell_other _ _ _ _ (by simp <;> omega), World.cell?_setCell_other _ _ _ _ (by simp <;> omega), World.cell?_setCell_other _ _ _ _ (by simp <;> omega)]
      exact hL.tok k hk
    · obtain ⟨cs, t, fr, g1, g2, g3⟩ := hL.ops
      have hl := hL.low
      exact ⟨cs, t, fr, by rw [Below.heap_setCell _ _ _ _ (by simp <;> omega)]; exact g1, g2, g3⟩
  have HK : Hid (∀ (a' : Option Addr) (c' : Nat), ts.length - s.i - 1 ≤ c' → (1 < ts.length - s.i → a' = some ⟨G, s.i * 3 + 3, none⟩) → Ld (w.setCell ⟨r, 0, none⟩ (.slice a' (ts.length - s.i - 1) c')) r G ts s.next) := key
  clear key
  generalize ts.length - s.i = n at *
  by_cases hcp : cp = 1
  · subst hcp
    have hn1 : n = 1 := by omega
    subst hn1
    go_enter Tryz.func156, Tryz.ntmps156
    go_wp2
    go_ret
    exact ⟨rfl, HK.out (some ⟨G, s.i * 3, none⟩) 0 (by omega) (fun h => by omega), (Fr.refl _ _).set _ _⟩
  · go_enter Tryz.func156, Tryz.ntmps156
    go_wp2
    go_ret
    exact ⟨rfl, HK.out _ _ (by omega) (fun h => rfl), (Fr.refl _ _).set _ _⟩
theorem hasW_lt {ws : List ByteArray} (hw : ws.all wordy = true) (h : hasW ts s ws = true) : s.i < ts.length := by
  rcases Nat.lt_or_ge s.i ts.length with h1 | h1
  · exact h1
  · rw [hasW_none (by omega) hw] at h
    simp at h
/-- skip: a word that stands here is taken -/
theorem oskip_yes (hL : Ld w r G ts s) (ws : List ByteArray) (g c : Nat) (hl : ws.length ≤ 100) (hw : ws.all wordy = true) (hc : Words w g ws) (h : hasW ts s ws = true) :
    Calls Tryz.prog 120 #[.pointer (some ⟨r, 0, none⟩), .slice (some ⟨g, 0, none⟩) ws.length c] w fun e w' => e = .returned (.bool true) ∧ Ld w' r G ts s.next ∧ Fr r w w' := by
  have hH := ohas hL ws g c hl hw hc
  rw [h] at hH
  have hN := onext hL (hasW_lt hw h)
  go_enter Tryz.func120, Tryz.ntmps120
  go_wp2_with (fail)
  refine hH.mono ?_
  rintro e w1 ⟨rfl, hw1⟩
  obtain rfl := hw1.symm
  go_wp2_with (fail)
  refine hN.mono ?_
  rintro e w2 ⟨rfl, hL2, hF2⟩
  go_wp2
  go_ret
  exact ⟨rfl, hL2, hF2⟩
theorem oskip_no (hL : Ld w r G ts s) (ws : List ByteArray) (g c : Nat) (hl : ws.length ≤ 100) (hw : ws.all wordy = true) (hc : Words w g ws) (h : hasW ts s ws = false) :
    Calls Tryz.prog 120 #[.pointer (some ⟨r, 0, none⟩), .slice (some ⟨g, 0, none⟩) ws.length c] w fun e w' => e = .returned (.bool false) ∧ w' = w := by
  have hH := ohas hL ws g c hl hw hc
  rw [h] at hH
  go_enter Tryz.func120, Tryz.ntmps120
  go_wp2_with (fail)
  refine hH.mono ?_
  rintro e w1 ⟨rfl, hw1⟩
  obtain rfl := hw1.symm
  go_wp2
  go_ret
  exact ⟨rfl, rfl⟩
theorem otake_yes (hL : Ld w r G ts s) (ws : List ByteArray) (g c : Nat) (hl : ws.length ≤ 100) (hw : ws.all wordy = true) (hc : Words w g ws) (h : hasW ts s ws = true) :
    Calls Tryz.prog 118 #[.pointer (some ⟨r, 0, none⟩), .slice (some ⟨g, 0, none⟩) ws.length c] w fun e w' => e = .returned (.string (raw (ts[s.i]'(hasW_lt hw h)))) ∧ Ld w' r G ts s.next ∧ Fr r w w' := by
  have hH := ohas hL ws g c hl hw hc
  rw [h] at hH
  have hN := onext hL (hasW_lt hw h)
  generalize raw (ts[s.i]'(hasW_lt hw h)) = x at *
  go_enter Tryz.func118, Tryz.ntmps118
  go_wp2_with (fail)
  refine hH.mono ?_
  rintro e w1 ⟨rfl, hw1⟩
  obtain rfl := hw1.symm
  go_wp2_with (fail)
  refine hN.mono ?_
  rintro e w2 ⟨rfl, hL2, hF2⟩
  go_wp2
  go_ret
  exact ⟨rfl, hL2, hF2⟩
theorem otake_no (hL : Ld w r G ts s) (ws : List ByteArray) (g c : Nat) (hl : ws.length ≤ 100) (hw : ws.all wordy = true) (hc : Words w g ws) (h : hasW ts s ws = false) :
    Calls Tryz.prog 118 #[.pointer (some ⟨r, 0, none⟩), .slice (some ⟨g, 0, none⟩) ws.length c] w fun e w' => e = .panicked (Pan ts s) ∧ w' = w := by
  have hH := ohas hL ws g c hl hw hc
  rw [h] at hH
  have hN := ogiveUp hL
  go_enter Tryz.func118, Tryz.ntmps118
  go_wp2_with (fail)
  refine hH.mono ?_
  rintro e w1 ⟨rfl, hw1⟩
  obtain rfl := hw1.symm
  go_wp2_with (fail)
  refine hN.mono ?_
  rintro e w2 ⟨rfl, hw2⟩
  obtain rfl := hw2.symm
  go_wp2
  exact ⟨rfl, rfl, rfl⟩
end
end syn
end Go.Proofs.YtoobkaebahogdaaGreatDoor
