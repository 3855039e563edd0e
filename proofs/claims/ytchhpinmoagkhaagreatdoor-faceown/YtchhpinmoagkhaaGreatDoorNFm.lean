/- What the program's visit comes to at a variable and at a procedure: contracts. What the program's visit comes to at a module: a contract. -/
import Derived.Test.YtchhpinmoagkhaaGreatDoorNFl
import Derived.Test.YtchhpinmoagkhaaGreatDoorNFk
import Derived.Test.YtchhpinmoagkhaaGreatDoorNFa
namespace Go.Proofs.YtchhpinmoagkhaaGreatDoor.face
open Go.RowKit Go.Maps
open Go.Proofs.YtchhpinmoagkhaaGreatDoor.syn
set_option linter.unusedVariables false
set_option linter.unusedSimpArgs false
set_option maxRecDepth 100000

def onP {α : Type} (p : Bool) (x : α) : List α := if p then [x] else []
def varR (ns : List ByteArray) (x : ByteArray) (n : Option Int) (a : Int) : Option (Int × Int) := if among ns x then some (5, a) else if 20 ≤ ns.length then some (1, a) else rangeF n a
def procR (ns : List ByteArray) (x : ByteArray) (ps : List (ByteArray × Bool)) (a : Int) : Option (Int × Int) := if among ns x then some (5, a) else if 20 ≤ ns.length then some (1, a) else if 5 < ps.length then some (1, a) else parD [] ps (a + 1)
theorem inL_var (x : ByteArray) (p l : Bool) (n : Option Int) : InL (Kid.var x p l n).kids := by
  cases n with
  | none => unfold Kid.kids InL; trivial
  | some k => unfold Kid.kids InL InL; exact ⟨inT_leaf (.inr (by omega)), trivial⟩
theorem rangeF_ok {n : Option Int} {a : Int} (h : ∀ k, n = some k → 1 ≤ k ∧ k ≤ 64) : rangeF n a = none := by
  cases n with
  | none => rfl
  | some k => have := h k rfl; show (if k < 1 ∨ 64 < k then _ else _) = _; rw [if_neg (by omega)]
theorem rangeF_bad {n : Option Int} {a : Int} (h : ∃ k, n = some k ∧ (k < 1 ∨ 64 < k)) : rangeF n a = some (6, a) := by
  obtain ⟨k, rfl, h⟩ := h
  show (if k < 1 ∨ 64 < k then _ else _) = _
  rw [if_pos h]
theorem varR_a {ns : List ByteArray} {x : ByteArray} {n : Option Int} {a : Int} (h : among ns x = true) : varR ns x n a = some (5, a) := by unfold varR; rw [if_pos h]
theorem varR_b {ns : List ByteArray} {x : ByteArray} {n : Option Int} {a : Int} (h : among ns x = false) (h2 : 20 ≤ ns.length) : varR ns x n a = some (1, a) := by unfold varR; rw [if_neg (by simp [h]), if_pos h2]
theorem varR_c {ns : List ByteArray} {x : ByteArray} {n : Option Int} {a : Int} (h : among ns x = false) (h2 : ns.length < 20) : varR ns x n a = rangeF n a := by unfold varR; rw [if_neg (by simp [h]), if_neg (by omega)]
theorem procR_a {ns : List ByteArray} {x : ByteArray} {ps : List (ByteArray × Bool)} {a : Int} (h : among ns x = true) : procR ns x ps a = some (5, a) := by unfold procR; rw [if_pos h]
theorem procR_b {ns : List ByteArray} {x : ByteArray} {ps : List (ByteArray × Bool)} {a : Int} (h : among ns x = false) (h2 : 20 ≤ ns.length) : procR ns x ps a = some (1, a) := by unfold procR; rw [if_neg (by simp [h]), if_pos h2]
theorem procR_c {ns : List ByteArray} {x : ByteArray} {ps : List (ByteArray × Bool)} {a : Int} (h : among ns x = false) (h2 : ns.length < 20) (h3 : 5 < ps.length) : procR ns x ps a = some (1, a) := by unfold procR; rw [if_neg (by simp [h]), if_neg (by omega), if_pos h3]
theorem procR_d {ns : List ByteArray} {x : ByteArray} {ps : List (ByteArray × Bool)} {a : Int} (h : among ns x = false) (h2 : ns.length < 20) (h3 : ps.length ≤ 5) : procR ns x ps a = parD [] ps (a + 1) := by unfold procR; rw [if_neg (by simp [h]), if_neg (by omega), if_neg (by omega)]
set_option maxHeartbeats 2000000 in
theorem vVar {D Bm Bd : Nat} {mp : Option Nat} {vv pv iv : Value} {mo : ByteArray} {V : List VarD} {P : List (ProcD × Value)} {is ms ns qs : List ByteArray} (x : ByteArray) (p l : Bool) (n : Option Int) (v : Value) (w : World) (at_ : Int) (hv : Lies (· < Bm) w (Kid.var x p l n).tree v)
    (h : DI w D Bm Bd mp vv pv iv mo V P is ms ns qs at_) (h0 : 0 ≤ at_) (hm : at_ + cntT (Kid.var x p l n).tree ≤ 1000000) (hx : x.size ≤ 16) (hns : ns.length ≤ 20) (hV : V.length ≤ 20) :
    Calls Tryz.prog 79 #[.pointer (some ⟨D, 0, none⟩), v] w (VR Bm w (varR ns x n at_) fun w' => ∃ vv', DI w' D Bm Bd mp vv' pv iv mo (V ++ onP p (varD x p l n)) P is ms (ns ++ [x]) qs (at_ + cntT (Kid.var x p l n).tree)) := by
  have c24 : Tryz.prog.cellsOf 24 = 4 := by kernel_rfl
  have hv0 := hv
  rw [Kid.tree_is] at hv
  unfold Lies at hv
  obtain ⟨a, c, rfl, hl, hk⟩ := hv
  have hin := inL_var x p l n
  have hcT : cntT (Kid.var x p l n).tree = 1 + cntL (Kid.var x p l n).kids := by rw [Kid.tree_is]; unfold cntT; omega
  rw [hcT] at hm ⊢
  have hmm := h.lm
  have hdd := h.ld
  have hd := h.dc.lt
  have hov := (own_lt h).2.1
  have hlv : ∀ k, vv.ownBlock = some k → k < w.heap.size := fun k e => (h.fr.ov.lt _ e).2
  have hA := oAddVar x p l n _ (w.alloc (.cells #[.int .i64 (Kid.var x p l n).kind, .string (Kid.var x p l n).text, .int .i64 (Kid.var x p l n).num, .slice a (Kid.var x p l n).kids.length c] 24)) (Lies.alloc' hv0 (by omega) _) (h.below ((Below.refl _ _).alloc (Nat.le_refl _) _)) hx hns hV w.heap.size (by simp) hd (fun e => by have := hlv _ e; omega)
  simp only [Kid.kind, Kid.text] at *
  have hcp := cntL_pos (Kid.var x p l n).kids
  generalize (Kid.var x p l n).num = m at *
  generalize (Kid.var x p l n).kids = ks at *
  have hB0 : Below Bm w (w.alloc (.cells #[.int .i64 3, .string x, .int .i64 m, .slice a ks.length c] 24)) := (Below.refl _ _).alloc (by omega) _
  clear hv0 h
  go_enter Tryz.func79, Tryz.ntmps79
  go_wp2_with (fail)
  refine hA.mono ?_
  rintro e w1 ⟨hb1, (⟨hm1, rfl⟩ | ⟨hm1, hle, rfl⟩ | ⟨hm1, hlt, hr, rfl⟩ | ⟨hm1, hlt, hr, rfl, hkz, vv', hI1⟩)⟩
  · go_wp2
    exact ⟨rfl, hB0.trans hb1, .inl ⟨_, varR_a hm1, rfl⟩⟩
  · go_wp2
    exact ⟨rfl, hB0.trans hb1, .inl ⟨_, varR_b hm1 hle, rfl⟩⟩
  · go_wp2
    exact ⟨rfl, hB0.trans hb1, .inl ⟨_, (varR_c hm1 hlt).trans (rangeF_bad hr), rfl⟩⟩
  have q3 : w1.cell? ⟨w.heap.size, 3, none⟩ = some (.slice a ks.length c) := (World.cell?_of_block (a := ⟨w.heap.size, 3, none⟩) hkz.eq).trans (by simp)
  have HR : Hid (varR ns x n at_ = none) := (varR_c hm1 hlt).trans (rangeF_ok hr)
  replace hI1 : DI w1 D Bm Bd mp vv' pv iv mo (V ++ onP p (varD x p l n)) P is ms (ns ++ [x]) qs at_ := hI1
  have m7 := hI1.dc.c7
  have mf := hI1.dc.fz 7
  have hI2 := hI1.setAt (at_ + 1)
  have hB2 := (hB0.trans hb1).setCell (p := ⟨D, 7, none⟩) (by show Bm ≤ D; omega) (.int .i64 (at_ + 1))
  clear hI1 hA hb1 hB0 hr hkz
  go_wp2
  clear m7 mf q3
  go_loopw [75] (fun t wr => ∃ j : Nat, j ≤ ks.length ∧ t = .int .i64 j ∧ DI wr D Bm Bd mp vv' pv iv mo (V ++ onP p (varD x p l n)) P is ms (ns ++ [x]) qs (at_ + 1 + cntL (ks.take j)) ∧ Below Bm w wr) (fun t _ => ks.length - (intOf t).toNat)
  case atStart => exact ⟨0, Nat.zero_le _, rfl, by simpa [cntL] using hI2, hB2⟩
  case round =>
    clear hI2 hB2
    obtain ⟨j, hj, rfl, hI, hB⟩ := hrel
    by_cases hlt : j < ks.length
    · obtain ⟨g, o, rfl, hg, hat⟩ := hk (by intro e; rw [e] at hlt; simp at hlt)
      obtain ⟨kk, xx, mm, aa, na, ca, c0, c1, c2, c3, hx⟩ := kid_at hat hg hB hlt
      have hs1 := cntL_take ks j hlt
      have hs2 := cntL_take_le ks (j + 1)
      have hs3 := cntT_pos ks[j]
      have hs4 := cntL_pos (ks.take j)
      have hsz := hB.size
      have hC := vIn ks[j] _ (wr.alloc (.cells #[.int .i64 kk, .string xx, .int .i64 mm, .slice aa na ca] 24)) _ (Lies.alloc' hx (by omega) _) (inL_get hin j hlt) (hI.below ((Below.refl _ _).alloc (Nat.le_refl _) _)) (by omega) (by omega)
      have hgl : g < wr.heap.size := by have : g < Bm := hg; omega
      rw [show at_ + 1 + cntL (ks.take j) + cntT ks[j] = at_ + 1 + cntL (ks.take (j + 1)) by omega] at hC
      clear hI hx hk hat
      go_wp2_with (go_at_call 79; refine hC.mono ?_; rintro e w1 ⟨rfl, hb1, hI1⟩)
      go_roundw
      case rel => exact ⟨j + 1, by omega, by go_num, hI1, (hB.alloc (by omega) _).trans hb1⟩
      case measure => simp [intOf]; omega
    · rw [List.take_of_length_le (by omega)] at hI
      go_wp2
      go_end0
      exact ⟨hB, .inr ⟨HR.out, rfl, vv', by rw [show at_ + (1 + cntL ks) = at_ + 1 + cntL ks by omega]; exact hI⟩⟩
/-! of a procedure -/
theorem parD_step {ps : List (ByteArray × Bool)} {j : Nat} (hj : j < ps.length) (a : Int) (r : Option (Int × Int)) (h : r = parD ((ps.take j).map (·.1)) (ps.drop j) a) :
    r = match enterR ((ps.take j).map (·.1)) ps[j].1 5 a with | some e => some e | none => parD ((ps.take (j + 1)).map (·.1)) (ps.drop (j + 1)) (a + 1) := by
  rw [h, List.drop_eq_getElem_cons hj]
  have e : (ps.take (j + 1)).map (·.1) = (ps.take j).map (·.1) ++ [ps[j].1] := by rw [List.take_succ_eq_append_getElem hj, List.map_append]; rfl
  rw [e]
  unfold enterR
  show (if _ then _ else _) = _
  split
  · rfl
  · split <;> rfl
theorem cnt_pars : ∀ (ps : List (ByteArray × Bool)), cntL (ps.map parT) = ps.length
  | [] => rfl
  | q :: r => by
    show cntT (parT q) + cntL (r.map parT) = ((r.length + 1 : Nat) : Int)
    rw [cnt_pars r]
    show cntL [] + 1 + (r.length : Int) = _
    unfold cntL
    omega
theorem cntL_append : ∀ (a b : List Tree), cntL (a ++ b) = cntL a + cntL b
  | [], b => by simp [cntL]
  | t :: r, b => by
    show cntT t + cntL (r ++ b) = cntT t + cntL r + cntL b
    rw [cntL_append r b]; omega
theorem kids_take (ps : List (ByteArray × Bool)) (b : Tree) (j : Nat) (hj : j ≤ ps.length) : cntL ((ps.map parT ++ [b]).take j) = j := by
  rw [List.take_append_of_le_length (by simpa using hj), ← List.map_take, cnt_pars, List.length_take]
  omega
set_option maxHeartbeats 4000000 in
theorem vProc {D Bm Bd : Nat} {mp : Option Nat} {vv pv iv : Value} {mo : ByteArray} {V : List VarD} {P : List (ProcD × Value)} {is ms ns qs : List ByteArray} (x : ByteArray) (p l : Bool) (gv : Option Bool) (ps : List (ByteArray × Bool)) (b : Tree) (v : Value) (w : World) (at_ : Int) (hv : Lies (· < Bm) w (Kid.proc x p l gv ps b).tree v)
    (h : DI w D Bm Bd mp vv pv iv mo V P is ms ns qs at_) (h0 : 0 ≤ at_) (hm : at_ + cntT (Kid.proc x p l gv ps b).tree ≤ 1000000) (hgood : (Kid.proc x p l gv ps b).good) (hns : ns.length ≤ 20) (hP : P.length ≤ 20) (hps : ps.length ≤ 1000) :
    Calls Tryz.prog 79 #[.pointer (some ⟨D, 0, none⟩), v] w (VR Bm w (procR ns x ps at_) fun w' => ∃ b0 pv' P' qs', DI w' D Bm Bd (some b0) vv pv' iv mo V P' is ms (ns ++ [x]) qs' (at_ + cntT (Kid.proc x p l gv ps b).tree) ∧ P'.map (·.1) = P.map (·.1) ++ onP p (procD x p l gv ps)) := by
  have c24 : Tryz.prog.cellsOf 24 = 4 := by kernel_rfl
  obtain ⟨hx, hpsz, hInT⟩ := hgood
  have hv0 := hv
  rw [Kid.tree_is] at hv
  unfold Lies at hv
  obtain ⟨a, c, rfl, hl, hk⟩ := hv
  have hcT : cntT (Kid.proc x p l gv ps b).tree = 1 + cntL (Kid.proc x p l gv ps b).kids := by rw [Kid.tree_is]; unfold cntT; omega
  rw [hcT] at hm ⊢
  have hmm := h.lm
  have hdd := h.ld
  have hd := h.dc.lt
  have hlv : ∀ k, pv.ownBlock = some k → k < w.heap.size := fun k e => (h.fr.op.lt _ e).2
  have hA := oAddProc x p l gv ps b _ (w.alloc (.cells #[.int .i64 (Kid.proc x p l gv ps b).kind, .string (Kid.proc x p l gv ps b).text, .int .i64 (Kid.proc x p l gv ps b).num, .slice a (Kid.proc x p l gv ps b).kids.length c] 24)) (Lies.alloc' hv0 (by omega) _) (h.below ((Below.refl _ _).alloc (Nat.le_refl _) _)) hx hns hP hps hInT w.heap.size (by simp) hd (fun e => by have := hlv _ e; omega)
  have hks : (Kid.proc x p l gv ps b).kids = ps.map parT ++ [b] := rfl
  simp only [Kid.kind, Kid.text] at *
  have hcp := cntL_pos (Kid.proc x p l gv ps b).kids
  generalize (Kid.proc x p l gv ps b).num = m at *
  generalize (Kid.proc x p l gv ps b).kids = ks at *
  have hkl : ks.length = ps.length + 1 := by rw [hks]; simp
  have Hks : Hid (ks = ps.map parT ++ [b]) := hks
  have Hkl : Hid (ks.length = ps.length + 1) := hkl
  have hB0 : Below Bm w (w.alloc (.cells #[.int .i64 4, .string x, .int .i64 m, .slice a ks.length c] 24)) := (Below.refl _ _).alloc (by omega) _
  clear hv0 h hks hkl
  go_enter Tryz.func79, Tryz.ntmps79
  go_wp2_with (fail)
  refine hA.mono ?_
  rintro e w1 ⟨hb1, (⟨hm1, rfl⟩ | ⟨hm1, hle, rfl⟩ | ⟨hm1, hlt, hr, rfl⟩ | ⟨hm1, hlt, hr, rfl, hkz, b0, pv', P', hI1, hPP⟩)⟩
  · go_wp2
    exact ⟨rfl, hB0.trans hb1, .inl ⟨_, procR_a hm1, rfl⟩⟩
  · go_wp2
    exact ⟨rfl, hB0.trans hb1, .inl ⟨_, procR_b hm1 hle, rfl⟩⟩
  · go_wp2
    exact ⟨rfl, hB0.trans hb1, .inl ⟨_, procR_c hm1 hlt hr, rfl⟩⟩
  have q3 : w1.cell? ⟨w.heap.size, 3, none⟩ = some (.slice a ks.length c) := (World.cell?_of_block (a := ⟨w.heap.size, 3, none⟩) hkz.eq).trans (by simp)
  have HR : Hid (procR ns x ps at_ = parD [] ps (at_ + 1)) := procR_d hm1 hlt hr
  have HPP : Hid (P'.map (·.1) = P.map (·.1) ++ onP p (procD x p l gv ps)) := hPP
  have m7 := hI1.dc.c7
  have mf := hI1.dc.fz 7
  have hI2 := hI1.setAt (at_ + 1)
  have hB2 := (hB0.trans hb1).setCell (p := ⟨D, 7, none⟩) (by show Bm ≤ D; omega) (.int .i64 (at_ + 1))
  clear hI1 hA hb1 hB0 hkz hPP
  obtain ⟨R, HRR⟩ : ∃ R, Hid (procR ns x ps at_ = R) := ⟨_, rfl⟩
  replace HR : Hid (R = parD [] ps (at_ + 1)) := HRR.out.symm.trans HR.out
  go_wp2
  clear m7 mf q3
  go_loopw [75] (fun t wr => ∃ j : Nat, j ≤ ks.length ∧ t = .int .i64 j ∧ DI wr D Bm Bd (some b0) vv pv' iv mo V P' is ms (ns ++ [x]) ((ps.take j).map (·.1)) (at_ + 1 + cntL (ks.take j)) ∧ Below Bm w wr ∧ Hid (R = parD ((ps.take j).map (·.1)) (ps.drop j) (at_ + 1 + j))) (fun t _ => ks.length - (intOf t).toNat)
  case atStart => exact ⟨0, Nat.zero_le _, rfl, by simpa [cntL] using hI2, hB2, by show _ = _; rw [HR.out]; simp⟩
  case round =>
    clear hI2 hB2 HR
    obtain ⟨j, hj, rfl, hI, hB, HR⟩ := hrel
    by_cases hlt : j < ks.length
    · obtain ⟨g, o, rfl, hg, hat⟩ := hk (by intro e; rw [e] at hlt; simp at hlt)
      obtain ⟨kk, xx, mm, aa, na, ca, c0, c1, c2, c3, hx⟩ := kid_at hat hg hB hlt
      have hs1 := cntL_take ks j hlt
      have hs2 := cntL_take_le ks (j + 1)
      have hs3 := cntT_pos ks[j]
      have hs4 := cntL_pos (ks.take j)
      have hsz := hB.size
      have hgl : g < wr.heap.size := by have : g < Bm := hg; omega
      have hlk := Hkl.out
      by_cases hp : j < ps.length
      · have hkj : ks[j] = .node 5 ps[j].1 (bI ps[j].2) [] := by simp only [Hks.out]; rw [List.getElem_append_left (by simpa using hp)]; simp [parT]
        have hn1 : cntL (ks.take j) = j := by rw [Hks.out]; exact kids_take ps b j (by omega)
        have hn2 : cntL (ks.take (j + 1)) = j + 1 := by rw [Hks.out, kids_take ps b (j + 1) (by omega)]; omega
        rw [hkj] at hx
        rw [hn1] at hI
        have hC := vPar ps[j].1 _ _ (wr.alloc (.cells #[.int .i64 kk, .string xx, .int .i64 mm, .slice aa na ca] 24)) _ (Lies.alloc' hx (by omega) _) (hI.below ((Below.refl _ _).alloc (Nat.le_refl _) _)) (by omega) (by omega) (hpsz _ (List.getElem_mem hp)) (by simp; omega)
        have HS := parD_step hp (at_ + 1 + j) R HR.out
        have HT : Hid ((ps.take (j + 1)).map (·.1) = (ps.take j).map (·.1) ++ [ps[j].1]) := by show _ = _; rw [List.take_succ_eq_append_getElem hp, List.map_append]; rfl
        have HN : Hid (cntL (ks.take (j + 1)) = j + 1) := hn2
        clear hI hx hk hat hlk hn1 hn2 HR
        generalize ps[j].1 = y at *
        generalize enterR ((ps.take j).map (·.1)) y 5 (at_ + 1 + j) = E at *
        cases E with
        | some q =>
          have HE : Hid (R = some q) := HS
          clear HS
          go_wp2_with (fail)
          refine hC.mono ?_
          rintro e w2 ⟨hb2, (⟨q', e1, rfl⟩ | ⟨e1, _⟩)⟩
          · cases e1
            go_wp2
            exact ⟨rfl, (hB.alloc (by omega) _).trans hb2, .inl ⟨q, HRR.out.trans HE.out, rfl⟩⟩
          · cases e1
        | none =>
          have HE : Hid (R = parD ((ps.take (j + 1)).map (·.1)) (ps.drop (j + 1)) (at_ + 1 + j + 1)) := HS
          clear HS
          go_wp2_with (fail)
          refine hC.mono ?_
          rintro e w2 ⟨hb2, (⟨q', e1, _⟩ | ⟨_, rfl, hI2⟩)⟩
          · cases e1
          go_wp2
          go_roundw
          case rel => exact ⟨j + 1, by omega, by go_num, by rw [HN.out, HT.out, show at_ + 1 + ((j : Int) + 1) = at_ + 1 + j + 1 by omega]; exact hI2, (hB.alloc (by omega) _).trans hb2, by show _ = _; rw [HE.out]; congr 1; omega⟩
          case measure => simp [intOf]; omega
      · have hje : j = ps.length := by omega
        have hkj : ks[j] = b := by simp only [Hks.out]; rw [List.getElem_append_right (by simp; omega)]; simp
        rw [hkj] at hx hs1 hs3
        have hC := vIn b _ (wr.alloc (.cells #[.int .i64 kk, .string xx, .int .i64 mm, .slice aa na ca] 24)) _ (Lies.alloc' hx (by omega) _) hInT (hI.below ((Below.refl _ _).alloc (Nat.le_refl _) _)) (by omega) (by omega)
        rw [show at_ + 1 + cntL (ks.take j) + cntT b = at_ + 1 + cntL (ks.take (j + 1)) by omega, show ps.take j = ps.take (j + 1) by rw [List.take_of_length_le (by omega), List.take_of_length_le (by omega)]] at hC
        have HE : Hid (R = parD ((ps.take (j + 1)).map (·.1)) (ps.drop (j + 1)) (at_ + 1 + ((j + 1 : Nat) : Int))) := by
          show _ = _
          rw [HR.out, List.drop_eq_nil_of_le (by omega), List.drop_eq_nil_of_le (by omega)]
          rfl
        clear hI hx hk hat hlk HR hje
        go_wp2_with (go_at_call 79; refine hC.mono ?_; rintro e w1 ⟨rfl, hb1, hI1⟩)
        go_roundw
        case rel => exact ⟨j + 1, by omega, by go_num, hI1, (hB.alloc (by omega) _).trans hb1, HE⟩
        case measure => simp [intOf]; omega
    · have hlk := Hkl.out
      have HE : Hid (R = none) := by
        show _ = _
        rw [HR.out, List.drop_eq_nil_of_le (by omega)]
        rfl
      rw [List.take_of_length_le (l := ks) (by omega)] at hI
      clear hlk
      go_wp2
      go_end0
      exact ⟨hB, .inr ⟨HRR.out.trans HE.out, rfl, b0, pv', P', _, by rw [show at_ + (1 + cntL ks) = at_ + 1 + cntL ks by omega]; exact hI, HPP.out⟩⟩
end Go.Proofs.YtchhpinmoagkhaaGreatDoor.face
namespace Go.Proofs.YtchhpinmoagkhaaGreatDoor.face
open Go.RowKit Go.Maps
open Go.Proofs.YtchhpinmoagkhaaGreatDoor.syn
set_option linter.unusedVariables false
set_option linter.unusedSimpArgs false
set_option maxRecDepth 100000

def kidR : Kid → List ByteArray → List ByteArray → Int → Option (Int × Int)
  | .imp x, ms, _, a => enterR ms x 6 a
  | .var x _ _ n, _, ns, a => varR ns x n a
  | .proc x _ _ _ ps _, _, ns, a => procR ns x ps a
def namesK : List Kid → List ByteArray
  | [] => []
  | .imp _ :: r => namesK r
  | .var x _ _ _ :: r => x :: namesK r
  | .proc x _ _ _ _ _ :: r => x :: namesK r
theorem namesK_append : ∀ (a b : List Kid), namesK (a ++ b) = namesK a ++ namesK b
  | [], b => rfl
  | .imp x :: r, b => namesK_append r b
  | .var x _ _ _ :: r, b => by show x :: namesK (r ++ b) = x :: (namesK r ++ namesK b); rw [namesK_append r b]
  | .proc x _ _ _ _ _ :: r, b => by show x :: namesK (r ++ b) = x :: (namesK r ++ namesK b); rw [namesK_append r b]
theorem varsN_len (all : Bool) : ∀ K : List Kid, (varsK all K).length ≤ (namesK K).length
  | [] => Nat.le_refl _
  | .imp _ :: r => varsN_len all r
  | .var x p l n :: r => by
    have := varsN_len all r
    show (if all || p then varD x p l n :: varsK all r else varsK all r).length ≤ (namesK r).length + 1
    split
    · simp; omega
    · omega
  | .proc _ _ _ _ _ _ :: r => Nat.le_trans (varsN_len all r) (Nat.le_succ _)
theorem procsN_len (all : Bool) : ∀ K : List Kid, (procsK all K).length ≤ (namesK K).length
  | [] => Nat.le_refl _
  | .imp _ :: r => procsN_len all r
  | .var _ _ _ _ :: r => Nat.le_trans (procsN_len all r) (Nat.le_succ _)
  | .proc x p l g ps b :: r => by
    have := procsN_len all r
    show (if all || p then procD x p l g ps :: procsK all r else procsK all r).length ≤ (namesK r).length + 1
    split
    · simp; omega
    · omega
theorem lookD_step (k : Kid) (r : List Kid) (ms ns : List ByteArray) (a : Int) : lookD (k :: r) ms ns a = match kidR k ms ns a with | some e => some e | none => lookD r (ms ++ importsK [k]) (ns ++ namesK [k]) (a + cntT k.tree) := by
  cases k with
  | imp x =>
    have e : cntT (Kid.imp x).tree = 1 := by unfold Kid.tree cntT cntL; rfl
    rw [e]
    show (if _ then _ else if _ then _ else _) = match (if _ then _ else if _ then _ else _ : Option (Int × Int)) with | some e => some e | none => lookD r (ms ++ [x]) (ns ++ []) (a + 1)
    rw [List.append_nil]
    split
    · rfl
    · split <;> rfl
  | var x p l n =>
    show (if _ then _ else if _ then _ else _) = match (if _ then _ else if _ then _ else _ : Option (Int × Int)) with | some e => some e | none => lookD r (ms ++ []) (ns ++ [x]) _
    rw [List.append_nil]
    split
    · rfl
    · split
      · rfl
      · cases rangeF n a <;> rfl
  | proc x p l g ps b =>
    show (if _ then _ else if _ then _ else if _ then _ else _) = match (if _ then _ else if _ then _ else if _ then _ else _ : Option (Int × Int)) with | some e => some e | none => lookD r (ms ++ []) (ns ++ [x]) _
    rw [List.append_nil]
    split
    · rfl
    · split
      · rfl
      · split
        · rfl
        · cases parD [] ps (a + 1) <;> rfl
theorem enterR_none {L : List ByteArray} {x : ByteArray} {most : Nat} {a : Int} (h : enterR L x most a = none) : L.length < most := by
  unfold enterR at h
  split at h
  · cases h
  · split at h
    · cases h
    · omega
theorem kidR_len {k : Kid} {ms ns : List ByteArray} {a : Int} (h : kidR k ms ns a = none) (h1 : ms.length ≤ 6) (h2 : ns.length ≤ 20) : (ms ++ importsK [k]).length ≤ 6 ∧ (ns ++ namesK [k]).length ≤ 20 := by
  cases k with
  | imp x =>
    have := enterR_none h
    show (ms ++ [x]).length ≤ 6 ∧ (ns ++ []).length ≤ 20
    simp; omega
  | var x p l n =>
    have h3 : ns.length < 20 := by
      have h' : varR ns x n a = none := h
      unfold varR at h'
      split at h'
      · cases h'
      · split at h'
        · cases h'
        · omega
    show (ms ++ []).length ≤ 6 ∧ (ns ++ [x]).length ≤ 20
    simp; omega
  | proc x p l g ps b =>
    have h3 : ns.length < 20 := by
      have h' : procR ns x ps a = none := h
      unfold procR at h'
      split at h'
      · cases h'
      · split at h'
        · cases h'
        · omega
    show (ms ++ []).length ≤ 6 ∧ (ns ++ [x]).length ≤ 20
    simp; omega
theorem VR.mono {Bm : Nat} {w : World} {r : Option (Int × Int)} {G G' : World → Prop} {e : Ending} {w' : World} (h : VR Bm w r G e w') (hG : G w' → G' w') : VR Bm w r G' e w' :=
  ⟨h.1, h.2.imp id (fun ⟨a, b, c⟩ => ⟨a, b, hG c⟩)⟩
theorem vKid {D Bm Bd : Nat} {mp : Option Nat} {vv pv iv : Value} {mo : ByteArray} {V : List VarD} {P : List (ProcD × Value)} {is ms ns qs : List ByteArray} (k : Kid) (v : Value) (w : World) (at_ : Int) (hv : Lies (· < Bm) w k.tree v)
    (h : DI w D Bm Bd mp vv pv iv mo V P is ms ns qs at_) (h0 : 0 ≤ at_) (hm : at_ + cntT k.tree ≤ 1000000) (hgood : k.good) (his : is.length ≤ 6) (hms : ms.length ≤ 6) (hns : ns.length ≤ 20) (hV : V.length ≤ 20) (hP : P.length ≤ 20) (hps : k.kids.length ≤ 1000) :
    Calls Tryz.prog 79 #[.pointer (some ⟨D, 0, none⟩), v] w (VR Bm w (kidR k ms ns at_) fun w' => ∃ mp' vv' pv' iv' P' qs', DI w' D Bm Bd mp' vv' pv' iv' mo (V ++ varsK false [k]) P' (is ++ importsK [k]) (ms ++ importsK [k]) (ns ++ namesK [k]) qs' (at_ + cntT k.tree) ∧ P'.map (·.1) = P.map (·.1) ++ procsK false [k]) := by
  cases k with
  | imp x =>
    have e : cntT (Kid.imp x).tree = 1 := by unfold Kid.tree cntT cntL; rfl
    rw [e] at hm ⊢
    refine (vImp x 0 v w at_ hv h h0 (by omega) hgood hms his).mono ?_
    intro e w' hr
    refine hr.mono ?_
    rintro ⟨iv', hI⟩
    refine ⟨mp, vv, pv, iv', P, qs, ?_, by show _ = _ ++ []; simp⟩
    show DI w' D Bm Bd mp vv pv iv' mo (V ++ []) P (is ++ [x]) (ms ++ [x]) (ns ++ []) qs (at_ + 1)
    rw [List.append_nil, List.append_nil]
    exact hI
  | var x p l n =>
    refine (vVar x p l n v w at_ hv h h0 hm hgood hns hV).mono ?_
    intro e w' hr
    refine hr.mono ?_
    rintro ⟨vv', hI⟩
    refine ⟨mp, vv', pv, iv, P, qs, ?_, by show _ = _ ++ []; simp⟩
    have e1 : varsK false [Kid.var x p l n] = onP p (varD x p l n) := by show (if false || p then _ else _) = _; cases p <;> rfl
    rw [e1]
    show DI w' D Bm Bd mp vv' pv iv mo _ P (is ++ []) (ms ++ []) (ns ++ [x]) qs _
    rw [List.append_nil, List.append_nil]
    exact hI
  | proc x p l g ps b =>
    refine (vProc x p l g ps b v w at_ hv h h0 hm hgood hns hP (by have : (Kid.proc x p l g ps b).kids.length = ps.length + 1 := by simp [Kid.kids]
                                                                   omega)).mono ?_
    intro e w' hr
    refine hr.mono ?_
    rintro ⟨b0, pv', P', qs', hI, hPP⟩
    refine ⟨some b0, vv, pv', iv, P', qs', ?_, ?_⟩
    · show DI w' D Bm Bd (some b0) vv pv' iv mo (V ++ []) P' (is ++ []) (ms ++ []) (ns ++ [x]) qs' _
      rw [List.append_nil, List.append_nil, List.append_nil]
      exact hI
    · have e1 : procsK false [Kid.proc x p l g ps b] = onP p (procD x p l g ps) := by show (if false || p then _ else _) = _; cases p <;> rfl
      rw [e1]
      exact hPP
set_option maxHeartbeats 4000000 in
theorem vMod {D Bm Bd : Nat} {mp : Option Nat} {vv pv iv : Value} {mo : ByteArray} {qs : List ByteArray} (m : ByteArray) (K : List Kid) (v : Value) (w : World) (hv : Lies (· < Bm) w (.node 1 m 0 (K.map Kid.tree)) v)
    (h : DI w D Bm Bd mp vv pv iv mo [] [] [] [] [] qs 0) (hm16 : m.size ≤ 16) (hgood : ∀ k ∈ K, k.good) (hcnt : cntL (K.map Kid.tree) ≤ 1000) (hps : ∀ k ∈ K, k.kids.length ≤ 1000) :
    Calls Tryz.prog 79 #[.pointer (some ⟨D, 0, none⟩), v] w (VR Bm w (lookD K [m] [] 1) fun w' => ∃ mp' vv' pv' iv' P' ms' ns' qs' a', DI w' D Bm Bd mp' vv' pv' iv' m (varsK false K) P' (importsK K) ms' ns' qs' a' ∧ P'.map (·.1) = procsK false K ∧ (namesK K).length ≤ 20 ∧ (importsK K).length ≤ 6) := by
  unfold Lies at hv
  obtain ⟨T, hT⟩ : ∃ T, K.map Kid.tree = T := ⟨_, rfl⟩
  rw [hT] at hv hcnt
  have HT : Hid (K.map Kid.tree = T) := hT
  have HL : Hid (T.length = K.length) := by show _ = _; rw [← hT]; simp
  clear hT
  obtain ⟨a, c, rfl, hl, hk⟩ := hv
  have c24 : Tryz.prog.cellsOf 24 = 4 := by kernel_rfl
  have hmm := h.lm
  have hdd := h.ld
  have hd := h.dc.lt
  have hI0 := h.below ((Below.refl _ _).alloc (Nat.le_refl _) (.cells #[.int .i64 1, .string m, .int .i64 0, .slice a T.length c] 24))
  have hI : DI (w.alloc (.cells #[.int .i64 1, .string m, .int .i64 0, .slice a T.length c] 24)).drew D Bm Bd mp vv pv iv mo [] [] [] [] [] qs 0 := hI0.below ⟨rfl, rfl, rfl, Nat.le_refl _, fun _ _ => rfl⟩
  clear hI0
  have hQ : Q4 w.heap.size (.int .i64 1) (.string m) (.int .i64 0) (.slice a T.length c) (w.alloc (.cells #[.int .i64 1, .string m, .int .i64 0, .slice a T.length c] 24)).drew := ⟨by simp, by simp, by simp, by simp⟩
  have hB : Below w.heap.size w (w.alloc (.cells #[.int .i64 1, .string m, .int .i64 0, .slice a T.length c] 24)).drew := ((Below.refl _ _).alloc (Nat.le_refl _) _).drew
  have hS : (w.alloc (.cells #[.int .i64 1, .string m, .int .i64 0, .slice a T.length c] 24)).drew.cell? ⟨D, 4, none⟩ = some (.map (some Bm)) ∧ (w.alloc (.cells #[.int .i64 1, .string m, .int .i64 0, .slice a T.length c] 24)).drew.cell? ⟨w.heap.size, 1, none⟩ = some (.string m) := ⟨hI.dc.c4, hQ.2.1⟩
  go_enter Tryz.func79, Tryz.ntmps79
  go_wp2
  refine wp_region_held_drew (S := fun W => W.cell? ⟨D, 4, none⟩ = some (.map (some Bm)) ∧ W.cell? ⟨w.heap.size, 1, none⟩ = some (.string m)) (by kernel_rfl) hS (fun hHeld => ?_)
  clear hHeld
  generalize (w.alloc (.cells #[.int .i64 1, .string m, .int .i64 0, .slice a T.length c] 24)).drew = W at *
  refine wpAnyH_take (i := 0) (v := .pointer (some ⟨D, 0, none⟩)) rfl (by kernel_rfl) (by kernel_rfl) (by kernel_rfl) (fun _ _ _ h => h) (Or.inl ⟨by rfl, fun w hSw => by obtain ⟨z0, z1⟩ := hSw; go_simp⟩) hS ?_
  simp only [Act.put, List.setIfInBounds_toArray, List.set_cons_zero, List.set_cons_succ]
  refine wpAnyH_take (i := 1) (v := .pointer (some ⟨D, 0, none⟩)) rfl (by kernel_rfl) (by kernel_rfl) (by kernel_rfl) (fun _ _ _ h => h) (Or.inl ⟨by rfl, fun w hSw => by obtain ⟨z0, z1⟩ := hSw; go_simp⟩) hS ?_
  simp only [Act.put, List.setIfInBounds_toArray, List.set_cons_zero, List.set_cons_succ]
  refine wpAnyH_take (i := 2) (v := .pointer (some ⟨D, 0, none⟩)) rfl (by kernel_rfl) (by kernel_rfl) (by kernel_rfl) (fun _ _ _ h => h) (Or.inl ⟨by rfl, fun w hSw => by obtain ⟨z0, z1⟩ := hSw; go_simp⟩) hS ?_
  simp only [Act.put, List.setIfInBounds_toArray, List.set_cons_zero, List.set_cons_succ]
  refine wpAnyH_take (i := 3) (v := .pointer (some ⟨D, 4, none⟩)) rfl (by kernel_rfl) (by kernel_rfl) (by kernel_rfl) (fun _ _ _ h => h) (Or.inl ⟨by rfl, fun w hSw => by obtain ⟨z0, z1⟩ := hSw; go_simp⟩) hS ?_
  simp only [Act.put, List.setIfInBounds_toArray, List.set_cons_zero, List.set_cons_succ]
  refine wpAnyH_take (i := 4) (v := .map (some Bm)) rfl (by kernel_rfl) (by kernel_rfl) (by kernel_rfl) (fun _ _ _ h => h) (Or.inl ⟨by rfl, fun w hSw => by obtain ⟨z0, z1⟩ := hSw; go_simp⟩) hS ?_
  simp only [Act.put, List.setIfInBounds_toArray, List.set_cons_zero, List.set_cons_succ]
  refine wpAnyH_take (i := 5) (v := .pointer (some ⟨w.heap.size, 1, none⟩)) rfl (by kernel_rfl) (by kernel_rfl) (by kernel_rfl) (fun _ _ _ h => h) (Or.inl ⟨by rfl, fun w hSw => by obtain ⟨z0, z1⟩ := hSw; go_simp⟩) hS ?_
  simp only [Act.put, List.setIfInBounds_toArray, List.set_cons_zero, List.set_cons_succ]
  refine wpAnyH_take (i := 6) (v := .string m) rfl (by kernel_rfl) (by kernel_rfl) (by kernel_rfl) (fun _ _ _ h => h) (Or.inl ⟨by rfl, fun w hSw => by obtain ⟨z0, z1⟩ := hSw; go_simp⟩) hS ?_
  simp only [Act.put, List.setIfInBounds_toArray, List.set_cons_zero, List.set_cons_succ]
  refine wpAnyH_ready (rs := [7]) (by kernel_rfl) (by simp) ?_
  refine AllReadyH.cons rfl (fun KK hK => ?_) AllReadyH.nil
  go_simp
  go_at_call 113
  refine (oEnter D Bm [] m 6 0 W hI.dc.c7 hI.om hI.am (by omega) (by omega) (by simp)).mono ?_
  rintro e W1 (⟨hm1, rfl, hb⟩ | ⟨hm1, hle, rfl, hb⟩ | ⟨hm1, hlt, rfl, hom, ham, hg⟩)
  · exact absurd hm1 (by simp [among])
  · exact absurd hle (by simp)
  have hI1 := hI.enterM hom ham hg
  rw [List.nil_append] at hI1
  go_wp2
  replace hQ := Q4.grown hQ hg (by simp; omega)
  have hB1 : Below Bm w W1 := (hB.mono (by omega)).grown hg (by have := hB.size; omega) (fun k e => by cases e; omega)
  clear hB hom ham hg hI
  refine hK.out _ _ ⟨hI1.dc.c4, hQ.2.1⟩ (fun hHeld => ?_)
  clear hK KK hHeld
  refine wpAnyH_done (by kernel_rfl) ?_ _
  obtain ⟨q0, q1, q2, q3⟩ := id hQ
  have m0 := hI1.dc.c0
  have mf0 := hI1.dc.fz 0
  have hI2 := hI1.setModule m
  have hB2 := hB1.setCell (p := ⟨D, 0, none⟩) (by show Bm ≤ D; omega) (.string m)
  have hQ2 := Q4.other (M := D) (o := 0) (by omega) hQ (.string m)
  have m7 := hI2.dc.c7
  have mf7 := hI2.dc.fz 7
  have q3' := hQ2.2.2.2
  have hI3 := hI2.setAt 1
  have hB3 := hB2.setCell (p := ⟨D, 7, none⟩) (by show Bm ≤ D; omega) (.int .i64 1)
  have hq7 := (Q4.other (M := D) (o := 7) (by omega) hQ2 (.int .i64 1)).2.2.2
  clear hI1 hB1 hQ hI2 hB2 hQ2 hm1 hlt h
  go_wp2
  clear m7 mf7 m0 mf0 q0 q1 q2 q3 q3' hq7
  obtain ⟨R, HRR⟩ : ∃ R, Hid (lookD K [m] [] 1 = R) := ⟨_, rfl⟩
  have HR : Hid (R = lookD K [m] [] 1) := HRR.out.symm
  go_loopw [75] (fun t wr => ∃ (j : Nat) (mp' : Option Nat) (vv' pv' iv' : Value) (P' : List (ProcD × Value)) (qs' : List ByteArray), j ≤ T.length ∧ t = .int .i64 j ∧ DI wr D Bm Bd mp' vv' pv' iv' m (varsK false (K.take j)) P' (importsK (K.take j)) (m :: importsK (K.take j)) (namesK (K.take j)) qs' (1 + cntL (T.take j)) ∧ Below Bm w wr ∧ Hid (P'.map (·.1) = procsK false (K.take j)) ∧ Hid (R = lookD (K.drop j) (m :: importsK (K.take j)) (namesK (K.take j)) (1 + cntL (T.take j))) ∧ Hid ((m :: importsK (K.take j)).length ≤ 6 ∧ (namesK (K.take j)).length ≤ 20)) (fun t _ => T.length - (intOf t).toNat)
  case atStart => exact ⟨0, mp, vv, pv, iv, [], qs, Nat.zero_le _, rfl, by simpa [cntL, varsK, importsK, namesK] using hI3, hB3, by show _ = _; rfl, by show _ = _; rw [HR.out]; rfl, by show _ ∧ _; simp [importsK, namesK]⟩
  case round =>
    clear hI3 hB3 HR
    obtain ⟨j, mp', vv', pv', iv', P', qs', hj, rfl, hI, hB, HP, HR, HB⟩ := hrel
    by_cases hlt : j < T.length
    · obtain ⟨g, o, rfl, hg, hat⟩ := hk (by intro e; rw [e] at hlt; simp at hlt)
      obtain ⟨kk, xx, mm, aa, na, ca, c0, c1, c2, c3, hx⟩ := kid_at hat hg hB hlt
      have hs1 := cntL_take T j hlt
      have hs2 := cntL_take_le T (j + 1)
      have hs3 := cntT_pos T[j]
      have hs4 := cntL_pos (T.take j)
      have hsz := hB.size
      have hgl : g < wr.heap.size := by have : g < Bm := hg; omega
      have hlk := HL.out
      have hjK : j < K.length := by omega
      have hTj : T[j] = K[j].tree := by simp only [← HT.out]; simp
      have hb6 := HB.out.1
      have hb20 := HB.out.2
      rw [hTj] at hx hs1 hs3
      have hvl := varsN_len false (K.take j)
      have hpl := procsN_len false (K.take j)
      have hPl : P'.length ≤ 20 := by have := congrArg List.length HP.out; rw [List.length_map] at this; omega
      have hC := vKid K[j] _ (wr.alloc (.cells #[.int .i64 kk, .string xx, .int .i64 mm, .slice aa na ca] 24)) _ (Lies.alloc' hx (by omega) _) (hI.below ((Below.refl _ _).alloc (Nat.le_refl _) _)) (by omega) (by omega) (hgood _ (List.getElem_mem hjK)) (by simp at hb6; omega) hb6 hb20 (by omega) hPl (hps _ (List.getElem_mem hjK))
      have HS : Hid (R = match kidR K[j] (m :: importsK (K.take j)) (namesK (K.take j)) (1 + cntL (T.take j)) with | some e => some e | none => lookD (K.drop (j + 1)) (m :: importsK (K.take j) ++ importsK [K[j]]) (namesK (K.take j) ++ namesK [K[j]]) (1 + cntL (T.take j) + cntT K[j].tree)) := by
        show _ = _
        rw [HR.out, List.drop_eq_getElem_cons hjK, lookD_step]
      have HG : Hid (∀ e, kidR K[j] (m :: importsK (K.take j)) (namesK (K.take j)) (1 + cntL (T.take j)) = e → e = none → (m :: importsK (K.take j) ++ importsK [K[j]]).length ≤ 6 ∧ (namesK (K.take j) ++ namesK [K[j]]).length ≤ 20) := fun e h1 h2 => kidR_len (h1.trans h2) hb6 hb20
      have HK : Hid (K.take (j + 1) = K.take j ++ [K[j]]) := List.take_succ_eq_append_getElem hjK
      have HN : Hid (1 + cntL (T.take j) + cntT K[j].tree = 1 + cntL (T.take (j + 1))) := by show _ = _; omega
      rw [HN.out] at hC
      rw [HN.out] at HS
      clear hI hx hk hat hlk hs1 hs2 hs3 hs4 hvl hpl hPl hb6 hb20 HR HB hTj
      generalize hE : kidR K[j] (m :: importsK (K.take j)) (namesK (K.take j)) (1 + cntL (T.take j)) = E at *
      have HG2 := HG.out _ rfl
      clear HG hE
      cases E with
      | some q =>
        have HE : Hid (R = some q) := HS.out
        clear HS HG2
        go_wp2_with (fail)
        refine hC.mono ?_
        rintro e w2 ⟨hb2, (⟨q', e1, rfl⟩ | ⟨e1, _⟩)⟩
        · cases e1
          go_wp2
          exact ⟨rfl, (hB.alloc (by omega) _).trans hb2, .inl ⟨q, HRR.out.trans HE.out, rfl⟩⟩
        · cases e1
      | none =>
        have HE : Hid (R = lookD (K.drop (j + 1)) (m :: importsK (K.take j) ++ importsK [K[j]]) (namesK (K.take j) ++ namesK [K[j]]) (1 + cntL (T.take (j + 1)))) := HS.out
        have HB2 : Hid ((m :: importsK (K.take j) ++ importsK [K[j]]).length ≤ 6 ∧ (namesK (K.take j) ++ namesK [K[j]]).length ≤ 20) := HG2 rfl
        clear HS HG2
        go_wp2_with (fail)
        refine hC.mono ?_
        rintro e w2 ⟨hb2, (⟨q', e1, _⟩ | ⟨_, rfl, mp2, vv2, pv2, iv2, P2, qs2, hI2, hP2⟩)⟩
        · cases e1
        have HP2 : Hid (P2.map (·.1) = P'.map (·.1) ++ procsK false [K[j]]) := hP2
        clear hP2
        go_wp2
        go_roundw
        case rel =>
          refine ⟨j + 1, mp2, vv2, pv2, iv2, P2, qs2, by omega, by go_num, ?_, (hB.alloc (by omega) _).trans hb2, ?_, ?_, ?_⟩
          · rw [HK.out, varsK_append, importsK_append, namesK_append]
            exact hI2
          · show _ = _
            rw [HP2.out, HP.out, HK.out, procsK_append]
          · show _ = _
            rw [HE.out, HK.out, importsK_append, namesK_append]
            rfl
          · rw [HK.out, importsK_append, namesK_append]
            exact HB2
        case measure => simp [intOf]; omega
    · have hlk := HL.out
      have HE : Hid (R = none) := by
        show _ = _
        rw [HR.out, List.drop_eq_nil_of_le (by omega)]
        rfl
      have hb6 := HB.out.1
      have hb20 := HB.out.2
      have hPf := HP.out
      rw [List.take_of_length_le (l := K) (by omega)] at hI hb6 hb20 hPf
      have HF : Hid (P'.map (·.1) = procsK false K ∧ (namesK K).length ≤ 20 ∧ (importsK K).length ≤ 6) := ⟨hPf, hb20, by simp at hb6; omega⟩
      clear hlk hb6 hb20 hPf
      go_wp2
      go_end0
      exact ⟨hB, .inr ⟨HRR.out.trans HE.out, rfl, _, _, _, _, _, _, _, _, _, hI, HF.out⟩⟩
end Go.Proofs.YtchhpinmoagkhaaGreatDoor.face
