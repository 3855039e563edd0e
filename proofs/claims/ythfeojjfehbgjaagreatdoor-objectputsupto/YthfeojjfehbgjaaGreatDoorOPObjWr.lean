/- What the writer's ints, bool and text answer: contracts. -/
import Derived.Test.YthfeojjfehbgjaaGreatDoorOPObjNum
import Derived.Lib.AppendStr
namespace Go.Proofs.YthfeojjfehbgjaaGreatDoor.obj
open Go.RowKit Go.Lib
open Go.Proofs.YthfeojjfehbgjaaGreatDoor.mac (BoxC grown_of_below)
set_option linter.unusedVariables false
set_option linter.unusedSimpArgs false
set_option maxRecDepth 100000
section
variable {w : World} {r : Nat} {v : Value} {L : By}
/-- numbers that lie in a row -/
def IntRow (w : World) (a : Option Addr) (l : List Int) : Prop := l ≠ [] → ∃ g o, a = some ⟨g, o, none⟩ ∧ ∀ i (h : i < l.length), w.cell? ⟨g, o + i, none⟩ = some (.int .i64 l[i])
theorem IntRow.to {w' : World} {a : Option Addr} {l : List Int} (h : IntRow w a l) {N : Nat} (hl : ∀ g o, a = some ⟨g, o, none⟩ → l ≠ [] → g < N) (hb : Below N w w') : IntRow w' a l := fun hne => by
  obtain ⟨g, o, e, hc⟩ := h hne
  exact ⟨g, o, e, fun i hi => (hb.cell (hl g o e hne)).trans (hc i hi)⟩
/-- numbers in a row that stays while the writer writes -/
def IntsK (w : World) (r : Nat) (v : Value) (a : Option Addr) (l : List Int) : Prop := l ≠ [] → ∃ g o, a = some ⟨g, o, none⟩ ∧ g ≠ r ∧ v.ownBlock ≠ some g ∧ ∀ i (h : i < l.length), w.cell? ⟨g, o + i, none⟩ = some (.int .i64 l[i])
theorem IntsK.fr {w' : World} {v' : Value} {a : Option Addr} {l : List Int} (h : IntsK w r v a l) (hf : Fr r v v' w w') : IntsK w' r v' a l := fun hne => by
  obtain ⟨g, o, e, h1, h2, hc⟩ := h hne
  have hlt : g < w.heap.size := World.block_lt_of_cell? w _ (hc 0 (by cases l with | nil => exact absurd rfl hne | cons x y => simp))
  refine ⟨g, o, e, h1, fun e2 => ?_, fun i hi => (World.cell?_of_block (a := ⟨g, o + i, none⟩) (hf.block g hlt h1 h2)).trans (hc i hi)⟩
  rcases hf.own g e2 with e3 | e3
  · exact h2 e3
  · omega
theorem intsB_take (l : List Int) (j : Nat) (h : j < l.length) : intsB (l.take (j + 1)) = intsB (l.take j) ++ numB l[j] := by
  unfold intsB
  rw [List.take_add_one, List.getElem?_eq_getElem h, List.map_append, List.flatten_append]
  simp only [Option.toList_some, List.map_cons, List.map_nil, List.flatten_cons, List.flatten_nil, List.append_nil]
theorem intsB_len (l : List Int) : (intsB l).length = 8 * l.length := by
  induction l with
  | nil => rfl
  | cons x r ih =>
    show (numB x ++ intsB r).length = _
    rw [List.length_append, ih, numB_len, List.length_cons]
    omega
set_option maxHeartbeats 1000000 in
theorem oInts (h : WR w r v L) (l : List Int) (a : Option Addr) (c : Nat) (hl : l.length ≤ 1048576) (ha : IntsK w r v a l) (hn : L.length + 8 * l.length ≤ 1000000000) :
    Calls Tryz.prog 46 #[.pointer (some ⟨r, 0, none⟩), .slice a l.length c] w (WE r w v L (intsB l)) := by
  go_enter Tryz.func46, Tryz.ntmps46
  go_wp2
  go_loopw [8] (fun t wr => ∃ (j : Nat) (u : Value), j ≤ l.length ∧ t = .int .i64 j ∧ WR wr r u (L ++ intsB (l.take j)) ∧ Fr r v u w wr) (fun t _ => l.length - (intOf t).toNat)
  case atStart => exact ⟨0, v, by omega, rfl, by simpa [intsB] using h, Fr.refl _ _ _⟩
  case round =>
    obtain ⟨j, u, hj, rfl, hW, hF⟩ := hrel
    by_cases hq : j < l.length
    · obtain ⟨g, o, rfl, _, _, hc⟩ := ha.fr hF (by intro e; rw [e] at hq; simp at hq)
      have q := hc j hq
      clear hc ha
      have hC := oNum hW l[j] (by rw [List.length_append, intsB_len, List.length_take]; omega)
      have HE : Hid (intsB (l.take (j + 1)) = intsB (l.take j) ++ numB l[j]) := intsB_take l j hq
      generalize l[j] = x at *
      go_wp2_with (go_at_call 47; refine hC.mono ?_; rintro e w2 ⟨rfl, v2, hW2, hF2⟩)
      go_roundw
      case rel => exact ⟨j + 1, v2, by omega, by go_num, by rw [HE.out, ← List.append_assoc]; exact hW2, hF.trans hF2⟩
      case measure => simp [intOf]; omega
    · go_wp2
      go_end0
      have : l.take j = l := List.take_of_length_le (by omega)
      rw [this] at hW
      exact ⟨rfl, u, hW, hF⟩
/-- numbers that were just laid -/
theorem ints_new (h : WR w r v L) (l : List Int) : IntsK (w.alloc (.cells (l.map fun x => Value.int .i64 x).toArray 3)) r v (some ⟨w.heap.size, 0, none⟩) l := fun hne => by
  refine ⟨w.heap.size, 0, rfl, fun e => by have := h.lt; omega, fun e => by have := (h.own _ e).2; omega, fun i hi => ?_⟩
  rw [Nat.zero_add]
  exact (BoxC.new w (l.map fun x => Value.int .i64 x).toArray 3).cell i (v := .int .i64 l[i]) (by simp [hi])
theorem oInts1 (h : WR w r v L) (x : Int) (hn : L.length + 8 ≤ 1000000000) :
    Calls Tryz.prog 46 #[.pointer (some ⟨r, 0, none⟩), .slice (some ⟨w.heap.size, 0, none⟩) 1 1] (w.alloc (.cells #[.int .i64 x] 3)) (WE r w v L (numB x)) :=
  (oInts (h.alloc _) [x] _ 1 (by simp) (ints_new h [x]) (by simpa using hn)).mono fun e w' g => by have := g.near; simpa [intsB] using this
theorem oInts2 (h : WR w r v L) (x y : Int) (hn : L.length + 16 ≤ 1000000000) :
    Calls Tryz.prog 46 #[.pointer (some ⟨r, 0, none⟩), .slice (some ⟨w.heap.size, 0, none⟩) 2 2] (w.alloc (.cells #[.int .i64 x, .int .i64 y] 3)) (WE r w v L (intsB [x, y])) :=
  (oInts (h.alloc _) [x, y] _ 2 (by simp) (ints_new h [x, y]) (by simpa using hn)).mono fun e w' g => g.near
theorem oInts4 (h : WR w r v L) (x y z t : Int) (hn : L.length + 32 ≤ 1000000000) :
    Calls Tryz.prog 46 #[.pointer (some ⟨r, 0, none⟩), .slice (some ⟨w.heap.size, 0, none⟩) 4 4] (w.alloc (.cells #[.int .i64 x, .int .i64 y, .int .i64 z, .int .i64 t] 3)) (WE r w v L (intsB [x, y, z, t])) :=
  (oInts (h.alloc _) [x, y, z, t] _ 4 (by simp) (ints_new h [x, y, z, t]) (by simpa using hn)).mono fun e w' g => g.near
theorem oBool (h : WR w r v L) (b : Bool) (hn : L.length ≤ 1000000000) :
    Calls Tryz.prog 71 #[.pointer (some ⟨r, 0, none⟩), .bool b] w (WE r w v L (boolB b)) := by
  cases b
  · have hC := oNum h 0 hn
    go_enter Tryz.func71, Tryz.ntmps71
    go_wp2_with (go_at_call 47; refine hC.mono ?_; rintro e w2 ⟨rfl, v2, hW2, hF2⟩)
    go_end0
    exact ⟨rfl, v2, hW2, hF2⟩
  · have hC := oNum h 1 hn
    go_enter Tryz.func71, Tryz.ntmps71
    go_wp2_with (go_at_call 47; refine hC.mono ?_; rintro e w2 ⟨rfl, v2, hW2, hF2⟩)
    go_end0
    exact ⟨rfl, v2, hW2, hF2⟩
end
/-- a text behind a row of one's own: where the new row lies -/
theorem run_append_text {P : Program} (w : World) (base : Nat) (t u ty e : TypeId) (i : TypeInfo) (ht : P.underlying t = some (.slice e)) (hu : P.underlying u = some .string) (hi : P.info? e = some i) (hz : i.zero = some (.int .u8 0))
    (hsize : i.size = 1) (hby : i.bytes = 1) (a : Option Addr) (n c : Nat) (xs : List Value) (hown : w.ownsRow base e 1 (.slice a n c) n xs) (hn : 0 < n) (s : ByteArray) (hb : n + s.size ≤ 140737488355328) (hbase : base ≤ w.heap.size) :
    ∃ g' c' w', (Builtin.append_ #[t, u] ty #[.slice a n c, .string s]).run P w = .ok (.slice (some ⟨g', 0, none⟩) (n + s.size) c') w' ∧ w'.ownsRow base e 1 (.slice (some ⟨g', 0, none⟩) (n + s.size) c') (n + s.size) (xs ++ strCells s) ∧ w.grownBy w' (Value.slice a n c).ownBlock ∧
      ((Value.slice a n c).ownBlock = some g' ∨ g' = w.heap.size) := by
  obtain ⟨v', w', hr, h2, h3, _⟩ := run_append_own_string (P := P) w base t u ty e i ht hu hi hz hsize hby (.slice a n c) n xs hown s (by unfold maxLen; omega) hb hbase
  have hxl : xs.length = n := by simpa using hown.1
  rcases hown.2 with ⟨_, h0⟩ | ⟨g, cap, cur, e1, _, hg, hnc, hcm, hcs, _⟩
  · omega
  · cases e1
    by_cases hroom : n + s.size ≤ c
    · have := run_append_room_string (P := P) w t u ty e i ht hu hi hsize g n c cur hg s hroom (by omega)
      have e2 := this.symm.trans hr
      cases e2
      exact ⟨_, _, _, hr, h2, h3, .inl rfl⟩
    · have := run_append_grow_string (P := P) w t u ty e i (.int .u8 0) ht hu hi hz ⟨g, 0, none⟩ n c xs (by rw [hsize]; simpa using hxl) (hown.cells (g := g) rfl) s (by omega) (by omega) (by rw [hby]; exact growslice_fits (by omega) (by omega))
      have e2 := this.symm.trans hr
      cases e2
      exact ⟨_, _, _, hr, h2, h3, .inr rfl⟩
theorem wpList_append_text {P : Program} (w : World) {ops : Array Oper} {rest : List Oper} {o : Oper} {a : Act} {Q : Exit → Act → World → Prop} (hgd : o.guard = none) (sl x : Operand) (t u : TypeId)
    (ho : o.op = .call { callee := .builtin .append, args := #[sl, x], argTypes := #[t, u] })
    (base : Nat) (e : TypeId) (i : TypeInfo) (ht : P.underlying t = some (.slice e)) (hu : P.underlying u = some .string) (hi : P.info? e = some i) (hz : i.zero = some (.int .u8 0))
    (hsize : i.size = 1) (hby : i.bytes = 1) (b : Option Addr) (n c : Nat) (xs : List Value) (hs : a.eval sl = .slice b n c) (hown : w.ownsRow base e 1 (.slice b n c) n xs) (hn : 0 < n) (s : ByteArray) (hx : a.eval x = .string s)
    (hb : n + s.size ≤ 140737488355328) (hbase : base ≤ w.heap.size)
    (h : ∀ g' c' w', w'.ownsRow base e 1 (.slice (some ⟨g', 0, none⟩) (n + s.size) c') (n + s.size) (xs ++ strCells s) → w.grownBy w' (Value.slice b n c).ownBlock → ((Value.slice b n c).ownBlock = some g' ∨ g' = w.heap.size) → wpList P ops Q rest (a.put o.dst (.slice (some ⟨g', 0, none⟩) (n + s.size) c')) w') : wpList P ops Q (o :: rest) a w := by
  refine wpList_plain hgd fun K hK => ?_
  obtain ⟨g', c', w', hr, h2, h3, h4⟩ := run_append_text (P := P) w base t u o.type e i ht hu hi hz hsize hby b n c xs hown hn s hb hbase
  unfold Oper.wp execOp
  simp only [ho, resolve, invoke, builtin, Sem.run_bind, Sem.run_pure, Result.andThen_ok, List.map_toArray, List.map_cons, List.map_nil, hs, hx, hr]
  exact hK _ _ (h g' c' w' h2 h3 h4)
set_option maxHeartbeats 1000000 in
theorem oText {w : World} {r : Nat} {v : Value} {L : By} (h : WR w r v L) (x : ByteArray) (hn : L.length + 8 + x.size ≤ 1000000000) :
    Calls Tryz.prog 50 #[.pointer (some ⟨r, 0, none⟩), .string x] w (WE r w v L (textB x)) := by
  obtain ⟨i0, hi, hz0, hz1, hz2⟩ := info_parts infoB
  have hC := oInts1 h (x.size : Int) (by omega)
  have hxs : x.data.toList.length = x.size := rfl
  have hx2 : strCells x = bv x.data.toList := rfl
  go_enter Tryz.func50, Tryz.ntmps50
  go_wp2_with (fail)
  refine hC.mono ?_
  rintro e w2 ⟨rfl, v2, hW2, hF2⟩
  generalize hM : L ++ numB (x.size : Int) = M at hW2
  have hM1 : M.length = L.length + 8 := by rw [← hM, List.length_append, numB_len]
  replace hM : Hid (L ++ numB (x.size : Int) = M) := hM
  have hpos : 0 < M.length := by omega
  have hle : M.length + x.size ≤ 1000000000 := by omega
  clear hM1 hn hC
  obtain ⟨ua, uc, rfl⟩ := hW2.shape
  have m0 := hW2.box.cell 0 rfl
  have hlt := hW2.lt
  go_wp2_with (at_builtin; refine wpList_append_text _ rfl (.tmp 13) (.tmp 14) 33 9 rfl (r + 1) 5 i0 Tryz.underlying33 Tryz.underlying9 hi hz0 hz1 hz2 ua M.length uc (bv M) rfl hW2.row hpos x rfl ?_ ?_ ?_; (· omega); (· omega); intro g5 cap5 w5 hown5 hgrow5 hat5; have hP := hW2.push (o := x.data.toList) hown5 hgrow5 (hat5.imp id (fun e => Nat.le_of_eq e.symm)); have hb5 := hW2.box.grown hgrow5 (fun e => by have := (hW2.own _ e).1; omega); have y0 := hb5.cell 0 rfl; have y1 := hb5.fz 0)
  go_end0
  refine ⟨rfl, _, ?_, hF2.trans hP.2⟩
  rw [show L ++ textB x = M ++ x.data.toList by rw [← hM.out, List.append_assoc]; rfl]
  exact hP.1
end Go.Proofs.YthfeojjfehbgjaaGreatDoor.obj
