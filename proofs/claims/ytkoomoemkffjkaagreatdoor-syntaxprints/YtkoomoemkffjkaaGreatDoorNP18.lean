/- What the program's stat writes of calls, of what is set, of loops and choices: contracts. -/
import Derived.Test.YtkoomoemkffjkaaGreatDoorNP17
set_option linter.unusedVariables false
set_option linter.unusedSimpArgs false
set_option maxRecDepth 100000
namespace Go.Proofs.YtkoomoemkffjkaaGreatDoor
namespace pr
open Go.RowKit Go.Shelf
open Go.Proofs.YtkoomoemkffjkaaGreatDoor.syn Go.Proofs.YtkoomoemkffjkaaGreatDoor.face Go.Proofs.YtkoomoemkffjkaaGreatDoor.chk
/-- the writer, so many words on -/
structure Wg (w0 w : World) (r : Nat) (v : Value) (ws o : List ByteArray) (W : World) (V : Value) : Prop where
  wr : WR W r V (ws ++ o)
  fr : FrU r v V w W
  b0 : Below r w0 W
  b : Below r w W
/-- how a step ends -/
def SO (w0 w : World) (r : Nat) (v : Value) (ws o : List ByteArray) (x : Option (List ByteArray)) (e : Ending) (w' : World) : Prop :=
  (x = none ∧ e = .panicked Mis ∧ Below r w w') ∨ ∃ l V', x = some l ∧ e = .returned (.tuple #[]) ∧ Wg w0 w r v ws (o ++ l) w' V'
/-- how a look ends -/
def LA (w : World) (k : Int) (x : ByteArray) (m : Int) (a : Option Addr) (n c : Nat) (b : Bool) (e : Ending) (w3 : World) : Prop :=
  (b = false ∧ e = .panicked Mis ∧ Below w.heap.size w w3) ∨ (b = true ∧ e = .returned (.tuple #[]) ∧ Below w.heap.size w w3 ∧ BoxC w3 w.heap.size #[.int .i64 k, .string x, .int .i64 m, .slice a n c] 24)
section
variable {w0 w W w' wn : World} {r f : Nat} {v V : Value} {ws o : List ByteArray}
theorem Wg.start (hB : Below r w0 w) (hW : WR w r v ws) : Wg w0 w r v ws [] w v := ⟨by rw [List.append_nil]; exact hW, FrU.refl r v w, hB, Below.refl r w⟩
theorem Wg.we (h : Wg w0 w r v ws o W V) {l : List ByteArray} {e : Ending} (hx : WE r W V (ws ++ o) l e w') : e = .returned (.tuple #[]) ∧ ∃ V', Wg w0 w r v ws (o ++ l) w' V' := by
  obtain ⟨rfl, V', h1, h2, h3⟩ := hx
  exact ⟨rfl, V', by rw [← List.append_assoc]; exact h1, h.fr.trans h2, h.b0.trans h3, h.b.trans h3⟩
theorem Wg.wo (h : Wg w0 w r v ws o W V) {x : Option (List ByteArray)} {e : Ending} (hx : WO r W V (ws ++ o) x e w') : SO w0 w r v ws o x e w' := by
  cases x with
  | none => exact .inl ⟨rfl, hx.1, h.b.trans hx.2⟩
  | some l =>
    obtain ⟨h1, V', h2⟩ := h.we hx
    exact .inr ⟨l, V', rfl, h1, h2⟩
theorem Wg.len (h : Wg w0 w r v ws o W V) : (ws ++ o).length = ws.length + o.length := List.length_append
theorem Wg.put (h : Wg w0 w r v ws o W V) (x : ByteArray) (hn : ws.length + o.length ≤ 900000) :
    Calls Tryz.prog 63 #[.pointer (some ⟨r, 0, none⟩), .slice (some ⟨W.heap.size, 0, none⟩) 1 1] (W.alloc (.cells #[.string x] 9)) (fun e w' => e = .returned (.tuple #[]) ∧ ∃ V', Wg w0 w r v ws (o ++ [x]) w' V') :=
  (oPut1 h.wr x (by rw [h.len]; exact hn)).mono fun e w' g => h.we g
theorem Wg.put2 (h : Wg w0 w r v ws o W V) (x y : ByteArray) (hn : ws.length + o.length ≤ 900000) :
    Calls Tryz.prog 63 #[.pointer (some ⟨r, 0, none⟩), .slice (some ⟨W.heap.size, 0, none⟩) 2 2] (W.alloc (.cells #[.string x, .string y] 9)) (fun e w' => e = .returned (.tuple #[]) ∧ ∃ V', Wg w0 w r v ws (o ++ [x, y]) w' V') :=
  (oPutN h.wr [x, y] (by simp) (by simp) (by rw [h.len]; exact hn)).mono fun e w' g => h.we g
theorem Wg.put3 (h : Wg w0 w r v ws o W V) (x y z : ByteArray) (hn : ws.length + o.length ≤ 900000) :
    Calls Tryz.prog 63 #[.pointer (some ⟨r, 0, none⟩), .slice (some ⟨W.heap.size, 0, none⟩) 3 3] (W.alloc (.cells #[.string x, .string y, .string z] 9)) (fun e w' => e = .returned (.tuple #[]) ∧ ∃ V', Wg w0 w r v ws (o ++ [x, y, z]) w' V') :=
  (oPutN h.wr [x, y, z] (by simp) (by simp) (by rw [h.len]; exact hn)).mono fun e w' g => h.we g
theorem Wg.label (h : Wg w0 w r v ws o W V) (m : Int) (hn : ws.length + o.length ≤ 900000) :
    Calls Tryz.prog 103 #[.pointer (some ⟨r, 0, none⟩), .int .i64 m] W (fun e w' => e = .returned (.tuple #[]) ∧ ∃ V', Wg w0 w r v ws (o ++ [labW m]) w' V') :=
  (oPutLabel h.wr m (by rw [h.len]; exact hn)).mono fun e w' g => h.we g
theorem Wg.wri (h : Wg w0 w r v ws o W V) {F : Nat} {g : Tree → Option (List ByteArray)} {Q : Tree → Prop} (hF : Wri w0 r F g Q) {t : Tree} {nv : Value} (hl : Lies (· < r) w0 t nv) (hq : Q t) (hn : (ws.length : Int) + o.length + 10 * cntT t ≤ 800000) :
    Calls Tryz.prog F #[.pointer (some ⟨r, 0, none⟩), nv] W (SO w0 w r v ws o (g t)) :=
  (hF t nv hl hq W V _ h.b0 h.wr (by rw [List.length_append]; push_cast; exact hn)).mono fun e w' g => h.wo g
theorem Wg.alloc (h : Wg w0 w r v ws o W V) (ob : Obj) : Wg w0 w r v ws o (W.alloc ob) V := ⟨h.wr.alloc ob, h.fr.alloc ob, h.b0.alloc (Nat.le_of_lt h.wr.lt) ob, h.b.alloc (Nat.le_of_lt h.wr.lt) ob⟩
theorem Wg.below (h : Wg w0 w r v ws o W V) (hb : Below W.heap.size W w') : Wg w0 w r v ws o w' V := ⟨h.wr.below hb, h.fr.trans (FrU.below hb r V), h.b0.trans (hb.mono (Nat.le_of_lt h.wr.lt)), h.b.trans (hb.mono (Nat.le_of_lt h.wr.lt))⟩
theorem Wg.box (h : Wg w0 w r v ws o W V) {b : Nat} {cs : Array Value} {ty : Nat} (bN : BoxC w b cs ty) (h1 : b ≠ r) (h2 : v.ownBlock ≠ some b) : BoxC W b cs ty := bN.fr h.fr h1 h2
theorem Wg.done (h : Wg w0 w r v ws o W V) (hb : Below wn.heap.size wn w) (hr : r ≤ wn.heap.size) : WE r wn v ws o (.returned (.tuple #[])) W := ⟨rfl, V, h.wr, (FrU.below hb r v).trans h.fr, (hb.mono hr).trans h.b⟩
theorem LA.yes {k : Int} {x : ByteArray} {m : Int} {a : Option Addr} {n c : Nat} {e : Ending} {w3 : World} (h : LA w k x m a n c true e w3) : e = .returned (.tuple #[]) ∧ Below w.heap.size w w3 ∧ BoxC w3 w.heap.size #[.int .i64 k, .string x, .int .i64 m, .slice a n c] 24 := by
  rcases h with ⟨h, _⟩ | ⟨_, h⟩
  · cases h
  · exact h
theorem lookKid (hr : w0.heap.size = r) (hP : PH w0) (hB : Below r w0 W) (kinds : List Int) (k m : Int) (x : ByteArray) (a : Option Addr) (n c : Nat) (hx : x.size < 4611686018427387904) (hn : n ≤ 4611686018427387904) (hl : kinds.length ≤ 100) (hk : ∀ i ∈ kinds, 1 ≤ i ∧ i ≤ 21) :
    Calls Tryz.prog 62 #[.agg #[.int .i64 k, .string x, .int .i64 m, .slice a n c], .slice (some ⟨W.heap.size, 0, none⟩) kinds.length kinds.length] (W.alloc (.cells (kinds.map (Value.int .i64)).toArray 3)) (fun e w' => (lookK kinds k x m n = false ∧ e = .panicked Mis ∨ lookK kinds k x m n = true ∧ e = .returned (.tuple #[])) ∧ Below W.heap.size W w') := by
  have hA := (Below.refl W.heap.size W).alloc (Nat.le_refl _) (.cells (kinds.map (Value.int .i64)).toArray 3)
  have hP2 := (hP.below (hr ▸ hB)).below hA
  refine (oLook kinds _ k m x a n c _ hP2.sh hP2.err hP2.mx hx hn (ints_at W kinds hl) hl hk).mono fun e w3 ⟨hb3, he⟩ => ⟨?_, hA.trans (hb3.mono hA.size)⟩
  cases hlk : lookK kinds k x m n with
  | false => rw [hlk] at he; exact .inl ⟨rfl, he⟩
  | true => rw [hlk] at he; exact .inr ⟨rfl, he⟩
theorem lookAt (hr : w0.heap.size = r) (hP : PH w0) (hB : Below r w0 w) (kinds : List Int) (k m : Int) (x : ByteArray) (a : Option Addr) (n c : Nat) (hx : x.size < 4611686018427387904) (hn : n ≤ 4611686018427387904) (hl : kinds.length ≤ 100) (hk : ∀ i ∈ kinds, 1 ≤ i ∧ i ≤ 21) :
    Calls Tryz.prog 62 #[.agg #[.int .i64 k, .string x, .int .i64 m, .slice a n c], .slice (some ⟨w.heap.size + 1, 0, none⟩) kinds.length kinds.length] ((w.alloc (.cells #[.int .i64 k, .string x, .int .i64 m, .slice a n c] 24)).alloc (.cells (kinds.map (Value.int .i64)).toArray 3)) (LA w k x m a n c (lookK kinds k x m n)) := by
  have hA := (Below.refl w.heap.size w).alloc (Nat.le_refl _) (.cells #[.int .i64 k, .string x, .int .i64 m, .slice a n c] 24)
  have hA2 := hA.alloc (by simp) (.cells (kinds.map (Value.int .i64)).toArray 3)
  have hP2 := (hP.below (hr ▸ hB)).below hA2
  have hI := ints_at (w.alloc (.cells #[.int .i64 k, .string x, .int .i64 m, .slice a n c] 24)) kinds hl
  rw [World.size_alloc] at hI
  have bN := (BoxC.new w #[.int .i64 k, .string x, .int .i64 m, .slice a n c] 24).alloc (.cells (kinds.map (Value.int .i64)).toArray 3)
  refine (oLook kinds _ k m x a n c _ hP2.sh hP2.err hP2.mx hx hn hI hl hk).mono fun e w3 ⟨hb3, he⟩ => ?_
  cases hlk : lookK kinds k x m n with
  | false => rw [hlk] at he; exact .inl ⟨rfl, he, hA2.trans (hb3.mono hA2.size)⟩
  | true => rw [hlk] at he; exact .inr ⟨rfl, he, hA2.trans (hb3.mono hA2.size), bN.below hb3⟩
theorem liesAt_take {P : Nat → Prop} {w : World} : ∀ {ks : List Tree} {g o : Nat} (n : Nat), LiesAt P w ks g o → LiesAt P w (ks.take n) g o
  | [], g, o, n, h => by rw [List.take_nil]; exact h
  | t :: q, g, o, 0, h => by rw [List.take_zero]; unfold LiesAt; trivial
  | t :: q, g, o, n + 1, h => by
    rw [List.take_succ_cons]
    unfold LiesAt at h ⊢
    exact ⟨h.1, liesAt_take n h.2⟩
theorem Wg.items (h : Wg w0 w r v ws o W V) (hr : w0.heap.size = r) (hO : WriO w0 r (opnF f) (okN f)) (ks : List Tree) (a : Option Addr) (c : Nat) (hl : ks.length ≤ 4611686018427387904) (hlies : ks ≠ [] → ∃ gb o, a = some ⟨gb, o, none⟩ ∧ gb < r ∧ LiesAt (· < r) w0 ks gb o) (hq : ∀ t ∈ ks, okN f t) (hn : (ws.length : Int) + o.length + 10 * cntL ks ≤ 799998) :
    Calls Tryz.prog 134 #[.pointer (some ⟨r, 0, none⟩), .slice a ks.length c, .func (.func 184) #[.pointer (some ⟨r, 0, none⟩)] #[]] W (SO w0 w r v ws o (roundF (opnF f 0) ks)) :=
  (oList_expr (oExpr hO) (fun t o e => by have := opn_len f 0 t o e; omega) ks a c hl hlies hq hr W V _ h.b0 h.wr (by rw [h.len]; push_cast; omega)).mono fun e w' g => h.wo g
/-- a kid, where it lies -/
theorem kidV {ks : List Tree} {gb og : Nat} (hg : gb < r) (hat : LiesAt (· < r) w0 ks gb og) (i : Nat) (hi : i < ks.length) :
    ∃ ka xa ma aa na ca, Lies (· < r) w0 ks[i] (.agg #[.int .i64 ka, .string xa, .int .i64 ma, .slice aa na ca]) ∧ ∀ W, Below r w0 W → W.cell? ⟨gb, og + i * 4, none⟩ = some (.int .i64 ka) ∧ W.cell? ⟨gb, og + i * 4 + 1, none⟩ = some (.string xa) ∧ W.cell? ⟨gb, og + i * 4 + 2, none⟩ = some (.int .i64 ma) ∧ W.cell? ⟨gb, og + i * 4 + 3, none⟩ = some (.slice aa na ca) := by
  obtain ⟨n0, ⟨a0, a1, a2, a3, rfl, q0, q1, q2, q3⟩, l0⟩ := hat.get i hi
  obtain ⟨ka, xa, ma, aa, na, ca, ea⟩ := lies_shape l0
  injection ea with ea
  simp only [Array.mk.injEq, List.cons.injEq, and_true] at ea
  obtain ⟨rfl, rfl, rfl, rfl⟩ := ea
  refine ⟨ka, xa, ma, aa, na, ca, l0, fun W hb => ?_⟩
  have e : ∀ i u, w0.cell? ⟨gb, i, none⟩ = some u → W.cell? ⟨gb, i, none⟩ = some u := fun i u h => by rw [hb.cell (p := ⟨gb, i, none⟩) hg]; exact h
  exact ⟨e _ _ q0, e _ _ q1, e _ _ q2, e _ _ q3⟩
end
theorem seqF_drop {g : Tree → Option (List ByteArray)} {ks : List Tree} {j : Nat} (h : j < ks.length) : seqF g (ks.drop j) = (g ks[j]).bind fun a => (seqF g (ks.drop (j + 1))).bind fun b => some (a ++ b) := by
  rw [List.drop_eq_getElem_cons h]
  rfl
section
variable {w0 : World} {r f : Nat}
set_option maxHeartbeats 4000000 in
theorem oBlock (hr : w0.heap.size = r) (hP : PH w0) (hS : Wri w0 r 165 (statW f) (okN f)) : Wri w0 r 136 (blockW (f + 1)) (okN (f + 1)) := by
  intro t nv hl hq w v ws hB hW hn
  have c24 : Tryz.prog.cellsOf 24 = 4 := by kernel_rfl
  obtain ⟨k, x, m, ks⟩ := t
  obtain ⟨hx, hks⟩ := hq
  rw [cnt_n] at hn
  unfold Lies at hl
  obtain ⟨a, c, rfl, ⟨hk1, hk2⟩, hat⟩ := hl
  have hrl := hW.lt
  have hL := lookAt hr hP hB [6] k m x a ks.length c hx hk1 (by decide) (fun i hi => by simp at hi; omega)
  simp only [List.map_cons, List.map_nil, List.length_cons, List.length_nil, Nat.zero_add] at hL
  have HO : Hid (blockW (f + 1) (.node k x m ks) = if lookK [6] k x m ks.length then (seqF (statW f) ks).bind fun b => some ([⟨#[123]⟩] ++ b ++ [⟨#[125]⟩]) else none) := rfl
  have hcp := cntL_pos ks
  have HNW : Hid (w.heap.size ≠ r ∧ v.ownBlock ≠ some w.heap.size) := ⟨by omega, fun e => by have := (hW.row.lt _ e).2; omega⟩
  generalize blockW (f + 1) (.node k x m ks) = OO at *
  go_enter Tryz.func136, Tryz.ntmps136
  go_wp2_with (fail)
  refine hL.mono ?_
  clear hL
  rintro e w3 (⟨hlk, rfl, hb3⟩ | ⟨hlk, rfl, hb3, bN⟩)
  · rw [hlk] at HO
    obtain rfl := HO.out
    clear hlk
    go_wp2
    exact ⟨rfl, rfl, hb3.mono (Nat.le_of_lt hrl)⟩
  rw [hlk] at HO
  have HO2 : Hid (OO = (seqF (statW f) ks).bind fun b => some ([⟨#[123]⟩] ++ b ++ [⟨#[125]⟩])) := HO.out
  clear HO hlk
  have S0 := Wg.start (hB.trans (hb3.mono (Nat.le_of_lt hrl))) (hW.below hb3)
  have hC1 := S0.put ⟨#[123]⟩ (by simp; omega)
  go_wp2_with (go_at_call 63; refine hC1.mono ?_; rintro e w5 ⟨rfl, v5, S5⟩; have bN5 := S5.box bN HNW.out.1 HNW.out.2; have z3 := bN5.cell 3 rfl)
  go_loopw [15] (fun u wr => ∃ (j : Nat) (vj : Value) (o : List ByteArray), j ≤ ks.length ∧ u = .int .i64 j ∧ Wg w0 w3 r v ws ([⟨#[123]⟩] ++ o) wr vj ∧ o.length ≤ 8 * cntL (ks.take j) ∧ Hid (seqF (statW f) ks = (seqF (statW f) (ks.drop j)).bind fun b => some (o ++ b))) (fun u _ => ks.length - (intOf u).toNat)
  case atStart =>
    refine ⟨0, v5, [], Nat.zero_le _, rfl, by simpa using S5, by simp [cntL], ?_⟩
    show _ = _
    rw [List.drop_zero]
    cases seqF (statW f) ks <;> rfl
  case round =>
    clear hC1 S5 S0 z3 bN5
    obtain ⟨j, vj, o, hj, rfl, Sj, hol, HI⟩ := hrel
    have hct := cntL_take ks j
    by_cases hlt : j < ks.length
    · obtain ⟨gb, og, rfl, hgb, hat⟩ := hat (by intro e; rw [e] at hlt; simp at hlt)
      obtain ⟨ka, xa, ma, aa, na, ca, hln, hcell⟩ := kidV hgb hat j hlt
      obtain ⟨q0, q1, q2, q3⟩ := hcell _ Sj.b0
      have hcn := cnt_at hlt
      have hcn2 := cntL_take ks (j + 1)
      have HX := show Hid _ from seqF_drop (g := statW f) hlt
      have hC := (Sj.alloc (.cells #[.int .i64 ka, .string xa, .int .i64 ma, .slice aa na ca] 24)).wri hS hln (hks _ (List.getElem_mem hlt)) (by simp only [List.length_append, List.length_cons, List.length_nil]; push_cast; omega)
      clear hcell
      go_wp2_with (fail)
      refine hC.mono ?_
      clear hC
      rintro e w7 (⟨hN, rfl, hb7⟩ | ⟨l7, v7, hs7, rfl, S7⟩)
      · have HN : Hid (OO = none) := by show _ = _; rw [HO2.out, HI.out, HX.out, hN]; rfl
        clear hN
        go_wp2
        refine ⟨rfl, ?_⟩
        rw [HN.out]
        exact ⟨rfl, (hb3.mono (Nat.le_of_lt hrl)).trans hb7⟩
      · have hl7 := (s_len f).st _ _ hs7
        have HI2 : Hid (seqF (statW f) ks = (seqF (statW f) (ks.drop (j + 1))).bind fun b => some ((o ++ l7) ++ b)) := by
          show _ = _
          rw [HI.out, HX.out, hs7]
          cases seqF (statW f) (ks.drop (j + 1)) with
          | none => rfl
          | some b => simp
        clear hs7
        go_wp2
        go_roundw
        case rel => exact ⟨j + 1, v7, o ++ l7, by omega, by go_num, by rw [← List.append_assoc]; exact S7, by rw [hcn, List.length_append]; push_cast; omega, HI2⟩
        case measure => simp [intOf]; omega
    · have hjj : j = ks.length := by omega
      have hCe := Sj.put ⟨#[125]⟩ (by simp only [List.length_append, List.length_cons, List.length_nil]; omega)
      have HR : Hid (OO = some ([⟨#[123]⟩] ++ o ++ [⟨#[125]⟩])) := by
        show _ = _
        rw [HO2.out, HI.out, hjj, List.drop_length]
        simp [seqF]
      clear hjj
      go_wp2_with (go_at_call 63; refine hCe.mono ?_; rintro e w7 ⟨rfl, v7, S7⟩)
      go_end0
      rw [HR.out]
      exact S7.done hb3 (Nat.le_of_lt hrl)
set_option maxHeartbeats 2000000 in
theorem oPlace (hr : w0.heap.size = r) (hP : PH w0) (hO : WriO w0 r (opnF f) (okN f)) : Wri w0 r 185 (placeW f) (okN f) := by
  intro t nv hl hq w v ws hB hW hn
  have c24 : Tryz.prog.cellsOf 24 = 4 := by kernel_rfl
  have hl' := hl
  have hq' := hq
  obtain ⟨k, x, m, ks⟩ := t
  have hx : x.size < 4611686018427387904 := by
    cases f with
    | zero => exact hq.elim
    | succ f => exact hq.1
  unfold Lies at hl'
  obtain ⟨a, c, rfl, ⟨hk1, hk2⟩, -⟩ := hl'
  have hrl := hW.lt
  have hL := lookAt hr hP hB [16, 17] k m x a ks.length c hx hk1 (by decide) (fun i hi => by simp at hi; omega)
  simp only [List.map_cons, List.map_nil, List.length_cons, List.length_nil, Nat.zero_add] at hL
  have HO : Hid (placeW f (.node k x m ks) = if lookK [16, 17] k x m ks.length then opnF f 0 (.node k x m ks) else none) := rfl
  generalize placeW f (.node k x m ks) = OO at *
  go_enter Tryz.func185, Tryz.ntmps185
  go_wp2_with (fail)
  refine hL.mono ?_
  clear hL
  rintro e w3 (⟨hlk, rfl, hb3⟩ | ⟨hlk, rfl, hb3, bN⟩)
  · rw [hlk] at HO
    obtain rfl := HO.out
    clear hlk
    go_wp2
    exact ⟨rfl, rfl, hb3.mono (Nat.le_of_lt hrl)⟩
  rw [hlk] at HO
  obtain rfl := HO.out
  clear hlk HO
  have S0 := Wg.start (hB.trans (hb3.mono (Nat.le_of_lt hrl))) (hW.below hb3)
  have hC1 := S0.wri (oExpr hO) hl hq (by simpa using hn)
  have z0 := bN.cell 0 rfl
  have z1 := bN.cell 1 rfl
  have z2 := bN.cell 2 rfl
  have z3 := bN.cell 3 rfl
  generalize opnF f 0 (.node k x m ks) = ob at *
  go_wp2_with (fail)
  refine hC1.mono ?_
  clear hC1
  rintro e w5 (⟨rfl, rfl, hb5⟩ | ⟨l5, v5, rfl, rfl, S5⟩)
  · go_wp2
    exact ⟨rfl, rfl, (hb3.mono (Nat.le_of_lt hrl)).trans hb5⟩
  · go_wp2
    go_end0
    exact S5.done hb3 (Nat.le_of_lt hrl)
end
section
variable {w0 : World} {r f : Nat}
set_option maxHeartbeats 4000000 in
theorem stat7 (hr : w0.heap.size = r) (hP : PH w0) (hO : WriO w0 r (opnF f) (okN f)) (x : ByteArray) (m : Int) (t0 : Tree) (nv : Value) (hl : Lies (· < r) w0 (.node 7 x m [t0]) nv) (h0 : okN f t0) (hx : x.size < 4611686018427387904) (hlk : lookK statKinds 7 x m 1 = true)
    (w : World) (v : Value) (ws : List ByteArray) (hB : Below r w0 w) (hW : WR w r v ws) (hn : (ws.length : Int) + 10 * (cntT t0 + 1) ≤ 800000) :
    Calls Tryz.prog 165 #[.pointer (some ⟨r, 0, none⟩), nv] w (WO r w v ws (statW (f + 1) (.node 7 x m [t0]))) := by
  have c24 : Tryz.prog.cellsOf 24 = 4 := by kernel_rfl
  have hrl := hW.lt
  have p0 := cntT_pos t0
  obtain ⟨g, o, c, ka, xa, ma, aa, na, ca, rfl, l0, hk⟩ := one_kid hl
  have HK := show Hid _ from hk
  have hL := lookAt hr hP hB statKinds 7 m x (some ⟨g, o, none⟩) 1 c hx (by decide) (by decide) (fun i hi => by simp [statKinds] at hi; omega)
  have HO : Hid (statW (f + 1) (.node 7 x m [t0]) = (opnF f 0 t0).bind fun e => some ([labW m] ++ [x, ⟨#[61]⟩] ++ e ++ [⟨#[59]⟩])) := by show _ = _; unfold statW; rw [if_pos (show lookB statKinds (.node 7 x m [t0]) = true from hlk)]; rfl
  rw [hlk] at hL
  simp only [statKinds, List.map_cons, List.map_nil, List.length_cons, List.length_nil, Nat.zero_add, Nat.reduceAdd] at hL
  clear hl hk hlk
  have HNW : Hid (w.heap.size ≠ r ∧ v.ownBlock ≠ some w.heap.size) := ⟨by omega, fun e => by have := (hW.row.lt _ e).2; omega⟩
  generalize statW (f + 1) (.node 7 x m  [t0] ) = OO at *
  go_enter Tryz.func165, Tryz.ntmps165
  go_wp2_with (fail)
  refine hL.mono ?_
  clear hL
  intro e w3 hl3
  obtain ⟨rfl, hb3, bN⟩ := hl3.yes
  clear hl3
  have S3 := Wg.start (hB.trans (hb3.mono (Nat.le_of_lt hrl))) (hW.below hb3)
  have u0 := bN.cell 0 rfl
  have u1 := bN.cell 1 rfl
  have u2 := bN.cell 2 rfl
  have u3 := bN.cell 3 rfl
  have HQ := HK.out _ S3.b0
  go_wp2_with (fail)
  refine (S3.label m (by simp only [List.length_append, List.length_cons, List.length_nil]; omega)).mono ?_
  rintro e w5 ⟨rfl, v5, S5⟩
  have b5 := S5.box bN HNW.out.1 HNW.out.2
  have u1 := b5.cell 1 rfl
  have u2 := b5.cell 2 rfl
  have u3 := b5.cell 3 rfl
  have HQ := HK.out _ S5.b0
  go_wp2_with (fail)
  refine (S5.put2 x ⟨#[61]⟩ (by simp only [List.length_append, List.length_cons, List.length_nil]; omega)).mono ?_
  rintro e w7 ⟨rfl, v7, S7⟩
  have b7 := S7.box bN HNW.out.1 HNW.out.2
  have u1 := b7.cell 1 rfl
  have u2 := b7.cell 2 rfl
  have u3 := b7.cell 3 rfl
  have HQ := HK.out _ S7.b0
  obtain ⟨q0, q1, q2, q3⟩ := HQ
  go_wp2_with (fail)
  refine (S7.wri (oExpr hO) l0 h0 (by simp only [List.length_append, List.length_cons, List.length_nil]; push_cast; omega)).mono ?_
  rintro e w9 (⟨hN, rfl, hb9⟩ | ⟨l9, v9, hs9, rfl, S9⟩)
  · have HN : Hid (OO = none) := by show _ = _; rw [HO.out, hN]; rfl
    clear hN
    go_wp2
    refine ⟨rfl, ?_⟩
    rw [HN.out]
    exact ⟨rfl, (hb3.mono (Nat.le_of_lt hrl)).trans hb9⟩
  have hl9 := opn_len f 0 t0 _ hs9
  have b9 := S9.box bN HNW.out.1 HNW.out.2
  have u1 := b9.cell 1 rfl
  have u2 := b9.cell 2 rfl
  have u3 := b9.cell 3 rfl
  have HQ := HK.out _ S9.b0
  go_wp2_with (fail)
  refine (S9.put ⟨#[59]⟩ (by simp only [List.length_append, List.length_cons, List.length_nil]; omega)).mono ?_
  rintro e w11 ⟨rfl, v11, S11⟩
  have b11 := S11.box bN HNW.out.1 HNW.out.2
  have u1 := b11.cell 1 rfl
  have u2 := b11.cell 2 rfl
  have u3 := b11.cell 3 rfl
  have HQ := HK.out _ S11.b0
  go_wp2
  go_end0
  rw [HO.out, hs9]
  exact S11.done hb3 (Nat.le_of_lt hrl)
set_option maxHeartbeats 4000000 in
theorem stat12 (hr : w0.heap.size = r) (hP : PH w0) (hO : WriO w0 r (opnF f) (okN f)) (x : ByteArray) (m : Int) (t0 : Tree) (nv : Value) (hl : Lies (· < r) w0 (.node 12 x m [t0]) nv) (h0 : okN f t0) (hx : x.size < 4611686018427387904) (hlk : lookK statKinds 12 x m 1 = true)
    (w : World) (v : Value) (ws : List ByteArray) (hB : Below r w0 w) (hW : WR w r v ws) (hn : (ws.length : Int) + 10 * (cntT t0 + 1) ≤ 800000) :
    Calls Tryz.prog 165 #[.pointer (some ⟨r, 0, none⟩), nv] w (WO r w v ws (statW (f + 1) (.node 12 x m [t0]))) := by
  have c24 : Tryz.prog.cellsOf 24 = 4 := by kernel_rfl
  have hrl := hW.lt
  have p0 := cntT_pos t0
  obtain ⟨g, o, c, ka, xa, ma, aa, na, ca, rfl, l0, hk⟩ := one_kid hl
  have HK := show Hid _ from hk
  have hL := lookAt hr hP hB statKinds 12 m x (some ⟨g, o, none⟩) 1 c hx (by decide) (by decide) (fun i hi => by simp [statKinds] at hi; omega)
  have HO : Hid (statW (f + 1) (.node 12 x m [t0]) = (opnF f 0 t0).bind fun e => some ([⟨#[111, 117, 116]⟩] ++ [labW m] ++ e ++ [⟨#[59]⟩])) := by show _ = _; unfold statW; rw [if_pos (show lookB statKinds (.node 12 x m [t0]) = true from hlk)]; rfl
  rw [hlk] at hL
  simp only [statKinds, List.map_cons, List.map_nil, List.length_cons, List.length_nil, Nat.zero_add, Nat.reduceAdd] at hL
  clear hl hk hlk
  have HNW : Hid (w.heap.size ≠ r ∧ v.ownBlock ≠ some w.heap.size) := ⟨by omega, fun e => by have := (hW.row.lt _ e).2; omega⟩
  generalize statW (f + 1) (.node 12 x m  [t0] ) = OO at *
  go_enter Tryz.func165, Tryz.ntmps165
  go_wp2_with (fail)
  refine hL.mono ?_
  clear hL
  intro e w3 hl3
  obtain ⟨rfl, hb3, bN⟩ := hl3.yes
  clear hl3
  have S3 := Wg.start (hB.trans (hb3.mono (Nat.le_of_lt hrl))) (hW.below hb3)
  have u0 := bN.cell 0 rfl
  have u1 := bN.cell 1 rfl
  have u2 := bN.cell 2 rfl
  have u3 := bN.cell 3 rfl
  have HQ := HK.out _ S3.b0
  go_wp2_with (fail)
  refine (S3.put ⟨#[111, 117, 116]⟩ (by simp only [List.length_append, List.length_cons, List.length_nil]; omega)).mono ?_
  rintro e w5 ⟨rfl, v5, S5⟩
  have b5 := S5.box bN HNW.out.1 HNW.out.2
  have u1 := b5.cell 1 rfl
  have u2 := b5.cell 2 rfl
  have u3 := b5.cell 3 rfl
  have HQ := HK.out _ S5.b0
  go_wp2_with (fail)
  refine (S5.label m (by simp only [List.length_append, List.length_cons, List.length_nil]; omega)).mono ?_
  rintro e w7 ⟨rfl, v7, S7⟩
  have b7 := S7.box bN HNW.out.1 HNW.out.2
  have u1 := b7.cell 1 rfl
  have u2 := b7.cell 2 rfl
  have u3 := b7.cell 3 rfl
  have HQ := HK.out _ S7.b0
  obtain ⟨q0, q1, q2, q3⟩ := HQ
  go_wp2_with (fail)
  refine (S7.wri (oExpr hO) l0 h0 (by simp only [List.length_append, List.length_cons, List.length_nil]; push_cast; omega)).mono ?_
  rintro e w9 (⟨hN, rfl, hb9⟩ | ⟨l9, v9, hs9, rfl, S9⟩)
  · have HN : Hid (OO = none) := by show _ = _; rw [HO.out, hN]; rfl
    clear hN
    go_wp2
    refine ⟨rfl, ?_⟩
    rw [HN.out]
    exact ⟨rfl, (hb3.mono (Nat.le_of_lt hrl)).trans hb9⟩
  have hl9 := opn_len f 0 t0 _ hs9
  have b9 := S9.box bN HNW.out.1 HNW.out.2
  have u1 := b9.cell 1 rfl
  have u2 := b9.cell 2 rfl
  have u3 := b9.cell 3 rfl
  have HQ := HK.out _ S9.b0
  go_wp2_with (fail)
  refine (S9.put ⟨#[59]⟩ (by simp only [List.length_append, List.length_cons, List.length_nil]; omega)).mono ?_
  rintro e w11 ⟨rfl, v11, S11⟩
  have b11 := S11.box bN HNW.out.1 HNW.out.2
  have u1 := b11.cell 1 rfl
  have u2 := b11.cell 2 rfl
  have u3 := b11.cell 3 rfl
  have HQ := HK.out _ S11.b0
  go_wp2
  go_end0
  rw [HO.out, hs9]
  exact S11.done hb3 (Nat.le_of_lt hrl)
set_option maxHeartbeats 4000000 in
theorem stat13 (hr : w0.heap.size = r) (hP : PH w0) (hO : WriO w0 r (opnF f) (okN f)) (x : ByteArray) (m : Int) (t0 : Tree) (nv : Value) (hl : Lies (· < r) w0 (.node 13 x m [t0]) nv) (h0 : okN f t0) (hx : x.size < 4611686018427387904) (hlk : lookK statKinds 13 x m 1 = true)
    (w : World) (v : Value) (ws : List ByteArray) (hB : Below r w0 w) (hW : WR w r v ws) (hn : (ws.length : Int) + 10 * (cntT t0 + 1) ≤ 800000) :
    Calls Tryz.prog 165 #[.pointer (some ⟨r, 0, none⟩), nv] w (WO r w v ws (statW (f + 1) (.node 13 x m [t0]))) := by
  have c24 : Tryz.prog.cellsOf 24 = 4 := by kernel_rfl
  have hrl := hW.lt
  have p0 := cntT_pos t0
  obtain ⟨g, o, c, ka, xa, ma, aa, na, ca, rfl, l0, hk⟩ := one_kid hl
  have HK := show Hid _ from hk
  have hL := lookAt hr hP hB statKinds 13 m x (some ⟨g, o, none⟩) 1 c hx (by decide) (by decide) (fun i hi => by simp [statKinds] at hi; omega)
  have HO : Hid (statW (f + 1) (.node 13 x m [t0]) = (placeW f t0).bind fun e => some ([⟨#[105, 110]⟩] ++ [labW m] ++ e ++ [⟨#[59]⟩])) := by show _ = _; unfold statW; rw [if_pos (show lookB statKinds (.node 13 x m [t0]) = true from hlk)]; rfl
  rw [hlk] at hL
  simp only [statKinds, List.map_cons, List.map_nil, List.length_cons, List.length_nil, Nat.zero_add, Nat.reduceAdd] at hL
  clear hl hk hlk
  have HNW : Hid (w.heap.size ≠ r ∧ v.ownBlock ≠ some w.heap.size) := ⟨by omega, fun e => by have := (hW.row.lt _ e).2; omega⟩
  generalize statW (f + 1) (.node 13 x m  [t0] ) = OO at *
  go_enter Tryz.func165, Tryz.ntmps165
  go_wp2_with (fail)
  refine hL.mono ?_
  clear hL
  intro e w3 hl3
  obtain ⟨rfl, hb3, bN⟩ := hl3.yes
  clear hl3
  have S3 := Wg.start (hB.trans (hb3.mono (Nat.le_of_lt hrl))) (hW.below hb3)
  have u0 := bN.cell 0 rfl
  have u1 := bN.cell 1 rfl
  have u2 := bN.cell 2 rfl
  have u3 := bN.cell 3 rfl
  have HQ := HK.out _ S3.b0
  go_wp2_with (fail)
  refine (S3.put ⟨#[105, 110]⟩ (by simp only [List.length_append, List.length_cons, List.length_nil]; omega)).mono ?_
  rintro e w5 ⟨rfl, v5, S5⟩
  have b5 := S5.box bN HNW.out.1 HNW.out.2
  have u1 := b5.cell 1 rfl
  have u2 := b5.cell 2 rfl
  have u3 := b5.cell 3 rfl
  have HQ := HK.out _ S5.b0
  go_wp2_with (fail)
  refine (S5.label m (by simp only [List.length_append, List.length_cons, List.length_nil]; omega)).mono ?_
  rintro e w7 ⟨rfl, v7, S7⟩
  have b7 := S7.box bN HNW.out.1 HNW.out.2
  have u1 := b7.cell 1 rfl
  have u2 := b7.cell 2 rfl
  have u3 := b7.cell 3 rfl
  have HQ := HK.out _ S7.b0
  obtain ⟨q0, q1, q2, q3⟩ := HQ
  go_wp2_with (fail)
  refine (S7.wri (oPlace hr hP hO) l0 h0 (by simp only [List.length_append, List.length_cons, List.length_nil]; push_cast; omega)).mono ?_
  rintro e w9 (⟨hN, rfl, hb9⟩ | ⟨l9, v9, hs9, rfl, S9⟩)
  · have HN : Hid (OO = none) := by show _ = _; rw [HO.out, hN]; rfl
    clear hN
    go_wp2
    refine ⟨rfl, ?_⟩
    rw [HN.out]
    exact ⟨rfl, (hb3.mono (Nat.le_of_lt hrl)).trans hb9⟩
  have hl9 := place_len hs9
  have b9 := S9.box bN HNW.out.1 HNW.out.2
  have u1 := b9.cell 1 rfl
  have u2 := b9.cell 2 rfl
  have u3 := b9.cell 3 rfl
  have HQ := HK.out _ S9.b0
  go_wp2_with (fail)
  refine (S9.put ⟨#[59]⟩ (by simp only [List.length_append, List.length_cons, List.length_nil]; omega)).mono ?_
  rintro e w11 ⟨rfl, v11, S11⟩
  have b11 := S11.box bN HNW.out.1 HNW.out.2
  have u1 := b11.cell 1 rfl
  have u2 := b11.cell 2 rfl
  have u3 := b11.cell 3 rfl
  have HQ := HK.out _ S11.b0
  go_wp2
  go_end0
  rw [HO.out, hs9]
  exact S11.done hb3 (Nat.le_of_lt hrl)
set_option maxHeartbeats 4000000 in
theorem stat14 (hr : w0.heap.size = r) (hP : PH w0) (hO : WriO w0 r (opnF f) (okN f)) (x : ByteArray) (m : Int) (t0 : Tree) (nv : Value) (hl : Lies (· < r) w0 (.node 14 x m [t0]) nv) (h0 : okN f t0) (hx : x.size < 4611686018427387904) (hlk : lookK statKinds 14 x m 1 = true)
    (w : World) (v : Value) (ws : List ByteArray) (hB : Below r w0 w) (hW : WR w r v ws) (hn : (ws.length : Int) + 10 * (cntT t0 + 1) ≤ 800000) :
    Calls Tryz.prog 165 #[.pointer (some ⟨r, 0, none⟩), nv] w (WO r w v ws (statW (f + 1) (.node 14 x m [t0]))) := by
  have c24 : Tryz.prog.cellsOf 24 = 4 := by kernel_rfl
  have hrl := hW.lt
  have p0 := cntT_pos t0
  obtain ⟨g, o, c, ka, xa, ma, aa, na, ca, rfl, l0, hk⟩ := one_kid hl
  have HK := show Hid _ from hk
  have hL := lookAt hr hP hB statKinds 14 m x (some ⟨g, o, none⟩) 1 c hx (by decide) (by decide) (fun i hi => by simp [statKinds] at hi; omega)
  have HO : Hid (statW (f + 1) (.node 14 x m [t0]) = (opnF f 0 t0).bind fun e => some ([⟨#[114, 101, 116, 117, 114, 110]⟩] ++ e ++ [⟨#[59]⟩])) := by show _ = _; unfold statW; rw [if_pos (show lookB statKinds (.node 14 x m [t0]) = true from hlk)]; rfl
  rw [hlk] at hL
  simp only [statKinds, List.map_cons, List.map_nil, List.length_cons, List.length_nil, Nat.zero_add, Nat.reduceAdd] at hL
  clear hl hk hlk
  have HNW : Hid (w.heap.size ≠ r ∧ v.ownBlock ≠ some w.heap.size) := ⟨by omega, fun e => by have := (hW.row.lt _ e).2; omega⟩
  generalize statW (f + 1) (.node 14 x m  [t0] ) = OO at *
  go_enter Tryz.func165, Tryz.ntmps165
  go_wp2_with (fail)
  refine hL.mono ?_
  clear hL
  intro e w3 hl3
  obtain ⟨rfl, hb3, bN⟩ := hl3.yes
  clear hl3
  have S3 := Wg.start (hB.trans (hb3.mono (Nat.le_of_lt hrl))) (hW.below hb3)
  have u0 := bN.cell 0 rfl
  have u1 := bN.cell 1 rfl
  have u2 := bN.cell 2 rfl
  have u3 := bN.cell 3 rfl
  have HQ := HK.out _ S3.b0
  go_wp2_with (fail)
  refine (S3.put ⟨#[114, 101, 116, 117, 114, 110]⟩ (by simp only [List.length_append, List.length_cons, List.length_nil]; omega)).mono ?_
  rintro e w7 ⟨rfl, v7, S7⟩
  have b7 := S7.box bN HNW.out.1 HNW.out.2
  have u1 := b7.cell 1 rfl
  have u2 := b7.cell 2 rfl
  have u3 := b7.cell 3 rfl
  have HQ := HK.out _ S7.b0
  obtain ⟨q0, q1, q2, q3⟩ := HQ
  go_wp2_with (fail)
  refine (S7.wri (oExpr hO) l0 h0 (by simp only [List.length_append, List.length_cons, List.length_nil]; push_cast; omega)).mono ?_
  rintro e w9 (⟨hN, rfl, hb9⟩ | ⟨l9, v9, hs9, rfl, S9⟩)
  · have HN : Hid (OO = none) := by show _ = _; rw [HO.out, hN]; rfl
    clear hN
    go_wp2
    refine ⟨rfl, ?_⟩
    rw [HN.out]
    exact ⟨rfl, (hb3.mono (Nat.le_of_lt hrl)).trans hb9⟩
  have hl9 := opn_len f 0 t0 _ hs9
  have b9 := S9.box bN HNW.out.1 HNW.out.2
  have u1 := b9.cell 1 rfl
  have u2 := b9.cell 2 rfl
  have u3 := b9.cell 3 rfl
  have HQ := HK.out _ S9.b0
  go_wp2_with (fail)
  refine (S9.put ⟨#[59]⟩ (by simp only [List.length_append, List.length_cons, List.length_nil]; omega)).mono ?_
  rintro e w11 ⟨rfl, v11, S11⟩
  have b11 := S11.box bN HNW.out.1 HNW.out.2
  have u1 := b11.cell 1 rfl
  have u2 := b11.cell 2 rfl
  have u3 := b11.cell 3 rfl
  have HQ := HK.out _ S11.b0
  go_wp2
  go_end0
  rw [HO.out, hs9]
  exact S11.done hb3 (Nat.le_of_lt hrl)
end
section
variable {w0 : World} {r f : Nat}
set_option maxHeartbeats 4000000 in
theorem stat9 (hr : w0.heap.size = r) (hP : PH w0) (hO : WriO w0 r (opnF f) (okN f)) (x : ByteArray) (m : Int) (t0 : Tree) (nv : Value) (hl : Lies (· < r) w0 (.node 9 x m [t0]) nv) (h0 : okN f t0) (hx : x.size < 4611686018427387904) (hlk : lookK statKinds 9 x m 1 = true)
    (w : World) (v : Value) (ws : List ByteArray) (hB : Below r w0 w) (hW : WR w r v ws) (hn : (ws.length : Int) + 10 * (cntT t0 + 1) ≤ 800000) :
    Calls Tryz.prog 165 #[.pointer (some ⟨r, 0, none⟩), nv] w (WO r w v ws (statW (f + 1) (.node 9 x m [t0]))) := by
  have c24 : Tryz.prog.cellsOf 24 = 4 := by kernel_rfl
  have hrl := hW.lt
  have p0 := cntT_pos t0
  obtain ⟨g, o, c, ka, xa, ma, aa, na, ca, rfl, l0, hk⟩ := one_kid hl
  have HK := show Hid _ from hk
  have hL := lookAt hr hP hB statKinds 9 m x (some ⟨g, o, none⟩) 1 c hx (by decide) (by decide) (fun i hi => by simp [statKinds] at hi; omega)
  have HO1 : Hid (statW (f + 1) (.node 9 x m [t0]) = (doW f t0).bind fun e => some ([⟨#[100, 111]⟩] ++ e ++ [⟨#[59]⟩])) := by show _ = _; unfold statW; rw [if_pos (show lookB statKinds (.node 9 x m [t0]) = true from hlk)]; rfl
  rw [hlk] at hL
  simp only [statKinds, List.map_cons, List.map_nil, List.length_cons, List.length_nil, Nat.zero_add, Nat.reduceAdd] at hL
  clear hl hk hlk
  obtain ⟨tk, tx, tm, tks⟩ := t0
  have hx0 : tx.size < 4611686018427387904 := by
    cases f with
    | zero => exact h0.elim
    | succ f => exact h0.1
  have l0' := l0
  unfold Lies at l0'
  obtain ⟨a', c', e', hkk, -⟩ := l0'
  injection e' with e'
  simp only [Array.mk.injEq, List.cons.injEq, and_true, Value.int.injEq, Value.string.injEq, Value.slice.injEq, true_and] at e'
  obtain ⟨rfl, rfl, rfl, rfl, rfl, rfl⟩ := e'
  have HNW : Hid (w.heap.size ≠ r ∧ v.ownBlock ≠ some w.heap.size) := ⟨by omega, fun e => by have := (hW.row.lt _ e).2; omega⟩
  generalize statW (f + 1) (.node 9 x m  [.node ka xa ma tks] ) = OO at *
  go_enter Tryz.func165, Tryz.ntmps165
  go_wp2_with (fail)
  refine hL.mono ?_
  clear hL
  intro e w3 hl3
  obtain ⟨rfl, hb3, bN⟩ := hl3.yes
  clear hl3
  have S3 := Wg.start (hB.trans (hb3.mono (Nat.le_of_lt hrl))) (hW.below hb3)
  have u0 := bN.cell 0 rfl
  have u1 := bN.cell 1 rfl
  have u2 := bN.cell 2 rfl
  have u3 := bN.cell 3 rfl
  have HQ := HK.out _ S3.b0
  obtain ⟨q0, q1, q2, q3⟩ := HQ
  have hK := lookKid hr hP S3.b0 [18] ka ma xa aa tks.length ca hx0 hkk.1 (by decide) (fun i hi => by simp at hi; omega)
  simp only [List.map_cons, List.map_nil, List.length_cons, List.length_nil, Nat.zero_add] at hK
  go_wp2_with (fail)
  refine hK.mono ?_
  clear hK
  rintro e w4 ⟨(⟨hlk, rfl⟩ | ⟨hlk, rfl⟩), hb4⟩
  · have HN : Hid (OO = none) := by show _ = _; rw [HO1.out]; unfold doW; rw [if_neg (by rw [show lookB [18] (.node ka xa ma tks) = lookK [18] ka xa ma tks.length from rfl, hlk]; simp)]; rfl
    clear hlk
    go_wp2
    refine ⟨rfl, ?_⟩
    rw [HN.out]
    exact ⟨rfl, (hb3.mono (Nat.le_of_lt hrl)).trans (hb4.mono (by have := hb3.size; omega))⟩
  have HO : Hid (OO = (opnF f 0 (.node ka xa ma tks)).bind fun e => some ([⟨#[100, 111]⟩] ++ e ++ [⟨#[59]⟩])) := by show _ = _; rw [HO1.out]; unfold doW; rw [if_pos (show lookB [18] (.node ka xa ma tks) = true from hlk)]
  clear hlk HO1
  have S4 := S3.below hb4
  go_wp2_with (fail)
  refine (S4.put ⟨#[100, 111]⟩ (by simp only [List.length_append, List.length_cons, List.length_nil]; omega)).mono ?_
  rintro e w7 ⟨rfl, v7, S7⟩
  have b7 := S7.box bN HNW.out.1 HNW.out.2
  have u1 := b7.cell 1 rfl
  have u2 := b7.cell 2 rfl
  have u3 := b7.cell 3 rfl
  have HQ := HK.out _ S7.b0
  obtain ⟨q0, q1, q2, q3⟩ := HQ
  go_wp2_with (fail)
  refine (S7.wri (oExpr hO) l0 h0 (by simp only [List.length_append, List.length_cons, List.length_nil]; push_cast; omega)).mono ?_
  rintro e w9 (⟨hN, rfl, hb9⟩ | ⟨l9, v9, hs9, rfl, S9⟩)
  · have HN : Hid (OO = none) := by show _ = _; rw [HO.out, hN]; rfl
    clear hN
    go_wp2
    refine ⟨rfl, ?_⟩
    rw [HN.out]
    exact ⟨rfl, (hb3.mono (Nat.le_of_lt hrl)).trans hb9⟩
  have hl9 := opn_len f 0 _ _ hs9
  have b9 := S9.box bN HNW.out.1 HNW.out.2
  have u1 := b9.cell 1 rfl
  have u2 := b9.cell 2 rfl
  have u3 := b9.cell 3 rfl
  have HQ := HK.out _ S9.b0
  go_wp2_with (fail)
  refine (S9.put ⟨#[59]⟩ (by simp only [List.length_append, List.length_cons, List.length_nil]; omega)).mono ?_
  rintro e w11 ⟨rfl, v11, S11⟩
  have b11 := S11.box bN HNW.out.1 HNW.out.2
  have u1 := b11.cell 1 rfl
  have u2 := b11.cell 2 rfl
  have u3 := b11.cell 3 rfl
  have HQ := HK.out _ S11.b0
  go_wp2
  go_end0
  rw [HO.out, hs9]
  exact S11.done hb3 (Nat.le_of_lt hrl)
/-- two kids of a node, or more: where they lie -/
theorem two_kids {k : Int} {x : ByteArray} {m : Int} {t0 t1 : Tree} {ks : List Tree} {nv : Value} (hl : Lies (· < r) w0 (.node k x m (t0 :: t1 :: ks)) nv) :
    ∃ g o c ka xa ma aa na ca kb xb mb ab nb cb, nv = .agg #[.int .i64 k, .string x, .int .i64 m, .slice (some ⟨g, o, none⟩) (ks.length + 2) c] ∧ (ks.length + 2 ≤ c ∧ g < r ∧ LiesAt (· < r) w0 (t0 :: t1 :: ks) g o) ∧ Lies (· < r) w0 t0 (.agg #[.int .i64 ka, .string xa, .int .i64 ma, .slice aa na ca]) ∧ Lies (· < r) w0 t1 (.agg #[.int .i64 kb, .string xb, .int .i64 mb, .slice ab nb cb]) ∧
      ∀ W, Below r w0 W → W.cell? ⟨g, o, none⟩ = some (.int .i64 ka) ∧ W.cell? ⟨g, o + 1, none⟩ = some (.string xa) ∧ W.cell? ⟨g, o + 2, none⟩ = some (.int .i64 ma) ∧ W.cell? ⟨g, o + 3, none⟩ = some (.slice aa na ca) ∧ W.cell? ⟨g, o + 4, none⟩ = some (.int .i64 kb) ∧ W.cell? ⟨g, o + 4 + 1, none⟩ = some (.string xb) ∧ W.cell? ⟨g, o + 4 + 2, none⟩ = some (.int .i64 mb) ∧ W.cell? ⟨g, o + 4 + 3, none⟩ = some (.slice ab nb cb) := by
  unfold Lies at hl
  obtain ⟨a, c, rfl, hk, hat⟩ := hl
  obtain ⟨g, o, rfl, hg, hat⟩ := hat (by simp)
  obtain ⟨ka, xa, ma, aa, na, ca, l0, h0⟩ := kidV hg hat 0 (by simp)
  obtain ⟨kb, xb, mb, ab, nb, cb, l1, h1⟩ := kidV hg hat 1 (by simp)
  simp only [List.getElem_cons_zero, List.getElem_cons_succ, Nat.zero_mul, Nat.one_mul, Nat.add_zero] at l0 l1 h0 h1
  refine ⟨g, o, c, ka, xa, ma, aa, na, ca, kb, xb, mb, ab, nb, cb, rfl, ⟨by simpa using hk.2, hg, hat⟩, l0, l1, fun W hb => ?_⟩
  obtain ⟨a0, a1, a2, a3⟩ := h0 W hb
  obtain ⟨b0, b1, b2, b3⟩ := h1 W hb
  exact ⟨a0, a1, a2, a3, b0, b1, b2, b3⟩
set_option maxHeartbeats 4000000 in
theorem stat8 (hr : w0.heap.size = r) (hP : PH w0) (hO : WriO w0 r (opnF f) (okN f)) (x : ByteArray) (m : Int) (t0 t1 : Tree) (nv : Value) (hl : Lies (· < r) w0 (.node 8 x m [t0, t1]) nv) (h0 : okN f t0) (h1 : okN f t1) (hx : x.size < 4611686018427387904) (hlk : lookK statKinds 8 x m 2 = true)
    (w : World) (v : Value) (ws : List ByteArray) (hB : Below r w0 w) (hW : WR w r v ws) (hn : (ws.length : Int) + 10 * (cntT t0 + cntT t1 + 1) ≤ 800000) :
    Calls Tryz.prog 165 #[.pointer (some ⟨r, 0, none⟩), nv] w (WO r w v ws (statW (f + 1) (.node 8 x m [t0, t1]))) := by
  have c24 : Tryz.prog.cellsOf 24 = 4 := by kernel_rfl
  have hmf : ∀ (fn : Fn) (first cap : Array Value) (w : World), (Instr.makeFunc fn first cap).run Tryz.prog w = .ok (.func fn first cap) w := fun _ _ _ _ => rfl
  have hrl := hW.lt
  have p0 := cntT_pos t0
  have p1 := cntT_pos t1
  obtain ⟨g, o, c, ka, xa, ma, aa, na, ca, kb, xb, mb, ab, nb, cb, rfl, ⟨hc2, hg, hat⟩, l0, l1, hk⟩ := two_kids hl
  have HK := show Hid _ from hk
  have hL := lookAt hr hP hB statKinds 8 m x (some ⟨g, o, none⟩) 2 c hx (by decide) (by decide) (fun i hi => by simp [statKinds] at hi; omega)
  have HO : Hid (statW (f + 1) (.node 8 x m [t0, t1]) = (placeW f t0).bind fun p => (opnF f 0 t1).bind fun e => some (p ++ [⟨#[61]⟩] ++ e ++ [⟨#[59]⟩])) := by show _ = _; unfold statW; rw [if_pos (show lookB statKinds (.node 8 x m [t0, t1]) = true from hlk)]; rfl
  rw [hlk] at hL
  simp only [statKinds, List.map_cons, List.map_nil, List.length_cons, List.length_nil, Nat.zero_add, Nat.reduceAdd] at hL
  clear hl hk hlk
  have HNW : Hid (w.heap.size ≠ r ∧ v.ownBlock ≠ some w.heap.size) := ⟨by omega, fun e => by have := (hW.row.lt _ e).2; omega⟩
  generalize statW (f + 1) (.node 8 x m  [t0, t1] ) = OO at *
  go_enter Tryz.func165, Tryz.ntmps165
  go_wp2_with (fail)
  refine hL.mono ?_
  clear hL
  intro e w3 hl3
  obtain ⟨rfl, hb3, bN⟩ := hl3.yes
  clear hl3
  have S3 := Wg.start (hB.trans (hb3.mono (Nat.le_of_lt hrl))) (hW.below hb3)
  have u0 := bN.cell 0 rfl
  have u1 := bN.cell 1 rfl
  have u2 := bN.cell 2 rfl
  have u3 := bN.cell 3 rfl
  have HQ := HK.out _ S3.b0
  obtain ⟨q0, q1, q2, q3, q4, q5, q6, q7⟩ := HQ
  go_wp2_with (fail)
  refine (S3.wri (oPlace hr hP hO) l0 h0 (by simp only [List.length_append, List.length_cons, List.length_nil]; push_cast; omega)).mono ?_
  rintro e w5 (⟨hN, rfl, hb5⟩ | ⟨l5, v5, hs5, rfl, S5⟩)
  · have HN : Hid (OO = none) := by show _ = _; rw [HO.out, hN]; rfl
    clear hN
    go_wp2
    refine ⟨rfl, ?_⟩
    rw [HN.out]
    exact ⟨rfl, (hb3.mono (Nat.le_of_lt hrl)).trans hb5⟩
  have hl5 := place_len hs5
  have b5 := S5.box bN HNW.out.1 HNW.out.2
  have u1 := b5.cell 1 rfl
  have u2 := b5.cell 2 rfl
  have u3 := b5.cell 3 rfl
  have HQ := HK.out _ S5.b0
  go_wp2_with (fail)
  refine (S5.put ⟨#[61]⟩ (by simp only [List.length_append, List.length_cons, List.length_nil]; omega)).mono ?_
  rintro e w7 ⟨rfl, v7, S7⟩
  have b7 := S7.box bN HNW.out.1 HNW.out.2
  have u1 := b7.cell 1 rfl
  have u2 := b7.cell 2 rfl
  have u3 := b7.cell 3 rfl
  have HQ := HK.out _ S7.b0
  obtain ⟨q0, q1, q2, q3, q4, q5, q6, q7⟩ := HQ
  go_wp2_with (fail)
  refine (S7.wri (oExpr hO) l1 h1 (by simp only [List.length_append, List.length_cons, List.length_nil]; push_cast; omega)).mono ?_
  rintro e w9 (⟨hN, rfl, hb9⟩ | ⟨l9, v9, hs9, rfl, S9⟩)
  · have HN : Hid (OO = none) := by show _ = _; rw [HO.out, hs5, Option.bind_some, hN]; rfl
    clear hN
    go_wp2
    refine ⟨rfl, ?_⟩
    rw [HN.out]
    exact ⟨rfl, (hb3.mono (Nat.le_of_lt hrl)).trans hb9⟩
  have hl9 := opn_len f 0 _ _ hs9
  have b9 := S9.box bN HNW.out.1 HNW.out.2
  have u1 := b9.cell 1 rfl
  have u2 := b9.cell 2 rfl
  have u3 := b9.cell 3 rfl
  have HQ := HK.out _ S9.b0
  go_wp2_with (fail)
  refine (S9.put ⟨#[59]⟩ (by simp only [List.length_append, List.length_cons, List.length_nil]; omega)).mono ?_
  rintro e w11 ⟨rfl, v11, S11⟩
  have b11 := S11.box bN HNW.out.1 HNW.out.2
  have u1 := b11.cell 1 rfl
  have u2 := b11.cell 2 rfl
  have u3 := b11.cell 3 rfl
  have HQ := HK.out _ S11.b0
  go_wp2
  go_end0
  rw [HO.out, hs5, Option.bind_some, hs9]
  exact S11.done hb3 (Nat.le_of_lt hrl)
theorem one_lies {t0 t1 : Tree} {ks : List Tree} {g o : Nat} (hg : g < r) (h : LiesAt (· < r) w0 (t0 :: t1 :: ks) g o) : [t0] ≠ [] → ∃ gb og, (some ⟨g, o, none⟩ : Option Addr) = some ⟨gb, og, none⟩ ∧ gb < r ∧ LiesAt (· < r) w0 [t0] gb og := fun _ => ⟨g, o, rfl, hg, liesAt_take 1 h⟩
set_option maxHeartbeats 4000000 in
theorem stat11 (hr : w0.heap.size = r) (hP : PH w0) (hO : WriO w0 r (opnF f) (okN f)) (hBl : Wri w0 r 136 (blockW f) (okN f)) (x : ByteArray) (m : Int) (t0 t1 : Tree) (nv : Value) (hl : Lies (· < r) w0 (.node 11 x m [t0, t1]) nv) (h0 : okN f t0) (h1 : okN f t1) (hx : x.size < 4611686018427387904) (hlk : lookK statKinds 11 x m 2 = true)
    (w : World) (v : Value) (ws : List ByteArray) (hB : Below r w0 w) (hW : WR w r v ws) (hn : (ws.length : Int) + 10 * (cntT t0 + cntT t1 + 1) ≤ 800000) :
    Calls Tryz.prog 165 #[.pointer (some ⟨r, 0, none⟩), nv] w (WO r w v ws (statW (f + 1) (.node 11 x m [t0, t1]))) := by
  have c24 : Tryz.prog.cellsOf 24 = 4 := by kernel_rfl
  have hmf : ∀ (fn : Fn) (first cap : Array Value) (w : World), (Instr.makeFunc fn first cap).run Tryz.prog w = .ok (.func fn first cap) w := fun _ _ _ _ => rfl
  have hrl := hW.lt
  have p0 := cntT_pos t0
  have p1 := cntT_pos t1
  obtain ⟨g, o, c, ka, xa, ma, aa, na, ca, kb, xb, mb, ab, nb, cb, rfl, ⟨hc2, hg, hat⟩, l0, l1, hk⟩ := two_kids hl
  have HK := show Hid _ from hk
  have hL := lookAt hr hP hB statKinds 11 m x (some ⟨g, o, none⟩) 2 c hx (by decide) (by decide) (fun i hi => by simp [statKinds] at hi; omega)
  have HO : Hid (statW (f + 1) (.node 11 x m [t0, t1]) = (roundF (opnF f 0) [t0]).bind fun c => (blockW f t1).bind fun b => some ([⟨#[119, 104, 105, 108, 101]⟩] ++ c ++ b)) := by show _ = _; unfold statW; rw [if_pos (show lookB statKinds (.node 11 x m [t0, t1]) = true from hlk)]; rfl
  rw [hlk] at hL
  simp only [statKinds, List.map_cons, List.map_nil, List.length_cons, List.length_nil, Nat.zero_add, Nat.reduceAdd] at hL
  clear hl hk hlk
  have hc1 : 1 ≤ c := by omega
  have HNW : Hid (w.heap.size ≠ r ∧ v.ownBlock ≠ some w.heap.size) := ⟨by omega, fun e => by have := (hW.row.lt _ e).2; omega⟩
  generalize statW (f + 1) (.node 11 x m  [t0, t1] ) = OO at *
  go_enter Tryz.func165, Tryz.ntmps165
  go_wp2_with (fail)
  refine hL.mono ?_
  clear hL
  intro e w3 hl3
  obtain ⟨rfl, hb3, bN⟩ := hl3.yes
  clear hl3
  have S3 := Wg.start (hB.trans (hb3.mono (Nat.le_of_lt hrl))) (hW.below hb3)
  have u0 := bN.cell 0 rfl
  have u1 := bN.cell 1 rfl
  have u2 := bN.cell 2 rfl
  have u3 := bN.cell 3 rfl
  have HQ := HK.out _ S3.b0
  go_wp2_with (fail)
  refine (S3.put ⟨#[119, 104, 105, 108, 101]⟩ (by simp only [List.length_append, List.length_cons, List.length_nil]; omega)).mono ?_
  rintro e w5 ⟨rfl, v5, S5⟩
  have b5 := S5.box bN HNW.out.1 HNW.out.2
  have u1 := b5.cell 1 rfl
  have u2 := b5.cell 2 rfl
  have u3 := b5.cell 3 rfl
  have HQ := HK.out _ S5.b0
  go_wp2_with (fail)
  refine (S5.items hr hO [t0] (some ⟨g, o, none⟩) c (by simp) (one_lies hg hat) (fun t ht => by rw [List.mem_singleton.1 ht]; exact h0) (by rw [show cntL [t0] = cntT t0 from by simp [cntL] ]; simp only [List.length_append, List.length_cons, List.length_nil]; push_cast; omega)).mono ?_
  rintro e w7 (⟨hN, rfl, hb7⟩ | ⟨l7, v7, hs7, rfl, S7⟩)
  · have HN : Hid (OO = none) := by show _ = _; rw [HO.out, hN]; rfl
    clear hN
    go_wp2
    refine ⟨rfl, ?_⟩
    rw [HN.out]
    exact ⟨rfl, (hb3.mono (Nat.le_of_lt hrl)).trans hb7⟩
  have hl7 := round_len (fun t o e => opn_len f 0 t o e) hs7
  have b7 := S7.box bN HNW.out.1 HNW.out.2
  have u1 := b7.cell 1 rfl
  have u2 := b7.cell 2 rfl
  have u3 := b7.cell 3 rfl
  have HQ := HK.out _ S7.b0
  rw [show cntL [t0] = cntT t0 from by simp [cntL] ] at hl7
  obtain ⟨q0, q1, q2, q3, q4, q5, q6, q7⟩ := HQ
  go_wp2_with (fail)
  refine (S7.wri hBl l1 h1 (by simp only [List.length_append, List.length_cons, List.length_nil]; push_cast; omega)).mono ?_
  rintro e w9 (⟨hN, rfl, hb9⟩ | ⟨l9, v9, hs9, rfl, S9⟩)
  · have HN : Hid (OO = none) := by show _ = _; rw [HO.out, hs7, Option.bind_some, hN]; rfl
    clear hN
    go_wp2
    refine ⟨rfl, ?_⟩
    rw [HN.out]
    exact ⟨rfl, (hb3.mono (Nat.le_of_lt hrl)).trans hb9⟩
  have hl9 := (s_len f).bk _ _ hs9
  have b9 := S9.box bN HNW.out.1 HNW.out.2
  have u1 := b9.cell 1 rfl
  have u2 := b9.cell 2 rfl
  have u3 := b9.cell 3 rfl
  have HQ := HK.out _ S9.b0
  go_wp2
  go_end0
  rw [HO.out, hs7, Option.bind_some, hs9]
  exact S9.done hb3 (Nat.le_of_lt hrl)
end
end pr
end Go.Proofs.YtkoomoemkffjkaaGreatDoor
