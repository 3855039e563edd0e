/- While the reference looks for what is wrong: two rows of names. -/
import Derived.Laws.EntriesVeiled
import Derived.Test.YtoobkaebahogdaaGreatDoorNB14
import Derived.Lib.SmallJoins
import Derived.WalkSpells
import Derived.RangeFuncNested
import Derived.RangeFuncBound
import Derived.Shelf.RegionOpen
import Derived.OwnWalkIn
import Derived.LoopNIn
import Derived.LoopIn
set_option linter.unusedVariables false
set_option linter.unusedSimpArgs false
set_option maxRecDepth 100000
namespace Go.Proofs.YtoobkaebahogdaaGreatDoor
namespace syn
open Go.RowKit
open Go.Proofs.YtoobkaebahogdaaGreatDoor.lexs (Tok Fine own_shape)

section
variable {w w' w0 : World} {r G B : Nat} {ts : List Tok} {s : St}
theorem recover_some {P : Program} {Q : Exit → Act → List Frame → World → Prop} {a : Act} {cs cs' : List Frame} {w : World} {y : Code} {v : Value} {d : Nat} {T : TypeId} {pos : String} (h : recoverD cs = some (v, cs')) (hy : y.wpS P Q (a.put (some d) v) cs' w) :
    ((Code.region 0 #[{ dst := some d, op := Op.call { callee := Callee.builtin Builtin.recover, args := #[], argTypes := #[] }, type := T, pos := pos, after := #[], guard := none }] false).seq y).wpS P Q a cs w := by
  apply wpS_seq
  apply wpS_region
  simp [wpOpsS, go_sem, h, Exit.thenS]
  exact hy
theorem recover_none {P : Program} {Q : Exit → Act → List Frame → World → Prop} {a : Act} {cs : List Frame} {w : World} {y : Code} {d : Nat} {T : TypeId} {pos : String} (h : recoverD cs = none) (hy : y.wpS P Q (a.put (some d) .nilIface) cs w) :
    ((Code.region 0 #[{ dst := some d, op := Op.call { callee := Callee.builtin Builtin.recover, args := #[], argTypes := #[] }, type := T, pos := pos, after := #[], guard := none }] false).seq y).wpS P Q a cs w := by
  apply wpS_seq
  apply wpS_region
  simp [wpOpsS, go_sem, h, Exit.thenS]
  exact hy
set_option maxHeartbeats 200000 in
theorem catch_idle (p e : Addr) (w : World) :
    CallsD Tryz.prog 59 #[.pointer (some p), .pointer (some e)] .returning w fun e u' w' => e = .returned (.tuple #[]) ∧ u' = .returning ∧ w' = w := by
  have hnn : ∀ w : World, (binOp BinOp.eql 20 .nilIface .nilIface).run Tryz.prog w = .ok (.bool true) w := fun _ => by kernel_rfl
  refine callsD_of_wpS Tryz.func59 rfl fun c₀ cs hu => ?_
  refine recover_none (by simp [recoverD, hu]) ?_
  simp only [Tryz.ntmps59, List.size_toArray, List.length_cons, List.length_nil, Nat.reduceAdd, Nat.reduceSub, Array.replicate_succ, Array.replicate_zero, List.push_toArray, List.append_toArray, List.nil_append, List.cons_append, Act.put, List.setIfInBounds_toArray, List.set_cons_succ, List.set_cons_zero]
  refine wpS_of_wp (wp_mono (Q := fun e a w' => e = .normal ∧ a.defers = [] ∧ w' = w) ?_ ?_)
  · go_wp2
  · rintro e a w' ⟨rfl, h1, rfl⟩
    exact ⟨h1, _, rfl, .tuple #[], by simp [results, Tryz.results59], rfl, hu, rfl⟩
set_option maxHeartbeats 1000000 in
theorem catch_strange (fb eb : Nat) (at_ : Int) (w : World) (h0 : w.cell? ⟨fb, 0, none⟩ = some (.int .i64 0)) (h1 : w.cell? ⟨fb, 1, none⟩ = some (.int .i64 0)) (f0 : w.frozen? ⟨fb, 0, none⟩ = false) (f1 : w.frozen? ⟨fb, 1, none⟩ = false) (hfb : fb < w.heap.size) :
    CallsD Tryz.prog 59 #[.pointer (some ⟨fb, 0, none⟩), .pointer (some ⟨eb, 0, none⟩)] (.panicking [{ v := .iface 105 (.agg #[.int .i64 at_]), recovered := false }]) w fun e u' w' => e = .returned (.tuple #[]) ∧ u' = .panicking [{ v := .iface 105 (.agg #[.int .i64 at_]), recovered := true }] ∧ w'.cell? ⟨fb, 0, none⟩ = some (.int .i64 2) ∧ w'.cell? ⟨fb, 1, none⟩ = some (.int .i64 at_) ∧ Fr fb w w' := by
  have c60 : Tryz.prog.cellsOf 105 = 1 := by kernel_rfl
  have c27 : Tryz.prog.cellsOf 27 = 2 := by kernel_rfl
  have hnn : ∀ w : World, (binOp BinOp.eql 20 (.iface 105 (.agg #[.int .i64 at_])) .nilIface).run Tryz.prog w = .ok (.bool false) w := fun _ => by kernel_rfl
  have hta : ∀ w : World, (Instr.typeAssert (.iface 105 (.agg #[.int .i64 at_])) 20 105 true).run Tryz.prog w = .ok (.tuple #[.agg #[.int .i64 at_], .bool true]) w := fun _ => by kernel_rfl
  refine callsD_of_wpS Tryz.func59 rfl fun c₀ cs hu => ?_
  refine recover_some (v := .iface 105 (.agg #[.int .i64 at_])) (cs' := { c₀ with mode := .panicking [{ v := .iface 105 (.agg #[.int .i64 at_]), recovered := true }] } :: cs) (by simp [recoverD, hu]) ?_
  simp only [Tryz.ntmps59, List.size_toArray, List.length_cons, List.length_nil, Nat.reduceAdd, Nat.reduceSub, Array.replicate_succ, Array.replicate_zero, List.push_toArray, List.append_toArray, List.nil_append, List.cons_append, Act.put, List.setIfInBounds_toArray, List.set_cons_succ, List.set_cons_zero]
  refine wpS_of_wp (wp_mono (Q := fun e a w' => e = .normal ∧ a.defers = [] ∧ w'.cell? ⟨fb, 0, none⟩ = some (.int .i64 2) ∧ w'.cell? ⟨fb, 1, none⟩ = some (.int .i64 at_) ∧ Fr fb w w') ?_ ?_)
  · go_wp2
    exact (((Fr.refl _ _).set _ _).set _ _).alloc _
  · rintro e a w' ⟨rfl, h1, h2, h3, h4⟩
    exact ⟨h1, _, rfl, .tuple #[], by simp [results, Tryz.results59], rfl, rfl, h2, h3, h4⟩
set_option maxHeartbeats 1000000 in
theorem catch_short (fb eb : Nat) (at_ : Int) (w : World) (he : w.cell? ⟨eb, 0, none⟩ = some (.int .i64 at_)) (heb : eb < w.heap.size) (h0 : w.cell? ⟨fb, 0, none⟩ = some (.int .i64 0)) (h1 : w.cell? ⟨fb, 1, none⟩ = some (.int .i64 0)) (f0 : w.frozen? ⟨fb, 0, none⟩ = false) (f1 : w.frozen? ⟨fb, 1, none⟩ = false) (hfb : fb < w.heap.size) :
    CallsD Tryz.prog 59 #[.pointer (some ⟨fb, 0, none⟩), .pointer (some ⟨eb, 0, none⟩)] (.panicking [{ v := .iface 106 (.agg #[]), recovered := false }]) w fun e u' w' => e = .returned (.tuple #[]) ∧ u' = .panicking [{ v := .iface 106 (.agg #[]), recovered := true }] ∧ w'.cell? ⟨fb, 0, none⟩ = some (.int .i64 2) ∧ w'.cell? ⟨fb, 1, none⟩ = some (.int .i64 at_) ∧ Fr fb w w' := by
  have c60 : Tryz.prog.cellsOf 105 = 1 := by kernel_rfl
  have c27 : Tryz.prog.cellsOf 27 = 2 := by kernel_rfl
  have hnn : ∀ w : World, (binOp BinOp.eql 20 (.iface 106 (.agg #[])) .nilIface).run Tryz.prog w = .ok (.bool false) w := fun _ => by kernel_rfl
  have hta : ∀ w : World, (Instr.typeAssert (.iface 106 (.agg #[])) 20 105 true).run Tryz.prog w = .ok (.tuple #[.agg #[.int .i64 0], .bool false]) w := fun _ => by kernel_rfl
  have htb : ∀ w : World, (Instr.typeAssert (.iface 106 (.agg #[])) 20 106 true).run Tryz.prog w = .ok (.tuple #[.agg #[], .bool true]) w := fun _ => by kernel_rfl
  have c62 : Tryz.prog.cellsOf 106 = 0 := by kernel_rfl
  refine callsD_of_wpS Tryz.func59 rfl fun c₀ cs hu => ?_
  refine recover_some (v := .iface 106 (.agg #[])) (cs' := { c₀ with mode := .panicking [{ v := .iface 106 (.agg #[]), recovered := true }] } :: cs) (by simp [recoverD, hu]) ?_
  simp only [Tryz.ntmps59, List.size_toArray, List.length_cons, List.length_nil, Nat.reduceAdd, Nat.reduceSub, Array.replicate_succ, Array.replicate_zero, List.push_toArray, List.append_toArray, List.nil_append, List.cons_append, Act.put, List.setIfInBounds_toArray, List.set_cons_succ, List.set_cons_zero]
  refine wpS_of_wp (wp_mono (Q := fun e a w' => e = .normal ∧ a.defers = [] ∧ w'.cell? ⟨fb, 0, none⟩ = some (.int .i64 2) ∧ w'.cell? ⟨fb, 1, none⟩ = some (.int .i64 at_) ∧ Fr fb w w') ?_ ?_)
  · go_wp2
    exact (((Fr.refl _ _).set _ _).set _ _).alloc _
  · rintro e a w' ⟨rfl, h1, h2, h3, h4⟩
    exact ⟨h1, _, rfl, .tuple #[], by simp [results, Tryz.results59], rfl, rfl, h2, h3, h4⟩
/-- a reader over a row of tokens that lies in memory -/
theorem Ld.new {L : Value} {T : TypeId} {B0 : Nat} (hown : w.ownsRow B0 70 3 L ts.length (lexs.cellsOf ts)) (hlen : ts.length ≤ 3000) (hfine : ∀ t ∈ ts, Fine t) (hO : HasOps w) : ∃ G, Ld (w.alloc (.cells #[L] T)) w.heap.size G ts ⟨0, false⟩ := by
  have hlow : 5 < w.heap.size := by
    obtain ⟨cs, t, fr, h1, _⟩ := hO
    rcases Nat.lt_or_ge 5 w.heap.size with h | h
    · exact h
    · rw [Array.getElem?_eq_none h] at h1
      simp at h1
  have hO' : HasOps (w.alloc (.cells #[L] T)) := hasOps_below hO ((Below.refl _ _).alloc (Nat.le_refl _) _)
  have hown' := hown.alloc (.cells #[L] T)
  obtain ⟨a, c, rfl, hm, hg⟩ := own_shape hown
  have hcap : ts.length ≤ c := by
    rcases hown.2 with ⟨e1, e2⟩ | ⟨g, cap, cur, e1, _, _, e2, _⟩
    · omega
    · injection e1 with _ _ e3
      omega
  rcases Nat.eq_zero_or_pos ts.length with h0 | h0
  · refine ⟨0, ⟨a, c, by simp, by simpa using hcap, fun h => by dsimp only at h; omega⟩, by simp, fun k hk => by omega, by omega, hlen, Nat.zero_le _, hfine, rfl, hO', hlow⟩
  · obtain ⟨g, rfl⟩ := hg h0
    have hlt := hown.lt g rfl
    refine ⟨g, ⟨some ⟨g, 0, none⟩, c, by simp, by simpa using hcap, fun h => by simp⟩, by simp, fun k hk => ?_, hlt.2, hlen, Nat.zero_le _, hfine, rfl, hO', hlow⟩
    exact lexs.tok_cells hown' hk
/-- what read answers: the module's node, or where it failed -/
def RdOut (w : World) (n : Nat) (ts : List Tok) (q : Tree × St) (e : Ending) (w' : World) : Prop :=
  ∃ v, e = .returned (.tuple #[v, .agg #[.int .i64 (if q.2.bad then 2 else 0), .int .i64 (if q.2.bad then failAt ts n q.2 else 0)]]) ∧ Lies (fun b => w.heap.size ≤ b ∧ b < w'.heap.size) w' (if q.2.bad then none0 else q.1) v ∧ Below w.heap.size w w'
theorem RdOut.bad {n : Nat} {q : Tree × St} (hb : q.2.bad = true) (hB : Below w.heap.size w w') : RdOut w n ts q (.returned (.tuple #[.agg #[.int .i64 0, .string empty, .int .i64 0, .slice none 0 0], .agg #[.int .i64 2, .int .i64 (failAt ts n q.2)]])) w' := by
  unfold RdOut
  rw [hb]
  exact ⟨_, rfl, Lies.leaf _ _ _ _ _, hB⟩
theorem RdOut.good {n : Nat} {q : Tree × St} {v : Value} (hb : q.2.bad = false) (hl : Lies (fun b => w.heap.size ≤ b ∧ b < w'.heap.size) w' q.1 v) (hB : Below w.heap.size w w') : RdOut w n ts q (.returned (.tuple #[v, .agg #[.int .i64 0, .int .i64 0]])) w' := by
  unfold RdOut
  rw [hb]
  exact ⟨_, rfl, hl, hB⟩
set_option maxHeartbeats 2000000 in
theorem oread {L : Value} {B0 n : Nat} (hown : w.ownsRow B0 70 3 L ts.length (lexs.cellsOf ts)) (hlen : ts.length ≤ 3000) (hfine : ∀ t ∈ ts, Fine t) (hO : HasOps w) {q : Tree × St} (hq : moduleF ts = some q) :
    Calls Tryz.prog 28 #[L, .int .i64 n] w (RdOut w n ts q) := by
  have c24 : Tryz.prog.cellsOf 24 = 4 := by kernel_rfl
  have c27 : Tryz.prog.cellsOf 27 = 2 := by kernel_rfl
  have c64 : Tryz.prog.cellsOf 108 = 1 := by kernel_rfl
  have hmf : ∀ (fn : Fn) (first cap : Array Value) (w : World), (Instr.makeFunc fn first cap).run Tryz.prog w = .ok (.func fn first cap) w := fun _ _ _ _ => rfl
  obtain ⟨w3, hw3⟩ : ∃ w3, w3 = ((w.alloc (.cells #[.int .i64 n] 3)).alloc (.cells #[.int .i64 0, .string empty, .int .i64 0, .slice none 0 0] 24)).alloc (.cells #[.int .i64 0, .int .i64 0] 27) := ⟨_, rfl⟩
  have hs3 : w3.heap.size = w.heap.size + 3 := by rw [hw3]; simp
  have hbel : Below w.heap.size w w3 := by rw [hw3]; exact (((Below.refl _ _).alloc (Nat.le_refl _) _).alloc (by simp) _).alloc (by simp; omega) _
  obtain ⟨G, hL⟩ := Ld.new (w := w3) (L := L) (T := 108) (by rw [hw3]; exact ((hown.alloc _).alloc _).alloc _) hlen hfine (hasOps_below hO hbel)
  have hM := omodule hL hq
  rw [hs3] at hM hL
  obtain ⟨a, c, rfl, hm, _⟩ := own_shape hown
  rw [hw3] at hM hL
  go_enter_defers Tryz.func28, Tryz.ntmps28
  obtain ⟨w4, hw4⟩ : ∃ w4, w4 = (((w.alloc (.cells #[.int .i64 n] 3)).alloc (.cells #[.int .i64 0, .string empty, .int .i64 0, .slice none 0 0] 24)).alloc (.cells #[.int .i64 0, .int .i64 0] 27)).alloc (.cells #[.slice a ts.length c] 108) := ⟨_, rfl⟩
  rw [← hw4] at hM hL
  have hs4 : w4.heap.size = w.heap.size + 4 := by rw [hw4]; simp
  have hb4 : Below w.heap.size w w4 := by rw [hw4]; exact ((((Below.refl _ _).alloc (Nat.le_refl _) _).alloc (by simp) _).alloc (by simp; omega) _).alloc (by simp; omega) _
  have k0 : w4.cell? ⟨w.heap.size, 0, none⟩ = some (.int .i64 n) := by
    have a0 : (w.alloc (.cells #[.int .i64 n] 3)).cell? ⟨w.heap.size, 0, none⟩ = some (.int .i64 n) := by simp
    rw [hw4]
    exact ((((Below.refl (w.alloc (.cells #[.int .i64 n] 3)).heap.size (w.alloc (.cells #[.int .i64 n] 3))).alloc (Nat.le_refl _) _).alloc (by simp) _).alloc (by simp) _).cell (p := ⟨w.heap.size, 0, none⟩) (by simp) |>.trans a0
  have k2 : Box4 w4 (w.heap.size + 1) (.int .i64 0) (.string empty) (.int .i64 0) (.slice none 0 0) := by
    have := ((Box4.new (w.alloc (.cells #[.int .i64 n] 3)) (.int .i64 0) (.string empty) (.int .i64 0) (.slice none 0 0) 24).alloc (.cells #[.int .i64 0, .int .i64 0] 27)).alloc (.cells #[.slice a ts.length c] 108)
    rw [World.size_alloc] at this
    rw [hw4]
    exact this
  have k1 : w4.cell? ⟨w.heap.size + 2, 0, none⟩ = some (.int .i64 0) ∧ w4.cell? ⟨w.heap.size + 2, 1, none⟩ = some (.int .i64 0) ∧ w4.frozen? ⟨w.heap.size + 2, 0, none⟩ = false ∧ w4.frozen? ⟨w.heap.size + 2, 1, none⟩ = false := by
    have hs2 : ((w.alloc (.cells #[.int .i64 n] 3)).alloc (.cells #[.int .i64 0, .string empty, .int .i64 0, .slice none 0 0] 24)).heap.size = w.heap.size + 2 := by simp
    generalize (w.alloc (.cells #[.int .i64 n] 3)).alloc (.cells #[.int .i64 0, .string empty, .int .i64 0, .slice none 0 0] 24) = wz at *
    rw [← hs2]
    have hb := ((Below.refl (wz.alloc (.cells #[.int .i64 0, .int .i64 0] 27)).heap.size (wz.alloc (.cells #[.int .i64 0, .int .i64 0] 27))).alloc (Nat.le_refl _) (.cells #[.slice a ts.length c] 108)).block wz.heap.size (by simp)
    rw [hw4]
    refine ⟨(World.cell?_of_block (a := ⟨wz.heap.size, 0, none⟩) hb).trans (by simp), (World.cell?_of_block (a := ⟨wz.heap.size, 1, none⟩) hb).trans (by simp), (World.frozen?_of_block (a := ⟨wz.heap.size, 0, none⟩) hb).trans (by simp), (World.frozen?_of_block (a := ⟨wz.heap.size, 1, none⟩) hb).trans (by simp)⟩
  go_wp2_with (fail)
  rw [hw4] at hM
  refine hM.mono ?_
  rw [← hw4]
  rintro e w5 (⟨hb, rfl, hF⟩ | ⟨hb, v, rfl, hl, hL5, hF⟩)
  · have hz5 := hF.size
    have hB2 := hF.block (w.heap.size + 2) (by omega) (by simp)
    have hBe := hF.block w.heap.size (by omega) (by simp)
    have hB1 := k2.fr hF (by omega)
    have e0 := (World.cell?_of_block (a := ⟨w.heap.size + 2, 0, none⟩) hB2).trans k1.1
    have e1 := (World.cell?_of_block (a := ⟨w.heap.size + 2, 1, none⟩) hB2).trans k1.2.1
    have e2 := (World.frozen?_of_block (a := ⟨w.heap.size + 2, 0, none⟩) hB2).trans k1.2.2.1
    have e3 := (World.frozen?_of_block (a := ⟨w.heap.size + 2, 1, none⟩) hB2).trans k1.2.2.2
    have e4 := (World.cell?_of_block (a := ⟨w.heap.size, 0, none⟩) hBe).trans k0
    have key : CallsD Tryz.prog 59 #[.pointer (some ⟨w.heap.size + 2, 0, none⟩), .pointer (some ⟨w.heap.size, 0, none⟩)] (.panicking (Pan ts q.2)) w5 fun e u' w' => e = .returned (.tuple #[]) ∧ u' = .panicking [{ v := lost ts q.2, recovered := true }] ∧ w'.cell? ⟨w.heap.size + 2, 0, none⟩ = some (.int .i64 2) ∧ w'.cell? ⟨w.heap.size + 2, 1, none⟩ = some (.int .i64 (failAt ts n q.2)) ∧ Fr (w.heap.size + 2) w5 w' := by
      unfold Pan lost failAt
      cases ht : ts[q.2.i]? with
      | none => exact catch_short _ _ _ _ e4 (by omega) e0 e1 e2 e3 (by omega)
      | some t => exact catch_strange _ _ _ _ e0 e1 e2 e3 (by omega)
    have HK : Hid (Below w.heap.size w w5) := ⟨hF.os.trans hb4.os, hF.tape.trans hb4.tape, hF.output.trans hb4.output, Nat.le_trans hb4.size hF.size, fun j hj => (hF.block j (by omega) (by simp; omega)).trans (hb4.block j hj)⟩
    go_wp2
    refine leaves_cons (f := 59) (args := #[.pointer (some ⟨w.heap.size + 2, 0, none⟩), .pointer (some ⟨w.heap.size, 0, none⟩)]) (by simp) (by simp [go_sem]) ?_
    refine key.mono ?_
    rintro e u' w6 ⟨rfl, rfl, c0, c1, hF6⟩
    obtain ⟨q0, q1, q2, q3, _, _, _, _⟩ := hB1.fr hF6 (by omega)
    have HK6 : Hid (Below w.heap.size w w6) := ⟨hF6.os.trans HK.out.os, hF6.tape.trans HK.out.tape, hF6.output.trans HK.out.output, Nat.le_trans HK.out.size hF6.size, fun j hj => (hF6.block j (by omega) (by simp; omega)).trans (HK.out.block j hj)⟩
    refine ⟨.tuple #[.agg #[.int .i64 0, .string empty, .int .i64 0, .slice none 0 0], .agg #[.int .i64 2, .int .i64 (failAt ts n q.2)]], ?_, RdOut.bad hb HK6.out⟩
    simp [results, Tryz.results28, go_sem, q0, q1, q2, q3, c0, c1, empty]
  · obtain ⟨k, x, m, _, rfl, al, nn, cc, rfl⟩ := hl.shape
    have hz5 := hF.size
    have hB2 := hF.block (w.heap.size + 2) (by omega) (by simp)
    have hB1 := k2.fr hF (by omega)
    have e0 := (World.cell?_of_block (a := ⟨w.heap.size + 2, 0, none⟩) hB2).trans k1.1
    have e1 := (World.cell?_of_block (a := ⟨w.heap.size + 2, 1, none⟩) hB2).trans k1.2.1
    have e2 := (World.frozen?_of_block (a := ⟨w.heap.size + 2, 0, none⟩) hB2).trans k1.2.2.1
    have e3 := (World.frozen?_of_block (a := ⟨w.heap.size + 2, 1, none⟩) hB2).trans k1.2.2.2
    obtain ⟨q0, q1, q2, q3, t0, t1, t2, t3⟩ := id hB1
    have HK : Hid (Below w.heap.size w w5) := ⟨hF.os.trans hb4.os, hF.tape.trans hb4.tape, hF.output.trans hb4.output, Nat.le_trans hb4.size hF.size, fun j hj => (hF.block j (by omega) (by simp; omega)).trans (hb4.block j hj)⟩
    go_wp2
    refine leaves_cons (f := 59) (args := #[.pointer (some ⟨w.heap.size + 2, 0, none⟩), .pointer (some ⟨w.heap.size, 0, none⟩)]) (by simp) (by simp [go_sem]) ?_
    refine (catch_idle _ _ _).mono ?_
    rintro e u' w6 ⟨rfl, rfl, hw6⟩
    subst hw6
    have hput := Fr.put w5 (w.heap.size + 1) (.int .i64 k) (.string x) (.int .i64 m) (.slice al nn cc)
    have hl1 := hl.frP (x := w.heap.size + 1) hput (fun b hb => ⟨hb.2, by omega⟩) (fun b hb => hb)
    refine ⟨.tuple #[.agg #[.int .i64 k, .string x, .int .i64 m, .slice al nn cc], .agg #[.int .i64 0, .int .i64 0]], ?_, RdOut.good hb ?_ ?_⟩
    · simp [results, Tryz.results28, go_sem, q0, q1, q2, q3, e0, e1]
    · exact hl1.frP (x := w.heap.size + 2) (((Fr.refl _ _).set 0 _).set 1 _) (fun b hb => ⟨by simpa using hb.2, by omega⟩) (fun b hb => ⟨by omega, by simpa using hb.2⟩)
    · exact (((((HK.out.setCell (by simp) _).setCell (by simp) _).setCell (by simp) _).setCell (by simp) _).setCell (by simp; omega) _).setCell (by simp; omega) _
end
end syn
namespace syn
open Go.RowKit

/-- what isWithin answers: whether all is within the limits, and if so how many there are -/
def WiOut (w : World) (P : Nat) (o : Option Int) (e : Ending) (w' : World) : Prop :=
  e = .returned (.bool o.isSome) ∧ (∀ c', o = some c' → w'.cell? ⟨P, 0, none⟩ = some (.int .i64 c')) ∧ w'.frozen? ⟨P, 0, none⟩ = false ∧ Fr P w w'
theorem withinL_step {ks : List Tree} {j : Nat} (hj : j < ks.length) (d c : Int) : withinL (ks.drop j) d c = match withinT ks[j] d c with | none => none | some c' => withinL (ks.drop (j + 1)) d c' := by
  rw [List.drop_eq_getElem_cons hj, withinL]
  all_goals (cases withinT ks[j] d c <;> rfl)
theorem withinT_le {t : Tree} {d c c' : Int} (h1 : 0 ≤ c) (h2 : c ≤ 500) (h3 : 1 ≤ d) (h4 : d ≤ 17) (h : withinT t d c = some c') : 0 ≤ c' ∧ c' ≤ 500 := by
  rw [withinT_is t d c h1 h2 h3 h4] at h
  have := cntT_pos t
  split at h
  · simp only [Option.some.injEq] at h
    omega
  · simp at h
theorem pk_set {w : World} {P : Nat} {u v : Value} {o : Obj} (hc : w.cell? ⟨P, 0, none⟩ = some u) (hf : w.frozen? ⟨P, 0, none⟩ = false) : ((w.setCell ⟨P, 0, none⟩ v).alloc o).cell? ⟨P, 0, none⟩ = some v ∧ ((w.setCell ⟨P, 0, none⟩ v).alloc o).frozen? ⟨P, 0, none⟩ = false := by
  have hl : P < (w.setCell ⟨P, 0, none⟩ v).heap.size := by rw [World.size_setCell]; exact World.block_lt_of_cell? w ⟨P, 0, none⟩ hc
  have hb := ((Below.refl (w.setCell ⟨P, 0, none⟩ v).heap.size (w.setCell ⟨P, 0, none⟩ v)).alloc (Nat.le_refl _) o).block P hl
  exact ⟨(World.cell?_of_block (a := ⟨P, 0, none⟩) hb).trans (World.cell?_setCell_same _ _ _ hc), (World.frozen?_of_block (a := ⟨P, 0, none⟩) hb).trans (by simp [hf])⟩
theorem pk_al {w : World} {P : Nat} {u : Value} (o : Obj) (hc : w.cell? ⟨P, 0, none⟩ = some u) (hf : w.frozen? ⟨P, 0, none⟩ = false) : (w.alloc o).cell? ⟨P, 0, none⟩ = some u ∧ (w.alloc o).frozen? ⟨P, 0, none⟩ = false := by
  have hb := ((Below.refl w.heap.size w).alloc (Nat.le_refl _) o).block P (World.block_lt_of_cell? w ⟨P, 0, none⟩ hc)
  exact ⟨(World.cell?_of_block (a := ⟨P, 0, none⟩) hb).trans hc, (World.frozen?_of_block (a := ⟨P, 0, none⟩) hb).trans hf⟩
set_option maxHeartbeats 4000000 in
theorem owithin (t : Tree) (va : Value) (w : World) (P : Nat) (d c : Int) (hc0 : 0 ≤ c) (hc5 : c ≤ 500) (hd1 : 1 ≤ d) (hd17 : d ≤ 17) (hP : w.cell? ⟨P, 0, none⟩ = some (.int .i64 c)) (hPf : w.frozen? ⟨P, 0, none⟩ = false)
    (ha : Lies (fun b => b < w.heap.size ∧ b ≠ P) w t va) : Calls Tryz.prog 61 #[va, .int .i64 d, .pointer (some ⟨P, 0, none⟩)] w (WiOut w P (withinT t d c)) := by
  have c24 : Tryz.prog.cellsOf 24 = 4 := by kernel_rfl
  have hPl : P < w.heap.size := World.block_lt_of_cell? w ⟨P, 0, none⟩ hP
  match t, ha with
  | .node k x m ks, ha =>
    have ih : ∀ (j : Nat) (hj : j < ks.length) (va : Value) (w : World) (c : Int), 0 ≤ c → c ≤ 500 → d + 1 ≤ 17 → w.cell? ⟨P, 0, none⟩ = some (.int .i64 c) → w.frozen? ⟨P, 0, none⟩ = false → Lies (fun b => b < w.heap.size ∧ b ≠ P) w ks[j] va →
        Calls Tryz.prog 61 #[va, .int .i64 (d + 1), .pointer (some ⟨P, 0, none⟩)] w (WiOut w P (withinT ks[j] (d + 1) c)) := fun j hj va w c h1 h2 h3 h4 h5 h6 => owithin ks[j] va w P (d + 1) c h1 h2 (by omega) h3 h4 h5 h6
    unfold Lies at ha
    obtain ⟨a, cp, rfl, hlk, hka⟩ := ha
    have hB0 := Box4.new w (.int .i64 k) (.string x) (.int .i64 m) (.slice a ks.length cp) 24
    unfold withinT
    by_cases h16 : 16 < d
    · rw [if_pos (.inl h16)]
      go_enter Tryz.func61, Tryz.ntmps61
      go_wp2
      go_ret
      exact ⟨rfl, fun c' h => by simp at h, (pk_set hP hPf).2, ((Fr.refl _ _).set _ _).alloc _⟩
    by_cases h500 : 500 < c + 1
    · rw [if_pos (.inr h500)]
      go_enter Tryz.func61, Tryz.ntmps61
      go_wp2
      go_ret
      exact ⟨rfl, fun c' h => by simp at h, (pk_set hP hPf).2, ((Fr.refl _ _).set _ _).alloc _⟩
    rw [if_neg (by omega)]
    obtain ⟨V, hV⟩ : ∃ V, V = withinL ks (d + 1) (c + 1) := ⟨_, rfl⟩
    rw [← hV]
    have HV : Hid (withinL (ks.drop 0) (d + 1) (c + 1) = V) := hV.symm
    clear hV
    have hlk' : (ks.length : Int) ≤ 4611686018427387904 := by omega
    go_enter Tryz.func61, Tryz.ntmps61
    go_wp2
    go_loopw [25] (fun i wr => ∃ (j : Nat) (n : Int), j ≤ ks.length ∧ i = .int .i64 j ∧ 0 ≤ n ∧ n ≤ 500 ∧ Hid (withinL (ks.drop j) (d + 1) n = V) ∧ wr.cell? ⟨P, 0, none⟩ = some (.int .i64 n) ∧ wr.frozen? ⟨P, 0, none⟩ = false ∧ Fr P w wr ∧ Box4 wr w.heap.size (.int .i64 k) (.string x) (.int .i64 m) (.slice a ks.length cp)) (fun i _ => ks.length - (intOf i).toNat)
    case atStart =>
      refine ⟨0, c + 1, Nat.zero_le _, rfl, by omega, by omega, HV.out, ?_, ?_, ?_, ?_⟩
      · exact (pk_set hP hPf).1
      · exact (pk_set hP hPf).2
      · exact ((Fr.refl _ _).set _ _).alloc _
      · have := Box4.new (w.setCell ⟨P, 0, none⟩ (.int .i64 (c + 1))) (.int .i64 k) (.string x) (.int .i64 m) (.slice a ks.length cp) 24
        rw [World.size_setCell] at this
        exact this
    case round =>
      obtain ⟨j, n, hj, rfl, hn0, hn5, HN, hPc, hPf', hFr, hb⟩ := hrel
      have hzr := hb.lt
      obtain ⟨p0, p1, p2, p3, _, _, _, _⟩ := id hb
      by_cases hlt : j < ks.length
      · obtain ⟨g, o, rfl, hg, hat⟩ := hka (by intro e; rw [e] at hlt; simp at hlt)
        have hat' := hat.to (w' := wr) (Q := fun b => b < wr.heap.size ∧ b ≠ P) (fun b hb => ⟨Nat.lt_of_lt_of_le hb.1 hFr.size, hb.2⟩) (fun b hb o => World.cell?_of_block (a := ⟨b, o, none⟩) (hFr.block b hb.1 (by simpa using hb.2))) hg
        obtain ⟨v, ⟨x0, x1, x2, x3, rfl, c0, c1, c2, c3⟩, hlk'⟩ := hat'.get j hlt
        have hgl : g < wr.heap.size := Nat.lt_of_lt_of_le hg.1 hFr.size
        obtain ⟨kk, xx, mm, _, he, aa, na, ca, rfl⟩ := hlk'.shape
        injection he with he
        simp only [Array.mk.injEq, List.cons.injEq, and_true] at he
        obtain ⟨rfl, rfl, rfl, rfl⟩ := he
        have hal := pk_al (.cells #[.int .i64 kk, .string xx, .int .i64 mm, .slice aa na ca] 24) hPc hPf'
        have hC := ih j hlt _ (wr.alloc (.cells #[.int .i64 kk, .string xx, .int .i64 mm, .slice aa na ca] 24)) n hn0 hn5 (by omega) hal.1 hal.2 (hlk'.to (fun b hb => ⟨by rw [World.size_alloc]; omega, hb.2⟩) (fun b hb o => ((Below.refl wr.heap.size wr).alloc (Nat.le_refl _) _).cell (p := ⟨b, o, none⟩) hb.1))
        have HS : Hid (withinL (ks.drop j) (d + 1) n = match withinT ks[j] (d + 1) n with | none => none | some c' => withinL (ks.drop (j + 1)) (d + 1) c') := withinL_step hlt _ _
        have HW : Hid (∀ c', withinT ks[j] (d + 1) n = some c' → 0 ≤ c' ∧ c' ≤ 500) := fun c' h => withinT_le hn0 hn5 (by omega) (by omega) h
        clear ih
        generalize hwt : withinT ks[j] (d + 1) n = wt at *
        clear hwt
        cases wt with
        | none =>
          have HE : Hid (V = none) := by show _ = _; rw [← HN.out, HS.out]
          go_wp2_with (fail)
          refine hC.mono ?_
          rintro e w3 ⟨rfl, h1, h2, h3⟩
          go_wp2
          go_ret
          exact ⟨by rw [HE.out]; rfl, fun c' h => by rw [HE.out] at h; simp at h, h2, (hFr.trans (Fr.al _ _)).trans h3⟩
        | some c' =>
          have HE : Hid (withinL (ks.drop (j + 1)) (d + 1) c' = V) := by show _ = _; rw [← HN.out, HS.out]
          have hcc := HW.out c' rfl
          go_wp2_with (fail)
          refine hC.mono ?_
          rintro e w3 ⟨rfl, h1, h2, h3⟩
          go_wp2
          go_roundw
          case rel => exact ⟨j + 1, c', by omega, by go_num, hcc.1, hcc.2, HE.out, h1 c' rfl, h2, (hFr.trans (Fr.al _ _)).trans h3, (hb.alloc _).fr h3 (by omega)⟩
          case measure => simp [intOf]; omega
      · have HE : Hid (V = some n) := by
          show _ = _
          rw [← HN.out, List.drop_eq_nil_of_le (by omega), withinL]
        go_wp2
        go_ret
        exact ⟨by rw [HE.out]; rfl, fun c' h => by
          rw [HE.out] at h
          simp only [Option.some.injEq] at h
          rw [← h]
          exact hPc, hPf', hFr⟩
termination_by SizeOf.sizeOf t
decreasing_by exact kid_lt hj
theorem osmall (t : Tree) (va : Value) (w : World) (ha : Lies (· < w.heap.size) w t va) :
    Calls Tryz.prog 29 #[va] w fun e w' => e = .returned (.bool (fitsT t)) ∧ Below w.heap.size w w' := by
  have c24 : Tryz.prog.cellsOf 24 = 4 := by kernel_rfl
  obtain ⟨k, x, m, _, rfl, a, n, c, rfl⟩ := ha.shape
  have hw := within_fits t
  have hs : ((w.alloc (.cells #[.int .i64 k, .string x, .int .i64 m, .slice a n c] 24)).alloc (.cells #[.int .i64 0] 3)).heap.size = w.heap.size + 2 := by simp
  have hC := owithin t (.agg #[.int .i64 k, .string x, .int .i64 m, .slice a n c]) ((w.alloc (.cells #[.int .i64 k, .string x, .int .i64 m, .slice a n c] 24)).alloc (.cells #[.int .i64 0] 3)) (w.heap.size + 1) 1 0 (by omega) (by omega) (by omega) (by omega) (by rw [← World.size_alloc w (.cells #[.int .i64 k, .string x, .int .i64 m, .slice a n c] 24)]; simp) (by rw [← World.size_alloc w (.cells #[.int .i64 k, .string x, .int .i64 m, .slice a n c] 24)]; simp)
    (ha.to (fun b hb => ⟨by omega, by omega⟩) (fun b hb o => (((Below.refl w.heap.size w).alloc (Nat.le_refl _) _).alloc (by simp) _).cell (p := ⟨b, o, none⟩) hb))
  go_enter Tryz.func29, Tryz.ntmps29
  go_wp2_with (fail)
  refine hC.mono ?_
  rintro e w3 ⟨rfl, h1, h2, h3⟩
  go_wp2
  go_ret
  refine ⟨by rw [← hw]; rfl, ?_⟩
  have hb := ((Below.refl w.heap.size w).alloc (Nat.le_refl _) (.cells #[.int .i64 k, .string x, .int .i64 m, .slice a n c] 24)).alloc (by simp) (.cells #[.int .i64 0] 3)
  exact ⟨h3.os.trans hb.os, h3.tape.trans hb.tape, h3.output.trans hb.output, Nat.le_trans hb.size h3.size, fun j hj => (h3.block j (by omega) (by simp; omega)).trans (hb.block j hj)⟩
end syn
namespace syn
open Go.RowKit
open Go.Proofs.YtoobkaebahogdaaGreatDoor.lexs (Tok Fine own_shape HasErr)

/-- what a call that reads a text answers -/
def PsOut (w : World) (o : Out) (e : Ending) (w' : World) : Prop :=
  ∃ v, e = .returned (.tuple #[v, .agg #[.int .i64 o.code, .int .i64 o.place]]) ∧ Lies (fun b => w.heap.size ≤ b ∧ b < w'.heap.size) w' o.tree v ∧ Below w.heap.size w w'
def Parses (H : World → Prop) (F : Nat) (x : ByteArray) : Prop := ∀ w : World, H w → Calls Tryz.prog F #[.string x] w (PsOut w (parse x))
/-- what the program's Parse leans on: two variables -/
def HasBoth (w : World) : Prop := HasErr w ∧ HasOps w
/-- a box of two -/
structure Box2 (w : World) (N : Nat) (x0 x1 : Value) : Prop where
  c0 : w.cell? ⟨N, 0, none⟩ = some x0
  c1 : w.cell? ⟨N, 1, none⟩ = some x1
  f0 : w.frozen? ⟨N, 0, none⟩ = false
  f1 : w.frozen? ⟨N, 1, none⟩ = false
theorem Box2.new (w : World) (x0 x1 : Value) (T : TypeId) : Box2 (w.alloc (.cells #[x0, x1] T)) w.heap.size x0 x1 := by constructor <;> simp
theorem Box2.lt {w : World} {N : Nat} {x0 x1 : Value} (h : Box2 w N x0 x1) : N < w.heap.size := World.block_lt_of_cell? w ⟨N, 0, none⟩ h.c0
theorem Box2.fr {w w' : World} {r N : Nat} {x0 x1 : Value} (h : Box2 w N x0 x1) (hF : Fr r w w') (hN : N ≠ r) : Box2 w' N x0 x1 := by
  have hb := hF.block N h.lt (by simpa using hN)
  exact ⟨(World.cell?_of_block (a := ⟨N, 0, none⟩) hb).trans h.c0, (World.cell?_of_block (a := ⟨N, 1, none⟩) hb).trans h.c1, (World.frozen?_of_block (a := ⟨N, 0, none⟩) hb).trans h.f0, (World.frozen?_of_block (a := ⟨N, 1, none⟩) hb).trans h.f1⟩
theorem Box2.below {w w' : World} {N : Nat} {x0 x1 : Value} (h : Box2 w N x0 x1) (hb : Below w.heap.size w w') : Box2 w' N x0 x1 := h.fr (r := N + 1) (Fr.below hb) (by omega)
theorem Box2.alloc {w : World} {N : Nat} {x0 x1 : Value} (h : Box2 w N x0 x1) (o : Obj) : Box2 (w.alloc o) N x0 x1 := h.below ((Below.refl _ _).alloc (Nat.le_refl _) o)
theorem Box4.below {w w' : World} {N : Nat} {x0 x1 x2 x3 : Value} (h : Box4 w N x0 x1 x2 x3) (hb : Below w.heap.size w w') : Box4 w' N x0 x1 x2 x3 := h.fr (r := N + 1) (Fr.below hb) (by omega)
theorem PsOut.none {w w' : World} {c p : Int} (hb : Below w.heap.size w w') : PsOut w ⟨none0, c, p⟩ (.returned (.tuple #[.agg #[.int .i64 0, .string empty, .int .i64 0, .slice none 0 0], .agg #[.int .i64 c, .int .i64 p]])) w' :=
  ⟨_, rfl, Lies.leaf _ _ _ _ _, hb⟩
theorem below6 {w w1 : World} (h : Below w.heap.size w w1) (a0 a1 a2 a3 a4 a5 : Value) : Below w.heap.size w ((((((w1.setCell ⟨w.heap.size, 0, none⟩ a0).setCell ⟨w.heap.size, 1, none⟩ a1).setCell ⟨w.heap.size, 2, none⟩ a2).setCell ⟨w.heap.size, 3, none⟩ a3).setCell ⟨w.heap.size + 1, 0, none⟩ a4).setCell ⟨w.heap.size + 1, 1, none⟩ a5) :=
  (((((h.setCell (Nat.le_refl _) _).setCell (Nat.le_refl _) _).setCell (Nat.le_refl _) _).setCell (Nat.le_refl _) _).setCell (Nat.le_succ _) _).setCell (Nat.le_succ _) _
set_option maxHeartbeats 4000000 in
theorem oparse (x : ByteArray) : Parses HasBoth 13 x := by
  intro w ⟨hE, hO⟩
  have c24 : Tryz.prog.cellsOf 24 = 4 := by kernel_rfl
  have c27 : Tryz.prog.cellsOf 27 = 2 := by kernel_rfl
  have hbel : Below w.heap.size w ((w.alloc (.cells #[.int .i64 0, .string empty, .int .i64 0, .slice none 0 0] 24)).alloc (.cells #[.int .i64 0, .int .i64 0] 27)) := ((Below.refl _ _).alloc (Nat.le_refl _) _).alloc (by simp) _
  have hS := lexs.scan_own x _ (lexs.hasErr_below hE hbel)
  have hb1 := (Box4.new w (.int .i64 0) (.string empty) (.int .i64 0) (.slice none 0 0) 24).alloc (.cells #[.int .i64 0, .int .i64 0] 27)
  have hb2 := Box2.new (w.alloc (.cells #[.int .i64 0, .string empty, .int .i64 0, .slice none 0 0] 24)) (.int .i64 0) (.int .i64 0) 27
  rw [World.size_alloc] at hb2
  unfold parse
  cases hsc : lexs.scan x.data.toList with
  | err c p =>
    rw [hsc] at hS
    have hc := lexs.scan_err hsc
    have hcb : (c != 0) = true := by simpa using hc
    simp only [lexs.Res.code, lexs.Res.place, lexs.Res.toks] at hS
    go_enter Tryz.func13, Tryz.ntmps13
    go_wp2_with (fail)
    refine hS.mono ?_
    rintro e w1 ⟨v, rfl, hown, hbe⟩
    have hB1 := hb1.below hbe
    have hB2 := hb2.below hbe
    obtain ⟨q0, q1, q2, q3, t0, t1, t2, t3⟩ := id hB1
    obtain ⟨r0, r1, u0, u1⟩ := id hB2
    have z1 : w.heap.size + 1 < w1.heap.size := hB2.lt
    have z0 : w.heap.size < w1.heap.size := hB1.lt
    have hbw : Below w.heap.size w w1 := hbel.trans (hbe.mono (by simp; omega))
    go_wp2
    go_region
    all_goals
      go_wp2
      refine bodyPost_ret (v := .tuple #[.agg #[.int .i64 0, .string empty, .int .i64 0, .slice none 0 0], .agg #[.int .i64 c, .int .i64 p]]) (by simp [results, Tryz.results13, go_sem, q0, q1, q2, q3, r0, r1, z0, z1, empty]) rfl (PsOut.none ?_)
      exact below_drewN ((below6 hbw _ _ _ _ _ _).alloc (by simp; omega) _) 1
  | ok ts =>
    rw [hsc] at hS
    simp only [lexs.Res.code, lexs.Res.place, lexs.Res.toks] at hS
    obtain ⟨pp, dd, _, _, hmod⟩ := moduleF_has (lexs.scan_len hsc)
    simp only [hmod]
    have hfine := lexs.scan_fine hsc
    have hlen := lexs.scan_len hsc
    generalize (Tree.node 1 (headX ts) 0 dd.1, dd.2) = q at *
    go_enter Tryz.func13, Tryz.ntmps13
    go_wp2_with (fail)
    refine hS.mono ?_
    rintro e w1 ⟨v, rfl, hown, hbe⟩
    have hB1 := hb1.below hbe
    have hB2 := hb2.below hbe
    have z1 : w.heap.size + 1 < w1.heap.size := hB2.lt
    have z0 : w.heap.size < w1.heap.size := hB1.lt
    have hbw1 : Below w.heap.size w w1 := hbel.trans (hbe.mono (by simp; omega))
    have hbx := Box2.new w1 (.int .i64 0) (.int .i64 0) 27
    have hR := oread (n := x.size) (hown.alloc (.cells #[.int .i64 0, .int .i64 0] 27)) hlen hfine (hasOps_below hO (hbw1.alloc (by omega) (.cells #[.int .i64 0, .int .i64 0] 27))) hmod
    unfold judge
    cases hbad : q.2.bad
    case true =>
      go_wp2_with (fail)
      refine hR.mono ?_
      rintro e w2 ⟨v2, rfl, hl2, hbe2⟩
      rw [hbad] at hl2 ⊢
      simp only [if_true] at hl2 ⊢
      obtain ⟨kc, yc, mc, _, rfl, ac, nc, cc, rfl⟩ := hl2.shape
      have hB12 := (hB1.alloc (.cells #[.int .i64 0, .int .i64 0] 27)).below hbe2
      have hB22 := (hB2.alloc (.cells #[.int .i64 0, .int .i64 0] 27)).below hbe2
      have hB52 := hbx.below hbe2
      obtain ⟨q0, q1, q2, q3, t0, t1, t2, t3⟩ := id hB12
      obtain ⟨r0, r1, u0, u1⟩ := id hB22
      obtain ⟨s0, s1, y0, y1⟩ := id hB52
      have y1' : w.heap.size + 1 < w2.heap.size := hB22.lt
      have y0' : w.heap.size < w2.heap.size := hB12.lt
      have y5' : w1.heap.size < w2.heap.size := hB52.lt
      have hbw : Below w.heap.size w w2 := (hbw1.alloc (by omega) _).trans (hbe2.mono (by simp; omega))
      go_wp2
      go_region
      all_goals
        go_wp2
        refine bodyPost_ret (v := .tuple #[.agg #[.int .i64 0, .string empty, .int .i64 0, .slice none 0 0], .agg #[.int .i64 2, .int .i64 (failAt ts x.size q.2)]]) (by simp [results, Tryz.results13, go_sem, q0, q1, q2, q3, r0, r1, y0', y1', y5', empty]) rfl ?_
        have ej : judge ts x.size q = ⟨none0, 2, failAt ts x.size q.2⟩ := by unfold judge; rw [hbad]; rfl
        rw [ej]
        refine PsOut.none ?_
        have hbz : Below w.heap.size w ((w2.setCell ⟨w1.heap.size, 0, none⟩ (.int .i64 2)).setCell ⟨w1.heap.size, 1, none⟩ (.int .i64 (failAt ts x.size q.2))) := (hbw.setCell (by simp; omega) _).setCell (by simp; omega) _
        exact below_drewN ((below6 hbz _ _ _ _ _ _).alloc (by simp; omega) _) 1
    case false =>
      go_wp2_with (fail)
      refine hR.mono ?_
      rintro e w2 ⟨v2, rfl, hl2, hbe2⟩
      rw [hbad] at hl2 ⊢
      simp only [Bool.false_eq_true, if_false] at hl2 ⊢
      obtain ⟨kc, yc, mc, _, rfl, ac, nc, cc, rfl⟩ := hl2.shape
      have hB12 := (hB1.alloc (.cells #[.int .i64 0, .int .i64 0] 27)).below hbe2
      have hB22 := (hB2.alloc (.cells #[.int .i64 0, .int .i64 0] 27)).below hbe2
      have hB52 := hbx.below hbe2
      obtain ⟨s0, s1, y0, y1⟩ := id hB52
      have y1' : w.heap.size + 1 < w2.heap.size := hB22.lt
      have y0' : w.heap.size < w2.heap.size := hB12.lt
      have y5' : w1.heap.size < w2.heap.size := hB52.lt
      have hbw : Below w.heap.size w w2 := (hbw1.alloc (by omega) _).trans (hbe2.mono (by simp; omega))
      have hbz : Below w.heap.size w ((w2.setCell ⟨w1.heap.size, 0, none⟩ (.int .i64 0)).setCell ⟨w1.heap.size, 1, none⟩ (.int .i64 0)) := (hbw.setCell (by simp; omega) _).setCell (by simp; omega) _
      have hFz : Fr w1.heap.size w2 ((w2.setCell ⟨w1.heap.size, 0, none⟩ (.int .i64 0)).setCell ⟨w1.heap.size, 1, none⟩ (.int .i64 0)) := ((Fr.refl _ _).set _ _).set _ _
      have hlz := hl2.frP (x := w1.heap.size) hFz (Q := fun b => w1.heap.size < b ∧ b < w2.heap.size) (fun b hb => ⟨hb.2, by have := hb.1; rw [World.size_alloc] at this; omega⟩) (fun b hb => ⟨by have := hb.1; rw [World.size_alloc] at this; omega, hb.2⟩)
      have hB1z := hB12.fr hFz (by omega)
      have hB2z := hB22.fr hFz (by omega)
      have hsz : ((w2.setCell ⟨w1.heap.size, 0, none⟩ (.int .i64 0)).setCell ⟨w1.heap.size, 1, none⟩ (.int .i64 0)).heap.size = w2.heap.size := by simp
      go_wp2_with (fail)
      generalize (w2.setCell ⟨w1.heap.size, 0, none⟩ (.int .i64 0)).setCell ⟨w1.heap.size, 1, none⟩ (.int .i64 0) = wz at *
      have hly := hlz.frP (x := wz.heap.size) (Fr.al wz (.cells #[.int .i64 kc, .string yc, .int .i64 mc, .slice ac nc cc] 24)) (Q := fun b => w1.heap.size < b ∧ b < (wz.alloc (.cells #[.int .i64 kc, .string yc, .int .i64 mc, .slice ac nc cc] 24)).heap.size) (fun b hb => ⟨by omega, by omega⟩) (fun b hb => ⟨hb.1, by rw [World.size_alloc]; omega⟩)
      have hbn := Box4.new wz (.int .i64 kc) (.string yc) (.int .i64 mc) (.slice ac nc cc) 24
      refine (osmall q.1 _ _ (hly.to (fun b hb => hb.2) (fun _ _ _ => rfl))).mono ?_
      rintro e w3 ⟨rfl, hb3⟩
      have hbw3 : Below w.heap.size w w3 := (hbz.alloc (by omega) _).trans (hb3.mono (by simp; omega))
      obtain ⟨q0, q1, q2, q3, t0, t1, t2, t3⟩ := (hB1z.alloc (.cells #[.int .i64 kc, .string yc, .int .i64 mc, .slice ac nc cc] 24)).below hb3
      obtain ⟨r0, r1, u0, u1⟩ := (hB2z.alloc (.cells #[.int .i64 kc, .string yc, .int .i64 mc, .slice ac nc cc] 24)).below hb3
      obtain ⟨n0, n1, n2, n3, _, _, _, _⟩ := hbn.below hb3
      rw [hsz] at n0 n1 n2 n3
      have hl3 := hly.frP (x := w.heap.size) (Fr.below hb3) (Q := fun b => w1.heap.size < b ∧ b < w3.heap.size) (fun b hb => ⟨hb.2, by omega⟩) (fun b hb => ⟨hb.1, Nat.lt_of_lt_of_le hb.2 hb3.size⟩)
      cases hfit : fitsT q.1
      case true =>
        go_wp2
        refine bodyPost_ret (v := .tuple #[.agg #[.int .i64 kc, .string yc, .int .i64 mc, .slice ac nc cc], .agg #[.int .i64 0, .int .i64 0]]) (by simp [results, Tryz.results13, go_sem, q0, q1, q2, q3, r0, r1]) rfl ?_
        have ej : judge ts x.size q = ⟨q.1, 0, 0⟩ := by unfold judge; rw [hbad, hfit]; rfl
        rw [ej]
        refine ⟨_, rfl, ?_, below6 hbw3 _ _ _ _ _ _⟩
        exact (hl3.frP (x := w.heap.size) (Fr.put _ _ _ _ _ _) (fun b hb => ⟨hb.2, by omega⟩) (fun b hb => hb)).frP (x := w.heap.size + 1) (((Fr.refl _ _).set 0 _).set 1 _) (fun b hb => ⟨by simpa using hb.2, by omega⟩) (fun b hb => ⟨by omega, by simpa using hb.2⟩)
      case false =>
        go_wp2
        refine bodyPost_ret (v := .tuple #[.agg #[.int .i64 0, .string empty, .int .i64 0, .slice none 0 0], .agg #[.int .i64 1, .int .i64 0]]) (by simp [results, Tryz.results13, go_sem, q0, q1, q2, q3, r0, r1, empty]) rfl ?_
        have ej : judge ts x.size q = ⟨none0, 1, 0⟩ := by unfold judge; rw [hbad, hfit]; rfl
        rw [ej]
        exact PsOut.none (below6 hbw3 _ _ _ _ _ _)
end syn
namespace syn
open Go.RowKit

theorem two_boxes {w wr : World} {x0 x1 x2 x3 y0 y1 y2 y3 : Value} {T : TypeId} (h : Below (w.heap.size + 2) ((w.alloc (.cells #[x0, x1, x2, x3] T)).alloc (.cells #[y0, y1, y2, y3] T)) wr) :
    wr.cell? ⟨w.heap.size, 3, none⟩ = some x3 ∧ wr.cell? ⟨w.heap.size + 1, 3, none⟩ = some y3 ∧ w.heap.size + 2 ≤ wr.heap.size ∧ Below w.heap.size w wr := by
  refine ⟨?_, ?_, ?_, ?_⟩
  · rw [h.cell (p := ⟨w.heap.size, 3, none⟩) (by simp)]; simp
  · rw [h.cell (p := ⟨w.heap.size + 1, 3, none⟩) (by simp)]; simp
  · have := h.size; simpa using this
  · exact (((Below.refl _ _).alloc (Nat.le_refl _) _).alloc (by simp) _).trans (h.mono (by omega))
theorem LiesAt.kid {w wr : World} {ks : List Tree} {g o : Nat} (hg : g < w.heap.size) (h : LiesAt (· < w.heap.size) w ks g o) (hb : Below w.heap.size w wr) {j : Nat} (hj : j < ks.length) :
    ∃ x0 x1 x2 x3, wr.cell? ⟨g, o + j * 4, none⟩ = some x0 ∧ wr.cell? ⟨g, o + j * 4 + 1, none⟩ = some x1 ∧ wr.cell? ⟨g, o + j * 4 + 2, none⟩ = some x2 ∧ wr.cell? ⟨g, o + j * 4 + 3, none⟩ = some x3 ∧ Lies (· < wr.heap.size) wr ks[j] (.agg #[x0, x1, x2, x3]) := by
  obtain ⟨v, ⟨x0, x1, x2, x3, rfl, c0, c1, c2, c3⟩, hl⟩ := (h.below hg hb).get j hj
  exact ⟨x0, x1, x2, x3, c0, c1, c2, c3, hl⟩
set_option maxRecDepth 100000 in
set_option maxHeartbeats 1000000 in
theorem rsame (t : Tree) (va vb : Value) (w : World) (ha : Lies (· < w.heap.size) w t va) (hb : Lies (· < w.heap.size) w t vb) :
    Calls Tryz.prog 15 #[va, vb] w fun e w' => e = .returned (.bool true) ∧ Below w.heap.size w w' := by
  have c24 : Tryz.prog.cellsOf 24 = 4 := by kernel_rfl
  match t with
  | .node k x m ks =>
    have ih : ∀ i (hi : i < ks.length) (va vb : Value) (w : World), Lies (· < w.heap.size) w ks[i] va → Lies (· < w.heap.size) w ks[i] vb → Calls Tryz.prog 15 #[va, vb] w fun e w' => e = .returned (.bool true) ∧ Below w.heap.size w w' :=
      fun i hi va vb w h1 h2 => rsame ks[i] va vb w h1 h2
    unfold Lies at ha hb
    obtain ⟨a, c, rfl, hl, hka⟩ := ha
    obtain ⟨b, d, rfl, _, hkb⟩ := hb
    go_enter Tryz.func15, Tryz.ntmps15
    go_wp2
    go_loopw [5] (fun i wr => ∃ j : Nat, j ≤ ks.length ∧ i = .int .i64 j ∧ Below (w.heap.size + 2) ((w.alloc (.cells #[.int .i64 k, .string x, .int .i64 m, .slice a ks.length c] 24)).alloc (.cells #[.int .i64 k, .string x, .int .i64 m, .slice b ks.length d] 24)) wr) (fun i _ => ks.length - (intOf i).toNat)
    case atStart => exact ⟨0, Nat.zero_le _, rfl, Below.refl _ _⟩
    case round =>
      obtain ⟨j, hj, rfl, hbr⟩ := hrel
      obtain ⟨q1, q2, hsz, hbw⟩ := two_boxes hbr
      by_cases hlt : j < ks.length
      · obtain ⟨g, o, rfl, hg, hat⟩ := hka (by intro e; rw [e] at hlt; simp at hlt)
        obtain ⟨g', o', rfl, hg', hat'⟩ := hkb (by intro e; rw [e] at hlt; simp at hlt)
        obtain ⟨x0, x1, x2, x3, c0, c1, c2, c3, hx⟩ := hat.kid hg hbw hlt
        obtain ⟨y0, y1, y2, y3, d0, d1, d2, d3, hy⟩ := hat'.kid hg' hbw hlt
        have hC := ih j hlt _ _ wr.drew hx.drew hy.drew
        go_wp2
        go_region_with (go_at_call 15; refine hC.mono ?_; rintro e w1 ⟨rfl, hb1⟩)
        all_goals
          go_wp2
          go_roundw
          case rel => exact ⟨j + 1, by omega, by go_num, hbr.drew.trans (hb1.mono hsz)⟩
          case measure => simp [intOf]; omega
      · go_wp2
        go_ret
        exact ⟨rfl, hbw⟩
termination_by SizeOf.sizeOf t
decreasing_by exact kid_lt hi
end syn
namespace face
open Go.RowKit Go.ChangeShapes Go.WideShapes
open Go.Proofs.YtoobkaebahogdaaGreatDoor.syn (isName eqS)

/-- a row of numbers -/
def IntsIn (w : World) (v : Value) (l : List Int) : Prop := ∃ a c, v = .slice a l.length c ∧ l.length ≤ 9223372036854775807 ∧
  (l ≠ [] → ∃ g o, a = some ⟨g, o, none⟩ ∧ ∀ i (h : i < l.length), w.cell? ⟨g, o + i, none⟩ = some (.int .i64 l[i]))
/-! what was there stays -/
theorem keep {w w' : World} {a : Addr} {x : Value} (h : w.cell? a = some x) (hb : Below w.heap.size w w') : w'.cell? a = some x := by
  rw [hb.cell (World.block_lt_of_cell? w a h)]; exact h
theorem IntsIn.below {w w' : World} {v : Value} {l : List Int} (h : IntsIn w v l) (hb : Below w.heap.size w w') : IntsIn w' v l := by
  obtain ⟨a, c, e, hl, hk⟩ := h
  refine ⟨a, c, e, hl, fun hne => ?_⟩
  obtain ⟨g, o, e2, hc⟩ := hk hne
  exact ⟨g, o, e2, fun i hi => keep (hc i hi) hb⟩
/-! an argument is opened -/
theorem plain_addr {w : World} {a : Addr} {v : Value} (h : w.cell? a = some v) : ∃ g o, a = ⟨g, o, none⟩ := by
  obtain ⟨g, o, s⟩ := a
  cases s with
  | none => exact ⟨g, o, rfl⟩
  | some s =>
    unfold World.cell? at h
    simp only at h
    split at h
    · simp at h
    · cases h
section
variable {H : Type} {enc : TypeId × Value → H} {W : World} {n : Nat}
theorem cell1s : Tryz.prog.cellsOf 9 = 1 := by kernel_rfl
theorem cell1i : Tryz.prog.cellsOf 3 = 1 := by kernel_rfl
theorem reach_le : reachBytes ≤ 4611686018427387903 := by decide
end
end face
namespace face
open Go.RowKit
open Go.Proofs.YtoobkaebahogdaaGreatDoor.syn

/-! of a variable -/
/-! kids of a module -/
def strV (l : List ByteArray) : List Value := l.map Value.string
theorem infoS : (Tryz.prog.info? 9).map (fun i => (i.zero, i.size, i.bytes)) = some (some (.string ⟨#[]⟩), 1, 16) := by kernel_rfl
end face
namespace chk
open Go.RowKit Go.Shelf
open Go.Proofs.YtoobkaebahogdaaGreatDoor.syn Go.Proofs.YtoobkaebahogdaaGreatDoor.face
attribute [local go_sem] Oper.semAt_some
set_option linter.unusedVariables false
set_option linter.unusedSimpArgs false

attribute [local go_sem] Oper.semAt_some
set_option linter.unusedVariables false
set_option linter.unusedSimpArgs false

end chk
namespace face
open Go.RowKit Go.Maps Go.WideMaps
open Go.Proofs.YtoobkaebahogdaaGreatDoor.syn (isName eqS)

/-! how many names are known: plain facts -/
/-! the map while it is filled -/
theorem grown_of_below {w w' : World} (hb : Below w.heap.size w w') : w.grownBy w' none := ⟨hb.os, hb.tape, hb.output, hb.size, fun j hj _ => hb.block j hj⟩
end face
namespace face
open Go.RowKit
open Go.Proofs.YtoobkaebahogdaaGreatDoor.syn (isName eqS)

/-- a row of texts -/
def StrsIn (w : World) (v : Value) (l : List ByteArray) : Prop := ∃ a c, v = .slice a l.length c ∧ l.length ≤ 9223372036854775807 ∧
  (l ≠ [] → ∃ g o, a = some ⟨g, o, none⟩ ∧ ∀ i (h : i < l.length), w.cell? ⟨g, o + i, none⟩ = some (.string l[i]))
end face
namespace face
open Go.RowKit
open Go.Proofs.YtoobkaebahogdaaGreatDoor.syn

theorem news_new (w : World) (cs : Array Value) (T : TypeId) (n : Nat) (hn : n = w.heap.size) : ∀ j u, cs.toList[j]? = some u → (w.alloc (.cells cs T)).cell? ((⟨n, 0, none⟩ : Addr).add j) = some u := by
  subst hn
  exact World.news_of_block (MapKept.heap_alloc w _).1

theorem strs_own {w : World} {B : Nat} {v : Value} {L : List ByteArray} (h : w.ownsRow B 9 1 v L.length (strV L)) : StrsIn w v L := by
  rcases h.2 with ⟨rfl, hn⟩ | ⟨g, cap, cur, rfl, _, _, h1, h2, _⟩
  · have : L = [] := List.length_eq_zero_iff.1 hn
    subst this
    exact ⟨none, 0, rfl, by simp, fun h => absurd rfl h⟩
  · refine ⟨some ⟨g, 0, none⟩, cap, rfl, by unfold maxLen at h2; omega, fun _ => ⟨g, 0, rfl, fun i hi => ?_⟩⟩
    have := h.cellAt i (by omega)
    rw [Nat.zero_add, this]
    unfold strV
    rw [List.getElem?_map, List.getElem?_eq_getElem hi]
    rfl
end face
end Go.Proofs.YtoobkaebahogdaaGreatDoor
