/- The program's reader in memory; what has, next, skip, take and giveUp answer: contracts. What the program's has, next, giveUp, skip and take answer: contracts. What the program's isName, name, longName, label, param and opOf answer: contracts. What the program's opOf answers: a contract. What the program's longName, label, param and ended answer: contracts. -/
import Derived.Test.YtchhpinmoagkhaaGreatDoorProg
import Derived.WalkKit
import Derived.WalkLawsBesides
import Derived.Outline
import Derived.WalkSmall
import Derived.BigQuiet
import Derived.Deep.QuietTactic
import Derived.Test.YtchhpinmoagkhaaGreatDoorNRb
import Derived.Test.YtchhpinmoagkhaaGreatDoorNPa
import Derived.Laws.Rows
namespace Go.Proofs.YtchhpinmoagkhaaGreatDoor.syn
open Go.RowKit
open Go.Proofs.YtchhpinmoagkhaaGreatDoor.lexs (Tok Fine)
set_option linter.unusedVariables false
set_option maxRecDepth 100000

/-- the program's reader lies in block r: what is left of its tokens, which lie in block G -/
structure Ld (w : World) (r G : Nat) (ts : List Tok) (s : St) : Prop where
  c0 : ∃ a c, w.cell? ⟨r, 0, none⟩ = some (.slice a (ts.length - s.i) c) ∧ ts.length - s.i ≤ c ∧ (s.i < ts.length → a = some ⟨G, s.i * 3, none⟩)
  f0 : w.frozen? ⟨r, 0, none⟩ = false
  tok : ∀ (k : Nat) (h : k < ts.length), w.cell? ⟨G, k * 3, none⟩ = some (.int .i64 ts[k].kind) ∧ w.cell? ⟨G, k * 3 + 1, none⟩ = some (.string (raw ts[k])) ∧ w.cell? ⟨G, k * 3 + 2, none⟩ = some (.int .i64 (ts[k].at_ : Int))
  old : G < r
  len : ts.length ≤ 3000
  le : s.i ≤ ts.length
  good : ∀ t ∈ ts, Fine t
  ok : s.bad = false
  ops : HasOps w
  low : 5 < r
section
variable {w w' : World} {r G : Nat} {ts : List Tok} {s : St}
theorem Ld.lt (h : Ld w r G ts s) : r < w.heap.size := by obtain ⟨a, c, h0, _⟩ := h.c0; exact World.block_lt_of_cell? w ⟨r, 0, none⟩ h0
theorem Ld.gt (h : Ld w r G ts s) (hk : 0 < ts.length) : G < w.heap.size := World.block_lt_of_cell? w ⟨G, 0 * 3, none⟩ (h.tok 0 hk).1
/-- behind what leaves the reader's block, and the tokens' -/
theorem Ld.keep (h : Ld w r G ts s) {row : Option Nat} (hF : w.grownBy w' row) (hr : ∀ k, row = some k → r < k) : Ld w' r G ts s := by
  have hb := hF.block r h.lt (fun e => by have := hr r e.symm; omega)
  refine ⟨?_, (World.frozen?_of_block (a := ⟨r, 0, none⟩) hb).trans h.f0, ?_, h.old, h.len, h.le, h.good, h.ok, ?_, h.low⟩
  · obtain ⟨a, c, h0, h1, h2⟩ := h.c0
    exact ⟨a, c, (World.cell?_of_block (a := ⟨r, 0, none⟩) hb).trans h0, h1, h2⟩
  · intro k hk
    have hG := hF.block G (h.gt (by omega)) (fun e => by have h1 := hr G e.symm; have h2 := h.old; omega)
    rw [World.cell?_of_block (a := ⟨G, k * 3, none⟩) hG, World.cell?_of_block (a := ⟨G, k * 3 + 1, none⟩) hG, World.cell?_of_block (a := ⟨G, k * 3 + 2, none⟩) hG]
    exact h.tok k hk
  · obtain ⟨cs, t, fr, h1, h2, h3⟩ := h.ops
    have hl := h.low
    have hlt := h.lt
    exact ⟨cs, t, fr, by rw [hF.block _ (by omega) (fun e => by have := hr _ e.symm; omega)]; exact h1, h2, h3⟩
theorem Ld.alloc (h : Ld w r G ts s) (o : Obj) : Ld (w.alloc o) r G ts s := h.keep (World.grownBy_alloc w o none) (by simp)
theorem Ld.drewN (h : Ld w r G ts s) (n : Nat) : Ld (w.drewN n) r G ts s := ⟨h.c0, h.f0, h.tok, h.old, h.len, h.le, h.good, h.ok, h.ops, h.low⟩
theorem Ld.set (h : Ld w r G ts s) {N : Nat} (hN : r < N) (o : Nat) (v : Value) : Ld (w.setCell ⟨N, o, none⟩ v) r G ts s :=
  h.keep ((Fr.refl N w).set o v) (fun k e => by
    obtain rfl : N = k := by simpa using e
    exact hN)
/-- one of those words stands here -/
def hasW (ts : List Tok) (s : St) (ws : List ByteArray) : Bool := ws.any fun y => eqS (txt ts s) y
theorem hasW_none (ht : ¬ s.i < ts.length) {ws : List ByteArray} (hw : ws.all wordy = true) : hasW ts s ws = false := by
  unfold hasW
  rw [List.any_eq_false]
  intro y hy
  rw [List.all_eq_true] at hw
  rw [eq_none (by simp; omega) (hw y hy)]
  simp
theorem hasW_raw (hL : Ld w r G ts s) (ht : s.i < ts.length) {ws : List ByteArray} (hw : ws.all wordy = true) : hasW ts s ws = ws.any fun y => eqS (raw ts[s.i]) y := by
  unfold hasW
  rw [List.all_eq_true] at hw
  have h : ∀ y ∈ ws, eqS (txt ts s) y = eqS (raw ts[s.i]) y := fun y hy => eq_raw (hL.good _ (List.getElem_mem ht)) hL.ok (by simp [ht]) (hw y hy)
  clear hw
  induction ws with
  | nil => rfl
  | cons a l ih =>
    rw [List.any_cons, List.any_cons, h a (by simp), ih (fun y hy => h y (by simp [hy]))]
/-- where a reader gives up -/
def lost (ts : List Tok) (s : St) : Value := match ts[s.i]? with
  | some t => .iface 86 (.agg #[.int .i64 (t.at_ : Int)])
  | none => .iface 87 (.agg #[])
def Pan (ts : List Tok) (s : St) : List PanicEntry := [{ v := lost ts s, recovered := false }]
/-- words in a row -/
def Words (w : World) (g : Nat) (ws : List ByteArray) : Prop := ∀ (k : Nat) (h : k < ws.length), w.cell? ⟨g, k, none⟩ = some (.string ws[k])
theorem any_first {x : ByteArray} {ws : List ByteArray} {k : Nat} (hk : k < ws.length) (h : eqS x ws[k] = true) : (ws.any fun y => eqS x y) = true := by
  rw [List.any_eq_true]
  exact ⟨ws[k], List.getElem_mem _, h⟩
theorem any_not {x : ByteArray} {ws : List ByteArray} (h : ∀ j (hj : j < ws.length), eqS x ws[j] = false) : (ws.any fun y => eqS x y) = false := by
  rw [List.any_eq_false]
  intro y hy
  obtain ⟨k, hk, rfl⟩ := List.mem_iff_getElem.1 hy
  simp [h k hk]
set_option maxHeartbeats 1000000 in
theorem oindex (x : ByteArray) (ws : List ByteArray) (g c : Nat) (hl : ws.length ≤ 100) (hc : Words w g ws) :
    Calls Tryz.prog 161 #[.slice (some ⟨g, 0, none⟩) ws.length c, .string x] w fun e w' => ∃ i : Int, e = .returned (.int .i64 i) ∧ decide (0 ≤ i) = (ws.any fun y => eqS x y) ∧ w' = w := by
  go_enter Tryz.func161, Tryz.ntmps161
  go_wp2
  go_loop [8] (fun t => ∃ k : Nat, k ≤ ws.length ∧ t = .int .i64 k ∧ Hid (∀ j (hj : j < ws.length), j < k → eqS x ws[j] = false)) (fun t => ws.length - (intOf t).toNat)
  case atStart => exact ⟨0, Nat.zero_le _, rfl, fun j _ hj => by omega⟩
  case round =>
    obtain ⟨k, hk, rfl, HN⟩ := hrel
    by_cases hlt : k < ws.length
    · have hcell := hc k hlt
      have HC : Hid (Words w g ws) := hc
      clear hc
      have HK : Hid (eqS x ws[k] = eqS x ws[k]) := rfl
      cases he : eqS x ws[k]
      · have HE : Hid (eqS x ws[k] = false) := he
        unfold eqS at he
        go_wp2
        go_round
        case rel => exact ⟨k + 1, by omega, by go_num, fun j hj h1 => by
          rcases Nat.lt_or_ge j k with h | h
          · exact HN.out j hj h
          · have : j = k := by omega
            subst this
            exact HE.out⟩
        case measure => simp [intOf]; omega
      · have HE : Hid ((ws.any fun y => eqS x y) = true) := any_first hlt he
        unfold eqS at he
        go_wp2
        go_ret
        exact ⟨(k : Int), rfl, by rw [HE.out]; simp, rfl⟩
    · have HE : Hid ((ws.any fun y => eqS x y) = false) := any_not (fun j hj => HN.out j hj (by omega))
      clear HN
      go_wp2
      go_ret
      exact ⟨-1, rfl, by rw [HE.out]; rfl, rfl⟩
theorem ocontains (x : ByteArray) (ws : List ByteArray) (g c : Nat) (hl : ws.length ≤ 100) (hc : Words w g ws) :
    Calls Tryz.prog 143 #[.slice (some ⟨g, 0, none⟩) ws.length c, .string x] w fun e w' => e = .returned (.bool (ws.any fun y => eqS x y)) ∧ w' = w := by
  have h := oindex x ws g c hl hc
  generalize (ws.any fun y => eqS x y) = V at *
  go_enter Tryz.func143, Tryz.ntmps143
  go_wp2_with (fail)
  refine h.mono ?_
  rintro e w1 ⟨i, rfl, hi, hw⟩
  obtain rfl := hw.symm
  go_wp2
  go_ret
  exact ⟨by rw [← hi]; rfl, rfl⟩
end
end Go.Proofs.YtchhpinmoagkhaaGreatDoor.syn
namespace Go.Proofs.YtchhpinmoagkhaaGreatDoor.syn
open Go.RowKit
open Go.Proofs.YtchhpinmoagkhaaGreatDoor.lexs (Tok Fine)
set_option linter.unusedVariables false
set_option maxRecDepth 100000

section
variable {w w' : World} {r G : Nat} {ts : List Tok} {s : St}
theorem ohas (hL : Ld w r G ts s) (ws : List ByteArray) (g c : Nat) (hl : ws.length ≤ 100) (hw : ws.all wordy = true) (hc : Words w g ws) :
    Calls Tryz.prog 118 #[.pointer (some ⟨r, 0, none⟩), .slice (some ⟨g, 0, none⟩) ws.length c] w fun e w' => e = .returned (.bool (hasW ts s ws)) ∧ w' = w := by
  have c29 : Tryz.prog.cellsOf 58 = 3 := by kernel_rfl
  have hlen := hL.len
  obtain ⟨a, cp, h0, h1, h2⟩ := hL.c0
  by_cases hlt : s.i < ts.length
  · obtain rfl := h2 hlt
    rw [hasW_raw hL hlt hw]
    obtain ⟨y0, y1, y2⟩ := hL.tok s.i hlt
    have hC := ocontains (w := w) (raw ts[s.i]) ws g c hl hc
    generalize (ws.any fun y => eqS (raw ts[s.i]) y) = V at *
    generalize raw ts[s.i] = x at *
    have hn : 0 < ts.length - s.i := by omega
    have hn' : ts.length - s.i ≤ 3000 := by omega
    generalize ts.length - s.i = n at *
    go_enter Tryz.func118, Tryz.ntmps118
    go_wp2_with (fail)
    refine hC.mono ?_
    rintro e w1 ⟨rfl, hw1⟩
    obtain rfl := hw1.symm
    go_wp2
    go_ret
    exact ⟨rfl, rfl⟩
  · rw [hasW_none hlt hw]
    have hn : ts.length - s.i = 0 := by omega
    rw [hn] at h0
    go_enter Tryz.func118, Tryz.ntmps118
    go_wp2
    go_ret
    exact ⟨rfl, rfl⟩
theorem ogiveUp (hL : Ld w r G ts s) :
    Calls Tryz.prog 119 #[.pointer (some ⟨r, 0, none⟩)] w fun e w' => e = .panicked (Pan ts s) ∧ w' = w := by
  have c29 : Tryz.prog.cellsOf 58 = 3 := by kernel_rfl
  have hlen := hL.len
  obtain ⟨a, cp, h0, h1, h2⟩ := hL.c0
  unfold Pan lost
  by_cases hlt : s.i < ts.length
  · obtain rfl := h2 hlt
    rw [List.getElem?_eq_getElem hlt]
    obtain ⟨y0, y1, y2⟩ := hL.tok s.i hlt
    have hn : 0 < ts.length - s.i := by omega
    have hn' : ts.length - s.i ≤ 3000 := by omega
    generalize ts.length - s.i = n at *
    dsimp only
    go_enter Tryz.func119, Tryz.ntmps119
    go_wp2
    exact ⟨rfl, rfl, rfl⟩
  · rw [List.getElem?_eq_none (by omega)]
    have hn : ts.length - s.i = 0 := by omega
    rw [hn] at h0
    dsimp only
    go_enter Tryz.func119, Tryz.ntmps119
    go_wp2
    exact ⟨rfl, rfl, rfl⟩
/-- one token further -/
theorem onext (hL : Ld w r G ts s) (hlt : s.i < ts.length) :
    Calls Tryz.prog 120 #[.pointer (some ⟨r, 0, none⟩)] w fun e w' => e = .returned (.string (raw ts[s.i])) ∧ Ld w' r G ts s.next ∧ Fr r w w' := by
  have c29 : Tryz.prog.cellsOf 58 = 3 := by kernel_rfl
  have hlen := hL.len
  obtain ⟨a, cp, h0, h1, h2⟩ := hL.c0
  obtain rfl := h2 hlt
  obtain ⟨y0, y1, y2⟩ := hL.tok s.i hlt
  have hf := hL.f0
  have hn : 0 < ts.length - s.i := by omega
  have hn' : ts.length - s.i ≤ 3000 := by omega
  have hN : ts.length - s.next.i = ts.length - s.i - 1 := by unfold St.next; dsimp only; omega
  have key : ∀ (a' : Option Addr) (c' : Nat), ts.length - s.i - 1 ≤ c' → (1 < ts.length - s.i → a' = some ⟨G, s.i * 3 + 3, none⟩) → Ld (w.setCell ⟨r, 0, none⟩ (.slice a' (ts.length - s.i - 1) c')) r G ts s.next := by
    intro a' c' hc' ha'
    refine ⟨⟨a', c', ?_, by omega, fun h => ?_⟩, by simp [hf], ?_, hL.old, hL.len, hlt, hL.good, hL.ok, ?_, hL.low⟩
    · rw [World.cell?_setCell_same _ _ _ h0, hN]
    · rw [ha' (by unfold St.next at h; dsimp only at h; omega)]
      unfold St.next
      simp only [Option.some.injEq, Addr.mk.injEq, true_and, and_true]
      omega
    · intro k hk
      have hG := hL.old
      rw [World.cell?_setCell_other _ _ _ _ (by simp <;> omega), World.cell?_setCell_other _ _ _ _ (by simp <;> omega), World.cell?_setCell_other _ _ _ _ (by simp <;> omega)]
      exact hL.tok k hk
    · obtain ⟨cs, t, fr, g1, g2, g3⟩ := hL.ops
      have hl := hL.low
      exact ⟨cs, t, fr, by rw [Below.heap_setCell _ _ _ _ (by simp <;> omega)]; exact g1, g2, g3⟩
  have HK : Hid (∀ (a' : Option Addr) (c' : Nat), ts.length - s.i - 1 ≤ c' → (1 < ts.length - s.i → a' = some ⟨G, s.i * 3 + 3, none⟩) → Ld (w.setCell ⟨r, 0, none⟩ (.slice a' (ts.length - s.i - 1) c')) r G ts s.next) := key
  clear key
  generalize ts.length - s.i = n at *
  by_cases hcp : cp = 1
  · subst hcp
    have hn1 : n = 1 := by omega
    subst hn1
    go_enter Tryz.func120, Tryz.ntmps120
    go_wp2
    go_ret
    exact ⟨rfl, HK.out (some ⟨G, s.i * 3, none⟩) 0 (by omega) (fun h => by omega), (Fr.refl _ _).set _ _⟩
  · go_enter Tryz.func120, Tryz.ntmps120
    go_wp2
    go_ret
    exact ⟨rfl, HK.out _ _ (by omega) (fun h => rfl), (Fr.refl _ _).set _ _⟩
theorem hasW_lt {ws : List ByteArray} (hw : ws.all wordy = true) (h : hasW ts s ws = true) : s.i < ts.length := by
  rcases Nat.lt_or_ge s.i ts.length with h1 | h1
  · exact h1
  · rw [hasW_none (by omega) hw] at h
    simp at h
/-- skip: a word that stands here is taken -/
theorem oskip_yes (hL : Ld w r G ts s) (ws : List ByteArray) (g c : Nat) (hl : ws.length ≤ 100) (hw : ws.all wordy = true) (hc : Words w g ws) (h : hasW ts s ws = true) :
    Calls Tryz.prog 98 #[.pointer (some ⟨r, 0, none⟩), .slice (some ⟨g, 0, none⟩) ws.length c] w fun e w' => e = .returned (.bool true) ∧ Ld w' r G ts s.next ∧ Fr r w w' := by
  have hH := ohas hL ws g c hl hw hc
  rw [h] at hH
  have hN := onext hL (hasW_lt hw h)
  go_enter Tryz.func98, Tryz.ntmps98
  go_wp2_with (fail)
  refine hH.mono ?_
  rintro e w1 ⟨rfl, hw1⟩
  obtain rfl := hw1.symm
  go_wp2_with (fail)
  refine hN.mono ?_
  rintro e w2 ⟨rfl, hL2, hF2⟩
  go_wp2
  go_ret
  exact ⟨rfl, hL2, hF2⟩
theorem oskip_no (hL : Ld w r G ts s) (ws : List ByteArray) (g c : Nat) (hl : ws.length ≤ 100) (hw : ws.all wordy = true) (hc : Words w g ws) (h : hasW ts s ws = false) :
    Calls Tryz.prog 98 #[.pointer (some ⟨r, 0, none⟩), .slice (some ⟨g, 0, none⟩) ws.length c] w fun e w' => e = .returned (.bool false) ∧ w' = w := by
  have hH := ohas hL ws g c hl hw hc
  rw [h] at hH
  go_enter Tryz.func98, Tryz.ntmps98
  go_wp2_with (fail)
  refine hH.mono ?_
  rintro e w1 ⟨rfl, hw1⟩
  obtain rfl := hw1.symm
  go_wp2
  go_ret
  exact ⟨rfl, rfl⟩
theorem otake_yes (hL : Ld w r G ts s) (ws : List ByteArray) (g c : Nat) (hl : ws.length ≤ 100) (hw : ws.all wordy = true) (hc : Words w g ws) (h : hasW ts s ws = true) :
    Calls Tryz.prog 96 #[.pointer (some ⟨r, 0, none⟩), .slice (some ⟨g, 0, none⟩) ws.length c] w fun e w' => e = .returned (.string (raw (ts[s.i]'(hasW_lt hw h)))) ∧ Ld w' r G ts s.next ∧ Fr r w w' := by
  have hH := ohas hL ws g c hl hw hc
  rw [h] at hH
  have hN := onext hL (hasW_lt hw h)
  generalize raw (ts[s.i]'(hasW_lt hw h)) = x at *
  go_enter Tryz.func96, Tryz.ntmps96
  go_wp2_with (fail)
  refine hH.mono ?_
  rintro e w1 ⟨rfl, hw1⟩
  obtain rfl := hw1.symm
  go_wp2_with (fail)
  refine hN.mono ?_
  rintro e w2 ⟨rfl, hL2, hF2⟩
  go_wp2
  go_ret
  exact ⟨rfl, hL2, hF2⟩
theorem otake_no (hL : Ld w r G ts s) (ws : List ByteArray) (g c : Nat) (hl : ws.length ≤ 100) (hw : ws.all wordy = true) (hc : Words w g ws) (h : hasW ts s ws = false) :
    Calls Tryz.prog 96 #[.pointer (some ⟨r, 0, none⟩), .slice (some ⟨g, 0, none⟩) ws.length c] w fun e w' => e = .panicked (Pan ts s) ∧ w' = w := by
  have hH := ohas hL ws g c hl hw hc
  rw [h] at hH
  have hN := ogiveUp hL
  go_enter Tryz.func96, Tryz.ntmps96
  go_wp2_with (fail)
  refine hH.mono ?_
  rintro e w1 ⟨rfl, hw1⟩
  obtain rfl := hw1.symm
  go_wp2_with (fail)
  refine hN.mono ?_
  rintro e w2 ⟨rfl, hw2⟩
  obtain rfl := hw2.symm
  go_wp2
  exact ⟨rfl, rfl, rfl⟩
end
end Go.Proofs.YtchhpinmoagkhaaGreatDoor.syn
namespace Go.Proofs.YtchhpinmoagkhaaGreatDoor.syn
open Go.RowKit
open Go.Proofs.YtchhpinmoagkhaaGreatDoor.lexs (Tok Fine)
set_option linter.unusedVariables false
set_option linter.unusedSimpArgs false
set_option maxRecDepth 100000

theorem eqS_comm (x y : ByteArray) : eqS x y = eqS y x := by unfold eqS; rw [Bool.eq_iff_iff]; simp only [beq_iff_eq]; exact eq_comm
section
variable {w w' : World} {r G : Nat} {ts : List Tok} {s : St}
theorem Ld.below (h : Ld w r G ts s) (hb : Below w.heap.size w w') : Ld w' r G ts s := h.keep (row := none) ⟨hb.os, hb.tape, hb.output, hb.size, fun j hj _ => hb.block j hj⟩ (by simp)
theorem reserved_any (x : ByteArray) : (reserved.any fun y => eqS y x) = ((x.toList == [100, 111]) || (x.toList == [101, 108, 115, 101]) || (x.toList == [103, 105, 118, 101, 115]) || (x.toList == [104, 105, 103, 104]) || (x.toList == [105, 102]) || (x.toList == [105, 109, 112, 111, 114, 116]) || (x.toList == [105, 110]) || (x.toList == [108, 111, 119]) || (x.toList == [109, 111, 100, 117, 108, 101]) || (x.toList == [111, 117, 116]) || (x.toList == [112, 114, 111, 99]) || (x.toList == [112, 117, 98]) || (x.toList == [114, 101, 116, 117, 114, 110]) || (x.toList == [119, 104, 105, 108, 101])) := by
  have h : (reserved.any fun y => eqS y x) = (reserved.any fun y => eqS x y) := by
    rw [Bool.eq_iff_iff, List.any_eq_true, List.any_eq_true]
    constructor
    · rintro ⟨y, h1, h2⟩; exact ⟨y, h1, by rw [eqS_comm]; exact h2⟩
    · rintro ⟨y, h1, h2⟩; exact ⟨y, h1, by rw [eqS_comm]; exact h2⟩
  rw [h]
  unfold reserved
  simp only [List.any_cons, List.any_nil, Bool.or_false]
  rw [show eqS x ⟨#[100, 111]⟩ = (x.toList == [100, 111]) from eqS_lit x [100, 111], show eqS x ⟨#[101, 108, 115, 101]⟩ = (x.toList == [101, 108, 115, 101]) from eqS_lit x [101, 108, 115, 101], show eqS x ⟨#[103, 105, 118, 101, 115]⟩ = (x.toList == [103, 105, 118, 101, 115]) from eqS_lit x [103, 105, 118, 101, 115], show eqS x ⟨#[104, 105, 103, 104]⟩ = (x.toList == [104, 105, 103, 104]) from eqS_lit x [104, 105, 103, 104], show eqS x ⟨#[105, 102]⟩ = (x.toList == [105, 102]) from eqS_lit x [105, 102], show eqS x ⟨#[105, 109, 112, 111, 114, 116]⟩ = (x.toList == [105, 109, 112, 111, 114, 116]) from eqS_lit x [105, 109, 112, 111, 114, 116], show eqS x ⟨#[105, 110]⟩ = (x.toList == [105, 110]) from eqS_lit x [105, 110], show eqS x ⟨#[108, 111, 119]⟩ = (x.toList == [108, 111, 119]) from eqS_lit x [108, 111, 119], show eqS x ⟨#[109, 111, 100, 117, 108, 101]⟩ = (x.toList == [109, 111, 100, 117, 108, 101]) from eqS_lit x [109, 111, 100, 117, 108, 101], show eqS x ⟨#[111, 117, 116]⟩ = (x.toList == [111, 117, 116]) from eqS_lit x [111, 117, 116], show eqS x ⟨#[112, 114, 111, 99]⟩ = (x.toList == [112, 114, 111, 99]) from eqS_lit x [112, 114, 111, 99], show eqS x ⟨#[112, 117, 98]⟩ = (x.toList == [112, 117, 98]) from eqS_lit x [112, 117, 98], show eqS x ⟨#[114, 101, 116, 117, 114, 110]⟩ = (x.toList == [114, 101, 116, 117, 114, 110]) from eqS_lit x [114, 101, 116, 117, 114, 110], show eqS x ⟨#[119, 104, 105, 108, 101]⟩ = (x.toList == [119, 104, 105, 108, 101]) from eqS_lit x [119, 104, 105, 108, 101]]
  simp only [Bool.or_assoc]
theorem oisName (k a : Int) (x : ByteArray) (w : World) :
    Calls Tryz.prog 84 #[.agg #[.int .i64 k, .string x, .int .i64 a]] w fun e w' => e = .returned (.bool (!(reserved.any fun y => eqS y x) && k == 1)) ∧ Below w.heap.size w w' := by
  have c29 : Tryz.prog.cellsOf 58 = 3 := by kernel_rfl
  rw [reserved_any]
  cases h0 : (x.toList == [100, 111])
  case true =>
    simp only [Bool.true_or, Bool.or_true, Bool.false_or, Bool.not_true, Bool.false_and]
    go_enter Tryz.func84, Tryz.ntmps84
    go_wp2
    go_ret
    exact ⟨rfl, (Below.refl _ _).alloc (Nat.le_refl _) _⟩
  cases h1 : (x.toList == [101, 108, 115, 101])
  case true =>
    simp only [Bool.true_or, Bool.or_true, Bool.false_or, Bool.not_true, Bool.false_and]
    go_enter Tryz.func84, Tryz.ntmps84
    go_wp2
    go_ret
    exact ⟨rfl, (Below.refl _ _).alloc (Nat.le_refl _) _⟩
  cases h2 : (x.toList == [103, 105, 118, 101, 115])
  case true =>
    simp only [Bool.true_or, Bool.or_true, Bool.false_or, Bool.not_true, Bool.false_and]
    go_enter Tryz.func84, Tryz.ntmps84
    go_wp2
    go_ret
    exact ⟨rfl, (Below.refl _ _).alloc (Nat.le_refl _) _⟩
  cases h3 : (x.toList == [104, 105, 103, 104])
  case true =>
    simp only [Bool.true_or, Bool.or_true, Bool.false_or, Bool.not_true, Bool.false_and]
    go_enter Tryz.func84, Tryz.ntmps84
    go_wp2
    go_ret
    exact ⟨rfl, (Below.refl _ _).alloc (Nat.le_refl _) _⟩
  cases h4 : (x.toList == [105, 102])
  case true =>
    simp only [Bool.true_or, Bool.or_true, Bool.false_or, Bool.not_true, Bool.false_and]
    go_enter Tryz.func84, Tryz.ntmps84
    go_wp2
    go_ret
    exact ⟨rfl, (Below.refl _ _).alloc (Nat.le_refl _) _⟩
  cases h5 : (x.toList == [105, 109, 112, 111, 114, 116])
  case true =>
    simp only [Bool.true_or, Bool.or_true, Bool.false_or, Bool.not_true, Bool.false_and]
    go_enter Tryz.func84, Tryz.ntmps84
    go_wp2
    go_ret
    exact ⟨rfl, (Below.refl _ _).alloc (Nat.le_refl _) _⟩
  cases h6 : (x.toList == [105, 110])
  case true =>
    simp only [Bool.true_or, Bool.or_true, Bool.false_or, Bool.not_true, Bool.false_and]
    go_enter Tryz.func84, Tryz.ntmps84
    go_wp2
    go_ret
    exact ⟨rfl, (Below.refl _ _).alloc (Nat.le_refl _) _⟩
  cases h7 : (x.toList == [108, 111, 119])
  case true =>
    simp only [Bool.true_or, Bool.or_true, Bool.false_or, Bool.not_true, Bool.false_and]
    go_enter Tryz.func84, Tryz.ntmps84
    go_wp2
    go_ret
    exact ⟨rfl, (Below.refl _ _).alloc (Nat.le_refl _) _⟩
  cases h8 : (x.toList == [109, 111, 100, 117, 108, 101])
  case true =>
    simp only [Bool.true_or, Bool.or_true, Bool.false_or, Bool.not_true, Bool.false_and]
    go_enter Tryz.func84, Tryz.ntmps84
    go_wp2
    go_ret
    exact ⟨rfl, (Below.refl _ _).alloc (Nat.le_refl _) _⟩
  cases h9 : (x.toList == [111, 117, 116])
  case true =>
    simp only [Bool.true_or, Bool.or_true, Bool.false_or, Bool.not_true, Bool.false_and]
    go_enter Tryz.func84, Tryz.ntmps84
    go_wp2
    go_ret
    exact ⟨rfl, (Below.refl _ _).alloc (Nat.le_refl _) _⟩
  cases h10 : (x.toList == [112, 114, 111, 99])
  case true =>
    simp only [Bool.true_or, Bool.or_true, Bool.false_or, Bool.not_true, Bool.false_and]
    go_enter Tryz.func84, Tryz.ntmps84
    go_wp2
    go_ret
    exact ⟨rfl, (Below.refl _ _).alloc (Nat.le_refl _) _⟩
  cases h11 : (x.toList == [112, 117, 98])
  case true =>
    simp only [Bool.true_or, Bool.or_true, Bool.false_or, Bool.not_true, Bool.false_and]
    go_enter Tryz.func84, Tryz.ntmps84
    go_wp2
    go_ret
    exact ⟨rfl, (Below.refl _ _).alloc (Nat.le_refl _) _⟩
  cases h12 : (x.toList == [114, 101, 116, 117, 114, 110])
  case true =>
    simp only [Bool.true_or, Bool.or_true, Bool.false_or, Bool.not_true, Bool.false_and]
    go_enter Tryz.func84, Tryz.ntmps84
    go_wp2
    go_ret
    exact ⟨rfl, (Below.refl _ _).alloc (Nat.le_refl _) _⟩
  cases h13 : (x.toList == [119, 104, 105, 108, 101])
  case true =>
    simp only [Bool.true_or, Bool.or_true, Bool.false_or, Bool.not_true, Bool.false_and]
    go_enter Tryz.func84, Tryz.ntmps84
    go_wp2
    go_ret
    exact ⟨rfl, (Below.refl _ _).alloc (Nat.le_refl _) _⟩
  simp only [Bool.or_false, Bool.not_false, Bool.true_and]
  go_enter Tryz.func84, Tryz.ntmps84
  go_wp2
  go_ret
  exact ⟨rfl, (Below.refl _ _).alloc (Nat.le_refl _) _⟩
/-- what a call of the program's reader answers: a value, or it gives up -/
def OVal (w : World) (r G : Nat) (ts : List Tok) (v : Value) (s' : St) (e : Ending) (w' : World) : Prop :=
  (s'.bad = true ∧ e = .panicked (Pan ts s') ∧ Fr r w w') ∨ (s'.bad = false ∧ e = .returned v ∧ Ld w' r G ts s' ∧ Fr r w w')
theorem lt_get (hlt : s.i < ts.length) : ts[s.i]? = some ts[s.i] := List.getElem?_eq_getElem hlt
theorem oname (hL : Ld w r G ts s) : Calls Tryz.prog 97 #[.pointer (some ⟨r, 0, none⟩)] w (OVal w r G ts (.string (name ts s).1) (name ts s).2) := by
  have c29 : Tryz.prog.cellsOf 58 = 3 := by kernel_rfl
  have hlen := hL.len
  have hr := hL.lt
  obtain ⟨a, cp, h0, h1, h2⟩ := hL.c0
  unfold name
  by_cases hlt : s.i < ts.length
  · obtain rfl := h2 hlt
    obtain ⟨y0, y1, y2⟩ := hL.tok s.i hlt
    have hn : 0 < ts.length - s.i := by omega
    have hn' : ts.length - s.i ≤ 3000 := by omega
    have hI := fun w => oisName ts[s.i].kind (ts[s.i].at_ : Int) (raw ts[s.i]) w
    have hNR := name_raw (hL.good _ (List.getElem_mem hlt)) hL.ok (lt_get hlt)
    rw [hNR]
    have hX : ownName ts[s.i] = true → txt ts s = raw ts[s.i] := by
      intro h
      unfold ownName at h
      simp only [Bool.and_eq_true, beq_iff_eq] at h
      unfold txt
      rw [here_is hL.ok, lt_get hlt]
      simp only
      rw [h.2, if_neg (by decide)]
      rfl
    have hI2 : ∀ w : World, Calls Tryz.prog 84 #[.agg #[.int .i64 ts[s.i].kind, .string (raw ts[s.i]), .int .i64 (ts[s.i].at_ : Int)]] w fun e w' => e = .returned (.bool (ownName ts[s.i])) ∧ Below w.heap.size w w' := hI
    clear hI hNR
    cases hO : ownName ts[s.i]
    · rw [hO] at hI2
      simp only [Bool.false_eq_true, if_false]
      have hg : ∀ w', Fr r w w' → Ld w' r G ts s → Calls Tryz.prog 119 #[.pointer (some ⟨r, 0, none⟩)] w' fun e w'' => e = .panicked (Pan ts s) ∧ w'' = w' := fun w' _ h => ogiveUp h
      have HL : Hid (Ld w r G ts s) := hL
      clear hX hL
      generalize ts[s.i].kind = tk at *
      generalize raw ts[s.i] = tx at *
      generalize ts[s.i].at_ = ta at *
      generalize ts.length - s.i = n at *
      go_enter Tryz.func97, Tryz.ntmps97
      go_wp2_with (fail)
      refine (hI2 _).mono ?_
      rintro e w1 ⟨rfl, hb1⟩
      have hF1 : Fr r w w1 := Fr.below hb1
      have hL1 : Ld w1 r G ts s := HL.out.below hb1
      go_wp2_with (fail)
      refine (hg _ hF1 hL1).mono ?_
      rintro e w2 ⟨rfl, hw2⟩
      obtain rfl := hw2.symm
      go_wp2
      exact ⟨rfl, .inl ⟨rfl, rfl, hF1⟩⟩
    · rw [hO] at hI2
      simp only [if_true]
      rw [hX hO]
      have hg : ∀ w', Ld w' r G ts s → Calls Tryz.prog 120 #[.pointer (some ⟨r, 0, none⟩)] w' fun e w'' => e = .returned (.string (raw ts[s.i])) ∧ Ld w'' r G ts s.next ∧ Fr r w' w'' := fun w' h => onext h hlt
      have HL : Hid (Ld w r G ts s) := hL
      have hok : s.next.bad = false := hL.ok
      clear hX hL
      generalize ts[s.i].kind = tk at *
      generalize raw ts[s.i] = tx at *
      generalize ts[s.i].at_ = ta at *
      generalize ts.length - s.i = n at *
      go_enter Tryz.func97, Tryz.ntmps97
      go_wp2_with (fail)
      refine (hI2 _).mono ?_
      rintro e w1 ⟨rfl, hb1⟩
      have hF1 : Fr r w w1 := Fr.below hb1
      have hL1 : Ld w1 r G ts s := HL.out.below hb1
      go_wp2_with (fail)
      refine (hg _ hL1).mono ?_
      rintro e w2 ⟨rfl, hL2, hF2⟩
      go_wp2
      go_ret
      exact .inr ⟨hok, rfl, hL2, hF1.trans hF2⟩
  · have hn : ts.length - s.i = 0 := by omega
    rw [hn] at h0
    rw [name_none (List.getElem?_eq_none (by omega))]
    simp only [Bool.false_eq_true, if_false]
    have hg := ogiveUp hL
    go_enter Tryz.func97, Tryz.ntmps97
    go_wp2_with (fail)
    refine hg.mono ?_
    rintro e w2 ⟨rfl, hw2⟩
    obtain rfl := hw2.symm
    go_wp2
    exact ⟨rfl, .inl ⟨rfl, rfl, Fr.refl _ _⟩⟩
end
end Go.Proofs.YtchhpinmoagkhaaGreatDoor.syn
namespace Go.Proofs.YtchhpinmoagkhaaGreatDoor.syn
open Go.RowKit
set_option linter.unusedVariables false
set_option linter.unusedSimpArgs false
set_option maxRecDepth 100000

theorem hasOps_below {w w' : World} (h : HasOps w) (hb : Below w.heap.size w w') : HasOps w' := by
  obtain ⟨cs, t, fr, h1, h2, h3⟩ := h
  have hlt : 5 < w.heap.size := by
    rcases Nat.lt_or_ge 5 w.heap.size with h | h
    · exact h
    · rw [Array.getElem?_eq_none h] at h1
      simp at h1
  exact ⟨cs, t, fr, by rw [hb.block _ hlt]; exact h1, h2, h3⟩
theorem ops_index (cs : Array Value) (hs : cs.size = 20) (hc : ∀ k, k < 10 → cs[k * 2]? = some (.string (opAt k)) ∧ cs[k * 2 + 1]? = some (.int .i64 (opIs k))) (k : Nat) (hk : k < 10) (w : World) :
    (Instr.index 205 (.agg cs) (.int .i64 (k : Int))).run Tryz.prog w = .ok (.agg #[.string (opAt k), .int .i64 (opIs k)]) w := by
  have c171 : Tryz.prog.cellsOf 204 = 2 := by kernel_rfl
  obtain ⟨h1, h2⟩ := hc k hk
  have he : cs.extract (k * 2) (k * 2 + 2) = #[.string (opAt k), .int .i64 (opIs k)] := by
    apply Array.ext_getElem?
    intro i
    rw [Array.getElem?_extract]
    by_cases hi : i < 2
    · have hm : min (k * 2 + 2) cs.size = k * 2 + 2 := by omega
      rw [if_pos (by omega)]
      rcases (show i = 0 ∨ i = 1 by omega) with rfl | rfl
      · simpa using h1
      · simpa using h2
    · rw [if_neg (by omega)]
      simp
      omega
  simp [Instr.index, go_sem, Tryz.underlying205, hk, he]
theorem ten {k : Nat} (h : k < 10) : k = 0 ∨ k = 1 ∨ k = 2 ∨ k = 3 ∨ k = 4 ∨ k = 5 ∨ k = 6 ∨ k = 7 ∨ k = 8 ∨ k = 9 := by omega
theorem eqS_eq {x y : ByteArray} (h : eqS x y = true) : y = x := by
  unfold eqS at h
  rw [beq_iff_eq, ByteArray.toList_eq, ByteArray.toList_eq] at h
  exact WideShapes.bytes_inj h.symm
theorem eqS_data (x y : ByteArray) : eqS x y = (x.data.toList == y.data.toList) := by unfold eqS; rw [ByteArray.toList_eq, ByteArray.toList_eq]
theorem sign_data (x : ByteArray) : sign x = ((signs.find? fun y => y.1.data.toList == x.data.toList).map (·.2)).getD (0, -1) := by
  unfold sign
  simp only [eqS_data]
/-- the sign at k means k -/
theorem op_hit {x : ByteArray} {k : Nat} (hk : k < 10) (h : eqS (opAt k) x = true) (hs : 0 ≤ (sign x).2) : (k : Int) = (sign x).1 := by
  obtain rfl := eqS_eq h
  rw [sign_data] at hs ⊢
  rcases ten hk with rfl | rfl | rfl | rfl | rfl | rfl | rfl | rfl | rfl | rfl <;> revert hs <;> decide
theorem op_none {x : ByteArray} (h : ∀ j, j < 10 → eqS (opAt j) x = false) : (sign x).2 < 0 := by
  have e : sign x = (0, -1) := by
    refine sign_none x (fun j hj => ?_)
    have hj' : j < 9 := hj
    rcases nine hj' with rfl | rfl | rfl | rfl | rfl | rfl | rfl | rfl | rfl
    · exact h 9 (by omega)
    · exact h 8 (by omega)
    · exact h 1 (by omega)
    · exact h 2 (by omega)
    · exact h 7 (by omega)
    · exact h 3 (by omega)
    · exact h 4 (by omega)
    · exact h 5 (by omega)
    · exact h 6 (by omega)
  rw [e]
  decide
set_option maxHeartbeats 1000000 in
theorem oopOf (x : ByteArray) (w : World) (hO : HasOps w) (hx : 0 ≤ (sign x).2) :
    Calls Tryz.prog 199 #[.string x] w fun e w' => e = .returned (.int .i64 (sign x).1) ∧ Below w.heap.size w w' := by
  have c171 : Tryz.prog.cellsOf 204 = 2 := by kernel_rfl
  have hi : (Tryz.prog.info? 205).map (·.size) = some 20 := by kernel_rfl
  obtain ⟨cs, t, fr, hg, hs, hc⟩ := hO
  have hI := fun k hk w => ops_index cs hs hc k hk w
  clear hc
  rw [← hs] at hi
  have HX : Hid (0 ≤ (sign x).2) := hx
  clear hx
  obtain ⟨V, hV⟩ : ∃ V, V = (sign x).1 := ⟨_, rfl⟩
  rw [← hV]
  have HV : Hid (V = (sign x).1) := hV
  clear hV
  go_enter Tryz.func199, Tryz.ntmps199
  go_wp2_with (refine wpList_load_row rfl 205 _ rfl 5 rfl t cs fr _ hg Tryz.underlying205 rfl hi ?_)
  go_loopw [6] (fun v wr => ∃ k : Nat, k ≤ 10 ∧ v = .int .i64 k ∧ Below w.heap.size w wr ∧ Hid (∀ j, j < k → eqS (opAt j) x = false)) (fun v _ => 10 - (intOf v).toNat)
  case atStart => exact ⟨0, by omega, rfl, Below.refl _ _, fun j hj => by omega⟩
  case round =>
    obtain ⟨k, hk, rfl, hbw, HN⟩ := hrel
    by_cases hlt : k < 10
    · have hI' := hI k hlt wr
      have hkz : (k : Int) < 10 := by omega
      cases he : eqS (opAt k) x
      · have HE : Hid (eqS (opAt k) x = false) := he
        unfold eqS at he
        clear hI
        generalize opAt k = y at hI' he
        generalize opIs k = z at hI'
        go_wp2
        go_roundw
        case rel => exact ⟨k + 1, by omega, by go_num, hbw.alloc hbw.size _, fun j hj => by
          rcases Nat.lt_or_ge j k with h | h
          · exact HN.out j h
          · have : j = k := by omega
            subst this
            exact HE.out⟩
        case measure => simp [intOf]; omega
      · have HE : Hid ((k : Int) = V) := (op_hit hlt he HX.out).trans HV.out.symm
        unfold eqS at he
        clear hI
        generalize opAt k = y at hI' he
        generalize opIs k = z at hI'
        go_wp2
        go_ret
        exact ⟨by rw [← HE.out]; rfl, hbw.alloc hbw.size _⟩
    · have := op_none (x := x) (fun j hj => HN.out j (by omega))
      have := HX.out
      omega
end Go.Proofs.YtchhpinmoagkhaaGreatDoor.syn
namespace Go.Proofs.YtchhpinmoagkhaaGreatDoor.syn
open Go.RowKit
open Go.Proofs.YtchhpinmoagkhaaGreatDoor.lexs (Tok Fine)
set_option linter.unusedVariables false
set_option linter.unusedSimpArgs false
set_option maxRecDepth 100000

section
variable {w w' : World} {r G : Nat} {ts : List Tok} {s : St}
theorem Words.one (w : World) (x : ByteArray) (T : TypeId) {M : Nat} (hM : M = w.heap.size) : Words (w.alloc (.cells #[.string x] T)) M [x] := by
  subst hM
  intro k hk
  obtain rfl : k = 0 := by simpa using hk
  simp
theorem Words.two (w : World) (x y : ByteArray) (T : TypeId) {M : Nat} (hM : M = w.heap.size) : Words (w.alloc (.cells #[.string x, .string y] T)) M [x, y] := by
  subst hM
  intro k hk
  have : k = 0 ∨ k = 1 := by simp at hk; omega
  rcases this with rfl | rfl <;> simp
theorem has_one {x : ByteArray} {b : Bool} (h : eqS (txt ts s) x = b) : hasW ts s [x] = b := by unfold hasW; simp [h]
/-- one word asked for, laid in a new row -/
theorem skip_yes (hL : Ld w r G ts s) (x : ByteArray) (hx : [x].all wordy = true) (h : eqS (txt ts s) x = true) {M : Nat} {T : TypeId} (hM : M = w.heap.size) :
    Calls Tryz.prog 98 #[.pointer (some ⟨r, 0, none⟩), .slice (some ⟨M, 0, none⟩) 1 1] (w.alloc (.cells #[.string x] T)) fun e w' => e = .returned (.bool true) ∧ Ld w' r G ts s.next ∧ Fr r w w' :=
  (oskip_yes (hL.alloc _) [x] M 1 (by simp) hx (Words.one w x T hM) (has_one h)).mono fun e w' ⟨h1, h2, h3⟩ => ⟨h1, h2, (Fr.al _ _).trans h3⟩
theorem skip_no (hL : Ld w r G ts s) (x : ByteArray) (hx : [x].all wordy = true) (h : eqS (txt ts s) x = false) {M : Nat} {T : TypeId} (hM : M = w.heap.size) :
    Calls Tryz.prog 98 #[.pointer (some ⟨r, 0, none⟩), .slice (some ⟨M, 0, none⟩) 1 1] (w.alloc (.cells #[.string x] T)) fun e w' => e = .returned (.bool false) ∧ Ld w' r G ts s ∧ Fr r w w' :=
  (oskip_no (hL.alloc _) [x] M 1 (by simp) hx (Words.one w x T hM) (has_one h)).mono fun e w' ⟨h1, h2⟩ => ⟨h1, by rw [h2]; exact hL.alloc _, by rw [h2]; exact Fr.al _ _⟩
theorem must_next {x : ByteArray} (h : eqS (txt ts s) x = true) : must ts x s = s.next := by unfold must; rw [h, if_pos rfl]
theorem must_fail {x : ByteArray} (h : eqS (txt ts s) x = false) : must ts x s = s.fail := by unfold must; rw [h, if_neg (by decide)]
/-- a word that must stand here -/
theorem take_must (hL : Ld w r G ts s) (x : ByteArray) (hx : [x].all wordy = true) {M : Nat} {T : TypeId} (hM : M = w.heap.size) :
    Calls Tryz.prog 96 #[.pointer (some ⟨r, 0, none⟩), .slice (some ⟨M, 0, none⟩) 1 1] (w.alloc (.cells #[.string x] T)) fun e w' => ∃ y, OVal w r G ts (.string y) (must ts x s) e w' := by
  cases h : eqS (txt ts s) x
  · rw [must_fail h]
    refine (otake_no (hL.alloc _) [x] M 1 (by simp) hx (Words.one w x T hM) (has_one h)).mono ?_
    rintro e w' ⟨rfl, rfl⟩
    exact ⟨empty, .inl ⟨rfl, rfl, Fr.al _ _⟩⟩
  · rw [must_next h]
    refine (otake_yes (hL.alloc _) [x] M 1 (by simp) hx (Words.one w x T hM) (has_one h)).mono ?_
    rintro e w' ⟨rfl, h2, h3⟩
    exact ⟨_, .inr ⟨hL.ok, rfl, h2, (Fr.al _ _).trans h3⟩⟩
theorem olabel (hL : Ld w r G ts s) : Calls Tryz.prog 122 #[.pointer (some ⟨r, 0, none⟩)] w (OVal w r G ts (.int .i64 (label ts s).1) (label ts s).2) := by
  have hW : ([⟨#[108, 111, 119]⟩, ⟨#[104, 105, 103, 104]⟩] : List ByteArray).all wordy = true := by decide
  unfold label
  cases hh : eqS (txt ts s) ⟨#[104, 105, 103, 104]⟩
  · simp only [Bool.false_eq_true, if_false]
    cases hl : eqS (txt ts s) ⟨#[108, 111, 119]⟩
    · rw [must_fail hl]
      have hT := fun M (hM : M = w.heap.size) => otake_no (hL.alloc (.cells #[.string ⟨#[108, 111, 119]⟩, .string ⟨#[104, 105, 103, 104]⟩] 9)) [⟨#[108, 111, 119]⟩, ⟨#[104, 105, 103, 104]⟩] M 2 (by simp) hW (Words.two w _ _ _ hM) (by unfold hasW; simp [hh, hl])
      go_enter Tryz.func122, Tryz.ntmps122
      go_wp2_with (fail)
      refine (hT _ rfl).mono ?_
      rintro e w2 ⟨rfl, hw2⟩
      obtain rfl := hw2.symm
      go_wp2
      exact ⟨rfl, .inl ⟨rfl, rfl, Fr.al _ _⟩⟩
    · rw [must_next hl]
      have hx : hasW ts s [⟨#[108, 111, 119]⟩, ⟨#[104, 105, 103, 104]⟩] = true := by unfold hasW; simp [hl]
      have hT := fun M (hM : M = w.heap.size) => otake_yes (hL.alloc (.cells #[.string ⟨#[108, 111, 119]⟩, .string ⟨#[104, 105, 103, 104]⟩] 9)) [⟨#[108, 111, 119]⟩, ⟨#[104, 105, 103, 104]⟩] M 2 (by simp) hW (Words.two w _ _ _ hM) hx
      have hlt := hasW_lt hW hx
      have hraw : ((raw (ts[s.i]'hlt)).toList == [104, 105, 103, 104]) = false := by
        rw [← eqS_lit, ← eq_raw (hL.good _ (List.getElem_mem hlt)) hL.ok (lt_get hlt) (by decide)]
        exact hh
      have hok : s.next.bad = false := hL.ok
      generalize raw (ts[s.i]'hlt) = y at *
      go_enter Tryz.func122, Tryz.ntmps122
      go_wp2_with (fail)
      refine (hT _ rfl).mono ?_
      rintro e w2 ⟨rfl, hL2, hF2⟩
      go_wp2
      go_ret
      exact .inr ⟨hok, rfl, hL2, (Fr.al _ _).trans hF2⟩
  · simp only [if_true]
    have hx : hasW ts s [⟨#[108, 111, 119]⟩, ⟨#[104, 105, 103, 104]⟩] = true := by unfold hasW; simp [hh]
    have hT := fun M (hM : M = w.heap.size) => otake_yes (hL.alloc (.cells #[.string ⟨#[108, 111, 119]⟩, .string ⟨#[104, 105, 103, 104]⟩] 9)) [⟨#[108, 111, 119]⟩, ⟨#[104, 105, 103, 104]⟩] M 2 (by simp) hW (Words.two w _ _ _ hM) hx
    have hlt := hasW_lt hW hx
    have hraw : ((raw (ts[s.i]'hlt)).toList == [104, 105, 103, 104]) = true := by
      rw [← eqS_lit, ← eq_raw (hL.good _ (List.getElem_mem hlt)) hL.ok (lt_get hlt) (by decide)]
      exact hh
    have hok : s.next.bad = false := hL.ok
    generalize raw (ts[s.i]'hlt) = y at *
    go_enter Tryz.func122, Tryz.ntmps122
    go_wp2_with (fail)
    refine (hT _ rfl).mono ?_
    rintro e w2 ⟨rfl, hL2, hF2⟩
    go_wp2
    go_ret
    exact .inr ⟨hok, rfl, hL2, (Fr.al _ _).trans hF2⟩
theorem olongName (hL : Ld w r G ts s) : Calls Tryz.prog 173 #[.pointer (some ⟨r, 0, none⟩)] w (OVal w r G ts (.string (whole ts s).1) (whole ts s).2) := by
  have hN := oname hL
  have hst : (name ts s).2.bad = true → (whole ts s).2 = (name ts s).2 := by
    intro h
    unfold whole
    dsimp only
    rw [eat_st (by decide) h]
    simp
  by_cases hb : (name ts s).2.bad = true
  · rw [hst hb]
    go_enter Tryz.func173, Tryz.ntmps173
    go_wp2_with (fail)
    refine hN.mono ?_
    rintro e w1 (⟨_, rfl, hF1⟩ | ⟨h, _, _, _⟩)
    · go_wp2
      exact ⟨rfl, .inl ⟨hb, rfl, hF1⟩⟩
    · rw [hb] at h
      cases h
  · have hb' : (name ts s).2.bad = false := by simpa using hb
    clear hst hb
    have hx := name_size ts s
    unfold whole
    generalize name ts s = q at hN hx hb' ⊢
    obtain ⟨x, s1⟩ := q
    simp only at hN hx hb' ⊢
    unfold eat
    cases he : eqS (txt ts s1) ⟨#[46]⟩
    · simp only [Bool.false_eq_true, if_false]
      go_enter Tryz.func173, Tryz.ntmps173
      go_wp2_with (fail)
      refine hN.mono ?_
      rintro e w1 (⟨h, _, _⟩ | ⟨_, rfl, hL1, hF1⟩)
      · rw [hb'] at h
        cases h
      go_wp2_with (fail)
      refine (skip_no hL1 ⟨#[46]⟩ (by decide) he rfl).mono ?_
      rintro e w2 ⟨rfl, hL2, hF2⟩
      go_wp2
      go_ret
      exact .inr ⟨hb', rfl, hL2, hF1.trans hF2⟩
    · simp only [if_true]
      have hy := name_size ts s1.next
      have hM : ∀ {w : World}, Ld w r G ts s1.next → Calls Tryz.prog 97 #[.pointer (some ⟨r, 0, none⟩)] w (OVal w r G ts (.string (name ts s1.next).1) (name ts s1.next).2) := fun h => oname h
      generalize name ts s1.next = q at hM hy ⊢
      obtain ⟨y, s2⟩ := q
      simp only at hM hy ⊢
      go_enter Tryz.func173, Tryz.ntmps173
      go_wp2_with (fail)
      refine hN.mono ?_
      rintro e w1 (⟨h, _, _⟩ | ⟨_, rfl, hL1, hF1⟩)
      · rw [hb'] at h
        cases h
      go_wp2_with (fail)
      refine (skip_yes hL1 ⟨#[46]⟩ (by decide) he rfl).mono ?_
      rintro e w2 ⟨rfl, hL2, hF2⟩
      go_wp2_with (fail)
      refine (hM hL2).mono ?_
      rintro e w3 (⟨h3, rfl, hF3⟩ | ⟨h3, rfl, hL3, hF3⟩)
      · go_wp2
        exact ⟨rfl, .inl ⟨h3, rfl, (hF1.trans hF2).trans hF3⟩⟩
      · go_wp2
        go_ret
        refine .inr ⟨h3, ret_str ?_, hL3, (hF1.trans hF2).trans hF3⟩
        apply WideShapes.bytes_inj
        simp
end
end Go.Proofs.YtchhpinmoagkhaaGreatDoor.syn
