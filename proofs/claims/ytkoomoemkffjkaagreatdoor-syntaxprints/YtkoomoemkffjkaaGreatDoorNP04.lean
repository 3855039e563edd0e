/- Rows of tokens in memory, and what a scan answers. -/
import Derived.Shelf.Strconv.ErrVarParseInt
import Derived.Test.YtkoomoemkffjkaaGreatDoorProg
import Derived.WalkLawsBesides
import Derived.Test.YtkoomoemkffjkaaGreatDoorNP00
import Derived.BigQuiet
import Derived.Lib.Bytealg
set_option linter.unusedVariables false
namespace Go.Proofs
open Go.Shelf
def Tryz.laysPI_ren : Go.Shelf.Ren := ⟨fun | 174 => 139 | 247 => 167 | 245 => 168 | 287 => 190 | 279 => 191 | 280 => 192 | 281 => 193 | 282 => 194 | 321 => 209 | 322 => 210 | 316 => 118 | 171 => 212 | 205 => 211 | 243 => 230 | 246 => 166 | 283 => 186 | 284 => 187 | 285 => 188 | 286 => 189 | 129 => 205 | 317 => 204 | 318 => 206 | 319 => 207 | 320 => 208 | 337 => 228 | 338 => 229 | n => n, fun | 9 => 9 | 3 => 3 | 2 => 2 | 75 => 68 | 85 => 181 | 4 => 4 | 167 => 213 | 5 => 5 | 53 => 208 | 175 => 214 | 46 => 216 | 168 => 217 | 37 => 63 | 0 => 0 | 210 => 235 | 21 => 21 | 127 => 120 | 145 => 245 | 143 => 243 | 171 => 207 | 173 => 211 | 212 => 229 | 51 => 230 | 20 => 20 | 213 => 231 | 232 => 253 | 233 => 254 | 80 => 71 | n => n, fun | 15 => 3 | 16 => 4 | 17 => 2 | 18 => 6 | 19 => 7 | n => n⟩
theorem Tryz.laysPI : Go.Proofs.LaysC.n174 Tryz.prog Tryz.laysPI_ren := {
  mixed := by kernel_rfl
  f129 := Tryz.func205.trans (congrArg some (by kernel_rfl))
  f171 := Tryz.func212.trans (congrArg some (by kernel_rfl))
  f174 := Tryz.func139.trans (congrArg some (by kernel_rfl))
  f205 := Tryz.func211.trans (congrArg some (by kernel_rfl))
  f243 := Tryz.func230.trans (congrArg some (by kernel_rfl))
  f245 := Tryz.func168.trans (congrArg some (by kernel_rfl))
  f246 := Tryz.func166.trans (congrArg some (by kernel_rfl))
  f247 := Tryz.func167.trans (congrArg some (by kernel_rfl))
  f279 := Tryz.func191.trans (congrArg some (by kernel_rfl))
  f280 := Tryz.func192.trans (congrArg some (by kernel_rfl))
  f281 := Tryz.func193.trans (congrArg some (by kernel_rfl))
  f282 := Tryz.func194.trans (congrArg some (by kernel_rfl))
  f283 := Tryz.func186.trans (congrArg some (by kernel_rfl))
  f284 := Tryz.func187.trans (congrArg some (by kernel_rfl))
  f285 := Tryz.func188.trans (congrArg some (by kernel_rfl))
  f286 := Tryz.func189.trans (congrArg some (by kernel_rfl))
  f287 := Tryz.func190.trans (congrArg some (by kernel_rfl))
  f316 := Tryz.func118.trans (congrArg some (by kernel_rfl))
  f317 := Tryz.func204.trans (congrArg some (by kernel_rfl))
  f318 := Tryz.func206.trans (congrArg some (by kernel_rfl))
  f319 := Tryz.func207.trans (congrArg some (by kernel_rfl))
  f320 := Tryz.func208.trans (congrArg some (by kernel_rfl))
  f321 := Tryz.func209.trans (congrArg some (by kernel_rfl))
  f322 := Tryz.func210.trans (congrArg some (by kernel_rfl))
  f337 := Tryz.func228.trans (congrArg some (by kernel_rfl))
  f338 := Tryz.func229.trans (congrArg some (by kernel_rfl))
  t0 := Tryz.underlying0
  a0 := Tryz.isAgg0
  z0 := Tryz.sizeOf0
  v0 := Tryz.zeroValue0
  t2 := Tryz.underlying2
  a2 := Tryz.isAgg2
  z2 := Tryz.sizeOf2
  v2 := Tryz.zeroValue2
  t3 := Tryz.underlying3
  a3 := Tryz.isAgg3
  z3 := Tryz.sizeOf3
  v3 := Tryz.zeroValue3
  t4 := Tryz.underlying4
  a4 := Tryz.isAgg4
  z4 := Tryz.sizeOf4
  v4 := Tryz.zeroValue4
  t5 := Tryz.underlying5
  a5 := Tryz.isAgg5
  z5 := Tryz.sizeOf5
  v5 := Tryz.zeroValue5
  t9 := Tryz.underlying9
  a9 := Tryz.isAgg9
  z9 := Tryz.sizeOf9
  v9 := Tryz.zeroValue9
  t20 := Tryz.underlying20
  a20 := Tryz.isAgg20
  z20 := Tryz.sizeOf20
  v20 := Tryz.zeroValue20
  t21 := Tryz.underlying21
  a21 := Tryz.isAgg21
  z21 := Tryz.sizeOf21
  v21 := Tryz.zeroValue21
  t37 := Tryz.underlying63
  a37 := Tryz.isAgg63
  z37 := Tryz.sizeOf63
  v37 := Tryz.zeroValue63
  t46 := Tryz.underlying216
  a46 := Tryz.isAgg216
  z46 := Tryz.sizeOf216
  v46 := Tryz.zeroValue216
  t51 := Tryz.underlying230
  a51 := Tryz.isAgg230
  z51 := Tryz.sizeOf230
  v51 := Tryz.zeroValue230
  t53 := Tryz.underlying208
  a53 := Tryz.isAgg208
  z53 := Tryz.sizeOf208
  v53 := Tryz.zeroValue208
  t75 := Tryz.underlying68
  a75 := Tryz.isAgg68
  z75 := Tryz.sizeOf68
  v75 := Tryz.zeroValue68
  t85 := Tryz.underlying181
  a85 := Tryz.isAgg181
  z85 := Tryz.sizeOf181
  v85 := Tryz.zeroValue181
  t127 := Tryz.underlying120
  a127 := Tryz.isAgg120
  z127 := Tryz.sizeOf120
  v127 := Tryz.zeroValue120
  t143 := Tryz.underlying243
  a143 := Tryz.isAgg243
  z143 := Tryz.sizeOf243
  v143 := Tryz.zeroValue243
  t145 := Tryz.underlying245
  a145 := Tryz.isAgg245
  z145 := Tryz.sizeOf245
  v145 := Tryz.zeroValue245
  t167 := Tryz.underlying213
  a167 := Tryz.isAgg213
  z167 := Tryz.sizeOf213
  v167 := Tryz.zeroValue213
  t168 := Tryz.underlying217
  a168 := Tryz.isAgg217
  z168 := Tryz.sizeOf217
  v168 := Tryz.zeroValue217
  t171 := Tryz.underlying207
  a171 := Tryz.isAgg207
  z171 := Tryz.sizeOf207
  v171 := Tryz.zeroValue207
  t173 := Tryz.underlying211
  a173 := Tryz.isAgg211
  z173 := Tryz.sizeOf211
  v173 := Tryz.zeroValue211
  t175 := Tryz.underlying214
  a175 := Tryz.isAgg214
  z175 := Tryz.sizeOf214
  v175 := Tryz.zeroValue214
  t210 := Tryz.underlying235
  a210 := Tryz.isAgg235
  z210 := Tryz.sizeOf235
  v210 := Tryz.zeroValue235
  t212 := Tryz.underlying229
  a212 := Tryz.isAgg229
  z212 := Tryz.sizeOf229
  v212 := Tryz.zeroValue229
  t213 := Tryz.underlying231
  a213 := Tryz.isAgg231
  z213 := Tryz.sizeOf231
  t232 := Tryz.underlying253
  a232 := Tryz.isAgg253
  z232 := Tryz.sizeOf253
  v232 := Tryz.zeroValue253
  t233 := Tryz.underlying254
  a233 := Tryz.isAgg254
  z233 := Tryz.sizeOf254
  v233 := Tryz.zeroValue254
  g15 := by kernel_rfl
  g16 := by kernel_rfl
  g17 := by kernel_rfl
  g18 := by kernel_rfl
  g19 := by kernel_rfl
  t80 := Tryz.underlying71
  a80 := Tryz.isAgg71
  z80 := Tryz.sizeOf71
  v80 := Tryz.zeroValue71
  i0 := by kernel_rfl
  i2 := by kernel_rfl
  i3 := by kernel_rfl
  i4 := by kernel_rfl
  i5 := by kernel_rfl
  i9 := by kernel_rfl
  i20 := by kernel_rfl
  i21 := by kernel_rfl
  i37 := by kernel_rfl
  i46 := by kernel_rfl
  i51 := by kernel_rfl
  i53 := by kernel_rfl
  i75 := by kernel_rfl
  i80 := by kernel_rfl
  i85 := by kernel_rfl
  i127 := by kernel_rfl
  i143 := by kernel_rfl
  i145 := by kernel_rfl
  i167 := by kernel_rfl
  i168 := by kernel_rfl
  i171 := by kernel_rfl
  i173 := by kernel_rfl
  i175 := by kernel_rfl
  i210 := by kernel_rfl
  i212 := by kernel_rfl
  i232 := by kernel_rfl
  i233 := by kernel_rfl
  m15 := by kernel_rfl
  m16 := by kernel_rfl
  m17 := by kernel_rfl
  m18 := by kernel_rfl
  m19 := by kernel_rfl
  c0 := by kernel_rfl
  c2 := by kernel_rfl
  c3 := by kernel_rfl
  c4 := by kernel_rfl
  c5 := by kernel_rfl
  c9 := by kernel_rfl
  c20 := by kernel_rfl
  c21 := by kernel_rfl
  c37 := by kernel_rfl
  c46 := by kernel_rfl
  c51 := by kernel_rfl
  c53 := by kernel_rfl
  c75 := by kernel_rfl
  c80 := by kernel_rfl
  c85 := by kernel_rfl
  c127 := by kernel_rfl
  c143 := by kernel_rfl
  c145 := by kernel_rfl
  c167 := by kernel_rfl
  c168 := by kernel_rfl
  c171 := by kernel_rfl
  c173 := by kernel_rfl
  c175 := by kernel_rfl
  c210 := by kernel_rfl
  c212 := by kernel_rfl
  c213 := by kernel_rfl
  c232 := by kernel_rfl
  c233 := by kernel_rfl }
def Tryz.laysClone_ren : Go.Shelf.Ren := ⟨fun | 316 => 118 | n => n, fun | 9 => 9 | 3 => 3 | 4 => 4 | 37 => 63 | 0 => 0 | 127 => 120 | 5 => 5 | n => n, fun | n => n⟩
theorem Tryz.laysClone : Go.Proofs.LaysM.n316 Tryz.prog Tryz.laysClone_ren := {
  mixed := by kernel_rfl
  f316 := Tryz.func118.trans (congrArg some (by kernel_rfl))
  t0 := Tryz.underlying0
  a0 := Tryz.isAgg0
  z0 := Tryz.sizeOf0
  v0 := Tryz.zeroValue0
  t3 := Tryz.underlying3
  a3 := Tryz.isAgg3
  z3 := Tryz.sizeOf3
  v3 := Tryz.zeroValue3
  t4 := Tryz.underlying4
  a4 := Tryz.isAgg4
  z4 := Tryz.sizeOf4
  v4 := Tryz.zeroValue4
  t9 := Tryz.underlying9
  a9 := Tryz.isAgg9
  z9 := Tryz.sizeOf9
  v9 := Tryz.zeroValue9
  t37 := Tryz.underlying63
  a37 := Tryz.isAgg63
  z37 := Tryz.sizeOf63
  v37 := Tryz.zeroValue63
  t127 := Tryz.underlying120
  a127 := Tryz.isAgg120
  z127 := Tryz.sizeOf120
  v127 := Tryz.zeroValue120
  t5 := Tryz.underlying5
  a5 := Tryz.isAgg5
  z5 := Tryz.sizeOf5
  v5 := Tryz.zeroValue5
  i0 := by kernel_rfl
  i3 := by kernel_rfl
  i4 := by kernel_rfl
  i5 := by kernel_rfl
  i9 := by kernel_rfl
  i37 := by kernel_rfl
  i127 := by kernel_rfl }
end Go.Proofs
namespace Go.Proofs.YtkoomoemkffjkaaGreatDoor.lexs
open Go.RowKit

theorem ret_bool {x y : Bool} (h : x = y) : Ending.returned (.bool x) = .returned (.bool y) := by rw [h]
theorem ret_i64 {x y : Int} (h : x = y) : Ending.returned (.int .i64 x) = .returned (.int .i64 y) := by rw [h]
/-! ### numeral's ways -/
theorem getL (s : ByteArray) (k : Nat) (h : k < s.size) : s.data.toList[k]'(by simpa using h) = s[k] := rfl
theorem lenL (s : ByteArray) : s.data.toList.length = s.size := by simp
theorem num_bad (s : ByteArray) (k : Nat) (h : k < s.size) (hd : digI (s[k].toNat : Int) = false) : 2 = numE s.data.toList := by
  have : s.data.toList.all digB = false := by
    rw [List.all_eq_false]
    exact ⟨s[k], by rw [← getL s k h]; exact List.getElem_mem _, by unfold digB; simp [hd]⟩
  unfold numE
  rw [if_pos this]
theorem headL (s : ByteArray) (h : 0 < s.size) : s.data.toList.headD 0 = s[0] := by
  rw [← getL s 0 h]
  have : s.data.toList ≠ [] := by intro e; have := lenL s; rw [e] at this; simp at this; omega
  obtain ⟨a, r, e⟩ := List.exists_cons_of_ne_nil this
  simp only [e, List.headD_cons, List.getElem_cons_zero]

theorem slice_is (t : TypeId) (ht : Tryz.prog.underlying t = some .string) (s : ByteArray) (i n : Nat) (h : i + n ≤ s.size) (w : World) :
    (Instr.slice t (.string s) (some (.int .i64 (i : Int))) (some (.int .i64 ((i : Int) + (n : Int)))) none).run Tryz.prog w = .ok (.string (s.extract i (i + n))) w := by
  have := run_slice_string (P := Tryz.prog) (w := w) t s .i64 .i64 (i : Int) ((i : Int) + (n : Int)) ht (by omega) (by omega) (by omega)
  rw [this]
  simp only [Int.toNat_natCast]
  congr 4

theorem tokInfo : (Tryz.prog.info? 109).map (fun i => (i.zero, i.size, i.bytes)) = some (some (.agg #[.int .i64 0, .string ⟨#[]⟩, .int .i64 0]), 3, 32) := by kernel_rfl
/-- a box of two cells that lies right behind the old memory -/
theorem boxes {w wr : World} {x y : Value} {T : TypeId} (h : Below (w.heap.size + 1) (w.alloc (.cells #[x, y] T)) wr) :
    wr.cell? ⟨w.heap.size, 0, none⟩ = some x ∧ wr.cell? ⟨w.heap.size, 1, none⟩ = some y ∧ wr.frozen? ⟨w.heap.size, 0, none⟩ = false ∧ wr.frozen? ⟨w.heap.size, 1, none⟩ = false ∧ w.heap.size + 1 ≤ wr.heap.size := by
  refine ⟨?_, ?_, ?_, ?_, ?_⟩
  · rw [h.cell (p := ⟨w.heap.size, 0, none⟩) (by simp)]; simp
  · rw [h.cell (p := ⟨w.heap.size, 1, none⟩) (by simp)]; simp
  · rw [h.frozen (p := ⟨w.heap.size, 0, none⟩) (by simp)]; simp
  · rw [h.frozen (p := ⟨w.heap.size, 1, none⟩) (by simp)]; simp
  · have := h.size; simpa using this
theorem cell_three_new (w : World) (a b c : Value) (t : TypeId) (g : Nat) (hg : g = w.heap.size) : ∀ j u, [a, b, c][j]? = some u → (w.alloc (.cells #[a, b, c] t)).cell? ((⟨g, 0, none⟩ : Addr).add j) = some u := by
  subst hg
  intro j u hj
  match j, hj with
  | 0, hj => simp at hj; subst hj; simp [Addr.add]
  | 1, hj => simp at hj; subst hj; simp [Addr.add]
  | 2, hj => simp at hj; subst hj; simp [Addr.add]
theorem one_cells (a b : Int) (x : ByteArray) : ∀ u ∈ [Value.int .i64 a, .string x, .int .i64 b], u.oneCell' = true := by
  intro u hu
  simp at hu
  rcases hu with rfl | rfl | rfl <;> rfl
theorem rel_tok {B : Nat} {W0 W w1 : World} {e : TypeId} {k n : Nat} {v : Value} {xs : List Value} (hbw : Below (B + 1) W0 W) (hB : B + 1 ≤ W.heap.size) (hown : W.ownsRow (B + 1) e k v n xs) (hg : W.grownBy w1 v.ownBlock) : Below (B + 1) W0 w1 :=
  hbw.grown hg hB fun j hj => (hown.lt _ hj).1
theorem below_old {w wr : World} {o : Obj} (h : Below (w.heap.size + 1) (w.alloc o) wr) : Below w.heap.size w wr :=
  ((Below.refl _ _).alloc (Nat.le_refl _) o).trans (h.mono (by omega))
theorem ownsRow_le {w : World} {base base' size n : Nat} {e : TypeId} {v : Value} {xs : List Value} (h : w.ownsRow base e size v n xs) (hb : base' ≤ base) : w.ownsRow base' e size v n xs := by
  obtain ⟨h1, h2⟩ := h
  refine ⟨h1, ?_⟩
  rcases h2 with h2 | ⟨g, cap, cur, hv, hg, hh, r⟩
  · exact Or.inl h2
  · exact Or.inr ⟨g, cap, cur, hv, by omega, hh, r⟩
theorem own_tok {w : World} {B : Nat} {e : TypeId} {v : Value} {acc : List Tok} {s : ByteArray} {p n : Nat} {k : Int}
    (h : w.ownsRow B e 3 v (acc.length + 1) (cellsOf acc ++ [.int .i64 k, .string (s.extract p (p + n)), .int .i64 (p : Int)])) :
    w.ownsRow B e 3 v (acc ++ [(⟨k, (s.data.toList.drop p).take n, p⟩ : Tok)]).length (cellsOf (acc ++ [⟨k, (s.data.toList.drop p).take n, p⟩])) := by
  rw [cellsOf_snoc, ← extract_is, List.length_append]
  exact h
theorem dig_pos {s : ByteArray} {p n : Nat} (hp : p < s.size) (hd : digI (s[p].toNat : Int) = true) (hr : run insB (s.data.toList.drop p) = n) : 0 < n := by
  rw [← hr, drop_cons s p hp]
  exact run_pos _ _ _ (digB_insB hd)
theorem own_below {B : Nat} {e : TypeId} {k : Nat} {v : Value} {n : Nat} {xs : List Value} {w w' : World} (h : w.ownsRow B e k v n xs) (hb : Below w.heap.size w w') : w'.ownsRow B e k v n xs :=
  h.kept (row := none) ⟨hb.os, hb.tape, hb.output, hb.size, fun j hj _ => hb.block j hj⟩ (by cases hv : v.ownBlock <;> simp)

theorem oletter (c : Int) (w : World) :
    Calls Tryz.prog 112 #[.int .u8 c] w fun e w' => e = .returned (.bool (ltrI c)) ∧ w' = w := by
  go_enter Tryz.func112, Tryz.ntmps112
  go_wp2
  all_goals
    go_ret
    exact ⟨ret_bool (by rw [Bool.eq_iff_iff]; simp [ltrI] <;> omega), rfl⟩
theorem odigit (c : Int) (w : World) :
    Calls Tryz.prog 113 #[.int .u8 c] w fun e w' => e = .returned (.bool (digI c)) ∧ w' = w := by
  go_enter Tryz.func113, Tryz.ntmps113
  go_wp2
  all_goals
    go_ret
    exact ⟨ret_bool (by rw [Bool.eq_iff_iff]; simp [digI] <;> omega), rfl⟩
theorem oblank (c : Int) (w : World) :
    Calls Tryz.prog 110 #[.int .u8 c] w fun e w' => e = .returned (.bool (c == 32 || c == 10)) ∧ w' = w := by
  go_enter Tryz.func110, Tryz.ntmps110
  go_wp2
  all_goals
    go_ret
    exact ⟨ret_bool (by first | rfl | (rw [Bool.eq_iff_iff]; simp <;> omega) | (simp_all)), rfl⟩
theorem onoted (c : Int) (w : World) :
    Calls Tryz.prog 111 #[.int .u8 c] w fun e w' => e = .returned (.bool (c != 10)) ∧ w' = w := by
  go_enter Tryz.func111, Tryz.ntmps111
  go_wp2
  all_goals
    go_ret
    exact ⟨ret_bool (by first | rfl | (rw [Bool.eq_iff_iff]; simp <;> omega) | (simp_all)), rfl⟩
theorem obehind1 (c : Int) (w : World) :
    Calls Tryz.prog 114 #[.int .u8 c] w fun e w' => e = .returned (.bool (insI c)) ∧ w' = w := by
  cases h1 : ltrI c <;> cases h2 : digI c
  all_goals
    go_enter Tryz.func114, Tryz.ntmps114
    go_wp2_with (first | (go_at_call 112; refine (oletter _ _).mono ?_; rintro e w' ⟨rfl, rfl⟩) | (go_at_call 113; refine (odigit _ _).mono ?_; rintro e w' ⟨rfl, rfl⟩))
    go_ret
    exact ⟨ret_bool (by unfold insI; rw [h1, h2]; simp), rfl⟩
/-- from i on such bytes stand up to j, and no further -/
structure Stops (P : UInt8 → Bool) (s : ByteArray) (i j : Nat) : Prop where
  le : i ≤ j
  top : j ≤ s.size
  all : ∀ k (h : k < s.size), i ≤ k → k < j → P s[k] = true
  stop : j = s.size ∨ ∃ h : j < s.size, P s[j] = false
theorem Stops.run {P : UInt8 → Bool} {s : ByteArray} {i j : Nat} (h : Stops P s i j) : run P (s.data.toList.drop i) = j - i := by
  have e : i + (j - i) = j := by have := h.le; omega
  exact run_at P s i (j - i) (by have := h.top; omega) (fun k hk h1 h2 => h.all k hk h1 (by omega)) (by simp only [e]; exact h.stop)
set_option maxRecDepth 100000 in
theorem reach_digit (s : ByteArray) (i : Nat) (hs : s.size ≤ 3000) (hi : i ≤ s.size) (w : World) :
    Calls Tryz.prog 77 #[.string s, .int .i64 i, .func (.func 113) #[] #[]] w fun e w' => ∃ j : Nat, e = .returned (.int .i64 j) ∧ Stops digB s i j ∧ w' = w := by
  go_enter Tryz.func77, Tryz.ntmps77
  go_wp2
  go_loop [1] (fun t => ∃ j : Nat, i ≤ j ∧ j ≤ s.size ∧ t = .int .i64 j ∧ Hid (∀ k (h : k < s.size), i ≤ k → k < j → digB s[k] = true)) (fun t => s.size - (intOf t).toNat)
  case atStart => exact ⟨i, by omega, hi, rfl, fun k _ h1 h2 => by omega⟩
  case round =>
    obtain ⟨j, hij, hjs, rfl, HN⟩ := hrel
    by_cases hq : j < s.size
    · cases hb : digI (s[j].toNat : Int)
      · go_wp2_with (go_at_call 113; refine (odigit _ _).mono ?_; rintro e w' ⟨rfl, hw⟩; obtain rfl := hw.symm)
        go_ret
        exact ⟨j, rfl, ⟨hij, hjs, HN.out, .inr ⟨hq, by exact hb⟩⟩, rfl⟩
      · go_wp2_with (go_at_call 113; refine (odigit _ _).mono ?_; rintro e w' ⟨rfl, hw⟩; obtain rfl := hw.symm)
        go_round
        case rel => exact ⟨j + 1, by omega, by omega, by go_num, fun k h h1 h2 => by
          rcases Nat.lt_or_ge k j with h3 | h3
          · exact HN.out k h h1 h3
          · have : k = j := by omega
            subst this
            exact hb⟩
        case measure => simp [intOf]; omega
    · go_wp2_with (go_at_call 113; refine (odigit _ _).mono ?_; rintro e w' ⟨rfl, hw⟩; obtain rfl := hw.symm)
      go_ret
      exact ⟨j, rfl, ⟨hij, hjs, HN.out, .inl (by omega)⟩, rfl⟩
set_option maxRecDepth 100000 in
theorem reach_inside (s : ByteArray) (i : Nat) (hs : s.size ≤ 3000) (hi : i ≤ s.size) (w : World) :
    Calls Tryz.prog 77 #[.string s, .int .i64 i, .func (.func 114) #[] #[]] w fun e w' => ∃ j : Nat, e = .returned (.int .i64 j) ∧ Stops insB s i j ∧ w' = w := by
  go_enter Tryz.func77, Tryz.ntmps77
  go_wp2
  go_loop [1] (fun t => ∃ j : Nat, i ≤ j ∧ j ≤ s.size ∧ t = .int .i64 j ∧ Hid (∀ k (h : k < s.size), i ≤ k → k < j → insB s[k] = true)) (fun t => s.size - (intOf t).toNat)
  case atStart => exact ⟨i, by omega, hi, rfl, fun k _ h1 h2 => by omega⟩
  case round =>
    obtain ⟨j, hij, hjs, rfl, HN⟩ := hrel
    by_cases hq : j < s.size
    · cases hb : insI (s[j].toNat : Int)
      · go_wp2_with (go_at_call 114; refine (obehind1 _ _).mono ?_; rintro e w' ⟨rfl, hw⟩; obtain rfl := hw.symm)
        go_ret
        exact ⟨j, rfl, ⟨hij, hjs, HN.out, .inr ⟨hq, by exact hb⟩⟩, rfl⟩
      · go_wp2_with (go_at_call 114; refine (obehind1 _ _).mono ?_; rintro e w' ⟨rfl, hw⟩; obtain rfl := hw.symm)
        go_round
        case rel => exact ⟨j + 1, by omega, by omega, by go_num, fun k h h1 h2 => by
          rcases Nat.lt_or_ge k j with h3 | h3
          · exact HN.out k h h1 h3
          · have : k = j := by omega
            subst this
            exact hb⟩
        case measure => simp [intOf]; omega
    · go_wp2_with (go_at_call 114; refine (obehind1 _ _).mono ?_; rintro e w' ⟨rfl, hw⟩; obtain rfl := hw.symm)
      go_ret
      exact ⟨j, rfl, ⟨hij, hjs, HN.out, .inl (by omega)⟩, rfl⟩
theorem blank_is (b : UInt8) : ((b.toNat : Int) == 32 || (b.toNat : Int) == 10) = (b == 32 || b == 10) := by rw [byte_is _ 32 32 rfl, byte_is _ 10 10 rfl]
theorem noted_is (b : UInt8) : ((b.toNat : Int) != 10) = (b != 10) := by rw [bne, byte_is _ 10 10 rfl]; rfl
set_option maxRecDepth 100000 in
theorem reach_blank (s : ByteArray) (i : Nat) (hs : s.size ≤ 3000) (hi : i ≤ s.size) (w : World) :
    Calls Tryz.prog 77 #[.string s, .int .i64 i, .func (.func 110) #[] #[]] w fun e w' => ∃ j : Nat, e = .returned (.int .i64 j) ∧ Stops (fun b => b == 32 || b == 10) s i j ∧ w' = w := by
  go_enter Tryz.func77, Tryz.ntmps77
  go_wp2
  go_loop [1] (fun t => ∃ j : Nat, i ≤ j ∧ j ≤ s.size ∧ t = .int .i64 j ∧ Hid (∀ k (h : k < s.size), i ≤ k → k < j → (fun b => b == 32 || b == 10) s[k] = true)) (fun t => s.size - (intOf t).toNat)
  case atStart => exact ⟨i, by omega, hi, rfl, fun k _ h1 h2 => by omega⟩
  case round =>
    obtain ⟨j, hij, hjs, rfl, HN⟩ := hrel
    by_cases hq : j < s.size
    · cases hb : ((s[j].toNat : Int) == 32 || (s[j].toNat : Int) == 10)
      · go_wp2_with (go_at_call 110; refine (oblank _ _).mono ?_; rintro e w' ⟨rfl, hw⟩; obtain rfl := hw.symm)
        go_ret
        exact ⟨j, rfl, ⟨hij, hjs, HN.out, .inr ⟨hq, by rw [blank_is] at hb; exact hb⟩⟩, rfl⟩
      · go_wp2_with (go_at_call 110; refine (oblank _ _).mono ?_; rintro e w' ⟨rfl, hw⟩; obtain rfl := hw.symm)
        go_round
        case rel => exact ⟨j + 1, by omega, by omega, by go_num, fun k h h1 h2 => by
          rcases Nat.lt_or_ge k j with h3 | h3
          · exact HN.out k h h1 h3
          · have : k = j := by omega
            subst this
            rw [blank_is] at hb; exact hb⟩
        case measure => simp [intOf]; omega
    · go_wp2_with (go_at_call 110; refine (oblank _ _).mono ?_; rintro e w' ⟨rfl, hw⟩; obtain rfl := hw.symm)
      go_ret
      exact ⟨j, rfl, ⟨hij, hjs, HN.out, .inl (by omega)⟩, rfl⟩
set_option maxRecDepth 100000 in
theorem reach_noted (s : ByteArray) (i : Nat) (hs : s.size ≤ 3000) (hi : i ≤ s.size) (w : World) :
    Calls Tryz.prog 77 #[.string s, .int .i64 i, .func (.func 111) #[] #[]] w fun e w' => ∃ j : Nat, e = .returned (.int .i64 j) ∧ Stops (fun b => b != 10) s i j ∧ w' = w := by
  go_enter Tryz.func77, Tryz.ntmps77
  go_wp2
  go_loop [1] (fun t => ∃ j : Nat, i ≤ j ∧ j ≤ s.size ∧ t = .int .i64 j ∧ Hid (∀ k (h : k < s.size), i ≤ k → k < j → (fun b => b != 10) s[k] = true)) (fun t => s.size - (intOf t).toNat)
  case atStart => exact ⟨i, by omega, hi, rfl, fun k _ h1 h2 => by omega⟩
  case round =>
    obtain ⟨j, hij, hjs, rfl, HN⟩ := hrel
    by_cases hq : j < s.size
    · cases hb : ((s[j].toNat : Int) != 10)
      · go_wp2_with (go_at_call 111; refine (onoted _ _).mono ?_; rintro e w' ⟨rfl, hw⟩; obtain rfl := hw.symm)
        go_ret
        exact ⟨j, rfl, ⟨hij, hjs, HN.out, .inr ⟨hq, by rw [noted_is] at hb; exact hb⟩⟩, rfl⟩
      · go_wp2_with (go_at_call 111; refine (onoted _ _).mono ?_; rintro e w' ⟨rfl, hw⟩; obtain rfl := hw.symm)
        go_round
        case rel => exact ⟨j + 1, by omega, by omega, by go_num, fun k h h1 h2 => by
          rcases Nat.lt_or_ge k j with h3 | h3
          · exact HN.out k h h1 h3
          · have : k = j := by omega
            subst this
            rw [noted_is] at hb; exact hb⟩
        case measure => simp [intOf]; omega
    · go_wp2_with (go_at_call 111; refine (onoted _ _).mono ?_; rintro e w' ⟨rfl, hw⟩; obtain rfl := hw.symm)
      go_ret
      exact ⟨j, rfl, ⟨hij, hjs, HN.out, .inl (by omega)⟩, rfl⟩
/-! ### what is passed by -/
/-- from p the scan comes to j, and no token lies between -/
structure Goes (s : ByteArray) (p j : Nat) : Prop where
  le : p ≤ j
  top : j ≤ s.size
  on : ∀ (f : Nat) (acc : List Tok) (R : Res), s.size ≤ p + f → scanL f (s.data.toList.drop p) p acc = R → ∃ f', s.size ≤ j + f' ∧ scanL f' (s.data.toList.drop j) j acc = R
theorem Goes.rfl' {s : ByteArray} {p : Nat} (h : p ≤ s.size) : Goes s p p := ⟨Nat.le_refl _, h, fun f acc R h1 h2 => ⟨f, h1, h2⟩⟩
theorem Goes.trans {s : ByteArray} {p j k : Nat} (h1 : Goes s p j) (h2 : Goes s j k) : Goes s p k :=
  ⟨Nat.le_trans h1.le h2.le, h2.top, fun f acc R a b => by
    obtain ⟨f', a', b'⟩ := h1.on f acc R a b
    exact h2.on f' acc R a' b'⟩
theorem goes_step {s : ByteArray} {p n : Nat} (hp : p < s.size) (h : stepL (s.data.toList.drop p) = .skip n) : Goes s p (p + n) ∧ 0 < n := by
  have h0 := go_skip hp (f := 0) (acc := []) h rfl
  refine ⟨⟨by omega, h0.2.2, fun f acc R a b => ?_⟩, h0.2.1⟩
  obtain ⟨f, rfl⟩ : ∃ f', f = f' + 1 := ⟨f - 1, by omega⟩
  have hg := go_skip hp h b
  exact ⟨f, by omega, hg.1⟩
theorem goes_blanks {s : ByteArray} {p j : Nat} (h : Stops (fun b => b == 32 || b == 10) s p j) : Goes s p j := by
  obtain ⟨n, rfl⟩ : ∃ n, j = p + n := ⟨j - p, by have := h.le; omega⟩
  have H : ∀ n, p + n ≤ s.size → (∀ k (h : k < s.size), p ≤ k → k < p + n → (s[k] == 32 || s[k] == 10) = true) → Goes s p (p + n) := by
    intro n
    induction n with
    | zero => intro h1 _; exact Goes.rfl' h1
    | succ n ih =>
      intro h1 h2
      have g := ih (by omega) (fun k hk a b => h2 k hk a (by omega))
      have hb := h2 (p + n) (by omega) (by omega) (by omega)
      rw [← blank_is, Bool.or_eq_true] at hb
      exact g.trans (goes_step (by omega) (st_blank (by omega) hb)).1
  exact H n h.top h.all
theorem goes_note {s : ByteArray} {p j : Nat} (hp : p < s.size) (h3 : ((s[p].toNat : Int) == 35) = true) (h : Stops (fun b => b != 10) s p j) : Goes s p j ∧ p < j := by
  have hv : (s[p].toNat : Int) = 35 := by simpa using h3
  have hst := st_note hp (by rw [hv]; rfl) (by rw [hv]; rfl) h3 h.run
  have g := goes_step hp hst
  have hl := h.le
  have e : p + (j - p) = j := by omega
  rw [e] at g
  exact ⟨g.1, by omega⟩
set_option maxRecDepth 100000 in
theorem skip_any (s : ByteArray) (i : Nat) (hs : s.size ≤ 3000) (hi : i ≤ s.size) (w : World) :
    Calls Tryz.prog 76 #[.string s, .int .i64 i] w fun e w' => ∃ j : Nat, e = .returned (.int .i64 j) ∧ Goes s i j ∧ (∀ h : j < s.size, ((s[j].toNat : Int) == 32) = false ∧ ((s[j].toNat : Int) == 10) = false ∧ ((s[j].toNat : Int) == 35) = false) ∧ w' = w := by
  go_enter Tryz.func76, Tryz.ntmps76
  go_wp2
  go_loop [1] (fun t => ∃ j : Nat, j ≤ s.size ∧ t = .int .i64 j ∧ Hid (Goes s i j)) (fun t => s.size - (intOf t).toNat)
  case atStart => exact ⟨i, hi, rfl, Goes.rfl' hi⟩
  case round =>
    obtain ⟨j, hjs, rfl, HG⟩ := hrel
    go_wp2_with (fail)
    refine (reach_blank s j hs hjs _).mono ?_
    rintro e w' ⟨k, rfl, hk, hw⟩
    obtain rfl := hw.symm
    have HK : Hid (Goes s i k) := HG.out.trans (goes_blanks hk)
    have hkl := hk.le
    have hkt := hk.top
    have HS := hk.stop
    by_cases hq : k < s.size
    · have HB : Hid (((s[k].toNat : Int) == 32) = false ∧ ((s[k].toNat : Int) == 10) = false) := by
        rcases HS with h | ⟨_, h⟩
        · omega
        · rw [← blank_is, Bool.or_eq_false_iff] at h
          exact h
      clear HS hk
      cases h35 : ((s[k].toNat : Int) != 35)
      case true =>
        go_wp2
        go_ret
        exact ⟨k, rfl, HK.out, fun _ => ⟨HB.out.1, HB.out.2, by simpa [bne] using h35⟩, rfl⟩
      case false =>
        go_wp2_with (fail)
        refine (reach_noted s k hs hkt _).mono ?_
        rintro e w' ⟨m, rfl, hm, hw⟩
        obtain rfl := hw.symm
        have hg := goes_note hq (by simpa [bne] using h35) hm
        have HM : Hid (Goes s i m) := HK.out.trans hg.1
        have hlt := hg.2
        have hmt := hm.top
        clear hm hg
        go_wp2
        go_round
        case rel => exact ⟨m, hmt, rfl, HM.out⟩
        case measure => simp [intOf]; omega
    · have hke : k = s.size := by omega
      subst hke
      clear HS hk
      go_wp2
      go_ret
      exact ⟨s.size, rfl, HK.out, fun h => absurd h hq, rfl⟩

theorem behind_row (c : Int) (h : (ltrI c || digI c) = true) (w : World) :
    Calls Tryz.prog 78 #[.int .u8 c] w fun e w' => e = .returned (.func (.func 114) #[] #[]) ∧ Below w.heap.size w w' := by
  cases h1 : ltrI c <;> cases h2 : digI c
  case false.false => simp [h1, h2] at h
  all_goals
    go_enter Tryz.func78, Tryz.ntmps78
    go_wp2_with (first | (go_at_call 112; refine (oletter _ _).mono ?_; rintro e w' ⟨rfl, hw⟩; obtain rfl := hw.symm) | (go_at_call 113; refine (odigit _ _).mono ?_; rintro e w' ⟨rfl, hw⟩; obtain rfl := hw.symm))
    go_ret
    exact ⟨rfl, (Below.refl _ _).alloc (Nat.le_refl _) _⟩
/-- the two boxes that a sign's closure holds -/
def Boxed (w w' : World) (c : Int) : Prop := w'.cell? ⟨w.heap.size + 1, 0, none⟩ = some (.int .i64 1) ∧ w'.cell? ⟨w.heap.size, 0, none⟩ = some (.int .u8 c) ∧ w'.frozen? ⟨w.heap.size + 1, 0, none⟩ = false ∧ Below w.heap.size w w'
theorem behind_sign (c : Int) (h1 : ltrI c = false) (h2 : digI c = false) (w : World) :
    Calls Tryz.prog 78 #[.int .u8 c] w fun e w' => e = .returned (.func (.func 115) #[] #[.pointer (some ⟨w.heap.size + 1, 0, none⟩), .pointer (some ⟨w.heap.size, 0, none⟩)]) ∧ Boxed w w' c := by
  have hmf : ∀ (fn : Fn) (first cap : Array Value) (w : World), (Instr.makeFunc fn first cap).run Tryz.prog w = .ok (.func fn first cap) w := fun _ _ _ _ => rfl
  go_enter Tryz.func78, Tryz.ntmps78
  go_wp2_with (first | (go_at_call 112; refine (oletter _ _).mono ?_; rintro e w' ⟨rfl, hw⟩; obtain rfl := hw.symm) | (go_at_call 113; refine (odigit _ _).mono ?_; rintro e w' ⟨rfl, hw⟩; obtain rfl := hw.symm))
  go_ret
  refine ⟨rfl, ?_, ?_, ?_, ?_⟩
  · simp
  · simp
  · simp
  · exact ((Below.refl _ _).alloc (Nat.le_refl _) _).alloc (by simp) _
theorem obehind2 (x n c : Int) (a b : Addr) (w : World) (hn : 0 ≤ n ∧ n ≤ 5) (ha : w.cell? a = some (.int .i64 n)) (hb : w.cell? b = some (.int .u8 c)) (hf : w.frozen? a = false) (hab : a ≠ b) :
    Calls Tryz.prog 115 #[.int .u8 x, .pointer (some a), .pointer (some b)] w fun e w' => e = .returned (.bool (n == 1 && c == 61 && x == 61)) ∧ w' = w.setCell a (.int .i64 (n + 1)) := by
  have hw : IntKind.i64.wrap (n + 1) = n + 1 := by rw [IntKind.wrap_i64]; omega
  have ha' := World.cell?_setCell_same w a (.int .i64 (n + 1)) ha
  have hb' := (World.cell?_setCell_other w a b (.int .i64 (n + 1)) hab).trans hb
  have e : (n + 1 == 2) = (n == 1) := by rw [Bool.eq_iff_iff]; simp; omega
  cases h1 : (n == 1) <;> cases h2 : (c == 61) <;> cases h3 : (x == 61)
  all_goals
    rw [h1] at e
    go_enter Tryz.func115, Tryz.ntmps115
    go_wp2
    go_ret
    exact ⟨rfl, rfl⟩
/-- one byte more, where a second '=' follows -/
def more (l : List UInt8) (c : Int) : Nat := if c == 61 && l.headD 0 == 61 then 1 else 0
theorem head_at (s : ByteArray) (i : Nat) (h : i < s.size) : ((s.data.toList.drop i).headD 0 == 61) = ((s[i].toNat : Int) == 61) := by
  rw [drop_cons s i h, List.headD_cons, byte_is _ 61 61 rfl]
theorem head_end (s : ByteArray) (i : Nat) (h : s.size ≤ i) : ((s.data.toList.drop i).headD 0 == 61) = false := by
  rw [List.drop_eq_nil_of_le (by rw [len_L]; exact h)]; rfl
set_option maxRecDepth 100000 in
theorem reach_sign (s : ByteArray) (i : Nat) (c : Int) (a b : Addr) (hs : s.size ≤ 3000) (hi : i ≤ s.size) (w : World) (ha : w.cell? a = some (.int .i64 1)) (hb : w.cell? b = some (.int .u8 c)) (hf : w.frozen? a = false) (hab : a ≠ b) :
    Calls Tryz.prog 77 #[.string s, .int .i64 i, .func (.func 115) #[] #[.pointer (some a), .pointer (some b)]] w fun e w' => e = .returned (.int .i64 ((i + more (s.data.toList.drop i) c : Nat) : Int)) ∧ Below a.block w w' := by
  have ha' := World.cell?_setCell_same w a (.int .i64 2) ha
  have hb' := (World.cell?_setCell_other w a b (.int .i64 2) hab).trans hb
  have hf' : (w.setCell a (.int .i64 2)).frozen? a = false := by simp [hf]
  have B0 : Below a.block w w := Below.refl _ _
  have B1 : Below a.block w (w.setCell a (.int .i64 2)) := B0.setCell (Nat.le_refl _) _
  have B2 : Below a.block w ((w.setCell a (.int .i64 2)).setCell a (.int .i64 3)) := B1.setCell (Nat.le_refl _) _
  go_enter Tryz.func77, Tryz.ntmps77
  go_wp2
  go_loopw [1] (fun t wr => (t = .int .i64 i ∧ wr = w) ∨ (t = .int .i64 ((i : Int) + 1) ∧ i < s.size ∧ Hid (more (s.data.toList.drop i) c = 1) ∧ wr = w.setCell a (.int .i64 2))) (fun t _ => i + 1 - (intOf t).toNat)
  case atStart => exact .inl ⟨rfl, rfl⟩
  case round =>
    rcases hrel with ⟨rfl, rfl⟩ | ⟨rfl, hlt, HM, rfl⟩
    · by_cases hq : i < s.size
      · have hh := head_at s i hq
        cases hg : (c == 61 && (s[i].toNat : Int) == 61)
        · have HM : Hid (more (s.data.toList.drop i) c = 0) := by show _ = _; unfold more; rw [hh, hg]; rfl
          clear hh
          go_wp2_with (go_at_call 115; refine (obehind2 _ 1 c a b _ (by omega) ha hb hf hab).mono ?_; rintro e w' ⟨rfl, hw⟩; obtain rfl := hw.symm)
          go_ret
          exact ⟨by rw [HM.out]; rfl, B1⟩
        · have HM : Hid (more (s.data.toList.drop i) c = 1) := by show _ = _; unfold more; rw [hh, hg]; rfl
          clear hh
          go_wp2_with (go_at_call 115; refine (obehind2 _ 1 c a b _ (by omega) ha hb hf hab).mono ?_; rintro e w' ⟨rfl, hw⟩; obtain rfl := hw.symm)
          go_roundw
          case rel => exact .inr ⟨by go_num, hq, HM.out, by first | rfl | trivial⟩
          case measure => simp [intOf] <;> omega
      · have HM : Hid (more (s.data.toList.drop i) c = 0) := by show _ = _; unfold more; rw [head_end s i (by omega)]; simp
        go_wp2_with (go_at_call 115; refine (obehind2 _ 1 c a b _ (by omega) ha hb hf hab).mono ?_; rintro e w' ⟨rfl, hw⟩; obtain rfl := hw.symm)
        go_ret
        exact ⟨by rw [HM.out]; rfl, B0⟩
    · by_cases hq : i + 1 < s.size
      · go_wp2_with (go_at_call 115; refine (obehind2 _ 2 c a b _ (by omega) ha' hb' hf' hab).mono ?_; rintro e w' ⟨rfl, hw⟩; obtain rfl := hw.symm)
        go_ret
        exact ⟨by rw [HM.out]; rfl, B2⟩
      · go_wp2_with (go_at_call 115; refine (obehind2 _ 2 c a b _ (by omega) ha' hb' hf' hab).mono ?_; rintro e w' ⟨rfl, hw⟩; obtain rfl := hw.symm)
        go_ret
        exact ⟨by rw [HM.out]; rfl, B1⟩
theorem clone_any (x : ByteArray) (h : x.size ≤ 3000) (w : World) :
    Calls Tryz.prog 80 #[.string x] w fun e w' => e = .returned (.string x) ∧ Below w.heap.size w w' := by
  go_enter Tryz.func80, Tryz.ntmps80
  go_wp2_with (go_at_call 118; refine (Any.stringslite_Clone Tryz.laysClone x _ (by omega)).mono ?_; rintro e w' ⟨rfl, hb⟩)
  go_ret
  exact ⟨rfl, hb⟩
set_option maxHeartbeats 1000000 in
set_option maxRecDepth 100000 in
theorem index_lite (s : ByteArray) (c : Int) (w : World) :
    Calls Tryz.prog 140 #[.string s, .int .u8 c] w fun e w' => e = .returned (.int .i64 (Lib.indexByte s.data.toList c.toNat.toUInt8)) ∧ w' = w := by
  go_enter Tryz.func140, Tryz.ntmps140
  go_wp2
  rw [run_callFunc_extern Tryz.func169 (by kernel_rfl) (by kernel_rfl) (by kernel_rfl) (e := Extern.BytealgIndexByte.indexByte) (by kernel_rfl), Lib.run_indexByteString]
  simp only [Result.andThen]
  rw [Oper.upon_value]
  go_wp2
  go_ret
  exact ⟨rfl, rfl⟩
theorem index_any (s : ByteArray) (c : Int) (w : World) :
    Calls Tryz.prog 117 #[.string s, .int .u8 c] w fun e w' => e = .returned (.int .i64 (Lib.indexByte s.data.toList c.toNat.toUInt8)) ∧ w' = w := by
  go_enter Tryz.func117, Tryz.ntmps117
  go_wp2_with (go_at_call 140; refine (index_lite _ _ _).mono ?_; rintro e w' ⟨rfl, rfl⟩)
  go_ret
  exact ⟨rfl, rfl⟩
theorem has_index (l : List UInt8) (c : UInt8) : decide (Lib.indexByte l c ≥ 0) = l.contains c := by
  induction l with
  | nil => simp [Lib.indexByte]
  | cons b l ih =>
    have hg := Lib.indexByte_ge l c
    rw [List.contains_cons, ← ih, Lib.indexByte]
    by_cases h : b = c
    · subst h; simp
    · have h' : ¬ (c = b) := fun e => h e.symm
      simp only [beq_iff_eq, h, if_false]
      by_cases h1 : Lib.indexByte l c = -1
      · simp [h1, h']
      · rw [if_neg h1, Bool.eq_iff_iff]
        simp [h']
        omega

/-- the library's variable ErrRange holds an interface's value -/
def HasErr (w : World) : Prop := ∃ ev, w.cell? ⟨Tryz.laysPI_ren.g 16, 0, none⟩ = some ev ∧ (ev = .nilIface ∨ ∃ te pe, ev = .iface te pe)
theorem hasErr_below {w w' : World} (h : HasErr w) (hb : Below w.heap.size w w') : HasErr w' := by
  obtain ⟨ev, h1, h2⟩ := h
  have hlt : Tryz.laysPI_ren.g 16 < w.heap.size := by
    rcases Nat.lt_or_ge (Tryz.laysPI_ren.g 16) w.heap.size with h | h
    · exact h
    · exfalso
      simp only [World.cell?] at h1
      rw [Array.getElem?_eq_none h] at h1
      simp at h1
  exact ⟨ev, by rw [hb.cell (p := ⟨Tryz.laysPI_ren.g 16, 0, none⟩) hlt]; exact h1, h2⟩
theorem parse_ok (x : ByteArray) (hs : x.size ≤ 3000) (h : x.data.toList.all digB = true) (h0 : x.data.toList ≠ []) (hv : val x.data.toList < 9223372036854775808) (w : World) :
    Calls Tryz.prog 139 #[.string x, .int .i64 10, .int .i64 64] w fun e w' => e = .returned (.tuple #[.int .i64 (val x.data.toList : Int), .nilIface]) ∧ Below w.heap.size w w' := by
  refine (Any.strconv_ParseInt_10_at64_ok Tryz.laysPI x (by omega) _ (by rw [parse_all _ h h0, if_pos hv]) w).mono ?_
  rintro e w' ⟨rfl, rfl | ⟨t, rfl⟩⟩
  · exact ⟨rfl, Below.refl _ _⟩
  · exact ⟨rfl, Lib.bytesWorld_below _ _ _⟩
theorem parse_range (x : ByteArray) (hs : x.size ≤ 3000) (h : x.data.toList.all digB = true) (h0 : x.data.toList ≠ []) (hv : ¬ val x.data.toList < 9223372036854775808) (w : World) (he : HasErr w) :
    Calls Tryz.prog 139 #[.string x, .int .i64 10, .int .i64 64] w fun e w' => ∃ i T N, e = .returned (.tuple #[.int .i64 i, .iface T (.pointer (some ⟨N, 0, none⟩))]) ∧ Below w.heap.size w w' := by
  obtain ⟨ev, h1, h2⟩ := he
  refine (Any.strconv_ParseInt_10_at64_range Tryz.laysPI x (by omega) (by rw [parse_all _ h h0, if_neg hv]) ev w h1 h2).mono ?_
  rintro e w' ⟨N, rfl, _, _, hb⟩
  exact ⟨_, _, N, rfl, hb⟩
theorem stops_all {x : ByteArray} {j : Nat} (h : Stops digB x 0 j) (hj : j = x.size) : x.data.toList.all digB = true := by
  rw [List.all_eq_true]
  intro c hc
  obtain ⟨k, hk, rfl⟩ := List.mem_iff_getElem.1 hc
  rw [len_L] at hk
  exact h.all k hk (by omega) (by omega)
theorem ne_nil {x : ByteArray} (h : 0 < x.size) : x.data.toList ≠ [] := by intro e; have := len_L x; rw [e] at this; simp at this; omega
set_option maxRecDepth 100000 in
theorem judgeNumber_any (x : ByteArray) (hs : x.size ≤ 3000) (h0 : 0 < x.size) (w : World) (he : HasErr w) :
    Calls Tryz.prog 116 #[.string x] w fun e w' => e = .returned (.int .i64 (numE x.data.toList)) ∧ Below w.heap.size w w' := by
  go_enter Tryz.func116, Tryz.ntmps116
  go_wp2_with (fail)
  refine (reach_digit x 0 hs (by omega) _).mono ?_
  rintro e w' ⟨j, rfl, hj, hw⟩
  obtain rfl := hw.symm
  have hjt := hj.top
  by_cases hlt : j < x.size
  · have HE : Hid (2 = numE x.data.toList) := by
      rcases hj.stop with h | ⟨h, hd⟩
      · omega
      · exact num_bad x j h hd
    clear hj
    go_wp2
    go_ret
    exact ⟨ret_i64 HE.out, Below.refl _ _⟩
  · have hje : j = x.size := by omega
    have ha := stops_all hj hje
    clear hj
    subst hje
    have hh := headL x h0
    cases hz : (decide (1 < x.data.toList.length) && x.data.toList.headD 0 == 48)
    · have HN := numE_val _ ha (ne_nil h0) hz
      rw [len_L, hh, ← byte_is _ 48 48 rfl] at hz
      by_cases hv : val x.data.toList < 9223372036854775808
      · rw [if_pos hv] at HN
        have HN' : Hid (numE x.data.toList = 0) := HN
        have HV : Hid (val x.data.toList < 9223372036854775808) := hv
        have HA : Hid (x.data.toList.all digB = true) := ha
        clear HN hv ha
        by_cases h1 : 1 < x.size
        · have hb : ((x[0].toNat : Int) == 48) = false := by simpa [h1] using hz
          clear hz hh
          go_wp2_with (go_at_call 139; refine (parse_ok x hs HA.out (ne_nil h0) HV.out _).mono ?_; rintro e w1 ⟨rfl, hb1⟩)
          go_ret
          exact ⟨ret_i64 HN'.out.symm, hb1⟩
        · clear hz hh
          go_wp2_with (go_at_call 139; refine (parse_ok x hs HA.out (ne_nil h0) HV.out _).mono ?_; rintro e w1 ⟨rfl, hb1⟩)
          go_ret
          exact ⟨ret_i64 HN'.out.symm, hb1⟩
      · rw [if_neg hv] at HN
        have HN' : Hid (numE x.data.toList = 6) := HN
        have HV : Hid (¬ val x.data.toList < 9223372036854775808) := hv
        have HA : Hid (x.data.toList.all digB = true) := ha
        clear HN hv ha
        by_cases h1 : 1 < x.size
        · have hb : ((x[0].toNat : Int) == 48) = false := by simpa [h1] using hz
          clear hz hh
          go_wp2_with (go_at_call 139; refine (parse_range x hs HA.out (ne_nil h0) HV.out _ he).mono ?_; rintro e w1 ⟨i1, T1, N1, rfl, hb1⟩)
          go_ret
          exact ⟨ret_i64 HN'.out.symm, hb1⟩
        · clear hz hh
          go_wp2_with (go_at_call 139; refine (parse_range x hs HA.out (ne_nil h0) HV.out _ he).mono ?_; rintro e w1 ⟨i1, T1, N1, rfl, hb1⟩)
          go_ret
          exact ⟨ret_i64 HN'.out.symm, hb1⟩
    · have HN : Hid (numE x.data.toList = 2) := by
        show _ = _
        rw [numE, if_neg (by simp [ha]), if_pos hz]
      rw [len_L, hh, ← byte_is _ 48 48 rfl, Bool.and_eq_true] at hz
      have h1 : 1 < x.size := by simpa using hz.1
      have hb := hz.2
      clear hz hh ha
      go_wp2
      go_ret
      exact ⟨ret_i64 HN.out.symm, Below.refl _ _⟩
def signs : ByteArray := ⟨#[123, 125, 40, 41, 91, 93, 59, 44, 46, 61, 60, 43, 45, 42, 47, 37, 38, 124, 33]⟩
theorem index_signs (b : UInt8) : decide (Lib.indexByte signs.data.toList ((b.toNat : Int)).toNat.toUInt8 ≥ 0) = ones.contains b := by
  have e : ((b.toNat : Int)).toNat.toUInt8 = b := by simp
  rw [e, has_index]
  rfl
theorem judge_word (x : ByteArray) (hs : x.size ≤ 3000) (h0 : 0 < x.size) (w : World) (hl : ltrI (x[0].toNat : Int) = true) (h16 : x.size ≤ 16) :
    Calls Tryz.prog 79 #[.string x] w fun e w' => e = .returned (.tuple #[.int .i64 1, .int .i64 0]) ∧ Below w.heap.size w w' := by
  go_enter Tryz.func79, Tryz.ntmps79
  go_wp2_with (go_at_call 112; refine (oletter _ _).mono ?_; rintro e w' ⟨rfl, hw⟩; obtain rfl := hw.symm)
  exact bodyPost_ret (v := .tuple #[.int .i64 1, .int .i64 0]) (by simp [results, Tryz.results79, go_sem]) rfl ⟨rfl, Below.refl _ _⟩
theorem judge_long (x : ByteArray) (hs : x.size ≤ 3000) (h0 : 0 < x.size) (w : World) (hl : ltrI (x[0].toNat : Int) = true) (h16 : 16 < x.size) :
    Calls Tryz.prog 79 #[.string x] w fun e w' => e = .returned (.tuple #[.int .i64 0, .int .i64 1]) ∧ Below w.heap.size w w' := by
  go_enter Tryz.func79, Tryz.ntmps79
  go_wp2_with (go_at_call 112; refine (oletter _ _).mono ?_; rintro e w' ⟨rfl, hw⟩; obtain rfl := hw.symm)
  exact bodyPost_ret (v := .tuple #[.int .i64 0, .int .i64 1]) (by simp [results, Tryz.results79, go_sem]) rfl ⟨rfl, Below.refl _ _⟩
theorem judge_num (x : ByteArray) (hs : x.size ≤ 3000) (h0 : 0 < x.size) (w : World) (he : HasErr w) (hl : ltrI (x[0].toNat : Int) = false) (hd : digI (x[0].toNat : Int) = true) :
    Calls Tryz.prog 79 #[.string x] w fun e w' => e = .returned (.tuple #[.int .i64 2, .int .i64 (numE x.data.toList)]) ∧ Below w.heap.size w w' := by
  go_enter Tryz.func79, Tryz.ntmps79
  go_wp2_with (first
    | (go_at_call 112; refine (oletter _ _).mono ?_; rintro e w' ⟨rfl, hw⟩; obtain rfl := hw.symm)
    | (go_at_call 113; refine (odigit _ _).mono ?_; rintro e w' ⟨rfl, hw⟩; obtain rfl := hw.symm)
    | (go_at_call 116; refine (judgeNumber_any x hs h0 _ he).mono ?_; rintro e w1 ⟨rfl, hb1⟩))
  exact bodyPost_ret (v := .tuple #[.int .i64 2, .int .i64 (numE x.data.toList)]) (by simp [results, Tryz.results79, go_sem]) rfl ⟨rfl, hb1⟩
theorem judge_sign (x : ByteArray) (hs : x.size ≤ 3000) (h0 : 0 < x.size) (w : World) (hl : ltrI (x[0].toNat : Int) = false) (hd : digI (x[0].toNat : Int) = false) (hc : ones.contains x[0] = true) :
    Calls Tryz.prog 79 #[.string x] w fun e w' => e = .returned (.tuple #[.int .i64 3, .int .i64 0]) ∧ Below w.heap.size w w' := by
  have hi : Lib.indexByte signs.data.toList ((x[0].toNat : Int)).toNat.toUInt8 ≥ 0 := of_decide_eq_true (by rw [index_signs, hc])
  obtain ⟨I, hI⟩ : ∃ I, I = Lib.indexByte signs.data.toList ((x[0].toNat : Int)).toNat.toUInt8 := ⟨_, rfl⟩
  have hx := index_any signs (x[0].toNat : Int)
  rw [← hI] at hi hx
  clear hI hc
  go_enter Tryz.func79, Tryz.ntmps79
  go_wp2_with (first
    | (go_at_call 112; refine (oletter _ _).mono ?_; rintro e w' ⟨rfl, hw⟩; obtain rfl := hw.symm)
    | (go_at_call 113; refine (odigit _ _).mono ?_; rintro e w' ⟨rfl, hw⟩; obtain rfl := hw.symm)
    | (go_at_call 117; refine (hx _).mono ?_; rintro e w' ⟨rfl, hw⟩; obtain rfl := hw.symm))
  exact bodyPost_ret (v := .tuple #[.int .i64 3, .int .i64 0]) (by simp [results, Tryz.results79, go_sem]) rfl ⟨rfl, Below.refl _ _⟩
theorem judge_none (x : ByteArray) (hs : x.size ≤ 3000) (h0 : 0 < x.size) (w : World) (hl : ltrI (x[0].toNat : Int) = false) (hd : digI (x[0].toNat : Int) = false) (hc : ones.contains x[0] = false) :
    Calls Tryz.prog 79 #[.string x] w fun e w' => e = .returned (.tuple #[.int .i64 0, .int .i64 2]) ∧ Below w.heap.size w w' := by
  have hi : ¬ Lib.indexByte signs.data.toList ((x[0].toNat : Int)).toNat.toUInt8 ≥ 0 := of_decide_eq_false (by rw [index_signs, hc])
  obtain ⟨I, hI⟩ : ∃ I, I = Lib.indexByte signs.data.toList ((x[0].toNat : Int)).toNat.toUInt8 := ⟨_, rfl⟩
  have hx := index_any signs (x[0].toNat : Int)
  rw [← hI] at hi hx
  clear hI hc
  go_enter Tryz.func79, Tryz.ntmps79
  go_wp2_with (first
    | (go_at_call 112; refine (oletter _ _).mono ?_; rintro e w' ⟨rfl, hw⟩; obtain rfl := hw.symm)
    | (go_at_call 113; refine (odigit _ _).mono ?_; rintro e w' ⟨rfl, hw⟩; obtain rfl := hw.symm)
    | (go_at_call 117; refine (hx _).mono ?_; rintro e w' ⟨rfl, hw⟩; obtain rfl := hw.symm))
  exact bodyPost_ret (v := .tuple #[.int .i64 0, .int .i64 2]) (by simp [results, Tryz.results79, go_sem]) rfl ⟨rfl, Below.refl _ _⟩

theorem ext_size (s : ByteArray) (p n : Nat) (h : p + n ≤ s.size) : (s.extract p (p + n)).size = n := by
  rw [← len_L, Lib.extract_data, List.length_take, List.length_drop, len_L]; omega
theorem ext_data (s : ByteArray) (p n : Nat) : (s.extract p (p + n)).data.toList = (s.data.toList.drop p).take n := by
  rw [Lib.extract_data, Nat.add_sub_cancel_left]
theorem ext_head (s : ByteArray) (p n : Nat) (h : p + n ≤ s.size) (hn : 0 < n) : (s.extract p (p + n))[0]'(by rw [ext_size s p n h]; exact hn) = s[p] := by
  have h0 : 0 < (s.extract p (p + n)).size := by rw [ext_size s p n h]; exact hn
  have e := headL (s.extract p (p + n)) h0
  rw [← e, ext_data, drop_cons s p (by omega)]
  cases n with
  | zero => omega
  | succ n => rfl
theorem stops_back {P : UInt8 → Bool} {s : ByteArray} {p j : Nat} (hp : p < s.size) (h0 : P s[p] = true) (h : Stops P s (p + 1) j) : Stops P s p j :=
  ⟨by have := h.le; omega, h.top, fun k hk h1 h2 => by
    rcases Nat.lt_or_ge p k with h3 | h3
    · exact h.all k hk (by omega) h2
    · have : k = p := by omega
      subst this
      exact h0, h.stop⟩
theorem sign_one (s : ByteArray) (p : Nat) (hp : p < s.size) (hc : ones.contains s[p] = true) : signLen (s.data.toList.drop p) = 1 + more (s.data.toList.drop (p + 1)) (s[p].toNat : Int) := by
  unfold signLen more
  rw [drop_cons s p hp, List.headD_cons, List.drop_one, List.tail_cons, byte_is _ 61 61 rfl]
  rw [if_pos hc]
  split <;> rfl
theorem sign_zero (s : ByteArray) (p : Nat) (hp : p < s.size) (hc : ones.contains s[p] = false) : signLen (s.data.toList.drop p) = 0 := by
  unfold signLen
  rw [drop_cons s p hp, List.headD_cons, List.drop_one, List.tail_cons, if_neg, if_neg (by rw [hc]; decide)]
  intro h
  rw [Bool.and_eq_true, beq_iff_eq] at h
  rw [h.1] at hc
  exact absurd hc (by decide)
theorem more_le (s : ByteArray) (p : Nat) (c : Int) (hp : p < s.size) : p + (1 + more (s.data.toList.drop (p + 1)) c) ≤ s.size := by
  unfold more
  split
  · rename_i h
    rw [Bool.and_eq_true] at h
    rcases Nat.lt_or_ge (p + 1) s.size with h1 | h1
    · omega
    · have := head_end s (p + 1) h1
      rw [this] at h
      exact absurd h.2 (by decide)
  · omega
/-- what a row comes to: how long it is, its kind, its fault -/
def Rows' (s : ByteArray) (p n : Nat) (hp : p < s.size) (K E : Int) : Prop :=
  (∀ w, Calls Tryz.prog 78 #[.int .u8 (s[p].toNat : Int)] w fun e w1 => ∃ fv, e = .returned fv ∧ Below w.heap.size w w1 ∧
    Calls Tryz.prog 77 #[.string s, .int .i64 ((p : Int) + 1), fv] w1 fun e w2 => e = .returned (.int .i64 ((p : Int) + (n : Int))) ∧ Below w.heap.size w w2) ∧
  (∀ w, HasErr w → Calls Tryz.prog 79 #[.string (s.extract p (p + n))] w fun e w' => e = .returned (.tuple #[.int .i64 K, .int .i64 E]) ∧ Below w.heap.size w w')
theorem begin_row (s : ByteArray) (p : Nat) (hs : s.size ≤ 3000) (hp : p < s.size) (h : (ltrI (s[p].toNat : Int) || digI (s[p].toNat : Int)) = true) (w : World) :
    Calls Tryz.prog 78 #[.int .u8 (s[p].toNat : Int)] w fun e w1 => ∃ fv, e = .returned fv ∧ Below w.heap.size w w1 ∧
    Calls Tryz.prog 77 #[.string s, .int .i64 ((p : Int) + 1), fv] w1 fun e w2 => e = .returned (.int .i64 ((p : Int) + (run insB (s.data.toList.drop p) : Int))) ∧ Below w.heap.size w w2 := by
  refine (behind_row _ h w).mono ?_
  rintro e w1 ⟨rfl, hb⟩
  refine ⟨_, rfl, hb, ?_⟩
  refine (reach_inside s (p + 1) hs (by omega) w1).mono ?_
  rintro e w2 ⟨j, rfl, hj, rfl⟩
  have hi : insB s[p] = true := by
    rw [Bool.or_eq_true] at h
    rcases h with h | h
    · exact ltrB_insB h
    · exact digB_insB h
  have hr := (stops_back hp hi hj).run
  have hl := hj.le
  refine ⟨?_, hb⟩
  rw [hr]
  congr 2
  omega
theorem begin_sign (s : ByteArray) (p : Nat) (hs : s.size ≤ 3000) (hp : p < s.size) (hl : ltrI (s[p].toNat : Int) = false) (hd : digI (s[p].toNat : Int) = false) (w : World) :
    Calls Tryz.prog 78 #[.int .u8 (s[p].toNat : Int)] w fun e w1 => ∃ fv, e = .returned fv ∧ Below w.heap.size w w1 ∧
    Calls Tryz.prog 77 #[.string s, .int .i64 ((p : Int) + 1), fv] w1 fun e w2 => e = .returned (.int .i64 ((p : Int) + ((1 + more (s.data.toList.drop (p + 1)) (s[p].toNat : Int) : Nat) : Int))) ∧ Below w.heap.size w w2 := by
  refine (behind_sign _ hl hd w).mono ?_
  rintro e w1 ⟨rfl, h1, h2, h3, hb⟩
  refine ⟨_, rfl, hb, ?_⟩
  refine (reach_sign s (p + 1) (s[p].toNat : Int) _ _ hs (by omega) w1 h1 h2 h3 (by simp)).mono ?_
  rintro e w2 ⟨rfl, hb2⟩
  refine ⟨?_, hb.trans (hb2.mono (by simp))⟩
  congr 2
  omega
theorem row_any (s : ByteArray) (p : Nat) (hs : s.size ≤ 3000) (hp : p < s.size) (h32 : ((s[p].toNat : Int) == 32) = false) (h10 : ((s[p].toNat : Int) == 10) = false) (h35 : ((s[p].toNat : Int) == 35) = false) :
    ∃ (n : Nat) (K E : Int), 0 < n ∧ p + n ≤ s.size ∧ ((E != 0) = false → stepL (s.data.toList.drop p) = .tok K n) ∧ ((E != 0) = true → stepL (s.data.toList.drop p) = .fault E) ∧ Rows' s p n hp K E := by
  have hrl := run_le insB (s.data.toList.drop p)
  rw [List.length_drop, len_L] at hrl
  cases hl : ltrI (s[p].toNat : Int)
  · cases hd : digI (s[p].toNat : Int)
    · have hn : 0 < 1 + more (s.data.toList.drop (p + 1)) (s[p].toNat : Int) := by omega
      have hm := more_le s p (s[p].toNat : Int) hp
      have hx := ext_size s p _ hm
      have hh := ext_head s p _ hm hn
      cases hc : ones.contains s[p]
      · refine ⟨1 + more (s.data.toList.drop (p + 1)) (s[p].toNat : Int), 0, 2, hn, hm, fun h => absurd h (by decide), fun _ => st_none hp h32 h10 h35 hl hd (sign_zero s p hp hc), fun w => begin_sign s p hs hp hl hd w, fun w _ => ?_⟩
        exact judge_none _ (by omega) (by omega) w (by rw [hh]; exact hl) (by rw [hh]; exact hd) (by rw [hh]; exact hc)
      · refine ⟨1 + more (s.data.toList.drop (p + 1)) (s[p].toNat : Int), 3, 0, hn, hm, fun _ => st_sign hp h32 h10 h35 hl hd (sign_one s p hp hc) (by omega), fun h => absurd h (by decide), fun w => begin_sign s p hs hp hl hd w, fun w _ => ?_⟩
        exact judge_sign _ (by omega) (by omega) w (by rw [hh]; exact hl) (by rw [hh]; exact hd) (by rw [hh]; exact hc)
    · have hn : 0 < run insB (s.data.toList.drop p) := dig_pos hp hd rfl
      have hm : p + run insB (s.data.toList.drop p) ≤ s.size := by omega
      have hx := ext_size s p _ hm
      have hh := ext_head s p _ hm hn
      refine ⟨_, 2, numE ((s.data.toList.drop p).take (run insB (s.data.toList.drop p))), hn, hm, fun h => st_num hp h32 h10 h35 hl hd rfl (by simpa [bne] using h), fun h => st_bad hp h32 h10 h35 hl hd rfl (by simpa [bne] using h), fun w => begin_row s p hs hp (by rw [hd, Bool.or_true]) w, fun w he => ?_⟩
      have hj := judge_num (s.extract p (p + run insB (s.data.toList.drop p))) (by omega) (by omega) w he (by rw [hh]; exact hl) (by rw [hh]; exact hd)
      rw [ext_data] at hj
      exact hj
  · have hn : 0 < run insB (s.data.toList.drop p) := by rw [drop_cons s p hp]; exact run_pos _ _ _ (ltrB_insB hl)
    have hm : p + run insB (s.data.toList.drop p) ≤ s.size := by omega
    have hx := ext_size s p _ hm
    have hh := ext_head s p _ hm hn
    by_cases h16 : run insB (s.data.toList.drop p) ≤ 16
    · refine ⟨_, 1, 0, hn, hm, fun _ => st_word hp h32 h10 h35 hl rfl h16, fun h => absurd h (by decide), fun w => begin_row s p hs hp (by rw [hl, Bool.true_or]) w, fun w he => ?_⟩
      exact judge_word _ (by omega) (by omega) w (by rw [hh]; exact hl) (by omega)
    · refine ⟨_, 0, 1, hn, hm, fun h => absurd h (by decide), fun _ => st_long hp h32 h10 h35 hl rfl (by omega), fun w => begin_row s p hs hp (by rw [hl, Bool.true_or]) w, fun w he => ?_⟩
      exact judge_long _ (by omega) (by omega) w (by rw [hh]; exact hl) (by omega)

/-- what a scan answers, in the worlds that H names -/
def Scans (H : World → Prop) (F : Nat) (s : ByteArray) : Prop := ∀ w : World, H w → Calls Tryz.prog F #[.string s] w fun e w' => ∃ v, e = .returned (.tuple #[v, .agg #[.int .i64 (scan s.data.toList).code, .int .i64 (scan s.data.toList).place]]) ∧
      w'.ownsRow w.heap.size 109 3 v (scan s.data.toList).toks.length (cellsOf (scan s.data.toList).toks) ∧ Below w.heap.size w w'

theorem own_shape {w : World} {B : Nat} {e : TypeId} {k n : Nat} {v : Value} {xs : List Value} (h : w.ownsRow B e k v n xs) : ∃ a c, v = .slice a n c ∧ n ≤ 9223372036854775807 ∧ (0 < n → ∃ g, a = some ⟨g, 0, none⟩) := by
  rcases h.2 with ⟨rfl, rfl⟩ | ⟨g, cap, cur, rfl, _, _, h1, h2, _⟩
  · exact ⟨none, 0, rfl, by omega, fun h => by omega⟩
  · exact ⟨some ⟨g, 0, none⟩, cap, rfl, by unfold maxLen at h2; omega, fun _ => ⟨g, rfl⟩⟩
theorem cellsOf_at (l : List Tok) (k : Nat) (hk : k < l.length) : (cellsOf l)[k * 3]? = some (.int .i64 l[k].kind) ∧ (cellsOf l)[k * 3 + 1]? = some (.string ⟨l[k].text.toArray⟩) ∧ (cellsOf l)[k * 3 + 2]? = some (.int .i64 (l[k].at_ : Int)) := by
  induction l generalizing k with
  | nil => simp at hk
  | cons t l ih =>
    cases k with
    | zero => simp [cellsOf]
    | succ k =>
      have h := ih k (by simpa using hk)
      have e : cellsOf (t :: l) = [.int .i64 t.kind, .string ⟨t.text.toArray⟩, .int .i64 (t.at_ : Int)] ++ cellsOf l := rfl
      have e3 : (k + 1) * 3 = k * 3 + 3 := by omega
      rw [e, e3]
      refine ⟨?_, ?_, ?_⟩
      · rw [List.getElem?_append_right (by simp)]; simpa using h.1
      · rw [List.getElem?_append_right (by simp)]; simpa using h.2.1
      · rw [List.getElem?_append_right (by simp)]; simpa using h.2.2
theorem tok_cells {w : World} {B : Nat} {e : TypeId} {g n cap : Nat} {l : List Tok} (h : w.ownsRow B e 3 (.slice (some ⟨g, 0, none⟩) n cap) n (cellsOf l)) {k : Nat} (hk : k < l.length) :
    w.cell? ⟨g, k * 3, none⟩ = some (.int .i64 l[k].kind) ∧ w.cell? ⟨g, k * 3 + 1, none⟩ = some (.string ⟨l[k].text.toArray⟩) ∧ w.cell? ⟨g, k * 3 + 2, none⟩ = some (.int .i64 (l[k].at_ : Int)) := by
  have ha := cellsOf_at l k hk
  have hn : n = l.length := by have := h.1; rw [cellsOf_length] at this; omega
  exact ⟨(h.cellAt _ (by omega)).trans ha.1, (h.cellAt _ (by omega)).trans ha.2.1, (h.cellAt _ (by omega)).trans ha.2.2⟩
/-- a box more, and a call behind it -/
theorem below_next {w a b : World} {o : Obj} (h : Below w.heap.size w a) (h2 : Below (a.alloc o).heap.size (a.alloc o) b) : Below w.heap.size w b :=
  (h.alloc h.size o).trans (h2.mono (by have := h.size; rw [World.size_alloc]; omega))
end Go.Proofs.YtkoomoemkffjkaaGreatDoor.lexs
