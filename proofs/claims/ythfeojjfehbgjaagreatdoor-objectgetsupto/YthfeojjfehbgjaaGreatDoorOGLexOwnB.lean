/- What the program's behind answers, and reach with what it answers; the library's Clone and IndexByte: contracts. -/
import Derived.Test.YthfeojjfehbgjaaGreatDoorProg
import Derived.WalkKit
import Derived.WalkLawsBesides
import Derived.Outline
import Derived.WalkSmall
import Derived.BigQuiet
import Derived.Deep.QuietTactic
import Derived.Lib.Walk
import Derived.Lib.Bytealg
import Derived.Test.YthfeojjfehbgjaaGreatDoorOGLexLay
import Derived.Test.YthfeojjfehbgjaaGreatDoorOGLexOwnA
namespace Go.Proofs.YthfeojjfehbgjaaGreatDoor.lexs
open Go.RowKit
set_option linter.unusedVariables false

theorem behind_row (c : Int) (h : (ltrI c || digI c) = true) (w : World) :
    Calls Tryz.prog 93 #[.int .u8 c] w fun e w' => e = .returned (.func (.func 111) #[] #[]) ∧ Below w.heap.size w w' := by
  cases h1 : ltrI c <;> cases h2 : digI c
  case false.false => simp [h1, h2] at h
  all_goals
    go_enter Tryz.func93, Tryz.ntmps93
    go_wp2_with (first | (go_at_call 109; refine (oletter _ _).mono ?_; rintro e w' ⟨rfl, hw⟩; obtain rfl := hw.symm) | (go_at_call 110; refine (odigit _ _).mono ?_; rintro e w' ⟨rfl, hw⟩; obtain rfl := hw.symm))
    go_ret
    exact ⟨rfl, (Below.refl _ _).alloc (Nat.le_refl _) _⟩
/-- the two boxes that a sign's closure holds -/
def Boxed (w w' : World) (c : Int) : Prop := w'.cell? ⟨w.heap.size + 1, 0, none⟩ = some (.int .i64 1) ∧ w'.cell? ⟨w.heap.size, 0, none⟩ = some (.int .u8 c) ∧ w'.frozen? ⟨w.heap.size + 1, 0, none⟩ = false ∧ Below w.heap.size w w'
theorem behind_sign (c : Int) (h1 : ltrI c = false) (h2 : digI c = false) (w : World) :
    Calls Tryz.prog 93 #[.int .u8 c] w fun e w' => e = .returned (.func (.func 112) #[] #[.pointer (some ⟨w.heap.size + 1, 0, none⟩), .pointer (some ⟨w.heap.size, 0, none⟩)]) ∧ Boxed w w' c := by
  have hmf : ∀ (fn : Fn) (first cap : Array Value) (w : World), (Instr.makeFunc fn first cap).run Tryz.prog w = .ok (.func fn first cap) w := fun _ _ _ _ => rfl
  go_enter Tryz.func93, Tryz.ntmps93
  go_wp2_with (first | (go_at_call 109; refine (oletter _ _).mono ?_; rintro e w' ⟨rfl, hw⟩; obtain rfl := hw.symm) | (go_at_call 110; refine (odigit _ _).mono ?_; rintro e w' ⟨rfl, hw⟩; obtain rfl := hw.symm))
  go_ret
  refine ⟨rfl, ?_, ?_, ?_, ?_⟩
  · simp
  · simp
  · simp
  · exact ((Below.refl _ _).alloc (Nat.le_refl _) _).alloc (by simp) _
theorem obehind2 (x n c : Int) (a b : Addr) (w : World) (hn : 0 ≤ n ∧ n ≤ 5) (ha : w.cell? a = some (.int .i64 n)) (hb : w.cell? b = some (.int .u8 c)) (hf : w.frozen? a = false) (hab : a ≠ b) :
    Calls Tryz.prog 112 #[.int .u8 x, .pointer (some a), .pointer (some b)] w fun e w' => e = .returned (.bool (n == 1 && c == 61 && x == 61)) ∧ w' = w.setCell a (.int .i64 (n + 1)) := by
  have hw : IntKind.i64.wrap (n + 1) = n + 1 := by rw [IntKind.wrap_i64]; omega
  have ha' := World.cell?_setCell_same w a (.int .i64 (n + 1)) ha
  have hb' := (World.cell?_setCell_other w a b (.int .i64 (n + 1)) hab).trans hb
  have e : (n + 1 == 2) = (n == 1) := by rw [Bool.eq_iff_iff]; simp; omega
  cases h1 : (n == 1) <;> cases h2 : (c == 61) <;> cases h3 : (x == 61)
  all_goals
    rw [h1] at e
    go_enter Tryz.func112, Tryz.ntmps112
    go_wp2
    go_ret
    exact ⟨rfl, rfl⟩
/-- one byte more, where a second '=' follows -/
def more (l : List UInt8) (c : Int) : Nat := if c == 61 && l.headD 0 == 61 then 1 else 0
theorem head_at (s : ByteArray) (i : Nat) (h : i < s.size) : ((s.data.toList.drop i).headD 0 == 61) = ((s[i].toNat : Int) == 61) := by
  rw [drop_cons s i h, List.headD_cons, byte_is _ 61 61 rfl]
theorem head_end (s : ByteArray) (i : Nat) (h : s.size ≤ i) : ((s.data.toList.drop i).headD 0 == 61) = false := by
  rw [List.drop_eq_nil_of_le (by rw [len_L]; exact h)]; rfl
set_option maxRecDepth 100000 in
theorem reach_sign (s : ByteArray) (i : Nat) (c : Int) (a b : Addr) (hs : s.size ≤ 3000) (hi : i ≤ s.size) (w : World) (ha : w.cell? a = some (.int .i64 1)) (hb : w.cell? b = some (.int .u8 c)) (hf : w.frozen? a = false) (hab : a ≠ b) :
    Calls Tryz.prog 92 #[.string s, .int .i64 i, .func (.func 112) #[] #[.pointer (some a), .pointer (some b)]] w fun e w' => e = .returned (.int .i64 ((i + more (s.data.toList.drop i) c : Nat) : Int)) ∧ Below a.block w w' := by
  have ha' := World.cell?_setCell_same w a (.int .i64 2) ha
  have hb' := (World.cell?_setCell_other w a b (.int .i64 2) hab).trans hb
  have hf' : (w.setCell a (.int .i64 2)).frozen? a = false := by simp [hf]
  have B0 : Below a.block w w := Below.refl _ _
  have B1 : Below a.block w (w.setCell a (.int .i64 2)) := B0.setCell (Nat.le_refl _) _
  have B2 : Below a.block w ((w.setCell a (.int .i64 2)).setCell a (.int .i64 3)) := B1.setCell (Nat.le_refl _) _
  go_enter Tryz.func92, Tryz.ntmps92
  go_wp2
  go_loopw [1] (fun t wr => (t = .int .i64 i ∧ wr = w) ∨ (t = .int .i64 ((i : Int) + 1) ∧ i < s.size ∧ Hid (more (s.data.toList.drop i) c = 1) ∧ wr = w.setCell a (.int .i64 2))) (fun t _ => i + 1 - (intOf t).toNat)
  case atStart => exact .inl ⟨rfl, rfl⟩
  case round =>
    rcases hrel with ⟨rfl, rfl⟩ | ⟨rfl, hlt, HM, rfl⟩
    · by_cases hq : i < s.size
      · have hh := head_at s i hq
        cases hg : (c == 61 && (s[i].toNat : Int) == 61)
        · have HM : Hid (more (s.data.toList.drop i) c = 0) := by show _ = _; unfold more; rw [hh, hg]; rfl
          clear hh
          go_wp2_with (go_at_call 112; refine (obehind2 _ 1 c a b _ (by omega) ha hb hf hab).mono ?_; rintro e w' ⟨rfl, hw⟩; obtain rfl := hw.symm)
          go_ret
          exact ⟨by rw [HM.out]; rfl, B1⟩
        · have HM : Hid (more (s.data.toList.drop i) c = 1) := by show _ = _; unfold more; rw [hh, hg]; rfl
          clear hh
          go_wp2_with (go_at_call 112; refine (obehind2 _ 1 c a b _ (by omega) ha hb hf hab).mono ?_; rintro e w' ⟨rfl, hw⟩; obtain rfl := hw.symm)
          go_roundw
          case rel => exact .inr ⟨by go_num, hq, HM.out, by first | rfl | trivial⟩
          case measure => simp [intOf] <;> omega
      · have HM : Hid (more (s.data.toList.drop i) c = 0) := by show _ = _; unfold more; rw [head_end s i (by omega)]; simp
        go_wp2_with (go_at_call 112; refine (obehind2 _ 1 c a b _ (by omega) ha hb hf hab).mono ?_; rintro e w' ⟨rfl, hw⟩; obtain rfl := hw.symm)
        go_ret
        exact ⟨by rw [HM.out]; rfl, B0⟩
    · by_cases hq : i + 1 < s.size
      · go_wp2_with (go_at_call 112; refine (obehind2 _ 2 c a b _ (by omega) ha' hb' hf' hab).mono ?_; rintro e w' ⟨rfl, hw⟩; obtain rfl := hw.symm)
        go_ret
        exact ⟨by rw [HM.out]; rfl, B2⟩
      · go_wp2_with (go_at_call 112; refine (obehind2 _ 2 c a b _ (by omega) ha' hb' hf' hab).mono ?_; rintro e w' ⟨rfl, hw⟩; obtain rfl := hw.symm)
        go_ret
        exact ⟨by rw [HM.out]; rfl, B1⟩
theorem clone_any (x : ByteArray) (h : x.size ≤ 3000) (w : World) :
    Calls Tryz.prog 95 #[.string x] w fun e w' => e = .returned (.string x) ∧ Below w.heap.size w w' := by
  go_enter Tryz.func95, Tryz.ntmps95
  go_wp2_with (go_at_call 115; refine (Any.stringslite_Clone Tryz.laysClone x _ (by omega)).mono ?_; rintro e w' ⟨rfl, hb⟩)
  go_ret
  exact ⟨rfl, hb⟩
set_option maxHeartbeats 1000000 in
set_option maxRecDepth 100000 in
theorem index_lite (s : ByteArray) (c : Int) (w : World) :
    Calls Tryz.prog 117 #[.string s, .int .u8 c] w fun e w' => e = .returned (.int .i64 (Lib.indexByte s.data.toList c.toNat.toUInt8)) ∧ w' = w := by
  go_enter Tryz.func117, Tryz.ntmps117
  go_wp2
  rw [run_callFunc_extern Tryz.func120 (by kernel_rfl) (by kernel_rfl) (by kernel_rfl) (e := Extern.BytealgIndexByte.indexByte) (by kernel_rfl), Lib.run_indexByteString]
  simp only [Result.andThen]
  rw [Oper.upon_value]
  go_wp2
  go_ret
  exact ⟨rfl, rfl⟩
theorem index_any (s : ByteArray) (c : Int) (w : World) :
    Calls Tryz.prog 114 #[.string s, .int .u8 c] w fun e w' => e = .returned (.int .i64 (Lib.indexByte s.data.toList c.toNat.toUInt8)) ∧ w' = w := by
  go_enter Tryz.func114, Tryz.ntmps114
  go_wp2_with (go_at_call 117; refine (index_lite _ _ _).mono ?_; rintro e w' ⟨rfl, rfl⟩)
  go_ret
  exact ⟨rfl, rfl⟩
theorem has_index (l : List UInt8) (c : UInt8) : decide (Lib.indexByte l c ≥ 0) = l.contains c := by
  induction l with
  | nil => simp [Lib.indexByte]
  | cons b l ih =>
    have hg := Lib.indexByte_ge l c
    rw [List.contains_cons, ← ih, Lib.indexByte]
    by_cases h : b = c
    · subst h; simp
    · have h' : ¬ (c = b) := fun e => h e.symm
      simp only [beq_iff_eq, h, if_false]
      by_cases h1 : Lib.indexByte l c = -1
      · simp [h1, h']
      · rw [if_neg h1, Bool.eq_iff_iff]
        simp [h']
        omega
end Go.Proofs.YthfeojjfehbgjaaGreatDoor.lexs
