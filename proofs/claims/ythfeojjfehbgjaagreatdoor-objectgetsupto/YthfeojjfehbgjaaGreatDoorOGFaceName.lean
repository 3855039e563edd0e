/- What the program's IsName answers of a text: a contract. -/
import Derived.Test.YthfeojjfehbgjaaGreatDoorProg
import Derived.WalkKit
import Derived.WalkLawsBesides
import Derived.Outline
import Derived.WalkSmall
import Derived.BigQuiet
import Derived.Deep.QuietTactic
import Derived.Test.YthfeojjfehbgjaaGreatDoorOGLexOwn
import Derived.Test.YthfeojjfehbgjaaGreatDoorOGFaceFine
namespace Go.Proofs.YthfeojjfehbgjaaGreatDoor.face
open Go.RowKit
open Go.Proofs.YthfeojjfehbgjaaGreatDoor.lexs (Tok scan cellsOf tok_cells own_shape scan_own HasErr Scans)
open Go.Proofs.YthfeojjfehbgjaaGreatDoor.syn (isName reserved eqS empty)
set_option linter.unusedVariables false
set_option linter.unusedSimpArgs false
set_option maxRecDepth 100000

theorem eqS_lit (y : ByteArray) (l : List UInt8) : eqS y ⟨l.toArray⟩ = (y.toList == l) := by unfold eqS; rw [ByteArray.toList_eq ⟨l.toArray⟩]
theorem eqS_comm (x y : ByteArray) : eqS x y = eqS y x := by unfold eqS; rw [Bool.eq_iff_iff]; simp only [beq_iff_eq]; exact eq_comm
theorem reserved_any (x : ByteArray) : (reserved.any fun y => eqS y x) = ((x.toList == [100, 111]) || (x.toList == [101, 108, 115, 101]) || (x.toList == [103, 105, 118, 101, 115]) || (x.toList == [104, 105, 103, 104]) || (x.toList == [105, 102]) || (x.toList == [105, 109, 112, 111, 114, 116]) || (x.toList == [105, 110]) || (x.toList == [108, 111, 119]) || (x.toList == [109, 111, 100, 117, 108, 101]) || (x.toList == [111, 117, 116]) || (x.toList == [112, 114, 111, 99]) || (x.toList == [112, 117, 98]) || (x.toList == [114, 101, 116, 117, 114, 110]) || (x.toList == [119, 104, 105, 108, 101])) := by
  have h : (reserved.any fun y => eqS y x) = (reserved.any fun y => eqS x y) := by
    rw [Bool.eq_iff_iff, List.any_eq_true, List.any_eq_true]
    constructor
    · rintro ⟨y, h1, h2⟩; exact ⟨y, h1, by rw [eqS_comm]; exact h2⟩
    · rintro ⟨y, h1, h2⟩; exact ⟨y, h1, by rw [eqS_comm]; exact h2⟩
  rw [h]
  unfold reserved
  simp only [List.any_cons, List.any_nil, Bool.or_false]
  rw [show eqS x ⟨#[100, 111]⟩ = (x.toList == [100, 111]) from eqS_lit x [100, 111], show eqS x ⟨#[101, 108, 115, 101]⟩ = (x.toList == [101, 108, 115, 101]) from eqS_lit x [101, 108, 115, 101], show eqS x ⟨#[103, 105, 118, 101, 115]⟩ = (x.toList == [103, 105, 118, 101, 115]) from eqS_lit x [103, 105, 118, 101, 115], show eqS x ⟨#[104, 105, 103, 104]⟩ = (x.toList == [104, 105, 103, 104]) from eqS_lit x [104, 105, 103, 104], show eqS x ⟨#[105, 102]⟩ = (x.toList == [105, 102]) from eqS_lit x [105, 102], show eqS x ⟨#[105, 109, 112, 111, 114, 116]⟩ = (x.toList == [105, 109, 112, 111, 114, 116]) from eqS_lit x [105, 109, 112, 111, 114, 116], show eqS x ⟨#[105, 110]⟩ = (x.toList == [105, 110]) from eqS_lit x [105, 110], show eqS x ⟨#[108, 111, 119]⟩ = (x.toList == [108, 111, 119]) from eqS_lit x [108, 111, 119], show eqS x ⟨#[109, 111, 100, 117, 108, 101]⟩ = (x.toList == [109, 111, 100, 117, 108, 101]) from eqS_lit x [109, 111, 100, 117, 108, 101], show eqS x ⟨#[111, 117, 116]⟩ = (x.toList == [111, 117, 116]) from eqS_lit x [111, 117, 116], show eqS x ⟨#[112, 114, 111, 99]⟩ = (x.toList == [112, 114, 111, 99]) from eqS_lit x [112, 114, 111, 99], show eqS x ⟨#[112, 117, 98]⟩ = (x.toList == [112, 117, 98]) from eqS_lit x [112, 117, 98], show eqS x ⟨#[114, 101, 116, 117, 114, 110]⟩ = (x.toList == [114, 101, 116, 117, 114, 110]) from eqS_lit x [114, 101, 116, 117, 114, 110], show eqS x ⟨#[119, 104, 105, 108, 101]⟩ = (x.toList == [119, 104, 105, 108, 101]) from eqS_lit x [119, 104, 105, 108, 101]]
  simp only [Bool.or_assoc]
theorem oisName (k a : Int) (x : ByteArray) (w : World) :
    Calls Tryz.prog 68 #[.agg #[.int .i64 k, .string x, .int .i64 a]] w fun e w' => e = .returned (.bool (!(reserved.any fun y => eqS y x) && k == 1)) ∧ Below w.heap.size w w' := by
  have c29 : Tryz.prog.cellsOf 126 = 3 := by kernel_rfl
  rw [reserved_any]
  cases h0 : (x.toList == [100, 111])
  case true =>
    simp only [Bool.true_or, Bool.or_true, Bool.false_or, Bool.not_true, Bool.false_and]
    go_enter Tryz.func68, Tryz.ntmps68
    go_wp2
    go_ret
    exact ⟨rfl, (Below.refl _ _).alloc (Nat.le_refl _) _⟩
  cases h1 : (x.toList == [101, 108, 115, 101])
  case true =>
    simp only [Bool.true_or, Bool.or_true, Bool.false_or, Bool.not_true, Bool.false_and]
    go_enter Tryz.func68, Tryz.ntmps68
    go_wp2
    go_ret
    exact ⟨rfl, (Below.refl _ _).alloc (Nat.le_refl _) _⟩
  cases h2 : (x.toList == [103, 105, 118, 101, 115])
  case true =>
    simp only [Bool.true_or, Bool.or_true, Bool.false_or, Bool.not_true, Bool.false_and]
    go_enter Tryz.func68, Tryz.ntmps68
    go_wp2
    go_ret
    exact ⟨rfl, (Below.refl _ _).alloc (Nat.le_refl _) _⟩
  cases h3 : (x.toList == [104, 105, 103, 104])
  case true =>
    simp only [Bool.true_or, Bool.or_true, Bool.false_or, Bool.not_true, Bool.false_and]
    go_enter Tryz.func68, Tryz.ntmps68
    go_wp2
    go_ret
    exact ⟨rfl, (Below.refl _ _).alloc (Nat.le_refl _) _⟩
  cases h4 : (x.toList == [105, 102])
  case true =>
    simp only [Bool.true_or, Bool.or_true, Bool.false_or, Bool.not_true, Bool.false_and]
    go_enter Tryz.func68, Tryz.ntmps68
    go_wp2
    go_ret
    exact ⟨rfl, (Below.refl _ _).alloc (Nat.le_refl _) _⟩
  cases h5 : (x.toList == [105, 109, 112, 111, 114, 116])
  case true =>
    simp only [Bool.true_or, Bool.or_true, Bool.false_or, Bool.not_true, Bool.false_and]
    go_enter Tryz.func68, Tryz.ntmps68
    go_wp2
    go_ret
    exact ⟨rfl, (Below.refl _ _).alloc (Nat.le_refl _) _⟩
  cases h6 : (x.toList == [105, 110])
  case true =>
    simp only [Bool.true_or, Bool.or_true, Bool.false_or, Bool.not_true, Bool.false_and]
    go_enter Tryz.func68, Tryz.ntmps68
    go_wp2
    go_ret
    exact ⟨rfl, (Below.refl _ _).alloc (Nat.le_refl _) _⟩
  cases h7 : (x.toList == [108, 111, 119])
  case true =>
    simp only [Bool.true_or, Bool.or_true, Bool.false_or, Bool.not_true, Bool.false_and]
    go_enter Tryz.func68, Tryz.ntmps68
    go_wp2
    go_ret
    exact ⟨rfl, (Below.refl _ _).alloc (Nat.le_refl _) _⟩
  cases h8 : (x.toList == [109, 111, 100, 117, 108, 101])
  case true =>
    simp only [Bool.true_or, Bool.or_true, Bool.false_or, Bool.not_true, Bool.false_and]
    go_enter Tryz.func68, Tryz.ntmps68
    go_wp2
    go_ret
    exact ⟨rfl, (Below.refl _ _).alloc (Nat.le_refl _) _⟩
  cases h9 : (x.toList == [111, 117, 116])
  case true =>
    simp only [Bool.true_or, Bool.or_true, Bool.false_or, Bool.not_true, Bool.false_and]
    go_enter Tryz.func68, Tryz.ntmps68
    go_wp2
    go_ret
    exact ⟨rfl, (Below.refl _ _).alloc (Nat.le_refl _) _⟩
  cases h10 : (x.toList == [112, 114, 111, 99])
  case true =>
    simp only [Bool.true_or, Bool.or_true, Bool.false_or, Bool.not_true, Bool.false_and]
    go_enter Tryz.func68, Tryz.ntmps68
    go_wp2
    go_ret
    exact ⟨rfl, (Below.refl _ _).alloc (Nat.le_refl _) _⟩
  cases h11 : (x.toList == [112, 117, 98])
  case true =>
    simp only [Bool.true_or, Bool.or_true, Bool.false_or, Bool.not_true, Bool.false_and]
    go_enter Tryz.func68, Tryz.ntmps68
    go_wp2
    go_ret
    exact ⟨rfl, (Below.refl _ _).alloc (Nat.le_refl _) _⟩
  cases h12 : (x.toList == [114, 101, 116, 117, 114, 110])
  case true =>
    simp only [Bool.true_or, Bool.or_true, Bool.false_or, Bool.not_true, Bool.false_and]
    go_enter Tryz.func68, Tryz.ntmps68
    go_wp2
    go_ret
    exact ⟨rfl, (Below.refl _ _).alloc (Nat.le_refl _) _⟩
  cases h13 : (x.toList == [119, 104, 105, 108, 101])
  case true =>
    simp only [Bool.true_or, Bool.or_true, Bool.false_or, Bool.not_true, Bool.false_and]
    go_enter Tryz.func68, Tryz.ntmps68
    go_wp2
    go_ret
    exact ⟨rfl, (Below.refl _ _).alloc (Nat.le_refl _) _⟩
  simp only [Bool.or_false, Bool.not_false, Bool.true_and]
  go_enter Tryz.func68, Tryz.ntmps68
  go_wp2
  go_ret
  exact ⟨rfl, (Below.refl _ _).alloc (Nat.le_refl _) _⟩
theorem cell_alloc {w : World} {a : Addr} {v : Value} (h : w.cell? a = some v) (ob : Obj) : (w.alloc ob).cell? a = some v := by
  rw [((Below.refl _ _).alloc (Nat.le_refl _) ob).cell (World.block_lt_of_cell? w a h)]; exact h
set_option maxHeartbeats 1000000 in
theorem oName (x : ByteArray) (w : World) (hw : HasErr w) :
    Calls Tryz.prog 40 #[.string x] w fun e w' => e = .returned (.bool (isName x)) ∧ Below w.heap.size w w' := by
  have c29 : Tryz.prog.cellsOf 126 = 3 := by kernel_rfl
  rw [← tells_eq]
  have hS := scan_own x w hw
  obtain ⟨V, hV⟩ : ∃ V, V = tells x := ⟨_, rfl⟩
  rw [← hV]
  have HV : Hid (V = tells x) := hV
  clear hV
  generalize hR : (scan x.data.toList) = R at hS
  have HR : Hid (scan x.data.toList = R) := hR
  clear hR
  generalize hL : R.toks = L at hS
  have HL : Hid (R.toks = L) := hL
  clear hL
  generalize R.code = C, R.place = P at hS
  match L, HL, hS with
  | [], HL, hS =>
    have HF : Hid (V = false) := by show _ = _; rw [HV.out]; unfold tells; rw [HR.out, HL.out]; rfl
    go_enter Tryz.func40, Tryz.ntmps40
    go_wp2_with (go_at_call 67; refine hS.mono ?_; rintro e w1 ⟨v, rfl, hown, hb⟩; obtain ⟨a, c, rfl, _, _⟩ := own_shape hown)
    go_ret
    exact ⟨by rw [HF.out]; rfl, hb.alloc hb.size _⟩
  | [t], HL, hS =>
    have HF : Hid (V = (ownName t && eqS (raw t) x)) := by show _ = _; rw [HV.out]; unfold tells; rw [HR.out, HL.out]; rfl
    cases ho : (!(reserved.any fun y => eqS y (raw t)) && t.kind == 1)
    · have HG : Hid (V = false) := by show _ = _; rw [HF.out]; unfold ownName; rw [ho]; rfl
      go_enter Tryz.func40, Tryz.ntmps40
      go_wp2_with first
        | (go_at_call 67; refine hS.mono ?_; rintro e w1 ⟨v, rfl, hown, hb⟩; obtain ⟨a, c, rfl, _, hg⟩ := own_shape hown; obtain ⟨g, rfl⟩ := hg (by simp); obtain ⟨q0, q1, q2⟩ := tok_cells hown (k := 0) (by simp); simp only [Nat.zero_mul, Nat.zero_add, List.getElem_cons_zero] at q0 q1 q2; have r0 := fun (ob : Obj) => cell_alloc q0 ob; have r1 := fun (ob : Obj) => cell_alloc q1 ob; have r2 := fun (ob : Obj) => cell_alloc q2 ob)
        | (go_at_call 68; refine (oisName _ _ _ _).mono ?_; rw [show (⟨t.text.toArray⟩ : ByteArray) = raw t from rfl, ho]; rintro e w2 ⟨rfl, hb2⟩)
      go_ret
      exact ⟨by rw [HG.out]; rfl, lexs.below_next hb hb2⟩
    · cases he : ((raw t).toList == x.toList)
      all_goals
        have HG : Hid (V = ((raw t).toList == x.toList)) := by show _ = _; rw [HF.out]; show ((!(reserved.any fun y => eqS y (raw t)) && t.kind == 1) && eqS (raw t) x) = _; rw [ho]; rfl
        rw [he] at HG
        go_enter Tryz.func40, Tryz.ntmps40
        go_wp2_with first
          | (go_at_call 67; refine hS.mono ?_; rintro e w1 ⟨v, rfl, hown, hb⟩; obtain ⟨a, c, rfl, _, hg⟩ := own_shape hown; obtain ⟨g, rfl⟩ := hg (by simp); obtain ⟨q0, q1, q2⟩ := tok_cells hown (k := 0) (by simp); simp only [Nat.zero_mul, Nat.zero_add, List.getElem_cons_zero] at q0 q1 q2; rw [show (⟨t.text.toArray⟩ : ByteArray) = raw t from rfl] at q1; have hgl := World.block_lt_of_cell? _ _ q1; have r0 := fun (ob : Obj) => cell_alloc q0 ob; have r1 := fun (ob : Obj) => cell_alloc q1 ob; have r2 := fun (ob : Obj) => cell_alloc q2 ob)
          | (go_at_call 68; refine (oisName _ _ _ _).mono ?_; rw [ho]; rintro e w2 ⟨rfl, hb2⟩; have q3 := (hb2.cell (p := ⟨g, 1, none⟩) (by rw [World.size_alloc]; show g < _; have : g < w1.heap.size := hgl; omega)); rw [r1] at q3)
        go_ret
        exact ⟨by rw [HG.out]; rfl, lexs.below_next hb hb2⟩
  | t :: t' :: r, HL, hS =>
    have HF : Hid (V = false) := by show _ = _; rw [HV.out]; unfold tells; rw [HR.out, HL.out]; rfl
    go_enter Tryz.func40, Tryz.ntmps40
    go_wp2_with (go_at_call 67; refine hS.mono ?_; rintro e w1 ⟨v, rfl, hown, hb⟩; obtain ⟨a, c, rfl, _, _⟩ := own_shape hown)
    go_ret
    exact ⟨by rw [HF.out]; rfl, hb.alloc hb.size _⟩
end Go.Proofs.YthfeojjfehbgjaaGreatDoor.face
