/- What tokens look like; and when a text is a NAME, told by its tokens. No Go in sight. What the program's IsName answers of a text: a contract. What the program's isLabel and mayVar answer, and slices.Equal of numbers: contracts. -/
import Derived.Test.YtchhpinmoagkhaaGreatDoorNLa
import Derived.Test.YtchhpinmoagkhaaGreatDoorNSa
import Derived.Test.YtchhpinmoagkhaaGreatDoorProg
import Derived.WalkKit
import Derived.WalkLawsBesides
import Derived.Outline
import Derived.WalkSmall
import Derived.BigQuiet
import Derived.Deep.QuietTactic
import Derived.Test.YtchhpinmoagkhaaGreatDoorNLe
import Derived.Deep.RegionWith
import Derived.Test.YtchhpinmoagkhaaGreatDoorNFa
namespace Go.Proofs.YtchhpinmoagkhaaGreatDoor.face
open Go.Proofs.YtchhpinmoagkhaaGreatDoor.lexs Go.Proofs.YtchhpinmoagkhaaGreatDoor.syn

/-- what the tokens of a text look like -/
structure Fine (t : Tok) : Prop where
  kinds : t.kind = 1 ∨ t.kind = 2 ∨ t.kind = 3
  ne : t.text ≠ []
  word : t.kind = 1 → t.text.length ≤ 16 ∧ ltrB (t.text.headD 0) = true ∧ t.text.all insB = true
  num : t.kind = 2 → numE t.text = 0
  sign : t.kind = 3 → ltrB (t.text.headD 0) = false
theorem take_run (p : UInt8 → Bool) (l : List UInt8) : l.take (run p l) = l.takeWhile p := by
  unfold run
  induction l with
  | nil => rfl
  | cons b r ih =>
    rw [List.takeWhile_cons]
    cases p b
    · rfl
    · simp [ih]
theorem step_fine {b : UInt8} {r : List UInt8} {K : Int} {n i : Nat} (h : stepL (b :: r) = .tok K n) : Fine ⟨K, (b :: r).take n, i⟩ := by
  have hn := (stepL_tok h).1
  obtain ⟨m, rfl⟩ : ∃ m, n = m + 1 := ⟨n - 1, by omega⟩
  have hh : ((b :: r).take (m + 1)).headD 0 = b := by simp
  have hne : (b :: r).take (m + 1) ≠ [] := by simp
  rw [stepL, List.headD_cons, stepB] at h
  by_cases h1 : (b == 32 || b == 10) = true
  · rw [if_pos h1] at h; simp at h
  rw [if_neg h1] at h
  by_cases h2 : (b == 35) = true
  · rw [if_pos h2] at h; simp at h
  rw [if_neg h2] at h
  cases h3 : ltrB b
  · rw [h3] at h
    simp only [Bool.false_eq_true, if_false] at h
    cases h4 : digB b
    · rw [h4] at h
      simp only [Bool.false_eq_true, if_false] at h
      split at h
      · simp at h
      · injection h with hk hm
        subst hk
        refine ⟨.inr (.inr rfl), hne, fun e => by simp at e, fun e => by simp at e, fun _ => ?_⟩
        show ltrB (((b :: r).take (m + 1)).headD 0) = false
        rw [hh]
        exact h3
    · rw [h4] at h
      simp only [if_true] at h
      split at h
      · rename_i he
        injection h with hk hm
        subst hk
        refine ⟨.inr (.inl rfl), hne, fun e => by simp at e, fun _ => ?_, fun e => by simp at e⟩
        rw [← hm]
        simpa using he
      · simp at h
  · rw [h3] at h
    simp only [if_true] at h
    split at h
    · simp at h
    · rename_i h16
      injection h with hk hm
      subst hk
      refine ⟨.inl rfl, hne, fun _ => ⟨?_, ?_, ?_⟩, fun e => by simp at e, fun e => by simp at e⟩
      · show ((b :: r).take (m + 1)).length ≤ 16
        rw [List.length_take]
        omega
      · show ltrB (((b :: r).take (m + 1)).headD 0) = true
        rw [hh]
        exact h3
      · show ((b :: r).take (m + 1)).all insB = true
        rw [← hm, take_run]
        exact List.all_takeWhile
theorem scanL_fine : ∀ (f : Nat) (l : List UInt8) (i : Nat) (acc toks : List Tok), scanL f l i acc = .ok toks → (∀ t ∈ acc, Fine t) → ∀ t ∈ toks, Fine t
  | 0, l, i, acc, toks, h, ha => by
    unfold scanL at h
    injection h with h
    subst h
    exact ha
  | f + 1, [], i, acc, toks, h, ha => by
    unfold scanL at h
    injection h with h
    subst h
    exact ha
  | f + 1, b :: r, i, acc, toks, h, ha => by
    cases hs : stepL (b :: r) with
    | skip n => rw [scanL_skip hs] at h; exact scanL_fine f _ _ _ _ h ha
    | fault c => rw [scanL_fault hs] at h; simp at h
    | tok k n =>
      rw [scanL_tok hs] at h
      refine scanL_fine f _ _ _ _ h ?_
      intro t ht
      rw [List.mem_append] at ht
      rcases ht with ht | ht
      · exact ha t ht
      · simp only [List.mem_singleton] at ht
        subst ht
        exact step_fine hs
theorem scan_fine {l : List UInt8} {toks : List Tok} (h : scan l = .ok toks) : ∀ t ∈ toks, Fine t := by
  unfold scan at h
  split at h
  · simp at h
  · exact scanL_fine _ _ _ _ _ h (fun t ht => by simp at ht)
def raw (t : Tok) : ByteArray := ⟨t.text.toArray⟩
theorem raw_list (t : Tok) : (raw t).data.toList = t.text := rfl
theorem raw_size (t : Tok) : (raw t).size = t.text.length := by rw [← lexs.len_L, raw_list]
def ownName (t : Tok) : Bool := !(reserved.any fun y => eqS y (raw t)) && t.kind == 1
theorem bytes_ext {x y : ByteArray} (h : x.data.toList = y.data.toList) : x = y := WideShapes.bytes_inj h
theorem eqS_iff {x y : ByteArray} : eqS x y = true ↔ x = y := by
  unfold eqS
  rw [beq_iff_eq, ByteArray.toList_eq, ByteArray.toList_eq]
  exact ⟨bytes_ext, fun h => by rw [h]⟩
/-- what the program asks of a text's tokens -/
def tellsL (x : ByteArray) : List Tok → Bool
  | [t] => ownName t && eqS (raw t) x
  | _ => false
def tells (x : ByteArray) : Bool := tellsL x (scan x.data.toList).toks
theorem isName_fine {t : Tok} (hg : Fine t) (h : ownName t = true) : isName (raw t) = true := by
  unfold ownName at h
  simp only [Bool.and_eq_true, beq_iff_eq] at h
  obtain ⟨h1, h2, h3⟩ := hg.word h.2
  have hsz : 1 ≤ (raw t).size := by
    rw [raw_size]
    have := hg.ne
    cases hl : t.text with
    | nil => exact absurd hl this
    | cons b r => simp
  unfold isName
  rw [raw_list]
  have hl : ltrI ((t.text.headD 0).toNat : Int) = true := h2
  have ha : t.text.all (fun c => insI (c.toNat : Int)) = true := h3
  rw [hl, ha, decide_eq_true ⟨hsz, by rw [raw_size]; exact h1⟩, h.1]
  rfl
theorem run_all {l : List UInt8} (h : l.all insB = true) : run insB l = l.length := by
  apply run_eq
  · intro j hj _
    exact List.all_eq_true.1 h _ (List.getElem_mem hj)
  · exact .inl rfl
theorem scan_name {x : ByteArray} (h : isName x = true) : scan x.data.toList = .ok [⟨1, x.data.toList, 0⟩] := by
  unfold isName at h
  simp only [Bool.and_eq_true, decide_eq_true_eq] at h
  obtain ⟨⟨⟨⟨h1, h16⟩, hl⟩, ha⟩, _⟩ := h
  have hlen : x.data.toList.length = x.size := lexs.len_L x
  unfold scan
  rw [if_neg (by omega)]
  cases hx : x.data.toList with
  | nil => rw [hx] at hlen; simp at hlen; omega
  | cons b r =>
    rw [hx] at hl ha hlen
    have hlb : ltrB b = true := hl
    have hrun : run insB (b :: r) = (b :: r).length := run_all ha
    have hb32 : (b == 32 || b == 10) = false := by
      cases hb : (b == 32 || b == 10) with
      | false => rfl
      | true =>
        simp only [Bool.or_eq_true, beq_iff_eq] at hb
        rcases hb with rfl | rfl <;> simp [ltrB, ltrI] at hlb
    have hb35 : (b == 35) = false := by
      cases hb : (b == 35) with
      | false => rfl
      | true =>
        simp only [beq_iff_eq] at hb
        subst hb
        simp [ltrB, ltrI] at hlb
    have hs : stepL (b :: r) = .tok 1 (b :: r).length := by
      rw [stepL, List.headD_cons, stepB, hb32, hb35, hlb, hrun]
      simp only [Bool.false_eq_true, if_false, if_true]
      rw [if_neg (by omega)]
    rw [List.length_cons] at hs ⊢
    rw [scanL_tok hs]
    rw [List.drop_eq_nil_of_le (by simp), scanL_end, List.take_of_length_le (by simp)]
    rfl
theorem tells_eq (x : ByteArray) : tells x = isName x := by
  unfold tells
  cases hn : isName x with
  | true =>
    rw [scan_name hn]
    show (ownName _ && eqS _ x) = true
    have e : raw ⟨1, x.data.toList, 0⟩ = x := bytes_ext rfl
    rw [e]
    unfold ownName
    rw [e]
    unfold isName at hn
    simp only [Bool.and_eq_true] at hn
    rw [hn.2, eqS_iff.2 rfl]
    rfl
  | false =>
    cases hs : scan x.data.toList with
    | err c p => rfl
    | ok l =>
      show tellsL x l = false
      match l, hs with
      | [], _ => rfl
      | [t], hs =>
        show (ownName t && eqS (raw t) x) = false
        cases ho : ownName t with
        | false => rfl
        | true =>
          cases he : eqS (raw t) x with
          | false => rfl
          | true =>
            have h1 := isName_fine (scan_fine hs t (by simp)) ho
            rw [eqS_iff.1 he, hn] at h1
            cases h1
      | _ :: _ :: _, _ => rfl
end Go.Proofs.YtchhpinmoagkhaaGreatDoor.face
namespace Go.Proofs.YtchhpinmoagkhaaGreatDoor.face
open Go.RowKit
open Go.Proofs.YtchhpinmoagkhaaGreatDoor.lexs (Tok scan cellsOf tok_cells own_shape scan_own HasErr Scans)
open Go.Proofs.YtchhpinmoagkhaaGreatDoor.syn (isName reserved eqS empty)
set_option linter.unusedVariables false
set_option linter.unusedSimpArgs false
set_option maxRecDepth 100000

theorem eqS_lit (y : ByteArray) (l : List UInt8) : eqS y ⟨l.toArray⟩ = (y.toList == l) := by unfold eqS; rw [ByteArray.toList_eq ⟨l.toArray⟩]
theorem eqS_comm (x y : ByteArray) : eqS x y = eqS y x := by unfold eqS; rw [Bool.eq_iff_iff]; simp only [beq_iff_eq]; exact eq_comm
theorem reserved_any (x : ByteArray) : (reserved.any fun y => eqS y x) = ((x.toList == [100, 111]) || (x.toList == [101, 108, 115, 101]) || (x.toList == [103, 105, 118, 101, 115]) || (x.toList == [104, 105, 103, 104]) || (x.toList == [105, 102]) || (x.toList == [105, 109, 112, 111, 114, 116]) || (x.toList == [105, 110]) || (x.toList == [108, 111, 119]) || (x.toList == [109, 111, 100, 117, 108, 101]) || (x.toList == [111, 117, 116]) || (x.toList == [112, 114, 111, 99]) || (x.toList == [112, 117, 98]) || (x.toList == [114, 101, 116, 117, 114, 110]) || (x.toList == [119, 104, 105, 108, 101])) := by
  have h : (reserved.any fun y => eqS y x) = (reserved.any fun y => eqS x y) := by
    rw [Bool.eq_iff_iff, List.any_eq_true, List.any_eq_true]
    constructor
    · rintro ⟨y, h1, h2⟩; exact ⟨y, h1, by rw [eqS_comm]; exact h2⟩
    · rintro ⟨y, h1, h2⟩; exact ⟨y, h1, by rw [eqS_comm]; exact h2⟩
  rw [h]
  unfold reserved
  simp only [List.any_cons, List.any_nil, Bool.or_false]
  rw [show eqS x ⟨#[100, 111]⟩ = (x.toList == [100, 111]) from eqS_lit x [100, 111], show eqS x ⟨#[101, 108, 115, 101]⟩ = (x.toList == [101, 108, 115, 101]) from eqS_lit x [101, 108, 115, 101], show eqS x ⟨#[103, 105, 118, 101, 115]⟩ = (x.toList == [103, 105, 118, 101, 115]) from eqS_lit x [103, 105, 118, 101, 115], show eqS x ⟨#[104, 105, 103, 104]⟩ = (x.toList == [104, 105, 103, 104]) from eqS_lit x [104, 105, 103, 104], show eqS x ⟨#[105, 102]⟩ = (x.toList == [105, 102]) from eqS_lit x [105, 102], show eqS x ⟨#[105, 109, 112, 111, 114, 116]⟩ = (x.toList == [105, 109, 112, 111, 114, 116]) from eqS_lit x [105, 109, 112, 111, 114, 116], show eqS x ⟨#[105, 110]⟩ = (x.toList == [105, 110]) from eqS_lit x [105, 110], show eqS x ⟨#[108, 111, 119]⟩ = (x.toList == [108, 111, 119]) from eqS_lit x [108, 111, 119], show eqS x ⟨#[109, 111, 100, 117, 108, 101]⟩ = (x.toList == [109, 111, 100, 117, 108, 101]) from eqS_lit x [109, 111, 100, 117, 108, 101], show eqS x ⟨#[111, 117, 116]⟩ = (x.toList == [111, 117, 116]) from eqS_lit x [111, 117, 116], show eqS x ⟨#[112, 114, 111, 99]⟩ = (x.toList == [112, 114, 111, 99]) from eqS_lit x [112, 114, 111, 99], show eqS x ⟨#[112, 117, 98]⟩ = (x.toList == [112, 117, 98]) from eqS_lit x [112, 117, 98], show eqS x ⟨#[114, 101, 116, 117, 114, 110]⟩ = (x.toList == [114, 101, 116, 117, 114, 110]) from eqS_lit x [114, 101, 116, 117, 114, 110], show eqS x ⟨#[119, 104, 105, 108, 101]⟩ = (x.toList == [119, 104, 105, 108, 101]) from eqS_lit x [119, 104, 105, 108, 101]]
  simp only [Bool.or_assoc]
theorem oisName (k a : Int) (x : ByteArray) (w : World) :
    Calls Tryz.prog 84 #[.agg #[.int .i64 k, .string x, .int .i64 a]] w fun e w' => e = .returned (.bool (!(reserved.any fun y => eqS y x) && k == 1)) ∧ Below w.heap.size w w' := by
  have c29 : Tryz.prog.cellsOf 58 = 3 := by kernel_rfl
  rw [reserved_any]
  cases h0 : (x.toList == [100, 111])
  case true =>
    simp only [Bool.true_or, Bool.or_true, Bool.false_or, Bool.not_true, Bool.false_and]
    go_enter Tryz.func84, Tryz.ntmps84
    go_wp2
    go_ret
    exact ⟨rfl, (Below.refl _ _).alloc (Nat.le_refl _) _⟩
  cases h1 : (x.toList == [101, 108, 115, 101])
  case true =>
    simp only [Bool.true_or, Bool.or_true, Bool.false_or, Bool.not_true, Bool.false_and]
    go_enter Tryz.func84, Tryz.ntmps84
    go_wp2
    go_ret
    exact ⟨rfl, (Below.refl _ _).alloc (Nat.le_refl _) _⟩
  cases h2 : (x.toList == [103, 105, 118, 101, 115])
  case true =>
    simp only [Bool.true_or, Bool.or_true, Bool.false_or, Bool.not_true, Bool.false_and]
    go_enter Tryz.func84, Tryz.ntmps84
    go_wp2
    go_ret
    exact ⟨rfl, (Below.refl _ _).alloc (Nat.le_refl _) _⟩
  cases h3 : (x.toList == [104, 105, 103, 104])
  case true =>
    simp only [Bool.true_or, Bool.or_true, Bool.false_or, Bool.not_true, Bool.false_and]
    go_enter Tryz.func84, Tryz.ntmps84
    go_wp2
    go_ret
    exact ⟨rfl, (Below.refl _ _).alloc (Nat.le_refl _) _⟩
  cases h4 : (x.toList == [105, 102])
  case true =>
    simp only [Bool.true_or, Bool.or_true, Bool.false_or, Bool.not_true, Bool.false_and]
    go_enter Tryz.func84, Tryz.ntmps84
    go_wp2
    go_ret
    exact ⟨rfl, (Below.refl _ _).alloc (Nat.le_refl _) _⟩
  cases h5 : (x.toList == [105, 109, 112, 111, 114, 116])
  case true =>
    simp only [Bool.true_or, Bool.or_true, Bool.false_or, Bool.not_true, Bool.false_and]
    go_enter Tryz.func84, Tryz.ntmps84
    go_wp2
    go_ret
    exact ⟨rfl, (Below.refl _ _).alloc (Nat.le_refl _) _⟩
  cases h6 : (x.toList == [105, 110])
  case true =>
    simp only [Bool.true_or, Bool.or_true, Bool.false_or, Bool.not_true, Bool.false_and]
    go_enter Tryz.func84, Tryz.ntmps84
    go_wp2
    go_ret
    exact ⟨rfl, (Below.refl _ _).alloc (Nat.le_refl _) _⟩
  cases h7 : (x.toList == [108, 111, 119])
  case true =>
    simp only [Bool.true_or, Bool.or_true, Bool.false_or, Bool.not_true, Bool.false_and]
    go_enter Tryz.func84, Tryz.ntmps84
    go_wp2
    go_ret
    exact ⟨rfl, (Below.refl _ _).alloc (Nat.le_refl _) _⟩
  cases h8 : (x.toList == [109, 111, 100, 117, 108, 101])
  case true =>
    simp only [Bool.true_or, Bool.or_true, Bool.false_or, Bool.not_true, Bool.false_and]
    go_enter Tryz.func84, Tryz.ntmps84
    go_wp2
    go_ret
    exact ⟨rfl, (Below.refl _ _).alloc (Nat.le_refl _) _⟩
  cases h9 : (x.toList == [111, 117, 116])
  case true =>
    simp only [Bool.true_or, Bool.or_true, Bool.false_or, Bool.not_true, Bool.false_and]
    go_enter Tryz.func84, Tryz.ntmps84
    go_wp2
    go_ret
    exact ⟨rfl, (Below.refl _ _).alloc (Nat.le_refl _) _⟩
  cases h10 : (x.toList == [112, 114, 111, 99])
  case true =>
    simp only [Bool.true_or, Bool.or_true, Bool.false_or, Bool.not_true, Bool.false_and]
    go_enter Tryz.func84, Tryz.ntmps84
    go_wp2
    go_ret
    exact ⟨rfl, (Below.refl _ _).alloc (Nat.le_refl _) _⟩
  cases h11 : (x.toList == [112, 117, 98])
  case true =>
    simp only [Bool.true_or, Bool.or_true, Bool.false_or, Bool.not_true, Bool.false_and]
    go_enter Tryz.func84, Tryz.ntmps84
    go_wp2
    go_ret
    exact ⟨rfl, (Below.refl _ _).alloc (Nat.le_refl _) _⟩
  cases h12 : (x.toList == [114, 101, 116, 117, 114, 110])
  case true =>
    simp only [Bool.true_or, Bool.or_true, Bool.false_or, Bool.not_true, Bool.false_and]
    go_enter Tryz.func84, Tryz.ntmps84
    go_wp2
    go_ret
    exact ⟨rfl, (Below.refl _ _).alloc (Nat.le_refl _) _⟩
  cases h13 : (x.toList == [119, 104, 105, 108, 101])
  case true =>
    simp only [Bool.true_or, Bool.or_true, Bool.false_or, Bool.not_true, Bool.false_and]
    go_enter Tryz.func84, Tryz.ntmps84
    go_wp2
    go_ret
    exact ⟨rfl, (Below.refl _ _).alloc (Nat.le_refl _) _⟩
  simp only [Bool.or_false, Bool.not_false, Bool.true_and]
  go_enter Tryz.func84, Tryz.ntmps84
  go_wp2
  go_ret
  exact ⟨rfl, (Below.refl _ _).alloc (Nat.le_refl _) _⟩
theorem cell_alloc {w : World} {a : Addr} {v : Value} (h : w.cell? a = some v) (ob : Obj) : (w.alloc ob).cell? a = some v := by
  rw [((Below.refl _ _).alloc (Nat.le_refl _) ob).cell (World.block_lt_of_cell? w a h)]; exact h
set_option maxHeartbeats 1000000 in
theorem oName (x : ByteArray) (w : World) (hw : HasErr w) :
    Calls Tryz.prog 37 #[.string x] w fun e w' => e = .returned (.bool (isName x)) ∧ Below w.heap.size w w' := by
  have c29 : Tryz.prog.cellsOf 58 = 3 := by kernel_rfl
  rw [← tells_eq]
  have hS := scan_own x w hw
  obtain ⟨V, hV⟩ : ∃ V, V = tells x := ⟨_, rfl⟩
  rw [← hV]
  have HV : Hid (V = tells x) := hV
  clear hV
  generalize hR : (scan x.data.toList) = R at hS
  have HR : Hid (scan x.data.toList = R) := hR
  clear hR
  generalize hL : R.toks = L at hS
  have HL : Hid (R.toks = L) := hL
  clear hL
  generalize R.code = C, R.place = P at hS
  match L, HL, hS with
  | [], HL, hS =>
    have HF : Hid (V = false) := by show _ = _; rw [HV.out]; unfold tells; rw [HR.out, HL.out]; rfl
    go_enter Tryz.func37, Tryz.ntmps37
    go_wp2_with (go_at_call 19; refine hS.mono ?_; rintro e w1 ⟨v, rfl, hown, hb⟩; obtain ⟨a, c, rfl, _, _⟩ := own_shape hown)
    go_ret
    exact ⟨by rw [HF.out]; rfl, hb.alloc hb.size _⟩
  | [t], HL, hS =>
    have HF : Hid (V = (ownName t && eqS (raw t) x)) := by show _ = _; rw [HV.out]; unfold tells; rw [HR.out, HL.out]; rfl
    cases ho : (!(reserved.any fun y => eqS y (raw t)) && t.kind == 1)
    · have HG : Hid (V = false) := by show _ = _; rw [HF.out]; unfold ownName; rw [ho]; rfl
      go_enter Tryz.func37, Tryz.ntmps37
      go_wp2_with first
        | (go_at_call 19; refine hS.mono ?_; rintro e w1 ⟨v, rfl, hown, hb⟩; obtain ⟨a, c, rfl, _, hg⟩ := own_shape hown; obtain ⟨g, rfl⟩ := hg (by simp); obtain ⟨q0, q1, q2⟩ := tok_cells hown (k := 0) (by simp); simp only [Nat.zero_mul, Nat.zero_add, List.getElem_cons_zero] at q0 q1 q2; have r0 := fun (ob : Obj) => cell_alloc q0 ob; have r1 := fun (ob : Obj) => cell_alloc q1 ob; have r2 := fun (ob : Obj) => cell_alloc q2 ob)
        | (go_at_call 84; refine (oisName _ _ _ _).mono ?_; rw [show (⟨t.text.toArray⟩ : ByteArray) = raw t from rfl, ho]; rintro e w2 ⟨rfl, hb2⟩)
      go_ret
      exact ⟨by rw [HG.out]; rfl, lexs.below_next hb hb2⟩
    · cases he : ((raw t).toList == x.toList)
      all_goals
        have HG : Hid (V = ((raw t).toList == x.toList)) := by show _ = _; rw [HF.out]; show ((!(reserved.any fun y => eqS y (raw t)) && t.kind == 1) && eqS (raw t) x) = _; rw [ho]; rfl
        rw [he] at HG
        go_enter Tryz.func37, Tryz.ntmps37
        go_wp2_with first
          | (go_at_call 19; refine hS.mono ?_; rintro e w1 ⟨v, rfl, hown, hb⟩; obtain ⟨a, c, rfl, _, hg⟩ := own_shape hown; obtain ⟨g, rfl⟩ := hg (by simp); obtain ⟨q0, q1, q2⟩ := tok_cells hown (k := 0) (by simp); simp only [Nat.zero_mul, Nat.zero_add, List.getElem_cons_zero] at q0 q1 q2; rw [show (⟨t.text.toArray⟩ : ByteArray) = raw t from rfl] at q1; have hgl := World.block_lt_of_cell? _ _ q1; have r0 := fun (ob : Obj) => cell_alloc q0 ob; have r1 := fun (ob : Obj) => cell_alloc q1 ob; have r2 := fun (ob : Obj) => cell_alloc q2 ob)
          | (go_at_call 84; refine (oisName _ _ _ _).mono ?_; rw [ho]; rintro e w2 ⟨rfl, hb2⟩; have q3 := (hb2.cell (p := ⟨g, 1, none⟩) (by rw [World.size_alloc]; show g < _; have : g < w1.heap.size := hgl; omega)); rw [r1] at q3)
        go_ret
        exact ⟨by rw [HG.out]; rfl, lexs.below_next hb hb2⟩
  | t :: t' :: r, HL, hS =>
    have HF : Hid (V = false) := by show _ = _; rw [HV.out]; unfold tells; rw [HR.out, HL.out]; rfl
    go_enter Tryz.func37, Tryz.ntmps37
    go_wp2_with (go_at_call 19; refine hS.mono ?_; rintro e w1 ⟨v, rfl, hown, hb⟩; obtain ⟨a, c, rfl, _, _⟩ := own_shape hown)
    go_ret
    exact ⟨by rw [HF.out]; rfl, hb.alloc hb.size _⟩
end Go.Proofs.YtchhpinmoagkhaaGreatDoor.face
namespace Go.Proofs.YtchhpinmoagkhaaGreatDoor.face
open Go.RowKit
open Go.Proofs.YtchhpinmoagkhaaGreatDoor.lexs (HasErr)
open Go.Proofs.YtchhpinmoagkhaaGreatDoor.syn (isName eqS)
set_option linter.unusedVariables false
set_option linter.unusedSimpArgs false
set_option maxRecDepth 100000

theorem oLabel (n : Int) (w : World) : Calls Tryz.prog 85 #[.int .i64 n] w fun e w' => e = .returned (.bool (labelB n)) ∧ w' = w := by
  unfold labelB
  cases h0 : (n == 0)
  · cases h1 : (n == 1)
    all_goals
      go_enter Tryz.func85, Tryz.ntmps85
      go_wp2
      go_ret
      exact ⟨rfl, rfl⟩
  · go_enter Tryz.func85, Tryz.ntmps85
    go_wp2
    go_ret
    exact ⟨rfl, rfl⟩
theorem HasErr.below {w w' : World} (h : HasErr w) (hb : Below w.heap.size w w') : HasErr w' := by
  obtain ⟨v, hc, hv⟩ := h
  exact ⟨v, keep hc hb, hv⟩
theorem box_cell {w w2 : World} {cs : Array Value} {T : TypeId} (hb : Below (w.alloc (.cells cs T)).heap.size (w.alloc (.cells cs T)) w2) (k : Nat) : w2.cell? ⟨w.heap.size, k, none⟩ = cs[k]? := by
  rw [hb.cell (p := ⟨w.heap.size, k, none⟩) (by simp)]
  simp
set_option maxHeartbeats 1000000 in
theorem oMayVar (v : VarD) (w : World) (hw : HasErr w) :
    Calls Tryz.prog 38 #[varV v] w fun e w' => e = .returned (.bool (mayVarB v)) ∧ Below w.heap.size w w' := by
  have c4 : Tryz.prog.cellsOf 45 = 4 := cell4
  obtain ⟨x, p, l, z⟩ := v
  unfold varV
  have hB := (Below.refl w.heap.size w).alloc (Nat.le_refl _) (.cells #[.string x, .bool p, .int .i64 l, .int .i64 z] 45)
  have hN := oName x _ (HasErr.below hw hB)
  obtain ⟨V, hV⟩ : ∃ V, V = mayVarB ⟨x, p, l, z⟩ := ⟨_, rfl⟩
  rw [← hV]
  have HV : Hid (V = (isName x && (p && (labelB l && (decide (0 ≤ z) && decide (z ≤ 64)))))) := hV
  clear hV
  cases hn : isName x
  case false =>
    have HF : Hid (V = false) := by show _ = _; rw [HV.out, hn]; rfl
    go_enter Tryz.func38, Tryz.ntmps38
    go_wp2_with (go_at_call 37; refine hN.mono ?_; rw [hn]; rintro e w2 ⟨rfl, hb2⟩)
    go_ret
    exact ⟨ret_b HF.out.symm, hB.trans (hb2.mono (by simp))⟩
  cases hp : p
  case false =>
    subst hp
    have HF : Hid (V = false) := by show _ = _; rw [HV.out, hn]; rfl
    go_enter Tryz.func38, Tryz.ntmps38
    go_wp2_with (go_at_call 37; refine hN.mono ?_; rw [hn]; rintro e w2 ⟨rfl, hb2⟩; have q1 : w2.cell? ⟨w.heap.size, 1, none⟩ = some (.bool false) := box_cell hb2 1)
    go_ret
    exact ⟨ret_b HF.out.symm, hB.trans (hb2.mono (by simp))⟩
  subst hp
  cases hl : labelB l
  case false =>
    have HF : Hid (V = false) := by show _ = _; rw [HV.out, hn, hl]; rfl
    go_enter Tryz.func38, Tryz.ntmps38
    go_wp2_with first
      | (go_at_call 37; refine hN.mono ?_; rw [hn]; rintro e w2 ⟨rfl, hb2⟩; have q1 : w2.cell? ⟨w.heap.size, 1, none⟩ = some (.bool true) := box_cell hb2 1; have q2 : w2.cell? ⟨w.heap.size, 2, none⟩ = some (.int .i64 l) := box_cell hb2 2)
      | (go_at_call 85; refine (oLabel _ _).mono ?_; rw [hl]; rintro e w3 ⟨rfl, hw3⟩; obtain rfl := hw3.symm)
    go_ret
    exact ⟨ret_b HF.out.symm, hB.trans (hb2.mono (by simp))⟩
  by_cases h0 : 0 ≤ z
  · by_cases h64 : z ≤ 64
    all_goals
      have HF : Hid (V = decide (z ≤ 64)) := by show _ = _; rw [HV.out, hn, hl, decide_eq_true h0]; rfl
      go_enter Tryz.func38, Tryz.ntmps38
      go_wp2_with first
        | (go_at_call 37; refine hN.mono ?_; rw [hn]; rintro e w2 ⟨rfl, hb2⟩; have q1 : w2.cell? ⟨w.heap.size, 1, none⟩ = some (.bool true) := box_cell hb2 1; have q2 : w2.cell? ⟨w.heap.size, 2, none⟩ = some (.int .i64 l) := box_cell hb2 2; have q3 : w2.cell? ⟨w.heap.size, 3, none⟩ = some (.int .i64 z) := box_cell hb2 3)
        | (go_at_call 85; refine (oLabel _ _).mono ?_; rw [hl]; rintro e w3 ⟨rfl, hw3⟩; obtain rfl := hw3.symm)
      go_ret
      exact ⟨ret_b (by rw [HF.out] <;> simp [h64]), hB.trans (hb2.mono (by simp))⟩
  · have HF : Hid (V = false) := by show _ = _; rw [HV.out, hn, hl, decide_eq_false h0]; rfl
    go_enter Tryz.func38, Tryz.ntmps38
    go_wp2_with first
      | (go_at_call 37; refine hN.mono ?_; rw [hn]; rintro e w2 ⟨rfl, hb2⟩; have q1 : w2.cell? ⟨w.heap.size, 1, none⟩ = some (.bool true) := box_cell hb2 1; have q2 : w2.cell? ⟨w.heap.size, 2, none⟩ = some (.int .i64 l) := box_cell hb2 2; have q3 : w2.cell? ⟨w.heap.size, 3, none⟩ = some (.int .i64 z) := box_cell hb2 3)
      | (go_at_call 85; refine (oLabel _ _).mono ?_; rw [hl]; rintro e w3 ⟨rfl, hw3⟩; obtain rfl := hw3.symm)
    go_ret
    exact ⟨ret_b HF.out.symm, hB.trans (hb2.mono (by simp))⟩
/-! slices.Equal of numbers -/
set_option maxHeartbeats 1000000 in
theorem oEqInts (l m : List Int) (u v : Value) (w : World) (hu : IntsIn w u l) (hv : IntsIn w v m) :
    Calls Tryz.prog 86 #[u, v] w fun e w' => e = .returned (.bool (l == m)) ∧ Below w.heap.size w w' := by
  rw [ints_all2]
  obtain ⟨V, hV⟩ : ∃ V, V = all2 (fun a b => a == b) l m := ⟨_, rfl⟩
  rw [← hV]
  have HV : Hid (V = all2 (fun a b => a == b) l m) := hV
  clear hV
  obtain ⟨a, c, rfl, hl, hk⟩ := hu
  obtain ⟨b, d, rfl, hl2, hk2⟩ := hv
  by_cases hlen : l.length = m.length
  case neg =>
    have HF : Hid (V = false) := HV.out.trans (all2_len hlen)
    go_enter Tryz.func86, Tryz.ntmps86
    go_wp2
    go_ret
    exact ⟨ret_b HF.out.symm, Below.refl _ _⟩
  rw [← hlen]
  go_enter Tryz.func86, Tryz.ntmps86
  go_wp2
  go_loopw [13] (fun t wr => ∃ j : Nat, j ≤ l.length ∧ t = .int .i64 j ∧ Below w.heap.size w wr ∧ Hid (∀ i (h : i < l.length) (h2 : i < m.length), i < j → (l[i] == m[i]) = true)) (fun t _ => l.length - (intOf t).toNat)
  case atStart => exact ⟨0, Nat.zero_le _, rfl, Below.refl _ _, fun i _ _ h => by omega⟩
  case round =>
    obtain ⟨j, hj, rfl, hbr, HN⟩ := hrel
    by_cases hlt : j < l.length
    · have hlt2 : j < m.length := by omega
      obtain ⟨g, o, rfl, hc⟩ := hk (by intro e; rw [e] at hlt; simp at hlt)
      obtain ⟨g', o', rfl, hc'⟩ := hk2 (by intro e; rw [e] at hlt2; simp at hlt2)
      have q := keep (hc j hlt) hbr
      have q' := keep (hc' j hlt2) hbr
      cases he : (l[j] == m[j])
      · have HF : Hid (V = false) := HV.out.trans (all2_no j hlt hlt2 he)
        generalize l[j] = y at he q
        generalize m[j] = y' at he q'
        go_wp2
        go_region
        all_goals
          go_wp2
          go_ret
          exact ⟨ret_b HF.out.symm, hbr.drew⟩
      · have HE : Hid ((l[j] == m[j]) = true) := he
        generalize l[j] = y at he q
        generalize m[j] = y' at he q'
        go_wp2
        go_region
        all_goals
          go_wp2
          go_roundw
          case rel => exact ⟨j + 1, by omega, by go_num, hbr.drew, fun i h h2 h1 => by
            rcases Nat.lt_or_ge i j with h3 | h3
            · exact HN.out i h h2 h3
            · have : i = j := by omega
              subst this
              exact HE.out⟩
          case measure => simp [intOf]; omega
    · have HF : Hid (V = true) := HV.out.trans (all2_yes hlen (fun i h h2 => HN.out i h h2 (by omega)))
      go_wp2
      go_ret
      exact ⟨ret_b HF.out.symm, hbr⟩
end Go.Proofs.YtchhpinmoagkhaaGreatDoor.face
