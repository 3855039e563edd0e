/- What the program's judgeNumber and judge answer: contracts. -/
import Derived.Test.YthfeojjfehbgjaaGreatDoorProg
import Derived.WalkKit
import Derived.WalkLawsBesides
import Derived.Outline
import Derived.WalkSmall
import Derived.BigQuiet
import Derived.Deep.QuietTactic
import Derived.Test.YthfeojjfehbgjaaGreatDoorOGLexSpec
import Derived.Test.YthfeojjfehbgjaaGreatDoorOGLexOwnB
namespace Go.Proofs.YthfeojjfehbgjaaGreatDoor.lexs
open Go.RowKit
set_option linter.unusedVariables false

/-- the library's variable ErrRange holds an interface's value -/
def HasErr (w : World) : Prop := ∃ ev, w.cell? ⟨Tryz.laysPI_ren.g 16, 0, none⟩ = some ev ∧ (ev = .nilIface ∨ ∃ te pe, ev = .iface te pe)
theorem hasErr_below {w w' : World} (h : HasErr w) (hb : Below w.heap.size w w') : HasErr w' := by
  obtain ⟨ev, h1, h2⟩ := h
  have hlt : Tryz.laysPI_ren.g 16 < w.heap.size := by
    rcases Nat.lt_or_ge (Tryz.laysPI_ren.g 16) w.heap.size with h | h
    · exact h
    · exfalso
      simp only [World.cell?] at h1
      rw [Array.getElem?_eq_none h] at h1
      simp at h1
  exact ⟨ev, by rw [hb.cell (p := ⟨Tryz.laysPI_ren.g 16, 0, none⟩) hlt]; exact h1, h2⟩
theorem parse_ok (x : ByteArray) (hs : x.size ≤ 3000) (h : x.data.toList.all digB = true) (h0 : x.data.toList ≠ []) (hv : val x.data.toList < 9223372036854775808) (w : World) :
    Calls Tryz.prog 116 #[.string x, .int .i64 10, .int .i64 64] w fun e w' => e = .returned (.tuple #[.int .i64 (val x.data.toList : Int), .nilIface]) ∧ Below w.heap.size w w' := by
  refine (Any.strconv_ParseInt_10_at64_ok Tryz.laysPI x (by omega) _ (by rw [parse_all _ h h0, if_pos hv]) w).mono ?_
  rintro e w' ⟨rfl, rfl | ⟨t, rfl⟩⟩
  · exact ⟨rfl, Below.refl _ _⟩
  · exact ⟨rfl, Lib.bytesWorld_below _ _ _⟩
theorem parse_range (x : ByteArray) (hs : x.size ≤ 3000) (h : x.data.toList.all digB = true) (h0 : x.data.toList ≠ []) (hv : ¬ val x.data.toList < 9223372036854775808) (w : World) (he : HasErr w) :
    Calls Tryz.prog 116 #[.string x, .int .i64 10, .int .i64 64] w fun e w' => ∃ i T N, e = .returned (.tuple #[.int .i64 i, .iface T (.pointer (some ⟨N, 0, none⟩))]) ∧ Below w.heap.size w w' := by
  obtain ⟨ev, h1, h2⟩ := he
  refine (Any.strconv_ParseInt_10_at64_range Tryz.laysPI x (by omega) (by rw [parse_all _ h h0, if_neg hv]) ev w h1 h2).mono ?_
  rintro e w' ⟨N, rfl, _, _, hb⟩
  exact ⟨_, _, N, rfl, hb⟩
theorem stops_all {x : ByteArray} {j : Nat} (h : Stops digB x 0 j) (hj : j = x.size) : x.data.toList.all digB = true := by
  rw [List.all_eq_true]
  intro c hc
  obtain ⟨k, hk, rfl⟩ := List.mem_iff_getElem.1 hc
  rw [len_L] at hk
  exact h.all k hk (by omega) (by omega)
theorem ne_nil {x : ByteArray} (h : 0 < x.size) : x.data.toList ≠ [] := by intro e; have := len_L x; rw [e] at this; simp at this; omega
set_option maxRecDepth 100000 in
theorem judgeNumber_any (x : ByteArray) (hs : x.size ≤ 3000) (h0 : 0 < x.size) (w : World) (he : HasErr w) :
    Calls Tryz.prog 113 #[.string x] w fun e w' => e = .returned (.int .i64 (numE x.data.toList)) ∧ Below w.heap.size w w' := by
  go_enter Tryz.func113, Tryz.ntmps113
  go_wp2_with (fail)
  refine (reach_digit x 0 hs (by omega) _).mono ?_
  rintro e w' ⟨j, rfl, hj, hw⟩
  obtain rfl := hw.symm
  have hjt := hj.top
  by_cases hlt : j < x.size
  · have HE : Hid (2 = numE x.data.toList) := by
      rcases hj.stop with h | ⟨h, hd⟩
      · omega
      · exact num_bad x j h hd
    clear hj
    go_wp2
    go_ret
    exact ⟨ret_i64 HE.out, Below.refl _ _⟩
  · have hje : j = x.size := by omega
    have ha := stops_all hj hje
    clear hj
    subst hje
    have hh := headL x h0
    cases hz : (decide (1 < x.data.toList.length) && x.data.toList.headD 0 == 48)
    · have HN := numE_val _ ha (ne_nil h0) hz
      rw [len_L, hh, ← byte_is _ 48 48 rfl] at hz
      by_cases hv : val x.data.toList < 9223372036854775808
      · rw [if_pos hv] at HN
        have HN' : Hid (numE x.data.toList = 0) := HN
        have HV : Hid (val x.data.toList < 9223372036854775808) := hv
        have HA : Hid (x.data.toList.all digB = true) := ha
        clear HN hv ha
        by_cases h1 : 1 < x.size
        · have hb : ((x[0].toNat : Int) == 48) = false := by simpa [h1] using hz
          clear hz hh
          go_wp2_with (go_at_call 116; refine (parse_ok x hs HA.out (ne_nil h0) HV.out _).mono ?_; rintro e w1 ⟨rfl, hb1⟩)
          go_ret
          exact ⟨ret_i64 HN'.out.symm, hb1⟩
        · clear hz hh
          go_wp2_with (go_at_call 116; refine (parse_ok x hs HA.out (ne_nil h0) HV.out _).mono ?_; rintro e w1 ⟨rfl, hb1⟩)
          go_ret
          exact ⟨ret_i64 HN'.out.symm, hb1⟩
      · rw [if_neg hv] at HN
        have HN' : Hid (numE x.data.toList = 6) := HN
        have HV : Hid (¬ val x.data.toList < 9223372036854775808) := hv
        have HA : Hid (x.data.toList.all digB = true) := ha
        clear HN hv ha
        by_cases h1 : 1 < x.size
        · have hb : ((x[0].toNat : Int) == 48) = false := by simpa [h1] using hz
          clear hz hh
          go_wp2_with (go_at_call 116; refine (parse_range x hs HA.out (ne_nil h0) HV.out _ he).mono ?_; rintro e w1 ⟨i1, T1, N1, rfl, hb1⟩)
          go_ret
          exact ⟨ret_i64 HN'.out.symm, hb1⟩
        · clear hz hh
          go_wp2_with (go_at_call 116; refine (parse_range x hs HA.out (ne_nil h0) HV.out _ he).mono ?_; rintro e w1 ⟨i1, T1, N1, rfl, hb1⟩)
          go_ret
          exact ⟨ret_i64 HN'.out.symm, hb1⟩
    · have HN : Hid (numE x.data.toList = 2) := by
        show _ = _
        rw [numE, if_neg (by simp [ha]), if_pos hz]
      rw [len_L, hh, ← byte_is _ 48 48 rfl, Bool.and_eq_true] at hz
      have h1 : 1 < x.size := by simpa using hz.1
      have hb := hz.2
      clear hz hh ha
      go_wp2
      go_ret
      exact ⟨ret_i64 HN.out.symm, Below.refl _ _⟩
def signs : ByteArray := ⟨#[123, 125, 40, 41, 91, 93, 59, 44, 46, 61, 60, 43, 45, 42, 47, 37, 38, 124, 33]⟩
theorem index_signs (b : UInt8) : decide (Lib.indexByte signs.data.toList ((b.toNat : Int)).toNat.toUInt8 ≥ 0) = ones.contains b := by
  have e : ((b.toNat : Int)).toNat.toUInt8 = b := by simp
  rw [e, has_index]
  rfl
theorem judge_word (x : ByteArray) (hs : x.size ≤ 3000) (h0 : 0 < x.size) (w : World) (hl : ltrI (x[0].toNat : Int) = true) (h16 : x.size ≤ 16) :
    Calls Tryz.prog 94 #[.string x] w fun e w' => e = .returned (.tuple #[.int .i64 1, .int .i64 0]) ∧ Below w.heap.size w w' := by
  go_enter Tryz.func94, Tryz.ntmps94
  go_wp2_with (go_at_call 109; refine (oletter _ _).mono ?_; rintro e w' ⟨rfl, hw⟩; obtain rfl := hw.symm)
  exact bodyPost_ret (v := .tuple #[.int .i64 1, .int .i64 0]) (by simp [results, Tryz.results94, go_sem]) rfl ⟨rfl, Below.refl _ _⟩
theorem judge_long (x : ByteArray) (hs : x.size ≤ 3000) (h0 : 0 < x.size) (w : World) (hl : ltrI (x[0].toNat : Int) = true) (h16 : 16 < x.size) :
    Calls Tryz.prog 94 #[.string x] w fun e w' => e = .returned (.tuple #[.int .i64 0, .int .i64 1]) ∧ Below w.heap.size w w' := by
  go_enter Tryz.func94, Tryz.ntmps94
  go_wp2_with (go_at_call 109; refine (oletter _ _).mono ?_; rintro e w' ⟨rfl, hw⟩; obtain rfl := hw.symm)
  exact bodyPost_ret (v := .tuple #[.int .i64 0, .int .i64 1]) (by simp [results, Tryz.results94, go_sem]) rfl ⟨rfl, Below.refl _ _⟩
theorem judge_num (x : ByteArray) (hs : x.size ≤ 3000) (h0 : 0 < x.size) (w : World) (he : HasErr w) (hl : ltrI (x[0].toNat : Int) = false) (hd : digI (x[0].toNat : Int) = true) :
    Calls Tryz.prog 94 #[.string x] w fun e w' => e = .returned (.tuple #[.int .i64 2, .int .i64 (numE x.data.toList)]) ∧ Below w.heap.size w w' := by
  go_enter Tryz.func94, Tryz.ntmps94
  go_wp2_with (first
    | (go_at_call 109; refine (oletter _ _).mono ?_; rintro e w' ⟨rfl, hw⟩; obtain rfl := hw.symm)
    | (go_at_call 110; refine (odigit _ _).mono ?_; rintro e w' ⟨rfl, hw⟩; obtain rfl := hw.symm)
    | (go_at_call 113; refine (judgeNumber_any x hs h0 _ he).mono ?_; rintro e w1 ⟨rfl, hb1⟩))
  exact bodyPost_ret (v := .tuple #[.int .i64 2, .int .i64 (numE x.data.toList)]) (by simp [results, Tryz.results94, go_sem]) rfl ⟨rfl, hb1⟩
theorem judge_sign (x : ByteArray) (hs : x.size ≤ 3000) (h0 : 0 < x.size) (w : World) (hl : ltrI (x[0].toNat : Int) = false) (hd : digI (x[0].toNat : Int) = false) (hc : ones.contains x[0] = true) :
    Calls Tryz.prog 94 #[.string x] w fun e w' => e = .returned (.tuple #[.int .i64 3, .int .i64 0]) ∧ Below w.heap.size w w' := by
  have hi : Lib.indexByte signs.data.toList ((x[0].toNat : Int)).toNat.toUInt8 ≥ 0 := of_decide_eq_true (by rw [index_signs, hc])
  obtain ⟨I, hI⟩ : ∃ I, I = Lib.indexByte signs.data.toList ((x[0].toNat : Int)).toNat.toUInt8 := ⟨_, rfl⟩
  have hx := index_any signs (x[0].toNat : Int)
  rw [← hI] at hi hx
  clear hI hc
  go_enter Tryz.func94, Tryz.ntmps94
  go_wp2_with (first
    | (go_at_call 109; refine (oletter _ _).mono ?_; rintro e w' ⟨rfl, hw⟩; obtain rfl := hw.symm)
    | (go_at_call 110; refine (odigit _ _).mono ?_; rintro e w' ⟨rfl, hw⟩; obtain rfl := hw.symm)
    | (go_at_call 114; refine (hx _).mono ?_; rintro e w' ⟨rfl, hw⟩; obtain rfl := hw.symm))
  exact bodyPost_ret (v := .tuple #[.int .i64 3, .int .i64 0]) (by simp [results, Tryz.results94, go_sem]) rfl ⟨rfl, Below.refl _ _⟩
theorem judge_none (x : ByteArray) (hs : x.size ≤ 3000) (h0 : 0 < x.size) (w : World) (hl : ltrI (x[0].toNat : Int) = false) (hd : digI (x[0].toNat : Int) = false) (hc : ones.contains x[0] = false) :
    Calls Tryz.prog 94 #[.string x] w fun e w' => e = .returned (.tuple #[.int .i64 0, .int .i64 2]) ∧ Below w.heap.size w w' := by
  have hi : ¬ Lib.indexByte signs.data.toList ((x[0].toNat : Int)).toNat.toUInt8 ≥ 0 := of_decide_eq_false (by rw [index_signs, hc])
  obtain ⟨I, hI⟩ : ∃ I, I = Lib.indexByte signs.data.toList ((x[0].toNat : Int)).toNat.toUInt8 := ⟨_, rfl⟩
  have hx := index_any signs (x[0].toNat : Int)
  rw [← hI] at hi hx
  clear hI hc
  go_enter Tryz.func94, Tryz.ntmps94
  go_wp2_with (first
    | (go_at_call 109; refine (oletter _ _).mono ?_; rintro e w' ⟨rfl, hw⟩; obtain rfl := hw.symm)
    | (go_at_call 110; refine (odigit _ _).mono ?_; rintro e w' ⟨rfl, hw⟩; obtain rfl := hw.symm)
    | (go_at_call 114; refine (hx _).mono ?_; rintro e w' ⟨rfl, hw⟩; obtain rfl := hw.symm))
  exact bodyPost_ret (v := .tuple #[.int .i64 0, .int .i64 2]) (by simp [results, Tryz.results94, go_sem]) rfl ⟨rfl, Below.refl _ _⟩
end Go.Proofs.YthfeojjfehbgjaaGreatDoor.lexs
