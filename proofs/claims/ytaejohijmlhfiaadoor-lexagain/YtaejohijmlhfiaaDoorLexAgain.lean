/- The law LexAgain, once the program's Scan answers what the document says. -/
import Derived.Test.YtaejohijmlhfiaaDoorProg
import Derived.WalkKit
import Derived.WalkLawsBesides
import Derived.Outline
import Derived.WalkSmall
import Derived.BigQuiet
import Derived.Deep.QuietTactic
import Derived.Test.YtaejohijmlhfiaaDoorLexTells
import Derived.Test.YtaejohijmlhfiaaDoorLexMath
namespace Go.Proofs.YtaejohijmlhfiaaDoor.lexs
open Go.RowKit
set_option linter.unusedVariables false

/-- what a scan answers, its answer written out -/
theorem Scans.is {H : World → Prop} {F : Nat} {s : ByteArray} (h : Scans H F s) {R : Res} (hR : scan s.data.toList = R) (w : World) (hw : H w) : Calls Tryd.prog F #[.string s] w fun e w' => ∃ v, e = .returned (.tuple #[v, .agg #[.int .i64 R.code, .int .i64 R.place]]) ∧
      w'.ownsRow w.heap.size 29 3 v R.toks.length (cellsOf R.toks) ∧ Below w.heap.size w w' := by
  rw [← hR]; exact h w hw

set_option maxRecDepth 100000 in
set_option maxHeartbeats 1000000 in
theorem lexAgain_walk {H : World → Prop} (hkeep : ∀ {w w' : World}, H w → Below w.heap.size w w' → H w') (s : ByteArray) (hc : ∀ s, Scans H 5 s) (w : World) (hw : H w) :
    Calls Tryd.prog 4 #[.string s] w fun e w' => e = .returned (.bool true) ∧ Below w.heap.size w w' := by
  have c29 : Tryd.prog.cellsOf 29 = 3 := by kernel_rfl
  have hA : ∀ w : World, H w → Calls Tryd.prog 5 #[.string ⟨#[97]⟩] w fun e w' => ∃ v, e = .returned (.tuple #[v, .agg #[.int .i64 0, .int .i64 0]]) ∧
      w'.ownsRow w.heap.size 29 3 v 1 (cellsOf [⟨1, [97], 0⟩]) ∧ Below w.heap.size w w' := (hc ⟨#[97]⟩).is scan_a
  by_cases hl : (1000 : Int) < (s.size : Int)
  · go_enter Tryd.func4, Tryd.ntmps4
    go_wp2_with (go_at_call 5; refine (hA _ hw).mono ?_; rintro e w1 ⟨v1, rfl, ho1, hb1⟩; obtain ⟨a1, cp1, rfl, hm1, hg1⟩ := own_shape ho1)
    go_ret
    exact ⟨rfl, hb1.alloc hb1.size _⟩
  · cases hR : scan s.data.toList with
    | err c p =>
      have hT := (hc s).is hR
      have hne : (c == 0) = false := by have := scan_err_ne hR; simpa using this
      simp only [Res.code, Res.place, Res.toks] at hT
      clear hR
      go_enter Tryd.func4, Tryd.ntmps4
      go_wp2_with fail
      refine (hA _ hw).mono ?_
      rintro e w1 ⟨v1, rfl, ho1, hb1⟩
      obtain ⟨a1, cp1, rfl, hm1, hg1⟩ := own_shape ho1
      go_wp2_with fail
      refine (hT _ (hkeep hw (hb1.alloc hb1.size _))).mono ?_
      rintro e w2 ⟨v2, rfl, ho2, hb2⟩
      obtain ⟨a2, cp2, rfl, hm2, hg2⟩ := own_shape ho2
      go_wp2
      go_ret
      exact ⟨rfl, (below_next hb1 hb2).alloc (below_next hb1 hb2).size _⟩
    | ok toks =>
      have hT := (hc s).is hR
      simp only [Res.code, Res.place, Res.toks] at hT
      go_enter Tryd.func4, Tryd.ntmps4
      go_wp2_with fail
      refine (hA _ hw).mono ?_
      rintro e w1 ⟨v1, rfl, ho1, hb1⟩
      obtain ⟨a1, cp1, rfl, hm1, hg1⟩ := own_shape ho1
      go_wp2_with fail
      refine (hT _ (hkeep hw (hb1.alloc hb1.size _))).mono ?_
      rintro e w2 ⟨v2, rfl, ho2, hb2⟩
      obtain ⟨a2, cp2, rfl, hm2, hg2⟩ := own_shape ho2
      go_wp2
      obtain ⟨hfl, toks', hS, hkt⟩ := lex_again _ _ hR (by rw [len_L]; omega)
      have hlen : toks'.length = toks.length := by have := congrArg List.length hkt; simpa using this
      have hflat : Hid ((flat toks).length ≤ 2 * s.size) := by rw [len_L] at hfl; exact hfl
      have HS : Hid (scan (flat toks) = .ok toks') := hS
      have HK : Hid (toks'.map kt = toks.map kt) := hkt
      have HL : Hid (toks'.length = toks.length) := hlen
      clear hfl hS hkt hlen hR hT hA
      go_loop [7, 8] (fun t i => ∃ (k : Nat) (b : ByteArray), k ≤ toks.length ∧ i = .int .i64 k ∧ t = .string b ∧ Hid (b.data.toList = flat (toks.take k))) (fun _ i => toks.length - (intOf i).toNat)
      case atStart => exact ⟨0, ⟨#[]⟩, Nat.zero_le _, rfl, rfl, by show _ = _; rfl⟩
      case round =>
        obtain ⟨k, b, hk, rfl, rfl, HB⟩ := hrel
        by_cases hlt : k < toks.length
        · obtain ⟨g2, rfl⟩ := hg2 (by omega)
          obtain ⟨y0, y1, y2⟩ := tok_cells (ho2.alloc (.cells #[.int .i64 0, .int .i64 0] 25)) hlt
          have HT : Hid (flat (toks.take (k + 1)) = flat (toks.take k) ++ toks[k].text ++ [32]) := by
            show _ = _
            rw [List.take_succ_eq_append_getElem hlt, flat_snoc]
          generalize toks[k].text = tx at *
          have hbd : b.size + tx.length + 1 ≤ 2000 := by
            have h1 := flat_take_le toks (k + 1)
            rw [HT.out, List.length_append, List.length_append, ← HB.out, len_L] at h1
            have h2 := hflat.out
            simp only [List.length_cons, List.length_nil] at h1
            omega
          go_wp2
          go_round
          case rel => exact ⟨k + 1, _, by omega, by go_num, rfl, by show _ = _; rw [HT.out, ← HB.out]; simp⟩
          case measure => simp [intOf]; omega
        · have hke : k = toks.length := by omega
          subst hke
          have HF : Hid (b.data.toList = flat toks) := by have h := HB.out; rw [List.take_of_length_le (Nat.le_refl _)] at h; exact h
          have hM := (hc b).is (R := .ok toks') (by rw [HF.out]; exact HS.out)
          simp only [Res.code, Res.place, Res.toks] at hM
          rw [HL.out] at hM
          go_wp2_with fail
          refine (hM _ (hkeep hw ((below_next hb1 hb2).alloc (below_next hb1 hb2).size _))).mono ?_
          rintro e w3 ⟨v3, rfl, ho3, hb3⟩
          obtain ⟨a3, cp3, rfl, hm3, hg3⟩ := own_shape ho3
          obtain ⟨q0, q1, hB2⟩ := boxes' hb3
          go_wp2
          go_loopw [11] (fun i wr => ∃ k : Nat, k ≤ toks.length ∧ i = .int .i64 k ∧ Below w3.heap.size w3 wr) (fun i _ => toks.length - (intOf i).toNat)
          case atStart => exact ⟨0, Nat.zero_le _, rfl, (Below.refl _ _).alloc (Nat.le_refl _) _⟩
          case round =>
            obtain ⟨k, hk', rfl, hbr⟩ := hrel
            by_cases hlt2 : k < toks.length
            · obtain ⟨g2, rfl⟩ := hg2 (by omega)
              obtain ⟨g3, rfl⟩ := hg3 (by omega)
              obtain ⟨y0, y1, y2⟩ := tok_cells (own_below (own_below (ho2.alloc _) hb3) hbr) hlt2
              have hlt3 : k < toks'.length := by have := HL.out; omega
              obtain ⟨z0, z1, z2⟩ := tok_cells (own_below ho3 hbr) hlt3
              have he : kt toks'[k] = kt toks[k] := by
                have h1 := congrArg (fun l => l[k]?) HK.out
                simp only [List.getElem?_map, List.getElem?_eq_getElem hlt2, List.getElem?_eq_getElem hlt3, Option.map_some, Option.some.injEq] at h1
                exact h1
              unfold kt at he
              rw [Prod.mk.injEq] at he
              rw [he.1] at z0
              rw [he.2] at z1
              clear he z2 y2
              generalize toks[k].kind = tk at *
              generalize toks[k].text = tx at *
              go_wp2
              go_quiet (fail)
              go_wp2
              go_roundw
              case rel => exact ⟨k + 1, by omega, by go_num, below_drewN hbr _⟩
              case measure => simp [intOf]; omega
            · go_wp2
              go_ret
              exact ⟨rfl, below_last (below_next (below_next hb1 hb2) hb3) hbr⟩
end Go.Proofs.YtaejohijmlhfiaaDoor.lexs
