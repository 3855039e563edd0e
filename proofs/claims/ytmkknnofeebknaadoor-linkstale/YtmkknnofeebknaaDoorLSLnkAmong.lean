/- What IsOrderAmong answers: a contract. -/
import Derived.Test.YtmkknnofeebknaaDoorLSLnkRow
namespace Go.Proofs.YtmkknnofeebknaaDoor.lnk
open Go.RowKit
open Go.Proofs.YtmkknnofeebknaaDoor.mac (BoxC Ins hasB goB grown_of_below)
open Go.Proofs.YtmkknnofeebknaaDoor.face (ret_b)
set_option linter.unusedVariables false
set_option linter.unusedSimpArgs false
set_option maxRecDepth 100000
def amongB (x : Ins) (n : Int) : Bool := hasB x && (!goB x.op || (decide (0 ≤ x.n) && decide (x.n < n)))
set_option maxHeartbeats 1000000 in
theorem oAmong (x : Ins) (n : Int) (w : World) :
    Calls Tryd.prog 24 #[.agg #[.int .i64 x.op, .int .i64 x.a, .int .i64 x.b, .int .i64 x.c, .int .i64 x.n], .int .i64 n] w fun e w' => e = .returned (.bool (amongB x n)) ∧ Below w.heap.size w w' := by
  have c5 : Tryd.prog.cellsOf 67 = 5 := by kernel_rfl
  have hA := (Below.refl w.heap.size w).alloc (Nat.le_refl _) (.cells #[.int .i64 x.op, .int .i64 x.a, .int .i64 x.b, .int .i64 x.c, .int .i64 x.n] 67)
  have hbx := BoxC.new w #[.int .i64 x.op, .int .i64 x.a, .int .i64 x.b, .int .i64 x.c, .int .i64 x.n] 67
  have hC := mac.oHas' x.op x.a x.b x.c x.n (w.alloc (.cells #[.int .i64 x.op, .int .i64 x.a, .int .i64 x.b, .int .i64 x.c, .int .i64 x.n] 67))
  obtain ⟨V, hV⟩ : ∃ V, V = amongB x n := ⟨_, rfl⟩
  rw [← hV]
  replace hV : Hid (V = (hasB x && (!goB x.op || (decide (0 ≤ x.n) && decide (x.n < n))))) := hV
  cases hh : hasB x
  · have HF : Hid (V = false) := by show _ = _; rw [hV.out, hh]; rfl
    rw [show hasB ⟨x.op, x.a, x.b, x.c, x.n⟩ = false from hh] at hC
    go_enter Tryd.func24, Tryd.ntmps24
    go_wp2_with (fail)
    refine hC.mono ?_
    rintro e w2 ⟨rfl, hb2⟩
    go_wp2
    go_ret
    exact ⟨ret_b HF.out.symm, hA.trans (hb2.mono hA.size)⟩
  · rw [show hasB ⟨x.op, x.a, x.b, x.c, x.n⟩ = true from hh] at hC
    have HV : Hid (V = (!goB x.op || (decide (0 ≤ x.n) && decide (x.n < n)))) := by show _ = _; rw [hV.out, hh]; rfl
    obtain ⟨op, xa, xb, xc, xn⟩ := x
    dsimp only at *
    clear hV hh
    have hgo : Hid (goB op = (decide (op = 8) || decide (op = 9) || decide (op = 11))) := rfl
    by_cases h8 : op = 8 ∨ op = 9 ∨ op = 11
    · have hg : goB op = true := by rw [hgo.out]; rcases h8 with h | h | h <;> simp [h]
      by_cases h0 : 0 ≤ xn
      · by_cases h1 : xn < n
        · have HF : Hid (V = true) := by show _ = _; rw [HV.out, hg, decide_eq_true h0, decide_eq_true h1]; rfl
          clear HV hgo hg
          rcases h8 with rfl | rfl | rfl <;>
          · go_enter Tryd.func24, Tryd.ntmps24
            go_wp2_with (fail)
            refine hC.mono ?_
            rintro e w2 ⟨rfl, hb2⟩
            have y0 := (hbx.below hb2).cell 0 rfl
            have y4 := (hbx.below hb2).cell 4 rfl
            go_wp2
            go_ret
            exact ⟨ret_b HF.out.symm, hA.trans (hb2.mono hA.size)⟩
        · have HF : Hid (V = decide (xn < n)) := by show _ = _; rw [HV.out, hg, decide_eq_true h0]; rfl
          clear HV hgo hg
          rcases h8 with rfl | rfl | rfl <;>
          · go_enter Tryd.func24, Tryd.ntmps24
            go_wp2_with (fail)
            refine hC.mono ?_
            rintro e w2 ⟨rfl, hb2⟩
            have y0 := (hbx.below hb2).cell 0 rfl
            have y4 := (hbx.below hb2).cell 4 rfl
            go_wp2
            go_ret
            exact ⟨ret_b HF.out.symm, hA.trans (hb2.mono hA.size)⟩
      · have HF : Hid (V = false) := by show _ = _; rw [HV.out, hg, decide_eq_false h0]; rfl
        clear HV hgo hg
        rcases h8 with rfl | rfl | rfl <;>
        · go_enter Tryd.func24, Tryd.ntmps24
          go_wp2_with (fail)
          refine hC.mono ?_
          rintro e w2 ⟨rfl, hb2⟩
          have y0 := (hbx.below hb2).cell 0 rfl
          have y4 := (hbx.below hb2).cell 4 rfl
          go_wp2
          go_ret
          exact ⟨ret_b HF.out.symm, hA.trans (hb2.mono hA.size)⟩
    · have h81 : (op == 8) = false := by simp; omega
      have h91 : (op == 9) = false := by simp; omega
      have h111 : (op == 11) = false := by simp; omega
      have HF : Hid (V = true) := by show _ = _; rw [HV.out, hgo.out, decide_eq_false (by omega), decide_eq_false (by omega), decide_eq_false (by omega)]; rfl
      clear HV hgo h8
      go_enter Tryd.func24, Tryd.ntmps24
      go_wp2_with (fail)
      refine hC.mono ?_
      rintro e w2 ⟨rfl, hb2⟩
      have y0 := (hbx.below hb2).cell 0 rfl
      have y4 := (hbx.below hb2).cell 4 rfl
      go_wp2
      go_ret
      exact ⟨ret_b HF.out.symm, hA.trans (hb2.mono hA.size)⟩
end Go.Proofs.YtmkknnofeebknaaDoor.lnk
