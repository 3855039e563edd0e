/- What the linker's place answers: a contract. -/
import Derived.Test.YtaiocbbcjdpjgaaGreatDoorLMLnkMapN
namespace Go.Proofs.YtaiocbbcjdpjgaaGreatDoor.lnk
open Go.RowKit Go.Maps Go.WideMaps
open Go.Proofs.YtaiocbbcjdpjgaaGreatDoor.syn (isName eqS)
open Go.Proofs.YtaiocbbcjdpjgaaGreatDoor.mac (BoxC Ins grown_of_below)
open Go.Proofs.YtaiocbbcjdpjgaaGreatDoor.ord (tkd putd)
open Go.Proofs.YtaiocbbcjdpjgaaGreatDoor.obj (ObjD PlcD RelD Vals ObjAt PlcsIn)
open Go.Proofs.YtaiocbbcjdpjgaaGreatDoor.face (VarD ProcD FaceD keep)
set_option linter.unusedVariables false
set_option linter.unusedSimpArgs false
set_option maxRecDepth 100000
def placeF (kind : Int) (m : ByteArray) (begin : Int) : (Thg → Option Int) → List PlcD → Thg → Option Int
  | f, [] => f
  | f, q :: r => placeF kind m begin (putT f ⟨kind, m, q.name⟩ (begin + q.at')) r
theorem placeF_snoc (kind : Int) (m : ByteArray) (begin : Int) : ∀ (l : List PlcD) (f : Thg → Option Int) (q : PlcD), placeF kind m begin f (l ++ [q]) = putT (placeF kind m begin f l) ⟨kind, m, q.name⟩ (begin + q.at')
  | [], _, _ => rfl
  | x :: l, f, q => placeF_snoc kind m begin l _ q
theorem wf4 {k : Int} (h : 1 ≤ k ∧ k ≤ 4) : (Lit.int .i64 k).wf = true := by
  have e1 : IntKind.i64.min = -9223372036854775808 := by decide
  have e2 : IntKind.i64.max = 9223372036854775807 := by decide
  simp only [Lit.wf, e1, e2, Bool.and_eq_true, decide_eq_true_eq]
  omega
set_option maxHeartbeats 2000000 in
theorem oPlace {w0 w : World} {p : Pl} {s : St} {cv : Value} {nm nb : Nat} (h : LS w p s cv nm nb) (hB : Below p.N w0 w) (hN : w0.heap.size = p.N) (kind : Int) (m : ByteArray) (l : List PlcD) (u : Value) (begin : Int) (hu : PlcsIn w0 u l)
    (hk : 1 ≤ kind ∧ kind ≤ 4) (hm : m.size ≤ 16) (hl : ∀ q ∈ l, q.name.size ≤ 16 ∧ 0 ≤ q.at' ∧ q.at' ≤ 20000) (hb : 0 ≤ begin ∧ begin ≤ 1000000) (hnb : nb ≤ 562949953421312) :
    Calls Tryz.prog 119 #[.pointer (some ⟨p.K, 0, none⟩), .int .i64 kind, .string m, u, .int .i64 begin] w fun e w' => e = .returned (.tuple #[]) ∧ LS w' p { s with begs := placeF kind m begin s.begs l } cv nm (nb + l.length) ∧ w.grownBy w' (some p.bb) := by
  have c2 : Tryz.prog.cellsOf 103 = 2 := by kernel_rfl
  obtain ⟨a, c, rfl, hlen, hc⟩ := hu
  have hbbN := h.n3
  go_enter Tryz.func119, Tryz.ntmps119
  go_wp2
  go_loopw [14] (fun t wr => ∃ j : Nat, j ≤ l.length ∧ t = .int .i64 j ∧ LS wr p { s with begs := placeF kind m begin s.begs (l.take j) } cv nm (nb + j) ∧ w.grownBy wr (some p.bb)) (fun t _ => l.length - (intOf t).toNat)
  case atStart => exact ⟨0, Nat.zero_le _, rfl, h, ⟨rfl, rfl, rfl, Nat.le_refl _, fun _ _ _ => rfl⟩⟩
  case round =>
    clear h
    obtain ⟨j, hj, rfl, hI, hG⟩ := hrel
    by_cases hlt : j < l.length
    · obtain ⟨g, o, rfl, hcc⟩ := hc (by intro e; rw [e] at hlt; simp at hlt)
      have hBr : Below p.N w0 wr := hB.grown hG (by have := hI.n1; have := hB.size; omega) (fun k e => by cases e; exact hbbN)
      obtain ⟨k0, k1⟩ := hcc j hlt
      rw [← hN] at hBr
      replace k0 := keep k0 hBr
      replace k1 := keep k1 hBr
      obtain ⟨q1, q2, q3⟩ := hl l[j] (List.getElem_mem hlt)
      have HT : Hid (placeF kind m begin s.begs (l.take (j + 1)) = putT (placeF kind m begin s.begs (l.take j)) ⟨kind, m, l[j].name⟩ (begin + l[j].at')) := by
        show _ = _
        rw [List.take_succ_eq_append_getElem hlt, placeF_snoc]
      clear hcc hc hl
      generalize l[j] = x at *
      obtain ⟨xn, xa⟩ := x
      dsimp only at k0 k1 HT q1 q2 q3
      have hok : Thg.ok ⟨kind, m, xn⟩ := ⟨wf4 hk, by unfold maxLen; dsimp only; omega, by unfold maxLen; dsimp only; omega⟩
      have hwr : IntKind.i64.wrap (begin + xa) = begin + xa := by rw [IntKind.wrap_i64]; omega
      have hI2 := hI.alloc (.cells #[.string xn, .int .i64 xa] 103)
      have hbx := BoxC.new wr #[.string xn, .int .i64 xa] 103
      have hGz : w.grownBy (wr.alloc (.cells #[.string xn, .int .i64 xa] 103)) (some p.bb) := ⟨hG.os, hG.tape, hG.output, by have := hG.size; simp; omega, fun k hk1 hk2 => (((Below.refl _ _).alloc (Nat.le_refl _) _).block k (by have := hG.size; omega)).trans (hG.block k hk1 hk2)⟩
      have hsz := hG.size
      have hbbl := hI.bm.lt
      go_wp2
      refine wp_region_held_drew (S := fun W => W.cell? ⟨p.K, 5, none⟩ = some (.map (some p.bb)) ∧ BoxC W wr.heap.size #[.string xn, .int .i64 xa] 103) (by kernel_rfl) ⟨hI2.drew.be, hbx.below (Below.refl _ _).drew⟩ (fun hS => ?_)
      replace hI2 := hI2.drew
      replace hGz : w.grownBy (wr.alloc (.cells #[.string xn, .int .i64 xa] 103)).drew (some p.bb) := ⟨hGz.os, hGz.tape, hGz.output, hGz.size, hGz.block⟩
      generalize (wr.alloc (.cells #[.string xn, .int .i64 xa] 103)).drew = W at hI2 hGz hS ⊢
      generalize wr.heap.size = B at *
      clear hI hG hbx hBr
      refine tkd (i := 0) (v := .pointer (some ⟨p.K, 0, none⟩)) rfl rfl (by kernel_rfl) (by kernel_rfl) (by kernel_rfl) (fun _ _ _ h => h) (Or.inl ⟨by rfl, fun wq hSw => by skip; go_simp⟩) hS ?_
      simp only [List.setIfInBounds_toArray, List.set_cons_zero, List.set_cons_succ]
      refine tkd (i := 1) (v := .pointer (some ⟨p.K, 0, none⟩)) rfl rfl (by kernel_rfl) (by kernel_rfl) (by kernel_rfl) (fun _ _ _ h => h) (Or.inl ⟨by rfl, fun wq hSw => by skip; go_simp⟩) hS ?_
      simp only [List.setIfInBounds_toArray, List.set_cons_zero, List.set_cons_succ]
      refine tkd (i := 2) (v := .pointer (some ⟨p.K, 5, none⟩)) rfl rfl (by kernel_rfl) (by kernel_rfl) (by kernel_rfl) (fun _ _ _ h => h) (Or.inl ⟨by rfl, fun wq hSw => by skip; go_simp⟩) hS ?_
      simp only [List.setIfInBounds_toArray, List.set_cons_zero, List.set_cons_succ]
      refine tkd (i := 3) (v := .map (some p.bb)) rfl rfl (by kernel_rfl) (by kernel_rfl) (by kernel_rfl) (fun _ _ _ h => h) (Or.inl ⟨by rfl, fun wq hSw => by have m := hSw.1; go_simp⟩) hS ?_
      simp only [List.setIfInBounds_toArray, List.set_cons_zero, List.set_cons_succ]
      refine tkd (i := 4) (v := .int .i64 kind) rfl rfl (by kernel_rfl) (by kernel_rfl) (by kernel_rfl) (fun _ _ _ h => h) (Or.inl ⟨by rfl, fun wq hSw => by skip; go_simp⟩) hS ?_
      simp only [List.setIfInBounds_toArray, List.set_cons_zero, List.set_cons_succ]
      refine tkd (i := 5) (v := .string m) rfl rfl (by kernel_rfl) (by kernel_rfl) (by kernel_rfl) (fun _ _ _ h => h) (Or.inl ⟨by rfl, fun wq hSw => by skip; go_simp⟩) hS ?_
      simp only [List.setIfInBounds_toArray, List.set_cons_zero, List.set_cons_succ]
      refine tkd (i := 6) (v := .pointer (some ⟨B, 0, none⟩)) rfl rfl (by kernel_rfl) (by kernel_rfl) (by kernel_rfl) (fun _ _ _ h => h) (Or.inl ⟨by rfl, fun wq hSw => by skip; go_simp⟩) hS ?_
      simp only [List.setIfInBounds_toArray, List.set_cons_zero, List.set_cons_succ]
      refine tkd (i := 7) (v := .string xn) rfl rfl (by kernel_rfl) (by kernel_rfl) (by kernel_rfl) (fun _ _ _ h => h) (Or.inl ⟨by rfl, fun wq hSw => by have m := hSw.2.cell 0 rfl; go_simp⟩) hS ?_
      simp only [List.setIfInBounds_toArray, List.set_cons_zero, List.set_cons_succ]
      refine tkd (i := 8) (v := .agg #[.int .i64 kind, .string m, .string xn] ) rfl rfl (by kernel_rfl) (by kernel_rfl) (by kernel_rfl) (fun _ _ _ h => h) (Or.inl ⟨by rfl, fun wq hSw => by skip; go_simp⟩) hS ?_
      simp only [List.setIfInBounds_toArray, List.set_cons_zero, List.set_cons_succ]
      refine tkd (i := 9) (v := .int .i64 begin) rfl rfl (by kernel_rfl) (by kernel_rfl) (by kernel_rfl) (fun _ _ _ h => h) (Or.inl ⟨by rfl, fun wq hSw => by skip; go_simp⟩) hS ?_
      simp only [List.setIfInBounds_toArray, List.set_cons_zero, List.set_cons_succ]
      refine tkd (i := 10) (v := .pointer (some ⟨B, 1, none⟩)) rfl rfl (by kernel_rfl) (by kernel_rfl) (by kernel_rfl) (fun _ _ _ h => h) (Or.inl ⟨by rfl, fun wq hSw => by skip; go_simp⟩) hS ?_
      simp only [List.setIfInBounds_toArray, List.set_cons_zero, List.set_cons_succ]
      refine tkd (i := 11) (v := .int .i64 xa) rfl rfl (by kernel_rfl) (by kernel_rfl) (by kernel_rfl) (fun _ _ _ h => h) (Or.inl ⟨by rfl, fun wq hSw => by have m := hSw.2.cell 1 rfl; go_simp⟩) hS ?_
      simp only [List.setIfInBounds_toArray, List.set_cons_zero, List.set_cons_succ]
      refine tkd (i := 12) (v := .int .i64 (begin + xa)) rfl rfl (by kernel_rfl) (by kernel_rfl) (by kernel_rfl) (fun _ _ _ h => h) (Or.inl ⟨by rfl, fun wq hSw => by have m := hwr; go_simp⟩) hS ?_
      simp only [List.setIfInBounds_toArray, List.set_cons_zero, List.set_cons_succ]
      refine wpAnyH_ready (rs := [13]) (by kernel_rfl) (by simp) ?_
      refine AllReadyH.cons rfl (fun K hK => ?_) AllReadyH.nil
      refine hI2.bm.step_put (by rfl) (.tmp 21) (.tmp 26) (.tmp 30) (by rfl) (by rfl) (by unfold maxLen; omega) ⟨kind, m, xn⟩ hok (by rfl) (begin + xa) (by rfl) ?_
      intro w5 hm5 hg5
      have hI5 := hI2.putB hm5 hg5
      have hG5 : w.grownBy w5 (some p.bb) := ⟨hg5.os.trans hGz.os, hg5.tape.trans hGz.tape, hg5.output.trans hGz.output, Nat.le_trans hGz.size hg5.size, fun k hk1 hk2 => (hg5.block k (by have := hGz.size; omega) hk2).trans (hGz.block k hk1 hk2)⟩
      have hB5 : BoxC w5 B #[.string xn, .int .i64 xa] 103 := hS.2.grown hg5 (fun e => by cases e; omega)
      refine hK.out _ _ ⟨hI5.be, hB5⟩ (fun _ => ?_)
      clear hK K
      refine wpAnyH_done (by kernel_rfl) ?_ _
      go_wp2
      refine ⟨⟨j + 1, by omega, by go_num, ?_, hG5⟩, by simp [intOf]; omega⟩
      rw [HT.out]
      exact hI5
    · obtain rfl : j = l.length := by omega
      rw [List.take_length] at hI
      go_wp2
      go_end0
      exact ⟨rfl, hI, hG⟩
end Go.Proofs.YtaiocbbcjdpjgaaGreatDoor.lnk
