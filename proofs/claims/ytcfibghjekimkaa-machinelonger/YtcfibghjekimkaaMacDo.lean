/- What do and doAll come to: contracts. -/
import Derived.Test.YtcfibghjekimkaaMacDoA
import Derived.Test.YtcfibghjekimkaaMacDoB
import Derived.Test.YtcfibghjekimkaaMacDoC
import Derived.Deep.LoopGhost
namespace Go.Proofs.Ytcfibghjekimkaa.mac
open Go.RowKit
set_option linter.unusedVariables false
set_option linter.unusedSimpArgs false
set_option maxRecDepth 100000
theorem fld_one {op : Int} (h : (fld op).one = true) : (1 ≤ op ∧ op ≤ 17) ∨ (21 ≤ op ∧ op ≤ 29) := by
  by_cases h1 : 1 ≤ op ∧ op ≤ 17
  · exact .inl h1
  · right
    unfold fld at h
    rw [if_neg (by omega), if_neg (by omega), if_neg (by omega), if_neg (by omega), if_neg (by omega), if_neg (by omega), if_neg (by omega), if_neg (by omega), if_neg (by omega), if_neg (by omega), if_neg (by omega), if_neg (by omega), if_neg (by omega), if_neg (by omega), if_neg (by omega), if_neg (by omega), if_neg (by omega)] at h
    simpa using h
theorem insB_op {many : Nat} {o : Ins} (h : insB many o = true) : (1 ≤ o.op ∧ o.op ≤ 17) ∨ (21 ≤ o.op ∧ o.op ≤ 29) := by
  unfold insB at h
  rw [Bool.and_eq_true] at h
  have h1 := h.1
  unfold hasB at h1
  split at h1
  · cases h1
  · simp only [Bool.and_eq_true] at h1
    exact fld_one h1.1.1.1.1
/-- what holds of a state while an order is done -/
structure Inv1 (iL iH : List Int) (many : Nat) (s : St) : Prop where
  next : s.next ≤ many
  regs : s.regs.length = 8
  uL : s.uL ≤ iL.length
  uH : s.uH ≤ iH.length
  oL : s.oL.length + 1 ≤ s.steps
  oH : s.oH.length + 1 ≤ s.steps
  backs : s.backs.length ≤ 30
  back : ∀ b ∈ s.backs, b ≤ many
theorem Inv.tick {iL iH : List Int} {many : Nat} {s : St} (h : Inv iL iH many s) (hn : s.next < many) : Inv1 iL iH many s.tick :=
  ⟨hn, h.regs, h.uL, h.uH, Nat.succ_le_succ h.oL, Nat.succ_le_succ h.oH, h.backs, h.back⟩
def IG (iL iH : List Int) (many : Nat) (r : Option Nat × St) : Prop := Inv iL iH many r.2
theorem ig_ite {iL iH : List Int} {many : Nat} {c : Prop} [Decidable c] {a b : Option Nat × St} (ha : c → IG iL iH many a) (hb : ¬ c → IG iL iH many b) : IG iL iH many (if c then a else b) := by
  by_cases h : c
  · rw [if_pos h]; exact ha h
  · rw [if_neg h]; exact hb h
section
variable {iL iH : List Int} {many : Nat} {s : St}
theorem Inv1.same (h : Inv1 iL iH many s) : Inv iL iH many s := ⟨h.next, h.regs, h.uL, h.uH, by have := h.oL; omega, by have := h.oH; omega, h.backs, h.back⟩
theorem Inv1.setR (h : Inv1 iL iH many s) (i x : Int) : Inv iL iH many (s.setR i x) := ⟨h.next, by simpa [St.setR] using h.regs, h.uL, h.uH, by have := h.oL; simp [St.setR]; omega, by have := h.oH; simp [St.setR]; omega, h.backs, h.back⟩
theorem lastD_mem : ∀ (l : List Nat) (a : Nat), l.getLastD a = a ∨ l.getLastD a ∈ l
  | [], a => .inl rfl
  | x :: l, a => .inr (by
    rw [List.getLastD_cons]
    rcases lastD_mem l x with h | h
    · rw [h]; simp
    · exact List.mem_cons_of_mem _ h)
theorem doF_inv (h : Inv1 iL iH many s) (o : Ins) (ho : insB many o = true) : Inv iL iH many (doF iL iH o s).2 := by
  obtain ⟨_, _, _, hj⟩ := insB_ok ho
  show IG iL iH many (doF iL iH o s)
  have hS := h.same
  have hs := h.setR
  have e1 := h.oL
  have e2 := h.oH
  unfold doF
  refine ig_ite (fun _ => hs _ _) fun _ => ?_
  refine ig_ite (fun _ => hs _ _) fun _ => ?_
  refine ig_ite (fun _ => hs _ _) fun _ => ?_
  refine ig_ite (fun _ => ig_ite (fun _ => hs _ _) fun _ => hS) fun _ => ?_
  refine ig_ite (fun _ => ig_ite (fun _ => hs _ _) fun _ => hS) fun _ => ?_
  refine ig_ite (fun _ => ig_ite (fun _ => ⟨hS.next, hS.regs, hS.uL, hS.uH, hS.oL, hS.oH, hS.backs, hS.back⟩) fun _ => hS) fun _ => ?_
  refine ig_ite (fun _ => ig_ite (fun _ => ⟨hS.next, hS.regs, hS.uL, hS.uH, hS.oL, hS.oH, hS.backs, hS.back⟩) fun _ => hS) fun _ => ?_
  refine ig_ite (fun h8 => ⟨by have := hj (.inl h8); show o.n.toNat ≤ many; omega, hS.regs, hS.uL, hS.uH, hS.oL, hS.oH, hS.backs, hS.back⟩) fun _ => ?_
  refine ig_ite (fun h9 => ig_ite (fun _ => ⟨by have := hj (.inr (.inl h9)); show o.n.toNat ≤ many; omega, hS.regs, hS.uL, hS.uH, hS.oL, hS.oH, hS.backs, hS.back⟩) fun _ => hS) fun _ => ?_
  refine ig_ite (fun _ => ig_ite (fun _ => hS) fun _ => hS) fun _ => ?_
  refine ig_ite (fun h11 => ig_ite (fun _ => hS) fun h30 => ⟨by have := hj (.inr (.inr h11)); show o.n.toNat ≤ many; omega, hS.regs, hS.uL, hS.uH, hS.oL, hS.oH, by have := hS.backs; show (s.backs ++ [s.next]).length ≤ 30; simp; omega, fun b hb => by
    have hb : b ∈ s.backs ++ [s.next] := hb
    rcases List.mem_append.1 hb with hb | hb
    · exact hS.back b hb
    · obtain rfl : b = s.next := by simpa using hb
      exact hS.next⟩) fun _ => ?_
  refine ig_ite (fun _ => ig_ite (fun _ => hS) fun h0 => ⟨by
    show s.backs.getLastD 0 ≤ many
    rcases lastD_mem s.backs 0 with e | e
    · rw [e]; exact Nat.zero_le _
    · exact hS.back _ e, hS.regs, hS.uL, hS.uH, hS.oL, hS.oH, by have := hS.backs; show s.backs.dropLast.length ≤ 30; simp; omega, fun b hb => hS.back b (List.dropLast_subset _ hb)⟩) fun _ => ?_
  refine ig_ite (fun _ => ⟨hS.next, hS.regs, hS.uL, hS.uH, by show (s.oL ++ [_]).length ≤ s.steps; simp; omega, hS.oH, hS.backs, hS.back⟩) fun _ => ?_
  refine ig_ite (fun _ => ⟨hS.next, hS.regs, hS.uL, hS.uH, hS.oL, by show (s.oH ++ [_]).length ≤ s.steps; simp; omega, hS.backs, hS.back⟩) fun _ => ?_
  refine ig_ite (fun _ => ig_ite (fun _ => hS) fun hu => ⟨hS.next, by simpa [St.setR] using hS.regs, by have := hS.uL; show s.uL + 1 ≤ iL.length; omega, hS.uH, hS.oL, hS.oH, hS.backs, hS.back⟩) fun _ => ?_
  refine ig_ite (fun _ => ig_ite (fun _ => hS) fun hu => ⟨hS.next, by simpa [St.setR] using hS.regs, hS.uL, by have := hS.uH; show s.uH + 1 ≤ iH.length; omega, hS.oL, hS.oH, hS.backs, hS.back⟩) fun _ => ?_
  refine ig_ite (fun _ => hS) fun _ => ?_
  cases opF (o.op - 20) (rd s.regs o.b) (rd s.regs o.c) with
  | none => exact hS
  | some x => exact hs _ _
end
section
variable {p : Pl} {w0 w w' : World} {vs : Fin 5 → Value} {s : St} {iL iH : List Int} {many : Nat}
theorem oDo (h : MS p w0 vs s w) (hI : Inv1 iL iH many s) (h9 : s.steps ≤ 90000) (hL : IntsIn w0 p.il iL) (hH : IntsIn w0 p.ih iH) (hw0 : w0.heap.size ≤ p.N) (hLn : iL.length ≤ 1000) (hHn : iH.length ≤ 1000) (o : Ins) (ho : insB many o = true) :
    Calls Try.prog 17 #[.pointer (some ⟨p.D, 0, none⟩), insV o] w (Act1 p w0 (doF iL iH o s)) := by
  obtain ⟨hA, hB, hC, hj⟩ := insB_ok ho
  have hop := insB_op ho
  clear ho
  obtain ⟨op, a, b, c, n⟩ := o
  dsimp only at hA hB hC hj hop
  obtain ⟨A, rfl⟩ : ∃ A : Nat, a = A := ⟨a.toNat, by omega⟩
  obtain ⟨B, rfl⟩ : ∃ B : Nat, b = B := ⟨b.toNat, by omega⟩
  obtain ⟨C, rfl⟩ : ∃ C : Nat, c = C := ⟨c.toNat, by omega⟩
  have h1 : A < 8 := by omega
  have h2 : B < 8 := by omega
  have h3 : C < 8 := by omega
  have eoL := hI.oL
  have eoH := hI.oH
  unfold insV
  dsimp only
  rcases hop with hop | hop
  · have : op = 1 ∨ op = 2 ∨ op = 3 ∨ op = 4 ∨ op = 5 ∨ op = 6 ∨ op = 7 ∨ op = 8 ∨ op = 9 ∨ op = 10 ∨ op = 11 ∨ op = 12 ∨ op = 13 ∨ op = 14 ∨ op = 15 ∨ op = 16 ∨ op = 17 := by omega
    rcases this with rfl | rfl | rfl | rfl | rfl | rfl | rfl | rfl | rfl | rfl | rfl | rfl | rfl | rfl | rfl | rfl | rfl
    · exact do1 h A B C h1 h2 h3 n
    · exact do2 h A B C h1 h2 h3 n
    · exact do3 h A B C h1 h2 h3 n
    · exact do4 h A B C h1 h2 h3 n
    · exact do5 h A B C h1 h2 h3 n
    · exact do6 h A B C h1 h2 h3 n
    · exact do7 h A B C h1 h2 h3 n
    · have := hj (.inl rfl)
      obtain ⟨m, rfl⟩ : ∃ m : Nat, n = m := ⟨n.toNat, by omega⟩
      exact do8 h A B C h1 h2 h3 m
    · have := hj (.inr (.inl rfl))
      obtain ⟨m, rfl⟩ : ∃ m : Nat, n = m := ⟨n.toNat, by omega⟩
      exact do9 h A B C h1 h2 h3 m
    · exact do10 h A B C h1 h2 h3 n
    · have := hj (.inr (.inr rfl))
      obtain ⟨m, rfl⟩ : ∃ m : Nat, n = m := ⟨n.toNat, by omega⟩
      exact do11 h A B C h1 h2 h3 m hI.backs
    · exact do12 h A B C h1 h2 h3 n hI.backs
    · exact do13 h A B C h1 h2 h3 n (by omega)
    · exact do14 h A B C h1 h2 h3 n (by omega)
    · exact do15 h A B C h1 h2 h3 n hL hw0 hI.uL hLn
    · obtain ⟨la, lc, el, _⟩ := hL
      exact do16 h A B C h1 h2 h3 n la _ lc el hH hw0 hI.uH hHn
    · exact do17 h A B C h1 h2 h3 n
  · have e : doF iL iH ⟨op, A, B, C, n⟩ s = (match opF (op - 20) (s.regs.getD B 0) (s.regs.getD C 0) with | none => (some 2, s) | some x => (none, { s with regs := s.regs.set A x })) := by
      unfold doF
      rw [if_neg (by show ¬ op = _; omega), if_neg (by show ¬ op = _; omega), if_neg (by show ¬ op = _; omega), if_neg (by show ¬ op = _; omega), if_neg (by show ¬ op = _; omega), if_neg (by show ¬ op = _; omega), if_neg (by show ¬ op = _; omega), if_neg (by show ¬ op = _; omega), if_neg (by show ¬ op = _; omega), if_neg (by show ¬ op = _; omega), if_neg (by show ¬ op = _; omega), if_neg (by show ¬ op = _; omega), if_neg (by show ¬ op = _; omega), if_neg (by show ¬ op = _; omega), if_neg (by show ¬ op = _; omega), if_neg (by show ¬ op = _; omega), if_neg (by show ¬ op = _; omega)]
      rfl
    rw [e]
    exact do20 h A B C h1 h2 h3 op n hop.1 hop.2
/-- what doAll comes to -/
def DaE (p : Pl) (w0 : World) (R : Nat × St) (e : Ending) (w' : World) : Prop := e = .panicked (EndP R.1) ∧ ∃ vs', MS p w0 vs' R.2 w'
set_option maxHeartbeats 4000000 in
theorem oDoAll (code : List Ins) (h : MS p w0 vs s w) (hI : Inv iL iH code.length s) (hs : s.steps ≤ p.fuel) (hf : p.fuel ≤ 90000) (hL : IntsIn w0 p.il iL) (hH : IntsIn w0 p.ih iH) (hw0 : w0.heap.size ≤ p.N) (hLn : iL.length ≤ 1000) (hHn : iH.length ≤ 1000) (hcn : code.length ≤ 20000) (hcode : CodeIn w0 p.cv code) (hall : ∀ i (hi : i < code.length), insB code.length code[i] = true) :
    Calls Try.prog 10 #[.pointer (some ⟨p.D, 0, none⟩)] w (DaE p w0 (runF iL iH code (p.fuel - s.steps) s)) := by
  have c46 : Try.prog.cellsOf 46 = 5 := by kernel_rfl
  obtain ⟨ca, cc, ecv, hk⟩ := hcode
  have HD : Hid (∀ (vs : Fin 5 → Value) (s : St) (w : World) (o : Ins), MS p w0 vs s w → Inv1 iL iH code.length s → s.steps ≤ 90000 → insB code.length o = true → Calls Try.prog 17 #[.pointer (some ⟨p.D, 0, none⟩), insV o] w (Act1 p w0 (doF iL iH o s))) := fun vs s w o h hI h9 ho => oDo h hI h9 hL hH hw0 hLn hHn o ho
  clear hL hH hLn hHn
  generalize hR : runF iL iH code (p.fuel - s.steps) s = R
  go_enter Try.func10, Try.ntmps10
  go_wp2
  go_loopg [] (p.fuel - s.steps) (fun k wr => ∃ (vr : Fin 5 → Value) (sr : St), MS p w0 vr sr wr ∧ Hid (Inv iL iH code.length sr) ∧ Hid (sr.steps + k = p.fuel) ∧ Hid (runF iL iH code k sr = R))
  case atStart => exact ⟨vs, s, h, hI, by show _ = _; omega, hR⟩
  case round =>
    clear h hI hR hs
    obtain ⟨vr, sr, hM, HI, HK, HR⟩ := hrel
    by_cases he : sr.next = code.length
    · have HE : Hid (R = (6, sr)) := by
        show _ = _
        rw [← HR.out, runF_end _ _ _ _ he]
      have he' : ((sr.next : Int) == (code.length : Int)) = true := by simp [he]
      have HN : Hid (sr.next = code.length) := he
      clear he hk HD
      have hS := hM.drew
      go_wp2
      refine wp_region_held_drew (S := MS p w0 vr sr) (by kernel_rfl) hS (fun hHeld => ?_)
      clear hHeld hM
      generalize wr.drew = W at *
      refine tkd (i := 0) (v := .pointer (some ⟨p.D, 0, none⟩)) rfl rfl (by kernel_rfl) (by kernel_rfl) (by kernel_rfl) (fun _ _ _ h => h) (Or.inl ⟨by rfl, fun w hSw => by skip; go_simp⟩) hS ?_
      simp only [List.setIfInBounds_toArray, List.set_cons_zero, List.set_cons_succ]
      refine tkd (i := 1) (v := .pointer (some ⟨p.D, 0, none⟩)) rfl rfl (by kernel_rfl) (by kernel_rfl) (by kernel_rfl) (fun _ _ _ h => h) (Or.inl ⟨by rfl, fun w hSw => by skip; go_simp⟩) hS ?_
      simp only [List.setIfInBounds_toArray, List.set_cons_zero, List.set_cons_succ]
      refine tkd (i := 2) (v := .pointer (some ⟨p.D, 10, none⟩)) rfl rfl (by kernel_rfl) (by kernel_rfl) (by kernel_rfl) (fun _ _ _ h => h) (Or.inl ⟨by rfl, fun w hSw => by skip; go_simp⟩) hS ?_
      simp only [List.setIfInBounds_toArray, List.set_cons_zero, List.set_cons_succ]
      refine tkd (i := 3) (v := natV sr.next) rfl rfl (by kernel_rfl) (by kernel_rfl) (by kernel_rfl) (fun _ _ _ h => h) (Or.inl ⟨by rfl, fun w hSw => by obtain ⟨z0, z1, z2, z3, z4, z5, z6, z7, z8, z9, z10⟩ := hSw.cells; go_simp⟩) hS ?_
      simp only [List.setIfInBounds_toArray, List.set_cons_zero, List.set_cons_succ]
      refine tkd (i := 4) (v := .pointer (some ⟨p.D, 0, none⟩)) rfl rfl (by kernel_rfl) (by kernel_rfl) (by kernel_rfl) (fun _ _ _ h => h) (Or.inl ⟨by rfl, fun w hSw => by skip; go_simp⟩) hS ?_
      simp only [List.setIfInBounds_toArray, List.set_cons_zero, List.set_cons_succ]
      refine tkd (i := 5) (v := .pointer (some ⟨p.D, 0, none⟩)) rfl rfl (by kernel_rfl) (by kernel_rfl) (by kernel_rfl) (fun _ _ _ h => h) (Or.inl ⟨by rfl, fun w hSw => by skip; go_simp⟩) hS ?_
      simp only [List.setIfInBounds_toArray, List.set_cons_zero, List.set_cons_succ]
      refine tkd (i := 6) (v := .pointer (some ⟨p.D, 9, none⟩)) rfl rfl (by kernel_rfl) (by kernel_rfl) (by kernel_rfl) (fun _ _ _ h => h) (Or.inl ⟨by rfl, fun w hSw => by skip; go_simp⟩) hS ?_
      simp only [List.setIfInBounds_toArray, List.set_cons_zero, List.set_cons_succ]
      refine tkd (i := 7) (v := .slice ca code.length cc) rfl rfl (by kernel_rfl) (by kernel_rfl) (by kernel_rfl) (fun _ _ _ h => h) (Or.inl ⟨by rfl, fun w hSw => by obtain ⟨z0, z1, z2, z3, z4, z5, z6, z7, z8, z9, z10⟩ := hSw.cells; rw [ecv] at z9 ; go_simp⟩) hS ?_
      simp only [List.setIfInBounds_toArray, List.set_cons_zero, List.set_cons_succ]
      refine tkd (i := 8) (v := natV code.length) rfl rfl (by kernel_rfl) (by kernel_rfl) (by kernel_rfl) (fun _ _ _ h => h) (Or.inl ⟨by rfl, fun w hSw => by skip; go_simp⟩) hS ?_
      simp only [List.setIfInBounds_toArray, List.set_cons_zero, List.set_cons_succ]
      refine tkd (i := 9) (v := .bool true) rfl rfl (by kernel_rfl) (by kernel_rfl) (by kernel_rfl) (fun _ _ _ h => h) (Or.inl ⟨by rfl, fun w hSw => by skip; go_simp⟩) hS ?_
      simp only [List.setIfInBounds_toArray, List.set_cons_zero, List.set_cons_succ]
      refine wpAnyH_done (by kernel_rfl) ?_ _
      clear he'
      go_wp2
      exact ⟨rfl, by rw [HE.out]; exact ⟨rfl, vr, hS⟩⟩
    · have he' : ((sr.next : Int) == (code.length : Int)) = false := by simp; omega
      have HE : Hid (¬ sr.next = code.length) := he
      have HX : Hid (sr.next < code.length) := by have := HI.out.next; show _ < _; omega
      clear he
      have hS := hM.drew
      go_wp2
      refine wp_region_held_drew (S := MS p w0 vr sr) (by kernel_rfl) hS (fun hHeld => ?_)
      clear hHeld hM
      generalize wr.drew = W at *
      refine tkd (i := 0) (v := .pointer (some ⟨p.D, 0, none⟩)) rfl rfl (by kernel_rfl) (by kernel_rfl) (by kernel_rfl) (fun _ _ _ h => h) (Or.inl ⟨by rfl, fun w hSw => by skip; go_simp⟩) hS ?_
      simp only [List.setIfInBounds_toArray, List.set_cons_zero, List.set_cons_succ]
      refine tkd (i := 1) (v := .pointer (some ⟨p.D, 0, none⟩)) rfl rfl (by kernel_rfl) (by kernel_rfl) (by kernel_rfl) (fun _ _ _ h => h) (Or.inl ⟨by rfl, fun w hSw => by skip; go_simp⟩) hS ?_
      simp only [List.setIfInBounds_toArray, List.set_cons_zero, List.set_cons_succ]
      refine tkd (i := 2) (v := .pointer (some ⟨p.D, 10, none⟩)) rfl rfl (by kernel_rfl) (by kernel_rfl) (by kernel_rfl) (fun _ _ _ h => h) (Or.inl ⟨by rfl, fun w hSw => by skip; go_simp⟩) hS ?_
      simp only [List.setIfInBounds_toArray, List.set_cons_zero, List.set_cons_succ]
      refine tkd (i := 3) (v := natV sr.next) rfl rfl (by kernel_rfl) (by kernel_rfl) (by kernel_rfl) (fun _ _ _ h => h) (Or.inl ⟨by rfl, fun w hSw => by obtain ⟨z0, z1, z2, z3, z4, z5, z6, z7, z8, z9, z10⟩ := hSw.cells; go_simp⟩) hS ?_
      simp only [List.setIfInBounds_toArray, List.set_cons_zero, List.set_cons_succ]
      refine tkd (i := 4) (v := .pointer (some ⟨p.D, 0, none⟩)) rfl rfl (by kernel_rfl) (by kernel_rfl) (by kernel_rfl) (fun _ _ _ h => h) (Or.inl ⟨by rfl, fun w hSw => by skip; go_simp⟩) hS ?_
      simp only [List.setIfInBounds_toArray, List.set_cons_zero, List.set_cons_succ]
      refine tkd (i := 5) (v := .pointer (some ⟨p.D, 0, none⟩)) rfl rfl (by kernel_rfl) (by kernel_rfl) (by kernel_rfl) (fun _ _ _ h => h) (Or.inl ⟨by rfl, fun w hSw => by skip; go_simp⟩) hS ?_
      simp only [List.setIfInBounds_toArray, List.set_cons_zero, List.set_cons_succ]
      refine tkd (i := 6) (v := .pointer (some ⟨p.D, 9, none⟩)) rfl rfl (by kernel_rfl) (by kernel_rfl) (by kernel_rfl) (fun _ _ _ h => h) (Or.inl ⟨by rfl, fun w hSw => by skip; go_simp⟩) hS ?_
      simp only [List.setIfInBounds_toArray, List.set_cons_zero, List.set_cons_succ]
      refine tkd (i := 7) (v := .slice ca code.length cc) rfl rfl (by kernel_rfl) (by kernel_rfl) (by kernel_rfl) (fun _ _ _ h => h) (Or.inl ⟨by rfl, fun w hSw => by obtain ⟨z0, z1, z2, z3, z4, z5, z6, z7, z8, z9, z10⟩ := hSw.cells; rw [ecv] at z9 ; go_simp⟩) hS ?_
      simp only [List.setIfInBounds_toArray, List.set_cons_zero, List.set_cons_succ]
      refine tkd (i := 8) (v := natV code.length) rfl rfl (by kernel_rfl) (by kernel_rfl) (by kernel_rfl) (fun _ _ _ h => h) (Or.inl ⟨by rfl, fun w hSw => by skip; go_simp⟩) hS ?_
      simp only [List.setIfInBounds_toArray, List.set_cons_zero, List.set_cons_succ]
      refine tkd (i := 9) (v := .bool false) rfl rfl (by kernel_rfl) (by kernel_rfl) (by kernel_rfl) (fun _ _ _ h => h) (Or.inl ⟨by rfl, fun w hSw => by skip; go_simp⟩) hS ?_
      simp only [List.setIfInBounds_toArray, List.set_cons_zero, List.set_cons_succ]
      refine wpAnyH_done (by kernel_rfl) ?_ _
      have hSt := oStep hS (by have := HK.out; omega)
      by_cases hz : sr.steps = p.fuel
      · rw [if_pos hz] at hSt
        have HZ : Hid (R = (0, sr)) := by
          show _ = _
          have hk0 : gk = 0 := by have := HK.out; omega
          have := HR.out
          rw [hk0] at this
          unfold runF at this
          rw [if_neg HE.out] at this
          exact this.symm
        clear hz he' hk HD
        go_wp2_with (fail)
        refine hSt.mono ?_
        rintro e w1 ⟨vs', hM1, rfl⟩
        go_wp2
        exact ⟨rfl, by rw [HZ.out]; exact ⟨rfl, vs', hM1⟩⟩
      · rw [if_neg hz] at hSt
        obtain ⟨k, rfl⟩ : ∃ k, gk = k + 1 := ⟨gk - 1, by have := HK.out; omega⟩
        obtain ⟨g, o, rfl, hcell⟩ := hk (by intro e; have := HX.out; rw [e] at this; simp at this)
        obtain ⟨q0, q1, q2, q3, q4⟩ := hcell sr.next HX.out
        have HO : Hid (insB code.length code[sr.next] = true) := hall _ HX.out
        have HG : Hid (code.getD sr.next ⟨0, 0, 0, 0, 0⟩ = code[sr.next]) := by show _ = _; rw [List.getD_eq_getElem?_getD, List.getElem?_eq_getElem HX.out]; rfl
        clear hcell hz he'
        generalize hins : code[sr.next]'HX.out = ins at *
        obtain ⟨op, a, b, c, n⟩ := ins
        dsimp only at q0 q1 q2 q3 q4
        clear hk hall
        go_wp2_with (fail)
        refine hSt.mono ?_
        clear hSt hS
        rintro e w1 ⟨vs', hM1, rfl⟩
        have hM1 : MS p w0 vs' { sr with steps := sr.steps + 1 } w1 := hM1
        have hlt : (sr.next : Int) < (code.length : Int) := by have := HX.out; omega
        have hS := hM1.drew
        go_wp2
        refine wp_region_held_drew (S := MS p w0 vs' { sr with steps := sr.steps + 1 }) (by kernel_rfl) hS (fun hHeld => ?_)
        clear hHeld hM1
        generalize w1.drew = W1 at *
        refine tkd (i := 0) (v := .pointer (some ⟨p.D, 0, none⟩)) rfl rfl (by kernel_rfl) (by kernel_rfl) (by kernel_rfl) (fun _ _ _ h => h) (Or.inl ⟨by rfl, fun w hSw => by skip; go_simp⟩) hS ?_
        simp only [List.setIfInBounds_toArray, List.set_cons_zero, List.set_cons_succ]
        refine tkd (i := 1) (v := .pointer (some ⟨p.D, 0, none⟩)) rfl rfl (by kernel_rfl) (by kernel_rfl) (by kernel_rfl) (fun _ _ _ h => h) (Or.inl ⟨by rfl, fun w hSw => by skip; go_simp⟩) hS ?_
        simp only [List.setIfInBounds_toArray, List.set_cons_zero, List.set_cons_succ]
        refine tkd (i := 2) (v := .pointer (some ⟨p.D, 9, none⟩)) rfl rfl (by kernel_rfl) (by kernel_rfl) (by kernel_rfl) (fun _ _ _ h => h) (Or.inl ⟨by rfl, fun w hSw => by skip; go_simp⟩) hS ?_
        simp only [List.setIfInBounds_toArray, List.set_cons_zero, List.set_cons_succ]
        refine tkd (i := 3) (v := .slice (some ⟨g, o, none⟩) code.length cc) rfl rfl (by kernel_rfl) (by kernel_rfl) (by kernel_rfl) (fun _ _ _ h => h) (Or.inl ⟨by rfl, fun w hSw => by obtain ⟨z0, z1, z2, z3, z4, z5, z6, z7, z8, z9, z10⟩ := hSw.cells; rw [ecv] at z9 ; go_simp⟩) hS ?_
        simp only [List.setIfInBounds_toArray, List.set_cons_zero, List.set_cons_succ]
        refine tkd (i := 4) (v := .pointer (some ⟨p.D, 0, none⟩)) rfl rfl (by kernel_rfl) (by kernel_rfl) (by kernel_rfl) (fun _ _ _ h => h) (Or.inl ⟨by rfl, fun w hSw => by skip; go_simp⟩) hS ?_
        simp only [List.setIfInBounds_toArray, List.set_cons_zero, List.set_cons_succ]
        refine tkd (i := 5) (v := .pointer (some ⟨p.D, 0, none⟩)) rfl rfl (by kernel_rfl) (by kernel_rfl) (by kernel_rfl) (fun _ _ _ h => h) (Or.inl ⟨by rfl, fun w hSw => by skip; go_simp⟩) hS ?_
        simp only [List.setIfInBounds_toArray, List.set_cons_zero, List.set_cons_succ]
        refine tkd (i := 6) (v := .pointer (some ⟨p.D, 10, none⟩)) rfl rfl (by kernel_rfl) (by kernel_rfl) (by kernel_rfl) (fun _ _ _ h => h) (Or.inl ⟨by rfl, fun w hSw => by skip; go_simp⟩) hS ?_
        simp only [List.setIfInBounds_toArray, List.set_cons_zero, List.set_cons_succ]
        refine tkd (i := 7) (v := natV sr.next) rfl rfl (by kernel_rfl) (by kernel_rfl) (by kernel_rfl) (fun _ _ _ h => h) (Or.inl ⟨by rfl, fun w hSw => by obtain ⟨z0, z1, z2, z3, z4, z5, z6, z7, z8, z9, z10⟩ := hSw.cells; go_simp⟩) hS ?_
        simp only [List.setIfInBounds_toArray, List.set_cons_zero, List.set_cons_succ]
        refine tkd (i := 8) (v := .pointer (some ⟨g, o + sr.next * 5, none⟩)) rfl rfl (by kernel_rfl) (by kernel_rfl) (by kernel_rfl) (fun _ _ _ h => h) (Or.inl ⟨by rfl, fun w hSw => by skip; go_simp⟩) hS ?_
        simp only [List.setIfInBounds_toArray, List.set_cons_zero, List.set_cons_succ]
        refine tkd (i := 9) (v := .agg #[.int .i64 op, .int .i64 a, .int .i64 b, .int .i64 c, .int .i64 n] ) rfl rfl (by kernel_rfl) (by kernel_rfl) (by kernel_rfl) (fun _ _ _ h => h) (Or.inl ⟨by rfl, fun w hSw => by have z0 := keep q0 (hSw.old.mono hw0); have z1 := keep q1 (hSw.old.mono hw0); have z2 := keep q2 (hSw.old.mono hw0); have z3 := keep q3 (hSw.old.mono hw0); have z4 := keep q4 (hSw.old.mono hw0); go_simp⟩) hS ?_
        simp only [List.setIfInBounds_toArray, List.set_cons_zero, List.set_cons_succ]
        refine wpAnyH_ready (rs := [10]) (by kernel_rfl) (by simp) ?_
        refine AllReadyH.cons rfl (fun KK hK => ?_) AllReadyH.nil
        go_simp
        have hA := hS.below ((Below.refl _ _).alloc (Nat.le_refl _) (.cells #[.int .i64 0, .int .i64 0, .int .i64 0, .int .i64 0, .int .i64 0] 46))
        refine hK.out _ _ hA (fun hHeld => ?_)
        clear hK KK hHeld
        have bA := BoxC.new W1 #[.int .i64 0, .int .i64 0, .int .i64 0, .int .i64 0, .int .i64 0] 46
        have hB : Below W1.heap.size W1 (W1.alloc (.cells #[.int .i64 0, .int .i64 0, .int .i64 0, .int .i64 0, .int .i64 0] 46)) := (Below.refl _ _).alloc (Nat.le_refl _) _
        have hXD : W1.heap.size ≠ p.D := by have := hS.lt; omega
        have hXl := bA.lt
        have a0 := bA.cell 0 rfl
        have a1 := bA.cell 1 rfl
        have a2 := bA.cell 2 rfl
        have a3 := bA.cell 3 rfl
        have a4 := bA.cell 4 rfl
        have f0 := bA.fz 0
        have f1 := bA.fz 1
        have f2 := bA.fz 2
        have f3 := bA.fz 3
        have f4 := bA.fz 4
        have hS0 := hS
        replace hS := hA
        generalize (W1.alloc (.cells #[.int .i64 0, .int .i64 0, .int .i64 0, .int .i64 0, .int .i64 0] 46)) = W2 at *
        have hB2 : Below W1.heap.size W1 (((((W2.setCell ⟨W1.heap.size, 0, none⟩ (.int .i64 op)).setCell ⟨W1.heap.size, 1, none⟩ (.int .i64 a)).setCell ⟨W1.heap.size, 2, none⟩ (.int .i64 b)).setCell ⟨W1.heap.size, 3, none⟩ (.int .i64 c)).setCell ⟨W1.heap.size, 4, none⟩ (.int .i64 n)) := ((((hB.setCell (Nat.le_refl _) _).setCell (Nat.le_refl _) _).setCell (Nat.le_refl _) _).setCell (Nat.le_refl _) _).setCell (Nat.le_refl _) _
        have bB := ((((bA.set 0 (.int .i64 op)).set 1 (.int .i64 a)).set 2 (.int .i64 b)).set 3 (.int .i64 c)).set 4 (.int .i64 n)
        simp only [List.setIfInBounds_toArray, List.set_cons_zero, List.set_cons_succ] at bB
        have hS2 := hS0.below hB2
        refine wpAnyH_ready (rs := [11]) (by kernel_rfl) (by simp) ?_
        refine AllReadyH.cons rfl (fun KK hK => ?_) AllReadyH.nil
        go_simp
        refine hK.out _ _ hS2 (fun hHeld => ?_)
        clear hK KK hHeld a0 a1 a2 a3 a4 f0 f1 f2 f3 f4 bA hB hB2 hA hS hXl
        refine wpAnyH_done (by kernel_rfl) ?_ _
        generalize (((((W2.setCell ⟨W1.heap.size, 0, none⟩ (.int .i64 op)).setCell ⟨W1.heap.size, 1, none⟩ (.int .i64 a)).setCell ⟨W1.heap.size, 2, none⟩ (.int .i64 b)).setCell ⟨W1.heap.size, 3, none⟩ (.int .i64 c)).setCell ⟨W1.heap.size, 4, none⟩ (.int .i64 n)) = W3 at *
        generalize W1.heap.size = X at *
        have m10 := hS2.cells.2.2.2.2.2.2.2.2.2.2
        have f10 := hS2.fz 10
        have hlt2 := hS2.lt
        have hS3 : MS p w0 vs' sr.tick (W3.setCell ⟨p.D, 10, none⟩ (natV (sr.next + 1))) := hS2.setNext (sr.next + 1)
        have x0 := bB.cell 0 rfl
        have x1 := bB.cell 1 rfl
        have x2 := bB.cell 2 rfl
        have x3 := bB.cell 3 rfl
        have x4 := bB.cell 4 rfl
        have hXl := bB.lt
        have hDo := HD.out vs' sr.tick _ ⟨op, a, b, c, n⟩ hS3 (HI.out.tick HX.out) (by have := HK.out; show sr.steps + 1 ≤ 90000; omega) HO.out
        have HV := doF_inv (HI.out.tick HX.out) ⟨op, a, b, c, n⟩ HO.out
        have HT := (doF_goes iL iH ⟨op, a, b, c, n⟩ sr.tick).1.steps
        have HR2 := HR.out
        generalize hd : doF iL iH ⟨op, a, b, c, n⟩ sr.tick = r at *
        obtain ⟨oe, s2⟩ := r
        dsimp only at HV HT
        have HVV := show Hid _ from HV
        have HTT : Hid (s2.steps = sr.steps + 1) := HT
        clear HV HT
        cases oe with
        | none =>
          rw [runF_none HE.out (by rw [HG.out]; exact hd)] at HR2
          have HRR := show Hid _ from HR2
          clear HR2 hd bB hS2 hS0
          unfold insV at hDo
          dsimp only at hDo
          go_wp2_with (fail)
          refine hDo.mono ?_
          rintro e w4 ⟨vs4, hM4, rfl⟩
          go_wp2
          go_roundg k
          case rel => exact ⟨vs4, s2, hM4, HVV.out, by have := HK.out; have := HTT.out; show _ = _; omega, HRR.out⟩
          case measure => omega
        | some ee =>
          rw [runF_some HE.out (by rw [HG.out]; exact hd)] at HR2
          have HRR := show Hid _ from HR2
          clear HR2 hd bB hS2 hS0
          unfold insV at hDo
          dsimp only at hDo
          go_wp2_with (fail)
          refine hDo.mono ?_
          rintro e w4 ⟨vs4, hM4, rfl⟩
          go_wp2
          exact ⟨rfl, by rw [← HRR.out]; exact ⟨rfl, vs4, hM4⟩⟩
end
end Go.Proofs.Ytcfibghjekimkaa.mac
