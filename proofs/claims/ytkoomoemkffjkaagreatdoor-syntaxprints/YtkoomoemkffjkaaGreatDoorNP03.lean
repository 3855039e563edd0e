/- Words are short, and so is what they are joined to. No Go in sight. -/
import Derived.Test.YtkoomoemkffjkaaGreatDoorNP02
set_option linter.unusedVariables false
set_option linter.unusedSimpArgs false
namespace Go.Proofs.YtkoomoemkffjkaaGreatDoor
namespace pr
open Go.Proofs.YtkoomoemkffjkaaGreatDoor.syn Go.Proofs.YtkoomoemkffjkaaGreatDoor.face Go.Proofs.YtkoomoemkffjkaaGreatDoor.chk
theorem par_len (t : Tree) (o : List ByteArray) (h : parW t = some o) : (o.length : Int) ≤ 8 * cntT t - 1 := by
  have := cntT_pos t
  obtain ⟨k, x, m, ks⟩ := t
  unfold parW at h
  dsimp only at h
  split at h
  · obtain rfl := Option.some.inj h
    simp only [List.length_append, List.length_cons, List.length_nil]; push_cast; omega
  · cases h
theorem cnt_last : ∀ {ks : List Tree}, 0 < ks.length → cntL (ks.take (ks.length - 1)) + cntT (ks.getD (ks.length - 1) noT) = cntL ks
  | [], h => by simp at h
  | [a], h => by show cntL [] + cntT a = cntL [a]; unfold cntL; rw [show cntL ([] : List Tree) = 0 from rfl]; omega
  | a :: b :: r, h => by
    have ih := cnt_last (ks := b :: r) (by simp)
    have e : (a :: b :: r).length - 1 = (b :: r).length - 1 + 1 := by simp
    rw [e, List.take_succ_cons, List.getD_cons_succ]
    show cntL (a :: List.take ((b :: r).length - 1) (b :: r)) + _ = cntL (a :: b :: r)
    rw [show cntL (a :: List.take ((b :: r).length - 1) (b :: r)) = cntT a + cntL (List.take ((b :: r).length - 1) (b :: r)) from rfl, show cntL (a :: b :: r) = cntT a + cntL (b :: r) from rfl]
    omega
theorem pub_len (m : Int) : (if m.toNat / 2 % 2 = 1 then [⟨#[112, 117, 98]⟩] else [] : List ByteArray).length ≤ 1 := by
  split <;> simp
theorem giv_len (m : Int) : (givW m).length ≤ 2 := by
  unfold givW
  split
  · simp
  · split <;> simp
theorem decl_len {f : Nat} (t : Tree) (w : List ByteArray) (ho : declW f t = some w) : (w.length : Int) ≤ 8 * cntT t := by
  obtain ⟨k, x, m, ks⟩ := t
  have hp0 := cntL_pos ks
  have hpu := pub_len m
  have hgi := giv_len m
  unfold declW at ho
  dsimp only at ho
  by_cases hl : lookB [3, 4] (.node k x m ks) = true
  · rw [if_pos hl] at ho
    by_cases hk4 : k = 4
    · rw [if_pos hk4] at ho
      cases hp : roundF parW (ks.take (ks.length - 1)) with
      | none => rw [hp] at ho; cases ho
      | some p =>
        rw [hp] at ho
        cases hb : blockW f (ks.getD (ks.length - 1) noT) with
        | none => simp only [Option.bind_some, hb] at ho; cases ho
        | some b =>
          simp only [Option.bind_some, hb, Option.some.injEq] at ho
          subst ho
          have e1 := round_len par_len hp
          have e2 := (s_len f).bk _ _ hb
          have e3 := some_lt blk_no hb
          have e4 := cnt_last (ks := ks) (by omega)
          rw [cnt_n]
          simp only [List.length_append, List.length_cons, List.length_nil]; push_cast; omega
    · rw [if_neg hk4] at ho
      cases ks with
      | nil =>
        dsimp only at ho
        obtain rfl := Option.some.inj ho
        rw [cnt_n]
        simp only [List.length_append, List.length_cons, List.length_nil]; push_cast; omega
      | cons t0 rr =>
        dsimp only at ho
        cases hw : numK t0 with
        | none => rw [hw] at ho; cases ho
        | some n =>
          rw [hw] at ho
          obtain rfl := Option.some.inj ho
          have e1 : n.length = 1 := by
            obtain ⟨k, x, m, ks⟩ := t0
            unfold numK at hw
            dsimp only at hw
            split at hw
            · obtain rfl := Option.some.inj hw; rfl
            · cases hw
          rw [cnt_n]
          simp only [List.length_append, List.length_cons, List.length_nil]; push_cast; omega
  · rw [if_neg hl] at ho; cases ho
theorem imp_len (t : Tree) (w : List ByteArray) (h : impW t = some w) : (w.length : Int) ≤ 8 * cntT t := by
  have := cntT_pos t
  obtain ⟨k, x, m, ks⟩ := t
  unfold impW at h
  dsimp only at h
  split at h
  · obtain rfl := Option.some.inj h
    simp only [List.length_append, List.length_cons, List.length_nil]; push_cast; omega
  · cases h
theorem cntL_app : ∀ (a b : List Tree), cntL (a ++ b) = cntL a + cntL b
  | [], b => by show cntL b = cntL [] + cntL b; rw [show cntL ([] : List Tree) = 0 from rfl]; omega
  | t :: r, b => by
    rw [List.cons_append, show cntL (t :: (r ++ b)) = cntT t + cntL (r ++ b) from rfl, show cntL (t :: r) = cntT t + cntL r from rfl, cntL_app r b]
    omega
theorem module_len {f : Nat} {t : Tree} {w : List ByteArray} (ho : moduleW f t = some w) : (w.length : Int) ≤ 8 * cntT t := by
  obtain ⟨k, x, m, ks⟩ := t
  unfold moduleW at ho
  dsimp only at ho
  by_cases hl : lookB [1] (.node k x m ks) = true
  · rw [if_pos hl] at ho
    cases ha : seqF impW (ks.takeWhile impB) with
    | none => rw [ha] at ho; cases ho
    | some a =>
      rw [ha] at ho
      cases hb : seqF (declW f) (ks.dropWhile impB) with
      | none => simp only [Option.bind_some, hb] at ho; cases ho
      | some b =>
        simp only [Option.bind_some, hb, Option.some.injEq] at ho
        subst ho
        have e1 := seq_len imp_len _ _ ha
        have e2 := seq_len decl_len _ _ hb
        have e3 : cntL ks = cntL (ks.takeWhile impB) + cntL (ks.dropWhile impB) := by
          rw [← cntL_app, List.takeWhile_append_dropWhile]
        rw [cnt_n]
        simp only [List.length_append, List.length_cons, List.length_nil]; push_cast; omega
  · rw [if_neg hl] at ho; cases ho
end pr
namespace pr
open Go.Proofs.YtkoomoemkffjkaaGreatDoor.lexs
open Go.Proofs.YtkoomoemkffjkaaGreatDoor.syn Go.Proofs.YtkoomoemkffjkaaGreatDoor.face Go.Proofs.YtkoomoemkffjkaaGreatDoor.chk
theorem step_short {l : List UInt8} {k : Int} {n : Nat} (h : stepL l = .tok k n) (hn : n = l.length) : n ≤ 20 := by
  unfold stepL stepB at h
  split at h
  · cases h
  split at h
  · cases h
  split at h
  · split at h
    · cases h
    · rename_i h16
      injection h with _ h
      omega
  split at h
  · split at h
    · rename_i hz
      injection h with _ h
      rw [h, hn, List.take_length] at hz
      have hz : numE l = 0 := by simpa using hz
      unfold numE at hz
      split at hz
      · cases hz
      split at hz
      · cases hz
      split at hz
      · cases hz
      · rename_i h19
        simp only [Bool.or_eq_true, decide_eq_true_eq, not_or] at h19
        omega
    · cases h
  · split at h
    · cases h
    · injection h with _ h
      rw [← h]
      unfold signLen
      split
      · omega
      · split <;> omega
theorem word_short {y : ByteArray} (h : WordOk y) : y.data.toList.length ≤ 20 := by
  obtain ⟨k, _, _, h2, _⟩ := h
  exact step_short h2 rfl
theorem join_short : ∀ (ws : List ByteArray), (∀ y ∈ ws, WordOk y) → (joinW ws).length ≤ 21 * ws.length
  | [], _ => Nat.le_refl _
  | [y], h => by have := word_short (h y (by simp)); show y.data.toList.length ≤ 21 * 1; omega
  | y :: z :: r, h => by
    have h1 := word_short (h y (by simp))
    have h2 := join_short (z :: r) (fun q hq => h q (List.mem_cons_of_mem _ hq))
    show (y.data.toList ++ 32 :: joinW (z :: r)).length ≤ _
    simp only [List.length_append, List.length_cons] at h2 ⊢
    omega
/-- so deep at most, and texts are no longer than that -/
def ShT (n : Nat) : Tree → Prop
  | .node _ x _ ks => x.size < n ∧ ShL n ks
where ShL (n : Nat) : List Tree → Prop
  | [] => True
  | t :: r => ShT n t ∧ ShL n r
end pr
end Go.Proofs.YtkoomoemkffjkaaGreatDoor
