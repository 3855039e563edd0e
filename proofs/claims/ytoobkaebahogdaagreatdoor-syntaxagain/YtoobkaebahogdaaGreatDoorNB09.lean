/- What the program's local and set answer, once those that they call do: contracts. -/
import Derived.Test.YtoobkaebahogdaaGreatDoorNB08
set_option linter.unusedVariables false
set_option linter.unusedSimpArgs false
set_option maxRecDepth 100000
namespace Go.Proofs.YtoobkaebahogdaaGreatDoor
namespace syn
open Go.RowKit
open Go.Proofs.YtoobkaebahogdaaGreatDoor.lexs (Tok Fine own_shape)

section
variable (ts : List Tok) (item : Nat → St → Option (Tree × St))
/-- items with commas between, and the ')' behind them -/
def listL : Nat → List Tree → St → Option (List Tree × St)
  | 0, _, _ => none
  | f + 1, ks, s => (item f s).bind fun q => if eqS (txt ts q.2) ⟨#[44]⟩ then listL f (ks ++ [q.1]) q.2.next else some (ks ++ [q.1], must ts ⟨#[41]⟩ q.2)
def listF (f : Nat) (s : St) : Option (List Tree × St) := if eqS (txt ts s) ⟨#[41]⟩ then some ([], s.next) else listL ts item f [] s
end
section
variable {w w' w0 : World} {r G B : Nat} {ts : List Tok} {s : St} {kv : Value} {ks : List Tree}
/-- the reader, and a row of nodes of one's own that lies behind B, of a call that began in w0 -/
structure KO (w0 : World) (B r G : Nat) (ts : List Tok) (w : World) (s : St) (kv : Value) (ks : List Tree) : Prop where
  ld : Ld w r G ts s
  low : r < w0.heap.size
  b0 : w0.heap.size ≤ B
  fr : Fr r w0 w
  kids : Kids B (fun b => B ≤ b ∧ b < w.heap.size ∧ some b ≠ kv.ownBlock) w kv ks
theorem KO.nr (h : KO w0 B r G ts w s kv ks) : kv.ownBlock ≠ some r := fun e => by have h1 := (h.kids.blk e).1; have h2 := h.low; have h3 := h.b0; omega
theorem KO.step (h : KO w0 B r G ts w s kv ks) {s' : St} (hL : Ld w' r G ts s') (hF : Fr r w w') : KO w0 B r G ts w' s' kv ks :=
  ⟨hL, h.low, h.b0, h.fr.trans hF, h.kids.grown hF (.inr h.nr) (fun b hb => ⟨hb.2.1, by have := h.low; have := h.b0; simp; omega⟩) (fun b hb => ⟨hb.1, Nat.lt_of_lt_of_le hb.2.1 hF.size, hb.2.2⟩)⟩
/-- a store into another block that is new -/
theorem KO.set (h : KO w0 B r G ts w s kv ks) {N : Nat} (hN : w0.heap.size ≤ N) (hB : N < B) (o : Nat) (v : Value) : KO w0 B r G ts (w.setCell ⟨N, o, none⟩ v) s kv ks :=
  ⟨h.ld.set (by have := h.low; omega) o v, h.low, h.b0, h.fr.setNew hN v, h.kids.grown ((Fr.refl N w).set o v) (.inr (fun e => by have := (h.kids.blk e).1; omega)) (fun b hb => ⟨hb.2.1, by simp; omega⟩) (fun b hb => ⟨hb.1, by rw [World.size_setCell]; exact hb.2.1, hb.2.2⟩)⟩
theorem KO.pushed {vs : List Q4} (h : KO w0 B r G ts w s kv ks) (ho : w.ownsRow B 24 4 kv ks.length (flat4 vs)) (ha : AllLie (fun b => B ≤ b ∧ b < w.heap.size ∧ some b ≠ kv.ownBlock) w ks vs)
    {t : Tree} {q : Q4} (hl : Lies (fun b => B ≤ b ∧ b < w.heap.size ∧ some b ≠ kv.ownBlock) w t q.v) {w4 : World} {v' : Value} {o : Obj} (hown' : w4.ownsRow B 24 4 v' (ks.length + 1) (flat4 vs ++ [q.1, q.2.1, q.2.2.1, q.2.2.2]))
    (hgrow : (w.alloc o).grownBy w4 kv.ownBlock) (hfr : v'.ownBlock = kv.ownBlock ∨ v'.ownBlock = some (w.heap.size + 1)) : KO w0 B r G ts w4 s v' (ks ++ [t]) := by
  have hG : w.grownBy w4 kv.ownBlock := grown_trans (World.grownBy_alloc w _ _) hgrow
  have s4 := hG.size
  have hlow := h.low
  have hb0 := h.b0
  have hQ : ∀ b, (B ≤ b ∧ b < w.heap.size ∧ some b ≠ kv.ownBlock) → (B ≤ b ∧ b < w4.heap.size ∧ some b ≠ v'.ownBlock) := fun b hb => ⟨hb.1, by omega, fun e => by
    rcases hfr with e' | e'
    · exact hb.2.2 (e.trans e')
    · rw [e'] at e
      have : b = w.heap.size + 1 := by simpa using e
      omega⟩
  have hsame : ∀ b, (B ≤ b ∧ b < w.heap.size ∧ some b ≠ kv.ownBlock) → ∀ j, w4.cell? ⟨b, j, none⟩ = w.cell? ⟨b, j, none⟩ := fun b hb j => World.cell?_of_block (a := ⟨b, j, none⟩) (hG.block b hb.2.1 hb.2.2)
  refine ⟨h.ld.keep hG (fun k e => by have h1 := (h.kids.blk e).1; omega), h.low, h.b0, ?_, vs ++ [q], ?_, AllLie.snoc (hl.to hQ hsame) (ha.to hQ hsame)⟩
  · exact ⟨hG.os.trans h.fr.os, hG.tape.trans h.fr.tape, hG.output.trans h.fr.output, Nat.le_trans h.fr.size hG.size, fun j hj hn => (hG.block j (Nat.lt_of_lt_of_le hj h.fr.size) (fun e => by have := (h.kids.blk e.symm).1; omega)).trans (h.fr.block j hj hn)⟩
  · rw [flat4_snoc, List.length_append]
    exact hown'
/-- a row of one -/
theorem KO.one {t : Tree} {y0 y1 y2 y3 : Value} {M : Nat} (hL : Ld w r G ts s) (hlow : r < w0.heap.size) (hb0 : w0.heap.size ≤ B) (hF : Fr r w0 w) (hB : B ≤ w.heap.size) (hM : M = w.heap.size) (hl : Lies (fun b => B ≤ b ∧ b < w.heap.size) w t (.agg #[y0, y1, y2, y3])) :
    KO w0 B r G ts (w.alloc (.cells #[y0, y1, y2, y3] 24)) s (.slice (some ⟨M, 0, none⟩) 1 1) [t] := by
  subst hM
  refine ⟨hL.alloc _, hlow, hb0, hF.alloc _, [(y0, y1, y2, y3)], World.ownsRow_lit w #[y0, y1, y2, y3] 1 hB (by decide) rfl, ?_, trivial⟩
  exact hl.frP (x := w.heap.size) (Fr.al _ _) (fun b hb => ⟨hb.2, by omega⟩) (fun b hb => ⟨hb.1, by rw [World.size_alloc]; omega, fun e => by
    have : b = w.heap.size := by simpa [Value.ownBlock] using e
    omega⟩)
/-- what list answers: a row of nodes, or it gives up -/
def OList (w : World) (r G : Nat) (ts : List Tok) (q : List Tree × St) (e : Ending) (w' : World) : Prop :=
  (q.2.bad = true ∧ e = .panicked (Pan ts q.2) ∧ Fr r w w') ∨ (q.2.bad = false ∧ q.1.length ≤ 100001 ∧ ∃ kv, e = .returned kv ∧ KO w w.heap.size r G ts w' q.2 kv q.1)
/-- a comma, or the end -/
theorem take_comma (hL : Ld w r G ts s) (h : eqS (txt ts s) ⟨#[44]⟩ = true) {M : Nat} {T : TypeId} (hM : M = w.heap.size) :
    Calls Tryz.prog 118 #[.pointer (some ⟨r, 0, none⟩), .slice (some ⟨M, 0, none⟩) 2 2] (w.alloc (.cells #[.string ⟨#[44]⟩, .string ⟨#[41]⟩] T)) fun e w' => ∃ y, (y.toList == [44]) = true ∧ e = .returned (.string y) ∧ Ld w' r G ts s.next ∧ Fr r w w' := by
  have hx : hasW ts s [⟨#[44]⟩, ⟨#[41]⟩] = true := by unfold hasW; simp [h]
  refine (otake_yes (hL.alloc _) [⟨#[44]⟩, ⟨#[41]⟩] M 2 (by simp) (by decide) (Words.two w _ _ T hM) hx).mono ?_
  rintro e w' ⟨rfl, h2, h3⟩
  have hlt := hasW_lt (by decide) hx
  refine ⟨_, ?_, rfl, h2, (Fr.al _ _).trans h3⟩
  rw [← eqS_lit, ← eq_raw (hL.good _ (List.getElem_mem hlt)) hL.ok (lt_get hlt) (by decide)]
  exact h
theorem take_end (hL : Ld w r G ts s) (h0 : eqS (txt ts s) ⟨#[44]⟩ = false) (h : eqS (txt ts s) ⟨#[41]⟩ = true) {M : Nat} {T : TypeId} (hM : M = w.heap.size) :
    Calls Tryz.prog 118 #[.pointer (some ⟨r, 0, none⟩), .slice (some ⟨M, 0, none⟩) 2 2] (w.alloc (.cells #[.string ⟨#[44]⟩, .string ⟨#[41]⟩] T)) fun e w' => ∃ y, (y.toList == [44]) = false ∧ e = .returned (.string y) ∧ Ld w' r G ts s.next ∧ Fr r w w' := by
  have hx : hasW ts s [⟨#[44]⟩, ⟨#[41]⟩] = true := by unfold hasW; simp [h]
  refine (otake_yes (hL.alloc _) [⟨#[44]⟩, ⟨#[41]⟩] M 2 (by simp) (by decide) (Words.two w _ _ T hM) hx).mono ?_
  rintro e w' ⟨rfl, h2, h3⟩
  have hlt := hasW_lt (by decide) hx
  refine ⟨_, ?_, rfl, h2, (Fr.al _ _).trans h3⟩
  rw [← eqS_lit, ← eq_raw (hL.good _ (List.getElem_mem hlt)) hL.ok (lt_get hlt) (by decide)]
  exact h0
theorem take_none (hL : Ld w r G ts s) (h0 : eqS (txt ts s) ⟨#[44]⟩ = false) (h : eqS (txt ts s) ⟨#[41]⟩ = false) {M : Nat} {T : TypeId} (hM : M = w.heap.size) :
    Calls Tryz.prog 118 #[.pointer (some ⟨r, 0, none⟩), .slice (some ⟨M, 0, none⟩) 2 2] (w.alloc (.cells #[.string ⟨#[44]⟩, .string ⟨#[41]⟩] T)) fun e w' => e = .panicked (Pan ts s) ∧ Fr r w w' := by
  refine (otake_no (hL.alloc _) [⟨#[44]⟩, ⟨#[41]⟩] M 2 (by simp) (by decide) (Words.two w _ _ T hM) (by unfold hasW; simp [h, h0])).mono ?_
  rintro e w' ⟨rfl, rfl⟩
  exact ⟨rfl, Fr.al _ _⟩
set_option maxHeartbeats 2000000 in
theorem olist_expr {item : Nat → St → Option (Tree × St)} {f : Nat} (ih : ∀ {g : Nat}, g ≤ f → Gives r G ts 235 (item g)) (hst : ∀ (g : Nat) (s : St) (q : Tree × St), s.bad = true → item g s = some q → q.2 = s) (hf : f ≤ 100000) (hL : Ld w r G ts s) {q : List Tree × St} (hq : listF ts item f s = some q) :
    Calls Tryz.prog 187 #[.pointer (some ⟨r, 0, none⟩), .func (.func 235) #[.pointer (some ⟨r, 0, none⟩)] #[]] w (OList w r G ts q) := by
  have c24 : Tryz.prog.cellsOf 24 = 4 := by kernel_rfl
  have hr := hL.lt
  obtain ⟨i0, hi, hz0, hz1', hz2⟩ := info_parts nodeInfo
  unfold listF at hq
  cases he : eqS (txt ts s) ⟨#[41]⟩
  case true =>
    rw [he, if_pos rfl] at hq
    simp only [Option.some.injEq] at hq
    subst hq
    have hE := skip_yes (T := 9) hL ⟨#[41]⟩ (by decide) he rfl
    have hok : s.next.bad = false := hL.ok
    clear he
    go_enter Tryz.func187, Tryz.ntmps187
    go_wp2_with (fail)
    refine hE.mono ?_
    rintro e w1 ⟨rfl, hL1, hF1⟩
    go_wp2
    go_ret
    exact .inr ⟨hok, by simp, _, rfl, hL1, hr, Nat.le_refl _, hF1, Kids.nil _ _ _⟩
  case false =>
    rw [he, if_neg (by decide)] at hq
    have hE := skip_no (T := 9) hL ⟨#[41]⟩ (by decide) he rfl
    clear he
    cases f with
    | zero => unfold listL at hq; simp at hq
    | succ f =>
      unfold listL at hq
      obtain ⟨q1, h1, hq⟩ := bind_some_is hq
      have HQ : Hid ((if eqS (txt ts q1.2) ⟨#[44]⟩ then listL ts item f ([] ++ [q1.1]) q1.2.next else some ([] ++ [q1.1], must ts ⟨#[41]⟩ q1.2)) = some q) := hq
      clear hq
      go_enter Tryz.func187, Tryz.ntmps187
      go_wp2_with (fail)
      refine hE.mono ?_
      rintro e w1 ⟨rfl, hL1, hF1⟩
      go_wp2_with (fail)
      refine (ih (Nat.le_succ _) hL1 h1).mono ?_
      rintro e w2 (⟨hb2, rfl, hF2⟩ | ⟨hb2, v2, rfl, hl2, hL2, hF2⟩)
      · have HS : Hid (q.2 = q1.2) := by
          have := HQ.out
          rw [eqS_bad (by decide) hb2, if_neg (by decide)] at this
          simp only [Option.some.injEq] at this
          show _ = _
          rw [← this]
          exact must_st (by decide) hb2
        go_wp2
        exact ⟨rfl, .inl ⟨by rw [HS.out]; exact hb2, by rw [HS.out], hF1.trans hF2⟩⟩
      obtain ⟨k2, x2, m2, _, rfl, a2, n2, c2, rfl⟩ := hl2.shape
      have z1 := hF1.size
      have z2 := hF2.size
      have hK0 := KO.one (B := w.heap.size) hL2 hr (Nat.le_refl _) (hF1.trans hF2) (by omega) rfl (hl2.low z1)
      go_wp2
      go_loopg [5] f (fun k kv wr => ∃ (ks : List Tree) (s1 : St), Hid ((if eqS (txt ts s1) ⟨#[44]⟩ then listL ts item k ks s1.next else some (ks, must ts ⟨#[41]⟩ s1)) = some q) ∧ ks.length + k ≤ f + 1 ∧ KO w w.heap.size r G ts wr s1 kv ks)
      case atStart => exact ⟨[] ++ [q1.1], q1.2, HQ.out, by simp; omega, hK0⟩
      case round =>
        obtain ⟨ks, s1, HL, hkf, hK⟩ := hrel
        clear HQ hK0
        obtain ⟨a, c, rfl⟩ := hK.kids.shape
        cases hcm : eqS (txt ts s1) ⟨#[44]⟩
        case false =>
          have hq2 := HL.out
          rw [hcm, if_neg (by decide)] at hq2
          simp only [Option.some.injEq] at hq2
          subst hq2
          cases hen : eqS (txt ts s1) ⟨#[41]⟩
          case false =>
            rw [must_fail hen]
            go_wp2_with (fail)
            refine (take_none hK.ld hcm hen rfl).mono ?_
            rintro e w3 ⟨rfl, hF3⟩
            go_wp2
            exact ⟨rfl, .inl ⟨rfl, rfl, hK.fr.trans hF3⟩⟩
          case true =>
            have hok : s1.next.bad = false := hK.ld.ok
            go_wp2_with (fail)
            refine (take_end hK.ld hcm hen rfl).mono ?_
            rintro e w3 ⟨y, hy, rfl, hL3, hF3⟩
            go_wp2
            go_ret
            exact .inr ⟨by simp only [must_next hen]; exact hok, by dsimp only; omega, _, rfl, by simp only [must_next hen]; exact hK.step hL3 hF3⟩
        case true =>
          have hq2 := HL.out
          rw [hcm, if_pos rfl] at hq2
          clear HL
          cases gk with
          | zero => unfold listL at hq2; simp at hq2
          | succ k =>
            unfold listL at hq2
            obtain ⟨q2, h2, hq3⟩ := bind_some_is hq2
            have HQ : Hid ((if eqS (txt ts q2.2) ⟨#[44]⟩ then listL ts item k (ks ++ [q2.1]) q2.2.next else some (ks ++ [q2.1], must ts ⟨#[41]⟩ q2.2)) = some q) := hq3
            clear hq2 hq3
            go_wp2_with (fail)
            refine (take_comma hK.ld hcm rfl).mono ?_
            rintro e w3 ⟨y, hy, rfl, hL3, hF3⟩
            have hK3 := hK.step hL3 hF3
            go_wp2_with (fail)
            refine (ih (show k ≤ f + 1 by omega) hL3 h2).mono ?_
            rintro e w4 (⟨hb4, rfl, hF4⟩ | ⟨hb4, v4, rfl, hl4, hL4, hF4⟩)
            · have HS : Hid (q.2 = q2.2) := by
                have := HQ.out
                rw [eqS_bad (by decide) hb4, if_neg (by decide)] at this
                simp only [Option.some.injEq] at this
                show _ = _
                rw [← this]
                exact must_st (by decide) hb4
              go_wp2
              exact ⟨rfl, .inl ⟨by rw [HS.out]; exact hb4, by rw [HS.out], (hK.fr.trans hF3).trans hF4⟩⟩
            obtain ⟨kc, yc, mc, _, rfl, ac, nc, cc, rfl⟩ := hl4.shape
            have hkb : ∀ g, (Value.slice a ks.length c).ownBlock = some g → w.heap.size ≤ g ∧ g < w3.heap.size := fun g hg => hK3.kids.blk hg
            have hK4 := hK3.step hL4 hF4
            have zz := hK4.fr.size
            have z3 := hK3.fr.size
            have hlc : Lies (fun b => w.heap.size ≤ b ∧ b < w4.heap.size ∧ some b ≠ (Value.slice a ks.length c).ownBlock) w4 q2.1 (.agg #[.int .i64 kc, .string yc, .int .i64 mc, .slice ac nc cc]) :=
              hl4.to (fun b hb => ⟨by omega, hb.2, fun e => by have := (hkb b e.symm).2; omega⟩) (fun _ _ _ => rfl)
            obtain ⟨vs, ho, ha⟩ := hK4.kids
            have HA : Hid (AllLie (fun b => w.heap.size ≤ b ∧ b < w4.heap.size ∧ some b ≠ (Value.slice a ks.length c).ownBlock) w4 ks vs) := ha
            have hlk : ks.length ≤ 100001 := by omega
            clear ha
            go_wp2_with (at_builtin; refine wpList_append_fresh rfl (.tmp 16) (.tmp 19) 22 rfl w.heap.size 24 i0 (.agg #[.int .i64 0, .string ⟨#[]⟩, .int .i64 0, .slice none 0 0]) 4 56 Tryz.underlying22 hi hz0 hz1' hz2 rfl (by decide) _ _ _ rfl (ho.alloc _) ⟨w4.heap.size, 0, none⟩ 1 1 [.int .i64 kc, .string yc, .int .i64 mc, .slice ac nc cc] rfl rfl (cells4_new _ _ _ _ _ _ _ rfl) (by intro u hu; simp at hu; rcases hu with rfl | rfl | rfl | rfl <;> rfl) (by unfold maxLen; omega) (by omega) (by simp <;> omega) (by decide) ?_; intro v' w5 hown' hgrow hfr; have hK5 := KO.pushed (q := (.int .i64 kc, .string yc, .int .i64 mc, .slice ac nc cc)) (t := q2.1) hK4 ho HA.out hlc hown' hgrow (by rcases hfr with e | e; exact .inl e; exact .inr (by rw [e]; simp)))
            go_roundg k
            case rel => exact ⟨_, q2.2, HQ.out, by rw [List.length_append]; simp; omega, hK5⟩
            case measure => omega
set_option maxHeartbeats 2000000 in
theorem olist_param {item : Nat → St → Option (Tree × St)} {f : Nat} (ih : ∀ {g : Nat}, g ≤ f → Gives r G ts 188 (item g)) (hst : ∀ (g : Nat) (s : St) (q : Tree × St), s.bad = true → item g s = some q → q.2 = s) (hf : f ≤ 100000) (hL : Ld w r G ts s) {q : List Tree × St} (hq : listF ts item f s = some q) :
    Calls Tryz.prog 187 #[.pointer (some ⟨r, 0, none⟩), .func (.func 188) #[.pointer (some ⟨r, 0, none⟩)] #[]] w (OList w r G ts q) := by
  have c24 : Tryz.prog.cellsOf 24 = 4 := by kernel_rfl
  have hr := hL.lt
  obtain ⟨i0, hi, hz0, hz1', hz2⟩ := info_parts nodeInfo
  unfold listF at hq
  cases he : eqS (txt ts s) ⟨#[41]⟩
  case true =>
    rw [he, if_pos rfl] at hq
    simp only [Option.some.injEq] at hq
    subst hq
    have hE := skip_yes (T := 9) hL ⟨#[41]⟩ (by decide) he rfl
    have hok : s.next.bad = false := hL.ok
    clear he
    go_enter Tryz.func187, Tryz.ntmps187
    go_wp2_with (fail)
    refine hE.mono ?_
    rintro e w1 ⟨rfl, hL1, hF1⟩
    go_wp2
    go_ret
    exact .inr ⟨hok, by simp, _, rfl, hL1, hr, Nat.le_refl _, hF1, Kids.nil _ _ _⟩
  case false =>
    rw [he, if_neg (by decide)] at hq
    have hE := skip_no (T := 9) hL ⟨#[41]⟩ (by decide) he rfl
    clear he
    cases f with
    | zero => unfold listL at hq; simp at hq
    | succ f =>
      unfold listL at hq
      obtain ⟨q1, h1, hq⟩ := bind_some_is hq
      have HQ : Hid ((if eqS (txt ts q1.2) ⟨#[44]⟩ then listL ts item f ([] ++ [q1.1]) q1.2.next else some ([] ++ [q1.1], must ts ⟨#[41]⟩ q1.2)) = some q) := hq
      clear hq
      go_enter Tryz.func187, Tryz.ntmps187
      go_wp2_with (fail)
      refine hE.mono ?_
      rintro e w1 ⟨rfl, hL1, hF1⟩
      go_wp2_with (fail)
      refine (ih (Nat.le_succ _) hL1 h1).mono ?_
      rintro e w2 (⟨hb2, rfl, hF2⟩ | ⟨hb2, v2, rfl, hl2, hL2, hF2⟩)
      · have HS : Hid (q.2 = q1.2) := by
          have := HQ.out
          rw [eqS_bad (by decide) hb2, if_neg (by decide)] at this
          simp only [Option.some.injEq] at this
          show _ = _
          rw [← this]
          exact must_st (by decide) hb2
        go_wp2
        exact ⟨rfl, .inl ⟨by rw [HS.out]; exact hb2, by rw [HS.out], hF1.trans hF2⟩⟩
      obtain ⟨k2, x2, m2, _, rfl, a2, n2, c2, rfl⟩ := hl2.shape
      have z1 := hF1.size
      have z2 := hF2.size
      have hK0 := KO.one (B := w.heap.size) hL2 hr (Nat.le_refl _) (hF1.trans hF2) (by omega) rfl (hl2.low z1)
      go_wp2
      go_loopg [5] f (fun k kv wr => ∃ (ks : List Tree) (s1 : St), Hid ((if eqS (txt ts s1) ⟨#[44]⟩ then listL ts item k ks s1.next else some (ks, must ts ⟨#[41]⟩ s1)) = some q) ∧ ks.length + k ≤ f + 1 ∧ KO w w.heap.size r G ts wr s1 kv ks)
      case atStart => exact ⟨[] ++ [q1.1], q1.2, HQ.out, by simp; omega, hK0⟩
      case round =>
        obtain ⟨ks, s1, HL, hkf, hK⟩ := hrel
        clear HQ hK0
        obtain ⟨a, c, rfl⟩ := hK.kids.shape
        cases hcm : eqS (txt ts s1) ⟨#[44]⟩
        case false =>
          have hq2 := HL.out
          rw [hcm, if_neg (by decide)] at hq2
          simp only [Option.some.injEq] at hq2
          subst hq2
          cases hen : eqS (txt ts s1) ⟨#[41]⟩
          case false =>
            rw [must_fail hen]
            go_wp2_with (fail)
            refine (take_none hK.ld hcm hen rfl).mono ?_
            rintro e w3 ⟨rfl, hF3⟩
            go_wp2
            exact ⟨rfl, .inl ⟨rfl, rfl, hK.fr.trans hF3⟩⟩
          case true =>
            have hok : s1.next.bad = false := hK.ld.ok
            go_wp2_with (fail)
            refine (take_end hK.ld hcm hen rfl).mono ?_
            rintro e w3 ⟨y, hy, rfl, hL3, hF3⟩
            go_wp2
            go_ret
            exact .inr ⟨by simp only [must_next hen]; exact hok, by dsimp only; omega, _, rfl, by simp only [must_next hen]; exact hK.step hL3 hF3⟩
        case true =>
          have hq2 := HL.out
          rw [hcm, if_pos rfl] at hq2
          clear HL
          cases gk with
          | zero => unfold listL at hq2; simp at hq2
          | succ k =>
            unfold listL at hq2
            obtain ⟨q2, h2, hq3⟩ := bind_some_is hq2
            have HQ : Hid ((if eqS (txt ts q2.2) ⟨#[44]⟩ then listL ts item k (ks ++ [q2.1]) q2.2.next else some (ks ++ [q2.1], must ts ⟨#[41]⟩ q2.2)) = some q) := hq3
            clear hq2 hq3
            go_wp2_with (fail)
            refine (take_comma hK.ld hcm rfl).mono ?_
            rintro e w3 ⟨y, hy, rfl, hL3, hF3⟩
            have hK3 := hK.step hL3 hF3
            go_wp2_with (fail)
            refine (ih (show k ≤ f + 1 by omega) hL3 h2).mono ?_
            rintro e w4 (⟨hb4, rfl, hF4⟩ | ⟨hb4, v4, rfl, hl4, hL4, hF4⟩)
            · have HS : Hid (q.2 = q2.2) := by
                have := HQ.out
                rw [eqS_bad (by decide) hb4, if_neg (by decide)] at this
                simp only [Option.some.injEq] at this
                show _ = _
                rw [← this]
                exact must_st (by decide) hb4
              go_wp2
              exact ⟨rfl, .inl ⟨by rw [HS.out]; exact hb4, by rw [HS.out], (hK.fr.trans hF3).trans hF4⟩⟩
            obtain ⟨kc, yc, mc, _, rfl, ac, nc, cc, rfl⟩ := hl4.shape
            have hkb : ∀ g, (Value.slice a ks.length c).ownBlock = some g → w.heap.size ≤ g ∧ g < w3.heap.size := fun g hg => hK3.kids.blk hg
            have hK4 := hK3.step hL4 hF4
            have zz := hK4.fr.size
            have z3 := hK3.fr.size
            have hlc : Lies (fun b => w.heap.size ≤ b ∧ b < w4.heap.size ∧ some b ≠ (Value.slice a ks.length c).ownBlock) w4 q2.1 (.agg #[.int .i64 kc, .string yc, .int .i64 mc, .slice ac nc cc]) :=
              hl4.to (fun b hb => ⟨by omega, hb.2, fun e => by have := (hkb b e.symm).2; omega⟩) (fun _ _ _ => rfl)
            obtain ⟨vs, ho, ha⟩ := hK4.kids
            have HA : Hid (AllLie (fun b => w.heap.size ≤ b ∧ b < w4.heap.size ∧ some b ≠ (Value.slice a ks.length c).ownBlock) w4 ks vs) := ha
            have hlk : ks.length ≤ 100001 := by omega
            clear ha
            go_wp2_with (at_builtin; refine wpList_append_fresh rfl (.tmp 16) (.tmp 19) 22 rfl w.heap.size 24 i0 (.agg #[.int .i64 0, .string ⟨#[]⟩, .int .i64 0, .slice none 0 0]) 4 56 Tryz.underlying22 hi hz0 hz1' hz2 rfl (by decide) _ _ _ rfl (ho.alloc _) ⟨w4.heap.size, 0, none⟩ 1 1 [.int .i64 kc, .string yc, .int .i64 mc, .slice ac nc cc] rfl rfl (cells4_new _ _ _ _ _ _ _ rfl) (by intro u hu; simp at hu; rcases hu with rfl | rfl | rfl | rfl <;> rfl) (by unfold maxLen; omega) (by omega) (by simp <;> omega) (by decide) ?_; intro v' w5 hown' hgrow hfr; have hK5 := KO.pushed (q := (.int .i64 kc, .string yc, .int .i64 mc, .slice ac nc cc)) (t := q2.1) hK4 ho HA.out hlc hown' hgrow (by rcases hfr with e | e; exact .inl e; exact .inr (by rw [e]; simp)))
            go_roundg k
            case rel => exact ⟨_, q2.2, HQ.out, by rw [List.length_append]; simp; omega, hK5⟩
            case measure => omega
end

section
variable {w w' w0 : World} {r G B : Nat} {ts : List Tok} {s : St}
theorem callL_list {x : ByteArray} {f : Nat} : ∀ {ks : List Tree} {s : St} {q : Tree × St}, s.bad = false → callL ts f x ks s true = some q → ∃ p, listL ts (exprF ts) f ks s = some p ∧ q = (.node 18 x 0 p.1, p.2) := by
  induction f with
  | zero => intro ks s q hb h; unfold callL at h; simp at h
  | succ f ih =>
    intro ks s q hb h
    unfold callL at h
    rw [hb] at h
    simp only [Bool.not_false, Bool.and_self, if_true] at h
    obtain ⟨q1, h1, h2⟩ := bind_some_is h
    unfold listL
    rw [h1]
    simp only [Option.bind_some]
    unfold eat at h2
    cases he : eqS (txt ts q1.2) ⟨#[44]⟩
    · rw [he] at h2
      simp only [Bool.false_eq_true, if_false] at h2 ⊢
      cases f with
      | zero => unfold callL at h2; simp at h2
      | succ f =>
        unfold callL at h2
        simp only [Bool.false_and, Bool.false_eq_true, if_false, Option.some.injEq] at h2
        exact ⟨_, rfl, h2.symm⟩
    · rw [he] at h2
      simp only [if_true] at h2 ⊢
      have hb1 : q1.2.next.bad = false := by
        cases hb1 : q1.2.bad
        · exact hb1
        · rw [eqS_bad (by decide) hb1] at he
          cases he
      exact ih hb1 h2
theorem callF_list {x : ByteArray} {f : Nat} {q : Tree × St} (hb : (must ts ⟨#[40]⟩ s).bad = false) (h : callF ts (f + 1) x s = some q) : ∃ p, listF ts (exprF ts) f (must ts ⟨#[40]⟩ s) = some p ∧ q = (.node 18 x 0 p.1, p.2) := by
  unfold callF at h
  unfold listF
  cases he : eqS (txt ts (must ts ⟨#[40]⟩ s)) ⟨#[41]⟩
  · rw [he] at h
    simp only [Bool.false_eq_true, if_false] at h ⊢
    exact callL_list hb h
  · rw [he] at h
    simp only [if_true, Option.some.injEq] at h ⊢
    exact ⟨_, rfl, h.symm⟩
set_option maxHeartbeats 1000000 in
theorem ocall {f : Nat} (ih : ∀ {g : Nat}, g ≤ f → Gives r G ts 235 (exprF ts g)) (hf : f ≤ 100000) (x : ByteArray) {w : World} {s : St} {p : List Tree × St} (hL : Ld w r G ts s) (hq : listF ts (exprF ts) f s = some p) :
    Calls Tryz.prog 232 #[.pointer (some ⟨r, 0, none⟩), .string x] w (OAns w r G ts (.node 18 x 0 p.1, p.2)) := by
  have c24 : Tryz.prog.cellsOf 24 = 4 := by kernel_rfl
  have hmf : ∀ (fn : Fn) (first cap : Array Value) (w : World), (Instr.makeFunc fn first cap).run Tryz.prog w = .ok (.func fn first cap) w := fun _ _ _ _ => rfl
  have hr := hL.lt
  have hB0 := Box4.new w (.int .i64 0) (.string empty) (.int .i64 0) (.slice none 0 0) 24
  go_enter Tryz.func232, Tryz.ntmps232
  go_wp2_with (fail)
  refine (olist_expr ih (fun g s q hb h => (stuck ts g).e s q hb h) hf (hL.alloc _) hq).mono ?_
  rintro e w1 (⟨hb, rfl, hF1⟩ | ⟨hb, hlen, kv, rfl, hK⟩)
  · go_wp2
    exact ⟨rfl, OAns.lost rfl hb ((Fr.al _ _).trans hF1)⟩
  obtain ⟨a, c, rfl⟩ := hK.kids.shape
  have z1 := hK.fr.size
  rw [World.size_alloc] at z1
  obtain ⟨q0, q1', q2, q3, t0, t1, t2, t3⟩ := hB0.fr hK.fr (by omega)
  go_wp2
  refine bodyPost_ret (v := .agg #[.int .i64 18, .string x, .int .i64 0, .slice a p.1.length c]) (by simp [results, Tryz.results232, go_sem, q0, q1', q2, q3]) rfl ?_
  refine OAns.fin hr ((Fr.al _ _).trans hK.fr) hK.ld (Nat.le_refl _) (Nat.lt_succ_self _) ?_
  exact hK.kids.lies (fun b hb => ⟨by have := hb.1; rw [World.size_alloc] at this; exact this, hb.2.1⟩) (fun g hg => by have := hK.kids.blk hg; rw [World.size_alloc] at this; exact this) (by omega)
theorem isNum_is (hL : Ld w r G ts s) (hlt : s.i < ts.length) : isNum ts s = (ts[s.i].kind == 2) := by unfold isNum; rw [here_is hL.ok, lt_get hlt]
theorem isNum_not (hlt : ¬ s.i < ts.length) : isNum ts s = false := by
  unfold isNum here
  rw [List.getElem?_eq_none (by omega)]
  cases s.bad <;> rfl
def atomF (ts : List Tok) (f : Nat) (s : St) : Option (Tree × St) :=
  if eqS (txt ts s) ⟨#[40]⟩ then askedF ts f s
  else if isNum ts s then some (number ts s)
  else if eqS (txt ts (whole ts s).2) ⟨#[40]⟩ then callF ts f (whole ts s).1 (whole ts s).2 else placeF ts f (whole ts s).1 (whole ts s).2
theorem has_at (hL : Ld w r G ts s) (x : ByteArray) (hx : [x].all wordy = true) {b : Bool} (h : eqS (txt ts s) x = b) {M : Nat} {T : TypeId} (hM : M = w.heap.size) :
    Calls Tryz.prog 154 #[.pointer (some ⟨r, 0, none⟩), .slice (some ⟨M, 0, none⟩) 1 1] (w.alloc (.cells #[.string x] T)) fun e w' => e = .returned (.bool b) ∧ Ld w' r G ts s ∧ Fr r w w' :=
  (ohas (hL.alloc _) [x] M 1 (by simp) hx (Words.one w x T hM)).mono fun e w' ⟨h1, h2⟩ => ⟨by rw [h1, has_one h], by rw [h2]; exact hL.alloc _, by rw [h2]; exact Fr.al _ _⟩
/-- the end of a call that only hands on what another one answers -/
theorem OAns.hand {w3 : World} {q : Tree × St} {x0 x1 x2 x3 : Value} {w2 : World} (hr : r < w.heap.size) (hF : Fr r w w2) (hz : w.heap.size < w2.heap.size) (hb : q.2.bad = false) (hl : Lies (fun b => w2.heap.size ≤ b ∧ b < w3.heap.size) w3 q.1 (.agg #[x0, x1, x2, x3])) (hL3 : Ld w3 r G ts q.2) (hF3 : Fr r w2 w3) :
    OAns w r G ts q (.returned (.agg #[x0, x1, x2, x3])) ((((w3.setCell ⟨w.heap.size, 0, none⟩ x0).setCell ⟨w.heap.size, 1, none⟩ x1).setCell ⟨w.heap.size, 2, none⟩ x2).setCell ⟨w.heap.size, 3, none⟩ x3) :=
  OAns.fin (t := q.1) (s3 := q.2) hr (hF.trans hF3) hL3 (Nat.le_refl _) hz hl
set_option maxHeartbeats 2000000 in
theorem oatom {f : Nat} (hf : f ≤ 100000) (ihA : Gives r G ts 234 (askedF ts f)) (ih0 : ∀ {g : Nat}, g < f → Gives r G ts 235 (exprF ts g)) : Gives r G ts 275 (atomF ts f) := by
  intro w s q hL hq
  have c24 : Tryz.prog.cellsOf 24 = 4 := by kernel_rfl
  have c29 : Tryz.prog.cellsOf 70 = 3 := by kernel_rfl
  have hr := hL.lt
  have hB0 := Box4.new w (.int .i64 0) (.string empty) (.int .i64 0) (.slice none 0 0) 24
  have hL0 := hL.alloc (.cells #[.int .i64 0, .string empty, .int .i64 0, .slice none 0 0] 24)
  have hlen := hL.len
  unfold atomF at hq
  cases hp : eqS (txt ts s) ⟨#[40]⟩
  case true =>
    rw [hp, if_pos rfl] at hq
    have hH := has_at (T := 9) hL0 ⟨#[40]⟩ (by decide) hp (M := w.heap.size + 1) (by simp)
    go_enter Tryz.func275, Tryz.ntmps275
    go_wp2_with (fail)
    refine hH.mono ?_
    rintro e w1 ⟨rfl, hL1, hF1⟩
    have z1 := hF1.size
    rw [World.size_alloc] at z1
    go_wp2_with (fail)
    refine (ihA hL1 hq).mono ?_
    rintro e w9 (⟨hb9, rfl, hF9⟩ | ⟨hb9, v9, rfl, hl9, hL9, hF9⟩)
    · go_wp2
      exact ⟨rfl, OAns.lost rfl hb9 (((Fr.al _ _).trans hF1).trans hF9)⟩
    obtain ⟨k9, x9, m9, _, rfl, a9, n9, c9, rfl⟩ := hl9.shape
    obtain ⟨q0, q1', q2, q3, t0, t1, t2, t3⟩ := (hB0.fr hF1 (by omega)).fr hF9 (by omega)
    go_wp2
    exact bodyPost_ret (v := .agg #[.int .i64 k9, .string x9, .int .i64 m9, .slice a9 n9 c9]) (by simp [results, Tryz.results275, go_sem, q0, q1', q2, q3]) rfl (OAns.hand hr ((Fr.al _ _).trans hF1) (by omega) hb9 hl9 hL9 hF9)
  case false =>
    rw [hp, if_neg (by decide)] at hq
    have hH := has_at (T := 9) hL0 ⟨#[40]⟩ (by decide) hp (M := w.heap.size + 1) (by simp)
    cases hn : isNum ts s
    case true =>
      rw [hn, if_pos rfl] at hq
      simp only [Option.some.injEq] at hq
      subst hq
      have hlt : s.i < ts.length := by
        rcases Nat.lt_or_ge s.i ts.length with h | h
        · exact h
        · rw [isNum_not (by omega)] at hn
          cases hn
      have hk := (isNum_is hL hlt).symm.trans hn
      go_enter Tryz.func275, Tryz.ntmps275
      go_wp2_with (fail)
      refine hH.mono ?_
      rintro e w1 ⟨rfl, hL1, hF1⟩
      have z1 := hF1.size
      rw [World.size_alloc] at z1
      obtain ⟨a, cp, h0, h1, h2⟩ := hL1.c0
      obtain rfl := h2 hlt
      obtain ⟨y0, y1, y2⟩ := hL1.tok s.i hlt
      have hnn : 0 < ts.length - s.i := by omega
      have hnn' : ts.length - s.i ≤ 3000 := by omega
      generalize ts[s.i].kind = tk at *
      generalize ts.length - s.i = nl at *
      go_wp2_with (fail)
      refine (onumber hL1).mono ?_
      rintro e w9 (⟨hb9, rfl, hF9⟩ | ⟨hb9, v9, rfl, hl9, hL9, hF9⟩)
      · go_wp2
        exact ⟨rfl, OAns.lost rfl hb9 (((Fr.al _ _).trans hF1).trans hF9)⟩
      obtain ⟨k9, x9, m9, _, rfl, a9, n9, c9, rfl⟩ := hl9.shape
      obtain ⟨q0, q1', q2, q3, t0, t1, t2, t3⟩ := (hB0.fr hF1 (by omega)).fr hF9 (by omega)
      go_wp2
      exact bodyPost_ret (v := .agg #[.int .i64 k9, .string x9, .int .i64 m9, .slice a9 n9 c9]) (by simp [results, Tryz.results275, go_sem, q0, q1', q2, q3]) rfl (OAns.hand hr ((Fr.al _ _).trans hF1) (by omega) hb9 hl9 hL9 hF9)
    case false =>
      rw [hn, if_neg (by decide)] at hq
      obtain ⟨f, rfl⟩ : ∃ f', f = f' + 1 := by
        cases f with
        | zero => unfold callF placeF at hq; simp at hq
        | succ f => exact ⟨f, rfl⟩
      have ih : ∀ {g : Nat}, g ≤ f → Gives r G ts 235 (exprF ts g) := fun h => ih0 (by omega)
      have hf' : f ≤ 100000 := by omega
      by_cases hlt : s.i < ts.length
      · have hk := (isNum_is hL hlt).symm.trans hn
        go_enter Tryz.func275, Tryz.ntmps275
        go_wp2_with (fail)
        refine hH.mono ?_
        rintro e w1 ⟨rfl, hL1, hF1⟩
        have z1 := hF1.size
        rw [World.size_alloc] at z1
        obtain ⟨a, cp, h0, h1, h2⟩ := hL1.c0
        obtain rfl := h2 hlt
        obtain ⟨y0, y1, y2⟩ := hL1.tok s.i hlt
        have hnn : 0 < ts.length - s.i := by omega
        have hnn' : ts.length - s.i ≤ 3000 := by omega
        generalize ts[s.i].kind = tk at *
        generalize ts.length - s.i = nl at *
        go_wp2_with (fail)
        refine (olongName hL1).mono ?_
        rintro e w2 (⟨hb2, rfl, hF2⟩ | ⟨hb2, rfl, hL2, hF2⟩)
        · have HS : Hid (q.2 = (whole ts s).2) := by
            rw [eqS_bad (by decide) hb2, if_neg (by decide)] at hq
            exact (stuck ts (f + 1)).p _ _ _ hb2 hq
          go_wp2
          exact ⟨rfl, OAns.lost HS.out hb2 (((Fr.al _ _).trans hF1).trans hF2)⟩
        have z2 := hF2.size
        cases hp2 : eqS (txt ts (whole ts s).2) ⟨#[40]⟩
        case true =>
          rw [hp2, if_pos rfl] at hq
          have em := must_next hp2
          obtain ⟨p, hp3, rfl⟩ := callF_list (by rw [em]; exact hb2) hq
          rw [em] at hp3
          clear em
          go_wp2_with (fail)
          refine (skip_yes hL2 ⟨#[40]⟩ (by decide) hp2 rfl).mono ?_
          rintro e w3 ⟨rfl, hL3, hF3⟩
          have z3 := hF3.size
          go_wp2_with (fail)
          refine (ocall ih hf' _ hL3 hp3).mono ?_
          rintro e w9 (⟨hb9, rfl, hF9⟩ | ⟨hb9, v9, rfl, hl9, hL9, hF9⟩)
          · go_wp2
            exact ⟨rfl, OAns.lost rfl hb9 (((((Fr.al _ _).trans hF1).trans hF2).trans hF3).trans hF9)⟩
          obtain ⟨k9, x9, m9, _, rfl, a9, n9, c9, rfl⟩ := hl9.shape
          obtain ⟨q0, q1', q2, q3, t0, t1, t2, t3⟩ := (((hB0.fr hF1 (by omega)).fr hF2 (by omega)).fr hF3 (by omega)).fr hF9 (by omega)
          go_wp2
          exact bodyPost_ret (v := .agg #[.int .i64 k9, .string x9, .int .i64 m9, .slice a9 n9 c9]) (by simp [results, Tryz.results275, go_sem, q0, q1', q2, q3]) rfl (OAns.hand hr ((((Fr.al _ _).trans hF1).trans hF2).trans hF3) (by omega) hb9 hl9 hL9 hF9)
        case false =>
          rw [hp2, if_neg (by decide)] at hq
          go_wp2_with (fail)
          refine (skip_no hL2 ⟨#[40]⟩ (by decide) hp2 rfl).mono ?_
          rintro e w3 ⟨rfl, hL3, hF3⟩
          have z3 := hF3.size
          go_wp2_with (fail)
          refine (oplace (ih (Nat.le_refl _)) _ hL3 hq).mono ?_
          rintro e w9 (⟨hb9, rfl, hF9⟩ | ⟨hb9, v9, rfl, hl9, hL9, hF9⟩)
          · go_wp2
            exact ⟨rfl, OAns.lost rfl hb9 (((((Fr.al _ _).trans hF1).trans hF2).trans hF3).trans hF9)⟩
          obtain ⟨k9, x9, m9, _, rfl, a9, n9, c9, rfl⟩ := hl9.shape
          obtain ⟨q0, q1', q2, q3, t0, t1, t2, t3⟩ := (((hB0.fr hF1 (by omega)).fr hF2 (by omega)).fr hF3 (by omega)).fr hF9 (by omega)
          go_wp2
          exact bodyPost_ret (v := .agg #[.int .i64 k9, .string x9, .int .i64 m9, .slice a9 n9 c9]) (by simp [results, Tryz.results275, go_sem, q0, q1', q2, q3]) rfl (OAns.hand hr ((((Fr.al _ _).trans hF1).trans hF2).trans hF3) (by omega) hb9 hl9 hL9 hF9)
      · go_enter Tryz.func275, Tryz.ntmps275
        go_wp2_with (fail)
        refine hH.mono ?_
        rintro e w1 ⟨rfl, hL1, hF1⟩
        have z1 := hF1.size
        rw [World.size_alloc] at z1
        obtain ⟨a, cp, h0, h1, h2⟩ := hL1.c0
        have hnn : ts.length - s.i = 0 := by omega
        rw [hnn] at h0
        go_wp2_with (fail)
        refine (olongName hL1).mono ?_
        rintro e w2 (⟨hb2, rfl, hF2⟩ | ⟨hb2, rfl, hL2, hF2⟩)
        · have HS : Hid (q.2 = (whole ts s).2) := by
            rw [eqS_bad (by decide) hb2, if_neg (by decide)] at hq
            exact (stuck ts (f + 1)).p _ _ _ hb2 hq
          go_wp2
          exact ⟨rfl, OAns.lost HS.out hb2 (((Fr.al _ _).trans hF1).trans hF2)⟩
        have z2 := hF2.size
        cases hp2 : eqS (txt ts (whole ts s).2) ⟨#[40]⟩
        case true =>
          rw [hp2, if_pos rfl] at hq
          have em := must_next hp2
          obtain ⟨p, hp3, rfl⟩ := callF_list (by rw [em]; exact hb2) hq
          rw [em] at hp3
          clear em
          go_wp2_with (fail)
          refine (skip_yes hL2 ⟨#[40]⟩ (by decide) hp2 rfl).mono ?_
          rintro e w3 ⟨rfl, hL3, hF3⟩
          have z3 := hF3.size
          go_wp2_with (fail)
          refine (ocall ih hf' _ hL3 hp3).mono ?_
          rintro e w9 (⟨hb9, rfl, hF9⟩ | ⟨hb9, v9, rfl, hl9, hL9, hF9⟩)
          · go_wp2
            exact ⟨rfl, OAns.lost rfl hb9 (((((Fr.al _ _).trans hF1).trans hF2).trans hF3).trans hF9)⟩
          obtain ⟨k9, x9, m9, _, rfl, a9, n9, c9, rfl⟩ := hl9.shape
          obtain ⟨q0, q1', q2, q3, t0, t1, t2, t3⟩ := (((hB0.fr hF1 (by omega)).fr hF2 (by omega)).fr hF3 (by omega)).fr hF9 (by omega)
          go_wp2
          exact bodyPost_ret (v := .agg #[.int .i64 k9, .string x9, .int .i64 m9, .slice a9 n9 c9]) (by simp [results, Tryz.results275, go_sem, q0, q1', q2, q3]) rfl (OAns.hand hr ((((Fr.al _ _).trans hF1).trans hF2).trans hF3) (by omega) hb9 hl9 hL9 hF9)
        case false =>
          rw [hp2, if_neg (by decide)] at hq
          go_wp2_with (fail)
          refine (skip_no hL2 ⟨#[40]⟩ (by decide) hp2 rfl).mono ?_
          rintro e w3 ⟨rfl, hL3, hF3⟩
          have z3 := hF3.size
          go_wp2_with (fail)
          refine (oplace (ih (Nat.le_refl _)) _ hL3 hq).mono ?_
          rintro e w9 (⟨hb9, rfl, hF9⟩ | ⟨hb9, v9, rfl, hl9, hL9, hF9⟩)
          · go_wp2
            exact ⟨rfl, OAns.lost rfl hb9 (((((Fr.al _ _).trans hF1).trans hF2).trans hF3).trans hF9)⟩
          obtain ⟨k9, x9, m9, _, rfl, a9, n9, c9, rfl⟩ := hl9.shape
          obtain ⟨q0, q1', q2, q3, t0, t1, t2, t3⟩ := (((hB0.fr hF1 (by omega)).fr hF2 (by omega)).fr hF3 (by omega)).fr hF9 (by omega)
          go_wp2
          exact bodyPost_ret (v := .agg #[.int .i64 k9, .string x9, .int .i64 m9, .slice a9 n9 c9]) (by simp [results, Tryz.results275, go_sem, q0, q1', q2, q3]) rfl (OAns.hand hr ((((Fr.al _ _).trans hF1).trans hF2).trans hF3) (by omega) hb9 hl9 hL9 hF9)
set_option maxHeartbeats 2000000 in
theorem oprefixed {f : Nat} (ihU : Gives r G ts 271 (unaryF ts f)) (ihA : Gives r G ts 275 (atomF ts f)) : Gives r G ts 271 (unaryF ts (f + 1)) := by
  intro w s q hL hq
  have c24 : Tryz.prog.cellsOf 24 = 4 := by kernel_rfl
  have hr := hL.lt
  have hB0 := Box4.new w (.int .i64 0) (.string empty) (.int .i64 0) (.slice none 0 0) 24
  have hL0 := hL.alloc (.cells #[.int .i64 0, .string empty, .int .i64 0, .slice none 0 0] 24)
  unfold unaryF at hq
  cases hm : eqS (txt ts s) ⟨#[45]⟩
  case true =>
    rw [hm, if_pos rfl] at hq
    obtain ⟨q1, h1, h2⟩ := bind_some_is hq
    simp only [Option.some.injEq] at h2
    subst h2
    have hE := skip_yes (T := 9) hL0 ⟨#[45]⟩ (by decide) hm (M := w.heap.size + 1) (by simp)
    go_enter Tryz.func271, Tryz.ntmps271
    go_wp2_with (fail)
    refine hE.mono ?_
    rintro e w1 ⟨rfl, hL1, hF1⟩
    have z1 := hF1.size
    rw [World.size_alloc] at z1
    go_wp2_with (fail)
    refine (ihU hL1 h1).mono ?_
    rintro e w2 (⟨hb2, rfl, hF2⟩ | ⟨hb2, v2, rfl, hl2, hL2, hF2⟩)
    · go_wp2
      exact ⟨rfl, OAns.lost rfl hb2 (((Fr.al _ _).trans hF1).trans hF2)⟩
    obtain ⟨k, y, m, _, rfl, a, n, c, rfl⟩ := hl2.shape
    have z2 := hF2.size
    have hz : w.heap.size < w2.heap.size := by omega
    obtain ⟨q0, q1', q2, q3, t0, t1, t2, t3⟩ := (hB0.fr hF1 (by omega)).fr hF2 (by omega)
    go_wp2
    refine bodyPost_ret (v := .agg #[.int .i64 20, .string empty, .int .i64 0, .slice (some ⟨w2.heap.size, 0, none⟩) 1 1]) (by simp [results, Tryz.results271, go_sem, q0, q1', q2, q3, hz, empty]) rfl ?_
    have hput := Fr.put w2 w.heap.size (.int .i64 20) (.string empty) (.int .i64 0) (.slice (some ⟨w2.heap.size, 0, none⟩) 1 1)
    have hl3 := (hl2.fr (show w.heap.size < w1.heap.size by omega) hput).low (show w.heap.size ≤ w1.heap.size by omega)
    exact .inr ⟨hb2, _, rfl, hl3.rowed (by simp; omega) (by simp), (hL2.put4 (by omega) _ _ _ _).alloc _, ((((Fr.al _ _).trans hF1).trans hF2).put4 (Nat.le_refl _) _ _ _ _).alloc _⟩
  case false =>
    rw [hm, if_neg (by decide)] at hq
    have hE := skip_no (T := 9) hL0 ⟨#[45]⟩ (by decide) hm (M := w.heap.size + 1) (by simp)
    cases hx : eqS (txt ts s) ⟨#[33]⟩
    case true =>
      rw [hx, if_pos rfl] at hq
      obtain ⟨q1, h1, h2⟩ := bind_some_is hq
      simp only [Option.some.injEq] at h2
      subst h2
      go_enter Tryz.func271, Tryz.ntmps271
      go_wp2_with (fail)
      refine hE.mono ?_
      rintro e w0 ⟨rfl, hL00, hF0⟩
      go_wp2_with (fail)
      refine (skip_yes hL00 ⟨#[33]⟩ (by decide) hx rfl).mono ?_
      rintro e w1 ⟨rfl, hL1, hF1'⟩
      have hF1 := hF0.trans hF1'
      have z1 := hF1.size
      rw [World.size_alloc] at z1
      go_wp2_with (fail)
      refine (ihU hL1 h1).mono ?_
      rintro e w2 (⟨hb2, rfl, hF2⟩ | ⟨hb2, v2, rfl, hl2, hL2, hF2⟩)
      · go_wp2
        exact ⟨rfl, OAns.lost rfl hb2 (((Fr.al _ _).trans hF1).trans hF2)⟩
      obtain ⟨k, y, m, _, rfl, a, n, c, rfl⟩ := hl2.shape
      have z2 := hF2.size
      have hz : w.heap.size < w2.heap.size := by omega
      obtain ⟨q0, q1', q2, q3, t0, t1, t2, t3⟩ := (hB0.fr hF1 (by omega)).fr hF2 (by omega)
      go_wp2
      refine bodyPost_ret (v := .agg #[.int .i64 21, .string empty, .int .i64 0, .slice (some ⟨w2.heap.size, 0, none⟩) 1 1]) (by simp [results, Tryz.results271, go_sem, q0, q1', q2, q3, hz, empty]) rfl ?_
      have hput := Fr.put w2 w.heap.size (.int .i64 21) (.string empty) (.int .i64 0) (.slice (some ⟨w2.heap.size, 0, none⟩) 1 1)
      have hl3 := (hl2.fr (show w.heap.size < w1.heap.size by omega) hput).low (show w.heap.size ≤ w1.heap.size by omega)
      exact .inr ⟨hb2, _, rfl, hl3.rowed (by simp; omega) (by simp), (hL2.put4 (by omega) _ _ _ _).alloc _, ((((Fr.al _ _).trans hF1).trans hF2).put4 (Nat.le_refl _) _ _ _ _).alloc _⟩
    case false =>
      rw [hx, if_neg (by decide)] at hq
      go_enter Tryz.func271, Tryz.ntmps271
      go_wp2_with (fail)
      refine hE.mono ?_
      rintro e w0 ⟨rfl, hL00, hF0⟩
      go_wp2_with (fail)
      refine (skip_no hL00 ⟨#[33]⟩ (by decide) hx rfl).mono ?_
      rintro e w1 ⟨rfl, hL1, hF1'⟩
      have hF1 := hF0.trans hF1'
      have z1 := hF1.size
      rw [World.size_alloc] at z1
      go_wp2_with (fail)
      refine (ihA hL1 (q := q) hq).mono ?_
      rintro e w9 (⟨hb9, rfl, hF9⟩ | ⟨hb9, v9, rfl, hl9, hL9, hF9⟩)
      · go_wp2
        exact ⟨rfl, OAns.lost rfl hb9 (((Fr.al _ _).trans hF1).trans hF9)⟩
      obtain ⟨k9, x9, m9, _, rfl, a9, n9, c9, rfl⟩ := hl9.shape
      obtain ⟨q0, q1', q2, q3, t0, t1, t2, t3⟩ := (hB0.fr hF1 (by omega)).fr hF9 (by omega)
      go_wp2
      exact bodyPost_ret (v := .agg #[.int .i64 k9, .string x9, .int .i64 m9, .slice a9 n9 c9]) (by simp [results, Tryz.results271, go_sem, q0, q1', q2, q3]) rfl (OAns.hand hr ((Fr.al _ _).trans hF1) (by omega) hb9 hl9 hL9 hF9)
end
end syn
namespace syn
open Go.RowKit
open Go.Proofs.YtoobkaebahogdaaGreatDoor.lexs (Tok Fine)

section
variable {r G : Nat} {ts : List Tok}
structure GoodX (r G : Nat) (ts : List Tok) (f : Nat) : Prop where
  e : Gives r G ts 235 (exprF ts f)
  b1 : Gives r G ts 250 (boundF ts f 1)
  b2 : Gives r G ts 261 (boundF ts f 2)
  b3 : Gives r G ts 271 (boundF ts f 3)
  u : Gives r G ts 271 (unaryF ts f)
  a : Gives r G ts 234 (askedF ts f)
  p : ∀ (x : ByteArray) {w : World} {s : St} {q : Tree × St}, Ld w r G ts s → placeF ts f x s = some q → Calls Tryz.prog 236 #[.pointer (some ⟨r, 0, none⟩), .string x] w (OAns w r G ts q)
theorem goodX0 : GoodX r G ts 0 :=
  ⟨fun {w s q} _ h => by simp [exprF] at h, fun {w s q} _ h => by simp [boundF] at h, fun {w s q} _ h => by simp [boundF] at h, fun {w s q} _ h => by simp [boundF] at h, fun {w s q} _ h => by simp [unaryF] at h, fun {w s q} _ h => by simp [askedF] at h, fun x {w s q} _ h => by simp [placeF] at h⟩
theorem goodX (r G : Nat) (ts : List Tok) (F : Nat) (hF : F ≤ 100000) : ∀ {f : Nat}, f ≤ F → GoodX r G ts f := by
  induction F with
  | zero => intro f hf; obtain rfl : f = 0 := by omega
            exact goodX0
  | succ F ih =>
    intro f hf
    have IH : ∀ {g : Nat}, g ≤ F → GoodX r G ts g := ih (by omega)
    rcases Nat.lt_or_ge f (F + 1) with h | h
    · exact IH (by omega)
    obtain rfl : f = F + 1 := by omega
    refine ⟨?_, osum fun h => (IH h).b2, oproduct fun h => (IH h).b3, ?_, oprefixed (IH (Nat.le_refl _)).u (oatom (by omega) (IH (Nat.le_refl _)).a (fun h => (IH (by omega)).e)), oenclosed (IH (Nat.le_refl _)).e, fun x {w s q} hL hq => oplace (IH (Nat.le_refl _)).e x hL hq⟩
    · cases F with
      | zero =>
        intro w s q hL h
        unfold exprF at h
        rw [hL.ok] at h
        simp [boundF] at h
      | succ F => exact oexpr fun h => (IH (by omega)).b1
    · intro w s q hL h
      unfold boundF at h
      rw [if_pos (by decide)] at h
      exact (IH (Nat.le_refl _)).u hL h
end
end syn
namespace syn
open Go.RowKit
open Go.Proofs.YtoobkaebahogdaaGreatDoor.lexs (Tok Fine own_shape)

section
variable {w w' w0 : World} {r G B : Nat} {ts : List Tok} {s : St}
def localF (ts : List Tok) (f : Nat) (s : St) : Option (Tree × St) :=
  (exprF ts f (must ts ⟨#[61]⟩ (name ts (label ts s).2).2)).bind fun x => some (.node 7 (name ts (label ts s).2).1 (label ts s).1 [x.1], x.2)
def setF (ts : List Tok) (f : Nat) (s : St) : Option (Tree × St) :=
  (placeF ts f (whole ts s).1 (whole ts s).2).bind fun x => (exprF ts f (must ts ⟨#[61]⟩ x.2)).bind fun y => some (.node 8 empty 0 [x.1, y.1], y.2)
set_option maxHeartbeats 2000000 in
theorem olocal {f : Nat} (ih : Gives r G ts 235 (exprF ts f)) : Gives r G ts 230 (localF ts f) := by
  intro w s q hL hq
  have c24 : Tryz.prog.cellsOf 24 = 4 := by kernel_rfl
  have hr := hL.lt
  have hB0 := Box4.new w (.int .i64 0) (.string empty) (.int .i64 0) (.slice none 0 0) 24
  unfold localF at hq
  obtain ⟨q1, h1, h2⟩ := bind_some_is hq
  simp only [Option.some.injEq] at h2
  subst h2
  clear hq
  have S1 : Hid ((label ts s).2.bad = true → q1.2 = (label ts s).2) := fun hb => by
    have e1 := name_st (ts := ts) hb
    rw [e1, must_st (by decide) hb] at h1
    exact (stuck ts f).e _ _ hb h1
  have S2 : Hid ((name ts (label ts s).2).2.bad = true → q1.2 = (name ts (label ts s).2).2) := fun hb => by
    rw [must_st (by decide) hb] at h1
    exact (stuck ts f).e _ _ hb h1
  have S3 : Hid ((must ts ⟨#[61]⟩ (name ts (label ts s).2).2).bad = true → q1.2 = must ts ⟨#[61]⟩ (name ts (label ts s).2).2) := fun hb => (stuck ts f).e _ _ hb h1
  have hLab := olabel (hL.alloc (.cells #[.int .i64 0, .string empty, .int .i64 0, .slice none 0 0] 24))
  generalize label ts s = lb at *
  obtain ⟨lm, ls⟩ := lb
  have hNam := fun (w : World) (h : Ld w r G ts ls) => oname h
  simp only at *
  generalize name ts ls = nb at *
  obtain ⟨nx, ns⟩ := nb
  simp only at *
  go_enter Tryz.func230, Tryz.ntmps230
  go_wp2_with (fail)
  refine hLab.mono ?_
  rintro e w1 (⟨hb, rfl, hF1⟩ | ⟨hb, rfl, hL1, hF1⟩)
  · go_wp2
    exact ⟨rfl, OAns.lost (S1.out hb) hb ((Fr.al _ _).trans hF1)⟩
  go_wp2_with (fail)
  refine (hNam _ hL1).mono ?_
  rintro e w2 (⟨hb2, rfl, hF2⟩ | ⟨hb2, rfl, hL2, hF2⟩)
  · go_wp2
    exact ⟨rfl, OAns.lost (S2.out hb2) hb2 (((Fr.al _ _).trans hF1).trans hF2)⟩
  go_wp2_with (fail)
  refine (take_must (hL2.alloc _) ⟨#[61]⟩ (by decide) (by simp)).mono ?_
  rintro e w3 ⟨y3, ⟨hb3, rfl, hF3⟩ | ⟨hb3, rfl, hL3, hF3⟩⟩
  · go_wp2
    exact ⟨rfl, OAns.lost (S3.out hb3) hb3 ((((Fr.al _ _).trans hF1).trans hF2).trans ((Fr.al _ _).trans hF3))⟩
  go_wp2_with (fail)
  refine (ih hL3 h1).mono ?_
  rintro e w4 (⟨hb4, rfl, hF4⟩ | ⟨hb4, v4, rfl, hl4, hL4, hF4⟩)
  · go_wp2
    exact ⟨rfl, OAns.lost rfl hb4 (((((Fr.al _ _).trans hF1).trans hF2).trans ((Fr.al _ _).trans hF3)).trans hF4)⟩
  obtain ⟨k, x, m, _, rfl, a, n, c, rfl⟩ := hl4.shape
  have z1 := hF1.size
  have z2 := hF2.size
  have z3 := hF3.size
  have z4 := hF4.size
  rw [World.size_alloc] at z1 z3
  obtain ⟨q0, q1', q2, q3, t0, t1, t2, t3⟩ := ((((hB0.fr hF1 (by omega)).fr hF2 (by omega)).alloc _).fr hF3 (by omega)).fr hF4 (by omega)
  obtain ⟨p0, p1, p2, p3, u0, u1, u2, u3⟩ := ((Box4.new w2 (.int .i64 7) (.string nx) (.int .i64 lm) (.slice none 0 0) 24).fr hF3 (by omega)).fr hF4 (by omega)
  have hz0 : w.heap.size < w4.heap.size := by omega
  have hz2 : w2.heap.size < w4.heap.size := by omega
  go_wp2
  refine bodyPost_ret (v := .agg #[.int .i64 7, .string nx, .int .i64 lm, .slice (some ⟨w4.heap.size, 0, none⟩) 1 1]) (by simp [results, Tryz.results230, go_sem, q0, q1', q2, q3, hz0, hz2]) rfl ?_
  have hFw : Fr r w w4 := ((((Fr.al _ _).trans hF1).trans hF2).trans ((Fr.al _ _).trans hF3)).trans hF4
  have l5 := hl4.frP (x := w2.heap.size) ((Fr.refl w2.heap.size w4).set 3 (.slice (some ⟨w4.heap.size, 0, none⟩) 1 1)) (fun b hb => ⟨hb.2, by omega⟩) (fun b hb => (⟨hb.1, by rw [World.size_setCell]; exact hb.2⟩ : w3.heap.size ≤ b ∧ b < (w4.setCell ⟨w2.heap.size, 3, none⟩ (.slice (some ⟨w4.heap.size, 0, none⟩) 1 1)).heap.size))
  have hput := Fr.put (w4.setCell ⟨w2.heap.size, 3, none⟩ (.slice (some ⟨w4.heap.size, 0, none⟩) 1 1)) w.heap.size (.int .i64 7) (.string nx) (.int .i64 lm) (.slice (some ⟨w4.heap.size, 0, none⟩) 1 1)
  exact .inr ⟨hb4, _, rfl, ((l5.fr (show w.heap.size < w3.heap.size by omega) hput).low (show w.heap.size ≤ w3.heap.size by omega)).rowed (by simp; omega) (by simp), ((hL4.set (by omega) 3 _).put4 (by omega) _ _ _ _).alloc _, ((hFw.setNew (by omega) _).put4 (Nat.le_refl _) _ _ _ _).alloc _⟩
set_option maxHeartbeats 2000000 in
theorem oset {f : Nat} (ihP : ∀ (x : ByteArray) {w : World} {s : St} {q : Tree × St}, Ld w r G ts s → placeF ts f x s = some q → Calls Tryz.prog 236 #[.pointer (some ⟨r, 0, none⟩), .string x] w (OAns w r G ts q)) (ih : Gives r G ts 235 (exprF ts f)) : Gives r G ts 237 (setF ts f) := by
  intro w s q hL hq
  have c24 : Tryz.prog.cellsOf 24 = 4 := by kernel_rfl
  have hr := hL.lt
  have hB0 := Box4.new w (.int .i64 0) (.string empty) (.int .i64 0) (.slice none 0 0) 24
  unfold setF at hq
  obtain ⟨q1, h1, h2⟩ := bind_some_is hq
  obtain ⟨q2, h3, h4⟩ := bind_some_is h2
  simp only [Option.some.injEq] at h4
  subst h4
  clear hq h2
  have S2 : Hid (q1.2.bad = true → q2.2 = q1.2) := fun hb => by
    rw [must_st (by decide) hb] at h3
    exact (stuck ts f).e _ _ hb h3
  have S1 : Hid ((whole ts s).2.bad = true → q2.2 = (whole ts s).2) := fun hb => by
    have e1 := (stuck ts f).p _ _ _ hb h1
    rw [S2.out (by rw [e1]; exact hb), e1]
  have S3 : Hid ((must ts ⟨#[61]⟩ q1.2).bad = true → q2.2 = must ts ⟨#[61]⟩ q1.2) := fun hb => (stuck ts f).e _ _ hb h3
  have hLab := olongName (hL.alloc (.cells #[.int .i64 0, .string empty, .int .i64 0, .slice none 0 0] 24))
  generalize whole ts s = lb at *
  obtain ⟨nx, ns⟩ := lb
  simp only at *
  go_enter Tryz.func237, Tryz.ntmps237
  go_wp2_with (fail)
  refine hLab.mono ?_
  rintro e w1 (⟨hb, rfl, hF1⟩ | ⟨hb, rfl, hL1, hF1⟩)
  · go_wp2
    exact ⟨rfl, OAns.lost (S1.out hb) hb ((Fr.al _ _).trans hF1)⟩
  go_wp2_with (fail)
  refine (ihP nx hL1 h1).mono ?_
  rintro e w2 (⟨hb2, rfl, hF2⟩ | ⟨hb2, v2, rfl, hl2, hL2, hF2⟩)
  · go_wp2
    exact ⟨rfl, OAns.lost (S2.out hb2) hb2 (((Fr.al _ _).trans hF1).trans hF2)⟩
  obtain ⟨k, x, m, _, rfl, a, n, c, rfl⟩ := hl2.shape
  go_wp2_with (fail)
  refine (take_must (hL2.alloc _) ⟨#[61]⟩ (by decide) (by simp)).mono ?_
  rintro e w3 ⟨y3, ⟨hb3, rfl, hF3⟩ | ⟨hb3, rfl, hL3, hF3⟩⟩
  · go_wp2
    exact ⟨rfl, OAns.lost (S3.out hb3) hb3 ((((Fr.al _ _).trans hF1).trans hF2).trans ((Fr.al _ _).trans hF3))⟩
  have z1 := hF1.size
  have z2 := hF2.size
  have z3 := hF3.size
  rw [World.size_alloc] at z1 z3
  have hB1 := (Box4.new w2 (.int .i64 k) (.string x) (.int .i64 m) (.slice a n c) 24).fr hF3 (by omega)
  have hB3 := (((hB0.fr hF1 (by omega)).fr hF2 (by omega)).alloc _).fr hF3 (by omega)
  obtain ⟨p0, p1, p2, p3, u0, u1, u2, u3⟩ := id hB1
  have hFw : Fr r w w3 := (((Fr.al _ _).trans hF1).trans hF2).trans ((Fr.al _ _).trans hF3)
  by_cases hbq : q2.2.bad = true
  · go_wp2
    refine wp_region_any (by kernel_rfl) ?_
    change wpAny _ _ _ _ _ _ _ (World.drew _)
    refine wpAny_take (i := 1) (v := .pointer (some ⟨r, 0, none⟩)) rfl (by kernel_rfl) (by kernel_rfl) (by kernel_rfl) (fun _ _ _ h => h) (Or.inl ⟨by rfl, fun w => by go_simp⟩) ?_
    refine wpAny_ready (rs := [0, 2]) (by kernel_rfl) (by simp) ?_
    refine AllReady.cons rfl (fun K hK => ?_) ?_
    · go_simp
      refine hK _ _ ?_
      clear hK K
      refine wpAny_ready (rs := [2]) (by kernel_rfl) (by simp) ?_
      refine AllReady.cons rfl (fun K hK => ?_) AllReady.nil
      go_simp
      go_at_call 235
      refine (ih.lost (hL3.drewN 1) h3 hbq).mono ?_
      rintro e w4 ⟨rfl, hF4⟩
      go_wp2
      exact ⟨rfl, OAns.lost rfl hbq ((hFw.drewN 1).trans hF4)⟩
    refine AllReady.cons rfl (fun K hK => ?_) AllReady.nil
    go_simp
    go_at_call 235
    refine (ih.lost (hL3.drewN 1) h3 hbq).mono ?_
    rintro e w4 ⟨rfl, hF4⟩
    go_wp2
    exact ⟨rfl, OAns.lost rfl hbq ((hFw.drewN 1).trans hF4)⟩
  · have hbq' : q2.2.bad = false := by simpa using hbq
    go_wp2
    go_region_with (go_at_call 235; refine (ih.fine (hL3.drewN 1) h3 hbq').mono ?_; rintro e w4 ⟨v4, rfl, hl4, hL4, hF4⟩; obtain ⟨k4, x4, m4, _, rfl, a4, n4, c4, rfl⟩ := hl4.shape; obtain ⟨g0, g1, g2, g3, _, _, _, _⟩ := (hB1.drewN 1).fr hF4 (by omega); obtain ⟨f0, f1, f2, f3, i0, i1, i2, i3⟩ := (hB3.drewN 1).fr hF4 (by omega); have y4 : w.heap.size < w4.heap.size := ((hB3.drewN 1).fr hF4 (by omega)).lt)
    all_goals
      go_wp2
      refine bodyPost_ret (v := .agg #[.int .i64 8, .string empty, .int .i64 0, .slice (some ⟨w4.heap.size, 0, none⟩) 2 2]) (by simp [results, Tryz.results237, go_sem, f0, f1, f2, f3, y4, empty]) rfl ?_
      have hF34 : Fr r w3 w4 := ((Fr.refl r w3).drewN 1).trans hF4
      have y3' := hF34.size
      have m3' : Lies (fun b => w.heap.size < b ∧ b < w4.heap.size) w4 q2.1 (.agg #[.int .i64 k4, .string x4, .int .i64 m4, .slice a4 n4 c4]) := hl4.to (fun b hb => by
        have h1 : w3.heap.size ≤ b := hb.1
        exact ⟨by omega, hb.2⟩) (fun _ _ _ => rfl)
      have n3' : Lies (fun b => w.heap.size < b ∧ b < w4.heap.size) w4 q1.1 (.agg #[.int .i64 k, .string x, .int .i64 m, .slice a n c]) := hl2.frP (x := r) (((Fr.al _ _).trans hF3).trans hF34) (fun b hb => ⟨hb.2, by omega⟩) (fun b hb => ⟨by omega, by omega⟩)
      have hput := Fr.put w4 w.heap.size (.int .i64 8) (.string empty) (.int .i64 0) (.slice (some ⟨w4.heap.size, 0, none⟩) 2 2)
      have n4' := n3'.frP (x := w.heap.size) hput (fun b hb => ⟨hb.2, by omega⟩) (fun b hb => hb)
      have m4' := m3'.frP (x := w.heap.size) hput (fun b hb => ⟨hb.2, by omega⟩) (fun b hb => hb)
      exact .inr ⟨hbq', _, rfl, n4'.rowed2P m4' (fun b hb => by simpa using hb.2) (fun b hb => ⟨by omega, by simp; omega⟩) (by simp) ⟨by omega, by simp⟩, (hL4.put4 (by omega) _ _ _ _).alloc _, ((hFw.trans hF34).put4 (Nat.le_refl _) _ _ _ _).alloc _⟩
end
end syn
end Go.Proofs.YtoobkaebahogdaaGreatDoor
