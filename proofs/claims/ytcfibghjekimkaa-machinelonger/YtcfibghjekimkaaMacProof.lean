/- Proved: for every image, such as may not be among them, both inputs and every two numbers, the law MachineLonger answers true, and all that was handed in reads afterwards as it did: no condition narrows it. -/
import Derived.Test.YtcfibghjekimkaaRows
import Derived.WalkKit
import Derived.ProofKit
import Derived.OpenShut
import Derived.Below
import Derived.ChangeOld
import Derived.ChangeBook
import Derived.ChangeBears
import Derived.ChangeStays
import Derived.SizedLaws
import Derived.Deep.Frames
import Derived.Deep.DeepHandedRow
import Derived.WalkLawsBesides
import Derived.Deep.Slices
import Derived.Lib.SmallJoins
import Derived.Test.YtcfibghjekimkaaMacLonger
namespace Go.Proofs.Ytcfibghjekimkaa.machineLonger
open Go.ChangeShapes Go.WideShapes Go.ChangeAt Go.RowKit
open Go.Proofs.Ytcfibghjekimkaa.mac
set_option linter.unusedVariables false
set_option maxRecDepth 100000
theorem own : ownKnob Try.prog.godebug = none := by kernel_rfl
theorem laidOut : laidOutB Try.prog = true := by kernel_rfl
theorem plain_addr {w : World} {a : Addr} {v : Value} (h : w.cell? a = some v) : ∃ g o, a = ⟨g, o, none⟩ := by
  obtain ⟨g, o, s⟩ := a
  cases s with
  | none => exact ⟨g, o, rfl⟩
  | some s =>
    unfold World.cell? at h
    simp only at h
    split at h
    · simp at h
    · cases h
section
variable {H : Type} {enc : TypeId × Value → H} {W : World} {n : Nat}
theorem cell1 : Try.prog.cellsOf 2 = 1 := by kernel_rfl
theorem cell1i : Try.prog.cellsOf 3 = 1 := by kernel_rfl
theorem cell1l : Try.prog.cellsOf 25 = 1 := by kernel_rfl
theorem cell1c : Try.prog.cellsOf 22 = 1 := by kernel_rfl
theorem cell5 : Try.prog.cellsOf 46 = 5 := by kernel_rfl
theorem cell3 : Try.prog.cellsOf 24 = 3 := by kernel_rfl
theorem open_ints' {v : Value} {x : DataW H × List MemPlace} (h : DataW.trod enc Try.prog W 0 (fun _ => true) true n 25 [v] = some x) : ∃ l, IntsIn W v l := by
  rcases open_ints Try.underlying25 Try.underlying2 cell1 h with ⟨h0, _⟩ | ⟨a, len, cap, zs, h0, _, hl, hm, hz, _, hc, _⟩
  · simp only [List.cons.injEq, and_true] at h0
    exact ⟨[], none, 0, h0, fun h => absurd rfl h⟩
  · simp only [List.cons.injEq, and_true] at h0
    simp only [if_true] at hz
    have hlen : (zs.take len).length = len := by rw [List.length_take]; omega
    refine ⟨zs.take len, some a, cap, by rw [hlen]; exact h0, fun hne => ?_⟩
    have hpos : 0 < len := by
      rcases Nat.eq_zero_or_pos len with h | h
      · subst h; simp at hne
      · exact h
    have h00 := hc 0 (by omega)
    rw [Addr.add, if_pos rfl] at h00
    obtain ⟨g, o, rfl⟩ := plain_addr h00
    refine ⟨g, o, rfl, fun i hi => ?_⟩
    rw [hlen] at hi
    have := hc i (by omega)
    rw [add_plain] at this
    rw [this, List.getElem_take, List.getD_eq_getElem?_getD, List.getElem?_eq_getElem (by omega)]
    rfl
theorem trod_struct5 {P : Program} {w : World} {base : Nat} {spare : Nat → Bool} {held : Bool} {t : TypeId} {f0 f1 f2 f3 f4 : Field} {fuel : Nat} {cs : List Value} {x : DataW H × List MemPlace} (ht : P.underlying t = some (.struct #[f0, f1, f2, f3, f4])) (h : DataW.trod enc P w base spare held fuel t cs = some x) :
    ∃ y0 y1 y2 y3 y4 n, DataW.trod enc P w base spare held n f0.type ((cs.drop f0.offset).take (P.cellsOf f0.type)) = some y0 ∧
      DataW.trod enc P w base spare held n f1.type ((cs.drop f1.offset).take (P.cellsOf f1.type)) = some y1 ∧ DataW.trod enc P w base spare held n f2.type ((cs.drop f2.offset).take (P.cellsOf f2.type)) = some y2 ∧
      DataW.trod enc P w base spare held n f3.type ((cs.drop f3.offset).take (P.cellsOf f3.type)) = some y3 ∧ DataW.trod enc P w base spare held n f4.type ((cs.drop f4.offset).take (P.cellsOf f4.type)) = some y4 := by
  obtain ⟨xs, n, _, rfl, hl, hlen, hf⟩ := DataW.trod_struct ht h
  match xs, hlen with
  | [y0, y1, y2, y3, y4], _ => exact ⟨y0, y1, y2, y3, y4, n, by simpa using hf 0 f0 rfl, by simpa using hf 1 f1 rfl, by simpa using hf 2 f2 rfl, by simpa using hf 3 f3 rfl, by simpa using hf 4 f4 rfl⟩
theorem open_code {v : Value} {x : DataW H × List MemPlace} (h : DataW.trod enc Try.prog W 0 (fun _ => true) true n 22 [v] = some x) : ∃ l, CodeIn W v l := by
  rcases Deep.open_slice Try.underlying22 h with ⟨h0, _⟩ | ⟨a, len, cap, m, k, D, Pl, h0, _, hl, hm, hmm, rfl, hc⟩
  · simp only [List.cons.injEq, and_true] at h0
    exact ⟨[], none, 0, h0, fun h => absurd rfl h⟩
  · simp only [List.cons.injEq, and_true] at h0
    simp only [if_true] at hmm
    have each : ∀ i, i < len → ∃ q : Ins, W.cell? (a.add (i * 5)) = some (.int .i64 q.op) ∧ W.cell? (a.add (i * 5 + 1)) = some (.int .i64 q.a) ∧ W.cell? (a.add (i * 5 + 2)) = some (.int .i64 q.b) ∧ W.cell? (a.add (i * 5 + 3)) = some (.int .i64 q.c) ∧ W.cell? (a.add (i * 5 + 4)) = some (.int .i64 q.n) := by
      intro i hi
      obtain ⟨cs', h1, h2⟩ := hc i (by omega)
      rw [cell5] at h1
      obtain ⟨_, hlen, hcell⟩ := World.cells?_some h1
      obtain ⟨y0, y1, y2, y3, y4, n', t0, t1, t2, t3, t4⟩ := trod_struct5 Try.underlying46 h2
      simp only [cell1, cell1i] at t0 t1 t2 t3 t4
      match cs', hlen with
      | [c0, c1, c2, c3, c4], _ =>
        simp only [List.drop, List.take] at t0 t1 t2 t3 t4
        obtain ⟨j0, e0, _, _⟩ := DataW.trod_int Try.underlying3 t0
        obtain ⟨j1, e1, _, _⟩ := DataW.trod_int Try.underlying3 t1
        obtain ⟨j2, e2, _, _⟩ := DataW.trod_int Try.underlying3 t2
        obtain ⟨j3, e3, _, _⟩ := DataW.trod_int Try.underlying3 t3
        obtain ⟨j4, e4, _, _⟩ := DataW.trod_int Try.underlying2 t4
        simp only [List.cons.injEq, and_true] at e0 e1 e2 e3 e4
        subst e0 e1 e2 e3 e4
        refine ⟨⟨j0, j1, j2, j3, j4⟩, ?_, ?_, ?_, ?_, ?_⟩
        · simpa [Deep.add_add] using hcell 0 (by omega)
        · simpa [Deep.add_add] using hcell 1 (by omega)
        · simpa [Deep.add_add] using hcell 2 (by omega)
        · simpa [Deep.add_add] using hcell 3 (by omega)
        · simpa [Deep.add_add] using hcell 4 (by omega)
    haveI : Inhabited Ins := ⟨⟨0, 0, 0, 0, 0⟩⟩
    obtain ⟨V, hV⟩ := Deep.choose_lt each
    refine ⟨(List.range len).map V, some a, cap, by simpa using h0, fun hne => ?_⟩
    have hpos : 0 < len := by
      rcases Nat.eq_zero_or_pos len with h | h
      · subst h; simp at hne
      · exact h
    have h00 := (hV 0 hpos).1
    rw [Nat.zero_mul, Addr.add, if_pos rfl] at h00
    obtain ⟨g, o, rfl⟩ := plain_addr h00
    refine ⟨g, o, rfl, fun i hi => ?_⟩
    have := hV i (by simpa using hi)
    simp only [add_plain] at this
    simp only [List.getElem_map, List.getElem_range]
    exact this
theorem open_image {b0 : Nat} {v : Value} {d : DataW H} {p : List MemPlace} (hv : Value.okWide Try.prog W .any b0 24 v) (h : DataW.Trod enc Try.prog W 0 (fun _ => true) true 24 v d p) : ∃ cv lo hi code, v = imgV cv lo hi ∧ CodeIn W cv code := by
  obtain ⟨v0, v1, v2, y0, y1, y2, k, rfl, rfl, _, t0, t1, t2⟩ := Joins.open_agg3 Try.underlying24 (by kernel_rfl) cell3 hv h
  obtain ⟨lo, e1, _, _⟩ := DataW.trod_int Try.underlying3 t1
  obtain ⟨hi, e2, _, _⟩ := DataW.trod_int Try.underlying3 t2
  simp only [List.cons.injEq, and_true] at e1 e2
  subst e1 e2
  obtain ⟨code, hc⟩ := open_code t0
  exact ⟨v0, lo, hi, code, rfl, hc⟩
end
/-- what is read stays where nothing that was there has turned -/
theorem stays {H : Type} {enc : TypeId × Value → H} {W W' : World} {T : TypeId} {v : Value} {d : DataW H} {p : List MemPlace} (hrec : Try.prog.readableRec T = true) (hrow : T < Try.prog.types.size) (hb : Below W.heap.size W W') (h : DataW.Trod enc Try.prog W 0 (fun _ => true) true T v d p) (hlt : ∀ q ∈ p, q.block < W.heap.size) :
    DataW.Trod enc Try.prog W' 0 (fun b => decide (b < W.heap.size)) true T v d p := by
  obtain ⟨n, h⟩ := h
  have hk : W.keptBut W' (fun _ => False) := hb.frame _
  exact ⟨n, DataW.trod_stays (kids_book laidOut hrec) (book_sized hrec) (fun h => by cases h) ⟨hrow, book_self _⟩ h
    (fun p hp => hk.sameAt (hlt p hp) (fun h => h) (fun b e => by
      have := DataW.trod_good (kids_book laidOut hrec) (fun h => by cases h) n _ _ _ ⟨hrow, book_self _⟩ h p hp
      subst e
      exact this))
    (fun p hp => by simpa using hlt p hp)⟩
theorem recI : Try.prog.readableRec 24 = true := by kernel_rfl
theorem rowI : 24 < Try.prog.types.size := of_decide_eq_true (by kernel_rfl)
theorem recL : Try.prog.readableRec 25 = true := by kernel_rfl
theorem rowL : 25 < Try.prog.types.size := of_decide_eq_true (by kernel_rfl)
def zeroI : Value := .agg #[.slice none 0 0, .int .i64 0, .int .i64 0]
set_option maxHeartbeats 4000000 in
/-- what the walk gives, for every argument in every world -/
theorem contract (H : Type) (enc : TypeId × Value → H) (W : World) (base : Nat) (args : Array Value) (ds gs : List (DataW H)) (before : List MemPlace)
    (hval : ∀ (j : Nat) t v, Try.f3.params[j]? = some t → args[j]? = some v → Value.okWide Try.prog W .any base t v)
    (hW : DataW.Whole enc Try.prog Try.f3.params.toList Rows.machineLongerSpec.vars false W args.toList ds gs before) :
    Calls Try.prog 3 args W fun e W' => ∃ v, e = .returned v ∧ Rows.machineLongerSpec.post enc Try.prog Try.f3 false true false false W args v W' := by
  have hW' := hW
  have hbl := hW.lt
  obtain ⟨p, q, hA0, hV, rfl, hfz, hnd⟩ := hW
  have hA : DataW.TrodAll enc Try.prog W 0 (fun _ => true) true Try.f3.params.toList args.toList ds p := hA0
  rw [Try.params3] at hA hval
  obtain ⟨v0, vs0, d0, ds0, p0, q0, hargs, rfl, rfl, h0, r0⟩ := trodAll_cons hA
  obtain ⟨v1, vs1, d1, ds1, p1, q1, rfl, rfl, rfl, h1, r1⟩ := trodAll_cons r0
  obtain ⟨v2, vs2, d2, ds2, p2, q2, rfl, rfl, rfl, h2, r2⟩ := trodAll_cons r1
  obtain ⟨v3, vs3, d3, ds3, p3, q3, rfl, rfl, rfl, h3, r3⟩ := trodAll_cons r2
  obtain ⟨v4, vs4, d4, ds4, p4, q4, rfl, rfl, rfl, h4, r4⟩ := trodAll_cons r3
  obtain ⟨rfl, rfl, rfl⟩ := trodAll_nil r4
  obtain rfl : args = #[v0, v1, v2, v3, v4] := by cases args; simp_all
  obtain ⟨rfl, rfl⟩ := trodVars_none hV
  obtain ⟨cv, lo, hi, code, hv0, hcode⟩ := open_image (hval 0 24 v0 rfl rfl) h0
  obtain ⟨a3, rfl, rfl, rfl, w3⟩ := open_int Try.underlying3 (hval 3 3 v3 rfl rfl) h3
  obtain ⟨a4, rfl, rfl, rfl, w4⟩ := open_int Try.underlying3 (hval 4 3 v4 rfl rfl) h4
  obtain ⟨n1, h1n⟩ := id h1
  obtain ⟨n2, h2n⟩ := id h2
  obtain ⟨sa, sl, sc, rfl⟩ := okWide_slice Try.underlying25 (hval 1 25 v1 rfl rfl)
  obtain ⟨ta, tl, tc, rfl⟩ := okWide_slice Try.underlying25 (hval 2 25 v2 rfl rfl)
  obtain ⟨iL, hL⟩ := open_ints' (x := (d1, p1)) h1n
  obtain ⟨iH, hH⟩ := open_ints' (x := (d2, p2)) h2n
  subst hv0
  clear hA0
  refine (longer_walk code cv lo hi _ _ iL iH a3 a4 W hcode hL hH).mono fun e W' ⟨he, hB⟩ => ?_
  subst he
  have s0 := stays recI rowI hB h0 (fun q hq => hbl q (by simp [hq]))
  have s1 := stays recL rowL hB h1 (fun q hq => hbl q (by simp [hq]))
  have s2 := stays recL rowL hB h2 (fun q hq => hbl q (by simp [hq]))
  exact ⟨_, rfl, _, _, _, [], _, [], hW', trodAll_mk1 (shut_bool Try.underlying4 _), (trodAll_cons_mk s0 (trodAll_cons_mk s1 (trodAll_cons_mk s2 (trodAll_cons_mk (shut_int Try.underlying3 w3) (trodAll_cons_mk (shut_int Try.underlying3 w4) trodAll_mk0))))), rfl, hB.frame _, fun h => by cases h⟩
theorem lifted (os : Os) (started : os.Started) (H : Type) (enc : TypeId × Value → H) :
    ReturnsInHanded {} Try.checked os 3 .any (Rows.machineLongerSpec.pre6 enc Try.prog Try.f3 Rows.machineLongerRow.domain false) (Rows.machineLongerSpec.post enc Try.prog Try.f3 false true false false) := by
  refine returnsInHanded_of_change (C := Try.checked) own started (by kernel_rfl) Try.func3
    (ChangeSpec.witness6 (enc := enc) (C := Try.checked) false ⟨#[], #[zeroI, .slice none 0 0, .slice none 0 0, .int .i64 0, .int .i64 0], []⟩ 8 (by kernel_rfl) (by kernel_rfl) (by kernel_rfl) (by kernel_rfl)) ?_
  intro W base args ds gs before hval0 hW hcnd _
  exact contract H enc W base args ds gs before hval0 hW
theorem over : Rows.machineLongerRow.holds Try.pinned (OpenSpec.ofChange Rows.machineLongerSpec) :=
  OpenClaim.holds_of_wide 3 Try.f3 rfl rfl rfl rfl rfl rfl rfl ⟨rfl, rfl, rfl, rfl, rfl⟩ rfl rfl rfl rfl rfl (by kernel_rfl) Try.func3 (by kernel_rfl)
    (of_decide_eq_true (by kernel_rfl)) (by unfold Func.isWrapper; first | (rw [if_pos (by decide +kernel)]; kernel_rfl) | (rw [if_neg (by decide +kernel)]; exact ⟨rfl, rfl⟩))
    (fun os started H enc _ => lifted os started H enc)
/-- THE STATEMENT -/
theorem proved : Rows.MachineLongerSaid := over
#print axioms proved
end Go.Proofs.Ytcfibghjekimkaa.machineLonger
