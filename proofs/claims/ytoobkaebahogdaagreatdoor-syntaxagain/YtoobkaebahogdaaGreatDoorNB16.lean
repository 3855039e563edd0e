/- A node that came in as an argument: the tree that it is read as, and where it lies. -/
import Derived.Deep.RegionHeld
import Derived.Test.YtoobkaebahogdaaGreatDoorNB15
import Derived.Test.YtoobkaebahogdaaGreatDoorNB04
set_option linter.unusedVariables false
set_option linter.unusedSimpArgs false
set_option maxRecDepth 100000
namespace Go.Proofs.YtoobkaebahogdaaGreatDoor
namespace face
open Go.RowKit
open Go.Proofs.YtoobkaebahogdaaGreatDoor.lexs (Tok scan cellsOf tok_cells own_shape scan_own HasErr Scans)
open Go.Proofs.YtoobkaebahogdaaGreatDoor.syn (isName reserved eqS empty)

theorem eqS_lit (y : ByteArray) (l : List UInt8) : eqS y ⟨l.toArray⟩ = (y.toList == l) := by unfold eqS; rw [ByteArray.toList_eq ⟨l.toArray⟩]
theorem eqS_comm (x y : ByteArray) : eqS x y = eqS y x := by unfold eqS; rw [Bool.eq_iff_iff]; simp only [beq_iff_eq]; exact eq_comm
theorem reserved_any (x : ByteArray) : (reserved.any fun y => eqS y x) = ((x.toList == [100, 111]) || (x.toList == [101, 108, 115, 101]) || (x.toList == [103, 105, 118, 101, 115]) || (x.toList == [104, 105, 103, 104]) || (x.toList == [105, 102]) || (x.toList == [105, 109, 112, 111, 114, 116]) || (x.toList == [105, 110]) || (x.toList == [108, 111, 119]) || (x.toList == [109, 111, 100, 117, 108, 101]) || (x.toList == [111, 117, 116]) || (x.toList == [112, 114, 111, 99]) || (x.toList == [112, 117, 98]) || (x.toList == [114, 101, 116, 117, 114, 110]) || (x.toList == [119, 104, 105, 108, 101])) := by
  have h : (reserved.any fun y => eqS y x) = (reserved.any fun y => eqS x y) := by
    rw [Bool.eq_iff_iff, List.any_eq_true, List.any_eq_true]
    constructor
    · rintro ⟨y, h1, h2⟩; exact ⟨y, h1, by rw [eqS_comm]; exact h2⟩
    · rintro ⟨y, h1, h2⟩; exact ⟨y, h1, by rw [eqS_comm]; exact h2⟩
  rw [h]
  unfold reserved
  simp only [List.any_cons, List.any_nil, Bool.or_false]
  rw [show eqS x ⟨#[100, 111]⟩ = (x.toList == [100, 111]) from eqS_lit x [100, 111], show eqS x ⟨#[101, 108, 115, 101]⟩ = (x.toList == [101, 108, 115, 101]) from eqS_lit x [101, 108, 115, 101], show eqS x ⟨#[103, 105, 118, 101, 115]⟩ = (x.toList == [103, 105, 118, 101, 115]) from eqS_lit x [103, 105, 118, 101, 115], show eqS x ⟨#[104, 105, 103, 104]⟩ = (x.toList == [104, 105, 103, 104]) from eqS_lit x [104, 105, 103, 104], show eqS x ⟨#[105, 102]⟩ = (x.toList == [105, 102]) from eqS_lit x [105, 102], show eqS x ⟨#[105, 109, 112, 111, 114, 116]⟩ = (x.toList == [105, 109, 112, 111, 114, 116]) from eqS_lit x [105, 109, 112, 111, 114, 116], show eqS x ⟨#[105, 110]⟩ = (x.toList == [105, 110]) from eqS_lit x [105, 110], show eqS x ⟨#[108, 111, 119]⟩ = (x.toList == [108, 111, 119]) from eqS_lit x [108, 111, 119], show eqS x ⟨#[109, 111, 100, 117, 108, 101]⟩ = (x.toList == [109, 111, 100, 117, 108, 101]) from eqS_lit x [109, 111, 100, 117, 108, 101], show eqS x ⟨#[111, 117, 116]⟩ = (x.toList == [111, 117, 116]) from eqS_lit x [111, 117, 116], show eqS x ⟨#[112, 114, 111, 99]⟩ = (x.toList == [112, 114, 111, 99]) from eqS_lit x [112, 114, 111, 99], show eqS x ⟨#[112, 117, 98]⟩ = (x.toList == [112, 117, 98]) from eqS_lit x [112, 117, 98], show eqS x ⟨#[114, 101, 116, 117, 114, 110]⟩ = (x.toList == [114, 101, 116, 117, 114, 110]) from eqS_lit x [114, 101, 116, 117, 114, 110], show eqS x ⟨#[119, 104, 105, 108, 101]⟩ = (x.toList == [119, 104, 105, 108, 101]) from eqS_lit x [119, 104, 105, 108, 101]]
  simp only [Bool.or_assoc]
theorem oisName (k a : Int) (x : ByteArray) (w : World) :
    Calls Tryz.prog 98 #[.agg #[.int .i64 k, .string x, .int .i64 a]] w fun e w' => e = .returned (.bool (!(reserved.any fun y => eqS y x) && k == 1)) ∧ Below w.heap.size w w' := by
  have c29 : Tryz.prog.cellsOf 70 = 3 := by kernel_rfl
  rw [reserved_any]
  cases h0 : (x.toList == [100, 111])
  case true =>
    simp only [Bool.true_or, Bool.or_true, Bool.false_or, Bool.not_true, Bool.false_and]
    go_enter Tryz.func98, Tryz.ntmps98
    go_wp2
    go_ret
    exact ⟨rfl, (Below.refl _ _).alloc (Nat.le_refl _) _⟩
  cases h1 : (x.toList == [101, 108, 115, 101])
  case true =>
    simp only [Bool.true_or, Bool.or_true, Bool.false_or, Bool.not_true, Bool.false_and]
    go_enter Tryz.func98, Tryz.ntmps98
    go_wp2
    go_ret
    exact ⟨rfl, (Below.refl _ _).alloc (Nat.le_refl _) _⟩
  cases h2 : (x.toList == [103, 105, 118, 101, 115])
  case true =>
    simp only [Bool.true_or, Bool.or_true, Bool.false_or, Bool.not_true, Bool.false_and]
    go_enter Tryz.func98, Tryz.ntmps98
    go_wp2
    go_ret
    exact ⟨rfl, (Below.refl _ _).alloc (Nat.le_refl _) _⟩
  cases h3 : (x.toList == [104, 105, 103, 104])
  case true =>
    simp only [Bool.true_or, Bool.or_true, Bool.false_or, Bool.not_true, Bool.false_and]
    go_enter Tryz.func98, Tryz.ntmps98
    go_wp2
    go_ret
    exact ⟨rfl, (Below.refl _ _).alloc (Nat.le_refl _) _⟩
  cases h4 : (x.toList == [105, 102])
  case true =>
    simp only [Bool.true_or, Bool.or_true, Bool.false_or, Bool.not_true, Bool.false_and]
    go_enter Tryz.func98, Tryz.ntmps98
    go_wp2
    go_ret
    exact ⟨rfl, (Below.refl _ _).alloc (Nat.le_refl _) _⟩
  cases h5 : (x.toList == [105, 109, 112, 111, 114, 116])
  case true =>
    simp only [Bool.true_or, Bool.or_true, Bool.false_or, Bool.not_true, Bool.false_and]
    go_enter Tryz.func98, Tryz.ntmps98
    go_wp2
    go_ret
    exact ⟨rfl, (Below.refl _ _).alloc (Nat.le_refl _) _⟩
  cases h6 : (x.toList == [105, 110])
  case true =>
    simp only [Bool.true_or, Bool.or_true, Bool.false_or, Bool.not_true, Bool.false_and]
    go_enter Tryz.func98, Tryz.ntmps98
    go_wp2
    go_ret
    exact ⟨rfl, (Below.refl _ _).alloc (Nat.le_refl _) _⟩
  cases h7 : (x.toList == [108, 111, 119])
  case true =>
    simp only [Bool.true_or, Bool.or_true, Bool.false_or, Bool.not_true, Bool.false_and]
    go_enter Tryz.func98, Tryz.ntmps98
    go_wp2
    go_ret
    exact ⟨rfl, (Below.refl _ _).alloc (Nat.le_refl _) _⟩
  cases h8 : (x.toList == [109, 111, 100, 117, 108, 101])
  case true =>
    simp only [Bool.true_or, Bool.or_true, Bool.false_or, Bool.not_true, Bool.false_and]
    go_enter Tryz.func98, Tryz.ntmps98
    go_wp2
    go_ret
    exact ⟨rfl, (Below.refl _ _).alloc (Nat.le_refl _) _⟩
  cases h9 : (x.toList == [111, 117, 116])
  case true =>
    simp only [Bool.true_or, Bool.or_true, Bool.false_or, Bool.not_true, Bool.false_and]
    go_enter Tryz.func98, Tryz.ntmps98
    go_wp2
    go_ret
    exact ⟨rfl, (Below.refl _ _).alloc (Nat.le_refl _) _⟩
  cases h10 : (x.toList == [112, 114, 111, 99])
  case true =>
    simp only [Bool.true_or, Bool.or_true, Bool.false_or, Bool.not_true, Bool.false_and]
    go_enter Tryz.func98, Tryz.ntmps98
    go_wp2
    go_ret
    exact ⟨rfl, (Below.refl _ _).alloc (Nat.le_refl _) _⟩
  cases h11 : (x.toList == [112, 117, 98])
  case true =>
    simp only [Bool.true_or, Bool.or_true, Bool.false_or, Bool.not_true, Bool.false_and]
    go_enter Tryz.func98, Tryz.ntmps98
    go_wp2
    go_ret
    exact ⟨rfl, (Below.refl _ _).alloc (Nat.le_refl _) _⟩
  cases h12 : (x.toList == [114, 101, 116, 117, 114, 110])
  case true =>
    simp only [Bool.true_or, Bool.or_true, Bool.false_or, Bool.not_true, Bool.false_and]
    go_enter Tryz.func98, Tryz.ntmps98
    go_wp2
    go_ret
    exact ⟨rfl, (Below.refl _ _).alloc (Nat.le_refl _) _⟩
  cases h13 : (x.toList == [119, 104, 105, 108, 101])
  case true =>
    simp only [Bool.true_or, Bool.or_true, Bool.false_or, Bool.not_true, Bool.false_and]
    go_enter Tryz.func98, Tryz.ntmps98
    go_wp2
    go_ret
    exact ⟨rfl, (Below.refl _ _).alloc (Nat.le_refl _) _⟩
  simp only [Bool.or_false, Bool.not_false, Bool.true_and]
  go_enter Tryz.func98, Tryz.ntmps98
  go_wp2
  go_ret
  exact ⟨rfl, (Below.refl _ _).alloc (Nat.le_refl _) _⟩
theorem cell_alloc {w : World} {a : Addr} {v : Value} (h : w.cell? a = some v) (ob : Obj) : (w.alloc ob).cell? a = some v := by
  rw [((Below.refl _ _).alloc (Nat.le_refl _) ob).cell (World.block_lt_of_cell? w a h)]; exact h
set_option maxHeartbeats 1000000 in
theorem oName (x : ByteArray) (w : World) (hw : HasErr w) :
    Calls Tryz.prog 45 #[.string x] w fun e w' => e = .returned (.bool (isName x)) ∧ Below w.heap.size w w' := by
  have c29 : Tryz.prog.cellsOf 70 = 3 := by kernel_rfl
  rw [← tells_eq]
  have hS := scan_own x w hw
  obtain ⟨V, hV⟩ : ∃ V, V = tells x := ⟨_, rfl⟩
  rw [← hV]
  have HV : Hid (V = tells x) := hV
  clear hV
  generalize hR : (scan x.data.toList) = R at hS
  have HR : Hid (scan x.data.toList = R) := hR
  clear hR
  generalize hL : R.toks = L at hS
  have HL : Hid (R.toks = L) := hL
  clear hL
  generalize R.code = C, R.place = P at hS
  match L, HL, hS with
  | [], HL, hS =>
    have HF : Hid (V = false) := by show _ = _; rw [HV.out]; unfold tells; rw [HR.out, HL.out]; rfl
    go_enter Tryz.func45, Tryz.ntmps45
    go_wp2_with (go_at_call 27; refine hS.mono ?_; rintro e w1 ⟨v, rfl, hown, hb⟩; obtain ⟨a, c, rfl, _, _⟩ := own_shape hown)
    go_ret
    exact ⟨by rw [HF.out]; rfl, hb.alloc hb.size _⟩
  | [t], HL, hS =>
    have HF : Hid (V = (ownName t && eqS (raw t) x)) := by show _ = _; rw [HV.out]; unfold tells; rw [HR.out, HL.out]; rfl
    cases ho : (!(reserved.any fun y => eqS y (raw t)) && t.kind == 1)
    · have HG : Hid (V = false) := by show _ = _; rw [HF.out]; unfold ownName; rw [ho]; rfl
      go_enter Tryz.func45, Tryz.ntmps45
      go_wp2_with first
        | (go_at_call 27; refine hS.mono ?_; rintro e w1 ⟨v, rfl, hown, hb⟩; obtain ⟨a, c, rfl, _, hg⟩ := own_shape hown; obtain ⟨g, rfl⟩ := hg (by simp); obtain ⟨q0, q1, q2⟩ := tok_cells hown (k := 0) (by simp); simp only [Nat.zero_mul, Nat.zero_add, List.getElem_cons_zero] at q0 q1 q2; have r0 := fun (ob : Obj) => cell_alloc q0 ob; have r1 := fun (ob : Obj) => cell_alloc q1 ob; have r2 := fun (ob : Obj) => cell_alloc q2 ob)
        | (go_at_call 98; refine (oisName _ _ _ _).mono ?_; rw [show (⟨t.text.toArray⟩ : ByteArray) = raw t from rfl, ho]; rintro e w2 ⟨rfl, hb2⟩)
      go_ret
      exact ⟨by rw [HG.out]; rfl, lexs.below_next hb hb2⟩
    · cases he : ((raw t).toList == x.toList)
      all_goals
        have HG : Hid (V = ((raw t).toList == x.toList)) := by show _ = _; rw [HF.out]; show ((!(reserved.any fun y => eqS y (raw t)) && t.kind == 1) && eqS (raw t) x) = _; rw [ho]; rfl
        rw [he] at HG
        go_enter Tryz.func45, Tryz.ntmps45
        go_wp2_with first
          | (go_at_call 27; refine hS.mono ?_; rintro e w1 ⟨v, rfl, hown, hb⟩; obtain ⟨a, c, rfl, _, hg⟩ := own_shape hown; obtain ⟨g, rfl⟩ := hg (by simp); obtain ⟨q0, q1, q2⟩ := tok_cells hown (k := 0) (by simp); simp only [Nat.zero_mul, Nat.zero_add, List.getElem_cons_zero] at q0 q1 q2; rw [show (⟨t.text.toArray⟩ : ByteArray) = raw t from rfl] at q1; have hgl := World.block_lt_of_cell? _ _ q1; have r0 := fun (ob : Obj) => cell_alloc q0 ob; have r1 := fun (ob : Obj) => cell_alloc q1 ob; have r2 := fun (ob : Obj) => cell_alloc q2 ob)
          | (go_at_call 98; refine (oisName _ _ _ _).mono ?_; rw [ho]; rintro e w2 ⟨rfl, hb2⟩; have q3 := (hb2.cell (p := ⟨g, 1, none⟩) (by rw [World.size_alloc]; show g < _; have : g < w1.heap.size := hgl; omega)); rw [r1] at q3)
        go_ret
        exact ⟨by rw [HG.out]; rfl, lexs.below_next hb hb2⟩
  | t :: t' :: r, HL, hS =>
    have HF : Hid (V = false) := by show _ = _; rw [HV.out]; unfold tells; rw [HR.out, HL.out]; rfl
    go_enter Tryz.func45, Tryz.ntmps45
    go_wp2_with (go_at_call 27; refine hS.mono ?_; rintro e w1 ⟨v, rfl, hown, hb⟩; obtain ⟨a, c, rfl, _, _⟩ := own_shape hown)
    go_ret
    exact ⟨by rw [HF.out]; rfl, hb.alloc hb.size _⟩
end face
namespace ord
/-- an operation that yields its value in every world that meets S is taken first; its slot is written out -/
theorem tkd {P : Program} {ops : Array Oper} {Q : Exit → Act → World → Prop} {md : Region.Mode} {S : World → Prop} {i d : Nat} {oi : Oper} {v : Value} {fuel : Nat} {listed : Array Bool} {a : Act} {w : World} (hi : ops[i]? = some oi) (hd : oi.dst = some d)
    (hs : Region.noSelect ops = true) (hf : Region.free md ops listed i = true) (hr : (Region.ready md ops listed).contains i = true)
    (hQ : ∀ c a w, Q (.panic c) (a.put oi.dst v) w → Q (.panic c) a w) (hy : YieldsIf P ops S oi v a) (hS : S w)
    (h : wpAnyH P md ops Q S fuel (listed.setIfInBounds i true) { tmps := a.tmps.setIfInBounds d v, defers := a.defers } w) : wpAnyH P md ops Q S (fuel + 1) listed a w := by
  refine wpAnyH_take hi hs hf hr hQ hy hS ?_
  rw [hd]
  exact h
end ord
namespace pr
open Go.ChangeShapes Go.WideShapes Go.ChangeAt Go.RowKit
open Go.Proofs.YtoobkaebahogdaaGreatDoor.syn Go.Proofs.YtoobkaebahogdaaGreatDoor.face
theorem cellsNode : Tryz.prog.cellsOf 24 = 4 := by kernel_rfl
theorem bytesNode : Tryz.prog.bytesOf 24 = 56 := by kernel_rfl
theorem cells64 : Tryz.prog.cellsOf 2 = 1 := by kernel_rfl
theorem cellsKids : Tryz.prog.cellsOf 22 = 1 := by kernel_rfl
theorem liesAt_of {P : Nat → Prop} {w : World} {g : Nat} : ∀ (ks : List Tree) (o : Nat), (∀ i (hi : i < ks.length), ∃ v, syn.cell4 w g (o + i * 4) v ∧ Lies P w ks[i] v) → LiesAt P w ks g o
  | [], o, _ => by unfold LiesAt; trivial
  | t :: r, o, h => by
    unfold LiesAt
    have h0 := h 0 (by simp)
    rw [Nat.zero_mul, Nat.add_zero] at h0
    refine ⟨h0, liesAt_of r (o + 4) (fun i hi => ?_)⟩
    have := h (i + 1) (by simpa using hi)
    rw [show o + (i + 1) * 4 = o + 4 + i * 4 from by omega] at this
    exact this
theorem shL_of {n : Nat} : ∀ (ks : List Tree), (∀ t ∈ ks, ShT n t) → ShT.ShL n ks
  | [], _ => by unfold ShT.ShL; trivial
  | t :: r, h => by unfold ShT.ShL; exact ⟨h t (by simp), shL_of r (fun q hq => h q (List.mem_cons_of_mem _ hq))⟩
section
variable {H : Type} {enc : TypeId × Value → H} {W : World}
theorem weights_in {e : TypeId} {d : DataW H} {k : Nat} : ∀ {l : List (DataW H)}, d ∈ l → k ∈ d.weights Tryz.prog e → k ∈ DataW.weightsAll Tryz.prog e l
  | a :: r, h, hk => by
    unfold DataW.weightsAll
    rcases List.mem_cons.1 h with rfl | h
    · exact List.mem_append_left _ hk
    · exact List.mem_append_right _ (weights_in h hk)
theorem size_in {d : DataW H} : ∀ {l : List (DataW H)}, d ∈ l → SizeOf.sizeOf d < SizeOf.sizeOf l := List.sizeOf_lt_of_mem
set_option maxHeartbeats 1000000 in
theorem open_nodeN : ∀ (N : Nat) {n : Nat} {cs : List Value} {x : DataW H × List MemPlace}, SizeOf.sizeOf x.1 ≤ N → DataW.trod enc Tryz.prog W 0 (fun _ => true) true n 24 cs = some x → (∀ k ∈ x.1.weights Tryz.prog 24, k ≤ reachBytes) →
    ∃ t c0 c1 c2 c3, cs = [c0, c1, c2, c3] ∧ Lies (· < W.heap.size) W t (.agg #[c0, c1, c2, c3]) ∧ ShT 4611686018427387904 t
  | 0, n, cs, x, hN, h, hwt => by
    obtain ⟨y0, y1, y2, y3, n', rfl, _⟩ := Joins.trod_struct4 Tryz.underlying24 h
    simp at hN
  | N + 1, n, cs, x, hN, h, hwt => by
    obtain ⟨y0, y1, y2, y3, n', rfl, hlen, t0, t1, t2, t3⟩ := Joins.trod_struct4 Tryz.underlying24 h
    rw [cellsNode] at hlen
    simp only [cell1s, cell1i, cells64, cellsKids] at t0 t1 t2 t3
    match cs, hlen with
    | [c0, c1, c2, c3], _ =>
      simp only [List.drop, List.take] at t0 t1 t2 t3
      obtain ⟨k, e0, _, _⟩ := DataW.trod_int Tryz.underlying3 t0
      obtain ⟨s, e1, rfl, _⟩ := DataW.trod_string Tryz.underlying9 t1
      obtain ⟨m, e2, _, _⟩ := DataW.trod_int Tryz.underlying2 t2
      simp only [List.cons.injEq, and_true] at e0 e1 e2
      subst e0 e1 e2
      have hs : s.size < 4611686018427387904 := by
        have h2 := hwt s.data.toList.length (by simp [DataW.weights, DataW.weightsEach, Tryz.underlying24])
        have h3 : s.data.toList.length = s.size := lexs.len_L s
        have := reach_le
        omega
      rcases Deep.open_slice Tryz.underlying22 t3 with ⟨h0, _⟩ | ⟨a, len, cap, m', k', D, Pl, h0, _, hl, hm, hmm, rfl, hc⟩
      · simp only [List.cons.injEq, and_true] at h0
        subst h0
        refine ⟨.node k s m [], _, _, _, _, rfl, ?_, ?_⟩
        · unfold Lies
          exact ⟨none, 0, rfl, ⟨by simp, by simp⟩, fun h => absurd rfl h⟩
        · unfold ShT ShT.ShL
          exact ⟨hs, trivial⟩
      · simp only [List.cons.injEq, and_true] at h0
        subst h0
        simp only [if_true] at hmm
        have hlim : len ≤ 4611686018427387903 := by
          have h2 := hwt ((len + (m' - len)) * 56) (by simp [DataW.weights, DataW.weightsEach, Tryz.underlying24, Tryz.underlying22, bytesNode])
          have := reach_le
          omega
        have each : ∀ i, i < len → ∃ t, ∃ c0 c1 c2 c3, (W.cell? (a.add (i * 4)) = some c0 ∧ W.cell? (a.add (i * 4 + 1)) = some c1 ∧ W.cell? (a.add (i * 4 + 2)) = some c2 ∧ W.cell? (a.add (i * 4 + 3)) = some c3) ∧ Lies (· < W.heap.size) W t (.agg #[c0, c1, c2, c3]) ∧ ShT 4611686018427387904 t := by
          intro i hi
          obtain ⟨cs', h1, h2⟩ := hc i (by omega)
          rw [cellsNode] at h1
          obtain ⟨_, hlen', hcell⟩ := World.cells?_some h1
          have hDm : D i ∈ (List.range len).map D := List.mem_map.2 ⟨i, List.mem_range.2 hi, rfl⟩
          have hsz := size_in hDm
          obtain ⟨t, d0, d1, d2, d3, rfl, hL, hS⟩ := open_nodeN N (x := (D i, Pl i)) (by simp at hN ⊢; omega) h2 (fun q hq => hwt q (by
            have := weights_in hDm hq
            simp [DataW.weights, DataW.weightsEach, Tryz.underlying24, Tryz.underlying22, this]))
          refine ⟨t, d0, d1, d2, d3, ⟨?_, ?_, ?_, ?_⟩, hL, hS⟩
          · simpa [Deep.add_add] using hcell 0 (by simp)
          · simpa [Deep.add_add] using hcell 1 (by simp)
          · simpa [Deep.add_add] using hcell 2 (by simp)
          · simpa [Deep.add_add] using hcell 3 (by simp)
        have : Inhabited Tree := ⟨noT⟩
        obtain ⟨V, hV⟩ := Deep.choose_lt each
        refine ⟨.node k s m ((List.range len).map V), _, _, _, _, rfl, ?_, ?_⟩
        · unfold Lies
          refine ⟨some a, cap, by simp, ⟨by simp; omega, by simpa using hl⟩, fun hne => ?_⟩
          have hpos : 0 < len := by
            rcases Nat.eq_zero_or_pos len with h | h
            · subst h; simp at hne
            · exact h
          obtain ⟨c0, c1, c2, c3, ⟨h00, _⟩, _⟩ := hV 0 hpos
          rw [Nat.zero_mul, Addr.add, if_pos rfl] at h00
          obtain ⟨g, o, rfl⟩ := plain_addr h00
          refine ⟨g, o, rfl, World.block_lt_of_cell? W _ h00, liesAt_of _ _ (fun i hi => ?_)⟩
          obtain ⟨c0, c1, c2, c3, ⟨q0, q1, q2, q3⟩, hL, _⟩ := hV i (by simpa using hi)
          simp only [add_plain] at q0 q1 q2 q3
          simp only [List.getElem_map, List.getElem_range]
          exact ⟨_, ⟨c0, c1, c2, c3, rfl, q0, q1, q2, q3⟩, hL⟩
        · unfold ShT
          refine ⟨hs, shL_of _ (fun t ht => ?_)⟩
          obtain ⟨i, hi, rfl⟩ := List.mem_map.1 ht
          obtain ⟨_, _, _, _, _, _, hS⟩ := hV i (List.mem_range.1 hi)
          exact hS
theorem open_node {b0 : Nat} {v : Value} {d : DataW H} {p : List MemPlace} (hv : Value.okWide Tryz.prog W .any b0 24 v) (h : DataW.Trod enc Tryz.prog W 0 (fun _ => true) true 24 v d p) (hwt : ∀ k ∈ d.weights Tryz.prog 24, k ≤ reachBytes) : ∃ t, Lies (· < W.heap.size) W t v ∧ ShT 4611686018427387904 t := by
  obtain ⟨cs, rfl, hsz⟩ := okWide_struct Tryz.underlying24 hv
  obtain ⟨fuel, hf⟩ := h
  obtain ⟨t, c0, c1, c2, c3, e, hL, hS⟩ := open_nodeN _ (Nat.le_refl _) hf hwt
  have : cs = #[c0, c1, c2, c3] := Array.toList_inj.1 (by simpa [Value.cells] using e)
  subst this
  exact ⟨t, hL, hS⟩
end
end pr
end Go.Proofs.YtoobkaebahogdaaGreatDoor
