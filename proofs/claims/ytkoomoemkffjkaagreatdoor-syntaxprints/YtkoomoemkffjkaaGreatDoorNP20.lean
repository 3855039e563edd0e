/- The law SyntaxPrints: the program and the document's answer print the same of every node. -/
import Derived.Test.YtkoomoemkffjkaaGreatDoorNP19
import Derived.Test.YtkoomoemkffjkaaGreatDoorNP15
set_option linter.unusedVariables false
set_option linter.unusedSimpArgs false
set_option maxRecDepth 100000
namespace Go.Proofs.YtkoomoemkffjkaaGreatDoor
namespace pr
open Go.RowKit Go.Shelf
open Go.Proofs.YtkoomoemkffjkaaGreatDoor.syn Go.Proofs.YtkoomoemkffjkaaGreatDoor.face Go.Proofs.YtkoomoemkffjkaaGreatDoor.chk
section
variable {w0 : World} {r f : Nat}
theorem zero_one : ∀ (ks : List Tree), (ks.length : Int) ≤ 1 → ks = [] ∨ ∃ t0, ks = [t0]
  | [], _ => .inl rfl
  | [t0], _ => .inr ⟨t0, rfl⟩
  | _ :: _ :: _, b => by simp only [List.length_cons] at b; omega
theorem lastk_of {ks : List Tree} (h : (1 : Int) ≤ ks.length) : ∃ ps tb, ks = ps ++ [tb] := by
  rcases List.eq_nil_or_concat ks with e | ⟨ps, tb, e⟩
  · rw [e] at h; simp at h
  · exact ⟨ps, tb, by rw [e, List.concat_eq_append]⟩
theorem oDecl (hr : w0.heap.size = r) (hP : PH w0) : Wri w0 r 64 (declW (f + 1)) (okN (f + 2)) := by
  intro t nv hl hq w v ws hB hW hn
  obtain ⟨k, x, m, ks⟩ := t
  rw [cnt_n] at hn
  cases hlk : lookK [3, 4] k x m ks.length with
  | false =>
    have e : declW (f + 1) (.node k x m ks) = none := by unfold declW; dsimp only; rw [if_neg (by rw [show lookB [3, 4] (.node k x m ks) = lookK [3, 4] k x m ks.length from rfl, hlk]; simp)]
    rw [e]
    unfold Lies at hl
    obtain ⟨a, c, rfl, ⟨hk1, hk2⟩, -⟩ := hl
    exact decl_no hr hP k x m a _ c hq.1 hk1 hlk w v ws hB hW
  | true =>
    obtain ⟨hk, h1, h2, h3, h4, -⟩ := shape_of hlk
    have hk : k = 3 ∨ k = 4 := by simpa using hk
    have hlb : lookB [3, 4] (.node k x m ks) = true := hlk
    rcases hk with rfl | rfl
    · have h1' : 0 ≤ m := h1
      have h2' : m ≤ 3 := h2
      obtain ⟨mn, rfl⟩ : ∃ mn : Nat, m = (mn : Int) := ⟨m.toNat, by omega⟩
      have hmn : mn ≤ 11 := by omega
      rcases zero_one ks h4 with rfl | ⟨t0, rfl⟩
      · by_cases hp : mn / 2 % 2 = 1
        · exact declVP hr hP x mn hmn hp nv hl hq.1 hlk _ (by show _ = _; unfold declW; dsimp only; rw [if_pos hlb, if_neg (by decide), Int.toNat_natCast, if_pos hp]) w v ws hB hW (by simp only [cntL] at hn; omega)
        · exact declV hr hP x mn hmn hp nv hl hq.1 hlk _ (by show _ = _; unfold declW; dsimp only; rw [if_pos hlb, if_neg (by decide), Int.toNat_natCast, if_neg hp]; rfl) w v ws hB hW (by simp only [cntL] at hn; omega)
      · by_cases hp : mn / 2 % 2 = 1
        · exact declVKP hr hP x mn hmn hp t0 nv hl (hq.2 t0 (by simp)) hq.1 hlk _ (by show _ = _; unfold declW; dsimp only; rw [if_pos hlb, if_neg (by decide), Int.toNat_natCast, if_pos hp]) w v ws hB hW (by simp only [cntL] at hn; omega)
        · exact declVK hr hP x mn hmn hp t0 nv hl (hq.2 t0 (by simp)) hq.1 hlk _ (by show _ = _; unfold declW; dsimp only; rw [if_pos hlb, if_neg (by decide), Int.toNat_natCast, if_neg hp]; rfl) w v ws hB hW (by simp only [cntL] at hn; omega)
    · have h1' : 0 ≤ m := h1
      have h2' : m ≤ 11 := h2
      obtain ⟨mn, rfl⟩ : ∃ mn : Nat, m = (mn : Int) := ⟨m.toNat, by omega⟩
      have hmn : mn ≤ 11 := by omega
      obtain ⟨ps, tb, rfl⟩ := lastk_of h3
      have hlen : (ps ++ [tb]).length = ps.length + 1 := by simp
      have hpr : ∀ z : List ByteArray, ((roundF parW ((ps ++ [tb]).take ((ps ++ [tb]).length - 1))).bind fun p => (blockW (f + 1) ((ps ++ [tb]).getD ((ps ++ [tb]).length - 1) noT)).bind fun b => some (z ++ [⟨#[112, 114, 111, 99]⟩, x] ++ p ++ [labW ((mn : Int) % 2)] ++ givW mn ++ b)) = (procW (f + 1) x mn ps tb).bind fun q => some (z ++ q) := fun z => by
        rw [hlen, Nat.add_sub_cancel, List.take_left, show (ps ++ [tb]).getD ps.length noT = tb from by simp [List.getD_eq_getElem?_getD]]
        unfold procW
        cases roundF parW ps with
        | none => rfl
        | some p =>
          cases blockW (f + 1) tb with
          | none => rfl
          | some b => simp [List.append_assoc]
      have hps : ∀ t ∈ ps, okN (f + 1) t := fun t ht => hq.2 t (by simp [ht])
      have htb : okN (f + 1) tb := hq.2 tb (by simp)
      have hc : cntL (ps ++ [tb]) = cntL ps + cntT tb := by rw [cntL_app]; simp [cntL]
      rw [hc] at hn
      by_cases hp : mn / 2 % 2 = 1
      · exact declRP hr hP x mn hmn hp ps tb nv hl hps htb hq.1 (by rw [hlen] at hlk; exact hlk) _ (by show _ = _; rw [← hpr]; unfold declW; dsimp only; rw [if_pos hlb, if_pos rfl, Int.toNat_natCast, if_pos hp]) w v ws hB hW (by omega)
      · exact declR hr hP x mn hmn hp ps tb nv hl hps htb hq.1 (by rw [hlen] at hlk; exact hlk) _ (by show _ = _; rw [← hpr]; unfold declW; dsimp only; rw [if_pos hlb, if_pos rfl, Int.toNat_natCast, if_neg hp]) w v ws hB hW (by omega)
/-- kids from some place on -/
def KidsL (w0 : World) (r : Nat) (ks : List Tree) (u : Value) : Prop := ∃ a c, u = .slice a ks.length c ∧ (ks.length ≤ 4611686018427387904 ∧ ks.length ≤ c) ∧ (ks ≠ [] → ∃ g o, a = some ⟨g, o, none⟩ ∧ g < r ∧ LiesAt (· < r) w0 ks g o)
def lenV : Value → Nat
  | .slice _ n _ => n
  | _ => 0
set_option maxHeartbeats 8000000 in
theorem oModule (hr : w0.heap.size = r) (hP : PH w0) : Wri w0 r 26 (moduleW (f + 1)) (okN (f + 3)) := by
  intro t nv hl hq w v ws hB hW hn
  have c24 : Tryz.prog.cellsOf 24 = 4 := by kernel_rfl
  obtain ⟨k, x, m, ks⟩ := t
  obtain ⟨hx, hks⟩ := hq
  rw [cnt_n] at hn
  unfold Lies at hl
  obtain ⟨a, c, rfl, ⟨hk1, hk2⟩, hat⟩ := hl
  have hrl := hW.lt
  have hL := lookAt hr hP hB [1] k m x a ks.length c hx hk1 (by decide) (fun i hi => by simp at hi; omega)
  simp only [List.map_cons, List.map_nil, List.length_cons, List.length_nil, Nat.zero_add] at hL
  have HO : Hid (moduleW (f + 1) (.node k x m ks) = if lookK [1] k x m ks.length then (seqF impW (ks.takeWhile impB)).bind fun a => (seqF (declW (f + 1)) (ks.dropWhile impB)).bind fun b => some ([⟨#[109, 111, 100, 117, 108, 101]⟩, x, ⟨#[59]⟩] ++ a ++ b) else none) := rfl
  have hcp := cntL_pos ks
  have HNW : Hid (w.heap.size ≠ r ∧ v.ownBlock ≠ some w.heap.size) := ⟨by omega, fun e => by have := (hW.row.lt _ e).2; omega⟩
  generalize moduleW (f + 1) (.node k x m ks) = OO at *
  go_enter Tryz.func26, Tryz.ntmps26
  go_wp2_with (fail)
  refine hL.mono ?_
  clear hL
  rintro e w3 (⟨hlk, rfl, hb3⟩ | ⟨hlk, rfl, hb3, bN⟩)
  · rw [hlk] at HO
    obtain rfl := HO.out
    clear hlk
    go_wp2
    exact ⟨rfl, rfl, hb3.mono (Nat.le_of_lt hrl)⟩
  rw [hlk] at HO
  have HO2 : Hid (OO = (seqF impW (ks.takeWhile impB)).bind fun a => (seqF (declW (f + 1)) (ks.dropWhile impB)).bind fun b => some ([⟨#[109, 111, 100, 117, 108, 101]⟩, x, ⟨#[59]⟩] ++ a ++ b)) := HO.out
  clear HO hlk
  have S0 := Wg.start (hB.trans (hb3.mono (Nat.le_of_lt hrl))) (hW.below hb3)
  have hC1 := S0.put3 ⟨#[109, 111, 100, 117, 108, 101]⟩ x ⟨#[59]⟩ (by simp; omega)
  have u1 := bN.cell 1 rfl
  go_wp2_with (go_at_call 63; refine hC1.mono ?_; rintro e w5 ⟨rfl, v5, S5⟩; have bN5 := S5.box bN HNW.out.1 HNW.out.2; have z3 := bN5.cell 3 rfl)
  go_loopw [4] (fun u wr => ∃ (ks' : List Tree) (vj : Value) (o : List ByteArray), KidsL w0 r ks' u ∧ Wg w0 w3 r v ws ([⟨#[109, 111, 100, 117, 108, 101]⟩, x, ⟨#[59]⟩] ++ o) wr vj ∧ (o.length : Int) + 8 * cntL ks' ≤ 8 * cntL ks ∧ cntL ks' ≤ cntL ks ∧ Hid ((∀ t ∈ ks', okN (f + 2) t) ∧ OO = (seqF impW (ks'.takeWhile impB)).bind fun a => (seqF (declW (f + 1)) (ks'.dropWhile impB)).bind fun b => some ([⟨#[109, 111, 100, 117, 108, 101]⟩, x, ⟨#[59]⟩] ++ o ++ a ++ b))) (fun u _ => lenV u)
  case atStart =>
    exact ⟨ks, v5, [], ⟨a, c, rfl, ⟨hk1, hk2⟩, hat⟩, by simpa using S5, by simp, Int.le_refl _, hks, by rw [HO2.out]; simp⟩
  case round =>
    clear hC1 S5 S0 z3 bN5 hat hk1 hk2
    obtain ⟨ks', vj, o, ⟨a', c', rfl, ⟨hl1, hl2⟩, hat'⟩, Sj, hol, hcl, HI⟩ := hrel
    cases ks' with
    | nil =>
      have HR : Hid (OO = some ([⟨#[109, 111, 100, 117, 108, 101]⟩, x, ⟨#[59]⟩] ++ o)) := by show _ = _; rw [HI.out.2]; simp [seqF]
      simp only [List.length_nil]
      go_wp2
      go_loopw [43] (fun u w8 => u = .int .i64 0 ∧ Wg w0 w3 r v ws ([⟨#[109, 111, 100, 117, 108, 101]⟩, x, ⟨#[59]⟩] ++ o) w8 vj) (fun u _ => 0)
      case atStart => exact ⟨rfl, Sj⟩
      case round =>
        clear Sj
        obtain ⟨rfl, Sj⟩ := hrel
        go_wp2
        go_end0
        rw [HR.out]
        exact Sj.done hb3 (Nat.le_of_lt hrl)
    | cons t q =>
      obtain ⟨g, og, rfl, hg, hat⟩ := hat' (by simp)
      obtain ⟨ka, xa, ma, aa, na, ca, hln, hcell⟩ := kidV hg hat 0 (by simp)
      simp only [Nat.zero_mul, Nat.add_zero, List.getElem_cons_zero] at hln hcell
      have HC := show Hid _ from hcell
      obtain ⟨q0, q1, q2, q3⟩ := hcell _ Sj.b0
      clear hcell hat'
      have hln' := hln
      obtain ⟨tk, tx, tm, tks⟩ := t
      unfold Lies at hln'
      obtain ⟨a', c'', e', hkk, -⟩ := hln'
      injection e' with e'
      simp only [Array.mk.injEq, List.cons.injEq, and_true, Value.int.injEq, Value.string.injEq, Value.slice.injEq, true_and] at e'
      obtain ⟨rfl, rfl, rfl, rfl, rfl, rfl⟩ := e'
      have hxa : xa.size < 4611686018427387904 := (HI.out.1 _ (List.mem_cons_self ..)).1
      have hcq : cntL (.node ka xa ma tks :: q) = cntT (.node ka xa ma tks) + cntL q := by simp [cntL]
      have hcp1 := cntT_pos (.node ka xa ma tks)
      have hcp2 := cntL_pos q
      simp only [List.length_cons] at hl1 hl2 ⊢
      by_cases hk2 : ka = 2
      · subst hk2
        have hK := lookKid hr hP Sj.b0 [2] 2 ma xa aa tks.length ca hxa hkk.1 (by decide) (fun i hi => by simp at hi; omega)
        simp only [List.map_cons, List.map_nil, List.length_cons, List.length_nil, Nat.zero_add] at hK
        have HT : Hid ((Tree.node 2 xa ma tks :: q).takeWhile impB = .node 2 xa ma tks :: q.takeWhile impB ∧ (Tree.node 2 xa ma tks :: q).dropWhile impB = q.dropWhile impB) := ⟨rfl, rfl⟩
        go_wp2_with (fail)
        refine hK.mono ?_
        clear hK
        rintro e w7 ⟨(⟨hlk, rfl⟩ | ⟨hlk, rfl⟩), hb7⟩
        · have HN : Hid (OO = none) := by
            show _ = _
            rw [HI.out.2, HT.out.1]
            unfold seqF impW
            dsimp only
            rw [if_neg (by rw [show lookB [2] (.node 2 xa ma tks) = lookK [2] 2 xa ma tks.length from rfl, hlk]; simp)]
            rfl
          clear hlk
          go_wp2
          refine ⟨rfl, ?_⟩
          rw [HN.out]
          exact ⟨rfl, (hb3.mono (Nat.le_of_lt hrl)).trans (Sj.b.trans (hb7.mono (Nat.le_of_lt Sj.wr.lt)))⟩
        have S7 := Sj.below hb7
        have HI2 : Hid (OO = (seqF impW (q.takeWhile impB)).bind fun a => (seqF (declW (f + 1)) (q.dropWhile impB)).bind fun b => some ([⟨#[109, 111, 100, 117, 108, 101]⟩, x, ⟨#[59]⟩] ++ (o ++ [⟨#[105, 109, 112, 111, 114, 116]⟩, xa, ⟨#[59]⟩]) ++ a ++ b)) := by
          show _ = _
          rw [HI.out.2, HT.out.1, HT.out.2]
          rw [show seqF impW (.node 2 xa ma tks :: q.takeWhile impB) = (impW (.node 2 xa ma tks)).bind fun a => (seqF impW (q.takeWhile impB)).bind fun b => some (a ++ b) from rfl, show impW (.node 2 xa ma tks) = some [⟨#[105, 109, 112, 111, 114, 116]⟩, xa, ⟨#[59]⟩] from by unfold impW; dsimp only; rw [if_pos (show lookB [2] (.node 2 xa ma tks) = true from hlk)]]
          cases seqF impW (q.takeWhile impB) with
          | none => rfl
          | some a =>
            cases seqF (declW (f + 1)) (q.dropWhile impB) with
            | none => rfl
            | some b => simp [List.append_assoc]
        clear hlk
        obtain ⟨q0, q1, q2, q3⟩ := HC.out _ S7.b0
        go_wp2_with (fail)
        refine (S7.put3 ⟨#[105, 109, 112, 111, 114, 116]⟩ xa ⟨#[59]⟩ (by simp only [List.length_append, List.length_cons, List.length_nil]; omega)).mono ?_
        rintro e w9 ⟨rfl, v9, S9⟩
        go_wp2
        go_roundw
        case rel =>
          refine ⟨q, v9, o ++ [⟨#[105, 109, 112, 111, 114, 116]⟩, xa, ⟨#[59]⟩], ⟨_, _, rfl, ⟨by omega, by omega⟩, fun hne => ?_⟩, by rw [← List.append_assoc]; exact S9, by simp only [List.length_append, List.length_cons, List.length_nil]; push_cast; omega, by omega, fun t ht => HI.out.1 t (List.mem_cons_of_mem _ ht), HI2.out⟩
          have hql : 0 < q.length := List.length_pos_iff.2 hne
          rw [if_neg (by omega)]
          unfold LiesAt at hat
          exact ⟨g, og + 4, rfl, hg, hat.2⟩
        case measure => simp [lenV]
      · have HT : Hid ((Tree.node ka xa ma tks :: q).takeWhile impB = [] ∧ (Tree.node ka xa ma tks :: q).dropWhile impB = .node ka xa ma tks :: q) := by
          have : impB (.node ka xa ma tks) = false := beq_eq_false_iff_ne.2 hk2
          exact ⟨by rw [List.takeWhile_cons, this]; rfl, by rw [List.dropWhile_cons, this]; rfl⟩
        have S0 := Sj
        have hk2b : (ka == 2) = false := beq_eq_false_iff_ne.2 hk2
        clear Sj q1 q2 q3 HC hln hxa
        go_wp2
        go_loopw [43] (fun u w8 => ∃ (j : Nat) (vk : Value) (p : List ByteArray), j ≤ q.length + 1 ∧ u = .int .i64 j ∧ Wg w0 w3 r v ws ([⟨#[109, 111, 100, 117, 108, 101]⟩, x, ⟨#[59]⟩] ++ o ++ p) w8 vk ∧ p.length ≤ 8 * cntL ((Tree.node ka xa ma tks :: q).take j) ∧ Hid (OO = (seqF (declW (f + 1)) ((Tree.node ka xa ma tks :: q).drop j)).bind fun b => some ([⟨#[109, 111, 100, 117, 108, 101]⟩, x, ⟨#[59]⟩] ++ o ++ p ++ b))) (fun u _ => q.length + 1 - (intOf u).toNat)
        case atStart =>
          refine ⟨0, vj, [], Nat.zero_le _, rfl, by simpa using S0, by simp [cntL], ?_⟩
          show _ = _
          rw [HI.out.2, HT.out.1, HT.out.2]
          simp [seqF]
        case round =>
          clear S0
          obtain ⟨j, vk, p, hj, rfl, Sj, hpl, HP⟩ := hrel
          have hct := cntL_take (Tree.node ka xa ma tks :: q) j
          by_cases hlt : j < q.length + 1
          · have hlt' : j < (Tree.node ka xa ma tks :: q).length := hlt
            obtain ⟨kb, xb, mb, ab, nb, cb, hln, hcell⟩ := kidV hg hat j hlt'
            obtain ⟨q0, q1, q2, q3⟩ := hcell _ Sj.b0
            have hcn := cnt_at hlt'
            have hcn2 := cntL_take (Tree.node ka xa ma tks :: q) (j + 1)
            have HX := show Hid _ from seqF_drop (g := declW (f + 1)) hlt'
            have hC := (Sj.alloc (.cells #[.int .i64 kb, .string xb, .int .i64 mb, .slice ab nb cb] 24)).wri (oDecl hr hP) hln (HI.out.1 _ (List.getElem_mem hlt')) (by simp only [List.length_append, List.length_cons, List.length_nil]; push_cast; omega)
            clear hcell
            go_wp2_with (fail)
            refine hC.mono ?_
            clear hC
            rintro e w7 (⟨hN, rfl, hb7⟩ | ⟨l7, v7, hs7, rfl, S7⟩)
            · have HN : Hid (OO = none) := by show _ = _; rw [HP.out, HX.out, hN]; rfl
              clear hN
              go_wp2
              refine ⟨rfl, ?_⟩
              rw [HN.out]
              exact ⟨rfl, (hb3.mono (Nat.le_of_lt hrl)).trans hb7⟩
            · have hl7 := decl_len _ _ hs7
              have HP2 : Hid (OO = (seqF (declW (f + 1)) ((Tree.node ka xa ma tks :: q).drop (j + 1))).bind fun b => some ([⟨#[109, 111, 100, 117, 108, 101]⟩, x, ⟨#[59]⟩] ++ o ++ (p ++ l7) ++ b)) := by
                show _ = _
                rw [HP.out, HX.out, hs7]
                cases seqF (declW (f + 1)) ((Tree.node ka xa ma tks :: q).drop (j + 1)) with
                | none => rfl
                | some b => simp
              clear hs7
              go_wp2
              go_roundw
              case rel => exact ⟨j + 1, v7, p ++ l7, by omega, by go_num, by rw [← List.append_assoc]; exact S7, by rw [hcn, List.length_append]; push_cast; omega, HP2⟩
              case measure => simp [intOf]; omega
          · have hjj : j = (Tree.node ka xa ma tks :: q).length := by simp only [List.length_cons]; omega
            have HR : Hid (OO = some ([⟨#[109, 111, 100, 117, 108, 101]⟩, x, ⟨#[59]⟩] ++ o ++ p)) := by
              show _ = _
              rw [HP.out, hjj, List.drop_length]
              simp [seqF]
            clear hjj
            go_wp2
            go_end0
            rw [HR.out]
            exact Sj.done hb3 (Nat.le_of_lt hrl)
end
set_option maxHeartbeats 200000 in
theorem wcatch_idle (p : Addr) (w : World) :
    CallsD Tryz.prog 25 #[.pointer (some p)] .returning w fun e u' w' => e = .returned (.tuple #[]) ∧ u' = .returning ∧ w' = w := by
  have hnn : ∀ w : World, (binOp BinOp.eql 20 .nilIface .nilIface).run Tryz.prog w = .ok (.bool true) w := fun _ => by kernel_rfl
  refine callsD_of_wpS Tryz.func25 rfl fun c₀ cs hu => ?_
  refine recover_none (by simp [recoverD, hu]) ?_
  simp only [Tryz.ntmps25, List.size_toArray, List.length_cons, List.length_nil, Nat.reduceAdd, Nat.reduceSub, Array.replicate_succ, Array.replicate_zero, List.push_toArray, List.append_toArray, List.nil_append, List.cons_append, Act.put, List.setIfInBounds_toArray, List.set_cons_succ, List.set_cons_zero]
  refine wpS_of_wp (wp_mono (Q := fun e a w' => e = .normal ∧ a.defers = [] ∧ w' = w) ?_ ?_)
  · go_wp2
  · rintro e a w' ⟨rfl, h1, rfl⟩
    exact ⟨h1, _, rfl, .tuple #[], by simp [results, Tryz.results25], rfl, hu, rfl⟩
set_option maxHeartbeats 1000000 in
theorem wcatch (fb : Nat) (w : World) (hb : BoxC w fb #[.int .i64 0] 25) :
    CallsD Tryz.prog 25 #[.pointer (some ⟨fb, 0, none⟩)] (.panicking Mis) w fun e u' w' => e = .returned (.tuple #[]) ∧ u' = .panicking [{ v := .iface 58 (.agg #[]), recovered := true }] ∧ w'.cell? ⟨fb, 0, none⟩ = some (.int .i64 2) ∧ Fr fb w w' := by
  have hfb := hb.lt
  have h0 := hb.cell 0 rfl
  have f0 := hb.fz 0
  clear hb
  have c0 : Tryz.prog.cellsOf 58 = 0 := by kernel_rfl
  have hnn : ∀ w : World, (binOp BinOp.eql 20 (.iface 58 (.agg #[])) .nilIface).run Tryz.prog w = .ok (.bool false) w := fun _ => by kernel_rfl
  have hta : ∀ w : World, (Instr.typeAssert (.iface 58 (.agg #[])) 20 58 true).run Tryz.prog w = .ok (.tuple #[.agg #[], .bool true]) w := fun _ => by kernel_rfl
  unfold Mis
  refine callsD_of_wpS Tryz.func25 rfl fun c₀ cs hu => ?_
  refine recover_some (v := .iface 58 (.agg #[])) (cs' := { c₀ with mode := .panicking [{ v := .iface 58 (.agg #[]), recovered := true }] } :: cs) (by simp [recoverD, hu]) ?_
  simp only [Tryz.ntmps25, List.size_toArray, List.length_cons, List.length_nil, Nat.reduceAdd, Nat.reduceSub, Array.replicate_succ, Array.replicate_zero, List.push_toArray, List.append_toArray, List.nil_append, List.cons_append, Act.put, List.setIfInBounds_toArray, List.set_cons_succ, List.set_cons_zero]
  refine wpS_of_wp (wp_mono (Q := fun e q w' => e = .normal ∧ q.defers = [] ∧ w'.cell? ⟨fb, 0, none⟩ = some (.int .i64 2) ∧ Fr fb w w') ?_ ?_)
  · go_wp2
    exact ((Fr.refl _ _).set _ _).alloc _
  · rintro e q w' ⟨rfl, h1, h2, h3⟩
    exact ⟨h1, _, rfl, .tuple #[], by simp [results, Tryz.results25], rfl, rfl, h2, h3⟩
/-- what write answers -/
def WrE (w : World) (o : Option (List ByteArray)) (e : Ending) (w' : World) : Prop :=
  Below w.heap.size w w' ∧ match o with
    | none => e = .returned (.tuple #[.slice none 0 0, .int .i64 2])
    | some l => ∃ v B, e = .returned (.tuple #[v, .int .i64 0]) ∧ w'.ownsRow B 9 1 v l.length (strV l)
set_option maxHeartbeats 4000000 in
theorem oWrite (w : World) (hP : PH w) (t : Tree) (nv : Value) (hl : Lies (· < w.heap.size) w t nv) (hq : okN 18 t) (hn : 10 * cntT t ≤ 800000) :
    Calls Tryz.prog 11 #[nv] w (WrE w (moduleW 16 t)) := by
  have c24 : Tryz.prog.cellsOf 24 = 4 := by kernel_rfl
  have hmf : ∀ (fn : Fn) (first cap : Array Value) (w : World), (Instr.makeFunc fn first cap).run Tryz.prog w = .ok (.func fn first cap) w := fun _ _ _ _ => rfl
  obtain ⟨k, x, m, a, n, c, rfl⟩ := lies_shape hl
  obtain ⟨N, hN⟩ : ∃ N, N = w.heap.size := ⟨_, rfl⟩
  obtain ⟨wA, hwA⟩ : ∃ wA, wA = (w.alloc (.cells #[.int .i64 k, .string x, .int .i64 m, .slice a n c] 24)).alloc (.cells #[.int .i64 0] 25) := ⟨_, rfl⟩
  have hD : wA.heap.size = N + 1 + 1 := by rw [hwA, hN]; simp
  have hbA : Below N w wA := by rw [hwA, hN]; exact ((Below.refl _ _).alloc (Nat.le_refl _) _).alloc (by simp) _
  have bG : BoxC wA (N + 1) #[.int .i64 0] 25 := by
    have := BoxC.new (w.alloc (.cells #[.int .i64 k, .string x, .int .i64 m, .slice a n c] 24)) #[.int .i64 0] 25
    rw [World.size_alloc] at this
    rw [hwA, hN]
    exact this
  have hPA := hP.below (hN ▸ hbA)
  have hlA : Lies (· < N + 1 + 1) wA t (.agg #[.int .i64 k, .string x, .int .i64 m, .slice a n c]) := hl.to (fun b hb => by show b < N + 1 + 1; have : b < w.heap.size := hb; omega) (fun b hb o => hbA.cell (p := ⟨b, o, none⟩) (by show b < N; rw [hN]; exact hb))
  obtain ⟨wB, hwB⟩ : ∃ wB, wB = wA.alloc (.cells #[.slice none 0 0] 60) := ⟨_, rfl⟩
  have hBB : Below (N + 1 + 1) wA wB := by rw [hwB]; exact (Below.refl _ _).alloc (by omega) _
  have hWB : WR wB (N + 1 + 1) (.slice none 0 0) [] := by
    refine ⟨?_, World.ownsRow_nil _ _ _ _⟩
    rw [hwB, ← hD]
    exact BoxC.new _ _ _
  have hC := oModule (f := 15) hD hPA t _ hlA hq wB _ [] hBB hWB (by simpa using hn)
  rw [hwA] at hwB
  go_enter_defers Tryz.func11, Tryz.ntmps11
  go_wp2_with (fail)
  have HNe : Hid (N = w.heap.size) := hN
  rw [← hN]
  clear hN
  rw [← hwB]
  refine hC.mono ?_
  clear hC hwB hwA hlA hl hPA hP hq hn
  generalize moduleW 16 t = OO at *
  cases OO with
  | none =>
    rintro e w5 ⟨rfl, hb5⟩
    have bG5 : BoxC w5 (N + 1) #[.int .i64 0] 25 := ((hBB.trans hb5).block (N + 1) (by omega)).trans bG
    have key := wcatch (N + 1) w5 bG5
    have HK : Hid (Below N w w5) := hbA.trans ((hBB.trans hb5).mono (by omega))
    clear hb5
    go_wp2
    refine leaves_cons (f := 25) (args := #[.pointer (some ⟨N + 1, 0, none⟩)]) (by simp) (by simp [go_sem]) ?_
    refine key.mono ?_
    rintro e u' w6 ⟨rfl, rfl, c0, hF6⟩
    have hNe := HNe.out
    have HK6 : Below N w w6 := ⟨hF6.os.trans HK.out.os, hF6.tape.trans HK.out.tape, hF6.output.trans HK.out.output, Nat.le_trans HK.out.size hF6.size, fun j hj => (hF6.block j (by have := HK.out.size; omega) (by simp; omega)).trans (HK.out.block j hj)⟩
    refine ⟨.tuple #[.slice none 0 0, .int .i64 2], ?_, ?_⟩
    · simp [results, Tryz.results11, go_sem, c0]
    · exact ⟨by rw [← hNe]; exact HK6, rfl⟩
  | some l =>
    rintro e w5 ⟨rfl, v5, hW5, hF5, hb5⟩
    have bG5 : BoxC w5 (N + 1) #[.int .i64 0] 25 := ((hBB.trans hb5).block (N + 1) (by omega)).trans bG
    have HK : Hid (Below N w (w5.setCell ⟨N + 1, 0, none⟩ (.int .i64 0))) := (hbA.trans ((hBB.trans hb5).mono (by omega))).setCell (by show N ≤ N + 1; omega) _
    have HR : Hid ((w5.setCell ⟨N + 1, 0, none⟩ (.int .i64 0)).ownsRow (N + 1 + 1 + 1) 9 1 v5 l.length (strV l)) := by
      have := hW5.row
      rw [List.nil_append] at this
      exact ownsRow_setCell_other (a := ⟨N + 1, 0, none⟩) this (fun e => by have h1 := (this.lt _ e).1; have h2 : N + 1 + 1 + 1 ≤ N + 1 := h1; omega) _
    have z0 := hW5.box.cell 0 rfl
    have y0 := bG5.cell 0 rfl
    have f0 := bG5.fz 0
    obtain ⟨va, vc, rfl⟩ := hW5.shape
    clear hb5 hF5 hW5
    go_wp2
    refine leaves_cons (f := 25) (args := #[.pointer (some ⟨N + 1, 0, none⟩)]) (by simp) (by simp [go_sem]) ?_
    refine (wcatch_idle _ _).mono ?_
    rintro e u' w9 ⟨rfl, rfl, hw9⟩
    subst hw9
    refine ⟨.tuple #[.slice va ([] ++ l).length vc, .int .i64 0], ?_, ?_⟩
    · simp [results, Tryz.results11, go_sem, y0]
    · exact ⟨by rw [← HNe.out]; exact HK.out, _, _, rfl, HR.out⟩
theorem okN_of : ∀ (f : Nat) (t : Tree), depT t ≤ f → ShT 4611686018427387904 t → okN f t
  | 0, .node k x m ks, h, _ => by have := depL_pos ks; unfold depT at h; omega
  | f + 1, .node k x m ks, h, hs => by
    unfold ShT at hs
    have hd : depL ks ≤ f := by unfold depT at h; omega
    refine ⟨hs.1, ?_⟩
    have key : ∀ (l : List Tree), depL l ≤ f → ShT.ShL 4611686018427387904 l → ∀ t ∈ l, okN f t := by
      intro l
      induction l with
      | nil => intro _ _ t ht; cases ht
      | cons a r ih =>
        intro h1 h2 t ht
        unfold ShT.ShL at h2
        unfold depL at h1
        rcases List.mem_cons.1 ht with rfl | ht
        · exact okN_of f _ (by omega) h2.1
        · exact ih (by omega) h2.2 t ht
    exact key ks hd hs.2
theorem Tryz.extra : Builder.Extra Tryz.prog Tryz.laysJoin_ren where
  sizeBuilder := by kernel_rfl
  liesBuilder := by kernel_rfl
  t5 := Tryz.laysFmt.t5
  a5 := Tryz.laysFmt.a5
  z5 := Tryz.laysFmt.z5
  v5 := Tryz.laysFmt.v5
  infoByte := by kernel_rfl
  cellsByte := by kernel_rfl
  sizeByte := by kernel_rfl
  neB5 := by decide
theorem joinW_is : ∀ (ws : List ByteArray), Lib.join (ws.map (·.data.toList)) [32] = joinW ws
  | [] => rfl
  | [y] => by simp [Lib.join, joinW, List.intercalate]
  | y :: z :: r => by
    have ih := joinW_is (z :: r)
    show _ = y.data.toList ++ 32 :: joinW (z :: r)
    rw [← ih]
    simp [Lib.join, List.intercalate, List.intersperse]
theorem row_at {w : World} {B : Nat} {v : Value} {l : List ByteArray} (h : w.ownsRow B 9 1 v l.length (strV l)) (h0 : 0 < l.length) : ∃ g c, v = .slice (some ⟨g, 0, none⟩) l.length c ∧ l.length ≤ c ∧ g < w.heap.size ∧ ∀ (j : Nat) x, l[j]? = some x → w.cell? ⟨g, 0 + j, none⟩ = some (.string x) := by
  rcases h.2 with ⟨rfl, hn⟩ | ⟨g, cap, cur, rfl, _, _, h1, h2, _⟩
  · omega
  · refine ⟨g, cap, rfl, h1, (h.lt g rfl).2, fun j x hx => ?_⟩
    have hj : j < l.length := (List.getElem?_eq_some_iff.1 hx).1
    have := h.cellAt j (by omega)
    rw [Nat.zero_add, this]
    unfold strV
    rw [List.getElem?_map, hx]
    rfl
theorem mod_pos {f : Nat} {t : Tree} {l : List ByteArray} (h : moduleW f t = some l) : 0 < l.length := by
  obtain ⟨k, x, m, ks⟩ := t
  unfold moduleW at h
  dsimp only at h
  by_cases hl : lookB [1] (.node k x m ks) = true
  · rw [if_pos hl] at h
    cases h1 : seqF impW (ks.takeWhile impB) with
    | none => rw [h1] at h; cases h
    | some a =>
      rw [h1] at h
      cases h2 : seqF (declW f) (ks.dropWhile impB) with
      | none => simp only [Option.bind_some, h2] at h; cases h
      | some b =>
        simp only [Option.bind_some, h2, Option.some.injEq] at h
        subst h
        simp
  · rw [if_neg hl] at h; cases h
/-- what Print answers -/
def PrE (w : World) (o : List UInt8 × Int) (e : Ending) (w' : World) : Prop := e = .returned (.tuple #[.string ⟨o.1.toArray⟩, .int .i64 o.2]) ∧ Below w.heap.size w w'
set_option maxHeartbeats 2000000 in
theorem oPrint (w : World) (hP : PH w) (t : Tree) (nv : Value) (hl : Lies (· < w.heap.size) w t nv) (hs : ShT 4611686018427387904 t) :
    Calls Tryz.prog 5 #[nv] w (PrE w (printT t)) := by
  have c24 : Tryz.prog.cellsOf 24 = 4 := by kernel_rfl
  obtain ⟨k, x, m, a, n, c, rfl⟩ := lies_shape hl
  have hA := (Below.refl w.heap.size w).alloc (Nat.le_refl _) (.cells #[.int .i64 k, .string x, .int .i64 m, .slice a n c] 24)
  have bN := BoxC.new w #[.int .i64 k, .string x, .int .i64 m, .slice a n c] 24
  have hlA := hl.below hA
  have hC1 := osmall t _ _ hlA
  have HP : Hid (printT t = if fitsT t then (match moduleW 16 t with
    | none => (([], 2) : List UInt8 × Int)
    | some w => if 3000 < (joinW w).length then ([], 1) else (joinW w, 0)) else ([], 1)) := rfl
  generalize hPP : printT t = PP at *
  clear hPP
  go_enter Tryz.func5, Tryz.ntmps5
  go_wp2_with (fail)
  refine hC1.mono ?_
  clear hC1
  rintro e w2 ⟨rfl, hb2⟩
  have hbB := hA.trans (hb2.mono hA.size)
  cases hf : fitsT t with
  | false =>
    rw [hf] at HP
    obtain rfl := HP.out
    clear hf
    go_wp2
    go_ret2
    exact ⟨rfl, hbB⟩
  | true =>
    obtain ⟨hc5, hd⟩ := fits_sz t hf
    have hok : okN 18 t := okN_of 18 t (by omega) hs
    rw [hf] at HP
    have HP2 : Hid (PP = (match moduleW 16 t with
      | none => (([], 2) : List UInt8 × Int)
      | some w => if 3000 < (joinW w).length then ([], 1) else (joinW w, 0))) := HP.out
    have hC2 := oWrite w2 (hP.below hbB) t _ (hlA.below hb2) hok (by omega)
    have bN2 := bN.below hb2
    have z0 := bN2.cell 0 rfl
    have z1 := bN2.cell 1 rfl
    have z2 := bN2.cell 2 rfl
    have z3 := bN2.cell 3 rfl
    have Hc := show Hid _ from hc5
    clear hf HP hd hok hs hl hlA hc5
    cases hm : moduleW 16 t with
    | none =>
      rw [hm] at hC2 HP2
      obtain rfl := HP2.out
      clear hm
      go_wp2_with (fail)
      refine hC2.mono ?_
      clear hC2
      rintro e w3 ⟨hb3, rfl⟩
      go_wp2
      go_ret2
      exact ⟨rfl, hbB.trans (hb3.mono hbB.size)⟩
    | some l =>
      rw [hm] at hC2 HP2
      have hlen := module_len hm
      have h0 := mod_pos hm
      have hj := join_short l (module_ok hm)
      have hcl := Hc.out
      clear hm
      go_wp2_with (fail)
      refine hC2.mono ?_
      clear hC2
      rintro e w3 ⟨hb3, v, B, rfl, hR⟩
      obtain ⟨g, cc, rfl, hcc, hg, hcell⟩ := row_at hR h0
      have hJ := Any.strings_Join Tryz.laysJoin Tryz.extra g 0 cc l ⟨#[32]⟩ w3 hcell hg (by omega) hcc (by rw [show ((⟨#[32]⟩ : ByteArray).data.toList) = [32] from rfl, joinW_is]; omega)
      rw [show ((⟨#[32]⟩ : ByteArray).data.toList) = [32] from rfl, joinW_is] at hJ
      have hbC := hbB.trans (hb3.mono hbB.size)
      have hsz : ((⟨(joinW l).toArray⟩ : ByteArray).size) = (joinW l).length := by show (joinW l).toArray.size = _; simp
      have HS := show Hid _ from hsz
      clear hcell hR hlen hj hsz
      go_wp2_with (fail)
      refine hJ.mono ?_
      clear hJ
      rintro e w4 ⟨rfl, hb4⟩
      by_cases h3 : 3000 < (joinW l).length
      · rw [if_pos h3] at HP2
        obtain rfl := HP2.out
        have hd : decide (3000 < ((⟨(joinW l).toArray⟩ : ByteArray).size : Int)) = true := decide_eq_true (by rw [HS.out]; omega)
        clear h3
        generalize (⟨(joinW l).toArray⟩ : ByteArray) = y at *
        go_wp2
        go_ret2
        exact ⟨rfl, hbC.trans (hb4.mono hbC.size)⟩
      · rw [if_neg h3] at HP2
        have hd : decide (3000 < ((⟨(joinW l).toArray⟩ : ByteArray).size : Int)) = false := decide_eq_false (by rw [HS.out]; omega)
        clear h3
        have HE : Hid (PP = (joinW l, 0)) := HP2.out
        have HY : Hid (∃ y : ByteArray, y = ⟨(joinW l).toArray⟩) := ⟨_, rfl⟩
        generalize hy : (⟨(joinW l).toArray⟩ : ByteArray) = y at *
        have HYe := show Hid _ from hy
        clear hy HS HY
        go_wp2
        go_ret2
        refine ⟨?_, hbC.trans (hb4.mono hbC.size)⟩
        rw [HE.out, ← HYe.out]
        rfl
end pr
namespace pr
open Go.RowKit
open Go.Proofs.YtkoomoemkffjkaaGreatDoor.syn Go.Proofs.YtkoomoemkffjkaaGreatDoor.face Go.Proofs.YtkoomoemkffjkaaGreatDoor.chk
set_option maxHeartbeats 2000000 in
theorem prints_walk (t : Tree) (nv : Value) (w : World) (hP : PH w) (hl : Lies (· < w.heap.size) w t nv) (hs : ShT 4611686018427387904 t) :
    Calls Tryz.prog 3 #[nv] w fun e w' => e = .returned (.bool true) ∧ Below w.heap.size w w' := by
  have c24 : Tryz.prog.cellsOf 24 = 4 := by kernel_rfl
  obtain ⟨k, x, m, ks⟩ := t
  have hl2 := hl
  unfold Lies at hl2
  obtain ⟨a, cc, rfl, -, -⟩ := hl2
  have hA := (Below.refl w.heap.size w).alloc (Nat.le_refl _) (.cells #[.int .i64 k, .string x, .int .i64 m, .slice a ks.length cc] 24)
  obtain ⟨y, hy⟩ : ∃ y, y = sx (printT (.node k x m ks)).1 := ⟨_, rfl⟩
  obtain ⟨c, hc⟩ : ∃ c, c = (printT (.node k x m ks)).2 := ⟨_, rfl⟩
  have hC1 : Calls Tryz.prog 5 #[.agg #[.int .i64 k, .string x, .int .i64 m, .slice a ks.length cc]] (w.alloc (.cells #[.int .i64 k, .string x, .int .i64 m, .slice a ks.length cc] 24)) fun e w' => e = .returned (.tuple #[.string y, .int .i64 c]) ∧ Below (w.alloc (.cells #[.int .i64 k, .string x, .int .i64 m, .slice a ks.length cc] 24)).heap.size (w.alloc (.cells #[.int .i64 k, .string x, .int .i64 m, .slice a ks.length cc] 24)) w' := by rw [hy, hc]; exact oPrint _ (hP.below hA) _ _ (Lies.below hl hA) hs
  have hC2 : ∀ w1, Below w.heap.size w w1 → Calls Tryz.prog 6 #[.agg #[.int .i64 k, .string x, .int .i64 m, .slice a ks.length cc]] w1 fun e w' => e = .returned (.tuple #[.string y, .int .i64 c]) ∧ Below w1.heap.size w1 w' := fun w1 hb => by
    rw [hy, hc, ← print_is]
    exact rPrintP _ _ w1 (Lies.below hl hb) hs
  replace hC2 := (show Hid _ from hC2)
  have e1 : (y.toList == y.toList) = true := beq_self_eq_true _
  have e2 : (c == c) = true := beq_self_eq_true _
  clear hy hc hl hs hP
  go_enter Tryz.func3, Tryz.ntmps3
  go_wp2_with (fail)
  refine hC1.mono ?_
  clear hC1
  rintro e w1 ⟨rfl, hb1⟩
  obtain ⟨q0, q1, q2, q3, hsz, hbw⟩ := one_box (hb1.mono (by simp) : Below (w.heap.size + 1) (w.alloc (.cells #[.int .i64 k, .string x, .int .i64 m, .slice a ks.length cc] 24)) w1)
  go_wp2_with (fail)
  refine (hC2.out w1 hbw).mono ?_
  rintro e w2 ⟨rfl, hb2⟩
  go_wp2
  go_ret
  exact ⟨by first | rfl | simp, hbw.trans (hb2.mono hbw.size)⟩
end pr
end Go.Proofs.YtkoomoemkffjkaaGreatDoor
