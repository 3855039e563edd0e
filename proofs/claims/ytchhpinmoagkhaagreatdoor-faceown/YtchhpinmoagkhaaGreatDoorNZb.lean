/- What the row's list of package-level variables gives the walks: the library's variable ErrRange, and the program's table of operators. And a world in which the list is met. Proved: for every text that has a face (and every number), the face may be, is the same as itself, and is another one when a label in it is turned (law FaceOwn), and the text reads afterwards as it did. Nothing else is asked but what the card says: that the listed variables hold what the program's own text lays there. -/
import Derived.Test.YtchhpinmoagkhaaGreatDoorCards
import Derived.Test.YtchhpinmoagkhaaGreatDoorTie
import Derived.Stop.LaidErr
import Derived.Lay
import Derived.MakeChecks
import Derived.ChangeArms
import Derived.Test.YtchhpinmoagkhaaGreatDoorNOm
import Derived.Test.YtchhpinmoagkhaaGreatDoorNFn
import Derived.Test.YtchhpinmoagkhaaGreatDoorNGd
import Derived.WalkKit
import Derived.ProofKit
import Derived.OpenShut
import Derived.ShutString
import Derived.Below
import Derived.ChangeOld
import Derived.Deep.DeepHandedRow
namespace Go.Proofs.YtchhpinmoagkhaaGreatDoor.syn
open Go.RowKit
open Go.Proofs.YtchhpinmoagkhaaGreatDoor.lexs (HasErr)
set_option linter.unusedSimpArgs false
set_option maxRecDepth 100000

theorem gER : Tryz.prog.globalNamed "strconv.ErrRange" = some (Tryz.laysPI_ren.g 16) := by kernel_rfl
theorem gERType : (Tryz.prog.globals[Tryz.laysPI_ren.g 16]?).map (·.type) = some 106 := by kernel_rfl
theorem cellsEs : Tryz.prog.cellsOf 191 = 1 := by kernel_rfl
theorem cellsStr : Tryz.prog.cellsOf 9 = 1 := by kernel_rfl
theorem cellsInt : Tryz.prog.cellsOf 3 = 1 := by kernel_rfl
theorem cellsOp : Tryz.prog.cellsOf 204 = 2 := by kernel_rfl
theorem cellsOps : Tryz.prog.cellsOf 205 = 20 := by kernel_rfl
theorem starEs : "*" ++ "errors.errorString" = "*errors.errorString" := by decide
theorem rowEs (u : TypeId) (h : Tryz.prog.typeName? 3 u = some "*errors.errorString") : u = 189 :=
  typeName_ptr_named (nm := "errors.errorString") (by rw [starEs]; kernel_rfl) (by kernel_rfl) (by decide) u (by rw [starEs]; exact h)
theorem gOpsType : (Tryz.prog.globals[5]?).map (·.type) = some 205 := by kernel_rfl
theorem ba_of_list {s : ByteArray} {l : List UInt8} (h : s.data.toList = l) : s = ⟨l.toArray⟩ := by rw [← h, Lib.mk_data]
/-- an operator's two cells -/
theorem pair_of_trod {H : Type} {enc : TypeId × Value → H} {w : World} {base : Nat} {sp : Nat → Bool} {held : Bool} {fuel : Nat} {l : List Value} {y : DataW H × List MemPlace}
    (h : DataW.trod enc Tryz.prog w base sp held fuel 204 l = some y) : ∃ (s : ByteArray) (n : Int), l = [.string s, .int .i64 n] ∧ y.1 = .agg [.lit (.string s.data.toList), .lit (.int .i64 n)] := by
  cases fuel with
  | zero => simp [DataW.trod] at h
  | succ fuel =>
    simp only [DataW.trod, Tryz.underlying204, cellsOp] at h
    split at h
    · rename_i hl
      obtain ⟨c0, c1, rfl⟩ : ∃ c0 c1, l = [c0, c1] := by
        match l, hl with
        | [a, b], _ => exact ⟨a, b, rfl⟩
      simp only [Option.map_eq_some_iff, List.mapM_cons, List.mapM_nil, Option.bind_eq_bind, Option.bind_eq_some_iff, Option.pure_def, Option.some.injEq, cellsStr, cellsInt] at h
      obtain ⟨xs, ⟨y0, h0, _, ⟨y1, h1, _, rfl, rfl⟩, rfl⟩, hx⟩ := h
      obtain ⟨s, hs, rfl, _⟩ := DataW.trod_string Tryz.underlying9 h0
      obtain ⟨n, hn, rfl, _⟩ := DataW.trod_int Tryz.underlying3 h1
      simp at hs hn
      subst hs hn
      refine ⟨s, n, rfl, ?_⟩
      rw [← hx]
      rfl
    · cases h
theorem two_at {l : List Value} {i : Nat} {a b : Value} (h : (l.drop i).take 2 = [a, b]) : l[i]? = some a ∧ l[i + 1]? = some b := by
  have h0 : ((l.drop i).take 2)[0]? = some a := by rw [h]; rfl
  have h1 : ((l.drop i).take 2)[1]? = some b := by rw [h]; rfl
  rw [List.getElem?_take_of_lt (by omega), List.getElem?_drop] at h0 h1
  exact ⟨h0, h1⟩
theorem ops_at {l : List Value} {k : Nat} {s : ByteArray} {n : Int} {bs : List UInt8} (h : (l.drop (k * 2)).take 2 = [.string s, .int .i64 n]) (hs : s.data.toList = bs) (h1 : opAt k = ⟨bs.toArray⟩) (h2 : opIs k = n) :
    (⟨l⟩ : Array Value)[k * 2]? = some (.string (opAt k)) ∧ (⟨l⟩ : Array Value)[k * 2 + 1]? = some (.int .i64 (opIs k)) := by
  obtain ⟨b0, b1⟩ := two_at h
  rw [h1, h2, ← ba_of_list hs]
  exact ⟨by simpa using b0, by simpa using b1⟩
/-- the variables that the row lists -/
abbrev laidL : List (String × DataW Unit) := Rows.syntaxParsesRow.laid
/-- the name of the table of operators -/
def opsName : String := (laidL.getD 5 ("", .nil)).1
theorem gOps : Tryz.prog.globalNamed opsName = some 5 := by kernel_rfl
theorem hasErr_of_laid {W : World} (h0 : laidMet Tryz.prog laidL W) : HasErr W := by
  have h1 := (h0.tail).tail.tail
  obtain ⟨a0, s0, hv0, _⟩ := laid_sentinel h1 gER gERType Tryz.underlying106 rowEs Tryz.underlying189 Tryz.underlying191 rfl rfl Tryz.underlying9 cellsEs cellsStr
  exact ⟨_, by have h2 := World.var?_cell gER hv0 0; simpa using h2, .inr ⟨_, _, rfl⟩⟩
set_option maxHeartbeats 2000000 in
theorem hasOps_of_laid {W : World} (h0 : laidMet Tryz.prog laidL W) : HasOps W := by
  obtain ⟨ps, ⟨g, t, cs, fuel, p, q, hg, ht, hvar, hd, _, _⟩, _⟩ := h0.tail.tail.tail.tail.tail
  obtain rfl := Option.some.inj (gOps.symm.trans hg)
  obtain rfl := Option.some.inj (gOpsType.symm.trans ht)
  obtain ⟨l⟩ := cs
  have hheap : ∃ t fr, W.heap[5]? = some (.cells ⟨l⟩ t fr) := by
    replace hvar : W.var? Tryz.prog opsName = some ⟨l⟩ := hvar
    simp only [World.var?, gOps, Option.bind_some] at hvar
    split at hvar
    · rename_i c t fr hh
      simp only [Option.some.injEq] at hvar
      exact ⟨t, fr, by rw [hh, hvar]⟩
    · cases hvar
  obtain ⟨t', fr, hheap⟩ := hheap
  cases fuel with
  | zero => simp [DataW.trod] at hd
  | succ fuel =>
    simp only [DataW.trod, Tryz.underlying205, cellsOps, cellsOp] at hd
    split at hd
    · rename_i hl
      have e : List.range 10 = [0, 1, 2, 3, 4, 5, 6, 7, 8, 9] := rfl
      rw [e] at hd
      simp only [Option.map_eq_some_iff, List.mapM_cons, List.mapM_nil, Option.bind_eq_bind, Option.bind_eq_some_iff, Option.pure_def, Option.some.injEq] at hd
      obtain ⟨xs, ⟨y0, h0, _, ⟨y1, h1, _, ⟨y2, h2, _, ⟨y3, h3, _, ⟨y4, h4, _, ⟨y5, h5, _, ⟨y6, h6, _, ⟨y7, h7, _, ⟨y8, h8, _, ⟨y9, h9, _, rfl, rfl⟩, rfl⟩, rfl⟩, rfl⟩, rfl⟩, rfl⟩, rfl⟩, rfl⟩, rfl⟩, rfl⟩, hx⟩ := hd
      obtain ⟨s0, n0, e0, f0⟩ := pair_of_trod h0
      obtain ⟨s1, n1, e1, f1⟩ := pair_of_trod h1
      obtain ⟨s2, n2, e2, f2⟩ := pair_of_trod h2
      obtain ⟨s3, n3, e3, f3⟩ := pair_of_trod h3
      obtain ⟨s4, n4, e4, f4⟩ := pair_of_trod h4
      obtain ⟨s5, n5, e5, f5⟩ := pair_of_trod h5
      obtain ⟨s6, n6, e6, f6⟩ := pair_of_trod h6
      obtain ⟨s7, n7, e7, f7⟩ := pair_of_trod h7
      obtain ⟨s8, n8, e8, f8⟩ := pair_of_trod h8
      obtain ⟨s9, n9, e9, f9⟩ := pair_of_trod h9
      simp only [List.map_cons, List.map_nil, f0, f1, f2, f3, f4, f5, f6, f7, f8, f9] at hx
      simp [Rows.laid_dryshod_syntax_operators] at hx
      obtain ⟨⟨⟨a0, rfl⟩, ⟨a1, rfl⟩, ⟨a2, rfl⟩, ⟨a3, rfl⟩, ⟨a4, rfl⟩, ⟨a5, rfl⟩, ⟨a6, rfl⟩, ⟨a7, rfl⟩, ⟨a8, rfl⟩, a9, rfl⟩, _⟩ := hx
      refine ⟨⟨l⟩, t', fr, hheap, by simpa using hl, fun k hk => ?_⟩
      rcases ten hk with rfl | rfl | rfl | rfl | rfl | rfl | rfl | rfl | rfl | rfl
      · exact ops_at e0 (by rw [a0]) rfl rfl
      · exact ops_at e1 a1 rfl rfl
      · exact ops_at e2 a2 rfl rfl
      · exact ops_at e3 a3 rfl rfl
      · exact ops_at e4 a4 rfl rfl
      · exact ops_at e5 a5 rfl rfl
      · exact ops_at e6 a6 rfl rfl
      · exact ops_at e7 a7 rfl rfl
      · exact ops_at e8 a8 rfl rfl
      · exact ops_at e9 a9 rfl rfl
    · cases hd
theorem hasBoth_of_laid {W : World} (h : laidMetH Tryz.prog laidL W) : HasBoth W := by
  have h0 : laidMet Tryz.prog laidL W := by rw [← MakeChecks.laidMetH_plain _ _ _ (by kernel_rfl)]; exact h
  exact ⟨hasErr_of_laid h0, hasOps_of_laid h0⟩
theorem laid_met (os : Os) : laidMetH Tryz.prog laidL ((World.laidAll Tryz.prog os laidL).forCall (fun _ _ => 0) ⟨#[], #[.string ByteArray.empty], []⟩).memory := by
  rw [MakeChecks.laidMetH_plain _ _ _ (by kernel_rfl)]
  exact laidMet_laidAll _ (by kernel_rfl) (by kernel_rfl)
end Go.Proofs.YtchhpinmoagkhaaGreatDoor.syn
namespace Go.Proofs.YtchhpinmoagkhaaGreatDoor.faceOwn
open Go.ChangeShapes Go.WideShapes Go.ChangeAt Go.RowKit
open Go.ChangeMaps (open_string shut_string)
set_option linter.unusedVariables false
set_option maxRecDepth 100000

theorem own : ownKnob Tryz.prog.godebug = none := by kernel_rfl
open Go.Proofs.YtchhpinmoagkhaaGreatDoor.syn Go.Proofs.YtchhpinmoagkhaaGreatDoor.face in
/-- a module that is read is small -/
theorem small {x : ByteArray} {m : ByteArray} {K : List Kid} (ht : (parse x).tree = .node 1 m 0 (K.map Kid.tree)) (hf : fitsT (parse x).tree = true) : cntL (K.map Kid.tree) ≤ 1000 ∧ K.length ≤ 1000 ∧ ∀ k ∈ K, k.kids.length ≤ 1000 := by
  rw [ht, ← within_fits, withinT_is _ 1 0 (by omega) (by omega) (by omega) (by omega)] at hf
  split at hf
  · rename_i h
    have hc : cntL (K.map Kid.tree) + 1 ≤ 500 := by
      have h2 := h.2
      rw [show cntT (.node 1 m 0 (K.map Kid.tree)) = cntL (K.map Kid.tree) + 1 by unfold cntT; rfl] at h2
      omega
    have hlen : ∀ l : List Tree, (l.length : Int) ≤ cntL l := by
      intro l
      induction l with
      | nil => simp [cntL]
      | cons t r ih =>
        have := cntT_pos t
        show ((r.length + 1 : Nat) : Int) ≤ cntT t + cntL r
        omega
    refine ⟨by omega, ?_, ?_⟩
    · have := hlen (K.map Kid.tree)
      rw [List.length_map] at this
      omega
    · intro k hk
      obtain ⟨i, hi, rfl⟩ := List.mem_iff_getElem.1 hk
      have h1 := cntT_mem (K.map Kid.tree) i (by simpa using hi)
      have h2 : (K.map Kid.tree)[i]'(by simpa using hi) = K[i].tree := by simp
      rw [h2, Kid.tree_is] at h1
      have h3 : cntT (.node K[i].kind K[i].text K[i].num K[i].kids) = cntL K[i].kids + 1 := by unfold cntT; rfl
      have h4 := hlen K[i].kids
      omega
  · simp at hf
theorem walk (a0 : ByteArray) (a1 : Int) (h0 : 0 ≤ a1) (h1 : a1 ≤ 255) (w : World) (hw : syn.HasBoth w) :
    Calls Tryz.prog 8 #[.string a0, .int .u8 a1] w fun e w' => e = .returned (.bool true) ∧ Below w.heap.size w w' := by
  have hE : ∀ w', Below w.heap.size w w' → lexs.HasErr w' := fun w' hb => (face.hasBoth_below hw hb).1
  by_cases hc : (syn.parse a0).code = 0
  · obtain ⟨m, K, ht, hm, hN, hg, hf⟩ := face.parse_shape3 a0 hc
    obtain ⟨hK, hKl, hps⟩ := small ht hf
    have hOf := fun w' hw' => face.oOf_ok a0 m K w' hw' hc ht hm (fun k hk => (hg k hk).1) hK hps
    cases hl : face.lookD K [m] [] 1 with
    | some q =>
      have h2 := (hOf w hw).mono (fun e w' h => (face.DeclOut.bad hl).1 h)
      exact face.faceOwn_bad a0 a1 q.1 q.2 w (face.lookD_ne m K 1 q hl) hE (h2.mono (fun e w' h => ⟨_, _, h.1, face.noFace_in _, face.noStrs_in _, h.2⟩))
    | none =>
      have hn : (face.namesK K).length ≤ 20 := by have := face.lookD_names K [m] [] 1 hl (by simp); simpa using this
      exact face.faceOwn_ok a0 a1 m K w hw h0 h1 hl (face.may_own hN (fun k hk => (hg k hk).2) hl hn) hOf
  · exact face.faceOwn_bad a0 a1 _ _ w hc hE (face.oOf_bad a0 w hw hc)
/-- what the walk gives, for every argument and every world that holds the listed variables -/
theorem contract (H : Type) (enc : TypeId × Value → H) (W : World) (base : Nat) (args : Array Value) (ds gs : List (DataW H)) (before : List MemPlace)
    (hval : ∀ (j : Nat) t v, Tryz.f8.params[j]? = some t → args[j]? = some v → Value.okWide Tryz.prog W .any base t v)
    (hW : DataW.Whole enc Tryz.prog Tryz.f8.params.toList Rows.faceOwnSpec.vars false W args.toList ds gs before) (hL : laidMetH Tryz.prog Rows.faceOwnRow.laid W) :
    Calls Tryz.prog 8 args W fun e W' => ∃ v, e = .returned v ∧ Rows.faceOwnSpec.post enc Tryz.prog Tryz.f8 false true false false W args v W' := by
  have hW' := hW
  obtain ⟨p, q, hA0, hV, rfl, hfz, hnd⟩ := hW
  have hA : DataW.TrodAll enc Tryz.prog W 0 (fun _ => true) true Tryz.f8.params.toList args.toList ds p := hA0
  rw [Tryz.params8] at hA hval
  obtain ⟨v0, vs0, d0, ds0, p0, q0, hargs, rfl, rfl, h0, r0⟩ := trodAll_cons hA
  obtain ⟨v1, vs1, d1, ds1, p1, q1, hargs1, rfl, rfl, h1, r1⟩ := trodAll_cons r0
  obtain ⟨rfl, rfl, rfl⟩ := trodAll_nil r1
  obtain rfl : args = #[v0, v1] := by cases args; simp_all
  obtain ⟨rfl, rfl⟩ := trodVars_none hV
  obtain ⟨a0, rfl, rfl, rfl, w0⟩ := open_string Tryz.underlying9 (hval 0 9 v0 rfl rfl) h0
  obtain ⟨a1, rfl, rfl, rfl, w1⟩ := open_int Tryz.underlying5 (hval 1 5 v1 rfl rfl) h1
  clear hA0
  obtain ⟨b0, b1⟩ := bounds_u8 w1
  refine (walk a0 a1 b0 b1 W (syn.hasBoth_of_laid hL)).mono fun e W' ⟨he, hg⟩ => ?_
  subst he
  exact ⟨_, rfl, _, _, _, [], _, [], hW', trodAll_mk1 (shut_bool Tryz.underlying4 _), (trodAll_cons_mk (shut_string Tryz.underlying9 w0) (trodAll_cons_mk (shut_int Tryz.underlying5 w1) trodAll_mk0)), rfl, hg.frame _, fun h => by cases h⟩
theorem reads (os : Os) {H : Type} (enc : TypeId × Value → H) : ∃ places, DataW.whole enc Tryz.prog ((World.laidAll Tryz.prog os syn.laidL).forCall (fun _ _ => 0) ⟨#[], #[.string ByteArray.empty, .int .u8 0], []⟩).memory Tryz.f8.params.toList Rows.faceOwnSpec.vars false #[Value.string ByteArray.empty, .int .u8 0].toList 8 = some ([.lit (.string []), .lit (.int .u8 0)], [], places) :=
  ⟨[], by kernel_rfl⟩
set_option maxRecDepth 100000 in
theorem lifted (os : Os) (started : os.Started) (H : Type) (enc : TypeId × Value → H) (F : Stop.Interp) :
    ReturnsInHanded {} Tryz.checked os 8 .any ((OpenSpec.ofChange Rows.faceOwnSpec).preRow enc Tryz.prog Tryz.f8 Rows.faceOwnRow.domain false Rows.faceOwnRow.laid) (((OpenSpec.ofChange Rows.faceOwnSpec).at F).post enc Tryz.prog Tryz.f8 false true false false) := by
  obtain ⟨places, hx⟩ := reads os enc
  refine returnsInHanded_of_row (C := Tryz.checked) (s := OpenSpec.ofChange Rows.faceOwnSpec) own started (by kernel_rfl) Tryz.func8
    (witness_row_at (enc := enc) (C := Tryz.checked) false (World.laidAll Tryz.prog os syn.laidL) #[.string ByteArray.empty, .int .u8 0] (World.laidAll_os _ _ _) (by kernel_rfl) (by kernel_rfl) (by kernel_rfl)
      (OpenSpec.preRow_of_cond 8 hx (by kernel_rfl) (fun k hk => by cases hk) (by kernel_rfl) (syn.laid_met os))) ?_
  intro W base args ds gs before hval hW _ _ _ hL _ _
  exact contract H enc W base args ds gs before hval hW hL
theorem said : Rows.FaceOwnSaid :=
  OpenClaim.holds_of_cond 8 Tryz.f8 rfl rfl rfl rfl rfl rfl rfl ⟨rfl, rfl, rfl, rfl, rfl⟩ rfl rfl rfl rfl rfl (by kernel_rfl) Tryz.func8 (by kernel_rfl)
    (of_decide_eq_true (by kernel_rfl)) (by unfold Func.isWrapper; first | (rw [if_pos (by decide +kernel)]; kernel_rfl) | (rw [if_neg (by decide +kernel)]; exact ⟨rfl, rfl⟩))
    (fun os started H enc _ F => by rw [OpenClaim.pre_eq_preRow]; exact lifted os started H enc F)
/-- no parameter wants a stand-in; the program's own looks are off: what the card asks -/
theorem plain (f : FuncId) (fn : Func) (hf : Tryz.pinned.checked.prog.funcNamed Rows.faceOwnRow.func = some f) (hfn : Tryz.pinned.checked.prog.funcs[f]? = some fn) :
    true = Tryz.pinned.checked.prog.looks [] ∧ ∀ (j : Nat) t, fn.params[j]? = some t → Tryz.pinned.checked.prog.wantsStandIn t = false := by
  obtain rfl : f = 8 := Option.some.inj ((show Tryz.prog.funcNamed Rows.faceOwnRow.func = some 8 by kernel_rfl).symm.trans hf) |>.symm
  obtain rfl : fn = Tryz.f8 := (Option.some.inj (Tryz.func8.symm.trans hfn)).symm
  refine ⟨by kernel_rfl, fun j t ht => ?_⟩
  rw [Tryz.params8] at ht
  have ht' : t = 9 ∨ t = 5 := by simpa using Array.mem_of_getElem? ht
  rcases ht' with rfl | rfl
  · exact (show Tryz.prog.wantsStandIn 9 = false by kernel_rfl)
  · exact (show Tryz.prog.wantsStandIn 5 = false by kernel_rfl)
/-- THE CARD -/
theorem card : Rows.FaceOwnCardSaid :=
  Claim7.holds_tied_plain_at .later [] _ _ _ _ said (fun _ h => by cases h) (by kernel_rfl) (fun _ h => by cases h) faceOwn_row_tie rfl ⟨rfl, rfl⟩ (by kernel_rfl) rfl plain (by kernel_rfl)
end Go.Proofs.YtchhpinmoagkhaaGreatDoor.faceOwn
