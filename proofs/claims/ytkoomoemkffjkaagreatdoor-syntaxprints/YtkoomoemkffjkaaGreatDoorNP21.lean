/- Proved: for every node, such as no text has among them: the program prints it as the document's answer does, with just the parentheses that it takes, or tells the same of it that is wrong (law SyntaxPrints); and the node reads afterwards as it did. Nothing else is asked but what the card says: that the listed variables hold what the program's own text lays there. -/
import Derived.Test.YtkoomoemkffjkaaGreatDoorCards
import Derived.Test.YtkoomoemkffjkaaGreatDoorTie
import Derived.Stop.LaidErr
import Derived.Lay
import Derived.Test.YtkoomoemkffjkaaGreatDoorNP20
import Derived.Deep.Frames
import Derived.Deep.DeepHandedRow
set_option linter.unusedSimpArgs false
set_option maxRecDepth 100000
set_option linter.unusedVariables false
namespace Go.Proofs.YtkoomoemkffjkaaGreatDoor
namespace syn
open Go.RowKit
open Go.Proofs.YtkoomoemkffjkaaGreatDoor.lexs (HasErr)

theorem gER : Tryz.prog.globalNamed "strconv.ErrRange" = some (Tryz.laysPI_ren.g 16) := by kernel_rfl
theorem gERType : (Tryz.prog.globals[Tryz.laysPI_ren.g 16]?).map (·.type) = some 68 := by kernel_rfl
theorem cellsEs : Tryz.prog.cellsOf 245 = 1 := by kernel_rfl
theorem cellsStr : Tryz.prog.cellsOf 9 = 1 := by kernel_rfl
theorem cellsInt : Tryz.prog.cellsOf 3 = 1 := by kernel_rfl
theorem cellsOp : Tryz.prog.cellsOf 251 = 2 := by kernel_rfl
theorem cellsOps : Tryz.prog.cellsOf 252 = 20 := by kernel_rfl
theorem starEs : "*" ++ "errors.errorString" = "*errors.errorString" := by decide
theorem rowEs (u : TypeId) (h : Tryz.prog.typeName? 3 u = some "*errors.errorString") : u = 243 :=
  typeName_ptr_named (nm := "errors.errorString") (by rw [starEs]; kernel_rfl) (by kernel_rfl) (by decide) u (by rw [starEs]; exact h)
theorem gOpsType : (Tryz.prog.globals[5]?).map (·.type) = some 252 := by kernel_rfl
theorem ba_of_list {s : ByteArray} {l : List UInt8} (h : s.data.toList = l) : s = ⟨l.toArray⟩ := by rw [← h, Lib.mk_data]
/-- an operator's two cells -/
theorem pair_of_trod {H : Type} {enc : TypeId × Value → H} {w : World} {base : Nat} {sp : Nat → Bool} {held : Bool} {fuel : Nat} {l : List Value} {y : DataW H × List MemPlace}
    (h : DataW.trod enc Tryz.prog w base sp held fuel 251 l = some y) : ∃ (s : ByteArray) (n : Int), l = [.string s, .int .i64 n] ∧ y.1 = .agg [.lit (.string s.data.toList), .lit (.int .i64 n)] := by
  cases fuel with
  | zero => simp [DataW.trod] at h
  | succ fuel =>
    simp only [DataW.trod, Tryz.underlying251, cellsOp] at h
    split at h
    · rename_i hl
      obtain ⟨c0, c1, rfl⟩ : ∃ c0 c1, l = [c0, c1] := by
        match l, hl with
        | [a, b], _ => exact ⟨a, b, rfl⟩
      simp only [Option.map_eq_some_iff, List.mapM_cons, List.mapM_nil, Option.bind_eq_bind, Option.bind_eq_some_iff, Option.pure_def, Option.some.injEq, cellsStr, cellsInt] at h
      obtain ⟨xs, ⟨y0, h0, _, ⟨y1, h1, _, rfl, rfl⟩, rfl⟩, hx⟩ := h
      obtain ⟨s, hs, rfl, _⟩ := DataW.trod_string Tryz.underlying9 h0
      obtain ⟨n, hn, rfl, _⟩ := DataW.trod_int Tryz.underlying3 h1
      simp at hs hn
      subst hs hn
      refine ⟨s, n, rfl, ?_⟩
      rw [← hx]
      rfl
    · cases h
theorem two_at {l : List Value} {i : Nat} {a b : Value} (h : (l.drop i).take 2 = [a, b]) : l[i]? = some a ∧ l[i + 1]? = some b := by
  have h0 : ((l.drop i).take 2)[0]? = some a := by rw [h]; rfl
  have h1 : ((l.drop i).take 2)[1]? = some b := by rw [h]; rfl
  rw [List.getElem?_take_of_lt (by omega), List.getElem?_drop] at h0 h1
  exact ⟨h0, h1⟩
theorem ops_at {l : List Value} {k : Nat} {s : ByteArray} {n : Int} {bs : List UInt8} (h : (l.drop (k * 2)).take 2 = [.string s, .int .i64 n]) (hs : s.data.toList = bs) (h1 : opAt k = ⟨bs.toArray⟩) (h2 : opIs k = n) :
    (⟨l⟩ : Array Value)[k * 2]? = some (.string (opAt k)) ∧ (⟨l⟩ : Array Value)[k * 2 + 1]? = some (.int .i64 (opIs k)) := by
  obtain ⟨b0, b1⟩ := two_at h
  rw [h1, h2, ← ba_of_list hs]
  exact ⟨by simpa using b0, by simpa using b1⟩
/-- the variables that the row lists -/
abbrev laidL : List (String × DataW Unit) := Rows.syntaxPrintsRow.laid
/-- the name of the table of operators -/
def opsName : String := (laidL.getD 5 ("", .nil)).1
theorem gOps : Tryz.prog.globalNamed opsName = some 5 := by kernel_rfl
theorem hasErr_of_laid {W : World} (h0 : laidMet Tryz.prog laidL W) : HasErr W := by
  have h1 := (h0.tail).tail.tail
  obtain ⟨a0, s0, hv0, _⟩ := laid_sentinel h1 gER gERType Tryz.underlying68 rowEs Tryz.underlying243 Tryz.underlying245 rfl rfl Tryz.underlying9 cellsEs cellsStr
  exact ⟨_, by have h2 := World.var?_cell gER hv0 0; simpa using h2, .inr ⟨_, _, rfl⟩⟩
set_option maxHeartbeats 2000000 in
theorem hasOps_of_laid {W : World} (h0 : laidMet Tryz.prog laidL W) : HasOps W := by
  obtain ⟨ps, ⟨g, t, cs, fuel, p, q, hg, ht, hvar, hd, _, _⟩, _⟩ := h0.tail.tail.tail.tail.tail
  obtain rfl := Option.some.inj (gOps.symm.trans hg)
  obtain rfl := Option.some.inj (gOpsType.symm.trans ht)
  obtain ⟨l⟩ := cs
  have hheap : ∃ t fr, W.heap[5]? = some (.cells ⟨l⟩ t fr) := by
    replace hvar : W.var? Tryz.prog opsName = some ⟨l⟩ := hvar
    simp only [World.var?, gOps, Option.bind_some] at hvar
    split at hvar
    · rename_i c t fr hh
      simp only [Option.some.injEq] at hvar
      exact ⟨t, fr, by rw [hh, hvar]⟩
    · cases hvar
  obtain ⟨t', fr, hheap⟩ := hheap
  cases fuel with
  | zero => simp [DataW.trod] at hd
  | succ fuel =>
    simp only [DataW.trod, Tryz.underlying252, cellsOps, cellsOp] at hd
    split at hd
    · rename_i hl
      have e : List.range 10 = [0, 1, 2, 3, 4, 5, 6, 7, 8, 9] := rfl
      rw [e] at hd
      simp only [Option.map_eq_some_iff, List.mapM_cons, List.mapM_nil, Option.bind_eq_bind, Option.bind_eq_some_iff, Option.pure_def, Option.some.injEq] at hd
      obtain ⟨xs, ⟨y0, h0, _, ⟨y1, h1, _, ⟨y2, h2, _, ⟨y3, h3, _, ⟨y4, h4, _, ⟨y5, h5, _, ⟨y6, h6, _, ⟨y7, h7, _, ⟨y8, h8, _, ⟨y9, h9, _, rfl, rfl⟩, rfl⟩, rfl⟩, rfl⟩, rfl⟩, rfl⟩, rfl⟩, rfl⟩, rfl⟩, rfl⟩, hx⟩ := hd
      obtain ⟨s0, n0, e0, f0⟩ := pair_of_trod h0
      obtain ⟨s1, n1, e1, f1⟩ := pair_of_trod h1
      obtain ⟨s2, n2, e2, f2⟩ := pair_of_trod h2
      obtain ⟨s3, n3, e3, f3⟩ := pair_of_trod h3
      obtain ⟨s4, n4, e4, f4⟩ := pair_of_trod h4
      obtain ⟨s5, n5, e5, f5⟩ := pair_of_trod h5
      obtain ⟨s6, n6, e6, f6⟩ := pair_of_trod h6
      obtain ⟨s7, n7, e7, f7⟩ := pair_of_trod h7
      obtain ⟨s8, n8, e8, f8⟩ := pair_of_trod h8
      obtain ⟨s9, n9, e9, f9⟩ := pair_of_trod h9
      simp only [List.map_cons, List.map_nil, f0, f1, f2, f3, f4, f5, f6, f7, f8, f9] at hx
      simp [Rows.laid_dryshod_syntax_operators] at hx
      obtain ⟨⟨⟨a0, rfl⟩, ⟨a1, rfl⟩, ⟨a2, rfl⟩, ⟨a3, rfl⟩, ⟨a4, rfl⟩, ⟨a5, rfl⟩, ⟨a6, rfl⟩, ⟨a7, rfl⟩, ⟨a8, rfl⟩, a9, rfl⟩, _⟩ := hx
      refine ⟨⟨l⟩, t', fr, hheap, by simpa using hl, fun k hk => ?_⟩
      rcases ten hk with rfl | rfl | rfl | rfl | rfl | rfl | rfl | rfl | rfl | rfl
      · exact ops_at e0 (by rw [a0]) rfl rfl
      · exact ops_at e1 a1 rfl rfl
      · exact ops_at e2 a2 rfl rfl
      · exact ops_at e3 a3 rfl rfl
      · exact ops_at e4 a4 rfl rfl
      · exact ops_at e5 a5 rfl rfl
      · exact ops_at e6 a6 rfl rfl
      · exact ops_at e7 a7 rfl rfl
      · exact ops_at e8 a8 rfl rfl
      · exact ops_at e9 a9 rfl rfl
    · cases hd
end syn
namespace chk
open Go.RowKit
open Go.Proofs.YtkoomoemkffjkaaGreatDoor.syn Go.Proofs.YtkoomoemkffjkaaGreatDoor.face
theorem hasMax_of_shaped {W : World} (h : W.ShapedOpen Tryz.prog) : HasMax W := by
  obtain ⟨cs, hh, hs, hr⟩ := h.1 1 #[.int .i64 0] 3 (of_decide_eq_true (by kernel_rfl)) (by kernel_rfl)
  obtain ⟨ts, hts, _, hall⟩ := hr (by kernel_rfl)
  have hc : Tryz.prog.cellTypes Tryz.prog.depth 3 = some [3] := by kernel_rfl
  rw [hc] at hts
  cases hts
  have h1 : 0 < cs.size := by rw [hs]; decide
  obtain ⟨u, hu', hok⟩ := hall 0 cs[0] (by simp [h1])
  have : u = 3 := by simpa using hu'.symm
  subst this
  have hcell : W.cell? ⟨1, 0, none⟩ = some cs[0] := by simp [World.cell?, hh, h1]
  have e : Tryz.laysCut_ren.g 1 = 1 := by kernel_rfl
  unfold HasMax
  rw [e, hcell]
  unfold Cell.ok at hok
  rw [Tryz.underlying3] at hok
  cases hv : cs[0] <;> rw [hv] at hok <;> simp at hok
  exact ⟨_, by rw [hok.1]⟩
end chk
namespace pr
open Go.RowKit
open Go.Proofs.YtkoomoemkffjkaaGreatDoor.syn
open Go.Proofs.YtkoomoemkffjkaaGreatDoor.lexs (HasErr)
theorem trod_struct5 {H : Type} {enc : TypeId × Value → H} {P : Program} {w : World} {base : Nat} {spare : Nat → Bool} {held : Bool} {t : TypeId} {f0 f1 f2 f3 f4 : Field} {fuel : Nat} {cs : List Value} {x : DataW H × List MemPlace} (ht : P.underlying t = some (.struct #[f0, f1, f2, f3, f4])) (h : DataW.trod enc P w base spare held fuel t cs = some x) :
    ∃ y0 y1 y2 y3 y4 n, x.1 = .agg [y0.1, y1.1, y2.1, y3.1, y4.1] ∧ DataW.trod enc P w base spare held n f0.type ((cs.drop f0.offset).take (P.cellsOf f0.type)) = some y0 ∧
      DataW.trod enc P w base spare held n f1.type ((cs.drop f1.offset).take (P.cellsOf f1.type)) = some y1 ∧ DataW.trod enc P w base spare held n f2.type ((cs.drop f2.offset).take (P.cellsOf f2.type)) = some y2 ∧
      DataW.trod enc P w base spare held n f3.type ((cs.drop f3.offset).take (P.cellsOf f3.type)) = some y3 ∧ DataW.trod enc P w base spare held n f4.type ((cs.drop f4.offset).take (P.cellsOf f4.type)) = some y4 := by
  obtain ⟨xs, n, _, rfl, hl, hlen, hf⟩ := DataW.trod_struct ht h
  match xs, hlen with
  | [y0, y1, y2, y3, y4], _ => exact ⟨y0, y1, y2, y3, y4, n, by simp, by simpa using hf 0 f0 rfl, by simpa using hf 1 f1 rfl, by simpa using hf 2 f2 rfl, by simpa using hf 3 f3 rfl, by simpa using hf 4 f4 rfl⟩
def shName : String := (laidL.getD 6 ("", .nil)).1
theorem gSh : Tryz.prog.globalNamed shName = some 0 := by kernel_rfl
theorem gShType : (Tryz.prog.globals[0]?).map (·.type) = some 157 := by kernel_rfl
theorem cellsSh : Tryz.prog.cellsOf 156 = 5 := by kernel_rfl
theorem cellsShs : Tryz.prog.cellsOf 157 = 110 := by kernel_rfl
theorem cells64' : Tryz.prog.cellsOf 2 = 1 := by kernel_rfl
theorem one_at {l : List Value} {i j : Nat} {a : Value} (h : List.take 1 (List.drop j (List.take 5 (List.drop (i * 5) l))) = [a]) (hj : j < 5) : l[i * 5 + j]? = some a := by
  have h0 : (List.take 1 (List.drop j (List.take 5 (List.drop (i * 5) l))))[0]? = some a := by rw [h]; rfl
  rw [List.getElem?_take_of_lt (by omega), List.getElem?_drop, List.getElem?_take_of_lt (by omega), List.getElem?_drop, Nat.add_zero] at h0
  exact h0
theorem one_cases {k : Nat} (h1 : 1 ≤ k) (h2 : k ≤ 21) : k = 1 ∨ k = 2 ∨ k = 3 ∨ k = 4 ∨ k = 5 ∨ k = 6 ∨ k = 7 ∨ k = 8 ∨ k = 9 ∨ k = 10 ∨ k = 11 ∨ k = 12 ∨ k = 13 ∨ k = 14 ∨ k = 15 ∨ k = 16 ∨ k = 17 ∨ k = 18 ∨ k = 19 ∨ k = 20 ∨ k = 21 := by omega
set_option maxHeartbeats 2000000 in
theorem hasShapes_of_laid {W : World} (h0 : laidMet Tryz.prog laidL W) : HasShapes W := by
  obtain ⟨ps, ⟨g, t, cs, fuel, p, q, hg, ht, hvar, hd, _, _⟩, _⟩ := h0.tail.tail.tail.tail.tail.tail
  obtain rfl := Option.some.inj (gSh.symm.trans hg)
  obtain rfl := Option.some.inj (gShType.symm.trans ht)
  obtain ⟨l⟩ := cs
  replace hvar : W.var? Tryz.prog shName = some ⟨l⟩ := hvar
  have hcell : ∀ i u, l[i]? = some u → W.cell? ⟨0, i, none⟩ = some u := fun i u hu => by
    have := World.var?_cell gSh hvar i
    rw [this]
    simpa using hu
  cases fuel with
  | zero => simp [DataW.trod] at hd
  | succ fuel =>
    simp only [DataW.trod, Tryz.underlying157, cellsShs, cellsSh] at hd
    split at hd
    · rename_i hl
      obtain ⟨xs, hm, hx⟩ := Option.map_eq_some_iff.1 hd
      have hxs := congrArg Prod.fst hx
      simp only [Rows.laid_dryshod_syntax_shapes] at hxs
      injection hxs with hxs
      intro k hk1 hk2
      obtain ⟨b, hb, hf⟩ := Lib.mapM_at hm k k (List.getElem?_range (by omega))
      have hbk : (xs.map (·.1))[k]? = some b.1 := by simp [hb]
      rw [hxs] at hbk
      obtain ⟨y0, y1, y2, y3, y4, n, e, t0, t1, t2, t3, t4⟩ := trod_struct5 Tryz.underlying156 hf
      simp only [cellsInt, cells64'] at t0 t1 t2 t3 t4
      obtain ⟨j0, e0, rfl, _⟩ := DataW.trod_int Tryz.underlying3 t0
      obtain ⟨j1, e1, rfl, _⟩ := DataW.trod_int Tryz.underlying2 t1
      obtain ⟨j2, e2, rfl, _⟩ := DataW.trod_int Tryz.underlying2 t2
      obtain ⟨j3, e3, rfl, _⟩ := DataW.trod_int Tryz.underlying3 t3
      obtain ⟨j4, e4, rfl, _⟩ := DataW.trod_int Tryz.underlying3 t4
      rw [e] at hbk
      have z0 := hcell _ _ (one_at e0 (by omega))
      have z1 := hcell _ _ (one_at e1 (by omega))
      have z2 := hcell _ _ (one_at e2 (by omega))
      have z3 := hcell _ _ (one_at e3 (by omega))
      have z4 := hcell _ _ (one_at e4 (by omega))
      clear e0 e1 e2 e3 e4 hm hxs hx hd hcell hf hb t0 t1 t2 t3 t4
      have key : j0 = (shapeF k).1 ∧ j1 = (shapeF k).2.1 ∧ j2 = (shapeF k).2.2.1 ∧ j3 = (shapeF k).2.2.2.1 ∧ j4 = (shapeF k).2.2.2.2 := by
        rcases one_cases hk1 hk2 with rfl | rfl | rfl | rfl | rfl | rfl | rfl | rfl | rfl | rfl | rfl | rfl | rfl | rfl | rfl | rfl | rfl | rfl | rfl | rfl | rfl <;>
        · simp at hbk
          obtain ⟨rfl, rfl, rfl, rfl, rfl⟩ := hbk
          decide
      obtain ⟨rfl, rfl, rfl, rfl, rfl⟩ := key
      exact ⟨z0, z1, z2, z3, z4⟩
    · cases hd
theorem gPowType : (Tryz.prog.globals[2]?).map (·.type) = some 229 := by kernel_rfl
theorem hasPow_of_laid {W : World} (h0 : laidMet Tryz.prog laidL W) : Lib.TabIs Tryz.prog W "internal/strconv.uint64pow10" .u64 Lib.pow10Tab :=
  Lib.tabIs_of_head powG gPowType Tryz.underlying229 Tryz.underlying208 (by kernel_rfl) (by kernel_rfl) h0.tail.tail
theorem ph_of_laid {W : World} (h : laidMetH Tryz.prog laidL W) (hS : W.ShapedOpen Tryz.prog) : PH W := by
  have h0 : laidMet Tryz.prog laidL W := by rw [← MakeChecks.laidMetH_plain _ _ _ (by kernel_rfl)]; exact h
  exact ⟨hasShapes_of_laid h0, hasOps_of_laid h0, hasErr_of_laid h0, chk.hasMax_of_shaped hS, hasPow_of_laid h0⟩
end pr
namespace syntaxPrints
open Go.ChangeShapes Go.WideShapes Go.ChangeAt Go.RowKit

theorem own : ownKnob Tryz.prog.godebug = none := by kernel_rfl
theorem laidOut : laidOutB Tryz.prog = true := by kernel_rfl
theorem recN : Tryz.prog.readableRec 24 = true := by kernel_rfl
theorem rowN : 24 < Tryz.prog.types.size := of_decide_eq_true (by kernel_rfl)
/-- what is read of a node stays where nothing that was there has turned -/
theorem stays {H : Type} {enc : TypeId × Value → H} {W W' : World} {v : Value} {d : DataW H} {p : List MemPlace} (hb : Below W.heap.size W W') (h : DataW.Trod enc Tryz.prog W 0 (fun _ => true) true 24 v d p) (hlt : ∀ q ∈ p, q.block < W.heap.size) :
    DataW.Trod enc Tryz.prog W' 0 (fun b => decide (b < W.heap.size)) true 24 v d p := by
  obtain ⟨n, h⟩ := h
  have hk : W.keptBut W' (fun _ => False) := hb.frame _
  exact ⟨n, DataW.trod_stays (kids_book laidOut recN) (book_sized recN) (fun h => by cases h) ⟨rowN, book_self _⟩ h
    (fun p hp => hk.sameAt (hlt p hp) (fun h => h) (fun b e => by
      have := DataW.trod_good (kids_book laidOut recN) (fun h => by cases h) n _ _ _ ⟨rowN, book_self _⟩ h p hp
      subst e
      exact this))
    (fun p hp => by simpa using hlt p hp)⟩
def zeroN : Value := .agg #[.int .i64 0, .string ByteArray.empty, .int .i64 0, .slice none 0 0]
/-- what the walk gives, for every argument and every world that holds the listed variables -/
theorem contract (H : Type) (enc : TypeId × Value → H) (W : World) (base : Nat) (args : Array Value) (ds gs : List (DataW H)) (before : List MemPlace)
    (hval : ∀ (j : Nat) t v, Tryz.f3.params[j]? = some t → args[j]? = some v → Value.okWide Tryz.prog W .any base t v)
    (hW : DataW.Whole enc Tryz.prog Tryz.f3.params.toList Rows.syntaxPrintsSpec.vars false W args.toList ds gs before)
    (hwt : (DataW.weightsEach Tryz.prog (Tryz.f3.params.toList ++ (OpenSpec.ofChange Rows.syntaxPrintsSpec).bare.plain.varTypes Tryz.prog) (ds ++ gs)).all (· ≤ reachBytes) = true) (hL : laidMetH Tryz.prog Rows.syntaxPrintsRow.laid W) (hSh : W.ShapedOpen Tryz.prog) :
    Calls Tryz.prog 3 args W fun e W' => ∃ v, e = .returned v ∧ Rows.syntaxPrintsSpec.post enc Tryz.prog Tryz.f3 false true false false W args v W' := by
  have hW' := hW
  have hbl := hW.lt
  obtain ⟨p, q, hA0, hV, rfl, hfz, hnd⟩ := hW
  have hA : DataW.TrodAll enc Tryz.prog W 0 (fun _ => true) true Tryz.f3.params.toList args.toList ds p := hA0
  rw [Tryz.params3] at hA hval hwt
  obtain ⟨v0, vs0, d0, ds0, p0, q0, hargs, rfl, rfl, h0, r0⟩ := trodAll_cons hA
  obtain ⟨rfl, rfl, rfl⟩ := trodAll_nil r0
  obtain rfl : args = #[v0] := by cases args; simp_all
  obtain ⟨rfl, rfl⟩ := trodVars_none hV
  have w0 : ∀ k ∈ d0.weights Tryz.prog 24, k ≤ reachBytes := fun k hk => by
    have := List.all_eq_true.1 hwt k (DataW.weights_mem_each (j := 0) (t := 24) (d := d0) rfl rfl k hk)
    simpa using this
  obtain ⟨t, ht, hts⟩ := pr.open_node (hval 0 24 v0 rfl rfl) h0 w0
  clear hA0
  refine (pr.prints_walk t v0 W (pr.ph_of_laid hL hSh) ht hts).mono fun e W' ⟨he, hB⟩ => ?_
  subst he
  have s0 := stays hB h0 (fun q hq => hbl q (by simp [hq]))
  exact ⟨_, rfl, _, _, _, [], _, [], hW', trodAll_mk1 (shut_bool Tryz.underlying4 _), (trodAll_cons_mk s0 trodAll_mk0), rfl, hB.frame _, fun h => by cases h⟩
theorem laid_met (os : Os) : laidMetH Tryz.prog syn.laidL ((World.laidAll Tryz.prog os syn.laidL).forCall (fun _ _ => 0) ⟨#[], #[zeroN], []⟩).memory := by
  rw [MakeChecks.laidMetH_plain _ _ _ (by kernel_rfl)]
  exact laidMet_laidAll _ (by kernel_rfl) (by kernel_rfl)
theorem reads (os : Os) {H : Type} (enc : TypeId × Value → H) : ∃ places, DataW.whole enc Tryz.prog ((World.laidAll Tryz.prog os syn.laidL).forCall (fun _ _ => 0) ⟨#[], #[zeroN], []⟩).memory Tryz.f3.params.toList Rows.syntaxPrintsSpec.vars false #[zeroN].toList 8 = some ([.agg [.lit (.int .i64 0), .lit (.string []), .lit (.int .i64 0), .nil]], [], places) :=
  ⟨[], by kernel_rfl⟩
theorem lifted (os : Os) (started : os.Started) (H : Type) (enc : TypeId × Value → H) (F : Stop.Interp) :
    ReturnsInHanded {} Tryz.checked os 3 .any ((OpenSpec.ofChange Rows.syntaxPrintsSpec).preRow enc Tryz.prog Tryz.f3 Rows.syntaxPrintsRow.domain false Rows.syntaxPrintsRow.laid) (((OpenSpec.ofChange Rows.syntaxPrintsSpec).at F).post enc Tryz.prog Tryz.f3 false true false false) := by
  obtain ⟨places, hx⟩ := reads os enc
  refine returnsInHanded_of_row (C := Tryz.checked) (s := OpenSpec.ofChange Rows.syntaxPrintsSpec) own started (by kernel_rfl) Tryz.func3
    (witness_row_at (enc := enc) (C := Tryz.checked) false (World.laidAll Tryz.prog os syn.laidL) #[zeroN] (World.laidAll_os _ _ _) (by kernel_rfl) (by kernel_rfl) (by kernel_rfl)
      (OpenSpec.preRow_of_cond 8 hx (by kernel_rfl) (fun k hk => by cases hk) (by kernel_rfl) (laid_met os))) ?_
  intro W base args ds gs before hval hW _ _ hwt hL hSh _
  exact contract H enc W base args ds gs before hval hW hwt hL hSh
theorem said : Rows.SyntaxPrintsSaid :=
  OpenClaim.holds_of_cond 3 Tryz.f3 rfl rfl rfl rfl rfl rfl rfl ⟨rfl, rfl, rfl, rfl, rfl⟩ rfl rfl rfl rfl rfl (by kernel_rfl) Tryz.func3 (by kernel_rfl)
    (of_decide_eq_true (by kernel_rfl)) (by unfold Func.isWrapper; first | (rw [if_pos (by decide +kernel)]; kernel_rfl) | (rw [if_neg (by decide +kernel)]; exact ⟨rfl, rfl⟩))
    (fun os started H enc _ F => by rw [OpenClaim.pre_eq_preRow]; exact lifted os started H enc F)
/-- no parameter wants a stand-in; the program's own looks are off: what the card asks -/
theorem plain (f : FuncId) (fn : Func) (hf : Tryz.pinned.checked.prog.funcNamed Rows.syntaxPrintsRow.func = some f) (hfn : Tryz.pinned.checked.prog.funcs[f]? = some fn) :
    true = Tryz.pinned.checked.prog.looks [] ∧ ∀ (j : Nat) t, fn.params[j]? = some t → Tryz.pinned.checked.prog.wantsStandIn t = false := by
  obtain rfl : f = 3 := Option.some.inj ((show Tryz.prog.funcNamed Rows.syntaxPrintsRow.func = some 3 by kernel_rfl).symm.trans hf) |>.symm
  obtain rfl : fn = Tryz.f3 := (Option.some.inj (Tryz.func3.symm.trans hfn)).symm
  refine ⟨by kernel_rfl, fun j t ht => ?_⟩
  rw [Tryz.params3] at ht
  obtain rfl : t = 24 := by simpa using Array.mem_of_getElem? ht
  exact (show Tryz.prog.wantsStandIn 24 = false by kernel_rfl)
/-- THE CARD -/
theorem card : Rows.SyntaxPrintsCardSaid :=
  Claim7.holds_tied_plain_at .later [] _ _ _ _ said (fun _ h => by cases h) (by kernel_rfl) (fun _ h => by cases h) syntaxPrints_row_tie rfl ⟨rfl, rfl⟩ (by kernel_rfl) rfl plain (by kernel_rfl)
end syntaxPrints
end Go.Proofs.YtkoomoemkffjkaaGreatDoor
