/- Proved: of every bytes whose reading holds at most 1048576 values: the program tells the object that they are, or that they are none, as the document's answer does (law ObjectGets, its second form), and they read afterwards as they did. Asked besides is what the card says: that the listed variables hold what the program's own text lays there. -/
import Derived.Test.YthfeojjfehbgjaaGreatDoorOGLexLaid
import Derived.WalkKit
import Derived.ProofKit
import Derived.OpenShut
import Derived.Below
import Derived.ChangeOld
import Derived.ChangeBook
import Derived.ChangeBears
import Derived.ChangeStays
import Derived.SizedLaws
import Derived.Deep.Frames
import Derived.Deep.DeepHandedRow
import Derived.Test.YthfeojjfehbgjaaGreatDoorOGObjectGets
import Derived.Test.YthfeojjfehbgjaaGreatDoorOGObjArg
namespace Go.Proofs.YthfeojjfehbgjaaGreatDoor.objectGets
open Go.ChangeShapes Go.WideShapes Go.ChangeAt Go.RowKit
set_option linter.unusedVariables false
set_option maxRecDepth 100000

theorem own : ownKnob Tryz.prog.godebug = none := by kernel_rfl
theorem laidOut : laidOutB Tryz.prog = true := by kernel_rfl
theorem recF : Tryz.prog.readableRec 33 = true := by kernel_rfl
theorem rowF : 33 < Tryz.prog.types.size := of_decide_eq_true (by kernel_rfl)
/-- what is read of bytes stays where nothing that was there has turned -/
theorem stays {H : Type} {enc : TypeId × Value → H} {W W' : World} {v : Value} {d : DataW H} {p : List MemPlace} (hb : Below W.heap.size W W') (h : DataW.Trod enc Tryz.prog W 0 (fun _ => true) true 33 v d p) (hlt : ∀ q ∈ p, q.block < W.heap.size) :
    DataW.Trod enc Tryz.prog W' 0 (fun b => decide (b < W.heap.size)) true 33 v d p := by
  obtain ⟨n, h⟩ := h
  have hk : W.keptBut W' (fun _ => False) := hb.frame _
  exact ⟨n, DataW.trod_stays (kids_book laidOut recF) (book_sized recF) (fun h => by cases h) ⟨rowF, book_self _⟩ h
    (fun p hp => hk.sameAt (hlt p hp) (fun h => h) (fun b e => by
      have := DataW.trod_good (kids_book laidOut recF) (fun h => by cases h) n _ _ _ ⟨rowF, book_self _⟩ h p hp
      subst e
      exact this))
    (fun p hp => by simpa using hlt p hp)⟩
def zeroF : Value := .slice none 0 0
/-- what the walk gives, for every argument and every world that holds the listed variables -/
theorem contract (H : Type) (enc : TypeId × Value → H) (W : World) (base : Nat) (args : Array Value) (ds gs : List (DataW H)) (before : List MemPlace)
    (hval : ∀ (j : Nat) t v, Tryz.f4.params[j]? = some t → args[j]? = some v → Value.okWide Tryz.prog W .any base t v)
    (hW : DataW.Whole enc Tryz.prog Tryz.f4.params.toList Rows.objectGetsSpec.vars false W args.toList ds gs before)
    (hk : Rows.uptoSmall H (ds ++ gs) = true) (hL : laidMetH Tryz.prog Rows.objectGetsUptoRow.laid W) :
    Calls Tryz.prog 4 args W fun e W' => ∃ v, e = .returned v ∧ Rows.objectGetsSpec.post enc Tryz.prog Tryz.f4 false true false false W args v W' := by
  have hW' := hW
  have hbl := hW.lt
  obtain ⟨p, q, hA0, hV, rfl, hfz, hnd⟩ := hW
  have hA : DataW.TrodAll enc Tryz.prog W 0 (fun _ => true) true Tryz.f4.params.toList args.toList ds p := hA0
  rw [Tryz.params4] at hA hval
  obtain ⟨v0, vs0, d0, ds0, p0, q0, hargs, rfl, rfl, h0, r0⟩ := trodAll_cons hA
  obtain ⟨rfl, rfl, rfl⟩ := trodAll_nil r0
  obtain rfl : args = #[v0] := by cases args; simp_all
  obtain ⟨rfl, rfl⟩ := trodVars_none hV
  have hk2 : Rows.uptoBulkAll ([d0] ++ ([] : List (DataW H))) ≤ 1048576 := of_decide_eq_true hk
  simp only [List.append_nil, Rows.uptoBulkAll] at hk2
  obtain ⟨a, c, l, rfl, hf, ff⟩ := obj.open_bytes (hval 0 33 v0 rfl rfl) h0 (by omega)
  clear hA0
  refine (obj.gets_walk hf (lexs.hasErr_of_laid hL) ff).mono fun e W' ⟨he, hB⟩ => ?_
  subst he
  have s0 := stays hB h0 (fun q hq => hbl q (by simp [hq]))
  exact ⟨_, rfl, _, _, _, [], _, [], hW', trodAll_mk1 (shut_bool Tryz.underlying4 _), (trodAll_cons_mk s0 trodAll_mk0), rfl, hB.frame _, fun h => by cases h⟩
def zeroD {H : Type} : DataW H := .nil
theorem laid_met (os : Os) : laidMetH Tryz.prog lexs.laidL ((World.laidAll Tryz.prog os lexs.laidL).forCall (fun _ _ => 0) ⟨#[], #[zeroF], []⟩).memory := by
  rw [MakeChecks.laidMetH_plain _ _ _ (by kernel_rfl)]
  exact laidMet_laidAll _ (by kernel_rfl) (by kernel_rfl)
theorem reads (os : Os) {H : Type} (enc : TypeId × Value → H) : ∃ places, DataW.whole enc Tryz.prog ((World.laidAll Tryz.prog os lexs.laidL).forCall (fun _ _ => 0) ⟨#[], #[zeroF], []⟩).memory Tryz.f4.params.toList Rows.objectGetsSpec.vars false #[zeroF].toList 8 = some ([zeroD], [], places) :=
  ⟨[], by kernel_rfl⟩
theorem lifted (os : Os) (started : os.Started) (H : Type) (enc : TypeId × Value → H) (F : Stop.Interp) :
    ReturnsInHanded {} Tryz.checked os 4 .any ((Rows.OpenSpec.upto Rows.objectGetsSpec).preRow enc Tryz.prog Tryz.f4 Rows.objectGetsUptoRow.domain false Rows.objectGetsUptoRow.laid) (((Rows.OpenSpec.upto Rows.objectGetsSpec).at F).post enc Tryz.prog Tryz.f4 false true false false) := by
  obtain ⟨places, hx⟩ := reads os enc
  refine returnsInHanded_of_row (C := Tryz.checked) (s := Rows.OpenSpec.upto Rows.objectGetsSpec) own started (by kernel_rfl) Tryz.func4
    (witness_row_at (enc := enc) (C := Tryz.checked) false (World.laidAll Tryz.prog os lexs.laidL) #[zeroF] (World.laidAll_os _ _ _) (by kernel_rfl) (by kernel_rfl) (by kernel_rfl)
      (OpenSpec.preRow_of_cond 8 hx (by kernel_rfl) (fun k hk => by cases hk; kernel_rfl) (by kernel_rfl) (laid_met os))) ?_
  intro W base args ds gs before hval hW _ hcond _ hL _ _
  exact contract H enc W base args ds gs before hval hW (hcond _ rfl) hL
theorem said : Rows.ObjectGetsUptoSaid :=
  OpenClaim.holds_of_cond 4 Tryz.f4 rfl rfl rfl rfl rfl rfl rfl ⟨rfl, rfl, rfl, rfl, rfl⟩ rfl rfl rfl rfl rfl (by kernel_rfl) Tryz.func4 (by kernel_rfl)
    (of_decide_eq_true (by kernel_rfl)) (by unfold Func.isWrapper; first | (rw [if_pos (by decide +kernel)]; kernel_rfl) | (rw [if_neg (by decide +kernel)]; exact ⟨rfl, rfl⟩))
    (fun os started H enc _ F => by rw [OpenClaim.pre_eq_preRow]; exact lifted os started H enc F)
/-- no parameter wants a stand-in; the program's own looks are off: what the card asks -/
theorem plain (f : FuncId) (fn : Func) (hf : Tryz.pinned.checked.prog.funcNamed Rows.objectGetsUptoRow.func = some f) (hfn : Tryz.pinned.checked.prog.funcs[f]? = some fn) :
    true = Tryz.pinned.checked.prog.looks [] ∧ ∀ (j : Nat) t, fn.params[j]? = some t → Tryz.pinned.checked.prog.wantsStandIn t = false := by
  obtain rfl : f = 4 := Option.some.inj ((show Tryz.prog.funcNamed Rows.objectGetsUptoRow.func = some 4 by kernel_rfl).symm.trans hf) |>.symm
  obtain rfl : fn = Tryz.f4 := (Option.some.inj (Tryz.func4.symm.trans hfn)).symm
  refine ⟨by kernel_rfl, fun j t ht => ?_⟩
  rw [Tryz.params4] at ht
  obtain rfl : t = 33 := by simpa using Array.mem_of_getElem? ht
  exact (show Tryz.prog.wantsStandIn 33 = false by kernel_rfl)
/-- THE CARD -/
theorem card : Rows.ObjectGetsUptoCardSaid :=
  Claim7.holds_tied_plain_at .later [] _ _ _ _ said (fun _ h => by cases h) (by kernel_rfl) (fun _ h => by cases h) objectGetsUpto_row_tie rfl ⟨rfl, rfl⟩ (by kernel_rfl) rfl plain (by kernel_rfl)
end Go.Proofs.YthfeojjfehbgjaaGreatDoor.objectGets
