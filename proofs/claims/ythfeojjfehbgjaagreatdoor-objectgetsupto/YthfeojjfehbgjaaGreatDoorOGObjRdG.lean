/- Where the reference's Get stands: what was read up to now, as an object; its rows lie in a window. What is read of few bytes is small. No Go in sight but the reader's names. -/
import Derived.Test.YthfeojjfehbgjaaGreatDoorOGObjRdF
import Derived.Test.YthfeojjfehbgjaaGreatDoorOGObjGetW
import Derived.Test.YthfeojjfehbgjaaGreatDoorOGObjRefM
namespace Go.Proofs.YthfeojjfehbgjaaGreatDoor.obj
open Go.RowKit
open Go.Proofs.YthfeojjfehbgjaaGreatDoor.mac (BoxC grown_of_below Ins)
open Go.Proofs.YthfeojjfehbgjaaGreatDoor.face (VarD ProcD FaceD IntsIn VarsIn ProcsIn)
set_option linter.unusedVariables false
set_option linter.unusedSimpArgs false
set_option maxRecDepth 100000
/-- the object read so far (o, its rows x, in blocks from N on and below M), its box (where one row may be growing: x'), the reader; all that was there stays -/
structure GS (w wr : World) (a : Option Addr) (c : Nat) (L : By) (M : Nat) (o : ObjD) (x x' : Vals) (pj : Nat) (bj : Bool) : Prop where
  bR : BoxC wr w.heap.size (objC zeroO zeroX) 31
  bO : BoxC wr (w.heap.size + 2) (objC o x') 31
  at' : ObjAt (win wr (w.heap.size + 3) M) x o
  m1 : w.heap.size + 3 ≤ M
  m2 : M ≤ wr.heap.size
  rb : RB wr (w.heap.size + 1) a c L pj bj
  fr : Below w.heap.size w wr
section
variable {w wr w2 : World} {a : Option Addr} {c M : Nat} {L : By} {o : ObjD} {x x' : Vals} {pj p2 : Nat} {bj b2 : Bool}
theorem frr_below {r N : Nat} {w w2 : World} (h : FrR r w w2) (hN : N ≤ r) (hs : N ≤ w.heap.size) : Below N w w2 := ⟨h.os, h.tape, h.output, h.size, fun b hb => h.block b (by omega) (by omega) (by simp [nilV, Value.ownBlock])⟩
theorem GS.sub (h : GS w wr a c L M o x x' pj bj) (hb : ∀ k, w.heap.size + 3 ≤ k → k < M → w2.heap[k]? = wr.heap[k]?) {M2 : Nat} (hM : M ≤ M2) : ObjAt (win w2 (w.heap.size + 3) M2) x o := h.at'.sub (win_to hb (Nat.le_refl _) hM)
/-- a call of the reader's was done -/
theorem GS.call (h : GS w wr a c L M o x x' pj bj) (hF : FrR (w.heap.size + 1) wr w2) (hB : RB w2 (w.heap.size + 1) a c L p2 b2) : GS w w2 a c L M o x x' p2 b2 := by
  have h1 := h.m1
  have h2 := h.m2
  have h3 := h.bO.lt
  exact ⟨box_fr h.bR hF (by omega), box_fr h.bO hF (by omega), h.sub (fun k k1 k2 => hF.block k (by omega) (by omega) (by simp [nilV, Value.ownBlock])) (Nat.le_refl _), h1, Nat.le_trans h2 hF.size, hB, h.fr.trans ((frr_below hF (Nat.le_succ _) (by omega)).mono (Nat.le_refl _))⟩
/-- nothing below M has turned -/
theorem GS.low (h : GS w wr a c L M o x x' pj bj) (hb : Below M wr w2) : GS w w2 a c L M o x x' pj bj := by
  have h1 := h.m1
  exact ⟨box_low h.bR hb (by omega), box_low h.bO hb (by omega), h.sub (fun k k1 k2 => hb.block k k2) (Nat.le_refl _), h1, Nat.le_trans h.m2 hb.size, h.rb.low hb (by omega), h.fr.trans (hb.mono (by omega))⟩
/-- a cell of the object's box is written -/
theorem GS.store (h : GS w wr a c L M o x x' pj bj) (k : Nat) (v : Value) {M2 : Nat} {o2 : ObjD} {x2 x2' : Vals} (hC : (objC o x').setIfInBounds k v = objC o2 x2') (hat : ObjAt (win wr (w.heap.size + 3) M2) x2 o2) (hM1 : M ≤ M2) (hM2 : M2 ≤ wr.heap.size) :
    GS w (wr.setCell ⟨w.heap.size + 2, k, none⟩ v) a c L M2 o2 x2 x2' pj bj := by
  have h1 := h.m1
  refine ⟨h.bR.other (by omega) _, by rw [← hC]; exact h.bO.set k v, hat.sub (win_to (fun b b1 b2 => Below.heap_setCell wr ⟨w.heap.size + 2, k, none⟩ v b (by show b ≠ w.heap.size + 2; omega)) (Nat.le_refl _) (Nat.le_refl _)), by omega, by simpa using hM2, h.rb.fr ((Fr.refl (w.heap.size + 2) nilV wr).set k v) (by omega), ?_⟩
  exact h.fr.trans ⟨rfl, rfl, rfl, by simp, fun b hb => Below.heap_setCell wr ⟨w.heap.size + 2, k, none⟩ v b (by show b ≠ w.heap.size + 2; omega)⟩
theorem GS.all (h : GS w wr a c L M o x x' pj bj) {M2 : Nat} (hM : M ≤ M2) : ObjAt (win wr (w.heap.size + 3) M2) x o := h.sub (fun _ _ _ => rfl) hM
/-- a list of places was read -/
theorem GS.plcs {N : Nat} {l : List PlcD} {v : Value} (hN : w.heap.size + 3 ≤ N) (h : LV itPlc 85 2 N l v wr) (hl : l.length ≤ 1048576) : PlcsIn (win wr (w.heap.size + 3) wr.heap.size) v l := plcsSub (win_to (fun _ _ _ => rfl) hN (Nat.le_refl _)) (LV.plcs h hl)
theorem GS.faces {N : Nat} {l : List FaceD} {v : Value} (hN : w.heap.size + 3 ≤ N) (h : LV itFace 25 3 N l v wr) (hl : l.length ≤ 1048576) : FacesIn (win wr (w.heap.size + 3) wr.heap.size) v l := facesSub (win_to (fun _ _ _ => rfl) hN (Nat.le_refl _)) (LV.faces h hl)
theorem GS.code {N : Nat} {l : List Ins} {v : Value} (hN : w.heap.size + 3 ≤ N) (h : LV itIns 55 5 N l v wr) (hl : l.length ≤ 1048576) : CodeIn (win wr (w.heap.size + 3) wr.heap.size) v l := codeSub (win_to (fun _ _ _ => rfl) hN (Nat.le_refl _)) (LV.code h hl)
theorem GS.rels {N : Nat} {l : List RelD} {v : Value} (hN : w.heap.size + 3 ≤ N) (h : LV itRel 57 4 N l v wr) (hl : l.length ≤ 1048576) : RelsIn (win wr (w.heap.size + 3) wr.heap.size) v l := relsSub (win_to (fun _ _ _ => rfl) hN (Nat.le_refl _)) (LV.rels h hl)
end
end Go.Proofs.YthfeojjfehbgjaaGreatDoor.obj
namespace Go.Proofs.YthfeojjfehbgjaaGreatDoor.obj
set_option linter.unusedVariables false
theorem small_len {l : By} (hl : l.length ≤ 1048576) : ∀ p l2, getO l = some (p, l2) → Small p := fun p l2 h => by
  unfold getO at h
  simp only [Option.bind_eq_some_iff] at h
  obtain ⟨⟨x1, r1⟩, h1, ⟨x2, r2⟩, h2, ⟨x3, r3⟩, h3, ⟨x4, r4⟩, h4, ⟨x5, r5⟩, h5, ⟨x6, r6⟩, h6, ⟨x7, r7⟩, h7, ⟨x8, r8⟩, h8, ⟨x9, r9⟩, h9, ⟨x10, r10⟩, h10, ⟨x11, r11⟩, h11, e⟩ := h
  cases e
  have k1 := eatsFace _ _ _ h1
  have k2 := getL_len eatsFace h2
  have k3 := getL_len eatsIns h3
  have k4 := getL_len eatsRel h4
  have k5 := getL_len eatsPlc h5
  have k6 := getL_len eatsPlc h6
  have k7 := getL_len eatsPlc h7
  dsimp only at *
  refine ⟨?_, ?_, ?_, ?_, ?_, ?_⟩ <;> (dsimp only; omega)
end Go.Proofs.YthfeojjfehbgjaaGreatDoor.obj
