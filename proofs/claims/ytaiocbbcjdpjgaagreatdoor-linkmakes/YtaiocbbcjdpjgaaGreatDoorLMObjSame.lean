/- What the reference's Same answers of two objects that are alike: a contract. -/
import Derived.Test.YtaiocbbcjdpjgaaGreatDoorProg
import Derived.WalkKit
import Derived.WalkLawsBesides
import Derived.Outline
import Derived.WalkSmall
import Derived.Laws.StructEq
import Derived.Test.YtaiocbbcjdpjgaaGreatDoorLMLnkMapN
import Derived.Test.YtaiocbbcjdpjgaaGreatDoorLMMacBox
import Derived.Test.YtaiocbbcjdpjgaaGreatDoorLMObjSpec
import Derived.Test.YtaiocbbcjdpjgaaGreatDoorLMFaceRefA
namespace Go.Proofs.YtaiocbbcjdpjgaaGreatDoor.obj
open Go.RowKit
open Go.Proofs.YtaiocbbcjdpjgaaGreatDoor.mac (Ins BoxC)
open Go.Proofs.YtaiocbbcjdpjgaaGreatDoor.ord (tkd putd)
open Go.Proofs.YtaiocbbcjdpjgaaGreatDoor.face (VarD ProcD FaceD VarsIn ProcsIn FaceIn keep)
set_option linter.unusedVariables false
set_option linter.unusedSimpArgs false
set_option maxRecDepth 100000
theorem eqP (a : ByteArray) (b : Int) (w : World) : (Op.equalIn 10000 103 (.agg #[.string a, .int .i64 b]) (.agg #[.string a, .int .i64 b])).run Tryz.prog w = .ok true w := by
  have hS : Tryz.prog.underlying 103 = some (.struct (Tryz.prog.fieldsOf 103)) := by kernel_rfl
  have hp : Tryz.prog.stoodInHeld 103 = false := by kernel_rfl
  have u1 := Tryz.underlying9
  have u2 := Tryz.isAgg9
  have u3 := Tryz.sizeOf9
  have u4 := Tryz.underlying3
  have u5 := Tryz.isAgg3
  have u6 := Tryz.sizeOf3
  have u7 := Tryz.underlying2
  have u8 := Tryz.isAgg2
  have u9 := Tryz.sizeOf2
  rw [show (10000 : Nat) = 9999 + 1 from rfl, run_equalIn_agg w 9999 103 _ _ hS hp]
  simp only [Program.fieldsOf, Tryz.underlying103]
  go_simp
theorem eqI (a b c d e : Int) (w : World) : (Op.equalIn 10000 64 (.agg #[.int .i64 a, .int .i64 b, .int .i64 c, .int .i64 d, .int .i64 e]) (.agg #[.int .i64 a, .int .i64 b, .int .i64 c, .int .i64 d, .int .i64 e])).run Tryz.prog w = .ok true w := by
  have hS : Tryz.prog.underlying 64 = some (.struct (Tryz.prog.fieldsOf 64)) := by kernel_rfl
  have hp : Tryz.prog.stoodInHeld 64 = false := by kernel_rfl
  have u1 := Tryz.underlying9
  have u2 := Tryz.isAgg9
  have u3 := Tryz.sizeOf9
  have u4 := Tryz.underlying3
  have u5 := Tryz.isAgg3
  have u6 := Tryz.sizeOf3
  have u7 := Tryz.underlying2
  have u8 := Tryz.isAgg2
  have u9 := Tryz.sizeOf2
  rw [show (10000 : Nat) = 9999 + 1 from rfl, run_equalIn_agg w 9999 64 _ _ hS hp]
  simp only [Program.fieldsOf, Tryz.underlying64]
  go_simp
theorem eqR (a b : Int) (c d : ByteArray) (w : World) : (Op.equalIn 10000 66 (.agg #[.int .i64 a, .int .i64 b, .string c, .string d]) (.agg #[.int .i64 a, .int .i64 b, .string c, .string d])).run Tryz.prog w = .ok true w := by
  have hS : Tryz.prog.underlying 66 = some (.struct (Tryz.prog.fieldsOf 66)) := by kernel_rfl
  have hp : Tryz.prog.stoodInHeld 66 = false := by kernel_rfl
  have u1 := Tryz.underlying9
  have u2 := Tryz.isAgg9
  have u3 := Tryz.sizeOf9
  have u4 := Tryz.underlying3
  have u5 := Tryz.isAgg3
  have u6 := Tryz.sizeOf3
  have u7 := Tryz.underlying2
  have u8 := Tryz.isAgg2
  have u9 := Tryz.sizeOf2
  rw [show (10000 : Nat) = 9999 + 1 from rfl, run_equalIn_agg w 9999 66 _ _ hS hp]
  simp only [Program.fieldsOf, Tryz.underlying66]
  go_simp
theorem eqS_refl (x : ByteArray) : syn.eqS x x = true := by unfold syn.eqS; simp
theorem all2_refl {α : Type} {p : α → α → Bool} (h : ∀ x, p x x = true) : ∀ l : List α, face.all2 p l l = true
  | [] => rfl
  | x :: r => by show (p x x && face.all2 p r r) = true; rw [h, all2_refl h r]; rfl
theorem same_refl (f : FaceD) : face.sameB f f = true := by
  unfold face.sameB
  rw [eqS_refl, all2_refl (fun x => by unfold face.sameVarB; simp [eqS_refl]), all2_refl (fun x => by unfold face.sameProcB; simp [eqS_refl])]
  rfl
set_option maxHeartbeats 1000000 in
theorem rList (l : List PlcD) (u v : Value) (w : World) (hu : PlcsIn w u l) (hv : PlcsIn w v l) :
    Calls Tryz.prog 40 #[u, v] w fun e w' => e = .returned (.bool true) ∧ Below w.heap.size w w' := by
  have c2 : Tryz.prog.cellsOf 103 = 2 := by kernel_rfl
  obtain ⟨a, c, rfl, hl, hc⟩ := hu
  obtain ⟨b, d, rfl, _, hd⟩ := hv
  go_enter Tryz.func40, Tryz.ntmps40
  go_wp2
  go_loopw [5] (fun t wr => ∃ j : Nat, j ≤ l.length ∧ t = .int .i64 j ∧ Below w.heap.size w wr) (fun t _ => l.length - (intOf t).toNat)
  case atStart => exact ⟨0, Nat.zero_le _, rfl, Below.refl _ _⟩
  case round =>
    obtain ⟨j, hj, rfl, hB⟩ := hrel
    by_cases hlt : j < l.length
    · obtain ⟨g, o, rfl, hcc⟩ := hc (by intro e; rw [e] at hlt; simp at hlt)
      obtain ⟨g2, o2, rfl, hdd⟩ := hd (by intro e; rw [e] at hlt; simp at hlt)
      obtain ⟨k0, k1⟩ := hcc j hlt
      obtain ⟨z0, z1⟩ := hdd j hlt
      have hB1 := hB.drew
      replace k0 := keep k0 hB1
      replace k1 := keep k1 hB1
      replace z0 := keep z0 hB1
      replace z1 := keep z1 hB1
      clear hcc hdd hc hd
      generalize l[j] = x at *
      obtain ⟨nm, at1⟩ := x
      dsimp only at k0 k1 z0 z1
      have hE := eqP nm at1
      go_wp2
      refine wp_region_held_drew (S := fun W => W = wr.drew) (by kernel_rfl) rfl (fun hS => ?_)
      refine tkd (i := 0) (v := .slice (some ⟨g, o, none⟩) l.length c) rfl rfl (by kernel_rfl) (by kernel_rfl) (by kernel_rfl) (fun _ _ _ h => h) (Or.inl ⟨by rfl, fun w hSw => by skip; go_simp⟩) hS ?_
      simp only [List.setIfInBounds_toArray, List.set_cons_zero, List.set_cons_succ]
      refine tkd (i := 1) (v := .int .i64 (j : Int)) rfl rfl (by kernel_rfl) (by kernel_rfl) (by kernel_rfl) (fun _ _ _ h => h) (Or.inl ⟨by rfl, fun w hSw => by skip; go_simp⟩) hS ?_
      simp only [List.setIfInBounds_toArray, List.set_cons_zero, List.set_cons_succ]
      refine tkd (i := 2) (v := .pointer (some ⟨g, o + j * 2, none⟩)) rfl rfl (by kernel_rfl) (by kernel_rfl) (by kernel_rfl) (fun _ _ _ h => h) (Or.inl ⟨by rfl, fun w hSw => by skip; go_simp⟩) hS ?_
      simp only [List.setIfInBounds_toArray, List.set_cons_zero, List.set_cons_succ]
      refine tkd (i := 3) (v := .agg #[.string nm, .int .i64 at1] ) rfl rfl (by kernel_rfl) (by kernel_rfl) (by kernel_rfl) (fun _ _ _ h => h) (Or.inl ⟨by rfl, fun w hSw => by subst hSw; go_simp⟩) hS ?_
      simp only [List.setIfInBounds_toArray, List.set_cons_zero, List.set_cons_succ]
      refine tkd (i := 4) (v := .slice (some ⟨g2, o2, none⟩) l.length d) rfl rfl (by kernel_rfl) (by kernel_rfl) (by kernel_rfl) (fun _ _ _ h => h) (Or.inl ⟨by rfl, fun w hSw => by skip; go_simp⟩) hS ?_
      simp only [List.setIfInBounds_toArray, List.set_cons_zero, List.set_cons_succ]
      refine tkd (i := 5) (v := .int .i64 (j : Int)) rfl rfl (by kernel_rfl) (by kernel_rfl) (by kernel_rfl) (fun _ _ _ h => h) (Or.inl ⟨by rfl, fun w hSw => by skip; go_simp⟩) hS ?_
      simp only [List.setIfInBounds_toArray, List.set_cons_zero, List.set_cons_succ]
      refine tkd (i := 6) (v := .pointer (some ⟨g2, o2 + j * 2, none⟩)) rfl rfl (by kernel_rfl) (by kernel_rfl) (by kernel_rfl) (fun _ _ _ h => h) (Or.inl ⟨by rfl, fun w hSw => by skip; go_simp⟩) hS ?_
      simp only [List.setIfInBounds_toArray, List.set_cons_zero, List.set_cons_succ]
      refine tkd (i := 7) (v := .agg #[.string nm, .int .i64 at1] ) rfl rfl (by kernel_rfl) (by kernel_rfl) (by kernel_rfl) (fun _ _ _ h => h) (Or.inl ⟨by rfl, fun w hSw => by subst hSw; go_simp⟩) hS ?_
      simp only [List.setIfInBounds_toArray, List.set_cons_zero, List.set_cons_succ]
      refine tkd (i := 8) (v := .bool false) rfl rfl (by kernel_rfl) (by kernel_rfl) (by kernel_rfl) (fun _ _ _ h => h) (Or.inl ⟨by rfl, fun w hSw => by skip; go_simp⟩) hS ?_
      simp only [List.setIfInBounds_toArray, List.set_cons_zero, List.set_cons_succ]
      refine wpAnyH_done (by kernel_rfl) ?_ _
      go_wp2
      go_roundw
      case rel => exact ⟨j + 1, by omega, by go_num, hB1⟩
      case measure => simp [intOf]; omega
    · go_wp2
      go_ret
      exact ⟨rfl, hB⟩
end Go.Proofs.YtaiocbbcjdpjgaaGreatDoor.obj
