/- Objects that are handed in, one behind the other; what tryImports has to tell: plain functions; memory besides. What the linker's tryImports answers: a contract. What the linker's tryRelocs answers: a contract. (Written by mkrel.py: edit that.) What IsMain, and the linker's tryMain answer: contracts. -/
import Derived.Test.YtaiocbbcjdpjgaaGreatDoorLMLnkRoom
import Derived.Test.YtaiocbbcjdpjgaaGreatDoorLMLnkAsk
import Derived.Test.YtaiocbbcjdpjgaaGreatDoorLMFaceOwnC
namespace Go.Proofs.YtaiocbbcjdpjgaaGreatDoor.lnk
open Go.RowKit Go.Maps Go.WideMaps
open Go.Proofs.YtaiocbbcjdpjgaaGreatDoor.syn (isName eqS)
open Go.Proofs.YtaiocbbcjdpjgaaGreatDoor.mac (BoxC Ins grown_of_below)
open Go.Proofs.YtaiocbbcjdpjgaaGreatDoor.obj (ObjD PlcD RelD Vals ObjAt PlcsIn objV)
open Go.Proofs.YtaiocbbcjdpjgaaGreatDoor.face (VarD ProcD FaceD FaceIn keep)
set_option linter.unusedVariables false
set_option linter.unusedSimpArgs false
set_option maxRecDepth 100000
/-- the cells of one object -/
structure OCells (w : World) (g o : Nat) (d : ObjD) (x : Vals) : Prop where
  c0 : w.cell? ⟨g, o, none⟩ = some (.string d.face.module)
  c1 : w.cell? ⟨g, o + 1, none⟩ = some x.vv
  c2 : w.cell? ⟨g, o + 2, none⟩ = some x.pv
  c3 : w.cell? ⟨g, o + 3, none⟩ = some x.iv
  c4 : w.cell? ⟨g, o + 4, none⟩ = some x.cv
  c5 : w.cell? ⟨g, o + 5, none⟩ = some x.rv
  c6 : w.cell? ⟨g, o + 6, none⟩ = some x.p1
  c7 : w.cell? ⟨g, o + 7, none⟩ = some x.p2
  c8 : w.cell? ⟨g, o + 8, none⟩ = some x.p3
  c9 : w.cell? ⟨g, o + 9, none⟩ = some (.int .i64 d.low)
  c10 : w.cell? ⟨g, o + 10, none⟩ = some (.int .i64 d.high)
  c11 : w.cell? ⟨g, o + 11, none⟩ = some (.int .i64 d.lowF)
  c12 : w.cell? ⟨g, o + 12, none⟩ = some (.int .i64 d.highF)
theorem OCells.below {w w' : World} {g o : Nat} {d : ObjD} {x : Vals} (h : OCells w g o d x) (hb : Below w.heap.size w w') : OCells w' g o d x :=
  ⟨keep h.c0 hb, keep h.c1 hb, keep h.c2 hb, keep h.c3 hb, keep h.c4 hb, keep h.c5 hb, keep h.c6 hb, keep h.c7 hb, keep h.c8 hb, keep h.c9 hb, keep h.c10 hb, keep h.c11 hb, keep h.c12 hb⟩
/-- objects one behind the other -/
def ObjsIn (w : World) (v : Value) (l : List ObjD) : Prop := ∃ a c, v = .slice a l.length c ∧ l.length ≤ 8796093022208 ∧
  (l ≠ [] → ∃ g o, a = some ⟨g, o, none⟩ ∧ ∀ i (h : i < l.length), ∃ x, ObjAt w x l[i] ∧ OCells w g (o + i * 13) l[i] x)
/-- the map of modules holds the faces that f tells -/
def FM (w : World) (m : ByteArray → Option Value) (f : ByteArray → Option FaceD) : Prop := ∀ x, (m x = none ∧ f x = none) ∨ ∃ v fd, m x = some v ∧ f x = some fd ∧ FaceIn w v fd
/-- what is wrong first with the imports of one object, and of all -/
def impO (f : ByteArray → Option FaceD) (i : Int) : Int → List FaceD → Option (Int × Int × Int)
  | _, [] => none
  | j, q :: r => match f q.module with
    | none => some (i, 4, j)
    | some own => if face.sameB q own = true then impO f i (j + 1) r else some (i, 3, j)
def impT (f : ByteArray → Option FaceD) : Int → List ObjD → Option (Int × Int × Int)
  | _, [] => none
  | i, o :: r => (impO f i 0 o.imports).or (impT f (i + 1) r)
theorem impT_at {f : ByteArray → Option FaceD} {i : Nat} {l : List ObjD} (h : i < l.length) : impT f i (l.drop i) = (impO f i 0 l[i].imports).or (impT f ((i + 1 : Nat) : Int) (l.drop (i + 1))) := by
  rw [List.drop_eq_getElem_cons h]
  rfl
theorem impO_at {f : ByteArray → Option FaceD} {i : Int} {k : Nat} {l : List FaceD} (h : k < l.length) : impO f i k (l.drop k) = match f l[k].module with
    | none => some (i, 4, (k : Int))
    | some own => if face.sameB l[k] own = true then impO f i ((k + 1 : Nat) : Int) (l.drop (k + 1)) else some (i, 3, (k : Int)) := by
  rw [List.drop_eq_getElem_cons h]
  rfl
section
variable {w w' : World} {p : Pl} {s : St} {cv : Value} {nm nb b : Nat}
theorem LS.grown (h : LS w p s cv nm nb) (hg : w.grownBy w' (some b)) (h1 : b ≠ p.K) (h2 : b ≠ p.mb) (h3 : b ≠ p.bb) (h4 : cv.ownBlock ≠ some b) : LS w' p s cv nm nb :=
  { h with box := h.box.grown hg (fun e => h1 (Option.some.inj e)), row := h.row.kept hg (.inr h4), mm := h.mm.kept hg (fun e => h2 (Option.some.inj e).symm), bm := h.bm.kept hg (fun e => h3 (Option.some.inj e).symm) }
theorem LS.lt (h : LS w p s cv nm nb) : p.K < w.heap.size ∧ p.mb < w.heap.size ∧ p.bb < w.heap.size ∧ ∀ b, cv.ownBlock = some b → b < w.heap.size :=
  ⟨h.box.lt, h.mm.lt, h.bm.lt, fun b e => (h.row.lt b e).2⟩
end
theorem grown_row (w : World) (b : Nat) (cs : Array Value) : w.grownBy (w.setRow b cs) (some b) := ⟨rfl, rfl, rfl, by simp, fun k _ hk => setRow_other w b k cs (fun e => hk (by rw [e]))⟩
theorem box_row {w : World} {b : Nat} {old cs : Array Value} {T : TypeId} (h : BoxC w b old T) : BoxC (w.setRow b cs) b cs T := setRow_heap w b old cs T (0, 0) h
theorem below_row {w w' : World} {N b : Nat} {cs : Array Value} (h : Below N w w') (hb : N ≤ b) (hn : N ≤ w'.heap.size) : Below N w (w'.setRow b cs) := h.grown (grown_row w' b cs) hn (fun k e => by cases e; exact hb)
theorem step_store_row {P : Program} {ops : Array Oper} {o : Oper} {a : Act} {w : World} {K : Act → World → Prop} {Q : Exit → Act → World → Prop} {E : Prop} (hgd : o.guard = none) (ty : TypeId) (x y : Operand) (ho : o.op = .store ty x y)
    (g : Nat) (cells : Array Value) (hx : a.eval x = .pointer (some ⟨g, 0, none⟩)) (hy : a.eval y = .agg cells)
    (t : TypeId) (old : Array Value) (hg : w.heap[g]? = some (.cells old t (0, 0))) (hi : (P.info? ty).map (·.size) = some cells.size)
    (hold : old.size = cells.size) (h1 : cells.all (·.oneCell') = true) (h : K (a.put o.dst undef) (w.setRow g cells)) :
    if Region.wanted o (yielded ops a.tmps) = true then Oper.wp P o a w K Q else E := by
  have hw : Region.wanted o (yielded ops a.tmps) = true := by simp [Region.wanted, hgd]
  rw [if_pos hw]
  exact wp_store_row ty x y ho g cells hx hy t old hg hi hold h1 h
end Go.Proofs.YtaiocbbcjdpjgaaGreatDoor.lnk
namespace Go.Proofs.YtaiocbbcjdpjgaaGreatDoor.lnk
open Go.RowKit Go.Maps Go.WideMaps
open Go.Proofs.YtaiocbbcjdpjgaaGreatDoor.syn (isName eqS)
open Go.Proofs.YtaiocbbcjdpjgaaGreatDoor.mac (BoxC Ins grown_of_below)
open Go.Proofs.YtaiocbbcjdpjgaaGreatDoor.ord (tkd putd)
open Go.Proofs.YtaiocbbcjdpjgaaGreatDoor.obj (ObjD PlcD RelD Vals ObjAt PlcsIn objV)
open Go.Proofs.YtaiocbbcjdpjgaaGreatDoor.face (VarD ProcD FaceD FaceIn keep VarsIn ProcsIn)
set_option linter.unusedVariables false
set_option linter.unusedSimpArgs false
set_option maxRecDepth 100000
/-- all stays, and a trouble is thrown or none -/
def ImpE (w : World) (t : Option (Int × Int × Int)) (e : Ending) (w' : World) : Prop := Below w.heap.size w w' ∧ EndT t e
set_option maxHeartbeats 4000000 in
theorem oTryImports {w0 w : World} {p : Pl} {s : St} {cv : Value} {nm nb : Nat} {f : ByteArray → Option FaceD} {l : List ObjD} (h : LS w p s cv nm nb) (hB : Below w0.heap.size w0 w) (ho : ObjsIn w0 p.ov l) (hf : FM w0 s.mods f) (hnm : ∀ o ∈ l, ∀ q ∈ o.imports, q.module.size ≤ 16) :
    Calls Tryz.prog 43 #[.pointer (some ⟨p.K, 0, none⟩)] w (ImpE w (impT f 0 l)) := by
  have c13 : Tryz.prog.cellsOf 31 = 13 := by kernel_rfl
  have c3 : Tryz.prog.cellsOf 25 = 3 := by kernel_rfl
  have m3 := h.ob
  obtain ⟨oa, oc, hov, hll, hoc⟩ := ho
  rw [hov] at m3
  obtain ⟨T, hT⟩ : ∃ T, T = impT f 0 l := ⟨_, rfl⟩
  rw [← hT]
  replace hT : Hid (T = impT f ((0 : Nat) : Int) (l.drop 0)) := hT
  go_enter Tryz.func43, Tryz.ntmps43
  go_wp2
  go_loopw [13] (fun t wr => ∃ i : Nat, i ≤ l.length ∧ t = .int .i64 i ∧ Below w.heap.size w wr ∧ Hid (T = impT f (i : Int) (l.drop i))) (fun t _ => l.length - (intOf t).toNat)
  case atStart => exact ⟨0, Nat.zero_le _, rfl, Below.refl _ _, hT⟩
  case round =>
    clear hT
    obtain ⟨i, hi, rfl, hBr, HT⟩ := hrel
    by_cases hlt : i < l.length
    · obtain ⟨g, o, rfl, hcc⟩ := hoc (by intro e; rw [e] at hlt; simp at hlt)
      obtain ⟨x, hat, hcs⟩ := hcc i hlt
      have hB1 := hB.trans (hBr.mono hB.size)
      have hat1 := hat.below hB1
      have hcs1 := hcs.below hB1
      have hnm1 := hnm l[i] (List.getElem_mem hlt)
      obtain ⟨a1, c1, a2, c2, a3, c3', a4, c4', a5, c5, a6, c6, a7, c7, a8, c8, rfl⟩ := hat1.shape
      obtain ⟨y0, y1, y2, y3, y4, y5, y6, y7, y8, y9, y10, y11, y12⟩ := hcs1
      dsimp only at y1 y2 y3 y4 y5 y6 y7 y8
      have him := hat.imps
      dsimp only at him
      have HI : Hid (T = (impO f (i : Int) ((0 : Nat) : Int) (l[i].imports.drop 0)).or (impT f ((i + 1 : Nat) : Int) (l.drop (i + 1)))) := by show _ = _; rw [HT.out, impT_at hlt]; rfl
      clear HT hcc hoc hat1 hcs hat
      generalize hgi : l[i] = d at *
      obtain ⟨T2, hT2⟩ : ∃ T2, T2 = impT f ((i + 1 : Nat) : Int) (l.drop (i + 1)) := ⟨_, rfl⟩
      rw [← hT2] at HI
      replace hT2 : Hid (T2 = impT f ((i + 1 : Nat) : Int) (l.drop (i + 1))) := hT2
      obtain ⟨ia, ic, hia, hil, hic⟩ := him
      simp only [Value.slice.injEq, true_and] at hia
      obtain ⟨rfl, rfl⟩ := hia
      have hBin : Below w.heap.size w (wr.alloc (.cells #[.string d.face.module, .slice a1 d.face.vars.length c1, .slice a2 d.face.procs.length c2, .slice a3 d.imports.length c3', .slice a4 d.code.length c4', .slice a5 d.relocs.length c5, .slice a6 d.procs.length c6, .slice a7 d.lows.length c7, .slice a8 d.highs.length c8, .int .i64 d.low, .int .i64 d.high, .int .i64 d.lowF, .int .i64 d.highF] 31)) := hBr.alloc hBr.size _
      go_wp2
      go_loopw [21] (fun t wr => ∃ k : Nat, k ≤ d.imports.length ∧ t = .int .i64 k ∧ Below w.heap.size w wr ∧ Hid (T = (impO f (i : Int) (k : Int) (d.imports.drop k)).or T2)) (fun t _ => d.imports.length - (intOf t).toNat)
      case atStart => exact ⟨0, Nat.zero_le _, rfl, hBin, HI⟩
      case round =>
        clear HI hBin hBr hB1
        obtain ⟨k, hk, rfl, hBr, HI⟩ := hrel
        by_cases hkl : k < d.imports.length
        · obtain ⟨g2, o2, rfl, hcc⟩ := hic (by intro e; rw [e] at hkl; simp at hkl)
          obtain ⟨k0, ⟨y, k1, hy⟩, ⟨z, k2, hz⟩⟩ := hcc k hkl
          have hB1 := hB.trans (hBr.mono hB.size)
          replace k0 := keep k0 hB1
          replace k1 := keep k1 hB1
          replace k2 := keep k2 hB1
          have hqn := hnm1 _ (List.getElem_mem hkl)
          have HO := impO_at (f := f) (i := (i : Int)) hkl
          obtain ⟨ya, yc, rfl⟩ : ∃ a c, y = .slice a d.imports[k].vars.length c := by obtain ⟨a, c, e, _⟩ := hy; exact ⟨a, c, e⟩
          obtain ⟨za, zc, rfl⟩ : ∃ a c, z = .slice a d.imports[k].procs.length c := by obtain ⟨a, c, e, _⟩ := hz; exact ⟨a, c, e⟩
          rw [HO] at HI
          clear HO hcc hic
          generalize d.imports[k] = q at *
          have hI2 := (h.below hBr).alloc (.cells #[.string q.module, .slice ya q.vars.length yc, .slice za q.procs.length zc] 25)
          have hbx := BoxC.new wr #[.string q.module, .slice ya q.vars.length yc, .slice za q.procs.length zc] 25
          have hGz := hBr.alloc hBr.size (.cells #[.string q.module, .slice ya q.vars.length yc, .slice za q.procs.length zc] 25)
          have hfq := hf q.module
          have hlen16 : q.module.size ≤ maxLen := by unfold maxLen; omega
          have hwr : w.heap.size ≤ wr.heap.size := hBr.size
          rcases hfq with ⟨hm1, hm2⟩ | ⟨v, fd, hm1, hm2, hm3⟩
          · rw [hm2] at HI
            have HR : Hid (T = some ((i : Int), 4, (k : Int))) := HI.out
            have hlk : ∀ wq, LS wq p s cv nm nb → (Instr.lookup 89 (.map (some p.mb)) (.string q.module) true).run Tryz.prog wq = .ok (.tuple #[.agg #[.string ⟨#[]⟩, .slice none 0 0, .slice none 0 0], .bool false]) wq := fun wq h => by
              have m := h.mm.run_look_ok q.module hlen16
              rw [hm1] at m
              exact m
            clear HI
            go_wp2
            refine wp_region_held_drew (S := fun W => LS W p s cv nm nb ∧ BoxC W wr.heap.size #[.string q.module, .slice ya q.vars.length yc, .slice za q.procs.length zc] 25) (by kernel_rfl) ⟨hI2.drew, hbx.below (Below.refl _ _).drew⟩ (fun hS => ?_)
            replace hGz := hGz.drew
            have hBW : wr.heap.size < (wr.alloc (.cells #[.string q.module, .slice ya q.vars.length yc, .slice za q.procs.length zc] 25)).drew.heap.size := by show wr.heap.size < (wr.alloc _).heap.size; simp
            generalize (wr.alloc (.cells #[.string q.module, .slice ya q.vars.length yc, .slice za q.procs.length zc] 25)).drew = W at hGz hS hBW ⊢
            generalize wr.heap.size = B at *
            clear hI2 hbx
            refine tkd (i := 0) (v := .pointer (some ⟨p.K, 0, none⟩)) rfl rfl (by kernel_rfl) (by kernel_rfl) (by kernel_rfl) (fun _ _ _ h => h) (Or.inl ⟨by rfl, fun wq hSw => by skip; go_simp⟩) hS ?_
            simp only [List.setIfInBounds_toArray, List.set_cons_zero, List.set_cons_succ]
            refine tkd (i := 1) (v := .pointer (some ⟨p.K, 0, none⟩)) rfl rfl (by kernel_rfl) (by kernel_rfl) (by kernel_rfl) (fun _ _ _ h => h) (Or.inl ⟨by rfl, fun wq hSw => by skip; go_simp⟩) hS ?_
            simp only [List.setIfInBounds_toArray, List.set_cons_zero, List.set_cons_succ]
            refine tkd (i := 2) (v := .pointer (some ⟨p.K, 4, none⟩)) rfl rfl (by kernel_rfl) (by kernel_rfl) (by kernel_rfl) (fun _ _ _ h => h) (Or.inl ⟨by rfl, fun wq hSw => by skip; go_simp⟩) hS ?_
            simp only [List.setIfInBounds_toArray, List.set_cons_zero, List.set_cons_succ]
            refine tkd (i := 3) (v := .map (some p.mb)) rfl rfl (by kernel_rfl) (by kernel_rfl) (by kernel_rfl) (fun _ _ _ h => h) (Or.inl ⟨by rfl, fun wq hSw => by have m := hSw.1.mo; go_simp⟩) hS ?_
            simp only [List.setIfInBounds_toArray, List.set_cons_zero, List.set_cons_succ]
            refine tkd (i := 4) (v := .pointer (some ⟨B, 0, none⟩)) rfl rfl (by kernel_rfl) (by kernel_rfl) (by kernel_rfl) (fun _ _ _ h => h) (Or.inl ⟨by rfl, fun wq hSw => by skip; go_simp⟩) hS ?_
            simp only [List.setIfInBounds_toArray, List.set_cons_zero, List.set_cons_succ]
            refine tkd (i := 5) (v := .string q.module) rfl rfl (by kernel_rfl) (by kernel_rfl) (by kernel_rfl) (fun _ _ _ h => h) (Or.inl ⟨by rfl, fun wq hSw => by have m := hSw.2.cell 0 rfl; go_simp⟩) hS ?_
            simp only [List.setIfInBounds_toArray, List.set_cons_zero, List.set_cons_succ]
            refine tkd (i := 6) (v := .tuple #[.agg #[.string ⟨#[]⟩, .slice none 0 0, .slice none 0 0] , .bool false] ) rfl rfl (by kernel_rfl) (by kernel_rfl) (by kernel_rfl) (fun _ _ _ h => h) (Or.inl ⟨by rfl, fun wq hSw => by have m := hlk wq hSw.1; go_simp⟩) hS ?_
            simp only [List.setIfInBounds_toArray, List.set_cons_zero, List.set_cons_succ]
            refine tkd (i := 7) (v := .tuple #[.agg #[.string ⟨#[]⟩, .slice none 0 0, .slice none 0 0] , .bool false] ) rfl rfl (by kernel_rfl) (by kernel_rfl) (by kernel_rfl) (fun _ _ _ h => h) (Or.inl ⟨by rfl, fun wq hSw => by skip; go_simp⟩) hS ?_
            simp only [List.setIfInBounds_toArray, List.set_cons_zero, List.set_cons_succ]
            refine tkd (i := 8) (v := .agg #[.string ⟨#[]⟩, .slice none 0 0, .slice none 0 0]  ) rfl rfl (by kernel_rfl) (by kernel_rfl) (by kernel_rfl) (fun _ _ _ h => h) (Or.inl ⟨by rfl, fun wq hSw => by skip; go_simp⟩) hS ?_
            simp only [List.setIfInBounds_toArray, List.set_cons_zero, List.set_cons_succ]
            refine tkd (i := 9) (v := .bool false) rfl rfl (by kernel_rfl) (by kernel_rfl) (by kernel_rfl) (fun _ _ _ h => h) (Or.inl ⟨by rfl, fun wq hSw => by skip; go_simp⟩) hS ?_
            simp only [List.setIfInBounds_toArray, List.set_cons_zero, List.set_cons_succ]
            refine wpAnyH_ready (rs := [10]) (by kernel_rfl) (by simp) ?_
            refine AllReadyH.cons rfl (fun K hK => ?_) AllReadyH.nil
            go_simp
            have hN := BoxC.new W #[.string ⟨#[]⟩, .slice none 0 0, .slice none 0 0] 25
            have hltS := hS.1.lt
            replace hGz := hGz.alloc (by have := hGz.size; omega) (.cells #[.string ⟨#[]⟩, .slice none 0 0, .slice none 0 0] 25)
            replace hS : LS (W.alloc (.cells #[.string ⟨#[]⟩, .slice none 0 0, .slice none 0 0] 25)) p s cv nm nb ∧ BoxC (W.alloc (.cells #[.string ⟨#[]⟩, .slice none 0 0, .slice none 0 0] 25)) B #[.string q.module, .slice ya q.vars.length yc, .slice za q.procs.length zc] 25 := ⟨hS.1.alloc _, hS.2.alloc _⟩
            refine hK.out _ _ hS (fun _ => ?_)
            clear hK K
            have hNs : W.heap.size < (W.alloc (.cells #[.string ⟨#[]⟩, .slice none 0 0, .slice none 0 0] 25)).heap.size := by simp
            have hwN : w.heap.size ≤ W.heap.size := by omega
            generalize W.alloc (.cells #[.string ⟨#[]⟩, .slice none 0 0, .slice none 0 0] 25) = W1 at *
            generalize W.heap.size = N at *
            refine wpAnyH_ready (rs := [11]) (by kernel_rfl) (by simp) ?_
            refine AllReadyH.cons rfl (fun K hK => ?_) AllReadyH.nil
            refine step_store_row (by rfl) 25 (.tmp 6) (.tmp 34) (by rfl) N #[.string ⟨#[]⟩, .slice none 0 0, .slice none 0 0]  (by rfl) (by rfl) 25 _ hN (by kernel_rfl) (by rfl) (by kernel_rfl) ?_
            replace hN := box_row (cs := #[.string ⟨#[]⟩, .slice none 0 0, .slice none 0 0] ) hN
            replace hGz := below_row (cs := #[.string ⟨#[]⟩, .slice none 0 0, .slice none 0 0] ) hGz hwN (by omega)
            replace hS : LS (W1.setRow N #[.string ⟨#[]⟩, .slice none 0 0, .slice none 0 0] ) p s cv nm nb ∧ BoxC (W1.setRow N #[.string ⟨#[]⟩, .slice none 0 0, .slice none 0 0] ) B #[.string q.module, .slice ya q.vars.length yc, .slice za q.procs.length zc] 25 := ⟨hS.1.grown (grown_row _ _ _) (by omega) (by omega) (by omega) (fun e => by have := hltS.2.2.2 _ e; omega), (setRow_other _ _ _ _ (by omega)).trans hS.2⟩
            refine hK.out _ _ hS (fun _ => ?_)
            clear hK K
            generalize W1.setRow N #[.string ⟨#[]⟩, .slice none 0 0, .slice none 0 0]  = W2 at *
            simp only [Act.put]
            refine tkd (i := 12) (v := .bool false) rfl rfl (by kernel_rfl) (by kernel_rfl) (by kernel_rfl) (fun _ _ _ h => h) (Or.inl ⟨by rfl, fun wq hSw => by skip; go_simp⟩) hS ?_
            simp only [List.setIfInBounds_toArray, List.set_cons_zero, List.set_cons_succ]
            refine wpAnyH_done (by kernel_rfl) ?_ _
            go_wp2_with (fail)
            refine (oRefuse _ _ _ _).mono ?_
            rintro e w9 ⟨rfl, rfl⟩
            go_wp2
            exact ⟨rfl, hGz, EndT.yes HR.out⟩
          · rw [hm2] at HI
            obtain ⟨vv, pv, rfl, hvv, hpv⟩ := hm3
            obtain ⟨va, vc, rfl⟩ : ∃ a c, vv = .slice a fd.vars.length c := by obtain ⟨a, c, e, _⟩ := hvv; exact ⟨a, c, e⟩
            obtain ⟨pa, pc, rfl⟩ : ∃ a c, pv = .slice a fd.procs.length c := by obtain ⟨a, c, e, _⟩ := hpv; exact ⟨a, c, e⟩
            have hlk : ∀ wq, LS wq p s cv nm nb → (Instr.lookup 89 (.map (some p.mb)) (.string q.module) true).run Tryz.prog wq = .ok (.tuple #[.agg #[.string fd.module, .slice va fd.vars.length vc, .slice pa fd.procs.length pc], .bool true]) wq := fun wq h => by
              have m := h.mm.run_look_ok q.module hlen16
              rw [hm1] at m
              exact m
            go_wp2
            refine wp_region_held_drew (S := fun W => LS W p s cv nm nb ∧ BoxC W wr.heap.size #[.string q.module, .slice ya q.vars.length yc, .slice za q.procs.length zc] 25) (by kernel_rfl) ⟨hI2.drew, hbx.below (Below.refl _ _).drew⟩ (fun hS => ?_)
            replace hGz := hGz.drew
            have hBW : wr.heap.size < (wr.alloc (.cells #[.string q.module, .slice ya q.vars.length yc, .slice za q.procs.length zc] 25)).drew.heap.size := by show wr.heap.size < (wr.alloc _).heap.size; simp
            generalize (wr.alloc (.cells #[.string q.module, .slice ya q.vars.length yc, .slice za q.procs.length zc] 25)).drew = W at hGz hS hBW ⊢
            generalize wr.heap.size = B at *
            clear hI2 hbx
            refine tkd (i := 0) (v := .pointer (some ⟨p.K, 0, none⟩)) rfl rfl (by kernel_rfl) (by kernel_rfl) (by kernel_rfl) (fun _ _ _ h => h) (Or.inl ⟨by rfl, fun wq hSw => by skip; go_simp⟩) hS ?_
            simp only [List.setIfInBounds_toArray, List.set_cons_zero, List.set_cons_succ]
            refine tkd (i := 1) (v := .pointer (some ⟨p.K, 0, none⟩)) rfl rfl (by kernel_rfl) (by kernel_rfl) (by kernel_rfl) (fun _ _ _ h => h) (Or.inl ⟨by rfl, fun wq hSw => by skip; go_simp⟩) hS ?_
            simp only [List.setIfInBounds_toArray, List.set_cons_zero, List.set_cons_succ]
            refine tkd (i := 2) (v := .pointer (some ⟨p.K, 4, none⟩)) rfl rfl (by kernel_rfl) (by kernel_rfl) (by kernel_rfl) (fun _ _ _ h => h) (Or.inl ⟨by rfl, fun wq hSw => by skip; go_simp⟩) hS ?_
            simp only [List.setIfInBounds_toArray, List.set_cons_zero, List.set_cons_succ]
            refine tkd (i := 3) (v := .map (some p.mb)) rfl rfl (by kernel_rfl) (by kernel_rfl) (by kernel_rfl) (fun _ _ _ h => h) (Or.inl ⟨by rfl, fun wq hSw => by have m := hSw.1.mo; go_simp⟩) hS ?_
            simp only [List.setIfInBounds_toArray, List.set_cons_zero, List.set_cons_succ]
            refine tkd (i := 4) (v := .pointer (some ⟨B, 0, none⟩)) rfl rfl (by kernel_rfl) (by kernel_rfl) (by kernel_rfl) (fun _ _ _ h => h) (Or.inl ⟨by rfl, fun wq hSw => by skip; go_simp⟩) hS ?_
            simp only [List.setIfInBounds_toArray, List.set_cons_zero, List.set_cons_succ]
            refine tkd (i := 5) (v := .string q.module) rfl rfl (by kernel_rfl) (by kernel_rfl) (by kernel_rfl) (fun _ _ _ h => h) (Or.inl ⟨by rfl, fun wq hSw => by have m := hSw.2.cell 0 rfl; go_simp⟩) hS ?_
            simp only [List.setIfInBounds_toArray, List.set_cons_zero, List.set_cons_succ]
            refine tkd (i := 6) (v := .tuple #[.agg #[.string fd.module, .slice va fd.vars.length vc, .slice pa fd.procs.length pc] , .bool true] ) rfl rfl (by kernel_rfl) (by kernel_rfl) (by kernel_rfl) (fun _ _ _ h => h) (Or.inl ⟨by rfl, fun wq hSw => by have m := hlk wq hSw.1; go_simp⟩) hS ?_
            simp only [List.setIfInBounds_toArray, List.set_cons_zero, List.set_cons_succ]
            refine tkd (i := 7) (v := .tuple #[.agg #[.string fd.module, .slice va fd.vars.length vc, .slice pa fd.procs.length pc] , .bool true] ) rfl rfl (by kernel_rfl) (by kernel_rfl) (by kernel_rfl) (fun _ _ _ h => h) (Or.inl ⟨by rfl, fun wq hSw => by skip; go_simp⟩) hS ?_
            simp only [List.setIfInBounds_toArray, List.set_cons_zero, List.set_cons_succ]
            refine tkd (i := 8) (v := .agg #[.string fd.module, .slice va fd.vars.length vc, .slice pa fd.procs.length pc]  ) rfl rfl (by kernel_rfl) (by kernel_rfl) (by kernel_rfl) (fun _ _ _ h => h) (Or.inl ⟨by rfl, fun wq hSw => by skip; go_simp⟩) hS ?_
            simp only [List.setIfInBounds_toArray, List.set_cons_zero, List.set_cons_succ]
            refine tkd (i := 9) (v := .bool true) rfl rfl (by kernel_rfl) (by kernel_rfl) (by kernel_rfl) (fun _ _ _ h => h) (Or.inl ⟨by rfl, fun wq hSw => by skip; go_simp⟩) hS ?_
            simp only [List.setIfInBounds_toArray, List.set_cons_zero, List.set_cons_succ]
            refine wpAnyH_ready (rs := [10]) (by kernel_rfl) (by simp) ?_
            refine AllReadyH.cons rfl (fun K hK => ?_) AllReadyH.nil
            go_simp
            have hN := BoxC.new W #[.string ⟨#[]⟩, .slice none 0 0, .slice none 0 0] 25
            have hltS := hS.1.lt
            replace hGz := hGz.alloc (by have := hGz.size; omega) (.cells #[.string ⟨#[]⟩, .slice none 0 0, .slice none 0 0] 25)
            replace hS : LS (W.alloc (.cells #[.string ⟨#[]⟩, .slice none 0 0, .slice none 0 0] 25)) p s cv nm nb ∧ BoxC (W.alloc (.cells #[.string ⟨#[]⟩, .slice none 0 0, .slice none 0 0] 25)) B #[.string q.module, .slice ya q.vars.length yc, .slice za q.procs.length zc] 25 := ⟨hS.1.alloc _, hS.2.alloc _⟩
            refine hK.out _ _ hS (fun _ => ?_)
            clear hK K
            have hNs : W.heap.size < (W.alloc (.cells #[.string ⟨#[]⟩, .slice none 0 0, .slice none 0 0] 25)).heap.size := by simp
            have hwN : w.heap.size ≤ W.heap.size := by omega
            generalize W.alloc (.cells #[.string ⟨#[]⟩, .slice none 0 0, .slice none 0 0] 25) = W1 at *
            generalize W.heap.size = N at *
            refine wpAnyH_ready (rs := [11]) (by kernel_rfl) (by simp) ?_
            refine AllReadyH.cons rfl (fun K hK => ?_) AllReadyH.nil
            refine step_store_row (by rfl) 25 (.tmp 6) (.tmp 34) (by rfl) N #[.string fd.module, .slice va fd.vars.length vc, .slice pa fd.procs.length pc]  (by rfl) (by rfl) 25 _ hN (by kernel_rfl) (by rfl) (by kernel_rfl) ?_
            replace hN := box_row (cs := #[.string fd.module, .slice va fd.vars.length vc, .slice pa fd.procs.length pc] ) hN
            replace hGz := below_row (cs := #[.string fd.module, .slice va fd.vars.length vc, .slice pa fd.procs.length pc] ) hGz hwN (by omega)
            replace hS : LS (W1.setRow N #[.string fd.module, .slice va fd.vars.length vc, .slice pa fd.procs.length pc] ) p s cv nm nb ∧ BoxC (W1.setRow N #[.string fd.module, .slice va fd.vars.length vc, .slice pa fd.procs.length pc] ) B #[.string q.module, .slice ya q.vars.length yc, .slice za q.procs.length zc] 25 := ⟨hS.1.grown (grown_row _ _ _) (by omega) (by omega) (by omega) (fun e => by have := hltS.2.2.2 _ e; omega), (setRow_other _ _ _ _ (by omega)).trans hS.2⟩
            refine hK.out _ _ hS (fun _ => ?_)
            clear hK K
            generalize W1.setRow N #[.string fd.module, .slice va fd.vars.length vc, .slice pa fd.procs.length pc]  = W2 at *
            simp only [Act.put]
            refine tkd (i := 12) (v := .bool true) rfl rfl (by kernel_rfl) (by kernel_rfl) (by kernel_rfl) (fun _ _ _ h => h) (Or.inl ⟨by rfl, fun wq hSw => by skip; go_simp⟩) hS ?_
            simp only [List.setIfInBounds_toArray, List.set_cons_zero, List.set_cons_succ]
            refine wpAnyH_done (by kernel_rfl) ?_ _
            have hBz := hB.trans (hGz.mono hB.size)
            have hSm := face.oSame q fd (.agg #[.string q.module, .slice ya q.vars.length yc, .slice za q.procs.length zc]) (.agg #[.string fd.module, .slice va fd.vars.length vc, .slice pa fd.procs.length pc]) W2 ⟨_, _, rfl, hy.below hBz, hz.below hBz⟩ ⟨_, _, rfl, hvv.below hBz, hpv.below hBz⟩
            have b0 := hS.2.cell 0 rfl
            have b1 := hS.2.cell 1 rfl
            have b2 := hS.2.cell 2 rfl
            have n0 := hN.cell 0 rfl
            have n1 := hN.cell 1 rfl
            have n2 := hN.cell 2 rfl
            cases hsm : face.sameB q fd
            · rw [hsm] at hSm
              have HR : Hid (T = some ((i : Int), 3, (k : Int))) := by show _ = _; rw [HI.out]; simp [hsm]
              clear HI
              go_wp2_with (fail)
              refine hSm.mono ?_
              rintro e w8 ⟨rfl, hb8⟩
              go_wp2_with (fail)
              refine (oRefuse _ _ _ _).mono ?_
              rintro e w9 ⟨rfl, rfl⟩
              go_wp2
              exact ⟨rfl, hGz.trans (hb8.mono hGz.size), EndT.yes HR.out⟩
            · rw [hsm] at hSm
              have HR : Hid (T = (impO f (i : Int) ((k + 1 : Nat) : Int) (d.imports.drop (k + 1))).or T2) := by show _ = _; rw [HI.out]; simp [hsm]
              clear HI
              go_wp2_with (fail)
              refine hSm.mono ?_
              rintro e w8 ⟨rfl, hb8⟩
              go_wp2
              exact ⟨⟨k + 1, by omega, by go_num, hGz.trans (hb8.mono hGz.size), HR⟩, by simp [intOf]; omega⟩
        · have HN : Hid (T = T2) := by show _ = _; rw [HI.out, List.drop_eq_nil_of_le (by omega)]; rfl
          clear HI
          go_wp2
          refine ⟨⟨i + 1, by omega, by go_num, hBr, by show _ = _; rw [HN.out, hT2.out]⟩, by simp [intOf]; omega⟩
    · have HN : Hid (T = none) := by show _ = _; rw [HT.out, List.drop_eq_nil_of_le (by omega)]; rfl
      clear HT
      go_wp2
      go_end0
      exact ⟨hBr, EndT.no HN.out⟩
end Go.Proofs.YtaiocbbcjdpjgaaGreatDoor.lnk
namespace Go.Proofs.YtaiocbbcjdpjgaaGreatDoor.lnk
open Go.RowKit Go.Maps Go.WideMaps
open Go.Proofs.YtaiocbbcjdpjgaaGreatDoor.syn (isName eqS)
open Go.Proofs.YtaiocbbcjdpjgaaGreatDoor.mac (BoxC Ins grown_of_below)
open Go.Proofs.YtaiocbbcjdpjgaaGreatDoor.ord (tkd putd)
open Go.Proofs.YtaiocbbcjdpjgaaGreatDoor.obj (ObjD PlcD RelD Vals ObjAt PlcsIn RelsIn objV relV)
open Go.Proofs.YtaiocbbcjdpjgaaGreatDoor.face (VarD ProcD FaceD FaceIn keep VarsIn ProcsIn)
set_option linter.unusedVariables false
set_option linter.unusedSimpArgs false
set_option maxRecDepth 100000
/-- what is wrong first with the relocs of one object, and of all -/
def relO (fb : Thg → Option Int) (o : ObjD) (i : Int) : Int → List RelD → Option (Int × Int × Int)
  | _, [] => none
  | j, r :: rs => if ((fb (askedF o r)).isSome && knowsF o r) = true then relO fb o i (j + 1) rs else some (i, 4, j)
def relT (fb : Thg → Option Int) : Int → List ObjD → Option (Int × Int × Int)
  | _, [] => none
  | i, o :: r => (relO fb o i 0 o.relocs).or (relT fb (i + 1) r)
theorem relT_at {f : Thg → Option Int} {i : Nat} {l : List ObjD} (h : i < l.length) : relT f i (l.drop i) = (relO f l[i] i 0 l[i].relocs).or (relT f ((i + 1 : Nat) : Int) (l.drop (i + 1))) := by
  rw [List.drop_eq_getElem_cons h]
  rfl
theorem relO_at {f : Thg → Option Int} {o : ObjD} {i : Int} {k : Nat} {l : List RelD} (h : k < l.length) : relO f o i k (l.drop k) = if ((f (askedF o l[k])).isSome && knowsF o l[k]) = true then relO f o i ((k + 1 : Nat) : Int) (l.drop (k + 1)) else some (i, 4, (k : Int)) := by
  rw [List.drop_eq_getElem_cons h]
  rfl
/-- relocs such as may be -/
structure RelOk (o : ObjD) (r : RelD) : Prop where
  k : 1 ≤ r.kind ∧ r.kind ≤ 4
  o' : o.face.module.size ≤ 16
  m : r.module.size ≤ 16
  n : r.name.size ≤ 16
theorem RelOk.asked {o : ObjD} {r : RelD} (h : RelOk o r) : (askedF o r).ok := by
  unfold askedF
  have h1 := h.o'
  have h2 := h.m
  have h3 := h.n
  split
  · exact ⟨wf4 (k := 1) ⟨by decide, by decide⟩, by unfold maxLen; dsimp only; omega, by unfold maxLen; show (⟨#[]⟩ : ByteArray).size ≤ _; decide⟩
  · exact ⟨wf4 h.k, by unfold maxLen; dsimp only; omega, by unfold maxLen; dsimp only; omega⟩
set_option maxHeartbeats 4000000 in
theorem oTryRelocs {w0 w : World} {p : Pl} {s : St} {cv : Value} {nm nb : Nat} {l : List ObjD} (h : LS w p s cv nm nb) (hB : Below w0.heap.size w0 w) (ho : ObjsIn w0 p.ov l) (hnm : ∀ o ∈ l, ∀ q ∈ o.relocs, RelOk o q) :
    Calls Tryz.prog 44 #[.pointer (some ⟨p.K, 0, none⟩)] w (ImpE w (relT s.begs 0 l)) := by
  have c13 : Tryz.prog.cellsOf 31 = 13 := by kernel_rfl
  have c4 : Tryz.prog.cellsOf 66 = 4 := by kernel_rfl
  have m3 := h.ob
  obtain ⟨oa, oc, hov, hll, hoc⟩ := ho
  rw [hov] at m3
  obtain ⟨T, hT⟩ : ∃ T, T = relT s.begs 0 l := ⟨_, rfl⟩
  rw [← hT]
  replace hT : Hid (T = relT s.begs ((0 : Nat) : Int) (l.drop 0)) := hT
  go_enter Tryz.func44, Tryz.ntmps44
  go_wp2
  go_loopw [13] (fun t wr => ∃ i : Nat, i ≤ l.length ∧ t = .int .i64 i ∧ Below w.heap.size w wr ∧ Hid (T = relT s.begs (i : Int) (l.drop i))) (fun t _ => l.length - (intOf t).toNat)
  case atStart => exact ⟨0, Nat.zero_le _, rfl, Below.refl _ _, hT⟩
  case round =>
    clear hT
    obtain ⟨i, hi, rfl, hBr, HT⟩ := hrel
    by_cases hlt : i < l.length
    · obtain ⟨g, o, rfl, hcc⟩ := hoc (by intro e; rw [e] at hlt; simp at hlt)
      obtain ⟨x, hat, hcs⟩ := hcc i hlt
      have hB1 := hB.trans (hBr.mono hB.size)
      have hcs1 := hcs.below hB1
      have hnm1 := hnm l[i] (List.getElem_mem hlt)
      obtain ⟨a1, c1, a2, c2, a3, c3', a4, c4', a5, c5, a6, c6, a7, c7, a8, c8, rfl⟩ := hat.shape
      obtain ⟨y0, y1, y2, y3, y4, y5, y6, y7, y8, y9, y10, y11, y12⟩ := hcs1
      dsimp only at y1 y2 y3 y4 y5 y6 y7 y8
      have him := hat.rels
      dsimp only at him
      have HI : Hid (T = (relO s.begs l[i] (i : Int) ((0 : Nat) : Int) (l[i].relocs.drop 0)).or (relT s.begs ((i + 1 : Nat) : Int) (l.drop (i + 1)))) := by show _ = _; rw [HT.out, relT_at hlt]; rfl
      clear HT hcc hoc hcs
      generalize hgi : l[i] = d at *
      obtain ⟨T2, hT2⟩ : ∃ T2, T2 = relT s.begs ((i + 1 : Nat) : Int) (l.drop (i + 1)) := ⟨_, rfl⟩
      rw [← hT2] at HI
      replace hT2 : Hid (T2 = relT s.begs ((i + 1 : Nat) : Int) (l.drop (i + 1))) := hT2
      obtain ⟨ia, ic, hia, hil, hic⟩ := him
      simp only [Value.slice.injEq, true_and] at hia
      obtain ⟨rfl, rfl⟩ := hia
      have hBin : Below w.heap.size w (wr.alloc (.cells #[.string d.face.module, .slice a1 d.face.vars.length c1, .slice a2 d.face.procs.length c2, .slice a3 d.imports.length c3', .slice a4 d.code.length c4', .slice a5 d.relocs.length c5, .slice a6 d.procs.length c6, .slice a7 d.lows.length c7, .slice a8 d.highs.length c8, .int .i64 d.low, .int .i64 d.high, .int .i64 d.lowF, .int .i64 d.highF] 31)) := hBr.alloc hBr.size _
      have hbo := BoxC.new wr #[.string d.face.module, .slice a1 d.face.vars.length c1, .slice a2 d.face.procs.length c2, .slice a3 d.imports.length c3', .slice a4 d.code.length c4', .slice a5 d.relocs.length c5, .slice a6 d.procs.length c6, .slice a7 d.lows.length c7, .slice a8 d.highs.length c8, .int .i64 d.low, .int .i64 d.high, .int .i64 d.lowF, .int .i64 d.highF] 31
      go_wp2
      generalize wr.heap.size = B1 at *
      go_loopw [21] (fun t wr => ∃ k : Nat, k ≤ d.relocs.length ∧ t = .int .i64 k ∧ Below w.heap.size w wr ∧ BoxC wr B1 #[.string d.face.module, .slice a1 d.face.vars.length c1, .slice a2 d.face.procs.length c2, .slice a3 d.imports.length c3', .slice a4 d.code.length c4', .slice a5 d.relocs.length c5, .slice a6 d.procs.length c6, .slice a7 d.lows.length c7, .slice a8 d.highs.length c8, .int .i64 d.low, .int .i64 d.high, .int .i64 d.lowF, .int .i64 d.highF] 31 ∧ Hid (T = (relO s.begs d (i : Int) (k : Int) (d.relocs.drop k)).or T2)) (fun t _ => d.relocs.length - (intOf t).toNat)
      case atStart => exact ⟨0, Nat.zero_le _, rfl, hBin, hbo, HI⟩
      case round =>
        clear HI hBin hBr hB1 hbo
        obtain ⟨k, hk, rfl, hBr, hbo, HI⟩ := hrel
        by_cases hkl : k < d.relocs.length
        · obtain ⟨g2, o2, rfl, hcc⟩ := hic (by intro e; rw [e] at hkl; simp at hkl)
          obtain ⟨k0, k1, k2, k3⟩ := hcc k hkl
          have hB1 := hB.trans (hBr.mono hB.size)
          replace k0 := keep k0 hB1
          replace k1 := keep k1 hB1
          replace k2 := keep k2 hB1
          replace k3 := keep k3 hB1
          have hqn := hnm1 _ (List.getElem_mem hkl)
          have HO := relO_at (f := s.begs) (o := d) (i := (i : Int)) hkl
          rw [HO] at HI
          clear HO hcc hic
          generalize d.relocs[k] = q at *
          have hI2 := (h.below hBr).alloc (.cells #[.int .i64 q.at', .int .i64 q.kind, .string q.module, .string q.name] 66)
          have hbo2 := hbo.alloc (.cells #[.int .i64 q.at', .int .i64 q.kind, .string q.module, .string q.name] 66)
          have hbx := BoxC.new wr #[.int .i64 q.at', .int .i64 q.kind, .string q.module, .string q.name] 66
          have hGz := hBr.alloc hBr.size (.cells #[.int .i64 q.at', .int .i64 q.kind, .string q.module, .string q.name] 66)
          have hwr : w.heap.size ≤ wr.heap.size := hBr.size
          have hok := hqn.asked
          go_wp2
          refine wp_region_held_drew (S := fun W => LS W p s cv nm nb ∧ BoxC W B1 #[.string d.face.module, .slice a1 d.face.vars.length c1, .slice a2 d.face.procs.length c2, .slice a3 d.imports.length c3', .slice a4 d.code.length c4', .slice (some ⟨g2, o2, none⟩) d.relocs.length c5, .slice a6 d.procs.length c6, .slice a7 d.lows.length c7, .slice a8 d.highs.length c8, .int .i64 d.low, .int .i64 d.high, .int .i64 d.lowF, .int .i64 d.highF] 31 ∧ BoxC W wr.heap.size #[.int .i64 q.at', .int .i64 q.kind, .string q.module, .string q.name] 66) (by kernel_rfl) ⟨hI2.drew, hbo2.below (Below.refl _ _).drew, hbx.below (Below.refl _ _).drew⟩ (fun hS => ?_)
          replace hGz := hGz.drew
          generalize (wr.alloc (.cells #[.int .i64 q.at', .int .i64 q.kind, .string q.module, .string q.name] 66)).drew = W at hGz hS ⊢
          generalize wr.heap.size = B at *
          clear hI2 hbx hbo2
          refine tkd (i := 0) (v := .pointer (some ⟨p.K, 0, none⟩)) rfl rfl (by kernel_rfl) (by kernel_rfl) (by kernel_rfl) (fun _ _ _ h => h) (Or.inl ⟨by rfl, fun wq hSw => by skip; go_simp⟩) hS ?_
          simp only [List.setIfInBounds_toArray, List.set_cons_zero, List.set_cons_succ]
          refine tkd (i := 1) (v := .pointer (some ⟨p.K, 0, none⟩)) rfl rfl (by kernel_rfl) (by kernel_rfl) (by kernel_rfl) (fun _ _ _ h => h) (Or.inl ⟨by rfl, fun wq hSw => by skip; go_simp⟩) hS ?_
          simp only [List.setIfInBounds_toArray, List.set_cons_zero, List.set_cons_succ]
          refine tkd (i := 2) (v := .pointer (some ⟨p.K, 5, none⟩)) rfl rfl (by kernel_rfl) (by kernel_rfl) (by kernel_rfl) (fun _ _ _ h => h) (Or.inl ⟨by rfl, fun wq hSw => by skip; go_simp⟩) hS ?_
          simp only [List.setIfInBounds_toArray, List.set_cons_zero, List.set_cons_succ]
          refine tkd (i := 3) (v := .map (some p.bb)) rfl rfl (by kernel_rfl) (by kernel_rfl) (by kernel_rfl) (fun _ _ _ h => h) (Or.inl ⟨by rfl, fun wq hSw => by have m := hSw.1.be; go_simp⟩) hS ?_
          simp only [List.setIfInBounds_toArray, List.set_cons_zero, List.set_cons_succ]
          refine tkd (i := 4) (v := .agg #[.string d.face.module, .slice a1 d.face.vars.length c1, .slice a2 d.face.procs.length c2, .slice a3 d.imports.length c3', .slice a4 d.code.length c4', .slice (some ⟨g2, o2, none⟩) d.relocs.length c5, .slice a6 d.procs.length c6, .slice a7 d.lows.length c7, .slice a8 d.highs.length c8, .int .i64 d.low, .int .i64 d.high, .int .i64 d.lowF, .int .i64 d.highF] ) rfl rfl (by kernel_rfl) (by kernel_rfl) (by kernel_rfl) (fun _ _ _ h => h) (Or.inl ⟨by rfl, fun wq hSw => by have z0 := hSw.2.1.cell 0 rfl; have z1 := hSw.2.1.cell 1 rfl; have z2 := hSw.2.1.cell 2 rfl; have z3 := hSw.2.1.cell 3 rfl; have z4 := hSw.2.1.cell 4 rfl; have z5 := hSw.2.1.cell 5 rfl; have z6 := hSw.2.1.cell 6 rfl; have z7 := hSw.2.1.cell 7 rfl; have z8 := hSw.2.1.cell 8 rfl; have z9 := hSw.2.1.cell 9 rfl; have z10 := hSw.2.1.cell 10 rfl; have z11 := hSw.2.1.cell 11 rfl; have z12 := hSw.2.1.cell 12 rfl; go_simp⟩) hS ?_
          simp only [List.setIfInBounds_toArray, List.set_cons_zero, List.set_cons_succ]
          refine tkd (i := 5) (v := .agg #[.int .i64 q.at', .int .i64 q.kind, .string q.module, .string q.name] ) rfl rfl (by kernel_rfl) (by kernel_rfl) (by kernel_rfl) (fun _ _ _ h => h) (Or.inl ⟨by rfl, fun wq hSw => by have z0 := hSw.2.2.cell 0 rfl; have z1 := hSw.2.2.cell 1 rfl; have z2 := hSw.2.2.cell 2 rfl; have z3 := hSw.2.2.cell 3 rfl; go_simp⟩) hS ?_
          simp only [List.setIfInBounds_toArray, List.set_cons_zero, List.set_cons_succ]
          have hBW := hB.trans (hGz.mono hB.size)
          have hC := oAsked d ⟨.slice a1 d.face.vars.length c1, .slice a2 d.face.procs.length c2, .slice a3 d.imports.length c3', .slice a4 d.code.length c4', .slice (some ⟨g2, o2, none⟩) d.relocs.length c5, .slice a6 d.procs.length c6, .slice a7 d.lows.length c7, .slice a8 d.highs.length c8⟩ q W (hat.below hBW)
          unfold objV relV at hC
          dsimp only at hC
          refine wpAnyH_ready (rs := [6]) (by kernel_rfl) (by simp) ?_
          refine AllReadyH.cons rfl (fun K hK => ?_) AllReadyH.nil
          go_simp
          go_at_call 83
          refine hC.mono ?_
          rintro e w1 ⟨rfl, hb1⟩
          clear hC
          replace hGz := hGz.trans (hb1.mono hGz.size)
          replace hS : LS w1 p s cv nm nb ∧ BoxC w1 B1 #[.string d.face.module, .slice a1 d.face.vars.length c1, .slice a2 d.face.procs.length c2, .slice a3 d.imports.length c3', .slice a4 d.code.length c4', .slice (some ⟨g2, o2, none⟩) d.relocs.length c5, .slice a6 d.procs.length c6, .slice a7 d.lows.length c7, .slice a8 d.highs.length c8, .int .i64 d.low, .int .i64 d.high, .int .i64 d.lowF, .int .i64 d.highF] 31 ∧ BoxC w1 B #[.int .i64 q.at', .int .i64 q.kind, .string q.module, .string q.name] 66 := ⟨hS.1.below hb1, hS.2.1.below hb1, hS.2.2.below hb1⟩
          go_wp2
          refine hK.out _ _ hS (fun _ => ?_)
          clear hK K hb1 hBW
          have hlk : ∀ wq, LS wq p s cv nm nb → (Instr.lookup 90 (.map (some p.bb)) (thgV (askedF d q)) true).run Tryz.prog wq = .ok (.tuple #[.int .i64 ((s.begs (askedF d q)).getD 0), .bool (s.begs (askedF d q)).isSome]) wq := fun wq h => h.bm.run_look_ok _ hok
          generalize s.begs (askedF d q) = G at *
          refine tkd (i := 7) (v := .tuple #[.int .i64 (G.getD 0), .bool G.isSome] ) rfl rfl (by kernel_rfl) (by kernel_rfl) (by kernel_rfl) (fun _ _ _ h => h) (Or.inl ⟨by rfl, fun wq hSw => by have m := hlk wq hSw.1; go_simp⟩) hS ?_
          simp only [List.setIfInBounds_toArray, List.set_cons_zero, List.set_cons_succ]
          refine tkd (i := 8) (v := .tuple #[.int .i64 (G.getD 0), .bool G.isSome] ) rfl rfl (by kernel_rfl) (by kernel_rfl) (by kernel_rfl) (fun _ _ _ h => h) (Or.inl ⟨by rfl, fun wq hSw => by skip; go_simp⟩) hS ?_
          simp only [List.setIfInBounds_toArray, List.set_cons_zero, List.set_cons_succ]
          refine tkd (i := 9) (v := .int .i64 (G.getD 0)) rfl rfl (by kernel_rfl) (by kernel_rfl) (by kernel_rfl) (fun _ _ _ h => h) (Or.inl ⟨by rfl, fun wq hSw => by skip; go_simp⟩) hS ?_
          simp only [List.setIfInBounds_toArray, List.set_cons_zero, List.set_cons_succ]
          refine tkd (i := 10) (v := .bool G.isSome) rfl rfl (by kernel_rfl) (by kernel_rfl) (by kernel_rfl) (fun _ _ _ h => h) (Or.inl ⟨by rfl, fun wq hSw => by skip; go_simp⟩) hS ?_
          simp only [List.setIfInBounds_toArray, List.set_cons_zero, List.set_cons_succ]
          refine tkd (i := 11) (v := .int .i64 (G.getD 0)) rfl rfl (by kernel_rfl) (by kernel_rfl) (by kernel_rfl) (fun _ _ _ h => h) (Or.inl ⟨by rfl, fun wq hSw => by skip; go_simp⟩) hS ?_
          simp only [List.setIfInBounds_toArray, List.set_cons_zero, List.set_cons_succ]
          refine tkd (i := 12) (v := .bool G.isSome) rfl rfl (by kernel_rfl) (by kernel_rfl) (by kernel_rfl) (fun _ _ _ h => h) (Or.inl ⟨by rfl, fun wq hSw => by skip; go_simp⟩) hS ?_
          simp only [List.setIfInBounds_toArray, List.set_cons_zero, List.set_cons_succ]
          refine wpAnyH_done (by kernel_rfl) ?_ _
          clear hlk
          cases G with
          | none =>
            have HR : Hid (T = some ((i : Int), 4, (k : Int))) := HI.out
            clear HI
            go_wp2_with (fail)
            refine (oRefuse _ _ _ _).mono ?_
            rintro e w9 ⟨rfl, rfl⟩
            go_wp2
            exact ⟨rfl, hGz, EndT.yes HR.out⟩
          | some gv =>
            have hBW := hB.trans (hGz.mono hB.size)
            have hC := oKnows d ⟨.slice a1 d.face.vars.length c1, .slice a2 d.face.procs.length c2, .slice a3 d.imports.length c3', .slice a4 d.code.length c4', .slice (some ⟨g2, o2, none⟩) d.relocs.length c5, .slice a6 d.procs.length c6, .slice a7 d.lows.length c7, .slice a8 d.highs.length c8⟩ q w1 (hat.below hBW)
            unfold objV relV at hC
            dsimp only at hC
            have z0 := hS.2.1.cell 0 rfl
            have z1 := hS.2.1.cell 1 rfl
            have z2 := hS.2.1.cell 2 rfl
            have z3 := hS.2.1.cell 3 rfl
            have z4 := hS.2.1.cell 4 rfl
            have z5 := hS.2.1.cell 5 rfl
            have z6 := hS.2.1.cell 6 rfl
            have z7 := hS.2.1.cell 7 rfl
            have z8 := hS.2.1.cell 8 rfl
            have z9 := hS.2.1.cell 9 rfl
            have z10 := hS.2.1.cell 10 rfl
            have z11 := hS.2.1.cell 11 rfl
            have z12 := hS.2.1.cell 12 rfl
            have x0 := hS.2.2.cell 0 rfl
            have x1 := hS.2.2.cell 1 rfl
            have x2 := hS.2.2.cell 2 rfl
            have x3 := hS.2.2.cell 3 rfl
            cases hkn : knowsF d q
            · rw [hkn] at hC
              have HR : Hid (T = some ((i : Int), 4, (k : Int))) := by show _ = _; rw [HI.out]; simp [hkn]
              clear HI
              go_wp2_with (fail)
              refine hC.mono ?_
              rintro e w8 ⟨rfl, hb8⟩
              go_wp2_with (fail)
              refine (oRefuse _ _ _ _).mono ?_
              rintro e w9 ⟨rfl, rfl⟩
              go_wp2
              exact ⟨rfl, hGz.trans (hb8.mono hGz.size), EndT.yes HR.out⟩
            · rw [hkn] at hC
              have HR : Hid (T = (relO s.begs d (i : Int) ((k + 1 : Nat) : Int) (d.relocs.drop (k + 1))).or T2) := by show _ = _; rw [HI.out]; simp [hkn]
              clear HI
              go_wp2_with (fail)
              refine hC.mono ?_
              rintro e w8 ⟨rfl, hb8⟩
              have hbF := hS.2.1.below hb8
              go_wp2
              exact ⟨⟨k + 1, by omega, by go_num, hGz.trans (hb8.mono hGz.size), hbF, HR⟩, by simp [intOf]; omega⟩
        · have HN : Hid (T = T2) := by show _ = _; rw [HI.out, List.drop_eq_nil_of_le (by omega)]; rfl
          clear HI
          go_wp2
          refine ⟨⟨i + 1, by omega, by go_num, hBr, by show _ = _; rw [HN.out, hT2.out]⟩, by simp [intOf]; omega⟩
    · have HN : Hid (T = none) := by show _ = _; rw [HT.out, List.drop_eq_nil_of_le (by omega)]; rfl
      clear HT
      go_wp2
      go_end0
      exact ⟨hBr, EndT.no HN.out⟩
end Go.Proofs.YtaiocbbcjdpjgaaGreatDoor.lnk
namespace Go.Proofs.YtaiocbbcjdpjgaaGreatDoor.lnk
open Go.RowKit Go.Maps Go.WideMaps
open Go.Proofs.YtaiocbbcjdpjgaaGreatDoor.syn (isName eqS)
open Go.Proofs.YtaiocbbcjdpjgaaGreatDoor.mac (BoxC Ins grown_of_below)
open Go.Proofs.YtaiocbbcjdpjgaaGreatDoor.obj (ObjD PlcD RelD Vals ObjAt PlcsIn objV)
open Go.Proofs.YtaiocbbcjdpjgaaGreatDoor.face (VarD ProcD FaceD FaceIn keep VarsIn ProcsIn IntsIn)
set_option linter.unusedVariables false
set_option linter.unusedSimpArgs false
set_option maxRecDepth 100000
theorem eqS_lit (x : ByteArray) (l : List UInt8) : eqS x ⟨l.toArray⟩ = (x.toList == l) := by
  unfold eqS
  congr 1
  rw [ByteArray.toList_eq]
def isMainB (p : ProcD) : Bool := eqS p.name ⟨#[109, 97, 105, 110]⟩ && p.params.length == 0 && p.writes == 0 && !p.gives
set_option maxHeartbeats 1000000 in
theorem oIsMain (nm : ByteArray) (pb gv : Bool) (a : Option Addr) (n c : Nat) (wr gn : Int) (w : World) :
    Calls Tryz.prog 87 #[.agg #[.string nm, .bool pb, .slice a n c, .int .i64 wr, .bool gv, .int .i64 gn]] w fun e w' => e = .returned (.bool (eqS nm ⟨#[109, 97, 105, 110]⟩ && n == 0 && wr == 0 && !gv)) ∧ Below w.heap.size w w' := by
  have c6 : Tryz.prog.cellsOf 120 = 6 := by kernel_rfl
  have hA := (Below.refl w.heap.size w).alloc (Nat.le_refl _) (.cells #[.string nm, .bool pb, .slice a n c, .int .i64 wr, .bool gv, .int .i64 gn] 120)
  by_cases h1 : nm.toList = [109, 97, 105, 110]
  rotate_left
  · have HM : Hid (eqS nm ⟨#[109, 97, 105, 110]⟩ = false) := by show _ = _; rw [show eqS nm ⟨#[109, 97, 105, 110]⟩ = (nm.toList == [109, 97, 105, 110]) from eqS_lit nm [109, 97, 105, 110]]; simpa using h1
    go_enter Tryz.func87, Tryz.ntmps87
    go_wp2
    go_ret
    exact ⟨by rw [HM.out]; rfl, hA⟩
  · have HM : Hid (eqS nm ⟨#[109, 97, 105, 110]⟩ = true) := by show _ = _; rw [show eqS nm ⟨#[109, 97, 105, 110]⟩ = (nm.toList == [109, 97, 105, 110]) from eqS_lit nm [109, 97, 105, 110]]; simpa using h1
    by_cases h2 : n = 0
    · subst h2
      by_cases h3 : wr = 0
      · subst h3
        cases gv
        · go_enter Tryz.func87, Tryz.ntmps87
          go_wp2
          go_ret
          exact ⟨by rw [HM.out]; rfl, hA⟩
        · go_enter Tryz.func87, Tryz.ntmps87
          go_wp2
          go_ret
          exact ⟨by rw [HM.out]; rfl, hA⟩
      · have HE : Hid ((wr == 0) = false) := by show _ = _; simp [h3]
        go_enter Tryz.func87, Tryz.ntmps87
        go_wp2
        go_ret
        exact ⟨by rw [HM.out, HE.out]; rfl, hA⟩
    · have HE : Hid ((n == 0) = false) := by show _ = _; simp [h2]
      have h2' : ¬ ((n : Int) = 0) := by omega
      go_enter Tryz.func87, Tryz.ntmps87
      go_wp2
      go_ret
      exact ⟨by rw [HM.out, HE.out]; rfl, hA⟩
set_option maxHeartbeats 1000000 in
theorem oIndexP (l : List ProcD) (v : Value) (w : World) (hv : ProcsIn w v l) :
    Calls Tryz.prog 125 #[v, .func (.func 87) #[] #[]] w fun e w' => ∃ k : Int, e = .returned (.int .i64 k) ∧ decide (0 ≤ k) = l.any isMainB ∧ Below w.heap.size w w' := by
  have c6 : Tryz.prog.cellsOf 120 = 6 := by kernel_rfl
  have hl : l.length ≤ 4611686018427387903 := by obtain ⟨_, _, _, h, _⟩ := hv; exact h
  obtain ⟨ia, ic, rfl⟩ : ∃ a c, v = .slice a l.length c := by obtain ⟨a, c, e, _⟩ := hv; exact ⟨a, c, e⟩
  go_enter Tryz.func125, Tryz.ntmps125
  go_wp2
  go_loopw [8] (fun u wr => ∃ k : Nat, k ≤ l.length ∧ u = .int .i64 k ∧ Below w.heap.size w wr ∧ Hid (∀ j (hj : j < l.length), j < k → isMainB l[j] = false)) (fun u _ => l.length - (intOf u).toNat)
  case atStart => exact ⟨0, Nat.zero_le _, rfl, Below.refl _ _, fun j _ hj => by omega⟩
  case round =>
    obtain ⟨k, hkl, rfl, hBr, HN⟩ := hrel
    by_cases hlt : k < l.length
    · obtain ⟨g, o, rfl, q0, q1, ⟨u, q2, hu⟩, q3, q4, q5⟩ : ∃ g o, ia = some ⟨g, o, none⟩ ∧ wr.cell? ⟨g, o + k * 6, none⟩ = some (.string l[k].name) ∧ wr.cell? ⟨g, o + k * 6 + 1, none⟩ = some (.bool l[k].pub) ∧
    (∃ u, wr.cell? ⟨g, o + k * 6 + 2, none⟩ = some u ∧ IntsIn wr u l[k].params) ∧
    wr.cell? ⟨g, o + k * 6 + 3, none⟩ = some (.int .i64 l[k].writes) ∧ wr.cell? ⟨g, o + k * 6 + 4, none⟩ = some (.bool l[k].gives) ∧ wr.cell? ⟨g, o + k * 6 + 5, none⟩ = some (.int .i64 l[k].given) := by
        obtain ⟨a', c', e', _, hk'⟩ := hv.below hBr
        obtain ⟨g', o', e2, hc⟩ := hk' (by intro e; rw [e] at hlt; simp at hlt)
        injection e' with e1
        exact ⟨g', o', e1.trans e2, hc k hlt⟩
      obtain ⟨pa, pc, rfl, -, -⟩ := hu
      have hct := oIsMain l[k].name l[k].pub l[k].gives pa l[k].params.length pc l[k].writes l[k].given wr
      generalize hV : (eqS l[k].name ⟨#[109, 97, 105, 110]⟩ && l[k].params.length == 0 && l[k].writes == 0 && !l[k].gives) = V at hct
      cases V
      · have HE : Hid (isMainB l[k] = false) := hV
        clear hV
        generalize l[k].params.length = pn at *
        generalize l[k].name = d0 at *
        generalize l[k].pub = d1 at *
        generalize l[k].writes = d3 at *
        generalize l[k].gives = d4 at *
        generalize l[k].given = d5 at *
        go_wp2_with (go_at_call 87; refine hct.mono ?_; rintro e w2 ⟨rfl, hb2⟩)
        go_roundw
        case rel => exact ⟨k + 1, by omega, by go_num, hBr.trans (hb2.mono hBr.size), fun j hj h1 => by
          rcases Nat.lt_or_ge j k with h | h
          · exact HN.out j hj h
          · have : j = k := by omega
            subst this
            exact HE.out⟩
        case measure => simp [intOf]; omega
      · have HE : Hid (l.any isMainB = true) := any_one hlt hV
        clear hV
        generalize l[k].params.length = pn at *
        generalize l[k].name = d0 at *
        generalize l[k].pub = d1 at *
        generalize l[k].writes = d3 at *
        generalize l[k].gives = d4 at *
        generalize l[k].given = d5 at *
        go_wp2_with (go_at_call 87; refine hct.mono ?_; rintro e w2 ⟨rfl, hb2⟩)
        go_ret
        exact ⟨(k : Int), rfl, by rw [HE.out]; simp, hBr.trans (hb2.mono hBr.size)⟩
    · have HE : Hid (l.any isMainB = false) := any_none (fun j hj => HN.out j hj (by omega))
      clear HN
      go_wp2
      go_ret
      exact ⟨-1, rfl, by rw [HE.out]; rfl, hBr⟩
theorem oContainsP (l : List ProcD) (v : Value) (w : World) (hv : ProcsIn w v l) :
    Calls Tryz.prog 86 #[v, .func (.func 87) #[] #[]] w fun e w' => e = .returned (.bool (l.any isMainB)) ∧ Below w.heap.size w w' := by
  have h := oIndexP l v w hv
  obtain ⟨ia, ic, rfl⟩ : ∃ a c, v = .slice a l.length c := by obtain ⟨a, c, e, _⟩ := hv; exact ⟨a, c, e⟩
  generalize l.any isMainB = V at *
  go_enter Tryz.func86, Tryz.ntmps86
  go_wp2_with (fail)
  refine h.mono ?_
  rintro e w1 ⟨k, rfl, hi, hw⟩
  go_wp2
  go_ret
  exact ⟨by rw [← hi]; rfl, hw⟩
/-- is there no main to begin with? -/
def mainT (fb : Thg → Option Int) (f : ByteArray → Option FaceD) : Option (Int × Int × Int) :=
  if ((fb ⟨2, ⟨#[109, 97, 105, 110]⟩, ⟨#[109, 97, 105, 110]⟩⟩).isSome && ((f ⟨#[109, 97, 105, 110]⟩).map fun fd => fd.procs.any isMainB).getD false) = true then none else some (0, 4, 0)
set_option maxHeartbeats 2000000 in
theorem oTryMain {w0 w : World} {p : Pl} {s : St} {cv : Value} {nm nb : Nat} {f : ByteArray → Option FaceD} (h : LS w p s cv nm nb) (hB : Below w0.heap.size w0 w) (hf : FM w0 s.mods f) :
    Calls Tryz.prog 45 #[.pointer (some ⟨p.K, 0, none⟩)] w (ImpE w (mainT s.begs f)) := by
  have c3 : Tryz.prog.cellsOf 25 = 3 := by kernel_rfl
  have hM := oMain h
  have m4 := h.mo
  have hl := h.mm.look ⟨#[109, 97, 105, 110]⟩ (by unfold maxLen; decide)
  obtain ⟨T, hT⟩ : ∃ T, T = mainT s.begs f := ⟨_, rfl⟩
  rw [← hT]
  unfold mainT at hT
  cases hG : s.begs ⟨2, ⟨#[109, 97, 105, 110]⟩, ⟨#[109, 97, 105, 110]⟩⟩ with
  | none =>
    rw [hG] at hM hT
    have HR : Hid (T = some (0, 4, 0)) := hT
    clear hT
    go_enter Tryz.func45, Tryz.ntmps45
    go_wp2_with (fail)
    refine hM.mono ?_
    rintro e w1 ⟨rfl, rfl⟩
    go_wp2_with (fail)
    refine (oRefuse _ _ _ _).mono ?_
    rintro e w9 ⟨rfl, rfl⟩
    go_wp2
    exact ⟨rfl, Below.refl _ _, EndT.yes HR.out⟩
  | some gv =>
    rw [hG] at hM hT
    rcases hf ⟨#[109, 97, 105, 110]⟩ with ⟨hm1, hm2⟩ | ⟨v, fd, hm1, hm2, hm3⟩
    · rw [hm1] at hl
      rw [hm2] at hT
      have HR : Hid (T = some (0, 4, 0)) := hT
      have hC := oContainsP [] (.slice none 0 0) w ⟨none, 0, rfl, by simp, fun h => absurd rfl h⟩
      have hfl : ∀ w : World, (Instr.field 25 noFaceV 2).run Tryz.prog w = .ok (.slice none 0 0) w := fun _ => by kernel_rfl
      clear hT
      replace hl : (Instr.lookup 89 (.map (some p.mb)) (.string ⟨#[109, 97, 105, 110]⟩) false).run Tryz.prog w = .ok noFaceV w := hl
      go_enter Tryz.func45, Tryz.ntmps45
      go_wp2_with (fail)
      refine hM.mono ?_
      rintro e w1 ⟨rfl, rfl⟩
      go_wp2_with (fail)
      refine hC.mono ?_
      rintro e w2 ⟨rfl, hb2⟩
      go_wp2_with (fail)
      refine (oRefuse _ _ _ _).mono ?_
      rintro e w9 ⟨rfl, rfl⟩
      go_wp2
      exact ⟨rfl, hb2, EndT.yes HR.out⟩
    · obtain ⟨vv, pv, rfl, hvv, hpv⟩ := hm3
      obtain ⟨pa, pc, rfl⟩ : ∃ a c, pv = .slice a fd.procs.length c := by obtain ⟨a, c, e, _⟩ := hpv; exact ⟨a, c, e⟩
      obtain ⟨va, vc, rfl⟩ : ∃ a c, vv = .slice a fd.vars.length c := by obtain ⟨a, c, e, _⟩ := hvv; exact ⟨a, c, e⟩
      rw [hm1] at hl
      rw [hm2] at hT
      replace hl : (Instr.lookup 89 (.map (some p.mb)) (.string ⟨#[109, 97, 105, 110]⟩) false).run Tryz.prog w = .ok (.agg #[.string fd.module, .slice va fd.vars.length vc, .slice pa fd.procs.length pc]) w := hl
      have hC := oContainsP fd.procs (.slice pa fd.procs.length pc) w (hpv.below hB)
      have hfl : ∀ w : World, (Instr.field 25 (.agg #[.string fd.module, .slice va fd.vars.length vc, .slice pa fd.procs.length pc]) 2).run Tryz.prog w = .ok (.slice pa fd.procs.length pc) w := fun _ => by kernel_rfl
      cases hA : fd.procs.any isMainB
      · rw [hA] at hC
        have HR : Hid (T = some (0, 4, 0)) := by show _ = _; rw [hT]; simp [hA]
        clear hT
        go_enter Tryz.func45, Tryz.ntmps45
        go_wp2_with (fail)
        refine hM.mono ?_
        rintro e w1 ⟨rfl, rfl⟩
        go_wp2_with (fail)
        refine hC.mono ?_
        rintro e w2 ⟨rfl, hb2⟩
        go_wp2_with (fail)
        refine (oRefuse _ _ _ _).mono ?_
        rintro e w9 ⟨rfl, rfl⟩
        go_wp2
        exact ⟨rfl, hb2, EndT.yes HR.out⟩
      · rw [hA] at hC
        have HR : Hid (T = none) := by show _ = _; rw [hT]; simp [hA]
        clear hT
        go_enter Tryz.func45, Tryz.ntmps45
        go_wp2_with (fail)
        refine hM.mono ?_
        rintro e w1 ⟨rfl, rfl⟩
        go_wp2_with (fail)
        refine hC.mono ?_
        rintro e w2 ⟨rfl, hb2⟩
        go_wp2
        go_end0
        exact ⟨hb2, EndT.no HR.out⟩
end Go.Proofs.YtaiocbbcjdpjgaaGreatDoor.lnk
