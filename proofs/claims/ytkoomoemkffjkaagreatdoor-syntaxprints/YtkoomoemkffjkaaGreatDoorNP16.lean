/- What the program's list writes, once the function that it is handed does: a contract. -/
import Derived.Shelf.Strings.Cut
import Derived.Test.YtkoomoemkffjkaaGreatDoorNP05
import Derived.Maps.OwnIn
import Derived.Deep.RegionHeld
import Derived.Lib.BufferOwn
import Derived.Shelf.Strconv.Itoa4
import Derived.Shelf.Strings.OnBuilder
set_option linter.unusedVariables false
set_option linter.unusedSimpArgs false
set_option maxRecDepth 100000
namespace Go.Proofs
open Go.Shelf
def Tryz.laysCut_ren : Go.Shelf.Ren := ⟨fun | 145 => 164 | 220 => 182 | 219 => 202 | 217 => 140 | 225 => 223 | 224 => 224 | 267 => 225 | 266 => 169 | 314 => 234 | n => n, fun | 9 => 9 | 4 => 4 | 59 => 121 | 3 => 3 | 5 => 5 | 46 => 216 | 146 => 248 | 51 => 230 | n => n, fun | 1 => 1 | n => n⟩
theorem Tryz.laysCut : Go.Proofs.Lays.n145 Tryz.prog Tryz.laysCut_ren := {
  mixed := by kernel_rfl
  f145 := Tryz.func164.trans (congrArg some (by kernel_rfl))
  f217 := Tryz.func140.trans (congrArg some (by kernel_rfl))
  f219 := Tryz.func202.trans (congrArg some (by kernel_rfl))
  f220 := Tryz.func182.trans (congrArg some (by kernel_rfl))
  f224 := Tryz.func224.trans (congrArg some (by kernel_rfl))
  f225 := Tryz.func223.trans (congrArg some (by kernel_rfl))
  f266 := Tryz.func169.trans (congrArg some (by kernel_rfl))
  f267 := Tryz.func225.trans (congrArg some (by kernel_rfl))
  f314 := Tryz.func234.trans (congrArg some (by kernel_rfl))
  t3 := Tryz.underlying3
  a3 := Tryz.isAgg3
  z3 := Tryz.sizeOf3
  v3 := Tryz.zeroValue3
  t4 := Tryz.underlying4
  a4 := Tryz.isAgg4
  z4 := Tryz.sizeOf4
  v4 := Tryz.zeroValue4
  t5 := Tryz.underlying5
  a5 := Tryz.isAgg5
  z5 := Tryz.sizeOf5
  v5 := Tryz.zeroValue5
  t9 := Tryz.underlying9
  a9 := Tryz.isAgg9
  z9 := Tryz.sizeOf9
  v9 := Tryz.zeroValue9
  t46 := Tryz.underlying216
  a46 := Tryz.isAgg216
  z46 := Tryz.sizeOf216
  v46 := Tryz.zeroValue216
  t51 := Tryz.underlying230
  a51 := Tryz.isAgg230
  z51 := Tryz.sizeOf230
  v51 := Tryz.zeroValue230
  t59 := Tryz.underlying121
  a59 := Tryz.isAgg121
  z59 := Tryz.sizeOf121
  v59 := Tryz.zeroValue121
  t146 := Tryz.underlying248
  a146 := Tryz.isAgg248
  z146 := Tryz.sizeOf248
  v146 := Tryz.zeroValue248
  g1 := by kernel_rfl }
end Go.Proofs
namespace Go.Proofs.YtkoomoemkffjkaaGreatDoor.chk
open Go.RowKit
open Go.Proofs.YtkoomoemkffjkaaGreatDoor.syn Go.Proofs.YtkoomoemkffjkaaGreatDoor.face

/-- what the library's Cut leans on: one variable -/
def HasMax (w : World) : Prop := ∃ m : Int, w.cell? ⟨Tryz.laysCut_ren.g 1, 0, none⟩ = some (.int .i64 m)
theorem hasMax_below {w w' : World} (h : HasMax w) (hb : Below w.heap.size w w') : HasMax w' := by
  obtain ⟨m, h⟩ := h
  exact ⟨m, keep h hb⟩
end Go.Proofs.YtkoomoemkffjkaaGreatDoor.chk
namespace Go.Proofs.YtkoomoemkffjkaaGreatDoor.pr
open Go.RowKit Go.Shelf
open Go.Proofs.YtkoomoemkffjkaaGreatDoor.syn Go.Proofs.YtkoomoemkffjkaaGreatDoor.face Go.Proofs.YtkoomoemkffjkaaGreatDoor.chk
theorem byte_no : ∀ (l : List UInt8), (∀ c ∈ l, c ≠ 46) → Lib.indexByte l 46 = -1
  | [], _ => rfl
  | c :: r, h => by
    unfold Lib.indexByte
    rw [if_neg (by simpa using h c (List.mem_cons_self)), byte_no r (fun d hd => h d (List.mem_cons_of_mem _ hd))]
    rfl
theorem byte_at : ∀ (a b : List UInt8), (∀ c ∈ a, c ≠ 46) → Lib.indexByte (a ++ 46 :: b) 46 = a.length
  | [], b, _ => by show Lib.indexByte (46 :: b) 46 = _; unfold Lib.indexByte; rfl
  | c :: r, b, h => by
    show Lib.indexByte (c :: (r ++ 46 :: b)) 46 = _
    unfold Lib.indexByte
    rw [if_neg (by simpa using h c (List.mem_cons_self)), byte_at r b (fun d hd => h d (List.mem_cons_of_mem _ hd)), if_neg (by simp)]
    simp
theorem point_cases (l : List UInt8) : (∀ c ∈ l, c ≠ 46) ∨ ∃ a b, l = a ++ 46 :: b ∧ ∀ c ∈ a, c ≠ 46 := by
  induction l with
  | nil => exact .inl (fun c hc => by cases hc)
  | cons c r ih =>
    by_cases hc : c = 46
    · exact .inr ⟨[], r, by rw [hc]; rfl, fun d hd => by cases hd⟩
    · rcases ih with h | ⟨a, b, rfl, h⟩
      · refine .inl (fun d hd => ?_)
        rcases List.mem_cons.1 hd with rfl | hd
        · exact hc
        · exact h d hd
      · refine .inr ⟨c :: a, b, rfl, fun d hd => ?_⟩
        rcases List.mem_cons.1 hd with rfl | hd
        · exact hc
        · exact h d hd
theorem oIndex1 (x : ByteArray) (w : World) : Calls Tryz.prog 202 #[.string x, .string ⟨#[46]⟩] w fun e w' => e = .returned (.int .i64 (Lib.indexByte x.data.toList 46)) ∧ w' = w :=
  Any.stringslite_Index_one { Tryz.laysCut with } x 46 w
set_option maxHeartbeats 2000000 in
theorem oCutLite (x : ByteArray) (w : World) (hx : x.size < 4611686018427387904) : Calls Tryz.prog 182 #[.string x, .string ⟨#[46]⟩] w fun e w' => (e = .returned (match cutL x.data.toList with
    | (_, none) => .tuple #[.string x, .string ⟨#[]⟩, .bool false]
    | (a, some b) => .tuple #[.string ⟨a.toArray⟩, .string ⟨b.toArray⟩, .bool true])) ∧ Below w.heap.size w w' := by
  have hI := oIndex1 x w
  rcases point_cases x.data.toList with h | ⟨a, b, he, h⟩
  · rw [byte_no _ h] at hI
    rw [cutL_none _ h]
    clear h
    go_enter Tryz.func182, Tryz.ntmps182
    go_wp2_with (go_at_call 202; refine hI.mono ?_; rintro e w1 ⟨rfl, hw1⟩; obtain rfl := hw1.symm)
    go_ret3
    exact ⟨rfl, Below.refl _ _⟩
  · have hxs : x.size = a.length + 1 + b.length := by
      have : x.data.toList.length = x.size := lexs.len_L x
      rw [← this, he]; simp; omega
    have e1 : x.extract 0 a.length = ⟨a.toArray⟩ := by
      apply ByteArray.ext
      rw [ByteArray.data_extract]
      apply Array.toList_inj.1
      simp [he]
    have e2 : x.extract (a.length + 1) x.size = ⟨b.toArray⟩ := by
      apply ByteArray.ext
      rw [ByteArray.data_extract]
      apply Array.toList_inj.1
      rw [hxs]
      simp [he]
    rw [he, byte_at _ _ h] at hI
    rw [he, cutL_some _ _ h]
    clear h he
    have c2 : (a.length : Int) ≤ x.size := by omega
    have c4 : (a.length + 1 : Int) ≤ x.size := by omega
    go_enter Tryz.func182, Tryz.ntmps182
    go_wp2_with (go_at_call 202; refine hI.mono ?_; rintro e w1 ⟨rfl, hw1⟩; obtain rfl := hw1.symm)
    go_region
    go_wp2
    go_ret3
    refine ⟨?_, ?_⟩
    · simp
      rw [← hxs]
      exact e2
    · exact ⟨rfl, rfl, rfl, Nat.le_refl _, fun _ _ => rfl⟩
theorem oCut1 (x : ByteArray) (w : World) (hx : x.size < 4611686018427387904) : Calls Tryz.prog 164 #[.string x, .string ⟨#[46]⟩] w fun e w' => (e = .returned (match cutL x.data.toList with
    | (_, none) => .tuple #[.string x, .string ⟨#[]⟩, .bool false]
    | (a, some b) => .tuple #[.string ⟨a.toArray⟩, .string ⟨b.toArray⟩, .bool true])) ∧ Below w.heap.size w w' := by
  have hI := oCutLite x w hx
  rcases point_cases x.data.toList with h | ⟨a, b, he, h⟩
  · rw [cutL_none _ h] at hI ⊢
    clear h
    go_enter Tryz.func164, Tryz.ntmps164
    go_wp2_with (go_at_call 182; refine hI.mono ?_; rintro e w1 ⟨rfl, hw1⟩)
    go_ret3
    exact ⟨rfl, hw1⟩
  · rw [he, cutL_some _ _ h] at hI ⊢
    clear h he
    go_enter Tryz.func164, Tryz.ntmps164
    go_wp2_with (go_at_call 182; refine hI.mono ?_; rintro e w1 ⟨rfl, hw1⟩)
    go_ret3
    exact ⟨rfl, hw1⟩
end Go.Proofs.YtkoomoemkffjkaaGreatDoor.pr
namespace Go.Proofs.YtkoomoemkffjkaaGreatDoor.chk
open Go.RowKit Go.Shelf
open Go.Proofs.YtkoomoemkffjkaaGreatDoor.syn Go.Proofs.YtkoomoemkffjkaaGreatDoor.face
attribute [local go_sem] Oper.semAt_some
set_option linter.unusedVariables false
set_option linter.unusedSimpArgs false
set_option maxRecDepth 100000

/-- all that was there is as it was, but for the checker's block and the locals' row -/
structure FrU (D : Nat) (u u' : Value) (w w' : World) : Prop where
  size : w.heap.size ≤ w'.heap.size
  block : ∀ b, b < w.heap.size → b ≠ D → u.ownBlock ≠ some b → w'.heap[b]? = w.heap[b]?
  own : ∀ b, u'.ownBlock = some b → u.ownBlock = some b ∨ w.heap.size ≤ b
section
variable {D : Nat} {u u1 u2 : Value} {w w1 w2 : World}
theorem FrU.refl (D : Nat) (u : Value) (w : World) : FrU D u u w w := ⟨Nat.le_refl _, fun _ _ _ _ => rfl, fun _ e => .inl e⟩
theorem FrU.trans (h : FrU D u u1 w w1) (g : FrU D u1 u2 w1 w2) : FrU D u u2 w w2 := by
  refine ⟨Nat.le_trans h.size g.size, fun b h1 h2 h3 => ?_, fun b e => ?_⟩
  · refine (g.block b (Nat.lt_of_lt_of_le h1 h.size) h2 (fun e => ?_)).trans (h.block b h1 h2 h3)
    rcases h.own b e with h4 | h4
    · exact h3 h4
    · omega
  · rcases g.own b e with h4 | h4
    · exact h.own b h4
    · exact .inr (Nat.le_trans h.size h4)
theorem FrU.below (h : Below w.heap.size w w1) (D : Nat) (u : Value) : FrU D u u w w1 := ⟨h.size, fun b h1 _ _ => h.block b h1, fun _ e => .inl e⟩
theorem FrU.alloc (h : FrU D u u1 w w1) (o : Obj) : FrU D u u1 w (w1.alloc o) := h.trans (.below ((Below.refl _ _).alloc (Nat.le_refl _) o) D u1)
theorem FrU.cell {b o : Nat} (h : FrU D u u1 w w1) (h1 : b < w.heap.size) (h2 : b ≠ D) (h3 : u.ownBlock ≠ some b) : w1.cell? ⟨b, o, none⟩ = w.cell? ⟨b, o, none⟩ := World.cell?_of_block (a := ⟨b, o, none⟩) (h.block b h1 h2 h3)
end
/-- a box: its cells -/
def BoxC (W : World) (B : Nat) (cs : Array Value) (T : TypeId) : Prop := W.heap[B]? = some (.cells cs T (0, 0))
section
variable {W W' : World} {B D : Nat} {cs : Array Value} {T : TypeId} {u u' : Value}
theorem BoxC.lt (h : BoxC W B cs T) : B < W.heap.size := (Array.getElem?_eq_some_iff.1 h).1
theorem BoxC.new (W : World) (cs : Array Value) (T : TypeId) : BoxC (W.alloc (.cells cs T)) W.heap.size cs T := World.alloc_heap_new W _
theorem BoxC.fr (h : BoxC W B cs T) (hf : FrU D u u' W W') (h1 : B ≠ D) (h2 : u.ownBlock ≠ some B) : BoxC W' B cs T := (hf.block B h.lt h1 h2).trans h
theorem BoxC.below (h : BoxC W B cs T) (hb : Below W.heap.size W W') : BoxC W' B cs T := (hb.block B h.lt).trans h
theorem BoxC.grown {row : Option Nat} (h : BoxC W B cs T) (hg : W.grownBy W' row) (hne : row ≠ some B) : BoxC W' B cs T := (hg.block B h.lt (fun e => hne e.symm)).trans h
theorem BoxC.alloc (h : BoxC W B cs T) (o : Obj) : BoxC (W.alloc o) B cs T := h.below ((Below.refl _ _).alloc (Nat.le_refl _) o)
theorem BoxC.set (h : BoxC W B cs T) (i : Nat) (v : Value) : BoxC (W.setCell ⟨B, i, none⟩ v) B (cs.setIfInBounds i v) T := heap_setCell_same W B i cs T v h
theorem BoxC.cell (h : BoxC W B cs T) (i : Nat) {v : Value} (hv : cs[i]? = some v) : W.cell? ⟨B, i, none⟩ = some v := by
  simp [World.cell?, show W.heap[B]? = _ from h, hv]
theorem BoxC.fz (h : BoxC W B cs T) (i : Nat) : W.frozen? ⟨B, i, none⟩ = false := by
  simp [World.frozen?, show W.heap[B]? = _ from h]
end
end Go.Proofs.YtkoomoemkffjkaaGreatDoor.chk
namespace Go.Proofs.YtkoomoemkffjkaaGreatDoor.pr
open Go.RowKit Go.Shelf
open Go.Proofs.YtkoomoemkffjkaaGreatDoor.syn Go.Proofs.YtkoomoemkffjkaaGreatDoor.face Go.Proofs.YtkoomoemkffjkaaGreatDoor.chk
open Go.Proofs.YtkoomoemkffjkaaGreatDoor.lexs (HasErr)
/-- the writer: its box at r, its words in a row of its own behind it -/
structure WR (w : World) (r : Nat) (v : Value) (ws : List ByteArray) : Prop where
  box : BoxC w r #[v] 60
  row : w.ownsRow (r + 1) 9 1 v ws.length (strV ws)
section
variable {w w' : World} {r : Nat} {v v' : Value} {ws : List ByteArray}
theorem WR.lt (h : WR w r v ws) : r < w.heap.size := h.box.lt
theorem WR.below (h : WR w r v ws) (hb : Below w.heap.size w w') : WR w' r v ws := ⟨h.box.below hb, h.row.kept (grown_of_below hb) (by cases v.ownBlock <;> simp)⟩
theorem WR.alloc (h : WR w r v ws) (o : Obj) : WR (w.alloc o) r v ws := h.below ((Below.refl _ _).alloc (Nat.le_refl _) o)
theorem WR.shape (h : WR w r v ws) : ∃ a c, v = .slice a ws.length c := by
  obtain ⟨a, c, e, _⟩ := strs_own h.row
  exact ⟨a, c, e⟩
/-- words more -/
def WE (r : Nat) (w : World) (v : Value) (ws o : List ByteArray) (e : Ending) (w' : World) : Prop :=
  e = .returned (.tuple #[]) ∧ ∃ v', WR w' r v' (ws ++ o) ∧ FrU r v v' w w' ∧ Below r w w'
set_option maxHeartbeats 1000000 in
theorem oPut (h : WR w r v ws) (l : List ByteArray) (a : Addr) (c : Nat) (hl : 0 < l.length) (hn : ws.length + l.length ≤ 1000000) (hc : ∀ j u, (strV l)[j]? = some u → w.cell? (a.add j) = some u) :
    Calls Tryz.prog 63 #[.pointer (some ⟨r, 0, none⟩), .slice (some a) l.length c] w (WE r w v ws l) := by
  obtain ⟨i0, hi, hz0, hz1, hz2⟩ := info_parts infoS
  obtain ⟨va, vc, rfl⟩ := h.shape
  have m0 := h.box.cell 0 rfl
  have hlt := h.lt
  go_enter Tryz.func63, Tryz.ntmps63
  go_wp2_with (at_builtin; refine wpList_append_lies _ rfl (.tmp 8) (.tmp 9) 36 rfl (r + 1) 9 i0 (.string ⟨#[]⟩) 1 16 Tryz.underlying36 hi hz0 hz1 hz2 rfl (by decide) _ _ _ rfl h.row a l.length c (strV l) rfl (by simp [strV]) hc (by intro u hu; obtain ⟨y, _, rfl⟩ := List.mem_map.1 hu; rfl) hl (by unfold maxLen; omega) (by omega) (by omega) _ rfl ?_; intro g5 cap5 w5 hown5 hgrow5 hat5 hlt5; have hb5 := h.box.grown hgrow5 (fun e => by have := (h.row.lt _ e).1; omega); have y0 := hb5.cell 0 rfl; have y1 := hb5.fz 0)
  go_end0
  refine ⟨rfl, .slice (some ⟨g5, 0, none⟩) (ws.length + l.length) cap5, ⟨?_, ?_⟩, ?_, ((Below.refl r w).grown hgrow5 (by omega) (fun k e => by have := (h.row.lt _ e).1; omega)).setCell (Nat.le_refl r) _⟩
  · have := hb5.set 0 (.slice (some ⟨g5, 0, none⟩) (ws.length + l.length) cap5)
    simpa using this
  · have := ownsRow_setCell_other (a := ⟨r, 0, none⟩) hown5 (fun e => by have := (hown5.lt _ e).1; show False; have e2 : r + 1 ≤ r := this; omega) (.slice (some ⟨g5, 0, none⟩) (ws.length + l.length) cap5)
    rw [List.length_append, show strV (ws ++ l) = strV ws ++ strV l from List.map_append]
    exact this
  · refine ⟨?_, fun b h1 h2 h3 => ?_, fun b e => ?_⟩
    · have := hgrow5.size
      simpa using this
    · exact (Below.heap_setCell w5 ⟨r, 0, none⟩ _ b h2).trans (hgrow5.block b h1 (fun e => h3 e.symm))
    · simp [Value.ownBlock] at e
      subst e
      exact hat5.imp id (fun e => Nat.le_of_eq e.symm)
theorem strs_at (w : World) (l : List ByteArray) : ∀ j u, (strV l)[j]? = some u → (w.alloc (.cells (strV l).toArray 9)).cell? ((⟨w.heap.size, 0, none⟩ : Addr).add j) = some u := by
  have := news_new w (strV l).toArray 9 w.heap.size rfl
  simpa using this
/-- put, of words that stand in a row of their own right behind -/
theorem WE.near {r : Nat} {w : World} {v : Value} {ws o : List ByteArray} {ob : Obj} {e : Ending} {w' : World} (hr : r ≤ w.heap.size) (h : WE r (w.alloc ob) v ws o e w') : WE r w v ws o e w' := by
  obtain ⟨h1, v', h2, h3, h4⟩ := h
  exact ⟨h1, v', h2, ((FrU.refl r v w).alloc ob).trans h3, ((Below.refl r w).alloc hr ob).trans h4⟩
theorem oPut1 (h : WR w r v ws) (x : ByteArray) (hn : ws.length ≤ 900000) :
    Calls Tryz.prog 63 #[.pointer (some ⟨r, 0, none⟩), .slice (some ⟨w.heap.size, 0, none⟩) 1 1] (w.alloc (.cells #[.string x] 9)) (WE r w v ws [x]) :=
  (oPut (h.alloc _) [x] ⟨w.heap.size, 0, none⟩ 1 (by simp) (by simp; omega) (strs_at w [x])).mono fun e w' g => g.near (Nat.le_of_lt h.lt)
theorem oPutLabel (h : WR w r v ws) (m : Int) (hn : ws.length ≤ 900000) :
    Calls Tryz.prog 103 #[.pointer (some ⟨r, 0, none⟩), .int .i64 m] w (WE r w v ws [labW m]) := by
  by_cases hm : m = 1
  · subst hm
    have hc := oPut1 h ⟨#[104, 105, 103, 104]⟩ hn
    go_enter Tryz.func103, Tryz.ntmps103
    go_wp2_with (go_at_call 63; refine hc.mono ?_; rintro e w2 ⟨rfl, v2, hW, hF, hG⟩)
    go_end0
    exact ⟨rfl, v2, hW, hF, hG⟩
  · have hc := oPut1 h ⟨#[108, 111, 119]⟩ hn
    have e : labW m = ⟨#[108, 111, 119]⟩ := if_neg hm
    go_enter Tryz.func103, Tryz.ntmps103
    go_wp2_with (go_at_call 63; refine hc.mono ?_; rintro e w2 ⟨rfl, v2, hW, hF, hG⟩)
    go_end0
    exact ⟨rfl, v2, by rw [e]; exact hW, hF, hG⟩
/-- the words of a name, in a row that is new -/
def WoE (w : World) (x : ByteArray) (e : Ending) (w' : World) : Prop :=
  Below w.heap.size w w' ∧ match wordsF x with
    | none => e = .returned (.slice none 0 0)
    | some l => 0 < l.length ∧ l.length ≤ 3 ∧ ∃ g c, w.heap.size ≤ g ∧ e = .returned (.slice (some ⟨g, 0, none⟩) l.length c) ∧ ∀ j u, (strV l)[j]? = some u → w'.cell? ((⟨g, 0, none⟩ : Addr).add j) = some u
set_option maxHeartbeats 1000000 in
theorem oWords (x : ByteArray) (w : World) (hH : HasErr w) (hm : HasMax w) (hx : x.size < 4611686018427387904) :
    Calls Tryz.prog 133 #[.string x] w (WoE w x) := by
  obtain ⟨m, hm⟩ := hm
  have hC := oCut1 x w hx
  cases hcut : cutL x.data.toList with
  | mk a ob =>
    rw [hcut] at hC
    cases ob with
    | none =>
      dsimp only at hC
      have hC' : Calls Tryz.prog 164 #[.string x, .string ⟨#[46]⟩] w fun e w' => e = .returned (.tuple #[.string x, .string ⟨#[]⟩, .bool false]) ∧ Below w.heap.size w w' := hC
      clear hC
      have hN := fun W hW => oName x W hW
      cases hn : isName x with
      | false =>
        have HW : Hid (wordsF x = none) := by show _ = _; unfold wordsF; rw [hcut]; simp [hn]
        rw [hn] at hN
        go_enter Tryz.func133, Tryz.ntmps133
        go_wp2_with first
          | (go_at_call 164; refine hC'.mono ?_; rintro e w1 ⟨rfl, hb1⟩)
          | (go_at_call 42; refine (hN w1 (lexs.hasErr_below hH hb1)).mono ?_; rintro e w2 ⟨rfl, hb2⟩)
        go_ret
        unfold WoE
        rw [HW.out]
        exact ⟨hb1.trans (hb2.mono hb1.size), rfl⟩
      | true =>
        have HW : Hid (wordsF x = some [x]) := by show _ = _; unfold wordsF; rw [hcut]; simp [hn]
        rw [hn] at hN
        go_enter Tryz.func133, Tryz.ntmps133
        go_wp2_with first
          | (go_at_call 164; refine hC'.mono ?_; rintro e w1 ⟨rfl, hb1⟩)
          | (go_at_call 42; refine (hN w1 (lexs.hasErr_below hH hb1)).mono ?_; rintro e w2 ⟨rfl, hb2⟩)
        go_ret
        unfold WoE
        rw [HW.out]
        have hb3 := hb1.trans (hb2.mono hb1.size)
        exact ⟨hb3.alloc hb3.size _, by simp, by simp, w2.heap.size, 1, hb3.size, rfl, strs_at w2 [x]⟩
    | some b =>
      dsimp only at hC
      have hC' : Calls Tryz.prog 164 #[.string x, .string ⟨#[46]⟩] w fun e w' => e = .returned (.tuple #[.string ⟨a.toArray⟩, .string ⟨b.toArray⟩, .bool true]) ∧ Below w.heap.size w w' := hC
      clear hC
      have hN := fun W hW => oName ⟨a.toArray⟩ W hW
      have hM := fun W hW => oName ⟨b.toArray⟩ W hW
      cases hn : isName ⟨a.toArray⟩ with
      | false =>
        have HW : Hid (wordsF x = none) := by show _ = _; unfold wordsF; rw [hcut]; simp [hn]
        rw [hn] at hN
        clear hM
        go_enter Tryz.func133, Tryz.ntmps133
        go_wp2_with first
          | (go_at_call 164; refine hC'.mono ?_; rintro e w1 ⟨rfl, hb1⟩)
          | (go_at_call 42; refine (hN w1 (lexs.hasErr_below hH hb1)).mono ?_; rintro e w2 ⟨rfl, hb2⟩)
        go_ret
        unfold WoE
        rw [HW.out]
        exact ⟨hb1.trans (hb2.mono hb1.size), rfl⟩
      | true =>
        rw [hn] at hN
        cases hm2 : isName ⟨b.toArray⟩ with
        | false =>
          have HW : Hid (wordsF x = none) := by show _ = _; unfold wordsF; rw [hcut]; simp [hn, hm2]
          rw [hm2] at hM
          go_enter Tryz.func133, Tryz.ntmps133
          go_wp2_with first
            | (go_at_call 164; refine hC'.mono ?_; rintro e w1 ⟨rfl, hb1⟩)
            | (go_at_call 42; refine (hM w2 (lexs.hasErr_below hH (hb1.trans (hb2.mono hb1.size)))).mono ?_; rintro e w3 ⟨rfl, hb3⟩)
            | (go_at_call 42; refine (hN w1 (lexs.hasErr_below hH hb1)).mono ?_; rintro e w2 ⟨rfl, hb2⟩)
          go_ret
          unfold WoE
          rw [HW.out]
          have hb4 := hb1.trans (hb2.mono hb1.size)
          exact ⟨hb4.trans (hb3.mono hb4.size), rfl⟩
        | true =>
          have HW : Hid (wordsF x = some [⟨a.toArray⟩, ⟨#[46]⟩, ⟨b.toArray⟩]) := by show _ = _; unfold wordsF; rw [hcut]; simp [hn, hm2]
          rw [hm2] at hM
          go_enter Tryz.func133, Tryz.ntmps133
          go_wp2_with first
            | (go_at_call 164; refine hC'.mono ?_; rintro e w1 ⟨rfl, hb1⟩)
            | (go_at_call 42; refine (hM w2 (lexs.hasErr_below hH (hb1.trans (hb2.mono hb1.size)))).mono ?_; rintro e w3 ⟨rfl, hb3⟩)
            | (go_at_call 42; refine (hN w1 (lexs.hasErr_below hH hb1)).mono ?_; rintro e w2 ⟨rfl, hb2⟩)
          go_ret
          unfold WoE
          rw [HW.out]
          have hb4 := hb1.trans (hb2.mono hb1.size)
          have hb5 := hb4.trans (hb3.mono hb4.size)
          exact ⟨hb5.alloc hb5.size _, by simp, by simp, w3.heap.size, 3, hb5.size, rfl, strs_at w3 [⟨a.toArray⟩, ⟨#[46]⟩, ⟨b.toArray⟩]⟩
end
theorem oIsText (x : ByteArray) (n : Int) (hn : 0 ≤ n ∧ n ≤ 2) (w : World) (hH : HasErr w) (hm : HasMax w) (hx : x.size < 4611686018427387904) :
    Calls Tryz.prog 101 #[.string x, .int .i64 n] w fun e w' => e = .returned (.bool (textB x n)) ∧ Below w.heap.size w w' := by
  have hC := oWords x w hH hm hx
  unfold WoE at hC
  by_cases h0 : n = 0
  · subst h0
    have HT : Hid (textB x 0 = (x.size == 0)) := rfl
    have HZ : Hid (x.toList.isEmpty = (x.size == 0)) := by
      show _ = _
      rw [ByteArray.toList_eq, ← lexs.len_L]
      cases x.data.toList <;> rfl
    go_enter Tryz.func101, Tryz.ntmps101
    go_wp2
    go_ret
    exact ⟨by rw [HT.out, ← HZ.out]; rfl, Below.refl _ _⟩
  · have hnz : ¬ n = 0 := h0
    cases hw : wordsF x with
    | none =>
      rw [hw] at hC
      have HT : Hid (textB x n = false) := by show _ = _; unfold textB; rw [if_neg h0, hw]
      go_enter Tryz.func101, Tryz.ntmps101
      go_wp2_with (go_at_call 133; refine hC.mono ?_; rintro e w1 ⟨hb1, rfl⟩)
      go_ret
      exact ⟨by rw [HT.out]; rfl, hb1⟩
    | some l =>
      rw [hw] at hC
      have HT : Hid (textB x n = decide ((l.length : Int) < 2 * n)) := by show _ = _; unfold textB; rw [if_neg h0, hw]
      go_enter Tryz.func101, Tryz.ntmps101
      go_wp2_with (go_at_call 133; refine hC.mono ?_; rintro e w1 ⟨hb1, hl0, hl3, g, c, hg, rfl, -⟩)
      go_ret
      exact ⟨by rw [HT.out]; rfl, hb1⟩
set_option maxHeartbeats 1000000 in
theorem oIndexK (i : Int) (t : List Int) (v : Value) (w : World) (ht : t.length ≤ 100) (hv : IntsIn w v t) :
    Calls Tryz.prog 132 #[v, .int .i64 i] w fun e w' => ∃ k : Int, e = .returned (.int .i64 k) ∧ decide (0 ≤ k) = t.contains i ∧ w' = w := by
  obtain ⟨a, c, rfl, _, hk⟩ := hv
  go_enter Tryz.func132, Tryz.ntmps132
  go_wp2
  go_loopw [8] (fun u wr => ∃ k : Nat, k ≤ t.length ∧ u = .int .i64 k ∧ wr = w ∧ Hid (∀ j (hj : j < t.length), j < k → t[j] ≠ i)) (fun u _ => t.length - (intOf u).toNat)
  case atStart => exact ⟨0, Nat.zero_le _, rfl, rfl, fun j _ hj => by omega⟩
  case round =>
    obtain ⟨k, hkl, rfl, rfl, HN⟩ := hrel
    by_cases hlt : k < t.length
    · obtain ⟨g, o, rfl, hc⟩ := hk (by intro e; rw [e] at hlt; simp at hlt)
      have q := hc k hlt
      clear hc hk
      by_cases he : t[k] = i
      · have HE : Hid (t.contains i = true) := by
          show _ = _
          rw [List.contains_iff_mem, ← he]
          exact List.getElem_mem hlt
        rw [he] at q
        clear he
        go_wp2
        go_ret
        exact ⟨(k : Int), rfl, by rw [HE.out]; simp, rfl⟩
      · have HE : Hid (t[k] ≠ i) := he
        have he2 : ¬ (i = t[k]) := fun e => he e.symm
        clear he
        go_wp2
        go_roundw
        case rel => exact ⟨k + 1, by omega, by go_num, by trivial, fun j hj h1 => by
          rcases Nat.lt_or_ge j k with h | h
          · exact HN.out j hj h
          · have : j = k := by omega
            subst this
            exact HE.out⟩
        case measure => simp [intOf]; omega
    · have HE : Hid (t.contains i = false) := by
        show _ = _
        cases hc : t.contains i with
        | false => rfl
        | true =>
          rw [List.contains_iff_mem] at hc
          obtain ⟨j, hj, e⟩ := List.mem_iff_getElem.1 hc
          exact absurd e (HN.out j hj (by omega))
      clear HN
      go_wp2
      go_ret
      exact ⟨-1, rfl, by rw [HE.out]; rfl, rfl⟩
theorem oContainsK (i : Int) (t : List Int) (v : Value) (w : World) (ht : t.length ≤ 100) (hv : IntsIn w v t) :
    Calls Tryz.prog 100 #[v, .int .i64 i] w fun e w' => e = .returned (.bool (t.contains i)) ∧ w' = w := by
  have h := oIndexK i t v w ht hv
  obtain ⟨a, c, rfl, _, hk⟩ := hv
  generalize t.contains i = V at *
  go_enter Tryz.func100, Tryz.ntmps100
  go_wp2_with (fail)
  refine h.mono ?_
  rintro e w1 ⟨k, rfl, hi, hw⟩
  obtain rfl := hw.symm
  go_wp2
  go_ret
  exact ⟨by rw [← hi]; rfl, rfl⟩
/-- the program's table of shapes lies where its variable does -/
def HasShapes (w : World) : Prop := ∀ k : Nat, 1 ≤ k → k ≤ 21 → w.cell? ⟨0, k * 5, none⟩ = some (.int .i64 (shapeF k).1) ∧ w.cell? ⟨0, k * 5 + 1, none⟩ = some (.int .i64 (shapeF k).2.1) ∧ w.cell? ⟨0, k * 5 + 2, none⟩ = some (.int .i64 (shapeF k).2.2.1) ∧ w.cell? ⟨0, k * 5 + 3, none⟩ = some (.int .i64 (shapeF k).2.2.2.1) ∧ w.cell? ⟨0, k * 5 + 4, none⟩ = some (.int .i64 (shapeF k).2.2.2.2)
theorem hasShapes_below {w w' : World} (h : HasShapes w) (hb : Below w.heap.size w w') : HasShapes w' := fun k h1 h2 => by
  obtain ⟨a, b, c, d, e⟩ := h k h1 h2
  exact ⟨keep a hb, keep b hb, keep c hb, keep d hb, keep e hb⟩
/-- what is thrown -/
def Mis : List PanicEntry := [{ v := .iface 58 (.agg #[]), recovered := false }]
def lookK (kinds : List Int) (k : Int) (x : ByteArray) (m : Int) (n : Nat) : Bool := kinds.contains k && decide ((shapeF k).2.1 ≤ m) && decide (m ≤ (shapeF k).2.2.1) && decide ((shapeF k).2.2.2.1 ≤ n) && decide ((n : Int) ≤ (shapeF k).2.2.2.2) && textB x (shapeF k).1
def LkE (w : World) (b : Bool) (e : Ending) (w' : World) : Prop := Below w.heap.size w w' ∧ e = if b then .returned (.tuple #[]) else .panicked Mis
theorem shape_names (k : Int) : 0 ≤ (shapeF k).1 ∧ (shapeF k).1 ≤ 2 := by
  have key : ∀ (c : Prop) [Decidable c] (p q : Int × Int × Int × Int × Int), (0 ≤ p.1 ∧ p.1 ≤ 2) → (0 ≤ q.1 ∧ q.1 ≤ 2) → 0 ≤ (if c then p else q).1 ∧ (if c then p else q).1 ≤ 2 := fun c _ p q hp hq => by
    split
    · exact hp
    · exact hq
  unfold shapeF
  repeat (first | exact ⟨by decide, by decide⟩ | refine key _ _ _ ⟨by decide, by decide⟩ ?_)
set_option maxHeartbeats 2000000 in
theorem oLook (kinds : List Int) (kv : Value) (k m : Int) (x : ByteArray) (a : Option Addr) (n c : Nat) (w : World) (hS : HasShapes w) (hH : HasErr w) (hm : HasMax w) (hx : x.size < 4611686018427387904) (hn : n ≤ 4611686018427387904) (hk : IntsIn w kv kinds) (hl : kinds.length ≤ 100) (hr : ∀ i ∈ kinds, 1 ≤ i ∧ i ≤ 21) :
    Calls Tryz.prog 62 #[.agg #[.int .i64 k, .string x, .int .i64 m, .slice a n c], kv] w (LkE w (lookK kinds k x m n)) := by
  have c24 : Tryz.prog.cellsOf 24 = 4 := by kernel_rfl
  have c5 : Tryz.prog.cellsOf 156 = 5 := by kernel_rfl
  have c0 : Tryz.prog.cellsOf 58 = 0 := by kernel_rfl
  have hA := (Below.refl w.heap.size w).alloc (Nat.le_refl _) (.cells #[.int .i64 k, .string x, .int .i64 m, .slice a n c] 24)
  have hC := oContainsK k kinds kv _ hl (hk.below hA)
  obtain ⟨ka, kc, rfl⟩ : ∃ a c, kv = .slice a kinds.length c := by obtain ⟨a, c, e, _⟩ := hk; exact ⟨a, c, e⟩
  cases hc : kinds.contains k with
  | false =>
    rw [hc] at hC
    have HL : Hid (lookK kinds k x m n = false) := by show _ = _; unfold lookK; rw [hc]; simp
    go_enter Tryz.func62, Tryz.ntmps62
    go_wp2_with (go_at_call 100; refine hC.mono ?_; rintro e w1 ⟨rfl, hw1⟩; obtain rfl := hw1.symm)
    exact ⟨rfl, hA, by rw [HL.out]; rfl⟩
  | true =>
    rw [hc] at hC
    have hki := hr k (List.contains_iff_mem.1 hc)
    obtain ⟨kn, rfl⟩ : ∃ kn : Nat, k = (kn : Int) := ⟨k.toNat, by omega⟩
    obtain ⟨q0, q1, q2, q3, q4⟩ := hasShapes_below hS hA kn (by omega) (by omega)
    have hns := shape_names (kn : Int)
    have HL : Hid (lookK kinds kn x m n = (decide ((shapeF kn).2.1 ≤ m) && decide (m ≤ (shapeF kn).2.2.1) && decide ((shapeF kn).2.2.2.1 ≤ n) && decide ((n : Int) ≤ (shapeF kn).2.2.2.2) && textB x (shapeF kn).1)) := by show _ = _; unfold lookK; rw [hc, Bool.true_and]
    clear hc hr hk
    generalize lookK kinds kn x m n = LB at *
    generalize (shapeF (kn : Int)).1 = s0 at *
    generalize (shapeF (kn : Int)).2.1 = s1 at *
    generalize (shapeF (kn : Int)).2.2.1 = s2 at *
    generalize (shapeF (kn : Int)).2.2.2.1 = s3 at *
    generalize (shapeF (kn : Int)).2.2.2.2 = s4 at *
    have hB2 : Below w.heap.size w ((w.alloc (.cells #[.int .i64 kn, .string x, .int .i64 m, .slice a n c] 24)).alloc (.cells #[.int .i64 s0, .int .i64 s1, .int .i64 s2, .int .i64 s3, .int .i64 s4] 156)) := hA.alloc (by simp) _
    have hT := oIsText x s0 hns _ (lexs.hasErr_below hH hB2) (hasMax_below hm hB2) hx
    by_cases h1 : m < s1
    · have HE : Hid (LB = false) := by show _ = _; rw [HL.out, decide_eq_false (show ¬ s1 ≤ m by omega)]; rfl
      go_enter Tryz.func62, Tryz.ntmps62
      go_wp2_with (go_at_call 100; refine hC.mono ?_; rintro e w1 ⟨rfl, hw1⟩; obtain rfl := hw1.symm)
      exact ⟨rfl, hB2, by rw [HE.out]; rfl⟩
    have d1 : decide (m < s1) = false := decide_eq_false h1
    by_cases h2 : s2 < m
    · have HE : Hid (LB = false) := by show _ = _; rw [HL.out, decide_eq_false (show ¬ m ≤ s2 by omega)]; simp
      go_enter Tryz.func62, Tryz.ntmps62
      go_wp2_with (go_at_call 100; refine hC.mono ?_; rintro e w1 ⟨rfl, hw1⟩; obtain rfl := hw1.symm)
      exact ⟨rfl, hB2, by rw [HE.out]; rfl⟩
    have d2 : decide (s2 < m) = false := decide_eq_false h2
    by_cases h3 : (n : Int) < s3
    · have HE : Hid (LB = false) := by show _ = _; rw [HL.out, decide_eq_false (show ¬ s3 ≤ (n : Int) by omega)]; simp
      go_enter Tryz.func62, Tryz.ntmps62
      go_wp2_with (go_at_call 100; refine hC.mono ?_; rintro e w1 ⟨rfl, hw1⟩; obtain rfl := hw1.symm)
      exact ⟨rfl, hB2, by rw [HE.out]; rfl⟩
    have d3 : decide ((n : Int) < s3) = false := decide_eq_false h3
    by_cases h4 : s4 < (n : Int)
    · have HE : Hid (LB = false) := by show _ = _; rw [HL.out, decide_eq_false (show ¬ (n : Int) ≤ s4 by omega)]; simp
      go_enter Tryz.func62, Tryz.ntmps62
      go_wp2_with (go_at_call 100; refine hC.mono ?_; rintro e w1 ⟨rfl, hw1⟩; obtain rfl := hw1.symm)
      exact ⟨rfl, hB2, by rw [HE.out]; rfl⟩
    have d4 : decide (s4 < (n : Int)) = false := decide_eq_false h4
    have HE : Hid (LB = textB x s0) := by show _ = _; rw [HL.out, decide_eq_true (show s1 ≤ m by omega), decide_eq_true (show m ≤ s2 by omega), decide_eq_true (show s3 ≤ (n : Int) by omega), decide_eq_true (show (n : Int) ≤ s4 by omega)]; rfl
    clear HL
    generalize textB x s0 = tb at *
    cases tb
    · go_enter Tryz.func62, Tryz.ntmps62
      go_wp2_with first
        | (go_at_call 100; refine hC.mono ?_; rintro e w1 ⟨rfl, hw1⟩; obtain rfl := hw1.symm)
        | (go_at_call 101; refine hT.mono ?_; rintro e w3 ⟨rfl, hb3⟩)
      exact ⟨rfl, hB2.trans (hb3.mono hB2.size), by rw [HE.out]; rfl⟩
    · go_enter Tryz.func62, Tryz.ntmps62
      go_wp2_with first
        | (go_at_call 100; refine hC.mono ?_; rintro e w1 ⟨rfl, hw1⟩; obtain rfl := hw1.symm)
        | (go_at_call 101; refine hT.mono ?_; rintro e w3 ⟨rfl, hb3⟩)
      go_end0
      exact ⟨hB2.trans (hb3.mono hB2.size), by rw [HE.out]; rfl⟩
section
variable {w w' : World} {r : Nat} {v v' : Value} {ws : List ByteArray}
theorem oPutN (h : WR w r v ws) (l : List ByteArray) (hl : 0 < l.length) (h9 : l.length ≤ 9) (hn : ws.length ≤ 900000) :
    Calls Tryz.prog 63 #[.pointer (some ⟨r, 0, none⟩), .slice (some ⟨w.heap.size, 0, none⟩) l.length l.length] (w.alloc (.cells (strV l).toArray 9)) (WE r w v ws l) :=
  (oPut (h.alloc _) l ⟨w.heap.size, 0, none⟩ l.length hl (by omega) (strs_at w l)).mono fun e w' g => g.near (Nat.le_of_lt h.lt)
theorem oPutName (h : WR w r v ws) (x : ByteArray) (l : List ByteArray) (hx : wordsF x = some l) (hs : x.size < 4611686018427387904) (hH : HasErr w) (hm : HasMax w) (hn : ws.length ≤ 900000) :
    Calls Tryz.prog 235 #[.pointer (some ⟨r, 0, none⟩), .string x] w (WE r w v ws l) := by
  have hC := oWords x w hH hm hs
  unfold WoE at hC
  rw [hx] at hC
  go_enter Tryz.func235, Tryz.ntmps235
  go_wp2_with first
    | (go_at_call 133; refine hC.mono ?_; rintro e w1 ⟨hb1, hl0, hl3, g, c, hg, rfl, hc⟩)
    | (go_at_call 63; refine (oPut (h.below hb1) l ⟨g, 0, none⟩ c hl0 (by omega) hc).mono ?_; rintro e w2 ⟨rfl, v2, hW, hF, hG⟩)
  go_end0
  exact ⟨rfl, v2, hW, (FrU.below hb1 r v).trans hF, (hb1.mono (Nat.le_of_lt h.lt)).trans hG⟩
theorem oBinds (k m : Int) (x : ByteArray) (a : Option Addr) (n c : Nat) (w : World) (hO : HasOps w) (hm : k = 19 → 1 ≤ m ∧ m ≤ 9) :
    Calls Tryz.prog 226 #[.agg #[.int .i64 k, .string x, .int .i64 m, .slice a n c]] w fun e w' => e = .returned (.int .i64 (bindsF k m)) ∧ Below w.heap.size w w' := by
  have c24 : Tryz.prog.cellsOf 24 = 4 := by kernel_rfl
  have c171 : Tryz.prog.cellsOf 251 = 2 := by kernel_rfl
  have hA := (Below.refl w.heap.size w).alloc (Nat.le_refl _) (.cells #[.int .i64 k, .string x, .int .i64 m, .slice a n c] 24)
  by_cases h19 : k = 19
  · subst h19
    obtain ⟨mn, rfl⟩ : ∃ mn : Nat, m = (mn : Int) := ⟨m.toNat, by have := hm rfl; omega⟩
    have hmn := hm rfl
    have q : (w.alloc (.cells #[.int .i64 19, .string x, .int .i64 mn, .slice a n c] 24)).cell? ⟨5, mn * 2 + 1, none⟩ = some (.int .i64 (opIs mn)) := by
      obtain ⟨cs, t, fr, h1, h2, h3⟩ := hasOps_below hO hA
      have := (h3 mn (by omega)).2
      simp [World.cell?, h1, this]
    have HB : Hid (bindsF 19 mn = opIs mn) := by show _ = _; unfold bindsF; rw [if_pos rfl]; rfl
    clear hm
    generalize opIs mn = z at *
    go_enter Tryz.func226, Tryz.ntmps226
    go_wp2
    go_ret
    exact ⟨by rw [HB.out]; rfl, hA⟩
  · by_cases h20 : k = 20
    · subst h20
      go_enter Tryz.func226, Tryz.ntmps226
      go_wp2
      go_ret
      exact ⟨rfl, hA⟩
    · by_cases h21 : k = 21
      · subst h21
        go_enter Tryz.func226, Tryz.ntmps226
        go_wp2
        go_ret
        exact ⟨rfl, hA⟩
      · have HB : Hid (bindsF k m = 4) := by show _ = _; unfold bindsF; rw [if_neg h19, if_neg (by omega)]
        go_enter Tryz.func226, Tryz.ntmps226
        go_wp2
        go_ret
        exact ⟨by rw [HB.out]; rfl, hA⟩
end
end Go.Proofs.YtkoomoemkffjkaaGreatDoor.pr
namespace Go.Proofs
open Go.Shelf
def Tryz.laysFmt_ren : Go.Shelf.Ren := ⟨fun | 173 => 137 | 246 => 166 | 283 => 186 | 284 => 187 | 285 => 188 | 286 => 189 | 129 => 205 | 317 => 204 | 318 => 206 | 319 => 207 | 320 => 208 | 337 => 228 | 338 => 229 | n => n, fun | 2 => 2 | 3 => 3 | 9 => 9 | 4 => 4 | 171 => 207 | 0 => 0 | 53 => 208 | 37 => 63 | 5 => 5 | 173 => 211 | 212 => 229 | 51 => 230 | 20 => 20 | 213 => 231 | 46 => 216 | 232 => 253 | 233 => 254 | n => n, fun | 17 => 2 | 18 => 6 | 19 => 7 | n => n⟩
theorem Tryz.laysFmt : Go.Proofs.LaysM.n173 Tryz.prog Tryz.laysFmt_ren := {
  mixed := by kernel_rfl
  f129 := Tryz.func205.trans (congrArg some (by kernel_rfl))
  f173 := Tryz.func137.trans (congrArg some (by kernel_rfl))
  f246 := Tryz.func166.trans (congrArg some (by kernel_rfl))
  f283 := Tryz.func186.trans (congrArg some (by kernel_rfl))
  f284 := Tryz.func187.trans (congrArg some (by kernel_rfl))
  f285 := Tryz.func188.trans (congrArg some (by kernel_rfl))
  f286 := Tryz.func189.trans (congrArg some (by kernel_rfl))
  f317 := Tryz.func204.trans (congrArg some (by kernel_rfl))
  f318 := Tryz.func206.trans (congrArg some (by kernel_rfl))
  f319 := Tryz.func207.trans (congrArg some (by kernel_rfl))
  f320 := Tryz.func208.trans (congrArg some (by kernel_rfl))
  f337 := Tryz.func228.trans (congrArg some (by kernel_rfl))
  f338 := Tryz.func229.trans (congrArg some (by kernel_rfl))
  t0 := Tryz.underlying0
  a0 := Tryz.isAgg0
  z0 := Tryz.sizeOf0
  v0 := Tryz.zeroValue0
  t2 := Tryz.underlying2
  a2 := Tryz.isAgg2
  z2 := Tryz.sizeOf2
  v2 := Tryz.zeroValue2
  t3 := Tryz.underlying3
  a3 := Tryz.isAgg3
  z3 := Tryz.sizeOf3
  v3 := Tryz.zeroValue3
  t4 := Tryz.underlying4
  a4 := Tryz.isAgg4
  z4 := Tryz.sizeOf4
  v4 := Tryz.zeroValue4
  t5 := Tryz.underlying5
  a5 := Tryz.isAgg5
  z5 := Tryz.sizeOf5
  v5 := Tryz.zeroValue5
  t9 := Tryz.underlying9
  a9 := Tryz.isAgg9
  z9 := Tryz.sizeOf9
  v9 := Tryz.zeroValue9
  t20 := Tryz.underlying20
  a20 := Tryz.isAgg20
  z20 := Tryz.sizeOf20
  v20 := Tryz.zeroValue20
  t37 := Tryz.underlying63
  a37 := Tryz.isAgg63
  z37 := Tryz.sizeOf63
  v37 := Tryz.zeroValue63
  t46 := Tryz.underlying216
  a46 := Tryz.isAgg216
  z46 := Tryz.sizeOf216
  v46 := Tryz.zeroValue216
  t51 := Tryz.underlying230
  a51 := Tryz.isAgg230
  z51 := Tryz.sizeOf230
  v51 := Tryz.zeroValue230
  t53 := Tryz.underlying208
  a53 := Tryz.isAgg208
  z53 := Tryz.sizeOf208
  v53 := Tryz.zeroValue208
  t171 := Tryz.underlying207
  a171 := Tryz.isAgg207
  z171 := Tryz.sizeOf207
  v171 := Tryz.zeroValue207
  t173 := Tryz.underlying211
  a173 := Tryz.isAgg211
  z173 := Tryz.sizeOf211
  v173 := Tryz.zeroValue211
  t212 := Tryz.underlying229
  a212 := Tryz.isAgg229
  z212 := Tryz.sizeOf229
  v212 := Tryz.zeroValue229
  t213 := Tryz.underlying231
  a213 := Tryz.isAgg231
  z213 := Tryz.sizeOf231
  t232 := Tryz.underlying253
  a232 := Tryz.isAgg253
  z232 := Tryz.sizeOf253
  v232 := Tryz.zeroValue253
  t233 := Tryz.underlying254
  a233 := Tryz.isAgg254
  z233 := Tryz.sizeOf254
  v233 := Tryz.zeroValue254
  g17 := by kernel_rfl
  g18 := by kernel_rfl
  g19 := by kernel_rfl
  i0 := by kernel_rfl
  i2 := by kernel_rfl
  i3 := by kernel_rfl
  i4 := by kernel_rfl
  i5 := by kernel_rfl
  i9 := by kernel_rfl
  i20 := by kernel_rfl
  i37 := by kernel_rfl
  i46 := by kernel_rfl
  i51 := by kernel_rfl
  i53 := by kernel_rfl
  i171 := by kernel_rfl
  i173 := by kernel_rfl
  i212 := by kernel_rfl
  i232 := by kernel_rfl
  i233 := by kernel_rfl
  m17 := by kernel_rfl
  m18 := by kernel_rfl
  m19 := by kernel_rfl }
def Tryz.laysJoin_ren : Go.Shelf.Ren := ⟨fun | 156 => 12 | 165 => 27 | 166 => 28 | 169 => 29 | 240 => 65 | 241 => 66 | 276 => 105 | 277 => 106 | n => n, fun | 31 => 36 | 9 => 9 | 3 => 3 | 4 => 4 | 0 => 0 | 20 => 20 | 72 => 65 | 76 => 69 | 70 => 62 | 37 => 63 | 75 => 68 | 127 => 120 | 164 => 159 | 5 => 5 | 80 => 71 | n => n, fun | n => n⟩
theorem Tryz.laysJoin : Go.Proofs.Lays.n156 Tryz.prog Tryz.laysJoin_ren := {
  mixed := by kernel_rfl
  f156 := Tryz.func12.trans (congrArg some (by kernel_rfl))
  f165 := Tryz.func27.trans (congrArg some (by kernel_rfl))
  f166 := Tryz.func28.trans (congrArg some (by kernel_rfl))
  f169 := Tryz.func29.trans (congrArg some (by kernel_rfl))
  f240 := Tryz.func65.trans (congrArg some (by kernel_rfl))
  f241 := Tryz.func66.trans (congrArg some (by kernel_rfl))
  f276 := Tryz.func105.trans (congrArg some (by kernel_rfl))
  f277 := Tryz.func106.trans (congrArg some (by kernel_rfl))
  t0 := Tryz.underlying0
  a0 := Tryz.isAgg0
  z0 := Tryz.sizeOf0
  v0 := Tryz.zeroValue0
  t3 := Tryz.underlying3
  a3 := Tryz.isAgg3
  z3 := Tryz.sizeOf3
  v3 := Tryz.zeroValue3
  t4 := Tryz.underlying4
  a4 := Tryz.isAgg4
  z4 := Tryz.sizeOf4
  v4 := Tryz.zeroValue4
  t9 := Tryz.underlying9
  a9 := Tryz.isAgg9
  z9 := Tryz.sizeOf9
  v9 := Tryz.zeroValue9
  t20 := Tryz.underlying20
  a20 := Tryz.isAgg20
  z20 := Tryz.sizeOf20
  v20 := Tryz.zeroValue20
  t31 := Tryz.underlying36
  a31 := Tryz.isAgg36
  z31 := Tryz.sizeOf36
  v31 := Tryz.zeroValue36
  t37 := Tryz.underlying63
  a37 := Tryz.isAgg63
  z37 := Tryz.sizeOf63
  v37 := Tryz.zeroValue63
  t70 := Tryz.underlying62
  a70 := Tryz.isAgg62
  z70 := Tryz.sizeOf62
  v70 := Tryz.zeroValue62
  t72 := Tryz.underlying65
  a72 := Tryz.isAgg65
  z72 := Tryz.sizeOf65
  v72 := Tryz.zeroValue65
  t75 := Tryz.underlying68
  a75 := Tryz.isAgg68
  z75 := Tryz.sizeOf68
  v75 := Tryz.zeroValue68
  t76 := Tryz.underlying69
  a76 := Tryz.isAgg69
  z76 := Tryz.sizeOf69
  v76 := Tryz.zeroValue69
  t127 := Tryz.underlying120
  a127 := Tryz.isAgg120
  z127 := Tryz.sizeOf120
  v127 := Tryz.zeroValue120
  t164 := Tryz.underlying159
  a164 := Tryz.isAgg159
  z164 := Tryz.sizeOf159
  v164 := Tryz.zeroValue159 }
end Go.Proofs
namespace Go.Proofs.YtkoomoemkffjkaaGreatDoor.pr
open Go.RowKit Go.Shelf
open Go.Proofs.YtkoomoemkffjkaaGreatDoor.syn Go.Proofs.YtkoomoemkffjkaaGreatDoor.face Go.Proofs.YtkoomoemkffjkaaGreatDoor.chk
open Go.Proofs.YtkoomoemkffjkaaGreatDoor.lexs (HasErr)
/-- what the writing leans on: tables and variables -/
structure PH (w : World) : Prop where
  sh : HasShapes w
  ops : HasOps w
  err : HasErr w
  mx : HasMax w
  pow : Lib.TabIs Tryz.prog w "internal/strconv.uint64pow10" .u64 Lib.pow10Tab
theorem powG : Tryz.prog.globalNamed "internal/strconv.uint64pow10" = some 2 := by kernel_rfl
theorem PH.below {w w' : World} (h : PH w) (hb : Below w.heap.size w w') : PH w' := by
  refine ⟨hasShapes_below h.sh hb, hasOps_below h.ops hb, lexs.hasErr_below h.err hb, hasMax_below h.mx hb, var?_below hb powG ?_ h.pow⟩
  have := h.pow.cell powG 0 (by decide)
  exact World.block_lt_of_cell? w _ this
theorem ints_at (w : World) (l : List Int) (hl : l.length ≤ 100) : IntsIn (w.alloc (.cells (l.map (Value.int .i64)).toArray 3)) (.slice (some ⟨w.heap.size, 0, none⟩) l.length l.length) l := by
  refine ⟨_, _, rfl, by omega, fun _ => ⟨w.heap.size, 0, rfl, fun i hi => ?_⟩⟩
  have := news_new w (l.map (Value.int .i64)).toArray 3 w.heap.size rfl i (.int .i64 l[i]) (by simp [hi])
  have e : (⟨w.heap.size, 0, none⟩ : Addr).add i = ⟨w.heap.size, 0 + i, none⟩ := WideShapes.add_plain _ _ _
  rw [← e]
  exact this
section
variable {w0 w w' : World} {r : Nat} {v v' : Value} {ws : List ByteArray}
set_option maxHeartbeats 1000000 in
theorem oPutNumber (hr : w0.heap.size = r) (hP : PH w0) (hB : Below r w0 w) (h : WR w r v ws) (m : Int) (x : ByteArray) (a : Option Addr) (n c : Nat) (hlk : lookK [15] 15 x m n = true) (hx : x.size < 4611686018427387904) (hn : n ≤ 4611686018427387904) (hm : 0 ≤ m ∧ m ≤ 9223372036854775807) (hw : ws.length ≤ 900000) :
    Calls Tryz.prog 104 #[.pointer (some ⟨r, 0, none⟩), .agg #[.int .i64 15, .string x, .int .i64 m, .slice a n c]] w (WE r w v ws [numW m]) := by
  have c24 : Tryz.prog.cellsOf 24 = 4 := by kernel_rfl
  have hrl := h.lt
  have hA := (Below.refl w.heap.size w).alloc (Nat.le_refl _) (.cells #[.int .i64 15, .string x, .int .i64 m, .slice a n c] 24)
  have hA2 := hA.alloc (by simp) (.cells #[.int .i64 15] 3)
  have hPw := hP.below (hr ▸ hB)
  have hP2 := hPw.below hA2
  have hI : IntsIn ((w.alloc (.cells #[.int .i64 15, .string x, .int .i64 m, .slice a n c] 24)).alloc (.cells #[.int .i64 15] 3)) (.slice (some ⟨w.heap.size + 1, 0, none⟩) 1 1) [15] := by
    have := ints_at (w.alloc (.cells #[.int .i64 15, .string x, .int .i64 m, .slice a n c] 24)) [15] (by decide)
    simp only [List.map_cons, List.map_nil, List.length_cons, List.length_nil, World.size_alloc, Nat.zero_add] at this
    exact this
  have bN := (BoxC.new w #[.int .i64 15, .string x, .int .i64 m, .slice a n c] 24).alloc (.cells #[.int .i64 15] 3)
  have hL := oLook [15] _ 15 m x a n c _ hP2.sh hP2.err hP2.mx hx hn hI (by decide) (fun i hi => by simp at hi; omega)
  rw [hlk] at hL
  have hF : ∀ W, PH W → Calls Tryz.prog 137 #[.int .i64 m, .int .i64 10] W fun e w' => e = .returned (.string (numW m)) ∧ Below W.heap.size W w' := fun W hW =>
    (Any.strconv_FormatInt_10 Tryz.laysFmt m (by omega) (by omega) W hW.pow).mono fun e w' ⟨he, k, os, hw'⟩ => ⟨he, by rw [hw']; exact ⟨rfl, rfl, rfl, by simp [Sort.grow, World.drewN], fun j hj => by simp [Sort.grow, World.drewN, Array.getElem?_append_left hj]⟩⟩
  generalize numW m = y at hF ⊢
  clear hI hlk hP hP2 hB hr hA hx hn hm
  go_enter Tryz.func104, Tryz.ntmps104
  go_wp2_with first
    | (go_at_call 62; refine hL.mono ?_; rintro e w3 ⟨hb3, rfl⟩; have bN3 := bN.below hb3; have z2 := bN3.cell 2 rfl; have hb4 := hA2.trans (hb3.mono hA2.size))
    | (go_at_call 137; refine (hF w3 (hPw.below hb4)).mono ?_; rintro e w5 ⟨rfl, hb5⟩; have hb6 := hb4.trans (hb5.mono hb4.size))
    | (go_at_call 63; refine (oPut1 (h.below hb6) _ hw).mono ?_; rintro e w7 ⟨rfl, v2, hW, hFr, hG⟩)
  go_end0
  exact ⟨rfl, v2, hW, (FrU.below hb6 r v).trans hFr, (hb6.mono (Nat.le_of_lt h.lt)).trans hG⟩
end
theorem lies_shape {Q : Nat → Prop} {w : World} {t : Tree} {v : Value} (h : Lies Q w t v) : ∃ k x m a n c, v = .agg #[.int .i64 k, .string x, .int .i64 m, .slice a n c] := by
  match t, h with
  | .node k x m ks, h =>
    unfold Lies at h
    obtain ⟨a, c, e, _⟩ := h
    exact ⟨k, x, m, a, _, c, e⟩
/-- so deep at most, and no text is too long for a machine of today -/
def okN : Nat → Tree → Prop
  | 0, _ => False
  | f + 1, .node k x m ks => x.size < 4611686018427387904 ∧ ∀ t ∈ ks, okN f t
def WO (r : Nat) (w : World) (v : Value) (ws : List ByteArray) (o : Option (List ByteArray)) (e : Ending) (w' : World) : Prop := match o with
  | none => e = .panicked Mis ∧ Below r w w'
  | some l => WE r w v ws l e w'
/-- what a function of the writer makes of a node -/
def Wri (w0 : World) (r F : Nat) (g : Tree → Option (List ByteArray)) (Q : Tree → Prop) : Prop :=
  ∀ (t : Tree) (nv : Value), Lies (· < r) w0 t nv → Q t → ∀ (w : World) (v : Value) (ws : List ByteArray), Below r w0 w → WR w r v ws → ws.length + 10 * cntT t ≤ 800000 → Calls Tryz.prog F #[.pointer (some ⟨r, 0, none⟩), nv] w (WO r w v ws (g t))
def WriO (w0 : World) (r : Nat) (g : Int → Tree → Option (List ByteArray)) (Q : Tree → Prop) : Prop :=
  ∀ (least : Int) (t : Tree) (nv : Value), Lies (· < r) w0 t nv → Q t → ∀ (w : World) (v : Value) (ws : List ByteArray), Below r w0 w → WR w r v ws → ws.length + 10 * cntT t ≤ 800000 → Calls Tryz.prog 203 #[.pointer (some ⟨r, 0, none⟩), nv, .int .i64 least] w (WO r w v ws (g least t))
section
variable {w0 w w' : World} {r : Nat} {v v' : Value} {ws : List ByteArray}
theorem oExpr {g : Int → Tree → Option (List ByteArray)} {Q : Tree → Prop} (hO : WriO w0 r g Q) : Wri w0 r 184 (g 0) Q := by
  intro t nv hl hq w v ws hB hW hn
  have c24 : Tryz.prog.cellsOf 24 = 4 := by kernel_rfl
  obtain ⟨k, x, m, a, n, c, rfl⟩ := lies_shape hl
  have hA := (Below.refl w.heap.size w).alloc (Nat.le_refl _) (.cells #[.int .i64 k, .string x, .int .i64 m, .slice a n c] 24)
  have hC := hO 0 t _ hl hq _ v ws (hB.alloc (Nat.le_of_lt hW.lt) (.cells #[.int .i64 k, .string x, .int .i64 m, .slice a n c] 24)) (hW.alloc _) hn
  have hrl := hW.lt
  cases ho : g 0 t with
  | none =>
    rw [ho] at hC
    go_enter Tryz.func184, Tryz.ntmps184
    go_wp2_with (go_at_call 203; refine hC.mono ?_; rintro e w2 ⟨rfl, hb2⟩)
    exact ⟨rfl, rfl, (hA.mono (Nat.le_of_lt hrl)).trans hb2⟩
  | some l =>
    rw [ho] at hC
    go_enter Tryz.func184, Tryz.ntmps184
    go_wp2_with (go_at_call 203; refine hC.mono ?_; rintro e w2 ⟨rfl, v2, h2, h3, h4⟩)
    go_end0
    exact ⟨rfl, v2, h2, (FrU.below hA r v).trans h3, (hA.mono (Nat.le_of_lt hrl)).trans h4⟩
end
theorem itemsF_drop {g : Tree → Option (List ByteArray)} {ks : List Tree} {j : Nat} (h : j < ks.length) : itemsF g j (ks.drop j) = (g ks[j]).bind fun a => (itemsF g (j + 1) (ks.drop (j + 1))).bind fun b => some ((if j = 0 then [] else [⟨#[44]⟩]) ++ a ++ b) := by
  rw [List.drop_eq_getElem_cons h]
  rfl
section
variable {w0 : World} {r : Nat}
theorem cnt_at {ks : List Tree} {j : Nat} (hj : j < ks.length) : cntL (ks.take (j + 1)) = cntL (ks.take j) + cntT ks[j] := by
  rw [List.take_succ_eq_append_getElem hj]
  induction ks.take j with
  | nil => simp [cntL]
  | cons t l ih => simp only [List.cons_append, cntL] at ih ⊢; omega
theorem cntL_take (ks : List Tree) : ∀ j, cntL (ks.take j) ≤ cntL ks := by
  induction ks with
  | nil => intro j; simp
  | cons t l ih =>
    intro j
    cases j with
    | zero => have h1 := cntT_pos t; have h2 := cntL_pos l; simp only [List.take_zero, cntL]; omega
    | succ j => have := ih j; simp only [List.take_succ_cons, cntL]; omega
set_option maxHeartbeats 4000000 in
theorem oList_expr {g : Tree → Option (List ByteArray)} {Q : Tree → Prop} (hF : Wri w0 r 184 g Q) (hlen : ∀ t o, g t = some o → o.length ≤ 8 * cntT t)
    (ks : List Tree) (a : Option Addr) (c : Nat) (hl : ks.length ≤ 4611686018427387904) (hlies : ks ≠ [] → ∃ gb o, a = some ⟨gb, o, none⟩ ∧ gb < r ∧ LiesAt (· < r) w0 ks gb o) (hq : ∀ t ∈ ks, Q t)
    (hr : w0.heap.size = r) (w : World) (v : Value) (ws : List ByteArray) (hB : Below r w0 w) (hW : WR w r v ws) (hn : (ws.length : Int) + 10 * cntL ks ≤ 799998) :
    Calls Tryz.prog 134 #[.pointer (some ⟨r, 0, none⟩), .slice a ks.length c, .func (.func 184) #[.pointer (some ⟨r, 0, none⟩)] #[]] w (WO r w v ws (roundF g ks)) := by
  have c24 : Tryz.prog.cellsOf 24 = 4 := by kernel_rfl
  have hrl := hW.lt
  have hcp0 := cntL_pos ks
  have hC0 := oPut1 hW ⟨#[40]⟩ (by omega)
  go_enter Tryz.func134, Tryz.ntmps134
  go_wp2_with (go_at_call 63; refine hC0.mono ?_; rintro e w1 ⟨rfl, v1, hW1, hF1, hB1⟩)
  go_loopw [13] (fun u wr => ∃ (j : Nat) (vj : Value) (o : List ByteArray), j ≤ ks.length ∧ u = .int .i64 j ∧ WR wr r vj (ws ++ [⟨#[40]⟩] ++ o) ∧ FrU r v vj w wr ∧ Below r w wr ∧ o.length ≤ 9 * cntL (ks.take j) ∧ Hid (itemsF g 0 ks = (itemsF g j (ks.drop j)).bind fun b => some (o ++ b))) (fun u _ => ks.length - (intOf u).toNat)
  case atStart =>
    refine ⟨0, v1, [], Nat.zero_le _, rfl, by simpa using hW1, hF1, hB1, by simp [cntL], ?_⟩
    show _ = _
    rw [List.drop_zero]
    cases itemsF g 0 ks <;> rfl
  case round =>
    clear hC0 hW1 hF1 hB1
    obtain ⟨j, vj, o, hj, rfl, hWj, hFj, hBj, hol, HI⟩ := hrel
    have hct := cntL_take ks j
    have hctp := cntL_pos (ks.take j)
    by_cases hlt : j < ks.length
    · obtain ⟨gb, og, rfl, hgb, hat⟩ := hlies (by intro e; rw [e] at hlt; simp at hlt)
      obtain ⟨nv, ⟨y0, y1, y2, y3, rfl, q0, q1, q2, q3⟩, hln⟩ := hat.get j hlt
      obtain ⟨k1, x1, m1, a1, n1, c1, e1⟩ := lies_shape hln
      injection e1 with e1
      simp only [Array.mk.injEq, List.cons.injEq, and_true] at e1
      obtain ⟨rfl, rfl, rfl, rfl⟩ := e1
      have hBr := hB.trans hBj
      have hk : ∀ i u, w0.cell? ⟨gb, i, none⟩ = some u → wr.cell? ⟨gb, i, none⟩ = some u := fun i u h => by rw [hBr.cell (p := ⟨gb, i, none⟩) hgb]; exact h
      replace q0 := hk _ _ q0
      replace q1 := hk _ _ q1
      replace q2 := hk _ _ q2
      replace q3 := hk _ _ q3
      have hQj := hq _ (List.getElem_mem hlt)
      have hcn := cnt_at hlt
      have hcn2 := cntL_take ks (j + 1)
      have HX := show Hid _ from itemsF_drop (g := g) hlt
      have hA := (Below.refl wr.heap.size wr).alloc (Nat.le_refl _) (.cells #[.int .i64 k1, .string x1, .int .i64 m1, .slice a1 n1 c1] 24)
      have hrw := hWj.lt
      have hWa := hWj.alloc (.cells #[.int .i64 k1, .string x1, .int .i64 m1, .slice a1 n1 c1] 24)
      have hBa := hBr.alloc (Nat.le_of_lt hrw) (.cells #[.int .i64 k1, .string x1, .int .i64 m1, .slice a1 n1 c1] 24)
      have bN := BoxC.new wr #[.int .i64 k1, .string x1, .int .i64 m1, .slice a1 n1 c1] 24
      have hwl : (ws ++ [(⟨#[40]⟩ : ByteArray)] ++ o).length = ws.length + 1 + o.length := by simp; omega
      have HNW : Hid (wr.heap.size ≠ r ∧ vj.ownBlock ≠ some wr.heap.size) := ⟨by omega, fun e => by have := (hWj.row.lt _ e).2; omega⟩
      by_cases hj0 : j = 0
      · have hjn : ¬ 0 < j := by omega
        have hC := hF _ _ hln hQj _ _ _ hBa hWa (by omega)
        cases hg : g ks[j] with
        | none =>
          rw [hg] at hC
          have HN : Hid (roundF g ks = none) := by show _ = _; unfold roundF; rw [HI.out, HX.out, hg]; rfl
          clear hj0
          go_wp2_with (go_at_call 184; refine hC.mono ?_; rintro e w2 ⟨rfl, hb2⟩)
          refine ⟨rfl, ?_⟩
          rw [HN.out]
          exact ⟨rfl, (hBj.trans (hA.mono (Nat.le_of_lt hrw))).trans hb2⟩
        | some l1 =>
          rw [hg] at hC
          have hl1 := hlen _ _ hg
          have HI2 : Hid (itemsF g 0 ks = (itemsF g (j + 1) (ks.drop (j + 1))).bind fun b => some ((o ++ l1) ++ b)) := by
            show _ = _
            rw [HI.out, HX.out, hg, if_pos hj0]
            cases itemsF g (j + 1) (ks.drop (j + 1)) with
            | none => rfl
            | some b => simp
          clear hj0 hg
          go_wp2_with (go_at_call 184; refine hC.mono ?_; rintro e w2 ⟨rfl, v2, hW2, hF2, hb2⟩)
          go_roundw
          case rel => exact ⟨j + 1, v2, o ++ l1, by omega, by go_num, by rw [← List.append_assoc]; exact hW2, hFj.trans ((FrU.below hA r vj).trans hF2), (hBj.trans (hA.mono (Nat.le_of_lt hrw))).trans hb2, by rw [hcn, List.length_append]; push_cast; omega, HI2⟩
          case measure => simp [intOf]; omega
      · have hjn : 0 < j := by omega
        have hCp := oPut1 hWa ⟨#[44]⟩ (by rw [hwl]; omega)
        rw [World.size_alloc] at hCp
        have hCi : ∀ (W : World) (V : Value), WR W r V (ws ++ [⟨#[40]⟩] ++ o ++ [⟨#[44]⟩]) → Below r (wr.alloc (.cells #[.int .i64 k1, .string x1, .int .i64 m1, .slice a1 n1 c1] 24)) W → Calls Tryz.prog 184 #[.pointer (some ⟨r, 0, none⟩), .agg #[.int .i64 k1, .string x1, .int .i64 m1, .slice a1 n1 c1]] W (WO r W V (ws ++ [⟨#[40]⟩] ++ o ++ [⟨#[44]⟩]) (g ks[j])) := fun W V hW3 hB3 => hF _ _ hln hQj _ _ _ (hBa.trans hB3) hW3 (by rw [List.length_append, hwl]; simp only [List.length_cons, List.length_nil]; push_cast; omega)
        cases hg : g ks[j] with
        | none =>
          rw [hg] at hCi
          have HCi := show Hid _ from hCi
          clear hCi
          have HN : Hid (roundF g ks = none) := by show _ = _; unfold roundF; rw [HI.out, HX.out, hg]; rfl
          clear hj0 hg
          go_wp2_with first
            | (go_at_call 63; refine hCp.mono ?_; rintro e w3 ⟨rfl, v3, hW3, hF3, hB3⟩; have bN3 := bN.fr hF3 HNW.out.1 HNW.out.2; have z0 := bN3.cell 0 rfl; have z1 := bN3.cell 1 rfl; have z2 := bN3.cell 2 rfl; have z3 := bN3.cell 3 rfl)
            | (go_at_call 184; refine (HCi.out w3 v3 hW3 hB3).mono ?_; rintro e w2 ⟨rfl, hb2⟩)
          refine ⟨rfl, ?_⟩
          rw [HN.out]
          exact ⟨rfl, ((hBj.trans (hA.mono (Nat.le_of_lt hrw))).trans hB3).trans hb2⟩
        | some l1 =>
          rw [hg] at hCi
          have HCi := show Hid _ from hCi
          clear hCi
          have hl1 := hlen _ _ hg
          have hcp := cntT_pos ks[j]
          have HI2 : Hid (itemsF g 0 ks = (itemsF g (j + 1) (ks.drop (j + 1))).bind fun b => some ((o ++ [⟨#[44]⟩] ++ l1) ++ b)) := by
            show _ = _
            rw [HI.out, HX.out, hg, if_neg hj0]
            cases itemsF g (j + 1) (ks.drop (j + 1)) with
            | none => rfl
            | some b => simp
          clear hj0 hg
          go_wp2_with first
            | (go_at_call 63; refine hCp.mono ?_; rintro e w3 ⟨rfl, v3, hW3, hF3, hB3⟩; have bN3 := bN.fr hF3 HNW.out.1 HNW.out.2; have z0 := bN3.cell 0 rfl; have z1 := bN3.cell 1 rfl; have z2 := bN3.cell 2 rfl; have z3 := bN3.cell 3 rfl)
            | (go_at_call 184; refine (HCi.out w3 v3 hW3 hB3).mono ?_; rintro e w2 ⟨rfl, v2, hW2, hF2, hb2⟩)
          go_roundw
          case rel => exact ⟨j + 1, v2, o ++ [⟨#[44]⟩] ++ l1, by omega, by go_num, by simpa [List.append_assoc] using hW2, hFj.trans ((FrU.below hA r vj).trans (hF3.trans hF2)), ((hBj.trans (hA.mono (Nat.le_of_lt hrw))).trans hB3).trans hb2, by rw [hcn, List.length_append, List.length_append]; simp only [List.length_cons, List.length_nil]; push_cast; omega, HI2⟩
          case measure => simp [intOf]; omega
    · have hjj : j = ks.length := by omega
      have hwl : (ws ++ [(⟨#[40]⟩ : ByteArray)] ++ o).length = ws.length + 1 + o.length := by simp; omega
      have hCe := oPut1 hWj ⟨#[41]⟩ (by rw [hwl]; omega)
      have HR : Hid (roundF g ks = some ([⟨#[40]⟩] ++ o ++ [⟨#[41]⟩])) := by
        show _ = _
        unfold roundF
        rw [HI.out, hjj, List.drop_length]
        simp [itemsF]
      clear hjj
      go_wp2_with (go_at_call 63; refine hCe.mono ?_; rintro e w3 ⟨rfl, v3, hW3, hF3, hB3⟩)
      go_end0
      rw [HR.out]
      exact ⟨rfl, v3, by simpa [List.append_assoc] using hW3, hFj.trans hF3, hBj.trans hB3⟩
end
end Go.Proofs.YtkoomoemkffjkaaGreatDoor.pr
