/- What the reference's Weight, VarOf and Imports answer: contracts. What the reference's ProcOf answers: a contract. -/
import Derived.Test.YtchhpinmoagkhaaGreatDoorProg
import Derived.WalkKit
import Derived.WalkLawsBesides
import Derived.Outline
import Derived.WalkSmall
import Derived.BigQuiet
import Derived.Deep.QuietTactic
import Derived.Deep.RegionWith
import Derived.WalkSpells
import Derived.Laws.OwnMore
import Derived.Maps.AppendAt
import Derived.Test.YtchhpinmoagkhaaGreatDoorNSb
import Derived.Test.YtchhpinmoagkhaaGreatDoorNFa
import Derived.Deep.RegionLaw
import Derived.Deep.AppendLies
namespace Go.Proofs.YtchhpinmoagkhaaGreatDoor.face
open Go.RowKit
open Go.Proofs.YtchhpinmoagkhaaGreatDoor.syn
set_option linter.unusedVariables false
set_option linter.unusedSimpArgs false
set_option maxRecDepth 100000

/-- how many nodes the first ones have -/
theorem cntL_take : ∀ (ks : List Tree) (j : Nat) (h : j < ks.length), cntL (ks.take (j + 1)) = cntL (ks.take j) + cntT ks[j]
  | [], j, h => by simp at h
  | t :: r, 0, h => by simp [cntL]
  | t :: r, j + 1, h => by
    have hj : j < r.length := by simpa using h
    have := cntL_take r j hj
    show cntT t + cntL (r.take (j + 1)) = cntT t + cntL (r.take j) + cntT r[j]
    omega
theorem cntL_take_le : ∀ (ks : List Tree) (j : Nat), cntL (ks.take j) ≤ cntL ks
  | [], j => by simp
  | t :: r, 0 => by have h1 := cntL_pos (t :: r); show cntL [] ≤ _; unfold cntL; exact h1
  | t :: r, j + 1 => by
    have := cntL_take_le r j
    show cntT t + cntL (r.take j) ≤ cntT t + cntL r
    omega
theorem cntT_mem : ∀ (ks : List Tree) (j : Nat) (h : j < ks.length), cntT ks[j] ≤ cntL ks
  | [], j, h => by simp at h
  | t :: r, 0, h => by have := cntL_pos r; show cntT t ≤ cntT t + cntL r; omega
  | t :: r, j + 1, h => by
    have hj : j < r.length := by simpa using h
    have := cntT_mem r j hj
    have h2 := cntT_pos t
    show cntT r[j] ≤ cntT t + cntL r
    omega
theorem one_box4 {w w2 : World} {cs : Array Value} {T : TypeId} (hb : Below (w.alloc (.cells cs T)).heap.size (w.alloc (.cells cs T)) w2) (k : Nat) : w2.cell? ⟨w.heap.size, k, none⟩ = cs[k]? := by
  rw [hb.cell (p := ⟨w.heap.size, k, none⟩) (by simp)]
  simp
theorem below_one4 {w w2 : World} {o : Obj} (hb : Below (w.alloc o).heap.size (w.alloc o) w2) : Below w.heap.size w w2 :=
  ((Below.refl _ _).alloc (Nat.le_refl _) o).trans (hb.mono (by simp))
set_option maxHeartbeats 1000000 in
theorem rWeight (t : Tree) (v : Value) (w : World) (hv : Lies (· < w.heap.size) w t v) (hm : cntT t ≤ 1000000) :
    Calls Tryz.prog 81 #[v] w fun e w' => e = .returned (.int .i64 (cntT t)) ∧ Below w.heap.size w w' := by
  have c24 : Tryz.prog.cellsOf 24 = 4 := by kernel_rfl
  match t with
  | .node k x m ks =>
    have ih : ∀ i (hi : i < ks.length) (v : Value) (w : World), Lies (· < w.heap.size) w ks[i] v → Calls Tryz.prog 81 #[v] w fun e w' => e = .returned (.int .i64 (cntT ks[i])) ∧ Below w.heap.size w w' :=
      fun i hi v w h => rWeight ks[i] v w h (by have := cntT_mem ks i hi; unfold cntT at hm; omega)
    unfold Lies at hv
    obtain ⟨a, c, rfl, hl, hk⟩ := hv
    unfold cntT at hm ⊢
    go_enter Tryz.func81, Tryz.ntmps81
    go_wp2
    go_loopw [3, 4] (fun q t wr => ∃ j : Nat, j ≤ ks.length ∧ q = .int .i64 (cntL (ks.take j) + 1) ∧ t = .int .i64 j ∧ Below (w.alloc (.cells #[.int .i64 k, .string x, .int .i64 m, .slice a ks.length c] 24)).heap.size (w.alloc (.cells #[.int .i64 k, .string x, .int .i64 m, .slice a ks.length c] 24)) wr) (fun _ t _ => ks.length - (intOf t).toNat)
    case atStart => exact ⟨0, Nat.zero_le _, rfl, rfl, Below.refl _ _⟩
    case round =>
      obtain ⟨j, hj, rfl, rfl, hbr⟩ := hrel
      have q3 : wr.cell? ⟨w.heap.size, 3, none⟩ = some (.slice a ks.length c) := one_box4 hbr 3
      have hbw := below_one4 hbr
      by_cases hlt : j < ks.length
      · obtain ⟨g, o, rfl, hg, hat⟩ := hk (by intro e; rw [e] at hlt; simp at hlt)
        obtain ⟨x0, x1, x2, x3, c0, c1, c2, c3, hx⟩ := hat.kid hg hbw hlt
        have hC := ih j hlt _ wr hx
        have hs1 := cntL_take ks j hlt
        have hs2 := cntL_take_le ks (j + 1)
        have hs3 := cntT_pos ks[j]
        have hs4 := cntL_pos (ks.take j)
        generalize cntT ks[j] = n at hC hs1 hs3
        generalize cntL (ks.take j) = n0 at hs1 hs4
        have hw1 : wrap64 (n0 + 1 + n) = n0 + n + 1 := by unfold wrap64; omega
        go_wp2_with (go_at_call 81; refine hC.mono ?_; rintro e w1 ⟨rfl, hb1⟩)
        go_roundw
        case rel => exact ⟨j + 1, by omega, by rw [hs1]; congr 1; omega, by go_num, hbr.trans (hb1.mono hbr.size)⟩
        case measure => simp [intOf]; omega
      · rw [List.take_of_length_le (by omega)]
        go_wp2
        go_ret
        exact ⟨rfl, hbw⟩
termination_by SizeOf.sizeOf t
decreasing_by exact kid_lt hi

/-! of a variable -/
theorem num_low (p l : Bool) : (2 * bI p + bI l).tmod 2 = bI l := by cases p <;> cases l <;> decide
theorem num_pub (p l : Bool) : decide (2 ≤ (2 * bI p + bI l).tmod 4) = p := by cases p <;> cases l <;> decide
theorem bI_range (b : Bool) : 0 ≤ bI b ∧ bI b ≤ 1 := by cases b <;> decide
set_option maxHeartbeats 1000000 in
theorem rVarOf (x : ByteArray) (p l : Bool) (n : Option Int) (v : Value) (w : World) (hv : Lies (· < w.heap.size) w (Kid.var x p l n).tree v) :
    Calls Tryz.prog 82 #[v] w fun e w' => e = .returned (varV (varD x p l n)) ∧ Below w.heap.size w w' := by
  have c24 : Tryz.prog.cellsOf 24 = 4 := by kernel_rfl
  have c4 : Tryz.prog.cellsOf 45 = 4 := cell4
  have HP : Hid (decide (2 ≤ (2 * bI p + bI l).tmod 4) = p) := num_pub p l
  have HL : Hid ((2 * bI p + bI l).tmod 2 = bI l) := num_low p l
  cases n with
  | none =>
    unfold Kid.tree Lies at hv
    obtain ⟨a, c, rfl, hl, hk⟩ := hv
    clear hk
    unfold varV varD
    generalize 2 * bI p + bI l = m at HP HL
    go_enter Tryz.func82, Tryz.ntmps82
    go_wp2
    refine bodyPost_ret (v := .agg #[.string x, .bool (decide (2 ≤ m.tmod 4)), .int .i64 (m.tmod 2), .int .i64 0]) (by simp [results, Tryz.results82, go_sem]) rfl ⟨by rw [HP.out, HL.out]; rfl, ?_⟩
    exact Joins.below_alloc3 _ _ _ _
  | some n =>
    unfold Kid.tree Lies at hv
    obtain ⟨a, c, rfl, hl, hk⟩ := hv
    obtain ⟨g, o, rfl, hg, hat⟩ := hk (by simp)
    obtain ⟨⟨v1, ⟨x0, x1, x2, x3, rfl, c0, c1, c2, c3⟩, hv1⟩, _⟩ := hat
    unfold Lies at hv1
    obtain ⟨a1, d1, e1, _, _⟩ := hv1
    cases e1
    unfold varV varD
    generalize 2 * bI p + bI l = m at HP HL
    have r2 := fun ob => cell_new c2 ob
    have r2' := fun ob ob' => cell_new (cell_new c2 ob) ob'
    have r2'' := fun ob ob' ob'' => cell_new (cell_new (cell_new c2 ob) ob') ob''
    have hgn : g < w.heap.size := hg
    go_enter Tryz.func82, Tryz.ntmps82
    go_wp2
    refine bodyPost_ret (v := .agg #[.string x, .bool (decide (2 ≤ m.tmod 4)), .int .i64 (m.tmod 2), .int .i64 n]) (by simp [results, Tryz.results82, go_sem]) rfl ⟨by rw [HP.out, HL.out]; rfl, ?_⟩
    exact Joins.below_alloc3 _ _ _ _
/-! kids of a module -/
def Kid.kind : Kid → Int
  | .imp _ => 2
  | .var _ _ _ _ => 3
  | .proc _ _ _ _ _ _ => 4
def Kid.text : Kid → ByteArray
  | .imp x => x
  | .var x _ _ _ => x
  | .proc x _ _ _ _ _ => x
def Kid.num : Kid → Int
  | .imp _ => 0
  | .var _ p l _ => 2 * bI p + bI l
  | .proc _ p l g _ _ => 2 * bI p + bI l + gI g
def Kid.kids : Kid → List Tree
  | .imp _ => []
  | .var _ _ _ none => []
  | .var _ _ _ (some n) => [.node 15 empty n []]
  | .proc _ _ _ _ ps b => ps.map parT ++ [b]
theorem Kid.tree_is (k : Kid) : k.tree = .node k.kind k.text k.num k.kids := by
  cases k with
  | imp x => rfl
  | var x p l n => cases n <;> rfl
  | proc x p l g ps b => rfl
theorem kid_cells {w wr : World} {K : List Kid} {g o : Nat} (hg : g < w.heap.size) (hat : LiesAt (· < w.heap.size) w (K.map Kid.tree) g o) (hb : Below w.heap.size w wr) {j : Nat} (hj : j < K.length) :
    ∃ a c, wr.cell? ⟨g, o + j * 4, none⟩ = some (.int .i64 K[j].kind) ∧ wr.cell? ⟨g, o + j * 4 + 1, none⟩ = some (.string K[j].text) ∧ wr.cell? ⟨g, o + j * 4 + 2, none⟩ = some (.int .i64 K[j].num) ∧ wr.cell? ⟨g, o + j * 4 + 3, none⟩ = some (.slice a K[j].kids.length c) ∧
      Lies (· < wr.heap.size) wr K[j].tree (.agg #[.int .i64 K[j].kind, .string K[j].text, .int .i64 K[j].num, .slice a K[j].kids.length c]) := by
  obtain ⟨x0, x1, x2, x3, c0, c1, c2, c3, hl⟩ := hat.kid hg hb (j := j) (by simpa using hj)
  rw [List.getElem_map] at hl
  have hl2 := hl
  rw [Kid.tree_is] at hl2
  unfold Lies at hl2
  obtain ⟨a, c, e, _, _⟩ := hl2
  cases e
  exact ⟨a, c, c0, c1, c2, c3, hl⟩
def strV (l : List ByteArray) : List Value := l.map Value.string
theorem strV_snoc (l : List ByteArray) (y : ByteArray) : strV (l ++ [y]) = strV l ++ [.string y] := by simp [strV]
theorem infoS : (Tryz.prog.info? 9).map (fun i => (i.zero, i.size, i.bytes)) = some (some (.string ⟨#[]⟩), 1, 16) := by kernel_rfl
theorem one_string (y : ByteArray) : ∀ u ∈ [Value.string y], u.oneCell' = true := by intro u hu; simp at hu; rw [hu]; rfl
theorem cell_one {w : World} (y : Value) (T : TypeId) (n : Nat) (hn : n = w.heap.size) : ∀ j u, [y][j]? = some u → (w.alloc (.cells #[y] T)).cell? ((⟨n, 0, none⟩ : Addr).add j) = some u := by
  subst hn
  exact cell_one_new w y T
theorem take_succ_kid (K : List Kid) (j : Nat) (h : j < K.length) : K.take (j + 1) = K.take j ++ [K[j]] := by
  rw [List.take_add_one, List.getElem?_eq_getElem h]; rfl
theorem importsK_one (k : Kid) : importsK [k] = if k.kind = 2 then [k.text] else [] := by cases k <;> simp [importsK, Kid.kind, Kid.text]
theorem importsK_len : ∀ K : List Kid, (importsK K).length ≤ K.length
  | [] => Nat.le_refl _
  | .imp x :: r => by have := importsK_len r; show (importsK r).length + 1 ≤ r.length + 1; omega
  | .var _ _ _ _ :: r => by have := importsK_len r; show (importsK r).length ≤ r.length + 1; omega
  | .proc _ _ _ _ _ _ :: r => by have := importsK_len r; show (importsK r).length ≤ r.length + 1; omega
/-- the box of the module's node -/
abbrev modV (m : ByteArray) (a : Option Addr) (n c : Nat) : Array Value := #[.int .i64 1, .string m, .int .i64 0, .slice a n c]
set_option maxHeartbeats 2000000 in
theorem rImports (m : ByteArray) (K : List Kid) (v : Value) (w : World) (hv : Lies (· < w.heap.size) w (.node 1 m 0 (K.map Kid.tree)) v) (hK : K.length ≤ 1000) :
    Calls Tryz.prog 35 #[v] w fun e w' => ∃ u, e = .returned u ∧ w'.ownsRow (w.heap.size + 1) 9 1 u (importsK K).length (strV (importsK K)) ∧ Below w.heap.size w w' := by
  have c24 : Tryz.prog.cellsOf 24 = 4 := by kernel_rfl
  obtain ⟨i0, hi, hz0, hz1, hz2⟩ := info_parts infoS
  unfold Lies at hv
  obtain ⟨a, c, rfl, hl, hk⟩ := hv
  rw [List.length_map] at hl ⊢
  go_enter Tryz.func35, Tryz.ntmps35
  go_wp2
  go_loopw [3, 4] (fun u t wr => ∃ j : Nat, j ≤ K.length ∧ t = .int .i64 j ∧ wr.ownsRow (w.heap.size + 1) 9 1 u (importsK (K.take j)).length (strV (importsK (K.take j))) ∧ Below w.heap.size w wr ∧ w.heap.size + 1 ≤ wr.heap.size ∧ wr.cell? ⟨w.heap.size, 3, none⟩ = some (.slice a K.length c)) (fun _ t _ => K.length - (intOf t).toNat)
  case atStart => exact ⟨0, Nat.zero_le _, rfl, World.ownsRow_nil _ _ _ _, (Below.refl _ _).alloc (Nat.le_refl _) _, by simp, by simp⟩
  case round =>
    obtain ⟨j, hj, rfl, hown, hbw, hlt1, q3⟩ := hrel
    by_cases hlt : j < K.length
    · obtain ⟨g, o, rfl, hg, hat⟩ := hk (by intro e; have := congrArg List.length e; simp at this; rw [this] at hlt; simp at hlt)
      obtain ⟨ak, ck, k0, k1, k2, k3, _⟩ := kid_cells hg hat hbw hlt
      have hil := importsK_len (K.take j)
      rw [List.length_take] at hil
      have hT := take_succ_kid K j hlt
      have hone := importsK_one K[j]
      by_cases h2 : K[j].kind = 2
      · rw [if_pos h2] at hone
        have HI : Hid (importsK (K.take (j + 1)) = importsK (K.take j) ++ [K[j].text]) := by show _ = _; rw [hT, importsK_append, hone]
        rw [h2] at k0
        clear hone hT h2 hat hk
        generalize K[j].text = y at k1 HI
        generalize importsK (K.take j) = L at HI hown hil
        go_wp2_with first
          | (at_builtin; refine wpList_append_own _ rfl (.tmp 19) (.tmp 26) 39 rfl (w.heap.size + 1) 9 i0 (.string ⟨#[]⟩) 1 16 Tryz.underlying39 hi hz0 hz1 hz2 rfl (by decide) _ _ _ rfl (hown.alloc _) ⟨wr.heap.size, 0, none⟩ 1 1 [.string y] rfl rfl (cell_one _ _ _ (by simp)) (one_string _) (by unfold maxLen; omega) (by omega) (by simp; omega) ?_; intro v' w5 hown5 hgrow5 hnil5)
          | go_in
        go_roundw
        case rel =>
          refine ⟨j + 1, by omega, by go_num, ?_, ?_, ?_, ?_⟩
          · rw [HI.out, List.length_append, strV_snoc]; exact hown5
          · exact (hbw.alloc hbw.size _).grown hgrow5 (by have := hbw.size; simp; omega) (fun k hk => by have := (hown.lt _ hk).1; omega)
          · have := hgrow5.size; simp at this; omega
          · have hb := hgrow5.block w.heap.size (by simp; omega) (fun e => by have := (hown.lt _ e.symm).1; omega)
            have q3' := cell_new q3 (.cells #[.string y] 9)
            rw [World.cell?_of_block (a := ⟨w.heap.size, 3, none⟩) hb]
            exact q3'
        case measure => simp [intOf]; omega
      · rw [if_neg h2] at hone
        have HI : Hid (importsK (K.take (j + 1)) = importsK (K.take j)) := by show _ = _; rw [hT, importsK_append, hone, List.append_nil]
        have h2' : (K[j].kind == 2) = false := beq_false_of_ne h2
        clear hone hT hat hk
        generalize K[j].kind = kk at k0 h2 h2'
        go_wp2
        go_roundw
        case rel => exact ⟨j + 1, by omega, by go_num, by rw [HI.out]; exact hown, hbw, hlt1, q3⟩
        case measure => simp [intOf]; omega
    · rw [List.take_of_length_le (by omega)] at hown
      go_wp2
      go_ret
      exact ⟨_, rfl, hown, hbw⟩
end Go.Proofs.YtchhpinmoagkhaaGreatDoor.face
namespace Go.Proofs.YtchhpinmoagkhaaGreatDoor.face
open Go.RowKit
open Go.Proofs.YtchhpinmoagkhaaGreatDoor.syn
set_option linter.unusedVariables false
set_option linter.unusedSimpArgs false
set_option maxRecDepth 100000

theorem num3_low (p l : Bool) (g : Option Bool) : (2 * bI p + bI l + gI g).tmod 2 = bI l := by cases p <;> cases l <;> rcases g with _ | _ | _ <;> decide
theorem num3_pub (p l : Bool) (g : Option Bool) : decide (2 ≤ (2 * bI p + bI l + gI g).tmod 4) = p := by cases p <;> cases l <;> rcases g with _ | _ | _ <;> decide
theorem num3_gives (p l : Bool) (g : Option Bool) : decide (4 ≤ 2 * bI p + bI l + gI g) = g.isSome := by cases p <;> cases l <;> rcases g with _ | _ | _ <;> decide
theorem num3_given (p l : Bool) (g : Option Bool) : wrap64 ((2 * bI p + bI l + gI g).tdiv 8) = bI (g.getD false) := by cases p <;> cases l <;> rcases g with _ | _ | _ <;> decide +kernel
def intV (l : List Int) : List Value := l.map (Value.int .i64)
theorem intV_snoc (l : List Int) (y : Int) : intV (l ++ [y]) = intV l ++ [.int .i64 y] := by simp [intV]
theorem infoI : (Tryz.prog.info? 3).map (fun i => (i.zero, i.size, i.bytes)) = some (some (.int .i64 0), 1, 8) := by kernel_rfl
theorem one_int (y : Int) : ∀ u ∈ [Value.int .i64 y], u.oneCell' = true := by intro u hu; simp at hu; rw [hu]; rfl
/-- the parameters' cells -/
theorem par_cells {w wr : World} {ps : List (ByteArray × Bool)} {b : Tree} {g o : Nat} (hg : g < w.heap.size) (hat : LiesAt (· < w.heap.size) w (ps.map parT ++ [b]) g o) (hb : Below w.heap.size w wr) {j : Nat} (hj : j < ps.length) :
    wr.cell? ⟨g, o + j * 4, none⟩ = some (.int .i64 5) ∧ wr.cell? ⟨g, o + j * 4 + 1, none⟩ = some (.string ps[j].1) ∧ wr.cell? ⟨g, o + j * 4 + 2, none⟩ = some (.int .i64 (bI ps[j].2)) := by
  obtain ⟨x0, x1, x2, x3, c0, c1, c2, c3, hl⟩ := hat.kid hg hb (j := j) (by simp; omega)
  rw [List.getElem_append_left (by simpa using hj), List.getElem_map] at hl
  unfold parT Lies at hl
  obtain ⟨a, c, e, _, _⟩ := hl
  cases e
  exact ⟨c0, c1, c2⟩
theorem take_par (ps : List (ByteArray × Bool)) (j : Nat) (h : j < ps.length) : ((ps.take (j + 1)).map fun q => bI q.2) = ((ps.take j).map fun q => bI q.2) ++ [bI ps[j].2] := by
  rw [List.take_add_one, List.map_append, List.getElem?_eq_getElem h]; rfl
set_option maxHeartbeats 2000000 in
theorem rProcOf (x : ByteArray) (p l : Bool) (gv : Option Bool) (ps : List (ByteArray × Bool)) (b : Tree) (v : Value) (w : World) (hv : Lies (· < w.heap.size) w (Kid.proc x p l gv ps b).tree v) (hP : ps.length ≤ 1000) :
    Calls Tryz.prog 83 #[v] w fun e w' => ∃ u, e = .returned (procV (procD x p l gv ps) u) ∧ w'.ownsRow w.heap.size 3 1 u ps.length (intV (ps.map fun q => bI q.2)) ∧ Below w.heap.size w w' := by
  have c24 : Tryz.prog.cellsOf 24 = 4 := by kernel_rfl
  have c6 : Tryz.prog.cellsOf 70 = 6 := cell6
  have c1 : Tryz.prog.cellsOf 3 = 1 := cell1i
  obtain ⟨i0, hi, hz0, hz1, hz2⟩ := info_parts infoI
  have H1 : Hid ((2 * bI p + bI l + gI gv).tmod 2 = bI l) := num3_low p l gv
  have H2 : Hid (decide (2 ≤ (2 * bI p + bI l + gI gv).tmod 4) = p) := num3_pub p l gv
  have H3 : Hid (decide (4 ≤ 2 * bI p + bI l + gI gv) = gv.isSome) := num3_gives p l gv
  have H4 : Hid (wrap64 ((2 * bI p + bI l + gI gv).tdiv 8) = bI (gv.getD false)) := num3_given p l gv
  unfold Kid.tree Lies at hv
  obtain ⟨a, c, rfl, hl, hk⟩ := hv
  obtain ⟨g, o, rfl, hg, hat⟩ := hk (by simp)
  clear hk
  have hlen : (ps.map parT ++ [b]).length = ps.length + 1 := by simp
  rw [hlen] at hl ⊢
  obtain ⟨n1, hn1⟩ : ∃ n1, n1 = ps.length + 1 := ⟨_, rfl⟩
  rw [← hn1] at hl ⊢
  have HN1 : Hid (n1 = ps.length + 1) := hn1
  clear hn1 hlen
  unfold procV procD
  generalize 2 * bI p + bI l + gI gv = m at H1 H2 H3 H4
  go_enter Tryz.func83, Tryz.ntmps83
  go_wp2
  have B1 := (Box6.new (w.alloc (.cells #[.int .i64 4, .string x, .int .i64 m, .slice (some ⟨g, o, none⟩) n1 c] 24)) (.string ⟨#[]⟩) (.bool false) (.slice none 0 0) (.int .i64 0) (.bool false) (.int .i64 0) 70).alloc (.cells #[.string x, .bool (decide (2 ≤ m.tmod 4)), .slice none 0 0, .int .i64 (m.tmod 2), .bool (decide (4 ≤ m)), .int .i64 (wrap64 (m.tdiv 8))] 70)
  have B2 := Box6.new ((w.alloc (.cells #[.int .i64 4, .string x, .int .i64 m, .slice (some ⟨g, o, none⟩) n1 c] 24)).alloc (.cells #[.string ⟨#[]⟩, .bool false, .slice none 0 0, .int .i64 0, .bool false, .int .i64 0] 70)) (.string x) (.bool (decide (2 ≤ m.tmod 4))) (.slice none 0 0) (.int .i64 (m.tmod 2)) (.bool (decide (4 ≤ m))) (.int .i64 (wrap64 (m.tdiv 8))) 70
  rw [World.size_alloc] at B1
  rw [World.size_alloc, World.size_alloc] at B2
  have B0 : (w.alloc (.cells #[.int .i64 4, .string x, .int .i64 m, .slice (some ⟨g, o, none⟩) n1 c] 24)).cell? ⟨w.heap.size, 3, none⟩ = some (.slice (some ⟨g, o, none⟩) n1 c) := by simp
  go_loopw [4] (fun t wr => ∃ (j : Nat) (u : Value), j ≤ ps.length ∧ t = .int .i64 j ∧ wr.ownsRow (w.heap.size + 3) 3 1 u j (intV ((ps.take j).map fun q => bI q.2)) ∧ Below w.heap.size w wr ∧ wr.cell? ⟨w.heap.size, 3, none⟩ = some (.slice (some ⟨g, o, none⟩) n1 c) ∧
      Box6 wr (w.heap.size + 1) (.string ⟨#[]⟩) (.bool false) (.slice none 0 0) (.int .i64 0) (.bool false) (.int .i64 0) ∧ Box6 wr (w.heap.size + 1 + 1) (.string x) (.bool (decide (2 ≤ m.tmod 4))) u (.int .i64 (m.tmod 2)) (.bool (decide (4 ≤ m))) (.int .i64 (wrap64 (m.tdiv 8)))) (fun t _ => ps.length - (intOf t).toNat)
  case atStart => exact ⟨0, .slice none 0 0, Nat.zero_le _, rfl, World.ownsRow_nil _ _ _ _, Joins.below_alloc3 _ _ _ _, cell_new (cell_new B0 _) _, B1, B2⟩
  case round =>
    clear B0 B1 B2
    obtain ⟨j, u, hj, rfl, hown, hbw, q3, b1, b2⟩ := hrel
    have hs2 := b2.lt
    obtain ⟨a0, a1, a2, a3, a4, a5, f0, f1, f2, f3, f4, f5⟩ := id b2
    obtain ⟨an, cn, rfl, _, _⟩ := lexs.own_shape hown
    by_cases hlt : j < ps.length
    · obtain ⟨k0, k1, k2⟩ := par_cells hg hat hbw hlt
      have HT : Hid (((ps.take (j + 1)).map fun q => bI q.2) = ((ps.take j).map fun q => bI q.2) ++ [bI ps[j].2]) := take_par ps j hlt
      have hj1 : j < n1 := by have := HN1.out; omega
      have hj2 : j + 1 < n1 := by have := HN1.out; omega
      have hn1 : n1 ≤ 1001 := by have := HN1.out; omega
      clear k0 k1
      generalize bI ps[j].2 = y at k2 HT
      generalize ((ps.take j).map fun q => bI q.2) = L at hown HT
      clear hat
      go_wp2
      go_region_law (refine step_append_lies _ (by rfl) (.tmp 30) (.tmp 37) 68 (by rfl) (w.heap.size + 3) 3 i0 (.int .i64 0) 1 8 Tryz.underlying68 hi hz0 hz1 hz2 rfl (by decide) (.slice an j cn) j (intV L) (by simp [Act.eval, Act.put]) (World.ownsRow.alloc (w := wr.drew) hown _) ⟨wr.heap.size, 0, none⟩ 1 1 [.int .i64 y] (by simp [Act.eval, Act.put]) rfl (cell_one _ _ _ (by simp)) (one_int _) (by omega) (by unfold maxLen; omega) (by omega) (by simp; omega) (wr.heap.size + 1) (by simp) ?_; intro g5 cap5 w5 hown5 hgrow5 hat5 hlt5; have b25 := (b2.drew.alloc (.cells #[.int .i64 y] 3)).grown hgrow5 (fun e => by have := (hown.lt _ e).1; omega); obtain ⟨e0, e1, e2, e3, e4, e5, d0, d1, d2, d3, d4, d5⟩ := id b25)
      all_goals
        go_wp2
        go_roundw
        case rel =>
          refine ⟨j + 1, .slice (some ⟨g5, 0, none⟩) (j + 1) cap5, by omega, by go_num, ?_, ?_, ?_, ?_, b25.set2 _⟩
          · rw [HT.out, intV_snoc]
            exact ownsRow_setCell_other hown5 (by
              show some g5 ≠ _
              rcases hat5 with e | e
              · have := (hown.lt _ e).1; simp; omega
              · simp; omega) _
          · refine Below.setCell ?_ (by show w.heap.size ≤ w.heap.size + 1 + 1; omega) _
            exact (Below.grown (w := wr.drew.alloc _) ((hbw.drew).alloc (by have := hbw.size; simp; omega) _) hgrow5 (by have := hbw.size; simp; omega) (fun k hk => by have := (hown.lt _ hk).1; omega))
          · rw [World.cell?_setCell_other _ _ _ _ (by simp)]
            exact cell_grown hgrow5 (cell_new (w := wr.drew) q3 _) (fun e => by have := (hown.lt _ e).1; simp at this; omega)
          · exact ((b1.drew.alloc _).grown hgrow5 (fun e => by have := (hown.lt _ e).1; omega)).other (by omega) _
        case measure => simp [intOf]; omega
    · have hj1 : ¬ ((j : Int) + 1 < (n1 : Int)) := by have := HN1.out; omega
      have hje : j = ps.length := by omega
      subst hje
      rw [List.take_length] at hown
      obtain ⟨u0, u1, u2, u3, u4, u5, t0, t1, t2, t3, t4, t5⟩ := id b1
      go_wp2
      refine bodyPost_ret (v := .agg #[.string x, .bool (decide (2 ≤ m.tmod 4)), .slice an ps.length cn, .int .i64 (m.tmod 2), .bool (decide (4 ≤ m)), .int .i64 (wrap64 (m.tdiv 8))]) (by simp [results, Tryz.results83, go_sem, u0, u1, u2, u3, u4, u5]) rfl ⟨.slice an ps.length cn, by rw [H1.out, H2.out, H3.out, H4.out], ?_, ?_⟩
      · have hne : (Value.slice an ps.length cn).ownBlock ≠ some (w.heap.size + 1) := fun e => by have := (hown.lt _ e).1; omega
        exact lexs.ownsRow_le (ownsRow_setCell_other (ownsRow_setCell_other (ownsRow_setCell_other (ownsRow_setCell_other (ownsRow_setCell_other (ownsRow_setCell_other hown hne _) hne _) hne _) hne _) hne _) hne _) (by omega)
      · exact (((((hbw.setCell (Nat.le_succ _) _).setCell (Nat.le_succ _) _).setCell (Nat.le_succ _) _).setCell (Nat.le_succ _) _).setCell (Nat.le_succ _) _).setCell (Nat.le_succ _) _
end Go.Proofs.YtchhpinmoagkhaaGreatDoor.face
