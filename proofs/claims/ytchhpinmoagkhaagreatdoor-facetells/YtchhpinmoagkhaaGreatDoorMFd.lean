/- What the reference's Look answers: the walk. -/
import Derived.Test.YtchhpinmoagkhaaGreatDoorProg
import Derived.WalkKit
import Derived.WalkLawsBesides
import Derived.Outline
import Derived.WalkSmall
import Derived.BigQuiet
import Derived.Deep.QuietTactic
import Derived.Deep.RegionWith
import Derived.Deep.RegionLaw
import Derived.Deep.AppendLies
import Derived.WalkSpells
import Derived.Laws.OwnMore
import Derived.Maps.AppendAt
import Derived.Test.YtchhpinmoagkhaaGreatDoorMFc
namespace Go.Proofs.YtchhpinmoagkhaaGreatDoor.face
open Go.RowKit
open Go.Proofs.YtchhpinmoagkhaaGreatDoor.syn
set_option linter.unusedVariables false
set_option linter.unusedSimpArgs false
set_option maxRecDepth 100000

theorem ret_fault {w : World} {c a : Int} (R : Option (Int × Int)) (h : R = some (c, a)) : Ending.returned (.agg #[.int .i64 c, .int .i64 a]) = .returned (faultV R) := by rw [h]; rfl
theorem below_res {w wr : World} (h : Below w.heap.size w wr) (x y : Value) : Below w.heap.size w ((wr.setCell ⟨w.heap.size + 1, 0, none⟩ x).setCell ⟨w.heap.size + 1, 1, none⟩ y) := (h.setCell (Nat.le_succ _) _).setCell (Nat.le_succ _) _
set_option maxHeartbeats 8000000 in
theorem rLook (m : ByteArray) (K : List Kid) (v : Value) (w : World) (hv : Lies (· < w.heap.size) w (.node 1 m 0 (K.map Kid.tree)) v) (hK : cntL (K.map Kid.tree) ≤ 1000) (hKl : K.length ≤ 1000) (hps : ∀ k ∈ K, k.kids.length ≤ 1000) :
    Calls Tryz.prog 33 #[v] w fun e w' => e = .returned (faultV (lookK m K [] [] 1)) ∧ Below w.heap.size w w' := by
  have c24 : Tryz.prog.cellsOf 24 = 4 := by kernel_rfl
  have c27 : Tryz.prog.cellsOf 27 = 2 := by kernel_rfl
  have c1 : Tryz.prog.cellsOf 9 = 1 := cell1s
  obtain ⟨i0, hi, hz0, hz1, hz2⟩ := info_parts infoS
  obtain ⟨R, hR⟩ : ∃ R, R = lookK m K [] [] 1 := ⟨_, rfl⟩
  rw [← hR]
  have HR0 : Hid (lookK m (K.drop 0) [] [] 1 = R) := hR.symm
  clear hR
  unfold Lies at hv
  obtain ⟨a, c, rfl, hl, hk⟩ := hv
  rw [List.length_map] at hl ⊢
  have G0 : LI w ((w.alloc (.cells #[.int .i64 1, .string m, .int .i64 0, .slice a K.length c] 24)).alloc (.cells #[.int .i64 0, .int .i64 0] 27)) m (.slice a K.length c) (.slice none 0 0) (.slice none 0 0) [] [] :=
    ⟨Joins.below_alloc2 _ _ _, by simp, by simp, by simp, by simp, by simp, by simp, World.ownsRow_nil _ _ _ _, World.ownsRow_nil _ _ _ _, (fun b h => by cases h)⟩
  go_enter Tryz.func33, Tryz.ntmps33
  go_wp2
  go_loopw [3, 4, 5, 6] (fun iv nv t5 t6 wr => ∃ (j : Nat) (is ns : List ByteArray) (a0 : Int), j ≤ K.length ∧ t6 = .int .i64 j ∧ t5 = .int .i64 a0 ∧ Hid (a0 = 1 + cntL ((K.take j).map Kid.tree)) ∧ LI w wr m (.slice a K.length c) iv nv is ns ∧ is.length ≤ 5 ∧ ns.length ≤ 20 ∧ Hid (lookK m (K.drop j) is ns a0 = R)) (fun _ _ _ t _ => K.length - (intOf t).toNat)
  case atStart => exact ⟨0, [], [], 1, Nat.zero_le _, rfl, rfl, rfl, G0, by simp, by simp, HR0⟩
  case round =>
    clear G0 HR0
    obtain ⟨j, is, ns, a0, hj, rfl, rfl, HA, hL, hil, hnl, HR⟩ := hrel
    have q3 := hL.q3
    by_cases hlt : j < K.length
    · obtain ⟨g, o, rfl, hg, hat⟩ := hk (by intro e; have := congrArg List.length e; simp at this; rw [this] at hlt; simp at hlt)
      obtain ⟨ak, ck, k0w, k1w, k2w, k3w, hly⟩ := kid_cells hg hat (Below.refl _ _) hlt
      have k0 := keep k0w hL.below
      have k1 := keep k1w hL.below
      have k2 := keep k2w hL.below
      have k3 := keep k3w hL.below
      clear k0w k1w k2w k3w
      have hkids := hps K[j] (List.getElem_mem hlt)
      have hcnt := cnt_kids K j hlt
      have hcle := cnt_kids_le K (j + 1)
      have hpos := cntT_pos K[j].tree
      have hpos2 := cntL_pos ((K.take j).map Kid.tree)
      have ha1 : 0 ≤ a0 := by rw [HA.out]; omega
      have ha2 : a0 ≤ 1001 := by have := cnt_kids_le K j; rw [HA.out]; omega
      have ha3 : a0 + cntT K[j].tree ≤ 1001 := by rw [HA.out]; omega
      have HA2 : Hid (a0 + cntT K[j].tree = 1 + cntL ((K.take (j + 1)).map Kid.tree)) := by show _ = _; rw [hcnt, HA.out]; omega
      clear hcnt hcle hpos2
      rw [drop_kid K j hlt] at HR
      obtain ⟨ai, ci, rfl⟩ : ∃ ai ci, _ = Value.slice ai is.length ci := by obtain ⟨a, c, e, _⟩ := lexs.own_shape hL.oi; exact ⟨a, c, e⟩
      obtain ⟨an, cn, rfl⟩ : ∃ an cn, _ = Value.slice an ns.length cn := by obtain ⟨a, c, e, _⟩ := lexs.own_shape hL.on; exact ⟨a, c, e⟩
      cases hkd : K[j] with
      | imp x =>
        rw [hkd] at k0 k1 k2 k3 HR HA2 hpos ha3
        simp only [Kid.kind, Kid.text, Kid.num, Kid.kids, List.length_nil] at k0 k1 k2 k3
        have hct : cntT (Kid.imp x).tree = 1 := rfl
        rw [hct] at HA2 ha3
        clear hat hly hkids hpos
        have HR1 : Hid ((if among is x || eqS x m then some (5, a0) else if 5 ≤ is.length then some (1, a0) else lookK m (K.drop (j + 1)) (is ++ [x]) ns (a0 + 1)) = R) := HR.out
        clear HR
        have hL1 := hL.next (below_a (.cells #[.int .i64 2, .string x, .int .i64 0, .slice ak 0 ck] 24))
        obtain ⟨y0, y1, f0, f1, e1⟩ : _ ∧ _ ∧ _ ∧ _ ∧ _ := ⟨hL1.r0, hL1.r1, hL1.z0, hL1.z1, hL1.q1⟩
        have hSt := strs_own hL1.oi
        have hPl := fun W (h : StrsIn W (.slice ai is.length ci) is) => rPlace is x _ W h
        cases hm : among is x
        case true =>
          have HF : Hid (R = some (5, a0)) := by show _ = _; rw [← HR1.out, hm]; rfl
          rw [hm] at hPl
          go_wp2_with (go_at_call 80; refine (hPl _ hSt).mono ?_; rintro e w2 ⟨⟨pn, rfl, hpn⟩, hw2⟩; obtain rfl := hw2.symm; simp at hpn)
          refine bodyPost_ret (v := .agg #[.int .i64 5, .int .i64 a0]) (by simp [results, Tryz.results33, go_sem, y0, y1]) rfl ⟨ret_fault (w := w) R HF.out, below_res hL1.below _ _⟩
        rw [hm, Bool.false_or] at HR1
        rw [hm] at hPl
        cases hx : eqS x m
        case true =>
          have HF : Hid (R = some (5, a0)) := by show _ = _; rw [← HR1.out, hx]; rfl
          unfold eqS at hx
          go_wp2_with (go_at_call 80; refine (hPl _ hSt).mono ?_; rintro e w2 ⟨⟨pn, rfl, hpn⟩, hw2⟩; obtain rfl := hw2.symm; simp at hpn)
          refine bodyPost_ret (v := .agg #[.int .i64 5, .int .i64 a0]) (by simp [results, Tryz.results33, go_sem, y0, y1]) rfl ⟨ret_fault (w := w) R HF.out, below_res hL1.below _ _⟩
        rw [hx] at HR1
        simp only [Bool.false_eq_true, if_false] at HR1
        unfold eqS at hx
        by_cases h5 : 5 ≤ is.length
        case pos =>
          have HF : Hid (R = some (1, a0)) := by show _ = _; rw [← HR1.out, if_pos h5]
          go_wp2_with (go_at_call 80; refine (hPl _ hSt).mono ?_; rintro e w2 ⟨⟨pn, rfl, hpn⟩, hw2⟩; obtain rfl := hw2.symm; simp at hpn)
          refine bodyPost_ret (v := .agg #[.int .i64 1, .int .i64 a0]) (by simp [results, Tryz.results33, go_sem, y0, y1]) rfl ⟨ret_fault (w := w) R HF.out, below_res hL1.below _ _⟩
        rw [if_neg h5] at HR1
        go_wp2_with first
          | (go_at_call 80; refine (hPl _ hSt).mono ?_; rintro e w2 ⟨⟨pn, rfl, hpn⟩, hw2⟩; obtain rfl := hw2.symm; simp at hpn)
          | (at_builtin; refine wpList_append_lies _ rfl (.tmp 45) (.tmp 48) 39 rfl (w.heap.size + 2) 9 i0 (.string ⟨#[]⟩) 1 16 Tryz.underlying39 hi hz0 hz1 hz2 rfl (by decide) _ _ _ rfl (hL1.oi.alloc _) ⟨wr.heap.size + 1, 0, none⟩ 1 1 [.string x] rfl rfl (cell_one _ _ _ (by simp)) (one_string _) (by omega) (by unfold maxLen; omega) (by omega) (by have := hL.lt; simp; omega) (wr.heap.size + 1 + 1) (by simp) ?_; intro g5 cap5 w5 hown5 hgrow5 hat5 hlt5; have hL2 := hL1.next (below_a (.cells #[.string x] 9)); have hL5 := hL2.pushI hown5 hgrow5 (hat5.imp id (fun h => by rw [h]; simp)))
          | go_in
        go_roundw
        case rel => exact ⟨j + 1, is ++ [x], ns, a0 + 1, by omega, by go_num, by go_num, HA2.out, hL5, by simp; omega, hnl, HR1.out⟩
        case measure => simp [intOf]; omega
      | var x p l n =>
        rw [hkd] at k0 k1 k2 k3 HR HA2 hpos ha3 hly
        simp only [Kid.kind, Kid.text, Kid.num] at k0 k1 k2 k3 hly
        have HR1 : Hid ((if among ns x then some (5, a0) else if 20 ≤ ns.length then some (1, a0) else match rangeF n a0 with | some e => some e | none => lookK m (K.drop (j + 1)) is (ns ++ [x]) (a0 + cntT (Kid.var x p l n).tree)) = R) := HR.out
        clear HR
        generalize hnum : 2 * bI p + bI l = num at k2 hly
        cases n with
        | none =>
        simp only [Kid.kids, List.length_nil] at k3 hly
        clear hat hkids
        have hL1 := hL.next (below_a (.cells #[.int .i64 3, .string x, .int .i64 num, .slice ak 0 ck] 24))
        obtain ⟨y0, y1, f0, f1, e1⟩ : _ ∧ _ ∧ _ ∧ _ ∧ _ := ⟨hL1.r0, hL1.r1, hL1.z0, hL1.z1, hL1.q1⟩
        have hSt := strs_own hL1.on
        have hPl := fun W (h : StrsIn W (.slice an ns.length cn) ns) => rPlace ns x _ W h
        cases hm : among ns x
        case true =>
          have HF : Hid (R = some (5, a0)) := by show _ = _; rw [← HR1.out, hm]; rfl
          rw [hm] at hPl
          go_wp2_with (go_at_call 80; refine (hPl _ hSt).mono ?_; rintro e w2 ⟨⟨pn, rfl, hpn⟩, hw2⟩; obtain rfl := hw2.symm; simp at hpn)
          refine bodyPost_ret (v := .agg #[.int .i64 5, .int .i64 a0]) (by simp [results, Tryz.results33, go_sem, y0, y1]) rfl ⟨ret_fault (w := w) R HF.out, below_res hL1.below _ _⟩
        rw [hm] at hPl HR1
        simp only [Bool.false_eq_true, if_false] at HR1
        by_cases h20 : 20 ≤ ns.length
        case pos =>
          have HF : Hid (R = some (1, a0)) := by show _ = _; rw [← HR1.out, if_pos h20]
          go_wp2_with (go_at_call 80; refine (hPl _ hSt).mono ?_; rintro e w2 ⟨⟨pn, rfl, hpn⟩, hw2⟩; obtain rfl := hw2.symm; simp at hpn)
          refine bodyPost_ret (v := .agg #[.int .i64 1, .int .i64 a0]) (by simp [results, Tryz.results33, go_sem, y0, y1]) rfl ⟨ret_fault (w := w) R HF.out, below_res hL1.below _ _⟩
        rw [if_neg h20] at HR1
        have HR2 : Hid (lookK m (K.drop (j + 1)) is (ns ++ [x]) (a0 + cntT (Kid.var x p l none).tree) = R) := HR1.out
        clear HR1
        generalize (Kid.var x p l none).tree = T at hly HR2 HA2 ha3 hpos
        go_wp2_with first
          | (go_at_call 80; refine (hPl _ hSt).mono ?_; rintro e w2 ⟨⟨pn, rfl, hpn⟩, hw2⟩; obtain rfl := hw2.symm; simp at hpn)
          | (at_builtin; refine wpList_append_lies _ rfl (.tmp 64) (.tmp 67) 39 rfl (w.heap.size + 2) 9 i0 (.string ⟨#[]⟩) 1 16 Tryz.underlying39 hi hz0 hz1 hz2 rfl (by decide) _ _ _ rfl (hL1.on.alloc _) ⟨wr.heap.size + 1, 0, none⟩ 1 1 [.string x] rfl rfl (cell_one _ _ _ (by simp)) (one_string _) (by omega) (by unfold maxLen; omega) (by omega) (by have := hL.lt; simp; omega) (wr.heap.size + 1 + 1) (by simp) ?_; intro g5 cap5 w5 hown5 hgrow5 hat5 hlt5; have hL2 := hL1.next (below_a (.cells #[.string x] 9)); have hL5 := hL2.pushN hown5 hgrow5 (hat5.imp id (fun h => by rw [h]; simp)); have n0 : w5.cell? ⟨wr.heap.size, 0, none⟩ = some (.int .i64 3) := cell_grown hgrow5 (cell_new (by simp) _) (fun e => by have := (hL.on.lt _ e).2; simp at this); have n1 : w5.cell? ⟨wr.heap.size, 1, none⟩ = some (.string x) := cell_grown hgrow5 (cell_new (by simp) _) (fun e => by have := (hL.on.lt _ e).2; simp at this); have n2 : w5.cell? ⟨wr.heap.size, 2, none⟩ = some (.int .i64 num) := cell_grown hgrow5 (cell_new (by simp) _) (fun e => by have := (hL.on.lt _ e).2; simp at this); have n3 : w5.cell? ⟨wr.heap.size, 3, none⟩ = some (.slice ak 0 ck) := cell_grown hgrow5 (cell_new (by simp) _) (fun e => by have := (hL.on.lt _ e).2; simp at this); obtain ⟨v0, v1, g0, g1⟩ : _ ∧ _ ∧ _ ∧ _ := ⟨hL5.r0, hL5.r1, hL5.z0, hL5.z1⟩; have hlyF := hly.below hL5.below; skip)
          | (go_at_call 81; refine (rWeight _ _ _ hlyF (by omega)).mono ?_; rintro e w6 ⟨rfl, hb6⟩)
          | go_in
        go_roundw
        case rel => exact ⟨j + 1, is, ns ++ [x], a0 + cntT T, by omega, by go_num, by go_num, HA2.out, hL5.next hb6, hil, by simp; omega, HR2.out⟩
        case measure => simp [intOf]; omega
        | some n =>
        simp only [Kid.kids, List.length_singleton] at k3 hly
        obtain ⟨g2, o2, rfl, hn2⟩ : ∃ g2 o2, ak = some ⟨g2, o2, none⟩ ∧ w.cell? ⟨g2, o2 + 2, none⟩ = some (.int .i64 n) := by
          unfold Kid.tree Lies at hly
          obtain ⟨a', c', e, _, hk'⟩ := hly
          cases e
          obtain ⟨g2, o2, rfl, _, hat2⟩ := hk' (by simp)
          unfold LiesAt at hat2
          obtain ⟨⟨v1, ⟨x0, x1, x2, x3, rfl, d0, d1, d2, d3⟩, hv1⟩, _⟩ := hat2
          unfold Lies at hv1
          obtain ⟨a1, c1, e1, _, _⟩ := hv1
          cases e1
          exact ⟨g2, o2, rfl, d2⟩
        clear hat hkids
        have hL1 := hL.next (below_a (.cells #[.int .i64 3, .string x, .int .i64 num, .slice (some ⟨g2, o2, none⟩) 1 ck] 24))
        obtain ⟨y0, y1, f0, f1, e1⟩ : _ ∧ _ ∧ _ ∧ _ ∧ _ := ⟨hL1.r0, hL1.r1, hL1.z0, hL1.z1, hL1.q1⟩
        have hSt := strs_own hL1.on
        have hPl := fun W (h : StrsIn W (.slice an ns.length cn) ns) => rPlace ns x _ W h
        cases hm : among ns x
        case true =>
          have HF : Hid (R = some (5, a0)) := by show _ = _; rw [← HR1.out, hm]; rfl
          rw [hm] at hPl
          go_wp2_with (go_at_call 80; refine (hPl _ hSt).mono ?_; rintro e w2 ⟨⟨pn, rfl, hpn⟩, hw2⟩; obtain rfl := hw2.symm; simp at hpn)
          refine bodyPost_ret (v := .agg #[.int .i64 5, .int .i64 a0]) (by simp [results, Tryz.results33, go_sem, y0, y1]) rfl ⟨ret_fault (w := w) R HF.out, below_res hL1.below _ _⟩
        rw [hm] at hPl HR1
        simp only [Bool.false_eq_true, if_false] at HR1
        by_cases h20 : 20 ≤ ns.length
        case pos =>
          have HF : Hid (R = some (1, a0)) := by show _ = _; rw [← HR1.out, if_pos h20]
          go_wp2_with (go_at_call 80; refine (hPl _ hSt).mono ?_; rintro e w2 ⟨⟨pn, rfl, hpn⟩, hw2⟩; obtain rfl := hw2.symm; simp at hpn)
          refine bodyPost_ret (v := .agg #[.int .i64 1, .int .i64 a0]) (by simp [results, Tryz.results33, go_sem, y0, y1]) rfl ⟨ret_fault (w := w) R HF.out, below_res hL1.below _ _⟩
        rw [if_neg h20] at HR1
        by_cases hr : n < 1 ∨ 64 < n
        · have hrf : rangeF (some n) a0 = some (6, a0) := if_pos hr
          have HF : Hid (R = some (6, a0)) := by show _ = _; rw [← HR1.out, hrf]
          clear HR1 hrf
          rcases hr with hr | hr
          · go_wp2_with first
            | (go_at_call 80; refine (hPl _ hSt).mono ?_; rintro e w2 ⟨⟨pn, rfl, hpn⟩, hw2⟩; obtain rfl := hw2.symm; simp at hpn)
            | (at_builtin; refine wpList_append_lies _ rfl (.tmp 64) (.tmp 67) 39 rfl (w.heap.size + 2) 9 i0 (.string ⟨#[]⟩) 1 16 Tryz.underlying39 hi hz0 hz1 hz2 rfl (by decide) _ _ _ rfl (hL1.on.alloc _) ⟨wr.heap.size + 1, 0, none⟩ 1 1 [.string x] rfl rfl (cell_one _ _ _ (by simp)) (one_string _) (by omega) (by unfold maxLen; omega) (by omega) (by have := hL.lt; simp; omega) (wr.heap.size + 1 + 1) (by simp) ?_; intro g5 cap5 w5 hown5 hgrow5 hat5 hlt5; have hL2 := hL1.next (below_a (.cells #[.string x] 9)); have hL5 := hL2.pushN hown5 hgrow5 (hat5.imp id (fun h => by rw [h]; simp)); have n0 : w5.cell? ⟨wr.heap.size, 0, none⟩ = some (.int .i64 3) := cell_grown hgrow5 (cell_new (by simp) _) (fun e => by have := (hL.on.lt _ e).2; simp at this); have n1 : w5.cell? ⟨wr.heap.size, 1, none⟩ = some (.string x) := cell_grown hgrow5 (cell_new (by simp) _) (fun e => by have := (hL.on.lt _ e).2; simp at this); have n2 : w5.cell? ⟨wr.heap.size, 2, none⟩ = some (.int .i64 num) := cell_grown hgrow5 (cell_new (by simp) _) (fun e => by have := (hL.on.lt _ e).2; simp at this); have n3 : w5.cell? ⟨wr.heap.size, 3, none⟩ = some (.slice (some ⟨g2, o2, none⟩) 1 ck) := cell_grown hgrow5 (cell_new (by simp) _) (fun e => by have := (hL.on.lt _ e).2; simp at this); obtain ⟨v0, v1, g0, g1⟩ : _ ∧ _ ∧ _ ∧ _ := ⟨hL5.r0, hL5.r1, hL5.z0, hL5.z1⟩; have hlyF := hly.below hL5.below; have nn := keep hn2 hL5.below)
            | (go_at_call 81; refine (rWeight _ _ _ hlyF (by omega)).mono ?_; rintro e w6 ⟨rfl, hb6⟩)
            | go_in
            refine bodyPost_ret (v := .agg #[.int .i64 6, .int .i64 a0]) (by simp [results, Tryz.results33, go_sem, v0, v1]) rfl ⟨ret_fault (w := w) R HF.out, below_res hL5.below _ _⟩
          · have hr2 : ¬ n < 1 := by omega
            go_wp2_with first
            | (go_at_call 80; refine (hPl _ hSt).mono ?_; rintro e w2 ⟨⟨pn, rfl, hpn⟩, hw2⟩; obtain rfl := hw2.symm; simp at hpn)
            | (at_builtin; refine wpList_append_lies _ rfl (.tmp 64) (.tmp 67) 39 rfl (w.heap.size + 2) 9 i0 (.string ⟨#[]⟩) 1 16 Tryz.underlying39 hi hz0 hz1 hz2 rfl (by decide) _ _ _ rfl (hL1.on.alloc _) ⟨wr.heap.size + 1, 0, none⟩ 1 1 [.string x] rfl rfl (cell_one _ _ _ (by simp)) (one_string _) (by omega) (by unfold maxLen; omega) (by omega) (by have := hL.lt; simp; omega) (wr.heap.size + 1 + 1) (by simp) ?_; intro g5 cap5 w5 hown5 hgrow5 hat5 hlt5; have hL2 := hL1.next (below_a (.cells #[.string x] 9)); have hL5 := hL2.pushN hown5 hgrow5 (hat5.imp id (fun h => by rw [h]; simp)); have n0 : w5.cell? ⟨wr.heap.size, 0, none⟩ = some (.int .i64 3) := cell_grown hgrow5 (cell_new (by simp) _) (fun e => by have := (hL.on.lt _ e).2; simp at this); have n1 : w5.cell? ⟨wr.heap.size, 1, none⟩ = some (.string x) := cell_grown hgrow5 (cell_new (by simp) _) (fun e => by have := (hL.on.lt _ e).2; simp at this); have n2 : w5.cell? ⟨wr.heap.size, 2, none⟩ = some (.int .i64 num) := cell_grown hgrow5 (cell_new (by simp) _) (fun e => by have := (hL.on.lt _ e).2; simp at this); have n3 : w5.cell? ⟨wr.heap.size, 3, none⟩ = some (.slice (some ⟨g2, o2, none⟩) 1 ck) := cell_grown hgrow5 (cell_new (by simp) _) (fun e => by have := (hL.on.lt _ e).2; simp at this); obtain ⟨v0, v1, g0, g1⟩ : _ ∧ _ ∧ _ ∧ _ := ⟨hL5.r0, hL5.r1, hL5.z0, hL5.z1⟩; have hlyF := hly.below hL5.below; have nn := keep hn2 hL5.below)
            | (go_at_call 81; refine (rWeight _ _ _ hlyF (by omega)).mono ?_; rintro e w6 ⟨rfl, hb6⟩)
            | go_in
            refine bodyPost_ret (v := .agg #[.int .i64 6, .int .i64 a0]) (by simp [results, Tryz.results33, go_sem, v0, v1]) rfl ⟨ret_fault (w := w) R HF.out, below_res hL5.below _ _⟩
        · have HR2 : Hid (lookK m (K.drop (j + 1)) is (ns ++ [x]) (a0 + cntT (Kid.var x p l (some n)).tree) = R) := by
            have hrf : rangeF (some n) a0 = none := if_neg hr
            have h := HR1.out
            rw [hrf] at h
            exact h
          have hr1 : ¬ n < 1 := fun h => hr (.inl h)
          have hr2 : ¬ 64 < n := fun h => hr (.inr h)
          clear HR1
          generalize (Kid.var x p l (some n)).tree = T at hly HR2 HA2 ha3 hpos
          go_wp2_with first
            | (go_at_call 80; refine (hPl _ hSt).mono ?_; rintro e w2 ⟨⟨pn, rfl, hpn⟩, hw2⟩; obtain rfl := hw2.symm; simp at hpn)
            | (at_builtin; refine wpList_append_lies _ rfl (.tmp 64) (.tmp 67) 39 rfl (w.heap.size + 2) 9 i0 (.string ⟨#[]⟩) 1 16 Tryz.underlying39 hi hz0 hz1 hz2 rfl (by decide) _ _ _ rfl (hL1.on.alloc _) ⟨wr.heap.size + 1, 0, none⟩ 1 1 [.string x] rfl rfl (cell_one _ _ _ (by simp)) (one_string _) (by omega) (by unfold maxLen; omega) (by omega) (by have := hL.lt; simp; omega) (wr.heap.size + 1 + 1) (by simp) ?_; intro g5 cap5 w5 hown5 hgrow5 hat5 hlt5; have hL2 := hL1.next (below_a (.cells #[.string x] 9)); have hL5 := hL2.pushN hown5 hgrow5 (hat5.imp id (fun h => by rw [h]; simp)); have n0 : w5.cell? ⟨wr.heap.size, 0, none⟩ = some (.int .i64 3) := cell_grown hgrow5 (cell_new (by simp) _) (fun e => by have := (hL.on.lt _ e).2; simp at this); have n1 : w5.cell? ⟨wr.heap.size, 1, none⟩ = some (.string x) := cell_grown hgrow5 (cell_new (by simp) _) (fun e => by have := (hL.on.lt _ e).2; simp at this); have n2 : w5.cell? ⟨wr.heap.size, 2, none⟩ = some (.int .i64 num) := cell_grown hgrow5 (cell_new (by simp) _) (fun e => by have := (hL.on.lt _ e).2; simp at this); have n3 : w5.cell? ⟨wr.heap.size, 3, none⟩ = some (.slice (some ⟨g2, o2, none⟩) 1 ck) := cell_grown hgrow5 (cell_new (by simp) _) (fun e => by have := (hL.on.lt _ e).2; simp at this); obtain ⟨v0, v1, g0, g1⟩ : _ ∧ _ ∧ _ ∧ _ := ⟨hL5.r0, hL5.r1, hL5.z0, hL5.z1⟩; have hlyF := hly.below hL5.below; have nn := keep hn2 hL5.below)
            | (go_at_call 81; refine (rWeight _ _ _ hlyF (by omega)).mono ?_; rintro e w6 ⟨rfl, hb6⟩)
            | go_in
          go_roundw
          case rel => exact ⟨j + 1, is, ns ++ [x], a0 + cntT T, by omega, by go_num, by go_num, HA2.out, hL5.next hb6, hil, by simp; omega, HR2.out⟩
          case measure => simp [intOf]; omega
      | proc x p l gv ps b =>
        rw [hkd] at k0 k1 k2 k3 HR HA2 hpos ha3 hly
        simp only [Kid.kind, Kid.text, Kid.num] at k0 k1 k2 k3 hly
        have HR1 : Hid ((if among ns x then some (5, a0) else if 20 ≤ ns.length then some (1, a0) else if 5 < ps.length then some (1, a0) else match parF [] ps (a0 + 1) with | some e => some e | none => lookK m (K.drop (j + 1)) is (ns ++ [x]) (a0 + cntT (Kid.proc x p l gv ps b).tree)) = R) := HR.out
        clear HR
        generalize hnum : 2 * bI p + bI l + gI gv = num at k2 hly
        obtain ⟨nk, hn1⟩ : ∃ nk, nk = (Kid.proc x p l gv ps b).kids.length := ⟨_, rfl⟩
        rw [← hn1] at k3 hly
        have HN1 : Hid (nk = ps.length + 1) := by show _ = _; rw [hn1]; simp [Kid.kids]
        have hn2 : nk ≤ 1000 := by have := hps K[j] (List.getElem_mem hlt); rw [hkd, ← hn1] at this; exact this
        clear hn1 hkd
        obtain ⟨g2, o2, rfl, hg2, hat2⟩ : ∃ g2 o2, ak = some ⟨g2, o2, none⟩ ∧ g2 < w.heap.size ∧ LiesAt (· < w.heap.size) w (ps.map parT ++ [b]) g2 o2 := by
          have hly' := hly
          unfold Kid.tree Lies at hly'
          obtain ⟨a', c', e, _, hk'⟩ := hly'
          obtain ⟨g2, o2, e2, h2, hat2⟩ := hk' (by simp)
          cases e
          exact ⟨g2, o2, e2, h2, hat2⟩
        clear hat hkids
        have hL1 := hL.next (below_a (.cells #[.int .i64 4, .string x, .int .i64 num, .slice (some ⟨g2, o2, none⟩) nk ck] 24))
        obtain ⟨y0, y1, f0, f1, e1⟩ : _ ∧ _ ∧ _ ∧ _ ∧ _ := ⟨hL1.r0, hL1.r1, hL1.z0, hL1.z1, hL1.q1⟩
        have hSt := strs_own hL1.on
        have hPl := fun W (h : StrsIn W (.slice an ns.length cn) ns) => rPlace ns x _ W h
        cases hm : among ns x
        case true =>
          have HF : Hid (R = some (5, a0)) := by show _ = _; rw [← HR1.out, hm]; rfl
          rw [hm] at hPl
          go_wp2_with (go_at_call 80; refine (hPl _ hSt).mono ?_; rintro e w2 ⟨⟨pn, rfl, hpn⟩, hw2⟩; obtain rfl := hw2.symm; simp at hpn)
          refine bodyPost_ret (v := .agg #[.int .i64 5, .int .i64 a0]) (by simp [results, Tryz.results33, go_sem, y0, y1]) rfl ⟨ret_fault (w := w) R HF.out, below_res hL1.below _ _⟩
        rw [hm] at hPl HR1
        simp only [Bool.false_eq_true, if_false] at HR1
        by_cases h20 : 20 ≤ ns.length
        case pos =>
          have HF : Hid (R = some (1, a0)) := by show _ = _; rw [← HR1.out, if_pos h20]
          go_wp2_with (go_at_call 80; refine (hPl _ hSt).mono ?_; rintro e w2 ⟨⟨pn, rfl, hpn⟩, hw2⟩; obtain rfl := hw2.symm; simp at hpn)
          refine bodyPost_ret (v := .agg #[.int .i64 1, .int .i64 a0]) (by simp [results, Tryz.results33, go_sem, y0, y1]) rfl ⟨ret_fault (w := w) R HF.out, below_res hL1.below _ _⟩
        rw [if_neg h20] at HR1
        by_cases h5 : 5 < ps.length
        · have HF : Hid (R = some (1, a0)) := by show _ = _; rw [← HR1.out, if_pos h5]
          have hw1 : 5 < wrap64 ((nk : Int) - 1) := by have := HN1.out; unfold wrap64; omega
          have hw2 : 5 < (nk : Int) - 1 := by have := HN1.out; omega
          clear HR1
          go_wp2_with first
            | (go_at_call 80; refine (hPl _ hSt).mono ?_; rintro e w2 ⟨⟨pn, rfl, hpn⟩, hw2⟩; obtain rfl := hw2.symm; simp at hpn)
            | (at_builtin; refine wpList_append_lies _ rfl (.tmp 64) (.tmp 67) 39 rfl (w.heap.size + 2) 9 i0 (.string ⟨#[]⟩) 1 16 Tryz.underlying39 hi hz0 hz1 hz2 rfl (by decide) _ _ _ rfl (hL1.on.alloc _) ⟨wr.heap.size + 1, 0, none⟩ 1 1 [.string x] rfl rfl (cell_one _ _ _ (by simp)) (one_string _) (by omega) (by unfold maxLen; omega) (by omega) (by have := hL.lt; simp; omega) (wr.heap.size + 1 + 1) (by simp) ?_; intro g5 cap5 w5 hown5 hgrow5 hat5 hlt5; have hL2 := hL1.next (below_a (.cells #[.string x] 9)); have hL5 := hL2.pushN hown5 hgrow5 (hat5.imp id (fun h => by rw [h]; simp)); have n0 : w5.cell? ⟨wr.heap.size, 0, none⟩ = some (.int .i64 4) := cell_grown hgrow5 (cell_new (by simp) _) (fun e => by have := (hL.on.lt _ e).2; simp at this); have n1 : w5.cell? ⟨wr.heap.size, 1, none⟩ = some (.string x) := cell_grown hgrow5 (cell_new (by simp) _) (fun e => by have := (hL.on.lt _ e).2; simp at this); have n2 : w5.cell? ⟨wr.heap.size, 2, none⟩ = some (.int .i64 num) := cell_grown hgrow5 (cell_new (by simp) _) (fun e => by have := (hL.on.lt _ e).2; simp at this); have n3 : w5.cell? ⟨wr.heap.size, 3, none⟩ = some (.slice (some ⟨g2, o2, none⟩) nk ck) := cell_grown hgrow5 (cell_new (by simp) _) (fun e => by have := (hL.on.lt _ e).2; simp at this); obtain ⟨v0, v1, g0, g1⟩ : _ ∧ _ ∧ _ ∧ _ := ⟨hL5.r0, hL5.r1, hL5.z0, hL5.z1⟩; have hlyF := hly.below hL5.below)
            | go_in
          refine bodyPost_ret (v := .agg #[.int .i64 1, .int .i64 a0]) (by simp [results, Tryz.results33, go_sem, v0, v1]) rfl ⟨ret_fault (w := w) R HF.out, below_res hL5.below _ _⟩
        · rw [if_neg h5] at HR1
          have hw1 : ¬ 5 < wrap64 ((nk : Int) - 1) := by have := HN1.out; unfold wrap64; omega
          have hw2 : ¬ 5 < (nk : Int) - 1 := by have := HN1.out; omega
          go_wp2_with first
            | (go_at_call 80; refine (hPl _ hSt).mono ?_; rintro e w2 ⟨⟨pn, rfl, hpn⟩, hw2⟩; obtain rfl := hw2.symm; simp at hpn)
            | (at_builtin; refine wpList_append_lies _ rfl (.tmp 64) (.tmp 67) 39 rfl (w.heap.size + 2) 9 i0 (.string ⟨#[]⟩) 1 16 Tryz.underlying39 hi hz0 hz1 hz2 rfl (by decide) _ _ _ rfl (hL1.on.alloc _) ⟨wr.heap.size + 1, 0, none⟩ 1 1 [.string x] rfl rfl (cell_one _ _ _ (by simp)) (one_string _) (by omega) (by unfold maxLen; omega) (by omega) (by have := hL.lt; simp; omega) (wr.heap.size + 1 + 1) (by simp) ?_; intro g5 cap5 w5 hown5 hgrow5 hat5 hlt5; have hL2 := hL1.next (below_a (.cells #[.string x] 9)); have hL5 := hL2.pushN hown5 hgrow5 (hat5.imp id (fun h => by rw [h]; simp)); have n0 : w5.cell? ⟨wr.heap.size, 0, none⟩ = some (.int .i64 4) := cell_grown hgrow5 (cell_new (by simp) _) (fun e => by have := (hL.on.lt _ e).2; simp at this); have n1 : w5.cell? ⟨wr.heap.size, 1, none⟩ = some (.string x) := cell_grown hgrow5 (cell_new (by simp) _) (fun e => by have := (hL.on.lt _ e).2; simp at this); have n2 : w5.cell? ⟨wr.heap.size, 2, none⟩ = some (.int .i64 num) := cell_grown hgrow5 (cell_new (by simp) _) (fun e => by have := (hL.on.lt _ e).2; simp at this); have n3 : w5.cell? ⟨wr.heap.size, 3, none⟩ = some (.slice (some ⟨g2, o2, none⟩) nk ck) := cell_grown hgrow5 (cell_new (by simp) _) (fun e => by have := (hL.on.lt _ e).2; simp at this); obtain ⟨v0, v1, g0, g1⟩ : _ ∧ _ ∧ _ ∧ _ := ⟨hL5.r0, hL5.r1, hL5.z0, hL5.z1⟩; have hlyF := hly.below hL5.below)
            | go_in
          have HP : Hid (parF ((ps.take 0).map (·.1)) (ps.drop 0) (a0 + 1 + (0 : Nat)) = parF [] ps (a0 + 1)) := by show parF [] ps (a0 + 1 + 0) = _; rw [Int.add_zero]
          go_loopw [8, 9] (fun u t wq => ∃ k : Nat, k ≤ ps.length ∧ t = .int .i64 k ∧ wq.ownsRow w5.heap.size 9 1 u ((ps.take k).map (·.1)).length (strV ((ps.take k).map (·.1))) ∧ Below w5.heap.size w5 wq ∧ Hid (parF ((ps.take k).map (·.1)) (ps.drop k) (a0 + 1 + (k : Nat)) = parF [] ps (a0 + 1))) (fun _ t _ => ps.length - (intOf t).toNat)
          case atStart => exact ⟨0, Nat.zero_le _, rfl, World.ownsRow_nil _ _ _ _, Below.refl _ _, HP⟩
          case round =>
            clear HP
            obtain ⟨k, hkl, rfl, hou, hbq, HP⟩ := hrel
            have hLq := hL5.next hbq
            have n0q := keep n0 hbq
            have n1q := keep n1 hbq
            have n2q := keep n2 hbq
            have n3q := keep n3 hbq
            obtain ⟨x0, x1, h0, h1⟩ : _ ∧ _ ∧ _ ∧ _ := ⟨hLq.r0, hLq.r1, hLq.z0, hLq.z1⟩
            obtain ⟨au, cu, rfl⟩ : ∃ au cu, _ = Value.slice au ((ps.take k).map (·.1)).length cu := by obtain ⟨a, c, e, _⟩ := lexs.own_shape hou; exact ⟨a, c, e⟩
            have hklen : ((ps.take k).map (·.1)).length = k := by rw [List.length_map, List.length_take]; omega
            rw [hklen] at hou ⊢
            by_cases hlk : k < ps.length
            · obtain ⟨m0, m1, m2⟩ := par_cells hg2 hat2 hLq.below hlk
              have hk1 : k < nk := by have := HN1.out; omega
              have hk2 : k + 1 < nk := by have := HN1.out; omega
              have hdrop : ps.drop k = ps[k] :: ps.drop (k + 1) := List.drop_eq_getElem_cons hlk
              have htake : (ps.take (k + 1)).map (·.1) = (ps.take k).map (·.1) ++ [ps[k].1] := by rw [List.take_add_one, List.map_append, List.getElem?_eq_getElem hlk]; rfl
              have HP1 : Hid ((if among ((ps.take k).map (·.1)) ps[k].1 then some (5, a0 + 1 + (k : Nat)) else parF ((ps.take (k + 1)).map (·.1)) (ps.drop (k + 1)) (a0 + 1 + (k : Nat) + 1)) = parF [] ps (a0 + 1)) := by
                show _ = _
                rw [← HP.out, hdrop, htake]
                rfl
              have HT : Hid ((ps.take (k + 1)).map (·.1) = (ps.take k).map (·.1) ++ [ps[k].1]) := htake
              have hSq : StrsIn wr (.slice au k cu) ((ps.take k).map (·.1)) := strs_own (by rw [hklen]; exact hou)
              have hPq := rPlace ((ps.take k).map (·.1)) ps[k].1 _ wr hSq
              clear hdrop htake HP m0 m2
              generalize ps[k].1 = y at HP1 HT m1 hPq
              generalize (ps.take k).map (·.1) = L at HP1 HT hou hPq hSq hklen
              clear hSq
              have hkn : k ≤ 1000 := by omega
              have hw3 : wrap64 (a0 + 1 + (k : Int)) = a0 + 1 + (k : Int) := by unfold wrap64; omega
              cases hm2 : among L y
              · rw [hm2] at hPq
                have HP2 : Hid (parF ((ps.take (k + 1)).map (·.1)) (ps.drop (k + 1)) (a0 + 1 + ((k + 1 : Nat) : Int)) = parF [] ps (a0 + 1)) := by
                  show _ = _
                  rw [← HP1.out, hm2]
                  have e : a0 + 1 + ((k + 1 : Nat) : Int) = a0 + 1 + (k : Nat) + 1 := by omega
                  rw [e]
                  rfl
                clear HP1
                go_wp2_with first
                  | (go_at_call 80; refine hPq.mono ?_; rintro e w2 ⟨⟨pn, rfl, hpn⟩, hw2⟩; obtain rfl := hw2.symm; simp at hpn)
                  | (at_builtin; refine wpList_append_own _ rfl (.tmp 128) (.tmp 135) 39 rfl w5.heap.size 9 i0 (.string ⟨#[]⟩) 1 16 Tryz.underlying39 hi hz0 hz1 hz2 rfl (by decide) _ _ _ rfl (hou.alloc _) ⟨wr.heap.size, 0, none⟩ 1 1 [.string y] rfl rfl (cell_one _ _ _ (by simp)) (one_string _) (by unfold maxLen; omega) (by omega) (by have := hbq.size; simp; omega) ?_; intro v7 w7 hown7 hgrow7 hnil7)
                  | go_in
                go_roundw
                case rel =>
                  refine ⟨k + 1, by omega, by go_num, ?_, ?_, HP2.out⟩
                  · rw [HT.out, List.length_append, strV_snoc, hklen]; exact hown7
                  · exact (hbq.alloc hbq.size _).grown hgrow7 (by have := hbq.size; simp; omega) (fun b hb => (hou.lt _ hb).1)
                case measure => simp [intOf]; omega
              · rw [hm2] at hPq
                have HF : Hid (R = some (5, a0 + 1 + (k : Int))) := by
                  show _ = _
                  have h := HP1.out
                  rw [hm2] at h
                  have h2 := HR1.out
                  rw [← h] at h2
                  exact h2.symm
                go_wp2_with (go_at_call 80; refine hPq.mono ?_; rintro e w2 ⟨⟨pn, rfl, hpn⟩, hw2⟩; obtain rfl := hw2.symm; simp at hpn)
                refine bodyPost_ret (v := .agg #[.int .i64 5, .int .i64 (a0 + 1 + (k : Int))]) (by simp [results, Tryz.results33, go_sem, x0, x1]) rfl ⟨ret_fault (w := w) R HF.out, below_res hLq.below _ _⟩
            · have hke : k = ps.length := by omega
              have HR2 : Hid (lookK m (K.drop (j + 1)) is (ns ++ [x]) (a0 + cntT (Kid.proc x p l gv ps b).tree) = R) := by
                have h := HP.out
                rw [hke, List.drop_length] at h
                have h0 : parF [] ps (a0 + 1) = none := h.symm
                have h2 := HR1.out
                rw [h0] at h2
                exact h2
              have hk2 : ¬ (k : Int) + 1 < (nk : Int) := by have := HN1.out; omega
              have hlyq := hlyF.below hbq
              clear HP HR1 hat2
              generalize (Kid.proc x p l gv ps b).tree = T at hlyq HR2 HA2 ha3 hpos
              clear hlyF hly
              go_wp2_with (go_at_call 81; refine (rWeight _ _ _ hlyq (by omega)).mono ?_; rintro e w6 ⟨rfl, hb6⟩)
              go_roundw
              case rel => exact ⟨j + 1, is, ns ++ [x], a0 + cntT T, by omega, by go_num, by go_num, HA2.out, hLq.next hb6, hil, by simp; omega, HR2.out⟩
              case measure => simp [intOf]; omega
    · have hje : K.drop j = [] := List.drop_eq_nil_of_le (by omega)
      have HF : Hid (R = none) := by show _ = _; rw [← HR.out, hje]; rfl
      obtain ⟨y0, y1, f0, f1⟩ : _ ∧ _ ∧ _ ∧ _ := ⟨hL.r0, hL.r1, hL.z0, hL.z1⟩
      go_wp2
      refine bodyPost_ret (v := .agg #[.int .i64 0, .int .i64 0]) (by simp [results, Tryz.results33, go_sem, y0, y1]) rfl ⟨by rw [HF.out]; rfl, below_res hL.below _ _⟩
end Go.Proofs.YtchhpinmoagkhaaGreatDoor.face
