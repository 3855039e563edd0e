/- What the program's May answers: a contract. The names that are known lie in a map of its own. -/
import Derived.Test.YthfeojjfehbgjaaGreatDoorProg
import Derived.WalkKit
import Derived.WalkLawsBesides
import Derived.Outline
import Derived.WalkSmall
import Derived.BigQuiet
import Derived.Deep.QuietTactic
import Derived.Deep.RegionWith
import Derived.Maps.OwnSet
import Derived.Test.YthfeojjfehbgjaaGreatDoorOGFaceOwnA
import Derived.Test.YthfeojjfehbgjaaGreatDoorOGFaceMem
namespace Go.Proofs.YthfeojjfehbgjaaGreatDoor.face
open Go.RowKit Go.Maps Go.WideMaps
open Go.Proofs.YthfeojjfehbgjaaGreatDoor.lexs (HasErr)
open Go.Proofs.YthfeojjfehbgjaaGreatDoor.syn (isName eqS)
set_option linter.unusedVariables false
set_option linter.unusedSimpArgs false
set_option maxRecDepth 100000

structure Inv (w wr : World) (B : Nat) (x : ByteArray) (vv pv : Value) (l : List ByteArray) : Prop where
  below : Below w.heap.size w wr
  c0 : wr.cell? ⟨w.heap.size, 0, none⟩ = some (.string x)
  c1 : wr.cell? ⟨w.heap.size, 1, none⟩ = some vv
  c2 : wr.cell? ⟨w.heap.size, 2, none⟩ = some pv
  lt : w.heap.size < B
  own : wr.ownsMap Tryz.prog 9 (unitElem (H := Unit)) B l.length (setD l)
theorem Inv.next {w wr w2 : World} {B : Nat} {x : ByteArray} {vv pv : Value} {l : List ByteArray} (h : Inv w wr B x vv pv l) (hb : Below wr.heap.size wr w2) : Inv w w2 B x vv pv l :=
  ⟨h.below.trans (hb.mono h.below.size), keep h.c0 hb, keep h.c1 hb, keep h.c2 hb, h.lt, h.own.kept (grown_of_below hb) (by simp)⟩
theorem Inv.put {w wr w2 : World} {B : Nat} {x y : ByteArray} {vv pv : Value} {l : List ByteArray} (h : Inv w wr B x vv pv l) (hg : wr.grownBy w2 (some B)) (ho : w2.ownsMap Tryz.prog 9 (unitElem (H := Unit)) B (l.length + 1) ((setD l).put (keyL y) (.agg []))) :
    Inv w w2 B x vv pv (l ++ [y]) := by
  have hne : some w.heap.size ≠ some B := by have := h.lt; simp; omega
  refine ⟨h.below.grown hg h.below.size (fun k hk => ?_), grown_cell hg h.c0 hne, grown_cell hg h.c1 hne, grown_cell hg h.c2 hne, h.lt, ?_⟩
  · cases hk
    exact Nat.le_of_lt h.lt
  · rw [setD_snoc, List.length_append]
    exact ho
theorem below_box {w w2 : World} {o : Obj} (hb : Below (w.alloc o).heap.size (w.alloc o) w2) : Below w.heap.size w w2 :=
  ((Below.refl _ _).alloc (Nat.le_refl _) o).trans (hb.mono (by simp))
theorem mayVar_name {v : VarD} (h : mayVarB v = true) : isName v.name = true := by
  unfold mayVarB at h
  simp only [Bool.and_eq_true] at h
  exact h.1
theorem mayProc_name {v : ProcD} (h : mayProcB v = true) : isName v.name = true := by
  unfold mayProcB at h
  simp only [Bool.and_eq_true] at h
  exact h.1
theorem take_next {α β : Type} (f : α → β) (l : List α) (j : Nat) (h : j < l.length) : (l.take (j + 1)).map f = (l.take j).map f ++ [f l[j]] := by
  rw [List.take_add_one, List.map_append, List.getElem?_eq_getElem h]
  rfl
set_option maxHeartbeats 4000000 in
theorem oMay (f : FaceD) (u : Value) (w : World) (hw : HasErr w) (hu : FaceIn w u f) :
    Calls Tryz.prog 37 #[u] w fun e w' => e = .returned (.bool (mayB f)) ∧ Below w.heap.size w w' := by
  have c3 : Tryz.prog.cellsOf 25 = 3 := cell3
  have c4 : Tryz.prog.cellsOf 100 = 4 := cell4
  have c6 : Tryz.prog.cellsOf 102 = 6 := cell6
  have hmm := @run_makeMap Tryz.prog
  obtain ⟨vv, pv, rfl, hvs, hps⟩ := hu
  obtain ⟨x, vs, ps⟩ := f
  simp only at hvs hps ⊢
  obtain ⟨a, c, rfl, hl, hk⟩ := hvs
  obtain ⟨b, d, rfl, hl2, hk2⟩ := hps
  have hB := (Below.refl w.heap.size w).alloc (Nat.le_refl _) (.cells #[.string x, .slice a vs.length c, .slice b ps.length d] 25)
  have hN := oName x _ (HasErr.below hw hB)
  obtain ⟨V, hV⟩ : ∃ V, V = mayB ⟨x, vs, ps⟩ := ⟨_, rfl⟩
  rw [← hV]
  have HV : Hid (V = (isName x && (decide (vs.length + ps.length ≤ 20) && (vs.all mayVarB && (ps.all mayProcB && apartB [] (namesOf ⟨x, vs, ps⟩)))))) := hV
  clear hV
  cases hn : isName x
  case false =>
    have HF : Hid (V = false) := by show _ = _; rw [HV.out, hn]; rfl
    go_enter Tryz.func37, Tryz.ntmps37
    go_wp2_with (go_at_call 40; refine hN.mono ?_; rw [hn]; rintro e w2 ⟨rfl, hb2⟩)
    go_ret
    exact ⟨ret_b HF.out.symm, hB.trans (hb2.mono (by simp))⟩
  by_cases h20 : vs.length + ps.length ≤ 20
  case neg =>
    have HF : Hid (V = false) := by show _ = _; rw [HV.out, hn, decide_eq_false h20]; rfl
    have h20' : 20 < (vs.length : Int) + (ps.length : Int) := by omega
    have hwr : wrap64 ((vs.length : Int) + (ps.length : Int)) = (vs.length : Int) + (ps.length : Int) := by unfold wrap64; omega
    go_enter Tryz.func37, Tryz.ntmps37
    go_wp2_with (go_at_call 40; refine hN.mono ?_; rw [hn]; rintro e w2 ⟨rfl, hb2⟩)
    go_ret
    exact ⟨ret_b HF.out.symm, hB.trans (hb2.mono (by simp))⟩
  have HV2 : Hid (V = (vs.all mayVarB && (ps.all mayProcB && apartB [] (vs.map (·.name) ++ ps.map (·.name))))) := by show _ = _; rw [HV.out, hn, decide_eq_true h20]; rfl
  clear HV
  have h20' : (vs.length : Int) + (ps.length : Int) ≤ 20 := by omega
  have hwr : wrap64 ((vs.length : Int) + (ps.length : Int)) = (vs.length : Int) + (ps.length : Int) := by unfold wrap64; omega
  go_enter Tryz.func37, Tryz.ntmps37
  go_wp2_with (go_at_call 40; refine hN.mono ?_; rw [hn]; rintro e w2 ⟨rfl, hb2⟩; have q0 : w2.cell? ⟨w.heap.size, 0, none⟩ = some (.string x) := box_cell hb2 0; have q1 : w2.cell? ⟨w.heap.size, 1, none⟩ = some (.slice a vs.length c) := box_cell hb2 1; have q2 : w2.cell? ⟨w.heap.size, 2, none⟩ = some (.slice b ps.length d) := box_cell hb2 2; have r1 := fun ob => cell_new q1 ob)
  have hbw : Below w.heap.size w w2 := below_box hb2
  have hlt2 : w.heap.size < w2.heap.size := World.block_lt_of_cell? _ _ q0
  have hI0 : Inv w (w2.alloc (.map #[] 0)) w2.heap.size x (.slice a vs.length c) (.slice b ps.length d) ((vs.take 0).map (·.name)) :=
    ⟨hbw.alloc hbw.size _, cell_new q0 _, cell_new q1 _, cell_new q2 _, hlt2, World.ownsMap_made _ _ _ _⟩
  generalize w2.heap.size = B at hI0 hlt2 ⊢
  go_loopw [28] (fun t wr => ∃ j : Nat, j ≤ vs.length ∧ t = .int .i64 j ∧ Inv w wr B x (.slice a vs.length c) (.slice b ps.length d) ((vs.take j).map (·.name)) ∧ Hid (∀ i (h : i < vs.length), i < j → mayVarB vs[i] = true)) (fun t _ => vs.length - (intOf t).toNat)
  case atStart => exact ⟨0, Nat.zero_le _, rfl, hI0, fun i _ h => by omega⟩
  case round =>
    obtain ⟨j, hj, rfl, hI, HN⟩ := hrel
    clear hI0 q0 q1 q2 r1 hb2 hbw
    by_cases hlt : j < vs.length
    · obtain ⟨g, o, rfl, hc⟩ := hk (by intro e; rw [e] at hlt; simp at hlt)
      obtain ⟨k0, k1, k2, k3⟩ := hc j hlt
      have q0 := keep k0 hI.below
      have q1 := keep k1 hI.below
      have q2 := keep k2 hI.below
      have q3 := keep k3 hI.below
      clear k0 k1 k2 k3
      have hM := oMayVar vs[j] (wr.alloc (.cells #[.string vs[j].name, .bool vs[j].pub, .int .i64 vs[j].label, .int .i64 vs[j].size] 100)) (HasErr.below (HasErr.below hw hI.below) ((Below.refl _ _).alloc (Nat.le_refl _) _))
      unfold varV at hM
      cases he : mayVarB vs[j]
      · have HF : Hid (V = false) := by show _ = _; rw [HV2.out, all_no j hlt he]; rfl
        rw [he] at hM
        go_wp2_with (go_at_call 63; refine hM.mono ?_; rintro e w3 ⟨rfl, hb3⟩)
        go_ret
        exact ⟨ret_b HF.out.symm, (hI.next (below_box hb3)).below⟩
      · have HE : Hid (mayVarB vs[j] = true) := he
        rw [he] at hM
        have hkey := key_name (mayVar_name he)
        have hlen : ((vs.take j).map (·.name)).length < maxLen := by unfold maxLen; simp; omega
        go_wp2_with first
          | (go_at_call 63; refine hM.mono ?_; rintro e w3 ⟨rfl, hb3⟩; have hI3 := hI.next (below_box hb3); have r0 : w3.cell? ⟨wr.heap.size, 0, none⟩ = some (.string vs[j].name) := box_cell hb3 0)
          | (at_mapUpdate; refine wpList_mapUpdate_own _ rfl _ _ _ 111 rfl 9 64 lawS Tryz.underlying111 (unitElem (H := Unit)) B _ _ rfl hI3.own hlen _ _ _ rfl rfl hkey _ [] unitElem_mk ?_; intro w5 hown5 hgrow5)
          | go_in
        go_roundw
        case rel => exact ⟨j + 1, by omega, by go_num, by rw [take_next _ _ _ hlt]; exact hI3.put hgrow5 hown5, fun i h h1 => by
          rcases Nat.lt_or_ge i j with h3 | h3
          · exact HN.out i h h3
          · have : i = j := by omega
            subst this
            exact HE.out⟩
        case measure => simp [intOf]; omega
    · have HA : Hid (V = (ps.all mayProcB && apartB [] (vs.map (·.name) ++ ps.map (·.name)))) := by show _ = _; rw [HV2.out, all_yes (fun i h => HN.out i h (by omega))]; rfl
      clear HV2 HN hk
      rw [List.take_of_length_le (by omega)] at hI
      have q2 := hI.c2
      go_wp2
      go_loopw [43] (fun t wr => ∃ j : Nat, j ≤ ps.length ∧ t = .int .i64 j ∧ Inv w wr B x (.slice a vs.length c) (.slice b ps.length d) (vs.map (·.name) ++ (ps.take j).map (·.name)) ∧ Hid (∀ i (h : i < ps.length), i < j → mayProcB ps[i] = true)) (fun t _ => ps.length - (intOf t).toNat)
      case atStart => exact ⟨0, Nat.zero_le _, rfl, by simpa using hI, fun i _ h => by omega⟩
      case round =>
        clear hI q2
        obtain ⟨j, hj, rfl, hI, HN⟩ := hrel
        by_cases hlt : j < ps.length
        · obtain ⟨g, o, rfl, hc⟩ := hk2 (by intro e; rw [e] at hlt; simp at hlt)
          obtain ⟨k0, k1, ⟨y, k2, hy⟩, k3, k4, k5⟩ := hc j hlt
          have hy' := hy
          obtain ⟨ay, cy, rfl, _, _⟩ := hy'
          have q0 := keep k0 hI.below
          have q1 := keep k1 hI.below
          have q2 := keep k2 hI.below
          have q3 := keep k3 hI.below
          have q4 := keep k4 hI.below
          have q5 := keep k5 hI.below
          clear k0 k1 k2 k3 k4 k5
          have hA1 := (Below.refl wr.heap.size wr).alloc (Nat.le_refl _) (.cells #[.string ps[j].name, .bool ps[j].pub, .slice ay ps[j].params.length cy, .int .i64 ps[j].writes, .bool ps[j].gives, .int .i64 ps[j].given] 102)
          have hM := oMayProc ps[j] _ _ (HasErr.below (HasErr.below hw hI.below) hA1) ((hy.below hI.below).below hA1)
          clear hA1
          unfold procV at hM
          cases he : mayProcB ps[j]
          · have HF : Hid (V = false) := by show _ = _; rw [HA.out, all_no j hlt he]; rfl
            rw [he] at hM
            go_wp2_with (go_at_call 64; refine hM.mono ?_; rintro e w3 ⟨rfl, hb3⟩)
            go_ret
            exact ⟨ret_b HF.out.symm, (hI.next (below_box hb3)).below⟩
          · have HE : Hid (mayProcB ps[j] = true) := he
            rw [he] at hM
            have hkey := key_name (mayProc_name he)
            have hlen : (vs.map (·.name) ++ (ps.take j).map (·.name)).length < maxLen := by unfold maxLen; simp; omega
            go_wp2_with first
              | (go_at_call 64; refine hM.mono ?_; rintro e w3 ⟨rfl, hb3⟩; have hI3 := hI.next (below_box hb3); have r0 : w3.cell? ⟨wr.heap.size, 0, none⟩ = some (.string ps[j].name) := box_cell hb3 0)
              | (at_mapUpdate; refine wpList_mapUpdate_own _ rfl _ _ _ 111 rfl 9 64 lawS Tryz.underlying111 (unitElem (H := Unit)) B _ _ rfl hI3.own hlen _ _ _ rfl rfl hkey _ [] unitElem_mk ?_; intro w5 hown5 hgrow5)
              | go_in
            go_roundw
            case rel => exact ⟨j + 1, by omega, by go_num, by rw [take_next _ _ _ hlt, ← List.append_assoc]; exact hI3.put hgrow5 hown5, fun i h h1 => by
              rcases Nat.lt_or_ge i j with h3 | h3
              · exact HN.out i h h3
              · have : i = j := by omega
                subst this
                exact HE.out⟩
            case measure => simp [intOf]; omega
        · rw [List.take_of_length_le (by omega)] at hI
          have HB : Hid (V = ((Maps.size (setD (vs.map (·.name) ++ ps.map (·.name))) : Int) == (vs.length : Int) + (ps.length : Int))) := by
            show _ = _
            rw [HA.out, all_yes (fun i h => HN.out i h (by omega)), ← setD_size]
            simp only [List.length_append, List.length_map, Bool.true_and]
            rw [Bool.eq_iff_iff]
            simp only [beq_iff_eq]
            omega
          have hown := hI.own
          have hfin := hI.below
          clear HN HA hI hk2
          generalize (vs.map (·.name) ++ ps.map (·.name)).length = L at hown
          generalize setD (vs.map (·.name) ++ ps.map (·.name)) = D at hown HB
          go_wp2_with first
            | (at_len; refine wpList_len_own _ rfl _ 111 rfl 9 64 Tryz.underlying111 (unitElem (H := Unit)) B _ _ rfl hown ?_)
            | go_in
          go_ret
          exact ⟨ret_b HB.out.symm, hfin⟩
end Go.Proofs.YthfeojjfehbgjaaGreatDoor.face
