/- What the program's May answers: a contract. The names that are known lie in a map of its own. What the node of a module looks like: its names are names. No Go in sight. A module that has no fault has a face that may be; and with a label that is turned it may be, too, and is another one. No Go in sight. -/
import Derived.Test.YtchhpinmoagkhaaGreatDoorProg
import Derived.WalkKit
import Derived.WalkLawsBesides
import Derived.Outline
import Derived.WalkSmall
import Derived.BigQuiet
import Derived.Deep.QuietTactic
import Derived.Deep.RegionWith
import Derived.Maps.OwnSet
import Derived.Test.YtchhpinmoagkhaaGreatDoorNGb
import Derived.Test.YtchhpinmoagkhaaGreatDoorNFi
import Derived.Test.YtchhpinmoagkhaaGreatDoorNFn
import Derived.Test.YtchhpinmoagkhaaGreatDoorNPa
import Derived.Test.YtchhpinmoagkhaaGreatDoorNFm
namespace Go.Proofs.YtchhpinmoagkhaaGreatDoor.face
open Go.RowKit Go.Maps Go.WideMaps
open Go.Proofs.YtchhpinmoagkhaaGreatDoor.lexs (HasErr)
open Go.Proofs.YtchhpinmoagkhaaGreatDoor.syn (isName eqS)
set_option linter.unusedVariables false
set_option linter.unusedSimpArgs false
set_option maxRecDepth 100000

structure Inv (w wr : World) (B : Nat) (x : ByteArray) (vv pv : Value) (l : List ByteArray) : Prop where
  below : Below w.heap.size w wr
  c0 : wr.cell? ⟨w.heap.size, 0, none⟩ = some (.string x)
  c1 : wr.cell? ⟨w.heap.size, 1, none⟩ = some vv
  c2 : wr.cell? ⟨w.heap.size, 2, none⟩ = some pv
  lt : w.heap.size < B
  own : wr.ownsMap Tryz.prog 9 (unitElem (H := Unit)) B l.length (setD l)
theorem Inv.next {w wr w2 : World} {B : Nat} {x : ByteArray} {vv pv : Value} {l : List ByteArray} (h : Inv w wr B x vv pv l) (hb : Below wr.heap.size wr w2) : Inv w w2 B x vv pv l :=
  ⟨h.below.trans (hb.mono h.below.size), keep h.c0 hb, keep h.c1 hb, keep h.c2 hb, h.lt, h.own.kept (grown_of_below hb) (by simp)⟩
theorem Inv.put {w wr w2 : World} {B : Nat} {x y : ByteArray} {vv pv : Value} {l : List ByteArray} (h : Inv w wr B x vv pv l) (hg : wr.grownBy w2 (some B)) (ho : w2.ownsMap Tryz.prog 9 (unitElem (H := Unit)) B (l.length + 1) ((setD l).put (keyL y) (.agg []))) :
    Inv w w2 B x vv pv (l ++ [y]) := by
  have hne : some w.heap.size ≠ some B := by have := h.lt; simp; omega
  refine ⟨h.below.grown hg h.below.size (fun k hk => ?_), grown_cell hg h.c0 hne, grown_cell hg h.c1 hne, grown_cell hg h.c2 hne, h.lt, ?_⟩
  · cases hk
    exact Nat.le_of_lt h.lt
  · rw [setD_snoc, List.length_append]
    exact ho
theorem below_box {w w2 : World} {o : Obj} (hb : Below (w.alloc o).heap.size (w.alloc o) w2) : Below w.heap.size w w2 :=
  ((Below.refl _ _).alloc (Nat.le_refl _) o).trans (hb.mono (by simp))
theorem mayVar_name {v : VarD} (h : mayVarB v = true) : isName v.name = true := by
  unfold mayVarB at h
  simp only [Bool.and_eq_true] at h
  exact h.1
theorem mayProc_name {v : ProcD} (h : mayProcB v = true) : isName v.name = true := by
  unfold mayProcB at h
  simp only [Bool.and_eq_true] at h
  exact h.1
theorem take_next {α β : Type} (f : α → β) (l : List α) (j : Nat) (h : j < l.length) : (l.take (j + 1)).map f = (l.take j).map f ++ [f l[j]] := by
  rw [List.take_add_one, List.map_append, List.getElem?_eq_getElem h]
  rfl
set_option maxHeartbeats 4000000 in
theorem oMay (f : FaceD) (u : Value) (w : World) (hw : HasErr w) (hu : FaceIn w u f) :
    Calls Tryz.prog 17 #[u] w fun e w' => e = .returned (.bool (mayB f)) ∧ Below w.heap.size w w' := by
  have c3 : Tryz.prog.cellsOf 38 = 3 := cell3
  have c4 : Tryz.prog.cellsOf 45 = 4 := cell4
  have c6 : Tryz.prog.cellsOf 70 = 6 := cell6
  have hmm := @run_makeMap Tryz.prog
  obtain ⟨vv, pv, rfl, hvs, hps⟩ := hu
  obtain ⟨x, vs, ps⟩ := f
  simp only at hvs hps ⊢
  obtain ⟨a, c, rfl, hl, hk⟩ := hvs
  obtain ⟨b, d, rfl, hl2, hk2⟩ := hps
  have hB := (Below.refl w.heap.size w).alloc (Nat.le_refl _) (.cells #[.string x, .slice a vs.length c, .slice b ps.length d] 38)
  have hN := oName x _ (HasErr.below hw hB)
  obtain ⟨V, hV⟩ : ∃ V, V = mayB ⟨x, vs, ps⟩ := ⟨_, rfl⟩
  rw [← hV]
  have HV : Hid (V = (isName x && (decide (vs.length + ps.length ≤ 20) && (vs.all mayVarB && (ps.all mayProcB && apartB [] (namesOf ⟨x, vs, ps⟩)))))) := hV
  clear hV
  cases hn : isName x
  case false =>
    have HF : Hid (V = false) := by show _ = _; rw [HV.out, hn]; rfl
    go_enter Tryz.func17, Tryz.ntmps17
    go_wp2_with (go_at_call 37; refine hN.mono ?_; rw [hn]; rintro e w2 ⟨rfl, hb2⟩)
    go_ret
    exact ⟨ret_b HF.out.symm, hB.trans (hb2.mono (by simp))⟩
  by_cases h20 : vs.length + ps.length ≤ 20
  case neg =>
    have HF : Hid (V = false) := by show _ = _; rw [HV.out, hn, decide_eq_false h20]; rfl
    have h20' : 20 < (vs.length : Int) + (ps.length : Int) := by omega
    have hwr : wrap64 ((vs.length : Int) + (ps.length : Int)) = (vs.length : Int) + (ps.length : Int) := by unfold wrap64; omega
    go_enter Tryz.func17, Tryz.ntmps17
    go_wp2_with (go_at_call 37; refine hN.mono ?_; rw [hn]; rintro e w2 ⟨rfl, hb2⟩)
    go_ret
    exact ⟨ret_b HF.out.symm, hB.trans (hb2.mono (by simp))⟩
  have HV2 : Hid (V = (vs.all mayVarB && (ps.all mayProcB && apartB [] (vs.map (·.name) ++ ps.map (·.name))))) := by show _ = _; rw [HV.out, hn, decide_eq_true h20]; rfl
  clear HV
  have h20' : (vs.length : Int) + (ps.length : Int) ≤ 20 := by omega
  have hwr : wrap64 ((vs.length : Int) + (ps.length : Int)) = (vs.length : Int) + (ps.length : Int) := by unfold wrap64; omega
  go_enter Tryz.func17, Tryz.ntmps17
  go_wp2_with (go_at_call 37; refine hN.mono ?_; rw [hn]; rintro e w2 ⟨rfl, hb2⟩; have q0 : w2.cell? ⟨w.heap.size, 0, none⟩ = some (.string x) := box_cell hb2 0; have q1 : w2.cell? ⟨w.heap.size, 1, none⟩ = some (.slice a vs.length c) := box_cell hb2 1; have q2 : w2.cell? ⟨w.heap.size, 2, none⟩ = some (.slice b ps.length d) := box_cell hb2 2; have r1 := fun ob => cell_new q1 ob)
  have hbw : Below w.heap.size w w2 := below_box hb2
  have hlt2 : w.heap.size < w2.heap.size := World.block_lt_of_cell? _ _ q0
  have hI0 : Inv w (w2.alloc (.map #[] 0)) w2.heap.size x (.slice a vs.length c) (.slice b ps.length d) ((vs.take 0).map (·.name)) :=
    ⟨hbw.alloc hbw.size _, cell_new q0 _, cell_new q1 _, cell_new q2 _, hlt2, World.ownsMap_made _ _ _ _⟩
  generalize w2.heap.size = B at hI0 hlt2 ⊢
  go_loopw [28] (fun t wr => ∃ j : Nat, j ≤ vs.length ∧ t = .int .i64 j ∧ Inv w wr B x (.slice a vs.length c) (.slice b ps.length d) ((vs.take j).map (·.name)) ∧ Hid (∀ i (h : i < vs.length), i < j → mayVarB vs[i] = true)) (fun t _ => vs.length - (intOf t).toNat)
  case atStart => exact ⟨0, Nat.zero_le _, rfl, hI0, fun i _ h => by omega⟩
  case round =>
    obtain ⟨j, hj, rfl, hI, HN⟩ := hrel
    clear hI0 q0 q1 q2 r1 hb2 hbw
    by_cases hlt : j < vs.length
    · obtain ⟨g, o, rfl, hc⟩ := hk (by intro e; rw [e] at hlt; simp at hlt)
      obtain ⟨k0, k1, k2, k3⟩ := hc j hlt
      have q0 := keep k0 hI.below
      have q1 := keep k1 hI.below
      have q2 := keep k2 hI.below
      have q3 := keep k3 hI.below
      clear k0 k1 k2 k3
      have hM := oMayVar vs[j] (wr.alloc (.cells #[.string vs[j].name, .bool vs[j].pub, .int .i64 vs[j].label, .int .i64 vs[j].size] 45)) (HasErr.below (HasErr.below hw hI.below) ((Below.refl _ _).alloc (Nat.le_refl _) _))
      unfold varV at hM
      cases he : mayVarB vs[j]
      · have HF : Hid (V = false) := by show _ = _; rw [HV2.out, all_no j hlt he]; rfl
        rw [he] at hM
        go_wp2_with (go_at_call 38; refine hM.mono ?_; rintro e w3 ⟨rfl, hb3⟩)
        go_ret
        exact ⟨ret_b HF.out.symm, (hI.next (below_box hb3)).below⟩
      · have HE : Hid (mayVarB vs[j] = true) := he
        rw [he] at hM
        have hkey := key_name (mayVar_name he)
        have hlen : ((vs.take j).map (·.name)).length < maxLen := by unfold maxLen; simp; omega
        go_wp2_with first
          | (go_at_call 38; refine hM.mono ?_; rintro e w3 ⟨rfl, hb3⟩; have hI3 := hI.next (below_box hb3); have r0 : w3.cell? ⟨wr.heap.size, 0, none⟩ = some (.string vs[j].name) := box_cell hb3 0)
          | (at_mapUpdate; refine wpList_mapUpdate_own _ rfl _ _ _ 72 rfl 9 74 lawS Tryz.underlying72 (unitElem (H := Unit)) B _ _ rfl hI3.own hlen _ _ _ rfl rfl hkey _ [] unitElem_mk ?_; intro w5 hown5 hgrow5)
          | go_in
        go_roundw
        case rel => exact ⟨j + 1, by omega, by go_num, by rw [take_next _ _ _ hlt]; exact hI3.put hgrow5 hown5, fun i h h1 => by
          rcases Nat.lt_or_ge i j with h3 | h3
          · exact HN.out i h h3
          · have : i = j := by omega
            subst this
            exact HE.out⟩
        case measure => simp [intOf]; omega
    · have HA : Hid (V = (ps.all mayProcB && apartB [] (vs.map (·.name) ++ ps.map (·.name)))) := by show _ = _; rw [HV2.out, all_yes (fun i h => HN.out i h (by omega))]; rfl
      clear HV2 HN hk
      rw [List.take_of_length_le (by omega)] at hI
      have q2 := hI.c2
      go_wp2
      go_loopw [43] (fun t wr => ∃ j : Nat, j ≤ ps.length ∧ t = .int .i64 j ∧ Inv w wr B x (.slice a vs.length c) (.slice b ps.length d) (vs.map (·.name) ++ (ps.take j).map (·.name)) ∧ Hid (∀ i (h : i < ps.length), i < j → mayProcB ps[i] = true)) (fun t _ => ps.length - (intOf t).toNat)
      case atStart => exact ⟨0, Nat.zero_le _, rfl, by simpa using hI, fun i _ h => by omega⟩
      case round =>
        clear hI q2
        obtain ⟨j, hj, rfl, hI, HN⟩ := hrel
        by_cases hlt : j < ps.length
        · obtain ⟨g, o, rfl, hc⟩ := hk2 (by intro e; rw [e] at hlt; simp at hlt)
          obtain ⟨k0, k1, ⟨y, k2, hy⟩, k3, k4, k5⟩ := hc j hlt
          have hy' := hy
          obtain ⟨ay, cy, rfl, _, _⟩ := hy'
          have q0 := keep k0 hI.below
          have q1 := keep k1 hI.below
          have q2 := keep k2 hI.below
          have q3 := keep k3 hI.below
          have q4 := keep k4 hI.below
          have q5 := keep k5 hI.below
          clear k0 k1 k2 k3 k4 k5
          have hA1 := (Below.refl wr.heap.size wr).alloc (Nat.le_refl _) (.cells #[.string ps[j].name, .bool ps[j].pub, .slice ay ps[j].params.length cy, .int .i64 ps[j].writes, .bool ps[j].gives, .int .i64 ps[j].given] 70)
          have hM := oMayProc ps[j] _ _ (HasErr.below (HasErr.below hw hI.below) hA1) ((hy.below hI.below).below hA1)
          clear hA1
          unfold procV at hM
          cases he : mayProcB ps[j]
          · have HF : Hid (V = false) := by show _ = _; rw [HA.out, all_no j hlt he]; rfl
            rw [he] at hM
            go_wp2_with (go_at_call 39; refine hM.mono ?_; rintro e w3 ⟨rfl, hb3⟩)
            go_ret
            exact ⟨ret_b HF.out.symm, (hI.next (below_box hb3)).below⟩
          · have HE : Hid (mayProcB ps[j] = true) := he
            rw [he] at hM
            have hkey := key_name (mayProc_name he)
            have hlen : (vs.map (·.name) ++ (ps.take j).map (·.name)).length < maxLen := by unfold maxLen; simp; omega
            go_wp2_with first
              | (go_at_call 39; refine hM.mono ?_; rintro e w3 ⟨rfl, hb3⟩; have hI3 := hI.next (below_box hb3); have r0 : w3.cell? ⟨wr.heap.size, 0, none⟩ = some (.string ps[j].name) := box_cell hb3 0)
              | (at_mapUpdate; refine wpList_mapUpdate_own _ rfl _ _ _ 72 rfl 9 74 lawS Tryz.underlying72 (unitElem (H := Unit)) B _ _ rfl hI3.own hlen _ _ _ rfl rfl hkey _ [] unitElem_mk ?_; intro w5 hown5 hgrow5)
              | go_in
            go_roundw
            case rel => exact ⟨j + 1, by omega, by go_num, by rw [take_next _ _ _ hlt, ← List.append_assoc]; exact hI3.put hgrow5 hown5, fun i h h1 => by
              rcases Nat.lt_or_ge i j with h3 | h3
              · exact HN.out i h h3
              · have : i = j := by omega
                subst this
                exact HE.out⟩
            case measure => simp [intOf]; omega
        · rw [List.take_of_length_le (by omega)] at hI
          have HB : Hid (V = ((Maps.size (setD (vs.map (·.name) ++ ps.map (·.name))) : Int) == (vs.length : Int) + (ps.length : Int))) := by
            show _ = _
            rw [HA.out, all_yes (fun i h => HN.out i h (by omega)), ← setD_size]
            simp only [List.length_append, List.length_map, Bool.true_and]
            rw [Bool.eq_iff_iff]
            simp only [beq_iff_eq]
            omega
          have hown := hI.own
          have hfin := hI.below
          clear HN HA hI hk2
          generalize (vs.map (·.name) ++ ps.map (·.name)).length = L at hown
          generalize setD (vs.map (·.name) ++ ps.map (·.name)) = D at hown HB
          go_wp2_with first
            | (at_len; refine wpList_len_own _ rfl _ 72 rfl 9 74 Tryz.underlying72 (unitElem (H := Unit)) B _ _ rfl hown ?_)
            | go_in
          go_ret
          exact ⟨ret_b HB.out.symm, hfin⟩
end Go.Proofs.YtchhpinmoagkhaaGreatDoor.face
namespace Go.Proofs.YtchhpinmoagkhaaGreatDoor.face
open Go.Proofs.YtchhpinmoagkhaaGreatDoor.lexs (Tok scan scan_len)
open Go.Proofs.YtchhpinmoagkhaaGreatDoor.syn
set_option linter.unusedVariables false

def Kid.named : Kid → Prop
  | .imp x => isName x = true
  | .var x _ _ _ => isName x = true
  | .proc x _ _ _ ps _ => isName x = true ∧ ∀ q ∈ ps, isName q.1 = true
theorem name_short {x : ByteArray} (h : isName x = true) : x.size ≤ 16 := by
  unfold isName at h
  simp only [Bool.and_eq_true, decide_eq_true_eq] at h
  exact h.1.1.1.2
section
variable (ts : List Tok)
theorem ok_of {s t : St} (hst : s.bad = true → t = s) (h : t.bad = false) : s.bad = false := by
  cases hs : s.bad
  · rfl
  · rw [hst hs, hs] at h; cases h
theorem name_named {s : St} (h : (name ts s).2.bad = false) : isName (name ts s).1 = true ∧ s.bad = false := by
  refine ⟨?_, ok_of (fun hs => name_st hs) h⟩
  unfold name at h ⊢
  split
  · assumption
  · rename_i hn
    rw [if_neg hn] at h
    simp [St.fail] at h
theorem next_bad (s : St) : s.next.bad = s.bad := rfl
theorem txt_bad_eq {s : St} (h : s.bad = true) (x : ByteArray) (hx : 0 < x.size) : eqS (txt ts s) x = false := eqS_bad hx h
theorem paramsL_st : ∀ (f : Nat) (ks : List Tree) (s : St) (q : List Tree × St), s.bad = true → paramsL ts f ks s = some q → q.2 = s
  | 0, ks, s, q, hb, h => by unfold paramsL at h; cases h
  | f + 1, ks, s, q, hb, h => by
    unfold paramsL at h
    rw [label_st hb, name_st hb, eqS_bad (by decide) hb, if_neg (by decide)] at h
    cases h
    rfl
theorem params_st (f : Nat) (s : St) (q : List Tree × St) (hb : s.bad = true) (h : params ts f s = some q) : q.2 = s := by
  unfold params at h
  rw [eqS_bad (by decide) hb, if_neg (by decide)] at h
  exact paramsL_st ts f [] s q hb h
theorem paramsL_is3 : ∀ (f : Nat) (ps : List (ByteArray × Bool)) (s : St) (q : List Tree × St), (∀ q ∈ ps, isName q.1 = true) → paramsL ts f (ps.map parT) s = some q → q.2.bad = false → ∃ ps' : List (ByteArray × Bool), q.1 = ps'.map parT ∧ ∀ q ∈ ps', isName q.1 = true
  | 0, ps, s, q, hs, h, hb => by unfold paramsL at h; cases h
  | f + 1, ps, s, q, hs, h, hb => by
    unfold paramsL at h
    obtain ⟨l, hl⟩ := label_is ts s
    have e : ps.map parT ++ [.node 5 (name ts (label ts s).2).1 (label ts s).1 []] = (ps ++ [((name ts (label ts s).2).1, l)]).map parT := by
      rw [List.map_append, hl]; rfl
    rw [e] at h
    have key : (name ts (label ts s).2).2.bad = false → ∀ q ∈ ps ++ [((name ts (label ts s).2).1, l)], isName q.1 = true := by
      intro hn q hq
      rw [List.mem_append] at hq
      rcases hq with hq | hq
      · exact hs q hq
      · simp only [List.mem_singleton] at hq; subst hq; exact (name_named ts hn).1
    split at h
    · have h1 : (name ts (label ts s).2).2.next.bad = false := ok_of (fun hx => paramsL_st ts f _ _ _ hx h) hb
      exact paramsL_is3 f _ _ _ (key h1) h hb
    · cases h; exact ⟨_, rfl, key hb⟩
theorem givesS_st {s : St} (h : s.bad = true) : givesS ts s = s := by
  unfold givesS
  rw [label_st h, eqS_bad (by decide) h, if_neg (by decide)]
theorem varS_st {s : St} (h : s.bad = true) : (varS ts s).2 = s := by
  unfold varS
  rw [eqS_bad (by decide) h, if_neg (by decide)]
theorem pubS_st {s : St} (h : s.bad = true) : pubS ts s = s := by
  unfold pubS
  rw [eqS_bad (by decide) h, if_neg (by decide)]
theorem decl_is3 (f : Nat) (s : St) (q : Tree × St) (h : declF ts f s = some q) (hbad : q.2.bad = false) : ∃ k : Kid, q.1 = k.tree ∧ k.good ∧ k.named ∧ s.bad = false := by
  unfold declF at h
  obtain ⟨p, hp⟩ := pub_is ts s
  rw [hp] at h
  split at h
  · obtain ⟨a, ha, h⟩ := Option.bind_eq_some_iff.1 h
    obtain ⟨b, hb, h⟩ := Option.bind_eq_some_iff.1 h
    cases h
    have b1 : (givesS ts (must ts ⟨#[41]⟩ a.2)).bad = false := ok_of (fun hx => (stuck2 ts f).bk _ _ hx hb) hbad
    have b2 : (must ts ⟨#[41]⟩ a.2).bad = false := ok_of (fun hx => givesS_st ts hx) b1
    have b3 : a.2.bad = false := ok_of (fun hx => must_st (by decide) hx) b2
    have b4 : (must ts ⟨#[40]⟩ (name ts (pubS ts s).next).2).bad = false := ok_of (fun hx => params_st ts f _ _ hx ha) b3
    have b5 : (name ts (pubS ts s).next).2.bad = false := ok_of (fun hx => must_st (by decide) hx) b4
    obtain ⟨n1, b6⟩ := name_named ts b5
    have b7 : s.bad = false := ok_of (fun hx => pubS_st ts hx) b6
    obtain ⟨ps, hps, hsz⟩ : ∃ ps : List (ByteArray × Bool), a.1 = ps.map parT ∧ ∀ q ∈ ps, isName q.1 = true := by
      unfold params at ha
      split at ha
      · cases ha; exact ⟨[], rfl, fun q hq => by cases hq⟩
      · exact paramsL_is3 ts f [] _ _ (fun q hq => by cases hq) ha b3
    obtain ⟨l, g, hg⟩ := gives_is ts p (must ts ⟨#[41]⟩ a.2)
    refine ⟨.proc (name ts (pubS ts s).next).1 p l g ps b.1, ?_, ⟨name_size ts _, fun q hq => name_short (hsz q hq), (inS ts f).bl _ _ hb⟩, ⟨n1, hsz⟩, b7⟩
    show Tree.node 4 _ _ _ = Tree.node 4 _ _ _
    rw [hg, hps]
  · cases h
    have b1 : (varS ts (name ts (label ts (pubS ts s)).2).2).2.bad = false := ok_of (fun hx => must_st (by decide) hx) hbad
    have b2 : (name ts (label ts (pubS ts s)).2).2.bad = false := ok_of (fun hx => varS_st ts hx) b1
    obtain ⟨n1, b3⟩ := name_named ts b2
    have b4 : (pubS ts s).bad = false := ok_of (fun hx => label_st hx) b3
    have b5 : s.bad = false := ok_of (fun hx => pubS_st ts hx) b4
    obtain ⟨l, hl⟩ := label_is ts (pubS ts s)
    rw [hl]
    unfold varS
    split
    · obtain ⟨n, hn⟩ := number_is ts (name ts (label ts (pubS ts s)).2).2.next
      rw [hn]
      exact ⟨.var _ p l (some n), rfl, name_size ts _, n1, b5⟩
    · exact ⟨.var _ p l none, rfl, name_size ts _, n1, b5⟩
theorem importsL_st (f : Nat) (ks : List Tree) (s : St) (q : List Tree × St) (hb : s.bad = true) (h : importsL ts f ks s = some q) : q.2 = s := by
  cases f with
  | zero => unfold importsL at h; cases h
  | succ f =>
    unfold importsL at h
    rw [eqS_bad (by decide) hb, if_neg (by decide)] at h
    cases h
    rfl
theorem importsL_is3 : ∀ (f : Nat) (ks : List Kid) (s : St) (q : List Tree × St), (∀ k ∈ ks, k.good ∧ k.named) → importsL ts f (ks.map Kid.tree) s = some q → q.2.bad = false → ∃ ks' : List Kid, q.1 = ks'.map Kid.tree ∧ ∀ k ∈ ks', k.good ∧ k.named
  | 0, ks, s, q, hk, h, hb => by unfold importsL at h; cases h
  | f + 1, ks, s, q, hk, h, hb => by
    unfold importsL at h
    split at h
    · have e : ks.map Kid.tree ++ [.node 2 (name ts s.next).1 0 []] = (ks ++ [Kid.imp (name ts s.next).1]).map Kid.tree := by rw [List.map_append]; rfl
      rw [e] at h
      have b1 : (must ts ⟨#[59]⟩ (name ts s.next).2).bad = false := ok_of (fun hx => importsL_st ts f _ _ _ hx h) hb
      have b2 : (name ts s.next).2.bad = false := ok_of (fun hx => must_st (by decide) hx) b1
      refine importsL_is3 f _ _ _ ?_ h hb
      intro k hm
      rw [List.mem_append] at hm
      rcases hm with hm | hm
      · exact hk k hm
      · simp only [List.mem_singleton] at hm; subst hm; exact ⟨name_size ts _, (name_named ts b2).1⟩
    · cases h; exact ⟨ks, rfl, hk⟩
theorem declsL_st (f : Nat) (ks : List Tree) (s : St) (q : List Tree × St) (hb : s.bad = true) (h : declsL ts f ks s = some q) : q.2 = s := by
  cases f with
  | zero => unfold declsL at h; cases h
  | succ f =>
    unfold declsL at h
    rw [hb, Bool.true_or, if_pos rfl] at h
    cases h
    rfl
theorem declsL_is3 : ∀ (f : Nat) (ks : List Kid) (s : St) (q : List Tree × St), (∀ k ∈ ks, k.good ∧ k.named) → declsL ts f (ks.map Kid.tree) s = some q → q.2.bad = false → ∃ ks' : List Kid, q.1 = ks'.map Kid.tree ∧ ∀ k ∈ ks', k.good ∧ k.named
  | 0, ks, s, q, hk, h, hb => by unfold declsL at h; cases h
  | f + 1, ks, s, q, hk, h, hb => by
    unfold declsL at h
    split at h
    · cases h; exact ⟨ks, rfl, hk⟩
    · obtain ⟨p, hp, h⟩ := Option.bind_eq_some_iff.1 h
      have b1 : p.2.bad = false := ok_of (fun hx => declsL_st ts f _ _ _ hx h) hb
      obtain ⟨k, hk1, hk2, hk3, _⟩ := decl_is3 ts _ _ _ hp b1
      have e : ks.map Kid.tree ++ [p.1] = (ks ++ [k]).map Kid.tree := by rw [List.map_append, hk1]; rfl
      rw [e] at h
      refine declsL_is3 f _ _ _ ?_ h hb
      intro k' hm
      rw [List.mem_append] at hm
      rcases hm with hm | hm
      · exact hk k' hm
      · simp only [List.mem_singleton] at hm; subst hm; exact ⟨hk2, hk3⟩
end
/-- THE SHAPE: of every text that is a module -/
theorem parse_shape3 (x : ByteArray) (h : (parse x).code = 0) : ∃ (m : ByteArray) (ks : List Kid), (parse x).tree = .node 1 m 0 (ks.map Kid.tree) ∧ m.size ≤ 16 ∧ isName m = true ∧ (∀ k ∈ ks, k.good ∧ k.named) ∧ fitsT (parse x).tree = true := by
  unfold parse at h ⊢
  cases hs : scan x.data.toList with
  | err c p =>
    rw [hs] at h
    exact absurd h (lexs.scan_err hs)
  | ok ts =>
    obtain ⟨p, q, hp, hq, hm⟩ := moduleF_has (ts := ts) (scan_len hs)
    rw [hs] at h
    simp only [hm] at h ⊢
    unfold judge at h ⊢
    cases hb : q.2.bad with
    | true =>
      rw [if_pos hb] at h
      simp at h
    | false =>
      rw [if_neg (by simp [hb])] at h ⊢
      cases hf : fitsT (.node 1 (headX ts) 0 q.1) with
      | false =>
        rw [if_neg (by simp [hf])] at h
        simp at h
      | true =>
        rw [if_pos rfl]
        have b1 : p.2.bad = false := ok_of (fun hx => declsL_st ts _ _ _ _ hx hq) hb
        have b2 : (headS ts).bad = false := ok_of (fun hx => importsL_st ts _ _ _ _ hx hp) b1
        have b3 : (name ts (must ts ⟨#[109, 111, 100, 117, 108, 101]⟩ ⟨0, false⟩)).2.bad = false := ok_of (fun hx => must_st (by decide) hx) b2
        obtain ⟨ks, e1, hk⟩ := importsL_is3 ts _ [] _ _ (fun k hk => by cases hk) hp b1
        rw [e1] at hq
        obtain ⟨ks', e2, hk'⟩ := declsL_is3 ts _ ks _ _ hk hq hb
        exact ⟨headX ts, ks', by show Tree.node 1 _ 0 q.1 = _; rw [e2], name_size ts _, (name_named ts b3).1, hk', hf⟩
end Go.Proofs.YtchhpinmoagkhaaGreatDoor.face
namespace Go.Proofs.YtchhpinmoagkhaaGreatDoor.face
open Go.Proofs.YtchhpinmoagkhaaGreatDoor.syn
set_option linter.unusedVariables false
set_option linter.unusedSimpArgs false

/-! names that are apart -/
def bts (l : List ByteArray) : List (List UInt8) := l.map ByteArray.toList
theorem among_iff (l : List ByteArray) (x : ByteArray) : among l x = true ↔ x.toList ∈ bts l := by
  unfold among bts
  rw [List.any_eq_true, List.mem_map]
  constructor
  · rintro ⟨y, hy, h⟩
    unfold eqS at h
    exact ⟨y, hy, by simpa using h⟩
  · rintro ⟨y, hy, h⟩
    exact ⟨y, hy, by unfold eqS; simpa using h⟩
theorem apart_iff : ∀ (l seen : List ByteArray), apartB seen l = true ↔ (bts l).Nodup ∧ ∀ x ∈ bts l, x ∉ bts seen
  | [], seen => by simp [apartB, bts]
  | y :: r, seen => by
    show (!among seen y && apartB (seen ++ [y]) r) = true ↔ _
    rw [Bool.and_eq_true, apart_iff r (seen ++ [y])]
    have h1 : (!among seen y) = true ↔ y.toList ∉ bts seen := by
      rw [← among_iff]
      cases among seen y <;> simp
    rw [h1]
    show _ ↔ (y.toList :: bts r).Nodup ∧ ∀ x ∈ y.toList :: bts r, x ∉ bts seen
    rw [List.nodup_cons]
    have h2 : bts (seen ++ [y]) = bts seen ++ [y.toList] := by simp [bts]
    rw [h2]
    constructor
    · rintro ⟨a, b, c⟩
      refine ⟨⟨fun hm => (c _ hm) (by simp), b⟩, fun x hx => ?_⟩
      rcases List.mem_cons.1 hx with rfl | hx
      · exact a
      · exact fun hs => c x hx (by simp [hs])
    · rintro ⟨⟨a, b⟩, c⟩
      refine ⟨c _ (by simp), b, fun x hx hs => ?_⟩
      rcases List.mem_append.1 hs with hs | hs
      · exact c x (by simp [hx]) hs
      · simp only [List.mem_singleton] at hs
        subst hs
        exact a hx
/-! what is known of each declaration -/
def Kid.ranged : Kid → Prop
  | .imp _ => True
  | .var _ _ _ n => ∀ k, n = some k → 1 ≤ k ∧ k ≤ 64
  | .proc _ _ _ _ ps _ => ps.length ≤ 5
theorem rangeF_none {n : Option Int} {a : Int} (h : rangeF n a = none) : ∀ k, n = some k → 1 ≤ k ∧ k ≤ 64 := by
  rintro k rfl
  have h' : (if k < 1 ∨ 64 < k then some ((6 : Int), a) else none) = none := h
  split at h'
  · cases h'
  · omega
theorem lookD_none : ∀ (K : List Kid) (ms ns : List ByteArray) (a : Int), lookD K ms ns a = none → (∀ k ∈ K, k.ranged) ∧ apartB ns (namesK K) = true
  | [], ms, ns, a, h => ⟨(fun k hk => by cases hk), rfl⟩
  | k :: r, ms, ns, a, h => by
    rw [lookD_step] at h
    cases hR : kidR k ms ns a with
    | some e => rw [hR] at h; cases h
    | none =>
      rw [hR] at h
      obtain ⟨h1, h2⟩ := lookD_none r _ _ _ h
      cases k with
      | imp x =>
        have h2' : apartB (ns ++ []) (namesK r) = true := h2
        rw [List.append_nil] at h2'
        exact ⟨fun k hk => by rcases List.mem_cons.1 hk with rfl | hk; trivial; exact h1 k hk, h2'⟩
      | var x p l n =>
        have hv : varR ns x n a = none := hR
        unfold varR at hv
        split at hv
        · cases hv
        · rename_i hm
          split at hv
          · cases hv
          · refine ⟨fun k hk => ?_, ?_⟩
            · rcases List.mem_cons.1 hk with rfl | hk
              · exact rangeF_none hv
              · exact h1 k hk
            · show (!among ns x && apartB (ns ++ [x]) (namesK r)) = true
              have h2' : apartB (ns ++ [x]) (namesK r) = true := h2
              rw [h2']
              simp [hm]
      | proc x p l g ps b =>
        have hv : procR ns x ps a = none := hR
        unfold procR at hv
        split at hv
        · cases hv
        · rename_i hm
          split at hv
          · cases hv
          · split at hv
            · cases hv
            · refine ⟨fun k hk => ?_, ?_⟩
              · rcases List.mem_cons.1 hk with rfl | hk
                · show ps.length ≤ 5
                  omega
                · exact h1 k hk
              · show (!among ns x && apartB (ns ++ [x]) (namesK r)) = true
                have h2' : apartB (ns ++ [x]) (namesK r) = true := h2
                rw [h2']
                simp [hm]
theorem lookD_names : ∀ (K : List Kid) (ms ns : List ByteArray) (a : Int), lookD K ms ns a = none → ns.length ≤ 20 → ns.length + (namesK K).length ≤ 20
  | [], ms, ns, a, h, h0 => by simpa [namesK] using h0
  | k :: r, ms, ns, a, h, h0 => by
    rw [lookD_step] at h
    cases hR : kidR k ms ns a with
    | some e => rw [hR] at h; cases h
    | none =>
      rw [hR] at h
      have h1 : (ns ++ namesK [k]).length ≤ 20 := by
        cases k with
        | imp x => simpa [namesK] using h0
        | var x p l n =>
          have hv : varR ns x n a = none := hR
          unfold varR at hv
          split at hv
          · cases hv
          · split at hv
            · cases hv
            · show (ns ++ [x]).length ≤ 20
              simp; omega
        | proc x p l g ps b =>
          have hv : procR ns x ps a = none := hR
          unfold procR at hv
          split at hv
          · cases hv
          · split at hv
            · cases hv
            · show (ns ++ [x]).length ≤ 20
              simp; omega
      have h2 := lookD_names r _ _ _ h h1
      have e : namesK (k :: r) = namesK [k] ++ namesK r := namesK_append [k] r
      rw [e, List.length_append]
      rw [List.length_append] at h2
      omega
theorem label_bI (b : Bool) : labelB (bI b) = true := by cases b <;> rfl
theorem vars_may : ∀ (K : List Kid), (∀ k ∈ K, k.ranged ∧ k.named) → (varsK false K).all mayVarB = true
  | [], _ => rfl
  | .imp _ :: r, h => vars_may r (fun k hk => h k (List.mem_cons_of_mem _ hk))
  | .proc _ _ _ _ _ _ :: r, h => vars_may r (fun k hk => h k (List.mem_cons_of_mem _ hk))
  | .var x p l n :: r, h => by
    have ih := vars_may r (fun k hk => h k (List.mem_cons_of_mem _ hk))
    obtain ⟨h1, h2⟩ := h _ (List.mem_cons_self)
    cases p with
    | false => exact ih
    | true =>
      show (mayVarB (varD x true l n) && (varsK false r).all mayVarB) = true
      rw [ih, Bool.and_true]
      have hn : isName x = true := h2
      have h3 : 0 ≤ n.getD 0 ∧ n.getD 0 ≤ 64 := by
        cases n with
        | none => simp
        | some k => have := h1 k rfl; simp; omega
      unfold mayVarB varD
      simp [hn, label_bI, h3]
theorem procs_may : ∀ (K : List Kid), (∀ k ∈ K, k.ranged ∧ k.named) → (procsK false K).all mayProcB = true
  | [], _ => rfl
  | .imp _ :: r, h => procs_may r (fun k hk => h k (List.mem_cons_of_mem _ hk))
  | .var _ _ _ _ :: r, h => procs_may r (fun k hk => h k (List.mem_cons_of_mem _ hk))
  | .proc x p l g ps b :: r, h => by
    have ih := procs_may r (fun k hk => h k (List.mem_cons_of_mem _ hk))
    obtain ⟨h1, h2⟩ := h _ (List.mem_cons_self)
    cases p with
    | false => exact ih
    | true =>
      show (mayProcB (procD x true l g ps) && (procsK false r).all mayProcB) = true
      rw [ih, Bool.and_true]
      have hn : isName x = true := h2.1
      have h3 : ps.length ≤ 5 := h1
      have h4 : (ps.map fun q => bI q.2).all labelB = true := by
        rw [List.all_eq_true]
        intro y hy
        obtain ⟨q, _, rfl⟩ := List.mem_map.1 hy
        exact label_bI _
      unfold mayProcB procD
      cases g with
      | none => simp [hn, label_bI, h3, h4, bI, labelB]
      | some v => simp [hn, label_bI, h3, h4]
/-- the names of what is pub, and that they are apart -/
def pubN (K : List Kid) : List (List UInt8) := bts ((varsK false K).map (·.name)) ++ bts ((procsK false K).map (·.name))
theorem pub_names : ∀ (K : List Kid), (bts (namesK K)).Nodup → (pubN K).Nodup ∧ ∀ x ∈ pubN K, x ∈ bts (namesK K)
  | [], h => by simp [pubN, bts, varsK, procsK]
  | .imp x :: r, h => pub_names r h
  | .var x p l n :: r, h => by
    have h' : (x.toList :: bts (namesK r)).Nodup := h
    rw [List.nodup_cons] at h'
    obtain ⟨i1, i2⟩ := pub_names r h'.2
    cases p with
    | false => exact ⟨i1, fun y hy => List.mem_cons_of_mem _ (i2 y hy)⟩
    | true =>
      show (x.toList :: pubN r).Nodup ∧ ∀ y ∈ x.toList :: pubN r, y ∈ x.toList :: bts (namesK r)
      rw [List.nodup_cons]
      refine ⟨⟨fun hx => h'.1 (i2 _ hx), i1⟩, fun y hy => ?_⟩
      rcases List.mem_cons.1 hy with rfl | hy
      · simp
      · exact List.mem_cons_of_mem _ (i2 y hy)
  | .proc x p l g ps b :: r, h => by
    have h' : (x.toList :: bts (namesK r)).Nodup := h
    rw [List.nodup_cons] at h'
    obtain ⟨i1, i2⟩ := pub_names r h'.2
    cases p with
    | false => exact ⟨i1, fun y hy => List.mem_cons_of_mem _ (i2 y hy)⟩
    | true =>
      have hp : (pubN (Kid.proc x true l g ps b :: r)).Perm (x.toList :: pubN r) := List.perm_middle
      rw [hp.nodup_iff, List.nodup_cons]
      refine ⟨⟨fun hx => h'.1 (i2 _ hx), i1⟩, fun y hy => ?_⟩
      show y ∈ x.toList :: bts (namesK r)
      rcases List.mem_cons.1 (hp.mem_iff.1 hy) with rfl | hy
      · simp
      · exact List.mem_cons_of_mem _ (i2 y hy)
theorem pub_len : ∀ K : List Kid, (varsK false K).length + (procsK false K).length ≤ (namesK K).length
  | [] => Nat.le_refl _
  | .imp _ :: r => pub_len r
  | .var x p l n :: r => by
    have := pub_len r
    cases p with
    | false => show (varsK false r).length + (procsK false r).length ≤ (namesK r).length + 1; omega
    | true => show (varsK false r).length + 1 + (procsK false r).length ≤ (namesK r).length + 1; omega
  | .proc x p l g ps b :: r => by
    have := pub_len r
    cases p with
    | false => show (varsK false r).length + (procsK false r).length ≤ (namesK r).length + 1; omega
    | true => show (varsK false r).length + ((procsK false r).length + 1) ≤ (namesK r).length + 1; omega
/-- such a face may be -/
theorem may_own {m : ByteArray} {K : List Kid} (hm : isName m = true) (hK : ∀ k ∈ K, k.named) (hl : lookD K [m] [] 1 = none) (hn : (namesK K).length ≤ 20) : mayB (faceK false m K) = true := by
  obtain ⟨h1, h2⟩ := lookD_none K _ _ _ hl
  have h3 : ∀ k ∈ K, k.ranged ∧ k.named := fun k hk => ⟨h1 k hk, hK k hk⟩
  have h4 := pub_len K
  have h5 : apartB [] (namesOf (faceK false m K)) = true := by
    rw [apart_iff]
    refine ⟨?_, fun x _ => by simp [bts]⟩
    have := (pub_names K ((apart_iff _ _).1 h2).1).1
    unfold pubN at this
    have e : bts (namesOf (faceK false m K)) = bts ((varsK false K).map (·.name)) ++ bts ((procsK false K).map (·.name)) := by
      unfold namesOf faceK bts
      rw [List.map_append]
    rw [e]
    exact this
  unfold mayB
  show (isName m && (decide ((varsK false K).length + (procsK false K).length ≤ 20) && ((varsK false K).all mayVarB && ((procsK false K).all mayProcB && apartB [] (namesOf (faceK false m K)))))) = true
  rw [hm, vars_may K h3, procs_may K h3, h5, decide_eq_true (by omega)]
  rfl
theorem no_may : mayB ⟨⟨#[]⟩, [], []⟩ = false := by
  unfold mayB
  show (isName empty && _) = false
  rw [isName_empty]
  rfl
/-! a label is turned -/
def turnV : List VarD → Nat → List VarD
  | [], _ => []
  | v :: r, 0 => { v with label := 1 - v.label } :: r
  | v :: r, k + 1 => v :: turnV r k
theorem turn_names : ∀ (l : List VarD) (k : Nat), (turnV l k).map (·.name) = l.map (·.name)
  | [], _ => rfl
  | v :: r, 0 => rfl
  | v :: r, k + 1 => by show v.name :: (turnV r k).map (·.name) = _; rw [turn_names r k]; rfl
theorem turn_len : ∀ (l : List VarD) (k : Nat), (turnV l k).length = l.length
  | [], _ => rfl
  | v :: r, 0 => rfl
  | v :: r, k + 1 => by show (turnV r k).length + 1 = _; rw [turn_len r k]; rfl
theorem label_turn {n : Int} (h : labelB n = true) : labelB (1 - n) = true := by
  unfold labelB at h ⊢
  simp only [Bool.or_eq_true, beq_iff_eq] at h ⊢
  omega
theorem turn_may : ∀ (l : List VarD) (k : Nat), l.all mayVarB = true → (turnV l k).all mayVarB = true
  | [], _, _ => rfl
  | v :: r, 0, h => by
    rw [List.all_cons, Bool.and_eq_true] at h
    show (mayVarB { v with label := 1 - v.label } && r.all mayVarB) = true
    rw [h.2, Bool.and_true]
    have h1 := h.1
    unfold mayVarB at h1 ⊢
    simp only [Bool.and_eq_true] at h1 ⊢
    exact ⟨h1.1, h1.2.1, label_turn h1.2.2.1, h1.2.2.2⟩
  | v :: r, k + 1, h => by
    rw [List.all_cons, Bool.and_eq_true] at h
    show (mayVarB v && (turnV r k).all mayVarB) = true
    rw [h.1, turn_may r k h.2]
    rfl
def turned (f : FaceD) (k : Nat) : FaceD := ⟨f.module, turnV f.vars k, f.procs⟩
theorem may_turned {f : FaceD} (h : mayB f = true) (k : Nat) : mayB (turned f k) = true := by
  unfold mayB at h ⊢
  have e : namesOf (turned f k) = namesOf f := by
    unfold namesOf turned
    rw [turn_names]
  rw [e]
  show (isName f.module && (decide ((turnV f.vars k).length + f.procs.length ≤ 20) && ((turnV f.vars k).all mayVarB && (f.procs.all mayProcB && apartB [] (namesOf f))))) = true
  rw [turn_len]
  simp only [Bool.and_eq_true] at h ⊢
  exact ⟨h.1, h.2.1, turn_may _ _ h.2.2.1, h.2.2.2⟩
theorem turn_same : ∀ (l : List VarD) (k : Nat), k < l.length → all2 sameVarB l (turnV l k) = false
  | [], _, h => by simp at h
  | v :: r, 0, h => by
    show (sameVarB v { v with label := 1 - v.label } && all2 sameVarB r r) = false
    have : (v.label == 1 - v.label) = false := by rw [beq_eq_false_iff_ne]; omega
    unfold sameVarB
    simp [this]
  | v :: r, k + 1, h => by
    show (sameVarB v v && all2 sameVarB r (turnV r k)) = false
    rw [turn_same r k (by simpa using h), Bool.and_false]
theorem same_turned {f : FaceD} (k : Nat) (hk : k < f.vars.length) : sameB f (turned f k) = false := by
  unfold sameB
  show (eqS f.module f.module && (all2 sameVarB f.vars (turnV f.vars k) && all2 sameProcB f.procs f.procs)) = false
  rw [turn_same _ _ hk]
  simp
theorem turn_cells : ∀ (l : List VarD) (k : Nat) (hk : k < l.length), varCells (turnV l k) = (varCells l).set (k * 4 + 2) (.int .i64 (1 - l[k].label))
  | [], _, h => by simp at h
  | v :: r, 0, h => rfl
  | v :: r, k + 1, h => by
    have hk : k < r.length := by simpa using h
    have ih := turn_cells r k hk
    show [Value.string v.name, .bool v.pub, .int .i64 v.label, .int .i64 v.size] ++ varCells (turnV r k) = ([Value.string v.name, .bool v.pub, .int .i64 v.label, .int .i64 v.size] ++ varCells r).set ((k + 1) * 4 + 2) (.int .i64 (1 - r[k].label))
    rw [ih, show (k + 1) * 4 + 2 = 4 + (k * 4 + 2) by omega]
    show _ = (Value.string v.name :: Value.bool v.pub :: Value.int .i64 v.label :: Value.int .i64 v.size :: varCells r).set (4 + (k * 4 + 2)) _
    rw [show 4 + (k * 4 + 2) = (k * 4 + 2) + 1 + 1 + 1 + 1 by omega]
    rfl
end Go.Proofs.YtchhpinmoagkhaaGreatDoor.face
