/- Proved: for every text without a high label, and no faces, Check never tells that something high would come to something low (law CheckLow), and the text reads afterwards as it did. Nothing else is asked but what the card says: that the listed variables hold what the program's own text lays there. -/
import Derived.Test.YthdgbmjcacephaaGreatDoorNP48
import Derived.Test.YthdgbmjcacephaaGreatDoorNP49
import Derived.Test.YthdgbmjcacephaaGreatDoorNP20
import Derived.WalkKit
import Derived.ProofKit
import Derived.OpenShut
import Derived.ShutString
import Derived.Below
import Derived.ChangeOld
import Derived.Deep.DeepHandedRow
import Derived.Test.YthdgbmjcacephaaGreatDoorNPq
namespace Go.Proofs.YthdgbmjcacephaaGreatDoor.chk
open Go.RowKit Go.Shelf
open Go.Proofs.YthdgbmjcacephaaGreatDoor.syn Go.Proofs.YthdgbmjcacephaaGreatDoor.face
set_option linter.unusedVariables false
set_option linter.unusedSimpArgs false
set_option maxRecDepth 100000
theorem small_parse:(parse ⟨#[109,111,100,117,108,101,32,109,59]⟩).code=0∧(parse ⟨#[109,111,100,117,108,101,32,109,59]⟩).tree=.node 1 ⟨#[109]⟩ 0 []:=by
  have h1:(parse ⟨#[109,111,100,117,108,101,32,109,59]⟩).code=0:=by kernel_rfl
  have h2:(parse ⟨#[109,111,100,117,108,101,32,109,59]⟩).tree=.node 1 ⟨#[109]⟩ 0 []:=by kernel_rfl
  exact ⟨h1,h2⟩
theorem small_ck:ckF ⟨#[109,111,100,117,108,101,32,109,59]⟩ [] ⟨#[109]⟩ []=(0,0):=by
  unfold ckF
  rw [if_neg (by decide),if_neg (by rw [small_parse.1];decide)]
  rfl
theorem faces_nil (w:World):FacesIn w (.slice none 0 0) []:=⟨none,0,rfl,by simp,fun h=>absurd rfl h⟩
theorem oCheckSmall (w:World) (hw:HasAll w):Calls Tryz.prog 9 #[.string ⟨#[109,111,100,117,108,101,32,109,59]⟩,.slice none 0 0] w fun e w'=>∃ a c,e=.returned (.tuple #[.agg #[.int .i64 1,.string ⟨#[109]⟩,.int .i64 0,.slice a 0 c],.agg #[.int .i64 0,.int .i64 0]])∧Below w.heap.size w w':=by
  have h:=oCheck ⟨#[109,111,100,117,108,101,32,109,59]⟩ [] (.slice none 0 0) ⟨#[109]⟩ [] w hw (faces_nil w) (fun _=>⟨small_parse.2,by decide,(fun k hk=>by cases hk),by simp [cntL],by simp,(fun k hk=>by cases hk)⟩)
  refine h.mono ?_
  rintro e w' ⟨v,he,h1,_,hb⟩
  rw [show ckF ⟨#[109,111,100,117,108,101,32,109,59]⟩ (([]:List FV).map (·.1)) ⟨#[109]⟩ []=(0,0) from small_ck] at he h1
  have h2:=h1 rfl
  rw [small_parse.2] at h2
  unfold Lies at h2
  obtain ⟨a,c,rfl,_,_⟩:=h2
  exact ⟨a,c,he,hb⟩
theorem small {x:ByteArray} {m:ByteArray} {K:List Kid} (ht:(parse x).tree=.node 1 m 0 (K.map Kid.tree)) (hf:fitsT (parse x).tree=true):cntL (K.map Kid.tree)≤900∧K.length≤900∧∀ k ∈ K,k.kids.length≤900:=by
  rw [ht,← within_fits,withinT_is _ 1 0 (by omega) (by omega) (by omega) (by omega)] at hf
  split at hf
  · rename_i h
    have hc:cntL (K.map Kid.tree)+1≤500:=by
      have h2:=h.2
      rw [cntN] at h2
      omega
    refine ⟨by omega,?_,?_⟩
    · have:=len_cnt (K.map Kid.tree)
      rw [List.length_map] at this
      omega
    · intro k hk
      obtain ⟨i,hi,rfl⟩:=List.mem_iff_getElem.1 hk
      have h1:=cntT_mem (K.map Kid.tree) i (by simpa using hi)
      have h2:(K.map Kid.tree)[i]'(by simpa using hi)=K[i].tree:=by simp
      rw [h2,Kid.tree_is,cntN] at h1
      have h4:=len_cnt K[i].kids
      omega
  · simp at hf
theorem shape5 (x:ByteArray) (h:(parse x).code=0):∃ (m:ByteArray) (K:List Kid),(parse x).tree=.node 1 m 0 (K.map Kid.tree)∧m.size≤16∧(∀ k ∈ K,k.good∧k.named∧deepK k)∧cntL (K.map Kid.tree)≤900∧K.length≤900∧∀ k ∈ K,k.kids.length≤900:=by
  obtain ⟨m,K,ht,hm,_,hk,hf⟩:=parse_shape4 x h
  obtain ⟨h1,h2,h3⟩:=small ht hf
  exact ⟨m,K,ht,hm,hk,h1,h2,h3⟩
set_option maxHeartbeats 4000000 in
theorem low_walk (x:ByteArray) (w:World) (hw:HasAll w) :
    Calls Tryz.prog 4 #[.string x] w fun e w'=>e=.returned (.bool true)∧Below w.heap.size w w':=by
  have c24:Tryz.prog.cellsOf 25=4:=by kernel_rfl
  have c27:Tryz.prog.cellsOf 28=2:=by kernel_rfl
  have hC1:=oCheckSmall w hw
  go_enter Tryz.func4,Tryz.ntmps4
  go_wp2_with (fail)
  refine hC1.mono ?_
  rintro e w1 ⟨a1,d1,rfl,hb1⟩
  have hB2:Below w.heap.size w ((w1.alloc (.cells #[.int .i64 1,.string ⟨#[109]⟩,.int .i64 0,.slice a1 0 d1] 25)).alloc (.cells #[.int .i64 0,.int .i64 0] 28)):=hb1.trans ((((Below.refl w1.heap.size w1).alloc (Nat.le_refl _) _).alloc (by simp) _).mono hb1.size)
  have hw2:=hasAll_below hw hB2
  go_wp2_with (fail)
  refine (oparse x _ hw2.1).mono ?_
  generalize ((w1.alloc (.cells #[.int .i64 1,.string ⟨#[109]⟩,.int .i64 0,.slice a1 0 d1] 25)).alloc (.cells #[.int .i64 0,.int .i64 0] 28))=W2 at *
  rintro e w3 ⟨v3,rfl,hl3,hb3⟩
  obtain ⟨k3,x3,m3,a3,n3,d3,rfl⟩:=lies_shape hl3
  have hB3:=hB2.trans (hb3.mono hB2.size)
  have hb4:Below w3.heap.size w3 ((w3.alloc (.cells #[.int .i64 k3,.string x3,.int .i64 m3,.slice a3 n3 d3] 25)).alloc (.cells #[.int .i64 (parse x).code,.int .i64 (parse x).place] 28)):=((Below.refl w3.heap.size w3).alloc (Nat.le_refl _) _).alloc (by simp) _
  have hB4:=hB3.trans (hb4.mono hB3.size)
  have hQ4:BoxC ((w3.alloc (.cells #[.int .i64 k3,.string x3,.int .i64 m3,.slice a3 n3 d3] 25)).alloc (.cells #[.int .i64 (parse x).code,.int .i64 (parse x).place] 28)) w3.heap.size #[.int .i64 k3,.string x3,.int .i64 m3,.slice a3 n3 d3] 25:=(BoxC.new w3 _ _).alloc _
  have r0:=hQ4.cell 0 rfl
  have r1:=hQ4.cell 1 rfl
  have r2:=hQ4.cell 2 rfl
  have r3:=hQ4.cell 3 rfl
  by_cases hc:(parse x).code=0
  · obtain ⟨m,K,hs⟩:=shape5 x hc
    have hl4:Lies (·<((w3.alloc (.cells #[.int .i64 k3,.string x3,.int .i64 m3,.slice a3 n3 d3] 25)).alloc (.cells #[.int .i64 (parse x).code,.int .i64 (parse x).place] 28)).heap.size) ((w3.alloc (.cells #[.int .i64 k3,.string x3,.int .i64 m3,.slice a3 n3 d3] 25)).alloc (.cells #[.int .i64 (parse x).code,.int .i64 (parse x).place] 28)) (parse x).tree (.agg #[.int .i64 k3,.string x3,.int .i64 m3,.slice a3 n3 d3]):=hl3.to (fun b hb=>Nat.lt_of_lt_of_le hb.2 hb4.size) (fun b hb o=>hb4.cell (p:=⟨b,o,none⟩) hb.2)
    have hHi:=oHigh (parse x).tree _ _ hl4
    have HL:=show Hid _ from ckF_low x m K hc hs.1 (fun k hk=>(hs.2.2.1 k hk).2.2)
    have hC5:=fun W hW=>oCheck x [] (.slice none 0 0) m K W hW (faces_nil W) (fun _=>hs)
    rw [show ([]:List FV).map (·.1)=[] from rfl] at hC5
    clear hs hl3 hl4 hQ4 hb4
    rw [hc] at hB4 hHi r0 r1 r2 r3 ⊢
    generalize (parse x).place=pp at *
    generalize highT (parse x).tree=hh at *
    cases hh with
    | true =>
      go_wp2_with (go_at_call 13;refine hHi.mono ?_;rintro e w5 ⟨rfl,hb5⟩)
      go_ret
      exact ⟨rfl,hB4.trans (hb5.mono hB4.size)⟩
    | false =>
      have h7:=HL.out rfl
      generalize ckF x [] m K=R at *
      obtain ⟨rc,rp⟩:=R
      have h7':¬ rc=7:=h7
      have h7n:(rc != 7)=true:=by simp [h7']
      clear HL
      go_wp2_with (go_at_call 13;refine hHi.mono ?_;rintro e w5 ⟨rfl,hb5⟩)
      have hB5:=hB4.trans (hb5.mono hB4.size)
      refine (hC5 w5 (hasAll_below hw hB5)).mono ?_
      rintro e w6 ⟨v6,rfl,h61,h62,hb6⟩
      obtain ⟨k6,x6,m6,a6,n6,d6,rfl⟩:∃ k x m a n c,v6=.agg #[.int .i64 k,.string x,.int .i64 m,.slice a n c]:=by
        by_cases h0:rc=0
        · exact lies_shape (h61 h0)
        · rw [h62 h0];exact ⟨_,_,_,_,_,_,rfl⟩
      clear h61 h62
      go_wp2
      go_ret
      exact ⟨by simp [h7'],((hB5.trans (hb6.mono hB5.size)).alloc (by have:=hB5.size;have:=hb6.size;omega) _).alloc (by have:=hB5.size;have:=hb6.size;simp;omega) _⟩
  · have hcn:((parse x).code != 0)=true:=by simp [hc]
    generalize (parse x).code=qc at *
    go_wp2
    go_ret
    exact ⟨rfl,hB4⟩
end Go.Proofs.YthdgbmjcacephaaGreatDoor.chk
namespace Go.Proofs.YthdgbmjcacephaaGreatDoor.checkLow
open Go.ChangeShapes Go.WideShapes Go.ChangeAt Go.RowKit
open Go.ChangeMaps (open_string shut_string)
set_option linter.unusedVariables false
set_option maxRecDepth 100000
theorem own:ownKnob Tryz.prog.godebug=none:=by kernel_rfl
theorem contract (H:Type) (enc:TypeId × Value→H) (W:World) (base:Nat) (args:Array Value) (ds gs:List (DataW H)) (before:List MemPlace)
    (hval:∀ (j:Nat) t v,Tryz.f4.params[j]?=some t→args[j]?=some v→Value.okWide Tryz.prog W .any base t v)
    (hW:DataW.Whole enc Tryz.prog Tryz.f4.params.toList Rows.checkLowSpec.vars false W args.toList ds gs before) (hL:laidMetH Tryz.prog Rows.checkLowRow.laid W) (hSh:W.ShapedOpen Tryz.prog) :
    Calls Tryz.prog 4 args W fun e W'=>∃ v,e=.returned v∧Rows.checkLowSpec.post enc Tryz.prog Tryz.f4 false true false false W args v W':=by
  have hW':=hW
  obtain ⟨p,q,hA0,hV,rfl,hfz,hnd⟩:=hW
  have hA:DataW.TrodAll enc Tryz.prog W 0 (fun _=>true) true Tryz.f4.params.toList args.toList ds p:=hA0
  rw [Tryz.params4] at hA hval
  obtain ⟨v0,vs0,d0,ds0,p0,q0,hargs,rfl,rfl,h0,r0⟩:=trodAll_cons hA
  obtain ⟨rfl,rfl,rfl⟩:=trodAll_nil r0
  obtain rfl:args=#[v0]:=by cases args;simp_all
  obtain ⟨rfl,rfl⟩:=trodVars_none hV
  obtain ⟨a0,rfl,rfl,rfl,w0⟩:=open_string Tryz.underlying9 (hval 0 9 v0 rfl rfl) h0
  clear hA0
  refine (chk.low_walk a0 W ⟨syn.hasBoth_of_laid hL,chk.hasMax_of_shaped hSh⟩).mono fun e W' ⟨he,hg⟩=>?_
  subst he
  exact ⟨_,rfl,_,_,_,[],_,[],hW',trodAll_mk1 (shut_bool Tryz.underlying4 _),(trodAll_cons_mk (shut_string Tryz.underlying9 w0) trodAll_mk0),rfl,hg.frame _,fun h=>by cases h⟩
theorem reads (os:Os) {H:Type} (enc:TypeId × Value→H):∃ places,DataW.whole enc Tryz.prog ((World.laidAll Tryz.prog os syn.laidL).forCall (fun _ _=>0) ⟨#[],#[.string ByteArray.empty],[]⟩).memory Tryz.f4.params.toList Rows.checkLowSpec.vars false #[Value.string ByteArray.empty].toList 8=some ([.lit (.string [])],[],places) :=
  ⟨[],by kernel_rfl⟩
set_option maxRecDepth 100000 in
theorem lifted (os:Os) (started:os.Started) (H:Type) (enc:TypeId × Value→H) (F:Stop.Interp) :
    ReturnsInHanded {} Tryz.checked os 4 .any ((OpenSpec.ofChange Rows.checkLowSpec).preRow enc Tryz.prog Tryz.f4 Rows.checkLowRow.domain false Rows.checkLowRow.laid) (((OpenSpec.ofChange Rows.checkLowSpec).at F).post enc Tryz.prog Tryz.f4 false true false false):=by
  obtain ⟨places,hx⟩:=reads os enc
  refine returnsInHanded_of_row (C:=Tryz.checked) (s:=OpenSpec.ofChange Rows.checkLowSpec) own started (by kernel_rfl) Tryz.func4
    (witness_row_at (enc:=enc) (C:=Tryz.checked) false (World.laidAll Tryz.prog os syn.laidL) #[.string ByteArray.empty] (World.laidAll_os _ _ _) (by kernel_rfl) (by kernel_rfl) (by kernel_rfl)
      (OpenSpec.preRow_of_cond 8 hx (by kernel_rfl) (fun k hk=>by cases hk) (by kernel_rfl) (syn.laid_met os))) ?_
  intro W base args ds gs before hval hW _ _ _ hL hSh _
  exact contract H enc W base args ds gs before hval hW hL hSh
theorem said:Rows.CheckLowSaid :=
  OpenClaim.holds_of_cond 4 Tryz.f4 rfl rfl rfl rfl rfl rfl rfl ⟨rfl,rfl,rfl,rfl,rfl⟩ rfl rfl rfl rfl rfl (by kernel_rfl) Tryz.func4 (by kernel_rfl)
    (of_decide_eq_true (by kernel_rfl)) (by unfold Func.isWrapper;first | (rw [if_pos (by decide +kernel)];kernel_rfl) | (rw [if_neg (by decide +kernel)];exact ⟨rfl,rfl⟩))
    (fun os started H enc _ F=>by rw [OpenClaim.pre_eq_preRow];exact lifted os started H enc F)
theorem plain (f:FuncId) (fn:Func) (hf:Tryz.pinned.checked.prog.funcNamed Rows.checkLowRow.func=some f) (hfn:Tryz.pinned.checked.prog.funcs[f]?=some fn) :
    true=Tryz.pinned.checked.prog.looks []∧∀ (j:Nat) t,fn.params[j]?=some t→Tryz.pinned.checked.prog.wantsStandIn t=false:=by
  obtain rfl:f=4:=Option.some.inj ((show Tryz.prog.funcNamed Rows.checkLowRow.func=some 4 by kernel_rfl).symm.trans hf) |>.symm
  obtain rfl:fn=Tryz.f4:=(Option.some.inj (Tryz.func4.symm.trans hfn)).symm
  refine ⟨by kernel_rfl,fun j t ht=>?_⟩
  rw [Tryz.params4] at ht
  have ht':t=9:=by simpa using Array.mem_of_getElem? ht
  subst ht'
  exact (show Tryz.prog.wantsStandIn 9=false by kernel_rfl)
theorem card:Rows.CheckLowCardSaid :=
  Claim7.holds_tied_plain_at .later [] _ _ _ _ said (fun _ h=>by cases h) (by kernel_rfl) (fun _ h=>by cases h) checkLow_row_tie rfl ⟨rfl,rfl⟩ (by kernel_rfl) rfl plain (by kernel_rfl)
end Go.Proofs.YthdgbmjcacephaaGreatDoor.checkLow
