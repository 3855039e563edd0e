/- What the program's block answers, once stat does: a contract. -/
import Derived.Deep.AppendLies
import Derived.Test.YtfopddgjdaoidaaGreatDoorNM10
set_option linter.unusedVariables false
set_option linter.unusedSimpArgs false
set_option maxRecDepth 100000
namespace Go.Proofs.YtfopddgjdaoidaaGreatDoor.syn
open Go.RowKit
open lexs (Tok Fine own_shape)
section
variable {w w' w0:World} {r G B:Nat} {ts:List Tok} {s:St}
theorem OAns.kids {w3:World} {s3:St} {kv:Value} {ks:List Tree} {k m:Int} {x:ByteArray} {N B:Nat} (hr:r<w.heap.size) (hK:KO w B r G ts w3 s3 kv ks) (hN:w.heap.size≤N) (hB:N<B) (hl:ks.length≤4611686018427387904) :
    OAns w r G ts (.node k x m ks,s3) (.returned (.agg #[.int .i64 k,.string x,.int .i64 m,kv])) ((((w3.setCell ⟨N,0,none⟩ (.int .i64 k)).setCell ⟨N,1,none⟩ (.string x)).setCell ⟨N,2,none⟩ (.int .i64 m)).setCell ⟨N,3,none⟩ kv) :=
  OAns.fin hr hK.fr hK.ld hN hB (hK.kids.lies (fun b hb=>⟨hb.1,hb.2.1⟩) (fun g hg=>hK.kids.blk hg) hl)
set_option maxHeartbeats 4000000 in
theorem oblock {f:Nat} (hf:f≤100000) (ihS:∀ {g:Nat},g≤f→Gives r G ts 198 (statF ts g)):Gives r G ts 178 (blockF ts (f+1)):=by
  intro w s q hL hq
  have c24:Tryz.prog.cellsOf 25=4:=by kernel_rfl
  have hr:=hL.lt
  obtain ⟨i0,hi,hz0,hz1',hz2⟩:=info_parts nodeInfo
  have hB0:=(Box4.new w (.int .i64 0) (.string empty) (.int .i64 0) (.slice none 0 0) 25).alloc (.cells #[.int .i64 6,.string empty,.int .i64 0,.slice none 0 0] 25)
  have hB1:=Box4.new (w.alloc (.cells #[.int .i64 0,.string empty,.int .i64 0,.slice none 0 0] 25)) (.int .i64 6) (.string empty) (.int .i64 0) (.slice none 0 0) 25
  rw [World.size_alloc] at hB1
  have hL0:=(hL.alloc (.cells #[.int .i64 0,.string empty,.int .i64 0,.slice none 0 0] 25)).alloc (.cells #[.int .i64 6,.string empty,.int .i64 0,.slice none 0 0] 25)
  unfold blockF at hq
  have hT:=take_must (T:=9) hL0 ⟨#[123]⟩ (by decide) (M:=w.heap.size+2) (by simp)
  have HQ:Hid (blockL ts f [] (must ts ⟨#[123]⟩ s)=some q):=hq
  clear hq
  generalize must ts ⟨#[123]⟩ s=s0 at *
  go_enter Tryz.func178,Tryz.ntmps178
  go_wp2_with (fail)
  refine hT.mono ?_
  rintro e w1 ⟨y,⟨hb,rfl,hF1⟩ | ⟨hb,rfl,hL1,hF1⟩⟩
  · go_wp2
    exact ⟨rfl,OAns.lost ((stuck2 ts f).bl _ _ _ hb HQ.out) hb (((Fr.al _ _).trans (Fr.al _ _)).trans hF1)⟩
  go_wp2
  go_loopg [] f (fun k wr=>∃ (ks:List Tree) (s1:St) (kv:Value),Hid (blockL ts k ks s1=some q)∧ks.length+k≤f∧KO w (w.heap.size+2) r G ts wr s1 kv ks∧Box4 wr (w.heap.size+1) (.int .i64 6) (.string empty) (.int .i64 0) kv∧Box4 wr w.heap.size (.int .i64 0) (.string empty) (.int .i64 0) (.slice none 0 0))
  case atStart =>
    exact ⟨[],s0,.slice none 0 0,HQ.out,by simp,⟨hL1,hr,by omega,((Fr.al _ _).trans (Fr.al _ _)).trans hF1,Kids.nil _ _ _⟩,hB1.fr hF1 (by omega),hB0.fr hF1 (by omega)⟩
  case round =>
    obtain ⟨ks,s1,kv,HL,hkf,hK,hb1,hb0⟩:=hrel
    clear HQ
    obtain ⟨a,c,rfl⟩:=hK.kids.shape
    cases gk with
    | zero=>have:=HL.out;unfold blockL at this;simp at this
    | succ k =>
      have hq2:=HL.out
      clear HL
      unfold blockL at hq2
      rw [hK.ld.ok,if_neg (by decide)] at hq2
      cases he:eqS (txt ts s1) ⟨#[125]⟩
      case true =>
        rw [he,if_pos rfl] at hq2
        simp only [Option.some.injEq] at hq2
        subst hq2
        go_wp2_with (fail)
        refine (skip_yes hK.ld ⟨#[125]⟩ (by decide) he rfl).mono ?_
        rintro e w2 ⟨rfl,hL2,hF2⟩
        have hK2:=hK.step hL2 hF2
        obtain ⟨p0,p1,p2,p3,_,_,_,_⟩:=hb1.fr hF2 (by omega)
        obtain ⟨t0,t1,t2,t3,u0,u1,u2,u3⟩:=hb0.fr hF2 (by omega)
        go_wp2
        exact bodyPost_ret (v:=.agg #[.int .i64 6,.string empty,.int .i64 0,.slice a ks.length c]) (by simp [results,Tryz.results178,go_sem,t0,t1,t2,t3]) rfl (OAns.kids hr hK2 (jE _) (by omega) (by omega))
      case false =>
        rw [he,if_neg (by decide)] at hq2
        obtain ⟨q1,h1,hq3⟩:=bind_some_is hq2
        have HQ:Hid (blockL ts k (ks++[q1.1]) q1.2=some q):=hq3
        clear hq2 hq3
        go_wp2_with (fail)
        refine (skip_no hK.ld ⟨#[125]⟩ (by decide) he rfl).mono ?_
        rintro e w2 ⟨rfl,hL2,hF2⟩
        have hK2:=hK.step hL2 hF2
        have hb12:=hb1.fr hF2 (by omega)
        have hb02:=hb0.fr hF2 (by omega)
        obtain ⟨p0,p1,p2,p3,_,_,_,_⟩:=id hb12
        have hS:Gives r G ts 198 (statF ts k):=ihS (by omega)
        by_cases hbq:q1.2.bad=true
        · have HS:Hid (q.2=q1.2):=(stuck2 ts k).bl _ _ _ hbq HQ.out
          go_wp2
          refine wp_region_any (by kernel_rfl) ?_
          change wpAny _ _ _ _ _ _ _ (World.drew _)
          refine tk0 (i:=0) (v:=.pointer (some ⟨w.heap.size+1,3,none⟩)) rfl (Or.inl ⟨by rfl,fun w=>by go_simp⟩) ?_
          refine tk0 (i:=2) (v:=.pointer (some ⟨r,0,none⟩)) rfl (Or.inl ⟨by rfl,fun w=>by go_simp⟩) ?_
          refine wpAny_ready (rs:=[1,3]) (by kernel_rfl) (by simp) ?_
          refine AllReady.cons rfl (fun K hK=>?_) ?_
          · go_simp
            refine hK _ _ ?_
            clear hK K
            refine wpAny_ready (rs:=[3]) (by kernel_rfl) (by simp) ?_
            refine AllReady.cons rfl (fun K hK=>?_) AllReady.nil
            go_simp
            go_at_call 198
            refine (hS.lost (hL2.drewN 1) h1 hbq).mono ?_
            rintro e w4 ⟨rfl,hF4⟩
            go_wp2
            exact ⟨rfl,OAns.lost HS.out hbq ((hK2.fr.drewN 1).trans hF4)⟩
          refine AllReady.cons rfl (fun K hK=>?_) AllReady.nil
          go_simp
          go_at_call 198
          refine (hS.lost (hL2.drewN 1) h1 hbq).mono ?_
          rintro e w4 ⟨rfl,hF4⟩
          go_wp2
          exact ⟨rfl,OAns.lost HS.out hbq ((hK2.fr.drewN 1).trans hF4)⟩
        · have hbq':q1.2.bad=false:=by simpa using hbq
          go_wp2
          refine wp_region_any (by kernel_rfl) ?_
          change wpAny _ _ _ _ _ _ _ (World.drew _)
          refine tk0 (i:=0) (v:=.pointer (some ⟨w.heap.size+1,3,none⟩)) rfl (Or.inl ⟨by rfl,fun w=>by go_simp⟩) ?_
          refine tk0 (i:=2) (v:=.pointer (some ⟨r,0,none⟩)) rfl (Or.inl ⟨by rfl,fun w=>by go_simp⟩) ?_
          refine wpAny_ready (rs:=[1,3]) (by kernel_rfl) (by simp) ?_
          refine AllReady.cons rfl (fun K hK=>?_) ?_
          · go_simp
            refine hK _ _ ?_
            clear hK K
            refine wpAny_ready (rs:=[3]) (by kernel_rfl) (by simp) ?_
            refine AllReady.cons rfl (fun K hK=>?_) AllReady.nil
            go_simp
            go_at_call 198
            refine (hS.fine (hL2.drewN 1) h1 hbq').mono ?_
            rintro e w4 ⟨v4,rfl,hl4,hL4,hF4⟩
            obtain ⟨kc,yc,mc,_,rfl,ac,nc,cc,rfl⟩:=hl4.shape
            have hF24:Fr r w2 w4:=((Fr.refl r w2).drewN 1).trans hF4
            have hkb:∀ g,(Value.slice a ks.length c).ownBlock=some g→w.heap.size+2≤g∧g<w2.heap.size:=fun g hg=>hK2.kids.blk hg
            have hK4:=hK2.step hL4 hF24
            have zz:=hF24.size
            have z2:=hb12.lt
            have hlc:Lies (fun b=>w.heap.size+2≤b∧b<w4.heap.size∧some b≠(Value.slice a ks.length c).ownBlock) w4 q1.1 (.agg #[.int .i64 kc,.string yc,.int .i64 mc,.slice ac nc cc]) :=
              hl4.to (fun b hb=>by
                have h1:w2.heap.size≤b:=hb.1
                exact ⟨by omega,hb.2,fun e=>by have:=(hkb b e.symm).2;omega⟩) (fun _ _ _=>rfl)
            obtain ⟨vs,ho,ha⟩:=hK4.kids
            have HA:Hid (AllLie (fun b=>w.heap.size+2≤b∧b<w4.heap.size∧some b≠(Value.slice a ks.length c).ownBlock) w4 ks vs):=ha
            have hlk:ks.length≤100001:=by omega
            have hb14:=hb12.fr hF24 (by omega)
            have hb04:=hb02.fr hF24 (by omega)
            obtain ⟨g0,g1,g2,g3,_,_,_,_⟩:=id hb14
            have z4:w.heap.size+1<w4.heap.size:=hb14.lt
            have z4':w.heap.size<w4.heap.size:=hb04.lt
            clear ha
            go_wp2
            refine wpAny_ready (rs:=[4]) (by kernel_rfl) (by simp) ?_
            refine AllReady.cons rfl (fun K hK=>?_) AllReady.nil
            go_simp
            refine hK _ _ ?_
            clear hK K
            refine wpAny_ready (rs:=[5]) (by kernel_rfl) (by simp) ?_
            refine AllReady.cons rfl (fun K hK=>?_) AllReady.nil
            refine step_append_lies _ (by rfl) (.tmp 13) (.tmp 16) 23 (by rfl) (w.heap.size+2) 25 i0 (.agg #[.int .i64 0,.string ⟨#[]⟩,.int .i64 0,.slice none 0 0]) 4 56 Tryz.underlying23 hi hz0 hz1' hz2 rfl (by decide) (.slice a ks.length c) ks.length (flat4 vs) rfl (ho.alloc _) ⟨w4.heap.size,0,none⟩ 1 1 [.int .i64 kc,.string yc,.int .i64 mc,.slice ac nc cc] rfl rfl (cells4_new _ _ _ _ _ _ _ rfl) (by intro u hu;simp at hu;rcases hu with rfl | rfl | rfl | rfl <;> rfl) (by omega) (by unfold maxLen;omega) (by omega) (by simp;omega) (w4.heap.size+1) (by simp) ?_
            intro g cap w5 hown' hgrow hat hlt
            refine hK _ _ ?_
            clear hK K
            have hK5:=KO.pushed (q:=(.int .i64 kc,.string yc,.int .i64 mc,.slice ac nc cc)) (t:=q1.1) hK4 ho HA.out hlc hown' hgrow (by rcases hat with e | e;exact .inl e.symm;exact .inr (by rw [e];rfl))
            have hnb:(Value.slice a ks.length c).ownBlock≠some (w.heap.size+1):=fun e=>by have:=(hkb _ e).1;omega
            have hnb0:(Value.slice a ks.length c).ownBlock≠some w.heap.size:=fun e=>by have:=(hkb _ e).1;omega
            have hb15:=(hb14.alloc (.cells #[.int .i64 kc,.string yc,.int .i64 mc,.slice ac nc cc] 25)).grown hgrow hnb
            have hb05:=(hb04.alloc (.cells #[.int .i64 kc,.string yc,.int .i64 mc,.slice ac nc cc] 25)).grown hgrow hnb0
            obtain ⟨e0,e1,e2,e3,d0,d1,d2,d3⟩:=id hb15
            refine wpAny_ready (rs:=[6]) (by kernel_rfl) (by simp) ?_
            refine AllReady.cons rfl (fun K hK=>?_) AllReady.nil
            go_simp
            refine hK _ _ ?_
            clear hK K
            refine wpAny_ready (rs:=[7]) (by kernel_rfl) (by simp) ?_
            refine AllReady.cons rfl (fun K hK=>?_) AllReady.nil
            go_simp
            refine hK _ _ ?_
            clear hK K
            refine wpAny_done (by kernel_rfl) ?_ _
            go_wp2
            go_roundg k
            case rel=>exact ⟨ks++[q1.1],q1.2,_,HQ.out,by rw [List.length_append];simp;omega,hK5.set (by omega) (by omega) 3 _,hb15.set3 _,hb05.other (by omega) _⟩
            case measure=>omega
          refine AllReady.cons rfl (fun K hK=>?_) AllReady.nil
          go_simp
          go_at_call 198
          refine (hS.fine (hL2.drewN 1) h1 hbq').mono ?_
          rintro e w4 ⟨v4,rfl,hl4,hL4,hF4⟩
          obtain ⟨kc,yc,mc,_,rfl,ac,nc,cc,rfl⟩:=hl4.shape
          have hF24:Fr r w2 w4:=((Fr.refl r w2).drewN 1).trans hF4
          have hkb:∀ g,(Value.slice a ks.length c).ownBlock=some g→w.heap.size+2≤g∧g<w2.heap.size:=fun g hg=>hK2.kids.blk hg
          have hK4:=hK2.step hL4 hF24
          have zz:=hF24.size
          have z2:=hb12.lt
          have hlc:Lies (fun b=>w.heap.size+2≤b∧b<w4.heap.size∧some b≠(Value.slice a ks.length c).ownBlock) w4 q1.1 (.agg #[.int .i64 kc,.string yc,.int .i64 mc,.slice ac nc cc]) :=
            hl4.to (fun b hb=>by
              have h1:w2.heap.size≤b:=hb.1
              exact ⟨by omega,hb.2,fun e=>by have:=(hkb b e.symm).2;omega⟩) (fun _ _ _=>rfl)
          obtain ⟨vs,ho,ha⟩:=hK4.kids
          have HA:Hid (AllLie (fun b=>w.heap.size+2≤b∧b<w4.heap.size∧some b≠(Value.slice a ks.length c).ownBlock) w4 ks vs):=ha
          have hlk:ks.length≤100001:=by omega
          have hb14:=hb12.fr hF24 (by omega)
          have hb04:=hb02.fr hF24 (by omega)
          obtain ⟨g0,g1,g2,g3,_,_,_,_⟩:=id hb14
          have z4:w.heap.size+1<w4.heap.size:=hb14.lt
          have z4':w.heap.size<w4.heap.size:=hb04.lt
          clear ha
          go_wp2
          refine wpAny_ready (rs:=[1,4]) (by kernel_rfl) (by simp) ?_
          refine AllReady.cons rfl (fun K hK=>?_) ?_
          · go_simp
            refine hK _ _ ?_
            clear hK K
            refine wpAny_ready (rs:=[4]) (by kernel_rfl) (by simp) ?_
            refine AllReady.cons rfl (fun K hK=>?_) AllReady.nil
            go_simp
            refine hK _ _ ?_
            clear hK K
            refine wpAny_ready (rs:=[5]) (by kernel_rfl) (by simp) ?_
            refine AllReady.cons rfl (fun K hK=>?_) AllReady.nil
            refine step_append_lies _ (by rfl) (.tmp 13) (.tmp 16) 23 (by rfl) (w.heap.size+2) 25 i0 (.agg #[.int .i64 0,.string ⟨#[]⟩,.int .i64 0,.slice none 0 0]) 4 56 Tryz.underlying23 hi hz0 hz1' hz2 rfl (by decide) (.slice a ks.length c) ks.length (flat4 vs) rfl (ho.alloc _) ⟨w4.heap.size,0,none⟩ 1 1 [.int .i64 kc,.string yc,.int .i64 mc,.slice ac nc cc] rfl rfl (cells4_new _ _ _ _ _ _ _ rfl) (by intro u hu;simp at hu;rcases hu with rfl | rfl | rfl | rfl <;> rfl) (by omega) (by unfold maxLen;omega) (by omega) (by simp;omega) (w4.heap.size+1) (by simp) ?_
            intro g cap w5 hown' hgrow hat hlt
            refine hK _ _ ?_
            clear hK K
            have hK5:=KO.pushed (q:=(.int .i64 kc,.string yc,.int .i64 mc,.slice ac nc cc)) (t:=q1.1) hK4 ho HA.out hlc hown' hgrow (by rcases hat with e | e;exact .inl e.symm;exact .inr (by rw [e];rfl))
            have hnb:(Value.slice a ks.length c).ownBlock≠some (w.heap.size+1):=fun e=>by have:=(hkb _ e).1;omega
            have hnb0:(Value.slice a ks.length c).ownBlock≠some w.heap.size:=fun e=>by have:=(hkb _ e).1;omega
            have hb15:=(hb14.alloc (.cells #[.int .i64 kc,.string yc,.int .i64 mc,.slice ac nc cc] 25)).grown hgrow hnb
            have hb05:=(hb04.alloc (.cells #[.int .i64 kc,.string yc,.int .i64 mc,.slice ac nc cc] 25)).grown hgrow hnb0
            obtain ⟨e0,e1,e2,e3,d0,d1,d2,d3⟩:=id hb15
            refine wpAny_ready (rs:=[6]) (by kernel_rfl) (by simp) ?_
            refine AllReady.cons rfl (fun K hK=>?_) AllReady.nil
            go_simp
            refine hK _ _ ?_
            clear hK K
            refine wpAny_ready (rs:=[7]) (by kernel_rfl) (by simp) ?_
            refine AllReady.cons rfl (fun K hK=>?_) AllReady.nil
            go_simp
            refine hK _ _ ?_
            clear hK K
            refine wpAny_done (by kernel_rfl) ?_ _
            go_wp2
            go_roundg k
            case rel=>exact ⟨ks++[q1.1],q1.2,_,HQ.out,by rw [List.length_append];simp;omega,hK5.set (by omega) (by omega) 3 _,hb15.set3 _,hb05.other (by omega) _⟩
            case measure=>omega
          refine AllReady.cons rfl (fun K hK=>?_) AllReady.nil
          go_simp
          refine hK _ _ ?_
          clear hK K
          refine wpAny_ready (rs:=[1]) (by kernel_rfl) (by simp) ?_
          refine AllReady.cons rfl (fun K hK=>?_) AllReady.nil
          go_simp
          refine hK _ _ ?_
          clear hK K
          refine wpAny_ready (rs:=[5]) (by kernel_rfl) (by simp) ?_
          refine AllReady.cons rfl (fun K hK=>?_) AllReady.nil
          refine step_append_lies _ (by rfl) (.tmp 13) (.tmp 16) 23 (by rfl) (w.heap.size+2) 25 i0 (.agg #[.int .i64 0,.string ⟨#[]⟩,.int .i64 0,.slice none 0 0]) 4 56 Tryz.underlying23 hi hz0 hz1' hz2 rfl (by decide) (.slice a ks.length c) ks.length (flat4 vs) rfl (ho.alloc _) ⟨w4.heap.size,0,none⟩ 1 1 [.int .i64 kc,.string yc,.int .i64 mc,.slice ac nc cc] rfl rfl (cells4_new _ _ _ _ _ _ _ rfl) (by intro u hu;simp at hu;rcases hu with rfl | rfl | rfl | rfl <;> rfl) (by omega) (by unfold maxLen;omega) (by omega) (by simp;omega) (w4.heap.size+1) (by simp) ?_
          intro g cap w5 hown' hgrow hat hlt
          refine hK _ _ ?_
          clear hK K
          have hK5:=KO.pushed (q:=(.int .i64 kc,.string yc,.int .i64 mc,.slice ac nc cc)) (t:=q1.1) hK4 ho HA.out hlc hown' hgrow (by rcases hat with e | e;exact .inl e.symm;exact .inr (by rw [e];rfl))
          have hnb:(Value.slice a ks.length c).ownBlock≠some (w.heap.size+1):=fun e=>by have:=(hkb _ e).1;omega
          have hnb0:(Value.slice a ks.length c).ownBlock≠some w.heap.size:=fun e=>by have:=(hkb _ e).1;omega
          have hb15:=(hb14.alloc (.cells #[.int .i64 kc,.string yc,.int .i64 mc,.slice ac nc cc] 25)).grown hgrow hnb
          have hb05:=(hb04.alloc (.cells #[.int .i64 kc,.string yc,.int .i64 mc,.slice ac nc cc] 25)).grown hgrow hnb0
          obtain ⟨e0,e1,e2,e3,d0,d1,d2,d3⟩:=id hb15
          refine wpAny_ready (rs:=[6]) (by kernel_rfl) (by simp) ?_
          refine AllReady.cons rfl (fun K hK=>?_) AllReady.nil
          go_simp
          refine hK _ _ ?_
          clear hK K
          refine wpAny_ready (rs:=[7]) (by kernel_rfl) (by simp) ?_
          refine AllReady.cons rfl (fun K hK=>?_) AllReady.nil
          go_simp
          refine hK _ _ ?_
          clear hK K
          refine wpAny_done (by kernel_rfl) ?_ _
          go_wp2
          go_roundg k
          case rel=>exact ⟨ks++[q1.1],q1.2,_,HQ.out,by rw [List.length_append];simp;omega,hK5.set (by omega) (by omega) 3 _,hb15.set3 _,hb05.other (by omega) _⟩
          case measure=>omega
end
end Go.Proofs.YtfopddgjdaoidaaGreatDoor.syn
