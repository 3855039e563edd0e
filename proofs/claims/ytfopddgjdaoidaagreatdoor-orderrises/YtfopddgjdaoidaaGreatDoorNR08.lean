/- How many nodes a tree has, and how deep it is: as the reference counts, and as the program does. No Go in sight. -/
import Derived.Test.YtfopddgjdaoidaaGreatDoorNR07
import Derived.Laws.EntriesVeiled
set_option linter.unusedVariables false
set_option linter.unusedSimpArgs false
set_option maxRecDepth 100000
namespace Go.Proofs.YtfopddgjdaoidaaGreatDoor
namespace syn
open Go.RowKit
open lexs (Tok Fine own_shape)
section
variable {w w' w0:World} {r G B:Nat} {ts:List Tok} {s:St}
theorem importsL_st {f:Nat} {ks:List Tree} {p:List Tree × St} (hb:s.bad=true) (h:importsL ts f ks s=some p):p.2=s:=by
 cases f with
 | zero=>unfold importsL at h;simp at h
 | succ f =>
  unfold importsL at h
  rw [eqS_bad (by decide) hb,if_neg (by decide)] at h
  simp only [Option.some.injEq] at h
  rw [← h]
theorem declsL_st {f:Nat} {ks:List Tree} {p:List Tree × St} (hb:s.bad=true) (h:declsL ts f ks s=some p):p.2=s:=by
 cases f with
 | zero=>unfold declsL at h;simp at h
 | succ f =>
  unfold declsL at h
  rw [hb] at h
  simp only [Bool.true_or,if_true,Option.some.injEq] at h
  rw [← h]
theorem name_lost (hL:Ld w r G ts s) (hb:(name ts s).2.bad=true):Calls Tryz.prog 108 #[.pointer (some ⟨r,0,none⟩)] w fun e w'=>e=.panicked (Pan ts (name ts s).2)∧Fr r w w' :=
 (oname hL).mono fun e w' h=>by
  rcases h with ⟨_,h1,h2⟩|⟨h1,_⟩
  ·exact ⟨h1,h2⟩
  ·rw [hb] at h1;cases h1
theorem name_fine (hL:Ld w r G ts s) (hb:(name ts s).2.bad=false):Calls Tryz.prog 108 #[.pointer (some ⟨r,0,none⟩)] w fun e w'=>e=.returned (.string (name ts s).1)∧Ld w' r G ts (name ts s).2∧Fr r w w' :=
 (oname hL).mono fun e w' h=>by
  rcases h with ⟨h1,_⟩|⟨_,h1,h2,h3⟩
  ·rw [hb] at h1;cases h1
  ·exact ⟨h1,h2,h3⟩
theorem ended_lost (hL:Ld w r G ts s) (k m:Int) (x:ByteArray) (a:Option Addr) (n c:Nat) (hb:(must ts ⟨#[59]⟩ s).bad=true):Calls Tryz.prog 110 #[.pointer (some ⟨r,0,none⟩),.agg #[.int .i64 k,.string x,.int .i64 m,.slice a n c]] w fun e w'=>e=.panicked (Pan ts (must ts ⟨#[59]⟩ s))∧Fr r w w' :=
 (oended hL k m x a n c).mono fun e w' h=>by
  rcases h with ⟨_,h1,h2⟩|⟨h1,_⟩
  ·exact ⟨h1,h2⟩
  ·rw [hb] at h1;cases h1
theorem ended_fine (hL:Ld w r G ts s) (k m:Int) (x:ByteArray) (a:Option Addr) (n c:Nat) (hb:(must ts ⟨#[59]⟩ s).bad=false):Calls Tryz.prog 110 #[.pointer (some ⟨r,0,none⟩),.agg #[.int .i64 k,.string x,.int .i64 m,.slice a n c]] w fun e w'=>e=.returned (.agg #[.int .i64 k,.string x,.int .i64 m,.slice a n c])∧Ld w' r G ts (must ts ⟨#[59]⟩ s)∧Fr r w w' :=
 (oended hL k m x a n c).mono fun e w' h=>by
  rcases h with ⟨h1,_⟩|⟨_,h1,h2,h3⟩
  ·rw [hb] at h1;cases h1
  ·exact ⟨h1,h2,h3⟩
set_option maxHeartbeats 16000000 in
theorem omodule (hL:Ld w r G ts ⟨0,false⟩) {q:Tree × St} (hq:moduleF ts=some q):Calls Tryz.prog 61 #[.pointer (some ⟨r,0,none⟩)] w (OAns w r G ts q):=by
 have c24:=kc25
 have hr:=hL.lt
 have hlen:=hL.len
 obtain ⟨i0,hi,hz0,hz1',hz2⟩:=info_parts nodeInfo
 have hD:Gives r G ts 111 (declF ts 100000):=odecl (jE _) (goodY r G ts 100000 (jE _) (jE _)).b
 have hB0:=Box4.new w (.int .i64 0) (.string empty) (.int .i64 0) (.slice none 0 0) 25
 unfold moduleF at hq
 obtain ⟨p,hp,h2⟩:=bind_some_is hq
 obtain ⟨d,hd,h4⟩:=bind_some_is h2
 simp only [Option.some.injEq] at h4
 subst h4
 clear hq h2
 have T1:Hid (p.2.bad=true→d.2=p.2):=fun hb=>declsL_st hb hd
 have T2:Hid ((headS ts).bad=true→d.2=headS ts):=fun hb=>by
  have e1:=importsL_st hb hp
  rw [T1.out (by rw [e1];exact hb),e1]
 have T3:Hid ((name ts (must ts ⟨#[109,111,100,117,108,101]⟩ ⟨0,false⟩)).2.bad=true→d.2=(name ts (must ts ⟨#[109,111,100,117,108,101]⟩ ⟨0,false⟩)).2):=fun hb=>by
  have e1:headS ts=(name ts (must ts ⟨#[109,111,100,117,108,101]⟩ ⟨0,false⟩)).2:=by unfold headS;exact must_st (by decide) hb
  rw [T2.out (by rw [e1];exact hb),e1]
 have T4:Hid ((must ts ⟨#[109,111,100,117,108,101]⟩ ⟨0,false⟩).bad=true→d.2=must ts ⟨#[109,111,100,117,108,101]⟩ ⟨0,false⟩):=fun hb=>by
  have e1:=name_st (ts:=ts) hb
  rw [T3.out (by rw [e1];exact hb),e1]
 have HP:Hid (importsL ts 4000 [] (headS ts)=some p):=hp
 have HD:Hid (declsL ts 4000 p.1 p.2=some d):=hd
 clear hp hd
 have hT:=take_must (T:=9) (hL.alloc (.cells #[.int .i64 0,.string empty,.int .i64 0,.slice none 0 0] 25)) ⟨#[109,111,100,117,108,101]⟩ (by decide) (M:=w.heap.size+1) (by simp)
 unfold headX
 unfold headS at HP T2
 generalize must ts ⟨#[109,111,100,117,108,101]⟩ ⟨0,false⟩=s1 at *
 have hNam:=fun (w:World) (h:Ld w r G ts s1)=>oname h
 generalize name ts s1=nb at *
 obtain ⟨nx,ns⟩:=nb
 simp only at *
 go_enter Tryz.func61,Tryz.ntmps61
 go_wp2_with (fail)
 refine hT.mono ?_
 rintro e w1 ⟨y1,⟨hb1,rfl,hF1⟩|⟨hb1,rfl,hL1,hF1⟩⟩
 ·go_wp2
  exact ⟨rfl,OAns.lost (T4.out hb1) hb1 ((Fr.al _ _).trans hF1)⟩
 go_wp2_with (fail)
 refine (hNam _ hL1).mono ?_
 rintro e w2 (⟨hb2,rfl,hF2⟩|⟨hb2,rfl,hL2,hF2⟩)
 ·go_wp2
  exact ⟨rfl,OAns.lost (T3.out hb2) hb2 (((Fr.al _ _).trans hF1).trans hF2)⟩
 go_wp2_with (fail)
 refine (take_must (hL2.alloc _) ⟨#[59]⟩ (by decide) (by simp)).mono ?_
 rintro e w3 ⟨y3,⟨hb3,rfl,hF3⟩|⟨hb3,rfl,hL3,hF3⟩⟩
 ·go_wp2
  exact ⟨rfl,OAns.lost (T2.out hb3) hb3 ((((Fr.al _ _).trans hF1).trans hF2).trans ((Fr.al _ _).trans hF3))⟩
 have z1:=hF1.size
 have z2:=hF2.size
 have z3:=hF3.size
 simp only [World.size_alloc] at z1 z3
 have hFw3:Fr r w w3:=(((Fr.al _ _).trans hF1).trans hF2).trans ((Fr.al _ _).trans hF3)
 have hbm:=(Box4.new w2 (.int .i64 1) (.string nx) (.int .i64 0) (.slice none 0 0) 25).fr hF3 (by omega)
 have hbr:=(((hB0.fr hF1 (by omega)).fr hF2 (by omega)).alloc (.cells #[.int .i64 1,.string nx,.int .i64 0,.slice none 0 0] 25)).fr hF3 (by omega)
 clear T2 T3 T4 hT hNam
 go_wp2
 go_loopg [] 4000 (fun k wr=>∃ (ks:List Tree) (s1:St) (kv:Value),Hid (importsL ts k ks s1=some p)∧ks.length+k≤4000∧KO w (w2.heap.size+1) r G ts wr s1 kv ks∧Box4 wr w2.heap.size (.int .i64 1) (.string nx) (.int .i64 0) kv∧Box4 wr w.heap.size (.int .i64 0) (.string empty) (.int .i64 0) (.slice none 0 0))
 case atStart=>exact ⟨[],_,.slice none 0 0,HP.out,by simp,⟨hL3,hr,by omega,hFw3,Kids.nil _ _ _⟩,hbm,hbr⟩
 case round =>
  obtain ⟨ks,s1,kv,HL,hkf,hK,hb1,hb0⟩:=hrel
  clear HP
  obtain ⟨a,c,rfl⟩:=hK.kids.shape
  cases gk with
  | zero=>have:=HL.out;unfold importsL at this;simp at this
  | succ k =>
   have hq2:=HL.out
   clear HL
   unfold importsL at hq2
   cases he:eqS (txt ts s1) ⟨#[105,109,112,111,114,116]⟩
   case false =>
    rw [he,if_neg (by decide)] at hq2
    simp only [Option.some.injEq] at hq2
    subst hq2
    go_wp2_with (fail)
    refine (skip_no hK.ld ⟨#[105,109,112,111,114,116]⟩ (by decide) he rfl).mono ?_
    rintro e wi ⟨rfl,hLi,hFi⟩
    have hKi:=hK.step hLi hFi
    have hb1i:=hb1.fr hFi (by omega)
    have hb0i:=hb0.fr hFi (by omega)
    clear T1 hK hb1 hb0 he
    go_wp2
    go_loopg [] 4000 (fun k wr=>∃ (ks:List Tree) (s1:St) (kv:Value),Hid (declsL ts k ks s1=some d)∧ks.length+k≤8000∧KO w (w2.heap.size+1) r G ts wr s1 kv ks∧Box4 wr w2.heap.size (.int .i64 1) (.string nx) (.int .i64 0) kv∧Box4 wr w.heap.size (.int .i64 0) (.string empty) (.int .i64 0) (.slice none 0 0))
    case atStart=>exact ⟨ks,s1,_,HD.out,by omega,hKi,hb1i,hb0i⟩
    case round =>
     clear HD hKi hb1i hb0i hLi hFi
     obtain ⟨ks,s1,kv,HL,hkf,hKq,hb1q,hb0q⟩:=hrel
     obtain ⟨a,c,rfl⟩:=hKq.kids.shape
     obtain ⟨wq,hwq⟩:∃ wq,wq=wr:=⟨_,rfl⟩
     obtain rfl:=hwq
     obtain ⟨al,cp,h0,h1',h2⟩:=hKq.ld.c0
     cases gk with
     | zero=>have:=HL.out;unfold declsL at this;simp at this
     | succ k =>
      have hq2:=HL.out
      clear HL
      unfold declsL at hq2
      rw [hKq.ld.ok] at hq2
      by_cases hlt:ts.length≤s1.i
      ·rw [decide_eq_true hlt] at hq2
       simp only [Bool.or_true,if_true,Option.some.injEq] at hq2
       subst hq2
       have hn:ts.length - s1.i=0:=by omega
       rw [hn] at h0
       obtain ⟨p0,p1,p2,p3,_,_,_,_⟩:=id hb1q
       obtain ⟨t0,t1,t2,t3,u0,u1,u2,u3⟩:=id hb0q
       go_wp2
       exact bodyPost_ret (v:=.agg #[.int .i64 1,.string nx,.int .i64 0,.slice a ks.length c]) (by simp [results,Tryz.results61,go_sem,t0,t1,t2,t3]) rfl (OAns.kids hr hKq (jE _) (by omega) (by omega))
      ·rw [decide_eq_false hlt] at hq2
       simp only [Bool.or_false,Bool.false_eq_true,if_false] at hq2
       obtain ⟨q1,h1,hq3⟩:=bind_some_is hq2
       have HQ:Hid (declsL ts k (ks++[q1.1]) q1.2=some d):=hq3
       clear hq2 hq3
       obtain rfl:=h2 (by omega)
       have hn:0<ts.length - s1.i:=by omega
       have hn':ts.length - s1.i≤3000:=by omega
       generalize ts.length - s1.i=nl at *
       obtain ⟨p0,p1,p2,p3,_,_,_,_⟩:=id hb1q
       by_cases hbq:q1.2.bad=true
       ·have HS:Hid (d.2=q1.2):=declsL_st hbq HQ.out
        go_wp2
        refine wp_region_any (by kernel_rfl) ?_
        change wpAny _ _ _ _ _ _ _ (World.drew _)
        refine tkQ 0 (.pointer (some ⟨w2.heap.size,3,none⟩)) ?_
        refine tkQ 2 (.pointer (some ⟨r,0,none⟩)) ?_
        refine wpAny_ready (rs:=[1,3]) (by kernel_rfl) (by simp) ?_
        refine AllReady.cons rfl (fun K hK=>?_) ?_
        ·skip
         go_simp
         refine hK _ _ ?_
         clear hK K
         refine one0 3 fun K hK=>?_
         go_simp
         go_at_call 111
         refine (hD.lost (hKq.ld.drewN 1) h1 hbq).mono ?_
         rintro e w5 ⟨rfl,hF5⟩
         go_wp2
         exact ⟨rfl,OAns.lost HS.out hbq ((hKq.fr.drewN 1).trans hF5)⟩
        refine AllReady.cons rfl (fun K hK=>?_) AllReady.nil
        go_simp
        go_at_call 111
        refine (hD.lost (hKq.ld.drewN 1) h1 hbq).mono ?_
        rintro e w5 ⟨rfl,hF5⟩
        go_wp2
        exact ⟨rfl,OAns.lost HS.out hbq ((hKq.fr.drewN 1).trans hF5)⟩
       have hbq':q1.2.bad=false:=by simpa using hbq
       go_wp2
       refine wp_region_any (by kernel_rfl) ?_
       change wpAny _ _ _ _ _ _ _ (World.drew _)
       refine tkQ 0 (.pointer (some ⟨w2.heap.size,3,none⟩)) ?_
       refine tkQ 2 (.pointer (some ⟨r,0,none⟩)) ?_
       refine wpAny_ready (rs:=[1,3]) (by kernel_rfl) (by simp) ?_
       refine AllReady.cons rfl (fun K hK=>?_) ?_
       ·skip
        go_simp
        refine hK _ _ ?_
        clear hK K
        refine one0 3 fun K hK=>?_
        go_simp
        go_at_call 111
        refine (hD.fine (hKq.ld.drewN 1) h1 hbq').mono ?_
        rintro e w6 ⟨v6,rfl,hl6,hL6,hF6⟩
        obtain ⟨kc,yc,mc,_,rfl,ac,nc,cc,rfl⟩:=hl6.shape
        have hFq6:Fr r wq w6:=((Fr.refl r wq).drewN 1).trans hF6
        have hkb:∀ g,(Value.slice a ks.length c).ownBlock=some g→w2.heap.size+1≤g∧g<wq.heap.size:=fun g hg=>hKq.kids.blk hg
        have hK6:=hKq.step hL6 hFq6
        have zz:=hFq6.size
        have zq:=hb1q.lt
        have hb16:=hb1q.fr hFq6 (by omega)
        have hb06:=hb0q.fr hFq6 (by omega)
        have z6:w2.heap.size<w6.heap.size:=hb16.lt
        have z6':w.heap.size<w6.heap.size:=hb06.lt
        obtain ⟨vs,ho,ha⟩:=hK6.kids
        have HA:Hid (AllLie (fun b=>w2.heap.size+1≤b∧b<w6.heap.size∧some b≠(Value.slice a ks.length c).ownBlock) w6 ks vs):=ha
        obtain ⟨g0,g1,g2,g3,_,_,_,_⟩:=id hb16
        have hlk:ks.length≤8000:=by omega
        clear ha
        have hlc:Lies (fun b=>w2.heap.size+1≤b∧b<w6.heap.size∧some b≠(Value.slice a ks.length c).ownBlock) w6 q1.1 (.agg #[.int .i64 kc,.string yc,.int .i64 mc,.slice ac nc cc]) :=
         hl6.to (fun b hb=>by
          have h1:wq.heap.size≤b:=hb.1
          exact ⟨by omega,hb.2,fun e=>by have:=(hkb b e.symm).2;omega⟩) (fun _ _ _=>rfl)
        go_wp2
        refine one0 4 fun K hK=>?_
        go_simp
        refine hK _ _ ?_
        clear hK K
        refine one0 5 fun K hK=>?_
        refine step_append_lies _ (by rfl) (.tmp 33) (.tmp 36) 23 (by rfl) (w2.heap.size+1) 25 i0 (.agg #[.int .i64 0,.string ⟨#[]⟩,.int .i64 0,.slice none 0 0]) 4 56 Tryz.underlying23 hi hz0 hz1' hz2 rfl (by decide) (.slice a ks.length c) ks.length (flat4 vs) rfl (ho.alloc _) ⟨w6.heap.size,0,none⟩ 1 1 [.int .i64 kc,.string yc,.int .i64 mc,.slice ac nc cc] rfl rfl (cells4_new _ _ _ _ _ _ _ rfl) (by intro u hu;simp at hu;rcases hu with rfl | rfl | rfl | rfl<;>rfl) (by omega) (by unfold maxLen;omega) (by omega) (by simp;omega) (w6.heap.size+1) (by simp) ?_
        intro g cap w7 hown' hgrow hat hlt
        refine hK _ _ ?_
        clear hK K
        have hK7:=KO.pushed (q:=(.int .i64 kc,.string yc,.int .i64 mc,.slice ac nc cc)) (t:=q1.1) hK6 ho HA.out hlc hown' hgrow (by rcases hat with e | e;exact .inl e.symm;exact .inr (by rw [e];rfl))
        have hnb:(Value.slice a ks.length c).ownBlock≠some w2.heap.size:=fun e=>by have:=(hkb _ e).1;omega
        have hnb0:(Value.slice a ks.length c).ownBlock≠some w.heap.size:=fun e=>by have:=(hkb _ e).1;omega
        have hb17:=(hb16.alloc (.cells #[.int .i64 kc,.string yc,.int .i64 mc,.slice ac nc cc] 25)).grown hgrow hnb
        have hb07:=(hb06.alloc (.cells #[.int .i64 kc,.string yc,.int .i64 mc,.slice ac nc cc] 25)).grown hgrow hnb0
        obtain ⟨e0,e1,e2,e3,d0,d1,d2,d3⟩:=id hb17
        refine one0 6 fun K hK=>?_
        go_simp
        refine hK _ _ ?_
        clear hK K
        refine one0 7 fun K hK=>?_
        go_simp
        refine hK _ _ ?_
        clear hK K
        refine wpAny_done (by kernel_rfl) ?_ _
        go_wp2
        go_roundg k
        case rel=>exact ⟨ks++[q1.1],q1.2,_,HQ.out,by rw [List.length_append];simp;omega,hK7.set (by omega) (by omega) 3 _,hb17.set3 _,hb07.other (by omega) _⟩
        case measure=>omega
       refine AllReady.cons rfl (fun K hK=>?_) AllReady.nil
       go_simp
       go_at_call 111
       refine (hD.fine (hKq.ld.drewN 1) h1 hbq').mono ?_
       rintro e w6 ⟨v6,rfl,hl6,hL6,hF6⟩
       obtain ⟨kc,yc,mc,_,rfl,ac,nc,cc,rfl⟩:=hl6.shape
       have hFq6:Fr r wq w6:=((Fr.refl r wq).drewN 1).trans hF6
       have hkb:∀ g,(Value.slice a ks.length c).ownBlock=some g→w2.heap.size+1≤g∧g<wq.heap.size:=fun g hg=>hKq.kids.blk hg
       have hK6:=hKq.step hL6 hFq6
       have zz:=hFq6.size
       have zq:=hb1q.lt
       have hb16:=hb1q.fr hFq6 (by omega)
       have hb06:=hb0q.fr hFq6 (by omega)
       have z6:w2.heap.size<w6.heap.size:=hb16.lt
       have z6':w.heap.size<w6.heap.size:=hb06.lt
       obtain ⟨vs,ho,ha⟩:=hK6.kids
       have HA:Hid (AllLie (fun b=>w2.heap.size+1≤b∧b<w6.heap.size∧some b≠(Value.slice a ks.length c).ownBlock) w6 ks vs):=ha
       obtain ⟨g0,g1,g2,g3,_,_,_,_⟩:=id hb16
       have hlk:ks.length≤8000:=by omega
       clear ha
       have hlc:Lies (fun b=>w2.heap.size+1≤b∧b<w6.heap.size∧some b≠(Value.slice a ks.length c).ownBlock) w6 q1.1 (.agg #[.int .i64 kc,.string yc,.int .i64 mc,.slice ac nc cc]) :=
        hl6.to (fun b hb=>by
         have h1:wq.heap.size≤b:=hb.1
         exact ⟨by omega,hb.2,fun e=>by have:=(hkb b e.symm).2;omega⟩) (fun _ _ _=>rfl)
       go_wp2
       refine wpAny_ready (rs:=[1,4]) (by kernel_rfl) (by simp) ?_
       refine AllReady.cons rfl (fun K hK=>?_) ?_
       ·skip
        go_simp
        refine hK _ _ ?_
        clear hK K
        refine one0 4 fun K hK=>?_
        go_simp
        refine hK _ _ ?_
        clear hK K
        refine one0 5 fun K hK=>?_
        refine step_append_lies _ (by rfl) (.tmp 33) (.tmp 36) 23 (by rfl) (w2.heap.size+1) 25 i0 (.agg #[.int .i64 0,.string ⟨#[]⟩,.int .i64 0,.slice none 0 0]) 4 56 Tryz.underlying23 hi hz0 hz1' hz2 rfl (by decide) (.slice a ks.length c) ks.length (flat4 vs) rfl (ho.alloc _) ⟨w6.heap.size,0,none⟩ 1 1 [.int .i64 kc,.string yc,.int .i64 mc,.slice ac nc cc] rfl rfl (cells4_new _ _ _ _ _ _ _ rfl) (by intro u hu;simp at hu;rcases hu with rfl | rfl | rfl | rfl<;>rfl) (by omega) (by unfold maxLen;omega) (by omega) (by simp;omega) (w6.heap.size+1) (by simp) ?_
        intro g cap w7 hown' hgrow hat hlt
        refine hK _ _ ?_
        clear hK K
        have hK7:=KO.pushed (q:=(.int .i64 kc,.string yc,.int .i64 mc,.slice ac nc cc)) (t:=q1.1) hK6 ho HA.out hlc hown' hgrow (by rcases hat with e | e;exact .inl e.symm;exact .inr (by rw [e];rfl))
        have hnb:(Value.slice a ks.length c).ownBlock≠some w2.heap.size:=fun e=>by have:=(hkb _ e).1;omega
        have hnb0:(Value.slice a ks.length c).ownBlock≠some w.heap.size:=fun e=>by have:=(hkb _ e).1;omega
        have hb17:=(hb16.alloc (.cells #[.int .i64 kc,.string yc,.int .i64 mc,.slice ac nc cc] 25)).grown hgrow hnb
        have hb07:=(hb06.alloc (.cells #[.int .i64 kc,.string yc,.int .i64 mc,.slice ac nc cc] 25)).grown hgrow hnb0
        obtain ⟨e0,e1,e2,e3,d0,d1,d2,d3⟩:=id hb17
        refine one0 6 fun K hK=>?_
        go_simp
        refine hK _ _ ?_
        clear hK K
        refine one0 7 fun K hK=>?_
        go_simp
        refine hK _ _ ?_
        clear hK K
        refine wpAny_done (by kernel_rfl) ?_ _
        go_wp2
        go_roundg k
        case rel=>exact ⟨ks++[q1.1],q1.2,_,HQ.out,by rw [List.length_append];simp;omega,hK7.set (by omega) (by omega) 3 _,hb17.set3 _,hb07.other (by omega) _⟩
        case measure=>omega
       refine AllReady.cons rfl (fun K hK=>?_) AllReady.nil
       go_simp
       refine hK _ _ ?_
       clear hK K
       refine one0 1 fun K hK=>?_
       go_simp
       refine hK _ _ ?_
       clear hK K
       refine one0 5 fun K hK=>?_
       refine step_append_lies _ (by rfl) (.tmp 33) (.tmp 36) 23 (by rfl) (w2.heap.size+1) 25 i0 (.agg #[.int .i64 0,.string ⟨#[]⟩,.int .i64 0,.slice none 0 0]) 4 56 Tryz.underlying23 hi hz0 hz1' hz2 rfl (by decide) (.slice a ks.length c) ks.length (flat4 vs) rfl (ho.alloc _) ⟨w6.heap.size,0,none⟩ 1 1 [.int .i64 kc,.string yc,.int .i64 mc,.slice ac nc cc] rfl rfl (cells4_new _ _ _ _ _ _ _ rfl) (by intro u hu;simp at hu;rcases hu with rfl | rfl | rfl | rfl<;>rfl) (by omega) (by unfold maxLen;omega) (by omega) (by simp;omega) (w6.heap.size+1) (by simp) ?_
       intro g cap w7 hown' hgrow hat hlt
       refine hK _ _ ?_
       clear hK K
       have hK7:=KO.pushed (q:=(.int .i64 kc,.string yc,.int .i64 mc,.slice ac nc cc)) (t:=q1.1) hK6 ho HA.out hlc hown' hgrow (by rcases hat with e | e;exact .inl e.symm;exact .inr (by rw [e];rfl))
       have hnb:(Value.slice a ks.length c).ownBlock≠some w2.heap.size:=fun e=>by have:=(hkb _ e).1;omega
       have hnb0:(Value.slice a ks.length c).ownBlock≠some w.heap.size:=fun e=>by have:=(hkb _ e).1;omega
       have hb17:=(hb16.alloc (.cells #[.int .i64 kc,.string yc,.int .i64 mc,.slice ac nc cc] 25)).grown hgrow hnb
       have hb07:=(hb06.alloc (.cells #[.int .i64 kc,.string yc,.int .i64 mc,.slice ac nc cc] 25)).grown hgrow hnb0
       obtain ⟨e0,e1,e2,e3,d0,d1,d2,d3⟩:=id hb17
       refine one0 6 fun K hK=>?_
       go_simp
       refine hK _ _ ?_
       clear hK K
       refine one0 7 fun K hK=>?_
       go_simp
       refine hK _ _ ?_
       clear hK K
       refine wpAny_done (by kernel_rfl) ?_ _
       go_wp2
       go_roundg k
       case rel=>exact ⟨ks++[q1.1],q1.2,_,HQ.out,by rw [List.length_append];simp;omega,hK7.set (by omega) (by omega) 3 _,hb17.set3 _,hb07.other (by omega) _⟩
       case measure=>omega
   case true =>
    rw [he,if_pos rfl] at hq2
    have HQ:Hid (importsL ts k (ks++[.node 2 (name ts s1.next).1 0 []]) (must ts ⟨#[59]⟩ (name ts s1.next).2)=some p):=hq2
    clear hq2
    go_wp2_with (fail)
    refine (skip_yes hK.ld ⟨#[105,109,112,111,114,116]⟩ (by decide) he rfl).mono ?_
    rintro e wq ⟨rfl,hLq,hFq⟩
    have hKq:=hK.step hLq hFq
    have hb1q:=hb1.fr hFq (by omega)
    have hb0q:=hb0.fr hFq (by omega)
    obtain ⟨p0,p1,p2,p3,_,_,_,_⟩:=id hb1q
    by_cases hbn:(name ts s1.next).2.bad=true
    ·have HS:Hid (d.2=(name ts s1.next).2):=by
      have e1:must ts ⟨#[59]⟩ (name ts s1.next).2=(name ts s1.next).2:=must_st (by decide) hbn
      have e2:=importsL_st (by rw [e1];exact hbn) HQ.out
      show _=_
      rw [T1.out (by rw [e2,e1];exact hbn),e2,e1]
     go_wp2
     refine wp_region_any (by kernel_rfl) ?_
     change wpAny _ _ _ _ _ _ _ (World.drew _)
     refine tkQ 0 (.pointer (some ⟨w2.heap.size,3,none⟩)) ?_
     refine tkQ 2 (.pointer (some ⟨r,0,none⟩)) ?_
     refine tkQ 3 (.pointer (some ⟨r,0,none⟩)) ?_
     refine wpAny_ready (rs:=[1,4]) (by kernel_rfl) (by simp) ?_
     refine AllReady.cons rfl (fun K hK=>?_) ?_
     ·skip
      go_simp
      refine hK _ _ ?_
      clear hK K
      refine one0 4 fun K hK=>?_
      go_simp
      go_at_call 108
      refine (name_lost (hLq.drewN 1) hbn).mono ?_
      rintro e w5 ⟨rfl,hF5⟩
      go_wp2
      exact ⟨rfl,OAns.lost HS.out hbn ((hKq.fr.drewN 1).trans hF5)⟩
     refine AllReady.cons rfl (fun K hK=>?_) AllReady.nil
     go_simp
     go_at_call 108
     refine (name_lost (hLq.drewN 1) hbn).mono ?_
     rintro e w5 ⟨rfl,hF5⟩
     go_wp2
     exact ⟨rfl,OAns.lost HS.out hbn ((hKq.fr.drewN 1).trans hF5)⟩
    have hbn':(name ts s1.next).2.bad=false:=by simpa using hbn
    by_cases hbe:(must ts ⟨#[59]⟩ (name ts s1.next).2).bad=true
    ·have HS:Hid (d.2=must ts ⟨#[59]⟩ (name ts s1.next).2):=by
      have e2:=importsL_st hbe HQ.out
      show _=_
      rw [T1.out (by rw [e2];exact hbe),e2]
     go_wp2
     refine wp_region_any (by kernel_rfl) ?_
     change wpAny _ _ _ _ _ _ _ (World.drew _)
     refine tkQ 0 (.pointer (some ⟨w2.heap.size,3,none⟩)) ?_
     refine tkQ 2 (.pointer (some ⟨r,0,none⟩)) ?_
     refine tkQ 3 (.pointer (some ⟨r,0,none⟩)) ?_
     refine wpAny_ready (rs:=[1,4]) (by kernel_rfl) (by simp) ?_
     refine AllReady.cons rfl (fun K hK=>?_) ?_
     ·skip
      go_simp
      refine hK _ _ ?_
      clear hK K
      refine one0 4 fun K hK=>?_
      go_simp
      go_at_call 108
      refine (name_fine (hLq.drewN 1) hbn').mono ?_
      rintro e w5 ⟨rfl,hL5,hF5⟩
      have hFq5:Fr r wq w5:=((Fr.refl r wq).drewN 1).trans hF5
      have zq5:=hFq5.size
      obtain ⟨r0,r1,r2,r3,_,_,_,_⟩:=hb1q.fr hFq5 (by omega)
      go_wp2
      refine tkQ 5 (.agg #[.int .i64 2,.string (name ts s1.next).1,.int .i64 0,.slice none 0 0] ) ?_
      refine one0 6 fun K hK=>?_
      go_simp
      go_at_call 110
      refine (ended_lost hL5 2 0 _ none 0 0 hbe).mono ?_
      rintro e w6 ⟨rfl,hF6⟩
      go_wp2
      exact ⟨rfl,OAns.lost HS.out hbe (hKq.fr.trans (hFq5.trans hF6))⟩
     refine AllReady.cons rfl (fun K hK=>?_) AllReady.nil
     go_simp
     go_at_call 108
     refine (name_fine (hLq.drewN 1) hbn').mono ?_
     rintro e w5 ⟨rfl,hL5,hF5⟩
     have hFq5:Fr r wq w5:=((Fr.refl r wq).drewN 1).trans hF5
     have zq5:=hFq5.size
     obtain ⟨r0,r1,r2,r3,_,_,_,_⟩:=hb1q.fr hFq5 (by omega)
     go_wp2
     refine tkQ 5 (.agg #[.int .i64 2,.string (name ts s1.next).1,.int .i64 0,.slice none 0 0] ) ?_
     refine wpAny_ready (rs:=[1,6]) (by kernel_rfl) (by simp) ?_
     refine AllReady.cons rfl (fun K hK=>?_) ?_
     ·skip
      go_simp
      refine hK _ _ ?_
      clear hK K
      refine one0 6 fun K hK=>?_
      go_simp
      go_at_call 110
      refine (ended_lost hL5 2 0 _ none 0 0 hbe).mono ?_
      rintro e w6 ⟨rfl,hF6⟩
      go_wp2
      exact ⟨rfl,OAns.lost HS.out hbe (hKq.fr.trans (hFq5.trans hF6))⟩
     refine AllReady.cons rfl (fun K hK=>?_) AllReady.nil
     go_simp
     go_at_call 110
     refine (ended_lost hL5 2 0 _ none 0 0 hbe).mono ?_
     rintro e w6 ⟨rfl,hF6⟩
     go_wp2
     exact ⟨rfl,OAns.lost HS.out hbe (hKq.fr.trans (hFq5.trans hF6))⟩
    have hbe':(must ts ⟨#[59]⟩ (name ts s1.next).2).bad=false:=by simpa using hbe
    go_wp2
    refine wp_region_any (by kernel_rfl) ?_
    change wpAny _ _ _ _ _ _ _ (World.drew _)
    refine tkQ 0 (.pointer (some ⟨w2.heap.size,3,none⟩)) ?_
    refine tkQ 2 (.pointer (some ⟨r,0,none⟩)) ?_
    refine tkQ 3 (.pointer (some ⟨r,0,none⟩)) ?_
    refine wpAny_ready (rs:=[1,4]) (by kernel_rfl) (by simp) ?_
    refine AllReady.cons rfl (fun K hK=>?_) ?_
    ·skip
     go_simp
     refine hK _ _ ?_
     clear hK K
     refine one0 4 fun K hK=>?_
     go_simp
     go_at_call 108
     refine (name_fine (hLq.drewN 1) hbn').mono ?_
     rintro e w5 ⟨rfl,hL5,hF5⟩
     have hFq5:Fr r wq w5:=((Fr.refl r wq).drewN 1).trans hF5
     have zq5:=hFq5.size
     obtain ⟨r0,r1,r2,r3,_,_,_,_⟩:=hb1q.fr hFq5 (by omega)
     go_wp2
     refine tkQ 5 (.agg #[.int .i64 2,.string (name ts s1.next).1,.int .i64 0,.slice none 0 0] ) ?_
     refine one0 6 fun K hK=>?_
     go_simp
     go_at_call 110
     refine (ended_fine hL5 2 0 _ none 0 0 hbe').mono ?_
     rintro e w6 ⟨rfl,hL6,hF6⟩
     have hFq6:Fr r wq w6:=hFq5.trans hF6
     have hkb:∀ g,(Value.slice a ks.length c).ownBlock=some g→w2.heap.size+1≤g∧g<wq.heap.size:=fun g hg=>hKq.kids.blk hg
     have hK6:=hKq.step hL6 hFq6
     have zz:=hFq6.size
     have zq:=hb1q.lt
     have hb16:=hb1q.fr hFq6 (by omega)
     have hb06:=hb0q.fr hFq6 (by omega)
     have z6:w2.heap.size<w6.heap.size:=hb16.lt
     have z6':w.heap.size<w6.heap.size:=hb06.lt
     obtain ⟨vs,ho,ha⟩:=hK6.kids
     have HA:Hid (AllLie (fun b=>w2.heap.size+1≤b∧b<w6.heap.size∧some b≠(Value.slice a ks.length c).ownBlock) w6 ks vs):=ha
     obtain ⟨g0,g1,g2,g3,_,_,_,_⟩:=id hb16
     have hlk:ks.length≤8000:=by omega
     clear ha
     have hlc:Lies (fun b=>w2.heap.size+1≤b∧b<w6.heap.size∧some b≠(Value.slice a ks.length c).ownBlock) w6 (.node 2 (name ts s1.next).1 0 []) (.agg #[.int .i64 2,.string (name ts s1.next).1,.int .i64 0,.slice none 0 0]):=Lies.leaf _ _ _ _ _
     go_wp2
     refine one0 7 fun K hK=>?_
     go_simp
     refine hK _ _ ?_
     clear hK K
     refine one0 8 fun K hK=>?_
     refine step_append_lies _ (by rfl) (.tmp 17) (.tmp 23) 23 (by rfl) (w2.heap.size+1) 25 i0 (.agg #[.int .i64 0,.string ⟨#[]⟩,.int .i64 0,.slice none 0 0]) 4 56 Tryz.underlying23 hi hz0 hz1' hz2 rfl (by decide) (.slice a ks.length c) ks.length (flat4 vs) rfl (ho.alloc _) ⟨w6.heap.size,0,none⟩ 1 1 [.int .i64 2,.string (name ts s1.next).1,.int .i64 0,.slice none 0 0] rfl rfl (cells4_new _ _ _ _ _ _ _ rfl) (by intro u hu;simp at hu;rcases hu with rfl | rfl | rfl | rfl<;>rfl) (by omega) (by unfold maxLen;omega) (by omega) (by simp;omega) (w6.heap.size+1) (by simp) ?_
     intro g cap w7 hown' hgrow hat hlt
     refine hK _ _ ?_
     clear hK K
     have hK7:=KO.pushed (q:=(.int .i64 2,.string (name ts s1.next).1,.int .i64 0,.slice none 0 0)) (t:=Tree.node 2 (name ts s1.next).1 0 [] ) hK6 ho HA.out hlc hown' hgrow (by rcases hat with e | e;exact .inl e.symm;exact .inr (by rw [e];rfl))
     have hnb:(Value.slice a ks.length c).ownBlock≠some w2.heap.size:=fun e=>by have:=(hkb _ e).1;omega
     have hnb0:(Value.slice a ks.length c).ownBlock≠some w.heap.size:=fun e=>by have:=(hkb _ e).1;omega
     have hb17:=(hb16.alloc (.cells #[.int .i64 2,.string (name ts s1.next).1,.int .i64 0,.slice none 0 0] 25)).grown hgrow hnb
     have hb07:=(hb06.alloc (.cells #[.int .i64 2,.string (name ts s1.next).1,.int .i64 0,.slice none 0 0] 25)).grown hgrow hnb0
     obtain ⟨e0,e1,e2,e3,d0,d1,d2,d3⟩:=id hb17
     refine one0 9 fun K hK=>?_
     go_simp
     refine hK _ _ ?_
     clear hK K
     refine one0 10 fun K hK=>?_
     go_simp
     refine hK _ _ ?_
     clear hK K
     refine wpAny_done (by kernel_rfl) ?_ _
     go_wp2
     go_roundg k
     case rel=>exact ⟨ks++[Tree.node 2 (name ts s1.next).1 0 [] ],must ts ⟨#[59]⟩ (name ts s1.next).2,_,HQ.out,by rw [List.length_append];simp;omega,hK7.set (by omega) (by omega) 3 _,hb17.set3 _,hb07.other (by omega) _⟩
     case measure=>omega
    refine AllReady.cons rfl (fun K hK=>?_) AllReady.nil
    go_simp
    go_at_call 108
    refine (name_fine (hLq.drewN 1) hbn').mono ?_
    rintro e w5 ⟨rfl,hL5,hF5⟩
    have hFq5:Fr r wq w5:=((Fr.refl r wq).drewN 1).trans hF5
    have zq5:=hFq5.size
    obtain ⟨r0,r1,r2,r3,_,_,_,_⟩:=hb1q.fr hFq5 (by omega)
    go_wp2
    refine tkQ 5 (.agg #[.int .i64 2,.string (name ts s1.next).1,.int .i64 0,.slice none 0 0] ) ?_
    refine wpAny_ready (rs:=[1,6]) (by kernel_rfl) (by simp) ?_
    refine AllReady.cons rfl (fun K hK=>?_) ?_
    ·skip
     go_simp
     refine hK _ _ ?_
     clear hK K
     refine one0 6 fun K hK=>?_
     go_simp
     go_at_call 110
     refine (ended_fine hL5 2 0 _ none 0 0 hbe').mono ?_
     rintro e w6 ⟨rfl,hL6,hF6⟩
     have hFq6:Fr r wq w6:=hFq5.trans hF6
     have hkb:∀ g,(Value.slice a ks.length c).ownBlock=some g→w2.heap.size+1≤g∧g<wq.heap.size:=fun g hg=>hKq.kids.blk hg
     have hK6:=hKq.step hL6 hFq6
     have zz:=hFq6.size
     have zq:=hb1q.lt
     have hb16:=hb1q.fr hFq6 (by omega)
     have hb06:=hb0q.fr hFq6 (by omega)
     have z6:w2.heap.size<w6.heap.size:=hb16.lt
     have z6':w.heap.size<w6.heap.size:=hb06.lt
     obtain ⟨vs,ho,ha⟩:=hK6.kids
     have HA:Hid (AllLie (fun b=>w2.heap.size+1≤b∧b<w6.heap.size∧some b≠(Value.slice a ks.length c).ownBlock) w6 ks vs):=ha
     obtain ⟨g0,g1,g2,g3,_,_,_,_⟩:=id hb16
     have hlk:ks.length≤8000:=by omega
     clear ha
     have hlc:Lies (fun b=>w2.heap.size+1≤b∧b<w6.heap.size∧some b≠(Value.slice a ks.length c).ownBlock) w6 (.node 2 (name ts s1.next).1 0 []) (.agg #[.int .i64 2,.string (name ts s1.next).1,.int .i64 0,.slice none 0 0]):=Lies.leaf _ _ _ _ _
     go_wp2
     refine one0 7 fun K hK=>?_
     go_simp
     refine hK _ _ ?_
     clear hK K
     refine one0 8 fun K hK=>?_
     refine step_append_lies _ (by rfl) (.tmp 17) (.tmp 23) 23 (by rfl) (w2.heap.size+1) 25 i0 (.agg #[.int .i64 0,.string ⟨#[]⟩,.int .i64 0,.slice none 0 0]) 4 56 Tryz.underlying23 hi hz0 hz1' hz2 rfl (by decide) (.slice a ks.length c) ks.length (flat4 vs) rfl (ho.alloc _) ⟨w6.heap.size,0,none⟩ 1 1 [.int .i64 2,.string (name ts s1.next).1,.int .i64 0,.slice none 0 0] rfl rfl (cells4_new _ _ _ _ _ _ _ rfl) (by intro u hu;simp at hu;rcases hu with rfl | rfl | rfl | rfl<;>rfl) (by omega) (by unfold maxLen;omega) (by omega) (by simp;omega) (w6.heap.size+1) (by simp) ?_
     intro g cap w7 hown' hgrow hat hlt
     refine hK _ _ ?_
     clear hK K
     have hK7:=KO.pushed (q:=(.int .i64 2,.string (name ts s1.next).1,.int .i64 0,.slice none 0 0)) (t:=Tree.node 2 (name ts s1.next).1 0 [] ) hK6 ho HA.out hlc hown' hgrow (by rcases hat with e | e;exact .inl e.symm;exact .inr (by rw [e];rfl))
     have hnb:(Value.slice a ks.length c).ownBlock≠some w2.heap.size:=fun e=>by have:=(hkb _ e).1;omega
     have hnb0:(Value.slice a ks.length c).ownBlock≠some w.heap.size:=fun e=>by have:=(hkb _ e).1;omega
     have hb17:=(hb16.alloc (.cells #[.int .i64 2,.string (name ts s1.next).1,.int .i64 0,.slice none 0 0] 25)).grown hgrow hnb
     have hb07:=(hb06.alloc (.cells #[.int .i64 2,.string (name ts s1.next).1,.int .i64 0,.slice none 0 0] 25)).grown hgrow hnb0
     obtain ⟨e0,e1,e2,e3,d0,d1,d2,d3⟩:=id hb17
     refine one0 9 fun K hK=>?_
     go_simp
     refine hK _ _ ?_
     clear hK K
     refine one0 10 fun K hK=>?_
     go_simp
     refine hK _ _ ?_
     clear hK K
     refine wpAny_done (by kernel_rfl) ?_ _
     go_wp2
     go_roundg k
     case rel=>exact ⟨ks++[Tree.node 2 (name ts s1.next).1 0 [] ],must ts ⟨#[59]⟩ (name ts s1.next).2,_,HQ.out,by rw [List.length_append];simp;omega,hK7.set (by omega) (by omega) 3 _,hb17.set3 _,hb07.other (by omega) _⟩
     case measure=>omega
    refine AllReady.cons rfl (fun K hK=>?_) AllReady.nil
    go_simp
    go_at_call 110
    refine (ended_fine hL5 2 0 _ none 0 0 hbe').mono ?_
    rintro e w6 ⟨rfl,hL6,hF6⟩
    have hFq6:Fr r wq w6:=hFq5.trans hF6
    have hkb:∀ g,(Value.slice a ks.length c).ownBlock=some g→w2.heap.size+1≤g∧g<wq.heap.size:=fun g hg=>hKq.kids.blk hg
    have hK6:=hKq.step hL6 hFq6
    have zz:=hFq6.size
    have zq:=hb1q.lt
    have hb16:=hb1q.fr hFq6 (by omega)
    have hb06:=hb0q.fr hFq6 (by omega)
    have z6:w2.heap.size<w6.heap.size:=hb16.lt
    have z6':w.heap.size<w6.heap.size:=hb06.lt
    obtain ⟨vs,ho,ha⟩:=hK6.kids
    have HA:Hid (AllLie (fun b=>w2.heap.size+1≤b∧b<w6.heap.size∧some b≠(Value.slice a ks.length c).ownBlock) w6 ks vs):=ha
    obtain ⟨g0,g1,g2,g3,_,_,_,_⟩:=id hb16
    have hlk:ks.length≤8000:=by omega
    clear ha
    have hlc:Lies (fun b=>w2.heap.size+1≤b∧b<w6.heap.size∧some b≠(Value.slice a ks.length c).ownBlock) w6 (.node 2 (name ts s1.next).1 0 []) (.agg #[.int .i64 2,.string (name ts s1.next).1,.int .i64 0,.slice none 0 0]):=Lies.leaf _ _ _ _ _
    go_wp2
    refine wpAny_ready (rs:=[1,7]) (by kernel_rfl) (by simp) ?_
    refine AllReady.cons rfl (fun K hK=>?_) ?_
    ·skip
     go_simp
     refine hK _ _ ?_
     clear hK K
     refine one0 7 fun K hK=>?_
     go_simp
     refine hK _ _ ?_
     clear hK K
     refine one0 8 fun K hK=>?_
     refine step_append_lies _ (by rfl) (.tmp 17) (.tmp 23) 23 (by rfl) (w2.heap.size+1) 25 i0 (.agg #[.int .i64 0,.string ⟨#[]⟩,.int .i64 0,.slice none 0 0]) 4 56 Tryz.underlying23 hi hz0 hz1' hz2 rfl (by decide) (.slice a ks.length c) ks.length (flat4 vs) rfl (ho.alloc _) ⟨w6.heap.size,0,none⟩ 1 1 [.int .i64 2,.string (name ts s1.next).1,.int .i64 0,.slice none 0 0] rfl rfl (cells4_new _ _ _ _ _ _ _ rfl) (by intro u hu;simp at hu;rcases hu with rfl | rfl | rfl | rfl<;>rfl) (by omega) (by unfold maxLen;omega) (by omega) (by simp;omega) (w6.heap.size+1) (by simp) ?_
     intro g cap w7 hown' hgrow hat hlt
     refine hK _ _ ?_
     clear hK K
     have hK7:=KO.pushed (q:=(.int .i64 2,.string (name ts s1.next).1,.int .i64 0,.slice none 0 0)) (t:=Tree.node 2 (name ts s1.next).1 0 [] ) hK6 ho HA.out hlc hown' hgrow (by rcases hat with e | e;exact .inl e.symm;exact .inr (by rw [e];rfl))
     have hnb:(Value.slice a ks.length c).ownBlock≠some w2.heap.size:=fun e=>by have:=(hkb _ e).1;omega
     have hnb0:(Value.slice a ks.length c).ownBlock≠some w.heap.size:=fun e=>by have:=(hkb _ e).1;omega
     have hb17:=(hb16.alloc (.cells #[.int .i64 2,.string (name ts s1.next).1,.int .i64 0,.slice none 0 0] 25)).grown hgrow hnb
     have hb07:=(hb06.alloc (.cells #[.int .i64 2,.string (name ts s1.next).1,.int .i64 0,.slice none 0 0] 25)).grown hgrow hnb0
     obtain ⟨e0,e1,e2,e3,d0,d1,d2,d3⟩:=id hb17
     refine one0 9 fun K hK=>?_
     go_simp
     refine hK _ _ ?_
     clear hK K
     refine one0 10 fun K hK=>?_
     go_simp
     refine hK _ _ ?_
     clear hK K
     refine wpAny_done (by kernel_rfl) ?_ _
     go_wp2
     go_roundg k
     case rel=>exact ⟨ks++[Tree.node 2 (name ts s1.next).1 0 [] ],must ts ⟨#[59]⟩ (name ts s1.next).2,_,HQ.out,by rw [List.length_append];simp;omega,hK7.set (by omega) (by omega) 3 _,hb17.set3 _,hb07.other (by omega) _⟩
     case measure=>omega
    refine AllReady.cons rfl (fun K hK=>?_) AllReady.nil
    go_simp
    refine hK _ _ ?_
    clear hK K
    refine one0 1 fun K hK=>?_
    go_simp
    refine hK _ _ ?_
    clear hK K
    refine one0 8 fun K hK=>?_
    refine step_append_lies _ (by rfl) (.tmp 17) (.tmp 23) 23 (by rfl) (w2.heap.size+1) 25 i0 (.agg #[.int .i64 0,.string ⟨#[]⟩,.int .i64 0,.slice none 0 0]) 4 56 Tryz.underlying23 hi hz0 hz1' hz2 rfl (by decide) (.slice a ks.length c) ks.length (flat4 vs) rfl (ho.alloc _) ⟨w6.heap.size,0,none⟩ 1 1 [.int .i64 2,.string (name ts s1.next).1,.int .i64 0,.slice none 0 0] rfl rfl (cells4_new _ _ _ _ _ _ _ rfl) (by intro u hu;simp at hu;rcases hu with rfl | rfl | rfl | rfl<;>rfl) (by omega) (by unfold maxLen;omega) (by omega) (by simp;omega) (w6.heap.size+1) (by simp) ?_
    intro g cap w7 hown' hgrow hat hlt
    refine hK _ _ ?_
    clear hK K
    have hK7:=KO.pushed (q:=(.int .i64 2,.string (name ts s1.next).1,.int .i64 0,.slice none 0 0)) (t:=Tree.node 2 (name ts s1.next).1 0 [] ) hK6 ho HA.out hlc hown' hgrow (by rcases hat with e | e;exact .inl e.symm;exact .inr (by rw [e];rfl))
    have hnb:(Value.slice a ks.length c).ownBlock≠some w2.heap.size:=fun e=>by have:=(hkb _ e).1;omega
    have hnb0:(Value.slice a ks.length c).ownBlock≠some w.heap.size:=fun e=>by have:=(hkb _ e).1;omega
    have hb17:=(hb16.alloc (.cells #[.int .i64 2,.string (name ts s1.next).1,.int .i64 0,.slice none 0 0] 25)).grown hgrow hnb
    have hb07:=(hb06.alloc (.cells #[.int .i64 2,.string (name ts s1.next).1,.int .i64 0,.slice none 0 0] 25)).grown hgrow hnb0
    obtain ⟨e0,e1,e2,e3,d0,d1,d2,d3⟩:=id hb17
    refine one0 9 fun K hK=>?_
    go_simp
    refine hK _ _ ?_
    clear hK K
    refine one0 10 fun K hK=>?_
    go_simp
    refine hK _ _ ?_
    clear hK K
    refine wpAny_done (by kernel_rfl) ?_ _
    go_wp2
    go_roundg k
    case rel=>exact ⟨ks++[Tree.node 2 (name ts s1.next).1 0 [] ],must ts ⟨#[59]⟩ (name ts s1.next).2,_,HQ.out,by rw [List.length_append];simp;omega,hK7.set (by omega) (by omega) 3 _,hb17.set3 _,hb07.other (by omega) _⟩
    case measure=>omega
end
section
variable {w w' w0:World} {r G B:Nat} {ts:List Tok} {s:St}
theorem recover_some {P:Program} {Q:Exit→Act→List Frame→World→Prop} {a:Act} {cs cs':List Frame} {w:World} {y:Code} {v:Value} {d:Nat} {T:TypeId} {pos:String} (h:recoverD cs=some (v,cs')) (hy:y.wpS P Q (a.put (some d) v) cs' w) :
  ((Code.region 0 #[{ dst:=some d,op:=Op.call { callee:=Callee.builtin Builtin.recover,args:=#[],argTypes:=#[] },type:=T,pos:=pos,after:=#[],guard:=none }] false).seq y).wpS P Q a cs w:=by
 apply wpS_seq
 apply wpS_region
 simp [wpOpsS,go_sem,h,Exit.thenS]
 exact hy
theorem recover_none {P:Program} {Q:Exit→Act→List Frame→World→Prop} {a:Act} {cs:List Frame} {w:World} {y:Code} {d:Nat} {T:TypeId} {pos:String} (h:recoverD cs=none) (hy:y.wpS P Q (a.put (some d) .nilIface) cs w) :
  ((Code.region 0 #[{ dst:=some d,op:=Op.call { callee:=Callee.builtin Builtin.recover,args:=#[],argTypes:=#[] },type:=T,pos:=pos,after:=#[],guard:=none }] false).seq y).wpS P Q a cs w:=by
 apply wpS_seq
 apply wpS_region
 simp [wpOpsS,go_sem,h,Exit.thenS]
 exact hy
set_option maxHeartbeats 200000 in
theorem catch_idle (p e:Addr) (w:World) :
  CallsD Tryz.prog 60 #[.pointer (some p),.pointer (some e)] .returning w fun e u' w'=>e=.returned (.tuple #[])∧u'=.returning∧w'=w:=by
 have hnn:∀ w:World,(binOp BinOp.eql 20 .nilIface .nilIface).run Tryz.prog w=.ok (.bool true) w:=fun _=>by kernel_rfl
 refine callsD_of_wpS Tryz.func60 rfl fun c₀ cs hu=>?_
 refine recover_none (by simp [recoverD,hu]) ?_
 simp only [Tryz.ntmps60,List.size_toArray,List.length_cons,List.length_nil,Nat.reduceAdd,Nat.reduceSub,Array.replicate_succ,Array.replicate_zero,List.push_toArray,List.append_toArray,List.nil_append,List.cons_append,Act.put,List.setIfInBounds_toArray,List.set_cons_succ,List.set_cons_zero]
 refine wpS_of_wp (wp_mono (Q:=fun e a w'=>e=.normal∧a.defers=[]∧w'=w) ?_ ?_)
 ·go_wp2
 ·rintro e a w' ⟨rfl,h1,rfl⟩
  exact ⟨h1,_,rfl,.tuple #[],by simp [results,Tryz.results60],rfl,hu,rfl⟩
set_option maxHeartbeats 1000000 in
theorem catch_strange (fb eb:Nat) (at_:Int) (w:World) (h0:w.cell? ⟨fb,0,none⟩=some (.int .i64 0)) (h1:w.cell? ⟨fb,1,none⟩=some (.int .i64 0)) (f0:w.frozen? ⟨fb,0,none⟩=false) (f1:w.frozen? ⟨fb,1,none⟩=false) (hfb:fb<w.heap.size) :
  CallsD Tryz.prog 60 #[.pointer (some ⟨fb,0,none⟩),.pointer (some ⟨eb,0,none⟩)] (.panicking [{ v:=.iface 115 (.agg #[.int .i64 at_]),recovered:=false }]) w fun e u' w'=>e=.returned (.tuple #[])∧u'=.panicking [{ v:=.iface 115 (.agg #[.int .i64 at_]),recovered:=true }]∧w'.cell? ⟨fb,0,none⟩=some (.int .i64 2)∧w'.cell? ⟨fb,1,none⟩=some (.int .i64 at_)∧Fr fb w w':=by
 have c60:=kc115
 have c27:=kc28
 have hnn:∀ w:World,(binOp BinOp.eql 20 (.iface 115 (.agg #[.int .i64 at_])) .nilIface).run Tryz.prog w=.ok (.bool false) w:=fun _=>by kernel_rfl
 have hta:∀ w:World,(Instr.typeAssert (.iface 115 (.agg #[.int .i64 at_])) 20 115 true).run Tryz.prog w=.ok (.tuple #[.agg #[.int .i64 at_],.bool true]) w:=fun _=>by kernel_rfl
 refine callsD_of_wpS Tryz.func60 rfl fun c₀ cs hu=>?_
 refine recover_some (v:=.iface 115 (.agg #[.int .i64 at_])) (cs':={ c₀ with mode:=.panicking [{ v:=.iface 115 (.agg #[.int .i64 at_]),recovered:=true }] } :: cs) (by simp [recoverD,hu]) ?_
 simp only [Tryz.ntmps60,List.size_toArray,List.length_cons,List.length_nil,Nat.reduceAdd,Nat.reduceSub,Array.replicate_succ,Array.replicate_zero,List.push_toArray,List.append_toArray,List.nil_append,List.cons_append,Act.put,List.setIfInBounds_toArray,List.set_cons_succ,List.set_cons_zero]
 refine wpS_of_wp (wp_mono (Q:=fun e a w'=>e=.normal∧a.defers=[]∧w'.cell? ⟨fb,0,none⟩=some (.int .i64 2)∧w'.cell? ⟨fb,1,none⟩=some (.int .i64 at_)∧Fr fb w w') ?_ ?_)
 ·go_wp2
  exact (((Fr.refl _ _).set _ _).set _ _).alloc _
 ·rintro e a w' ⟨rfl,h1,h2,h3,h4⟩
  exact ⟨h1,_,rfl,.tuple #[],by simp [results,Tryz.results60],rfl,rfl,h2,h3,h4⟩
set_option maxHeartbeats 1000000 in
theorem catch_short (fb eb:Nat) (at_:Int) (w:World) (he:w.cell? ⟨eb,0,none⟩=some (.int .i64 at_)) (heb:eb<w.heap.size) (h0:w.cell? ⟨fb,0,none⟩=some (.int .i64 0)) (h1:w.cell? ⟨fb,1,none⟩=some (.int .i64 0)) (f0:w.frozen? ⟨fb,0,none⟩=false) (f1:w.frozen? ⟨fb,1,none⟩=false) (hfb:fb<w.heap.size) :
  CallsD Tryz.prog 60 #[.pointer (some ⟨fb,0,none⟩),.pointer (some ⟨eb,0,none⟩)] (.panicking [{ v:=.iface 116 (.agg #[]),recovered:=false }]) w fun e u' w'=>e=.returned (.tuple #[])∧u'=.panicking [{ v:=.iface 116 (.agg #[]),recovered:=true }]∧w'.cell? ⟨fb,0,none⟩=some (.int .i64 2)∧w'.cell? ⟨fb,1,none⟩=some (.int .i64 at_)∧Fr fb w w':=by
 have c60:=kc115
 have c27:=kc28
 have hnn:∀ w:World,(binOp BinOp.eql 20 (.iface 116 (.agg #[])) .nilIface).run Tryz.prog w=.ok (.bool false) w:=fun _=>by kernel_rfl
 have hta:∀ w:World,(Instr.typeAssert (.iface 116 (.agg #[])) 20 115 true).run Tryz.prog w=.ok (.tuple #[.agg #[.int .i64 0],.bool false]) w:=fun _=>by kernel_rfl
 have htb:∀ w:World,(Instr.typeAssert (.iface 116 (.agg #[])) 20 116 true).run Tryz.prog w=.ok (.tuple #[.agg #[],.bool true]) w:=fun _=>by kernel_rfl
 have c62:=kc116
 refine callsD_of_wpS Tryz.func60 rfl fun c₀ cs hu=>?_
 refine recover_some (v:=.iface 116 (.agg #[])) (cs':={ c₀ with mode:=.panicking [{ v:=.iface 116 (.agg #[]),recovered:=true }] } :: cs) (by simp [recoverD,hu]) ?_
 simp only [Tryz.ntmps60,List.size_toArray,List.length_cons,List.length_nil,Nat.reduceAdd,Nat.reduceSub,Array.replicate_succ,Array.replicate_zero,List.push_toArray,List.append_toArray,List.nil_append,List.cons_append,Act.put,List.setIfInBounds_toArray,List.set_cons_succ,List.set_cons_zero]
 refine wpS_of_wp (wp_mono (Q:=fun e a w'=>e=.normal∧a.defers=[]∧w'.cell? ⟨fb,0,none⟩=some (.int .i64 2)∧w'.cell? ⟨fb,1,none⟩=some (.int .i64 at_)∧Fr fb w w') ?_ ?_)
 ·go_wp2
  exact (((Fr.refl _ _).set _ _).set _ _).alloc _
 ·rintro e a w' ⟨rfl,h1,h2,h3,h4⟩
  exact ⟨h1,_,rfl,.tuple #[],by simp [results,Tryz.results60],rfl,rfl,h2,h3,h4⟩
theorem Ld.new {L:Value} {T:TypeId} {B0:Nat} (hown:w.ownsRow B0 99 3 L ts.length (lexs.cellsOf ts)) (hlen:ts.length≤3000) (hfine:∀ t∈ts,Fine t) (hO:HasOps w):∃ G,Ld (w.alloc (.cells #[L] T)) w.heap.size G ts ⟨0,false⟩:=by
 have hlow:5<w.heap.size:=by
  obtain ⟨cs,t,fr,h1,_⟩:=hO
  rcases Nat.lt_or_ge 5 w.heap.size with h | h
  ·exact h
  ·rw [Array.getElem?_eq_none h] at h1
   simp at h1
 have hO':HasOps (w.alloc (.cells #[L] T)):=hasOps_below hO (bal _)
 have hown':=hown.alloc (.cells #[L] T)
 obtain ⟨a,c,rfl,hm,hg⟩:=own_shape hown
 have hcap:ts.length≤c:=by
  rcases hown.2 with ⟨e1,e2⟩|⟨g,cap,cur,e1,_,_,e2,_⟩
  ·omega
  ·injection e1 with _ _ e3
   omega
 rcases Nat.eq_zero_or_pos ts.length with h0 | h0
 ·refine ⟨0,⟨a,c,by simp,by simpa using hcap,fun h=>by dsimp only at h;omega⟩,by simp,fun k hk=>by omega,by omega,hlen,Nat.zero_le _,hfine,rfl,hO',hlow⟩
 ·obtain ⟨g,rfl⟩:=hg h0
  have hlt:=hown.lt g rfl
  refine ⟨g,⟨some ⟨g,0,none⟩,c,by simp,by simpa using hcap,fun h=>by simp⟩,by simp,fun k hk=>?_,hlt.2,hlen,Nat.zero_le _,hfine,rfl,hO',hlow⟩
  exact lexs.tok_cells hown' hk
def RdOut (w:World) (n:Nat) (ts:List Tok) (q:Tree × St) (e:Ending) (w':World):Prop :=
 ∃ v,e=.returned (.tuple #[v,.agg #[.int .i64 (if q.2.bad then 2 else 0),.int .i64 (if q.2.bad then failAt ts n q.2 else 0)]])∧Lies (fun b=>w.heap.size≤b∧b<w'.heap.size) w' (if q.2.bad then none0 else q.1) v∧Below w.heap.size w w'
theorem RdOut.bad {n:Nat} {q:Tree × St} (hb:q.2.bad=true) (hB:Below w.heap.size w w'):RdOut w n ts q (.returned (.tuple #[.agg #[.int .i64 0,.string empty,.int .i64 0,.slice none 0 0],.agg #[.int .i64 2,.int .i64 (failAt ts n q.2)]])) w':=by
 unfold RdOut
 rw [hb]
 exact ⟨_,rfl,Lies.leaf _ _ _ _ _,hB⟩
theorem RdOut.good {n:Nat} {q:Tree × St} {v:Value} (hb:q.2.bad=false) (hl:Lies (fun b=>w.heap.size≤b∧b<w'.heap.size) w' q.1 v) (hB:Below w.heap.size w w'):RdOut w n ts q (.returned (.tuple #[v,.agg #[.int .i64 0,.int .i64 0]])) w':=by
 unfold RdOut
 rw [hb]
 exact ⟨_,rfl,hl,hB⟩
set_option maxHeartbeats 2000000 in
theorem oread {L:Value} {B0 n:Nat} (hown:w.ownsRow B0 99 3 L ts.length (lexs.cellsOf ts)) (hlen:ts.length≤3000) (hfine:∀ t∈ts,Fine t) (hO:HasOps w) {q:Tree × St} (hq:moduleF ts=some q) :
  Calls Tryz.prog 27 #[L,.int .i64 n] w (RdOut w n ts q):=by
 have c24:=kc25
 have c27:=kc28
 have c64:=kc118
 have hmf:∀ (fn:Fn) (first cap:Array Value) (w:World),(Instr.makeFunc fn first cap).run Tryz.prog w=.ok (.func fn first cap) w:=fun _ _ _ _=>rfl
 obtain ⟨w3,hw3⟩:∃ w3,w3=((w.alloc (.cells #[.int .i64 n] 3)).alloc (.cells #[.int .i64 0,.string empty,.int .i64 0,.slice none 0 0] 25)).alloc (.cells #[.int .i64 0,.int .i64 0] 28):=⟨_,rfl⟩
 have hs3:w3.heap.size=w.heap.size+3:=by rw [hw3];simp
 have hbel:Below w.heap.size w w3:=by rw [hw3];exact ((bal _).alloc (by simp) _).alloc (by simp;omega) _
 obtain ⟨G,hL⟩:=Ld.new (w:=w3) (L:=L) (T:=118) (by rw [hw3];exact ((hown.alloc _).alloc _).alloc _) hlen hfine (hasOps_below hO hbel)
 have hM:=omodule hL hq
 rw [hs3] at hM hL
 obtain ⟨a,c,rfl,hm,_⟩:=own_shape hown
 rw [hw3] at hM hL
 go_enter_defers Tryz.func27,Tryz.ntmps27
 obtain ⟨w4,hw4⟩:∃ w4,w4=(((w.alloc (.cells #[.int .i64 n] 3)).alloc (.cells #[.int .i64 0,.string empty,.int .i64 0,.slice none 0 0] 25)).alloc (.cells #[.int .i64 0,.int .i64 0] 28)).alloc (.cells #[.slice a ts.length c] 118):=⟨_,rfl⟩
 rw [← hw4] at hM hL
 have hs4:w4.heap.size=w.heap.size+4:=by rw [hw4];simp
 have hb4:Below w.heap.size w w4:=by rw [hw4];exact (((bal _).alloc (by simp) _).alloc (by simp;omega) _).alloc (by simp;omega) _
 have k0:w4.cell? ⟨w.heap.size,0,none⟩=some (.int .i64 n):=by
  have a0:(w.alloc (.cells #[.int .i64 n] 3)).cell? ⟨w.heap.size,0,none⟩=some (.int .i64 n):=by simp
  rw [hw4]
  exact ((((Below.refl (w.alloc (.cells #[.int .i64 n] 3)).heap.size (w.alloc (.cells #[.int .i64 n] 3))).alloc (jE _) _).alloc (by simp) _).alloc (by simp) _).cell (p:=⟨w.heap.size,0,none⟩) (by simp) |>.trans a0
 have k2:Box4 w4 (w.heap.size+1) (.int .i64 0) (.string empty) (.int .i64 0) (.slice none 0 0):=by
  have:=((Box4.new (w.alloc (.cells #[.int .i64 n] 3)) (.int .i64 0) (.string empty) (.int .i64 0) (.slice none 0 0) 25).alloc (.cells #[.int .i64 0,.int .i64 0] 28)).alloc (.cells #[.slice a ts.length c] 118)
  rw [World.size_alloc] at this
  rw [hw4]
  exact this
 have k1:w4.cell? ⟨w.heap.size+2,0,none⟩=some (.int .i64 0)∧w4.cell? ⟨w.heap.size+2,1,none⟩=some (.int .i64 0)∧w4.frozen? ⟨w.heap.size+2,0,none⟩=false∧w4.frozen? ⟨w.heap.size+2,1,none⟩=false:=by
  have hs2:((w.alloc (.cells #[.int .i64 n] 3)).alloc (.cells #[.int .i64 0,.string empty,.int .i64 0,.slice none 0 0] 25)).heap.size=w.heap.size+2:=by simp
  generalize (w.alloc (.cells #[.int .i64 n] 3)).alloc (.cells #[.int .i64 0,.string empty,.int .i64 0,.slice none 0 0] 25)=wz at *
  rw [← hs2]
  have hb:=((Below.refl (wz.alloc (.cells #[.int .i64 0,.int .i64 0] 28)).heap.size (wz.alloc (.cells #[.int .i64 0,.int .i64 0] 28))).alloc (jE _) (.cells #[.slice a ts.length c] 118)).block wz.heap.size (by simp)
  rw [hw4]
  refine ⟨(World.cell?_of_block (a:=⟨wz.heap.size,0,none⟩) hb).trans (by simp),(World.cell?_of_block (a:=⟨wz.heap.size,1,none⟩) hb).trans (by simp),(World.frozen?_of_block (a:=⟨wz.heap.size,0,none⟩) hb).trans (by simp),(World.frozen?_of_block (a:=⟨wz.heap.size,1,none⟩) hb).trans (by simp)⟩
 go_wp2_with (fail)
 rw [hw4] at hM
 refine hM.mono ?_
 rw [← hw4]
 rintro e w5 (⟨hb,rfl,hF⟩|⟨hb,v,rfl,hl,hL5,hF⟩)
 ·have hz5:=hF.size
  have hB2:=hF.block (w.heap.size+2) (by omega) (by simp)
  have hBe:=hF.block w.heap.size (by omega) (by simp)
  have hB1:=k2.fr hF (by omega)
  have e0:=(World.cell?_of_block (a:=⟨w.heap.size+2,0,none⟩) hB2).trans k1.1
  have e1:=(World.cell?_of_block (a:=⟨w.heap.size+2,1,none⟩) hB2).trans k1.2.1
  have e2:=(World.frozen?_of_block (a:=⟨w.heap.size+2,0,none⟩) hB2).trans k1.2.2.1
  have e3:=(World.frozen?_of_block (a:=⟨w.heap.size+2,1,none⟩) hB2).trans k1.2.2.2
  have e4:=(World.cell?_of_block (a:=⟨w.heap.size,0,none⟩) hBe).trans k0
  have key:CallsD Tryz.prog 60 #[.pointer (some ⟨w.heap.size+2,0,none⟩),.pointer (some ⟨w.heap.size,0,none⟩)] (.panicking (Pan ts q.2)) w5 fun e u' w'=>e=.returned (.tuple #[])∧u'=.panicking [{ v:=lost ts q.2,recovered:=true }]∧w'.cell? ⟨w.heap.size+2,0,none⟩=some (.int .i64 2)∧w'.cell? ⟨w.heap.size+2,1,none⟩=some (.int .i64 (failAt ts n q.2))∧Fr (w.heap.size+2) w5 w':=by
   unfold Pan lost failAt
   cases ht:ts[q.2.i]? with
   | none=>exact catch_short _ _ _ _ e4 (by omega) e0 e1 e2 e3 (by omega)
   | some t=>exact catch_strange _ _ _ _ e0 e1 e2 e3 (by omega)
  have HK:Hid (Below w.heap.size w w5):=⟨hF.os.trans hb4.os,hF.tape.trans hb4.tape,hF.output.trans hb4.output,Nat.le_trans hb4.size hF.size,fun j hj=>(hF.block j (by omega) (by simp;omega)).trans (hb4.block j hj)⟩
  go_wp2
  refine leaves_cons (f:=60) (args:=#[.pointer (some ⟨w.heap.size+2,0,none⟩),.pointer (some ⟨w.heap.size,0,none⟩)]) (by simp) (by simp [go_sem]) ?_
  refine key.mono ?_
  rintro e u' w6 ⟨rfl,rfl,c0,c1,hF6⟩
  obtain ⟨q0,q1,q2,q3,_,_,_,_⟩:=hB1.fr hF6 (by omega)
  have HK6:Hid (Below w.heap.size w w6):=⟨hF6.os.trans HK.out.os,hF6.tape.trans HK.out.tape,hF6.output.trans HK.out.output,Nat.le_trans HK.out.size hF6.size,fun j hj=>(hF6.block j (by omega) (by simp;omega)).trans (HK.out.block j hj)⟩
  refine ⟨.tuple #[.agg #[.int .i64 0,.string empty,.int .i64 0,.slice none 0 0],.agg #[.int .i64 2,.int .i64 (failAt ts n q.2)]],?_,RdOut.bad hb HK6.out⟩
  simp [results,Tryz.results27,go_sem,q0,q1,q2,q3,c0,c1,empty]
 ·obtain ⟨k,x,m,_,rfl,al,nn,cc,rfl⟩:=hl.shape
  have hz5:=hF.size
  have hB2:=hF.block (w.heap.size+2) (by omega) (by simp)
  have hB1:=k2.fr hF (by omega)
  have e0:=(World.cell?_of_block (a:=⟨w.heap.size+2,0,none⟩) hB2).trans k1.1
  have e1:=(World.cell?_of_block (a:=⟨w.heap.size+2,1,none⟩) hB2).trans k1.2.1
  have e2:=(World.frozen?_of_block (a:=⟨w.heap.size+2,0,none⟩) hB2).trans k1.2.2.1
  have e3:=(World.frozen?_of_block (a:=⟨w.heap.size+2,1,none⟩) hB2).trans k1.2.2.2
  obtain ⟨q0,q1,q2,q3,t0,t1,t2,t3⟩:=id hB1
  have HK:Hid (Below w.heap.size w w5):=⟨hF.os.trans hb4.os,hF.tape.trans hb4.tape,hF.output.trans hb4.output,Nat.le_trans hb4.size hF.size,fun j hj=>(hF.block j (by omega) (by simp;omega)).trans (hb4.block j hj)⟩
  go_wp2
  refine leaves_cons (f:=60) (args:=#[.pointer (some ⟨w.heap.size+2,0,none⟩),.pointer (some ⟨w.heap.size,0,none⟩)]) (by simp) (by simp [go_sem]) ?_
  refine (catch_idle _ _ _).mono ?_
  rintro e u' w6 ⟨rfl,rfl,hw6⟩
  subst hw6
  have hput:=Fr.put w5 (w.heap.size+1) (.int .i64 k) (.string x) (.int .i64 m) (.slice al nn cc)
  have hl1:=hl.frP (x:=w.heap.size+1) hput (fun b hb=>⟨hb.2,by omega⟩) (fun b hb=>hb)
  refine ⟨.tuple #[.agg #[.int .i64 k,.string x,.int .i64 m,.slice al nn cc],.agg #[.int .i64 0,.int .i64 0]],?_,RdOut.good hb ?_ ?_⟩
  ·simp [results,Tryz.results27,go_sem,q0,q1,q2,q3,e0,e1]
  ·exact hl1.frP (x:=w.heap.size+2) (((Fr.refl _ _).set 0 _).set 1 _) (fun b hb=>⟨by simpa using hb.2,by omega⟩) (fun b hb=>⟨by omega,by simpa using hb.2⟩)
  ·exact (((((HK.out.setCell (by simp) _).setCell (by simp) _).setCell (by simp) _).setCell (by simp) _).setCell (by simp;omega) _).setCell (by simp;omega) _
end
end syn
namespace syn
mutual
def cntT:Tree→Int
 | .node _ _ _ ks=>cntL ks+1
def cntL:List Tree→Int
 | []=>0
 | t :: r=>cntT t+cntL r
end
mutual
def depT:Tree→Int
 | .node _ _ _ ks=>depL ks+1
def depL:List Tree→Int
 | []=>0
 | t :: r=>max (depT t) (depL r)
end
mutual
theorem cntT_pos:∀ t:Tree,1≤cntT t
 | .node _ _ _ ks=>by unfold cntT;have:=cntL_pos ks;omega
theorem cntL_pos:∀ ks:List Tree,0≤cntL ks
 | []=>by unfold cntL;omega
 | t :: r=>by unfold cntL;have h1:=cntT_pos t;have h2:=cntL_pos r;omega
end
mutual
theorem depT_pos:∀ t:Tree,1≤depT t
 | .node _ _ _ ks=>by unfold depT;have:=depL_pos ks;omega
theorem depL_pos:∀ ks:List Tree,0≤depL ks
 | []=>by unfold depL;omega
 | t :: r=>by unfold depL;have h1:=depT_pos t;have h2:=depL_pos r;omega
end
mutual
theorem manyT_is:∀ (t:Tree) (most:Int),0≤most→(cntT t≤most→manyT t most=cntT t)∧(most<cntT t→most<manyT t most)
 | .node _ _ _ ks,most,h=>by
  unfold manyT cntT
  have:=manyL_is ks 1 most h (by omega) (by omega)
  exact ⟨fun h1=>by rw [this.1 (by omega)];omega,fun h1=>this.2 (by omega)⟩
theorem manyL_is:∀ (ks:List Tree) (k most:Int),0≤most→1≤k→k≤most+1→(k+cntL ks≤most→manyL ks k most=k+cntL ks)∧(most<k+cntL ks→most<manyL ks k most)
 | [],k,most,h,h1,h2=>by unfold manyL cntL;exact ⟨fun _=>by omega,fun h=>by omega⟩
 | t :: r,k,most,h,h1,h2=>by
  unfold manyL cntL
  have p1:=cntT_pos t
  have p2:=cntL_pos r
  split
  ·rename_i hc
   have hm:=manyT_is t (most - k) (by omega)
   have hb:=manyT_bounds t (most - k) (by omega)
   have hr:=manyL_is r (k+manyT t (most - k)) most h (by omega) (by omega)
   refine ⟨fun h3=>?_,fun h3=>?_⟩
   ·rw [hr.1 (by rw [hm.1 (by omega)];omega),hm.1 (by omega)]
    omega
   ·rcases Int.lt_or_le (most - k) (cntT t) with h4 | h4
    ·have:=hm.2 h4
     exact hr.2 (by omega)
    ·have:=hm.1 h4
     exact hr.2 (by omega)
  ·exact ⟨fun h3=>by omega,fun h3=>by omega⟩
end
mutual
theorem deepT_is:∀ (t:Tree) (most:Int),0≤most→(depT t≤most→deepT t most=depT t)∧(most<depT t→most<deepT t most)
 | .node _ _ _ ks,most,h=>by
  unfold deepT depT
  have p:=depL_pos ks
  rcases Int.lt_or_le 0 most with h0 | h0
  ·have:=deepL_is ks 0 most h0 (by omega) (by omega)
   have e:max 0 (depL ks)=depL ks:=by omega
   rw [e] at this
   exact ⟨fun h1=>by rw [this.1 (by omega)],fun h1=>by have:=this.2 (by omega);omega⟩
  ·have hb:=deepL_bounds ks 0 most h (by omega) (by omega)
   exact ⟨fun h1=>by omega,fun h1=>by omega⟩
theorem deepL_is:∀ (ks:List Tree) (d most:Int),0<most→0≤d→d≤most→(max d (depL ks)≤most - 1→deepL ks d most=max d (depL ks))∧(most - 1<max d (depL ks)→most≤deepL ks d most)
 | [],d,most,h,h1,h2=>by unfold deepL depL;exact ⟨fun _=>by omega,fun h=>by omega⟩
 | t :: r,d,most,h,h1,h2=>by
  unfold deepL depL
  rw [if_pos ⟨h,h2⟩]
  have hm:=deepT_is t (most - 1) (by omega)
  have hb:=deepT_bounds t (most - 1) (by omega)
  have hr:=deepL_is r (max d (deepT t (most - 1))) most h (by omega) (by omega)
  refine ⟨fun h3=>?_,fun h3=>?_⟩
  ·have e:=hm.1 (by omega)
   rw [hr.1 (by omega),e]
   omega
  ·rcases Int.lt_or_le (most - 1) (depT t) with h4 | h4
   ·have:=hm.2 h4
    exact hr.2 (by omega)
   ·have:=hm.1 h4
    exact hr.2 (by omega)
end
mutual
def withinT:Tree→Int→Int→Option Int
 | .node _ _ _ ks,d,c=>if 16<d∨500<c+1 then none else withinL ks (d+1) (c+1)
def withinL:List Tree→Int→Int→Option Int
 | [],_,c=>some c
 | t :: r,d,c=>match withinT t d c with
  | none=>none
  | some c'=>withinL r d c'
end
mutual
theorem withinT_is:∀ (t:Tree) (d c:Int),0≤c→c≤500→1≤d→d≤17→withinT t d c=if depT t+d≤17∧c+cntT t≤500 then some (c+cntT t) else none
 | .node _ _ _ ks,d,c,h1,h2,h3,h4=>by
  unfold withinT depT cntT
  have p1:=depL_pos ks
  have p2:=cntL_pos ks
  by_cases hc:16<d∨500<c+1
  ·rw [if_pos hc,if_neg (by omega)]
  ·rw [if_neg hc,withinL_is ks (d+1) (c+1) (by omega) (by omega) (by omega) (by omega)]
   by_cases hd:depL ks+(d+1)≤17∧c+1+cntL ks≤500
   ·rw [if_pos hd,if_pos (by omega)]
    congr 1
    omega
   ·rw [if_neg hd,if_neg (by omega)]
theorem withinL_is:∀ (ks:List Tree) (d c:Int),0≤c→c≤500→1≤d→d≤17→withinL ks d c=if depL ks+d≤17∧c+cntL ks≤500 then some (c+cntL ks) else none
 | [],d,c,h1,h2,h3,h4=>by
  unfold withinL depL cntL
  rw [if_pos (by omega)]
  congr 1
  omega
 | t :: r,d,c,h1,h2,h3,h4=>by
  unfold withinL depL cntL
  have p1:=cntT_pos t
  have p2:=cntL_pos r
  have p3:=depT_pos t
  have p4:=depL_pos r
  rw [withinT_is t d c h1 h2 h3 h4]
  by_cases hd:depT t+d≤17∧c+cntT t≤500
  ·rw [if_pos hd]
   simp only
   rw [withinL_is r d (c+cntT t) (by omega) (by omega) h3 h4]
   by_cases hr:depL r+d≤17∧c+cntT t+cntL r≤500
   ·rw [if_pos hr,if_pos (by omega)]
    congr 1
    omega
   ·rw [if_neg hr,if_neg (by omega)]
  ·rw [if_neg hd]
   simp only
   rw [if_neg (by omega)]
end
theorem within_fits (t:Tree):(withinT t 1 0).isSome=fitsT t:=by
 rw [withinT_is t 1 0 (by omega) (by omega) (by omega) (by omega)]
 unfold fitsT
 have hm:=manyT_is t 500 (by omega)
 have hd:=deepT_is t 16 (by omega)
 rcases Int.lt_or_le 500 (cntT t) with h | h
 ·have a1:=hm.2 h
  have a2:¬ (depT t+1≤17∧0+cntT t≤500):=by omega
  simp only [if_pos a1,if_neg a2]
  rfl
 ·have a1:¬ 500<manyT t 500:=by rw [hm.1 h];omega
  simp only [if_neg a1]
  rcases Int.lt_or_le 16 (depT t) with h2 | h2
  ·have a2:¬ (depT t+1≤17∧0+cntT t≤500):=by omega
   have a3:¬ deepT t 16≤16:=by have:=hd.2 h2;omega
   simp only [if_neg a2,decide_eq_false a3]
   rfl
  ·have a2:depT t+1≤17∧0+cntT t≤500:=by omega
   have a3:deepT t 16≤16:=by rw [hd.1 h2];exact h2
   simp only [if_pos a2,decide_eq_true a3]
   rfl
end syn
end Go.Proofs.YtfopddgjdaoidaaGreatDoor
