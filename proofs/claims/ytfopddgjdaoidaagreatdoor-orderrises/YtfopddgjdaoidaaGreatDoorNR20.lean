/- What the program's visit comes to at a variable and at a procedure: contracts. -/
import Derived.Test.YtfopddgjdaoidaaGreatDoorNR19
set_option linter.unusedVariables false
set_option linter.unusedSimpArgs false
set_option maxRecDepth 100000
namespace Go.Proofs.YtfopddgjdaoidaaGreatDoor
namespace chk
open Go.RowKit Go.Shelf Go.Maps
open syn face
theorem cntK (K:List Kid) (j:Nat) (h:j<K.length):cntL ((K.take (j+1)).map Kid.tree)=cntL ((K.take j).map Kid.tree)+cntT K[j].tree:=by
 rw [take_succ_kid K j h,List.map_append,cntL_app]
 rw [show [K[j]].map Kid.tree=[K[j].tree] from rfl,cntL_one]
theorem cntK_le (K:List Kid) (j:Nat):cntL ((K.take j).map Kid.tree)≤cntL (K.map Kid.tree):=by
 have h:cntL (K.map Kid.tree)=cntL ((K.take j).map Kid.tree)+cntL ((K.drop j).map Kid.tree):=by
  rw [← cntL_app,← List.map_append,List.take_append_drop]
 have:=cntL_pos ((K.drop j).map Kid.tree)
 omega
theorem var_cnt (x:ByteArray) (p l:Bool) (n:Option Int):cntT (Kid.var x p l n).tree=1+(Kid.var x p l n).kids.length:=by
 rw [Kid.tree_is,cntN]
 cases n with
 | none=>simp [Kid.kids,cntL]
 | some k =>
  unfold Kid.kids
  rw [cntL_one,cntN]
  simp [cntL]
theorem imp_cnt (x:ByteArray):cntT (Kid.imp x).tree=1:=by
 unfold Kid.tree
 rw [cntN]
 simp [cntL]
theorem face_shape {w:World} {q:FV} (h:FaceIn w (fvV q) q.1):∃ m a1 n1 c1 a2 n2 c2,fvV q=.agg #[.string m,.slice a1 n1 c1,.slice a2 n2 c2]:=by
 obtain ⟨vv,pv,e,⟨a,c,e1,_⟩,⟨a2,c2,e2,_⟩⟩:=h
 exact ⟨_,_,_,_,_,_,_,by rw [e,e1,e2]⟩
section
variable {w0:World} {D Gb Kb gn:Nat} {gf:ByteArray→Option FV}
set_option maxHeartbeats 8000000 in
theorem oModule (given:List FaceD) (hG:∀ z,(gf z).map (·.1)=given.find? (fun f=>eqS f.module z)) (hGi:∀ z q,gf z=some q→FaceIn w0 (fvV q) q.1) (hGok:∀ f∈given,FaceOk f) (m:ByteArray) (K:List Kid) (a:Option Addr) (c:Nat) (w:World) (h:M0 w0 w D Gb Kb gn gf m a K.length c 0)
  (hKs:K≠[]→∃ g o,a=some ⟨g,o,none⟩∧g<w0.heap.size∧LiesAt (·<w0.heap.size) w0 (K.map Kid.tree) g o) (hKl:K.length≤900) (hgood:∀ k∈K,k.good∧kidOk k) (hps:∀ k∈K,k.kids.length≤1000) (hcnt:cntL (K.map Kid.tree)≤900000) (hown:FaceOk (faceK true m K)) :
  Calls Tryz.prog 42 #[.pointer (some ⟨D,0,none⟩)] w (MR w0 (moF (faceK true m K) given K [] 1)):=by
 have c24:=kc25
 have c3:Tryz.prog.cellsOf 44=3:=cell3
 obtain ⟨R,HR⟩:∃ R,Hid (moF (faceK true m K) given K [] 1=R):=⟨_,rfl⟩
 rw [HR.out]
 have hd:=h.lt
 have hBg:=oBegin D 0 w h.c7 (h.fz 7) (by omega) (by omega)
 go_enter Tryz.func42,Tryz.ntmps42
 go_wp2_with (go_at_call 81;refine hBg.mono ?_;rintro e w1 ⟨rfl,hw1⟩;have h1:M0 w0 w1 D Gb Kb gn gf m a K.length c 1:=by { rw [hw1];exact h.setAt _ };clear hw1)
 have h1:=h1.below (Below.refl w1.heap.size w1).drew
 have hS:(fun W=>W.cell? ⟨D,5,none⟩=some (.map (some Kb))) w1.drew:=h1.c5
 refine wp_region_held_drew (S:=fun W=>W.cell? ⟨D,5,none⟩=some (.map (some Kb))) (by kernel_rfl) hS (fun hHeld=>?_)
 clear hHeld hBg
 generalize w1.drew=W1 at *
 refine tkH (i:=0) (v:=.pointer (some ⟨D,0,none⟩)) rfl (Or.inl ⟨by rfl,fun w hSw=>by have y0:w.cell? ⟨D,5,none⟩=some (.map (some Kb)):=hSw;go_simp⟩) hS ?_
 simp only [Act.put,jA,jB,jC]
 refine tkH (i:=1) (v:=.pointer (some ⟨D,0,none⟩)) rfl (Or.inl ⟨by rfl,fun w hSw=>by have y0:w.cell? ⟨D,5,none⟩=some (.map (some Kb)):=hSw;go_simp⟩) hS ?_
 simp only [Act.put,jA,jB,jC]
 refine tkH (i:=2) (v:=.pointer (some ⟨D,5,none⟩)) rfl (Or.inl ⟨by rfl,fun w hSw=>by have y0:w.cell? ⟨D,5,none⟩=some (.map (some Kb)):=hSw;go_simp⟩) hS ?_
 simp only [Act.put,jA,jB,jC]
 refine tkH (i:=3) (v:=.map (some Kb)) rfl (Or.inl ⟨by rfl,fun w hSw=>by have y0:w.cell? ⟨D,5,none⟩=some (.map (some Kb)):=hSw;go_simp⟩) hS ?_
 simp only [Act.put,jA,jB,jC]
 refine tkH (i:=4) (v:=.pointer (some ⟨D,0,none⟩)) rfl (Or.inl ⟨by rfl,fun w hSw=>by have y0:w.cell? ⟨D,5,none⟩=some (.map (some Kb)):=hSw;go_simp⟩) hS ?_
 simp only [Act.put,jA,jB,jC]
 refine oneH 5 fun KK hK=>?_
 go_simp
 go_at_call 82
 have hKb:=h1.mp.lt
 refine (oDeclared (fun b=>b=D∨b=Kb) w0 D m K a c W1 h1.bs h1.lt (fun b e=>by have:=h1.lt;rcases e with rfl | rfl<;>omega) h1.c1 h1.c3 hKs (by omega) (fun k hk=>(hgood k hk).1) hps).mono ?_
 rintro e w2 ⟨vv,pv,V,P,rfl,hFR,hV,hP,hb2⟩
 have h2:=h1.below hb2
 have hVl:V.length≤1000:=by rw [hV];exact Nat.le_trans (varsK_len true _) (by omega)
 have hPl:P.length≤1000:=by
  have h1:(P.map (·.1)).length=(procsK true K).length:=by rw [hP]
  rw [List.length_map] at h1
  rw [h1]
  exact Nat.le_trans (procsK_len true _) (by omega)
 go_wp2
 refine hK.out _ _ h2.c5 (fun hHeld=>?_)
 clear hK hHeld
 obtain ⟨W2,hrun,hM2,hg2⟩:=h2.mp.store (by unfold maxLen;omega) empty (by decide) (fvV (faceK true m K,vv,pv))
 have hS2:w2.cell? ⟨D,5,none⟩=some (.map (some Kb)):=h2.c5
 have hnDK:D≠Kb:=fun e=>h2.nk e.symm
 refine oneH 6 fun KK hK=>?_
 have hrun':(Instr.mapUpdate 60 (.map (some Kb)) (.string ⟨#[]⟩) (.agg #[.string m,vv,pv])).run Tryz.prog w2=.ok () W2:=hrun
 go_simp
 have hS3:W2.cell? ⟨D,5,none⟩=some (.map (some Kb)):=cell_grown hg2 h2.c5 (by simp;omega)
 refine hK.out _ _ hS3 (fun hHeld=>?_)
 clear hK hHeld hrun hrun'
 refine wpAnyH_done (by kernel_rfl) ?_ _
 have hI0:=h2.own (q:=(faceK true m K,vv,pv)) hM2 hg2 hFR hV.symm hP.symm hVl hPl
 have hRel:=Rel.start (faceK true m K,vv,pv) gf
 have hWK:∀ p v,(erase (erase W2 D) Kb).cell? p=some v→p.block≠Kb:=fun p v hc=>(erase_cell hc).1
 have hW0:∀ p v,w0.cell? p=some v→(erase (erase W2 D) Kb).cell? p=some v:=fun p v hc=>by
  have hlt:=World.block_lt_of_cell? w0 p hc
  have h9:=h2.hD
  have h8:=h2.hK
  exact erase_keep (by omega) (erase_keep (by omega) ((hI0.bs.cell (p:=p) hlt).trans hc))
 have hK0:=h2.hK
 have mg:=h2.mg
 have z3:W2.cell? ⟨D,3,none⟩=some (.slice a K.length c):=cell_grown hg2 h2.c3 (by simp;omega)
 go_wp2
 clear h h1 h2 hFR hV hP hb2 hM2 hg2 hS hS2 hS3 z3
 generalize erase (erase W2 D) Kb=W0 at *
 generalize W2.heap.size=M at *
 go_loopw [19] (fun t wr=>∃ (j kn:Nat) (fs:List FaceD) (f:ByteArray→Option FV) (vs:List VarD) (u:Value),j≤K.length∧t=.int .i64 j∧kn≤j+1∧Hid (Rel (faceK true m K,vv,pv) gf fs f)∧Hid (∀ q∈fs,q∈given)∧CS w0 wr D Kb kn ⟨f,W0,M,.map (some Gb)⟩ vs u (1+cntL ((K.take j).map Kid.tree))∧Hid (R=moF (faceK true m K) given (K.drop j) fs (1+cntL ((K.take j).map Kid.tree)))) (fun t _=>K.length - (intOf t).toNat)
 case atStart=>exact ⟨0,1,[],_,_,_,Nat.zero_le _,rfl,by omega,hRel,(fun q hq=>by cases hq),by simpa [cntL] using hI0,by show _=_;rw [← HR.out];simp [cntL]⟩
 case round =>
  clear hI0 hRel HR
  obtain ⟨j,kn,fs,f,vs,u,hj,rfl,hkn,HRel,HFs,hI,HRR⟩:=hrel
  by_cases hlt:j<K.length
  ·obtain ⟨g,o,rfl,hg,hat⟩:=hKs (by intro e;rw [e] at hlt;simp at hlt)
   obtain ⟨ka,kc,j0,j1,j2,j3,hl0⟩:=kid_cells hg hat (Below.refl _ _) hlt
   have k0:=(hI.bs.cell (p:=⟨g,o+j*4,none⟩) hg).trans j0
   have k1:=(hI.bs.cell (p:=⟨g,o+j*4+1,none⟩) hg).trans j1
   have k2:=(hI.bs.cell (p:=⟨g,o+j*4+2,none⟩) hg).trans j2
   have k3:=(hI.bs.cell (p:=⟨g,o+j*4+3,none⟩) hg).trans j3
   obtain ⟨hgk,hok⟩:=hgood _ (List.getElem_mem hlt)
   have hpk:=hps _ (List.getElem_mem hlt)
   have hcn:=cntK K j hlt
   have hcl:=cntK_le K (j+1)
   have hc0:=cntL_pos ((K.take j).map Kid.tree)
   have hct:=cntT_pos K[j].tree
   have HD:Hid (K.drop j=K[j] :: K.drop (j+1)):=List.drop_eq_getElem_cons hlt
   have hD2:=hI.lt
   have hEnv:EnvOk ⟨faceK true m K,fs⟩:=⟨hown,fun q hq=>hGok q (HFs.out q hq)⟩
   have HT:Hid (∀ L,LabL L→Tab ⟨faceK true m K,fs⟩ L f (vsOf L)):=fun L hL=>HRel.out.tab hEnv L hL
   clear hat hKs j0 j1 j2 j3 hgood hps hEnv
   generalize hkj:K[j]=kid at *
   clear hkj
   have hata:(0:Int)≤1+cntL ((K.take j).map Kid.tree):=by omega
   have hatb:1+cntL ((K.take (j+1)).map Kid.tree)≤900001:=by omega
   obtain ⟨at2,Hat2⟩:∃ at2,Hid (1+cntL ((K.take (j+1)).map Kid.tree)=at2):=⟨_,rfl⟩
   have Hcn:Hid (at2=1+cntL ((K.take j).map Kid.tree)+cntT kid.tree):=by show _=_;have:=Hat2.out;omega
   have hatc:at2≤900001:=by rw [← Hat2.out];exact hatb
   clear hcn hcl hc0 hatb
   generalize 1+cntL ((K.take j).map Kid.tree)=at_ at *
   cases kid with
   | imp x =>
    have hxs:x.size≤16:=hgk
    have hxe:eqS x empty=false:=by
     cases he:eqS x empty with
     | false=>rfl
     | true =>
      have h9:isName x=true:=hok
      rw [eqS_list.1 he] at h9
      exact absurd h9 (by decide)
    have hat2:=Hcn.out
    rw [imp_cnt] at hat2
    subst hat2
    simp only [Kid.kind,Kid.text,Kid.num] at k0 k1 k2
    generalize (Kid.imp x).kids.length=kl at *
    have HM:Hid (R=match given.find? (fun f=>eqS f.module x) with
      | none=>some (4,at_)
      | some f=>moF (faceK true m K) given (K.drop (j+1)) (fs++[f]) (at_+1)):=HRR.out.trans (by rw [HD.out];simp only [moF];rfl)
    clear HRR HD hl0 hgk hok hpk HT Hcn hct
    have hI2:=hI.alloc (.cells #[.int .i64 2,.string x,.int .i64 0,.slice ka kl kc] 25)
    have hQ:=BoxC.new wr  #[.int .i64 2,.string x,.int .i64 0,.slice ka kl kc] 25
    have hBg:=hI2.begin (by omega) (by omega)
    go_wp2_with (go_at_call 81;refine hBg.mono ?_;rintro e w3 ⟨rfl,hw3⟩;have hI3:CS w0 w3 D Kb kn ⟨f,W0,M,.map (some Gb)⟩ vs u (at_+1):=by { rw [hw3];exact hI2.setAt _ };have hQ3:BoxC w3 wr.heap.size  #[.int .i64 2,.string x,.int .i64 0,.slice ka kl kc] 25:=by { rw [hw3];exact hQ.other (by omega) _ };clear hw3;have r0:=hQ3.cell 0 rfl;have r1:=hQ3.cell 1 rfl;have r2:=hQ3.cell 2 rfl;have r3:=hQ3.cell 3 rfl)
    have hImp:=oImported D Gb Kb gn kn (fun z=>fvO (gf z)) (fun z=>fvO (f z)) x at_ w3 hI3.c4 hI3.c5 (mg.below hI3.bs) hI3.mp (by omega) (by omega) (fun e=>hI3.nk e.symm) (fun v hv=>by
     cases hq:gf x with
     | none=>rw [show fvO (gf x)=none by rw [hq];rfl] at hv;cases hv
     | some q =>
      rw [show fvO (gf x)=some (fvV q) by rw [hq];rfl] at hv
      cases hv
      exact face_shape (hGi x q hq))
    refine hImp.mono ?_
    rintro e w4 (⟨hn,rfl,hb4⟩|⟨v,hs,rfl,hM4,hg4⟩)
    ·have HB:Hid (R=some (4,at_)):=by
      show _=_
      rw [HM.out,← hG x]
      cases hq:gf x with
      | none=>rfl
      | some q=>rw [show fvO (gf x)=some (fvV q) by rw [hq];rfl] at hn;cases hn
     clear HM
     go_wp2
     exact ⟨rfl,MR.mkBad HB.out (hI3.bs.trans (hb4.mono hI3.bs.size))⟩
    ·obtain ⟨q,hq⟩:∃ q,gf x=some q:=by
      cases hq:gf x with
      | none=>rw [show fvO (gf x)=none by rw [hq];rfl] at hs;cases hs
      | some q=>exact ⟨q,rfl⟩
     rw [show fvO (gf x)=some (fvV q) by rw [hq];rfl] at hs
     cases hs
     have hfind:given.find? (fun f=>eqS f.module x)=some q.1:=by rw [← hG x,hq];rfl
     have hmq:eqS q.1.module x=true:=by simpa using List.find?_some hfind
     have HB:Hid (R=moF (faceK true m K) given (K.drop (j+1)) (fs++[q.1]) (at_+1)):=by
      show _=_
      rw [HM.out,hfind]
     have hI4:=hI3.import (q:=q) (x:=x) hM4 hg4 (FaceIn.mono hW0 (hGi x q hq)) hWK hK0
     have HR4:Hid _:=HRel.out.more hxe hq hmq
     have HF4:Hid (∀ p∈fs++[q.1],p∈given):=fun p hp=>by
      rcases List.mem_append.1 hp with h | h
      ·exact HFs.out p h
      ·simp only [List.mem_singleton] at h
       rw [h]
       exact List.mem_of_find?_eq_some hfind
     clear HM hfind
     go_wp2
     exact ⟨⟨j+1,kn+1,fs++[q.1],_,vs,u,by omega,by simp,by omega,HR4,HF4,by rw [Hat2.out];exact hI4,by show _=_;rw [Hat2.out];exact HB.out⟩,by simp [intOf];omega⟩
   | var x p l n =>
    have hat2:=Hcn.out
    rw [var_cnt] at hat2
    have HM:Hid (R=moF (faceK true m K) given (K.drop (j+1)) fs (at_+1+(Kid.var x p l n).kids.length)):=HRR.out.trans (by rw [HD.out];simp only [moF])
    clear HRR HD hl0 hgk hok HT Hcn
    simp only [Kid.kind,Kid.text,Kid.num] at k0 k1 k2
    generalize 2*bI p+bI l=km at *
    generalize (Kid.var x p l n).kids.length=kl at *
    subst hat2
    have hI2:=hI.alloc (.cells #[.int .i64 3,.string x,.int .i64 km,.slice ka kl kc] 25)
    have hQ:=BoxC.new wr  #[.int .i64 3,.string x,.int .i64 km,.slice ka kl kc] 25
    have hBg:=hI2.begin (by omega) (by omega)
    go_wp2_with (go_at_call 81;refine hBg.mono ?_;rintro e w3 ⟨rfl,hw3⟩;have hI3:CS w0 w3 D Kb kn ⟨f,W0,M,.map (some Gb)⟩ vs u (at_+1):=by { rw [hw3];exact hI2.setAt _ };have hQ3:BoxC w3 wr.heap.size  #[.int .i64 3,.string x,.int .i64 km,.slice ka kl kc] 25:=by { rw [hw3];exact hQ.other (by omega) _ };clear hw3;have r0:=hQ3.cell 0 rfl;have r1:=hQ3.cell 1 rfl;have r2:=hQ3.cell 2 rfl;have r3:=hQ3.cell 3 rfl)
    have m7:=hI3.c7
    have mf7:=hI3.fz 7
    have hkl2:(kl:Int)≤1000:=by omega
    go_region
    all_goals
     go_wp2
     exact ⟨⟨j+1,kn,fs,f,vs,u,by omega,by simp,by omega,HRel,HFs,by rw [Hat2.out,show at_+(1+(kl:Int))=at_+1+kl by omega];exact (hI3.setAt _).drew,by show _=_;rw [Hat2.out,show at_+(1+(kl:Int))=at_+1+kl by omega];exact HM.out⟩,by simp [intOf];omega⟩
   | proc x p l gv ps b =>
    obtain ⟨hp20,hInT,hBl⟩:=hok
    obtain ⟨ss,rfl,hst⟩:∃ ss,b=.node 6 empty 0 ss∧∀ t∈ss,StT t:=by
     cases hBl with
     | mk h=>exact ⟨_,rfl,h⟩
    have hat2:=Hcn.out
    have HM:Hid (R=match prF ⟨faceK true m K,fs⟩ (procD x p l gv ps) ps (.node 6 empty 0 ss) (endsT (.node 6 empty 0 ss)) at_ with
      | .bad c d=>some (c,d)
      | .ok d=>moF (faceK true m K) given (K.drop (j+1)) fs d):=HRR.out.trans (by rw [HD.out];simp only [moF];rfl)
    have HX:Hid (∀ d,prF ⟨faceK true m K,fs⟩ (procD x p l gv ps) ps (.node 6 empty 0 ss) (endsT (.node 6 empty 0 ss)) at_=.ok d→d=at2):=fun d hd=>by
     have:=prF_at hst hd
     rw [proc_cnt] at hat2
     omega
    have hPr:=fun W (hI:CS w0 W D Kb kn ⟨f,W0,M,.map (some Gb)⟩ vs u (at_+1))=>oProc (kf:=⟨f,W0,M,.map (some Gb)⟩) x p l gv ps ss HT.out hst hp20 hInT _ W at_ vs u hl0 hI (by omega) (by omega)
    have hle9:at_≤900001:=by omega
    clear HRR HD hl0 hgk HT Hcn hat2
    simp only [Kid.kind,Kid.text,Kid.num] at k0 k1 k2 hPr
    generalize prF ⟨faceK true m K,fs⟩ (procD x p l gv ps) ps (.node 6 empty 0 ss) (endsT (.node 6 empty 0 ss)) at_=X at *
    generalize 2*bI p+bI l+gI gv=km at *
    generalize (Kid.proc x p l gv ps (.node 6 empty 0 ss)).kids.length=kl at *
    have hI2:=hI.alloc (.cells #[.int .i64 4,.string x,.int .i64 km,.slice ka kl kc] 25)
    have hQ:=BoxC.new wr  #[.int .i64 4,.string x,.int .i64 km,.slice ka kl kc] 25
    have hBg:=hI2.begin (by omega) (by omega)
    go_wp2_with (go_at_call 81;refine hBg.mono ?_;rintro e w3 ⟨rfl,hw3⟩;have hI3:CS w0 w3 D Kb kn ⟨f,W0,M,.map (some Gb)⟩ vs u (at_+1):=by { rw [hw3];exact hI2.setAt _ };have hQ3:BoxC w3 wr.heap.size  #[.int .i64 4,.string x,.int .i64 km,.slice ka kl kc] 25:=by { rw [hw3];exact hQ.other (by omega) _ };clear hw3;have r0:=hQ3.cell 0 rfl;have r1:=hQ3.cell 1 rfl;have r2:=hQ3.cell 2 rfl;have r3:=hQ3.cell 3 rfl)
    refine (hPr _ hI3).mono ?_
    cases X with
    | bad cc bb =>
     have HB:Hid (R=some (cc,bb)):=HM.out
     clear HM hPr
     rintro e w4 ⟨rfl,hb4⟩
     go_wp2
     exact ⟨rfl,MR.mkBad HB.out hb4⟩
    | ok d =>
     obtain rfl:=HX.out d rfl
     have HB:Hid (R=moF (faceK true m K) given (K.drop (j+1)) fs d):=HM.out
     clear HM hPr HX
     rintro e w4 ⟨rfl,vs4,u4,hI4⟩
     go_wp2
     exact ⟨⟨j+1,kn,fs,f,vs4,u4,by omega,by simp,by omega,HRel,HFs,by rw [Hat2.out];exact hI4,by show _=_;rw [Hat2.out];exact HB.out⟩,by simp [intOf];omega⟩
  ·obtain rfl:j=K.length:=by omega
   have HX:Hid (R=none):=by
    show _=_
    rw [HRR.out,List.drop_eq_nil_of_le (by omega)]
    rfl
   clear HRR hKs
   go_wp2
   go_end0
   exact MR.mkOk HX.out hI.bs
end
end chk
namespace face
open Go.RowKit Go.Maps
open syn
theorem kid_at {Bm:Nat} {w wr:World} {ks:List Tree} {g o j:Nat} (hat:LiesAt (·<Bm) w ks g o) (hg:g<Bm) (hB:Below Bm w wr) (hj:j<ks.length) :
  ∃ (k:Int) (x:ByteArray) (m:Int) (a:Option Addr) (n c:Nat),wr.cell? ⟨g,o+j*4,none⟩=some (.int .i64 k)∧wr.cell? ⟨g,o+j*4+1,none⟩=some (.string x)∧wr.cell? ⟨g,o+j*4+2,none⟩=some (.int .i64 m)∧wr.cell? ⟨g,o+j*4+3,none⟩=some (.slice a n c)∧Lies (·<Bm) wr ks[j] (.agg #[.int .i64 k,.string x,.int .i64 m,.slice a n c]):=by
 have hat':=hat.to (w':=wr) (Q:=(·<Bm)) (fun _ h=>h) (fun b hb o=>hB.cell (p:=⟨b,o,none⟩) hb) hg
 obtain ⟨v,⟨x0,x1,x2,x3,rfl,c0,c1,c2,c3⟩,hl⟩:=hat'.get j hj
 obtain ⟨kk,xx,mm,_,he,aa,na,ca,rfl⟩:=hl.shape
 injection he with he
 simp only [Array.mk.injEq,List.cons.injEq,and_true] at he
 obtain ⟨rfl,rfl,rfl,rfl⟩:=he
 exact ⟨kk,xx,mm,aa,na,ca,c0,c1,c2,c3,hl⟩
theorem Lies.alloc' {Bm:Nat} {w:World} {t:Tree} {v:Value} (h:Lies (·<Bm) w t v) (hB:Bm≤w.heap.size) (o:Obj):Lies (·<Bm) (w.alloc o) t v :=
 h.to (fun _ h=>h) (fun b hb o'=>((Below.refl w.heap.size w).alloc (jE _) o).cell (p:=⟨b,o',none⟩) (Nat.lt_of_lt_of_le hb hB))
theorem inL_get:∀ {ks:List Tree} (h:InL ks) (j:Nat) (hj:j<ks.length),InT ks[j]
 | [],_,j,hj=>by simp at hj
 | t :: r,h,0,hj=>by unfold InL at h;exact h.1
 | t :: r,h,j+1,hj=>by unfold InL at h;exact inL_get h.2 j (by simpa using hj)
set_option maxHeartbeats 2000000 in
theorem vIn {D Bm Bd:Nat} {mp:Option Nat} {vv pv iv:Value} {mo:ByteArray} {V:List VarD} {P:List (ProcD × Value)} {is ms ns qs:List ByteArray} (t:Tree) (v:Value) (w:World) (at_:Int) (hv:Lies (·<Bm) w t v) (hIn:InT t)
  (h:DI w D Bm Bd mp vv pv iv mo V P is ms ns qs at_) (h0:0≤at_) (hm:at_+cntT t≤1000000) :
  Calls Tryz.prog 69 #[.pointer (some ⟨D,0,none⟩),v] w fun e w'=>e=.returned (.tuple #[])∧Below Bm w w'∧DI w' D Bm Bd mp vv pv iv mo V P is ms ns qs (at_+cntT t):=by
 have c24:=kc25
 match t with
 | .node k x m ks =>
  have ih:∀ i (hi:i<ks.length) (v:Value) (w:World) (at_:Int),Lies (·<Bm) w ks[i] v→InT ks[i]→DI w D Bm Bd mp vv pv iv mo V P is ms ns qs at_→0≤at_→at_+cntT ks[i]≤1000000 →
    Calls Tryz.prog 69 #[.pointer (some ⟨D,0,none⟩),v] w fun e w'=>e=.returned (.tuple #[])∧Below Bm w w'∧DI w' D Bm Bd mp vv pv iv mo V P is ms ns qs (at_+cntT ks[i]):=fun i hi v w at_ h1 h2 h3 h4 h5=>vIn ks[i] v w at_ h1 h2 h3 h4 h5
  unfold Lies at hv
  obtain ⟨a,c,rfl,hl,hk⟩:=hv
  unfold InT at hIn
  obtain ⟨hkk,hin⟩:=hIn
  have hcT:cntT (.node k x m ks)=1+cntL ks:=by unfold cntT;omega
  rw [hcT] at hm ⊢
  have hcp:=cntL_pos ks
  have k1:¬ k=1:=by omega
  have k2:¬ k=2:=by omega
  have k3:¬ k=3:=by omega
  have k4:¬ k=4:=by omega
  have k5:¬ k=5:=by omega
  have hmm:=h.lm
  have hdd:=h.ld
  have hd:=h.dc.lt
  have hI0:=h.below (bal (.cells #[.int .i64 k,.string x,.int .i64 m,.slice a ks.length c] 25))
  have hI1:=hI0.setAt (at_+1)
  have hB1:Below Bm w ((w.alloc (.cells #[.int .i64 k,.string x,.int .i64 m,.slice a ks.length c] 25)).setCell ⟨D,7,none⟩ (.int .i64 (at_+1))):=((Below.refl _ _).alloc (by omega) _).setCell (by show Bm≤D;omega) _
  have m7:=hI0.dc.c7
  have mf:=hI0.dc.fz 7
  rw [World.setCell_alloc_past (hn:=hd)] at hI1 hB1
  clear hI0 h
  go_enter Tryz.func69,Tryz.ntmps69
  go_wp2
  clear m7 mf
  simp only [show (k==1)=false by simpa using k1,show (k==2)=false by simpa using k2,show (k==3)=false by simpa using k3,show (k==4)=false by simpa using k4,show (k==5)=false by simpa using k5]
  go_loopw [75] (fun t wr=>∃ j:Nat,j≤ks.length∧t=.int .i64 j∧DI wr D Bm Bd mp vv pv iv mo V P is ms ns qs (at_+1+cntL (ks.take j))∧Below Bm w wr) (fun t _=>ks.length - (intOf t).toNat)
  case atStart=>exact ⟨0,Nat.zero_le _,rfl,by simpa [cntL] using hI1,hB1⟩
  case round =>
   clear hI1 hB1
   obtain ⟨j,hj,rfl,hI,hB⟩:=hrel
   by_cases hlt:j<ks.length
   ·obtain ⟨g,o,rfl,hg,hat⟩:=hk (by intro e;rw [e] at hlt;simp at hlt)
    obtain ⟨kk,xx,mm,aa,na,ca,c0,c1,c2,c3,hx⟩:=kid_at hat hg hB hlt
    have hs1:=cntL_take ks j hlt
    have hs2:=cntL_take_le ks (j+1)
    have hs3:=cntT_pos ks[j]
    have hs4:=cntL_pos (ks.take j)
    have hsz:=hB.size
    have hC:=ih j hlt _ (wr.alloc (.cells #[.int .i64 kk,.string xx,.int .i64 mm,.slice aa na ca] 25)) _ (Lies.alloc' hx (by omega) _) (inL_get hin j hlt) (hI.below (bal _)) (by omega) (by omega)
    have hgl:g<wr.heap.size:=by have:g<Bm:=hg;omega
    rw [show at_+1+cntL (ks.take j)+cntT ks[j]=at_+1+cntL (ks.take (j+1)) by omega] at hC
    clear ih hI hx hk hat
    go_wp2_with (go_at_call 69;refine hC.mono ?_;rintro e w1 ⟨rfl,hb1,hI1⟩)
    go_roundw
    case rel=>exact ⟨j+1,by omega,by go_num,hI1,(hB.alloc (by omega) _).trans hb1⟩
    case measure=>simp [intOf];omega
   ·rw [List.take_of_length_le (by omega)] at hI
    go_wp2
    go_end0
    exact ⟨rfl,hB,by rw [show at_+(1+cntL ks)=at_+1+cntL ks by omega];exact hI⟩
termination_by SizeOf.sizeOf t
decreasing_by exact kid_lt hi
end face
namespace face
open syn
def parD:List ByteArray→List (ByteArray × Bool)→Int→Option (Int × Int)
 | _,[],_=>none
 | seen,q :: r,a=>if among seen q.1 then some (5,a) else if 5≤seen.length then some (1,a) else parD (seen++[q.1]) r (a+1)
def lookD:List Kid→List ByteArray→List ByteArray→Int→Option (Int × Int)
 | [],_,_,_=>none
 | .imp x :: r,ms,ns,a=>if among ms x then some (5,a) else if 6≤ms.length then some (1,a) else lookD r (ms++[x]) ns (a+1)
 | .var x p l n :: r,ms,ns,a=>if among ns x then some (5,a) else if 20≤ns.length then some (1,a) else
  match rangeF n a with
  | some e=>some e
  | none=>lookD r ms (ns++[x]) (a+cntT (Kid.var x p l n).tree)
 | .proc x p l g ps b :: r,ms,ns,a=>if among ns x then some (5,a) else if 20≤ns.length then some (1,a) else if 5<ps.length then some (1,a) else
  match parD [] ps (a+1) with
  | some e=>some e
  | none=>lookD r ms (ns++[x]) (a+cntT (Kid.proc x p l g ps b).tree)
theorem parD_is:∀ (ps:List (ByteArray × Bool)) (seen:List ByteArray) (a:Int),seen.length+ps.length≤5→parD seen ps a=parF seen ps a
 | [],_,_,_=>rfl
 | q :: r,seen,a,h=>by
  unfold parD parF
  simp only [List.length_cons] at h
  split
  ·rfl
  ·rw [if_neg (by omega)]
   exact parD_is r _ _ (by simp;omega)
theorem eqS_swap (x y:ByteArray):eqS x y=eqS y x:=by unfold eqS;rw [Bool.eq_iff_iff];simp only [beq_iff_eq];exact eq_comm
theorem among_own (m:ByteArray) (is:List ByteArray) (x:ByteArray):among (m :: is) x=(among is x||eqS x m):=by
 show (eqS m x||among is x)=_
 rw [eqS_swap m x,Bool.or_comm]
theorem lookD_is (m:ByteArray):∀ (K:List Kid) (is ns:List ByteArray) (a:Int),lookD K (m :: is) ns a=lookK m K is ns a
 | [],_,_,_=>rfl
 | .imp x :: r,is,ns,a=>by
  unfold lookD lookK
  rw [among_own]
  split
  ·rfl
  ·simp only [List.length_cons]
   by_cases h:5≤is.length
   ·rw [if_pos (by omega),if_pos h]
   ·rw [if_neg (by omega),if_neg h]
    exact lookD_is m r (is++[x]) ns (a+1)
 | .var x p l n :: r,is,ns,a=>by
  unfold lookD lookK
  split
  ·rfl
  ·split
   ·rfl
   ·cases rangeF n a with
    | some e=>rfl
    | none=>exact lookD_is m r is _ _
 | .proc x p l g ps b :: r,is,ns,a=>by
  unfold lookD lookK
  split
  ·rfl
  ·split
   ·rfl
   ·split
    ·rfl
    ·rename_i h5
     rw [parD_is ps [] (a+1) (by simp;omega)]
     cases parF [] ps (a+1) with
     | some e=>rfl
     | none=>exact lookD_is m r is _ _
end face
namespace face
open Go.RowKit Go.Maps
open syn
def VR (Bm:Nat) (w:World) (r:Option (Int × Int)) (G:World→Prop) (e:Ending) (w':World):Prop :=
 Below Bm w w'∧((∃ q,r=some q∧e=.panicked (Thrown q.1 q.2))∨(r=none∧e=.returned (.tuple #[])∧G w'))
def enterR (L:List ByteArray) (x:ByteArray) (most:Nat) (a:Int):Option (Int × Int):=if among L x then some (5,a) else if most≤L.length then some (1,a) else none
theorem enterR_twice {L:List ByteArray} {x:ByteArray} {most:Nat} {a:Int} (h:among L x=true):enterR L x most a=some (5,a):=by unfold enterR;rw [if_pos h]
theorem enterR_many {L:List ByteArray} {x:ByteArray} {most:Nat} {a:Int} (h:among L x=false) (h2:most≤L.length):enterR L x most a=some (1,a):=by unfold enterR;rw [if_neg (by simp [h]),if_pos h2]
theorem enterR_ok {L:List ByteArray} {x:ByteArray} {most:Nat} {a:Int} (h:among L x=false) (h2:L.length<most):enterR L x most a=none:=by unfold enterR;rw [if_neg (by simp [h]),if_neg (by omega)]
set_option maxHeartbeats 2000000 in
theorem vPar {D Bm Bd b0:Nat} {vv pv iv:Value} {mo:ByteArray} {V:List VarD} {P:List (ProcD × Value)} {is ms ns qs:List ByteArray} (x:ByteArray) (l:Int) (v:Value) (w:World) (at_:Int) (hv:Lies (·<Bm) w (.node 5 x l []) v)
  (h:DI w D Bm Bd (some b0) vv pv iv mo V P is ms ns qs at_) (h0:0≤at_) (hm:at_≤1000000) (hx:x.size≤16) (hq:qs.length≤5) :
  Calls Tryz.prog 69 #[.pointer (some ⟨D,0,none⟩),v] w (VR Bm w (enterR qs x 5 at_) fun w'=>DI w' D Bm Bd (some b0) vv pv iv mo V P is ms ns (qs++[x]) (at_+1)):=by
 unfold Lies at hv
 obtain ⟨a,c,rfl,_,_⟩:=hv
 simp only [List.length_nil] at *
 have hb0:=h.lp b0 rfl
 have hb1:=(h.op b0 rfl).lt
 have c24:=kc25
 have hmm:=h.lm
 have hdd:=h.ld
 have hd:=h.dc.lt
 have hI0:=h.below (bal (.cells #[.int .i64 5,.string x,.int .i64 l,.slice a 0 c] 25))
 have hI:DI (w.alloc (.cells #[.int .i64 5,.string x,.int .i64 l,.slice a 0 c] 25)).drew D Bm Bd (some b0) vv pv iv mo V P is ms ns qs at_:=hI0.below ⟨rfl,rfl,rfl,jE _,fun _ _=>rfl⟩
 clear hI0
 have hQ:Q4 w.heap.size (.int .i64 5) (.string x) (.int .i64 l) (.slice a 0 c) (w.alloc (.cells #[.int .i64 5,.string x,.int .i64 l,.slice a 0 c] 25)).drew:=⟨by simp,by simp,by simp,by simp⟩
 have hB:Below w.heap.size w (w.alloc (.cells #[.int .i64 5,.string x,.int .i64 l,.slice a 0 c] 25)).drew:=(bal _).drew
 have hS:(w.alloc (.cells #[.int .i64 5,.string x,.int .i64 l,.slice a 0 c] 25)).drew.cell? ⟨D,6,none⟩=some (.map (some b0))∧(w.alloc (.cells #[.int .i64 5,.string x,.int .i64 l,.slice a 0 c] 25)).drew.cell? ⟨w.heap.size,1,none⟩=some (.string x):=⟨hI.dc.c6,hQ.2.1⟩
 go_enter Tryz.func69,Tryz.ntmps69
 go_wp2
 refine wp_region_held_drew (S:=fun W=>W.cell? ⟨D,6,none⟩=some (.map (some b0))∧W.cell? ⟨w.heap.size,1,none⟩=some (.string x)) (by kernel_rfl) hS (fun hHeld=>?_)
 clear hHeld
 generalize (w.alloc (.cells #[.int .i64 5,.string x,.int .i64 l,.slice a 0 c] 25)).drew=W at *
 refine tkP 0 (.pointer (some ⟨D,0,none⟩)) hS ?_
 simp only [Act.put,jA,jB,jC]
 refine tkP 1 (.pointer (some ⟨D,0,none⟩)) hS ?_
 simp only [Act.put,jA,jB,jC]
 refine tkP 2 (.pointer (some ⟨D,0,none⟩)) hS ?_
 simp only [Act.put,jA,jB,jC]
 refine tkP 3 (.pointer (some ⟨D,6,none⟩)) hS ?_
 simp only [Act.put,jA,jB,jC]
 refine tkP 4 (.map (some b0)) hS ?_
 simp only [Act.put,jA,jB,jC]
 refine tkP 5 (.pointer (some ⟨w.heap.size,1,none⟩)) hS ?_
 simp only [Act.put,jA,jB,jC]
 refine tkP 6 (.string x) hS ?_
 simp only [Act.put,jA,jB,jC]
 refine oneH 7 fun K hK=>?_
 go_simp
 go_at_call 117
 refine (oEnter D b0 qs x 5 at_ W hI.dc.c7 (hI.op b0 rfl) hI.aq (by omega) (by omega) (by omega)).mono ?_
 rintro e W1 (⟨hm1,rfl,hb⟩|⟨hm1,hle,rfl,hb⟩|⟨hm1,hlt,rfl,hom,ham,hg⟩)
 ·go_wp2
  exact ⟨rfl,(hB.trans (hb.mono hB.size)).mono (by omega),.inl ⟨_,enterR_twice hm1,rfl⟩⟩
 ·go_wp2
  exact ⟨rfl,(hB.trans (hb.mono hB.size)).mono (by omega),.inl ⟨_,enterR_many hm1 hle,rfl⟩⟩
 have hI1:=hI.enterP hom ham hg
 go_wp2
 replace hQ:=Q4.grown hQ hg (by simp;omega)
 have hB1:Below Bm w W1:=(hB.mono (by omega)).grown hg (by have:=hB.size;omega) (fun k e=>by cases e;omega)
 clear hB hom ham hg hI
 refine hK.out _ _ ⟨hI1.dc.c6,hQ.2.1⟩ (fun hHeld=>?_)
 clear hK K hHeld
 refine wpAnyH_done (by kernel_rfl) ?_ _
 obtain ⟨q0,q1,q2,q3⟩:=id hQ
 have m7:=hI1.dc.c7
 have mf:=hI1.dc.fz 7
 have hI2:=hI1.setAt (at_+1)
 have hB2:=hB1.setCell (p:=⟨D,7,none⟩) (by show Bm≤D;omega) (.int .i64 (at_+1))
 clear hI1 hB1
 go_wp2
 clear m7 mf
 go_loopw [75] (fun t wr=>t=.int .i64 0∧wr=W1.setCell ⟨D,7,none⟩ (.int .i64 (at_+1))) (fun t _=>0)
 case atStart=>exact ⟨rfl,rfl⟩
 case round =>
  obtain ⟨rfl,rfl⟩:=hrel
  go_wp2
  go_end0
  exact ⟨hB2,.inr ⟨enterR_ok hm1 hlt,rfl,hI2⟩⟩
set_option maxHeartbeats 4000000 in
theorem vImp {D Bm Bd:Nat} {mp:Option Nat} {vv pv iv:Value} {mo:ByteArray} {V:List VarD} {P:List (ProcD × Value)} {is ms ns qs:List ByteArray} (x:ByteArray) (l:Int) (v:Value) (w:World) (at_:Int) (hv:Lies (·<Bm) w (.node 2 x l []) v)
  (h:DI w D Bm Bd mp vv pv iv mo V P is ms ns qs at_) (h0:0≤at_) (hm:at_≤1000000) (hx:x.size≤16) (hq:ms.length≤6) (his:is.length≤6) :
  Calls Tryz.prog 69 #[.pointer (some ⟨D,0,none⟩),v] w (VR Bm w (enterR ms x 6 at_) fun w'=>∃ iv',DI w' D Bm Bd mp vv pv iv' mo V P (is++[x]) (ms++[x]) ns qs (at_+1)):=by
 obtain ⟨i0,hi,hz0,hz1,hz2⟩:=info_parts infoS
 unfold Lies at hv
 obtain ⟨a,c,rfl,_,_⟩:=hv
 simp only [List.length_nil] at *
 have c24:=kc25
 have hmm:=h.lm
 have hdd:=h.ld
 have hd:=h.dc.lt
 have hI0:=h.below (bal (.cells #[.int .i64 2,.string x,.int .i64 l,.slice a 0 c] 25))
 have hI:DI (w.alloc (.cells #[.int .i64 2,.string x,.int .i64 l,.slice a 0 c] 25)).drew D Bm Bd mp vv pv iv mo V P is ms ns qs at_:=hI0.below ⟨rfl,rfl,rfl,jE _,fun _ _=>rfl⟩
 clear hI0
 have hQ:Q4 w.heap.size (.int .i64 2) (.string x) (.int .i64 l) (.slice a 0 c) (w.alloc (.cells #[.int .i64 2,.string x,.int .i64 l,.slice a 0 c] 25)).drew:=⟨by simp,by simp,by simp,by simp⟩
 have hB:Below w.heap.size w (w.alloc (.cells #[.int .i64 2,.string x,.int .i64 l,.slice a 0 c] 25)).drew:=(bal _).drew
 have hS:(w.alloc (.cells #[.int .i64 2,.string x,.int .i64 l,.slice a 0 c] 25)).drew.cell? ⟨D,4,none⟩=some (.map (some Bm))∧(w.alloc (.cells #[.int .i64 2,.string x,.int .i64 l,.slice a 0 c] 25)).drew.cell? ⟨w.heap.size,1,none⟩=some (.string x):=⟨hI.dc.c4,hQ.2.1⟩
 go_enter Tryz.func69,Tryz.ntmps69
 go_wp2
 refine wp_region_held_drew (S:=fun W=>W.cell? ⟨D,4,none⟩=some (.map (some Bm))∧W.cell? ⟨w.heap.size,1,none⟩=some (.string x)) (by kernel_rfl) hS (fun hHeld=>?_)
 clear hHeld
 generalize (w.alloc (.cells #[.int .i64 2,.string x,.int .i64 l,.slice a 0 c] 25)).drew=W at *
 refine tkP 0 (.pointer (some ⟨D,0,none⟩)) hS ?_
 simp only [Act.put,jA,jB,jC]
 refine tkP 1 (.pointer (some ⟨D,0,none⟩)) hS ?_
 simp only [Act.put,jA,jB,jC]
 refine tkP 2 (.pointer (some ⟨D,0,none⟩)) hS ?_
 simp only [Act.put,jA,jB,jC]
 refine tkP 3 (.pointer (some ⟨D,4,none⟩)) hS ?_
 simp only [Act.put,jA,jB,jC]
 refine tkP 4 (.map (some Bm)) hS ?_
 simp only [Act.put,jA,jB,jC]
 refine tkP 5 (.pointer (some ⟨w.heap.size,1,none⟩)) hS ?_
 simp only [Act.put,jA,jB,jC]
 refine tkP 6 (.string x) hS ?_
 simp only [Act.put,jA,jB,jC]
 refine oneH 7 fun K hK=>?_
 go_simp
 go_at_call 117
 refine (oEnter D Bm ms x 6 at_ W hI.dc.c7 hI.om hI.am (by omega) (by omega) (by omega)).mono ?_
 rintro e W1 (⟨hm1,rfl,hb⟩|⟨hm1,hle,rfl,hb⟩|⟨hm1,hlt,rfl,hom,ham,hg⟩)
 ·go_wp2
  exact ⟨rfl,(hB.trans (hb.mono hB.size)).mono (by omega),.inl ⟨_,enterR_twice hm1,rfl⟩⟩
 ·go_wp2
  exact ⟨rfl,(hB.trans (hb.mono hB.size)).mono (by omega),.inl ⟨_,enterR_many hm1 hle,rfl⟩⟩
 have hI1:=hI.enterM hom ham hg
 go_wp2
 replace hQ:=Q4.grown hQ hg (by simp;omega)
 have hB1:Below Bm w W1:=(hB.mono (by omega)).grown hg (by have:=hB.size;omega) (fun k e=>by cases e;omega)
 clear hB hom ham hg hI
 refine hK.out _ _ ⟨hI1.dc.c4,hQ.2.1⟩ (fun hHeld=>?_)
 clear hK K hHeld
 refine wpAnyH_done (by kernel_rfl) ?_ _
 obtain ⟨q0,q1,q2,q3⟩:=id hQ
 have hI2:DI W1.drew D Bm Bd mp vv pv iv mo V P is (ms++[x]) ns qs at_:=hI1.below ⟨rfl,rfl,rfl,jE _,fun _ _=>rfl⟩
 have hB2:=hB1.drew
 have hS2:Q4 w.heap.size (.int .i64 2) (.string x) (.int .i64 l) (.slice a 0 c) W1.drew:=hQ
 have hvb:∀ k,iv.ownBlock=some k→k<w.heap.size:=fun k e=>(h.oi.lt _ e).2
 clear hI1 hB1 hQ h
 go_wp2
 clear q0 q1 q2 q3
 refine wp_region_held_drew (S:=fun W=>Q4 w.heap.size (.int .i64 2) (.string x) (.int .i64 l) (.slice a 0 c) W) (by kernel_rfl) hS2 (fun hHeld=>?_)
 clear hHeld
 generalize W1.drew=W2 at *
 generalize w.heap.size=N at *
 obtain ⟨av,cv,rfl,_,_⟩:=lexs.own_shape hI2.oi
 refine tkP 0 (.pointer (some ⟨D,0,none⟩)) hS2 ?_
 simp only [Act.put,jA,jB,jC]
 refine tkP 1 (.pointer (some ⟨D,0,none⟩)) hS2 ?_
 simp only [Act.put,jA,jB,jC]
 refine tkP 2 (.pointer (some ⟨D,0,none⟩)) hS2 ?_
 simp only [Act.put,jA,jB,jC]
 refine tkP 3 (.pointer (some ⟨D,3,none⟩)) hS2 ?_
 simp only [Act.put,jA,jB,jC]
 refine tkP 5 (.pointer (some ⟨N,1,none⟩)) hS2 ?_
 simp only [Act.put,jA,jB,jC]
 refine tkP 6 (.string x) hS2 ?_
 simp only [Act.put,jA,jB,jC]
 refine wpAnyH_ready (rs:=[4,7]) (by kernel_rfl) (by simp) ?_
 refine AllReadyH.cons rfl (fun K hK=>?_) ?_
 ·skip
  have m1:=hI2.dc.c3
  go_simp
  refine hK.out _ _ hS2 (fun hHeld=>?_)
  clear hK K hHeld m1
  refine oneH 7 fun K hK=>?_
  go_simp
  have hsl:∀ j u,[Value.string x][j]?=some u→(W2.alloc (.cells #[.string x] 9)).cell? ((⟨W2.heap.size,0,none⟩:Addr).add j)=some u:=cell_one _ _ _ rfl
  have hss:W2.heap.size+1=(W2.alloc (.cells #[.string x] 9)).heap.size:=by simp
  replace hB2:=hB2.alloc (by have:=hI2.dc.lt;omega) (.cells #[.string x] 9)
  replace hI2:=hI2.below (bal (.cells #[.string x] 9))
  replace hS2:=Q4.alloc hS2 (.cells #[.string x] 9)
  refine hK.out _ _ hS2 (fun hHeld=>?_)
  clear hK K hHeld
  generalize W2.alloc (.cells #[.string x] 9)=W3 at *
  generalize W2.heap.size=s0 at *
  refine oneH 8 fun K hK=>?_
  refine step_append_lies _ (by rfl) (.tmp 38) (.tmp 41) 45 (by rfl) (D+1) 9 i0 (.string ⟨#[]⟩) 1 16 Tryz.underlying45 hi hz0 hz1 hz2 rfl (by decide) (.slice av is.length cv) is.length (strV is) (by simp [Act.eval,Act.put]) hI2.oi ⟨s0,0,none⟩ 1 1 [.string x] (by simp [Act.eval,Act.put]) rfl hsl (one_string x) (by omega) (by unfold maxLen;omega) (by omega) (by have:=hI2.dc.lt;omega) (s0+1) hss.symm ?_
  intro g5 cap5 w5 hown5 hgrow5 hat5 hlt5
  have hrN:(Value.slice av is.length cv).ownBlock≠some N:=fun e=>by have:=hvb _ e;omega
  have hrD:(Value.slice av is.length cv).ownBlock≠some D:=fun e=>by have:=(hI2.oi.lt _ e).1;omega
  have hfin:=hI2.pushI (x:=x) hown5 hgrow5 (hat5.imp id (fun e=>e.trans hss))
  replace hS2:=Q4.grown hS2 hgrow5 hrN
  replace hB2:=hB2.grown hgrow5 (by have:=hI2.dc.lt;omega) (fun k e=>by have:=(hI2.oi.lt _ e).1;omega)
  have hdc:=hI2.dc.grown hgrow5 hrD
  have m1:=hdc.c3
  have mf:=hdc.fz 3
  clear hI2 hdc
  refine hK.out _ _ hS2 (fun hHeld=>?_)
  clear hK K hHeld
  simp only [Act.put,jA,jB,jC]
  refine tkP 9 (.pointer (some ⟨D,0,none⟩)) hS2 ?_
  simp only [Act.put,jA,jB,jC]
  refine tkP 10 (.pointer (some ⟨D,3,none⟩)) hS2 ?_
  simp only [Act.put,jA,jB,jC]
  refine oneH 11 fun K hK=>?_
  go_simp
  refine hK.out _ _ (Q4.other (by omega) hS2 _ _) (fun hHeld=>?_)
  clear hK K hHeld m1 mf
  replace hB2:=hB2.setCell (p:=⟨D,3,none⟩) (by show Bm≤D;omega) (.slice (some ⟨g5,0,none⟩) (is.length+1) cap5)
  replace hS2:=Q4.other (M:=D) (o:=3) (by omega) hS2 (.slice (some ⟨g5,0,none⟩) (is.length+1) cap5)
  refine wpAnyH_done (by kernel_rfl) ?_ _
  obtain ⟨q0,q1,q2,q3⟩:=id hS2
  have m7:=hfin.dc.c7
  have mf:=hfin.dc.fz 7
  generalize w5.setCell ⟨D,3,none⟩ (.slice (some ⟨g5,0,none⟩) (is.length+1) cap5)=W5 at *
  have hI6:=hfin.setAt (at_+1)
  have hB6:=hB2.setCell (p:=⟨D,7,none⟩) (by show Bm≤D;omega) (.int .i64 (at_+1))
  clear hfin hB2
  go_wp2
  clear m7 mf
  go_loopw [75] (fun t wr=>t=.int .i64 0∧wr=W5.setCell ⟨D,7,none⟩ (.int .i64 (at_+1))) (fun t _=>0)
  case atStart=>exact ⟨rfl,rfl⟩
  case round =>
   obtain ⟨rfl,rfl⟩:=hrel
   go_wp2
   go_end0
   exact ⟨hB6,.inr ⟨enterR_ok hm1 hlt,rfl,_,hI6⟩⟩
 refine AllReadyH.cons rfl (fun K hK=>?_) AllReadyH.nil
 go_simp
 have hsl:∀ j u,[Value.string x][j]?=some u→(W2.alloc (.cells #[.string x] 9)).cell? ((⟨W2.heap.size,0,none⟩:Addr).add j)=some u:=cell_one _ _ _ rfl
 have hss:W2.heap.size+1=(W2.alloc (.cells #[.string x] 9)).heap.size:=by simp
 replace hB2:=hB2.alloc (by have:=hI2.dc.lt;omega) (.cells #[.string x] 9)
 replace hI2:=hI2.below (bal (.cells #[.string x] 9))
 replace hS2:=Q4.alloc hS2 (.cells #[.string x] 9)
 refine hK.out _ _ hS2 (fun hHeld=>?_)
 clear hK K hHeld
 generalize W2.alloc (.cells #[.string x] 9)=W3 at *
 generalize W2.heap.size=s0 at *
 refine oneH 4 fun K hK=>?_
 have m1:=hI2.dc.c3
 go_simp
 refine hK.out _ _ hS2 (fun hHeld=>?_)
 clear hK K hHeld m1
 refine oneH 8 fun K hK=>?_
 refine step_append_lies _ (by rfl) (.tmp 38) (.tmp 41) 45 (by rfl) (D+1) 9 i0 (.string ⟨#[]⟩) 1 16 Tryz.underlying45 hi hz0 hz1 hz2 rfl (by decide) (.slice av is.length cv) is.length (strV is) (by simp [Act.eval,Act.put]) hI2.oi ⟨s0,0,none⟩ 1 1 [.string x] (by simp [Act.eval,Act.put]) rfl hsl (one_string x) (by omega) (by unfold maxLen;omega) (by omega) (by have:=hI2.dc.lt;omega) (s0+1) hss.symm ?_
 intro g5 cap5 w5 hown5 hgrow5 hat5 hlt5
 have hrN:(Value.slice av is.length cv).ownBlock≠some N:=fun e=>by have:=hvb _ e;omega
 have hrD:(Value.slice av is.length cv).ownBlock≠some D:=fun e=>by have:=(hI2.oi.lt _ e).1;omega
 have hfin:=hI2.pushI (x:=x) hown5 hgrow5 (hat5.imp id (fun e=>e.trans hss))
 replace hS2:=Q4.grown hS2 hgrow5 hrN
 replace hB2:=hB2.grown hgrow5 (by have:=hI2.dc.lt;omega) (fun k e=>by have:=(hI2.oi.lt _ e).1;omega)
 have hdc:=hI2.dc.grown hgrow5 hrD
 have m1:=hdc.c3
 have mf:=hdc.fz 3
 clear hI2 hdc
 refine hK.out _ _ hS2 (fun hHeld=>?_)
 clear hK K hHeld
 simp only [Act.put,jA,jB,jC]
 refine tkP 9 (.pointer (some ⟨D,0,none⟩)) hS2 ?_
 simp only [Act.put,jA,jB,jC]
 refine tkP 10 (.pointer (some ⟨D,3,none⟩)) hS2 ?_
 simp only [Act.put,jA,jB,jC]
 refine oneH 11 fun K hK=>?_
 go_simp
 refine hK.out _ _ (Q4.other (by omega) hS2 _ _) (fun hHeld=>?_)
 clear hK K hHeld m1 mf
 replace hB2:=hB2.setCell (p:=⟨D,3,none⟩) (by show Bm≤D;omega) (.slice (some ⟨g5,0,none⟩) (is.length+1) cap5)
 replace hS2:=Q4.other (M:=D) (o:=3) (by omega) hS2 (.slice (some ⟨g5,0,none⟩) (is.length+1) cap5)
 refine wpAnyH_done (by kernel_rfl) ?_ _
 obtain ⟨q0,q1,q2,q3⟩:=id hS2
 have m7:=hfin.dc.c7
 have mf:=hfin.dc.fz 7
 generalize w5.setCell ⟨D,3,none⟩ (.slice (some ⟨g5,0,none⟩) (is.length+1) cap5)=W5 at *
 have hI6:=hfin.setAt (at_+1)
 have hB6:=hB2.setCell (p:=⟨D,7,none⟩) (by show Bm≤D;omega) (.int .i64 (at_+1))
 clear hfin hB2
 go_wp2
 clear m7 mf
 go_loopw [75] (fun t wr=>t=.int .i64 0∧wr=W5.setCell ⟨D,7,none⟩ (.int .i64 (at_+1))) (fun t _=>0)
 case atStart=>exact ⟨rfl,rfl⟩
 case round =>
  obtain ⟨rfl,rfl⟩:=hrel
  go_wp2
  go_end0
  exact ⟨hB6,.inr ⟨enterR_ok hm1 hlt,rfl,_,hI6⟩⟩
def onP {α:Type} (p:Bool) (x:α):List α:=if p then [x] else []
def varR (ns:List ByteArray) (x:ByteArray) (n:Option Int) (a:Int):Option (Int × Int):=if among ns x then some (5,a) else if 20≤ns.length then some (1,a) else rangeF n a
def procR (ns:List ByteArray) (x:ByteArray) (ps:List (ByteArray × Bool)) (a:Int):Option (Int × Int):=if among ns x then some (5,a) else if 20≤ns.length then some (1,a) else if 5<ps.length then some (1,a) else parD [] ps (a+1)
theorem inL_var (x:ByteArray) (p l:Bool) (n:Option Int):InL (Kid.var x p l n).kids:=by
 cases n with
 | none=>unfold Kid.kids InL;trivial
 | some k=>unfold Kid.kids InL InL;exact ⟨inT_leaf (.inr (by omega)),trivial⟩
theorem rangeF_ok {n:Option Int} {a:Int} (h:∀ k,n=some k→1≤k∧k≤64):rangeF n a=none:=by
 cases n with
 | none=>rfl
 | some k=>have:=h k rfl;show (if k<1∨64<k then _ else _)=_;rw [if_neg (by omega)]
theorem rangeF_bad {n:Option Int} {a:Int} (h:∃ k,n=some k∧(k<1∨64<k)):rangeF n a=some (6,a):=by
 obtain ⟨k,rfl,h⟩:=h
 show (if k<1∨64<k then _ else _)=_
 rw [if_pos h]
theorem varR_a {ns:List ByteArray} {x:ByteArray} {n:Option Int} {a:Int} (h:among ns x=true):varR ns x n a=some (5,a):=by unfold varR;rw [if_pos h]
theorem varR_b {ns:List ByteArray} {x:ByteArray} {n:Option Int} {a:Int} (h:among ns x=false) (h2:20≤ns.length):varR ns x n a=some (1,a):=by unfold varR;rw [if_neg (by simp [h]),if_pos h2]
theorem varR_c {ns:List ByteArray} {x:ByteArray} {n:Option Int} {a:Int} (h:among ns x=false) (h2:ns.length<20):varR ns x n a=rangeF n a:=by unfold varR;rw [if_neg (by simp [h]),if_neg (by omega)]
theorem procR_a {ns:List ByteArray} {x:ByteArray} {ps:List (ByteArray × Bool)} {a:Int} (h:among ns x=true):procR ns x ps a=some (5,a):=by unfold procR;rw [if_pos h]
theorem procR_b {ns:List ByteArray} {x:ByteArray} {ps:List (ByteArray × Bool)} {a:Int} (h:among ns x=false) (h2:20≤ns.length):procR ns x ps a=some (1,a):=by unfold procR;rw [if_neg (by simp [h]),if_pos h2]
theorem procR_c {ns:List ByteArray} {x:ByteArray} {ps:List (ByteArray × Bool)} {a:Int} (h:among ns x=false) (h2:ns.length<20) (h3:5<ps.length):procR ns x ps a=some (1,a):=by unfold procR;rw [if_neg (by simp [h]),if_neg (by omega),if_pos h3]
theorem procR_d {ns:List ByteArray} {x:ByteArray} {ps:List (ByteArray × Bool)} {a:Int} (h:among ns x=false) (h2:ns.length<20) (h3:ps.length≤5):procR ns x ps a=parD [] ps (a+1):=by unfold procR;rw [if_neg (by simp [h]),if_neg (by omega),if_neg (by omega)]
set_option maxHeartbeats 2000000 in
theorem vVar {D Bm Bd:Nat} {mp:Option Nat} {vv pv iv:Value} {mo:ByteArray} {V:List VarD} {P:List (ProcD × Value)} {is ms ns qs:List ByteArray} (x:ByteArray) (p l:Bool) (n:Option Int) (v:Value) (w:World) (at_:Int) (hv:Lies (·<Bm) w (Kid.var x p l n).tree v)
  (h:DI w D Bm Bd mp vv pv iv mo V P is ms ns qs at_) (h0:0≤at_) (hm:at_+cntT (Kid.var x p l n).tree≤1000000) (hx:x.size≤16) (hns:ns.length≤20) (hV:V.length≤20) :
  Calls Tryz.prog 69 #[.pointer (some ⟨D,0,none⟩),v] w (VR Bm w (varR ns x n at_) fun w'=>∃ vv',DI w' D Bm Bd mp vv' pv iv mo (V++onP p (varD x p l n)) P is ms (ns++[x]) qs (at_+cntT (Kid.var x p l n).tree)):=by
 have c24:=kc25
 have hv0:=hv
 rw [Kid.tree_is] at hv
 unfold Lies at hv
 obtain ⟨a,c,rfl,hl,hk⟩:=hv
 have hin:=inL_var x p l n
 have hcT:cntT (Kid.var x p l n).tree=1+cntL (Kid.var x p l n).kids:=by rw [Kid.tree_is];unfold cntT;omega
 rw [hcT] at hm ⊢
 have hmm:=h.lm
 have hdd:=h.ld
 have hd:=h.dc.lt
 have hov:=(own_lt h).2.1
 have hlv:∀ k,vv.ownBlock=some k→k<w.heap.size:=fun k e=>(h.fr.ov.lt _ e).2
 have hA:=oAddVar x p l n _ (w.alloc (.cells #[.int .i64 (Kid.var x p l n).kind,.string (Kid.var x p l n).text,.int .i64 (Kid.var x p l n).num,.slice a (Kid.var x p l n).kids.length c] 25)) (Lies.alloc' hv0 (by omega) _) (h.below (bal _)) hx hns hV w.heap.size (by simp) hd (fun e=>by have:=hlv _ e;omega)
 simp only [Kid.kind,Kid.text] at *
 have hcp:=cntL_pos (Kid.var x p l n).kids
 generalize (Kid.var x p l n).num=m at *
 generalize (Kid.var x p l n).kids=ks at *
 have hB0:Below Bm w (w.alloc (.cells #[.int .i64 3,.string x,.int .i64 m,.slice a ks.length c] 25)):=(Below.refl _ _).alloc (by omega) _
 clear hv0 h
 go_enter Tryz.func69,Tryz.ntmps69
 go_wp2_with (fail)
 refine hA.mono ?_
 rintro e w1 ⟨hb1,(⟨hm1,rfl⟩|⟨hm1,hle,rfl⟩|⟨hm1,hlt,hr,rfl⟩|⟨hm1,hlt,hr,rfl,hkz,vv',hI1⟩)⟩
 ·go_wp2
  exact ⟨rfl,hB0.trans hb1,.inl ⟨_,varR_a hm1,rfl⟩⟩
 ·go_wp2
  exact ⟨rfl,hB0.trans hb1,.inl ⟨_,varR_b hm1 hle,rfl⟩⟩
 ·go_wp2
  exact ⟨rfl,hB0.trans hb1,.inl ⟨_,(varR_c hm1 hlt).trans (rangeF_bad hr),rfl⟩⟩
 have q3:w1.cell? ⟨w.heap.size,3,none⟩=some (.slice a ks.length c):=(World.cell?_of_block (a:=⟨w.heap.size,3,none⟩) hkz.eq).trans (by simp)
 have HR:Hid (varR ns x n at_=none):=(varR_c hm1 hlt).trans (rangeF_ok hr)
 replace hI1:DI w1 D Bm Bd mp vv' pv iv mo (V++onP p (varD x p l n)) P is ms (ns++[x]) qs at_:=hI1
 have m7:=hI1.dc.c7
 have mf:=hI1.dc.fz 7
 have hI2:=hI1.setAt (at_+1)
 have hB2:=(hB0.trans hb1).setCell (p:=⟨D,7,none⟩) (by show Bm≤D;omega) (.int .i64 (at_+1))
 clear hI1 hA hb1 hB0 hr hkz
 go_wp2
 clear m7 mf q3
 go_loopw [75] (fun t wr=>∃ j:Nat,j≤ks.length∧t=.int .i64 j∧DI wr D Bm Bd mp vv' pv iv mo (V++onP p (varD x p l n)) P is ms (ns++[x]) qs (at_+1+cntL (ks.take j))∧Below Bm w wr) (fun t _=>ks.length - (intOf t).toNat)
 case atStart=>exact ⟨0,Nat.zero_le _,rfl,by simpa [cntL] using hI2,hB2⟩
 case round =>
  clear hI2 hB2
  obtain ⟨j,hj,rfl,hI,hB⟩:=hrel
  by_cases hlt:j<ks.length
  ·obtain ⟨g,o,rfl,hg,hat⟩:=hk (by intro e;rw [e] at hlt;simp at hlt)
   obtain ⟨kk,xx,mm,aa,na,ca,c0,c1,c2,c3,hx⟩:=kid_at hat hg hB hlt
   have hs1:=cntL_take ks j hlt
   have hs2:=cntL_take_le ks (j+1)
   have hs3:=cntT_pos ks[j]
   have hs4:=cntL_pos (ks.take j)
   have hsz:=hB.size
   have hC:=vIn ks[j] _ (wr.alloc (.cells #[.int .i64 kk,.string xx,.int .i64 mm,.slice aa na ca] 25)) _ (Lies.alloc' hx (by omega) _) (inL_get hin j hlt) (hI.below (bal _)) (by omega) (by omega)
   have hgl:g<wr.heap.size:=by have:g<Bm:=hg;omega
   rw [show at_+1+cntL (ks.take j)+cntT ks[j]=at_+1+cntL (ks.take (j+1)) by omega] at hC
   clear hI hx hk hat
   go_wp2_with (go_at_call 69;refine hC.mono ?_;rintro e w1 ⟨rfl,hb1,hI1⟩)
   go_roundw
   case rel=>exact ⟨j+1,by omega,by go_num,hI1,(hB.alloc (by omega) _).trans hb1⟩
   case measure=>simp [intOf];omega
  ·rw [List.take_of_length_le (by omega)] at hI
   go_wp2
   go_end0
   exact ⟨hB,.inr ⟨HR.out,rfl,vv',by rw [show at_+(1+cntL ks)=at_+1+cntL ks by omega];exact hI⟩⟩
/-! of a procedure -/
theorem parD_step {ps:List (ByteArray × Bool)} {j:Nat} (hj:j<ps.length) (a:Int) (r:Option (Int × Int)) (h:r=parD ((ps.take j).map (·.1)) (ps.drop j) a) :
  r=match enterR ((ps.take j).map (·.1)) ps[j].1 5 a with | some e=>some e | none=>parD ((ps.take (j+1)).map (·.1)) (ps.drop (j+1)) (a+1):=by
 rw [h,List.drop_eq_getElem_cons hj]
 have e:(ps.take (j+1)).map (·.1)=(ps.take j).map (·.1)++[ps[j].1]:=by rw [List.take_succ_eq_append_getElem hj,List.map_append];rfl
 rw [e]
 unfold enterR
 show (if _ then _ else _)=_
 split
 ·rfl
 ·split<;>rfl
theorem cnt_pars:∀ (ps:List (ByteArray × Bool)),cntL (ps.map parT)=ps.length
 | []=>rfl
 | q :: r=>by
  show cntT (parT q)+cntL (r.map parT)=((r.length+1:Nat):Int)
  rw [cnt_pars r]
  show cntL []+1+(r.length:Int)=_
  unfold cntL
  omega
theorem kids_take (ps:List (ByteArray × Bool)) (b:Tree) (j:Nat) (hj:j≤ps.length):cntL ((ps.map parT++[b]).take j)=j:=by
 rw [List.take_append_of_le_length (by simpa using hj),← List.map_take,cnt_pars,List.length_take]
 omega
set_option maxHeartbeats 4000000 in
theorem vProc {D Bm Bd:Nat} {mp:Option Nat} {vv pv iv:Value} {mo:ByteArray} {V:List VarD} {P:List (ProcD × Value)} {is ms ns qs:List ByteArray} (x:ByteArray) (p l:Bool) (gv:Option Bool) (ps:List (ByteArray × Bool)) (b:Tree) (v:Value) (w:World) (at_:Int) (hv:Lies (·<Bm) w (Kid.proc x p l gv ps b).tree v)
  (h:DI w D Bm Bd mp vv pv iv mo V P is ms ns qs at_) (h0:0≤at_) (hm:at_+cntT (Kid.proc x p l gv ps b).tree≤1000000) (hgood:(Kid.proc x p l gv ps b).good) (hns:ns.length≤20) (hP:P.length≤20) (hps:ps.length≤1000) :
  Calls Tryz.prog 69 #[.pointer (some ⟨D,0,none⟩),v] w (VR Bm w (procR ns x ps at_) fun w'=>∃ b0 pv' P' qs',DI w' D Bm Bd (some b0) vv pv' iv mo V P' is ms (ns++[x]) qs' (at_+cntT (Kid.proc x p l gv ps b).tree)∧P'.map (·.1)=P.map (·.1)++onP p (procD x p l gv ps)):=by
 have c24:=kc25
 obtain ⟨hx,hpsz,hInT⟩:=hgood
 have hv0:=hv
 rw [Kid.tree_is] at hv
 unfold Lies at hv
 obtain ⟨a,c,rfl,hl,hk⟩:=hv
 have hcT:cntT (Kid.proc x p l gv ps b).tree=1+cntL (Kid.proc x p l gv ps b).kids:=by rw [Kid.tree_is];unfold cntT;omega
 rw [hcT] at hm ⊢
 have hmm:=h.lm
 have hdd:=h.ld
 have hd:=h.dc.lt
 have hlv:∀ k,pv.ownBlock=some k→k<w.heap.size:=fun k e=>(h.fr.op.lt _ e).2
 have hA:=oAddProc x p l gv ps b _ (w.alloc (.cells #[.int .i64 (Kid.proc x p l gv ps b).kind,.string (Kid.proc x p l gv ps b).text,.int .i64 (Kid.proc x p l gv ps b).num,.slice a (Kid.proc x p l gv ps b).kids.length c] 25)) (Lies.alloc' hv0 (by omega) _) (h.below (bal _)) hx hns hP hps hInT w.heap.size (by simp) hd (fun e=>by have:=hlv _ e;omega)
 have hks:(Kid.proc x p l gv ps b).kids=ps.map parT++[b]:=rfl
 simp only [Kid.kind,Kid.text] at *
 have hcp:=cntL_pos (Kid.proc x p l gv ps b).kids
 generalize (Kid.proc x p l gv ps b).num=m at *
 generalize (Kid.proc x p l gv ps b).kids=ks at *
 have hkl:ks.length=ps.length+1:=by rw [hks];simp
 have Hks:Hid (ks=ps.map parT++[b]):=hks
 have Hkl:Hid (ks.length=ps.length+1):=hkl
 have hB0:Below Bm w (w.alloc (.cells #[.int .i64 4,.string x,.int .i64 m,.slice a ks.length c] 25)):=(Below.refl _ _).alloc (by omega) _
 clear hv0 h hks hkl
 go_enter Tryz.func69,Tryz.ntmps69
 go_wp2_with (fail)
 refine hA.mono ?_
 rintro e w1 ⟨hb1,(⟨hm1,rfl⟩|⟨hm1,hle,rfl⟩|⟨hm1,hlt,hr,rfl⟩|⟨hm1,hlt,hr,rfl,hkz,b0,pv',P',hI1,hPP⟩)⟩
 ·go_wp2
  exact ⟨rfl,hB0.trans hb1,.inl ⟨_,procR_a hm1,rfl⟩⟩
 ·go_wp2
  exact ⟨rfl,hB0.trans hb1,.inl ⟨_,procR_b hm1 hle,rfl⟩⟩
 ·go_wp2
  exact ⟨rfl,hB0.trans hb1,.inl ⟨_,procR_c hm1 hlt hr,rfl⟩⟩
 have q3:w1.cell? ⟨w.heap.size,3,none⟩=some (.slice a ks.length c):=(World.cell?_of_block (a:=⟨w.heap.size,3,none⟩) hkz.eq).trans (by simp)
 have HR:Hid (procR ns x ps at_=parD [] ps (at_+1)):=procR_d hm1 hlt hr
 have HPP:Hid (P'.map (·.1)=P.map (·.1)++onP p (procD x p l gv ps)):=hPP
 have m7:=hI1.dc.c7
 have mf:=hI1.dc.fz 7
 have hI2:=hI1.setAt (at_+1)
 have hB2:=(hB0.trans hb1).setCell (p:=⟨D,7,none⟩) (by show Bm≤D;omega) (.int .i64 (at_+1))
 clear hI1 hA hb1 hB0 hkz hPP
 obtain ⟨R,HRR⟩:∃ R,Hid (procR ns x ps at_=R):=⟨_,rfl⟩
 replace HR:Hid (R=parD [] ps (at_+1)):=HRR.out.symm.trans HR.out
 go_wp2
 clear m7 mf q3
 go_loopw [75] (fun t wr=>∃ j:Nat,j≤ks.length∧t=.int .i64 j∧DI wr D Bm Bd (some b0) vv pv' iv mo V P' is ms (ns++[x]) ((ps.take j).map (·.1)) (at_+1+cntL (ks.take j))∧Below Bm w wr∧Hid (R=parD ((ps.take j).map (·.1)) (ps.drop j) (at_+1+j))) (fun t _=>ks.length - (intOf t).toNat)
 case atStart=>exact ⟨0,Nat.zero_le _,rfl,by simpa [cntL] using hI2,hB2,by show _=_;rw [HR.out];simp⟩
 case round =>
  clear hI2 hB2 HR
  obtain ⟨j,hj,rfl,hI,hB,HR⟩:=hrel
  by_cases hlt:j<ks.length
  ·obtain ⟨g,o,rfl,hg,hat⟩:=hk (by intro e;rw [e] at hlt;simp at hlt)
   obtain ⟨kk,xx,mm,aa,na,ca,c0,c1,c2,c3,hx⟩:=kid_at hat hg hB hlt
   have hs1:=cntL_take ks j hlt
   have hs2:=cntL_take_le ks (j+1)
   have hs3:=cntT_pos ks[j]
   have hs4:=cntL_pos (ks.take j)
   have hsz:=hB.size
   have hgl:g<wr.heap.size:=by have:g<Bm:=hg;omega
   have hlk:=Hkl.out
   by_cases hp:j<ps.length
   ·have hkj:ks[j]=.node 5 ps[j].1 (bI ps[j].2) []:=by simp only [Hks.out];rw [List.getElem_append_left (by simpa using hp)];simp [parT]
    have hn1:cntL (ks.take j)=j:=by rw [Hks.out];exact kids_take ps b j (by omega)
    have hn2:cntL (ks.take (j+1))=j+1:=by rw [Hks.out,kids_take ps b (j+1) (by omega)];omega
    rw [hkj] at hx
    rw [hn1] at hI
    have hC:=vPar ps[j].1 _ _ (wr.alloc (.cells #[.int .i64 kk,.string xx,.int .i64 mm,.slice aa na ca] 25)) _ (Lies.alloc' hx (by omega) _) (hI.below (bal _)) (by omega) (by omega) (hpsz _ (List.getElem_mem hp)) (by simp;omega)
    have HS:=parD_step hp (at_+1+j) R HR.out
    have HT:Hid ((ps.take (j+1)).map (·.1)=(ps.take j).map (·.1)++[ps[j].1]):=by show _=_;rw [List.take_succ_eq_append_getElem hp,List.map_append];rfl
    have HN:Hid (cntL (ks.take (j+1))=j+1):=hn2
    clear hI hx hk hat hlk hn1 hn2 HR
    generalize ps[j].1=y at *
    generalize enterR ((ps.take j).map (·.1)) y 5 (at_+1+j)=E at *
    cases E with
    | some q =>
     have HE:Hid (R=some q):=HS
     clear HS
     go_wp2_with (fail)
     refine hC.mono ?_
     rintro e w2 ⟨hb2,(⟨q',e1,rfl⟩|⟨e1,_⟩)⟩
     ·cases e1
      go_wp2
      exact ⟨rfl,(hB.alloc (by omega) _).trans hb2,.inl ⟨q,HRR.out.trans HE.out,rfl⟩⟩
     ·cases e1
    | none =>
     have HE:Hid (R=parD ((ps.take (j+1)).map (·.1)) (ps.drop (j+1)) (at_+1+j+1)):=HS
     clear HS
     go_wp2_with (fail)
     refine hC.mono ?_
     rintro e w2 ⟨hb2,(⟨q',e1,_⟩|⟨_,rfl,hI2⟩)⟩
     ·cases e1
     go_wp2
     go_roundw
     case rel=>exact ⟨j+1,by omega,by go_num,by rw [HN.out,HT.out,show at_+1+((j:Int)+1)=at_+1+j+1 by omega];exact hI2,(hB.alloc (by omega) _).trans hb2,by show _=_;rw [HE.out];congr 1;omega⟩
     case measure=>simp [intOf];omega
   ·have hje:j=ps.length:=by omega
    have hkj:ks[j]=b:=by simp only [Hks.out];rw [List.getElem_append_right (by simp;omega)];simp
    rw [hkj] at hx hs1 hs3
    have hC:=vIn b _ (wr.alloc (.cells #[.int .i64 kk,.string xx,.int .i64 mm,.slice aa na ca] 25)) _ (Lies.alloc' hx (by omega) _) hInT (hI.below (bal _)) (by omega) (by omega)
    rw [show at_+1+cntL (ks.take j)+cntT b=at_+1+cntL (ks.take (j+1)) by omega,show ps.take j=ps.take (j+1) by rw [List.take_of_length_le (by omega),List.take_of_length_le (by omega)]] at hC
    have HE:Hid (R=parD ((ps.take (j+1)).map (·.1)) (ps.drop (j+1)) (at_+1+((j+1:Nat):Int))):=by
     show _=_
     rw [HR.out,List.drop_eq_nil_of_le (by omega),List.drop_eq_nil_of_le (by omega)]
     rfl
    clear hI hx hk hat hlk HR hje
    go_wp2_with (go_at_call 69;refine hC.mono ?_;rintro e w1 ⟨rfl,hb1,hI1⟩)
    go_roundw
    case rel=>exact ⟨j+1,by omega,by go_num,hI1,(hB.alloc (by omega) _).trans hb1,HE⟩
    case measure=>simp [intOf];omega
  ·have hlk:=Hkl.out
   have HE:Hid (R=none):=by
    show _=_
    rw [HR.out,List.drop_eq_nil_of_le (by omega)]
    rfl
   rw [List.take_of_length_le (l:=ks) (by omega)] at hI
   clear hlk
   go_wp2
   go_end0
   exact ⟨hB,.inr ⟨HRR.out.trans HE.out,rfl,b0,pv',P',_,by rw [show at_+(1+cntL ks)=at_+1+cntL ks by omega];exact hI,HPP.out⟩⟩
end face
end Go.Proofs.YtfopddgjdaoidaaGreatDoor
