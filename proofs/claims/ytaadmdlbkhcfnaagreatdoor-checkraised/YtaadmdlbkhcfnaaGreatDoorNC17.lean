/- Faces that come in as a slice: how it is opened. -/
import Derived.Test.YtaadmdlbkhcfnaaGreatDoorNC16
import Derived.Test.YtaadmdlbkhcfnaaGreatDoorNC10
set_option maxHeartbeats 4000000
set_option linter.unusedVariables false
set_option linter.unusedSimpArgs false
set_option maxRecDepth 100000
namespace Go.Proofs.YtaadmdlbkhcfnaaGreatDoor
namespace chk
open Go.RowKit Go.Shelf Go.Maps
open syn face
theorem ybk (K:List Kid) (j:Nat) (h:j<K.length):kA ((K.take (j+1)).map Kid.tree)=kA ((K.take j).map Kid.tree)+kB K[j].tree:=by
 rw [zhd K j h,List.map_append,cntL_app];rw [show [K[j]].map Kid.tree=[K[j].tree] from rfl,uX]
theorem zxh (K:List Kid) (j:Nat):kA ((K.take j).map Kid.tree)<=kA (K.map Kid.tree):=by
 have h:kA (K.map Kid.tree)=kA ((K.take j).map Kid.tree)+kA ((K.drop j).map Kid.tree):=by
  rw [<- cntL_app,<- List.map_append,List.take_append_drop]
 have:=kX ((K.drop j).map Kid.tree);omega
theorem zxt (x:ByteArray) (p l:Bool) (n:Option Int):kB (Kid.var x p l n).tree=1+(Kid.var x p l n).kids.length:=by
 rw [Kid.tree_is,xC]
 cases n with
 | none=>simp [Kid.kids,kA]
 | some k =>
  unfold Kid.kids;rw [uX,xC];simp [kA]
theorem zvy (x:ByteArray):kB (Kid.imp x).tree=1:=by
 unfold Kid.tree;rw [xC];simp [kA]
theorem zeg {w:World} {q:FV} (h:yZ w (fvV q) q.1):∃ m a1 n1 c1 a2 n2 c2,fvV q=.agg #[.string m,.slice a1 n1 c1,.slice a2 n2 c2]:=by
 obtain ⟨vv,pv,e,⟨a,c,e1,_⟩,⟨a2,c2,e2,_⟩⟩:=h;exact ⟨_,_,_,_,_,_,_,by rw [e,e1,e2]⟩
section
variable {w0:World} {D Gb Kb gn:Nat} {gf:ByteArray->Option FV}
theorem oModule (given:List FaceD) (hG:∀ z,(gf z).map (·.1)=given.find? (fun f=>eqS f.module z)) (hGi:∀ z q,gf z=some q->yZ w0 (fvV q) q.1) (hGok:∀ f∈given,dI f) (m:ByteArray) (K:List Kid) (a:Option Addr) (c:Nat) (w:World) (h:M0 w0 w D Gb Kb gn gf m a K.length c 0) (hKs:K≠[]->∃ g o,a=some ⟨g,o,none⟩/\g<w0.heap.size/\kY (·<w0.heap.size) w0 (K.map Kid.tree) g o) (hKl:K.length<=900) (hgood:∀ k∈K,k.good/\zgz k) (hps:∀ k∈K,k.kids.length<=1000) (hcnt:kA (K.map Kid.tree)<=900000) (hown:dI (zZ true m K)) : Calls Tryz.prog 21 #[.pointer (some ⟨D,0,none⟩)] w (MR w0 (moF (zZ true m K) given K [] 1)):=by
 have c24:=kc25;have c3:Tryz.prog.cellsOf 41=3:=gN;obtain ⟨R,HR⟩:∃ R,Hid (moF (zZ true m K) given K [] 1=R):=⟨_,rfl⟩
 rw [HR.out];have hd:=h.lt;have hBg:=znm D 0 w h.c7 (h.fz 7) (by omega) (by omega);go_enter Tryz.func21,Tryz.ntmps21;go_wp2_with (go_at_call 39;refine hBg.mono ?_;rintro e w1 ⟨rfl,hw1⟩;have h1:M0 w0 w1 D Gb Kb gn gf m a K.length c 1:=by { rw [hw1];exact h.setAt _ };clear hw1);have h1:=h1.below (Below.refl w1.heap.size w1).drew;have hS:(fun W=>W.cell? ⟨D,5,none⟩=some (.map (some Kb))) w1.drew:=h1.c5;refine wp_region_held_drew (S:=fun W=>W.cell? ⟨D,5,none⟩=some (.map (some Kb))) (by kernel_rfl) hS (fun hHeld=>?_);clear hHeld hBg;generalize w1.drew=W1 at *;refine tkH (i:=0) (v:=.pointer (some ⟨D,0,none⟩)) rfl (Or.inl ⟨by rfl,fun w hSw=>by have y0:w.cell? ⟨D,5,none⟩=some (.map (some Kb)):=hSw;go_simp⟩) hS ?_;simp only [Act.put,jA,jB,jC];refine tkH (i:=1) (v:=.pointer (some ⟨D,0,none⟩)) rfl (Or.inl ⟨by rfl,fun w hSw=>by have y0:w.cell? ⟨D,5,none⟩=some (.map (some Kb)):=hSw;go_simp⟩) hS ?_;simp only [Act.put,jA,jB,jC];refine tkH (i:=2) (v:=.pointer (some ⟨D,5,none⟩)) rfl (Or.inl ⟨by rfl,fun w hSw=>by have y0:w.cell? ⟨D,5,none⟩=some (.map (some Kb)):=hSw;go_simp⟩) hS ?_;simp only [Act.put,jA,jB,jC];refine tkH (i:=3) (v:=.map (some Kb)) rfl (Or.inl ⟨by rfl,fun w hSw=>by have y0:w.cell? ⟨D,5,none⟩=some (.map (some Kb)):=hSw;go_simp⟩) hS ?_;simp only [Act.put,jA,jB,jC];refine tkH (i:=4) (v:=.pointer (some ⟨D,0,none⟩)) rfl (Or.inl ⟨by rfl,fun w hSw=>by have y0:w.cell? ⟨D,5,none⟩=some (.map (some Kb)):=hSw;go_simp⟩) hS ?_;simp only [Act.put,jA,jB,jC];refine oneH 5 fun KK hK=>?_
 go_simp;go_at_call 40;have hKb:=h1.mp.lt;refine (zrw (fun b=>b=D\/b=Kb) w0 D m K a c W1 h1.bs h1.lt (fun b e=>by have:=h1.lt;rcases e with rfl | rfl<;>omega) h1.c1 h1.c3 hKs (by omega) (fun k hk=>(hgood k hk).1) hps).mono ?_;rintro e w2 ⟨vv,pv,V,P,rfl,hFR,hV,hP,hb2⟩;have h2:=h1.below hb2;have hVl:V.length<=1000:=by rw [hV];exact jp (zbi true _) (by omega)
 have hPl:P.length<=1000:=by
  have h1:(P.map (·.1)).length=(qH true K).length:=by rw [hP]
  rw [List.length_map] at h1;rw [h1];exact jp (zbb true _) (by omega)
 go_wp2;refine hK.out _ _ h2.c5 (fun hHeld=>?_);clear hK hHeld;obtain ⟨W2,hrun,hM2,hg2⟩:=h2.mp.store (by unfold maxLen;omega) empty (by decide) (fvV (zZ true m K,vv,pv));have hS2:w2.cell? ⟨D,5,none⟩=some (.map (some Kb)):=h2.c5;have hnDK:D≠Kb:=fun e=>h2.nk e.symm
 refine oneH 6 fun KK hK=>?_
 have hrun':(Instr.mapUpdate 37 (.map (some Kb)) (.string ⟨#[]⟩) (.agg #[.string m,vv,pv])).run Tryz.prog w2=.ok () W2:=hrun;go_simp;have hS3:W2.cell? ⟨D,5,none⟩=some (.map (some Kb)):=vY hg2 h2.c5 (by simp;omega);refine hK.out _ _ hS3 (fun hHeld=>?_);clear hK hHeld hrun hrun';refine wpAnyH_done (by kernel_rfl) ?_ _;have hI0:=h2.own (q:=(zZ true m K,vv,pv)) hM2 hg2 hFR hV.symm hP.symm hVl hPl;have hRel:=Rel.start (zZ true m K,vv,pv) gf;have hWK:∀ p v,(vH (vH W2 D) Kb).cell? p=some v->p.block≠Kb:=fun p v hc=>(zej hc).1
 have hW0:∀ p v,w0.cell? p=some v->(vH (vH W2 D) Kb).cell? p=some v:=fun p v hc=>by
  have hlt:=jR w0 p hc;have h9:=h2.hD;have h8:=h2.hK;exact ziy (by omega) (ziy (by omega) ((hI0.bs.cell (p:=p) hlt).trans hc))
 have hK0:=h2.hK;have mg:=h2.mg;have z3:W2.cell? ⟨D,3,none⟩=some (.slice a K.length c):=vY hg2 h2.c3 (by simp;omega);go_wp2;clear h h1 h2 hFR hV hP hb2 hM2 hg2 hS hS2 hS3 z3;generalize vH (vH W2 D) Kb=W0 at *;generalize W2.heap.size=M at *;go_loopw [19] (fun t wr=>∃ (j kn:Nat) (fs:List FaceD) (f:ByteArray->Option FV) (vs:List VarD) (u:Value),j<=K.length/\t=.int .i64 j/\kn<=j+1/\Hid (Rel (zZ true m K,vv,pv) gf fs f)/\Hid (∀ q∈fs,q∈given)/\CS w0 wr D Kb kn ⟨f,W0,M,.map (some Gb)⟩ vs u (1+kA ((K.take j).map Kid.tree))/\Hid (R=moF (zZ true m K) given (K.drop j) fs (1+kA ((K.take j).map Kid.tree)))) (fun t _=>K.length - (intOf t).toNat)
 case atStart=>exact ⟨0,1,[],_,_,_,jz _,rfl,by omega,hRel,(fun q hq=>by cases hq),by simpa [kA] using hI0,by show _=_;rw [<- HR.out];simp [kA]⟩
 case round =>
  clear hI0 hRel HR;obtain ⟨j,kn,fs,f,vs,u,hj,rfl,hkn,HRel,HFs,hI,HRR⟩:=hrel;by_cases hlt:j<K.length
  ·obtain ⟨g,o,rfl,hg,hat⟩:=hKs (by intro e;rw [e] at hlt;simp at hlt);obtain ⟨ka,kc,j0,j1,j2,j3,hl0⟩:=ze0 hg hat (Below.refl _ _) hlt;have k0:=(hI.bs.cell (p:=⟨g,o+j*4,none⟩) hg).trans j0;have k1:=(hI.bs.cell (p:=⟨g,o+j*4+1,none⟩) hg).trans j1;have k2:=(hI.bs.cell (p:=⟨g,o+j*4+2,none⟩) hg).trans j2;have k3:=(hI.bs.cell (p:=⟨g,o+j*4+3,none⟩) hg).trans j3;obtain ⟨hgk,hok⟩:=hgood _ (jH hlt);have hpk:=hps _ (jH hlt);have hcn:=ybk K j hlt;have hcl:=zxh K (j+1);have hc0:=kX ((K.take j).map Kid.tree);have hct:=kR K[j].tree;have HD:Hid (K.drop j=K[j] :: K.drop (j+1)):=List.drop_eq_getElem_cons hlt;have hD2:=hI.lt;have hEnv:cC ⟨zZ true m K,fs⟩:=⟨hown,fun q hq=>hGok q (HFs.out q hq)⟩
   have HT:Hid (∀ L,xD L->Tab ⟨zZ true m K,fs⟩ L f (kN L)):=fun L hL=>HRel.out.tab hEnv L hL
   clear hat hKs j0 j1 j2 j3 hgood hps hEnv;generalize hkj:K[j]=kid at *;clear hkj;have hata:(0:Int)<=1+kA ((K.take j).map Kid.tree):=by omega
   have hatb:1+kA ((K.take (j+1)).map Kid.tree)<=900001:=by omega
   obtain ⟨at2,Hat2⟩:∃ at2,Hid (1+kA ((K.take (j+1)).map Kid.tree)=at2):=⟨_,rfl⟩
   have Hcn:Hid (at2=1+kA ((K.take j).map Kid.tree)+kB kid.tree):=by show _=_;have:=Hat2.out;omega
   have hatc:at2<=900001:=by rw [<- Hat2.out];exact hatb
   clear hcn hcl hc0 hatb;generalize 1+kA ((K.take j).map Kid.tree)=at_ at *
   cases kid with
   | imp x =>
    have hxs:x.size<=16:=hgk
    have hxe:eqS x empty=false:=by
     cases he:eqS x empty with
     | false=>rfl
     | true =>
      have h9:kK x=true:=hok;rw [gH.1 he] at h9;exact absurd h9 (by decide)
    have hat2:=Hcn.out;rw [zvy] at hat2;subst hat2;simp only [Kid.kind,Kid.text,Kid.num] at k0 k1 k2;generalize (Kid.imp x).kids.length=kl at *
    have HM:Hid (R=match given.find? (fun f=>eqS f.module x) with
      | none=>some (4,at_)
      | some f=>moF (zZ true m K) given (K.drop (j+1)) (fs++[f]) (at_+1)):=HRR.out.trans (by rw [HD.out];simp only [moF];rfl)
    clear HRR HD hl0 hgk hok hpk HT Hcn hct;have hI2:=hI.alloc (.cells #[.int .i64 2,.string x,.int .i64 0,.slice ka kl kc] 25);have hQ:=kJ.new wr  #[.int .i64 2,.string x,.int .i64 0,.slice ka kl kc] 25;have hBg:=hI2.begin (by omega) (by omega);go_wp2_with (go_at_call 39;refine hBg.mono ?_;rintro e w3 ⟨rfl,hw3⟩;have hI3:CS w0 w3 D Kb kn ⟨f,W0,M,.map (some Gb)⟩ vs u (at_+1):=by { rw [hw3];exact hI2.setAt _ };have hQ3:kJ w3 wr.heap.size  #[.int .i64 2,.string x,.int .i64 0,.slice ka kl kc] 25:=by { rw [hw3];exact hQ.other (by omega) _ };clear hw3;have r0:=hQ3.cell 0 rfl;have r1:=hQ3.cell 1 rfl;have r2:=hQ3.cell 2 rfl;have r3:=hQ3.cell 3 rfl)
    have hImp:=zs9 D Gb Kb gn kn (fun z=>fvO (gf z)) (fun z=>fvO (f z)) x at_ w3 hI3.c4 hI3.c5 (mg.below hI3.bs) hI3.mp (by omega) (by omega) (fun e=>hI3.nk e.symm) (fun v hv=>by
     cases hq:gf x with
     | none=>rw [show fvO (gf x)=none by rw [hq];rfl] at hv;cases hv
     | some q =>
      rw [show fvO (gf x)=some (fvV q) by rw [hq];rfl] at hv;cases hv
      exact zeg (hGi x q hq))
    refine hImp.mono ?_;rintro e w4 (⟨hn,rfl,hb4⟩|⟨v,hs,rfl,hM4,hg4⟩)
    ·have HB:Hid (R=some (4,at_)):=by
      show _=_;rw [HM.out,<- hG x]
      cases hq:gf x with
      | none=>rfl
      | some q=>rw [show fvO (gf x)=some (fvV q) by rw [hq];rfl] at hn;cases hn
     clear HM;go_wp2;exact ⟨rfl,MR.mkBad HB.out (hI3.bs.trans (hb4.mono hI3.bs.size))⟩
    ·obtain ⟨q,hq⟩:∃ q,gf x=some q:=by
      cases hq:gf x with
      | none=>rw [show fvO (gf x)=none by rw [hq];rfl] at hs;cases hs
      | some q=>exact ⟨q,rfl⟩
     rw [show fvO (gf x)=some (fvV q) by rw [hq];rfl] at hs;cases hs;have hfind:given.find? (fun f=>eqS f.module x)=some q.1:=by rw [<- hG x,hq];rfl
     have hmq:eqS q.1.module x=true:=by simpa using List.find?_some hfind
     have HB:Hid (R=moF (zZ true m K) given (K.drop (j+1)) (fs++[q.1]) (at_+1)):=by
      show _=_;rw [HM.out,hfind]
     have hI4:=hI3.import (q:=q) (x:=x) hM4 hg4 (yZ.mono hW0 (hGi x q hq)) hWK hK0;have HR4:Hid _:=HRel.out.more hxe hq hmq
     have HF4:Hid (∀ p∈fs++[q.1],p∈given):=fun p hp=>by
      rcases List.mem_append.1 hp with h | h
      ·exact HFs.out p h
      ·simp only [jy] at h;rw [h];exact List.mem_of_find?_eq_some hfind
     clear HM hfind;go_wp2
     exact ⟨⟨j+1,kn+1,fs++[q.1],_,vs,u,by omega,by simp,by omega,HR4,HF4,by rw [Hat2.out];exact hI4,by show _=_;rw [Hat2.out];exact HB.out⟩,by simp [intOf];omega⟩
   | var x p l n =>
    have hat2:=Hcn.out;rw [zxt] at hat2;have HM:Hid (R=moF (zZ true m K) given (K.drop (j+1)) fs (at_+1+(Kid.var x p l n).kids.length)):=HRR.out.trans (by rw [HD.out];simp only [moF]);clear HRR HD hl0 hgk hok HT Hcn;simp only [Kid.kind,Kid.text,Kid.num] at k0 k1 k2;generalize 2*bI p+bI l=km at *;generalize (Kid.var x p l n).kids.length=kl at *;subst hat2;have hI2:=hI.alloc (.cells #[.int .i64 3,.string x,.int .i64 km,.slice ka kl kc] 25);have hQ:=kJ.new wr  #[.int .i64 3,.string x,.int .i64 km,.slice ka kl kc] 25;have hBg:=hI2.begin (by omega) (by omega);go_wp2_with (go_at_call 39;refine hBg.mono ?_;rintro e w3 ⟨rfl,hw3⟩;have hI3:CS w0 w3 D Kb kn ⟨f,W0,M,.map (some Gb)⟩ vs u (at_+1):=by { rw [hw3];exact hI2.setAt _ };have hQ3:kJ w3 wr.heap.size  #[.int .i64 3,.string x,.int .i64 km,.slice ka kl kc] 25:=by { rw [hw3];exact hQ.other (by omega) _ };clear hw3;have r0:=hQ3.cell 0 rfl;have r1:=hQ3.cell 1 rfl;have r2:=hQ3.cell 2 rfl;have r3:=hQ3.cell 3 rfl);have m7:=hI3.c7;have mf7:=hI3.fz 7;have hkl2:(kl:Int)<=1000:=by omega
    go_region
    all_goals
     go_wp2
     exact ⟨⟨j+1,kn,fs,f,vs,u,by omega,by simp,by omega,HRel,HFs,by rw [Hat2.out,show at_+(1+(kl:Int))=at_+1+kl by omega];exact (hI3.setAt _).drew,by show _=_;rw [Hat2.out,show at_+(1+(kl:Int))=at_+1+kl by omega];exact HM.out⟩,by simp [intOf];omega⟩
   | proc x p l gv ps b =>
    obtain ⟨hp20,hInT,hBl⟩:=hok
    obtain ⟨ss,rfl,hst⟩:∃ ss,b=.node 6 empty 0 ss/\∀ t∈ss,StT t:=by
     cases hBl with
     | mk h=>exact ⟨_,rfl,h⟩
    have hat2:=Hcn.out
    have HM:Hid (R=match prF ⟨zZ true m K,fs⟩ (zH x p l gv ps) ps (.node 6 empty 0 ss) (uJ (.node 6 empty 0 ss)) at_ with
      | .bad c d=>some (c,d)
      | .ok d=>moF (zZ true m K) given (K.drop (j+1)) fs d):=HRR.out.trans (by rw [HD.out];simp only [moF];rfl)
    have HX:Hid (∀ d,prF ⟨zZ true m K,fs⟩ (zH x p l gv ps) ps (.node 6 empty 0 ss) (uJ (.node 6 empty 0 ss)) at_=.ok d->d=at2):=fun d hd=>by
     have:=zyj hst hd;rw [zld] at hat2;omega
    have hPr:=fun W (hI:CS w0 W D Kb kn ⟨f,W0,M,.map (some Gb)⟩ vs u (at_+1))=>oProc (kf:=⟨f,W0,M,.map (some Gb)⟩) x p l gv ps ss HT.out hst hp20 hInT _ W at_ vs u hl0 hI (by omega) (by omega)
    have hle9:at_<=900001:=by omega
    clear HRR HD hl0 hgk HT Hcn hat2;simp only [Kid.kind,Kid.text,Kid.num] at k0 k1 k2 hPr;generalize prF ⟨zZ true m K,fs⟩ (zH x p l gv ps) ps (.node 6 empty 0 ss) (uJ (.node 6 empty 0 ss)) at_=X at *;generalize 2*bI p+bI l+gI gv=km at *;generalize (Kid.proc x p l gv ps (.node 6 empty 0 ss)).kids.length=kl at *;have hI2:=hI.alloc (.cells #[.int .i64 4,.string x,.int .i64 km,.slice ka kl kc] 25);have hQ:=kJ.new wr  #[.int .i64 4,.string x,.int .i64 km,.slice ka kl kc] 25;have hBg:=hI2.begin (by omega) (by omega);go_wp2_with (go_at_call 39;refine hBg.mono ?_;rintro e w3 ⟨rfl,hw3⟩;have hI3:CS w0 w3 D Kb kn ⟨f,W0,M,.map (some Gb)⟩ vs u (at_+1):=by { rw [hw3];exact hI2.setAt _ };have hQ3:kJ w3 wr.heap.size  #[.int .i64 4,.string x,.int .i64 km,.slice ka kl kc] 25:=by { rw [hw3];exact hQ.other (by omega) _ };clear hw3;have r0:=hQ3.cell 0 rfl;have r1:=hQ3.cell 1 rfl;have r2:=hQ3.cell 2 rfl;have r3:=hQ3.cell 3 rfl);refine (hPr _ hI3).mono ?_
    cases X with
    | bad cc bb =>
     have HB:Hid (R=some (cc,bb)):=HM.out;clear HM hPr;rintro e w4 ⟨rfl,hb4⟩;go_wp2
     exact ⟨rfl,MR.mkBad HB.out hb4⟩
    | ok d =>
     obtain rfl:=HX.out d rfl;have HB:Hid (R=moF (zZ true m K) given (K.drop (j+1)) fs d):=HM.out;clear HM hPr HX;rintro e w4 ⟨rfl,vs4,u4,hI4⟩;go_wp2;exact ⟨⟨j+1,kn,fs,f,vs4,u4,by omega,by simp,by omega,HRel,HFs,by rw [Hat2.out];exact hI4,by show _=_;rw [Hat2.out];exact HB.out⟩,by simp [intOf];omega⟩
  ·obtain rfl:j=K.length:=by omega
   have HX:Hid (R=none):=by
    show _=_;rw [HRR.out,List.drop_eq_nil_of_le (by omega)];rfl
   clear HRR hKs;go_wp2
   go_end0
   exact MR.mkOk HX.out hI.bs
end
section
variable {w w':World}
theorem zpj (p:Addr) (w:World) : CallsD Tryz.prog 20 #[.pointer (some p)] .returning w fun e u' w'=>e=.returned (.tuple #[])/\u'=.returning/\w'=w:=by
 have hnn:∀ w:World,(binOp BinOp.eql 20 .nilIface .nilIface).run Tryz.prog w=.ok (.bool true) w:=fun _=>by kernel_rfl
 refine callsD_of_wpS Tryz.func20 rfl fun c₀ cs hu=>?_
 refine zcf (by simp [recoverD,hu]) ?_;simp only [Tryz.ntmps20,List.size_toArray,jd,je,Nat.reduceAdd,Nat.reduceSub,Array.replicate_succ,Array.replicate_zero,List.push_toArray,List.append_toArray,js,jK,Act.put,List.setIfInBounds_toArray,List.set_cons_succ,List.set_cons_zero];refine wpS_of_wp (wp_mono (Q:=fun e a w'=>e=.normal/\a.defers=[]/\w'=w) ?_ ?_);·go_wp2
 ·rintro e a w' ⟨rfl,h1,rfl⟩;exact ⟨h1,_,rfl,.tuple #[],by simp [results,Tryz.results20],rfl,hu,rfl⟩
theorem zyu (fb:Nat) (c a:Int) (w:World) (h0:w.cell? ⟨fb,0,none⟩=some (.int .i64 0)) (h1:w.cell? ⟨fb,1,none⟩=some (.int .i64 0)) (f0:w.frozen? ⟨fb,0,none⟩=false) (f1:w.frozen? ⟨fb,1,none⟩=false) (hfb:fb<w.heap.size) : CallsD Tryz.prog 20 #[.pointer (some ⟨fb,0,none⟩)] (.panicking (qS c a)) w fun e u' w'=>e=.returned (.tuple #[])/\u'=.panicking [{ v:=.iface 28 (.agg #[.int .i64 c,.int .i64 a]),recovered:=true }]/\w'.cell? ⟨fb,0,none⟩=some (.int .i64 c)/\w'.cell? ⟨fb,1,none⟩=some (.int .i64 a)/\Fr fb w w':=by
 have c27:=kc28;have hnn:∀ w:World,(binOp BinOp.eql 20 (.iface 28 (.agg #[.int .i64 c,.int .i64 a])) .nilIface).run Tryz.prog w=.ok (.bool false) w:=fun _=>by kernel_rfl
 have hta:∀ w:World,(Instr.typeAssert (.iface 28 (.agg #[.int .i64 c,.int .i64 a])) 20 28 true).run Tryz.prog w=.ok (.tuple #[.agg #[.int .i64 c,.int .i64 a],.bool true]) w:=fun _=>by kernel_rfl
 unfold qS;refine callsD_of_wpS Tryz.func20 rfl fun c₀ cs hu=>?_
 refine za8 (v:=.iface 28 (.agg #[.int .i64 c,.int .i64 a])) (cs':={ c₀ with mode:=.panicking [{ v:=.iface 28 (.agg #[.int .i64 c,.int .i64 a]),recovered:=true }] } :: cs) (by simp [recoverD,hu]) ?_;simp only [Tryz.ntmps20,List.size_toArray,jd,je,Nat.reduceAdd,Nat.reduceSub,Array.replicate_succ,Array.replicate_zero,List.push_toArray,List.append_toArray,js,jK,Act.put,List.setIfInBounds_toArray,List.set_cons_succ,List.set_cons_zero];refine wpS_of_wp (wp_mono (Q:=fun e q w'=>e=.normal/\q.defers=[]/\w'.cell? ⟨fb,0,none⟩=some (.int .i64 c)/\w'.cell? ⟨fb,1,none⟩=some (.int .i64 a)/\Fr fb w w') ?_ ?_);·go_wp2;exact (((Fr.refl _ _).set _ _).set _ _).alloc _
 ·rintro e q w' ⟨rfl,h1,h2,h3,h4⟩;exact ⟨h1,_,rfl,.tuple #[],by simp [results,Tryz.results20],rfl,rfl,h2,h3,h4⟩
def GO (w:World) (r:Option (Int × Int)) (e:Ending) (w':World):Prop:=e=.returned (.agg #[.int .i64 (r.getD (0,0)).1,.int .i64 (r.getD (0,0)).2])/\Below w.heap.size w w'
theorem zw5 {Gb gn:Nat} {gf:ByteArray->Option FV} (given:List FaceD) (m:ByteArray) (K:List Kid) (v:Value) (w:World) (hG:∀ z,(gf z).map (·.1)=given.find? (fun f=>eqS f.module z)) (hGi:∀ z q,gf z=some q->yZ w (fvV q) q.1) (hGok:∀ f∈given,dI f) (mg:qM w Gb gn (fun z=>fvO (gf z))) (hmx:vO w) (hv:kC (·<w.heap.size) w (.node 1 m 0 (K.map Kid.tree)) v) (hKl:K.length<=900) (hgood:∀ k∈K,k.good/\zgz k) (hps:∀ k∈K,k.kids.length<=1000) (hcnt:kA (K.map Kid.tree)<=900000) (hown:dI (zZ true m K)) : Calls Tryz.prog 10 #[v,.map (some Gb)] w (GO w (moF (zZ true m K) given K [] 1)):=by
 have c24:=kc25;have c27:=kc28;have c8:=kc70;have hmm0:=@run_makeMap Tryz.prog;have hmf:∀ (fn:Fn) (first cap:Array Value) (w:World),(Instr.makeFunc fn first cap).run Tryz.prog w=.ok (.func fn first cap) w:=fun _ _ _ _=>rfl
 unfold kC at hv;obtain ⟨a,c,rfl,_,hk⟩:=hv;rw [List.length_map] at *;have hKs:K≠[]->∃ g o,a=some ⟨g,o,none⟩/\g<w.heap.size/\kY (·<w.heap.size) w (K.map Kid.tree) g o:=fun hne=>hk (by simpa using hne)
 clear hk;obtain ⟨w4,hw4⟩:∃ w4,w4=((((w.alloc (.cells #[.int .i64 1,.string m,.int .i64 0,.slice a K.length c] 25)).alloc (.cells #[.int .i64 0,.int .i64 0] 28)).alloc (.map #[] 0)).alloc (.cells #[.int .i64 1,.string m,.int .i64 0,.slice a K.length c,.map (some Gb),.map (some (w.heap.size+1+1)),.slice none 0 0,.int .i64 0] 70)):=⟨_,rfl⟩
 have hs3:(((w.alloc (.cells #[.int .i64 1,.string m,.int .i64 0,.slice a K.length c] 25)).alloc (.cells #[.int .i64 0,.int .i64 0] 28)).alloc (.map #[] 0)).heap.size=w.heap.size+1+1+1:=by simp
 have hb4:Below w.heap.size w w4:=by rw [hw4];exact (((bal _).alloc (by simp) _).alloc (by simp;omega) _).alloc (by simp;omega) _
 have hbox:kJ w4 (w.heap.size+1+1+1) #[.int .i64 1,.string m,.int .i64 0,.slice a K.length c,.map (some Gb),.map (some (w.heap.size+1+1)),.slice none 0 0,.int .i64 0] 70:=by
  have:=kJ.new (((w.alloc (.cells #[.int .i64 1,.string m,.int .i64 0,.slice a K.length c] 25)).alloc (.cells #[.int .i64 0,.int .i64 0] 28)).alloc (.map #[] 0)) #[.int .i64 1,.string m,.int .i64 0,.slice a K.length c,.map (some Gb),.map (some (w.heap.size+1+1)),.slice none 0 0,.int .i64 0] 70;rw [hs3] at this;rw [hw4];exact this
 have bG:Box2 w4 (w.heap.size+1) (.int .i64 0) (.int .i64 0):=by
  have:=Box2.new (w.alloc (.cells #[.int .i64 1,.string m,.int .i64 0,.slice a K.length c] 25)) (.int .i64 0) (.int .i64 0) 28;rw [jO] at this;rw [hw4];have hb:=((Below.refl ((w.alloc (.cells #[.int .i64 1,.string m,.int .i64 0,.slice a K.length c] 25)).alloc (.cells #[.int .i64 0,.int .i64 0] 28)).heap.size ((w.alloc (.cells #[.int .i64 1,.string m,.int .i64 0,.slice a K.length c] 25)).alloc (.cells #[.int .i64 0,.int .i64 0] 28))).alloc (jE _) (.map #[] 0)).alloc (by simp) (.cells #[.int .i64 1,.string m,.int .i64 0,.slice a K.length c,.map (some Gb),.map (some (w.heap.size+1+1)),.slice none 0 0,.int .i64 0] 70);exact this.below hb
 have hmp:qM w4 (w.heap.size+1+1) 0 (fun _=>none):=by
  have:=qM.made ((w.alloc (.cells #[.int .i64 1,.string m,.int .i64 0,.slice a K.length c] 25)).alloc (.cells #[.int .i64 0,.int .i64 0] 28));rw [jO,jO] at this;rw [hw4];exact this.below (bal _)
 obtain ⟨w2,hw2⟩:∃ w2,w2=((w.alloc (.cells #[.int .i64 1,.string m,.int .i64 0,.slice a K.length c] 25)).alloc (.cells #[.int .i64 0,.int .i64 0] 28)):=⟨_,rfl⟩
 have hs2:w2.heap.size=w.heap.size+1+1:=by rw [hw2];simp
 have hb2:Below w.heap.size w w2:=by rw [hw2];exact (bal _).alloc (by simp) _
 have hb24:Below w2.heap.size w2 w4:=by rw [hw4,hw2];exact (bal _).alloc (by simp) _
 have h0:M0 w2 w4 (w.heap.size+1+1+1) Gb (w.heap.size+1+1) gn gf m a K.length c 0 :=
  ⟨hb24,by omega,hbox.cell 1 rfl,hbox.cell 3 rfl,hbox.cell 4 rfl,hbox.cell 5 rfl,hbox.cell 6 rfl,hbox.cell 7 rfl,fun k=>hbox.fz k,hmp,by omega,by omega,cH hmx hb2,mg.below hb2⟩
 have hM:=oModule given hG (fun z q hq=>(hGi z q hq).below hb2) hGok m K a c w4 h0 (fun hne=>by
  obtain ⟨g,o,e,hg,hat⟩:=hKs hne
  exact ⟨g,o,e,by omega,kY.below hg hat hb2⟩) hKl hgood hps hcnt hown
 clear h0 hmp hbox hKs hG hGi hGok
 have bG2:Box2 w2 (w.heap.size+1) (.int .i64 0) (.int .i64 0):=by
  have:=Box2.new (w.alloc (.cells #[.int .i64 1,.string m,.int .i64 0,.slice a K.length c] 25)) (.int .i64 0) (.int .i64 0) 28;rw [jO] at this;rw [hw2];exact this
 clear hw2 hb4 bG;generalize moF (zZ true m K) given K [] 1=R at *;go_enter_defers Tryz.func10,Tryz.ntmps10;go_wp2_with (fail);rw [<- hw4];refine hM.mono ?_;clear hw4 hM hb24;rintro e w5 ⟨hb5,hq⟩;have bG5:=bG2.below hb5;have hz:=bG5.lt;have HK:Hid (Below w.heap.size w w5):=hb2.trans (hb5.mono hb2.size)
 cases R with
 | some q =>
  obtain rfl:e=.panicked (qS q.1 q.2):=hq;have key:=zyu (w.heap.size+1) q.1 q.2 w5 bG5.c0 bG5.c1 bG5.f0 bG5.f1 hz;clear hb5;go_wp2;refine leaves_cons (f:=20) (args:=#[.pointer (some ⟨w.heap.size+1,0,none⟩)]) (by simp) (by simp [go_sem]) ?_;refine key.mono ?_;rintro e u' w6 ⟨rfl,rfl,c0,c1,hF6⟩;have HK6:Below w.heap.size w w6:=⟨hF6.os.trans HK.out.os,hF6.tape.trans HK.out.tape,hF6.output.trans HK.out.output,jp HK.out.size hF6.size,fun j hj=>(hF6.block j (by have:=HK.out.size;omega) (by simp;omega)).trans (HK.out.block j hj)⟩
  refine ⟨.agg #[.int .i64 q.1,.int .i64 q.2],?_,?_⟩;·simp [results,Tryz.results10,go_sem,c0,c1]
  ·exact ⟨rfl,HK6⟩
 | none =>
  obtain rfl:e=.returned (.tuple #[]):=hq;obtain ⟨s0,s1,s2,s3⟩:=id bG5;have HK6:Hid (Below w.heap.size w ((w5.setCell ⟨w.heap.size+1,0,none⟩ (.int .i64 0)).setCell ⟨w.heap.size+1,1,none⟩ (.int .i64 0))):=(HK.out.setCell (Nat.le_succ _) _).setCell (Nat.le_succ _) _;clear hb5;go_wp2;refine leaves_cons (f:=20) (args:=#[.pointer (some ⟨w.heap.size+1,0,none⟩)]) (by simp) (by simp [go_sem]) ?_;refine (zpj _ _).mono ?_;rintro e u' w6 ⟨rfl,rfl,hw6⟩;subst hw6;refine ⟨.agg #[.int .i64 0,.int .i64 0],?_,?_⟩;·simp [results,Tryz.results10,go_sem,s0,s1]
  ·exact ⟨rfl,HK6.out⟩
end
def vV (l:List FV) (z:ByteArray):Option FV:=l.find? fun q=>eqS q.1.module z
theorem zuu (l:List FV) (z:ByteArray):(vV l z).map (·.1)=(l.map (·.1)).find? (fun f=>eqS f.module z):=by
 unfold vV;rw [List.find?_map];rfl
theorem zsw (l:List FV) (q:FV) (h:(l.map (·.1)).any (fun p=>eqS p.module q.1.module)=false):(fun z=>if eqS z q.1.module then some (fvV q) else fvO (vV l z))=fun z=>fvO (vV (l++[q]) z):=by
 funext z
 unfold vV;rw [List.find?_append]
 cases he:eqS z q.1.module with
 | true =>
  obtain rfl:=gH.1 he
  have hn:l.find? (fun p=>eqS p.1.module q.1.module)=none:=by
   rw [List.find?_eq_none];intro p hp;rw [List.any_eq_false] at h;exact h p.1 (List.mem_map.2 ⟨p,hp,rfl⟩)
  rw [hn,jv rfl]
  simp [List.find?,gH.2 rfl,fvO]
 | false =>
  have hn:eqS q.1.module z=false:=by
   cases h3:eqS q.1.module z with
   | false=>rfl
   | true=>rw [gH.1 h3,gH.2 rfl] at he;cases he
  rw [ju (by decide)]
  congr 1
  simp [List.find?,hn]
theorem zru (l:List FV) (z:ByteArray):(vV l z).isSome=(l.map (·.1)).any (fun p=>eqS p.module z):=by
 unfold vV;rw [List.any_map,List.isSome_find?];rfl
def FacesIn (w:World) (v:Value) (qs:List FV):Prop:=∃ a c,v=.slice a qs.length c/\qs.length<=2199023255552/\(qs≠[]->∃ g o,a=some ⟨g,o,none⟩/\∀ i (h:i<qs.length),w.cell? ⟨g,o+i*3,none⟩=some (.string qs[i].1.module)/\w.cell? ⟨g,o+i*3+1,none⟩=some qs[i].2.1/\w.cell? ⟨g,o+i*3+2,none⟩=some qs[i].2.2/\yZ w (fvV qs[i]) qs[i].1/\qs[i].1.module.size<=maxLen)
theorem zv9 {f:FaceD} (h:cF f=true):dI f:=by
 unfold cF at h;simp only [jj] at h;obtain ⟨_,_,hv,hp,_⟩:=h;refine ⟨fun v hm=>?_,fun p hm=>?_⟩;·have:=List.all_eq_true.1 hv v hm;unfold gP xH at this;simp only [jj,Bool.or_eq_true,beq_iff_eq,jl] at this;exact ⟨this.2.2.1,this.2.2.2.1⟩
 ·have:=List.all_eq_true.1 hp p hm;unfold gJ xH at this;simp only [jj,Bool.or_eq_true,beq_iff_eq,jl,List.all_eq_true] at this;obtain ⟨_,_,_,h1,h2,h3,_⟩:=this;exact ⟨fun l hl=>h1 l hl,h2,h3⟩
theorem zkl:∀ (fs seen:List FaceD),gE seen fs=false->∀ f∈fs,cF f=true
 | [],_,_,f,hf=>by cases hf
 | a :: r,seen,h,f,hf=>by
  unfold gE at h;simp only [Bool.or_eq_false_iff,Bool.not_eq_false'] at h;rcases List.mem_cons.1 hf with rfl | hf
  ·exact h.1.2
  ·exact zkl r _ h.2 f hf
theorem zsd (fs:List FaceD) (j:Nat) (hj:j<fs.length):gE (fs.take j) (fs.drop j)=(((fs.take j).any (fun q=>eqS q.module fs[j].module)||!cF fs[j])||gE (fs.take (j+1)) (fs.drop (j+1))):=by
 rw [List.drop_eq_getElem_cons hj,List.take_succ_eq_append_getElem hj];rfl
theorem rangeF_ok {n:Option Int} {a:Int} (h:gQ n a=none):0<=n.getD 0:=by
 cases n with
 | none=>simp
 | some k =>
  simp only [gQ] at h;split at h;·cases h
  ·simp only [Option.getD_some];omega
theorem zbd (m:ByteArray):∀ (K:List Kid) (is ns:List ByteArray) (a:Int),lookK m K is ns a=none->∀ k∈K,match k with
  | .imp _=>True
  | .var _ _ _ n=>0<=n.getD 0
  | .proc _ _ _ _ ps _=>ps.length<=5
 | [],_,_,_,_,k,hk=>by cases hk
 | .imp x :: r,is,ns,a,h,k,hk=>by
  unfold lookK at h;split at h;·cases h
  ·split at h;·cases h
   ·rcases List.mem_cons.1 hk with rfl | hk
    ·trivial
    ·exact zbd m r _ _ _ h k hk
 | .var x p l n :: r,is,ns,a,h,k,hk=>by
  unfold lookK at h;split at h;·cases h
  ·split at h;·cases h
   ·split at h;·cases h
    ·rename_i hr;rcases List.mem_cons.1 hk with rfl | hk
     ·exact rangeF_ok hr
     ·exact zbd m r _ _ _ h k hk
 | .proc x p l g ps b :: r,is,ns,a,h,k,hk=>by
  unfold lookK at h;split at h;·cases h
  ·split at h;·cases h
   ·split at h;·cases h
    ·rename_i h5;split at h;·cases h
     ·rcases List.mem_cons.1 hk with rfl | hk
      ·show ps.length<=5;omega
      ·exact zbd m r _ _ _ h k hk
theorem zi6:∀ (ps:List (ByteArray × Bool)) (seen:List ByteArray) (a:Int) (q:Int × Int),bK seen ps a=some q->q.1=5
 | [],_,_,_,h=>by cases h
 | x :: r,seen,a,q,h=>by
  unfold bK at h;split at h;·cases h;rfl
  ·exact zi6 r _ _ q h
theorem zbf (m:ByteArray):∀ (K:List Kid) (is ns:List ByteArray) (a:Int) (q:Int × Int),lookK m K is ns a=some q->q.1=5\/q.1=1\/q.1=6
 | [],_,_,_,_,h=>by cases h
 | .imp x :: r,is,ns,a,q,h=>by
  unfold lookK at h;split at h;·cases h;exact .inl rfl
  ·split at h;·cases h;exact .inr (.inl rfl)
   ·exact zbf m r _ _ _ q h
 | .var x p l n :: r,is,ns,a,q,h=>by
  unfold lookK at h;split at h;·cases h;exact .inl rfl
  ·split at h;·cases h;exact .inr (.inl rfl)
   ·split at h
    ·rename_i e he;cases h
     cases n with
     | none=>cases he
     | some k =>
      simp only [gQ] at he;split at he;·cases he;exact .inr (.inr rfl)
      ·cases he
    ·exact zbf m r _ _ _ q h
 | .proc x p l g ps b :: r,is,ns,a,q,h=>by
  unfold lookK at h;split at h;·cases h;exact .inl rfl
  ·split at h;·cases h;exact .inr (.inl rfl)
   ·split at h;·cases h;exact .inr (.inl rfl)
    ·split at h;·rename_i e he;cases h;exact .inl (zi6 _ _ _ _ he)
     ·exact zbf m r _ _ _ q h
theorem zcy (all:Bool):∀ (K:List Kid) (v:VarD),v∈qE all K->∃ x p l n,Kid.var x p l n∈K/\v=vD x p l n
 | [],v,h=>by cases h
 | .imp x :: r,v,h=>by
  obtain ⟨a,b,c,d,h1,h2⟩:=zcy all r v h
  exact ⟨a,b,c,d,jF _ h1,h2⟩
 | .proc x p l g ps b :: r,v,h=>by
  obtain ⟨a,b,c,d,h1,h2⟩:=zcy all r v h
  exact ⟨a,b,c,d,jF _ h1,h2⟩
 | .var x p l n :: r,v,h=>by
  have:v=vD x p l n\/v∈qE all r:=by
   unfold qE at h;split at h;·exact List.mem_cons.1 h
   ·exact .inr h
  rcases this with rfl | h
  ·exact ⟨x,p,l,n,jJ ..,rfl⟩
  ·obtain ⟨a,b,c,d,h1,h2⟩:=zcy all r v h;exact ⟨a,b,c,d,jF _ h1,h2⟩
theorem zcm (all:Bool):∀ (K:List Kid) (q:ProcD),q∈qH all K->∃ x p l g ps,q=zH x p l g ps
 | [],v,h=>by cases h
 | .imp x :: r,v,h=>zcm all r v h
 | .var x p l n :: r,v,h=>zcm all r v h
 | .proc x p l g ps b :: r,v,h=>by
  have:v=zH x p l g ps\/v∈qH all r:=by
   unfold qH at h;split at h;·exact List.mem_cons.1 h
   ·exact .inr h
  rcases this with rfl | h
  ·exact ⟨x,p,l,g,ps,rfl⟩
  ·exact zcm all r v h
theorem zz3 {m:ByteArray} {K:List Kid} (h:lookK m K [] [] 1=none):dI (zZ true m K):=by
 refine ⟨fun v hv=>?_,fun q hq=>?_⟩;·obtain ⟨x,p,l,n,h1,rfl⟩:=zcy true K v hv;have:=zbd m K _ _ _ h _ h1;exact ⟨fG _,this⟩
 ·obtain ⟨x,p,l,g,ps,rfl⟩:=zcm true K q hq;exact zj6 x p l g ps
theorem zxr {m:ByteArray} {K:List Kid} (h:lookK m K [] [] 1=none) (hK:∀ k∈K,k.good/\k.named/\xI k):∀ k∈K,k.good/\zgz k:=by
 intro k hk;obtain ⟨h1,h2,h3⟩:=hK k hk;have h4:=zbd m K _ _ _ h k hk;refine ⟨h1,?_⟩
 cases k with
 | imp x=>exact h2
 | var x p l n=>exact h4
 | proc x p l g ps b=>exact ⟨by have h5:ps.length<=5:=h4;omega,h1.2.2,h3⟩
end chk
namespace chk
open Go.RowKit Go.Shelf Go.Maps
open syn face
open lexs (qP)
def zdr (w:World):Prop:=cX w/\vO w
theorem zcg {w w':World} (h:zdr w) (hb:Below w.heap.size w w'):zdr w':=⟨zd6 h.1 hb,cH h.2 hb⟩
def zfw:Value:=.agg #[.int .i64 0,.string ⟨#[]⟩,.int .i64 0,.slice none 0 0]
def cB (w:World) (x:ByteArray) (r:Int × Int) (e:Ending) (w':World):Prop :=
 ∃ v,e=.returned (.tuple #[v,.agg #[.int .i64 r.1,.int .i64 r.2]])/\(r.1=0->kC (fun b=>w.heap.size<=b/\b<w'.heap.size) w' (kM x).tree v)/\(r.1≠0->v=zfw)/\Below w.heap.size w w'
theorem zak {W:World} {n0 n1 n2 n3 f0 f1 a0 a1 a2 a3:Value} (tl:List Value) (B C:Nat) (h:kJ W B #[n0,n1,n2,n3] 25) (hf:kJ W C #[f0,f1] 28):(results Tryz.f4 (List.toArray (a0 :: a1 :: a2 :: a3 :: .pointer (some ⟨B,0,none⟩) :: .pointer (some ⟨C,0,none⟩) :: tl))).run Tryz.prog W=.ok (.tuple #[.agg #[n0,n1,n2,n3],.agg #[f0,f1]]) W:=by
 have c24:=kc25;have c27:=kc28;have z0:=h.cell 0 rfl;have z1:=h.cell 1 rfl;have z2:=h.cell 2 rfl;have z3:=h.cell 3 rfl;have y0:=hf.cell 0 rfl;have y1:=hf.cell 1 rfl;simp [results,Tryz.f4,go_sem,z0,z1,z2,z3,y0,y1]
section
variable {w W:World} {N:Nat}
structure RB (w W:World) (N:Nat):Prop where
 n:kJ W N #[.int .i64 0,.string ⟨#[]⟩,.int .i64 0,.slice none 0 0] 25
 f:kJ W (N+1) #[.int .i64 0,.int .i64 0] 28
 b:Below w.heap.size w W
 hN:w.heap.size=N
theorem RB.below (h:RB w W N) {W':World} (hb:Below W.heap.size W W'):RB w W' N:=⟨h.n.below hb,h.f.below hb,h.b.trans (hb.mono h.b.size),h.hN⟩
theorem RB.alloc (h:RB w W N) (o:Obj):RB w (W.alloc o) N:=h.below (bal o)
theorem RB.grown (h:RB w W N) {W':World} {b:Nat} (hg:W.grownBy W' (some b)) (hb:N+1<b):RB w W' N:=⟨h.n.grown hg (by simp;omega),h.f.grown hg (by simp;omega),h.b.grown hg h.b.size (fun k e=>by injection e with e;have:=h.hN;omega),h.hN⟩
theorem RB.cells (h:RB w W N):W.cell? ⟨N,0,none⟩=some (.int .i64 0)/\W.cell? ⟨N,1,none⟩=some (.string ⟨#[]⟩)/\W.cell? ⟨N,2,none⟩=some (.int .i64 0)/\W.cell? ⟨N,3,none⟩=some (.slice none 0 0)/\W.cell? ⟨N+1,0,none⟩=some (.int .i64 0)/\W.cell? ⟨N+1,1,none⟩=some (.int .i64 0)/\(∀ k,W.frozen? ⟨N,k,none⟩=false)/\∀ k,W.frozen? ⟨N+1,k,none⟩=false :=
 ⟨h.n.cell 0 rfl,h.n.cell 1 rfl,h.n.cell 2 rfl,h.n.cell 3 rfl,h.f.cell 0 rfl,h.f.cell 1 rfl,h.n.fz,h.f.fz⟩
theorem RB.done (h:RB w W N) (n0 n1 n2 n3 f0 f1:Value):kJ ((((((W.setCell ⟨N,0,none⟩ n0).setCell ⟨N,1,none⟩ n1).setCell ⟨N,2,none⟩ n2).setCell ⟨N,3,none⟩ n3).setCell ⟨N+1,0,none⟩ f0).setCell ⟨N+1,1,none⟩ f1) N #[n0,n1,n2,n3] 25/\kJ ((((((W.setCell ⟨N,0,none⟩ n0).setCell ⟨N,1,none⟩ n1).setCell ⟨N,2,none⟩ n2).setCell ⟨N,3,none⟩ n3).setCell ⟨N+1,0,none⟩ f0).setCell ⟨N+1,1,none⟩ f1) (N+1) #[f0,f1] 28/\Below w.heap.size w ((((((W.setCell ⟨N,0,none⟩ n0).setCell ⟨N,1,none⟩ n1).setCell ⟨N,2,none⟩ n2).setCell ⟨N,3,none⟩ n3).setCell ⟨N+1,0,none⟩ f0).setCell ⟨N+1,1,none⟩ f1):=by
 have hN:w.heap.size<=N:=Nat.le_of_eq h.hN;refine ⟨((((((h.n.set 0 n0).set 1 n1).set 2 n2).set 3 n3).other (b:=N+1) (o:=0) (by omega) f0).other (b:=N+1) (o:=1) (by omega) f1),(((((h.f.other (b:=N) (o:=0) (by omega) n0).other (b:=N) (o:=1) (by omega) n1).other (b:=N) (o:=2) (by omega) n2).other (b:=N) (o:=3) (by omega) n3).set 0 f0).set 1 f1,?_⟩;exact (((((h.b.setCell (p:=⟨N,0,none⟩) hN _).setCell (p:=⟨N,1,none⟩) hN _).setCell (p:=⟨N,2,none⟩) hN _).setCell (p:=⟨N,3,none⟩) hN _).setCell (p:=⟨N+1,0,none⟩) (Nat.le_succ_of_le hN) _).setCell (p:=⟨N+1,1,none⟩) (Nat.le_succ_of_le hN) _
theorem RB.drew (h:RB w W N):RB w W.drew N:=⟨h.n,h.f,h.b.drew,h.hN⟩
theorem cB.mkBad {w W:World} {x:ByteArray} {R:Int × Int} {c p:Int} {e:Ending} (hR:R=(c,p)) (hc:c≠0) (he:e=.returned (.tuple #[zfw,.agg #[.int .i64 c,.int .i64 p]])) (hb:Below w.heap.size w W):cB w x R e W:=by
 subst hR;exact ⟨_,he,fun h=>absurd h hc,fun _=>rfl,hb⟩
end
theorem zms (x:ByteArray) (qs:List FV) (fv:Value) (m:ByteArray) (K:List Kid) (w:World) (hH:zdr w) (hF:FacesIn w fv qs) (hsh:(kM x).code=0->(kM x).tree=.node 1 m 0 (K.map Kid.tree)/\m.size<=16/\(∀ k∈K,k.good/\k.named/\xI k)/\kA (K.map Kid.tree)<=900/\K.length<=900/\∀ k∈K,k.kids.length<=900) : Calls Tryz.prog 4 #[.string x,fv] w (cB w x (ckF x (qs.map (·.1)) m K)):=by
 have c24:=kc25;have c27:=kc28;have c3:Tryz.prog.cellsOf 41=3:=gN;have hmm0:=@run_makeMap Tryz.prog;obtain ⟨R,HR⟩:∃ R,Hid (ckF x (qs.map (·.1)) m K=R):=⟨_,rfl⟩
 rw [HR.out];obtain ⟨a,c,rfl,hql,hqk⟩:=hF
 have hall:∀ p∈qs,yZ w (fvV p) p.1:=fun p hp=>by
  obtain ⟨i,hi,rfl⟩:=List.mem_iff_getElem.1 hp;obtain ⟨g,o,_,hat⟩:=hqk (fun e=>by rw [e] at hi;cases hi);exact (hat i hi).2.2.2.1
 have hRB:RB w (((w.alloc (.cells #[.int .i64 0,.string ⟨#[]⟩,.int .i64 0,.slice none 0 0] 25)).alloc (.cells #[.int .i64 0,.int .i64 0] 28)).alloc (.map #[] 0)) w.heap.size:=by
  refine ⟨((kJ.new w _ _).alloc _).alloc _,?_,((bal _).alloc (by simp) _).alloc (by simp;omega) _,rfl⟩;have:=(kJ.new (w.alloc (.cells #[.int .i64 0,.string ⟨#[]⟩,.int .i64 0,.slice none 0 0] 25)) #[.int .i64 0,.int .i64 0] 28).alloc (.map #[] 0);rw [jO] at this;exact this
 have hMp:qM (((w.alloc (.cells #[.int .i64 0,.string ⟨#[]⟩,.int .i64 0,.slice none 0 0] 25)).alloc (.cells #[.int .i64 0,.int .i64 0] 28)).alloc (.map #[] 0)) (w.heap.size+1+1) 0 (fun z=>fvO (vV [] z)):=by
  have:=qM.made ((w.alloc (.cells #[.int .i64 0,.string ⟨#[]⟩,.int .i64 0,.slice none 0 0] 25)).alloc (.cells #[.int .i64 0,.int .i64 0] 28));rw [jO,jO] at this;exact this
 go_enter Tryz.func4,Tryz.ntmps4;go_wp2;generalize (((w.alloc (.cells #[.int .i64 0,.string ⟨#[]⟩,.int .i64 0,.slice none 0 0] 25)).alloc (.cells #[.int .i64 0,.int .i64 0] 28)).alloc (.map #[] 0))=W1 at *;go_loopw [20] (fun t wr=>∃ j:Nat,j<=qs.length/\t=.int .i64 j/\RB w wr w.heap.size/\qM wr (w.heap.size+1+1) j (fun z=>fvO (vV (qs.take j) z))/\Hid (gE [] (qs.map (·.1))=gE ((qs.map (·.1)).take j) ((qs.map (·.1)).drop j))) (fun t _=>qs.length - (intOf t).toNat)
 case atStart=>exact ⟨0,jz _,rfl,hRB,hMp,by show _=_;simp⟩
 case round =>
  clear hRB hMp;obtain ⟨j,hj,rfl,hRB,hMp,HBd⟩:=hrel;by_cases hlt:j<qs.length
  ·obtain ⟨g,o,rfl,hat⟩:=hqk (by intro e;rw [e] at hlt;simp at hlt);obtain ⟨k0,k1,k2,hfi,hms⟩:=hat j hlt;have k0:=keep k0 hRB.b;have k1:=keep k1 hRB.b;have k2:=keep k2 hRB.b;have hfi:=hfi.below hRB.b;have hstep:=zsd (qs.map (·.1)) j (by simpa using hlt)
   rw [List.getElem_map] at hstep;have hgn:=zru (qs.take j) qs[j].1.module;rw [List.map_take] at hgn;have hgs:=zsw (qs.take j) qs[j];rw [List.map_take] at hgs;have htk:qs.take (j+1)=qs.take j++[qs[j]]:=List.take_succ_eq_append_getElem hlt;rw [<- htk] at hgs;have HS2:Hid _:=HBd.out.trans hstep;clear hqk hat hstep htk HBd;generalize hqq:qs[j]=q at *;clear hqq;obtain ⟨fm,a1,n1,d1,a2,n2,d2,hsh3⟩:=zeg hfi;obtain ⟨qf,qv,qp⟩:=q;unfold fvV at hsh3;dsimp only at *;injection hsh3 with hsh3;simp only [Array.mk.injEq,jq,and_true] at hsh3;obtain ⟨_,rfl,rfl⟩:=hsh3;have hRB1:=hRB.alloc (.cells #[.string qf.module,.slice a1 n1 d1,.slice a2 n2 d2] 41);have hMp1:qM (wr.alloc (.cells #[.string qf.module,.slice a1 n1 d1,.slice a2 n2 d2] 41)) (w.heap.size+1+1) j (fun z=>fvO (vV (qs.take j) z)):=hMp.below (bal _);have hgb:=hMp.lt
   cases hgf:vV (qs.take j) qf.module with
   | some pp =>
    have hpm:pp∈qs:=List.mem_of_mem_take (List.mem_of_find?_eq_some hgf);obtain ⟨pm,b1,m1,e1',b2,m2,e2',hpv⟩:=zeg (hall pp hpm);have hRB2:=hRB1.alloc (.cells #[.string pm,.slice b1 m1 e1',.slice b2 m2 e2'] 41)
    have HB:Hid (R=(2,0)):=by
     show _=_;rw [<- HR.out];unfold ckF;rw [jv];rw [HS2.out];rw [hgf] at hgn;rw [<- hgn];rfl
    clear HS2 HR hgs hgn hsh hall;obtain ⟨z0,z1,z2,z3,y0,y1,zf,yf⟩:=hRB2.cells;have zf0:=zf 0;have zf1:=zf 1;have zf2:=zf 2;have zf3:=zf 3;have yf0:=yf 0;have yf1:=yf 1
    go_wp2_with first
     | (at_lookup;refine za9 (f:=fun z=>fvO (vV (qs.take j) z)) rfl _ _ rfl rfl hMp1 qf.module hms rfl ?_;rw [hgf,show fvO (some pp)=some (fvV pp) from rfl,hpv])
     | go_in
    obtain ⟨e1,e2,e3⟩:=hRB2.done (.int .i64 0) (.string ⟨#[]⟩) (.int .i64 0) (.slice none 0 0) (.int .i64 2) (.int .i64 0);refine jT (v:=.tuple #[.agg #[.int .i64 0,.string ⟨#[]⟩,.int .i64 0,.slice none 0 0],.agg #[.int .i64 2,.int .i64 0]]) (zak _ _ _ e1 e2) rfl ?_
    exact cB.mkBad HB.out (by decide) rfl e3
   | none =>
    have hRB2:=hRB1.alloc (.cells #[.string ⟨#[]⟩,.slice none 0 0,.slice none 0 0] 41);have hB2:Below wr.heap.size wr ((wr.alloc (.cells #[.string qf.module,.slice a1 n1 d1,.slice a2 n2 d2] 41)).alloc (.cells #[.string ⟨#[]⟩,.slice none 0 0,.slice none 0 0] 41)):=(bal _).alloc (by simp) _;have hfi2:=hfi.below hB2;have hHW:qP ((wr.alloc (.cells #[.string qf.module,.slice a1 n1 d1,.slice a2 n2 d2] 41)).alloc (.cells #[.string ⟨#[]⟩,.slice none 0 0,.slice none 0 0] 41)):=(zcg hH hRB2.b).1.1;have hQ2:=(kJ.new wr #[.string qf.module,.slice a1 n1 d1,.slice a2 n2 d2] 41).alloc (.cells #[.string ⟨#[]⟩,.slice none 0 0,.slice none 0 0] 41);have r0:=hQ2.cell 0 rfl;have r1:=hQ2.cell 1 rfl;have r2:=hQ2.cell 2 rfl;have hMp2:=hMp.below hB2;have hMay:=ybe qf _ _ hHW hfi2;unfold fvV at hMay;dsimp only at hMay
    have hanyf:(List.take j (qs.map (·.1))).any (fun p=>eqS p.module qf.module)=false:=by
     rw [hgf] at hgn;exact hgn.symm
    cases hm:cF qf with
    | false =>
     have HB:Hid (R=(2,0)):=by
      show _=_;rw [<- HR.out];unfold ckF;rw [jv];rw [HS2.out,hm];simp
     clear HS2 HR hgs hgn hsh hall hanyf
     go_wp2_with first
      | (at_lookup;refine za9 (f:=fun z=>fvO (vV (qs.take j) z)) rfl _ _ rfl rfl hMp1 qf.module hms rfl ?_;rw [hgf,show fvO none=(none:Option Value) from rfl];unfold uE)
      | (go_at_call 7;refine hMay.mono ?_;rintro e w4 ⟨rfl,hb4⟩;rw [hm];have hRB4:=hRB2.below hb4;obtain ⟨z0,z1,z2,z3,y0,y1,zf,yf⟩:=hRB4.cells;have zf0:=zf 0;have zf1:=zf 1;have zf2:=zf 2;have zf3:=zf 3;have yf0:=yf 0;have yf1:=yf 1)
      | go_in
     obtain ⟨e1,e2,e3⟩:=hRB4.done (.int .i64 0) (.string ⟨#[]⟩) (.int .i64 0) (.slice none 0 0) (.int .i64 2) (.int .i64 0);refine jT (v:=.tuple #[.agg #[.int .i64 0,.string ⟨#[]⟩,.int .i64 0,.slice none 0 0],.agg #[.int .i64 2,.int .i64 0]]) (zak _ _ _ e1 e2) rfl ?_
     exact cB.mkBad HB.out (by decide) rfl e3
    | true =>
     have HS3:Hid (gE [] (qs.map (·.1))=gE ((qs.map (·.1)).take (j+1)) ((qs.map (·.1)).drop (j+1))):=by
      show _=_;rw [HS2.out,hm,hanyf];simp
     have hgs2:=hgs hanyf;clear HS2 hgs hgn hanyf
     go_wp2_with first
      | (at_lookup;refine za9 (f:=fun z=>fvO (vV (qs.take j) z)) rfl _ _ rfl rfl hMp1 qf.module hms rfl ?_;rw [hgf,show fvO none=(none:Option Value) from rfl];unfold uE)
      | (go_at_call 7;refine hMay.mono ?_;rintro e w4 ⟨rfl,hb4⟩;rw [hm];have hRB4:=hRB2.below hb4;have hMp4:=hMp2.below hb4;have hQ4:=hQ2.below hb4;have r0:=hQ4.cell 0 rfl;have r1:=hQ4.cell 1 rfl;have r2:=hQ4.cell 2 rfl)
      | (at_mapUpdate;refine zp5 rfl _ _ _ rfl rfl hMp4 (by unfold maxLen;omega) qf.module hms rfl (.agg #[.string qf.module,.slice a1 n1 d1,.slice a2 n2 d2]) rfl ?_;intro w5 hM5 hg5)
      | go_in
     have hRB5:=hRB4.grown hg5 (by omega);rw [show (fun z=>if eqS z qf.module then some (Value.agg #[.string qf.module,.slice a1 n1 d1,.slice a2 n2 d2]) else fvO (vV (qs.take j) z))=fun z=>fvO (vV (qs.take (j+1)) z) from hgs2] at hM5;exact ⟨⟨j+1,by omega,by simp,hRB5,hM5,HS3⟩,by simp [intOf];omega⟩
  ·skip;obtain rfl:j=qs.length:=by omega
   rw [jG (jE _)] at hMp
   have hbad:gE [] (qs.map (·.1))=false:=by
    rw [HBd.out,List.drop_eq_nil_of_le (by simp)];rfl
   clear HBd hqk;have hHr:=zcg hH hRB.b;by_cases hcode:(kM x).code=0
   ·obtain ⟨ht,hm16,hK1,hK2,hK3,hK4⟩:=hsh hcode;have hO:=zz0 x m K wr hHr.1 hcode ht hm16 (fun k hk=>(hK1 k hk).1) (by omega) (fun k hk=>by have:=hK4 k hk;omega);unfold uD at hO;rw [zc3] at hO
    cases hlk:lookK m K [] [] 1 with
    | some q =>
     have hq0:¬ q.1=0:=by have:=zbf m K _ _ _ q hlk;omega
     have HB:Hid (R=q):=by
      show _=_;rw [<- HR.out];unfold ckF;rw [ju (by rw [hbad];decide),ju (by simp [hcode]),hlk]
     rw [hlk] at hO;obtain ⟨qc,qp⟩:=q;dsimp only at hO hq0;have hq1:(qc != 0)=true:=by simp [hq0]
     clear HR hlk hsh hall ht hK1 hK2 hK3 hK4;go_wp2_with (go_at_call 8;refine hO.mono ?_;rintro e w2 ⟨rfl,hb2⟩;have hRB3:=((hRB.below hb2).alloc (.cells #[.string ⟨#[]⟩,.slice none 0 0,.slice none 0 0] 41)).alloc (.cells #[.int .i64 qc,.int .i64 qp] 28));have hB3:=kJ.new (w2.alloc (.cells #[.string ⟨#[]⟩,.slice none 0 0,.slice none 0 0] 41)) #[.int .i64 qc,.int .i64 qp] 28;rw [jO] at hB3;have hlo3:w.heap.size+1<w2.heap.size+1:=by have:=(hRB.below hb2).f.lt;omega
     generalize (w2.alloc (.cells #[.string ⟨#[]⟩,.slice none 0 0,.slice none 0 0] 41)).alloc (.cells #[.int .i64 qc,.int .i64 qp] 28)=W3 at *;generalize w2.heap.size+1=B3 at *;have hS:(fun W=>W.cell? ⟨B3,0,none⟩=some (.int .i64 qc)/\W.cell? ⟨B3,1,none⟩=some (.int .i64 qp)) W3.drew:=⟨hB3.cell 0 rfl,hB3.cell 1 rfl⟩
     refine wp_region_held_drew (S:=fun W=>W.cell? ⟨B3,0,none⟩=some (.int .i64 qc)/\W.cell? ⟨B3,1,none⟩=some (.int .i64 qp)) (by kernel_rfl) hS (fun hHeld=>?_);clear hHeld;have hRB4:=hRB3.drew;clear hRB3;generalize W3.drew=W4 at *;refine tkP 0 (.agg #[.int .i64 0,.string ⟨#[]⟩,.int .i64 0,.slice none 0 0]) hS ?_;simp only [Act.put,jA,jB,jC];refine tkP 1 (.agg #[.int .i64 qc,.int .i64 qp]) hS ?_;simp only [Act.put,jA,jB,jC];obtain ⟨z0,z1,z2,z3,y0,y1,zf,yf⟩:=hRB4.cells;have zf0:=zf 0;have zf1:=zf 1;have zf2:=zf 2;have zf3:=zf 3;have yf0:=yf 0;have yf1:=yf 1;refine oneH 2 fun KK hK=>?_
     go_simp;have hn5:kJ ((((W4.setCell ⟨w.heap.size,0,none⟩ (.int .i64 0)).setCell ⟨w.heap.size,1,none⟩ (.string ⟨#[]⟩)).setCell ⟨w.heap.size,2,none⟩ (.int .i64 0)).setCell ⟨w.heap.size,3,none⟩ (.slice none 0 0)) w.heap.size ((((#[.int .i64 0,.string ⟨#[]⟩,.int .i64 0,.slice none 0 0]).setIfInBounds 0 (.int .i64 0)).setIfInBounds 1 (.string ⟨#[]⟩)).setIfInBounds 2 (.int .i64 0) |>.setIfInBounds 3 (.slice none 0 0)) 25:=(((hRB4.n.set 0 _).set 1 _).set 2 _).set 3 _;have hf5:kJ ((((W4.setCell ⟨w.heap.size,0,none⟩ (.int .i64 0)).setCell ⟨w.heap.size,1,none⟩ (.string ⟨#[]⟩)).setCell ⟨w.heap.size,2,none⟩ (.int .i64 0)).setCell ⟨w.heap.size,3,none⟩ (.slice none 0 0)) (w.heap.size+1) #[.int .i64 0,.int .i64 0] 28:=(((hRB4.f.other (by omega) _).other (by omega) _).other (by omega) _).other (by omega) _
     have hS5:(fun W=>W.cell? ⟨B3,0,none⟩=some (.int .i64 qc)/\W.cell? ⟨B3,1,none⟩=some (.int .i64 qp)) ((((W4.setCell ⟨w.heap.size,0,none⟩ (.int .i64 0)).setCell ⟨w.heap.size,1,none⟩ (.string ⟨#[]⟩)).setCell ⟨w.heap.size,2,none⟩ (.int .i64 0)).setCell ⟨w.heap.size,3,none⟩ (.slice none 0 0)):=by
      have o:∀ i,((((W4.setCell ⟨w.heap.size,0,none⟩ (.int .i64 0)).setCell ⟨w.heap.size,1,none⟩ (.string ⟨#[]⟩)).setCell ⟨w.heap.size,2,none⟩ (.int .i64 0)).setCell ⟨w.heap.size,3,none⟩ (.slice none 0 0)).cell? ⟨B3,i,none⟩=W4.cell? ⟨B3,i,none⟩:=fun i=>jM (a:=⟨B3,i,none⟩) ((((jP _ _ _ B3 (by show B3≠w.heap.size;omega)).trans (jP _ _ _ B3 (by show B3≠w.heap.size;omega))).trans (jP _ _ _ B3 (by show B3≠w.heap.size;omega))).trans (jP _ _ _ B3 (by show B3≠w.heap.size;omega)))
      exact ⟨(o 0).trans hS.1,(o 1).trans hS.2⟩
     have v0:=hf5.cell 0 rfl;have v1:=hf5.cell 1 rfl;have vf0:=hf5.fz 0;have vf1:=hf5.fz 1;obtain ⟨d1,d2,d3⟩:=hRB4.done (.int .i64 0) (.string ⟨#[]⟩) (.int .i64 0) (.slice none 0 0) (.int .i64 qc) (.int .i64 qp);refine hK.out _ _ hS5 (fun hHeld=>?_);clear hK hHeld z0 z1 z2 z3 y0 y1 zf yf zf0 zf1 zf2 zf3 yf0 yf1 hn5 hf5;generalize ((((W4.setCell ⟨w.heap.size,0,none⟩ (.int .i64 0)).setCell ⟨w.heap.size,1,none⟩ (.string ⟨#[]⟩)).setCell ⟨w.heap.size,2,none⟩ (.int .i64 0)).setCell ⟨w.heap.size,3,none⟩ (.slice none 0 0))=W5 at *;refine oneH 3 fun KK hK=>?_
     go_simp
     have hS6:(fun W=>W.cell? ⟨B3,0,none⟩=some (.int .i64 qc)/\W.cell? ⟨B3,1,none⟩=some (.int .i64 qp)) ((W5.setCell ⟨w.heap.size+1,0,none⟩ (.int .i64 qc)).setCell ⟨w.heap.size+1,1,none⟩ (.int .i64 qp)):=by
      have o:∀ i,((W5.setCell ⟨w.heap.size+1,0,none⟩ (.int .i64 qc)).setCell ⟨w.heap.size+1,1,none⟩ (.int .i64 qp)).cell? ⟨B3,i,none⟩=W5.cell? ⟨B3,i,none⟩:=fun i=>jM (a:=⟨B3,i,none⟩) ((jP _ _ _ B3 (by show B3≠w.heap.size+1;omega)).trans (jP _ _ _ B3 (by show B3≠w.heap.size+1;omega)))
      exact ⟨(o 0).trans hS5.1,(o 1).trans hS5.2⟩
     refine hK.out _ _ hS6 (fun hHeld=>?_);clear hK hHeld v0 v1 vf0 vf1 hS6 hS5 hS;refine wpAnyH_done (by kernel_rfl) ?_ _;go_wp2;refine jT (v:=.tuple #[.agg #[.int .i64 0,.string ⟨#[]⟩,.int .i64 0,.slice none 0 0],.agg #[.int .i64 qc,.int .i64 qp]]) (zak _ _ _ d1 d2) rfl ?_
     exact cB.mkBad HB.out hq0 rfl d3
    | none =>
     rw [hlk] at hO
     have HB:Hid (R=nz ((moF (zZ true m K) (qs.map (·.1)) K [] 1).getD (0,0))):=by
      show _=_;rw [<- HR.out];unfold ckF;rw [ju (by rw [hbad];decide),ju (by simp [hcode]),hlk]
     have hkok:=zxr hlk hK1;have hown:=zz3 hlk;clear HR hlk hsh hK1;have hPa:=fun W (hW:cX W)=>zgt x W hW
     unfold dM at hPa;rw [hcode,ht] at hPa;generalize (kM x).place=pp at *;go_wp2_with (go_at_call 8;refine hO.mono ?_;rintro e w2 ⟨X2,B2,vv,pv,iv,P2,_,rfl,hFR2,_,_,hiv,hb2⟩;obtain ⟨va,vc,rfl⟩:=hFR2.shapeV;obtain ⟨pa,pc,rfl⟩:=hFR2.shapeP;obtain ⟨ia,ic,rfl,_,_⟩:=lexs.own_shape hiv;clear hFR2 hiv);have hb3:Below wr.heap.size wr ((w2.alloc (.cells #[.string m,.slice va (qE false K).length vc,.slice pa P2.length pc] 41)).alloc (.cells #[.int .i64 0,.int .i64 0] 28)):=hb2.trans ((((Below.refl w2.heap.size w2).alloc (jE _) _).alloc (by simp) _).mono hb2.size);have hRB3:=hRB.below hb3;have hMp3:=hMp.below hb3;have hHW3:=zcg hH hRB3.b;have hN3:=hRB3.f.lt;refine (hPa ((w2.alloc (.cells #[.string m,.slice va (qE false K).length vc,.slice pa P2.length pc] 41)).alloc (.cells #[.int .i64 0,.int .i64 0] 28)) hHW3.1).mono ?_;clear hPa hO;generalize ((w2.alloc (.cells #[.string m,.slice va (qE false K).length vc,.slice pa P2.length pc] 41)).alloc (.cells #[.int .i64 0,.int .i64 0] 28))=W3 at *;rintro e w4 ⟨v4,rfl,hl4,hb4⟩;obtain ⟨k1,x1,m1,b1,n1',e1',rfl⟩:=lies_shape hl4;have hb5:Below w4.heap.size w4 ((w4.alloc (.cells #[.int .i64 k1,.string x1,.int .i64 m1,.slice b1 n1' e1'] 25)).alloc (.cells #[.int .i64 0,.int .i64 pp] 28)):=((Below.refl w4.heap.size w4).alloc (jE _) _).alloc (by simp) _;have hRB5:=(hRB3.below hb4).below hb5;have hMp5:=(hMp3.below hb4).below hb5;have hHW5:=zcg hH hRB5.b;have hQ5:kJ ((w4.alloc (.cells #[.int .i64 k1,.string x1,.int .i64 m1,.slice b1 n1' e1'] 25)).alloc (.cells #[.int .i64 0,.int .i64 pp] 28)) w4.heap.size #[.int .i64 k1,.string x1,.int .i64 m1,.slice b1 n1' e1'] 25:=(kJ.new w4 _ _).alloc _;have hl5:kC (·<((w4.alloc (.cells #[.int .i64 k1,.string x1,.int .i64 m1,.slice b1 n1' e1'] 25)).alloc (.cells #[.int .i64 0,.int .i64 pp] 28)).heap.size) ((w4.alloc (.cells #[.int .i64 k1,.string x1,.int .i64 m1,.slice b1 n1' e1'] 25)).alloc (.cells #[.int .i64 0,.int .i64 pp] 28)) (.node 1 m 0 (K.map Kid.tree)) (.agg #[.int .i64 k1,.string x1,.int .i64 m1,.slice b1 n1' e1']):=hl4.to (fun b hb=>jo hb.2 hb5.size) (fun b hb o=>hb5.cell (p:=⟨b,o,none⟩) hb.2)
     have hGo:=zw5 (gf:=vV qs) (qs.map (·.1)) m K _ ((w4.alloc (.cells #[.int .i64 k1,.string x1,.int .i64 m1,.slice b1 n1' e1'] 25)).alloc (.cells #[.int .i64 0,.int .i64 pp] 28)) (zuu qs) (fun z q hq=>(hall q (List.mem_of_find?_eq_some hq)).below hRB5.b) (fun f hf=>zv9 (zkl _ _ hbad f hf)) hMp5 hHW5.2 hl5 hK3 hkok (fun k hk=>by have:=hK4 k hk;omega) (by omega) hown
     have hs4:=hb4.size;clear hl5 hMp5 hMp3 hHW5 hHW3;go_wp2_with (fail);refine hGo.mono ?_;clear hGo;rintro e w6 ⟨rfl,hb6⟩;generalize (moF (zZ true m K) (qs.map (·.1)) K [] 1).getD (0,0)=r at *
     obtain ⟨qc,qp⟩:=r;dsimp only;have hRB3:=(hRB5.below hb6).alloc (.cells #[.int .i64 qc,.int .i64 qp] 28);have hQ7:=(hQ5.below hb6).alloc (.cells #[.int .i64 qc,.int .i64 qp] 28);have hB3:=kJ.new w6 #[.int .i64 qc,.int .i64 qp] 28;have hlo3:w.heap.size+1<w6.heap.size:=(hRB5.below hb6).f.lt;have hb7:Below w4.heap.size w4 (w6.alloc (.cells #[.int .i64 qc,.int .i64 qp] 28)):=hb5.trans ((hb6.trans (((Below.refl w6.heap.size w6).alloc (jE _) _).mono hb6.size)).mono hb5.size);have hlo4:w.heap.size+1<W3.heap.size:=by omega
     by_cases hq0:qc=0
     ·subst hq0;have HC:Hid (R=(0,0)):=HB.out;have t0:=hQ7.cell 0 rfl;have t1:=hQ7.cell 1 rfl;have t2:=hQ7.cell 2 rfl;have t3:=hQ7.cell 3 rfl;obtain ⟨z0,z1,z2,z3,y0,y1,zf,yf⟩:=hRB3.cells;have zf0:=zf 0;have zf1:=zf 1;have zf2:=zf 2;have zf3:=zf 3;have yf0:=yf 0;have yf1:=yf 1;obtain ⟨d1,d2,d3⟩:=hRB3.done (.int .i64 k1) (.string x1) (.int .i64 m1) (.slice b1 n1' e1') (.int .i64 0) (.int .i64 0);clear HB hb6 hRB5 hQ5 hB3;go_wp2;refine jT (v:=.tuple #[.agg #[.int .i64 k1,.string x1,.int .i64 m1,.slice b1 n1' e1'],.agg #[.int .i64 0,.int .i64 0]]) (zak _ _ _ d1 d2) rfl ?_;refine ⟨_,by rw [HC.out],fun _=>?_,fun h=>absurd (by rw [HC.out]) h,d3⟩;rw [ht];refine hl4.to ?lsz ?lcl
      case lsz =>
       intro b hb;refine ⟨by omega,?_⟩;simp only [jQ];exact jo hb.2 hb7.size
      case lcl =>
       intro b hb o;refine (jM (a:=⟨b,o,none⟩) ?_).trans (hb7.cell (p:=⟨b,o,none⟩) hb.2);have hb1:b≠w.heap.size:=by omega
       have hb2':b≠w.heap.size+1:=by omega
       exact (((((jP _ _ _ b hb2').trans (jP _ _ _ b hb2')).trans (jP _ _ _ b hb1)).trans (jP _ _ _ b hb1)).trans (jP _ _ _ b hb1)).trans (jP _ _ _ b hb1)
     ·replace HB:Hid (R=(qc,qp)):=HB.out.trans (ju hq0);have hq1:(qc != 0)=true:=by simp [hq0]
      clear hb7 hb6 hRB5 hQ5 hQ7 hl4 hb5;go_wp2;generalize w6.alloc (.cells #[.int .i64 qc,.int .i64 qp] 28)=W3' at *;generalize w6.heap.size=B3 at *;have hS:(fun W=>W.cell? ⟨B3,0,none⟩=some (.int .i64 qc)/\W.cell? ⟨B3,1,none⟩=some (.int .i64 qp)) W3'.drew:=⟨hB3.cell 0 rfl,hB3.cell 1 rfl⟩
      refine wp_region_held_drew (S:=fun W=>W.cell? ⟨B3,0,none⟩=some (.int .i64 qc)/\W.cell? ⟨B3,1,none⟩=some (.int .i64 qp)) (by kernel_rfl) hS (fun hHeld=>?_);clear hHeld;have hRB4:=hRB3.drew;clear hRB3;generalize W3'.drew=W4 at *;refine tkP 0 (.agg #[.int .i64 0,.string ⟨#[]⟩,.int .i64 0,.slice none 0 0]) hS ?_;simp only [Act.put,jA,jB,jC];refine tkP 1 (.agg #[.int .i64 qc,.int .i64 qp]) hS ?_;simp only [Act.put,jA,jB,jC];obtain ⟨z0,z1,z2,z3,y0,y1,zf,yf⟩:=hRB4.cells;have zf0:=zf 0;have zf1:=zf 1;have zf2:=zf 2;have zf3:=zf 3;have yf0:=yf 0;have yf1:=yf 1;refine oneH 2 fun KK hK=>?_
      go_simp;have hn5:kJ ((((W4.setCell ⟨w.heap.size,0,none⟩ (.int .i64 0)).setCell ⟨w.heap.size,1,none⟩ (.string ⟨#[]⟩)).setCell ⟨w.heap.size,2,none⟩ (.int .i64 0)).setCell ⟨w.heap.size,3,none⟩ (.slice none 0 0)) w.heap.size ((((#[.int .i64 0,.string ⟨#[]⟩,.int .i64 0,.slice none 0 0]).setIfInBounds 0 (.int .i64 0)).setIfInBounds 1 (.string ⟨#[]⟩)).setIfInBounds 2 (.int .i64 0) |>.setIfInBounds 3 (.slice none 0 0)) 25:=(((hRB4.n.set 0 _).set 1 _).set 2 _).set 3 _;have hf5:kJ ((((W4.setCell ⟨w.heap.size,0,none⟩ (.int .i64 0)).setCell ⟨w.heap.size,1,none⟩ (.string ⟨#[]⟩)).setCell ⟨w.heap.size,2,none⟩ (.int .i64 0)).setCell ⟨w.heap.size,3,none⟩ (.slice none 0 0)) (w.heap.size+1) #[.int .i64 0,.int .i64 0] 28:=(((hRB4.f.other (by omega) _).other (by omega) _).other (by omega) _).other (by omega) _
      have hS5:(fun W=>W.cell? ⟨B3,0,none⟩=some (.int .i64 qc)/\W.cell? ⟨B3,1,none⟩=some (.int .i64 qp)) ((((W4.setCell ⟨w.heap.size,0,none⟩ (.int .i64 0)).setCell ⟨w.heap.size,1,none⟩ (.string ⟨#[]⟩)).setCell ⟨w.heap.size,2,none⟩ (.int .i64 0)).setCell ⟨w.heap.size,3,none⟩ (.slice none 0 0)):=by
       have o:∀ i,((((W4.setCell ⟨w.heap.size,0,none⟩ (.int .i64 0)).setCell ⟨w.heap.size,1,none⟩ (.string ⟨#[]⟩)).setCell ⟨w.heap.size,2,none⟩ (.int .i64 0)).setCell ⟨w.heap.size,3,none⟩ (.slice none 0 0)).cell? ⟨B3,i,none⟩=W4.cell? ⟨B3,i,none⟩:=fun i=>jM (a:=⟨B3,i,none⟩) ((((jP _ _ _ B3 (by show B3≠w.heap.size;omega)).trans (jP _ _ _ B3 (by show B3≠w.heap.size;omega))).trans (jP _ _ _ B3 (by show B3≠w.heap.size;omega))).trans (jP _ _ _ B3 (by show B3≠w.heap.size;omega)))
       exact ⟨(o 0).trans hS.1,(o 1).trans hS.2⟩
      have v0:=hf5.cell 0 rfl;have v1:=hf5.cell 1 rfl;have vf0:=hf5.fz 0;have vf1:=hf5.fz 1;obtain ⟨d1,d2,d3⟩:=hRB4.done (.int .i64 0) (.string ⟨#[]⟩) (.int .i64 0) (.slice none 0 0) (.int .i64 qc) (.int .i64 qp);refine hK.out _ _ hS5 (fun hHeld=>?_);clear hK hHeld z0 z1 z2 z3 y0 y1 zf yf zf0 zf1 zf2 zf3 yf0 yf1 hn5 hf5;generalize ((((W4.setCell ⟨w.heap.size,0,none⟩ (.int .i64 0)).setCell ⟨w.heap.size,1,none⟩ (.string ⟨#[]⟩)).setCell ⟨w.heap.size,2,none⟩ (.int .i64 0)).setCell ⟨w.heap.size,3,none⟩ (.slice none 0 0))=W5 at *;refine oneH 3 fun KK hK=>?_
      go_simp
      have hS6:(fun W=>W.cell? ⟨B3,0,none⟩=some (.int .i64 qc)/\W.cell? ⟨B3,1,none⟩=some (.int .i64 qp)) ((W5.setCell ⟨w.heap.size+1,0,none⟩ (.int .i64 qc)).setCell ⟨w.heap.size+1,1,none⟩ (.int .i64 qp)):=by
       have o:∀ i,((W5.setCell ⟨w.heap.size+1,0,none⟩ (.int .i64 qc)).setCell ⟨w.heap.size+1,1,none⟩ (.int .i64 qp)).cell? ⟨B3,i,none⟩=W5.cell? ⟨B3,i,none⟩:=fun i=>jM (a:=⟨B3,i,none⟩) ((jP _ _ _ B3 (by show B3≠w.heap.size+1;omega)).trans (jP _ _ _ B3 (by show B3≠w.heap.size+1;omega)))
       exact ⟨(o 0).trans hS5.1,(o 1).trans hS5.2⟩
      refine hK.out _ _ hS6 (fun hHeld=>?_);clear hK hHeld v0 v1 vf0 vf1 hS6 hS5 hS;refine wpAnyH_done (by kernel_rfl) ?_ _;go_wp2;refine jT (v:=.tuple #[.agg #[.int .i64 0,.string ⟨#[]⟩,.int .i64 0,.slice none 0 0],.agg #[.int .i64 qc,.int .i64 qp]]) (zak _ _ _ d1 d2) rfl ?_;exact cB.mkBad HB.out hq0 rfl d3
   ·have HB:Hid (R=((kM x).code,(kM x).place)):=by
     show _=_;rw [<- HR.out];unfold ckF;rw [ju (by rw [hbad];decide),jv hcode]
    have hO:=zw2 x wr hHr.1 hcode;clear HR hsh hall;generalize (kM x).code=qc at *;generalize (kM x).place=qp at *;have hq0:¬ qc=0:=hcode;have hq1:(qc != 0)=true:=by simp [hq0]
    go_wp2_with (go_at_call 8;refine hO.mono ?_;rintro e w2 ⟨fv2,lv2,rfl,⟨vv,pv,rfl,⟨va,vc,rfl,_⟩,⟨pa,pc,rfl,_⟩⟩,⟨la,lc,rfl,_⟩,hb2⟩;have hRB3:=((hRB.below hb2).alloc (.cells #[.string gA.module,.slice va gA.vars.length vc,.slice pa gA.procs.length pc] 41)).alloc (.cells #[.int .i64 qc,.int .i64 qp] 28));have hB3:=kJ.new (w2.alloc (.cells #[.string gA.module,.slice va gA.vars.length vc,.slice pa gA.procs.length pc] 41)) #[.int .i64 qc,.int .i64 qp] 28;rw [jO] at hB3;have hlo3:w.heap.size+1<w2.heap.size+1:=by have:=(hRB.below hb2).f.lt;omega
    generalize (w2.alloc (.cells #[.string gA.module,.slice va gA.vars.length vc,.slice pa gA.procs.length pc] 41)).alloc (.cells #[.int .i64 qc,.int .i64 qp] 28)=W3 at *;generalize w2.heap.size+1=B3 at *;have hS:(fun W=>W.cell? ⟨B3,0,none⟩=some (.int .i64 qc)/\W.cell? ⟨B3,1,none⟩=some (.int .i64 qp)) W3.drew:=⟨hB3.cell 0 rfl,hB3.cell 1 rfl⟩
    refine wp_region_held_drew (S:=fun W=>W.cell? ⟨B3,0,none⟩=some (.int .i64 qc)/\W.cell? ⟨B3,1,none⟩=some (.int .i64 qp)) (by kernel_rfl) hS (fun hHeld=>?_);clear hHeld;have hRB4:=hRB3.drew;clear hRB3;generalize W3.drew=W4 at *;refine tkP 0 (.agg #[.int .i64 0,.string ⟨#[]⟩,.int .i64 0,.slice none 0 0]) hS ?_;simp only [Act.put,jA,jB,jC];refine tkP 1 (.agg #[.int .i64 qc,.int .i64 qp]) hS ?_;simp only [Act.put,jA,jB,jC];obtain ⟨z0,z1,z2,z3,y0,y1,zf,yf⟩:=hRB4.cells;have zf0:=zf 0;have zf1:=zf 1;have zf2:=zf 2;have zf3:=zf 3;have yf0:=yf 0;have yf1:=yf 1;refine oneH 2 fun KK hK=>?_
    go_simp;have hn5:kJ ((((W4.setCell ⟨w.heap.size,0,none⟩ (.int .i64 0)).setCell ⟨w.heap.size,1,none⟩ (.string ⟨#[]⟩)).setCell ⟨w.heap.size,2,none⟩ (.int .i64 0)).setCell ⟨w.heap.size,3,none⟩ (.slice none 0 0)) w.heap.size ((((#[.int .i64 0,.string ⟨#[]⟩,.int .i64 0,.slice none 0 0]).setIfInBounds 0 (.int .i64 0)).setIfInBounds 1 (.string ⟨#[]⟩)).setIfInBounds 2 (.int .i64 0) |>.setIfInBounds 3 (.slice none 0 0)) 25:=(((hRB4.n.set 0 _).set 1 _).set 2 _).set 3 _;have hf5:kJ ((((W4.setCell ⟨w.heap.size,0,none⟩ (.int .i64 0)).setCell ⟨w.heap.size,1,none⟩ (.string ⟨#[]⟩)).setCell ⟨w.heap.size,2,none⟩ (.int .i64 0)).setCell ⟨w.heap.size,3,none⟩ (.slice none 0 0)) (w.heap.size+1) #[.int .i64 0,.int .i64 0] 28:=(((hRB4.f.other (by omega) _).other (by omega) _).other (by omega) _).other (by omega) _
    have hS5:(fun W=>W.cell? ⟨B3,0,none⟩=some (.int .i64 qc)/\W.cell? ⟨B3,1,none⟩=some (.int .i64 qp)) ((((W4.setCell ⟨w.heap.size,0,none⟩ (.int .i64 0)).setCell ⟨w.heap.size,1,none⟩ (.string ⟨#[]⟩)).setCell ⟨w.heap.size,2,none⟩ (.int .i64 0)).setCell ⟨w.heap.size,3,none⟩ (.slice none 0 0)):=by
     have o:∀ i,((((W4.setCell ⟨w.heap.size,0,none⟩ (.int .i64 0)).setCell ⟨w.heap.size,1,none⟩ (.string ⟨#[]⟩)).setCell ⟨w.heap.size,2,none⟩ (.int .i64 0)).setCell ⟨w.heap.size,3,none⟩ (.slice none 0 0)).cell? ⟨B3,i,none⟩=W4.cell? ⟨B3,i,none⟩:=fun i=>jM (a:=⟨B3,i,none⟩) ((((jP _ _ _ B3 (by show B3≠w.heap.size;omega)).trans (jP _ _ _ B3 (by show B3≠w.heap.size;omega))).trans (jP _ _ _ B3 (by show B3≠w.heap.size;omega))).trans (jP _ _ _ B3 (by show B3≠w.heap.size;omega)))
     exact ⟨(o 0).trans hS.1,(o 1).trans hS.2⟩
    have v0:=hf5.cell 0 rfl;have v1:=hf5.cell 1 rfl;have vf0:=hf5.fz 0;have vf1:=hf5.fz 1;obtain ⟨d1,d2,d3⟩:=hRB4.done (.int .i64 0) (.string ⟨#[]⟩) (.int .i64 0) (.slice none 0 0) (.int .i64 qc) (.int .i64 qp);refine hK.out _ _ hS5 (fun hHeld=>?_);clear hK hHeld z0 z1 z2 z3 y0 y1 zf yf zf0 zf1 zf2 zf3 yf0 yf1 hn5 hf5;generalize ((((W4.setCell ⟨w.heap.size,0,none⟩ (.int .i64 0)).setCell ⟨w.heap.size,1,none⟩ (.string ⟨#[]⟩)).setCell ⟨w.heap.size,2,none⟩ (.int .i64 0)).setCell ⟨w.heap.size,3,none⟩ (.slice none 0 0))=W5 at *;refine oneH 3 fun KK hK=>?_
    go_simp
    have hS6:(fun W=>W.cell? ⟨B3,0,none⟩=some (.int .i64 qc)/\W.cell? ⟨B3,1,none⟩=some (.int .i64 qp)) ((W5.setCell ⟨w.heap.size+1,0,none⟩ (.int .i64 qc)).setCell ⟨w.heap.size+1,1,none⟩ (.int .i64 qp)):=by
     have o:∀ i,((W5.setCell ⟨w.heap.size+1,0,none⟩ (.int .i64 qc)).setCell ⟨w.heap.size+1,1,none⟩ (.int .i64 qp)).cell? ⟨B3,i,none⟩=W5.cell? ⟨B3,i,none⟩:=fun i=>jM (a:=⟨B3,i,none⟩) ((jP _ _ _ B3 (by show B3≠w.heap.size+1;omega)).trans (jP _ _ _ B3 (by show B3≠w.heap.size+1;omega)))
     exact ⟨(o 0).trans hS5.1,(o 1).trans hS5.2⟩
    refine hK.out _ _ hS6 (fun hHeld=>?_);clear hK hHeld v0 v1 vf0 vf1 hS6 hS5 hS;refine wpAnyH_done (by kernel_rfl) ?_ _;go_wp2;refine jT (v:=.tuple #[.agg #[.int .i64 0,.string ⟨#[]⟩,.int .i64 0,.slice none 0 0],.agg #[.int .i64 qc,.int .i64 qp]]) (zak _ _ _ d1 d2) rfl ?_;exact cB.mkBad HB.out hq0 rfl d3
end chk
namespace chk
open Go.RowKit Go.Shelf
open syn face
theorem zny {x:ByteArray} {m:ByteArray} {K:List Kid} (ht:(kM x).tree=.node 1 m 0 (K.map Kid.tree)) (hf:vC (kM x).tree=true):kA (K.map Kid.tree)<=900/\K.length<=900/\∀ k∈K,k.kids.length<=900:=by
 rw [ht,<- zba,cO _ 1 0 (by omega) (by omega) (by omega) (by omega)] at hf;split at hf
 ·rename_i h
  have hc:kA (K.map Kid.tree)+1<=500:=by
   have h2:=h.2;rw [xC] at h2;omega
  refine ⟨by omega,?_,?_⟩;·have:=len_cnt (K.map Kid.tree);rw [List.length_map] at this;omega
  ·intro k hk;obtain ⟨i,hi,rfl⟩:=List.mem_iff_getElem.1 hk;have h1:=zkk (K.map Kid.tree) i (by simpa using hi);have h2:(K.map Kid.tree)[i]'(by simpa using hi)=K[i].tree:=by simp
   rw [h2,Kid.tree_is,xC] at h1;have h4:=len_cnt K[i].kids;omega
 ·simp at hf
theorem zg5 {w w':World} (hb:Below w.heap.size w w') {p:Addr} {v:Value} (h:w.cell? p=some v):w'.cell? p=some v:=by
 have hp:p.block<w.heap.size:=by
  cases hq:w.heap[p.block]? with
  | none=>simp [World.cell?,hq] at h
  | some o=>exact (Array.getElem?_eq_some_iff.1 hq).1
 rw [hb.cell hp];exact h
theorem FacesIn.below {w w':World} {v:Value} {qs:List FV} (h:FacesIn w v qs) (hb:Below w.heap.size w w'):FacesIn w' v qs:=by
 obtain ⟨a,c,rfl,hl,hk⟩:=h;refine ⟨a,c,rfl,hl,fun hq=>?_⟩;obtain ⟨g,o,rfl,hc⟩:=hk hq;refine ⟨g,o,rfl,fun i hi=>?_⟩;obtain ⟨h0,h1,h2,h3,h4⟩:=hc i hi;exact ⟨zg5 hb h0,zg5 hb h1,zg5 hb h2,h3.below hb,h4⟩
end chk
namespace pr
open Go.RowKit Go.Shelf
open syn face chk
mutual
theorem zkx:∀ (t:Tree) (n:Int),TxT t->TxT (qO t n).1
 | .node k x m ks,n,h=>by
  unfold TxT at h;unfold qO;dsimp only;unfold TxT;exact ⟨h.1,zjd ks _ h.2⟩
theorem zjd:∀ (ks:List Tree) (n:Int),TxL ks->TxL (yH ks n).1
 | [],n,_=>by unfold yH TxL;trivial
 | t :: r,n,h=>by
  unfold TxL at h;unfold yH;dsimp only;unfold TxL;exact ⟨zkx t n h.1,zjd r _ h.2⟩
end
theorem zvi {x:ByteArray} {fs:List FaceD} {m:ByteArray} {K:List Kid} (h:(ckF x fs m K).1=0):(kM x).code=0:=by
 unfold ckF at h;split at h;·cases h
 ·split at h;·exact absurd h (by assumption)
  ·rename_i h2;simpa using h2
theorem raised_walk (x:ByteArray) (qs:List FV) (fv:Value) (z:Nat) (hz:z<256) (w:World) (hP:PH w) (hF:FacesIn w fv qs) : Calls Tryz.prog 3 #[.string x,fv,.int .u8 z] w fun e w'=>e=.returned (.bool true)/\Below w.heap.size w w':=by
 have c24:=kc25;have c27:=kc28;obtain ⟨fa,fc,rfl⟩:∃ a c,fv=.slice a qs.length c:=by obtain ⟨a,c,e,_⟩:=hF;exact ⟨a,c,e⟩
 have HA:Hid (∀ W,Below w.heap.size w W->zdr W):=fun W hb=>by have:=hP.below hb;exact ⟨⟨this.err,this.ops⟩,this.mx⟩
 have HP:=show Hid _ from hP
 have HF:=show Hid _ from hF
 have hq:=hF
 obtain ⟨m,K,hsh⟩:∃ (m:ByteArray) (K:List Kid),(kM x).code=0->(kM x).tree=.node 1 m 0 (K.map Kid.tree)/\m.size<=16/\(∀ k∈K,k.good/\k.named/\xI k)/\kA (K.map Kid.tree)<=900/\K.length<=900/\(∀ k∈K,k.kids.length<=900)/\∃ K':List Kid,(qO (kM x).tree (z % 8:Int)).1=.node 1 m 0 (K'.map Kid.tree)/\(∀ k∈K',k.good/\k.named/\xI k) /\
   (xQ (qO (kM x).tree (z % 8:Int)).1=([],1)\/((xQ (qO (kM x).tree (z % 8:Int)).1).2=0/\kM ⟨(xQ (qO (kM x).tree (z % 8:Int)).1).1.toArray⟩=⟨.node 1 m 0 (K'.map Kid.tree),0,0⟩ /\
    ((∀ q,face.lookK m K [] [] 1=some q->q.1≠0)->(ckF x (qs.map (·.1)) m K).1=0->(ckF ⟨(xQ (qO (kM x).tree (z % 8:Int)).1).1.toArray⟩ (qs.map (·.1)) m K')=(0,0)))):=by
  by_cases hc:(kM x).code=0
  ·obtain ⟨m,K,K',e1,e2,hm,hk,hk',hpr⟩:=zre x hc (z % 8:Int) (qs.map (·.1))
   obtain ⟨_,_,_,_,_,_,hfit⟩:=zce x hc;obtain ⟨s1,s2,s3⟩:=zny e1 hfit;exact ⟨m,K,fun _=>⟨e1,hm,hk,s1,s2,s3,K',e2,hk',hpr⟩⟩
  ·exact ⟨empty,[],fun h=>absurd h hc⟩
 have hC1:=zms x qs (.slice fa qs.length fc) m K w (HA.out w (Below.refl _ _)) hF (fun h=>by obtain ⟨a,b,c,d,e,f,_⟩:=hsh h;exact ⟨a,b,c,d,e,f⟩);have HZ:Hid (∀ h:(ckF x (qs.map (·.1)) m K).1=0,(kM x).code=0):=fun h=>zvi h
 have HS:=show Hid _ from hsh
 clear hsh hq hF hP;generalize hR:ckF x (qs.map (·.1)) m K=R at *
 obtain ⟨rc,rp⟩:=R;have HR:=show Hid _ from hR
 clear hR;go_enter Tryz.func3,Tryz.ntmps3;go_wp2_with (fail);refine hC1.mono ?_;clear hC1;rintro e w1 ⟨v1,rfl,hv1,hv2,hb1⟩;by_cases h0:rc=0
 ·subst h0;have hc:=HZ.out rfl;obtain ⟨e1,hm,hk,s1,s2,s3,K',e2,hk',hpr⟩:=HS.out hc;have hl1:=hv1 rfl;have hfit:vC (kM x).tree=true:=by obtain ⟨_,_,_,_,_,_,hfit⟩:=zce x hc;exact hfit
  obtain ⟨hcn,_⟩:=zf6 _ hfit;have hl1':=hl1;rw [e1] at hl1';unfold kC at hl1';obtain ⟨a1,c1,rfl,-,-⟩:=hl1';have hbB:Below w1.heap.size w1 ((w1.alloc (.cells #[.int .i64 1,.string m,.int .i64 0,.slice a1 (K.map Kid.tree).length c1] 25)).alloc (.cells #[.int .i64 0,.int .i64 rp] 28)):=(bal _).alloc (by simp) _;have bN:=(kJ.new w1 #[.int .i64 1,.string m,.int .i64 0,.slice a1 (K.map Kid.tree).length c1] 25).alloc (.cells #[.int .i64 0,.int .i64 rp] 28);have hlB:=(kC.to (w:=w1) (w':=w1) (Q:=fun b=>b<w1.heap.size) (fun b hb=>hb.2) (fun _ _ _=>rfl) hl1).below hbB;have hC2:=zl9 (kM x).tree _ _ (z % 8:Int) hlB (by omega) (by omega);have HTX:=show Hid _ from zn8 _ (zkx (kM x).tree (z % 8:Int) (zux x))
  have hbw2:=hb1.trans (hbB.mono hb1.size);rw [List.length_map] at hbB bN hlB hC2 hbw2;clear hv1 hv2 hl1 hlB hcn;go_wp2_with (fail);refine hC2.mono ?_;clear hC2;rintro e w3 ⟨v3,rfl,hl3,hb3⟩;obtain ⟨k3,x3,m3,a3,n3,c3,rfl⟩:=lies_shape hl3;have hbw3:=hbw2.trans (hb3.mono hbw2.size);have hbC:=(Below.refl w3.heap.size w3).alloc (jE _) (.cells #[.int .i64 k3,.string x3,.int .i64 m3,.slice a3 n3 c3] 25);have hl4:=(kC.to (w:=w3) (w':=w3) (Q:=fun b=>b<w3.heap.size) (fun b hb=>hb.2) (fun _ _ _=>rfl) hl3).below hbC;have hbw4:=hbw3.trans (hbC.mono hbw3.size);have hC3:=zzm _ (HP.out.below hbw4) _ _ hl4 HTX.out;have bN4:=(bN.below hb3).alloc (.cells #[.int .i64 k3,.string x3,.int .i64 m3,.slice a3 n3 c3] 25);have hnr:(qO (kM x).tree (z % 8:Int)).2=(qO (kM x).tree (z % 8:Int)).2:=rfl;generalize (qO (kM x).tree (z % 8:Int)).2=left at *;clear hl3 hl4 hnr;go_wp2_with (fail);refine hC3.mono ?_;clear hC3;rintro e w5 ⟨rfl,hb5⟩;have hbw5:=hbw4.trans (hb5.mono hbw4.size);have bN5:=bN4.below hb5;have u0:=bN5.cell 0 rfl;rcases hpr with hpr | ⟨hpr,hps,hpc⟩
  ·rw [hpr];go_wp2;go_ret;exact ⟨rfl,hbw5⟩
  ·have hck:=hpc (fun q hq=>by rcases zbf m K _ _ _ _ hq with h | h | h<;>omega) (by first | trivial | rw [HR.out])
   have hfy:vC (kM ⟨(xQ (qO (kM x).tree (z % 8:Int)).1).1.toArray⟩).tree=true:=by
    have:(kM ⟨(xQ (qO (kM x).tree (z % 8:Int)).1).1.toArray⟩).code=0:=by rw [hps]
    obtain ⟨_,_,_,_,_,_,h⟩:=zce _ this;exact h
   generalize (xQ (qO (kM x).tree (z % 8:Int)).1).1.toArray=ya at *;rw [hpr];obtain ⟨t1,t2,t3⟩:=zny (x:=⟨ya⟩) (m:=m) (K:=K') (by rw [hps]) hfy;have hC4:=zms ⟨ya⟩ qs (.slice fa qs.length fc) m K' w5 (HA.out w5 hbw5) (chk.FacesIn.below (show FacesIn w _ qs from HF.out) hbw5) (fun _=>⟨by rw [hps],hm,hk',t1,t2,t3⟩);rw [hck] at hC4;clear hpc hck hfy t1 t2 t3 hpr s1 s2 s3 e2 hk hk' e1;generalize (⟨ya⟩:ByteArray)=y at *;go_wp2_with (fail);refine hC4.mono ?_;clear hC4;rintro e w6 ⟨v6,rfl,hv6,-,hb6⟩;obtain ⟨k6,x6,m6,a6,n6,c6,rfl⟩:=lies_shape (hv6 rfl);have hbw6:=hbw5.trans (hb6.mono hbw5.size);have bN6:=bN5.below hb6;have u6:=bN6.cell 0 rfl;have hlt6:=bN6.lt;clear hv6;go_wp2;go_ret;exact ⟨rfl,(hbw6.alloc hbw6.size _).alloc (by have:=hbw6.size;simp;omega) _⟩
 ·have hv:=hv2 h0;subst hv;clear hv1 hv2;unfold zfw;have h0':¬ rc=0:=h0;go_wp2;go_ret;exact ⟨rfl,(hb1.alloc hb1.size _).alloc (by have:=hb1.size;simp;omega) _⟩
end pr
namespace chk
open Go.RowKit Go.ChangeShapes Go.WideShapes
open syn face
section
variable {H:Type} {enc:TypeId × Value->H} {W:World} {n:Nat}
theorem zhq {P:Program} {e:TypeId}:∀ {l:List (DataW H)} {d:DataW H},d∈l->∀ k∈d.weights P e,k∈DataW.weightsAll P e l
 | [],_,h,_,_=>by cases h
 | a :: l,d,h,k,hk=>by
  rw [DataW.weightsAll,List.mem_append];rcases List.mem_cons.1 h with rfl | h
  ·exact .inl hk
  ·exact .inr (zhq h k hk)
theorem zrk:Tryz.prog.bytesOf 41=64:=by kernel_rfl
theorem zyw:Tryz.prog.cellsOf 38=1:=by kernel_rfl
theorem zzu:Tryz.prog.cellsOf 39=1:=by kernel_rfl
theorem open_faces {v:Value} {x:DataW H × List MemPlace} (h:DataW.trod enc Tryz.prog W 0 (fun _=>true) true n 22 [v]=some x) (hwt:∀ k∈x.1.weights Tryz.prog 22,k<=reachBytes):∃ l,FacesIn W v l/\l.length+64<=2199023255552:=by
 rcases Deep.open_slice Tryz.underlying22 h with ⟨h0,_⟩|⟨a,len,cap,m,k,D,Pl,h0,_,hl,hm,hmm,rfl,hc⟩
 ·simp only [jq,and_true] at h0;exact ⟨[],⟨none,0,h0,by simp,fun h=>absurd rfl h⟩,by simp⟩
 ·simp only [jq,and_true] at h0;simp only [if_true] at hmm
  have hlim:len+64<=2199023255552:=by
   have h2:=hwt ((len+(m - len))*64) (by simp [DataW.weights,Tryz.underlying22,zrk]);unfold reachBytes at h2;omega
  have each:∀ i,i<len->∃ q:FV,W.cell? (a.add (i*3))=some (.string q.1.module)/\W.cell? (a.add (i*3+1))=some q.2.1/\W.cell? (a.add (i*3+2))=some q.2.2/\yZ W (fvV q) q.1/\q.1.module.size<=maxLen:=by
   intro i hi;obtain ⟨cs',h1,h2⟩:=hc i (by omega);rw [gN] at h1;obtain ⟨_,hlen,hcell⟩:=World.cells?_some h1;obtain ⟨y0,y1,y2,n',e,_,t0,t1,t2⟩:=Deep.trod_struct3 Tryz.underlying41 h2;simp only [zgm,zyw,zzu] at t0 t1 t2
   match cs',hlen with
   | [c0,c1,c2],_ =>
    simp only [List.drop,List.take,List.getElem?_cons_zero,List.getElem?_cons_succ,Option.getD_some] at t0 t1 t2;obtain ⟨s,e0,_,hs⟩:=DataW.trod_string Tryz.underlying9 t0;simp only [jq,and_true] at e0;subst e0
    have hD:∀ k∈(D i).weights Tryz.prog 41,k<=reachBytes:=fun k hk=>hwt k (by
     rw [DataW.weights,Tryz.underlying22]
     exact jF _ (List.mem_append.2 (.inl (zhq (List.mem_map.2 ⟨i,List.mem_range.2 hi,rfl⟩) k hk))))
    have eD:D i=.agg [y0.1,y1.1,y2.1]:=by
     have:=congrArg Prod.fst e;simpa using this
    rw [eD] at hD;obtain ⟨vs,hvs⟩:=zsa t1 (fun k hk=>hD k (by simp [DataW.weights,DataW.weightsEach,Tryz.underlying41,hk]));obtain ⟨ps,hps⟩:=zqo t2 (fun k hk=>hD k (by simp [DataW.weights,DataW.weightsEach,Tryz.underlying41,hk]));refine ⟨(⟨s,vs,ps⟩,c1,c2),?_,?_,?_,⟨c1,c2,rfl,hvs,hps⟩,hs⟩;·simpa [Deep.add_add] using hcell 0 (by omega)
    ·simpa [Deep.add_add] using hcell 1 (by omega)
    ·simpa [Deep.add_add] using hcell 2 (by omega)
  haveI:Inhabited FaceD:=⟨⟨default,[],[]⟩⟩
  haveI:Inhabited FV:=⟨(default,undef,undef)⟩
  obtain ⟨V,hV⟩:=Deep.choose_lt each;refine ⟨(List.range len).map V,⟨some a,cap,by simpa using h0,by simp;omega,fun hne=>?_⟩,by simpa using hlim⟩
  have hpos:0<len:=by
   rcases Nat.eq_zero_or_pos len with h | h
   ·subst h;simp at hne
   ·exact h
  have h00:=(hV 0 hpos).1;rw [Nat.zero_mul,Addr.add,jv rfl] at h00;obtain ⟨g,o,rfl⟩:=zcn h00;refine ⟨g,o,rfl,fun i hi=>?_⟩;have:=hV i (by simpa using hi);simp only [add_plain] at this;simp only [List.getElem_map,List.getElem_range];exact this
end
end chk
end Go.Proofs.YtaadmdlbkhcfnaaGreatDoor
