/- What the program's module answers: a contract. -/
import Derived.Test.YtaadmdlbkhcfnaaGreatDoorNC05
set_option maxHeartbeats 4000000
set_option linter.unusedVariables false
set_option linter.unusedSimpArgs false
set_option maxRecDepth 100000
namespace Go.Proofs.YtaadmdlbkhcfnaaGreatDoor
namespace syn
open Go.RowKit
open lexs (Tok Fine own_shape)
section
variable {w w' w0:World} {r G B:Nat} {ts:List Tok} {s:St}
theorem kG.kids {w3:World} {s3:St} {kv:Value} {ks:List Tree} {k m:Int} {x:ByteArray} {N B:Nat} (hr:r<w.heap.size) (hK:KO w B r G ts w3 s3 kv ks) (hN:w.heap.size<=N) (hB:N<B) (hl:ks.length<=4611686018427387904) : kG w r G ts (.node k x m ks,s3) (.returned (.agg #[.int .i64 k,.string x,.int .i64 m,kv])) ((((w3.setCell ⟨N,0,none⟩ (.int .i64 k)).setCell ⟨N,1,none⟩ (.string x)).setCell ⟨N,2,none⟩ (.int .i64 m)).setCell ⟨N,3,none⟩ kv) :=
 kG.fin hr hK.fr hK.ld hN hB (hK.kids.lies (fun b hb=>⟨hb.1,hb.2.1⟩) (fun g hg=>hK.kids.blk hg) hl)
theorem zzw {f:Nat} (hf:f<=100000) (ihS:∀ {g:Nat},g<=f->qI r G ts 119 (zI ts g)):qI r G ts 104 (qZ ts (f+1)):=by
 intro w s q hL hq;have c24:=kc25;have hr:=hL.lt;obtain ⟨i0,hi,hz0,hz1',hz2⟩:=info_parts bW;have hB0:=(Box4.new w (.int .i64 0) (.string empty) (.int .i64 0) (.slice none 0 0) 25).alloc (.cells #[.int .i64 6,.string empty,.int .i64 0,.slice none 0 0] 25);have hB1:=Box4.new (w.alloc (.cells #[.int .i64 0,.string empty,.int .i64 0,.slice none 0 0] 25)) (.int .i64 6) (.string empty) (.int .i64 0) (.slice none 0 0) 25;rw [jO] at hB1;have hL0:=(hL.alloc (.cells #[.int .i64 0,.string empty,.int .i64 0,.slice none 0 0] 25)).alloc (.cells #[.int .i64 6,.string empty,.int .i64 0,.slice none 0 0] 25);unfold qZ at hq;have hT:=uV (T:=9) hL0 ⟨#[123]⟩ (by decide) (M:=w.heap.size+2) (by simp);have HQ:Hid (zQ ts f [] (kF ts ⟨#[123]⟩ s)=some q):=hq;clear hq;generalize kF ts ⟨#[123]⟩ s=s0 at *;go_enter Tryz.func104,Tryz.ntmps104;go_wp2_with (fail);refine hT.mono ?_;rintro e w1 ⟨y,⟨hb,rfl,hF1⟩|⟨hb,rfl,hL1,hF1⟩⟩;·go_wp2;exact ⟨rfl,kG.lost ((dF ts f).bl _ _ _ hb HQ.out) hb (((Fr.al _ _).trans (Fr.al _ _)).trans hF1)⟩
 go_wp2
 go_loopg [] f (fun k wr=>∃ (ks:List Tree) (s1:St) (kv:Value),Hid (zQ ts k ks s1=some q)/\ks.length+k<=f/\KO w (w.heap.size+2) r G ts wr s1 kv ks/\Box4 wr (w.heap.size+1) (.int .i64 6) (.string empty) (.int .i64 0) kv/\Box4 wr w.heap.size (.int .i64 0) (.string empty) (.int .i64 0) (.slice none 0 0))
 case atStart =>
  exact ⟨[],s0,.slice none 0 0,HQ.out,by simp,⟨hL1,hr,by omega,((Fr.al _ _).trans (Fr.al _ _)).trans hF1,Kids.nil _ _ _⟩,hB1.fr hF1 (by omega),hB0.fr hF1 (by omega)⟩
 case round =>
  obtain ⟨ks,s1,kv,HL,hkf,hK,hb1,hb0⟩:=hrel;clear HQ;obtain ⟨a,c,rfl⟩:=hK.kids.shape
  cases gk with
  | zero=>have:=HL.out;unfold zQ at this;simp at this
  | succ k =>
   have hq2:=HL.out;clear HL;unfold zQ at hq2;rw [hK.ld.ok,ju (by decide)] at hq2;cases he:eqS (txt ts s1) ⟨#[125]⟩
   case true =>
    rw [he,jv rfl] at hq2;simp only [jh] at hq2;subst hq2;go_wp2_with (fail);refine (xO hK.ld ⟨#[125]⟩ (by decide) he rfl).mono ?_;rintro e w2 ⟨rfl,hL2,hF2⟩;have hK2:=hK.step hL2 hF2;obtain ⟨p0,p1,p2,p3,_,_,_,_⟩:=hb1.fr hF2 (by omega);obtain ⟨t0,t1,t2,t3,u0,u1,u2,u3⟩:=hb0.fr hF2 (by omega);go_wp2;exact jT (v:=.agg #[.int .i64 6,.string empty,.int .i64 0,.slice a ks.length c]) (by simp [results,Tryz.results104,go_sem,t0,t1,t2,t3]) rfl (kG.kids hr hK2 (jE _) (by omega) (by omega))
   case false =>
    rw [he,ju (by decide)] at hq2;obtain ⟨q1,h1,hq3⟩:=zN hq2;have HQ:Hid (zQ ts k (ks++[q1.1]) q1.2=some q):=hq3;clear hq2 hq3;go_wp2_with (fail);refine (xP hK.ld ⟨#[125]⟩ (by decide) he rfl).mono ?_;rintro e w2 ⟨rfl,hL2,hF2⟩;have hK2:=hK.step hL2 hF2;have hb12:=hb1.fr hF2 (by omega);have hb02:=hb0.fr hF2 (by omega);obtain ⟨p0,p1,p2,p3,_,_,_,_⟩:=id hb12;have hS:qI r G ts 119 (zI ts k):=ihS (by omega);by_cases hbq:q1.2.bad=true
    ·have HS:Hid (q.2=q1.2):=(dF ts k).bl _ _ _ hbq HQ.out;go_wp2;refine wp_region_any (by kernel_rfl) ?_;change wpAny _ _ _ _ _ _ _ (World.drew _);refine tkQ 0 (.pointer (some ⟨w.heap.size+1,3,none⟩)) ?_;refine tkQ 2 (.pointer (some ⟨r,0,none⟩)) ?_;refine wpAny_ready (rs:=[1,3]) (by kernel_rfl) (by simp) ?_;refine AllReady.cons rfl (fun K hK=>?_) (AllReady.cons rfl (fun K hK=>?_) AllReady.nil)
     focus
      go_simp;refine hK _ _ ?_;clear hK K;refine one0 3 fun K hK=>?_
     all_goals
      go_simp;go_at_call 119;refine (hS.lost (hL2.drewN 1) h1 hbq).mono ?_;rintro e w4 ⟨rfl,hF4⟩;go_wp2;exact ⟨rfl,kG.lost HS.out hbq ((hK2.fr.drewN 1).trans hF4)⟩
    ·have hbq':q1.2.bad=false:=by simpa using hbq
     go_wp2;refine wp_region_any (by kernel_rfl) ?_;change wpAny _ _ _ _ _ _ _ (World.drew _);refine tkQ 0 (.pointer (some ⟨w.heap.size+1,3,none⟩)) ?_;refine tkQ 2 (.pointer (some ⟨r,0,none⟩)) ?_;refine wpAny_ready (rs:=[1,3]) (by kernel_rfl) (by simp) ?_;refine AllReady.cons rfl (fun K hK=>?_) (AllReady.cons rfl (fun K hK=>?_) AllReady.nil)
     focus
      go_simp;refine hK _ _ ?_;clear hK K;refine one0 3 fun K hK=>?_
     all_goals
      go_simp;go_at_call 119;refine (hS.fine (hL2.drewN 1) h1 hbq').mono ?_;rintro e w4 ⟨v4,rfl,hl4,hL4,hF4⟩;obtain ⟨kc,yc,mc,_,rfl,ac,nc,cc,rfl⟩:=hl4.shape;have hF24:Fr r w2 w4:=((Fr.refl r w2).drewN 1).trans hF4;have hkb:∀ g,(Value.slice a ks.length c).ownBlock=some g->w.heap.size+2<=g/\g<w2.heap.size:=fun g hg=>hK2.kids.blk hg
      have hK4:=hK2.step hL4 hF24;have zz:=hF24.size;have z2:=hb12.lt
      have hlc:kC (fun b=>w.heap.size+2<=b/\b<w4.heap.size/\some b≠(Value.slice a ks.length c).ownBlock) w4 q1.1 (.agg #[.int .i64 kc,.string yc,.int .i64 mc,.slice ac nc cc]) :=
       hl4.to (fun b hb=>by
        have h1:w2.heap.size<=b:=hb.1
        exact ⟨by omega,hb.2,fun e=>by have:=(hkb b e.symm).2;omega⟩) (fun _ _ _=>rfl)
      obtain ⟨vs,ho,ha⟩:=hK4.kids;have HA:Hid (zR (fun b=>w.heap.size+2<=b/\b<w4.heap.size/\some b≠(Value.slice a ks.length c).ownBlock) w4 ks vs):=ha;have hlk:ks.length<=100001:=by omega
      have hb14:=hb12.fr hF24 (by omega);have hb04:=hb02.fr hF24 (by omega);obtain ⟨g0,g1,g2,g3,_,_,_,_⟩:=id hb14;have z4:w.heap.size+1<w4.heap.size:=hb14.lt;have z4':w.heap.size<w4.heap.size:=hb04.lt;clear ha;go_wp2
     focus
      refine one0 4 fun K hK=>?_
      go_simp;refine hK _ _ ?_;clear hK K
     rotate_left
     focus
      refine wpAny_ready (rs:=[1,4]) (by kernel_rfl) (by simp) ?_;refine AllReady.cons rfl (fun K hK=>?_) (AllReady.cons rfl (fun K hK=>?_) AllReady.nil)
      all_goals
       go_simp;refine hK _ _ ?_;clear hK K
      focus
       refine one0 4 fun K hK=>?_
       go_simp;refine hK _ _ ?_;clear hK K
      rotate_left
      focus
       refine one0 1 fun K hK=>?_
       go_simp;refine hK _ _ ?_;clear hK K
     all_goals
      refine one0 5 fun K hK=>?_
      refine step_append_lies _ (by rfl) (.tmp 13) (.tmp 16) 23 (by rfl) (w.heap.size+2) 25 i0 (.agg #[.int .i64 0,.string ⟨#[]⟩,.int .i64 0,.slice none 0 0]) 4 56 Tryz.underlying23 hi hz0 hz1' hz2 rfl (by decide) (.slice a ks.length c) ks.length (uK vs) rfl (ho.alloc _) ⟨w4.heap.size,0,none⟩ 1 1 [.int .i64 kc,.string yc,.int .i64 mc,.slice ac nc cc] rfl rfl (cM _ _ _ _ _ _ _ rfl) (by intro u hu;simp at hu;rcases hu with rfl | rfl | rfl | rfl<;>rfl) (by omega) (by unfold maxLen;omega) (by omega) (by simp;omega) (w4.heap.size+1) (by simp) ?_;intro g cap w5 hown' hgrow hat hlt;refine hK _ _ ?_;clear hK K;have hK5:=KO.pushed (q:=(.int .i64 kc,.string yc,.int .i64 mc,.slice ac nc cc)) (t:=q1.1) hK4 ho HA.out hlc hown' hgrow (by rcases hat with e | e;exact .inl e.symm;exact .inr (by rw [e];rfl));have hnb:(Value.slice a ks.length c).ownBlock≠some (w.heap.size+1):=fun e=>by have:=(hkb _ e).1;omega
      have hnb0:(Value.slice a ks.length c).ownBlock≠some w.heap.size:=fun e=>by have:=(hkb _ e).1;omega
      have hb15:=(hb14.alloc (.cells #[.int .i64 kc,.string yc,.int .i64 mc,.slice ac nc cc] 25)).grown hgrow hnb;have hb05:=(hb04.alloc (.cells #[.int .i64 kc,.string yc,.int .i64 mc,.slice ac nc cc] 25)).grown hgrow hnb0;obtain ⟨e0,e1,e2,e3,d0,d1,d2,d3⟩:=id hb15;refine one0 6 fun K hK=>?_
      go_simp;refine hK _ _ ?_;clear hK K;refine one0 7 fun K hK=>?_
      go_simp;refine hK _ _ ?_;clear hK K;refine wpAny_done (by kernel_rfl) ?_ _;go_wp2
      go_roundg k
      case rel=>exact ⟨ks++[q1.1],q1.2,_,HQ.out,by rw [jb];simp;omega,hK5.set (by omega) (by omega) 3 _,hb15.set3 _,hb05.other (by omega) _⟩
      case measure=>omega
end
section
variable {w w' w0:World} {r G B:Nat} {ts:List Tok} {s:St}
def zdk (ts:List Tok) (f:Nat) (s:St):Option (Tree × St) :=
 (zJ ts f s).bind fun x=>(qZ ts f x.2).bind fun b =>
  if eqS (txt ts b.2) ⟨#[101,108,115,101]⟩ then (qZ ts f b.2.next).bind fun c=>some (.node 10 empty 0 [x.1,b.1,c.1],c.2) else some (.node 10 empty 0 [x.1,b.1],b.2)
theorem zc6 {x y:ByteArray} (h:eqS (txt ts s) x=true) (hxy:(x.data.toList==y.data.toList)=false):eqS (txt ts s) y=false:=by
 have e:=zds h;rw [<- e,zke];exact hxy
theorem zwo (hL:Ld w r G ts s) (x y:ByteArray) (hx:[x,y].all vQ=true) {b:Bool} (h:(eqS (txt ts s) x||eqS (txt ts s) y)=b) {M:Nat} {T:TypeId} (hM:M=w.heap.size) : Calls Tryz.prog 81 #[.pointer (some ⟨r,0,none⟩),.slice (some ⟨M,0,none⟩) 2 2] (w.alloc (.cells #[.string x,.string y] T)) fun e w'=>e=.returned (.bool b)/\Ld w' r G ts s/\Fr r w w' :=
 (dO (hL.alloc _) [x,y] M 2 (by simp) hx (yE.two w x y T hM)).mono fun e w' ⟨h1,h2⟩=>⟨by rw [h1,<- h];unfold yP;simp,by rw [h2];exact hL.alloc _,by rw [h2];exact Fr.al _ _⟩
structure StatHyps (r G:Nat) (ts:List Tok) (f:Nat):Prop where
 x:∀ {g:Nat},g<=f->GoodX r G ts g
 b:qI r G ts 104 (qZ ts f)
 c:qI r G ts 137 (zdk ts f)
 hf:f<=100000
theorem zz9 {f:Nat} (H:StatHyps r G ts f):qI r G ts 119 (zI ts (f+1)):=by
 intro w s q hL hq;have c24:=kc25;have hr:=hL.lt;unfold zI at hq;have hB0:=Box4.new w (.int .i64 0) (.string empty) (.int .i64 0) (.slice none 0 0) 25;go_enter Tryz.func119,Tryz.ntmps119;go_wp2_with (fail);refine (zwo (T:=9) (hL.alloc (.cells #[.int .i64 0,.string empty,.int .i64 0,.slice none 0 0] 25)) ⟨#[108,111,119]⟩ ⟨#[104,105,103,104]⟩ (by decide) rfl (M:=w.heap.size+1) (by simp)).mono ?_;rintro e w1 ⟨rfl,hL1,hF0⟩;cases hlh:(eqS (txt ts s) ⟨#[108,111,119]⟩||eqS (txt ts s) ⟨#[104,105,103,104]⟩)
 case true =>
  have z0:=hF0.size;rw [jO] at z0
  have ho:∀ y,((⟨#[108,111,119]⟩:ByteArray).data.toList==y.data.toList)=false->((⟨#[104,105,103,104]⟩:ByteArray).data.toList==y.data.toList)=false->eqS (txt ts s) y=false:=fun y h1 h2=>by
   rcases Bool.or_eq_true_iff.1 hlh with h | h
   ·exact zc6 h h1
   ·exact zc6 h h2
  rw [ho ⟨#[105,102]⟩ rfl rfl,ju (by decide),ho ⟨#[119,104,105,108,101]⟩ rfl rfl,ju (by decide),hlh,jv rfl] at hq
  obtain ⟨q1,h1,rfl⟩:∃ q1,zdp ts f s=some q1/\q=(q1.1,kF ts ⟨#[59]⟩ q1.2):=by
   obtain ⟨y,h1,h2⟩:=zN hq;simp only [jh] at h2;exact ⟨_,by unfold zdp;rw [h1];rfl,h2.symm⟩
  go_wp2_with (fail);refine (zz4 (H.x (jE _)).e hL1 h1).mono ?_;rintro e w3 (⟨hb3,rfl,hF3⟩|⟨hb3,v3,rfl,hl3,hL3,hF3⟩);·go_wp2;exact ⟨rfl,kG.lost (qF (by decide) hb3) hb3 (((Fr.al _ _).trans hF0).trans hF3)⟩
  obtain ⟨k,x,m,_,rfl,a,n,c,rfl⟩:=hl3.shape;have z3:=hF3.size;go_wp2_with (fail);refine (gL hL3 _ _ _ _ _ _).mono ?_;rintro e we (⟨hbe,rfl,hFe⟩|⟨hbe,rfl,hLe,hFe⟩);·go_wp2;exact ⟨rfl,kG.lost rfl hbe ((((Fr.al _ _).trans hF0).trans hF3).trans hFe)⟩
  obtain ⟨q0,q1',q2,q3,t0,t1,t2,t3⟩:=((hB0.fr hF0 (by omega)).fr hF3 (by omega)).fr hFe (by omega);go_wp2;exact jT (v:=.agg #[.int .i64 k,.string x,.int .i64 m,.slice a n c]) (by simp [results,Tryz.results119,go_sem,q0,q1',q2,q3,empty]) rfl (kG.fin hr ((((Fr.al _ _).trans hF0).trans hF3).trans hFe) hLe (jE _) (show w.heap.size<w1.heap.size by omega) ((hl3).fr (by omega) hFe))
 cases h_do:eqS (txt ts s) ⟨#[100,111]⟩
 case true =>
  go_wp2_with (fail);refine (xO hL1 ⟨#[100,111]⟩ (by decide) h_do rfl).mono ?_;rintro e w1 ⟨rfl,hL1,hFx⟩;replace hF0:=hF0.trans hFx;clear hFx;have z0:=hF0.size;rw [jO] at z0;rw [show eqS (txt ts s) ⟨#[105,102]⟩=false from zc6 h_do rfl,ju (by decide),show eqS (txt ts s) ⟨#[119,104,105,108,101]⟩=false from zc6 h_do rfl,ju (by decide),hlh,ju (by decide),h_do,jv rfl] at hq;obtain ⟨q1,h1,h2⟩:=zN hq;simp only [jh] at h2;subst h2
  have S1:Hid ((whole ts s.next).2.bad=true->kF ts ⟨#[59]⟩ q1.2=(whole ts s.next).2):=fun hb=>by
   rw [(stuck ts f).c _ _ _ hb h1];exact qF (by decide) hb
  obtain ⟨f,rfl⟩:∃ f',f=f'+1:=by
   cases f with
   | zero=>unfold zT at h1;simp at h1
   | succ f=>exact ⟨f,rfl⟩
  have S2:Hid ((kF ts ⟨#[40]⟩ (whole ts s.next).2).bad=true->kF ts ⟨#[59]⟩ q1.2=kF ts ⟨#[40]⟩ (whole ts s.next).2):=fun hb=>by
   have e1:q1.2=kF ts ⟨#[40]⟩ (whole ts s.next).2:=by
    unfold zT at h1;rw [zX (by decide) hb,ju (by decide)] at h1;exact (stuck ts f).cl _ _ _ _ _ hb h1
   rw [e1];exact qF (by decide) hb
  go_wp2_with (fail);refine (zbh hL1).mono ?_;rintro e w2 (⟨hb2,rfl,hF2⟩|⟨hb2,rfl,hL2,hF2⟩);·go_wp2;exact ⟨rfl,kG.lost (S1.out hb2) hb2 (((Fr.al _ _).trans hF0).trans hF2)⟩
  go_wp2_with (fail);refine (uV hL2 ⟨#[40]⟩ (by decide) rfl).mono ?_;rintro e w4 ⟨y4,⟨hb4,rfl,hF4⟩|⟨hb4,rfl,hL4,hF4⟩⟩;·go_wp2;exact ⟨rfl,kG.lost (S2.out hb4) hb4 ((((Fr.al _ _).trans hF0).trans hF2).trans hF4)⟩
  obtain ⟨p,hp,rfl⟩:=zek hb4 h1;go_wp2_with (fail);refine (zg2 (fun h=>(H.x (by omega)).e) (by have:=H.hf;omega) _ hL4 hp).mono ?_;rintro e w3 (⟨hb3,rfl,hF3⟩|⟨hb3,v3,rfl,hl3,hL3,hF3⟩);·go_wp2;exact ⟨rfl,kG.lost (qF (by decide) hb3) hb3 (((((Fr.al _ _).trans hF0).trans hF2).trans hF4).trans hF3)⟩
  obtain ⟨k,x,m,_,rfl,a,n,c,rfl⟩:=hl3.shape;have z2:=hF2.size;have z3:=hF3.size;have z4:=hF4.size;go_wp2_with (fail);refine (gL (hL3.alloc _) _ _ _ _ _ _).mono ?_;rintro e we (⟨hbe,rfl,hFe⟩|⟨hbe,rfl,hLe,hFe⟩);·go_wp2;exact ⟨rfl,kG.lost rfl hbe ((((((Fr.al _ _).trans hF0).trans hF2).trans hF4).trans (hF3.trans (Fr.al _ _))).trans hFe)⟩
  obtain ⟨q0,q1',q2,q3,t0,t1,t2,t3⟩:=((((((hB0.fr hF0 (by omega)).fr hF2 (by omega)).fr hF4 (by omega)).fr hF3 (by omega)).alloc _)).fr hFe (by omega);go_wp2;exact jT (v:=.agg #[.int .i64 9,.string empty,.int .i64 0,.slice (some ⟨w3.heap.size,0,none⟩) 1 1]) (by simp [results,Tryz.results119,go_sem,q0,q1',q2,q3,empty]) rfl (kG.fin hr ((((((Fr.al _ _).trans hF0).trans hF2).trans hF4).trans (hF3.trans (Fr.al _ _))).trans hFe) hLe (jE _) (show w.heap.size<w4.heap.size by omega) (((hl3.rowed (k:=9) (x:=empty) (m:=0) (c:=1) hF3.size rfl)).fr (by omega) hFe))
 go_wp2_with (fail);refine (xP hL1 ⟨#[100,111]⟩ (by decide) h_do rfl).mono ?_;rintro e w1 ⟨rfl,hL1,hFx⟩;replace hF0:=hF0.trans hFx;clear hFx;cases h_if:eqS (txt ts s) ⟨#[105,102]⟩
 case true =>
  go_wp2_with (fail);refine (xO hL1 ⟨#[105,102]⟩ (by decide) h_if rfl).mono ?_;rintro e w1 ⟨rfl,hL1,hFx⟩;replace hF0:=hF0.trans hFx;clear hFx;have z0:=hF0.size;rw [jO] at z0;rw [h_if,jv rfl] at hq;have hq':zdk ts f s.next=some q:=hq;go_wp2_with (fail);refine (H.c hL1 hq').mono ?_;rintro e w9 (⟨hb9,rfl,hF9⟩|⟨hb9,v9,rfl,hl9,hL9,hF9⟩);·go_wp2;exact ⟨rfl,kG.lost rfl hb9 (((Fr.al _ _).trans hF0).trans hF9)⟩
  obtain ⟨k9,x9,m9,_,rfl,a9,n9,c9,rfl⟩:=hl9.shape;obtain ⟨q0,q1',q2,q3,t0,t1,t2,t3⟩:=(hB0.fr hF0 (by omega)).fr hF9 (by omega);go_wp2;exact jT (v:=.agg #[.int .i64 k9,.string x9,.int .i64 m9,.slice a9 n9 c9]) (by simp [results,Tryz.results119,go_sem,q0,q1',q2,q3]) rfl (kG.hand hr ((Fr.al _ _).trans hF0) (by omega) hb9 hl9 hL9 hF9)
 go_wp2_with (fail);refine (xP hL1 ⟨#[105,102]⟩ (by decide) h_if rfl).mono ?_;rintro e w1 ⟨rfl,hL1,hFx⟩;replace hF0:=hF0.trans hFx;clear hFx;cases h_while:eqS (txt ts s) ⟨#[119,104,105,108,101]⟩
 case true =>
  go_wp2_with (fail);refine (xO hL1 ⟨#[119,104,105,108,101]⟩ (by decide) h_while rfl).mono ?_;rintro e w1 ⟨rfl,hL1,hFx⟩;replace hF0:=hF0.trans hFx;clear hFx;have z0:=hF0.size;rw [jO] at z0;rw [h_if,ju (by decide),h_while,jv rfl] at hq;obtain ⟨q1,h1,h2⟩:=zN hq;obtain ⟨q2,h3,h4⟩:=zN h2;simp only [jh] at h4;subst h4;have S1:Hid (q1.2.bad=true->q2.2=q1.2):=fun hb=>(dF ts f).bk _ _ hb h3
  go_wp2_with (fail);refine ((H.x (jE _)).a hL1 h1).mono ?_;rintro e w2 (⟨hb2,rfl,hF2⟩|⟨hb2,v2,rfl,hl2,hL2,hF2⟩);·go_wp2;exact ⟨rfl,kG.lost (S1.out hb2) hb2 (((Fr.al _ _).trans hF0).trans hF2)⟩
  obtain ⟨k,x,m,_,rfl,a,n,c,rfl⟩:=hl2.shape;go_wp2_with (fail);refine (H.b hL2 h3).mono ?_;rintro e w3 (⟨hb3,rfl,hF3⟩|⟨hb3,v3,rfl,hl3,hL3,hF3⟩);·go_wp2;exact ⟨rfl,kG.lost rfl hb3 ((((Fr.al _ _).trans hF0).trans hF2).trans hF3)⟩
  obtain ⟨k3,x3,m3,_,rfl,a3,n3,c3,rfl⟩:=hl3.shape;have z2:=hF2.size;have z3:=hF3.size;have y4:w.heap.size<w3.heap.size:=by omega
  have hFw:Fr r w w3:=(((Fr.al _ _).trans hF0).trans hF2).trans hF3;obtain ⟨f0,f1,f2,f3,i0,i1,i2,i3⟩:=((hB0.fr hF0 (by omega)).fr hF2 (by omega)).fr hF3 (by omega);go_wp2;refine jT (v:=.agg #[.int .i64 11,.string empty,.int .i64 0,.slice (some ⟨w3.heap.size,0,none⟩) 2 2]) (by simp [results,Tryz.results119,go_sem,f0,f1,f2,f3,y4,empty]) rfl ?_;have m3':kC (fun b=>w.heap.size<b/\b<w3.heap.size) w3 q2.1 (.agg #[.int .i64 k3,.string x3,.int .i64 m3,.slice a3 n3 c3]):=hl3.to (fun b hb=>⟨by omega,hb.2⟩) (fun _ _ _=>rfl);have n3':kC (fun b=>w.heap.size<b/\b<w3.heap.size) w3 q1.1 (.agg #[.int .i64 k,.string x,.int .i64 m,.slice a n c]):=hl2.frP (x:=r) hF3 (fun b hb=>⟨hb.2,by omega⟩) (fun b hb=>⟨by omega,by omega⟩);have hput:=Fr.put w3 w.heap.size (.int .i64 11) (.string empty) (.int .i64 0) (.slice (some ⟨w3.heap.size,0,none⟩) 2 2);have n4':=n3'.frP (x:=w.heap.size) hput (fun b hb=>⟨hb.2,by omega⟩) (fun b hb=>hb);have m4':=m3'.frP (x:=w.heap.size) hput (fun b hb=>⟨hb.2,by omega⟩) (fun b hb=>hb);exact .inr ⟨hb3,_,rfl,n4'.rowed2P m4' (fun b hb=>by simpa using hb.2) (fun b hb=>⟨by omega,by simp;omega⟩) (by simp) ⟨by omega,by simp⟩,(hL3.put4 (by omega) _ _ _ _).alloc _,(hFw.put4 (jE _) _ _ _ _).alloc _⟩
 go_wp2_with (fail);refine (xP hL1 ⟨#[119,104,105,108,101]⟩ (by decide) h_while rfl).mono ?_;rintro e w1 ⟨rfl,hL1,hFx⟩;replace hF0:=hF0.trans hFx;clear hFx;cases h_out:eqS (txt ts s) ⟨#[111,117,116]⟩
 case true =>
  go_wp2_with (fail);refine (xO hL1 ⟨#[111,117,116]⟩ (by decide) h_out rfl).mono ?_;rintro e w1 ⟨rfl,hL1,hFx⟩;replace hF0:=hF0.trans hFx;clear hFx;have z0:=hF0.size;rw [jO] at z0;rw [h_if,ju (by decide),h_while,ju (by decide),hlh,ju (by decide),h_do,ju (by decide),h_out,jv rfl] at hq;obtain ⟨q1,h1,h2⟩:=zN hq;simp only [jh] at h2;subst h2
  have S1:Hid ((label ts s.next).2.bad=true->kF ts ⟨#[59]⟩ q1.2=(label ts s.next).2):=fun hb=>by
   rw [(stuck ts f).e _ _ hb h1];exact qF (by decide) hb
  go_wp2_with (fail);refine (dZ hL1).mono ?_;rintro e w2 (⟨hb2,rfl,hF2⟩|⟨hb2,rfl,hL2,hF2⟩);·go_wp2;exact ⟨rfl,kG.lost (S1.out hb2) hb2 (((Fr.al _ _).trans hF0).trans hF2)⟩
  go_wp2_with (fail);refine ((H.x (jE _)).e hL2 h1).mono ?_;rintro e w3 (⟨hb3,rfl,hF3⟩|⟨hb3,v3,rfl,hl3,hL3,hF3⟩);·go_wp2;exact ⟨rfl,kG.lost (qF (by decide) hb3) hb3 ((((Fr.al _ _).trans hF0).trans hF2).trans hF3)⟩
  obtain ⟨k,x,m,_,rfl,a,n,c,rfl⟩:=hl3.shape;have z2:=hF2.size;have z3:=hF3.size;go_wp2_with (fail);refine (gL (hL3.alloc _) _ _ _ _ _ _).mono ?_;rintro e we (⟨hbe,rfl,hFe⟩|⟨hbe,rfl,hLe,hFe⟩);·go_wp2;exact ⟨rfl,kG.lost rfl hbe (((((Fr.al _ _).trans hF0).trans hF2).trans (hF3.trans (Fr.al _ _))).trans hFe)⟩
  obtain ⟨q0,q1',q2,q3,t0,t1,t2,t3⟩:=(((((hB0.fr hF0 (by omega)).fr hF2 (by omega)).fr hF3 (by omega)).alloc _)).fr hFe (by omega);go_wp2;exact jT (v:=.agg #[.int .i64 12,.string empty,.int .i64 (label ts s.next).1,.slice (some ⟨w3.heap.size,0,none⟩) 1 1]) (by simp [results,Tryz.results119,go_sem,q0,q1',q2,q3,empty]) rfl (kG.fin hr (((((Fr.al _ _).trans hF0).trans hF2).trans (hF3.trans (Fr.al _ _))).trans hFe) hLe (jE _) (show w.heap.size<w2.heap.size by omega) (((hl3.rowed (k:=12) (x:=empty) (m:=(label ts s.next).1) (c:=1) hF3.size rfl)).fr (by omega) hFe))
 go_wp2_with (fail);refine (xP hL1 ⟨#[111,117,116]⟩ (by decide) h_out rfl).mono ?_;rintro e w1 ⟨rfl,hL1,hFx⟩;replace hF0:=hF0.trans hFx;clear hFx;cases h_in:eqS (txt ts s) ⟨#[105,110]⟩
 case true =>
  go_wp2_with (fail);refine (xO hL1 ⟨#[105,110]⟩ (by decide) h_in rfl).mono ?_;rintro e w1 ⟨rfl,hL1,hFx⟩;replace hF0:=hF0.trans hFx;clear hFx;have z0:=hF0.size;rw [jO] at z0;rw [h_if,ju (by decide),h_while,ju (by decide),hlh,ju (by decide),h_do,ju (by decide),h_out,ju (by decide),h_in,jv rfl] at hq;obtain ⟨q1,h1,h2⟩:=zN hq;simp only [jh] at h2;subst h2
  have S2:Hid ((whole ts (label ts s.next).2).2.bad=true->kF ts ⟨#[59]⟩ q1.2=(whole ts (label ts s.next).2).2):=fun hb=>by
   rw [(stuck ts f).p _ _ _ hb h1];exact qF (by decide) hb
  have S1:Hid ((label ts s.next).2.bad=true->kF ts ⟨#[59]⟩ q1.2=(label ts s.next).2):=fun hb=>by
   have e1:=zfk (ts:=ts) hb;rw [S2.out (by rw [e1];exact hb),e1]
  go_wp2_with (fail);refine (dZ hL1).mono ?_;rintro e w2 (⟨hb2,rfl,hF2⟩|⟨hb2,rfl,hL2,hF2⟩);·go_wp2;exact ⟨rfl,kG.lost (S1.out hb2) hb2 (((Fr.al _ _).trans hF0).trans hF2)⟩
  go_wp2_with (fail);refine (zbh hL2).mono ?_;rintro e w4 (⟨hb4,rfl,hF4⟩|⟨hb4,rfl,hL4,hF4⟩);·go_wp2;exact ⟨rfl,kG.lost (S2.out hb4) hb4 ((((Fr.al _ _).trans hF0).trans hF2).trans hF4)⟩
  go_wp2_with (fail);refine ((H.x (jE _)).p _ hL4 h1).mono ?_;rintro e w3 (⟨hb3,rfl,hF3⟩|⟨hb3,v3,rfl,hl3,hL3,hF3⟩);·go_wp2;exact ⟨rfl,kG.lost (qF (by decide) hb3) hb3 (((((Fr.al _ _).trans hF0).trans hF2).trans hF4).trans hF3)⟩
  obtain ⟨k,x,m,_,rfl,a,n,c,rfl⟩:=hl3.shape;have z2:=hF2.size;have z3:=hF3.size;have z4:=hF4.size;go_wp2_with (fail);refine (gL (hL3.alloc _) _ _ _ _ _ _).mono ?_;rintro e we (⟨hbe,rfl,hFe⟩|⟨hbe,rfl,hLe,hFe⟩);·go_wp2;exact ⟨rfl,kG.lost rfl hbe ((((((Fr.al _ _).trans hF0).trans hF2).trans hF4).trans (hF3.trans (Fr.al _ _))).trans hFe)⟩
  obtain ⟨q0,q1',q2,q3,t0,t1,t2,t3⟩:=((((((hB0.fr hF0 (by omega)).fr hF2 (by omega)).fr hF4 (by omega)).fr hF3 (by omega)).alloc _)).fr hFe (by omega);go_wp2;exact jT (v:=.agg #[.int .i64 13,.string empty,.int .i64 (label ts s.next).1,.slice (some ⟨w3.heap.size,0,none⟩) 1 1]) (by simp [results,Tryz.results119,go_sem,q0,q1',q2,q3,empty]) rfl (kG.fin hr ((((((Fr.al _ _).trans hF0).trans hF2).trans hF4).trans (hF3.trans (Fr.al _ _))).trans hFe) hLe (jE _) (show w.heap.size<w4.heap.size by omega) (((hl3.rowed (k:=13) (x:=empty) (m:=(label ts s.next).1) (c:=1) hF3.size rfl)).fr (by omega) hFe))
 go_wp2_with (fail);refine (xP hL1 ⟨#[105,110]⟩ (by decide) h_in rfl).mono ?_;rintro e w1 ⟨rfl,hL1,hFx⟩;replace hF0:=hF0.trans hFx;clear hFx;cases h_return:eqS (txt ts s) ⟨#[114,101,116,117,114,110]⟩
 case true =>
  go_wp2_with (fail);refine (xO hL1 ⟨#[114,101,116,117,114,110]⟩ (by decide) h_return rfl).mono ?_;rintro e w1 ⟨rfl,hL1,hFx⟩;replace hF0:=hF0.trans hFx;clear hFx;have z0:=hF0.size;rw [jO] at z0;rw [h_if,ju (by decide),h_while,ju (by decide),hlh,ju (by decide),h_do,ju (by decide),h_out,ju (by decide),h_in,ju (by decide),h_return,jv rfl] at hq;obtain ⟨q1,h1,h2⟩:=zN hq;simp only [jh] at h2;subst h2;go_wp2_with (fail);refine ((H.x (jE _)).e hL1 h1).mono ?_;rintro e w3 (⟨hb3,rfl,hF3⟩|⟨hb3,v3,rfl,hl3,hL3,hF3⟩);·go_wp2;exact ⟨rfl,kG.lost (qF (by decide) hb3) hb3 (((Fr.al _ _).trans hF0).trans hF3)⟩
  obtain ⟨k,x,m,_,rfl,a,n,c,rfl⟩:=hl3.shape;have z3:=hF3.size;go_wp2_with (fail);refine (gL (hL3.alloc _) _ _ _ _ _ _).mono ?_;rintro e we (⟨hbe,rfl,hFe⟩|⟨hbe,rfl,hLe,hFe⟩);·go_wp2;exact ⟨rfl,kG.lost rfl hbe ((((Fr.al _ _).trans hF0).trans (hF3.trans (Fr.al _ _))).trans hFe)⟩
  obtain ⟨q0,q1',q2,q3,t0,t1,t2,t3⟩:=((((hB0.fr hF0 (by omega)).fr hF3 (by omega)).alloc _)).fr hFe (by omega);go_wp2;exact jT (v:=.agg #[.int .i64 14,.string empty,.int .i64 0,.slice (some ⟨w3.heap.size,0,none⟩) 1 1]) (by simp [results,Tryz.results119,go_sem,q0,q1',q2,q3,empty]) rfl (kG.fin hr ((((Fr.al _ _).trans hF0).trans (hF3.trans (Fr.al _ _))).trans hFe) hLe (jE _) (show w.heap.size<w1.heap.size by omega) (((hl3.rowed (k:=14) (x:=empty) (m:=0) (c:=1) hF3.size rfl)).fr (by omega) hFe))
 go_wp2_with (fail);refine (xP hL1 ⟨#[114,101,116,117,114,110]⟩ (by decide) h_return rfl).mono ?_;rintro e w1 ⟨rfl,hL1,hFx⟩;replace hF0:=hF0.trans hFx;clear hFx;have z0:=hF0.size;rw [jO] at z0;rw [h_if,ju (by decide),h_while,ju (by decide),hlh,ju (by decide),h_do,ju (by decide),h_out,ju (by decide),h_in,ju (by decide),h_return,ju (by decide)] at hq
 obtain ⟨q1,h1,rfl⟩:∃ q1,zd4 ts f s=some q1/\q=(q1.1,kF ts ⟨#[59]⟩ q1.2):=by
  obtain ⟨y,h1,h2⟩:=zN hq;obtain ⟨z,h3,h4⟩:=zN h2;simp only [jh] at h4;refine ⟨_,by unfold zd4;rw [h1];simp only [jf];rw [h3];rfl,h4.symm⟩
 go_wp2_with (fail);refine (ya8 (H.x (jE _)).p (H.x (jE _)).e hL1 h1).mono ?_;rintro e w3 (⟨hb3,rfl,hF3⟩|⟨hb3,v3,rfl,hl3,hL3,hF3⟩);·go_wp2;exact ⟨rfl,kG.lost (qF (by decide) hb3) hb3 (((Fr.al _ _).trans hF0).trans hF3)⟩
 obtain ⟨k,x,m,_,rfl,a,n,c,rfl⟩:=hl3.shape;have z3:=hF3.size;go_wp2_with (fail);refine (gL hL3 _ _ _ _ _ _).mono ?_;rintro e we (⟨hbe,rfl,hFe⟩|⟨hbe,rfl,hLe,hFe⟩);·go_wp2;exact ⟨rfl,kG.lost rfl hbe ((((Fr.al _ _).trans hF0).trans hF3).trans hFe)⟩
 obtain ⟨q0,q1',q2,q3,t0,t1,t2,t3⟩:=((hB0.fr hF0 (by omega)).fr hF3 (by omega)).fr hFe (by omega);go_wp2;exact jT (v:=.agg #[.int .i64 k,.string x,.int .i64 m,.slice a n c]) (by simp [results,Tryz.results119,go_sem,q0,q1',q2,q3,empty]) rfl (kG.fin hr ((((Fr.al _ _).trans hF0).trans hF3).trans hFe) hLe (jE _) (show w.heap.size<w1.heap.size by omega) ((hl3).fr (by omega) hFe))
end
section
variable {w w' w0:World} {r G B:Nat} {ts:List Tok} {s:St}
theorem zvk {f:Nat} (ihA:qI r G ts 138 (zJ ts f)) (ihB:qI r G ts 104 (qZ ts f)):qI r G ts 137 (zdk ts f):=by
 intro w s q hL hq;have c24:=kc25;have hr:=hL.lt;obtain ⟨i0,hi,hz0,hz1',hz2⟩:=info_parts bW;have hB0:=Box4.new w (.int .i64 0) (.string empty) (.int .i64 0) (.slice none 0 0) 25;unfold zdk at hq;obtain ⟨q1,h1,h2⟩:=zN hq;obtain ⟨q2,h3,h4⟩:=zN h2;clear hq h2
 have hT:Hid (q2.2.bad=true->q.2=q2.2):=fun hb=>by
  rw [zX (by decide) hb,ju (by decide)] at h4;simp only [jh] at h4;rw [<- h4]
 have S1:Hid (q1.2.bad=true->q.2=q1.2):=fun hb=>by
  have e1:=(dF ts f).bk _ _ hb h3;rw [hT.out (by rw [e1];exact hb),e1]
 have HQ:Hid ((if eqS (txt ts q2.2) ⟨#[101,108,115,101]⟩ then (qZ ts f q2.2.next).bind fun c=>some (.node 10 empty 0 [q1.1,q2.1,c.1],c.2) else some (.node 10 empty 0 [q1.1,q2.1],q2.2))=some q):=h4;clear h4;go_enter Tryz.func137,Tryz.ntmps137;go_wp2_with (fail);refine (ihA (hL.alloc _) h1).mono ?_;rintro e w2 (⟨hb2,rfl,hF2⟩|⟨hb2,v2,rfl,hl2,hL2,hF2⟩);·go_wp2;exact ⟨rfl,kG.lost (S1.out hb2) hb2 ((Fr.al _ _).trans hF2)⟩
 obtain ⟨k,x,m,_,rfl,a,n,c,rfl⟩:=hl2.shape;go_wp2_with (fail);refine (ihB hL2 h3).mono ?_;rintro e w3 (⟨hb3,rfl,hF3⟩|⟨hb3,v3,rfl,hl3,hL3,hF3⟩);·go_wp2;exact ⟨rfl,kG.lost (hT.out hb3) hb3 (((Fr.al _ _).trans hF2).trans hF3)⟩
 obtain ⟨k3,x3,m3,_,rfl,a3,n3,c3,rfl⟩:=hl3.shape;have z2:=hF2.size;have z3:=hF3.size;rw [jO] at z2 hl2;have hFw:Fr r w w3:=((Fr.al _ _).trans hF2).trans hF3;have hb0:=(hB0.fr hF2 (by omega)).fr hF3 (by omega);have m3':kC (fun b=>w.heap.size<b/\b<w3.heap.size) w3 q2.1 (.agg #[.int .i64 k3,.string x3,.int .i64 m3,.slice a3 n3 c3]):=hl3.to (fun b hb=>⟨by omega,hb.2⟩) (fun _ _ _=>rfl);have n3':kC (fun b=>w.heap.size<b/\b<w3.heap.size) w3 q1.1 (.agg #[.int .i64 k,.string x,.int .i64 m,.slice a n c]):=hl2.frP (x:=r) hF3 (fun b hb=>⟨hb.2,by omega⟩) (fun b hb=>⟨by omega,by omega⟩);cases he:eqS (txt ts q2.2) ⟨#[101,108,115,101]⟩
 case false =>
  have hq2:=HQ.out;rw [he,ju (by decide)] at hq2;simp only [jh] at hq2;subst hq2;have hrow:=n3'.rowed2P (T:=25) (k:=10) (x:=empty) (m:=0) (c:=2) (Q:=fun b=>w.heap.size<b/\b<(w3.alloc (.cells #[.int .i64 k,.string x,.int .i64 m,.slice a n c,.int .i64 k3,.string x3,.int .i64 m3,.slice a3 n3 c3] 25)).heap.size) m3' (fun b hb=>hb.2) (fun b hb=>⟨hb.1,by rw [jO];omega⟩) rfl ⟨by omega,by rw [jO];omega⟩;go_wp2_with (fail);refine (xP ((hL3.alloc _).alloc _) ⟨#[101,108,115,101]⟩ (by decide) he (by simp)).mono ?_;rintro e w4 ⟨rfl,hL4,hF4⟩;obtain ⟨f0,f1,f2,f3,o0,o1,o2,o3⟩:=((hb0.alloc _).alloc _).fr hF4 (by omega);obtain ⟨p0,p1,p2,p3,_,_,_,_⟩:=(Box4.new (w3.alloc (.cells #[.int .i64 k,.string x,.int .i64 m,.slice a n c,.int .i64 k3,.string x3,.int .i64 m3,.slice a3 n3 c3] 25)) (.int .i64 10) (.string empty) (.int .i64 0) (.slice (some ⟨w3.heap.size,0,none⟩) 2 2) 25).fr hF4 (by simp<;>omega);simp only [jO] at p0 p1 p2 p3;go_wp2
  exact jT (v:=.agg #[.int .i64 10,.string empty,.int .i64 0,.slice (some ⟨w3.heap.size,0,none⟩) 2 2]) (by simp [results,Tryz.results137,go_sem,f0,f1,f2,f3]) rfl
   (kG.fin hr (hFw.trans (((Fr.al _ _).trans (Fr.al _ _)).trans hF4)) hL4 (jE _) (Nat.lt_succ_self _) (hrow.frP (x:=r) ((Fr.al _ _).trans hF4) (fun b hb=>⟨hb.2,by omega⟩) (fun b hb=>⟨by omega,jo hb.2 ((Fr.al (r:=r) _ _).trans hF4).size⟩)))
 case true =>
  have hq2:=HQ.out;rw [he,jv rfl] at hq2;obtain ⟨q3,h5,h6⟩:=zN hq2;simp only [jh] at h6;subst h6;clear hq2 HQ hT S1;go_wp2_with (fail);refine (xO ((hL3.alloc _).alloc _) ⟨#[101,108,115,101]⟩ (by decide) he (by simp)).mono ?_;rintro e w4 ⟨rfl,hL4,hF4⟩;have hF34:Fr r w3 w4:=((Fr.al _ _).trans (Fr.al _ _)).trans hF4;have hFw4:Fr r w w4:=hFw.trans hF34;have z4:=hF4.size;simp only [jO] at z4;have hb34:=(Box4.new (w3.alloc (.cells #[.int .i64 k,.string x,.int .i64 m,.slice a n c,.int .i64 k3,.string x3,.int .i64 m3,.slice a3 n3 c3] 25)) (.int .i64 10) (.string empty) (.int .i64 0) (.slice (some ⟨w3.heap.size,0,none⟩) 2 2) 25).fr hF4 (by simp<;>omega);rw [jO] at hb34;have hb04:=((hb0.alloc _).alloc _).fr hF4 (by omega);have ho4:=((World.ownsRow_lit (e:=25) (size:=4) w3 #[.int .i64 k,.string x,.int .i64 m,.slice a n c,.int .i64 k3,.string x3,.int .i64 m3,.slice a3 n3 c3] 2 (base:=w.heap.size+1) (by omega) (by decide) rfl).alloc (.cells #[.int .i64 10,.string empty,.int .i64 0,.slice (some ⟨w3.heap.size,0,none⟩) 2 2] 25)).kept hF4 (.inr (by simp [Value.ownBlock];omega));have A14:=n3'.frP (x:=r) (Q:=fun b=>w.heap.size<b/\b<w4.heap.size/\b≠w3.heap.size/\b≠w3.heap.size+1) hF34 (fun b hb=>⟨hb.2,by omega⟩) (fun b hb=>⟨hb.1,by omega,by omega,by omega⟩);have A24:=m3'.frP (x:=r) (Q:=fun b=>w.heap.size<b/\b<w4.heap.size/\b≠w3.heap.size/\b≠w3.heap.size+1) hF34 (fun b hb=>⟨hb.2,by omega⟩) (fun b hb=>⟨hb.1,by omega,by omega,by omega⟩);obtain ⟨p0,p1,p2,p3,_,_,_,_⟩:=id hb34;by_cases hbq:q3.2.bad=true
  ·go_wp2;refine wp_region_any (by kernel_rfl) ?_;change wpAny _ _ _ _ _ _ _ (World.drew _);refine tkQ 0 (.pointer (some ⟨w3.heap.size+1,3,none⟩)) ?_;refine tkQ 2 (.pointer (some ⟨r,0,none⟩)) ?_;refine wpAny_ready (rs:=[1,3]) (by kernel_rfl) (by simp) ?_;refine AllReady.cons rfl (fun K hK=>?_) (AllReady.cons rfl (fun K hK=>?_) AllReady.nil)
   focus
    go_simp;refine hK _ _ ?_;clear hK K;refine one0 3 fun K hK=>?_
   all_goals
    go_simp;go_at_call 104;refine (ihB.lost (hL4.drewN 1) h5 hbq).mono ?_;rintro e w5 ⟨rfl,hF5⟩;go_wp2;exact ⟨rfl,kG.lost rfl hbq ((hFw4.drewN 1).trans hF5)⟩
  ·have hbq':q3.2.bad=false:=by simpa using hbq
   go_wp2;refine wp_region_any (by kernel_rfl) ?_;change wpAny _ _ _ _ _ _ _ (World.drew _);refine tkQ 0 (.pointer (some ⟨w3.heap.size+1,3,none⟩)) ?_;refine tkQ 2 (.pointer (some ⟨r,0,none⟩)) ?_;refine wpAny_ready (rs:=[1,3]) (by kernel_rfl) (by simp) ?_;refine AllReady.cons rfl (fun K hK=>?_) (AllReady.cons rfl (fun K hK=>?_) AllReady.nil)
   focus
    go_simp;refine hK _ _ ?_;clear hK K;refine one0 3 fun K hK=>?_
   all_goals
    go_simp;go_at_call 104;refine (ihB.fine (hL4.drewN 1) h5 hbq').mono ?_;rintro e w5 ⟨v5,rfl,hl5,hL5,hF5⟩;obtain ⟨k5,x5,m5,_,rfl,a5,n5,c5,rfl⟩:=hl5.shape;have hF45:Fr r w4 w5:=((Fr.refl r w4).drewN 1).trans hF5;have z5:=hF45.size;have hb35:=hb34.fr hF45 (by omega);have hb05:=hb04.fr hF45 (by omega);have ho5:=ho4.kept hF45 (.inr (by simp [Value.ownBlock];omega));obtain ⟨g0,g1,g2,g3,_,_,_,_⟩:=id hb35;have z5':w3.heap.size+1<w5.heap.size:=hb35.lt;have z5'':w.heap.size<w5.heap.size:=hb05.lt;have A1:Hid (kC (fun b=>w.heap.size<b/\b<w5.heap.size/\b≠w3.heap.size/\b≠w3.heap.size+1) w5 q1.1 (.agg #[.int .i64 k,.string x,.int .i64 m,.slice a n c])):=A14.frP (x:=r) hF45 (fun b hb=>⟨hb.2.1,by omega⟩) (fun b hb=>⟨hb.1,by omega,hb.2.2.1,hb.2.2.2⟩);have A2:Hid (kC (fun b=>w.heap.size<b/\b<w5.heap.size/\b≠w3.heap.size/\b≠w3.heap.size+1) w5 q2.1 (.agg #[.int .i64 k3,.string x3,.int .i64 m3,.slice a3 n3 c3])):=A24.frP (x:=r) hF45 (fun b hb=>⟨hb.2.1,by omega⟩) (fun b hb=>⟨hb.1,by omega,hb.2.2.1,hb.2.2.2⟩)
    have A3:Hid (kC (fun b=>w.heap.size<b/\b<w5.heap.size/\b≠w3.heap.size/\b≠w3.heap.size+1) w5 q3.1 (.agg #[.int .i64 k5,.string x5,.int .i64 m5,.slice a5 n5 c5])):=hl5.to (fun b hb=>by
     have h1:w4.heap.size<=b:=hb.1
     exact ⟨by omega,hb.2,by omega,by omega⟩) (fun _ _ _=>rfl)
    go_wp2
   focus
    refine one0 4 fun K hK=>?_
    go_simp;refine hK _ _ ?_;clear hK K
   rotate_left
   focus
    refine wpAny_ready (rs:=[1,4]) (by kernel_rfl) (by simp) ?_;refine AllReady.cons rfl (fun K hK=>?_) (AllReady.cons rfl (fun K hK=>?_) AllReady.nil)
    all_goals
     go_simp;refine hK _ _ ?_;clear hK K
    focus
     refine one0 4 fun K hK=>?_
     go_simp;refine hK _ _ ?_;clear hK K
    rotate_left
    focus
     refine one0 1 fun K hK=>?_
     go_simp;refine hK _ _ ?_;clear hK K
   all_goals
    refine one0 5 fun K hK=>?_
    refine step_append_lies _ (by rfl) (.tmp 14) (.tmp 17) 23 (by rfl) (w.heap.size+1) 25 i0 (.agg #[.int .i64 0,.string ⟨#[]⟩,.int .i64 0,.slice none 0 0]) 4 56 Tryz.underlying23 hi hz0 hz1' hz2 rfl (by decide) (.slice (some ⟨w3.heap.size,0,none⟩) 2 2) 2 [.int .i64 k,.string x,.int .i64 m,.slice a n c,.int .i64 k3,.string x3,.int .i64 m3,.slice a3 n3 c3] rfl (ho5.alloc _) ⟨w5.heap.size,0,none⟩ 1 1 [.int .i64 k5,.string x5,.int .i64 m5,.slice a5 n5 c5] rfl rfl (cM _ _ _ _ _ _ _ rfl) (by intro u hu;simp at hu;rcases hu with rfl | rfl | rfl | rfl<;>rfl) (by omega) (by unfold maxLen;omega) (by omega) (by simp;omega) (w5.heap.size+1) (by simp) ?_;intro g cap w6 hown' hgrow hat hlt;refine hK _ _ ?_;clear hK K;have hG:w5.grownBy w6 (some w3.heap.size):=zci (World.grownBy_alloc w5 _ _) hgrow;have z6:=hG.size;have hb36:=(hb35.alloc (.cells #[.int .i64 k5,.string x5,.int .i64 m5,.slice a5 n5 c5] 25)).grown hgrow (by simp [Value.ownBlock]);have hb06:=(hb05.alloc (.cells #[.int .i64 k5,.string x5,.int .i64 m5,.slice a5 n5 c5] 25)).grown hgrow (by simp [Value.ownBlock];omega);obtain ⟨e0,e1,e2,e3,d0,d1,d2,d3⟩:=id hb36;obtain ⟨j0,j1,j2,j3,l0,l1,l2,l3⟩:=id hb06
    have hgg:w.heap.size<g/\g≠w3.heap.size+1:=by
     rcases hat with e | e
     ·have e':w3.heap.size=g:=by simpa [Value.ownBlock] using e
      omega
     ·omega
    refine one0 6 fun K hK=>?_
    go_simp;refine hK _ _ ?_;clear hK K;refine one0 7 fun K hK=>?_
    go_simp;refine hK _ _ ?_;clear hK K;refine wpAny_done (by kernel_rfl) ?_ _;go_wp2;refine jT (v:=.agg #[.int .i64 10,.string empty,.int .i64 0,.slice (some ⟨g,0,none⟩) 3 cap]) (by simp [results,Tryz.results137,go_sem,j0,j1,j2,j3,empty]) rfl ?_;have hFw6:Fr r w w6:=⟨hG.os.trans (hFw4.trans hF45).os,hG.tape.trans (hFw4.trans hF45).tape,hG.output.trans (hFw4.trans hF45).output,jp (hFw4.trans hF45).size hG.size,fun j hj hn=>(hG.block j (by omega) (by simp;omega)).trans ((hFw4.trans hF45).block j hj hn)⟩
    have hL6:=hL5.keep hG (fun k e=>by
     obtain rfl:w3.heap.size=k:=by simpa using e
     omega)
    have hput:=Fr.put (w6.setCell ⟨w3.heap.size+1,3,none⟩ (.slice (some ⟨g,0,none⟩) 3 cap)) w.heap.size (.int .i64 10) (.string empty) (.int .i64 0) (.slice (some ⟨g,0,none⟩) 3 cap)
    have hsame:∀ b,(w.heap.size<b/\b<w5.heap.size/\b≠w3.heap.size/\b≠w3.heap.size+1)->∀ j,World.cell? _ ⟨b,j,none⟩=w5.cell? ⟨b,j,none⟩:=fun b hb j=>by
     rw [jM (a:=⟨b,j,none⟩) (hput.block b (by rw [jQ];omega) (by simp<;>omega)),jD _ _ _ _ (by simp<;>omega)];exact jM (a:=⟨b,j,none⟩) (hG.block b hb.2.1 (by simp;omega))
    have n1:(Value.slice (some ⟨g,0,none⟩) 3 cap).ownBlock≠some (w3.heap.size+1):=by simp [Value.ownBlock];omega
    have n2:(Value.slice (some ⟨g,0,none⟩) 3 cap).ownBlock≠some w.heap.size:=by simp [Value.ownBlock];omega
    have hkids:Kids (w.heap.size+1) (fun b=>w.heap.size<=b/\b<w6.heap.size) _ (.slice (some ⟨g,0,none⟩) 3 cap) [q1.1,q2.1,q3.1]:=⟨[(.int .i64 k,.string x,.int .i64 m,.slice a n c),(.int .i64 k3,.string x3,.int .i64 m3,.slice a3 n3 c3),(.int .i64 k5,.string x5,.int .i64 m5,.slice a5 n5 c5)],
     jU (jU (jU (jU (jU hown' n1 _) n2 _) n2 _) n2 _) n2 _,
     A1.out.to (fun b hb=>⟨by omega,by omega⟩) hsame,A2.out.to (fun b hb=>⟨by omega,by omega⟩) hsame,A3.out.to (fun b hb=>⟨by omega,by omega⟩) hsame,trivial⟩
    exact .inr ⟨hbq',_,rfl,hkids.lies (fun b hb=>⟨hb.1,by simpa using hb.2⟩) (fun g' hg'=>by
     obtain rfl:g=g':=by simpa [Value.ownBlock] using hg'
     exact ⟨by omega,by simpa using hlt⟩) (by simp),(hL6.set (by omega) 3 _).put4 (by omega) _ _ _ _,(hFw6.setNew (by omega) _).put4 (jE _) _ _ _ _⟩
structure GoodY (r G:Nat) (ts:List Tok) (f:Nat):Prop where
 b:qI r G ts 104 (qZ ts f)
 s:qI r G ts 119 (zI ts f)
theorem zz7 (r G:Nat) (ts:List Tok) (F:Nat) (hF:F<=100000):∀ {f:Nat},f<=F->GoodY r G ts f:=by
 induction F with
 | zero =>
  intro f hf;obtain rfl:f=0:=by omega
  exact ⟨fun {w s q} _ h=>by simp [qZ] at h,fun {w s q} _ h=>by simp [zI] at h⟩
 | succ F ih =>
  intro f hf;have IH:∀ {g:Nat},g<=F->GoodY r G ts g:=ih (by omega);rcases jL f (F+1) with h | h
  ·exact IH (by omega)
  obtain rfl:f=F+1:=by omega
  refine ⟨zzw (by omega) (fun h=>(IH h).s),zz9 ⟨fun h=>zn9 r G ts F (by omega) h,(IH (jE _)).b,?_,by omega⟩⟩;exact zvk (zn9 r G ts F (by omega) (jE _)).a (IH (jE _)).b
end
section
variable {w w' w0:World} {r G B:Nat} {ts:List Tok} {s:St}
def zaw (ts:List Tok) (_:Nat) (s:St):Option (Tree × St):=some (.node 5 (name ts (label ts s).2).1 (label ts s).1 [],(name ts (label ts s).2).2)
theorem zo4 {f:Nat}:∀ {ks:List Tree} {s:St} {p:List Tree × St},yD ts f ks s=some p->gD ts (zaw ts) f ks s=some (p.1,kF ts ⟨#[41]⟩ p.2):=by
 induction f with
 | zero=>intro ks s p h;unfold yD at h;simp at h
 | succ f ih =>
  intro ks s p h;unfold yD at h;unfold gD;simp only [zaw,jf];split at h;·rename_i he;rw [jv he];exact ih h
  ·rename_i he;rw [ju he];simp only [jh] at h;rw [<- h]
theorem zpu {f:Nat} {p:List Tree × St} (h:params ts f s=some p):bH ts (zaw ts) f s=some (p.1,kF ts ⟨#[41]⟩ p.2):=by
 unfold params at h;unfold bH;cases he:eqS (txt ts s) ⟨#[41]⟩;·rw [he] at h;simp only [jr,if_false] at h |-;exact zo4 h
 ·rw [he] at h;simp only [if_true,jh] at h |-;rw [<- h,cP he]
theorem zu6 (g:Nat) (s:St) (q:Tree × St) (hb:s.bad=true) (h:zaw ts g s=some q):q.2=s:=by
 unfold zaw at h;simp only [jh] at h;rw [<- h];have e1:=zae (ts:=ts) hb;show (name ts (label ts s).2).2=s;rw [e1];exact fD hb
theorem params_st {f:Nat} {p:List Tree × St} (hb:s.bad=true) (h:params ts f s=some p):p.2=s:=by
 unfold params at h;rw [zX (by decide) hb,ju (by decide)] at h
 cases f with
 | zero=>unfold yD at h;simp at h
 | succ f =>
  unfold yD at h;have e1:=zae (ts:=ts) hb;have e2:=fD (ts:=ts) hb;rw [e1,e2,zX (by decide) hb,ju (by decide)] at h;simp only [jh] at h;rw [<- h]
theorem ztc (hb:s.bad=true):vN ts s=s:=by
 unfold vN;have e1:=zae (ts:=ts) hb;rw [e1,zX (by decide) hb,ju (by decide)]
def procF (ts:List Tok) (f:Nat) (n:Int) (s:St):Option (Tree × St) :=
 (params ts f (kF ts ⟨#[40]⟩ (name ts s).2)).bind fun p=>(qZ ts f (vN ts (kF ts ⟨#[41]⟩ p.2))).bind fun b=>some (.node 4 (name ts s).1 (uZ ts n (kF ts ⟨#[41]⟩ p.2)) (p.1++[b.1]),b.2)
theorem KO.rebase {wL:World} {kv:Value} {ks:List Tree} (h:KO wL B r G ts w s kv ks) (hF:Fr r w0 wL) (hr:r<w0.heap.size):KO w0 B r G ts w s kv ks :=
 ⟨h.ld,hr,jp hF.size h.b0,hF.trans h.fr,h.kids⟩
theorem zob {f:Nat} (hf:f<=100000) (ihB:qI r G ts 104 (qZ ts f)) {n:Int} (hn:0<=n/\n<=2) (hL:Ld w r G ts s) {q:Tree × St} (hq:procF ts f n s=some q) : Calls Tryz.prog 84 #[.pointer (some ⟨r,0,none⟩),.int .i64 n] w (kG w r G ts q):=by
 have c24:=kc25;have hmf:∀ (fn:Fn) (first cap:Array Value) (w:World),(Instr.makeFunc fn first cap).run Tryz.prog w=.ok (.func fn first cap) w:=fun _ _ _ _=>rfl
 have hr:=hL.lt;obtain ⟨i0,hi,hz0,hz1',hz2⟩:=info_parts bW;have hB0:=Box4.new w (.int .i64 0) (.string empty) (.int .i64 0) (.slice none 0 0) 25;unfold procF at hq;obtain ⟨p,hp,h2⟩:=zN hq;obtain ⟨b,hbl,h4⟩:=zN h2;simp only [jh] at h4;subst h4;clear hq h2;have hlist:=zpu hp
 have S5:Hid ((label ts (kF ts ⟨#[41]⟩ p.2)).2.bad=true->b.2=(label ts (kF ts ⟨#[41]⟩ p.2)).2):=fun hb=>by
  have e1:vN ts (kF ts ⟨#[41]⟩ p.2)=(label ts (kF ts ⟨#[41]⟩ p.2)).2:=by unfold vN;rw [zX (by decide) hb,ju (by decide)]
  rw [e1] at hbl;exact (dF ts f).bk _ _ hb hbl
 have S4:Hid ((kF ts ⟨#[41]⟩ p.2).bad=true->b.2=kF ts ⟨#[41]⟩ p.2):=fun hb=>by
  rw [ztc hb] at hbl;exact (dF ts f).bk _ _ hb hbl
 have S3:Hid ((kF ts ⟨#[40]⟩ (name ts s).2).bad=true->b.2=kF ts ⟨#[40]⟩ (name ts s).2):=fun hb=>by
  have e1:=params_st hb hp;have e2:kF ts ⟨#[41]⟩ p.2=kF ts ⟨#[40]⟩ (name ts s).2:=by rw [e1];exact qF (by decide) hb
  rw [S4.out (by rw [e2];exact hb),e2]
 have S2:Hid ((name ts s).2.bad=true->b.2=(name ts s).2):=fun hb=>by
  have e1:kF ts ⟨#[40]⟩ (name ts s).2=(name ts s).2:=qF (by decide) hb;rw [S3.out (by rw [e1];exact hb),e1]
 have hNam:=fR (hL.alloc (.cells #[.int .i64 0,.string empty,.int .i64 0,.slice none 0 0] 25));have hpl:p.1.length<=100001->True:=fun _=>trivial
 generalize name ts s=nb at *;obtain ⟨nx,ns⟩:=nb;simp only at *;generalize kF ts ⟨#[41]⟩ p.2=s3 at *;obtain ⟨ks,ps⟩:=p;simp only at *;clear hpl hp;go_enter Tryz.func84,Tryz.ntmps84;go_wp2_with (fail);refine hNam.mono ?_;rintro e w1 (⟨hb1,rfl,hF1⟩|⟨hb1,rfl,hL1,hF1⟩);·go_wp2;exact ⟨rfl,kG.lost (S2.out hb1) hb1 ((Fr.al _ _).trans hF1)⟩
 go_wp2_with (fail);refine (uV (hL1.alloc _) ⟨#[40]⟩ (by decide) (by simp)).mono ?_;rintro e w2 ⟨y2,⟨hb2,rfl,hF2⟩|⟨hb2,rfl,hL2,hF2⟩⟩;·go_wp2;exact ⟨rfl,kG.lost (S3.out hb2) hb2 (((Fr.al _ _).trans hF1).trans ((Fr.al _ _).trans hF2))⟩
 have z1:=hF1.size;have z2:=hF2.size;simp only [jO] at z1 z2;have hFw2:Fr r w w2:=((Fr.al _ _).trans hF1).trans ((Fr.al _ _).trans hF2);have hb52:=(Box4.new w1 (.int .i64 4) (.string nx) (.int .i64 0) (.slice none 0 0) 25).fr hF2 (by omega);have hb02:=((hB0.fr hF1 (by omega)).alloc (.cells #[.int .i64 4,.string nx,.int .i64 0,.slice none 0 0] 25)).fr hF2 (by omega);go_wp2_with (fail)
 refine (zoa (by decide) (f:=f) (fun {g} h {w s q} hL hq=>by
  unfold zaw at hq;simp only [jh] at hq;rw [<- hq]
  exact zyf hL) zu6 hf hL2 hlist).mono ?_
 rintro e w3 (⟨hb3,rfl,hF3⟩|⟨hb3,hlen,kv,rfl,hK⟩);·go_wp2;exact ⟨rfl,kG.lost (S4.out hb3) hb3 (hFw2.trans hF3)⟩
 obtain ⟨a,c,rfl⟩:=hK.kids.shape;have hF3:=hK.fr;have hb53:=hb52.fr hF3 (by omega);have hb03:=hb02.fr hF3 (by omega);have hK3:=(hK.rebase hFw2 hr).set (N:=w1.heap.size) (by omega) (by omega) 3 (.slice a ks.length c);have hb53':=hb53.set3 (.slice a ks.length c);have hb03':=hb03.other (M:=w1.heap.size) (o:=3) (by omega) (.slice a ks.length c);have h01:=zc7 ts s3;obtain ⟨p0,p1,p2,p3,o0,o1,o2,o3⟩:=id hb53;go_wp2_with (fail);refine (dZ hK3.ld).mono ?_;rintro e wl (⟨hbl0,rfl,hFl⟩|⟨hbl0,rfl,hLl,hFl⟩);·go_wp2;exact ⟨rfl,kG.lost (S5.out hbl0) hbl0 (hK3.fr.trans hFl)⟩
 have hKl:=hK3.step hLl hFl;have hb5l:=hb53'.fr hFl (by omega);have hb0l:=hb03'.fr hFl (by omega);obtain ⟨x0,x1,x2,x3,v0,v1,v2,v3⟩:=id hb5l;cases hg:eqS (txt ts (label ts s3).2) ⟨#[103,105,118,101,115]⟩
 case' false =>
  have egS:vN ts s3=(label ts s3).2:=by unfold vN;rw [hg,ju (by decide)]
  have egN:Hid (uZ ts n s3=(label ts s3).1+n):=by show _=_;unfold uZ;rw [hg,ju (by decide),Int.add_comm]
  rw [egS] at hbl;generalize label ts s3=lb at *;obtain ⟨l1,sl⟩:=lb;simp only at *;have hKm:=hKl.set (N:=w1.heap.size) (by omega) (by omega) 2 (.int .i64 (l1+n));have hb5m:=hb5l.set2 (.int .i64 (l1+n));have hb0m:=hb0l.other (M:=w1.heap.size) (o:=2) (by omega) (.int .i64 (l1+n));go_wp2_with (fail);refine (xP hKm.ld ⟨#[103,105,118,101,115]⟩ (by decide) hg (by simp)).mono ?_;rintro e wk ⟨rfl,hLk,hFk⟩;have hKk:=hKm.step hLk hFk;have hb5:=hb5m.fr hFk (by omega);have hb0k:=hb0m.fr hFk (by omega);have enum:Hid (l1+n=uZ ts n s3):=egN.out.symm;have zB:w2.heap.size<=wk.heap.size:=by have a1:=hK.fr.size;have a2:=hFl.size;have a3:=hFk.size;simp only [jQ] at a2 a3;omega
  generalize l1+n=num at *
 case' true =>
  have egS:vN ts s3=(label ts (label ts s3).2.next).2:=by unfold vN;rw [hg,jv rfl]
  have egN:Hid (uZ ts n s3=(label ts s3).1+n+4+4*(label ts (label ts s3).2.next).1):=by show _=_;unfold uZ;rw [hg,jv rfl,Int.add_comm n]
  rw [egS] at hbl;have h02:=zc7 ts (label ts s3).2.next;have S6:Hid ((label ts (label ts s3).2.next).2.bad=true->b.2=(label ts (label ts s3).2.next).2):=fun hb=>(dF ts f).bk _ _ hb hbl
  have hLab2:=fun (w:World) (h:Ld w r G ts (label ts s3).2.next)=>dZ h
  generalize label ts (label ts s3).2.next=lb2 at *;obtain ⟨l2,sl2⟩:=lb2;generalize label ts s3=lb at *;obtain ⟨l1,sl⟩:=lb;simp only at *;have hKm:=hKl.set (N:=w1.heap.size) (by omega) (by omega) 2 (.int .i64 (l1+n));have hb5m:=hb5l.set2 (.int .i64 (l1+n));have hb0m:=hb0l.other (M:=w1.heap.size) (o:=2) (by omega) (.int .i64 (l1+n));go_wp2_with (fail);refine (xO hKm.ld ⟨#[103,105,118,101,115]⟩ (by decide) hg (by simp)).mono ?_;rintro e wg ⟨rfl,hLg,hFg⟩;have hKg:=hKm.step hLg hFg;have hb5g:=hb5m.fr hFg (by omega);have hb0g:=hb0m.fr hFg (by omega);obtain ⟨g0',g1',g2',g3',k0',k1',k2',k3'⟩:=id hb5g;have hKh:=hKg.set (N:=w1.heap.size) (by omega) (by omega) 2 (.int .i64 (l1+n+4));have hb5h:=hb5g.set2 (.int .i64 (l1+n+4));have hb0h:=hb0g.other (M:=w1.heap.size) (o:=2) (by omega) (.int .i64 (l1+n+4));go_wp2_with (fail);refine (hLab2 _ hKh.ld).mono ?_;rintro e wk (⟨hbk,rfl,hFk⟩|⟨hbk,rfl,hLk,hFk⟩);·go_wp2;exact ⟨rfl,kG.lost (S6.out hbk) hbk (hKh.fr.trans hFk)⟩
  have hKi:=hKh.step hLk hFk;have hb5i:=hb5h.fr hFk (by omega);have hb0i:=hb0h.fr hFk (by omega);have zB:w2.heap.size<=wk.heap.size:=by have a1:=hK.fr.size;have a2:=hFl.size;have a3:=hFk.size;have a4:=hFg.size;simp only [jQ] at a2 a3 a4;omega
  rcases (show l2=0\/l2=1 by omega) with rfl | rfl
  focus
   have hKk:=hKi;have hb5:=hb5i;have hb0k:=hb0i;have enum:Hid (l1+n+4=uZ ts n s3):=by show _=_;rw [egN.out];omega
   generalize l1+n+4=num at *
  rotate_left
  focus
   obtain ⟨y0',y1',y2',y3',m0',m1',m2',m3'⟩:=id hb5i;have hKk':=hKi.set (N:=w1.heap.size) (by omega) (by omega) 2 (.int .i64 (l1+n+4+4));have hb5':=hb5i.set2 (.int .i64 (l1+n+4+4));have hb0k':=hb0i.other (M:=w1.heap.size) (o:=2) (by omega) (.int .i64 (l1+n+4+4));have enum:Hid (l1+n+4+4=uZ ts n s3):=by show _=_;rw [egN.out];omega
   go_wp2;have zB':w2.heap.size<=(wk.setCell ⟨w1.heap.size,2,none⟩ (.int .i64 (l1+n+4+4))).heap.size:=by rw [jQ];exact zB
   have hKk:=hKk';have hb5:=hb5';have hb0k:=hb0k';clear zB hKk' hb5' hb0k';generalize wk.setCell ⟨w1.heap.size,2,none⟩ (.int .i64 (l1+n+4+4))=wk at *;have zB:=zB';clear hKi hb5i hb0i y0' y1' y2' y3' m0' m1' m2' m3' hLk hFk;generalize l1+n+4+4=num at *
 all_goals
  obtain ⟨p0,p1,p2,p3,_,_,_,_⟩:=id hb5;by_cases hbq:b.2.bad=true
  ·go_wp2;refine wp_region_any (by kernel_rfl) ?_;change wpAny _ _ _ _ _ _ _ (World.drew _);refine tkQ 0 (.pointer (some ⟨w1.heap.size,3,none⟩)) ?_;refine tkQ 2 (.pointer (some ⟨r,0,none⟩)) ?_;refine wpAny_ready (rs:=[1,3]) (by kernel_rfl) (by simp) ?_;refine AllReady.cons rfl (fun K hK=>?_) (AllReady.cons rfl (fun K hK=>?_) AllReady.nil)
   focus
    go_simp;refine hK _ _ ?_;clear hK K;refine one0 3 fun K hK=>?_
   all_goals
    go_simp;go_at_call 104;refine (ihB.lost (hKk.ld.drewN 1) hbl hbq).mono ?_;rintro e w5 ⟨rfl,hF5⟩;go_wp2;exact ⟨rfl,kG.lost rfl hbq ((hKk.fr.drewN 1).trans hF5)⟩
  ·have hbq':b.2.bad=false:=by simpa using hbq
   go_wp2;refine wp_region_any (by kernel_rfl) ?_;change wpAny _ _ _ _ _ _ _ (World.drew _);refine tkQ 0 (.pointer (some ⟨w1.heap.size,3,none⟩)) ?_;refine tkQ 2 (.pointer (some ⟨r,0,none⟩)) ?_;refine wpAny_ready (rs:=[1,3]) (by kernel_rfl) (by simp) ?_;refine AllReady.cons rfl (fun K hK=>?_) (AllReady.cons rfl (fun K hK=>?_) AllReady.nil)
   focus
    go_simp;refine hK _ _ ?_;clear hK K;refine one0 3 fun K hK=>?_
   all_goals
    go_simp;go_at_call 104;refine (ihB.fine (hKk.ld.drewN 1) hbl hbq').mono ?_;rintro e w4 ⟨v4,rfl,hl4,hL4,hF4⟩;obtain ⟨kc,yc,mc,_,rfl,ac,nc,cc,rfl⟩:=hl4.shape;have hF24:Fr r wk w4:=((Fr.refl r wk).drewN 1).trans hF4;have hkb:∀ g,(Value.slice a ks.length c).ownBlock=some g->w2.heap.size<=g/\g<wk.heap.size:=fun g hg=>hKk.kids.blk hg
    have hK4:=hKk.step hL4 hF24;have zz:=hF24.size;have hbz:=hKk.b0;have zfr:=hKk.fr.size
    have hlc:kC (fun b=>w2.heap.size<=b/\b<w4.heap.size/\some b≠(Value.slice a ks.length c).ownBlock) w4 b.1 (.agg #[.int .i64 kc,.string yc,.int .i64 mc,.slice ac nc cc]) :=
     hl4.to (fun b hb=>by
      have h1:wk.heap.size<=b:=hb.1
      exact ⟨by omega,hb.2,fun e=>by have:=(hkb b e.symm).2;omega⟩) (fun _ _ _=>rfl)
    obtain ⟨vs,ho,ha⟩:=hK4.kids;have HA:Hid (zR (fun b=>w2.heap.size<=b/\b<w4.heap.size/\some b≠(Value.slice a ks.length c).ownBlock) w4 ks vs):=ha;have hb14:=hb5.fr hF24 (by omega);have hb04:=hb0k.fr hF24 (by omega);obtain ⟨g0,g1,g2,g3,_,_,_,_⟩:=id hb14;have z4:w1.heap.size<w4.heap.size:=hb14.lt;have z4':w.heap.size<w4.heap.size:=hb04.lt;clear ha;go_wp2
   focus
    refine one0 4 fun K hK=>?_
    go_simp;refine hK _ _ ?_;clear hK K
   rotate_left
   focus
    refine wpAny_ready (rs:=[1,4]) (by kernel_rfl) (by simp) ?_;refine AllReady.cons rfl (fun K hK=>?_) (AllReady.cons rfl (fun K hK=>?_) AllReady.nil)
    all_goals
     go_simp;refine hK _ _ ?_;clear hK K
    focus
     refine one0 4 fun K hK=>?_
     go_simp;refine hK _ _ ?_;clear hK K
    rotate_left
    focus
     refine one0 1 fun K hK=>?_
     go_simp;refine hK _ _ ?_;clear hK K
   all_goals
    refine one0 5 fun K hK=>?_
    refine step_append_lies _ (by rfl) (.tmp 37) (.tmp 40) 23 (by rfl) w2.heap.size 25 i0 (.agg #[.int .i64 0,.string ⟨#[]⟩,.int .i64 0,.slice none 0 0]) 4 56 Tryz.underlying23 hi hz0 hz1' hz2 rfl (by decide) (.slice a ks.length c) ks.length (uK vs) rfl (ho.alloc _) ⟨w4.heap.size,0,none⟩ 1 1 [.int .i64 kc,.string yc,.int .i64 mc,.slice ac nc cc] rfl rfl (cM _ _ _ _ _ _ _ rfl) (by intro u hu;simp at hu;rcases hu with rfl | rfl | rfl | rfl<;>rfl) (by omega) (by unfold maxLen;omega) (by omega) (by simp;omega) (w4.heap.size+1) (by simp) ?_;intro g cap w5 hown' hgrow hat hlt;refine hK _ _ ?_;clear hK K;have hK5:=KO.pushed (q:=(.int .i64 kc,.string yc,.int .i64 mc,.slice ac nc cc)) (t:=b.1) hK4 ho HA.out hlc hown' hgrow (by rcases hat with e | e;exact .inl e.symm;exact .inr (by rw [e];rfl));have hnb:(Value.slice a ks.length c).ownBlock≠some w1.heap.size:=fun e=>by have:=(hkb _ e).1;omega
    have hnb0:(Value.slice a ks.length c).ownBlock≠some w.heap.size:=fun e=>by have:=(hkb _ e).1;omega
    have hb15:=(hb14.alloc (.cells #[.int .i64 kc,.string yc,.int .i64 mc,.slice ac nc cc] 25)).grown hgrow hnb;have hb05:=(hb04.alloc (.cells #[.int .i64 kc,.string yc,.int .i64 mc,.slice ac nc cc] 25)).grown hgrow hnb0;obtain ⟨e0,e1,e2,e3,d0,d1,d2,d3⟩:=id hb15;obtain ⟨j0,j1,j2,j3,jj0,jj1,jj2,jj3⟩:=id hb05;refine one0 6 fun K hK=>?_
    go_simp;refine hK _ _ ?_;clear hK K;refine one0 7 fun K hK=>?_
    go_simp;refine hK _ _ ?_;clear hK K;refine wpAny_done (by kernel_rfl) ?_ _;go_wp2;have hK6:=hK5.set (N:=w1.heap.size) (by omega) (by omega) 3 (.slice (some ⟨g,0,none⟩) (ks.length+1) cap);exact jT (v:=.agg #[.int .i64 4,.string nx,.int .i64 num,.slice (some ⟨g,0,none⟩) (ks.length+1) cap]) (by simp [results,Tryz.results84,go_sem,j0,j1,j2,j3]) rfl (by rw [<- enum.out];exact kG.kids hr hK6 (jE _) (by omega) (by rw [jb];simp;omega))
end
section
variable {w w' w0:World} {r G B:Nat} {ts:List Tok} {s:St}
theorem yaf {f:Nat} (hf:f<=100000) (ihB:qI r G ts 104 (qZ ts f)):qI r G ts 64 (yO ts f):=by
 intro w s q hL hq;have c24:=kc25;have hr:=hL.lt;have hB0:=Box4.new w (.int .i64 0) (.string empty) (.int .i64 0) (.slice none 0 0) 25;have hL0:=hL.alloc (.cells #[.int .i64 0,.string empty,.int .i64 0,.slice none 0 0] 25);cases hpub:eqS (txt ts s) ⟨#[112,117,98]⟩
 case true =>
  have es:zP ts s=s.next:=by unfold zP;rw [hpub,jv rfl]
  have en:gW ts s=2:=by unfold gW;rw [hpub,jv rfl]
  have hE:=xO (T:=9) hL0 ⟨#[112,117,98]⟩ (by decide) hpub (M:=w.heap.size+1) (by simp);go_enter Tryz.func64,Tryz.ntmps64;go_wp2_with (fail);refine hE.mono ?_;rintro e w1 ⟨rfl,hL1,hF0⟩;unfold yO at hq;rw [es,en] at hq;have z0:=hF0.size;rw [jO] at z0;have hb0:=hB0.fr hF0 (by omega);cases hp:eqS (txt ts s.next) ⟨#[112,114,111,99]⟩
  case true =>
   rw [hp,jv rfl] at hq;have hq':procF ts f 2 (s.next).next=some q:=hq;go_wp2_with (fail);refine (xO hL1 ⟨#[112,114,111,99]⟩ (by decide) hp rfl).mono ?_;rintro e w2 ⟨rfl,hL2,hF2⟩;have z2:=hF2.size;go_wp2_with (fail);refine (zob hf ihB (by decide) hL2 hq').mono ?_;rintro e w9 (⟨hb9,rfl,hF9⟩|⟨hb9,v9,rfl,hl9,hL9,hF9⟩);·go_wp2;exact ⟨rfl,kG.lost rfl hb9 ((((Fr.al _ _).trans hF0).trans hF2).trans hF9)⟩
   obtain ⟨k9,x9,m9,_,rfl,a9,n9,c9,rfl⟩:=hl9.shape;obtain ⟨q0,q1',q2,q3,t0,t1,t2,t3⟩:=(hb0.fr hF2 (by omega)).fr hF9 (by omega);go_wp2;exact jT (v:=.agg #[.int .i64 k9,.string x9,.int .i64 m9,.slice a9 n9 c9]) (by simp [results,Tryz.results64,go_sem,q0,q1',q2,q3]) rfl (kG.hand hr (((Fr.al _ _).trans hF0).trans hF2) (by omega) hb9 hl9 hL9 hF9)
  case false =>
   rw [hp,ju (by decide)] at hq;simp only [jh] at hq;subst hq;have h01:=zc7 ts s.next;go_wp2_with (fail);refine (xP hL1 ⟨#[112,114,111,99]⟩ (by decide) hp rfl).mono ?_;rintro e w2 ⟨rfl,hL2,hF2⟩;have z2:=hF2.size
   have S2:Hid ((name ts (label ts s.next).2).2.bad=true->kF ts ⟨#[59]⟩ (yB ts (name ts (label ts s.next).2).2).2=(name ts (label ts s.next).2).2):=fun hb=>by
    have e1:(yB ts (name ts (label ts s.next).2).2).2=(name ts (label ts s.next).2).2:=by unfold yB;rw [zX (by decide) hb,ju (by decide)]
    rw [e1];exact qF (by decide) hb
   have S1:Hid ((label ts s.next).2.bad=true->kF ts ⟨#[59]⟩ (yB ts (name ts (label ts s.next).2).2).2=(label ts s.next).2):=fun hb=>by
    have e1:=fD (ts:=ts) hb;rw [S2.out (by rw [e1];exact hb),e1]
   go_wp2_with (fail);refine (dZ hL2).mono ?_;rintro e w3 (⟨hb3,rfl,hF3⟩|⟨hb3,rfl,hL3,hF3⟩);·go_wp2;exact ⟨rfl,kG.lost (S1.out hb3) hb3 ((((Fr.al _ _).trans hF0).trans hF2).trans hF3)⟩
   have z3:=hF3.size;go_wp2_with (fail);refine (fR hL3).mono ?_;rintro e w4 (⟨hb4,rfl,hF4⟩|⟨hb4,rfl,hL4,hF4⟩);·go_wp2;exact ⟨rfl,kG.lost (S2.out hb4) hb4 (((((Fr.al _ _).trans hF0).trans hF2).trans hF3).trans hF4)⟩
   have z4:=hF4.size;have hFw4:Fr r w w4:=((((Fr.al _ _).trans hF0).trans hF2).trans hF3).trans hF4;have hb04:=((hb0.fr hF2 (by omega)).fr hF3 (by omega)).fr hF4 (by omega);clear S1 S2;generalize label ts s.next=lb at *;obtain ⟨l1,sl⟩:=lb;simp only at *;generalize name ts sl=nb at *;obtain ⟨nx,ns⟩:=nb;simp only at *;have ec:Hid (2+l1=(l1+2)):=by show _=_;omega
   cases hv:eqS (txt ts ns) ⟨#[91]⟩
   case false =>
    have ev:Hid (yB ts ns=([],ns)):=by show _=_;unfold yB;rw [hv,ju (by decide)]
    go_wp2_with (fail);refine (xP (hL4.alloc _) ⟨#[91]⟩ (by decide) hv (by simp)).mono ?_;rintro e w5 ⟨rfl,hL5,hF5⟩;have z5:=hF5.size;simp only [jO] at z5;obtain ⟨p0,p1,p2,p3,_,_,_,_⟩:=(Box4.new w4 (.int .i64 3) (.string nx) (.int .i64 (l1+2)) (.slice none 0 0) 25).fr hF5 (by omega);go_wp2_with (fail);refine (gL hL5 _ _ _ _ _ _).mono ?_;rintro e we (⟨hbe,rfl,hFe⟩|⟨hbe,rfl,hLe,hFe⟩);·go_wp2;exact ⟨rfl,kG.lost (by simp only [ev.out]) hbe ((hFw4.trans ((Fr.al _ _).trans hF5)).trans hFe)⟩
    obtain ⟨q0,q1',q2,q3,t0,t1,t2,t3⟩:=((hb04.alloc _).fr hF5 (by omega)).fr hFe (by omega);go_wp2;exact jT (v:=.agg #[.int .i64 3,.string nx,.int .i64 (l1+2),.slice none 0 0]) (by simp [results,Tryz.results64,go_sem,q0,q1',q2,q3,empty]) rfl (by rw [ev.out,ec.out];exact kG.fin hr ((hFw4.trans ((Fr.al _ _).trans hF5)).trans hFe) hLe (jE _) (show w.heap.size<w5.heap.size by omega) ((kC.leaf (fun b=>w5.heap.size<=b/\b<w5.heap.size) w5 3 nx (l1+2)).fr (by omega) hFe))
   case true =>
    have ev:Hid (yB ts ns=([(zK ts ns.next).1],kF ts ⟨#[93]⟩ (zK ts ns.next).2)):=by show _=_;unfold yB;rw [hv,jv rfl]
    have S3:Hid ((zK ts ns.next).2.bad=true->kF ts ⟨#[59]⟩ (kF ts ⟨#[93]⟩ (zK ts ns.next).2)=(zK ts ns.next).2):=fun hb=>by
     have e1:kF ts ⟨#[93]⟩ (zK ts ns.next).2=(zK ts ns.next).2:=qF (by decide) hb;rw [e1];exact qF (by decide) hb
    go_wp2_with (fail);refine (xO (hL4.alloc _) ⟨#[91]⟩ (by decide) hv (by simp)).mono ?_;rintro e w5 ⟨rfl,hL5,hF5⟩;have z5:=hF5.size;simp only [jO] at z5;go_wp2_with (fail);refine (zfp hL5).mono ?_;rintro e w6 (⟨hb6,rfl,hF6⟩|⟨hb6,v6,rfl,hl6,hL6,hF6⟩);·go_wp2;exact ⟨rfl,kG.lost (by simp only [ev.out];exact S3.out hb6) hb6 ((hFw4.trans ((Fr.al _ _).trans hF5)).trans hF6)⟩
    obtain ⟨k,x,m,_,rfl,a,n,c,rfl⟩:=hl6.shape;have z6:=hF6.size;have hb56:=((Box4.new w4 (.int .i64 3) (.string nx) (.int .i64 (l1+2)) (.slice none 0 0) 25).fr hF5 (by omega)).fr hF6 (by omega);have hb06:=((hb04.alloc _).fr hF5 (by omega)).fr hF6 (by omega);obtain ⟨p0,p1,p2,p3,o0,o1,o2,o3⟩:=id hb56;have y6:w4.heap.size<w6.heap.size:=hb56.lt;have hput:=(Fr.refl w4.heap.size w6).set 3 (.slice (some ⟨w6.heap.size,0,none⟩) 1 1);have l7:kC (fun b=>w5.heap.size<=b/\b<(w6.setCell ⟨w4.heap.size,3,none⟩ (.slice (some ⟨w6.heap.size,0,none⟩) 1 1)).heap.size) (w6.setCell ⟨w4.heap.size,3,none⟩ (.slice (some ⟨w6.heap.size,0,none⟩) 1 1)) (zK ts ns.next).1 (.agg #[.int .i64 k,.string x,.int .i64 m,.slice a n c]):=hl6.frP (x:=w4.heap.size) hput (fun b hb=>⟨hb.2,by omega⟩) (fun b hb=>⟨hb.1,by rw [jQ];exact hb.2⟩);have hL7:=(hL6.set (N:=w4.heap.size) (by omega) 3 (.slice (some ⟨w6.heap.size,0,none⟩) 1 1)).alloc (.cells #[.int .i64 k,.string x,.int .i64 m,.slice a n c] 25);have hFw7:Fr r w _:=(((hFw4.trans ((Fr.al _ _).trans hF5)).trans hF6).setNew (N:=w4.heap.size) (o:=3) (by omega) (.slice (some ⟨w6.heap.size,0,none⟩) 1 1)).alloc (.cells #[.int .i64 k,.string x,.int .i64 m,.slice a n c] 25);have hb57:=(hb56.set3 (.slice (some ⟨w6.heap.size,0,none⟩) 1 1)).alloc (.cells #[.int .i64 k,.string x,.int .i64 m,.slice a n c] 25);have hb07:=(hb06.other (M:=w4.heap.size) (o:=3) (by omega) (.slice (some ⟨w6.heap.size,0,none⟩) 1 1)).alloc (.cells #[.int .i64 k,.string x,.int .i64 m,.slice a n c] 25);have hrow:=l7.rowed (T:=25) (k:=3) (x:=nx) (m:=(l1+2)) (c:=1) (M:=w6.heap.size) (by rw [jQ];exact z6) (by simp);go_wp2_with (fail);refine (uV hL7 ⟨#[93]⟩ (by decide) (by simp)).mono ?_;rintro e w8 ⟨y8,⟨hb8,rfl,hF8⟩|⟨hb8,rfl,hL8,hF8⟩⟩;·go_wp2;exact ⟨rfl,kG.lost (by simp only [ev.out];exact qF (by decide) hb8) hb8 (hFw7.trans hF8)⟩
    have z8:=hF8.size;simp only [jO,jQ] at z8;obtain ⟨g0,g1,g2,g3,_,_,_,_⟩:=hb57.fr hF8 (by omega);go_wp2_with (fail);refine (gL hL8 _ _ _ _ _ _).mono ?_;rintro e we (⟨hbe,rfl,hFe⟩|⟨hbe,rfl,hLe,hFe⟩);·go_wp2;exact ⟨rfl,kG.lost (by simp only [ev.out]) hbe ((hFw7.trans hF8).trans hFe)⟩
    obtain ⟨q0,q1',q2,q3,t0,t1,t2,t3⟩:=(hb07.fr hF8 (by omega)).fr hFe (by omega);go_wp2;exact jT (v:=.agg #[.int .i64 3,.string nx,.int .i64 (l1+2),.slice (some ⟨w6.heap.size,0,none⟩) 1 1]) (by simp [results,Tryz.results64,go_sem,q0,q1',q2,q3,empty]) rfl (by rw [ev.out,ec.out];exact kG.fin hr ((hFw7.trans hF8).trans hFe) hLe (jE _) (show w.heap.size<w5.heap.size by omega) ((hrow.fr (by omega) hF8).fr (by omega) hFe))
 case false =>
  have es:zP ts s=s:=by unfold zP;rw [hpub,ju (by decide)]
  have en:gW ts s=0:=by unfold gW;rw [hpub,ju (by decide)]
  have hE:=xP (T:=9) hL0 ⟨#[112,117,98]⟩ (by decide) hpub (M:=w.heap.size+1) (by simp);go_enter Tryz.func64,Tryz.ntmps64;go_wp2_with (fail);refine hE.mono ?_;rintro e w1 ⟨rfl,hL1,hF0⟩;unfold yO at hq;rw [es,en] at hq;have z0:=hF0.size;rw [jO] at z0;have hb0:=hB0.fr hF0 (by omega);cases hp:eqS (txt ts s) ⟨#[112,114,111,99]⟩
  case true =>
   rw [hp,jv rfl] at hq;have hq':procF ts f 0 (s).next=some q:=hq;go_wp2_with (fail);refine (xO hL1 ⟨#[112,114,111,99]⟩ (by decide) hp rfl).mono ?_;rintro e w2 ⟨rfl,hL2,hF2⟩;have z2:=hF2.size;go_wp2_with (fail);refine (zob hf ihB (by decide) hL2 hq').mono ?_;rintro e w9 (⟨hb9,rfl,hF9⟩|⟨hb9,v9,rfl,hl9,hL9,hF9⟩);·go_wp2;exact ⟨rfl,kG.lost rfl hb9 ((((Fr.al _ _).trans hF0).trans hF2).trans hF9)⟩
   obtain ⟨k9,x9,m9,_,rfl,a9,n9,c9,rfl⟩:=hl9.shape;obtain ⟨q0,q1',q2,q3,t0,t1,t2,t3⟩:=(hb0.fr hF2 (by omega)).fr hF9 (by omega);go_wp2;exact jT (v:=.agg #[.int .i64 k9,.string x9,.int .i64 m9,.slice a9 n9 c9]) (by simp [results,Tryz.results64,go_sem,q0,q1',q2,q3]) rfl (kG.hand hr (((Fr.al _ _).trans hF0).trans hF2) (by omega) hb9 hl9 hL9 hF9)
  case false =>
   rw [hp,ju (by decide)] at hq;simp only [jh] at hq;subst hq;have h01:=zc7 ts s;go_wp2_with (fail);refine (xP hL1 ⟨#[112,114,111,99]⟩ (by decide) hp rfl).mono ?_;rintro e w2 ⟨rfl,hL2,hF2⟩;have z2:=hF2.size
   have S2:Hid ((name ts (label ts s).2).2.bad=true->kF ts ⟨#[59]⟩ (yB ts (name ts (label ts s).2).2).2=(name ts (label ts s).2).2):=fun hb=>by
    have e1:(yB ts (name ts (label ts s).2).2).2=(name ts (label ts s).2).2:=by unfold yB;rw [zX (by decide) hb,ju (by decide)]
    rw [e1];exact qF (by decide) hb
   have S1:Hid ((label ts s).2.bad=true->kF ts ⟨#[59]⟩ (yB ts (name ts (label ts s).2).2).2=(label ts s).2):=fun hb=>by
    have e1:=fD (ts:=ts) hb;rw [S2.out (by rw [e1];exact hb),e1]
   go_wp2_with (fail);refine (dZ hL2).mono ?_;rintro e w3 (⟨hb3,rfl,hF3⟩|⟨hb3,rfl,hL3,hF3⟩);·go_wp2;exact ⟨rfl,kG.lost (S1.out hb3) hb3 ((((Fr.al _ _).trans hF0).trans hF2).trans hF3)⟩
   have z3:=hF3.size;go_wp2_with (fail);refine (fR hL3).mono ?_;rintro e w4 (⟨hb4,rfl,hF4⟩|⟨hb4,rfl,hL4,hF4⟩);·go_wp2;exact ⟨rfl,kG.lost (S2.out hb4) hb4 (((((Fr.al _ _).trans hF0).trans hF2).trans hF3).trans hF4)⟩
   have z4:=hF4.size;have hFw4:Fr r w w4:=((((Fr.al _ _).trans hF0).trans hF2).trans hF3).trans hF4;have hb04:=((hb0.fr hF2 (by omega)).fr hF3 (by omega)).fr hF4 (by omega);clear S1 S2;generalize label ts s=lb at *;obtain ⟨l1,sl⟩:=lb;simp only at *;generalize name ts sl=nb at *;obtain ⟨nx,ns⟩:=nb;simp only at *;have ec:Hid (0+l1=l1):=by show _=_;omega
   cases hv:eqS (txt ts ns) ⟨#[91]⟩
   case false =>
    have ev:Hid (yB ts ns=([],ns)):=by show _=_;unfold yB;rw [hv,ju (by decide)]
    go_wp2_with (fail);refine (xP (hL4.alloc _) ⟨#[91]⟩ (by decide) hv (by simp)).mono ?_;rintro e w5 ⟨rfl,hL5,hF5⟩;have z5:=hF5.size;simp only [jO] at z5;obtain ⟨p0,p1,p2,p3,_,_,_,_⟩:=(Box4.new w4 (.int .i64 3) (.string nx) (.int .i64 l1) (.slice none 0 0) 25).fr hF5 (by omega);go_wp2_with (fail);refine (gL hL5 _ _ _ _ _ _).mono ?_;rintro e we (⟨hbe,rfl,hFe⟩|⟨hbe,rfl,hLe,hFe⟩);·go_wp2;exact ⟨rfl,kG.lost (by simp only [ev.out]) hbe ((hFw4.trans ((Fr.al _ _).trans hF5)).trans hFe)⟩
    obtain ⟨q0,q1',q2,q3,t0,t1,t2,t3⟩:=((hb04.alloc _).fr hF5 (by omega)).fr hFe (by omega);go_wp2;exact jT (v:=.agg #[.int .i64 3,.string nx,.int .i64 l1,.slice none 0 0]) (by simp [results,Tryz.results64,go_sem,q0,q1',q2,q3,empty]) rfl (by rw [ev.out,ec.out];exact kG.fin hr ((hFw4.trans ((Fr.al _ _).trans hF5)).trans hFe) hLe (jE _) (show w.heap.size<w5.heap.size by omega) ((kC.leaf (fun b=>w5.heap.size<=b/\b<w5.heap.size) w5 3 nx l1).fr (by omega) hFe))
   case true =>
    have ev:Hid (yB ts ns=([(zK ts ns.next).1],kF ts ⟨#[93]⟩ (zK ts ns.next).2)):=by show _=_;unfold yB;rw [hv,jv rfl]
    have S3:Hid ((zK ts ns.next).2.bad=true->kF ts ⟨#[59]⟩ (kF ts ⟨#[93]⟩ (zK ts ns.next).2)=(zK ts ns.next).2):=fun hb=>by
     have e1:kF ts ⟨#[93]⟩ (zK ts ns.next).2=(zK ts ns.next).2:=qF (by decide) hb;rw [e1];exact qF (by decide) hb
    go_wp2_with (fail);refine (xO (hL4.alloc _) ⟨#[91]⟩ (by decide) hv (by simp)).mono ?_;rintro e w5 ⟨rfl,hL5,hF5⟩;have z5:=hF5.size;simp only [jO] at z5;go_wp2_with (fail);refine (zfp hL5).mono ?_;rintro e w6 (⟨hb6,rfl,hF6⟩|⟨hb6,v6,rfl,hl6,hL6,hF6⟩);·go_wp2;exact ⟨rfl,kG.lost (by simp only [ev.out];exact S3.out hb6) hb6 ((hFw4.trans ((Fr.al _ _).trans hF5)).trans hF6)⟩
    obtain ⟨k,x,m,_,rfl,a,n,c,rfl⟩:=hl6.shape;have z6:=hF6.size;have hb56:=((Box4.new w4 (.int .i64 3) (.string nx) (.int .i64 l1) (.slice none 0 0) 25).fr hF5 (by omega)).fr hF6 (by omega);have hb06:=((hb04.alloc _).fr hF5 (by omega)).fr hF6 (by omega);obtain ⟨p0,p1,p2,p3,o0,o1,o2,o3⟩:=id hb56;have y6:w4.heap.size<w6.heap.size:=hb56.lt;have hput:=(Fr.refl w4.heap.size w6).set 3 (.slice (some ⟨w6.heap.size,0,none⟩) 1 1);have l7:kC (fun b=>w5.heap.size<=b/\b<(w6.setCell ⟨w4.heap.size,3,none⟩ (.slice (some ⟨w6.heap.size,0,none⟩) 1 1)).heap.size) (w6.setCell ⟨w4.heap.size,3,none⟩ (.slice (some ⟨w6.heap.size,0,none⟩) 1 1)) (zK ts ns.next).1 (.agg #[.int .i64 k,.string x,.int .i64 m,.slice a n c]):=hl6.frP (x:=w4.heap.size) hput (fun b hb=>⟨hb.2,by omega⟩) (fun b hb=>⟨hb.1,by rw [jQ];exact hb.2⟩);have hL7:=(hL6.set (N:=w4.heap.size) (by omega) 3 (.slice (some ⟨w6.heap.size,0,none⟩) 1 1)).alloc (.cells #[.int .i64 k,.string x,.int .i64 m,.slice a n c] 25);have hFw7:Fr r w _:=(((hFw4.trans ((Fr.al _ _).trans hF5)).trans hF6).setNew (N:=w4.heap.size) (o:=3) (by omega) (.slice (some ⟨w6.heap.size,0,none⟩) 1 1)).alloc (.cells #[.int .i64 k,.string x,.int .i64 m,.slice a n c] 25);have hb57:=(hb56.set3 (.slice (some ⟨w6.heap.size,0,none⟩) 1 1)).alloc (.cells #[.int .i64 k,.string x,.int .i64 m,.slice a n c] 25);have hb07:=(hb06.other (M:=w4.heap.size) (o:=3) (by omega) (.slice (some ⟨w6.heap.size,0,none⟩) 1 1)).alloc (.cells #[.int .i64 k,.string x,.int .i64 m,.slice a n c] 25);have hrow:=l7.rowed (T:=25) (k:=3) (x:=nx) (m:=l1) (c:=1) (M:=w6.heap.size) (by rw [jQ];exact z6) (by simp);go_wp2_with (fail);refine (uV hL7 ⟨#[93]⟩ (by decide) (by simp)).mono ?_;rintro e w8 ⟨y8,⟨hb8,rfl,hF8⟩|⟨hb8,rfl,hL8,hF8⟩⟩;·go_wp2;exact ⟨rfl,kG.lost (by simp only [ev.out];exact qF (by decide) hb8) hb8 (hFw7.trans hF8)⟩
    have z8:=hF8.size;simp only [jO,jQ] at z8;obtain ⟨g0,g1,g2,g3,_,_,_,_⟩:=hb57.fr hF8 (by omega);go_wp2_with (fail);refine (gL hL8 _ _ _ _ _ _).mono ?_;rintro e we (⟨hbe,rfl,hFe⟩|⟨hbe,rfl,hLe,hFe⟩);·go_wp2;exact ⟨rfl,kG.lost (by simp only [ev.out]) hbe ((hFw7.trans hF8).trans hFe)⟩
    obtain ⟨q0,q1',q2,q3,t0,t1,t2,t3⟩:=(hb07.fr hF8 (by omega)).fr hFe (by omega);go_wp2;exact jT (v:=.agg #[.int .i64 3,.string nx,.int .i64 l1,.slice (some ⟨w6.heap.size,0,none⟩) 1 1]) (by simp [results,Tryz.results64,go_sem,q0,q1',q2,q3,empty]) rfl (by rw [ev.out,ec.out];exact kG.fin hr ((hFw7.trans hF8).trans hFe) hLe (jE _) (show w.heap.size<w5.heap.size by omega) ((hrow.fr (by omega) hF8).fr (by omega) hFe))
end
section
variable {w w' w0:World} {r G B:Nat} {ts:List Tok} {s:St}
theorem importsL_st {f:Nat} {ks:List Tree} {p:List Tree × St} (hb:s.bad=true) (h:yC ts f ks s=some p):p.2=s:=by
 cases f with
 | zero=>unfold yC at h;simp at h
 | succ f =>
  unfold yC at h;rw [zX (by decide) hb,ju (by decide)] at h;simp only [jh] at h;rw [<- h]
theorem declsL_st {f:Nat} {ks:List Tree} {p:List Tree × St} (hb:s.bad=true) (h:zY ts f ks s=some p):p.2=s:=by
 cases f with
 | zero=>unfold zY at h;simp at h
 | succ f =>
  unfold zY at h;rw [hb] at h;simp only [Bool.true_or,if_true,jh] at h;rw [<- h]
theorem zq9 (hL:Ld w r G ts s) (hb:(name ts s).2.bad=true):Calls Tryz.prog 61 #[.pointer (some ⟨r,0,none⟩)] w fun e w'=>e=.panicked (Pan ts (name ts s).2)/\Fr r w w' :=
 (fR hL).mono fun e w' h=>by
  rcases h with ⟨_,h1,h2⟩|⟨h1,_⟩
  ·exact ⟨h1,h2⟩
  ·rw [hb] at h1;cases h1
theorem zjy (hL:Ld w r G ts s) (hb:(name ts s).2.bad=false):Calls Tryz.prog 61 #[.pointer (some ⟨r,0,none⟩)] w fun e w'=>e=.returned (.string (name ts s).1)/\Ld w' r G ts (name ts s).2/\Fr r w w' :=
 (fR hL).mono fun e w' h=>by
  rcases h with ⟨h1,_⟩|⟨_,h1,h2,h3⟩
  ·rw [hb] at h1;cases h1
  ·exact ⟨h1,h2,h3⟩
theorem zp2 (hL:Ld w r G ts s) (k m:Int) (x:ByteArray) (a:Option Addr) (n c:Nat) (hb:(kF ts ⟨#[59]⟩ s).bad=true):Calls Tryz.prog 63 #[.pointer (some ⟨r,0,none⟩),.agg #[.int .i64 k,.string x,.int .i64 m,.slice a n c]] w fun e w'=>e=.panicked (Pan ts (kF ts ⟨#[59]⟩ s))/\Fr r w w' :=
 (gL hL k m x a n c).mono fun e w' h=>by
  rcases h with ⟨_,h1,h2⟩|⟨h1,_⟩
  ·exact ⟨h1,h2⟩
  ·rw [hb] at h1;cases h1
theorem zqx (hL:Ld w r G ts s) (k m:Int) (x:ByteArray) (a:Option Addr) (n c:Nat) (hb:(kF ts ⟨#[59]⟩ s).bad=false):Calls Tryz.prog 63 #[.pointer (some ⟨r,0,none⟩),.agg #[.int .i64 k,.string x,.int .i64 m,.slice a n c]] w fun e w'=>e=.returned (.agg #[.int .i64 k,.string x,.int .i64 m,.slice a n c])/\Ld w' r G ts (kF ts ⟨#[59]⟩ s)/\Fr r w w' :=
 (gL hL k m x a n c).mono fun e w' h=>by
  rcases h with ⟨h1,_⟩|⟨_,h1,h2,h3⟩
  ·rw [hb] at h1;cases h1
  ·exact ⟨h1,h2,h3⟩
theorem zxm (hL:Ld w r G ts ⟨0,false⟩) {q:Tree × St} (hq:uG ts=some q):Calls Tryz.prog 38 #[.pointer (some ⟨r,0,none⟩)] w (kG w r G ts q):=by
 have c24:=kc25;have hr:=hL.lt;have hlen:=hL.len;obtain ⟨i0,hi,hz0,hz1',hz2⟩:=info_parts bW;have hD:qI r G ts 64 (yO ts 100000):=yaf (jE _) (zz7 r G ts 100000 (jE _) (jE _)).b;have hB0:=Box4.new w (.int .i64 0) (.string empty) (.int .i64 0) (.slice none 0 0) 25;unfold uG at hq;obtain ⟨p,hp,h2⟩:=zN hq;obtain ⟨d,hd,h4⟩:=zN h2;simp only [jh] at h4;subst h4;clear hq h2;have T1:Hid (p.2.bad=true->d.2=p.2):=fun hb=>declsL_st hb hd
 have T2:Hid ((gC ts).bad=true->d.2=gC ts):=fun hb=>by
  have e1:=importsL_st hb hp;rw [T1.out (by rw [e1];exact hb),e1]
 have T3:Hid ((name ts (kF ts ⟨#[109,111,100,117,108,101]⟩ ⟨0,false⟩)).2.bad=true->d.2=(name ts (kF ts ⟨#[109,111,100,117,108,101]⟩ ⟨0,false⟩)).2):=fun hb=>by
  have e1:gC ts=(name ts (kF ts ⟨#[109,111,100,117,108,101]⟩ ⟨0,false⟩)).2:=by unfold gC;exact qF (by decide) hb
  rw [T2.out (by rw [e1];exact hb),e1]
 have T4:Hid ((kF ts ⟨#[109,111,100,117,108,101]⟩ ⟨0,false⟩).bad=true->d.2=kF ts ⟨#[109,111,100,117,108,101]⟩ ⟨0,false⟩):=fun hb=>by
  have e1:=fD (ts:=ts) hb;rw [T3.out (by rw [e1];exact hb),e1]
 have HP:Hid (yC ts 4000 [] (gC ts)=some p):=hp;have HD:Hid (zY ts 4000 p.1 p.2=some d):=hd;clear hp hd;have hT:=uV (T:=9) (hL.alloc (.cells #[.int .i64 0,.string empty,.int .i64 0,.slice none 0 0] 25)) ⟨#[109,111,100,117,108,101]⟩ (by decide) (M:=w.heap.size+1) (by simp);unfold fJ;unfold gC at HP T2;generalize kF ts ⟨#[109,111,100,117,108,101]⟩ ⟨0,false⟩=s1 at *;have hNam:=fun (w:World) (h:Ld w r G ts s1)=>fR h
 generalize name ts s1=nb at *;obtain ⟨nx,ns⟩:=nb;simp only at *;go_enter Tryz.func38,Tryz.ntmps38;go_wp2_with (fail);refine hT.mono ?_;rintro e w1 ⟨y1,⟨hb1,rfl,hF1⟩|⟨hb1,rfl,hL1,hF1⟩⟩;·go_wp2;exact ⟨rfl,kG.lost (T4.out hb1) hb1 ((Fr.al _ _).trans hF1)⟩
 go_wp2_with (fail);refine (hNam _ hL1).mono ?_;rintro e w2 (⟨hb2,rfl,hF2⟩|⟨hb2,rfl,hL2,hF2⟩);·go_wp2;exact ⟨rfl,kG.lost (T3.out hb2) hb2 (((Fr.al _ _).trans hF1).trans hF2)⟩
 go_wp2_with (fail);refine (uV (hL2.alloc _) ⟨#[59]⟩ (by decide) (by simp)).mono ?_;rintro e w3 ⟨y3,⟨hb3,rfl,hF3⟩|⟨hb3,rfl,hL3,hF3⟩⟩;·go_wp2;exact ⟨rfl,kG.lost (T2.out hb3) hb3 ((((Fr.al _ _).trans hF1).trans hF2).trans ((Fr.al _ _).trans hF3))⟩
 have z1:=hF1.size;have z2:=hF2.size;have z3:=hF3.size;simp only [jO] at z1 z3;have hFw3:Fr r w w3:=(((Fr.al _ _).trans hF1).trans hF2).trans ((Fr.al _ _).trans hF3);have hbm:=(Box4.new w2 (.int .i64 1) (.string nx) (.int .i64 0) (.slice none 0 0) 25).fr hF3 (by omega);have hbr:=(((hB0.fr hF1 (by omega)).fr hF2 (by omega)).alloc (.cells #[.int .i64 1,.string nx,.int .i64 0,.slice none 0 0] 25)).fr hF3 (by omega);clear T2 T3 T4 hT hNam;go_wp2
 go_loopg [] 4000 (fun k wr=>∃ (ks:List Tree) (s1:St) (kv:Value),Hid (yC ts k ks s1=some p)/\ks.length+k<=4000/\KO w (w2.heap.size+1) r G ts wr s1 kv ks/\Box4 wr w2.heap.size (.int .i64 1) (.string nx) (.int .i64 0) kv/\Box4 wr w.heap.size (.int .i64 0) (.string empty) (.int .i64 0) (.slice none 0 0))
 case atStart=>exact ⟨[],_,.slice none 0 0,HP.out,by simp,⟨hL3,hr,by omega,hFw3,Kids.nil _ _ _⟩,hbm,hbr⟩
 case round =>
  obtain ⟨ks,s1,kv,HL,hkf,hK,hb1,hb0⟩:=hrel;clear HP;obtain ⟨a,c,rfl⟩:=hK.kids.shape
  cases gk with
  | zero=>have:=HL.out;unfold yC at this;simp at this
  | succ k =>
   have hq2:=HL.out;clear HL;unfold yC at hq2;cases he:eqS (txt ts s1) ⟨#[105,109,112,111,114,116]⟩
   case false =>
    rw [he,ju (by decide)] at hq2;simp only [jh] at hq2;subst hq2;go_wp2_with (fail);refine (xP hK.ld ⟨#[105,109,112,111,114,116]⟩ (by decide) he rfl).mono ?_;rintro e wi ⟨rfl,hLi,hFi⟩;have hKi:=hK.step hLi hFi;have hb1i:=hb1.fr hFi (by omega);have hb0i:=hb0.fr hFi (by omega);clear T1 hK hb1 hb0 he;go_wp2
    go_loopg [] 4000 (fun k wr=>∃ (ks:List Tree) (s1:St) (kv:Value),Hid (zY ts k ks s1=some d)/\ks.length+k<=8000/\KO w (w2.heap.size+1) r G ts wr s1 kv ks/\Box4 wr w2.heap.size (.int .i64 1) (.string nx) (.int .i64 0) kv/\Box4 wr w.heap.size (.int .i64 0) (.string empty) (.int .i64 0) (.slice none 0 0))
    case atStart=>exact ⟨ks,s1,_,HD.out,by omega,hKi,hb1i,hb0i⟩
    case round =>
     clear HD hKi hb1i hb0i hLi hFi;obtain ⟨ks,s1,kv,HL,hkf,hKq,hb1q,hb0q⟩:=hrel;obtain ⟨a,c,rfl⟩:=hKq.kids.shape;obtain ⟨wq,hwq⟩:∃ wq,wq=wr:=⟨_,rfl⟩
     obtain rfl:=hwq;obtain ⟨al,cp,h0,h1',h2⟩:=hKq.ld.c0
     cases gk with
     | zero=>have:=HL.out;unfold zY at this;simp at this
     | succ k =>
      have hq2:=HL.out;clear HL;unfold zY at hq2;rw [hKq.ld.ok] at hq2;by_cases hlt:ts.length<=s1.i
      ·rw [decide_eq_true hlt] at hq2;simp only [Bool.or_true,if_true,jh] at hq2;subst hq2;have hn:ts.length - s1.i=0:=by omega
       rw [hn] at h0;obtain ⟨p0,p1,p2,p3,_,_,_,_⟩:=id hb1q;obtain ⟨t0,t1,t2,t3,u0,u1,u2,u3⟩:=id hb0q;go_wp2;exact jT (v:=.agg #[.int .i64 1,.string nx,.int .i64 0,.slice a ks.length c]) (by simp [results,Tryz.results38,go_sem,t0,t1,t2,t3]) rfl (kG.kids hr hKq (jE _) (by omega) (by omega))
      ·rw [decide_eq_false hlt] at hq2;simp only [Bool.or_false,jr,if_false] at hq2;obtain ⟨q1,h1,hq3⟩:=zN hq2;have HQ:Hid (zY ts k (ks++[q1.1]) q1.2=some d):=hq3;clear hq2 hq3;obtain rfl:=h2 (by omega);have hn:0<ts.length - s1.i:=by omega
       have hn':ts.length - s1.i<=3000:=by omega
       generalize ts.length - s1.i=nl at *;obtain ⟨p0,p1,p2,p3,_,_,_,_⟩:=id hb1q;by_cases hbq:q1.2.bad=true
       ·have HS:Hid (d.2=q1.2):=declsL_st hbq HQ.out;go_wp2;refine wp_region_any (by kernel_rfl) ?_;change wpAny _ _ _ _ _ _ _ (World.drew _);refine tkQ 0 (.pointer (some ⟨w2.heap.size,3,none⟩)) ?_;refine tkQ 2 (.pointer (some ⟨r,0,none⟩)) ?_;refine wpAny_ready (rs:=[1,3]) (by kernel_rfl) (by simp) ?_;refine AllReady.cons rfl (fun K hK=>?_) (AllReady.cons rfl (fun K hK=>?_) AllReady.nil)
        focus
         go_simp;refine hK _ _ ?_;clear hK K;refine one0 3 fun K hK=>?_
        all_goals
         go_simp;go_at_call 64;refine (hD.lost (hKq.ld.drewN 1) h1 hbq).mono ?_;rintro e w5 ⟨rfl,hF5⟩;go_wp2;exact ⟨rfl,kG.lost HS.out hbq ((hKq.fr.drewN 1).trans hF5)⟩
       have hbq':q1.2.bad=false:=by simpa using hbq
       go_wp2;refine wp_region_any (by kernel_rfl) ?_;change wpAny _ _ _ _ _ _ _ (World.drew _);refine tkQ 0 (.pointer (some ⟨w2.heap.size,3,none⟩)) ?_;refine tkQ 2 (.pointer (some ⟨r,0,none⟩)) ?_;refine wpAny_ready (rs:=[1,3]) (by kernel_rfl) (by simp) ?_;refine AllReady.cons rfl (fun K hK=>?_) (AllReady.cons rfl (fun K hK=>?_) AllReady.nil)
       focus
        go_simp;refine hK _ _ ?_;clear hK K;refine one0 3 fun K hK=>?_
       all_goals
        go_simp;go_at_call 64;refine (hD.fine (hKq.ld.drewN 1) h1 hbq').mono ?_;rintro e w6 ⟨v6,rfl,hl6,hL6,hF6⟩;obtain ⟨kc,yc,mc,_,rfl,ac,nc,cc,rfl⟩:=hl6.shape;have hFq6:Fr r wq w6:=((Fr.refl r wq).drewN 1).trans hF6;have hkb:∀ g,(Value.slice a ks.length c).ownBlock=some g->w2.heap.size+1<=g/\g<wq.heap.size:=fun g hg=>hKq.kids.blk hg
        have hK6:=hKq.step hL6 hFq6;have zz:=hFq6.size;have zq:=hb1q.lt;have hb16:=hb1q.fr hFq6 (by omega);have hb06:=hb0q.fr hFq6 (by omega);have z6:w2.heap.size<w6.heap.size:=hb16.lt;have z6':w.heap.size<w6.heap.size:=hb06.lt;obtain ⟨vs,ho,ha⟩:=hK6.kids;have HA:Hid (zR (fun b=>w2.heap.size+1<=b/\b<w6.heap.size/\some b≠(Value.slice a ks.length c).ownBlock) w6 ks vs):=ha;obtain ⟨g0,g1,g2,g3,_,_,_,_⟩:=id hb16;have hlk:ks.length<=8000:=by omega
        clear ha
        have hlc:kC (fun b=>w2.heap.size+1<=b/\b<w6.heap.size/\some b≠(Value.slice a ks.length c).ownBlock) w6 q1.1 (.agg #[.int .i64 kc,.string yc,.int .i64 mc,.slice ac nc cc]) :=
         hl6.to (fun b hb=>by
          have h1:wq.heap.size<=b:=hb.1
          exact ⟨by omega,hb.2,fun e=>by have:=(hkb b e.symm).2;omega⟩) (fun _ _ _=>rfl)
        go_wp2
       focus
        refine one0 4 fun K hK=>?_
        go_simp;refine hK _ _ ?_;clear hK K
       rotate_left
       focus
        refine wpAny_ready (rs:=[1,4]) (by kernel_rfl) (by simp) ?_;refine AllReady.cons rfl (fun K hK=>?_) (AllReady.cons rfl (fun K hK=>?_) AllReady.nil)
        all_goals
         go_simp;refine hK _ _ ?_;clear hK K
        focus
         refine one0 4 fun K hK=>?_
         go_simp;refine hK _ _ ?_;clear hK K
        rotate_left
        focus
         refine one0 1 fun K hK=>?_
         go_simp;refine hK _ _ ?_;clear hK K
       all_goals
        refine one0 5 fun K hK=>?_
        refine step_append_lies _ (by rfl) (.tmp 33) (.tmp 36) 23 (by rfl) (w2.heap.size+1) 25 i0 (.agg #[.int .i64 0,.string ⟨#[]⟩,.int .i64 0,.slice none 0 0]) 4 56 Tryz.underlying23 hi hz0 hz1' hz2 rfl (by decide) (.slice a ks.length c) ks.length (uK vs) rfl (ho.alloc _) ⟨w6.heap.size,0,none⟩ 1 1 [.int .i64 kc,.string yc,.int .i64 mc,.slice ac nc cc] rfl rfl (cM _ _ _ _ _ _ _ rfl) (by intro u hu;simp at hu;rcases hu with rfl | rfl | rfl | rfl<;>rfl) (by omega) (by unfold maxLen;omega) (by omega) (by simp;omega) (w6.heap.size+1) (by simp) ?_;intro g cap w7 hown' hgrow hat hlt;refine hK _ _ ?_;clear hK K;have hK7:=KO.pushed (q:=(.int .i64 kc,.string yc,.int .i64 mc,.slice ac nc cc)) (t:=q1.1) hK6 ho HA.out hlc hown' hgrow (by rcases hat with e | e;exact .inl e.symm;exact .inr (by rw [e];rfl));have hnb:(Value.slice a ks.length c).ownBlock≠some w2.heap.size:=fun e=>by have:=(hkb _ e).1;omega
        have hnb0:(Value.slice a ks.length c).ownBlock≠some w.heap.size:=fun e=>by have:=(hkb _ e).1;omega
        have hb17:=(hb16.alloc (.cells #[.int .i64 kc,.string yc,.int .i64 mc,.slice ac nc cc] 25)).grown hgrow hnb;have hb07:=(hb06.alloc (.cells #[.int .i64 kc,.string yc,.int .i64 mc,.slice ac nc cc] 25)).grown hgrow hnb0;obtain ⟨e0,e1,e2,e3,d0,d1,d2,d3⟩:=id hb17;refine one0 6 fun K hK=>?_
        go_simp;refine hK _ _ ?_;clear hK K;refine one0 7 fun K hK=>?_
        go_simp;refine hK _ _ ?_;clear hK K;refine wpAny_done (by kernel_rfl) ?_ _;go_wp2
        go_roundg k
        case rel=>exact ⟨ks++[q1.1],q1.2,_,HQ.out,by rw [jb];simp;omega,hK7.set (by omega) (by omega) 3 _,hb17.set3 _,hb07.other (by omega) _⟩
        case measure=>omega
   case true =>
    rw [he,jv rfl] at hq2;have HQ:Hid (yC ts k (ks++[.node 2 (name ts s1.next).1 0 []]) (kF ts ⟨#[59]⟩ (name ts s1.next).2)=some p):=hq2;clear hq2;go_wp2_with (fail);refine (xO hK.ld ⟨#[105,109,112,111,114,116]⟩ (by decide) he rfl).mono ?_;rintro e wq ⟨rfl,hLq,hFq⟩;have hKq:=hK.step hLq hFq;have hb1q:=hb1.fr hFq (by omega);have hb0q:=hb0.fr hFq (by omega);obtain ⟨p0,p1,p2,p3,_,_,_,_⟩:=id hb1q;by_cases hbn:(name ts s1.next).2.bad=true
    ·have HS:Hid (d.2=(name ts s1.next).2):=by
      have e1:kF ts ⟨#[59]⟩ (name ts s1.next).2=(name ts s1.next).2:=qF (by decide) hbn;have e2:=importsL_st (by rw [e1];exact hbn) HQ.out;show _=_;rw [T1.out (by rw [e2,e1];exact hbn),e2,e1]
     go_wp2;refine wp_region_any (by kernel_rfl) ?_;change wpAny _ _ _ _ _ _ _ (World.drew _);refine tkQ 0 (.pointer (some ⟨w2.heap.size,3,none⟩)) ?_;refine tkQ 2 (.pointer (some ⟨r,0,none⟩)) ?_;refine tkQ 3 (.pointer (some ⟨r,0,none⟩)) ?_;refine wpAny_ready (rs:=[1,4]) (by kernel_rfl) (by simp) ?_;refine AllReady.cons rfl (fun K hK=>?_) (AllReady.cons rfl (fun K hK=>?_) AllReady.nil)
     focus
      go_simp;refine hK _ _ ?_;clear hK K;refine one0 4 fun K hK=>?_
     all_goals
      go_simp;go_at_call 61;refine (zq9 (hLq.drewN 1) hbn).mono ?_;rintro e w5 ⟨rfl,hF5⟩;go_wp2;exact ⟨rfl,kG.lost HS.out hbn ((hKq.fr.drewN 1).trans hF5)⟩
    have hbn':(name ts s1.next).2.bad=false:=by simpa using hbn
    by_cases hbe:(kF ts ⟨#[59]⟩ (name ts s1.next).2).bad=true
    ·have HS:Hid (d.2=kF ts ⟨#[59]⟩ (name ts s1.next).2):=by
      have e2:=importsL_st hbe HQ.out;show _=_;rw [T1.out (by rw [e2];exact hbe),e2]
     go_wp2;refine wp_region_any (by kernel_rfl) ?_;change wpAny _ _ _ _ _ _ _ (World.drew _);refine tkQ 0 (.pointer (some ⟨w2.heap.size,3,none⟩)) ?_;refine tkQ 2 (.pointer (some ⟨r,0,none⟩)) ?_;refine tkQ 3 (.pointer (some ⟨r,0,none⟩)) ?_;refine wpAny_ready (rs:=[1,4]) (by kernel_rfl) (by simp) ?_;refine AllReady.cons rfl (fun K hK=>?_) (AllReady.cons rfl (fun K hK=>?_) AllReady.nil)
     focus
      go_simp;refine hK _ _ ?_;clear hK K;refine one0 4 fun K hK=>?_
     all_goals
      go_simp;go_at_call 61;refine (zjy (hLq.drewN 1) hbn').mono ?_;rintro e w5 ⟨rfl,hL5,hF5⟩;have hFq5:Fr r wq w5:=((Fr.refl r wq).drewN 1).trans hF5;have zq5:=hFq5.size;obtain ⟨r0,r1,r2,r3,_,_,_,_⟩:=hb1q.fr hFq5 (by omega);go_wp2;refine tkQ 5 (.agg #[.int .i64 2,.string (name ts s1.next).1,.int .i64 0,.slice none 0 0] ) ?_
     focus
      refine one0 6 fun K hK=>?_
     rotate_left
     focus
      refine wpAny_ready (rs:=[1,6]) (by kernel_rfl) (by simp) ?_;refine AllReady.cons rfl (fun K hK=>?_) (AllReady.cons rfl (fun K hK=>?_) AllReady.nil)
      focus
       go_simp;refine hK _ _ ?_;clear hK K;refine one0 6 fun K hK=>?_
     all_goals
      go_simp;go_at_call 63;refine (zp2 hL5 2 0 _ none 0 0 hbe).mono ?_;rintro e w6 ⟨rfl,hF6⟩;go_wp2;exact ⟨rfl,kG.lost HS.out hbe (hKq.fr.trans (hFq5.trans hF6))⟩
    have hbe':(kF ts ⟨#[59]⟩ (name ts s1.next).2).bad=false:=by simpa using hbe
    go_wp2;refine wp_region_any (by kernel_rfl) ?_;change wpAny _ _ _ _ _ _ _ (World.drew _);refine tkQ 0 (.pointer (some ⟨w2.heap.size,3,none⟩)) ?_;refine tkQ 2 (.pointer (some ⟨r,0,none⟩)) ?_;refine tkQ 3 (.pointer (some ⟨r,0,none⟩)) ?_;refine wpAny_ready (rs:=[1,4]) (by kernel_rfl) (by simp) ?_;refine AllReady.cons rfl (fun K hK=>?_) (AllReady.cons rfl (fun K hK=>?_) AllReady.nil)
    focus
     go_simp;refine hK _ _ ?_;clear hK K;refine one0 4 fun K hK=>?_
    all_goals
     go_simp;go_at_call 61;refine (zjy (hLq.drewN 1) hbn').mono ?_;rintro e w5 ⟨rfl,hL5,hF5⟩;have hFq5:Fr r wq w5:=((Fr.refl r wq).drewN 1).trans hF5;have zq5:=hFq5.size;obtain ⟨r0,r1,r2,r3,_,_,_,_⟩:=hb1q.fr hFq5 (by omega);go_wp2;refine tkQ 5 (.agg #[.int .i64 2,.string (name ts s1.next).1,.int .i64 0,.slice none 0 0] ) ?_
    focus
     refine one0 6 fun K hK=>?_
    rotate_left
    focus
     refine wpAny_ready (rs:=[1,6]) (by kernel_rfl) (by simp) ?_;refine AllReady.cons rfl (fun K hK=>?_) (AllReady.cons rfl (fun K hK=>?_) AllReady.nil)
     focus
      go_simp;refine hK _ _ ?_;clear hK K;refine one0 6 fun K hK=>?_
     rotate_left
    all_goals
     go_simp;go_at_call 63;refine (zqx hL5 2 0 _ none 0 0 hbe').mono ?_;rintro e w6 ⟨rfl,hL6,hF6⟩;have hFq6:Fr r wq w6:=hFq5.trans hF6;have hkb:∀ g,(Value.slice a ks.length c).ownBlock=some g->w2.heap.size+1<=g/\g<wq.heap.size:=fun g hg=>hKq.kids.blk hg
     have hK6:=hKq.step hL6 hFq6;have zz:=hFq6.size;have zq:=hb1q.lt;have hb16:=hb1q.fr hFq6 (by omega);have hb06:=hb0q.fr hFq6 (by omega);have z6:w2.heap.size<w6.heap.size:=hb16.lt;have z6':w.heap.size<w6.heap.size:=hb06.lt;obtain ⟨vs,ho,ha⟩:=hK6.kids;have HA:Hid (zR (fun b=>w2.heap.size+1<=b/\b<w6.heap.size/\some b≠(Value.slice a ks.length c).ownBlock) w6 ks vs):=ha;obtain ⟨g0,g1,g2,g3,_,_,_,_⟩:=id hb16;have hlk:ks.length<=8000:=by omega
     clear ha;have hlc:kC (fun b=>w2.heap.size+1<=b/\b<w6.heap.size/\some b≠(Value.slice a ks.length c).ownBlock) w6 (.node 2 (name ts s1.next).1 0 []) (.agg #[.int .i64 2,.string (name ts s1.next).1,.int .i64 0,.slice none 0 0]):=kC.leaf _ _ _ _ _;go_wp2
    focus
     refine wpAny_ready (rs:=[1,7]) (by kernel_rfl) (by simp) ?_;refine AllReady.cons rfl (fun K hK=>?_) (AllReady.cons rfl (fun K hK=>?_) AllReady.nil)
     all_goals
      go_simp;refine hK _ _ ?_;clear hK K
     rotate_left
     focus
      refine one0 1 fun K hK=>?_
      go_simp;refine hK _ _ ?_;clear hK K
    rotate_left
    iterate 3
     focus
      refine one0 7 fun K hK=>?_
      go_simp;refine hK _ _ ?_;clear hK K
     rotate_left
    all_goals
     refine one0 8 fun K hK=>?_
     refine step_append_lies _ (by rfl) (.tmp 17) (.tmp 23) 23 (by rfl) (w2.heap.size+1) 25 i0 (.agg #[.int .i64 0,.string ⟨#[]⟩,.int .i64 0,.slice none 0 0]) 4 56 Tryz.underlying23 hi hz0 hz1' hz2 rfl (by decide) (.slice a ks.length c) ks.length (uK vs) rfl (ho.alloc _) ⟨w6.heap.size,0,none⟩ 1 1 [.int .i64 2,.string (name ts s1.next).1,.int .i64 0,.slice none 0 0] rfl rfl (cM _ _ _ _ _ _ _ rfl) (by intro u hu;simp at hu;rcases hu with rfl | rfl | rfl | rfl<;>rfl) (by omega) (by unfold maxLen;omega) (by omega) (by simp;omega) (w6.heap.size+1) (by simp) ?_;intro g cap w7 hown' hgrow hat hlt;refine hK _ _ ?_;clear hK K;have hK7:=KO.pushed (q:=(.int .i64 2,.string (name ts s1.next).1,.int .i64 0,.slice none 0 0)) (t:=Tree.node 2 (name ts s1.next).1 0 [] ) hK6 ho HA.out hlc hown' hgrow (by rcases hat with e | e;exact .inl e.symm;exact .inr (by rw [e];rfl));have hnb:(Value.slice a ks.length c).ownBlock≠some w2.heap.size:=fun e=>by have:=(hkb _ e).1;omega
     have hnb0:(Value.slice a ks.length c).ownBlock≠some w.heap.size:=fun e=>by have:=(hkb _ e).1;omega
     have hb17:=(hb16.alloc (.cells #[.int .i64 2,.string (name ts s1.next).1,.int .i64 0,.slice none 0 0] 25)).grown hgrow hnb;have hb07:=(hb06.alloc (.cells #[.int .i64 2,.string (name ts s1.next).1,.int .i64 0,.slice none 0 0] 25)).grown hgrow hnb0;obtain ⟨e0,e1,e2,e3,d0,d1,d2,d3⟩:=id hb17;refine one0 9 fun K hK=>?_
     go_simp;refine hK _ _ ?_;clear hK K;refine one0 10 fun K hK=>?_
     go_simp;refine hK _ _ ?_;clear hK K;refine wpAny_done (by kernel_rfl) ?_ _;go_wp2
     go_roundg k
     case rel=>exact ⟨ks++[Tree.node 2 (name ts s1.next).1 0 [] ],kF ts ⟨#[59]⟩ (name ts s1.next).2,_,HQ.out,by rw [jb];simp;omega,hK7.set (by omega) (by omega) 3 _,hb17.set3 _,hb07.other (by omega) _⟩
     case measure=>omega
end
end syn
end Go.Proofs.YtaadmdlbkhcfnaaGreatDoor
