/- A module that is read is small. -/
import Derived.Test.YtjkcecppnmlhjaaGreatDoorNQr
import Derived.Test.YtjkcecppnmlhjaaGreatDoorNQ20
import Derived.Test.YtjkcecppnmlhjaaGreatDoorNQ14
open Go.Proofs.Tryz
open Go.Value renaming int → U, string → I, slice → J, bool → Y, agg → Za, pointer → Zp
open Go.IntKind renaming i64 → O
open Go.Obj renaming cells → Zc
open Go.Addr renaming mk → A
open Option renaming none → F, some → Z
open Bool renaming false → X, true → H
open Go renaming World → Zw, Value → Zv
set_option maxHeartbeats 4000000
set_option linter.unusedVariables false
set_option linter.unusedSimpArgs false
set_option maxRecDepth 100000
namespace Go.Proofs.YtjkcecppnmlhjaaGreatDoor
theorem oz21y211 {p:Prop} (aa:p:=by
 obtain⟨ai,aj,ak⟩:=d4.out;replace ai:=(o.2.cell (p:=(A g (j+b*3) F)) aw.out).trans ai;replace aj:=(o.2.cell (p:=(A g (j+b*3+1) F)) aw.out).trans aj;replace ak:=(o.2.cell (p:=(A g (j+b*3+2) F)) aw.out).trans ak;go_simp):p:=aa
theorem oz21y210 {p:Prop} (aa:p:=by
 have g6:¬((qs.length:Int)<=(b:Int)):=(by have:=a8.out;omega);go_simp):p:=aa
theorem oz21x206 {p:Prop} (aa:p:=by
 go_simp;refine i.out _ _ ⟨ap,ar⟩ (fun K=>?_);clear i y K;replace k:=an;replace a5:=ap;replace au:=ar;clear an ap ar d fY aP;have d:=And.intro a5 au;generalize W.alloc (Zc #[I e,J s E t,J q C r] 38)=dc at *;generalize W.heap.size=aW at *;refine oneH 10 fun y i=>?_
 have ac:=k.rf;have bf:=World.news_of_block (w:=dc) (B:=aW) (cs:=#[I e,J s E t,J q C r]) (t:=38) (fr:=(0,0)) di;refine step_append_lies _ oI (.tmp 58) (.tmp 63) 22 oI (D+1) 38 ds (Za #[I ⟨#[]⟩,J F 0 0,J F 0 0]) 3 64 underlying22 dm dp dq dr rfl oC _ fs.length (uF fs) oI ac (A aW 0 F) 1 1 [I e,J s E t,J q C r] oI rfl bf oS oC (by have:=aS.out;unfold maxLen;omega) (by have:=aS.out;omega) (by have:=k.lc.lt;omega) _ rfl ?_;intro aF aX aO bj a2 aL g5;have aH:=Q4.grown a5 a2 ax.out;have dl:=a2.size;have be:Below w0.heap.size w0 aO:=k.bs.grown a2 k.bs.size (fun g9 m=>by have b1:=(ac.lt _ m).1;have:=k.hD;omega);refine i.out _ _ ⟨aH,be⟩ (fun K=>?_);have b6:=LK.pushF (q:=f) k db.out (by rw[az.out.1,az.out.2.1,az.out.2.2];exact bj) a2 aL;have g1:aO.frozen? (A D 3 F)=X:=(jN (a:=(A D 3 F)) (a2.block D k.lc.lt (fun m=>by have b1:D+1<=D:=(ac.lt _ m.symm).1;omega))).trans (k.lc.fz 3);have gg:aO.cell? (A D 3 F)=Z (J bn fs.length bo):=(jM (a:=(A D 3 F)) (a2.block D k.lc.lt (fun m=>by have b1:D+1<=D:=(ac.lt _ m.symm).1;omega))).trans k.lc.c3
 have d6:Hid ((Value.slice (Z (A aF 0 F)) (fs.length+1) aX).ownBlock≠Z kb):=fun m=>by
  have aD:aF=kb:=by injection m
  rcases aL with aZ | aZ
  ·exact ax.out (by rw[aZ,aD])
  ·have df:=a9.out;have de:=aV.out;omega
 clear i y K bj a2 aL ac bf k d a5 au;have d:=And.intro aH be;rw[uP oI];simp only[jA,jB,jC];refine tkw 11 (Zp (Z (A D 0 F))) d HP ?_;simp only[jA,jB,jC];refine tkw 12 (Zp (Z (A D 3 F))) d HP ?_;simp only[jA,jB,jC];refine oneH 13 fun y i=>?_
 go_simp;have b9:=Q4.other (M:=D) (fun m=>da.out m.symm) aH 3 (J (Z (A aF 0 F)) (fs.length+1) aX);refine i.out _ _ ⟨b9,b6.bs⟩ (fun K=>?_);clear i y K;refine wpAnyH_done oD ?_ _;go_wp2;go_roundw
 case rel=>exact⟨b+1,H,fs++[f],_,a8.out,oJ,rfl,b6,b9,d6.out,by have df:=a9.out;have de:=aV.out;have g3:=dl;rw[jQ];omega,T.out⟩
 case measure=>simp[intOf];have:=a8.out;omega):p:=aa
theorem oz21x207 {f:Prop} (j:f:=by
 intro a5 b2;obtain⟨p,Q,a3,N,q,y,z,a6,a7,a8,a9,n,B,G,av,bn,bc,bo⟩:=aQ.out a5 b2;clear aQ ab aJ aL aa b2;go_wp2;go_roundw
 case rel=>exact⟨b+1,p,Q,a3,N,q,y,z,a6,a7,a8,a9,n,B,G,oA,oJ,av,bn,bc,bo⟩
 case measure=>simp[intOf];omega):f:=j
theorem oz21x209 {f:Prop} (j:f:=by
 go_meet
 case rel=>exact⟨fs,fv,lv,L,a1,p0,p1,p2,p3,p4,p5,c,g,H,e,by rw[show R=Z (c,g)from M.out];rfl⟩):f:=j
theorem oz21y213 {p:Prop} (g:p:=by
 have aP:¬((qs.length:Int)<=(e:Int)):=(by have:=aG.out;omega);go_simp):p:=g
theorem oz21y212 {p:Prop} (g:p:=by
 have aP:¬((qs.length:Int)<=(f:Int)):=(by have:=aH.out;omega);go_simp):p:=g
theorem oz21x208 {p:Prop} (g:p:=by
 obtain⟨bj,bm,bn,bo,bf,bg,P,az⟩:=n.cells;have bp:=P 0;have bq:=P 1;have br:=P 2;have bs:=P 3;have bh:=az 0;have bi:=az 1;obtain⟨an,ao,aL⟩:=n.done (U O 0) (I ⟨#[]⟩) (U O 0) (J F 0 0) (U O 2) (U O 0);clear n;go_wp2;refine jT (v:=.tuple #[Za #[U O 0,I ⟨#[]⟩,U O 0,J F 0 0],Za #[U O 2,U O 0]]) (zp4 _ _ _ an ao) rfl ?_
 exact vX.mkBad aj.out oC rfl aL):p:=g
namespace chk
open Go.RowKit
open syn face cut
open ord (tkd uP)
theorem zzm:(prog.info? 38).map (fun a=>(a.zero,a.size,a.bytes))=Z (Z (Za #[I ⟨#[]⟩,J F 0 0,J F 0 0]),3,64):=oD
def fZ (w0:Zw) (fa0:Option Addr) (qs:List FV):Prop:=qs≠[]->∃g o,fa0=Z (A g o F)/\g<w0.heap.size/\∀i (a:i<qs.length),w0.cell? (A g (o+i*3) F)=Z (I qs[i].1.module)/\w0.cell? (A g (o+i*3+1) F)=Z qs[i].2.1/\w0.cell? (A g (o+i*3+2) F)=Z qs[i].2.2/\qX w0 (fvV qs[i]) qs[i].1
def zbx (qs fs:List FV) (x:ByteArray) (a1 fc fa:Int) (d:Bool) (c:List FV) (b a:Int):Prop :=
 (d=H/\qs.find? (fun q:FV=>eqS q.1.module x)=F/\b=4/\a=a1/\c=fs)\/(d=X/\b=fc/\a=fa/\∃q∈qs,qs.find? (fun q:FV=>eqS q.1.module x)=Z q/\c=fs++[q])
theorem zbx.of {qs fs h:List FV} {x:ByteArray} {a1 fc fa c f:Int} {g b:Bool} (i:Fnd (fun e:FV=>eqS e.1.module x) qs fs qs.length g h) (l:Apart qs) (a:KU fc fa c f (if g=X then(Res.bad 4 a1:Res Unit)else .ok ()) (.ok ()) b):zbx qs fs x a1 fc fa b h c f:=by
 rcases i.last (l.name x)with⟨rfl,j,d⟩|⟨rfl,e,m,d,k⟩
 ·cases b with
  | true =>
   rw[jv rfl]at a;injection a with e1 e2
   exact .inl ⟨rfl,d,e1.symm,e2.symm,j⟩
  | false=>cases a.2.2
 ·cases b with
  | true=>cases a
  | false=>exact .inr ⟨rfl,a.1,a.2.1,e,m,d,k⟩
section
variable {w0 w:Zw} {D kb kn kc:Nat} {ka:Option Addr} {km:Int} {x:ByteArray} {own:FV} {qs fs:List FV} {fv lv:Zv} {L:List Loc} {p0 p1 p2 p3 p4 p5:Zv} {fc fa a1:Int} {fa0:Option Addr} {fc0:Nat}
theorem zxr (b2:fZ w0 fa0 qs) (g8:qs.length<=2199023255552) (ba:Apart qs) (bh:fs.length<=900) (v:Q4 kb (U O 2) (I x) (U O km) (J ka kn kc) w) (n:LK w0 w D own fs fv lv L a1 p0 p1 p2 p3 p4 p5 fc fa X) (dh:D<kb) (Q:fv.ownBlock≠Z kb) (g2:1<=a1) (g7:a1<=1000000) {bp bH c9 ck cm eG eI bq br bu bv bw bz bD bE bF bG bN bP bR bS bX bY bZ c6 c7 c8 ca cb cc cd ce cf cg ch ci cj dz dZ e0 e1 e2 e3 e4 e5 e6 e7 e8 e9 ea eb ec ed ee ef eg eh ei ej ek em en eo ep eq er eu ev ew ey ez eA eB eC eD eE eF eH cn co cp cq cr ct cu cv cw cx cy cz cA cB d0 d1 d2 d3:Zv} {ad:Exit->Act->Zw->Prop} (b7:∀c a7 fy aY w,ad (.panic c) ⟨a7,aY⟩ w->ad (.panic c) ⟨fy,aY⟩ w) (b8:∀(fu fx eJ eK eL eM eN eO eP eQ eR eS eT eU eV eW eX eY eZ f0 f3 f4 f5 f6 f7 f8 f9 fb fe ff fg fh fi fj fk fl fm fn fo fp fq ft fw:Zv) (b0:List FV) (dd:Zv) (ag af:Int) (av:Bool) (G:Zw),LK w0 G D own b0 dd lv L (a1+1) p0 p1 p2 p3 p4 p5 ag af av->zbx qs fs x a1 fc fa av b0 ag af->ad .normal ⟨#[bp,J fa0 qs.length fc0,bH,c9,ck,Zp (Z (A D 0 F)),cm,Zp (Z (A kb 0 F)),fu,fx,bq,br,bu,bv,bw,bz,bD,bE,bF,bG,bN,bP,bR,bS,bX,bY,bZ,c6,c7,c8,ca,cb,cc,cd,ce,cf,cg,ch,ci,cj,eJ,eK,eL,eM,eN,eO,eP,eQ,eR,eS,eT,eU,eV,eW,eX,eY,eZ,f0,f3,f4,f5,f6,f7,f8,f9,fb,fe,ff,fg,fh,fi,fj,fk,fl,fm,fn,fo,fp,fq,ft,fw,cn,co,cp,cq,cr,ct,cu,cv,cw,cx,cy,cz,cA,cB,d0,d1,d2,d3],[]⟩ G) : Code.wp prog (xH 9 f14) ad ⟨#[bp,J fa0 qs.length fc0,bH,c9,ck,Zp (Z (A D 0 F)),cm,Zp (Z (A kb 0 F)),eG,eI,bq,br,bu,bv,bw,bz,bD,bE,bF,bG,bN,bP,bR,bS,bX,bY,bZ,c6,c7,c8,ca,cb,cc,cd,ce,cf,cg,ch,ci,cj,dz,dZ,e0,e1,e2,e3,e4,e5,e6,e7,e8,e9,ea,eb,ec,ed,ee,ef,eg,eh,ei,ej,ek,em,en,eo,ep,eq,er,eu,ev,ew,ey,ez,eA,eB,eC,eD,eE,eF,eH,cn,co,cp,cq,cr,ct,cu,cv,cw,cx,cy,cz,cA,cB,d0,d1,d2,d3],[]⟩ w:=by
 have g0:=kc38;obtain⟨ds,dm,dp,dq,dr⟩:=info_parts zzm;have aU:Hid _:=b8;have HP:Hid _:=b7;have aT:Hid (fZ w0 fa0 qs):=b2;have aQ:Hid (Apart qs):=ba;have da:Hid (kb≠D):=(by show _≠_;omega)
 have P:kb<w.heap.size:=jR w (A kb 0 F) v.1;have g4:(qs.length:Int)<=2199023255552:=oA;have aR:Hid (fs.length<=900):=bh;clear b8 b7 b2 ba dh bh
 conv=>arg 2;whnf
 dsimp only
 go_upto_block 3 with fail
 go_cut [8] from 40 to 66 (fun aE wr=>∃(l:Bool) (h:List FV) (u:Zv),aE=Y l/\LK w0 wr D own h u lv L a1 p0 p1 p2 p3 p4 p5 fc fa X/\Q4 kb (U O 2) (I x) (U O km) (J ka kn kc) wr/\u.ownBlock≠Z kb/\kb<wr.heap.size/\Fnd (fun f:FV=>eqS f.1.module x) qs fs qs.length l h)
 case first =>
  clear aU;go_wp2;go_loopw [8,9] (fun aE a7 wr=>∃(b:Nat) (l:Bool) (h:List FV) (u:Zv),b<=qs.length/\a7=U O b/\aE=Y l/\LK w0 wr D own h u lv L a1 p0 p1 p2 p3 p4 p5 fc fa X/\Q4 kb (U O 2) (I x) (U O km) (J ka kn kc) wr/\u.ownBlock≠Z kb/\kb<wr.heap.size/\Fnd (fun f:FV=>eqS f.1.module x) qs fs b l h) (fun _ a7 _=>qs.length - (intOf a7).toNat)
  case atStart=>exact⟨0,X,fs,fv,jz _,rfl,rfl,n,v,Q,P,Fnd.start _ _ _⟩
  case round =>
   clear n v Q P;obtain⟨b,l,h,u,hi,rfl,rfl,n,v,Q,P,V⟩:=hrel;by_cases a6:b<qs.length
   ·obtain⟨g,j,dk,aK,bb⟩:=aT.out (fun m=>by rw[m]at a6;cases a6);obtain⟨ah,aB,aC,aJ⟩:=bb b a6;have aw:Hid (g<w0.heap.size):=aK;have dt:=(n.bs.cell (p:=(A g (j+b*3) F)) aK).trans ah;obtain⟨du,dw,dx,dy⟩:=id v;obtain rfl:=dk;clear bb aK;have dj:qs[b].1.module=qs[b].1.module:=rfl;obtain⟨gb,ga,N,⟨s,t,bm,-⟩,⟨q,r,bi,-⟩⟩:=id aJ
    have aN:qs[b].2.1=J s qs[b].1.vars.length t:=by
     injection N with N;simp only[Array.mk.injEq,jq,and_true]at N;exact N.2.1.trans bm
    have aM:qs[b].2.2=J q qs[b].1.procs.length r:=by
     injection N with N;simp only[Array.mk.injEq,jq,and_true]at N;exact N.2.2.trans bi
    clear dj N bm bi;have db:Hid (qX w0 (fvV qs[b]) qs[b].1):=aJ;obtain⟨e,ab⟩:∃e,qs[b].1.module=e:=⟨_,rfl⟩
    have aA:Hid (eqS e x=H->h=fs/\Fnd (fun f:FV=>eqS f.1.module x) qs fs (b+1) H (h++[qs[b]])):=fun z=>V.yes (aQ.out.name x) a6 (by rw[ab];exact z)
    have ay:Hid (eqS e x=X->Fnd (fun f:FV=>eqS f.1.module x) qs fs (b+1) l h):=fun z=>V.no a6 (by rw[ab];exact z)
    have az:Hid (qs[b].1.module=e/\qs[b].2.1=J s qs[b].1.vars.length t/\qs[b].2.2=J q qs[b].1.procs.length r):=⟨ab,aN,aM⟩
    rw[ab]at ah;rw[aN]at aB;rw[aM]at aC;clear V aJ ab aN aM dt du dw dx dy;generalize qs[b].1.vars.length=E at *;generalize qs[b].1.procs.length=C at *;generalize qs[b]=f at *;have a8:Hid (b+1<=qs.length):=a6;have d4:Hid (w0.cell? (A g (j+b*3) F)=Z (I e)/\w0.cell? (A g (j+b*3+1) F)=Z (J s E t)/\w0.cell? (A g (j+b*3+2) F)=Z (J q C r)):=⟨ah,aB,aC⟩
    clear ah aB aC;have ao:Q4 kb (U O 2) (I x) (U O km) (J ka kn kc) wr.drew:=v;have a3:=n.drew;have bc:=a3.bs;have a9:Hid (kb<wr.drew.heap.size):=(by show _<_;simpa using P)
    have ax:Hid (u.ownBlock≠Z kb):=Q;clear n v P Q
    go_upto_region 13 with fail
    refine wp_region_held_drew (S:=fun W=>Q4 kb (U O 2) (I x) (U O km) (J ka kn kc) W/\Below w0.heap.size w0 W) oD ⟨ao,bc⟩ (fun d=>?_);generalize wr.drew=ae at *
    cases z:eqS e x with
    | true =>
     obtain⟨aI,am⟩:=aA.out z;replace aI:=aI.symm;subst aI;have T:Hid (Fnd (fun f:FV=>eqS f.1.module x) qs fs (b+1) H (fs++[f])):=am;have aS:Hid (fs.length<=900):=aR.out;have bg:(e.toList==x.toList)=H:=z;clear aA ay am z;refine tkw 0 (J (Z (A g j F)) qs.length fc0) d HP ?_;simp only[jA,jB,jC];refine tkw 1 (U O b) d HP ?_;simp only[jA,jB,jC];refine tkw 2 (Zp (Z (A g (j+b*3) F))) d HP ?_ (hy:=Or.inl ⟨oI,fun G o=>oz21y210⟩);simp only[jA,jB,jC];refine tkw 3 (Zp (Z (A g (j+b*3) F))) d HP ?_;simp only[jA,jB,jC];refine tkw 4 (I e) d HP ?_ (hy:=Or.inl ⟨oI,fun G o=>oz21y211⟩);simp only[jA,jB,jC];refine tkw 5 (Zp (Z (A kb 1 F))) d HP ?_;simp only[jA,jB,jC];refine tkw 6 (I x) d HP ?_ (hy:=Or.inl ⟨oI,fun G o=>by obtain⟨⟨ai,aj,ak,aD⟩,_⟩:=o;go_simp⟩);simp only[jA,jB,jC];refine tkw 7 (Y H) d HP ?_;simp only[jA,jB,jC];refine wpAnyH_done oD ?_ _;obtain⟨bn,bo,rfl,_,_⟩:=lexs.own_shape a3.rf;have aP:=a3.lc.c3;have a5:Q4 kb (U O 2) (I x) (U O km) (J ka kn kc) ae.drew:=ao;have k:=a3.drew;have au:=k.bs;replace a9:Hid (kb<ae.drew.heap.size):=(by show _<_;simpa using a9.out)
     clear ao a3 bc d bg
     go_upto_region 15 with fail
     refine wp_region_held_drew (S:=fun W=>Q4 kb (U O 2) (I x) (U O km) (J ka kn kc) W/\Below w0.heap.size w0 W) oD ⟨a5,au⟩ (fun d=>?_);replace aP:ae.drew.cell? (A D 3 F)=Z (J bn fs.length bo):=aP;generalize ae.drew=W at *;refine tkw 0 (Zp (Z (A D 0 F))) d HP ?_;simp only[jA,jB,jC];refine tkw 1 (Zp (Z (A D 0 F))) d HP ?_;simp only[jA,jB,jC];refine tkw 2 (Zp (Z (A D 0 F))) d HP ?_;simp only[jA,jB,jC];refine tkw 3 (Zp (Z (A D 3 F))) d HP ?_;simp only[jA,jB,jC];refine tkw 5 (J (Z (A g j F)) qs.length fc0) d HP ?_;simp only[jA,jB,jC];refine tkw 6 (U O b) d HP ?_;simp only[jA,jB,jC];refine tkw 7 (Zp (Z (A g (j+b*3) F))) d HP ?_ (hy:=Or.inl ⟨oI,fun G o=>oz21y210⟩);simp only[jA,jB,jC];refine tkw 8 (Za #[I e,J s E t,J q C r] ) d HP ?_ (hy:=Or.inl ⟨oI,fun G o=>oz21y211⟩);simp only[jA,jB,jC];have ap:=Q4.alloc a5 (Zc #[I e,J s E t,J q C r] 38);have an:=k.alloc (Zc #[I e,J s E t,J q C r] 38);have di:(W.alloc (Zc #[I e,J s E t,J q C r] 38)).heap[W.heap.size]?=Z (Zc #[I e,J s E t,J q C r] 38 (0,0)):=World.alloc_heap_new W _;have ar:=an.bs;have fY:=an.lc.c3;have aV:Hid (W.heap.size<=(W.alloc (Zc #[I e,J s E t,J q C r] 38)).heap.size):=(by show _<=_;simp)
     refine wpAnyH_ready (rs:=[4,9]) oD oB ?_;refine AllReadyH.cons rfl (fun y i=>?_) (AllReadyH.cons rfl (fun y i=>?_) AllReadyH.nil)
     ·go_simp;refine i.out _ _ d (fun K=>?_);clear i y K;refine oneH 9 fun y i=>?_
      exact oz21x206
     ·go_simp;refine i.out _ _ ⟨ap,ar⟩ (fun K=>?_);clear i y K;refine oneH 4 fun y i=>?_
      exact oz21x206
    | false =>
     have T:=ay.out z;replace T:Hid (Fnd (fun f:FV=>eqS f.1.module x) qs fs (b+1) l h):=T;have bg:(e.toList==x.toList)=X:=z;clear aA ay z;refine tkw 0 (J (Z (A g j F)) qs.length fc0) d HP ?_;simp only[jA,jB,jC];refine tkw 1 (U O b) d HP ?_;simp only[jA,jB,jC];refine tkw 2 (Zp (Z (A g (j+b*3) F))) d HP ?_ (hy:=Or.inl ⟨oI,fun G o=>oz21y210⟩);simp only[jA,jB,jC];refine tkw 3 (Zp (Z (A g (j+b*3) F))) d HP ?_;simp only[jA,jB,jC];refine tkw 4 (I e) d HP ?_ (hy:=Or.inl ⟨oI,fun G o=>oz21y211⟩);simp only[jA,jB,jC];refine tkw 5 (Zp (Z (A kb 1 F))) d HP ?_;simp only[jA,jB,jC];refine tkw 6 (I x) d HP ?_ (hy:=Or.inl ⟨oI,fun G o=>by obtain⟨⟨ai,aj,ak,aD⟩,_⟩:=o;go_simp⟩);simp only[jA,jB,jC];refine tkw 7 (Y X) d HP ?_;simp only[jA,jB,jC];refine wpAnyH_done oD ?_ _;go_wp2;go_roundw
     case rel=>exact⟨b+1,l,h,u,a8.out,oJ,rfl,a3,ao,ax.out,a9.out,T.out⟩
     case measure=>simp[intOf];have:=a8.out;omega
   ·obtain rfl:b=qs.length:=oA;go_wp2
    go_meet
    case rel=>exact⟨l,h,u,rfl,n,v,Q,P,V⟩
 case rest =>
  clear n v Q P;obtain⟨l,h,u,rfl,n,v,Q,P,V⟩:=hcut;have T:Hid (Fnd (fun f:FV=>eqS f.1.module x) qs fs qs.length l h):=V;have fX:=n.lc.c5;clear v Q P V aT aR;go_wp2_with (fail);refine(rU (R:=if l=X then(Res.bad 4 a1:Res Unit)else .ok ()) (rest:=.ok ()) n ⟨rfl,rfl,rfl⟩).mono ?_;rintro m gd ⟨rfl,am,av,ag,af,dn,aG,d5⟩;have ge:=aG.lc.c5;have gf:=aG.lc.fz 5;clear fX n am dn;go_wp2;exact aU.out _ _ _ _ _ _ _ _ _ _ _ _ _ _ _ _ _ _ _ _ _ _ _ _ _ _ _ _ _ _ _ _ _ _ _ _ _ _ _ _ _ _ _ h u ag af av _ (aG.setAt (a1+1)) (zbx.of T.out aQ.out d5.out)
end
def moS (own:FaceD) (e:List FaceD) (fs:List FaceD) (a:Int):Kid->Res (List FaceD × Int)
 | .imp x=>match e.find? (fun f=>eqS f.module x)with
  | none=>.bad 4 a
  | some f=>.ok (fs++[f],a+1)
 | .var x p l n=>.ok (fs,a+1+(Kid.var x p l n).kids.length)
 | .proc x p l g ps b=>match prF ⟨own,fs⟩ (kO x p l g ps) ps b (yF b) a with
  | .bad c d=>.bad c d
  | .ok d=>.ok (fs,d)
theorem zv7 (own:FaceD) (b:List FaceD) (e:Kid) (i:List Kid) (fs:List FaceD) (a:Int):moF own b (e :: i) fs a=match moS own b fs a e with
  | .bad c d=>Z (c,d)
  | .ok q=>moF own b i q.1 q.2:=by
 cases e with
 | imp x =>
  simp only[moF,moS]
  cases b.find? (fun j=>eqS j.module x)<;>rfl
 | var x h g l=>simp only[moF,moS]
 | proc x h g k ps f =>
  simp only[moF,moS];cases prF ⟨own,fs⟩ (kO x h g k ps) ps f (yF f) a<;>rfl
def cL (w0:Zw) (D:Nat) (own:FV) (qs fs:List FV) (a1 fc fa:Int) (k:Kid) (i:Zw):Prop:=∃(a:List FV) (g h:Zv) (f:List Loc) (b:Int) (y0 y1 y2 y3 j l:Zv) (d c:Int) (e:Bool),LK w0 i D own a g h f b y0 y1 y2 y3 j l d c e/\KU fc fa d c (moS own.1 (qs.map (·.1)) (fs.map (·.1)) a1 k) (.ok (a.map (·.1),b)) e/\a.length<=fs.length+1/\∀q∈a,q∈fs\/q∈qs
theorem cL.ofImp {w0 m:Zw} {D:Nat} {own:FV} {qs fs e:List FV} {k l:Zv} {i:List Loc} {a1 fc fa d c:Int} {x:ByteArray} {n o p q r s:Zv} {h:Bool} (u:LK w0 m D own e k l i (a1+1) n o p q r s d c h) (a:zbx qs fs x a1 fc fa h e d c):cL w0 D own qs fs a1 fc fa (.imp x) m:=by
 refine⟨e,k,l,i,a1+1,n,o,p,q,r,s,d,c,h,u,?_,?_,?_⟩
 ·have j:(qs.map (·.1)).find? (fun t=>eqS t.module x)=(qs.find? (fun b=>eqS b.1.module x)).map (·.1):=by rw[List.find?_map];rfl
  rcases a with⟨rfl,f,rfl,rfl,rfl⟩|⟨rfl,rfl,rfl,b,_,f,rfl⟩
  ·show moS _ _ _ _ _=_;simp only[moS,j,f,Option.map_none]
  ·refine⟨rfl,rfl,?_⟩;simp only[moS,j,f,Option.map_some,List.map_append,List.map_cons,List.map_nil]
 ·rcases a with⟨_,_,_,_,rfl⟩|⟨_,_,_,b,_,_,rfl⟩<;>simp
 ·rcases a with⟨_,_,_,_,rfl⟩|⟨_,_,_,b,g,_,rfl⟩
  ·exact fun b g=>.inl g
  ·intro w v;rcases List.mem_append.1 v with a | a
   ·exact .inl a
   ·rw[jy.1 a];exact .inr g
section
variable {w0 w:Zw} {D kb:Nat} {own:FV} {qs fs:List FV} {fv lv:Zv} {L:List Loc} {p0 p1 p2 p3 p4 p5:Zv} {fc fa a1:Int} {fa0:Option Addr} {fc0:Nat}
variable {b d e f g h i j k o q r s t u v y z G P Q R V a2 a3 a5 a6 a7 a8 a9 aa ab ac ad ae af ag ah ai aj ak am an ao ap ar au av aw ax ay az aA aB aC aD aE aF aG aH aI aJ aK aL aM aN aO aP aQ aR aS aT aU aV aW aX aY aZ b0 b1 b2 b6 b7 b8 b9 ba bb bc be bf bg bh bi bj bm:Zv} {bn:Exit->Act->Zw->Prop}
theorem zzp {x:ByteArray} {ka:Option Addr} {kn kc:Nat} (E:fZ w0 fa0 qs) (bq:qs.length<=2199023255552) (T:Apart qs) (W:fs.length<=900) (bo:fv.ownBlock≠Z kb) (N:Q4 kb (U O 2) (I x) (U O 0) (J ka kn kc) w) (K:LK w0 w D own fs fv lv L a1 p0 p1 p2 p3 p4 p5 fc fa X) (C:D<kb) (B:1<=a1) (bp:a1+kC (Kid.imp x).tree<=1000000) (m:∀c di dj l w,bn (.panic c) ⟨di,l⟩ w->bn (.panic c) ⟨dj,l⟩ w) (n:∀(cz db br bs bu bv bw bz bD bE bF bG bH bN bP bR bS bX bY bZ c6 c7 c8 c9 ca cb cc cd ce cf cg ch ci cj ck cm cn co cp cq cr ct cu cv cw cx cy cA cB d0 d1 d2 d3 d4 d5 d6 da dc dd de df dh:Zv) (a:Zw),cL w0 D own qs fs a1 fc fa (Kid.imp x) a->bn .normal ⟨#[b,J fa0 qs.length fc0,d,e,f,Zp (Z (A D 0 F)),g,Zp (Z (A kb 0 F)),cz,db,j,k,o,q,r,s,t,u,v,y,z,G,P,Q,R,V,a2,a3,a5,a6,a7,a8,a9,aa,U O 2,br,bs,bu,bv,bw,bz,bD,bE,bF,bG,bH,bN,bP,bR,bS,bX,bY,bZ,c6,c7,c8,c9,ca,cb,cc,cd,ce,cf,cg,ch,ci,cj,ck,cm,cn,co,cp,cq,cr,ct,cu,cv,cw,cx,cy,cA,cB,d0,d1,d2,d3,d4,d5,d6,da,dc,dd,de,df,dh,bh,bi,bj,bm],[]⟩ a) : Code.wp prog (xH 8 f14) bn ⟨#[b,J fa0 qs.length fc0,d,e,f,Zp (Z (A D 0 F)),g,Zp (Z (A kb 0 F)),h,i,j,k,o,q,r,s,t,u,v,y,z,G,P,Q,R,V,a2,a3,a5,a6,a7,a8,a9,aa,U O 2,ab,ac,ad,ae,af,ag,ah,ai,aj,ak,am,an,ao,ap,ar,au,av,aw,ax,ay,az,aA,aB,aC,aD,aE,aF,aG,aH,aI,aJ,aK,aL,aM,aN,aO,aP,aQ,aR,aS,aT,aU,aV,aW,aX,aY,aZ,b0,b1,b2,b6,b7,b8,b9,ba,bb,bc,be,bf,bg,bh,bi,bj,bm],[]⟩ w:=by
 rw[zf6]at bp;have p:Hid _:=n;have HP:Hid _:=m;clear n m
 conv=>arg 2;whnf
 dsimp only
 go_step
 repeat
  fail_if_success (show Code.wp _ (Code.seq _ _) _ _ _)
  first | go_skip | go_guarded | go_step | go_upon
 refine zxr (fv:=fv) E bq T W N K C bo B oA HP.out ?_
 iterate 43 intro _
 intro dm dn dl dk dp a M S;exact p.out _ _ _ _ _ _ _ _ _ _ _ _ _ _ _ _ _ _ _ _ _ _ _ _ _ _ _ _ _ _ _ _ _ _ _ _ _ _ _ _ _ _ _ _ _ _ _ _ _ _ _ _ _ _ _ _ _ _ _ _ _ _ a (cL.ofImp M S)
theorem zzq {x:ByteArray} {p l:Bool} {n:Option Int} {km:Int} {ka:Option Addr} {kc:Nat} (dk:Q4 kb (U O 3) (I x) (U O km) (J ka (Kid.var x p l n).kids.length kc) w) (E:LK w0 w D own fs fv lv L a1 p0 p1 p2 p3 p4 p5 fc fa X) (e1:D<kb) (e0:1<=a1) (dr:a1+kC (Kid.var x p l n).tree<=1000000) (di:∀c du dw df w,bn (.panic c) ⟨du,df⟩ w->bn (.panic c) ⟨dw,df⟩ w) (dj:∀(cx d6 bp bq br bs bu bv bw bz bD bE bF bG bH bN bP bR bS bX bY bZ c6 c7 c8 c9 ca cb cc cd ce cf cg ch ci cj ck cm cn co cp cq cr ct cu cv cw cy cz cA cB d0 d1 d2 d3 d4 d5 da db dc dd de:Zv) (m:Zw),cL w0 D own qs fs a1 fc fa (Kid.var x p l n) m->bn .normal ⟨#[b,J fa0 qs.length fc0,d,e,f,Zp (Z (A D 0 F)),g,Zp (Z (A kb 0 F)),cx,d6,j,k,o,q,r,s,t,u,v,y,z,G,P,Q,R,V,a2,a3,a5,a6,a7,a8,a9,aa,U O 3,bp,bq,br,bs,bu,bv,bw,bz,bD,bE,bF,bG,bH,bN,bP,bR,bS,bX,bY,bZ,c6,c7,c8,c9,ca,cb,cc,cd,ce,cf,cg,ch,ci,cj,ck,cm,cn,co,cp,cq,cr,ct,cu,cv,cw,cy,cz,cA,cB,d0,d1,d2,d3,d4,d5,da,db,dc,dd,de,bh,bi,bj,bm],[]⟩ m) : Code.wp prog (xH 8 f14) bn ⟨#[b,J fa0 qs.length fc0,d,e,f,Zp (Z (A D 0 F)),g,Zp (Z (A kb 0 F)),h,i,j,k,o,q,r,s,t,u,v,y,z,G,P,Q,R,V,a2,a3,a5,a6,a7,a8,a9,aa,U O 3,ab,ac,ad,ae,af,ag,ah,ai,aj,ak,am,an,ao,ap,ar,au,av,aw,ax,ay,az,aA,aB,aC,aD,aE,aF,aG,aH,aI,aJ,aK,aL,aM,aN,aO,aP,aQ,aR,aS,aT,aU,aV,aW,aX,aY,aZ,b0,b1,b2,b6,b7,b8,b9,ba,bb,bc,be,bf,bg,bh,bi,bj,bm],[]⟩ w:=by
 rw[zgu]at dr;have dm:Hid (∀(cx d6 bp bq br bs bu bv bw bz bD bE bF bG bH bN bP bR bS bX bY bZ c6 c7 c8 c9 ca cb cc cd ce cf cg ch ci cj ck cm cn co cp cq cr ct cu cv cw cy cz cA cB d0 d1 d2 d3 d4 d5 da db dc dd de:Zv) (m:Zw),LK w0 m D own fs fv lv L (a1+1+((Kid.var x p l n).kids.length:Int)) p0 p1 p2 p3 p4 p5 fc fa X->bn .normal ⟨#[b,J fa0 qs.length fc0,d,e,f,Zp (Z (A D 0 F)),g,Zp (Z (A kb 0 F)),cx,d6,j,k,o,q,r,s,t,u,v,y,z,G,P,Q,R,V,a2,a3,a5,a6,a7,a8,a9,aa,U O 3,bp,bq,br,bs,bu,bv,bw,bz,bD,bE,bF,bG,bH,bN,bP,bR,bS,bX,bY,bZ,c6,c7,c8,c9,ca,cb,cc,cd,ce,cf,cg,ch,ci,cj,ck,cm,cn,co,cp,cq,cr,ct,cu,cv,cw,cy,cz,cA,cB,d0,d1,d2,d3,d4,d5,da,db,dc,dd,de,bh,bi,bj,bm],[]⟩ m):=fun _ _ _ _ _ _ _ _ _ _ _ _ _ _ _ _ _ _ _ _ _ _ _ _ _ _ _ _ _ _ _ _ _ _ _ _ _ _ _ _ _ _ _ _ _ _ _ _ _ _ _ _ _ _ _ _ _ _ _ _ _ _ m dn=>dj _ _ _ _ _ _ _ _ _ _ _ _ _ _ _ _ _ _ _ _ _ _ _ _ _ _ _ _ _ _ _ _ _ _ _ _ _ _ _ _ _ _ _ _ _ _ _ _ _ _ _ _ _ _ _ _ _ _ _ _ _ _ m ⟨fs,fv,lv,L,_,_,_,_,_,_,_,fc,fa,X,dn,⟨rfl,rfl,rfl⟩,Nat.le_succ _,fun e2 ds=>.inl ds⟩
 have HP:Hid _:=di;clear dj di;generalize (Kid.var x p l n).kids.length=B at *;have dl:=E.lc.c5;have dh:=E.lc.fz 5;have K:Hid (LK w0 w D own fs fv lv L a1 p0 p1 p2 p3 p4 p5 fc fa X):=E;have dq:D≠kb:=oA;clear E
 conv=>arg 2;whnf
 dsimp only
 go_upto_region 19 with fail
 refine wp_region_held_drew (S:=fun W=>Q4 kb (U O 3) (I x) (U O km) (J ka B kc) W) oD dk (fun a=>?_);replace dl:w.drew.cell? (A D 5 F)=Z (U O a1):=dl;replace dh:w.drew.frozen? (A D 5 F)=X:=dh;replace K:Hid (LK w0 w.drew D own fs fv lv L a1 p0 p1 p2 p3 p4 p5 fc fa X):=K.out.drew;clear dk;generalize w.drew=W at *;refine tkw 0 (Zp (Z (A D 0 F))) a HP ?_;simp only[jA,jB,jC];refine tkw 1 (Zp (Z (A D 0 F))) a HP ?_;simp only[jA,jB,jC];refine tkw 2 (Zp (Z (A D 0 F))) a HP ?_;simp only[jA,jB,jC];refine tkw 3 (Zp (Z (A D 5 F))) a HP ?_;simp only[jA,jB,jC];refine tkw 6 (Zp (Z (A kb 3 F))) a HP ?_;simp only[jA,jB,jC];refine tkw 7 (J ka B kc) a HP ?_ (hy:=Or.inl ⟨oI,fun m bo=>by obtain⟨dx,dy,dz,dZ⟩:=bo;go_simp⟩);simp only[jA,jB,jC];refine tkw 8 (U O B) a HP ?_;simp only[jA,jB,jC];refine oneH 4 fun N C=>?_
 go_simp;refine C.out _ _ a (fun T=>?_);clear C N T;refine tkw 5 (U O (a1+1)) a HP ?_ (hy:=Or.inl ⟨oI,fun m bo=>by have dt:IntKind.i64.wrap (a1+1)=a1+1:=IntWalk.i64_in _ oA;go_simp⟩);simp only[jA,jB,jC];refine tkw 9 (U O (a1+1+B)) a HP ?_ (hy:=Or.inl ⟨oI,fun m bo=>by have dt:IntKind.i64.wrap (a1+1+(B:Int))=a1+1+(B:Int):=IntWalk.i64_in _ oA;go_simp⟩);simp only[jA,jB,jC];refine tkw 10 (Zp (Z (A D 0 F))) a HP ?_;simp only[jA,jB,jC];refine tkw 11 (Zp (Z (A D 5 F))) a HP ?_;simp only[jA,jB,jC];refine oneH 12 fun N C=>?_
 go_simp;have dp:=Q4.other (M:=D) dq a 5 (U O (a1+1+B));refine C.out _ _ dp (fun T=>?_);clear C N T;refine wpAnyH_done oD ?_ _;go_wp2;exact dm.out _ _ _ _ _ _ _ _ _ _ _ _ _ _ _ _ _ _ _ _ _ _ _ _ _ _ _ _ _ _ _ _ _ _ _ _ _ _ _ _ _ _ _ _ _ _ _ _ _ _ _ _ _ _ _ _ _ _ _ _ _ _ _ (K.out.setAt _)
theorem zxw {x:ByteArray} {p l:Bool} {gv:Option Bool} {ps:List (ByteArray × Bool)} {a:List Tree} {km:Int} {ka:Option Addr} {kn kc:Nat} (e7:fs.length<=900) (M:yY ⟨own.1,fs.map (·.1)⟩) (B:BlT (.node 6 empty 0 a)) (W:ps.length<=20) (bo:Lies (·<w0.heap.size) w0 (Kid.proc x p l gv ps (.node 6 empty 0 a)).tree (Za #[U O 4,I x,U O km,J ka kn kc])) (S:Q4 kb (U O 4) (I x) (U O km) (J ka kn kc) w) (C:LK w0 w D own fs fv lv L a1 p0 p1 p2 p3 p4 p5 fc fa X) (e5:D<kb) (m:1<=a1) (T:a1+kC (Kid.proc x p l gv ps (.node 6 empty 0 a)).tree<=1000000) (bG:∀c dw dx n w,bn (.panic c) ⟨dw,n⟩ w->bn (.panic c) ⟨dx,n⟩ w) (N:∀(dc dp bP bR bS bX bY bZ c6 c7 c8 c9 ca cb cc cd ce cf cg ch ci cj ck cm cn co cp cq cr ct cu cv cw cx cy cz cA cB d0 d1 d2 d3 d4 d5 d6 da db dd de df dh di dj dk dl dm dn dq dr ds dt du:Zv) (bq:Zw),cL w0 D own qs fs a1 fc fa (Kid.proc x p l gv ps (.node 6 empty 0 a)) bq->bn .normal ⟨#[b,J fa0 qs.length fc0,d,e,f,Zp (Z (A D 0 F)),g,Zp (Z (A kb 0 F)),dc,dp,j,k,o,q,r,s,t,u,v,y,z,G,P,Q,R,V,a2,a3,a5,a6,a7,a8,a9,aa,U O 4,bP,bR,bS,bX,bY,bZ,c6,c7,c8,c9,ca,cb,cc,cd,ce,cf,cg,ch,ci,cj,ck,cm,cn,co,cp,cq,cr,ct,cu,cv,cw,cx,cy,cz,cA,cB,d0,d1,d2,d3,d4,d5,d6,da,db,dd,de,df,dh,di,dj,dk,dl,dm,dn,dq,dr,ds,dt,du,bh,bi,bj,bm],[]⟩ bq) : Code.wp prog (xH 8 f14) bn ⟨#[b,J fa0 qs.length fc0,d,e,f,Zp (Z (A D 0 F)),g,Zp (Z (A kb 0 F)),h,i,j,k,o,q,r,s,t,u,v,y,z,G,P,Q,R,V,a2,a3,a5,a6,a7,a8,a9,aa,U O 4,ab,ac,ad,ae,af,ag,ah,ai,aj,ak,am,an,ao,ap,ar,au,av,aw,ax,ay,az,aA,aB,aC,aD,aE,aF,aG,aH,aI,aJ,aK,aL,aM,aN,aO,aP,aQ,aR,aS,aT,aU,aV,aW,aX,aY,aZ,b0,b1,b2,b6,b7,b8,b9,ba,bb,bc,be,bf,bg,bh,bi,bj,bm],[]⟩ w:=by
 have e3:=kc25;have br:Hid _:=N;have bE:=zz9 (E:=⟨own.1,fs.map (·.1)⟩) oA rfl M x p l gv ps a B W _ w a1 bo C m T
 obtain⟨e9,ea,eb,ec⟩:=id S;clear N bG C S B bo M m T W
 conv=>arg 2;whnf
 dsimp only;go_wp2_with (fail);refine bE.mono ?_;rintro e4 ed ⟨rfl,bN,bs,bu,bw,bv,bp,dy,dz,dZ,e0,e1,e2,e6,bF,K⟩;go_wp2;refine br.out _ _ _ _ _ _ _ _ _ _ _ _ _ _ _ _ _ _ _ _ _ _ _ _ _ _ _ _ _ _ _ _ _ _ _ _ _ _ _ _ _ _ _ _ _ _ _ _ _ _ _ _ _ _ _ _ _ _ _ _ _ _ _ ⟨fs,fv,bN,bs,bu,dy,dz,dZ,e0,e1,e2,bw,bv,bp,bF,?_,Nat.le_succ _,fun e8 bH=>.inl bH⟩;simp only[moS]
 cases bp with
 | true=>rw[show prF _ _ _ _ _ _=_ from K];rfl
 | false=>obtain⟨m,bz,bD⟩:=K;rw[bD];exact⟨m,bz,rfl⟩
end
def KMo (R:Option (Int × Int)) (own:FaceD) (d:List FaceD) (K:List Kid) (j:Nat) (fs:List FaceD) (a c b:Int):Bool->Prop
 | true=>R=Z (c,b)
 | false=>c=0/\b=0/\R=moF own d (K.drop j) fs a/\a=1+kA ((K.take j).map Kid.tree)
theorem zzr {own:FaceD} {f fs e:List FaceD} {a d:Int} {c:Kid} (i:cI c) (b:moS own f fs a c=.ok (e,d)):d=a+kC c.tree:=by
 cases c with
 | imp x =>
  simp only[moS]at b;rw[zf6];split at b;·cases b
  ·injection b with b;injection b with _ b;omega
 | var x l k p =>
  simp only[moS]at b;rw[zgu]
  injection b with b;injection b with _ b;omega
 | proc x l k o ps m =>
  obtain⟨_,_,g⟩:=i
  cases g with
  | mk j =>
   simp only[moS]at b;rw[zc5];split at b;·cases b
   ·rename_i n h;injection b with b;injection b with _ b;have:=zp2 j h;omega
theorem KMo.step {R:Option (Int × Int)} {own:FaceD} {e:List FaceD} {K:List Kid} {b:Nat} {fs k:List FaceD} {a g c h j i:Int} {f:Bool} (m:b<K.length) (p:cI K[b]) (o:KMo R own e K b fs a c h X) (n:KU c h j i (moS own e fs a K[b]) (.ok (k,g)) f):KMo R own e K (b+1) k g j i f:=by
 obtain⟨rfl,rfl,d,q⟩:=o;rw[List.drop_eq_getElem_cons m,zv7]at d
 cases f with
 | true =>
  rw[show moS _ _ _ _ _=_ from n]at d
  exact d
 | false =>
  obtain⟨rfl,rfl,l⟩:=n;have:=zzr p l;rw[l]at d;have r:=ze3 K b m;exact⟨rfl,rfl,d,oA⟩
theorem fZ.of {w i:Zw} {fa0:Option Addr} {qs:List FV} {s c:Nat} (m:gA w (J fa0 s c) qs) (d:Below w.heap.size w i):fZ i fa0 qs:=by
 obtain⟨a,t,b,_,q⟩:=m;injection b with b _ _;subst b;intro g;obtain⟨e,h,b,f⟩:=q g
 have p:e<w.heap.size:=by
  have n:0<qs.length:=List.length_pos_iff.2 g;exact jR w (A e (h+0*3) F) (f 0 n).1
 refine⟨e,h,b,jo p d.size,fun r hi=>?_⟩;obtain⟨j,k,l,o,_⟩:=f r hi;exact⟨keep j d,keep k d,keep l d,o.below d⟩
theorem zhd (w:Zw) (a b c d:Zv) (T:TypeId):Q4 w.heap.size a b c d (w.alloc (Zc #[a,b,c,d] T)):=⟨oB,oB,oB,oB⟩
theorem zsj {K:List Kid} (c:∀a∈K,a.kids.length<=900):∀a∈K,a.kids.length<=1000:=fun a b=>by have:=c a b;omega
section
variable {w:Zw} {qs:List FV} {m:ByteArray} {K:List Kid}
theorem zyq (v aU:Zv) (W:Lies (·<w.heap.size) w (.node 1 m 0 (K.map Kid.tree)) v) (au:gA w aU qs) (b7:Apart qs) (b0:∀h∈qs,vT h.1) (ch:K.length<=900) (bb:∀k∈K,cI k) (be:∀k∈K,k.kids.length<=900) (cj:kA (K.map Kid.tree)<=900) (s:vT (qS H m K)) : Calls prog 14 #[v,aU] w fun i c6=>i=.returned (dH (moF (qS H m K) (qs.map (·.1)) K [] 1))/\Below w.heap.size w c6:=by
 have ca:=kc25;have cb:=kc28;have cc:=kc82;obtain⟨R,ac⟩:∃R,Hid (moF (qS H m K) (qs.map (·.1)) K [] 1=R):=⟨_,rfl⟩
 rw[ac.out];obtain⟨fa0,fc0,rfl,cn,_⟩:=id au;have aM:Hid (∀d,Below w.heap.size w d->fZ d fa0 qs):=fun d aD=>fZ.of au aD
 have bf:=W;unfold Lies at bf;obtain⟨a,c,rfl,bG,bE⟩:=bf;rw[List.length_map]at bG W |-;have ah:Below w.heap.size w ((w.alloc (Zc #[U O 1,I m,U O 0,J a K.length c] 25)).alloc (Zc #[U O 0,U O 0] 28)):=Joins.below_alloc2 _ _ _;have aZ:=zz6 m K _ _ (W.below ah) oA (zsj be);have E:((w.alloc (Zc #[U O 1,I m,U O 0,J a K.length c] 25)).alloc (Zc #[U O 0,U O 0] 28)).cell? (A w.heap.size 3 F)=Z (J a K.length c):=oB
 have aw:kF ((w.alloc (Zc #[U O 1,I m,U O 0,J a K.length c] 25)).alloc (Zc #[U O 0,U O 0] 28)) (w.heap.size+1) #[U O 0,U O 0] 28:=by
  have:=kF.new (w.alloc (Zc #[U O 1,I m,U O 0,J a K.length c] 25)) #[U O 0,U O 0] 28;rw[jO]at this;exact this
 have aO:Hid (∀k∈K,cI k):=bb;have bj:Hid (∀h∈qs,vT h.1):=b0;have ar:Hid (vT (qS H m K)):=s;have bh:Hid (Apart qs):=b7;have aP:Hid (((w.alloc (Zc #[U O 1,I m,U O 0,J a K.length c] 25)).alloc (Zc #[U O 0,U O 0] 28)).cell? (A w.heap.size 3 F)=Z (J a K.length c)):=E;have cm:(K.length:Int)<=900:=oA
 have aN:Hid (∀d,Below w.heap.size w d->∀b (V:b<K.length),∃l o,a=Z (A l o F)/\l<d.heap.size/\kQ (·<d.heap.size) d (K.map Kid.tree) l o):=fun d aD b V=>by
  have aX:=W.below aD;unfold Lies at aX;obtain⟨q,n,i,_,bF⟩:=aX;injection i with i;simp only[Array.mk.injEq,jq,and_true,true_and]at i;injection i with e1 _ _;subst e1;exact bF (fun i=>by have:=congrArg List.length i;rw[List.length_map]at this;simp at this;rw[this]at V;simp at V)
 clear bb b0 s b7 bE be E au W;go_enter func14,ntmps14
 go_upto_region 1 with fail
 have bS:((w.alloc (Zc #[U O 1,I m,U O 0,J a K.length c] 25)).alloc (Zc #[U O 0,U O 0] 28)).cell? (A w.heap.size 0 F)=Z (U O 1):=oB;have bX:((w.alloc (Zc #[U O 1,I m,U O 0,J a K.length c] 25)).alloc (Zc #[U O 0,U O 0] 28)).cell? (A w.heap.size 1 F)=Z (I m):=oB;have bY:((w.alloc (Zc #[U O 1,I m,U O 0,J a K.length c] 25)).alloc (Zc #[U O 0,U O 0] 28)).cell? (A w.heap.size 2 F)=Z (U O 0):=oB;have E:=aP.out;have bP:w.heap.size+1<((w.alloc (Zc #[U O 1,I m,U O 0,J a K.length c] 25)).alloc (Zc #[U O 0,U O 0] 28)).heap.size:=oB;clear aP;generalize (w.alloc (Zc #[U O 1,I m,U O 0,J a K.length c] 25)).alloc (Zc #[U O 0,U O 0] 28)=c7 at *;have ay:=aw.lt;have br:w.heap.size<c7.heap.size:=Nat.lt_of_succ_lt ay;go_wp2_with (fail);refine aZ.mono ?_;clear aZ;rintro i d ⟨cq,cp,P,rfl,af,aA,ai⟩;have bu:P.length<=900:=by have ad:=congrArg List.length aA;have ae:=fV H K;rw[List.length_map]at ad;omega
 have b6:(kI H K).length<=1000:=by have ae:=fW H K;omega
 have az:=af.face (m:=m) b6 oA;rw[aA]at az;obtain⟨an,ao,rfl⟩:=af.shapeV;obtain⟨ak,am,rfl⟩:=af.shapeP
 have S:LK d (d.alloc (Zc #[I m,J an (kI H K).length ao,J ak P.length am,J F 0 0,J F 0 0,U O 1,I ⟨#[]⟩,Y X,J F 0 0,U O 0,Y X,U O 0,U O 0,U O 0,Y X] 82)) d.heap.size (qS H m K,J an (kI H K).length ao,J ak P.length am) [] (J F 0 0) (J F 0 0) [] 1 (I ⟨#[]⟩) (Y X) (J F 0 0) (U O 0) (Y X) (U O 0) 0 0 X :=
  ⟨LC.new _ _ _ _ _ _ _ _ _ _ _ _ _ _ _ _ _,bal _,jE _,az,(fun h t=>by cases t),World.ownsRow_nil _ _ _ _,World.ownsRow_nil _ _ _ _,fun g i _=>by cases i⟩
 have ax:=aw.below ai;have ag:Below w.heap.size w d:=ah.trans (ai.mono ah.size);have bi:Hid (fZ d fa0 qs):=aM.out d ag;have bm:Hid (∀b (V:b<K.length),∃l o,a=Z (A l o F)/\l<d.heap.size/\kQ (·<d.heap.size) d (K.map Kid.tree) l o):=aN.out d ag
 have bZ:=keep E ai;have b1:w.heap.size+1<d.heap.size:=jo ay ai.size;clear af aA bu az ah aM aN aw bS bX bY E b6 ay br bP
 go_upto_region 2 with fail
 generalize bv:d.alloc (Zc #[I m,J an (kI H K).length ao,J ak P.length am,J F 0 0,J F 0 0,U O 1,I ⟨#[]⟩,Y X,J F 0 0,U O 0,Y X,U O 0,U O 0,U O 0,Y X] 82)=cr at *;clear bv;obtain⟨own,s⟩:∃own:FV,own=(qS H m K,J an (kI H K).length ao,J ak P.length am):=⟨_,rfl⟩
 rw[<- s]at S;replace ar:Hid (vT own.1):=by rw[s];exact ar.out
 replace ac:Hid (moF own.1 (qs.map (·.1)) K [] 1=R):=by rw[s];exact ac.out
 clear s;generalize d.heap.size=D at S |-
 go_upto_block 0 with fail
 go_cut [6] from 7 to 94 (fun _ wr=>∃(fs:List FV) (fv lv:Zv) (L:List Loc) (a1:Int) (p0 p1 p2 p3 p4 p5:Zv) (c g:Int) (u:Bool),LK d wr D own fs fv lv L a1 p0 p1 p2 p3 p4 p5 c g u/\Hid (dH R=Za #[U O c,U O g]))
 case first =>
  clear ax;go_wp2;go_loopw [6] (fun aI wr=>∃(b:Nat) (fs:List FV) (fv lv:Zv) (L:List Loc) (a1:Int) (p0 p1 p2 p3 p4 p5:Zv) (c g:Int) (u:Bool),b<=K.length/\aI=U O b/\LK d wr D own fs fv lv L a1 p0 p1 p2 p3 p4 p5 c g u/\Hid (KMo R own.1 (qs.map (·.1)) K b (fs.map (·.1)) a1 c g u)/\fs.length<=b/\Hid (∀h∈fs,h∈qs)) (fun aI _=>K.length - (intOf aI).toNat)
  case atStart=>exact⟨0,[],_,_,[],1,_,_,_,_,_,_,0,0,X,jz _,rfl,S,⟨rfl,rfl,ac.out.symm,by simp[kA]⟩,jz _,fun h t=>by cases t⟩
  case round =>
   clear S;obtain⟨b,fs,fv,lv,L,a1,p0,p1,p2,p3,p4,p5,c,g,u,V,rfl,e,M,ck,aK⟩:=hrel;have co:=e.lc.c14;have E:=(e.bs.cell (p:=(A w.heap.size 3 F)) (Nat.lt_of_succ_lt b1)).trans bZ
   cases u with
   | true =>
    by_cases r:b<K.length;·go_wp2;exact oz21x209
    ·go_wp2
     exact oz21x209
   | false =>
    by_cases r:b<K.length
    ·obtain⟨l,o,bw,C,b8⟩:=bm.out b r;obtain rfl:=bw;obtain⟨c8,cd,aR,aS,n,aT,aj⟩:=cW C b8 (Below.refl _ _) r;have aF:=(e.bs.cell (p:=(A l (o+b*4) F)) C).trans aR;have k1:=(e.bs.cell (p:=(A l (o+b*4+1) F)) C).trans aS;have aG:=(e.bs.cell (p:=(A l (o+b*4+2) F)) C).trans n;have aH:=(e.bs.cell (p:=(A l (o+b*4+3) F)) C).trans aT;clear aR aS n aT b8 C
     obtain⟨aB,aC⟩:1<=a1/\a1+kC K[b].tree<=1000000:=by
      obtain⟨_,_,_,ci⟩:=M.out;have ad:=kR ((K.take b).map Kid.tree);have ae:=ze3 K b r;have aW:=zea K (b+1);omega
     have aQ:Hid (∀a5,cL d D own qs fs a1 c g K[b] a5->∃(p:List FV) (Q a3:Zv) (N:List Loc) (q:Int) (y z a6 a7 a8 a9:Zv) (n B:Int) (G:Bool),LK d a5 D own p Q a3 N q y z a6 a7 a8 a9 n B G/\Hid (KMo R own.1 (qs.map (·.1)) K (b+1) (p.map (·.1)) q n B G)/\p.length<=b+1/\Hid (∀h∈p,h∈qs)):=by
      rintro a5 ⟨p,Q,a3,N,q,y,z,a6,a7,a8,a9,n,B,G,av,bq,bc,bN⟩;exact⟨p,Q,a3,N,q,y,z,a6,a7,a8,a9,n,B,G,av,KMo.step r (aO.out _ (jH r)) M.out bq,oA,fun h t=>by rcases bN h t with j | j;exact aK.out h j;exact j⟩
     have aJ:Hid (yY ⟨own.1,fs.map (·.1)⟩):=⟨ar.out,fun ce bD=>by obtain⟨h,t,rfl⟩:=List.mem_map.1 bD;exact bj.out h (aK.out h t)⟩
     have aE:=aO.out K[b] (jH r);have b9:=e.lc.lt;have aa:Hid (D<wr.heap.size):=b9;have aL:Hid (fv.ownBlock≠Z wr.heap.size):=fun i=>by have:=(e.rf.lt _ i).2;omega
     have ab:Hid (LK d wr D own fs fv lv L a1 p0 p1 p2 p3 p4 p5 c g X):=e;clear M e b9;have ba:fs.length<=900:=oA;generalize K[b]=bR at *
     cases bR with
     | imp x =>
      simp only[Kid.kind,Kid.text,Kid.num,Kid.kids,je]at aF k1 aG aH;clear aj aE
      go_upto_region 6 with fail
      repeat
       (fail_if_success (show Code.wp _ (Code.seq (Code.region 8 _ _) _) _ _ _))
       first | go_skip | go_guarded | go_step | go_upon
      refine zzp (fv:=fv) bi.out oA bh.out ba aL.out (zhd _ _ _ _ _ _) (ab.out.alloc _) aa.out aB aC (fun _ _ _ _ _ j=>j) ?_
      iterate 62 intro _
      exact oz21x207
     | var x f a2 bg =>
      simp only[Kid.kind,Kid.text,Kid.num]at aF k1 aG aH;clear aj aE
      go_upto_region 6 with fail
      repeat
       (fail_if_success (show Code.wp _ (Code.seq (Code.region 8 _ _) _) _ _ _))
       first | go_skip | go_guarded | go_step | go_upon
      refine zzq (x:=x) (p:=f) (l:=a2) (n:=bg) (zhd _ _ _ _ _ _) (ab.out.alloc _) aa.out aB aC (fun _ _ _ _ _ j=>j) ?_
      iterate 62 intro _
      exact oz21x207
     | proc x f a2 aV ps c9 =>
      simp only[Kid.kind,Kid.text,Kid.num]at aF k1 aG aH aj;obtain⟨bH,_,aY⟩:=aE;have bp:=aY
      cases bp with
      | mk _ =>
       go_upto_region 6 with fail
       repeat
        (fail_if_success (show Code.wp _ (Code.seq (Code.region 8 _ _) _) _ _ _))
        first | go_skip | go_guarded | go_step | go_upon
       refine zxw (x:=x) (p:=f) (l:=a2) (gv:=aV) (ps:=ps) ba aJ.out aY bH aj (zhd _ _ _ _ _ _) (ab.out.alloc _) aa.out aB aC (fun _ _ _ _ _ j=>j) ?_
       iterate 62 intro _
       exact oz21x207
    ·obtain rfl:b=K.length:=oA
     have ap:Hid (dH R=Za #[U O c,U O g]):=by
      obtain⟨ad,ae,aW,_⟩:=M.out;show _=_;rw[aW,List.drop_length,ad,ae];rfl
     go_wp2
     go_meet
     case rel=>exact⟨fs,fv,lv,L,a1,p0,p1,p2,p3,p4,p5,c,g,X,e,ap⟩
 case rest =>
  clear S;obtain⟨fs,fv,lv,L,a1,p0,p1,p2,p3,p4,p5,c,g,u,e,ap⟩:=hcut;have ct:=e.lc.c12;have cu:=e.lc.c13;have T:kF wc (w.heap.size+1) #[U O 0,U O 0] 28:=(e.bs.block (w.heap.size+1) b1).trans ax;have y:=T.cell 0 rfl;have z:=T.cell 1 rfl;have cf:=T.fz 0;have cg:=T.fz 1;have bz:Below w.heap.size w wc:=ag.trans (e.bs.mono ag.size);clear ax T e;go_wp2;refine jT (v:=Za #[U O c,U O g]) (by simp[results,results14,go_sem,y,z]) rfl ⟨by rw[ap.out],(bz.setCell (p:=(A (w.heap.size+1) 0 F)) (Nat.le_succ _) _).setCell (p:=(A (w.heap.size+1) 1 F)) (Nat.le_succ _) _⟩
end
structure CM (w0 W:Zw) (N B C:Nat) (T:Tree) (k1:Int) (x1:ByteArray) (m1:Int) (s1:Zv) (c a:Int):Prop where
 rb:RB w0 W N
 bx:kF W B #[U O k1,I x1,U O m1,s1] 25
 cx:kF W C #[U O c,U O a] 28
 li:Lies (fun b=>N+1<b/\b<B) W T (Za #[U O k1,I x1,U O m1,s1])
 lt:N+1<B
 lc:B<C
section
variable {w0 W W':Zw} {N B C:Nat} {T:Tree} {k1 m1 c a:Int} {x1:ByteArray} {s1:Zv}
theorem CM.below (b:CM w0 W N B C T k1 x1 m1 s1 c a) (d:Below W.heap.size W W'):CM w0 W' N B C T k1 x1 m1 s1 c a :=
 ⟨b.rb.below d,b.bx.below d,b.cx.below d,b.li.to (fun _ d=>d) (fun e f g=>d.cell (p:=(A e g F)) (Nat.lt_trans f.2 b.bx.lt)),b.lt,b.lc⟩
theorem CM.setF (d:CM w0 W N B C T k1 x1 m1 s1 c a) (h g:Int):CM w0 ((W.setCell (A C 0 F) (U O h)).setCell (A C 1 F) (U O g)) N B C T k1 x1 m1 s1 h g:=by
 have j:=d.lt;have k:=d.lc;have l:=d.rb.hN;refine⟨⟨(d.rb.n.other (b:=C) (o:=0) oA _).other (b:=C) (o:=1) oA _,(d.rb.f.other (b:=C) (o:=0) oA _).other (b:=C) (o:=1) oA _,(d.rb.b.setCell (p:=(A C 0 F)) (by show _<=C;omega) _).setCell (p:=(A C 1 F)) (by show _<=C;omega) _,l⟩,(d.bx.other (b:=C) (o:=0) oA _).other (b:=C) (o:=1) oA _,(d.cx.set 0 _).set 1 _,d.li.to (fun _ m=>m) (fun b o e=>?_),j,k⟩;have i:b≠C:=by have:=o.2;omega
 exact jM (a:=(A b e F)) ((jP _ (A C 1 F) _ b i).trans (jP _ (A C 0 F) _ b i))
theorem CM.low (b:CM w0 W N B C T k1 x1 m1 s1 c a):Lies (·<W.heap.size) W T (Za #[U O k1,I x1,U O m1,s1]):=b.li.to (fun e d=>Nat.lt_trans d.2 b.bx.lt) (fun e d f=>rfl)
end
def dN (w0 a:Zw) (N:Nat) (x:ByteArray) (r:Int × Int):Prop:=∃c n1 d e:Zv,kF a N #[c,n1,d,e] 25/\kF a (N+1) #[U O r.1,U O r.2] 28/\(r.1=0->Lies (fun b=>w0.heap.size<=b/\b<a.heap.size) a (parse x).tree (Za #[c,n1,d,e]))/\(r.1≠0->Value.agg #[c,n1,d,e]=zbh)/\Below w0.heap.size w0 a
theorem dN.of {w0 W i:Zw} {N B C:Nat} {x:ByteArray} {k1 m1 c a:Int} {x1:ByteArray} {s1:Zv} (e:CM w0 W N B C (parse x).tree k1 x1 m1 s1 c a) (m:gT w0 W i N k1 x1 m1 s1 c a):dN w0 i N x (c,a):=by
 obtain⟨o,p,q,r,j,k,l,n,v,h⟩:=m;refine⟨o,p,q,r,j,k,fun g=>?_,fun g=>?_,l⟩
 ·rcases h with⟨_,rfl,rfl,rfl,rfl⟩|⟨f,_⟩
  ·have t:=e.rb.hN;have u:=e.bx.lt;exact e.li.to (fun d b=>⟨by have:=b.1;omega,by have:=b.2;omega⟩) (fun d b s=>jM (a:=(A d s F)) (n d b.1))
  ·exact absurd g f
 ·rcases h with⟨f,_⟩|⟨_,rfl,rfl,rfl,rfl⟩
  ·exact absurd f g
  ·rfl
theorem zhj {w d:Zw} {v:Zv} {qs:List FV} (f:gA w v qs) (b:Below w.heap.size w d):gA d v qs:=by
 obtain⟨a,c,rfl,n,m⟩:=f;refine⟨a,c,rfl,n,fun o=>?_⟩;obtain⟨e,q,rfl,l⟩:=m o;refine⟨e,q,rfl,fun p hi=>?_⟩;obtain⟨g,h,i,j,k⟩:=l p hi;exact⟨keep g b,keep h b,keep i b,j.below b,k⟩
theorem zh5:∀(f g:List FaceD),qO g f=X->(∀c∈g,∀e∈f,eqS c.module e.module=X)/\f.Pairwise (fun a d=>eqS a.module d.module=X)
 | [],_,_=>⟨(fun _ _ _ b=>by cases b),List.Pairwise.nil⟩
 | a :: r,g,h=>by
  unfold qO at h;simp only[Bool.or_eq_false_iff]at h;obtain⟨⟨k,_⟩,l⟩:=h;obtain⟨i,m⟩:=zh5 r _ l;refine⟨fun c j e b=>?_,List.pairwise_cons.2 ⟨fun d n=>i a oB d n,m⟩⟩;rcases List.mem_cons.1 b with rfl | b
  ·have:=List.any_eq_false.1 k c j;simpa using this
  ·exact i c (by simp[j]) e b
theorem zu5 {qs:List FV} (g:qO [] (qs.map (·.1))=X):Apart qs:=by
 have b:=(zh5 _ _ g).2;rw[List.pairwise_map,List.pairwise_iff_getElem]at b;intro d e hi f a;rcases Nat.lt_trichotomy d e with c | rfl | c
 ·rw[b d e hi f c]at a;cases a
 ·rfl
 ·rw[xN]at a;have:=b e d f hi c;rw[<- a,xN.2 rfl]at this;cases this
theorem zve {x:ByteArray} {fs:List FaceD} {m:ByteArray} {K:List Kid} (a:qO [] fs=X) (b:(parse x).code≠0):ckF x fs m K=((parse x).code,(parse x).place):=by
 unfold ckF;rw[ju (by rw[a];decide),jv b]
theorem zvf {x:ByteArray} {fs:List FaceD} {m:ByteArray} {K:List Kid} {a:Int × Int} (c:qO [] fs=X) (d:(parse x).code=0) (e:zC m K [] [] 1=Z a):ckF x fs m K=a:=by
 unfold ckF;rw[ju (by rw[c];decide),ju (fun b=>b d),e]
theorem zxe {x:ByteArray} {fs:List FaceD} {m:ByteArray} {K:List Kid} (b:qO [] fs=X) (c:(parse x).code=0) (d:zC m K [] [] 1=F):ckF x fs m K=(moF (qS H m K) fs K [] 1).getD (0,0):=by
 unfold ckF;rw[ju (by rw[b];decide),ju (fun a=>a c),d];dsimp only
 cases e:moF (qS H m K) fs K [] 1 with
 | none=>rfl
 | some f =>
  unfold nz;exact ju (pr.mo_code _ _ _ _ _ _ e)
theorem zrn (a:Option (Int × Int)):dH a=Za #[U O (a.getD (0,0)).1,U O (a.getD (0,0)).2]:=by
 cases a<;>rfl
section
variable {w0 w:Zw} {N:Nat} {x m:ByteArray} {K:List Kid} {qs:List FV} {fa0:Option Addr} {fc0:Nat}
theorem yat (a9:RB w0 w N) (ak:gA w0 (J fa0 qs.length fc0) qs) (aw:qO [] (qs.map (·.1))=X) (ay:((parse x).code=0->(parse x).tree=.node 1 m 0 (K.map Kid.tree)/\m.size<=16/\(∀a∈K,a.good/\a.named/\vK a)/\kA (K.map Kid.tree)<=900/\K.length<=900/\∀a∈K,a.kids.length<=900)) {aL aW bc be ck cm aB aC aD aE aF aG aH aI aJ aK aM aN aO aP aQ aR aS aT aU aV aX aY aZ b0 b1 b2 b6 b7 b8 b9 ba bb bG bH bN bP bR bS bX bY bZ c6 c7 c8 c9 ca cb cc cd ce cf cg ch ci cj:Zv} {E:Exit->Act->Zw->Prop} (ao:∀c df dh ai w,E (.panic c) ⟨df,ai⟩ w->E (.panic c) ⟨dh,ai⟩ w) (ar:∀(dd de cn co cp cq cr ct cu cv cw cy cz cA cB d0 d1 d2 d3 d4 d5 d6 da db dc:Zv) (i:Zw),dN w0 i N x (ckF x (qs.map (·.1)) m K)->E .ret ⟨#[I x,J fa0 qs.length fc0,aL,aW,Zp (Z (A N 0 F)),Zp (Z (A (N+1) 0 F)),bc,be,dd,de,aB,aC,aD,aE,aF,aG,aH,aI,aJ,aK,aM,aN,aO,aP,aQ,aR,aS,aT,aU,aV,aX,aY,aZ,b0,b1,b2,b6,b7,b8,b9,ba,bb,cn,co,cp,cq,cr,ct,cu,cv,cw,cy,cz,cA,cB,d0,d1,d2,d3,d4,d5,d6,da,db,dc],[]⟩ i) : Code.wp prog (xH 11 f5) E ⟨#[I x,J fa0 qs.length fc0,aL,aW,Zp (Z (A N 0 F)),Zp (Z (A (N+1) 0 F)),bc,be,ck,cm,aB,aC,aD,aE,aF,aG,aH,aI,aJ,aK,aM,aN,aO,aP,aQ,aR,aS,aT,aU,aV,aX,aY,aZ,b0,b1,b2,b6,b7,b8,b9,ba,bb,bG,bH,bN,bP,bR,bS,bX,bY,bZ,c6,c7,c8,c9,ca,cb,cc,cd,ce,cf,cg,ch,ci,cj],[]⟩ w:=by
 have dk:=kc25;have dl:=kc28;have V:Hid _:=ar;have HP:Hid _:=ao;have ag:Hid ((parse x).code=0->(parse x).tree=.node 1 m 0 (K.map Kid.tree)/\m.size<=16/\(∀a∈K,a.good/\a.named/\vK a)/\kA (K.map Kid.tree)<=900/\K.length<=900/\∀a∈K,a.kids.length<=900):=ay;have bi:Hid (gA w0 (J fa0 qs.length fc0) qs):=ak;have q:Hid (qO [] (qs.map (·.1))=X):=aw
 have ap:=yaf x w trivial;clear ar ao ak aw ay
 conv=>arg 2;whnf
 dsimp only;go_wp2_with (fail);refine ap.mono ?_;clear ap;rintro aj e ⟨v,rfl,ac,h⟩;obtain⟨k1,x1,m1,s,z,t,rfl⟩:=zb7 ac;have bu:=a9.f.lt;have bD:=h.size;have aa:Below e.heap.size e ((e.alloc (Zc #[U O k1,I x1,U O m1,J s z t] 25)).alloc (Zc #[U O (parse x).code,U O (parse x).place] 28)):=Joins.below_alloc2 _ _ _
 have d:CM w0 ((e.alloc (Zc #[U O k1,I x1,U O m1,J s z t] 25)).alloc (Zc #[U O (parse x).code,U O (parse x).place] 28)) N e.heap.size (e.heap.size+1) (parse x).tree k1 x1 m1 (J s z t) (parse x).code (parse x).place:=by
  refine⟨(a9.below h).below aa,(kF.new e _ _).alloc _,?_,ac.to (fun ah h=>⟨by have:=h.1;omega,h.2⟩) (fun ah h bE=>aa.cell (p:=(A ah bE F)) h.2),oA,oA⟩;have:=kF.new (e.alloc (Zc #[U O k1,I x1,U O m1,J s z t] 25)) #[U O (parse x).code,U O (parse x).place] 28;rw[jO]at this;exact this
 clear ac h a9 aa bu bD;obtain⟨n,ad⟩:∃n,(parse x).code=n:=⟨_,rfl⟩
 obtain⟨L,ae⟩:∃L,(parse x).place=L:=⟨_,rfl⟩
 simp only[ad,ae]at d |-;have r:Hid ((parse x).code=n):=ad;have bn:Hid ((parse x).place=L):=ae;clear ad ae
 go_upto_region 12 with fail
 generalize bv:(e.alloc (Zc #[U O k1,I x1,U O m1,J s z t] 25)).alloc (Zc #[U O n,U O L] 28)=bp at *;clear bv;generalize e.heap.size+1=C at *;generalize e.heap.size=B at *;have br:=d.cx.cell 0 rfl;by_cases ax:n=0
 ·subst ax;obtain⟨af,_,am,bw,bs,a8⟩:=ag.out r.out;have bo:Hid ((parse x).tree=.node 1 m 0 (K.map Kid.tree)):=af;have k:=d.low;rw[af]at k;have an:=ya8 m K _ bp k oA oA (fun a ab=>by have:=a8 a ab;omega);have bj:Hid (∀a∈K,a.good/\a.named/\vK a):=am;have bm:Hid (∀a∈K,a.kids.length<=900):=a8;have a2:=d.bx.cell 0 rfl;have a3:=d.bx.cell 1 rfl;have a5:=d.bx.cell 2 rfl;have a6:=d.bx.cell 3 rfl;clear am a8 af k ag;go_wp2_with (fail);refine an.mono ?_;clear an;rintro aj bg ⟨rfl,au⟩;have g:=d.below au;clear d au a2 a3 a5 a6 br;have P:=g.cx.cell 0 rfl;have Q:=g.cx.cell 1 rfl;have R:=g.cx.fz 0;have S:=g.cx.fz 1
  cases y:zC m K [] [] 1 with
  | some M =>
   obtain⟨o,D⟩:=M;have dm:o≠0:=by rcases zaq m K _ _ _ _ y with a7 | a7 | a7<;>dsimp only at a7<;>omega
   have W:Hid (ckF x (qs.map (·.1)) m K=(o,D)):=zvf q.out r.out y
   have b:=g.setF o D;rw[show dH (Z (o,D))=Za #[U O o,U O D] from rfl];clear y g
   go_upto_region 14 with fail
   clear P Q R S;generalize (bg.setCell (A C 0 F) (U O o)).setCell (A C 1 F) (U O D)=bq at *;have bf:=b.cx.cell 0 rfl
   repeat
    (fail_if_success (show Code.wp _ (Code.seq (Code.seq (Code.region 16 _ _) _) _) _ _ _))
    first | go_skip | go_guarded | go_step | go_upon
   refine zg9 b.rb b.bx b.cx b.lt (Nat.lt_trans b.lt b.lc) HP.out ?_;intro _ _ _ _ _ _ _ i u
   exact V.out _ _ _ _ _ _ _ _ _ _ _ _ _ _ _ _ _ _ _ _ _ _ _ _ _ i (by rw[W.out];exact dN.of b u)
  | none =>
   have T:Hid (zC m K [] [] 1=F):=y;have b:=g.setF 0 0;rw[show dH F=Za #[U O 0,U O 0] from rfl];clear y g
   go_upto_region 14 with fail
   clear P Q R S;generalize (bg.setCell (A C 0 F) (U O 0)).setCell (A C 1 F) (U O 0)=bq at *;have bf:=b.cx.cell 0 rfl;have a2:=b.bx.cell 0 rfl;have a3:=b.bx.cell 1 rfl;have a5:=b.bx.cell 2 rfl;have a6:=b.bx.cell 3 rfl;have k:=b.low;rw[bo.out]at k;have G:=zyq _ (J fa0 qs.length fc0) k (zhj bi.out b.rb.b) (zu5 q.out) (fun M bz=>zm5 (ze0 _ _ q.out M.1 (List.mem_map.2 ⟨M,bz,rfl⟩))) bs (fun a ab=>(zm4 T.out bj.out a ab).2) bm.out bw (zpt T.out);have W:Hid (ckF x (qs.map (·.1)) m K=(moF (qS H m K) (qs.map (·.1)) K [] 1).getD (0,0)):=zxe q.out r.out T.out
   clear k;rw[zrn]at G;generalize (moF (qS H m K) (qs.map (·.1)) K [] 1).getD (0,0)=bF at *
   obtain⟨az,aA⟩:=bF;dsimp only at G;go_wp2_with (fail);refine G.mono ?_;clear G;rintro aj di ⟨rfl,av⟩;have l:=b.below av;clear b av a2 a3 a5 a6 bf;have P:=l.cx.cell 0 rfl;have Q:=l.cx.cell 1 rfl;have R:=l.cx.fz 0;have S:=l.cx.fz 1;have j:=l.setF az aA;clear l;dsimp only
   repeat
    (fail_if_success (show Code.wp _ (Code.seq (Code.seq (Code.region 16 _ _) _) _) _ _ _))
    first | go_skip | go_guarded | go_step | go_upon
   clear P Q R S;generalize (di.setCell (A C 0 F) (U O az)).setCell (A C 1 F) (U O aA)=dj at *;refine zg9 j.rb j.bx j.cx j.lt (Nat.lt_trans j.lt j.lc) HP.out ?_;intro _ _ _ _ _ _ _ i u;exact V.out _ _ _ _ _ _ _ _ _ _ _ _ _ _ _ _ _ _ _ _ _ _ _ _ _ i (by rw[W.out];exact dN.of j u)
 ·have bh:Hid (n≠0):=ax
  repeat
   (fail_if_success (show Code.wp _ (Code.seq (Code.seq (Code.region 16 _ _) _) _) _ _ _))
   first | go_skip | go_guarded | go_step | go_upon
  refine zg9 d.rb d.bx d.cx d.lt (Nat.lt_trans d.lt d.lc) HP.out ?_;intro _ _ _ _ _ _ _ i u;exact V.out _ _ _ _ _ _ _ _ _ _ _ _ _ _ _ _ _ _ _ _ _ _ _ _ _ i (by rw[zve q.out (by rw[r.out];exact bh.out),r.out,bn.out];exact dN.of d u)
end
theorem zp4 {W:Zw} {e f g h b c i a1 j k:Zv} (l:List Zv) (B C:Nat) (a:kF W B #[e,f,g,h] 25) (d:kF W C #[b,c] 28):(results f5 (List.toArray (i :: a1 :: j :: k :: Zp (Z (A B 0 F)) :: Zp (Z (A C 0 F)) :: l))).run prog W=.ok (.tuple #[Za #[e,f,g,h],Za #[b,c]]) W:=by
 have s:=kc25;have t:=kc28;have o:=a.cell 0 rfl;have p:=a.cell 1 rfl;have q:=a.cell 2 rfl;have r:=a.cell 3 rfl;have m:=d.cell 0 rfl;have n:=d.cell 1 rfl;simp[results,f5,go_sem,o,p,q,r,m,n]
theorem dN.out {w b:Zw} {x:ByteArray} {a:Int × Int} {h:Ending} {c d e f:Zv} (l:h=.returned (.tuple #[Za #[c,d,e,f],Za #[U O a.1,U O a.2]])) (i:a.1=0->Lies (fun g=>w.heap.size<=g/\g<b.heap.size) b (parse x).tree (Za #[c,d,e,f])) (j:a.1≠0->Value.agg #[c,d,e,f]=zbh) (k:Below w.heap.size w b):vX w x a h b:=⟨_,l,i,j,k⟩
theorem zth {fs:List FaceD} {a:Nat} (d:a<fs.length) (c:qO [] fs=qO (fs.take a) (fs.drop a)) (b:(fs.take a).any (fun e=>eqS e.module fs[a].module)=H\/vB fs[a]=X):qO [] fs=H:=by
 rw[c,zem fs a d];rcases b with b | b<;>simp[b]
theorem zxa {fs:List FaceD} {a:Nat} (g:a<fs.length) (d:qO [] fs=qO (fs.take a) (fs.drop a)) (e:∀b (hi:b<fs.length),b<a->eqS fs[b].module fs[a].module=X) (f:vB fs[a]=H):qO [] fs=qO (fs.take (a+1)) (fs.drop (a+1)):=by
 rw[d,zem fs a g]
 have:(fs.take a).any (fun c=>eqS c.module fs[a].module)=X:=by
  rw[List.any_eq_false];intro c h;obtain⟨b,hi,rfl⟩:=List.mem_iff_getElem.1 h;rw[List.length_take]at hi;rw[List.getElem_take,e b oA oA]
  decide
 rw[this,f];rfl
theorem zu7 {fs:List FaceD} (a:qO [] fs=qO (fs.take fs.length) (fs.drop fs.length)):qO [] fs=X:=by
 rw[a,List.drop_length];rfl
section
variable {w:Zw} {x m:ByteArray} {K:List Kid} {qs:List FV}
theorem zz5 (fv:Zv) (ab:gA w fv qs) (aw:((parse x).code=0->(parse x).tree=.node 1 m 0 (K.map Kid.tree)/\m.size<=16/\(∀f∈K,f.good/\f.named/\vK f)/\kA (K.map Kid.tree)<=900/\K.length<=900/\∀f∈K,f.kids.length<=900)) : Calls prog 5 #[I x,fv] w (vX w x (ckF x (qs.map (·.1)) m K)):=by
 have aZ:=kc25;have b0:=kc28;have b1:prog.cellsOf 38=3:=xG;obtain⟨fa0,fc0,rfl,ba,av⟩:=id ab;have aE:Hid (gA w (J fa0 qs.length fc0) qs):=ab;have aK:Hid ((parse x).code=0->(parse x).tree=.node 1 m 0 (K.map Kid.tree)/\m.size<=16/\(∀f∈K,f.good/\f.named/\vK f)/\kA (K.map Kid.tree)<=900/\K.length<=900/\∀f∈K,f.kids.length<=900):=aw;have aJ:Hid (qs≠[]->∃i j,fa0=Z (A i j F)/\∀a (g:a<qs.length),w.cell? (A i (j+a*3) F)=Z (I qs[a].1.module)/\w.cell? (A i (j+a*3+1) F)=Z qs[a].2.1/\w.cell? (A i (j+a*3+2) F)=Z qs[a].2.2/\qX w (fvV qs[a]) qs[a].1/\qs[a].1.module.size<=maxLen):=av;have b9:(qs.length:Int)<=2199023255552:=oA;obtain⟨R,a5⟩:∃R,Hid (ckF x (qs.map (·.1)) m K=R):=⟨_,rfl⟩
 rw[a5.out]
 have aC:Hid (qO [] (qs.map (·.1))=H->R=(2,0)):=fun g=>by
  rw[<- a5.out];unfold ckF;rw[jv g]
 have HP:Hid (∀c (r aV:Array Zv) d w2,bodyPost prog f5 (vX w x R) (.panic c) ⟨r,d⟩ w2->bodyPost prog f5 (vX w x R) (.panic c) ⟨aV,d⟩ w2):=fun _ _ _ _ _ g=>g
 have k:RB w ((w.alloc (Zc #[U O 0,I ⟨#[]⟩,U O 0,J F 0 0] 25)).alloc (Zc #[U O 0,U O 0] 28)) w.heap.size:=by
  refine⟨(kF.new w _ _).alloc _,?_,(bal _).alloc oB _,rfl⟩;have:=kF.new (w.alloc (Zc #[U O 0,I ⟨#[]⟩,U O 0,J F 0 0] 25)) #[U O 0,U O 0] 28;rw[jO]at this;exact this
 clear ab aw av;go_enter func5,ntmps5
 go_upto_region 1 with fail
 generalize aN:(w.alloc (Zc #[U O 0,I ⟨#[]⟩,U O 0,J F 0 0] 25)).alloc (Zc #[U O 0,U O 0] 28)=aW at *;clear aN
 go_upto_block 0 with fail
 go_cut [6] from 7 to 41 (fun _ wr=>RB w wr w.heap.size/\Hid (qO [] (qs.map (·.1))=X))
 case first =>
  go_wp2;go_loopw [6] (fun r wr=>∃(e:Nat),e<=qs.length/\r=U O e/\RB w wr w.heap.size/\Hid (qO [] (qs.map (·.1))=qO ((qs.map (·.1)).take e) ((qs.map (·.1)).drop e))) (fun r _=>qs.length - (intOf r).toNat)
  case atStart=>exact⟨0,jz _,rfl,k,rfl⟩
  case round =>
   clear k;obtain⟨e,b7,rfl,k,C⟩:=hrel;by_cases s:e<qs.length
   ·obtain⟨i,j,aO,ae⟩:=aJ.out (fun G=>by rw[G]at s;cases s);obtain rfl:=aO;have aB:Hid (∀a (g:a<qs.length),w.cell? (A i (j+a*3) F)=Z (I qs[a].1.module)):=fun a hi=>(ae a hi).1
    obtain⟨a7,D,E,ag,_⟩:=ae e s;have ad:=yb0 qs[e].1 (fvV qs[e]) wr (ag.below k.b);obtain⟨b2,a1,ax,an,aY,ay,ao,u⟩:=zb6 ag;have ac:e<(qs.map (·.1)).length:=by rw[List.length_map];exact s
    have M:(qs.map (·.1))[e]=qs[e].1:=by rw[List.getElem_map]
    have B:Hid (((qs.map (·.1)).take e).any (fun z=>eqS z.module qs[e].1.module)=H\/vB qs[e].1=X->R=(2,0)):=fun g=>aC.out (zth ac C.out (by rw[M];exact g))
    have a3:Hid ((∀a (hi:a<qs.length),a<e->eqS qs[a].1.module qs[e].1.module=X)->vB qs[e].1=H->qO [] (qs.map (·.1))=qO ((qs.map (·.1)).take (e+1)) ((qs.map (·.1)).drop (e+1))):=fun a9 aa=>zxa ac C.out (fun a hi L=>by have g:=a9 a (by simpa using hi) L;rw[M,List.getElem_map];exact g) (by rw[M];exact aa)
    have Q:Hid (∀a (hi:a<qs.length),a<e->eqS qs[a].1.module qs[e].1.module=H->((qs.map (·.1)).take e).any (fun z=>eqS z.module qs[e].1.module)=H):=fun a hi L g=>List.any_eq_true.2 ⟨qs[a].1,List.mem_iff_getElem.2 ⟨a,by rw[List.length_take];simp;omega,by rw[List.getElem_take,List.getElem_map]⟩,g⟩
    clear ae ag M ac C;have aG:Hid (e<qs.length):=s;generalize aQ:qs[e]=z at *;clear aQ;obtain⟨ai,bc,bb⟩:=z;unfold fvV at u ad;dsimp only at *;injection u with u;simp only[Array.mk.injEq,jq,and_true]at u;obtain⟨-,rfl,rfl⟩:=u;have ak:Hid (w.cell? (A i (j+e*3) F)=Z (I ai.module)):=a7;have aR:=keep a7 k.b;have k1:=keep D k.b;have aS:=keep E k.b;clear a7 D E;generalize ai.module=l at *;skip;go_wp2_with (fail);refine ad.mono ?_;clear ad;rintro G be ⟨rfl,ap⟩;have n:=k.below ap;clear k ap aR k1 aS
    cases N:vB ai with
    | false =>
     have aj:Hid (R=(2,0)):=B.out (.inr N);clear B a3 Q N
     exact oz21x208
    | true =>
     have aI:Hid ((∀a (hi:a<qs.length),a<e->eqS qs[a].1.module l=X)->qO [] (qs.map (·.1))=qO ((qs.map (·.1)).take (e+1)) ((qs.map (·.1)).drop (e+1))):=fun g=>a3.out g N
     have aA:Hid (∀a (hi:a<qs.length),a<e->eqS qs[a].1.module l=H->R=(2,0)):=fun a hi L g=>B.out (.inl (Q.out a hi L g))
     clear B a3 Q N
     go_upto_block 2 with fail
     go_wp2;go_loopw [7] (fun r q=>∃(f:Nat),f<=e/\r=U O f/\RB w q w.heap.size/\Hid (∀a (hi:a<qs.length),a<f->eqS qs[a].1.module l=X)) (fun r _=>e - (intOf r).toNat)
     case atStart=>exact⟨0,jz _,rfl,n,fun a _ g=>absurd g (Nat.not_lt_zero _)⟩
     case round =>
      clear n;obtain⟨f,b8,rfl,n,T⟩:=hrel;by_cases au:f<e
      ·have ah:f<qs.length:=Nat.lt_trans au s;have aH:Hid (f<qs.length):=ah;have am:Hid (w.cell? (A i (j+f*3) F)=Z (I qs[f].1.module)):=aB.out f ah;have a6:Hid (eqS qs[f].1.module l=H->R=(2,0)):=aA.out f ah au
       have a2:Hid (eqS qs[f].1.module l=X->∀a (hi:a<qs.length),a<f+1->eqS qs[a].1.module l=X):=fun g a hi b6=>by
        by_cases G:a=f;·subst G;exact g
        ·exact T.out a hi oA
       clear T;generalize qs[f].1.module=y at *
       go_upto_region 9 with fail
       refine wp_region_held_drew (S:=fun W=>Below w.heap.size w W) oD n.b.drew (fun h=>?_);replace n:=n.drew;generalize wr.drew=aX at *
       cases t:eqS y l with
       | true =>
        have af:(y.toList==l.toList)=H:=t;have aj:Hid (R=(2,0)):=a6.out t;clear a6 a2 t;refine tkw 0 (J (Z (A i j F)) qs.length fc0) h HP ?_;simp only[jA,jB,jC];refine tkw 1 (U O f) h HP ?_;simp only[jA,jB,jC];refine tkw 2 (Zp (Z (A i (j+f*3) F))) h HP ?_ (hy:=Or.inl ⟨oI,fun q o=>oz21y212⟩);simp only[jA,jB,jC];refine tkw 3 (Zp (Z (A i (j+f*3) F))) h HP ?_;simp only[jA,jB,jC];refine tkw 4 (I y) h HP ?_ (hy:=Or.inl ⟨oI,fun q o=>by have a8:=keep am.out o;go_simp⟩);simp only[jA,jB,jC];refine tkw 5 (J (Z (A i j F)) qs.length fc0) h HP ?_;simp only[jA,jB,jC];refine tkw 6 (U O e) h HP ?_;simp only[jA,jB,jC];refine tkw 7 (Zp (Z (A i (j+e*3) F))) h HP ?_ (hy:=Or.inl ⟨oI,fun q o=>oz21y213⟩);simp only[jA,jB,jC];refine tkw 8 (Zp (Z (A i (j+e*3) F))) h HP ?_;simp only[jA,jB,jC];refine tkw 9 (I l) h HP ?_ (hy:=Or.inl ⟨oI,fun q o=>by have a8:=keep ak.out o;go_simp⟩);simp only[jA,jB,jC];refine tkw 10 (Y H) h HP ?_;simp only[jA,jB,jC];refine wpAnyH_done oD ?_ _;clear h af
        exact oz21x208
       | false =>
        have af:(y.toList==l.toList)=X:=t;have V:=a2.out t;replace V:Hid (∀a (hi:a<qs.length),a<f+1->eqS qs[a].1.module l=X):=V;clear a6 a2 t;refine tkw 0 (J (Z (A i j F)) qs.length fc0) h HP ?_;simp only[jA,jB,jC];refine tkw 1 (U O f) h HP ?_;simp only[jA,jB,jC];refine tkw 2 (Zp (Z (A i (j+f*3) F))) h HP ?_ (hy:=Or.inl ⟨oI,fun q o=>oz21y212⟩);simp only[jA,jB,jC];refine tkw 3 (Zp (Z (A i (j+f*3) F))) h HP ?_;simp only[jA,jB,jC];refine tkw 4 (I y) h HP ?_ (hy:=Or.inl ⟨oI,fun q o=>by have a8:=keep am.out o;go_simp⟩);simp only[jA,jB,jC];refine tkw 5 (J (Z (A i j F)) qs.length fc0) h HP ?_;simp only[jA,jB,jC];refine tkw 6 (U O e) h HP ?_;simp only[jA,jB,jC];refine tkw 7 (Zp (Z (A i (j+e*3) F))) h HP ?_ (hy:=Or.inl ⟨oI,fun q o=>oz21y213⟩);simp only[jA,jB,jC];refine tkw 8 (Zp (Z (A i (j+e*3) F))) h HP ?_;simp only[jA,jB,jC];refine tkw 9 (I l) h HP ?_ (hy:=Or.inl ⟨oI,fun q o=>by have a8:=keep ak.out o;go_simp⟩);simp only[jA,jB,jC];refine tkw 10 (Y X) h HP ?_;simp only[jA,jB,jC];refine wpAnyH_done oD ?_ _;clear h af;go_wp2;go_roundw
        case rel=>exact⟨f+1,oA,oJ,n,V⟩
        case measure=>simp[intOf];omega
      ·obtain rfl:f=e:=oA;have aF:Hid (qO [] (qs.map (·.1))=qO ((qs.map (·.1)).take (f+1)) ((qs.map (·.1)).drop (f+1))):=aI.out T.out
       go_wp2;go_roundw
       case rel=>exact⟨f+1,oA,oJ,n,aF⟩
       case measure=>simp[intOf];omega
   ·obtain rfl:e=qs.length:=oA;go_wp2
    go_meet
    case rel=>exact⟨k,zu7 (by have g:=C.out;rw[List.length_map];exact g)⟩
 case rest =>
  clear k;obtain⟨k,aD⟩:=hcut
  go_step
  refine yat (m:=m) (K:=K) k aE.out aD.out aK.out HP.out ?_
  iterate 25 intro _
  intro q ar;rw[a5.out]at ar;obtain⟨aT,ax,ay,aU,D,E,a9,aa,aM⟩:=ar;refine jT (v:=.tuple #[Za #[aT,ax,ay,aU],Za #[U O R.1,U O R.2]]) (zp4 _ _ _ D E) rfl ?_;exact dN.out rfl a9 aa aM
end
end chk
namespace chk
open syn face
theorem small {x:ByteArray} {m:ByteArray} {K:List Kid} (h:(parse x).tree=.node 1 m 0 (K.map Kid.tree)) (c:fitsT (parse x).tree=H):kA (K.map Kid.tree)<=900/\K.length<=900/\∀d∈K,d.kids.length<=900:=by
 rw[h,<- zh2,zcb _ 1 0 oA oA oA oA]at c;split at c
 ·rename_i e
  have j:kA (K.map Kid.tree)+1<=500:=by
   have b:=e.2;rw[qT]at b;omega
  refine⟨oA,?_,?_⟩;·have:=vQ (K.map Kid.tree);rw[List.length_map]at this;omega
  ·intro d g;obtain⟨a,hi,rfl⟩:=List.mem_iff_getElem.1 g;have f:=ze2 (K.map Kid.tree) a (by simpa using hi);have b:(K.map Kid.tree)[a]'(by simpa using hi)=K[a].tree:=oB;rw[b,Kid.tree_is,qT]at f;have i:=vQ K[a].kids;omega
 ·simp at c
theorem shape5 (x:ByteArray) (b:(parse x).code=0):∃(m:ByteArray) (K:List Kid),(parse x).tree=.node 1 m 0 (K.map Kid.tree)/\m.size<=16/\(∀k∈K,k.good/\k.named/\vK k)/\kA (K.map Kid.tree)<=900/\K.length<=900/\∀k∈K,k.kids.length<=900:=by
 obtain⟨m,K,a,h,_,g,f⟩:=zrb x b;obtain⟨c,d,e⟩:=small a f;exact⟨m,K,a,h,g,c,d,e⟩
end chk
end Go.Proofs.YtjkcecppnmlhjaaGreatDoor
