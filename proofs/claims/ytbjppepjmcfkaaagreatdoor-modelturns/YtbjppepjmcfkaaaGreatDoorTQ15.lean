/- The smallest program: it has an order, of one. -/
import Derived.Test.YtbjppepjmcfkaaaGreatDoorTQr
import Derived.Test.YtbjppepjmcfkaaaGreatDoorTQ14
open Go.Proofs.Tryz
open Go.Value renaming int → U, slice → J, bool → Y, agg → Za, pointer → Zp
open Go.IntKind renaming i64 → O
open Go.Obj renaming cells → Zc
open Go.Addr renaming mk → A
open Option renaming some → Z
open Bool renaming false → X, true → H
open Go renaming World → Zw, Value → Zv
set_option maxHeartbeats 4000000
set_option linter.unusedVariables false
set_option linter.unusedSimpArgs false
set_option maxRecDepth 100000
namespace Go.Proofs.YtbjppepjmcfkaaaGreatDoor
theorem zmz {i:Prop} (d:i:=by
 rw[List.find?_range_eq_some]
 exact⟨d,List.mem_range.2 g,fun b hi=>by rw[h b hi];rfl⟩):i:=d
theorem zm2 {G:Prop} (a6:G:=by
 show _=_;unfold xZ;rw[z.out,cB e,zck e,M.out,P.out,C,<- Q,a9.out,ap.out,c]):G:=a6
theorem zaw {G:Prop} (a6:G:=by
 clear c a;go_wp2;refine leaves_cons (f:=55) (args:=#[Zp (Z (A N 0 none))]) oC oR ?_;refine key.mono ?_;rintro h aN y ⟨rfl,rfl,av,aw,ax,B⟩;have aD:=a5.out;have ao:Below N w y:=⟨B.os.trans g.out.os,B.tape.trans g.out.tape,B.output.trans g.out.output,jp g.out.size B.size,fun an aG=>(B.block an (by have:=g.out.size;omega) oE).trans (g.out.block an aG)⟩
 refine⟨.tuple #[J none 0 0,Za #[U O q.1,U O q.2.1,U O q.2.2]],?_,?_⟩;·simp[results,results23,go_sem,av,aw,ax]
 ·unfold OrE;rw[t.out]
  exact⟨by rw[<- aD];exact ao,rfl⟩):G:=a6
theorem zmx {B:Prop} (r:B:=by
 go_enter func10,ntmps10;go_wp2;refine jU (v:=.tuple #[J none 0 0,Za #[U O 0,U O 1,U O 0]]) (zgr _ _ (BoxC.new _ _ _)) rfl ?_;unfold OrE;rw[f.out]
 exact⟨y,rfl⟩):B:=r
theorem zd2 {q:Prop} (D:q:=by
 show be≠pb;omega):q:=D
theorem zd1 {q:Prop} (D:q:=by
 show be≠vb;omega):q:=D
theorem zm1 {d:Prop} (g:d:=by
 show _=_;rw[show eqS a ⟨#[109,97,105,110]⟩=(a.toList==[109,97,105,110])from face.eqS_lit a [109,97,105,110]];simpa using o):d:=g
theorem zm0 {d:Prop} (g:d:=by
 go_enter func106,ntmps106;go_wp2;go_ret
 exact⟨by rw[c.out,h.out];rfl,f⟩):d:=g
theorem zmy {aW:Prop} (B:aW:=by
 obtain⟨bg,bK,a8,av⟩:=aR (by intro y;rw[y]at C;simp at C);injection aJ with a7
 exact⟨bg,bK,a7.trans a8,av a C⟩):aW:=B
theorem vG {aA:Prop} (aP:aA:=by
 have:=a.lt;omega):aA:=aP
theorem zcf {aA:Prop} (aP:aA:=by
 obtain⟨W,a2,R,_⟩:=p;exact⟨W,_,a2,R⟩):aA:=aP
namespace mdl
open Go.RowKit Go.Maps Go.WideMaps
open syn face mac
open chk hiding BoxC BoxC.new
open ord (tkd gL xN)
def zre:Kid->Prop
 | .imp x=>x.size<=16
 | .var x _ _ n=>x.size<=16/\0<=n.getD 0/\n.getD 0<=64
 | .proc x _ _ _ _ b=>x.size<=16/\BlT b
section
variable {N B vb pb vn pn:Nat} {vf pf:ByteArray->Option Zv} {L:List (ByteArray × Kid)} {w w':Zw}
theorem ybo (e:Dcl N B vb pb vf pf vn pn L w) (a b:ByteArray) (v:Zv) (d:Lies (·<w.heap.size) w (Kid.imp a).tree v) (p:a.size<=16) (o:b.size<=16) : Calls prog 64 #[Zp (Z (A B 0 none)),v,.string b] w (zfc N B vb pb vf (L++[(b,Kid.imp a)]) w):=by
 rw[Kid.tree_is]at d;unfold Lies at d;obtain⟨j,k,rfl,_,_⟩:=d;simp only[Kid.kind,Kid.text,Kid.num,Kid.kids,je]at *;have c:=(Below.refl w.heap.size w).alloc (jE _) (Zc #[U O 2,.string a,U O 0,J j 0 k] 25);have h:=show Hid _ from(e.skip (q:=(b,Kid.imp a)) rfl rfl).below c
 have g:=show Hid _ from c
 have f:=fun i=>zcx a b i oA
 generalize qO a b=s at *;clear e c;go_enter func64,ntmps64;go_wp2_with (fail);refine(f _).mono ?_;rintro n m ⟨rfl,rfl⟩;clear f;go_wp2
 go_end0
 exact⟨rfl,(Kept.refl _ w).below g.out,_,_,_,_,h.out,fun r l=>.inl l⟩
theorem ycu (f:Dcl N B vb pb vf pf vn pn L w) (d:Kid) (c:ByteArray) (v:Zv) (k:Lies (PQ N B vb pb vf w) w d.tree v) (a:zre d) (j:c.size<=16) (i:L.length<=100000) : Calls prog 64 #[Zp (Z (A B 0 none)),v,.string c] w (zfc N B vb pb vf (L++[(c,d)]) w):=by
 have l:Lies (·<w.heap.size) w d.tree v:=k.to (fun b n=>n.2.1) (fun _ _ _=>rfl)
 cases d with
 | imp e=>exact ybo f e c v l a j
 | var e h g o=>exact ybq f e c h g o v l (by have:=a.1;omega) a.2.1 a.2.2 i
 | proc e h g m ps b=>exact ybp f e c h g m ps b v k a.2 j a.1 i
end
theorem Kept.toBelow {N vb pb:Nat} {w w':Zw} (a:Kept (fun b=>b≠vb/\b≠pb) w w') (d:N<=vb) (e:N<=pb) (f:N<=w.heap.size):Below N w w':=⟨a.os,a.tape,a.output,a.size,fun c g=>a.block c oA ⟨oA,oA⟩⟩
def mdN (x:ByteArray):ByteArray:=textOf (parse x).tree
def mdK (x:ByteArray):List Kid:=ord.kidsT (parse x).tree
def mdM (x:ByteArray):MK:=(mdN x,mdK x)
structure RdOk (x:ByteArray):Prop where
 code:(parse x).code=0
 tree:(parse x).tree=.node 1 (mdN x) 0 ((mdK x).map Kid.tree)
 nm:(mdN x).size<=16
 kd:∀k∈mdK x,zre k
 len:(mdK x).length<=4000
theorem zuy {xs:List ByteArray} {a:Nat} (b:a<xs.length):kQ ((xs.take (a+1)).map mdM)=kQ ((xs.take a).map mdM)++(mdK xs[a]).map fun c=>(mdN xs[a],c):=by
 unfold kQ;rw[List.take_succ_eq_append_getElem b,List.map_append,List.flatMap_append];simp[mdM]
def RdE (xs:List ByteArray) (w:Zw) (e:Ending) (w':Zw):Prop :=
 ∃B vb pb vf pf vn pn,e=.returned (Za #[.map (Z vb),.map (Z pb)])/\Below w.heap.size w w'/\Dcl (w.heap.size+1) B vb pb vf pf vn pn (kQ (xs.map mdM)) w'
theorem Dcl.same {N B vb pb vn pn:Nat} {vf pf:ByteArray->Option Zv} {L:List (ByteArray × Kid)} {w w':Zw} (c:Dcl N B vb pb vf pf vn pn L w) (i:w.heap.size<=w'.heap.size) (e:∀b,N<=b->b<w.heap.size->w'.heap[b]?=w.heap[b]?):Dcl N B vb pb vf pf vn pn L w' :=
 ⟨(e B c.ne.1 c.bx.lt).trans c.bx,kI.same c.hV (e vb c.ne.2.1 c.hV.lt),kI.same c.hP (e pb c.ne.2.2.1 c.hP.lt),c.nV,c.nP,fun f=>(c.wd f).to (fun b g h _ _ _=>e b h g),c.one,fun f=>(c.pr f).to (fun b d=>⟨d.1,jo d.2.1 i,d.2.2⟩) (fun b d j=>jN (a:=(A b j none)) (e b d.1 d.2.1)),c.ne⟩
theorem Dcl.start {N:Nat} (w1:Zw) (h:N<=w1.heap.size):Dcl N (w1.heap.size+1+1) w1.heap.size (w1.heap.size+1) (fun _=>none) (fun _=>none) 0 0 [] (((w1.alloc (.map #[] 0)).alloc (.map #[] 0)).alloc (Zc #[.map (Z w1.heap.size),.map (Z (w1.heap.size+1))] 77)):=by
 have e:=(Below.refl (w1.alloc (.map #[] 0)).heap.size (w1.alloc (.map #[] 0))).alloc (jE _) (.map #[] 0);have b:=(Below.refl ((w1.alloc (.map #[] 0)).alloc (.map #[] 0)).heap.size ((w1.alloc (.map #[] 0)).alloc (.map #[] 0))).alloc (jE _) (Zc #[.map (Z w1.heap.size),.map (Z (w1.heap.size+1))] 77);have g:=((kI.made w1).below e).below b;have c:=(kI.made (w1.alloc (.map #[] 0))).below b;have a:=BoxC.new ((w1.alloc (.map #[] 0)).alloc (.map #[] 0)) #[.map (Z w1.heap.size),.map (Z (w1.heap.size+1))] 77;simp only[jP]at c a;exact⟨a,g,c,jE _,jE _,fun d=>rfl,fun d j v i f=>(by cases f),fun d=>rfl,oA⟩
theorem oRead (w:Zw) (aN:gO w) (xs:List ByteArray) (tv:Zv) (ah:zH w tv xs) (d1:xs.length<=6) (bb:∀a∈xs,RdOk a) : Calls prog 30 #[tv] w (RdE xs w):=by
 have bB:=kc77;have cn:=kc25;have co:=kc28;obtain⟨ce,cf,rfl⟩:∃R ab,tv=J R xs.length ab:=by obtain⟨R,ab,j,_⟩:=ah;exact⟨R,ab,j⟩
 have bw:=show Hid _ from ah
 have bo:=show Hid _ from aN
 have bu:Hid (∀a∈xs,RdOk a):=bb;clear ah aN bb;have bM:∀w:Zw,(Instr.makeMap 74 none).run prog w=.ok (.map (Z w.heap.size)) (w.alloc (.map #[] 0)):=fun _=>oB
 have bN:∀w:Zw,(Instr.makeMap 75 none).run prog w=.ok (.map (Z w.heap.size)) (w.alloc (.map #[] 0)):=fun _=>oB
 go_enter func30,ntmps30;go_wp2;have ag:=Dcl.start (N:=w.heap.size+1) (w.alloc (Zc #[.map none,.map none] 77)) oC;simp only[jP]at ag;have aW:Below w.heap.size w (((( w.alloc (Zc #[.map none,.map none] 77)).alloc (.map #[] 0)).alloc (.map #[] 0)).alloc (Zc #[.map (Z (w.heap.size+1)),.map (Z (w.heap.size+1+1))] 77)):=(((bal _).alloc oC _).alloc oE _).alloc oE _;have aC:BoxC (((( w.alloc (Zc #[.map none,.map none] 77)).alloc (.map #[] 0)).alloc (.map #[] 0)).alloc (Zc #[.map (Z (w.heap.size+1)),.map (Z (w.heap.size+1+1))] 77)) w.heap.size #[.map none,.map none] 77:=(((BoxC.new w _ _).alloc _).alloc _).alloc _;have ap:=show Hid (Dcl _ _ _ _ _ _ _ _ _ _)from ag
 have ao:=show Hid (Below _ _ _)from aW
 have ax:=show Hid (BoxC _ _ _ _)from aC
 clear ag aW aC bM bN;generalize (((w.alloc (Zc #[.map none,.map none] 77)).alloc (.map #[] 0)).alloc (.map #[] 0)).alloc (Zc #[.map (Z (w.heap.size+1)),.map (Z (w.heap.size+1+1))] 77)=dd at *;generalize c6:w.heap.size+1=vb at *;generalize cR:vb+1=pb at *;generalize cr:pb+1=B at *;have aO:∀a8,Below w.heap.size w a8->gO a8:=fun a8 o=>zbj bo.out o
 have bp:=show Hid _ from aO
 clear aO;go_loopw [15] (fun p wr=>∃(d:Nat) (vf pf:ByteArray->Option Zv) (vn pn:Nat),d<=xs.length/\p=U O d/\Hid (Dcl vb B vb pb vf pf vn pn (kQ ((xs.take d).map mdM)) wr)/\Hid (Below w.heap.size w wr)/\Hid (BoxC wr w.heap.size #[.map none,.map none] 77)/\Hid ((kQ ((xs.take d).map mdM)).length<=d*4000)) (fun p _=>xs.length - (intOf p).toNat)
 case atStart=>exact⟨0,_,_,_,_,jz _,rfl,ap.out,ao.out,ax.out,jz _⟩
 case round =>
  obtain⟨d,vf,pf,vn,pn,hi,rfl,i,r,m,au⟩:=hrel;obtain⟨h,rfl⟩:∃ck,ck=wr:=⟨_,rfl⟩
  clear ap ao ax;by_cases K:d<xs.length
  ·have ak:xs≠[]:=by intro j;rw[j]at K;simp at K
   have bK:=xN bw.out r.out;obtain⟨bA,S,aG,_,aY⟩:=bK;obtain⟨rfl,rfl⟩:ce=bA/\cf=S:=by simpa using aG
   obtain⟨dc,to,rfl,aZ⟩:=aY ak;have bX:=aZ d K;have aU:=bu.out xs[d] (jH K);have s:=show Hid _ from aU
   have bc:=ze1 xs[d] h (bp.out h r.out);have az:=show Hid _ from zuy K
   clear aY aZ aG aU;generalize xs[d]=a at *;go_wp2_with (fail);refine bc.mono ?_;clear bc bX;unfold fP;rw[s.out.tree,s.out.code];generalize (parse a).place=M;rintro j e ⟨v,rfl,b7,E⟩;unfold Lies at b7;obtain⟨k,n,rfl,⟨cH,cL⟩,b2⟩:=b7;simp only[List.length_map]at *;have d2:=E.size;have aK:=i.out.below E;have aS:=mac.BoxC.below m.out E;have af:=r.out.trans (E.mono r.out.size);have L:=(((Below.refl e.heap.size e).alloc (jE _) (Zc #[U O 1,.string (mdN a),U O 0,J k (mdK a).length n] 25))).alloc oC (Zc #[U O 0,U O M] 28);have aB:BoxC ((e.alloc (Zc #[U O 1,.string (mdN a),U O 0,J k (mdK a).length n] 25)).alloc (Zc #[U O 0,U O M] 28)) e.heap.size #[U O 1,.string (mdN a),U O 0,J k (mdK a).length n] 25:=(BoxC.new e _ _).alloc _;have aJ:=af.trans (L.mono af.size);have aL:=aK.below L;have aT:=aS.below L;have bS:e.heap.size+2=((e.alloc (Zc #[U O 1,.string (mdN a),U O 0,J k (mdK a).length n] 25)).alloc (Zc #[U O 0,U O M] 28)).heap.size:=oC
   have b6:(mdK a)≠[]->∃t l,k=Z (A t l none)/\(h.heap.size<=t/\t<e.heap.size)/\qF (fun b=>h.heap.size<=b/\b<e.heap.size) ((e.alloc (Zc #[U O 1,.string (mdN a),U O 0,J k (mdK a).length n] 25)).alloc (Zc #[U O 0,U O M] 28)) ((mdK a).map Kid.tree) t l:=fun ak=>by
    obtain⟨t,l,j,b1,T⟩:=b2 (by simpa using ak);exact⟨t,l,j,b1,T.to (fun _ D=>D) (fun b o l=>L.cell (p:=(A b l none)) o.2) b1⟩
   have ar:=show Hid _ from b6
   have cw:=i.out.hV.lt;have cv:=i.out.hP.lt;have ct:=i.out.bx.lt;have ba:∀c,h.heap.size<=c->c<e.heap.size->¬bZ vf c:=fun c ad ae aj=>by have:=(i.out.mut aj).1;omega
   have aw:=show Hid _ from ba
   have a5:=show Hid (Dcl _ _ _ _ _ _ _ _ _ _)from aL
   have a2:=show Hid _ from aJ
   have ay:Hid (BoxC _ w.heap.size #[.map none,.map none] 77):=aT;have a7:Hid (BoxC _ e.heap.size #[U O 1,.string (mdN a),U O 0,J k (mdK a).length n] 25):=aB;have cu:(kQ ((xs.take d).map mdM)).length<=24000:=jp au.out oA;clear b2 b6 ba aK aS af aJ aL aT aB L i r m E;have bG:w.heap.size<h.heap.size:=oA;obtain⟨a9,ai⟩:∃a9,a9=(e.alloc (Zc #[U O 1,.string (mdN a),U O 0,J k (mdK a).length n] 25)).alloc (Zc #[U O 0,U O M] 28):=⟨_,rfl⟩
   rw[<- ai]at ar a5 a2 ay a7 bS
   go_upto_region 6 with fail
   rw[<- ai];clear ai;have d6:=mac.BoxC.cell a7.out 3 rfl;go_wp2;go_loopw [27] (fun p wr=>∃(f:Nat) (vf pf:ByteArray->Option Zv) (vn pn:Nat),f<=(mdK a).length/\p=U O f/\Hid (Dcl vb B vb pb vf pf vn pn (kQ ((xs.take d).map mdM)++((mdK a).take f).map (fun c=>(mdN a,c))) wr)/\Hid (∀c,h.heap.size<=c->c<e.heap.size->¬bZ vf c)/\Hid (Kept (fun c=>c≠vb/\c≠pb) a9 wr)) (fun p _=>(mdK a).length - (intOf p).toNat)
   case atStart=>exact⟨0,vf,pf,vn,pn,jz _,rfl,(by show Dcl ..;simpa using a5.out),aw.out,Kept.refl _ _⟩
   case round =>
    obtain⟨f,am,bf,bj,bh,cy,rfl,P,Q,g⟩:=hrel;clear a5 aw;have aR:=g.out.box a7.out ⟨oA,oA⟩;have av:Hid (BoxC wr e.heap.size #[U O 1,.string (mdN a),U O 0,J k (mdK a).length n] 25):=aR;have d0:=g.out.size;have cx:e.heap.size<wr.heap.size:=oA;clear aR;by_cases G:f<(mdK a).length
    ·have bP:mdK a≠[]:=by intro j;rw[j]at G;simp at G
     obtain⟨be,d4,rfl,cz,T⟩:=ar.out bP;obtain⟨d5,⟨cg,ch,ci,cj,ac,aD,aE,S,aF⟩,W⟩:=T.get f (by simpa using G);rw[List.getElem_map]at W;obtain⟨bk,C,y,u,z,x,aH⟩:=lies_shape W;rw[aH]at ac;obtain⟨rfl,rfl,rfl,rfl⟩:cg=U O bk/\ch=.string C/\ci=U O y/\cj=J u z x:=by simpa[eq_comm] using ac
     subst aH;have c7:=g.out.cell aD ⟨zd1,zd2⟩;have c8:=g.out.cell aE ⟨zd1,zd2⟩;have c9:=g.out.cell S ⟨zd1,zd2⟩;have ca:=g.out.cell aF ⟨zd1,zd2⟩;have cb:=mac.BoxC.cell av.out 1 rfl;have V:=(Below.refl wr.heap.size wr).alloc (jE _) (Zc #[U O bk,.string C,U O y,J u z x] 25)
     have b8:Lies (PQ vb B vb pb am (wr.alloc (Zc #[U O bk,.string C,U O y,J u z x] 25))) (wr.alloc (Zc #[U O bk,.string C,U O y,J u z x] 25)) (mdK a)[f].tree (Za #[U O bk,.string C,U O y,J u z x]) :=
      W.to (fun b o=>⟨oA,oE,oA,oA,oA,Q.out b o.1 o.2⟩) (fun b o l=>(V.cell (p:=(A b l none)) (by show b<wr.heap.size;omega)).trans (jN (a:=(A b l none)) (g.out.block b oA ⟨oA,oA⟩)))
     have b9:(kQ ((xs.take d).map mdM)++((mdK a).take f).map (fun c=>(mdN a,c))).length<=100000:=by
      rw[jb,List.length_map,List.length_take];have:=s.out.len;omega
     have b0:=ycu (P.out.below V) (mdK a)[f] (mdN a) _ b8 (s.out.kd _ (jH G)) s.out.nm b9
     have aV:kQ ((xs.take d).map mdM)++((mdK a).take (f+1)).map (fun c=>(mdN a,c))=kQ ((xs.take d).map mdM)++((mdK a).take f).map (fun c=>(mdN a,c))++[(mdN a,(mdK a)[f])]:=by
      rw[List.take_succ_eq_append_getElem G,List.map_append,jt];rfl
     have aA:=show Hid _ from aV
     have a3:=show Hid _ from V
     clear b8 W T aD aE S aF aV ac V b9;generalize (mdK a)[f]=d3 at *;go_wp2_with (fail);refine b0.mono ?_;clear b0 c7 c8 c9 ca cb;rintro j bz ⟨rfl,aP,an,bg,bm,bi,aM,aQ⟩;have bq:=show Hid _ from(g.out.below a3.out).trans aP (fun c _ bR=>bR)
     have a6:Hid (Dcl vb B vb pb an bg bm bi (kQ ((xs.take d).map mdM)++((mdK a).take (f+1)).map (fun c=>(mdN a,c))) bz):=by show Dcl ..;rw[aA.out];exact aM
     have bs:Hid (∀c,h.heap.size<=c->c<e.heap.size->¬bZ an c):=fun c ad ae aj=>by
      rcases aQ c aj with aI | aI
      ·exact Q.out c ad ae aI
      ·have:=a3.out.size;omega
     clear aP aM aQ aA P Q g a3;go_wp2;go_roundw
     case rel=>exact⟨f+1,an,bg,bm,bi,oA,oM,a6.out,bs.out,bq.out⟩
     case measure=>simp[intOf];omega
    ·obtain rfl:f=(mdK a).length:=oA
     have a6:Hid (Dcl vb B vb pb am bf bj bh (kQ ((xs.take (d+1)).map mdM)) wr):=by
      show Dcl ..;rw[az.out];have:=P.out;rw[List.take_length]at this;exact this
     have bn:=show Hid _ from a2.out.trans (g.out.toBelow (N:=w.heap.size) oA oA a2.out.size)
     have bv:Hid (BoxC wr w.heap.size #[.map none,.map none] 77):=g.out.box ay.out ⟨oA,oA⟩
     have br:Hid ((kQ ((xs.take (d+1)).map mdM)).length<=(d+1)*4000):=by
      show _<=_;rw[az.out,jb,List.length_map];have:=s.out.len;have:=au.out;omega
     clear P Q g av;go_wp2;go_roundw
     case rel=>exact⟨d+1,am,bf,bj,bh,oA,oM,a6.out,bn.out,bv.out,br.out⟩
     case measure=>simp[intOf];omega
  ·obtain rfl:d=xs.length:=oA;rw[List.take_length]at i;have aa:=i.out.bx;have de:=aa.cell 0 rfl;have df:=aa.cell 1 rfl;have bG:=mac.BoxC.lt m.out;have da:=mac.BoxC.cell m.out 0 rfl;have db:=mac.BoxC.cell m.out 1 rfl;have cp:=mac.BoxC.fz m.out 0;have cq:=mac.BoxC.fz m.out 1;clear aa;go_wp2;have bC:Below w.heap.size w ((h.setCell (A w.heap.size 0 none) (.map (Z vb))).setCell (A w.heap.size 1 none) (.map (Z pb))):=(r.out.setCell (jE _) _).setCell (jE _) _;have aX:BoxC ((h.setCell (A w.heap.size 0 none) (.map (Z vb))).setCell (A w.heap.size 1 none) (.map (Z pb))) w.heap.size #[.map (Z vb),.map (Z pb)] 77:=mac.BoxC.set (mac.BoxC.set m.out 0 (.map (Z vb))) 1 (.map (Z pb));have bF:=i.out.same (w':=(h.setCell (A w.heap.size 0 none) (.map (Z vb))).setCell (A w.heap.size 1 none) (.map (Z pb))) oC (fun b ad ae=>(jQ _ (A w.heap.size 1 none) _ b (by show b≠w.heap.size;omega)).trans (jQ _ (A w.heap.size 0 none) _ b (by show b≠w.heap.size;omega)));generalize (h.setCell (A w.heap.size 0 none) (.map (Z vb))).setCell (A w.heap.size 1 none) (.map (Z pb))=cm at *;have cc:=aX.cell 0 rfl;have cd:=aX.cell 1 rfl;exact jU (v:=Za #[.map (Z vb),.map (Z pb)]) (by simp[results,results30,go_sem,cc,cd,bB]) rfl ⟨B,vb,pb,vf,pf,vn,pn,rfl,bC,by rw[c6];exact bF⟩
end mdl
namespace ord
open Go.RowKit Go.Shelf
open syn face chk
def Good (ns:List ByteArray) (Is:List (List ByteArray)) (t:List Nat):Prop:=∀p (a:p<t.length),gA ns (t.take p) (Is.getD t[p] [])=X
variable {a:List ByteArray}
theorem Good.snoc {c:List (List ByteArray)} {t:List Nat} (g:Good a c t) {f:Nat} (d:vT a c t f=H):Good a c (t++[f]):=by
 intro e h;rcases jM e t.length with b | b
 ·rw[List.getElem_append_left b,List.take_append_of_le_length (ji b)];exact g e b
 ·have:e=t.length:=by simp at h;omega
  subst this;rw[List.getElem_append_right (jE _)];simp only[Nat.sub_self,jI,List.take_left'];unfold vT at d;simp only[jj,Bool.not_eq_true']at d;exact d.2
theorem zj3 {b:List (List ByteArray)}:∀(c:Nat) (t:List Nat),Good a b t->Good a b (takeF a b c t)
 | 0,t,h=>h
 | c+1,t,h=>by
  unfold takeF;split;·rename_i d hi;exact zj3 c _ (h.snoc (zb0 hi).2.1)
  ·exact h
theorem zi7:∀(b c:List ByteArray),yR c b=none->∀a (hi:a<b.length),kJ (c++b.take a) b[a]=X
 | [],_,_,a,hi=>by simp at hi
 | n :: b,c,h,a,hi=>by
  unfold yR at h;split at h;·cases h
  ·rename_i d
   cases a with
   | zero=>simpa using d
   | succ a =>
    have:=zi7 b (c++[n]) h a (by simpa using hi);simpa[jt] using this
theorem eqS_comm (a b:ByteArray):eqS a b=eqS b a:=by
 cases c:eqS a b with
 | true=>rw[zdj c]
 | false =>
  cases d:eqS b a with
  | false=>rfl
  | true=>rw[zdj d]at c;cases c
theorem ztb (g:yR [] a=none) {i j:Nat} (hi:i<a.length) (f:j<a.length) (l:i≠j):eqS a[i] a[j]=X:=by
 have key:∀c b (h:c<a.length) (e:b<a.length),c<b->eqS a[c] a[b]=X:=fun c b h e m=>by
  have:=zi7 a [] g b e;rw[js]at this;unfold kJ at this;rw[List.any_eq_false]at this
  have k:a[c]∈a.take b:=by
   rw[List.mem_take_iff_getElem];exact⟨c,oA,rfl⟩
  simpa using this _ k
 rcases Nat.lt_or_gt_of_ne l with d | d
 ·exact key i j hi f d
 ·rw[eqS_comm];exact key j i f hi d
structure Rises (xs:List ByteArray) (t:List Nat):Prop where
 top:xs.length<=6
 ec:∀x∈xs,(tx x).ec=0
 apart:yR [] (xs.map nameOf)=none
 all:∀x∈xs,∀y∈(tx x).I,kJ (xs.map nameOf) y=H
 tk:Tk xs.length t
 len:t.length=xs.length
 good:Good (xs.map nameOf) (xs.map fun x=>(tx x).I) t
theorem zyl {xs:List ByteArray} (a:orderF xs=none):Rises xs (qW xs):=by
 unfold orderF at a;split at a;·cases a
 rename_i o;split at a;·cases a
 rename_i e;split at a;·cases a
 rename_i f;split at a;·cases a
 rename_i g;split at a;·cases a
 rename_i h
 have c:Tk xs.length (qW xs):=by
  have:=zea (ns:=xs.map nameOf) (Is:=xs.map fun b=>(tx b).I) xs.length [] ⟨fun d hi=>(by cases hi),List.nodup_nil⟩;rw[List.length_map]at this;exact this
 refine⟨oA,zj1 _ _ e,f,fun b k m l=>?_,c,?_,?_⟩;·exact zfs _ _ _ g _ (List.mem_map.2 ⟨b,k,rfl⟩) m l
 ·have i:=List.nodup_range (n:=xs.length) |>.length_le_of_subset (l₂:=qW xs) (fun d hi=>zju h d (List.mem_range.1 hi))
  rw[List.length_range]at i;have:=c.len;omega
 ·exact zj3 _ _ (fun p j=>by simp at j)
section
variable {xs:List ByteArray} {t:List Nat}
theorem getD_at {a:Nat} (hi:a<xs.length) (b:ByteArray):xs.getD a b=xs[a]:=by simp[hi]
end
end ord
namespace mdl
open syn face mac
open chk
open ord
structure TxIs (x:ByteArray):Prop where
 code:(parse x).code=0
 m:(tx x).m=mdN x
 K:(tx x).K=mdK x
 F:(tx x).F=qQ X (mdN x) (mdK x)
 I:(tx x).I=kS (mdK x)
 lk:kV (mdN x) (mdK x) [] [] 1=none
 tree:(parse x).tree=.node 1 (mdN x) 0 ((mdK x).map Kid.tree)
 nm:kO (mdN x)=H
 kd:∀k∈mdK x,k.good/\k.named/\gE k
 ct:kC ((mdK x).map Kid.tree)<=900
 ln:(mdK x).length<=900
variable {a c:ByteArray}
theorem znk (t:Tree):zbg t=textOf t:=by cases t;rfl
theorem zio (k:(tx a).ec=0):TxIs a:=by
 obtain⟨h,i,j,e,_⟩:=(txo a).good k
 have b:(tx a).m=mdN a/\(tx a).K=mdK a:=by
  unfold tx;rw[ju (by simp[e])];split;·exact⟨znk _,rfl⟩
  ·exact⟨znk _,rfl⟩
 rw[b.1,b.2]at h j;rw[b.2]at i;obtain⟨q,f,d,_,p,o,n⟩:=zi4 a e;obtain⟨l,m,_⟩:=small d n;have g:mdN a=q:=by unfold mdN;rw[d];rfl
 have c:mdK a=f:=by unfold mdK;rw[d];exact zkj f
 exact⟨e,b.1,b.2,h,i,j,by rw[g,c];exact d,by rw[g];exact p,by rw[c];exact o,by rw[c];exact l,by rw[c];exact m⟩
theorem zdd (g:ByteArray):∀(j:List Kid) (is i:List ByteArray) (f:Int),kV g j is i f=none->∀e d c b,Kid.var e d c b∈j->0<=b.getD 0/\b.getD 0<=64
 | [],_,_,_,_,e,d,c,b,a=>by cases a
 | .imp y :: r,is,i,f,h,e,d,c,b,a=>by
  unfold kV at h;split at h;·cases h
  split at h;·cases h
  rcases List.mem_cons.1 a with a | a
  ·cases a
  ·exact zdd g r _ _ _ h e d c b a
 | .var y p2 l2 n2 :: r,is,i,f,h,e,d,c,b,a=>by
  unfold kV at h;split at h;·cases h
  split at h;·cases h
  split at h;·cases h
  rename_i l;rcases List.mem_cons.1 a with a | a
  ·cases a
   cases n2 with
   | none=>simp
   | some v =>
    have k:(if v<1\/64<v then Z ((6:Int),f)else none)=none:=l;split at k;·cases k
    ·simp only[Option.getD_some];omega
  ·exact zdd g r _ _ _ h e d c b a
 | .proc y p2 l2 g2 ps2 b2 :: r,is,i,f,h,e,d,c,b,a=>by
  unfold kV at h;split at h;·cases h
  split at h;·cases h
  split at h;·cases h
  split at h;·cases h
  rcases List.mem_cons.1 a with a | a
  ·cases a
  ·exact zdd g r _ _ _ h e d c b a
theorem TxIs.rd (c:TxIs a):RdOk a:=by
 refine⟨c.code,c.tree,dZ c.nm,fun f e=>?_,by have:=c.ln;omega⟩;obtain⟨d,l,i⟩:=c.kd f e
 cases f with
 | imp a=>exact d
 | var a h g j=>exact⟨d,zdd _ _ _ _ _ c.lk a h g j e⟩
 | proc a h g k ps b=>exact⟨d.1,i⟩
theorem zfy (xs:List ByteArray):∀(a:List Nat),yU xs a=none->∀i∈a,(ckF (xs.getD i ⟨#[]⟩) (xK xs (xs.getD i ⟨#[]⟩)) (tx (xs.getD i ⟨#[]⟩)).m (tx (xs.getD i ⟨#[]⟩)).K).1=0
 | [],_,i,hi=>by cases hi
 | j :: r,h,i,hi=>by
  unfold yU at h;dsimp only at h;split at h;·cases h
  rename_i b;rcases List.mem_cons.1 hi with rfl | hi
  ·exact Decidable.not_not.1 b
  ·exact zfy xs r h i hi
structure OrdIs (xs:List ByteArray):Prop where
 ri:Rises xs (qW xs)
 ck:yU xs (qW xs)=none
 mn:uG xs=none
 left:∀i,i<xs.length->i∈qW xs
theorem ze2 {xs:List ByteArray} (a:orderF xs=none):OrdIs xs:=by
 have d:=zyl a;unfold orderF at a;split at a;·cases a
 split at a;·cases a
 split at a;·cases a
 split at a;·cases a
 split at a;·cases a
 rename_i c;split at a;·cases a
 rename_i b;exact⟨d,b,a,fun e hi=>zju c e hi⟩
theorem zxx {own:FaceD} {b:List FaceD} {a:List Kid} {q:Int × Int} (c:moF own b a [] 1=Z q):q.1≠0:=pr.mo_code own b a [] 1 q c
theorem ycm {e:List FaceD} {d:List Kid} (i:kV c d [] [] 1=none) (b:(ckF a e c d).1=0):moF (qQ H c d) e d [] 1=none:=by
 unfold ckF at b;split at b;·cases b
 split at b;·rename_i h;exact absurd b h
 rw[i]at b;dsimp only at b
 cases f:moF (qQ H c d) e d [] 1 with
 | none=>rfl
 | some q =>
  have g:=zxx f;rw[f]at b;unfold nz at b;dsimp only[Option.getD_some]at b;rw[ju g]at b;exact absurd b g
theorem ziq {xs:List ByteArray} (u:orderF xs=none):Wf (xs.map mdM):=by
 have g:=ze2 u;have d:∀b∈xs,TxIs b:=fun b a=>zio (g.ri.ec b a)
 have f:∀q∈xs.map mdM,∃b∈xs,q=mdM b:=fun q c=>by
  obtain⟨b,a,rfl⟩:=List.mem_map.1 c;exact⟨b,a,rfl⟩
 have p:∀b∈xs,nameOf b=mdN b:=fun b a=>by
  unfold nameOf;rw[(d b a).F];rfl
 refine⟨fun q c=>?_,fun q c y w=>?_,fun q c=>?_,fun q c z x s=>?_,fun q c=>?_,fun q c=>?_⟩;·obtain⟨b,a,rfl⟩:=f q c;exact(d b a).nm
 ·obtain⟨b,a,rfl⟩:=f q c;exact(d b a).kd y w
 ·obtain⟨b,a,rfl⟩:=f q c;exact(d b a).ct
 ·obtain⟨b,a,rfl⟩:=f q c;obtain⟨k,j,rfl⟩:=f z x;obtain⟨e,hi,rfl⟩:=List.mem_iff_getElem.1 a;obtain⟨h,v,rfl⟩:=List.mem_iff_getElem.1 j;by_cases n:e=h;·subst n;rfl
  have:=ztb g.ri.apart (i:=e) (j:=h) (by simpa using hi) (by simpa using v) n;rw[List.getElem_map,List.getElem_map,p _ a,p _ j]at this;have t:mdN xs[e]=mdN xs[h]:=s;rw[t,xG.2 rfl]at this;cases this
 ·obtain⟨b,a,rfl⟩:=f q c;exact(d b a).lk
 ·obtain⟨b,a,rfl⟩:=f q c;obtain⟨e,hi,rfl⟩:=List.mem_iff_getElem.1 a;have i:=zfy xs _ g.ck e (g.left e hi);rw[getD_at hi]at i;refine⟨xK xs xs[e],fun B l=>?_,?_⟩
  ·unfold xK at l;obtain⟨k,j,rfl⟩:=List.mem_map.1 l
   have r:xs.getD (qX (xs.map nameOf) k) xs[e]∈xs:=by
    by_cases o:qX (xs.map nameOf) k<xs.length;·rw[getD_at o];exact jH o
    ·rw[List.getD_eq_getElem?_getD,List.getElem?_eq_none oA];exact a
   exact⟨mdM _,List.mem_map.2 ⟨_,r,rfl⟩,(d _ r).F⟩
  ·rw[(d _ a).m,(d _ a).K]at i;exact ycm (d _ a).lk i
theorem zvp {xs:List ByteArray} (i:orderF xs=none):(psF (kQ (xs.map mdM)) zX).pars=[]:=by
 have j:=ze2 i;have o:=ziq i;have a:=j.mn;unfold uG at a;split at a;·cases a
 rename_i c hi;split at a
 case isFalse=>cases a
 rename_i f;obtain⟨p,e⟩:=zcm hi;have g:c<xs.length:=by simpa using p
 rw[getD_at g]at f;have l:TxIs xs[c]:=zio (j.ri.ec _ (jH g));rw[l.F]at f;obtain⟨x,s,d⟩:=List.any_eq_true.1 f;obtain⟨h,m,w,n,ps,b,q,rfl⟩:=procsK_mem _ _ _ s;unfold xU at d;simp only[jj,beq_iff_eq]at d;have v:h=⟨#[109,97,105,110]⟩:=xG.1 d.1.1.1
 have t:ps=[]:=by
  have:=d.1.1.2;simpa[qB] using this
 have r:mdN xs[c]=⟨#[109,97,105,110]⟩:=by
  rw[List.getElem_map]at e;unfold nameOf at e;rw[l.F]at e;exact(xG.1 e).symm
 have u:=o.ps (p:=mdM xs[c]) (List.mem_map.2 ⟨_,jH g,rfl⟩) (k:=.proc h m w n ps b) q rfl (y:=zX) (by
  show zX=mdN xs[c]++⟨#[46]⟩++h;rw[r,v]
  decide)
 rw[u];show ps.map (·.1)=[]
 rw[t];rfl
end mdl
namespace ord
open Go.RowKit Go.Shelf Go.Maps Go.WideMaps
open syn face chk
variable {f h:Nat}
theorem zz0 (a:ByteArray) (pb e:Bool) (i:Option Addr) (b j:Nat) (wr k:Int) (w:Zw) : Calls prog 106 #[Za #[.string a,Y pb,J i b j,U O wr,Y e,U O k]] w fun n w'=>n=.returned (Y (eqS a ⟨#[109,97,105,110]⟩&&b==0&&wr==0&&!e))/\Below w.heap.size w w':=by
 have p:=kc91;have f:=(Below.refl w.heap.size w).alloc (jE _) (Zc #[.string a,Y pb,J i b j,U O wr,Y e,U O k] 91);by_cases o:a.toList=[109,97,105,110]
 rotate_left;·have c:Hid (eqS a ⟨#[109,97,105,110]⟩=X):=zm1;go_enter func106,ntmps106;go_wp2;go_ret;exact⟨by rw[c.out];rfl,f⟩
 ·have c:Hid (eqS a ⟨#[109,97,105,110]⟩=H):=zm1;by_cases l:b=0
  ·subst l;by_cases m:wr=0
   ·subst m;cases e;·go_enter func106,ntmps106;go_wp2;go_ret;exact⟨by rw[c.out];rfl,f⟩
    ·go_enter func106,ntmps106;go_wp2;go_ret;exact⟨by rw[c.out];rfl,f⟩
   ·have h:Hid ((wr==0)=X):=by show _=_;simp[m]
    exact zm0
  ·have h:Hid ((b==0)=X):=by show _=_;simp[l]
   have q:¬((b:Int)=0):=oA;exact zm0
theorem zzz (c:List ProcD) (v:Zv) (w:Zw) (aC:bL w v c) : Calls prog 136 #[v,.func (.func 106) #[] #[]] w fun y w'=>∃a:Int,y=.returned (U O a)/\decide (0<=a)=c.any xU/\Below w.heap.size w w':=by
 have bS:=kc91;have c9:c.length<=4611686018427387903:=by obtain⟨_,_,_,B,_⟩:=aC;exact B
 obtain⟨P,af,rfl⟩:∃aj ak,v=J aj c.length ak:=by obtain⟨aj,ak,y,_⟩:=aC;exact⟨aj,ak,y⟩
 go_enter func136,ntmps136;go_wp2;go_loopw [8] (fun i wr=>∃a:Nat,a<=c.length/\i=U O a/\Below w.heap.size w wr/\Hid (∀j (a2:j<c.length),j<a->xU c[j]=X)) (fun i _=>c.length - (intOf i).toNat)
 case atStart=>exact⟨0,jz _,rfl,Below.refl _ _,fun j _ a2=>oA⟩
 case round =>
  obtain⟨a,bp,rfl,e,ah⟩:=hrel;by_cases C:a<c.length
  ·obtain⟨l,o,rfl,cc,cd,⟨i,ce,ae⟩,cf,cg,ch⟩:∃l o,P=Z (A l o none)/\wr.cell? (A l (o+a*6) none)=Z (.string c[a].name)/\wr.cell? (A l (o+a*6+1) none)=Z (Y c[a].pub)/\(∃i,wr.cell? (A l (o+a*6+2) none)=Z i/\IntsIn wr i c[a].params)/\wr.cell? (A l (o+a*6+3) none)=Z (U O c[a].writes)/\wr.cell? (A l (o+a*6+4) none)=Z (Y c[a].gives)/\wr.cell? (A l (o+a*6+5) none)=Z (U O c[a].given):=by
    obtain⟨b6,b7,aJ,_,aR⟩:=aC.below e;exact zmy
   obtain⟨a5,a6,rfl,-,-⟩:=ae;have aw:=zz0 c[a].name c[a].pub c[a].gives a5 c[a].params.length a6 c[a].writes c[a].given wr;generalize a9:(eqS c[a].name ⟨#[109,97,105,110]⟩&&c[a].params.length==0&&c[a].writes==0&&!c[a].gives)=b1 at aw;cases b1
   ·have R:Hid (xU c[a]=X):=a9;clear a9;generalize c[a].params.length=pn at *;generalize c[a].name=b9 at *;generalize c[a].pub=ba at *;generalize c[a].writes=bb at *;generalize c[a].gives=bc at *;generalize c[a].given=be at *;go_wp2_with (go_at_call 106;refine aw.mono ?_;rintro y bM ⟨rfl,au⟩);go_roundw
    case rel=>exact⟨a+1,oA,oM,e.trans (au.mono e.size),fun j a2 aK=>by
     rcases jM j a with B | B
     ·exact ah.out j a2 B
     ·have:j=a:=oA;subst this
      exact R.out⟩
    case measure=>simp[intOf];omega
   ·have R:Hid (c.any xU=H):=zno C a9;clear a9;generalize c[a].params.length=pn at *;generalize c[a].name=b9 at *;generalize c[a].pub=ba at *;generalize c[a].writes=bb at *;generalize c[a].gives=bc at *;generalize c[a].given=be at *;go_wp2_with (go_at_call 106;refine aw.mono ?_;rintro y bM ⟨rfl,au⟩);go_ret;exact⟨(a:Int),rfl,by rw[R.out];simp,e.trans (au.mono e.size)⟩
  ·have R:Hid (c.any xU=X):=any_none (fun j a2=>ah.out j a2 oA);clear ah;go_wp2;go_ret;exact⟨-1,rfl,by rw[R.out];rfl,e⟩
theorem zuc (a:List ProcD) (v:Zv) (w:Zw) (e:bL w v a) : Calls prog 105 #[v,.func (.func 106) #[] #[]] w fun b w'=>b=.returned (Y (a.any xU))/\Below w.heap.size w w':=by
 have f:=zzz a v w e;obtain⟨i,j,rfl⟩:∃c d,v=J c a.length d:=by obtain⟨c,d,b,_⟩:=e;exact⟨c,d,b⟩
 generalize a.any xU=h at *;go_enter func105,ntmps105;go_wp2_with (fail);refine f.mono ?_;rintro b w1 ⟨k,rfl,hi,g⟩;go_wp2;go_ret;exact⟨by rw[<- hi];rfl,g⟩
def MnE (w:Zw) (xs:List ByteArray) (e:Ending) (w':Zw):Prop :=
 Below w.heap.size w w'/\((∃t,uG xs=Z t/\e=.panicked (fI t))\/(uG xs=none/\e=.returned (.tuple #[])))
theorem cB {L:List MD} {xs:List ByteArray} (a:L.map (·.x)=xs):xs.map nameOf=kM L:=by
 rw[<- a];simp[kM]
theorem zck {L:List MD} {xs:List ByteArray} (a:L.map (·.x)=xs):(xs.map fun b=>(tx b).I)=zR L:=by
 rw[<- a];simp[zR]
theorem at_is {L:List MD} {xs:List ByteArray} (b:L.map (·.x)=xs) (hi:f<L.length) (a:ByteArray):xs.getD f a=L[f].x:=by
 rw[<- b];simp[hi]
theorem zv4 (D:Nat) (mv:Zv) (L:List MD) (xs:List ByteArray) (o:L.map (·.x)=xs) (B:L.length<=6) (w:Zw) (d:PS w D mv L L.length (qI (kM L))) : Calls prog 61 #[Zp (Z (A (D+1) 0 none))] w (MnE w xs):=by
 have y:=kc173;have v:prog.cellsOf 55=3:=xW;have C:=d.box.cell 0 rfl;have E:=d.box.cell 1 rfl;have n:=zf8 d.map ⟨#[109,97,105,110]⟩ (by unfold maxLen;decide)
 have b:Hid (uG xs=match qI (kM L) ⟨#[109,97,105,110]⟩ with
   | none=>Z (0,4,0)
   | some a=>if(tx (xs.getD a ⟨#[]⟩)).F.procs.any xU then none else Z (0,4,0)):=by
  show _=_;unfold uG;rw[cB o];cases qI (kM L) ⟨#[109,97,105,110]⟩<;>rfl
 cases j:qI (kM L) ⟨#[109,97,105,110]⟩ with
 | none =>
  rw[j]at n b;go_enter func61,ntmps61;go_wp2_with (go_at_call 98;refine(oRefuse _ _ _ _).mono ?_;rintro c r ⟨rfl,m⟩;obtain rfl:=m.symm)
  exact⟨rfl,Below.refl _ _,.inl ⟨_,b.out,rfl⟩⟩
 | some a =>
  obtain⟨hi,_⟩:=zcm j;have k:a<L.length:=by simpa[kM] using hi
  rw[j]at n b
  replace b:Hid (uG xs=if(tx L[a].x).F.procs.any xU then none else Z (0,4,0)):=by
   show _=_;rw[b.out];show(if(tx (xs.getD a ⟨#[]⟩)).F.procs.any xU then none else Z (0,4,0))=_;rw[at_is o k]
  obtain⟨z,G,rfl⟩:=d.slot oA;obtain⟨_,_,_,N,_⟩:=d.at a k;obtain⟨⟨P,p,e,t,l⟩,_,_⟩:=d.md (jH k);unfold fvV MD.q at e;injection e with e;simp only[List.toArray_eq_toArray_eq,Array.mk.injEq,jq,and_true]at e;obtain⟨_,_,rfl⟩:=e;have i:=zuc _ _ _ l;change Calls prog _ _ _ (fun c w'=>c=.returned (Y ((tx L[a].x).F.procs.any xU))/\_)at i;generalize (tx L[a].x).F.procs.any xU=s at *;generalize L[a].pv=p at *;obtain⟨K,pn,M,rfl⟩:∃f u g,p=J f u g:=by obtain⟨f,g,c,_⟩:=l;exact⟨f,_,g,c⟩
  clear l t;cases s
  ·go_enter func61,ntmps61
   go_wp2_with first
    | (go_at_call 105;refine i.mono ?_;rintro c r ⟨rfl,h⟩)
    | (go_at_call 98;refine(oRefuse _ _ _ _).mono ?_;rintro c Q ⟨rfl,m⟩;obtain rfl:=m.symm)
   exact⟨rfl,h,.inl ⟨_,b.out,rfl⟩⟩
  ·go_enter func61,ntmps61;go_wp2_with (go_at_call 105;refine i.mono ?_;rintro c r ⟨rfl,h⟩)
   go_end0
   exact⟨h,.inr ⟨b.out,rfl⟩⟩
def qOf (L:List MD) (d:MD) (y:ByteArray):FV:=(L.getD (qX (kM L) y) d).q
theorem ybi {L:List MD} {xs:List ByteArray} (c:L.map (·.x)=xs) (a:MD):((tx a.x).I.map (qOf L a)).map (·.1)=xK xs a.x:=by
 unfold xK;rw[List.map_map];apply List.map_congr_left;intro d e
 have key:∀b,(L.getD b a).x=xs.getD b a.x:=fun b=>by
  subst c;simp only[List.getD_eq_getElem?_getD,List.getElem?_map];cases L[b]?<;>rfl
 show(tx (L.getD (qX (kM L) d) a).x).F=_;rw[cB c,key]
theorem zvb {w:Zw} {b:Nat} {d:Zv} {c:List FV} (a:w.ownsRow b 55 3 d c.length (vM c)) (r:c.length<=900) (i:∀q∈c,zP w (fvV q) q.1/\q.1.module.size<=16):cD w d c:=by
 rcases a.2 with⟨rfl,f⟩|⟨e,g,n,rfl,_,_,o,p,_⟩
 ·exact⟨none,0,by rw[f],oA,fun a=>absurd (List.eq_nil_of_length_eq_zero f) a⟩
 ·refine⟨Z (A e 0 none),g,rfl,oA,fun _=>⟨e,0,rfl,fun j hi=>?_⟩⟩;obtain⟨k,l,m⟩:=ziz c j hi;obtain⟨h,s⟩:=i _ (jH hi);simp only[Nat.zero_add];exact⟨by rw[a.cellAt _ oA];exact k,by rw[a.cellAt _ oA];exact l,by rw[a.cellAt _ oA];exact m,h,by unfold maxLen;omega⟩
theorem zsi (a:List FV) (q:FV):vM (a++[q])=vM a++zew q:=by simp[vM]
def ImE (w:Zw) (L:List MD) (d:MD) (e:Ending) (w':Zw):Prop :=
 ∃a,e=.returned a/\cD w' a ((tx d.x).I.map (qOf L d))/\Below w.heap.size w w'
theorem oImported (D:Nat) (mv:Zv) (L:List MD) (w:Zw) (aO:PS w D mv L L.length (qI (kM L))) (bX:L.length<=6) (d:MD) (aa:yI w d) (aQ:∀Q∈(tx d.x).I,kJ (kM L) Q=H) : Calls prog 104 #[Zp (Z (A (D+1) 0 none)),Za #[.string d.x,.string (nameOf d.x),d.vv,d.pv,d.iv]] w (ImE w L d):=by
 have bR:=kc173;have bP:prog.cellsOf 55=3:=xW;obtain⟨bG,hi,bB,bC,bF⟩:=info_parts ycq;obtain⟨bw,c8⟩:=zg2 aa.2.2;obtain⟨aG,aD,aH,a5,aE,a6,P,af,a7,a8,am⟩:=aa.shape;have aB:zH w d.iv (tx d.x).I:=aa.2.1;unfold ImE;generalize aA:(tx d.x).I.map (qOf L d)=x;have br:x.length=(tx d.x).I.length:=by rw[<- aA];simp
 have bu:∀a (B:a<(tx d.x).I.length),x[a]?=Z (qOf L d (tx d.x).I[a]):=fun a B=>by rw[<- aA];simp[B]
 rw[am]at aB;rw[a7,a8,am];clear aa a7 a8 am;generalize (tx d.x).I=k at *;generalize nameOf d.x=aF at *;generalize d.x=aI at *;have ap:=(Below.refl w.heap.size w).alloc (jE _) (Zc #[.string aI,.string aF,J aG aD aH,J a5 aE a6,J P k.length af] 173);obtain⟨b,bm⟩:∃b,b=w.heap.size+1:=⟨_,rfl⟩
 have ad:(w.alloc (Zc #[.string aI,.string aF,J aG aD aH,J a5 aE a6,J P k.length af] 173)).heap.size=b:=by rw[bm];simp
 have W:=aO.below ap;have aU:=xN aB ap;go_enter func104,ntmps104;go_wp2;generalize c6:w.alloc (Zc #[.string aI,.string aF,J aG aD aH,J a5 aE a6,J P k.length af] 173)=b2 at *;go_loopw [5,11] (fun bf i wr=>∃(a:Nat) (G:Option Addr) (K:Nat),a<=k.length/\i=U O a/\bf=J G a K/\wr.ownsRow b 55 3 (J G a K) a (vM (x.take a))/\Below b b2 wr) (fun _ i _=>k.length - (intOf i).toNat)
 case atStart=>exact⟨0,none,0,jz _,rfl,rfl,World.ownsRow_nil _ _ _ _,Below.refl _ _⟩
 case round =>
  obtain⟨a,G,K,bp,rfl,rfl,u,e⟩:=hrel;by_cases C:a<k.length
  ·obtain⟨l,o,rfl,av⟩:∃l o,P=Z (A l o none)/\wr.cell? (A l (o+a) none)=Z (.string k[a]):=by
    obtain⟨b6,b7,aJ,_,aR⟩:=xN aU (by rw[ad];exact e);exact zmy
   have aV:=aQ _ (jH C);have cb:=bw _ (jH C);obtain⟨g,ay,ax,ab⟩:=zan aV;have N:g<L.length:=by simpa[kM] using ax
   have az:=bu a C;have ac:qOf L d k[a]=L[g].q:=by unfold qOf;rw[ab];simp[N]
   rw[ac]at az;obtain⟨z,ag,rfl⟩:=W.slot oA;have M:=W.below (by rw[ad];exact e);have a3:=M.md (jH N);obtain⟨s,m,t,p,n,r,_,_,an,ao,_⟩:=a3.shape
   have bj:∀h,PS h D (J (Z (A z 0 none)) L.length ag) L L.length (qI (kM L))->h.cell? (A z (g*5+1) none)=Z (.string (nameOf L[g].x))/\h.cell? (A z (g*5+2) none)=Z (J s m t)/\h.cell? (A z (g*5+3) none)=Z (J p n r):=fun h ar=>by
    obtain⟨_,aK,aL,aM,_⟩:=ar.at g N;rw[an]at aL;rw[ao]at aM;exact⟨aK,aL,aM⟩
   have bq:∀h,PS h D (J (Z (A z 0 none)) L.length ag) L L.length (qI (kM L))->(Instr.lookup 118 (.map (Z D)) (.string k[a]) X).run prog h=.ok (U O (g:Int)) h:=fun h ar=>by
    have:=zlx ar.map k[a] (by unfold maxLen;omega);rw[ay]at this;exact this
   have b0:Hid (vM (x.take (a+1))=vM (x.take a)++[.string (nameOf L[g].x),J s m t,J p n r]):=by
    show _=_;rw[List.take_add_one,az];show vM (x.take a++[L[g].q])=_;rw[zsi];unfold zew MD.q;rw[an,ao];rfl
   clear az ac a3 an ao aV ab ay;generalize k[a]=Q at *;generalize nameOf L[g].x=nq at *;go_wp2;have f:=M.below (Below.refl wr.heap.size wr).drew;replace u:=u.drew;replace e:=e.drew;refine wp_region_held_drew (S:=fun h=>PS h D (J (Z (A z 0 none)) L.length ag) L L.length (qI (kM L))) oB f (fun T=>?_);clear T M av;generalize wr.drew=h at *;refine tkR 0 (J G a K) f ?_;simp only[jA,jB,jC];refine tkR 1 (Zp (Z (A (D+1) 0 none))) f ?_;simp only[jA,jB,jC];refine tkR 2 (Zp (Z (A (D+1) 0 none))) f ?_;simp only[jA,jB,jC];refine tkR 3 (Zp (Z (A (D+1) 0 none))) f ?_;simp only[jA,jB,jC];refine tkS (i:=4) (v:=J (Z (A z 0 none)) L.length ag) rfl rfl (Or.inl ⟨oG,fun w E=>by have aY:=E.box.cell 0 rfl;go_simp⟩) f ?_;simp only[jA,jB,jC];refine tkR 5 (Zp (Z (A (D+1) 0 none))) f ?_;simp only[jA,jB,jC];refine tkR 6 (Zp (Z (A (D+1) 0 none))) f ?_;simp only[jA,jB,jC];refine tkR 7 (Zp (Z (A (D+1) 1 none))) f ?_;simp only[jA,jB,jC];refine tkS (i:=8) (v:=.map (Z D)) rfl rfl (Or.inl ⟨oG,fun w E=>by have aY:=E.box.cell 1 rfl;go_simp⟩) f ?_;simp only[jA,jB,jC];refine tkR 9 (.string Q) f ?_;simp only[jA,jB,jC];refine tkS (i:=10) (v:=U O (g:Int)) rfl rfl (Or.inl ⟨oG,fun w E=>by have aY:=bq w E;go_simp⟩) f ?_;simp only[jA,jB,jC];refine tkR 11 (Zp (Z (A z (g*5) none))) f ?_;simp only[jA,jB,jC];refine tkR 12 (Zp (Z (A z (g*5+1) none))) f ?_;simp only[jA,jB,jC];refine tkS (i:=13) (v:=Za #[.string nq,J s m t,J p n r] ) rfl rfl (Or.inl ⟨oG,fun w E=>by obtain⟨cj,ck,cm⟩:=bj w E;go_simp⟩) f ?_;simp only[jA,jB,jC];refine oneH 14 fun ai V=>?_
   go_simp;have bv:∀j i,[Value.string nq,J s m t,J p n r][j]?=Z i->(h.alloc (Zc #[.string nq,J s m t,J p n r] 55)).cell? (((A h.heap.size 0 none):Addr).add j)=Z i:=zZ _ #[.string nq,J s m t,J p n r] _ _ rfl;have bz:h.heap.size+1=(h.alloc (Zc #[.string nq,J s m t,J p n r] 55)).heap.size:=oC;replace e:=e.alloc (by have:=e.size;omega) (Zc #[.string nq,J s m t,J p n r] 55);replace f:=f.below (bal (Zc #[.string nq,J s m t,J p n r] 55));replace u:=u.alloc (Zc #[.string nq,J s m t,J p n r] 55);refine V.out _ _ f (fun T=>?_);clear V ai T;generalize h.alloc (Zc #[.string nq,J s m t,J p n r] 55)=bN at *;generalize h.heap.size=aX at *;refine oneH 15 fun ai V=>?_
   refine step_append_lies _ oG (.tmp 15) (.tmp 29) 22 oG b 55 bG (Za #[.string ⟨#[]⟩,J none 0 0,J none 0 0]) 3 64 underlying22 hi bB bC bF rfl oD (J G a K) a (vM (x.take a)) oJ u (A aX 0 none) 1 1 [.string nq,J s m t,J p n r] oJ rfl bv (by intro i ae;simp at ae;rcases ae with rfl | rfl | rfl<;>rfl) oA (by unfold maxLen;omega) oA (by have:=e.size;omega) (aX+1) bz.symm ?_;intro bh b8 ci aS bn c7 ca;rw[<- b0.out]at aS;have aN:=e.grown bn (by have:=e.size;omega) (fun j y=>(u.lt _ y).1);have aP:=W.below (by rw[ad];exact aN);clear u e f;refine V.out _ _ aP (fun T=>?_);clear V ai T;have f:=aP;rw[gL (d:=30)];rotate_left;·rfl
   simp only[jA,jB,jC];refine tkR 16 (J (Z (A bh 0 none)) (a+1) b8) f ?_;simp only[jA,jB,jC];refine wpAnyH_done oB ?_ _;go_wp2;go_roundw
   case rel=>exact⟨a+1,_,_,oA,oM,oM,aS,aN⟩
   case measure=>simp[intOf];omega
  ·have bo:a=k.length:=oA;have bs:x.take a=x:=by rw[jG oA]
   rw[bs]at u;have bi:Below w.heap.size w wr:=ap.trans (e.mono oA);have M:=W.below (by rw[ad];exact e)
   have aZ:Hid (cD wr (J G a K) x):=zvb (by rw[br,<- bo];exact u) oA (fun q aT=>by
    rw[<- aA]at aT;obtain⟨Q,bA,rfl⟩:=List.mem_map.1 aT;obtain⟨g,ay,ax,ab⟩:=zan (aQ Q bA);have N:g<L.length:=by simpa[kM] using ax
    have ac:qOf L d Q=L[g].q:=by unfold qOf;rw[ab];simp[N]
    rw[ac];have a3:=M.md (jH N)
    exact⟨a3.1,a3.small⟩)
   clear u e M aO W aB aU;go_wp2;go_ret;exact⟨_,rfl,aZ.out,bi⟩
theorem zu7 {xs:List ByteArray} {t:List Nat} (a:f<t.length):yU xs (t.drop f)=if(ckF (xs.getD t[f] ⟨#[]⟩) (xK xs (xs.getD t[f] ⟨#[]⟩)) (tx (xs.getD t[f] ⟨#[]⟩)).m (tx (xs.getD t[f] ⟨#[]⟩)).K).1≠0 then Z ((t[f]:Int),(ckF (xs.getD t[f] ⟨#[]⟩) (xK xs (xs.getD t[f] ⟨#[]⟩)) (tx (xs.getD t[f] ⟨#[]⟩)).m (tx (xs.getD t[f] ⟨#[]⟩)).K).1,(ckF (xs.getD t[f] ⟨#[]⟩) (xK xs (xs.getD t[f] ⟨#[]⟩)) (tx (xs.getD t[f] ⟨#[]⟩)).m (tx (xs.getD t[f] ⟨#[]⟩)).K).2)else yU xs (t.drop (f+1)):=by
 rw[List.drop_eq_getElem_cons a];rfl
def ChE (w:Zw) (xs:List ByteArray) (t:List Nat) (e:Ending) (w':Zw):Prop :=
 Below w.heap.size w w'/\((∃r,yU xs t=Z r/\e=.panicked (fI r))\/(yU xs t=none/\e=.returned (.tuple #[])))
theorem gM {w w':Zw} {m:ByteArray} {g:Int × Int} {v:Zv} (k:g.1=0->Lies (fun b=>w.heap.size<=b/\b<w'.heap.size) w' (parse m).tree v) (l:g.1≠0->v=zhc):∃d h e a f c,v=Za #[U O d,.string h,U O e,J a f c]:=by
 by_cases i:g.1=0;·obtain⟨d,h,e,a,f,c,j⟩:=lies_shape (k i);exact⟨d,h,e,a,f,c,j⟩
 ·exact⟨_,_,_,_,_,_,l i⟩
theorem zbe {N a:Nat} {w b:Zw} (c:Below N w b) (e:N<a) (d:Nat) (v:Zv):Below N w (b.setCell (A a d none) v):=c.setCell (show N<=a by omega) v
theorem ydv (D:Nat) (mv:Zv) (L:List MD) (xs:List ByteArray) (ba:L.map (·.x)=xs) (bz:L.length<=6) (bw:0<L.length) (w:Zw) (bA:gQ w) (b1:PS w D mv L L.length (qI (kM L))) (bB:∀m∈L,∀y∈(tx m.x).I,kJ (kM L) y=H) (t:List Nat) (b8:Tk L.length t) (tv:Zv) (aY:fM w tv t) : Calls prog 60 #[Zp (Z (A (D+1) 0 none)),tv] w (ChE w xs t):=by
 have c9:=kc173;have c8:prog.cellsOf 55=3:=xW;have c7:=kc28;have c6:=kc25;have cc:∀w:Zw,(zeroValue 25).run prog w=.ok (Za #[U O 0,.string ⟨#[]⟩,U O 0,J none 0 0]) w:=fun _=>oB
 have cb:=b8.len;obtain⟨ax,bM,rfl⟩:=b1.slot bw;obtain⟨bN,bq,rfl⟩:∃W a2,tv=J W t.length a2:=by obtain⟨W,a2,R,_⟩:=aY;exact⟨W,a2,R⟩
 go_enter func60,ntmps60;go_wp2;go_loopw [11] (fun aV wr=>∃a5:Nat,a5<=t.length/\aV=U O a5/\Below w.heap.size w wr/\Hid (yU xs (t.drop a5)=yU xs t)) (fun aV _=>t.length - (intOf aV).toNat)
 case atStart=>exact⟨0,jz _,rfl,Below.refl _ _,rfl⟩
 case round =>
  obtain⟨a5,ca,rfl,ar,aJ⟩:=hrel;by_cases az:a5<t.length
  ·obtain⟨gt,rfl,b2⟩:∃ax,bN=Z (A ax 0 none)/\wr.cell? (A ax a5 none)=Z (U O (t[a5]:Int)):=by
    obtain⟨aL,bX,br,bC⟩:=aY.below ar;obtain⟨bv,aw,aQ⟩:=bC (by intro R;rw[R]at az;simp at az);injection br with av;exact⟨bv,av.trans aw,aQ a5 az⟩
   have aK:=show Hid _ from zu7 (xs:=xs) az
   have hi:t[a5]<L.length:=b8.lt _ (jH az);generalize t[a5]=s at *;have ay:=b1.below ar;have aX:=vZ bA ar;rw[at_is ba hi]at aK;obtain⟨bo,bp,aS,aT,aU⟩:=ay.at s hi;have aR:=ay.md (jH hi);have b6:=bB _ (jH hi);obtain⟨ai,ae,aj,ag,af,ah,ab,ac,av,aw,aM⟩:=aR.shape
   have ao:∀a6,Below wr.heap.size wr a6->Calls prog 104 #[Zp (Z (A (D+1) 0 none)),Za #[.string L[s].x,.string (nameOf L[s].x),J ai ae aj,J ag af ah,J ab (tx L[s].x).I.length ac]] a6 (ImE a6 L L[s]):=fun a6 aF=>by
    have:=oImported D _ L a6 (ay.below aF) bz L[s] (aR.mono fun W v aQ=>keep aQ aF) b6;rw[av,aw,aM]at this;exact this
   have a9:∀a6 a7,Below wr.heap.size wr a6->cD a6 a7 ((tx L[s].x).I.map (qOf L L[s]))->Calls prog 7 #[.string L[s].x,a7] a6 (za5 a6 L[s].x (ckF L[s].x (xK xs L[s].x) (tx L[s].x).m (tx L[s].x).K)):=fun a6 a7 aF p=>by
    have:=ybn L[s].x _ a7 (tx L[s].x).m (tx L[s].x).K a6 (vZ aX aF) p (txo L[s].x).shp;rw[ybi ba L[s]]at this;exact this
   rw[av]at aS;rw[aw]at aT;rw[aM]at aU;have aW:=ay.box.cell 0 rfl;clear aR av aw aM b6 ay aX;unfold ImE at ao;generalize (tx L[s].x).I.map (qOf L L[s])=cd at *;generalize (tx L[s].x).I.length=am at *;generalize nameOf L[s].x=an at *;generalize ckF L[s].x (xK xs L[s].x) (tx L[s].x).m (tx L[s].x).K=h at *;generalize L[s].x=ak at *;generalize b0:wr.heap.size=N at *;have a:BoxC (wr.alloc (Zc #[.string ak,.string an,J ai ae aj,J ag af ah,J ab am ac] 173)).drew N #[.string ak,.string an,J ai ae aj,J ag af ah,J ab am ac] 173:=b0▸(BoxC.new wr #[.string ak,.string an,J ai ae aj,J ag af ah,J ab am ac] 173).below (Below.refl _ _).drew;have d:Below N wr (wr.alloc (Zc #[.string ak,.string an,J ai ae aj,J ag af ah,J ab am ac] 173)).drew:=((Below.refl N wr).alloc (Nat.le_of_eq b0.symm) (Zc #[.string ak,.string an,J ai ae aj,J ag af ah,J ab am ac] 173)).drew;go_wp2
   refine wp_mono (Q:=fun R aL w'=>match R with
    | .normal=>∃(M P:Nat) (bb bc be bf bg bh bi bj bm bn:Zv),N<=M/\N<=P/\aL={ tmps:=#[Zp (Z (A (D+1) 0 none)),J (Z (A gt 0 none)) t.length bq,undef,undef,undef,U O s,Zp (Z (A N 0 none)),Zp (Z (A M 0 none)),Zp (Z (A P 0 none)),J (Z (A gt 0 none)) t.length bq,U O t.length,U O a5,Y H,Zp (Z (A gt a5 none)),U O s,Zp (Z (A (D+1) 0 none)),Zp (Z (A (D+1) 0 none)),Zp (Z (A (D+1) 0 none)),J (Z (A ax 0 none)) L.length bM,U O s,Zp (Z (A ax (s*5) none)),bb,bc,be,bf,bg,bh,bi,bj,bm,bn,u31,u32,u33,u34,u35,u36,u37,u38,u39,u40],defers:=[] }/\BoxC w' P #[U O h.1,U O h.2] 28/\Below N wr w'
    | _=>False) ?_ ?_
   rotate_left
   ·clear ao a9 a d bo bp aS aT aU b2 aW;rintro R aL w' b7
    cases R with
    | normal =>
     obtain⟨M,P,bb,bc,be,bf,bg,bh,bi,bj,bm,bn,T,V,rfl,j,d⟩:=b7;have b9:Below w.heap.size w w':=ar.trans (d.mono (by have:=ar.size;omega));have aG:=j.cell 0 rfl;have aH:=j.cell 1 rfl;by_cases au:h.1=0
     ·have bG:(h.1 != 0)=X:=by simp[au]
      have aI:Hid (yU xs (t.drop (a5+1))=yU xs t):=by
       show _=_;rw[<- aJ.out,aK.out,ju (by simp[au])]
      clear au;go_wp2;go_roundw
      case rel=>exact⟨a5+1,oA,oM,b9,aI⟩
      case measure=>simp[intOf];omega
     ·have bG:(h.1 != 0)=H:=by simp[au]
      have aI:Hid (yU xs t=Z ((s:Int),h.1,h.2)):=by
       show _=_;rw[<- aJ.out,aK.out,jv au]
      clear au;go_wp2_with (go_at_call 98;refine(oRefuse _ _ _ _).mono ?_;rintro R ce ⟨rfl,bK⟩;obtain rfl:=bK.symm)
      exact⟨rfl,b9,.inl ⟨_,aI.out,rfl⟩⟩
    | _=>exact b7.elim
   refine wp_region_held_drew (S:=fun a6=>BoxC a6 N #[.string ak,.string an,J ai ae aj,J ag af ah,J ab am ac] 173) oB a (fun e=>?_);clear e bo bp aS aT aU b2 aW;generalize (wr.alloc (Zc #[.string ak,.string an,J ai ae aj,J ag af ah,J ab am ac] 173)).drew=a8 at *;refine tkR 0 (Zp (Z (A N 0 none))) a ?_;simp only[jA,jB,jC];refine tkS (i:=1) (v:=.string ak) rfl rfl (Or.inl ⟨oG,fun w ap=>by have cf:=ap.cell 0 rfl;go_simp⟩) a ?_;simp only[jA,jB,jC];refine tkR 2 (Zp (Z (A (D+1) 0 none))) a ?_;simp only[jA,jB,jC];refine tkS (i:=3) (v:=Za #[.string ak,.string an,J ai ae aj,J ag af ah,J ab am ac] ) rfl rfl (Or.inl ⟨oG,fun w ap=>by have aW:=ap.cell 0 rfl;have cg:=ap.cell 1 rfl;have ch:=ap.cell 2 rfl;have ci:=ap.cell 3 rfl;have cj:=ap.cell 4 rfl;go_simp⟩) a ?_;simp only[jA,jB,jC];refine wpAnyH_ready (rs:=[4,9,10]) oB oC ?_;refine(AllReadyH.cons rfl (fun f b=>?_) (AllReadyH.cons rfl (fun f b=>?_) (AllReadyH.cons rfl (fun f b=>?_) AllReadyH.nil)));go_simp;go_at_call 104;refine(ao a8 d).mono ?_;rintro R C ⟨a7,rfl,p,c⟩;obtain⟨aB,aD,aC,rfl⟩:∃W ad a2,a7=J W ad a2:=zcf;replace d:=d.trans (c.mono vG);replace a:=a.below c;go_wp2;refine b.out _ _ a (fun e=>?_);clear b f e c;refine wpAnyH_ready (rs:=[5,9,10]) oB oC ?_;refine(AllReadyH.cons rfl (fun f b=>?_) (AllReadyH.cons rfl (fun f b=>?_) (AllReadyH.cons rfl (fun f b=>?_) AllReadyH.nil)));go_simp;go_at_call 7;refine(a9 C _ d p).mono ?_;rintro R i ⟨v,rfl,E,G,c⟩;obtain⟨u,B,z,q,x,r,rfl⟩:=gM E G;clear E G p;replace d:=d.trans (c.mono vG);replace a:=a.below c;go_wp2;refine b.out _ _ a (fun e=>?_);clear b f e c;refine tkR 6 (.tuple #[Za #[U O u,.string B,U O z,J q x r],Za #[U O h.1,U O h.2] ] ) a ?_;simp only[jA,jB,jC];refine tkR 7 (Za #[U O u,.string B,U O z,J q x r] ) a ?_;simp only[jA,jB,jC];refine tkR 8 (Za #[U O h.1,U O h.2] ) a ?_;simp only[jA,jB,jC];refine wpAnyH_ready (rs:=[9,10]) oB oC ?_;refine(AllReadyH.cons rfl (fun f b=>?_) (AllReadyH.cons rfl (fun f b=>?_) AllReadyH.nil));go_simp;have k:=BoxC.new i #[U O 0,.string ⟨#[]⟩,U O 0,J none 0 0] 25;have T:N<i.heap.size:=a.lt;replace d:=d.alloc (ji T) (Zc #[U O 0,.string ⟨#[]⟩,U O 0,J none 0 0] 25);replace a:=a.alloc (Zc #[U O 0,.string ⟨#[]⟩,U O 0,J none 0 0] 25);have l:i.heap.size<(i.alloc (Zc #[U O 0,.string ⟨#[]⟩,U O 0,J none 0 0] 25)).heap.size:=oC;refine b.out _ _ a (fun e=>?_);clear b f e;generalize i.alloc (Zc #[U O 0,.string ⟨#[]⟩,U O 0,J none 0 0] 25)=g at *;generalize i.heap.size=M at *;refine wpAnyH_ready (rs:=[10]) oB oC ?_;refine(AllReadyH.cons rfl (fun f b=>?_) AllReadyH.nil);go_simp;have j:=BoxC.new g #[U O 0,U O 0] 28;have V:N<g.heap.size:=a.lt;replace d:=d.alloc (ji V) (Zc #[U O 0,U O 0] 28);replace k:=k.alloc (Zc #[U O 0,U O 0] 28);have a3:M≠g.heap.size:=Nat.ne_of_lt l;replace a:=a.alloc (Zc #[U O 0,U O 0] 28);have n:g.heap.size<(g.alloc (Zc #[U O 0,U O 0] 28)).heap.size:=oC;replace l:M<(g.alloc (Zc #[U O 0,U O 0] 28)).heap.size:=oE;refine b.out _ _ a (fun e=>?_);clear b f e;generalize g.alloc (Zc #[U O 0,U O 0] 28)=aa at *;generalize g.heap.size=P at *;rotate_left;go_simp;have j:=BoxC.new i #[U O 0,U O 0] 28;have V:N<i.heap.size:=a.lt;replace d:=d.alloc (ji V) (Zc #[U O 0,U O 0] 28);replace a:=a.alloc (Zc #[U O 0,U O 0] 28);have n:i.heap.size<(i.alloc (Zc #[U O 0,U O 0] 28)).heap.size:=oC;refine b.out _ _ a (fun e=>?_);clear b f e;generalize i.alloc (Zc #[U O 0,U O 0] 28)=g at *;generalize i.heap.size=P at *;refine wpAnyH_ready (rs:=[9]) oB oC ?_;refine(AllReadyH.cons rfl (fun f b=>?_) AllReadyH.nil);go_simp;have k:=BoxC.new g #[U O 0,.string ⟨#[]⟩,U O 0,J none 0 0] 25;have T:N<g.heap.size:=a.lt;replace d:=d.alloc (ji T) (Zc #[U O 0,.string ⟨#[]⟩,U O 0,J none 0 0] 25);replace j:=j.alloc (Zc #[U O 0,.string ⟨#[]⟩,U O 0,J none 0 0] 25);have a3:g.heap.size≠P:=(Nat.ne_of_lt n).symm;replace a:=a.alloc (Zc #[U O 0,.string ⟨#[]⟩,U O 0,J none 0 0] 25);have l:g.heap.size<(g.alloc (Zc #[U O 0,.string ⟨#[]⟩,U O 0,J none 0 0] 25)).heap.size:=oC;replace n:P<(g.alloc (Zc #[U O 0,.string ⟨#[]⟩,U O 0,J none 0 0] 25)).heap.size:=oE;refine b.out _ _ a (fun e=>?_);clear b f e;generalize g.alloc (Zc #[U O 0,.string ⟨#[]⟩,U O 0,J none 0 0] 25)=aa at *;generalize g.heap.size=M at *;rotate_left;go_simp;have k:=BoxC.new C #[U O 0,.string ⟨#[]⟩,U O 0,J none 0 0] 25;have T:N<C.heap.size:=a.lt;replace d:=d.alloc (ji T) (Zc #[U O 0,.string ⟨#[]⟩,U O 0,J none 0 0] 25);replace p:=p.below (bal (Zc #[U O 0,.string ⟨#[]⟩,U O 0,J none 0 0] 25));replace a:=a.alloc (Zc #[U O 0,.string ⟨#[]⟩,U O 0,J none 0 0] 25);have l:C.heap.size<(C.alloc (Zc #[U O 0,.string ⟨#[]⟩,U O 0,J none 0 0] 25)).heap.size:=oC;refine b.out _ _ a (fun e=>?_);clear b f e;generalize C.alloc (Zc #[U O 0,.string ⟨#[]⟩,U O 0,J none 0 0] 25)=i at *;generalize C.heap.size=M at *;refine wpAnyH_ready (rs:=[5,10]) oB oC ?_;refine(AllReadyH.cons rfl (fun f b=>?_) (AllReadyH.cons rfl (fun f b=>?_) AllReadyH.nil));go_simp;go_at_call 7;refine(a9 i _ d p).mono ?_;rintro R g ⟨v,rfl,E,G,c⟩;obtain⟨u,B,z,q,x,r,rfl⟩:=gM E G;clear E G p;replace d:=d.trans (c.mono vG);replace a:=a.below c;replace k:=k.below c;replace l:=jo l c.size;go_wp2;refine b.out _ _ a (fun e=>?_);clear b f e c;refine tkR 6 (.tuple #[Za #[U O u,.string B,U O z,J q x r],Za #[U O h.1,U O h.2] ] ) a ?_;simp only[jA,jB,jC];refine tkR 7 (Za #[U O u,.string B,U O z,J q x r] ) a ?_;simp only[jA,jB,jC];refine tkR 8 (Za #[U O h.1,U O h.2] ) a ?_;simp only[jA,jB,jC];refine wpAnyH_ready (rs:=[10]) oB oC ?_;refine(AllReadyH.cons rfl (fun f b=>?_) AllReadyH.nil);go_simp;have j:=BoxC.new g #[U O 0,U O 0] 28;have V:N<g.heap.size:=a.lt;replace d:=d.alloc (ji V) (Zc #[U O 0,U O 0] 28);replace k:=k.alloc (Zc #[U O 0,U O 0] 28);have a3:M≠g.heap.size:=Nat.ne_of_lt l;replace a:=a.alloc (Zc #[U O 0,U O 0] 28);have n:g.heap.size<(g.alloc (Zc #[U O 0,U O 0] 28)).heap.size:=oC;replace l:M<(g.alloc (Zc #[U O 0,U O 0] 28)).heap.size:=oE;refine b.out _ _ a (fun e=>?_);clear b f e;generalize g.alloc (Zc #[U O 0,U O 0] 28)=aa at *;generalize g.heap.size=P at *;rotate_left;go_simp;have j:=BoxC.new i #[U O 0,U O 0] 28;have V:N<i.heap.size:=a.lt;replace d:=d.alloc (ji V) (Zc #[U O 0,U O 0] 28);replace p:=p.below (bal (Zc #[U O 0,U O 0] 28));replace k:=k.alloc (Zc #[U O 0,U O 0] 28);have a3:M≠i.heap.size:=Nat.ne_of_lt l;replace a:=a.alloc (Zc #[U O 0,U O 0] 28);have n:i.heap.size<(i.alloc (Zc #[U O 0,U O 0] 28)).heap.size:=oC;replace l:M<(i.alloc (Zc #[U O 0,U O 0] 28)).heap.size:=oE;refine b.out _ _ a (fun e=>?_);clear b f e;generalize i.alloc (Zc #[U O 0,U O 0] 28)=g at *;generalize i.heap.size=P at *;refine wpAnyH_ready (rs:=[5]) oB oC ?_;refine(AllReadyH.cons rfl (fun f b=>?_) AllReadyH.nil);go_simp;go_at_call 7;refine(a9 g _ d p).mono ?_;rintro R aa ⟨v,rfl,E,G,c⟩;obtain⟨u,B,z,q,x,r,rfl⟩:=gM E G;clear E G p;replace d:=d.trans (c.mono vG);replace a:=a.below c;replace k:=k.below c;replace l:=jo l c.size;replace j:=j.below c;replace n:=jo n c.size;go_wp2;refine b.out _ _ a (fun e=>?_);clear b f e c;refine tkR 6 (.tuple #[Za #[U O u,.string B,U O z,J q x r],Za #[U O h.1,U O h.2] ] ) a ?_;simp only[jA,jB,jC];refine tkR 7 (Za #[U O u,.string B,U O z,J q x r] ) a ?_;simp only[jA,jB,jC];refine tkR 8 (Za #[U O h.1,U O h.2] ) a ?_;simp only[jA,jB,jC];rotate_left;go_simp;have j:=BoxC.new C #[U O 0,U O 0] 28;have V:N<C.heap.size:=a.lt;replace d:=d.alloc (ji V) (Zc #[U O 0,U O 0] 28);replace p:=p.below (bal (Zc #[U O 0,U O 0] 28));replace a:=a.alloc (Zc #[U O 0,U O 0] 28);have n:C.heap.size<(C.alloc (Zc #[U O 0,U O 0] 28)).heap.size:=oC;refine b.out _ _ a (fun e=>?_);clear b f e;generalize C.alloc (Zc #[U O 0,U O 0] 28)=i at *;generalize C.heap.size=P at *;refine wpAnyH_ready (rs:=[5,9]) oB oC ?_;refine(AllReadyH.cons rfl (fun f b=>?_) (AllReadyH.cons rfl (fun f b=>?_) AllReadyH.nil));go_simp;go_at_call 7;refine(a9 i _ d p).mono ?_;rintro R g ⟨v,rfl,E,G,c⟩;obtain⟨u,B,z,q,x,r,rfl⟩:=gM E G;clear E G p;replace d:=d.trans (c.mono vG);replace a:=a.below c;replace j:=j.below c;replace n:=jo n c.size;go_wp2;refine b.out _ _ a (fun e=>?_);clear b f e c;refine tkR 6 (.tuple #[Za #[U O u,.string B,U O z,J q x r],Za #[U O h.1,U O h.2] ] ) a ?_;simp only[jA,jB,jC];refine tkR 7 (Za #[U O u,.string B,U O z,J q x r] ) a ?_;simp only[jA,jB,jC];refine tkR 8 (Za #[U O h.1,U O h.2] ) a ?_;simp only[jA,jB,jC];refine wpAnyH_ready (rs:=[9]) oB oC ?_;refine(AllReadyH.cons rfl (fun f b=>?_) AllReadyH.nil);go_simp;have k:=BoxC.new g #[U O 0,.string ⟨#[]⟩,U O 0,J none 0 0] 25;have T:N<g.heap.size:=a.lt;replace d:=d.alloc (ji T) (Zc #[U O 0,.string ⟨#[]⟩,U O 0,J none 0 0] 25);replace j:=j.alloc (Zc #[U O 0,.string ⟨#[]⟩,U O 0,J none 0 0] 25);have a3:g.heap.size≠P:=(Nat.ne_of_lt n).symm;replace a:=a.alloc (Zc #[U O 0,.string ⟨#[]⟩,U O 0,J none 0 0] 25);have l:g.heap.size<(g.alloc (Zc #[U O 0,.string ⟨#[]⟩,U O 0,J none 0 0] 25)).heap.size:=oC;replace n:P<(g.alloc (Zc #[U O 0,.string ⟨#[]⟩,U O 0,J none 0 0] 25)).heap.size:=oE;refine b.out _ _ a (fun e=>?_);clear b f e;generalize g.alloc (Zc #[U O 0,.string ⟨#[]⟩,U O 0,J none 0 0] 25)=aa at *;generalize g.heap.size=M at *;rotate_left;go_simp;have k:=BoxC.new i #[U O 0,.string ⟨#[]⟩,U O 0,J none 0 0] 25;have T:N<i.heap.size:=a.lt;replace d:=d.alloc (ji T) (Zc #[U O 0,.string ⟨#[]⟩,U O 0,J none 0 0] 25);replace p:=p.below (bal (Zc #[U O 0,.string ⟨#[]⟩,U O 0,J none 0 0] 25));replace j:=j.alloc (Zc #[U O 0,.string ⟨#[]⟩,U O 0,J none 0 0] 25);have a3:i.heap.size≠P:=(Nat.ne_of_lt n).symm;replace a:=a.alloc (Zc #[U O 0,.string ⟨#[]⟩,U O 0,J none 0 0] 25);have l:i.heap.size<(i.alloc (Zc #[U O 0,.string ⟨#[]⟩,U O 0,J none 0 0] 25)).heap.size:=oC;replace n:P<(i.alloc (Zc #[U O 0,.string ⟨#[]⟩,U O 0,J none 0 0] 25)).heap.size:=oE;refine b.out _ _ a (fun e=>?_);clear b f e;generalize i.alloc (Zc #[U O 0,.string ⟨#[]⟩,U O 0,J none 0 0] 25)=g at *;generalize i.heap.size=M at *;refine wpAnyH_ready (rs:=[5]) oB oC ?_;refine(AllReadyH.cons rfl (fun f b=>?_) AllReadyH.nil);go_simp;go_at_call 7;refine(a9 g _ d p).mono ?_;rintro R aa ⟨v,rfl,E,G,c⟩;obtain⟨u,B,z,q,x,r,rfl⟩:=gM E G;clear E G p;replace d:=d.trans (c.mono vG);replace a:=a.below c;replace k:=k.below c;replace l:=jo l c.size;replace j:=j.below c;replace n:=jo n c.size;go_wp2;refine b.out _ _ a (fun e=>?_);clear b f e c;refine tkR 6 (.tuple #[Za #[U O u,.string B,U O z,J q x r],Za #[U O h.1,U O h.2] ] ) a ?_;simp only[jA,jB,jC];refine tkR 7 (Za #[U O u,.string B,U O z,J q x r] ) a ?_;simp only[jA,jB,jC];refine tkR 8 (Za #[U O h.1,U O h.2] ) a ?_;simp only[jA,jB,jC];rotate_left;go_simp;have k:=BoxC.new a8 #[U O 0,.string ⟨#[]⟩,U O 0,J none 0 0] 25;have T:N<a8.heap.size:=a.lt;replace d:=d.alloc (ji T) (Zc #[U O 0,.string ⟨#[]⟩,U O 0,J none 0 0] 25);replace a:=a.alloc (Zc #[U O 0,.string ⟨#[]⟩,U O 0,J none 0 0] 25);have l:a8.heap.size<(a8.alloc (Zc #[U O 0,.string ⟨#[]⟩,U O 0,J none 0 0] 25)).heap.size:=oC;refine b.out _ _ a (fun e=>?_);clear b f e;generalize a8.alloc (Zc #[U O 0,.string ⟨#[]⟩,U O 0,J none 0 0] 25)=C at *;generalize a8.heap.size=M at *;refine wpAnyH_ready (rs:=[4,10]) oB oC ?_;refine(AllReadyH.cons rfl (fun f b=>?_) (AllReadyH.cons rfl (fun f b=>?_) AllReadyH.nil));go_simp;go_at_call 104;refine(ao C d).mono ?_;rintro R i ⟨a7,rfl,p,c⟩;obtain⟨aB,aD,aC,rfl⟩:∃W ad a2,a7=J W ad a2:=zcf;replace d:=d.trans (c.mono vG);replace a:=a.below c;replace k:=k.below c;replace l:=jo l c.size;go_wp2;refine b.out _ _ a (fun e=>?_);clear b f e c;refine wpAnyH_ready (rs:=[5,10]) oB oC ?_;refine(AllReadyH.cons rfl (fun f b=>?_) (AllReadyH.cons rfl (fun f b=>?_) AllReadyH.nil));go_simp;go_at_call 7;refine(a9 i _ d p).mono ?_;rintro R g ⟨v,rfl,E,G,c⟩;obtain⟨u,B,z,q,x,r,rfl⟩:=gM E G;clear E G p;replace d:=d.trans (c.mono vG);replace a:=a.below c;replace k:=k.below c;replace l:=jo l c.size;go_wp2;refine b.out _ _ a (fun e=>?_);clear b f e c;refine tkR 6 (.tuple #[Za #[U O u,.string B,U O z,J q x r],Za #[U O h.1,U O h.2] ] ) a ?_;simp only[jA,jB,jC];refine tkR 7 (Za #[U O u,.string B,U O z,J q x r] ) a ?_;simp only[jA,jB,jC];refine tkR 8 (Za #[U O h.1,U O h.2] ) a ?_;simp only[jA,jB,jC];refine wpAnyH_ready (rs:=[10]) oB oC ?_;refine(AllReadyH.cons rfl (fun f b=>?_) AllReadyH.nil);go_simp;have j:=BoxC.new g #[U O 0,U O 0] 28;have V:N<g.heap.size:=a.lt;replace d:=d.alloc (ji V) (Zc #[U O 0,U O 0] 28);replace k:=k.alloc (Zc #[U O 0,U O 0] 28);have a3:M≠g.heap.size:=Nat.ne_of_lt l;replace a:=a.alloc (Zc #[U O 0,U O 0] 28);have n:g.heap.size<(g.alloc (Zc #[U O 0,U O 0] 28)).heap.size:=oC;replace l:M<(g.alloc (Zc #[U O 0,U O 0] 28)).heap.size:=oE;refine b.out _ _ a (fun e=>?_);clear b f e;generalize g.alloc (Zc #[U O 0,U O 0] 28)=aa at *;generalize g.heap.size=P at *;rotate_left;go_simp;have j:=BoxC.new i #[U O 0,U O 0] 28;have V:N<i.heap.size:=a.lt;replace d:=d.alloc (ji V) (Zc #[U O 0,U O 0] 28);replace p:=p.below (bal (Zc #[U O 0,U O 0] 28));replace k:=k.alloc (Zc #[U O 0,U O 0] 28);have a3:M≠i.heap.size:=Nat.ne_of_lt l;replace a:=a.alloc (Zc #[U O 0,U O 0] 28);have n:i.heap.size<(i.alloc (Zc #[U O 0,U O 0] 28)).heap.size:=oC;replace l:M<(i.alloc (Zc #[U O 0,U O 0] 28)).heap.size:=oE;refine b.out _ _ a (fun e=>?_);clear b f e;generalize i.alloc (Zc #[U O 0,U O 0] 28)=g at *;generalize i.heap.size=P at *;refine wpAnyH_ready (rs:=[5]) oB oC ?_;refine(AllReadyH.cons rfl (fun f b=>?_) AllReadyH.nil);go_simp;go_at_call 7;refine(a9 g _ d p).mono ?_;rintro R aa ⟨v,rfl,E,G,c⟩;obtain⟨u,B,z,q,x,r,rfl⟩:=gM E G;clear E G p;replace d:=d.trans (c.mono vG);replace a:=a.below c;replace k:=k.below c;replace l:=jo l c.size;replace j:=j.below c;replace n:=jo n c.size;go_wp2;refine b.out _ _ a (fun e=>?_);clear b f e c;refine tkR 6 (.tuple #[Za #[U O u,.string B,U O z,J q x r],Za #[U O h.1,U O h.2] ] ) a ?_;simp only[jA,jB,jC];refine tkR 7 (Za #[U O u,.string B,U O z,J q x r] ) a ?_;simp only[jA,jB,jC];refine tkR 8 (Za #[U O h.1,U O h.2] ) a ?_;simp only[jA,jB,jC];rotate_left;go_simp;have j:=BoxC.new C #[U O 0,U O 0] 28;have V:N<C.heap.size:=a.lt;replace d:=d.alloc (ji V) (Zc #[U O 0,U O 0] 28);replace k:=k.alloc (Zc #[U O 0,U O 0] 28);have a3:M≠C.heap.size:=Nat.ne_of_lt l;replace a:=a.alloc (Zc #[U O 0,U O 0] 28);have n:C.heap.size<(C.alloc (Zc #[U O 0,U O 0] 28)).heap.size:=oC;replace l:M<(C.alloc (Zc #[U O 0,U O 0] 28)).heap.size:=oE;refine b.out _ _ a (fun e=>?_);clear b f e;generalize C.alloc (Zc #[U O 0,U O 0] 28)=i at *;generalize C.heap.size=P at *;refine wpAnyH_ready (rs:=[4]) oB oC ?_;refine(AllReadyH.cons rfl (fun f b=>?_) AllReadyH.nil);go_simp;go_at_call 104;refine(ao i d).mono ?_;rintro R g ⟨a7,rfl,p,c⟩;obtain⟨aB,aD,aC,rfl⟩:∃W ad a2,a7=J W ad a2:=zcf;replace d:=d.trans (c.mono vG);replace a:=a.below c;replace k:=k.below c;replace l:=jo l c.size;replace j:=j.below c;replace n:=jo n c.size;go_wp2;refine b.out _ _ a (fun e=>?_);clear b f e c;refine wpAnyH_ready (rs:=[5]) oB oC ?_;refine(AllReadyH.cons rfl (fun f b=>?_) AllReadyH.nil);go_simp;go_at_call 7;refine(a9 g _ d p).mono ?_;rintro R aa ⟨v,rfl,E,G,c⟩;obtain⟨u,B,z,q,x,r,rfl⟩:=gM E G;clear E G p;replace d:=d.trans (c.mono vG);replace a:=a.below c;replace k:=k.below c;replace l:=jo l c.size;replace j:=j.below c;replace n:=jo n c.size;go_wp2;refine b.out _ _ a (fun e=>?_);clear b f e c;refine tkR 6 (.tuple #[Za #[U O u,.string B,U O z,J q x r],Za #[U O h.1,U O h.2] ] ) a ?_;simp only[jA,jB,jC];refine tkR 7 (Za #[U O u,.string B,U O z,J q x r] ) a ?_;simp only[jA,jB,jC];refine tkR 8 (Za #[U O h.1,U O h.2] ) a ?_;simp only[jA,jB,jC];rotate_left;go_simp;have j:=BoxC.new a8 #[U O 0,U O 0] 28;have V:N<a8.heap.size:=a.lt;replace d:=d.alloc (ji V) (Zc #[U O 0,U O 0] 28);replace a:=a.alloc (Zc #[U O 0,U O 0] 28);have n:a8.heap.size<(a8.alloc (Zc #[U O 0,U O 0] 28)).heap.size:=oC;refine b.out _ _ a (fun e=>?_);clear b f e;generalize a8.alloc (Zc #[U O 0,U O 0] 28)=C at *;generalize a8.heap.size=P at *;refine wpAnyH_ready (rs:=[4,9]) oB oC ?_;refine(AllReadyH.cons rfl (fun f b=>?_) (AllReadyH.cons rfl (fun f b=>?_) AllReadyH.nil));go_simp;go_at_call 104;refine(ao C d).mono ?_;rintro R i ⟨a7,rfl,p,c⟩;obtain⟨aB,aD,aC,rfl⟩:∃W ad a2,a7=J W ad a2:=zcf;replace d:=d.trans (c.mono vG);replace a:=a.below c;replace j:=j.below c;replace n:=jo n c.size;go_wp2;refine b.out _ _ a (fun e=>?_);clear b f e c;refine wpAnyH_ready (rs:=[5,9]) oB oC ?_;refine(AllReadyH.cons rfl (fun f b=>?_) (AllReadyH.cons rfl (fun f b=>?_) AllReadyH.nil));go_simp;go_at_call 7;refine(a9 i _ d p).mono ?_;rintro R g ⟨v,rfl,E,G,c⟩;obtain⟨u,B,z,q,x,r,rfl⟩:=gM E G;clear E G p;replace d:=d.trans (c.mono vG);replace a:=a.below c;replace j:=j.below c;replace n:=jo n c.size;go_wp2;refine b.out _ _ a (fun e=>?_);clear b f e c;refine tkR 6 (.tuple #[Za #[U O u,.string B,U O z,J q x r],Za #[U O h.1,U O h.2] ] ) a ?_;simp only[jA,jB,jC];refine tkR 7 (Za #[U O u,.string B,U O z,J q x r] ) a ?_;simp only[jA,jB,jC];refine tkR 8 (Za #[U O h.1,U O h.2] ) a ?_;simp only[jA,jB,jC];refine wpAnyH_ready (rs:=[9]) oB oC ?_;refine(AllReadyH.cons rfl (fun f b=>?_) AllReadyH.nil);go_simp;have k:=BoxC.new g #[U O 0,.string ⟨#[]⟩,U O 0,J none 0 0] 25;have T:N<g.heap.size:=a.lt;replace d:=d.alloc (ji T) (Zc #[U O 0,.string ⟨#[]⟩,U O 0,J none 0 0] 25);replace j:=j.alloc (Zc #[U O 0,.string ⟨#[]⟩,U O 0,J none 0 0] 25);have a3:g.heap.size≠P:=(Nat.ne_of_lt n).symm;replace a:=a.alloc (Zc #[U O 0,.string ⟨#[]⟩,U O 0,J none 0 0] 25);have l:g.heap.size<(g.alloc (Zc #[U O 0,.string ⟨#[]⟩,U O 0,J none 0 0] 25)).heap.size:=oC;replace n:P<(g.alloc (Zc #[U O 0,.string ⟨#[]⟩,U O 0,J none 0 0] 25)).heap.size:=oE;refine b.out _ _ a (fun e=>?_);clear b f e;generalize g.alloc (Zc #[U O 0,.string ⟨#[]⟩,U O 0,J none 0 0] 25)=aa at *;generalize g.heap.size=M at *;rotate_left;go_simp;have k:=BoxC.new i #[U O 0,.string ⟨#[]⟩,U O 0,J none 0 0] 25;have T:N<i.heap.size:=a.lt;replace d:=d.alloc (ji T) (Zc #[U O 0,.string ⟨#[]⟩,U O 0,J none 0 0] 25);replace p:=p.below (bal (Zc #[U O 0,.string ⟨#[]⟩,U O 0,J none 0 0] 25));replace j:=j.alloc (Zc #[U O 0,.string ⟨#[]⟩,U O 0,J none 0 0] 25);have a3:i.heap.size≠P:=(Nat.ne_of_lt n).symm;replace a:=a.alloc (Zc #[U O 0,.string ⟨#[]⟩,U O 0,J none 0 0] 25);have l:i.heap.size<(i.alloc (Zc #[U O 0,.string ⟨#[]⟩,U O 0,J none 0 0] 25)).heap.size:=oC;replace n:P<(i.alloc (Zc #[U O 0,.string ⟨#[]⟩,U O 0,J none 0 0] 25)).heap.size:=oE;refine b.out _ _ a (fun e=>?_);clear b f e;generalize i.alloc (Zc #[U O 0,.string ⟨#[]⟩,U O 0,J none 0 0] 25)=g at *;generalize i.heap.size=M at *;refine wpAnyH_ready (rs:=[5]) oB oC ?_;refine(AllReadyH.cons rfl (fun f b=>?_) AllReadyH.nil);go_simp;go_at_call 7;refine(a9 g _ d p).mono ?_;rintro R aa ⟨v,rfl,E,G,c⟩;obtain⟨u,B,z,q,x,r,rfl⟩:=gM E G;clear E G p;replace d:=d.trans (c.mono vG);replace a:=a.below c;replace k:=k.below c;replace l:=jo l c.size;replace j:=j.below c;replace n:=jo n c.size;go_wp2;refine b.out _ _ a (fun e=>?_);clear b f e c;refine tkR 6 (.tuple #[Za #[U O u,.string B,U O z,J q x r],Za #[U O h.1,U O h.2] ] ) a ?_;simp only[jA,jB,jC];refine tkR 7 (Za #[U O u,.string B,U O z,J q x r] ) a ?_;simp only[jA,jB,jC];refine tkR 8 (Za #[U O h.1,U O h.2] ) a ?_;simp only[jA,jB,jC];rotate_left;go_simp;have k:=BoxC.new C #[U O 0,.string ⟨#[]⟩,U O 0,J none 0 0] 25;have T:N<C.heap.size:=a.lt;replace d:=d.alloc (ji T) (Zc #[U O 0,.string ⟨#[]⟩,U O 0,J none 0 0] 25);replace j:=j.alloc (Zc #[U O 0,.string ⟨#[]⟩,U O 0,J none 0 0] 25);have a3:C.heap.size≠P:=(Nat.ne_of_lt n).symm;replace a:=a.alloc (Zc #[U O 0,.string ⟨#[]⟩,U O 0,J none 0 0] 25);have l:C.heap.size<(C.alloc (Zc #[U O 0,.string ⟨#[]⟩,U O 0,J none 0 0] 25)).heap.size:=oC;replace n:P<(C.alloc (Zc #[U O 0,.string ⟨#[]⟩,U O 0,J none 0 0] 25)).heap.size:=oE;refine b.out _ _ a (fun e=>?_);clear b f e;generalize C.alloc (Zc #[U O 0,.string ⟨#[]⟩,U O 0,J none 0 0] 25)=i at *;generalize C.heap.size=M at *;refine wpAnyH_ready (rs:=[4]) oB oC ?_;refine(AllReadyH.cons rfl (fun f b=>?_) AllReadyH.nil);go_simp;go_at_call 104;refine(ao i d).mono ?_;rintro R g ⟨a7,rfl,p,c⟩;obtain⟨aB,aD,aC,rfl⟩:∃W ad a2,a7=J W ad a2:=zcf;replace d:=d.trans (c.mono vG);replace a:=a.below c;replace k:=k.below c;replace l:=jo l c.size;replace j:=j.below c;replace n:=jo n c.size;go_wp2;refine b.out _ _ a (fun e=>?_);clear b f e c;refine wpAnyH_ready (rs:=[5]) oB oC ?_;refine(AllReadyH.cons rfl (fun f b=>?_) AllReadyH.nil);go_simp;go_at_call 7;refine(a9 g _ d p).mono ?_;rintro R aa ⟨v,rfl,E,G,c⟩;obtain⟨u,B,z,q,x,r,rfl⟩:=gM E G;clear E G p;replace d:=d.trans (c.mono vG);replace a:=a.below c;replace k:=k.below c;replace l:=jo l c.size;replace j:=j.below c;replace n:=jo n c.size;go_wp2;refine b.out _ _ a (fun e=>?_);clear b f e c;refine tkR 6 (.tuple #[Za #[U O u,.string B,U O z,J q x r],Za #[U O h.1,U O h.2] ] ) a ?_;simp only[jA,jB,jC];refine tkR 7 (Za #[U O u,.string B,U O z,J q x r] ) a ?_;simp only[jA,jB,jC];refine tkR 8 (Za #[U O h.1,U O h.2] ) a ?_;simp only[jA,jB,jC];rotate_left
   all_goals
    refine oneH 11 fun f b=>?_
    have aG:=k.cell 0 rfl;have aH:=k.cell 1 rfl;have bP:=k.cell 2 rfl;have bR:=k.cell 3 rfl;have aN:=k.fz 0;have aO:=k.fz 1;have bs:=k.fz 2;have bu:=k.fz 3;go_simp;have aE:N≠M:=oA;replace a:=(((a.other (o:=0) aE (U O u)).other (o:=1) aE (.string B)).other (o:=2) aE (U O z)).other (o:=3) aE (J q x r);replace j:=(((j.other (o:=0) a3.symm (U O u)).other (o:=1) a3.symm (.string B)).other (o:=2) a3.symm (U O z)).other (o:=3) a3.symm (J q x r);replace d:=zbe (zbe (zbe (zbe d T 0 (U O u)) T 1 (.string B)) T 2 (U O z)) T 3 (J q x r);refine b.out _ _ a (fun e=>?_);clear b f e aG aH bP bR aN aO bs bu k;generalize (World.setCell _ (A M 3 none) _)=bS at *;refine oneH 12 fun f b=>?_
    have aG:=j.cell 0 rfl;have aH:=j.cell 1 rfl;have aN:=j.fz 0;have aO:=j.fz 1;go_simp;have aZ:N≠P:=oA;replace a:=(a.other (o:=0) aZ (U O h.1)).other (o:=1) aZ (U O h.2);replace j:=(j.set 0 (U O h.1)).set 1 (U O h.2);replace d:=zbe (zbe d V 0 (U O h.1)) V 1 (U O h.2);refine b.out _ _ a (fun e=>?_);clear b f e aG aH aN aO;refine wpAnyH_done oB ?_ _;exact⟨M,P,_,_,_,_,_,_,_,_,_,_,ji T,ji V,rfl,by simpa using j,d⟩
  ·go_wp2
   go_end0
   refine⟨ar,.inr ⟨?_,rfl⟩⟩;have bF:a5=t.length:=oA;rw[<- aJ.out,bF,List.drop_length];rfl
theorem zvn {b c:Act->Zw->Prop} {d:Exit->Act->Zw->Prop} (g:∀a w,b a w->c a w):∀e a w,Exit.jump f b d e a w->Exit.jump f c d e a w
 | .goto _,a,w,hq=>⟨hq.1,g _ _ hq.2⟩
 | .normal,_,_,hq=>hq
 | .exit _,_,_,hq=>hq
 | .ret,_,_,hq=>hq
 | .panic _,_,_,hq=>hq
 | .outgrown,_,_,hq=>hq
theorem zum {e:Program} {a:Act} {w:Zw} {f:Exit->Act->Zw->Prop} {g rest:Code} (d:Nat) (b:Act->Zw->Prop) (μ:Act->Zw->Nat) (j:findLabel g d=Z (Code.skip.seq rest)) (i:∀a w,b a w->rest.wp e (Exit.jump d (fun h w'=>b h w'/\μ h w'<μ a w) f) a w) (first:(∀a w,b a w->rest.wp e (Exit.jump d b f) a w)->g.wp e (Exit.jump d b f) a w):(Code.scope g).wp e f a w :=
 wp_scope_jumps d b μ j (first fun a w c=>wp_mono (i a w c) (zvn fun _ _ c=>c.1)) fun a w c=>wp_seq (wp_skip (i a w c))
def uC (B:Nat) (w:Zw) (v:Zv) (t:List Nat):Prop:=∃a c,v=J a t.length c/\(t≠[]->∃g,B<=g/\a=Z (A g 0 none)/\∀i (b:i<t.length),w.cell? (A g i none)=Z (U O (t[i]:Int)))
theorem uC.nats {B:Nat} {w:Zw} {v:Zv} {t:List Nat} (f:uC B w v t):fM w v t:=by
 obtain⟨a,b,c,h⟩:=f;exact⟨a,b,c,fun i=>by obtain⟨e,_,d,g⟩:=h i;exact⟨e,d,g⟩⟩
theorem uC.below {B:Nat} {w w':Zw} {v:Zv} {t:List Nat} (f:uC B w v t) (h:Below w.heap.size w w'):uC B w' v t:=by
 obtain⟨a,b,c,j⟩:=f;exact⟨a,b,c,fun k=>by obtain⟨e,g,d,i⟩:=j k;exact⟨e,g,d,fun l hi=>keep (i l hi) h⟩⟩
theorem uC.other {B b o:Nat} {w:Zw} {v:Zv} {t:List Nat} (h:uC B w v t) (n:b<B) (a:Zv):uC B (w.setCell (A b o none) a) v t:=by
 obtain⟨c,d,e,k⟩:=h;exact⟨c,d,e,fun l=>by obtain⟨g,i,f,j⟩:=k l;exact⟨g,i,f,fun m hi=>zff oA (j m hi) a⟩⟩
theorem uC.mono {B B':Nat} {w:Zw} {v:Zv} {t:List Nat} (f:uC B w v t) (k:B'<=B):uC B' w v t:=by
 obtain⟨a,b,c,h⟩:=f;exact⟨a,b,c,fun i=>by obtain⟨e,j,d,g⟩:=h i;exact⟨e,oA,d,g⟩⟩
theorem zzs {w:Zw} {B:Nat} {v:Zv} {t:List Nat} (a:w.ownsRow B 3 1 v t.length (t.map natV)):uC B w v t:=by
 rcases a.2 with⟨rfl,c⟩|⟨b,d,f,rfl,e,_,g,h,_⟩
 ·exact⟨none,0,by rw[c],fun a=>absurd (List.eq_nil_of_length_eq_zero c) a⟩
 ·refine⟨Z (A b 0 none),d,rfl,fun _=>⟨b,e,rfl,fun i hi=>?_⟩⟩;rw[a.cellAt _ oA];simp[natV,hi]
def TkF (L:List MD):List Nat:=takeF (kM L) (zR L) L.length []
def TkE (w:Zw) (L:List MD) (e:Ending) (w':Zw):Prop :=
 Below w.heap.size w w'/\((∃r,xY L.length (TkF L)=Z r/\e=.panicked (fI r))\/(xY L.length (TkF L)=none/\∃tv,e=.returned tv/\uC (w.heap.size+4) w' tv (TkF L)))
def za8 (w:Zw) (b:Nat):Nat:=match w.cell? (A b 0 none)with
 | some (J _ n _)=>n
 | _=>0
theorem zlu {w:Zw} {b:Nat} {a:Option Addr} (c:w.cell? (A b 0 none)=Z (J a f h)):za8 w b=f:=by
 unfold za8;rw[c]
theorem infoI:(prog.info? 3).map (fun a=>(a.zero,a.size,a.bytes))=Z (Z (U O 0),1,8):=oB
abbrev zr6 (b:Nat):Zv:=.func (.func 102) #[] #[Zp (Z (A (b+2) 0 none)),Zp (Z (A b 0 none)),Zp (Z (A (b+3) 0 none))]
theorem zx2 {f:List ByteArray} {c:List (List ByteArray)} {t:List Nat} {a:Nat} (g:a<c.length) (d:vT f c t a=H) (h:∀b,b<a->vT f c t b=X):uI f c t=Z a:=by
 unfold uI;exact zmz
theorem zvw {c:List ByteArray} {b:List (List ByteArray)} {t:List Nat} (d:∀a,a<b.length->vT c b t a=X):uI c b t=none:=by
 unfold uI;rw[List.find?_eq_none];intro a hi;rw[d a (List.mem_range.1 hi)];simp
theorem left_hit {e:Nat} {t:List Nat} {a:Nat} (g:a<e) (d:(!t.contains a)=H) (h:∀b,b<a->(!t.contains b)=X):xY e t=Z ((a:Int),3,0):=by
 unfold xY
 have:(List.range e).find? (fun b=>!t.contains b)=Z a:=by
  exact zmz
 rw[this];rfl
theorem zvo {t:List Nat} (b:∀a,a<f->(!t.contains a)=X):xY f t=none:=by
 unfold xY
 have:(List.range f).find? (fun a=>!t.contains a)=none:=by
  rw[List.find?_eq_none];intro a hi;rw[b a (List.mem_range.1 hi)];simp
 rw[this];rfl
section
variable {w1 w w':Zw} {D b:Nat} {mv tv:Zv} {L:List MD} {t:List Nat}
theorem TS.new (w:Zw) (D:Nat) (mv:Zv) (L:List MD) (d:PS w D mv L L.length (qI (kM L))):TS w D w.heap.size mv L (J none 0 0) [] ((((w.alloc (Zc #[Zp (Z (A (D+1) 0 none))] 170)).alloc (Zc #[J none 0 0] 34)).alloc (Zc #[dE w.heap.size] 101)).alloc (Zc #[cA w.heap.size] 83)):=by
 have e:(w.alloc (Zc #[Zp (Z (A (D+1) 0 none))] 170)).heap.size=w.heap.size+1:=oC;have f:((w.alloc (Zc #[Zp (Z (A (D+1) 0 none))] 170)).alloc (Zc #[J none 0 0] 34)).heap.size=w.heap.size+2:=oC;have g:(((w.alloc (Zc #[Zp (Z (A (D+1) 0 none))] 170)).alloc (Zc #[J none 0 0] 34)).alloc (Zc #[dE w.heap.size] 101)).heap.size=w.heap.size+3:=oC;have h:=BoxC.new w #[Zp (Z (A (D+1) 0 none))] 170;have a:=BoxC.new (w.alloc (Zc #[Zp (Z (A (D+1) 0 none))] 170)) #[J none 0 0] 34;have b:=BoxC.new ((w.alloc (Zc #[Zp (Z (A (D+1) 0 none))] 170)).alloc (Zc #[J none 0 0] 34)) #[dE w.heap.size] 101;have c:=BoxC.new (((w.alloc (Zc #[Zp (Z (A (D+1) 0 none))] 170)).alloc (Zc #[J none 0 0] 34)).alloc (Zc #[dE w.heap.size] 101)) #[cA w.heap.size] 83;rw[e]at a;rw[f]at b;rw[g]at c;exact⟨rfl,d,(((bal _).alloc oC _).alloc oE _).alloc oE _,((h.alloc _).alloc _).alloc _,(a.alloc _).alloc _,b.alloc _,c,World.ownsRow_nil _ _ _ _,⟨fun i hi=>(by cases hi),List.nodup_nil⟩⟩
theorem TS.push (c:TS w1 D b mv L tv t w) {j f g:Nat} (m:j<L.length) (n:j∉t) (k:w'.ownsRow (b+4) 3 1 (J (Z (A f 0 none)) (t.length+1) g) (t.length+1) (t.map natV++[natV j])) (h:w.grownBy w' tv.ownBlock) : TS w1 D b mv L (J (Z (A f 0 none)) (t.length+1) g) (t++[j]) (w'.setCell (A (b+1) 0 none) (J (Z (A f 0 none)) (t.length+1) g)):=by
 have l:∀d,tv.ownBlock=Z d->b+4<=d:=fun d e=>(c.row.lt d e).1
 have i:∀d,d<b+4->tv.ownBlock≠Z d:=fun d p e=>by have:=l _ e;omega
 have o:b+4<=f:=(k.lt f rfl).1;have r:=c.bl.size;have q:=c.sz;refine⟨c.sz,c.ps,(c.bl.grown h oA (fun d e=>by have:=l _ e;omega)).setCell (by show b<=b+1;omega) _,(c.b0.grown h (i _ oA)).other oA _,?_,(c.b2.grown h (i _ oA)).other oA _,(c.b3.grown h (i _ oA)).other oA _,?_,c.tk.snoc m n⟩;·have:=(c.b1.grown h (i _ oA)).set 0 (J (Z (A f 0 none)) (t.length+1) g);simpa using this
 ·have:=jV (a:=(A (b+1) 0 none)) k (fun e=>by simp[Value.ownBlock]at e;omega) (J (Z (A f 0 none)) (t.length+1) g);rw[jb,List.map_append];exact this
end
def JT (w:Zw) (D b:Nat) (mv:Zv) (L:List MD) (a:Act) (w':Zw):Prop :=
 ∃(tv:Zv) (t:List Nat) (s c d e f g h i j k l m n o p q r:Zv),a={ tmps:=#[Zp (Z (A (D+1) 0 none)),Zp (Z (A b 0 none)),J none 0 0,Zp (Z (A (b+1) 0 none)),Zp (Z (A (b+2) 0 none)),Zp (Z (A (b+3) 0 none)),zr6 b,s,undef,dE b,cA b,zr6 b,c,d,e,f,g,h,i,j,k,l,m,n,o,p,q,r,undef,undef,undef,undef,undef,undef,undef,undef,undef,undef,undef,undef,undef,undef,undef],defers:=[] }/\TS w D b mv L tv t w'/\Hid (takeF (kM L) (zR L) (L.length - t.length) t=TkF L)
theorem oTake (D:Nat) (mv:Zv) (L:List MD) (af:L.length<=6) (ae:0<L.length) (w:Zw) (T:PS w D mv L L.length (qI (kM L))) : Calls prog 59 #[Zp (Z (A (D+1) 0 none))] w (TkE w L):=by
 have aC:∀(R:Fn) (first Q:Array Zv) (w:Zw),(Instr.makeFunc R first Q).run prog w=.ok (.func R first Q) w:=fun _ _ _ _=>rfl
 obtain⟨au,hi,ao,ap,ar⟩:=info_parts infoI;have n:Hid ((zR L).length=L.length):=by show _=_;simp[zR]
 obtain⟨x,C,rfl⟩:=T.slot ae;have S:=TS.new w D _ L T;go_enter func59,ntmps59;go_wp2;obtain⟨b,r⟩:∃b,Hid (b=w.heap.size):=⟨_,rfl⟩
 refine zum 0 (JT w D b (J (Z (A x 0 none)) L.length C) L) (fun ad w'=>7 - za8 w' (b+1)) rfl ?_ ?_
 ·clear S;rintro ad w' ⟨tv,t,aU,aE,aF,aG,aH,aI,aJ,aK,aL,aM,aN,aO,aP,aQ,aR,aS,aT,rfl,d,N⟩;obtain⟨E,G,rfl⟩:∃u v,tv=J u t.length v:=by obtain⟨u,v,h,_⟩:=d.nats;exact⟨u,v,h⟩
  have aa:Hid (za8 w' (b+1)=t.length):=zlu d.cells.2.1;obtain⟨a5,K,a6,a7,a8,a9⟩:=d.cells;have aD:=d.tk.len;go_wp2;go_loopw [17] (fun i wr=>∃(c:Nat),c<=L.length/\i=U O c/\TS w D b (J (Z (A x 0 none)) L.length C) L (J E t.length G) t wr/\Hid (∀a,a<c->vT (kM L) (zR L) t a=X)) (fun i _=>L.length - (intOf i).toNat)
  case atStart=>exact⟨0,jz _,rfl,d,fun a hi=>oA⟩
  case round =>
   clear d a5 K a6 a7 a8 a9;obtain⟨c,az,rfl,d,f⟩:=hrel;by_cases z:c<L.length
   ·have g:=ybr af d c z;cases q:vT (kM L) (zR L) t c
    ·rw[q]at g;go_wp2_with (go_at_call 102;refine g.mono ?_;rintro h j ⟨rfl,y⟩);go_roundw
     case rel=>exact⟨c+1,oA,oM,d.below y,fun a hi=>by
      rcases jM a c with l | l
      ·exact f.out a l
      ·have:a=c:=oA;subst this
       exact q⟩
     case measure=>simp[intOf];omega
    ·rw[q]at g;have P:Hid (uI (kM L) (zR L) t=Z c):=zx2 (by rw[n.out];exact z) q f.out;have aj:c∉t:=(zb0 P.out).2.2
     have ab:Hid (takeF (kM L) (zR L) (L.length - (t++[c]).length) (t++[c])=TkF L):=by
      show _=_;have:=zut (ns:=kM L) (Is:=zR L) (t:=t) (i:=c) (by rw[n.out];exact d.tk) P.out;rw[n.out]at this;rw[<- this,N.out]
     have an:∀o,TS w D b (J (Z (A x 0 none)) L.length C) L (J E t.length G) t o->o.cell? (A (b+1) 0 none)=Z (J E t.length G)/\o.frozen? (A (b+1) 0 none)=X:=fun o V=>⟨V.cells.2.1,V.b1.fz 0⟩
     go_wp2_with first
      | (go_at_call 102;refine g.mono ?_;rintro h j ⟨rfl,y⟩;replace d:=d.below y;clear g;obtain⟨aX,aY⟩:=an j d)
      | (at_builtin;have m:=d.below ((Below.refl j.heap.size j).alloc (jE _) (Zc #[U O c] 3));refine wpList_append_lies _ rfl (.tmp 23) (.tmp 25) 34 rfl (b+4) 3 au (U O 0) 1 8 underlying34 hi ao ap ar rfl oD _ _ _ rfl m.row (A j.heap.size 0 none) 1 1 [U O c] rfl rfl (zZ _ #[U O c] _ _ rfl) oU oA (by unfold maxLen;omega) oA (by have:=m.b3.lt;omega) _ rfl ?_;intro ax aw aW ak a3 ay aB;have W:=(m.b1.grown a3 (fun h=>by have:=(m.row.lt _ h).1;omega));have aZ:=W.cell 0 rfl;have b0:=W.fz 0;have a2:=m.push z aj ak a3)
     go_step3
     refine⟨rfl,⟨_,t++[c],_,_,_,_,_,_,_,_,_,_,_,_,_,_,_,_,_,rfl,a2,ab⟩,?_⟩;show 7 - za8 _ (b+1)<7 - za8 w' (b+1);rw[aa.out,zlu a2.cells.2.1];omega
   ·have s:Hid (TkF L=t):=by
     show _=_;rw[<- N.out];exact zus (zvw (fun a hi=>f.out a (by rw[n.out]at hi;omega))) _
    obtain⟨a5,K,a6,a7,a8,a9⟩:=d.cells;have M:Hid (Below w.heap.size w wr):=by show Below _ _ _;rw[<- r.out];exact d.bl
    clear f;go_wp2;go_loopw [33] (fun i av=>∃(e:Nat),e<=L.length/\i=U O e/\av=wr/\Hid (∀a,a<e->(!t.contains a)=X)) (fun i _=>L.length - (intOf i).toNat)
    case atStart=>exact⟨0,jz _,rfl,rfl,fun a hi=>oA⟩
    case round =>
     obtain⟨e,aA,rfl,rfl,f⟩:=hrel;by_cases ai:e<L.length
     ·have g:=zhd e t _ (b+1) wr oA d.nats K;generalize p:(!t.contains e)=ac at g;cases ac
      ·have k:=show Hid _ from p
       clear p;go_wp2_with (go_at_call 99;refine g.mono ?_;rintro h j ⟨rfl,B⟩;obtain rfl:=B.symm);go_roundw
       case rel=>exact⟨e+1,oA,oM,trivial,fun a hi=>by
        rcases jM a e with l | l
        ·exact f.out a l
        ·have:a=e:=oA;subst this
         exact k.out⟩
       case measure=>simp[intOf];omega
      ·have k:Hid (xY L.length t=Z ((e:Int),3,0)):=left_hit ai p f.out;clear p
       go_wp2_with first
        | (go_at_call 99;refine g.mono ?_;rintro h j ⟨rfl,B⟩;obtain rfl:=B.symm)
        | (go_at_call 98;refine(oRefuse _ _ _ _).mono ?_;rintro h aV ⟨rfl,am⟩;obtain rfl:=am.symm)
       exact⟨rfl,M.out,.inl ⟨_,by rw[s.out];exact k.out,rfl⟩⟩
     ·have k:Hid (xY L.length t=none):=zvo (fun a hi=>f.out a oA);clear f;go_wp2;go_ret;exact⟨M.out,.inr ⟨by rw[s.out];exact k.out,_,rfl,by rw[s.out,<- r.out];exact zzs d.row⟩⟩
 ·intro ah;go_wp2
  go_step3
  rename_i ag;refine ag _ _ (ah _ _ ?_);obtain rfl:=r.out;exact⟨_,[],_,_,_,_,_,_,_,_,_,_,_,_,_,_,_,_,_,rfl,S,rfl⟩
theorem ztj (e:Addr) (w:Zw) : CallsD prog 55 #[Zp (Z e)] .returning w fun a f w'=>a=.returned (.tuple #[])/\f=.returning/\w'=w:=by
 have i:∀w:Zw,(binOp BinOp.eql 20 .nilIface .nilIface).run prog w=.ok (Y H) w:=fun _=>oB
 refine callsD_of_wpS func55 rfl fun h g c=>?_
 refine zc0 (by simp[recoverD,c]) ?_;simp only[ntmps55,List.size_toArray,jd,je,Nat.reduceAdd,Nat.reduceSub,Array.replicate_succ,Array.replicate_zero,List.push_toArray,List.append_toArray,js,jL,Act.put,List.setIfInBounds_toArray,List.set_cons_succ,List.set_cons_zero];refine wpS_of_wp (wp_mono (Q:=fun a b w'=>a=.normal/\b.defers=[]/\w'=w) ?_ ?_);·go_wp2
 ·rintro a b w' ⟨rfl,d,rfl⟩;exact⟨d,_,rfl,.tuple #[],by simp[results,results55],rfl,c,rfl⟩
theorem za4 (a:Nat) (d c b:Int) (w:Zw) (e:BoxC w a #[U O 0,U O 0,U O 0] 36) : CallsD prog 55 #[Zp (Z (A a 0 none))] (.panicking (fI (d,c,b))) w fun f o w'=>f=.returned (.tuple #[])/\o=.panicking [{ v:=.iface 36 (Za #[U O d,U O c,U O b]),recovered:=H }]/\w'.cell? (A a 0 none)=Z (U O d)/\w'.cell? (A a 1 none)=Z (U O c)/\w'.cell? (A a 2 none)=Z (U O b)/\Fr a w w':=by
 have p:=kc36;have x:=e.lt;have u:=e.cell 0 rfl;have g:=e.cell 1 rfl;have h:=e.cell 2 rfl;have r:=e.fz 0;have s:=e.fz 1;have t:=e.fz 2;clear e;have y:∀w:Zw,(binOp BinOp.eql 20 (.iface 36 (Za #[U O d,U O c,U O b])) .nilIface).run prog w=.ok (Y X) w:=fun _=>oB
 have z:∀w:Zw,(Instr.typeAssert (.iface 36 (Za #[U O d,U O c,U O b])) 20 36 H).run prog w=.ok (.tuple #[Za #[U O d,U O c,U O b],Y H]) w:=fun _=>oB
 unfold fI;refine callsD_of_wpS func55 rfl fun j i n=>?_
 refine zbm (v:=.iface 36 (Za #[U O d,U O c,U O b])) (cs':={ j with mode:=.panicking [{ v:=.iface 36 (Za #[U O d,U O c,U O b]),recovered:=H }] } :: i) (by simp[recoverD,n]) ?_;simp only[ntmps55,List.size_toArray,jd,je,Nat.reduceAdd,Nat.reduceSub,Array.replicate_succ,Array.replicate_zero,List.push_toArray,List.append_toArray,js,jL,Act.put,List.setIfInBounds_toArray,List.set_cons_succ,List.set_cons_zero];refine wpS_of_wp (wp_mono (Q:=fun f q w'=>f=.normal/\q.defers=[]/\w'.cell? (A a 0 none)=Z (U O d)/\w'.cell? (A a 1 none)=Z (U O c)/\w'.cell? (A a 2 none)=Z (U O b)/\Fr a w w') ?_ ?_);·go_wp2;exact((((Fr.refl _ _).set _ _).set _ _).set _ _).alloc _
 ·rintro f q w' ⟨rfl,g,h,k,l,m⟩;exact⟨g,_,rfl,.tuple #[],by simp[results,results55],rfl,rfl,h,k,l,m⟩
def xZ (xs:List ByteArray):Option Tr :=
 match yT xs 0 with
 | some t=>Z t
 | none=>match yR [] (xs.map nameOf)with
  | some t=>Z t
  | none=>match xX (xs.map nameOf) (xs.map fun x=>(tx x).I) 0 with
   | some t=>Z t
   | none=>match xY xs.length (qW xs)with
    | some t=>Z t
    | none=>match yU xs (qW xs)with
     | some t=>Z t
     | none=>uG xs
theorem zwd (xs:List ByteArray):orderF xs=if xs.length=0\/6<xs.length then Z (0,1,0)else xZ xs:=rfl
def OrE (w:Zw) (xs:List ByteArray) (o:Option Tr) (e:Ending) (w':Zw):Prop :=
 Below w.heap.size w w'/\match o with
  | some t=>e=.returned (.tuple #[J none 0 0,Za #[U O t.1,U O t.2.1,U O t.2.2]])
  | none=>∃tv,e=.returned (.tuple #[tv,Za #[U O 0,U O 0,U O 0]])/\uC w.heap.size w' tv (qW xs)
theorem PS.new (w:Zw):PS ((w.alloc (.map #[] 0)).alloc (Zc #[J none 0 0,.map (Z w.heap.size)] 121)) w.heap.size (J none 0 0) [] 0 (fun _=>none):=by
 refine⟨?_,World.ownsRow_nil _ _ _ _,?_,fun b a=>by cases a⟩;·have:=BoxC.new (w.alloc (.map #[] 0)) #[J none 0 0,.map (Z w.heap.size)] 121;rw[jP]at this;exact this
 ·exact(kI.made w).below (bal _)
theorem zx5 (w:Zw) (aA:gQ w) (xs:List ByteArray) (tv:Zv) (am:zH w tv xs) (ay:xs.length<=6) (aX:0<xs.length) : Calls prog 23 #[tv] w (OrE w xs (xZ xs)):=by
 have aT:=kc36;have aS:=kc121;have aZ:=@run_makeMap prog;have aY:∀(ab:Fn) (first aa:Array Zv) (w:Zw),(Instr.makeFunc ab first aa).run prog w=.ok (.func ab first aa) w:=fun _ _ _ _=>rfl
 obtain⟨b1,b2,rfl⟩:∃p s,tv=J p xs.length s:=by obtain⟨p,s,h,_⟩:=am;exact⟨p,s,h⟩
 obtain⟨N,n⟩:∃N,N=w.heap.size:=⟨_,rfl⟩
 obtain⟨i,E⟩:∃i,i=w.alloc (Zc #[U O 0,U O 0,U O 0] 36):=⟨_,rfl⟩
 have u:i.heap.size=N+1:=by rw[E,n];simp
 have k:Below N w i:=by rw[E,n];exact bal _
 have m:BoxC i N #[U O 0,U O 0,U O 0] 36:=by rw[E,n];exact BoxC.new _ _ _
 have ai:=vZ aA (n▸k);have aE:=xN am (n▸k);have a7:=PS.new i;obtain⟨a3,x⟩:∃a3,a3=(i.alloc (.map #[] 0)).alloc (Zc #[J none 0 0,.map (Z i.heap.size)] 121):=⟨_,rfl⟩
 have az:Below (N+1) i a3:=by rw[x];exact((Below.refl _ _).alloc oA _).alloc oE _
 rw[<- x,u]at a7;have ac:=oRead i (N+1) u ai xs _ aE ay a3 az a7;rw[u]at x;rw[E]at x;clear a7;go_enter_defers func23,ntmps23;go_wp2_with (fail);have a5:Hid (N=w.heap.size):=n;rw[<- n];clear n;rw[<- x];refine ac.mono ?_;clear ac x E;rintro h d ⟨a,(⟨q,c,rfl⟩|⟨c,rfl,mv,L,e,l⟩)⟩
 ·skip;have j:BoxC d N #[U O 0,U O 0,U O 0] 36:=(a.block N oA).trans m;have key:=za4 N q.1 q.2.1 q.2.2 d j;have g:Hid (Below N w d):=k.trans (a.mono oA);have t:Hid (xZ xs=Z q):=by show _=_;unfold xZ;rw[c]
  exact zaw
 have Q:L.length=xs.length:=by rw[<- e];simp
 have z:Hid (yT xs 0=none):=c;have ad:=oEnter i (N+1) u mv L oA d a l;clear c a l;go_wp2_with (fail);refine ad.mono ?_;clear ad;rintro h d ⟨a,(⟨q,c,rfl⟩|⟨c,rfl,l⟩)⟩
 ·skip;have j:BoxC d N #[U O 0,U O 0,U O 0] 36:=(a.block N oA).trans m;have key:=za4 N q.1 q.2.1 q.2.2 d j;have g:Hid (Below N w d):=k.trans (a.mono oA);have t:Hid (xZ xs=Z q):=by show _=_;unfold xZ;rw[z.out,cB e,c]
  exact zaw
 have M:Hid (yR [] (kM L)=none):=c;have ae:=ycv i (N+1) u mv L oA d a l;clear c a l;go_wp2_with (fail);refine ae.mono ?_;clear ae;rintro h d ⟨a,(⟨q,c,rfl⟩|⟨c,rfl,l⟩)⟩
 ·skip;have j:BoxC d N #[U O 0,U O 0,U O 0] 36:=(a.block N oA).trans m;have key:=za4 N q.1 q.2.1 q.2.2 d j;have g:Hid (Below N w d):=k.trans (a.mono oA);have t:Hid (xZ xs=Z q):=by show _=_;unfold xZ;rw[z.out,cB e,zck e,M.out,c]
  exact zaw
 have P:Hid (xX (kM L) (zR L) 0=none):=c;have C:qW xs=TkF L:=by unfold qW TkF;rw[cB e,zck e,Q]
 have af:=oTake (N+1) mv L oA oA d l;have v:=a;clear c a;go_wp2_with (fail);refine af.mono ?_;clear af;rintro h y ⟨T,(⟨q,c,rfl⟩|⟨c,tv,rfl,S⟩)⟩
 ·have a:=v.trans (T.mono (by have:=v.size;omega));have j:BoxC y N #[U O 0,U O 0,U O 0] 36:=(a.block N oA).trans m;have key:=za4 N q.1 q.2.1 q.2.2 y j;have g:Hid (Below N w y):=k.trans (a.mono oA);have t:Hid (xZ xs=Z q):=by show _=_;unfold xZ;rw[z.out,cB e,zck e,M.out,P.out,C,<- Q,c]
  exact zaw
 have a9:Hid (xY L.length (TkF L)=none):=c;have a:=v.trans (T.mono (by have:=v.size;omega));have a8:=l.below T;have aB:=vZ ai (u▸a)
 have aF:Tk L.length (TkF L):=by
  have:=zea (ns:=kM L) (Is:=zR L) L.length [] ⟨fun b0 hi=>(by cases hi),List.nodup_nil⟩;have h:(zR L).length=L.length:=by simp[zR]
  rw[h]at this;exact this
 obtain⟨aL,aM,rfl⟩:∃p s,tv=J p (TkF L).length s:=by obtain⟨p,s,h,_⟩:=S;exact⟨p,s,h⟩
 have R:N<d.heap.size+4:=by have:=v.size;omega
 have ag:=ydv (N+1) mv L xs e oA oA y aB a8 (fun aK aH aO aJ=>zfs _ _ _ P.out _ (List.mem_map.2 ⟨aK,aH,rfl⟩) aO aJ) (TkF L) aF _ S.nats;clear c T v l;go_wp2_with (fail);refine ag.mono ?_;clear ag;rintro h a2 ⟨V,(⟨q,c,rfl⟩|⟨c,rfl⟩)⟩
 ·replace a:=a.trans (V.mono (by have:=a.size;omega));have j:BoxC a2 N #[U O 0,U O 0,U O 0] 36:=(a.block N oA).trans m;have key:=za4 N q.1 q.2.1 q.2.2 a2 j;have g:Hid (Below N w a2):=k.trans (a.mono oA);have t:Hid (xZ xs=Z q):=by show _=_;unfold xZ;rw[z.out,cB e,zck e,M.out,P.out,C,<- Q,a9.out,c]
  exact zaw
 have ap:Hid (yU xs (TkF L)=none):=c;have ak:=a8.below V;have aj:=S.below V;have D:=a.trans (V.mono (by have:=a.size;omega));have ah:=zv4 (N+1) mv L xs e oA a2 ak;clear c a a8 ak;go_wp2_with (fail);refine ah.mono ?_;clear ah;rintro h K ⟨W,(⟨q,c,rfl⟩|⟨c,rfl⟩)⟩;·have a:=D.trans (W.mono (by have:=D.size;omega));have j:BoxC K N #[U O 0,U O 0,U O 0] 36:=(a.block N oA).trans m;have key:=za4 N q.1 q.2.1 q.2.2 K j;have g:Hid (Below N w K):=k.trans (a.mono oA);have t:Hid (xZ xs=Z q):=zm2;exact zaw
 have ar:Hid (xZ xs=none):=zm2;have a:=D.trans (W.mono (by have:=D.size;omega));have r:BoxC K N #[U O 0,U O 0,U O 0] 36:=(a.block N oA).trans m;have aC:=((((aj.below W).other (b:=N) (o:=0) R (U O 0)).other (b:=N) (o:=1) R (U O 0)).other (b:=N) (o:=2) R (U O 0)).mono (B':=N) oA;have g:Hid (Below N w (((K.setCell (A N 0 none) (U O 0)).setCell (A N 1 none) (U O 0)).setCell (A N 2 none) (U O 0))):=(((k.trans (a.mono oA)).setCell (Nat.le_refl N) _).setCell (Nat.le_refl N) _).setCell (Nat.le_refl N) _;have aP:=r.cell 0 rfl;have aQ:=r.cell 1 rfl;have aR:=r.cell 2 rfl;have aU:=r.fz 0;have aV:=r.fz 1;have aW:=r.fz 2;clear c a D W aj S m r k R;have au:=show Hid _ from C
 clear C;go_wp2;refine leaves_cons (f:=55) (args:=#[Zp (Z (A N 0 none))]) oC oR ?_;refine(ztj _ _).mono ?_;rintro h aN b6 ⟨rfl,rfl,aI⟩;subst aI;refine⟨.tuple #[J aL (TkF L).length aM,Za #[U O 0,U O 0,U O 0]],?_,?_⟩;·simp[results,results23,go_sem,aP,aQ,aR]
 ·unfold OrE;rw[ar.out];exact⟨by rw[<- a5.out];exact g.out,_,rfl,by rw[au.out,<- a5.out];exact aC⟩
theorem zgr {a:Zw} {c d e f g v:Zv} (i:List Zv) (B:Nat) (b:BoxC a B #[c,d,e] 36):(results f10 (List.toArray (f :: g :: v :: Zp (Z (A B 0 none)) :: i))).run prog a=.ok (.tuple #[v,Za #[c,d,e]]) a:=by
 have h:=kc36;have j:=b.cell 0 rfl;have k:=b.cell 1 rfl;have l:=b.cell 2 rfl;simp[results,results10,go_sem,j,k,l,h]
theorem ze0 (w:Zw) (G:gQ w) (xs:List ByteArray) (tv:Zv) (t:zH w tv xs) : Calls prog 10 #[tv] w (OrE w xs (orderF xs)):=by
 have Q:=kc36;obtain⟨a2,a3,rfl⟩:∃c d,tv=J c xs.length d:=by obtain⟨c,d,h,_⟩:=t;exact⟨c,d,h⟩
 have V:xs.length<=9223372036854775807:=by obtain⟨_,_,_,r,_⟩:=t;exact r
 have i:=(Below.refl w.heap.size w).alloc (jE _) (Zc #[U O 0,U O 0,U O 0] 36);have y:=(Below.refl w.heap.size w).alloc (jE _) (Zc #[U O 0,U O 1,U O 0] 36);have j:=fun g D=>zx5 _ (vZ G i) xs _ (xN t i) g D
 have n:=show Hid _ from zwd xs
 by_cases m:xs.length=0
 ·have f:Hid (orderF xs=Z (0,1,0)):=by show _=_;rw[n.out,jv (.inl m)]
  clear j;rw[m];exact zmx
 ·have W:((xs.length:Int)==0)=X:=beq_eq_false_iff_ne.2 oA;by_cases g:6<xs.length
  ·have f:Hid (orderF xs=Z (0,1,0)):=by show _=_;rw[n.out,jv (.inr g)]
   have E:decide (6<(xs.length:Int))=H:=decide_eq_true oA;clear j m g;exact zmx
  ·have f:Hid (orderF xs=xZ xs):=by show _=_;rw[n.out,ju oA]
   have E:decide (6<(xs.length:Int))=X:=decide_eq_false oA;have k:=j oA oA;have a:=BoxC.new w #[U O 0,U O 0,U O 0] 36;have x:(w.alloc (Zc #[U O 0,U O 0,U O 0] 36)).heap.size=w.heap.size+1:=oC;clear j m g;unfold OrE at k;rw[x]at k;go_enter func10,ntmps10;go_wp2_with (fail);refine k.mono ?_;clear k;rintro h P ⟨u,l⟩;replace a:=a.below (by rw[x];exact u);have z:Below w.heap.size w P:=i.trans (u.mono oA);have a5:=a.cell 0 rfl;have a6:=a.cell 1 rfl;have a7:=a.cell 2 rfl;have R:=a.fz 0;have S:=a.fz 1;have T:=a.fz 2;clear i y u x
   cases e:xZ xs with
   | some q =>
    rw[e]at l;subst l;have p:Hid (orderF xs=Z q):=by show _=_;rw[f.out,e]
    clear e;go_wp2;refine jU (v:=.tuple #[J none 0 0,Za #[U O q.1,U O q.2.1,U O q.2.2]]) (zgr _ _ (by have:=((a.set 0 (U O q.1)).set 1 (U O q.2.1)).set 2 (U O q.2.2);simpa using this)) rfl ?_;unfold OrE;rw[p.out]
    exact⟨((z.setCell (Nat.le_refl w.heap.size) _).setCell (Nat.le_refl w.heap.size) _).setCell (Nat.le_refl w.heap.size) _,rfl⟩
   | none =>
    rw[e]at l;obtain⟨N,rfl,s⟩:=l;have p:Hid (orderF xs=none):=by show _=_;rw[f.out,e]
    obtain⟨L,on,M,rfl⟩:∃c K d,N=J c K d:=by obtain⟨c,d,h,_⟩:=s;exact⟨c,_,d,h⟩
    have C:=show Hid _ from((((s.other (b:=w.heap.size) (o:=0) oA (U O 0)).other (b:=w.heap.size) (o:=1) oA (U O 0)).other (b:=w.heap.size) (o:=2) oA (U O 0)).mono (B':=w.heap.size) oA)
    clear e s;go_wp2;refine jU (v:=.tuple #[J L on M,Za #[U O 0,U O 0,U O 0]]) (zgr _ _ (by have:=((a.set 0 (U O 0)).set 1 (U O 0)).set 2 (U O 0);simpa using this)) rfl ?_;unfold OrE;rw[p.out];exact⟨((z.setCell (Nat.le_refl w.heap.size) _).setCell (Nat.le_refl w.heap.size) _).setCell (Nat.le_refl w.heap.size) _,_,rfl,C.out⟩
end ord
namespace ord
open Go.RowKit Go.Shelf
open syn face chk
theorem kid_is {c:Kid} {f:ByteArray} {b:Tree} (a:c.tree=.node 4 f 2 [b]):c=.proc f H X none [] b:=by
 cases c with
 | imp g=>unfold Kid.tree at a;injection a with h1;exact absurd h1 oD
 | var g e d k=>cases k<;>(unfold Kid.tree at a;injection a with h1;exact absurd h1 oD)
 | proc g e d i ps l =>
  unfold Kid.tree at a;injection a with h1 h2 h3 h4;subst h2
  have j:ps=[]:=by
   cases ps with
   | nil=>rfl
   | cons q m =>
    have:=congrArg List.length h4;simp at this
  subst j;simp at h4;subst h4;cases e<;>cases d<;>(cases i with | none=>(first | rfl | (exact absurd h3 oD)) | some h=>cases h<;>exact absurd h3 oD)
theorem order_code {xs:List ByteArray} {q:Tr} (a:orderF xs=Z q):q.2.1≠0:=by
 have n:∀(b:List ByteArray) d,yT b d=Z q->q.2.1≠0:=by
  intro b
  induction b with
  | nil=>intro d a;cases a
  | cons g f ih =>
   intro d a;unfold yT at a;split at a;·rename_i h;injection a with a;subst a;exact h
   ·exact ih _ a
 have l:∀(b j:List ByteArray),yR j b=Z q->q.2.1≠0:=by
  intro b
  induction b with
  | nil=>intro j a;cases a
  | cons g f ih =>
   intro j a;unfold yR at a;split at a
   ·injection a with a;subst a;show(5:Int)≠0
    decide
   ·exact ih _ a
 have hi:∀(e b:List ByteArray) d i,vD e d b i=Z q->q.2.1≠0:=by
  intro e b
  induction b with
  | nil=>intro d i a;cases a
  | cons g f ih =>
   intro d i a;unfold vD at a;split at a;·exact ih _ _ a
   ·injection a with a;subst a;show(4:Int)≠0
    decide
 have m:∀(e:List ByteArray) (b:List (List ByteArray)) d,xX e b d=Z q->q.2.1≠0:=by
  intro e b
  induction b with
  | nil=>intro d a;cases a
  | cons g f ih =>
   intro d a;unfold xX at a;split at a;·rename_i t c;injection a with a;subst a;exact hi _ _ _ _ c
   ·exact ih _ a
 have k:∀(b:List Nat),yU xs b=Z q->q.2.1≠0:=by
  intro b
  induction b with
  | nil=>intro a;cases a
  | cons g f ih =>
   intro a;unfold yU at a;simp only at a;split at a;·rename_i h;injection a with a;subst a;exact h
   ·exact ih a
 unfold orderF at a;split at a
 ·injection a with a;subst a
  decide
 split at a;·rename_i t c;injection a with a;subst a;exact n _ _ c
 split at a;·rename_i t c;injection a with a;subst a;exact l _ _ c
 split at a;·rename_i t c;injection a with a;subst a;exact m _ _ _ c
 split at a
 ·rename_i t c;injection a with a;subst a;unfold xY at c;rw[Option.map_eq_some_iff]at c;obtain⟨d,_,rfl⟩:=c;show(3:Int)≠0
  decide
 split at a;·rename_i t c;injection a with a;subst a;exact k _ c
 unfold uG at a;split at a
 ·injection a with a;subst a
  decide
 ·split at a;·cases a
  ·injection a with a;subst a
   decide
end ord
end Go.Proofs.YtbjppepjmcfkaaaGreatDoor
