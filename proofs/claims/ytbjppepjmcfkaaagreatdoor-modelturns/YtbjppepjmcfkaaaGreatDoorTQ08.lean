/- What the program's IsName answers of a text: a contract. -/
import Derived.Test.YtbjppepjmcfkaaaGreatDoorTQr
import Derived.Test.YtbjppepjmcfkaaaGreatDoorTQ07
open Go.Proofs.Tryz
open Go.Value renaming int → U, string → I, slice → J, bool → Y, agg → Za, pointer → Zp
open Go.IntKind renaming i64 → O
open Go.Obj renaming cells → Zc
open Go.Addr renaming mk → A
open Option renaming none → F, some → Z
open Bool renaming false → X, true → H
open Go renaming World → Zw, Value → Zv
set_option maxHeartbeats 4000000
set_option linter.unusedVariables false
set_option linter.unusedSimpArgs false
set_option maxRecDepth 100000
namespace Go.Proofs.YtbjppepjmcfkaaaGreatDoor
theorem uB {c:Prop} (f:c:=by
 simp only[Bool.true_or,Bool.or_true,Bool.false_or,Bool.not_true,Bool.false_and];go_enter func69,ntmps69;go_wp2;go_ret
 exact⟨rfl,bal _⟩):c:=f
theorem zps {y:Prop} (Q:y:=by
 have n:Hid (d=X):=by show _=_;rw[E.out];unfold zbb;rw[D.out,g.out];rfl
 go_enter func34,ntmps34;go_wp2_with (go_at_call 38;refine c.mono ?_;rintro h z ⟨v,rfl,e,i⟩;obtain⟨K,L,rfl,_,_⟩:=own_shape e);go_ret
 exact⟨by rw[n.out];rfl,i.alloc i.size _⟩):y:=Q
theorem zeo {f:Prop} (D:f:=by
 have:=l.dc.lt;omega):f:=D
theorem zpv {f:Prop} (D:f:=by
 go_wp2_with (go_at_call 148;refine cc.mono ?_;rintro d t ⟨rfl,cy⟩;obtain rfl:=cy.symm)
 exact⟨rfl,bu,.inr (.inr (.inl ⟨aa,ay,bs.out,rfl⟩))⟩):f:=D
theorem zpy {f:Prop} (D:f:=by
 exact⟨rfl,(s.trans (a7.mono s.size)).mono oA,.inr (.inl ⟨aa,bB,rfl⟩)⟩):f:=D
theorem zep {f:Prop} (D:f:=by
 have:=l.dc.lt;omega):f:=D
theorem zpu {e:Prop} (k:e:=by
 go_wp2_with (go_at_call 72;refine a3.mono ?_;rintro m aj ⟨rfl,G,o⟩);go_roundw
 case rel=>exact⟨b+1,oA,oM,o,(C.alloc oA _).trans G⟩
 case measure=>simp[intOf];omega):e:=k
theorem zpw {y:Prop} (j:y:=by
 exact⟨rfl,(u.trans (a6.mono u.size)).mono oA,.inl ⟨_,zs4 E aA,rfl⟩⟩):y:=j
theorem zpx {y:Prop} (j:y:=by
 exact⟨rfl,(u.trans (a6.mono u.size)).mono oA,.inl ⟨_,zst E,rfl⟩⟩):y:=j
theorem zeq {y:Prop} (j:y:=by
 have:=l.dc.lt;omega):y:=j
theorem zpt {g:Prop} (u:g:=by
 go_wp2_with (fail);refine N.mono ?_;rintro k bF ⟨ak,(⟨bB,W,rfl⟩|⟨W,_⟩)⟩;·cases W;go_wp2;exact⟨rfl,(s.alloc oA _).trans ak,.inl ⟨q,aa.out.trans z.out,rfl⟩⟩
 ·cases W):g:=u
namespace face
open Go.RowKit Go.Maps
open syn
def AV (c:Nat) (w:Zw) (D a b:Nat) (g:Option Nat) (i d:Zv) (f:ByteArray) (V:List VarD) (P:List (ProcD × Zv)) (is h ns j:List ByteArray) (at_:Int) (x:ByteArray) (p l:Bool) (n:Option Int) (e:Ending) (w':Zw):Prop :=
 Below a w w' /\
  ((kJ ns x=H/\e=.panicked (qG 5 at_))\/(kJ ns x=X/\20<=ns.length/\e=.panicked (qG 1 at_)) \/
   (kJ ns x=X/\ns.length<20/\(∃k,n=Z k/\(k<1\/64<k))/\e=.panicked (qG 6 at_)) \/
   (kJ ns x=X/\ns.length<20/\(∀k,n=Z k->1<=k/\k<=64)/\e=.returned (.tuple #[])/\KZ c w w'/\∃m,DI w' D a b g m i d f (V++if p then[yW x p l n] else[]) P is h (ns++[x]) j at_))
variable {c:Int} {d f:List ByteArray} {h:ByteArray} {i j s u:Nat} {y:Option Int}
theorem zzu {c u Q:Nat} {ak:Option Nat} {ac ag af:Zv} {an:ByteArray} {a6:List VarD} {E:List (ProcD × Zv)} {is ao ab au:List ByteArray} {at_:Int} (a:ByteArray) (f b:Bool) (N:Option Int) (v:Zv) (w:Zw) (ar:Lies (·<u) w (Kid.var a f b N).tree v) (D:DI w c u Q ak ac ag af an a6 E is ao ab au at_) (cH:a.size<=16) (cp:ab.length<=20) (d5:a6.length<=20) (a8:Nat) (bb:a8<w.heap.size) (cd:c<a8) (cf:ac.ownBlock≠Z a8) : Calls prog 111 #[Zp (Z (A c 0 F)),v] w (AV a8 w c u Q ak ag af an a6 E is ao ab au at_ a f b N):=by
 have c6:=kc25;have cR:prog.cellsOf 87=4:=cell4;obtain⟨bo,hi,bj,bm,bn⟩:=info_parts ze8;have aN:=ar;rw[Kid.tree_is]at ar;unfold Lies at ar;obtain⟨C,G,rfl,bf,b6⟩:=ar;simp only[Kid.kind,Kid.text,Kid.num]at *
 have bA:0<(Kid.var a f b N).kids.length->∃(ae P:Nat) (g:Int) (aT:Option Addr) (b0:Nat),C=Z (A ae P F)/\(Kid.var a f b N).kids.length=1/\N=Z g/\ae<u/\w.cell? (A ae P F)=Z (U O 15)/\w.cell? (A ae (P+1) F)=Z (I empty)/\w.cell? (A ae (P+2) F)=Z (U O g)/\w.cell? (A ae (P+3) F)=Z (J aT 0 b0):=by
  intro ba
  cases N with
  | none=>simp[Kid.kids]at ba
  | some g =>
   obtain⟨ae,P,rfl,T,bz⟩:=b6 (by simp[Kid.kids]);unfold Kid.kids at bz
   obtain⟨⟨dm,⟨dp,dq,dr,ds,rfl,aV,aW,aX,aY⟩,bG⟩,_⟩:=bz
   unfold Lies at bG;obtain⟨bX,c8,c9,_,_⟩:=bG;cases c9;exact⟨ae,P,g,bX,c8,rfl,by simp[Kid.kids],rfl,T,aV,aW,aX,aY⟩
 have bM:(Kid.var a f b N).kids.length=0->∀g,N=Z g->1<=g/\g<=64:=by
  intro ba g d;subst d;simp[Kid.kids]at ba
 have da:(Kid.var a f b N).kids.length<=1:=by cases N<;>simp[Kid.kids]
 have cn:u<=w.heap.size:=by have:=D.lm;have:=D.ld;have:=D.dc.lt;omega
 have bw:∀o,Below u w o->Calls prog 108 #[Za #[U O 3,I a,U O (2*bI f+bI b),J C (Kid.var a f b N).kids.length G]] o fun d w'=>d=.returned (qE (yW a f b N))/\Below o.heap.size o w':=fun o aI=>zh7 a f b N _ o (aN.to (fun r a7=>by have:=aI.size;show r<o.heap.size;have cg:r<u:=a7;omega) (fun r a7 P=>aI.cell (p:=(A r P F)) a7))
 clear b6 bf aN;generalize 2*bI f+bI b=L at *;generalize (Kid.var a f b N).kids.length=B at *;have ci:=D.dc.lt;have co:=D.lm;have cj:=D.ld;have aF:=D.below (bal (Zc #[U O 3,I a,U O L,J C B G] 25));have K:DI (w.alloc (Zc #[U O 3,I a,U O L,J C B G] 25)).drew c u Q ak ac ag af an a6 E is ao ab au at_:=aF.below ⟨rfl,rfl,rfl,jE _,fun _ _=>rfl⟩;clear aF;have R:Q4 w.heap.size (U O 3) (I a) (U O L) (J C B G) (w.alloc (Zc #[U O 3,I a,U O L,J C B G] 25)).drew:=⟨oC,oC,oC,oC⟩
 have s:Below w.heap.size w (w.alloc (Zc #[U O 3,I a,U O L,J C B G] 25)).drew:=(bal _).drew;have am:KZ a8 w (w.alloc (Zc #[U O 3,I a,U O L,J C B G] 25)).drew:=((KZ.mk rfl bb).alloc _).drew;have a5:(w.alloc (Zc #[U O 3,I a,U O L,J C B G] 25)).drew.cell? (A c 5 F)=Z (.map (Z Q))/\(w.alloc (Zc #[U O 3,I a,U O L,J C B G] 25)).drew.cell? (A w.heap.size 1 F)=Z (I a):=⟨K.dc.c5,R.2.1⟩
 go_enter func111,ntmps111;go_wp2;refine wp_region_held_drew (S:=fun o=>o.cell? (A c 5 F)=Z (.map (Z Q))/\o.cell? (A w.heap.size 1 F)=Z (I a)) oB a5 (fun k=>?_);clear k;generalize (w.alloc (Zc #[U O 3,I a,U O L,J C B G] 25)).drew=o at *;refine tkP 0 (Zp (Z (A c 0 F))) a5 ?_;simp only[Act.put,jA,jB,jC];refine tkP 1 (Zp (Z (A c 0 F))) a5 ?_;simp only[Act.put,jA,jB,jC];refine tkP 2 (Zp (Z (A c 0 F))) a5 ?_;simp only[Act.put,jA,jB,jC];refine tkP 3 (Zp (Z (A c 5 F))) a5 ?_;simp only[Act.put,jA,jB,jC];refine tkP 4 (.map (Z Q)) a5 ?_;simp only[Act.put,jA,jB,jC];refine tkP 5 (Zp (Z (A w.heap.size 1 F))) a5 ?_;simp only[Act.put,jA,jB,jC];refine tkP 6 (I a) a5 ?_;simp only[Act.put,jA,jB,jC];refine oneH 7 fun x h=>?_
 go_simp;go_at_call 110;refine(oEnter c Q ab a 20 at_ o K.dc.c7 K.od K.ad oA oA oA).mono ?_;rintro d aD (⟨aa,rfl,a7⟩|⟨aa,bB,rfl,a7⟩|⟨aa,ay,rfl,aL,aJ,T⟩);·go_wp2;exact⟨rfl,(s.trans (a7.mono s.size)).mono oA,.inl ⟨aa,rfl⟩⟩
 ·go_wp2;exact zpy
 go_wp2;replace R:=Q4.grown R T oE;have a9:=K.enterD aL aJ T;have ah:Below u w aD:=(s.mono oA).grown T (by have:=s.size;omega) (fun g d=>by cases d;omega);have aC:=am.grown T oE;clear s aL aJ T K am;refine h.out _ _ ⟨a9.dc.c5,R.2.1⟩ (fun k=>?_);clear h x k;refine wpAnyH_done oB ?_ _;obtain⟨aO,aP,aQ,aR⟩:=id R;go_wp2;go_loopw [18] (fun bp wr=>∃M:Nat,M<=B/\bp=U O M/\Hid (M=B->∀g,N=Z g->1<=g/\g<=64)/\DI wr c u Q ak ac ag af an a6 E is ao (ab++[a]) au at_/\Q4 w.heap.size (U O 3) (I a) (U O L) (J C B G) wr/\Below u w wr/\KZ a8 w wr) (fun bp _=>B - (intOf bp).toNat)
 case atStart=>exact⟨0,jz _,rfl,fun d=>bM d.symm,a9,R,ah,aC⟩
 case round =>
  clear aC ah R a9 aO aP aQ aR;obtain⟨M,d6,rfl,bq,K,R,s,am⟩:=hrel;obtain⟨aO,aP,aQ,aR⟩:=id R;by_cases db:M<B
  ·obtain⟨ae,P,g,aT,b0,rfl,rfl,rfl,T,aV,aW,aX,aY⟩:=bA oA;have be:M=0:=oA;subst be;have dh:=(s.cell (p:=(A ae P F)) T).trans aV;have di:=(s.cell (p:=(A ae (P+1) F)) T).trans aW;have dj:=(s.cell (p:=(A ae (P+2) F)) T).trans aX;have dk:=(s.cell (p:=(A ae (P+3) F)) T).trans aY;have df:=s.size;have bv:=K.below (bal (Zc #[U O 15,I empty,U O g,J aT 0 b0] 25));have bu:=s.alloc oA (Zc #[U O 15,I empty,U O g,J aT 0 b0] 25);have cc:=oRefuse c 6 at_ _ bv.dc.c7;clear aV aW aX aY;by_cases ct:g<1
   ·have bs:Hid (∃aw,Z g=Z aw/\(aw<1\/64<aw)):=⟨g,rfl,.inl ct⟩
    exact zpv
   by_cases cu:64<g
   ·have bs:Hid (∃aw,Z g=Z aw/\(aw<1\/64<aw)):=⟨g,rfl,.inr cu⟩
    exact zpv
   go_wp2;go_roundw
   case rel=>exact⟨1,oA,oM,fun _ aw d=>by cases d;omega,bv,R.alloc _,bu,am.alloc _⟩
   case measure=>simp[intOf]
  ·have be:M=B:=oA;subst be;have br:Hid (∀g,N=Z g->1<=g/\g<=64):=bq.out rfl;clear bq bA bM;cases f
   ·go_wp2_with (go_at_call 108;refine(bw _ s).mono ?_;rintro d t ⟨rfl,y⟩;unfold qE yW)
    go_end0
    refine⟨((s.trans (y.mono (by have:=s.size;omega)))).alloc (by have:=s.size;have:=y.size;omega) _,.inr (.inr (.inr ⟨aa,ay,br.out,rfl,(am.below y).alloc _,ac,?_⟩))⟩;have ap:=(K.below y).below (bal (Zc #[I a,Y X,U O (bI b),U O (N.getD 0)] 87));simpa using ap
   go_wp2_with (go_at_call 108;refine(bw _ s).mono ?_;rintro d t ⟨rfl,y⟩;unfold qE yW);generalize bK:N.getD 0=p;have l:DI (t.alloc (Zc #[I a,Y H,U O (bI b),U O p] 87)).drew c u Q ak ac ag af an a6 E is ao (ab++[a]) au at_:=((K.below y).below (bal (Zc #[I a,Y H,U O (bI b),U O p] 87))).below ⟨rfl,rfl,rfl,jE _,fun _ _=>rfl⟩;have a2:Below u w (t.alloc (Zc #[I a,Y H,U O (bI b),U O p] 87)).drew:=((s.trans (y.mono (by have:=s.size;omega))).alloc (by have:=s.size;have:=y.size;omega) _).drew;have e:Q4 t.heap.size (I a) (Y H) (U O (bI b)) (U O p) (t.alloc (Zc #[I a,Y H,U O (bI b),U O p] 87)).drew:=⟨oC,oC,oC,oC⟩
   have a3:KZ a8 w (t.alloc (Zc #[I a,Y H,U O (bI b),U O p] 87)).drew:=((am.below y).alloc _).drew;have d1:c<t.heap.size:=by have:=K.dc.lt;have:=y.size;omega
   have cx:∀g,ac.ownBlock=Z g->g<t.heap.size:=fun g d=>by have:=(K.fr.ov.lt _ d).2;have:=y.size;omega
   clear am K s R aO aP aQ aR y;refine wp_region_held_drew (S:=fun o=>Q4 t.heap.size (I a) (Y H) (U O (bI b)) (U O p) o) oB e (fun k=>?_);clear k;generalize (t.alloc (Zc #[I a,Y H,U O (bI b),U O p] 87)).drew=z at *;generalize t.heap.size=aS at *;obtain⟨b8,b9,rfl⟩:=l.fr.shapeV;refine tkP 0 (Zp (Z (A c 0 F))) e ?_;simp only[Act.put,jA,jB,jC];refine tkP 1 (Zp (Z (A c 0 F))) e ?_;simp only[Act.put,jA,jB,jC];refine tkP 2 (Zp (Z (A c 0 F))) e ?_;simp only[Act.put,jA,jB,jC];refine tkP 3 (Zp (Z (A c 0 F))) e ?_;simp only[Act.put,jA,jB,jC];refine tkP 4 (Zp (Z (A c 1 F))) e ?_;simp only[Act.put,jA,jB,jC];refine tkP 6 (Za #[I a,Y H,U O (bI b),U O p] ) e ?_;simp only[Act.put,jA,jB,jC];refine wpAnyH_ready (rs:=[5,7]) oB oC ?_;refine AllReadyH.cons rfl (fun x h=>?_) (AllReadyH.cons rfl (fun x h=>?_) AllReadyH.nil)
   focus
    have aj:=l.dc.c1;go_simp;refine h.out _ _ e (fun k=>?_);clear h x k aj;refine oneH 7 fun x h=>?_
    go_simp;have aM:∀M V,[Value.string a,Y H,U O (bI b),U O p][M]?=Z V->(z.alloc (Zc #[I a,Y H,U O (bI b),U O p] 87)).cell? (((A z.heap.size 0 F):Addr).add M)=Z V:=zZ _ #[I a,Y H,U O (bI b),U O p] _ _ rfl;have aA:z.heap.size+1=(z.alloc (Zc #[I a,Y H,U O (bI b),U O p] 87)).heap.size:=oC;replace a2:=a2.alloc zeo (Zc #[I a,Y H,U O (bI b),U O p] 87);replace a3:=a3.alloc (Zc #[I a,Y H,U O (bI b),U O p] 87);replace l:=l.below (bal (Zc #[I a,Y H,U O (bI b),U O p] 87));replace e:=Q4.alloc e (Zc #[I a,Y H,U O (bI b),U O p] 87);refine h.out _ _ e (fun k=>?_);clear h x k;generalize z.alloc (Zc #[I a,Y H,U O (bI b),U O p] 87)=aE at *;generalize z.heap.size=aB at *
   rotate_left
   focus
    go_simp;have aM:∀M V,[Value.string a,Y H,U O (bI b),U O p][M]?=Z V->(z.alloc (Zc #[I a,Y H,U O (bI b),U O p] 87)).cell? (((A z.heap.size 0 F):Addr).add M)=Z V:=zZ _ #[I a,Y H,U O (bI b),U O p] _ _ rfl;have aA:z.heap.size+1=(z.alloc (Zc #[I a,Y H,U O (bI b),U O p] 87)).heap.size:=oC;replace a2:=a2.alloc zeo (Zc #[I a,Y H,U O (bI b),U O p] 87);replace a3:=a3.alloc (Zc #[I a,Y H,U O (bI b),U O p] 87);replace l:=l.below (bal (Zc #[I a,Y H,U O (bI b),U O p] 87));replace e:=Q4.alloc e (Zc #[I a,Y H,U O (bI b),U O p] 87);refine h.out _ _ e (fun k=>?_);clear h x k;generalize z.alloc (Zc #[I a,Y H,U O (bI b),U O p] 87)=aE at *;generalize z.heap.size=aB at *;refine oneH 5 fun x h=>?_
    have aj:=l.dc.c1;go_simp;refine h.out _ _ e (fun k=>?_);clear h x k aj
   all_goals
    refine oneH 8 fun x h=>?_
    refine step_append_lies _ oG (.tmp 42) (.tmp 44) 52 oG (c+1) 87 bo (Za #[I ⟨#[]⟩,Y X,U O 0,U O 0]) 4 40 underlying52 hi bj bm bn rfl oD (J b8 a6.length b9) a6.length (qZ a6) oJ l.fr.ov (A aB 0 F) 1 1 [I a,Y H,U O (bI b),U O p] oJ rfl aM oI oA (by unfold maxLen;omega) oA zeo (aB+1) aA.symm ?_;intro b2 aZ bN bg ai bc cm;have bi:(Value.slice b8 a6.length b9).ownBlock≠Z aS:=fun d=>by have:=cx _ d;omega
    have bh:(Value.slice b8 a6.length b9).ownBlock≠Z c:=fun d=>by have:=(l.fr.ov.lt _ d).1;omega
    have ap:=l.pushV (v:=⟨a,H,bI b,p⟩) bg ai (bc.imp id (fun d=>d.trans aA));replace e:=Q4.grown e ai bi;replace a3:=a3.grown ai cf;replace a2:=a2.grown ai zeo (fun g d=>by have:=(l.fr.ov.lt _ d).1;omega);have ax:=l.dc.grown ai bh;have aj:=ax.c1;have b7:=ax.fz 1;clear l ax;refine h.out _ _ e (fun k=>?_);clear h x k;simp only[Act.put,jA,jB,jC];refine tkP 9 (Zp (Z (A c 0 F))) e ?_;simp only[Act.put,jA,jB,jC];refine tkP 10 (Zp (Z (A c 0 F))) e ?_;simp only[Act.put,jA,jB,jC];refine tkP 11 (Zp (Z (A c 1 F))) e ?_;simp only[Act.put,jA,jB,jC];refine oneH 12 fun x h=>?_
    go_simp;refine h.out _ _ (Q4.other oA e _ _) (fun k=>?_);clear h x k aj b7;refine wpAnyH_done oB ?_ _;have bR:Hid (yW a H b N=⟨a,H,bI b,p⟩):=by show _=_;unfold yW;rw[bK]
    clear bK;go_wp2
    go_end0
    exact⟨a2.setCell (by show u<=c;omega) _,.inr (.inr (.inr ⟨aa,ay,br.out,rfl,a3.set oA _,_,by rw[jv rfl,bR.out];exact ap⟩))⟩
def AP (d:Nat) (w:Zw) (D a c:Nat) (m h:Zv) (i:ByteArray) (V:List VarD) (P:List (ProcD × Zv)) (is j ns:List ByteArray) (at_:Int) (x:ByteArray) (p l:Bool) (g:Option Bool) (ps:List (ByteArray × Bool)) (e:Ending) (w':Zw):Prop :=
 Below a w w' /\
  ((kJ ns x=H/\e=.panicked (qG 5 at_))\/(kJ ns x=X/\20<=ns.length/\e=.panicked (qG 1 at_)) \/
   (kJ ns x=X/\ns.length<20/\5<ps.length/\e=.panicked (qG 1 at_)) \/
   (kJ ns x=X/\ns.length<20/\ps.length<=5/\e=.returned (.tuple #[])/\KZ d w w'/\∃f k b,DI w' D a c (Z f) m k h i V b is j (ns++[x]) [] at_/\b.map (·.1)=P.map (·.1)++if p then[qB x p l g ps] else[]))
theorem zx4 {c u Q:Nat} {ak:Option Nat} {ac ag af:Zv} {an:ByteArray} {a6:List VarD} {E:List (ProcD × Zv)} {is ao ab au:List ByteArray} {at_:Int} (a:ByteArray) (f b:Bool) (W:Option Bool) (ps:List (ByteArray × Bool)) (r:Tree) (v:Zv) (w:Zw) (ar:Lies (·<u) w (Kid.proc a f b W ps r).tree v) (D:DI w c u Q ak ac ag af an a6 E is ao ab au at_) (cH:a.size<=16) (cp:ab.length<=20) (d4:E.length<=20) (cr:ps.length<=1000) (cb:InT r) (a8:Nat) (bb:a8<w.heap.size) (cd:c<a8) (ce:ag.ownBlock≠Z a8) : Calls prog 112 #[Zp (Z (A c 0 F)),v] w (AP a8 w c u Q ac af an a6 E is ao ab at_ a f b W ps):=by
 have c6:=kc25;have d0:prog.cellsOf 91=6:=dP;obtain⟨bo,hi,bj,bm,bn⟩:=info_parts zro;have dd:=@run_makeMap prog;have aN:=ar;rw[Kid.tree_is]at ar;unfold Lies at ar;obtain⟨C,G,rfl,bf,b6⟩:=ar;simp only[Kid.kind,Kid.text,Kid.num]at *;have cn:u<=w.heap.size:=by have:=D.lm;have:=D.ld;have:=D.dc.lt;omega
 have aH:∀o,Below u w o->Calls prog 127 #[Za #[U O 4,I a,U O (2*bI f+bI b+gI W),J C (Kid.proc a f b W ps r).kids.length G]] o fun d w'=>∃V,d=.returned (zN (qB a f b W ps) V)/\w'.ownsRow o.heap.size 3 1 V ps.length (intV (ps.map fun q=>bI q.2))/\Below o.heap.size o w':=fun o aI=>zhe a f b W ps r _ o (aN.to (fun r a7=>by have:=aI.size;show r<o.heap.size;have cg:r<u:=a7;omega) (fun r a7 P=>aI.cell (p:=(A r P F)) a7)) cr cb
 clear b6 bf aN;generalize 2*bI f+bI b+gI W=L at *;generalize (Kid.proc a f b W ps r).kids.length=B at *;have ci:=D.dc.lt;have co:=D.lm;have cj:=D.ld;have aF:=D.below (bal (Zc #[U O 4,I a,U O L,J C B G] 25));have K:DI (w.alloc (Zc #[U O 4,I a,U O L,J C B G] 25)).drew c u Q ak ac ag af an a6 E is ao ab au at_:=aF.below ⟨rfl,rfl,rfl,jE _,fun _ _=>rfl⟩;clear aF;have R:Q4 w.heap.size (U O 4) (I a) (U O L) (J C B G) (w.alloc (Zc #[U O 4,I a,U O L,J C B G] 25)).drew:=⟨oC,oC,oC,oC⟩
 have s:Below w.heap.size w (w.alloc (Zc #[U O 4,I a,U O L,J C B G] 25)).drew:=(bal _).drew;have am:KZ a8 w (w.alloc (Zc #[U O 4,I a,U O L,J C B G] 25)).drew:=((KZ.mk rfl bb).alloc _).drew;have a5:(w.alloc (Zc #[U O 4,I a,U O L,J C B G] 25)).drew.cell? (A c 5 F)=Z (.map (Z Q))/\(w.alloc (Zc #[U O 4,I a,U O L,J C B G] 25)).drew.cell? (A w.heap.size 1 F)=Z (I a):=⟨K.dc.c5,R.2.1⟩
 go_enter func112,ntmps112;go_wp2;refine wp_region_held_drew (S:=fun o=>o.cell? (A c 5 F)=Z (.map (Z Q))/\o.cell? (A w.heap.size 1 F)=Z (I a)) oB a5 (fun k=>?_);clear k;generalize (w.alloc (Zc #[U O 4,I a,U O L,J C B G] 25)).drew=o at *;refine tkP 0 (Zp (Z (A c 0 F))) a5 ?_;simp only[Act.put,jA,jB,jC];refine tkP 1 (Zp (Z (A c 0 F))) a5 ?_;simp only[Act.put,jA,jB,jC];refine tkP 2 (Zp (Z (A c 0 F))) a5 ?_;simp only[Act.put,jA,jB,jC];refine tkP 3 (Zp (Z (A c 5 F))) a5 ?_;simp only[Act.put,jA,jB,jC];refine tkP 4 (.map (Z Q)) a5 ?_;simp only[Act.put,jA,jB,jC];refine tkP 5 (Zp (Z (A w.heap.size 1 F))) a5 ?_;simp only[Act.put,jA,jB,jC];refine tkP 6 (I a) a5 ?_;simp only[Act.put,jA,jB,jC];refine oneH 7 fun x h=>?_
 go_simp;go_at_call 110;refine(oEnter c Q ab a 20 at_ o K.dc.c7 K.od K.ad oA oA oA).mono ?_;rintro d aD (⟨aa,rfl,a7⟩|⟨aa,bB,rfl,a7⟩|⟨aa,ay,rfl,aL,aJ,T⟩);·go_wp2;exact⟨rfl,(s.trans (a7.mono s.size)).mono oA,.inl ⟨aa,rfl⟩⟩
 ·go_wp2;exact zpy
 go_wp2;replace R:=Q4.grown R T oE;have a9:=K.enterD aL aJ T;have ah:Below u w aD:=(s.mono oA).grown T (by have:=s.size;omega) (fun g d=>by cases d;omega);have aC:=am.grown T oE;clear s aL aJ T K am;refine h.out _ _ ⟨a9.dc.c5,R.2.1⟩ (fun k=>?_);clear h x k;refine wpAnyH_done oB ?_ _;obtain⟨aO,aP,aQ,aR⟩:=id R;have de:=ah.size;by_cases ca:5<ps.length
 ·go_wp2_with first
   | (go_at_call 127;refine(aH _ ah).mono ?_;rintro d t ⟨V,rfl,az,y⟩;unfold zN qB;obtain⟨i,j,rfl,_,_⟩:=lexs.own_shape az;have l:=(a9.below y).below (bal (Zc #[I a,Y f,J i ps.length j,U O (bI b),Y W.isSome,U O (bI (W.getD X))] 91)))
   | (go_at_call 148;refine(oRefuse c _ at_ _ l.dc.c7).mono ?_;rintro d dn ⟨rfl,cz⟩;obtain rfl:=cz.symm)
  exact⟨rfl,(ah.trans (y.mono oA)).alloc (by have:=y.size;omega) _,.inr (.inr (.inl ⟨aa,ay,ca,rfl⟩))⟩
 have HS:Hid (ps.length<=5):=by show _<=_;omega
 cases f
 ·go_wp2_with first
   | (go_at_call 127;refine(aH _ ah).mono ?_;rintro d t ⟨V,rfl,az,y⟩;unfold zN qB;obtain⟨i,j,rfl,_,_⟩:=lexs.own_shape az;have l:=(a9.below y).below (bal (Zc #[I a,Y X,J i ps.length j,U O (bI b),Y W.isSome,U O (bI (W.getD X))] 91));have aG:=l.below (bal (.map #[] 0));have cL:=aG.dc.c6;have b7:=aG.dc.fz 6)
  have ap:=l.newP (bal (.map #[] 0)) (World.ownsMap_made _ _ _ _);have cv:=y.size
  go_end0
  exact⟨((((ah.trans (y.mono oA)).alloc oA _).alloc oE _).setCell (by show u<=c;omega) _),.inr (.inr (.inr ⟨aa,ay,HS.out,rfl,(((aC.below y).alloc _).alloc _).set oA _,_,ag,E,by simpa using ap,oC⟩))⟩
 have bP:Hid (qB a H b W ps=⟨a,H,ps.map fun q=>bI q.2,bI b,W.isSome,bI (W.getD X)⟩):=rfl;unfold zN qB at aH;simp only at aH;generalize W.isSome=n at *;generalize bI (W.getD X)=m at *
 go_wp2_with first
  | (go_at_call 127;refine(aH _ ah).mono ?_;rintro d t ⟨V,rfl,az,y⟩;obtain⟨i,j,rfl,_,_⟩:=lexs.own_shape az)
 have cv:=y.size;have cq:yM (fun r=>aD.heap.size<=r/\r<t.heap.size) t (J i ps.length j) (ps.map fun q=>bI q.2):=yM.own (by rw[List.length_map];exact az);have l:DI (t.alloc (Zc #[I a,Y H,J i ps.length j,U O (bI b),Y n,U O m] 91)).drew c u Q ak ac ag af an a6 E is ao (ab++[a]) au at_:=((a9.below y).below (bal (Zc #[I a,Y H,J i ps.length j,U O (bI b),Y n,U O m] 91))).below ⟨rfl,rfl,rfl,jE _,fun _ _=>rfl⟩;have a2:Below u w (t.alloc (Zc #[I a,Y H,J i ps.length j,U O (bI b),Y n,U O m] 91)).drew:=((ah.trans (y.mono oA)).alloc oA _).drew;have a3:KZ a8 w (t.alloc (Zc #[I a,Y H,J i ps.length j,U O (bI b),Y n,U O m] 91)).drew:=((aC.below y).alloc _).drew;have av:Below t.heap.size t (t.alloc (Zc #[I a,Y H,J i ps.length j,U O (bI b),Y n,U O m] 91)).drew:=(bal _).drew;have e:Box6 (t.alloc (Zc #[I a,Y H,J i ps.length j,U O (bI b),Y n,U O m] 91)).drew t.heap.size (I a) (Y H) (J i ps.length j) (U O (bI b)) (Y n) (U O m):=(Box6.new t _ _ _ _ _ _ _).drew
 have aK:∀g,(ac.ownBlock=Z g\/ag.ownBlock=Z g\/af.ownBlock=Z g\/ak=Z g)->g<aD.heap.size:=fun g d=>by
  rcases d with d | d | d | d
  ·exact(a9.fr.ov.lt _ d).2
  ·exact(a9.fr.op.lt _ d).2
  ·exact(a9.oi.lt _ d).2
  ·exact(a9.op g d).lt
 have d2:=a9.dc.lt;clear aC a9 ah R aO aP aQ aR az y;refine wp_region_held_drew (S:=fun o=>Box6 o t.heap.size (I a) (Y H) (J i ps.length j) (U O (bI b)) (Y n) (U O m)) oB e (fun k=>?_);clear k;generalize (t.alloc (Zc #[I a,Y H,J i ps.length j,U O (bI b),Y n,U O m] 91)).drew=z at *;generalize d3:t.heap.size=aS at *;obtain⟨aU,b1,rfl⟩:=l.fr.shapeP;refine tkP 0 (Zp (Z (A c 0 F))) e ?_;simp only[Act.put,jA,jB,jC];refine tkP 1 (Zp (Z (A c 0 F))) e ?_;simp only[Act.put,jA,jB,jC];refine tkP 2 (Zp (Z (A c 0 F))) e ?_;simp only[Act.put,jA,jB,jC];refine tkP 3 (Zp (Z (A c 0 F))) e ?_;simp only[Act.put,jA,jB,jC];refine tkP 4 (Zp (Z (A c 2 F))) e ?_;simp only[Act.put,jA,jB,jC];refine tkP 6 (Za #[I a,Y H,J i ps.length j,U O (bI b),Y n,U O m] ) e ?_;simp only[Act.put,jA,jB,jC];refine wpAnyH_ready (rs:=[5,7]) oB oC ?_;refine AllReadyH.cons rfl (fun x h=>?_) (AllReadyH.cons rfl (fun x h=>?_) AllReadyH.nil)
 focus
  have aj:=l.dc.c2;go_simp;refine h.out _ _ e (fun k=>?_);clear h x k aj;refine oneH 7 fun x h=>?_
  go_simp;have aM:∀M V,[Value.string a,Y H,J i ps.length j,U O (bI b),Y n,U O m][M]?=Z V->(z.alloc (Zc #[I a,Y H,J i ps.length j,U O (bI b),Y n,U O m] 91)).cell? (((A z.heap.size 0 F):Addr).add M)=Z V:=zZ _ #[I a,Y H,J i ps.length j,U O (bI b),Y n,U O m] _ _ rfl;have aA:z.heap.size+1=(z.alloc (Zc #[I a,Y H,J i ps.length j,U O (bI b),Y n,U O m] 91)).heap.size:=oC;replace a3:=a3.alloc (Zc #[I a,Y H,J i ps.length j,U O (bI b),Y n,U O m] 91);replace a2:=a2.alloc zep (Zc #[I a,Y H,J i ps.length j,U O (bI b),Y n,U O m] 91);replace av:=av.alloc (by have:=av.size;omega) (Zc #[I a,Y H,J i ps.length j,U O (bI b),Y n,U O m] 91);replace l:=l.below (bal (Zc #[I a,Y H,J i ps.length j,U O (bI b),Y n,U O m] 91));replace e:=e.alloc (Zc #[I a,Y H,J i ps.length j,U O (bI b),Y n,U O m] 91);refine h.out _ _ e (fun k=>?_);clear h x k;generalize z.alloc (Zc #[I a,Y H,J i ps.length j,U O (bI b),Y n,U O m] 91)=aE at *;generalize z.heap.size=aB at *
 rotate_left
 focus
  go_simp;have aM:∀M V,[Value.string a,Y H,J i ps.length j,U O (bI b),Y n,U O m][M]?=Z V->(z.alloc (Zc #[I a,Y H,J i ps.length j,U O (bI b),Y n,U O m] 91)).cell? (((A z.heap.size 0 F):Addr).add M)=Z V:=zZ _ #[I a,Y H,J i ps.length j,U O (bI b),Y n,U O m] _ _ rfl;have aA:z.heap.size+1=(z.alloc (Zc #[I a,Y H,J i ps.length j,U O (bI b),Y n,U O m] 91)).heap.size:=oC;replace a3:=a3.alloc (Zc #[I a,Y H,J i ps.length j,U O (bI b),Y n,U O m] 91);replace a2:=a2.alloc zep (Zc #[I a,Y H,J i ps.length j,U O (bI b),Y n,U O m] 91);replace av:=av.alloc (by have:=av.size;omega) (Zc #[I a,Y H,J i ps.length j,U O (bI b),Y n,U O m] 91);replace l:=l.below (bal (Zc #[I a,Y H,J i ps.length j,U O (bI b),Y n,U O m] 91));replace e:=e.alloc (Zc #[I a,Y H,J i ps.length j,U O (bI b),Y n,U O m] 91);refine h.out _ _ e (fun k=>?_);clear h x k;generalize z.alloc (Zc #[I a,Y H,J i ps.length j,U O (bI b),Y n,U O m] 91)=aE at *;generalize z.heap.size=aB at *;refine oneH 5 fun x h=>?_
  have aj:=l.dc.c2;go_simp;refine h.out _ _ e (fun k=>?_);clear h x k aj
 all_goals
  refine oneH 8 fun x h=>?_
  refine step_append_lies _ oG (.tmp 28) (.tmp 30) 53 oG (c+1) 91 bo (Za #[I ⟨#[]⟩,Y X,J F 0 0,U O 0,Y X,U O 0]) 6 72 underlying53 hi bj bm bn rfl oD (J aU E.length b1) E.length (xO E) oJ l.fr.op (A aB 0 F) 1 1 [I a,Y H,J i ps.length j,U O (bI b),Y n,U O m] oJ rfl aM (by intro V bF;simp at bF;rcases bF with rfl | rfl | rfl | rfl | rfl | rfl<;>rfl) oA (by unfold maxLen;omega) oA zep (aB+1) aA.symm ?_;intro b2 aZ bN bg ai bc cm;have bi:(Value.slice aU E.length b1).ownBlock≠Z aS:=fun d=>by have:=aK _ (.inr (.inl d));omega
  have bh:(Value.slice aU E.length b1).ownBlock≠Z c:=fun d=>by have:=(l.fr.op.lt _ d).1;omega
  have bC:yM (fun r=>c+1<=r/\r<aE.heap.size/\ac.ownBlock≠Z r/\(Value.slice aU E.length b1).ownBlock≠Z r/\¬(af.ownBlock=Z r\/ak=Z r)) aE (J i ps.length j) (ps.map fun q=>bI q.2) :=
   cq.to (fun r a7=>⟨oA,by have:=av.size;omega,fun d=>by have:=aK _ (.inl d);omega,fun d=>by have:=aK _ (.inr (.inl d));omega,fun d=>by rcases d with d | d;have:=aK _ (.inr (.inr (.inl d)));omega;have:=aK _ (.inr (.inr (.inr d)));omega⟩) (fun r a7 P v ch=>(av.cell (p:=(A r P F)) (by show r<aS;omega)).trans ch)
  have ap:=l.pushP (q:=(⟨a,H,ps.map fun q=>bI q.2,bI b,n,m⟩,J i ps.length j)) bg ai (bc.imp id (fun d=>d.trans aA)) bC;replace e:=e.grown ai bi;replace a3:=a3.grown ai ce;replace a2:=a2.grown ai zep (fun g d=>by have:=(l.fr.op.lt _ d).1;omega);have ax:=l.dc.grown ai bh;have aj:=ax.c2;have b7:=ax.fz 2;clear l ax bC;refine h.out _ _ e (fun k=>?_);clear h x k;simp only[Act.put,jA,jB,jC];refine tkP 9 (Zp (Z (A c 0 F))) e ?_;simp only[Act.put,jA,jB,jC];refine tkP 10 (Zp (Z (A c 0 F))) e ?_;simp only[Act.put,jA,jB,jC];refine tkP 11 (Zp (Z (A c 2 F))) e ?_;simp only[Act.put,jA,jB,jC];refine oneH 12 fun x h=>?_
  go_simp;refine h.out _ _ (e.other oA _) (fun k=>?_);clear h x k aj b7 e;refine wpAnyH_done oB ?_ _;replace a3:=a3.set (D:=c) (o:=2) oA (J (Z (A b2 0 F)) (E.length+1) aZ);replace a2:=a2.setCell (p:=(A c 2 F)) (by show u<=c;omega) (J (Z (A b2 0 F)) (E.length+1) aZ);generalize (World.setCell bN (A c 2 F) _)=bS at *;have aG:=ap.below (bal (.map #[] 0));have cL:=aG.dc.c6;have dl:=aG.dc.fz 6;have ck:=ap.newP (bal (.map #[] 0)) (World.ownsMap_made _ _ _ _);have cw:=ap.dc.lt;go_wp2
  go_end0
  exact⟨(a2.setCell (by show u<=c;omega) _).alloc oY _,.inr (.inr (.inr ⟨aa,ay,HS.out,rfl,(a3.set oA _).alloc _,bS.heap.size,J (Z (A b2 0 F)) (E.length+1) aZ,E++[(⟨a,H,ps.map fun q=>bI q.2,bI b,n,m⟩,J i ps.length j)],by rw[<- World.setCell_alloc_past (hn:=cw)];exact ck,by rw[jv rfl,bP.out,List.map_append];rfl⟩))⟩
theorem zex {w wr:Zw} {b:List Tree} (z:qF (·<i) w b j s) (D:j<i) (y:Below i w wr) (E:u<b.length) : ∃(f:Int) (k:ByteArray) (g:Int) (c:Option Addr) (h d:Nat),wr.cell? (A j (s+u*4) F)=Z (U O f)/\wr.cell? (A j (s+u*4+1) F)=Z (I k)/\wr.cell? (A j (s+u*4+2) F)=Z (U O g)/\wr.cell? (A j (s+u*4+3) F)=Z (J c h d)/\Lies (·<i) wr b[u] (Za #[U O f,I k,U O g,J c h d]):=by
 have B:=z.to (w':=wr) (Q:=(·<i)) (fun _ x=>x) (fun m C s=>y.cell (p:=(A m s F)) C) D
 obtain⟨v,⟨N,P,R,S,rfl,n,o,q,r⟩,e⟩:=B.get u E;obtain⟨G,M,K,_,a,l,L,t,rfl⟩:=e.shape;injection a with a;simp only[Array.mk.injEq,jq,and_true]at a;obtain⟨rfl,rfl,rfl,rfl⟩:=a;exact⟨G,M,K,l,L,t,n,o,q,r,e⟩
theorem Lies.alloc' {w:Zw} {c:Tree} {v:Zv} (a:Lies (·<i) w c v) (e:i<=w.heap.size) (b:Obj):Lies (·<i) (w.alloc b) c v :=
 a.to (fun _ a=>a) (fun d f g=>((Below.refl w.heap.size w).alloc (jE _) b).cell (p:=(A d g F)) (jo f e))
theorem zhb:∀ {d:List Tree} (a:InL d) (c:Nat) (b:c<d.length),InT d[c]
 | [],_,c,b=>by simp at b
 | t :: r,a,0,b=>by unfold InL at a;exact a.1
 | t :: r,a,c+1,b=>by unfold InL at a;exact zhb a.2 c (by simpa using b)
theorem vIn {g d q:Nat} {u:Option Nat} {D y s:Zv} {t:ByteArray} {p:List VarD} {r:List (ProcD × Zv)} {is x n z:List ByteArray} (l:Tree) (v:Zv) (w:Zw) (at_:Int) (L:Lies (·<d) w l v) (ap:InT l) (k:DI w g d q u D y s t p r is x n z at_) (aB:0<=at_) (ad:at_+kD l<=1000000) : Calls prog 72 #[Zp (Z (A g 0 F)),v] w fun m w'=>m=.returned (.tuple #[])/\Below d w w'/\DI w' g d q u D y s t p r is x n z (at_+kD l):=by
 have az:=kc25
 match l with
 | .node h c W a =>
  have ih:∀N (hi:N<a.length) (v:Zv) (w:Zw) (at_:Int),Lies (·<d) w a[N] v->InT a[N]->DI w g d q u D y s t p r is x n z at_->0<=at_->at_+kD a[N]<=1000000 ->
    Calls prog 72 #[Zp (Z (A g 0 F)),v] w fun m w'=>m=.returned (.tuple #[])/\Below d w w'/\DI w' g d q u D y s t p r is x n z (at_+kD a[N]):=fun N hi v w at_ aC aD aE aF aG=>vIn a[N] v w at_ aC aD aE aF aG
  unfold Lies at L;obtain⟨E,P,rfl,aM,V⟩:=L;unfold InT at ap;obtain⟨b6,ac⟩:=ap;have aa:kD (.node h c W a)=1+kC a:=by unfold kD;omega
  rw[aa]at ad |-;have aI:=kX a;have aW:¬h=1:=oA;have aX:¬h=2:=oA;have aY:¬h=3:=oA;have aZ:¬h=4:=oA;have b0:¬h=5:=oA;have aP:=k.lm;have aJ:=k.ld;have ab:=k.dc.lt;have a5:=k.below (bal (Zc #[U O h,I c,U O W,J E a.length P] 25));have o:=a5.setAt (at_+1);have a9:Below d w ((w.alloc (Zc #[U O h,I c,U O W,J E a.length P] 25)).setCell (A g 7 F) (U O (at_+1))):=((Below.refl _ _).alloc oA _).setCell (by show d<=g;omega) _;have af:=a5.dc.c7;have ag:=a5.dc.fz 7;rw[World.setCell_alloc_past (hn:=ab)]at o a9;clear a5 k;go_enter func72,ntmps72;go_wp2;clear af ag;simp only[show(h==1)=X by simpa using aW,show(h==2)=X by simpa using aX,show(h==3)=X by simpa using aY,show(h==4)=X by simpa using aZ,show(h==5)=X by simpa using b0];go_loopw [75] (fun l wr=>∃b:Nat,b<=a.length/\l=U O b/\DI wr g d q u D y s t p r is x n z (at_+1+kC (a.take b))/\Below d w wr) (fun l _=>a.length - (intOf l).toNat)
  case atStart=>exact⟨0,jz _,rfl,by simpa[kC] using o,a9⟩
  case round =>
   clear o a9;obtain⟨b,aL,rfl,B,C⟩:=hrel;by_cases j:b<a.length
   ·obtain⟨Q,b1,rfl,T,S⟩:=V (by intro m;rw[m]at j;simp at j);obtain⟨ae,ak,ah,a7,ai,a8,aw,ax,ay,aA,M⟩:=zex S T C j;have aR:=fE a b j;have aS:=fA a (b+1);have aT:=kU a[b];have aU:=kX (a.take b);have aV:=C.size;have a3:=ih b j _ (wr.alloc (Zc #[U O ae,I ak,U O ah,J a7 ai a8] 25)) _ (Lies.alloc' M oA _) (zhb ac b j) (B.below (bal _)) oA oA;have aK:Q<wr.heap.size:=by have:Q<d:=T;omega
    rw[show at_+1+kC (a.take b)+kD a[b]=at_+1+kC (a.take (b+1)) by omega]at a3;clear ih B M V S
    exact zpu
   ·rw[jG oA]at B;go_wp2
    go_end0
    exact⟨rfl,C,by rw[show at_+(1+kC a)=at_+1+kC a by omega];exact B⟩
termination_by SizeOf.sizeOf l
decreasing_by exact zh4 hi
def VR (a:Nat) (w:Zw) (r:Option (Int × Int)) (b:Zw->Prop) (e:Ending) (w':Zw):Prop :=
 Below a w w'/\((∃q,r=Z q/\e=.panicked (qG q.1 q.2))\/(r=F/\e=.returned (.tuple #[])/\b w'))
def uE (L:List ByteArray) (x:ByteArray) (kF:Nat) (a:Int):Option (Int × Int):=if kJ L x then Z (5,a)else if kF<=L.length then Z (1,a)else F
theorem zst {kF:Nat} (a:kJ d h=H):uE d h kF c=Z (5,c):=by unfold uE;rw[jv a]
theorem zs4 {kF:Nat} (a:kJ d h=X) (b:kF<=d.length):uE d h kF c=Z (1,c):=by unfold uE;rw[ju (by simp[a]),jv b]
theorem zj7 {kF:Nat} (a:kJ d h=X) (b:d.length<kF):uE d h kF c=F:=by unfold uE;rw[ju (by simp[a]),ju oA]
theorem yea {b e G B:Nat} {T R N:Zv} {P:ByteArray} {L:List VarD} {K:List (ProcD × Zv)} {is x Q z:List ByteArray} (a:ByteArray) (g:Int) (v:Zv) (w:Zw) (at_:Int) (a8:Lies (·<e) w (.node 5 a g []) v) (j:DI w b e G (Z B) T R N P L K is x Q z at_) (aF:0<=at_) (aL:at_<=1000000) (aS:a.size<=16) (aO:z.length<=5) : Calls prog 72 #[Zp (Z (A b 0 F)),v] w (VR e w (uE z a 5 at_) fun w'=>DI w' b e G (Z B) T R N P L K is x Q (z++[a]) (at_+1)):=by
 unfold Lies at a8;obtain⟨h,i,rfl,_,_⟩:=a8;simp only[je]at *;have aZ:=j.lp B rfl;have b0:=(j.op B rfl).lt;have aE:=kc25;have aM:=j.lm;have aK:=j.ld;have aJ:=j.dc.lt;have a3:=j.below (bal (Zc #[U O 5,I a,U O g,J h 0 i] 25));have p:DI (w.alloc (Zc #[U O 5,I a,U O g,J h 0 i] 25)).drew b e G (Z B) T R N P L K is x Q z at_:=a3.below ⟨rfl,rfl,rfl,jE _,fun _ _=>rfl⟩;clear a3;have q:Q4 w.heap.size (U O 5) (I a) (U O g) (J h 0 i) (w.alloc (Zc #[U O 5,I a,U O g,J h 0 i] 25)).drew:=⟨oC,oC,oC,oC⟩
 have u:Below w.heap.size w (w.alloc (Zc #[U O 5,I a,U O g,J h 0 i] 25)).drew:=(bal _).drew;have k:(w.alloc (Zc #[U O 5,I a,U O g,J h 0 i] 25)).drew.cell? (A b 6 F)=Z (.map (Z B))/\(w.alloc (Zc #[U O 5,I a,U O g,J h 0 i] 25)).drew.cell? (A w.heap.size 1 F)=Z (I a):=⟨p.dc.c6,q.2.1⟩
 go_enter func72,ntmps72;go_wp2;refine wp_region_held_drew (S:=fun t=>t.cell? (A b 6 F)=Z (.map (Z B))/\t.cell? (A w.heap.size 1 F)=Z (I a)) oB k (fun f=>?_);clear f;generalize (w.alloc (Zc #[U O 5,I a,U O g,J h 0 i] 25)).drew=t at *;refine tkP 0 (Zp (Z (A b 0 F))) k ?_;simp only[Act.put,jA,jB,jC];refine tkP 1 (Zp (Z (A b 0 F))) k ?_;simp only[Act.put,jA,jB,jC];refine tkP 2 (Zp (Z (A b 0 F))) k ?_;simp only[Act.put,jA,jB,jC];refine tkP 3 (Zp (Z (A b 6 F))) k ?_;simp only[Act.put,jA,jB,jC];refine tkP 4 (.map (Z B)) k ?_;simp only[Act.put,jA,jB,jC];refine tkP 5 (Zp (Z (A w.heap.size 1 F))) k ?_;simp only[Act.put,jA,jB,jC];refine tkP 6 (I a) k ?_;simp only[Act.put,jA,jB,jC];refine oneH 7 fun m d=>?_
 go_simp;go_at_call 110;refine(oEnter b B z a 5 at_ t p.dc.c7 (p.op B rfl) p.aq oA oA oA).mono ?_;rintro n V (⟨E,rfl,a6⟩|⟨E,aA,rfl,a6⟩|⟨E,ao,rfl,a7,a5,D⟩);·go_wp2;exact zpx
 ·go_wp2;exact zpw
 have C:=p.enterP a7 a5 D;go_wp2;replace q:=Q4.grown q D oE;have a2:Below e w V:=(u.mono oA).grown D (by have:=u.size;omega) (fun W n=>by cases n;omega);clear u a7 a5 D p;refine d.out _ _ ⟨C.dc.c6,q.2.1⟩ (fun f=>?_);clear d m f;refine wpAnyH_done oB ?_ _;obtain⟨au,av,aw,ax⟩:=id q;have ar:=C.dc.c7;have ab:=C.dc.fz 7;have l:=C.setAt (at_+1);have s:=a2.setCell (p:=(A b 7 F)) (by show e<=b;omega) (U O (at_+1));clear C a2;go_wp2;clear ar ab;go_loopw [75] (fun ac wr=>ac=U O 0/\wr=V.setCell (A b 7 F) (U O (at_+1))) (fun ac _=>0)
 case atStart=>exact⟨rfl,rfl⟩
 case round =>
  obtain⟨rfl,rfl⟩:=hrel;go_wp2
  go_end0
  exact⟨s,.inr ⟨zj7 E ao,rfl,l⟩⟩
theorem yd7 {b e G:Nat} {ag:Option Nat} {T R N:Zv} {P:ByteArray} {L:List VarD} {K:List (ProcD × Zv)} {is x Q z:List ByteArray} (a:ByteArray) (g:Int) (v:Zv) (w:Zw) (at_:Int) (a8:Lies (·<e) w (.node 2 a g []) v) (j:DI w b e G ag T R N P L K is x Q z at_) (aF:0<=at_) (aL:at_<=1000000) (aS:a.size<=16) (aO:x.length<=6) (b1:is.length<=6) : Calls prog 72 #[Zp (Z (A b 0 F)),v] w (VR e w (uE x a 6 at_) fun w'=>∃aX,DI w' b e G ag T R aX P L K (is++[a]) (x++[a]) Q z (at_+1)):=by
 obtain⟨aW,hi,aT,aU,aV⟩:=info_parts zrp;unfold Lies at a8;obtain⟨h,i,rfl,_,_⟩:=a8;simp only[je]at *;have aE:=kc25;have aM:=j.lm;have aK:=j.ld;have aJ:=j.dc.lt;have a3:=j.below (bal (Zc #[U O 2,I a,U O g,J h 0 i] 25));have p:DI (w.alloc (Zc #[U O 2,I a,U O g,J h 0 i] 25)).drew b e G ag T R N P L K is x Q z at_:=a3.below ⟨rfl,rfl,rfl,jE _,fun _ _=>rfl⟩;clear a3;have q:Q4 w.heap.size (U O 2) (I a) (U O g) (J h 0 i) (w.alloc (Zc #[U O 2,I a,U O g,J h 0 i] 25)).drew:=⟨oC,oC,oC,oC⟩
 have u:Below w.heap.size w (w.alloc (Zc #[U O 2,I a,U O g,J h 0 i] 25)).drew:=(bal _).drew;have k:(w.alloc (Zc #[U O 2,I a,U O g,J h 0 i] 25)).drew.cell? (A b 4 F)=Z (.map (Z e))/\(w.alloc (Zc #[U O 2,I a,U O g,J h 0 i] 25)).drew.cell? (A w.heap.size 1 F)=Z (I a):=⟨p.dc.c4,q.2.1⟩
 go_enter func72,ntmps72;go_wp2;refine wp_region_held_drew (S:=fun t=>t.cell? (A b 4 F)=Z (.map (Z e))/\t.cell? (A w.heap.size 1 F)=Z (I a)) oB k (fun f=>?_);clear f;generalize (w.alloc (Zc #[U O 2,I a,U O g,J h 0 i] 25)).drew=t at *;refine tkP 0 (Zp (Z (A b 0 F))) k ?_;simp only[Act.put,jA,jB,jC];refine tkP 1 (Zp (Z (A b 0 F))) k ?_;simp only[Act.put,jA,jB,jC];refine tkP 2 (Zp (Z (A b 0 F))) k ?_;simp only[Act.put,jA,jB,jC];refine tkP 3 (Zp (Z (A b 4 F))) k ?_;simp only[Act.put,jA,jB,jC];refine tkP 4 (.map (Z e)) k ?_;simp only[Act.put,jA,jB,jC];refine tkP 5 (Zp (Z (A w.heap.size 1 F))) k ?_;simp only[Act.put,jA,jB,jC];refine tkP 6 (I a) k ?_;simp only[Act.put,jA,jB,jC];refine oneH 7 fun m d=>?_
 go_simp;go_at_call 110;refine(oEnter b e x a 6 at_ t p.dc.c7 p.om p.am oA oA oA).mono ?_;rintro n V (⟨E,rfl,a6⟩|⟨E,aA,rfl,a6⟩|⟨E,ao,rfl,a7,a5,D⟩);·go_wp2;exact zpx
 ·go_wp2;exact zpw
 have C:=p.enterM a7 a5 D;go_wp2;replace q:=Q4.grown q D oE;have a2:Below e w V:=(u.mono oA).grown D (by have:=u.size;omega) (fun W n=>by cases n;omega);clear u a7 a5 D p;refine d.out _ _ ⟨C.dc.c4,q.2.1⟩ (fun f=>?_);clear d m f;refine wpAnyH_done oB ?_ _;obtain⟨au,av,aw,ax⟩:=id q;have l:DI V.drew b e G ag T R N P L K is (x++[a]) Q z at_:=C.below ⟨rfl,rfl,rfl,jE _,fun _ _=>rfl⟩;have s:=a2.drew;have c:Q4 w.heap.size (U O 2) (I a) (U O g) (J h 0 i) V.drew:=q;have aR:∀W,N.ownBlock=Z W->W<w.heap.size:=fun W n=>(j.oi.lt _ n).2
 clear C a2 q j;go_wp2;clear au av aw ax;refine wp_region_held_drew (S:=fun t=>Q4 w.heap.size (U O 2) (I a) (U O g) (J h 0 i) t) oB c (fun f=>?_);clear f;generalize V.drew=r at *;generalize w.heap.size=az at *;obtain⟨ah,aj,rfl,_,_⟩:=lexs.own_shape l.oi;refine tkP 0 (Zp (Z (A b 0 F))) c ?_;simp only[Act.put,jA,jB,jC];refine tkP 1 (Zp (Z (A b 0 F))) c ?_;simp only[Act.put,jA,jB,jC];refine tkP 2 (Zp (Z (A b 0 F))) c ?_;simp only[Act.put,jA,jB,jC];refine tkP 3 (Zp (Z (A b 3 F))) c ?_;simp only[Act.put,jA,jB,jC];refine tkP 5 (Zp (Z (A az 1 F))) c ?_;simp only[Act.put,jA,jB,jC];refine tkP 6 (I a) c ?_;simp only[Act.put,jA,jB,jC];refine wpAnyH_ready (rs:=[4,7]) oB oC ?_;refine AllReadyH.cons rfl (fun m d=>?_) (AllReadyH.cons rfl (fun m d=>?_) AllReadyH.nil)
 focus
  have aa:=l.dc.c3;go_simp;refine d.out _ _ c (fun f=>?_);clear d m f aa;refine oneH 7 fun m d=>?_
  go_simp;have aB:∀a9 ad,[Value.string a][a9]?=Z ad->(r.alloc (Zc #[I a] 9)).cell? (((A r.heap.size 0 F):Addr).add a9)=Z ad:=zaq _ _ _ rfl;have ap:r.heap.size+1=(r.alloc (Zc #[I a] 9)).heap.size:=oC;replace s:=s.alloc zeq (Zc #[I a] 9);replace l:=l.below (bal (Zc #[I a] 9));replace c:=Q4.alloc c (Zc #[I a] 9);refine d.out _ _ c (fun f=>?_);clear d m f;generalize r.alloc (Zc #[I a] 9)=aC at *;generalize r.heap.size=ay at *
 rotate_left
 focus
  go_simp;have aB:∀a9 ad,[Value.string a][a9]?=Z ad->(r.alloc (Zc #[I a] 9)).cell? (((A r.heap.size 0 F):Addr).add a9)=Z ad:=zaq _ _ _ rfl;have ap:r.heap.size+1=(r.alloc (Zc #[I a] 9)).heap.size:=oC;replace s:=s.alloc zeq (Zc #[I a] 9);replace l:=l.below (bal (Zc #[I a] 9));replace c:=Q4.alloc c (Zc #[I a] 9);refine d.out _ _ c (fun f=>?_);clear d m f;generalize r.alloc (Zc #[I a] 9)=aC at *;generalize r.heap.size=ay at *;refine oneH 4 fun m d=>?_
  have aa:=l.dc.c3;go_simp;refine d.out _ _ c (fun f=>?_);clear d m f aa
 all_goals
  refine oneH 8 fun m d=>?_
  refine step_append_lies _ oG (.tmp 38) (.tmp 41) 33 oG (b+1) 9 aW (I ⟨#[]⟩) 1 16 underlying33 hi aT aU aV rfl oD (J ah is.length aj) is.length (vY is) oJ l.oi (A ay 0 F) 1 1 [I a] oJ rfl aB (zjw a) oA (by unfold maxLen;omega) oA zeq (ay+1) ap.symm ?_;intro ak ai aY aN af aI b2;have aQ:(Value.slice ah is.length aj).ownBlock≠Z az:=fun n=>by have:=aR _ n;omega
  have aP:(Value.slice ah is.length aj).ownBlock≠Z b:=fun n=>by have:=(l.oi.lt _ n).1;omega
  have ae:=l.pushI (x:=a) aN af (aI.imp id (fun n=>n.trans ap));replace c:=Q4.grown c af aQ;replace s:=s.grown af zeq (fun W n=>by have:=(l.oi.lt _ n).1;omega);have an:=l.dc.grown af aP;have aa:=an.c3;have ab:=an.fz 3;clear l an;refine d.out _ _ c (fun f=>?_);clear d m f;simp only[Act.put,jA,jB,jC];refine tkP 9 (Zp (Z (A b 0 F))) c ?_;simp only[Act.put,jA,jB,jC];refine tkP 10 (Zp (Z (A b 3 F))) c ?_;simp only[Act.put,jA,jB,jC];refine oneH 11 fun m d=>?_
  go_simp;refine d.out _ _ (Q4.other oA c _ _) (fun f=>?_);clear d m f aa ab;replace s:=s.setCell (p:=(A b 3 F)) (by show e<=b;omega) (J (Z (A ak 0 F)) (is.length+1) ai);replace c:=Q4.other (M:=b) (o:=3) oA c (J (Z (A ak 0 F)) (is.length+1) ai);refine wpAnyH_done oB ?_ _;obtain⟨au,av,aw,ax⟩:=id c;have ar:=ae.dc.c7;have ab:=ae.dc.fz 7;generalize aY.setCell (A b 3 F) (J (Z (A ak 0 F)) (is.length+1) ai)=aD at *;have aH:=ae.setAt (at_+1);have aG:=s.setCell (p:=(A b 7 F)) (by show e<=b;omega) (U O (at_+1));clear ae s;go_wp2;clear ar ab;go_loopw [75] (fun ac wr=>ac=U O 0/\wr=aD.setCell (A b 7 F) (U O (at_+1))) (fun ac _=>0)
  case atStart=>exact⟨rfl,rfl⟩
  case round =>
   obtain⟨rfl,rfl⟩:=hrel;go_wp2
   go_end0
   exact⟨aG,.inr ⟨zj7 E ao,rfl,_,aH⟩⟩
def onP {α:Type} (p:Bool) (x:α):List α:=if p then[x] else[]
def gZ (ns:List ByteArray) (x:ByteArray) (n:Option Int) (a:Int):Option (Int × Int):=if kJ ns x then Z (5,a)else if 20<=ns.length then Z (1,a)else gC n a
def uM (ns:List ByteArray) (x:ByteArray) (ps:List (ByteArray × Bool)) (a:Int):Option (Int × Int):=if kJ ns x then Z (5,a)else if 20<=ns.length then Z (1,a)else if 5<ps.length then Z (1,a)else uO [] ps (a+1)
theorem zzk (d:ByteArray) (c b:Bool) (a:Option Int):InL (Kid.var d c b a).kids:=by
 cases a with
 | none=>unfold Kid.kids InL;trivial
 | some e=>unfold Kid.kids InL InL;exact⟨zat (.inr oA),trivial⟩
theorem rangeF_ok (b:∀a,y=Z a->1<=a/\a<=64):gC y c=F:=by
 cases y with
 | none=>rfl
 | some a=>have:=b a rfl;show(if a<1\/64<a then _ else _)=_;rw[ju oA]
theorem zuj (b:∃a,y=Z a/\(a<1\/64<a)):gC y c=Z (6,c):=by
 obtain⟨a,rfl,b⟩:=b;show(if a<1\/64<a then _ else _)=_;rw[jv b]
theorem ych (a:kJ d h=H):gZ d h y c=Z (5,c):=by unfold gZ;rw[jv a]
theorem yci (a:kJ d h=X) (b:20<=d.length):gZ d h y c=Z (1,c):=by unfold gZ;rw[ju (by simp[a]),jv b]
theorem zrd (a:kJ d h=X) (b:d.length<20):gZ d h y c=gC y c:=by unfold gZ;rw[ju (by simp[a]),ju oA]
theorem yag {ps:List (ByteArray × Bool)} (a:kJ d h=H):uM d h ps c=Z (5,c):=by unfold uM;rw[jv a]
theorem yah {ps:List (ByteArray × Bool)} (a:kJ d h=X) (b:20<=d.length):uM d h ps c=Z (1,c):=by unfold uM;rw[ju (by simp[a]),jv b]
theorem yai {ps:List (ByteArray × Bool)} (a:kJ d h=X) (e:d.length<20) (b:5<ps.length):uM d h ps c=Z (1,c):=by unfold uM;rw[ju (by simp[a]),ju oA,jv b]
theorem yaj {ps:List (ByteArray × Bool)} (a:kJ d h=X) (b:d.length<20) (e:ps.length<=5):uM d h ps c=uO [] ps (c+1):=by unfold uM;rw[ju (by simp[a]),ju oA,ju oA]
theorem yeb {g d q:Nat} {u:Option Nat} {D y s:Zv} {t:ByteArray} {p:List VarD} {r:List (ProcD × Zv)} {is x n z:List ByteArray} (c:ByteArray) (e i:Bool) (f:Option Int) (v:Zv) (w:Zw) (at_:Int) (L:Lies (·<d) w (Kid.var c e i f).tree v) (k:DI w g d q u D y s t p r is x n z at_) (aB:0<=at_) (ad:at_+kD (Kid.var c e i f).tree<=1000000) (M:c.size<=16) (aQ:n.length<=20) (aH:p.length<=20) : Calls prog 72 #[Zp (Z (A g 0 F)),v] w (VR d w (gZ n c f at_) fun w'=>∃a2,DI w' g d q u a2 y s t (p++onP e (yW c e i f)) r is x (n++[c]) z (at_+kD (Kid.var c e i f).tree)):=by
 have az:=kc25;have au:=L;rw[Kid.tree_is]at L;unfold Lies at L;obtain⟨E,P,rfl,aM,V⟩:=L;have ac:=zzk c e i f;have aa:kD (Kid.var c e i f).tree=1+kC (Kid.var c e i f).kids:=by rw[Kid.tree_is];unfold kD;omega
 rw[aa]at ad |-;have aP:=k.lm;have aJ:=k.ld;have ab:=k.dc.lt;have b7:=(cN k).2.1;have aO:∀h,D.ownBlock=Z h->h<w.heap.size:=fun h m=>(k.fr.ov.lt _ m).2
 have am:=zzu c e i f _ (w.alloc (Zc #[U O (Kid.var c e i f).kind,I (Kid.var c e i f).text,U O (Kid.var c e i f).num,J E (Kid.var c e i f).kids.length P] 25)) (Lies.alloc' au oA _) (k.below (bal _)) M aQ aH w.heap.size oC ab (fun m=>by have:=aO _ m;omega);simp only[Kid.kind,Kid.text]at *;have aI:=kX (Kid.var c e i f).kids;generalize (Kid.var c e i f).num=W at *;generalize (Kid.var c e i f).kids=a at *;have R:Below d w (w.alloc (Zc #[U O 3,I c,U O W,J E a.length P] 25)):=(Below.refl _ _).alloc oA _;clear au k;go_enter func72,ntmps72;go_wp2_with (fail);refine am.mono ?_;rintro m aj ⟨G,(⟨K,rfl⟩|⟨K,aN,rfl⟩|⟨K,j,a6,rfl⟩|⟨K,j,a6,rfl,ar,a2,o⟩)⟩;·go_wp2;exact⟨rfl,R.trans G,.inl ⟨_,ych K,rfl⟩⟩
 ·go_wp2;exact⟨rfl,R.trans G,.inl ⟨_,yci K aN,rfl⟩⟩
 ·go_wp2;exact⟨rfl,R.trans G,.inl ⟨_,(zrd K j).trans (zuj a6),rfl⟩⟩
 have b2:aj.cell? (A w.heap.size 3 F)=Z (J E a.length P):=(jN (a:=(A w.heap.size 3 F)) ar.eq).trans oC;have av:Hid (gZ n c f at_=F):=(zrd K j).trans (rangeF_ok a6);replace o:DI aj g d q u a2 y s t (p++onP e (yW c e i f)) r is x (n++[c]) z at_:=o;have af:=o.dc.c7;have ag:=o.dc.fz 7;have ao:=o.setAt (at_+1);have an:=(R.trans G).setCell (p:=(A g 7 F)) (by show d<=g;omega) (U O (at_+1));clear o am G R a6 ar;go_wp2;clear af ag b2;go_loopw [75] (fun l wr=>∃b:Nat,b<=a.length/\l=U O b/\DI wr g d q u a2 y s t (p++onP e (yW c e i f)) r is x (n++[c]) z (at_+1+kC (a.take b))/\Below d w wr) (fun l _=>a.length - (intOf l).toNat)
 case atStart=>exact⟨0,jz _,rfl,by simpa[kC] using ao,an⟩
 case round =>
  clear ao an;obtain⟨b,aL,rfl,B,C⟩:=hrel;by_cases j:b<a.length
  ·obtain⟨Q,b1,rfl,T,S⟩:=V (by intro m;rw[m]at j;simp at j);obtain⟨ae,ak,ah,a7,ai,a8,aw,ax,ay,aA,M⟩:=zex S T C j;have aR:=fE a b j;have aS:=fA a (b+1);have aT:=kU a[b];have aU:=kX (a.take b);have aV:=C.size;have a3:=vIn a[b] _ (wr.alloc (Zc #[U O ae,I ak,U O ah,J a7 ai a8] 25)) _ (Lies.alloc' M oA _) (zhb ac b j) (B.below (bal _)) oA oA;have aK:Q<wr.heap.size:=by have:Q<d:=T;omega
   rw[show at_+1+kC (a.take b)+kD a[b]=at_+1+kC (a.take (b+1)) by omega]at a3;clear B M V S
   exact zpu
  ·rw[jG oA]at B;go_wp2
   go_end0
   exact⟨C,.inr ⟨av.out,rfl,a2,by rw[show at_+(1+kC a)=at_+1+kC a by omega];exact B⟩⟩
/-! of a procedure -/
theorem zwf {ps:List (ByteArray × Bool)} (c:i<ps.length) (a:Int) (d:Option (Int × Int)) (e:d=uO ((ps.take i).map (·.1)) (ps.drop i) a) : d=match uE ((ps.take i).map (·.1)) ps[i].1 5 a with | some b=>Z b | none=>uO ((ps.take (i+1)).map (·.1)) (ps.drop (i+1)) (a+1):=by
 rw[e,List.drop_eq_getElem_cons c];have b:(ps.take (i+1)).map (·.1)=(ps.take i).map (·.1)++[ps[i].1]:=by rw[List.take_succ_eq_append_getElem c,List.map_append];rfl
 rw[b];unfold uE;show(if _ then _ else _)=_;split;·rfl
 ·split<;>rfl
theorem zlg:∀(ps:List (ByteArray × Bool)),kC (ps.map zD)=ps.length
 | []=>rfl
 | q :: r=>by
  show kD (zD q)+kC (r.map zD)=((r.length+1:Nat):Int)
  rw[zlg r];show kC []+1+(r.length:Int)=_;unfold kC;omega
theorem zkk (ps:List (ByteArray × Bool)) (b:Tree) (a:Nat) (c:a<=ps.length):kC ((ps.map zD++[b]).take a)=a:=by
 rw[List.take_append_of_le_length (by simpa using c),<- List.map_take,zlg,List.length_take];omega
theorem ydf {f e L:Nat} {an:Option Nat} {a9 ae a6:Zv} {ad:ByteArray} {aP:List VarD} {av:List (ProcD × Zv)} {is b0 a7 ao:List ByteArray} (i:ByteArray) (g m:Bool) (p:Option Bool) (ps:List (ByteArray × Bool)) (j:Tree) (v:Zv) (w:Zw) (at_:Int) (T:Lies (·<e) w (Kid.proc i g m p ps j).tree v) (u:DI w f e L an a9 ae a6 ad aP av is b0 a7 ao at_) (df:0<=at_) (cp:at_+kD (Kid.proc i g m p ps j).tree<=1000000) (aT:(Kid.proc i g m p ps j).good) (cr:a7.length<=20) (ce:av.length<=20) (aX:ps.length<=1000) : Calls prog 72 #[Zp (Z (A f 0 F)),v] w (VR e w (uM a7 i ps at_) fun w'=>∃ay K r af,DI w' f e L (Z ay) a9 K a6 ad aP r is b0 (a7++[i]) af (at_+kD (Kid.proc i g m p ps j).tree)/\r.map (·.1)=av.map (·.1)++onP g (qB i g m p ps)):=by
 have c9:=kc25;obtain⟨D,cu,bg⟩:=aT;have bA:=T;rw[Kid.tree_is]at T;unfold Lies at T;obtain⟨x,B,rfl,cn,ac⟩:=T;have cg:kD (Kid.proc i g m p ps j).tree=1+kC (Kid.proc i g m p ps j).kids:=by rw[Kid.tree_is];unfold kD;omega
 rw[cg]at cp |-;have cq:=u.lm;have ci:=u.ld;have bp:=u.dc.lt;have co:∀V,ae.ownBlock=Z V->V<w.heap.size:=fun V k=>(u.fr.op.lt _ k).2
 have ba:=zx4 i g m p ps j _ (w.alloc (Zc #[U O (Kid.proc i g m p ps j).kind,I (Kid.proc i g m p ps j).text,U O (Kid.proc i g m p ps j).num,J x (Kid.proc i g m p ps j).kids.length B] 25)) (Lies.alloc' bA oA _) (u.below (bal _)) D cr ce aX bg w.heap.size oC bp (fun k=>by have:=co _ k;omega);have aV:(Kid.proc i g m p ps j).kids=ps.map zD++[j]:=rfl;simp only[Kid.kind,Kid.text]at *;have dh:=kX (Kid.proc i g m p ps j).kids;generalize (Kid.proc i g m p ps j).num=c at *;generalize (Kid.proc i g m p ps j).kids=h at *;have bq:h.length=ps.length+1:=by rw[aV];simp
 have au:Hid (h=ps.map zD++[j]):=aV;have b8:Hid (h.length=ps.length+1):=bq;have ai:Below e w (w.alloc (Zc #[U O 4,I i,U O c,J x h.length B] 25)):=(Below.refl _ _).alloc oA _;clear bA u aV bq;go_enter func72,ntmps72;go_wp2_with (fail);refine ba.mono ?_;rintro k bC ⟨a3,(⟨C,rfl⟩|⟨C,aW,rfl⟩|⟨C,t,aY,rfl⟩|⟨C,t,aY,rfl,br,ay,K,r,y,bj⟩)⟩;·go_wp2;exact⟨rfl,ai.trans a3,.inl ⟨_,yag C,rfl⟩⟩
 ·go_wp2;exact⟨rfl,ai.trans a3,.inl ⟨_,yah C aW,rfl⟩⟩
 ·go_wp2;exact⟨rfl,ai.trans a3,.inl ⟨_,yai C t aY,rfl⟩⟩
 have b2:bC.cell? (A w.heap.size 3 F)=Z (J x h.length B):=(jN (a:=(A w.heap.size 3 F)) br.eq).trans oC;have o:Hid (uM a7 i ps at_=uO [] ps (at_+1)):=yaj C t aY;have bN:Hid (r.map (·.1)=av.map (·.1)++onP g (qB i g m p ps)):=bj
 have aZ:=y.dc.c7;have cH:=y.dc.fz 7;have E:=y.setAt (at_+1);have aj:=(ai.trans a3).setCell (p:=(A f 7 F)) (by show e<=f;omega) (U O (at_+1));clear y ba a3 ai br bj;obtain⟨n,aa⟩:∃n,Hid (uM a7 i ps at_=n):=⟨_,rfl⟩
 replace o:Hid (n=uO [] ps (at_+1)):=aa.out.symm.trans o.out;go_wp2;clear aZ cH b2;go_loopw [75] (fun a8 wr=>∃a:Nat,a<=h.length/\a8=U O a/\DI wr f e L (Z ay) a9 K a6 ad aP r is b0 (a7++[i]) ((ps.take a).map (·.1)) (at_+1+kC (h.take a))/\Below e w wr/\Hid (n=uO ((ps.take a).map (·.1)) (ps.drop a) (at_+1+a))) (fun a8 _=>h.length - (intOf a8).toNat)
 case atStart=>exact⟨0,jz _,rfl,by simpa[kC] using E,aj,by show _=_;rw[o.out];simp⟩
 case round =>
  clear E aj o;obtain⟨a,ck,rfl,l,s,o⟩:=hrel;by_cases t:a<h.length
  ·obtain⟨ah,b1,rfl,G,ab⟩:=ac (by intro k;rw[k]at t;simp at t);obtain⟨aG,aL,aH,ax,aJ,az,bX,c6,c8,ca,D⟩:=zex ab G s t;have aD:=fE h a t;have bw:=fA h (a+1);have aE:=kU h[a];have bz:=kX (h.take a);have cw:=s.size;have cj:ah<wr.heap.size:=by have:ah<e:=G;omega
   have R:=b8.out;by_cases aC:a<ps.length
   ·have aU:h[a]=.node 5 ps[a].1 (bI ps[a].2) []:=by simp only[au.out];rw[List.getElem_append_left (by simpa using aC)];simp[zD]
    have bs:kC (h.take a)=a:=by rw[au.out];exact zkk ps j a oA
    have bu:kC (h.take (a+1))=a+1:=by rw[au.out,zkk ps j (a+1) oA];omega
    rw[aU]at D;rw[bs]at l;have N:=yea ps[a].1 _ _ (wr.alloc (Zc #[U O aG,I aL,U O aH,J ax aJ az] 25)) _ (Lies.alloc' D oA _) (l.below (bal _)) oA oA (cu _ (jH aC)) oE;have HS:=zwf aC (at_+1+a) n o.out;have aO:Hid ((ps.take (a+1)).map (·.1)=(ps.take a).map (·.1)++[ps[a].1]):=by show _=_;rw[List.take_succ_eq_append_getElem aC,List.map_append];rfl
    have ar:Hid (kC (h.take (a+1))=a+1):=bu;clear l D ac ab R bs bu o;generalize ps[a].1=de at *;generalize uE ((ps.take a).map (·.1)) de 5 (at_+1+a)=aM at *
    cases aM with
    | some q =>
     have z:Hid (n=Z q):=HS;clear HS
     exact zpt
    | none =>
     have z:Hid (n=uO ((ps.take (a+1)).map (·.1)) (ps.drop (a+1)) (at_+1+a+1)):=HS
     clear HS;go_wp2_with (fail);refine N.mono ?_;rintro k bF ⟨ak,(⟨bB,W,_⟩|⟨_,rfl,E⟩)⟩;·cases W
     go_wp2;go_roundw
     case rel=>exact⟨a+1,oA,oM,by rw[ar.out,aO.out,show at_+1+((a:Int)+1)=at_+1+a+1 by omega];exact E,(s.alloc oA _).trans ak,by show _=_;rw[z.out];congr 1;omega⟩
     case measure=>simp[intOf];omega
   ·have cm:a=ps.length:=oA;have aU:h[a]=j:=by simp only[au.out];rw[List.getElem_append_right oE];simp
    rw[aU]at D aD aE;have N:=vIn j _ (wr.alloc (Zc #[U O aG,I aL,U O aH,J ax aJ az] 25)) _ (Lies.alloc' D oA _) bg (l.below (bal _)) oA oA;rw[show at_+1+kC (h.take a)+kD j=at_+1+kC (h.take (a+1)) by omega,show ps.take a=ps.take (a+1) by rw[jG oA,jG oA]]at N
    have z:Hid (n=uO ((ps.take (a+1)).map (·.1)) (ps.drop (a+1)) (at_+1+((a+1:Nat):Int))):=by
     show _=_;rw[o.out,List.drop_eq_nil_of_le oA,List.drop_eq_nil_of_le oA];rfl
    clear l D ac ab R o cm;go_wp2_with (go_at_call 72;refine N.mono ?_;rintro k bC ⟨rfl,a3,y⟩);go_roundw
    case rel=>exact⟨a+1,oA,oM,y,(s.alloc oA _).trans a3,z⟩
    case measure=>simp[intOf];omega
  ·have R:=b8.out
   have z:Hid (n=F):=by
    show _=_;rw[o.out,List.drop_eq_nil_of_le oA];rfl
   rw[jG (l:=h) oA]at l;clear R;go_wp2
   go_end0
   exact⟨s,.inr ⟨aa.out.trans z.out,rfl,ay,K,r,_,by rw[show at_+(1+kC h)=at_+1+kC h by omega];exact l,bN.out⟩⟩
def zbf:Kid->List ByteArray->List ByteArray->Int->Option (Int × Int)
 | .imp x,ms,_,a=>uE ms x 6 a
 | .var x _ _ n,_,ns,a=>gZ ns x n a
 | .proc x _ _ _ ps _,_,ns,a=>uM ns x ps a
def qC:List Kid->List ByteArray
 | []=>[]
 | .imp _ :: r=>qC r
 | .var x _ _ _ :: r=>x :: qC r
 | .proc x _ _ _ _ _ :: r=>x :: qC r
theorem zae:∀(b a:List Kid),qC (b++a)=qC b++qC a
 | [],a=>rfl
 | .imp x :: r,a=>zae r a
 | .var x _ _ _ :: r,a=>by show x :: qC (r++a)=x :: (qC r++qC a);rw[zae r a]
 | .proc x _ _ _ _ _ :: r,a=>by show x :: qC (r++a)=x :: (qC r++qC a);rw[zae r a]
theorem zb4 (all:Bool):∀a:List Kid,(kW all a).length<=(qC a).length
 | []=>jE _
 | .imp _ :: r=>zb4 all r
 | .var x p l n :: r=>by
  have:=zb4 all r;show(if all||p then yW x p l n :: kW all r else kW all r).length<=(qC r).length+1;split;·simp;omega
  ·omega
 | .proc _ _ _ _ _ _ :: r=>jp (zb4 all r) (Nat.le_succ _)
theorem zbt (all:Bool):∀a:List Kid,(kZ all a).length<=(qC a).length
 | []=>jE _
 | .imp _ :: r=>zbt all r
 | .var _ _ _ _ :: r=>jp (zbt all r) (Nat.le_succ _)
 | .proc x p l g ps b :: r=>by
  have:=zbt all r;show(if all||p then qB x p l g ps :: kZ all r else kZ all r).length<=(qC r).length+1;split;·simp;omega
  ·omega
theorem zt8 (c:Kid) (g:List Kid) (d e:List ByteArray) (b:Int):zW (c :: g) d e b=match zbf c d e b with | some a=>Z a | none=>zW g (d++kS [c]) (e++qC [c]) (b+kD c.tree):=by
 cases c with
 | imp f =>
  have a:kD (Kid.imp f).tree=1:=by unfold Kid.tree kD kC;rfl
  rw[a];show(if _ then _ else if _ then _ else _)=match(if _ then _ else if _ then _ else _:Option (Int × Int))with | some a=>Z a | none=>zW g (d++[f]) (e++[]) (b+1)
  rw[List.append_nil];split;·rfl
  ·split<;>rfl
 | var f j h i =>
  show(if _ then _ else if _ then _ else _)=match(if _ then _ else if _ then _ else _:Option (Int × Int))with | some a=>Z a | none=>zW g (d++[]) (e++[f]) _
  rw[List.append_nil];split;·rfl
  ·split;·rfl
   ·cases gC i b<;>rfl
 | proc f j h l ps k =>
  show(if _ then _ else if _ then _ else if _ then _ else _)=match(if _ then _ else if _ then _ else if _ then _ else _:Option (Int × Int))with | some a=>Z a | none=>zW g (d++[]) (e++[f]) _
  rw[List.append_nil];split;·rfl
  ·split;·rfl
   ·split;·rfl
    ·cases uO [] ps (b+1)<;>rfl
theorem zs5 {kF:Nat} (a:uE d h kF c=F):d.length<kF:=by
 unfold uE at a;split at a;·cases a
 ·split at a;·cases a
  ·omega
theorem zxk {e:Kid} (g:zbf e d f c=F) (n:d.length<=6) (o:f.length<=20):(d++kS [e]).length<=6/\(f++qC [e]).length<=20:=by
 cases e with
 | imp b =>
  have:=zs5 g;show(d++[b]).length<=6/\(f++[]).length<=20
  simp;omega
 | var b k i j =>
  have h:f.length<20:=by
   have a:gZ f b j c=F:=g;unfold gZ at a;split at a;·cases a
   ·split at a;·cases a
    ·omega
  show(d++[]).length<=6/\(f++[b]).length<=20
  simp;omega
 | proc b k i m ps l =>
  have h:f.length<20:=by
   have a:uM f b ps c=F:=g;unfold uM at a;split at a;·cases a
   ·split at a;·cases a
    ·omega
  show(d++[]).length<=6/\(f++[b]).length<=20;simp;omega
theorem VR.mono {w:Zw} {e:Option (Int × Int)} {a b:Zw->Prop} {c:Ending} {w':Zw} (d:VR i w e a c w') (j:a w'->b w'):VR i w e b c w' :=
 ⟨d.1,d.2.imp id (fun ⟨f,g,h⟩=>⟨f,g,j h⟩)⟩
theorem yd8 {o:Option Nat} {t q n:Zv} {k:List VarD} {d:List (ProcD × Zv)} {is e f r:List ByteArray} (b:Kid) (v:Zv) (w:Zw) (at_:Int) (N:Lies (·<j) w b.tree v) (G:DI w i j s o t q n h k d is e f r at_) (K:0<=at_) (M:at_+kD b.tree<=1000000) (L:b.good) (W:is.length<=6) (a2:e.length<=6) (R:f.length<=20) (V:k.length<=20) (S:d.length<=20) (a5:b.kids.length<=1000) : Calls prog 72 #[Zp (Z (A i 0 F)),v] w (VR j w (zbf b e f at_) fun w'=>∃a3 C z y g B,DI w' i j s a3 C z y h (k++kW X [b]) g (is++kS [b]) (e++kS [b]) (f++qC [b]) B (at_+kD b.tree)/\g.map (·.1)=d.map (·.1)++kZ X [b]):=by
 cases b with
 | imp a =>
  have u:kD (Kid.imp a).tree=1:=by unfold Kid.tree kD kC;rfl
  rw[u]at M |-;refine(yd7 a 0 v w at_ N G K oA L a2 W).mono ?_;intro u w' m;refine m.mono ?_;rintro⟨y,l⟩;refine⟨o,t,q,y,d,r,?_,by show _=_++[];simp⟩;show DI w' i j s o t q y h (k++[]) d (is++[a]) (e++[a]) (f++[]) r (at_+1);rw[List.append_nil,List.append_nil]
  exact l
 | var a p c P =>
  refine(yeb a p c P v w at_ N G K M L R V).mono ?_;intro u w' m;refine m.mono ?_;rintro⟨C,l⟩;refine⟨o,C,q,n,d,r,?_,by show _=_++[];simp⟩;have E:kW X [Kid.var a p c P]=onP p (yW a p c P):=by show(if X||p then _ else _)=_;cases p<;>rfl
  rw[E];show DI w' i j s o C q n h _ d (is++[]) (e++[]) (f++[a]) r _;rw[List.append_nil,List.append_nil]
  exact l
 | proc a p c x ps D =>
  refine(ydf a p c x ps D v w at_ N G K M L R S (by have:(Kid.proc a p c x ps D).kids.length=ps.length+1:=(by simp[Kid.kids]);omega)).mono ?_;intro u w' m;refine m.mono ?_;rintro⟨Q,z,g,B,l,T⟩;refine⟨Z Q,t,z,n,g,B,?_,?_⟩;·show DI w' i j s (Z Q) t z n h (k++[]) g (is++[]) (e++[]) (f++[a]) B _;rw[List.append_nil,List.append_nil,List.append_nil];exact l
  ·have E:kZ X [Kid.proc a p c x ps D]=onP p (qB a p c x ps):=by show(if X||p then _ else _)=_;cases p<;>rfl
   rw[E];exact T
theorem yd9 {f e L:Nat} {an:Option Nat} {a9 ae a6:Zv} {ad:ByteArray} {ao:List ByteArray} (c:ByteArray) (b:List Kid) (v:Zv) (w:Zw) (T:Lies (·<e) w (.node 1 c 0 (b.map Kid.tree)) v) (u:DI w f e L an a9 ae a6 ad [] [] [] [] [] ao 0) (di:c.size<=16) (aT:∀V∈b,V.good) (ch:kC (b.map Kid.tree)<=1000) (aX:∀V∈b,V.kids.length<=1000) : Calls prog 72 #[Zp (Z (A f 0 F)),v] w (VR e w (zW b [c] [] 1) fun w'=>∃aI aK K aF r d1 d2 af bS,DI w' f e L aI aK K aF c (kW X b) r (kS b) d1 d2 af bS/\r.map (·.1)=kZ X b/\(qC b).length<=20/\(kS b).length<=6):=by
 unfold Lies at T;obtain⟨d,aA⟩:∃d,b.map Kid.tree=d:=⟨_,rfl⟩
 rw[aA]at T ch;have aO:Hid (b.map Kid.tree=d):=aA;have b7:Hid (d.length=b.length):=by show _=_;rw[<- aA];simp
 clear aA;obtain⟨x,B,rfl,cn,ac⟩:=T;have c9:=kc25;have cq:=u.lm;have ci:=u.ld;have bp:=u.dc.lt;have be:=u.below (bal (Zc #[U O 1,I c,U O 0,J x d.length B] 25));have l:DI (w.alloc (Zc #[U O 1,I c,U O 0,J x d.length B] 25)).drew f e L an a9 ae a6 ad [] [] [] [] [] ao 0:=be.below ⟨rfl,rfl,rfl,jE _,fun _ _=>rfl⟩;clear be;have a2:Q4 w.heap.size (U O 1) (I c) (U O 0) (J x d.length B) (w.alloc (Zc #[U O 1,I c,U O 0,J x d.length B] 25)).drew:=⟨oC,oC,oC,oC⟩
 have s:Below w.heap.size w (w.alloc (Zc #[U O 1,I c,U O 0,J x d.length B] 25)).drew:=(bal _).drew;have P:(w.alloc (Zc #[U O 1,I c,U O 0,J x d.length B] 25)).drew.cell? (A f 4 F)=Z (.map (Z e))/\(w.alloc (Zc #[U O 1,I c,U O 0,J x d.length B] 25)).drew.cell? (A w.heap.size 1 F)=Z (I c):=⟨l.dc.c4,a2.2.1⟩
 go_enter func72,ntmps72;go_wp2;refine wp_region_held_drew (S:=fun aw=>aw.cell? (A f 4 F)=Z (.map (Z e))/\aw.cell? (A w.heap.size 1 F)=Z (I c)) oB P (fun aQ=>?_);clear aQ;generalize (w.alloc (Zc #[U O 1,I c,U O 0,J x d.length B] 25)).drew=aw at *;refine tkP 0 (Zp (Z (A f 0 F))) P ?_;simp only[Act.put,jA,jB,jC];refine tkP 1 (Zp (Z (A f 0 F))) P ?_;simp only[Act.put,jA,jB,jC];refine tkP 2 (Zp (Z (A f 0 F))) P ?_;simp only[Act.put,jA,jB,jC];refine tkP 3 (Zp (Z (A f 4 F))) P ?_;simp only[Act.put,jA,jB,jC];refine tkP 4 (.map (Z e)) P ?_;simp only[Act.put,jA,jB,jC];refine tkP 5 (Zp (Z (A w.heap.size 1 F))) P ?_;simp only[Act.put,jA,jB,jC];refine tkP 6 (I c) P ?_;simp only[Act.put,jA,jB,jC];refine oneH 7 fun bP bh=>?_
 go_simp;go_at_call 110;refine(oEnter f e [] c 6 0 aw l.dc.c7 l.om l.am oA oA oC).mono ?_;rintro k bR (⟨C,rfl,cf⟩|⟨C,aW,rfl,cf⟩|⟨C,t,rfl,bv,bo,G⟩);·exact absurd C (by simp[kJ])
 ·exact absurd aW oC
 have y:=l.enterM bv bo G;rw[js]at y;go_wp2;replace a2:=Q4.grown a2 G oE;have bb:Below e w bR:=(s.mono oA).grown G (by have:=s.size;omega) (fun V k=>by cases k;omega);clear s bv bo G l;refine bh.out _ _ ⟨y.dc.c4,a2.2.1⟩ (fun aQ=>?_);clear bh bP aQ;refine wpAnyH_done oB ?_ _;obtain⟨d4,d5,d6,b2⟩:=id a2;have cz:=y.dc.c0;have cL:=y.dc.fz 0;have E:=y.setModule c;have aj:=bb.setCell (p:=(A f 0 F)) (by show e<=f;omega) (I c);have aS:=Q4.other (M:=f) (o:=0) oA a2 (I c);have aZ:=E.dc.c7;have cR:=E.dc.fz 7;have da:=aS.2.2.2;have bf:=E.setAt 1;have bc:=aj.setCell (p:=(A f 7 F)) (by show e<=f;omega) (U O 1);have cv:=(Q4.other (M:=f) (o:=7) oA aS (U O 1)).2.2.2;clear y bb a2 E aj aS C t u;go_wp2;clear aZ cR cz cL d4 d5 d6 b2 da cv;obtain⟨n,aa⟩:∃n,Hid (zW b [c] [] 1=n):=⟨_,rfl⟩
 have o:Hid (n=zW b [c] [] 1):=aa.out.symm;go_loopw [75] (fun a8 wr=>∃(a:Nat) (aI:Option Nat) (aK K aF:Zv) (r:List (ProcD × Zv)) (af:List ByteArray),a<=d.length/\a8=U O a/\DI wr f e L aI aK K aF c (kW X (b.take a)) r (kS (b.take a)) (c :: kS (b.take a)) (qC (b.take a)) af (1+kC (d.take a))/\Below e w wr/\Hid (r.map (·.1)=kZ X (b.take a))/\Hid (n=zW (b.drop a) (c :: kS (b.take a)) (qC (b.take a)) (1+kC (d.take a)))/\Hid ((c :: kS (b.take a)).length<=6/\(qC (b.take a)).length<=20)) (fun a8 _=>d.length - (intOf a8).toNat)
 case atStart=>exact⟨0,an,a9,ae,a6,[],ao,jz _,rfl,by simpa[kC,kW,kS,qC] using bf,bc,by show _=_;rfl,by show _=_;rw[o.out];rfl,by show _/\_;simp[kS,qC]⟩
 case round =>
  clear bf bc o;obtain⟨a,aI,aK,K,aF,r,af,ck,rfl,l,s,HP,o,ag⟩:=hrel;by_cases t:a<d.length
  ·obtain⟨ah,b1,rfl,G,ab⟩:=ac (by intro k;rw[k]at t;simp at t);obtain⟨aG,aL,aH,ax,aJ,az,bX,c6,c8,ca,D⟩:=zex ab G s t;have aD:=fE d a t;have bw:=fA d (a+1);have aE:=kU d[a];have bz:=kX (d.take a);have cw:=s.size;have cj:ah<wr.heap.size:=by have:ah<e:=G;omega
   have R:=b7.out;have aB:a<b.length:=oA;have bn:d[a]=b[a].tree:=by simp only[<- aO.out];simp
   have Q:=ag.out.1;have a5:=ag.out.2;rw[bn]at D aD aE;have cx:=zb4 X (b.take a);have ct:=zbt X (b.take a);have bm:r.length<=20:=by have:=congrArg List.length HP.out;rw[List.length_map]at this;omega
   have N:=yd8 b[a] _ (wr.alloc (Zc #[U O aG,I aL,U O aH,J ax aJ az] 25)) _ (Lies.alloc' D oA _) (l.below (bal _)) oA oA (aT _ (jH aB)) (by simp at Q;omega) Q a5 oA bm (aX _ (jH aB))
   have HS:Hid (n=match zbf b[a] (c :: kS (b.take a)) (qC (b.take a)) (1+kC (d.take a))with | some k=>Z k | none=>zW (b.drop (a+1)) (c :: kS (b.take a)++kS [b[a]]) (qC (b.take a)++qC [b[a]]) (1+kC (d.take a)+kD b[a].tree)):=by
    show _=_;rw[o.out,List.drop_eq_getElem_cons aB,zt8]
   have b6:Hid (∀k,zbf b[a] (c :: kS (b.take a)) (qC (b.take a)) (1+kC (d.take a))=k->k=F->(c :: kS (b.take a)++kS [b[a]]).length<=6/\(qC (b.take a)++qC [b[a]]).length<=20):=fun k cb cc=>zxk (cb.trans cc) Q a5
   have ap:Hid (b.take (a+1)=b.take a++[b[a]]):=List.take_succ_eq_append_getElem aB;have ar:Hid (1+kC (d.take a)+kD b[a].tree=1+kC (d.take (a+1))):=by show _=_;omega
   rw[ar.out]at N;rw[ar.out]at HS;clear l D ac ab R aD bw aE bz cx ct bm Q a5 o ag bn;generalize cd:zbf b[a] (c :: kS (b.take a)) (qC (b.take a)) (1+kC (d.take a))=aM at *;have aN:=b6.out _ rfl;clear b6 cd
   cases aM with
   | some q =>
    have z:Hid (n=Z q):=HS.out;clear HS aN
    exact zpt
   | none =>
    have z:Hid (n=zW (b.drop (a+1)) (c :: kS (b.take a)++kS [b[a]]) (qC (b.take a)++qC [b[a]]) (1+kC (d.take (a+1)))):=HS.out;have bG:Hid ((c :: kS (b.take a)++kS [b[a]]).length<=6/\(qC (b.take a)++qC [b[a]]).length<=20):=aN rfl;clear HS aN;go_wp2_with (fail);refine N.mono ?_;rintro k bF ⟨ak,(⟨bB,W,_⟩|⟨_,rfl,d0,dd,d3,cy,b9,db,E,bi⟩)⟩;·cases W
    have bM:Hid (b9.map (·.1)=r.map (·.1)++kZ X [b[a]]):=bi
    clear bi;go_wp2;go_roundw
    case rel =>
     refine⟨a+1,d0,dd,d3,cy,b9,db,oA,oM,?_,(s.alloc oA _).trans ak,?_,?_,?_⟩;·rw[ap.out,zbo,zad,zae];exact E
     ·show _=_;rw[bM.out,HP.out,ap.out,zbk]
     ·show _=_;rw[z.out,ap.out,zad,zae];rfl
     ·rw[ap.out,zad,zae];exact bG
    case measure=>simp[intOf];omega
  ·have R:=b7.out
   have z:Hid (n=F):=by
    show _=_;rw[o.out,List.drop_eq_nil_of_le oA];rfl
   have Q:=ag.out.1;have a5:=ag.out.2;have aR:=HP.out;rw[jG (l:=b) oA]at l Q a5 aR;have bK:Hid (r.map (·.1)=kZ X b/\(qC b).length<=20/\(kS b).length<=6):=⟨aR,a5,by simp at Q;omega⟩
   clear R Q a5 aR;go_wp2
   go_end0
   exact⟨s,.inr ⟨aa.out.trans z.out,rfl,_,_,_,_,_,_,_,_,_,l,bK.out⟩⟩
end face
namespace face
open Go.RowKit
open syn
def zrf (w:Zw) (f:FaceD) (l:List ByteArray) (c a:Int) (e:Ending) (w':Zw):Prop :=
 ∃b lv,e=.returned (.tuple #[b,lv,Za #[U O c,U O a]])/\zP w' b f/\zH w' lv l/\Below w.heap.size w w'
def yY:FaceD:=⟨⟨#[]⟩,[],[]⟩
theorem zkn (w:Zw):zP w (Za #[I ⟨#[]⟩,J F 0 0,J F 0 0]) yY :=
 ⟨_,_,rfl,⟨F,0,rfl,by simp[yY],fun a=>absurd rfl a⟩,⟨F,0,rfl,by simp[yY],fun a=>absurd rfl a⟩⟩
theorem zko (w:Zw):zH w (J F 0 0) []:=⟨F,0,rfl,oC,fun a=>absurd rfl a⟩
theorem lies_shape {h:Nat->Prop} {w:Zw} {g:Tree} {v:Zv} (a:Lies h w g v):∃d f e b j c,v=Za #[U O d,I f,U O e,J b j c]:=by
 match g,a with
 | .node d f e ks,a =>
  unfold Lies at a;obtain⟨b,c,i,_⟩:=a;exact⟨d,f,e,b,_,c,i⟩
theorem zp3:∀(ps:List (ByteArray × Bool)) (c:List ByteArray) (b:Int) (a:Int × Int),dY c ps b=Z a->a.1≠0
 | [],_,_,a,h=>by cases h
 | q :: r,c,b,a,h=>by
  unfold dY at h;split at h;·cases h;simp
  ·exact zp3 r _ _ a h
theorem zdo (f:ByteArray):∀(j:List Kid) (is i:List ByteArray) (d:Int) (a:Int × Int),kV f j is i d=Z a->a.1≠0
 | [],_,_,_,a,h=>by cases h
 | .imp x :: r,is,i,d,a,h=>by
  unfold kV at h;split at h;·cases h;simp
  ·split at h;·cases h;simp
   ·exact zdo f r _ _ _ a h
 | .var x p l e :: r,is,i,d,a,h=>by
  unfold kV at h;split at h;·cases h;simp
  ·split at h;·cases h;simp
   ·split at h
    ·rename_i k c;cases h
     cases e with
     | none=>cases c
     | some e =>
      rw[show gC (Z e) d=if e<1\/64<e then Z (6,d)else F from rfl]at c;split at c;·cases c;simp
      ·cases c
    ·exact zdo f r _ _ _ a h
 | .proc x p l g ps b :: r,is,i,d,a,h=>by
  unfold kV at h;split at h;·cases h;simp
  ·split at h;·cases h;simp
   ·split at h;·cases h;simp
    ·split at h;·rename_i k c;cases h;exact zp3 _ _ _ _ c
     ·exact zdo f r _ _ _ a h
theorem zvr {i:Nat} {w:Zw} {d:ByteArray} {a:List Kid} {v:Zv} (j:Lies (fun e=>i<=e/\e<w.heap.size) w (.node 1 d 0 (a.map Kid.tree)) v) : ∃b c,v=Za #[U O 1,I d,U O 0,J b a.length c]/\Lies (·<w.heap.size) w (.node 1 d 0 (a.map Kid.tree)) (Za #[U O 1,I d,U O 0,J b a.length c]):=by
 have g:=j.to (Q:=(·<w.heap.size)) (w':=w) (fun e k=>k.2) (fun _ _ _=>rfl)
 have h:=g;unfold Lies at h;obtain⟨b,c,f,_,_⟩:=h;rw[List.length_map]at f;subst f;exact⟨b,c,rfl,g⟩
end face
namespace face
open Go.RowKit Go.Maps
open syn
section
variable {w w':Zw}
theorem DC.new (w:Zw) (a b c d e f g h:Zv) (T:TypeId):DC (w.alloc (Zc #[a,b,c,d,e,f,g,h] T)) w.heap.size a b c d e f g h:=by
 constructor<;>simp
theorem DI.new (w:Zw) (T:TypeId):DI (((w.alloc (.map #[] 0)).alloc (.map #[] 0)).alloc (Zc #[I ⟨#[]⟩,J F 0 0,J F 0 0,J F 0 0,.map (Z w.heap.size),.map (Z (w.heap.size+1)),.map F,U O 0] T)) (w.heap.size+1+1) w.heap.size (w.heap.size+1) F (J F 0 0) (J F 0 0) (J F 0 0) ⟨#[]⟩ [] [] [] [] [] [] 0:=by
 have d:gD (w.alloc (.map #[] 0)) w.heap.size []:=World.ownsMap_made _ _ _ _
 have e:gD ((w.alloc (.map #[] 0)).alloc (.map #[] 0)) (w.heap.size+1) []:=by
  have:=World.ownsMap_made (w.alloc (.map #[] 0)) prog 9 (unitElem (H:=Unit));rw[jP]at this;exact this
 have c:=DC.new ((w.alloc (.map #[] 0)).alloc (.map #[] 0)) (I ⟨#[]⟩) (J F 0 0) (J F 0 0) (J F 0 0) (.map (Z w.heap.size)) (.map (Z (w.heap.size+1))) (.map F) (U O 0) T;rw[jP,jP]at c;exact⟨c,oA,oA,fun b a=>(by cases a),FR.nil _ _ _,World.ownsRow_nil _ _ _ _,fun b a=>(by cases a),(d.alloc _).alloc _,rfl,e.alloc _,rfl,fun b a=>(by cases a),rfl⟩
theorem zs2 (e:Addr) (w:Zw) : CallsD prog 71 #[Zp (Z e)] .returning w fun a f w'=>a=.returned (.tuple #[])/\f=.returning/\w'=w:=by
 have i:∀w:Zw,(binOp BinOp.eql 20 .nilIface .nilIface).run prog w=.ok (Y H) w:=fun _=>oB
 refine callsD_of_wpS func71 rfl fun h g c=>?_
 refine zc0 (by simp[recoverD,c]) ?_;simp only[ntmps71,List.size_toArray,jd,je,Nat.reduceAdd,Nat.reduceSub,Array.replicate_succ,Array.replicate_zero,List.push_toArray,List.append_toArray,js,jL,Act.put,List.setIfInBounds_toArray,List.set_cons_succ,List.set_cons_zero];refine wpS_of_wp (wp_mono (Q:=fun a b w'=>a=.normal/\b.defers=[]/\w'=w) ?_ ?_);·go_wp2
 ·rintro a b w' ⟨rfl,d,rfl⟩;exact⟨d,_,rfl,.tuple #[],by simp[results,results71],rfl,c,rfl⟩
theorem ybc (a:Nat) (c b:Int) (w:Zw) (p:w.cell? (A a 0 F)=Z (U O 0)) (e:w.cell? (A a 1 F)=Z (U O 0)) (n:w.frozen? (A a 0 F)=X) (o:w.frozen? (A a 1 F)=X) (r:a<w.heap.size) : CallsD prog 71 #[Zp (Z (A a 0 F))] (.panicking (qG c b)) w fun d l w'=>d=.returned (.tuple #[])/\l=.panicking [{ v:=.iface 28 (Za #[U O c,U O b]),recovered:=H }]/\w'.cell? (A a 0 F)=Z (U O c)/\w'.cell? (A a 1 F)=Z (U O b)/\Fr a w w':=by
 have m:=kc28;have s:∀w:Zw,(binOp BinOp.eql 20 (.iface 28 (Za #[U O c,U O b])) .nilIface).run prog w=.ok (Y X) w:=fun _=>oB
 have t:∀w:Zw,(Instr.typeAssert (.iface 28 (Za #[U O c,U O b])) 20 28 H).run prog w=.ok (.tuple #[Za #[U O c,U O b],Y H]) w:=fun _=>oB
 unfold qG;refine callsD_of_wpS func71 rfl fun g f k=>?_
 refine zbm (v:=.iface 28 (Za #[U O c,U O b])) (cs':={ g with mode:=.panicking [{ v:=.iface 28 (Za #[U O c,U O b]),recovered:=H }] } :: f) (by simp[recoverD,k]) ?_;simp only[ntmps71,List.size_toArray,jd,je,Nat.reduceAdd,Nat.reduceSub,Array.replicate_succ,Array.replicate_zero,List.push_toArray,List.append_toArray,js,jL,Act.put,List.setIfInBounds_toArray,List.set_cons_succ,List.set_cons_zero];refine wpS_of_wp (wp_mono (Q:=fun d q w'=>d=.normal/\q.defers=[]/\w'.cell? (A a 0 F)=Z (U O c)/\w'.cell? (A a 1 F)=Z (U O b)/\Fr a w w') ?_ ?_);·go_wp2;exact(((Fr.refl _ _).set _ _).set _ _).alloc _
 ·rintro d q w' ⟨rfl,e,h,i,j⟩;exact⟨e,_,rfl,.tuple #[],by simp[results,results71],rfl,rfl,h,i,j⟩
theorem zw3 {N j y x:Nat} {r:Option Nat} {u t i:Zv} {B:ByteArray} {a:List Kid} {l:List (ProcD × Zv)} {C D E:List ByteArray} {b:Int} {v:Zw} (c:DI w j y x r u t i B (kW X a) l (kS a) C D E b) (P:l.map (·.1)=kZ X a) (Q:(qC a).length<=20) (L:N+1<j) (k:Nat) (h:k<=N) (z:Below k v w) (e f g d q:Zv) : FR (fun p=>i.ownBlock=Z p\/r=Z p) (j+1) (((((w.setCell (A N 0 F) e).setCell (A N 1 F) f).setCell (A N 2 F) g).setCell (A (N+1) 0 F) d).setCell (A (N+1) 1 F) q).drew u t (kW X a) l /\ (((((w.setCell (A N 0 F) e).setCell (A N 1 F) f).setCell (A N 2 F) g).setCell (A (N+1) 0 F) d).setCell (A (N+1) 1 F) q).drew.ownsRow (j+1) 9 1 i (kS a).length (vY (kS a)) /\ Below k v (((((w.setCell (A N 0 F) e).setCell (A N 1 F) f).setCell (A N 2 F) g).setCell (A (N+1) 0 F) d).setCell (A (N+1) 1 F) q).drew:=by
 refine⟨?_,?_,?_⟩;·have c:=(((((c.fr.set (M:=N) (o:=0) oA e).set (M:=N) (o:=1) oA f).set (M:=N) (o:=2) oA g).set (M:=N+1) (o:=0) oA d).set (M:=N+1) (o:=1) oA q).drew;exact c
 ·have n:i.ownBlock≠Z N:=fun m=>by have:=(c.oi.lt _ m).1;omega
  have s:i.ownBlock≠Z (N+1):=fun m=>by have:=(c.oi.lt _ m).1;omega
  have G:=jV (a:=(A (N+1) 1 F)) (jV (a:=(A (N+1) 0 F)) (jV (a:=(A N 2 F)) (jV (a:=(A N 1 F)) (jV (a:=(A N 0 F)) c.oi n e) n f) n g) s d) s q;generalize ((((w.setCell (A N 0 F) e).setCell (A N 1 F) f).setCell (A N 2 F) g).setCell (A (N+1) 0 F) d).setCell (A (N+1) 1 F) q=K at *;exact G.drew
 ·exact(((((z.setCell h _).setCell h _).setCell h _).setCell (Nat.le_succ_of_le h) _).setCell (Nat.le_succ_of_le h) _).drew
def xC (w:Zw) (m:ByteArray) (a:List Kid) (e:Ending) (w':Zw):Prop :=
 match zW a [m] [] 1 with
 | some q=>e=.returned (.tuple #[Za #[I ⟨#[]⟩,J F 0 0,J F 0 0],J F 0 0,Za #[U O q.1,U O q.2]])/\Below w.heap.size w w'
 | none=>∃(f:Nat->Prop) (B:Nat) (d c b:Zv) (P:List (ProcD × Zv)),w.heap.size<=B/\e=.returned (.tuple #[Za #[I m,d,c],b,Za #[U O 0,U O 0]])/\FR f B w' d c (kW X a) P/\P.map (·.1)=kZ X a/\(qC a).length<=20/\w'.ownsRow B 9 1 b (kS a).length (vY (kS a))/\Below w.heap.size w w'
theorem zx7 (d:ByteArray) (b:List Kid) (v:Zv) (w:Zw) (P:Lies (·<w.heap.size) w (.node 1 d 0 (b.map Kid.tree)) v) (aA:d.size<=16) (ay:∀k∈b,k.good) (ax:kC (b.map Kid.tree)<=1000) (aB:∀k∈b,k.kids.length<=1000) : Calls prog 37 #[v] w (xC w d b):=by
 have aI:=kc25;have aJ:=kc28;have aK:prog.cellsOf 55=3:=xW;have aL:=kc142;have aO:=@run_makeMap prog;have aN:∀(aa:Fn) (first a6:Array Zv) (w:Zw),(Instr.makeFunc aa first a6).run prog w=.ok (.func aa first a6) w:=fun _ _ _ _=>rfl
 obtain⟨D,G,s,u,E,x,rfl⟩:=lies_shape P;obtain⟨a,l⟩:∃a,a=((w.alloc (Zc #[U O D,I G,U O s,J u E x] 25)).alloc (Zc #[I ⟨#[]⟩,J F 0 0,J F 0 0] 55)).alloc (Zc #[U O 0,U O 0] 28):=⟨_,rfl⟩
 have C:a.heap.size=w.heap.size+1+1+1:=by rw[l];simp
 have m:Below w.heap.size w a:=by rw[l];exact((bal _).alloc oC _).alloc oE _
 have a3:Box3 a (w.heap.size+1) (I ⟨#[]⟩) (J F 0 0) (J F 0 0):=by
  have:=(Box3.new (w.alloc (Zc #[U O D,I G,U O s,J u E x] 25)) (I ⟨#[]⟩) (J F 0 0) (J F 0 0) 55).alloc (Zc #[U O 0,U O 0] 28);rw[jP]at this;rw[l];exact this
 have a5:Box2 a (w.heap.size+1+1) (U O 0) (U O 0):=by
  have:=Box2.new ((w.alloc (Zc #[U O D,I G,U O s,J u E x] 25)).alloc (Zc #[I ⟨#[]⟩,J F 0 0,J F 0 0] 55)) (U O 0) (U O 0) 28;rw[jP,jP]at this;rw[l];exact this
 have ab:=DI.new a 142
 have af:Lies (·<a.heap.size) (((a.alloc (.map #[] 0)).alloc (.map #[] 0)).alloc (Zc #[I ⟨#[]⟩,J F 0 0,J F 0 0,J F 0 0,.map (Z a.heap.size),.map (Z (a.heap.size+1)),.map F,U O 0] 142)) (.node 1 d 0 (b.map Kid.tree)) (Za #[U O D,I G,U O s,J u E x]) :=
  P.to (fun g z=>by show g<a.heap.size;have:g<w.heap.size:=z;omega) (fun g z ai=>by
   have av:=m.cell (p:=(A g ai F)) z;have aw:=((((Below.refl a.heap.size a).alloc (jE _) (.map #[] 0)).alloc oC (.map #[] 0)).alloc oE (Zc #[I ⟨#[]⟩,J F 0 0,J F 0 0,J F 0 0,.map (Z a.heap.size),.map (Z (a.heap.size+1)),.map F,U O 0] 142)).cell (p:=(A g ai F)) (by show g<a.heap.size;have:g<w.heap.size:=z;omega)
   exact aw.trans av)
 have y:=yd9 d b _ _ af ab aA ay ax aB;have n:=((((Below.refl a.heap.size a).alloc (jE _) (.map #[] 0)).alloc oC (.map #[] 0)).alloc oE (Zc #[I ⟨#[]⟩,J F 0 0,J F 0 0,J F 0 0,.map (Z a.heap.size),.map (Z (a.heap.size+1)),.map F,U O 0] 142))
 have aC:(((a.alloc (.map #[] 0)).alloc (.map #[] 0)).alloc (Zc #[I ⟨#[]⟩,J F 0 0,J F 0 0,J F 0 0,.map (Z a.heap.size),.map (Z (a.heap.size+1)),.map F,U O 0] 142)).heap.size=a.heap.size+3:=oC;obtain⟨aj,r⟩:∃aj,aj=(((a.alloc (.map #[] 0)).alloc (.map #[] 0)).alloc (Zc #[I ⟨#[]⟩,J F 0 0,J F 0 0,J F 0 0,.map (Z a.heap.size),.map (Z (a.heap.size+1)),.map F,U O 0] 142)):=⟨_,rfl⟩
 rw[<- r]at y n aC;clear ab af P;rw[C]at r;rw[l]at r;rw[C]at y;go_enter_defers func37,ntmps37;go_wp2_with (fail);rw[<- r];refine y.mono ?_;clear r l y;rintro a9 t ⟨B,(⟨q,o,rfl⟩|⟨o,rfl,aT,b6,aW,aP,L,aU,aV,aX,aH,j,ac,ae,ad⟩)⟩
 ·have c:Below a.heap.size a t:=n.trans (by rw[C];exact B);have e:=a5.below c;have M:=a3.below c;have ag:=e.lt;have key:=ybc (w.heap.size+1+1) q.1 q.2 t e.c0 e.c1 e.f0 e.f1 ag;have h:Hid (Below w.heap.size w t):=m.trans (c.mono m.size);have K:Hid (zW b [d] [] 1=Z q):=o;clear o B c n;go_wp2;refine leaves_cons (f:=71) (args:=#[Zp (Z (A (w.heap.size+1+1) 0 F))]) oC oR ?_;refine key.mono ?_;rintro a9 aG T ⟨rfl,rfl,ap,ar,i⟩;have ao:=M.block (w':=T) (i.block _ oA oC);obtain⟨Q,R,S,_,_,_⟩:=id ao;have am:Below w.heap.size w T:=⟨i.os.trans h.out.os,i.tape.trans h.out.tape,i.output.trans h.out.output,jp h.out.size i.size,fun ah az=>(i.block ah (by have:=h.out.size;omega) oE).trans (h.out.block ah az)⟩
  refine⟨.tuple #[Za #[I ⟨#[]⟩,J F 0 0,J F 0 0],J F 0 0,Za #[U O q.1,U O q.2]],?_,?_⟩;·simp[results,results37,go_sem,Q,R,S,ap,ar]
  ·unfold xC;rw[K.out];exact⟨rfl,am⟩
 have c:Below a.heap.size a t:=n.trans (by rw[C];exact B);have e:=a5.below c;have M:=a3.below c;have ag:=e.lt;have ak:Hid (Below w.heap.size w t):=m.trans (c.mono m.size);have K:Hid (zW b [d] [] 1=F):=o;have HP:Hid (L.map (·.1)=kZ X b/\(qC b).length<=20/\(kS b).length<=6):=⟨ac,ae,ad⟩
 clear o B c n ac ae ad;obtain⟨a2,a8,rfl⟩:=j.fr.shapeV;obtain⟨W,a7,rfl⟩:=j.fr.shapeP;obtain⟨an,au,rfl,_,_⟩:=lexs.own_shape j.oi;obtain⟨aQ,s,aR,aS,_,_,_,_,_⟩:=id j.dc;obtain⟨Q,R,S,b0,b1,b2⟩:=id M;obtain⟨aE,aF,aY,aZ⟩:=id e;have aM:=j.dc.lt;have V:Hid _:=zw3 (N:=w.heap.size+1) j HP.out.1 HP.out.2.1 oA _ (Nat.le_succ _) ak.out (I d) (J a2 (kW X b).length a8) (J W L.length a7) (U O 0) (U O 0);go_wp2;go_region
 all_goals
  go_wp2;refine leaves_cons (f:=71) (args:=#[Zp (Z (A (w.heap.size+1+1) 0 F))]) oC oR ?_;refine(zs2 _ _).mono ?_;rintro a9 aG T ⟨rfl,rfl,aD⟩;subst aD;refine⟨.tuple #[Za #[I d,J a2 (kW X b).length a8,J W L.length a7],J an (kS b).length au,Za #[U O 0,U O 0]],?_,?_⟩;·simp[results,results37,go_sem,Q,R,S,aE,aF]
  ·unfold xC;rw[K.out];exact⟨_,_,_,_,_,_,oA,rfl,V.out.1,HP.out.1,HP.out.2.1,V.out.2⟩
end
theorem zbj {w w':Zw} (a:gO w) (b:Below w.heap.size w w'):gO w':=⟨lexs.hasErr_below a.1 b,zcz a.2 b⟩
theorem zoa (a:ByteArray) (w:Zw) (u:gO w) (n:(parse a).code≠0) : Calls prog 16 #[I a] w (zrf w yY [] (parse a).code (parse a).place):=by
 have G:=kc25;have K:=kc28;have L:prog.cellsOf 55=3:=xW;have b:=Joins.below_alloc2 w (Zc #[I ⟨#[]⟩,J F 0 0,J F 0 0] 55) (Zc #[U O 0,U O 0] 28);have c:=ze1 a ((w.alloc (Zc #[I ⟨#[]⟩,J F 0 0,J F 0 0] 55)).alloc (Zc #[U O 0,U O 0] 28)) (zbj u b);unfold fP at c;have o:((parse a).code==0)=X:=beq_false_of_ne n;have x:((parse a).code != 0)=H:=by simp[bne,o]
 generalize (parse a).code=e at c n o x;generalize (parse a).place=f at c;generalize (parse a).tree=V at c;have q:=(Box3.new w (I ⟨#[]⟩) (J F 0 0) (J F 0 0) 55).alloc (Zc #[U O 0,U O 0] 28);have h:=Box2.new (w.alloc (Zc #[I ⟨#[]⟩,J F 0 0,J F 0 0] 55)) (U O 0) (U O 0) 28;rw[jP]at h;go_enter func16,ntmps16;go_wp2_with (go_at_call 17;refine c.mono ?_;rintro M p ⟨v,rfl,y,d⟩;obtain⟨j,m,k,g,l,i,rfl⟩:=lies_shape y;have r:=((q.below d).alloc (Zc #[U O j,I m,U O k,J g l i] 25)).alloc (Zc #[U O e,U O f] 28);have s:=((h.below d).alloc (Zc #[U O j,I m,U O k,J g l i] 25)).alloc (Zc #[U O e,U O f] 28);have t:=(b.trans (d.mono b.size)).trans ((Joins.below_alloc2 p (Zc #[U O j,I m,U O k,J g l i] 25) (Zc #[U O e,U O f] 28)).mono (b.trans (d.mono b.size)).size);obtain⟨C,D,E,R,S,T⟩:=id r;obtain⟨z,B,P,Q⟩:=id s);have N:w.heap.size+1<p.heap.size:=(h.below d).lt;go_region
 all_goals
  go_wp2;refine jU (v:=.tuple #[Za #[I ⟨#[]⟩,J F 0 0,J F 0 0],J F 0 0,Za #[U O e,U O f]]) (by simp[results,results16,go_sem,C,D,E,z,B]) rfl ⟨_,_,rfl,zkn _,zko _,?_⟩;exact(((((t.setCell (jE _) _).setCell (jE _) _).setCell (jE _) _).setCell (Nat.le_succ _) _).setCell (Nat.le_succ _) _).drew
theorem ybt {w b:Zw} {n:Nat->Prop} {c:Nat} {s r i:Zv} {m:List VarD} {l:List (ProcD × Zv)} {h:List ByteArray} (v:w.heap.size+2<=c) (t:FR n c b s r m l) (hi:b.ownsRow c 9 1 i h.length (vY h)) (u:Below w.heap.size w b) (e f g d q:Zv) : FR n c (((((b.setCell (A w.heap.size 0 F) e).setCell (A w.heap.size 1 F) f).setCell (A w.heap.size 2 F) g).setCell (A (w.heap.size+1) 0 F) d).setCell (A (w.heap.size+1) 1 F) q) s r m l /\ (((((b.setCell (A w.heap.size 0 F) e).setCell (A w.heap.size 1 F) f).setCell (A w.heap.size 2 F) g).setCell (A (w.heap.size+1) 0 F) d).setCell (A (w.heap.size+1) 1 F) q).ownsRow c 9 1 i h.length (vY h) /\ Below w.heap.size w (((((b.setCell (A w.heap.size 0 F) e).setCell (A w.heap.size 1 F) f).setCell (A w.heap.size 2 F) g).setCell (A (w.heap.size+1) 0 F) d).setCell (A (w.heap.size+1) 1 F) q):=by
 refine⟨?_,?_,?_⟩;·exact((((t.set (M:=w.heap.size) (o:=0) oA e).set (M:=w.heap.size) (o:=1) oA f).set (M:=w.heap.size) (o:=2) oA g).set (M:=w.heap.size+1) (o:=0) oA d).set (M:=w.heap.size+1) (o:=1) oA q
 ·have k:i.ownBlock≠Z w.heap.size:=fun j=>by have:=(hi.lt _ j).1;omega
  have p:i.ownBlock≠Z (w.heap.size+1):=fun j=>by have:=(hi.lt _ j).1;omega
  exact jV (a:=(A (w.heap.size+1) 1 F)) (jV (a:=(A (w.heap.size+1) 0 F)) (jV (a:=(A w.heap.size 2 F)) (jV (a:=(A w.heap.size 1 F)) (jV (a:=(A w.heap.size 0 F)) hi k e) k f) k g) p d) p q
 ·exact((((u.setCell (jE _) _).setCell (jE _) _).setCell (jE _) _).setCell (Nat.le_succ _) _).setCell (Nat.le_succ _) _
theorem xC.bad {w:Zw} {c:ByteArray} {a:List Kid} {q:Int × Int} {b:Ending} {w':Zw} (d:zW a [c] [] 1=Z q):xC w c a b w' ↔ (b=.returned (.tuple #[Za #[I ⟨#[]⟩,J F 0 0,J F 0 0],J F 0 0,Za #[U O q.1,U O q.2]])/\Below w.heap.size w w'):=by
 unfold xC;rw[d]
theorem xC.ok {w:Zw} {c:ByteArray} {a:List Kid} {e:Ending} {w':Zw} (j:zW a [c] [] 1=F):xC w c a e w' ↔ ∃(i:Nat->Prop) (b:Nat) (h g f:Zv) (d:List (ProcD × Zv)),w.heap.size<=b/\e=.returned (.tuple #[Za #[I c,h,g],f,Za #[U O 0,U O 0]])/\FR i b w' h g (kW X a) d/\d.map (·.1)=kZ X a/\(qC a).length<=20/\w'.ownsRow b 9 1 f (kS a).length (vY (kS a))/\Below w.heap.size w w':=by
 unfold xC;rw[j]
theorem zqu (l:ByteArray) (b:ByteArray) (a:List Kid) (w:Zw) (a9:gO w) (S:(parse l).code=0) (V:(parse l).tree=.node 1 b 0 (a.map Kid.tree)) (af:b.size<=16) (ab:∀k∈a,k.good) (aa:kC (a.map Kid.tree)<=1000) (ag:∀k∈a,k.kids.length<=1000) : Calls prog 16 #[I l] w (xC w b a):=by
 have ao:=kc25;have ap:=kc28;have ar:prog.cellsOf 55=3:=xW;have j:=Joins.below_alloc2 w (Zc #[I ⟨#[]⟩,J F 0 0,J F 0 0] 55) (Zc #[U O 0,U O 0] 28);have e:=ze1 l ((w.alloc (Zc #[I ⟨#[]⟩,J F 0 0,J F 0 0] 55)).alloc (Zc #[U O 0,U O 0] 28)) (zbj a9 j);unfold fP at e;rw[S,V]at e;generalize (parse l).place=ah at e;clear S V;have y:=(Box3.new w (I ⟨#[]⟩) (J F 0 0) (J F 0 0) 55).alloc (Zc #[U O 0,U O 0] 28);have h:=Box2.new (w.alloc (Zc #[I ⟨#[]⟩,J F 0 0,J F 0 0] 55)) (U O 0) (U O 0) 28;rw[jP]at h;go_enter func16,ntmps16
 go_wp2_with first
  | (go_at_call 17;refine e.mono ?_;rintro Q G ⟨v,rfl,ac,t⟩;obtain⟨a5,a8,rfl,ad⟩:=zvr ac;have s:=j.trans (t.mono j.size);have d:=Joins.below_alloc2 G (Zc #[U O 1,I b,U O 0,J a5 a.length a8] 25) (Zc #[U O 0,U O ah] 28);have f:=s.trans (d.mono s.size);have ae:=ad.below d;have n:=(y.below t).below d;have o:=(h.below t).below d;have aw:w.heap.size+1<G.heap.size:=(h.below t).lt;have p:=zx7 b a _ _ ae af ab aa ag)
  | fail
 cases g:zW a [b] [] 1 with
 | some q =>
  refine p.mono ?_;intro Q W i;rw[xC.bad g]at i;obtain⟨rfl,c⟩:=i;obtain⟨C,D,E,ak,am,an⟩:=n.below c;obtain⟨z,B,ai,aj⟩:=o.below c;have a2:Hid (Below w.heap.size w W):=f.trans (c.mono f.size);have x:Hid (zW a [b] [] 1=Z q):=g;clear g y h n o e p c f s d j;go_wp2;refine jU (v:=.tuple #[Za #[I ⟨#[]⟩,J F 0 0,J F 0 0],J F 0 0,Za #[U O q.1,U O q.2]]) (by simp[results,results16,go_sem,C,D,E,z,B]) rfl ?_;rw[xC.bad x.out]
  exact⟨rfl,((((a2.out.setCell (jE _) _).setCell (jE _) _).setCell (jE _) _).setCell (Nat.le_succ _) _).setCell (Nat.le_succ _) _⟩
 | none =>
  refine p.mono ?_;intro Q W i;rw[xC.ok g]at i;obtain⟨a3,u,az,ay,ax,m,au,rfl,r,R,T,hi,c⟩:=i;obtain⟨M,P,rfl⟩:=r.shapeV;obtain⟨L,N,rfl⟩:=r.shapeP;obtain⟨a6,a7,rfl,_,_⟩:=lexs.own_shape hi;obtain⟨C,D,E,ak,am,an⟩:=n.below c;obtain⟨z,B,ai,aj⟩:=o.below c;have av:G.heap.size<=u:=by have:=d.size;omega
  have K:Hid _:=ybt (w:=w) oA r hi (f.trans (c.mono f.size)) (I b) (J M (kW X a).length P) (J L m.length N) (U O 0) (U O 0);have HP:Hid (m.map (·.1)=kZ X a/\(qC a).length<=20/\w.heap.size<=u):=⟨R,T,oA⟩
  have x:Hid (zW a [b] [] 1=F):=g;clear g y h n o e p c f s d j r hi R T;go_wp2;refine jU (v:=.tuple #[Za #[I b,J M (kW X a).length P,J L m.length N],J a6 (kS a).length a7,Za #[U O 0,U O 0]]) (by simp[results,results16,go_sem,C,D,E,z,B]) rfl ?_;rw[xC.ok x.out];exact⟨a3,u,_,_,_,m,HP.out.2.2,rfl,K.out.1,HP.out.1,HP.out.2.1,K.out.2⟩
end face
namespace face
open Go.RowKit
open lexs (Tok scan cellsOf tok_cells own_shape scan_own qS zrg)
open syn (kO xS eqS empty)
theorem eqS_lit (b:ByteArray) (a:List UInt8):eqS b ⟨a.toArray⟩=(b.toList==a):=by unfold eqS;rw[ByteArray.toList_eq ⟨a.toArray⟩]
theorem eqS_comm (a b:ByteArray):eqS a b=eqS b a:=by unfold eqS;rw[Bool.eq_iff_iff];simp only[beq_iff_eq];exact eq_comm
theorem reserved_any (a:ByteArray):(xS.any fun b=>eqS b a)=((a.toList==[100,111])||(a.toList==[101,108,115,101])||(a.toList==[103,105,118,101,115])||(a.toList==[104,105,103,104])||(a.toList==[105,102])||(a.toList==[105,109,112,111,114,116])||(a.toList==[105,110])||(a.toList==[108,111,119])||(a.toList==[109,111,100,117,108,101])||(a.toList==[111,117,116])||(a.toList==[112,114,111,99])||(a.toList==[112,117,98])||(a.toList==[114,101,116,117,114,110])||(a.toList==[119,104,105,108,101])):=by
 have e:(xS.any fun b=>eqS b a)=(xS.any fun b=>eqS a b):=by
  rw[Bool.eq_iff_iff,List.any_eq_true,List.any_eq_true];constructor;·rintro⟨b,c,d⟩;exact⟨b,c,by rw[eqS_comm];exact d⟩
  ·rintro⟨b,c,d⟩;exact⟨b,c,by rw[eqS_comm];exact d⟩
 rw[e];unfold xS;simp only[List.any_cons,List.any_nil,Bool.or_false];rw[show eqS a ⟨#[100,111]⟩=(a.toList==[100,111])from eqS_lit a [100,111],show eqS a ⟨#[101,108,115,101]⟩=(a.toList==[101,108,115,101])from eqS_lit a [101,108,115,101],show eqS a ⟨#[103,105,118,101,115]⟩=(a.toList==[103,105,118,101,115])from eqS_lit a [103,105,118,101,115],show eqS a ⟨#[104,105,103,104]⟩=(a.toList==[104,105,103,104])from eqS_lit a [104,105,103,104],show eqS a ⟨#[105,102]⟩=(a.toList==[105,102])from eqS_lit a [105,102],show eqS a ⟨#[105,109,112,111,114,116]⟩=(a.toList==[105,109,112,111,114,116])from eqS_lit a [105,109,112,111,114,116],show eqS a ⟨#[105,110]⟩=(a.toList==[105,110])from eqS_lit a [105,110],show eqS a ⟨#[108,111,119]⟩=(a.toList==[108,111,119])from eqS_lit a [108,111,119],show eqS a ⟨#[109,111,100,117,108,101]⟩=(a.toList==[109,111,100,117,108,101])from eqS_lit a [109,111,100,117,108,101],show eqS a ⟨#[111,117,116]⟩=(a.toList==[111,117,116])from eqS_lit a [111,117,116],show eqS a ⟨#[112,114,111,99]⟩=(a.toList==[112,114,111,99])from eqS_lit a [112,114,111,99],show eqS a ⟨#[112,117,98]⟩=(a.toList==[112,117,98])from eqS_lit a [112,117,98],show eqS a ⟨#[114,101,116,117,114,110]⟩=(a.toList==[114,101,116,117,114,110])from eqS_lit a [114,101,116,117,114,110],show eqS a ⟨#[119,104,105,108,101]⟩=(a.toList==[119,104,105,108,101])from eqS_lit a [119,104,105,108,101]];simp only[Bool.or_assoc]
theorem oisName (b d:Int) (a:ByteArray) (w:Zw) : Calls prog 69 #[Za #[U O b,I a,U O d]] w fun e w'=>e=.returned (Y (!(xS.any fun g=>eqS g a)&&b==1))/\Below w.heap.size w w':=by
 have h:=kc110;rw[reserved_any];cases i:(a.toList==[100,111])
 case true =>
  exact uB
 cases j:(a.toList==[101,108,115,101])
 case true =>
  exact uB
 cases o:(a.toList==[103,105,118,101,115])
 case true =>
  exact uB
 cases p:(a.toList==[104,105,103,104])
 case true =>
  exact uB
 cases q:(a.toList==[105,102])
 case true =>
  exact uB
 cases r:(a.toList==[105,109,112,111,114,116])
 case true =>
  exact uB
 cases s:(a.toList==[105,110])
 case true =>
  exact uB
 cases t:(a.toList==[108,111,119])
 case true =>
  exact uB
 cases u:(a.toList==[109,111,100,117,108,101])
 case true =>
  exact uB
 cases v:(a.toList==[111,117,116])
 case true =>
  exact uB
 cases k:(a.toList==[112,114,111,99])
 case true =>
  exact uB
 cases l:(a.toList==[112,117,98])
 case true =>
  exact uB
 cases m:(a.toList==[114,101,116,117,114,110])
 case true =>
  exact uB
 cases n:(a.toList==[119,104,105,108,101])
 case true =>
  exact uB
 simp only[Bool.or_false,Bool.not_false,Bool.true_and];go_enter func69,ntmps69;go_wp2;go_ret;exact⟨rfl,bal _⟩
theorem zag {w:Zw} {a:Addr} {v:Zv} (b:w.cell? a=Z v) (c:Obj):(w.alloc c).cell? a=Z v:=by
 rw[(bal c).cell (jS w a b)];exact b
theorem zim (b:ByteArray) (w:Zw) (T:qS w) : Calls prog 34 #[I b] w fun h w'=>h=.returned (Y (kO b))/\Below w.heap.size w w':=by
 have a6:=kc110;rw[<- zyv];have c:=scan_own b w T;obtain⟨d,u⟩:∃d,d=zbb b:=⟨_,rfl⟩
 rw[<- u];have E:Hid (d=zbb b):=u;clear u;generalize N:(scan b.data.toList)=j at c;have D:Hid (scan b.data.toList=j):=N;clear N;generalize M:j.toks=G at c;have g:Hid (j.toks=G):=M;clear M;generalize j.code=C,j.place=a5 at c
 match G,g,c with
 | [],g,c =>
  exact zps
 | [t],g,c =>
  have n:Hid (d=(ownName t&&eqS (raw t) b)):=by show _=_;rw[E.out];unfold zbb;rw[D.out,g.out];rfl
  cases s:(!(xS.any fun B=>eqS B (raw t))&&t.kind==1)
  ·have o:Hid (d=X):=by show _=_;rw[n.out];unfold ownName;rw[s];rfl
   go_enter func34,ntmps34
   go_wp2_with first
    | (go_at_call 38;refine c.mono ?_;rintro h z ⟨v,rfl,e,i⟩;obtain⟨K,L,rfl,_,x⟩:=own_shape e;obtain⟨p,rfl⟩:=x oC;obtain⟨l,f,m⟩:=tok_cells e (k:=0) oC;simp only[Nat.zero_mul,Nat.zero_add,jI]at l f m;have W:=fun (a:Obj)=>zag l a;have P:=fun (a:Obj)=>zag f a;have a2:=fun (a:Obj)=>zag m a)
    | (go_at_call 69;refine(oisName _ _ _ _).mono ?_;rw[show(⟨t.text.toArray⟩:ByteArray)=raw t from rfl,s];rintro h a3 ⟨rfl,q⟩)
   go_ret;exact⟨by rw[o.out];rfl,lexs.below_next i q⟩
  ·cases R:((raw t).toList==b.toList)
   all_goals
    have o:Hid (d=((raw t).toList==b.toList)):=by show _=_;rw[n.out];show((!(xS.any fun B=>eqS B (raw t))&&t.kind==1)&&eqS (raw t) b)=_;rw[s];rfl
    rw[R]at o;go_enter func34,ntmps34
    go_wp2_with first
     | (go_at_call 38;refine c.mono ?_;rintro h z ⟨v,rfl,e,i⟩;obtain⟨K,L,rfl,_,x⟩:=own_shape e;obtain⟨p,rfl⟩:=x oC;obtain⟨l,f,m⟩:=tok_cells e (k:=0) oC;simp only[Nat.zero_mul,Nat.zero_add,jI]at l f m;rw[show(⟨t.text.toArray⟩:ByteArray)=raw t from rfl]at f;have S:=jS _ _ f;have W:=fun (a:Obj)=>zag l a;have P:=fun (a:Obj)=>zag f a;have a2:=fun (a:Obj)=>zag m a)
     | (go_at_call 69;refine(oisName _ _ _ _).mono ?_;rw[s];rintro h a3 ⟨rfl,q⟩;have V:=(q.cell (p:=(A p 1 F)) (by rw[jP];show p<_;have:p<z.heap.size:=S;omega));rw[P]at V)
    go_ret
    exact⟨by rw[o.out];rfl,lexs.below_next i q⟩
 | t :: t' :: r,g,c =>
  exact zps
end face
end Go.Proofs.YtbjppepjmcfkaaaGreatDoor
