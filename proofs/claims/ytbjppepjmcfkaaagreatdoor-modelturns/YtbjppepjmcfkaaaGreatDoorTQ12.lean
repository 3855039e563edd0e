/- Boxes of cells, while others turn. -/
import Derived.Test.YtbjppepjmcfkaaaGreatDoorTQr
import Derived.Test.YtbjppepjmcfkaaaGreatDoorTQ11
open Go.Proofs.Tryz
open Go.Value renaming int → U, string → I, slice → J, bool → Y, agg → Za, pointer → Zp
open Go.IntKind renaming i64 → O
open Go.Obj renaming cells → Zc
open Go.Addr renaming mk → A
open Option renaming none → F, some → Z
open Bool renaming false → X, true → H
open Go renaming World → Zw, Value → Zv
set_option maxHeartbeats 4000000
set_option linter.unusedVariables false
set_option linter.unusedSimpArgs false
set_option maxRecDepth 100000
namespace Go.Proofs.YtbjppepjmcfkaaaGreatDoor
theorem bJ {p:Prop} (m:p:=by
 have:=b6 _ a;omega):p:=m
theorem gN {p:Prop} (N:p:=by
 have:=ch _ c;omega):p:=N
theorem fH {p:Prop} (l:p:=by
 have:=aN _ a;omega):p:=l
theorem zmm {p:Prop} (l:p:=by
 refine oneH 7 fun j d=>?_
 go_simp;go_at_call 158;refine(dT at_ (bI e) [h,b] _ _ a7).mono ?_;rintro a bf (⟨T,rfl,rfl⟩|⟨T,rfl,rfl⟩)
 ·have ae:Hid (L=.ok (i,aj)):=K.out.trans (ju (by rw[T];decide));clear T K;go_wp2;refine d.out _ _ a9 (fun f=>?_);clear d j f;refine wpAnyH_done oB ?_ _;go_wp2
  go_end0
  exact SR.mkOk ae.out Q aw
 ·have ae:Hid (L=.bad 7 at_):=K.out.trans (jv T);clear T K;go_wp2
  exact⟨rfl,SR.mkBad ae.out Q.bs⟩):p:=l
theorem uR {p:Prop} (N:p:=by
 have:=bN _ c;omega):p:=N
theorem zdr {p:Prop} (z:p:=by
 have:=bP _ c;omega):p:=z
theorem zdq {p:Prop} (z:p:=by
 have:=bc _ c;omega):p:=z
theorem zds {p:Prop} (m:p:=by
 have:=aC _ a;omega):p:=m
theorem zmp {p:Prop} (b:p:=by
 simp only[jy]at h;rw[h];exact i):p:=b
theorem zmo {p:Prop} (b:p:=by
 simp only[jy]at c;subst c;exact i):p:=b
theorem zmn {p:Prop} (b:p:=by
 simp only[jy]at c;subst c;exact hi):p:=b
namespace chk
open Go.RowKit Go.Shelf
open syn face
def HS (N g o:Nat) (n0 n1 n2 n3 k0 k1 k2 k3 s0 s1:Zv) (W:Zw):Prop :=
 W.cell? (A N 0 F)=Z n0/\W.cell? (A N 1 F)=Z n1/\W.cell? (A N 2 F)=Z n2/\W.cell? (A N 3 F)=Z n3 /\
 W.cell? (A g o F)=Z k0/\W.cell? (A g (o+1) F)=Z k1/\W.cell? (A g (o+2) F)=Z k2/\W.cell? (A g (o+3) F)=Z k3 /\
 W.cell? (A (N+1) 0 F)=Z s0/\W.cell? (A (N+1) 1 F)=Z s1
theorem dD {w:Zw} {B:Nat} {k:Int} {x:ByteArray} {m:Int} {ks:List Tree} {v:Zv} (n:Lies (·<B) w (.node k x m ks) v) (D:ks≠[]) : ∃g o l,v=Za #[U O k,I x,U O m,J (Z (A g o F)) ks.length l]/\g<B/\ks.length<=4611686018427387904/\∀b (p:b<ks.length),∃f j h c i d,w.cell? (A g (o+b*4) F)=Z (U O f)/\w.cell? (A g (o+b*4+1) F)=Z (I j)/\w.cell? (A g (o+b*4+2) F)=Z (U O h)/\w.cell? (A g (o+b*4+3) F)=Z (J c i d)/\Lies (·<B) w ks[b] (Za #[U O f,I j,U O h,J c i d]):=by
 unfold Lies at n;obtain⟨a,l,rfl,E,C⟩:=n;obtain⟨g,o,rfl,z,y⟩:=C D;refine⟨g,o,l,rfl,z,oA,fun b p=>?_⟩;obtain⟨G,⟨K,L,M,N,rfl,r,s,t,u⟩,q⟩:=y.get b p;obtain⟨f,j,h,_,e,c,i,d,rfl⟩:=q.shape;injection e with e;simp only[Array.mk.injEq,jq,and_true]at e;obtain⟨rfl,rfl,rfl,rfl⟩:=e;exact⟨f,j,h,c,i,d,r,s,t,u,q⟩
section
variable {N g o:Nat} {n0 n1 n2 n3 k0 k1 k2 k3 s0 s1:Zv} {w0 w w':Zw}
theorem HS.new {w0 w:Zw} (a:Below w0.heap.size w0 ((w.alloc (Zc #[n0,n1,n2,n3] 25)).alloc (Zc #[s0,s1] 190))) (b:g<w0.heap.size) (c:w0.cell? (A g o F)=Z k0) (d:w0.cell? (A g (o+1) F)=Z k1) (e:w0.cell? (A g (o+2) F)=Z k2) (f:w0.cell? (A g (o+3) F)=Z k3) : HS w.heap.size g o n0 n1 n2 n3 k0 k1 k2 k3 s0 s1 ((w.alloc (Zc #[n0,n1,n2,n3] 25)).alloc (Zc #[s0,s1] 190)):=by
 refine⟨oC,oC,oC,oC,(a.cell (p:=(A g o F)) b).trans c,(a.cell (p:=(A g (o+1) F)) b).trans d,(a.cell (p:=(A g (o+2) F)) b).trans e,(a.cell (p:=(A g (o+3) F)) b).trans f,?_,?_⟩;·exact zZ _ #[s0,s1] _ (w.heap.size+1) oC 0 s0 rfl
 ·exact zZ _ #[s0,s1] _ (w.heap.size+1) oC 1 s1 rfl
theorem HS.setD {D:Nat} (h:HS N g o n0 n1 n2 n3 k0 k1 k2 k3 s0 s1 w) (i:N≠D) (j:N+1≠D) (k:g≠D) (c:Nat) (v:Zv):HS N g o n0 n1 n2 n3 k0 k1 k2 k3 s0 s1 (w.setCell (A D c F) v):=by
 have d:∀b,(w.setCell (A D c F) v).cell? (A N b F)=w.cell? (A N b F):=fun b=>jN (a:=(A N b F)) (jQ w (A D c F) v N i)
 have f:∀b,(w.setCell (A D c F) v).cell? (A (N+1) b F)=w.cell? (A (N+1) b F):=fun b=>jN (a:=(A (N+1) b F)) (jQ w (A D c F) v (N+1) j)
 have e:∀b,(w.setCell (A D c F) v).cell? (A g b F)=w.cell? (A g b F):=fun b=>jN (a:=(A g b F)) (jQ w (A D c F) v g k)
 unfold HS;rw[d,d,d,d,f,f,e,e,e,e];exact h
theorem HS.fr {D:Nat} {u u':Zv} (d:HS N g o n0 n1 n2 n3 k0 k1 k2 k3 s0 s1 w) (f:FrU D u u' w w') (i:Below w0.heap.size w0 w) (j:Below w0.heap.size w0 w') (h:g<w0.heap.size) (k:N≠D) (l:N+1≠D) (m:u.ownBlock≠Z N) (n:u.ownBlock≠Z (N+1)):HS N g o n0 n1 n2 n3 k0 k1 k2 k3 s0 s1 w':=by
 have q:=jS w (A N 0 F) d.1;have r:=jS w (A (N+1) 0 F) d.2.2.2.2.2.2.2.2.1;have b:∀a,w'.cell? (A N a F)=w.cell? (A N a F):=fun a=>f.cell q k m
 have e:∀a,w'.cell? (A (N+1) a F)=w.cell? (A (N+1) a F):=fun a=>f.cell r l n
 have c:∀a,w'.cell? (A g a F)=w.cell? (A g a F):=fun a=>(j.cell (p:=(A g a F)) h).trans (i.cell (p:=(A g a F)) h).symm
 unfold HS;rw[b,b,b,b,e,e,c,c,c,c];exact d
end
theorem zch (a:Bool):bits BinOp.and IntKind.i64 (bI a) 1=bI a:=by cases a<;>decide
theorem zgn (w:Zw) (b m:Int):IntsIn (w.alloc (Zc #[U O b,U O m] 3)) (J (Z (A w.heap.size 0 F)) 2 2) [b,m] :=
 ⟨_,_,rfl,oC,fun _=>⟨_,_,rfl,fun a hi=>by
  have c:a<2:=hi
  match a,c with
  | 0,_=>simp
  | 1,_=>simp⟩⟩
theorem zjs (w:Zw) (b m c:Int):IntsIn (w.alloc (Zc #[U O b,U O m,U O c] 3)) (J (Z (A w.heap.size 0 F)) 3 3) [b,m,c] :=
 ⟨_,_,rfl,oC,fun _=>⟨_,_,rfl,fun a hi=>by
  have d:a<3:=hi
  match a,d with
  | 0,_=>simp
  | 1,_=>simp
  | 2,_=>simp⟩⟩
section
variable {E:Env} {p:Pr} {w0:Zw} {D Kb kn:Nat} {kf:KF}
theorem zue (x:ByteArray) (b:Bool) (a:Tree) (aM:ExT a) (aE:∀d,yF d->Tab E d kf (kN d)):dO E p w0 D Kb kn kf (.node 7 x (bI b) [a]):=by
 intro c t first d u v w at_ aK aA aW aU aZ bg m aT b2
 have bb:=kc25;have ba:=kc190;have bc:prog.cellsOf 87=4:=cell4;have an:=aE d aW;rw[yB,uQ]at b2;have be:=kU a;obtain⟨g,o,i,rfl,ac,bh,aH⟩:=dD aK oC;obtain⟨C,M,G,r,K,s,k0,k1,k2,k3,av⟩:=aH 0 oC;simp only[Nat.zero_mul,Nat.add_zero,jI,List.length_singleton]at k0 k1 k2 k3 av |-;have k:=show Hid _ from ycb p c t at_ an aZ aA x b a
 obtain⟨h,aC⟩:∃h,stF E p c t X (.node 7 x (bI b) [a]) d at_=h:=⟨_,rfl⟩
 rw[aC]at k |-;clear aC aH aK;have b6:∀af,u.ownBlock=Z af->af<w.heap.size:=fun af a=>(m.rl.lt _ a).2
 have bf:=m.lt;have a8:=(m.alloc (Zc #[U O 7,I x,U O (bI b),J (Z (A g o F)) 1 i] 25)).alloc (Zc #[U O c,U O (first:Int)] 190);have aG:=((FrU.refl D u w).alloc (Zc #[U O 7,I x,U O (bI b),J (Z (A g o F)) 1 i] 25)).alloc (Zc #[U O c,U O (first:Int)] 190);have ay:=a8.begin aT oA
 have aD:HS w.heap.size g o (U O 7) (I x) (U O (bI b)) (J (Z (A g o F)) 1 i) (U O C) (I M) (U O G) (J r K s) (U O c) (U O (first:Int)) ((w.alloc (Zc #[U O 7,I x,U O (bI b),J (Z (A g o F)) 1 i] 25)).alloc (Zc #[U O c,U O (first:Int)] 190)) :=
  HS.new a8.bs ac k0 k1 k2 k3
 have az:=fun W (l:CS w0 W D Kb kn kf (kN d) u (at_+1))=>fU E d c (an.agr c) (by rw[xT];omega) a _ W (at_+1) aM av l oA oA
 have b1:g≠D:=by have:=m.hD;omega
 clear av k0 k1 k2 k3 aM an aE;generalize exF E d c X a (at_+1)=aQ at *;go_enter func157,ntmps157;go_wp2_with (go_at_call 81;refine ay.mono ?_;rintro a L ⟨rfl,ad⟩;have l:CS w0 L D Kb kn kf (kN d) u (at_+1):=by { rw[ad];exact a8.setAt _ };have ak:HS w.heap.size g o (U O 7) (I x) (U O (bI b)) (J (Z (A g o F)) 1 i) (U O C) (I M) (U O G) (J r K s) (U O c) (U O (first:Int)) L:=by { rw[ad];exact aD.setD oA oA b1 _ _ };have ab:FrU D u u w L:=by { rw[ad];exact aG.set _ _ (fun _ a=>a) };clear ad;obtain⟨N,P,Q,R,T,V,a2,a3,a5,a6⟩:=id ak);clear N P Q R T V a2 a3 a5 a6 a8 aG aD ay;have f:HS w.heap.size g o (U O 7) (I x) (U O (bI b)) (J (Z (A g o F)) 1 i) (U O C) (I M) (U O G) (J r K s) (U O c) (U O (first:Int)) L.drew:=ak;refine wp_region_held_drew (S:=HS w.heap.size g o (U O 7) (I x) (U O (bI b)) (J (Z (A g o F)) 1 i) (U O C) (I M) (U O G) (J r K s) (U O c) (U O (first:Int))) oB f (fun ai=>?_);clear ai ak;replace l:=l.drew;replace ab:=ab.drew;generalize L.drew=W at *;refine tkP 0 (Zp (Z (A D 0 F))) f ?_;simp only[Act.put,jA,jB,jC];refine tkP 1 (Zp (Z (A w.heap.size 3 F))) f ?_;simp only[Act.put,jA,jB,jC];refine tkP 2 (J (Z (A g o F)) 1 i) f ?_;simp only[Act.put,jA,jB,jC];refine tkP 3 (Zp (Z (A g o F))) f ?_;simp only[Act.put,jA,jB,jC];refine tkP 4 (Za #[U O C,I M,U O G,J r K s] ) f ?_;simp only[Act.put,jA,jB,jC];refine tkP 5 (Zp (Z (A (w.heap.size+1) 0 F))) f ?_;simp only[Act.put,jA,jB,jC];refine tkP 6 (U O c) f ?_;simp only[Act.put,jA,jB,jC];refine oneH 7 fun aO aB=>?_
 go_simp;go_at_call 159;refine(az W l).mono ?_
 cases aQ with
 | bad aS aR =>
  have e:Hid (h=.bad aS aR):=k.out;rintro a b8 ⟨rfl,aY⟩;go_wp2
  exact⟨rfl,SR.mkBad e.out aY⟩
 | ok q =>
  obtain⟨aw,ax⟩:=q;rintro a b8 ⟨rfl,y,ah⟩;dsimp only at y k;have z:=f.fr (FrU.of ah u) l.bs y.bs ac oA oA (fun a=>bJ) (fun a=>bJ);have ap:=ab.trans (FrU.of ah u);clear ah f l ab az;go_wp2;refine aB.out _ _ z (fun ai=>?_);clear aB aO ai;refine tkP 8 (U O aw) z ?_;simp only[Act.put,jA,jB,jC];refine wpAnyH_done oB ?_ _;obtain⟨N,P,Q,R,T,V,a2,a3,a5,a6⟩:=id z;go_wp2_with (go_at_call 129;refine(zgp 7 x (bI b) _ _ _ _).mono ?_;rintro a n ⟨rfl,aa⟩;rw[zch];unfold qE;have aj:=(y.below aa).alloc (Zc #[I x,Y X,U O (bI b),U O 0] 87);have ar:=(FrU.below aa D u).alloc (Zc #[I x,Y X,U O (bI b),U O 0] 87);have am:=z.fr ar y.bs aj.bs ac oA oA (fun a=>bJ) (fun a=>bJ);obtain⟨N,P,Q,R,T,V,a2,a3,a5,a6⟩:=id am);have b0:=ap.trans ar;have bi:w.heap.size<=n.heap.size:=by have:=ap.size;have:=aa.size;omega
  have ag:kR (n.alloc (Zc #[I x,Y X,U O (bI b),U O 0] 87)) n.heap.size ⟨x,X,bI b,0⟩:=kR.new n ⟨x,X,bI b,0⟩;clear y ap ar z aa N P Q R T V a2 a3 a5 a6;refine(zv1 ⟨x,X,bI b,0⟩ first at_ aj (by rw[xT];exact aA.le) (by rw[xT];exact aU)).mono ?_;generalize n.alloc (Zc #[I x,Y X,U O (bI b),U O 0] 87)=aP at *;rintro a aN (⟨j,rfl,ao⟩|⟨j,a7,rfl,ao⟩|⟨j,a7,rfl,⟨b7,a9,aI⟩,aJ,aF⟩);·have e:Hid (h=.bad 5 at_):=k.out.trans (jv j);clear j;go_wp2;exact⟨rfl,SR.mkBad e.out ao⟩
  ·rw[xT]at a7;have e:Hid (h=.bad 1 at_):=k.out.trans ((ju (by rw[j];decide)).trans (jv a7));clear j;go_wp2;exact⟨rfl,SR.mkBad e.out ao⟩
  ·rw[xT]at a7;have e:Hid (h=if zA (bI b) [aw,c]=X then .bad 7 at_ else .ok (d++[⟨x,bI b,t⟩],ax)):=k.out.trans ((ju (by rw[j];decide)).trans (ju oA));have au:FrU D u b7 aP aN:=⟨aJ,aF,aI⟩
   have aX:=am.fr au aj.bs a9.bs ac oA oA (fun a=>bJ) (fun a=>bJ);have aV:kR aN n.heap.size ⟨x,X,bI b,0⟩:=(au.block _ ag.lt oA (fun a=>bJ)).trans ag;have aL:kN d++[⟨x,X,bI b,0⟩]=kN (d++[⟨x,bI b,t⟩]):=by unfold kN;simp
   rw[aL]at a9;obtain⟨bm,bn,bo,bp,b9⟩:=aV.cells;obtain⟨N,P,Q,R,T,V,a2,a3,a5,a6⟩:=id aX;clear j k am ag aF aI aJ aL b9;go_wp2_with (fail);refine(dT at_ (bI b) [aw,c] _ _ (zgn _ _ _)).mono ?_;rintro a bj (⟨B,rfl,rfl⟩|⟨B,rfl,rfl⟩)
   ·have ae:Hid (h=.ok (d++[⟨x,bI b,t⟩],ax)):=e.out.trans (ju (by rw[B];decide));clear B e;go_wp2
    go_end0
    exact SR.mkOk ae.out (a9.alloc _) ((b0.trans au).alloc _)
   ·have ae:Hid (h=.bad 7 at_):=e.out.trans (jv B);clear B e;go_wp2;exact⟨rfl,SR.mkBad ae.out (a9.alloc _).bs⟩
end
theorem zq4 {E:Env} {c:List Loc} {d:Int} {kf:ByteArray->Option FV} {vs:List VarD} {k:Int} {x:ByteArray} {m:Int} {ks:List Tree} {a:Int} {q:VarD × Int × Int} (b:plP kf vs k x a (exL E c d ks (a+1))=.ok q):q.2.2=a+kD (.node k x m ks):=by
 rw[yB]
 cases e:exL E c d ks (a+1)with
 | bad h g=>rw[e]at b;cases b
 | ok f =>
  have:=(bU E c d ks _ _ e).1;rw[e]at b;simp only[plP]at b;split at b;·cases b
  ·split at b;·cases b;show f.2=_;omega
   ·cases b
theorem FrU.put {D b o:Nat} {u e:Zv} {w d:Zw} (a:FrU D u e w d) (i:w.heap.size<=b) (v:Zv):FrU D u e w (d.setCell (A b o F) v) :=
 ⟨by rw[jR];exact a.size,fun c f g h=>(jQ d (A b o F) v c (by show c≠b;omega)).trans (a.block c f g h),a.own⟩
section
variable {E:Env} {p:Pr} {w0:Zw} {D Kb kn:Nat} {kf:KF}
theorem zl1 (k:Int) (x:ByteArray) (m:Int) (ks:List Tree) (c:Tree) (cf:PlT (.node k x m ks)) (ci:ExT c) (br:qL x) (bn:∀t∈ks,ExT t) (bj:∀h,yF h->Tab E h kf (kN h)):dO E p w0 D Kb kn kf (.node 8 empty 0 [.node k x m ks,c]):=by
 intro d ba first h u v w at_ bq cv bR cu cb cL N bC bo
 have cr:=kc25;have cq:=kc190;have ct:prog.cellsOf 87=4:=cell4;have aE:=bj h bR;have aZ:(kN h).length<=1000:=by rw[xT];omega
 rw[yB]at bo;have cy:=kX [.node k x m ks,c];obtain⟨g,o,l,rfl,B,d1,aV⟩:=dD bq oC;obtain⟨ah,ak,ai,a7,aj,a9,k0,k1,k2,k3,aW⟩:=aV 0 oC;obtain⟨aH,aK,aI,aw,aJ,ax,b0,b1,b2,b6,aX⟩:=aV 1 oC;simp only[Nat.zero_mul,Nat.one_mul,Nat.add_zero,jI,List.getElem_cons_succ,jd,je]at k0 k1 k2 k3 aW b0 b1 b2 b6 aX |-;have K:=show Hid _ from ycf p d ba at_ aE cb cf c
 obtain⟨L,bg⟩:∃L,stF E p d ba X (.node 8 empty 0 [.node k x m ks,c]) h at_=L:=⟨_,rfl⟩
 rw[bg]at K |-;clear bg aV bq;have ch:∀M,u.ownBlock=Z M->M<w.heap.size:=fun M c=>(N.rl.lt _ c).2
 have cH:=N.lt;have aB:=(N.alloc (Zc #[U O 8,I empty,U O 0,J (Z (A g o F)) 2 l] 25)).alloc (Zc #[U O d,U O (first:Int)] 190);have bm:=((FrU.refl D u w).alloc (Zc #[U O 8,I empty,U O 0,J (Z (A g o F)) 2 l] 25)).alloc (Zc #[U O d,U O (first:Int)] 190);have be:=aB.begin bC oA
 have bh:HS w.heap.size g o (U O 8) (I empty) (U O 0) (J (Z (A g o F)) 2 l) (U O ah) (I ak) (U O ai) (J a7 aj a9) (U O d) (U O (first:Int)) ((w.alloc (Zc #[U O 8,I empty,U O 0,J (Z (A g o F)) 2 l] 25)).alloc (Zc #[U O d,U O (first:Int)] 190)) :=
  HS.new aB.bs B k0 k1 k2 k3
 have cd:g≠D:=by have:=N.hD;omega
 have cw:=N.mp.lt;have cR:=N.fm;have cz:=kU (.node k x m ks);have ca:=kX ks;have c9:=yB k x m ks;have cx:=kU c
 have c8:kC [.node k x m ks,c]=kD (.node k x m ks)+kD c:=by
  show kD _+(kD c+kC [])=_;simp[kC]
 rw[c8]at bo;have ay:=fun W (n:CS w0 W D Kb kn kf (kN h) u (at_+1))=>zh6 E h aZ k x m ks _ W d (at_+1) bn br aW n oA oA (fun cj d0 v w a bF bG bK bM bN=>fU E h d (aE.agr d) aZ ks[cj] v w a bF bG bK bM bN)
 have aP:Hid (∀q,plP kf (kN h) k x (at_+1) (exL E h d ks (at_+1+1))=.ok q->q.2.2=at_+1+kD (.node k x m ks)):=fun q cg=>zq4 (m:=m) cg
 clear aW k0 k1 k2 k3 br bn c9 ca;generalize plP kf (kN h) k x (at_+1) (exL E h d ks (at_+1+1))=b8 at *;go_enter func157,ntmps157;go_wp2_with (go_at_call 81;refine be.mono ?_;rintro c T ⟨rfl,ag⟩;have n:CS w0 T D Kb kn kf (kN h) u (at_+1):=by { rw[ag];exact aB.setAt _ };have bi:HS w.heap.size g o (U O 8) (I empty) (U O 0) (J (Z (A g o F)) 2 l) (U O ah) (I ak) (U O ai) (J a7 aj a9) (U O d) (U O (first:Int)) T:=by { rw[ag];exact bh.setD oA oA cd _ _ };have V:FrU D u u w T:=by { rw[ag];exact bm.set _ _ (fun _ c=>c) };have a2:w.heap.size+2<=T.heap.size:=by { rw[ag,jR];simp };clear ag;obtain⟨am,an,ao,ap,aL,aM,aN,aO,ar,au⟩:=id bi);clear am an ao ap aL aM aN aO ar au aB bm bh be;have e:HS w.heap.size g o (U O 8) (I empty) (U O 0) (J (Z (A g o F)) 2 l) (U O ah) (I ak) (U O ai) (J a7 aj a9) (U O d) (U O (first:Int)) T.drew:=bi;refine wp_region_held_drew (S:=HS w.heap.size g o (U O 8) (I empty) (U O 0) (J (Z (A g o F)) 2 l) (U O ah) (I ak) (U O ai) (J a7 aj a9) (U O d) (U O (first:Int))) oB e (fun j=>?_);clear j;replace n:=n.drew;replace V:=V.drew;replace a2:w.heap.size+2<=T.drew.heap.size:=a2;generalize T.drew=W at *;refine tkP 0 (Zp (Z (A D 0 F))) e ?_;simp only[Act.put,jA,jB,jC];refine tkP 1 (Zp (Z (A w.heap.size 3 F))) e ?_;simp only[Act.put,jA,jB,jC];refine tkP 2 (J (Z (A g o F)) 2 l) e ?_;simp only[Act.put,jA,jB,jC];refine tkP 3 (Zp (Z (A g o F))) e ?_;simp only[Act.put,jA,jB,jC];refine tkP 4 (Za #[U O ah,I ak,U O ai,J a7 aj a9]) e ?_;simp only[Act.put,jA,jB,jC];refine tkP 5 (Zp (Z (A (w.heap.size+1) 0 F))) e ?_;simp only[Act.put,jA,jB,jC];refine tkP 6 (U O d) e ?_;simp only[Act.put,jA,jB,jC];refine wpAnyH_ready (rs:=[7,11]) oB oC ?_;refine AllReadyH.cons rfl (fun r i=>?_) (AllReadyH.cons rfl (fun r i=>?_) AllReadyH.nil)
 focus
  go_simp;go_at_call 182;refine(ay W n).mono ?_;cases b8
  case bad aa a8 =>
   have s:Hid (L=.bad aa a8):=K.out;rintro c G ⟨rfl,bX⟩;go_wp2;exact⟨rfl,SR.mkBad s.out bX⟩
  case' ok q =>
   have a5:=aP.out q rfl;obtain⟨b,Q,aR⟩:=q;dsimp only at a5;subst a5;rintro c G ⟨rfl,y,az⟩;dsimp only at y K;unfold qE;have z:=e.fr (FrU.of az u) n.bs y.bs B oA oA (fun c=>gN) (fun c=>gN);have ad:=V.trans (FrU.of az u);have af:w.heap.size+2<=G.heap.size:=jp a2 az.size;clear az e n V ay a2;go_wp2;refine i.out _ _ z (fun j=>?_);clear i r j;refine tkP 8 (.tuple #[Za #[I b.name,Y b.pub,U O b.label,U O b.size],U O Q]) z ?_;simp only[Act.put,jA,jB,jC];refine tkP 9 (Za #[I b.name,Y b.pub,U O b.label,U O b.size]) z ?_;simp only[Act.put,jA,jB,jC];refine tkP 10 (U O Q) z ?_;simp only[Act.put,jA,jB,jC];refine oneH 11 fun r i=>?_
   go_simp;have ab:=kR.new G yP;have R:=y.alloc (Zc #[I ⟨#[]⟩,Y X,U O 0,U O 0] 87);have P:=z.fr ((FrU.refl D u G).alloc (Zc #[I ⟨#[]⟩,Y X,U O 0,U O 0] 87)) y.bs R.bs B oA oA (fun c=>gN) (fun c=>gN);have aU:=ad.alloc (Zc #[I ⟨#[]⟩,Y X,U O 0,U O 0] 87);have aY:w.heap.size+2<=(G.alloc (Zc #[I ⟨#[]⟩,Y X,U O 0,U O 0] 87)).heap.size:=oE;refine i.out _ _ P (fun j=>?_);clear i r j y z ad;change kR (G.alloc (Zc #[I ⟨#[]⟩,Y X,U O 0,U O 0] 87)) G.heap.size yP at ab;generalize G.alloc (Zc #[I ⟨#[]⟩,Y X,U O 0,U O 0] 87)=av at *;have ce:=af;clear af;generalize G.heap.size=f at *
 rotate_left
 focus
  go_simp;have aS:=kR.new W yP;have y:=n.alloc (Zc #[I ⟨#[]⟩,Y X,U O 0,U O 0] 87);have z:=e.fr ((FrU.refl D u W).alloc (Zc #[I ⟨#[]⟩,Y X,U O 0,U O 0] 87)) n.bs y.bs B oA oA (fun c=>gN) (fun c=>gN);have ad:=V.alloc (Zc #[I ⟨#[]⟩,Y X,U O 0,U O 0] 87);have af:w.heap.size+2<=(W.alloc (Zc #[I ⟨#[]⟩,Y X,U O 0,U O 0] 87)).heap.size:=oE;refine i.out _ _ z (fun j=>?_);clear i r j n e V;change kR (W.alloc (Zc #[I ⟨#[]⟩,Y X,U O 0,U O 0] 87)) W.heap.size yP at aS;generalize W.alloc (Zc #[I ⟨#[]⟩,Y X,U O 0,U O 0] 87)=bA at *;have ce:=a2;clear a2;generalize W.heap.size=f at *;refine oneH 7 fun r i=>?_
  go_simp;go_at_call 182;refine(ay bA y).mono ?_;cases b8
  case bad aa a8 =>
   have s:Hid (L=.bad aa a8):=K.out;rintro c d2 ⟨rfl,c6⟩;go_wp2;exact⟨rfl,SR.mkBad s.out c6⟩
  case' ok q =>
   have a5:=aP.out q rfl;obtain⟨b,Q,aR⟩:=q;dsimp only at a5;subst a5;rintro c av ⟨rfl,R,ac⟩;dsimp only at R K;unfold qE;have P:=z.fr (FrU.of ac u) y.bs R.bs B oA oA (fun c=>gN) (fun c=>gN);have aU:=ad.trans (FrU.of ac u);have aY:w.heap.size+2<=av.heap.size:=jp af ac.size;have ab:=aS.kept ac oE;clear ac z y ad af ay aS;go_wp2;refine i.out _ _ P (fun j=>?_);clear i r j;refine tkP 8 (.tuple #[Za #[I b.name,Y b.pub,U O b.label,U O b.size],U O Q]) P ?_;simp only[Act.put,jA,jB,jC];refine tkP 9 (Za #[I b.name,Y b.pub,U O b.label,U O b.size]) P ?_;simp only[Act.put,jA,jB,jC];refine tkP 10 (U O Q) P ?_;simp only[Act.put,jA,jB,jC]
 all_goals
  obtain⟨bu,bv,bw,bz,a3⟩:=ab.cells;have cm:=a3 0;have cn:=a3 1;have co:=a3 2;have cp:=a3 3;refine oneH 12 fun r i=>?_
  go_simp;have aG:g≠f:=by have:=R.mM;omega
  have C:=R.put4 (b:=f) oA oA (fun c=>gN) oA (I b.name) (Y b.pub) (U O b.label) (U O b.size);have aD:=(((P.setD (D:=f) oA oA aG 0 (I b.name)).setD (D:=f) oA oA aG 1 (Y b.pub)).setD (D:=f) oA oA aG 2 (U O b.label)).setD (D:=f) oA oA aG 3 (U O b.size);have aF:=(((aU.put (b:=f) (o:=0) oA (I b.name)).put (b:=f) (o:=1) oA (Y b.pub)).put (b:=f) (o:=2) oA (U O b.label)).put (b:=f) (o:=3) oA (U O b.size);have bb:=ab.put b;have bp:w.heap.size+2<=((((av.setCell (A f 0 F) (I b.name)).setCell (A f 1 F) (Y b.pub)).setCell (A f 2 F) (U O b.label)).setCell (A f 3 F) (U O b.size)).heap.size:=by simp only[jR];exact aY
  refine i.out _ _ aD (fun j=>?_);clear i r j bu bv bw bz a3 cm cn co cp R P aU ab aY;generalize ((((av.setCell (A f 0 F) (I b.name)).setCell (A f 1 F) (Y b.pub)).setCell (A f 2 F) (U O b.label)).setCell (A f 3 F) (U O b.size))=a6 at *;refine tkP 13 (U O Q) aD ?_;simp only[Act.put,jA,jB,jC];simp only[List.getElem_toArray,List.getElem_cons_succ,jI,List.setIfInBounds_toArray,List.set_cons_zero,List.set_cons_succ];refine wpAnyH_done oB ?_ _;obtain⟨am,an,ao,ap,aL,aM,aN,aO,ar,au⟩:=id aD;have bS:HS w.heap.size g (o+4) (U O 8) (I empty) (U O 0) (J (Z (A g o F)) 2 l) (U O aH) (I aK) (U O aI) (J aw aJ ax) (U O d) (U O (first:Int)) a6:=⟨am,an,ao,ap,(C.bs.cell (p:=(A g (o+4) F)) B).trans b0,(C.bs.cell (p:=(A g (o+4+1) F)) B).trans b1,(C.bs.cell (p:=(A g (o+4+2) F)) B).trans b2,(C.bs.cell (p:=(A g (o+4+3) F)) B).trans b6,ar,au⟩
  have bf:=fun W (n:CS w0 W D Kb kn kf (kN h) u (at_+1+kD (.node k x m ks)))=>fU E h d (aE.agr d) aZ c _ W _ ci aX n oA oA
  clear am an ao ap aL aM aN aO ar au aD b0 b1 b2 b6 aP aE bj aX;generalize at_+1+kD (.node k x m ks)=aR at *;generalize exF E h d X c aR=bB at *;go_wp2;have bc:kR a6.drew f b:=bb;have e:HS w.heap.size g (o+4) (U O 8) (I empty) (U O 0) (J (Z (A g o F)) 2 l) (U O aH) (I aK) (U O aI) (J aw aJ ax) (U O d) (U O (first:Int)) a6.drew:=bS;refine wp_region_held_drew (S:=HS w.heap.size g (o+4) (U O 8) (I empty) (U O 0) (J (Z (A g o F)) 2 l) (U O aH) (I aK) (U O aI) (J aw aJ ax) (U O d) (U O (first:Int))) oB e (fun j=>?_);clear j;replace C:=C.drew;replace aF:=aF.drew;replace bp:w.heap.size+2<=a6.drew.heap.size:=bp;generalize a6.drew=W at *;refine tkP 0 (Zp (Z (A D 0 F))) e ?_;simp only[Act.put,jA,jB,jC];refine tkP 1 (Zp (Z (A w.heap.size 3 F))) e ?_;simp only[Act.put,jA,jB,jC];refine tkP 2 (J (Z (A g o F)) 2 l) e ?_;simp only[Act.put,jA,jB,jC];refine tkP 3 (Zp (Z (A g ((o+4)) F))) e ?_;simp only[Act.put,jA,jB,jC];refine tkP 4 (Za #[U O aH,I aK,U O aI,J aw aJ ax]) e ?_;simp only[Act.put,jA,jB,jC];refine tkP 5 (Zp (Z (A (w.heap.size+1) 0 F))) e ?_;simp only[Act.put,jA,jB,jC];refine tkP 6 (U O d) e ?_;simp only[Act.put,jA,jB,jC];refine oneH 7 fun r i=>?_
  go_simp;go_at_call 159;refine(bf W C).mono ?_
  cases bB with
  | bad aa a8 =>
   have s:Hid (L=.bad aa a8):=K.out;rintro c ck ⟨rfl,c7⟩;go_wp2
   exact⟨rfl,SR.mkBad s.out c7⟩
  | ok q =>
   obtain⟨b7,b9⟩:=q;have s:Hid (L=if zA b.label [b7,Q,d]=X then .bad 7 at_ else .ok (h,b9)):=K.out;clear K;rintro c ck ⟨rfl,aC,aA⟩;dsimp only at aC;have aT:=e.fr (FrU.of aA u) C.bs aC.bs B oA oA (fun c=>gN) (fun c=>gN);have cc:=aF.trans (FrU.of aA u);have bP:=bc.kept aA oE;clear aA e C aF bf bc bb;go_wp2;refine i.out _ _ aT (fun j=>?_);clear i r j;refine tkP 8 (U O b7) aT ?_;simp only[Act.put,jA,jB,jC];refine wpAnyH_done oB ?_ _;obtain⟨bu,bv,bw,bz,a3⟩:=bP.cells;obtain⟨am,an,ao,ap,aL,aM,aN,aO,ar,au⟩:=id aT;go_wp2_with (fail);refine(dT at_ b.label [b7,Q,d] _ _ (zjs _ _ _ _)).mono ?_;rintro c d3 (⟨ae,rfl,rfl⟩|⟨ae,rfl,rfl⟩)
   ·have aQ:Hid (L=.ok (h,b9)):=s.out.trans (ju (by rw[ae];decide));clear ae s;go_wp2
    go_end0
    exact SR.mkOk aQ.out (aC.alloc _) (cc.alloc _)
   ·have aQ:Hid (L=.bad 7 at_):=s.out.trans (jv ae);clear ae s;go_wp2;exact⟨rfl,SR.mkBad aQ.out (aC.alloc _).bs⟩
end
section
variable {E:Env} {p:Pr} {w0:Zw} {D Kb kn:Nat} {kf:KF}
theorem zz4 (x:ByteArray) (m:Int) (ks:List Tree) (V:qL x) (af:∀t∈ks,ExT t) (ab:∀c,yF c->Tab E c kf (kN c)):dO E p w0 D Kb kn kf (.node 9 empty 0 [.node 18 x m ks]):=by
 intro b a2 first c u v w at_ ai aU az aT aY b0 j ar ag
 have aR:=kc25;have aQ:=kc190;have aS:prog.cellsOf 87=4:=cell4;have R:=ab c az;have aE:(kN c).length<=1000:=by rw[xT];omega
 rw[yB]at ag;have aW:=kX [.node 18 x m ks];obtain⟨g,o,f,rfl,ad,b6,ae⟩:=dD ai oC;obtain⟨r,z,s,k,y,l,k0,k1,k2,k3,T⟩:=ae 0 oC;simp only[Nat.zero_mul,Nat.add_zero,jI,List.length_singleton]at k0 k1 k2 k3 T |-;have N:=show Hid _ from ydb p b a2 at_ R V (m:=m) (ks:=ks)
 obtain⟨B,a8⟩:∃B,stF E p b a2 X (.node 9 empty 0 [.node 18 x m ks]) c at_=B:=⟨_,rfl⟩
 rw[a8]at N |-;clear a8 ae ai;have ah:∀P,u.ownBlock=Z P->P<w.heap.size:=fun P d=>(j.rl.lt _ d).2
 have aZ:=j.lt;have G:=(j.alloc (Zc #[U O 9,I empty,U O 0,J (Z (A g o F)) 1 f] 25)).alloc (Zc #[U O b,U O (first:Int)] 190);have ac:=((FrU.refl D u w).alloc (Zc #[U O 9,I empty,U O 0,J (Z (A g o F)) 1 f] 25)).alloc (Zc #[U O b,U O (first:Int)] 190);have a3:=G.begin ar oA
 have a9:HS w.heap.size g o (U O 9) (I empty) (U O 0) (J (Z (A g o F)) 1 f) (U O r) (I z) (U O s) (J k y l) (U O b) (U O (first:Int)) ((w.alloc (Zc #[U O 9,I empty,U O 0,J (Z (A g o F)) 1 f] 25)).alloc (Zc #[U O b,U O (first:Int)] 190)) :=
  HS.new G.bs ad k0 k1 k2 k3
 have aD:g≠D:=by have:=j.hD;omega
 have aV:=j.mp.lt;have b1:=j.fm;have aX:=kX ks;rw[uQ,yB]at ag;have a5:=fun W (h:CS w0 W D Kb kn kf (kN c) u (at_+1))=>zrr E c 18 x m ks _ W b (at_+1) H af V T h oA oA (fun aF b2 v w a au av aw ax ay=>fU E c b (R.agr b) aE ks[aF] v w a au av aw ax ay)
 clear T k0 k1 k2 k3 V R ab af;generalize clP kf b H x (at_+1) (exL E c b ks (at_+1+1))=am at *;go_enter func157,ntmps157;go_wp2_with (go_at_call 81;refine a3.mono ?_;rintro d i ⟨rfl,n⟩;have h:CS w0 i D Kb kn kf (kN c) u (at_+1):=by { rw[n];exact G.setAt _ };have aa:HS w.heap.size g o (U O 9) (I empty) (U O 0) (J (Z (A g o F)) 1 f) (U O r) (I z) (U O s) (J k y l) (U O b) (U O (first:Int)) i:=by { rw[n];exact a9.setD oA oA aD _ _ };have K:FrU D u u w i:=by { rw[n];exact ac.set _ _ (fun _ d=>d) };have L:w.heap.size+2<=i.heap.size:=by { rw[n,jR];simp };clear n;obtain⟨aG,aH,aI,aJ,aK,aL,aM,aN,aO,aP⟩:=id aa);clear aG aH aI aJ aK aL aM aN aO aP G ac a9 a3;have e:HS w.heap.size g o (U O 9) (I empty) (U O 0) (J (Z (A g o F)) 1 f) (U O r) (I z) (U O s) (J k y l) (U O b) (U O (first:Int)) i.drew:=aa;refine wp_region_held_drew (S:=HS w.heap.size g o (U O 9) (I empty) (U O 0) (J (Z (A g o F)) 1 f) (U O r) (I z) (U O s) (J k y l) (U O b) (U O (first:Int))) oB e (fun Q=>?_);clear Q;replace h:=h.drew;replace K:=K.drew;replace L:w.heap.size+2<=i.drew.heap.size:=L;generalize i.drew=W at *;refine tkP 0 (Zp (Z (A D 0 F))) e ?_;simp only[Act.put,jA,jB,jC];refine tkP 1 (Zp (Z (A w.heap.size 3 F))) e ?_;simp only[Act.put,jA,jB,jC];refine tkP 2 (J (Z (A g o F)) 1 f) e ?_;simp only[Act.put,jA,jB,jC];refine tkP 3 (Zp (Z (A g o F))) e ?_;simp only[Act.put,jA,jB,jC];refine tkP 4 (Za #[U O r,I z,U O s,J k y l]) e ?_;simp only[Act.put,jA,jB,jC];refine tkP 5 (Zp (Z (A (w.heap.size+1) 0 F))) e ?_;simp only[Act.put,jA,jB,jC];refine tkP 6 (U O b) e ?_;simp only[Act.put,jA,jB,jC];refine oneH 7 fun ak a7=>?_
 go_simp;go_at_call 183;refine(a5 W h).mono ?_
 cases am with
 | bad ap ao =>
  have M:Hid (B=.bad ap ao):=N.out;rintro d aj ⟨rfl,aB⟩;go_wp2
  exact⟨rfl,SR.mkBad M.out aB⟩
 | ok q =>
  obtain⟨b8,an⟩:=q;have M:Hid (B=.ok (c,an)):=N.out;rintro d aj ⟨⟨b9,rfl⟩,a6,C⟩;have aA:=e.fr (FrU.of C u) h.bs a6.bs ad oA oA (fun d=>by have:=ah _ d;omega) (fun d=>by have:=ah _ d;omega);have aC:=K.trans (FrU.of C u);have b7:w.heap.size+2<=aj.heap.size:=jp L C.size;clear C e h K a5 L;go_wp2;refine a7.out _ _ aA (fun Q=>?_);clear a7 ak Q;refine wpAnyH_done oB ?_ _;go_wp2
  go_end0
  exact SR.mkOk M.out a6 aC
end
section
variable {E:Env} {p:Pr} {w0:Zw} {D Kb kn:Nat} {kf:KF}
theorem zya (e:Bool) (a:Tree) (aB:ExT a) (au:∀i,yF i->Tab E i kf (kN i)):dO E p w0 D Kb kn kf (.node 12 empty (bI e) [a]):=by
 intro b ak first i u v w at_ aA b6 aJ b2 aL bb l aI ay
 have b0:=kc25;have aZ:=kc190;have b1:prog.cellsOf 87=4:=cell4;have ag:=au i aJ;have aO:(kN i).length<=1000:=by rw[xT];omega
 rw[yB]at ay;have b8:=kX [a];obtain⟨g,o,k,rfl,N,be,ax⟩:=dD aA oC;obtain⟨y,G,z,r,B,s,k0,k1,k2,k3,ai⟩:=ax 0 oC;simp only[Nat.zero_mul,Nat.add_zero,jI,List.length_singleton]at k0 k1 k2 k3 ai |-;have a3:=show Hid _ from ycd p b ak at_ ag aL e a
 obtain⟨L,ao⟩:∃L,stF E p b ak X (.node 12 empty (bI e) [a]) i at_=L:=⟨_,rfl⟩
 rw[ao]at a3 |-;clear ao ax aA;have aN:∀af,u.ownBlock=Z af->af<w.heap.size:=fun af a=>(l.rl.lt _ a).2
 have ba:=l.lt;have a6:=(l.alloc (Zc #[U O 12,I empty,U O (bI e),J (Z (A g o F)) 1 k] 25)).alloc (Zc #[U O b,U O (first:Int)] 190);have av:=((FrU.refl D u w).alloc (Zc #[U O 12,I empty,U O (bI e),J (Z (A g o F)) 1 k] 25)).alloc (Zc #[U O b,U O (first:Int)] 190);have am:=a6.begin aI oA
 have ap:HS w.heap.size g o (U O 12) (I empty) (U O (bI e)) (J (Z (A g o F)) 1 k) (U O y) (I G) (U O z) (J r B s) (U O b) (U O (first:Int)) ((w.alloc (Zc #[U O 12,I empty,U O (bI e),J (Z (A g o F)) 1 k] 25)).alloc (Zc #[U O b,U O (first:Int)] 190)) :=
  HS.new a6.bs N k0 k1 k2 k3
 have aM:g≠D:=by have:=l.hD;omega
 have b7:=l.mp.lt;have bc:=l.fm;have b9:=kU a;rw[uQ]at ay;have an:=fun W (t:CS w0 W D Kb kn kf (kN i) u (at_+1))=>fU E i b (ag.agr b) aO a _ W (at_+1) aB ai t oA oA
 clear ai k0 k1 k2 k3 aB ag au;generalize exF E i b X a (at_+1)=aF at *;go_enter func157,ntmps157;go_wp2_with (go_at_call 81;refine am.mono ?_;rintro a C ⟨rfl,V⟩;have t:CS w0 C D Kb kn kf (kN i) u (at_+1):=by { rw[V];exact a6.setAt _ };have ar:HS w.heap.size g o (U O 12) (I empty) (U O (bI e)) (J (Z (A g o F)) 1 k) (U O y) (I G) (U O z) (J r B s) (U O b) (U O (first:Int)) C:=by { rw[V];exact ap.setD oA oA aM _ _ };have ab:FrU D u u w C:=by { rw[V];exact av.set _ _ (fun _ a=>a) };have ac:w.heap.size+2<=C.heap.size:=by { rw[V,jR];simp };clear V;obtain⟨aP,aQ,aR,aS,aT,aU,aV,aW,aX,aY⟩:=id ar);clear aP aQ aR aS aT aU aV aW aX aY a6 av ap am;have c:HS w.heap.size g o (U O 12) (I empty) (U O (bI e)) (J (Z (A g o F)) 1 k) (U O y) (I G) (U O z) (J r B s) (U O b) (U O (first:Int)) C.drew:=ar;refine wp_region_held_drew (S:=HS w.heap.size g o (U O 12) (I empty) (U O (bI e)) (J (Z (A g o F)) 1 k) (U O y) (I G) (U O z) (J r B s) (U O b) (U O (first:Int))) oB c (fun f=>?_);clear f;replace t:=t.drew;replace ab:=ab.drew;replace ac:w.heap.size+2<=C.drew.heap.size:=ac;generalize C.drew=W at *;refine tkP 0 (Zp (Z (A D 0 F))) c ?_;simp only[Act.put,jA,jB,jC];refine tkP 1 (Zp (Z (A w.heap.size 3 F))) c ?_;simp only[Act.put,jA,jB,jC];refine tkP 2 (J (Z (A g o F)) 1 k) c ?_;simp only[Act.put,jA,jB,jC];refine tkP 3 (Zp (Z (A g o F))) c ?_;simp only[Act.put,jA,jB,jC];refine tkP 4 (Za #[U O y,I G,U O z,J r B s]) c ?_;simp only[Act.put,jA,jB,jC];refine tkP 5 (Zp (Z (A (w.heap.size+1) 0 F))) c ?_;simp only[Act.put,jA,jB,jC];refine tkP 6 (U O b) c ?_;simp only[Act.put,jA,jB,jC];refine oneH 7 fun j d=>?_
 go_simp;go_at_call 159;refine(an W t).mono ?_
 cases aF with
 | bad aH aG =>
  have K:Hid (L=.bad aH aG):=a3.out;rintro a a2 ⟨rfl,aK⟩;go_wp2
  exact⟨rfl,SR.mkBad K.out aK⟩
 | ok q =>
  obtain⟨h,aj⟩:=q;have K:Hid (L=if zA (bI e) [h,b]=X then .bad 7 at_ else .ok (i,aj)):=a3.out;clear a3;rintro a a2 ⟨rfl,m,a5⟩;dsimp only at m;have a8:=c.fr (FrU.of a5 u) t.bs m.bs N oA oA (fun a=>fH) (fun a=>fH);have M:=ab.trans (FrU.of a5 u);have az:w.heap.size+2<=a2.heap.size:=jp ac a5.size;clear a5 c t ab an ac;go_wp2;refine d.out _ _ a8 (fun f=>?_);clear d j f;refine tkP 8 (U O h) a8 ?_;simp only[Act.put,jA,jB,jC];simp only[List.getElem_toArray,List.getElem_cons_succ,jI,List.setIfInBounds_toArray,List.set_cons_zero,List.set_cons_succ];refine wpAnyH_done oB ?_ _;have c:HS w.heap.size g o (U O 12) (I empty) (U O (bI e)) (J (Z (A g o F)) 1 k) (U O y) (I G) (U O z) (J r B s) (U O b) (U O (first:Int)) a2.drew:=a8;go_wp2;refine wp_region_held_drew (S:=HS w.heap.size g o (U O 12) (I empty) (U O (bI e)) (J (Z (A g o F)) 1 k) (U O y) (I G) (U O z) (J r B s) (U O b) (U O (first:Int))) oB c (fun f=>?_);clear f a8;replace m:=m.drew;replace M:=M.drew;replace az:w.heap.size+2<=a2.drew.heap.size:=az;generalize a2.drew=P at *;refine tkP 0 (U O at_) c ?_;simp only[Act.put,jA,jB,jC];refine tkP 1 (Za #[U O 12,I empty,U O (bI e),J (Z (A g o F)) 1 k]) c ?_;simp only[Act.put,jA,jB,jC];refine tkP 3 (U O h) c ?_;simp only[Act.put,jA,jB,jC];refine tkP 4 (Zp (Z (A (w.heap.size+1) 0 F))) c ?_;simp only[Act.put,jA,jB,jC];refine tkP 5 (U O b) c ?_;simp only[Act.put,jA,jB,jC];refine wpAnyH_ready (rs:=[2,6]) oB oC ?_;refine AllReadyH.cons rfl (fun j d=>?_) ?_
  ·go_simp;go_at_call 139;refine(bH 12 empty (bI e) _ _ _ P).mono ?_;rintro a ad ⟨rfl,ah⟩;rw[zch];have n:=m.below ah;have x:=c.fr (FrU.below ah D u) m.bs n.bs N oA oA (fun a=>fH) (fun a=>fH);have R:=M.trans (FrU.below ah D u);go_wp2;refine d.out _ _ x (fun f=>?_);clear d j f c m M;refine oneH 6 fun j d=>?_
   go_simp;have a7:=zgn ad h b;have Q:=n.alloc (Zc #[U O h,U O b] 3);have a9:=x.fr ((FrU.refl D u ad).alloc (Zc #[U O h,U O b] 3)) n.bs Q.bs N oA oA (fun a=>fH) (fun a=>fH);have aw:=R.alloc (Zc #[U O h,U O b] 3);refine d.out _ _ a9 (fun f=>?_);clear d j f x n R;generalize ad.alloc (Zc #[U O h,U O b] 3)=aE at *;generalize ad.heap.size=aC at *;exact zmm
  ·refine AllReadyH.cons rfl (fun j d=>?_) AllReadyH.nil;go_simp;have a7:=zgn P h b;have n:=m.alloc (Zc #[U O h,U O b] 3);have x:=c.fr ((FrU.refl D u P).alloc (Zc #[U O h,U O b] 3)) m.bs n.bs N oA oA (fun a=>fH) (fun a=>fH);have R:=M.alloc (Zc #[U O h,U O b] 3);refine d.out _ _ x (fun f=>?_);clear d j f c m M;generalize P.alloc (Zc #[U O h,U O b] 3)=aD at *;generalize P.heap.size=aC at *;refine oneH 2 fun j d=>?_
   go_simp;go_at_call 139;refine(bH 12 empty (bI e) _ _ _ aD).mono ?_;rintro a aE ⟨rfl,aa⟩;rw[zch];have Q:=n.below aa;have a9:=x.fr (FrU.below aa D u) n.bs Q.bs N oA oA (fun a=>fH) (fun a=>fH);have aw:=R.trans (FrU.below aa D u);replace a7:=a7.below aa;go_wp2;refine d.out _ _ a9 (fun f=>?_);clear d j f x n R;exact zmm
end
section
variable {E:Env} {p:Pr} {w0:Zw} {D Kb kn:Nat} {kf:KF}
theorem zob (i:Bool) (k:Int) (x:ByteArray) (m:Int) (ks:List Tree) (bK:PlT (.node k x m ks)) (b9:qL x) (b2:∀t∈ks,ExT t) (aX:∀f,yF f->Tab E f kf (kN f)):dO E p w0 D Kb kn kf (.node 13 empty (bI i) [.node k x m ks]):=by
 intro d aR first f u v w at_ b7 ce br cd bB cj N bi b6
 have ca:=kc25;have c9:=kc190;have cb:prog.cellsOf 87=4:=cell4;have aM:=aX f br;have b8:(kN f).length<=1000:=by rw[xT];omega
 rw[yB]at b6;have cg:=kX [.node k x m ks];obtain⟨g,o,M,rfl,T,cn,b1⟩:=dD b7 oC;obtain⟨ah,ak,ai,a8,aj,a9,k0,k1,k2,k3,aO⟩:=b1 0 oC;simp only[Nat.zero_mul,Nat.add_zero,jI,List.length_singleton]at k0 k1 k2 k3 aO |-;have z:=show Hid _ from ydd p d aR at_ aM bB i bK
 obtain⟨K,aU⟩:∃K,stF E p d aR X (.node 13 empty (bI i) [.node k x m ks]) f at_=K:=⟨_,rfl⟩
 rw[aU]at z |-;clear aU b1 b7;have bN:∀L,u.ownBlock=Z L->L<w.heap.size:=fun L c=>(N.rl.lt _ c).2
 have ci:=N.lt;have aD:=(N.alloc (Zc #[U O 13,I empty,U O (bI i),J (Z (A g o F)) 1 M] 25)).alloc (Zc #[U O d,U O (first:Int)] 190);have aY:=((FrU.refl D u w).alloc (Zc #[U O 13,I empty,U O (bI i),J (Z (A g o F)) 1 M] 25)).alloc (Zc #[U O d,U O (first:Int)] 190);have aT:=aD.begin bi oA
 have aV:HS w.heap.size g o (U O 13) (I empty) (U O (bI i)) (J (Z (A g o F)) 1 M) (U O ah) (I ak) (U O ai) (J a8 aj a9) (U O d) (U O (first:Int)) ((w.alloc (Zc #[U O 13,I empty,U O (bI i),J (Z (A g o F)) 1 M] 25)).alloc (Zc #[U O d,U O (first:Int)] 190)) :=
  HS.new aD.bs T k0 k1 k2 k3
 have bF:g≠D:=by have:=N.hD;omega
 have cf:=N.mp.lt;have ck:=N.fm;have ch:=kU (.node k x m ks);have bA:=kX ks;have bz:=yB k x m ks;rw[uQ]at b6;have aB:=fun W (r:CS w0 W D Kb kn kf (kN f) u (at_+1))=>zh6 E f b8 k x m ks _ W d (at_+1) b2 b9 aO r oA oA (fun bP cm v w a bj bm bn bo bp=>fU E f d (aM.agr d) b8 ks[bP] v w a bj bm bn bo bp)
 have aH:Hid (∀q,plP kf (kN f) k x (at_+1) (exL E f d ks (at_+1+1))=.ok q->q.2.2=at_+1+kD (.node k x m ks)):=fun q bM=>zq4 (m:=m) bM
 clear aO k0 k1 k2 k3 b9 b2 bz bA;generalize plP kf (kN f) k x (at_+1) (exL E f d ks (at_+1+1))=aQ at *;go_enter func157,ntmps157;go_wp2_with (go_at_call 81;refine aT.mono ?_;rintro c V ⟨rfl,ag⟩;have r:CS w0 V D Kb kn kf (kN f) u (at_+1):=by { rw[ag];exact aD.setAt _ };have aW:HS w.heap.size g o (U O 13) (I empty) (U O (bI i)) (J (Z (A g o F)) 1 M) (U O ah) (I ak) (U O ai) (J a8 aj a9) (U O d) (U O (first:Int)) V:=by { rw[ag];exact aV.setD oA oA bF _ _ };have a2:FrU D u u w V:=by { rw[ag];exact aY.set _ _ (fun _ c=>c) };have a3:w.heap.size+2<=V.heap.size:=by { rw[ag,jR];simp };clear ag;obtain⟨am,an,ao,ap,ar,au,av,aw,ax,ay⟩:=id aW);clear am an ao ap ar au av aw ax ay aD aY aV aT;have j:HS w.heap.size g o (U O 13) (I empty) (U O (bI i)) (J (Z (A g o F)) 1 M) (U O ah) (I ak) (U O ai) (J a8 aj a9) (U O d) (U O (first:Int)) V.drew:=aW;refine wp_region_held_drew (S:=HS w.heap.size g o (U O 13) (I empty) (U O (bI i)) (J (Z (A g o F)) 1 M) (U O ah) (I ak) (U O ai) (J a8 aj a9) (U O d) (U O (first:Int))) oB j (fun l=>?_);clear l;replace r:=r.drew;replace a2:=a2.drew;replace a3:w.heap.size+2<=V.drew.heap.size:=a3;generalize V.drew=W at *;refine tkP 0 (Zp (Z (A D 0 F))) j ?_;simp only[Act.put,jA,jB,jC];refine tkP 1 (Zp (Z (A w.heap.size 3 F))) j ?_;simp only[Act.put,jA,jB,jC];refine tkP 2 (J (Z (A g o F)) 1 M) j ?_;simp only[Act.put,jA,jB,jC];refine tkP 3 (Zp (Z (A g o F))) j ?_;simp only[Act.put,jA,jB,jC];refine tkP 4 (Za #[U O ah,I ak,U O ai,J a8 aj a9]) j ?_;simp only[Act.put,jA,jB,jC];refine tkP 5 (Zp (Z (A (w.heap.size+1) 0 F))) j ?_;simp only[Act.put,jA,jB,jC];refine tkP 6 (U O d) j ?_;simp only[Act.put,jA,jB,jC];refine wpAnyH_ready (rs:=[7,11]) oB oC ?_;refine AllReadyH.cons rfl (fun B h=>?_) (AllReadyH.cons rfl (fun B h=>?_) AllReadyH.nil)
 focus
  go_simp;go_at_call 182;refine(aB W r).mono ?_;cases aQ
  case bad cc bb =>
   have G:Hid (K=.bad cc bb):=z.out;rintro c C ⟨rfl,bv⟩;go_wp2;exact⟨rfl,SR.mkBad G.out bv⟩
  case' ok q =>
   have a6:=aH.out q rfl;obtain⟨b,Q,aA⟩:=q;dsimp only at a6;subst a6;rintro c C ⟨rfl,s,aC⟩;dsimp only at s z;unfold qE;have y:=j.fr (FrU.of aC u) r.bs s.bs T oA oA (fun c=>uR) (fun c=>uR);have ae:=a2.trans (FrU.of aC u);have af:w.heap.size+2<=C.heap.size:=jp a3 aC.size;clear aC j r a2 aB a3;go_wp2;refine h.out _ _ y (fun l=>?_);clear h B l;refine tkP 8 (.tuple #[Za #[I b.name,Y b.pub,U O b.label,U O b.size],U O Q]) y ?_;simp only[Act.put,jA,jB,jC];refine tkP 9 (Za #[I b.name,Y b.pub,U O b.label,U O b.size]) y ?_;simp only[Act.put,jA,jB,jC];refine tkP 10 (U O Q) y ?_;simp only[Act.put,jA,jB,jC];refine oneH 11 fun B h=>?_
   go_simp;have aa:=kR.new C yP;have R:=s.alloc (Zc #[I ⟨#[]⟩,Y X,U O 0,U O 0] 87);have P:=y.fr ((FrU.refl D u C).alloc (Zc #[I ⟨#[]⟩,Y X,U O 0,U O 0] 87)) s.bs R.bs T oA oA (fun c=>uR) (fun c=>uR);have aN:=ae.alloc (Zc #[I ⟨#[]⟩,Y X,U O 0,U O 0] 87);have aP:w.heap.size+2<=(C.alloc (Zc #[I ⟨#[]⟩,Y X,U O 0,U O 0] 87)).heap.size:=oE;refine h.out _ _ P (fun l=>?_);clear h B l s y ae;change kR (C.alloc (Zc #[I ⟨#[]⟩,Y X,U O 0,U O 0] 87)) C.heap.size yP at aa;generalize C.alloc (Zc #[I ⟨#[]⟩,Y X,U O 0,U O 0] 87)=az at *;have bG:=af;clear af;generalize C.heap.size=e at *
 rotate_left
 focus
  go_simp;have aI:=kR.new W yP;have s:=r.alloc (Zc #[I ⟨#[]⟩,Y X,U O 0,U O 0] 87);have y:=j.fr ((FrU.refl D u W).alloc (Zc #[I ⟨#[]⟩,Y X,U O 0,U O 0] 87)) r.bs s.bs T oA oA (fun c=>uR) (fun c=>uR);have ae:=a2.alloc (Zc #[I ⟨#[]⟩,Y X,U O 0,U O 0] 87);have af:w.heap.size+2<=(W.alloc (Zc #[I ⟨#[]⟩,Y X,U O 0,U O 0] 87)).heap.size:=oE;refine h.out _ _ y (fun l=>?_);clear h B l r j a2;change kR (W.alloc (Zc #[I ⟨#[]⟩,Y X,U O 0,U O 0] 87)) W.heap.size yP at aI;generalize W.alloc (Zc #[I ⟨#[]⟩,Y X,U O 0,U O 0] 87)=bh at *;have bG:=a3;clear a3;generalize W.heap.size=e at *;refine oneH 7 fun B h=>?_
  go_simp;go_at_call 182;refine(aB bh s).mono ?_;cases aQ
  case bad cc bb =>
   have G:Hid (K=.bad cc bb):=z.out;rintro c cp ⟨rfl,bw⟩;go_wp2;exact⟨rfl,SR.mkBad G.out bw⟩
  case' ok q =>
   have a6:=aH.out q rfl;obtain⟨b,Q,aA⟩:=q;dsimp only at a6;subst a6;rintro c az ⟨rfl,R,ab⟩;dsimp only at R z;unfold qE;have P:=y.fr (FrU.of ab u) s.bs R.bs T oA oA (fun c=>uR) (fun c=>uR);have aN:=ae.trans (FrU.of ab u);have aP:w.heap.size+2<=az.heap.size:=jp af ab.size;have aa:=aI.kept ab oE;clear ab y s ae af aB aI;go_wp2;refine h.out _ _ P (fun l=>?_);clear h B l;refine tkP 8 (.tuple #[Za #[I b.name,Y b.pub,U O b.label,U O b.size],U O Q]) P ?_;simp only[Act.put,jA,jB,jC];refine tkP 9 (Za #[I b.name,Y b.pub,U O b.label,U O b.size]) P ?_;simp only[Act.put,jA,jB,jC];refine tkP 10 (U O Q) P ?_;simp only[Act.put,jA,jB,jC]
 all_goals
  obtain⟨bc,be,bf,bg,a5⟩:=aa.cells;have bR:=a5 0;have bS:=a5 1;have bX:=a5 2;have c6:=a5 3;refine oneH 12 fun B h=>?_
  go_simp;have aG:g≠e:=by have:=R.mM;omega
  have aK:=R.put4 (b:=e) oA oA (fun c=>uR) oA (I b.name) (Y b.pub) (U O b.label) (U O b.size);have ac:=(((P.setD (D:=e) oA oA aG 0 (I b.name)).setD (D:=e) oA oA aG 1 (Y b.pub)).setD (D:=e) oA oA aG 2 (U O b.label)).setD (D:=e) oA oA aG 3 (U O b.size);have aZ:=(((aN.put (b:=e) (o:=0) oA (I b.name)).put (b:=e) (o:=1) oA (Y b.pub)).put (b:=e) (o:=2) oA (U O b.label)).put (b:=e) (o:=3) oA (U O b.size);have aJ:=aa.put b;have co:w.heap.size+2<=((((az.setCell (A e 0 F) (I b.name)).setCell (A e 1 F) (Y b.pub)).setCell (A e 2 F) (U O b.label)).setCell (A e 3 F) (U O b.size)).heap.size:=by simp only[jR];exact aP
  refine h.out _ _ ac (fun l=>?_);clear h B l bc be bf bg a5 bR bS bX c6 R P aN aa aP;generalize ((((az.setCell (A e 0 F) (I b.name)).setCell (A e 1 F) (Y b.pub)).setCell (A e 2 F) (U O b.label)).setCell (A e 3 F) (U O b.size))=c7 at *;refine tkP 13 (U O Q) ac ?_;simp only[Act.put,jA,jB,jC];simp only[List.getElem_toArray,List.getElem_cons_succ,jI,List.setIfInBounds_toArray,List.set_cons_zero,List.set_cons_succ];refine wpAnyH_done oB ?_ _;obtain⟨am,an,ao,ap,ar,au,av,aw,ax,ay⟩:=id ac;clear aH aM aX;generalize at_+1+kD (.node k x m ks)=aA at *;go_wp2_with (go_at_call 139;refine(bH 13 empty (bI i) _ _ _ _).mono ?_;rintro c ba ⟨rfl,ad⟩;rw[zch];have aE:=aK.below ad;have aL:=ac.fr (FrU.below ad D u) aK.bs aE.bs T oA oA (fun c=>uR) (fun c=>uR);have b0:=aZ.trans (FrU.below ad D u);have aS:=aJ.below ad aJ.lt;obtain⟨am,an,ao,ap,ar,au,av,aw,ax,ay⟩:=id aL);have aF:=aE.alloc (Zc #[U O d] 3);have bu:=aL.fr ((FrU.refl D u ba).alloc (Zc #[U O d] 3)) aE.bs aF.bs T oA oA (fun c=>uR) (fun c=>uR);have bC:=b0.alloc (Zc #[U O d] 3);have bq:=aS.alloc (Zc #[U O d] 3);refine(dT at_ (bI i) [d] _ _ (zb6 _ _)).mono ?_;clear aK ac aZ aJ aE aL b0 aS ad am an ao ap ar au av aw ax ay;generalize ba.alloc (Zc #[U O d] 3)=c8 at *;rintro c cq (⟨n,rfl,rfl⟩|⟨n,rfl,rfl⟩)
  ·have G:Hid (K=if zA b.label [bI i,Q,d]=X then .bad 7 at_ else .ok (f,aA)):=z.out.trans (ju (by rw[n];decide));clear n z;obtain⟨bc,be,bf,bg,a5⟩:=bq.cells;obtain⟨am,an,ao,ap,ar,au,av,aw,ax,ay⟩:=id bu;go_wp2_with (fail);refine(dT at_ b.label [bI i,Q,d] _ _ (zjs _ _ _ _)).mono ?_;rintro c cr (⟨n,rfl,rfl⟩|⟨n,rfl,rfl⟩)
   ·have a7:Hid (K=.ok (f,aA)):=G.out.trans (ju (by rw[n];decide));clear n G;go_wp2
    go_end0
    exact SR.mkOk a7.out (aF.alloc _) (bC.alloc _)
   ·have a7:Hid (K=.bad 7 at_):=G.out.trans (jv n);clear n G;go_wp2;exact⟨rfl,SR.mkBad a7.out (aF.alloc _).bs⟩
  ·have a7:Hid (K=.bad 7 at_):=z.out.trans (jv n);clear n z;go_wp2;exact⟨rfl,SR.mkBad a7.out aF.bs⟩
end
section
variable {E:Env} {p:Pr} {w0:Zw} {D Kb kn:Nat} {kf:KF}
theorem zyb (a:Tree) (ad:ExT a) (a5:∀b,yF b->Tab E b kf (kN b)):dO E p w0 D Kb kn kf (.node 14 empty 0 [a]):=by
 intro c N first b u v w at_ ac aJ ak aI aN aP i aj aa
 have aG:=kc25;have aF:=kc190;have aH:prog.cellsOf 87=4:=cell4;have a6:=a5 b ak;have ap:(kN b).length<=1000:=by rw[xT];omega
 rw[yB]at aa;have aL:=kX [a];obtain⟨g,o,e,rfl,a8,aS,a9⟩:=dD ac oC;obtain⟨m,s,n,j,r,k,k0,k1,k2,k3,M⟩:=a9 0 oC;simp only[Nat.zero_mul,Nat.add_zero,jI,List.length_singleton]at k0 k1 k2 k3 M |-;have G:=show Hid _ from yce (E:=E) (L:=b) p c N at_ a
 obtain⟨t,V⟩:∃t,stF E p c N X (.node 14 empty 0 [a]) b at_=t:=⟨_,rfl⟩
 rw[V]at G |-;clear V a9 ac;have ab:∀K,u.ownBlock=Z K->K<w.heap.size:=fun K a=>(i.rl.lt _ a).2
 have aO:=i.lt;have y:=(i.alloc (Zc #[U O 14,I empty,U O 0,J (Z (A g o F)) 1 e] 25)).alloc (Zc #[U O c,U O (first:Int)] 190);have a7:=((FrU.refl D u w).alloc (Zc #[U O 14,I empty,U O 0,J (Z (A g o F)) 1 e] 25)).alloc (Zc #[U O c,U O (first:Int)] 190);have P:=y.begin aj oA
 have a2:HS w.heap.size g o (U O 14) (I empty) (U O 0) (J (Z (A g o F)) 1 e) (U O m) (I s) (U O n) (J j r k) (U O c) (U O (first:Int)) ((w.alloc (Zc #[U O 14,I empty,U O 0,J (Z (A g o F)) 1 e] 25)).alloc (Zc #[U O c,U O (first:Int)] 190)) :=
  HS.new y.bs a8 k0 k1 k2 k3
 have ao:g≠D:=by have:=i.hD;omega
 have aK:=i.mp.lt;have aR:=i.fm;have aM:=kU a;rw[uQ]at aa;have Q:=fun W (f:CS w0 W D Kb kn kf (kN b) u (at_+1))=>fU E b c (a6.agr c) ap a _ W (at_+1) ad M f oA oA
 clear M k0 k1 k2 k3 ad a6 a5;generalize exF E b c X a (at_+1)=ag at *;go_enter func157,ntmps157;go_wp2_with (go_at_call 81;refine P.mono ?_;rintro a h ⟨rfl,l⟩;have f:CS w0 h D Kb kn kf (kN b) u (at_+1):=by { rw[l];exact y.setAt _ };have a3:HS w.heap.size g o (U O 14) (I empty) (U O 0) (J (Z (A g o F)) 1 e) (U O m) (I s) (U O n) (J j r k) (U O c) (U O (first:Int)) h:=by { rw[l];exact a2.setD oA oA ao _ _ };have z:FrU D u u w h:=by { rw[l];exact a7.set _ _ (fun _ a=>a) };have B:w.heap.size+2<=h.heap.size:=by { rw[l,jR];simp };clear l;obtain⟨au,av,aw,ax,ay,az,aA,aB,aC,aD⟩:=id a3);clear au av aw ax ay az aA aB aC aD y a7 a2 P;have d:HS w.heap.size g o (U O 14) (I empty) (U O 0) (J (Z (A g o F)) 1 e) (U O m) (I s) (U O n) (J j r k) (U O c) (U O (first:Int)) h.drew:=a3;refine wp_region_held_drew (S:=HS w.heap.size g o (U O 14) (I empty) (U O 0) (J (Z (A g o F)) 1 e) (U O m) (I s) (U O n) (J j r k) (U O c) (U O (first:Int))) oB d (fun L=>?_);clear L;replace f:=f.drew;replace z:=z.drew;replace B:w.heap.size+2<=h.drew.heap.size:=B;generalize h.drew=W at *;refine tkP 0 (Zp (Z (A D 0 F))) d ?_;simp only[Act.put,jA,jB,jC];refine tkP 1 (Zp (Z (A w.heap.size 3 F))) d ?_;simp only[Act.put,jA,jB,jC];refine tkP 2 (J (Z (A g o F)) 1 e) d ?_;simp only[Act.put,jA,jB,jC];refine tkP 3 (Zp (Z (A g o F))) d ?_;simp only[Act.put,jA,jB,jC];refine tkP 4 (Za #[U O m,I s,U O n,J j r k]) d ?_;simp only[Act.put,jA,jB,jC];refine tkP 5 (Zp (Z (A (w.heap.size+1) 0 F))) d ?_;simp only[Act.put,jA,jB,jC];refine tkP 6 (U O c) d ?_;simp only[Act.put,jA,jB,jC];refine oneH 7 fun af T=>?_
 go_simp;go_at_call 159;refine(Q W f).mono ?_
 cases ag with
 | bad ai ah =>
  have C:Hid (t=.bad ai ah):=G.out;rintro a ae ⟨rfl,an⟩;go_wp2
  exact⟨rfl,SR.mkBad C.out an⟩
 | ok q =>
  obtain⟨aU,aE⟩:=q;have C:Hid (t=.bad 2 at_):=G.out;rintro a ae ⟨rfl,R,x⟩;have am:=d.fr (FrU.of x u) f.bs R.bs a8 oA oA (fun a=>by have:=ab _ a;omega) (fun a=>by have:=ab _ a;omega);have aQ:=z.trans (FrU.of x u);have aT:w.heap.size+2<=ae.heap.size:=jp B x.size;clear x d f z Q B;go_wp2;refine T.out _ _ am (fun L=>?_);clear T af L;refine wpAnyH_done oB ?_ _;go_wp2_with (go_at_call 128;refine(vO 2 at_ _).mono ?_;rintro a aV ⟨rfl,ar⟩;rw[ar]);exact⟨rfl,SR.mkBad C.out R.bs⟩
end
theorem zu3 (E:Env) (p:Pr) (e f:Int) (ks:List Tree) (d:Nat) (h:d<ks.length) (g:List Loc) (a:Int):yG E p e f (ks.drop d) g a=match blF E p e f ks[d] g a with
  | .bad c b=>.bad c b
  | .ok q=>yG E p e f (ks.drop (d+1)) q.1 q.2:=by
 rw[List.drop_eq_getElem_cons h];simp only[yG];rfl
section
variable {E:Env} {p:Pr} {w0:Zw} {D Kb kn:Nat} {kf:KF}
theorem zhf (k:Int) (bA:k=10\/k=11) (x:ByteArray) (m:Int) (c:Tree) (a:List Tree) (be:ExT c) (bF:∀ac∈a,BlT ac) (cy:0<a.length) (b7:∀e,yF e->Tab E e kf (kN e)) (b9:∀g o f,Lies (·<w0.heap.size) w0 (.node k x m (c :: a)) (Za #[U O k,I x,U O m,J (Z (A g o F)) (a.length+1) f])->a.length+1<=f) (ih:∀b (ax:b<a.length),zhy E p w0 D Kb kn kf a[b]):dO E p w0 D Kb kn kf (.node k x m (c :: a)):=by
 intro d y first e u v w at_ aC bq b0 bo cq bv z bm bC
 have ce:=kc25;have cd:=kc190;have cf:prog.cellsOf 87=4:=cell4;have b8:=b7 e b0;have bR:(kN e).length<=1000:=by rw[xT];omega
 rw[yB]at bC;have cm:=kX (c :: a);obtain⟨g,o,f,rfl,a3,bB,ay⟩:=dD aC oC;obtain⟨R,a2,T,N,V,P,k0,k1,k2,k3,aA⟩:=ay 0 oC;simp only[Nat.zero_mul,Nat.add_zero,jI,jd]at k0 k1 k2 k3 aA bB |-;have co:=b9 _ _ _ aC
 have az:∀b (ax:b<a.length),∃R a2 T N V P,w0.cell? (A g (o+4+b*4) F)=Z (U O R)/\w0.cell? (A g (o+4+b*4+1) F)=Z (I a2)/\w0.cell? (A g (o+4+b*4+2) F)=Z (U O T)/\w0.cell? (A g (o+4+b*4+3) F)=Z (J N V P)/\Lies (·<w0.heap.size) w0 a[b] (Za #[U O R,I a2,U O T,J N V P]):=fun b ax=>by
  have:=ay (b+1) oE;rw[show o+(b+1)*4=o+4+b*4 by omega]at this;simpa using this
 have ad:=show Hid _ from ydc (E:=E) (L:=e) p d y at_ bA x m c a
 obtain⟨G,b1⟩:∃G,stF E p d y X (.node k x m (c :: a)) e at_=G:=⟨_,rfl⟩
 rw[b1]at ad |-;clear b1 ay aC;have bc:∀K,u.ownBlock=Z K->K<w.heap.size:=fun K c=>(z.rl.lt _ c).2
 have cr:=z.lt;have ah:=(z.alloc (Zc #[U O k,I x,U O m,J (Z (A g o F)) (a.length+1) f] 25)).alloc (Zc #[U O d,U O (first:Int)] 190);have ba:=((FrU.refl D u w).alloc (Zc #[U O k,I x,U O m,J (Z (A g o F)) (a.length+1) f] 25)).alloc (Zc #[U O d,U O (first:Int)] 190);have aY:=ah.begin bm oA
 have b2:HS w.heap.size g o (U O k) (I x) (U O m) (J (Z (A g o F)) (a.length+1) f) (U O R) (I a2) (U O T) (J N V P) (U O d) (U O (first:Int)) ((w.alloc (Zc #[U O k,I x,U O m,J (Z (A g o F)) (a.length+1) f] 25)).alloc (Zc #[U O d,U O (first:Int)] 190)) :=
  HS.new ah.bs a3 k0 k1 k2 k3
 have bz:g≠D:=by have:=z.hD;omega
 have ci:=z.mp.lt;have ct:=z.fm;have cn:=kU c;have cp:=kX a;have cx:=dF a;have ck:kC (c :: a)=kD c+kC a:=rfl;have af:=fun W (i:CS w0 W D Kb kn kf (kN e) u (at_+1))=>fU E e d (b8.agr d) bR c _ W (at_+1) be aA i oA oA
 have aN:Hid (∀q,exF E e d X c (at_+1)=.ok q->q.2=at_+1+kD c):=fun q aB=>cI E e d _ _ _ _ aB
 clear aA k0 k1 k2 k3 be b8 b7 b9;generalize exF E e d X c (at_+1)=bi at *;have cu:¬k=7:=oA;have cv:¬k=8:=oA;have cw:¬k=9:=oA;go_enter func157,ntmps157;go_wp2_with (go_at_call 81;refine aY.mono ?_;rintro c a5 ⟨rfl,ab⟩;have i:CS w0 a5 D Kb kn kf (kN e) u (at_+1):=by { rw[ab];exact ah.setAt _ };have b6:HS w.heap.size g o (U O k) (I x) (U O m) (J (Z (A g o F)) (a.length+1) f) (U O R) (I a2) (U O T) (J N V P) (U O d) (U O (first:Int)) a5:=by { rw[ab];exact b2.setD oA oA bz _ _ };have ak:FrU D u u w a5:=by { rw[ab];exact ba.set _ _ (fun _ c=>c) };have an:w.heap.size+2<=a5.heap.size:=by { rw[ab,jR];simp };clear ab;obtain⟨aD,aE,aF,aG,aH,aI,aJ,aK,aL,aM⟩:=id b6);clear aD aE aF aG aH aI aJ aK aL aM ah ba b2 aY
 all_goals
  have B:HS w.heap.size g o (U O k) (I x) (U O m) (J (Z (A g o F)) (a.length+1) f) (U O R) (I a2) (U O T) (J N V P) (U O d) (U O (first:Int)) a5.drew:=b6;refine wp_region_held_drew (S:=HS w.heap.size g o (U O k) (I x) (U O m) (J (Z (A g o F)) (a.length+1) f) (U O R) (I a2) (U O T) (J N V P) (U O d) (U O (first:Int))) oB B (fun L=>?_);clear L;replace i:=i.drew;replace ak:=ak.drew;replace an:w.heap.size+2<=a5.drew.heap.size:=an;generalize a5.drew=W at *;refine tkP 0 (Zp (Z (A D 0 F))) B ?_;simp only[Act.put,jA,jB,jC];refine tkP 1 (Zp (Z (A w.heap.size 3 F))) B ?_;simp only[Act.put,jA,jB,jC];refine tkP 2 (J (Z (A g o F)) (a.length+1) f) B ?_;simp only[Act.put,jA,jB,jC];refine tkP 3 (Zp (Z (A g o F))) B ?_;simp only[Act.put,jA,jB,jC];refine tkP 4 (Za #[U O R,I a2,U O T,J N V P]) B ?_;simp only[Act.put,jA,jB,jC];refine tkP 5 (Zp (Z (A (w.heap.size+1) 0 F))) B ?_;simp only[Act.put,jA,jB,jC];refine tkP 6 (U O d) B ?_;simp only[Act.put,jA,jB,jC];refine oneH 7 fun a8 Q=>?_
  go_simp;go_at_call 159;refine(af W i).mono ?_
  cases bi with
  | bad au ar =>
   have a7:Hid (G=.bad au ar):=ad.out;rintro c ao ⟨rfl,aw⟩;go_wp2
   exact⟨rfl,SR.mkBad a7.out aw⟩
  | ok q =>
   have aP:=aN.out q rfl;obtain⟨C,cb⟩:=q;dsimp only at aP;subst aP;have a7:Hid (G=yG E p (jn d C) (y+1) a e (at_+1+kD c)):=ad.out;clear ad aN;rintro cg ao ⟨rfl,ai,ag⟩;dsimp only at ai;have aj:=B.fr (FrU.of ag u) i.bs ai.bs a3 oA oA (fun c=>zdq) (fun c=>zdq);have bw:=ak.trans (FrU.of ag u);have cz:w.heap.size+2<=ao.heap.size:=jp an ag.size;clear ag B i ak af an;go_wp2;refine Q.out _ _ aj (fun L=>?_);clear Q a8 L;refine tkP 8 (U O C) aj ?_;simp only[Act.put,jA,jB,jC];simp only[List.getElem_toArray,List.getElem_cons_succ,jI,List.setIfInBounds_toArray,List.set_cons_zero,List.set_cons_succ];refine wpAnyH_done oB ?_ _;obtain⟨aD,aE,aF,aG,aH,aI,aJ,aK,aL,aM⟩:=id aj;have cj:¬f=1:=oA;go_wp2;clear aD aE aF aG aH aI aJ aK aL aM;go_loopw [104] (fun ac wr=>∃(b:Nat) (u':Zv),b<=a.length/\ac=U O b/\CS w0 wr D Kb kn kf (kN e) u' (at_+1+kD c+kC (a.take b))/\FrU D u u' ao wr/\Hid (G=yG E p (jn d C) (y+1) (a.drop b) e (at_+1+kD c+kC (a.take b)))) (fun ac _=>a.length - (intOf ac).toNat)
   case atStart =>
    refine⟨0,u,jz _,rfl,by simpa[kC] using ai,FrU.refl _ _ _,?_⟩;show _=_;rw[a7.out,List.drop_zero];simp only[List.take_zero,kC,Int.add_zero]
   case round =>
    obtain⟨b,u',ax,rfl,M,a9,ae⟩:=hrel;have br:=aj.fr a9 ai.bs M.bs a3 oA oA (fun c=>zdq) (fun c=>zdq);have bP:∀K,u'.ownBlock=Z K->K<wr.heap.size:=fun K c=>(M.rl.lt _ c).2
    by_cases aa:b<a.length
    ·obtain⟨n,t,r,j,s,l,aQ,aR,aS,aT,bb⟩:=az b aa;have bX:=(M.bs.cell (p:=(A g (o+4+b*4) F)) a3).trans aQ;have c6:=(M.bs.cell (p:=(A g (o+4+b*4+1) F)) a3).trans aR;have c7:=(M.bs.cell (p:=(A g (o+4+b*4+2) F)) a3).trans aS;have c8:=(M.bs.cell (p:=(A g (o+4+b*4+3) F)) a3).trans aT;have bG:=fE a b aa;have bK:=fA a (b+1);have bM:=kU a[b];have bN:=kX (a.take b);have i:=M.alloc (Zc #[U O n,I t,U O r,J j s l] 25);have av:=a9.alloc (Zc #[U O n,I t,U O r,J j s l] 25);have cH:ao.heap.size<=wr.heap.size:=a9.size;have af:=fun W bp=>ih b aa (jn d C) y first e u' _ W (at_+1+kD c+kC (a.take b)) bb bq b0 bo (zh3 _ _) bv bp oA oA
     have HP:Hid (G=match blF E p (jn d C) (y+1) a[b] e (at_+1+kD c+kC (a.take b))with
       | .bad f K=>.bad f K
       | .ok q=>yG E p (jn d C) (y+1) (a.drop (b+1)) q.1 q.2):=ae.out.trans (zu3 E p _ _ a b aa e _)
     have aO:Hid (∀q,blF E p (jn d C) (y+1) a[b] e (at_+1+kD c+kC (a.take b))=.ok q->q.1=e/\q.2=at_+1+kD c+kC (a.take (b+1))):=fun q aB=>by
      obtain⟨bn,ch⟩:=za3 E p _ _ _ _ _ _ (bF _ (jH aa)) aB;exact⟨bn,oA⟩
     clear aQ aR aS aT bb ae bG bK bM bN ih az a7;generalize blF E p (jn d C) (y+1) a[b] e (at_+1+kD c+kC (a.take b))=bj at *;have n0:=zI br.2.2.2.2.2.2.2.2.1 (Zc #[U O n,I t,U O r,J j s l] 25);have h:(fun W=>W.cell? (A wr.heap.size 0 F)=Z (U O n)/\W.cell? (A wr.heap.size 1 F)=Z (I t)/\W.cell? (A wr.heap.size 2 F)=Z (U O r)/\W.cell? (A wr.heap.size 3 F)=Z (J j s l)/\W.cell? (A (w.heap.size+1) 0 F)=Z (U O d)) (wr.alloc (Zc #[U O n,I t,U O r,J j s l] 25)).drew:=⟨oC,oC,oC,oC,n0⟩
     go_wp2;refine wp_region_held_drew (S:=fun W=>W.cell? (A wr.heap.size 0 F)=Z (U O n)/\W.cell? (A wr.heap.size 1 F)=Z (I t)/\W.cell? (A wr.heap.size 2 F)=Z (U O r)/\W.cell? (A wr.heap.size 3 F)=Z (J j s l)/\W.cell? (A (w.heap.size+1) 0 F)=Z (U O d)) oB h (fun L=>?_);clear L bX c6 c7 c8;replace i:=i.drew;replace av:=av.drew;have am:wr.heap.size<(wr.alloc (Zc #[U O n,I t,U O r,J j s l] 25)).drew.heap.size:=by show _<(wr.alloc (Zc #[U O n,I t,U O r,J j s l] 25)).heap.size;simp
     generalize (wr.alloc (Zc #[U O n,I t,U O r,J j s l] 25)).drew=ca at *;refine tkP 0 (Zp (Z (A D 0 F))) h ?_;simp only[Act.put,jA,jB,jC];refine tkP 1 (Za #[U O n,I t,U O r,J j s l]) h ?_;simp only[Act.put,jA,jB,jC];refine tkP 2 (Zp (Z (A (w.heap.size+1) 0 F))) h ?_;simp only[Act.put,jA,jB,jC];refine tkP 3 (U O d) h ?_;simp only[Act.put,jA,jB,jC];refine tkP 4 (U O C) h ?_;simp only[Act.put,jA,jB,jC];refine oneH 5 fun a8 Q=>?_
     go_simp;go_at_call 185;refine(za9 _ _ _).mono ?_;rintro aU cL ⟨rfl,bS⟩;obtain rfl:=bS.symm;go_wp2;refine Q.out _ _ h (fun L=>?_);clear Q a8 L;refine oneH 6 fun a8 Q=>?_
     go_simp;go_at_call 184;refine(af _ i).mono ?_
     cases bj with
     | bad au ar =>
      have ap:Hid (G=.bad au ar):=HP.out;rintro aU bf ⟨rfl,aw⟩;go_wp2
      exact⟨rfl,SR.mkBad ap.out aw⟩
     | ok q =>
      obtain⟨bh,cc⟩:=q;obtain⟨aV,aW⟩:=aO.out _ rfl;dsimp only at aV aW;subst aV aW;have ap:Hid (G=yG E p (jn d C) (y+1) (a.drop (b+1)) bh (at_+1+kD c+kC (a.take (b+1)))):=HP.out;clear HP aO;rintro aU bf ⟨rfl,c9,aZ,a6⟩;dsimp only at aZ;have bu:(fun W=>W.cell? (A wr.heap.size 0 F)=Z (U O n)/\W.cell? (A wr.heap.size 1 F)=Z (I t)/\W.cell? (A wr.heap.size 2 F)=Z (U O r)/\W.cell? (A wr.heap.size 3 F)=Z (J j s l)/\W.cell? (A (w.heap.size+1) 0 F)=Z (U O d)) bf:=⟨(a6.cell am oA (fun c=>zdr)).trans h.1,(a6.cell am oA (fun c=>zdr)).trans h.2.1,(a6.cell am oA (fun c=>zdr)).trans h.2.2.1,(a6.cell am oA (fun c=>zdr)).trans h.2.2.2.1,(a6.cell oA oA (fun c=>by rcases a9.own _ c with aX | aX;have:=bc _ aX;omega;omega)).trans h.2.2.2.2⟩
      go_wp2;refine Q.out _ _ bu (fun L=>?_);clear Q a8 L;refine wpAnyH_done oB ?_ _;go_wp2;exact⟨⟨b+1,c9,oA,oC,aZ,av.trans a6,ap.out⟩,by simp[intOf];omega⟩
    ·obtain rfl:b=a.length:=oA
     have bg:Hid (G=.ok (e,at_+1+kD c+kC a)):=by
      show _=_;rw[ae.out,List.drop_eq_nil_of_le oA,jG oA];simp only[yG]
     rw[jG oA]at M;clear ih ae az a7;go_wp2
     go_end0
     exact SR.mkOk bg.out M (bw.trans a9)
end
def HP (N g o:Nat) (n0 n1 n2 n3 k0 k1 k2 k3 s3 a:Zv) (W:Zw):Prop :=
 W.cell? (A N 0 F)=Z n0/\W.cell? (A N 1 F)=Z n1/\W.cell? (A N 2 F)=Z n2/\W.cell? (A N 3 F)=Z n3 /\
 W.cell? (A g o F)=Z k0/\W.cell? (A g (o+1) F)=Z k1/\W.cell? (A g (o+2) F)=Z k2/\W.cell? (A g (o+3) F)=Z k3 /\
 W.cell? (A (N+1) 3 F)=Z s3/\W.cell? (A (N+1) 5 F)=Z a
theorem HP.to {N g o:Nat} {n0 n1 n2 n3 k0 k1 k2 k3 e f:Zv} {w w':Zw} (h:HP N g o n0 n1 n2 n3 k0 k1 k2 k3 e f w) (b:∀a,w'.cell? (A N a F)=w.cell? (A N a F)) (d:∀a,w'.cell? (A (N+1) a F)=w.cell? (A (N+1) a F)) (c:∀a,w'.cell? (A g a F)=w.cell? (A g a F)):HP N g o n0 n1 n2 n3 k0 k1 k2 k3 e f w':=by
 unfold HP;rw[b,b,b,b,d,d,c,c,c,c];exact h
theorem HP.setD {N g o D:Nat} {n0 n1 n2 n3 k0 k1 k2 k3 d e:Zv} {w:Zw} (f:HP N g o n0 n1 n2 n3 k0 k1 k2 k3 d e w) (h:N≠D) (i:N+1≠D) (j:g≠D) (c:Nat) (v:Zv):HP N g o n0 n1 n2 n3 k0 k1 k2 k3 d e (w.setCell (A D c F) v) :=
 f.to (fun b=>jN (a:=(A N b F)) (jQ w (A D c F) v N h)) (fun b=>jN (a:=(A (N+1) b F)) (jQ w (A D c F) v (N+1) i)) (fun b=>jN (a:=(A g b F)) (jQ w (A D c F) v g j))
theorem HP.fr {N g o D:Nat} {n0 n1 n2 n3 k0 k1 k2 k3 e f:Zv} {w0 w w':Zw} {u u':Zv} (b:HP N g o n0 n1 n2 n3 k0 k1 k2 k3 e f w) (c:FrU D u u' w w') (h:Below w0.heap.size w0 w) (i:Below w0.heap.size w0 w') (d:g<w0.heap.size) (j:N≠D) (k:N+1≠D) (l:u.ownBlock≠Z N) (m:u.ownBlock≠Z (N+1)):HP N g o n0 n1 n2 n3 k0 k1 k2 k3 e f w' :=
 b.to (fun a=>c.cell (jS w (A N 0 F) b.1) j l) (fun a=>c.cell (jS w (A (N+1) 3 F) b.2.2.2.2.2.2.2.2.1) k m) (fun a=>(i.cell (p:=(A g a F)) d).trans (h.cell (p:=(A g a F)) d).symm)
section
variable {E:Env} {p:Pr} {w0:Zw} {D Kb kn:Nat} {kf:KF}
theorem zz3 (a:Tree) (an:ExT a) (ag:∀b,yF b->Tab E b kf (kN b)) (q:ProcD) (r:Option Addr) (t s:Nat) (aj:q.gives=H) (aA:Lab q.given) (b:List Loc) (u v:Zv) (w:Zw) (at_:Int) (am:Lies (·<w0.heap.size) w0 (.node 14 empty 0 [a]) v) (aw:yF b) (aJ:b.length<=20) (m:CS w0 w D Kb kn kf (kN b) u at_) (au:0<=at_) (aB:at_+kD (.node 14 empty 0 [a])<=1000000) : Calls prog 131 #[Zp (Z (A D 0 F)),v,zN q (J r t s)] w (SR w0 D Kb kn kf u w (stF E ⟨q.gives,q.given⟩ q.writes 1 H (.node 14 empty 0 [a]) b at_)):=by
 have aH:=kc25;have aI:prog.cellsOf 91=6:=dP;have a7:=ag b aw;have aD:(kN b).length<=1000:=by rw[xT];omega
 rw[yB,uQ]at aB;have aK:=kU a;obtain⟨g,o,d,rfl,n,aM,ak⟩:=dD am oC;obtain⟨G,P,K,y,L,z,k0,k1,k2,k3,a8⟩:=ak 0 oC;simp only[Nat.zero_mul,Nat.add_zero,jI,List.length_singleton]at k0 k1 k2 k3 a8 |-;have Q:=show Hid _ from yat (E:=E) (L:=b) ⟨q.gives,q.given⟩ q.writes 1 at_ a7 aj aA a
 obtain⟨l,ac⟩:∃l,stF E ⟨q.gives,q.given⟩ q.writes 1 H (.node 14 empty 0 [a]) b at_=l:=⟨_,rfl⟩
 rw[ac]at Q |-;clear ac ak am aj;unfold zN;have aC:∀a2,u.ownBlock=Z a2->a2<w.heap.size:=fun a2 a=>(m.rl.lt _ a).2
 have aL:=m.lt;have h:=(m.alloc (Zc #[U O 14,I empty,U O 0,J (Z (A g o F)) 1 d] 25)).alloc (Zc #[I q.name,Y q.pub,J r t s,U O q.writes,Y q.gives,U O q.given] 91);have ah:=((FrU.refl D u w).alloc (Zc #[U O 14,I empty,U O 0,J (Z (A g o F)) 1 d] 25)).alloc (Zc #[I q.name,Y q.pub,J r t s,U O q.writes,Y q.gives,U O q.given] 91);have aa:=h.begin au oA
 have ad:HP w.heap.size g o (U O 14) (I empty) (U O 0) (J (Z (A g o F)) 1 d) (U O G) (I P) (U O K) (J y L z) (U O q.writes) (U O q.given) ((w.alloc (Zc #[U O 14,I empty,U O 0,J (Z (A g o F)) 1 d] 25)).alloc (Zc #[I q.name,Y q.pub,J r t s,U O q.writes,Y q.gives,U O q.given] 91)) :=
  ⟨oC,oC,oC,oC,(h.bs.cell (p:=(A g o F)) n).trans k0,(h.bs.cell (p:=(A g (o+1) F)) n).trans k1,(h.bs.cell (p:=(A g (o+2) F)) n).trans k2,(h.bs.cell (p:=(A g (o+3) F)) n).trans k3,zZ _ #[I q.name,Y q.pub,J r t s,U O q.writes,Y q.gives,U O q.given] _ (w.heap.size+1) oC 3 _ rfl,zZ _ #[I q.name,Y q.pub,J r t s,U O q.writes,Y q.gives,U O q.given] _ (w.heap.size+1) oC 5 _ rfl⟩
 have az:g≠D:=by have:=m.hD;omega
 have ab:=fun W (i:CS w0 W D Kb kn kf (kN b) u (at_+1))=>fU E b q.writes (a7.agr q.writes) aD a _ W (at_+1) an a8 i oA oA
 clear a8 k0 k1 k2 k3 an a7 ag;generalize exF E b q.writes X a (at_+1)=ao at *;go_enter func131,ntmps131;go_wp2_with (go_at_call 81;refine aa.mono ?_;rintro a M ⟨rfl,T⟩;have i:CS w0 M D Kb kn kf (kN b) u (at_+1):=by { rw[T];exact h.setAt _ };have ae:HP w.heap.size g o (U O 14) (I empty) (U O 0) (J (Z (A g o F)) 1 d) (U O G) (I P) (U O K) (J y L z) (U O q.writes) (U O q.given) M:=by { rw[T];exact ad.setD oA oA az _ _ };have R:FrU D u u w M:=by { rw[T];exact ah.set _ _ (fun _ a=>a) };clear T);clear h ah ad aa;have c:HP w.heap.size g o (U O 14) (I empty) (U O 0) (J (Z (A g o F)) 1 d) (U O G) (I P) (U O K) (J y L z) (U O q.writes) (U O q.given) M.drew:=ae;refine wp_region_held_drew (S:=HP w.heap.size g o (U O 14) (I empty) (U O 0) (J (Z (A g o F)) 1 d) (U O G) (I P) (U O K) (J y L z) (U O q.writes) (U O q.given)) oB c (fun f=>?_);clear f ae;replace i:=i.drew;replace R:=R.drew;generalize M.drew=W at *;refine tkP 0 (U O at_) c ?_;simp only[Act.put,jA,jB,jC];refine tkP 1 (Zp (Z (A (w.heap.size+1) 5 F))) c ?_;simp only[Act.put,jA,jB,jC];refine tkP 2 (U O q.given) c ?_;simp only[Act.put,jA,jB,jC];refine tkP 3 (Zp (Z (A D 0 F))) c ?_;simp only[Act.put,jA,jB,jC];refine tkP 4 (Zp (Z (A w.heap.size 3 F))) c ?_;simp only[Act.put,jA,jB,jC];refine tkP 5 (J (Z (A g o F)) 1 d) c ?_;simp only[Act.put,jA,jB,jC];refine tkP 6 (Zp (Z (A g o F))) c ?_;simp only[Act.put,jA,jB,jC];refine tkP 7 (Za #[U O G,I P,U O K,J y L z]) c ?_;simp only[Act.put,jA,jB,jC];refine tkP 8 (Zp (Z (A (w.heap.size+1) 3 F))) c ?_;simp only[Act.put,jA,jB,jC];refine tkP 9 (U O q.writes) c ?_;simp only[Act.put,jA,jB,jC];refine oneH 10 fun x e=>?_
 go_simp;go_at_call 159;refine(ab W i).mono ?_
 cases ao with
 | bad ar ap =>
  have k:Hid (l=.bad ar ap):=Q.out;rintro a N ⟨rfl,ax⟩;go_wp2
  exact⟨rfl,SR.mkBad k.out ax⟩
 | ok aE =>
  obtain⟨j,a9⟩:=aE;have k:Hid (l=if zA q.given [j]=X then .bad 7 at_ else .ok (b,a9)):=Q.out;clear Q;rintro a N ⟨rfl,B,a3⟩;dsimp only at B;have a6:=c.fr (FrU.of a3 u) i.bs B.bs n oA oA (fun a=>zds) (fun a=>zds);have ai:=R.trans (FrU.of a3 u);clear a3 c i R ab;go_wp2;refine e.out _ _ a6 (fun f=>?_);clear e x f;refine oneH 11 fun x e=>?_
  go_simp;have av:=zb6 N j;have a5:=B.alloc (Zc #[U O j] 3);have af:=a6.fr ((FrU.refl D u N).alloc (Zc #[U O j] 3)) B.bs a5.bs n oA oA (fun a=>zds) (fun a=>zds);have ay:=ai.alloc (Zc #[U O j] 3);refine e.out _ _ af (fun f=>?_);clear e x f a6 B ai;generalize N.alloc (Zc #[U O j] 3)=aG at *;generalize N.heap.size=aF at *;refine oneH 12 fun x e=>?_
  go_simp;go_at_call 158;refine(dT at_ q.given [j] _ _ av).mono ?_;rintro a aN (⟨C,rfl,rfl⟩|⟨C,rfl,rfl⟩)
  ·have V:Hid (l=.ok (b,a9)):=k.out.trans (ju (by rw[C];decide));clear C k;go_wp2;refine e.out _ _ af (fun f=>?_);clear e x f;refine wpAnyH_done oB ?_ _;go_wp2
   go_end0
   exact SR.mkOk V.out a5 ay
  ·have V:Hid (l=.bad 7 at_):=k.out.trans (jv C);clear C k;go_wp2;exact⟨rfl,SR.mkBad V.out a5.bs⟩
end
theorem zdn {w:Zw} {e:Nat->Prop} {k:Int} {x:ByteArray} {m:Int} {ks:List Tree} {a:Option Addr} {f c:Nat} (d:Lies e w (.node k x m ks) (Za #[U O k,I x,U O m,J a f c])):ks.length<=c:=by
 unfold Lies at d;obtain⟨g,h,b,⟨i,j⟩,_⟩:=d;injection b with b;simp only[Array.mk.injEq,jq,and_true,true_and,Value.slice.injEq]at b;omega
section
variable {E:Env} {p:Pr} {w0:Zw} {D Kb kn:Nat} {kf:KF}
theorem zv5 (f:∀u,yF u->Tab E u kf (kN u)):∀l:Nat,(∀a:Tree,SizeOf.sizeOf a<=l->StT a->dO E p w0 D Kb kn kf a)/\(∀a:Tree,SizeOf.sizeOf a<=l->BlT a->zhy E p w0 D Kb kn kf a):=by
 intro l
 induction l with
 | zero =>
  refine⟨fun a b=>?_,fun a b=>?_⟩<;>(obtain⟨k,x,m,ks⟩:=a;simp at b)
 | succ l ih =>
  obtain⟨G,w⟩:=ih
  have s:∀ {k:Int} {x:ByteArray} {m:Int} {ks:List Tree},SizeOf.sizeOf (Tree.node k x m ks)<=l+1->∀a∈ks,SizeOf.sizeOf a<=l:=fun b a c=>by
   have K:=List.sizeOf_lt_of_mem c;simp at b;omega
  refine⟨fun a b C=>?_,fun a b i=>?_⟩
  ·cases C with
   | loc n e d=>exact zue _ n _ d f
   | set v d =>
    cases v with
    | nam e=>exact zl1 16 _ 0 [] _ (.nam e) d e (fun a c=>by cases c) f
    | item e hi=>exact zl1 17 _ 0 _ _ (.item e hi) d e (fun a c=>zmn) f
   | dd r =>
    cases r with
    | mk e B=>exact zz4 _ 0 _ e B f
   | ift d i =>
    exact zhf 10 (.inl rfl) _ _ _ _ d (fun a c=>zmo) oC f (fun g o y q=>zdn q) (fun t j=>by
     have h:=jH j
     exact w _ (s b _ (jF _ h)) zmp)
   | ife d i r =>
    exact zhf 10 (.inl rfl) _ _ _ _ d (fun a c=>by simp only[List.mem_cons,List.not_mem_nil,or_false]at c;rcases c with rfl | rfl;exact i;exact r) oC f (fun g o y q=>zdn q) (fun t j=>by
     have h:=jH j;refine w _ (s b _ (jF _ h)) ?_;generalize ([_,_]:List Tree)[t]=a at h;simp only[List.mem_cons,List.not_mem_nil,or_false]at h;rcases h with rfl | rfl
     ·exact i
     ·exact r)
   | whi d i =>
    exact zhf 11 (.inr rfl) _ _ _ _ d (fun a c=>zmo) oC f (fun g o y q=>zdn q) (fun t j=>by
     have h:=jH j
     exact w _ (s b _ (jF _ h)) zmp)
   | out n d=>exact zya n _ d f
   | inn n v =>
    cases v with
    | nam e=>exact zob n 16 _ 0 [] (.nam e) e (fun a c=>by cases c) f
    | item e hi=>exact zob n 17 _ 0 _ (.item e hi) e (fun a c=>zmn) f
   | ret d=>exact zyb _ d f
  ·obtain⟨k,x,m,ks⟩:=a;have z:∀a∈ks,StT a:=by cases i with | mk b=>exact b
   exact ybm k x m ks i (zqw ks z (fun t j=>G _ (s b _ (jH j)) (z _ (jH j))))
theorem zv6 (c:∀a,yF a->Tab E a kf (kN a)) (ks:List Tree) (b:∀t∈ks,StT t):zhz E p w0 D Kb kn kf ks :=
 zqw ks b (fun e d=>(zv5 c _).1 _ (jE _) (b _ (jH d)))
end
end chk
namespace chk
open syn face
def qY (ps:List (ByteArray × Bool)):List Loc:=ps.map fun q=>⟨q.1,bI q.2,1⟩
theorem zm8 (ps:List (ByteArray × Bool)):(qY ps).length=ps.length:=by unfold qY;rw[List.length_map]
theorem zcg (ps:List (ByteArray × Bool)):yF (qY ps):=by
 intro b a;obtain⟨q,_,rfl⟩:=List.mem_map.1 a;exact dI _
theorem zd5 (ps:List (ByteArray × Bool)):InvL (qY ps) 1 0:=by
 refine⟨jz _,fun b a=>by simp at a,fun b a=>?_⟩;rw[List.drop_zero]at a;obtain⟨q,_,rfl⟩:=List.mem_map.1 a;rfl
theorem zgd (k:Int) (x:ByteArray) (m:Int):∀ks:List Tree,gF (.node k x m ks)=xA ks
 | []=>rfl
 | [.node k2 y n l]=>rfl
 | a :: b :: r=>by
  have ih:=zgd k x m (b :: r);simp only[gF]at ih |-;rw[List.getLast?_cons_cons];rw[show xA (a :: b :: r)=xA (b :: r) by simp[xA]];exact ih
theorem zge (b:Tree):∀ks:List Tree,xA (ks++[b])=xA [b]
 | []=>rfl
 | [a]=>by simp[xA]
 | a :: c :: r=>by
  have ih:=zge b (c :: r);show xA (a :: c :: (r++[b]))=_;rw[show xA (a :: c :: (r++[b]))=xA (c :: (r++[b])) by simp[xA]];exact ih
section
variable (E:Env) (q:ProcD) (ps:List (ByteArray × Bool)) (k:Int) (x:ByteArray) (m:Int) (ks:List Tree) (a:Int)
theorem ze5 (b:Bool):prF E q ps (.node k x m ks) b a=match zM E ⟨q.gives,q.given⟩ q.writes 1 ks (qY ps) (a+1+ps.length+1)with
  | .bad c d=>.bad c d
  | .ok s=>if q.gives=H/\b=X then .bad 2 a else .ok s.2:=by
 unfold prF;rw[show(ps.map fun p=>(⟨p.1,bI p.2,1⟩:Loc))=qY ps from rfl];simp only[blF];cases zM E ⟨q.gives,q.given⟩ q.writes 1 ks (qY ps) (a+1+ps.length+1)<;>rfl
theorem zyi (g:∀t∈ks,StT t) (e:q.gives=X):prF E q ps (.node k x m ks) (gF (.node k x m ks)) a=match qK E ⟨q.gives,q.given⟩ q.writes 1 ks (qY ps) (a+1+ps.length+1)with
  | .bad b c=>.bad b c
  | .ok f=>.ok f.2:=by
 rw[ze5,zk1 E _ _ e ks _ _ g]
 cases qK E ⟨q.gives,q.given⟩ q.writes 1 ks (qY ps) (a+1+ps.length+1)with
 | bad b c=>rfl
 | ok f=>exact ju (fun d=>by rw[e]at d;exact absurd d.1 oD)
theorem zwi (f:∀t∈ks,StT t) (e:q.gives=H) (d:xA ks=X):prF E q ps (.node k x m ks) (gF (.node k x m ks)) a=match qK E ⟨q.gives,q.given⟩ q.writes 1 ks (qY ps) (a+1+ps.length+1)with
  | .bad b c=>.bad b c
  | .ok g=>.bad 2 a:=by
 rw[ze5,zj2 E _ _ ks _ _ f d,zgd,d]
 cases qK E ⟨q.gives,q.given⟩ q.writes 1 ks (qY ps) (a+1+ps.length+1)with
 | bad b c=>rfl
 | ok g=>exact jv ⟨e,rfl⟩
theorem yad (c:Tree) (g:xA (ks++[c])=H):prF E q ps (.node k x m (ks++[c])) (gF (.node k x m (ks++[c]))) a=match qK E ⟨q.gives,q.given⟩ q.writes 1 ks (qY ps) (a+1+ps.length+1)with
  | .bad d e=>.bad d e
  | .ok b=>match stF E ⟨q.gives,q.given⟩ q.writes 1 H c b.1 b.2 with
   | .bad d e=>.bad d e
   | .ok b=>.ok b.2:=by
 rw[ze5,zni E _ _ c ks,zgd,g]
 cases qK E ⟨q.gives,q.given⟩ q.writes 1 ks (qY ps) (a+1+ps.length+1)with
 | bad d e=>rfl
 | ok b =>
  dsimp only
  cases stF E ⟨q.gives,q.given⟩ q.writes 1 H c b.1 b.2 with
  | bad d e=>rfl
  | ok h=>exact ju (fun f=>absurd f.2 oD)
end
theorem zku (x:ByteArray) (p a:Bool) (g:Option Bool) (ps:List (ByteArray × Bool)):(∀b∈(qB x p a g ps).params,Lab b)/\Lab (qB x p a g ps).writes/\Lab (qB x p a g ps).given:=by
 refine⟨fun b c=>?_,dI _,dI _⟩;obtain⟨q,_,rfl⟩:=List.mem_map.1 c;exact dI _
end chk
namespace chk
open Go.RowKit Go.Shelf
open syn face
theorem zuh {w:Zw} {B:Nat} {x:ByteArray} {p r:Bool} {l:Option Bool} {ps:List (ByteArray × Bool)} {d:List Tree} {v:Zv} (j:Lies (·<B) w (Kid.proc x p r l ps (.node 6 empty 0 d)).tree v) : ∃g o e,v=Za #[U O 4,I x,U O (2*bI p+bI r+gI l),J (Z (A g o F)) (ps.length+1) e]/\g<B/\ps.length+1<=e/\ps.length+1<=4611686018427387904 /\ (∀b (n:b<ps.length),∃P Q,w.cell? (A g (o+b*4) F)=Z (U O 5)/\w.cell? (A g (o+b*4+1) F)=Z (I ps[b].1)/\w.cell? (A g (o+b*4+2) F)=Z (U O (bI ps[b].2))/\w.cell? (A g (o+b*4+3) F)=Z (J P 0 Q)) /\ ∃t u,w.cell? (A g (o+ps.length*4+3) F)=Z (J t d.length u)/\d.length<=u/\d.length<=4611686018427387904/\(d≠[]->∃i s,t=Z (A i s F)/\i<B/\qF (·<B) w d i s):=by
 unfold Kid.tree at j;have E:=j;obtain⟨g,o,e,rfl,G,q,k⟩:=dD j oC;have m:=zdn E;simp only[jb,List.length_map,List.length_singleton]at q m k |-;refine⟨g,o,e,rfl,G,m,q,fun b n=>?_,?_⟩;·obtain⟨L,R,M,f,N,h,k0,k1,k2,k3,c⟩:=k b oA;rw[List.getElem_append_left (by simpa using n),List.getElem_map]at c;unfold zD Lies at c;obtain⟨y,z,a,_,_⟩:=c;injection a with a;simp only[Array.mk.injEq,jq,and_true,Value.int.injEq,Value.string.injEq,Value.slice.injEq,true_and,je]at a;obtain⟨rfl,rfl,rfl,rfl,rfl,rfl⟩:=a;exact⟨f,h,k0,k1,k2,k3⟩
 ·obtain⟨L,R,M,f,N,h,k0,k1,k2,k3,c⟩:=k ps.length oA;rw[List.getElem_append_right oC]at c;simp only[List.length_map,Nat.sub_self,jI]at c;unfold Lies at c;obtain⟨y,z,a,⟨C,D⟩,K⟩:=c;injection a with a;simp only[Array.mk.injEq,jq,and_true,Value.int.injEq,Value.string.injEq,Value.slice.injEq,true_and]at a;obtain⟨rfl,rfl,rfl,rfl,rfl,rfl⟩:=a;exact⟨f,h,k3,D,C,K⟩
theorem zar:∀a b:List Tree,kC (a++b)=kC a+kC b
 | [],b=>by simp[kC]
 | t :: r,b=>by
  show kD t+kC (r++b)=kD t+kC r+kC b;rw[zar r b];omega
theorem zle:∀ps:List (ByteArray × Bool),kC (ps.map zD)=ps.length
 | []=>by simp[kC]
 | q :: r=>by
  show kD (zD q)+kC (r.map zD)=_;rw[zle r];unfold zD;rw[yB];simp[kC];omega
theorem zm9 (x:ByteArray) (p c:Bool) (b:Option Bool) (ps:List (ByteArray × Bool)) (a:List Tree):kD (Kid.proc x p c b ps (.node 6 empty 0 a)).tree=1+ps.length+(1+kC a):=by
 unfold Kid.tree;rw[yB,zar,zle,uQ,yB];omega
section
variable {w0 w w':Zw} {D Kb kn:Nat} {kf:KF} {vs:List VarD} {u:Zv} {a:Int}
theorem CS.clear (b:CS w0 w D Kb kn kf vs u a):CS w0 (w.setCell (A D 6 F) (J F 0 0)) D Kb kn kf [] (J F 0 0) a:=by
 refine⟨b.bs.setCell b.hD _,b.hD,?_,?_,?_,?_,fun k=>?_,b.mp.setCell b.nk _,b.fi,fun p x c=>⟨(b.fw p x c).1,(b.fw p x c).2.1,(jN (a:=p) (jQ w (A D 6 F) _ p.block (b.fw p x c).1)).trans (b.fw p x c).2.2⟩,by rw[jR];exact b.fm,b.mM,fun e d=>(by cases d),World.ownsRow_nil _ _ _ _,b.nk,b.mx,fun d=>(by cases d)⟩;·rw[jD _ _ _ _ oC];exact b.c4
 ·rw[jD _ _ _ _ oC];exact b.c5
 ·exact World.cell?_setCell_same' _ _ _ (by rw[b.c6];rfl)
 ·rw[jD _ _ _ _ oC];exact b.c7
 ·rw[World.frozen?_setCell];exact b.fz k
end
def PR (w0:Zw) (D Kb kn:Nat) (kf:KF) (r:Res Int) (e:Ending) (w':Zw):Prop:=match r with
 | .bad c b=>e=.panicked (qG c b)/\Below w0.heap.size w0 w'
 | .ok a=>e=.returned (.tuple #[])/\∃vs u,CS w0 w' D Kb kn kf vs u a
theorem PR.mkBad {w0 w':Zw} {D Kb kn:Nat} {kf:KF} {c:Res Int} {b a:Int} (d:c=.bad b a) (e:Below w0.heap.size w0 w'):PR w0 D Kb kn kf c (.panicked (qG b a)) w':=by rw[d];exact⟨rfl,e⟩
theorem PR.mkOk {w0 w':Zw} {D Kb kn:Nat} {kf:KF} {b:Res Int} {vs:List VarD} {u:Zv} {a:Int} (c:b=.ok a) (d:CS w0 w' D Kb kn kf vs u a):PR w0 D Kb kn kf b (.returned (.tuple #[])) w':=by rw[c];exact⟨rfl,vs,u,d⟩
def BoxC (W:Zw) (B:Nat) (cs:Array Zv) (T:TypeId):Prop:=W.heap[B]?=Z (Zc cs T (0,0))
section
variable {W W':Zw} {B D:Nat} {cs:Array Zv} {T:TypeId} {u u':Zv}
theorem BoxC.lt (a:BoxC W B cs T):B<W.heap.size:=(Array.getElem?_eq_some_iff.1 a).1
theorem BoxC.new (W:Zw) (cs:Array Zv) (T:TypeId):BoxC (W.alloc (Zc cs T)) W.heap.size cs T:=World.alloc_heap_new W _
theorem BoxC.fr (a:BoxC W B cs T) (d:FrU D u u' W W') (b:B≠D) (c:u.ownBlock≠Z B):BoxC W' B cs T:=(d.block B a.lt b c).trans a
theorem BoxC.below (a:BoxC W B cs T) (b:Below W.heap.size W W'):BoxC W' B cs T:=(b.block B a.lt).trans a
theorem BoxC.grown {row:Option Nat} (a:BoxC W B cs T) (c:W.grownBy W' row) (d:row≠Z B):BoxC W' B cs T:=(c.block B a.lt (fun b=>d b.symm)).trans a
theorem BoxC.alloc (a:BoxC W B cs T) (o:Obj):BoxC (W.alloc o) B cs T:=a.below (bal o)
theorem BoxC.other (a:BoxC W B cs T) {b o:Nat} (c:B≠b) (v:Zv):BoxC (W.setCell (A b o F) v) B cs T:=(jQ W (A b o F) v B c).trans a
theorem BoxC.set (b:BoxC W B cs T) (a:Nat) (v:Zv):BoxC (W.setCell (A B a F) v) B (cs.setIfInBounds a v) T:=heap_setCell_same W B a cs T v b
theorem BoxC.cell (b:BoxC W B cs T) (a:Nat) {v:Zv} (c:cs[a]?=Z v):W.cell? (A B a F)=Z v:=by
 simp[World.cell?,show W.heap[B]?=_ from b,c]
theorem BoxC.fz (a:BoxC W B cs T) (b:Nat):W.frozen? (A B b F)=X:=by
 simp[World.frozen?,show W.heap[B]?=_ from a]
end
end chk
end Go.Proofs.YtbjppepjmcfkaaaGreatDoor
