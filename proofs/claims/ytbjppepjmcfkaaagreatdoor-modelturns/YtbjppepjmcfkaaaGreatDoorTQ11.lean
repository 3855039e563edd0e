/- Statements, each as the program goes over it. No Go in sight. -/
import Derived.Test.YtbjppepjmcfkaaaGreatDoorTQr
import Derived.Test.YtbjppepjmcfkaaaGreatDoorTQ10
import Derived.Deep.OwnRows
import Derived.Test.YtbjppepjmcfkaaaGreatDoorTQ08
open Go.Proofs.Tryz
open Go.Value renaming int → U, string → I, slice → J, bool → Y, agg → Za, pointer → Zp
open Go.IntKind renaming i64 → O
open Go.Obj renaming cells → Zc
open Go.Addr renaming mk → A
open Option renaming none → F, some → Z
open Bool renaming false → X, true → H
open Go renaming World → Zw, Value → Zv
set_option maxHeartbeats 4000000
set_option linter.unusedVariables false
set_option linter.unusedSimpArgs false
set_option maxRecDepth 100000
namespace Go.Proofs.YtbjppepjmcfkaaaGreatDoor
theorem zmi {p:Prop} (q:p:=by
 replace d:=Q4.grown d r ay;clear h L j;refine f.out _ _ d (fun i=>?_);clear f k i;simp only[Act.put,jA,jB,jC];refine tkP 8 (Zp (Z (A D 0 F))) d ?_;simp only[Act.put,jA,jB,jC];refine tkP 9 (Zp (Z (A D 6 F))) d ?_;simp only[Act.put,jA,jB,jC];refine oneH 10 fun k f=>?_
 go_simp;refine f.out _ _ (Q4.other oA d _ _) (fun i=>?_);clear f k i l aF;refine wpAnyH_done oB ?_ _;go_wp2
 go_end0
 exact .inr (.inr ⟨a9.out,oA,rfl,⟨_,aw,fun c e=>by have G:Z ao=Z c:=e;cases G;exact W.imp id (fun e=>oA)⟩,oY,fun c t y K=>(jQ _ _ _ c (by show c≠D;exact y)).trans (ax c t y K)⟩)):p:=q
theorem zmk {p:Prop} (q:p:=by
 go_wp2_with (go_at_call 128;refine(vO 1 at_ wr).mono ?_;rintro e w2 ⟨rfl,ai⟩;rw[ai])
 exact⟨rfl,.inr (.inl ⟨a9.out,ar,rfl,T.out⟩)⟩):p:=q
theorem zml {p:Prop} (d:p:=by
 rw[j];exact Q4.other oA ⟨oC,oC,oC,oC⟩ _ _):p:=d
theorem zmj {p:Prop} (c:p:=by
 cases j:exF E L ctx X b (a+1)with
 | bad e d=>rfl
 | ok q =>
  have h:=zec c.ok c.lab j;dsimp only;rw[show joinL [q.1] 0=q.1 from jn0 h]
  simp only[ybf (dI l) h g]):p:=c
namespace mdl
open syn face mac chk
variable {c i:RS} {j o:Nat} {z:ByteArray} {G:List Tree}
theorem zF {α β:Type} {b:Out α} {e:α->RS->Out β} (f:b≠.lost) (g:∀c a,b=.go c a->e c a≠.lost):b.bind e≠.lost:=by
 cases b with
 | go c a=>exact g c a rfl
 | back v a=>intro d;cases d
 | stop h a=>intro d;cases d
 | lost=>exact absurd rfl f
theorem yA {α β:Type} {e:Out α} {f:α->RS->Out β} {g:β} (b:e.bind f=.go g c):∃d a,e=.go d a/\f d a=.go g c:=by
 cases e with
 | go d a=>exact⟨d,a,rfl,b⟩
 | back v a=>cases b
 | stop h a=>cases b
 | lost=>cases b
def Lnk (C:Cx) (M:ByteArray) (E:Env):Prop:=∀x a,qL x->chk.procF E x=Z a->(C.ps (qO x M)).pars.length=a.params.length
def zr1 (C:Cx):Prop:=∀x,C.ps x=gY\/∃(E:Env) (p:Pr) (ctx:Int) (L:List Go.Proofs.YtbjppepjmcfkaaaGreatDoor.chk.Loc) (a:Int) (q:List Go.Proofs.YtbjppepjmcfkaaaGreatDoor.chk.Loc × Int),Lnk C (C.ps x).mod E/\BlT (C.ps x).body/\blF E p ctx 1 (C.ps x).body L a=.ok q/\L.length=(C.ps x).pars.length/\(C.ps x).pars.length<=20/\kD (C.ps x).body<=990
def qR (C:Cx) (d:Nat) (s:RS):Int:=((C.fuel - s.st:Nat):Int)+(30 - (d:Int))*3000
theorem fK {a:Cx} {d:Nat} (b:mdl.Ext a.fuel c i):qR a d i<=qR a d c:=by
 have:=b.st;unfold qR;omega
theorem fG {C:Cx} {s:RS} (a:j<=30):0<=qR C j s:=by unfold qR;omega
theorem gG {α:Type} {b:Out α} {e:α} (a:Gd j c b) (d:b=.go e i):Ext j c i:=by rw[d]at a;exact a
theorem yaz {u:Unit} (a:kP j c=.go u i):i.st=c.st+1:=by
 unfold kP at a;split at a;·cases a
 ·injection a with _ a;rw[<- a]
theorem fL (a:Nat) (c:RS):kP a c≠.lost:=by unfold kP;split<;>(intro b;cases b)
theorem zht (d a b:Int) (e:RS):zO d a b e≠.lost:=by unfold zO;split<;>(intro c;cases c)
theorem ya0 (a:Cx) (c:Int) (d:RS):takeF a c d≠.lost:=by unfold takeF;split<;>split<;>(intro b;cases b)
theorem zzc {d:Cx} {l:Lc} {g:Tree} {v:Int} (b:exM d j z l o g c=.go v i):c.st+1<=i.st:=by
 cases j with
 | zero=>unfold exM at b;cases b
 | succ j =>
  obtain⟨r,x,t,s⟩:=g;unfold exM at b;obtain⟨u,f,h,k⟩:=yA b;have n:=yaz h;have a:=gds d j
  have m:Gd d.fuel f (.go v i:Out Int):=by
   rw[<- k];split
   ·refine(a.ix ..).bind fun q e _=>?_
    split<;>exact Ext.refl _ _
   split;·exact a.ca ..
   split
   ·split;·exact(a.ex ..).bind fun u e _=>(a.ex ..).bind fun v w _=>zay ..
    ·trivial
   split
   ·split;·exact(a.ex ..).bind fun u e _=>zay ..
    ·trivial
   split
   ·split;·exact(a.ex ..).bind fun u e _=>zay ..
    ·trivial
   exact Ext.refl _ _
  have p:f.st<=i.st:=Ext.st m;omega
theorem znb (l:Lc) (a:RS) (v:Int) (q:Wd):(qJ l a v q).1.length=l.length:=by
 cases q;·simp[qJ]
 ·rfl
theorem zj8 {E:Env} {L:List Go.Proofs.YtbjppepjmcfkaaaGreatDoor.chk.Loc} {ctx:Int} {d:Bool} {e:Int} {h:Int} {a:Int} {q:Int × Int} (b:exF E L ctx d (.node e z h G) a=.ok q) : ∃c l,exL E L ctx G (a+1)=.ok c/\yV E L ctx d e z c.1 a=.ok l:=by
 unfold exF at b;split at b;·cases b
 ·rename_i c g;split at b;·cases b
  ·rename_i l f;exact⟨c,l,g,f⟩
theorem zkt {E:Env} {L:List Go.Proofs.YtbjppepjmcfkaaaGreatDoor.chk.Loc} {ctx:Int} {e:Int} {f:Int} {a:Int} {q:Int × Int × Int} (b:plF E L ctx (.node e z f G) a=.ok q):∃c,exL E L ctx G (a+1)=.ok c:=by
 unfold plF at b;dsimp only at b;split at b;·cases b
 ·rename_i c d;exact⟨c,d⟩
theorem fF {E:Env} {L:List Go.Proofs.YtbjppepjmcfkaaaGreatDoor.chk.Loc} {ctx:Int} {d:Tree} {a:Int} {q:List Int × Int} (b:exL E L ctx (d :: G) a=.ok q):∃u c,exF E L ctx X d a=.ok u/\exL E L ctx G u.2=.ok c/\q.1.length=c.1.length+1:=by
 unfold exL at b;split at b;·cases b
 ·rename_i u e;split at b;·cases b
  ·rename_i c f;injection b with b;exact⟨u,c,e,f,by rw[<- b];rfl⟩
theorem exL_len {E:Env} {L:List Go.Proofs.YtbjppepjmcfkaaaGreatDoor.chk.Loc} {ctx:Int}:∀ {b:List Tree} {a:Int} {q:List Int × Int},exL E L ctx b a=.ok q->q.1.length=b.length
 | [],a,q,h=>by
  unfold exL at h;injection h with h;rw[<- h]
  rfl
 | t :: r,a,q,h=>by
  obtain⟨u,e,_,d,c⟩:=fF h;rw[c,exL_len d];rfl
theorem zyf {E:Env} {L:List Go.Proofs.YtbjppepjmcfkaaaGreatDoor.chk.Loc} {ctx:Int} {e:Bool} {d:List Int} {a l:Int} (b:yV E L ctx e 18 z d a=.ok l):∃c,chk.procF E z=Z c/\c.params.length=d.length:=by
 unfold yV at b;rw[ju oD,ju oD,jv rfl]at b;split at b;·cases b
 ·rename_i c g;split at b;·cases b
  ·rename_i f;exact⟨c,g,by simpa using f⟩
structure Snd (C:Cx) (g:Nat):Prop where
 ex:∀M E L ctx alone l d t a q s,Lnk C M E->ExT t->exF E L ctx alone t a=.ok q->s.st<=C.fuel->d<=30->qR C d s+3*kD t+1<=g->exM C g M l d t s≠.lost
 ix:∀M E L ctx l d k x m ks a q s,Lnk C M E->ExT (.node k x m ks)->k=16\/k=17->exL E L ctx ks a=.ok q->s.st<=C.fuel->d<=30->qR C d s+3*kD (.node k x m ks)<=g->ixM C g M l d (.node k x m ks) s≠.lost
 ar:∀M E L ctx l d ks vs a q s,Lnk C M E->(∀t∈ks,ExT t)->exL E L ctx ks a=.ok q->s.st<=C.fuel->d<=30->qR C d s+3*kC ks+2<=g->asM C g M l d ks vs s≠.lost/\∀vs' s',asM C g M l d ks vs s=.go vs' s'->vs'.length=vs.length+ks.length
 ca:∀M E L ctx alone l d t a q s,Lnk C M E->CaT t->exF E L ctx alone t a=.ok q->s.st<=C.fuel->d<=30->qR C d s+3*kD t<=g->caM C g M l d t s≠.lost
 cl:∀d x vs s,(C.ps x).pars.length<=vs.length->s.st<=C.fuel->d<=30->qR C d s+1<=g->clM C g d x vs s≠.lost
 bl:∀M E p ctx deep L l d t a q s,Lnk C M E->BlT t->blF E p ctx deep t L a=.ok q->l.length=L.length->s.st<=C.fuel->d<=30->qR C d s+3*kD t+1<=g->blM C g M l d t s≠.lost/\∀l2 s',blM C g M l d t s=.go l2 s'->l2.length=L.length
 ss:∀M E p ctx deep L l d ks a q s,Lnk C M E->(∀t∈ks,StT t)->zM E p ctx deep ks L a=.ok q->l.length=L.length->s.st<=C.fuel->d<=30->qR C d s+3*kC ks+2<=g->ssM C g M l d ks s≠.lost/\∀l2 s',ssM C g M l d ks s=.go l2 s'->l2.length=q.1.length
 st:∀M E p ctx deep last L l d t a q s,Lnk C M E->StT t->stF E p ctx deep last t L a=.ok q->l.length=L.length->s.st<=C.fuel->d<=30->qR C d s+3*kD t+1<=g->stM C g M l d t s≠.lost/\∀l2 s',stM C g M l d t s=.go l2 s'->l2.length=q.1.length
 wh:∀M E p ctx ctx2 deep L l d e b a a2 q q2 s,Lnk C M E->ExT e->BlT b->exF E L ctx X e a=.ok q->blF E p ctx2 deep b L a2=.ok q2->l.length=L.length->s.st<=C.fuel->d<=30->qR C d s+3*(kD e+kD b)+3<=g->whM C g M l d e b s≠.lost/\∀l2 s',whM C g M l d e b s=.go l2 s'->l2.length=L.length
theorem vI (b:Int) (d:ByteArray) (c:Int) (a:List Tree):kD (.node b d c a)=kC a+1:=yB b d c a
theorem yK (b:Tree) (a:List Tree):kC (b :: a)=kD b+kC a:=by
 conv=>lhs;unfold kC
theorem uW:kC []=0:=by unfold kC;rfl
theorem snd (f:Cx) (aI:zr1 f):∀x,Snd f x
 | 0=>by
  constructor;·intro h E L ctx ax l c B a q i _ _ _ _ k s;have:=fG (C:=f) (s:=i) k;have:=kU B;omega
  ·intro h E L ctx l c a9 N ai K a q i _ _ _ _ _ k s;have:=fG (C:=f) (s:=i) k;have:=kU (.node a9 N ai K);omega
  ·intro h E L ctx l c K vs a q i _ _ _ _ k s;have:=fG (C:=f) (s:=i) k;have:=kX K;omega
  ·intro h E L ctx ax l c B a q i _ _ _ _ k s;have:=fG (C:=f) (s:=i) k;have:=kU B;omega
  ·intro c N vs i _ _ k s;have:=fG (C:=f) (s:=i) k;omega
  ·intro h E p ctx deep L l c B a q i _ _ _ _ _ k s;have:=fG (C:=f) (s:=i) k;have:=kU B;omega
  ·intro h E p ctx deep L l c K a q i _ _ _ _ _ k s;have:=fG (C:=f) (s:=i) k;have:=kX K;omega
  ·intro h E p ctx deep aY L l c B a q i _ _ _ _ _ k s;have:=fG (C:=f) (s:=i) k;have:=kU B;omega
  ·intro h E p ctx aF deep L l c g w a aE q S i _ _ _ _ _ _ _ k s;have:=fG (C:=f) (s:=i) k;have:=kU g;have:=kU w;omega
 | x+1=>by
  have ih:=snd f aI x;have ad:=gds f x;constructor
  ·intro h E L ctx ax l c B a q i r R b M k s;obtain⟨a9,N,ai,K⟩:=B;obtain⟨a8,aZ,a2,aJ⟩:=zj8 b;rw[vI]at s;unfold exM;refine zF (fL _ _) fun _ j t=>?_
   have aN:=gG (xD f.fuel i) t;have D:=fK (d:=c) aN;have o:=aN.le M;split
   ·rename_i T;refine zF (ih.ix h E L ctx l c a9 N ai K _ _ j r R T a2 o k (by rw[vI];omega)) fun aw d _=>?_
    split<;>(intro g;cases g)
   split
   ·rename_i T;subst T
    cases R with
    | call a6 a7=>exact ih.ca h E L ctx ax l c _ a q j r (.mk a6 a7) b o k (by rw[vI];omega)
   split
   ·rename_i T;subst T
    cases R with
    | op av W =>
     rename_i aP aQ;obtain⟨u,an,a3,ae,_⟩:=fF a2;obtain⟨u2,bf,aX,_,_⟩:=fF ae;rw[yK,yK,uW]at s;have ao:=kU aP;have am:=kU aQ;refine zF (ih.ex h E L ctx _ l c _ _ _ j r av a3 o k oA) fun v d e=>?_
     have G:=gG (ad.ex ..) e;have af:=fK (d:=c) G;exact zF (ih.ex h E L ctx _ l c _ _ _ d r W aX (G.le o) k oA) fun v a5 n=>zht _ _ _ _
   split
   ·rename_i T;subst T
    cases R with
    | neg av =>
     obtain⟨u,an,a3,ae,_⟩:=fF a2;rw[yK,uW]at s;exact zF (ih.ex h E L ctx _ l c _ _ _ j r av a3 o k oA) fun v d e=>zht _ _ _ _
   split
   ·rename_i T;subst T
    cases R with
    | nott av =>
     obtain⟨u,an,a3,ae,_⟩:=fF a2;rw[yK,uW]at s;exact zF (ih.ex h E L ctx _ l c _ _ _ j r av a3 o k oA) fun v d e=>zht _ _ _ _
   intro g;cases g
  ·intro h E L ctx l c a9 N ai K a q i r R T b M k s;rw[vI]at s;unfold ixM;split;·intro g;cases g
   ·rename_i b1;obtain rfl:a9=17:=oA
    cases R with
    | item a6 a7 =>
     obtain⟨u,an,a3,ae,_⟩:=fF b;rw[yK,uW]at s;exact ih.ex h E L ctx _ l c _ _ _ i r a7 a3 M k oA
  ·intro h E L ctx l c K vs a q i r R b M k s
   cases K with
   | nil =>
    unfold asM
    exact⟨oX,fun aB y g=>by injection g with g _;rw[<- g];rfl⟩
   | cons B a8 =>
    obtain⟨u,an,a3,ae,_⟩:=fF b;rw[yK]at s;have ao:=kU B;have am:=kX a8;have a6:=ih.ex h E L ctx _ l c B _ _ i r (R B (jJ ..)) a3 M k oA
    have a7:∀v d,exM f x h l c B i=.go v d->asM f x h l c a8 (vs++[v]) d≠.lost/\∀aB y,asM f x h l c a8 (vs++[v]) d=.go aB y->aB.length=(vs++[v]).length+a8.length:=fun v d e=>by
     have G:=gG (ad.ex ..) e;have af:=fK (d:=c) G;exact ih.ar h E L ctx l c a8 _ _ _ d r (fun B aD=>R B (jF _ aD)) ae (G.le M) k oA
    unfold asM;refine⟨zF a6 fun v d e=>(a7 v d e).1,fun aB y g=>?_⟩;obtain⟨v,d,e,n⟩:=yA g;have:=(a7 v d e).2 _ _ n;simp only[jb,jd,je]at this |-;omega
  ·intro h E L ctx ax l c B a q i r R b M k s
   cases R with
   | mk a6 a7 =>
    obtain⟨a8,aZ,a2,aJ⟩:=zj8 b;obtain⟨b0,ak,ba⟩:=zyf aJ;rw[vI]at s;rename_i N K;have aH:=ih.ar h E L ctx l c K [] _ _ i r a7 a2 M k oA;unfold caM;refine zF aH.1 fun vs d e=>?_
    have G:=gG (ad.ar ..) e;have af:=fK (d:=c) G;have aL:=aH.2 _ _ e;have b8:=r N b0 a6 ak;have Q:=exL_len a2;simp only[je,Nat.zero_add]at aL;have am:=kX K;exact ih.cl c _ vs d oA (G.le M) k oA
  ·intro c N vs i aL M k s;unfold clM;split;·intro g;cases g
   rename_i b7
   have W:blM f x (f.ps N).mod ((f.ps N).pars.zip vs) (c+1) (f.ps N).body i≠.lost/\(f.ps N).pars.length<=20:=by
    rcases aI N with aS | ⟨E,p,ctx,L,a,q,a6,a7,aC,ap,aT,b6⟩
    ·rw[aS];unfold gY;dsimp only;refine⟨?_,oC⟩;have aC:(0:Int)<=qR f (c+1) i:=fG oA;have ap:qR f (c+1) i+3000=qR f c i:=by unfold qR;omega
     obtain⟨aG,rfl⟩:∃aG,x=aG+2:=⟨x - 2,oA⟩
     unfold blM ssM;intro g;cases g
    ·refine⟨(ih.bl (f.ps N).mod E p ctx 1 L _ (c+1) (f.ps N).body a q i a6 a7 aC ?_ M oA ?_).1,aT⟩;·rw[List.length_zip,ap];omega
     ·have ap:qR f (c+1) i+3000=qR f c i:=by unfold qR;omega
      omega
   rw[ju oA];have aW:=W.1;split;·intro g;cases g
   ·intro g;cases g
   ·intro g;cases g
   ·rename_i g;exact absurd g aW
  ·intro h E p ctx deep L l c B a q i r R b Q M k s
   cases R with
   | mk T =>
    rename_i K;unfold blF at b;rw[vI]at s;split at b;·cases b
    rename_i S C;have a6:=ih.ss h E p ctx deep L l c K _ S i r T C Q M k oA;have a7:=(zet E p K ctx deep L _ S T C).1.len;unfold blM;refine⟨zF a6.1 fun m d _=>oX,fun m y g=>?_⟩;obtain⟨ah,a5,n,z⟩:=yA g;injection z with z _;have aC:=a6.2 _ _ n;rw[<- z,List.length_take];omega
  ·intro h E p ctx deep L l c K a q i r R b Q M k s
   cases K with
   | nil =>
    unfold zM at b;injection b with b;unfold ssM
    exact⟨oX,fun m y g=>by injection g with g _;rw[<- g,<- b];exact Q⟩
   | cons B a8 =>
    unfold zM at b;split at b;·cases b
    rename_i S C;rw[yK]at s;have ao:=kU B;have am:=kX a8;have a6:=ih.st h E p ctx deep _ L l c B _ S i r (R B (jJ ..)) C Q M k oA
    have a7:∀m d,stM f x h l c B i=.go m d->ssM f x h m c a8 d≠.lost/\∀ah y,ssM f x h m c a8 d=.go ah y->ah.length=q.1.length:=fun m d e=>by
     have G:=gG (ad.st ..) e;have af:=fK (d:=c) G;exact ih.ss h E p ctx deep S.1 m c a8 _ q d r (fun B aD=>R B (jF _ aD)) b (a6.2 _ _ e) (G.le M) k oA
    unfold ssM;refine⟨zF a6.1 fun m d e=>(a7 m d e).1,fun ah y g=>?_⟩;obtain⟨m,d,e,n⟩:=yA g;exact(a7 m d e).2 _ _ n
  ·intro h E p ctx deep aY L l c B a q i r R b Q M k s;have aa:∀(u:Unit) j,kP f.fuel i=.go u j->j.st<=f.fuel/\qR f c j<=qR f c i:=fun u j t=>⟨(gG (xD f.fuel i) t).le M,fK (gG (xD f.fuel i) t)⟩
   cases R with
   | loc w b9 V =>
    rename_i N g;unfold stF at b;rw[ju oD]at b;unfold xL at b;rw[jv rfl]at b;split at b;·cases b
    rename_i S C;split at b;·cases b
    split at b;·cases b
    rename_i b2;split at b;·cases b
    injection b with b;obtain⟨u,an,a3,ae,_⟩:=fF C;rw[vI,yK,uW]at s;unfold stM;refine⟨zF (fL _ _) fun _ j t=>?_,fun m y P=>?_⟩
    ·obtain⟨o,D⟩:=aa _ _ t;dsimp only;rw[jv rfl];refine zF (ih.ex h E L ctx _ l c g _ _ j r V a3 o k oA) fun v d e=>?_
     rw[ju oA];intro g;cases g
    ·obtain⟨_,j,t,e⟩:=yA P;dsimp only at e;rw[jv rfl]at e;obtain⟨v,d,_,n⟩:=yA e;rw[ju oA]at n;injection n with n _;rw[<- n,<- b]
     simp[Q]
   | set ak V =>
    rename_i aA g;unfold stF at b;rw[ju oD]at b;unfold xL at b;rw[ju oD,jv rfl]at b;dsimp only at b;split at b;·cases b
    rename_i S C;split at b;·cases b
    rename_i ag ac;split at b;·cases b
    injection b with b;rw[vI,yK,yK,uW]at s;have ao:=kU aA;have am:=kU g;obtain⟨a9,N,ai,K⟩:=aA;have T:a9=16\/a9=17:=by cases ak<;>simp
    have a2:=zkt C;obtain⟨a8,a2⟩:=a2;unfold stM;refine⟨zF (fL _ _) fun _ j t=>?_,fun m y P=>?_⟩
    ·obtain⟨o,D⟩:=aa _ _ t;dsimp only;rw[ju oD,jv rfl];refine zF (ih.ix h E L ctx l c a9 N ai K _ _ j r ak.ex T a2 o k oA) fun aw d e=>?_
     have G:=gG (ad.ix ..) e;have af:=fK (d:=c) G;refine zF (ih.ex h E L ctx _ l c g _ _ d r V ac (G.le o) k oA) fun v a5 n=>?_
     split<;>(intro g;cases g)
    ·obtain⟨_,j,t,e⟩:=yA P;dsimp only at e;rw[ju oD,jv rfl]at e;obtain⟨aw,d,_,n⟩:=yA e;obtain⟨v,a5,_,z⟩:=yA n;split at z;·cases z
     ·injection z with z _;rw[<- z,<- b,znb]
      exact Q
   | dd ay =>
    rename_i aj;unfold stF at b;rw[ju oD]at b;unfold xL at b;rw[ju oD,ju oD,jv rfl]at b;dsimp only at b;split at b;·cases b
    rename_i S C;injection b with b;rw[vI,yK,uW]at s;unfold stM;refine⟨zF (fL _ _) fun _ j t=>?_,fun m y P=>?_⟩;·obtain⟨o,D⟩:=aa _ _ t;dsimp only;rw[ju oD,ju oD,jv rfl];exact zF (ih.ca h E L ctx _ l c aj _ _ j r ay C o k oA) fun v d e=>oX
    ·obtain⟨_,j,t,e⟩:=yA P;dsimp only at e;rw[ju oD,ju oD,jv rfl]at e;obtain⟨aw,d,_,n⟩:=yA e;injection n with n _;rw[<- n,<- b]
     exact Q
   | ift V W =>
    rename_i g w;unfold stF at b;rw[jv (.inl rfl)]at b;dsimp only at b;split at b;·cases b
    rename_i S C;unfold yG at b;split at b;·cases b
    rename_i ag ac;unfold yG at b;injection b with b;have au:=(za3 E p w _ _ L _ ag W ac).1;rw[vI,yK,yK,uW]at s;have ao:=kU g;have am:=kU w
    have ab:∀j v d,j.st<=f.fuel->qR f c j<=qR f c i->exM f x h l c g j=.go v d->blM f x h l c w d≠.lost/\∀m y,blM f x h l c w d=.go m y->m.length=L.length:=fun j v d o D e=>by
     have G:=gG (ad.ex ..) e;have af:=fK (d:=c) G;exact ih.bl h E p _ _ L l c w _ ag d r W ac Q (G.le o) k oA
    unfold stM;refine⟨zF (fL _ _) fun _ j t=>?_,fun m y P=>?_⟩
    ·obtain⟨o,D⟩:=aa _ _ t;dsimp only;rw[ju oD,ju oD,ju oD,jv rfl];refine zF (ih.ex h E L ctx _ l c g _ _ j r V C o k oA) fun v d e=>?_
     split;·exact(ab j v d o D e).1
     ·intro g;cases g
    ·obtain⟨_,j,t,e⟩:=yA P;obtain⟨o,D⟩:=aa _ _ t;dsimp only at e;rw[ju oD,ju oD,ju oD,jv rfl]at e;obtain⟨v,d,n,z⟩:=yA e;rw[<- b];dsimp only;rw[au];split at z;·exact(ab j v d o D n).2 _ _ z
     ·injection z with z _;rw[<- z]
      exact Q
   | ife V W ay =>
    rename_i g w aj;unfold stF at b;rw[jv (.inl rfl)]at b;dsimp only at b;split at b;·cases b
    rename_i S C;unfold yG at b;split at b;·cases b
    rename_i ag ac;have au:=(za3 E p w _ _ L _ ag W ac).1;rw[au]at b;unfold yG at b;split at b;·cases b
    rename_i aM aK;have aV:=(za3 E p aj _ _ L _ aM ay aK).1;unfold yG at b;injection b with b;rw[vI,yK,yK,yK,uW]at s;have ao:=kU g;have am:=kU w;have be:=kU aj
    have ab:∀j v d,j.st<=f.fuel->qR f c j<=qR f c i->exM f x h l c g j=.go v d->(blM f x h l c w d≠.lost/\∀m y,blM f x h l c w d=.go m y->m.length=L.length)/\(blM f x h l c aj d≠.lost/\∀m y,blM f x h l c aj d=.go m y->m.length=L.length):=fun j v d o D e=>by
     have G:=gG (ad.ex ..) e;have af:=fK (d:=c) G;exact⟨ih.bl h E p _ _ L l c w _ ag d r W ac Q (G.le o) k oA,ih.bl h E p _ _ L l c aj _ aM d r ay aK Q (G.le o) k oA⟩
    unfold stM;refine⟨zF (fL _ _) fun _ j t=>?_,fun m y P=>?_⟩
    ·obtain⟨o,D⟩:=aa _ _ t;dsimp only;rw[ju oD,ju oD,ju oD,jv rfl];refine zF (ih.ex h E L ctx _ l c g _ _ j r V C o k oA) fun v d e=>?_
     split;·exact(ab j v d o D e).1.1
     ·exact(ab j v d o D e).2.1
    ·obtain⟨_,j,t,e⟩:=yA P;obtain⟨o,D⟩:=aa _ _ t;dsimp only at e;rw[ju oD,ju oD,ju oD,jv rfl]at e;obtain⟨v,d,n,z⟩:=yA e;rw[<- b];dsimp only;rw[aV];split at z;·exact(ab j v d o D n).1.2 _ _ z
     ·exact(ab j v d o D n).2.2 _ _ z
   | whi V W =>
    rename_i g w;unfold stF at b;rw[jv (.inr rfl)]at b;dsimp only at b;split at b;·cases b
    rename_i S C;unfold yG at b;split at b;·cases b
    rename_i ag ac;unfold yG at b;injection b with b;have au:=(za3 E p w _ _ L _ ag W ac).1;rw[vI,yK,yK,uW]at s
    have hW:∀j,j.st<=f.fuel->qR f c j<=qR f c i->whM f x h l c g w j≠.lost/\∀m y,whM f x h l c g w j=.go m y->m.length=L.length:=fun j o D =>
     ih.wh h E p _ _ _ L l c g w _ _ S ag j r V W C ac Q o k oA
    unfold stM;refine⟨zF (fL _ _) fun _ j t=>?_,fun m y P=>?_⟩;·obtain⟨o,D⟩:=aa _ _ t;dsimp only;rw[ju oD,ju oD,ju oD,ju oD,jv rfl];exact(hW j o D).1
    ·obtain⟨_,j,t,e⟩:=yA P;obtain⟨o,D⟩:=aa _ _ t;dsimp only at e;rw[ju oD,ju oD,ju oD,ju oD,jv rfl]at e;rw[<- b];dsimp only;rw[au]
     exact(hW j o D).2 _ _ e
   | out w V =>
    rename_i g;unfold stF at b;rw[ju oD]at b;unfold xL at b;rw[ju oD,ju oD,ju oD,jv rfl]at b;split at b;·cases b
    rename_i S C;split at b;·cases b
    injection b with b;obtain⟨u,an,a3,ae,_⟩:=fF C;rw[vI,yK,uW]at s;unfold stM;refine⟨zF (fL _ _) fun _ j t=>?_,fun m y P=>?_⟩;·obtain⟨o,D⟩:=aa _ _ t;dsimp only;rw[ju oD,ju oD,ju oD,ju oD,ju oD,jv rfl];exact zF (ih.ex h E L ctx _ l c g _ _ j r V a3 o k oA) fun v d e=>oX
    ·obtain⟨_,j,t,e⟩:=yA P;dsimp only at e;rw[ju oD,ju oD,ju oD,ju oD,ju oD,jv rfl]at e;obtain⟨v,d,_,n⟩:=yA e;injection n with n _;rw[<- n,<- b]
     exact Q
   | inn w ak =>
    rename_i aA;unfold stF at b;rw[ju oD]at b;unfold xL at b;rw[ju oD,ju oD,ju oD,ju oD,jv rfl]at b;dsimp only at b;split at b;·cases b
    rename_i S C;split at b;·cases b
    split at b;·cases b
    injection b with b;rw[vI,yK,uW]at s;obtain⟨a9,N,ai,K⟩:=aA;have T:a9=16\/a9=17:=by cases ak<;>simp
    have a2:=zkt C;obtain⟨a8,a2⟩:=a2;unfold stM;refine⟨zF (fL _ _) fun _ j t=>?_,fun m y P=>?_⟩
    ·obtain⟨o,D⟩:=aa _ _ t;dsimp only;rw[ju oD,ju oD,ju oD,ju oD,ju oD,ju oD,jv rfl];refine zF (ih.ix h E L ctx l c a9 N ai K _ _ j r ak.ex T a2 o k oA) fun aw d e=>?_
     refine zF (ya0 _ _ _) fun v a5 n=>?_
     split<;>(intro g;cases g)
    ·obtain⟨_,j,t,e⟩:=yA P;dsimp only at e;rw[ju oD,ju oD,ju oD,ju oD,ju oD,ju oD,jv rfl]at e;obtain⟨aw,d,_,n⟩:=yA e;obtain⟨v,a5,_,z⟩:=yA n;split at z;·cases z
     ·injection z with z _;rw[<- z,<- b,znb]
      exact Q
   | ret V =>
    rename_i g;unfold stF at b;rw[ju oD]at b;unfold xL at b;rw[ju oD,ju oD,ju oD,ju oD,ju oD]at b;split at b;·cases b
    rename_i S C;obtain⟨u,an,a3,ae,_⟩:=fF C;rw[vI,yK,uW]at s;unfold stM;refine⟨zF (fL _ _) fun _ j t=>?_,fun m y P=>?_⟩;·obtain⟨o,D⟩:=aa _ _ t;dsimp only;rw[ju oD,ju oD,ju oD,ju oD,ju oD,ju oD,ju oD,jv rfl];exact zF (ih.ex h E L ctx _ l c g _ _ j r V a3 o k oA) fun v d e=>oX
    ·obtain⟨_,j,t,e⟩:=yA P;dsimp only at e;rw[ju oD,ju oD,ju oD,ju oD,ju oD,ju oD,ju oD,jv rfl]at e;obtain⟨v,d,_,n⟩:=yA e;cases n
  ·intro h E p ctx aF deep L l c g w a aE q S i r V W b C Q M k s;have ao:=kU g;have am:=kU w;have aU:=ih.ex h E L ctx _ l c g _ _ i r V b M k oA
   have ab:∀v d,exM f x h l c g i=.go v d->d.st<=f.fuel/\qR f c d+1<=qR f c i/\blM f x h l c w d≠.lost/\∀m y,blM f x h l c w d=.go m y->m.length=L.length:=fun v d e=>by
    have G:=gG (ad.ex ..) e;have bb:=zzc e;have az:=G.le M;have af:qR f c d+1<=qR f c i:=by unfold qR;omega
    exact⟨az,af,ih.bl h E p _ _ L l c w _ S d r W C Q az k oA⟩
   have hW:∀v d,exM f x h l c g i=.go v d->∀m a5,blM f x h l c w d=.go m a5->whM f x h m c g w a5≠.lost/\∀ah y,whM f x h m c g w a5=.go ah y->ah.length=L.length:=fun v d e m a5 n=>by
    obtain⟨az,af,_,ap⟩:=ab v d e;have aO:=gG (ad.bl ..) n;have bc:=fK (d:=c) aO;exact ih.wh h E p ctx aF deep L m c g w a aE q S a5 r V W b C (ap _ _ n) (aO.le az) k oA
   unfold whM;refine⟨zF aU fun v d e=>?_,fun ah y P=>?_⟩
   ·split;·exact zF (ab v d e).2.2.1 fun m a5 n=>(hW v d e m a5 n).1
    ·intro g;cases g
   ·obtain⟨v,d,e,n⟩:=yA P;split at n;·obtain⟨m,a5,z,aR⟩:=yA n;exact(hW v d e m a5 z).2 _ _ aR
    ·injection n with n _;rw[<- n];exact Q
abbrev MK:=ByteArray × List Kid
def kQ (ms:List MK):List (ByteArray × Kid):=ms.flatMap fun q=>q.2.map fun k=>(q.1,k)
def keyOf (q:ByteArray × Kid):ByteArray:=qO q.2.text q.1
def isP:Kid->Bool
 | .proc _ _ _ _ _ _=>H
 | _=>X
def isV:Kid->Bool
 | .var _ _ _ _=>H
 | _=>X
def zab (q:ByteArray × Kid):PR:=match q.2 with
 | .proc x p l g ps b=>⟨q.1,ps.map (·.1),b⟩
 | _=>gY
def dA (q:ByteArray × Kid):List Int:=match q.2 with
 | .var x p l n=>List.replicate (max (n.getD 0) 1).toNat 0
 | _=>[]
def vX {α:Type} (is:Kid->Bool) (val:ByteArray × Kid->α) (f:ByteArray->α):List (ByteArray × Kid)->(ByteArray->α)
 | []=>f
 | q :: r=>vX is val (if is q.2 then(fun y=>if eqS y (keyOf q)then val q else f y)else f) r
def psF (l:List (ByteArray × Kid)):ByteArray->PR:=vX isP zab (fun _=>gY) l
def vsF (l:List (ByteArray × Kid)):ByteArray->List Int:=vX isV dA (fun _=>[]) l
section
variable {α:Type} {is:Kid->Bool} {val:ByteArray × Kid->α}
theorem zjz:∀(l:List (ByteArray × Kid)) (b:ByteArray->α) (a:ByteArray),vX is val b l a=b a\/∃q∈l,is q.2=H/\a=keyOf q/\vX is val b l a=val q
 | [],b,a=>.inl rfl
 | q :: r,b,a=>by
  unfold vX;rcases zjz r (if is q.2 then(fun a=>if eqS a (keyOf q)then val q else b a)else b) a with c | ⟨p,h,d,e,f⟩
  ·rw[c]
   cases i:is q.2 with
   | false=>rw[ju oD];exact .inl rfl
   | true =>
    rw[jv rfl]
    cases g:eqS a (keyOf q)with
    | false=>rw[ju oD];exact .inl rfl
    | true=>rw[jv rfl];exact .inr ⟨q,jJ ..,i,xG.1 g,rfl⟩
  ·exact .inr ⟨p,jF _ h,d,e,f⟩
theorem zb2 (i:α) (c:ByteArray):∀(l:List (ByteArray × Kid)) (e:ByteArray->α),(∀q∈l,is q.2=H->c=keyOf q->val q=i)->((∃q∈l,is q.2=H/\c=keyOf q)\/e c=i)->vX is val e l c=i
 | [],e,h,a=>by
  rcases a with⟨q,g,_⟩ | a
  ·cases g
  ·exact a
 | q :: r,e,h,a=>by
  unfold vX;refine zb2 i c r _ (fun p b=>h p (jF _ b)) ?_
  cases g:is q.2 with
  | false =>
   rw[ju oD];rcases a with⟨p,b,d,f⟩ | a
   ·rcases List.mem_cons.1 b with rfl | b
    ·rw[g]at d;cases d
    ·exact .inl ⟨p,b,d,f⟩
   ·exact .inr a
  | true =>
   rw[jv rfl]
   cases j:eqS c (keyOf q)with
   | true=>rw[jv rfl];exact .inr (h q (jJ ..) g (xG.1 j))
   | false =>
    rw[ju oD];rcases a with⟨p,b,d,f⟩ | a
    ·rcases List.mem_cons.1 b with rfl | b
     ·rw[xG.2 f]at j;cases j
     ·exact .inl ⟨p,b,d,f⟩
    ·exact .inr a
end
def isD (k:Kid):Bool:=isP k||isV k
structure Wf (ms:List MK):Prop where
 nm:∀q∈ms,kO q.1=H
 kd:∀q∈ms,∀k∈q.2,k.good/\k.named/\gE k
 ct:∀q∈ms,kC (q.2.map Kid.tree)<=900
 one:∀q∈ms,∀r∈ms,q.1=r.1->q=r
 lk:∀q∈ms,kV q.1 q.2 [] [] 1=F
 ck:∀q∈ms,∃fs:List FaceD,(∀f∈fs,∃r∈ms,f=qQ X r.1 r.2)/\moF (qQ H q.1 q.2) fs q.2 [] 1=F
theorem zc8 (l:List ByteArray) (b a:ByteArray):kJ (l++[b]) a=(kJ l a||eqS b a):=by
 unfold kJ;rw[List.any_append];simp
theorem zb8 (e:ByteArray):∀(i:List Kid) (is d:List ByteArray) (a:Int),kV e i is d a=F->∀k∈i,isD k=H->kJ d k.text=X
 | [],_,_,_,_,k,c,_=>by cases c
 | .imp x :: r,is,d,a,h,k,c,hd=>by
  unfold kV at h;split at h;·cases h
  split at h;·cases h
  rcases List.mem_cons.1 c with rfl | c
  ·cases hd
  ·exact zb8 e r _ _ _ h k c hd
 | .var x p l n :: r,is,d,a,h,k,c,hd=>by
  unfold kV at h;split at h;·cases h
  rename_i f;split at h;·cases h
  split at h;·cases h
  rcases List.mem_cons.1 c with rfl | c
  ·exact(Bool.not_eq_true _).mp f
  ·have:=zb8 e r _ _ _ h k c hd;rw[zc8,Bool.or_eq_false_iff]at this
   exact this.1
 | .proc x p l g ps b :: r,is,d,a,h,k,c,hd=>by
  unfold kV at h;split at h;·cases h
  rename_i f;split at h;·cases h
  split at h;·cases h
  split at h;·cases h
  rcases List.mem_cons.1 c with rfl | c
  ·exact(Bool.not_eq_true _).mp f
  ·have:=zb8 e r _ _ _ h k c hd;rw[zc8,Bool.or_eq_false_iff]at this;exact this.1
theorem zdc (f:ByteArray):∀(m:List Kid) (is j:List ByteArray) (a:Int),kV f m is j a=F->∀k∈m,∀k2∈m,isD k=H->isD k2=H->k.text=k2.text->k=k2
 | [],_,_,_,_,k,d,_,_,_,_,_=>by cases d
 | .imp x :: r,is,j,a,h,k,d,k2,c,hd,hd2,he=>by
  unfold kV at h;split at h;·cases h
  split at h;·cases h
  rcases List.mem_cons.1 d with rfl | d
  ·cases hd
  rcases List.mem_cons.1 c with rfl | c
  ·cases hd2
  exact zdc f r _ _ _ h k d k2 c hd hd2 he
 | .var x p l n :: r,is,j,a,h,k,d,k2,c,hd,hd2,he=>by
  unfold kV at h;split at h;·cases h
  split at h;·cases h
  split at h;·cases h
  have i:∀e∈r,isD e=H->e.text≠x:=fun e s o q=>by
   have:=zb8 f r _ _ _ h e s o;rw[zc8,Bool.or_eq_false_iff,q,xG.2 rfl]at this;cases this.2
  rcases List.mem_cons.1 d with rfl | d
  ·rcases List.mem_cons.1 c with rfl | c
   ·rfl
   ·exact absurd he.symm (i k2 c hd2)
  ·rcases List.mem_cons.1 c with rfl | c
   ·exact absurd he (i k d hd)
   ·exact zdc f r _ _ _ h k d k2 c hd hd2 he
 | .proc x p l g ps b :: r,is,j,a,h,k,d,k2,c,hd,hd2,he=>by
  unfold kV at h;split at h;·cases h
  split at h;·cases h
  split at h;·cases h
  split at h;·cases h
  have i:∀e∈r,isD e=H->e.text≠x:=fun e s o q=>by
   have:=zb8 f r _ _ _ h e s o;rw[zc8,Bool.or_eq_false_iff,q,xG.2 rfl]at this;cases this.2
  rcases List.mem_cons.1 d with rfl | d
  ·rcases List.mem_cons.1 c with rfl | c
   ·rfl
   ·exact absurd he.symm (i k2 c hd2)
  ·rcases List.mem_cons.1 c with rfl | c
   ·exact absurd he (i k d hd)
   ·exact zdc f r _ _ _ h k d k2 c hd hd2 he
theorem zkl {a b:ByteArray} (d:∀c∈a.data.toList,c≠46):qO a b=b++⟨#[46]⟩++a:=by
 unfold qO;rw[ju];intro e;have f:(46:UInt8)∈a.data.toList:=by simpa using e
 exact d 46 f rfl
theorem zgl (a b:ByteArray):(a++⟨#[46]⟩++b).data.toList=a.data.toList++46 :: b.data.toList:=by simp[ByteArray.data_append]
theorem zgk {a b:ByteArray} (c:a.data.toList=b.data.toList):a=b:=by
 cases a;cases b
 congr
 exact Array.toList_inj.1 c
theorem zy9 {a d c e:ByteArray} (g:∀z∈a.data.toList,z≠46) (h:∀z∈c.data.toList,z≠46) (f:a++⟨#[46]⟩++d=c++⟨#[46]⟩++e):a=c/\d=e:=by
 have b:=congrArg (fun i:ByteArray=>gJ i.data.toList) f;rw[zgl,zgl,zby _ _ g,zby _ _ h]at b;injection b with b h2;injection h2 with h2;exact⟨zgk b,zgk h2⟩
theorem zua {a:Kid} (b:a.named) (d:isD a=H):kO a.text=H:=by
 cases a with
 | imp c=>cases d
 | var c p l g=>exact b
 | proc c p l f ps e=>exact b.1
section
variable {ms:List MK} (hW:Wf ms)
include hW
theorem Wf.key {q:ByteArray × Kid} (a:q∈kQ ms) (b:isD q.2=H):keyOf q=q.1++⟨#[46]⟩++q.2.text:=by
 unfold kQ at a;obtain⟨p,d,a⟩:=List.mem_flatMap.1 a;obtain⟨e,c,rfl⟩:=List.mem_map.1 a;exact zkl (zaf (zua (hW.kd p d e c).2.1 b))
theorem Wf.uniq {q c:ByteArray × Kid} (a:q∈kQ ms) (b:c∈kQ ms) (e:isD q.2=H) (f:isD c.2=H) (g:keyOf q=keyOf c):q=c:=by
 rw[hW.key a e,hW.key b f]at g;unfold kQ at a b;obtain⟨p,d,a⟩:=List.mem_flatMap.1 a;obtain⟨n,l,rfl⟩:=List.mem_map.1 a;obtain⟨i,h,b⟩:=List.mem_flatMap.1 b;obtain⟨o,m,rfl⟩:=List.mem_map.1 b;obtain⟨j,k⟩:=zy9 (zaf (hW.nm p d)) (zaf (hW.nm i h)) g;obtain rfl:=hW.one p d i h j;rw[zdc _ _ _ _ _ (hW.lk p d) n l o m e f k]
theorem Wf.ps {p:MK} (j:p∈ms) {k:Kid} (i:k∈p.2) (c:isP k=H) {y:ByteArray} (e:y=p.1++⟨#[46]⟩++k.text):psF (kQ ms) y=zab (p.1,k):=by
 have a:(p.1,k)∈kQ ms:=List.mem_flatMap.2 ⟨p,j,List.mem_map.2 ⟨k,i,rfl⟩⟩;have b:isD k=H:=by unfold isD;rw[c];rfl
 have d:=hW.key a b;refine zb2 _ y _ _ (fun q l f g=>?_) (.inl ⟨_,a,c,by rw[e,d]⟩);have h:isD q.2=H:=by unfold isD;rw[f];rfl
 rw[hW.uniq l a h b (by rw[<- g,e,d])]
end
theorem procsK_mem (all:Bool):∀(i:List Kid) (d:ProcD),d∈kZ all i->∃h p l a ps c,Kid.proc h p l a ps c∈i/\d=qB h p l a ps
 | [],d,b=>by cases b
 | .imp h :: r,d,b=>by
  obtain⟨g,p,l,a,ps,c,e,f⟩:=procsK_mem all r d b
  exact⟨g,p,l,a,ps,c,jF _ e,f⟩
 | .var h p l n :: r,d,b=>by
  obtain⟨g,p,l,a,ps,c,e,f⟩:=procsK_mem all r d b
  exact⟨g,p,l,a,ps,c,jF _ e,f⟩
 | .proc h p l a ps c :: r,d,b=>by
  unfold kZ at b;split at b
  ·rcases List.mem_cons.1 b with rfl | b
   ·exact⟨h,p,l,a,ps,c,jJ ..,rfl⟩
   ·obtain⟨g,p,l,a,ps,c,e,f⟩:=procsK_mem all r d b;exact⟨g,p,l,a,ps,c,jF _ e,f⟩
  ·obtain⟨g,p,l,a,ps,c,e,f⟩:=procsK_mem all r d b;exact⟨g,p,l,a,ps,c,jF _ e,f⟩
theorem zde (own:FaceD) (k:List FaceD):∀(r:List Kid) (i:List FaceD) (a:Int),moF own k r i a=F->∀e p l d ps c,Kid.proc e p l d ps c∈r->∃m o g,(∀j∈m,j∈i\/j∈k)/\prF ⟨own,m⟩ (qB e p l d ps) ps c (gF c) o=.ok g
 | [],_,_,_,e,p,l,d,ps,c,b=>by cases b
 | .imp y :: g,i,a,h,e,p,l,d,ps,c,b=>by
  unfold moF at h;split at h;·cases h
  rename_i j q;rcases List.mem_cons.1 b with b | b
  ·cases b
  obtain⟨m,o,z,u,v⟩:=zde own k g _ _ h e p l d ps c b;refine⟨m,o,z,fun s x=>?_,v⟩;rcases u s x with f | f
  ·rcases List.mem_append.1 f with f | f
   ·exact .inl f
   ·obtain rfl:s=j:=by simpa using f
    exact .inr (List.mem_of_find?_eq_some q)
  ·exact .inr f
 | .var y p2 l2 n :: g,i,a,h,e,p,l,d,ps,c,b=>by
  unfold moF at h;rcases List.mem_cons.1 b with b | b
  ·cases b
  exact zde own k g _ _ h e p l d ps c b
 | .proc y p2 l2 g2 ps2 b2 :: g,i,a,h,e,p,l,d,ps,c,b=>by
  unfold moF at h;split at h;·cases h
  rename_i t w;rcases List.mem_cons.1 b with b | b
  ·cases b;exact⟨i,a,t,fun j q=>.inl q,w⟩
  ·exact zde own k g _ _ h e p l d ps c b
theorem zgj:∀ {d:List Tree} {c:Tree},c∈d->kD c<=kC d
 | [],c,b=>by cases b
 | a :: r,c,b=>by
  rw[yK];have e:=kU a;have f:=kX r;rcases List.mem_cons.1 b with rfl | b
  ·omega
  ·have:=zgj b;omega
theorem zc6 (f:ByteArray):∀(i:List Kid) (is g:List ByteArray) (a:Int),kV f i is g a=F->∀e p l d ps c,Kid.proc e p l d ps c∈i->ps.length<=5
 | [],_,_,_,_,e,p,l,d,ps,c,b=>by cases b
 | .imp y :: r,is,g,a,h,e,p,l,d,ps,c,b=>by
  unfold kV at h;split at h;·cases h
  split at h;·cases h
  rcases List.mem_cons.1 b with b | b
  ·cases b
  ·exact zc6 f r _ _ _ h e p l d ps c b
 | .var y p2 l2 n :: r,is,g,a,h,e,p,l,d,ps,c,b=>by
  unfold kV at h;split at h;·cases h
  split at h;·cases h
  split at h;·cases h
  rcases List.mem_cons.1 b with b | b
  ·cases b
  ·exact zc6 f r _ _ _ h e p l d ps c b
 | .proc y p2 l2 g2 ps2 b2 :: r,is,g,a,h,e,p,l,d,ps,c,b=>by
  unfold kV at h;split at h;·cases h
  split at h;·cases h
  split at h;·cases h
  rename_i j;split at h;·cases h
  rcases List.mem_cons.1 b with b | b
  ·cases b;omega
  ·exact zc6 f r _ _ _ h e p l d ps c b
theorem yae {ms:List MK} (hW:Wf ms) (ad ac:List Int) (L:Nat):zr1 ⟨psF (kQ ms),ad,ac,L⟩:=by
 intro e;show psF (kQ ms) e=gY\/_;rcases zjz (is:=isP) (val:=zab) (kQ ms) (fun _=>gY) e with k | ⟨q,o,C,aj,R⟩
 ·exact .inl k
 refine .inr ?_;have ao:=o;unfold kQ at o;obtain⟨b,m,o⟩:=List.mem_flatMap.1 o;obtain⟨ae,t,rfl⟩:=List.mem_map.1 o
 cases ae with
 | imp d=>cases C
 | var d p l ar=>cases C
 | proc d p l h ps g =>
  have i:psF (kQ ms) e=⟨b.1,ps.map (·.1),g⟩:=R
  obtain⟨P,a3,a7⟩:=hW.ck b m;obtain⟨B,M,au,T,y⟩:=zde _ _ _ _ _ a7 d p l h ps g t;unfold prF at y;split at y;·cases y
  rename_i ah a9;have a5:=hW.kd b m _ t;have ak:ps.length<=5:=zc6 _ _ _ _ _ (hW.lk b m) d p l h ps g t;have S:=zgj (List.mem_map.2 ⟨_,t,rfl⟩:(Kid.proc d p l h ps g).tree∈b.2.map Kid.tree);have am:=hW.ct b m;rw[Kid.tree_is,vI]at S;have an:kD g<=kC (Kid.proc d p l h ps g).kids:=zgj (by show g∈ps.map zD++[g];simp);refine⟨⟨qQ H b.1 b.2,B⟩,⟨(qB d p l h ps).gives,(qB d p l h ps).given⟩,(qB d p l h ps).writes,ps.map fun p=>⟨p.1,bI p.2,1⟩,M+1+ps.length,ah,?_,?_,?_,?_,?_,?_⟩;rotate_left;·show BlT (psF (kQ ms) e).body;rw[i];exact a5.2.2
  ·show blF _ _ _ 1 (psF (kQ ms) e).body _ _=_;rw[i];exact a9
  ·show _=(psF (kQ ms) e).pars.length;rw[i];simp
  ·show(psF (kQ ms) e).pars.length<=20;rw[i];simp;omega
  ·show kD (psF (kQ ms) e).body<=990;rw[i];dsimp only;omega
  ·show Lnk _ (psF (kQ ms) e).mod _;rw[i];dsimp only;intro f G aa n;show(psF (kQ ms) (qO f b.1)).pars.length=_;unfold chk.procF at n;split at n;·cases n
   rename_i j c;have w:G∈j.procs:=List.mem_of_find?_eq_some n;have x:G.name=vL f:=xG.1 (by have:=List.find?_some n;exact this);rcases zfu aa with⟨u,z,D⟩|⟨a,ai,u,z,D,ap,E,ab⟩
   ·unfold cJ at c;rw[z,jv oG]at c;injection c with c;rw[<- c]at w;obtain⟨s,ag,af,Q,r,N,v,rfl⟩:=procsK_mem _ _ _ w;rw[D]at x;rw[hW.ps m v rfl (by rw[zkl u];show _=b.1++⟨#[46]⟩++s;rw[show s=f from x])];show(r.map (·.1)).length=(r.map fun q=>bI q.2).length
    simp
   ·unfold cJ at c;rw[ju (zt9 E z)]at c;have W:j∈B:=List.mem_of_find?_eq_some c;have a2:j.module=zT f:=xG.1 (by have:=List.find?_some c;exact this)
    have V:j∈P:=by
     rcases T j W with k | k
     ·cases k
     ·exact k
    obtain⟨K,a8,rfl⟩:=a3 j V;obtain⟨s,ag,af,Q,r,N,v,rfl⟩:=procsK_mem _ _ _ w
    have a6:qO f b.1=f:=by
     unfold qO;rw[jv];rw[u];simp
    rw[a6,hW.ps a8 v rfl]
    ·show(r.map (·.1)).length=(r.map fun q=>bI q.2).length
     simp
    ·show f=K.1++⟨#[46]⟩++s;rw[show K.1=zT f from a2,show s=vL f from x,E,ab];apply zgk;rw[zgl,u]
end mdl
namespace mdl
open Go.RowKit Go.Maps Go.WideMaps
open syn face mac chk
theorem zgz {α:Type} {is:Kid->Bool} {val:ByteArray × Kid->α}:∀(l a:List (ByteArray × Kid)) (b:ByteArray->α),vX is val b (l++a)=vX is val (vX is val b l) a
 | [],a,b=>rfl
 | q :: l,a,b=>by
  rw[jL]
  conv=>lhs;unfold vX
  conv=>rhs;arg 3;unfold vX
  exact zgz l a _
theorem zgy (l:List (ByteArray × Kid)) (q:ByteArray × Kid):psF (l++[q])=if isP q.2 then(fun a=>if eqS a (keyOf q)then zab q else psF l a)else psF l:=by
 unfold psF;rw[zgz];rfl
theorem zg0 (l:List (ByteArray × Kid)) (q:ByteArray × Kid):vsF (l++[q])=if isV q.2 then(fun a=>if eqS a (keyOf q)then dA q else vsF l a)else vsF l:=by
 unfold vsF;rw[zgz];rfl
def bZ (vf:ByteArray->Option Zv) (b:Nat):Prop:=∃x v,vf x=Z v/\v.ownBlock=Z b
def PQ (N B vb pb:Nat) (vf:ByteArray->Option Zv) (w:Zw) (k:Nat):Prop:=N<=k/\k<w.heap.size/\k≠B/\k≠vb/\k≠pb/\¬bZ vf k
def WdQ (N B vb pb:Nat) (w:Zw) (o:Option Zv) (l:List Int):Prop:=match o with
 | none=>l=[]
 | some v=>∃b,v=J (Z (A b 0 F)) l.length l.length/\(N<=b/\b≠B/\b≠vb/\b≠pb)/\BoxC w b (l.map intV).toArray 2/\l.length<=64
structure Dcl (N B vb pb:Nat) (vf pf:ByteArray->Option Zv) (vn pn:Nat) (l:List (ByteArray × Kid)) (w:Zw):Prop where
 bx:BoxC w B #[.map (Z vb),.map (Z pb)] 77
 hV:kI w vb vn vf
 hP:kI w pb pn pf
 nV:vn<=l.length
 nP:pn<=l.length
 wd:∀x,WdQ N B vb pb w (vf x) (vsF l x)
 one:∀x y v v2,vf x=Z v->vf y=Z v2->v.ownBlock=v2.ownBlock->eqS x y=H
 pr:∀x,PrG (PQ N B vb pb vf w) w (pf x) (psF l x)
 ne:N<=B/\N<=vb/\N<=pb/\B≠vb/\B≠pb/\vb≠pb
theorem PrG.to {f Q:Nat->Prop} {w w':Zw} {b:Option Zv} {q:PR} (h:∀c,f c->Q c) (e:∀c,f c->∀b,w'.cell? (A c b F)=w.cell? (A c b F)) (g:PrG f w b q):PrG Q w' b q:=by
 unfold PrG at g |-
 cases b with
 | none=>exact g
 | some v =>
  obtain⟨a,j,B,M,G,C,kn,D,rfl,u,r,t,y⟩:=g;refine⟨a,j,B,M,G,C,kn,D,rfl,u.to h e,r,t,fun x=>?_⟩;obtain⟨p,b,rfl,d,s⟩:=y x;refine⟨p,b,rfl,h _ d,fun z hi=>?_⟩;obtain⟨E,K,i,L,o,k,l,m,n⟩:=s z hi;exact⟨E,K,i,L,o,(e _ d _).trans k,(e _ d _).trans l,(e _ d _).trans m,(e _ d _).trans n⟩
theorem WdQ.to {N B vb pb:Nat} {w w':Zw} {d:Option Zv} {l:List Int} (c:WdQ N B vb pb w d l) (h:∀a,a<w.heap.size->N<=a->a≠B->a≠vb->a≠pb->w'.heap[a]?=w.heap[a]?):WdQ N B vb pb w' d l:=by
 unfold WdQ at c |-
 cases d with
 | none=>exact c
 | some v =>
  obtain⟨a,f,b,e,g⟩:=c;exact⟨a,f,b,(h a e.lt b.1 b.2.1 b.2.2.1 b.2.2.2).trans e,g⟩
theorem WdQ.lt {N B vb pb:Nat} {w:Zw} {v:Zv} {l:List Int} {a:Nat} (b:WdQ N B vb pb w (Z v) l) (f:v.ownBlock=Z a):a<w.heap.size/\N<=a:=by
 unfold WdQ at b;obtain⟨c,rfl,d,e,g⟩:=b;have:c=a:=by injection f
 subst this;exact⟨e.lt,d.1⟩
section
variable {N B vb pb vn pn:Nat} {vf pf:ByteArray->Option Zv} {l:List (ByteArray × Kid)} {w w':Zw}
theorem Dcl.mut (a:Dcl N B vb pb vf pf vn pn l w) {b:Nat} (e:bZ vf b):b<w.heap.size/\N<=b:=by
 obtain⟨f,v,c,d⟩:=e;have:=a.wd f;rw[c]at this;exact this.lt d
theorem Dcl.below (a:Dcl N B vb pb vf pf vn pn l w) (b:Below w.heap.size w w'):Dcl N B vb pb vf pf vn pn l w' :=
 ⟨a.bx.below b,a.hV.below b,a.hP.below b,a.nV,a.nP,fun e=>(a.wd e).to (fun d f _ _ _ _=>b.block d f),a.one,fun e=>(a.pr e).to (fun d c=>⟨c.1,jo c.2.1 b.size,c.2.2⟩) (fun d c g=>b.cell (p:=(A d g F)) c.2.1),a.ne⟩
theorem Dcl.skip (a:Dcl N B vb pb vf pf vn pn l w) {q:ByteArray × Kid} (c:isP q.2=X) (d:isV q.2=X):Dcl N B vb pb vf pf vn pn (l++[q]) w :=
 ⟨a.bx,a.hV,a.hP,by have:=a.nV;simp;omega,by have:=a.nP;simp;omega,fun b=>by rw[zg0,d];exact a.wd b,a.one,fun b=>by rw[zgy,c];exact a.pr b,a.ne⟩
theorem Dcl.putV (e:Dcl N B vb pb vf pf vn pn l w) {q:ByteArray × Kid} (p:isP q.2=X) (r:isV q.2=H) (L:(dA q).length<=64) {w5 w6:Zw} (x:w5=w.alloc (Zc ((dA q).map intV).toArray 2)) (D:kI w6 vb (vn+1) (fun m=>if eqS m (keyOf q)then Z (J (Z (A w.heap.size 0 F)) (dA q).length (dA q).length)else vf m)) (o:w5.grownBy w6 (Z vb)) : Dcl N B vb pb (fun m=>if eqS m (keyOf q)then Z (J (Z (A w.heap.size 0 F)) (dA q).length (dA q).length)else vf m) pf (vn+1) pn (l++[q]) w6:=by
 have s:Below w.heap.size w w5:=by rw[x];exact bal _
 have y:BoxC w5 w.heap.size ((dA q).map intV).toArray 2:=by rw[x];exact BoxC.new _ _ _
 have u:=e.ne;have Q:=e.hV.lt;have G:=e.bx.lt;have P:=e.hP.lt;have S:=s.size;have t:∀b,b<w.heap.size->b≠vb->w6.heap[b]?=w.heap[b]?:=fun b p r=>(o.block b oA (fun g=>r (by injection g))).trans (s.block b p)
 have T:=o.size;refine⟨(t B G u.2.2.2.1).trans e.bx,D,(e.hP.below s).kept o (fun g=>u.2.2.2.2.2 (by injection g with g;exact g.symm)),by have:=e.nV;simp;omega,by have:=e.nP;simp;omega,fun h=>?_,fun h i v z c d n=>?_,fun h=>?_,u⟩
 ·rw[zg0,r,jv rfl]
  try dsimp only
  cases R:eqS h (keyOf q)with
  | true =>
   rw[jv rfl,jv rfl]
   exact⟨w.heap.size,rfl,⟨oA,oA,oA,oA⟩,(o.block _ y.lt (fun g=>by injection g with g;omega)).trans y,L⟩
  | false =>
   rw[ju oD,ju oD];exact(e.wd h).to (fun b K _ _ C _=>t b K C)
 ·try dsimp only at c d
  cases j:eqS h (keyOf q)with
  | true =>
   rw[j,jv rfl]at c
   cases k:eqS i (keyOf q)with
   | true=>rw[xG.1 j,xG.1 k];exact xG.2 rfl
   | false =>
    rw[k,ju oD]at d;injection c with c;have E:=(e.mut (b:=w.heap.size) ⟨i,z,d,by rw[<- n,<- c];rfl⟩).1
    omega
  | false =>
   rw[j,ju oD]at c
   cases k:eqS i (keyOf q)with
   | true =>
    rw[k,jv rfl]at d;injection d with d;have E:=(e.mut (b:=w.heap.size) ⟨h,v,c,by rw[n,<- d];rfl⟩).1
    omega
   | false =>
    rw[k,ju oD]at d;exact e.one h i v z c d n
 ·rw[zgy,p,ju oD];refine(e.pr h).to (fun b f=>⟨f.1,by have:=f.2.1;omega,f.2.2.1,f.2.2.2.1,f.2.2.2.2.1,fun ⟨i,v,c,d⟩=>?_⟩) (fun b f M=>jN (a:=(A b M F)) (t b f.2.1 f.2.2.2.1))
  try dsimp only at c
  cases j:eqS i (keyOf q)with
  | true =>
   rw[j,jv rfl]at c;injection c with c;rw[<- c]at d;have n:w.heap.size=b:=by injection d
   have:=f.2.1
   omega
  | false =>
   rw[j,ju oD]at c;exact f.2.2.2.2.2 ⟨i,v,c,d⟩
theorem Dcl.putP (c:Dcl N B vb pb vf pf vn pn l w) {q:ByteArray × Kid} (i:isP q.2=H) (j:isV q.2=X) {v:Zv} (u:PrG (PQ N B vb pb vf w) w (Z v) (zab q)) {w6:Zw} (r:kI w6 pb (pn+1) (fun f=>if eqS f (keyOf q)then Z v else pf f)) (k:w.grownBy w6 (Z pb)) : Dcl N B vb pb vf (fun f=>if eqS f (keyOf q)then Z v else pf f) vn (pn+1) (l++[q]) w6:=by
 have n:=c.ne;have m:∀b,b<w.heap.size->b≠pb->w6.heap[b]?=w.heap[b]?:=fun b i j=>k.block b i (fun h=>j (by injection h))
 have y:=k.size;have o:∀e q,PrG (PQ N B vb pb vf w) w e q->PrG (PQ N B vb pb vf w6) w6 e q:=fun e q t=>t.to (fun b d=>⟨d.1,by have:=d.2.1;omega,d.2.2⟩) (fun b d e=>jN (a:=(A b e F)) (m b d.2.1 d.2.2.2.2.1))
 refine⟨(m B c.bx.lt n.2.2.2.2.1).trans c.bx,c.hV.kept k (fun h=>n.2.2.2.2.2 (by injection h)),r,by have:=c.nV;simp;omega,by have:=c.nP;simp;omega,fun g=>?_,c.one,fun g=>?_,n⟩;·rw[zg0,j,ju oD];exact(c.wd g).to (fun b s _ _ _ p=>m b s p)
 ·rw[zgy,i,jv rfl]
  try dsimp only
  cases x:eqS g (keyOf q)with
  | true=>rw[jv rfl,jv rfl];exact o _ _ u
  | false=>rw[ju oD,ju oD];exact o _ _ (c.pr g)
end
theorem zwu {w:Zw} {a c:Nat} {f:ByteArray->Option Zv} (b:kI w a c f) (l:c<maxLen) (e:ByteArray) (m:e.size<=maxLen) (v:Zv):∃w',(Instr.mapUpdate 74 (.map (Z a)) (I e) v).run prog w=.ok () w'/\kI w' a (c+1) (fun g=>if eqS g e then Z v else f g)/\w.grownBy w' (Z a):=by
 obtain⟨D,b,h⟩:=b;obtain⟨w',i,j,k⟩:=b.update vE underlying74 l (keyOf_string_mk underlying9 m) (d:=.held v) (ps:=[]) rfl;exact⟨w',i,⟨_,j,kI.put h b.isMap⟩,k⟩
theorem zui {w:Zw} {a c:Nat} {f:ByteArray->Option Zv} (b:kI w a c f) (l:c<maxLen) (e:ByteArray) (m:e.size<=maxLen) (v:Zv):∃w',(Instr.mapUpdate 75 (.map (Z a)) (I e) v).run prog w=.ok () w'/\kI w' a (c+1) (fun g=>if eqS g e then Z v else f g)/\w.grownBy w' (Z a):=by
 obtain⟨D,b,h⟩:=b;obtain⟨w',i,j,k⟩:=b.update vE underlying75 l (keyOf_string_mk underlying9 m) (d:=.held v) (ps:=[]) rfl;exact⟨w',i,⟨_,j,kI.put h b.isMap⟩,k⟩
end mdl
namespace mdl
open Go.RowKit Go.Maps Go.WideMaps
open syn face mac chk
open ord (tkd gL)
def zfc (N B vb pb:Nat) (vf:ByteArray->Option Zv) (b:List (ByteArray × Kid)) (w:Zw) (e:Ending) (w':Zw):Prop :=
 e=.returned (.tuple #[])/\Kept (fun k=>k≠vb/\k≠pb) w w'/\∃a c f d,Dcl N B vb pb a c f d b w'/\∀k,bZ a k->bZ vf k\/w.heap.size<=k
theorem zyy (a:Nat):madeCells #[Value.int O 0] a=((List.replicate a (0:Int)).map intV).toArray:=by
 refine Array.toList_inj.1 ?_;rw[toList_madeCells_one,List.map_replicate]
section
variable {N B vb pb vn pn:Nat} {vf pf:ByteArray->Option Zv} {L:List (ByteArray × Kid)} {w w':Zw}
theorem ybq (G:Dcl N B vb pb vf pf vn pn L w) (b j:ByteArray) (p l:Bool) (d:Option Int) (v:Zv) (a6:Lies (·<w.heap.size) w (Kid.var b p l d).tree v) (aP:b.size+j.size<=1000) (aL:0<=d.getD 0) (aK:d.getD 0<=64) (aI:L.length<=100000) : Calls prog 64 #[Zp (Z (A B 0 F)),v,I j] w (zfc N B vb pb vf (L++[(j,Kid.var b p l d)]) w):=by
 have a7:=a6;rw[Kid.tree_is]at a7;unfold Lies at a7;obtain⟨a,e,rfl,_,_⟩:=a7;simp only[Kid.kind,Kid.text,Kid.num]at *;generalize ax:(Kid.var b p l d).kids.length=f at *;generalize 2*bI p+bI l=g at *;clear ax;have K:=(Below.refl w.heap.size w).alloc (jE _) (Zc #[U O 3,I b,U O g,J a f e] 25);have T:=show Hid _ from G.below K.drew
 have ab:=show Hid _ from(a6.below K.drew)
 have Q:=show Hid _ from K.drew
 have ac:BoxC (w.alloc (Zc #[U O 3,I b,U O g,J a f e] 25)).drew w.heap.size #[U O 3,I b,U O g,J a f e] 25:=(BoxC.new w _ _).below (Below.refl _ _).drew;have a9:=show Hid (BoxC (w.alloc (Zc #[U O 3,I b,U O g,J a f e] 25)).drew w.heap.size #[U O 3,I b,U O g,J a f e] 25)from ac
 have aH:=G.bx.lt;have aO:=G.hV.lt;clear G a6 K ac;have ae:=fun t=>zcx b j t oA
 have ag:keyOf (j,Kid.var b p l d)=qO b j:=rfl;have aA:(qO b j).size<=maxLen:=by have:=long_size b j;unfold maxLen;omega
 have ao:=show Hid _ from ag
 clear ag;generalize qO b j=ak at *;go_enter func64,ntmps64;go_wp2_with (fail);refine(ae _).mono ?_;rintro k aF ⟨rfl,rfl⟩;clear ae;go_wp2_with (fail);obtain⟨kn,ay⟩:∃kn:Nat,max (d.getD 0) 1=(kn:Int):=⟨(max (d.getD 0) 1).toNat,oA⟩
 have az:kn<=64:=oA
 have aj:dA (j,Kid.var b p l d)=List.replicate kn 0:=by
  show List.replicate (max (d.getD 0) 1).toNat 0=_;rw[ay];rfl
 have V:=show Hid _ from aj
 have c:BoxC (w.alloc (Zc #[U O 3,I b,U O g,J a f e] 25)).drew B #[.map (Z vb),.map (Z pb)] 77/\BoxC (w.alloc (Zc #[U O 3,I b,U O g,J a f e] 25)).drew w.heap.size #[U O 3,I b,U O g,J a f e] 25:=⟨T.out.bx,a9.out⟩
 have HS:=show Hid _ from c
 clear c a9 aj;refine wp_region_held_drew (S:=fun t=>BoxC t B #[.map (Z vb),.map (Z pb)] 77/\BoxC t w.heap.size #[U O 3,I b,U O g,J a f e] 25) oB HS.out (fun r=>?_);have c:=HS.out;clear r HS;generalize (w.alloc (Zc #[U O 3,I b,U O g,J a f e] 25)).drew=t at *;have a3:=zh7 b p l d _ t ab.out;rw[show qE (yW b p l d)=Za #[I b,Y p,U O (bI l),U O (d.getD 0)] from rfl]at a3;refine tkS (i:=0) (v:=Zp (Z (A B 0 F))) rfl rfl (Or.inl ⟨oG,fun s h=>oF⟩) c ?_;simp only[jA,jB,jC];refine tkS (i:=1) (v:=Zp (Z (A B 0 F))) rfl rfl (Or.inl ⟨oG,fun s h=>oF⟩) c ?_;simp only[jA,jB,jC];refine tkS (i:=2) (v:=Zp (Z (A B 0 F))) rfl rfl (Or.inl ⟨oG,fun s h=>oF⟩) c ?_;simp only[jA,jB,jC];refine tkS (i:=3) (v:=.map (Z vb)) rfl rfl (Or.inl ⟨oG,fun s h=>by have aE:=h.1.cell 0 rfl;go_simp⟩) c ?_;simp only[jA,jB,jC];refine tkS (i:=4) (v:=I ak) rfl rfl (Or.inl ⟨oG,fun s h=>oF⟩) c ?_;simp only[jA,jB,jC];refine tkS (i:=5) (v:=Za #[U O 3,I b,U O g,J a f e] ) rfl rfl (Or.inl ⟨oG,fun s h=>by have aQ:=h.2.cell 0 rfl;have aR:=h.2.cell 1 rfl;have aS:=h.2.cell 2 rfl;have aE:=h.2.cell 3 rfl;go_simp⟩) c ?_;simp only[jA,jB,jC];refine oneH 6 fun y n=>?_
 go_simp;go_at_call 108;refine a3.mono ?_;clear a3;rintro k m ⟨rfl,z⟩;replace c:=(⟨c.1.below z,c.2.below z⟩:BoxC m B #[.map (Z vb),.map (Z pb)] 77/\BoxC m w.heap.size #[U O 3,I b,U O g,J a f e] 25)
 refine n.out _ _ c (fun r=>?_);clear n y r;have D:=show Hid _ from T.out.below z
 have R:=show Hid _ from Q.out.trans (z.mono Q.out.size)
 clear T Q ab z;have aJ:∀w:Zw,(Instr.field 87 (Za #[I b,Y p,U O (bI l),U O (d.getD 0)]) 3).run prog w=.ok (U O (d.getD 0)) w:=fun _=>oB
 refine tkS (i:=7) (v:=U O (d.getD 0)) rfl rfl (Or.inl ⟨oG,fun s h=>oF⟩) c ?_;simp only[jA,jB,jC];refine tkS (i:=8) (v:=U O (kn:Int)) rfl rfl (Or.inl ⟨oG,fun s h=>oF⟩) c ?_;simp only[jA,jB,jC];refine oneH 9 fun y n=>?_
 have ai:=run_make_row' (P:=prog) 42 2 (U O 0) 8 underlying42 oB rfl O O kn oA oA m;obtain⟨x,a8⟩:∃x,x=((List.replicate kn (0:Int)).map intV).toArray:=⟨_,rfl⟩
 rw[zyy,<- a8]at ai;have au:=show Hid _ from a8
 clear a8;go_simp;have u:=(Below.refl m.heap.size m).alloc (jE _) (Zc x 2);replace c:=(⟨c.1.below u,c.2.below u⟩:BoxC (m.alloc (Zc x 2)) B #[.map (Z vb),.map (Z pb)] 77/\BoxC (m.alloc (Zc x 2)) w.heap.size #[U O 3,I b,U O g,J a f e] 25)
 refine n.out _ _ c (fun r=>?_);clear n y r ai;obtain⟨W,a5⟩:∃W,W=m.alloc (Zc x 2):=⟨_,rfl⟩
 rw[<- a5]at c u |-;have af:=D.out.hV.below u;have aN:=D.out.nV;obtain⟨E,aD,ah,M⟩:=zwu af (by unfold maxLen;omega) ak aA (J (Z (A m.heap.size 0 F)) kn kn);have ap:=show Hid _ from ah
 have aa:=show Hid _ from M
 have ar:=show Hid _ from a5
 have an:=show Hid _ from u
 have aM:=D.out.ne
 have av:BoxC E B #[.map (Z vb),.map (Z pb)] 77/\BoxC E w.heap.size #[U O 3,I b,U O g,J a f e] 25:=⟨c.1.grown M (fun k=>by injection k with k;omega),c.2.grown M (fun k=>by
  injection k with k
  omega)⟩
 clear a5 ah M u af;refine oneH 10 fun y n=>?_
 go_simp;refine n.out _ _ av (fun r=>?_);clear n y r aD;refine wpAnyH_done oB ?_ _;go_wp2
 go_end0
 have aC:=D.out.putV (q:=(j,Kid.var b p l d)) rfl rfl (by rw[V.out,List.length_replicate];exact az) (w5:=W) (by rw[V.out,<- au.out];exact ar.out) (w6:=E) (by rw[ao.out,V.out,List.length_replicate];exact ap.out) aa.out;have aw:Kept (fun C=>C≠vb/\C≠pb) w E:=((Kept.refl _ w).below (R.out.trans (an.out.mono R.out.size))).grown aa.out (fun C _ k aB=>aB.1 (by injection k with k;exact k.symm));refine⟨rfl,aw,_,_,_,_,aC,fun C ⟨am,v,o,a2⟩=>?_⟩;dsimp only at o
 cases ad:eqS am (keyOf (j,Kid.var b p l d))with
 | true =>
  rw[ad,jv rfl]at o;injection o with o;rw[<- o]at a2;have aG:m.heap.size=C:=by injection a2
  right;have:=R.out.size
  omega
 | false =>
  rw[ad,ju oD]at o;exact .inl ⟨am,v,o,a2⟩
end
theorem lies_shape {h:Nat->Prop} {w:Zw} {g:Tree} {v:Zv} (f:Lies h w g v):∃c e d a j b,v=Za #[U O c,I e,U O d,J a j b]:=by
 cases g with
 | node c e d k =>
  unfold Lies at f;obtain⟨a,b,i,_⟩:=f;exact⟨c,e,d,a,_,b,i⟩
section
variable {N B vb pb vn pn:Nat} {vf pf:ByteArray->Option Zv} {L:List (ByteArray × Kid)} {w w':Zw}
theorem ybp (K:Dcl N B vb pb vf pf vn pn L w) (e j:ByteArray) (p l:Bool) (D:Option Bool) (ps:List (ByteArray × Bool)) (s:Tree) (v:Zv) (aA:Lies (PQ N B vb pb vf w) w (Kid.proc e p l D ps s).tree v) (aO:BlT s) (aT:j.size<=16) (bo:e.size<=16) (bg:L.length<=100000) : Calls prog 64 #[Zp (Z (A B 0 F)),v,I j] w (zfc N B vb pb vf (L++[(j,Kid.proc e p l D ps s)]) w):=by
 have aa:=aA;rw[Kid.tree_is]at aa;unfold Lies at aa;obtain⟨a,f,rfl,⟨aR,aS⟩,av⟩:=aa;simp only[Kid.kind,Kid.text,Kid.num,Kid.kids,jb,List.length_map,jd,je,Nat.zero_add]at *;obtain⟨gk,b,rfl,V,a6⟩:=av oC;obtain⟨be,⟨b0,b1,b2,b6,a3,aj,ak,am,R⟩,T⟩:=a6.get ps.length oC;simp only[List.length_map,Nat.le_refl,List.getElem_append_right,Nat.sub_self,jI]at T;obtain⟨bk,z,x,t,y,u,an⟩:=lies_shape T;rw[an]at a3;obtain⟨rfl,rfl,rfl,rfl⟩:b0=U O bk/\b1=I z/\b2=U O x/\b6=J t y u:=by simpa[eq_comm] using a3
 subst an
 have az:∀c (hi:c<(ps.map (·.1)).length),∃(aX aY:Int) (aH:Option Addr) (aZ aI:Nat),w.cell? (A gk (b+c*4) F)=Z (U O aX)/\w.cell? (A gk (b+c*4+1) F)=Z (I (ps.map (·.1))[c])/\w.cell? (A gk (b+c*4+2) F)=Z (U O aY)/\w.cell? (A gk (b+c*4+3) F)=Z (J aH aZ aI):=by
  intro c hi;have aP:c<ps.length:=by simpa using hi
  obtain⟨bp,⟨b7,b8,b9,ba,i,aJ,aK,aL,aM⟩,a9⟩:=a6.get c oE;rw[List.getElem_append_left (by simpa using aP),List.getElem_map]at a9;unfold zD Lies at a9;obtain⟨aG,R,aN,_⟩:=a9;rw[aN]at i;obtain⟨rfl,rfl,rfl,rfl⟩:b7=U O 5/\b8=I ps[c].1/\b9=U O (bI ps[c].2)/\ba=J aG 0 R:=by simpa[eq_comm] using i
  exact⟨_,_,_,_,_,aJ,by simpa using aK,aL,aM⟩
 have o:PrG (PQ N B vb pb vf w) w (Z (Za #[I j,J (Z (A gk b F)) ps.length f,U O bk,I z,U O x,J t y u])) (zab (j,Kid.proc e p l D ps s)) :=
  ⟨Z (A gk b F),f,bk,z,x,t,y,u,by simp[zab],T,aO,aT,fun _=>⟨gk,b,rfl,V,az⟩⟩
 have ah:=show Hid _ from o
 have W:=V.2.1;have aC:Hid (gk≠pb):=V.2.2.2.2.1;clear az o T a6 av aA V a3;have E:=(Below.refl w.heap.size w).alloc (jE _) (Zc #[U O 4,I e,U O (2*bI p+bI l+gI D),J (Z (A gk b F)) (ps.length+1) f] 25);generalize 2*bI p+bI l+gI D=m at *;have G:=show Hid _ from K.below E.drew
 have Q:=show Hid _ from E.drew
 have ai:BoxC (w.alloc (Zc #[U O 4,I e,U O m,J (Z (A gk b F)) (ps.length+1) f] 25)).drew w.heap.size #[U O 4,I e,U O m,J (Z (A gk b F)) (ps.length+1) f] 25:=(BoxC.new w _ _).below (Below.refl _ _).drew;have bf:=K.bx.lt;have bn:=K.hP.lt;have bj:=K.ne;have ab:=E.drew.cell (p:=(A gk (b+ps.length*4) F)) W;have ac:=E.drew.cell (p:=(A gk (b+ps.length*4+1) F)) W;have ad:=E.drew.cell (p:=(A gk (b+ps.length*4+2) F)) W;have ae:=E.drew.cell (p:=(A gk (b+ps.length*4+3) F)) W;rw[aj]at ab;rw[ak]at ac;rw[am]at ad;rw[R]at ae;have d:BoxC (w.alloc (Zc #[U O 4,I e,U O m,J (Z (A gk b F)) (ps.length+1) f] 25)).drew B #[.map (Z vb),.map (Z pb)] 77/\BoxC (w.alloc (Zc #[U O 4,I e,U O m,J (Z (A gk b F)) (ps.length+1) f] 25)).drew w.heap.size #[U O 4,I e,U O m,J (Z (A gk b F)) (ps.length+1) f] 25/\(w.alloc (Zc #[U O 4,I e,U O m,J (Z (A gk b F)) (ps.length+1) f] 25)).drew.cell? (A gk (b+ps.length*4) F)=Z (U O bk)/\(w.alloc (Zc #[U O 4,I e,U O m,J (Z (A gk b F)) (ps.length+1) f] 25)).drew.cell? (A gk (b+ps.length*4+1) F)=Z (I z)/\(w.alloc (Zc #[U O 4,I e,U O m,J (Z (A gk b F)) (ps.length+1) f] 25)).drew.cell? (A gk (b+ps.length*4+2) F)=Z (U O x)/\(w.alloc (Zc #[U O 4,I e,U O m,J (Z (A gk b F)) (ps.length+1) f] 25)).drew.cell? (A gk (b+ps.length*4+3) F)=Z (J t y u):=⟨G.out.bx,ai,ab,ac,ad,ae⟩
 have HS:=show Hid _ from d
 clear K E ai ab ac ad ae aj ak am R d;have ap:=fun n=>zcx e j n oA
 have aw:keyOf (j,Kid.proc e p l D ps s)=qO e j:=rfl;have aU:(qO e j).size<=maxLen:=by have:=long_size e j;unfold maxLen;omega
 have aD:=show Hid _ from aw
 clear aw;generalize qO e j=aB at *;obtain⟨C,a8⟩:∃C,C=ps.length+1:=⟨_,rfl⟩
 have aQ:(C:Int) - 1=(ps.length:Int):=oA;rw[<- a8]at HS Q G aR aS |-;have bb:=show Hid _ from a8
 obtain⟨h,ay⟩:∃h,h=ps.length:=⟨_,rfl⟩
 rw[<- ay]at HS ah aQ;have bh:h<=f:=oA;have bm:h<C:=oA;clear ay a8;go_enter func64,ntmps64;go_wp2_with (fail);refine(ap _).mono ?_;rintro i bc ⟨rfl,rfl⟩;clear ap;go_wp2_with (fail);refine wp_region_held_drew (S:=fun n=>BoxC n B #[.map (Z vb),.map (Z pb)] 77/\BoxC n w.heap.size #[U O 4,I e,U O m,J (Z (A gk b F)) C f] 25/\n.cell? (A gk (b+h*4) F)=Z (U O bk)/\n.cell? (A gk (b+h*4+1) F)=Z (I z)/\n.cell? (A gk (b+h*4+2) F)=Z (U O x)/\n.cell? (A gk (b+h*4+3) F)=Z (J t y u)) oB HS.out (fun a5=>?_);have d:=HS.out;clear a5 HS;generalize (w.alloc (Zc #[U O 4,I e,U O m,J (Z (A gk b F)) C f] 25)).drew=n at *;refine tkS (i:=0) (v:=Zp (Z (A B 0 F))) rfl rfl (Or.inl ⟨oG,fun k g=>oF⟩) d ?_;simp only[jA,jB,jC];refine tkS (i:=1) (v:=Zp (Z (A B 0 F))) rfl rfl (Or.inl ⟨oG,fun k g=>oF⟩) d ?_;simp only[jA,jB,jC];refine tkS (i:=2) (v:=Zp (Z (A B 1 F))) rfl rfl (Or.inl ⟨oG,fun k g=>oF⟩) d ?_;simp only[jA,jB,jC];refine tkS (i:=3) (v:=.map (Z pb)) rfl rfl (Or.inl ⟨oG,fun k g=>by have af:=g.1.cell 1 rfl;go_simp⟩) d ?_;simp only[jA,jB,jC];refine tkS (i:=4) (v:=I aB) rfl rfl (Or.inl ⟨oG,fun k g=>oF⟩) d ?_;simp only[jA,jB,jC];refine tkS (i:=5) (v:=I j) rfl rfl (Or.inl ⟨oG,fun k g=>oF⟩) d ?_;simp only[jA,jB,jC];refine tkS (i:=6) (v:=Zp (Z (A w.heap.size 3 F))) rfl rfl (Or.inl ⟨oG,fun k g=>oF⟩) d ?_;simp only[jA,jB,jC];refine tkS (i:=7) (v:=J (Z (A gk b F)) C f) rfl rfl (Or.inl ⟨oG,fun k g=>by have af:=g.2.1.cell 3 rfl;go_simp⟩) d ?_;simp only[jA,jB,jC];refine tkS (i:=8) (v:=U O h) rfl rfl (Or.inl ⟨oG,fun k g=>oF⟩) d ?_;simp only[jA,jB,jC];refine tkS (i:=9) (v:=J (Z (A gk b F)) h f) rfl rfl (Or.inl ⟨oG,fun k g=>by go_simp⟩) d ?_;simp only[jA,jB,jC];refine tkS (i:=10) (v:=Zp (Z (A w.heap.size 3 F))) rfl rfl (Or.inl ⟨oG,fun k g=>oF⟩) d ?_;simp only[jA,jB,jC];refine tkS (i:=11) (v:=J (Z (A gk b F)) C f) rfl rfl (Or.inl ⟨oG,fun k g=>by have af:=g.2.1.cell 3 rfl;go_simp⟩) d ?_;simp only[jA,jB,jC];refine tkS (i:=12) (v:=U O h) rfl rfl (Or.inl ⟨oG,fun k g=>oF⟩) d ?_;simp only[jA,jB,jC];refine tkS (i:=13) (v:=Zp (Z (A gk (b+h*4) F))) rfl rfl (Or.inl ⟨oG,fun k g=>oF⟩) d ?_;simp only[jA,jB,jC];refine tkS (i:=14) (v:=Za #[U O bk,I z,U O x,J t y u] ) rfl rfl (Or.inl ⟨oG,fun k g=>by obtain⟨_,_,bq,br,bs,af⟩:=g;go_simp⟩) d ?_;simp only[jA,jB,jC];refine tkS (i:=15) (v:=Za #[I j,J (Z (A gk b F)) h f,U O bk,I z,U O x,J t y u] ) rfl rfl (Or.inl ⟨oG,fun k g=>oF⟩) d ?_;simp only[jA,jB,jC];have bi:=G.out.nP;obtain⟨r,aW,ax,P⟩:=zui G.out.hP (by unfold maxLen;omega) aB aU (Za #[I j,J (Z (A gk b F)) h f,U O bk,I z,U O x,J t y u]);have aE:=show Hid _ from ax
 have ag:=show Hid _ from P
 have au:gk≠pb:=aC.out;have M:∀c,r.cell? (A gk c F)=n.cell? (A gk c F):=fun c=>jN (a:=(A gk c F)) (P.block gk (jS n (A gk (b+h*4) F) d.2.2.1) (fun i=>au (by injection i)))
 have ar:BoxC r B #[.map (Z vb),.map (Z pb)] 77/\BoxC r w.heap.size #[U O 4,I e,U O m,J (Z (A gk b F)) C f] 25/\r.cell? (A gk (b+h*4) F)=Z (U O bk)/\r.cell? (A gk (b+h*4+1) F)=Z (I z)/\r.cell? (A gk (b+h*4+2) F)=Z (U O x)/\r.cell? (A gk (b+h*4+3) F)=Z (J t y u):=⟨d.1.grown P (fun i=>by injection i with i;omega),d.2.1.grown P (fun i=>by injection i with i;omega),(M _).trans d.2.2.1,(M _).trans d.2.2.2.1,(M _).trans d.2.2.2.2.1,(M _).trans d.2.2.2.2.2⟩
 clear ax P M au;refine oneH 16 fun aF ao=>?_
 go_simp;refine ao.out _ _ ar (fun a5=>?_);clear ao aF a5 aW d ar;refine wpAnyH_done oB ?_ _;go_wp2
 go_end0
 have o:=G.out.putP (q:=(j,Kid.proc e p l D ps s)) rfl rfl (PrG.to (fun s o=>⟨o.1,by have:=Q.out.size;have:=o.2.1;omega,o.2.2⟩) (fun s o b=>Q.out.cell (p:=(A s b F)) o.2.1) ah.out) (w6:=r) (by rw[aD.out];exact aE.out) ag.out;have a7:Kept (fun a2=>a2≠vb/\a2≠pb) w r:=((Kept.refl _ w).below Q.out).grown ag.out (fun a2 _ i aV=>aV.2 (by injection i with i;exact i.symm));exact⟨rfl,a7,_,_,_,_,o,fun a2 a7=>.inl a7⟩
end
end mdl
namespace chk
open syn face
theorem small {f:ByteArray} {k:ByteArray} {a:List Kid} (j:(parse f).tree=.node 1 k 0 (a.map Kid.tree)) (d:fitsT (parse f).tree=H):kC (a.map Kid.tree)<=900/\a.length<=900/\∀e∈a,e.kids.length<=900:=by
 rw[j,<- zjh,zc7 _ 1 0 oA oA oA oA]at d;split at d
 ·rename_i g
  have m:kC (a.map Kid.tree)+1<=500:=by
   have c:=g.2;rw[yB]at c;omega
  refine⟨oA,?_,?_⟩;·have:=dF (a.map Kid.tree);rw[List.length_map]at this;omega
  ·intro e i;obtain⟨b,hi,rfl⟩:=List.mem_iff_getElem.1 i;have h:=zlf (a.map Kid.tree) b (by simpa using hi);have c:(a.map Kid.tree)[b]'(by simpa using hi)=a[b].tree:=oC;rw[c,Kid.tree_is,yB]at h;have l:=dF a[b].kids;omega
 ·simp at d
theorem shape5 (c:ByteArray) (e:(parse c).code=0):∃(b:ByteArray) (a:List Kid),(parse c).tree=.node 1 b 0 (a.map Kid.tree)/\b.size<=16/\(∀k∈a,k.good/\k.named/\gE k)/\kC (a.map Kid.tree)<=900/\a.length<=900/\∀k∈a,k.kids.length<=900:=by
 obtain⟨b,a,d,l,_,j,i⟩:=zi4 c e;obtain⟨f,g,h⟩:=small d i;exact⟨b,a,d,l,j,f,g,h⟩
def Shp (x m:ByteArray) (a:List Kid):Prop:=(parse x).code=0->(parse x).tree=.node 1 m 0 (a.map Kid.tree)/\m.size<=16/\(∀k∈a,k.good/\k.named/\gE k)/\kC (a.map Kid.tree)<=900/\a.length<=900/\∀k∈a,k.kids.length<=900
end chk
namespace chk
open Go.RowKit Go.Shelf
open syn face
theorem zxv {a:Zw} {v:VarD} {b c:Zv} (e:List Zv) (B:Nat) (d:kR a B v):(results f129 (List.toArray (b :: c :: Zp (Z (A B 0 F)) :: e))).run prog a=.ok (qE v) a:=by
 obtain⟨f,g,h,i,j⟩:=d.cells;unfold qE;simp[results,f129,go_sem,f,g,h,i]
theorem zgp (e:Int) (b:ByteArray) (c:Int) (a:Option Addr) (f d:Nat) (w:Zw) : Calls prog 129 #[Za #[U O e,I b,U O c,J a f d]] w fun l w'=>l=.returned (qE ⟨b,X,bits BinOp.and IntKind.i64 c 1,0⟩)/\Below w.heap.size w w':=by
 have D:=kc25;have E:prog.cellsOf 87=4:=cell4;have p:=fun i=>bH e b c a f d i
 generalize bits BinOp.and IntKind.i64 c 1=k at *;go_enter func129,ntmps129;have n:Q4 w.heap.size (U O e) (I b) (U O c) (J a f d) ((w.alloc (Zc #[U O e,I b,U O c,J a f d] 25)).alloc (Zc #[I ⟨#[]⟩,Y X,U O 0,U O 0] 87)):=⟨oC,oC,oC,oC⟩
 have g:kR ((w.alloc (Zc #[U O e,I b,U O c,J a f d] 25)).alloc (Zc #[I ⟨#[]⟩,Y X,U O 0,U O 0] 87)) (w.heap.size+1) yP:=by
  have:=kR.new (w.alloc (Zc #[U O e,I b,U O c,J a f d] 25)) yP;rw[jP]at this;exact this
 have m:Below w.heap.size w ((w.alloc (Zc #[U O e,I b,U O c,J a f d] 25)).alloc (Zc #[I ⟨#[]⟩,Y X,U O 0,U O 0] 87)):=((Below.refl _ w).alloc (jE _) _).alloc oC _;go_wp2;generalize ((w.alloc (Zc #[U O e,I b,U O c,J a f d] 25)).alloc (Zc #[I ⟨#[]⟩,Y X,U O 0,U O 0] 87))=i at *;obtain⟨s,t,u,x⟩:=id n;obtain⟨y,z,B,C,h⟩:=g.cells
 go_region_with (go_at_call 139;refine(p _).mono ?_;rintro l w2 ⟨rfl,r⟩;have j:Below i.heap.size i w2:=Below.trans (Below.drew (Below.refl _ _)) r;obtain⟨s,t,u,x⟩:=id (Q4.below n j);obtain⟨y,z,B,C,h⟩:=(g.below j g.lt).cells;have G:=h 0;have K:=h 1;have L:=h 2;have N:=h 3)
 all_goals
  have q:=(g.below j g.lt).put ⟨b,X,k,0⟩;have o:=zfm (M:=w.heap.size+1) (m.trans (j.mono m.size)) oA (I b) (Y X) (U O k) (U O 0);go_wp2;refine jU (v:=qE ⟨b,X,k,0⟩) (zxv _ _ q) rfl ?_;exact⟨rfl,o⟩
section
variable {w0 w w':Zw} {D Kb kn:Nat} {kf:KF} {vs:List VarD} {u:Zv} {a:Int}
theorem CS.push (b:CS w0 w D Kb kn kf vs u a) {v:VarD} {d l:Nat} (o:w'.ownsRow (D+1) 87 4 (J (Z (A d 0 F)) (vs.length+1) l) (vs.length+1) (qZ vs++[I v.name,Y v.pub,U O v.label,U O v.size])) (j:w.grownBy w' u.ownBlock) (m:u.ownBlock=Z d\/d=w.heap.size) : CS w0 (w'.setCell (A D 6 F) (J (Z (A d 0 F)) (vs.length+1) l)) D Kb kn kf (vs++[v]) (J (Z (A d 0 F)) (vs.length+1) l) a:=by
 have n:∀g,u.ownBlock=Z g->D+1<=g:=fun g c=>(b.rl.lt _ c).1
 have r:D+1<=d:=by
  rcases m with c | c
  ·exact n d c
  ·have:=b.lt;omega
 have i:=j.block D b.lt (fun c=>by have:=n D c.symm;omega);have q:=b.mp.lt;refine⟨(b.bs.grown j b.bs.size (fun k c=>by have:=n k c;have:=b.hD;omega)).setCell b.hD _,b.hD,?_,?_,?_,?_,fun k=>?_,(b.mp.kept j (fun c=>b.nu c.symm)).setCell b.nk _,b.fi,fun p f e=>⟨(b.fw p f e).1,(b.fw p f e).2.1,(jN (a:=p) ((jQ w' (A D 6 F) _ p.block (b.fw p f e).1).trans (j.block p.block (jo (b.fw p f e).2.1 b.fm) (fun c=>Nat.not_lt.2 (b.fu _ c.symm) (b.fw p f e).2.1)))).trans (b.fw p f e).2.2⟩,by rw[jR];exact jp b.fm j.size,b.mM,fun g c=>?_,?_,b.nk,b.mx,?_⟩;·rw[jD _ _ _ _ oC];exact(jN (a:=(A D 4 F)) i).trans b.c4
 ·rw[jD _ _ _ _ oC];exact(jN (a:=(A D 5 F)) i).trans b.c5
 ·exact World.cell?_setCell_same' _ _ _ (by rw[(jN (a:=(A D 6 F)) i).trans b.c6];rfl)
 ·rw[jD _ _ _ _ oC];exact(jN (a:=(A D 7 F)) i).trans b.c7
 ·rw[World.frozen?_setCell];exact(jO (a:=(A D k F)) i).trans (b.fz k)
 ·have h:Z d=Z g:=c;cases h;rcases m with c | c
  ·exact b.fu d c
  ·rw[c];exact b.fm
 ·rw[jb,ziw];refine jV o (fun c=>?_) _;have h:Z d=Z D:=c;cases h;omega
 ·intro c;have h:Z d=Z Kb:=c;cases h;rcases m with c | c
  ·exact b.nu c
  ·omega
def AL (w0:Zw) (D Kb kn:Nat) (kf:KF) (vs:List VarD) (u:Zv) (a:Int) (v:VarD) (first:Nat) (at_:Int) (w:Zw) (e:Ending) (w':Zw):Prop :=
 ((vs.drop first).any (fun o=>eqS o.name v.name)=H/\e=.panicked (qG 5 at_)/\Below w0.heap.size w0 w') \/
 ((vs.drop first).any (fun o=>eqS o.name v.name)=X/\20<=vs.length/\e=.panicked (qG 1 at_)/\Below w0.heap.size w0 w') \/
 ((vs.drop first).any (fun o=>eqS o.name v.name)=X/\vs.length<20/\e=.returned (.tuple #[])/\(∃c,CS w0 w' D Kb kn kf (vs++[v]) c a/\∀b,c.ownBlock=Z b->u.ownBlock=Z b\/w.heap.size<=b)/\w.heap.size<=w'.heap.size/\∀b,b<w.heap.size->b≠D->u.ownBlock≠Z b->w'.heap[b]?=w.heap[b]?)
theorem yba {α:Type} {p:α->Bool} {l:List α} {a:Nat} (b:a<l.length) (c:p l[a]=H):l.any p=H:=List.any_eq_true.2 ⟨_,jH b,c⟩
theorem any_none {α:Type} {p:α->Bool} {l:List α} (b:∀a (hi:a<l.length),p l[a]=X):l.any p=X:=by
 rw[List.any_eq_false];intro d c;obtain⟨a,hi,rfl⟩:=List.getElem_of_mem c;rw[b a hi]
 decide
end
section
variable {w0 w w':Zw} {D Kb kn:Nat} {kf:KF} {vs:List VarD} {u:Zv} {a:Int}
theorem zv1 (v:VarD) (first:Nat) (at_:Int) (q:CS w0 w D Kb kn kf vs u a) (b6:first<=vs.length) (b9:vs.length<=20) : Calls prog 181 #[Zp (Z (A D 0 F)),qE v,U O (first:Int),U O at_] w (AL w0 D Kb kn kf vs u a v first at_ w):=by
 have aX:prog.cellsOf 87=4:=cell4;obtain⟨aE,hi,aB,aC,aD⟩:=info_parts ze8;obtain⟨ua,uc,rfl,bb,bc⟩:=lexs.own_shape q.rl;have az:=q.rl;have b2:=q.lt;have ae:=q.alloc (Zc #[I v.name,Y v.pub,U O v.label,U O v.size] 87);have l:=ae.c6;have aA:∀c,(Value.slice ua vs.length uc).ownBlock=Z c->c<w.heap.size:=fun c e=>(q.rl.lt _ e).2
 have b1:vs.length<=uc:=by
  rcases az.2 with⟨e,aP⟩|⟨s,aI,aK,e,K,aY,aZ,b0,_⟩
  ·omega
  ·injection e with _ _ G;omega
 unfold qE;have au:Q4 w.heap.size (I v.name) (Y v.pub) (U O v.label) (U O v.size) (w.alloc (Zc #[I v.name,Y v.pub,U O v.label,U O v.size] 87)):=⟨oC,oC,oC,oC⟩
 have ad:Below w.heap.size w (w.alloc (Zc #[I v.name,Y v.pub,U O v.label,U O v.size] 87)):=bal _
 by_cases aS:uc=first
 ·obtain rfl:first=vs.length:=oA
  obtain rfl:=aS;have N:(vs.drop vs.length).any (fun m=>eqS m.name v.name)=X:=by rw[List.drop_eq_nil_of_le oA];rfl
  go_enter func181,ntmps181;go_wp2;clear l;generalize w.alloc (Zc #[I v.name,Y v.pub,U O v.label,U O v.size] 87)=E at *;go_loopw [17] (fun R wr=>R=U O 0/\wr=E) (fun _ _=>0)
  case atStart=>exact⟨rfl,rfl⟩
  case round =>
   obtain⟨rfl,rfl⟩:=hrel;have n:=ae;have x:=au;have M:=ad;have a9:Hid ((vs.drop vs.length).any (fun m=>eqS m.name v.name)=X):=N;clear N;have l:=n.c6;obtain⟨a3,a5,a6,a7⟩:=id x;by_cases ar:20<=vs.length;·have T:Hid (Below w0.heap.size w0 wr):=n.bs;exact zmk
   ·have h:=n.drew;have d:Q4 w.heap.size (I v.name) (Y v.pub) (U O v.label) (U O v.size) wr.drew:=x;have j:Below w.heap.size w wr.drew:=M.drew;go_wp2;refine wp_region_held_drew (S:=fun ab=>Q4 w.heap.size (I v.name) (Y v.pub) (U O v.label) (U O v.size) ab) oB d (fun i=>?_);clear i l x n M a3 a5 a6 a7;generalize wr.drew=g at *;refine tkP 0 (Zp (Z (A D 0 F))) d ?_;simp only[Act.put,jA,jB,jC];refine tkP 1 (Zp (Z (A D 0 F))) d ?_;simp only[Act.put,jA,jB,jC];refine tkP 2 (Zp (Z (A D 0 F))) d ?_;simp only[Act.put,jA,jB,jC];refine tkP 3 (Zp (Z (A D 6 F))) d ?_;simp only[Act.put,jA,jB,jC];refine tkP 5 (Za #[I v.name,Y v.pub,U O v.label,U O v.size] ) d ?_;simp only[Act.put,jA,jB,jC];refine wpAnyH_ready (rs:=[4,6]) oB oC ?_;refine AllReadyH.cons rfl (fun k f=>?_) (AllReadyH.cons rfl (fun k f=>?_) AllReadyH.nil)
    focus
     have l:=h.c6;go_simp;refine f.out _ _ d (fun i=>?_);clear f k i l;refine oneH 6 fun k f=>?_
     go_simp;have Q:∀b u,[Value.string v.name,Y v.pub,U O v.label,U O v.size][b]?=Z u->(g.alloc (Zc #[I v.name,Y v.pub,U O v.label,U O v.size] 87)).cell? (((A g.heap.size 0 F):Addr).add b)=Z u:=zZ _ #[I v.name,Y v.pub,U O v.label,U O v.size] _ _ rfl;have z:g.heap.size+1=(g.alloc (Zc #[I v.name,Y v.pub,U O v.label,U O v.size] 87)).heap.size:=oC;have aj:w.heap.size<=g.heap.size:=j.size;replace j:=j.alloc j.size (Zc #[I v.name,Y v.pub,U O v.label,U O v.size] 87);replace h:=h.alloc (Zc #[I v.name,Y v.pub,U O v.label,U O v.size] 87);replace d:=Q4.alloc d (Zc #[I v.name,Y v.pub,U O v.label,U O v.size] 87);refine f.out _ _ d (fun i=>?_);clear f k i;generalize g.alloc (Zc #[I v.name,Y v.pub,U O v.label,U O v.size] 87)=ac at *;generalize g.heap.size=B at *
    rotate_left
    focus
     go_simp;have Q:∀b u,[Value.string v.name,Y v.pub,U O v.label,U O v.size][b]?=Z u->(g.alloc (Zc #[I v.name,Y v.pub,U O v.label,U O v.size] 87)).cell? (((A g.heap.size 0 F):Addr).add b)=Z u:=zZ _ #[I v.name,Y v.pub,U O v.label,U O v.size] _ _ rfl;have z:g.heap.size+1=(g.alloc (Zc #[I v.name,Y v.pub,U O v.label,U O v.size] 87)).heap.size:=oC;have aj:w.heap.size<=g.heap.size:=j.size;replace j:=j.alloc j.size (Zc #[I v.name,Y v.pub,U O v.label,U O v.size] 87);replace h:=h.alloc (Zc #[I v.name,Y v.pub,U O v.label,U O v.size] 87);replace d:=Q4.alloc d (Zc #[I v.name,Y v.pub,U O v.label,U O v.size] 87);refine f.out _ _ d (fun i=>?_);clear f k i;generalize g.alloc (Zc #[I v.name,Y v.pub,U O v.label,U O v.size] 87)=ac at *;generalize g.heap.size=B at *;refine oneH 4 fun k f=>?_
     have l:=h.c6;go_simp;refine f.out _ _ d (fun i=>?_);clear f k i l
    all_goals
     refine oneH 7 fun k f=>?_
     refine step_append_lies _ oG (.tmp 41) (.tmp 43) 52 oG (D+1) 87 aE (Za #[I ⟨#[]⟩,Y X,U O 0,U O 0]) 4 40 underlying52 hi aB aC aD rfl oD (J ua vs.length vs.length) vs.length (qZ vs) oJ h.rl (A B 0 F) 1 1 [I v.name,Y v.pub,U O v.label,U O v.size] oJ rfl Q oI oA (by unfold maxLen;omega) oA (by have:=h.lt;omega) (B+1) z.symm ?_;intro ao aJ ak ag r W aO;have ay:(Value.slice ua vs.length vs.length).ownBlock≠Z w.heap.size:=fun e=>by have:=aA _ e;omega
     have ah:(Value.slice ua vs.length vs.length).ownBlock≠Z D:=fun e=>by have:=(h.rl.lt _ e).1;omega
     have aw:=h.push (v:=v) ag r (W.imp id (fun e=>e.trans z));have L:=r.block D h.lt (fun e=>ah e.symm);have l:=(jN (a:=(A D 6 F)) L).trans h.c6;have aF:=(jO (a:=(A D 6 F)) L).trans (h.fz 6);have aR:=r.size;have aQ:=j.size;have ax:∀c,c<w.heap.size->c≠D->(Value.slice ua vs.length vs.length).ownBlock≠Z c->ak.heap[c]?=w.heap[c]?:=fun c t y K=>(r.block c oA (fun e=>K e.symm)).trans (j.block c t)
     exact zmi
 ·obtain⟨s,rfl⟩:∃s,ua=Z (A s 0 F):=by
   rcases az.2 with⟨e,aP⟩|⟨s,aI,aK,e,_⟩
   ·injection e with _ _ G;omega
   ·injection e with V _ _;exact⟨s,V⟩
  go_enter func181,ntmps181;go_wp2;clear l;generalize w.alloc (Zc #[I v.name,Y v.pub,U O v.label,U O v.size] 87)=E at *;go_loopw [17] (fun R wr=>∃b:Nat,b<=vs.length - first/\R=U O b/\Hid (∀o (hi:o<(vs.drop first).length),o<b->eqS (vs.drop first)[o].name v.name=X)/\Below E.heap.size E wr) (fun R _=>vs.length - first - (intOf R).toNat)
  case atStart=>exact⟨0,jz _,rfl,fun o hi q=>absurd q oA,Below.refl _ _⟩
  case round =>
   obtain⟨b,b7,rfl,aa,P⟩:=hrel;have n:=ae.below P;have x:=Q4.below au P;have M:=ad.trans (P.mono ad.size)
   by_cases ba:b<vs.length - first
   ·obtain⟨a3,a5,a6,a7⟩:=id x;have aN:first+b<vs.length:=oA
    obtain⟨am,V,G,an⟩:=zc1 vs (first+b) aN;have aT:=(n.rl.cellAt ((first+b)*4) oA).trans am;have aU:=(n.rl.cellAt ((first+b)*4+1) oA).trans V;have aV:=(n.rl.cellAt ((first+b)*4+2) oA).trans G;have aW:=(n.rl.cellAt ((first+b)*4+3) oA).trans an;rw[show(first+b)*4=first*4+b*4 by omega]at aT aU aV aW;clear am V G an;have aM:b<(vs.drop first).length:=oE;have af:(vs.drop first)[b]=vs[first+b]:=oC;have a8:Hid (∀c,eqS vs[first+b].name v.name=c->c=H->(vs.drop first).any (fun m=>eqS m.name v.name)=H):=fun c t y=>yba aM (by rw[af];exact t.trans y)
    have HS:Hid (∀c,eqS vs[first+b].name v.name=c->c=X->∀o (hi:o<(vs.drop first).length),o<b+1->eqS (vs.drop first)[o].name v.name=X):=fun c t y o hi q=>by
     rcases jM o b with ap | ap
     ·exact aa.out o hi ap
     ·obtain rfl:o=b:=oA;rw[af];exact t.trans y
    clear af;generalize vs[first+b]=C at *;obtain⟨be,bf,bg,bh⟩:=Q4.alloc x (Zc #[I C.name,Y C.pub,U O C.label,U O C.size] 87);have T:Hid (∀m:Obj,Below w0.heap.size w0 (wr.alloc m)):=fun m=>(n.alloc m).bs
    have av:Hid (Below E.heap.size E wr):=P;cases a2:eqS C.name v.name;·have aL:(C.name.toList==v.name.toList)=X:=a2;have aH:=HS.out _ a2 rfl;clear HS a8;go_wp2;exact⟨⟨b+1,oA,oC,aH,av.out.alloc av.out.size _⟩,by simp[intOf];omega⟩
    ·have aL:(C.name.toList==v.name.toList)=H:=a2;have aG:Hid ((vs.drop first).any (fun m=>eqS m.name v.name)=H):=a8.out _ a2 rfl;clear HS a8;go_wp2_with (go_at_call 128;refine(vO 5 at_ _).mono ?_;rintro e w2 ⟨rfl,ai⟩;rw[ai]);exact⟨rfl,.inl ⟨aG.out,rfl,T.out _⟩⟩
   ·have N:(vs.drop first).any (fun m=>eqS m.name v.name)=X:=any_none (fun o hi=>aa.out o hi (by simp at hi;omega));have b8:b=vs.length - first:=oA
    clear aa P;have a9:Hid ((vs.drop first).any (fun m=>eqS m.name v.name)=X):=N;clear N;have l:=n.c6;obtain⟨a3,a5,a6,a7⟩:=id x;by_cases ar:20<=vs.length;·have T:Hid (Below w0.heap.size w0 wr):=n.bs;exact zmk
    ·have h:=n.drew;have d:Q4 w.heap.size (I v.name) (Y v.pub) (U O v.label) (U O v.size) wr.drew:=x;have j:Below w.heap.size w wr.drew:=M.drew;go_wp2;refine wp_region_held_drew (S:=fun ab=>Q4 w.heap.size (I v.name) (Y v.pub) (U O v.label) (U O v.size) ab) oB d (fun i=>?_);clear i l x n M a3 a5 a6 a7;generalize wr.drew=g at *;refine tkP 0 (Zp (Z (A D 0 F))) d ?_;simp only[Act.put,jA,jB,jC];refine tkP 1 (Zp (Z (A D 0 F))) d ?_;simp only[Act.put,jA,jB,jC];refine tkP 2 (Zp (Z (A D 0 F))) d ?_;simp only[Act.put,jA,jB,jC];refine tkP 3 (Zp (Z (A D 6 F))) d ?_;simp only[Act.put,jA,jB,jC];refine tkP 5 (Za #[I v.name,Y v.pub,U O v.label,U O v.size] ) d ?_;simp only[Act.put,jA,jB,jC];refine wpAnyH_ready (rs:=[4,6]) oB oC ?_;refine AllReadyH.cons rfl (fun k f=>?_) (AllReadyH.cons rfl (fun k f=>?_) AllReadyH.nil)
     focus
      have l:=h.c6;go_simp;refine f.out _ _ d (fun i=>?_);clear f k i l;refine oneH 6 fun k f=>?_
      go_simp;have Q:∀b u,[Value.string v.name,Y v.pub,U O v.label,U O v.size][b]?=Z u->(g.alloc (Zc #[I v.name,Y v.pub,U O v.label,U O v.size] 87)).cell? (((A g.heap.size 0 F):Addr).add b)=Z u:=zZ _ #[I v.name,Y v.pub,U O v.label,U O v.size] _ _ rfl;have z:g.heap.size+1=(g.alloc (Zc #[I v.name,Y v.pub,U O v.label,U O v.size] 87)).heap.size:=oC;have aj:w.heap.size<=g.heap.size:=j.size;replace j:=j.alloc j.size (Zc #[I v.name,Y v.pub,U O v.label,U O v.size] 87);replace h:=h.alloc (Zc #[I v.name,Y v.pub,U O v.label,U O v.size] 87);replace d:=Q4.alloc d (Zc #[I v.name,Y v.pub,U O v.label,U O v.size] 87);refine f.out _ _ d (fun i=>?_);clear f k i;generalize g.alloc (Zc #[I v.name,Y v.pub,U O v.label,U O v.size] 87)=ac at *;generalize g.heap.size=B at *
     rotate_left
     focus
      go_simp;have Q:∀b u,[Value.string v.name,Y v.pub,U O v.label,U O v.size][b]?=Z u->(g.alloc (Zc #[I v.name,Y v.pub,U O v.label,U O v.size] 87)).cell? (((A g.heap.size 0 F):Addr).add b)=Z u:=zZ _ #[I v.name,Y v.pub,U O v.label,U O v.size] _ _ rfl;have z:g.heap.size+1=(g.alloc (Zc #[I v.name,Y v.pub,U O v.label,U O v.size] 87)).heap.size:=oC;have aj:w.heap.size<=g.heap.size:=j.size;replace j:=j.alloc j.size (Zc #[I v.name,Y v.pub,U O v.label,U O v.size] 87);replace h:=h.alloc (Zc #[I v.name,Y v.pub,U O v.label,U O v.size] 87);replace d:=Q4.alloc d (Zc #[I v.name,Y v.pub,U O v.label,U O v.size] 87);refine f.out _ _ d (fun i=>?_);clear f k i;generalize g.alloc (Zc #[I v.name,Y v.pub,U O v.label,U O v.size] 87)=ac at *;generalize g.heap.size=B at *;refine oneH 4 fun k f=>?_
      have l:=h.c6;go_simp;refine f.out _ _ d (fun i=>?_);clear f k i l
     all_goals
      refine oneH 7 fun k f=>?_
      refine step_append_lies _ oG (.tmp 41) (.tmp 43) 52 oG (D+1) 87 aE (Za #[I ⟨#[]⟩,Y X,U O 0,U O 0]) 4 40 underlying52 hi aB aC aD rfl oD (J (Z (A s 0 F)) vs.length uc) vs.length (qZ vs) oJ h.rl (A B 0 F) 1 1 [I v.name,Y v.pub,U O v.label,U O v.size] oJ rfl Q oI oA (by unfold maxLen;omega) oA (by have:=h.lt;omega) (B+1) z.symm ?_;intro ao aJ ak ag r W aO;have ay:(Value.slice (Z (A s 0 F)) vs.length uc).ownBlock≠Z w.heap.size:=fun e=>by have:=aA _ e;omega
      have ah:(Value.slice (Z (A s 0 F)) vs.length uc).ownBlock≠Z D:=fun e=>by have:=(h.rl.lt _ e).1;omega
      have aw:=h.push (v:=v) ag r (W.imp id (fun e=>e.trans z));have L:=r.block D h.lt (fun e=>ah e.symm);have l:=(jN (a:=(A D 6 F)) L).trans h.c6;have aF:=(jO (a:=(A D 6 F)) L).trans (h.fz 6);have aR:=r.size;have aQ:=j.size;have ax:∀c,c<w.heap.size->c≠D->(Value.slice (Z (A s 0 F)) vs.length uc).ownBlock≠Z c->ak.heap[c]?=w.heap[c]?:=fun c t y K=>(r.block c oA (fun e=>K e.symm)).trans (j.block c t)
      exact zmi
end
theorem zi6:∀l:List VarD,(qZ l).length=l.length*4
 | []=>rfl
 | v :: r=>by
  show(Value.string v.name :: Y v.pub :: U O v.label :: U O v.size :: qZ r).length=_;simp only[jd,zi6 r];omega
theorem zix:∀(l:List VarD) (a:Nat),(qZ l).take (a*4)=qZ (l.take a)
 | [],a=>by simp[qZ]
 | v :: r,0=>by simp[qZ]
 | v :: r,a+1=>by
  show(Value.string v.name :: Y v.pub :: U O v.label :: U O v.size :: qZ r).take ((a+1)*4)=Value.string v.name :: Y v.pub :: U O v.label :: U O v.size :: qZ (r.take a);rw[show(a+1)*4=a*4+1+1+1+1 by omega];simp only[List.take_succ_cons,zix r a]
theorem yaa {w:Zw} {B:Nat} {ua:Option Addr} {uc:Nat} {vs:List VarD} (f:w.ownsRow B 87 4 (J ua vs.length uc) vs.length (qZ vs)) {a:Nat} (o:a<=vs.length):w.ownsRow B 87 4 (J ua a uc) (vs.take a).length (qZ (vs.take a)):=by
 have l:(vs.take a).length=a:=oT;refine⟨by rw[zi6],?_⟩;rw[l];rcases f.2 with⟨b,m⟩|⟨e,c,d,b,g,h,n,i,j,k⟩
 ·injection b with e1 _ e2;exact .inl ⟨by rw[e1,e2,show a=0 by omega],oA⟩
 ·injection b with e1 _ e2;refine .inr ⟨e,c,d,by rw[e1,e2],g,h,oA,i,j,?_⟩;rw[<- zix,<- k,List.take_take,Nat.min_eq_left oA]
section
variable {w0 w w':Zw} {D Kb kn:Nat} {kf:KF} {vs:List VarD} {ua:Option Addr} {uc:Nat} {a:Int}
theorem CS.cut (b:CS w0 w D Kb kn kf vs (J ua vs.length uc) a) {n:Nat} (h:n<=vs.length):CS w0 (w.setCell (A D 6 F) (J ua n uc)) D Kb kn kf (vs.take n) (J ua n uc) a:=by
 have f:(Value.slice ua n uc).ownBlock=(Value.slice ua vs.length uc).ownBlock:=by cases ua<;>rfl
 refine⟨b.bs.setCell b.hD _,b.hD,?_,?_,?_,?_,fun i=>?_,b.mp.setCell b.nk _,b.fi,fun p e d=>⟨(b.fw p e d).1,(b.fw p e d).2.1,(jN (a:=p) (jQ w (A D 6 F) _ p.block (b.fw p e d).1)).trans (b.fw p e d).2.2⟩,by rw[jR];exact b.fm,b.mM,fun g c=>b.fu g (by rw[<- f];exact c),?_,b.nk,b.mx,?_⟩;·rw[jD _ _ _ _ oC];exact b.c4
 ·rw[jD _ _ _ _ oC];exact b.c5
 ·exact World.cell?_setCell_same' _ _ _ (by rw[b.c6];rfl)
 ·rw[jD _ _ _ _ oC];exact b.c7
 ·rw[World.frozen?_setCell];exact b.fz i
 ·refine jV (yaa b.rl h) (fun c=>?_) _;rw[f]at c;have j:D+1<=D:=(b.rl.lt _ c).1;omega
 ·rw[f];exact b.nu
end
structure FrU (D:Nat) (u u':Zv) (w w':Zw):Prop where
 size:w.heap.size<=w'.heap.size
 block:∀b,b<w.heap.size->b≠D->u.ownBlock≠Z b->w'.heap[b]?=w.heap[b]?
 own:∀b,u'.ownBlock=Z b->u.ownBlock=Z b\/w.heap.size<=b
section
variable {D:Nat} {u u1 u2:Zv} {w w1 w2:Zw}
theorem FrU.refl (D:Nat) (u:Zv) (w:Zw):FrU D u u w w:=⟨jE _,fun _ _ _ _=>rfl,fun _ a=>.inl a⟩
theorem FrU.trans (b:FrU D u u1 w w1) (e:FrU D u1 u2 w1 w2):FrU D u u2 w w2:=by
 refine⟨jp b.size e.size,fun a f g h=>?_,fun a d=>?_⟩
 ·refine(e.block a (jo f b.size) g (fun d=>?_)).trans (b.block a f g h);rcases b.own a d with c | c
  ·exact h c
  ·omega
 ·rcases e.own a d with c | c
  ·exact b.own a c
  ·exact .inr (jp b.size c)
theorem FrU.of (b:Fr D w w1) (u:Zv):FrU D u u w w1:=⟨b.size,fun c d e _=>b.block c d (fun a=>e (by cases a;rfl)),fun _ a=>.inl a⟩
theorem FrU.below (a:Below w.heap.size w w1) (D:Nat) (u:Zv):FrU D u u w w1:=⟨a.size,fun b d _ _=>a.block b d,fun _ c=>.inl c⟩
theorem FrU.alloc (b:FrU D u u1 w w1) (a:Obj):FrU D u u1 w (w1.alloc a):=b.trans (.below (bal a) D u1)
theorem FrU.drew (a:FrU D u u1 w w1):FrU D u u1 w w1.drew:=a.trans (.below (Below.refl _ _).drew D u1)
theorem FrU.cell {b o:Nat} (c:FrU D u u1 w w1) (d:b<w.heap.size) (e:b≠D) (f:u.ownBlock≠Z b):w1.cell? (A b o F)=w.cell? (A b o F):=jN (a:=(A b o F)) (c.block b d e f)
theorem FrU.set (c:FrU D u u1 w w1) (o:Nat) (v:Zv) (e:∀a,u2.ownBlock=Z a->u1.ownBlock=Z a):FrU D u u2 w (w1.setCell (A D o F) v) :=
 c.trans ⟨by rw[jR];exact jE _,fun a _ d _=>jQ w1 (A D o F) v a d,fun a b=>.inl (e a b)⟩
end
def SR (w0:Zw) (D Kb kn:Nat) (kf:KF) (u:Zv) (w:Zw) (r:Res (List Loc × Int)) (e:Ending) (w':Zw):Prop:=match r with
 | .bad c b=>e=.panicked (qG c b)/\Below w0.heap.size w0 w'
 | .ok q=>e=.returned (.tuple #[])/\∃a,CS w0 w' D Kb kn kf (kN q.1) a q.2/\FrU D u a w w'
section
variable (E:Env) (p:Pr) (w0:Zw) (D Kb kn:Nat) (kf:KF)
def dO (t:Tree):Prop:=∀(ctx deep:Int) (first:Nat) (L:List Loc) (u v:Zv) (w:Zw) (at_:Int),Lies (·<w0.heap.size) w0 t v->InvL L deep first->yF L->L.length<=20->Lab ctx->1<=deep->CS w0 w D Kb kn kf (kN L) u at_->0<=at_->at_+kD t<=1000000 ->
 Calls prog 157 #[Zp (Z (A D 0 F)),v,Za #[U O ctx,U O (first:Int)]] w (SR w0 D Kb kn kf u w (stF E p ctx deep X t L at_))
def zhz (ks:List Tree):Prop:=∀(ctx deep:Int) (first:Nat) (L:List Loc) (u:Zv) (a:Option Addr) (c:Nat) (w:Zw) (at_:Int),(ks≠[]->∃g o,a=Z (A g o F)/\g<w0.heap.size/\qF (·<w0.heap.size) w0 ks g o)->InvL L deep first->yF L->L.length<=20->Lab ctx->1<=deep->CS w0 w D Kb kn kf (kN L) u at_->0<=at_->at_+kC ks<=1000000 ->
 Calls prog 130 #[Zp (Z (A D 0 F)),J a ks.length c,Za #[U O ctx,U O (first:Int)]] w (SR w0 D Kb kn kf u w (qK E p ctx deep ks L at_))
def zhy (t:Tree):Prop:=∀(ctx deep:Int) (first:Nat) (L:List Loc) (u v:Zv) (w:Zw) (at_:Int),Lies (·<w0.heap.size) w0 t v->InvL L deep first->yF L->L.length<=20->Lab ctx->1<=deep->CS w0 w D Kb kn kf (kN L) u at_->0<=at_->at_+kD t<=1000000 ->
 Calls prog 184 #[Zp (Z (A D 0 F)),v,U O ctx] w (SR w0 D Kb kn kf u w (blF E p ctx (deep+1) t L at_))
end
section
variable {E:Env} {p:Pr} {w0:Zw} {D Kb kn:Nat} {kf:KF} {u:Zv}
theorem SR.mkBad {w w':Zw} {c:Res (List Loc × Int)} {b a:Int} (d:c=.bad b a) (e:Below w0.heap.size w0 w'):SR w0 D Kb kn kf u w c (.panicked (qG b a)) w':=by rw[d];exact⟨rfl,e⟩
theorem SR.mkOk {w w':Zw} {c:Res (List Loc × Int)} {L:List Loc} {a:Int} {b:Zv} (d:c=.ok (L,a)) (e:CS w0 w' D Kb kn kf (kN L) b a) (f:FrU D u b w w'):SR w0 D Kb kn kf u w c (.returned (.tuple #[])) w':=by rw[d];exact⟨rfl,b,e,f⟩
theorem zwq (E:Env) (p:Pr) (ctx deep:Int) (e:List Tree) (d:Nat) (f:d<e.length) (L:List Loc) (a:Int):qK E p ctx deep (e.drop d) L a=match stF E p ctx deep X e[d] L a with
  | .bad c b=>.bad c b
  | .ok q=>qK E p ctx deep (e.drop (d+1)) q.1 q.2:=by
 rw[List.drop_eq_getElem_cons f];rfl
theorem zqw (d:List Tree) (aN:∀k∈d,StT k) (ih:∀c (aI:c<d.length),dO E p w0 D Kb kn kf d[c]):zhz E p w0 D Kb kn kf d:=by
 intro ctx deep first L u a a3 w at_ N aA aB aw aE aF C aR aV
 have aQ:=kc25;have aP:=kc190;have aU:=dF d;obtain⟨f,M⟩:∃f,qK E p ctx deep d L at_=f:=⟨_,rfl⟩
 rw[M];have ak:Hid (qK E p ctx deep d L at_=f):=M;clear M;have t:u.ownBlock≠Z w.heap.size:=fun j=>by have:=(C.rl.lt _ j).2;omega
 have aT:=C.lt;have ab:=C.alloc (Zc #[U O ctx,U O (first:Int)] 190);have aG:=(FrU.refl D u w).alloc (Zc #[U O ctx,U O (first:Int)] 190);have W:(w.alloc (Zc #[U O ctx,U O (first:Int)] 190)).cell? (A w.heap.size 0 F)=Z (U O ctx):=oC;have a2:(w.alloc (Zc #[U O ctx,U O (first:Int)] 190)).cell? (A w.heap.size 1 F)=Z (U O (first:Int)):=oC;have s:w.heap.size<(w.alloc (Zc #[U O ctx,U O (first:Int)] 190)).heap.size:=oC;go_enter func130,ntmps130;go_wp2;generalize w.alloc (Zc #[U O ctx,U O (first:Int)] 190)=ap at *;go_loopw [10] (fun k wr=>∃(c:Nat) (e:List Loc) (v:Zv),c<=d.length/\k=U O c/\Hid (Ext deep L e)/\Hid (e.length<=20)/\CS w0 wr D Kb kn kf (kN e) v (at_+kC (d.take c))/\FrU D u v ap wr/\Hid (f=qK E p ctx deep (d.drop c) e (at_+kC (d.take c)))) (fun k _=>d.length - (intOf k).toNat)
 case atStart =>
  refine⟨0,L,u,jz _,rfl,Ext.refl _ _,aw,by simpa[kC] using ab,FrU.refl _ _ _,?_⟩;show _=_;rw[<- ak.out,List.drop_zero];simp only[List.take_zero,kC,Int.add_zero]
 case round =>
  clear ab;obtain⟨c,e,v,aI,rfl,x,R,h,n,l⟩:=hrel;have b8:=(n.cell (o:=0) s oA t).trans W;have ba:=(n.cell (o:=1) s oA t).trans a2;by_cases i:c<d.length
  ·obtain⟨m,g,rfl,r,ac⟩:=N (by intro j;rw[j]at i;simp at i);obtain⟨b0,⟨b1,b2,b6,b7,rfl,a5,a6,a7,a8⟩,P⟩:=ac.get c i;obtain⟨ad,ag,ae,_,o,V,af,a9,rfl⟩:=P.shape;injection o with o;simp only[Array.mk.injEq,jq,and_true]at o;obtain⟨rfl,rfl,rfl,rfl⟩:=o;have aW:=(h.bs.cell (p:=(A m (g+c*4) F)) r).trans a5;have aX:=(h.bs.cell (p:=(A m (g+c*4+1) F)) r).trans a6;have aY:=(h.bs.cell (p:=(A m (g+c*4+2) F)) r).trans a7;have aZ:=(h.bs.cell (p:=(A m (g+c*4+3) F)) r).trans a8;have aJ:=fE d c i;have aK:=fA d (c+1);have aL:=kU d[c];have aM:=kX (d.take c);have ay:=h.alloc (Zc #[U O ad,I ag,U O ae,J V af a9] 25);have K:=n.alloc (Zc #[U O ad,I ag,U O ae,J V af a9] 25);have b9:=(K.cell (o:=0) s oA t).trans W;have bb:=(K.cell (o:=1) s oA t).trans a2;have G:=ih c i ctx deep first e v _ _ _ P (aA.ext x.out) (x.out.lab aB) R.out aE aF ay oA oA
   have HP:Hid (f=match stF E p ctx deep X d[c] e (at_+kC (d.take c))with
     | .bad a3 b=>.bad a3 b
     | .ok q=>qK E p ctx deep (d.drop (c+1)) q.1 q.2):=l.out.trans (zwq E p ctx deep d c i e _)
   have S:Hid (∀q,stF E p ctx deep X d[c] e (at_+kC (d.take c))=.ok q->Ext deep e q.1/\q.2=at_+kC (d.take (c+1))/\q.1.length<=20):=fun q Q=>by
    obtain⟨av,aS,ax⟩:=zif E p _ _ _ _ _ _ _ (aN _ (jH i)) Q;exact⟨av,oA,ax R.out⟩
   clear a5 a6 a7 a8 ac P N l aJ aK aL aM ih;generalize aC:stF E p ctx deep X d[c] e (at_+kC (d.take c))=T at *;have ai:Hid (∀q,T=.ok q->Ext deep e q.1/\q.2=at_+kC (d.take (c+1))/\q.1.length<=20):=fun q Q=>S.out q Q
   clear aC S
   cases T with
   | bad au ar =>
    have am:Hid (f=.bad au ar):=HP.out;go_wp2_with (go_at_call 157;refine G.mono ?_;rintro j w2 ⟨rfl,aD⟩)
    exact⟨rfl,SR.mkBad am.out aD⟩
   | ok q =>
    have an:Hid (f=qK E p ctx deep (d.drop (c+1)) q.1 q.2):=HP.out;obtain⟨z,aa,B⟩:=ai.out q rfl;obtain⟨y,aO⟩:=q;dsimp only at z aa B G;subst aa;have aj:Hid (Ext deep L y):=x.out.trans z;have ah:Hid (y.length<=20):=B;clear z B;go_wp2_with (go_at_call 157;refine G.mono ?_;rintro j w2 ⟨rfl,u2,az,aH⟩);exact⟨⟨c+1,y,u2,oA,oC,aj,ah,az,K.trans aH,an.out⟩,by simp[intOf];omega⟩
  ·obtain rfl:c=d.length:=oA
   have ao:Hid (f=.ok (e,at_+kC d)):=by
    show _=_;rw[l.out,List.drop_eq_nil_of_le oA,jG oA];rfl
   rw[jG oA]at h;clear ih N l;go_wp2
   go_end0
   exact SR.mkOk ao.out h (aG.trans n)
end
theorem xT (L:List Loc):(kN L).length=L.length:=by unfold kN;rw[List.length_map]
theorem zwv (L:List Loc) (a:Nat):(kN L).take a=kN (L.take a):=by unfold kN;rw[List.map_take]
theorem zz9 {w:Zw} {B:Nat} {e:TypeId} {g b c:Nat} {a:Option Addr} {h:List Zv} (f:w.ownsRow B e g (J a b c) b h):b<=c:=by
 rcases f.2 with⟨d,p⟩|⟨k,i,j,d,l,m,n,o,_⟩
 ·omega
 ·injection d with _ _ e2;omega
section
variable {E:Env} {p:Pr} {w0:Zw} {D Kb kn:Nat} {kf:KF}
theorem ybm (e:Int) (g:ByteArray) (f:Int) (b:List Tree) (N:BlT (.node e g f b)) (M:zhz E p w0 D Kb kn kf b):zhy E p w0 D Kb kn kf (.node e g f b):=by
 intro ctx deep first L u v w at_ S aa ab a8 ad ay d a7 ah
 have au:=kc25;have R:∀t∈b,StT t:=by cases N with | mk d=>exact d
 rw[yB]at ah;have aw:=kX b;unfold Lies at S;obtain⟨a,h,rfl,az,Q⟩:=S;obtain⟨ua,uc,rfl,aB,aC⟩:=lexs.own_shape d.rl;rw[xT]at d |-;have aA:(Value.slice ua L.length uc).ownBlock≠Z w.heap.size:=fun c=>by have:=(d.rl.lt _ c).2;omega
 have ax:=d.lt
 have o:Hid (blF E p ctx (deep+1) (.node e g f b) L at_=match qK E p ctx (deep+1) b L (at_+1)with
   | .bad h B=>.bad h B
   | .ok q=>.ok (q.1.take L.length,q.2)):=by
  show _=_;unfold blF;rw[zqb E p ctx (deep+1) oA];cases qK E p ctx (deep+1) b L (at_+1)<;>rfl
 obtain⟨l,K⟩:∃l,blF E p ctx (deep+1) (.node e g f b) L at_=l:=⟨_,rfl⟩
 rw[K]at o |-;clear K;have x:=d.alloc (Zc #[U O e,I g,U O f,J a b.length h] 25);have ae:=(FrU.refl D (J ua L.length uc) w).alloc (Zc #[U O e,I g,U O f,J a b.length h] 25);have C:=x.begin a7 oA;have W:Hid (∀q,qK E p ctx (deep+1) b L (at_+1)=.ok q->Ext (deep+1) L q.1):=fun q ai=>(zhw E p b _ _ _ _ _ R ai).1
 have G:=fun a2 i=>M ctx (deep+1) L.length L (J ua L.length uc) a h a2 (at_+1) Q aa.enter ab a8 ad oA i oA oA
 generalize qK E p ctx (deep+1) b L (at_+1)=a3 at *;clear Q M R N
 cases a3 with
 | bad a6 a5 =>
  have m:Hid (l=.bad a6 a5):=o.out;go_enter func184,ntmps184
  go_wp2_with first
   | (go_at_call 81;refine C.mono ?_;rintro c w1 ⟨rfl,j⟩;have i:CS w0 w1 D Kb kn kf (kN L) (J ua L.length uc) (at_+1):=by { rw[j];exact x.setAt _ };have y:Q4 w.heap.size (U O e) (I g) (U O f) (J a b.length h) w1:=zml;clear j;obtain⟨an,ao,ap,ar⟩:=id y;have am:=i.c6)
   | (go_at_call 130;refine(G _ i).mono ?_;rintro c w2 ⟨rfl,ac⟩)
  exact⟨rfl,SR.mkBad m.out ac⟩
 | ok q =>
  obtain⟨r,z⟩:=q;have s:=W.out _ rfl;have m:Hid (l=.ok (L,z)):=o.out.trans (by show Res.ok (r.take L.length,z)=_;rw[s.take]);have ag:=s.len;have aj:=s.take;go_enter func184,ntmps184
  go_wp2_with first
   | (go_at_call 81;refine C.mono ?_;rintro c w1 ⟨rfl,j⟩;have i:CS w0 w1 D Kb kn kf (kN L) (J ua L.length uc) (at_+1):=by { rw[j];exact x.setAt _ };have y:Q4 w.heap.size (U O e) (I g) (U O f) (J a b.length h) w1:=zml;have af:FrU D (J ua L.length uc) (J ua L.length uc) w w1:=by { rw[j];exact ae.set _ _ (fun _ c=>c) };clear j;obtain⟨an,ao,ap,ar⟩:=id y;have am:=i.c6)
   | (go_at_call 130;refine(G _ i).mono ?_;rintro c w2 ⟨rfl,u2,k,P⟩;obtain⟨T,V,rfl,ak,aD⟩:=lexs.own_shape k.rl;have a9:=k;rw[xT]at k P ak;have aE:=k.c6;have aF:=k.fz 6;have av:r.length<=V:=zz9 (by have:=k.rl;rw[xT]at this;exact this))
  go_end0
  have hcut:=a9.cut (n:=L.length) (by rw[xT];exact ag);rw[zwv,aj]at hcut;exact SR.mkOk m.out hcut (FrU.set (u1:=J T r.length V) (af.trans P) 6 _ (fun B c=>by cases T<;>exact c))
end
end chk
namespace chk
open syn face
structure Tab (E:Env) (L:List Loc) (kf:ByteArray->Option FV) (vs:List VarD):Prop where
 ok:cO E
 lab:yF L
 hv:∀x,qL x->(xM kf vs x).map (fun v=>(v.label,v.size))=cY E L x
 hp:∀x,qL x->uK kf x=procF E x
section
variable {E:Env} {L:List Loc} {kf:ByteArray->Option FV} {vs:List VarD}
variable {b:ByteArray}
theorem Tab.lv (a:Tab E L kf vs) {v:VarD} (d:qL b) (c:xM kf vs b=Z v):Lab v.label/\0<=v.size:=by
 have:=a.hv b d;rw[c]at this;exact znm a.ok a.lab this.symm
theorem Tab.lp (a:Tab E L kf vs) {p:ProcD} (d:qL b) (c:uK kf b=Z p):(∀l∈p.params,Lab l)/\Lab p.writes/\Lab p.given:=by
 have:=a.hp b d;rw[c]at this;exact zkv a.ok this.symm
theorem Tab.agr (a:Tab E L kf vs) (ctx:Int):Agr E L ctx kf vs :=
 ya9 a.hv a.hp (fun e v b d=>a.lv b d) (fun e p b c=>⟨(a.lp b c).1,(a.lp b c).2.1⟩)
theorem zq3 (c:Tab E L kf vs) (ctx:Int) {f:Int} {r:Int} {g:List Tree} (u:PlT (.node f b r g)) (a:Int):(plF E L ctx (.node f b r g) a=match plP kf vs f b a (exL E L ctx g (a+1))with
  | .bad o n=>.bad o n
  | .ok q=>.ok (q.1.label,q.2.1,q.2.2))/\∀q,plP kf vs f b a (exL E L ctx g (a+1))=.ok q->Lab q.1.label/\Lab q.2.1:=by
 cases u with
 | nam e =>
  have h:=c.hv b e;have k:=fun v=>c.lv (v:=v) e
  have j:exL E L ctx [] (a+1)=.ok ([],a+1):=by simp only[exL]
  simp only[plF,plP,j];unfold yV;rw[jv rfl,<- h]
  cases l:xM kf vs b with
  | none=>exact⟨rfl,fun q c=>by cases c⟩
  | some v =>
   obtain⟨i,s⟩:=k v l;dsimp only[Option.map_some];by_cases d:v.size=0;·rw[jv d,jv (by simp[d])];exact⟨rfl,fun q c=>by cases c;exact⟨i,.inl rfl⟩⟩
   ·rw[ju d,ju oE]
    exact⟨rfl,fun q c=>by cases c⟩
 | item e w =>
  rename_i m;have h:=c.hv b e;have k:=fun v=>c.lv (v:=v) e
  have t:=fun q=>zec (ctx:=ctx) (alone:=X) (t:=m) (a:=a+1) (q:=q) c.ok c.lab
  simp only[plF,zci]
  cases j:exF E L ctx X m (a+1)with
  | bad o n=>exact⟨rfl,fun q c=>by cases c⟩
  | ok q =>
   have p:=t q j;simp only[plP];unfold yV;rw[ju oD,jv rfl,<- h]
   cases l:xM kf vs b with
   | none=>exact⟨rfl,fun q c=>by cases c⟩
   | some v =>
    obtain⟨i,s⟩:=k v l;dsimp only[Option.map_some];by_cases d:0<v.size;·rw[jv d,jv (by simp[d])];refine⟨?_,fun q c=>by cases c;exact⟨i,p⟩⟩;show Res.ok (v.label,jn 0 q.1,q.2)=Res.ok (v.label,q.1,q.2);rw[jn0 p]
    ·rw[ju d,ju oE];exact⟨rfl,fun q c=>by cases c⟩
section
variable (p:Pr) (ctx deep a:Int)
variable {d e:Int} {f:ByteArray}
theorem ycb (c:Tab E L kf vs) (g:Lab ctx) {first:Nat} (i:InvL L deep first) (f:ByteArray) (l:Bool) (b:Tree):stF E p ctx deep X (.node 7 f (bI l) [b]) L a=match exF E L ctx X b (a+1)with
  | .bad e d=>.bad e d
  | .ok q=>if((kN L).drop first).any (fun k=>eqS k.name f)=H then .bad 5 a else if 20<=L.length then .bad 1 a else if zA (bI l) [q.1,ctx]=X then .bad 7 a else .ok (L++[⟨f,bI l,deep⟩],q.2):=by
 unfold stF;rw[ju oD];unfold xL;rw[jv rfl,zci,i.any];exact zmj
theorem ycf (i:Tab E L kf vs) (o:Lab ctx) {g:List Tree} (s:PlT (.node d f e g)) (h:Tree):stF E p ctx deep X (.node 8 empty 0 [.node d f e g,h]) L a=match plP kf vs d f (a+1) (exL E L ctx g (a+1+1))with
  | .bad c b=>.bad c b
  | .ok q=>match exF E L ctx X h q.2.2 with
   | .bad c b=>.bad c b
   | .ok j=>if zA q.1.label [j.1,q.2.1,ctx]=X then .bad 7 a else .ok (L,j.2):=by
 unfold stF;rw[ju oD];unfold xL;rw[ju oD,jv rfl];obtain⟨k,l⟩:=zq3 i ctx s (a+1);dsimp only;rw[k]
 cases m:plP kf vs d f (a+1) (exL E L ctx g (a+1+1))with
 | bad c b=>rfl
 | ok q =>
  obtain⟨t,u⟩:=l q m;dsimp only
  cases n:exF E L ctx X h q.2.2 with
  | bad c b=>rfl
  | ok j =>
   have r:=zec i.ok i.lab n;dsimp only;simp only[zqn t r u o]
theorem ydb (d:Tab E L kf vs) {m:Int} {ks:List Tree} (e:qL f):stF E p ctx deep X (.node 9 empty 0 [.node 18 f m ks]) L a=match clP kf ctx H f (a+1) (exL E L ctx ks (a+1+1))with
  | .bad c b=>.bad c b
  | .ok q=>.ok (L,q.2):=by
 unfold stF;rw[ju oD];unfold xL;rw[ju oD,ju oD,jv rfl];dsimp only;rw[(d.agr ctx).call e];cases clP kf ctx H f (a+1) (exL E L ctx ks (a+1+1))<;>rfl
theorem ycd (c:Tab E L kf vs) (g:Lab ctx) (l:Bool) (b:Tree):stF E p ctx deep X (.node 12 empty (bI l) [b]) L a=match exF E L ctx X b (a+1)with
  | .bad e d=>.bad e d
  | .ok q=>if zA (bI l) [q.1,ctx]=X then .bad 7 a else .ok (L,q.2):=by
 unfold stF;rw[ju oD];unfold xL;rw[ju oD,ju oD,ju oD,jv rfl,zci];exact zmj
theorem ydd (i:Tab E L kf vs) (h:Lab ctx) (l:Bool) {b:List Tree} (n:PlT (.node d f e b)):stF E p ctx deep X (.node 13 empty (bI l) [.node d f e b]) L a=match plP kf vs d f (a+1) (exL E L ctx b (a+1+1))with
  | .bad g c=>.bad g c
  | .ok q=>if zA (bI l) [ctx]=X then .bad 7 a else if zA q.1.label [bI l,q.2.1,ctx]=X then .bad 7 a else .ok (L,q.2.2):=by
 unfold stF;rw[ju oD];unfold xL;rw[ju oD,ju oD,ju oD,ju oD,jv rfl];obtain⟨j,k⟩:=zq3 i ctx n (a+1);dsimp only;rw[j]
 cases m:plP kf vs d f (a+1) (exL E L ctx b (a+1+1))with
 | bad g c=>rfl
 | ok q =>
  obtain⟨o,r⟩:=k q m;dsimp only;simp only[zqm (dI l) h,zqn o (dI l) r h]
theorem yce (b:Tree):stF E p ctx deep X (.node 14 empty 0 [b]) L a=match exF E L ctx X b (a+1)with
  | .bad d c=>.bad d c
  | .ok q=>.bad 2 a:=by
 unfold stF;rw[ju oD];unfold xL;rw[ju oD,ju oD,ju oD,ju oD,ju oD,zci]
 cases e:exF E L ctx X b (a+1)with
 | bad d c=>rfl
 | ok q=>simp
theorem yat (e:Tab E L kf vs) (h:p.gives=H) (i:Lab p.given) (b:Tree):stF E p ctx deep H (.node 14 empty 0 [b]) L a=match exF E L ctx X b (a+1)with
  | .bad d c=>.bad d c
  | .ok q=>if zA p.given [q.1]=X then .bad 7 a else .ok (L,q.2):=by
 unfold stF;rw[ju oD];unfold xL;rw[ju oD,ju oD,ju oD,ju oD,ju oD,zci,h]
 cases g:exF E L ctx X b (a+1)with
 | bad d c=>rfl
 | ok q =>
  have f:=zec e.ok e.lab g;dsimp only;rw[show joinL [q.1] 0=q.1 from jn0 f,ju oC];simp only[zqm i f]
theorem ydc (g:d=10\/d=11) (i:ByteArray) (h:Int) (e:Tree) (f:List Tree):stF E p ctx deep X (.node d i h (e :: f)) L a=match exF E L ctx X e (a+1)with
  | .bad c b=>.bad c b
  | .ok q=>yG E p (jn ctx q.1) (deep+1) f L q.2:=by
 unfold stF;rw[jv g];dsimp only;cases exF E L ctx X e (a+1)<;>rfl
end
end
end chk
end Go.Proofs.YtbjppepjmcfkaaaGreatDoor
