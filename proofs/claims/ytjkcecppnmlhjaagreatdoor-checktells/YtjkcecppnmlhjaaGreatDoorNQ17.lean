/- What the program's statements, and its blocks, come to. -/
import Derived.Test.YtjkcecppnmlhjaaGreatDoorNQr
import Derived.Test.YtjkcecppnmlhjaaGreatDoorNQ16
open Go.Proofs.Tryz
open Go.Value renaming int → U, string → I, slice → J, bool → Y, agg → Za, pointer → Zp
open Go.IntKind renaming i64 → O
open Go.Obj renaming cells → Zc
open Go.Addr renaming mk → A
open Option renaming none → F, some → Z
open Bool renaming false → X, true → H
open Go renaming World → Zw, Value → Zv
set_option maxHeartbeats 4000000
set_option linter.unusedVariables false
set_option linter.unusedSimpArgs false
set_option maxRecDepth 100000
namespace Go.Proofs.YtjkcecppnmlhjaaGreatDoor
theorem oz17y157 {p:Prop} (j:p:=by
 have:=aI _ a;omega):p:=j
theorem oz17x152 {p:Prop} (j:p:=by
 refine oneH 7 fun h c=>?_
 go_simp;go_at_call 105;refine(fP at_ (bI d) [f,ctx] _ _ a2).mono ?_;rintro a ba (⟨N,rfl,rfl⟩|⟨N,rfl,rfl⟩)
 ·have aa:Hid (R=.ok (L,af)):=z.out.trans (ju (by rw[N];decide));clear N z;go_wp2;refine c.out _ _ a5 (fun e=>?_);clear c h e;refine wpAnyH_done oD ?_ _;go_wp2
  go_end0
  exact SR.mkOk aa.out K ao
 ·have aa:Hid (R=.bad 7 at_):=z.out.trans (jv N);clear N z;go_wp2
  exact⟨rfl,SR.mkBad aa.out K.bs⟩):p:=j
theorem oz17y158 {p:Prop} (M:p:=by
 have:=bH _ c;omega):p:=M
theorem oz17y160 {p:Prop} (x:p:=by
 have:=bN _ c;omega):p:=x
theorem oz17y159 {p:Prop} (x:p:=by
 have:=b9 _ c;omega):p:=x
theorem oz17y161 {p:Prop} (l:p:=by
 have:=aA _ b;omega):p:=l
theorem oz17y164 {p:Prop} (b:p:=by
 simp only[jy]at h;rw[h];exact i):p:=b
theorem oz17y163 {p:Prop} (b:p:=by
 simp only[jy]at c;subst c;exact i):p:=b
theorem oz17y162 {p:Prop} (b:p:=by
 simp only[jy]at c;subst c;exact hi):p:=b
theorem oz17y154 {p:Prop} (d:p:=by
 rw[k];exact Q4.other oA ⟨oB,oB,oB,oB⟩ _ _):p:=d
theorem oz17x153 {p:Prop} (e:p:=by
 cases l:exF E L ctx X d (a+1)with
 | bad g f=>rfl
 | ok b =>
  have j:=dB e.ok e.lab l;dsimp only;rw[show joinL [b.1] 0=b.1 from jn0 j]
  simp only[zzj (fH c) j i]):p:=e
theorem oz17y155 {p:Prop} (k:p:=by
 have:=aZ _ a;omega):p:=k
theorem oz17y156 {p:Prop} (M:p:=by
 have:=ce _ c;omega):p:=M
namespace chk
open Go.RowKit Go.Shelf
open syn face
structure FrU (D:Nat) (u u':Zv) (w w':Zw):Prop where
 size:w.heap.size<=w'.heap.size
 block:∀b,b<w.heap.size->b≠D->u.ownBlock≠Z b->w'.heap[b]?=w.heap[b]?
 own:∀b,u'.ownBlock=Z b->u.ownBlock=Z b\/w.heap.size<=b
section
variable {D:Nat} {u u1 u2:Zv} {w w1 w2:Zw}
theorem FrU.refl (D:Nat) (u:Zv) (w:Zw):FrU D u u w w:=⟨jE _,fun _ _ _ _=>rfl,fun _ a=>.inl a⟩
theorem FrU.trans (b:FrU D u u1 w w1) (g:FrU D u1 u2 w1 w2):FrU D u u2 w w2:=by
 refine⟨jp b.size g.size,fun a e f h=>?_,fun a d=>?_⟩
 ·refine(g.block a (jo e b.size) f (fun d=>?_)).trans (b.block a e f h);rcases b.own a d with c | c
  ·exact h c
  ·omega
 ·rcases g.own a d with c | c
  ·exact b.own a c
  ·exact .inr (jp b.size c)
theorem FrU.of (b:Fr D w w1) (u:Zv):FrU D u u w w1:=⟨b.size,fun c d e _=>b.block c d (fun a=>e (by cases a;rfl)),fun _ a=>.inl a⟩
theorem FrU.below (a:Below w.heap.size w w1) (D:Nat) (u:Zv):FrU D u u w w1:=⟨a.size,fun b d _ _=>a.block b d,fun _ c=>.inl c⟩
theorem FrU.alloc (a:FrU D u u1 w w1) (o:Obj):FrU D u u1 w (w1.alloc o):=a.trans (.below (bal o) D u1)
theorem FrU.drew (a:FrU D u u1 w w1):FrU D u u1 w w1.drew:=a.trans (.below (Below.refl _ _).drew D u1)
theorem FrU.cell {b o:Nat} (c:FrU D u u1 w w1) (d:b<w.heap.size) (e:b≠D) (f:u.ownBlock≠Z b):w1.cell? (A b o F)=w.cell? (A b o F):=jM (a:=(A b o F)) (c.block b d e f)
theorem FrU.q4 {N:Nat} {f g h i:Zv} (b:FrU D u u1 w w1) (a:Q4 N f g h i w) (d:N≠D) (e:u.ownBlock≠Z N):Q4 N f g h i w1 :=
 have c:=jR w (A N 0 F) a.1
 ⟨(b.cell c d e).trans a.1,(b.cell c d e).trans a.2.1,(b.cell c d e).trans a.2.2.1,(b.cell c d e).trans a.2.2.2⟩
theorem FrU.set (c:FrU D u u1 w w1) (o:Nat) (v:Zv) (e:∀a,u2.ownBlock=Z a->u1.ownBlock=Z a):FrU D u u2 w (w1.setCell (A D o F) v) :=
 c.trans ⟨by rw[jQ];exact jE _,fun a _ d _=>jP w1 (A D o F) v a d,fun a b=>.inl (e a b)⟩
end
def SR (w0:Zw) (D Kb kn:Nat) (kf:KF) (u:Zv) (w:Zw) (r:Res (List Loc × Int)) (e:Ending) (w':Zw):Prop:=match r with
 | .bad c b=>e=.panicked (qI c b)/\Below w0.heap.size w0 w'
 | .ok q=>e=.returned (.tuple #[])/\∃a,CS w0 w' D Kb kn kf (kJ q.1) a q.2/\FrU D u a w w'
section
variable (E:Env) (p:Pr) (w0:Zw) (D Kb kn:Nat) (kf:KF)
def fO (t:Tree):Prop:=∀(ctx deep:Int) (first:Nat) (L:List Loc) (u v:Zv) (w:Zw) (at_:Int),Lies (·<w0.heap.size) w0 t v->InvL L deep first->qN L->L.length<=20->Lab ctx->1<=deep->CS w0 w D Kb kn kf (kJ L) u at_->0<=at_->at_+kC t<=1000000 ->
 Calls prog 104 #[Zp (Z (A D 0 F)),v,Za #[U O ctx,U O (first:Int)]] w (SR w0 D Kb kn kf u w (stF E p ctx deep X t L at_))
def zgw (ks:List Tree):Prop:=∀(ctx deep:Int) (first:Nat) (L:List Loc) (u:Zv) (a:Option Addr) (c:Nat) (w:Zw) (at_:Int),(ks≠[]->∃g o,a=Z (A g o F)/\g<w0.heap.size/\kQ (·<w0.heap.size) w0 ks g o)->InvL L deep first->qN L->L.length<=20->Lab ctx->1<=deep->CS w0 w D Kb kn kf (kJ L) u at_->0<=at_->at_+kA ks<=1000000 ->
 Calls prog 89 #[Zp (Z (A D 0 F)),J a ks.length c,Za #[U O ctx,U O (first:Int)]] w (SR w0 D Kb kn kf u w (qK E p ctx deep ks L at_))
def zgv (t:Tree):Prop:=∀(ctx deep:Int) (first:Nat) (L:List Loc) (u v:Zv) (w:Zw) (at_:Int),Lies (·<w0.heap.size) w0 t v->InvL L deep first->qN L->L.length<=20->Lab ctx->1<=deep->CS w0 w D Kb kn kf (kJ L) u at_->0<=at_->at_+kC t<=1000000 ->
 Calls prog 129 #[Zp (Z (A D 0 F)),v,U O ctx] w (SR w0 D Kb kn kf u w (blF E p ctx (deep+1) t L at_))
end
section
variable {E:Env} {p:Pr} {w0:Zw} {D Kb kn:Nat} {kf:KF} {u:Zv}
theorem SR.mkBad {w w':Zw} {c:Res (List Loc × Int)} {b a:Int} (d:c=.bad b a) (e:Below w0.heap.size w0 w'):SR w0 D Kb kn kf u w c (.panicked (qI b a)) w':=by rw[d];exact⟨rfl,e⟩
theorem SR.mkOk {w w':Zw} {c:Res (List Loc × Int)} {L:List Loc} {a:Int} {b:Zv} (d:c=.ok (L,a)) (e:CS w0 w' D Kb kn kf (kJ L) b a) (f:FrU D u b w w'):SR w0 D Kb kn kf u w c (.returned (.tuple #[])) w':=by rw[d];exact⟨rfl,b,e,f⟩
theorem zu1 (E:Env) (p:Pr) (ctx deep:Int) (e:List Tree) (d:Nat) (f:d<e.length) (L:List Loc) (a:Int):qK E p ctx deep (e.drop d) L a=match stF E p ctx deep X e[d] L a with
  | .bad c b=>.bad c b
  | .ok q=>qK E p ctx deep (e.drop (d+1)) q.1 q.2:=by
 rw[List.drop_eq_getElem_cons f];rfl
theorem zpq (d:List Tree) (aN:∀k∈d,StT k) (ih:∀c (aI:c<d.length),fO E p w0 D Kb kn kf d[c]):zgw E p w0 D Kb kn kf d:=by
 intro ctx deep first L u a a3 w at_ M aA aB aw aE aF B aR aV
 have aQ:=kc25;have aP:=kc126;have aU:=vQ d;obtain⟨R,K⟩:∃R,qK E p ctx deep d L at_=R:=⟨_,rfl⟩
 rw[K];have ak:Hid (qK E p ctx deep d L at_=R):=K;clear K;have s:u.ownBlock≠Z w.heap.size:=fun j=>by have:=(B.rl.lt _ j).2;omega
 have aT:=B.lt;have ab:=B.alloc (Zc #[U O ctx,U O (first:Int)] 126);have aG:=(FrU.refl D u w).alloc (Zc #[U O ctx,U O (first:Int)] 126);have W:(w.alloc (Zc #[U O ctx,U O (first:Int)] 126)).cell? (A w.heap.size 0 F)=Z (U O ctx):=oB;have a2:(w.alloc (Zc #[U O ctx,U O (first:Int)] 126)).cell? (A w.heap.size 1 F)=Z (U O (first:Int)):=oB;have r:w.heap.size<(w.alloc (Zc #[U O ctx,U O (first:Int)] 126)).heap.size:=oB;go_enter func89,ntmps89;go_wp2;generalize w.alloc (Zc #[U O ctx,U O (first:Int)] 126)=ap at *;go_loopw [10] (fun k wr=>∃(c:Nat) (f:List Loc) (t:Zv),c<=d.length/\k=U O c/\Hid (Ext deep L f)/\Hid (f.length<=20)/\CS w0 wr D Kb kn kf (kJ f) t (at_+kA (d.take c))/\FrU D u t ap wr/\Hid (R=qK E p ctx deep (d.drop c) f (at_+kA (d.take c)))) (fun k _=>d.length - (intOf k).toNat)
 case atStart =>
  refine⟨0,L,u,jz _,rfl,Ext.refl _ _,aw,by simpa[kA] using ab,FrU.refl _ _ _,?_⟩;show _=_;rw[<- ak.out,List.drop_zero];simp only[List.take_zero,kA,Int.add_zero]
 case round =>
  clear ab;obtain⟨c,f,t,aI,rfl,v,Q,h,m,l⟩:=hrel;have b1:=(m.cell (o:=0) r oA s).trans W;have b6:=(m.cell (o:=1) r oA s).trans a2;by_cases i:c<d.length
  ·obtain⟨g,o,rfl,q,ac⟩:=M (by intro j;rw[j]at i;simp at i);obtain⟨aW,⟨aX,aY,aZ,b0,rfl,a5,a6,a7,a8⟩,N⟩:=ac.get c i;obtain⟨ad,ag,ae,_,n,V,af,a9,rfl⟩:=N.shape;injection n with n;simp only[Array.mk.injEq,jq,and_true]at n;obtain⟨rfl,rfl,rfl,rfl⟩:=n;have k0:=(h.bs.cell (p:=(A g (o+c*4) F)) q).trans a5;have k1:=(h.bs.cell (p:=(A g (o+c*4+1) F)) q).trans a6;have k2:=(h.bs.cell (p:=(A g (o+c*4+2) F)) q).trans a7;have k3:=(h.bs.cell (p:=(A g (o+c*4+3) F)) q).trans a8;have aJ:=xE d c i;have aK:=xY d (c+1);have aL:=qU d[c];have aM:=kR (d.take c);have ay:=h.alloc (Zc #[U O ad,I ag,U O ae,J V af a9] 25);have G:=m.alloc (Zc #[U O ad,I ag,U O ae,J V af a9] 25);have b2:=(G.cell (o:=0) r oA s).trans W;have b7:=(G.cell (o:=1) r oA s).trans a2;have C:=ih c i ctx deep first f t _ _ _ N (aA.ext v.out) (v.out.lab aB) Q.out aE aF ay oA oA
   have HP:Hid (R=match stF E p ctx deep X d[c] f (at_+kA (d.take c))with
     | .bad a3 b=>.bad a3 b
     | .ok e=>qK E p ctx deep (d.drop (c+1)) e.1 e.2):=l.out.trans (zu1 E p ctx deep d c i f _)
   have S:Hid (∀e,stF E p ctx deep X d[c] f (at_+kA (d.take c))=.ok e->Ext deep f e.1/\e.2=at_+kA (d.take (c+1))/\e.1.length<=20):=fun e P=>by
    obtain⟨av,aS,ax⟩:=zdx E p _ _ _ _ _ _ _ (aN _ (jH i)) P;exact⟨av,oA,ax Q.out⟩
   clear a5 a6 a7 a8 ac N M l aJ aK aL aM ih;generalize aC:stF E p ctx deep X d[c] f (at_+kA (d.take c))=T at *;have ai:Hid (∀e,T=.ok e->Ext deep f e.1/\e.2=at_+kA (d.take (c+1))/\e.1.length<=20):=fun e P=>S.out e P
   clear aC S
   cases T with
   | bad au ar =>
    have am:Hid (R=.bad au ar):=HP.out;go_wp2_with (go_at_call 104;refine C.mono ?_;rintro j w2 ⟨rfl,aD⟩)
    exact⟨rfl,SR.mkBad am.out aD⟩
   | ok e =>
    have an:Hid (R=qK E p ctx deep (d.drop (c+1)) e.1 e.2):=HP.out;obtain⟨y,aa,z⟩:=ai.out e rfl;obtain⟨x,aO⟩:=e;dsimp only at y aa z C;subst aa;have aj:Hid (Ext deep L x):=v.out.trans y;have ah:Hid (x.length<=20):=z;clear y z;go_wp2_with (go_at_call 104;refine C.mono ?_;rintro j w2 ⟨rfl,u2,az,aH⟩);exact⟨⟨c+1,x,u2,oA,oB,aj,ah,az,G.trans aH,an.out⟩,by simp[intOf];omega⟩
  ·obtain rfl:c=d.length:=oA
   have ao:Hid (R=.ok (f,at_+kA d)):=by
    show _=_;rw[l.out,List.drop_eq_nil_of_le oA,jG oA];rfl
   rw[jG oA]at h;clear ih M l;go_wp2
   go_end0
   exact SR.mkOk ao.out h (aG.trans m)
end
theorem xO (L:List Loc):(kJ L).length=L.length:=by unfold kJ;rw[List.length_map]
theorem zu4 (L:List Loc) (a:Nat):(kJ L).take a=kJ (L.take a):=by unfold kJ;rw[List.map_take]
theorem zyf {w:Zw} {e:Nat} {f:TypeId} {i b c:Nat} {a:Option Addr} {j:List Zv} (h:w.ownsRow e f i (J a b c) b j):b<=c:=by
 rcases h.2 with⟨d,q⟩|⟨g,k,l,d,m,n,o,p,_⟩
 ·omega
 ·injection d with _ _ e2;omega
section
variable {E:Env} {p:Pr} {w0:Zw} {D Kb kn:Nat} {kf:KF}
theorem zzt (e:Int) (h:ByteArray) (f:Int) (b:List Tree) (P:BlT (.node e h f b)) (N:zgw E p w0 D Kb kn kf b):zgv E p w0 D Kb kn kf (.node e h f b):=by
 intro ctx deep first L u v w at_ V ac ad aa af aA d a9 aj
 have aw:=kc25;have T:∀t∈b,StT t:=by cases P with | mk d=>exact d
 rw[qT]at aj;have ay:=kR b;unfold Lies at V;obtain⟨a,i,rfl,aB,S⟩:=V;obtain⟨l,m,rfl,aD,aE⟩:=lexs.own_shape d.rl;rw[xO]at d |-;have aC:(Value.slice l L.length m).ownBlock≠Z w.heap.size:=fun c=>by have:=(d.rl.lt _ c).2;omega
 have az:=d.lt
 have r:Hid (blF E p ctx (deep+1) (.node e h f b) L at_=match qK E p ctx (deep+1) b L (at_+1)with
   | .bad i C=>.bad i C
   | .ok g=>.ok (g.1.take L.length,g.2)):=by
  show _=_;unfold blF;rw[zo6 E p ctx (deep+1) oA];cases qK E p ctx (deep+1) b L (at_+1)<;>rfl
 obtain⟨R,M⟩:∃R,blF E p ctx (deep+1) (.node e h f b) L at_=R:=⟨_,rfl⟩
 rw[M]at r |-;clear M;have y:=d.alloc (Zc #[U O e,I h,U O f,J a b.length i] 25);have ag:=(FrU.refl D (J l L.length m) w).alloc (Zc #[U O e,I h,U O f,J a b.length i] 25);have G:=y.begin a9 oA;have a3:Hid (∀g,qK E p ctx (deep+1) b L (at_+1)=.ok g->Ext (deep+1) L g.1):=fun g ak=>(zgt E p b _ _ _ _ _ T ak).1
 have K:=fun a5 j=>N ctx (deep+1) L.length L (J l L.length m) a i a5 (at_+1) S ac.enter ad aa af oA j oA oA
 generalize qK E p ctx (deep+1) b L (at_+1)=a6 at *;clear S N T P
 cases a6 with
 | bad a8 a7 =>
  have q:Hid (R=.bad a8 a7):=r.out;go_enter func129,ntmps129
  go_wp2_with first
   | (go_at_call 49;refine G.mono ?_;rintro c w1 ⟨rfl,k⟩;have j:CS w0 w1 D Kb kn kf (kJ L) (J l L.length m) (at_+1):=by { rw[k];exact y.setAt _ };have z:Q4 w.heap.size (U O e) (I h) (U O f) (J a b.length i) w1:=oz17y154;clear k;obtain⟨ap,ar,au,av⟩:=id z;have ao:=j.c6)
   | (go_at_call 89;refine(K _ j).mono ?_;rintro c w2 ⟨rfl,ae⟩)
  exact⟨rfl,SR.mkBad q.out ae⟩
 | ok g =>
  obtain⟨s,B⟩:=g;have x:=a3.out _ rfl;have q:Hid (R=.ok (L,B)):=r.out.trans (by show Res.ok (s.take L.length,B)=_;rw[x.take]);have ai:=x.len;have am:=x.take;go_enter func129,ntmps129
  go_wp2_with first
   | (go_at_call 49;refine G.mono ?_;rintro c w1 ⟨rfl,k⟩;have j:CS w0 w1 D Kb kn kf (kJ L) (J l L.length m) (at_+1):=by { rw[k];exact y.setAt _ };have z:Q4 w.heap.size (U O e) (I h) (U O f) (J a b.length i) w1:=oz17y154;have ah:FrU D (J l L.length m) (J l L.length m) w w1:=by { rw[k];exact ag.set _ _ (fun _ c=>c) };clear k;obtain⟨ap,ar,au,av⟩:=id z;have ao:=j.c6)
   | (go_at_call 89;refine(K _ j).mono ?_;rintro c w2 ⟨rfl,u2,o,Q⟩;obtain⟨W,a2,rfl,an,aF⟩:=lexs.own_shape o.rl;have ab:=o;rw[xO]at o Q an;have aG:=o.c6;have aH:=o.fz 6;have ax:s.length<=a2:=zyf (by have:=o.rl;rw[xO]at this;exact this))
  go_end0
  have hcut:=ab.cut (n:=L.length) (by rw[xO];exact ai);rw[zu4,am]at hcut;exact SR.mkOk q.out hcut (FrU.set (u1:=J W s.length a2) (ah.trans Q) 6 _ (fun C c=>by cases W<;>exact c))
end
end chk
namespace chk
open syn face
structure Tab (E:Env) (L:List Loc) (kf:ByteArray->Option FV) (vs:List VarD):Prop where
 ok:yY E
 lab:qN L
 hv:∀x,kT x->(xD kf vs x).map (fun v=>(v.label,v.size))=zP E L x
 hp:∀x,kT x->vZ kf x=procF E x
section
variable {E:Env} {L:List Loc} {kf:ByteArray->Option FV} {vs:List VarD}
variable {b:ByteArray}
theorem Tab.lv (a:Tab E L kf vs) {v:VarD} (d:kT b) (c:xD kf vs b=Z v):Lab v.label/\0<=v.size:=by
 have:=a.hv b d;rw[c]at this;exact zmq a.ok a.lab this.symm
theorem Tab.lp (a:Tab E L kf vs) {p:ProcD} (d:kT b) (c:vZ kf b=Z p):(∀l∈p.params,Lab l)/\Lab p.writes/\Lab p.given:=by
 have:=a.hp b d;rw[c]at this;exact zi9 a.ok this.symm
theorem Tab.agr (a:Tab E L kf vs) (ctx:Int):Agr E L ctx kf vs :=
 zy9 a.hv a.hp (fun e v b d=>a.lv b d) (fun e p b c=>⟨(a.lp b c).1,(a.lp b c).2.1⟩)
theorem zpz (d:Tab E L kf vs) (ctx:Int) {g:Int} {r:Int} {h:List Tree} (u:PlT (.node g b r h)) (a:Int):(plF E L ctx (.node g b r h) a=match plP kf vs g b a (exL E L ctx h (a+1))with
  | .bad p o=>.bad p o
  | .ok c=>.ok (c.1.label,c.2.1,c.2.2))/\∀c,plP kf vs g b a (exL E L ctx h (a+1))=.ok c->Lab c.1.label/\Lab c.2.1:=by
 cases u with
 | nam f =>
  have i:=d.hv b f;have l:=fun v=>d.lv (v:=v) f
  have k:exL E L ctx [] (a+1)=.ok ([],a+1):=by simp only[exL]
  simp only[plF,plP,k];unfold zS;rw[jv rfl,<- i]
  cases m:xD kf vs b with
  | none=>exact⟨rfl,fun c d=>by cases d⟩
  | some v =>
   obtain⟨j,s⟩:=l v m;dsimp only[Option.map_some];by_cases e:v.size=0;·rw[jv e,jv (by simp[e])];exact⟨rfl,fun c d=>by cases d;exact⟨j,.inl rfl⟩⟩
   ·rw[ju e,ju oE]
    exact⟨rfl,fun c d=>by cases d⟩
 | item f w =>
  rename_i n;have i:=d.hv b f;have l:=fun v=>d.lv (v:=v) f
  have t:=fun c=>dB (ctx:=ctx) (alone:=X) (t:=n) (a:=a+1) (q:=c) d.ok d.lab
  simp only[plF,fD]
  cases k:exF E L ctx X n (a+1)with
  | bad p o=>exact⟨rfl,fun c d=>by cases d⟩
  | ok c =>
   have q:=t c k;simp only[plP];unfold zS;rw[ju oC,jv rfl,<- i]
   cases m:xD kf vs b with
   | none=>exact⟨rfl,fun c d=>by cases d⟩
   | some v =>
    obtain⟨j,s⟩:=l v m;dsimp only[Option.map_some];by_cases e:0<v.size;·rw[jv e,jv (by simp[e])];refine⟨?_,fun c d=>by cases d;exact⟨j,q⟩⟩;show Res.ok (v.label,jn 0 c.1,c.2)=Res.ok (v.label,c.1,c.2);rw[jn0 q]
    ·rw[ju e,ju oE];exact⟨rfl,fun c d=>by cases d⟩
section
variable (p:Pr) (ctx deep a:Int)
variable {d e:Int} {f:ByteArray}
theorem yaj (e:Tab E L kf vs) (i:Lab ctx) {first:Nat} (k:InvL L deep first) (h:ByteArray) (c:Bool) (d:Tree):stF E p ctx deep X (.node 7 h (bI c) [d]) L a=match exF E L ctx X d (a+1)with
  | .bad g f=>.bad g f
  | .ok b=>if((kJ L).drop first).any (fun o=>eqS o.name h)=H then .bad 5 a else if 20<=L.length then .bad 1 a else if zE (bI c) [b.1,ctx]=X then .bad 7 a else .ok (L++[⟨h,bI c,deep⟩],b.2):=by
 unfold stF;rw[ju oC];unfold xC;rw[jv rfl,fD,k.any];exact oz17x153
theorem yam (j:Tab E L kf vs) (q:Lab ctx) {h:List Tree} (s:PlT (.node d f e h)) (i:Tree):stF E p ctx deep X (.node 8 empty 0 [.node d f e h,i]) L a=match plP kf vs d f (a+1) (exL E L ctx h (a+1+1))with
  | .bad g c=>.bad g c
  | .ok b=>match exF E L ctx X i b.2.2 with
   | .bad g c=>.bad g c
   | .ok k=>if zE b.1.label [k.1,b.2.1,ctx]=X then .bad 7 a else .ok (L,k.2):=by
 unfold stF;rw[ju oC];unfold xC;rw[ju oC,jv rfl];obtain⟨l,m⟩:=zpz j ctx s (a+1);dsimp only;rw[l]
 cases n:plP kf vs d f (a+1) (exL E L ctx h (a+1+1))with
 | bad g c=>rfl
 | ok b =>
  obtain⟨t,u⟩:=m b n;dsimp only
  cases o:exF E L ctx X i b.2.2 with
  | bad g c=>rfl
  | ok k =>
   have r:=dB j.ok j.lab o;dsimp only;simp only[zph t r u q]
theorem ybo (d:Tab E L kf vs) {m:Int} {ks:List Tree} (e:kT f):stF E p ctx deep X (.node 9 empty 0 [.node 18 f m ks]) L a=match clP kf ctx H f (a+1) (exL E L ctx ks (a+1+1))with
  | .bad c b=>.bad c b
  | .ok q=>.ok (L,q.2):=by
 unfold stF;rw[ju oC];unfold xC;rw[ju oC,ju oC,jv rfl];dsimp only;rw[(d.agr ctx).call e];cases clP kf ctx H f (a+1) (exL E L ctx ks (a+1+1))<;>rfl
theorem yak (e:Tab E L kf vs) (i:Lab ctx) (c:Bool) (d:Tree):stF E p ctx deep X (.node 12 empty (bI c) [d]) L a=match exF E L ctx X d (a+1)with
  | .bad g f=>.bad g f
  | .ok b=>if zE (bI c) [b.1,ctx]=X then .bad 7 a else .ok (L,b.2):=by
 unfold stF;rw[ju oC];unfold xC;rw[ju oC,ju oC,ju oC,jv rfl,fD];exact oz17x153
theorem ybq (k:Tab E L kf vs) (j:Lab ctx) (b:Bool) {g:List Tree} (o:PlT (.node d f e g)):stF E p ctx deep X (.node 13 empty (bI b) [.node d f e g]) L a=match plP kf vs d f (a+1) (exL E L ctx g (a+1+1))with
  | .bad i h=>.bad i h
  | .ok c=>if zE (bI b) [ctx]=X then .bad 7 a else if zE c.1.label [bI b,c.2.1,ctx]=X then .bad 7 a else .ok (L,c.2.2):=by
 unfold stF;rw[ju oC];unfold xC;rw[ju oC,ju oC,ju oC,ju oC,jv rfl];obtain⟨l,m⟩:=zpz k ctx o (a+1);dsimp only;rw[l]
 cases n:plP kf vs d f (a+1) (exL E L ctx g (a+1+1))with
 | bad i h=>rfl
 | ok c =>
  obtain⟨q,r⟩:=m c n;dsimp only;simp only[zpg (fH b) j,zph q (fH b) r j]
theorem yal (b:Tree):stF E p ctx deep X (.node 14 empty 0 [b]) L a=match exF E L ctx X b (a+1)with
  | .bad d c=>.bad d c
  | .ok e=>.bad 2 a:=by
 unfold stF;rw[ju oC];unfold xC;rw[ju oC,ju oC,ju oC,ju oC,ju oC,fD]
 cases f:exF E L ctx X b (a+1)with
 | bad d c=>rfl
 | ok e=>simp
theorem zy3 (f:Tab E L kf vs) (i:p.gives=H) (j:Lab p.given) (c:Tree):stF E p ctx deep H (.node 14 empty 0 [c]) L a=match exF E L ctx X c (a+1)with
  | .bad e d=>.bad e d
  | .ok b=>if zE p.given [b.1]=X then .bad 7 a else .ok (L,b.2):=by
 unfold stF;rw[ju oC];unfold xC;rw[ju oC,ju oC,ju oC,ju oC,ju oC,fD,i]
 cases h:exF E L ctx X c (a+1)with
 | bad e d=>rfl
 | ok b =>
  have g:=dB f.ok f.lab h;dsimp only;rw[show joinL [b.1] 0=b.1 from jn0 g,ju oB];simp only[zpg j g]
theorem ybp (g:d=10\/d=11) (i:ByteArray) (h:Int) (e:Tree) (f:List Tree):stF E p ctx deep X (.node d i h (e :: f)) L a=match exF E L ctx X e (a+1)with
  | .bad c b=>.bad c b
  | .ok q=>zX E p (jn ctx q.1) (deep+1) f L q.2:=by
 unfold stF;rw[jv g];dsimp only;cases exF E L ctx X e (a+1)<;>rfl
end
end
end chk
namespace chk
open Go.RowKit Go.Shelf
open syn face
def HS (N g o:Nat) (n0 n1 n2 n3 k0 k1 k2 k3 s0 s1:Zv) (a:Zw):Prop :=
 a.cell? (A N 0 F)=Z n0/\a.cell? (A N 1 F)=Z n1/\a.cell? (A N 2 F)=Z n2/\a.cell? (A N 3 F)=Z n3 /\
 a.cell? (A g o F)=Z k0/\a.cell? (A g (o+1) F)=Z k1/\a.cell? (A g (o+2) F)=Z k2/\a.cell? (A g (o+3) F)=Z k3 /\
 a.cell? (A (N+1) 0 F)=Z s0/\a.cell? (A (N+1) 1 F)=Z s1
theorem gO {w:Zw} {l:Nat} {r:Int} {t:ByteArray} {s:Int} {c:List Tree} {v:Zv} (n:Lies (·<l) w (.node r t s c) v) (E:c≠[]) : ∃g o m,v=Za #[U O r,I t,U O s,J (Z (A g o F)) c.length m]/\g<l/\c.length<=4611686018427387904/\∀b (p:b<c.length),∃h k i d j e,w.cell? (A g (o+b*4) F)=Z (U O h)/\w.cell? (A g (o+b*4+1) F)=Z (I k)/\w.cell? (A g (o+b*4+2) F)=Z (U O i)/\w.cell? (A g (o+b*4+3) F)=Z (J d j e)/\Lies (·<l) w c[b] (Za #[U O h,I k,U O i,J d j e]):=by
 unfold Lies at n;obtain⟨a,m,rfl,G,D⟩:=n;obtain⟨g,o,rfl,C,B⟩:=D E;refine⟨g,o,m,rfl,C,oA,fun b p=>?_⟩;obtain⟨K,⟨L,M,N,P,rfl,u,x,y,z⟩,q⟩:=B.get b p;obtain⟨h,k,i,_,f,d,j,e,rfl⟩:=q.shape;injection f with f;simp only[Array.mk.injEq,jq,and_true]at f;obtain⟨rfl,rfl,rfl,rfl⟩:=f;exact⟨h,k,i,d,j,e,u,x,y,z,q⟩
section
variable {N g o:Nat} {n0 n1 n2 n3 k0 k1 k2 k3 s0 s1:Zv} {w0 w w':Zw}
theorem HS.new {w0 w:Zw} (a:Below w0.heap.size w0 ((w.alloc (Zc #[n0,n1,n2,n3] 25)).alloc (Zc #[s0,s1] 126))) (b:g<w0.heap.size) (c:w0.cell? (A g o F)=Z k0) (d:w0.cell? (A g (o+1) F)=Z k1) (e:w0.cell? (A g (o+2) F)=Z k2) (f:w0.cell? (A g (o+3) F)=Z k3) : HS w.heap.size g o n0 n1 n2 n3 k0 k1 k2 k3 s0 s1 ((w.alloc (Zc #[n0,n1,n2,n3] 25)).alloc (Zc #[s0,s1] 126)):=by
 refine⟨oB,oB,oB,oB,(a.cell (p:=(A g o F)) b).trans c,(a.cell (p:=(A g (o+1) F)) b).trans d,(a.cell (p:=(A g (o+2) F)) b).trans e,(a.cell (p:=(A g (o+3) F)) b).trans f,?_,?_⟩;·exact xF _ #[s0,s1] _ (w.heap.size+1) oB 0 s0 rfl
 ·exact xF _ #[s0,s1] _ (w.heap.size+1) oB 1 s1 rfl
theorem HS.setD {D:Nat} (h:HS N g o n0 n1 n2 n3 k0 k1 k2 k3 s0 s1 w) (i:N≠D) (j:N+1≠D) (k:g≠D) (c:Nat) (v:Zv):HS N g o n0 n1 n2 n3 k0 k1 k2 k3 s0 s1 (w.setCell (A D c F) v):=by
 have d:∀b,(w.setCell (A D c F) v).cell? (A N b F)=w.cell? (A N b F):=fun b=>jM (a:=(A N b F)) (jP w (A D c F) v N i)
 have f:∀b,(w.setCell (A D c F) v).cell? (A (N+1) b F)=w.cell? (A (N+1) b F):=fun b=>jM (a:=(A (N+1) b F)) (jP w (A D c F) v (N+1) j)
 have e:∀b,(w.setCell (A D c F) v).cell? (A g b F)=w.cell? (A g b F):=fun b=>jM (a:=(A g b F)) (jP w (A D c F) v g k)
 unfold HS;rw[d,d,d,d,f,f,e,e,e,e];exact h
theorem HS.fr {D:Nat} {u s:Zv} (d:HS N g o n0 n1 n2 n3 k0 k1 k2 k3 s0 s1 w) (f:FrU D u s w w') (i:Below w0.heap.size w0 w) (j:Below w0.heap.size w0 w') (h:g<w0.heap.size) (k:N≠D) (l:N+1≠D) (m:u.ownBlock≠Z N) (n:u.ownBlock≠Z (N+1)):HS N g o n0 n1 n2 n3 k0 k1 k2 k3 s0 s1 w':=by
 have q:=jR w (A N 0 F) d.1;have r:=jR w (A (N+1) 0 F) d.2.2.2.2.2.2.2.2.1;have b:∀a,w'.cell? (A N a F)=w.cell? (A N a F):=fun a=>f.cell q k m
 have e:∀a,w'.cell? (A (N+1) a F)=w.cell? (A (N+1) a F):=fun a=>f.cell r l n
 have c:∀a,w'.cell? (A g a F)=w.cell? (A g a F):=fun a=>(j.cell (p:=(A g a F)) h).trans (i.cell (p:=(A g a F)) h).symm
 unfold HS;rw[b,b,b,b,e,e,c,c,c,c];exact d
end
theorem zbe (a:Bool):bits BinOp.and IntKind.i64 (bI a) 1=bI a:=by cases a<;>decide
theorem ze5 (w:Zw) (b c:Int):IntsIn (w.alloc (Zc #[U O b,U O c] 3)) (J (Z (A w.heap.size 0 F)) 2 2) [b,c] :=
 ⟨_,_,rfl,oB,fun _=>⟨_,_,rfl,fun a hi=>by
  have d:a<2:=hi
  match a,d with
  | 0,_=>simp
  | 1,_=>simp⟩⟩
theorem zig (w:Zw) (b c d:Int):IntsIn (w.alloc (Zc #[U O b,U O c,U O d] 3)) (J (Z (A w.heap.size 0 F)) 3 3) [b,c,d] :=
 ⟨_,_,rfl,oB,fun _=>⟨_,_,rfl,fun a hi=>by
  have e:a<3:=hi
  match a,e with
  | 0,_=>simp
  | 1,_=>simp
  | 2,_=>simp⟩⟩
section
variable {E:Env} {p:Pr} {w0:Zw} {D Kb kn:Nat} {kf:KF}
theorem zss (c:ByteArray) (b:Bool) (a:Tree) (aI:ExT a) (aA:∀L,qN L->Tab E L kf (kJ L)):fO E p w0 D Kb kn kf (.node 7 c (bI b) [a]):=by
 intro ctx deep first L u v w at_ aG aw aS aQ aV bb k aP aY
 have b7:=kc25;have b6:=kc126;have b8:prog.cellsOf 52=4:=cell4;have ai:=aA L aS;rw[qT,vC]at aY;have b9:=qU a;obtain⟨g,o,f,rfl,a8,bc,aD⟩:=gO aG oB;obtain⟨t,z,x,m,y,n,k0,k1,k2,k3,ao⟩:=aD 0 oB;simp only[Nat.zero_mul,Nat.add_zero,jI,List.length_singleton]at k0 k1 k2 k3 ao |-;have i:=show Hid _ from yaj p ctx deep at_ ai aV aw c b a
 obtain⟨R,ay⟩:∃R,stF E p ctx deep X (.node 7 c (bI b) [a]) L at_=R:=⟨_,rfl⟩
 rw[ay]at i |-;clear ay aD aG;have aZ:∀ab,u.ownBlock=Z ab->ab<w.heap.size:=fun ab a=>(k.rl.lt _ a).2
 have ba:=k.lt;have a3:=(k.alloc (Zc #[U O 7,I c,U O (bI b),J (Z (A g o F)) 1 f] 25)).alloc (Zc #[U O ctx,U O (first:Int)] 126);have aC:=((FrU.refl D u w).alloc (Zc #[U O 7,I c,U O (bI b),J (Z (A g o F)) 1 f] 25)).alloc (Zc #[U O ctx,U O (first:Int)] 126);have au:=a3.begin aP oA
 have az:HS w.heap.size g o (U O 7) (I c) (U O (bI b)) (J (Z (A g o F)) 1 f) (U O t) (I z) (U O x) (J m y n) (U O ctx) (U O (first:Int)) ((w.alloc (Zc #[U O 7,I c,U O (bI b),J (Z (A g o F)) 1 f] 25)).alloc (Zc #[U O ctx,U O (first:Int)] 126)) :=
  HS.new a3.bs a8 k0 k1 k2 k3
 have av:=fun W (j:CS w0 W D Kb kn kf (kJ L) u (at_+1))=>gU E L ctx (ai.agr ctx) (by rw[xO];omega) a _ W (at_+1) aI ao j oA oA
 have aX:g≠D:=by have:=k.hD;omega
 clear ao k0 k1 k2 k3 aI ai aA;generalize exF E L ctx X a (at_+1)=aM at *;go_enter func104,ntmps104;go_wp2_with (go_at_call 49;refine au.mono ?_;rintro a w1 ⟨rfl,a9⟩;have j:CS w0 w1 D Kb kn kf (kJ L) u (at_+1):=by { rw[a9];exact a3.setAt _ };have ag:HS w.heap.size g o (U O 7) (I c) (U O (bI b)) (J (Z (A g o F)) 1 f) (U O t) (I z) (U O x) (J m y n) (U O ctx) (U O (first:Int)) w1:=by { rw[a9];exact az.setD oA oA aX _ _ };have a7:FrU D u u w w1:=by { rw[a9];exact aC.set _ _ (fun _ a=>a) };clear a9;obtain⟨B,C,G,K,M,N,P,Q,T,V⟩:=id ag);clear B C G K M N P Q T V a3 aC az au;have e:HS w.heap.size g o (U O 7) (I c) (U O (bI b)) (J (Z (A g o F)) 1 f) (U O t) (I z) (U O x) (J m y n) (U O ctx) (U O (first:Int)) w1.drew:=ag;refine wp_region_held_drew (S:=HS w.heap.size g o (U O 7) (I c) (U O (bI b)) (J (Z (A g o F)) 1 f) (U O t) (I z) (U O x) (J m y n) (U O ctx) (U O (first:Int))) oD e (fun ae=>?_);clear ae ag;replace j:=j.drew;replace a7:=a7.drew;generalize w1.drew=W at *;refine tkP 0 (Zp (Z (A D 0 F))) e ?_;simp only[Act.put,jA,jB,jC];refine tkP 1 (Zp (Z (A w.heap.size 3 F))) e ?_;simp only[Act.put,jA,jB,jC];refine tkP 2 (J (Z (A g o F)) 1 f) e ?_;simp only[Act.put,jA,jB,jC];refine tkP 3 (Zp (Z (A g o F))) e ?_;simp only[Act.put,jA,jB,jC];refine tkP 4 (Za #[U O t,I z,U O x,J m y n] ) e ?_;simp only[Act.put,jA,jB,jC];refine tkP 5 (Zp (Z (A (w.heap.size+1) 0 F))) e ?_;simp only[Act.put,jA,jB,jC];refine tkP 6 (U O ctx) e ?_;simp only[Act.put,jA,jB,jC];refine oneH 7 fun aK ax=>?_
 go_simp;go_at_call 106;refine(av W j).mono ?_
 cases aM with
 | bad aO aN =>
  have d:Hid (R=.bad aO aN):=i.out;rintro a w2 ⟨rfl,aU⟩;go_wp2
  exact⟨rfl,SR.mkBad d.out aU⟩
 | ok b0 =>
  obtain⟨ap,ar⟩:=b0;rintro a w2 ⟨rfl,q,ad⟩;dsimp only at q i;have r:=e.fr (FrU.of ad u) j.bs q.bs a8 oA oA (fun a=>oz17y155) (fun a=>oz17y155);have ak:=a7.trans (FrU.of ad u);clear ad e j a7 av;go_wp2;refine ax.out _ _ r (fun ae=>?_);clear ax aK ae;refine tkP 8 (U O ap) r ?_;simp only[Act.put,jA,jB,jC];refine wpAnyH_done oD ?_ _;obtain⟨B,C,G,K,M,N,P,Q,T,V⟩:=id r;go_wp2_with (go_at_call 88;refine(ze7 7 c (bI b) _ _ _ _).mono ?_;rintro a l ⟨rfl,a6⟩;rw[zbe];unfold qC;have af:=(q.below a6).alloc (Zc #[I c,Y X,U O (bI b),U O 0] 52);have am:=(FrU.below a6 D u).alloc (Zc #[I c,Y X,U O (bI b),U O 0] 52);have ah:=r.fr am q.bs af.bs a8 oA oA (fun a=>oz17y155) (fun a=>oz17y155);obtain⟨B,C,G,K,M,N,P,Q,T,V⟩:=id ah);have aW:=ak.trans am;have be:w.heap.size<=l.heap.size:=by have:=ak.size;have:=a6.size;omega
  have ac:kP (l.alloc (Zc #[I c,Y X,U O (bI b),U O 0] 52)) l.heap.size ⟨c,X,bI b,0⟩:=kP.new l ⟨c,X,bI b,0⟩;clear q ak am r a6 B C G K M N P Q T V;refine(zt9 ⟨c,X,bI b,0⟩ first at_ af (by rw[xO];exact aw.le) (by rw[xO];exact aQ)).mono ?_;generalize l.alloc (Zc #[I c,Y X,U O (bI b),U O 0] 52)=aL at *;rintro a aJ (⟨h,rfl,aj⟩|⟨h,a2,rfl,aj⟩|⟨h,a2,rfl,⟨b1,a5,aE⟩,aF,aB⟩);·have d:Hid (R=.bad 5 at_):=i.out.trans (jv h);clear h;go_wp2;exact⟨rfl,SR.mkBad d.out aj⟩
  ·rw[xO]at a2;have d:Hid (R=.bad 1 at_):=i.out.trans ((ju (by rw[h];decide)).trans (jv a2));clear h;go_wp2;exact⟨rfl,SR.mkBad d.out aj⟩
  ·rw[xO]at a2;have d:Hid (R=if zE (bI b) [ap,ctx]=X then .bad 7 at_ else .ok (L++[⟨c,bI b,deep⟩],ar)):=i.out.trans ((ju (by rw[h];decide)).trans (ju oA));have an:FrU D u b1 aL aJ:=⟨aF,aB,aE⟩
   have aT:=ah.fr an af.bs a5.bs a8 oA oA (fun a=>oz17y155) (fun a=>oz17y155);have aR:kP aJ l.heap.size ⟨c,X,bI b,0⟩:=(an.block _ ac.lt oA (fun a=>oz17y155)).trans ac;have aH:kJ L++[⟨c,X,bI b,0⟩]=kJ (L++[⟨c,bI b,deep⟩]):=by unfold kJ;simp
   rw[aH]at a5;obtain⟨bg,bh,bi,bj,b2⟩:=aR.cells;obtain⟨B,C,G,K,M,N,P,Q,T,V⟩:=id aT;clear h i ah ac aB aE aF aH b2;go_wp2_with (fail);refine(fP at_ (bI b) [ap,ctx] _ _ (ze5 _ _ _)).mono ?_;rintro a bf (⟨s,rfl,rfl⟩|⟨s,rfl,rfl⟩)
   ·have aa:Hid (R=.ok (L++[⟨c,bI b,deep⟩],ar)):=d.out.trans (ju (by rw[s];decide));clear s d;go_wp2
    go_end0
    exact SR.mkOk aa.out (a5.alloc _) ((aW.trans an).alloc _)
   ·have aa:Hid (R=.bad 7 at_):=d.out.trans (jv s);clear s d;go_wp2;exact⟨rfl,SR.mkBad aa.out (a5.alloc _).bs⟩
end
theorem zp0 {E:Env} {L:List Loc} {ctx:Int} {kf:ByteArray->Option FV} {vs:List VarD} {e:Int} {g:ByteArray} {m:Int} {c:List Tree} {a:Int} {f:VarD × Int × Int} (b:plP kf vs e g a (exL E L ctx c (a+1))=.ok f):f.2.2=a+kC (.node e g m c):=by
 rw[qT]
 cases d:exL E L ctx c (a+1)with
 | bad j i=>rw[d]at b;cases b
 | ok h =>
  have:=(cG E L ctx c _ _ d).1;rw[d]at b;simp only[plP]at b;split at b;·cases b
  ·split at b;·cases b;show h.2=_;omega
   ·cases b
theorem FrU.put {D b o:Nat} {u u1:Zv} {w w1:Zw} (a:FrU D u u1 w w1) (g:w.heap.size<=b) (v:Zv):FrU D u u1 w (w1.setCell (A b o F) v) :=
 ⟨by rw[jQ];exact a.size,fun c d e f=>(jP w1 (A b o F) v c (by show c≠b;omega)).trans (a.block c d e f),a.own⟩
section
variable {E:Env} {p:Pr} {w0:Zw} {D Kb kn:Nat} {kf:KF}
theorem zj8 (l:Int) (k:ByteArray) (m:Int) (h:List Tree) (c:Tree) (cc:PlT (.node l k m h)) (cf:ExT c) (bo:kT k) (bi:∀t∈h,ExT t) (bg:∀L,qN L->Tab E L kf (kJ L)):fO E p w0 D Kb kn kf (.node 8 empty 0 [.node l k m h,c]):=by
 intro ctx deep first L u v w at_ bn cr bP cq c8 cy M bz bj
 have co:=kc25;have cn:=kc126;have cp:prog.cellsOf 52=4:=cell4;have aC:=bg L bP;have aX:(kJ L).length<=1000:=by rw[xO];omega
 rw[qT]at bj;have cv:=kR [.node l k m h,c];obtain⟨g,o,n,rfl,B,cB,aT⟩:=gO bn oB;obtain⟨af,ai,ag,a5,ah,a7,k0,k1,k2,k3,aU⟩:=aT 0 oB;obtain⟨aF,aI,aG,au,aH,av,aY,aZ,b0,b1,aV⟩:=aT 1 oB;simp only[Nat.zero_mul,Nat.one_mul,Nat.add_zero,jI,List.getElem_cons_succ,jd,je]at k0 k1 k2 k3 aU aY aZ b0 b1 aV |-;have G:=show Hid _ from yam p ctx deep at_ aC c8 cc c
 obtain⟨R,bc⟩:∃R,stF E p ctx deep X (.node 8 empty 0 [.node l k m h,c]) L at_=R:=⟨_,rfl⟩
 rw[bc]at G |-;clear bc aT bn;have ce:∀K,u.ownBlock=Z K->K<w.heap.size:=fun K c=>(M.rl.lt _ c).2
 have cx:=M.lt;have az:=(M.alloc (Zc #[U O 8,I empty,U O 0,J (Z (A g o F)) 2 n] 25)).alloc (Zc #[U O ctx,U O (first:Int)] 126);have bh:=((FrU.refl D u w).alloc (Zc #[U O 8,I empty,U O 0,J (Z (A g o F)) 2 n] 25)).alloc (Zc #[U O ctx,U O (first:Int)] 126);have ba:=az.begin bz oA
 have be:HS w.heap.size g o (U O 8) (I empty) (U O 0) (J (Z (A g o F)) 2 n) (U O af) (I ai) (U O ag) (J a5 ah a7) (U O ctx) (U O (first:Int)) ((w.alloc (Zc #[U O 8,I empty,U O 0,J (Z (A g o F)) 2 n] 25)).alloc (Zc #[U O ctx,U O (first:Int)] 126)) :=
  HS.new az.bs B k0 k1 k2 k3
 have ca:g≠D:=by have:=M.hD;omega
 have ct:=M.mp.lt;have cz:=M.fm;have cw:=qU (.node l k m h);have c7:=kR h;have c6:=qT l k m h;have cu:=qU c
 have bZ:kA [.node l k m h,c]=kC (.node l k m h)+kC c:=by
  show kC _+(kC c+kA [])=_;simp[kA]
 rw[bZ]at bj;have aw:=fun i (q:CS w0 i D Kb kn kf (kJ L) u (at_+1))=>zg0 E L aX l k m h _ i ctx (at_+1) bi bo aU q oA oA (fun cg cA v w a bD bE bF bG bH=>gU E L ctx (aC.agr ctx) aX h[cg] v w a bD bE bF bG bH)
 have aN:Hid (∀s,plP kf (kJ L) l k (at_+1) (exL E L ctx h (at_+1+1))=.ok s->s.2.2=at_+1+kC (.node l k m h)):=fun s cd=>zp0 (m:=m) cd
 clear aU k0 k1 k2 k3 bo bi c6 c7;generalize plP kf (kJ L) l k (at_+1) (exL E L ctx h (at_+1+1))=b6 at *;go_enter func104,ntmps104;go_wp2_with (go_at_call 49;refine ba.mono ?_;rintro c w1 ⟨rfl,ae⟩;have q:CS w0 w1 D Kb kn kf (kJ L) u (at_+1):=by { rw[ae];exact az.setAt _ };have bf:HS w.heap.size g o (U O 8) (I empty) (U O 0) (J (Z (A g o F)) 2 n) (U O af) (I ai) (U O ag) (J a5 ah a7) (U O ctx) (U O (first:Int)) w1:=by { rw[ae];exact be.setD oA oA ca _ _ };have T:FrU D u u w w1:=by { rw[ae];exact bh.set _ _ (fun _ c=>c) };have V:w.heap.size+2<=w1.heap.size:=by { rw[ae,jQ];simp };clear ae;obtain⟨aj,ak,am,an,aJ,aK,aL,aM,ao,ap⟩:=id bf);clear aj ak am an aJ aK aL aM ao ap az bh be ba;have d:HS w.heap.size g o (U O 8) (I empty) (U O 0) (J (Z (A g o F)) 2 n) (U O af) (I ai) (U O ag) (J a5 ah a7) (U O ctx) (U O (first:Int)) w1.drew:=bf;refine wp_region_held_drew (S:=HS w.heap.size g o (U O 8) (I empty) (U O 0) (J (Z (A g o F)) 2 n) (U O af) (I ai) (U O ag) (J a5 ah a7) (U O ctx) (U O (first:Int))) oD d (fun j=>?_);clear j;replace q:=q.drew;replace T:=T.drew;replace V:w.heap.size+2<=w1.drew.heap.size:=V;generalize w1.drew=i at *;refine tkP 0 (Zp (Z (A D 0 F))) d ?_;simp only[Act.put,jA,jB,jC];refine tkP 1 (Zp (Z (A w.heap.size 3 F))) d ?_;simp only[Act.put,jA,jB,jC];refine tkP 2 (J (Z (A g o F)) 2 n) d ?_;simp only[Act.put,jA,jB,jC];refine tkP 3 (Zp (Z (A g o F))) d ?_;simp only[Act.put,jA,jB,jC];refine tkP 4 (Za #[U O af,I ai,U O ag,J a5 ah a7]) d ?_;simp only[Act.put,jA,jB,jC];refine tkP 5 (Zp (Z (A (w.heap.size+1) 0 F))) d ?_;simp only[Act.put,jA,jB,jC];refine tkP 6 (U O ctx) d ?_;simp only[Act.put,jA,jB,jC];refine wpAnyH_ready (rs:=[7,11]) oD oB ?_;refine AllReadyH.cons rfl (fun r f=>?_) (AllReadyH.cons rfl (fun r f=>?_) AllReadyH.nil)
 focus
  go_simp;go_at_call 127;refine(aw i q).mono ?_;cases b6
  case bad a8 a6 =>
   have x:Hid (R=.bad a8 a6):=G.out;rintro c w2 ⟨rfl,bS⟩;go_wp2;exact⟨rfl,SR.mkBad x.out bS⟩
  case' ok s =>
   have a2:=aN.out s rfl;obtain⟨b,P,aP⟩:=s;dsimp only at a2;subst a2;rintro c w2 ⟨rfl,y,ax⟩;dsimp only at y G;unfold qC;have z:=d.fr (FrU.of ax u) q.bs y.bs B oA oA (fun c=>oz17y156) (fun c=>oz17y156);have ab:=T.trans (FrU.of ax u);have ad:w.heap.size+2<=w2.heap.size:=jp V ax.size;clear ax d q T aw V;go_wp2;refine f.out _ _ z (fun j=>?_);clear f r j;refine tkP 8 (.tuple #[Za #[I b.name,Y b.pub,U O b.label,U O b.size],U O P]) z ?_;simp only[Act.put,jA,jB,jC];refine tkP 9 (Za #[I b.name,Y b.pub,U O b.label,U O b.size]) z ?_;simp only[Act.put,jA,jB,jC];refine tkP 10 (U O P) z ?_;simp only[Act.put,jA,jB,jC];refine oneH 11 fun r f=>?_
   go_simp;have a9:=kP.new w2 yN;have Q:=y.alloc (Zc #[I ⟨#[]⟩,Y X,U O 0,U O 0] 52);have N:=z.fr ((FrU.refl D u w2).alloc (Zc #[I ⟨#[]⟩,Y X,U O 0,U O 0] 52)) y.bs Q.bs B oA oA (fun c=>oz17y156) (fun c=>oz17y156);have aS:=ab.alloc (Zc #[I ⟨#[]⟩,Y X,U O 0,U O 0] 52);have aW:w.heap.size+2<=(w2.alloc (Zc #[I ⟨#[]⟩,Y X,U O 0,U O 0] 52)).heap.size:=oE;refine f.out _ _ N (fun j=>?_);clear f r j y z ab;change kP (w2.alloc (Zc #[I ⟨#[]⟩,Y X,U O 0,U O 0] 52)) w2.heap.size yN at a9;generalize w2.alloc (Zc #[I ⟨#[]⟩,Y X,U O 0,U O 0] 52)=ar at *;have cb:=ad;clear ad;generalize w2.heap.size=e at *
 rotate_left
 focus
  go_simp;have aQ:=kP.new i yN;have y:=q.alloc (Zc #[I ⟨#[]⟩,Y X,U O 0,U O 0] 52);have z:=d.fr ((FrU.refl D u i).alloc (Zc #[I ⟨#[]⟩,Y X,U O 0,U O 0] 52)) q.bs y.bs B oA oA (fun c=>oz17y156) (fun c=>oz17y156);have ab:=T.alloc (Zc #[I ⟨#[]⟩,Y X,U O 0,U O 0] 52);have ad:w.heap.size+2<=(i.alloc (Zc #[I ⟨#[]⟩,Y X,U O 0,U O 0] 52)).heap.size:=oE;refine f.out _ _ z (fun j=>?_);clear f r j q d T;change kP (i.alloc (Zc #[I ⟨#[]⟩,Y X,U O 0,U O 0] 52)) i.heap.size yN at aQ;generalize i.alloc (Zc #[I ⟨#[]⟩,Y X,U O 0,U O 0] 52)=bv at *;have cb:=V;clear V;generalize i.heap.size=e at *;refine oneH 7 fun r f=>?_
  go_simp;go_at_call 127;refine(aw bv y).mono ?_;cases b6
  case bad a8 a6 =>
   have x:Hid (R=.bad a8 a6):=G.out;rintro c d0 ⟨rfl,bX⟩;go_wp2;exact⟨rfl,SR.mkBad x.out bX⟩
  case' ok s =>
   have a2:=aN.out s rfl;obtain⟨b,P,aP⟩:=s;dsimp only at a2;subst a2;rintro c ar ⟨rfl,Q,aa⟩;dsimp only at Q G;unfold qC;have N:=z.fr (FrU.of aa u) y.bs Q.bs B oA oA (fun c=>oz17y156) (fun c=>oz17y156);have aS:=ab.trans (FrU.of aa u);have aW:w.heap.size+2<=ar.heap.size:=jp ad aa.size;have a9:=aQ.kept aa oE;clear aa z y ab ad aw aQ;go_wp2;refine f.out _ _ N (fun j=>?_);clear f r j;refine tkP 8 (.tuple #[Za #[I b.name,Y b.pub,U O b.label,U O b.size],U O P]) N ?_;simp only[Act.put,jA,jB,jC];refine tkP 9 (Za #[I b.name,Y b.pub,U O b.label,U O b.size]) N ?_;simp only[Act.put,jA,jB,jC];refine tkP 10 (U O P) N ?_;simp only[Act.put,jA,jB,jC]
 all_goals
  obtain⟨bp,bq,br,bu,W⟩:=a9.cells;have ci:=W 0;have cj:=W 1;have ck:=W 2;have cm:=W 3;refine oneH 12 fun r f=>?_
  go_simp;have aE:g≠e:=by have:=Q.mM;omega
  have C:=Q.put4 (b:=e) oA oA (fun c=>oz17y156) oA (I b.name) (Y b.pub) (U O b.label) (U O b.size);have aB:=(((N.setD (D:=e) oA oA aE 0 (I b.name)).setD (D:=e) oA oA aE 1 (Y b.pub)).setD (D:=e) oA oA aE 2 (U O b.label)).setD (D:=e) oA oA aE 3 (U O b.size);have aD:=(((aS.put (b:=e) (o:=0) oA (I b.name)).put (b:=e) (o:=1) oA (Y b.pub)).put (b:=e) (o:=2) oA (U O b.label)).put (b:=e) (o:=3) oA (U O b.size);have b8:=a9.put b;have bm:w.heap.size+2<=((((ar.setCell (A e 0 F) (I b.name)).setCell (A e 1 F) (Y b.pub)).setCell (A e 2 F) (U O b.label)).setCell (A e 3 F) (U O b.size)).heap.size:=by simp only[jQ];exact aW
  refine f.out _ _ aB (fun j=>?_);clear f r j bp bq br bu W ci cj ck cm Q N aS a9 aW;generalize ((((ar.setCell (A e 0 F) (I b.name)).setCell (A e 1 F) (Y b.pub)).setCell (A e 2 F) (U O b.label)).setCell (A e 3 F) (U O b.size))=a3 at *;refine tkP 13 (U O P) aB ?_;simp only[Act.put,jA,jB,jC];simp only[List.getElem_toArray,List.getElem_cons_succ,jI,List.setIfInBounds_toArray,List.set_cons_zero,List.set_cons_succ];refine wpAnyH_done oD ?_ _;obtain⟨aj,ak,am,an,aJ,aK,aL,aM,ao,ap⟩:=id aB;have bR:HS w.heap.size g (o+4) (U O 8) (I empty) (U O 0) (J (Z (A g o F)) 2 n) (U O aF) (I aI) (U O aG) (J au aH av) (U O ctx) (U O (first:Int)) a3:=⟨aj,ak,am,an,(C.bs.cell (p:=(A g (o+4) F)) B).trans aY,(C.bs.cell (p:=(A g (o+4+1) F)) B).trans aZ,(C.bs.cell (p:=(A g (o+4+2) F)) B).trans b0,(C.bs.cell (p:=(A g (o+4+3) F)) B).trans b1,ao,ap⟩
  have bb:=fun i (q:CS w0 i D Kb kn kf (kJ L) u (at_+1+kC (.node l k m h)))=>gU E L ctx (aC.agr ctx) aX c _ i _ cf aV q oA oA
  clear aj ak am an aJ aK aL aM ao ap aB aY aZ b0 b1 aN aC bg aV;generalize at_+1+kC (.node l k m h)=aP at *;generalize exF E L ctx X c aP=bw at *;go_wp2;have b9:kP a3.drew e b:=b8;have d:HS w.heap.size g (o+4) (U O 8) (I empty) (U O 0) (J (Z (A g o F)) 2 n) (U O aF) (I aI) (U O aG) (J au aH av) (U O ctx) (U O (first:Int)) a3.drew:=bR;refine wp_region_held_drew (S:=HS w.heap.size g (o+4) (U O 8) (I empty) (U O 0) (J (Z (A g o F)) 2 n) (U O aF) (I aI) (U O aG) (J au aH av) (U O ctx) (U O (first:Int))) oD d (fun j=>?_);clear j;replace C:=C.drew;replace aD:=aD.drew;replace bm:w.heap.size+2<=a3.drew.heap.size:=bm;generalize a3.drew=i at *;refine tkP 0 (Zp (Z (A D 0 F))) d ?_;simp only[Act.put,jA,jB,jC];refine tkP 1 (Zp (Z (A w.heap.size 3 F))) d ?_;simp only[Act.put,jA,jB,jC];refine tkP 2 (J (Z (A g o F)) 2 n) d ?_;simp only[Act.put,jA,jB,jC];refine tkP 3 (Zp (Z (A g ((o+4)) F))) d ?_;simp only[Act.put,jA,jB,jC];refine tkP 4 (Za #[U O aF,I aI,U O aG,J au aH av]) d ?_;simp only[Act.put,jA,jB,jC];refine tkP 5 (Zp (Z (A (w.heap.size+1) 0 F))) d ?_;simp only[Act.put,jA,jB,jC];refine tkP 6 (U O ctx) d ?_;simp only[Act.put,jA,jB,jC];refine oneH 7 fun r f=>?_
  go_simp;go_at_call 106;refine(bb i C).mono ?_
  cases bw with
  | bad a8 a6 =>
   have x:Hid (R=.bad a8 a6):=G.out;rintro c ch ⟨rfl,bY⟩;go_wp2
   exact⟨rfl,SR.mkBad x.out bY⟩
  | ok s =>
   obtain⟨b2,b7⟩:=s;have x:Hid (R=if zE b.label [b2,P,ctx]=X then .bad 7 at_ else .ok (L,b7)):=G.out;clear G;rintro c ch ⟨rfl,aA,ay⟩;dsimp only at aA;have aR:=d.fr (FrU.of ay u) C.bs aA.bs B oA oA (fun c=>oz17y156) (fun c=>oz17y156);have c9:=aD.trans (FrU.of ay u);have bN:=b9.kept ay oE;clear ay d C aD bb b9 b8;go_wp2;refine f.out _ _ aR (fun j=>?_);clear f r j;refine tkP 8 (U O b2) aR ?_;simp only[Act.put,jA,jB,jC];refine wpAnyH_done oD ?_ _;obtain⟨bp,bq,br,bu,W⟩:=bN.cells;obtain⟨aj,ak,am,an,aJ,aK,aL,aM,ao,ap⟩:=id aR;go_wp2_with (fail);refine(fP at_ b.label [b2,P,ctx] _ _ (zig _ _ _ _)).mono ?_;rintro c d1 (⟨ac,rfl,rfl⟩|⟨ac,rfl,rfl⟩)
   ·have aO:Hid (R=.ok (L,b7)):=x.out.trans (ju (by rw[ac];decide));clear ac x;go_wp2
    go_end0
    exact SR.mkOk aO.out (aA.alloc _) (c9.alloc _)
   ·have aO:Hid (R=.bad 7 at_):=x.out.trans (jv ac);clear ac x;go_wp2;exact⟨rfl,SR.mkBad aO.out (aA.alloc _).bs⟩
end
section
variable {E:Env} {p:Pr} {w0:Zw} {D Kb kn:Nat} {kf:KF}
theorem zyb (j:ByteArray) (i:Int) (d:List Tree) (T:kT j) (ac:∀t∈d,ExT t) (a8:∀L,qN L->Tab E L kf (kJ L)):fO E p w0 D Kb kn kf (.node 9 empty 0 [.node 18 j i d]):=by
 intro ctx deep first L u v w at_ af aR av aQ aV aX h am ad
 have aO:=kc25;have aN:=kc126;have aP:prog.cellsOf 52=4:=cell4;have P:=a8 L av;have aA:(kJ L).length<=1000:=by rw[xO];omega
 rw[qT]at ad;have aT:=kR [.node 18 j i d];obtain⟨g,o,e,rfl,aa,b0,ab⟩:=gO af oB;obtain⟨n,s,q,k,r,l,k0,k1,k2,k3,Q⟩:=ab 0 oB;simp only[Nat.zero_mul,Nat.add_zero,jI,List.length_singleton]at k0 k1 k2 k3 Q |-;have K:=show Hid _ from ybo p ctx deep at_ P T (m:=i) (ks:=d)
 obtain⟨R,a5⟩:∃R,stF E p ctx deep X (.node 9 empty 0 [.node 18 j i d]) L at_=R:=⟨_,rfl⟩
 rw[a5]at K |-;clear a5 ab af;have ae:∀M,u.ownBlock=Z M->M<w.heap.size:=fun M b=>(h.rl.lt _ b).2
 have aW:=h.lt;have z:=(h.alloc (Zc #[U O 9,I empty,U O 0,J (Z (A g o F)) 1 e] 25)).alloc (Zc #[U O ctx,U O (first:Int)] 126);have a9:=((FrU.refl D u w).alloc (Zc #[U O 9,I empty,U O 0,J (Z (A g o F)) 1 e] 25)).alloc (Zc #[U O ctx,U O (first:Int)] 126);have V:=z.begin am oA
 have a6:HS w.heap.size g o (U O 9) (I empty) (U O 0) (J (Z (A g o F)) 1 e) (U O n) (I s) (U O q) (J k r l) (U O ctx) (U O (first:Int)) ((w.alloc (Zc #[U O 9,I empty,U O 0,J (Z (A g o F)) 1 e] 25)).alloc (Zc #[U O ctx,U O (first:Int)] 126)) :=
  HS.new z.bs aa k0 k1 k2 k3
 have az:g≠D:=by have:=h.hD;omega
 have aS:=h.mp.lt;have aY:=h.fm;have aU:=kR d;rw[vC,qT]at ad;have W:=fun x (f:CS w0 x D Kb kn kf (kJ L) u (at_+1))=>zqi E L 18 j i d _ x ctx (at_+1) H ac T Q f oA oA (fun aB aZ v w a an ao ap ar au=>gU E L ctx (P.agr ctx) aA d[aB] v w a an ao ap ar au)
 clear Q k0 k1 k2 k3 T P a8 ac;generalize clP kf ctx H j (at_+1) (exL E L ctx d (at_+1+1))=ah at *;go_enter func104,ntmps104;go_wp2_with (go_at_call 49;refine V.mono ?_;rintro b w1 ⟨rfl,m⟩;have f:CS w0 w1 D Kb kn kf (kJ L) u (at_+1):=by { rw[m];exact z.setAt _ };have a7:HS w.heap.size g o (U O 9) (I empty) (U O 0) (J (Z (A g o F)) 1 e) (U O n) (I s) (U O q) (J k r l) (U O ctx) (U O (first:Int)) w1:=by { rw[m];exact a6.setD oA oA az _ _ };have B:FrU D u u w w1:=by { rw[m];exact a9.set _ _ (fun _ b=>b) };have C:w.heap.size+2<=w1.heap.size:=by { rw[m,jQ];simp };clear m;obtain⟨aD,aE,aF,aG,aH,aI,aJ,aK,aL,aM⟩:=id a7);clear aD aE aF aG aH aI aJ aK aL aM z a9 a6 V;have c:HS w.heap.size g o (U O 9) (I empty) (U O 0) (J (Z (A g o F)) 1 e) (U O n) (I s) (U O q) (J k r l) (U O ctx) (U O (first:Int)) w1.drew:=a7;refine wp_region_held_drew (S:=HS w.heap.size g o (U O 9) (I empty) (U O 0) (J (Z (A g o F)) 1 e) (U O n) (I s) (U O q) (J k r l) (U O ctx) (U O (first:Int))) oD c (fun N=>?_);clear N;replace f:=f.drew;replace B:=B.drew;replace C:w.heap.size+2<=w1.drew.heap.size:=C;generalize w1.drew=x at *;refine tkP 0 (Zp (Z (A D 0 F))) c ?_;simp only[Act.put,jA,jB,jC];refine tkP 1 (Zp (Z (A w.heap.size 3 F))) c ?_;simp only[Act.put,jA,jB,jC];refine tkP 2 (J (Z (A g o F)) 1 e) c ?_;simp only[Act.put,jA,jB,jC];refine tkP 3 (Zp (Z (A g o F))) c ?_;simp only[Act.put,jA,jB,jC];refine tkP 4 (Za #[U O n,I s,U O q,J k r l]) c ?_;simp only[Act.put,jA,jB,jC];refine tkP 5 (Zp (Z (A (w.heap.size+1) 0 F))) c ?_;simp only[Act.put,jA,jB,jC];refine tkP 6 (U O ctx) c ?_;simp only[Act.put,jA,jB,jC];refine oneH 7 fun ag a3=>?_
 go_simp;go_at_call 128;refine(W x f).mono ?_
 cases ah with
 | bad ak aj =>
  have G:Hid (R=.bad ak aj):=K.out;rintro b w2 ⟨rfl,ax⟩;go_wp2
  exact⟨rfl,SR.mkBad G.out ax⟩
 | ok aC =>
  obtain⟨b2,ai⟩:=aC;have G:Hid (R=.ok (L,ai)):=K.out;rintro b w2 ⟨⟨b6,rfl⟩,a2,y⟩;have aw:=c.fr (FrU.of y u) f.bs a2.bs aa oA oA (fun b=>by have:=ae _ b;omega) (fun b=>by have:=ae _ b;omega);have ay:=B.trans (FrU.of y u);have b1:w.heap.size+2<=w2.heap.size:=jp C y.size;clear y c f B W C;go_wp2;refine a3.out _ _ aw (fun N=>?_);clear a3 ag N;refine wpAnyH_done oD ?_ _;go_wp2
  go_end0
  exact SR.mkOk G.out a2 ay
end
section
variable {E:Env} {p:Pr} {w0:Zw} {D Kb kn:Nat} {kf:KF}
theorem zwh (d:Bool) (a:Tree) (aw:ExT a) (am:∀L,qN L->Tab E L kf (kJ L)):fO E p w0 D Kb kn kf (.node 12 empty (bI d) [a]):=by
 intro ctx deep first L u v w at_ av aZ aE aY aG b7 j aD ar
 have aW:=kc25;have aV:=kc126;have aX:prog.cellsOf 52=4:=cell4;have ac:=am L aE;have aJ:(kJ L).length<=1000:=by rw[xO];omega
 rw[qT]at ar;have b1:=kR [a];obtain⟨g,o,i,rfl,C,b9,ap⟩:=gO av oB;obtain⟨s,y,t,m,x,n,k0,k1,k2,k3,ae⟩:=ap 0 oB;simp only[Nat.zero_mul,Nat.add_zero,jI,List.length_singleton]at k0 k1 k2 k3 ae |-;have Q:=show Hid _ from yak p ctx deep at_ ac aG d a
 obtain⟨R,ai⟩:∃R,stF E p ctx deep X (.node 12 empty (bI d) [a]) L at_=R:=⟨_,rfl⟩
 rw[ai]at Q |-;clear ai ap av;have aI:∀ab,u.ownBlock=Z ab->ab<w.heap.size:=fun ab a=>(j.rl.lt _ a).2
 have b6:=j.lt;have W:=(j.alloc (Zc #[U O 12,I empty,U O (bI d),J (Z (A g o F)) 1 i] 25)).alloc (Zc #[U O ctx,U O (first:Int)] 126);have an:=((FrU.refl D u w).alloc (Zc #[U O 12,I empty,U O (bI d),J (Z (A g o F)) 1 i] 25)).alloc (Zc #[U O ctx,U O (first:Int)] 126);have ag:=W.begin aD oA
 have aj:HS w.heap.size g o (U O 12) (I empty) (U O (bI d)) (J (Z (A g o F)) 1 i) (U O s) (I y) (U O t) (J m x n) (U O ctx) (U O (first:Int)) ((w.alloc (Zc #[U O 12,I empty,U O (bI d),J (Z (A g o F)) 1 i] 25)).alloc (Zc #[U O ctx,U O (first:Int)] 126)) :=
  HS.new W.bs C k0 k1 k2 k3
 have aH:g≠D:=by have:=j.hD;omega
 have b0:=j.mp.lt;have b8:=j.fm;have b2:=qU a;rw[vC]at ar;have ah:=fun T (q:CS w0 T D Kb kn kf (kJ L) u (at_+1))=>gU E L ctx (ac.agr ctx) aJ a _ T (at_+1) aw ae q oA oA
 clear ae k0 k1 k2 k3 aw ac am;generalize exF E L ctx X a (at_+1)=aA at *;go_enter func104,ntmps104;go_wp2_with (go_at_call 49;refine ag.mono ?_;rintro a w1 ⟨rfl,P⟩;have q:CS w0 w1 D Kb kn kf (kJ L) u (at_+1):=by { rw[P];exact W.setAt _ };have ak:HS w.heap.size g o (U O 12) (I empty) (U O (bI d)) (J (Z (A g o F)) 1 i) (U O s) (I y) (U O t) (J m x n) (U O ctx) (U O (first:Int)) w1:=by { rw[P];exact aj.setD oA oA aH _ _ };have a7:FrU D u u w w1:=by { rw[P];exact an.set _ _ (fun _ a=>a) };have a8:w.heap.size+2<=w1.heap.size:=by { rw[P,jQ];simp };clear P;obtain⟨aL,aM,aN,aO,aP,aQ,aR,aS,aT,aU⟩:=id ak);clear aL aM aN aO aP aQ aR aS aT aU W an aj ag;have b:HS w.heap.size g o (U O 12) (I empty) (U O (bI d)) (J (Z (A g o F)) 1 i) (U O s) (I y) (U O t) (J m x n) (U O ctx) (U O (first:Int)) w1.drew:=ak;refine wp_region_held_drew (S:=HS w.heap.size g o (U O 12) (I empty) (U O (bI d)) (J (Z (A g o F)) 1 i) (U O s) (I y) (U O t) (J m x n) (U O ctx) (U O (first:Int))) oD b (fun e=>?_);clear e;replace q:=q.drew;replace a7:=a7.drew;replace a8:w.heap.size+2<=w1.drew.heap.size:=a8;generalize w1.drew=T at *;refine tkP 0 (Zp (Z (A D 0 F))) b ?_;simp only[Act.put,jA,jB,jC];refine tkP 1 (Zp (Z (A w.heap.size 3 F))) b ?_;simp only[Act.put,jA,jB,jC];refine tkP 2 (J (Z (A g o F)) 1 i) b ?_;simp only[Act.put,jA,jB,jC];refine tkP 3 (Zp (Z (A g o F))) b ?_;simp only[Act.put,jA,jB,jC];refine tkP 4 (Za #[U O s,I y,U O t,J m x n]) b ?_;simp only[Act.put,jA,jB,jC];refine tkP 5 (Zp (Z (A (w.heap.size+1) 0 F))) b ?_;simp only[Act.put,jA,jB,jC];refine tkP 6 (U O ctx) b ?_;simp only[Act.put,jA,jB,jC];refine oneH 7 fun h c=>?_
 go_simp;go_at_call 106;refine(ah T q).mono ?_
 cases aA with
 | bad aC aB =>
  have z:Hid (R=.bad aC aB):=Q.out;rintro a w2 ⟨rfl,aF⟩;go_wp2
  exact⟨rfl,SR.mkBad z.out aF⟩
 | ok aK =>
  obtain⟨f,af⟩:=aK;have z:Hid (R=if zE (bI d) [f,ctx]=X then .bad 7 at_ else .ok (L,af)):=Q.out;clear Q;rintro a w2 ⟨rfl,k,V⟩;dsimp only at k;have a3:=b.fr (FrU.of V u) q.bs k.bs C oA oA (fun a=>oz17y157) (fun a=>oz17y157);have B:=a7.trans (FrU.of V u);have au:w.heap.size+2<=w2.heap.size:=jp a8 V.size;clear V b q a7 ah a8;go_wp2;refine c.out _ _ a3 (fun e=>?_);clear c h e;refine tkP 8 (U O f) a3 ?_;simp only[Act.put,jA,jB,jC];simp only[List.getElem_toArray,List.getElem_cons_succ,jI,List.setIfInBounds_toArray,List.set_cons_zero,List.set_cons_succ];refine wpAnyH_done oD ?_ _;have b:HS w.heap.size g o (U O 12) (I empty) (U O (bI d)) (J (Z (A g o F)) 1 i) (U O s) (I y) (U O t) (J m x n) (U O ctx) (U O (first:Int)) w2.drew:=a3;go_wp2;refine wp_region_held_drew (S:=HS w.heap.size g o (U O 12) (I empty) (U O (bI d)) (J (Z (A g o F)) 1 i) (U O s) (I y) (U O t) (J m x n) (U O ctx) (U O (first:Int))) oD b (fun e=>?_);clear e a3;replace k:=k.drew;replace B:=B.drew;replace au:w.heap.size+2<=w2.drew.heap.size:=au;generalize w2.drew=G at *;refine tkP 0 (U O at_) b ?_;simp only[Act.put,jA,jB,jC];refine tkP 1 (Za #[U O 12,I empty,U O (bI d),J (Z (A g o F)) 1 i]) b ?_;simp only[Act.put,jA,jB,jC];refine tkP 3 (U O f) b ?_;simp only[Act.put,jA,jB,jC];refine tkP 4 (Zp (Z (A (w.heap.size+1) 0 F))) b ?_;simp only[Act.put,jA,jB,jC];refine tkP 5 (U O ctx) b ?_;simp only[Act.put,jA,jB,jC];refine wpAnyH_ready (rs:=[2,6]) oD oB ?_;refine AllReadyH.cons rfl (fun h c=>?_) ?_
  ·go_simp;go_at_call 103;refine(dX 12 empty (bI d) _ _ _ G).mono ?_;rintro a a9 ⟨rfl,ad⟩;rw[zbe];have l:=k.below ad;have r:=b.fr (FrU.below ad D u) k.bs l.bs C oA oA (fun a=>oz17y157) (fun a=>oz17y157);have M:=B.trans (FrU.below ad D u);go_wp2;refine c.out _ _ r (fun e=>?_);clear c h e b k B;refine oneH 6 fun h c=>?_
   go_simp;have a2:=ze5 a9 f ctx;have K:=l.alloc (Zc #[U O f,U O ctx] 3);have a5:=r.fr ((FrU.refl D u a9).alloc (Zc #[U O f,U O ctx] 3)) l.bs K.bs C oA oA (fun a=>oz17y157) (fun a=>oz17y157);have ao:=M.alloc (Zc #[U O f,U O ctx] 3);refine c.out _ _ a5 (fun e=>?_);clear c h e r l M;generalize a9.alloc (Zc #[U O f,U O ctx] 3)=az at *;generalize a9.heap.size=ax at *;exact oz17x152
  ·refine AllReadyH.cons rfl (fun h c=>?_) AllReadyH.nil;go_simp;have a2:=ze5 G f ctx;have l:=k.alloc (Zc #[U O f,U O ctx] 3);have r:=b.fr ((FrU.refl D u G).alloc (Zc #[U O f,U O ctx] 3)) k.bs l.bs C oA oA (fun a=>oz17y157) (fun a=>oz17y157);have M:=B.alloc (Zc #[U O f,U O ctx] 3);refine c.out _ _ r (fun e=>?_);clear c h e b k B;generalize G.alloc (Zc #[U O f,U O ctx] 3)=ay at *;generalize G.heap.size=ax at *;refine oneH 2 fun h c=>?_
   go_simp;go_at_call 103;refine(dX 12 empty (bI d) _ _ _ ay).mono ?_;rintro a az ⟨rfl,a6⟩;rw[zbe];have K:=l.below a6;have a5:=r.fr (FrU.below a6 D u) l.bs K.bs C oA oA (fun a=>oz17y157) (fun a=>oz17y157);have ao:=M.trans (FrU.below a6 D u);replace a2:=a2.below a6;go_wp2;refine c.out _ _ a5 (fun e=>?_);clear c h e r l M;exact oz17x152
end
section
variable {E:Env} {p:Pr} {w0:Zw} {D Kb kn:Nat} {kf:KF}
theorem zm8 (h:Bool) (n:Int) (j:ByteArray) (q:Int) (f:List Tree) (bF:PlT (.node n j q f)) (b6:kT j) (aZ:∀t∈f,ExT t) (aU:∀L,qN L->Tab E L kf (kJ L)):fO E p w0 D Kb kn kf (.node 13 empty (bI h) [.node n j q f]):=by
 intro ctx deep first L u v w at_ b1 ca bo c9 bw cg M bf b0
 have c7:=kc25;have c6:=kc126;have c8:prog.cellsOf 52=4:=cell4;have aK:=aU L bo;have b2:(kJ L).length<=1000:=by rw[xO];omega
 rw[qT]at b0;have cd:=kR [.node n j q f];obtain⟨g,o,K,rfl,T,cj,aY⟩:=gO b1 oB;obtain⟨af,ai,ag,a6,ah,a7,k0,k1,k2,k3,aM⟩:=aY 0 oB;simp only[Nat.zero_mul,Nat.add_zero,jI,List.length_singleton]at k0 k1 k2 k3 aM |-;have y:=show Hid _ from ybq p ctx deep at_ aK bw h bF
 obtain⟨R,aR⟩:∃R,stF E p ctx deep X (.node 13 empty (bI h) [.node n j q f]) L at_=R:=⟨_,rfl⟩
 rw[aR]at y |-;clear aR aY b1;have bH:∀G,u.ownBlock=Z G->G<w.heap.size:=fun G c=>(M.rl.lt _ c).2
 have cf:=M.lt;have aB:=(M.alloc (Zc #[U O 13,I empty,U O (bI h),J (Z (A g o F)) 1 K] 25)).alloc (Zc #[U O ctx,U O (first:Int)] 126);have aV:=((FrU.refl D u w).alloc (Zc #[U O 13,I empty,U O (bI h),J (Z (A g o F)) 1 K] 25)).alloc (Zc #[U O ctx,U O (first:Int)] 126);have aQ:=aB.begin bf oA
 have aS:HS w.heap.size g o (U O 13) (I empty) (U O (bI h)) (J (Z (A g o F)) 1 K) (U O af) (I ai) (U O ag) (J a6 ah a7) (U O ctx) (U O (first:Int)) ((w.alloc (Zc #[U O 13,I empty,U O (bI h),J (Z (A g o F)) 1 K] 25)).alloc (Zc #[U O ctx,U O (first:Int)] 126)) :=
  HS.new aB.bs T k0 k1 k2 k3
 have bD:g≠D:=by have:=M.hD;omega
 have cb:=M.mp.lt;have ch:=M.fm;have ce:=qU (.node n j q f);have bv:=kR f;have bu:=qT n j q f;rw[vC]at b0;have az:=fun k (r:CS w0 k D Kb kn kf (kJ L) u (at_+1))=>zg0 E L b2 n j q f _ k ctx (at_+1) aZ b6 aM r oA oA (fun bN ci v w a bg bh bi bj bm=>gU E L ctx (aK.agr ctx) b2 f[bN] v w a bg bh bi bj bm)
 have aF:Hid (∀B,plP kf (kJ L) n j (at_+1) (exL E L ctx f (at_+1+1))=.ok B->B.2.2=at_+1+kC (.node n j q f)):=fun B bG=>zp0 (m:=q) bG
 clear aM k0 k1 k2 k3 b6 aZ bu bv;generalize plP kf (kJ L) n j (at_+1) (exL E L ctx f (at_+1+1))=aO at *;go_enter func104,ntmps104;go_wp2_with (go_at_call 49;refine aQ.mono ?_;rintro c w1 ⟨rfl,ae⟩;have r:CS w0 w1 D Kb kn kf (kJ L) u (at_+1):=by { rw[ae];exact aB.setAt _ };have aT:HS w.heap.size g o (U O 13) (I empty) (U O (bI h)) (J (Z (A g o F)) 1 K) (U O af) (I ai) (U O ag) (J a6 ah a7) (U O ctx) (U O (first:Int)) w1:=by { rw[ae];exact aS.setD oA oA bD _ _ };have V:FrU D u u w w1:=by { rw[ae];exact aV.set _ _ (fun _ c=>c) };have W:w.heap.size+2<=w1.heap.size:=by { rw[ae,jQ];simp };clear ae;obtain⟨aj,ak,am,an,ao,ap,ar,au,av,aw⟩:=id aT);clear aj ak am an ao ap ar au av aw aB aV aS aQ;have i:HS w.heap.size g o (U O 13) (I empty) (U O (bI h)) (J (Z (A g o F)) 1 K) (U O af) (I ai) (U O ag) (J a6 ah a7) (U O ctx) (U O (first:Int)) w1.drew:=aT;refine wp_region_held_drew (S:=HS w.heap.size g o (U O 13) (I empty) (U O (bI h)) (J (Z (A g o F)) 1 K) (U O af) (I ai) (U O ag) (J a6 ah a7) (U O ctx) (U O (first:Int))) oD i (fun l=>?_);clear l;replace r:=r.drew;replace V:=V.drew;replace W:w.heap.size+2<=w1.drew.heap.size:=W;generalize w1.drew=k at *;refine tkP 0 (Zp (Z (A D 0 F))) i ?_;simp only[Act.put,jA,jB,jC];refine tkP 1 (Zp (Z (A w.heap.size 3 F))) i ?_;simp only[Act.put,jA,jB,jC];refine tkP 2 (J (Z (A g o F)) 1 K) i ?_;simp only[Act.put,jA,jB,jC];refine tkP 3 (Zp (Z (A g o F))) i ?_;simp only[Act.put,jA,jB,jC];refine tkP 4 (Za #[U O af,I ai,U O ag,J a6 ah a7]) i ?_;simp only[Act.put,jA,jB,jC];refine tkP 5 (Zp (Z (A (w.heap.size+1) 0 F))) i ?_;simp only[Act.put,jA,jB,jC];refine tkP 6 (U O ctx) i ?_;simp only[Act.put,jA,jB,jC];refine wpAnyH_ready (rs:=[7,11]) oD oB ?_;refine AllReadyH.cons rfl (fun z e=>?_) (AllReadyH.cons rfl (fun z e=>?_) AllReadyH.nil)
 focus
  go_simp;go_at_call 127;refine(az k r).mono ?_;cases aO
  case bad cc bb =>
   have C:Hid (R=.bad cc bb):=y.out;rintro c w2 ⟨rfl,bq⟩;go_wp2;exact⟨rfl,SR.mkBad C.out bq⟩
  case' ok B =>
   have a3:=aF.out B rfl;obtain⟨b,P,ay⟩:=B;dsimp only at a3;subst a3;rintro c w2 ⟨rfl,s,aA⟩;dsimp only at s y;unfold qC;have x:=i.fr (FrU.of aA u) r.bs s.bs T oA oA (fun c=>oz17y158) (fun c=>oz17y158);have ac:=V.trans (FrU.of aA u);have ad:w.heap.size+2<=w2.heap.size:=jp W aA.size;clear aA i r V az W;go_wp2;refine e.out _ _ x (fun l=>?_);clear e z l;refine tkP 8 (.tuple #[Za #[I b.name,Y b.pub,U O b.label,U O b.size],U O P]) x ?_;simp only[Act.put,jA,jB,jC];refine tkP 9 (Za #[I b.name,Y b.pub,U O b.label,U O b.size]) x ?_;simp only[Act.put,jA,jB,jC];refine tkP 10 (U O P) x ?_;simp only[Act.put,jA,jB,jC];refine oneH 11 fun z e=>?_
   go_simp;have a8:=kP.new w2 yN;have Q:=s.alloc (Zc #[I ⟨#[]⟩,Y X,U O 0,U O 0] 52);have N:=x.fr ((FrU.refl D u w2).alloc (Zc #[I ⟨#[]⟩,Y X,U O 0,U O 0] 52)) s.bs Q.bs T oA oA (fun c=>oz17y158) (fun c=>oz17y158);have aL:=ac.alloc (Zc #[I ⟨#[]⟩,Y X,U O 0,U O 0] 52);have aN:w.heap.size+2<=(w2.alloc (Zc #[I ⟨#[]⟩,Y X,U O 0,U O 0] 52)).heap.size:=oE;refine e.out _ _ N (fun l=>?_);clear e z l s x ac;change kP (w2.alloc (Zc #[I ⟨#[]⟩,Y X,U O 0,U O 0] 52)) w2.heap.size yN at a8;generalize w2.alloc (Zc #[I ⟨#[]⟩,Y X,U O 0,U O 0] 52)=ax at *;have bE:=ad;clear ad;generalize w2.heap.size=d at *
 rotate_left
 focus
  go_simp;have aG:=kP.new k yN;have s:=r.alloc (Zc #[I ⟨#[]⟩,Y X,U O 0,U O 0] 52);have x:=i.fr ((FrU.refl D u k).alloc (Zc #[I ⟨#[]⟩,Y X,U O 0,U O 0] 52)) r.bs s.bs T oA oA (fun c=>oz17y158) (fun c=>oz17y158);have ac:=V.alloc (Zc #[I ⟨#[]⟩,Y X,U O 0,U O 0] 52);have ad:w.heap.size+2<=(k.alloc (Zc #[I ⟨#[]⟩,Y X,U O 0,U O 0] 52)).heap.size:=oE;refine e.out _ _ x (fun l=>?_);clear e z l r i V;change kP (k.alloc (Zc #[I ⟨#[]⟩,Y X,U O 0,U O 0] 52)) k.heap.size yN at aG;generalize k.alloc (Zc #[I ⟨#[]⟩,Y X,U O 0,U O 0] 52)=be at *;have bE:=W;clear W;generalize k.heap.size=d at *;refine oneH 7 fun z e=>?_
  go_simp;go_at_call 127;refine(az be s).mono ?_;cases aO
  case bad cc bb =>
   have C:Hid (R=.bad cc bb):=y.out;rintro c cm ⟨rfl,br⟩;go_wp2;exact⟨rfl,SR.mkBad C.out br⟩
  case' ok B =>
   have a3:=aF.out B rfl;obtain⟨b,P,ay⟩:=B;dsimp only at a3;subst a3;rintro c ax ⟨rfl,Q,a9⟩;dsimp only at Q y;unfold qC;have N:=x.fr (FrU.of a9 u) s.bs Q.bs T oA oA (fun c=>oz17y158) (fun c=>oz17y158);have aL:=ac.trans (FrU.of a9 u);have aN:w.heap.size+2<=ax.heap.size:=jp ad a9.size;have a8:=aG.kept a9 oE;clear a9 x s ac ad az aG;go_wp2;refine e.out _ _ N (fun l=>?_);clear e z l;refine tkP 8 (.tuple #[Za #[I b.name,Y b.pub,U O b.label,U O b.size],U O P]) N ?_;simp only[Act.put,jA,jB,jC];refine tkP 9 (Za #[I b.name,Y b.pub,U O b.label,U O b.size]) N ?_;simp only[Act.put,jA,jB,jC];refine tkP 10 (U O P) N ?_;simp only[Act.put,jA,jB,jC]
 all_goals
  obtain⟨b8,b9,ba,bc,a2⟩:=a8.cells;have bP:=a2 0;have bR:=a2 1;have bS:=a2 2;have bX:=a2 3;refine oneH 12 fun z e=>?_
  go_simp;have aE:g≠d:=by have:=Q.mM;omega
  have aI:=Q.put4 (b:=d) oA oA (fun c=>oz17y158) oA (I b.name) (Y b.pub) (U O b.label) (U O b.size);have aa:=(((N.setD (D:=d) oA oA aE 0 (I b.name)).setD (D:=d) oA oA aE 1 (Y b.pub)).setD (D:=d) oA oA aE 2 (U O b.label)).setD (D:=d) oA oA aE 3 (U O b.size);have aW:=(((aL.put (b:=d) (o:=0) oA (I b.name)).put (b:=d) (o:=1) oA (Y b.pub)).put (b:=d) (o:=2) oA (U O b.label)).put (b:=d) (o:=3) oA (U O b.size);have aH:=a8.put b;have ck:w.heap.size+2<=((((ax.setCell (A d 0 F) (I b.name)).setCell (A d 1 F) (Y b.pub)).setCell (A d 2 F) (U O b.label)).setCell (A d 3 F) (U O b.size)).heap.size:=by simp only[jQ];exact aN
  refine e.out _ _ aa (fun l=>?_);clear e z l b8 b9 ba bc a2 bP bR bS bX Q N aL a8 aN;generalize ((((ax.setCell (A d 0 F) (I b.name)).setCell (A d 1 F) (Y b.pub)).setCell (A d 2 F) (U O b.label)).setCell (A d 3 F) (U O b.size))=bY at *;refine tkP 13 (U O P) aa ?_;simp only[Act.put,jA,jB,jC];simp only[List.getElem_toArray,List.getElem_cons_succ,jI,List.setIfInBounds_toArray,List.set_cons_zero,List.set_cons_succ];refine wpAnyH_done oD ?_ _;obtain⟨aj,ak,am,an,ao,ap,ar,au,av,aw⟩:=id aa;clear aF aK aU;generalize at_+1+kC (.node n j q f)=ay at *;go_wp2_with (go_at_call 103;refine(dX 13 empty (bI h) _ _ _ _).mono ?_;rintro c b7 ⟨rfl,ab⟩;rw[zbe];have aC:=aI.below ab;have aJ:=aa.fr (FrU.below ab D u) aI.bs aC.bs T oA oA (fun c=>oz17y158) (fun c=>oz17y158);have aX:=aW.trans (FrU.below ab D u);have aP:=aH.below ab aH.lt;obtain⟨aj,ak,am,an,ao,ap,ar,au,av,aw⟩:=id aJ);have aD:=aC.alloc (Zc #[U O ctx] 3);have bp:=aJ.fr ((FrU.refl D u b7).alloc (Zc #[U O ctx] 3)) aC.bs aD.bs T oA oA (fun c=>oz17y158) (fun c=>oz17y158);have bz:=aX.alloc (Zc #[U O ctx] 3);have bn:=aP.alloc (Zc #[U O ctx] 3);refine(fP at_ (bI h) [ctx] _ _ (za5 _ _)).mono ?_;clear aI aa aW aH aC aJ aX aP ab aj ak am an ao ap ar au av aw;generalize b7.alloc (Zc #[U O ctx] 3)=bZ at *;rintro c cn (⟨m,rfl,rfl⟩|⟨m,rfl,rfl⟩)
  ·have C:Hid (R=if zE b.label [bI h,P,ctx]=X then .bad 7 at_ else .ok (L,ay)):=y.out.trans (ju (by rw[m];decide));clear m y;obtain⟨b8,b9,ba,bc,a2⟩:=bn.cells;obtain⟨aj,ak,am,an,ao,ap,ar,au,av,aw⟩:=id bp;go_wp2_with (fail);refine(fP at_ b.label [bI h,P,ctx] _ _ (zig _ _ _ _)).mono ?_;rintro c co (⟨m,rfl,rfl⟩|⟨m,rfl,rfl⟩)
   ·have a5:Hid (R=.ok (L,ay)):=C.out.trans (ju (by rw[m];decide));clear m C;go_wp2
    go_end0
    exact SR.mkOk a5.out (aD.alloc _) (bz.alloc _)
   ·have a5:Hid (R=.bad 7 at_):=C.out.trans (jv m);clear m C;go_wp2;exact⟨rfl,SR.mkBad a5.out (aD.alloc _).bs⟩
  ·have a5:Hid (R=.bad 7 at_):=y.out.trans (jv m);clear m y;go_wp2;exact⟨rfl,SR.mkBad a5.out aD.bs⟩
end
section
variable {E:Env} {p:Pr} {w0:Zw} {D Kb kn:Nat} {kf:KF}
theorem zwi (a:Tree) (a9:ExT a) (V:∀L,qN L->Tab E L kf (kJ L)):fO E p w0 D Kb kn kf (.node 14 empty 0 [a]):=by
 intro ctx deep first L u v w at_ a8 aF af aE aJ aL e ae a6
 have aC:=kc25;have aB:=kc126;have aD:prog.cellsOf 52=4:=cell4;have W:=V L af;have aj:(kJ L).length<=1000:=by rw[xO];omega
 rw[qT]at a6;have aH:=kR [a];obtain⟨g,o,c,rfl,a3,aO,a5⟩:=gO a8 oB;obtain⟨j,m,k,f,l,h,k0,k1,k2,k3,C⟩:=a5 0 oB;simp only[Nat.zero_mul,Nat.add_zero,jI,List.length_singleton]at k0 k1 k2 k3 C |-;have y:=show Hid _ from yal (E:=E) (L:=L) p ctx deep at_ a
 obtain⟨R,P⟩:∃R,stF E p ctx deep X (.node 14 empty 0 [a]) L at_=R:=⟨_,rfl⟩
 rw[P]at y |-;clear P a5 a8;have a7:∀z,u.ownBlock=Z z->z<w.heap.size:=fun z a=>(e.rl.lt _ a).2
 have aK:=e.lt;have r:=(e.alloc (Zc #[U O 14,I empty,U O 0,J (Z (A g o F)) 1 c] 25)).alloc (Zc #[U O ctx,U O (first:Int)] 126);have a2:=((FrU.refl D u w).alloc (Zc #[U O 14,I empty,U O 0,J (Z (A g o F)) 1 c] 25)).alloc (Zc #[U O ctx,U O (first:Int)] 126);have G:=r.begin ae oA
 have Q:HS w.heap.size g o (U O 14) (I empty) (U O 0) (J (Z (A g o F)) 1 c) (U O j) (I m) (U O k) (J f l h) (U O ctx) (U O (first:Int)) ((w.alloc (Zc #[U O 14,I empty,U O 0,J (Z (A g o F)) 1 c] 25)).alloc (Zc #[U O ctx,U O (first:Int)] 126)) :=
  HS.new r.bs a3 k0 k1 k2 k3
 have ai:g≠D:=by have:=e.hD;omega
 have aG:=e.mp.lt;have aN:=e.fm;have aI:=qU a;rw[vC]at a6;have K:=fun n (d:CS w0 n D Kb kn kf (kJ L) u (at_+1))=>gU E L ctx (W.agr ctx) aj a _ n (at_+1) a9 C d oA oA
 clear C k0 k1 k2 k3 a9 W V;generalize exF E L ctx X a (at_+1)=ab at *;go_enter func104,ntmps104;go_wp2_with (go_at_call 49;refine G.mono ?_;rintro a w1 ⟨rfl,i⟩;have d:CS w0 w1 D Kb kn kf (kJ L) u (at_+1):=by { rw[i];exact r.setAt _ };have T:HS w.heap.size g o (U O 14) (I empty) (U O 0) (J (Z (A g o F)) 1 c) (U O j) (I m) (U O k) (J f l h) (U O ctx) (U O (first:Int)) w1:=by { rw[i];exact Q.setD oA oA ai _ _ };have s:FrU D u u w w1:=by { rw[i];exact a2.set _ _ (fun _ a=>a) };have t:w.heap.size+2<=w1.heap.size:=by { rw[i,jQ];simp };clear i;obtain⟨an,ao,ap,ar,au,av,aw,ax,ay,az⟩:=id T);clear an ao ap ar au av aw ax ay az r a2 Q G;have b:HS w.heap.size g o (U O 14) (I empty) (U O 0) (J (Z (A g o F)) 1 c) (U O j) (I m) (U O k) (J f l h) (U O ctx) (U O (first:Int)) w1.drew:=T;refine wp_region_held_drew (S:=HS w.heap.size g o (U O 14) (I empty) (U O 0) (J (Z (A g o F)) 1 c) (U O j) (I m) (U O k) (J f l h) (U O ctx) (U O (first:Int))) oD b (fun B=>?_);clear B;replace d:=d.drew;replace s:=s.drew;replace t:w.heap.size+2<=w1.drew.heap.size:=t;generalize w1.drew=n at *;refine tkP 0 (Zp (Z (A D 0 F))) b ?_;simp only[Act.put,jA,jB,jC];refine tkP 1 (Zp (Z (A w.heap.size 3 F))) b ?_;simp only[Act.put,jA,jB,jC];refine tkP 2 (J (Z (A g o F)) 1 c) b ?_;simp only[Act.put,jA,jB,jC];refine tkP 3 (Zp (Z (A g o F))) b ?_;simp only[Act.put,jA,jB,jC];refine tkP 4 (Za #[U O j,I m,U O k,J f l h]) b ?_;simp only[Act.put,jA,jB,jC];refine tkP 5 (Zp (Z (A (w.heap.size+1) 0 F))) b ?_;simp only[Act.put,jA,jB,jC];refine tkP 6 (U O ctx) b ?_;simp only[Act.put,jA,jB,jC];refine oneH 7 fun aa N=>?_
 go_simp;go_at_call 106;refine(K n d).mono ?_
 cases ab with
 | bad ad ac =>
  have x:Hid (R=.bad ad ac):=y.out;rintro a w2 ⟨rfl,ah⟩;go_wp2
  exact⟨rfl,SR.mkBad x.out ah⟩
 | ok am =>
  obtain⟨aQ,aA⟩:=am;have x:Hid (R=.bad 2 at_):=y.out;rintro a w2 ⟨rfl,M,q⟩;have ag:=b.fr (FrU.of q u) d.bs M.bs a3 oA oA (fun a=>by have:=a7 _ a;omega) (fun a=>by have:=a7 _ a;omega);have aM:=s.trans (FrU.of q u);have aP:w.heap.size+2<=w2.heap.size:=jp t q.size;clear q b d s K t;go_wp2;refine N.out _ _ ag (fun B=>?_);clear N aa B;refine wpAnyH_done oD ?_ _;go_wp2_with (go_at_call 87;refine(vD 2 at_ _).mono ?_;rintro a aR ⟨rfl,ak⟩;rw[ak]);exact⟨rfl,SR.mkBad x.out M.bs⟩
end
theorem zti (E:Env) (p:Pr) (ctx deep:Int) (e:List Tree) (d:Nat) (f:d<e.length) (L:List Loc) (a:Int):zX E p ctx deep (e.drop d) L a=match blF E p ctx deep e[d] L a with
  | .bad c b=>.bad c b
  | .ok q=>zX E p ctx deep (e.drop (d+1)) q.1 q.2:=by
 rw[List.drop_eq_getElem_cons f];simp only[zX];rfl
section
variable {E:Env} {p:Pr} {w0:Zw} {D Kb kn:Nat} {kf:KF}
theorem zga (e:Int) (bv:e=10\/e=11) (k:ByteArray) (j:Int) (c:Tree) (a:List Tree) (ba:ExT c) (bD:∀a9∈a,BlT a9) (cv:0<a.length) (b1:∀L,qN L->Tab E L kf (kJ L)) (b6:∀g o h,Lies (·<w0.heap.size) w0 (.node e k j (c :: a)) (Za #[U O e,I k,U O j,J (Z (A g o F)) (a.length+1) h])->a.length+1<=h) (ih:∀b (au:b<a.length),zgv E p w0 D Kb kn kf a[b]):fO E p w0 D Kb kn kf (.node e k j (c :: a)):=by
 intro ctx deep first L u v w at_ az bn aX bj cn bq x bh bz
 have cb:=kc25;have ca:=kc126;have cc:prog.cellsOf 52=4:=cell4;have b2:=b1 L aX;have bP:(kJ L).length<=1000:=by rw[xO];omega
 rw[qT]at bz;have ci:=kR (c :: a);obtain⟨g,o,h,rfl,W,bw,av⟩:=gO az oB;obtain⟨P,V,Q,K,T,M,k0,k1,k2,k3,ax⟩:=av 0 oB;simp only[Nat.zero_mul,Nat.add_zero,jI,jd]at k0 k1 k2 k3 ax bw |-;have ck:=b6 _ _ _ az
 have aw:∀b (au:b<a.length),∃P V Q K T M,w0.cell? (A g (o+4+b*4) F)=Z (U O P)/\w0.cell? (A g (o+4+b*4+1) F)=Z (I V)/\w0.cell? (A g (o+4+b*4+2) F)=Z (U O Q)/\w0.cell? (A g (o+4+b*4+3) F)=Z (J K T M)/\Lies (·<w0.heap.size) w0 a[b] (Za #[U O P,I V,U O Q,J K T M]):=fun b au=>by
  have:=av (b+1) oE;rw[show o+(b+1)*4=o+4+b*4 by omega]at this;simpa using this
 have ab:=show Hid _ from ybp (E:=E) (L:=L) p ctx deep at_ bv k j c a
 obtain⟨R,aY⟩:∃R,stF E p ctx deep X (.node e k j (c :: a)) L at_=R:=⟨_,rfl⟩
 rw[aY]at ab |-;clear aY av az;have b9:∀B,u.ownBlock=Z B->B<w.heap.size:=fun B c=>(x.rl.lt _ c).2
 have co:=x.lt;have af:=(x.alloc (Zc #[U O e,I k,U O j,J (Z (A g o F)) (a.length+1) h] 25)).alloc (Zc #[U O ctx,U O (first:Int)] 126);have b7:=((FrU.refl D u w).alloc (Zc #[U O e,I k,U O j,J (Z (A g o F)) (a.length+1) h] 25)).alloc (Zc #[U O ctx,U O (first:Int)] 126);have aV:=af.begin bh oA
 have aZ:HS w.heap.size g o (U O e) (I k) (U O j) (J (Z (A g o F)) (a.length+1) h) (U O P) (I V) (U O Q) (J K T M) (U O ctx) (U O (first:Int)) ((w.alloc (Zc #[U O e,I k,U O j,J (Z (A g o F)) (a.length+1) h] 25)).alloc (Zc #[U O ctx,U O (first:Int)] 126)) :=
  HS.new af.bs W k0 k1 k2 k3
 have bu:g≠D:=by have:=x.hD;omega
 have cf:=x.mp.lt;have cp:=x.fm;have cj:=qU c;have cm:=kR a;have cu:=vQ a;have ch:kA (c :: a)=kC c+kA a:=rfl;have ad:=fun d (l:CS w0 d D Kb kn kf (kJ L) u (at_+1))=>gU E L ctx (b2.agr ctx) bP c _ d (at_+1) ba ax l oA oA
 have aK:Hid (∀f,exF E L ctx X c (at_+1)=.ok f->f.2=at_+1+kC c):=fun f ay=>uI E L ctx _ _ _ _ ay
 clear ax k0 k1 k2 k3 ba b2 b1 b6;generalize exF E L ctx X c (at_+1)=bf at *;have cq:¬e=7:=oA;have cr:¬e=8:=oA;have ct:¬e=9:=oA;go_enter func104,ntmps104;go_wp2_with (go_at_call 49;refine aV.mono ?_;rintro c w1 ⟨rfl,a8⟩;have l:CS w0 w1 D Kb kn kf (kJ L) u (at_+1):=by { rw[a8];exact af.setAt _ };have b0:HS w.heap.size g o (U O e) (I k) (U O j) (J (Z (A g o F)) (a.length+1) h) (U O P) (I V) (U O Q) (J K T M) (U O ctx) (U O (first:Int)) w1:=by { rw[a8];exact aZ.setD oA oA bu _ _ };have ai:FrU D u u w w1:=by { rw[a8];exact b7.set _ _ (fun _ c=>c) };have ak:w.heap.size+2<=w1.heap.size:=by { rw[a8,jQ];simp };clear a8;obtain⟨aA,aB,aC,aD,aE,aF,aG,aH,aI,aJ⟩:=id b0);clear aA aB aC aD aE aF aG aH aI aJ af b7 aZ aV
 all_goals
  have y:HS w.heap.size g o (U O e) (I k) (U O j) (J (Z (A g o F)) (a.length+1) h) (U O P) (I V) (U O Q) (J K T M) (U O ctx) (U O (first:Int)) w1.drew:=b0;refine wp_region_held_drew (S:=HS w.heap.size g o (U O e) (I k) (U O j) (J (Z (A g o F)) (a.length+1) h) (U O P) (I V) (U O Q) (J K T M) (U O ctx) (U O (first:Int))) oD y (fun C=>?_);clear C;replace l:=l.drew;replace ai:=ai.drew;replace ak:w.heap.size+2<=w1.drew.heap.size:=ak;generalize w1.drew=d at *;refine tkP 0 (Zp (Z (A D 0 F))) y ?_;simp only[Act.put,jA,jB,jC];refine tkP 1 (Zp (Z (A w.heap.size 3 F))) y ?_;simp only[Act.put,jA,jB,jC];refine tkP 2 (J (Z (A g o F)) (a.length+1) h) y ?_;simp only[Act.put,jA,jB,jC];refine tkP 3 (Zp (Z (A g o F))) y ?_;simp only[Act.put,jA,jB,jC];refine tkP 4 (Za #[U O P,I V,U O Q,J K T M]) y ?_;simp only[Act.put,jA,jB,jC];refine tkP 5 (Zp (Z (A (w.heap.size+1) 0 F))) y ?_;simp only[Act.put,jA,jB,jC];refine tkP 6 (U O ctx) y ?_;simp only[Act.put,jA,jB,jC];refine oneH 7 fun a5 N=>?_
  go_simp;go_at_call 106;refine(ad d l).mono ?_
  cases bf with
  | bad ao an =>
   have a3:Hid (R=.bad ao an):=ab.out;rintro c w2 ⟨rfl,ar⟩;go_wp2
   exact⟨rfl,SR.mkBad a3.out ar⟩
  | ok f =>
   have aM:=aK.out f rfl;obtain⟨z,c8⟩:=f;dsimp only at aM;subst aM;have a3:Hid (R=zX E p (jn ctx z) (deep+1) a L (at_+1+kC c)):=ab.out;clear ab aK;rintro cd w2 ⟨rfl,ag,ae⟩;dsimp only at ag;have ah:=y.fr (FrU.of ae u) l.bs ag.bs W oA oA (fun c=>oz17y159) (fun c=>oz17y159);have br:=ai.trans (FrU.of ae u);have cw:w.heap.size+2<=w2.heap.size:=jp ak ae.size;clear ae y l ai ad ak;go_wp2;refine N.out _ _ ah (fun C=>?_);clear N a5 C;refine tkP 8 (U O z) ah ?_;simp only[Act.put,jA,jB,jC];simp only[List.getElem_toArray,List.getElem_cons_succ,jI,List.setIfInBounds_toArray,List.set_cons_zero,List.set_cons_succ];refine wpAnyH_done oD ?_ _;obtain⟨aA,aB,aC,aD,aE,aF,aG,aH,aI,aJ⟩:=id ah;have cg:¬h=1:=oA;go_wp2;clear aA aB aC aD aE aF aG aH aI aJ;go_loopw [104] (fun a9 wr=>∃(b:Nat) (aa:Zv),b<=a.length/\a9=U O b/\CS w0 wr D Kb kn kf (kJ L) aa (at_+1+kC c+kA (a.take b))/\FrU D u aa w2 wr/\Hid (R=zX E p (jn ctx z) (deep+1) (a.drop b) L (at_+1+kC c+kA (a.take b)))) (fun a9 _=>a.length - (intOf a9).toNat)
   case atStart =>
    refine⟨0,u,jz _,rfl,by simpa[kA] using ag,FrU.refl _ _ _,?_⟩;show _=_;rw[a3.out,List.drop_zero];simp only[List.take_zero,kA,Int.add_zero]
   case round =>
    obtain⟨b,aa,au,rfl,G,a6,ac⟩:=hrel;have bo:=ah.fr a6 ag.bs G.bs W oA oA (fun c=>oz17y159) (fun c=>oz17y159);have bN:∀B,aa.ownBlock=Z B->B<wr.heap.size:=fun B c=>(G.rl.lt _ c).2
    by_cases a7:b<a.length
    ·obtain⟨q,t,r,m,s,n,aN,aO,aP,aQ,b8⟩:=aw b a7;have bS:=(G.bs.cell (p:=(A g (o+4+b*4) F)) W).trans aN;have bX:=(G.bs.cell (p:=(A g (o+4+b*4+1) F)) W).trans aO;have bY:=(G.bs.cell (p:=(A g (o+4+b*4+2) F)) W).trans aP;have bZ:=(G.bs.cell (p:=(A g (o+4+b*4+3) F)) W).trans aQ;have bE:=xE a b a7;have bF:=xY a (b+1);have bG:=qU a[b];have bH:=kR (a.take b);have l:=G.alloc (Zc #[U O q,I t,U O r,J m s n] 25);have ap:=a6.alloc (Zc #[U O q,I t,U O r,J m s n] 25);have cx:w2.heap.size<=wr.heap.size:=a6.size;have ad:=fun d bm=>ih b a7 (jn ctx z) deep first L aa _ d (at_+1+kC c+kA (a.take b)) b8 bn aX bj (zgy _ _) bq bm oA oA
     have HP:Hid (R=match blF E p (jn ctx z) (deep+1) a[b] L (at_+1+kC c+kA (a.take b))with
       | .bad h B=>.bad h B
       | .ok f=>zX E p (jn ctx z) (deep+1) (a.drop (b+1)) f.1 f.2):=ac.out.trans (zti E p _ _ a b a7 L _)
     have aL:Hid (∀f,blF E p (jn ctx z) (deep+1) a[b] L (at_+1+kC c+kA (a.take b))=.ok f->f.1=L/\f.2=at_+1+kC c+kA (a.take (b+1))):=fun f ay=>by
      obtain⟨bi,ce⟩:=zgx E p _ _ _ _ _ _ (bD _ (jH a7)) ay;exact⟨bi,oA⟩
     clear aN aO aP aQ b8 ac bE bF bG bH ih aw a3;generalize blF E p (jn ctx z) (deep+1) a[b] L (at_+1+kC c+kA (a.take b))=bg at *;have n0:=kK bo.2.2.2.2.2.2.2.2.1 (Zc #[U O q,I t,U O r,J m s n] 25);have i:(fun d=>d.cell? (A wr.heap.size 0 F)=Z (U O q)/\d.cell? (A wr.heap.size 1 F)=Z (I t)/\d.cell? (A wr.heap.size 2 F)=Z (U O r)/\d.cell? (A wr.heap.size 3 F)=Z (J m s n)/\d.cell? (A (w.heap.size+1) 0 F)=Z (U O ctx)) (wr.alloc (Zc #[U O q,I t,U O r,J m s n] 25)).drew:=⟨oB,oB,oB,oB,n0⟩
     go_wp2;refine wp_region_held_drew (S:=fun d=>d.cell? (A wr.heap.size 0 F)=Z (U O q)/\d.cell? (A wr.heap.size 1 F)=Z (I t)/\d.cell? (A wr.heap.size 2 F)=Z (U O r)/\d.cell? (A wr.heap.size 3 F)=Z (J m s n)/\d.cell? (A (w.heap.size+1) 0 F)=Z (U O ctx)) oD i (fun C=>?_);clear C bS bX bY bZ;replace l:=l.drew;replace ap:=ap.drew;have aj:wr.heap.size<(wr.alloc (Zc #[U O q,I t,U O r,J m s n] 25)).drew.heap.size:=by show _<(wr.alloc (Zc #[U O q,I t,U O r,J m s n] 25)).heap.size;simp
     generalize (wr.alloc (Zc #[U O q,I t,U O r,J m s n] 25)).drew=c7 at *;refine tkP 0 (Zp (Z (A D 0 F))) i ?_;simp only[Act.put,jA,jB,jC];refine tkP 1 (Za #[U O q,I t,U O r,J m s n]) i ?_;simp only[Act.put,jA,jB,jC];refine tkP 2 (Zp (Z (A (w.heap.size+1) 0 F))) i ?_;simp only[Act.put,jA,jB,jC];refine tkP 3 (U O ctx) i ?_;simp only[Act.put,jA,jB,jC];refine tkP 4 (U O z) i ?_;simp only[Act.put,jA,jB,jC];refine oneH 5 fun a5 N=>?_
     go_simp;go_at_call 130;refine(zad _ _ _).mono ?_;rintro aR cy ⟨rfl,bR⟩;obtain rfl:=bR.symm;go_wp2;refine N.out _ _ i (fun C=>?_);clear N a5 C;refine oneH 6 fun a5 N=>?_
     go_simp;go_at_call 129;refine(ad _ l).mono ?_
     cases bg with
     | bad ao an =>
      have am:Hid (R=.bad ao an):=HP.out;rintro aR bb ⟨rfl,ar⟩;go_wp2
      exact⟨rfl,SR.mkBad am.out ar⟩
     | ok f =>
      obtain⟨be,c9⟩:=f;obtain⟨aS,aT⟩:=aL.out _ rfl;dsimp only at aS aT;subst aS aT;have am:Hid (R=zX E p (jn ctx z) (deep+1) (a.drop (b+1)) be (at_+1+kC c+kA (a.take (b+1)))):=HP.out;clear HP aL;rintro aR bb ⟨rfl,c6,aW,a2⟩;dsimp only at aW;have bp:(fun d=>d.cell? (A wr.heap.size 0 F)=Z (U O q)/\d.cell? (A wr.heap.size 1 F)=Z (I t)/\d.cell? (A wr.heap.size 2 F)=Z (U O r)/\d.cell? (A wr.heap.size 3 F)=Z (J m s n)/\d.cell? (A (w.heap.size+1) 0 F)=Z (U O ctx)) bb:=⟨(a2.cell aj oA (fun c=>oz17y160)).trans i.1,(a2.cell aj oA (fun c=>oz17y160)).trans i.2.1,(a2.cell aj oA (fun c=>oz17y160)).trans i.2.2.1,(a2.cell aj oA (fun c=>oz17y160)).trans i.2.2.2.1,(a2.cell oA oA (fun c=>by rcases a6.own _ c with aU | aU;have:=b9 _ aU;omega;omega)).trans i.2.2.2.2⟩
      go_wp2;refine N.out _ _ bp (fun C=>?_);clear N a5 C;refine wpAnyH_done oD ?_ _;go_wp2;exact⟨⟨b+1,c6,oA,oB,aW,ap.trans a2,am.out⟩,by simp[intOf];omega⟩
    ·obtain rfl:b=a.length:=oA
     have bc:Hid (R=.ok (L,at_+1+kC c+kA a)):=by
      show _=_;rw[ac.out,List.drop_eq_nil_of_le oA,jG oA];simp only[zX]
     rw[jG oA]at G;clear ih ac aw a3;go_wp2
     go_end0
     exact SR.mkOk bc.out G (br.trans a6)
end
def HP (N g o:Nat) (n0 n1 n2 n3 k0 k1 k2 k3 s3 b:Zv) (a:Zw):Prop :=
 a.cell? (A N 0 F)=Z n0/\a.cell? (A N 1 F)=Z n1/\a.cell? (A N 2 F)=Z n2/\a.cell? (A N 3 F)=Z n3 /\
 a.cell? (A g o F)=Z k0/\a.cell? (A g (o+1) F)=Z k1/\a.cell? (A g (o+2) F)=Z k2/\a.cell? (A g (o+3) F)=Z k3 /\
 a.cell? (A (N+1) 3 F)=Z s3/\a.cell? (A (N+1) 5 F)=Z b
theorem HP.to {N g o:Nat} {n0 n1 n2 n3 k0 k1 k2 k3 e f:Zv} {w w':Zw} (h:HP N g o n0 n1 n2 n3 k0 k1 k2 k3 e f w) (b:∀a,w'.cell? (A N a F)=w.cell? (A N a F)) (d:∀a,w'.cell? (A (N+1) a F)=w.cell? (A (N+1) a F)) (c:∀a,w'.cell? (A g a F)=w.cell? (A g a F)):HP N g o n0 n1 n2 n3 k0 k1 k2 k3 e f w':=by
 unfold HP;rw[b,b,b,b,d,d,c,c,c,c];exact h
theorem HP.setD {N g o D:Nat} {n0 n1 n2 n3 k0 k1 k2 k3 d e:Zv} {w:Zw} (f:HP N g o n0 n1 n2 n3 k0 k1 k2 k3 d e w) (h:N≠D) (i:N+1≠D) (j:g≠D) (c:Nat) (v:Zv):HP N g o n0 n1 n2 n3 k0 k1 k2 k3 d e (w.setCell (A D c F) v) :=
 f.to (fun b=>jM (a:=(A N b F)) (jP w (A D c F) v N h)) (fun b=>jM (a:=(A (N+1) b F)) (jP w (A D c F) v (N+1) i)) (fun b=>jM (a:=(A g b F)) (jP w (A D c F) v g j))
theorem HP.fr {N g o D:Nat} {n0 n1 n2 n3 k0 k1 k2 k3 e f:Zv} {w0 w w':Zw} {u n:Zv} (b:HP N g o n0 n1 n2 n3 k0 k1 k2 k3 e f w) (c:FrU D u n w w') (h:Below w0.heap.size w0 w) (i:Below w0.heap.size w0 w') (d:g<w0.heap.size) (j:N≠D) (k:N+1≠D) (l:u.ownBlock≠Z N) (m:u.ownBlock≠Z (N+1)):HP N g o n0 n1 n2 n3 k0 k1 k2 k3 e f w' :=
 b.to (fun a=>c.cell (jR w (A N 0 F) b.1) j l) (fun a=>c.cell (jR w (A (N+1) 3 F) b.2.2.2.2.2.2.2.2.1) k m) (fun a=>(i.cell (p:=(A g a F)) d).trans (h.cell (p:=(A g a F)) d).symm)
section
variable {E:Env} {p:Pr} {w0:Zw} {D Kb kn:Nat} {kf:KF}
theorem zya (b:Tree) (ak:ExT b) (ae:∀L,qN L->Tab E L kf (kJ L)) (a:ProcD) (n:Option Addr) (r q:Nat) (ah:a.gives=H) (ay:Lab a.given) (L:List Loc) (u v:Zv) (w:Zw) (at_:Int) (aj:Lies (·<w0.heap.size) w0 (.node 14 empty 0 [b]) v) (au:qN L) (aH:L.length<=20) (l:CS w0 w D Kb kn kf (kJ L) u at_) (ap:0<=at_) (az:at_+kC (.node 14 empty 0 [b])<=1000000) : Calls prog 90 #[Zp (Z (A D 0 F)),v,qR a (J n r q)] w (SR w0 D Kb kn kf u w (stF E ⟨a.gives,a.given⟩ a.writes 1 H (.node 14 empty 0 [b]) L at_)):=by
 have aF:=kc25;have aG:prog.cellsOf 57=6:=vA;have a5:=ae L au;have aB:(kJ L).length<=1000:=by rw[xO];omega
 rw[qT,vC]at az;have aI:=qU b;obtain⟨g,o,d,rfl,m,aK,ai⟩:=gO aj oB;obtain⟨B,K,C,t,G,x,k0,k1,k2,k3,a6⟩:=ai 0 oB;simp only[Nat.zero_mul,Nat.add_zero,jI,List.length_singleton]at k0 k1 k2 k3 a6 |-;have M:=show Hid _ from zy3 (E:=E) (L:=L) ⟨a.gives,a.given⟩ a.writes 1 at_ a5 ah ay b
 obtain⟨R,aa⟩:∃R,stF E ⟨a.gives,a.given⟩ a.writes 1 H (.node 14 empty 0 [b]) L at_=R:=⟨_,rfl⟩
 rw[aa]at M |-;clear aa ai aj ah;unfold qR;have aA:∀V,u.ownBlock=Z V->V<w.heap.size:=fun V b=>(l.rl.lt _ b).2
 have aJ:=l.lt;have h:=(l.alloc (Zc #[U O 14,I empty,U O 0,J (Z (A g o F)) 1 d] 25)).alloc (Zc #[I a.name,Y a.pub,J n r q,U O a.writes,Y a.gives,U O a.given] 57);have af:=((FrU.refl D u w).alloc (Zc #[U O 14,I empty,U O 0,J (Z (A g o F)) 1 d] 25)).alloc (Zc #[I a.name,Y a.pub,J n r q,U O a.writes,Y a.gives,U O a.given] 57);have a8:=h.begin ap oA
 have ab:HP w.heap.size g o (U O 14) (I empty) (U O 0) (J (Z (A g o F)) 1 d) (U O B) (I K) (U O C) (J t G x) (U O a.writes) (U O a.given) ((w.alloc (Zc #[U O 14,I empty,U O 0,J (Z (A g o F)) 1 d] 25)).alloc (Zc #[I a.name,Y a.pub,J n r q,U O a.writes,Y a.gives,U O a.given] 57)) :=
  ⟨oB,oB,oB,oB,(h.bs.cell (p:=(A g o F)) m).trans k0,(h.bs.cell (p:=(A g (o+1) F)) m).trans k1,(h.bs.cell (p:=(A g (o+2) F)) m).trans k2,(h.bs.cell (p:=(A g (o+3) F)) m).trans k3,xF _ #[I a.name,Y a.pub,J n r q,U O a.writes,Y a.gives,U O a.given] _ (w.heap.size+1) oB 3 _ rfl,xF _ #[I a.name,Y a.pub,J n r q,U O a.writes,Y a.gives,U O a.given] _ (w.heap.size+1) oB 5 _ rfl⟩
 have ax:g≠D:=by have:=l.hD;omega
 have a9:=fun N (i:CS w0 N D Kb kn kf (kJ L) u (at_+1))=>gU E L a.writes (a5.agr a.writes) aB b _ N (at_+1) ak a6 i oA oA
 clear a6 k0 k1 k2 k3 ak a5 ae;generalize exF E L a.writes X b (at_+1)=am at *;go_enter func90,ntmps90;go_wp2_with (go_at_call 49;refine a8.mono ?_;rintro b w1 ⟨rfl,Q⟩;have i:CS w0 w1 D Kb kn kf (kJ L) u (at_+1):=by { rw[Q];exact h.setAt _ };have ac:HP w.heap.size g o (U O 14) (I empty) (U O 0) (J (Z (A g o F)) 1 d) (U O B) (I K) (U O C) (J t G x) (U O a.writes) (U O a.given) w1:=by { rw[Q];exact ab.setD oA oA ax _ _ };have P:FrU D u u w w1:=by { rw[Q];exact af.set _ _ (fun _ b=>b) };clear Q);clear h af ab a8;have c:HP w.heap.size g o (U O 14) (I empty) (U O 0) (J (Z (A g o F)) 1 d) (U O B) (I K) (U O C) (J t G x) (U O a.writes) (U O a.given) w1.drew:=ac;refine wp_region_held_drew (S:=HP w.heap.size g o (U O 14) (I empty) (U O 0) (J (Z (A g o F)) 1 d) (U O B) (I K) (U O C) (J t G x) (U O a.writes) (U O a.given)) oD c (fun f=>?_);clear f ac;replace i:=i.drew;replace P:=P.drew;generalize w1.drew=N at *;refine tkP 0 (U O at_) c ?_;simp only[Act.put,jA,jB,jC];refine tkP 1 (Zp (Z (A (w.heap.size+1) 5 F))) c ?_;simp only[Act.put,jA,jB,jC];refine tkP 2 (U O a.given) c ?_;simp only[Act.put,jA,jB,jC];refine tkP 3 (Zp (Z (A D 0 F))) c ?_;simp only[Act.put,jA,jB,jC];refine tkP 4 (Zp (Z (A w.heap.size 3 F))) c ?_;simp only[Act.put,jA,jB,jC];refine tkP 5 (J (Z (A g o F)) 1 d) c ?_;simp only[Act.put,jA,jB,jC];refine tkP 6 (Zp (Z (A g o F))) c ?_;simp only[Act.put,jA,jB,jC];refine tkP 7 (Za #[U O B,I K,U O C,J t G x]) c ?_;simp only[Act.put,jA,jB,jC];refine tkP 8 (Zp (Z (A (w.heap.size+1) 3 F))) c ?_;simp only[Act.put,jA,jB,jC];refine tkP 9 (U O a.writes) c ?_;simp only[Act.put,jA,jB,jC];refine oneH 10 fun s e=>?_
 go_simp;go_at_call 106;refine(a9 N i).mono ?_
 cases am with
 | bad ao an =>
  have k:Hid (R=.bad ao an):=M.out;rintro b w2 ⟨rfl,av⟩;go_wp2
  exact⟨rfl,SR.mkBad k.out av⟩
 | ok aC =>
  obtain⟨j,a7⟩:=aC;have k:Hid (R=if zE a.given [j]=X then .bad 7 at_ else .ok (L,a7)):=M.out;clear M;rintro b w2 ⟨rfl,y,W⟩;dsimp only at y;have a3:=c.fr (FrU.of W u) i.bs y.bs m oA oA (fun b=>oz17y161) (fun b=>oz17y161);have ag:=P.trans (FrU.of W u);clear W c i P a9;go_wp2;refine e.out _ _ a3 (fun f=>?_);clear e s f;refine oneH 11 fun s e=>?_
  go_simp;have ar:=za5 w2 j;have a2:=y.alloc (Zc #[U O j] 3);have ad:=a3.fr ((FrU.refl D u w2).alloc (Zc #[U O j] 3)) y.bs a2.bs m oA oA (fun b=>oz17y161) (fun b=>oz17y161);have aw:=ag.alloc (Zc #[U O j] 3);refine e.out _ _ ad (fun f=>?_);clear e s f a3 y ag;generalize w2.alloc (Zc #[U O j] 3)=aE at *;generalize w2.heap.size=aD at *;refine oneH 12 fun s e=>?_
  go_simp;go_at_call 105;refine(fP at_ a.given [j] _ _ ar).mono ?_;rintro b aL (⟨z,rfl,rfl⟩|⟨z,rfl,rfl⟩)
  ·have T:Hid (R=.ok (L,a7)):=k.out.trans (ju (by rw[z];decide));clear z k;go_wp2;refine e.out _ _ ad (fun f=>?_);clear e s f;refine wpAnyH_done oD ?_ _;go_wp2
   go_end0
   exact SR.mkOk T.out a2 aw
  ·have T:Hid (R=.bad 7 at_):=k.out.trans (jv z);clear z k;go_wp2;exact⟨rfl,SR.mkBad T.out a2.bs⟩
end
theorem zcq {w:Zw} {i:Nat->Prop} {e:Int} {h:ByteArray} {g:Int} {f:List Tree} {a:Option Addr} {j c:Nat} (d:Lies i w (.node e h g f) (Za #[U O e,I h,U O g,J a j c])):f.length<=c:=by
 unfold Lies at d;obtain⟨k,l,b,⟨m,n⟩,_⟩:=d;injection b with b;simp only[Array.mk.injEq,jq,and_true,true_and,Value.slice.injEq]at b;omega
section
variable {E:Env} {p:Pr} {w0:Zw} {D Kb kn:Nat} {kf:KF}
theorem zuc (f:∀L,qN L->Tab E L kf (kJ L)):∀l:Nat,(∀a:Tree,SizeOf.sizeOf a<=l->StT a->fO E p w0 D Kb kn kf a)/\(∀a:Tree,SizeOf.sizeOf a<=l->BlT a->zgv E p w0 D Kb kn kf a):=by
 intro l
 induction l with
 | zero =>
  refine⟨fun a b=>?_,fun a b=>?_⟩<;>(obtain⟨t,v,u,k⟩:=a;simp at b)
 | succ l ih =>
  obtain⟨G,x⟩:=ih
  have r:∀ {t:Int} {v:ByteArray} {u:Int} {k:List Tree},SizeOf.sizeOf (Tree.node t v u k)<=l+1->∀a∈k,SizeOf.sizeOf a<=l:=fun b a c=>by
   have K:=List.sizeOf_lt_of_mem c;simp at b;omega
  refine⟨fun a b C=>?_,fun a b i=>?_⟩
  ·cases C with
   | loc m e d=>exact zss _ m _ d f
   | set w d =>
    cases w with
    | nam e=>exact zj8 16 _ 0 [] _ (.nam e) d e (fun a c=>by cases c) f
    | item e hi=>exact zj8 17 _ 0 _ _ (.item e hi) d e (fun a c=>oz17y162) f
   | dd q =>
    cases q with
    | mk e B=>exact zyb _ 0 _ e B f
   | ift d i =>
    exact zga 10 (.inl rfl) _ _ _ _ d (fun a c=>oz17y163) oB f (fun g o y n=>zcq n) (fun s j=>by
     have h:=jH j
     exact x _ (r b _ (jF _ h)) oz17y164)
   | ife d i q =>
    exact zga 10 (.inl rfl) _ _ _ _ d (fun a c=>by simp only[List.mem_cons,List.not_mem_nil,or_false]at c;rcases c with rfl | rfl;exact i;exact q) oB f (fun g o y n=>zcq n) (fun s j=>by
     have h:=jH j;refine x _ (r b _ (jF _ h)) ?_;generalize ([_,_]:List Tree)[s]=a at h;simp only[List.mem_cons,List.not_mem_nil,or_false]at h;rcases h with rfl | rfl
     ·exact i
     ·exact q)
   | whi d i =>
    exact zga 11 (.inr rfl) _ _ _ _ d (fun a c=>oz17y163) oB f (fun g o y n=>zcq n) (fun s j=>by
     have h:=jH j
     exact x _ (r b _ (jF _ h)) oz17y164)
   | out m d=>exact zwh m _ d f
   | inn m w =>
    cases w with
    | nam e=>exact zm8 m 16 _ 0 [] (.nam e) e (fun a c=>by cases c) f
    | item e hi=>exact zm8 m 17 _ 0 _ (.item e hi) e (fun a c=>oz17y162) f
   | ret d=>exact zwi _ d f
  ·obtain⟨t,v,u,k⟩:=a;have z:∀a∈k,StT a:=by cases i with | mk b=>exact b
   exact zzt t v u k i (zpq k z (fun s j=>G _ (r b _ (jH j)) (z _ (jH j))))
theorem zud (c:∀L,qN L->Tab E L kf (kJ L)) (a:List Tree) (b:∀t∈a,StT t):zgw E p w0 D Kb kn kf a :=
 zpq a b (fun e d=>(zuc c _).1 _ (jE _) (b _ (jH d)))
end
end chk
end Go.Proofs.YtjkcecppnmlhjaaGreatDoor
