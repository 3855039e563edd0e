/- What the program's goOver answers: a contract; a fault is thrown, and recovered. -/
import Derived.Test.YtjkcecppnmlhjaaGreatDoorNQr
import Derived.Test.YtjkcecppnmlhjaaGreatDoorNQ17
import Derived.Test.YtjkcecppnmlhjaaGreatDoorNQ12
open Go.Proofs.Tryz
open Go.Value renaming int → U, string → I, slice → J, bool → Y, agg → Za, pointer → Zp
open Go.IntKind renaming i64 → O
open Go.Obj renaming cells → Zc
open Go.Addr renaming mk → A
open Option renaming none → F, some → Z
open Bool renaming false → X, true → H
open Go renaming World → Zw, Value → Zv
set_option maxHeartbeats 4000000
set_option linter.unusedVariables false
set_option linter.unusedSimpArgs false
set_option maxRecDepth 100000
namespace Go.Proofs.YtjkcecppnmlhjaaGreatDoor
theorem oz18y177 {p:Prop} (g:p:=by
 rw[L];exact aP.other oA _):p:=g
theorem oz18y176 {p:Prop} (g:p:=by
 have dh:w.cell? (A D 5 F)=Z (.map (Z Kb)):=an;go_simp):p:=g
theorem oz18y170 {e:Prop} (K:e:=by
 rw[zfs];exact dw):e:=K
theorem oz18y169 {e:Prop} (K:e:=by
 rw[L,jQ];exact jE _):e:=K
theorem oz18y168 {e:Prop} (K:e:=by
 rw[L];exact aJ.other oA _):e:=K
theorem oz18y167 {e:Prop} (K:e:=by
 rw[L];exact aH.other oA _):e:=K
theorem oz18y166 {e:Prop} (K:e:=by
 rw[L];exact C.setAt _):e:=K
theorem oz18y165 {e:Prop} (K:e:=by
 rcases av.own _ b with ba | ba;cases ba;omega):e:=K
theorem oz18y174 {t:Prop} (au:t:=by
 have:=aL _ r;omega):t:=au
theorem oz18y173 {t:Prop} (au:t:=by
 show _=_;rw[aJ.out,aN.out]):t:=au
theorem oz18y172 {t:Prop} (au:t:=by
 show _=_;rw[fT,HP.out];simp[kL]):t:=au
theorem oz18y171 {t:Prop} (au:t:=by
 show _=_;rw[fU,aI.out];simp[kI]):t:=au
theorem oz18y175 {h:Prop} (d:h:=by
 injection b with b;exact b.symm):h:=d
namespace chk
open syn face
def qJ (ps:List (ByteArray × Bool)):List Loc:=ps.map fun q=>⟨q.1,bI q.2,1⟩
theorem zfs (ps:List (ByteArray × Bool)):(qJ ps).length=ps.length:=by unfold qJ;rw[List.length_map]
theorem bJ (ps:List (ByteArray × Bool)):qN (qJ ps):=by
 intro b a;obtain⟨q,_,rfl⟩:=List.mem_map.1 a;exact fH _
theorem zc4 (ps:List (ByteArray × Bool)):InvL (qJ ps) 1 0:=by
 refine⟨jz _,fun b a=>by simp at a,fun b a=>?_⟩;rw[List.drop_zero]at a;obtain⟨q,_,rfl⟩:=List.mem_map.1 a;rfl
theorem zev (k:Int) (x:ByteArray) (m:Int):∀ks:List Tree,yF (.node k x m ks)=yT ks
 | []=>rfl
 | [.node k2 y n l]=>rfl
 | a :: b :: r=>by
  have ih:=zev k x m (b :: r);simp only[yF]at ih |-;rw[List.getLast?_cons_cons];rw[show yT (a :: b :: r)=yT (b :: r) by simp[yT]];exact ih
theorem zew (b:Tree):∀ks:List Tree,yT (ks++[b])=yT [b]
 | []=>rfl
 | [a]=>by simp[yT]
 | a :: c :: r=>by
  have ih:=zew b (c :: r);show yT (a :: c :: (r++[b]))=_;rw[show yT (a :: c :: (r++[b]))=yT (c :: (r++[b])) by simp[yT]];exact ih
section
variable (E:Env) (q:ProcD) (ps:List (ByteArray × Bool)) (k:Int) (x:ByteArray) (m:Int) (ks:List Tree) (a:Int)
theorem zdv (b:Bool):prF E q ps (.node k x m ks) b a=match qP E ⟨q.gives,q.given⟩ q.writes 1 ks (qJ ps) (a+1+ps.length+1)with
  | .bad c d=>.bad c d
  | .ok s=>if q.gives=H/\b=X then .bad 2 a else .ok s.2:=by
 unfold prF;rw[show(ps.map fun e=>(⟨e.1,bI e.2,1⟩:Loc))=qJ ps from rfl];simp only[blF];cases qP E ⟨q.gives,q.given⟩ q.writes 1 ks (qJ ps) (a+1+ps.length+1)<;>rfl
theorem zwo (g:∀t∈ks,StT t) (e:q.gives=X):prF E q ps (.node k x m ks) (yF (.node k x m ks)) a=match qK E ⟨q.gives,q.given⟩ q.writes 1 ks (qJ ps) (a+1+ps.length+1)with
  | .bad c b=>.bad c b
  | .ok f=>.ok f.2:=by
 rw[zdv,zje E _ _ e ks _ _ g]
 cases qK E ⟨q.gives,q.given⟩ q.writes 1 ks (qJ ps) (a+1+ps.length+1)with
 | bad c b=>rfl
 | ok f=>exact ju (fun d=>by rw[e]at d;exact absurd d.1 oC)
theorem zuo (f:∀t∈ks,StT t) (e:q.gives=H) (d:yT ks=X):prF E q ps (.node k x m ks) (yF (.node k x m ks)) a=match qK E ⟨q.gives,q.given⟩ q.writes 1 ks (qJ ps) (a+1+ps.length+1)with
  | .bad c b=>.bad c b
  | .ok g=>.bad 2 a:=by
 rw[zdv,zil E _ _ ks _ _ f d,zev,d]
 cases qK E ⟨q.gives,q.given⟩ q.writes 1 ks (qJ ps) (a+1+ps.length+1)with
 | bad c b=>rfl
 | ok g=>exact jv ⟨e,rfl⟩
theorem zyi (d:Tree) (g:yT (ks++[d])=H):prF E q ps (.node k x m (ks++[d])) (yF (.node k x m (ks++[d]))) a=match qK E ⟨q.gives,q.given⟩ q.writes 1 ks (qJ ps) (a+1+ps.length+1)with
  | .bad c e=>.bad c e
  | .ok b=>match stF E ⟨q.gives,q.given⟩ q.writes 1 H d b.1 b.2 with
   | .bad c e=>.bad c e
   | .ok b=>.ok b.2:=by
 rw[zdv,zmn E _ _ d ks,zev,g]
 cases qK E ⟨q.gives,q.given⟩ q.writes 1 ks (qJ ps) (a+1+ps.length+1)with
 | bad c e=>rfl
 | ok b =>
  dsimp only
  cases stF E ⟨q.gives,q.given⟩ q.writes 1 H d b.1 b.2 with
  | bad c e=>rfl
  | ok h=>exact ju (fun f=>absurd f.2 oC)
end
theorem zi8 (x:ByteArray) (c b:Bool) (a:Option Bool) (ps:List (ByteArray × Bool)):(∀d∈(kO x c b a ps).params,Lab d)/\Lab (kO x c b a ps).writes/\Lab (kO x c b a ps).given:=by
 refine⟨fun d e=>?_,fH _,fH _⟩;obtain⟨q,_,rfl⟩:=List.mem_map.1 e;exact fH _
end chk
namespace chk
open Go.RowKit Go.Shelf
open syn face
theorem zsx {w:Zw} {B:Nat} {x:ByteArray} {z u:Bool} {n:Option Bool} {ps:List (ByteArray × Bool)} {g:List Tree} {v:Zv} (k:Lies (·<B) w (Kid.proc x z u n ps (.node 6 empty 0 g)).tree v) : ∃b f c,v=Za #[U O 4,I x,U O (2*bI z+bI u+gI n),J (Z (A b f F)) (ps.length+1) c]/\b<B/\ps.length+1<=c/\ps.length+1<=4611686018427387904 /\ (∀d (p:d<ps.length),∃T V,w.cell? (A b (f+d*4) F)=Z (U O 5)/\w.cell? (A b (f+d*4+1) F)=Z (I ps[d].1)/\w.cell? (A b (f+d*4+2) F)=Z (U O (bI ps[d].2))/\w.cell? (A b (f+d*4+3) F)=Z (J T 0 V)) /\ ∃C D,w.cell? (A b (f+ps.length*4+3) F)=Z (J C g.length D)/\g.length<=D/\g.length<=4611686018427387904/\(g≠[]->∃j y,C=Z (A j y F)/\j<B/\kQ (·<B) w g j y):=by
 unfold Kid.tree at k;have M:=k;obtain⟨b,f,c,rfl,N,q,l⟩:=gO k oB;have o:=zcq M;simp only[jb,List.length_map,List.length_singleton]at q o l |-;refine⟨b,f,c,rfl,N,o,q,fun d p=>?_,?_⟩;·obtain⟨Q,W,R,h,S,i,r,s,t,m,e⟩:=l d oA;rw[List.getElem_append_left (by simpa using p),List.getElem_map]at e;unfold zO Lies at e;obtain⟨E,G,a,_,_⟩:=e;injection a with a;simp only[Array.mk.injEq,jq,and_true,Value.int.injEq,Value.string.injEq,Value.slice.injEq,true_and,je]at a;obtain⟨rfl,rfl,rfl,rfl,rfl,rfl⟩:=a;exact⟨h,i,r,s,t,m⟩
 ·obtain⟨Q,W,R,h,S,i,r,s,t,m,e⟩:=l ps.length oA;rw[List.getElem_append_right oB]at e;simp only[List.length_map,Nat.sub_self,jI]at e;unfold Lies at e;obtain⟨E,G,a,⟨K,L⟩,P⟩:=e;injection a with a;simp only[Array.mk.injEq,jq,and_true,Value.int.injEq,Value.string.injEq,Value.slice.injEq,true_and]at a;obtain⟨rfl,rfl,rfl,rfl,rfl,rfl⟩:=a;exact⟨h,i,m,L,K,P⟩
theorem cZ:∀a b:List Tree,kA (a++b)=kA a+kA b
 | [],b=>by simp[kA]
 | t :: r,b=>by
  show kC t+kA (r++b)=kC t+kA r+kA b;rw[cZ r b];omega
theorem zjn:∀ps:List (ByteArray × Bool),kA (ps.map zO)=ps.length
 | []=>by simp[kA]
 | q :: r=>by
  show kC (zO q)+kA (r.map zO)=_;rw[zjn r];unfold zO;rw[qT];simp[kA];omega
theorem zc5 (x:ByteArray) (d c:Bool) (b:Option Bool) (ps:List (ByteArray × Bool)) (a:List Tree):kC (Kid.proc x d c b ps (.node 6 empty 0 a)).tree=1+ps.length+(1+kA a):=by
 unfold Kid.tree;rw[qT,cZ,zjn,vC,qT];omega
section
variable {w0 w w':Zw} {D Kb kn:Nat} {kf:KF} {vs:List VarD} {u:Zv} {a:Int}
theorem CS.clear (b:CS w0 w D Kb kn kf vs u a):CS w0 (w.setCell (A D 6 F) (J F 0 0)) D Kb kn kf [] (J F 0 0) a:=by
 refine⟨b.bs.setCell b.hD _,b.hD,?_,?_,?_,?_,fun k=>?_,b.mp.setCell b.nk _,b.fi,fun p x c=>⟨(b.fw p x c).1,(b.fw p x c).2.1,(jM (a:=p) (jP w (A D 6 F) _ p.block (b.fw p x c).1)).trans (b.fw p x c).2.2⟩,by rw[jQ];exact b.fm,b.mM,fun e d=>(by cases d),World.ownsRow_nil _ _ _ _,b.nk,b.mx,fun d=>(by cases d)⟩;·rw[jD _ _ _ _ oB];exact b.c4
 ·rw[jD _ _ _ _ oB];exact b.c5
 ·exact World.cell?_setCell_same' _ _ _ (by rw[b.c6];rfl)
 ·rw[jD _ _ _ _ oB];exact b.c7
 ·rw[World.frozen?_setCell];exact b.fz k
end
def PR (w0:Zw) (D Kb kn:Nat) (kf:KF) (r:Res Int) (e:Ending) (w':Zw):Prop:=match r with
 | .bad c b=>e=.panicked (qI c b)/\Below w0.heap.size w0 w'
 | .ok a=>e=.returned (.tuple #[])/\∃vs u,CS w0 w' D Kb kn kf vs u a
theorem PR.mkBad {w0 w':Zw} {D Kb kn:Nat} {kf:KF} {b:Res Int} {c a:Int} (d:b=.bad c a) (e:Below w0.heap.size w0 w'):PR w0 D Kb kn kf b (.panicked (qI c a)) w':=by rw[d];exact⟨rfl,e⟩
theorem PR.mkOk {w0 w':Zw} {D Kb kn:Nat} {kf:KF} {b:Res Int} {vs:List VarD} {u:Zv} {a:Int} (c:b=.ok a) (d:CS w0 w' D Kb kn kf vs u a):PR w0 D Kb kn kf b (.returned (.tuple #[])) w':=by rw[c];exact⟨rfl,vs,u,d⟩
def kF (W:Zw) (B:Nat) (cs:Array Zv) (T:TypeId):Prop:=W.heap[B]?=Z (Zc cs T (0,0))
section
variable {W W':Zw} {B D:Nat} {cs:Array Zv} {T:TypeId} {u u':Zv}
theorem kF.lt (a:kF W B cs T):B<W.heap.size:=(Array.getElem?_eq_some_iff.1 a).1
theorem kF.new (W:Zw) (cs:Array Zv) (T:TypeId):kF (W.alloc (Zc cs T)) W.heap.size cs T:=World.alloc_heap_new W _
theorem kF.fr (a:kF W B cs T) (d:FrU D u u' W W') (b:B≠D) (c:u.ownBlock≠Z B):kF W' B cs T:=(d.block B a.lt b c).trans a
theorem kF.below (a:kF W B cs T) (b:Below W.heap.size W W'):kF W' B cs T:=(b.block B a.lt).trans a
theorem kF.grown {row:Option Nat} (a:kF W B cs T) (c:W.grownBy W' row) (d:row≠Z B):kF W' B cs T:=(c.block B a.lt (fun b=>d b.symm)).trans a
theorem kF.alloc (b:kF W B cs T) (a:Obj):kF (W.alloc a) B cs T:=b.below (bal a)
theorem kF.other (a:kF W B cs T) {b o:Nat} (c:B≠b) (v:Zv):kF (W.setCell (A b o F) v) B cs T:=(jP W (A b o F) v B c).trans a
theorem kF.set (b:kF W B cs T) (a:Nat) (v:Zv):kF (W.setCell (A B a F) v) B (cs.setIfInBounds a v) T:=heap_setCell_same W B a cs T v b
theorem kF.cell (b:kF W B cs T) (a:Nat) {v:Zv} (c:cs[a]?=Z v):W.cell? (A B a F)=Z v:=by
 simp[World.cell?,show W.heap[B]?=_ from b,c]
theorem kF.fz (a:kF W B cs T) (b:Nat):W.frozen? (A B b F)=X:=by
 simp[World.frozen?,show W.heap[B]?=_ from a]
end
theorem zum (ps:List (ByteArray × Bool)) (a:Nat) (b:a<ps.length):kJ (qJ (ps.take (a+1)))=kJ (qJ (ps.take a))++[⟨ps[a].1,X,bI ps[a].2,0⟩]:=by
 rw[List.take_succ_eq_append_getElem b];unfold qJ kJ;rw[List.map_append,List.map_append];rfl
theorem zhy {c:Nat->Prop} {w:Zw} {d:Tree}:∀ {ks:List Tree} {a b:Nat},kQ c w (ks++[d]) a b->kQ c w ks a b
 | [],a,b,h=>by unfold kQ;trivial
 | t :: r,a,b,h=>by
  rw[jK]at h;unfold kQ at h |-;exact⟨h.1,zhy h.2⟩
section
variable {E:Env} {w0:Zw} {D Kb kn:Nat} {kf:KF}
theorem yax (x:ByteArray) (e ab:Bool) (a8:Option Bool) (ps:List (ByteArray × Bool)) (N:List Tree) (c6:∀bG,qN bG->Tab E bG kf (kJ bG)) (aK:∀a7∈N,StT a7) (dw:ps.length<=20) (du:InT (.node 6 empty 0 N)) (v:Zv) (w:Zw) (at_:Int) (ew:List VarD) (ev:Zv) (cd:Lies (·<w0.heap.size) w0 (Kid.proc x e ab a8 ps (.node 6 empty 0 N)).tree v) (K:CS w0 w D Kb kn kf ew ev (at_+1)) (eI:0<=at_) (e4:at_+kC (Kid.proc x e ab a8 ps (.node 6 empty 0 N)).tree<=1000000) : Calls prog 52 #[Zp (Z (A D 0 F)),v,U O at_] w (PR w0 D Kb kn kf (prF E (kO x e ab a8 ps) ps (.node 6 empty 0 N) (yF (.node 6 empty 0 N)) at_)):=by
 have eF:=kc25;have eE:=kc126;have eH:prog.cellsOf 57=6:=vA;have eG:prog.cellsOf 52=4:=cell4;obtain⟨en,hi,ej,ek,em⟩:=info_parts zbw;have dx:=fun W (cz:Below w0.heap.size w0 W)=>zf9 x e ab a8 ps (.node 6 empty 0 N) v W (cd.to (fun o c7=>jo c7 cz.size) (fun o c7 M=>cz.cell (p:=(A o M F)) c7)) oA du
 rw[zc5 x e ab a8 ps N]at e4;have eL:=kR N;have d1:=vQ N;obtain⟨T,M,c,rfl,af,eK,eP,aZ,dh,V,aV,br,d3,bu⟩:=zsx cd;have aW:=zi8 x e ab a8 ps;have aT:=zud (E:=E) (p:=⟨(kO x e ab a8 ps).gives,(kO x e ab a8 ps).given⟩) (w0:=w0) (D:=D) (Kb:=Kb) (kn:=kn) c6;have aQ:Hid _:=fun af=>zwo E (kO x e ab a8 ps) ps 6 empty 0 N at_ aK af
 have aL:Hid _:=fun af ca=>zuo E (kO x e ab a8 ps) ps 6 empty 0 N at_ aK af ca
 have aR:Hid _:=fun ks bi ca=>zyi E (kO x e ab a8 ps) ps 6 empty 0 ks at_ bi ca
 generalize 2*bI e+bI ab+gI a8=m at *;generalize kO x e ab a8 ps=q at *;obtain⟨Q,P,df,f,aP,G⟩:=q;dsimp only at aW aT aQ aL aR;obtain⟨R,ax⟩:∃R,Hid (prF E ⟨Q,P,df,f,aP,G⟩ ps (.node 6 empty 0 N) (yF (.node 6 empty 0 N)) at_=R):=⟨_,rfl⟩
 rw[ax.out];clear cd;have eM:=K.lt;have eJ:=K.hD;have bR:=K.alloc (Zc #[U O 4,I x,U O m,J (Z (A T M F)) (ps.length+1) c] 25);have cx:=kF.new w #[U O 4,I x,U O m,J (Z (A T M F)) (ps.length+1) c] 25;go_enter func52,ntmps52;go_wp2_with (go_at_call 86;refine(dx _ bR.bs).mono ?_;rintro b n ⟨eY,rfl,dd,bq⟩;obtain⟨a2,a3,rfl,_,_⟩:=lexs.own_shape dd;unfold qR;have aG:=(bR.below bq).alloc (Zc #[I Q,Y P,J a2 ps.length a3,U O f,Y aP,U O G] 57);have aE:=aG.c6;have ch:=aG.fz 6;have aA:kF ((n.alloc (Zc #[I Q,Y P,J a2 ps.length a3,U O f,Y aP,U O G] 57)).setCell (A D 6 F) (J F 0 0)) w.heap.size #[U O 4,I x,U O m,J (Z (A T M F)) (ps.length+1) c] 25:=((cx.below bq).alloc _).other oA _;have eg:=bq.size;rw[jO]at eg;have aI:kF ((n.alloc (Zc #[I Q,Y P,J a2 ps.length a3,U O f,Y aP,U O G] 57)).setCell (A D 6 F) (J F 0 0)) n.heap.size #[I Q,Y P,J a2 ps.length a3,U O f,Y aP,U O G] 57:=(kF.new n _ _).other oA _;have dt:=aG.clear;have b2:=aA.cell 3 rfl);clear bR aG cx aE ch b2 bq dd;generalize ((n.alloc (Zc #[I Q,Y P,J a2 ps.length a3,U O f,Y aP,U O G] 57)).setCell (A D 6 F) (J F 0 0))=dk at *;go_loopw [27] (fun a7 wr=>∃(l:Nat) (u':Zv),l<=ps.length/\a7=U O l/\CS w0 wr D Kb kn kf (kJ (qJ (ps.take l))) u' (at_+1+l)/\FrU D (J F 0 0) u' dk wr) (fun a7 _=>ps.length - (intOf a7).toNat)
 case atStart=>exact⟨0,_,jz _,rfl,by simpa[qJ,kJ] using dt,FrU.refl _ _ _⟩
 case round =>
  obtain⟨l,u',eO,rfl,C,av⟩:=hrel;by_cases d2:l<ps.length
  ·skip;obtain⟨aj,ak,cr,ct,cu,cv⟩:=aZ l d2;have eo:=(C.bs.cell (p:=(A T (M+l*4) F)) af).trans cr;have ep:=(C.bs.cell (p:=(A T (M+l*4+1) F)) af).trans ct;have eq:=(C.bs.cell (p:=(A T (M+l*4+2) F)) af).trans cu;have er:=(C.bs.cell (p:=(A T (M+l*4+3) F)) af).trans cv;have dj:=show Hid _ from zum ps l d2
   have cm:Hid (bits BinOp.and IntKind.i64 (bI ps[l].2) 1=bI ps[l].2):=zbe _;have eT:(kJ (qJ (ps.take l))).length<=20:=by rw[xO,zfs,List.length_take];omega
   clear cr ct cu cv aZ;generalize ps[l].1=i at *;generalize bI ps[l].2=h at *;generalize kJ (qJ (ps.take l))=vs at *;obtain⟨am,an,rfl,eR,eS⟩:=lexs.own_shape C.rl;have b1:∀o,(Value.slice am vs.length an).ownBlock=Z o->o<wr.heap.size:=fun o b=>(C.rl.lt _ b).2
   have eN:=C.lt;have aG:=C.alloc (Zc #[U O 5,I i,U O h,J aj 0 ak] 25);have d0:=(FrU.refl D (J am vs.length an) wr).alloc (Zc #[U O 5,I i,U O h,J aj 0 ak] 25);have au:=aG.begin oA oA;have cy:Q4 wr.heap.size (U O 5) (I i) (U O h) (J aj 0 ak) (wr.alloc (Zc #[U O 5,I i,U O h,J aj 0 ak] 25)):=⟨oB,oB,oB,oB⟩
   go_wp2_with (go_at_call 49;refine au.mono ?_;rintro b g ⟨rfl,L⟩;have z:CS w0 g D Kb kn kf vs (J am vs.length an) (at_+1+l+1):=by { rw[L];exact aG.setAt _ };have p:Q4 wr.heap.size (U O 5) (I i) (U O h) (J aj 0 ak) g:=by { rw[L];exact Q4.other oA cy _ _ };have a6:FrU D (J am vs.length an) (J am vs.length an) wr g:=by { rw[L];exact d0.set _ _ (fun _ b=>b) };have b0:wr.heap.size+1<=g.heap.size:=by { rw[L,jQ];simp };clear L);refine wp_region_held_drew (S:=fun W=>Q4 wr.heap.size (U O 5) (I i) (U O h) (J aj 0 ak) W) oD (show Q4 wr.heap.size (U O 5) (I i) (U O h) (J aj 0 ak) g.drew from p) (fun t=>?_);clear t eo ep eq er aG d0 au cy;replace z:=z.drew;replace a6:=a6.drew;replace p:Q4 wr.heap.size (U O 5) (I i) (U O h) (J aj 0 ak) g.drew:=p;replace b0:wr.heap.size+1<=g.drew.heap.size:=b0;generalize g.drew=cp at *;refine tkP 0 (Zp (Z (A D 0 F))) p ?_;simp only[Act.put,jA,jB,jC];refine tkP 1 (Zp (Z (A D 0 F))) p ?_;simp only[Act.put,jA,jB,jC];refine tkP 2 (Zp (Z (A D 0 F))) p ?_;simp only[Act.put,jA,jB,jC];refine tkP 3 (Zp (Z (A D 6 F))) p ?_;simp only[Act.put,jA,jB,jC];refine tkP 5 (Za #[U O 5,I i,U O h,J aj 0 ak]) p ?_;simp only[Act.put,jA,jB,jC];refine wpAnyH_ready (rs:=[4,6]) oD oB ?_;refine AllReadyH.cons rfl (fun y j=>?_) (AllReadyH.cons rfl (fun y j=>?_) AllReadyH.nil)
   focus
    have aE:=z.c6;go_simp;refine j.out _ _ p (fun t=>?_);clear j y t aE;refine oneH 6 fun y j=>?_
    go_simp;go_at_call 88;refine(ze7 5 i h aj 0 ak cp).mono ?_;rintro b B ⟨rfl,ai⟩;rw[cm.out];unfold qC;have eh:=ai.size;replace z:=z.below ai;replace p:=Q4.below p ai;replace a6:=a6.trans (FrU.below ai D (J am vs.length an));go_wp2;refine j.out _ _ p (fun t=>?_);clear j y t ai;refine oneH 7 fun y j=>?_
    go_simp;have cb:∀l u,([I i,Y X,U O h,U O 0]:List Zv)[l]?=Z u->(B.alloc (Zc #[I i,Y X,U O h,U O 0] 52)).cell? (((A B.heap.size 0 F):Addr).add l)=Z u:=xF _ #[I i,Y X,U O h,U O 0] _ _ rfl;have bv:B.heap.size+1=(B.alloc (Zc #[I i,Y X,U O h,U O 0] 52)).heap.size:=oB;have d6:wr.heap.size+1<=B.heap.size:=oA;replace a6:=a6.alloc (Zc #[I i,Y X,U O h,U O 0] 52);replace z:=z.alloc (Zc #[I i,Y X,U O h,U O 0] 52);replace p:=Q4.alloc p (Zc #[I i,Y X,U O h,U O 0] 52);refine j.out _ _ p (fun t=>?_);clear j y t;generalize B.alloc (Zc #[I i,Y X,U O h,U O 0] 52)=bH at *;generalize B.heap.size=bE at *
   rotate_left
   focus
    go_simp;go_at_call 88;refine(ze7 5 i h aj 0 ak cp).mono ?_;rintro b B ⟨rfl,ai⟩;rw[cm.out];unfold qC;have eh:=ai.size;replace z:=z.below ai;replace p:=Q4.below p ai;replace a6:=a6.trans (FrU.below ai D (J am vs.length an));go_wp2;refine j.out _ _ p (fun t=>?_);clear j y t ai;refine wpAnyH_ready (rs:=[4,7]) oD oB ?_;refine AllReadyH.cons rfl (fun y j=>?_) (AllReadyH.cons rfl (fun y j=>?_) AllReadyH.nil)
    focus
     have aE:=z.c6;go_simp;refine j.out _ _ p (fun t=>?_);clear j y t aE;refine oneH 7 fun y j=>?_
     go_simp;have cb:∀l u,([I i,Y X,U O h,U O 0]:List Zv)[l]?=Z u->(B.alloc (Zc #[I i,Y X,U O h,U O 0] 52)).cell? (((A B.heap.size 0 F):Addr).add l)=Z u:=xF _ #[I i,Y X,U O h,U O 0] _ _ rfl;have bv:B.heap.size+1=(B.alloc (Zc #[I i,Y X,U O h,U O 0] 52)).heap.size:=oB;have d6:wr.heap.size+1<=B.heap.size:=oA;replace a6:=a6.alloc (Zc #[I i,Y X,U O h,U O 0] 52);replace z:=z.alloc (Zc #[I i,Y X,U O h,U O 0] 52);replace p:=Q4.alloc p (Zc #[I i,Y X,U O h,U O 0] 52);refine j.out _ _ p (fun t=>?_);clear j y t;generalize B.alloc (Zc #[I i,Y X,U O h,U O 0] 52)=bH at *;generalize B.heap.size=bE at *
    rotate_left
    focus
     go_simp;have cb:∀l u,([I i,Y X,U O h,U O 0]:List Zv)[l]?=Z u->(B.alloc (Zc #[I i,Y X,U O h,U O 0] 52)).cell? (((A B.heap.size 0 F):Addr).add l)=Z u:=xF _ #[I i,Y X,U O h,U O 0] _ _ rfl;have bv:B.heap.size+1=(B.alloc (Zc #[I i,Y X,U O h,U O 0] 52)).heap.size:=oB;have d6:wr.heap.size+1<=B.heap.size:=oA;replace a6:=a6.alloc (Zc #[I i,Y X,U O h,U O 0] 52);replace z:=z.alloc (Zc #[I i,Y X,U O h,U O 0] 52);replace p:=Q4.alloc p (Zc #[I i,Y X,U O h,U O 0] 52);refine j.out _ _ p (fun t=>?_);clear j y t;generalize B.alloc (Zc #[I i,Y X,U O h,U O 0] 52)=bH at *;generalize B.heap.size=bE at *;refine oneH 4 fun y j=>?_
     have aE:=z.c6;go_simp;refine j.out _ _ p (fun t=>?_);clear j y t aE
   all_goals
    refine oneH 8 fun y j=>?_
    refine step_append_lies _ oI (.tmp 37) (.tmp 40) 35 oI (D+1) 52 en (Za #[I ⟨#[]⟩,Y X,U O 0,U O 0]) 4 40 underlying35 hi ej ek em rfl oC (J am vs.length an) vs.length (qW vs) oK z.rl (A bE 0 F) 1 1 [I i,Y X,U O h,U O 0] oK rfl cb oF oA (by unfold maxLen;omega) oA (by have:=z.lt;omega) (bE+1) bv.symm ?_;intro bP cw ac e5 bc cA eQ;have e7:(Value.slice am vs.length an).ownBlock≠Z wr.heap.size:=fun b=>by have:=b1 _ b;omega
    have e6:(Value.slice am vs.length an).ownBlock≠Z D:=fun b=>by have:=(z.rl.lt _ b).1;omega
    have e2:=z.push (v:=⟨i,X,h,0⟩) e5 bc (cA.imp id (fun b=>b.trans bv));have c8:=bc.block D z.lt (fun b=>e6 b.symm);have aE:=(jM (a:=(A D 6 F)) c8).trans z.c6;have ch:=(jN (a:=(A D 6 F)) c8).trans (z.fz 6);have aB:FrU D (J am vs.length an) (J (Z (A bP 0 F)) (vs.length+1) cw) wr (ac.setCell (A D 6 F) (J (Z (A bP 0 F)) (vs.length+1) cw)):=a6.trans ⟨by rw[jQ];exact bc.size,fun o dq dr ds=>(jP _ _ _ o (by show o≠D;exact dr)).trans (bc.block o dq (fun b=>ds b.symm)),fun o b=>by have dp:Z bP=Z o:=b;cases dp;exact cA.imp id (fun b=>oA)⟩;replace p:=Q4.grown p bc e7;clear z c8 a6;refine j.out _ _ p (fun t=>?_);clear j y t;simp only[Act.put,jA,jB,jC];refine tkP 9 (Zp (Z (A D 0 F))) p ?_;simp only[Act.put,jA,jB,jC];refine tkP 10 (Zp (Z (A D 6 F))) p ?_;simp only[Act.put,jA,jB,jC];refine oneH 11 fun y j=>?_
    go_simp;refine j.out _ _ (Q4.other oA p _ _) (fun t=>?_);clear j y t aE ch;refine wpAnyH_done oD ?_ _;go_wp2;exact⟨⟨l+1,_,oA,oB,by rw[dj.out,show at_+1+((l+1:Nat):Int)=at_+1+(l:Int)+1 by omega];exact e2,av.trans aB⟩,by simp[intOf];omega⟩
  ·skip
   cases aP with
   | false =>
    obtain rfl:l=ps.length:=oA;rw[jG (jE _)]at C;have b1:∀o,u'.ownBlock=Z o->o<wr.heap.size:=fun o b=>(C.rl.lt _ b).2
    have aH:=aA.fr av oA oO;have aJ:=aI.fr av oA oO;have au:=C.begin oA oA;have cf:=aA.lt;have cg:=aI.lt;have c9:u'.ownBlock≠Z w.heap.size:=fun b=>oz18y165
    have bf:u'.ownBlock≠Z n.heap.size:=fun b=>oz18y165
    have bS:=aH.lt;have bY:=aJ.lt;clear aZ;go_wp2_with (go_at_call 49;refine au.mono ?_;rintro b g ⟨rfl,L⟩;have a9:CS w0 g D Kb kn kf (kJ (qJ ps)) u' (at_+1+ps.length+1):=oz18y166;have aM:kF g w.heap.size #[U O 4,I x,U O m,J (Z (A T M F)) (ps.length+1) c] 25:=oz18y167;have ae:kF g n.heap.size #[I Q,Y P,J a2 ps.length a3,U O f,Y X,U O G] 57:=oz18y168;have b0:wr.heap.size<=g.heap.size:=oz18y169;clear L;have b2:=aM.cell 3 rfl;have bz:=ae.cell 3 rfl;have q4:=ae.cell 4 rfl;have bD:=kK q4 (Zc #[U O f,U O 0] 126);have bw:=(a9.bs.cell (p:=(A T (M+ps.length*4+3) F)) af).trans aV);have az:=a9.alloc (Zc #[U O f,U O 0] 126);refine(aT N aK f 1 0 (qJ ps) u' dh V _ (at_+1+ps.length+1) bu (zc4 ps) (bJ ps) oz18y170 aW.2.1 oA az oA oA).mono ?_;have ah:Hid _:=ax.out.symm.trans (aQ.out oW);generalize qK E ⟨X,G⟩ f 1 N (qJ ps) (at_+1+ps.length+1)=b7 at *;clear ax aQ aL aR
    cases b7 with
    | bad b9 b8 =>
     rintro b ac ⟨rfl,aO⟩;go_wp2
     exact⟨rfl,PR.mkBad ah.out aO⟩
    | ok aF =>
     rintro b ac ⟨rfl,bh,ad,aB⟩;go_wp2
     go_end0
     exact PR.mkOk ah.out ad
   | true =>
    rcases List.eq_nil_or_concat N with rfl|⟨d,bi,de⟩
    ·skip;obtain rfl:l=ps.length:=oA;rw[jG (jE _)]at C;have b1:∀o,u'.ownBlock=Z o->o<wr.heap.size:=fun o b=>(C.rl.lt _ b).2
     have aH:=aA.fr av oA oO;have aJ:=aI.fr av oA oO;have au:=C.begin oA oA;have cf:=aA.lt;have cg:=aI.lt;have c9:u'.ownBlock≠Z w.heap.size:=fun b=>oz18y165
     have bf:u'.ownBlock≠Z n.heap.size:=fun b=>oz18y165
     have bS:=aH.lt;have bY:=aJ.lt;clear aZ;go_wp2_with (go_at_call 49;refine au.mono ?_;rintro b g ⟨rfl,L⟩;have a9:CS w0 g D Kb kn kf (kJ (qJ ps)) u' (at_+1+ps.length+1):=oz18y166;have aM:kF g w.heap.size #[U O 4,I x,U O m,J (Z (A T M F)) (ps.length+1) c] 25:=oz18y167;have ae:kF g n.heap.size #[I Q,Y P,J a2 ps.length a3,U O f,Y H,U O G] 57:=oz18y168;have b0:wr.heap.size<=g.heap.size:=oz18y169;clear L;have b2:=aM.cell 3 rfl;have bz:=ae.cell 3 rfl;have q4:=ae.cell 4 rfl;have bD:=kK q4 (Zc #[U O f,U O 0] 126);have bw:=(a9.bs.cell (p:=(A T (M+ps.length*4+3) F)) af).trans aV);have az:=a9.alloc (Zc #[U O f,U O 0] 126);refine(aT [] (fun a7 bg=>by cases bg) f 1 0 (qJ ps) u' dh V _ (at_+1+ps.length+1) (fun K=>absurd rfl K) (zc4 ps) (bJ ps) oz18y170 aW.2.1 oA az oA oA).mono ?_;have ah:Hid (R=.bad 2 at_):=ax.out.symm.trans (aL.out oW oW);clear ax aQ aL aR;rintro b ac ⟨rfl,bh,ad,aB⟩;go_wp2_with (go_at_call 87;refine(vD 2 at_ _).mono ?_;rintro b bF ⟨rfl,ce⟩;rw[ce]);exact⟨rfl,PR.mkBad ah.out ad.bs⟩
    ·rw[List.concat_eq_append]at de;subst de;by_cases aD:(match bi with | .node k _ _ _=>k)=14
     ·skip;obtain⟨r,s,rfl,ag,bp⟩:=bu oB;obtain⟨eC,⟨ey,ez,eA,eB,rfl,bj,ci,cj,ck⟩,aC⟩:=bp.get d.length oB;rw[List.getElem_append_right (jE _)]at aC;simp only[Nat.sub_self,jI]at aC;obtain⟨a5,ar,ap,ao⟩:=bi;have be:=aC;unfold Lies at be;obtain⟨bm,bn,ay,_,_⟩:=be;injection ay with ay;simp only[Array.mk.injEq,jq,and_true]at ay;obtain⟨rfl,rfl,rfl,rfl⟩:=ay;have d4:=aK _ (List.mem_append_right _ (jy.2 rfl));have cc:∀a7∈d,StT a7:=fun a7 bg=>aK a7 (List.mem_append_left _ bg)
      have e3:((d.length:Int)+1) - 1=(d.length:Int):=oA;have dz:kA (d++[.node a5 ar ap ao])=kA d+kC (.node a5 ar ap ao):=by rw[cZ,vC]
      have dZ:=kR d;have e0:=qU (.node a5 ar ap ao);have ec:d.length+1<=V:=by simpa using br
      have ed:d.length<=V:=oA;have ee:¬V<d.length:=oA;have ef:¬V=0:=oA;simp only[jb,List.length_singleton]at aV br d3 d1;replace aD:a5=14:=aD;subst aD
      obtain⟨b,rfl,rfl,rfl,ei⟩:∃b,ar=empty/\ap=0/\ao=[b]/\ExT b:=by
       cases d4 with
       | ret e1=>exact⟨_,rfl,rfl,rfl,e1⟩
      have e9:yT (d++[.node 14 empty 0 [b]])=H:=by rw[zew];rfl
      obtain rfl:l=ps.length:=oA;rw[jG (jE _)]at C;have b1:∀o,u'.ownBlock=Z o->o<wr.heap.size:=fun o b=>(C.rl.lt _ b).2
      have aH:=aA.fr av oA oO;have aJ:=aI.fr av oA oO;have au:=C.begin oA oA;have cf:=aA.lt;have cg:=aI.lt;have c9:u'.ownBlock≠Z w.heap.size:=fun b=>oz18y165
      have bf:u'.ownBlock≠Z n.heap.size:=fun b=>oz18y165
      have bS:=aH.lt;have bY:=aJ.lt;clear aZ;go_wp2_with (go_at_call 49;refine au.mono ?_;rintro b g ⟨rfl,L⟩;have a9:CS w0 g D Kb kn kf (kJ (qJ ps)) u' (at_+1+ps.length+1):=oz18y166;have aM:kF g w.heap.size #[U O 4,I x,U O m,J (Z (A T M F)) (ps.length+1) c] 25:=oz18y167;have ae:kF g n.heap.size #[I Q,Y P,J a2 ps.length a3,U O f,Y H,U O G] 57:=oz18y168;have b0:wr.heap.size<=g.heap.size:=oz18y169;clear L;have b2:=aM.cell 3 rfl;have bz:=ae.cell 3 rfl;have q4:=ae.cell 4 rfl;have bD:=kK q4 (Zc #[U O f,U O 0] 126);have bw:=(a9.bs.cell (p:=(A T (M+ps.length*4+3) F)) af).trans aV;have di:=kK ((a9.bs.cell (p:=(A r (s+d.length*4) F)) ag).trans bj) (Zc #[U O f,U O 0] 126));have az:=a9.alloc (Zc #[U O f,U O 0] 126);have ah:Hid _:=ax.out.symm.trans (aR.out d (.node 14 empty 0 [b]) e9);have aw:(g.alloc (Zc #[U O f,U O 0] 126)).cell? (A g.heap.size 0 F)=Z (U O f)/\(g.alloc (Zc #[U O f,U O 0] 126)).cell? (A g.heap.size 1 F)=Z (U O 0):=⟨oB,oB⟩
      have bX:=ae.alloc (Zc #[U O f,U O 0] 126);have aS:=aT d cc f 1 0 (qJ ps) u' (Z (A r s F)) V (g.alloc (Zc #[U O f,U O 0] 126)).drew (at_+1+ps.length+1) (fun _=>⟨r,s,rfl,ag,zhy bp⟩) (zc4 ps) (bJ ps) oz18y170 aW.2.1 oA az.drew oA oA
      have cn:Hid (∀aF,qK E ⟨H,G⟩ f 1 d (qJ ps) (at_+1+ps.length+1)=.ok aF->Ext 1 (qJ ps) aF.1/\aF.2=at_+1+ps.length+1+kA d/\aF.1.length<=20):=fun aF ea=>by
       obtain⟨dm,cq,dn⟩:=zgt E _ d _ _ _ _ _ cc ea;exact⟨dm,cq,dn oz18y170⟩
      generalize qK E ⟨H,G⟩ f 1 d (qJ ps) (at_+1+ps.length+1)=b7 at *;clear ax aQ aL aR b2 bz q4 bD bw di aT;have d5:∀o,u'.ownBlock=Z o->o<g.heap.size:=fun o b=>by have:=b1 o b;omega
      refine wp_region_held_drew (S:=fun W=>W.cell? (A g.heap.size 0 F)=Z (U O f)/\W.cell? (A g.heap.size 1 F)=Z (U O 0)) oD (show(fun W=>W.cell? (A g.heap.size 0 F)=Z (U O f)/\W.cell? (A g.heap.size 1 F)=Z (U O 0)) (g.alloc (Zc #[U O f,U O 0] 126)).drew from aw) (fun t=>?_);clear t;replace az:=az.drew;replace aw:(fun W=>W.cell? (A g.heap.size 0 F)=Z (U O f)/\W.cell? (A g.heap.size 1 F)=Z (U O 0)) (g.alloc (Zc #[U O f,U O 0] 126)).drew:=aw;replace bX:kF (g.alloc (Zc #[U O f,U O 0] 126)).drew n.heap.size #[I Q,Y P,J a2 ps.length a3,U O f,Y H,U O G] 57:=bX;have cB:g.heap.size<(g.alloc (Zc #[U O f,U O 0] 126)).drew.heap.size:=by show _<(g.alloc (Zc #[U O f,U O 0] 126)).heap.size;simp
      generalize (g.alloc (Zc #[U O f,U O 0] 126)).drew=eD at *;refine tkP 0 (Zp (Z (A D 0 F))) aw ?_;simp only[Act.put,jA,jB,jC];refine tkP 1 (J (Z (A r s F)) (d.length+1) V) aw ?_;simp only[Act.put,jA,jB,jC];refine tkP 2 (U O d.length) aw ?_;simp only[Act.put,jA,jB,jC];refine tkP 3 (J (Z (A r s F)) d.length V) aw ?_;simp only[Act.put,jA,jB,jC];refine tkP 4 (Za #[U O f,U O 0]) aw ?_;simp only[Act.put,jA,jB,jC];refine oneH 5 fun y j=>?_
      go_simp;go_at_call 89;refine aS.mono ?_
      cases b7 with
      | bad b9 b8 =>
       have b6:Hid (R=.bad b9 b8):=ah.out;rintro bN ac ⟨rfl,aO⟩;go_wp2
       exact⟨rfl,PR.mkBad b6.out aO⟩
      | ok aF =>
       obtain⟨co,cq⟩:=aF;obtain⟨da,db,dc⟩:=cn.out _ rfl;dsimp only at da db dc;subst db;rintro bN ac ⟨rfl,bh,ad,aB⟩;dsimp only at ad;have eb:(fun W=>W.cell? (A g.heap.size 0 F)=Z (U O f)/\W.cell? (A g.heap.size 1 F)=Z (U O 0)) ac:=⟨(aB.cell cB oA (fun b=>by have:=d5 _ b;omega)).trans aw.1,(aB.cell cB oA (fun b=>by have:=d5 _ b;omega)).trans aw.2⟩
       have aN:=bX.fr aB oA bf;have aX:n.heap.size<ac.drew.heap.size:=aN.lt;have aY:bh.ownBlock≠Z n.heap.size:=fun b=>by rcases aB.own _ b with ba | ba;exact bf ba;omega
       go_wp2;refine j.out _ _ eb (fun t=>?_);clear j y t;refine wpAnyH_done oD ?_ _;have bZ:=zya b ei c6 ⟨Q,P,df,f,H,G⟩ a2 ps.length a3 rfl aW.2.2 co bh _ ac.drew _ aC (da.lab (bJ ps)) dc ad.drew oA oA;unfold qR at bZ;dsimp only at bZ;have aa:(fun W=>W.cell? (A r (s+d.length*4) F)=Z (U O 14)/\W.cell? (A r (s+d.length*4+1) F)=Z (I empty)/\W.cell? (A r (s+d.length*4+2) F)=Z (U O 0)/\W.cell? (A r (s+d.length*4+3) F)=Z (J bm [b].length bn)/\W.cell? (A n.heap.size 0 F)=Z (I Q)/\W.cell? (A n.heap.size 1 F)=Z (Y P)/\W.cell? (A n.heap.size 2 F)=Z (J a2 ps.length a3)/\W.cell? (A n.heap.size 3 F)=Z (U O f)/\W.cell? (A n.heap.size 4 F)=Z (Y H)/\W.cell? (A n.heap.size 5 F)=Z (U O G)) ac.drew:=⟨(ad.bs.cell (p:=(A r (s+d.length*4) F)) ag).trans bj,(ad.bs.cell (p:=(A r (s+d.length*4+1) F)) ag).trans ci,(ad.bs.cell (p:=(A r (s+d.length*4+2) F)) ag).trans cj,(ad.bs.cell (p:=(A r (s+d.length*4+3) F)) ag).trans ck,aN.cell 0 rfl,aN.cell 1 rfl,aN.cell 2 rfl,aN.cell 3 rfl,aN.cell 4 rfl,aN.cell 5 rfl⟩
       have bo:Hid _:=ah.out;generalize stF E ⟨H,G⟩ f 1 H (.node 14 empty 0 [b]) co (at_+1+ps.length+1+kA d)=dl at *;clear c6 aC aS cn ah;go_wp2;refine wp_region_held_drew (S:=fun W=>W.cell? (A r (s+d.length*4) F)=Z (U O 14)/\W.cell? (A r (s+d.length*4+1) F)=Z (I empty)/\W.cell? (A r (s+d.length*4+2) F)=Z (U O 0)/\W.cell? (A r (s+d.length*4+3) F)=Z (J bm [b].length bn)/\W.cell? (A n.heap.size 0 F)=Z (I Q)/\W.cell? (A n.heap.size 1 F)=Z (Y P)/\W.cell? (A n.heap.size 2 F)=Z (J a2 ps.length a3)/\W.cell? (A n.heap.size 3 F)=Z (U O f)/\W.cell? (A n.heap.size 4 F)=Z (Y H)/\W.cell? (A n.heap.size 5 F)=Z (U O G)) oD aa (fun t=>?_);clear t;generalize ac.drew=bH at *;refine tkP 0 (Zp (Z (A D 0 F))) aa ?_;simp only[Act.put,jA,jB,jC];refine tkP 1 (J (Z (A r s F)) (d.length+1) V) aa ?_;simp only[Act.put,jA,jB,jC];refine tkP 2 (U O d.length) aa ?_;simp only[Act.put,jA,jB,jC];refine tkP 3 (Zp (Z (A r (s+d.length*4) F))) aa ?_;simp only[Act.put,jA,jB,jC];refine tkP 4 (Za #[U O 14,I empty,U O 0,J bm [b].length bn]) aa ?_;simp only[Act.put,jA,jB,jC];refine tkP 5 (Za #[I Q,Y P,J a2 ps.length a3,U O f,Y H,U O G]) aa ?_;simp only[Act.put,jA,jB,jC];refine oneH 6 fun y j=>?_
       go_simp;go_at_call 90;refine bZ.mono ?_
       cases dl with
       | bad b9 b8 =>
        have b6:Hid (R=.bad b9 b8):=bo.out;rintro bN bF ⟨rfl,aO⟩;go_wp2
        exact⟨rfl,PR.mkBad b6.out aO⟩
       | ok eu =>
        have b6:Hid (R=.ok eu.2):=bo.out;rintro bN bF ⟨rfl,eX,bb,aU⟩;have dy:(fun W=>W.cell? (A r (s+d.length*4) F)=Z (U O 14)/\W.cell? (A r (s+d.length*4+1) F)=Z (I empty)/\W.cell? (A r (s+d.length*4+2) F)=Z (U O 0)/\W.cell? (A r (s+d.length*4+3) F)=Z (J bm [b].length bn)/\W.cell? (A n.heap.size 0 F)=Z (I Q)/\W.cell? (A n.heap.size 1 F)=Z (Y P)/\W.cell? (A n.heap.size 2 F)=Z (J a2 ps.length a3)/\W.cell? (A n.heap.size 3 F)=Z (U O f)/\W.cell? (A n.heap.size 4 F)=Z (Y H)/\W.cell? (A n.heap.size 5 F)=Z (U O G)) bF:=⟨(bb.bs.cell (p:=(A r (s+d.length*4) F)) ag).trans bj,(bb.bs.cell (p:=(A r (s+d.length*4+1) F)) ag).trans ci,(bb.bs.cell (p:=(A r (s+d.length*4+2) F)) ag).trans cj,(bb.bs.cell (p:=(A r (s+d.length*4+3) F)) ag).trans ck,(aU.cell aX oA aY).trans aa.2.2.2.2.1,(aU.cell aX oA aY).trans aa.2.2.2.2.2.1,(aU.cell aX oA aY).trans aa.2.2.2.2.2.2.1,(aU.cell aX oA aY).trans aa.2.2.2.2.2.2.2.1,(aU.cell aX oA aY).trans aa.2.2.2.2.2.2.2.2.1,(aU.cell aX oA aY).trans aa.2.2.2.2.2.2.2.2.2⟩
        go_wp2;refine j.out _ _ dy (fun t=>?_);clear j y t;refine wpAnyH_done oD ?_ _;go_wp2
        go_end0
        exact PR.mkOk b6.out bb
     ·skip;obtain⟨r,s,rfl,ag,bp⟩:=bu oB;obtain⟨eC,⟨ey,ez,eA,eB,rfl,bj,ci,cj,ck⟩,aC⟩:=bp.get d.length oB;rw[List.getElem_append_right (jE _)]at aC;simp only[Nat.sub_self,jI]at aC;obtain⟨a5,ar,ap,ao⟩:=bi;have be:=aC;unfold Lies at be;obtain⟨bm,bn,ay,_,_⟩:=be;injection ay with ay;simp only[Array.mk.injEq,jq,and_true]at ay;obtain⟨rfl,rfl,rfl,rfl⟩:=ay;have d4:=aK _ (List.mem_append_right _ (jy.2 rfl));have cc:∀a7∈d,StT a7:=fun a7 bg=>aK a7 (List.mem_append_left _ bg)
      have e3:((d.length:Int)+1) - 1=(d.length:Int):=oA;have dz:kA (d++[.node a5 ar ap ao])=kA d+kC (.node a5 ar ap ao):=by rw[cZ,vC]
      have dZ:=kR d;have e0:=qU (.node a5 ar ap ao);have ec:d.length+1<=V:=by simpa using br
      have ed:d.length<=V:=oA;have ee:¬V<d.length:=oA;have ef:¬V=0:=oA;simp only[jb,List.length_singleton]at aV br d3 d1;replace aD:¬a5=14:=aD;have e8:yT (d++[.node a5 ar ap ao])=X:=by rw[zew];simp[yT,aD]
      have eU:(a5==14)=X:=by simp[aD]
      have eV:decide (a5=14)=X:=by simp[aD]
      have eW:(a5 != 14)=H:=by simp[aD]
      obtain rfl:l=ps.length:=oA;rw[jG (jE _)]at C;have b1:∀o,u'.ownBlock=Z o->o<wr.heap.size:=fun o b=>(C.rl.lt _ b).2
      have aH:=aA.fr av oA oO;have aJ:=aI.fr av oA oO;have au:=C.begin oA oA;have cf:=aA.lt;have cg:=aI.lt;have c9:u'.ownBlock≠Z w.heap.size:=fun b=>oz18y165
      have bf:u'.ownBlock≠Z n.heap.size:=fun b=>oz18y165
      have bS:=aH.lt;have bY:=aJ.lt;clear aZ;go_wp2_with (go_at_call 49;refine au.mono ?_;rintro b g ⟨rfl,L⟩;have a9:CS w0 g D Kb kn kf (kJ (qJ ps)) u' (at_+1+ps.length+1):=oz18y166;have aM:kF g w.heap.size #[U O 4,I x,U O m,J (Z (A T M F)) (ps.length+1) c] 25:=oz18y167;have ae:kF g n.heap.size #[I Q,Y P,J a2 ps.length a3,U O f,Y H,U O G] 57:=oz18y168;have b0:wr.heap.size<=g.heap.size:=oz18y169;clear L;have b2:=aM.cell 3 rfl;have bz:=ae.cell 3 rfl;have q4:=ae.cell 4 rfl;have bD:=kK q4 (Zc #[U O f,U O 0] 126);have bw:=(a9.bs.cell (p:=(A T (M+ps.length*4+3) F)) af).trans aV;have di:=kK ((a9.bs.cell (p:=(A r (s+d.length*4) F)) ag).trans bj) (Zc #[U O f,U O 0] 126));have az:=a9.alloc (Zc #[U O f,U O 0] 126);have aS:=aT (d++[.node a5 ar ap ao]) aK f 1 0 (qJ ps) u' (Z (A r s F)) V _ (at_+1+ps.length+1) bu (zc4 ps) (bJ ps) oz18y170 aW.2.1 oA az oA oA;simp only[jb,List.length_singleton]at aS;refine aS.mono ?_;have ah:Hid _:=ax.out.symm.trans (aL.out oW e8);generalize qK E ⟨H,G⟩ f 1 (d++[.node a5 ar ap ao]) (qJ ps) (at_+1+ps.length+1)=b7 at *;clear ax aQ aL aR aS
      cases b7 with
      | bad b9 b8 =>
       rintro b ac ⟨rfl,aO⟩;go_wp2
       exact⟨rfl,PR.mkBad ah.out aO⟩
      | ok aF =>
       have bo:Hid (R=.bad 2 at_):=ah.out;rintro b ac ⟨rfl,bh,ad,aB⟩;go_wp2_with (go_at_call 87;refine(vD 2 at_ _).mono ?_;rintro b bF ⟨rfl,ce⟩;rw[ce]);exact⟨rfl,PR.mkBad bo.out ad.bs⟩
end
def DE (d:Nat->Prop) (m:ByteArray) (K:List Kid) (w:Zw) (e:Ending) (w':Zw):Prop:=∃(c b:Zv) (a:List VarD) (P:List (ProcD × Zv)),e=.returned (Za #[I m,c,b])/\FR d (w.heap.size+1+1) w' c b a P/\a=kI H K/\P.map (·.1)=kL H K/\Below w.heap.size w w'
variable {b:List FaceD} {d:ByteArray->Option FV}
theorem zxi {W:Zw} {m:ByteArray} {c b d e:Zv} (f:List Zv) (B:Nat) (a:kF W B #[I m,c,b] 38):(results f50 (List.toArray (d :: e :: Zp (Z (A B 0 F)) :: f))).run prog W=.ok (Za #[I m,c,b]) W:=by
 have j:prog.cellsOf 38=3:=xG;have g:=a.cell 0 rfl;have h:=a.cell 1 rfl;have i:=a.cell 2 rfl;simp[results,f50,go_sem,g,h,i]
theorem zua (aA:Nat->Prop) (w0:Zw) (D:Nat) (m:ByteArray) (g:List Kid) (a:Option Addr) (c:Nat) (w:Zw) (ar:Below w0.heap.size w0 w) (cn:D<w.heap.size) (aQ:∀e,aA e->e<w.heap.size) (bs:w.cell? (A D 1 F)=Z (I m)) (bu:w.cell? (A D 3 F)=Z (J a g.length c)) (h:g≠[]->∃aD T,a=Z (A aD T F)/\aD<w0.heap.size/\kQ (·<w0.heap.size) w0 (g.map Kid.tree) aD T) (cj:g.length<=1000) (bD:∀k∈g,k.good) (bP:∀k∈g,k.kids.length<=1000) : Calls prog 50 #[Zp (Z (A D 0 F))] w (DE aA m g w):=by
 have cc:=kc25;have ce:prog.cellsOf 52=4:=cell4;have cf:prog.cellsOf 57=6:=vA;have cd:prog.cellsOf 38=3:=xG;have bv:=kK bs (Zc #[I ⟨#[]⟩,J F 0 0,J F 0 0] 38);have bw:=kK (kK bu (Zc #[I ⟨#[]⟩,J F 0 0,J F 0 0] 38)) (Zc #[I m,J F 0 0,J F 0 0] 38);have bj:Below w.heap.size w ((w.alloc (Zc #[I ⟨#[]⟩,J F 0 0,J F 0 0] 38)).alloc (Zc #[I m,J F 0 0,J F 0 0] 38)):=(bal _).alloc oB _;have bi:kF ((w.alloc (Zc #[I ⟨#[]⟩,J F 0 0,J F 0 0] 38)).alloc (Zc #[I m,J F 0 0,J F 0 0] 38)) w.heap.size #[I ⟨#[]⟩,J F 0 0,J F 0 0] 38:=(kF.new w _ _).alloc _
 have bh:kF ((w.alloc (Zc #[I ⟨#[]⟩,J F 0 0,J F 0 0] 38)).alloc (Zc #[I m,J F 0 0,J F 0 0] 38)) (w.heap.size+1) #[I m,J F 0 0,J F 0 0] 38:=by
  have:=kF.new (w.alloc (Zc #[I ⟨#[]⟩,J F 0 0,J F 0 0] 38)) #[I m,J F 0 0,J F 0 0] 38;rw[jO]at this;exact this
 go_enter func50,ntmps50;go_wp2;clear bv bw;generalize ((w.alloc (Zc #[I ⟨#[]⟩,J F 0 0,J F 0 0] 38)).alloc (Zc #[I m,J F 0 0,J F 0 0] 38))=cb at *;go_loopw [18] (fun be wr=>∃(s:Nat) (bf bc:Zv) (B:List VarD) (y:List (ProcD × Zv)),s<=g.length/\be=U O s/\FR aA (w.heap.size+1+1) wr bf bc B y/\kF wr (w.heap.size+1) #[I m,bf,bc] 38/\kF wr w.heap.size #[I ⟨#[]⟩,J F 0 0,J F 0 0] 38/\Below w.heap.size w wr/\Hid (B=kI H (g.take s))/\Hid (y.map (·.1)=kL H (g.take s))) (fun be _=>g.length - (intOf be).toNat)
 case atStart=>exact⟨0,_,_,[],[],jz _,rfl,FR.nil _ _ _,bh,bi,bj,rfl,rfl⟩
 case round =>
  clear bh bi bj;obtain⟨s,bf,bc,B,y,co,rfl,aj,am,ac,K,aI,HP⟩:=hrel;obtain⟨a5,a7,rfl⟩:=aj.shapeV;obtain⟨a3,a6,rfl⟩:=aj.shapeP;have bp:∀e,(Value.slice a5 B.length a7).ownBlock=Z e->e<wr.heap.size:=fun e r=>(aj.ov.lt _ r).2
  have bo:∀e,(Value.slice a3 y.length a6).ownBlock=Z e->e<wr.heap.size:=fun e r=>(aj.op.lt _ r).2
  have cp:=am.lt;have cm:B.length<=1000:=by rw[aI.out];exact jp (fW H _) oQ
  have ck:y.length<=1000:=by
   have bg:(y.map (·.1)).length=(kL H (g.take s)).length:=by rw[HP.out]
   rw[List.length_map]at bg;rw[bg];exact jp (fV H _) oQ
  by_cases aw:s<g.length
  ·obtain⟨aD,T,rfl,aW,aS⟩:=h (by intro r;rw[r]at aw;simp at aw);have bm:=ar.trans (K.mono ar.size);obtain⟨cq,cr,aE,aF,aG,az,aY⟩:=cW aW aS bm aw;obtain⟨Q,R,c6,c7,c8,br,bn⟩:=cW aW aS (Below.refl _ _) aw;have aX:=(bm.cell (p:=(A aD (T+s*4+3) F)) aW).trans br;rw[aX]at az;injection az with az;injection az with e1 _ e2;subst e1 e2;have az:=aX;clear c6 c7 c8 br aX;have aK:=bD _ (jH aw);have bq:=bP _ (jH aw);have aJ:Hid (g.take (s+1)=g.take s++[g[s]]):=zam g s aw;clear aS h;generalize bE:g[s]=kid at *;clear bE
   cases kid with
   | imp x =>
    have aN:Hid (kI H (g.take s++[.imp x])=B):=oz18y171;have aC:Hid (kL H (g.take s++[.imp x])=y.map (·.1)):=oz18y172
    clear aY aK;simp only[Kid.kind,Kid.text,Kid.num]at aE aF aG;generalize (Kid.imp x).kids.length=N at *;go_wp2
    exact⟨⟨s+1,_,_,B,y,oA,oB,aj.alloc _,am.alloc _,ac.alloc _,K.alloc oA _,oz18y173,by show _=_;rw[aJ.out,aC.out]⟩,by simp[intOf];omega⟩
   | var x t V n =>
    have aN:Hid (kI H (g.take s++[.var x t V n])=B++[zY x t V n]):=oz18y171;have aC:Hid (kL H (g.take s++[.var x t V n])=y.map (·.1)):=oz18y172
    have af:=fun W (aB:Below w.heap.size w W)=>zpr x t V n _ W (bn.to (fun e K=>jo K (jp ar.size aB.size)) (fun e K T=>(ar.trans (aB.mono ar.size)).cell (p:=(A e T F)) K))
    simp only[Kid.kind,Kid.text,Kid.num]at aE aF aG af;clear aY aK;generalize zY x t V n=d at *;generalize (Kid.var x t V n).kids.length=N at *;generalize 2*bI t+bI V=P at *;obtain⟨ba,hi,b7,b8,b9⟩:=info_parts zbw;have i:Q4 wr.heap.size (U O 3) (I x) (U O P) (J Q N R) (wr.alloc (Zc #[U O 3,I x,U O P,J Q N R] 25)).drew:=⟨oB,oB,oB,oB⟩
    go_wp2;refine wp_region_held_drew (S:=fun W=>Q4 wr.heap.size (U O 3) (I x) (U O P) (J Q N R) W) oD i (fun p=>?_);clear p aE aF aG az;have E:=(aj.alloc (Zc #[U O 3,I x,U O P,J Q N R] 25)).drew;have C:kF (wr.alloc (Zc #[U O 3,I x,U O P,J Q N R] 25)).drew (w.heap.size+1) #[I m,J a5 B.length a7,J a3 y.length a6] 38:=am.alloc _;have L:kF (wr.alloc (Zc #[U O 3,I x,U O P,J Q N R] 25)).drew w.heap.size #[I ⟨#[]⟩,J F 0 0,J F 0 0] 38:=ac.alloc _;have z:=(K.alloc oA (Zc #[U O 3,I x,U O P,J Q N R] 25)).drew;have bX:wr.heap.size+1<=(wr.alloc (Zc #[U O 3,I x,U O P,J Q N R] 25)).drew.heap.size:=by show _<=(wr.alloc (Zc #[U O 3,I x,U O P,J Q N R] 25)).heap.size;simp
    clear aj am ac K;generalize (wr.alloc (Zc #[U O 3,I x,U O P,J Q N R] 25)).drew=aa at *;refine tkP 0 (Zp (Z (A (w.heap.size+1) 1 F))) i ?_;simp only[Act.put,jA,jB,jC];refine tkP 2 (Za #[U O 3,I x,U O P,J Q N R]) i ?_;simp only[Act.put,jA,jB,jC];refine wpAnyH_ready (rs:=[1,3]) oD oB ?_;refine AllReadyH.cons rfl (fun g h=>?_) (AllReadyH.cons rfl (fun g h=>?_) AllReadyH.nil)
    focus
     have a2:=C.cell 1 rfl;go_simp;refine h.out _ _ i (fun p=>?_);clear h g p a2;refine oneH 3 fun g h=>?_
     go_simp;go_at_call 85;refine(af aa z).mono ?_;rintro r f ⟨rfl,G⟩;unfold qC;have b6:=G.size;replace E:=E.below G;replace i:=Q4.below i G;replace C:=C.below G;replace L:=L.below G;have ag:=z.trans (G.mono z.size);go_wp2;refine h.out _ _ i (fun p=>?_);clear h g p af;replace z:=ag;clear ag;refine oneH 4 fun g h=>?_
     go_simp;have ax:∀s u,([I d.name,Y d.pub,U O d.label,U O d.size]:List Zv)[s]?=Z u->(f.alloc (Zc #[I d.name,Y d.pub,U O d.label,U O d.size] 52)).cell? (((A f.heap.size 0 F):Addr).add s)=Z u:=xF _ #[I d.name,Y d.pub,U O d.label,U O d.size] _ _ rfl;have ao:f.heap.size+1=(f.alloc (Zc #[I d.name,Y d.pub,U O d.label,U O d.size] 52)).heap.size:=oB;have ah:wr.heap.size+1<=f.heap.size:=oA;have a8:=(Below.refl f.heap.size f).alloc (jE _) (Zc #[I d.name,Y d.pub,U O d.label,U O d.size] 52);replace z:=z.alloc (jp oA ah) (Zc #[I d.name,Y d.pub,U O d.label,U O d.size] 52);replace E:=E.alloc (Zc #[I d.name,Y d.pub,U O d.label,U O d.size] 52);replace i:=Q4.alloc i (Zc #[I d.name,Y d.pub,U O d.label,U O d.size] 52);replace C:=C.alloc (Zc #[I d.name,Y d.pub,U O d.label,U O d.size] 52);replace L:=L.alloc (Zc #[I d.name,Y d.pub,U O d.label,U O d.size] 52);clear a8;refine h.out _ _ i (fun p=>?_);clear h g p;generalize f.alloc (Zc #[I d.name,Y d.pub,U O d.label,U O d.size] 52)=ak at *;generalize f.heap.size=ap at *
    rotate_left
    focus
     go_simp;go_at_call 85;refine(af aa z).mono ?_;rintro r f ⟨rfl,G⟩;unfold qC;have b6:=G.size;replace E:=E.below G;replace i:=Q4.below i G;replace C:=C.below G;replace L:=L.below G;have ag:=z.trans (G.mono z.size);go_wp2;refine h.out _ _ i (fun p=>?_);clear h g p af;replace z:=ag;clear ag;refine wpAnyH_ready (rs:=[1,4]) oD oB ?_;refine AllReadyH.cons rfl (fun g h=>?_) (AllReadyH.cons rfl (fun g h=>?_) AllReadyH.nil)
     focus
      have a2:=C.cell 1 rfl;go_simp;refine h.out _ _ i (fun p=>?_);clear h g p a2;refine oneH 4 fun g h=>?_
      go_simp;have ax:∀s u,([I d.name,Y d.pub,U O d.label,U O d.size]:List Zv)[s]?=Z u->(f.alloc (Zc #[I d.name,Y d.pub,U O d.label,U O d.size] 52)).cell? (((A f.heap.size 0 F):Addr).add s)=Z u:=xF _ #[I d.name,Y d.pub,U O d.label,U O d.size] _ _ rfl;have ao:f.heap.size+1=(f.alloc (Zc #[I d.name,Y d.pub,U O d.label,U O d.size] 52)).heap.size:=oB;have ah:wr.heap.size+1<=f.heap.size:=oA;have a8:=(Below.refl f.heap.size f).alloc (jE _) (Zc #[I d.name,Y d.pub,U O d.label,U O d.size] 52);replace z:=z.alloc (jp oA ah) (Zc #[I d.name,Y d.pub,U O d.label,U O d.size] 52);replace E:=E.alloc (Zc #[I d.name,Y d.pub,U O d.label,U O d.size] 52);replace i:=Q4.alloc i (Zc #[I d.name,Y d.pub,U O d.label,U O d.size] 52);replace C:=C.alloc (Zc #[I d.name,Y d.pub,U O d.label,U O d.size] 52);replace L:=L.alloc (Zc #[I d.name,Y d.pub,U O d.label,U O d.size] 52);clear a8;refine h.out _ _ i (fun p=>?_);clear h g p;generalize f.alloc (Zc #[I d.name,Y d.pub,U O d.label,U O d.size] 52)=ak at *;generalize f.heap.size=ap at *
     rotate_left
     focus
      go_simp;have ax:∀s u,([I d.name,Y d.pub,U O d.label,U O d.size]:List Zv)[s]?=Z u->(f.alloc (Zc #[I d.name,Y d.pub,U O d.label,U O d.size] 52)).cell? (((A f.heap.size 0 F):Addr).add s)=Z u:=xF _ #[I d.name,Y d.pub,U O d.label,U O d.size] _ _ rfl;have ao:f.heap.size+1=(f.alloc (Zc #[I d.name,Y d.pub,U O d.label,U O d.size] 52)).heap.size:=oB;have ah:wr.heap.size+1<=f.heap.size:=oA;have a8:=(Below.refl f.heap.size f).alloc (jE _) (Zc #[I d.name,Y d.pub,U O d.label,U O d.size] 52);replace z:=z.alloc (jp oA ah) (Zc #[I d.name,Y d.pub,U O d.label,U O d.size] 52);replace E:=E.alloc (Zc #[I d.name,Y d.pub,U O d.label,U O d.size] 52);replace i:=Q4.alloc i (Zc #[I d.name,Y d.pub,U O d.label,U O d.size] 52);replace C:=C.alloc (Zc #[I d.name,Y d.pub,U O d.label,U O d.size] 52);replace L:=L.alloc (Zc #[I d.name,Y d.pub,U O d.label,U O d.size] 52);clear a8;refine h.out _ _ i (fun p=>?_);clear h g p;generalize f.alloc (Zc #[I d.name,Y d.pub,U O d.label,U O d.size] 52)=ak at *;generalize f.heap.size=ap at *;refine oneH 1 fun g h=>?_
      have a2:=C.cell 1 rfl;go_simp;refine h.out _ _ i (fun p=>?_);clear h g p a2
    all_goals
     refine oneH 5 fun g h=>?_
     refine step_append_lies _ oI (.tmp 27) (.tmp 30) 35 oI (w.heap.size+1+1) 52 ba (Za #[I ⟨#[]⟩,Y X,U O 0,U O 0]) 4 40 underlying35 hi b7 b8 b9 rfl oC (J a5 B.length a7) B.length (qW B) oK E.ov (A ap 0 F) 1 1 [I d.name,Y d.pub,U O d.label,U O d.size] oK rfl ax oF oA (by unfold maxLen;omega) oA oA (ap+1) ao.symm ?_;intro ae ad c9 aZ ab aT bF;have aL:∀e,(Value.slice a5 B.length a7).ownBlock=Z e->w.heap.size+1+1<=e/\e<wr.heap.size:=fun e r=>⟨(E.ov.lt _ r).1,bp e r⟩
     have b1:(Value.slice a5 B.length a7).ownBlock≠Z wr.heap.size:=fun r=>oz18y174
     have b0:(Value.slice a5 B.length a7).ownBlock≠Z (w.heap.size+1):=fun r=>oz18y174
     have b2:(Value.slice a5 B.length a7).ownBlock≠Z w.heap.size:=fun r=>oz18y174
     have aP:∀e,ak.heap.size<=e->¬aA e:=fun e K r=>by have:=aQ e r;omega
     have aV:=(E.pushV (v:=d) aZ ab (aT.imp id (fun r=>r.trans ao)) aP).set (M:=w.heap.size+1) (o:=1) oA (J (Z (A ae 0 F)) (B.length+1) ad);have an:=C.grown ab b0;have a2:=an.cell 1 rfl;have bb:=an.fz 1;have aO:=an.set 1 (J (Z (A ae 0 F)) (B.length+1) ad);have aR:=(L.grown ab b2).other (b:=w.heap.size+1) (o:=1) oA (J (Z (A ae 0 F)) (B.length+1) ad);have aU:=(z.grown ab oA (fun k r=>by have:=aL k r;omega)).setCell (p:=(A (w.heap.size+1) 1 F)) (Nat.le_succ _) (J (Z (A ae 0 F)) (B.length+1) ad);have bY:=ab.size;replace i:=Q4.grown i ab b1;clear E C L z an;refine h.out _ _ i (fun p=>?_);clear h g p;simp only[Act.put,jA,jB,jC];refine tkP 6 (Zp (Z (A (w.heap.size+1) 1 F))) i ?_;simp only[Act.put,jA,jB,jC];refine oneH 7 fun g h=>?_
     go_simp;refine h.out _ _ (Q4.other oA i _ _) (fun p=>?_);clear h g p a2 bb;refine wpAnyH_done oD ?_ _;go_wp2
     exact⟨⟨s+1,J (Z (A ae 0 F)) (B.length+1) ad,J a3 y.length a6,B++[d],y,oA,oB,aV,aO,aR,aU,oz18y173,by show _=_;rw[aJ.out,aC.out]⟩,by simp[intOf];omega⟩
   | proc x t V ai ps e =>
    have aN:Hid (kI H (g.take s++[.proc x t V ai ps e])=B):=oz18y171;have aC:Hid (kL H (g.take s++[.proc x t V ai ps e])=y.map (·.1)++[kO x t V ai ps]):=oz18y172
    have aH:Hid ((kO x t V ai ps).params.length=ps.length):=by show _=_;simp[kO]
    have bN:ps.length<=1000:=by simp[Kid.kids]at bq;omega
    have af:∀W (aB:Below w.heap.size w W),Calls prog 86 #[_] W fun r w'=>∃u,r=.returned (qR (kO x t V ai ps) u)/\w'.ownsRow W.heap.size 3 1 u ps.length (yG (kO x t V ai ps).params)/\Below W.heap.size W w':=fun W aB=>zf9 x t V ai ps e _ W (bn.to (fun e K=>jo K (jp ar.size aB.size)) (fun e K T=>(ar.trans (aB.mono ar.size)).cell (p:=(A e T F)) K)) bN aK.2.2
    simp only[Kid.kind,Kid.text,Kid.num]at aE aF aG af;clear aY aK bq;generalize kO x t V ai ps=b at *;generalize (Kid.proc x t V ai ps e).kids.length=N at *;generalize 2*bI t+bI V+gI ai=P at *;obtain⟨ba,hi,b7,b8,b9⟩:=info_parts zha;have i:Q4 wr.heap.size (U O 4) (I x) (U O P) (J Q N R) (wr.alloc (Zc #[U O 4,I x,U O P,J Q N R] 25)).drew:=⟨oB,oB,oB,oB⟩
    go_wp2;refine wp_region_held_drew (S:=fun W=>Q4 wr.heap.size (U O 4) (I x) (U O P) (J Q N R) W) oD i (fun p=>?_);clear p aE aF aG az;have E:=(aj.alloc (Zc #[U O 4,I x,U O P,J Q N R] 25)).drew;have C:kF (wr.alloc (Zc #[U O 4,I x,U O P,J Q N R] 25)).drew (w.heap.size+1) #[I m,J a5 B.length a7,J a3 y.length a6] 38:=am.alloc _;have L:kF (wr.alloc (Zc #[U O 4,I x,U O P,J Q N R] 25)).drew w.heap.size #[I ⟨#[]⟩,J F 0 0,J F 0 0] 38:=ac.alloc _;have z:=(K.alloc oA (Zc #[U O 4,I x,U O P,J Q N R] 25)).drew;have bX:wr.heap.size+1<=(wr.alloc (Zc #[U O 4,I x,U O P,J Q N R] 25)).drew.heap.size:=by show _<=(wr.alloc (Zc #[U O 4,I x,U O P,J Q N R] 25)).heap.size;simp
    clear aj am ac K;generalize (wr.alloc (Zc #[U O 4,I x,U O P,J Q N R] 25)).drew=aa at *;refine tkP 0 (Zp (Z (A (w.heap.size+1) 2 F))) i ?_;simp only[Act.put,jA,jB,jC];refine tkP 2 (Za #[U O 4,I x,U O P,J Q N R]) i ?_;simp only[Act.put,jA,jB,jC];refine wpAnyH_ready (rs:=[1,3]) oD oB ?_;refine AllReadyH.cons rfl (fun g h=>?_) (AllReadyH.cons rfl (fun g h=>?_) AllReadyH.nil)
    focus
     have a2:=C.cell 2 rfl;go_simp;refine h.out _ _ i (fun p=>?_);clear h g p a2;refine oneH 3 fun g h=>?_
     go_simp;go_at_call 86;refine(af aa z).mono ?_;rintro r f ⟨ca,rfl,ay,G⟩;obtain⟨j,l,rfl,_,_⟩:=lexs.own_shape ay;have a9:yE (fun e=>aa.heap.size<=e/\e<f.heap.size) f (J j b.params.length l) b.params:=yE.own (by rw[aH.out];exact ay);rw[aH.out]at a9;generalize bZ:ps.length=o at ay a9 |-;unfold qR;have b6:=G.size;replace E:=E.below G;replace i:=Q4.below i G;replace C:=C.below G;replace L:=L.below G;have ag:=z.trans (G.mono z.size);have bG:aa.heap.size<=aa.heap.size:=jE _;generalize bH:aa.heap.size=aM at a9;go_wp2;refine h.out _ _ i (fun p=>?_);clear h g p af;replace z:=ag;clear ag;refine oneH 4 fun g h=>?_
     go_simp;have ax:∀s u,([I b.name,Y b.pub,J j o l,U O b.writes,Y b.gives,U O b.given]:List Zv)[s]?=Z u->(f.alloc (Zc #[I b.name,Y b.pub,J j o l,U O b.writes,Y b.gives,U O b.given] 57)).cell? (((A f.heap.size 0 F):Addr).add s)=Z u:=xF _ #[I b.name,Y b.pub,J j o l,U O b.writes,Y b.gives,U O b.given] _ _ rfl;have ao:f.heap.size+1=(f.alloc (Zc #[I b.name,Y b.pub,J j o l,U O b.writes,Y b.gives,U O b.given] 57)).heap.size:=oB;have ah:wr.heap.size+1<=f.heap.size:=oA;have a8:=(Below.refl f.heap.size f).alloc (jE _) (Zc #[I b.name,Y b.pub,J j o l,U O b.writes,Y b.gives,U O b.given] 57);replace z:=z.alloc (jp oA ah) (Zc #[I b.name,Y b.pub,J j o l,U O b.writes,Y b.gives,U O b.given] 57);replace E:=E.alloc (Zc #[I b.name,Y b.pub,J j o l,U O b.writes,Y b.gives,U O b.given] 57);replace i:=Q4.alloc i (Zc #[I b.name,Y b.pub,J j o l,U O b.writes,Y b.gives,U O b.given] 57);replace C:=C.alloc (Zc #[I b.name,Y b.pub,J j o l,U O b.writes,Y b.gives,U O b.given] 57);replace L:=L.alloc (Zc #[I b.name,Y b.pub,J j o l,U O b.writes,Y b.gives,U O b.given] 57);replace a9:yE (fun e=>aM<=e/\e<f.heap.size) (f.alloc (Zc #[I b.name,Y b.pub,J j o l,U O b.writes,Y b.gives,U O b.given] 57)) (J j o l) b.params:=a9.to (fun e K=>⟨K.1,oA⟩) (fun e K T v av=>(a8.cell (p:=(A e T F)) (by show e<f.heap.size;omega)).trans av);clear a8;refine h.out _ _ i (fun p=>?_);clear h g p;generalize f.alloc (Zc #[I b.name,Y b.pub,J j o l,U O b.writes,Y b.gives,U O b.given] 57)=ak at *;generalize f.heap.size=ap at *
    rotate_left
    focus
     go_simp;go_at_call 86;refine(af aa z).mono ?_;rintro r f ⟨ca,rfl,ay,G⟩;obtain⟨j,l,rfl,_,_⟩:=lexs.own_shape ay;have a9:yE (fun e=>aa.heap.size<=e/\e<f.heap.size) f (J j b.params.length l) b.params:=yE.own (by rw[aH.out];exact ay);rw[aH.out]at a9;generalize bZ:ps.length=o at ay a9 |-;unfold qR;have b6:=G.size;replace E:=E.below G;replace i:=Q4.below i G;replace C:=C.below G;replace L:=L.below G;have ag:=z.trans (G.mono z.size);have bG:aa.heap.size<=aa.heap.size:=jE _;generalize bH:aa.heap.size=aM at a9;go_wp2;refine h.out _ _ i (fun p=>?_);clear h g p af;replace z:=ag;clear ag;refine wpAnyH_ready (rs:=[1,4]) oD oB ?_;refine AllReadyH.cons rfl (fun g h=>?_) (AllReadyH.cons rfl (fun g h=>?_) AllReadyH.nil)
     focus
      have a2:=C.cell 2 rfl;go_simp;refine h.out _ _ i (fun p=>?_);clear h g p a2;refine oneH 4 fun g h=>?_
      go_simp;have ax:∀s u,([I b.name,Y b.pub,J j o l,U O b.writes,Y b.gives,U O b.given]:List Zv)[s]?=Z u->(f.alloc (Zc #[I b.name,Y b.pub,J j o l,U O b.writes,Y b.gives,U O b.given] 57)).cell? (((A f.heap.size 0 F):Addr).add s)=Z u:=xF _ #[I b.name,Y b.pub,J j o l,U O b.writes,Y b.gives,U O b.given] _ _ rfl;have ao:f.heap.size+1=(f.alloc (Zc #[I b.name,Y b.pub,J j o l,U O b.writes,Y b.gives,U O b.given] 57)).heap.size:=oB;have ah:wr.heap.size+1<=f.heap.size:=oA;have a8:=(Below.refl f.heap.size f).alloc (jE _) (Zc #[I b.name,Y b.pub,J j o l,U O b.writes,Y b.gives,U O b.given] 57);replace z:=z.alloc (jp oA ah) (Zc #[I b.name,Y b.pub,J j o l,U O b.writes,Y b.gives,U O b.given] 57);replace E:=E.alloc (Zc #[I b.name,Y b.pub,J j o l,U O b.writes,Y b.gives,U O b.given] 57);replace i:=Q4.alloc i (Zc #[I b.name,Y b.pub,J j o l,U O b.writes,Y b.gives,U O b.given] 57);replace C:=C.alloc (Zc #[I b.name,Y b.pub,J j o l,U O b.writes,Y b.gives,U O b.given] 57);replace L:=L.alloc (Zc #[I b.name,Y b.pub,J j o l,U O b.writes,Y b.gives,U O b.given] 57);replace a9:yE (fun e=>aM<=e/\e<f.heap.size) (f.alloc (Zc #[I b.name,Y b.pub,J j o l,U O b.writes,Y b.gives,U O b.given] 57)) (J j o l) b.params:=a9.to (fun e K=>⟨K.1,oA⟩) (fun e K T v av=>(a8.cell (p:=(A e T F)) (by show e<f.heap.size;omega)).trans av);clear a8;refine h.out _ _ i (fun p=>?_);clear h g p;generalize f.alloc (Zc #[I b.name,Y b.pub,J j o l,U O b.writes,Y b.gives,U O b.given] 57)=ak at *;generalize f.heap.size=ap at *
     rotate_left
     focus
      go_simp;have ax:∀s u,([I b.name,Y b.pub,J j o l,U O b.writes,Y b.gives,U O b.given]:List Zv)[s]?=Z u->(f.alloc (Zc #[I b.name,Y b.pub,J j o l,U O b.writes,Y b.gives,U O b.given] 57)).cell? (((A f.heap.size 0 F):Addr).add s)=Z u:=xF _ #[I b.name,Y b.pub,J j o l,U O b.writes,Y b.gives,U O b.given] _ _ rfl;have ao:f.heap.size+1=(f.alloc (Zc #[I b.name,Y b.pub,J j o l,U O b.writes,Y b.gives,U O b.given] 57)).heap.size:=oB;have ah:wr.heap.size+1<=f.heap.size:=oA;have a8:=(Below.refl f.heap.size f).alloc (jE _) (Zc #[I b.name,Y b.pub,J j o l,U O b.writes,Y b.gives,U O b.given] 57);replace z:=z.alloc (jp oA ah) (Zc #[I b.name,Y b.pub,J j o l,U O b.writes,Y b.gives,U O b.given] 57);replace E:=E.alloc (Zc #[I b.name,Y b.pub,J j o l,U O b.writes,Y b.gives,U O b.given] 57);replace i:=Q4.alloc i (Zc #[I b.name,Y b.pub,J j o l,U O b.writes,Y b.gives,U O b.given] 57);replace C:=C.alloc (Zc #[I b.name,Y b.pub,J j o l,U O b.writes,Y b.gives,U O b.given] 57);replace L:=L.alloc (Zc #[I b.name,Y b.pub,J j o l,U O b.writes,Y b.gives,U O b.given] 57);replace a9:yE (fun e=>aM<=e/\e<f.heap.size) (f.alloc (Zc #[I b.name,Y b.pub,J j o l,U O b.writes,Y b.gives,U O b.given] 57)) (J j o l) b.params:=a9.to (fun e K=>⟨K.1,oA⟩) (fun e K T v av=>(a8.cell (p:=(A e T F)) (by show e<f.heap.size;omega)).trans av);clear a8;refine h.out _ _ i (fun p=>?_);clear h g p;generalize f.alloc (Zc #[I b.name,Y b.pub,J j o l,U O b.writes,Y b.gives,U O b.given] 57)=ak at *;generalize f.heap.size=ap at *;refine oneH 1 fun g h=>?_
      have a2:=C.cell 2 rfl;go_simp;refine h.out _ _ i (fun p=>?_);clear h g p a2
    all_goals
     refine oneH 5 fun g h=>?_
     refine step_append_lies _ oI (.tmp 36) (.tmp 39) 36 oI (w.heap.size+1+1) 57 ba (Za #[I ⟨#[]⟩,Y X,J F 0 0,U O 0,Y X,U O 0]) 6 72 underlying36 hi b7 b8 b9 rfl oC (J a3 y.length a6) y.length (yV y) oK E.op (A ap 0 F) 1 1 [I b.name,Y b.pub,J j o l,U O b.writes,Y b.gives,U O b.given] oK rfl ax oR oA (by unfold maxLen;omega) oA oA (ap+1) ao.symm ?_;intro ae ad c9 aZ ab aT bF;have aL:∀e,(Value.slice a3 y.length a6).ownBlock=Z e->w.heap.size+1+1<=e/\e<wr.heap.size:=fun e r=>⟨(E.op.lt _ r).1,bo e r⟩
     have b1:(Value.slice a3 y.length a6).ownBlock≠Z wr.heap.size:=fun r=>oz18y174
     have b0:(Value.slice a3 y.length a6).ownBlock≠Z (w.heap.size+1):=fun r=>oz18y174
     have b2:(Value.slice a3 y.length a6).ownBlock≠Z w.heap.size:=fun r=>oz18y174
     have aP:∀e,ak.heap.size<=e->¬aA e:=fun e K r=>by have:=aQ e r;omega
     have bR:yE (fun e=>w.heap.size+1+1<=e/\e<ak.heap.size/\(Value.slice a5 B.length a7).ownBlock≠Z e/\(Value.slice a3 y.length a6).ownBlock≠Z e/\¬aA e) ak (J j o l) b.params :=
      a9.to (fun e K=>⟨oA,oA,fun r=>by have:=bp _ r;omega,fun r=>by have:=bo _ r;omega,fun r=>by have:=aQ e r;omega⟩) (fun e K T v av=>av)
     have aV:=(E.pushP (q:=(b,J j o l)) aZ ab (aT.imp id (fun r=>r.trans ao)) aP bR).set (M:=w.heap.size+1) (o:=2) oA (J (Z (A ae 0 F)) (y.length+1) ad);have an:=C.grown ab b0;have a2:=an.cell 2 rfl;have bb:=an.fz 2;have aO:=an.set 2 (J (Z (A ae 0 F)) (y.length+1) ad);have aR:=(L.grown ab b2).other (b:=w.heap.size+1) (o:=2) oA (J (Z (A ae 0 F)) (y.length+1) ad);have aU:=(z.grown ab oA (fun k r=>by have:=aL k r;omega)).setCell (p:=(A (w.heap.size+1) 2 F)) (Nat.le_succ _) (J (Z (A ae 0 F)) (y.length+1) ad);have bY:=ab.size;replace i:=Q4.grown i ab b1;clear E C L z an;refine h.out _ _ i (fun p=>?_);clear h g p;simp only[Act.put,jA,jB,jC];refine tkP 6 (Zp (Z (A (w.heap.size+1) 2 F))) i ?_;simp only[Act.put,jA,jB,jC];refine oneH 7 fun g h=>?_
     go_simp;refine h.out _ _ (Q4.other oA i _ _) (fun p=>?_);clear h g p a2 bb;refine wpAnyH_done oD ?_ _;go_wp2;exact⟨⟨s+1,J a5 B.length a7,J (Z (A ae 0 F)) (y.length+1) ad,B,y++[(b,J j o l)],oA,oB,aV,aO,aR,aU,oz18y173,by show _=_;rw[aJ.out,aC.out,List.map_append];rfl⟩,by simp[intOf];omega⟩
  ·obtain rfl:s=g.length:=oA;rw[jG oA]at aI HP;have cw:=am.cell 0 rfl;have cx:=am.cell 1 rfl;have cy:=am.cell 2 rfl;have ct:=ac.cell 0 rfl;have cu:=ac.cell 1 rfl;have cv:=ac.cell 2 rfl;have cg:=ac.fz 0;have ch:=ac.fz 1;have ci:=ac.fz 2;have bS:=((ac.set 0 (I m)).set 1 (J a5 B.length a7)).set 2 (J a3 y.length a6);have bz:=((aj.set (M:=w.heap.size) (o:=0) oA (I m)).set (M:=w.heap.size) (o:=1) oA (J a5 B.length a7)).set (M:=w.heap.size) (o:=2) oA (J a3 y.length a6);have G:=((K.setCell (p:=(A w.heap.size 0 F)) (jE _) (I m)).setCell (p:=(A w.heap.size 1 F)) (jE _) (J a5 B.length a7)).setCell (p:=(A w.heap.size 2 F)) (jE _) (J a3 y.length a6);go_wp2;refine jT (v:=Za #[I m,J a5 B.length a7,J a3 y.length a6]) (zxi _ _ bS) rfl ?_;exact⟨_,_,B,y,rfl,bz,aI.out,HP.out,G⟩
structure Rel (own:FV) (gf:ByteArray->Option FV) (fs:List FaceD) (f:ByteArray->Option FV):Prop where
 e:∀z,eqS z empty=H->f z=Z own
 o:∀z,eqS z empty=X->(f z).map (·.1)=fs.find? (fun q=>eqS q.module z)
 g:∀z q,eqS z empty=X->f z=Z q->gf z=Z q
theorem xN {x c:ByteArray}:eqS x c=H ↔ x=c:=by
 unfold eqS;rw[beq_iff_eq];constructor
 ·intro b;cases x;cases c;rename_i a d;have:a.toList=d.toList:=by simpa[ByteArray.toList_eq] using b
  congr
  exact Array.toList_inj.1 this
 ·intro b;rw[b]
theorem Rel.start (own:FV) (gf:ByteArray->Option FV):Rel own gf [] (fun b=>if eqS b empty then Z own else F) :=
 ⟨fun b a=>by rw[jv a],fun b a=>by rw[ju (by rw[a];decide)];rfl,fun b q a c=>by rw[ju (by rw[a];decide)]at c;cases c⟩
theorem Rel.more {own:FV} {gf:ByteArray->Option FV} (h:Rel own gf b d) {x:ByteArray} {q:FV} (v:eqS x empty=X) (p:gf x=Z q) (n:eqS q.1.module x=H):Rel own gf (b++[q.1]) (fun a=>if eqS a x then Z q else d a):=by
 refine⟨fun a f=>?_,fun a f=>?_,fun a k f i=>?_⟩
 ·have w:eqS a x=X:=by
   cases c:eqS a x with
   | false=>rfl
   | true=>rw[xN.1 c,v]at f;cases f
  rw[ju (by rw[w];decide)];exact h.e a f
 ·rw[List.find?_append]
  cases c:eqS a x with
  | true =>
   obtain rfl:=xN.1 c;rw[jv rfl]
   cases j:d a with
   | none =>
    have:=h.o a f;rw[j]at this;rw[<- this]
    simp[List.find?,n]
   | some k =>
    have l:=h.o a f;rw[j]at l;have m:=h.g a k f j;rw[p]at m;cases m;rw[<- l]
    rfl
  | false =>
   rw[ju oC,h.o a f]
   have u:eqS q.1.module a=X:=by
    cases t:eqS q.1.module a with
    | false=>rfl
    | true =>
     have r:=xN.1 t;have s:=xN.1 n;rw[<- r,s]at c;have:eqS x x=H:=xN.2 rfl;rw[this]at c;cases c
   simp[List.find?,u]
 ·cases c:eqS a x with
  | true =>
   rw[c,jv rfl]at i;rw[xN.1 c,p]
   exact i
  | false =>
   rw[c,ju oC]at i;exact h.g a k f i
theorem zia {x:ByteArray}:x.size=0 ↔ eqS x empty=H:=by
 rw[xN];constructor
 ·intro a
  cases x with
  | mk b =>
   have:b=#[]:=Array.size_eq_zero_iff.1 a;rw[this];rfl
 ·intro a;rw[a];rfl
theorem Rel.face {own:FV} {gf:ByteArray->Option FV} (c:Rel own gf b d) (x:ByteArray):(d (zR x)).map (·.1)=dG ⟨own.1,b⟩ x:=by
 unfold dG;by_cases a:(zR x).size=0;·rw[jv a,c.e _ (zia.1 a)];rfl
 ·rw[ju a];refine c.o _ ?_
  cases f:eqS (zR x) empty with
  | false=>rfl
  | true=>exact absurd (zia.2 f) a
theorem zv4 (b:List Loc) (x:ByteArray):dP (kJ b) x=(b.reverse.find? (fun a=>eqS a.name x)).map fun a=>⟨a.name,X,a.label,0⟩:=by
 unfold dP kJ;rw[<- List.map_reverse,List.find?_map];rfl
theorem Rel.tab {own:FV} {gf:ByteArray->Option FV} (c:Rel own gf b d) (g:yY ⟨own.1,b⟩) (a:List Loc) (f:qN a):Tab ⟨own.1,b⟩ a d (kJ a):=by
 refine⟨g,f,fun x h=>?_,fun x h=>?_⟩
 ·unfold xD zP;rw[zv4,<- c.face x]
  cases a.reverse.find? (fun e=>eqS e.name x)with
  | some e=>rfl
  | none =>
   dsimp only[Option.map_none]
   cases d (zR x)with
   | none=>rfl
   | some q=>rfl
 ·unfold vZ procF;rw[<- c.face x]
  cases d (zR x)with
  | none=>rfl
  | some q=>rfl
theorem zp2 {E:Env} {q:ProcD} {ps:List (ByteArray × Bool)} {k:Int} {x:ByteArray} {m:Int} {ks:List Tree} {d:Bool} {a c:Int} (f:∀t∈ks,StT t) (b:prF E q ps (.node k x m ks) d a=.ok c):c=a+1+ps.length+1+kA ks:=by
 rw[zdv]at b;split at b;·cases b
 ·rename_i g e;have:=(zgs E _ ks _ _ _ _ _ f e).2.1;split at b;·cases b
  ·cases b;exact this
def xA (w:Zw) (D:Nat):Zw:={ w with heap:=w.heap.setIfInBounds D (Zc #[] 0 (0,0)) }
theorem zic (w:Zw) (D:Nat):(xA w D).heap.size=w.heap.size:=by simp[xA]
theorem zeb (w:Zw) (D a:Nat) (c:a≠D):(xA w D).heap[a]?=w.heap[a]?:=by
 unfold xA;exact Array.getElem?_setIfInBounds_ne (fun b=>c b.symm)
theorem zhu (w:Zw) (D:Nat):w.grownBy (xA w D) (Z D) :=
 ⟨rfl,rfl,rfl,Nat.le_of_eq (zic w D).symm,fun a _ c=>zeb w D a (fun b=>c (by rw[b]))⟩
theorem zeg {w:Zw} {D:Nat} {a:Addr} {v:Zv} (b:(xA w D).cell? a=Z v):a.block≠D/\w.cell? a=Z v:=by
 have e:a.block≠D:=by
  intro d;have c:=jR _ a b
  have f:(xA w D).heap[a.block]?=Z (Zc #[] 0 (0,0)):=by
   rw[zic]at c;unfold xA;rw[d];rw[d]at c;simp[c]
  simp[World.cell?,f]at b
 exact⟨e,by rw[<- jM (a:=a) (zeb w D a.block e)];exact b⟩
theorem zib {w:Zw} {D:Nat} {a:Addr} {v:Zv} (c:a.block≠D) (b:w.cell? a=Z v):(xA w D).cell? a=Z v:=by
 rw[jM (a:=a) (zeb w D a.block c)];exact b
end chk
namespace chk
open Go.RowKit Go.Shelf Go.Maps
open syn face
section
variable {w0 w w':Zw} {D Kb kn:Nat} {kf:KF} {vs:List VarD} {u:Zv} {a:Int}
theorem CS.import (b:CS w0 w D Kb kn kf vs u a) {q:FV} {x:ByteArray} (n:kZ w' Kb (kn+1) (fun c=>if eqS c x then Z (fvV q)else fvO (kf.f c))) (i:w.grownBy w' (Z Kb)) (p:qX kf.W (fvV q) q.1) (o:∀a v,kf.W.cell? a=Z v->a.block≠Kb) (m:w0.heap.size<=Kb) : CS w0 w' D Kb (kn+1) { kf with f:=fun c=>if eqS c x then Z q else kf.f c } vs u a:=by
 have g:=i.block D b.lt (fun d=>b.nk (by injection d with d;exact d.symm));refine⟨b.bs.grown i b.bs.size (fun k d=>by injection d with d;rw[<- d];exact m),b.hD,(jM (a:=(A D 4 F)) g).trans b.c4,(jM (a:=(A D 5 F)) g).trans b.c5,(jM (a:=(A D 6 F)) g).trans b.c6,(jM (a:=(A D 7 F)) g).trans b.c7,fun k=>(jN (a:=(A D k F)) g).trans (b.fz k),?_,?_,fun e v h=>⟨(b.fw e v h).1,(b.fw e v h).2.1,(jM (a:=e) (i.block e.block (jo (b.fw e v h).2.1 b.fm) (fun d=>o e v h (by injection d)))).trans (b.fw e v h).2.2⟩,jp b.fm i.size,b.mM,b.fu,b.rl.kept i ?_,b.nk,b.mx,b.nu⟩
 ·have d:(fun c=>fvO (if eqS c x then Z q else kf.f c))=(fun c=>if eqS c x then Z (fvV q)else fvO (kf.f c)):=by
   funext c
   split<;>rfl
  show kZ w' Kb (kn+1) (fun c=>fvO (if eqS c x then Z q else kf.f c));rw[d];exact n
 ·intro c e j;dsimp only at j;split at j;·cases j;exact p
  ·exact b.fi c e j
 ·cases d:u.ownBlock with
  | none=>exact .inl rfl
  | some r=>exact .inr (fun l=>b.nu (d.trans l))
end
structure M0 (w0 w:Zw) (D Gb Kb gn:Nat) (gf:ByteArray->Option FV) (m:ByteArray) (k:Option Addr) (n c:Nat) (a:Int):Prop where
 bs:Below w0.heap.size w0 w
 hD:w0.heap.size<=D
 c1:w.cell? (A D 1 F)=Z (I m)
 c3:w.cell? (A D 3 F)=Z (J k n c)
 c4:w.cell? (A D 4 F)=Z (.map (Z Gb))
 c5:w.cell? (A D 5 F)=Z (.map (Z Kb))
 c6:w.cell? (A D 6 F)=Z (J F 0 0)
 c7:w.cell? (A D 7 F)=Z (U O a)
 fz:∀k,w.frozen? (A D k F)=X
 mp:kZ w Kb 0 (fun _=>F)
 nk:Kb≠D
 hK:w0.heap.size<=Kb
 mx:uH w0
 mg:kZ w0 Gb gn (fun z=>fvO (gf z))
section
variable {w0 w w':Zw} {D Gb Kb gn:Nat} {gf:ByteArray->Option FV} {m:ByteArray} {k:Option Addr} {n c:Nat} {a:Int}
theorem M0.lt (b:M0 w0 w D Gb Kb gn gf m k n c a):D<w.heap.size:=jR w (A D 5 F) b.c5
theorem M0.setAt (b:M0 w0 w D Gb Kb gn gf m k n c a) (f:Int):M0 w0 (w.setCell (A D 7 F) (U O f)) D Gb Kb gn gf m k n c f :=
 have e:∀d,d≠7->(w.setCell (A D 7 F) (U O f)).cell? (A D d F)=w.cell? (A D d F):=fun d hi=>jD w (A D 7 F) (A D d F) _ (by intro g;injection g with _ g;exact hi g.symm)
 ⟨b.bs.setCell b.hD _,b.hD,(e 1 oC).trans b.c1,(e 3 oC).trans b.c3,(e 4 oC).trans b.c4,(e 5 oC).trans b.c5,(e 6 oC).trans b.c6,World.cell?_setCell_same' _ _ _ (by rw[b.c7];rfl),fun k=>by rw[World.frozen?_setCell];exact b.fz k,b.mp.setCell b.nk _,b.nk,b.hK,b.mx,b.mg⟩
theorem M0.below (b:M0 w0 w D Gb Kb gn gf m k n c a) (e:Below w.heap.size w w'):M0 w0 w' D Gb Kb gn gf m k n c a :=
 have d:∀f,w'.cell? (A D f F)=w.cell? (A D f F):=fun f=>e.cell (p:=(A D f F)) b.lt
 ⟨b.bs.trans (e.mono b.bs.size),b.hD,(d 1).trans b.c1,(d 3).trans b.c3,(d 4).trans b.c4,(d 5).trans b.c5,(d 6).trans b.c6,(d 7).trans b.c7,fun k=>(jN (a:=(A D k F)) (e.block D b.lt)).trans (b.fz k),b.mp.below e,b.nk,b.hK,b.mx,b.mg⟩
theorem M0.own (d:M0 w0 w D Gb Kb gn gf m k n c a) {q:FV} (z:kZ w' Kb 1 (fun e=>if eqS e empty then Z (fvV q)else F)) (p:w.grownBy w' (Z Kb)) {B:Nat} {j:List VarD} {i:List (ProcD × Zv)} (y:FR (fun f=>f=D\/f=Kb) B w q.2.1 q.2.2 j i) (E:q.1.vars=j) (C:q.1.procs=i.map (·.1)) (M:j.length<=1000) (N:i.length<=1000) : CS w0 w' D Kb 1 ⟨fun e=>if eqS e empty then Z q else F,xA (xA w' D) Kb,w'.heap.size,.map (Z Gb)⟩ [] (J F 0 0) a:=by
 have g:=p.block D d.lt (fun b=>d.nk oz18y175);have s:=d.bs.grown p d.bs.size (fun k b=>by injection b with b;rw[<- b];exact d.hK);have o:FR (fun f=>f=D\/f=Kb) B (xA (xA w' D) Kb) q.2.1 q.2.2 j i:=((y.grown p (fun f b=>.inr oz18y175)).grown (zhu w' D) (fun f b=>.inl oz18y175)).grown (zhu _ Kb) (fun f b=>.inr oz18y175);refine⟨s,d.hD,(jM (a:=(A D 4 F)) g).trans d.c4,(jM (a:=(A D 5 F)) g).trans d.c5,(jM (a:=(A D 6 F)) g).trans d.c6,(jM (a:=(A D 7 F)) g).trans d.c7,fun k=>(jN (a:=(A D k F)) g).trans (d.fz k),?_,?_,fun h v G=>?_,jE _,s.size,fun f b=>(by cases b),World.ownsRow_nil _ _ _ _,d.nk,d.mx,fun b=>(by cases b)⟩
 ·have b:(fun e=>fvO (if eqS e empty then Z q else F))=(fun e=>if eqS e empty then Z (fvV q)else F):=by
   funext e
   split<;>rfl
  show kZ w' Kb 1 (fun e=>fvO (if eqS e empty then Z q else F));rw[b];exact z
 ·intro e h l;dsimp only at l;split at l;·cases l;exact⟨_,_,rfl,by rw[E];exact zpa o.ov oA,by rw[C];exact zmg o.op oA (fun x K=>(o.par x K).ints)⟩
  ·cases l
 ·obtain⟨L,t⟩:=zeg G;obtain⟨u,r⟩:=zeg t;exact⟨u,jR _ h r,r⟩
end
def MR (w0:Zw) (r:Option (Int × Int)) (e:Ending) (w':Zw):Prop:=Below w0.heap.size w0 w'/\match r with
 | some q=>e=.panicked (qI q.1 q.2)
 | none=>e=.returned (.tuple #[])
theorem MR.mkBad {w0 w':Zw} {b:Option (Int × Int)} {c a:Int} (d:b=Z (c,a)) (e:Below w0.heap.size w0 w'):MR w0 b (.panicked (qI c a)) w':=by rw[d];exact⟨e,rfl⟩
theorem MR.mkOk {w0 w':Zw} {a:Option (Int × Int)} (b:a=F) (c:Below w0.heap.size w0 w'):MR w0 a (.returned (.tuple #[])) w':=by rw[b];exact⟨c,rfl⟩
def cI:Kid->Prop
 | .imp x=>kE x=H
 | .var _ _ _ n=>0<=n.getD 0
 | .proc _ _ _ _ ps b=>ps.length<=20/\InT b/\BlT b
theorem ybt (a:List Kid) (b:Nat) (c:b<a.length):kA ((a.take (b+1)).map Kid.tree)=kA ((a.take b).map Kid.tree)+kC a[b].tree:=by
 rw[zam a b c,List.map_append,cZ];rw[show[a[b]].map Kid.tree=[a[b].tree] from rfl,vC]
theorem zxg (a:List Kid) (b:Nat):kA ((a.take b).map Kid.tree)<=kA (a.map Kid.tree):=by
 have c:kA (a.map Kid.tree)=kA ((a.take b).map Kid.tree)+kA ((a.drop b).map Kid.tree):=by
  rw[<- cZ,<- List.map_append,List.take_append_drop]
 have:=kR ((a.drop b).map Kid.tree);omega
theorem zgu (x:ByteArray) (b a:Bool) (n:Option Int):kC (Kid.var x b a n).tree=1+(Kid.var x b a n).kids.length:=by
 rw[Kid.tree_is,qT]
 cases n with
 | none=>simp[Kid.kids,kA]
 | some k =>
  unfold Kid.kids;rw[vC,qT];simp[kA]
theorem zf6 (x:ByteArray):kC (Kid.imp x).tree=1:=by
 unfold Kid.tree;rw[qT];simp[kA]
theorem zb6 {w:Zw} {q:FV} (j:qX w (fvV q) q.1):∃m e k f b l d,fvV q=Za #[I m,J e k f,J b l d]:=by
 obtain⟨o,n,g,⟨a,c,h,_⟩,⟨b,d,i,_⟩⟩:=j;exact⟨_,_,_,_,_,_,_,by rw[g,h,i]⟩
section
variable {w0:Zw} {D Gb Kb gn:Nat} {gf:ByteArray->Option FV}
theorem zx8 (o:List FaceD) (b0:∀a6,(gf a6).map (·.1)=o.find? (fun e=>eqS e.module a6)) (b1:∀a6 q,gf a6=Z q->qX w0 (fvV q) q.1) (bP:∀e∈o,vT e) (m:ByteArray) (b:List Kid) (a:Option Addr) (c:Nat) (w:Zw) (g:M0 w0 w D Gb Kb gn gf m a b.length c 0) (aA:b≠[]->∃V ab,a=Z (A V ab F)/\V<w0.heap.size/\kQ (·<w0.heap.size) w0 (b.map Kid.tree) V ab) (d0:b.length<=900) (aS:∀k∈b,k.good/\cI k) (aT:∀k∈b,k.kids.length<=1000) (d3:kA (b.map Kid.tree)<=900000) (cm:vT (qS H m b)) : Calls prog 23 #[Zp (Z (A D 0 F))] w (MR w0 (moF (qS H m b) o b [] 1)):=by
 have cx:=kc25;have cy:prog.cellsOf 38=3:=xG;obtain⟨R,aK⟩:∃R,Hid (moF (qS H m b) o b [] 1=R):=⟨_,rfl⟩
 rw[aK.out];have bb:=g.lt;have a2:=zpn D 0 w g.c7 (g.fz 7) oA oA;go_enter func23,ntmps23;go_wp2_with (go_at_call 49;refine a2.mono ?_;rintro l av ⟨rfl,bg⟩;have r:M0 w0 av D Gb Kb gn gf m a b.length c 1:=by { rw[bg];exact g.setAt _ };clear bg);have r:=r.below (Below.refl av.heap.size av).drew;have a9:(fun W=>W.cell? (A D 5 F)=Z (.map (Z Kb))) av.drew:=r.c5;refine wp_region_held_drew (S:=fun W=>W.cell? (A D 5 F)=Z (.map (Z Kb))) oD a9 (fun ak=>?_);clear ak a2;generalize av.drew=bE at *;refine tkH (i:=0) (v:=Zp (Z (A D 0 F))) rfl (Or.inl ⟨oI,fun w an=>oz18y176⟩) a9 ?_;simp only[Act.put,jA,jB,jC];refine tkH (i:=1) (v:=Zp (Z (A D 0 F))) rfl (Or.inl ⟨oI,fun w an=>oz18y176⟩) a9 ?_;simp only[Act.put,jA,jB,jC];refine tkH (i:=2) (v:=Zp (Z (A D 5 F))) rfl (Or.inl ⟨oI,fun w an=>oz18y176⟩) a9 ?_;simp only[Act.put,jA,jB,jC];refine tkH (i:=3) (v:=.map (Z Kb)) rfl (Or.inl ⟨oI,fun w an=>oz18y176⟩) a9 ?_;simp only[Act.put,jA,jB,jC];refine tkH (i:=4) (v:=Zp (Z (A D 0 F))) rfl (Or.inl ⟨oI,fun w an=>oz18y176⟩) a9 ?_;simp only[Act.put,jA,jB,jC];refine oneH 5 fun bz am=>?_
 go_simp;go_at_call 50;have cB:=r.mp.lt;refine(zua (fun aj=>aj=D\/aj=Kb) w0 D m b a c bE r.bs r.lt (fun aj l=>by have:=r.lt;rcases l with rfl | rfl<;>omega) r.c1 r.c3 aA oA (fun k ci=>(aS k ci).1) aT).mono ?_;rintro l br ⟨au,ap,bD,aX,rfl,aZ,aQ,aO,ba⟩;have y:=r.below ba;have c9:bD.length<=1000:=by rw[aQ];exact jp (fW H _) oA
 have c6:aX.length<=1000:=by
  have r:(aX.map (·.1)).length=(kL H b).length:=by rw[aO]
  rw[List.length_map]at r;rw[r];exact jp (fV H _) oA
 go_wp2;refine am.out _ _ y.c5 (fun ak=>?_);clear am ak;obtain⟨a8,be,b2,aE⟩:=y.mp.store (by unfold maxLen;omega) empty oC (fvV (qS H m b,au,ap));have c8:br.cell? (A D 5 F)=Z (.map (Z Kb)):=y.c5;have db:D≠Kb:=fun l=>y.nk l.symm
 refine oneH 6 fun bz am=>?_
 have cq:(Instr.mapUpdate 34 (.map (Z Kb)) (I ⟨#[]⟩) (Za #[I m,au,ap])).run prog br=.ok () a8:=be;go_simp;have b7:a8.cell? (A D 5 F)=Z (.map (Z Kb)):=cell_grown aE y.c5 oE;refine am.out _ _ b7 (fun ak=>?_);clear am ak be cq;refine wpAnyH_done oD ?_ _;have aM:=y.own (q:=(qS H m b,au,ap)) b2 aE aZ aQ.symm aO.symm c9 c6;have b6:=Rel.start (qS H m b,au,ap) gf;have cb:∀p v,(xA (xA a8 D) Kb).cell? p=Z v->p.block≠Kb:=fun p v aC=>(zeg aC).1
 have ca:∀p v,w0.cell? p=Z v->(xA (xA a8 D) Kb).cell? p=Z v:=fun p v aC=>by
  have K:=jR w0 p aC;have aL:=y.hD;have cz:=y.hK;exact zib oA (zib oA ((aM.bs.cell (p:=p) K).trans aC))
 have bX:=y.hK;have ct:=y.mg;have cw:a8.cell? (A D 3 F)=Z (J a b.length c):=cell_grown aE y.c3 oE;go_wp2;clear g r y aZ aQ aO ba b2 aE a9 c8 b7 cw;generalize xA (xA a8 D) Kb=af at *;generalize a8.heap.size=ae at *;go_loopw [19] (fun ar wr=>∃(d kn:Nat) (f:List FaceD) (e:ByteArray->Option FV) (vs:List VarD) (u:Zv),d<=b.length/\ar=U O d/\kn<=d+1/\Hid (Rel (qS H m b,au,ap) gf f e)/\Hid (∀q∈f,q∈o)/\CS w0 wr D Kb kn ⟨e,af,ae,.map (Z Gb)⟩ vs u (1+kA ((b.take d).map Kid.tree))/\Hid (R=moF (qS H m b) o (b.drop d) f (1+kA ((b.take d).map Kid.tree)))) (fun ar _=>b.length - (intOf ar).toNat)
 case atStart=>exact⟨0,1,[],_,_,_,jz _,rfl,oA,b6,(fun q h=>by cases h),by simpa[kA] using aM,by show _=_;rw[<- aK.out];simp[kA]⟩
 case round =>
  clear aM b6 aK;obtain⟨d,kn,f,e,vs,u,d4,rfl,d6,ax,aw,B,Q⟩:=hrel;by_cases K:d<b.length
  ·obtain⟨V,ab,rfl,ao,b8⟩:=aA (by intro l;rw[l]at K;simp at K);obtain⟨M,N,bh,bi,bj,bm,aG⟩:=cW ao b8 (Below.refl _ _) K;have aU:=(B.bs.cell (p:=(A V (ab+d*4) F)) ao).trans bh;have aV:=(B.bs.cell (p:=(A V (ab+d*4+1) F)) ao).trans bi;have aW:=(B.bs.cell (p:=(A V (ab+d*4+2) F)) ao).trans bj;have dd:=(B.bs.cell (p:=(A V (ab+d*4+3) F)) ao).trans bm;obtain⟨aF,aH⟩:=aS _ (jH K);have cp:=aT _ (jH K);have ce:=ybt b d K;have cd:=zxg b (d+1);have cc:=kR ((b.take d).map Kid.tree);have cf:=qU b[d].tree;have ac:Hid (b.drop d=b[d] :: b.drop (d+1)):=List.drop_eq_getElem_cons K;have cA:=B.lt;have aY:yY ⟨qS H m b,f⟩:=⟨cm,fun q h=>bP q (aw.out q h)⟩
   have ay:Hid (∀ah,qN ah->Tab ⟨qS H m b,f⟩ ah e (kJ ah)):=fun ah bY=>ax.out.tab aY ah bY
   clear b8 aA bh bi bj bm aS aT aY;generalize cj:b[d]=kid at *;clear cj;have d1:(0:Int)<=1+kA ((b.take d).map Kid.tree):=oA;have b9:1+kA ((b.take (d+1)).map Kid.tree)<=900001:=oA;obtain⟨ai,T⟩:∃ai,Hid (1+kA ((b.take (d+1)).map Kid.tree)=ai):=⟨_,rfl⟩
   have ad:Hid (ai=1+kA ((b.take d).map Kid.tree)+kC kid.tree):=by show _=_;have:=T.out;omega
   have d2:ai<=900001:=by rw[<- T.out];exact b9
   clear ce cd cc b9;generalize 1+kA ((b.take d).map Kid.tree)=at_ at *
   cases kid with
   | imp x =>
    have dc:x.size<=16:=aF
    have cr:eqS x empty=X:=by
     cases cg:eqS x empty with
     | false=>rfl
     | true =>
      have aL:kE x=H:=aH;rw[xN.1 cg]at aL;exact absurd aL oC
    have a5:=ad.out;rw[zf6]at a5;subst a5;simp only[Kid.kind,Kid.text,Kid.num]at aU aV aW;generalize (Kid.imp x).kids.length=j at *
    have z:Hid (R=match o.find? (fun e=>eqS e.module x)with
      | none=>Z (4,at_)
      | some e=>moF (qS H m b) o (b.drop (d+1)) (f++[e]) (at_+1)):=Q.out.trans (by rw[ac.out];simp only[moF];rfl)
    clear Q ac aG aF aH cp ay ad cf;have a3:=B.alloc (Zc #[U O 2,I x,U O 0,J M j N] 25);have aP:=kF.new wr  #[U O 2,I x,U O 0,J M j N] 25;have a2:=a3.begin oA oA;go_wp2_with (go_at_call 49;refine a2.mono ?_;rintro l P ⟨rfl,L⟩;have s:CS w0 P D Kb kn ⟨e,af,ae,.map (Z Gb)⟩ vs u (at_+1):=by { rw[L];exact a3.setAt _ };have t:kF P wr.heap.size  #[U O 2,I x,U O 0,J M j N] 25:=oz18y177;clear L;have bn:=t.cell 0 rfl;have bo:=t.cell 1 rfl;have bp:=t.cell 2 rfl;have bq:=t.cell 3 rfl)
    have bR:=zub D Gb Kb gn kn (fun a6=>fvO (gf a6)) (fun a6=>fvO (e a6)) x at_ P s.c4 s.c5 (ct.below s.bs) s.mp oA oA (fun l=>s.nk l.symm) (fun v aJ=>by
     cases h:gf x with
     | none=>rw[show fvO (gf x)=F by rw[h];rfl]at aJ;cases aJ
     | some q =>
      rw[show fvO (gf x)=Z (fvV q) by rw[h];rfl]at aJ;cases aJ
      exact zb6 (b1 x q h))
    refine bR.mono ?_;rintro l bu (⟨bc,rfl,aR⟩|⟨v,aI,rfl,bZ,ch⟩)
    ·have a7:Hid (R=Z (4,at_)):=by
      show _=_;rw[z.out,<- b0 x]
      cases h:gf x with
      | none=>rfl
      | some q=>rw[show fvO (gf x)=Z (fvV q) by rw[h];rfl]at bc;cases bc
     clear z;go_wp2;exact⟨rfl,MR.mkBad a7.out (s.bs.trans (aR.mono s.bs.size))⟩
    ·obtain⟨q,h⟩:∃q,gf x=Z q:=by
      cases h:gf x with
      | none=>rw[show fvO (gf x)=F by rw[h];rfl]at aI;cases aI
      | some q=>exact⟨q,rfl⟩
     rw[show fvO (gf x)=Z (fvV q) by rw[h];rfl]at aI;cases aI;have aD:o.find? (fun e=>eqS e.module x)=Z q.1:=by rw[<- b0 x,h];rfl
     have ck:eqS q.1.module x=H:=by simpa using List.find?_some aD
     have a7:Hid (R=moF (qS H m b) o (b.drop (d+1)) (f++[q.1]) (at_+1)):=by
      show _=_;rw[z.out,aD]
     have aN:=s.import (q:=q) (x:=x) bZ ch (qX.mono ca (b1 x q h)) cb bX;have bw:Hid _:=ax.out.more cr h ck
     have bv:Hid (∀p∈f++[q.1],p∈o):=fun p cn=>by
      rcases List.mem_append.1 cn with g | g
      ·exact aw.out p g
      ·simp only[jy]at g;rw[g];exact List.mem_of_find?_eq_some aD
     clear z aD;go_wp2
     exact⟨⟨d+1,kn+1,f++[q.1],_,vs,u,oA,oB,oA,bw,bv,by rw[T.out];exact aN,by show _=_;rw[T.out];exact a7.out⟩,by simp[intOf];omega⟩
   | var x p G n =>
    have a5:=ad.out;rw[zgu]at a5;have z:Hid (R=moF (qS H m b) o (b.drop (d+1)) f (at_+1+(Kid.var x p G n).kids.length)):=Q.out.trans (by rw[ac.out];simp only[moF]);clear Q ac aG aF aH ay ad;simp only[Kid.kind,Kid.text,Kid.num]at aU aV aW;generalize 2*bI p+bI G=aa at *;generalize (Kid.var x p G n).kids.length=j at *;subst a5;have a3:=B.alloc (Zc #[U O 3,I x,U O aa,J M j N] 25);have aP:=kF.new wr  #[U O 3,I x,U O aa,J M j N] 25;have a2:=a3.begin oA oA;go_wp2_with (go_at_call 49;refine a2.mono ?_;rintro l P ⟨rfl,L⟩;have s:CS w0 P D Kb kn ⟨e,af,ae,.map (Z Gb)⟩ vs u (at_+1):=by { rw[L];exact a3.setAt _ };have t:kF P wr.heap.size  #[U O 3,I x,U O aa,J M j N] 25:=oz18y177;clear L;have bn:=t.cell 0 rfl;have bo:=t.cell 1 rfl;have bp:=t.cell 2 rfl;have bq:=t.cell 3 rfl);have de:=s.c7;have df:=s.fz 7;have d5:(j:Int)<=1000:=oA;go_region
    all_goals
     go_wp2
     exact⟨⟨d+1,kn,f,e,vs,u,oA,oB,oA,ax,aw,by rw[T.out,show at_+(1+(j:Int))=at_+1+j by omega];exact(s.setAt _).drew,by show _=_;rw[T.out,show at_+(1+(j:Int))=at_+1+j by omega];exact z.out⟩,by simp[intOf];omega⟩
   | proc x p G ag ps aj =>
    obtain⟨co,bS,bN⟩:=aH
    obtain⟨C,rfl,bf⟩:∃C,aj=.node 6 empty 0 C/\∀ar∈C,StT ar:=by
     cases bN with
     | mk g=>exact⟨_,rfl,g⟩
    have a5:=ad.out
    have z:Hid (R=match prF ⟨qS H m b,f⟩ (kO x p G ag ps) ps (.node 6 empty 0 C) (yF (.node 6 empty 0 C)) at_ with
      | .bad c E=>Z (c,E)
      | .ok E=>moF (qS H m b) o (b.drop (d+1)) f E):=Q.out.trans (by rw[ac.out];simp only[moF];rfl)
    have az:Hid (∀E,prF ⟨qS H m b,f⟩ (kO x p G ag ps) ps (.node 6 empty 0 C) (yF (.node 6 empty 0 C)) at_=.ok E->E=ai):=fun E bb=>by
     have:=zp2 bf bb;rw[zc5]at a5;omega
    have aB:=fun W (B:CS w0 W D Kb kn ⟨e,af,ae,.map (Z Gb)⟩ vs u (at_+1))=>yax (kf:=⟨e,af,ae,.map (Z Gb)⟩) x p G ag ps C ay.out bf co bS _ W at_ vs u aG B oA oA
    have da:at_<=900001:=oA;clear Q ac aG aF ay ad a5;simp only[Kid.kind,Kid.text,Kid.num]at aU aV aW aB;generalize prF ⟨qS H m b,f⟩ (kO x p G ag ps) ps (.node 6 empty 0 C) (yF (.node 6 empty 0 C)) at_=bF at *;generalize 2*bI p+bI G+gI ag=aa at *;generalize (Kid.proc x p G ag ps (.node 6 empty 0 C)).kids.length=j at *;have a3:=B.alloc (Zc #[U O 4,I x,U O aa,J M j N] 25);have aP:=kF.new wr  #[U O 4,I x,U O aa,J M j N] 25;have a2:=a3.begin oA oA;go_wp2_with (go_at_call 49;refine a2.mono ?_;rintro l P ⟨rfl,L⟩;have s:CS w0 P D Kb kn ⟨e,af,ae,.map (Z Gb)⟩ vs u (at_+1):=by { rw[L];exact a3.setAt _ };have t:kF P wr.heap.size  #[U O 4,I x,U O aa,J M j N] 25:=oz18y177;clear L;have bn:=t.cell 0 rfl;have bo:=t.cell 1 rfl;have bp:=t.cell 2 rfl;have bq:=t.cell 3 rfl);refine(aB _ s).mono ?_
    cases bF with
    | bad bH bG =>
     have a7:Hid (R=Z (bH,bG)):=z.out;clear z aB;rintro l bu ⟨rfl,aR⟩;go_wp2
     exact⟨rfl,MR.mkBad a7.out aR⟩
    | ok E =>
     obtain rfl:=az.out E rfl;have a7:Hid (R=moF (qS H m b) o (b.drop (d+1)) f E):=z.out;clear z aB az;rintro l bu ⟨rfl,cv,cu,aN⟩;go_wp2;exact⟨⟨d+1,kn,f,e,cv,cu,oA,oB,oA,ax,aw,by rw[T.out];exact aN,by show _=_;rw[T.out];exact a7.out⟩,by simp[intOf];omega⟩
  ·obtain rfl:d=b.length:=oA
   have az:Hid (R=F):=by
    show _=_;rw[Q.out,List.drop_eq_nil_of_le oA];rfl
   clear Q aA;go_wp2
   go_end0
   exact MR.mkOk az.out B.bs
end
section
variable {w w':Zw}
theorem zro (e:Addr) (w:Zw) : CallsD prog 22 #[Zp (Z e)] .returning w fun b u' w'=>b=.returned (.tuple #[])/\u'=.returning/\w'=w:=by
 have g:∀w:Zw,(binOp BinOp.eql 20 .nilIface .nilIface).run prog w=.ok (Y H) w:=fun _=>oD
 refine callsD_of_wpS func22 rfl fun f cs c=>?_
 refine zd9 (by simp[recoverD,c]) ?_;simp only[ntmps22,List.size_toArray,jd,je,Nat.reduceAdd,Nat.reduceSub,Array.replicate_succ,Array.replicate_zero,List.push_toArray,List.append_toArray,js,jK,Act.put,List.setIfInBounds_toArray,List.set_cons_succ,List.set_cons_zero];refine wpS_of_wp (wp_mono (Q:=fun b a w'=>b=.normal/\a.defers=[]/\w'=w) ?_ ?_);·go_wp2
 ·rintro b a w' ⟨rfl,d,rfl⟩;exact⟨d,_,rfl,.tuple #[],by simp[results,results22],rfl,c,rfl⟩
theorem zzk (b:Nat) (c a:Int) (w:Zw) (n:w.cell? (A b 0 F)=Z (U O 0)) (e:w.cell? (A b 1 F)=Z (U O 0)) (l:w.frozen? (A b 0 F)=X) (m:w.frozen? (A b 1 F)=X) (o:b<w.heap.size) : CallsD prog 22 #[Zp (Z (A b 0 F))] (.panicking (qI c a)) w fun d u' w'=>d=.returned (.tuple #[])/\u'=.panicking [{ v:=.iface 28 (Za #[U O c,U O a]),recovered:=H }]/\w'.cell? (A b 0 F)=Z (U O c)/\w'.cell? (A b 1 F)=Z (U O a)/\Fr b w w':=by
 have k:=kc28;have p:∀w:Zw,(binOp BinOp.eql 20 (.iface 28 (Za #[U O c,U O a])) .nilIface).run prog w=.ok (Y X) w:=fun _=>oD
 have r:∀w:Zw,(Instr.typeAssert (.iface 28 (Za #[U O c,U O a])) 20 28 H).run prog w=.ok (.tuple #[Za #[U O c,U O a],Y H]) w:=fun _=>oD
 unfold qI;refine callsD_of_wpS func22 rfl fun f cs j=>?_
 refine zb3 (v:=.iface 28 (Za #[U O c,U O a])) (cs':={ f with mode:=.panicking [{ v:=.iface 28 (Za #[U O c,U O a]),recovered:=H }] } :: cs) (by simp[recoverD,j]) ?_;simp only[ntmps22,List.size_toArray,jd,je,Nat.reduceAdd,Nat.reduceSub,Array.replicate_succ,Array.replicate_zero,List.push_toArray,List.append_toArray,js,jK,Act.put,List.setIfInBounds_toArray,List.set_cons_succ,List.set_cons_zero];refine wpS_of_wp (wp_mono (Q:=fun d q w'=>d=.normal/\q.defers=[]/\w'.cell? (A b 0 F)=Z (U O c)/\w'.cell? (A b 1 F)=Z (U O a)/\Fr b w w') ?_ ?_);·go_wp2;exact(((Fr.refl _ _).set _ _).set _ _).alloc _
 ·rintro d q w' ⟨rfl,e,g,h,i⟩;exact⟨e,_,rfl,.tuple #[],by simp[results,results22],rfl,rfl,g,h,i⟩
def GO (w:Zw) (r:Option (Int × Int)) (e:Ending) (w':Zw):Prop:=e=.returned (Za #[U O (r.getD (0,0)).1,U O (r.getD (0,0)).2])/\Below w.heap.size w w'
theorem zx6 {Gb gn:Nat} {gf:ByteArray->Option FV} (r:List FaceD) (m:ByteArray) (b:List Kid) (v:Zv) (w:Zw) (K:∀g,(gf g).map (·.1)=r.find? (fun o=>eqS o.module g)) (L:∀g q,gf g=Z q->qX w (fvV q) q.1) (M:∀o∈r,vT o) (ao:kZ w Gb gn (fun g=>fvO (gf g))) (ag:uH w) (T:Lies (·<w.heap.size) w (.node 1 m 0 (b.map Kid.tree)) v) (a8:b.length<=900) (ae:∀k∈b,k.good/\cI k) (ai:∀k∈b,k.kids.length<=1000) (ac:kA (b.map Kid.tree)<=900000) (ah:vT (qS H m b)) : Calls prog 10 #[v,.map (Z Gb)] w (GO w (moF (qS H m b) r b [] 1)):=by
 have au:=kc25;have av:=kc28;have aw:=kc66;have ay:=@run_makeMap prog;have ax:∀(E:Fn) (first D:Array Zv) (w:Zw),(Instr.makeFunc E first D).run prog w=.ok (.func E first D) w:=fun _ _ _ _=>rfl
 unfold Lies at T;obtain⟨a,c,rfl,_,R⟩:=T;rw[List.length_map]at *;have N:b≠[]->∃p y,a=Z (A p y F)/\p<w.heap.size/\kQ (·<w.heap.size) w (b.map Kid.tree) p y:=fun B=>R (by simpa using B)
 clear R;obtain⟨d,i⟩:∃d,d=((((w.alloc (Zc #[U O 1,I m,U O 0,J a b.length c] 25)).alloc (Zc #[U O 0,U O 0] 28)).alloc (.map #[] 0)).alloc (Zc #[U O 1,I m,U O 0,J a b.length c,.map (Z Gb),.map (Z (w.heap.size+1+1)),J F 0 0,U O 0] 66)):=⟨_,rfl⟩
 have aj:(((w.alloc (Zc #[U O 1,I m,U O 0,J a b.length c] 25)).alloc (Zc #[U O 0,U O 0] 28)).alloc (.map #[] 0)).heap.size=w.heap.size+1+1+1:=oB;have ab:Below w.heap.size w d:=by rw[i];exact(((bal _).alloc oB _).alloc oE _).alloc oE _
 have e:kF d (w.heap.size+1+1+1) #[U O 1,I m,U O 0,J a b.length c,.map (Z Gb),.map (Z (w.heap.size+1+1)),J F 0 0,U O 0] 66:=by
  have:=kF.new (((w.alloc (Zc #[U O 1,I m,U O 0,J a b.length c] 25)).alloc (Zc #[U O 0,U O 0] 28)).alloc (.map #[] 0)) #[U O 1,I m,U O 0,J a b.length c,.map (Z Gb),.map (Z (w.heap.size+1+1)),J F 0 0,U O 0] 66;rw[aj]at this;rw[i];exact this
 have a3:Box2 d (w.heap.size+1) (U O 0) (U O 0):=by
  have:=Box2.new (w.alloc (Zc #[U O 1,I m,U O 0,J a b.length c] 25)) (U O 0) (U O 0) 28;rw[jO]at this;rw[i];have aa:=((Below.refl ((w.alloc (Zc #[U O 1,I m,U O 0,J a b.length c] 25)).alloc (Zc #[U O 0,U O 0] 28)).heap.size ((w.alloc (Zc #[U O 1,I m,U O 0,J a b.length c] 25)).alloc (Zc #[U O 0,U O 0] 28))).alloc (jE _) (.map #[] 0)).alloc oB (Zc #[U O 1,I m,U O 0,J a b.length c,.map (Z Gb),.map (Z (w.heap.size+1+1)),J F 0 0,U O 0] 66);exact this.below aa
 have S:kZ d (w.heap.size+1+1) 0 (fun _=>F):=by
  have:=kZ.made ((w.alloc (Zc #[U O 1,I m,U O 0,J a b.length c] 25)).alloc (Zc #[U O 0,U O 0] 28));rw[jO,jO]at this;rw[i];exact this.below (bal _)
 obtain⟨f,t⟩:∃f,f=((w.alloc (Zc #[U O 1,I m,U O 0,J a b.length c] 25)).alloc (Zc #[U O 0,U O 0] 28)):=⟨_,rfl⟩
 have az:f.heap.size=w.heap.size+1+1:=by rw[t];simp
 have n:Below w.heap.size w f:=by rw[t];exact(bal _).alloc oB _
 have Q:Below f.heap.size f d:=by rw[i,t];exact(bal _).alloc oB _
 have G:M0 f d (w.heap.size+1+1+1) Gb (w.heap.size+1+1) gn gf m a b.length c 0 :=
  ⟨Q,oA,e.cell 1 rfl,e.cell 3 rfl,e.cell 4 rfl,e.cell 5 rfl,e.cell 6 rfl,e.cell 7 rfl,fun k=>e.fz k,S,oA,oA,zan ag n,ao.below n⟩
 have P:=zx8 r K (fun g q x=>(L g q x).below n) M m b a c d G (fun B=>by
  obtain⟨p,y,l,ad,a9⟩:=N B
  exact⟨p,y,l,oA,kQ.below ad a9 n⟩) a8 ae ai ac ah
 clear G S e N K L M
 have a5:Box2 f (w.heap.size+1) (U O 0) (U O 0):=by
  have:=Box2.new (w.alloc (Zc #[U O 1,I m,U O 0,J a b.length c] 25)) (U O 0) (U O 0) 28;rw[jO]at this;rw[t];exact this
 clear t ab a3;generalize moF (qS H m b) r b [] 1=a2 at *;go_enter_defers func10,ntmps10;go_wp2_with (fail);rw[<- i];refine P.mono ?_;clear i P Q;rintro l C ⟨u,x⟩;have j:=a5.below u;have am:=j.lt;have h:Hid (Below w.heap.size w C):=n.trans (u.mono n.size)
 cases a2 with
 | some q =>
  obtain rfl:l=.panicked (qI q.1 q.2):=x;have an:=zzk (w.heap.size+1) q.1 q.2 C j.c0 j.c1 j.f0 j.f1 am;clear u;go_wp2;refine leaves_cons (f:=22) (args:=#[Zp (Z (A (w.heap.size+1) 0 F))]) oB oY ?_;refine an.mono ?_;rintro l u' W ⟨rfl,rfl,a6,a7,s⟩;have z:Below w.heap.size w W:=⟨s.os.trans h.out.os,s.tape.trans h.out.tape,s.output.trans h.out.output,jp h.out.size s.size,fun V af=>(s.block V (by have:=h.out.size;omega) oE).trans (h.out.block V af)⟩
  refine⟨Za #[U O q.1,U O q.2],?_,?_⟩;·simp[results,results10,go_sem,a6,a7]
  ·exact⟨rfl,z⟩
 | none =>
  obtain rfl:l=.returned (.tuple #[]):=x;obtain⟨ap,ar,aA,aB⟩:=id j;have z:Hid (Below w.heap.size w ((C.setCell (A (w.heap.size+1) 0 F) (U O 0)).setCell (A (w.heap.size+1) 1 F) (U O 0))):=(h.out.setCell (Nat.le_succ _) _).setCell (Nat.le_succ _) _;clear u;go_wp2;refine leaves_cons (f:=22) (args:=#[Zp (Z (A (w.heap.size+1) 0 F))]) oB oY ?_;refine(zro _ _).mono ?_;rintro l u' W ⟨rfl,rfl,ak⟩;subst ak;refine⟨Za #[U O 0,U O 0],?_,?_⟩;·simp[results,results10,go_sem,ap,ar]
  ·exact⟨rfl,z.out⟩
end
end chk
end Go.Proofs.YtjkcecppnmlhjaaGreatDoor
