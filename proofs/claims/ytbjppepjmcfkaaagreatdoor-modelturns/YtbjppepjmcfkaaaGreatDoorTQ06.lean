/- Statements: contracts, a kind each. -/
import Derived.Test.YtbjppepjmcfkaaaGreatDoorTQr
import Derived.Test.YtbjppepjmcfkaaaGreatDoorTQ05
import Derived.Test.YtbjppepjmcfkaaaGreatDoorTQ01
import Derived.Great.Walk
import Derived.Deep.RegionHeld3
open Go.Proofs.Tryz
open Go.Value renaming int → U, string → I, slice → J, bool → Y, agg → Za, pointer → Zp
open Go.IntKind renaming i64 → O
open Go.Obj renaming cells → Zc
open Go.Addr renaming mk → A
open Option renaming none → F, some → Z
open Bool renaming true → H
open Go renaming World → Zw, Value → Zv
set_option maxHeartbeats 4000000
set_option linter.unusedVariables false
set_option linter.unusedSimpArgs false
set_option maxRecDepth 100000
namespace Go.Proofs.YtbjppepjmcfkaaaGreatDoor
theorem zpi {p:Prop} (n:p:=by
 apply wpS_seq;apply wpS_seq;apply wpS_region;simp[wpOpsS,go_sem,n,Exit.thenS];refine wpS_of_wp (wp_mono q ?_);intro e a w h
 cases e with
 | normal=>exact wpS_of_wp (wp_mono h f)
 | exit id=>exact f _ _ _ h
 | goto l=>exact f _ _ _ h
 | ret=>exact f _ _ _ h
 | panic r=>exact f _ _ _ h
 | outgrown=>exact f _ _ _ h):p:=n
theorem zpj {p:Prop} (m:p:=by
 simp only[ntmps66,List.size_toArray,jd,je,Nat.reduceAdd,Nat.reduceSub,Array.replicate_succ,Array.replicate_zero,List.push_toArray,List.append_toArray,js,jL,Act.put,List.setIfInBounds_toArray,List.set_cons_succ,List.set_cons_zero]
 go_wp2):p:=m
theorem zpo {p:Prop} (y:p:=by
 rw[aL.out]
 exact⟨rfl,P,N,ag.out.turn 11 (natV d) (by simp[yQ]) rfl rfl rfl,af.out.turn 11 _,trivial⟩):p:=y
theorem zhm {p:Prop} (G:p:=by
 obtain⟨cc,cd⟩:=bh.out k.1;go_simp):p:=G
theorem zpk {p:Prop} (c:p:=by
 rintro a aC ⟨rfl,aJ,aI,ap,ao,_⟩;have aN:=show Hid _ from ap
 have aM:=show Hid _ from av.out.trans ao
 have aP:Hid (g=.go aK ar):=by show g=_;rw[aA.out,a5]
 clear ap ao a5;go_wp2;go_ret;rw[aP.out]
 exact⟨rfl,aJ,aI,aN.out,aM.out,trivial⟩):p:=c
theorem zpl {p:Prop} (c:p:=by
 rintro a aB ⟨⟨ps,W,rfl⟩,ai,ae,z,x⟩;go_wp2;rw[show g=.stop L o by rw[u.out,E];rfl]
 exact⟨rfl,⟨ps,W,rfl⟩,ai,ae,z,a6.out.trans x⟩):p:=c
theorem zpm {p:Prop} (c:p:=by
 rintro a aB ⟨rfl,ai,ae,z,x⟩;go_wp2;rw[show g=.back v o by rw[u.out,E];rfl]
 exact⟨rfl,rfl,ai,ae,z,a6.out.trans x⟩):p:=c
theorem zpn {p:Prop} (c:p:=by
 rintro a aC ⟨⟨ps,W,rfl⟩,aJ,aI,ap,ao⟩;go_wp2;rw[aA.out,a5]
 exact⟨rfl,⟨ps,W,rfl⟩,aJ,aI,ap,av.out.trans ao⟩):p:=c
namespace mdl
open Go.RowKit Go.Maps Go.WideMaps
open syn face mac chk
def PrG (P:Nat->Prop) (w:Zw) (o:Option Zv) (q:PR):Prop:=match o with
 | none=>q=gY
 | some v=>∃a c k x m b kn d,v=Za #[I q.mod,J a q.pars.length c,U O k,I x,U O m,J b kn d]/\Lies P w q.body (Za #[U O k,I x,U O m,J b kn d])/\BlT q.body/\q.mod.size<=16 /\
  (q.pars≠[]->∃g o,a=Z (A g o F)/\P g/\∀i (n:i<q.pars.length),∃(h j:Int) (e:Option Addr) (l f:Nat),w.cell? (A g (o+i*4) F)=Z (U O h)/\w.cell? (A g (o+i*4+1) F)=Z (I q.pars[i])/\w.cell? (A g (o+i*4+2) F)=Z (U O j)/\w.cell? (A g (o+i*4+3) F)=Z (J e l f))
abbrev zr0 (p:Pl) (w:Zw) (o:Option Zv) (q:PR):Prop:=PrG (Stc p) w o q
structure Gv (p:Pl) (C:Cx) (w0:Zw):Prop where
 hV:kI w0 p.vb p.vn p.vf
 sV:Stc p p.vb
 hP:kI w0 p.pb p.pn p.pf
 sP:Stc p p.pb
 iL:zcw p w0 p.il C.iL
 iH:zcw p w0 p.ih C.iH
 nL:C.iL.length<=1000
 nH:C.iH.length<=1000
 pr:∀x,zr0 p w0 (p.pf x) (C.ps x)
 fu:C.fuel<=1000
structure SF (p:Pl) (C:Cx) (w0:Zw) (lo hi:Zv) (s:RS) (d B:Nat) (M:ByteArray) (l:Lc) (w:Zw):Prop where
 m:MR p C w0 lo hi s d w
 f:FrB p B M l w
 nl:lo.ownBlock≠Z B
 nh:hi.ownBlock≠Z B
 iv:Inv C s
 ms:M.size<=1000
 dl:d<=30
section
variable {p:Pl} {C:Cx} {w0 w w':Zw} {lo hi lo' hi':Zv} {s s':RS} {d B:Nat} {M:ByteArray} {l:Lc}
theorem SF.after (a:SF p C w0 lo hi s d B M l w) (e:MR p C w0 lo' hi' s' d w') (b:FK p (fun _=>False) lo hi lo' hi' w w') (c:Inv C s'):SF p C w0 lo' hi' s' d B M l w' :=
 ⟨e,a.f.fk b id a.nl a.nh,b.lone a.f.lt a.nl,b.hine a.f.lt a.nh,c,a.ms,a.dl⟩
theorem SF.below (a:SF p C w0 lo hi s d B M l w) (b:Below w.heap.size w w'):SF p C w0 lo hi s d B M l w':=⟨a.m.below b,a.f.below b,a.nl,a.nh,a.iv,a.ms,a.dl⟩
end
abbrev ExR (p:Pl) (C:Cx) (w0:Zw) (lo hi:Zv) (d:Nat) (w:Zw) (o:Out Int):Ending->Zw->Prop:=Rs p C w0 lo hi d (fun _=>False) w intV (fun _ _=>True) o
def CEx (p:Pl) (C:Cx) (w0:Zw) (g:Nat):Prop:=∀M l d t v s lo hi w B,ExT t->Nod p w0 t v->SF p C w0 lo hi s d B M l w->exM C g M l d t s≠.lost->Calls prog 141 #[Zp (Z (A B 0 F)),v] w (ExR p C w0 lo hi d w (exM C g M l d t s))
section
variable {p:Pl} {C:Cx} {w0 w w':Zw} {lo hi lo' hi':Zv} {s s':RS} {d B:Nat} {M:ByteArray} {l:Lc}
theorem zh2 (C:Cx) (b:Nat) (M:ByteArray) (l:Lc) (d:Nat) (e:ByteArray) (a:Int) (c:List Tree) (s:RS):exM C (b+1) M l d (.node 15 e a c) s=(kP C.fuel s).bind fun _ s=>.go a s:=by
 unfold exM;rfl
theorem SF.side (e:SF p C w0 lo hi s d B M l w) (b:Array Zv) (a:TypeId) {X:Nat->Prop} (g:¬X w.heap.size) (f:FK p X lo hi lo' hi' (w.alloc (Zc b a)) w'):BoxC w' w.heap.size b a :=
 f.box (BoxC.new w b a) (by have:=e.m.lt;omega) g (fun c=>by have:=(e.m.rl.lt _ c).2;omega) (fun c=>by have:=(e.m.rh.lt _ c).2;omega)
theorem ydn (V:Gv p C w0) (G:Nat) (c:Int) (k:Option Addr) (n:Nat) (e:SF p C w0 lo hi s d B M l w):Calls prog 141 #[Zp (Z (A B 0 F)),Za #[U O 15,I empty,U O c,J k 0 n]] w (ExR p C w0 lo hi d w (exM C (G+1) M l d (.node 15 empty c []) s)):=by
 have i:=e.below (bal (Zc #[U O 15,I empty,U O c,J k 0 n]  25));have u:=show Hid _ from i
 have x:=show Hid _ from(FK.refl p (fun _=>False) lo hi w).alloc (Zc #[U O 15,I empty,U O c,J k 0 n]  25)
 have E:Hid (∀ {lo' hi' w'},FK p (fun _=>False) lo hi lo' hi' (w.alloc (Zc #[U O 15,I empty,U O c,J k 0 n]  25)) w'->BoxC w' w.heap.size #[U O 15,I empty,U O c,J k 0 n]  25):=fun T=>e.side _ _ (fun a=>a) T
 have S:=i.f.c0;have a7:=V.fu;have aa:=i.iv.st;have K:=uJ (fun _=>False) i.m oA;have a8:=e.f.lt;have a6:=e.m.lt;have a9:=p.rd;have z:Hid (lo.ownBlock≠Z w.heap.size/\hi.ownBlock≠Z w.heap.size):=⟨fun a=>by have:=(e.m.rl.lt _ a).2;omega,fun a=>by have:=(e.m.rh.lt _ a).2;omega⟩
 obtain⟨h,y⟩:∃h,h=exM C (G+1) M l d (.node 15 empty c []) s:=⟨_,rfl⟩
 rw[<- y];have D:=show Hid _ from y
 clear e i y;go_enter func141,ntmps141;go_wp2_with (fail);refine K.mono ?_;clear K S
 cases j:kP C.fuel s with
 | lost=>intro a L a2;exact a2.elim
 | back v t=>exact absurd j (by unfold kP;split<;>(intro a;cases a))
 | stop R t =>
  rintro a L ⟨⟨ps,W,rfl⟩,r,q,o,b⟩;go_wp2;rw[show h=.stop R t by rw[D.out,zh2,j];rfl]
  exact⟨rfl,⟨ps,W,rfl⟩,r,q,o,x.out.trans b⟩
 | go af t =>
  rintro a L ⟨rfl,r,q,o,b,_⟩;have Q:=show Hid _ from u.out.after o b (u.out.iv.go (xD C.fuel s) ((vJ s).less oA) j)
  have N:=show Hid _ from x.out.trans b
  have a5:Hid (r.ownBlock≠Z w.heap.size/\q.ownBlock≠Z w.heap.size):=⟨b.lone oC z.out.1,b.hine oC z.out.2⟩
  have g:=E.out b;have a3:=show Hid _ from g
  have ab:=g.cell 0 rfl;have ac:=g.cell 1 rfl;have ad:=g.cell 2 rfl;have ae:=g.cell 3 rfl;have P:Hid (h=.go c t):=by show h=_;rw[D.out,zh2,j];rfl
  clear o b E u x g j;go_wp2;go_ret;rw[P.out];exact⟨rfl,r,q,Q.out.m,N.out,trivial⟩
end
end mdl
namespace ord
theorem tkd {i:Program} {b:Array Oper} {c:Exit->Act->Zw->Prop} {md:Region.Mode} {e:Zw->Prop} {f d:Nat} {h:Oper} {v:Zv} {k:Nat} {g:Array Bool} {a:Act} {w:Zw} (hi:b[f]?=Z h) (o:h.dst=Z d) (r:Region.noSelect b=H) (p:Region.free md b g f=H) (q:(Region.ready md b g).contains f=H) (m:∀j a w,c (.panic j) (a.put h.dst v) w->c (.panic j) a w) (s:YieldsIf i b e h v a) (n:e w) (l:wpAnyH i md b c e k (g.setIfInBounds f H) { tmps:=a.tmps.setIfInBounds d v,defers:=a.defers } w):wpAnyH i md b c e (k+1) g a w:=by
 refine wpAnyH_take hi r p q m s n ?_;rw[o];exact l
theorem gL {b:Oper} {a:Act} {v:Zv} {d:Nat} (c:b.dst=Z d):a.put b.dst v={ tmps:=a.tmps.setIfInBounds d v,defers:=a.defers }:=by
 rw[c];rfl
end ord
namespace mdl
open Go.RowKit Go.Maps Go.WideMaps
open syn face mac chk
open ord (tkd gL)
section
variable {p:Pl} {C:Cx} {w0 w w':Zw} {lo hi lo' hi':Zv} {s s':RS} {d B:Nat} {M:ByteArray} {l:Lc}
theorem SF.word (i:SF p C w0 lo hi s d B M l w) {c:Tree} {b:Int} {q:Wd} (a:zL M l c b s=Z q) {g:Zv} (k:WdP p B q g):∃h,g=Zp (Z h)/\w.cell? h=Z (intV (cT l s q)):=by
 unfold zL at a;split at a;·rename_i u hi;injection a with a;subst a;obtain⟨j,_,_⟩:=zak hi;refine⟨_,k,?_⟩;rw[i.f.vl u j];simp[cT,j]
 ·split at a;·cases a
  ·rename_i E;injection a with a;subst a;obtain⟨x,G,z,t,rfl⟩:=k;refine⟨_,rfl,?_⟩;have e:=i.m.wd (qO (textOf c) M);unfold uD at e;rw[t]at e;obtain⟨y,n,D,o,_⟩:=e;injection n with e1 _ _;injection e1 with e1;injection e1 with e1 _ _;subst e1;have r:b.toNat<(s.vs (qO (textOf c) M)).length:=oA;rw[o.cell b.toNat (v:=intV ((s.vs (qO (textOf c) M)).getD b.toNat 0)) (by simp[r])];rfl
def CIx (p:Pl) (C:Cx) (w0:Zw) (g:Nat):Prop:=∀M l d k x m ks v s lo hi w B,ExT (.node k x m ks)->k=16\/k=17->Nod p w0 (.node k x m ks) v->SF p C w0 lo hi s d B M l w->ixM C g M l d (.node k x m ks) s≠.lost->Calls prog 142 #[Zp (Z (A B 0 F)),v] w (ExR p C w0 lo hi d w (ixM C g M l d (.node k x m ks) s))
theorem zqi (C:Cx) (f:Nat) (M:ByteArray) (l:Lc) (d:Nat) (a:Int) (g:a=16\/a=17) (e:ByteArray) (c:Int) (b:List Tree) (s:RS):exM C (f+1) M l d (.node a e c b) s=(kP C.fuel s).bind fun _ s=>(ixM C f M l d (.node a e c b) s).bind fun h s=>match zL M l (.node a e c b) h s with
   | none=>.stop 3 s
   | some q=>.go (cT l s q) s:=by
 conv=>lhs;unfold exM
 congr
 funext u s
 rw[jv g];rfl
theorem zrk (ai:Gv p C w0) (m:Nat) (aA:CIx p C w0 m) (a:Int) (t:a=16\/a=17) (c:ByteArray) (e:Int) (b:List Tree) (h:Option Addr) (i:Nat) (aU:c.size<=1000) (aD:ExT (.node a c e b)) (aB:Nod p w0 (.node a c e b) (Za #[U O a,I c,U O e,J h b.length i])) (z:SF p C w0 lo hi s d B M l w) (aH:exM C (m+1) M l d (.node a c e b) s≠.lost):Calls prog 141 #[Zp (Z (A B 0 F)),Za #[U O a,I c,U O e,J h b.length i]] w (ExR p C w0 lo hi d w (exM C (m+1) M l d (.node a c e b) s)):=by
 have aK:=show Hid _ from aA
 have aM:=show Hid _ from aB
 have aO:=show Hid _ from aD
 have aN:=show Hid _ from aH
 have am:(a==16)=H\/((a==16)=false/\(a==17)=H):=by rcases t with rfl | rfl<;>simp
 clear aA aB aD aH;have t:=z.below (bal (Zc #[U O a,I c,U O e,J h b.length i]  25));have a9:=show Hid _ from t
 have ac:=show Hid _ from(FK.refl p (fun _=>False) lo hi w).alloc (Zc #[U O a,I c,U O e,J h b.length i]  25)
 have ax:Hid (∀ {lo' hi' w'},FK p (fun _=>False) lo hi lo' hi' (w.alloc (Zc #[U O a,I c,U O e,J h b.length i]  25)) w'->BoxC w' w.heap.size #[U O a,I c,U O e,J h b.length i]  25):=fun aS=>z.side _ _ (fun g=>g) aS
 have aQ:=t.f.c0;have b9:=ai.fu;have be:=t.iv.st;have aC:=uJ (fun _=>False) t.m oA;have bb:=z.f.lt;have aR:=z.m.lt;have bc:=p.rd;have av:Hid (lo.ownBlock≠Z w.heap.size/\hi.ownBlock≠Z w.heap.size):=⟨fun g=>by have:=(z.m.rl.lt _ g).2;omega,fun g=>by have:=(z.m.rh.lt _ g).2;omega⟩
 obtain⟨r,aj⟩:∃r,r=exM C (m+1) M l d (.node a c e b) s:=⟨_,rfl⟩
 rw[<- aj];have ad:=show Hid _ from aj
 clear z t aj;go_enter func141,ntmps141;go_wp2_with (fail);refine aC.mono ?_;clear aC aQ
 cases W:kP C.fuel s with
 | lost=>intro g a2 aT;exact aT.elim
 | back v G=>exact absurd W (by unfold kP;split<;>(intro g;cases g))
 | stop ah G =>
  rintro g a2 ⟨⟨ps,an,rfl⟩,a8,a6,a5,u⟩;go_wp2;rw[show r=.stop ah G by rw[ad.out,zqi C m M l d a t c e b s,W];rfl]
  exact⟨rfl,⟨ps,an,rfl⟩,a8,a6,a5,ac.out.trans u⟩
 | go bf G =>
  rintro g a2 ⟨rfl,a8,a6,a5,u,_⟩;have aw:=show Hid _ from a9.out.after a5 u (a9.out.iv.go (xD C.fuel s) ((vJ s).less oA) W)
  have ap:=show Hid _ from ac.out.trans u
  have au:Hid (a8.ownBlock≠Z w.heap.size/\a6.ownBlock≠Z w.heap.size):=⟨u.lone oC av.out.1,u.hine oC av.out.2⟩
  have N:=ax.out u;have aa:=show Hid _ from N
  have aV:=N.cell 0 rfl;have aW:=N.cell 1 rfl;have aX:=N.cell 2 rfl;have aY:=N.cell 3 rfl;have T:Hid (r=(ixM C m M l d (.node a c e b) G).bind fun k s=>match zL M l (.node a c e b) k s with | none=>.stop 3 s | some q=>.go (cT l s q) s):=by show r=_;rw[ad.out,zqi C m M l d a t c e b s,W];rfl
  clear a5 u ax a9 ac N W;have ao:Hid (∀ {w':Zw},BoxC w' w.heap.size #[U O a,I c,U O e,J h b.length i] 25->w'.cell? (A w.heap.size 0 F)=Z (U O a)/\w'.cell? (A w.heap.size 1 F)=Z (I c)/\w'.cell? (A w.heap.size 2 F)=Z (U O e)/\w'.cell? (A w.heap.size 3 F)=Z (J h b.length i)):=fun j=>⟨j.cell 0 rfl,j.cell 1 rfl,j.cell 2 rfl,j.cell 3 rfl⟩
  have aG:ixM C m M l d (.node a c e b) G≠.lost:=fun g=>by
   have az:=T.out;rw[g]at az;exact aN.out (ad.out.symm.trans az)
  rcases am with am | ⟨am,ba⟩
  all_goals
   go_wp2_with (fail);refine wp_region_held_drew (S:=fun af=>BoxC af w.heap.size #[U O a,I c,U O e,J h b.length i] 25) oB (show BoxC a2.drew _ _ _ from aa.out) (fun D=>?_);have n:BoxC a2.drew w.heap.size #[U O a,I c,U O e,J h b.length i] 25:=aa.out;have ae:=show Hid _ from aw.out.below (Below.refl _ _).drew
   have ab:=show Hid _ from ap.out.drew
   clear D aw ap aa aV aW aX aY;generalize a2.drew=af at *;refine tkS (i:=0) (v:=Zp (Z (A B 0 F))) rfl rfl (Or.inl ⟨oG,fun a3 E=>oF⟩) n ?_;simp only[jA,jB,jC];refine tkS (i:=1) (v:=Za #[U O a,I c,U O e,J h b.length i] ) rfl rfl (Or.inl ⟨oG,fun a3 E=>by obtain⟨aZ,b0,b1,b2⟩:=ao.out E;go_simp⟩) n ?_;simp only[jA,jB,jC];refine tkS (i:=2) (v:=Zp (Z (A B 0 F))) rfl rfl (Or.inl ⟨oG,fun a3 E=>oF⟩) n ?_;simp only[jA,jB,jC];refine tkS (i:=3) (v:=Za #[U O a,I c,U O e,J h b.length i] ) rfl rfl (Or.inl ⟨oG,fun a3 E=>by obtain⟨aZ,b0,b1,b2⟩:=ao.out E;go_simp⟩) n ?_;simp only[jA,jB,jC];refine oneH 4 fun V y=>?_
   go_simp;go_at_call 142;refine(aK.out M l d a c e b _ G a8 a6 af B aO.out t aM.out ae.out aG).mono ?_
   cases P:ixM C m M l d (.node a c e b) G with
   | lost=>exact absurd P aG
   | back v o =>
    rintro g ag ⟨rfl,R,Q,L,x⟩;go_wp2;rw[show r=.back v o by rw[T.out,P];rfl]
    exact⟨rfl,rfl,R,Q,L,ab.out.trans x⟩
   | stop ah o =>
    rintro g ag ⟨⟨ps,an,rfl⟩,R,Q,L,x⟩;go_wp2;rw[show r=.stop ah o by rw[T.out,P];rfl]
    exact⟨rfl,⟨ps,an,rfl⟩,R,Q,L,ab.out.trans x⟩
   | go k o =>
    rintro g ag ⟨rfl,R,Q,L,x,_⟩;have ak:BoxC ag w.heap.size #[U O a,I c,U O e,J h b.length i] 25:=x.box n aR id au.out.1 au.out.2;refine y.out _ _ ak (fun D=>?_);have K:=show Hid _ from ae.out.after L x (ae.out.iv.go ((gds C m).ix ..) ((gks C m).ix ..) P)
    have ar:=show Hid _ from ab.out.trans x
    clear y V D n L x;refine oneH 5 fun V y=>?_
    go_simp;go_at_call 143;refine(zin K.out.m ai.hV ai.sV K.out.f a e c b h b.length i aU K.out.ms k).mono ?_
    cases a7:zL M l (.node a c e b) k o with
    | none =>
     rintro g ay ⟨j,rfl⟩;go_wp2;rw[show r=.stop 3 o by rw[T.out,P];show(match zL M l (.node a c e b) k o with | none=>_ | some q=>_)=_;rw[a7]]
     exact⟨rfl,gV.new rfl,R,Q,⟨_,K.out.m.below j⟩,ar.out.below j⟩
    | some q =>
     rintro g ay ⟨j,b7,rfl,aE⟩;obtain⟨aP,rfl,aF⟩:=K.out.word a7 aE;have b8:=mac.keep aF j;have n:BoxC ay w.heap.size #[U O a,I c,U O e,J h b.length i] 25:=ak.below j;have aJ:Hid (r=.go (cT l o q) o):=by show r=_;rw[T.out,P];show(match zL M l (.node a c e b) k o with | none=>_ | some q=>_)=_;rw[a7]
     have aL:=show Hid _ from K.out.m.below j
     have aI:=show Hid _ from ar.out.below j
     clear aF j aE ak a7;generalize cT l o q=b6 at *;refine y.out _ _ n (fun D=>?_);clear y V D;refine tkS (i:=6) (v:=Zp (Z aP)) rfl rfl (Or.inl ⟨oG,fun a3 E=>oF⟩) n ?_;simp only[jA,jB,jC];refine oneH 7 fun V y=>?_
     go_simp;refine y.out _ _ n (fun D=>?_);clear y V D;refine tkS (i:=8) (v:=U O b6) rfl rfl (Or.inl ⟨oG,fun a3 E=>oF⟩) n ?_;simp only[jA,jB,jC];refine wpAnyH_done oB ?_ _;go_wp2;go_ret;rw[aJ.out];exact⟨rfl,R,Q,aL.out,aI.out,trivial⟩
end
section
variable {p:Pl} {C:Cx} {w0 w w':Zw} {lo hi lo' hi':Zv} {s s':RS} {d B:Nat} {M:ByteArray} {l:Lc}
theorem Nod.kids {o:Int} {r:ByteArray} {q:Int} {c:List Tree} {v:Zv} (n:Nod p w0 (.node o r q c) v):∃f g,v=Za #[U O o,I r,U O q,J f c.length g]/\c.length<=g/\c.length<=4611686018427387904 /\ (c≠[]->∃b e,f=Z (A b e F)/\∀a (hi:a<c.length),∃j k l m,Nod p w0 c[a] (Za #[j,k,l,m])/\∀ {lo hi s d w},MR p C w0 lo hi s d w->w.cell? (A b (e+a*4) F)=Z j/\w.cell? (A b (e+a*4+1) F)=Z k/\w.cell? (A b (e+a*4+2) F)=Z l/\w.cell? (A b (e+a*4+3) F)=Z m):=by
 unfold Nod Lies at n;obtain⟨f,g,rfl,⟨z,B⟩,E⟩:=n;refine⟨f,g,rfl,B,z,fun K=>?_⟩;obtain⟨b,e,rfl,i,D⟩:=E K;refine⟨b,e,rfl,fun a hi=>?_⟩;obtain⟨v,⟨j,k,l,m,rfl,t,u,x,y⟩,G⟩:=D.get a hi;exact⟨j,k,l,m,G,fun h=>⟨h.stc.cell t i,h.stc.cell u i,h.stc.cell x i,h.stc.cell y i⟩⟩
theorem ydq (c:Nat) (a5:CEx p C w0 c):CIx p C w0 (c+1):=by
 intro M l d af h u t v s lo hi w B E a7 D m L;obtain⟨y,i,rfl,ab,ac,q⟩:=D.kids (C:=C);have aa:=show Hid _ from E
 rcases a7 with rfl | rfl
 ·have a:ixM C (c+1) M l d (.node 16 h u t) s=.go 0 s:=by unfold ixM;rfl
  rw[a];have V:=show Hid _ from m.m.alloc (Zc #[U O 16,I h,U O u,J y t.length i] 25)
  have b:=show Hid _ from(FK.refl p (fun _=>False) lo hi w).alloc (Zc #[U O 16,I h,U O u,J y t.length i] 25)
  clear m q;go_enter func142,ntmps142;go_wp2;go_ret;exact⟨rfl,lo,hi,V.out,b.out,trivial⟩
 ·cases E with
  | item ad a6 =>
   rename_i g;have a:ixM C (c+1) M l d (.node 17 h 0 [g]) s=exM C c M l d g s:=by unfold ixM;rfl
   rw[a]at L |-;obtain⟨z,S,rfl,K⟩:=q oC;have o:=m.below (bal (Zc #[U O 17,I h,U O 0,J (Z (A z S F)) [g].length i] 25));obtain⟨ah,ai,aj,ak,r,G⟩:=K 0 oC;obtain⟨N,P,Q,R⟩:=G o.m;simp only[Nat.zero_mul,Nat.add_zero,jI]at N P Q R r;have b:=show Hid _ from(FK.refl p (fun _=>False) lo hi w).alloc (Zc #[U O 17,I h,U O 0,J (Z (A z S F)) [g].length i] 25)
   have n:=a5 M l d g _ s lo hi _ B a6 r o L;simp only[List.length_singleton]at N P Q R n b |-;clear m q K G o r D a;generalize exM C c M l d g s=a3 at *;go_enter func142,ntmps142;go_wp2_with (fail);refine n.mono ?_;clear n
   cases a3 with
   | lost=>intro a ag a9;exact a9.elim
   | back v T =>
    rintro a x ⟨rfl,k,j,f,e⟩;go_wp2
    exact⟨rfl,rfl,k,j,f,b.out.trans e⟩
   | stop i T =>
    rintro a x ⟨⟨ps,a8,rfl⟩,k,j,f,e⟩;go_wp2
    exact⟨rfl,⟨ps,a8,rfl⟩,k,j,f,b.out.trans e⟩
   | go ae T =>
    rintro a x ⟨rfl,k,j,f,e,_⟩;have a2:=show Hid _ from f
    have W:=show Hid _ from b.out.trans e
    clear f e;go_wp2;go_ret;exact⟨rfl,k,j,a2.out,W.out,trivial⟩
end
section
variable {p:Pl} {C:Cx} {w0 w w':Zw} {lo hi lo' hi':Zv} {s s':RS} {d B:Nat} {M:ByteArray} {l:Lc}
theorem zrl (C:Cx) (a:Nat) (M:ByteArray) (l:Lc) (d:Nat) (g:ByteArray) (e:Int) (b c:Tree) (s:RS):exM C (a+1) M l d (.node 19 g e [b,c]) s=(kP C.fuel s).bind fun _ s=>(exM C a M l d b s).bind fun f s=>(exM C a M l d c s).bind fun v s=>zO e f v s:=by
 conv=>lhs;unfold exM
 rfl
theorem vH {α β:Type} {b:Out α} {d:α->RS->Out β} (a:b.bind d≠.lost):b≠.lost:=by
 intro c;rw[c]at a;exact a rfl
theorem ydp (bz:Gv p C w0) (h:Nat) (b7:CEx p C w0 h) (c:Int) (r m:Tree) (bA:ExT r) (an:ExT m) (v:Zv) (b9:Nod p w0 (.node 19 empty c [r,m]) v) (G:SF p C w0 lo hi s d B M l w) (bc:exM C (h+1) M l d (.node 19 empty c [r,m]) s≠.lost):Calls prog 141 #[Zp (Z (A B 0 F)),v] w (ExR p C w0 lo hi d w (exM C (h+1) M l d (.node 19 empty c [r,m]) s)):=by
 have aV:=show Hid (CEx p C w0 h)from b7
 have br:=show Hid _ from bc
 obtain⟨cb,o,rfl,bX,c6,bb⟩:=b9.kids (C:=C);obtain⟨a,b,rfl,aP⟩:=bb oC;obtain⟨au,av,aw,ax,aQ,aN⟩:=aP 0 oC;obtain⟨ay,az,aA,aB,aR,aO⟩:=aP 1 oC;simp only[Nat.zero_mul,Nat.add_zero,jI,List.getElem_cons_succ,Nat.one_mul,jd,je,Nat.zero_add,Nat.reduceAdd]at aQ aN aR aO |-;have bj:=show Hid (Nod p w0 r (Za #[au,av,aw,ax]))from aQ
 have bm:=show Hid (Nod p w0 m (Za #[ay,az,aA,aB]))from aR
 have a3:Hid (∀ {lo hi s d w},MR p C w0 lo hi s d w->(w.cell? (A a b F)=Z au/\w.cell? (A a (b+1) F)=Z av/\w.cell? (A a (b+2) F)=Z aw/\w.cell? (A a (b+3) F)=Z ax)/\(w.cell? (A a (b+4) F)=Z ay/\w.cell? (A a (b+4+1) F)=Z az/\w.cell? (A a (b+4+2) F)=Z aA/\w.cell? (A a (b+4+3) F)=Z aB)):=fun b8=>⟨aN b8,aO b8⟩
 clear b7 b9 bc bb aP aN aO aQ aR;have ac:=G.below (bal (Zc #[U O 19,I empty,U O c,J (Z (A a b F)) 2 o]  25));have aC:=show Hid _ from ac
 have aE:=show Hid _ from(FK.refl p (fun _=>False) lo hi w).alloc (Zc #[U O 19,I empty,U O c,J (Z (A a b F)) 2 o]  25)
 have b1:Hid (∀ {lo' hi' w'},FK p (fun _=>False) lo hi lo' hi' (w.alloc (Zc #[U O 19,I empty,U O c,J (Z (A a b F)) 2 o]  25)) w'->BoxC w' w.heap.size #[U O 19,I empty,U O c,J (Z (A a b F)) 2 o]  25):=fun bw=>G.side _ _ (fun e=>e) bw
 have bv:=ac.f.c0;have c7:=bz.fu;have ca:=ac.iv.st;have ba:=uJ (fun _=>False) ac.m oA;have c8:=G.f.lt;have aH:=G.m.lt;have c9:=p.rd;have aZ:Hid (lo.ownBlock≠Z w.heap.size/\hi.ownBlock≠Z w.heap.size):=⟨fun e=>by have:=(G.m.rl.lt _ e).2;omega,fun e=>by have:=(G.m.rh.lt _ e).2;omega⟩
 obtain⟨j,aJ⟩:∃j,j=exM C (h+1) M l d (.node 19 empty c [r,m]) s:=⟨_,rfl⟩
 rw[<- aJ];have aF:=show Hid _ from aJ
 clear G ac aJ;go_enter func141,ntmps141;go_wp2_with (fail);refine ba.mono ?_;clear ba bv
 cases ad:kP C.fuel s with
 | lost=>intro e ae aT;exact aT.elim
 | back v R=>exact absurd ad (by unfold kP;split<;>(intro e;cases e))
 | stop V R =>
  rintro e ae ⟨⟨ps,Q,rfl⟩,ar,ao,am,K⟩;go_wp2;rw[show j=.stop V R by rw[aF.out,zrl C h M l d empty c r m s,ad];rfl]
  exact⟨rfl,⟨ps,Q,rfl⟩,ar,ao,am,aE.out.trans K⟩
 | go E R =>
  rintro e ae ⟨rfl,ar,ao,am,K,_⟩;have aj:=show Hid _ from aC.out.after am K (aC.out.iv.go (xD C.fuel s) ((vJ s).less oA) ad)
  have aW:=show Hid _ from aE.out.trans K
  have ah:Hid (ar.ownBlock≠Z w.heap.size/\ao.ownBlock≠Z w.heap.size):=⟨K.lone oC aZ.out.1,K.hine oC aZ.out.2⟩
  have W:=b1.out K;have aD:=show Hid _ from W
  have bC:=W.cell 0 rfl;have bF:=W.cell 1 rfl;have bG:=W.cell 2 rfl;have bK:=W.cell 3 rfl;have y:Hid (j=(exM C h M l d r R).bind fun E s=>(exM C h M l d m s).bind fun v s=>zO c E v s):=by show j=_;rw[aF.out,zrl C h M l d empty c r m s,ad];rfl
  clear am K b1 aC aE W ad;have bh:Hid (∀ {w':Zw},BoxC w' w.heap.size #[U O 19,I empty,U O c,J (Z (A a b F)) 2 o] 25->w'.cell? (A w.heap.size 2 F)=Z (U O c)/\w'.cell? (A w.heap.size 3 F)=Z (J (Z (A a b F)) 2 o)):=fun an=>⟨an.cell 2 rfl,an.cell 3 rfl⟩
  have aS:(exM C h M l d r R).bind (fun E s=>(exM C h M l d m s).bind fun v s=>zO c E v s)≠.lost:=fun e=>by
   have b2:=y.out;rw[e]at b2;exact br.out (aF.out.symm.trans b2)
  have a2:=vH aS;have bp:=show Hid _ from aS
  clear aS;go_wp2_with (fail);refine wp_region_held_drew (S:=fun u=>BoxC u w.heap.size #[U O 19,I empty,U O c,J (Z (A a b F)) 2 o] 25/\(u.cell? (A a b F)=Z au/\u.cell? (A a (b+1) F)=Z av/\u.cell? (A a (b+2) F)=Z aw/\u.cell? (A a (b+3) F)=Z ax)/\(u.cell? (A a (b+4) F)=Z ay/\u.cell? (A a (b+4+1) F)=Z az/\u.cell? (A a (b+4+2) F)=Z aA/\u.cell? (A a (b+4+3) F)=Z aB)) oB (show BoxC ae.drew _ _ _/\_ from⟨aD.out,a3.out aj.out.m.drew⟩) (fun N=>?_);have g:BoxC ae.drew w.heap.size #[U O 19,I empty,U O c,J (Z (A a b F)) 2 o] 25/\_:=⟨aD.out,a3.out aj.out.m.drew⟩
  have ak:=show Hid _ from aj.out.below (Below.refl _ _).drew
  have af:=show Hid _ from aW.out.drew
  clear N aj aW aD bC bF bG bK;generalize ae.drew=u at *;refine tkS (i:=0) (v:=Zp (Z (A w.heap.size 2 F))) rfl rfl (Or.inl ⟨oG,fun t k=>oF⟩) g ?_;simp only[jA,jB,jC];refine tkS (i:=1) (v:=U O c) rfl rfl (Or.inl ⟨oG,fun t k=>zhm⟩) g ?_;simp only[jA,jB,jC];refine tkS (i:=2) (v:=Zp (Z (A B 0 F))) rfl rfl (Or.inl ⟨oG,fun t k=>oF⟩) g ?_;simp only[jA,jB,jC];refine tkS (i:=3) (v:=Zp (Z (A w.heap.size 3 F))) rfl rfl (Or.inl ⟨oG,fun t k=>oF⟩) g ?_;simp only[jA,jB,jC];refine tkS (i:=4) (v:=J (Z (A a b F)) 2 o) rfl rfl (Or.inl ⟨oG,fun t k=>zhm⟩) g ?_;simp only[jA,jB,jC];refine tkS (i:=5) (v:=Zp (Z (A a b F))) rfl rfl (Or.inl ⟨oG,fun t k=>oF⟩) g ?_;simp only[jA,jB,jC];refine tkS (i:=6) (v:=Za #[au,av,aw,ax] ) rfl rfl (Or.inl ⟨oG,fun t k=>by obtain⟨bN,bP,bR,bS⟩:=k.2.1;go_simp⟩) g ?_;simp only[jA,jB,jC];refine tkS (i:=8) (v:=Zp (Z (A B 0 F))) rfl rfl (Or.inl ⟨oG,fun t k=>oF⟩) g ?_;simp only[jA,jB,jC];refine tkS (i:=9) (v:=Zp (Z (A w.heap.size 3 F))) rfl rfl (Or.inl ⟨oG,fun t k=>oF⟩) g ?_;simp only[jA,jB,jC];refine tkS (i:=10) (v:=J (Z (A a b F)) 2 o) rfl rfl (Or.inl ⟨oG,fun t k=>zhm⟩) g ?_;simp only[jA,jB,jC];refine tkS (i:=11) (v:=Zp (Z (A a (b+4) F))) rfl rfl (Or.inl ⟨oG,fun t k=>oF⟩) g ?_;simp only[jA,jB,jC];refine tkS (i:=12) (v:=Za #[ay,az,aA,aB] ) rfl rfl (Or.inl ⟨oG,fun t k=>by obtain⟨bN,bP,bR,bS⟩:=k.2.2;go_simp⟩) g ?_;simp only[jA,jB,jC];refine oneH 7 fun a6 L=>?_
  go_simp;go_at_call 141;refine(aV.out M l d r _ R ar ao u B bA bj.out ak.out a2).mono ?_
  cases P:exM C h M l d r R with
  | lost=>exact absurd P a2
  | back v q =>
   rintro e T ⟨rfl,D,z,x,n⟩;go_wp2;rw[show j=.back v q by rw[y.out,P];rfl]
   exact⟨rfl,rfl,D,z,x,af.out.trans n⟩
  | stop V q =>
   rintro e T ⟨⟨ps,Q,rfl⟩,D,z,x,n⟩;go_wp2;rw[show j=.stop V q by rw[y.out,P];rfl]
   exact⟨rfl,⟨ps,Q,rfl⟩,D,z,x,af.out.trans n⟩
  | go E q =>
   rintro e T ⟨rfl,D,z,x,n,_⟩;have aa:BoxC T w.heap.size #[U O 19,I empty,U O c,J (Z (A a b F)) 2 o] 25/\_:=⟨n.box g.1 aH id ah.out.1 ah.out.2,a3.out x⟩
   refine L.out _ _ aa (fun N=>?_);have b0:=show Hid _ from ak.out.after x n (ak.out.iv.go ((gds C h).ex ..) ((gks C h).ex ..) P)
   have ag:=show Hid _ from af.out.trans n
   have ai:Hid (D.ownBlock≠Z w.heap.size/\z.ownBlock≠Z w.heap.size):=⟨n.lone g.1.lt ah.out.1,n.hine g.1.lt ah.out.2⟩
   have bq:Hid ((exM C h M l d m q).bind (fun v s=>zO c E v s)≠.lost):=by have b6:=bp.out;rw[P]at b6;exact b6
   have a5:Hid (j=(exM C h M l d m q).bind fun v s=>zO c E v s):=by show j=_;rw[y.out,P];rfl
   clear L a6 N g x n y P a2 ak af;have y:=a5;have a2:=vH bq.out;clear a5;refine oneH 13 fun a6 L=>?_
   go_simp;go_at_call 141;refine(aV.out M l d m _ q D z T B an bm.out b0.out a2).mono ?_
   cases ab:exM C h M l d m q with
   | lost=>exact absurd ab a2
   | back v q =>
    rintro e T ⟨rfl,D,z,x,n⟩;go_wp2;rw[show j=.back v q by rw[y.out,ab];rfl]
    exact⟨rfl,rfl,D,z,x,ag.out.trans n⟩
   | stop V q =>
    rintro e T ⟨⟨ps,Q,rfl⟩,D,z,x,n⟩;go_wp2;rw[show j=.stop V q by rw[y.out,ab];rfl]
    exact⟨rfl,⟨ps,Q,rfl⟩,D,z,x,ag.out.trans n⟩
   | go v bf =>
    rintro e bu ⟨rfl,bM,bB,aI,a7,_⟩;have aK:BoxC bu w.heap.size #[U O 19,I empty,U O c,J (Z (A a b F)) 2 o] 25/\_:=⟨a7.box aa.1 aH id ai.out.1 ai.out.2,a3.out aI⟩
    refine L.out _ _ aK (fun N=>?_);have aY:Hid (bM.ownBlock≠Z w.heap.size/\bB.ownBlock≠Z w.heap.size):=⟨a7.lone aa.1.lt ai.out.1,a7.hine aa.1.lt ai.out.2⟩
    have bn:=show Hid _ from aI
    have aX:=show Hid _ from ag.out.trans a7
    have a5:Hid (j=zO c E v bf):=by show j=_;rw[y.out,ab];rfl
    clear L a6 N aI a7 y ab aa ag b0;refine oneH 14 fun a6 L=>?_
    go_simp;go_at_call 173;refine(oReckon (fun _=>False) bn.out c E v).mono ?_
    cases ap:zO c E v bf with
    | lost=>intro e aG aT;exact aT.elim
    | back v q=>exact absurd ap (by unfold zO;split<;>(intro e;cases e))
    | stop V bg =>
     rintro e aG ⟨⟨ps,Q,rfl⟩,aU,aM,a9,a8⟩;go_wp2;rw[a5.out,ap]
     exact⟨rfl,⟨ps,Q,rfl⟩,aU,aM,a9,aX.out.trans a8⟩
    | go be bg =>
     rintro e aG ⟨rfl,aU,aM,a9,a8,_⟩;have aL:BoxC aG w.heap.size #[U O 19,I empty,U O c,J (Z (A a b F)) 2 o] 25/\_:=⟨a8.box aK.1 aH id aY.out.1 aY.out.2,a3.out a9⟩
     refine L.out _ _ aL (fun N=>?_);have bo:=show Hid _ from a9
     have bi:=show Hid _ from aX.out.trans a8
     have bs:Hid (j=.go be bg):=by show j=_;rw[a5.out,ap]
     clear L a6 N a9 a8 ap aK;have g:=aL;clear aL;refine tkS (i:=15) (v:=U O be) rfl rfl (Or.inl ⟨oG,fun t k=>oF⟩) g ?_;simp only[jA,jB,jC];refine wpAnyH_done oB ?_ _;go_wp2;go_ret;rw[bs.out];exact⟨rfl,aU,aM,bo.out,bi.out,trivial⟩
end
section
variable {p:Pl} {C:Cx} {w0 w w':Zw} {lo hi lo' hi':Zv} {s s':RS} {d B:Nat} {M:ByteArray} {l:Lc}
theorem zqj (C:Cx) (b:Nat) (M:ByteArray) (l:Lc) (d:Nat) (f:ByteArray) (c:Int) (a:Tree) (s:RS):exM C (b+1) M l d (.node 20 f c [a]) s=(kP C.fuel s).bind fun _ s=>(exM C b M l d a s).bind fun e s=>zO 2 0 e s:=by
 conv=>lhs;unfold exM
 rfl
theorem zqk (C:Cx) (b:Nat) (M:ByteArray) (l:Lc) (d:Nat) (f:ByteArray) (c:Int) (a:Tree) (s:RS):exM C (b+1) M l d (.node 21 f c [a]) s=(kP C.fuel s).bind fun _ s=>(exM C b M l d a s).bind fun e s=>zO 9 0 e s:=by
 conv=>lhs;unfold exM
 rfl
theorem ycn (aF:Gv p C w0) (e:Nat) (ab:CEx p C w0 e) (b:Tree) (aH:ExT b) (v:Zv) (ac:Nod p w0 (.node 20 empty 0 [b]) v) (c:SF p C w0 lo hi s d B M l w) (ah:exM C (e+1) M l d (.node 20 empty 0 [b]) s≠.lost):Calls prog 141 #[Zp (Z (A B 0 F)),v] w (ExR p C w0 lo hi d w (exM C (e+1) M l d (.node 20 empty 0 [b]) s)):=by
 have au:=show Hid (CEx p C w0 e)from ab
 have az:=show Hid _ from ah
 obtain⟨b1,G,rfl,aR,aS,ag⟩:=ac.kids (C:=C);obtain⟨h,j,rfl,af⟩:=ag oC;obtain⟨aj,ak,am,an,T,S⟩:=af 0 oC;simp only[Nat.zero_mul,Nat.add_zero,jI,jd,je,Nat.zero_add]at T S |-;have ax:=show Hid (Nod p w0 b (Za #[aj,ak,am,an]))from T
 have aw:Hid (∀ {lo hi s d w},MR p C w0 lo hi s d w->w.cell? (A h j F)=Z aj/\w.cell? (A h (j+1) F)=Z ak/\w.cell? (A h (j+2) F)=Z am/\w.cell? (A h (j+3) F)=Z an):=fun aG=>S aG
 clear ab ac ah ag af S T;have r:=c.below (bal (Zc #[U O 20,I empty,U O 0,J (Z (A h j F)) 1 G]  25));have N:=show Hid _ from r
 have P:=show Hid _ from(FK.refl p (fun _=>False) lo hi w).alloc (Zc #[U O 20,I empty,U O 0,J (Z (A h j F)) 1 G]  25)
 have a9:Hid (∀ {lo' hi' w'},FK p (fun _=>False) lo hi lo' hi' (w.alloc (Zc #[U O 20,I empty,U O 0,J (Z (A h j F)) 1 G]  25)) w'->BoxC w' w.heap.size #[U O 20,I empty,U O 0,J (Z (A h j F)) 1 G]  25):=fun aE=>c.side _ _ (fun a=>a) aE
 have aD:=r.f.c0;have aT:=aF.fu;have aW:=r.iv.st;have ad:=uJ (fun _=>False) r.m oA;have aU:=c.f.lt;have aQ:=c.m.lt;have aV:=p.rd;have a7:Hid (lo.ownBlock≠Z w.heap.size/\hi.ownBlock≠Z w.heap.size):=⟨fun a=>by have:=(c.m.rl.lt _ a).2;omega,fun a=>by have:=(c.m.rh.lt _ a).2;omega⟩
 obtain⟨g,R⟩:∃g,g=exM C (e+1) M l d (.node 20 empty 0 [b]) s:=⟨_,rfl⟩
 rw[<- R];have Q:=show Hid _ from R
 clear c r R;go_enter func141,ntmps141;go_wp2_with (fail);refine ad.mono ?_;clear ad aD
 cases t:kP C.fuel s with
 | lost=>intro a a3 a2;exact a2.elim
 | back v k=>exact absurd t (by unfold kP;split<;>(intro a;cases a))
 | stop L k =>
  rintro a a3 ⟨⟨ps,W,rfl⟩,K,D,y,i⟩;go_wp2;rw[show g=.stop L k by rw[Q.out,zqj C e M l d empty 0 b s,t];rfl]
  exact⟨rfl,⟨ps,W,rfl⟩,K,D,y,P.out.trans i⟩
 | go q k =>
  rintro a a3 ⟨rfl,K,D,y,i,_⟩;have a8:=show Hid _ from N.out.after y i (N.out.iv.go (xD C.fuel s) ((vJ s).less oA) t)
  have a6:=show Hid _ from P.out.trans i
  have aO:Hid (K.ownBlock≠Z w.heap.size/\D.ownBlock≠Z w.heap.size):=⟨i.lone oC a7.out.1,i.hine oC a7.out.2⟩
  have n:=a9.out i;have aL:=show Hid _ from n
  have aX:=n.cell 0 rfl;have aY:=n.cell 1 rfl;have aZ:=n.cell 2 rfl;have b0:=n.cell 3 rfl;have u:Hid (g=(exM C e M l d b k).bind fun q s=>zO 2 0 q s):=by show g=_;rw[Q.out,zqj C e M l d empty 0 b s,t];rfl
  clear y i a9 N P n t;obtain⟨b2,b6,b7,b8⟩:=aw.out a8.out.m
  have V:exM C e M l d b k≠.lost:=fun a=>by
   have aa:=u.out;rw[a]at aa;exact az.out (Q.out.symm.trans aa)
  go_wp2_with (fail);refine(au.out M l d b _ k K D a3 B aH ax.out a8.out V).mono ?_
  cases E:exM C e M l d b k with
  | lost=>exact absurd E V
  | back v o =>
   exact zpm
  | stop L o =>
   exact zpl
  | go q o =>
   rintro a aB ⟨rfl,ai,ae,z,x,_⟩;have ay:=show Hid _ from z
   have av:=show Hid _ from a6.out.trans x
   have aA:Hid (g=zO 2 0 q o):=by show g=_;rw[u.out,E];rfl
   clear z x u E V;go_wp2_with (fail);refine(oReckon (fun _=>False) ay.out 2 0 q).mono ?_
   cases a5:zO 2 0 q o with
   | lost=>intro a aC a2;exact a2.elim
   | back v o=>exact absurd a5 (by unfold zO;split<;>(intro a;cases a))
   | stop L ar =>
    exact zpn
   | go aK ar =>
    exact zpk
theorem yco (aF:Gv p C w0) (e:Nat) (ab:CEx p C w0 e) (b:Tree) (aH:ExT b) (v:Zv) (ac:Nod p w0 (.node 21 empty 0 [b]) v) (c:SF p C w0 lo hi s d B M l w) (ah:exM C (e+1) M l d (.node 21 empty 0 [b]) s≠.lost):Calls prog 141 #[Zp (Z (A B 0 F)),v] w (ExR p C w0 lo hi d w (exM C (e+1) M l d (.node 21 empty 0 [b]) s)):=by
 have au:=show Hid (CEx p C w0 e)from ab
 have az:=show Hid _ from ah
 obtain⟨b1,G,rfl,aR,aS,ag⟩:=ac.kids (C:=C);obtain⟨h,j,rfl,af⟩:=ag oC;obtain⟨aj,ak,am,an,T,S⟩:=af 0 oC;simp only[Nat.zero_mul,Nat.add_zero,jI,jd,je,Nat.zero_add]at T S |-;have ax:=show Hid (Nod p w0 b (Za #[aj,ak,am,an]))from T
 have aw:Hid (∀ {lo hi s d w},MR p C w0 lo hi s d w->w.cell? (A h j F)=Z aj/\w.cell? (A h (j+1) F)=Z ak/\w.cell? (A h (j+2) F)=Z am/\w.cell? (A h (j+3) F)=Z an):=fun aG=>S aG
 clear ab ac ah ag af S T;have r:=c.below (bal (Zc #[U O 21,I empty,U O 0,J (Z (A h j F)) 1 G]  25));have N:=show Hid _ from r
 have P:=show Hid _ from(FK.refl p (fun _=>False) lo hi w).alloc (Zc #[U O 21,I empty,U O 0,J (Z (A h j F)) 1 G]  25)
 have a9:Hid (∀ {lo' hi' w'},FK p (fun _=>False) lo hi lo' hi' (w.alloc (Zc #[U O 21,I empty,U O 0,J (Z (A h j F)) 1 G]  25)) w'->BoxC w' w.heap.size #[U O 21,I empty,U O 0,J (Z (A h j F)) 1 G]  25):=fun aE=>c.side _ _ (fun a=>a) aE
 have aD:=r.f.c0;have aT:=aF.fu;have aW:=r.iv.st;have ad:=uJ (fun _=>False) r.m oA;have aU:=c.f.lt;have aQ:=c.m.lt;have aV:=p.rd;have a7:Hid (lo.ownBlock≠Z w.heap.size/\hi.ownBlock≠Z w.heap.size):=⟨fun a=>by have:=(c.m.rl.lt _ a).2;omega,fun a=>by have:=(c.m.rh.lt _ a).2;omega⟩
 obtain⟨g,R⟩:∃g,g=exM C (e+1) M l d (.node 21 empty 0 [b]) s:=⟨_,rfl⟩
 rw[<- R];have Q:=show Hid _ from R
 clear c r R;go_enter func141,ntmps141;go_wp2_with (fail);refine ad.mono ?_;clear ad aD
 cases t:kP C.fuel s with
 | lost=>intro a a3 a2;exact a2.elim
 | back v k=>exact absurd t (by unfold kP;split<;>(intro a;cases a))
 | stop L k =>
  rintro a a3 ⟨⟨ps,W,rfl⟩,K,D,y,i⟩;go_wp2;rw[show g=.stop L k by rw[Q.out,zqk C e M l d empty 0 b s,t];rfl]
  exact⟨rfl,⟨ps,W,rfl⟩,K,D,y,P.out.trans i⟩
 | go q k =>
  rintro a a3 ⟨rfl,K,D,y,i,_⟩;have a8:=show Hid _ from N.out.after y i (N.out.iv.go (xD C.fuel s) ((vJ s).less oA) t)
  have a6:=show Hid _ from P.out.trans i
  have aO:Hid (K.ownBlock≠Z w.heap.size/\D.ownBlock≠Z w.heap.size):=⟨i.lone oC a7.out.1,i.hine oC a7.out.2⟩
  have n:=a9.out i;have aL:=show Hid _ from n
  have aX:=n.cell 0 rfl;have aY:=n.cell 1 rfl;have aZ:=n.cell 2 rfl;have b0:=n.cell 3 rfl;have u:Hid (g=(exM C e M l d b k).bind fun q s=>zO 9 0 q s):=by show g=_;rw[Q.out,zqk C e M l d empty 0 b s,t];rfl
  clear y i a9 N P n t;obtain⟨b2,b6,b7,b8⟩:=aw.out a8.out.m
  have V:exM C e M l d b k≠.lost:=fun a=>by
   have aa:=u.out;rw[a]at aa;exact az.out (Q.out.symm.trans aa)
  go_wp2_with (fail);refine(au.out M l d b _ k K D a3 B aH ax.out a8.out V).mono ?_
  cases E:exM C e M l d b k with
  | lost=>exact absurd E V
  | back v o =>
   exact zpm
  | stop L o =>
   exact zpl
  | go q o =>
   rintro a aB ⟨rfl,ai,ae,z,x,_⟩;have ay:=show Hid _ from z
   have av:=show Hid _ from a6.out.trans x
   have aA:Hid (g=zO 9 0 q o):=by show g=_;rw[u.out,E];rfl
   clear z x u E V;go_wp2_with (fail);refine(oReckon (fun _=>False) ay.out 9 0 q).mono ?_
   cases a5:zO 9 0 q o with
   | lost=>intro a aC a2;exact a2.elim
   | back v o=>exact absurd a5 (by unfold zO;split<;>(intro a;cases a))
   | stop L ar =>
    exact zpn
   | go aK ar =>
    exact zpk
end
def zhx (p:Pl) (w:Zw) (lo hi d:Zv) (b:List Int):Prop:=∃a c,d=J a b.length c/\(b≠[]->∃g,a=Z (A g 0 F)/\p.D<g/\lo.ownBlock≠Z g/\hi.ownBlock≠Z g/\∀i (e:i<b.length),w.cell? (A g i F)=Z (intV b[i]))
def CCl (p:Pl) (C:Cx) (w0:Zw) (g:Nat):Prop:=∀d x a b s lo hi w,MR p C w0 lo hi s d w->Inv C s->zhx p w lo hi b a->a.length<=1000000->x.size<=2000->d<=30->clM C g d x a s≠.lost->Calls prog 33 #[Zp (Z (A p.R 0 F)),I x,b] w (ExR p C w0 lo hi d w (clM C g d x a s))
def CCa (p:Pl) (C:Cx) (w0:Zw) (g:Nat):Prop:=∀M l d t v s lo hi w B,CaT t->Nod p w0 t v->SF p C w0 lo hi s d B M l w->caM C g M l d t s≠.lost->Calls prog 144 #[Zp (Z (A B 0 F)),v] w (ExR p C w0 lo hi d w (caM C g M l d t s))
section
variable {p:Pl} {C:Cx} {w0 w w':Zw} {lo hi lo' hi':Zv} {s s':RS} {d B b0:Nat} {M:ByteArray} {l:Lc}
structure AR (b0:Nat) (lo hi av:Zv) (vs:List Int) (w:Zw):Prop where
 r:w.ownsRow b0 2 1 av vs.length (vs.map intV)
 nl:∀b,av.ownBlock=Z b->lo.ownBlock≠Z b/\hi.ownBlock≠Z b
variable {a:Zv} {c:List Int}
theorem AR.start (b0:Nat) (lo hi:Zv) (w:Zw):AR b0 lo hi (J F 0 0) [] w:=⟨World.ownsRow_nil _ _ _ _,fun b a=>by cases a⟩
theorem AR.below (b:AR b0 lo hi a c w) (d:Below w.heap.size w w'):AR b0 lo hi a c w':=⟨b.r.kept (mac.grown_of_below d) (by cases a.ownBlock<;>simp),b.nl⟩
theorem AR.fk (s:p.D<b0) (d:AR b0 lo hi a c w) (h:FK p (fun _=>False) lo hi lo' hi' w w'):AR b0 lo' hi' a c w':=by
 refine⟨?_,fun e b=>⟨h.lone (d.r.lt e b).2 (d.nl e b).1,h.hine (d.r.lt e b).2 (d.nl e b).2⟩⟩;obtain⟨n,g⟩:=d.r;refine⟨n,?_⟩;rcases g with g | ⟨f,l,m,b,o,i,q⟩
 ·exact .inl g
 ·have j:=d.nl f (by rw[b];rfl);exact .inr ⟨f,l,m,b,o,(h.k.block f (Array.getElem?_eq_some_iff.1 i).1 ⟨oA,id,j.1,j.2⟩).trans i,q⟩
theorem AR.args (x:p.D<b0) (h:AR b0 lo hi a c w):zhx p w lo hi a c:=by
 have j:=h.nl;obtain⟨q,⟨b,g⟩|⟨e,o,f,b,s,k,t,u,v,l⟩⟩:=h.r;·exact⟨F,0,by rw[b,g],fun n=>absurd (List.length_eq_zero_iff.1 g) n⟩
 ·refine⟨_,_,b,fun _=>⟨e,rfl,oA,(j e (by rw[b];rfl)).1,(j e (by rw[b];rfl)).2,fun d hi=>?_⟩⟩
  have m:f[d]?=Z (intV c[d]):=by
   have i:(f.toList.take (c.length*1))[d]?=(c.map intV)[d]?:=by rw[l]
   rw[List.getElem?_take_of_lt oA]at i;simpa[hi] using i
  simp[World.cell?,k,m]
theorem AR.push (m:AR b0 lo hi a c w) {i:Int} {b f:Nat} {j:RS} (h:MR p C w0 lo hi j d w) (o:w'.ownsRow b0 2 1 (J (Z (A b 0 F)) (c.length+1) f) (c.length+1) (c.map intV++[intV i])) (n:a.ownBlock=Z b\/b=w.heap.size):AR b0 lo hi (J (Z (A b 0 F)) (c.length+1) f) (c++[i]) w':=by
 refine⟨by simpa using o,fun k e=>?_⟩;have l:b=k:=by injection e
 subst l;rcases n with g | g
 ·exact m.nl b g
 ·exact⟨fun e=>by have:=(h.rl.lt _ e).2;omega,fun e=>by have:=(h.rh.lt _ e).2;omega⟩
theorem MR.beside (b:MR p C w0 lo hi s d w) {h:Option Nat} (e:w.grownBy w' h) (f:∀c,h=Z c->p.D<c/\lo.ownBlock≠Z c/\hi.ownBlock≠Z c):MR p C w0 lo hi s d w':=by
 have i:h≠Z p.R:=fun a=>by have:=(f _ a).1;have:=p.rd;omega
 refine⟨b.box.grown e i,b.sz,b.rl.kept e ?_,b.rh.kept e ?_,b.ne,b.stc.grown e (fun n m a=>by have:=(f _ a).1;have:=b.sz;omega),fun j=>(b.wd j).kept (fun c k l=>e.block c (by have:=b.lt;omega) (fun a=>by have:=(f _ a.symm).1;omega)),b.one,b.bx.grown e (fun a=>by have:=(f _ a).1;omega)⟩
 ·cases a:lo.ownBlock with
  | none=>exact .inl rfl
  | some c=>exact .inr fun g=>(f c g.symm).2.1 a
 ·cases a:hi.ownBlock with
  | none=>exact .inl rfl
  | some c=>exact .inr fun g=>(f c g.symm).2.2 a
end
section
variable {p:Pl} {C:Cx} {w0 w w':Zw} {lo hi lo' hi':Zv} {s s':RS} {d B:Nat} {M:ByteArray} {l:Lc}
theorem Nod.shape {g:Tree} {v:Zv} (f:Nod p w0 g v):∃c e d a i b,v=Za #[U O c,I e,U O d,J a i b]:=by
 cases g with
 | node c e d j =>
  unfold Nod Lies at f;obtain⟨a,b,h,_⟩:=f;exact⟨c,e,d,a,_,b,h⟩
theorem bD {b:ByteArray} (a:qL b):b.size<=33:=by
 rcases a with a | ⟨e,f,c,d,rfl⟩
 ·have:=dZ a;omega
 ·have h:=dZ c;have i:=dZ d;rw[ByteArray.size_append,ByteArray.size_append];have g:(⟨#[46]⟩:ByteArray).size=1:=rfl;omega
theorem long_size (a M:ByteArray):(qO a M).size<=a.size+M.size+1:=by
 unfold qO;split;·omega
 ·rw[ByteArray.size_append,ByteArray.size_append];have b:(⟨#[46]⟩:ByteArray).size=1:=rfl;omega
theorem ycl (C:Cx) (a:Nat) (M:ByteArray) (l:Lc) (d:Nat) (e:Int) (c:ByteArray) (f:Int) (b:List Tree) (s:RS):caM C (a+1) M l d (.node e c f b) s=(asM C a M l d b [] s).bind fun g s=>clM C a d (qO c M) g s:=by
 conv=>lhs;unfold caM
theorem as_nil (C:Cx) (b:Nat) (M:ByteArray) (l:Lc) (d:Nat) (a:List Int) (s:RS):asM C (b+1) M l d [] a s=.go a s:=by unfold asM;rfl
theorem zy2 (C:Cx) (a:Nat) (M:ByteArray) (l:Lc) (d:Nat) (c:Tree) (b:List Tree) (e:List Int) (s:RS):asM C (a+1) M l d (c :: b) e s=(exM C a M l d c s).bind fun v s=>asM C a M l d b (e++[v]) s:=by conv=>lhs;unfold asM
theorem znp (C:Cx) (M:ByteArray) (l:Lc) (d:Nat) (a:List Tree) (b:List Int) (s:RS):asM C 0 M l d a b s=.lost:=by unfold asM;rfl
theorem ydk (d3:Gv p C w0) (j:Nat) (d6:j<=1000000) (b9:∀ag,ag<=j->CEx p C w0 ag) (b6:CCl p C w0 j):CCa p C w0 (j+1):=by
 intro M l d dp v s lo hi w B ce ba a2 ao;have ch:=a2.dl
 cases ce with
 | mk co bh =>
 rename_i g b;obtain⟨K,u,rfl,aO,d5,bg⟩:=ba.kids (C:=C);have bF:=show Hid _ from bh
 have bC:=show Hid _ from bg
 have bw:Hid (∀ag,ag<=j->CEx p C w0 ag):=b9;have bv:Hid (CCl p C w0 j):=b6;have dh:=bD co;have d2:=kc25;obtain⟨N,a3⟩:∃N,N=caM C (j+1) M l d (.node 18 g 0 b) s:=⟨_,rfl⟩
 rw[<- a3];rw[<- a3]at ao;rw[ycl]at a3;obtain⟨R,aL⟩:∃R,R=asM C j M l d b [] s:=⟨_,rfl⟩
 rw[<- aL]at a3;have aG:=show Hid _ from a3
 have bR:Hid (N≠.lost):=ao;have aH:Hid (R≠.lost):=by rw[a3]at ao;exact vH ao
 have bS:Hid (asM C j M l d b [] s=R):=aL.symm;have b1:=a2.below (bal (Zc #[U O 18,I g,U O 0,J K b.length u] 25));have bo:=show Hid _ from b1
 have bB:=show Hid _ from(FK.refl p (fun _=>False) lo hi w).alloc (Zc #[U O 18,I g,U O 0,J K b.length u] 25)
 have bu:=show Hid _ from BoxC.new w #[U O 18,I g,U O 0,J K b.length u] 25
 have b8:=a2.m.lt;have de:=p.rd;have bP:Hid (lo.ownBlock≠Z w.heap.size/\hi.ownBlock≠Z w.heap.size):=⟨fun c=>by have:=(a2.m.rl.lt _ c).2;omega,fun c=>by have:=(a2.m.rh.lt _ c).2;omega⟩
 have d4:=a2.f.lt;clear a2 b1 bg bh b9 b6 a3 aL ao ba;obtain⟨ct,ci,cp,cq,cr⟩:=info_parts zqq;go_enter func144,ntmps144;go_wp2;go_loopw [11,5] (fun aS c9 wr=>∃(n ah:Nat) (h:List Int) (q:RS) (T Q:Zv),n<=b.length/\aS=U O n/\ah+n<=j/\h.length=n/\Hid (asM C ah M l d (b.drop n) h q=R)/\Hid (SF p C w0 T Q q d B M l wr)/\Hid (FK p (fun _=>False) lo hi T Q w wr)/\Hid (AR (w.heap.size+1) T Q c9 h wr)/\Hid (BoxC wr w.heap.size #[U O 18,I g,U O 0,J K b.length u] 25)/\Hid (T.ownBlock≠Z w.heap.size/\Q.ownBlock≠Z w.heap.size)) (fun aS _ _=>b.length - (intOf aS).toNat)
 case atStart=>exact⟨0,j,[],s,lo,hi,jz _,rfl,oA,rfl,bS.out,bo.out,bB.out,AR.start ..,bu.out,bP.out⟩
 case round =>
  obtain⟨n,ah,h,q,T,Q,db,rfl,da,bj,a8,o,a7,ar,a6,ad⟩:=hrel;by_cases an:n<b.length
  ·have ck:b≠[]:=by intro c;rw[c]at an;simp at an
   obtain⟨b0,bm,cj,bf⟩:=bC.out ck;subst cj;obtain⟨cz,cH,cL,cR,aP,be⟩:=bf n an;obtain⟨di,dj,dk,dm⟩:=be o.out.m;obtain⟨aB,aF,aC,aw,aD,ax,aZ⟩:=aP.shape;obtain⟨rfl,rfl,rfl,rfl⟩:cz=U O aB/\cH=I aF/\cL=U O aC/\cR=J aw aD ax:=by simpa using aZ
   cases ah with
   | zero=>exact absurd (a8.out.symm.trans (znp ..)) aH.out
   | succ z =>
    have ae:Hid ((exM C z M l d b[n] q).bind (fun v s=>asM C z M l d (b.drop (n+1)) (h++[v]) s)=R):=by
     show _=_;rw[<- a8.out,List.drop_eq_getElem_cons an,zy2]
    have ac:exM C z M l d b[n] q≠.lost:=vH (by rw[ae.out];exact aH.out);have aN:=o.out.below (bal (Zc #[U O aB,I aF,U O aC,J aw aD ax] 25));have bc:=bw.out z oA M l d b[n] _ q T Q _ B (bF.out _ (jH an)) aP aN ac;have aI:=show Hid _ from aN
    clear aN aP bf be a8 aZ;go_wp2_with (fail);refine bc.mono ?_;clear bc
    cases a9:exM C z M l d b[n] q with
    | lost=>exact absurd a9 ac
    | back v a5 =>
     rintro c W ⟨rfl,x,t,aa,r⟩;go_wp2;rw[show N=.back v a5 by rw[aG.out,<- ae.out,a9];rfl]
     exact⟨rfl,rfl,x,t,aa,(a7.out.alloc _).trans r⟩
    | stop aY a5 =>
     rintro c W ⟨⟨ps,aR,rfl⟩,x,t,aa,r⟩;go_wp2;rw[show N=.stop aY a5 by rw[aG.out,<- ae.out,a9];rfl]
     exact⟨rfl,⟨ps,aR,rfl⟩,x,t,aa,(a7.out.alloc _).trans r⟩
    | go v a5 =>
     rintro c W ⟨rfl,x,t,aa,r,_⟩;have L:=show Hid _ from aI.out.after aa r (aI.out.iv.go ((gds C z).ex ..) ((gks C z).ex ..) a9)
     have V:=show Hid _ from(a7.out.alloc _).trans r
     have aV:Hid (BoxC W w.heap.size #[U O 18,I g,U O 0,J (Z (A b0 bm F)) b.length u] 25):=r.box (a6.out.below (bal (Zc #[U O aB,I aF,U O aC,J aw aD ax] 25))) b8 id ad.out.1 ad.out.2;have bN:Hid (x.ownBlock≠Z w.heap.size/\t.ownBlock≠Z w.heap.size):=⟨r.lone (by have:=a6.out.lt;simp;omega) ad.out.1,r.hine (by have:=a6.out.lt;simp;omega) ad.out.2⟩
     have ay:AR (w.heap.size+1) x t u5 h W:=(ar.out.below (bal (Zc #[U O aB,I aF,U O aC,J aw aD ax] 25))).fk oA r;obtain⟨c8,ca,cc,_⟩:=ay.args (by omega:p.D<w.heap.size+1);subst cc;subst bj;have aU:=show Hid _ from ay
     have aK:=ay.below (bal (Zc #[intV v] 2));have cm:=aK.r;have bX:Hid (asM C z M l d (b.drop (h.length+1)) (h++[v]) a5=R):=by show _=_;rw[<- ae.out,a9];rfl
     have aW:=show Hid _ from L.out.m.alloc (Zc #[intV v] 2)
     have bp:=show Hid _ from aK
     have df:w.heap.size<W.heap.size:=BoxC.lt aV.out;clear r aa ay aK ae a9 ar a6 a7 aI o ac;go_wp2_with (at_builtin;refine wpList_append_lies _ rfl (.tmp 15) (.tmp 19) 42 rfl (w.heap.size+1) 2 ct (U O 0) 1 8 underlying42 ci cp cq cr rfl oD _ _ _ rfl cm (A W.heap.size 0 F) 1 1 [U O v] rfl oC (zed W _ _) oU oA (by unfold maxLen;omega) oA oE _ rfl ?_;intro cd cb aE cn aA cf dd);have az:∀E,Value.ownBlock (J c8 h.length ca)=Z E->w.heap.size<E/\x.ownBlock≠Z E/\t.ownBlock≠Z E:=fun E c=>⟨by have:=(aU.out.r.lt E c).1;omega,aU.out.nl E c⟩
     have bG:=show Hid _ from aW.out.beside aA (fun E c=>by have:=az E c;exact⟨oA,this.2⟩)
     have c7:Hid (SF p C w0 x t a5 d B M l aE):=⟨bG.out,(L.out.f.alloc _).kept (aA.block B (by have:=L.out.f.lt;simp;omega) (fun c=>by have:=az _ c.symm;omega)),L.out.nl,L.out.nh,L.out.iv,L.out.ms,L.out.dl⟩
     have bz:Hid (FK p (fun _=>False) lo hi x t w aE):=⟨(V.out.alloc _).k.grown aA (fun cu dc c=>by have:=(az cu c).1;omega),V.out.ol,V.out.oh⟩
     have br:Hid (BoxC aE w.heap.size #[U O 18,I g,U O 0,J (Z (A b0 bm F)) b.length u] 25):=(BoxC.below aV.out (bal _)).grown aA (fun c=>by have:=(az _ c).1;omega);have bq:Hid (AR (w.heap.size+1) x t (J (Z (A cd 0 F)) (h.length+1) cb) (h++[v]) aE):=bp.out.push aW.out cn cf;go_roundw
     case rel=>exact⟨h.length+1,z,h++[v],a5,x,t,oA,oM,oA,oC,bX.out,c7.out,bz.out,bq.out,br.out,bN.out⟩
     case measure=>simp[intOf];omega
  ·obtain rfl:n=b.length:=oA
   cases ah with
   | zero=>exact absurd (a8.out.symm.trans (znp ..)) aH.out
   | succ z =>
    have bi:R=.go h q:=by rw[<- a8.out,List.drop_length,as_nil]
    have av:Hid (N=clM C j d (qO g M) h q):=by show _=_;rw[aG.out,bi];rfl
    have ac:clM C j d (qO g M) h q≠.lost:=by rw[<- av.out];exact bR.out
    have aQ:(qO g M).size<=2000:=by
     have:=o.out.ms;have:=long_size g M;omega
    have d0:Hid ((qO g M).size<=2000):=aQ;have b7:=bv.out d (qO g M) h u5 q T Q wr.drew o.out.m.drew o.out.iv ((ar.out.below (Below.refl _ _).drew).args (by omega:p.D<w.heap.size+1)) oA aQ ch ac;have V:=show Hid _ from a7.out.drew
    have aX:=ad;have au:Hid (p.D<B/\T.ownBlock≠Z B/\Q.ownBlock≠Z B):=⟨o.out.f.gt,o.out.nl,o.out.nh⟩
    have bs:Hid (∀ {P:Zw},BoxC P w.heap.size #[U O 18,I g,U O 0,J K b.length u] 25->P.cell? (A w.heap.size 1 F)=Z (I g)):=fun cg=>cg.cell 1 rfl
    have bM:=show Hid (M.size<=1000)from o.out.ms
    have b2:BoxC wr.drew w.heap.size #[U O 18,I g,U O 0,J K b.length u] 25:=a6.out;have bb:=o.out.f.c0;have aO:=o.out.f.c1;have e:BoxC wr.drew w.heap.size #[U O 18,I g,U O 0,J K b.length u] 25/\wr.drew.cell? (A B 0 F)=Z (Zp (Z (A p.R 0 F)))/\wr.drew.cell? (A B 1 F)=Z (I M):=⟨b2,bb,aO⟩
    have HS:=show Hid _ from e
    clear e b2 bb aO aQ bi a8 ar a6 o a7 bj;go_wp2_with (fail);refine wp_region_held_drew (S:=fun P=>BoxC P w.heap.size #[U O 18,I g,U O 0,J K b.length u] 25/\P.cell? (A B 0 F)=Z (Zp (Z (A p.R 0 F)))/\P.cell? (A B 1 F)=Z (I M)) oB HS.out (fun ai=>?_);have e:=HS.out;clear ai HS;generalize wr.drew=P at *;refine tkS (i:=0) (v:=Zp (Z (A B 0 F))) rfl rfl (Or.inl ⟨oG,fun y k=>oF⟩) e ?_;simp only[jA,jB,jC];refine tkS (i:=1) (v:=Zp (Z (A B 0 F))) rfl rfl (Or.inl ⟨oG,fun y k=>oF⟩) e ?_;simp only[jA,jB,jC];refine tkS (i:=2) (v:=Zp (Z (A B 0 F))) rfl rfl (Or.inl ⟨oG,fun y k=>oF⟩) e ?_;simp only[jA,jB,jC];refine tkS (i:=3) (v:=Zp (Z (A p.R 0 F))) rfl rfl (Or.inl ⟨oG,fun y k=>by obtain⟨cv,cw,cx⟩:=k;go_simp⟩) e ?_;simp only[jA,jB,jC];refine tkS (i:=4) (v:=Zp (Z (A w.heap.size 1 F))) rfl rfl (Or.inl ⟨oG,fun y k=>oF⟩) e ?_;simp only[jA,jB,jC];refine tkS (i:=5) (v:=I g) rfl rfl (Or.inl ⟨oG,fun y k=>by have dn:=bs.out k.1;go_simp⟩) e ?_;simp only[jA,jB,jC];refine tkS (i:=6) (v:=Zp (Z (A B 0 F))) rfl rfl (Or.inl ⟨oG,fun y k=>oF⟩) e ?_;simp only[jA,jB,jC];refine tkS (i:=7) (v:=Zp (Z (A B 0 F))) rfl rfl (Or.inl ⟨oG,fun y k=>oF⟩) e ?_;simp only[jA,jB,jC];refine tkS (i:=8) (v:=Zp (Z (A B 1 F))) rfl rfl (Or.inl ⟨oG,fun y k=>oF⟩) e ?_;simp only[jA,jB,jC];refine tkS (i:=9) (v:=I M) rfl rfl (Or.inl ⟨oG,fun y k=>by obtain⟨cv,cw,cx⟩:=k;go_simp⟩) e ?_;simp only[jA,jB,jC];refine tkS (i:=11) (v:=u5) rfl rfl (Or.inl ⟨oG,fun y k=>oF⟩) e ?_;simp only[jA,jB,jC];refine oneH 10 fun aJ aj=>?_
    go_simp;go_at_call 107;refine(zcx g M P (by have:=bM.out;omega)).mono ?_;rintro c d1 ⟨rfl,rfl⟩;refine aj.out _ _ e (fun ai=>?_);clear aj aJ ai;generalize qO g M=cy at *;refine oneH 12 fun aJ aj=>?_
    go_simp;go_at_call 33;refine b7.mono ?_;clear b7
    cases ak:clM C j d cy h q with
    | lost=>exact absurd ak ac
    | back v aT =>
     rintro c af ⟨rfl,ap,am,ab,G⟩;go_wp2;rw[av.out,ak]
     exact⟨rfl,rfl,ap,am,ab,V.out.trans G⟩
    | stop aY aT =>
     rintro c af ⟨⟨ps,aR,rfl⟩,ap,am,ab,G⟩;go_wp2;rw[av.out,ak]
     exact⟨rfl,⟨ps,aR,rfl⟩,ap,am,ab,V.out.trans G⟩
    | go bn aT =>
     rintro c af ⟨rfl,ap,am,ab,G,_⟩;have bK:=show Hid _ from ab
     have bA:=show Hid _ from V.out.trans G
     have c6:Hid (N=.go bn aT):=by show N=_;rw[av.out,ak]
     have aM:BoxC af w.heap.size #[U O 18,I g,U O 0,J K b.length u] 25/\af.cell? (A B 0 F)=Z (Zp (Z (A p.R 0 F)))/\af.cell? (A B 1 F)=Z (I M):=⟨G.box e.1 b8 id aX.out.1 aX.out.2,(jN (a:=(A B 0 F)) (G.k.block B (jS _ _ e.2.1) ⟨au.out.1,id,au.out.2⟩)).trans e.2.1,(jN (a:=(A B 1 F)) (G.k.block B (jS _ _ e.2.1) ⟨au.out.1,id,au.out.2⟩)).trans e.2.2⟩
     refine aj.out _ _ aM (fun ai=>?_);clear aj aJ ai ab G ak e;have e:=aM;clear aM;refine tkS (i:=13) (v:=U O bn) rfl rfl (Or.inl ⟨oG,fun y k=>oF⟩) e ?_;simp only[jA,jB,jC];refine wpAnyH_done oB ?_ _;go_wp2;go_ret;rw[c6.out];exact⟨rfl,ap,am,bK.out,bA.out,trivial⟩
end
abbrev StR (p:Pl) (C:Cx) (w0:Zw) (lo hi:Zv) (d B:Nat) (M:ByteArray) (w:Zw) (o:Out Lc):Ending->Zw->Prop:=Rs p C w0 lo hi d (·=B) w (fun _=>.tuple #[]) (fun l2 w'=>FrB p B M l2 w') o
def CSt (p:Pl) (C:Cx) (w0:Zw) (g:Nat):Prop:=∀M l d t v s lo hi w B,StT t->Nod p w0 t v->SF p C w0 lo hi s d B M l w->stM C g M l d t s≠.lost->Calls prog 109 #[Zp (Z (A B 0 F)),v] w (StR p C w0 lo hi d B M w (stM C g M l d t s))
def CBl (p:Pl) (C:Cx) (w0:Zw) (g:Nat):Prop:=∀M l d t v s lo hi w B,BlT t->Nod p w0 t v->SF p C w0 lo hi s d B M l w->blM C g M l d t s≠.lost->Calls prog 68 #[Zp (Z (A B 0 F)),v] w (StR p C w0 lo hi d B M w (blM C g M l d t s))
section
variable {p:Pl} {C:Cx} {w0 w w':Zw} {lo hi lo' hi':Zv} {s s':RS} {d B:Nat} {M:ByteArray} {l l2:Lc}
theorem SF.turned (a:SF p C w0 lo hi s d B M l w) (e:MR p C w0 lo' hi' s' d w') (b:FK p (·=B) lo hi lo' hi' w w') (g:FrB p B M l2 w') (c:Inv C s'):SF p C w0 lo' hi' s' d B M l2 w' :=
 ⟨e,g,b.lone a.f.lt a.nl,b.hine a.f.lt a.nh,c,a.ms,a.dl⟩
theorem FrB.pop (b:FrB p B M l w) {c:Nat} (h:c<=l.length):FrB p B M (l.take c) (w.setCell (A B 42 F) (natV c)):=by
 have f:(l.take c).length=c:=oT;have e:=fun a=>zbn w B 42 a (natV c) b.cn
 have d:∀a,a≠42->(w.setCell (A B 42 F) (natV c)).cell? (A B a F)=w.cell? (A B a F):=fun a hi=>by rw[e,ju hi]
 have g:=b.le;refine⟨b.gt,(d 0 oA).trans b.c0,(d 1 oA).trans b.c1,?_,fun a hi=>?_,fun a hi=>?_,fun a hi=>?_,fun a=>by simp[b.fz],oA⟩;·rw[e,jv rfl,f]
 ·rw[d _ oA,b.nm a oA,List.getElem_take]
 ·rw[d _ oA,b.vl a oA,List.getElem_take]
 ·rw[e];split;·exact⟨_,rfl⟩
  ·exact b.all a hi
theorem zii (C:Cx) (a:Nat) (M:ByteArray) (l:Lc) (d:Nat) (c:Int) (f:ByteArray) (e:Int) (b:List Tree) (s:RS):blM C (a+1) M l d (.node c f e b) s=(ssM C a M l d b s).bind fun l2 s=>.go (l2.take l.length) s:=by conv=>lhs;unfold blM
theorem zie (C:Cx) (a:Nat) (M:ByteArray) (l:Lc) (d:Nat) (s:RS):ssM C (a+1) M l d [] s=.go l s:=by unfold ssM;rfl
theorem zp6 (C:Cx) (a:Nat) (M:ByteArray) (l:Lc) (d:Nat) (c:Tree) (b:List Tree) (s:RS):ssM C (a+1) M l d (c :: b) s=(stM C a M l d c s).bind fun l s=>ssM C a M l d b s:=by conv=>lhs;unfold ssM
theorem zhu (C:Cx) (M:ByteArray) (l:Lc) (d:Nat) (a:List Tree) (s:RS):ssM C 0 M l d a s=.lost:=by unfold ssM;rfl
theorem ydj (aV:Gv p C w0) (i:Nat) (ad:∀y,y<=i->CSt p C w0 y):CBl p C w0 (i+1):=by
 intro M l d bc v s lo hi w B aI ae D Q
 cases aI with
 | mk ak =>
 rename_i a;obtain⟨ap,ar,rfl,aX,aY,aj⟩:=ae.kids (C:=C);have aC:=show Hid _ from ak
 have aB:=show Hid _ from aj
 have ay:Hid (∀y,y<=i->CSt p C w0 y):=ad;have aS:=kc25;obtain⟨x,n⟩:∃x,x=blM C (i+1) M l d (.node 6 empty 0 a) s:=⟨_,rfl⟩
 rw[<- n];rw[<- n]at Q;rw[zii]at n;obtain⟨R,W⟩:∃R,R=ssM C i M l d a s:=⟨_,rfl⟩
 rw[<- W]at n;have S:=show Hid _ from n
 have T:Hid (R≠.lost):=by rw[n]at Q;exact vH Q
 have aE:Hid (ssM C i M l d a s=R):=W.symm;have aU:=D.m.lt;have b6:=p.rd;have aW:=D.f.lt;have aJ:=D.f.cn;have ax:=show Hid _ from D.below (bal (Zc #[U O 6,I empty,U O 0,J ap a.length ar] 25))
 have aA:=show Hid _ from(FK.refl p (·=B) lo hi w).alloc (Zc #[U O 6,I empty,U O 0,J ap a.length ar] 25)
 clear D aj ak ad n W Q ae;go_enter func68,ntmps68;go_wp2;go_loopw [14] (fun a6 wr=>∃(b z:Nat) (c:Lc) (h:RS) (N G:Zv),b<=a.length/\a6=U O b/\z<=i/\l.length<=c.length/\Hid (ssM C z M c d (a.drop b) h=R)/\Hid (SF p C w0 N G h d B M c wr)/\Hid (FK p (·=B) lo hi N G w wr)) (fun a6 _=>a.length - (intOf a6).toNat)
 case atStart=>exact⟨0,i,l,s,lo,hi,jz _,rfl,jE _,jE _,aE.out,ax.out,aA.out⟩
 case round =>
  obtain⟨b,z,c,h,N,G,b1,rfl,b0,aL,o,g,t⟩:=hrel;by_cases K:b<a.length
  ·have aM:a≠[]:=by intro P;rw[P]at K;simp at K
   obtain⟨aT,bb,aK,ai⟩:=aB.out aM;subst aK;obtain⟨aO,aP,aQ,aR,a3,ah⟩:=ai b K;obtain⟨b7,b8,b9,ba⟩:=ah g.out.m;obtain⟨ao,aw,au,a9,av,aa,ab⟩:=a3.shape;obtain⟨rfl,rfl,rfl,rfl⟩:aO=U O ao/\aP=I aw/\aQ=U O au/\aR=J a9 av aa:=by simpa using ab
   cases z with
   | zero=>exact absurd (o.out.symm.trans (zhu ..)) T.out
   | succ e =>
    have u:Hid ((stM C e M c d a[b] h).bind (fun l s=>ssM C e M l d (a.drop (b+1)) s)=R):=by
     show _=_;rw[<- o.out,List.drop_eq_getElem_cons K,zp6]
    have a5:stM C e M c d a[b] h≠.lost:=vH (by rw[u.out];exact T.out);have a2:=g.out.below (bal (Zc #[U O ao,I aw,U O au,J a9 av aa] 25));have af:=ay.out e oA M c d a[b] _ h N G _ B (aC.out _ (jH K)) a3 a2 a5;have V:=show Hid _ from a2
    have am:=(lns C e).st M c d a[b] h;have a7:=show Hid _ from am
    clear a2 a3 ai ah o ab am;go_wp2_with (fail);refine af.mono ?_;clear af
    cases j:stM C e M c d a[b] h with
    | lost=>exact absurd j a5
    | back v r =>
     rintro P a8 ⟨rfl,L,E,q,k⟩;go_wp2;rw[show x=.back v r by rw[S.out,<- u.out,j];rfl]
     exact⟨rfl,rfl,L,E,q,(t.out.alloc _).trans k⟩
    | stop aH r =>
     rintro P a8 ⟨⟨ps,aN,rfl⟩,L,E,q,k⟩;go_wp2;rw[show x=.stop aH r by rw[S.out,<- u.out,j];rfl]
     exact⟨rfl,⟨ps,aN,rfl⟩,L,E,q,(t.out.alloc _).trans k⟩
    | go l2 r =>
     rintro P a8 ⟨rfl,L,E,q,k,ag⟩;have aG:=show Hid _ from V.out.turned q k ag (V.out.iv.go ((gds C e).st ..) ((gks C e).st ..) j)
     have az:=show Hid _ from(t.out.alloc _).trans k
     have aF:Hid (ssM C e M l2 d (a.drop (b+1)) r=R):=by show _=_;rw[<- u.out,j];rfl
     have b2:c.length<=l2.length:=by have ac:=a7.out;rw[j]at ac;exact ac
     clear k q ag u j t V g a5 a7;go_wp2;go_roundw
     case rel=>exact⟨b+1,e,l2,r,L,E,oA,oM,oA,oA,aF.out,aG.out,az.out⟩
     case measure=>simp[intOf];omega
  ·obtain rfl:b=a.length:=oA
   cases z with
   | zero=>exact absurd (o.out.symm.trans (zhu ..)) T.out
   | succ e =>
    have an:R=.go c h:=by rw[<- o.out,List.drop_length,zie]
    have aD:Hid (x=.go (c.take l.length) h):=by show _=_;rw[S.out,an];rfl
    have HP:=show Hid _ from g.out.f.pop aL
    have aJ:=g.out.f.cn;have aZ:=g.out.f.fz 42;clear an o;go_wp2
    go_end0
    rw[aD.out];exact⟨rfl,N,G,g.out.m.side g.out.f.gt g.out.nl g.out.nh _ _,t.out.side (.inl rfl) _ _,HP.out⟩
end
end mdl
namespace mdl
open Go.RowKit
open syn face mac chk
theorem znc {b:Program} {i:Exit->Act->List Frame->Zw->Prop} {a:Act} {g cs':List Frame} {w:Zw} {k m:Code} {v:Zv} {d:Nat} {o:TypeId} {j:String} (n:recoverD g=Z (v,cs')) (c:Exit->Act->Zw->Prop) (q:k.wp b (Exit.then (m.wp b c) c) (a.put (Z d) v) w) (f:∀e a w,c e a w->i e a cs' w) : (((Code.region 0 #[{ dst:=Z d,op:=Op.call { callee:=Callee.builtin Builtin.recover,args:=#[],argTypes:=#[] },type:=o,pos:=j,after:=#[],guard:=F }] false).seq k).seq m).wpS b i a g w:=by
 exact zpi
theorem zyk {b:Program} {i:Exit->Act->List Frame->Zw->Prop} {a:Act} {g:List Frame} {w:Zw} {k m:Code} {d:Nat} {o:TypeId} {j:String} (n:recoverD g=F) (c:Exit->Act->Zw->Prop) (q:k.wp b (Exit.then (m.wp b c) c) (a.put (Z d) .nilIface) w) (f:∀e a w,c e a w->i e a g w) : (((Code.region 0 #[{ dst:=Z d,op:=Op.call { callee:=Callee.builtin Builtin.recover,args:=#[],argTypes:=#[] },type:=o,pos:=j,after:=#[],guard:=F }] false).seq k).seq m).wpS b i a g w:=by
 exact zpi
theorem zsp {v:Zv} {ps:List PanicEntry} (b:∀q∈ps,q.goexit=false):settle (.panicking ({ v,recovered:=H } :: ps))=.returning:=by
 have c:ps.dropWhile (fun a=>!a.goexit)=[]:=by
  induction ps with
  | nil=>rfl
  | cons q f ih =>
   rw[List.dropWhile_cons,b q (jJ ..)];exact ih (fun e d=>b e (jF _ d))
 show(match ps.dropWhile (fun a=>!a.goexit)with | []=>FrameMode.returning | rest=>.panicking rest)=_;rw[c]
section
variable {V R D d:Nat} {w:Zw}
theorem zva (r:w.cell? (A R 0 F)=Z (Zp (Z (A D 0 F)))) (h:w.cell? (A D 11 F)=Z (natV (d+1))) (l:w.frozen? (A D 11 F)=false) (o:d<=30) : CallsD prog 66 #[Zp (Z (A V 0 F)),Zp (Z (A R 0 F))] .returning w fun a i w'=>a=.returned (.tuple #[])/\i=.returning/\w'=w.setCell (A D 11 F) (natV d):=by
 have q:∀w:Zw,(binOp BinOp.eql 20 .nilIface .nilIface).run prog w=.ok (Y H) w:=fun _=>oB
 have n:=jS w (A D 11 F) h;refine callsD_of_wpS func66 rfl fun k j e=>?_
 refine zyk (by simp[recoverD,e]) (fun a c w'=>a=.normal/\c.defers=[]/\w'=w.setCell (A D 11 F) (natV d)) ?_ ?_;·skip;exact zpj
 ·rintro a c w' ⟨rfl,f,g⟩;exact⟨f,_,rfl,.tuple #[],by simp[results,results66],rfl,e,g⟩
theorem ztq (b:Int) (t:Zv) (s:w.cell? (A V 0 F)=Z t) (u:w.frozen? (A V 0 F)=false) (y:V≠D) (z:V≠R) (r:w.cell? (A R 0 F)=Z (Zp (Z (A D 0 F)))) (h:w.cell? (A D 11 F)=Z (natV (d+1))) (l:w.frozen? (A D 11 F)=false) (o:d<=30) : CallsD prog 66 #[Zp (Z (A V 0 F)),Zp (Z (A R 0 F))] (.panicking (ze6 b)) w fun a i w'=>a=.returned (.tuple #[])/\i=.panicking [{ v:=.iface 131 (U O b),recovered:=H }]/\w'=(w.setCell (A V 0 F) (U O b)).setCell (A D 11 F) (natV d):=by
 have q:∀w:Zw,(binOp BinOp.eql 20 (.iface 131 (U O b)) .nilIface).run prog w=.ok (Y false) w:=fun _=>oB
 have B:∀w:Zw,(Instr.typeAssert (.iface 131 (U O b)) 20 131 H).run prog w=.ok (.tuple #[U O b,Y H]) w:=fun _=>oB
 have n:=jS w (A D 11 F) h;have x:=jS w (A V 0 F) s;unfold ze6;refine callsD_of_wpS func66 rfl fun k j e=>?_
 refine znc (v:=.iface 131 (U O b)) (cs':={ k with mode:=.panicking [{ v:=.iface 131 (U O b),recovered:=H }] } :: j) (by simp[recoverD,e]) (fun a c w'=>a=.normal/\c.defers=[]/\w'=(w.setCell (A V 0 F) (U O b)).setCell (A D 11 F) (natV d)) ?_ ?_;·skip;exact zpj
 ·rintro a c w' ⟨rfl,f,g⟩;exact⟨f,_,rfl,.tuple #[],by simp[results,results66],rfl,rfl,g⟩
theorem zw5 (a:Int) (ps:List PanicEntry) : CallsD prog 66 #[Zp (Z (A V 0 F)),Zp (Z (A R 0 F))] (.panicking (zcy a ps)) w fun b i w'=>b=.panicked (zbd a)/\i=.panicking ({ v:=.iface 129 (U O a),recovered:=H } :: ps)/\w'=w:=by
 have j:∀w:Zw,(binOp BinOp.eql 20 (.iface 129 (U O a)) .nilIface).run prog w=.ok (Y false) w:=fun _=>oB
 have k:∀w:Zw,(Instr.typeAssert (.iface 129 (U O a)) 20 131 H).run prog w=.ok (.tuple #[U O 0,Y false]) w:=fun _=>oB
 unfold zcy;refine callsD_of_wpS func66 rfl fun e d h=>?_
 refine znc (v:=.iface 129 (U O a)) (cs':={ e with mode:=.panicking ({ v:=.iface 129 (U O a),recovered:=H } :: ps) } :: d) (by simp[recoverD,h]) (fun b c w'=>b=.panic (zbd a)/\c.defers=[]/\w'=w) ?_ ?_
 ·skip;simp only[ntmps66,List.size_toArray,jd,je,Nat.reduceAdd,Nat.reduceSub,Array.replicate_succ,Array.replicate_zero,List.push_toArray,List.append_toArray,js,jL,Act.put,List.setIfInBounds_toArray,List.set_cons_succ,List.set_cons_zero];go_wp2
  first | exact⟨trivial,rfl,rfl⟩ | simp[zbd]
 ·rintro b c w' ⟨rfl,f,g⟩;exact⟨f,_,rfl,rfl,rfl,g⟩
end
end mdl
namespace mdl
open Go.RowKit Go.Maps Go.WideMaps
open syn face mac chk
open ord (tkd gL)
section
variable {p:Pl} {C:Cx} {w0 w w':Zw} {lo hi lo' hi':Zv} {s s':RS} {d B:Nat} {M:ByteArray} {l:Lc}
theorem znw (C:Cx) (a:Nat) (M:ByteArray) (l:Lc) (d:Nat) (e:ByteArray) (c:Int) (b:List Tree) (s:RS):exM C (a+1) M l d (.node 18 e c b) s=(kP C.fuel s).bind fun _ s=>caM C a M l d (.node 18 e c b) s:=by
 conv=>lhs;unfold exM
 rfl
theorem ybd (ar:Gv p C w0) (e:Nat) (a9:CCa p C w0 e) (c:ByteArray) (b:List Tree) (ac:CaT (.node 18 c 0 b)) (v:Zv) (T:Nod p w0 (.node 18 c 0 b) v) (i:SF p C w0 lo hi s d B M l w) (ad:exM C (e+1) M l d (.node 18 c 0 b) s≠.lost):Calls prog 141 #[Zp (Z (A B 0 F)),v] w (ExR p C w0 lo hi d w (exM C (e+1) M l d (.node 18 c 0 b) s)):=by
 have af:=show Hid (CCa p C w0 e)from a9
 have aj:=show Hid _ from ad
 have an:=show Hid _ from ac
 have aa:=T;obtain⟨G,K,rfl,au,av,aw⟩:=T.kids (C:=C);have ai:=show Hid _ from aa
 clear a9 T aa ad aw ac au av;have u:=i.below (bal (Zc #[U O 18,I c,U O 0,J G b.length K]  25));have N:=show Hid _ from u
 have Q:=show Hid _ from(FK.refl p (fun _=>False) lo hi w).alloc (Zc #[U O 18,I c,U O 0,J G b.length K]  25)
 have a6:Hid (∀ {lo' hi' w'},FK p (fun _=>False) lo hi lo' hi' (w.alloc (Zc #[U O 18,I c,U O 0,J G b.length K]  25)) w'->BoxC w' w.heap.size #[U O 18,I c,U O 0,J G b.length K]  25):=fun ap=>i.side _ _ (fun a=>a) ap
 have ao:=u.f.c0;have aB:=ar.fu;have aE:=u.iv.st;have ab:=uJ (fun _=>False) u.m oA;have aC:=i.f.lt;have aA:=i.m.lt;have aD:=p.rd;have a5:Hid (lo.ownBlock≠Z w.heap.size/\hi.ownBlock≠Z w.heap.size):=⟨fun a=>by have:=(i.m.rl.lt _ a).2;omega,fun a=>by have:=(i.m.rh.lt _ a).2;omega⟩
 obtain⟨g,V⟩:∃g,g=exM C (e+1) M l d (.node 18 c 0 b) s:=⟨_,rfl⟩
 rw[<- V];have R:=show Hid _ from V
 clear i u V;go_enter func141,ntmps141;go_wp2_with (fail);refine ab.mono ?_;clear ab ao
 cases x:kP C.fuel s with
 | lost=>intro a a3 ax;exact ax.elim
 | back v j=>exact absurd x (by unfold kP;split<;>(intro a;cases a))
 | stop S j =>
  rintro a a3 ⟨⟨ps,a2,rfl⟩,L,E,D,h⟩;go_wp2;rw[show g=.stop S j by rw[R.out,znw C e M l d c 0 b s,x];rfl]
  exact⟨rfl,⟨ps,a2,rfl⟩,L,E,D,Q.out.trans h⟩
 | go ae j =>
  rintro a a3 ⟨rfl,L,E,D,h,_⟩;have am:=show Hid _ from N.out.after D h (N.out.iv.go (xD C.fuel s) ((vJ s).less oA) x)
  have P:=show Hid _ from Q.out.trans h
  have az:Hid (L.ownBlock≠Z w.heap.size/\E.ownBlock≠Z w.heap.size):=⟨h.lone oC a5.out.1,h.hine oC a5.out.2⟩
  have o:=a6.out h;have ay:=show Hid _ from o
  have aF:=o.cell 0 rfl;have aG:=o.cell 1 rfl;have aH:=o.cell 2 rfl;have aI:=o.cell 3 rfl;have q:Hid (g=caM C e M l d (.node 18 c 0 b) j):=by show g=_;rw[R.out,znw C e M l d c 0 b s,x];rfl
  clear D h a6 N Q o x
  have W:caM C e M l d (.node 18 c 0 b) j≠.lost:=fun a=>by
   have a8:=q.out;rw[a]at a8;exact aj.out (R.out.symm.trans a8)
  go_wp2_with (fail);refine(af.out M l d _ _ j L E a3 B an.out ai.out am.out W).mono ?_
  cases r:caM C e M l d (.node 18 c 0 b) j with
  | lost=>exact absurd r W
  | back v z =>
   rintro a a7 ⟨rfl,y,t,n,k⟩;go_wp2;rw[show g=.back v z by rw[q.out,r]]
   exact⟨rfl,rfl,y,t,n,P.out.trans k⟩
  | stop S z =>
   rintro a a7 ⟨⟨ps,a2,rfl⟩,y,t,n,k⟩;go_wp2;rw[show g=.stop S z by rw[q.out,r]]
   exact⟨rfl,⟨ps,a2,rfl⟩,y,t,n,P.out.trans k⟩
  | go ae z =>
   rintro a a7 ⟨rfl,y,t,n,k,_⟩;have ah:=show Hid _ from n
   have ag:=show Hid _ from P.out.trans k
   have ak:Hid (g=.go ae z):=by show g=_;rw[q.out,r]
   clear n k q r W;go_wp2;go_ret;rw[ak.out];exact⟨rfl,y,t,ah.out,ag.out,trivial⟩
theorem ydo (e:Gv p C w0) (a:Nat) (k:CEx p C w0 a) (m:CIx p C w0 a) (r:CCa p C w0 a):CEx p C w0 (a+1):=by
 intro M l d D v s lo hi w B t b c g
 cases t with
 | num z =>
  obtain⟨i,j,rfl,n,o,q⟩:=b.kids (C:=C)
  exact ydn e a z i j c
 | nam f =>
  obtain⟨i,j,rfl,n,o,q⟩:=b.kids (C:=C);have:=bD f
  exact zrk e a m 16 (.inl rfl) _ 0 [] i j oA (.nam f) b c g
 | item f x =>
  obtain⟨i,j,rfl,n,o,q⟩:=b.kids (C:=C);have:=bD f
  exact zrk e a m 17 (.inr rfl) _ 0 _ i j oA (.item f x) b c g
 | call f y=>exact ybd e a r _ _ (.mk f y) v b c g
 | op h u=>exact ydp e a k _ _ _ h u v b c g
 | neg h=>exact ycn e a k _ h v b c g
 | nott h=>exact yco e a k _ h v b c g
end
def bW:Zv:=Za #[I empty,J F 0 0,U O 0,I empty,U O 0,J F 0 0]
theorem ydh (w:Zw):(zeroValue 133).run prog w=.ok bW w:=oB
theorem zzp {w:Zw} {d n:Nat} {b:ByteArray->Option Zv} (c:kI w d n b) (a:ByteArray) (m:a.size<=maxLen):(Instr.lookup 75 (.map (Z d)) (I a) false).run prog w=.ok ((b a).getD bW) w:=by
 obtain⟨D,c,i⟩:=c;obtain⟨v,ps,k,l⟩:=c.lookup vE underlying75 (ydh w) (zd:=.held bW) (zp:=[]) rfl (keyOf_string_mk underlying9 m);rw[k];obtain⟨e,j⟩:=i a
 have h:D.atKey (qM a) (.held bW)=.held ((b a).getD bW):=by
  cases f:b a with
  | none=>rw[f]at e;exact atKey_of_not_has e _
  | some o=>exact j o f _
 have g:fR v=Z (D.atKey (qM a) (.held bW),ps):=l;rw[h]at g;rw[zas g]
def ziu:Out Lc->Out Int
 | .go _ s=>.go 0 s
 | .back v s=>.go v s
 | .stop c s=>.stop c s
 | .lost=>.lost
theorem zij (C:Cx) (c d:Nat) (a:ByteArray) (b:List Int) (s:RS):clM C (c+1) d a b s=if d=30 then .stop 5 s else if b.length<(C.ps a).pars.length\/20<(C.ps a).pars.length then .lost else ziu (blM C c (C.ps a).mod ((C.ps a).pars.zip b) (d+1) (C.ps a).body s):=by
 conv=>lhs;unfold clM
 congr 1
section
variable {p:Pl} {C:Cx} {w0 w w':Zw} {lo hi lo' hi':Zv} {s s':RS} {d B:Nat} {M:ByteArray} {l:Lc}
variable {a b:Nat}
theorem zy5 (f:ByteArray) (e:Zv) (a:MR p C w0 lo hi s 30 w):Calls prog 33 #[Zp (Z (A p.R 0 F)),I f,e] w (ExR p C w0 lo hi 30 w (.stop 5 s)):=by
 have b:=(a.alloc (Zc #[Zp (Z (A p.R 0 F))] 130)).alloc (Zc #[U O 0] 2);have c:=show Hid _ from b
 have d:=show Hid _ from((FK.refl p (fun _=>False) lo hi w).alloc (Zc #[Zp (Z (A p.R 0 F))] 130)).alloc (Zc #[U O 0] 2)
 have i:=b.box.cell 11 (v:=natV 30) rfl;have g:=a.lt;have h:=p.rd;clear a b;go_enter_defers func33,ntmps33;go_wp2;exact⟨gV.new rfl,lo,hi,⟨_,c.out⟩,d.out⟩
def CBo (p:Pl) (C:Cx) (w0:Zw) (g:Nat) (q:PR) (v:Zv):Prop:=∀M l d s lo hi w B,SF p C w0 lo hi s d B M l w->blM C g M l d q.body s≠.lost->Calls prog 68 #[Zp (Z (A B 0 F)),v] w (StR p C w0 lo hi d B M w (blM C g M l d q.body s))
def frC (D:Nat) (M:ByteArray):Array Zv:=#[Zp (Z (A D 0 F)),I M,I empty,U O 0,I empty,U O 0,I empty,U O 0,I empty,U O 0,I empty,U O 0,I empty,U O 0,I empty,U O 0,I empty,U O 0,I empty,U O 0,I empty,U O 0,I empty,U O 0,I empty,U O 0,I empty,U O 0,I empty,U O 0,I empty,U O 0,I empty,U O 0,I empty,U O 0,I empty,U O 0,I empty,U O 0,I empty,U O 0,U O 0]
def frZ:Array Zv:=#[Zp F,I empty,I empty,U O 0,I empty,U O 0,I empty,U O 0,I empty,U O 0,I empty,U O 0,I empty,U O 0,I empty,U O 0,I empty,U O 0,I empty,U O 0,I empty,U O 0,I empty,U O 0,I empty,U O 0,I empty,U O 0,I empty,U O 0,I empty,U O 0,I empty,U O 0,I empty,U O 0,I empty,U O 0,I empty,U O 0,I empty,U O 0,U O 0]
theorem zvg (w:Zw) (a:Nat) (b:Array Zv):w.grownBy (w.setRow a b) (Z a):=⟨rfl,rfl,rfl,oC,fun e _ d=>setRow_other w a e b (fun c=>d (by rw[c]))⟩
theorem zbx {w w':Zw} {cs:Array Zv} (d:Below a w w') (e:a<=b) (f:a<=w'.heap.size):Below a w (w'.setRow b cs):=d.grown (zvg w' b cs) f (fun g c=>by cases c;exact e)
theorem FrB.start (b:BoxC w a (frC p.R M) 138) (d:p.D<a):FrB p a M [] w :=
 ⟨d,b.cell 0 rfl,b.cell 1 rfl,b.cell 42 rfl,fun c hi=>absurd hi (Nat.not_lt_zero _),fun c hi=>absurd hi (Nat.not_lt_zero _),fun c hi=>by
  have e:(frC p.R M).size=43:=rfl
  exact⟨_,b.cell c (Array.getElem?_eq_getElem oA)⟩,b.fz,jz _⟩
theorem zyz {b:List ByteArray} {c:List Int} (e:a<b.length) (f:a<c.length):(b.zip c).take (a+1)=(b.zip c).take a++[(b[a],c[a])]:=by
 have d:a<(b.zip c).length:=by rw[List.length_zip];omega
 rw[List.take_succ_eq_append_getElem d,List.getElem_zip]
theorem zqf (b1:Gv p C w0) (m:Nat) (aS:ByteArray) (e:List Int) (bA:Zv) (q:PR) (a9:Int) (a3:ByteArray) (ad:Int) (aj aa:Option Addr) (ak ac ab:Nat) (bS:CBo p C w0 m q (Za #[U O a9,I a3,U O ad,J aa ac ab])) (cm:(p.pf aS).getD bW=Za #[I q.mod,J aj q.pars.length ak,U O a9,I a3,U O ad,J aa ac ab]) (e6:q.mod.size<=16) (cj:q.pars≠[]->∃m L,aj=Z (A m L F)/\Stc p m/\∀i (y:i<q.pars.length),∃(z E:Int) (t:Option Addr) (G u:Nat),w0.cell? (A m (L+i*4) F)=Z (U O z)/\w0.cell? (A m (L+i*4+1) F)=Z (I q.pars[i])/\w0.cell? (A m (L+i*4+2) F)=Z (U O E)/\w0.cell? (A m (L+i*4+3) F)=Z (J t G u)) (y:MR p C w0 lo hi s d w) (c7:Inv C s) (bP:zhx p w lo hi bA e) (e9:e.length<=1000000) (eb:aS.size<=2000) (e3:d<30) (e0:q.pars.length<=e.length) (e1:q.pars.length<=20) (ch:blM C m q.mod (q.pars.zip e) (d+1) q.body s≠.lost) : Calls prog 33 #[Zp (Z (A p.R 0 F)),I aS,bA] w (ExR p C w0 lo hi d w (ziu (blM C m q.mod (q.pars.zip e) (d+1) q.body s))):=by
 have cq:=show Hid _ from bS
 have cx:=show Hid _ from cj
 have cp:=show Hid _ from bP
 have bo:=show Hid _ from ch
 have cu:=show Hid _ from c7
 have aE:=y.lt;have e7:=p.rd;have b9:=(y.alloc (Zc #[Zp (Z (A p.R 0 F))] 130)).alloc (Zc #[U O 0] 2);have aT:=show Hid _ from b9
 have dy:=b9.box.cell 11 (v:=natV d) rfl;clear bS cj bP ch c7 b9;have a:Hid (∀l,w.heap.size<=l->lo.ownBlock≠Z l/\hi.ownBlock≠Z l):=fun l b7=>⟨fun h=>by have:=(y.rl.lt _ h).2;omega,fun h=>by have:=(y.rh.lt _ h).2;omega⟩
 obtain⟨au,b6⟩:∃au,au=ziu (blM C m q.mod (q.pars.zip e) (d+1) q.body s):=⟨_,rfl⟩
 rw[<- b6];have ar:=show Hid _ from b6
 clear y b6;obtain⟨k,c,du⟩:=q;dsimp only at *;go_enter_defers func33,ntmps33
 go_upto_region 4 with fail
 have aW:BoxC ((w.alloc (Zc #[Zp (Z (A p.R 0 F))] 130)).alloc (Zc #[U O 0] 2)) w.heap.size #[Zp (Z (A p.R 0 F))] 130:=(BoxC.new w _ _).alloc _
 have bC:BoxC ((w.alloc (Zc #[Zp (Z (A p.R 0 F))] 130)).alloc (Zc #[U O 0] 2)) (w.heap.size+1) #[U O 0] 2:=by
  have:=BoxC.new (w.alloc (Zc #[Zp (Z (A p.R 0 F))] 130)) #[U O 0] 2;rw[jP]at this;exact this
 have bf:Hid (FK p (fun _=>False) lo hi lo hi w ((w.alloc (Zc #[Zp (Z (A p.R 0 F))] 130)).alloc (Zc #[U O 0] 2))):=((FK.refl ..).alloc _).alloc _;have ck:((w.alloc (Zc #[Zp (Z (A p.R 0 F))] 130)).alloc (Zc #[U O 0] 2)).heap.size=w.heap.size+2:=oC;generalize (w.alloc (Zc #[Zp (Z (A p.R 0 F))] 130)).alloc (Zc #[U O 0] 2)=aR at *;have aH:=aW.cell 0 rfl;have d4:=aT.out.box.fz 11
 go_upto_region 5 with fail
 have M:Hid (MR p C w0 lo hi s (d+1) (aR.setCell (A p.R 11 F) (U O ((d:Int)+1)))):=aT.out.turn 11 (natV (d+1)) (by simp[yQ]) rfl rfl rfl;have bg:Hid (FK p (fun _=>False) lo hi lo hi w (aR.setCell (A p.R 11 F) (U O ((d:Int)+1)))):=bf.out.turn 11 _;have aX:=aW.other (b:=p.R) (o:=11) oA (U O ((d:Int)+1));have bF:=bC.other (b:=p.R) (o:=11) oA (U O ((d:Int)+1));have ba:(aR.setCell (A p.R 11 F) (U O ((d:Int)+1))).heap.size=w.heap.size+2:=by simp[ck]
 clear aT bf aW bC ck aH d4 dy;generalize aR.setCell (A p.R 11 F) (U O ((d:Int)+1))=aJ at *;have aH:=aX.cell 0 rfl;have dx:=M.out.box.cell 1 (v:=.map (Z p.pb)) rfl;have c9:=zzp (kI.same b1.hP (M.out.stc.block _ b1.hP.lt b1.sP)) aS (by unfold maxLen;omega);rw[cm]at c9;clear cm
 go_upto_region 6 with fail
 have aO:=BoxC.new aJ #[I k,J aj c.length ak,U O a9,I a3,U O ad,J aa ac ab] 133;rw[ba]at aO;have aD:=(Below.refl aJ.heap.size aJ).alloc (jE _) (Zc #[I k,J aj c.length ak,U O a9,I a3,U O ad,J aa ac ab] 133);have ag:=show Hid _ from M.out.below aD
 have af:=show Hid _ from bg.out.below aD
 have aY:=aX.below aD;have bG:=bF.below aD;have aQ:(aJ.alloc (Zc #[I k,J aj c.length ak,U O a9,I a3,U O ad,J aa ac ab] 133)).heap.size=w.heap.size+3:=by simp[ba]
 clear M bg aX bF ba aH dx c9 aD;generalize aJ.alloc (Zc #[I k,J aj c.length ak,U O a9,I a3,U O ad,J aa ac ab] 133)=ae at *;have aH:=aY.cell 0 rfl;have dl:=aO.cell 0 rfl;obtain⟨x,cf⟩:∃x,x=frC p.R k:=⟨_,rfl⟩
 obtain⟨fz,cg⟩:∃fz,fz=frZ:=⟨_,rfl⟩
 have aA:=show Hid _ from cf
 have bj:=show Hid _ from cg
 have aN:=BoxC.new ae fz 138;rw[aQ]at aN;clear cf cg
 go_upto_region 6 with fail
 refine wp_region_list ?_;refine Go.Great.wpList_readTo rfl (Z 32) rfl (Zp (Z (A p.R 0 F))) (by go_simp) ?_;refine Go.Great.wpList_readTo rfl (Z 33) rfl (Zp (Z (A (w.heap.size+2) 0 F))) (by go_simp) ?_;refine Go.Great.wpList_readTo rfl (Z 34) rfl (I k) (by go_simp) ?_;refine wpList_buildTo rfl 138 _ rfl (Z 35) rfl x (by rw[aA.out];kernel_rfl) ?_;refine Go.Great.wpList_allocTo rfl (Z 8) rfl (Zp (Z (A (w.heap.size+3) 0 F))) (Zc fz 138) (by rw[bj.out,<- aQ];kernel_rfl) ?_;refine wpList_store_rowTo rfl 138 (.tmp 8) (.tmp 35) rfl rfl (w.heap.size+3) x rfl rfl 138 fz aN (by rw[aA.out];kernel_rfl) (by rw[aA.out,bj.out];rfl) (by rw[aA.out];kernel_rfl) ?_;refine wpList_nil ?_;have bB:BoxC ((ae.alloc (Zc fz 138)).setRow (w.heap.size+3) x) (w.heap.size+3) x 138:=setRow_heap _ _ _ _ _ _ aN;have ay:Below ae.heap.size ae ((ae.alloc (Zc fz 138)).setRow (w.heap.size+3) x):=zbx (bal _) oA oC;have e8:((ae.alloc (Zc fz 138)).setRow (w.heap.size+3) x).heap.size=w.heap.size+4:=by simp[aQ]
 have bn:=show Hid _ from ag.out.below ay
 have bh:=show Hid _ from af.out.below ay
 have br:=show Hid _ from aY.below ay
 have bv:=show Hid _ from bG.below ay
 have aV:=aO.below ay;have bm:Hid (FrB p (w.heap.size+3) k [] ((ae.alloc (Zc fz 138)).setRow (w.heap.size+3) x)):=FrB.start (by rw[<- aA.out];exact bB) oA;clear ag af aY bG aO aQ aH dl ay aN bB;generalize (ae.alloc (Zc fz 138)).setRow (w.heap.size+3) x=eg at *;have dm:=aV.cell 1 rfl;have bp:=show Hid _ from aV
 clear aV;go_wp2;go_loopw [39] (fun a8 wr=>∃(b:Nat),b<=c.length/\a8=U O b/\Hid (MR p C w0 lo hi s (d+1) wr)/\Hid (FrB p (w.heap.size+3) k ((c.zip e).take b) wr)/\Hid (FK p (·=w.heap.size+3) lo hi lo hi w wr)/\Hid (BoxC wr w.heap.size #[Zp (Z (A p.R 0 F))] 130)/\Hid (BoxC wr (w.heap.size+1) #[U O 0] 2)/\Hid (BoxC wr (w.heap.size+2) #[I k,J aj c.length ak,U O a9,I a3,U O ad,J aa ac ab] 133)) (fun a8 _=>c.length - (intOf a8).toNat)
 case atStart=>exact⟨0,jz _,rfl,bn.out,bm.out,bh.out.mono (fun l _ y=>y.elim),br.out,bv.out,bp.out⟩
 case round =>
  obtain⟨b,e4,rfl,T,ap,Q,ah,ai,r⟩:=hrel;clear bn bh br bv bp bm dm;by_cases aE:b<c.length
  ·have de:c≠[]:=by intro h;rw[h]at aE;simp at aE
   have aP:b<e.length:=oA;have df:e≠[]:=by intro h;rw[h]at aP;simp at aP
   obtain⟨ds,dt,rfl,a7,ci⟩:=cx.out de;obtain⟨z,E,t,G,u,bK,bM,aw,bN⟩:=ci b aE;have dh:=T.out.stc.cell bK a7;have di:=T.out.stc.cell bM a7;have dj:=T.out.stc.cell aw a7;have dk:=T.out.stc.cell bN a7;obtain⟨dz,d2,rfl,cd⟩:=cp.out;obtain⟨a2,rfl,db,dd,dc,cc⟩:=cd df;have b8:=cc b aP;have e2:a2<w.heap.size:=jS w (A a2 b F) b8;have be:Hid (∀ {av},FK p (·=w.heap.size+3) lo hi lo hi w av->av.cell? (A a2 b F)=Z (U O e[b])):=fun d6=>d6.k.cell b8 ⟨db,by show a2≠_;omega,dd,dc⟩
   clear bK bM aw bN ci cd cc b8 a7;go_wp2_with (fail);have bz:=show Hid _ from zyz aE aP
   have d5:((c.zip e).take b).length<20:=by rw[List.length_take,List.length_zip];omega
   have e5:(b:Int)<(e.length:Int):=oA;generalize c[b]=K at *;generalize e[b]=a8 at *;have ea:=r.out.lt;have an:=((bal (Zc #[U O z,I K,U O E,J t G u] 25)):Below wr.heap.size wr _).drew;have ca:=T.out.below an;have c6:=ap.out.below an;have aZ:=Q.out.below an;have bs:=show Hid _ from ah.out.below an
   have bw:=show Hid _ from ai.out.below an
   have bq:=show Hid _ from r.out.below an
   have da:=ap.out.lt;have bR:=zr7 ca c6 (a.out _ oA).1 (a.out _ oA).2 d5 K a8;have o:BoxC ((wr.alloc (Zc #[U O z,I K,U O E,J t G u] 25)).drew) wr.heap.size #[U O z,I K,U O E,J t G u] 25/\((wr.alloc (Zc #[U O z,I K,U O E,J t G u] 25)).drew).cell? (A a2 b F)=Z (U O a8):=⟨(BoxC.new wr _ _).below (Below.refl _ _).drew,be.out aZ⟩
   have bi:=show Hid _ from aZ
   have bc:Hid (BoxC ((wr.alloc (Zc #[U O z,I K,U O E,J t G u] 25)).drew) wr.heap.size #[U O z,I K,U O E,J t G u] 25):=o.1;have HS:=show Hid _ from o
   clear o dh di dj dk an ca c6 aZ T ap Q ah ai r;refine wp_region_noPanic ?_;refine wp_region_held_drew (S:=fun av=>BoxC av wr.heap.size #[U O z,I K,U O E,J t G u] 25/\av.cell? (A a2 b F)=Z (U O a8)) oB HS.out (fun b2=>?_);have o:=HS.out;clear b2 HS;generalize (wr.alloc (Zc #[U O z,I K,U O E,J t G u] 25)).drew=av at *;generalize wr.heap.size=d1 at *;refine tkS (i:=0) (v:=Zp (Z (A d1 1 F))) rfl rfl (Or.inl ⟨oG,fun aK am=>oF⟩) o ?_;simp only[jA,jB,jC];refine tkS (i:=1) (v:=I K) rfl rfl (Or.inl ⟨oG,fun aK am=>by have ec:=am.1.cell 1 rfl;go_simp⟩) o ?_;simp only[jA,jB,jC];refine tkS (i:=2) (v:=J (Z (A a2 0 F)) e.length d2) rfl rfl (Or.inl ⟨oG,fun aK am=>oF⟩) o ?_;simp only[jA,jB,jC];refine tkS (i:=3) (v:=U O b) rfl rfl (Or.inl ⟨oG,fun aK am=>oF⟩) o ?_;simp only[jA,jB,jC];refine tkS (i:=4) (v:=Zp (Z (A a2 b F))) rfl rfl (Or.inl ⟨oG,fun aK am=>oF⟩) o ?_;simp only[jA,jB,jC];refine tkS (i:=5) (v:=U O a8) rfl rfl (Or.inl ⟨oG,fun aK am=>by have ed:=am.2;go_simp⟩) o ?_;simp only[jA,jB,jC];refine oneH 6 fun d0 c8=>?_
   go_simp;go_at_call 67;refine bR.mono ?_;clear bR;rintro h W ⟨rfl,n,ax,bX⟩;have b0:=bi.out.trans ax;refine c8.out _ _ ⟨ax.box bc.out oA oA (a.out _ oA).1 (a.out _ oA).2,be.out b0⟩ (fun b2=>?_);clear c8 d0 b2 o;refine wpAnyH_done oB ?_ _;refine NoPanic.normal ?_;have cL:Hid (BoxC W w.heap.size #[Zp (Z (A p.R 0 F))] 130):=ax.box bs.out oA oA (a.out _ oA).1 (a.out _ oA).2;have cR:Hid (BoxC W (w.heap.size+1) #[U O 0] 2):=ax.box bw.out oA oA (a.out _ oA).1 (a.out _ oA).2;have cw:Hid (BoxC W (w.heap.size+2) #[I k,J (Z (A ds dt F)) c.length ak,U O a9,I a3,U O ad,J aa ac ab] 133):=ax.box bq.out oA oA (a.out _ oA).1 (a.out _ oA).2;have cv:=show Hid _ from n
   have cr:=show Hid _ from b0
   have ct:Hid (FrB p (w.heap.size+3) k ((c.zip e).take (b+1)) W):=by show FrB ..;rw[bz.out];exact bX
   clear n ax bX b0 bs bw bq bi bc bz;go_wp2;go_roundw
   case rel=>exact⟨b+1,oA,oM,cv.out,ct.out,cr.out,cL.out,cR.out,cw.out⟩
   case measure=>simp[intOf];omega
  ·obtain rfl:b=c.length:=oA;have az:(c.zip e).take c.length=c.zip e:=jG (by rw[List.length_zip];omega);have da:=ap.out.lt;have aM:Hid (SF p C w0 lo hi s (d+1) (w.heap.size+3) k (c.zip e) wr):=⟨T.out,by rw[<- az];exact ap.out,(a.out _ oA).1,(a.out _ oA).2,cu.out,oA,oA⟩
   have ce:=cq.out k (c.zip e) (d+1) s lo hi wr (w.heap.size+3) aM.out bo.out;have dn:=r.out.cell 2 rfl;have dp:=r.out.cell 3 rfl;have dq:=r.out.cell 4 rfl;have dr:=r.out.cell 5 rfl;clear T ap az;go_wp2_with (fail);refine ce.mono ?_;clear ce dn dp dq dr
   cases ao:blM C m k (c.zip e) (d+1) du s with
   | lost=>exact absurd ao bo.out
   | go l2 aI =>
    rintro h g ⟨rfl,P,N,n,j,_⟩;have aB:BoxC g w.heap.size #[Zp (Z (A p.R 0 F))] 130:=j.box ah.out oA oA (a.out _ oA).1 (a.out _ oA).2;have a6:BoxC g (w.heap.size+1) #[U O 0] 2:=j.box ai.out oA oA (a.out _ oA).1 (a.out _ oA).2;have a5:au=.go 0 aI:=by rw[ar.out,ao];rfl
    have aL:=show Hid _ from a5
    have aF:P.ownBlock≠Z (w.heap.size+1):=j.lone oA (a.out _ oA).1;have aG:N.ownBlock≠Z (w.heap.size+1):=j.hine oA (a.out _ oA).2;have ag:=show Hid _ from n.side (B:=w.heap.size+1) oA aF aG 0 (U O 0)
    have af:Hid (FK p (fun _=>False) lo hi P N w (g.setCell (A (w.heap.size+1) 0 F) (U O 0))):=((Q.out.trans j).side (.inr oA) 0 _).mono (fun l b7 h=>oA);have aC:BoxC (g.setCell (A (w.heap.size+1) 0 F) (U O 0)) (w.heap.size+1) #[U O 0] 2:=a6.set 0 (U O 0);have cb:=aB.other (b:=w.heap.size+1) (o:=0) oA (U O 0);have aU:Hid (BoxC (g.setCell (A (w.heap.size+1) 0 F) (U O 0)) (w.heap.size+1) #[U O 0] 2):=aC;have cH:Hid (BoxC (g.setCell (A (w.heap.size+1) 0 F) (U O 0)) w.heap.size #[Zp (Z (A p.R 0 F))] 130):=cb;have ee:=a6.cell 0 rfl;have ef:=a6.fz 0;clear n j aB a6 a5 aF aG aC cb ar ao ah ai r Q aM;go_wp2;generalize g.setCell (A (w.heap.size+1) 0 F) (U O 0)=W at *;refine leaves_cons (f:=66) (args:=#[Zp (Z (A (w.heap.size+1) 0 F)),Zp (Z (A w.heap.size 0 F))]) oC oR ?_;refine(zva (V:=w.heap.size+1) (R:=w.heap.size) (D:=p.R) (d:=d) (cH.out.cell 0 rfl) (ag.out.box.cell 11 rfl) (ag.out.box.fz 11) oA).mono ?_;rintro h cn co ⟨rfl,rfl,rfl⟩;have bb:(W.setCell (A p.R 11 F) (natV d)).cell? (A (w.heap.size+1) 0 F)=Z (U O 0):=(aU.out.other (b:=p.R) (o:=11) oA (natV d)).cell 0 rfl;refine⟨U O 0,by simp[results,results33,go_sem,bb],?_⟩
    exact zpo
   | back v aI =>
    rintro h g ⟨rfl,P,N,n,j⟩;have aB:BoxC g w.heap.size #[Zp (Z (A p.R 0 F))] 130:=j.box ah.out oA oA (a.out _ oA).1 (a.out _ oA).2;have a6:BoxC g (w.heap.size+1) #[U O 0] 2:=j.box ai.out oA oA (a.out _ oA).1 (a.out _ oA).2;have a5:au=.go v aI:=by rw[ar.out,ao];rfl
    have aL:=show Hid _ from a5
    have aF:P.ownBlock≠Z (w.heap.size+1):=j.lone oA (a.out _ oA).1;have aG:N.ownBlock≠Z (w.heap.size+1):=j.hine oA (a.out _ oA).2;have ag:=show Hid _ from n.side (B:=w.heap.size+1) oA aF aG 0 (U O v)
    have af:Hid (FK p (fun _=>False) lo hi P N w (g.setCell (A (w.heap.size+1) 0 F) (U O v))):=((Q.out.trans j).side (.inr oA) 0 _).mono (fun l b7 h=>oA);have aC:BoxC (g.setCell (A (w.heap.size+1) 0 F) (U O v)) (w.heap.size+1) #[U O v] 2:=a6.set 0 (U O v);have aU:Hid (BoxC (g.setCell (A (w.heap.size+1) 0 F) (U O v)) (w.heap.size+1) #[U O v] 2):=aC;have cz:Hid (BoxC g w.heap.size #[Zp (Z (A p.R 0 F))] 130):=aB;have bu:Hid (BoxC g (w.heap.size+1) #[U O 0] 2):=a6;have M:=show Hid _ from n
    clear n j aB a6 a5 aF aG aC ar ao ah ai r Q aM;go_wp2;refine leaves_cons (f:=66) (args:=#[Zp (Z (A (w.heap.size+1) 0 F)),Zp (Z (A w.heap.size 0 F))]) oC oR ?_;refine(ztq (V:=w.heap.size+1) (R:=w.heap.size) (D:=p.R) (d:=d) v _ (bu.out.cell 0 rfl) (bu.out.fz 0) oA oA (cz.out.cell 0 rfl) (M.out.box.cell 11 rfl) (M.out.box.fz 11) oA).mono ?_;rintro h cn co ⟨rfl,rfl,rfl⟩;generalize g.setCell (A (w.heap.size+1) 0 F) (U O v)=W at *;have bb:(W.setCell (A p.R 11 F) (natV d)).cell? (A (w.heap.size+1) 0 F)=Z (U O v):=(aU.out.other (b:=p.R) (o:=11) oA (natV d)).cell 0 rfl;refine⟨U O v,by simp[results,results33,go_sem,bb],?_⟩
    exact zpo
   | stop aw aI =>
    rintro h g ⟨⟨ps,a7,rfl⟩,P,N,⟨d3,n⟩,j⟩;have a5:au=.stop aw aI:=by rw[ar.out,ao];rfl
    have aL:=show Hid _ from a5
    have M:=show Hid _ from n
    have cy:=show Hid _ from a7
    have af:Hid (FK p (fun _=>False) lo hi P N w g):=(Q.out.trans j).mono (fun l b7 h=>oA);clear n j a5 ar ao ah ai r Q aM a7;go_wp2;refine leaves_cons (f:=66) (args:=#[Zp (Z (A (w.heap.size+1) 0 F)),Zp (Z (A w.heap.size 0 F))]) oC oR ?_;refine(zw5 aw ps).mono ?_;rintro h cn co ⟨rfl,rfl,rfl⟩;show ExR p C w0 lo hi d w au (.panicked _) _;rw[aL.out];refine⟨⟨{ v:=.iface 129 (U O aw),recovered:=H } :: ps,fun dw az=>?_,rfl⟩,P,N,⟨d3,M.out⟩,af.out⟩;rcases List.mem_cons.1 az with rfl | az
    ·rfl
    ·exact cy.out dw az
end
section
variable {p:Pl} {C:Cx} {w0 w w':Zw} {lo hi lo' hi':Zv} {s s':RS} {d B:Nat} {M:ByteArray} {l l2:Lc} {X:Nat->Prop}
theorem FK.any (a:FK p (fun _=>False) lo hi lo' hi' w w'):FK p X lo hi lo' hi' w w':=a.mono fun _ _ a=>a.elim
theorem Nod.kid0 {r:Int} {u:ByteArray} {t:Int} {m:Tree} {k:List Tree} {v:Zv} (y:Nod p w0 (.node r u t (m :: k)) v):∃a b j f i g c h e,v=Za #[U O r,I u,U O t,J (Z (A a b F)) (k.length+1) j]/\k.length+1<=j/\k.length+1<=4611686018427387904/\Nod p w0 m (Za #[U O f,I i,U O g,J c h e])/\(∀ {lo hi s d w},MR p C w0 lo hi s d w->w.cell? (A a b F)=Z (U O f)/\w.cell? (A a (b+1) F)=Z (I i)/\w.cell? (A a (b+2) F)=Z (U O g)/\w.cell? (A a (b+3) F)=Z (J c h e)):=by
 obtain⟨M,j,rfl,n,o,B⟩:=y.kids (C:=C);obtain⟨a,b,rfl,D⟩:=B oC;obtain⟨E,G,K,L,l,q⟩:=D 0 oC;simp only[Nat.zero_mul,Nat.add_zero,jI,jd]at l q n o;obtain⟨f,i,g,c,h,e,x⟩:=l.shape;obtain⟨rfl,rfl,rfl,rfl⟩:E=U O f/\G=I i/\K=U O g/\L=J c h e:=by simpa using x
 exact⟨a,b,j,f,i,g,c,h,e,rfl,n,o,l,fun z=>q z⟩
theorem zrw (C:Cx) (b:Nat) (M:ByteArray) (l:Lc) (d:Nat) (f:Int) (c:ByteArray) (e:Int) (a:Tree) (s:RS):stM C (b+1) M l d (.node 7 c e [a]) s=(kP C.fuel s).bind fun _ s=>(exM C b M l d a s).bind fun v s=>if 20<=l.length then .lost else .go (l++[(c,v)]) s:=by
 conv=>lhs;unfold stM
 rfl
theorem st7 (bj:Gv p C w0) (y:Nat) (aL:CEx p C w0 y) (a:ByteArray) (h:Int) (x:Tree) (bn:ExT x) (v:Zv) (aN:Nod p w0 (.node 7 a h [x]) v) (N:SF p C w0 lo hi s d B M l w) (aV:stM C (y+1) M l d (.node 7 a h [x]) s≠.lost):Calls prog 109 #[Zp (Z (A B 0 F)),v] w (StR p C w0 lo hi d B M w (stM C (y+1) M l d (.node 7 a h [x]) s)):=by
 have aY:=show Hid (CEx p C w0 y)from aL
 have b8:=show Hid _ from aV
 obtain⟨r,t,z,m,q,n,j,o,k,rfl,bo,bp,aU,aR⟩:=aN.kid0 (C:=C);have b6:=show Hid (Nod p w0 x (Za #[U O m,I q,U O n,J j o k]))from aU
 have b2:Hid (∀ {lo hi s d w},MR p C w0 lo hi s d w->(w.cell? (A r t F)=Z (U O m)/\w.cell? (A r (t+1) F)=Z (I q)/\w.cell? (A r (t+2) F)=Z (U O n)/\w.cell? (A r (t+3) F)=Z (J j o k))):=fun bm=>aR bm
 clear aL aN aV aU aR;simp only[je,Nat.zero_add]at bo bp |-;have a8:=N.below (bal (Zc #[U O 7,I a,U O h,J (Z (A r t F)) 1 z]  25));have ak:=show Hid _ from a8
 have ao:=show Hid _ from(FK.refl p (fun _=>False) lo hi w).alloc (Zc #[U O 7,I a,U O h,J (Z (A r t F)) 1 z]  25)
 have aH:Hid (∀ {lo' hi' w'},FK p (fun _=>False) lo hi lo' hi' (w.alloc (Zc #[U O 7,I a,U O h,J (Z (A r t F)) 1 z]  25)) w'->BoxC w' w.heap.size #[U O 7,I a,U O h,J (Z (A r t F)) 1 z]  25):=fun bi=>N.side _ _ (fun b=>b) bi
 have bf:=a8.f.c0;have bM:=bj.fu;have bR:=a8.iv.st;have aP:=uJ (fun _=>False) a8.m oA;have bN:=N.f.lt;have aK:=N.m.lt;have bP:=p.rd;have aG:Hid (lo.ownBlock≠Z w.heap.size/\hi.ownBlock≠Z w.heap.size):=⟨fun b=>by have:=(N.m.rl.lt _ b).2;omega,fun b=>by have:=(N.m.rh.lt _ b).2;omega⟩
 obtain⟨D,av⟩:∃D,D=stM C (y+1) M l d (.node 7 a h [x]) s:=⟨_,rfl⟩
 rw[<- av];have ap:=show Hid _ from av
 clear N a8 av;have am:Hid (∀ {e:Zw},BoxC e w.heap.size #[U O 7,I a,U O h,J (Z (A r t F)) 1 z]  25->e.cell? (A w.heap.size 0 F)=Z (U O 7)/\e.cell? (A w.heap.size 1 F)=Z (I a)/\e.cell? (A w.heap.size 2 F)=Z (U O h)/\e.cell? (A w.heap.size 3 F)=Z (J (Z (A r t F)) 1 z)):=fun E=>⟨E.cell 0 rfl,E.cell 1 rfl,E.cell 2 rfl,E.cell 3 rfl⟩
 go_enter func109,ntmps109;go_wp2_with (fail);refine aP.mono ?_;clear aP bf
 cases a9:kP C.fuel s with
 | lost=>intro b c bq;exact bq.elim
 | back v Q=>exact absurd a9 (by unfold kP;split<;>(intro b;cases b))
 | stop au Q =>
  rintro b c ⟨⟨ps,aB,rfl⟩,aa,a7,a5,G⟩;go_wp2;rw[show D=.stop au Q by rw[ap.out,zrw C y M l d 7 a h x s,a9];rfl]
  exact⟨rfl,⟨ps,aB,rfl⟩,aa,a7,a5,(ao.out.trans G).any⟩
 | go bX Q =>
  rintro b c ⟨rfl,aa,a7,a5,G,_⟩;have ag:=show Hid _ from ak.out.after a5 G (ak.out.iv.go (xD C.fuel s) ((vJ s).less oA) a9)
  have aC:=show Hid _ from ao.out.trans G
  have ad:Hid (aa.ownBlock≠Z w.heap.size/\a7.ownBlock≠Z w.heap.size):=⟨G.lone oC aG.out.1,G.hine oC aG.out.2⟩
  have a6:=aH.out G;have aX:=show Hid _ from a6
  have bS:w.heap.size<c.heap.size:=BoxC.lt a6;have ay:=BoxC.below a6 (bal (Zc #[U O m,I q,U O n,J j o k] 25));have an:=show Hid _ from ay
  obtain⟨br,bs,bu,bv⟩:=am.out a6;obtain⟨b0,bb,bc,be⟩:=am.out ay;obtain⟨bw,bz,bA,bB⟩:=b2.out a5;have V:Hid (D=(exM C y M l d x Q).bind fun v s=>if 20<=l.length then .lost else .go (l++[(a,v)]) s):=by show D=_;rw[ap.out,zrw C y M l d 7 a h x s,a9];rfl
  clear a5 G aH ak ao a6 ay a9;go_wp2_with (fail)
  have az:((exM C y M l d x Q).bind fun v s=>if 20<=l.length then .lost else .go (l++[(a,v)]) s)≠.lost:=fun b=>by
   have aJ:=V.out;rw[b]at aJ;exact b8.out (ap.out.symm.trans aJ)
  have aF:=show Hid _ from az
  have aA:=vH az;clear az;have ae:Hid (aa.ownBlock≠Z c.heap.size/\a7.ownBlock≠Z c.heap.size):=⟨fun b=>by have:=(ag.out.m.rl.lt _ b).2;omega,fun b=>by have:=(ag.out.m.rh.lt _ b).2;omega⟩
  have ax:=BoxC.new c #[U O m,I q,U O n,J j o k] 25;refine wp_region_held_drew (S:=fun e=>BoxC e w.heap.size #[U O 7,I a,U O h,J (Z (A r t F)) 1 z]  25/\BoxC e c.heap.size #[U O m,I q,U O n,J j o k] 25) oB ⟨an.out,ax⟩ (fun a2=>?_);have g:BoxC (c.alloc (Zc #[U O m,I q,U O n,J j o k] 25)).drew w.heap.size #[U O 7,I a,U O h,J (Z (A r t F)) 1 z]  25/\BoxC (c.alloc (Zc #[U O m,I q,U O n,J j o k] 25)).drew c.heap.size #[U O m,I q,U O n,J j o k] 25:=⟨an.out,ax⟩
  have ah:=show Hid _ from ag.out.below (bal (Zc #[U O m,I q,U O n,J j o k] 25)).drew
  have ac:=show Hid _ from(aC.out.alloc (Zc #[U O m,I q,U O n,J j o k] 25)).drew
  have aW:Hid (∀ {e:Zw},BoxC e c.heap.size #[U O m,I q,U O n,J j o k] 25->e.cell? (A c.heap.size 0 F)=Z (U O m)/\e.cell? (A c.heap.size 1 F)=Z (I q)/\e.cell? (A c.heap.size 2 F)=Z (U O n)/\e.cell? (A c.heap.size 3 F)=Z (J j o k)):=fun E=>⟨E.cell 0 rfl,E.cell 1 rfl,E.cell 2 rfl,E.cell 3 rfl⟩
  clear a2 ag aC aX an br bs bu bv b0 bb bc be bw bz bA bB ax;generalize World.drew _=e at *;refine tkS (i:=0) (v:=Zp (Z (A B 0 F))) rfl rfl (Or.inl ⟨oG,fun aj T=>oF⟩) g ?_;simp only[jA,jB,jC];refine tkS (i:=1) (v:=Zp (Z (A w.heap.size 1 F))) rfl rfl (Or.inl ⟨oG,fun aj T=>oF⟩) g ?_;simp only[jA,jB,jC];refine tkS (i:=2) (v:=I a) rfl rfl (Or.inl ⟨oG,fun aj T=>by obtain⟨bC,bF,bG,bK⟩:=am.out T.1;go_simp⟩) g ?_;simp only[jA,jB,jC];refine tkS (i:=3) (v:=Zp (Z (A B 0 F))) rfl rfl (Or.inl ⟨oG,fun aj T=>oF⟩) g ?_;simp only[jA,jB,jC];refine tkS (i:=4) (v:=Za #[U O m,I q,U O n,J j o k] ) rfl rfl (Or.inl ⟨oG,fun aj T=>by obtain⟨bC,bF,bG,bK⟩:=aW.out T.2;go_simp⟩) g ?_;simp only[jA,jB,jC];refine oneH 5 fun ar a3=>?_
  go_simp;go_at_call 141;refine(aY.out M l d x _ Q aa a7 e B bn b6.out ah.out aA).mono ?_
  cases P:exM C y M l d x Q with
  | lost=>exact absurd P aA
  | back v ab =>
   rintro b W ⟨rfl,L,K,R,u⟩;go_wp2;rw[show D=.back v ab by rw[V.out,P];rfl]
   exact⟨rfl,rfl,L,K,R,(ac.out.trans u).any⟩
  | stop au ab =>
   rintro b W ⟨⟨ps,aB,rfl⟩,L,K,R,u⟩;go_wp2;rw[show D=.stop au ab by rw[V.out,P];rfl]
   exact⟨rfl,⟨ps,aB,rfl⟩,L,K,R,(ac.out.trans u).any⟩
  | go v ab =>
   rintro b W ⟨rfl,L,K,R,u,_⟩
   have bg:l.length<20:=by
    refine Nat.lt_of_not_le fun bh=>aF.out ?_
    rw[P];exact jv bh
   have b9:Hid (D=.go (l++[(a,v)]) ab):=by show D=_;rw[V.out,P];exact ju oA
   have aS:L.ownBlock≠Z w.heap.size/\K.ownBlock≠Z w.heap.size:=⟨u.lone g.1.lt ad.out.1,u.hine g.1.lt ad.out.2⟩
   have aT:L.ownBlock≠Z c.heap.size/\K.ownBlock≠Z c.heap.size:=⟨u.lone g.2.lt ae.out.1,u.hine g.2.lt ae.out.2⟩
   have aD:=show Hid _ from aS
   have aE:=show Hid _ from aT
   have aw:=g;clear g;have g:BoxC W w.heap.size #[U O 7,I a,U O h,J (Z (A r t F)) 1 z] 25/\BoxC W c.heap.size #[U O m,I q,U O n,J j o k] 25:=⟨u.box aw.1 aK id ad.out.1 ad.out.2,u.box aw.2 oA id ae.out.1 ae.out.2⟩
   refine a3.out _ _ g (fun a2=>?_);have af:=show Hid _ from ah.out.after R u (ah.out.iv.go ((gds C y).ex ..) ((gks C y).ex ..) P)
   have aZ:Hid (FK p (·=B) lo hi L K w W):=(ac.out.trans u).any
   clear a3 ar a2 R u P aA V aF aw ah ac aS aT;refine oneH 6 fun ar a3=>?_
   go_simp;go_at_call 67;refine(zr7 af.out.m af.out.f af.out.nl af.out.nh bg a v).mono ?_;rintro b aI ⟨rfl,aM,ai,aQ⟩;have aO:BoxC aI w.heap.size #[U O 7,I a,U O h,J (Z (A r t F)) 1 z] 25/\BoxC aI c.heap.size #[U O m,I q,U O n,J j o k] 25:=⟨ai.box g.1 aK (by show w.heap.size≠B;omega) aD.out.1 aD.out.2,ai.box g.2 oA (by show c.heap.size≠B;omega) aE.out.1 aE.out.2⟩
   refine a3.out _ _ aO (fun a2=>?_);have b7:=show Hid _ from aM
   have b1:=show Hid _ from aZ.out.trans ai
   have ba:=show Hid _ from aQ
   clear a3 ar a2 aM ai aQ g aO;refine wpAnyH_done oB ?_ _;go_wp2
   go_end0
   rw[b9.out];exact⟨rfl,L,K,b7.out,b1.out,ba.out⟩
end
end mdl
end Go.Proofs.YtbjppepjmcfkaaaGreatDoor
