/- Statements: what they leave, how far they reach, and labels. No Go in sight. -/
import Derived.Test.YtjkcecppnmlhjaaGreatDoorNQr
import Derived.Maps.OwnIn
import Derived.Test.YtjkcecppnmlhjaaGreatDoorNQ15
import Derived.Test.YtjkcecppnmlhjaaGreatDoorNQ11
import Derived.Lib.BufferOwn
open Go.Proofs.Tryz
open Go.Value renaming int → U, string → I, slice → J, bool → Y, agg → Za, pointer → Zp
open Go.IntKind renaming i64 → O
open Go.Obj renaming cells → Zc
open Go.Addr renaming mk → A
open Option renaming none → F, some → Z
open Bool renaming false → X, true → H
open Go renaming World → Zw, Value → Zv
set_option maxHeartbeats 4000000
set_option linter.unusedVariables false
set_option linter.unusedSimpArgs false
set_option maxRecDepth 100000
namespace Go.Proofs.YtjkcecppnmlhjaaGreatDoor
theorem oz16x141 {p:Prop} (q:p:=by
 replace d:=Q4.grown d r ay;clear h L j;refine f.out _ _ d (fun i=>?_);clear f k i;simp only[Act.put,jA,jB,jC];refine tkP 8 (Zp (Z (A D 0 F))) d ?_;simp only[Act.put,jA,jB,jC];refine tkP 9 (Zp (Z (A D 6 F))) d ?_;simp only[Act.put,jA,jB,jC];refine oneH 10 fun k f=>?_
 go_simp;refine f.out _ _ (Q4.other oA d _ _) (fun i=>?_);clear f k i l aF;refine wpAnyH_done oD ?_ _;go_wp2
 go_end0
 exact .inr (.inr ⟨a9.out,oA,rfl,⟨_,aw,fun c e=>by have G:Z ao=Z c:=e;cases G;exact W.imp id (fun e=>oA)⟩,oN,fun c t y K=>(jP _ _ _ c (by show c≠D;exact y)).trans (ax c t y K)⟩)):p:=q
theorem oz16x144 {p:Prop} (q:p:=by
 go_wp2_with (go_at_call 87;refine(vD 1 at_ wr).mono ?_;rintro e aX ⟨rfl,ai⟩;rw[ai])
 exact⟨rfl,.inr (.inl ⟨a9.out,ar,rfl,T.out⟩)⟩):p:=q
theorem oz16y151 {p:Prop} (h:p:=by
 simp only[jy]at d;subst d;exact e):p:=h
theorem oz16x147 {p:Prop} (x:p:=by
 rcases jL b e with bg | bg
 ·exact N.out b hi bg
 ·obtain rfl:b=e:=oA
  exact ae.trans af):p:=x
theorem oz16x149 {p:Prop} (x:p:=by
 exact⟨⟨e+1,oA,oB,b8,ar.out.alloc ar.out.size _⟩,by simp[intOf];omega⟩):p:=x
theorem oz16x139 {p:Prop} (m:p:=by
 have z:Hid (r=.ok (v,a6,aR)):=by
  show _=_;rw[ai.out];simp[y,K]
 go_wp2_with first
  | (go_at_call 141;refine ap.mono ?_;rintro d ag ⟨g,n⟩;obtain rfl:d=.returned (qC v):=n;unfold qC;obtain⟨ab,ac,ad,ae⟩:=id (Q4.below a2 g);obtain⟨bc,be,bf,bg,l⟩:=(t.below g t.lt).cells;have bh:=l 0;have bi:=l 1;have bj:=l 2;have bm:=l 3;clear l;have B:=(k.below g).put4 (b:=w.heap.size+1) oA oA (fun d=>by have:=aw _ d;omega) oA (I v.name) (Y v.pub) (U O v.label) (U O v.size);have aI:=zfz (b:=w.heap.size+1) (am.trans (Fr.below g)) oA (I v.name) (Y v.pub) (U O v.label) (U O v.size))
  | (go_at_call 87;refine(vD 3 at_ _).mono ?_;rintro d bb ⟨rfl,ax⟩;rw[ax])
 refine jT (v:=.tuple #[qC v,U O a6]) (zwn _ _ (((t.below g t.lt).put v).put v)) rfl ?_
 exact PL.mkOk z.out rfl (B.put4 (b:=w.heap.size+1) oA oA (fun d=>by have:=aw _ d;omega) oA _ _ _ _) (zfz aI oA _ _ _ _)):p:=m
theorem oz16x140 {p:Prop} (m:p:=by
 have z:Hid (r=.bad 3 at_):=by
  show _=_;rw[ai.out];simp[y,K]
 go_wp2_with first
  | (go_at_call 141;refine ap.mono ?_;rintro d ag ⟨g,n⟩;obtain rfl:d=.returned (qC v):=n;unfold qC;obtain⟨ab,ac,ad,ae⟩:=id (Q4.below a2 g);obtain⟨bc,be,bf,bg,l⟩:=(t.below g t.lt).cells;have bh:=l 0;have bi:=l 1;have bj:=l 2;have bm:=l 3;clear l;have B:=(k.below g).put4 (b:=w.heap.size+1) oA oA (fun d=>by have:=aw _ d;omega) oA (I v.name) (Y v.pub) (U O v.label) (U O v.size);have aI:=zfz (b:=w.heap.size+1) (am.trans (Fr.below g)) oA (I v.name) (Y v.pub) (U O v.label) (U O v.size))
  | (go_at_call 87;refine(vD 3 at_ _).mono ?_;rintro d bb ⟨rfl,ax⟩;rw[ax])
 exact⟨rfl,PL.mkBad z.out B.bs⟩):p:=m
theorem oz16y150 {p:Prop} (f:p:=by
 simp[results,results128,go_sem,cg,ch,ci,cj,ck,cm,qR]):p:=f
theorem oz16x138 {p:Prop} (f:p:=by
 injection aH with aH _ ee2;obtain rfl:=aH;obtain rfl:=ee2;obtain⟨_,_,aZ,_,a6⟩:=cd.below B;injection aZ with aZ _ ee4;obtain rfl:=aZ;obtain rfl:=ee4;have aO:b<e.length:=by rw[ax];exact y
 obtain⟨e1,ef,rfl,bZ⟩:=bg (by intro c;rw[c]at aO;simp at aO);obtain⟨e2,eg,rfl,c6⟩:=a6 (by intro c;rw[c]at y;simp at y);have df:=bZ b aO;have dh:=c6 b y;have N:=fP at_ ps[b] [e[b]] (J (Z (A wr.heap.size 0 F)) 1 1) (wr.alloc (Zc #[U O e[b]] 3)) (za5 _ _);have HS:Hid (xQ ps e=(zE ps[b] [e[b]]&&xQ (ps.drop (b+1)) (e.drop (b+1)))):=a2.out.trans (zr3 y aO);clear bZ c6 bg a6 a2;generalize ps[b]=di at *;generalize e[b]=bi at *;cases P:zE di [bi]
 ·have G:Hid (K=.bad 7 at_):=by
   show _=_;rw[ag.out];have bG:=HS.out;rw[P,Bool.false_and]at bG;simp[ax,bG]
  have a3:=N.mono (R':=fun c w'=>c=.panicked (qI 7 at_)/\w'=wr.alloc (Zc #[U O bi] 3)) (fun c w' f=>by
   rcases f with⟨x,_⟩|⟨_,T⟩
   ·rw[P]at x;cases x
   ·exact T)
  exact oz16x145
 ·have af:Hid (xQ ps e=xQ (ps.drop (b+1)) (e.drop (b+1))):=by
   show _=_;rw[HS.out,P,Bool.true_and]
  have a3:=N.mono (R':=fun c w'=>c=.returned (.tuple #[])/\w'=wr.alloc (Zc #[U O bi] 3)) (fun c w' f=>by
   rcases f with⟨_,T⟩|⟨x,_⟩
   ·exact T
   ·rw[P]at x;cases x)
  clear N;go_wp2_with (go_at_call 105;refine a3.mono ?_;rintro c q ⟨rfl,W⟩;rw[W])
  exact⟨⟨b+1,oA,oB,af,b7.out.alloc b7.out.size _⟩,by simp[intOf];omega⟩):p:=f
theorem oz16x142 {p:Prop} (f:p:=by
 have a3:=N.mono (R':=fun c w'=>c=.panicked (qI 7 at_)/\w'=wr.alloc (Zc #[U O g] 3)) (fun c w' f=>by
  rcases f with⟨x,_⟩|⟨_,T⟩
  ·rw[P]at x;cases x
  ·exact T)
 exact oz16x145):p:=f
theorem oz16x143 {p:Prop} (f:p:=by
 exact CL.mkOk G.out rfl ((((((bS.other a8 a9 aa ab _).other a8 a9 aa ab _).other a8 a9 aa ab _).other a8 a9 aa ab _).other a8 a9 aa ab _).other a8 a9 aa ab _) (gR (gR (gR (gR (gR (gR bR ac _) ac _) ac _) ac _) ac _) ac _)):p:=f
theorem oz16x145 {p:Prop} (f:p:=by
 clear N;go_wp2_with (go_at_call 105;refine a3.mono ?_;rintro c q ⟨rfl,W⟩;rw[W])
 exact⟨rfl,CL.mkBad G.out (b2.alloc _).bs⟩):p:=f
theorem oz16x146 {p:Prop} (f:p:=by
 rw[c]
 exact⟨b2.alloc _,(bP.trans (Fr.below B)).alloc _,(aL.below B).alloc _,(bX.below B).alloc _⟩):p:=f
theorem oz16x148 {p:Prop} (f:p:=by
 show _=_;rw[ag.out]
 simp[ax,af.out,P]):p:=f
namespace chk
open Go.RowKit Go.Shelf
open syn face
attribute [local go_sem] Oper.semAt_some
set_option linter.unusedVariables false
set_option linter.unusedSimpArgs false
set_option maxRecDepth 100000
def kP (a:Zw) (B:Nat) (v:VarD):Prop:=a.heap[B]?=Z (Zc #[I v.name,Y v.pub,U O v.label,U O v.size] 52 (0,0))
variable {c d:Nat} {g h:Zw} {i:ByteArray}
theorem kP.lt {v:VarD} (a:kP g c v):c<g.heap.size:=(Array.getElem?_eq_some_iff.1 a).1
theorem kP.kept {row:Option Nat} {v:VarD} (a:kP g c v) (b:g.grownBy h row) (d:Z c≠row):kP h c v:=(b.block c a.lt d).trans a
theorem kP.alloc {v:VarD} (b:kP g c v) (a:Obj):kP (g.alloc a) c v:=b.kept (World.grownBy_alloc g a F) oB
theorem kP.new (a:Zw) (v:VarD):kP (a.alloc (Zc #[I v.name,Y v.pub,U O v.label,U O v.size] 52)) a.heap.size v:=World.alloc_heap_new a _
theorem zef {β:Type} (a:Nat) (h:β->VarD):Own (fun d e=>kP e a (h d)):=fun d f l row c j k =>
 c.kept j (fun g=>by obtain⟨m,b,i⟩:=k a g.symm;rw[show f.heap[a]?=_ from c]at b;cases b;cases i)
theorem kP.cells {v:VarD} (a:kP g c v):g.cell? (A c 0 F)=Z (I v.name)/\g.cell? (A c 1 F)=Z (Y v.pub)/\g.cell? (A c 2 F)=Z (U O v.label)/\g.cell? (A c 3 F)=Z (U O v.size)/\∀b,g.frozen? (A c b F)=X:=by
 refine⟨?_,?_,?_,?_,?_⟩;·simp[World.cell?,show g.heap[c]?=_ from a]
 ·simp[World.cell?,show g.heap[c]?=_ from a]
 ·simp[World.cell?,show g.heap[c]?=_ from a]
 ·simp[World.cell?,show g.heap[c]?=_ from a]
 ·intro b;simp[World.frozen?,show g.heap[c]?=_ from a]
theorem kP.below {v:VarD} (a:kP g d v) (e:Below c g h) (b:d<c):kP h d v:=(e.block d b).trans a
theorem kP.put {f:VarD} (a:kP g c f) (v:VarD):kP ((((g.setCell (A c 0 F) (I v.name)).setCell (A c 1 F) (Y v.pub)).setCell (A c 2 F) (U O v.label)).setCell (A c 3 F) (U O v.size)) c v:=by
 have b:=heap_setCell_same g c 0 _ 52 (I v.name) a;have d:=heap_setCell_same _ c 1 _ 52 (Y v.pub) b;have e:=heap_setCell_same _ c 2 _ 52 (U O v.label) d;exact heap_setCell_same _ c 3 _ 52 (U O v.size) e
def yN:VarD:=⟨⟨#[]⟩,X,0,0⟩
def dP (vs:List VarD) (x:ByteArray):Option VarD:=vs.reverse.find? fun v=>eqS v.name x
def cE (x:ByteArray) (a:List (Nat × VarD)):Prop:=∀y∈a,eqS y.2.name x=X
def xD (kf:ByteArray->Option FV) (vs:List VarD) (x:ByteArray):Option VarD:=match dP vs x with
 | some v=>Z v
 | none=>match kf (zR x)with
  | some q=>gW q.1.vars (yJ x)
  | none=>F
def VP (o:Option VarD) (a:Int) (w:Zw) (e:Ending) (w':Zw):Prop:=Below w.heap.size w w'/\match o with
 | some v=>e=.returned (qC v)
 | none=>e=.panicked (qI 4 a)
theorem zqd {vs:List VarD} (a:c<vs.length):(bk vs c).2=vs[vs.length - 1 - c]:=by
 unfold bk;rw[List.getElem?_eq_getElem oA,Option.getD_some]
theorem zm6 {vs:List VarD} (e:c<=vs.length) (b:cE i (upto (bk vs) c)) (a:Nat) (hi:a<vs.length) (d:vs.length<=a+c):eqS vs[a].name i=X:=by
 have:=b (bk vs (vs.length - 1 - a)) (by unfold upto;exact List.mem_map.2 ⟨_,List.mem_range.2 oA,rfl⟩);rw[zqd oA]at this;simpa[show vs.length - 1 - (vs.length - 1 - a)=a by omega] using this
theorem zsn {vs:List VarD} {g:List (Nat × VarD)} {b:Nat × VarD} (l:c<=vs.length) (a:upto (bk vs) c=g++[b]) (e:cE i g) (f:eqS b.2.name i=H):dP vs i=Z b.2:=by
 cases c with
 | zero=>exact absurd a (by unfold upto;simp)
 | succ c =>
  rw[upto_succ]at a;have d:=List.append_inj' a rfl;have h:bk vs c=b:=by have:=d.2;simp only[jq,and_true]at this;exact this
  rw[<- d.1]at e;rw[<- h,zqd oA]at f |-;unfold dP;rw[zjv (j:=vs.length - 1 - c) oA (fun k hi a=>zm6 oA e k hi oA) f]
theorem zsm {vs:List VarD} (a:cE i (upto (bk vs) vs.length)):dP vs i=F:=by
 unfold dP;exact zhk (fun b hi=>zm6 (jE _) a b hi oA)
theorem zj6 (d:kT i):(zR i).size<=maxLen:=by
 have h:=zes d;rcases zek d with⟨_,b,_⟩|⟨a,g,f,_,_,_,b,_⟩
 ·rw[b];exact jz _
 ·rw[b];have c:i.size=i.data.toList.length:=rfl;rw[f]at c;have e:ByteArray.size ⟨a.toArray⟩=a.length:=by simp[ByteArray.size]
  rw[e];simp at c;unfold maxLen;omega
theorem zcc {w a:Zw} (f:Below c w a) (i:c<=d) {h:Obj} (b:Obj) (g:a.heap[d]?=Z h):Below c w (a.putObj d b):=f.trans ((Below.refl c a).grown (grownBy_putObj' a d b) (by have:=(Array.getElem?_eq_some_iff.1 g).1;omega) (fun j e=>by cases e;omega))
theorem zpf (a b c:Zv) (w:Zw):(Instr.field 38 (Za #[a,b,c]) 1).run prog w=.ok b w:=oD
theorem kP.result {v:VarD} {b c d e f h:Zv} (j:List Zv) (a:Nat) (i:kP g a v):(results f141 (List.toArray (b :: c :: d :: e :: f :: h :: Zp (Z (A a 0 F)) :: j))).run prog g=.ok (qC v) g:=by
 obtain⟨k,l,m,n,o⟩:=i.cells;unfold qC;simp[results,f141,go_sem,k,l,m,n]
theorem zq9 (D Kb kn:Nat) (kf:ByteArray->Option FV) (vs:List VarD) (u:Zv) (a:ByteArray) (at_:Int) (w:Zw) (an:w.cell? (A D 5 F)=Z (.map (Z Kb))) (d1:w.cell? (A D 6 F)=Z u) (ay:kZ w Kb kn (fun a9=>fvO (kf a9))) (aZ:∀a9 s,kf a9=Z s->qX w (fvV s) s.1) (bm:gX w.heap.size w u vs) (bZ:vs.length<=1000) (aG:kT a) (b0:uH w) : CallsIn Fence.wide 3 prog 141 #[Zp (Z (A D 0 F)),I a,U O at_] w fun i w'=>VP (xD kf vs a) at_ w i w':=by
 obtain⟨l,ad⟩:∃l,Hid (xD kf vs a=l):=⟨_,rfl⟩
 rw[ad.out];have bE:prog.cellsOf 38=3:=xG;have cB:prog.cellsOf 52=4:=cell4;have aB:D<w.heap.size:=jR w (A D 5 F) an;obtain⟨ua,uc,rfl,d4⟩:=id bm;refine callsIn_of_wp_marks func141 rfl trivial ?_ rfl;simp only[ntmps141,List.size_toArray,jd,je,Nat.reduceAdd,Nat.reduceSub,Array.replicate_succ,Array.replicate_zero,List.push_toArray,List.append_toArray,js,jK]
 gi_wp2_with (refine⟨trivial,?_⟩;gi_at_call 158;refine(zw9 Fence.wide 2 trivial rfl _ _ _ _).mono ?_;rintro i w' ⟨rfl,rfl⟩)
 have bb:Boxed (((w.alloc (Zc #[I a] 9)).alloc (Zc #[I ⟨#[]⟩,Y X,U O 0,U O 0] 52)).alloc (Zc #[J ua vs.length uc] 35)) w.heap.size 9 (I a):=((Boxed.new w 9 (I a)).alloc _).alloc _
 have ba:kP (((w.alloc (Zc #[I a] 9)).alloc (Zc #[I ⟨#[]⟩,Y X,U O 0,U O 0] 52)).alloc (Zc #[J ua vs.length uc] 35)) (w.heap.size+1) yN:=by
  have:=(kP.new (w.alloc (Zc #[I a] 9)) yN).alloc (Zc #[J ua vs.length uc] 35);rw[jO]at this;exact this
 have b9:Boxed (((w.alloc (Zc #[I a] 9)).alloc (Zc #[I ⟨#[]⟩,Y X,U O 0,U O 0] 52)).alloc (Zc #[J ua vs.length uc] 35)) (w.heap.size+1+1) 35 (J ua vs.length uc):=by
  have:=Boxed.new ((w.alloc (Zc #[I a] 9)).alloc (Zc #[I ⟨#[]⟩,Y X,U O 0,U O 0] 52)) 35 (J ua vs.length uc);rw[jO,jO]at this;exact this
 have K:Below w.heap.size w (((w.alloc (Zc #[I a] 9)).alloc (Zc #[I ⟨#[]⟩,Y X,U O 0,U O 0] 52)).alloc (Zc #[J ua vs.length uc] 35)):=(((Below.refl _ w).alloc (jE _) _).alloc oB _).alloc oE _;have bn:=(bm.below K).mono (n₁:=w.heap.size+1+1+1) oA;have c7:(((w.alloc (Zc #[I a] 9)).alloc (Zc #[I ⟨#[]⟩,Y X,U O 0,U O 0] 52)).alloc (Zc #[J ua vs.length uc] 35)).heap.size=w.heap.size+1+1+1:=oB;obtain⟨aR,bR⟩:∃aR,((w.alloc (Zc #[I a] 9)).alloc (Zc #[I ⟨#[]⟩,Y X,U O 0,U O 0] 52)).alloc (Zc #[J ua vs.length uc] 35)=aR:=⟨_,rfl⟩
 rw[bR]at bb ba b9 K bn c7 |-
 refine wpIn_rangeFunc_ownH rfl oA (gf:=165) (lb:=#[Zp (Z (A (w.heap.size+1+1) 0 F))]) rfl trivial (enters_of func165 oD rfl)
  (zr4 Fence.wide 2 trivial rfl oA (w.heap.size+1+1) (w.heap.size+1+1+1) _ vs bZ aR oA oA b9.cell bn) belowK_t (belowK_b oA) (Below.refl _ _) (fun _=>rfl)
  (fun C h=>(Boxed h w.heap.size 9 (I a)/\kP h (w.heap.size+1) yN)/\(Below w.heap.size w h/\(cE a C/\w.heap.size+1+1+1<=h.heap.size)))
  (fun aU C h=>kP h (w.heap.size+1) (((C.getLast?).map (·.2)).getD yN)/\(Below w.heap.size w h/\(aU=.ret/\∃b6 d,C=b6++[d]/\cE a b6/\eqS d.2.name a=H)))
  ?hI ?hIx ?h0
  (fun d aS h=>∃ag,w.heap.size+1+1+1<=ag/\kP h ag d.2/\aS={ tmps:=#[Zp (Z (A D 0 F)),I a,U O at_,undef,Zp (Z (A w.heap.size 0 F)),undef,Zp (Z (A (w.heap.size+1) 0 F)),undef,Zp (Z (A ag 0 F)),undef,undef,undef,undef,Zp (Z (A D 0 F)),Zp (Z (A D 0 F)),Zp (Z (A D 6 F)),J ua vs.length uc,.func (.func 165) #[] #[Zp (Z (A (w.heap.size+1+1) 0 F))],U O (d.1:Int),Za #[I d.2.name,Y d.2.pub,U O d.2.label,U O d.2.size],undef,undef,undef,undef,undef,undef,undef,undef,undef,undef,undef,undef,undef,undef,undef,undef,undef,undef,undef,undef,undef,undef,undef,undef,undef,undef,undef,undef,undef,undef,undef],defers:=[] }) ?hAx ?assign ?body ?done ?stop
 case hI =>
  refine OwnFrom.and (Own.from (fun aH aa ab row L a5 a6=>?_) _) (OwnFrom.and (ownFrom_below (jE _) oA) (fun aH aa ab row L a5 a6=>⟨L.1,jp L.2 a5.size⟩));exact⟨boxed_own w.heap.size 9 (fun _:Unit=>I a) () aa ab row L.1 a5 a6,zef (w.heap.size+1) (fun _:Unit=>yN) () aa ab row L.2 a5 a6⟩
 case hIx =>
  intro aU;refine OwnFrom.and (Own.from (fun aH aa ab row L a5 a6=>?_) _) (OwnFrom.and (ownFrom_below (jE _) oA) (fun aH aa ab row L a5 a6=>L));exact zef (w.heap.size+1) (fun C:List (Nat × VarD)=>((C.getLast?).map (·.2)).getD yN) aH aa ab row L a5 a6
 case h0=>exact⟨⟨bb,ba⟩,K,(fun d b1=>by cases b1),oA⟩
 case hAx =>
  intro d aS;refine Own.from (fun aH aa ab row L a5 a6=>?_) _
  obtain⟨ag,ae,af,bF⟩:=L;exact⟨ag,ae,zef ag (fun _:Unit=>d.2) () aa ab row af a5 a6,bF⟩
 case assign =>
  rintro cc C d h cA ⟨⟨aj,Q⟩,f,ap,aC⟩ bG;have d3:=Q.lt;unfold zd2 qC;dsimp only;simp only[List.zip_toArray,List.zip_cons_cons,List.zip_nil_right,List.foldl_toArray,List.foldl_cons,List.foldl_nil,List.setIfInBounds_toArray,List.set_cons_zero,List.set_cons_succ]
  gi_wp2
  exact bG _ _ ((KeepsOthers.alloc _ _).from _) ((Below.refl _ h).alloc aC _) ⟨⟨aj.alloc _,Q.alloc _⟩,f.alloc f.size _,ap,oE⟩ ⟨h.heap.size,aC,kP.new h d.2,rfl⟩
 case body =>
  rintro cc C d aS h z ⟨dj,a6⟩ ⟨⟨aj,Q⟩,f,ap,aC⟩ ⟨ag,d2,bz,rfl⟩ T;obtain⟨cv,cw,cx,cy,cz⟩:=bz.cells;obtain⟨cd,ce,cf,cg,a8⟩:=Q.cells;have b2:=aj.cell;have ch:=a8 0;have ci:=a8 1;have cj:=a8 2;have ck:=a8 3;cases y:eqS d.2.name a
  ·have R:(d.2.name.toList==a.toList)=X:=y
   have ai:Hid (cE a (C++[d])):=fun a9 B=>by
    rw[List.mem_append]at B;rcases B with B | B
    ·exact ap a9 B
    ·simp only[jy]at B;subst B;exact y
   gi_wp2
   exact⟨(KeepsOthers.refl _).from _,Below.refl _ _,⟨aj,Q⟩,f,ai.out,aC⟩
  ·have R:(d.2.name.toList==a.toList)=H:=y;have ai:Hid (cE a C):=ap;have HP:Hid (kP ((((h.setCell (A (w.heap.size+1) 0 F) (I d.2.name)).setCell (A (w.heap.size+1) 1 F) (Y d.2.pub)).setCell (A (w.heap.size+1) 2 F) (U O d.2.label)).setCell (A (w.heap.size+1) 3 F) (U O d.2.size)) (w.heap.size+1) d.2):=Q.put d.2
   gi_wp2
   refine⟨((((KeepsOthers.setCell _ _ _).trans (KeepsOthers.setCell _ _ _)).trans (KeepsOthers.setCell _ _ _)).trans (KeepsOthers.setCell _ _ _)).from _,?_,(((f.setCell (Nat.le_succ _) _).setCell (Nat.le_succ _) _).setCell (Nat.le_succ _) _).setCell (Nat.le_succ _) _,rfl,C,d,rfl,ai.out,y⟩;rw[List.getLast?_append];exact HP.out
 case done =>
  rintro j cu h bi bN ⟨⟨aj,Q⟩,f,ap,aC⟩ S;have b2:=aj.cell;have W:=zpp a h aG (zan b0 f);have aD:(zR a).size<=maxLen:=zj6 aG;have bq:dP vs a=F:=by rw[show cu=_ from bN]at ap;exact zsm ap
  have bS:=S
  cases q:kf (zR a)with
  | none =>
   gi_wp2_with (refine⟨trivial,?_⟩;gi_at_call 159;refine((callsIn_wide (n:=2)).2 W).mono ?_;rintro i w' ⟨rfl,g⟩;have aX:w'.cell? (A D 5 F)=Z (.map (Z Kb)):=(f.trans (g.mono f.size)).cell (p:=(A D 5 F)) aB |>.trans an;have z:=(ay.below (f.trans (g.mono f.size))).look (zR a) aD;rw[q]at z;simp only[fvO,Option.map_none,Option.getD_none,vH]at z;have au:=zpf (I ⟨#[]⟩) (J F 0 0) (J F 0 0) w')
   have N:Hid (l=F):=by
    show _=_;rw[<- ad.out];unfold xD;rw[bq,q]
   have ac:Hid (Below w.heap.size w w'):=f.trans (g.mono f.size);have aA:Hid (w'.heap[j]?=Z (.deferred (Z []))):=(g.block j (Array.getElem?_eq_some_iff.1 S).1).trans S;clear z au W q g
   gi_loopw [38] (fun M wr=>M=U O 0/\wr=w') (fun _ _=>0)
   case atStart=>exact⟨rfl,rfl⟩
   case round =>
    obtain⟨rfl,rfl⟩:=hrel
    gi_wp2_with (refine⟨trivial,?_⟩;gi_at_call 87;refine((callsIn_wide (n:=2)).2 (vD 4 at_ wr)).mono ?_;rintro i t ⟨rfl,rfl⟩)
    refine⟨oB,.inl ⟨_,_,rfl,run_takeDeferred aA.out,?_⟩⟩;refine⟨zcc ac.out oA _ aA.out,?_⟩
    rw[N.out]
  | some s =>
   have ao:=(aZ _ s q).below f
   have ax:Hid (l=gW s.1.vars (yJ a)):=by
    show _=_;rw[<- ad.out];unfold xD;rw[bq,q]
   have o:=fun P az=>(ay.below az:kZ P _ _ _).look (zR a) aD
   rw[q]at o;simp only[fvO,Option.map_some,Option.getD_some]at o;obtain⟨aJ,aV,aT,aW,aE⟩:=bA ao;obtain⟨_,_,ak,bP,_⟩:=id ao;rw[aE]at o ak;have G:_=_:=ak;unfold fvV at G o;injection G with G;simp only[Array.mk.injEq,jq,and_true,true_and]at G;obtain⟨rfl,rfl⟩:=G;clear ak aE ao;dsimp only at o;generalize s.1=c at *;obtain⟨_,_,am,ca,aF⟩:=bP;injection am with am _ ee4;obtain rfl:=am;obtain rfl:=ee4
   gi_wp2_with (refine⟨trivial,?_⟩;gi_at_call 159;refine((callsIn_wide (n:=2)).2 W).mono ?_;rintro i w' ⟨rfl,g⟩;have aX:w'.cell? (A D 5 F)=Z (.map (Z Kb)):=(f.trans (g.mono f.size)).cell (p:=(A D 5 F)) aB |>.trans an;have z:=o w' (f.trans (g.mono f.size));have au:=zpf (I c.module) (J aJ c.vars.length aV) (J aT c.procs.length aW) w')
   have bs:c.vars≠[]->∃V a7,aJ=Z (A V a7 F)/\∀(P:Zw),Below w'.heap.size w' P->∀b (x:b<c.vars.length),P.cell? (A V (a7+b*4) F)=Z (I c.vars[b].name)/\P.cell? (A V (a7+b*4+1) F)=Z (Y c.vars[b].pub)/\P.cell? (A V (a7+b*4+2) F)=Z (U O c.vars[b].label)/\P.cell? (A V (a7+b*4+3) F)=Z (U O c.vars[b].size):=fun aw=>by
    obtain⟨V,a7,av,R⟩:=aF aw;refine⟨V,a7,av,fun P az b hi=>?_⟩;obtain⟨aL,av,aM,aN⟩:=R b hi;have aO:=g.trans (az.mono g.size);exact⟨keep aL aO,keep av aO,keep aM aO,keep aN aO⟩
   have ac:Hid (Below w.heap.size w w'):=f.trans (g.mono f.size);have aA:Hid (w'.heap[j]?=Z (.deferred (Z []))):=(g.block j (Array.getElem?_eq_some_iff.1 S).1).trans S;have aP:kP w' (w.heap.size+1) yN:=Q.below g Q.lt;have cb:=g.size;have bj:j<w'.heap.size:=jo (Array.getElem?_eq_some_iff.1 S).1 cb;generalize yJ a=r at *;clear z o au W q g aF f S bS aj Q b2
   gi_loopw [38] (fun M wr=>∃e:Nat,e<=c.vars.length/\M=U O e/\Hid (∀b (hi:b<c.vars.length),b<e->eqS c.vars[b].name r=X)/\Below w'.heap.size w' wr) (fun M _=>c.vars.length - (intOf M).toNat)
   case atStart=>exact⟨0,jz _,rfl,fun b hi x=>absurd x oA,Below.refl _ _⟩
   case round =>
    obtain⟨e,bX,rfl,N,a3⟩:=hrel;have ar:Hid (Below w'.heap.size w' wr):=a3;by_cases T:e<c.vars.length
    ·obtain⟨V,a7,rfl,bo⟩:=bs (by intro i;rw[i]at T;simp at T);obtain⟨de,df,dh,di⟩:=bo wr a3 e T;have B:kP wr (w.heap.size+1) yN:=aP.below a3 (by have:=aP.lt;omega)
     have ah:Hid (∀m,eqS c.vars[e].name r=m->m=H->l=Z c.vars[e]):=fun m ae af=>by
      rw[ax.out];unfold gW;exact cV T (fun b hi x=>N.out b hi x) (ae.trans af)
     have HS:Hid (∀m,eqS c.vars[e].name r=m->m=X->∀b (hi:b<c.vars.length),b<e+1->eqS c.vars[b].name r=X):=fun m ae af b hi x=>by
      exact oz16x147
     clear bo bs;generalize c.vars[e]=v at *;cases y:eqS v.name r
     ·have R:(v.name.toList==r.toList)=X:=y;have b8:=HS.out _ y rfl;clear HS ah
      gi_wp2
      exact oz16x149
     ·have R:(v.name.toList==r.toList)=H:=y;have aQ:Hid (l=Z v):=ah.out _ y rfl;clear HS ah;have bu:=B.alloc (Zc #[I v.name,Y v.pub,U O v.label,U O v.size] 52);obtain⟨cd,ce,cf,cg,a8⟩:=bu.cells;have ch:=a8 0;have ci:=a8 1;have cj:=a8 2;have ck:=a8 3;have aw:j≠w.heap.size+1:=oA;have HP:Hid (kP (((((wr.alloc (Zc #[I v.name,Y v.pub,U O v.label,U O v.size] 52)).setCell (A (w.heap.size+1) 0 F) (I v.name)).setCell (A (w.heap.size+1) 1 F) (Y v.pub)).setCell (A (w.heap.size+1) 2 F) (U O v.label)).setCell (A (w.heap.size+1) 3 F) (U O v.size)) (w.heap.size+1) v):=bu.put v
      have b7:Hid ((((((wr.alloc (Zc #[I v.name,Y v.pub,U O v.label,U O v.size] 52)).setCell (A (w.heap.size+1) 0 F) (I v.name)).setCell (A (w.heap.size+1) 1 F) (Y v.pub)).setCell (A (w.heap.size+1) 2 F) (U O v.label)).setCell (A (w.heap.size+1) 3 F) (U O v.size)).heap[j]?=Z (.deferred (Z []))) :=
       (jP _ (A (w.heap.size+1) 3 F) _ j aw).trans ((jP _ (A (w.heap.size+1) 2 F) _ j aw).trans ((jP _ (A (w.heap.size+1) 1 F) _ j aw).trans ((jP _ (A (w.heap.size+1) 0 F) _ j aw).trans (((ar.out.alloc ar.out.size _).block j bj).trans aA.out))))
      have bv:Hid (Below w.heap.size w (((((wr.alloc (Zc #[I v.name,Y v.pub,U O v.label,U O v.size] 52)).setCell (A (w.heap.size+1) 0 F) (I v.name)).setCell (A (w.heap.size+1) 1 F) (Y v.pub)).setCell (A (w.heap.size+1) 2 F) (U O v.label)).setCell (A (w.heap.size+1) 3 F) (U O v.size))) :=
       ((((ac.out.trans ((ar.out.alloc ar.out.size _).mono ac.out.size)).setCell (Nat.le_succ _) _).setCell (Nat.le_succ _) _).setCell (Nat.le_succ _) _).setCell (Nat.le_succ _) _
      gi_wp2
      generalize (((((wr.alloc (Zc #[I v.name,Y v.pub,U O v.label,U O v.size] 52)).setCell (A (w.heap.size+1) 0 F) (I v.name)).setCell (A (w.heap.size+1) 1 F) (Y v.pub)).setCell (A (w.heap.size+1) 2 F) (U O v.label)).setCell (A (w.heap.size+1) 3 F) (U O v.size))=bw at *;refine⟨oB,.inl ⟨_,_,rfl,run_takeDeferred b7.out,?_⟩⟩;have bD:kP (bw.putObj j (.deferred F)) (w.heap.size+1) v:=(World.putObj_heap_other (k:=w.heap.size+1) oA).trans HP.out;refine⟨qC v,bD.result _ _,zcc bv.out oA _ b7.out,?_⟩;rw[aQ.out]
    ·obtain rfl:e=c.vars.length:=oA
     have ai:Hid (l=F):=by
      show _=_;rw[ax.out];unfold gW;exact zav fun b hi=>N.out b hi hi
     have bp:Hid (wr.heap[j]?=Z (.deferred (Z []))):=(a3.block j bj).trans aA.out;have E:Hid (Below w.heap.size w wr):=ac.out.trans (a3.mono ac.out.size)
     gi_wp2_with (refine⟨trivial,?_⟩;gi_at_call 87;refine((callsIn_wide (n:=2)).2 (vD 4 at_ wr)).mono ?_;rintro i t ⟨rfl,rfl⟩)
     refine⟨oB,.inl ⟨_,_,rfl,run_takeDeferred bp.out,?_⟩⟩;refine⟨zcc E.out oA _ bp.out,?_⟩;rw[ai.out]
 case stop =>
  rintro j aU C h bi ⟨dd,bY,rfl⟩ ⟨aK,f,rfl,b6,d,i,c6,b1⟩ S;rw[i]at aK;simp only[List.getLast?_append,List.getLast?_singleton,Option.some_or,Option.map_some,Option.getD_some]at aK;obtain⟨cv,cw,cx,cy,cz⟩:=aK.cells;have ac:=zcc f (jp oA bi) (.deferred F) S;have bc:kP (h.putObj j (.deferred F)) (w.heap.size+1) d.2:=(World.putObj_heap_other (k:=w.heap.size+1) oA).trans aK;obtain⟨dp,dq,dr,ds,dt⟩:=bc.cells
  gi_wp2
  refine⟨oB,.inl ⟨_,_,rfl,run_takeDeferred S,?_⟩⟩;refine⟨qC d.2,?_,ac,?_⟩;·exact bc.result _ _
  ·have c9:l=Z d.2:=by
    rw[<- ad.out];unfold xD;rw[zsn bY i c6 b1]
   rw[c9]
theorem zue (D Kb kn:Nat) (kf:ByteArray->Option FV) (vs:List VarD) (u:Zv) (a:ByteArray) (at_:Int) (w:Zw) (e:w.cell? (A D 5 F)=Z (.map (Z Kb))) (f:w.cell? (A D 6 F)=Z u) (g:kZ w Kb kn (fun c=>fvO (kf c))) (i:∀c b,kf c=Z b->qX w (fvV b) b.1) (h:gX w.heap.size w u vs) (j:vs.length<=1000) (l:kT a) (k:uH w) : Calls prog 141 #[Zp (Z (A D 0 F)),I a,U O at_] w fun d w'=>VP (xD kf vs a) at_ w d w' :=
 (callsIn_wide (n:=3)).1 (zq9 D Kb kn kf vs u a at_ w e f g i h j l k)
def vZ (kf:ByteArray->Option FV) (x:ByteArray):Option ProcD:=match kf (zR x)with
 | some q=>zbu q.1.procs (yJ x)
 | none=>F
def PP (o:Option ProcD) (a:Int) (w:Zw) (e:Ending) (w':Zw):Prop:=Below w.heap.size w w'/\match o with
 | some p=>∃u,e=.returned (qR p u)/\IntsIn w' u p.params
 | none=>e=.panicked (qI 4 a)
theorem zms {b:Option ProcD} {a:Int} {w w':Zw} (c:b=F) (d:Below w.heap.size w w'):PP b a w (.panicked (qI 4 a)) w':=by rw[c];exact⟨d,rfl⟩
theorem zw7 {c:Option ProcD} {p:ProcD} {u:Zv} {a:Int} {b:Ending} {w w':Zw} (d:c=Z p) (e:Below w.heap.size w w') (f:b=.returned (qR p u)) (g:IntsIn w' u p.params):PP c a w b w':=by rw[d];exact⟨e,u,f,g⟩
theorem zm1 (a c b:Zv) (w:Zw):(Instr.field 38 (Za #[a,c,b]) 2).run prog w=.ok b w:=oD
theorem zsr (D Kb kn:Nat) (kf:ByteArray->Option FV) (a:ByteArray) (at_:Int) (w:Zw) (an:w.cell? (A D 5 F)=Z (.map (Z Kb))) (ay:kZ w Kb kn (fun a9=>fvO (kf a9))) (aZ:∀a9 s,kf a9=Z s->qX w (fvV s) s.1) (aG:kT a) (b0:uH w) : Calls prog 142 #[Zp (Z (A D 0 F)),I a,U O at_] w fun i w'=>PP (vZ kf a) at_ w i w':=by
 obtain⟨l,ad⟩:∃l,Hid (vZ kf a=l):=⟨_,rfl⟩
 rw[ad.out];have bE:prog.cellsOf 38=3:=xG;have d0:prog.cellsOf 57=6:=vA;have aB:D<w.heap.size:=jR w (A D 5 F) an;have aD:(zR a).size<=maxLen:=zj6 aG;have K:Below w.heap.size w (w.alloc (Zc #[I ⟨#[]⟩,Y X,J F 0 0,U O 0,Y X,U O 0] 57)):=bal _;have aY:=Box6.new w (I ⟨#[]⟩) (Y X) (J F 0 0) (U O 0) (Y X) (U O 0) 57;have W:=zpp a _ aG (zan b0 K)
 cases q:kf (zR a)with
 | none =>
  have N:Hid (l=F):=by
   show _=_;rw[<- ad.out];unfold vZ;rw[q]
  go_enter func142,ntmps142;go_wp2_with (go_at_call 159;refine W.mono ?_;rintro i t ⟨rfl,g⟩;have a2:=K.trans (g.mono K.size);have aX:t.cell? (A D 5 F)=Z (.map (Z Kb)):=(a2.cell (p:=(A D 5 F)) aB).trans an;have z:=(ay.below a2).look (zR a) aD;rw[q]at z;simp only[fvO,Option.map_none,Option.getD_none,vH]at z;have au:=zm1 (I ⟨#[]⟩) (J F 0 0) (J F 0 0) t);have aI:Hid (Below w.heap.size w t):=a2;clear z au W q g aY K a2;go_loopw [24] (fun M wr=>M=U O 0/\wr=t) (fun _ _=>0)
  case atStart=>exact⟨rfl,rfl⟩
  case round =>
   obtain⟨rfl,rfl⟩:=hrel;go_wp2_with (go_at_call 87;refine(vD 4 at_ wr).mono ?_;rintro i ct ⟨rfl,rfl⟩)
   exact⟨rfl,zms N.out aI.out⟩
 | some s =>
  have ao:=aZ _ s q
  have ax:Hid (l=zbu s.1.procs (yJ a)):=by
   show _=_;rw[<- ad.out];unfold vZ;rw[q]
  have o:=fun P az=>(ay.below az:kZ P _ _ _).look (zR a) aD
  rw[q]at o;simp only[fvO,Option.map_some,Option.getD_some]at o;obtain⟨aJ,aV,aT,aW,aE⟩:=bA ao;obtain⟨_,_,ak,_,bH⟩:=id ao;rw[aE]at o ak;have G:_=_:=ak;unfold fvV at G o;injection G with G;simp only[Array.mk.injEq,jq,and_true,true_and]at G;obtain⟨rfl,rfl⟩:=G;clear ak aE ao;dsimp only at o;generalize s.1=c at *;obtain⟨_,_,am,ca,aF⟩:=bH;injection am with am _ ee4;obtain rfl:=am;obtain rfl:=ee4;go_enter func142,ntmps142;go_wp2_with (go_at_call 159;refine W.mono ?_;rintro i t ⟨rfl,g⟩;have a2:=K.trans (g.mono K.size);have aX:t.cell? (A D 5 F)=Z (.map (Z Kb)):=(a2.cell (p:=(A D 5 F)) aB).trans an;have z:=o t a2;have au:=zm1 (I c.module) (J aJ c.vars.length aV) (J aT c.procs.length aW) t);have aI:Hid (Below w.heap.size w t):=a2;have aP:=aY.below g;generalize yJ a=r at *;clear z o au W q g aY K a2;go_loopw [24] (fun M wr=>∃e:Nat,e<=c.procs.length/\M=U O e/\Hid (∀b (hi:b<c.procs.length),b<e->eqS c.procs[b].name r=X)/\Below t.heap.size t wr) (fun M _=>c.procs.length - (intOf M).toNat)
  case atStart=>exact⟨0,jz _,rfl,fun b hi x=>absurd x oA,Below.refl _ _⟩
  case round =>
   obtain⟨e,bX,rfl,N,a3⟩:=hrel;have ar:Hid (Below t.heap.size t wr):=a3;have E:Hid (Below w.heap.size w wr):=aI.out.trans (a3.mono aI.out.size);by_cases T:e<c.procs.length
   ·obtain⟨V,a7,rfl,R⟩:=aF (by intro i;rw[i]at T;simp at T);obtain⟨aL,av,⟨u,aM,br⟩,aN,be,bf⟩:=R e T;have b2:=keep aL E.out;have d5:=keep av E.out;have d6:=keep aM E.out;have da:=keep aN E.out;have db:=keep be E.out;have dc:=keep bf E.out
    have ah:Hid (∀m,eqS c.procs[e].name r=m->m=H->l=Z c.procs[e]):=fun m ae af=>by
     rw[ax.out];exact cV T (fun b hi x=>N.out b hi x) (ae.trans af)
    have HS:Hid (∀m,eqS c.procs[e].name r=m->m=X->∀b (hi:b<c.procs.length),b<e+1->eqS c.procs[b].name r=X):=fun m ae af b hi x=>by
     exact oz16x147
    clear aL av aM aN be bf R aF;generalize c.procs[e]=v at *;have c8:=br;obtain⟨ua,uc,rfl,_,_⟩:=c8;have B:=aP.below a3;cases y:eqS v.name r;·have R:(v.name.toList==r.toList)=X:=y;have b8:=HS.out _ y rfl;clear HS ah B;go_wp2;exact oz16x149
    ·have R:(v.name.toList==r.toList)=H:=y;have aQ:Hid (l=Z v):=ah.out _ y rfl;clear HS ah;obtain⟨cm,cn,co,cp,cq,cr,dm,t7,t8,dn,dk,dl⟩:=B.alloc (Zc #[I v.name,Y v.pub,J ua v.params.length uc,U O v.writes,Y v.gives,U O v.given] 57);have bh:Below w.heap.size w (((((((wr.alloc (Zc #[I v.name,Y v.pub,J ua v.params.length uc,U O v.writes,Y v.gives,U O v.given] 57)).setCell (A w.heap.size 0 F) (I v.name)).setCell (A w.heap.size 1 F) (Y v.pub)).setCell (A w.heap.size 2 F) (J ua v.params.length uc)).setCell (A w.heap.size 3 F) (U O v.writes)).setCell (A w.heap.size 4 F) (Y v.gives)).setCell (A w.heap.size 5 F) (U O v.given)):=((((((E.out.alloc E.out.size _).setCell (jE _) _).setCell (jE _) _).setCell (jE _) _).setCell (jE _) _).setCell (jE _) _).setCell (jE _) _;go_wp2;refine jT (v:=qR v (J ua v.params.length uc)) (by simp[results,results142,go_sem,cm,cn,co,cp,cq,cr,qR]) rfl ?_;exact zw7 aQ.out bh rfl (br.below bh)
   ·obtain rfl:e=c.procs.length:=oA
    have ai:Hid (l=F):=by
     show _=_;rw[ax.out];exact zav fun b hi=>N.out b hi hi
    go_wp2_with (go_at_call 87;refine(vD 4 at_ wr).mono ?_;rintro i ct ⟨rfl,rfl⟩);exact⟨rfl,zms ai.out E.out⟩
structure KF where
 f:ByteArray->Option FV
 W:Zw
 M:Nat
 G:Zv
instance:Coe KF (ByteArray->Option FV):=⟨KF.f⟩
theorem IntsIn.mono {w w':Zw} (i:∀a v,w.cell? a=Z v->w'.cell? a=Z v) {v:Zv} {b:List Int} (g:IntsIn w v b):IntsIn w' v b:=by
 obtain⟨a,c,d,k,j⟩:=g;refine⟨a,c,d,k,fun l=>?_⟩;obtain⟨f,n,e,h⟩:=j l;exact⟨f,n,e,fun m hi=>i _ _ (h m hi)⟩
theorem qX.mono {w w':Zw} (b:∀a v,w.cell? a=Z v->w'.cell? a=Z v) {v:Zv} {i:FaceD} (p:qX w v i):qX w' v i:=by
 obtain⟨K,G,m,⟨a,k,n,D,B⟩,⟨j,l,o,E,C⟩⟩:=p;refine⟨K,G,m,⟨a,k,n,D,fun g=>?_⟩,⟨j,l,o,E,fun g=>?_⟩⟩;·obtain⟨f,h,e,c⟩:=B g;exact⟨f,h,e,fun d hi=>⟨b _ _ (c d hi).1,b _ _ (c d hi).2.1,b _ _ (c d hi).2.2.1,b _ _ (c d hi).2.2.2⟩⟩
 ·obtain⟨f,h,e,c⟩:=C g;refine⟨f,h,e,fun d hi=>?_⟩;obtain⟨q,r,⟨u,s,t⟩,x,y,z⟩:=c d hi;exact⟨b _ _ q,b _ _ r,⟨u,b _ _ s,IntsIn.mono b t⟩,b _ _ x,b _ _ y,b _ _ z⟩
structure CS (w0 w:Zw) (D Kb kn:Nat) (kf:KF) (vs:List VarD) (u:Zv) (a:Int):Prop where
 bs:Below w0.heap.size w0 w
 hD:w0.heap.size<=D
 c4:w.cell? (A D 4 F)=Z kf.G
 c5:w.cell? (A D 5 F)=Z (.map (Z Kb))
 c6:w.cell? (A D 6 F)=Z u
 c7:w.cell? (A D 7 F)=Z (U O a)
 fz:∀k,w.frozen? (A D k F)=X
 mp:kZ w Kb kn (fun z=>fvO (kf.f z))
 fi:∀z q,kf.f z=Z q->qX kf.W (fvV q) q.1
 fw:∀a v,kf.W.cell? a=Z v->a.block≠D/\a.block<kf.M/\w.cell? a=Z v
 fm:kf.M<=w.heap.size
 mM:w0.heap.size<=kf.M
 fu:∀b,u.ownBlock=Z b->kf.M<=b
 rl:w.ownsRow (D+1) 52 4 u vs.length (qW vs)
 nk:Kb≠D
 mx:uH w0
 nu:u.ownBlock≠Z Kb
section
variable {w0 w w':Zw} {D Kb kn:Nat} {kf:KF} {vs:List VarD} {u:Zv} {a:Int}
theorem CS.lt (b:CS w0 w D Kb kn kf vs u a):D<w.heap.size:=jR w (A D 5 F) b.c5
theorem CS.below (b:CS w0 w D Kb kn kf vs u a) (c:Below w.heap.size w w'):CS w0 w' D Kb kn kf vs u a :=
 ⟨b.bs.trans (c.mono b.bs.size),b.hD,(c.cell (p:=(A D 4 F)) b.lt).trans b.c4,(c.cell (p:=(A D 5 F)) b.lt).trans b.c5,(c.cell (p:=(A D 6 F)) b.lt).trans b.c6,(c.cell (p:=(A D 7 F)) b.lt).trans b.c7,fun e=>(jN (a:=(A D e F)) (c.block D b.lt)).trans (b.fz e),b.mp.below c,b.fi,fun p v d=>⟨(b.fw p v d).1,(b.fw p v d).2.1,(c.cell (p:=p) (jo (b.fw p v d).2.1 b.fm)).trans (b.fw p v d).2.2⟩,jp b.fm c.size,b.mM,b.fu,dY b.rl c,b.nk,b.mx,b.nu⟩
theorem CS.alloc (c:CS w0 w D Kb kn kf vs u a) (b:Obj):CS w0 (w.alloc b) D Kb kn kf vs u a:=c.below (bal b)
theorem CS.drew (b:CS w0 w D Kb kn kf vs u a):CS w0 w.drew D Kb kn kf vs u a:=b.below (Below.refl _ _).drew
theorem CS.other (c:CS w0 w D Kb kn kf vs u a) {b o:Nat} (j:b≠D) (k:b≠Kb) (l:u.ownBlock≠Z b) (g:kf.M<=b) (v:Zv):CS w0 (w.setCell (A b o F) v) D Kb kn kf vs u a :=
 have e:=jP w (A b o F) v D (fun d=>j d.symm)
 ⟨c.bs.setCell (jp c.mM g) _,c.hD,(jM (a:=(A D 4 F)) e).trans c.c4,(jM (a:=(A D 5 F)) e).trans c.c5,(jM (a:=(A D 6 F)) e).trans c.c6,(jM (a:=(A D 7 F)) e).trans c.c7,fun h=>(jN (a:=(A D h F)) e).trans (c.fz h),c.mp.setCell (fun d=>k d.symm) _,c.fi,fun p x f=>⟨(c.fw p x f).1,(c.fw p x f).2.1,(jM (a:=p) (jP w (A b o F) v p.block (fun d=>Nat.not_lt.2 g (by have i:p.block=b:=d;rw[<- i];exact(c.fw p x f).2.1)))).trans (c.fw p x f).2.2⟩,by rw[jQ];exact c.fm,c.mM,c.fu,jU c.rl l _,c.nk,c.mx,c.nu⟩
theorem CS.setAt (b:CS w0 w D Kb kn kf vs u a) (e:Int):CS w0 (w.setCell (A D 7 F) (U O e)) D Kb kn kf vs u e :=
 ⟨b.bs.setCell b.hD _,b.hD,(jD w (A D 7 F) (A D 4 F) _ oB).trans b.c4,(jD w (A D 7 F) (A D 5 F) _ oB).trans b.c5,(jD w (A D 7 F) (A D 6 F) _ oB).trans b.c6,World.cell?_setCell_same' _ _ _ (by rw[b.c7];rfl),fun g=>by rw[World.frozen?_setCell];exact b.fz g,b.mp.setCell b.nk _,b.fi,fun p d c=>⟨(b.fw p d c).1,(b.fw p d c).2.1,(jM (a:=p) (jP w (A D 7 F) _ p.block (b.fw p d c).1)).trans (b.fw p d c).2.2⟩,by rw[jQ];exact b.fm,b.mM,b.fu,jU b.rl (fun f=>by have h:D+1<=D:=(b.rl.lt _ f).1;omega) _,b.nk,b.mx,b.nu⟩
theorem CS.faces (c:CS w0 w D Kb kn kf vs u a) (d:ByteArray) (b:FV) (g:kf.f d=Z b):qX w (fvV b) b.1:=qX.mono (fun p v e=>(c.fw p v e).2.2) (c.fi d b g)
theorem CS.max (b:CS w0 w D Kb kn kf vs u a):uH w:=zan b.mx b.bs
theorem CS.grown (b:CS w0 w D Kb kn kf vs u a) {row:Option Nat} (e:w.grownBy w' row) (h:∀d,row=Z d->d≠D/\d≠Kb/\u.ownBlock≠Z d/\kf.M<=d):CS w0 w' D Kb kn kf vs u a:=by
 have f:=e.block D b.lt (fun c=>(h D c.symm).1 rfl);refine⟨b.bs.grown e b.bs.size (fun j c=>jp b.mM (h j c).2.2.2),b.hD,(jM (a:=(A D 4 F)) f).trans b.c4,(jM (a:=(A D 5 F)) f).trans b.c5,(jM (a:=(A D 6 F)) f).trans b.c6,(jM (a:=(A D 7 F)) f).trans b.c7,fun j=>(jN (a:=(A D j F)) f).trans (b.fz j),b.mp.kept e (fun c=>(h Kb c.symm).2.1 rfl),b.fi,fun p i g=>⟨(b.fw p i g).1,(b.fw p i g).2.1,(jM (a:=p) (e.block p.block (jo (b.fw p i g).2.1 b.fm) (fun c=>Nat.not_lt.2 (h _ c.symm).2.2.2 (b.fw p i g).2.1))).trans (b.fw p i g).2.2⟩,jp b.fm e.size,b.mM,b.fu,b.rl.kept e ?_,b.nk,b.mx,b.nu⟩
 cases c:u.ownBlock with
 | none=>exact .inl rfl
 | some d=>exact .inr (fun k=>(h d k.symm).2.2.1 c)
theorem CS.put4 (g:CS w0 w D Kb kn kf vs u a) {b:Nat} (c:b≠D) (d:b≠Kb) (e:u.ownBlock≠Z b) (f:kf.M<=b) (h i j k:Zv):CS w0 ((((w.setCell (A b 0 F) h).setCell (A b 1 F) i).setCell (A b 2 F) j).setCell (A b 3 F) k) D Kb kn kf vs u a :=
 (((g.other c d e f _).other c d e f _).other c d e f _).other c d e f _
theorem CS.variable (b:CS w0 w D Kb kn kf vs u a) (e:vs.length<=1000) {c:ByteArray} (g:kT c) (at_:Int) : Calls prog 141 #[Zp (Z (A D 0 F)),I c,U O at_] w fun d w'=>VP (xD kf vs c) at_ w d w' :=
 zue D Kb kn kf.f vs u c at_ w b.c5 b.c6 b.mp b.faces (zwr b.rl) e g b.max
theorem CS.procedure (b:CS w0 w D Kb kn kf vs u a) {c:ByteArray} (e:kT c) (at_:Int) : Calls prog 142 #[Zp (Z (A D 0 F)),I c,U O at_] w fun d w'=>PP (vZ kf c) at_ w d w' :=
 zsr D Kb kn kf.f c at_ w b.c5 b.mp b.faces e b.max
theorem CS.begin (b:CS w0 w D Kb kn kf vs u a) (d:0<=a) (e:a<=1000000) : Calls prog 49 #[Zp (Z (A D 0 F))] w fun c w'=>c=.returned (U O a)/\w'=w.setCell (A D 7 F) (U O (a+1)) :=
 zpn D a w b.c7 (b.fz 7) d e
end
theorem gR {d a c:Nat} {w b:Zw} (f:Fr d w b) (g:w.heap.size<=a) (v:Zv):Fr d w (b.setCell (A a c F) v) :=
 World.grownBy.andThen f (Go.Lib.grownBy_setCell b a c v) (fun h e=>by cases e;exact .inl g)
theorem zfz {c b:Nat} {w d:Zw} (e:Fr c w d) (a:w.heap.size<=b) (f g h i:Zv):Fr c w ((((d.setCell (A b 0 F) f).setCell (A b 1 F) g).setCell (A b 2 F) h).setCell (A b 3 F) i) :=
 gR (gR (gR (gR e a _) a _) a _) a _
def EX (w0:Zw) (D Kb kn:Nat) (kf:KF) (vs:List VarD) (u:Zv) (w:Zw) (r:Res (Int × Int)) (e:Ending) (w':Zw):Prop:=match r with
 | .bad c b=>e=.panicked (qI c b)/\Below w0.heap.size w0 w'
 | .ok q=>e=.returned (U O q.1)/\CS w0 w' D Kb kn kf vs u q.2/\Fr D w w'
def plP (kf:ByteArray->Option FV) (vs:List VarD) (k:Int) (x:ByteArray) (a:Int):Res (List Int × Int)->Res (VarD × Int × Int)
 | .bad c b=>.bad c b
 | .ok q=>match xD kf vs x with
  | none=>.bad 4 a
  | some v=>if decide (0<v.size)=(k==17)then .ok (v,q.1.getLast?.getD 0,q.2)else .bad 3 a
def PL (w0:Zw) (D Kb kn:Nat) (kf:KF) (vs:List VarD) (u:Zv) (w:Zw) (r:Res (VarD × Int × Int)) (e:Ending) (w':Zw):Prop:=match r with
 | .bad c b=>e=.panicked (qI c b)/\Below w0.heap.size w0 w'
 | .ok q=>e=.returned (.tuple #[qC q.1,U O q.2.1])/\CS w0 w' D Kb kn kf vs u q.2.2/\Fr D w w'
theorem zwn {a:Zw} {v:VarD} {d e f g h i c:Zv} (k:List Zv) (b:Nat) (j:kP a b v):(results f127 (List.toArray (d :: e :: f :: g :: h :: i :: Zp (Z (A b 0 F)) :: c :: k))).run prog a=.ok (.tuple #[qC v,c]) a:=by
 obtain⟨l,m,n,o,p⟩:=j.cells;unfold qC;simp[results,f127,go_sem,l,m,n,o]
section
variable {w0:Zw} {D Kb kn:Nat} {kf:KF} {vs:List VarD} {u:Zv}
theorem PL.mkBad {w w':Zw} {c:Res (VarD × Int × Int)} {b a:Int} (d:c=.bad b a) (e:Below w0.heap.size w0 w'):PL w0 D Kb kn kf vs u w c (.panicked (qI b a)) w':=by rw[d];exact⟨rfl,e⟩
theorem PL.mkOk {w w':Zw} {d:Res (VarD × Int × Int)} {v:VarD} {c a:Int} {b:Ending} (e:d=.ok (v,c,a)) (g:b=.returned (.tuple #[qC v,U O c])) (f:CS w0 w' D Kb kn kf vs u a) (h:Fr D w w'):PL w0 D Kb kn kf vs u w d b w':=by rw[e];exact⟨g,f,h⟩
theorem zg0 (E:Env) (h:List Loc) (b8:vs.length<=1000) (i:Int) (q:ByteArray) (N:Int) (b:List Tree) (v:Zv) (w:Zw) (f at_:Int) (aK:∀P∈b,ExT P) (b9:kT q) (aL:Lies (·<w0.heap.size) w0 (.node i q N b) v) (m:CS w0 w D Kb kn kf vs u at_) (aU:0<=at_) (bz:at_+1+kA b<=1000000) (ih:∀c (aZ:c<b.length) (v:Zv) (w:Zw) (at_:Int),ExT b[c]->Lies (·<w0.heap.size) w0 b[c] v->CS w0 w D Kb kn kf vs u at_->0<=at_->at_+kC b[c]<=1000000 -> Calls prog 106 #[Zp (Z (A D 0 F)),v,U O f] w fun d w'=>EX w0 D Kb kn kf vs u w (exF E h f X b[c] at_) d w') : Calls prog 127 #[Zp (Z (A D 0 F)),v,U O f] w fun d w'=>PL w0 D Kb kn kf vs u w (plP kf vs i q at_ (exL E h f b (at_+1))) d w':=by
 have bo:=kc25;have bp:prog.cellsOf 52=4:=cell4;unfold Lies at aL;obtain⟨a,s,rfl,bv,ar⟩:=aL;have br:=kR b;have bu:=m.lt;have bw:=vQ b;obtain⟨R,ao⟩:∃R,exL E h f b (at_+1)=R:=⟨_,rfl⟩
 rw[ao];have aN:Hid (exL E h f b (at_+1)=R):=ao;clear ao;obtain⟨r,aj⟩:∃r,Hid (plP kf vs i q at_ R=r):=⟨_,rfl⟩
 rw[aj.out];have an:=(m.alloc (Zc #[U O i,I q,U O N,J a b.length s] 25)).alloc (Zc #[I ⟨#[]⟩,Y X,U O 0,U O 0] 52);have aG:=an.begin aU oA;have bE:=m.fm;have bq:=m.mp.lt;have aw:∀j,u.ownBlock=Z j->j<w.heap.size:=fun j d=>(m.rl.lt _ d).2
 clear m;go_enter func127,ntmps127;go_wp2_with (go_at_call 49;refine aG.mono ?_;rintro d af ⟨rfl,M⟩;have W:CS w0 af D Kb kn kf vs u (at_+1):=by { rw[M];exact an.setAt _ };have C:Q4 w.heap.size (U O i) (I q) (U O N) (J a b.length s) af:=by { rw[M];exact Q4.other oA ⟨oB,oB,oB,oB⟩ _ _ };have aH:Fr D w af:=by { rw[M];exact(((Fr.refl _ _).alloc _).alloc _).set _ _ };have G:kP af (w.heap.size+1) yN:=by { rw[M];have:=kP.new (w.alloc (Zc #[U O i,I q,U O N,J a b.length s] 25)) yN;rw[jO]at this;exact(jP _ (A D 7 F) _ _ (by show w.heap.size+1≠D;omega)).trans this };clear M;obtain⟨ab,ac,ad,ae⟩:=id C);clear an aG ab ac ad ae;go_loopw [7,16] (fun a6 P wr=>∃(c:Nat) (o:List Int),c<=b.length/\P=U O c/\a6=U O (o.getLast?.getD 0)/\Fr D w wr/\w.heap.size+1+1<=wr.heap.size/\Q4 w.heap.size (U O i) (I q) (U O N) (J a b.length s) wr/\kP wr (w.heap.size+1) yN/\CS w0 wr D Kb kn kf vs u (at_+1+kA (b.take c))/\Hid (R=yS o (exL E h f (b.drop c) (at_+1+kA (b.take c))))) (fun _ P _=>b.length - (intOf P).toNat)
 case atStart =>
  have bF:=G.lt;refine⟨0,[],jz _,rfl,rfl,aH,oA,C,G,by simpa[kA] using W,?_⟩;show _=_;rw[<- aN.out,List.drop_zero];simp only[List.take_zero,kA,Int.add_zero]
  cases exL E h f b (at_+1)with
  | bad s j=>rfl
  | ok e=>rfl
 case round =>
  clear W C aH G;obtain⟨c,o,aZ,rfl,rfl,am,bD,a2,t,k,Q⟩:=hrel;obtain⟨ab,ac,ad,ae⟩:=id a2;by_cases x:c<b.length
  ·obtain⟨V,aa,rfl,a5,aJ⟩:=ar (by intro d;rw[d]at x;simp at x);obtain⟨bR,⟨bS,bX,bY,bZ,rfl,aC,aD,aE,aF⟩,au⟩:=aJ.get c x;obtain⟨a7,ah,a8,_,n,S,a9,T,rfl⟩:=au.shape;injection n with n;simp only[Array.mk.injEq,jq,and_true]at n;obtain⟨rfl,rfl,rfl,rfl⟩:=n;have bG:=(k.bs.cell (p:=(A V (aa+c*4) F)) a5).trans aC;have bH:=(k.bs.cell (p:=(A V (aa+c*4+1) F)) a5).trans aD;have bN:=(k.bs.cell (p:=(A V (aa+c*4+2) F)) a5).trans aE;have bP:=(k.bs.cell (p:=(A V (aa+c*4+3) F)) a5).trans aF;have b0:=xE b c x;have b1:=xY b (c+1);have b2:=qU b[c];have b6:=kR (b.take c);have W:=k.alloc (Zc #[U O a7,I ah,U O a8,J S a9 T] 25);have aX:=am.alloc (Zc #[U O a7,I ah,U O a8,J S a9 T] 25);have C:=Q4.alloc a2 (Zc #[U O a7,I ah,U O a8,J S a9 T] 25);have G:=t.alloc (Zc #[U O a7,I ah,U O a8,J S a9 T] 25);have ak:=ih c x _ _ _ (aK _ (jH x)) au W oA oA
   have HP:Hid (R=match exF E h f X b[c] (at_+1+kA (b.take c))with
     | .bad s j=>.bad s j
     | .ok e=>yS (o++[e.1]) (exL E h f (b.drop (c+1)) e.2)):=Q.out.trans (zch E h f b c x o _)
   have ay:Hid (∀e,exF E h f X b[c] (at_+1+kA (b.take c))=.ok e->e.2=at_+1+kA (b.take (c+1))):=fun e av=>by
    have:=uI E h f _ _ _ _ av;omega
   clear aC aD aE aF aJ au ar Q b0 b1 b2 b6 ih;generalize aY:exF E h f X b[c] (at_+1+kA (b.take c))=aB at *;have aM:Hid (∀e,aB=.ok e->e.2=at_+1+kA (b.take (c+1))):=fun e av=>ay.out e av
   clear aY ay
   cases aB with
   | bad aT aS =>
    have aO:Hid (r=.bad aT aS):=by
     show _=_;rw[<- aj.out,HP.out];rfl
    go_wp2_with (go_at_call 106;refine ak.mono ?_;rintro d ag ⟨rfl,g⟩)
    exact⟨rfl,PL.mkBad aO.out g⟩
   | ok e =>
    have aP:Hid (R=yS (o++[e.1]) (exL E h f (b.drop (c+1)) e.2)):=HP.out;have az:=aM.out e rfl;obtain⟨ba,bn⟩:=e;dsimp only at az ak;subst az;go_wp2_with (go_at_call 106;refine ak.mono ?_;rintro d ag ⟨rfl,B,a3⟩);have b7:=a3.size;refine⟨⟨c+1,o++[ba],oA,oB,oB,aX.trans a3,by simp at b7;omega,Q4.grown C a3 oE,G.kept a3 oE,B,aP.out⟩,by simp[intOf];omega⟩
  ·obtain rfl:c=b.length:=oA
   have aA:Hid (R=.ok (o,at_+1+kA b)):=by
    show _=_;rw[Q.out,List.drop_eq_nil_of_le oA,jG oA];simp[exL,yS]
   rw[jG oA]at k;have ap:=k.variable b8 b9 at_
   have ai:Hid (r=match xD kf vs q with
     | none=>.bad 4 at_
     | some v=>if decide (0<v.size)=(i==17)then .ok (v,o.getLast?.getD 0,at_+1+kA b)else .bad 3 at_):=by
    show _=_;rw[<- aj.out,aA.out];rfl
   clear aA Q ih ar aK;generalize at_+1+kA b=aR at *;generalize o.getLast?.getD 0=a6 at *;generalize xD kf vs q=aQ at *
   cases aQ with
   | none =>
    have z:Hid (r=.bad 4 at_):=ai.out;go_wp2_with (go_at_call 141;refine ap.mono ?_;rintro d ag ⟨g,n⟩;obtain rfl:d=.panicked (qI 4 at_):=n)
    exact⟨rfl,PL.mkBad z.out (k.bs.trans (g.mono k.bs.size))⟩
   | some v =>
    by_cases y:i=17
    ·by_cases L:0<v.size
     ·skip;have K:decide (0<v.size)=H:=by simp[L]
      exact oz16x139
     ·skip;have K:decide (0<v.size)=X:=by simp[L]
      exact oz16x140
    ·by_cases L:0<v.size
     ·skip;have K:decide (0<v.size)=H:=by simp[L]
      have aV:(i==17)=X:=by simp[y]
      have aW:decide (i=17)=X:=by simp[y]
      exact oz16x140
     ·skip;have K:decide (0<v.size)=X:=by simp[L]
      have aV:(i==17)=X:=by simp[y]
      have aW:decide (i=17)=X:=by simp[y]
      exact oz16x139
end
def xQ:List Int->List Int->Bool
 | p :: r,l :: s=>zE p [l]&&xQ r s
 | _,_=>H
theorem zvw {w:Zw} {e:Nat} {d:Zv} {b:List Int} (l:b.length<=1000000) (c:w.ownsRow e 3 1 d b.length (yG b)):IntsIn w d b:=by
 obtain⟨a,f,rfl,_,h⟩:=lexs.own_shape c;refine⟨a,f,rfl,oA,fun i=>?_⟩;have j:0<b.length:=List.length_pos_iff.2 i;obtain⟨g,rfl⟩:=h j;refine⟨g,0,rfl,fun k hi=>?_⟩;rw[Nat.zero_add];refine(c.cellAt k oA).trans ?_;unfold yG;rw[List.getElem?_map,List.getElem?_eq_getElem hi];rfl
theorem za5 (w:Zw) (a:Int):IntsIn (w.alloc (Zc #[U O a] 3)) (J (Z (A w.heap.size 0 F)) 1 1) [a] :=
 ⟨_,_,rfl,oB,fun _=>⟨_,_,rfl,fun b hi=>by obtain rfl:b=0:=by { simp at hi;exact hi };simp⟩⟩
theorem zr3 {ps b:List Int} {a:Nat} (c:a<ps.length) (d:a<b.length):xQ (ps.drop a) (b.drop a)=(zE ps[a] [b[a]]&&xQ (ps.drop (a+1)) (b.drop (a+1))):=by
 rw[List.drop_eq_getElem_cons c,List.drop_eq_getElem_cons d];rfl
def clP (kf:ByteArray->Option FV) (ctx:Int) (alone:Bool) (x:ByteArray) (a:Int):Res (List Int × Int)->Res (ProcD × Int)
 | .bad c b=>.bad c b
 | .ok q=>match vZ kf x with
  | none=>.bad 4 a
  | some p=>if q.1.length≠p.params.length then .bad 6 a else if(!p.gives&&!alone)=H then .bad 3 a else if xQ p.params q.1=X then .bad 7 a else if zE p.writes [ctx]=X then .bad 7 a else .ok (p,q.2)
def CL (w0:Zw) (D Kb kn:Nat) (kf:KF) (vs:List VarD) (u:Zv) (w:Zw) (r:Res (ProcD × Int)) (e:Ending) (w':Zw):Prop:=match r with
 | .bad c b=>e=.panicked (qI c b)/\Below w0.heap.size w0 w'
 | .ok q=>(∃a,e=.returned (qR q.1 a))/\CS w0 w' D Kb kn kf vs u q.2/\Fr D w w'
section
variable {w0:Zw} {D Kb kn:Nat} {kf:KF} {vs:List VarD} {u:Zv}
theorem CL.mkBad {w w':Zw} {c:Res (ProcD × Int)} {b a:Int} (d:c=.bad b a) (e:Below w0.heap.size w0 w'):CL w0 D Kb kn kf vs u w c (.panicked (qI b a)) w':=by rw[d];exact⟨rfl,e⟩
theorem CL.mkOk {w w':Zw} {c:Res (ProcD × Int)} {p:ProcD} {d:Zv} {a:Int} {b:Ending} (e:c=.ok (p,a)) (g:b=.returned (qR p d)) (f:CS w0 w' D Kb kn kf vs u a) (h:Fr D w w'):CL w0 D Kb kn kf vs u w c b w':=by rw[e];exact⟨⟨d,g⟩,f,h⟩
theorem zqi (E:Env) (z:List Loc) (az:Int) (Q:ByteArray) (aB:Int) (d:List Tree) (v:Zv) (w:Zw) (g at_:Int) (ak:Bool) (c7:∀C∈d,ExT C) (da:kT Q) (cc:Lies (·<w0.heap.size) w0 (.node az Q aB d) v) (f:CS w0 w D Kb kn kf vs u at_) (cu:0<=at_) (e9:at_+1+kA d<=1000000) (ih:∀b (b8:b<d.length) (v:Zv) (w:Zw) (at_:Int),ExT d[b]->Lies (·<w0.heap.size) w0 d[b] v->CS w0 w D Kb kn kf vs u at_->0<=at_->at_+kC d[b]<=1000000 -> Calls prog 106 #[Zp (Z (A D 0 F)),v,U O g] w fun c w'=>EX w0 D Kb kn kf vs u w (exF E z g X d[b] at_) c w') : Calls prog 128 #[Zp (Z (A D 0 F)),v,U O g,Y ak] w fun c w'=>CL w0 D Kb kn kf vs u w (clP kf g ak Q at_ (exL E z g d (at_+1))) c w':=by
 have dZ:=kc25;have e0:prog.cellsOf 57=6:=vA;have dz:prog.cellsOf 3=1:=cF;obtain⟨de,hi,db,dc,dd⟩:=info_parts zdz;unfold Lies at cc;obtain⟨a,a7,rfl,e6,b9⟩:=cc;have e4:=kR d;have e5:=f.lt;have e7:=vQ d;obtain⟨R,b6⟩:∃R,exL E z g d (at_+1)=R:=⟨_,rfl⟩
 rw[b6];have cn:Hid (exL E z g d (at_+1)=R):=b6;clear b6;obtain⟨K,aW⟩:∃K,Hid (clP kf g ak Q at_ R=K):=⟨_,rfl⟩
 rw[aW.out];have b1:=(f.alloc (Zc #[U O az,I Q,U O aB,J a d.length a7] 25)).alloc (Zc #[I ⟨#[]⟩,Y X,J F 0 0,U O 0,Y X,U O 0] 57);have bH:=b1.begin cu oA;have ec:=f.fm;have e3:=f.mp.lt;have bc:∀s,u.ownBlock=Z s->s<w.heap.size:=fun s c=>(f.rl.lt _ c).2
 clear f;go_enter func128,ntmps128;go_wp2_with (go_at_call 49;refine bH.mono ?_;rintro c aV ⟨rfl,ay⟩;have aJ:CS w0 aV D Kb kn kf vs u (at_+1):=by { rw[ay];exact b1.setAt _ };have ap:Q4 w.heap.size (U O az) (I Q) (U O aB) (J a d.length a7) aV:=by { rw[ay];exact Q4.other oA ⟨oB,oB,oB,oB⟩ _ _ };have bN:Fr D w aV:=by { rw[ay];exact(((Fr.refl _ _).alloc _).alloc _).set _ _ };have ar:Box6 aV (w.heap.size+1) (I ⟨#[]⟩) (Y X) (J F 0 0) (U O 0) (Y X) (U O 0):=by { rw[ay];have:=Box6.new (w.alloc (Zc #[U O az,I Q,U O aB,J a d.length a7] 25)) (I ⟨#[]⟩) (Y X) (J F 0 0) (U O 0) (Y X) (U O 0) 57;rw[jO]at this;exact this.other oA _ };clear ay;obtain⟨aR,aS,aT,aU⟩:=id ap);clear b1 bH aR aS aT aU;go_loopw [10,21] (fun dw C wr=>∃(b:Nat) (e:List Int),b<=d.length/\C=U O b/\e.length=b/\wr.ownsRow (w.heap.size+1+1) 3 1 dw e.length (yG e)/\Fr D w wr/\w.heap.size+1+1<=wr.heap.size/\Q4 w.heap.size (U O az) (I Q) (U O aB) (J a d.length a7) wr/\Box6 wr (w.heap.size+1) (I ⟨#[]⟩) (Y X) (J F 0 0) (U O 0) (Y X) (U O 0)/\CS w0 wr D Kb kn kf vs u (at_+1+kA (d.take b))/\Hid (R=yS e (exL E z g (d.drop b) (at_+1+kA (d.take b))))) (fun _ C _=>d.length - (intOf C).toNat)
 case atStart =>
  have L:=ar.lt;refine⟨0,[],jz _,rfl,rfl,World.ownsRow_nil _ _ _ _,bN,oA,ap,ar,by simpa[kA] using aJ,?_⟩;show _=_;rw[<- cn.out,List.drop_zero];simp only[List.take_zero,kA,Int.add_zero]
  cases exL E z g d (at_+1)with
  | bad a7 s=>rfl
  | ok r=>rfl
 case round =>
  clear aJ ap bN ar;obtain⟨b,e,b8,rfl,c9,a5,ao,cb,aK,au,t,aF⟩:=hrel;obtain⟨aR,aS,aT,aU⟩:=id aK;have ai:Hid (e.length=b):=c9;clear c9;by_cases y:b<d.length
  ·obtain⟨aI,aQ,rfl,aM,bY⟩:=b9 (by intro c;rw[c]at y;simp at y);obtain⟨eh,⟨ek,em,en,eo,rfl,bz,bD,bE,bF⟩,ba⟩:=bY.get b y;obtain⟨aA,aE,aC,_,ah,aj,aD,am,rfl⟩:=ba.shape;injection ah with ah;simp only[Array.mk.injEq,jq,and_true]at ah;obtain⟨rfl,rfl,rfl,rfl⟩:=ah;have ed:=(t.bs.cell (p:=(A aI (aQ+b*4) F)) aM).trans bz;have df:=(t.bs.cell (p:=(A aI (aQ+b*4+1) F)) aM).trans bD;have dh:=(t.bs.cell (p:=(A aI (aQ+b*4+2) F)) aM).trans bE;have ee:=(t.bs.cell (p:=(A aI (aQ+b*4+3) F)) aM).trans bF;have d1:=xE d b y;have d2:=xY d (b+1);have d3:=qU d[b];have d4:=kR (d.take b);have aJ:=t.alloc (Zc #[U O aA,I aE,U O aC,J aj aD am] 25);have cv:=ao.alloc (Zc #[U O aA,I aE,U O aC,J aj aD am] 25);have ap:=Q4.alloc aK (Zc #[U O aA,I aE,U O aC,J aj aD am] 25);have ar:=au.alloc (Zc #[U O aA,I aE,U O aC,J aj aD am] 25);have b0:=ih b y _ _ _ (c7 _ (jH y)) ba aJ oA oA
   have HP:Hid (R=match exF E z g X d[b] (at_+1+kA (d.take b))with
     | .bad a7 s=>.bad a7 s
     | .ok r=>yS (e++[r.1]) (exL E z g (d.drop (b+1)) r.2)):=aF.out.trans (zch E z g d b y e _)
   have a2:Hid (∀r,exF E z g X d[b] (at_+1+kA (d.take b))=.ok r->r.2=at_+1+kA (d.take (b+1))):=fun r bb=>by
    have:=uI E z g _ _ _ _ bb;omega
   have e8:e.length<=1000000:=by have:=ai.out;omega
   have c8:=ai.out;obtain⟨ua,uc,rfl,_,_⟩:=lexs.own_shape a5;rw[c8]at a5 |-;clear c8;clear bz bD bE bF bY ba b9 aF d1 d2 d3 d4 ih;generalize cx:exF E z g X d[b] (at_+1+kA (d.take b))=bw at *;have af:Hid (∀r,bw=.ok r->r.2=at_+1+kA (d.take (b+1))):=fun r bb=>a2.out r bb
   clear cx a2
   cases bw with
   | bad ct cr =>
    have co:Hid (K=.bad ct cr):=by
     show _=_;rw[<- aW.out,HP.out];rfl
    go_wp2_with (go_at_call 106;refine b0.mono ?_;rintro c i ⟨rfl,j⟩)
    exact⟨rfl,CL.mkBad co.out j⟩
   | ok r =>
    have cp:Hid (R=yS (e++[r.1]) (exL E z g (d.drop (b+1)) r.2)):=HP.out;have bu:=af.out r rfl;obtain⟨ce,dy⟩:=r;dsimp only at bu b0;subst bu;have cB:=a5.alloc (Zc #[U O aA,I aE,U O aC,J aj aD am] 25);have cz:Z D≠(Value.slice ua b uc).ownBlock:=fun c=>by have:=(a5.lt _ c.symm).1;omega
    have cA:(Value.slice ua b uc).ownBlock=F\/(Value.slice ua b uc).ownBlock≠Z D:=by
     cases c:(Value.slice ua b uc).ownBlock with
     | none=>exact .inl rfl
     | some s=>exact .inr (fun aY=>cz (by rw[c,aY]))
    go_wp2_with first
     | (go_at_call 106;refine b0.mono ?_;rintro c i ⟨rfl,V,av⟩;have ca:=cB.kept av cA;have d6:=av.size;rw[jO]at d6)
     | (at_builtin;refine wpList_append_own _ rfl (.tmp 25) (.tmp 30) 55 rfl (w.heap.size+1+1) 3 de (U O 0) 1 8 underlying55 hi db dc dd rfl oC _ _ _ rfl (ca.alloc _) (A i.heap.size 0 F) 1 1 [U O ce] rfl rfl (xZ _ _ _ oB) (zbj _) (by unfold maxLen;omega) oA oE ?_;intro ei ej d0 aw eb)
     | go_in
    have aN:∀s,(Value.slice ua b uc).ownBlock=Z s->w.heap.size+1+1<=s:=fun s c=>(ca.lt _ c).1
    have d5:=aw.size;simp only[jO]at d5;refine⟨⟨b+1,e++[ce],oA,oB,by simp[ai.out],?_,?_,oA,?_,?_,?_,cp.out⟩,by simp[intOf];omega⟩;·rw[jb,zay,ai.out];exact d0
    ·exact World.grownBy.andThen ((cv.trans av).alloc _) aw (fun s c=>.inl (by have:=aN s c;omega))
    ·exact Q4.grown (Q4.alloc (Q4.grown ap av oE) _) aw (fun c=>by have:=aN _ c;omega)
    ·exact((ar.grown av oE).alloc _).grown aw (fun c=>by have:=aN _ c;omega)
    ·exact(V.alloc _).grown aw (fun s c=>by have:=aN s c;exact⟨oA,oA,fun aY=>by have:=bc s aY;omega,oA⟩)
  ·obtain rfl:b=d.length:=oA
   have bv:Hid (R=.ok (e,at_+1+kA d)):=by
    show _=_;rw[aF.out,List.drop_eq_nil_of_le oA,jG oA];simp[exL,yS]
   rw[jG oA]at t;have ae:=t.procedure da at_
   have ag:Hid (K=match vZ kf Q with
     | none=>.bad 4 at_
     | some p=>if e.length≠p.params.length then .bad 6 at_ else if(!p.gives&&!ak)=H then .bad 3 at_ else if xQ p.params e=X then .bad 7 at_ else if zE p.writes [g]=X then .bad 7 at_ else .ok (p,at_+1+kA d)):=by
    show _=_;rw[<- aW.out,bv.out];rfl
   have cy:e.length<=1000000:=by have:=ai.out;omega
   clear bv aF ih b9 c7;generalize at_+1+kA d=aG at *;generalize vZ kf Q=cq at *
   cases cq with
   | none =>
    have G:Hid (K=.bad 4 at_):=ag.out;go_wp2_with (go_at_call 142;refine ae.mono ?_;rintro c i ⟨j,ah⟩;obtain rfl:c=.panicked (qI 4 at_):=ah)
    exact⟨rfl,CL.mkBad G.out (t.bs.trans (j.mono t.bs.size))⟩
   | some p =>
    have aP:=zvw cy a5;obtain⟨ua,uc,rfl,_,_⟩:=lexs.own_shape a5;obtain⟨n,m,ps,h,cf,o⟩:=p;dsimp only at ag;by_cases ax:e.length=ps.length
    ·cases cf with
     | true =>
      skip
      go_wp2_with first
       | (go_at_call 142;refine ae.mono ?_;rintro c i ⟨j,br,rfl,L⟩;obtain⟨k,l,rfl,bh,a6⟩:=id L;unfold qR;have V:=(t.below j).alloc (Zc #[I n,Y m,J k ps.length l,U O h,Y H,U O o] 57))
       | fail
      have aL:=Box6.new i (I n) (Y m) (J k ps.length l) (U O h) (Y H) (U O o) 57;have ad:Below i.heap.size i (i.alloc (Zc #[I n,Y m,J k ps.length l,U O h,Y H,U O o] 57)):=bal _;have bf:=(aP.below j).below ad;have cd:=L.below ad;have bP:Fr D w (i.alloc (Zc #[I n,Y m,J k ps.length l,U O h,Y H,U O o] 57)):=(ao.trans (Fr.below j)).alloc _;have bX:=(au.below j).alloc (Zc #[I n,Y m,J k ps.length l,U O h,Y H,U O o] 57);have cw:w.heap.size+1+1<=i.heap.size:=jp cb j.size;clear ad j L a6 aP ao au a5 ae aK aR aS aT aU t;generalize i.alloc (Zc #[I n,Y m,J k ps.length l,U O h,Y H,U O o] 57)=S at *;generalize i.heap.size=aX at *;go_loopw [57] (fun C bj=>∃b:Nat,b<=ps.length/\C=U O b/\Hid (xQ ps e=xQ (ps.drop b) (e.drop b))/\Below S.heap.size S bj) (fun C _=>ps.length - (intOf C).toNat)
      case atStart=>exact⟨0,jz _,rfl,rfl,Below.refl _ _⟩
      case round =>
       obtain⟨b,b8,rfl,a2,B⟩:=hrel;have b7:Hid (Below S.heap.size S wr):=B;have b2:=V.below B;obtain⟨bm,bn,bo,dx,bp,bq,_,_,_,_,_,_⟩:=aL.below B;by_cases y:b<ps.length;·obtain⟨_,_,aH,_,bg⟩:=bf.below B;exact oz16x138
       ·obtain rfl:b=ps.length:=oA
        have af:Hid (xQ ps e=H):=by
         show _=_;rw[a2.out,List.drop_eq_nil_of_le (jE _),List.drop_eq_nil_of_le oA];rfl
        have N:=fP at_ h [g] (J (Z (A wr.heap.size 0 F)) 1 1) (wr.alloc (Zc #[U O g] 3)) (za5 _ _);cases P:zE h [g]
        ·have G:Hid (K=.bad 7 at_):=by
          exact oz16x148
         exact oz16x142
        ·have G:Hid (K=.ok (⟨n,m,ps,h,H,o⟩,aG)):=by
          exact oz16x148
         have a3:=N.mono (R':=fun c w'=>c=.returned (.tuple #[])/\w'=wr.alloc (Zc #[U O g] 3)) (fun c w' f=>by
          rcases f with⟨_,T⟩|⟨x,_⟩
          ·exact T
          ·rw[P]at x;cases x)
         clear N
         have an:∀q,q=wr.alloc (Zc #[U O g] 3)->CS w0 q D Kb kn kf vs u aG/\Fr D w q/\Box6 q aX (I n) (Y m) (J k ps.length l) (U O h) (Y H) (U O o)/\Box6 q (w.heap.size+1) (I ⟨#[]⟩) (Y X) (J F 0 0) (U O 0) (Y X) (U O 0):=fun q c=>by
          exact oz16x146
         clear bm bn bo bp bq;go_wp2_with (go_at_call 105;refine a3.mono ?_;rintro c q ⟨rfl,W⟩;obtain⟨bS,bR,⟨dj,dk,dl,dm,dn,dp,_,_,_,_,_,_⟩,⟨cg,ch,ci,cj,ck,cm,ds,t7,t8,dt,dq,dr⟩⟩:=an q W;clear W an);have a8:w.heap.size+1≠D:=oA;have a9:w.heap.size+1≠Kb:=oA;have aa:u.ownBlock≠Z (w.heap.size+1):=fun c=>by have:=bc _ c;omega
         have ab:kf.M<=w.heap.size+1:=oA;have ac:w.heap.size<=w.heap.size+1:=oA;refine jT (v:=qR ⟨n,m,ps,h,H,o⟩ (J k ps.length l)) oz16y150 rfl ?_
         exact oz16x143
     | false =>
      cases ak with
      | true =>
       go_wp2_with first
        | (go_at_call 142;refine ae.mono ?_;rintro c i ⟨j,br,rfl,L⟩;obtain⟨k,l,rfl,bh,a6⟩:=id L;unfold qR;have V:=(t.below j).alloc (Zc #[I n,Y m,J k ps.length l,U O h,Y X,U O o] 57))
        | fail
       have aL:=Box6.new i (I n) (Y m) (J k ps.length l) (U O h) (Y X) (U O o) 57;have ad:Below i.heap.size i (i.alloc (Zc #[I n,Y m,J k ps.length l,U O h,Y X,U O o] 57)):=bal _;have bf:=(aP.below j).below ad;have cd:=L.below ad;have bP:Fr D w (i.alloc (Zc #[I n,Y m,J k ps.length l,U O h,Y X,U O o] 57)):=(ao.trans (Fr.below j)).alloc _;have bX:=(au.below j).alloc (Zc #[I n,Y m,J k ps.length l,U O h,Y X,U O o] 57);have cw:w.heap.size+1+1<=i.heap.size:=jp cb j.size;clear ad j L a6 aP ao au a5 ae aK aR aS aT aU t;generalize i.alloc (Zc #[I n,Y m,J k ps.length l,U O h,Y X,U O o] 57)=S at *;generalize i.heap.size=aX at *;go_loopw [57] (fun C bj=>∃b:Nat,b<=ps.length/\C=U O b/\Hid (xQ ps e=xQ (ps.drop b) (e.drop b))/\Below S.heap.size S bj) (fun C _=>ps.length - (intOf C).toNat)
       case atStart=>exact⟨0,jz _,rfl,rfl,Below.refl _ _⟩
       case round =>
        obtain⟨b,b8,rfl,a2,B⟩:=hrel;have b7:Hid (Below S.heap.size S wr):=B;have b2:=V.below B;obtain⟨bm,bn,bo,dx,bp,bq,_,_,_,_,_,_⟩:=aL.below B;by_cases y:b<ps.length;·obtain⟨_,_,aH,_,bg⟩:=bf.below B;exact oz16x138
        ·obtain rfl:b=ps.length:=oA
         have af:Hid (xQ ps e=H):=by
          show _=_;rw[a2.out,List.drop_eq_nil_of_le (jE _),List.drop_eq_nil_of_le oA];rfl
         have N:=fP at_ h [g] (J (Z (A wr.heap.size 0 F)) 1 1) (wr.alloc (Zc #[U O g] 3)) (za5 _ _);cases P:zE h [g]
         ·have G:Hid (K=.bad 7 at_):=by
           exact oz16x148
          exact oz16x142
         ·have G:Hid (K=.ok (⟨n,m,ps,h,X,o⟩,aG)):=by
           exact oz16x148
          have a3:=N.mono (R':=fun c w'=>c=.returned (.tuple #[])/\w'=wr.alloc (Zc #[U O g] 3)) (fun c w' f=>by
           rcases f with⟨_,T⟩|⟨x,_⟩
           ·exact T
           ·rw[P]at x;cases x)
          clear N
          have an:∀q,q=wr.alloc (Zc #[U O g] 3)->CS w0 q D Kb kn kf vs u aG/\Fr D w q/\Box6 q aX (I n) (Y m) (J k ps.length l) (U O h) (Y X) (U O o)/\Box6 q (w.heap.size+1) (I ⟨#[]⟩) (Y X) (J F 0 0) (U O 0) (Y X) (U O 0):=fun q c=>by
           exact oz16x146
          clear bm bn bo bp bq;go_wp2_with (go_at_call 105;refine a3.mono ?_;rintro c q ⟨rfl,W⟩;obtain⟨bS,bR,⟨dj,dk,dl,dm,dn,dp,_,_,_,_,_,_⟩,⟨cg,ch,ci,cj,ck,cm,ds,t7,t8,dt,dq,dr⟩⟩:=an q W;clear W an);have a8:w.heap.size+1≠D:=oA;have a9:w.heap.size+1≠Kb:=oA;have aa:u.ownBlock≠Z (w.heap.size+1):=fun c=>by have:=bc _ c;omega
          have ab:kf.M<=w.heap.size+1:=oA;have ac:w.heap.size<=w.heap.size+1:=oA;refine jT (v:=qR ⟨n,m,ps,h,X,o⟩ (J k ps.length l)) oz16y150 rfl ?_
          exact oz16x143
      | false =>
       have G:Hid (K=.bad 3 at_):=by
        show _=_;rw[ag.out];simp[ax]
       go_wp2_with first
        | (go_at_call 142;refine ae.mono ?_;rintro c i ⟨j,br,rfl,L⟩;obtain⟨k,l,rfl,bh,a6⟩:=id L;unfold qR;have V:=(t.below j).alloc (Zc #[I n,Y m,J k ps.length l,U O h,Y X,U O o] 57))
        | (go_at_call 87;refine(vD 3 at_ _).mono ?_;rintro c du ⟨rfl,be⟩;rw[be])
       exact⟨rfl,CL.mkBad G.out V.bs⟩
    ·have G:Hid (K=.bad 6 at_):=by
      show _=_;rw[ag.out];simp[ax]
     have ea:¬((e.length:Int)=(ps.length:Int)):=oA
     go_wp2_with first
      | (go_at_call 142;refine ae.mono ?_;rintro c i ⟨j,br,rfl,L⟩;obtain⟨k,l,rfl,bh,a6⟩:=id L;unfold qR;have V:=(t.below j).alloc (Zc #[I n,Y m,J k ps.length l,U O h,Y cf,U O o] 57))
      | (go_at_call 87;refine(vD 6 at_ _).mono ?_;rintro c du ⟨rfl,be⟩;rw[be])
     exact⟨rfl,CL.mkBad G.out V.bs⟩
end
structure Agr (E:Env) (L:List Loc) (ctx:Int) (kf:ByteArray->Option FV) (vs:List VarD):Prop where
 pl:∀(k:Int) (x:ByteArray) (a a':Int) (ls:List Int),(k=16/\ls=[]\/k=17/\∃l,ls=[l])->kT x->(match plP kf vs k x a (.ok (ls,a'))with
  | .bad c b=>Res.bad c b
  | .ok q=>.ok (jn q.1.label q.2.1,q.2.2))=match zS E L ctx X k x ls a with
  | .bad c b=>.bad c b
  | .ok l=>.ok (l,a')
 cl:∀(alone:Bool) (x:ByteArray) (a a':Int) (ls:List Int),kT x->(match clP kf ctx alone x a (.ok (ls,a'))with
  | .bad c b=>Res.bad c b
  | .ok q=>.ok (q.1.given,q.2))=match zS E L ctx alone 18 x ls a with
  | .bad c b=>.bad c b
  | .ok l=>.ok (l,a')
theorem zmz (E:Env) (b:List Loc) (c:Int):∀(g:List Tree) (a:Int) (d:List Int × Int),exL E b c g a=.ok d->d.1.length=g.length
 | [],a,d,h=>by
  simp only[exL,Res.ok.injEq]at h;rw[<- h]
  rfl
 | t :: r,a,d,h=>by
  unfold exL at h
  cases f:exF E b c X t a with
  | bad j i=>rw[f]at h;cases h
  | ok k =>
   rw[f]at h;dsimp only at h
   cases e:exL E b c r k.2 with
   | bad j i=>rw[e]at h;cases h
   | ok l =>
    rw[e]at h;simp only[Res.ok.injEq]at h;rw[<- h];simp[zmz E b c r _ _ e]
theorem Agr.place {E:Env} {c:List Loc} {d:Int} {kf:ByteArray->Option FV} {vs:List VarD} (g:Agr E c d kf vs) {b:Int} {h:ByteArray} {n:Int} {e:List Tree} {a:Int} (p:b=16\/b=17) (l:ExT (.node b h n e)) : exF E c d X (.node b h n e) a=match plP kf vs b h a (exL E c d e (a+1))with
   | .bad k j=>Res.bad k j
   | .ok f=>.ok (jn f.1.label f.2.1,f.2.2):=by
 have q:=l.kids.2.1 (by rcases p with g | g<;>simp[g])
 cases i:exL E c d e (a+1)with
 | bad k j=>rw[zc7 i];rfl
 | ok f =>
  obtain⟨r,o⟩:=f;rw[zbp i];have m:=zmz E c d e _ _ i;refine(g.pl b h a o r ?_ q).symm
  cases l with
  | num t=>omega
  | nam _=>exact .inl ⟨rfl,List.eq_nil_of_length_eq_zero m⟩
  | item _ s=>exact .inr ⟨rfl,List.length_eq_one_iff.1 m⟩
  | call _ _=>omega
  | op _ _=>omega
  | neg _=>omega
  | nott _=>omega
theorem Agr.call {E:Env} {c:List Loc} {b:Int} {kf:ByteArray->Option FV} {vs:List VarD} (l:Agr E c b kf vs) {f:Bool} {e:ByteArray} {o:Int} {g:List Tree} {a:Int} (m:kT e) : exF E c b f (.node 18 e o g) a=match clP kf b f e a (exL E c b g (a+1))with
   | .bad i h=>Res.bad i h
   | .ok d=>.ok (d.1.given,d.2):=by
 cases j:exL E c b g (a+1)with
 | bad i h=>rw[zc7 j];rfl
 | ok d =>
  obtain⟨n,k⟩:=d;rw[zbp j];exact(l.cl f e a k n m).symm
theorem zwm (E:Env) (d:List Loc) (e:Int) (b:Int) (i:ByteArray) (c:List Int) (a:Int) (f:b≠16) (g:b≠17) (h:b≠18):zS E d e X b i c a=.ok (joinL c 0):=by
 unfold zS;rw[ju f,ju g,ju h]
theorem zzi (a c d e f b:Zv) (w:Zw):(Instr.field 57 (Za #[a,c,d,e,f,b]) 5).run prog w=.ok b w:=oD
section
variable {w0:Zw} {D Kb kn:Nat} {kf:KF} {vs:List VarD} {u:Zv}
theorem EX.mkBad {w w':Zw} {c:Res (Int × Int)} {b a:Int} (d:c=.bad b a) (e:Below w0.heap.size w0 w'):EX w0 D Kb kn kf vs u w c (.panicked (qI b a)) w':=by rw[d];exact⟨rfl,e⟩
theorem EX.mkOk {w w':Zw} {d:Res (Int × Int)} {c a:Int} {b:Ending} (e:d=.ok (c,a)) (g:b=.returned (U O c)) (f:CS w0 w' D Kb kn kf vs u a) (h:Fr D w w'):EX w0 D Kb kn kf vs u w d b w':=by rw[e];exact⟨g,f,h⟩
theorem gU (E:Env) (e:List Loc) (c:Int) (ai:Agr E e c kf vs) (aN:vs.length<=1000) (j:Tree) (v:Zv) (w:Zw) (at_:Int) (a5:ExT j) (ar:Lies (·<w0.heap.size) w0 j v) (C:CS w0 w D Kb kn kf vs u at_) (ah:0<=at_) (ba:at_+kC j<=1000000) : Calls prog 106 #[Zp (Z (A D 0 F)),v,U O c] w fun f w'=>EX w0 D Kb kn kf vs u w (exF E e c X j at_) f w':=by
 match j with
 | .node k x m ks =>
  have ih:∀b (am:b<ks.length) (v:Zv) (w:Zw) (at_:Int),ExT ks[b]->Lies (·<w0.heap.size) w0 ks[b] v->CS w0 w D Kb kn kf vs u at_->0<=at_->at_+kC ks[b]<=1000000 ->
    Calls prog 106 #[Zp (Z (A D 0 F)),v,U O c] w fun f w'=>EX w0 D Kb kn kf vs u w (exF E e c X ks[b] at_) f w':=fun b am v w at_ aX aY aZ b0 b1=>gU E e c ai aN ks[b] v w at_ aX aY aZ b0 b1
  obtain⟨an,aM,bE⟩:=a5.kids;have bu:=kc25;have bv:prog.cellsOf 52=4:=cell4;have b9:kC (.node k x m ks)=1+kA ks:=by unfold kC;omega
  rw[b9]at ba;have a7:=ar;unfold Lies at ar;obtain⟨a,g,rfl,bF,Q⟩:=ar;have b6:Below w.heap.size w (w.alloc (Zc #[U O k,I x,U O m,J a ks.length g] 25)):=bal _;have P:=C.alloc (Zc #[U O k,I x,U O m,J a ks.length g] 25);have W:Fr D w (w.alloc (Zc #[U O k,I x,U O m,J a ks.length g] 25)):=(Fr.refl _ _).alloc _;obtain⟨h,ak⟩:∃h,exF E e c X (.node k x m ks) at_=h:=⟨_,rfl⟩
  rw[ak];have q:Hid (exF E e c X (.node k x m ks) at_=h):=ak;clear ak;by_cases G:k=16\/k=17
  ·have a9:=aM (by rcases G with C | C<;>simp[C]);have t:=zg0 E e aN k x m ks _ _ c at_ an a9 a7 P ah oA ih
   have L:Hid (h=match plP kf vs k x at_ (exL E e c ks (at_+1))with
     | .bad g B=>Res.bad g B
     | .ok d=>.ok (jn d.1.label d.2.1,d.2.2)):=by
    show _=_;rw[<- q.out];exact ai.place G a5
   clear q ih Q a7 a5;generalize plP kf vs k x at_ (exL E e c ks (at_+1))=ad at *
   cases ad with
   | bad N M =>
    have l:Hid (h=.bad N M):=L.out;rcases G with rfl | rfl
    ·go_enter func106,ntmps106;go_wp2_with (go_at_call 127;refine t.mono ?_;rintro f o ⟨rfl,y⟩);exact⟨rfl,EX.mkBad l.out y⟩
    ·go_enter func106,ntmps106;go_wp2_with (go_at_call 127;refine t.mono ?_;rintro f o ⟨rfl,y⟩)
     exact⟨rfl,EX.mkBad l.out y⟩
   | ok d =>
    obtain⟨bp,bm,ae⟩:=d;have l:Hid (h=.ok (jn bp.label bm,ae)):=L.out;rcases G with rfl | rfl
    ·go_enter func106,ntmps106
     go_wp2_with first
      | (go_at_call 127;refine t.mono ?_;rintro f o ⟨rfl,s,n⟩;unfold qC)
      | (go_at_call 130;refine(zad _ _ _).mono ?_;rintro f aS ⟨rfl,S⟩;rw[S])
     go_ret;exact EX.mkOk l.out rfl (s.alloc _) ((W.trans n).alloc _)
    ·go_enter func106,ntmps106
     go_wp2_with first
      | (go_at_call 127;refine t.mono ?_;rintro f o ⟨rfl,s,n⟩;unfold qC)
      | (go_at_call 130;refine(zad _ _ _).mono ?_;rintro f aS ⟨rfl,S⟩;rw[S])
     go_ret;exact EX.mkOk l.out rfl (s.alloc _) ((W.trans n).alloc _)
  ·have bb:k≠16:=fun f=>G (.inl f)
   have bc:k≠17:=fun f=>G (.inr f)
   by_cases aF:k=18
   ·subst aF;have a9:=aM oB;have t:=zqi E e 18 x m ks _ _ c at_ X an a9 a7 P ah oA ih
    have L:Hid (h=match clP kf c X x at_ (exL E e c ks (at_+1))with
      | .bad g B=>Res.bad g B
      | .ok d=>.ok (d.1.given,d.2)):=by
     show _=_;rw[<- q.out];exact ai.call a9
    clear q ih Q a7 a5;generalize clP kf c X x at_ (exL E e c ks (at_+1))=ad at *
    cases ad with
    | bad N M =>
     have l:Hid (h=.bad N M):=L.out;go_enter func106,ntmps106;go_wp2_with (go_at_call 128;refine t.mono ?_;rintro f o ⟨rfl,y⟩)
     exact⟨rfl,EX.mkBad l.out y⟩
    | ok d =>
     obtain⟨p,ae⟩:=d;have l:Hid (h=.ok (p.given,ae)):=L.out;go_enter func106,ntmps106;go_wp2_with (go_at_call 128;refine t.mono ?_;rintro f o ⟨⟨bq,rfl⟩,s,n⟩;unfold qR;have bD:=zzi (I p.name) (Y p.pub) bq (U O p.writes) (Y p.gives) (U O p.given) o);go_ret;exact EX.mkOk l.out rfl s (W.trans n)
   ·have bw:=kR ks;have aG:=P.begin ah oA;have bz:=C.lt;have bG:=vQ ks;obtain⟨R,aK⟩:∃R,exL E e c ks (at_+1)=R:=⟨_,rfl⟩
    have ac:Hid (exL E e c ks (at_+1)=R):=aK;clear aK;go_enter func106,ntmps106;go_wp2_with (go_at_call 49;refine aG.mono ?_;rintro f ab ⟨rfl,a8⟩;have a2:CS w0 ab D Kb kn kf vs u (at_+1):=by { rw[a8];exact P.setAt _ };have K:Q4 w.heap.size (U O k) (I x) (U O m) (J a ks.length g) ab:=by { rw[a8];exact Q4.other oA ⟨oB,oB,oB,oB⟩ _ _ };have aH:Fr D w ab:=by { rw[a8];exact((Fr.refl _ _).alloc _).set _ _ };clear a8;obtain⟨aO,aP,aQ,aR⟩:=id K);clear P aG aO aP aQ aR C b6 W;go_loopw [9,40] (fun bo j wr=>∃(b:Nat) (i:List Int),b<=ks.length/\j=U O b/\bo=U O (joinL i 0)/\Fr D w wr/\w.heap.size+1<=wr.heap.size/\Q4 w.heap.size (U O k) (I x) (U O m) (J a ks.length g) wr/\CS w0 wr D Kb kn kf vs u (at_+1+kA (ks.take b))/\Hid (R=yS i (exL E e c (ks.drop b) (at_+1+kA (ks.take b))))) (fun _ j _=>ks.length - (intOf j).toNat)
    case atStart =>
     have bj:=jR ab (A w.heap.size 0 F) K.1;refine⟨0,[],jz _,rfl,rfl,aH,bj,K,by simpa[kA] using a2,?_⟩;show _=_;rw[<- ac.out,List.drop_zero];simp only[List.take_zero,kA,Int.add_zero]
     cases exL E e c ks (at_+1)with
     | bad g B=>rfl
     | ok d=>rfl
    case round =>
     clear a2 K aH;obtain⟨b,i,am,rfl,rfl,aI,bH,aJ,r,T⟩:=hrel;obtain⟨aO,aP,aQ,aR⟩:=id aJ;by_cases z:b<ks.length
     ·obtain⟨V,aa,rfl,a6,aL⟩:=Q (by intro f;rw[f]at z;simp at z);obtain⟨bX,⟨bY,bZ,c6,c7,rfl,aB,aC,aD,aE⟩,ao⟩:=aL.get b z;obtain⟨au,ax,av,_,a3,af,aw,ag,rfl⟩:=ao.shape;injection a3 with a3;simp only[Array.mk.injEq,jq,and_true]at a3;obtain⟨rfl,rfl,rfl,rfl⟩:=a3;have bN:=(r.bs.cell (p:=(A V (aa+b*4) F)) a6).trans aB;have bP:=(r.bs.cell (p:=(A V (aa+b*4+1) F)) a6).trans aC;have bR:=(r.bs.cell (p:=(A V (aa+b*4+2) F)) a6).trans aD;have bS:=(r.bs.cell (p:=(A V (aa+b*4+3) F)) a6).trans aE;have be:=xE ks b z;have bf:=xY ks (b+1);have bg:=qU ks[b];have bh:=kR (ks.take b);have a2:=r.alloc (Zc #[U O au,I ax,U O av,J af aw ag] 25);have b7:=aI.alloc (Zc #[U O au,I ax,U O av,J af aw ag] 25);have K:=Q4.alloc aJ (Zc #[U O au,I ax,U O av,J af aw ag] 25);have aj:=ih b z _ _ _ (an _ (jH z)) ao a2 oA oA
      have HP:Hid (R=match exF E e c X ks[b] (at_+1+kA (ks.take b))with
        | .bad g B=>.bad g B
        | .ok d=>yS (i++[d.1]) (exL E e c (ks.drop (b+1)) d.2)):=T.out.trans (zch E e c ks b z i _)
      have ay:Hid (∀d,exF E e c X ks[b] (at_+1+kA (ks.take b))=.ok d->d.2=at_+1+kA (ks.take (b+1))):=fun d ap=>by
       have:=uI E e c _ _ _ _ ap;omega
      clear aB aC aD aE aL ao Q T be bf bg bh ih;generalize b8:exF E e c X ks[b] (at_+1+kA (ks.take b))=aA at *;have aT:Hid (∀d,aA=.ok d->d.2=at_+1+kA (ks.take (b+1))):=fun d ap=>ay.out d ap
      clear b8 ay
      cases aA with
      | bad N M =>
       have aU:Hid (h=.bad N M):=by
        show _=_;rw[<- q.out];exact zc7 (ac.out.trans HP.out)
       go_wp2_with (go_at_call 106;refine aj.mono ?_;rintro f o ⟨rfl,y⟩)
       exact⟨rfl,EX.mkBad aU.out y⟩
      | ok d =>
       have aV:Hid (R=yS (i++[d.1]) (exL E e c (ks.drop (b+1)) d.2)):=HP.out;have az:=aT.out d rfl;obtain⟨bn,br⟩:=d;dsimp only at az aj;subst az
       go_wp2_with first
        | (go_at_call 106;refine aj.mono ?_;rintro f o ⟨rfl,s,n⟩)
        | (go_at_call 130;refine(zad _ _ _).mono ?_;rintro f aS ⟨rfl,S⟩;rw[S])
       have bi:=n.size;rw[jO]at bi;exact⟨⟨b+1,i++[bn],oA,oB,by rw[zei],b7.trans n,oA,Q4.grown K n oE,s,aV.out⟩,by simp[intOf];omega⟩
     ·obtain rfl:b=ks.length:=oA
      have aW:Hid (h=.ok (joinL i 0,at_+1+kA ks)):=by
       show _=_
       have b2:exL E e c ks (at_+1)=.ok (i,at_+1+kA ks):=by
        rw[ac.out,T.out,List.drop_eq_nil_of_le oA,jG oA];simp[exL,yS]
       rw[<- q.out,zbp b2,zwm E e c k x i at_ bb bc aF]
      rw[jG oA]at r;clear ih Q T q;go_wp2;go_ret;exact EX.mkOk aW.out rfl r aI
termination_by SizeOf.sizeOf j
decreasing_by exact dI am
end
theorem zv5 {a:Zw} {v:VarD} {c d:Zv} (f:List Zv) (b:Nat) (e:kP a b v):(results f88 (List.toArray (c :: d :: Zp (Z (A b 0 F)) :: f))).run prog a=.ok (qC v) a:=by
 obtain⟨g,h,i,j,k⟩:=e.cells;unfold qC;simp[results,f88,go_sem,g,h,i,j]
theorem ze7 (e:Int) (b:ByteArray) (c:Int) (a:Option Addr) (f d:Nat) (w:Zw) : Calls prog 88 #[Za #[U O e,I b,U O c,J a f d]] w fun l w'=>l=.returned (qC ⟨b,X,bits BinOp.and IntKind.i64 c 1,0⟩)/\Below w.heap.size w w':=by
 have E:=kc25;have G:prog.cellsOf 52=4:=cell4;have p:=fun i=>dX e b c a f d i
 generalize bits BinOp.and IntKind.i64 c 1=k at *;go_enter func88,ntmps88;have n:Q4 w.heap.size (U O e) (I b) (U O c) (J a f d) ((w.alloc (Zc #[U O e,I b,U O c,J a f d] 25)).alloc (Zc #[I ⟨#[]⟩,Y X,U O 0,U O 0] 52)):=⟨oB,oB,oB,oB⟩
 have g:kP ((w.alloc (Zc #[U O e,I b,U O c,J a f d] 25)).alloc (Zc #[I ⟨#[]⟩,Y X,U O 0,U O 0] 52)) (w.heap.size+1) yN:=by
  have:=kP.new (w.alloc (Zc #[U O e,I b,U O c,J a f d] 25)) yN;rw[jO]at this;exact this
 have m:Below w.heap.size w ((w.alloc (Zc #[U O e,I b,U O c,J a f d] 25)).alloc (Zc #[I ⟨#[]⟩,Y X,U O 0,U O 0] 52)):=((Below.refl _ w).alloc (jE _) _).alloc oB _;go_wp2;generalize ((w.alloc (Zc #[U O e,I b,U O c,J a f d] 25)).alloc (Zc #[I ⟨#[]⟩,Y X,U O 0,U O 0] 52))=i at *;obtain⟨s,t,u,x⟩:=id n;obtain⟨z,B,C,D,h⟩:=g.cells
 go_region_with (go_at_call 103;refine(p _).mono ?_;rintro l y ⟨rfl,r⟩;have j:Below i.heap.size i y:=Below.trans (Below.drew (Below.refl _ _)) r;obtain⟨s,t,u,x⟩:=id (Q4.below n j);obtain⟨z,B,C,D,h⟩:=(g.below j g.lt).cells;have K:=h 0;have L:=h 1;have N:=h 2;have P:=h 3)
 all_goals
  have q:=(g.below j g.lt).put ⟨b,X,k,0⟩;have o:=zee (M:=w.heap.size+1) (m.trans (j.mono m.size)) oA (I b) (Y X) (U O k) (U O 0);go_wp2;refine jT (v:=qC ⟨b,X,k,0⟩) (zv5 _ _ q) rfl ?_;exact⟨rfl,o⟩
section
variable {w0 w w':Zw} {D Kb kn:Nat} {kf:KF} {vs:List VarD} {u:Zv} {a:Int}
theorem CS.push (b:CS w0 w D Kb kn kf vs u a) {v:VarD} {d cap:Nat} (n:w'.ownsRow (D+1) 52 4 (J (Z (A d 0 F)) (vs.length+1) cap) (vs.length+1) (qW vs++[I v.name,Y v.pub,U O v.label,U O v.size])) (j:w.grownBy w' u.ownBlock) (l:u.ownBlock=Z d\/d=w.heap.size) : CS w0 (w'.setCell (A D 6 F) (J (Z (A d 0 F)) (vs.length+1) cap)) D Kb kn kf (vs++[v]) (J (Z (A d 0 F)) (vs.length+1) cap) a:=by
 have m:∀g,u.ownBlock=Z g->D+1<=g:=fun g c=>(b.rl.lt _ c).1
 have q:D+1<=d:=by
  rcases l with c | c
  ·exact m d c
  ·have:=b.lt;omega
 have i:=j.block D b.lt (fun c=>by have:=m D c.symm;omega);have o:=b.mp.lt;refine⟨(b.bs.grown j b.bs.size (fun k c=>by have:=m k c;have:=b.hD;omega)).setCell b.hD _,b.hD,?_,?_,?_,?_,fun k=>?_,(b.mp.kept j (fun c=>b.nu c.symm)).setCell b.nk _,b.fi,fun p f e=>⟨(b.fw p f e).1,(b.fw p f e).2.1,(jM (a:=p) ((jP w' (A D 6 F) _ p.block (b.fw p f e).1).trans (j.block p.block (jo (b.fw p f e).2.1 b.fm) (fun c=>Nat.not_lt.2 (b.fu _ c.symm) (b.fw p f e).2.1)))).trans (b.fw p f e).2.2⟩,by rw[jQ];exact jp b.fm j.size,b.mM,fun g c=>?_,?_,b.nk,b.mx,?_⟩;·rw[jD _ _ _ _ oB];exact(jM (a:=(A D 4 F)) i).trans b.c4
 ·rw[jD _ _ _ _ oB];exact(jM (a:=(A D 5 F)) i).trans b.c5
 ·exact World.cell?_setCell_same' _ _ _ (by rw[(jM (a:=(A D 6 F)) i).trans b.c6];rfl)
 ·rw[jD _ _ _ _ oB];exact(jM (a:=(A D 7 F)) i).trans b.c7
 ·rw[World.frozen?_setCell];exact(jN (a:=(A D k F)) i).trans (b.fz k)
 ·have h:Z d=Z g:=c;cases h;rcases l with c | c
  ·exact b.fu d c
  ·rw[c];exact b.fm
 ·rw[jb,zhm];refine jU n (fun c=>?_) _;have h:Z d=Z D:=c;cases h;omega
 ·intro c;have h:Z d=Z Kb:=c;cases h;rcases l with c | c
  ·exact b.nu c
  ·omega
def AL (w0:Zw) (D Kb kn:Nat) (kf:KF) (vs:List VarD) (u:Zv) (a:Int) (v:VarD) (first:Nat) (at_:Int) (w:Zw) (e:Ending) (w':Zw):Prop :=
 ((vs.drop first).any (fun o=>eqS o.name v.name)=H/\e=.panicked (qI 5 at_)/\Below w0.heap.size w0 w') \/
 ((vs.drop first).any (fun o=>eqS o.name v.name)=X/\20<=vs.length/\e=.panicked (qI 1 at_)/\Below w0.heap.size w0 w') \/
 ((vs.drop first).any (fun o=>eqS o.name v.name)=X/\vs.length<20/\e=.returned (.tuple #[])/\(∃c,CS w0 w' D Kb kn kf (vs++[v]) c a/\∀b,c.ownBlock=Z b->u.ownBlock=Z b\/w.heap.size<=b)/\w.heap.size<=w'.heap.size/\∀b,b<w.heap.size->b≠D->u.ownBlock≠Z b->w'.heap[b]?=w.heap[b]?)
theorem zza {α:Type} {p:α->Bool} {a:List α} {b:Nat} (c:b<a.length) (d:p a[b]=H):a.any p=H:=List.any_eq_true.2 ⟨_,jH c,d⟩
theorem any_none {α:Type} {p:α->Bool} {b:List α} (c:∀a (hi:a<b.length),p b[a]=X):b.any p=X:=by
 rw[List.any_eq_false];intro e d;obtain⟨a,hi,rfl⟩:=List.getElem_of_mem d;rw[c a hi]
 decide
end
section
variable {w0 w w':Zw} {D Kb kn:Nat} {kf:KF} {vs:List VarD} {u:Zv} {a:Int}
theorem zt9 (v:VarD) (first:Nat) (at_:Int) (q:CS w0 w D Kb kn kf vs u a) (b7:first<=vs.length) (ba:vs.length<=20) : Calls prog 126 #[Zp (Z (A D 0 F)),qC v,U O (first:Int),U O at_] w (AL w0 D Kb kn kf vs u a v first at_ w):=by
 have aY:prog.cellsOf 52=4:=cell4;obtain⟨aE,hi,aB,aC,aD⟩:=info_parts zbw;obtain⟨ua,uc,rfl,bc,be⟩:=lexs.own_shape q.rl;have az:=q.rl;have b6:=q.lt;have ae:=q.alloc (Zc #[I v.name,Y v.pub,U O v.label,U O v.size] 52);have l:=ae.c6;have aA:∀c,(Value.slice ua vs.length uc).ownBlock=Z c->c<w.heap.size:=fun c e=>(q.rl.lt _ e).2
 have b2:vs.length<=uc:=by
  rcases az.2 with⟨e,aP⟩|⟨s,aI,aK,e,K,aZ,b0,b1,_⟩
  ·omega
  ·injection e with _ _ G;omega
 unfold qC;have au:Q4 w.heap.size (I v.name) (Y v.pub) (U O v.label) (U O v.size) (w.alloc (Zc #[I v.name,Y v.pub,U O v.label,U O v.size] 52)):=⟨oB,oB,oB,oB⟩
 have ad:Below w.heap.size w (w.alloc (Zc #[I v.name,Y v.pub,U O v.label,U O v.size] 52)):=bal _
 by_cases aS:uc=first
 ·obtain rfl:first=vs.length:=oA
  obtain rfl:=aS;have N:(vs.drop vs.length).any (fun m=>eqS m.name v.name)=X:=by rw[List.drop_eq_nil_of_le oA];rfl
  go_enter func126,ntmps126;go_wp2;clear l;generalize w.alloc (Zc #[I v.name,Y v.pub,U O v.label,U O v.size] 52)=E at *;go_loopw [17] (fun R wr=>R=U O 0/\wr=E) (fun _ _=>0)
  case atStart=>exact⟨rfl,rfl⟩
  case round =>
   obtain⟨rfl,rfl⟩:=hrel;have n:=ae;have x:=au;have M:=ad;have a9:Hid ((vs.drop vs.length).any (fun m=>eqS m.name v.name)=X):=N;clear N;have l:=n.c6;obtain⟨a3,a5,a6,a7⟩:=id x;by_cases ar:20<=vs.length;·have T:Hid (Below w0.heap.size w0 wr):=n.bs;exact oz16x144
   ·have h:=n.drew;have d:Q4 w.heap.size (I v.name) (Y v.pub) (U O v.label) (U O v.size) wr.drew:=x;have j:Below w.heap.size w wr.drew:=M.drew;go_wp2;refine wp_region_held_drew (S:=fun ab=>Q4 w.heap.size (I v.name) (Y v.pub) (U O v.label) (U O v.size) ab) oD d (fun i=>?_);clear i l x n M a3 a5 a6 a7;generalize wr.drew=g at *;refine tkP 0 (Zp (Z (A D 0 F))) d ?_;simp only[Act.put,jA,jB,jC];refine tkP 1 (Zp (Z (A D 0 F))) d ?_;simp only[Act.put,jA,jB,jC];refine tkP 2 (Zp (Z (A D 0 F))) d ?_;simp only[Act.put,jA,jB,jC];refine tkP 3 (Zp (Z (A D 6 F))) d ?_;simp only[Act.put,jA,jB,jC];refine tkP 5 (Za #[I v.name,Y v.pub,U O v.label,U O v.size] ) d ?_;simp only[Act.put,jA,jB,jC];refine wpAnyH_ready (rs:=[4,6]) oD oB ?_;refine AllReadyH.cons rfl (fun k f=>?_) (AllReadyH.cons rfl (fun k f=>?_) AllReadyH.nil)
    focus
     have l:=h.c6;go_simp;refine f.out _ _ d (fun i=>?_);clear f k i l;refine oneH 6 fun k f=>?_
     go_simp;have Q:∀b u,[Value.string v.name,Y v.pub,U O v.label,U O v.size][b]?=Z u->(g.alloc (Zc #[I v.name,Y v.pub,U O v.label,U O v.size] 52)).cell? (((A g.heap.size 0 F):Addr).add b)=Z u:=xF _ #[I v.name,Y v.pub,U O v.label,U O v.size] _ _ rfl;have z:g.heap.size+1=(g.alloc (Zc #[I v.name,Y v.pub,U O v.label,U O v.size] 52)).heap.size:=oB;have aj:w.heap.size<=g.heap.size:=j.size;replace j:=j.alloc j.size (Zc #[I v.name,Y v.pub,U O v.label,U O v.size] 52);replace h:=h.alloc (Zc #[I v.name,Y v.pub,U O v.label,U O v.size] 52);replace d:=Q4.alloc d (Zc #[I v.name,Y v.pub,U O v.label,U O v.size] 52);refine f.out _ _ d (fun i=>?_);clear f k i;generalize g.alloc (Zc #[I v.name,Y v.pub,U O v.label,U O v.size] 52)=ac at *;generalize g.heap.size=B at *
    rotate_left
    focus
     go_simp;have Q:∀b u,[Value.string v.name,Y v.pub,U O v.label,U O v.size][b]?=Z u->(g.alloc (Zc #[I v.name,Y v.pub,U O v.label,U O v.size] 52)).cell? (((A g.heap.size 0 F):Addr).add b)=Z u:=xF _ #[I v.name,Y v.pub,U O v.label,U O v.size] _ _ rfl;have z:g.heap.size+1=(g.alloc (Zc #[I v.name,Y v.pub,U O v.label,U O v.size] 52)).heap.size:=oB;have aj:w.heap.size<=g.heap.size:=j.size;replace j:=j.alloc j.size (Zc #[I v.name,Y v.pub,U O v.label,U O v.size] 52);replace h:=h.alloc (Zc #[I v.name,Y v.pub,U O v.label,U O v.size] 52);replace d:=Q4.alloc d (Zc #[I v.name,Y v.pub,U O v.label,U O v.size] 52);refine f.out _ _ d (fun i=>?_);clear f k i;generalize g.alloc (Zc #[I v.name,Y v.pub,U O v.label,U O v.size] 52)=ac at *;generalize g.heap.size=B at *;refine oneH 4 fun k f=>?_
     have l:=h.c6;go_simp;refine f.out _ _ d (fun i=>?_);clear f k i l
    all_goals
     refine oneH 7 fun k f=>?_
     refine step_append_lies _ oI (.tmp 41) (.tmp 43) 35 oI (D+1) 52 aE (Za #[I ⟨#[]⟩,Y X,U O 0,U O 0]) 4 40 underlying35 hi aB aC aD rfl oC (J ua vs.length vs.length) vs.length (qW vs) oK h.rl (A B 0 F) 1 1 [I v.name,Y v.pub,U O v.label,U O v.size] oK rfl Q oF oA (by unfold maxLen;omega) oA (by have:=h.lt;omega) (B+1) z.symm ?_;intro ao aJ ak ag r W aO;have ay:(Value.slice ua vs.length vs.length).ownBlock≠Z w.heap.size:=fun e=>by have:=aA _ e;omega
     have ah:(Value.slice ua vs.length vs.length).ownBlock≠Z D:=fun e=>by have:=(h.rl.lt _ e).1;omega
     have aw:=h.push (v:=v) ag r (W.imp id (fun e=>e.trans z));have L:=r.block D h.lt (fun e=>ah e.symm);have l:=(jM (a:=(A D 6 F)) L).trans h.c6;have aF:=(jN (a:=(A D 6 F)) L).trans (h.fz 6);have aR:=r.size;have aQ:=j.size;have ax:∀c,c<w.heap.size->c≠D->(Value.slice ua vs.length vs.length).ownBlock≠Z c->ak.heap[c]?=w.heap[c]?:=fun c t y K=>(r.block c oA (fun e=>K e.symm)).trans (j.block c t)
     exact oz16x141
 ·obtain⟨s,rfl⟩:∃s,ua=Z (A s 0 F):=by
   rcases az.2 with⟨e,aP⟩|⟨s,aI,aK,e,_⟩
   ·injection e with _ _ G;omega
   ·injection e with V _ _;exact⟨s,V⟩
  go_enter func126,ntmps126;go_wp2;clear l;generalize w.alloc (Zc #[I v.name,Y v.pub,U O v.label,U O v.size] 52)=E at *;go_loopw [17] (fun R wr=>∃b:Nat,b<=vs.length - first/\R=U O b/\Hid (∀o (hi:o<(vs.drop first).length),o<b->eqS (vs.drop first)[o].name v.name=X)/\Below E.heap.size E wr) (fun R _=>vs.length - first - (intOf R).toNat)
  case atStart=>exact⟨0,jz _,rfl,fun o hi q=>absurd q oA,Below.refl _ _⟩
  case round =>
   obtain⟨b,b8,rfl,aa,P⟩:=hrel;have n:=ae.below P;have x:=Q4.below au P;have M:=ad.trans (P.mono ad.size)
   by_cases bb:b<vs.length - first
   ·obtain⟨a3,a5,a6,a7⟩:=id x;have aN:first+b<vs.length:=oA
    obtain⟨am,V,G,an⟩:=zb4 vs (first+b) aN;have aT:=(n.rl.cellAt ((first+b)*4) oA).trans am;have aU:=(n.rl.cellAt ((first+b)*4+1) oA).trans V;have aV:=(n.rl.cellAt ((first+b)*4+2) oA).trans G;have aW:=(n.rl.cellAt ((first+b)*4+3) oA).trans an;rw[show(first+b)*4=first*4+b*4 by omega]at aT aU aV aW;clear am V G an;have aM:b<(vs.drop first).length:=oE;have af:(vs.drop first)[b]=vs[first+b]:=oB;have a8:Hid (∀c,eqS vs[first+b].name v.name=c->c=H->(vs.drop first).any (fun m=>eqS m.name v.name)=H):=fun c t y=>zza aM (by rw[af];exact t.trans y)
    have HS:Hid (∀c,eqS vs[first+b].name v.name=c->c=X->∀o (hi:o<(vs.drop first).length),o<b+1->eqS (vs.drop first)[o].name v.name=X):=fun c t y o hi q=>by
     rcases jL o b with ap | ap
     ·exact aa.out o hi ap
     ·obtain rfl:o=b:=oA;rw[af];exact t.trans y
    clear af;generalize vs[first+b]=C at *;obtain⟨bf,bg,bh,bi⟩:=Q4.alloc x (Zc #[I C.name,Y C.pub,U O C.label,U O C.size] 52);have T:Hid (∀m:Obj,Below w0.heap.size w0 (wr.alloc m)):=fun m=>(n.alloc m).bs
    have av:Hid (Below E.heap.size E wr):=P;cases a2:eqS C.name v.name;·have aL:(C.name.toList==v.name.toList)=X:=a2;have aH:=HS.out _ a2 rfl;clear HS a8;go_wp2;exact⟨⟨b+1,oA,oB,aH,av.out.alloc av.out.size _⟩,by simp[intOf];omega⟩
    ·have aL:(C.name.toList==v.name.toList)=H:=a2;have aG:Hid ((vs.drop first).any (fun m=>eqS m.name v.name)=H):=a8.out _ a2 rfl;clear HS a8;go_wp2_with (go_at_call 87;refine(vD 5 at_ _).mono ?_;rintro e aX ⟨rfl,ai⟩;rw[ai]);exact⟨rfl,.inl ⟨aG.out,rfl,T.out _⟩⟩
   ·have N:(vs.drop first).any (fun m=>eqS m.name v.name)=X:=any_none (fun o hi=>aa.out o hi (by simp at hi;omega));have b9:b=vs.length - first:=oA
    clear aa P;have a9:Hid ((vs.drop first).any (fun m=>eqS m.name v.name)=X):=N;clear N;have l:=n.c6;obtain⟨a3,a5,a6,a7⟩:=id x;by_cases ar:20<=vs.length;·have T:Hid (Below w0.heap.size w0 wr):=n.bs;exact oz16x144
    ·have h:=n.drew;have d:Q4 w.heap.size (I v.name) (Y v.pub) (U O v.label) (U O v.size) wr.drew:=x;have j:Below w.heap.size w wr.drew:=M.drew;go_wp2;refine wp_region_held_drew (S:=fun ab=>Q4 w.heap.size (I v.name) (Y v.pub) (U O v.label) (U O v.size) ab) oD d (fun i=>?_);clear i l x n M a3 a5 a6 a7;generalize wr.drew=g at *;refine tkP 0 (Zp (Z (A D 0 F))) d ?_;simp only[Act.put,jA,jB,jC];refine tkP 1 (Zp (Z (A D 0 F))) d ?_;simp only[Act.put,jA,jB,jC];refine tkP 2 (Zp (Z (A D 0 F))) d ?_;simp only[Act.put,jA,jB,jC];refine tkP 3 (Zp (Z (A D 6 F))) d ?_;simp only[Act.put,jA,jB,jC];refine tkP 5 (Za #[I v.name,Y v.pub,U O v.label,U O v.size] ) d ?_;simp only[Act.put,jA,jB,jC];refine wpAnyH_ready (rs:=[4,6]) oD oB ?_;refine AllReadyH.cons rfl (fun k f=>?_) (AllReadyH.cons rfl (fun k f=>?_) AllReadyH.nil)
     focus
      have l:=h.c6;go_simp;refine f.out _ _ d (fun i=>?_);clear f k i l;refine oneH 6 fun k f=>?_
      go_simp;have Q:∀b u,[Value.string v.name,Y v.pub,U O v.label,U O v.size][b]?=Z u->(g.alloc (Zc #[I v.name,Y v.pub,U O v.label,U O v.size] 52)).cell? (((A g.heap.size 0 F):Addr).add b)=Z u:=xF _ #[I v.name,Y v.pub,U O v.label,U O v.size] _ _ rfl;have z:g.heap.size+1=(g.alloc (Zc #[I v.name,Y v.pub,U O v.label,U O v.size] 52)).heap.size:=oB;have aj:w.heap.size<=g.heap.size:=j.size;replace j:=j.alloc j.size (Zc #[I v.name,Y v.pub,U O v.label,U O v.size] 52);replace h:=h.alloc (Zc #[I v.name,Y v.pub,U O v.label,U O v.size] 52);replace d:=Q4.alloc d (Zc #[I v.name,Y v.pub,U O v.label,U O v.size] 52);refine f.out _ _ d (fun i=>?_);clear f k i;generalize g.alloc (Zc #[I v.name,Y v.pub,U O v.label,U O v.size] 52)=ac at *;generalize g.heap.size=B at *
     rotate_left
     focus
      go_simp;have Q:∀b u,[Value.string v.name,Y v.pub,U O v.label,U O v.size][b]?=Z u->(g.alloc (Zc #[I v.name,Y v.pub,U O v.label,U O v.size] 52)).cell? (((A g.heap.size 0 F):Addr).add b)=Z u:=xF _ #[I v.name,Y v.pub,U O v.label,U O v.size] _ _ rfl;have z:g.heap.size+1=(g.alloc (Zc #[I v.name,Y v.pub,U O v.label,U O v.size] 52)).heap.size:=oB;have aj:w.heap.size<=g.heap.size:=j.size;replace j:=j.alloc j.size (Zc #[I v.name,Y v.pub,U O v.label,U O v.size] 52);replace h:=h.alloc (Zc #[I v.name,Y v.pub,U O v.label,U O v.size] 52);replace d:=Q4.alloc d (Zc #[I v.name,Y v.pub,U O v.label,U O v.size] 52);refine f.out _ _ d (fun i=>?_);clear f k i;generalize g.alloc (Zc #[I v.name,Y v.pub,U O v.label,U O v.size] 52)=ac at *;generalize g.heap.size=B at *;refine oneH 4 fun k f=>?_
      have l:=h.c6;go_simp;refine f.out _ _ d (fun i=>?_);clear f k i l
     all_goals
      refine oneH 7 fun k f=>?_
      refine step_append_lies _ oI (.tmp 41) (.tmp 43) 35 oI (D+1) 52 aE (Za #[I ⟨#[]⟩,Y X,U O 0,U O 0]) 4 40 underlying35 hi aB aC aD rfl oC (J (Z (A s 0 F)) vs.length uc) vs.length (qW vs) oK h.rl (A B 0 F) 1 1 [I v.name,Y v.pub,U O v.label,U O v.size] oK rfl Q oF oA (by unfold maxLen;omega) oA (by have:=h.lt;omega) (B+1) z.symm ?_;intro ao aJ ak ag r W aO;have ay:(Value.slice (Z (A s 0 F)) vs.length uc).ownBlock≠Z w.heap.size:=fun e=>by have:=aA _ e;omega
      have ah:(Value.slice (Z (A s 0 F)) vs.length uc).ownBlock≠Z D:=fun e=>by have:=(h.rl.lt _ e).1;omega
      have aw:=h.push (v:=v) ag r (W.imp id (fun e=>e.trans z));have L:=r.block D h.lt (fun e=>ah e.symm);have l:=(jM (a:=(A D 6 F)) L).trans h.c6;have aF:=(jN (a:=(A D 6 F)) L).trans (h.fz 6);have aR:=r.size;have aQ:=j.size;have ax:∀c,c<w.heap.size->c≠D->(Value.slice (Z (A s 0 F)) vs.length uc).ownBlock≠Z c->ak.heap[c]?=w.heap[c]?:=fun c t y K=>(r.block c oA (fun e=>K e.symm)).trans (j.block c t)
      exact oz16x141
end
theorem zht:∀a:List VarD,(qW a).length=a.length*4
 | []=>rfl
 | v :: r=>by
  show(Value.string v.name :: Y v.pub :: U O v.label :: U O v.size :: qW r).length=_;simp only[jd,zht r];omega
theorem zhn:∀(b:List VarD) (a:Nat),(qW b).take (a*4)=qW (b.take a)
 | [],a=>by simp[qW]
 | v :: r,0=>by simp[qW]
 | v :: r,a+1=>by
  show(Value.string v.name :: Y v.pub :: U O v.label :: U O v.size :: qW r).take ((a+1)*4)=Value.string v.name :: Y v.pub :: U O v.label :: U O v.size :: qW (r.take a);rw[show(a+1)*4=a*4+1+1+1+1 by omega];simp only[List.take_succ_cons,zhn r a]
theorem zyg {w:Zw} {c:Nat} {ua:Option Addr} {uc:Nat} {vs:List VarD} (g:w.ownsRow c 52 4 (J ua vs.length uc) vs.length (qW vs)) {a:Nat} (p:a<=vs.length):w.ownsRow c 52 4 (J ua a uc) (vs.take a).length (qW (vs.take a)):=by
 have m:(vs.take a).length=a:=oQ;refine⟨by rw[zht],?_⟩;rw[m];rcases g.2 with⟨b,n⟩|⟨f,d,e,b,h,i,o,j,k,l⟩
 ·injection b with e1 _ e2;exact .inl ⟨by rw[e1,e2,show a=0 by omega],oA⟩
 ·injection b with e1 _ e2;refine .inr ⟨f,d,e,by rw[e1,e2],h,i,oA,j,k,?_⟩;rw[<- zhn,<- l,List.take_take,Nat.min_eq_left oA]
section
variable {w0 w w':Zw} {D Kb kn:Nat} {kf:KF} {vs:List VarD} {ua:Option Addr} {uc:Nat} {a:Int}
theorem CS.cut (b:CS w0 w D Kb kn kf vs (J ua vs.length uc) a) {n:Nat} (h:n<=vs.length):CS w0 (w.setCell (A D 6 F) (J ua n uc)) D Kb kn kf (vs.take n) (J ua n uc) a:=by
 have f:(Value.slice ua n uc).ownBlock=(Value.slice ua vs.length uc).ownBlock:=by cases ua<;>rfl
 refine⟨b.bs.setCell b.hD _,b.hD,?_,?_,?_,?_,fun i=>?_,b.mp.setCell b.nk _,b.fi,fun p e d=>⟨(b.fw p e d).1,(b.fw p e d).2.1,(jM (a:=p) (jP w (A D 6 F) _ p.block (b.fw p e d).1)).trans (b.fw p e d).2.2⟩,by rw[jQ];exact b.fm,b.mM,fun g c=>b.fu g (by rw[<- f];exact c),?_,b.nk,b.mx,?_⟩;·rw[jD _ _ _ _ oB];exact b.c4
 ·rw[jD _ _ _ _ oB];exact b.c5
 ·exact World.cell?_setCell_same' _ _ _ (by rw[b.c6];rfl)
 ·rw[jD _ _ _ _ oB];exact b.c7
 ·rw[World.frozen?_setCell];exact b.fz i
 ·refine jU (zyg b.rl h) (fun c=>?_) _;rw[f]at c;have j:D+1<=D:=(b.rl.lt _ c).1;omega
 ·rw[f];exact b.nu
end
end chk
namespace chk
open syn face
def Lab (l:Int):Prop:=l=0\/l=1
variable {d e:Int} {g i j:List Loc} {k:ByteArray}
theorem zxv (a:Lab d):jn d 0=d:=by
 unfold jn;rcases a with rfl | rfl<;>decide
theorem zxu (a v:Int):jn v a=jn (jn 0 a) v:=by
 unfold jn;by_cases b:v=0<;>by_cases c:a=0<;>simp[b,c]
theorem ziw {p:Int} (a:Int) (b:Lab p):zE p [a]=(p==1||a==0):=by
 unfold zE jn;rcases b with rfl | rfl
 ·by_cases c:a=0<;>simp[c]
 ·simp
theorem zjg:∀(ps a:List Int),(∀p∈ps,Lab p)->xQ ps a=uV ps a
 | [],a,h=>by
  cases a<;>rfl
 | p :: r,[],h=>rfl
 | p :: r,l :: s,h=>by
  show(zE p [l]&&xQ r s)=((p==1||l==0)&&uV r s)
  rw[ziw l (h p (jJ ..)),zjg r s (fun c b=>h c (jF _ b))]
theorem zy9 {E:Env} {kf:ByteArray->Option FV} {vs:List VarD} (C:∀b,kT b->(xD kf vs b).map (fun v=>(v.label,v.size))=zP E g b) (B:∀b,kT b->vZ kf b=procF E b) (z:∀b v,kT b->xD kf vs b=Z v->Lab v.label/\0<=v.size) (y:∀b p,kT b->vZ kf b=Z p->(∀q∈p.params,Lab q)/\Lab p.writes):Agr E g d kf vs where
 pl:=fun G b a h f x k=>by
  have c:=C b k;rcases x with⟨rfl,rfl⟩|⟨rfl,q,rfl⟩
  ·unfold plP zS;rw[jv rfl,<- c]
   cases o:xD kf vs b with
   | none=>rfl
   | some v =>
    obtain⟨r,w⟩:=z b v k o;dsimp only[Option.map_some];by_cases e:v.size=0;·rw[jv (by simp[e]),jv e];show Res.ok (jn v.label 0,h)=_;rw[zxv r]
    ·rw[ju oE,ju e]
  ·unfold plP zS;rw[ju oC,jv rfl,<- c]
   cases o:xD kf vs b with
   | none=>rfl
   | some v =>
    dsimp only[Option.map_some];by_cases e:0<v.size;·rw[jv (by simp[e]),jv e];show Res.ok (jn v.label q,h)=Res.ok (jn (jn 0 q) v.label,h);rw[zxu]
    ·rw[ju oE,ju e]
 cl:=fun l b a h f k=>by
  refine Eq.trans ?_ (zqm E g d l b f a h).symm;rw[<- B b k];unfold clP
  cases o:vZ kf b with
  | none=>rfl
  | some p =>
   obtain⟨r,w⟩:=y b p k o;dsimp only;rw[zjg _ _ r,ziw d w];by_cases m:f.length=p.params.length
   ·have D:¬(f.length≠p.params.length):=fun c=>c m
    have u:¬(p.params.length≠f.length):=fun c=>c m.symm
    rw[ju D,ju u];by_cases i:p.gives=X/\l=X
    ·have s:(!p.gives&&!l)=H:=by simp[i.1,i.2]
     rw[jv s,jv i]
    ·have s:¬((!p.gives&&!l)=H):=fun c=>i (by simpa using c)
     rw[ju s,ju i];by_cases n:uV p.params f=X;·rw[jv n,jv n]
     ·rw[ju n,ju n];by_cases j:p.writes≠1/\d≠0
      ·have t:(p.writes==1||d==0)=X:=by simp[j.1,j.2]
       rw[jv t,jv j]
      ·have t:¬((p.writes==1||d==0)=X):=fun c=>j (by simpa using c)
       rw[ju t,ju j]
   ·have u:p.params.length≠f.length:=fun c=>m c.symm
    rw[jv m,jv u]
def kJ (L:List Loc):List VarD:=L.map fun l=>⟨l.name,X,l.label,0⟩
def vT (f:FaceD):Prop:=(∀v∈f.vars,Lab v.label/\0<=v.size)/\∀p∈f.procs,(∀l∈p.params,Lab l)/\Lab p.writes/\Lab p.given
def yY (E:Env):Prop:=vT E.own/\∀f∈E.faces,vT f
def qN (L:List Loc):Prop:=∀l∈L,Lab l.label
theorem zgy (a b:Int):Lab (jn a b):=by
 unfold jn Lab;split<;>simp
theorem zi1:∀(b:List Int) (a:Int),Lab a->Lab (joinL b a)
 | [],a,h=>h
 | x :: r,a,h=>zi1 r _ (zgy a x)
theorem ziv {E:Env} {b:FaceD} (c:yY E) (a:dG E k=Z b):vT b:=by
 unfold dG at a;split at a;·cases a;exact c.1
 ·exact c.2 b (List.mem_of_find?_eq_some a)
theorem zmq {E:Env} {v:Int × Int} (d:yY E) (e:qN g) (a:zP E g k=Z v):Lab v.1/\0<=v.2:=by
 unfold zP at a;split at a;·rename_i i h;cases a;exact⟨e i (List.mem_reverse.1 (List.mem_of_find?_eq_some h)),Int.le_refl _⟩
 ·split at a;·cases a
  ·rename_i c f
   cases b:gW c.vars (yJ k)with
   | none=>rw[b]at a;cases a
   | some j =>
    rw[b]at a;simp only[Option.map_some,jh]at a;rw[<- a];exact(ziv d f).1 j (List.mem_of_find?_eq_some b)
theorem zi9 {E:Env} {p:ProcD} (b:yY E) (a:procF E k=Z p):(∀l∈p.params,Lab l)/\Lab p.writes/\Lab p.given:=by
 unfold procF at a;split at a;·cases a
 ·rename_i d c;exact(ziv b c).2 p (List.mem_of_find?_eq_some a)
theorem zwl {E:Env} {h:Bool} {m:List Int} {a f:Int} (c:yY E) (i:qN g) (b:zS E g d h e k m a=.ok f):Lab f:=by
 unfold zS at b;split at b
 ·split at b;·cases b
  ·rename_i v l;split at b;·cases b;exact(zmq c i l).1
   ·cases b
 ·split at b
  ·split at b;·cases b
   ·split at b;·cases b;exact zgy _ _
    ·cases b
  ·split at b
   ·split at b;·cases b
    ·rename_i p j;split at b;·cases b
     ·split at b;·cases b
      ·split at b;·cases b
       ·split at b;·cases b
        ·cases b;exact(zi9 c j).2.2
   ·cases b;exact zi1 _ _ (.inl rfl)
theorem dB {E:Env} {ctx:Int} {alone:Bool} {t:Tree} {a:Int} {q:Int × Int} (c:yY E) (d:qN g) (b:exF E g ctx alone t a=.ok q):Lab q.1:=by
 obtain⟨f,k,j,h⟩:=t;unfold exF at b;split at b;·cases b
 ·split at b;·cases b
  ·rename_i i e;cases b;exact zwl c d e
theorem jn0 (a:Lab d):jn 0 d=d:=by
 rcases a with rfl | rfl<;>decide
theorem fD (E:Env) (d:List Loc) (e:Int) (f:Tree) (a:Int):exL E d e [f] a=match exF E d e X f a with
  | .bad c b=>.bad c b
  | .ok q=>.ok ([q.1],q.2):=by
 simp only[exL];cases exF E d e X f a<;>rfl
theorem zzj {to v a:Int} (b:Lab to) (c:Lab v) (d:Lab a):(zE to [v,a]=X)=(to≠1/\hi v a 0=H):=by
 rcases b with rfl | rfl<;>rcases c with rfl | rfl<;>rcases d with rfl | rfl<;>decide
theorem zph {to v b a:Int} (c:Lab to) (d:Lab v) (e:Lab b) (f:Lab a):(zE to [v,b,a]=X)=(to≠1/\hi v b a=H):=by
 rcases c with rfl | rfl<;>rcases d with rfl | rfl<;>rcases e with rfl | rfl<;>rcases f with rfl | rfl<;>decide
theorem zpg {to a:Int} (b:Lab to) (c:Lab a):(zE to [a]=X)=(to≠1/\a≠0):=by
 rcases b with rfl | rfl<;>rcases c with rfl | rfl<;>decide
theorem zpy {E:Env} {e:Tree} {a:Int} {f:Int × Int × Int} (b:plF E g d e a=.ok f):f.2.2=a+kC e:=by
 obtain⟨i,l,j,c⟩:=e;simp only[plF]at b;split at b;·cases b
 ·rename_i k h;split at b;·cases b
  ·cases b;have:=cG E g d c _ _ h;show k.2=_;rw[show kC (.node i l j c)=kA c+1 by unfold kC;rfl];omega
def Ext (b:Int) (L a:List Loc):Prop:=∃M,a=L++M/\∀m∈M,m.deep=b/\Lab m.label
theorem Ext.refl (b:Int) (a:List Loc):Ext b a a:=⟨[],oB,fun d c=>by cases c⟩
theorem Ext.trans (k:Ext d g i) (l:Ext d i j):Ext d g j:=by
 obtain⟨c,rfl,f⟩:=k;obtain⟨e,rfl,h⟩:=l;refine⟨c++e,oB,fun b m=>?_⟩;rcases List.mem_append.1 m with a | a
 ·exact f b a
 ·exact h b a
theorem Ext.lab (a:Ext d g i) (e:qN g):qN i:=by
 obtain⟨h,rfl,c⟩:=a;intro b f;rcases List.mem_append.1 f with a | a
 ·exact e b a
 ·exact(c b a).2
theorem Ext.take (a:Ext d g i):i.take g.length=g:=by
 obtain⟨b,rfl,c⟩:=a;simp
theorem Ext.len (a:Ext d g i):g.length<=i.length:=by
 obtain⟨b,rfl,c⟩:=a;simp
theorem fH (a:Bool):Lab (bI a):=by
 cases a;·exact .inl rfl
 ·exact .inr rfl
theorem qT (b:Int) (d:ByteArray) (c:Int) (a:List Tree):kC (.node b d c a)=kA a+1:=by
 unfold kC;rfl
theorem vC (a:Tree):kA [a]=kC a:=by
 show kC a+kA []=_;simp[kA]
section
variable (E:Env) (p:Pr)
variable {b c d e:Int} {f:ByteArray}
theorem zyy {j:List Loc} {last:Bool} {n:List Tree} {a:Int} {k:List Loc × Int} (u:StT (.node d f e n)) (m:¬(d=10\/d=11)) (g:xC E p j b c last d f e n a=.ok k):Ext c j k.1/\k.2=a+kC (.node d f e n)/\(j.length<=20->k.1.length<=20):=by
 rw[qT];unfold xC at g
 cases u with
 | loc o y l =>
  rw[jv rfl]at g;split at g;·cases g
  ·rename_i i h;have:=(cG E j b _ _ _ h).1;split at g;·cases g
   ·split at g;·cases g
    ·split at g;·cases g
     ·cases g;refine⟨⟨_,rfl,fun e r=>?_⟩,by show i.2=_;omega,fun _=>oE⟩;simp only[jy]at r;subst r
      exact⟨rfl,fH o⟩
 | set s l =>
  rw[ju oC,jv rfl]at g;dsimp only at g;split at g;·cases g
  ·rename_i i h;have q:=zpy h;split at g;·cases g
   ·rename_i v t;have w:=uI E j b _ _ _ _ t;split at g;·cases g
    ·cases g;refine⟨Ext.refl _ _,?_,id⟩;show v.2=_;show _=a+(kC _+(kC _+kA [])+1)
     simp only[kA]
     omega
 | dd x =>
  rw[ju oC,ju oC,jv rfl]at g;dsimp only at g;split at g;·cases g
  ·rename_i i h;have q:=uI E j b _ _ _ _ h;cases g;refine⟨Ext.refl _ _,?_,id⟩;show i.2=_;rw[vC]
   omega
 | ift _ _=>exact absurd (.inl rfl) m
 | ife _ _ _=>exact absurd (.inl rfl) m
 | whi _ _=>exact absurd (.inr rfl) m
 | out o l =>
  rw[ju oC,ju oC,ju oC,jv rfl]at g;split at g;·cases g
  ·rename_i i h;have:=(cG E j b _ _ _ h).1;split at g;·cases g
   ·cases g
    exact⟨Ext.refl _ _,by show i.2=_;omega,id⟩
 | inn o s =>
  rw[ju oC,ju oC,ju oC,ju oC,jv rfl]at g;dsimp only at g;split at g;·cases g
  ·rename_i i h;have q:=zpy h;split at g;·cases g
   ·split at g;·cases g
    ·cases g;refine⟨Ext.refl _ _,?_,id⟩;show i.2.2=_;rw[vC]
     omega
 | ret l =>
  rw[ju oC,ju oC,ju oC,ju oC,ju oC]at g;split at g;·cases g
  ·rename_i i h;have:=(cG E j b _ _ _ h).1;split at g;·cases g
   ·split at g;·cases g
    ·cases g;exact⟨Ext.refl _ _,by show i.2=_;omega,id⟩
theorem StT.blocks {i:Tree} {l:List Tree} (h:StT (.node b f c (i :: l))) (n:b=10\/b=11):ExT i/\∀g∈l,BlT g:=by
 cases h with
 | loc k o a=>omega
 | set m a=>omega
 | dd j=>omega
 | ift a e=>exact⟨a,fun g d=>oz16y151⟩
 | ife a e j=>exact⟨a,fun g d=>by
   simp only[List.mem_cons,List.not_mem_nil,or_false]at d;rcases d with rfl | rfl
   ·exact e
   ·exact j⟩
 | whi a e=>exact⟨a,fun g d=>oz16y151⟩
 | out k a=>omega
 | inn k m=>omega
 | ret a=>omega
theorem StT.some_kid (a:StT (.node b f c [])):False:=by cases a
mutual
theorem zdx:∀(g:Tree) (d e:Int) (last:Bool) (b:List Loc) (a:Int) (c:List Loc × Int),StT g->stF E p d e last g b a=.ok c->Ext e b c.1/\c.2=a+kC g/\(b.length<=20->c.1.length<=20)
 | .node k x m [],d,e,last,b,a,c,hs,h=>hs.some_kid.elim
 | .node k x m (j :: r),d,e,last,b,a,c,hs,h=>by
  unfold stF at h;split at h
  ·rename_i f;dsimp only at h;split at h;·cases h
   ·rename_i o l;have n:=uI E b d _ _ _ _ l;have i:=zmu r _ _ _ _ _ (hs.blocks f).2 h;rw[i.1,i.2,qT];refine⟨Ext.refl _ _,?_,id⟩;show _=a+(kC j+kA r+1)
    omega
  ·rename_i f;exact zyy E p hs f h
theorem zmu:∀(g:List Tree) (e f:Int) (d:List Loc) (a:Int) (c:List Loc × Int),(∀b∈g,BlT b)->zX E p e f g d a=.ok c->c.1=d/\c.2=a+kA g
 | [],e,f,d,a,c,hs,h=>by
  simp only[zX,Res.ok.injEq]at h;rw[<- h]
  exact⟨rfl,by simp[kA]⟩
 | b :: r,e,f,d,a,c,hs,h=>by
  unfold zX at h;split at h;·cases h
  ·rename_i m k;have i:=zgx b _ _ _ _ _ (hs b (jJ ..)) k;have j:=zmu r _ _ _ _ _ (fun b l=>hs b (jF _ l)) h;rw[j.1,j.2,i.1,i.2];refine⟨rfl,?_⟩;show _=a+(kC b+kA r)
   omega
theorem zgx:∀(e:Tree) (f g:Int) (d:List Loc) (a:Int) (c:List Loc × Int),BlT e->blF E p f g e d a=.ok c->c.1=d/\c.2=a+kC e
 | .node k x m ks,f,g,d,a,c,hs,b=>by
  unfold blF at b;split at b;·cases b
  ·rename_i j i;have h:=zgs ks _ _ _ _ _ (by cases hs with | mk b=>exact b) i;cases b;refine⟨h.1.take,?_⟩;show j.2=_;rw[h.2.1,qT];omega
theorem zgs:∀(j:List Tree) (g f:Int) (e:List Loc) (a:Int) (d:List Loc × Int),(∀c∈j,StT c)->qP E p g f j e a=.ok d->Ext f e d.1/\d.2=a+kA j/\(e.length<=20->d.1.length<=20)
 | [],g,f,e,a,d,hs,b=>by
  simp only[qP,Res.ok.injEq]at b;rw[<- b]
  exact⟨Ext.refl _ _,by simp[kA],id⟩
 | c :: r,g,f,e,a,d,hs,b=>by
  unfold qP at b;split at b;·cases b
  ·rename_i m k;have h:=zdx c _ _ _ _ _ _ (hs c (jJ ..)) k;have i:=zgs r _ _ _ _ _ (fun c l=>hs c (jF _ l)) b;refine⟨h.1.trans i.1,?_,fun b=>i.2.2 (h.2.2 b)⟩;rw[i.2.1,h.2.1];show _=a+(kC c+kA r)
   omega
end
def qK (ctx d:Int):List Tree->List Loc->Int->Res (List Loc × Int)
 | [],L,a=>.ok (L,a)
 | t :: r,L,a=>match stF E p ctx d X t L a with
  | .bad c b=>.bad c b
  | .ok q=>qK ctx d r q.1 q.2
theorem zo6 (d b:Int) (f:b≠1):∀(g:List Tree) (c:List Loc) (a:Int),qP E p d b g c a=qK E p d b g c a
 | [],c,a=>by simp only[qP,qK]
 | t :: r,c,a=>by
  unfold qP qK;rw[show(decide (b=1)&&r.isEmpty)=X by simp[f]];split;·rename_i e;rw[e]
  ·rename_i h e;rw[e];exact zo6 d b f r _ _
theorem zmm (i j:Int) (last:Bool) (c:Int) (g:ByteArray) (f:Int) (e:List Tree) (h:List Loc) (a:Int) (l:StT (.node c g f e)) (b:p.gives=X\/c≠14):stF E p i j last (.node c g f e) h a=stF E p i j X (.node c g f e) h a:=by
 unfold stF;split;·rfl
 ·rename_i d;unfold xC
  cases l with
  | ift _ _=>exact absurd (.inl rfl) d
  | ife _ _ _=>exact absurd (.inl rfl) d
  | whi _ _=>exact absurd (.inr rfl) d
  | ret m =>
   have k:p.gives=X:=by
    rcases b with b | b
    ·exact b
    ·exact absurd rfl b
   rw[k]
   simp
  | _=>rfl
theorem zje (d:Int) (g:p.gives=X):∀(c:List Tree) (b:List Loc) (a:Int),(∀f∈c,StT f)->qP E p d 1 c b a=qK E p d 1 c b a
 | [],b,a,_=>by simp only[qP,qK]
 | .node k x m c :: r,b,a,hs=>by
  unfold qP qK;rw[zmm E p d 1 _ k x m c b a (hs _ (jJ ..)) (.inl g)];split;·rename_i e;rw[e]
  ·rename_i i e;rw[e];exact zje d g r _ _ (fun f h=>hs f (jF _ h))
def yT:List Tree->Bool
 | []=>X
 | [.node k _ _ _]=>k==14
 | _ :: t :: r=>yT (t :: r)
theorem zil (e:Int):∀(d:List Tree) (c:List Loc) (a:Int),(∀f∈d,StT f)->yT d=X->qP E p e 1 d c a=qK E p e 1 d c a
 | [],c,a,_,_=>by simp only[qP,qK]
 | [.node k x m d],c,a,hs,hr=>by
  have i:k≠14:=by
   intro h;subst h;simp[yT]at hr
  unfold qP qK;rw[zmm E p e 1 _ k x m d c a (hs _ (jJ ..)) (.inr i)];split;·rename_i b;rw[b]
  ·rename_i l b;rw[b];simp only[qP,qK]
 | f :: g :: r,c,a,hs,hr=>by
  unfold qP qK;rw[show(decide ((1:Int)=1)&&(g :: r).isEmpty)=X by simp];split;·rename_i b;rw[b]
  ·rename_i l b;rw[b];exact zil e (g :: r) _ _ (fun f j=>hs f (jF _ j)) (by simpa[yT] using hr)
theorem zmn (c:Int) (d:Tree):∀(h:List Tree) (b:List Loc) (a:Int),qP E p c 1 (h++[d]) b a=match qK E p c 1 h b a with
  | .bad g f=>.bad g f
  | .ok e=>stF E p c 1 H d e.1 e.2
 | [],b,a=>by
  show qP E p c 1 [d] b a=_;unfold qP qK;rw[show(decide ((1:Int)=1)&&([]:List Tree).isEmpty)=H by simp];dsimp only
  cases j:stF E p c 1 H d b a with
  | bad g f=>rfl
  | ok e=>simp only[qP]
 | i :: r,b,a=>by
  show qP E p c 1 (i :: (r++[d])) b a=_;unfold qP qK;rw[show(decide ((1:Int)=1)&&(r++[d]).isEmpty)=X by simp]
  cases stF E p c 1 X i b a with
  | bad g f=>rfl
  | ok e=>exact zmn c d r _ _
theorem zgt:∀(j:List Tree) (g f:Int) (e:List Loc) (a:Int) (d:List Loc × Int),(∀c∈j,StT c)->qK E p g f j e a=.ok d->Ext f e d.1/\d.2=a+kA j/\(e.length<=20->d.1.length<=20)
 | [],g,f,e,a,d,hs,b=>by
  simp only[qK,Res.ok.injEq]at b;rw[<- b]
  exact⟨Ext.refl _ _,by simp[kA],id⟩
 | c :: r,g,f,e,a,d,hs,b=>by
  unfold qK at b;split at b;·cases b
  ·rename_i m k;have h:=zdx E p c _ _ _ _ _ _ (hs c (jJ ..)) k;have i:=zgt r _ _ _ _ _ (fun c l=>hs c (jF _ l)) b;refine⟨h.1.trans i.1,?_,fun b=>i.2.2 (h.2.2 b)⟩;rw[i.2.1,h.2.1];show _=a+(kC c+kA r)
   omega
end
structure InvL (L:List Loc) (deep:Int) (first:Nat):Prop where
 le:first<=L.length
 out:∀l∈L.take first,l.deep<deep
 inn:∀l∈L.drop first,l.deep=deep
variable {b c:List Loc} {d:Int}
theorem InvL.any {first:Nat} (f:InvL b d first) (c:ByteArray):b.any (fun a=>a.deep==d&&eqS a.name c)=((kJ b).drop first).any (fun l=>eqS l.name c):=by
 have h:b.any (fun a=>a.deep==d&&eqS a.name c)=(b.take first++b.drop first).any (fun a=>a.deep==d&&eqS a.name c):=by rw[List.take_append_drop]
 rw[h,List.any_append]
 have i:(b.take first).any (fun a=>a.deep==d&&eqS a.name c)=X:=by
  rw[List.any_eq_false];intro a e;have:=f.out a e;have k:(a.deep==d)=X:=oE;simp[k]
 rw[i,Bool.false_or];unfold kJ;rw[<- List.map_drop,List.any_map];have g:∀a∈b.drop first,(a.deep==d&&eqS a.name c)=eqS a.name c:=fun a e=>by simp[f.inn a e]
 generalize b.drop first=j at g
 clear h i f
 induction j with
 | nil=>rfl
 | cons m n ih =>
  rw[List.any_cons,List.any_cons,ih (fun a e=>g a (jF _ e)),g m (jJ ..)];rfl
theorem InvL.ext {first:Nat} (a:InvL b d first) (h:Ext d b c):InvL c d first:=by
 obtain⟨j,rfl,g⟩:=h;refine⟨by have:=a.le;simp;omega,?_,?_⟩;·rw[List.take_append_of_le_length a.le];exact a.out
 ·rw[List.drop_append_of_le_length a.le];intro f i;rcases List.mem_append.1 i with e | e
  ·exact a.inn f e
  ·exact(g f e).1
theorem InvL.enter {first:Nat} (f:InvL b d first):InvL b (d+1) b.length:=by
 refine⟨jE _,?_,?_⟩
 ·intro e a;rw[List.take_length]at a;rw[<- List.take_append_drop first b]at a;rcases List.mem_append.1 a with c | c
  ·have:=f.out e c;omega
  ·have:=f.inn e c;omega
 ·intro e a;rw[List.drop_length]at a;cases a
end chk
end Go.Proofs.YtjkcecppnmlhjaaGreatDoor
