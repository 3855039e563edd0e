/- What turns the state of the program, one by one. -/
import Derived.Test.YtbjppepjmcfkaaaGreatDoorTQr
import Derived.Test.YtbjppepjmcfkaaaGreatDoorTQ06
open Go.Proofs.Tryz
open Go.Value renaming int → U, string → I, slice → J, bool → Y, agg → Za, pointer → Zp
open Go.IntKind renaming i64 → O
open Go.Obj renaming cells → Zc
open Go.Addr renaming mk → A
open Option renaming none → F, some → Z
open Bool renaming true → H
open Go renaming World → Zw, Value → Zv
set_option maxHeartbeats 4000000
set_option linter.unusedVariables false
set_option linter.unusedSimpArgs false
set_option maxRecDepth 100000
namespace Go.Proofs.YtbjppepjmcfkaaaGreatDoor
theorem zpr {p:Prop} (e:p:=by
 exact⟨.tuple #[],by simp[results,results31,go_sem],rfl,m,k,i,⟨_,a.out⟩,rfl⟩):p:=e
theorem zhn {p:Prop} (h:p:=by
 rintro b aj ⟨⟨ps,aT,rfl⟩,a7,a6,a3,G⟩;go_wp2;rw[show u=.stop ak a2 by rw[ah.out,a5];rfl]
 exact⟨rfl,⟨ps,aT,rfl⟩,a7,a6,a3,(a9.out.trans G).any⟩):p:=h
theorem zho {p:Prop} (h:p:=by
 rintro b aj ⟨rfl,a7,a6,a3,G⟩;go_wp2;rw[show u=.back v a2 by rw[ah.out,a5];rfl]
 exact⟨rfl,rfl,a7,a6,a3,(a9.out.trans G).any⟩):p:=h
theorem zhp {p:Prop} (h:p:=by
 exact⟨rfl,⟨ps,aT,rfl⟩,W,V,Q,(af.out.trans z).any⟩):p:=h
theorem zhq {p:Prop} (h:p:=by
 have bu:=ah.out;rw[b]at bu
 exact b2.out (ag.out.symm.trans bu)):p:=h
theorem zpp {p:Prop} (a:p:=by
 rintro K G ⟨rfl,k,j,h,g,Q⟩;have T:=show Hid _ from h
 have S:=show Hid _ from g
 have V:=show Hid _ from Q
 clear h g Q;go_wp2
 go_end0
 rw[z]
 exact⟨rfl,k,j,T.out,S.out,V.out⟩):p:=a
theorem zpq {p:Prop} (a:p:=by
 rintro K G ⟨⟨ps,a5,rfl⟩,k,j,h,g⟩;go_wp2
 exact⟨rfl,⟨ps,a5,rfl⟩,k,j,h,g⟩):p:=a
namespace mdl
open Go.RowKit Go.Maps Go.WideMaps
open syn face mac chk
open ord (tkd gL)
section
variable {p:Pl} {C:Cx} {w0 w w':Zw} {lo hi lo' hi':Zv} {s s':RS} {d B:Nat} {M:ByteArray} {l l2:Lc} {X:Nat->Prop}
theorem zk8 (l:Bool):bits BinOp.and IntKind.i64 (bI l) 1=bI l % 2:=by cases l<;>decide
theorem zr8 (d:Int) (x:ByteArray) (m:Int) (a:Option Addr) (e b:Nat) (w:Zw) : Calls prog 139 #[Za #[U O d,I x,U O m,J a e b]] w fun c w'=>c=.returned (U O (bits BinOp.and IntKind.i64 m 1))/\Below w.heap.size w w':=by
 have f:=kc25;go_enter func139,ntmps139;go_wp2;go_ret;exact⟨rfl,bal _⟩
theorem zq9 (C:Cx) (b:Nat) (M:ByteArray) (l:Lc) (d:Nat) (x:ByteArray) (m:Int) (a:Tree) (s:RS):stM C (b+1) M l d (.node 9 x m [a]) s=(kP C.fuel s).bind fun _ s=>(caM C b M l d a s).bind fun _ s=>.go l s:=by
 conv=>lhs;unfold stM
 rfl
theorem st9 (aO:Gv p C w0) (g:Nat) (ap:CCa p C w0 g) (x:ByteArray) (m:Int) (a:Tree) (aQ:CaT a) (v:Zv) (au:Nod p w0 (.node 9 x m [a]) v) (h:SF p C w0 lo hi s d B M l w) (ay:stM C (g+1) M l d (.node 9 x m [a]) s≠.lost):Calls prog 109 #[Zp (Z (A B 0 F)),v] w (StR p C w0 lo hi d B M w (stM C (g+1) M l d (.node 9 x m [a]) s)):=by
 have aH:=show Hid (CCa p C w0 g)from ap
 have b2:=show Hid _ from ay
 obtain⟨c,e,t,n,x1,o,j,q,k,rfl,aR,aS,ax,aw⟩:=au.kid0 (C:=C);have aJ:=show Hid (Nod p w0 a (Za #[U O n,I x1,U O o,J j q k]))from ax
 have aI:Hid (∀ {lo hi s d w},MR p C w0 lo hi s d w->(w.cell? (A c e F)=Z (U O n)/\w.cell? (A c (e+1) F)=Z (I x1)/\w.cell? (A c (e+2) F)=Z (U O o)/\w.cell? (A c (e+3) F)=Z (J j q k))):=fun aP=>aw aP
 clear ap au ay ax aw;simp only[je,Nat.zero_add]at aR aS |-;have N:=h.below (bal (Zc #[U O 9,I x,U O m,J (Z (A c e F)) 1 t]  25));have a8:=show Hid _ from N
 have af:=show Hid _ from(FK.refl p (fun _=>False) lo hi w).alloc (Zc #[U O 9,I x,U O m,J (Z (A c e F)) 1 t]  25)
 have ao:Hid (∀ {lo' hi' w'},FK p (fun _=>False) lo hi lo' hi' (w.alloc (Zc #[U O 9,I x,U O m,J (Z (A c e F)) 1 t]  25)) w'->BoxC w' w.heap.size #[U O 9,I x,U O m,J (Z (A c e F)) 1 t]  25):=fun aN=>h.side _ _ (fun b=>b) aN
 have aM:=N.f.c0;have bz:=aO.fu;have bK:=N.iv.st;have av:=uJ (fun _=>False) N.m oA;have bF:=h.f.lt;have aY:=h.m.lt;have bG:=p.rd;have an:Hid (lo.ownBlock≠Z w.heap.size/\hi.ownBlock≠Z w.heap.size):=⟨fun b=>by have:=(h.m.rl.lt _ b).2;omega,fun b=>by have:=(h.m.rh.lt _ b).2;omega⟩
 obtain⟨u,ab⟩:∃u,u=stM C (g+1) M l d (.node 9 x m [a]) s:=⟨_,rfl⟩
 rw[<- ab];have ag:=show Hid _ from ab
 clear h N ab;have ae:Hid (∀ {r:Zw},BoxC r w.heap.size #[U O 9,I x,U O m,J (Z (A c e F)) 1 t]  25->r.cell? (A w.heap.size 0 F)=Z (U O 9)/\r.cell? (A w.heap.size 1 F)=Z (I x)/\r.cell? (A w.heap.size 2 F)=Z (U O m)/\r.cell? (A w.heap.size 3 F)=Z (J (Z (A c e F)) 1 t)):=fun K=>⟨K.cell 0 rfl,K.cell 1 rfl,K.cell 2 rfl,K.cell 3 rfl⟩
 go_enter func109,ntmps109;go_wp2_with (fail);refine av.mono ?_;clear av aM
 cases P:kP C.fuel s with
 | lost=>intro b w2 aU;exact aU.elim
 | back v E=>exact absurd P (by unfold kP;split<;>(intro b;cases b))
 | stop ak E =>
  rintro b w2 ⟨⟨ps,aT,rfl⟩,W,V,Q,z⟩;go_wp2;rw[show u=.stop ak E by rw[ag.out,zq9 C g M l d x m a s,P];rfl]
  exact zhp
 | go bP E =>
  rintro b w2 ⟨rfl,W,V,Q,z,_⟩;have ai:=show Hid _ from a8.out.after Q z (a8.out.iv.go (xD C.fuel s) ((vJ s).less oA) P)
  have aC:=show Hid _ from af.out.trans z
  have aD:Hid (W.ownBlock≠Z w.heap.size/\V.ownBlock≠Z w.heap.size):=⟨z.lone oC an.out.1,z.hine oC an.out.2⟩
  have L:=ao.out z;have aZ:=show Hid _ from L
  have bM:w.heap.size<w2.heap.size:=BoxC.lt L;have ad:=BoxC.below L (bal (Zc #[U O n,I x1,U O o,J j q k] 25));have aG:=show Hid _ from ad
  obtain⟨bf,bg,bh,bi⟩:=ae.out L;obtain⟨b6,b7,b8,b9⟩:=ae.out ad;obtain⟨bj,bm,bn,bo⟩:=aI.out Q;have ah:Hid (u=(caM C g M l d a E).bind fun _ s=>.go l s):=by show u=_;rw[ag.out,zq9 C g M l d x m a s,P];rfl
  clear Q z ao a8 af L ad P;go_wp2_with (fail)
  have aB:((caM C g M l d a E).bind fun _ s=>Out.go l s)≠.lost:=fun b=>by
   exact zhq
  have am:=vH aB;have T:=show Hid _ from ai.out.below (bal (Zc #[U O n,I x1,U O o,J j q k] 25))
  have a9:=show Hid _ from aC.out.alloc (Zc #[U O n,I x1,U O o,J j q k] 25)
  refine(aH.out M l d a _ E W V _ B aQ aJ.out T.out am).mono ?_
  cases a5:caM C g M l d a E with
  | lost=>exact absurd a5 am
  | back v a2 =>
   exact zho
  | stop ak a2 =>
   exact zhn
  | go v a2 =>
   rintro b aj ⟨rfl,a7,a6,a3,G,_⟩;have aK:Hid (u=.go l a2):=by show u=_;rw[ah.out,a5];rfl
   have b1:=show Hid _ from a3
   have b0:Hid (FK p (·=B) lo hi a7 a6 w aj):=(a9.out.trans G).any
   have bS:=show Hid _ from(T.out.f.fk G id T.out.nl T.out.nh)
   clear a3 G;go_wp2
   go_end0
   rw[aK.out];exact⟨rfl,a7,a6,b1.out,b0.out,bS.out⟩
theorem zhv (C:Cx) (b:Nat) (M:ByteArray) (l:Lc) (d:Nat) (x:ByteArray) (m:Int) (a:Tree) (s:RS):stM C (b+1) M l d (.node 12 x m [a]) s=(kP C.fuel s).bind fun _ s=>(exM C b M l d a s).bind fun v s=>.go l (uN (m % 2) v s):=by
 conv=>lhs;unfold stM
 rfl
theorem yd3 (aO:Gv p C w0) (g:Nat) (ap:CEx p C w0 g) (x:ByteArray) (D:Bool) (a:Tree) (aQ:ExT a) (v:Zv) (au:Nod p w0 (.node 12 x (bI D) [a]) v) (h:SF p C w0 lo hi s d B M l w) (ay:stM C (g+1) M l d (.node 12 x (bI D) [a]) s≠.lost):Calls prog 109 #[Zp (Z (A B 0 F)),v] w (StR p C w0 lo hi d B M w (stM C (g+1) M l d (.node 12 x (bI D) [a]) s)):=by
 have aH:=show Hid (CEx p C w0 g)from ap
 have b2:=show Hid _ from ay
 obtain⟨c,e,t,n,x1,o,j,q,k,rfl,aR,aS,ax,aw⟩:=au.kid0 (C:=C);have aJ:=show Hid (Nod p w0 a (Za #[U O n,I x1,U O o,J j q k]))from ax
 have aI:Hid (∀ {lo hi s d w},MR p C w0 lo hi s d w->(w.cell? (A c e F)=Z (U O n)/\w.cell? (A c (e+1) F)=Z (I x1)/\w.cell? (A c (e+2) F)=Z (U O o)/\w.cell? (A c (e+3) F)=Z (J j q k))):=fun aP=>aw aP
 clear ap au ay ax aw;simp only[je,Nat.zero_add]at aR aS |-;have N:=h.below (bal (Zc #[U O 12,I x,U O (bI D),J (Z (A c e F)) 1 t]  25));have a8:=show Hid _ from N
 have af:=show Hid _ from(FK.refl p (fun _=>False) lo hi w).alloc (Zc #[U O 12,I x,U O (bI D),J (Z (A c e F)) 1 t]  25)
 have ao:Hid (∀ {lo' hi' w'},FK p (fun _=>False) lo hi lo' hi' (w.alloc (Zc #[U O 12,I x,U O (bI D),J (Z (A c e F)) 1 t]  25)) w'->BoxC w' w.heap.size #[U O 12,I x,U O (bI D),J (Z (A c e F)) 1 t]  25):=fun aN=>h.side _ _ (fun b=>b) aN
 have aM:=N.f.c0;have bz:=aO.fu;have bK:=N.iv.st;have av:=uJ (fun _=>False) N.m oA;have bF:=h.f.lt;have aY:=h.m.lt;have bG:=p.rd;have an:Hid (lo.ownBlock≠Z w.heap.size/\hi.ownBlock≠Z w.heap.size):=⟨fun b=>by have:=(h.m.rl.lt _ b).2;omega,fun b=>by have:=(h.m.rh.lt _ b).2;omega⟩
 obtain⟨u,ab⟩:∃u,u=stM C (g+1) M l d (.node 12 x (bI D) [a]) s:=⟨_,rfl⟩
 rw[<- ab];have ag:=show Hid _ from ab
 clear h N ab;have ae:Hid (∀ {r:Zw},BoxC r w.heap.size #[U O 12,I x,U O (bI D),J (Z (A c e F)) 1 t]  25->r.cell? (A w.heap.size 0 F)=Z (U O 12)/\r.cell? (A w.heap.size 1 F)=Z (I x)/\r.cell? (A w.heap.size 2 F)=Z (U O (bI D))/\r.cell? (A w.heap.size 3 F)=Z (J (Z (A c e F)) 1 t)):=fun K=>⟨K.cell 0 rfl,K.cell 1 rfl,K.cell 2 rfl,K.cell 3 rfl⟩
 go_enter func109,ntmps109;go_wp2_with (fail);refine av.mono ?_;clear av aM
 cases P:kP C.fuel s with
 | lost=>intro b w2 aU;exact aU.elim
 | back v E=>exact absurd P (by unfold kP;split<;>(intro b;cases b))
 | stop ak E =>
  rintro b w2 ⟨⟨ps,aT,rfl⟩,W,V,Q,z⟩;go_wp2;rw[show u=.stop ak E by rw[ag.out,zhv C g M l d x (bI D) a s,P];rfl]
  exact zhp
 | go bP E =>
  rintro b w2 ⟨rfl,W,V,Q,z,_⟩;have ai:=show Hid _ from a8.out.after Q z (a8.out.iv.go (xD C.fuel s) ((vJ s).less oA) P)
  have aC:=show Hid _ from af.out.trans z
  have aD:Hid (W.ownBlock≠Z w.heap.size/\V.ownBlock≠Z w.heap.size):=⟨z.lone oC an.out.1,z.hine oC an.out.2⟩
  have L:=ao.out z;have aZ:=show Hid _ from L
  have bM:w.heap.size<w2.heap.size:=BoxC.lt L;have ad:=BoxC.below L (bal (Zc #[U O n,I x1,U O o,J j q k] 25));have aG:=show Hid _ from ad
  obtain⟨bf,bg,bh,bi⟩:=ae.out L;obtain⟨b6,b7,b8,b9⟩:=ae.out ad;obtain⟨bj,bm,bn,bo⟩:=aI.out Q;have ah:Hid (u=(exM C g M l d a E).bind fun v s=>.go l (uN (bI D % 2) v s)):=by show u=_;rw[ag.out,zhv C g M l d x (bI D) a s,P];rfl
  clear Q z ao a8 af L ad P;go_wp2_with (fail)
  have aB:((exM C g M l d a E).bind fun v s=>Out.go l (uN (bI D % 2) v s))≠.lost:=fun b=>by
   exact zhq
  have c9:=show Hid _ from aB
  have am:=vH aB;clear aB;have aV:Hid (W.ownBlock≠Z w2.heap.size/\V.ownBlock≠Z w2.heap.size):=⟨fun b=>by have:=(ai.out.m.rl.lt _ b).2;omega,fun b=>by have:=(ai.out.m.rh.lt _ b).2;omega⟩
  have be:=(ai.out.below (bal (Zc #[U O n,I x1,U O o,J j q k] 25)).drew).f.c0;have bc:=BoxC.new w2 #[U O n,I x1,U O o,J j q k] 25;refine wp_region_held_drew (S:=fun r=>BoxC r w.heap.size #[U O 12,I x,U O (bI D),J (Z (A c e F)) 1 t]  25/\BoxC r w2.heap.size #[U O n,I x1,U O o,J j q k] 25/\r.cell? (A B 0 F)=Z (Zp (Z (A p.R 0 F)))) oB ⟨aG.out,bc,be⟩ (fun aA=>?_);have y:BoxC (w2.alloc (Zc #[U O n,I x1,U O o,J j q k] 25)).drew w.heap.size #[U O 12,I x,U O (bI D),J (Z (A c e F)) 1 t]  25/\BoxC (w2.alloc (Zc #[U O n,I x1,U O o,J j q k] 25)).drew w2.heap.size #[U O n,I x1,U O o,J j q k] 25/\(w2.alloc (Zc #[U O n,I x1,U O o,J j q k] 25)).drew.cell? (A B 0 F)=Z (Zp (Z (A p.R 0 F))):=⟨aG.out,bc,be⟩
  have T:=show Hid _ from ai.out.below (bal (Zc #[U O n,I x1,U O o,J j q k] 25)).drew
  have a9:=show Hid _ from(aC.out.alloc (Zc #[U O n,I x1,U O o,J j q k] 25)).drew
  have bX:Hid (∀ {r:Zw},BoxC r w2.heap.size #[U O n,I x1,U O o,J j q k] 25->r.cell? (A w2.heap.size 0 F)=Z (U O n)/\r.cell? (A w2.heap.size 1 F)=Z (I x1)/\r.cell? (A w2.heap.size 2 F)=Z (U O o)/\r.cell? (A w2.heap.size 3 F)=Z (J j q k)):=fun K=>⟨K.cell 0 rfl,K.cell 1 rfl,K.cell 2 rfl,K.cell 3 rfl⟩
  clear aA ai aC aZ aG bf bg bh bi b6 b7 b8 b9 bj bm bn bo bc be;generalize World.drew _=r at *;refine tkS (i:=0) (v:=Zp (Z (A B 0 F))) rfl rfl (Or.inl ⟨oG,fun az ac=>oF⟩) y ?_;simp only[jA,jB,jC];refine tkS (i:=1) (v:=Zp (Z (A B 0 F))) rfl rfl (Or.inl ⟨oG,fun az ac=>oF⟩) y ?_;simp only[jA,jB,jC];refine tkS (i:=2) (v:=Zp (Z (A B 0 F))) rfl rfl (Or.inl ⟨oG,fun az ac=>oF⟩) y ?_;simp only[jA,jB,jC];refine tkS (i:=3) (v:=Zp (Z (A p.R 0 F))) rfl rfl (Or.inl ⟨oG,fun az ac=>by have bR:=ac.2.2;go_simp⟩) y ?_;simp only[jA,jB,jC];refine tkS (i:=4) (v:=Zp (Z (A p.R 0 F))) rfl rfl (Or.inl ⟨oG,fun az ac=>oF⟩) y ?_;simp only[jA,jB,jC];refine tkS (i:=5) (v:=Zp (Z (A p.R 2 F))) rfl rfl (Or.inl ⟨oG,fun az ac=>oF⟩) y ?_;simp only[jA,jB,jC];refine tkS (i:=6) (v:=Za #[U O 12,I x,U O (bI D),J (Z (A c e F)) 1 t] ) rfl rfl (Or.inl ⟨oG,fun az ac=>by obtain⟨bR,cb,cc,cd⟩:=ae.out ac.1;go_simp⟩) y ?_;simp only[jA,jB,jC];refine tkS (i:=8) (v:=Zp (Z (A B 0 F))) rfl rfl (Or.inl ⟨oG,fun az ac=>oF⟩) y ?_;simp only[jA,jB,jC];refine tkS (i:=9) (v:=Za #[U O n,I x1,U O o,J j q k] ) rfl rfl (Or.inl ⟨oG,fun az ac=>by obtain⟨bR,cb,cc,cd⟩:=bX.out ac.2.1;go_simp⟩) y ?_;simp only[jA,jB,jC];refine oneH 7 fun aL ar=>?_
  go_simp;go_at_call 139;refine(zr8 12 x (bI D) _ _ _ r).mono ?_;rw[zk8];rintro b aW ⟨rfl,aF⟩;have ba:BoxC aW w.heap.size #[U O 12,I x,U O (bI D),J (Z (A c e F)) 1 t] 25/\BoxC aW w2.heap.size #[U O n,I x1,U O o,J j q k] 25/\aW.cell? (A B 0 F)=Z (Zp (Z (A p.R 0 F))):=⟨BoxC.below y.1 aF,BoxC.below y.2.1 aF,mac.keep y.2.2 aF⟩
  refine ar.out _ _ ba (fun aA=>?_);have bs:=show Hid _ from T.out.below aF
  have bp:=show Hid _ from a9.out.below aF
  clear ar aL aA aF y T a9;have T:=bs;have a9:=bp;have y:=ba;clear ba bs bp;refine oneH 10 fun aL ar=>?_
  go_simp;go_at_call 141;refine(aH.out M l d a _ E W V aW B aQ aJ.out T.out am).mono ?_
  cases a5:exM C g M l d a E with
  | lost=>exact absurd a5 am
  | back v a2 =>
   exact zho
  | stop ak a2 =>
   exact zhn
  | go v a2 =>
   rintro b aj ⟨rfl,a7,a6,a3,G,_⟩;have aK:Hid (u=.go l (uN (bI D % 2) v a2)):=by show u=_;rw[ah.out,a5];rfl
   have bB:a7.ownBlock≠Z w.heap.size/\a6.ownBlock≠Z w.heap.size:=⟨G.lone y.1.lt aD.out.1,G.hine y.1.lt aD.out.2⟩
   have bC:a7.ownBlock≠Z w2.heap.size/\a6.ownBlock≠Z w2.heap.size:=⟨G.lone y.2.1.lt aV.out.1,G.hine y.2.1.lt aV.out.2⟩
   have bq:=show Hid _ from bB
   have br:=show Hid _ from bC
   have bb:=y;clear y;have aa:=show Hid _ from T.out.after a3 G (T.out.iv.go ((gds C g).ex ..) ((gks C g).ex ..) a5)
   have y:BoxC aj w.heap.size #[U O 12,I x,U O (bI D),J (Z (A c e F)) 1 t] 25/\BoxC aj w2.heap.size #[U O n,I x1,U O o,J j q k] 25/\aj.cell? (A B 0 F)=Z (Zp (Z (A p.R 0 F))):=⟨G.box bb.1 aY id aD.out.1 aD.out.2,G.box bb.2.1 oA id aV.out.1 aV.out.2,aa.out.f.c0⟩
   refine ar.out _ _ y (fun aA=>?_);have c6:=show Hid _ from a9.out.trans G
   have cf:=aa.out.iv.oL;have ce:=aa.out.iv.oH;have cg:=aa.out.iv.st;clear ar aL aA a3 G a5 am ah c9 bb T a9 bB bC;refine oneH 11 fun aL ar=>?_
   go_simp;go_at_call 146;refine(ydx (fun _=>False) aa.out.m (bI D % 2) v (by cases D<;>simp[bI]) oA oA).mono ?_;rintro b aX ⟨rfl,bN,bA,bv,aE,_⟩;have bw:BoxC aX w.heap.size #[U O 12,I x,U O (bI D),J (Z (A c e F)) 1 t] 25/\BoxC aX w2.heap.size #[U O n,I x1,U O o,J j q k] 25/\aX.cell? (A B 0 F)=Z (Zp (Z (A p.R 0 F))):=⟨aE.box y.1 aY id bq.out.1 bq.out.2,aE.box y.2.1 oA id br.out.1 br.out.2,(aa.out.f.fk aE id aa.out.nl aa.out.nh).c0⟩
   refine ar.out _ _ bw (fun aA=>?_);have c8:=show Hid _ from bv
   have ca:=show Hid _ from aa.out.f.fk aE id aa.out.nl aa.out.nh
   have c7:Hid (FK p (·=B) lo hi bN bA w aX):=(c6.out.trans aE).any
   clear ar aL aA bv aE y bw;refine wpAnyH_done oB ?_ _;go_wp2
   go_end0
   rw[aK.out];exact⟨rfl,bN,bA,c8.out,c7.out,ca.out⟩
theorem zqa (C:Cx) (b:Nat) (M:ByteArray) (l:Lc) (d:Nat) (x:ByteArray) (m:Int) (a:Tree) (s:RS):stM C (b+1) M l d (.node 14 x m [a]) s=(kP C.fuel s).bind fun _ s=>(exM C b M l d a s).bind fun v s=>.back v s:=by
 conv=>lhs;unfold stM
 rfl
theorem yd5 (aO:Gv p C w0) (g:Nat) (ap:CEx p C w0 g) (x:ByteArray) (m:Int) (a:Tree) (aQ:ExT a) (v:Zv) (au:Nod p w0 (.node 14 x m [a]) v) (h:SF p C w0 lo hi s d B M l w) (ay:stM C (g+1) M l d (.node 14 x m [a]) s≠.lost):Calls prog 109 #[Zp (Z (A B 0 F)),v] w (StR p C w0 lo hi d B M w (stM C (g+1) M l d (.node 14 x m [a]) s)):=by
 have aH:=show Hid (CEx p C w0 g)from ap
 have b2:=show Hid _ from ay
 obtain⟨c,e,t,n,x1,o,j,q,k,rfl,aR,aS,ax,aw⟩:=au.kid0 (C:=C);have aJ:=show Hid (Nod p w0 a (Za #[U O n,I x1,U O o,J j q k]))from ax
 have aI:Hid (∀ {lo hi s d w},MR p C w0 lo hi s d w->(w.cell? (A c e F)=Z (U O n)/\w.cell? (A c (e+1) F)=Z (I x1)/\w.cell? (A c (e+2) F)=Z (U O o)/\w.cell? (A c (e+3) F)=Z (J j q k))):=fun aP=>aw aP
 clear ap au ay ax aw;simp only[je,Nat.zero_add]at aR aS |-;have N:=h.below (bal (Zc #[U O 14,I x,U O m,J (Z (A c e F)) 1 t]  25));have a8:=show Hid _ from N
 have af:=show Hid _ from(FK.refl p (fun _=>False) lo hi w).alloc (Zc #[U O 14,I x,U O m,J (Z (A c e F)) 1 t]  25)
 have ao:Hid (∀ {lo' hi' w'},FK p (fun _=>False) lo hi lo' hi' (w.alloc (Zc #[U O 14,I x,U O m,J (Z (A c e F)) 1 t]  25)) w'->BoxC w' w.heap.size #[U O 14,I x,U O m,J (Z (A c e F)) 1 t]  25):=fun aN=>h.side _ _ (fun b=>b) aN
 have aM:=N.f.c0;have bz:=aO.fu;have bK:=N.iv.st;have av:=uJ (fun _=>False) N.m oA;have bF:=h.f.lt;have aY:=h.m.lt;have bG:=p.rd;have an:Hid (lo.ownBlock≠Z w.heap.size/\hi.ownBlock≠Z w.heap.size):=⟨fun b=>by have:=(h.m.rl.lt _ b).2;omega,fun b=>by have:=(h.m.rh.lt _ b).2;omega⟩
 obtain⟨u,ab⟩:∃u,u=stM C (g+1) M l d (.node 14 x m [a]) s:=⟨_,rfl⟩
 rw[<- ab];have ag:=show Hid _ from ab
 clear h N ab;have ae:Hid (∀ {r:Zw},BoxC r w.heap.size #[U O 14,I x,U O m,J (Z (A c e F)) 1 t]  25->r.cell? (A w.heap.size 0 F)=Z (U O 14)/\r.cell? (A w.heap.size 1 F)=Z (I x)/\r.cell? (A w.heap.size 2 F)=Z (U O m)/\r.cell? (A w.heap.size 3 F)=Z (J (Z (A c e F)) 1 t)):=fun K=>⟨K.cell 0 rfl,K.cell 1 rfl,K.cell 2 rfl,K.cell 3 rfl⟩
 go_enter func109,ntmps109;go_wp2_with (fail);refine av.mono ?_;clear av aM
 cases P:kP C.fuel s with
 | lost=>intro b w2 aU;exact aU.elim
 | back v E=>exact absurd P (by unfold kP;split<;>(intro b;cases b))
 | stop ak E =>
  rintro b w2 ⟨⟨ps,aT,rfl⟩,W,V,Q,z⟩;go_wp2;rw[show u=.stop ak E by rw[ag.out,zqa C g M l d x m a s,P];rfl]
  exact zhp
 | go bP E =>
  rintro b w2 ⟨rfl,W,V,Q,z,_⟩;have ai:=show Hid _ from a8.out.after Q z (a8.out.iv.go (xD C.fuel s) ((vJ s).less oA) P)
  have aC:=show Hid _ from af.out.trans z
  have aD:Hid (W.ownBlock≠Z w.heap.size/\V.ownBlock≠Z w.heap.size):=⟨z.lone oC an.out.1,z.hine oC an.out.2⟩
  have L:=ao.out z;have aZ:=show Hid _ from L
  have bM:w.heap.size<w2.heap.size:=BoxC.lt L;have ad:=BoxC.below L (bal (Zc #[U O n,I x1,U O o,J j q k] 25));have aG:=show Hid _ from ad
  obtain⟨bf,bg,bh,bi⟩:=ae.out L;obtain⟨b6,b7,b8,b9⟩:=ae.out ad;obtain⟨bj,bm,bn,bo⟩:=aI.out Q;have ah:Hid (u=(exM C g M l d a E).bind fun v s=>.back v s):=by show u=_;rw[ag.out,zqa C g M l d x m a s,P];rfl
  clear Q z ao a8 af L ad P;go_wp2_with (fail)
  have aB:((exM C g M l d a E).bind fun v s=>(Out.back v s:Out Lc))≠.lost:=fun b=>by
   exact zhq
  have am:=vH aB;have T:=show Hid _ from ai.out.below (bal (Zc #[U O n,I x1,U O o,J j q k] 25))
  have a9:=show Hid _ from aC.out.alloc (Zc #[U O n,I x1,U O o,J j q k] 25)
  refine(aH.out M l d a _ E W V _ B aQ aJ.out T.out am).mono ?_
  cases a5:exM C g M l d a E with
  | lost=>exact absurd a5 am
  | back v a2 =>
   exact zho
  | stop ak a2 =>
   exact zhn
  | go v a2 =>
   rintro b aj ⟨rfl,a7,a6,a3,G,_⟩;have aK:Hid (u=.back v a2):=by show u=_;rw[ah.out,a5];rfl
   have b1:=show Hid _ from a3
   have b0:Hid (FK p (·=B) lo hi a7 a6 w aj):=(a9.out.trans G).any
   clear a3 G;go_wp2;rw[aK.out];exact⟨rfl,rfl,a7,a6,b1.out,b0.out⟩
end
section
variable {p:Pl} {C:Cx} {w0 w w':Zw} {lo hi lo' hi':Zv} {s s':RS} {d B:Nat} {M:ByteArray} {l l2:Lc} {X:Nat->Prop}
def dM (p:Pl) (C:Cx) (w0:Zw) (t:Tree) (g o:Nat):Prop:=∃c x1 e a f b,Nod p w0 t (Za #[U O c,I x1,U O e,J a f b])/\(∀ {lo hi s d w},MR p C w0 lo hi s d w->w.cell? (A g o F)=Z (U O c)/\w.cell? (A g (o+1) F)=Z (I x1)/\w.cell? (A g (o+2) F)=Z (U O e)/\w.cell? (A g (o+3) F)=Z (J a f b))
theorem Nod.kidsB {i:Int} {x:ByteArray} {m:Int} {a:List Tree} {v:Zv} (o:Nod p w0 (.node i x m a) v) (y:a≠[]):∃d e c,v=Za #[U O i,I x,U O m,J (Z (A d e F)) a.length c]/\a.length<=c/\a.length<=4611686018427387904/\∀b (hi:b<a.length),dM p C w0 a[b] d (e+b*4):=by
 obtain⟨G,c,rfl,q,r,t⟩:=o.kids (C:=C);obtain⟨d,e,rfl,w⟩:=t y;refine⟨d,e,c,rfl,q,r,fun b hi=>?_⟩;obtain⟨z,B,D,E,h,u⟩:=w b hi;obtain⟨j,x1,k,f,l,g,n⟩:=h.shape;obtain⟨rfl,rfl,rfl,rfl⟩:z=U O j/\B=I x1/\D=U O k/\E=J f l g:=by simpa using n
 exact⟨j,x1,k,f,l,g,h,fun s=>u s⟩
def fZ (C:Cx) (g:Nat) (M:ByteArray) (l:Lc) (d:Nat) (f:Bool) (b:Tree) (r:List Tree) (s:RS):Out Lc:=if f then blM C g M l d b s else match r with
 | c :: _=>blM C g M l d c s
 | []=>.go l s
theorem zzw (b:Nat) (o:CBl p C w0 b) (y:Bool) (f:Tree) (i:List Tree) (a3:BlT f) (E:∀n∈i,BlT n) (a7:i.length<=1) (L N n:Nat) (ag:i.length+1<=n) (R:dM p C w0 f L N) (D:∀e q,i=e :: q->dM p C w0 e L (N+4)) (a:SF p C w0 lo hi s d B M l w) (c:fZ C b M l d y f i s≠.lost):Calls prog 145 #[Zp (Z (A B 0 F)),Y y,J (Z (A L N F)) (i.length+1) n] w (StR p C w0 lo hi d B M w (fZ C b M l d y f i s)):=by
 have af:=kc25
 cases y with
 | true =>
  have c:blM C b M l d f s≠.lost:=c;show Calls _ _ _ _ (StR p C w0 lo hi d B M w (blM C b M l d f s));obtain⟨a8,x1,a9,W,aa,a2,t,r⟩:=R;obtain⟨ab,ac,ad,ae⟩:=r a.m;have u:=o M l d f _ s lo hi w B a3 t a c;clear o t r a D E;go_enter func145,ntmps145;go_wp2_with (fail);refine u.mono ?_;clear u
  cases z:blM C b M l d f s with
  | lost=>exact absurd z c
  | back v x =>
   rintro K G ⟨rfl,k,j,h,g⟩;go_wp2
   exact⟨rfl,rfl,k,j,h,g⟩
  | stop n x =>
   exact zpq
  | go l2 x =>
   exact zpp
 | false =>
  cases i with
  | nil =>
   show Calls _ _ _ _ (StR p C w0 lo hi d B M w (.go l s));have P:=show Hid _ from a
   clear o a D E R c;go_enter func145,ntmps145;go_wp2
   go_end0
   exact⟨rfl,lo,hi,P.out.m,FK.refl ..,P.out.f⟩
  | cons e q =>
   have c:blM C b M l d e s≠.lost:=c;show Calls _ _ _ _ (StR p C w0 lo hi d B M w (blM C b M l d e s));obtain⟨a8,x1,a9,W,aa,a2,t,r⟩:=D e q rfl;obtain⟨ab,ac,ad,ae⟩:=r a.m;have u:=o M l d e _ s lo hi w B (E e oC) t a c
   have a6:q=[]:=by cases q with
    | nil=>rfl
    | cons _ _=>simp at a7
   subst a6;clear o t r a D E;go_enter func145,ntmps145;go_wp2_with (fail);refine u.mono ?_;clear u
   cases z:blM C b M l d e s with
   | lost=>exact absurd z c
   | back v x =>
    rintro K G ⟨rfl,k,j,h,g⟩;go_wp2
    exact⟨rfl,rfl,k,j,h,g⟩
   | stop n x =>
    exact zpq
   | go l2 x =>
    exact zpp
end
section
variable {p:Pl} {C:Cx} {w0 w w':Zw} {lo hi lo' hi':Zv} {s s':RS} {d B:Nat} {M:ByteArray} {l l2:Lc} {X:Nat->Prop}
theorem zp7 (C:Cx) (b:Nat) (M:ByteArray) (l:Lc) (d:Nat) (x:ByteArray) (m:Int) (a e:Tree) (f:List Tree) (s:RS):stM C (b+1) M l d (.node 10 x m (a :: e :: f)) s=(kP C.fuel s).bind fun _ s=>(exM C b M l d a s).bind fun v s=>fZ C b M l d (decide (v≠0)) e f s:=by
 have h:∀(v:Int) (s:RS),(if v≠0 then blM C b M l d e s else match(e :: f:List Tree)with | _ :: c :: _=>blM C b M l d c s | _=>.go l s)=fZ C b M l d (decide (v≠0)) e f s:=fun v s=>by
  unfold fZ;by_cases g:v≠0;·rw[jv g,decide_eq_true g];rfl
  ·rw[ju g,decide_eq_false g];cases f<;>rfl
 conv=>lhs;unfold stM
 refine congrArg (Out.bind (kP C.fuel s)) (funext fun _=>funext fun i=>?_);exact congrArg (Out.bind (exM C b M l d a i)) (funext fun v=>funext fun j=>h v j)
theorem zse (bP:Gv p C w0) (g:Nat) (aZ:CEx p C w0 g) (aX:CBl p C w0 g) (x:ByteArray) (m:Int) (a n:Tree) (b:List Tree) (c9:b.length<=1) (bS:ExT a) (bX:BlT n) (bf:∀K∈b,BlT K) (v:Zv) (b0:Nod p w0 (.node 10 x m (a :: n :: b)) v) (Q:SF p C w0 lo hi s d B M l w) (be:stM C (g+1) M l d (.node 10 x m (a :: n :: b)) s≠.lost):Calls prog 109 #[Zp (Z (A B 0 F)),v] w (StR p C w0 lo hi d B M w (stM C (g+1) M l d (.node 10 x m (a :: n :: b)) s)):=by
 have bj:=show Hid (CEx p C w0 g)from aZ
 have bg:=show Hid (CBl p C w0 g)from aX
 have bu:=show Hid _ from be
 obtain⟨e,f,y,rfl,c6,c7,ax⟩:=b0.kidsB (C:=C) oC;obtain⟨r,x1,t,k,u,o,aL,aK⟩:=ax 0 oC;have b8:dM p C w0 n e (f+4):=ax 1 oC;have b9:∀a8 q,b=a8 :: q->dM p C w0 a8 e (f+4+4):=fun a8 q c=>by subst c;exact ax 2 oC
 have bo:=show Hid (dM p C w0 n e (f+4))from b8
 have bq:Hid (∀a8 q,b=a8 :: q->dM p C w0 a8 e (f+4+4)):=b9;have bw:Hid (∀K∈b,BlT K):=bf;simp only[Nat.zero_mul,Nat.add_zero,jI,jd]at aL aK c6 c7 |-;have br:=show Hid (Nod p w0 a (Za #[U O r,I x1,U O t,J k u o]))from aL
 have bp:Hid (∀ {lo hi s d w},MR p C w0 lo hi s d w->(w.cell? (A e f F)=Z (U O r)/\w.cell? (A e (f+1) F)=Z (I x1)/\w.cell? (A e (f+2) F)=Z (U O t)/\w.cell? (A e (f+3) F)=Z (J k u o))):=fun bR=>aK bR
 clear aZ aX b0 be aL aK ax b8 b9 bf;have aj:=Q.below (bal (Zc #[U O 10,I x,U O m,J (Z (A e f F)) (b.length+1+1) y]  25));have ay:=show Hid _ from aj
 have aC:=show Hid _ from(FK.refl p (fun _=>False) lo hi w).alloc (Zc #[U O 10,I x,U O m,J (Z (A e f F)) (b.length+1+1) y]  25)
 have aU:Hid (∀ {lo' hi' w'},FK p (fun _=>False) lo hi lo' hi' (w.alloc (Zc #[U O 10,I x,U O m,J (Z (A e f F)) (b.length+1+1) y]  25)) w'->BoxC w' w.heap.size #[U O 10,I x,U O m,J (Z (A e f F)) (b.length+1+1) y]  25):=fun bN=>Q.side _ _ (fun c=>c) bN
 have bK:=aj.f.c0;have cn:=bP.fu;have cq:=aj.iv.st;have b2:=uJ (fun _=>False) aj.m oA;have co:=Q.f.lt;have aY:=Q.m.lt;have cp:=p.rd;have aT:Hid (lo.ownBlock≠Z w.heap.size/\hi.ownBlock≠Z w.heap.size):=⟨fun c=>by have:=(Q.m.rl.lt _ c).2;omega,fun c=>by have:=(Q.m.rh.lt _ c).2;omega⟩
 obtain⟨D,aG⟩:∃D,D=stM C (g+1) M l d (.node 10 x m (a :: n :: b)) s:=⟨_,rfl⟩
 rw[<- aG];have aD:=show Hid _ from aG
 clear Q aj aG;have az:Hid (∀ {j:Zw},BoxC j w.heap.size #[U O 10,I x,U O m,J (Z (A e f F)) (b.length+1+1) y]  25->j.cell? (A w.heap.size 0 F)=Z (U O 10)/\j.cell? (A w.heap.size 1 F)=Z (I x)/\j.cell? (A w.heap.size 2 F)=Z (U O m)/\j.cell? (A w.heap.size 3 F)=Z (J (Z (A e f F)) (b.length+1+1) y)):=fun G=>⟨G.cell 0 rfl,G.cell 1 rfl,G.cell 2 rfl,G.cell 3 rfl⟩
 go_enter func109,ntmps109;go_wp2_with (fail);refine b2.mono ?_;clear b2 bK
 cases am:kP C.fuel s with
 | lost=>intro c w2 c8;exact c8.elim
 | back v W=>exact absurd am (by unfold kP;split<;>(intro c;cases c))
 | stop K W =>
  rintro c w2 ⟨⟨ps,ak,rfl⟩,an,ah,af,L⟩;go_wp2;rw[show D=.stop K W by rw[aD.out,zp7 C g M l d x m a n b s,am];rfl]
  exact⟨rfl,⟨ps,ak,rfl⟩,an,ah,af,(aC.out.trans L).any⟩
 | go ct W =>
  rintro c w2 ⟨rfl,an,ah,af,L,_⟩;have au:=show Hid _ from ay.out.after af L (ay.out.iv.go (xD C.fuel s) ((vJ s).less oA) am)
  have aP:=show Hid _ from aC.out.trans L
  have ap:Hid (an.ownBlock≠Z w.heap.size/\ah.ownBlock≠Z w.heap.size):=⟨L.lone oC aT.out.1,L.hine oC aT.out.2⟩
  have ag:=aU.out L;have bi:=show Hid _ from ag
  have cr:w.heap.size<w2.heap.size:=BoxC.lt ag;have aJ:=BoxC.below ag (bal (Zc #[U O r,I x1,U O t,J k u o] 25));have aA:=show Hid _ from aJ
  obtain⟨ca,cb,cc,cd⟩:=az.out ag;obtain⟨bB,bC,bF,bG⟩:=az.out aJ;obtain⟨ce,cf,cg,ch⟩:=bp.out af;have aa:Hid (D=(exM C g M l d a W).bind fun v s=>fZ C g M l d (decide (v≠0)) n b s):=by show D=_;rw[aD.out,zp7 C g M l d x m a n b s,am];rfl
  clear af L aU ay aC ag aJ am;go_wp2_with (fail)
  have aM:((exM C g M l d a W).bind fun v s=>fZ C g M l d (decide (v≠0)) n b s)≠.lost:=fun c=>by
   have aV:=aa.out;rw[c]at aV;exact bu.out (aD.out.symm.trans aV)
  have aS:=show Hid _ from aM
  have aN:=vH aM;clear aM;have ar:Hid (an.ownBlock≠Z w2.heap.size/\ah.ownBlock≠Z w2.heap.size):=⟨fun c=>by have:=(au.out.m.rl.lt _ c).2;omega,fun c=>by have:=(au.out.m.rh.lt _ c).2;omega⟩
  have aI:=BoxC.new w2 #[U O r,I x1,U O t,J k u o] 25;refine wp_region_held_drew (S:=fun j=>BoxC j w.heap.size #[U O 10,I x,U O m,J (Z (A e f F)) (b.length+1+1) y]  25/\BoxC j w2.heap.size #[U O r,I x1,U O t,J k u o] 25) oB ⟨aA.out,aI⟩ (fun ad=>?_);have h:BoxC (w2.alloc (Zc #[U O r,I x1,U O t,J k u o] 25)).drew w.heap.size #[U O 10,I x,U O m,J (Z (A e f F)) (b.length+1+1) y]  25/\BoxC (w2.alloc (Zc #[U O r,I x1,U O t,J k u o] 25)).drew w2.heap.size #[U O r,I x1,U O t,J k u o] 25:=⟨aA.out,aI⟩
  have av:=show Hid _ from au.out.below (bal (Zc #[U O r,I x1,U O t,J k u o] 25)).drew
  have ao:=show Hid _ from(aP.out.alloc (Zc #[U O r,I x1,U O t,J k u o] 25)).drew
  have bh:Hid (∀ {j:Zw},BoxC j w2.heap.size #[U O r,I x1,U O t,J k u o] 25->j.cell? (A w2.heap.size 0 F)=Z (U O r)/\j.cell? (A w2.heap.size 1 F)=Z (I x1)/\j.cell? (A w2.heap.size 2 F)=Z (U O t)/\j.cell? (A w2.heap.size 3 F)=Z (J k u o)):=fun G=>⟨G.cell 0 rfl,G.cell 1 rfl,G.cell 2 rfl,G.cell 3 rfl⟩
  clear ad au aP bi aA ca cb cc cd bB bC bF bG ce cf cg ch aI;generalize World.drew _=j at *;refine tkS (i:=0) (v:=Zp (Z (A B 0 F))) rfl rfl (Or.inl ⟨oG,fun a9 P=>oF⟩) h ?_;simp only[jA,jB,jC];refine tkS (i:=1) (v:=Zp (Z (A B 0 F))) rfl rfl (Or.inl ⟨oG,fun a9 P=>oF⟩) h ?_;simp only[jA,jB,jC];refine tkS (i:=2) (v:=Za #[U O r,I x1,U O t,J k u o] ) rfl rfl (Or.inl ⟨oG,fun a9 P=>by obtain⟨ci,cj,ck,cm⟩:=bh.out P.2;go_simp⟩) h ?_;simp only[jA,jB,jC];refine tkS (i:=5) (v:=Zp (Z (A w.heap.size 3 F))) rfl rfl (Or.inl ⟨oG,fun a9 P=>oF⟩) h ?_;simp only[jA,jB,jC];refine tkS (i:=6) (v:=J (Z (A e f F)) (b.length+1+1) y) rfl rfl (Or.inl ⟨oG,fun a9 P=>by obtain⟨ci,cj,ck,cm⟩:=az.out P.1;go_simp⟩) h ?_;simp only[jA,jB,jC];refine tkS (i:=7) (v:=J (Z (A e (f+4) F)) (b.length+1) (y - 1)) rfl rfl (Or.inl ⟨oG,fun a9 P=>by go_simp;rw[jv (show(1:Int)<=(b.length:Int)+1+1 by omega),ju (show y≠1 by omega)]⟩) h ?_;simp only[jA,jB,jC];refine oneH 3 fun aF ae=>?_
  go_simp;go_at_call 141;refine(bj.out M l d a _ W an ah j B bS br.out av.out aN).mono ?_
  cases R:exM C g M l d a W with
  | lost=>exact absurd R aN
  | back v a2 =>
   rintro c ab ⟨rfl,V,T,a3,z⟩;go_wp2;rw[show D=.back v a2 by rw[aa.out,R];rfl]
   exact⟨rfl,rfl,V,T,a3,(ao.out.trans z).any⟩
  | stop K a2 =>
   rintro c ab ⟨⟨ps,ak,rfl⟩,V,T,a3,z⟩;go_wp2;rw[show D=.stop K a2 by rw[aa.out,R];rfl]
   exact⟨rfl,⟨ps,ak,rfl⟩,V,T,a3,(ao.out.trans z).any⟩
  | go v a2 =>
   rintro c ab ⟨rfl,V,T,a3,z,_⟩;obtain⟨E,aw⟩:∃E,E=decide (v≠0):=⟨_,rfl⟩
   have bn:Hid (E=(v != 0)):=by show E=_;rw[aw];by_cases bM:v=0<;>simp[bM]
   have aE:Hid (D=fZ C g M l d E n b a2):=by show D=_;rw[aa.out,R,aw];rfl
   have bc:fZ C g M l d E n b a2≠.lost:=by have aW:=aS.out;rw[R]at aW;rw[aw];exact aW
   clear aw;have ba:V.ownBlock≠Z w.heap.size/\T.ownBlock≠Z w.heap.size:=⟨z.lone h.1.lt ap.out.1,z.hine h.1.lt ap.out.2⟩
   have bb:V.ownBlock≠Z w2.heap.size/\T.ownBlock≠Z w2.heap.size:=⟨z.lone h.2.lt ar.out.1,z.hine h.2.lt ar.out.2⟩
   have aQ:=show Hid _ from ba
   have aR:=show Hid _ from bb
   have aH:=h;clear h;have bz:=show Hid _ from av.out.after a3 z (av.out.iv.go ((gds C g).ex ..) ((gks C g).ex ..) R)
   have h:BoxC ab w.heap.size #[U O 10,I x,U O m,J (Z (A e f F)) (b.length+1+1) y] 25/\BoxC ab w2.heap.size #[U O r,I x1,U O t,J k u o] 25:=⟨z.box aH.1 aY id ap.out.1 ap.out.2,z.box aH.2 oA id ar.out.1 ar.out.2⟩
   refine ae.out _ _ h (fun ad=>?_);have aB:Hid (FK p (·=B) lo hi V T w ab):=(ao.out.trans z).any
   clear ae aF ad a3 z R aN aa aS aH av ao ba bb;have b6:=zzw g bg.out E n b bX bw.out c9 e (f+4) (y - 1) oA bo.out bq.out bz.out bc;refine tkS (i:=4) (v:=Y E) rfl rfl (Or.inl ⟨oG,fun a9 P=>by rw[bn.out] ;go_simp⟩) h ?_;simp only[jA,jB,jC];refine oneH 8 fun aF ae=>?_
   go_simp;go_at_call 145;refine b6.mono ?_;clear b6
   cases ai:fZ C g M l d E n b a2 with
   | lost=>exact absurd ai bc
   | back v aO =>
    rintro c ac ⟨rfl,a7,a6,a5,N⟩;go_wp2;rw[aE.out,ai]
    exact⟨rfl,rfl,a7,a6,a5,aB.out.trans N⟩
   | stop K aO =>
    rintro c ac ⟨⟨ps,ak,rfl⟩,a7,a6,a5,N⟩;go_wp2;rw[aE.out,ai]
    exact⟨rfl,⟨ps,ak,rfl⟩,a7,a6,a5,aB.out.trans N⟩
   | go l2 aO =>
    rintro c ac ⟨rfl,a7,a6,a5,N,b7⟩;have b1:BoxC ac w.heap.size #[U O 10,I x,U O m,J (Z (A e f F)) (b.length+1+1) y] 25/\BoxC ac w2.heap.size #[U O r,I x1,U O t,J k u o] 25:=⟨N.box h.1 aY (by show w.heap.size≠B;omega) aQ.out.1 aQ.out.2,N.box h.2 oA (by show w2.heap.size≠B;omega) aR.out.1 aR.out.2⟩
    refine ae.out _ _ b1 (fun ad=>?_);have bv:Hid (D=.go l2 aO):=by show D=_;rw[aE.out,ai]
    have bs:=show Hid _ from a5
    have bA:=show Hid _ from b7
    have bm:Hid (FK p (·=B) lo hi a7 a6 w ac):=aB.out.trans N
    clear ae aF ad a5 N b7 h b1 ai;refine wpAnyH_done oB ?_ _;go_wp2
    go_end0
    rw[bv.out];exact⟨rfl,a7,a6,bs.out,bm.out,bA.out⟩
end
end mdl
namespace mdl
open Go.RowKit Go.Maps Go.WideMaps
open syn face mac chk
section
variable {p:Pl} {C:Cx} {w0 w w':Zw} {lo hi lo' hi':Zv} {s s':RS} {d B:Nat} {M:ByteArray} {l l2:Lc} {X:Nat->Prop}
theorem MR.putVar (a:MR p C w0 lo hi s d w) {x:ByteArray} {e q l c:Nat} (h:p.vf x=Z (J (Z (A e 0 F)) q l)) (P:c<(s.vs x).length) (v:Int):e<p.D/\MR p C w0 lo hi { s with vs:=putVar s.vs x ((s.vs x).set c v) } d (w.setCell (A e c F) (intV v)):=by
 have k:=a.wd x;unfold uD at k;rw[h]at k;obtain⟨r,f,o,K,E⟩:=k;obtain⟨rfl,M,L⟩:e=r/\q=(s.vs x).length/\l=(s.vs x).length:=by simpa using f
 refine⟨o.1,a.box.other oA _,a.sz,a.rl.kept (yD w e c _) (.inr fun f=>by have:=(a.rl.lt _ f).1;omega),a.rh.kept (yD w e c _) (.inr fun f=>by have:=(a.rh.lt _ f).1;omega),a.ne,a.stc.set (fun _ N=>N.2.2 ⟨x,_,h,rfl⟩) _,fun b=>?_,a.one,a.bx.other oA _⟩;show uD p _ b (if eqS b x then(s.vs x).set c v else s.vs b);by_cases i:eqS b x=H
 ·rw[jv i];have:b=x:=xG.1 i;subst this;unfold uD;rw[h];refine⟨e,by rw[List.length_set,M,L],o,?_,by rw[List.length_set];exact E⟩;have n:=K.set c (intV v)
  have u:((s.vs b).map intV).toArray.setIfInBounds c (intV v)=(((s.vs b).set c v).map intV).toArray:=by
   rw[List.setIfInBounds_toArray,List.map_set]
  rw[u]at n;exact n
 ·rw[ju i];have g:=a.wd b;unfold uD at g |-
  cases j:p.vf b with
  | none=>rw[j]at g;exact g
  | some Q =>
   rw[j]at g;obtain⟨t,m,z,G,B⟩:=g;refine⟨t,m,z,G.other (fun y=>i ?_) _,B⟩;exact a.one b x _ _ j h (by rw[m,y];rfl)
theorem SF.put (c:SF p C w0 lo hi s d B M l w) {N:Tree} {L:Int} {q:Wd} (e:zL M l N L s=Z q) {a:Zv} (n:WdP p B q a) (v:Int):∃g,a=Zp (Z g)/\w.cell? g=Z (intV (cT l s q))/\w.frozen? g=false/\SF p C w0 lo hi (qJ l s v q).2 d B M (qJ l s v q).1 (w.setCell g (intV v))/\FK p (·=B) lo hi lo hi w (w.setCell g (intV v)):=by
 obtain⟨g,r,D⟩:=c.word e n;refine⟨g,r,D,?_⟩;subst r
 cases q with
 | loc h =>
  have y:g=(A B (2+h*2+1) F):=by
   have j:Value.pointer (Z g)=Zp (Z (A B (2+h*2+1) F)):=n;injection j with j;injection j
  subst y
  have hi:h<l.length:=by
   unfold zL at e;split at e;·rename_i T E;injection e with e;injection e with e;subst e;obtain⟨j,_⟩:=zak E;exact j
   ·split at e<;>cases e
  exact⟨c.f.fz _,⟨c.m.side c.f.gt c.nl c.nh _ _,c.f.put hi v,c.nl,c.nh,c.iv,c.ms,c.dl⟩,(FK.refl p (·=B) lo _ w).side (B:=B) (.inl rfl) _ _⟩
 | var x h =>
  obtain⟨b,V,P,t,k⟩:=n
  obtain rfl:g=(A b h F):=by
   injection k with k;injection k
  have hi:h<(s.vs x).length:=by
   unfold zL at e;split at e;·injection e with e;cases e
   ·split at e;·cases e
    ·rename_i S;injection e with e;injection e with e4 e5;subst e4;omega
  obtain⟨Q,G⟩:=c.m.putVar t hi v;have o:=c.m.wd x;unfold uD at o;rw[t]at o;obtain⟨u,i,_,z,_⟩:=o
  obtain rfl:b=u:=by
   injection i with i;injection i with i;injection i
  have R:=c.f.gt;refine⟨z.fz h,⟨G,c.f.other oA _,c.nl,c.nh,⟨c.iv.st,c.iv.oL,c.iv.oH,c.iv.uL,c.iv.uH⟩,c.ms,c.dl⟩,⟨(Kept.refl _ w).set (fun _ K=>by have:=K.1;omega) _,fun _ c=>.inl c,fun _ c=>.inl c⟩⟩
end
end mdl
namespace mdl
open Go.RowKit Go.Maps Go.WideMaps
open syn face mac chk
open ord (tkd gL)
section
variable {p:Pl} {C:Cx} {w0 w w':Zw} {lo hi lo' hi':Zv} {s s':RS} {d B:Nat} {M:ByteArray} {l l2:Lc} {X:Nat->Prop}
theorem zq8 (C:Cx) (b:Nat) (M:ByteArray) (l:Lc) (d:Nat) (x:ByteArray) (m:Int) (a c:Tree) (s:RS):stM C (b+1) M l d (.node 8 x m [a,c]) s=(kP C.fuel s).bind fun _ s=>(ixM C b M l d a s).bind fun e s=>(exM C b M l d c s).bind fun v s=>match zL M l a e s with | none=>.stop 3 s | some q=>.go (qJ l s v q).1 (qJ l s v q).2:=by
 conv=>lhs;unfold stM
 rfl
theorem st8 (ax:Gv p C w0) (g:Nat) (aZ:CEx p C w0 g) (b1:CIx p C w0 g) (x:ByteArray) (m:Int) (a j:Tree) (aA:PlT a) (c7:ExT j) (v:Zv) (b6:Nod p w0 (.node 8 x m [a,j]) v) (Q:SF p C w0 lo hi s d B M l w) (bg:stM C (g+1) M l d (.node 8 x m [a,j]) s≠.lost):Calls prog 109 #[Zp (Z (A B 0 F)),v] w (StR p C w0 lo hi d B M w (stM C (g+1) M l d (.node 8 x m [a,j]) s)):=by
 have br:=show Hid (CEx p C w0 g)from aZ
 have bu:=show Hid (CIx p C w0 g)from b1
 have bB:=show Hid _ from bg
 obtain⟨k,o,a3,rfl,c8,c9,aE⟩:=b6.kidsB (C:=C) oC;obtain⟨c,x1,e,z,K,D,aj,aD⟩:=aE 0 oC;have cb:dM p C w0 j k (o+4):=aE 1 oC
 obtain⟨bj,bp,bn,i,bP,ca,cd⟩:∃aJ x m ci,a=.node aJ x m ci/\(aJ=16\/aJ=17)/\x.size<=1000:=by
  cases aA with
  | nam aI=>exact⟨16,_,0,[],rfl,.inl rfl,by have:=bD aI;omega⟩
  | item aI cR=>exact⟨17,_,0,_,rfl,.inr rfl,by have:=bD aI;omega⟩
 have c6:=aA.ex;subst bP;obtain⟨cz,cH,a8,_⟩:=Nod.kids (C:=C) (show Nod p w0 (.node bj bp bn i) (Za #[U O c,I x1,U O e,J z K D])from aj);obtain⟨rfl,rfl,rfl⟩:c=bj/\x1=bp/\e=bn:=by simp at a8;exact⟨a8.1,a8.2.1,a8.2.2.1⟩
 clear a8;obtain⟨bi,x2,bm,aV,bo,aW,be,bc⟩:=cb;simp only[Nat.zero_mul,Nat.add_zero,jI,jd,je,Nat.zero_add,Nat.reduceAdd]at aj aD c8 c9 |-;have bz:=show Hid (Nod p w0 (.node c x1 e i) (Za #[U O c,I x1,U O e,J z K D]))from aj
 have bA:=show Hid (Nod p w0 j (Za #[U O bi,I x2,U O bm,J aV bo aW]))from be
 have bv:Hid (∀ {lo hi s d w},MR p C w0 lo hi s d w->(w.cell? (A k o F)=Z (U O c)/\w.cell? (A k (o+1) F)=Z (I x1)/\w.cell? (A k (o+2) F)=Z (U O e)/\w.cell? (A k (o+3) F)=Z (J z K D))):=fun ay=>aD ay
 have bw:Hid (∀ {lo hi s d w},MR p C w0 lo hi s d w->(w.cell? (A k (o+4) F)=Z (U O bi)/\w.cell? (A k (o+4+1) F)=Z (I x2)/\w.cell? (A k (o+4+2) F)=Z (U O bm)/\w.cell? (A k (o+4+3) F)=Z (J aV bo aW))):=fun ay=>bc ay
 clear aZ b1 b6 bg aj aD aE bc be aA;have ac:=Q.below (bal (Zc #[U O 8,I x,U O m,J (Z (A k o F)) 2 a3]  25));have an:=show Hid _ from ac
 have ar:=show Hid _ from(FK.refl p (fun _=>False) lo hi w).alloc (Zc #[U O 8,I x,U O m,J (Z (A k o F)) 2 a3]  25)
 have aS:Hid (∀ {lo' hi' w'},FK p (fun _=>False) lo hi lo' hi' (w.alloc (Zc #[U O 8,I x,U O m,J (Z (A k o F)) 2 a3]  25)) w'->BoxC w' w.heap.size #[U O 8,I x,U O m,J (Z (A k o F)) 2 a3]  25):=fun bX=>Q.side _ _ (fun b=>b) bX
 have bR:=ac.f.c0;have d1:=ax.fu;have d4:=ac.iv.st;have b8:=uJ (fun _=>False) ac.m oA;have d2:=Q.f.lt;have bS:=Q.m.lt;have d3:=p.rd;have aQ:Hid (lo.ownBlock≠Z w.heap.size/\hi.ownBlock≠Z w.heap.size):=⟨fun b=>by have:=(Q.m.rl.lt _ b).2;omega,fun b=>by have:=(Q.m.rh.lt _ b).2;omega⟩
 obtain⟨h,az⟩:∃h,h=stM C (g+1) M l d (.node 8 x m [.node c x1 e i,j]) s:=⟨_,rfl⟩
 rw[<- az];have av:=show Hid _ from az
 clear Q ac az;have ao:Hid (∀ {a6:Zw},BoxC a6 w.heap.size #[U O 8,I x,U O m,J (Z (A k o F)) 2 a3]  25->a6.cell? (A w.heap.size 0 F)=Z (U O 8)/\a6.cell? (A w.heap.size 1 F)=Z (I x)/\a6.cell? (A w.heap.size 2 F)=Z (U O m)/\a6.cell? (A w.heap.size 3 F)=Z (J (Z (A k o F)) 2 a3)):=fun u=>⟨u.cell 0 rfl,u.cell 1 rfl,u.cell 2 rfl,u.cell 3 rfl⟩
 go_enter func109,ntmps109;go_wp2_with (fail);refine b8.mono ?_;clear b8 bR
 cases ae:kP C.fuel s with
 | lost=>intro b w2 cc;exact cc.elim
 | back v S=>exact absurd ae (by unfold kP;split<;>(intro b;cases b))
 | stop a7 S =>
  rintro b w2 ⟨⟨ps,ad,rfl⟩,am,ai,a9,N⟩;go_wp2;rw[show h=.stop a7 S by rw[av.out,zq8 C g M l d x m (.node c x1 e i) j s,ae];rfl]
  exact⟨rfl,⟨ps,ad,rfl⟩,am,ai,a9,(ar.out.trans N).any⟩
 | go dd S =>
  rintro b w2 ⟨rfl,am,ai,a9,N,_⟩;have V:=show Hid _ from an.out.after a9 N (an.out.iv.go (xD C.fuel s) ((vJ s).less oA) ae)
  have aM:=show Hid _ from ar.out.trans N
  have aP:Hid (am.ownBlock≠Z w.heap.size/\ai.ownBlock≠Z w.heap.size):=⟨N.lone oC aQ.out.1,N.hine oC aQ.out.2⟩
  have ab:=aS.out N;have aL:=show Hid _ from ab
  have d5:w.heap.size<w2.heap.size:=BoxC.lt ab;have aB:=BoxC.below ab (bal (Zc #[U O c,I x1,U O e,J z K D] 25));have bq:=show Hid _ from aB
  obtain⟨ce,cf,cg,ch⟩:=ao.out ab;obtain⟨bG,bK,bM,bN⟩:=ao.out aB;obtain⟨cj,ck,cm,cn⟩:=bv.out a9;have y:Hid (h=(ixM C g M l d (.node c x1 e i) S).bind fun L s=>(exM C g M l d j s).bind fun v s=>match zL M l (.node c x1 e i) L s with | none=>.stop 3 s | some q=>.go (qJ l s v q).1 (qJ l s v q).2):=by show h=_;rw[av.out,zq8 C g M l d x m (.node c x1 e i) j s,ae];rfl
  clear a9 N aS an ar ab aB ae;go_wp2_with (fail)
  have aF:((ixM C g M l d (.node c x1 e i) S).bind fun L s=>(exM C g M l d j s).bind fun v s=>match zL M l (.node c x1 e i) L s with | none=>Out.stop 3 s | some q=>.go (qJ l s v q).1 (qJ l s v q).2)≠.lost:=fun b=>by
   have aX:=y.out;rw[b]at aX;exact bB.out (av.out.symm.trans aX)
  have aG:=vH aF;have aO:=show Hid _ from aF
  have ag:=show Hid _ from V.out.below (bal (Zc #[U O c,I x1,U O e,J z K D] 25))
  have af:=show Hid _ from aM.out.alloc (Zc #[U O c,I x1,U O e,J z K D] 25)
  clear aF;refine(bu.out M l d c x1 e i _ S am ai _ B c6 ca bz.out ag.out aG).mono ?_
  cases R:ixM C g M l d (.node c x1 e i) S with
  | lost=>exact absurd R aG
  | back v r =>
   rintro b W ⟨rfl,G,E,t,n⟩;go_wp2;rw[show h=.back v r by rw[y.out,R];rfl]
   exact⟨rfl,rfl,G,E,t,(af.out.trans n).any⟩
  | stop a7 r =>
   rintro b W ⟨⟨ps,ad,rfl⟩,G,E,t,n⟩;go_wp2;rw[show h=.stop a7 r by rw[y.out,R];rfl]
   exact⟨rfl,⟨ps,ad,rfl⟩,G,E,t,(af.out.trans n).any⟩
  | go L r =>
   rintro b W ⟨rfl,G,E,t,n,_⟩;have aw:=show Hid _ from ag.out.after t n (ag.out.iv.go ((gds C g).ix ..) ((gks C g).ix ..) R)
   have ap:=show Hid _ from af.out.trans n
   have ba:=n.box (BoxC.below aL.out (bal (Zc #[U O c,I x1,U O e,J z K D] 25))) bS id aP.out.1 aP.out.2;obtain⟨ct,cu,cv,cw⟩:=ao.out ba;obtain⟨co,cp,cq,cr⟩:=bw.out t;have bb:=n.box (BoxC.new w2 #[U O c,I x1,U O e,J z K D] 25) oA id (fun b=>by have:=(V.out.m.rl.lt _ b).2;omega) (fun b=>by have:=(V.out.m.rh.lt _ b).2;omega);have aT:Hid (BoxC W w2.heap.size #[U O c,I x1,U O e,J z K D] 25):=bb;have au:Hid (G.ownBlock≠Z w2.heap.size/\E.ownBlock≠Z w2.heap.size):=⟨n.lone oC (fun b=>by have:=(V.out.m.rl.lt _ b).2;omega),n.hine oC (fun b=>by have:=(V.out.m.rh.lt _ b).2;omega)⟩
   have T:Hid (h=(exM C g M l d j r).bind fun v s=>match zL M l (.node c x1 e i) L s with | none=>.stop 3 s | some q=>.go (qJ l s v q).1 (qJ l s v q).2):=by show h=_;rw[y.out,R];rfl
   have bf:(exM C g M l d j r).bind (fun v s=>match zL M l (.node c x1 e i) L s with | none=>Out.stop 3 s | some q=>.go (qJ l s v q).1 (qJ l s v q).2)≠.lost:=by have aY:=aO.out;rw[R]at aY;exact aY
   have aH:=vH bf;clear t n ba bb y aO R aG bf ag af V aM aL bq ce cf cg ch bG bK bM bN cj ck cm cn;have y:=T;clear T;go_wp2_with (fail);refine(br.out M l d j _ r G E W B c7 bA.out aw.out aH).mono ?_
   cases a2:exM C g M l d j r with
   | lost=>exact absurd a2 aH
   | back v r =>
    rintro b W ⟨rfl,G,E,t,n⟩;go_wp2;rw[show h=.back v r by rw[y.out,a2];rfl]
    exact⟨rfl,rfl,G,E,t,(ap.out.trans n).any⟩
   | stop a7 r =>
    rintro b W ⟨⟨ps,ad,rfl⟩,G,E,t,n⟩;go_wp2;rw[show h=.stop a7 r by rw[y.out,a2];rfl]
    exact⟨rfl,⟨ps,ad,rfl⟩,G,E,t,(ap.out.trans n).any⟩
   | go v P =>
    rintro b cx ⟨rfl,aK,aC,b2,ah,_⟩;have a5:=show Hid _ from aw.out.after b2 ah (aw.out.iv.go ((gds C g).ex ..) ((gks C g).ex ..) a2)
    have aN:=show Hid _ from ap.out.trans ah
    have aa:=ah.box aT.out oA id au.out.1 au.out.2;have d6:=aa.cell 0 rfl;have da:=aa.cell 1 rfl;have db:=aa.cell 2 rfl;have dc:=aa.cell 3 rfl;have T:Hid (h=match zL M l (.node c x1 e i) L P with | none=>.stop 3 P | some q=>.go (qJ l P v q).1 (qJ l P v q).2):=by show h=_;rw[y.out,a2];rfl
    clear b2 ah y a2 aH aa aT au ct cu cv cw co cp cq cr;have bh:=zin a5.out.m ax.hV ax.sV a5.out.f c e x1 i z K D cd a5.out.ms L;go_wp2_with (fail);refine bh.mono ?_;clear bh
    cases ak:zL M l (.node c x1 e i) L P with
    | none =>
     rintro b aU ⟨u,rfl⟩;go_wp2;rw[show h=.stop 3 P by rw[T.out,ak]]
     exact⟨rfl,gV.new rfl,aK,aC,⟨_,a5.out.m.below u⟩,(aN.out.below u).any⟩
    | some q =>
     rintro b aU ⟨u,cy,rfl,b9⟩;obtain⟨bF,rfl,cL,d0,b7,b0⟩:=(a5.out.below u).put ak b9 v;have bC:Hid (h=.go (qJ l P v q).1 (qJ l P v q).2):=by show h=_;rw[T.out,ak]
     have aR:=show Hid _ from b7
     have bs:Hid (FK p (·=B) lo hi aK aC w (aU.setCell bF (intV v))):=(aN.out.below u).any.trans b0
     clear u b9 b7 b0 ak T;go_wp2
     go_end0
     rw[bC.out];exact⟨rfl,aK,aC,aR.out.m,bs.out,aR.out.f⟩
end
section
variable {p:Pl} {C:Cx} {w0 w w':Zw} {lo hi lo' hi':Zv} {s s':RS} {d B:Nat} {M:ByteArray} {l l2:Lc} {X:Nat->Prop}
theorem zp9 (C:Cx) (b:Nat) (M:ByteArray) (l:Lc) (d:Nat) (x:ByteArray) (m:Int) (a:Tree) (s:RS):stM C (b+1) M l d (.node 13 x m [a]) s=(kP C.fuel s).bind fun _ s=>(ixM C b M l d a s).bind fun c s=>(takeF C (m % 2) s).bind fun v s=>match zL M l a c s with | none=>.stop 3 s | some q=>.go (qJ l s v q).1 (qJ l s v q).2:=by
 conv=>lhs;unfold stM
 rfl
theorem yd4 (a5:Gv p C w0) (D:Nat) (bg:CIx p C w0 D) (x:ByteArray) (g:Bool) (a:Tree) (aO:PlT a) (v:Zv) (bh:Nod p w0 (.node 13 x (bI g) [a]) v) (a2:SF p C w0 lo hi s d B M l w) (bq:stM C (D+1) M l d (.node 13 x (bI g) [a]) s≠.lost):Calls prog 109 #[Zp (Z (A B 0 F)),v] w (StR p C w0 lo hi d B M w (stM C (D+1) M l d (.node 13 x (bI g) [a]) s)):=by
 have bA:=show Hid (CIx p C w0 D)from bg
 have bG:=show Hid _ from bq
 obtain⟨k,o,L,rfl,cb,cc,bp⟩:=bh.kidsB (C:=C) oC;obtain⟨c,x1,e,t,y,u,aC,aQ⟩:=bp 0 oC
 obtain⟨bs,bv,bu,n,c6,cd,ce⟩:∃aV x m cj,a=.node aV x m cj/\(aV=16\/aV=17)/\x.size<=1000:=by
  cases aO with
  | nam aU=>exact⟨16,_,0,[],rfl,.inl rfl,by have:=bD aU;omega⟩
  | item aU cz=>exact⟨17,_,0,_,rfl,.inr rfl,by have:=bD aU;omega⟩
 have ca:=aO.ex;subst c6;obtain⟨cw,cx,ah,_⟩:=Nod.kids (C:=C) (show Nod p w0 (.node bs bv bu n) (Za #[U O c,I x1,U O e,J t y u])from aC);obtain⟨rfl,rfl,rfl⟩:c=bs/\x1=bv/\e=bu:=by simp at ah;exact⟨ah.1,ah.2.1,ah.2.2.1⟩
 clear ah;simp only[Nat.zero_mul,Nat.add_zero,jI,jd,je,Nat.zero_add,Nat.reduceAdd]at aC aQ cb cc |-;have bC:=show Hid (Nod p w0 (.node c x1 e n) (Za #[U O c,I x1,U O e,J t y u]))from aC
 have bB:Hid (∀ {lo hi s d w},MR p C w0 lo hi s d w->(w.cell? (A k o F)=Z (U O c)/\w.cell? (A k (o+1) F)=Z (I x1)/\w.cell? (A k (o+2) F)=Z (U O e)/\w.cell? (A k (o+3) F)=Z (J t y u))):=fun c9=>aQ c9
 clear bg bh bq aC aQ bp aO;have ap:=a2.below (bal (Zc #[U O 13,I x,U O (bI g),J (Z (A k o F)) 1 L]  25));have aF:=show Hid _ from ap
 have aG:=show Hid _ from(FK.refl p (fun _=>False) lo hi w).alloc (Zc #[U O 13,I x,U O (bI g),J (Z (A k o F)) 1 L]  25)
 have b9:Hid (∀ {lo' hi' w'},FK p (fun _=>False) lo hi lo' hi' (w.alloc (Zc #[U O 13,I x,U O (bI g),J (Z (A k o F)) 1 L]  25)) w'->BoxC w' w.heap.size #[U O 13,I x,U O (bI g),J (Z (A k o F)) 1 L]  25):=fun c8=>a2.side _ _ (fun b=>b) c8
 have c7:=ap.f.c0;have cL:=a5.fu;have d1:=ap.iv.st;have bj:=uJ (fun _=>False) ap.m oA;have cR:=a2.f.lt;have be:=a2.m.lt;have d0:=p.rd;have b2:Hid (lo.ownBlock≠Z w.heap.size/\hi.ownBlock≠Z w.heap.size):=⟨fun b=>by have:=(a2.m.rl.lt _ b).2;omega,fun b=>by have:=(a2.m.rh.lt _ b).2;omega⟩
 obtain⟨j,aL⟩:∃j,j=stM C (D+1) M l d (.node 13 x (bI g) [.node c x1 e n]) s:=⟨_,rfl⟩
 rw[<- aL];have aH:=show Hid _ from aL
 clear a2 ap aL;have aw:Hid (∀ {G:Zw},BoxC G w.heap.size #[U O 13,I x,U O (bI g),J (Z (A k o F)) 1 L]  25->G.cell? (A w.heap.size 0 F)=Z (U O 13)/\G.cell? (A w.heap.size 1 F)=Z (I x)/\G.cell? (A w.heap.size 2 F)=Z (U O (bI g))/\G.cell? (A w.heap.size 3 F)=Z (J (Z (A k o F)) 1 L)):=fun K=>⟨K.cell 0 rfl,K.cell 1 rfl,K.cell 2 rfl,K.cell 3 rfl⟩
 go_enter func109,ntmps109;go_wp2_with (fail);refine bj.mono ?_;clear bj c7
 cases au:kP C.fuel s with
 | lost=>intro b w2 aT;exact aT.elim
 | back v a6=>exact absurd au (by unfold kP;split<;>(intro b;cases b))
 | stop ag a6 =>
  rintro b w2 ⟨⟨ps,ar,rfl⟩,aE,aB,ak,T⟩;go_wp2;rw[show j=.stop ag a6 by rw[aH.out,zp9 C D M l d x (bI g) (.node c x1 e n) s,au];rfl]
  exact⟨rfl,⟨ps,ar,rfl⟩,aE,aB,ak,(aG.out.trans T).any⟩
 | go da a6 =>
  rintro b w2 ⟨rfl,aE,aB,ak,T,_⟩;have aa:=show Hid _ from aF.out.after ak T (aF.out.iv.go (xD C.fuel s) ((vJ s).less oA) au)
  have aX:=show Hid _ from aG.out.trans T
  have ax:Hid (aE.ownBlock≠Z w.heap.size/\aB.ownBlock≠Z w.heap.size):=⟨T.lone oC b2.out.1,T.hine oC b2.out.2⟩
  have am:=b9.out T;have aW:=show Hid _ from am
  have d2:w.heap.size<w2.heap.size:=BoxC.lt am;have aP:=BoxC.below am (bal (Zc #[U O c,I x1,U O e,J t y u] 25));have bw:=show Hid _ from aP
  obtain⟨cf,cg,ch,ci⟩:=aw.out am;obtain⟨bP,bR,bS,bX⟩:=aw.out aP;obtain⟨ck,cm,cn,co⟩:=bB.out ak;have P:Hid (j=(ixM C D M l d (.node c x1 e n) a6).bind fun i s=>(takeF C (bI g % 2) s).bind fun v s=>match zL M l (.node c x1 e n) i s with | none=>.stop 3 s | some q=>.go (qJ l s v q).1 (qJ l s v q).2):=by show j=_;rw[aH.out,zp9 C D M l d x (bI g) (.node c x1 e n) s,au];rfl
  clear ak T b9 aF aG am aP au;go_wp2_with (fail)
  have aR:((ixM C D M l d (.node c x1 e n) a6).bind fun i s=>(takeF C (bI g % 2) s).bind fun v s=>match zL M l (.node c x1 e n) i s with | none=>Out.stop 3 s | some q=>.go (qJ l s v q).1 (qJ l s v q).2)≠.lost:=fun b=>by
   have bc:=P.out;rw[b]at bc;exact bG.out (aH.out.symm.trans bc)
  have aS:=vH aR;have bF:=show Hid _ from aR
  have r:=show Hid _ from aa.out.below (bal (Zc #[U O c,I x1,U O e,J t y u] 25))
  have E:=show Hid _ from aX.out.alloc (Zc #[U O c,I x1,U O e,J t y u] 25)
  clear aR;refine(bA.out M l d c x1 e n _ a6 aE aB _ B ca cd bC.out r.out aS).mono ?_
  cases ad:ixM C D M l d (.node c x1 e n) a6 with
  | lost=>exact absurd ad aS
  | back v V =>
   rintro b W ⟨rfl,af,ae,ab,z⟩;go_wp2;rw[show j=.back v V by rw[P.out,ad];rfl]
   exact⟨rfl,rfl,af,ae,ab,(E.out.trans z).any⟩
  | stop ag V =>
   rintro b W ⟨⟨ps,ar,rfl⟩,af,ae,ab,z⟩;go_wp2;rw[show j=.stop ag V by rw[P.out,ad];rfl]
   exact⟨rfl,⟨ps,ar,rfl⟩,af,ae,ab,(E.out.trans z).any⟩
  | go i V =>
   rintro b W ⟨rfl,af,ae,ab,z,_⟩;have aI:=show Hid _ from r.out.after ab z (r.out.iv.go ((gds C D).ix ..) ((gks C D).ix ..) ad)
   have aZ:=show Hid _ from E.out.trans z
   have aA:=z.box (BoxC.below aW.out (bal (Zc #[U O c,I x1,U O e,J t y u] 25))) be id ax.out.1 ax.out.2;obtain⟨cp,cq,cr,ct⟩:=aw.out aA;have bn:=z.box (BoxC.new w2 #[U O c,I x1,U O e,J t y u] 25) oA id (fun b=>by have:=(aa.out.m.rl.lt _ b).2;omega) (fun b=>by have:=(aa.out.m.rh.lt _ b).2;omega);have ba:Hid (BoxC W w2.heap.size #[U O c,I x1,U O e,J t y u] 25):=bn;have b6:Hid (af.ownBlock≠Z w2.heap.size/\ae.ownBlock≠Z w2.heap.size):=⟨z.lone oC (fun b=>by have:=(aa.out.m.rl.lt _ b).2;omega),z.hine oC (fun b=>by have:=(aa.out.m.rh.lt _ b).2;omega)⟩
   have bo:=aI.out.f.c0;have b1:Hid (af.ownBlock≠Z w.heap.size/\ae.ownBlock≠Z w.heap.size):=⟨z.lone oE ax.out.1,z.hine oE ax.out.2⟩
   have a8:Hid (j=(takeF C (bI g % 2) V).bind fun v s=>match zL M l (.node c x1 e n) i s with | none=>.stop 3 s | some q=>.go (qJ l s v q).1 (qJ l s v q).2):=by show j=_;rw[P.out,ad];rfl
   have bM:=show Hid _ from aA
   clear ab z bn P bF ad aS r E aa aX aW bw cf cg ch ci bP bR bS bX ck cm cn co;have P:=a8;clear a8;go_wp2_with (fail);have h:BoxC W.drew w.heap.size #[U O 13,I x,U O (bI g),J (Z (A k o F)) 1 L] 25/\BoxC W.drew w2.heap.size #[U O c,I x1,U O e,J t y u] 25/\W.drew.cell? (A B 0 F)=Z (Zp (Z (A p.R 0 F))):=⟨aA,ba.out,bo⟩
   refine wp_region_held_drew (S:=fun G=>BoxC G w.heap.size #[U O 13,I x,U O (bI g),J (Z (A k o F)) 1 L] 25/\BoxC G w2.heap.size #[U O c,I x1,U O e,J t y u] 25/\G.cell? (A B 0 F)=Z (Zp (Z (A p.R 0 F)))) oB h (fun ai=>?_);have r:=show Hid _ from aI.out.below (Below.refl _ _).drew
   have E:=show Hid _ from aZ.out.drew
   clear ai aI aZ aA bM ba bo cp cq cr ct;generalize W.drew=G at *;refine tkS (i:=0) (v:=Zp (Z (A B 0 F))) rfl rfl (Or.inl ⟨oG,fun a7 Q=>oF⟩) h ?_;simp only[jA,jB,jC];refine tkS (i:=1) (v:=Zp (Z (A B 0 F))) rfl rfl (Or.inl ⟨oG,fun a7 Q=>oF⟩) h ?_;simp only[jA,jB,jC];refine tkS (i:=2) (v:=Zp (Z (A B 0 F))) rfl rfl (Or.inl ⟨oG,fun a7 Q=>oF⟩) h ?_;simp only[jA,jB,jC];refine tkS (i:=3) (v:=Zp (Z (A p.R 0 F))) rfl rfl (Or.inl ⟨oG,fun a7 Q=>by have cu:=Q.2.2;go_simp⟩) h ?_;simp only[jA,jB,jC];refine tkS (i:=4) (v:=Zp (Z (A p.R 0 F))) rfl rfl (Or.inl ⟨oG,fun a7 Q=>oF⟩) h ?_;simp only[jA,jB,jC];refine tkS (i:=5) (v:=Zp (Z (A p.R 2 F))) rfl rfl (Or.inl ⟨oG,fun a7 Q=>oF⟩) h ?_;simp only[jA,jB,jC];refine tkS (i:=6) (v:=Za #[U O 13,I x,U O (bI g),J (Z (A k o F)) 1 L] ) rfl rfl (Or.inl ⟨oG,fun a7 Q=>by obtain⟨cu,db,dc,dd⟩:=aw.out Q.1;go_simp⟩) h ?_;simp only[jA,jB,jC];refine oneH 7 fun aJ aj=>?_
   go_simp;go_at_call 139;refine(zr8 13 x (bI g) _ _ _ G).mono ?_;rw[zk8];rintro b aK ⟨rfl,ac⟩;have aM:BoxC aK w.heap.size #[U O 13,I x,U O (bI g),J (Z (A k o F)) 1 L] 25/\BoxC aK w2.heap.size #[U O c,I x1,U O e,J t y u] 25/\aK.cell? (A B 0 F)=Z (Zp (Z (A p.R 0 F))):=⟨BoxC.below h.1 ac,BoxC.below h.2.1 ac,mac.keep h.2.2 ac⟩
   refine aj.out _ _ aM (fun ai=>?_);have b8:=show Hid _ from r.out.below ac
   have aY:=show Hid _ from E.out.below ac
   clear aj aJ ai ac h r E;have r:=b8;have E:=aY;have h:=aM;clear aM b8 aY;refine oneH 8 fun aJ aj=>?_
   go_simp;go_at_call 147;refine(oTake (fun _=>False) r.out.m a5.iL a5.iH a5.nL a5.nH r.out.iv.uL r.out.iv.uH (bI g % 2) (by cases g<;>simp[bI])).mono ?_
   cases an:takeF C (bI g % 2) V with
   | lost=>intro b w2 aT;exact aT.elim
   | back v N=>exact absurd an (by unfold takeF;split<;>split<;>(intro b;cases b))
   | stop ag N =>
    rintro b ay ⟨⟨ps,ar,rfl⟩,av,ao,az,a3⟩;go_wp2;rw[show j=.stop ag N by rw[P.out,an];rfl]
    exact⟨rfl,⟨ps,ar,rfl⟩,av,ao,az,(E.out.trans a3).any⟩
   | go v N =>
    rintro b ay ⟨rfl,av,ao,az,a3,_⟩;have a9:=show Hid _ from r.out.after az a3 (r.out.iv.go (zn1 C C.fuel (bI g % 2) V) (zn2 (bI g % 2) V) an)
    have aN:BoxC ay w.heap.size #[U O 13,I x,U O (bI g),J (Z (A k o F)) 1 L] 25/\BoxC ay w2.heap.size #[U O c,I x1,U O e,J t y u] 25/\ay.cell? (A B 0 F)=Z (Zp (Z (A p.R 0 F))):=⟨a3.box h.1 be id b1.out.1 b1.out.2,a3.box h.2.1 oA id b6.out.1 b6.out.2,a9.out.f.c0⟩
    refine aj.out _ _ aN (fun ai=>?_);have b0:=show Hid _ from E.out.trans a3
    have a8:Hid (j=match zL M l (.node c x1 e n) i N with | none=>.stop 3 N | some q=>.go (qJ l N v q).1 (qJ l N v q).2):=by show j=_;rw[P.out,an];rfl
    clear aj aJ ai az a3 P an h r E;have h:=aN;clear aN;refine tkS (i:=9) (v:=U O v) rfl rfl (Or.inl ⟨oG,fun a7 Q=>oF⟩) h ?_;simp only[jA,jB,jC];refine wpAnyH_done oB ?_ _;have d3:=h.2.1.cell 0 rfl;have d4:=h.2.1.cell 1 rfl;have d5:=h.2.1.cell 2 rfl;have d6:=h.2.1.cell 3 rfl;clear h;have br:=zin a9.out.m a5.hV a5.sV a9.out.f c e x1 n t y u ce a9.out.ms i;go_wp2_with (fail);refine br.mono ?_;clear br
    cases aD:zL M l (.node c x1 e n) i N with
    | none =>
     rintro b bb ⟨K,rfl⟩;go_wp2;rw[show j=.stop 3 N by rw[a8.out,aD]]
     exact⟨rfl,gV.new rfl,av,ao,⟨_,a9.out.m.below K⟩,(b0.out.below K).any⟩
    | some q =>
     rintro b bb ⟨K,cv,rfl,bm⟩;obtain⟨bN,rfl,cy,cH,bi,bf⟩:=(a9.out.below K).put aD bm v;have bK:Hid (j=.go (qJ l N v q).1 (qJ l N v q).2):=by show j=_;rw[a8.out,aD]
     have b7:=show Hid _ from bi
     have bz:Hid (FK p (·=B) lo hi av ao w (bb.setCell bN (intV v))):=(b0.out.below K).any.trans bf
     clear K bm bi bf aD a8;go_wp2
     go_end0
     rw[bK.out];exact⟨rfl,av,ao,b7.out.m,bz.out,b7.out.f⟩
end
section
variable {p:Pl} {C:Cx} {w0 w w':Zw} {lo hi lo' hi':Zv} {s s':RS} {d B:Nat} {M:ByteArray} {l l2:Lc} {X:Nat->Prop}
theorem zp8 (C:Cx) (c:Nat) (M:ByteArray) (l:Lc) (d:Nat) (x:ByteArray) (m:Int) (a b:Tree) (s:RS):stM C (c+1) M l d (.node 11 x m [a,b]) s=(kP C.fuel s).bind fun _ s=>whM C c M l d a b s:=by
 conv=>lhs;unfold stM
 rfl
theorem ya7 (C:Cx) (M:ByteArray) (l:Lc) (d:Nat) (a b:Tree) (s:RS):whM C 0 M l d a b s=.lost:=by unfold whM;rfl
theorem ydg (C:Cx) (b:Nat) (M:ByteArray) (l:Lc) (d:Nat) (a c:Tree) (s:RS):whM C (b+1) M l d a c s=(exM C b M l d a s).bind fun v s=>if v≠0 then(blM C b M l d c s).bind fun l s=>whM C b M l d a c s else .go l s:=by conv=>lhs;unfold whM
theorem yd2 (ce:Gv p C w0) (o:Nat) (b0:∀D,D<=o->CEx p C w0 D) (aY:∀D,D<=o->CBl p C w0 D) (x:ByteArray) (m:Int) (a c:Tree) (cf:ExT a) (cg:BlT c) (v:Zv) (b1:Nod p w0 (.node 11 x m [a,c]) v) (T:SF p C w0 lo hi s d B M l w) (bb:stM C (o+1) M l d (.node 11 x m [a,c]) s≠.lost):Calls prog 109 #[Zp (Z (A B 0 F)),v] w (StR p C w0 lo hi d B M w (stM C (o+1) M l d (.node 11 x m [a,c]) s)):=by
 have bq:Hid (∀D,D<=o->CEx p C w0 D):=b0;have bj:Hid (∀D,D<=o->CBl p C w0 D):=aY;have bG:=show Hid _ from bb
 obtain⟨g,h,E,rfl,ch,ci,aO⟩:=b1.kidsB (C:=C) oC;obtain⟨t,x1,u,k,y,n,aP,aN⟩:=aO 0 oC;have cj:dM p C w0 c g (h+4):=aO 1 oC;obtain⟨bf,x2,bh,aW,bi,aX,ba,b9⟩:=cj;simp only[Nat.zero_mul,Nat.add_zero,jI,jd,je,Nat.zero_add,Nat.reduceAdd]at aP aN ch ci |-;have bw:=show Hid (Nod p w0 a (Za #[U O t,I x1,U O u,J k y n]))from aP
 have bz:=show Hid (Nod p w0 c (Za #[U O bf,I x2,U O bh,J aW bi aX]))from ba
 have bu:Hid (∀ {lo hi s d w},MR p C w0 lo hi s d w->(w.cell? (A g h F)=Z (U O t)/\w.cell? (A g (h+1) F)=Z (I x1)/\w.cell? (A g (h+2) F)=Z (U O u)/\w.cell? (A g (h+3) F)=Z (J k y n))):=fun aJ=>aN aJ
 have bv:Hid (∀ {lo hi s d w},MR p C w0 lo hi s d w->(w.cell? (A g (h+4) F)=Z (U O bf)/\w.cell? (A g (h+4+1) F)=Z (I x2)/\w.cell? (A g (h+4+2) F)=Z (U O bh)/\w.cell? (A g (h+4+3) F)=Z (J aW bi aX))):=fun aJ=>b9 aJ
 clear b0 aY b1 bb aP aN aO b9 ba;have ar:=T.below (bal (Zc #[U O 11,I x,U O m,J (Z (A g h F)) 2 E]  25));have aE:=show Hid _ from ar
 have ag:=show Hid _ from(FK.refl p (fun _=>False) lo hi w).alloc (Zc #[U O 11,I x,U O m,J (Z (A g h F)) 2 E]  25)
 have aV:Hid (∀ {lo' hi' w'},FK p (fun _=>False) lo hi lo' hi' (w.alloc (Zc #[U O 11,I x,U O m,J (Z (A g h F)) 2 E]  25)) w'->BoxC w' w.heap.size #[U O 11,I x,U O m,J (Z (A g h F)) 2 E]  25):=fun cd=>T.side _ _ (fun e=>e) cd
 have cc:=ar.f.c0;have d0:=ce.fu;have d4:=ar.iv.st;have b2:=uJ (fun _=>False) ar.m oA;have d2:=T.f.lt;have aZ:=T.m.lt;have d3:=p.rd;have aU:Hid (lo.ownBlock≠Z w.heap.size/\hi.ownBlock≠Z w.heap.size):=⟨fun e=>by have:=(T.m.rl.lt _ e).2;omega,fun e=>by have:=(T.m.rh.lt _ e).2;omega⟩
 obtain⟨b,aK⟩:∃b,b=stM C (o+1) M l d (.node 11 x m [a,c]) s:=⟨_,rfl⟩
 rw[<- aK];have aG:=show Hid _ from aK
 clear T ar aK;have aF:Hid (∀ {z:Zw},BoxC z w.heap.size #[U O 11,I x,U O m,J (Z (A g h F)) 2 E]  25->z.cell? (A w.heap.size 0 F)=Z (U O 11)/\z.cell? (A w.heap.size 1 F)=Z (I x)/\z.cell? (A w.heap.size 2 F)=Z (U O m)/\z.cell? (A w.heap.size 3 F)=Z (J (Z (A g h F)) 2 E)):=fun K=>⟨K.cell 0 rfl,K.cell 1 rfl,K.cell 2 rfl,K.cell 3 rfl⟩
 go_enter func109,ntmps109;go_wp2_with (fail);refine b2.mono ?_;clear b2 cc
 cases av:kP C.fuel s with
 | lost=>intro e w2 ck;exact ck.elim
 | back v ad=>exact absurd av (by unfold kP;split<;>(intro e;cases e))
 | stop an ad =>
  rintro e w2 ⟨⟨ps,au,rfl⟩,ab,a7,ao,Q⟩;go_wp2;rw[show b=.stop an ad by rw[aG.out,zp8 C o M l d x m a c s,av];rfl]
  exact⟨rfl,⟨ps,au,rfl⟩,ab,a7,ao,(ag.out.trans Q).any⟩
 | go d6 ad =>
  rintro e w2 ⟨rfl,ab,a7,ao,Q,_⟩;have az:=show Hid _ from aE.out.after ao Q (aE.out.iv.go (xD C.fuel s) ((vJ s).less oA) av)
  have aT:=show Hid _ from ag.out.trans Q
  have bC:Hid (ab.ownBlock≠Z w.heap.size/\a7.ownBlock≠Z w.heap.size):=⟨Q.lone oC aU.out.1,Q.hine oC aU.out.2⟩
  have ap:=aV.out Q;have bo:=show Hid _ from ap
  have d5:w.heap.size<w2.heap.size:=BoxC.lt ap;have aM:=BoxC.below ap (bal (Zc #[U O t,I x1,U O u,J k y n] 25));have aS:=show Hid _ from aM
  obtain⟨cm,cn,co,cp⟩:=aF.out ap;obtain⟨bS,bX,c6,c7⟩:=aF.out aM;obtain⟨cq,cr,ct,cu⟩:=bu.out ao;have P:Hid (b=whM C o M l d a c ad):=by show b=_;rw[aG.out,zp8 C o M l d x m a c s,av];rfl
  clear ao Q aV aE ag ap aM av;go_wp2_with (fail);have aH:Hid (b≠.lost):=fun e=>bG.out (aG.out.symm.trans e)
  have bF:Hid (ab.ownBlock≠Z w2.heap.size/\a7.ownBlock≠Z w2.heap.size):=⟨fun e=>by have:=(az.out.m.rl.lt _ e).2;omega,fun e=>by have:=(az.out.m.rh.lt _ e).2;omega⟩
  have bP:=show Hid _ from az.out.below (bal (Zc #[U O t,I x1,U O u,J k y n] 25))
  have ag:Hid (FK p (·=B) lo hi ab a7 w (w2.alloc (Zc #[U O t,I x1,U O u,J k y n] 25))):=(aT.out.alloc _).any
  have bn:Hid (BoxC (w2.alloc (Zc #[U O t,I x1,U O u,J k y n] 25)) w2.heap.size #[U O t,I x1,U O u,J k y n] 25):=BoxC.new w2 _ _;have bp:Hid (BoxC (w2.alloc (Zc #[U O t,I x1,U O u,J k y n] 25)) w.heap.size #[U O 11,I x,U O m,J (Z (A g h F)) 2 E] 25):=aS.out;have bm:Hid (∀ {z:Zw},BoxC z w2.heap.size #[U O t,I x1,U O u,J k y n] 25->z.cell? (A w2.heap.size 0 F)=Z (U O t)/\z.cell? (A w2.heap.size 1 F)=Z (I x1)/\z.cell? (A w2.heap.size 2 F)=Z (U O u)/\z.cell? (A w2.heap.size 3 F)=Z (J k y n)):=fun K=>⟨K.cell 0 rfl,K.cell 1 rfl,K.cell 2 rfl,K.cell 3 rfl⟩
  have bK:Hid (whM C o M l d a c ad=b):=P.out.symm;clear az aT bo aS P cm cn co cp bS bX c6 c7 cq cr ct cu
  go_loopg [] o (fun be wr=>∃(j:Lc) (a3:RS) (ac aa:Zv),be<=o/\Hid (whM C be M j d a c a3=b)/\Hid (SF p C w0 ac aa a3 d B M j wr)/\Hid (FK p (·=B) lo hi ac aa w wr)/\Hid (BoxC wr w2.heap.size #[U O t,I x1,U O u,J k y n] 25)/\Hid (BoxC wr w.heap.size #[U O 11,I x,U O m,J (Z (A g h F)) 2 E] 25)/\Hid (ac.ownBlock≠Z w2.heap.size/\aa.ownBlock≠Z w2.heap.size)/\Hid (ac.ownBlock≠Z w.heap.size/\aa.ownBlock≠Z w.heap.size))
  case atStart=>exact⟨l,ad,ab,a7,jE _,bK.out,bP.out,ag.out,bn.out,bp.out,bF.out,bC.out⟩
  case round =>
   obtain⟨j,a3,ac,aa,d1,aI,aA,aw,ah,aC,am,aj⟩:=hrel
   cases gk with
   | zero=>exact absurd (aI.out.symm.trans (ya7 ..)) aH.out
   | succ i =>
    have P:Hid (b=(exM C i M j d a a3).bind fun v s=>if v≠0 then(blM C i M j d c s).bind fun l s=>whM C i M l d a c s else .go j s):=by show b=_;rw[<- aI.out,ydg]
    have aQ:exM C i M j d a a3≠.lost:=vH (by rw[<- P.out];exact aH.out);obtain⟨c8,c9,ca,cb⟩:=bm.out ah.out;have b7:=bq.out i oA M j d a _ a3 ac aa wr B cf bw.out aA.out aQ;clear aI;go_wp2_with (fail);refine b7.mono ?_;clear b7
    cases a8:exM C i M j d a a3 with
    | lost=>exact absurd a8 aQ
    | back v G =>
     rintro e S ⟨rfl,N,L,V,q⟩;go_wp2;rw[show b=.back v G by rw[P.out,a8];rfl]
     exact⟨rfl,rfl,N,L,V,aw.out.trans q.any⟩
    | stop an G =>
     rintro e S ⟨⟨ps,au,rfl⟩,N,L,V,q⟩;go_wp2;rw[show b=.stop an G by rw[P.out,a8];rfl]
     exact⟨rfl,⟨ps,au,rfl⟩,N,L,V,aw.out.trans q.any⟩
    | go v G =>
     rintro e S ⟨rfl,N,L,V,q,_⟩;have ay:Hid (b=if v≠0 then(blM C i M j d c G).bind fun l s=>whM C i M l d a c s else .go j G):=by show b=_;rw[P.out,a8];rfl
     have a5:=show Hid _ from aA.out.after V q (aA.out.iv.go ((gds C i).ex ..) ((gks C i).ex ..) a8)
     have af:Hid (FK p (·=B) lo hi N L w S):=aw.out.trans q.any
     have ax:Hid (BoxC S w2.heap.size #[U O t,I x1,U O u,J k y n] 25):=q.box ah.out oA id am.out.1 am.out.2;have aL:BoxC S w.heap.size #[U O 11,I x,U O m,J (Z (A g h F)) 2 E] 25:=q.box aC.out aZ id aj.out.1 aj.out.2;have aB:Hid (BoxC S w.heap.size #[U O 11,I x,U O m,J (Z (A g h F)) 2 E] 25):=aL;have ak:Hid (N.ownBlock≠Z w2.heap.size/\L.ownBlock≠Z w2.heap.size):=⟨q.lone (BoxC.lt ah.out) am.out.1,q.hine (BoxC.lt ah.out) am.out.2⟩
     have ai:Hid (N.ownBlock≠Z w.heap.size/\L.ownBlock≠Z w.heap.size):=⟨q.lone (BoxC.lt aC.out) aj.out.1,q.hine (BoxC.lt aC.out) aj.out.2⟩
     obtain⟨cz,cH,cL,cR⟩:=aF.out aL;obtain⟨cv,cw,cx,cy⟩:=bv.out V;clear V q aL P a8 aQ aA aw ah aC am aj c8 c9 ca cb;by_cases bc:v=0
     ·subst bc;have R:Hid (b=.go j G):=by show b=_;rw[ay.out];rfl
      clear ay;go_wp2
      go_end0
      rw[R.out];exact⟨rfl,N,L,a5.out.m,af.out,a5.out.f⟩
     ·have R:Hid (b=(blM C i M j d c G).bind fun l s=>whM C i M l d a c s):=by show b=_;rw[ay.out,jv bc]
      have aR:blM C i M j d c G≠.lost:=vH (by rw[<- R.out];exact aH.out);have b6:=bj.out i oA M j d c _ G N L S B cg bz.out a5.out aR;clear ay;go_wp2_with (fail);refine b6.mono ?_;clear b6
      cases a9:blM C i M j d c G with
      | lost=>exact absurd a9 aR
      | back v ae =>
       rintro e aD ⟨rfl,a2,W,a6,r⟩;go_wp2;rw[show b=.back v ae by rw[R.out,a9];rfl]
       exact⟨rfl,rfl,a2,W,a6,af.out.trans r⟩
      | stop an ae =>
       rintro e aD ⟨⟨ps,au,rfl⟩,a2,W,a6,r⟩;go_wp2;rw[show b=.stop an ae by rw[R.out,a9];rfl]
       exact⟨rfl,⟨ps,au,rfl⟩,a2,W,a6,af.out.trans r⟩
      | go bg ae =>
       rintro e aD ⟨rfl,a2,W,a6,r,b8⟩;have bM:Hid (whM C i M bg d a c ae=b):=by show _=b;rw[R.out,a9];rfl
       have bN:=show Hid _ from a5.out.turned a6 r b8 (a5.out.iv.go ((gds C i).bl ..) ((gks C i).bl ..) a9)
       have br:=show Hid _ from af.out.trans r
       have bs:Hid (BoxC aD w2.heap.size #[U O t,I x1,U O u,J k y n] 25):=r.box ax.out oA (by show w2.heap.size≠B;omega) ak.out.1 ak.out.2;have bR:Hid (BoxC aD w.heap.size #[U O 11,I x,U O m,J (Z (A g h F)) 2 E] 25):=r.box aB.out aZ (by show w.heap.size≠B;omega) ai.out.1 ai.out.2;have bB:Hid (a2.ownBlock≠Z w2.heap.size/\W.ownBlock≠Z w2.heap.size):=⟨r.lone (BoxC.lt ax.out) ak.out.1,r.hine (BoxC.lt ax.out) ak.out.2⟩
       have bA:Hid (a2.ownBlock≠Z w.heap.size/\W.ownBlock≠Z w.heap.size):=⟨r.lone (BoxC.lt aB.out) ai.out.1,r.hine (BoxC.lt aB.out) ai.out.2⟩
       clear a6 r b8 a9 aR R a5 af ax aB ak ai cz cH cL cR cv cw cx cy;go_wp2
       go_roundg i
       case measure=>omega
       case rel=>exact⟨bg,ae,a2,W,oA,bM.out,bN.out,br.out,bs.out,bR.out,bB.out,bA.out⟩
end
end mdl
namespace mdl
open Go.RowKit Go.Maps Go.WideMaps
open syn face mac chk
section
variable {p:Pl} {C:Cx} {w0:Zw}
theorem yd6 (e:Gv p C w0) (a:Nat) (r:∀i,i<=a->CEx p C w0 i) (t:CIx p C w0 a) (y:CCa p C w0 a) (o:∀i,i<=a->CBl p C w0 i):CSt p C w0 (a+1):=by
 intro M l d E v s lo hi w B z f c g;have h:=r a (jE _);have q:=o a (jE _)
 cases z with
 | loc m D b=>exact st7 e a h _ _ _ b v f c g
 | set n b=>exact st8 e a h t _ _ _ _ n b v f c g
 | dd k=>exact st9 e a y _ _ _ k v f c g
 | ift b j=>exact zse e a h q _ _ _ _ [] oC b j (fun x k=>by cases k) v f c g
 | ife b j k=>exact zse e a h q _ _ _ _ [_] oC b j (fun x u=>by rw[jy]at u;rw[u];exact k) v f c g
 | whi b j=>exact yd2 e a r o _ _ _ _ b j v f c g
 | out m b=>exact yd3 e a h _ m _ b v f c g
 | inn m n=>exact yd4 e a t _ m _ n v f c g
 | ret b=>exact yd5 e a h _ _ _ b v f c g
end
section
variable {p:Pl} {C:Cx} {w0 w w':Zw} {lo hi lo' hi':Zv} {s s':RS} {d B:Nat} {M:ByteArray} {l:Lc}
theorem ydi (b:Nat):CBo p C w0 b gY (Za #[U O 0,I empty,U O 0,J F 0 0]):=by
 intro M l d s lo hi w B c e;have j:gY.body=.node 0 empty 0 []:=rfl;rw[j]at e |-
 cases b with
 | zero=>exact absurd (by unfold blM;rfl) e
 | succ b =>
 rw[zii]at e |-
 cases b with
 | zero=>exact absurd (by rw[zhu];rfl) e
 | succ b =>
 rw[zie];show Calls _ _ _ _ (StR p C w0 lo hi d B M w (.go (l.take l.length) s));have n:=c.m.lt;have r:=p.rd;have o:=c.f.lt;have k:=c.f.cn;have g:=show Hid _ from c.below (bal (Zc #[U O 0,I empty,U O 0,J F 0 0] 25))
 have h:=show Hid _ from(FK.refl p (·=B) lo hi w).alloc (Zc #[U O 0,I empty,U O 0,J F 0 0] 25)
 clear c e;go_enter func68,ntmps68;go_wp2;go_loopw [14] (fun iv wr=>iv=U O 0/\Hid (SF p C w0 lo hi s d B M l wr)/\Hid (FK p (·=B) lo hi lo hi w wr)) (fun _ _=>0)
 case atStart=>exact⟨rfl,g.out,h.out⟩
 case round =>
  obtain⟨rfl,a,i⟩:=hrel;have HP:=show Hid _ from a.out.f.pop (jE _)
  have k:=a.out.f.cn;have q:=a.out.f.fz 42;go_wp2
  go_end0
  exact⟨rfl,lo,hi,a.out.m.side a.out.f.gt a.out.nl a.out.nh _ _,i.out.side (.inl rfl) _ _,HP.out⟩
theorem ydl (j:Gv p C w0) (c:Nat) (G:CBl p C w0 c):CCl p C w0 (c+1):=by
 intro d x g h s lo hi w k t r u y W e;rw[zij]at e |-;by_cases q:d=30;·subst q;rw[jv rfl];exact zy5 x h k
 rw[ju q]at e |-;by_cases n:g.length<(C.ps x).pars.length\/20<(C.ps x).pars.length;·exact absurd (jv n) e
 rw[ju n]at e |-;have o:blM C c (C.ps x).mod ((C.ps x).pars.zip g) (d+1) (C.ps x).body s≠.lost:=fun b=>e (by rw[b];rfl)
 have f:=j.pr x;unfold zr0 PrG at f
 cases b:p.pf x with
 | none =>
  rw[b]at f;have Q:C.ps x=gY:=f;rw[Q]at o n |-
  exact zqf j c x g h gY 0 empty 0 F F 0 0 0 (ydi c) (by rw[b];rfl) oD (fun i=>absurd rfl i) k t r u y oA (jz _) (jz _) o
 | some v =>
  rw[b]at f;obtain⟨a,D,R,z,m,S,V,T,rfl,N,K,L,P⟩:=f;exact zqf j c x g h (C.ps x) R z m a S D V T (fun M l d s lo hi w B i E=>G M l d _ _ s lo hi w B K N i E) (by rw[b];rfl) L P k t r u y oA oA oA o
structure CAll (p:Pl) (C:Cx) (w0:Zw) (g:Nat):Prop where
 ex:CEx p C w0 g
 ix:CIx p C w0 g
 ca:CCa p C w0 g
 cl:CCl p C w0 g
 bl:CBl p C w0 g
 st:CSt p C w0 g
theorem zww:CAll p C w0 0:=by
 refine⟨?_,?_,?_,?_,?_,?_⟩;·intro M l d b v s lo hi w B _ _ _ a;exact absurd (by unfold exM;rfl) a
 ·intro M l d e x m f v s lo hi w B _ _ _ _ a;exact absurd (by unfold ixM;rfl) a
 ·intro M l d b v s lo hi w B _ _ _ a;exact absurd (by unfold caM;rfl) a
 ·intro d x g c s lo hi w _ _ _ _ _ _ a;exact absurd (by unfold clM;rfl) a
 ·intro M l d b v s lo hi w B _ _ _ a;exact absurd (by unfold blM;rfl) a
 ·intro M l d b v s lo hi w B _ _ _ a;exact absurd (by unfold stM;rfl) a
theorem zri (e:Gv p C w0):∀b,b<=1000001->∀a,a<=b->CAll p C w0 a
 | 0,_,a,d=>by
  obtain rfl:a=0:=oA
  exact zww
 | b+1,hg,a,d=>by
  have ih:=zri e b oA;by_cases g:a<=b;·exact ih a g
  obtain rfl:a=b+1:=oA;have c:=ih b (jE _);have f:∀a,a<=b->CEx p C w0 a:=fun a d=>(ih a d).ex
  have h:=ydl e b c.bl;exact⟨ydo e b c.ex c.ix c.ca,ydq b c.ex,ydk e b oA f c.cl,h,ydj e b (fun a d=>(ih a d).st),yd6 e b f c.ix c.ca (fun a d=>(ih a d).bl)⟩
end
theorem zwk {P:Program} {b:Exit->Act->List Frame->Zw->Prop} {a:Act} {c cs':List Frame} {w:Zw} {f:Code} {v:Zv} {d:Nat} {g:TypeId} {e:String} (h:recoverD c=Z (v,cs')) (i:f.wpS P b (a.put (Z d) v) cs' w) : ((Code.region 0 #[{ dst:=Z d,op:=Op.call { callee:=Callee.builtin Builtin.recover,args:=#[],argTypes:=#[] },type:=g,pos:=e,after:=#[],guard:=F }] false).seq f).wpS P b a c w:=by
 apply wpS_seq;apply wpS_region;simp[wpOpsS,go_sem,h,Exit.thenS];exact i
theorem zwj {P:Program} {c:Exit->Act->List Frame->Zw->Prop} {a:Act} {b:List Frame} {w:Zw} {f:Code} {d:Nat} {g:TypeId} {e:String} (h:recoverD b=F) (i:f.wpS P c (a.put (Z d) .nilIface) b w) : ((Code.region 0 #[{ dst:=Z d,op:=Op.call { callee:=Callee.builtin Builtin.recover,args:=#[],argTypes:=#[] },type:=g,pos:=e,after:=#[],guard:=F }] false).seq f).wpS P c a b w:=by
 apply wpS_seq;apply wpS_region;simp[wpOpsS,go_sem,h,Exit.thenS];exact i
section
variable {B R:Nat} {w:Zw} {x:Zv}
theorem zyw (g:w.cell? (A B 0 F)=Z (Zp (Z (A R 2 F)))) (d:w.cell? (A R 2 F)=Z x) (k:w.frozen? (A R 2 F)=false) : CallsD prog 65 #[Zp (Z (A B 0 F))] .returning w fun b h w'=>b=.returned (.tuple #[])/\h=.returning/\w'=w.setCell (A R 2 F) (U O 1):=by
 have n:∀w:Zw,(binOp BinOp.eql 20 .nilIface .nilIface).run prog w=.ok (Y H) w:=fun _=>oB
 have l:=jS w (A B 0 F) g;have m:=jS w (A R 2 F) d;refine callsD_of_wpS func65 rfl fun j i c=>?_
 refine zwj (by simp[recoverD,c]) ?_;simp only[ntmps65,List.size_toArray,jd,je,Nat.reduceAdd,Nat.reduceSub,Array.replicate_succ,Array.replicate_zero,List.push_toArray,List.append_toArray,js,jL,Act.put,List.setIfInBounds_toArray,List.set_cons_succ,List.set_cons_zero];refine wpS_of_wp (wp_mono (Q:=fun b a w'=>b=.normal/\a.defers=[]/\w'=w.setCell (A R 2 F) (U O 1)) ?_ ?_);·go_wp2
 ·rintro b a w' ⟨rfl,e,f⟩;exact⟨e,_,rfl,.tuple #[],by simp[results,results65],rfl,c,f⟩
theorem ya1 (b:Int) (ps:List PanicEntry) (i:w.cell? (A B 0 F)=Z (Zp (Z (A R 2 F)))) (f:w.cell? (A R 2 F)=Z x) (l:w.frozen? (A R 2 F)=false) : CallsD prog 65 #[Zp (Z (A B 0 F))] (.panicking (zcy b ps)) w fun c k w'=>c=.returned (.tuple #[])/\k=.panicking ({ v:=.iface 129 (U O b),recovered:=H } :: ps)/\w'=w.setCell (A R 2 F) (U O b):=by
 have o:∀w:Zw,(binOp BinOp.eql 20 (.iface 129 (U O b)) .nilIface).run prog w=.ok (Y false) w:=fun _=>oB
 have p:∀w:Zw,(Instr.typeAssert (.iface 129 (U O b)) 20 129 H).run prog w=.ok (.tuple #[U O b,Y H]) w:=fun _=>oB
 have m:=jS w (A B 0 F) i;have n:=jS w (A R 2 F) f;unfold zcy;refine callsD_of_wpS func65 rfl fun e d j=>?_
 refine zwk (v:=.iface 129 (U O b)) (cs':={ e with mode:=.panicking ({ v:=.iface 129 (U O b),recovered:=H } :: ps) } :: d) (by simp[recoverD,j]) ?_;simp only[ntmps65,List.size_toArray,jd,je,Nat.reduceAdd,Nat.reduceSub,Array.replicate_succ,Array.replicate_zero,List.push_toArray,List.append_toArray,js,jL,Act.put,List.setIfInBounds_toArray,List.set_cons_succ,List.set_cons_zero];refine wpS_of_wp (wp_mono (Q:=fun c a w'=>c=.normal/\a.defers=[]/\w'=w.setCell (A R 2 F) (U O b)) ?_ ?_);·go_wp2
 ·rintro c a w' ⟨rfl,g,h⟩;exact⟨g,_,rfl,.tuple #[],by simp[results,results65],rfl,rfl,h⟩
end
def zaa:Out Int->Int × RS
 | .go _ s=>(1,s)
 | .back _ s=>(1,s)
 | .stop c s=>(c,s)
 | .lost=>(0,⟨fun _=>[],[],[],0,0,0⟩)
def zX:ByteArray:=⟨#[109,97,105,110,46,109,97,105,110]⟩
section
variable {p:Pl} {C:Cx} {w w':Zw} {s:RS}
def ThR (p:Pl) (C:Cx) (w0:Zw) (R:Int × RS) (e:Ending) (w':Zw):Prop:=e=.returned (.tuple #[])/\∃lo hi w5,MRs p C w0 lo hi R.2 w5/\w'=w5.setCell (A p.R 2 F) (intV R.1)
theorem yct (f:Nat) (k:CCl p C w' f) {lo hi:Zv} {w:Zw} {s:RS} (o:MR p C w' lo hi s 0 w) (n:Inv C s) (i:clM C f 0 zX [] s≠.lost) : Calls prog 32 #[Zp (Z (A p.R 0 F))] w (fun b w2=>match clM C f 0 zX [] s with
   | .go v a=>b=.returned (.tuple #[])/\∃lo' hi',MR p C w' lo' hi' a 0 w2
   | .back v a=>b=.panicked (ze6 v)/\∃lo' hi',MR p C w' lo' hi' a 0 w2
   | .stop j a=>gV b j/\∃lo' hi',MRs p C w' lo' hi' a w2
   | .lost=>False):=by
 have h:=k 0 zX [] (J F 0 0) s lo hi w o n ⟨F,0,rfl,fun m=>absurd rfl m⟩ oC oD oA i;clear k;unfold zX at *;obtain⟨g,q⟩:∃g,g=clM C f 0 ⟨#[109,97,105,110,46,109,97,105,110]⟩ [] s:=⟨_,rfl⟩
 rw[<- q]at h i |-;go_enter func32,ntmps32;go_wp2_with (fail);refine h.mono ?_;clear h
 cases g with
 | lost=>exact absurd rfl i
 | go v a =>
  rintro b w2 ⟨rfl,e,d,c,l,_⟩;go_wp2
  go_end0
  exact⟨rfl,e,d,c⟩
 | back v a =>
  rintro b w2 ⟨rfl,e,d,c,l⟩;go_wp2
  exact⟨rfl,rfl,e,d,c⟩
 | stop j a =>
  rintro b w2 ⟨⟨ps,r,rfl⟩,e,d,c,l⟩;go_wp2;exact⟨rfl,⟨ps,r,rfl⟩,e,d,c⟩
theorem zu8 (C:Cx) (b d:Nat) (x:ByteArray) (c:List Int) (s:RS) (v:Int) (e:RS):clM C b d x c s≠.back v e:=by
 cases b with
 | zero=>unfold clM;intro a;cases a
 | succ b =>
  rw[zij];split;·intro a;cases a
  split;·intro a;cases a
  cases blM C b (C.ps x).mod ((C.ps x).pars.zip c) (d+1) (C.ps x).body s<;>(intro a;cases a)
def rs0 (a:ByteArray->List Int):RS:=⟨a,[],[],0,0,0⟩
structure Beg (p:Pl) (C:Cx) (vs:ByteArray->List Int) (w:Zw):Prop where
 sz:w.heap.size=p.D
 box:BoxC w p.R (yQ p C (J F 0 0) (J F 0 0) (rs0 vs) 0) 80
 wd:∀x,uD p w x (vs x)
 one:∀x y v v2,p.vf x=Z v->p.vf y=Z v2->v.ownBlock=v2.ownBlock->eqS x y=H
theorem Beg.start {d:ByteArray->List Int} (a:Beg p C d w):MR p C w (J F 0 0) (J F 0 0) (rs0 d) 0 (w.alloc (Zc #[Zp (Z (A p.R 2 F))] 128)):=by
 have b:=(Below.refl w.heap.size w).alloc (jE _) (Zc #[Zp (Z (A p.R 2 F))] 128);have h:=p.rd;refine⟨a.box.below b,a.sz,World.ownsRow_nil _ _ _ _,World.ownsRow_nil _ _ _ _,fun c e=>(by cases e),(Kept.refl _ w).below b,fun x=>(a.wd x).kept (fun c f g=>b.block c (by have:=a.sz;omega)),a.one,?_⟩;rw[<- a.sz];exact BoxC.new w _ _
theorem zl2 {d:ByteArray->List Int} (b:Nat) (K:b<=1000001) (r:Gv p C w) (e:Beg p C d w) (l:clM C b 0 zX [] (rs0 d)≠.lost) : Calls prog 31 #[Zp (Z (A p.R 2 F)),.func (.func 32) #[] #[Zp (Z (A p.R 0 F))]] w (ThR p C w (zaa (clM C b 0 zX [] (rs0 d)))):=by
 have P:∀(q:Fn) (first o:Array Zv) (w:Zw),(Instr.makeFunc q first o).run prog w=.ok (.func q first o) w:=fun _ _ _ _=>rfl
 have t:=e.start;have s:Inv C (rs0 d):=⟨jz _,jz _,jz _,jz _,jz _⟩
 have j:=yct b ((zri r b K b (jE _)).cl) t s l;have z:=e.sz;have Q:=p.rd;clear r e t s;obtain⟨h,u⟩:∃h,h=clM C b 0 zX [] (rs0 d):=⟨_,rfl⟩
 have x:=zu8 C b 0 zX [] (rs0 d);rw[<- u]at j l x |-;clear u;go_enter_defers func31,ntmps31;go_wp2_with (fail);refine j.mono ?_;clear j
 cases h with
 | lost=>exact absurd rfl l
 | go v n =>
  rintro g i ⟨rfl,m,k,c⟩;have a:=show Hid _ from c
  clear c;go_wp2;refine leaves_cons (f:=65) (args:=#[Zp (Z (A w.heap.size 0 F))]) oC oR ?_;rw[z];refine(zyw (B:=p.D) (R:=p.R) (a.out.bx.cell 0 rfl) (a.out.box.cell 2 rfl) (a.out.box.fz 2)).mono ?_;rintro g L M ⟨rfl,rfl,rfl⟩
  exact zpr
 | back v n =>
  rintro g i ⟨rfl,m,k,c⟩
  exact absurd rfl (x v n)
 | stop G n =>
  rintro g i ⟨⟨ps,y,rfl⟩,m,k,⟨N,c⟩⟩;have a:=show Hid _ from c
  have E:=show Hid _ from y
  clear c y;go_wp2;refine leaves_cons (f:=65) (args:=#[Zp (Z (A w.heap.size 0 F))]) oC oR ?_;rw[z];refine(ya1 (B:=p.D) (R:=p.R) G ps (a.out.bx.cell 0 rfl) (a.out.box.cell 2 rfl) (a.out.box.fz 2)).mono ?_;rintro g L M ⟨rfl,rfl,rfl⟩;show Leaves _ _ _ _ [] (settle _) _;rw[zsp E.out];exact zpr
end
end mdl
namespace face
open Go.RowKit Go.Maps
theorem FR.grown' {X:Nat->Prop} {B:Nat} {w w':Zw} {vv pv:Zv} {V:List VarD} {P:List (ProcD × Zv)} {f:Option Nat} (b:FR X B w vv pv V P) (e:w.grownBy w' f) (h:∀a,f=Z a->vv.ownBlock≠Z a/\pv.ownBlock≠Z a/\a<B):FR X B w' vv pv V P:=by
 have l:vv.ownBlock=F\/vv.ownBlock≠f:=by
  cases c:vv.ownBlock with
  | none=>exact .inl rfl
  | some a=>exact .inr (fun g=>(h a g.symm).1 c)
 have j:pv.ownBlock=F\/pv.ownBlock≠f:=by
  cases c:pv.ownBlock with
  | none=>exact .inl rfl
  | some a=>exact .inr (fun g=>(h a g.symm).2.1 c)
 refine⟨b.ov.kept e l,b.op.kept e j,fun q k=>?_,b.dj,b.xv,b.xp⟩;exact(b.par q k).to (fun a d=>⟨d.1,jo d.2.1 e.size,d.2.2⟩) (fun a d o v i=>cell_grown e i (fun c=>by have m:=(h a c).2.2;have n:=d.1;omega))
abbrev gD (w:Zw) (b:Nat) (l:List ByteArray):Prop:=w.ownsMap prog 9 (unitElem (H:=Unit)) b l.length (setD l)
structure DC (w:Zw) (D:Nat) (x0 x1 x2 x3 x4 x5 x6 x7:Zv):Prop where
 c0:w.cell? (A D 0 F)=Z x0
 c1:w.cell? (A D 1 F)=Z x1
 c2:w.cell? (A D 2 F)=Z x2
 c3:w.cell? (A D 3 F)=Z x3
 c4:w.cell? (A D 4 F)=Z x4
 c5:w.cell? (A D 5 F)=Z x5
 c6:w.cell? (A D 6 F)=Z x6
 c7:w.cell? (A D 7 F)=Z x7
 fz:∀k,w.frozen? (A D k F)=false
section
variable {w w':Zw} {D:Nat} {x0 x1 x2 x3 x4 x5 x6 x7:Zv}
theorem DC.lt (a:DC w D x0 x1 x2 x3 x4 x5 x6 x7):D<w.heap.size:=jS w (A D 0 F) a.c0
theorem DC.block (b:DC w D x0 x1 x2 x3 x4 x5 x6 x7) (c:w'.heap[D]?=w.heap[D]?):DC w' D x0 x1 x2 x3 x4 x5 x6 x7 :=
 ⟨(jN (a:=(A D 0 F)) c).trans b.c0,(jN (a:=(A D 1 F)) c).trans b.c1,(jN (a:=(A D 2 F)) c).trans b.c2,(jN (a:=(A D 3 F)) c).trans b.c3,(jN (a:=(A D 4 F)) c).trans b.c4,(jN (a:=(A D 5 F)) c).trans b.c5,(jN (a:=(A D 6 F)) c).trans b.c6,(jN (a:=(A D 7 F)) c).trans b.c7,
   fun d=>(jO (a:=(A D d F)) c).trans (b.fz d)⟩
theorem DC.grown {row:Option Nat} (a:DC w D x0 x1 x2 x3 x4 x5 x6 x7) (c:w.grownBy w' row) (d:row≠Z D):DC w' D x0 x1 x2 x3 x4 x5 x6 x7:=a.block (c.block D a.lt (fun b=>d b.symm))
theorem zaj {w:Zw} {D a c:Nat} {v:Zv} (b:∀a,w.frozen? (A D a F)=false):(w.setCell (A D c F) v).frozen? (A D a F)=false:=by simp[b a]
theorem DC.set0 (a:DC w D x0 x1 x2 x3 x4 x5 x6 x7) (v:Zv):DC (w.setCell (A D 0 F) v) D v x1 x2 x3 x4 x5 x6 x7 :=
 ⟨jT _ _ _ a.c0,by rw[jD _ _ _ _ oC];exact a.c1,by rw[jD _ _ _ _ oC];exact a.c2,by rw[jD _ _ _ _ oC];exact a.c3,by rw[jD _ _ _ _ oC];exact a.c4,by rw[jD _ _ _ _ oC];exact a.c5,by rw[jD _ _ _ _ oC];exact a.c6,by rw[jD _ _ _ _ oC];exact a.c7,fun b=>zaj a.fz⟩
theorem DC.set1 (a:DC w D x0 x1 x2 x3 x4 x5 x6 x7) (v:Zv):DC (w.setCell (A D 1 F) v) D x0 v x2 x3 x4 x5 x6 x7 :=
 ⟨by rw[jD _ _ _ _ oC];exact a.c0,jT _ _ _ a.c1,by rw[jD _ _ _ _ oC];exact a.c2,by rw[jD _ _ _ _ oC];exact a.c3,by rw[jD _ _ _ _ oC];exact a.c4,by rw[jD _ _ _ _ oC];exact a.c5,by rw[jD _ _ _ _ oC];exact a.c6,by rw[jD _ _ _ _ oC];exact a.c7,fun b=>zaj a.fz⟩
theorem DC.set2 (a:DC w D x0 x1 x2 x3 x4 x5 x6 x7) (v:Zv):DC (w.setCell (A D 2 F) v) D x0 x1 v x3 x4 x5 x6 x7 :=
 ⟨by rw[jD _ _ _ _ oC];exact a.c0,by rw[jD _ _ _ _ oC];exact a.c1,jT _ _ _ a.c2,by rw[jD _ _ _ _ oC];exact a.c3,by rw[jD _ _ _ _ oC];exact a.c4,by rw[jD _ _ _ _ oC];exact a.c5,by rw[jD _ _ _ _ oC];exact a.c6,by rw[jD _ _ _ _ oC];exact a.c7,fun b=>zaj a.fz⟩
theorem DC.set3 (a:DC w D x0 x1 x2 x3 x4 x5 x6 x7) (v:Zv):DC (w.setCell (A D 3 F) v) D x0 x1 x2 v x4 x5 x6 x7 :=
 ⟨by rw[jD _ _ _ _ oC];exact a.c0,by rw[jD _ _ _ _ oC];exact a.c1,by rw[jD _ _ _ _ oC];exact a.c2,jT _ _ _ a.c3,by rw[jD _ _ _ _ oC];exact a.c4,by rw[jD _ _ _ _ oC];exact a.c5,by rw[jD _ _ _ _ oC];exact a.c6,by rw[jD _ _ _ _ oC];exact a.c7,fun b=>zaj a.fz⟩
theorem DC.set6 (a:DC w D x0 x1 x2 x3 x4 x5 x6 x7) (v:Zv):DC (w.setCell (A D 6 F) v) D x0 x1 x2 x3 x4 x5 v x7 :=
 ⟨by rw[jD _ _ _ _ oC];exact a.c0,by rw[jD _ _ _ _ oC];exact a.c1,by rw[jD _ _ _ _ oC];exact a.c2,by rw[jD _ _ _ _ oC];exact a.c3,by rw[jD _ _ _ _ oC];exact a.c4,by rw[jD _ _ _ _ oC];exact a.c5,jT _ _ _ a.c6,by rw[jD _ _ _ _ oC];exact a.c7,fun b=>zaj a.fz⟩
theorem DC.set7 (a:DC w D x0 x1 x2 x3 x4 x5 x6 x7) (v:Zv):DC (w.setCell (A D 7 F) v) D x0 x1 x2 x3 x4 x5 x6 v :=
 ⟨by rw[jD _ _ _ _ oC];exact a.c0,by rw[jD _ _ _ _ oC];exact a.c1,by rw[jD _ _ _ _ oC];exact a.c2,by rw[jD _ _ _ _ oC];exact a.c3,by rw[jD _ _ _ _ oC];exact a.c4,by rw[jD _ _ _ _ oC];exact a.c5,by rw[jD _ _ _ _ oC];exact a.c6,jT _ _ _ a.c7,fun b=>zaj a.fz⟩
end
structure DI (w:Zw) (D Bm Bd:Nat) (mp:Option Nat) (vv pv iv:Zv) (m:ByteArray) (V:List VarD) (P:List (ProcD × Zv)) (is ms ns qs:List ByteArray) (a:Int):Prop where
 dc:DC w D (I m) vv pv iv (.map (Z Bm)) (.map (Z Bd)) (.map mp) (U O a)
 lm:Bm<Bd
 ld:Bd<D
 lp:∀b,mp=Z b->D<b
 fr:FR (fun b=>iv.ownBlock=Z b\/mp=Z b) (D+1) w vv pv V P
 oi:w.ownsRow (D+1) 9 1 iv is.length (vY is)
 xi:∀b,iv.ownBlock=Z b->mp≠Z b
 om:gD w Bm ms
 am:apartB [] ms=H
 od:gD w Bd ns
 ad:apartB [] ns=H
 op:∀b,mp=Z b->gD w b qs
 aq:apartB [] qs=H
section
variable {w w':Zw} {D Bm Bd:Nat} {mp:Option Nat} {vv pv iv:Zv} {m:ByteArray} {V:List VarD} {P:List (ProcD × Zv)} {is ms ns qs:List ByteArray} {a:Int}
theorem DI.below (b:DI w D Bm Bd mp vv pv iv m V P is ms ns qs a) (c:Below w.heap.size w w'):DI w' D Bm Bd mp vv pv iv m V P is ms ns qs a :=
 have d:w.grownBy w' F:=⟨c.os,c.tape,c.output,c.size,fun h g _=>c.block h g⟩
 ⟨b.dc.grown d oC,b.lm,b.ld,b.lp,b.fr.below c,zl6 b.oi c,b.xi,b.om.kept d oC,b.am,b.od.kept d oC,b.ad,fun e f=>(b.op e f).kept d oC,b.aq⟩
theorem cN (d:DI w D Bm Bd mp vv pv iv m V P is ms ns qs a):(∀b,iv.ownBlock=Z b->D<b)/\(∀b,vv.ownBlock=Z b->D<b)/\(∀b,pv.ownBlock=Z b->D<b) :=
 ⟨fun b c=>by have:=(d.oi.lt _ c).1;omega,fun b c=>by have:=(d.fr.ov.lt _ c).1;omega,fun b c=>by have:=(d.fr.op.lt _ c).1;omega⟩
theorem DI.enterM (b:DI w D Bm Bd mp vv pv iv m V P is ms ns qs a) {x:ByteArray} (g:gD w' Bm (ms++[x])) (f:apartB [] (ms++[x])=H) (e:w.grownBy w' (Z Bm)):DI w' D Bm Bd mp vv pv iv m V P is (ms++[x]) ns qs a:=by
 have k:=b.lm;have j:=b.ld;obtain⟨h,lv,i⟩:=cN b;refine⟨b.dc.grown e oE,b.lm,b.ld,b.lp,?_,b.oi.kept e ?_,b.xi,g,f,b.od.kept e oE,b.ad,fun d c=>(b.op d c).kept e (by have:=b.lp d c;simp;omega),b.aq⟩;·exact FR.grown' b.fr e (fun d c=>by cases c;exact⟨fun c=>by have:=lv _ c;omega,fun c=>by have:=i _ c;omega,oA⟩)
 ·cases c:iv.ownBlock with
  | none=>exact .inl rfl
  | some d=>exact .inr (by have:=h d c;simp;omega)
end
section
variable {w w':Zw} {D Bm Bd:Nat} {mp:Option Nat} {vv pv iv:Zv} {m:ByteArray} {V:List VarD} {P:List (ProcD × Zv)} {is ms ns qs:List ByteArray} {a:Int}
variable {b c:Nat}
theorem zvu {v:Zv} (d:∀a,v.ownBlock=Z a->b<a):v.ownBlock=F\/v.ownBlock≠Z b:=by
 cases c:v.ownBlock with
 | none=>exact .inl rfl
 | some a=>exact .inr (by have:=d a c;simp;omega)
theorem DI.enterD (b:DI w D Bm Bd mp vv pv iv m V P is ms ns qs a) {x:ByteArray} (g:gD w' Bd (ns++[x])) (f:apartB [] (ns++[x])=H) (d:w.grownBy w' (Z Bd)):DI w' D Bm Bd mp vv pv iv m V P is ms (ns++[x]) qs a:=by
 have l:=b.lm;have k:=b.ld;obtain⟨i,lv,j⟩:=cN b;refine⟨b.dc.grown d oE,b.lm,b.ld,b.lp,?_,b.oi.kept d (zvu (fun h c=>by have:=i h c;omega)),b.xi,b.om.kept d oE,b.am,g,f,fun e c=>(b.op e c).kept d (by have:=b.lp e c;simp;omega),b.aq⟩;exact FR.grown' b.fr d (fun e c=>by cases c;exact⟨fun c=>by have:=lv _ c;omega,fun c=>by have:=j _ c;omega,oA⟩)
theorem DI.enterP (c:DI w D Bm Bd (Z b) vv pv iv m V P is ms ns qs a) {x:ByteArray} (i:gD w' b (qs++[x])) (h:apartB [] (qs++[x])=H) (e:w.grownBy w' (Z b)):DI w' D Bm Bd (Z b) vv pv iv m V P is ms ns (qs++[x]) a:=by
 have k:=c.lm;have j:=c.ld;have l:=c.lp b rfl;refine⟨c.dc.grown e oE,c.lm,c.ld,c.lp,c.fr.grown e (fun f d=>.inr d),c.oi.kept e ?_,c.xi,c.om.kept e oE,c.am,c.od.kept e oE,c.ad,fun f d=>by cases d;exact i,h⟩
 cases d:iv.ownBlock with
 | none=>exact .inl rfl
 | some f=>exact .inr (fun g=>c.xi f d g.symm)
theorem DI.rest (c:DI w D Bm Bd mp vv pv iv m V P is ms ns qs a) (d:Nat) (v:Zv) : FR (fun b=>iv.ownBlock=Z b\/mp=Z b) (D+1) (w.setCell (A D d F) v) vv pv V P/\(w.setCell (A D d F) v).ownsRow (D+1) 9 1 iv is.length (vY is)/\gD (w.setCell (A D d F) v) Bm ms/\gD (w.setCell (A D d F) v) Bd ns/\∀b,mp=Z b->gD (w.setCell (A D d F) v) b qs:=by
 have h:=c.lm;have g:=c.ld;obtain⟨f,_,_⟩:=cN c;exact⟨c.fr.set oA v,jV c.oi (fun e=>by have:=f _ e;simp at this) _,c.om.setCell (by show Bm≠D;omega) _,c.od.setCell (by show Bd≠D;omega) _,fun b e=>(c.op b e).setCell (by have:=c.lp b e;show b≠D;omega) _⟩
theorem DI.setAt (b:DI w D Bm Bd mp vv pv iv m V P is ms ns qs a) (d:Int):DI (w.setCell (A D 7 F) (U O d)) D Bm Bd mp vv pv iv m V P is ms ns qs d :=
 have c:=b.rest 7 (U O d)
 ⟨b.dc.set7 _,b.lm,b.ld,b.lp,c.1,c.2.1,b.xi,c.2.2.1,b.am,c.2.2.2.1,b.ad,c.2.2.2.2,b.aq⟩
theorem DI.setModule (b:DI w D Bm Bd mp vv pv iv m V P is ms ns qs a) (d:ByteArray):DI (w.setCell (A D 0 F) (I d)) D Bm Bd mp vv pv iv d V P is ms ns qs a :=
 have c:=b.rest 0 (I d)
 ⟨b.dc.set0 _,b.lm,b.ld,b.lp,c.1,c.2.1,b.xi,c.2.2.1,b.am,c.2.2.2.1,b.ad,c.2.2.2.2,b.aq⟩
theorem FR.turn {X h:Nat->Prop} {B:Nat} {k:Option Nat} (d:FR X B w vv pv V P) (f:w.grownBy w' k) (i:∀a,k=Z a->X a) (e:∀a,a<w.heap.size->h a->X a):FR h B w' vv pv V P :=
 have j:=d.grown f i
 ⟨j.ov,j.op,fun q m=>(d.par q m).to (fun a c=>⟨c.1,jo c.2.1 f.size,c.2.2.1,c.2.2.2.1,fun b=>c.2.2.2.2 (e a c.2.1 b)⟩) (fun a c n v l=>cell_grown f l (fun b=>c.2.2.2.2 (i a b))),d.dj,
  fun a b g=>d.xv a b (e a (d.ov.lt _ b).2 g),fun a b g=>d.xp a b (e a (d.op.lt _ b).2 g)⟩
theorem DI.pushI (f:DI w D Bm Bd mp vv pv iv m V P is ms ns qs a) {x:ByteArray} (r:w'.ownsRow (D+1) 9 1 (J (Z (A b 0 F)) (is.length+1) c) (is.length+1) (vY is++[I x])) (h:w.grownBy w' iv.ownBlock) (l:iv.ownBlock=Z b\/b=w.heap.size) : DI (w'.setCell (A D 3 F) (J (Z (A b 0 F)) (is.length+1) c)) D Bm Bd mp vv pv (J (Z (A b 0 F)) (is.length+1) c) m V P (is++[x]) ms ns qs a:=by
 have v:=f.lm;have u:=f.ld;obtain⟨t,lv,y⟩:=cN f;have k:∀d,d<=D->Z d≠iv.ownBlock:=fun d o e=>by have:=t d e.symm;omega
 have p:=f.dc.grown h (fun e=>k D (jE _) e.symm)
 have s:∀d,(Value.slice (Z (A b 0 F)) (is.length+1) c).ownBlock=Z d->mp≠Z d:=fun d e i=>by
  have j:Z b=Z d:=e;cases j;rcases l with g | g
  ·exact f.xi b g i
  ·have:=(f.op b i).lt;omega
 have q:FR (fun d=>(Value.slice (Z (A b 0 F)) (is.length+1) c).ownBlock=Z d\/mp=Z d) (D+1) w' vv pv V P:=f.fr.turn h (fun d e=>.inl e) (fun d o e=>by
  rcases e with e | e
  ·have j:Z b=Z d:=e;cases j;rcases l with g | g
   ·exact .inl g
   ·omega
  ·exact .inr e)
 have n:w'.ownsRow (D+1) 9 1 (J (Z (A b 0 F)) (is.length+1) c) (is++[x]).length (vY (is++[x])):=by
  rw[zwp,jb];exact r
 refine⟨p.set3 _,f.lm,f.ld,f.lp,q.set oA _,jV n (fun e=>by have:=(n.lt _ e).1;simp at this;omega) _,s,(f.om.kept h (k Bm oA)).setCell (by show Bm≠D;omega) _,f.am,(f.od.kept h (k Bd oA)).setCell (by show Bd≠D;omega) _,f.ad,fun d e=>((f.op d e).kept h (fun i=>f.xi d i.symm e)).setCell (by have:=f.lp d e;show d≠D;omega) _,f.aq⟩
theorem DI.fresh (d:DI w D Bm Bd mp vv pv iv m V P is ms ns qs a):∀b,w.heap.size<=b->¬(iv.ownBlock=Z b\/mp=Z b):=fun b e c=>by
 rcases c with c | c
 ·have:=(d.oi.lt _ c).2;omega
 ·have:=(d.op b c).lt;omega
theorem DI.pushV (d:DI w D Bm Bd mp vv pv iv m V P is ms ns qs a) {v:VarD} (n:w'.ownsRow (D+1) 87 4 (J (Z (A b 0 F)) (V.length+1) c) (V.length+1) (qZ V++[I v.name,Y v.pub,U O v.label,U O v.size])) (g:w.grownBy w' vv.ownBlock) (j:vv.ownBlock=Z b\/b=w.heap.size) : DI (w'.setCell (A D 1 F) (J (Z (A b 0 F)) (V.length+1) c)) D Bm Bd mp (J (Z (A b 0 F)) (V.length+1) c) pv iv m (V++[v]) P is ms ns qs a:=by
 have s:=d.lm;have r:=d.ld;obtain⟨p,lv,t⟩:=cN d;have i:∀e,e<=D->Z e≠vv.ownBlock:=fun e q f=>by have:=lv e f.symm;omega
 have k:=d.dc.grown g (fun f=>i D (jE _) f.symm);have l:=d.fr.pushV n g j d.fresh
 have o:=d.oi.kept g (by
  cases f:iv.ownBlock with
  | none=>exact .inl rfl
  | some e=>exact .inr (fun h=>d.fr.xv e h.symm (.inl f)))
 exact⟨k.set1 _,d.lm,d.ld,d.lp,l.set oA _,jV o (fun f=>by have:=p _ f;simp at this) _,d.xi,(d.om.kept g (i Bm oA)).setCell (by show Bm≠D;omega) _,d.am,(d.od.kept g (i Bd oA)).setCell (by show Bd≠D;omega) _,d.ad,fun e f=>((d.op e f).kept g (fun h=>d.fr.xv e h.symm (.inr f))).setCell (by have:=d.lp e f;show e≠D;omega) _,d.aq⟩
theorem DI.pushP (d:DI w D Bm Bd mp vv pv iv m V P is ms ns qs a) {q:ProcD × Zv} (n:w'.ownsRow (D+1) 91 6 (J (Z (A b 0 F)) (P.length+1) c) (P.length+1) (xO P++[I q.1.name,Y q.1.pub,q.2,U O q.1.writes,Y q.1.gives,U O q.1.given])) (g:w.grownBy w' pv.ownBlock) (j:pv.ownBlock=Z b\/b=w.heap.size) (p:yM (fun e=>D+1<=e/\e<w.heap.size/\vv.ownBlock≠Z e/\pv.ownBlock≠Z e/\¬(iv.ownBlock=Z e\/mp=Z e)) w q.2 q.1.params) : DI (w'.setCell (A D 2 F) (J (Z (A b 0 F)) (P.length+1) c)) D Bm Bd mp vv (J (Z (A b 0 F)) (P.length+1) c) iv m V (P++[q]) is ms ns qs a:=by
 have v:=d.lm;have u:=d.ld;obtain⟨r,lv,s⟩:=cN d;have i:∀e,e<=D->Z e≠pv.ownBlock:=fun e t f=>by have:=s e f.symm;omega
 have k:=d.dc.grown g (fun f=>i D (jE _) f.symm);have l:=d.fr.pushP n g j d.fresh p
 have o:=d.oi.kept g (by
  cases f:iv.ownBlock with
  | none=>exact .inl rfl
  | some e=>exact .inr (fun h=>d.fr.xp e h.symm (.inl f)))
 exact⟨k.set2 _,d.lm,d.ld,d.lp,l.set oA _,jV o (fun f=>by have:=r _ f;simp at this) _,d.xi,(d.om.kept g (i Bm oA)).setCell (by show Bm≠D;omega) _,d.am,(d.od.kept g (i Bd oA)).setCell (by show Bd≠D;omega) _,d.ad,fun e f=>((d.op e f).kept g (fun h=>d.fr.xp e h.symm (.inr f))).setCell (by have:=d.lp e f;show e≠D;omega) _,d.aq⟩
theorem DI.newP (c:DI w D Bm Bd mp vv pv iv m V P is ms ns qs a) (e:Below w.heap.size w w') (l:gD w' w.heap.size []) : DI (w'.setCell (A D 6 F) (.map (Z w.heap.size))) D Bm Bd (Z w.heap.size) vv pv iv m V P is ms ns [] a:=by
 have q:=c.lm;have p:=c.ld;have h:=c.dc.lt;have j:w.grownBy w' F:=⟨e.os,e.tape,e.output,e.size,fun n k _=>e.block n k⟩
 obtain⟨o,lv,r⟩:=cN c;have f:=c.below e
 have i:FR (fun d=>iv.ownBlock=Z d\/Z w.heap.size=Z d) (D+1) w' vv pv V P:=c.fr.turn j (fun d b=>by cases b) (fun d e b=>by
  rcases b with b | b
  ·exact .inl b
  ·cases b;omega)
 exact⟨f.dc.set6 _,c.lm,c.ld,fun d b=>by cases b;exact h,i.set oA _,jV f.oi (fun b=>by have:=o _ b;simp at this) _,fun d b g=>by cases g;have:=(c.oi.lt _ b).2;omega,f.om.setCell (by show Bm≠D;omega) _,c.am,f.od.setCell (by show Bd≠D;omega) _,c.ad,fun d b=>by cases b;exact l.setCell (by show w.heap.size≠D;omega) _,rfl⟩
end
structure KZ (zb:Nat) (w w':Zw):Prop where
 eq:w'.heap[zb]?=w.heap[zb]?
 lt:zb<w'.heap.size
section
variable {zb:Nat} {w w' w2:Zw}
theorem KZ.below (a:KZ zb w w') (b:Below w'.heap.size w' w2):KZ zb w w2:=⟨(b.block zb a.lt).trans a.eq,jo a.lt b.size⟩
theorem KZ.alloc (b:KZ zb w w') (a:Obj):KZ zb w (w'.alloc a):=b.below (bal a)
theorem KZ.drew (a:KZ zb w w'):KZ zb w w'.drew:=⟨a.eq,a.lt⟩
theorem KZ.grown {row:Option Nat} (a:KZ zb w w') (b:w'.grownBy w2 row) (d:row≠Z zb):KZ zb w w2:=⟨(b.block zb a.lt (fun c=>d c.symm)).trans a.eq,jo a.lt b.size⟩
theorem KZ.set (a:KZ zb w w') {D o:Nat} (b:zb≠D) (v:Zv):KZ zb w (w'.setCell (A D o F) v):=⟨(jQ _ _ _ _ b).trans a.eq,by rw[jR];exact a.lt⟩
end
end face
end Go.Proofs.YtbjppepjmcfkaaaGreatDoor
