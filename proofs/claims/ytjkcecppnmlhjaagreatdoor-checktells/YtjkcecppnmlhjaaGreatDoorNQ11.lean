/- What a call that tells a text's face answers; what is never a fault. -/
import Derived.Test.YtjkcecppnmlhjaaGreatDoorNQr
import Derived.Test.YtjkcecppnmlhjaaGreatDoorNQ10
open Go.Proofs.Tryz
open Go.Value renaming int → U, string → I, slice → J, bool → Y, agg → Za, pointer → Zp
open Go.IntKind renaming i64 → O
open Go.Obj renaming cells → Zc
open Go.Addr renaming mk → A
open Option renaming none → F, some → Z
open Bool renaming false → X, true → H
open Go renaming World → Zw, Value → Zv
set_option maxHeartbeats 4000000
set_option linter.unusedVariables false
set_option linter.unusedSimpArgs false
set_option maxRecDepth 100000
namespace Go.Proofs.YtjkcecppnmlhjaaGreatDoor
theorem oz11x91 {t:Prop} (h:t:=by
 exact⟨rfl,(s.trans (Q.mono s.size)).mono oA,.inl ⟨_,zrl z ao,rfl⟩⟩):t:=h
theorem oz11x92 {t:Prop} (h:t:=by
 exact⟨rfl,(s.trans (Q.mono s.size)).mono oA,.inl ⟨_,zq4 z,rfl⟩⟩):t:=h
theorem oz11y101 {t:Prop} (h:t:=by
 have:=j.dc.lt;omega):t:=h
theorem oz11x87 {e:Prop} (r:e:=by
 go_wp2_with (fail);refine E.mono ?_;rintro i w2 ⟨af,(⟨bp,T,rfl⟩|⟨T,_⟩)⟩;·cases T;go_wp2;exact⟨rfl,(p.alloc oA _).trans af,.inl ⟨aC,a6.out.trans t.out,rfl⟩⟩
 ·cases T):e:=r
theorem oz11y98 {i:Prop} (T:i:=by
 simp[results,results86,go_sem,aO,aP,aQ,aR,aS,aT]):i:=T
theorem oz11y97 {i:Prop} (T:i:=by
 show w.heap.size<=N;omega):i:=T
theorem oz11y96 {i:Prop} (T:i:=by
 have:=ak _ k;omega):i:=T
theorem oz11y95 {i:Prop} (T:i:=by
 have:=(s.lt _ k).2;omega):i:=T
theorem oz11y94 {i:Prop} (T:i:=by
 have:=aL.out;omega):i:=T
theorem oz11x90 {i:Prop} (T:i:=by
 exact lexs.ownsRow_le (zmj (jU (jU s aE _) aE _) aD _ _ _ _ _ _) oA):i:=T
theorem oz11y99 {f:Prop} (z:f:=by
 have:=l.dc.lt;omega):f:=z
theorem oz11x89 {f:Prop} (z:f:=by
 go_wp2_with (go_at_call 93;refine bP.mono ?_;rintro d w2 ⟨rfl,cm⟩;obtain rfl:=cm.symm)
 exact⟨rfl,bh,.inr (.inr (.inl ⟨a7,am,bg.out,rfl⟩))⟩):f:=z
theorem oz11x93 {f:Prop} (z:f:=by
 exact⟨rfl,(s.trans (a3.mono s.size)).mono oA,.inr (.inl ⟨a7,bo,rfl⟩)⟩):f:=z
theorem oz11y100 {f:Prop} (z:f:=by
 have:=l.dc.lt;omega):f:=z
theorem oz11x88 {e:Prop} (j:e:=by
 go_wp2_with (go_at_call 40;refine L.mono ?_;rintro l aa ⟨rfl,r,n⟩);go_roundw
 case rel=>exact⟨c+1,oA,oJ,n,(q.alloc oA _).trans r⟩
 case measure=>simp[intOf];omega):e:=j
namespace face
open Go.RowKit
open syn
section
variable {w w':Zw} {N M:Nat} {x0 x1 x2 x3 x4 x5:Zv}
theorem Box6.other6 (h:Box6 w N x0 x1 x2 x3 x4 x5) (b:M≠N) (a c d e f g:Zv):Box6 ((((((w.setCell (A M 0 F) a).setCell (A M 1 F) c).setCell (A M 2 F) d).setCell (A M 3 F) e).setCell (A M 4 F) f).setCell (A M 5 F) g) N x0 x1 x2 x3 x4 x5:=(((((h.other b a).other b c).other b d).other b e).other b f).other b g
theorem Q4.other {d e f g:Zv} (c:M≠N) (b:Q4 N d e f g w) (o:Nat) (v:Zv):Q4 N d e f g (w.setCell (A M o F) v) :=
 ⟨by rw[jD _ _ _ _ (by intro a;cases a;exact c rfl)];exact b.1,by rw[jD _ _ _ _ (by intro a;cases a;exact c rfl)];exact b.2.1,by rw[jD _ _ _ _ (by intro a;cases a;exact c rfl)];exact b.2.2.1,by rw[jD _ _ _ _ (by intro a;cases a;exact c rfl)];exact b.2.2.2⟩
theorem Q4.other6 {h i j k:Zv} (b:M≠N) (l:Q4 N h i j k w) (a c d e f g:Zv):Q4 N h i j k ((((((w.setCell (A M 0 F) a).setCell (A M 1 F) c).setCell (A M 2 F) d).setCell (A M 3 F) e).setCell (A M 4 F) f).setCell (A M 5 F) g) :=
 Q4.other b (Q4.other b (Q4.other b (Q4.other b (Q4.other b (Q4.other b l 0 a) 1 c) 2 d) 3 e) 4 f) 5 g
theorem zb5 {c:Nat} {a:Zw} (d:Below c a w) (b:c<=M) (x0 x1 x2 x3 x4 x5:Zv):Below c a ((((((w.setCell (A M 0 F) x0).setCell (A M 1 F) x1).setCell (A M 2 F) x2).setCell (A M 3 F) x3).setCell (A M 4 F) x4).setCell (A M 5 F) x5):=(((((d.setCell b _).setCell b _).setCell b _).setCell b _).setCell b _).setCell b _
theorem Box6.set0 (a:Box6 w N x0 x1 x2 x3 x4 x5) (v:Zv):Box6 (w.setCell (A N 0 F) v) N v x1 x2 x3 x4 x5 :=
 ⟨jS _ _ _ a.c0,by rw[jD _ _ _ _ oB];exact a.c1,by rw[jD _ _ _ _ oB];exact a.c2,by rw[jD _ _ _ _ oB];exact a.c3,by rw[jD _ _ _ _ oB];exact a.c4,by rw[jD _ _ _ _ oB];exact a.c5,by simp[a.f0],by simp[a.f1],by simp[a.f2],by simp[a.f3],by simp[a.f4],by simp[a.f5]⟩
theorem Box6.set1 (a:Box6 w N x0 x1 x2 x3 x4 x5) (v:Zv):Box6 (w.setCell (A N 1 F) v) N x0 v x2 x3 x4 x5 :=
 ⟨by rw[jD _ _ _ _ oB];exact a.c0,jS _ _ _ a.c1,by rw[jD _ _ _ _ oB];exact a.c2,by rw[jD _ _ _ _ oB];exact a.c3,by rw[jD _ _ _ _ oB];exact a.c4,by rw[jD _ _ _ _ oB];exact a.c5,by simp[a.f0],by simp[a.f1],by simp[a.f2],by simp[a.f3],by simp[a.f4],by simp[a.f5]⟩
theorem Box6.set3 (a:Box6 w N x0 x1 x2 x3 x4 x5) (v:Zv):Box6 (w.setCell (A N 3 F) v) N x0 x1 x2 v x4 x5 :=
 ⟨by rw[jD _ _ _ _ oB];exact a.c0,by rw[jD _ _ _ _ oB];exact a.c1,by rw[jD _ _ _ _ oB];exact a.c2,jS _ _ _ a.c3,by rw[jD _ _ _ _ oB];exact a.c4,by rw[jD _ _ _ _ oB];exact a.c5,by simp[a.f0],by simp[a.f1],by simp[a.f2],by simp[a.f3],by simp[a.f4],by simp[a.f5]⟩
theorem Box6.set4 (a:Box6 w N x0 x1 x2 x3 x4 x5) (v:Zv):Box6 (w.setCell (A N 4 F) v) N x0 x1 x2 x3 v x5 :=
 ⟨by rw[jD _ _ _ _ oB];exact a.c0,by rw[jD _ _ _ _ oB];exact a.c1,by rw[jD _ _ _ _ oB];exact a.c2,by rw[jD _ _ _ _ oB];exact a.c3,jS _ _ _ a.c4,by rw[jD _ _ _ _ oB];exact a.c5,by simp[a.f0],by simp[a.f1],by simp[a.f2],by simp[a.f3],by simp[a.f4],by simp[a.f5]⟩
theorem Box6.set5 (a:Box6 w N x0 x1 x2 x3 x4 x5) (v:Zv):Box6 (w.setCell (A N 5 F) v) N x0 x1 x2 x3 x4 v :=
 ⟨by rw[jD _ _ _ _ oB];exact a.c0,by rw[jD _ _ _ _ oB];exact a.c1,by rw[jD _ _ _ _ oB];exact a.c2,by rw[jD _ _ _ _ oB];exact a.c3,by rw[jD _ _ _ _ oB];exact a.c4,jS _ _ _ a.c5,by simp[a.f0],by simp[a.f1],by simp[a.f2],by simp[a.f3],by simp[a.f4],by simp[a.f5]⟩
theorem Box6.put (g:Box6 w N x0 x1 x2 x3 x4 x5) (a b c d e f:Zv):Box6 ((((((w.setCell (A N 0 F) a).setCell (A N 1 F) b).setCell (A N 2 F) c).setCell (A N 3 F) d).setCell (A N 4 F) e).setCell (A N 5 F) f) N a b c d e f:=(((((g.set0 a).set1 b).set2 c).set3 d).set4 e).set5 f
end
variable {b c d:Nat}
theorem zsw {w wr:Zw} {ps:List (ByteArray × Bool)} {g:Tree} (o:b<w.heap.size) (m:kQ (·<w.heap.size) w (ps.map zO++[g]) b c) (n:Below w.heap.size w wr) (p:d<ps.length) : ∃(q:ByteArray) (a:Option Addr) (e:Nat),wr.cell? (A b (c+d*4) F)=Z (U O 5)/\wr.cell? (A b (c+d*4+1) F)=Z (I q)/\wr.cell? (A b (c+d*4+2) F)=Z (U O (bI ps[d].2))/\wr.cell? (A b (c+d*4+3) F)=Z (J a 0 e):=by
 obtain⟨x0,x1,x2,x3,h,i,j,k,f⟩:=m.kid o n (j:=d) oE;rw[List.getElem_append_left (by simpa using p),List.getElem_map]at f;unfold zO Lies at f;obtain⟨a,e,l,_,_⟩:=f;cases l;exact⟨_,a,e,h,i,j,k⟩
theorem zsk {w wr:Zw} {ps:List (ByteArray × Bool)} {f:Tree} (s:b<w.heap.size) (q:kQ (·<w.heap.size) w (ps.map zO++[f]) b c) (r:Below w.heap.size w wr) (p:InT f) : ∃(e m:Int) (h:ByteArray) (a:Option Addr) (t g:Nat),e≠5/\wr.cell? (A b (c+ps.length*4) F)=Z (U O e)/\wr.cell? (A b (c+ps.length*4+1) F)=Z (I h)/\wr.cell? (A b (c+ps.length*4+2) F)=Z (U O m)/\wr.cell? (A b (c+ps.length*4+3) F)=Z (J a t g):=by
 obtain⟨x0,x1,x2,x3,i,k,l,n,d⟩:=q.kid s r (j:=ps.length) oB;rw[List.getElem_append_right oB]at d;simp only[List.length_map,Nat.sub_self,jI]at d;obtain⟨e,h,m,u⟩:=f;unfold InT at p;unfold Lies at d;obtain⟨a,g,o,_,_⟩:=d;cases o;exact⟨e,m,h,a,_,g,oA,i,k,l,n⟩
theorem zmi {w w':Zw} {e:TypeId} {v:Zv} {f:List Zv} (g:w.ownsRow b e c v d f) (a:Below w.heap.size w w'):w'.ownsRow b e c v d f :=
 g.kept (row:=F) ⟨a.os,a.tape,a.output,a.size,fun i h _=>a.block i h⟩ (by cases v.ownBlock<;>simp)
theorem zmj {w:Zw} {c:TypeId} {d e M:Nat} {v:Zv} {f:List Zv} (g:w.ownsRow b c d v e f) (a:v.ownBlock≠Z M) (x0 x1 x2 x3 x4 x5:Zv):((((((w.setCell (A M 0 F) x0).setCell (A M 1 F) x1).setCell (A M 2 F) x2).setCell (A M 3 F) x3).setCell (A M 4 F) x4).setCell (A M 5 F) x5).ownsRow b c d v e f :=
 jU (jU (jU (jU (jU (jU g a _) a _) a _) a _) a _) a _
theorem Q4.grown {w w':Zw} {N:Nat} {d e f g:Zv} {row:Option Nat} (a:Q4 N d e f g w) (b:w.grownBy w' row) (c:row≠Z N):Q4 N d e f g w':=⟨cell_grown b a.1 c,cell_grown b a.2.1 c,cell_grown b a.2.2.1 c,cell_grown b a.2.2.2 c⟩
theorem zu8 (a:Bool):bits BinOp.and IntKind.i64 (bI a) 1=bI a:=by cases a<;>decide +kernel
theorem zf9 (l:ByteArray) (i t:Bool) (W:Option Bool) (ps:List (ByteArray × Bool)) (af:Tree) (v:Zv) (w:Zw) (aG:Lies (·<w.heap.size) w (Kid.proc l i t W ps af).tree v) (c9:ps.length<=1000) (b0:InT af) : Calls prog 86 #[v] w fun k w'=>∃K,k=.returned (qR (kO l i t W ps) K)/\w'.ownsRow w.heap.size 3 1 K ps.length (yG (ps.map fun Q=>bI Q.2))/\Below w.heap.size w w':=by
 have bE:=kc25;have bF:prog.cellsOf 57=6:=vA;have bD:prog.cellsOf 3=1:=cF;obtain⟨bg,hi,bc,be,bf⟩:=info_parts zdz;have HP:=zjj i t W;have ae:=zji i t W;have ad:Hid (bits BinOp.and IntKind.i64 (2*bI i+bI t+gI W) 12=gI W):=zr8 i t W;unfold Kid.tree Lies at aG;obtain⟨a,C,rfl,aA,ab⟩:=aG;obtain⟨D,E,rfl,az,a7⟩:=ab oB;clear ab;have aB:(ps.map zO++[af]).length=ps.length+1:=oB;rw[aB]at aA |-;obtain⟨o,a9⟩:∃o,o=ps.length+1:=⟨_,rfl⟩
 rw[<- a9]at aA |-;have aL:Hid (o=ps.length+1):=a9;clear a9 aB;generalize 2*bI i+bI t+gI W=m at HP ae ad;have ax:∀n,Calls prog 102 #[Za #[U O 4,I l,U O m,J (Z (A D E F)) o C]] n fun k w'=>k=.returned (Y i)/\Below n.heap.size n w':=fun n=>by have:=zpo 4 l m (Z (A D E F)) o C n;rw[HP]at this;exact this
 have ag:∀n,Calls prog 103 #[Za #[U O 4,I l,U O m,J (Z (A D E F)) o C]] n fun k w'=>k=.returned (U O (bI t))/\Below n.heap.size n w':=fun n=>by have:=dX 4 l m (Z (A D E F)) o C n;rw[ae]at this;exact this
 clear HP ae;have b:Q4 w.heap.size (U O 4) (I l) (U O m) (J (Z (A D E F)) o C) ((w.alloc (Zc #[U O 4,I l,U O m,J (Z (A D E F)) o C] 25)).alloc (Zc #[I ⟨#[]⟩,Y X,J F 0 0,U O 0,Y X,U O 0] 57)).drew:=⟨oB,oB,oB,oB⟩
 have c:Below w.heap.size w ((w.alloc (Zc #[U O 4,I l,U O m,J (Z (A D E F)) o C] 25)).alloc (Zc #[I ⟨#[]⟩,Y X,J F 0 0,U O 0,Y X,U O 0] 57)).drew:=(Joins.below_alloc2 w (Zc #[U O 4,I l,U O m,J (Z (A D E F)) o C] 25) (Zc #[I ⟨#[]⟩,Y X,J F 0 0,U O 0,Y X,U O 0] 57)).drew;have q:Box6 ((w.alloc (Zc #[U O 4,I l,U O m,J (Z (A D E F)) o C] 25)).alloc (Zc #[I ⟨#[]⟩,Y X,J F 0 0,U O 0,Y X,U O 0] 57)).drew (w.heap.size+1) (I ⟨#[]⟩) (Y X) (J F 0 0) (U O 0) (Y X) (U O 0):=oV;go_enter func86,ntmps86;go_wp2;refine wp_region_held_drew (S:=fun n=>Q4 w.heap.size (U O 4) (I l) (U O m) (J (Z (A D E F)) o C) n) oD b (fun g=>?_);clear g;generalize ((w.alloc (Zc #[U O 4,I l,U O m,J (Z (A D E F)) o C] 25)).alloc (Zc #[I ⟨#[]⟩,Y X,J F 0 0,U O 0,Y X,U O 0] 57)).drew=n at *;rename_i Q' aM b1
 have aK:∀(N:Nat) (n:Zw),w.heap.size+1<N->Q4 w.heap.size (U O 4) (I l) (U O m) (J (Z (A D E F)) o C) n->Below w.heap.size w n->Box6 n (w.heap.size+1) (I ⟨#[]⟩) (Y X) (J F 0 0) (U O 0) (Y X) (U O 0)->Box6 n N (I l) (Y i) (J F 0 0) (U O (bI t)) (Y X) (U O 0)->Exit.then aM Q' Exit.normal { tmps:=#[Za #[U O 4,I l,U O m,J (Z (A D E F)) o C],Zp (Z (A w.heap.size 0 F)),Zp (Z (A (w.heap.size+1) 0 F)),Zp (Z (A N 0 F)),undef,undef,Zp (Z (A w.heap.size 1 F)),I l,Za #[U O 4,I l,U O m,J (Z (A D E F)) o C],Y i,Za #[U O 4,I l,U O m,J (Z (A D E F)) o C],U O (bI t),Za #[I l,Y i,J F 0 0,U O (bI t),Y X,U O 0],undef,undef,undef,undef,undef,undef,undef,undef,undef,undef,undef,undef,undef,undef,undef,undef,undef,undef,undef,undef,undef,undef,undef,undef,undef,undef,undef,undef,undef,undef],defers:=[] } n:=by
  clear b c q n;intro N av aa b c q G;obtain⟨_,_,y,bp⟩:=id b;have bb:=G.lt;go_wp2
  go_loopw [16] (fun ap wr=>∃(e:Nat) (K:Zv),e<=o/\ap=U O e/\wr.ownsRow (N+1) 3 1 K ((ps.take e).map fun Q=>bI Q.2).length (yG ((ps.take e).map fun Q=>bI Q.2))/\Below w.heap.size w wr/\wr.cell? (A w.heap.size 2 F)=Z (U O m) /\
    Box6 wr (w.heap.size+1) (I ⟨#[]⟩) (Y X) (J F 0 0) (U O 0) (Y X) (U O 0)/\Box6 wr N (I l) (Y i) K (U O (bI t)) (Y X) (U O 0)) (fun ap _=>o - (intOf ap).toNat)
  case atStart=>exact⟨0,J F 0 0,jz _,rfl,World.ownsRow_nil _ _ _ _,c,y,q,G⟩
  case round =>
   clear c G q y bp b bb;obtain⟨e,K,cb,rfl,s,c,y,B,r⟩:=hrel;have cg:=r.lt;by_cases aC:e<ps.length
   ·skip;obtain⟨R,L,P,aH,aI,ao,aJ⟩:=zsw az a7 c aC;have a5:Hid (((ps.take (e+1)).map fun Q=>bI Q.2)=((ps.take e).map fun Q=>bI Q.2)++[bI ps[e].2]):=zmp ps e aC;have aj:∀n,Calls prog 103 #[Za #[U O 5,I R,U O (bI ps[e].2),J L 0 P]] n fun k w'=>k=.returned (U O (bI ps[e].2))/\Below n.heap.size n w':=fun n=>by have:=dX 5 R (bI ps[e].2) L 0 P n;rw[zu8]at this;exact this
    have cc:e<o:=oz11y94;have a9:o<=1001:=oz11y94;have ah:((ps.take e).map fun Q=>bI Q.2).length=e:=oE;generalize bI ps[e].2=h at ao a5 aj;generalize ((ps.take e).map fun Q=>bI Q.2)=ar at s a5 ah;clear a7
    rw[ah]at s;obtain⟨u,x,rfl,_,_⟩:=lexs.own_shape s;have ak:∀z,(Value.slice u e x).ownBlock=Z z->N<z/\z<wr.heap.size:=fun z k=>by have:=s.lt _ k;omega
    go_wp2;have b:Q4 wr.heap.size (U O 5) (I R) (U O h) (J L 0 P) (wr.alloc (Zc #[U O 5,I R,U O h,J L 0 P] 25)).drew:=⟨oB,oB,oB,oB⟩
    replace c:=(c.alloc c.size (Zc #[U O 5,I R,U O h,J L 0 P] 25)).drew;replace s:(wr.alloc (Zc #[U O 5,I R,U O h,J L 0 P] 25)).drew.ownsRow (N+1) 3 1 (J u e x) e (yG ar):=s.alloc _;replace B:=(B.alloc (Zc #[U O 5,I R,U O h,J L 0 P] 25)).drew;replace r:=(r.alloc (Zc #[U O 5,I R,U O h,J L 0 P] 25)).drew;replace y:(wr.alloc (Zc #[U O 5,I R,U O h,J L 0 P] 25)).drew.cell? (A w.heap.size 2 F)=Z (U O m):=kK y _;refine wp_region_held_drew (S:=fun n=>Q4 wr.heap.size (U O 5) (I R) (U O h) (J L 0 P) n) oD b (fun g=>?_);clear g;generalize (wr.alloc (Zc #[U O 5,I R,U O h,J L 0 P] 25)).drew=bq at *;generalize wr.heap.size=bk at *;clear aH aI ao aJ;refine tkP 0 (Zp (Z (A N 2 F))) b ?_;simp only[Act.put,jA,jB,jC];refine tkP 2 (Za #[U O 5,I R,U O h,J L 0 P] ) b ?_;simp only[Act.put,jA,jB,jC];refine wpAnyH_ready (rs:=[1,3]) oD oB ?_;refine AllReadyH.cons rfl (fun j d=>?_) (AllReadyH.cons rfl (fun j d=>?_) AllReadyH.nil)
    focus
     have a2:=r.c2;go_simp;refine d.out _ _ b (fun g=>?_);clear d j g a2;refine oneH 3 fun j d=>?_
     go_simp;go_at_call 103;refine(aj _).mono ?_;rintro k p ⟨rfl,f⟩;go_wp2;replace b:=Q4.below b f;replace c:=c.trans (f.mono c.size);replace B:=B.below f;replace r:=r.below f;replace y:=keep y f;replace s:=zmi s f;refine d.out _ _ b (fun g=>?_);clear d j g f;refine oneH 4 fun j d=>?_
     go_simp;have am:∀e K,[Value.int O h][e]?=Z K->(p.alloc (Zc #[U O h] 3)).cell? (((A p.heap.size 0 F):Addr).add e)=Z K:=xZ _ _ _ rfl;have an:p.heap.size+1=(p.alloc (Zc #[U O h] 3)).heap.size:=oB;have aF:∀z,(Value.slice u e x).ownBlock=Z z->z≠p.heap.size:=fun z k=>oz11y95
     replace b:=Q4.alloc b (Zc #[U O h] 3);replace c:=c.alloc c.size (Zc #[U O h] 3);replace B:=B.alloc (Zc #[U O h] 3);replace r:=r.alloc (Zc #[U O h] 3);replace y:=kK y (Zc #[U O h] 3);replace s:=s.alloc (Zc #[U O h] 3);refine d.out _ _ b (fun g=>?_);clear d j g;generalize p.alloc (Zc #[U O h] 3)=V at *;generalize p.heap.size=ac at *
    rotate_left
    focus
     go_simp;go_at_call 103;refine(aj _).mono ?_;rintro k p ⟨rfl,f⟩;go_wp2;replace b:=Q4.below b f;replace c:=c.trans (f.mono c.size);replace B:=B.below f;replace r:=r.below f;replace y:=keep y f;replace s:=zmi s f;refine d.out _ _ b (fun g=>?_);clear d j g f;refine wpAnyH_ready (rs:=[1,4]) oD oB ?_;refine AllReadyH.cons rfl (fun j d=>?_) (AllReadyH.cons rfl (fun j d=>?_) AllReadyH.nil)
     focus
      have a2:=r.c2;go_simp;refine d.out _ _ b (fun g=>?_);clear d j g a2;refine oneH 4 fun j d=>?_
      go_simp;have am:∀e K,[Value.int O h][e]?=Z K->(p.alloc (Zc #[U O h] 3)).cell? (((A p.heap.size 0 F):Addr).add e)=Z K:=xZ _ _ _ rfl;have an:p.heap.size+1=(p.alloc (Zc #[U O h] 3)).heap.size:=oB;have aF:∀z,(Value.slice u e x).ownBlock=Z z->z≠p.heap.size:=fun z k=>oz11y95
      replace b:=Q4.alloc b (Zc #[U O h] 3);replace c:=c.alloc c.size (Zc #[U O h] 3);replace B:=B.alloc (Zc #[U O h] 3);replace r:=r.alloc (Zc #[U O h] 3);replace y:=kK y (Zc #[U O h] 3);replace s:=s.alloc (Zc #[U O h] 3);refine d.out _ _ b (fun g=>?_);clear d j g;generalize p.alloc (Zc #[U O h] 3)=V at *;generalize p.heap.size=ac at *
     rotate_left
     focus
      go_simp;have am:∀e K,[Value.int O h][e]?=Z K->(p.alloc (Zc #[U O h] 3)).cell? (((A p.heap.size 0 F):Addr).add e)=Z K:=xZ _ _ _ rfl;have an:p.heap.size+1=(p.alloc (Zc #[U O h] 3)).heap.size:=oB;have aF:∀z,(Value.slice u e x).ownBlock=Z z->z≠p.heap.size:=fun z k=>oz11y95
      replace b:=Q4.alloc b (Zc #[U O h] 3);replace c:=c.alloc c.size (Zc #[U O h] 3);replace B:=B.alloc (Zc #[U O h] 3);replace r:=r.alloc (Zc #[U O h] 3);replace y:=kK y (Zc #[U O h] 3);replace s:=s.alloc (Zc #[U O h] 3);refine d.out _ _ b (fun g=>?_);clear d j g;generalize p.alloc (Zc #[U O h] 3)=V at *;generalize p.heap.size=ac at *;refine oneH 1 fun j d=>?_
      have a2:=r.c2;go_simp;refine d.out _ _ b (fun g=>?_);clear d j g a2
    all_goals
     refine oneH 5 fun j d=>?_
     refine step_append_lies _ oI (.tmp 24) (.tmp 27) 55 oI (N+1) 3 bg (U O 0) 1 8 underlying55 hi bc be bf rfl oC (J u e x) e (yG ar) oK s (A ac 0 F) 1 1 [U O h] oK rfl am (zbj _) oA (by unfold maxLen;omega) oA (by have:=r.lt;omega) (ac+1) an.symm ?_;intro a6 aN cj b6 a8 b2 cf;have ba:(Value.slice u e x).ownBlock≠Z bk:=fun k=>oz11y96
     have b8:(Value.slice u e x).ownBlock≠Z (w.heap.size+1):=fun k=>oz11y96
     have b7:(Value.slice u e x).ownBlock≠Z w.heap.size:=fun k=>oz11y96
     have b9:(Value.slice u e x).ownBlock≠Z N:=fun k=>oz11y96
     replace b:=Q4.grown b a8 ba;have ca:N<a6:=by rcases b2 with k | k;exact(ak _ k).1;have:=r.lt;omega
     replace c:=Below.grown c a8 c.size (fun z ab=>by have:=ak _ ab;omega);replace B:=B.grown a8 b8;replace r:=r.grown a8 b9;replace y:=cell_grown a8 y b7;refine d.out _ _ b (fun g=>?_);clear d j g;simp only[Act.put,jA,jB,jC];refine tkP 6 (Zp (Z (A N 2 F))) b ?_;simp only[Act.put,jA,jB,jC];refine oneH 7 fun j d=>?_
     have a2:=r.c2;have bh:=r.f2;go_simp;refine d.out _ _ (Q4.other oA b _ _) (fun g=>?_);clear d j g a2 bh;refine wpAnyH_done oD ?_ _;go_wp2;go_roundw
     case rel =>
      refine⟨e+1,J (Z (A a6 0 F)) (e+1) aN,oA,oJ,?_,c.setCell oz11y97 _,?_,B.other oA _,r.set2 _⟩;·rw[a5.out,zay,jb,ah];exact jU b6 (by show Z a6≠Z N;simp;omega) _
      ·rw[jD _ _ _ _ (by intro k;cases k;omega)];exact y
     case measure=>simp[intOf];omega
   by_cases ce:e<o
   ·skip;have ai:e=ps.length:=oz11y94;subst ai;obtain⟨z,ch,R,L,ci,P,cd,aH,aI,ao,aJ⟩:=zsk az a7 c b0;have a9:o<=1001:=oz11y94;have a5:Hid (ps.take (ps.length+1)=ps.take ps.length):=by show _=_;rw[List.take_length,jG oA]
    clear a7
    go_wp2;go_roundw
    case rel=>exact⟨ps.length+1,K,oA,oJ,by rw[a5.out];exact s.alloc _,c.alloc c.size _,kK y _,B.alloc _,r.alloc _⟩
    case measure=>simp[intOf];omega
   have ai:e=o:=oA;subst ai;have ay:ps.take e=ps:=by rw[jG oz11y94]
   rw[ay,List.length_map]at s;clear ay a7
   obtain⟨u,x,rfl,_,_⟩:=lexs.own_shape s;obtain⟨br,bs,bu,bv,bw,bz,bX,bY,bZ,c6,c7,c8⟩:=id r;obtain⟨aO,aP,aQ,aR,aS,aT,bG,bH,bN,bP,bR,bS⟩:=id B;have aD:(Value.slice u ps.length x).ownBlock≠Z (w.heap.size+1):=fun k=>by have:=(s.lt _ k).1;omega
   have aE:(Value.slice u ps.length x).ownBlock≠Z N:=fun k=>by have:=(s.lt _ k).1;omega
   have a3:=ad.out;clear ad;rcases W with _ | aZ
   ·have aw:bits BinOp.and IntKind.i64 m 12=0:=a3;clear a3;go_wp2;refine jT (v:=Za #[I l,Y i,J u ps.length x,U O (bI t),Y X,U O 0]) oz11y98 rfl ⟨J u ps.length x,rfl,?_,zb5 c oA _ _ _ _ _ _⟩;exact lexs.ownsRow_le (zmj s aD _ _ _ _ _ _) oA
   cases aZ;·have aw:bits BinOp.and IntKind.i64 m 12=4:=a3;clear a3;go_wp2;refine jT (v:=Za #[I l,Y i,J u ps.length x,U O (bI t),Y H,U O 0]) oz11y98 rfl ⟨J u ps.length x,rfl,?_,zb5 ((c.setCell oz11y97 _).setCell oz11y97 _) oA _ _ _ _ _ _⟩;exact oz11x90
   ·have aw:bits BinOp.and IntKind.i64 m 12=8:=a3;clear a3;go_wp2;refine jT (v:=Za #[I l,Y i,J u ps.length x,U O (bI t),Y H,U O 1]) oz11y98 rfl ⟨J u ps.length x,rfl,?_,zb5 ((c.setCell oz11y97 _).setCell oz11y97 _) oA _ _ _ _ _ _⟩;exact oz11x90
 clear b1
 ·skip;refine tkP 0 (Zp (Z (A w.heap.size 1 F))) b ?_;simp only[Act.put,jA,jB,jC];refine tkP 1 (I l) b ?_;simp only[Act.put,jA,jB,jC];refine tkP 2 (Za #[U O 4,I l,U O m,J (Z (A D E F)) o C] ) b ?_;simp only[Act.put,jA,jB,jC];refine tkP 4 (Za #[U O 4,I l,U O m,J (Z (A D E F)) o C] ) b ?_;simp only[Act.put,jA,jB,jC];refine wpAnyH_ready (rs:=[3,7]) oD oB ?_;refine AllReadyH.cons rfl (fun j d=>?_) (AllReadyH.cons rfl (fun j d=>?_) AllReadyH.nil)
  focus
   go_simp;go_at_call 102;refine(ax _).mono ?_;rintro k p ⟨rfl,f⟩;go_wp2;replace b:=Q4.below b f;replace c:=c.trans (f.mono c.size);replace q:=q.below f;skip;refine d.out _ _ b (fun g=>?_);clear d j g f;refine wpAnyH_ready (rs:=[5,7]) oD oB ?_;refine AllReadyH.cons rfl (fun j d=>?_) (AllReadyH.cons rfl (fun j d=>?_) AllReadyH.nil)
   focus
    go_simp;go_at_call 103;refine(ag _).mono ?_;rintro k V ⟨rfl,f⟩;go_wp2;replace b:=Q4.below b f;replace c:=c.trans (f.mono c.size);replace q:=q.below f;skip;refine d.out _ _ b (fun g=>?_);clear d j g f;refine tkP 6 (Za #[I l,Y i,J F 0 0,U O (bI t),Y X,U O 0] ) b ?_;simp only[Act.put,jA,jB,jC];refine oneH 7 fun j d=>?_
    go_simp;have G:=Box6.new V (I ⟨#[]⟩) (Y X) (J F 0 0) (U O 0) (Y X) (U O 0) 57;have aa:w.heap.size+1<V.heap.size:=q.lt;replace b:=Q4.alloc b (Zc #[I ⟨#[]⟩,Y X,J F 0 0,U O 0,Y X,U O 0] 57);replace c:=c.alloc c.size (Zc #[I ⟨#[]⟩,Y X,J F 0 0,U O 0,Y X,U O 0] 57);replace q:=q.alloc (Zc #[I ⟨#[]⟩,Y X,J F 0 0,U O 0,Y X,U O 0] 57);refine d.out _ _ b (fun g=>?_);clear d j g;generalize V.alloc (Zc #[I ⟨#[]⟩,Y X,J F 0 0,U O 0,Y X,U O 0] 57)=au at *;generalize V.heap.size=N at *
   rotate_left
   focus
    go_simp;have G:=Box6.new p (I ⟨#[]⟩) (Y X) (J F 0 0) (U O 0) (Y X) (U O 0) 57;have aa:w.heap.size+1<p.heap.size:=q.lt;replace b:=Q4.alloc b (Zc #[I ⟨#[]⟩,Y X,J F 0 0,U O 0,Y X,U O 0] 57);replace c:=c.alloc c.size (Zc #[I ⟨#[]⟩,Y X,J F 0 0,U O 0,Y X,U O 0] 57);replace q:=q.alloc (Zc #[I ⟨#[]⟩,Y X,J F 0 0,U O 0,Y X,U O 0] 57);refine d.out _ _ b (fun g=>?_);clear d j g;generalize p.alloc (Zc #[I ⟨#[]⟩,Y X,J F 0 0,U O 0,Y X,U O 0] 57)=au at *;generalize p.heap.size=N at *;refine oneH 5 fun j d=>?_
    go_simp;go_at_call 103;refine(ag _).mono ?_;rintro k V ⟨rfl,f⟩;go_wp2;replace b:=Q4.below b f;replace c:=c.trans (f.mono c.size);replace q:=q.below f;replace G:=G.below f;refine d.out _ _ b (fun g=>?_);clear d j g f;refine tkP 6 (Za #[I l,Y i,J F 0 0,U O (bI t),Y X,U O 0] ) b ?_;simp only[Act.put,jA,jB,jC]
  rotate_left 2
  focus
   go_simp;have G:=Box6.new n (I ⟨#[]⟩) (Y X) (J F 0 0) (U O 0) (Y X) (U O 0) 57;have aa:w.heap.size+1<n.heap.size:=q.lt;replace b:=Q4.alloc b (Zc #[I ⟨#[]⟩,Y X,J F 0 0,U O 0,Y X,U O 0] 57);replace c:=c.alloc c.size (Zc #[I ⟨#[]⟩,Y X,J F 0 0,U O 0,Y X,U O 0] 57);replace q:=q.alloc (Zc #[I ⟨#[]⟩,Y X,J F 0 0,U O 0,Y X,U O 0] 57);refine d.out _ _ b (fun g=>?_);clear d j g;generalize n.alloc (Zc #[I ⟨#[]⟩,Y X,J F 0 0,U O 0,Y X,U O 0] 57)=au at *;generalize n.heap.size=N at *;refine oneH 3 fun j d=>?_
   go_simp;go_at_call 102;refine(ax _).mono ?_;rintro k p ⟨rfl,f⟩;go_wp2;replace b:=Q4.below b f;replace c:=c.trans (f.mono c.size);replace q:=q.below f;replace G:=G.below f;refine d.out _ _ b (fun g=>?_);clear d j g f;refine oneH 5 fun j d=>?_
   go_simp;go_at_call 103;refine(ag _).mono ?_;rintro k V ⟨rfl,f⟩;go_wp2;replace b:=Q4.below b f;replace c:=c.trans (f.mono c.size);replace q:=q.below f;replace G:=G.below f;refine d.out _ _ b (fun g=>?_);clear d j g f;refine tkP 6 (Za #[I l,Y i,J F 0 0,U O (bI t),Y X,U O 0] ) b ?_;simp only[Act.put,jA,jB,jC]
  all_goals
   refine oneH 8 fun j d=>?_
   obtain⟨bi,o,bj,bm,bn,bo,aU,aV,aW,aX,aY,a6⟩:=id G;go_simp;replace G:=G.put (I l) (Y i) (J F 0 0) (U O (bI t)) (Y X) (U O 0);replace b:=Q4.other6 (M:=N) oA b (I l) (Y i) (J F 0 0) (U O (bI t)) (Y X) (U O 0);replace c:=zb5 (M:=N) c oA (I l) (Y i) (J F 0 0) (U O (bI t)) (Y X) (U O 0);replace q:=q.other6 (M:=N) oA (I l) (Y i) (J F 0 0) (U O (bI t)) (Y X) (U O 0);refine d.out _ _ b (fun g=>?_);clear d j g bi o bj bm bn bo aU aV aW aX aY a6;generalize (World.setCell _ (A N 5 F) _)=av at *;refine wpAnyH_done oD ?_ _;exact aK N av aa b c q G
end face
namespace face
open Go.RowKit Go.Maps
theorem FR.grown' {i:Nat->Prop} {f:Nat} {w w':Zw} {vv pv:Zv} {V:List VarD} {P:List (ProcD × Zv)} {row:Option Nat} (b:FR i f w vv pv V P) (e:w.grownBy w' row) (h:∀a,row=Z a->vv.ownBlock≠Z a/\pv.ownBlock≠Z a/\a<f):FR i f w' vv pv V P:=by
 have m:vv.ownBlock=F\/vv.ownBlock≠row:=by
  cases c:vv.ownBlock with
  | none=>exact .inl rfl
  | some a=>exact .inr (fun g=>(h a g.symm).1 c)
 have k:pv.ownBlock=F\/pv.ownBlock≠row:=by
  cases c:pv.ownBlock with
  | none=>exact .inl rfl
  | some a=>exact .inr (fun g=>(h a g.symm).2.1 c)
 refine⟨b.ov.kept e m,b.op.kept e k,fun n l=>?_,b.dj,b.xv,b.xp⟩;exact(b.par n l).to (fun a d=>⟨d.1,jo d.2.1 e.size,d.2.2⟩) (fun a d q v j=>cell_grown e j (fun c=>by have o:=(h a c).2.2;have p:=d.1;omega))
abbrev uX (w:Zw) (b:Nat) (l:List ByteArray):Prop:=w.ownsMap prog 9 (unitElem (H:=Unit)) b l.length (setD l)
structure DC (w:Zw) (D:Nat) (x0 x1 x2 x3 x4 x5 x6 x7:Zv):Prop where
 c0:w.cell? (A D 0 F)=Z x0
 c1:w.cell? (A D 1 F)=Z x1
 c2:w.cell? (A D 2 F)=Z x2
 c3:w.cell? (A D 3 F)=Z x3
 c4:w.cell? (A D 4 F)=Z x4
 c5:w.cell? (A D 5 F)=Z x5
 c6:w.cell? (A D 6 F)=Z x6
 c7:w.cell? (A D 7 F)=Z x7
 fz:∀k,w.frozen? (A D k F)=X
section
variable {w w':Zw} {D:Nat} {x0 x1 x2 x3 x4 x5 x6 x7:Zv}
theorem DC.lt (a:DC w D x0 x1 x2 x3 x4 x5 x6 x7):D<w.heap.size:=jR w (A D 0 F) a.c0
theorem DC.block (b:DC w D x0 x1 x2 x3 x4 x5 x6 x7) (c:w'.heap[D]?=w.heap[D]?):DC w' D x0 x1 x2 x3 x4 x5 x6 x7 :=
 ⟨(jM (a:=(A D 0 F)) c).trans b.c0,(jM (a:=(A D 1 F)) c).trans b.c1,(jM (a:=(A D 2 F)) c).trans b.c2,(jM (a:=(A D 3 F)) c).trans b.c3,(jM (a:=(A D 4 F)) c).trans b.c4,(jM (a:=(A D 5 F)) c).trans b.c5,(jM (a:=(A D 6 F)) c).trans b.c6,(jM (a:=(A D 7 F)) c).trans b.c7,
   fun d=>(jN (a:=(A D d F)) c).trans (b.fz d)⟩
theorem DC.grown {row:Option Nat} (a:DC w D x0 x1 x2 x3 x4 x5 x6 x7) (c:w.grownBy w' row) (d:row≠Z D):DC w' D x0 x1 x2 x3 x4 x5 x6 x7:=a.block (c.block D a.lt (fun b=>d b.symm))
theorem cS {w:Zw} {D a c:Nat} {v:Zv} (b:∀a,w.frozen? (A D a F)=X):(w.setCell (A D c F) v).frozen? (A D a F)=X:=by simp[b a]
theorem DC.set0 (a:DC w D x0 x1 x2 x3 x4 x5 x6 x7) (v:Zv):DC (w.setCell (A D 0 F) v) D v x1 x2 x3 x4 x5 x6 x7 :=
 ⟨jS _ _ _ a.c0,by rw[jD _ _ _ _ oB];exact a.c1,by rw[jD _ _ _ _ oB];exact a.c2,by rw[jD _ _ _ _ oB];exact a.c3,by rw[jD _ _ _ _ oB];exact a.c4,by rw[jD _ _ _ _ oB];exact a.c5,by rw[jD _ _ _ _ oB];exact a.c6,by rw[jD _ _ _ _ oB];exact a.c7,fun b=>cS a.fz⟩
theorem DC.set1 (a:DC w D x0 x1 x2 x3 x4 x5 x6 x7) (v:Zv):DC (w.setCell (A D 1 F) v) D x0 v x2 x3 x4 x5 x6 x7 :=
 ⟨by rw[jD _ _ _ _ oB];exact a.c0,jS _ _ _ a.c1,by rw[jD _ _ _ _ oB];exact a.c2,by rw[jD _ _ _ _ oB];exact a.c3,by rw[jD _ _ _ _ oB];exact a.c4,by rw[jD _ _ _ _ oB];exact a.c5,by rw[jD _ _ _ _ oB];exact a.c6,by rw[jD _ _ _ _ oB];exact a.c7,fun b=>cS a.fz⟩
theorem DC.set2 (a:DC w D x0 x1 x2 x3 x4 x5 x6 x7) (v:Zv):DC (w.setCell (A D 2 F) v) D x0 x1 v x3 x4 x5 x6 x7 :=
 ⟨by rw[jD _ _ _ _ oB];exact a.c0,by rw[jD _ _ _ _ oB];exact a.c1,jS _ _ _ a.c2,by rw[jD _ _ _ _ oB];exact a.c3,by rw[jD _ _ _ _ oB];exact a.c4,by rw[jD _ _ _ _ oB];exact a.c5,by rw[jD _ _ _ _ oB];exact a.c6,by rw[jD _ _ _ _ oB];exact a.c7,fun b=>cS a.fz⟩
theorem DC.set3 (a:DC w D x0 x1 x2 x3 x4 x5 x6 x7) (v:Zv):DC (w.setCell (A D 3 F) v) D x0 x1 x2 v x4 x5 x6 x7 :=
 ⟨by rw[jD _ _ _ _ oB];exact a.c0,by rw[jD _ _ _ _ oB];exact a.c1,by rw[jD _ _ _ _ oB];exact a.c2,jS _ _ _ a.c3,by rw[jD _ _ _ _ oB];exact a.c4,by rw[jD _ _ _ _ oB];exact a.c5,by rw[jD _ _ _ _ oB];exact a.c6,by rw[jD _ _ _ _ oB];exact a.c7,fun b=>cS a.fz⟩
theorem DC.set6 (a:DC w D x0 x1 x2 x3 x4 x5 x6 x7) (v:Zv):DC (w.setCell (A D 6 F) v) D x0 x1 x2 x3 x4 x5 v x7 :=
 ⟨by rw[jD _ _ _ _ oB];exact a.c0,by rw[jD _ _ _ _ oB];exact a.c1,by rw[jD _ _ _ _ oB];exact a.c2,by rw[jD _ _ _ _ oB];exact a.c3,by rw[jD _ _ _ _ oB];exact a.c4,by rw[jD _ _ _ _ oB];exact a.c5,jS _ _ _ a.c6,by rw[jD _ _ _ _ oB];exact a.c7,fun b=>cS a.fz⟩
theorem DC.set7 (a:DC w D x0 x1 x2 x3 x4 x5 x6 x7) (v:Zv):DC (w.setCell (A D 7 F) v) D x0 x1 x2 x3 x4 x5 x6 v :=
 ⟨by rw[jD _ _ _ _ oB];exact a.c0,by rw[jD _ _ _ _ oB];exact a.c1,by rw[jD _ _ _ _ oB];exact a.c2,by rw[jD _ _ _ _ oB];exact a.c3,by rw[jD _ _ _ _ oB];exact a.c4,by rw[jD _ _ _ _ oB];exact a.c5,by rw[jD _ _ _ _ oB];exact a.c6,jS _ _ _ a.c7,fun b=>cS a.fz⟩
end
structure DI (w:Zw) (D Bm Bd:Nat) (mp:Option Nat) (vv pv iv:Zv) (m:ByteArray) (V:List VarD) (P:List (ProcD × Zv)) (is ms ns qs:List ByteArray) (a:Int):Prop where
 dc:DC w D (I m) vv pv iv (.map (Z Bm)) (.map (Z Bd)) (.map mp) (U O a)
 lm:Bm<Bd
 ld:Bd<D
 lp:∀b,mp=Z b->D<b
 fr:FR (fun b=>iv.ownBlock=Z b\/mp=Z b) (D+1) w vv pv V P
 oi:w.ownsRow (D+1) 9 1 iv is.length (yU is)
 xi:∀b,iv.ownBlock=Z b->mp≠Z b
 om:uX w Bm ms
 am:apartB [] ms=H
 od:uX w Bd ns
 ad:apartB [] ns=H
 op:∀b,mp=Z b->uX w b qs
 aq:apartB [] qs=H
section
variable {w w':Zw} {D Bm Bd:Nat} {mp:Option Nat} {vv pv iv:Zv} {m:ByteArray} {V:List VarD} {P:List (ProcD × Zv)} {is ms ns qs:List ByteArray} {a:Int}
theorem DI.below (b:DI w D Bm Bd mp vv pv iv m V P is ms ns qs a) (c:Below w.heap.size w w'):DI w' D Bm Bd mp vv pv iv m V P is ms ns qs a :=
 have d:w.grownBy w' F:=⟨c.os,c.tape,c.output,c.size,fun h g _=>c.block h g⟩
 ⟨b.dc.grown d oB,b.lm,b.ld,b.lp,b.fr.below c,dY b.oi c,b.xi,b.om.kept d oB,b.am,b.od.kept d oB,b.ad,fun e f=>(b.op e f).kept d oB,b.aq⟩
theorem dL (d:DI w D Bm Bd mp vv pv iv m V P is ms ns qs a):(∀b,iv.ownBlock=Z b->D<b)/\(∀b,vv.ownBlock=Z b->D<b)/\(∀b,pv.ownBlock=Z b->D<b) :=
 ⟨fun b c=>by have:=(d.oi.lt _ c).1;omega,fun b c=>by have:=(d.fr.ov.lt _ c).1;omega,fun b c=>by have:=(d.fr.op.lt _ c).1;omega⟩
theorem DI.enterM (b:DI w D Bm Bd mp vv pv iv m V P is ms ns qs a) {f:ByteArray} (h:uX w' Bm (ms++[f])) (g:apartB [] (ms++[f])=H) (e:w.grownBy w' (Z Bm)):DI w' D Bm Bd mp vv pv iv m V P is (ms++[f]) ns qs a:=by
 have l:=b.lm;have k:=b.ld;obtain⟨i,lv,j⟩:=dL b;refine⟨b.dc.grown e oE,b.lm,b.ld,b.lp,?_,b.oi.kept e ?_,b.xi,h,g,b.od.kept e oE,b.ad,fun d c=>(b.op d c).kept e (by have:=b.lp d c;simp;omega),b.aq⟩;·exact FR.grown' b.fr e (fun d c=>by cases c;exact⟨fun c=>by have:=lv _ c;omega,fun c=>by have:=j _ c;omega,oA⟩)
 ·cases c:iv.ownBlock with
  | none=>exact .inl rfl
  | some d=>exact .inr (by have:=i d c;simp;omega)
end
section
variable {w w':Zw} {D Bm Bd:Nat} {mp:Option Nat} {vv pv iv:Zv} {m:ByteArray} {V:List VarD} {P:List (ProcD × Zv)} {is ms ns qs:List ByteArray} {a:Int}
variable {b c:Nat}
theorem zt3 {v:Zv} (d:∀a,v.ownBlock=Z a->b<a):v.ownBlock=F\/v.ownBlock≠Z b:=by
 cases c:v.ownBlock with
 | none=>exact .inl rfl
 | some a=>exact .inr (by have:=d a c;simp;omega)
theorem DI.enterD (b:DI w D Bm Bd mp vv pv iv m V P is ms ns qs a) {f:ByteArray} (h:uX w' Bd (ns++[f])) (g:apartB [] (ns++[f])=H) (d:w.grownBy w' (Z Bd)):DI w' D Bm Bd mp vv pv iv m V P is ms (ns++[f]) qs a:=by
 have n:=b.lm;have l:=b.ld;obtain⟨j,lv,k⟩:=dL b;refine⟨b.dc.grown d oE,b.lm,b.ld,b.lp,?_,b.oi.kept d (zt3 (fun i c=>by have:=j i c;omega)),b.xi,b.om.kept d oE,b.am,h,g,fun e c=>(b.op e c).kept d (by have:=b.lp e c;simp;omega),b.aq⟩;exact FR.grown' b.fr d (fun e c=>by cases c;exact⟨fun c=>by have:=lv _ c;omega,fun c=>by have:=k _ c;omega,oA⟩)
theorem DI.enterP (c:DI w D Bm Bd (Z b) vv pv iv m V P is ms ns qs a) {g:ByteArray} (j:uX w' b (qs++[g])) (i:apartB [] (qs++[g])=H) (e:w.grownBy w' (Z b)):DI w' D Bm Bd (Z b) vv pv iv m V P is ms ns (qs++[g]) a:=by
 have l:=c.lm;have k:=c.ld;have n:=c.lp b rfl;refine⟨c.dc.grown e oE,c.lm,c.ld,c.lp,c.fr.grown e (fun f d=>.inr d),c.oi.kept e ?_,c.xi,c.om.kept e oE,c.am,c.od.kept e oE,c.ad,fun f d=>by cases d;exact j,i⟩
 cases d:iv.ownBlock with
 | none=>exact .inl rfl
 | some f=>exact .inr (fun h=>c.xi f d h.symm)
theorem DI.rest (c:DI w D Bm Bd mp vv pv iv m V P is ms ns qs a) (d:Nat) (v:Zv) : FR (fun b=>iv.ownBlock=Z b\/mp=Z b) (D+1) (w.setCell (A D d F) v) vv pv V P/\(w.setCell (A D d F) v).ownsRow (D+1) 9 1 iv is.length (yU is)/\uX (w.setCell (A D d F) v) Bm ms/\uX (w.setCell (A D d F) v) Bd ns/\∀b,mp=Z b->uX (w.setCell (A D d F) v) b qs:=by
 have h:=c.lm;have g:=c.ld;obtain⟨f,_,_⟩:=dL c;exact⟨c.fr.set oA v,jU c.oi (fun e=>by have:=f _ e;simp at this) _,c.om.setCell (by show Bm≠D;omega) _,c.od.setCell (by show Bd≠D;omega) _,fun b e=>(c.op b e).setCell (by have:=c.lp b e;show b≠D;omega) _⟩
theorem DI.setAt (b:DI w D Bm Bd mp vv pv iv m V P is ms ns qs a) (d:Int):DI (w.setCell (A D 7 F) (U O d)) D Bm Bd mp vv pv iv m V P is ms ns qs d :=
 have c:=b.rest 7 (U O d)
 ⟨b.dc.set7 _,b.lm,b.ld,b.lp,c.1,c.2.1,b.xi,c.2.2.1,b.am,c.2.2.2.1,b.ad,c.2.2.2.2,b.aq⟩
theorem DI.setModule (b:DI w D Bm Bd mp vv pv iv m V P is ms ns qs a) (d:ByteArray):DI (w.setCell (A D 0 F) (I d)) D Bm Bd mp vv pv iv d V P is ms ns qs a :=
 have c:=b.rest 0 (I d)
 ⟨b.dc.set0 _,b.lm,b.ld,b.lp,c.1,c.2.1,b.xi,c.2.2.1,b.am,c.2.2.2.1,b.ad,c.2.2.2.2,b.aq⟩
theorem FR.turn {f j:Nat->Prop} {row:Option Nat} (e:FR f b w vv pv V P) (h:w.grownBy w' row) (k:∀a,row=Z a->f a) (g:∀a,a<w.heap.size->j a->f a):FR j b w' vv pv V P :=
 have l:=e.grown h k
 ⟨l.ov,l.op,fun o n=>(e.par o n).to (fun a d=>⟨d.1,jo d.2.1 h.size,d.2.2.1,d.2.2.2.1,fun c=>d.2.2.2.2 (g a d.2.1 c)⟩) (fun a d p v m=>cell_grown h m (fun c=>d.2.2.2.2 (k a c))),e.dj,
  fun a c i=>e.xv a c (g a (e.ov.lt _ c).2 i),fun a c i=>e.xp a c (g a (e.op.lt _ c).2 i)⟩
theorem DI.pushI (f:DI w D Bm Bd mp vv pv iv m V P is ms ns qs a) {x:ByteArray} (r:w'.ownsRow (D+1) 9 1 (J (Z (A b 0 F)) (is.length+1) c) (is.length+1) (yU is++[I x])) (h:w.grownBy w' iv.ownBlock) (l:iv.ownBlock=Z b\/b=w.heap.size) : DI (w'.setCell (A D 3 F) (J (Z (A b 0 F)) (is.length+1) c)) D Bm Bd mp vv pv (J (Z (A b 0 F)) (is.length+1) c) m V P (is++[x]) ms ns qs a:=by
 have v:=f.lm;have u:=f.ld;obtain⟨t,lv,y⟩:=dL f;have k:∀d,d<=D->Z d≠iv.ownBlock:=fun d o e=>by have:=t d e.symm;omega
 have p:=f.dc.grown h (fun e=>k D (jE _) e.symm)
 have s:∀d,(Value.slice (Z (A b 0 F)) (is.length+1) c).ownBlock=Z d->mp≠Z d:=fun d e i=>by
  have j:Z b=Z d:=e;cases j;rcases l with g | g
  ·exact f.xi b g i
  ·have:=(f.op b i).lt;omega
 have q:FR (fun d=>(Value.slice (Z (A b 0 F)) (is.length+1) c).ownBlock=Z d\/mp=Z d) (D+1) w' vv pv V P:=f.fr.turn h (fun d e=>.inl e) (fun d o e=>by
  rcases e with e | e
  ·have j:Z b=Z d:=e;cases j;rcases l with g | g
   ·exact .inl g
   ·omega
  ·exact .inr e)
 have n:w'.ownsRow (D+1) 9 1 (J (Z (A b 0 F)) (is.length+1) c) (is++[x]).length (yU (is++[x])):=by
  rw[zcj,jb];exact r
 refine⟨p.set3 _,f.lm,f.ld,f.lp,q.set oA _,jU n (fun e=>by have:=(n.lt _ e).1;simp at this;omega) _,s,(f.om.kept h (k Bm oA)).setCell (by show Bm≠D;omega) _,f.am,(f.od.kept h (k Bd oA)).setCell (by show Bd≠D;omega) _,f.ad,fun d e=>((f.op d e).kept h (fun i=>f.xi d i.symm e)).setCell (by have:=f.lp d e;show d≠D;omega) _,f.aq⟩
theorem DI.fresh (d:DI w D Bm Bd mp vv pv iv m V P is ms ns qs a):∀b,w.heap.size<=b->¬(iv.ownBlock=Z b\/mp=Z b):=fun b e c=>by
 rcases c with c | c
 ·have:=(d.oi.lt _ c).2;omega
 ·have:=(d.op b c).lt;omega
theorem DI.pushV (d:DI w D Bm Bd mp vv pv iv m V P is ms ns qs a) {v:VarD} (n:w'.ownsRow (D+1) 52 4 (J (Z (A b 0 F)) (V.length+1) c) (V.length+1) (qW V++[I v.name,Y v.pub,U O v.label,U O v.size])) (g:w.grownBy w' vv.ownBlock) (j:vv.ownBlock=Z b\/b=w.heap.size) : DI (w'.setCell (A D 1 F) (J (Z (A b 0 F)) (V.length+1) c)) D Bm Bd mp (J (Z (A b 0 F)) (V.length+1) c) pv iv m (V++[v]) P is ms ns qs a:=by
 have s:=d.lm;have r:=d.ld;obtain⟨p,lv,t⟩:=dL d;have i:∀e,e<=D->Z e≠vv.ownBlock:=fun e q f=>by have:=lv e f.symm;omega
 have k:=d.dc.grown g (fun f=>i D (jE _) f.symm);have l:=d.fr.pushV n g j d.fresh
 have o:=d.oi.kept g (by
  cases f:iv.ownBlock with
  | none=>exact .inl rfl
  | some e=>exact .inr (fun h=>d.fr.xv e h.symm (.inl f)))
 exact⟨k.set1 _,d.lm,d.ld,d.lp,l.set oA _,jU o (fun f=>by have:=p _ f;simp at this) _,d.xi,(d.om.kept g (i Bm oA)).setCell (by show Bm≠D;omega) _,d.am,(d.od.kept g (i Bd oA)).setCell (by show Bd≠D;omega) _,d.ad,fun e f=>((d.op e f).kept g (fun h=>d.fr.xv e h.symm (.inr f))).setCell (by have:=d.lp e f;show e≠D;omega) _,d.aq⟩
theorem DI.pushP (d:DI w D Bm Bd mp vv pv iv m V P is ms ns qs a) {q:ProcD × Zv} (n:w'.ownsRow (D+1) 57 6 (J (Z (A b 0 F)) (P.length+1) c) (P.length+1) (yV P++[I q.1.name,Y q.1.pub,q.2,U O q.1.writes,Y q.1.gives,U O q.1.given])) (g:w.grownBy w' pv.ownBlock) (j:pv.ownBlock=Z b\/b=w.heap.size) (p:yE (fun e=>D+1<=e/\e<w.heap.size/\vv.ownBlock≠Z e/\pv.ownBlock≠Z e/\¬(iv.ownBlock=Z e\/mp=Z e)) w q.2 q.1.params) : DI (w'.setCell (A D 2 F) (J (Z (A b 0 F)) (P.length+1) c)) D Bm Bd mp vv (J (Z (A b 0 F)) (P.length+1) c) iv m V (P++[q]) is ms ns qs a:=by
 have v:=d.lm;have u:=d.ld;obtain⟨r,lv,s⟩:=dL d;have i:∀e,e<=D->Z e≠pv.ownBlock:=fun e t f=>by have:=s e f.symm;omega
 have k:=d.dc.grown g (fun f=>i D (jE _) f.symm);have l:=d.fr.pushP n g j d.fresh p
 have o:=d.oi.kept g (by
  cases f:iv.ownBlock with
  | none=>exact .inl rfl
  | some e=>exact .inr (fun h=>d.fr.xp e h.symm (.inl f)))
 exact⟨k.set2 _,d.lm,d.ld,d.lp,l.set oA _,jU o (fun f=>by have:=r _ f;simp at this) _,d.xi,(d.om.kept g (i Bm oA)).setCell (by show Bm≠D;omega) _,d.am,(d.od.kept g (i Bd oA)).setCell (by show Bd≠D;omega) _,d.ad,fun e f=>((d.op e f).kept g (fun h=>d.fr.xp e h.symm (.inr f))).setCell (by have:=d.lp e f;show e≠D;omega) _,d.aq⟩
theorem DI.newP (c:DI w D Bm Bd mp vv pv iv m V P is ms ns qs a) (e:Below w.heap.size w w') (l:uX w' w.heap.size []) : DI (w'.setCell (A D 6 F) (.map (Z w.heap.size))) D Bm Bd (Z w.heap.size) vv pv iv m V P is ms ns [] a:=by
 have q:=c.lm;have p:=c.ld;have h:=c.dc.lt;have j:w.grownBy w' F:=⟨e.os,e.tape,e.output,e.size,fun n k _=>e.block n k⟩
 obtain⟨o,lv,r⟩:=dL c;have f:=c.below e
 have i:FR (fun d=>iv.ownBlock=Z d\/Z w.heap.size=Z d) (D+1) w' vv pv V P:=c.fr.turn j (fun d b=>by cases b) (fun d e b=>by
  rcases b with b | b
  ·exact .inl b
  ·cases b;omega)
 exact⟨f.dc.set6 _,c.lm,c.ld,fun d b=>by cases b;exact h,i.set oA _,jU f.oi (fun b=>by have:=o _ b;simp at this) _,fun d b g=>by cases g;have:=(c.oi.lt _ b).2;omega,f.om.setCell (by show Bm≠D;omega) _,c.am,f.od.setCell (by show Bd≠D;omega) _,c.ad,fun d b=>by cases b;exact l.setCell (by show w.heap.size≠D;omega) _,rfl⟩
end
structure KZ (zb:Nat) (w w':Zw):Prop where
 eq:w'.heap[zb]?=w.heap[zb]?
 lt:zb<w'.heap.size
section
variable {zb:Nat} {w w' w2:Zw}
theorem KZ.below (a:KZ zb w w') (b:Below w'.heap.size w' w2):KZ zb w w2:=⟨(b.block zb a.lt).trans a.eq,jo a.lt b.size⟩
theorem KZ.alloc (b:KZ zb w w') (a:Obj):KZ zb w (w'.alloc a):=b.below (bal a)
theorem KZ.drew (a:KZ zb w w'):KZ zb w w'.drew:=⟨a.eq,a.lt⟩
theorem KZ.grown {row:Option Nat} (a:KZ zb w w') (b:w'.grownBy w2 row) (d:row≠Z zb):KZ zb w w2:=⟨(b.block zb a.lt (fun c=>d c.symm)).trans a.eq,jo a.lt b.size⟩
theorem KZ.set (a:KZ zb w w') {D o:Nat} (b:zb≠D) (v:Zv):KZ zb w (w'.setCell (A D o F) v):=⟨(jP _ _ _ _ b).trans a.eq,by rw[jQ];exact a.lt⟩
end
end face
namespace face
open Go.RowKit Go.Maps
open syn
def AV (a:Nat) (w:Zw) (D Bm Bd:Nat) (mp:Option Nat) (pv iv:Zv) (b:ByteArray) (V:List VarD) (P:List (ProcD × Zv)) (is ms ns qs:List ByteArray) (at_:Int) (x:ByteArray) (p l:Bool) (n:Option Int) (e:Ending) (w':Zw):Prop :=
 Below Bm w w' /\
  ((kH ns x=H/\e=.panicked (qI 5 at_))\/(kH ns x=X/\20<=ns.length/\e=.panicked (qI 1 at_)) \/
   (kH ns x=X/\ns.length<20/\(∃k,n=Z k/\(k<1\/64<k))/\e=.panicked (qI 6 at_)) \/
   (kH ns x=X/\ns.length<20/\(∀k,n=Z k->1<=k/\k<=64)/\e=.returned (.tuple #[])/\KZ a w w'/\∃c,DI w' D Bm Bd mp c pv iv b (V++if p then[zY x p l n] else[]) P is ms (ns++[x]) qs at_))
variable {c:ByteArray} {d:Option Int} {f:List ByteArray}
theorem zx5 {D Bm Bd:Nat} {mp:Option Nat} {vv pv iv:Zv} {af:ByteArray} {V:List VarD} {P:List (ProcD × Zv)} {is ms ns qs:List ByteArray} {at_:Int} (b:ByteArray) (f c:Bool) (G:Option Int) (v:Zv) (w:Zw) (ah:Lies (·<Bm) w (Kid.var b f c G).tree v) (z:DI w D Bm Bd mp vv pv iv af V P is ms ns qs at_) (co:b.size<=16) (cd:ns.length<=20) (cx:V.length<=20) (a5:Nat) (aY:a5<w.heap.size) (bR:D<a5) (bX:vv.ownBlock≠Z a5) : Calls prog 69 #[Zp (Z (A D 0 F)),v] w (AV a5 w D Bm Bd mp pv iv af V P is ms ns qs at_ b f c G):=by
 have bE:=kc25;have cq:prog.cellsOf 52=4:=cell4;obtain⟨bb,hi,b8,b9,ba⟩:=info_parts zbw;have aE:=ah;rw[Kid.tree_is]at ah;unfold Lies at ah;obtain⟨a,B,rfl,b1,aT⟩:=ah;simp only[Kid.kind,Kid.text,Kid.num]at *
 have bn:0<(Kid.var b f c G).kids.length->∃(a8 K:Nat) (g:Int) (aJ:Option Addr) (aQ:Nat),a=Z (A a8 K F)/\(Kid.var b f c G).kids.length=1/\G=Z g/\a8<Bm/\w.cell? (A a8 K F)=Z (U O 15)/\w.cell? (A a8 (K+1) F)=Z (I empty)/\w.cell? (A a8 (K+2) F)=Z (U O g)/\w.cell? (A a8 (K+3) F)=Z (J aJ 0 aQ):=by
  intro aX
  cases G with
  | none=>simp[Kid.kids]at aX
  | some g =>
   obtain⟨a8,K,rfl,M,bm⟩:=aT (by simp[Kid.kids]);unfold Kid.kids at bm
   obtain⟨⟨da,⟨x0,x1,x2,x3,rfl,aL,aM,aN,aO⟩,bq⟩,_⟩:=bm
   unfold Lies at bq;obtain⟨bD,bF,bG,_,_⟩:=bq;cases bG;exact⟨a8,K,g,bD,bF,rfl,by simp[Kid.kids],rfl,M,aL,aM,aN,aO⟩
 have bs:(Kid.var b f c G).kids.length=0->∀g,G=Z g->1<=g/\g<=64:=by
  intro aX g d;subst d;simp[Kid.kids]at aX
 have cz:(Kid.var b f c G).kids.length<=1:=by cases G<;>simp[Kid.kids]
 have cb:Bm<=w.heap.size:=by have:=z.lm;have:=z.ld;have:=z.dc.lt;omega
 have bj:∀p,Below Bm w p->Calls prog 85 #[Za #[U O 3,I b,U O (2*bI f+bI c),J a (Kid.var b f c G).kids.length B]] p fun d w'=>d=.returned (qC (zY b f c G))/\Below p.heap.size p w':=fun p az=>zpr b f c G _ p (aE.to (fun r a3=>by have:=az.size;show r<p.heap.size;have bY:r<Bm:=a3;omega) (fun r a3 K=>az.cell (p:=(A r K F)) a3))
 clear aT b1 aE;generalize 2*bI f+bI c=m at *;generalize (Kid.var b f c G).kids.length=y at *;have c6:=z.dc.lt;have cc:=z.lm;have c8:=z.ld;have aw:=z.below (bal (Zc #[U O 3,I b,U O m,J a y B] 25));have C:DI (w.alloc (Zc #[U O 3,I b,U O m,J a y B] 25)).drew D Bm Bd mp vv pv iv af V P is ms ns qs at_:=aw.below ⟨rfl,rfl,rfl,jE _,fun _ _=>rfl⟩;clear aw;have L:Q4 w.heap.size (U O 3) (I b) (U O m) (J a y B) (w.alloc (Zc #[U O 3,I b,U O m,J a y B] 25)).drew:=⟨oB,oB,oB,oB⟩
 have s:Below w.heap.size w (w.alloc (Zc #[U O 3,I b,U O m,J a y B] 25)).drew:=(bal _).drew;have ae:KZ a5 w (w.alloc (Zc #[U O 3,I b,U O m,J a y B] 25)).drew:=((KZ.mk rfl aY).alloc _).drew;have W:(w.alloc (Zc #[U O 3,I b,U O m,J a y B] 25)).drew.cell? (A D 5 F)=Z (.map (Z Bd))/\(w.alloc (Zc #[U O 3,I b,U O m,J a y B] 25)).drew.cell? (A w.heap.size 1 F)=Z (I b):=⟨C.dc.c5,L.2.1⟩
 go_enter func69,ntmps69;go_wp2;refine wp_region_held_drew (S:=fun p=>p.cell? (A D 5 F)=Z (.map (Z Bd))/\p.cell? (A w.heap.size 1 F)=Z (I b)) oD W (fun k=>?_);clear k;generalize (w.alloc (Zc #[U O 3,I b,U O m,J a y B] 25)).drew=p at *;refine tkP 0 (Zp (Z (A D 0 F))) W ?_;simp only[Act.put,jA,jB,jC];refine tkP 1 (Zp (Z (A D 0 F))) W ?_;simp only[Act.put,jA,jB,jC];refine tkP 2 (Zp (Z (A D 0 F))) W ?_;simp only[Act.put,jA,jB,jC];refine tkP 3 (Zp (Z (A D 5 F))) W ?_;simp only[Act.put,jA,jB,jC];refine tkP 4 (.map (Z Bd)) W ?_;simp only[Act.put,jA,jB,jC];refine tkP 5 (Zp (Z (A w.heap.size 1 F))) W ?_;simp only[Act.put,jA,jB,jC];refine tkP 6 (I b) W ?_;simp only[Act.put,jA,jB,jC];refine oneH 7 fun t h=>?_
 go_simp;go_at_call 68;refine(zbr D Bd ns b 20 at_ p C.dc.c7 C.od C.ad oA oA oA).mono ?_;rintro d au (⟨a7,rfl,a3⟩|⟨a7,bo,rfl,a3⟩|⟨a7,am,rfl,aC,aA,M⟩);·go_wp2;exact⟨rfl,(s.trans (a3.mono s.size)).mono oA,.inl ⟨a7,rfl⟩⟩
 ·go_wp2;exact oz11x93
 go_wp2;replace L:=Q4.grown L M oE;have a6:=C.enterD aC aA M;have aa:Below Bm w au:=(s.mono oA).grown M (by have:=s.size;omega) (fun g d=>by cases d;omega);have ar:=ae.grown M oE;clear s aC aA M C ae;refine h.out _ _ ⟨a6.dc.c5,L.2.1⟩ (fun k=>?_);clear h t k;refine wpAnyH_done oD ?_ _;obtain⟨aF,aG,aH,aI⟩:=id L;go_wp2;go_loopw [18] (fun bc wr=>∃E:Nat,E<=y/\bc=U O E/\Hid (E=y->∀g,G=Z g->1<=g/\g<=64)/\DI wr D Bm Bd mp vv pv iv af V P is ms (ns++[b]) qs at_/\Q4 w.heap.size (U O 3) (I b) (U O m) (J a y B) wr/\Below Bm w wr/\KZ a5 w wr) (fun bc _=>y - (intOf bc).toNat)
 case atStart=>exact⟨0,jz _,rfl,fun d=>bs d.symm,a6,L,aa,ar⟩
 case round =>
  clear ar aa L a6 aF aG aH aI;obtain⟨E,cy,rfl,be,C,L,s,ae⟩:=hrel;obtain⟨aF,aG,aH,aI⟩:=id L;by_cases cA:E<y
  ·obtain⟨a8,K,g,aJ,aQ,rfl,rfl,rfl,M,aL,aM,aN,aO⟩:=bn oA;have b0:E=0:=oA;subst b0;have d2:=(s.cell (p:=(A a8 K F)) M).trans aL;have d3:=(s.cell (p:=(A a8 (K+1) F)) M).trans aM;have d4:=(s.cell (p:=(A a8 (K+2) F)) M).trans aN;have d5:=(s.cell (p:=(A a8 (K+3) F)) M).trans aO;have d1:=s.size;have bi:=C.below (bal (Zc #[U O 15,I empty,U O g,J aJ 0 aQ] 25));have bh:=s.alloc oA (Zc #[U O 15,I empty,U O g,J aJ 0 aQ] 25);have bP:=zc8 D 6 at_ _ bi.dc.c7;clear aL aM aN aO;by_cases cg:g<1
   ·have bg:Hid (∃aj,Z g=Z aj/\(aj<1\/64<aj)):=⟨g,rfl,.inl cg⟩
    exact oz11x89
   by_cases ch:64<g
   ·have bg:Hid (∃aj,Z g=Z aj/\(aj<1\/64<aj)):=⟨g,rfl,.inr ch⟩
    exact oz11x89
   go_wp2;go_roundw
   case rel=>exact⟨1,oA,oJ,fun _ aj d=>by cases d;omega,bi,L.alloc _,bh,ae.alloc _⟩
   case measure=>simp[intOf]
  ·have b0:E=y:=oA;subst b0;have bf:Hid (∀g,G=Z g->1<=g/\g<=64):=be.out rfl;clear be bn bs;cases f
   ·go_wp2_with (go_at_call 85;refine(bj _ s).mono ?_;rintro d w2 ⟨rfl,u⟩;unfold qC zY)
    go_end0
    refine⟨((s.trans (u.mono (by have:=s.size;omega)))).alloc (by have:=s.size;have:=u.size;omega) _,.inr (.inr (.inr ⟨a7,am,bf.out,rfl,(ae.below u).alloc _,vv,?_⟩))⟩;have ag:=(C.below u).below (bal (Zc #[I b,Y X,U O (bI c),U O (G.getD 0)] 52));simpa using ag
   go_wp2_with (go_at_call 85;refine(bj _ s).mono ?_;rintro d w2 ⟨rfl,u⟩;unfold qC zY);generalize br:G.getD 0=q;have l:DI (w2.alloc (Zc #[I b,Y H,U O (bI c),U O q] 52)).drew D Bm Bd mp vv pv iv af V P is ms (ns++[b]) qs at_:=((C.below u).below (bal (Zc #[I b,Y H,U O (bI c),U O q] 52))).below ⟨rfl,rfl,rfl,jE _,fun _ _=>rfl⟩;have R:Below Bm w (w2.alloc (Zc #[I b,Y H,U O (bI c),U O q] 52)).drew:=((s.trans (u.mono (by have:=s.size;omega))).alloc (by have:=s.size;have:=u.size;omega) _).drew;have e:Q4 w2.heap.size (I b) (Y H) (U O (bI c)) (U O q) (w2.alloc (Zc #[I b,Y H,U O (bI c),U O q] 52)).drew:=⟨oB,oB,oB,oB⟩
   have T:KZ a5 w (w2.alloc (Zc #[I b,Y H,U O (bI c),U O q] 52)).drew:=((ae.below u).alloc _).drew;have ct:D<w2.heap.size:=by have:=C.dc.lt;have:=u.size;omega
   have ck:∀g,vv.ownBlock=Z g->g<w2.heap.size:=fun g d=>by have:=(C.fr.ov.lt _ d).2;have:=u.size;omega
   clear ae C s L aF aG aH aI u;refine wp_region_held_drew (S:=fun p=>Q4 w2.heap.size (I b) (Y H) (U O (bI c)) (U O q) p) oD e (fun k=>?_);clear k;generalize (w2.alloc (Zc #[I b,Y H,U O (bI c),U O q] 52)).drew=x at *;generalize w2.heap.size=N at *;obtain⟨aV,aW,rfl⟩:=l.fr.shapeV;refine tkP 0 (Zp (Z (A D 0 F))) e ?_;simp only[Act.put,jA,jB,jC];refine tkP 1 (Zp (Z (A D 0 F))) e ?_;simp only[Act.put,jA,jB,jC];refine tkP 2 (Zp (Z (A D 0 F))) e ?_;simp only[Act.put,jA,jB,jC];refine tkP 3 (Zp (Z (A D 0 F))) e ?_;simp only[Act.put,jA,jB,jC];refine tkP 4 (Zp (Z (A D 1 F))) e ?_;simp only[Act.put,jA,jB,jC];refine tkP 6 (Za #[I b,Y H,U O (bI c),U O q] ) e ?_;simp only[Act.put,jA,jB,jC];refine wpAnyH_ready (rs:=[5,7]) oD oB ?_;refine AllReadyH.cons rfl (fun t h=>?_) (AllReadyH.cons rfl (fun t h=>?_) AllReadyH.nil)
   focus
    have ac:=l.dc.c1;go_simp;refine h.out _ _ e (fun k=>?_);clear h t k ac;refine oneH 7 fun t h=>?_
    go_simp;have aD:∀E a2,[Value.string b,Y H,U O (bI c),U O q][E]?=Z a2->(x.alloc (Zc #[I b,Y H,U O (bI c),U O q] 52)).cell? (((A x.heap.size 0 F):Addr).add E)=Z a2:=xF _ #[I b,Y H,U O (bI c),U O q] _ _ rfl;have ao:x.heap.size+1=(x.alloc (Zc #[I b,Y H,U O (bI c),U O q] 52)).heap.size:=oB;replace R:=R.alloc oz11y99 (Zc #[I b,Y H,U O (bI c),U O q] 52);replace T:=T.alloc (Zc #[I b,Y H,U O (bI c),U O q] 52);replace l:=l.below (bal (Zc #[I b,Y H,U O (bI c),U O q] 52));replace e:=Q4.alloc e (Zc #[I b,Y H,U O (bI c),U O q] 52);refine h.out _ _ e (fun k=>?_);clear h t k;generalize x.alloc (Zc #[I b,Y H,U O (bI c),U O q] 52)=av at *;generalize x.heap.size=ap at *
   rotate_left
   focus
    go_simp;have aD:∀E a2,[Value.string b,Y H,U O (bI c),U O q][E]?=Z a2->(x.alloc (Zc #[I b,Y H,U O (bI c),U O q] 52)).cell? (((A x.heap.size 0 F):Addr).add E)=Z a2:=xF _ #[I b,Y H,U O (bI c),U O q] _ _ rfl;have ao:x.heap.size+1=(x.alloc (Zc #[I b,Y H,U O (bI c),U O q] 52)).heap.size:=oB;replace R:=R.alloc oz11y99 (Zc #[I b,Y H,U O (bI c),U O q] 52);replace T:=T.alloc (Zc #[I b,Y H,U O (bI c),U O q] 52);replace l:=l.below (bal (Zc #[I b,Y H,U O (bI c),U O q] 52));replace e:=Q4.alloc e (Zc #[I b,Y H,U O (bI c),U O q] 52);refine h.out _ _ e (fun k=>?_);clear h t k;generalize x.alloc (Zc #[I b,Y H,U O (bI c),U O q] 52)=av at *;generalize x.heap.size=ap at *;refine oneH 5 fun t h=>?_
    have ac:=l.dc.c1;go_simp;refine h.out _ _ e (fun k=>?_);clear h t k ac
   all_goals
    refine oneH 8 fun t h=>?_
    refine step_append_lies _ oI (.tmp 42) (.tmp 44) 35 oI (D+1) 52 bb (Za #[I ⟨#[]⟩,Y X,U O 0,U O 0]) 4 40 underlying35 hi b8 b9 ba rfl oC (J aV V.length aW) V.length (qW V) oK l.fr.ov (A ap 0 F) 1 1 [I b,Y H,U O (bI c),U O q] oK rfl aD oF oA (by unfold maxLen;omega) oA oz11y99 (ap+1) ao.symm ?_;intro aS aP bu b2 ab aZ ca;have b7:(Value.slice aV V.length aW).ownBlock≠Z N:=fun d=>by have:=ck _ d;omega
    have b6:(Value.slice aV V.length aW).ownBlock≠Z D:=fun d=>by have:=(l.fr.ov.lt _ d).1;omega
    have ag:=l.pushV (v:=⟨b,H,bI c,q⟩) b2 ab (aZ.imp id (fun d=>d.trans ao));replace e:=Q4.grown e ab b7;replace T:=T.grown ab bX;replace R:=R.grown ab oz11y99 (fun g d=>by have:=(l.fr.ov.lt _ d).1;omega);have ak:=l.dc.grown ab b6;have ac:=ak.c1;have aU:=ak.fz 1;clear l ak;refine h.out _ _ e (fun k=>?_);clear h t k;simp only[Act.put,jA,jB,jC];refine tkP 9 (Zp (Z (A D 0 F))) e ?_;simp only[Act.put,jA,jB,jC];refine tkP 10 (Zp (Z (A D 0 F))) e ?_;simp only[Act.put,jA,jB,jC];refine tkP 11 (Zp (Z (A D 1 F))) e ?_;simp only[Act.put,jA,jB,jC];refine oneH 12 fun t h=>?_
    go_simp;refine h.out _ _ (Q4.other oA e _ _) (fun k=>?_);clear h t k ac aU;refine wpAnyH_done oD ?_ _;have bw:Hid (zY b H c G=⟨b,H,bI c,q⟩):=by show _=_;unfold zY;rw[br]
    clear br;go_wp2
    go_end0
    exact⟨R.setCell (by show Bm<=D;omega) _,.inr (.inr (.inr ⟨a7,am,bf.out,rfl,T.set oA _,_,by rw[jv rfl,bw.out];exact ag⟩))⟩
def AP (b:Nat) (w:Zw) (D Bm Bd:Nat) (vv iv:Zv) (d:ByteArray) (V:List VarD) (P:List (ProcD × Zv)) (is ms ns:List ByteArray) (at_:Int) (x:ByteArray) (p l:Bool) (gv:Option Bool) (ps:List (ByteArray × Bool)) (e:Ending) (w':Zw):Prop :=
 Below Bm w w' /\
  ((kH ns x=H/\e=.panicked (qI 5 at_))\/(kH ns x=X/\20<=ns.length/\e=.panicked (qI 1 at_)) \/
   (kH ns x=X/\ns.length<20/\5<ps.length/\e=.panicked (qI 1 at_)) \/
   (kH ns x=X/\ns.length<20/\ps.length<=5/\e=.returned (.tuple #[])/\KZ b w w'/\∃c f a,DI w' D Bm Bd (Z c) vv f iv d V a is ms (ns++[x]) [] at_/\a.map (·.1)=P.map (·.1)++if p then[kO x p l gv ps] else[]))
theorem zwe {D Bm Bd:Nat} {mp:Option Nat} {vv pv iv:Zv} {af:ByteArray} {V:List VarD} {P:List (ProcD × Zv)} {is ms ns qs:List ByteArray} {at_:Int} (b:ByteArray) (f c:Bool) (Q:Option Bool) (ps:List (ByteArray × Bool)) (r:Tree) (v:Zv) (w:Zw) (ah:Lies (·<Bm) w (Kid.proc b f c Q ps r).tree v) (z:DI w D Bm Bd mp vv pv iv af V P is ms ns qs at_) (co:b.size<=16) (cd:ns.length<=20) (cw:P.length<=20) (cf:ps.length<=1000) (bN:InT r) (a5:Nat) (aY:a5<w.heap.size) (bR:D<a5) (bS:pv.ownBlock≠Z a5) : Calls prog 70 #[Zp (Z (A D 0 F)),v] w (AP a5 w D Bm Bd vv iv af V P is ms ns at_ b f c Q ps):=by
 have bE:=kc25;have cr:prog.cellsOf 57=6:=vA;obtain⟨bb,hi,b8,b9,ba⟩:=info_parts zha;have cB:=@run_makeMap prog;have aE:=ah;rw[Kid.tree_is]at ah;unfold Lies at ah;obtain⟨a,B,rfl,b1,aT⟩:=ah;simp only[Kid.kind,Kid.text,Kid.num]at *;have cb:Bm<=w.heap.size:=by have:=z.lm;have:=z.ld;have:=z.dc.lt;omega
 have ay:∀p,Below Bm w p->Calls prog 86 #[Za #[U O 4,I b,U O (2*bI f+bI c+gI Q),J a (Kid.proc b f c Q ps r).kids.length B]] p fun d w'=>∃a2,d=.returned (qR (kO b f c Q ps) a2)/\w'.ownsRow p.heap.size 3 1 a2 ps.length (yG (ps.map fun a9=>bI a9.2))/\Below p.heap.size p w':=fun p az=>zf9 b f c Q ps r _ p (aE.to (fun r a3=>by have:=az.size;show r<p.heap.size;have bY:r<Bm:=a3;omega) (fun r a3 K=>az.cell (p:=(A r K F)) a3)) cf bN
 clear aT b1 aE;generalize 2*bI f+bI c+gI Q=m at *;generalize (Kid.proc b f c Q ps r).kids.length=y at *;have c6:=z.dc.lt;have cc:=z.lm;have c8:=z.ld;have aw:=z.below (bal (Zc #[U O 4,I b,U O m,J a y B] 25));have C:DI (w.alloc (Zc #[U O 4,I b,U O m,J a y B] 25)).drew D Bm Bd mp vv pv iv af V P is ms ns qs at_:=aw.below ⟨rfl,rfl,rfl,jE _,fun _ _=>rfl⟩;clear aw;have L:Q4 w.heap.size (U O 4) (I b) (U O m) (J a y B) (w.alloc (Zc #[U O 4,I b,U O m,J a y B] 25)).drew:=⟨oB,oB,oB,oB⟩
 have s:Below w.heap.size w (w.alloc (Zc #[U O 4,I b,U O m,J a y B] 25)).drew:=(bal _).drew;have ae:KZ a5 w (w.alloc (Zc #[U O 4,I b,U O m,J a y B] 25)).drew:=((KZ.mk rfl aY).alloc _).drew;have W:(w.alloc (Zc #[U O 4,I b,U O m,J a y B] 25)).drew.cell? (A D 5 F)=Z (.map (Z Bd))/\(w.alloc (Zc #[U O 4,I b,U O m,J a y B] 25)).drew.cell? (A w.heap.size 1 F)=Z (I b):=⟨C.dc.c5,L.2.1⟩
 go_enter func70,ntmps70;go_wp2;refine wp_region_held_drew (S:=fun p=>p.cell? (A D 5 F)=Z (.map (Z Bd))/\p.cell? (A w.heap.size 1 F)=Z (I b)) oD W (fun k=>?_);clear k;generalize (w.alloc (Zc #[U O 4,I b,U O m,J a y B] 25)).drew=p at *;refine tkP 0 (Zp (Z (A D 0 F))) W ?_;simp only[Act.put,jA,jB,jC];refine tkP 1 (Zp (Z (A D 0 F))) W ?_;simp only[Act.put,jA,jB,jC];refine tkP 2 (Zp (Z (A D 0 F))) W ?_;simp only[Act.put,jA,jB,jC];refine tkP 3 (Zp (Z (A D 5 F))) W ?_;simp only[Act.put,jA,jB,jC];refine tkP 4 (.map (Z Bd)) W ?_;simp only[Act.put,jA,jB,jC];refine tkP 5 (Zp (Z (A w.heap.size 1 F))) W ?_;simp only[Act.put,jA,jB,jC];refine tkP 6 (I b) W ?_;simp only[Act.put,jA,jB,jC];refine oneH 7 fun t h=>?_
 go_simp;go_at_call 68;refine(zbr D Bd ns b 20 at_ p C.dc.c7 C.od C.ad oA oA oA).mono ?_;rintro d au (⟨a7,rfl,a3⟩|⟨a7,bo,rfl,a3⟩|⟨a7,am,rfl,aC,aA,M⟩);·go_wp2;exact⟨rfl,(s.trans (a3.mono s.size)).mono oA,.inl ⟨a7,rfl⟩⟩
 ·go_wp2;exact oz11x93
 go_wp2;replace L:=Q4.grown L M oE;have a6:=C.enterD aC aA M;have aa:Below Bm w au:=(s.mono oA).grown M (by have:=s.size;omega) (fun g d=>by cases d;omega);have ar:=ae.grown M oE;clear s aC aA M C ae;refine h.out _ _ ⟨a6.dc.c5,L.2.1⟩ (fun k=>?_);clear h t k;refine wpAnyH_done oD ?_ _;obtain⟨aF,aG,aH,aI⟩:=id L;have d0:=aa.size;by_cases bH:5<ps.length
 ·go_wp2_with first
   | (go_at_call 86;refine(ay _ aa).mono ?_;rintro d w2 ⟨a2,rfl,an,u⟩;unfold qR kO;obtain⟨i,j,rfl,_,_⟩:=lexs.own_shape an;have l:=(a6.below u).below (bal (Zc #[I b,Y f,J i ps.length j,U O (bI c),Y Q.isSome,U O (bI (Q.getD X))] 57)))
   | (go_at_call 93;refine(zc8 D _ at_ _ l.dc.c7).mono ?_;rintro d db ⟨rfl,cn⟩;obtain rfl:=cn.symm)
  exact⟨rfl,(aa.trans (u.mono oA)).alloc (by have:=u.size;omega) _,.inr (.inr (.inl ⟨a7,am,bH,rfl⟩))⟩
 have HS:Hid (ps.length<=5):=by show _<=_;omega
 cases f
 ·go_wp2_with first
   | (go_at_call 86;refine(ay _ aa).mono ?_;rintro d w2 ⟨a2,rfl,an,u⟩;unfold qR kO;obtain⟨i,j,rfl,_,_⟩:=lexs.own_shape an;have l:=(a6.below u).below (bal (Zc #[I b,Y X,J i ps.length j,U O (bI c),Y Q.isSome,U O (bI (Q.getD X))] 57));have ax:=l.below (bal (.map #[] 0));have cp:=ax.dc.c6;have aU:=ax.dc.fz 6)
  have ag:=l.newP (bal (.map #[] 0)) (World.ownsMap_made _ _ _ _);have ci:=u.size
  go_end0
  exact⟨((((aa.trans (u.mono oA)).alloc oA _).alloc oE _).setCell (by show Bm<=D;omega) _),.inr (.inr (.inr ⟨a7,am,HS.out,rfl,(((ar.below u).alloc _).alloc _).set oA _,_,pv,P,by simpa using ag,oB⟩))⟩
 have bv:Hid (kO b H c Q ps=⟨b,H,ps.map fun a9=>bI a9.2,bI c,Q.isSome,bI (Q.getD X)⟩):=rfl;unfold qR kO at ay;simp only at ay;generalize Q.isSome=o at *;generalize bI (Q.getD X)=n at *
 go_wp2_with first
  | (go_at_call 86;refine(ay _ aa).mono ?_;rintro d w2 ⟨a2,rfl,an,u⟩;obtain⟨i,j,rfl,_,_⟩:=lexs.own_shape an)
 have ci:=u.size;have ce:yE (fun r=>au.heap.size<=r/\r<w2.heap.size) w2 (J i ps.length j) (ps.map fun a9=>bI a9.2):=yE.own (by rw[List.length_map];exact an);have l:DI (w2.alloc (Zc #[I b,Y H,J i ps.length j,U O (bI c),Y o,U O n] 57)).drew D Bm Bd mp vv pv iv af V P is ms (ns++[b]) qs at_:=((a6.below u).below (bal (Zc #[I b,Y H,J i ps.length j,U O (bI c),Y o,U O n] 57))).below ⟨rfl,rfl,rfl,jE _,fun _ _=>rfl⟩;have R:Below Bm w (w2.alloc (Zc #[I b,Y H,J i ps.length j,U O (bI c),Y o,U O n] 57)).drew:=((aa.trans (u.mono oA)).alloc oA _).drew;have T:KZ a5 w (w2.alloc (Zc #[I b,Y H,J i ps.length j,U O (bI c),Y o,U O n] 57)).drew:=((ar.below u).alloc _).drew;have ai:Below w2.heap.size w2 (w2.alloc (Zc #[I b,Y H,J i ps.length j,U O (bI c),Y o,U O n] 57)).drew:=(bal _).drew;have e:Box6 (w2.alloc (Zc #[I b,Y H,J i ps.length j,U O (bI c),Y o,U O n] 57)).drew w2.heap.size (I b) (Y H) (J i ps.length j) (U O (bI c)) (Y o) (U O n):=(Box6.new w2 _ _ _ _ _ _ _).drew
 have aB:∀g,(vv.ownBlock=Z g\/pv.ownBlock=Z g\/iv.ownBlock=Z g\/mp=Z g)->g<au.heap.size:=fun g d=>by
  rcases d with d | d | d | d
  ·exact(a6.fr.ov.lt _ d).2
  ·exact(a6.fr.op.lt _ d).2
  ·exact(a6.oi.lt _ d).2
  ·exact(a6.op g d).lt
 have cu:=a6.dc.lt;clear ar a6 aa L aF aG aH aI an u;refine wp_region_held_drew (S:=fun p=>Box6 p w2.heap.size (I b) (Y H) (J i ps.length j) (U O (bI c)) (Y o) (U O n)) oD e (fun k=>?_);clear k;generalize (w2.alloc (Zc #[I b,Y H,J i ps.length j,U O (bI c),Y o,U O n] 57)).drew=x at *;generalize cv:w2.heap.size=N at *;obtain⟨aK,aR,rfl⟩:=l.fr.shapeP;refine tkP 0 (Zp (Z (A D 0 F))) e ?_;simp only[Act.put,jA,jB,jC];refine tkP 1 (Zp (Z (A D 0 F))) e ?_;simp only[Act.put,jA,jB,jC];refine tkP 2 (Zp (Z (A D 0 F))) e ?_;simp only[Act.put,jA,jB,jC];refine tkP 3 (Zp (Z (A D 0 F))) e ?_;simp only[Act.put,jA,jB,jC];refine tkP 4 (Zp (Z (A D 2 F))) e ?_;simp only[Act.put,jA,jB,jC];refine tkP 6 (Za #[I b,Y H,J i ps.length j,U O (bI c),Y o,U O n] ) e ?_;simp only[Act.put,jA,jB,jC];refine wpAnyH_ready (rs:=[5,7]) oD oB ?_;refine AllReadyH.cons rfl (fun t h=>?_) (AllReadyH.cons rfl (fun t h=>?_) AllReadyH.nil)
 focus
  have ac:=l.dc.c2;go_simp;refine h.out _ _ e (fun k=>?_);clear h t k ac;refine oneH 7 fun t h=>?_
  go_simp;have aD:∀E a2,[Value.string b,Y H,J i ps.length j,U O (bI c),Y o,U O n][E]?=Z a2->(x.alloc (Zc #[I b,Y H,J i ps.length j,U O (bI c),Y o,U O n] 57)).cell? (((A x.heap.size 0 F):Addr).add E)=Z a2:=xF _ #[I b,Y H,J i ps.length j,U O (bI c),Y o,U O n] _ _ rfl;have ao:x.heap.size+1=(x.alloc (Zc #[I b,Y H,J i ps.length j,U O (bI c),Y o,U O n] 57)).heap.size:=oB;replace T:=T.alloc (Zc #[I b,Y H,J i ps.length j,U O (bI c),Y o,U O n] 57);replace R:=R.alloc oz11y100 (Zc #[I b,Y H,J i ps.length j,U O (bI c),Y o,U O n] 57);replace ai:=ai.alloc (by have:=ai.size;omega) (Zc #[I b,Y H,J i ps.length j,U O (bI c),Y o,U O n] 57);replace l:=l.below (bal (Zc #[I b,Y H,J i ps.length j,U O (bI c),Y o,U O n] 57));replace e:=e.alloc (Zc #[I b,Y H,J i ps.length j,U O (bI c),Y o,U O n] 57);refine h.out _ _ e (fun k=>?_);clear h t k;generalize x.alloc (Zc #[I b,Y H,J i ps.length j,U O (bI c),Y o,U O n] 57)=av at *;generalize x.heap.size=ap at *
 rotate_left
 focus
  go_simp;have aD:∀E a2,[Value.string b,Y H,J i ps.length j,U O (bI c),Y o,U O n][E]?=Z a2->(x.alloc (Zc #[I b,Y H,J i ps.length j,U O (bI c),Y o,U O n] 57)).cell? (((A x.heap.size 0 F):Addr).add E)=Z a2:=xF _ #[I b,Y H,J i ps.length j,U O (bI c),Y o,U O n] _ _ rfl;have ao:x.heap.size+1=(x.alloc (Zc #[I b,Y H,J i ps.length j,U O (bI c),Y o,U O n] 57)).heap.size:=oB;replace T:=T.alloc (Zc #[I b,Y H,J i ps.length j,U O (bI c),Y o,U O n] 57);replace R:=R.alloc oz11y100 (Zc #[I b,Y H,J i ps.length j,U O (bI c),Y o,U O n] 57);replace ai:=ai.alloc (by have:=ai.size;omega) (Zc #[I b,Y H,J i ps.length j,U O (bI c),Y o,U O n] 57);replace l:=l.below (bal (Zc #[I b,Y H,J i ps.length j,U O (bI c),Y o,U O n] 57));replace e:=e.alloc (Zc #[I b,Y H,J i ps.length j,U O (bI c),Y o,U O n] 57);refine h.out _ _ e (fun k=>?_);clear h t k;generalize x.alloc (Zc #[I b,Y H,J i ps.length j,U O (bI c),Y o,U O n] 57)=av at *;generalize x.heap.size=ap at *;refine oneH 5 fun t h=>?_
  have ac:=l.dc.c2;go_simp;refine h.out _ _ e (fun k=>?_);clear h t k ac
 all_goals
  refine oneH 8 fun t h=>?_
  refine step_append_lies _ oI (.tmp 28) (.tmp 30) 36 oI (D+1) 57 bb (Za #[I ⟨#[]⟩,Y X,J F 0 0,U O 0,Y X,U O 0]) 6 72 underlying36 hi b8 b9 ba rfl oC (J aK P.length aR) P.length (yV P) oK l.fr.op (A ap 0 F) 1 1 [I b,Y H,J i ps.length j,U O (bI c),Y o,U O n] oK rfl aD oR oA (by unfold maxLen;omega) oA oz11y100 (ap+1) ao.symm ?_;intro aS aP bu b2 ab aZ ca;have b7:(Value.slice aK P.length aR).ownBlock≠Z N:=fun d=>by have:=aB _ (.inr (.inl d));omega
  have b6:(Value.slice aK P.length aR).ownBlock≠Z D:=fun d=>by have:=(l.fr.op.lt _ d).1;omega
  have bp:yE (fun r=>D+1<=r/\r<av.heap.size/\vv.ownBlock≠Z r/\(Value.slice aK P.length aR).ownBlock≠Z r/\¬(iv.ownBlock=Z r\/mp=Z r)) av (J i ps.length j) (ps.map fun a9=>bI a9.2) :=
   ce.to (fun r a3=>⟨oA,by have:=ai.size;omega,fun d=>by have:=aB _ (.inl d);omega,fun d=>by have:=aB _ (.inr (.inl d));omega,fun d=>by rcases d with d | d;have:=aB _ (.inr (.inr (.inl d)));omega;have:=aB _ (.inr (.inr (.inr d)));omega⟩) (fun r a3 K v bZ=>(ai.cell (p:=(A r K F)) (by show r<N;omega)).trans bZ)
  have ag:=l.pushP (q:=(⟨b,H,ps.map fun a9=>bI a9.2,bI c,o,n⟩,J i ps.length j)) b2 ab (aZ.imp id (fun d=>d.trans ao)) bp;replace e:=e.grown ab b7;replace T:=T.grown ab bS;replace R:=R.grown ab oz11y100 (fun g d=>by have:=(l.fr.op.lt _ d).1;omega);have ak:=l.dc.grown ab b6;have ac:=ak.c2;have aU:=ak.fz 2;clear l ak bp;refine h.out _ _ e (fun k=>?_);clear h t k;simp only[Act.put,jA,jB,jC];refine tkP 9 (Zp (Z (A D 0 F))) e ?_;simp only[Act.put,jA,jB,jC];refine tkP 10 (Zp (Z (A D 0 F))) e ?_;simp only[Act.put,jA,jB,jC];refine tkP 11 (Zp (Z (A D 2 F))) e ?_;simp only[Act.put,jA,jB,jC];refine oneH 12 fun t h=>?_
  go_simp;refine h.out _ _ (e.other oA _) (fun k=>?_);clear h t k ac aU e;refine wpAnyH_done oD ?_ _;replace T:=T.set (D:=D) (o:=2) oA (J (Z (A aS 0 F)) (P.length+1) aP);replace R:=R.setCell (p:=(A D 2 F)) (by show Bm<=D;omega) (J (Z (A aS 0 F)) (P.length+1) aP);generalize (World.setCell bu (A D 2 F) _)=bz at *;have ax:=ag.below (bal (.map #[] 0));have cp:=ax.dc.c6;have d6:=ax.dc.fz 6;have c9:=ag.newP (bal (.map #[] 0)) (World.ownsMap_made _ _ _ _);have cj:=ag.dc.lt;go_wp2
  go_end0
  exact⟨(R.setCell (by show Bm<=D;omega) _).alloc oN _,.inr (.inr (.inr ⟨a7,am,HS.out,rfl,(T.set oA _).alloc _,bz.heap.size,J (Z (A aS 0 F)) (P.length+1) aP,P++[(⟨b,H,ps.map fun a9=>bI a9.2,bI c,o,n⟩,J i ps.length j)],by rw[<- World.setCell_alloc_past (hn:=cj)];exact c9,by rw[jv rfl,bv.out,List.map_append];rfl⟩))⟩
theorem zdq {Bm:Nat} {w wr:Zw} {f:List Tree} {d c b:Nat} (y:kQ (·<Bm) w f d c) (C:d<Bm) (x:Below Bm w wr) (D:b<f.length) : ∃(i:Int) (k:ByteArray) (m:Int) (a:Option Addr) (j g:Nat),wr.cell? (A d (c+b*4) F)=Z (U O i)/\wr.cell? (A d (c+b*4+1) F)=Z (I k)/\wr.cell? (A d (c+b*4+2) F)=Z (U O m)/\wr.cell? (A d (c+b*4+3) F)=Z (J a j g)/\Lies (·<Bm) wr f[b] (Za #[U O i,I k,U O m,J a j g]):=by
 have z:=y.to (w':=wr) (Q:=(·<Bm)) (fun _ u=>u) (fun n B c=>x.cell (p:=(A n c F)) B) C
 obtain⟨v,⟨x0,x1,x2,x3,rfl,o,q,r,s⟩,h⟩:=z.get b D;obtain⟨E,L,G,_,e,l,K,t,rfl⟩:=h.shape;injection e with e;simp only[Array.mk.injEq,jq,and_true]at e;obtain⟨rfl,rfl,rfl,rfl⟩:=e;exact⟨E,L,G,l,K,t,o,q,r,s,h⟩
theorem Lies.alloc' {Bm:Nat} {w:Zw} {c:Tree} {v:Zv} (a:Lies (·<Bm) w c v) (e:Bm<=w.heap.size) (b:Obj):Lies (·<Bm) (w.alloc b) c v :=
 a.to (fun _ a=>a) (fun d f g=>((Below.refl w.heap.size w).alloc (jE _) b).cell (p:=(A d g F)) (jo f e))
theorem zf7:∀ {d:List Tree} (a:InL d) (c:Nat) (b:c<d.length),InT d[c]
 | [],_,c,b=>by simp at b
 | t :: r,a,0,b=>by unfold InL at a;exact a.1
 | t :: r,a,c+1,b=>by unfold InL at a;exact zf7 a.2 c (by simpa using b)
theorem vIn {D Bm Bd:Nat} {mp:Option Nat} {vv pv iv:Zv} {o:ByteArray} {V:List VarD} {P:List (ProcD × Zv)} {is ms ns qs:List ByteArray} (k:Tree) (v:Zv) (w:Zw) (at_:Int) (t:Lies (·<Bm) w k v) (af:InT k) (j:DI w D Bm Bd mp vv pv iv o V P is ms ns qs at_) (ap:0<=at_) (a3:at_+kC k<=1000000) : Calls prog 40 #[Zp (Z (A D 0 F)),v] w fun l w'=>l=.returned (.tuple #[])/\Below Bm w w'/\DI w' D Bm Bd mp vv pv iv o V P is ms ns qs (at_+kC k):=by
 have an:=kc25
 match k with
 | .node g d m b =>
  have ih:∀x (hi:x<b.length) (v:Zv) (w:Zw) (at_:Int),Lies (·<Bm) w b[x] v->InT b[x]->DI w D Bm Bd mp vv pv iv o V P is ms ns qs at_->0<=at_->at_+kC b[x]<=1000000 ->
    Calls prog 40 #[Zp (Z (A D 0 F)),v] w fun l w'=>l=.returned (.tuple #[])/\Below Bm w w'/\DI w' D Bm Bd mp vv pv iv o V P is ms ns qs (at_+kC b[x]):=fun x hi v w at_ ar au av aw ax=>vIn b[x] v w at_ ar au av aw ax
  unfold Lies at t;obtain⟨a,y,rfl,aD,G⟩:=t;unfold InT at af;obtain⟨aU,a2⟩:=af;have T:kC (.node g d m b)=1+kA b:=by unfold kC;omega
  rw[T]at a3 |-;have az:=kR b;have aN:¬g=1:=oA;have aO:¬g=2:=oA;have aP:¬g=3:=oA;have aQ:¬g=4:=oA;have aR:¬g=5:=oA;have aG:=j.lm;have aA:=j.ld;have W:=j.dc.lt;have M:=j.below (bal (Zc #[U O g,I d,U O m,J a b.length y] 25));have n:=M.setAt (at_+1);have S:Below Bm w ((w.alloc (Zc #[U O g,I d,U O m,J a b.length y] 25)).setCell (A D 7 F) (U O (at_+1))):=((Below.refl _ _).alloc oA _).setCell (by show Bm<=D;omega) _;have a6:=M.dc.c7;have a7:=M.dc.fz 7;rw[World.setCell_alloc_past (hn:=W)]at n S;clear M j;go_enter func40,ntmps40;go_wp2;clear a6 a7;simp only[show(g==1)=X by simpa using aN,show(g==2)=X by simpa using aO,show(g==3)=X by simpa using aP,show(g==4)=X by simpa using aQ,show(g==5)=X by simpa using aR];go_loopw [75] (fun k wr=>∃c:Nat,c<=b.length/\k=U O c/\DI wr D Bm Bd mp vv pv iv o V P is ms ns qs (at_+1+kA (b.take c))/\Below Bm w wr) (fun k _=>b.length - (intOf k).toNat)
  case atStart=>exact⟨0,jz _,rfl,by simpa[kA] using n,S⟩
  case round =>
   clear n S;obtain⟨c,aC,rfl,p,q⟩:=hrel;by_cases i:c<b.length
   ·obtain⟨z,aS,rfl,E,C⟩:=G (by intro l;rw[l]at i;simp at i);obtain⟨a5,ab,a8,Q,a9,R,aj,ak,am,ao,u⟩:=zdq C E q i;have aI:=xE b c i;have aJ:=xY b (c+1);have aK:=qU b[c];have aL:=kR (b.take c);have aM:=q.size;have L:=ih c i _ (wr.alloc (Zc #[U O a5,I ab,U O a8,J Q a9 R] 25)) _ (Lies.alloc' u oA _) (zf7 a2 c i) (p.below (bal _)) oA oA;have aB:z<wr.heap.size:=by have:z<Bm:=E;omega
    rw[show at_+1+kA (b.take c)+kC b[c]=at_+1+kA (b.take (c+1)) by omega]at L;clear ih p u G C
    exact oz11x88
   ·rw[jG oA]at p;go_wp2
    go_end0
    exact⟨rfl,q,by rw[show at_+(1+kA b)=at_+1+kA b by omega];exact p⟩
termination_by SizeOf.sizeOf k
decreasing_by exact dI hi
def VR (Bm:Nat) (w:Zw) (r:Option (Int × Int)) (a:Zw->Prop) (e:Ending) (w':Zw):Prop :=
 Below Bm w w'/\((∃q,r=Z q/\e=.panicked (qI q.1 q.2))\/(r=F/\e=.returned (.tuple #[])/\a w'))
def vV (L:List ByteArray) (x:ByteArray) (kD:Nat) (a:Int):Option (Int × Int):=if kH L x then Z (5,a)else if kD<=L.length then Z (1,a)else F
theorem zq4 {kD:Nat} {a:Int} (b:kH f c=H):vV f c kD a=Z (5,a):=by unfold vV;rw[jv b]
theorem zrl {kD:Nat} {a:Int} (b:kH f c=X) (d:kD<=f.length):vV f c kD a=Z (1,a):=by unfold vV;rw[ju (by simp[b]),jv d]
theorem ziu {kD:Nat} {a:Int} (b:kH f c=X) (d:f.length<kD):vV f c kD a=F:=by unfold vV;rw[ju (by simp[b]),ju oA]
theorem ycb {D Bm Bd u:Nat} {vv pv iv:Zv} {B:ByteArray} {V:List VarD} {P:List (ProcD × Zv)} {is ms ns qs:List ByteArray} (b:ByteArray) (f:Int) (v:Zv) (w:Zw) (at_:Int) (T:Lies (·<Bm) w (.node 5 b f []) v) (h:DI w D Bm Bd (Z u) vv pv iv B V P is ms ns qs at_) (aw:0<=at_) (aC:at_<=1000000) (aJ:b.size<=16) (aF:qs.length<=5) : Calls prog 40 #[Zp (Z (A D 0 F)),v] w (VR Bm w (vV qs b 5 at_) fun w'=>DI w' D Bm Bd (Z u) vv pv iv B V P is ms ns (qs++[b]) (at_+1)):=by
 unfold Lies at T;obtain⟨a,g,rfl,_,_⟩:=T;simp only[je]at *;have aQ:=h.lp u rfl;have aR:=(h.op u rfl).lt;have av:=kc25;have aD:=h.lm;have aB:=h.ld;have aA:=h.dc.lt;have K:=h.below (bal (Zc #[U O 5,I b,U O f,J a 0 g] 25));have m:DI (w.alloc (Zc #[U O 5,I b,U O f,J a 0 g] 25)).drew D Bm Bd (Z u) vv pv iv B V P is ms ns qs at_:=K.below ⟨rfl,rfl,rfl,jE _,fun _ _=>rfl⟩;clear K;have n:Q4 w.heap.size (U O 5) (I b) (U O f) (J a 0 g) (w.alloc (Zc #[U O 5,I b,U O f,J a 0 g] 25)).drew:=⟨oB,oB,oB,oB⟩
 have s:Below w.heap.size w (w.alloc (Zc #[U O 5,I b,U O f,J a 0 g] 25)).drew:=(bal _).drew;have i:(w.alloc (Zc #[U O 5,I b,U O f,J a 0 g] 25)).drew.cell? (A D 6 F)=Z (.map (Z u))/\(w.alloc (Zc #[U O 5,I b,U O f,J a 0 g] 25)).drew.cell? (A w.heap.size 1 F)=Z (I b):=⟨m.dc.c6,n.2.1⟩
 go_enter func40,ntmps40;go_wp2;refine wp_region_held_drew (S:=fun r=>r.cell? (A D 6 F)=Z (.map (Z u))/\r.cell? (A w.heap.size 1 F)=Z (I b)) oD i (fun e=>?_);clear e;generalize (w.alloc (Zc #[U O 5,I b,U O f,J a 0 g] 25)).drew=r at *;refine tkP 0 (Zp (Z (A D 0 F))) i ?_;simp only[Act.put,jA,jB,jC];refine tkP 1 (Zp (Z (A D 0 F))) i ?_;simp only[Act.put,jA,jB,jC];refine tkP 2 (Zp (Z (A D 0 F))) i ?_;simp only[Act.put,jA,jB,jC];refine tkP 3 (Zp (Z (A D 6 F))) i ?_;simp only[Act.put,jA,jB,jC];refine tkP 4 (.map (Z u)) i ?_;simp only[Act.put,jA,jB,jC];refine tkP 5 (Zp (Z (A w.heap.size 1 F))) i ?_;simp only[Act.put,jA,jB,jC];refine tkP 6 (I b) i ?_;simp only[Act.put,jA,jB,jC];refine oneH 7 fun k d=>?_
 go_simp;go_at_call 68;refine(zbr D u qs b 5 at_ r m.dc.c7 (m.op u rfl) m.aq oA oA oA).mono ?_;rintro l C (⟨z,rfl,Q⟩|⟨z,ao,rfl,Q⟩|⟨z,ae,rfl,R,L,y⟩);·go_wp2;exact oz11x92
 ·go_wp2;exact oz11x91
 have x:=m.enterP R L y;go_wp2;replace n:=Q4.grown n y oE;have G:Below Bm w C:=(s.mono oA).grown y (by have:=s.size;omega) (fun E l=>by cases l;omega);clear s R L y m;refine d.out _ _ ⟨x.dc.c6,n.2.1⟩ (fun e=>?_);clear d k e;refine wpAnyH_done oD ?_ _;obtain⟨ah,ai,aj,ak⟩:=id n;have ag:=x.dc.c7;have a3:=x.dc.fz 7;have j:=x.setAt (at_+1);have q:=G.setCell (p:=(A D 7 F)) (by show Bm<=D;omega) (U O (at_+1));clear x G;go_wp2;clear ag a3;go_loopw [75] (fun a5 wr=>a5=U O 0/\wr=C.setCell (A D 7 F) (U O (at_+1))) (fun a5 _=>0)
 case atStart=>exact⟨rfl,rfl⟩
 case round =>
  obtain⟨rfl,rfl⟩:=hrel;go_wp2
  go_end0
  exact⟨q,.inr ⟨ziu z ae,rfl,j⟩⟩
theorem yb8 {D Bm Bd:Nat} {mp:Option Nat} {vv pv iv:Zv} {B:ByteArray} {V:List VarD} {P:List (ProcD × Zv)} {is ms ns qs:List ByteArray} (b:ByteArray) (f:Int) (v:Zv) (w:Zw) (at_:Int) (T:Lies (·<Bm) w (.node 2 b f []) v) (h:DI w D Bm Bd mp vv pv iv B V P is ms ns qs at_) (aw:0<=at_) (aC:at_<=1000000) (aJ:b.size<=16) (aF:ms.length<=6) (aS:is.length<=6) : Calls prog 40 #[Zp (Z (A D 0 F)),v] w (VR Bm w (vV ms b 6 at_) fun w'=>∃aO,DI w' D Bm Bd mp vv pv aO B V P (is++[b]) (ms++[b]) ns qs (at_+1)):=by
 obtain⟨aN,hi,aK,aL,aM⟩:=info_parts zqf;unfold Lies at T;obtain⟨a,g,rfl,_,_⟩:=T;simp only[je]at *;have av:=kc25;have aD:=h.lm;have aB:=h.ld;have aA:=h.dc.lt;have K:=h.below (bal (Zc #[U O 2,I b,U O f,J a 0 g] 25));have m:DI (w.alloc (Zc #[U O 2,I b,U O f,J a 0 g] 25)).drew D Bm Bd mp vv pv iv B V P is ms ns qs at_:=K.below ⟨rfl,rfl,rfl,jE _,fun _ _=>rfl⟩;clear K;have n:Q4 w.heap.size (U O 2) (I b) (U O f) (J a 0 g) (w.alloc (Zc #[U O 2,I b,U O f,J a 0 g] 25)).drew:=⟨oB,oB,oB,oB⟩
 have s:Below w.heap.size w (w.alloc (Zc #[U O 2,I b,U O f,J a 0 g] 25)).drew:=(bal _).drew;have i:(w.alloc (Zc #[U O 2,I b,U O f,J a 0 g] 25)).drew.cell? (A D 4 F)=Z (.map (Z Bm))/\(w.alloc (Zc #[U O 2,I b,U O f,J a 0 g] 25)).drew.cell? (A w.heap.size 1 F)=Z (I b):=⟨m.dc.c4,n.2.1⟩
 go_enter func40,ntmps40;go_wp2;refine wp_region_held_drew (S:=fun r=>r.cell? (A D 4 F)=Z (.map (Z Bm))/\r.cell? (A w.heap.size 1 F)=Z (I b)) oD i (fun e=>?_);clear e;generalize (w.alloc (Zc #[U O 2,I b,U O f,J a 0 g] 25)).drew=r at *;refine tkP 0 (Zp (Z (A D 0 F))) i ?_;simp only[Act.put,jA,jB,jC];refine tkP 1 (Zp (Z (A D 0 F))) i ?_;simp only[Act.put,jA,jB,jC];refine tkP 2 (Zp (Z (A D 0 F))) i ?_;simp only[Act.put,jA,jB,jC];refine tkP 3 (Zp (Z (A D 4 F))) i ?_;simp only[Act.put,jA,jB,jC];refine tkP 4 (.map (Z Bm)) i ?_;simp only[Act.put,jA,jB,jC];refine tkP 5 (Zp (Z (A w.heap.size 1 F))) i ?_;simp only[Act.put,jA,jB,jC];refine tkP 6 (I b) i ?_;simp only[Act.put,jA,jB,jC];refine oneH 7 fun k d=>?_
 go_simp;go_at_call 68;refine(zbr D Bm ms b 6 at_ r m.dc.c7 m.om m.am oA oA oA).mono ?_;rintro l C (⟨z,rfl,Q⟩|⟨z,ao,rfl,Q⟩|⟨z,ae,rfl,R,L,y⟩);·go_wp2;exact oz11x92
 ·go_wp2;exact oz11x91
 have x:=m.enterM R L y;go_wp2;replace n:=Q4.grown n y oE;have G:Below Bm w C:=(s.mono oA).grown y (by have:=s.size;omega) (fun E l=>by cases l;omega);clear s R L y m;refine d.out _ _ ⟨x.dc.c4,n.2.1⟩ (fun e=>?_);clear d k e;refine wpAnyH_done oD ?_ _;obtain⟨ah,ai,aj,ak⟩:=id n;have j:DI C.drew D Bm Bd mp vv pv iv B V P is (ms++[b]) ns qs at_:=x.below ⟨rfl,rfl,rfl,jE _,fun _ _=>rfl⟩;have q:=G.drew;have c:Q4 w.heap.size (U O 2) (I b) (U O f) (J a 0 g) C.drew:=n;have aI:∀E,iv.ownBlock=Z E->E<w.heap.size:=fun E l=>(h.oi.lt _ l).2
 clear x G n h;go_wp2;clear ah ai aj ak;refine wp_region_held_drew (S:=fun r=>Q4 w.heap.size (U O 2) (I b) (U O f) (J a 0 g) r) oD c (fun e=>?_);clear e;generalize C.drew=p at *;generalize w.heap.size=N at *;obtain⟨a9,ab,rfl,_,_⟩:=lexs.own_shape j.oi;refine tkP 0 (Zp (Z (A D 0 F))) c ?_;simp only[Act.put,jA,jB,jC];refine tkP 1 (Zp (Z (A D 0 F))) c ?_;simp only[Act.put,jA,jB,jC];refine tkP 2 (Zp (Z (A D 0 F))) c ?_;simp only[Act.put,jA,jB,jC];refine tkP 3 (Zp (Z (A D 3 F))) c ?_;simp only[Act.put,jA,jB,jC];refine tkP 5 (Zp (Z (A N 1 F))) c ?_;simp only[Act.put,jA,jB,jC];refine tkP 6 (I b) c ?_;simp only[Act.put,jA,jB,jC];refine wpAnyH_ready (rs:=[4,7]) oD oB ?_;refine AllReadyH.cons rfl (fun k d=>?_) (AllReadyH.cons rfl (fun k d=>?_) AllReadyH.nil)
 focus
  have a2:=j.dc.c3;go_simp;refine d.out _ _ c (fun e=>?_);clear d k e a2;refine oneH 7 fun k d=>?_
  go_simp;have ap:∀W a6,[Value.string b][W]?=Z a6->(p.alloc (Zc #[I b] 9)).cell? (((A p.heap.size 0 F):Addr).add W)=Z a6:=xZ _ _ _ rfl;have af:p.heap.size+1=(p.alloc (Zc #[I b] 9)).heap.size:=oB;replace q:=q.alloc oz11y101 (Zc #[I b] 9);replace j:=j.below (bal (Zc #[I b] 9));replace c:=Q4.alloc c (Zc #[I b] 9);refine d.out _ _ c (fun e=>?_);clear d k e;generalize p.alloc (Zc #[I b] 9)=ar at *;generalize p.heap.size=an at *
 rotate_left
 focus
  go_simp;have ap:∀W a6,[Value.string b][W]?=Z a6->(p.alloc (Zc #[I b] 9)).cell? (((A p.heap.size 0 F):Addr).add W)=Z a6:=xZ _ _ _ rfl;have af:p.heap.size+1=(p.alloc (Zc #[I b] 9)).heap.size:=oB;replace q:=q.alloc oz11y101 (Zc #[I b] 9);replace j:=j.below (bal (Zc #[I b] 9));replace c:=Q4.alloc c (Zc #[I b] 9);refine d.out _ _ c (fun e=>?_);clear d k e;generalize p.alloc (Zc #[I b] 9)=ar at *;generalize p.heap.size=an at *;refine oneH 4 fun k d=>?_
  have a2:=j.dc.c3;go_simp;refine d.out _ _ c (fun e=>?_);clear d k e a2
 all_goals
  refine oneH 8 fun k d=>?_
  refine step_append_lies _ oI (.tmp 38) (.tmp 41) 41 oI (D+1) 9 aN (I ⟨#[]⟩) 1 16 underlying41 hi aK aL aM rfl oC (J a9 is.length ab) is.length (yU is) oK j.oi (A an 0 F) 1 1 [I b] oK rfl ap (fA b) oA (by unfold maxLen;omega) oA oz11y101 (an+1) af.symm ?_;intro ac aa aP aE a8 az aT;have aH:(Value.slice a9 is.length ab).ownBlock≠Z N:=fun l=>by have:=aI _ l;omega
  have aG:(Value.slice a9 is.length ab).ownBlock≠Z D:=fun l=>by have:=(j.oi.lt _ l).1;omega
  have a7:=j.pushI (x:=b) aE a8 (az.imp id (fun l=>l.trans af));replace c:=Q4.grown c a8 aH;replace q:=q.grown a8 oz11y101 (fun E l=>by have:=(j.oi.lt _ l).1;omega);have ad:=j.dc.grown a8 aG;have a2:=ad.c3;have a3:=ad.fz 3;clear j ad;refine d.out _ _ c (fun e=>?_);clear d k e;simp only[Act.put,jA,jB,jC];refine tkP 9 (Zp (Z (A D 0 F))) c ?_;simp only[Act.put,jA,jB,jC];refine tkP 10 (Zp (Z (A D 3 F))) c ?_;simp only[Act.put,jA,jB,jC];refine oneH 11 fun k d=>?_
  go_simp;refine d.out _ _ (Q4.other oA c _ _) (fun e=>?_);clear d k e a2 a3;replace q:=q.setCell (p:=(A D 3 F)) (by show Bm<=D;omega) (J (Z (A ac 0 F)) (is.length+1) aa);replace c:=Q4.other (M:=D) (o:=3) oA c (J (Z (A ac 0 F)) (is.length+1) aa);refine wpAnyH_done oD ?_ _;obtain⟨ah,ai,aj,ak⟩:=id c;have ag:=a7.dc.c7;have a3:=a7.dc.fz 7;generalize aP.setCell (A D 3 F) (J (Z (A ac 0 F)) (is.length+1) aa)=au at *;have ay:=a7.setAt (at_+1);have ax:=q.setCell (p:=(A D 7 F)) (by show Bm<=D;omega) (U O (at_+1));clear a7 q;go_wp2;clear ag a3;go_loopw [75] (fun a5 wr=>a5=U O 0/\wr=au.setCell (A D 7 F) (U O (at_+1))) (fun a5 _=>0)
  case atStart=>exact⟨rfl,rfl⟩
  case round =>
   obtain⟨rfl,rfl⟩:=hrel;go_wp2
   go_end0
   exact⟨ax,.inr ⟨ziu z ae,rfl,_,ay⟩⟩
def onP {α:Type} (p:Bool) (x:α):List α:=if p then[x] else[]
def gK (ns:List ByteArray) (x:ByteArray) (n:Option Int) (a:Int):Option (Int × Int):=if kH ns x then Z (5,a)else if 20<=ns.length then Z (1,a)else vW n a
def uA (ns:List ByteArray) (x:ByteArray) (ps:List (ByteArray × Bool)) (a:Int):Option (Int × Int):=if kH ns x then Z (5,a)else if 20<=ns.length then Z (1,a)else if 5<ps.length then Z (1,a)else uB [] ps (a+1)
theorem zxs (d:ByteArray) (c b:Bool) (a:Option Int):InL (Kid.var d c b a).kids:=by
 cases a with
 | none=>unfold Kid.kids InL;trivial
 | some e=>unfold Kid.kids InL InL;exact⟨bB (.inr oA),trivial⟩
theorem rangeF_ok {a:Int} (c:∀b,d=Z b->1<=b/\b<=64):vW d a=F:=by
 cases d with
 | none=>rfl
 | some b=>have:=c b rfl;show(if b<1\/64<b then _ else _)=_;rw[ju oA]
theorem zsy {a:Int} (c:∃b,d=Z b/\(b<1\/64<b)):vW d a=Z (6,a):=by
 obtain⟨b,rfl,c⟩:=c;show(if b<1\/64<b then _ else _)=_;rw[jv c]
theorem yao {ns:List ByteArray} {a:Int} (b:kH ns c=H):gK ns c d a=Z (5,a):=by unfold gK;rw[jv b]
theorem yap {ns:List ByteArray} {a:Int} (b:kH ns c=X) (e:20<=ns.length):gK ns c d a=Z (1,a):=by unfold gK;rw[ju (by simp[b]),jv e]
theorem zqa {ns:List ByteArray} {a:Int} (b:kH ns c=X) (e:ns.length<20):gK ns c d a=vW d a:=by unfold gK;rw[ju (by simp[b]),ju oA]
theorem zyk {ns:List ByteArray} {ps:List (ByteArray × Bool)} {a:Int} (b:kH ns c=H):uA ns c ps a=Z (5,a):=by unfold uA;rw[jv b]
theorem zyl {ns:List ByteArray} {ps:List (ByteArray × Bool)} {a:Int} (b:kH ns c=X) (d:20<=ns.length):uA ns c ps a=Z (1,a):=by unfold uA;rw[ju (by simp[b]),jv d]
theorem zym {ns:List ByteArray} {ps:List (ByteArray × Bool)} {a:Int} (b:kH ns c=X) (e:ns.length<20) (d:5<ps.length):uA ns c ps a=Z (1,a):=by unfold uA;rw[ju (by simp[b]),ju oA,jv d]
theorem zyn {ns:List ByteArray} {ps:List (ByteArray × Bool)} {a:Int} (b:kH ns c=X) (d:ns.length<20) (e:ps.length<=5):uA ns c ps a=uB [] ps (a+1):=by unfold uA;rw[ju (by simp[b]),ju oA,ju oA]
theorem ycc {D Bm Bd:Nat} {mp:Option Nat} {vv pv iv:Zv} {o:ByteArray} {V:List VarD} {P:List (ProcD × Zv)} {is ms ns qs:List ByteArray} (d:ByteArray) (e h:Bool) (f:Option Int) (v:Zv) (w:Zw) (at_:Int) (t:Lies (·<Bm) w (Kid.var d e h f).tree v) (j:DI w D Bm Bd mp vv pv iv o V P is ms ns qs at_) (ap:0<=at_) (a3:at_+kC (Kid.var d e h f).tree<=1000000) (u:d.size<=16) (aH:ns.length<=20) (ay:V.length<=20) : Calls prog 40 #[Zp (Z (A D 0 F)),v] w (VR Bm w (gK ns d f at_) fun w'=>∃K,DI w' D Bm Bd mp K pv iv o (V++onP e (zY d e h f)) P is ms (ns++[d]) qs (at_+kC (Kid.var d e h f).tree)):=by
 have an:=kc25;have ah:=t;rw[Kid.tree_is]at t;unfold Lies at t;obtain⟨a,y,rfl,aD,G⟩:=t;have a2:=zxs d e h f;have T:kC (Kid.var d e h f).tree=1+kA (Kid.var d e h f).kids:=by rw[Kid.tree_is];unfold kC;omega
 rw[T]at a3 |-;have aG:=j.lm;have aA:=j.ld;have W:=j.dc.lt;have aV:=(dL j).2.1;have aF:∀g,vv.ownBlock=Z g->g<w.heap.size:=fun g l=>(j.fr.ov.lt _ l).2
 have ac:=zx5 d e h f _ (w.alloc (Zc #[U O (Kid.var d e h f).kind,I (Kid.var d e h f).text,U O (Kid.var d e h f).num,J a (Kid.var d e h f).kids.length y] 25)) (Lies.alloc' ah oA _) (j.below (bal _)) u aH ay w.heap.size oB W (fun l=>by have:=aF _ l;omega);simp only[Kid.kind,Kid.text]at *;have az:=kR (Kid.var d e h f).kids;generalize (Kid.var d e h f).num=m at *;generalize (Kid.var d e h f).kids=b at *;have B:Below Bm w (w.alloc (Zc #[U O 3,I d,U O m,J a b.length y] 25)):=(Below.refl _ _).alloc oA _;clear ah j;go_enter func40,ntmps40;go_wp2_with (fail);refine ac.mono ?_;rintro l aa ⟨r,(⟨s,rfl⟩|⟨s,aE,rfl⟩|⟨s,i,N,rfl⟩|⟨s,i,N,rfl,ag,K,n⟩)⟩;·go_wp2;exact⟨rfl,B.trans r,.inl ⟨_,yao s,rfl⟩⟩
 ·go_wp2;exact⟨rfl,B.trans r,.inl ⟨_,yap s aE,rfl⟩⟩
 ·go_wp2;exact⟨rfl,B.trans r,.inl ⟨_,(zqa s i).trans (zsy N),rfl⟩⟩
 have aT:aa.cell? (A w.heap.size 3 F)=Z (J a b.length y):=(jM (a:=(A w.heap.size 3 F)) ag.eq).trans oB;have ai:Hid (gK ns d f at_=F):=(zqa s i).trans (rangeF_ok N);replace n:DI aa D Bm Bd mp K pv iv o (V++onP e (zY d e h f)) P is ms (ns++[d]) qs at_:=n;have a6:=n.dc.c7;have a7:=n.dc.fz 7;have ae:=n.setAt (at_+1);have ad:=(B.trans r).setCell (p:=(A D 7 F)) (by show Bm<=D;omega) (U O (at_+1));clear n ac r B N ag;go_wp2;clear a6 a7 aT;go_loopw [75] (fun k wr=>∃c:Nat,c<=b.length/\k=U O c/\DI wr D Bm Bd mp K pv iv o (V++onP e (zY d e h f)) P is ms (ns++[d]) qs (at_+1+kA (b.take c))/\Below Bm w wr) (fun k _=>b.length - (intOf k).toNat)
 case atStart=>exact⟨0,jz _,rfl,by simpa[kA] using ae,ad⟩
 case round =>
  clear ae ad;obtain⟨c,aC,rfl,p,q⟩:=hrel;by_cases i:c<b.length
  ·obtain⟨z,aS,rfl,E,C⟩:=G (by intro l;rw[l]at i;simp at i);obtain⟨a5,ab,a8,Q,a9,R,aj,ak,am,ao,u⟩:=zdq C E q i;have aI:=xE b c i;have aJ:=xY b (c+1);have aK:=qU b[c];have aL:=kR (b.take c);have aM:=q.size;have L:=vIn b[c] _ (wr.alloc (Zc #[U O a5,I ab,U O a8,J Q a9 R] 25)) _ (Lies.alloc' u oA _) (zf7 a2 c i) (p.below (bal _)) oA oA;have aB:z<wr.heap.size:=by have:z<Bm:=E;omega
   rw[show at_+1+kA (b.take c)+kC b[c]=at_+1+kA (b.take (c+1)) by omega]at L;clear p u G C
   exact oz11x88
  ·rw[jG oA]at p;go_wp2
   go_end0
   exact⟨q,.inr ⟨ai.out,rfl,K,by rw[show at_+(1+kA b)=at_+1+kA b by omega];exact p⟩⟩
/-! of a procedure -/
theorem zul {ps:List (ByteArray × Bool)} {b:Nat} (d:b<ps.length) (a:Int) (e:Option (Int × Int)) (f:e=uB ((ps.take b).map (·.1)) (ps.drop b) a) : e=match vV ((ps.take b).map (·.1)) ps[b].1 5 a with | some c=>Z c | none=>uB ((ps.take (b+1)).map (·.1)) (ps.drop (b+1)) (a+1):=by
 rw[f,List.drop_eq_getElem_cons d];have c:(ps.take (b+1)).map (·.1)=(ps.take b).map (·.1)++[ps[b].1]:=by rw[List.take_succ_eq_append_getElem d,List.map_append];rfl
 rw[c];unfold vV;show(if _ then _ else _)=_;split;·rfl
 ·split<;>rfl
theorem zjo:∀(ps:List (ByteArray × Bool)),kA (ps.map zO)=ps.length
 | []=>rfl
 | q :: r=>by
  show kC (zO q)+kA (r.map zO)=((r.length+1:Nat):Int)
  rw[zjo r];show kA []+1+(r.length:Int)=_;unfold kA;omega
theorem zi3 (ps:List (ByteArray × Bool)) (b:Tree) (a:Nat) (c:a<=ps.length):kA ((ps.map zO++[b]).take a)=a:=by
 rw[List.take_append_of_le_length (by simpa using c),<- List.map_take,zjo,List.length_take];omega
theorem ybr {D Bm Bd:Nat} {mp:Option Nat} {vv pv iv:Zv} {a9:ByteArray} {V:List VarD} {P:List (ProcD × Zv)} {is ms ns qs:List ByteArray} (g:ByteArray) (e k:Bool) (n:Option Bool) (ps:List (ByteArray × Bool)) (h:Tree) (v:Zv) (w:Zw) (at_:Int) (N:Lies (·<Bm) w (Kid.proc g e k n ps h).tree v) (r:DI w D Bm Bd mp vv pv iv a9 V P is ms ns qs at_) (d2:0<=at_) (ce:at_+kC (Kid.proc g e k n ps h).tree<=1000000) (aL:(Kid.proc g e k n ps h).good) (cg:ns.length<=20) (bX:P.length<=20) (aP:ps.length<=1000) : Calls prog 40 #[Zp (Z (A D 0 F)),v] w (VR Bm w (uA ns g ps at_) fun w'=>∃an C o aa,DI w' D Bm Bd (Z an) vv C iv a9 V o is ms (ns++[g]) aa (at_+kC (Kid.proc g e k n ps h).tree)/\o.map (·.1)=P.map (·.1)++onP e (kO g e k n ps)):=by
 have bH:=kc25;obtain⟨y,ci,b6⟩:=aL;have bo:=N;rw[Kid.tree_is]at N;unfold Lies at N;obtain⟨a,u,rfl,cc,a8⟩:=N;have bZ:kC (Kid.proc g e k n ps h).tree=1+kA (Kid.proc g e k n ps h).kids:=by rw[Kid.tree_is];unfold kC;omega
 rw[bZ]at ce |-;have cf:=r.lm;have c8:=r.ld;have be:=r.dc.lt;have cd:∀Q,pv.ownBlock=Z Q->Q<w.heap.size:=fun Q i=>(r.fr.op.lt _ i).2
 have aY:=zwe g e k n ps h _ (w.alloc (Zc #[U O (Kid.proc g e k n ps h).kind,I (Kid.proc g e k n ps h).text,U O (Kid.proc g e k n ps h).num,J a (Kid.proc g e k n ps h).kids.length u] 25)) (Lies.alloc' bo oA _) (r.below (bal _)) y cg bX aP b6 w.heap.size oB be (fun i=>by have:=cd _ i;omega);have aN:(Kid.proc g e k n ps h).kids=ps.map zO++[h]:=rfl;simp only[Kid.kind,Kid.text]at *;have d3:=kR (Kid.proc g e k n ps h).kids;generalize (Kid.proc g e k n ps h).num=m at *;generalize (Kid.proc g e k n ps h).kids=f at *;have bf:f.length=ps.length+1:=by rw[aN];simp
 have ai:Hid (f=ps.map zO++[h]):=aN;have aW:Hid (f.length=ps.length+1):=bf;have ad:Below Bm w (w.alloc (Zc #[U O 4,I g,U O m,J a f.length u] 25)):=(Below.refl _ _).alloc oA _;clear bo r aN bf;go_enter func40,ntmps40;go_wp2_with (fail);refine aY.mono ?_;rintro i bq ⟨a2,(⟨x,rfl⟩|⟨x,aO,rfl⟩|⟨x,q,aQ,rfl⟩|⟨x,q,aQ,rfl,bg,an,C,o,s,b9⟩)⟩;·go_wp2;exact⟨rfl,ad.trans a2,.inl ⟨_,zyk x,rfl⟩⟩
 ·go_wp2;exact⟨rfl,ad.trans a2,.inl ⟨_,zyl x aO,rfl⟩⟩
 ·go_wp2;exact⟨rfl,ad.trans a2,.inl ⟨_,zym x q aQ,rfl⟩⟩
 have aT:bq.cell? (A w.heap.size 3 F)=Z (J a f.length u):=(jM (a:=(A w.heap.size 3 F)) bg.eq).trans oB;have l:Hid (uA ns g ps at_=uB [] ps (at_+1)):=zyn x q aQ;have bv:Hid (o.map (·.1)=P.map (·.1)++onP e (kO g e k n ps)):=b9
 have aR:=s.dc.c7;have cp:=s.dc.fz 7;have z:=s.setAt (at_+1);have ae:=(ad.trans a2).setCell (p:=(A D 7 F)) (by show Bm<=D;omega) (U O (at_+1));clear s aY a2 ad bg b9;obtain⟨R,a6⟩:∃R,Hid (uA ns g ps at_=R):=⟨_,rfl⟩
 replace l:Hid (R=uB [] ps (at_+1)):=a6.out.symm.trans l.out;go_wp2;clear aR cp aT;go_loopw [75] (fun a5 wr=>∃b:Nat,b<=f.length/\a5=U O b/\DI wr D Bm Bd (Z an) vv C iv a9 V o is ms (ns++[g]) ((ps.take b).map (·.1)) (at_+1+kA (f.take b))/\Below Bm w wr/\Hid (R=uB ((ps.take b).map (·.1)) (ps.drop b) (at_+1+b))) (fun a5 _=>f.length - (intOf a5).toNat)
 case atStart=>exact⟨0,jz _,rfl,by simpa[kA] using z,ae,by show _=_;rw[l.out];simp⟩
 case round =>
  clear z ae l;obtain⟨b,ca,rfl,j,p,l⟩:=hrel;by_cases q:b<f.length
  ·obtain⟨ac,aS,rfl,B,a7⟩:=a8 (by intro i;rw[i]at q;simp at q);obtain⟨ay,aE,az,ak,aB,ao,bE,bF,bG,bN,y⟩:=zdq a7 B p q;have av:=xE f b q;have bm:=xY f (b+1);have aw:=qU f[b];have bn:=kR (f.take b);have ck:=p.size;have c9:ac<wr.heap.size:=by have:ac<Bm:=B;omega
   have L:=aW.out;by_cases au:b<ps.length
   ·have aM:f[b]=.node 5 ps[b].1 (bI ps[b].2) []:=by simp only[ai.out];rw[List.getElem_append_left (by simpa using au)];simp[zO]
    have bh:kA (f.take b)=b:=by rw[ai.out];exact zi3 ps h b oA
    have bi:kA (f.take (b+1))=b+1:=by rw[ai.out,zi3 ps h (b+1) oA];omega
    rw[aM]at y;rw[bh]at j;have E:=ycb ps[b].1 _ _ (wr.alloc (Zc #[U O ay,I aE,U O az,J ak aB ao] 25)) _ (Lies.alloc' y oA _) (j.below (bal _)) oA oA (ci _ (jH au)) oE;have HS:=zul au (at_+1+b) R l.out;have aH:Hid ((ps.take (b+1)).map (·.1)=(ps.take b).map (·.1)++[ps[b].1]):=by show _=_;rw[List.take_succ_eq_append_getElem au,List.map_append];rfl
    have ah:Hid (kA (f.take (b+1))=b+1):=bi;clear j y a8 a7 L bh bi l;generalize ps[b].1=d1 at *;generalize vV ((ps.take b).map (·.1)) d1 5 (at_+1+b)=aF at *
    cases aF with
    | some aC =>
     have t:Hid (R=Z aC):=HS;clear HS
     exact oz11x87
    | none =>
     have t:Hid (R=uB ((ps.take (b+1)).map (·.1)) (ps.drop (b+1)) (at_+1+b+1)):=HS
     clear HS;go_wp2_with (fail);refine E.mono ?_;rintro i w2 ⟨af,(⟨bp,T,_⟩|⟨_,rfl,z⟩)⟩;·cases T
     go_wp2;go_roundw
     case rel=>exact⟨b+1,oA,oJ,by rw[ah.out,aH.out,show at_+1+((b:Int)+1)=at_+1+b+1 by omega];exact z,(p.alloc oA _).trans af,by show _=_;rw[t.out];congr 1;omega⟩
     case measure=>simp[intOf];omega
   ·have cb:b=ps.length:=oA;have aM:f[b]=h:=by simp only[ai.out];rw[List.getElem_append_right oE];simp
    rw[aM]at y av aw;have E:=vIn h _ (wr.alloc (Zc #[U O ay,I aE,U O az,J ak aB ao] 25)) _ (Lies.alloc' y oA _) b6 (j.below (bal _)) oA oA;rw[show at_+1+kA (f.take b)+kC h=at_+1+kA (f.take (b+1)) by omega,show ps.take b=ps.take (b+1) by rw[jG oA,jG oA]]at E
    have t:Hid (R=uB ((ps.take (b+1)).map (·.1)) (ps.drop (b+1)) (at_+1+((b+1:Nat):Int))):=by
     show _=_;rw[l.out,List.drop_eq_nil_of_le oA,List.drop_eq_nil_of_le oA];rfl
    clear j y a8 a7 L l cb;go_wp2_with (go_at_call 40;refine E.mono ?_;rintro i bq ⟨rfl,a2,s⟩);go_roundw
    case rel=>exact⟨b+1,oA,oJ,s,(p.alloc oA _).trans a2,t⟩
    case measure=>simp[intOf];omega
  ·have L:=aW.out
   have t:Hid (R=F):=by
    show _=_;rw[l.out,List.drop_eq_nil_of_le oA];rfl
   rw[jG (l:=f) oA]at j;clear L;go_wp2
   go_end0
   exact⟨p,.inr ⟨a6.out.trans t.out,rfl,an,C,o,_,by rw[show at_+(1+kA f)=at_+1+kA f by omega];exact j,bv.out⟩⟩
def zaj:Kid->List ByteArray->List ByteArray->Int->Option (Int × Int)
 | .imp x,ms,_,a=>vV ms x 6 a
 | .var x _ _ n,_,ns,a=>gK ns x n a
 | .proc x _ _ _ ps _,_,ns,a=>uA ns x ps a
def qG:List Kid->List ByteArray
 | []=>[]
 | .imp _ :: r=>qG r
 | .var x _ _ _ :: r=>x :: qG r
 | .proc x _ _ _ _ _ :: r=>x :: qG r
theorem cO:∀(a b:List Kid),qG (a++b)=qG a++qG b
 | [],b=>rfl
 | .imp x :: r,b=>cO r b
 | .var x _ _ _ :: r,b=>by show x :: qG (r++b)=x :: (qG r++qG b);rw[cO r b]
 | .proc x _ _ _ _ _ :: r,b=>by show x :: qG (r++b)=x :: (qG r++qG b);rw[cO r b]
theorem zcl (all:Bool):∀a:List Kid,(kI all a).length<=(qG a).length
 | []=>jE _
 | .imp _ :: r=>zcl all r
 | .var x p l n :: r=>by
  have:=zcl all r;show(if all||p then zY x p l n :: kI all r else kI all r).length<=(qG r).length+1;split;·simp;omega
  ·omega
 | .proc _ _ _ _ _ _ :: r=>jp (zcl all r) (Nat.le_succ _)
theorem zca (all:Bool):∀a:List Kid,(kL all a).length<=(qG a).length
 | []=>jE _
 | .imp _ :: r=>zca all r
 | .var _ _ _ _ :: r=>jp (zca all r) (Nat.le_succ _)
 | .proc x p l g ps b :: r=>by
  have:=zca all r;show(if all||p then kO x p l g ps :: kL all r else kL all r).length<=(qG r).length+1;split;·simp;omega
  ·omega
theorem zso (c:Kid) (e:List Kid) (ms ns:List ByteArray) (a:Int):zW (c :: e) ms ns a=match zaj c ms ns a with | some b=>Z b | none=>zW e (ms++qF [c]) (ns++qG [c]) (a+kC c.tree):=by
 cases c with
 | imp d =>
  have b:kC (Kid.imp d).tree=1:=by unfold Kid.tree kC kA;rfl
  rw[b];show(if _ then _ else if _ then _ else _)=match(if _ then _ else if _ then _ else _:Option (Int × Int))with | some b=>Z b | none=>zW e (ms++[d]) (ns++[]) (a+1)
  rw[List.append_nil];split;·rfl
  ·split<;>rfl
 | var d h f g =>
  show(if _ then _ else if _ then _ else _)=match(if _ then _ else if _ then _ else _:Option (Int × Int))with | some b=>Z b | none=>zW e (ms++[]) (ns++[d]) _
  rw[List.append_nil];split;·rfl
  ·split;·rfl
   ·cases vW g a<;>rfl
 | proc d h f j ps i =>
  show(if _ then _ else if _ then _ else if _ then _ else _)=match(if _ then _ else if _ then _ else if _ then _ else _:Option (Int × Int))with | some b=>Z b | none=>zW e (ms++[]) (ns++[d]) _
  rw[List.append_nil];split;·rfl
  ·split;·rfl
   ·split;·rfl
    ·cases uB [] ps (a+1)<;>rfl
theorem zrm {kD:Nat} {a:Int} (b:vV f c kD a=F):f.length<kD:=by
 unfold vV at b;split at b;·cases b
 ·split at b;·cases b
  ·omega
theorem zvy {d:Kid} {ms ns:List ByteArray} {a:Int} (e:zaj d ms ns a=F) (l:ms.length<=6) (m:ns.length<=20):(ms++qF [d]).length<=6/\(ns++qG [d]).length<=20:=by
 cases d with
 | imp c =>
  have:=zrm e;show(ms++[c]).length<=6/\(ns++[]).length<=20
  simp;omega
 | var c i g h =>
  have f:ns.length<20:=by
   have b:gK ns c h a=F:=e;unfold gK at b;split at b;·cases b
   ·split at b;·cases b
    ·omega
  show(ms++[]).length<=6/\(ns++[c]).length<=20
  simp;omega
 | proc c i g k ps j =>
  have f:ns.length<20:=by
   have b:uA ns c ps a=F:=e;unfold uA at b;split at b;·cases b
   ·split at b;·cases b
    ·omega
  show(ms++[]).length<=6/\(ns++[c]).length<=20;simp;omega
theorem VR.mono {Bm:Nat} {w:Zw} {f:Option (Int × Int)} {b c:Zw->Prop} {d:Ending} {w':Zw} (e:VR Bm w f b d w') (i:b w'->c w'):VR Bm w f c d w' :=
 ⟨e.1,e.2.imp id (fun ⟨a,g,h⟩=>⟨a,g,i h⟩)⟩
theorem yb9 {D Bm Bd:Nat} {mp:Option Nat} {vv pv iv:Zv} {V:List VarD} {P:List (ProcD × Zv)} {is ms ns qs:List ByteArray} (b:Kid) (v:Zv) (w:Zw) (at_:Int) (u:Lies (·<Bm) w b.tree v) (q:DI w D Bm Bd mp vv pv iv c V P is ms ns qs at_) (r:0<=at_) (t:at_+kC b.tree<=1000000) (s:b.good) (G:is.length<=6) (K:ms.length<=6) (z:ns.length<=20) (E:V.length<=20) (B:P.length<=20) (M:b.kids.length<=1000) : Calls prog 40 #[Zp (Z (A D 0 F)),v] w (VR Bm w (zaj b ms ns at_) fun w'=>∃L m k j e l,DI w' D Bm Bd L m k j c (V++kI X [b]) e (is++qF [b]) (ms++qF [b]) (ns++qG [b]) l (at_+kC b.tree)/\e.map (·.1)=P.map (·.1)++kL X [b]):=by
 cases b with
 | imp a =>
  have h:kC (Kid.imp a).tree=1:=by unfold Kid.tree kC kA;rfl
  rw[h]at t |-;refine(yb8 a 0 v w at_ u q r oA s K G).mono ?_;intro h w' g;refine g.mono ?_;rintro⟨j,f⟩;refine⟨mp,vv,pv,j,P,qs,?_,by show _=_++[];simp⟩;show DI w' D Bm Bd mp vv pv j c (V++[]) P (is++[a]) (ms++[a]) (ns++[]) qs (at_+1);rw[List.append_nil,List.append_nil]
  exact f
 | var a p d x =>
  refine(ycc a p d x v w at_ u q r t s z E).mono ?_;intro h w' g;refine g.mono ?_;rintro⟨m,f⟩;refine⟨mp,m,pv,iv,P,qs,?_,by show _=_++[];simp⟩;have o:kI X [Kid.var a p d x]=onP p (zY a p d x):=by show(if X||p then _ else _)=_;cases p<;>rfl
  rw[o];show DI w' D Bm Bd mp m pv iv c _ P (is++[]) (ms++[]) (ns++[a]) qs _;rw[List.append_nil,List.append_nil]
  exact f
 | proc a p d i ps n =>
  refine(ybr a p d i ps n v w at_ u q r t s z B (by have:(Kid.proc a p d i ps n).kids.length=ps.length+1:=(by simp[Kid.kids]);omega)).mono ?_;intro h w' g;refine g.mono ?_;rintro⟨y,k,e,l,f,C⟩;refine⟨Z y,vv,k,iv,e,l,?_,?_⟩;·show DI w' D Bm Bd (Z y) vv k iv c (V++[]) e (is++[]) (ms++[]) (ns++[a]) l _;rw[List.append_nil,List.append_nil,List.append_nil];exact f
  ·have o:kL X [Kid.proc a p d i ps n]=onP p (kO a p d i ps):=by show(if X||p then _ else _)=_;cases p<;>rfl
   rw[o];exact C
theorem yca {D Bm Bd:Nat} {mp:Option Nat} {vv pv iv:Zv} {a9:ByteArray} {qs:List ByteArray} (m:ByteArray) (c:List Kid) (v:Zv) (w:Zw) (N:Lies (·<Bm) w (.node 1 m 0 (c.map Kid.tree)) v) (r:DI w D Bm Bd mp vv pv iv a9 [] [] [] [] [] qs 0) (d4:m.size<=16) (aL:∀Q∈c,Q.good) (c6:kA (c.map Kid.tree)<=1000) (aP:∀Q∈c,Q.kids.length<=1000) : Calls prog 40 #[Zp (Z (A D 0 F)),v] w (VR Bm w (zW c [m] [] 1) fun w'=>∃aA aD C ax o cu cv aa bD,DI w' D Bm Bd aA aD C ax m (kI X c) o (qF c) cu cv aa bD/\o.map (·.1)=kL X c/\(qG c).length<=20/\(qF c).length<=6):=by
 unfold Lies at N;obtain⟨d,ap⟩:∃d,c.map Kid.tree=d:=⟨_,rfl⟩
 rw[ap]at N c6;have aH:Hid (c.map Kid.tree=d):=ap;have aV:Hid (d.length=c.length):=by show _=_;rw[<- ap];simp
 clear ap;obtain⟨a,u,rfl,cc,a8⟩:=N;have bH:=kc25;have cf:=r.lm;have c8:=r.ld;have be:=r.dc.lt;have b1:=r.below (bal (Zc #[U O 1,I m,U O 0,J a d.length u] 25));have j:DI (w.alloc (Zc #[U O 1,I m,U O 0,J a d.length u] 25)).drew D Bm Bd mp vv pv iv a9 [] [] [] [] [] qs 0:=b1.below ⟨rfl,rfl,rfl,jE _,fun _ _=>rfl⟩;clear b1;have W:Q4 w.heap.size (U O 1) (I m) (U O 0) (J a d.length u) (w.alloc (Zc #[U O 1,I m,U O 0,J a d.length u] 25)).drew:=⟨oB,oB,oB,oB⟩
 have p:Below w.heap.size w (w.alloc (Zc #[U O 1,I m,U O 0,J a d.length u] 25)).drew:=(bal _).drew;have G:(w.alloc (Zc #[U O 1,I m,U O 0,J a d.length u] 25)).drew.cell? (A D 4 F)=Z (.map (Z Bm))/\(w.alloc (Zc #[U O 1,I m,U O 0,J a d.length u] 25)).drew.cell? (A w.heap.size 1 F)=Z (I m):=⟨j.dc.c4,W.2.1⟩
 go_enter func40,ntmps40;go_wp2;refine wp_region_held_drew (S:=fun aj=>aj.cell? (A D 4 F)=Z (.map (Z Bm))/\aj.cell? (A w.heap.size 1 F)=Z (I m)) oD G (fun aI=>?_);clear aI;generalize (w.alloc (Zc #[U O 1,I m,U O 0,J a d.length u] 25)).drew=aj at *;refine tkP 0 (Zp (Z (A D 0 F))) G ?_;simp only[Act.put,jA,jB,jC];refine tkP 1 (Zp (Z (A D 0 F))) G ?_;simp only[Act.put,jA,jB,jC];refine tkP 2 (Zp (Z (A D 0 F))) G ?_;simp only[Act.put,jA,jB,jC];refine tkP 3 (Zp (Z (A D 4 F))) G ?_;simp only[Act.put,jA,jB,jC];refine tkP 4 (.map (Z Bm)) G ?_;simp only[Act.put,jA,jB,jC];refine tkP 5 (Zp (Z (A w.heap.size 1 F))) G ?_;simp only[Act.put,jA,jB,jC];refine tkP 6 (I m) G ?_;simp only[Act.put,jA,jB,jC];refine oneH 7 fun bw b7=>?_
 go_simp;go_at_call 68;refine(zbr D Bm [] m 6 0 aj j.dc.c7 j.om j.am oA oA oB).mono ?_;rintro i bz (⟨x,rfl,bY⟩|⟨x,aO,rfl,bY⟩|⟨x,q,rfl,bj,bc,B⟩);·exact absurd x (by simp[kH])
 ·exact absurd aO oB
 have s:=j.enterM bj bc B;rw[js]at s;go_wp2;replace W:=Q4.grown W B oE;have aZ:Below Bm w bz:=(p.mono oA).grown B (by have:=p.size;omega) (fun Q i=>by cases i;omega);clear p bj bc B j;refine b7.out _ _ ⟨s.dc.c4,W.2.1⟩ (fun aI=>?_);clear b7 bw aI;refine wpAnyH_done oD ?_ _;obtain⟨cx,cy,cz,aT⟩:=id W;have co:=s.dc.c0;have cq:=s.dc.fz 0;have z:=s.setModule m;have ae:=aZ.setCell (p:=(A D 0 F)) (by show Bm<=D;omega) (I m);have aK:=Q4.other (M:=D) (o:=0) oA W (I m);have aR:=z.dc.c7;have cr:=z.dc.fz 7;have cA:=aK.2.2.2;have b2:=z.setAt 1;have b0:=ae.setCell (p:=(A D 7 F)) (by show Bm<=D;omega) (U O 1);have cj:=(Q4.other (M:=D) (o:=7) oA aK (U O 1)).2.2.2;clear s aZ W z ae aK x q r;go_wp2;clear aR cr co cq cx cy cz aT cA cj;obtain⟨R,a6⟩:∃R,Hid (zW c [m] [] 1=R):=⟨_,rfl⟩
 have l:Hid (R=zW c [m] [] 1):=a6.out.symm;go_loopw [75] (fun a5 wr=>∃(b:Nat) (aA:Option Nat) (aD C ax:Zv) (o:List (ProcD × Zv)) (aa:List ByteArray),b<=d.length/\a5=U O b/\DI wr D Bm Bd aA aD C ax m (kI X (c.take b)) o (qF (c.take b)) (m :: qF (c.take b)) (qG (c.take b)) aa (1+kA (d.take b))/\Below Bm w wr/\Hid (o.map (·.1)=kL X (c.take b))/\Hid (R=zW (c.drop b) (m :: qF (c.take b)) (qG (c.take b)) (1+kA (d.take b)))/\Hid ((m :: qF (c.take b)).length<=6/\(qG (c.take b)).length<=20)) (fun a5 _=>d.length - (intOf a5).toNat)
 case atStart=>exact⟨0,mp,vv,pv,iv,[],qs,jz _,rfl,by simpa[kA,kI,qF,qG] using b2,b0,by show _=_;rfl,by show _=_;rw[l.out];rfl,by show _/\_;simp[qF,qG]⟩
 case round =>
  clear b2 b0 l;obtain⟨b,aA,aD,C,ax,o,aa,ca,rfl,j,p,HP,l,ab⟩:=hrel;by_cases q:b<d.length
  ·obtain⟨ac,aS,rfl,B,a7⟩:=a8 (by intro i;rw[i]at q;simp at q);obtain⟨ay,aE,az,ak,aB,ao,bE,bF,bG,bN,y⟩:=zdq a7 B p q;have av:=xE d b q;have bm:=xY d (b+1);have aw:=qU d[b];have bn:=kR (d.take b);have ck:=p.size;have c9:ac<wr.heap.size:=by have:ac<Bm:=B;omega
   have L:=aV.out;have ar:b<c.length:=oA;have bb:d[b]=c[b].tree:=by simp only[<- aH.out];simp
   have K:=ab.out.1;have a3:=ab.out.2;rw[bb]at y av aw;have cm:=zcl X (c.take b);have ch:=zca X (c.take b);have ba:o.length<=20:=by have:=congrArg List.length HP.out;rw[List.length_map]at this;omega
   have E:=yb9 c[b] _ (wr.alloc (Zc #[U O ay,I aE,U O az,J ak aB ao] 25)) _ (Lies.alloc' y oA _) (j.below (bal _)) oA oA (aL _ (jH ar)) (by simp at K;omega) K a3 oA ba (aP _ (jH ar))
   have HS:Hid (R=match zaj c[b] (m :: qF (c.take b)) (qG (c.take b)) (1+kA (d.take b))with | some i=>Z i | none=>zW (c.drop (b+1)) (m :: qF (c.take b)++qF [c[b]]) (qG (c.take b)++qG [c[b]]) (1+kA (d.take b)+kC c[b].tree)):=by
    show _=_;rw[l.out,List.drop_eq_getElem_cons ar,zso]
   have aU:Hid (∀i,zaj c[b] (m :: qF (c.take b)) (qG (c.take b)) (1+kA (d.take b))=i->i=F->(m :: qF (c.take b)++qF [c[b]]).length<=6/\(qG (c.take b)++qG [c[b]]).length<=20):=fun i bP bR=>zvy (bP.trans bR) K a3
   have ag:Hid (c.take (b+1)=c.take b++[c[b]]):=List.take_succ_eq_append_getElem ar;have ah:Hid (1+kA (d.take b)+kC c[b].tree=1+kA (d.take (b+1))):=by show _=_;omega
   rw[ah.out]at E;rw[ah.out]at HS;clear j y a8 a7 L av bm aw bn cm ch ba K a3 l ab bb;generalize bS:zaj c[b] (m :: qF (c.take b)) (qG (c.take b)) (1+kA (d.take b))=aF at *;have aG:=aU.out _ rfl;clear aU bS
   cases aF with
   | some aC =>
    have t:Hid (R=Z aC):=HS.out;clear HS aG
    exact oz11x87
   | none =>
    have t:Hid (R=zW (c.drop (b+1)) (m :: qF (c.take b)++qF [c[b]]) (qG (c.take b)++qG [c[b]]) (1+kA (d.take (b+1)))):=HS.out;have br:Hid ((m :: qF (c.take b)++qF [c[b]]).length<=6/\(qG (c.take b)++qG [c[b]]).length<=20):=aG rfl;clear HS aG;go_wp2_with (fail);refine E.mono ?_;rintro i w2 ⟨af,(⟨bp,T,_⟩|⟨_,rfl,ct,d0,cw,cn,aX,cB,z,b8⟩)⟩;·cases T
    have bu:Hid (aX.map (·.1)=o.map (·.1)++kL X [c[b]]):=b8
    clear b8;go_wp2;go_roundw
    case rel =>
     refine⟨b+1,ct,d0,cw,cn,aX,cB,oA,oJ,?_,(p.alloc oA _).trans af,?_,?_,?_⟩;·rw[ag.out,fU,cN,cO];exact z
     ·show _=_;rw[bu.out,HP.out,ag.out,fT]
     ·show _=_;rw[t.out,ag.out,cN,cO];rfl
     ·rw[ag.out,cN,cO];exact br
    case measure=>simp[intOf];omega
  ·have L:=aV.out
   have t:Hid (R=F):=by
    show _=_;rw[l.out,List.drop_eq_nil_of_le oA];rfl
   have K:=ab.out.1;have a3:=ab.out.2;have aJ:=HP.out;rw[jG (l:=c) oA]at j K a3 aJ;have bs:Hid (o.map (·.1)=kL X c/\(qG c).length<=20/\(qF c).length<=6):=⟨aJ,a3,by simp at K;omega⟩
   clear L K a3 aJ;go_wp2
   go_end0
   exact⟨p,.inr ⟨a6.out.trans t.out,rfl,_,_,_,_,_,_,_,_,_,j,bs.out⟩⟩
end face
namespace face
open Go.RowKit
open syn
def yar (w:Zw) (f:FaceD) (l:List ByteArray) (c a:Int) (e:Ending) (w':Zw):Prop :=
 ∃fv lv,e=.returned (.tuple #[fv,lv,Za #[U O c,U O a]])/\qX w' fv f/\uU w' lv l/\Below w.heap.size w w'
def uJ:FaceD:=⟨⟨#[]⟩,[],[]⟩
theorem zt4 (w:Zw):qX w (Za #[I ⟨#[]⟩,J F 0 0,J F 0 0]) uJ :=
 ⟨_,_,rfl,⟨F,0,rfl,by simp[uJ],fun a=>absurd rfl a⟩,⟨F,0,rfl,by simp[uJ],fun a=>absurd rfl a⟩⟩
theorem zt5 (w:Zw):uU w (J F 0 0) []:=⟨F,0,rfl,oB,fun a=>absurd rfl a⟩
theorem zb7 {g:Nat->Prop} {w:Zw} {f:Tree} {v:Zv} (b:Lies g w f v):∃d e m a i c,v=Za #[U O d,I e,U O m,J a i c]:=by
 match f,b with
 | .node d e m ks,b =>
  unfold Lies at b;obtain⟨a,c,h,_⟩:=b;exact⟨d,e,m,a,_,c,h⟩
theorem ztz {h:Nat} {w:Zw} {m:ByteArray} {b:List Kid} {v:Zv} (i:Lies (fun d=>h<=d/\d<w.heap.size) w (.node 1 m 0 (b.map Kid.tree)) v) : ∃a c,v=Za #[U O 1,I m,U O 0,J a b.length c]/\Lies (·<w.heap.size) w (.node 1 m 0 (b.map Kid.tree)) (Za #[U O 1,I m,U O 0,J a b.length c]):=by
 have f:=i.to (Q:=(·<w.heap.size)) (w':=w) (fun d j=>j.2) (fun _ _ _=>rfl)
 have g:=f;unfold Lies at g;obtain⟨a,c,e,_,_⟩:=g;rw[List.length_map]at e;subst e;exact⟨a,c,rfl,f⟩
end face
end Go.Proofs.YtjkcecppnmlhjaaGreatDoor
