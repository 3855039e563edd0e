/- What the program's choice answers, once those that it calls do: a contract; and all that read statements. -/
import Derived.Test.YtjkcecppnmlhjaaGreatDoorNQr
import Derived.Test.YtjkcecppnmlhjaaGreatDoorNQ04
open Go.Proofs.Tryz
open Go.Value renaming int → U, string → I, slice → J, bool → Y, agg → Za, pointer → Zp
open Go.IntKind renaming i64 → O
open Go.Obj renaming cells → Zc
open Go.Addr renaming mk → A
open Option renaming none → F, some → Z
open Bool renaming false → X, true → H
open Go renaming World → Zw, Value → Zv
set_option maxHeartbeats 4000000
set_option linter.unusedVariables false
set_option linter.unusedSimpArgs false
set_option maxRecDepth 100000
namespace Go.Proofs.YtjkcecppnmlhjaaGreatDoor
theorem oz05x33 {g:Prop} (e:g:=by
 go_wp2_with (fail);refine(zcf d).mono ?_;rintro h aH (⟨x,rfl,m⟩|⟨x,rfl,ad,m⟩)
 ·have HS:Hid (q.2=(whole ts s).2):=by
   rw[zH oC x,ju oC]at b;exact(stuck ts (a+1)).p _ _ _ x b
  go_wp2;exact⟨rfl,kG.lost HS.out x (((Fr.al _ _).trans c).trans m)⟩
 have aI:=m.size;cases z:eqS (txt ts (whole ts s).2) ⟨#[40]⟩
 case true =>
  rw[z,jv rfl]at b;have K:=cX z;obtain⟨g,ae,rfl⟩:=zh7 (by rw[K];exact x) b;rw[K]at ae;clear K;go_wp2_with (fail);refine(yQ ad ⟨#[40]⟩ oC z rfl).mono ?_;rintro h ax ⟨rfl,N,n⟩;have aC:=n.size;go_wp2_with (fail);refine(zqj ih ah _ N ae).mono ?_;exact oz05x36
 case false =>
  rw[z,ju oC]at b;go_wp2_with (fail);refine(yM ad ⟨#[40]⟩ oC z rfl).mono ?_;rintro h ax ⟨rfl,N,n⟩;have aC:=n.size;go_wp2_with (fail);refine(zps (ih (jE _)) _ N b).mono ?_
  exact oz05x36):g:=e
theorem oz05x36 {g:Prop} (e:g:=by
 rintro h ay (⟨j,rfl,f⟩|⟨j,aw,rfl,y,P,f⟩);·go_wp2;exact⟨rfl,kG.lost rfl j (((((Fr.al _ _).trans c).trans m).trans n).trans f)⟩
 obtain⟨R,a7,S,_,rfl,D,V,E,rfl⟩:=y.shape;obtain⟨W,a2,a3,a5,ao,ap,ar,au⟩:=(((ab.fr c oA).fr m oA).fr n oA).fr f oA;go_wp2
 exact jT (v:=Za #[U O R,I a7,U O S,J D V E]) (by simp[results,results182,go_sem,W,a2,a3,a5]) rfl (kG.hand af ((((Fr.al _ _).trans c).trans m).trans n) oA j y P f)):g:=e
theorem oz05x37 {g:Prop} (e:g:=by
 rintro h ay (⟨j,rfl,f⟩|⟨j,aw,rfl,y,P,f⟩);·go_wp2;exact⟨rfl,kG.lost rfl j (((Fr.al _ _).trans c).trans f)⟩
 obtain⟨R,a7,S,_,rfl,D,V,E,rfl⟩:=y.shape;obtain⟨W,a2,a3,a5,ao,ap,ar,au⟩:=(ab.fr c oA).fr f oA;go_wp2
 exact jT (v:=Za #[U O R,I a7,U O S,J D V E]) (by simp[results,results182,go_sem,W,a2,a3,a5]) rfl (kG.hand af ((Fr.al _ _).trans c) oA j y P f)):g:=e
theorem oz05y56 {j:Prop} (B:j:=by
 simp[results,results175,go_sem,t,u,x,y,W,empty]):j:=B
theorem oz05x40 {j:Prop} (B:j:=by
 have ad:=(n.fr (show w.heap.size<z.heap.size by omega) V).low (show w.heap.size<=z.heap.size by omega)
 exact .inr ⟨g,_,rfl,ad.rowed oE oB,(R.put4 oA _ _ _ _).alloc _,((((Fr.al _ _).trans b).trans c).put4 (jE _) _ _ _ _).alloc _⟩):j:=B
theorem oz05x48 {D:Prop} (t:D:=by
 exact⟨rfl,kG.lost (ah.out z) z ((((Fr.al _ _).trans d).trans f).trans ((Fr.al _ _).trans e))⟩):D:=t
theorem oz05x45 {D:Prop} (t:D:=by
 go_simp;go_at_call 155;refine(ih.lost (N.drewN 1) x a9).mono ?_;rintro l b ⟨rfl,g⟩;go_wp2
 exact⟨rfl,kG.lost rfl a9 ((L.drewN 1).trans g)⟩):D:=t
theorem oz05y57 {k:Prop} (n:k:=by
 simp[results,results140,go_sem,W,a2,P,a3,empty]):k:=n
theorem oz05x35 {k:Prop} (n:k:=by
 rintro f o (⟨m,rfl,b⟩|⟨m,am,rfl,p,K,b⟩);·go_wp2;exact oz05x51
 obtain⟨L,z,N,_,rfl,a5,aa,E,rfl⟩:=p.shape;have an:=b.size;go_wp2_with (fail);refine(gC K _ _ _ _ _ _).mono ?_;rintro f ax (⟨B,rfl,g⟩|⟨B,rfl,Q,g⟩);·go_wp2;exact⟨rfl,kG.lost rfl B ((((Fr.al _ _).trans a).trans b).trans g)⟩
 obtain⟨W,a2,P,a3,ah,ai,aj,ak⟩:=((a6.fr a oA).fr b oA).fr g oA;go_wp2
 exact jT (v:=Za #[U O L,I z,U O N,J a5 aa E]) (by simp[results,results140,go_sem,W,a2,P,a3,empty]) rfl (kG.fin ad ((((Fr.al _ _).trans a).trans b).trans g) Q (jE _) (show w.heap.size<y.heap.size by omega) ((p).fr oA g))):k:=n
theorem oz05x42 {k:Prop} (n:k:=by
 exact⟨rfl,kG.lost (ao.out S) S (((Fr.al _ _).trans a).trans i)⟩):k:=n
theorem oz05x46 {k:Prop} (n:k:=by
 exact⟨rfl,kG.lost rfl B ((((((Fr.al _ _).trans a).trans i).trans C).trans (b.trans (Fr.al _ _))).trans g)⟩):k:=n
theorem oz05x47 {k:Prop} (n:k:=by
 exact⟨rfl,kG.lost (qE oC m) m (((((Fr.al _ _).trans a).trans i).trans C).trans b)⟩):k:=n
theorem oz05x51 {k:Prop} (n:k:=by
 exact⟨rfl,kG.lost (qE oC m) m (((Fr.al _ _).trans a).trans b)⟩):k:=n
theorem oz05x52 {k:Prop} (n:k:=by
 exact⟨rfl,kG.lost (ay.out ac) ac ((((Fr.al _ _).trans a).trans i).trans C)⟩):k:=n
theorem oz05x41 {g:Prop} (k:g:=by
 have p:s.next.bad=X:=b.ok;generalize raw (ts[s.i]'c)=v at *;go_enter func100,ntmps100;go_wp2_with (fail);refine(h _ rfl).mono ?_;rintro m u ⟨rfl,o,n⟩;go_wp2;go_ret
 exact .inr ⟨p,rfl,o,(Fr.al _ _).trans n⟩):g:=k
theorem oz05x49 {g:Prop} (k:g:=by
 rw[<- eqS_lit,<- zdp (b.good _ (jH c)) b.ok (dJ c) oC]
 exact l):g:=k
theorem oz05x43 {n:Prop} (p:n:=by
 go_enter func101,ntmps101;go_wp2_with (fail);refine l.mono ?_;rintro f o ⟨rfl,K⟩;obtain rfl:=K.symm;go_wp2
 exact⟨rfl,.inl ⟨rfl,rfl,Fr.al _ _⟩⟩):n:=p
theorem oz05x50 {a2:Prop} (af:a2:=by
 exact⟨rfl,kG.lost (qE oC n) n (((Fr.al _ _).trans a).trans b)⟩):a2:=af
theorem oz05y53 {p:Prop} (L:p:=by
 simp only[bne];rw[show((1:Nat):Int)=1 from rfl,n];rfl):p:=L
theorem oz05x34 {p:Prop} (L:p:=by
 have a9:0<=(sign (txt ts t)).2:=by rw[beq_iff_eq]at n;rw[n];decide
 clear e a5 n u;obtain⟨b7,b8,b9,ba,_,_,_,_⟩:=id a2;by_cases a3:S.2.bad=H;·have ag:=zkc oC (k:=i) (m:=j) (x:=l) (a:=g) (nn:=k) (c:=h) (ih (show o<=q by omega)) ao a9 au a3;have HS:Hid (a6.2=S.2):=(stuck ts o).bl _ _ _ _ a3 aR.out;clear a9;go_wp2_with (fail);refine C.mono ?_;rintro K av ⟨rfl,P⟩;obtain rfl:=P.symm;go_wp2_with (fail);refine ag.mono ?_;rintro K aQ ⟨rfl,V⟩;go_wp2;exact⟨rfl,kG.lost HS.out a3 ((ah.trans (Fr.al _ _)).trans V)⟩
 ·have aB:S.2.bad=X:=by simpa using a3
  have ag:=zkb oC (ih (show o<=q by omega)) ao (B:=w.heap.size+1) (D:=f.heap.size) oA oG oG aJ a9 au aB;clear a9 a3 aB;generalize (sign (txt ts t)).1=bm at *;go_wp2_with (fail);refine C.mono ?_;rintro K av ⟨rfl,P⟩;obtain rfl:=P.symm;go_wp2_with (fail);refine ag.mono ?_;rintro K aQ ⟨bb,rfl,aC,aS,V⟩;obtain⟨aE,aH,aF,_,rfl,aw,aG,ax,rfl⟩:=aC.shape;have ar:=aL.fr V oA;have aT:=aK.fr V oA;have bi:=ar.lt;obtain⟨aj,ak,am,an,aM,aN,aO,aP⟩:=id ar;go_wp2
  go_roundg o
  case rel =>
   refine⟨_,S.2,aE,aF,aH,aw,aG,ax,aR.out,oA,?_,ar.put,?_,aS.put4 oA _ _ _ _,((ah.trans (Fr.al _ _)).trans V).put4 oA _ _ _ _⟩;·exact(((aT.other oA _).other oA _).other oA _).other oA _
   ·exact aC.frP (x:=f.heap.size) (Fr.put _ _ _ _ _ _) (fun d b=>⟨b.2.2,b.2.1⟩) (fun d b=>⟨b.1,b.2.1,by simpa using b.2.2⟩)
  case measure=>omega):p:=L
theorem oz05x38 {p:Prop} (L:p:=by
 have aU:=Fr.put wr w.heap.size (U O i) (I l) (U O j) (J g k h)
 exact .inr ⟨R.ok,_,rfl,(ap.frP (x:=w.heap.size) aU (fun d b=>⟨b.2.2,oA⟩) (fun d b=>b)).frP (x:=r) (Fr.al _ _) (fun d b=>⟨by simpa using b.2.2,oA⟩) (fun d b=>⟨oA,oE⟩),(R.put4 oA _ _ _ _).alloc _,(ah.put4 (jE _) _ _ _ _).alloc _⟩):p:=L
theorem oz05x39 {p:Prop} (L:p:=by
 refine⟨E.1,E.2,b1,b2,bc,aW,b6,aX,a7.out,jE _,(az.fr z oA).alloc _,Box4.new _ _ _ _ _ _,?_,aA.alloc _,(((Fr.al _ _).trans z).alloc _)⟩
 exact W.frP (x:=r) (Fr.al _ _) (fun d b=>⟨b.2,oA⟩) (fun d b=>⟨oA,oA,oG⟩)):p:=L
theorem oz05x44 {p:Prop} (L:p:=by
 exact⟨rfl,kG.lost ((stuck ts q).bl _ _ _ _ b a7.out) b ((Fr.al _ _).trans z)⟩):p:=L
theorem oz05y54 {p:Prop} (L:p:=by
 simp only[bne];rw[show((2:Nat):Int)=2 from rfl,n];rfl):p:=L
theorem oz05y55 {p:Prop} (L:p:=by
 simp only[bne];rw[show((0:Nat):Int)=0 from rfl,n];rfl):p:=L
namespace syn
open Go.RowKit
open lexs (Tok Fine)
section
variable {w w':Zw} {r G:Nat} {ts:List Tok} {s:St}
variable {a:ByteArray}
theorem Words.one (w:Zw) (b:ByteArray) (c:TypeId) {a:Nat} (d:a=w.heap.size):Words (w.alloc (Zc #[I b] c)) a [b]:=by
 subst d;intro f e;obtain rfl:f=0:=by simpa using e
 simp
theorem Words.two (w:Zw) (c d:ByteArray) (e:TypeId) {a:Nat} (f:a=w.heap.size):Words (w.alloc (Zc #[I c,I d] e)) a [c,d]:=by
 subst f;intro b g;have:b=0\/b=1:=by simp at g;omega
 rcases this with rfl | rfl<;>simp
theorem zbf {b:Bool} (c:eqS (txt ts s) a=b):zN ts s [a]=b:=by unfold zN;simp[c]
theorem yQ (g:Ld w r G ts s) (a:ByteArray) (i:[a].all xJ=H) (c:eqS (txt ts s) a=H) {M:Nat} {T:TypeId} (h:M=w.heap.size) : Calls prog 82 #[Zp (Z (A r 0 F)),J (Z (A M 0 F)) 1 1] (w.alloc (Zc #[I a] T)) fun b w'=>b=.returned (Y H)/\Ld w' r G ts s.next/\Fr r w w' :=
 (zuk (g.alloc _) [a] M 1 oB i (Words.one w a T h) (zbf c)).mono fun b w' ⟨d,e,f⟩=>⟨d,e,(Fr.al _ _).trans f⟩
theorem yM (d:Ld w r G ts s) (a:ByteArray) (h:[a].all xJ=H) (e:eqS (txt ts s) a=X) {M:Nat} {T:TypeId} (g:M=w.heap.size) : Calls prog 82 #[Zp (Z (A r 0 F)),J (Z (A M 0 F)) 1 1] (w.alloc (Zc #[I a] T)) fun b w'=>b=.returned (Y X)/\Ld w' r G ts s/\Fr r w w' :=
 (zwk (d.alloc _) [a] M 1 oB h (Words.one w a T g) (zbf e)).mono fun b w' ⟨f,c⟩=>⟨f,by rw[c];exact d.alloc _,by rw[c];exact Fr.al _ _⟩
theorem cX (b:eqS (txt ts s) a=H):kB ts a s=s.next:=by unfold kB;rw[b,jv rfl]
theorem zeu (b:eqS (txt ts s) a=X):kB ts a s=s.fail:=by unfold kB;rw[b,ju oC]
theorem uC (d:Ld w r G ts s) (a:ByteArray) (f:[a].all xJ=H) {M:Nat} {T:TypeId} (e:M=w.heap.size) : Calls prog 80 #[Zp (Z (A r 0 F)),J (Z (A M 0 F)) 1 1] (w.alloc (Zc #[I a] T)) fun c w'=>∃i,fQ w r G ts (I i) (kB ts a s) c w':=by
 cases b:eqS (txt ts s) a;·rw[zeu b];refine(ze9 (d.alloc _) [a] M 1 oB f (Words.one w a T e) (zbf b)).mono ?_;rintro c w' ⟨rfl,rfl⟩;exact⟨empty,.inl ⟨rfl,rfl,Fr.al _ _⟩⟩
 ·rw[cX b];refine(zaz (d.alloc _) [a] M 1 oB f (Words.one w a T e) (zbf b)).mono ?_;rintro c w' ⟨rfl,g,h⟩;exact⟨_,.inr ⟨d.ok,rfl,g,(Fr.al _ _).trans h⟩⟩
theorem dK (b:Ld w r G ts s):Calls prog 100 #[Zp (Z (A r 0 F))] w (fQ w r G ts (U O (label ts s).1) (label ts s).2):=by
 have e:([⟨#[108,111,119]⟩,⟨#[104,105,103,104]⟩]:List ByteArray).all xJ=H:=oC;unfold label;cases l:eqS (txt ts s) ⟨#[104,105,103,104]⟩
 ·simp only[jr,if_false];cases j:eqS (txt ts s) ⟨#[108,111,119]⟩
  ·rw[zeu j];have h:=fun a (d:a=w.heap.size)=>ze9 (b.alloc (Zc #[I ⟨#[108,111,119]⟩,I ⟨#[104,105,103,104]⟩] 9)) [⟨#[108,111,119]⟩,⟨#[104,105,103,104]⟩] a 2 oB e (Words.two w _ _ _ d) (by unfold zN;simp[l,j])
   go_enter func100,ntmps100;go_wp2_with (fail);refine(h _ rfl).mono ?_;rintro m u ⟨rfl,t⟩;obtain rfl:=t.symm;go_wp2;exact⟨rfl,.inl ⟨rfl,rfl,Fr.al _ _⟩⟩
  ·rw[cX j];have f:zN ts s [⟨#[108,111,119]⟩,⟨#[104,105,103,104]⟩]=H:=by unfold zN;simp[j]
   have h:=fun a (d:a=w.heap.size)=>zaz (b.alloc (Zc #[I ⟨#[108,111,119]⟩,I ⟨#[104,105,103,104]⟩] 9)) [⟨#[108,111,119]⟩,⟨#[104,105,103,104]⟩] a 2 oB e (Words.two w _ _ _ d) f
   have c:=dC e f
   have q:((raw (ts[s.i]'c)).toList==[104,105,103,104])=X:=by
    exact oz05x49
   exact oz05x41
 ·simp only[if_true];have f:zN ts s [⟨#[108,111,119]⟩,⟨#[104,105,103,104]⟩]=H:=by unfold zN;simp[l]
  have h:=fun a (d:a=w.heap.size)=>zaz (b.alloc (Zc #[I ⟨#[108,111,119]⟩,I ⟨#[104,105,103,104]⟩] 9)) [⟨#[108,111,119]⟩,⟨#[104,105,103,104]⟩] a 2 oB e (Words.two w _ _ _ d) f
  have c:=dC e f
  have q:((raw (ts[s.i]'c)).toList==[104,105,103,104])=H:=by
   exact oz05x49
  exact oz05x41
theorem zcf (v:Ld w r G ts s):Calls prog 151 #[Zp (Z (A r 0 F))] w (fQ w r G ts (I (whole ts s).1) (whole ts s).2):=by
 have e:=gV v
 have p:(name ts s).2.bad=H->(whole ts s).2=(name ts s).2:=by
  intro a;unfold whole;dsimp only;rw[zpd oC a];simp
 by_cases f:(name ts s).2.bad=H
 ·rw[p f];go_enter func151,ntmps151;go_wp2_with (fail);refine e.mono ?_;rintro d u (⟨_,rfl,b⟩|⟨a,_,_,_⟩);·go_wp2;exact⟨rfl,.inl ⟨f,rfl,b⟩⟩
  ·rw[f]at a;cases a
 ·have g:(name ts s).2.bad=X:=by simpa using f
  clear p f;have q:=name_size ts s;unfold whole;generalize name ts s=n at e q g |-;obtain⟨C,c⟩:=n;simp only at e q g |-;unfold eat
  cases o:eqS (txt ts c) ⟨#[46]⟩
  ·simp only[jr,if_false];go_enter func151,ntmps151;go_wp2_with (fail);refine e.mono ?_;rintro d u (⟨a,_,_⟩|⟨_,rfl,k,b⟩);·rw[g]at a;cases a
   go_wp2_with (fail);refine(yM k ⟨#[46]⟩ oC o rfl).mono ?_;rintro d y ⟨rfl,l,h⟩;go_wp2;go_ret;exact .inr ⟨g,rfl,l,b.trans h⟩
  ·simp only[if_true];have t:=name_size ts c.next;have m:∀ {w:Zw},Ld w r G ts c.next->Calls prog 81 #[Zp (Z (A r 0 F))] w (fQ w r G ts (I (name ts c.next).1) (name ts c.next).2):=fun a=>gV a
   generalize name ts c.next=n at m t |-;obtain⟨D,z⟩:=n;simp only at m t |-;go_enter func151,ntmps151;go_wp2_with (fail);refine e.mono ?_;rintro d u (⟨a,_,_⟩|⟨_,rfl,k,b⟩);·rw[g]at a;cases a
   go_wp2_with (fail);refine(yQ k ⟨#[46]⟩ oC o rfl).mono ?_;rintro d y ⟨rfl,l,h⟩;go_wp2_with (fail);refine(m l).mono ?_;rintro d B (⟨i,rfl,j⟩|⟨i,rfl,x,j⟩);·go_wp2;exact⟨rfl,.inl ⟨i,rfl,(b.trans h).trans j⟩⟩
   ·go_wp2;go_ret;refine .inr ⟨i,zoy ?_,x,(b.trans h).trans j⟩;apply WideShapes.bytes_inj;simp
end
end syn
namespace syn
open Go.RowKit
open lexs (Tok Fine val numE kX)
def kG (w:Zw) (r G:Nat) (ts:List Tok) (q:Tree × St) (e:Ending) (w':Zw):Prop :=
 (q.2.bad=H/\e=.panicked (Pan ts q.2)/\Fr r w w')\/(q.2.bad=X/\∃v,e=.returned v/\Lies (fun b=>w.heap.size<=b/\b<w'.heap.size) w' q.1 v/\Ld w' r G ts q.2/\Fr r w w')
section
variable {w w':Zw} {r G:Nat} {ts:List Tok} {s:St}
theorem fQ.lost {v:Zv} {c a:St} (b:c=a) (e:a.bad=H) (d:Fr r w w'):fQ w r G ts v c (.panicked (Pan ts a)) w':=.inl ⟨by rw[b];exact e,by rw[b],d⟩
theorem kG.lost {c:Tree × St} {a:St} (b:c.2=a) (e:a.bad=H) (d:Fr r w w'):kG w r G ts c (.panicked (Pan ts a)) w':=.inl ⟨by rw[b];exact e,by rw[b],d⟩
theorem Ld.put4 (f:Ld w r G ts s) {N:Nat} (a:r<N) (b c d e:Zv):Ld ((((w.setCell (A N 0 F) b).setCell (A N 1 F) c).setCell (A N 2 F) d).setCell (A N 3 F) e) r G ts s :=
 (((f.set a 0 b).set a 1 c).set a 2 d).set a 3 e
theorem kG.fin {b:Zw} {s3:St} {t:Tree} {c d e f:Zv} {B a:Nat} (m:r<w.heap.size) (j:Fr r w b) (h:Ld b r G ts s3) (l:w.heap.size<=a) (i:a<B) (k:Lies (fun g=>B<=g/\g<b.heap.size) b t (Za #[c,d,e,f])) : kG w r G ts (t,s3) (.returned (Za #[c,d,e,f])) ((((b.setCell (A a 0 F) c).setCell (A a 1 F) d).setCell (A a 2 F) e).setCell (A a 3 F) f) :=
 .inr ⟨h.ok,_,rfl,(k.fr i (Fr.put _ _ _ _ _ _)).low oA,h.put4 oA _ _ _ _,j.put4 l _ _ _ _⟩
theorem Lies.rowed {a:Zw} {B:Nat} {i:Tree} {e f g h:Zv} {T:TypeId} {M c:Nat} {k m:Int} {x:ByteArray} (j:Lies (fun b=>B<=b/\b<a.heap.size) a i (Za #[e,f,g,h])) (o:B<=a.heap.size) (l:M=a.heap.size) (q:1<=c:=by omega) : Lies (fun b=>B<=b/\b<(a.alloc (Zc #[e,f,g,h] T)).heap.size) (a.alloc (Zc #[e,f,g,h] T)) (.node k x m [i]) (Za #[U O k,I x,U O m,J (Z (A M 0 F)) 1 c]):=by
 refine Lies.one ⟨oA,oG⟩ (zis _ l) ?_;exact j.to (fun b d=>⟨d.1,oG⟩) (fun b d n=>((Below.refl a.heap.size a).alloc (jE _) _).cell (p:=(A b n F)) d.2)
theorem gC (i:Ld w r G ts s) (d e:Int) (g:ByteArray) (b:Option Addr) (f c:Nat) : Calls prog 83 #[Zp (Z (A r 0 F)),Za #[U O d,I g,U O e,J b f c]] w (fQ w r G ts (Za #[U O d,I g,U O e,J b f c]) (kB ts ⟨#[59]⟩ s)):=by
 have B:=kc25;have D:=i.lt;have n:=Box4.new w (U O d) (I g) (U O e) (J b f c) 25;have p:=Box4.new (w.alloc (Zc #[U O d,I g,U O e,J b f c] 25)) (U O 0) (I empty) (U O 0) (J F 0 0) 25;have o:=n.alloc (Zc #[U O 0,I empty,U O 0,J F 0 0] 25);go_enter func83,ntmps83;go_wp2_with (fail);refine(uC ((i.alloc _).alloc _) ⟨#[59]⟩ oC oB).mono ?_;rintro C N ⟨P,⟨h,rfl,a⟩|⟨h,rfl,q,a⟩⟩;·go_wp2;exact⟨rfl,fQ.lost rfl h (((Fr.al _ _).trans (Fr.al _ _)).trans a)⟩
 ·obtain⟨j,k,l,m,u,x,y,z⟩:=p.fr a oH;obtain⟨E,K,L,M,_,_,_,_⟩:=o.fr a oA;simp only[jO]at j k l m u x y z;have t:=a.size;simp only[jO]at t;go_wp2
  exact jT (v:=Za #[U O d,I g,U O e,J b f c]) (by simp[results,results83,go_sem,j,k,l,m]) rfl
   (.inr ⟨h,rfl,q.put4 oA _ _ _ _,(((Fr.al _ _).trans (Fr.al _ _)).trans a).put4 oA _ _ _ _⟩)
theorem zz1 (d:Ld w r G ts s) : Calls prog 124 #[Zp (Z (A r 0 F))] w (kG w r G ts (.node 5 (name ts (label ts s).2).1 (label ts s).1 [],(name ts (label ts s).2).2)):=by
 have o:=kc25;have j:=d.lt;have g:=Box4.new w (U O 0) (I empty) (U O 0) (J F 0 0) 25;go_enter func124,ntmps124;go_wp2_with (fail);refine(dK (d.alloc _)).mono ?_;rintro f x (⟨c,rfl,a⟩|⟨c,rfl,h,a⟩);·go_wp2;exact⟨rfl,kG.lost (gQ c) c ((Fr.al _ _).trans a)⟩
 go_wp2_with (fail);refine(gV h).mono ?_;rintro f y (⟨e,rfl,b⟩|⟨e,rfl,i,b⟩);·go_wp2;exact⟨rfl,kG.lost rfl e (((Fr.al _ _).trans a).trans b)⟩
 obtain⟨k,l,m,n,p,q,t,u⟩:=(g.fr a oA).fr b oA;go_wp2
 exact jT (v:=Za #[U O 5,I (name ts (label ts s).2).1,U O (label ts s).1,J F 0 0]) (by simp[results,results124,go_sem,k,l,m,n]) rfl
  (kG.fin j (((Fr.al _ _).trans a).trans b) i (jE _) (Nat.lt_succ_self _) (Lies.leaf _ _ _ _ _))
theorem zvm {a:List UInt8} (b:numE a=0) (g:a≠[]):a.all kX=H/\val a<9223372036854775808/\a.length<=3000:=by
 have d:=zii b
 have e:(decide (1<a.length)&&a.headD 0==48)=X:=by
  cases e:(decide (1<a.length)&&a.headD 0==48);·rfl
  ·unfold numE at b;rw[d,e]at b;simp at b
 have f:=lexs.numE_val a d g e;rw[b]at f;refine⟨d,?_,?_⟩
 ·rcases jL (val a) 9223372036854775808 with c | c
  ·exact c
  ·rw[ju oA]at f;simp at f
 ·unfold numE at b;rw[d,e]at b;simp only[Bool.true_eq_false,jr,if_false]at b;rcases jL 19 a.length with c | c
  ·rw[decide_eq_true c]at b;simp at b
  ·omega
theorem zgc (a:Ld w r G ts s) : Calls prog 101 #[Zp (Z (A r 0 F))] w (kG w r G ts (number ts s)):=by
 have a2:=kc76;have W:=kc25;have a7:=a.len;have D:=a.lt;have u:=Box4.new w (U O 0) (I empty) (U O 0) (J F 0 0) 25;have c:=a.alloc (Zc #[U O 0,I empty,U O 0,J F 0 0] 25);obtain⟨V,a3,q,a5,t⟩:=a.c0;unfold number;rw[bM a.ok];by_cases b:s.i<ts.length
 ·obtain rfl:=t b;rw[dJ b];obtain⟨ae,af,ag⟩:=a.tok s.i b;have a6:=a.gt oA;have m:0<ts.length - s.i:=oA;have a8:ts.length - s.i<=3000:=oA;simp only;cases e:(ts[s.i].kind==2)
  ·simp only[jr,if_false];have B:(ts[s.i].kind != 2)=H:=by simp only[bne,e,Bool.not_false]
   have l:=zbi c;generalize ts[s.i].kind=S at *;generalize ts.length - s.i=M at *;exact oz05x43
  ·simp only[if_true];have B:(ts[s.i].kind != 2)=X:=by simp only[bne,e,Bool.not_true]
   have d:=a.good _ (jH b);obtain⟨z,E,C⟩:=zvm (d.num (by simpa using e)) d.ne;have y:=zae c b;have j:=fun w=>lexs.parse_ok (raw ts[s.i]) (by rw[raw_size];exact C) (by rw[raw_list];exact z) (by rw[raw_list];exact d.ne) (by rw[raw_list];exact E) w
   rw[raw_list]at j;generalize ts[s.i].kind=S at *;generalize ts.length - s.i=M at *;generalize raw ts[s.i]=ad at *;generalize val ts[s.i].text=L at *;go_enter func101,ntmps101;go_wp2_with (fail);refine y.mono ?_;rintro f T ⟨rfl,x,g⟩;go_wp2_with (fail);refine(j _).mono ?_;rintro f o ⟨rfl,k⟩;have h:Fr r T o:=Fr.below k;obtain⟨N,P,Q,R,a9,aa,ab,ac⟩:=(u.fr g oA).fr h oA;go_wp2
   exact jT (v:=Za #[U O 15,I empty,U O L,J F 0 0]) (by simp[results,results101,go_sem,N,P,Q,R,empty]) rfl
    (kG.fin D (((Fr.al _ _).trans g).trans h) (x.below k) (jE _) (Nat.lt_succ_self _) (Lies.leaf _ _ _ _ _))
 ·rw[List.getElem?_eq_none oA];have m:ts.length - s.i=0:=oA;rw[m]at q;have l:=zbi c;exact oz05x43
end
end syn
namespace syn
open Go.RowKit
open lexs (Tok Fine)
section
variable {w w':Zw} {r G:Nat} {ts:List Tok} {s:St}
def kV (r G:Nat) (ts:List Tok) (a:Nat) (g:St->Option (Tree × St)):Prop :=
 ∀ {w:Zw} {s:St} {q:Tree × St},Ld w r G ts s->g s=Z q->Calls prog a #[Zp (Z (A r 0 F))] w (kG w r G ts q)
theorem zug {g:Nat} (ih:kV r G ts 155 (kM ts g)):kV r G ts 154 (qY ts (g+1)):=by
 intro w s S l d;have ae:=kc25;have K:=l.lt;have E:=Box4.new w (U O 0) (I empty) (U O 0) (J F 0 0) 25;unfold qY at d;obtain⟨a8,D,k⟩:=qQ d;simp only[jh]at k;subst k;have ag:=uC (T:=9) (l.alloc (Zc #[U O 0,I empty,U O 0,J F 0 0] 25)) ⟨#[40]⟩ oC (M:=w.heap.size+1) oB
 have ai:Hid ((kB ts ⟨#[40]⟩ s).bad=H->kB ts ⟨#[41]⟩ a8.2=kB ts ⟨#[40]⟩ s):=fun h=>by
  rw[(stuck ts g).e _ _ h D];exact qE oC h
 generalize kB ts ⟨#[40]⟩ s=ao at *;go_enter func154,ntmps154;go_wp2_with (fail);refine ag.mono ?_;rintro f N ⟨ad,⟨h,rfl,a⟩|⟨h,rfl,m,a⟩⟩;·go_wp2;exact⟨rfl,kG.lost (ai.out h) h ((Fr.al _ _).trans a)⟩
 go_wp2_with (fail);refine(ih m D).mono ?_;rintro f B (⟨n,rfl,b⟩|⟨n,aj,rfl,p,Q,b⟩);·go_wp2;exact oz05x50
 obtain⟨q,e,t,_,rfl,C,L,j,rfl⟩:=p.shape;go_wp2_with (fail);refine(uC (Q.alloc _) ⟨#[41]⟩ oC oB).mono ?_;rintro f ak ⟨am,⟨o,rfl,c⟩|⟨o,rfl,R,c⟩⟩;·go_wp2;exact⟨rfl,kG.lost rfl o ((((Fr.al _ _).trans a).trans b).trans ((Fr.al _ _).trans c))⟩
 have V:=a.size;have an:=b.size;rw[jO]at V;obtain⟨u,x,y,z,a9,aa,ab,ac⟩:=(((E.fr a oA).fr b oA).alloc _).fr c oA;obtain⟨a3,a5,a6,a7,_,_,_,_⟩:=(Box4.new B (U O q) (I e) (U O t) (J C L j) 25).fr c oA;go_wp2
 exact jT (v:=Za #[U O q,I e,U O t,J C L j]) (by simp[results,results154,go_sem,u,x,y,z]) rfl
  (kG.fin K ((((Fr.al _ _).trans a).trans b).trans ((Fr.al _ _).trans c)) R (jE _) (show w.heap.size<N.heap.size by omega) (p.fr oA ((Fr.al _ _).trans c)))
theorem zps {g:Nat} (ih:kV r G ts 155 (kM ts g)) (e:ByteArray) {w:Zw} {s:St} {S:Tree × St} (l:Ld w r G ts s) (d:qZ ts (g+1) e s=Z S) : Calls prog 156 #[Zp (Z (A r 0 F)),I e] w (kG w r G ts S):=by
 have ae:=kc25;have K:=l.lt;have E:=Box4.new w (U O 0) (I empty) (U O 0) (J F 0 0) 25;have W:=l.alloc (Zc #[U O 0,I empty,U O 0,J F 0 0] 25);unfold qZ at d;cases i:eqS (txt ts s) ⟨#[91]⟩
 ·rw[i]at d;simp only[jr,if_false,jh]at d;subst d;have P:=yM (T:=9) W ⟨#[91]⟩ oC i (M:=w.heap.size+1) oB;clear i;go_enter func156,ntmps156;go_wp2_with (fail);refine P.mono ?_;rintro f N ⟨rfl,m,a⟩;obtain⟨u,x,y,z,a9,aa,ab,ac⟩:=E.fr a oA;go_wp2
  exact jT (v:=Za #[U O 16,I e,U O 0,J F 0 0]) (by simp[results,results156,go_sem,u,x,y,z]) rfl
   (kG.fin K ((Fr.al _ _).trans a) m (jE _) (Nat.lt_succ_self _) (Lies.leaf _ _ _ _ _))
 ·rw[i]at d;simp only[if_true]at d;obtain⟨a8,D,k⟩:=qQ d;simp only[jh]at k;subst k;have P:=yQ (T:=9) W ⟨#[91]⟩ oC i (M:=w.heap.size+1) oB;clear i;go_enter func156,ntmps156;go_wp2_with (fail);refine P.mono ?_;rintro f N ⟨rfl,m,a⟩;go_wp2_with (fail);refine(ih m D).mono ?_;rintro f B (⟨n,rfl,b⟩|⟨n,aj,rfl,p,Q,b⟩);·go_wp2;exact oz05x50
  obtain⟨q,ad,t,_,rfl,C,L,j,rfl⟩:=p.shape;have ah:=p.rowed (T:=25) (k:=17) (x:=e) (m:=0) (c:=1) b.size rfl;go_wp2_with (fail);refine(uC ((Q.alloc _).alloc _) ⟨#[93]⟩ oC oB).mono ?_;rintro f ak ⟨am,⟨o,rfl,c⟩|⟨o,rfl,R,c⟩⟩;·go_wp2;exact⟨rfl,kG.lost rfl o ((((Fr.al _ _).trans a).trans b).trans (((Fr.al _ _).trans (Fr.al _ _)).trans c))⟩
  have V:=a.size;have an:=b.size;rw[jO]at V;obtain⟨u,x,y,z,a9,aa,ab,ac⟩:=((((E.fr a oA).fr b oA).alloc _).alloc _).fr c oA;obtain⟨a3,a5,a6,a7,_,_,_,_⟩:=(Box4.new (B.alloc (Zc #[U O q,I ad,U O t,J C L j] 25)) (U O 17) (I e) (U O 0) (J (Z (A B.heap.size 0 F)) 1 1) 25).fr c oH;simp only[jO]at a3 a5 a6 a7;go_wp2
  exact jT (v:=Za #[U O 17,I e,U O 0,J (Z (A B.heap.size 0 F)) 1 1]) (by simp[results,results156,go_sem,u,x,y,z]) rfl
   (kG.fin K ((((Fr.al _ _).trans a).trans b).trans (((Fr.al _ _).trans (Fr.al _ _)).trans c)) R (jE _) (show w.heap.size<N.heap.size by omega) (ah.fr oA ((Fr.al _ _).trans c)))
end
section
variable {w w':Zw} {r G:Nat} {ts:List Tok} {s:St}
variable {b d e:Nat} {f:St->Option (Tree × St)} {g:Tree × St}
theorem kV.lost (c:kV r G ts b f) (h:Ld w r G ts s) (j:f s=Z g) (i:g.2.bad=H) : Calls prog b #[Zp (Z (A r 0 F))] w fun d w'=>d=.panicked (Pan ts g.2)/\Fr r w w' :=
 (c h j).mono fun d w' c=>by
  rcases c with⟨_,a,e⟩|⟨a,_⟩
  ·exact⟨a,e⟩
  ·rw[i]at a;cases a
theorem kV.fine (c:kV r G ts b f) (h:Ld w r G ts s) (j:f s=Z g) (i:g.2.bad=X) : Calls prog b #[Zp (Z (A r 0 F))] w fun e w'=>∃v,e=.returned v/\Lies (fun d=>w.heap.size<=d/\d<w'.heap.size) w' g.1 v/\Ld w' r G ts g.2/\Fr r w w' :=
 (c h j).mono fun e w' c=>by
  rcases c with⟨a,_⟩|⟨_,a⟩
  ·rw[i]at a;cases a
  ·exact a
theorem Lies.rowed2P {d Q:Nat->Prop} {b:Zw} {u v:Tree} {e f g h i j l n:Zv} {T:TypeId} {o c:Nat} {k m:Int} {x:ByteArray} (z:Lies d b u (Za #[e,f,g,h])) (B:Lies d b v (Za #[i,j,l,n])) (t:∀a,d a->a<b.heap.size) (s:∀a,d a->Q a) (C:o=b.heap.size) (D:Q o) (E:2<=c:=by omega) : Lies Q (b.alloc (Zc #[e,f,g,h,i,j,l,n] T)) (.node k x m [u,v]) (Za #[U O k,I x,U O m,J (Z (A o 0 F)) 2 c]):=by
 obtain⟨w,y⟩:=zeo b (y0:=e) (y1:=f) (y2:=g) (y3:=h) (z0:=i) (z1:=j) (z2:=l) (z3:=n) (T:=T) C;refine Lies.two D w y ?_ ?_;·exact z.to s (fun a q r=>((Below.refl b.heap.size b).alloc (jE _) _).cell (p:=(A a r F)) (t a q))
 ·exact B.to s (fun a q r=>((Below.refl b.heap.size b).alloc (jE _) _).cell (p:=(A a r F)) (t a q))
theorem zs4:sign empty=(0,-1):=by rw[cY];decide
theorem zmk (c:Ld w r G ts s) (a:0<=(sign (txt ts s)).2):∃b:s.i<ts.length,raw ts[s.i]=txt ts s:=by
 have b:=zgr a;refine⟨b,?_⟩;unfold txt at a |-;rw[bM c.ok,dJ b]at a |-;simp only at a |-;split at a;·rw[zs4]at a;exact absurd a oC
 ·rename_i d;rw[ju d];rfl
theorem zkb (a6:b=163\/b=168\/b=175) (ih:kV r G ts b f) (u:Ld w r G ts s) {B D:Nat} (aE:r<B) (aF:B<=w.heap.size) (aG:D<w.heap.size) {x:Tree} {k l:Int} {i:ByteArray} {j:Option Addr} (ab:Lies (fun a=>B<=a/\a≠D/\a<w.heap.size) w x (Za #[U O k,I i,U O l,J j d e])) (P:0<=(sign (txt ts s)).2) (ad:f s.next=Z g) (c:g.2.bad=X) : Calls prog 164 #[Zp (Z (A r 0 F)),Za #[U O k,I i,U O l,J j d e],.func (.func b) #[Zp (Z (A r 0 F))] #[]] w fun n w' =>
   ∃v,n=.returned v/\Lies (fun a=>B<=a/\a≠D/\a<w'.heap.size) w' (.node 19 empty (sign (txt ts s)).1 [x,g.1]) v/\Ld w' r G ts g.2/\Fr r w w':=by
 rcases a6 with rfl | rfl | rfl
 all_goals
  have au:=kc25;have aH:=u.lt;obtain⟨ac,ae⟩:=zmk u P;have a7:=(u.alloc (Zc #[U O k,I i,U O l,J j d e] 25)).alloc (Zc #[U O 0,I empty,U O 0,J F 0 0] 25);have a5:=(Box4.new w (U O k) (I i) (U O l) (J j d e) 25).alloc (Zc #[U O 0,I empty,U O 0,J F 0 0] 25);have z:=Box4.new (w.alloc (Zc #[U O k,I i,U O l,J j d e] 25)) (U O 0) (I empty) (U O 0) (J F 0 0) 25;rw[jO]at z;have K:=zae a7 ac;rw[ae]at K;have aa:=fun w af=>zql (txt ts s) w af P
  generalize (sign (txt ts s)).1=Q at *;generalize txt ts s=aS at *;go_enter func164,ntmps164;go_wp2_with (fail);refine K.mono ?_;rintro n R ⟨rfl,E,o⟩;go_wp2_with (fail);refine(aa _ E.ops).mono ?_;rintro n q ⟨rfl,L⟩;have a8:=E.below L;have p:Fr r R q:=Fr.below L;have y:=(a5.fr o oA).fr p oA;have t:=(z.fr o oA).fr p oA;obtain⟨aN,aO,aP,aQ,av,aw,ax,ay⟩:=id y;have aI:w.heap.size+1<q.heap.size:=t.lt;have aU:w.heap.size+2<=R.heap.size:=by have:=o.size;simpa using this
  have aV:=p.size;go_wp2
  go_region_with (refine(ih.fine (a8.drewN 1) ad c).mono ?_;rintro n h ⟨aR,rfl,M,a9,m⟩;obtain⟨ag,ao,ah,_,rfl,S,ak,T,rfl⟩:=M.shape;obtain⟨az,aA,aB,aC,_,_,_,_⟩:=(y.drewN 1).fr m oA;obtain⟨V,W,a2,a3,aJ,aK,aL,aM⟩:=(t.drewN 1).fr m oA;have ar:w.heap.size+1<h.heap.size:=((t.drewN 1).fr m oA).lt)
  all_goals
   go_wp2;refine jT (v:=Za #[U O 19,I empty,U O Q,J (Z (A h.heap.size 0 F)) 2 2]) (by simp[results,results164,go_sem,V,W,a2,a3,ar,empty]) rfl ?_;have C:Fr r w h:=(((((Fr.al _ _).trans (Fr.al _ _)).trans o).trans p).drewN 1).trans m;have ap:=m.size;have aT:q.heap.size<=h.heap.size:=ap;have am:Lies (fun a=>B<=a/\a≠D/\a<h.heap.size/\a≠w.heap.size+1) h x (Za #[U O k,I i,U O l,J j d e]):=ab.frP (x:=r) C (fun a c=>⟨c.2.2,oA⟩) (fun a c=>⟨c.1,c.2.1,oA,oA⟩)
   have ai:Lies (fun a=>B<=a/\a≠D/\a<h.heap.size/\a≠w.heap.size+1) h g.1 (Za #[U O ag,I ao,U O ah,J S ak T]):=M.to (fun a c=>by
    have aD:q.heap.size<=a:=c.1
    exact⟨oA,oA,c.2,oA⟩) (fun _ _ _=>rfl)
   have N:=Fr.put h (w.heap.size+1) (U O 19) (I empty) (U O Q) (J (Z (A h.heap.size 0 F)) 2 2);have an:=am.frP (x:=w.heap.size+1) N (fun a c=>⟨c.2.2.1,c.2.2.2⟩) (fun a c=>c);have aj:=ai.frP (x:=w.heap.size+1) N (fun a c=>⟨c.2.2.1,c.2.2.2⟩) (fun a c=>c);exact⟨_,rfl,an.rowed2P aj (fun a c=>by simpa using c.2.2.1) (fun a c=>⟨c.1,c.2.1,oE⟩) oB ⟨oA,oA,oB⟩,(a9.put4 oA _ _ _ _).alloc _,(C.put4 oA _ _ _ _).alloc _⟩
theorem zkc (v:b=163\/b=168\/b=175) (ih:kV r G ts b f) (i:Ld w r G ts s) {k m:Int} {x:ByteArray} {a:Option Addr} {nn c:Nat} (q:0<=(sign (txt ts s)).2) (E:f s.next=Z g) (C:g.2.bad=H) : Calls prog 164 #[Zp (Z (A r 0 F)),Za #[U O k,I x,U O m,J a nn c],.func (.func b) #[Zp (Z (A r 0 F))] #[]] w fun d w'=>d=.panicked (Pan ts g.2)/\Fr r w w':=by
 rcases v with rfl | rfl | rfl
 all_goals
  have Q:=kc25;have R:=i.lt;obtain⟨D,K⟩:=zmk i q;have y:=(i.alloc (Zc #[U O k,I x,U O m,J a nn c] 25)).alloc (Zc #[U O 0,I empty,U O 0,J F 0 0] 25);have t:=(Box4.new w (U O k) (I x) (U O m) (J a nn c) 25).alloc (Zc #[U O 0,I empty,U O 0,J F 0 0] 25);have o:=zae y D;rw[K]at o;have B:=fun w L=>zql (txt ts s) w L q
  generalize (sign (txt ts s)).1=M at *;generalize txt ts s=a3 at *;go_enter func164,ntmps164;go_wp2_with (fail);refine o.mono ?_;rintro d N ⟨rfl,n,j⟩;go_wp2_with (fail);refine(B _ n.ops).mono ?_;rintro d P ⟨rfl,p⟩;have z:=n.below p;have l:Fr r N P:=Fr.below p;obtain⟨S,T,V,W,_,_,_,_⟩:=(t.fr j oA).fr l oA;go_wp2;refine wp_region_any oD ?_;change wpAny _ _ _ _ _ _ _ (World.drew _);refine tkQ 0 (U O M) ?_
 focus
  refine tkQ 2 (.func (.func 163) #[Zp (Z (A r 0 F))] #[]) ?_
 rotate_left
 focus
  refine tkQ 2 (.func (.func 168) #[Zp (Z (A r 0 F))] #[]) ?_
 rotate_left
 focus
  refine tkQ 2 (.func (.func 175) #[Zp (Z (A r 0 F))] #[]) ?_
 rotate_left
 all_goals
  refine wpAny_ready (rs:=[1,3]) oD oB ?_;refine AllReady.cons rfl (fun h e=>?_) (AllReady.cons rfl (fun h e=>?_) AllReady.nil)
  focus
   go_simp;refine e _ _ ?_;clear e h;refine one0 3 fun h e=>?_
  all_goals
   go_simp;refine(ih.lost (z.drewN 1) E C).mono ?_;rintro d a2 ⟨rfl,u⟩;go_wp2;exact⟨rfl,rfl,(((((Fr.al _ _).trans (Fr.al _ _)).trans j).trans l).drewN 1).trans u⟩
end
section
variable {w w':Zw} {r G:Nat} {ts:List Tok} {s:St}
variable {a:Nat}
theorem zyx (b:a<9):sign (sv a)=(so a,sl a):=by
 rw[cY];rcases cM b with rfl | rfl | rfl | rfl | rfl | rfl | rfl | rfl | rfl<;>rfl
theorem zf4 {g:List ByteArray} {d:Int} (k:∀j∈g,(sign j).2=d) (l:∀a,a<9->sl a=d->sv a∈g) (h:0<=d):zN ts s g=((sign (txt ts s)).2==d):=by
 unfold zN;generalize txt ts s=e;rw[Bool.eq_iff_iff,List.any_eq_true,beq_iff_eq];constructor;·rintro⟨j,o,f⟩;obtain rfl:=zdo f;exact k _ o
 ·intro b;by_cases i:∀a,a<9->eqS (sv a) e=X;·rw[zci e i]at b;exfalso;rw[<- b]at h;exact absurd h oC
  ·obtain⟨a,c,f⟩:∃a,a<9/\eqS (sv a) e=H:=by
    refine Classical.byContradiction fun m=>i fun a c=>?_
    cases n:eqS (sv a) e;·rfl
    ·exact absurd ⟨a,c,n⟩ m
   obtain rfl:=zdo f;rw[zyx c]at b;exact⟨_,l a c b,by unfold eqS;simp⟩
def ws0:List ByteArray:=[⟨#[61,61]⟩,⟨#[60]⟩]
def ws1:List ByteArray:=[⟨#[43]⟩,⟨#[45]⟩,⟨#[124]⟩]
def ws2:List ByteArray:=[⟨#[42]⟩,⟨#[47]⟩,⟨#[37]⟩,⟨#[38]⟩]
theorem ybu:zN ts s ws0=((sign (txt ts s)).2==0):=by
 refine zf4 (fun e a=>?_) (fun d c=>?_) oC;·simp only[ws0,List.mem_cons,List.not_mem_nil,or_false]at a;rcases a with rfl | rfl<;>rw[cY]<;>rfl
 ·rcases cM c with rfl | rfl | rfl | rfl | rfl | rfl | rfl | rfl | rfl<;>intro b<;>first | (exact absurd b oC) | (simp[ws0,sv,signs])
theorem ybv:zN ts s ws1=((sign (txt ts s)).2==1):=by
 refine zf4 (fun e a=>?_) (fun d c=>?_) oC;·simp only[ws1,List.mem_cons,List.not_mem_nil,or_false]at a;rcases a with rfl | rfl | rfl<;>rw[cY]<;>rfl
 ·rcases cM c with rfl | rfl | rfl | rfl | rfl | rfl | rfl | rfl | rfl<;>intro b<;>first | (exact absurd b oC) | (simp[ws1,sv,signs])
theorem ybw:zN ts s ws2=((sign (txt ts s)).2==2):=by
 refine zf4 (fun e a=>?_) (fun d c=>?_) oC;·simp only[ws2,List.mem_cons,List.not_mem_nil,or_false]at a;rcases a with rfl | rfl | rfl | rfl<;>rw[cY]<;>rfl
 ·rcases cM c with rfl | rfl | rfl | rfl | rfl | rfl | rfl | rfl | rfl<;>intro b<;>first | (exact absurd b oC) | (simp[ws2,sv,signs])
theorem Words.three (w:Zw) (c d e:ByteArray) (f:TypeId) (g:a=w.heap.size):Words (w.alloc (Zc #[I c,I d,I e] f)) a [c,d,e]:=by
 subst g;intro b h;have:b=0\/b=1\/b=2:=by simp at h;omega
 rcases this with rfl | rfl | rfl<;>simp
theorem Words.four (w:Zw) (d e f c:ByteArray) (g:TypeId) (h:a=w.heap.size):Words (w.alloc (Zc #[I d,I e,I f,I c] g)) a [d,e,f,c]:=by
 subst h;intro b i;have:b=0\/b=1\/b=2\/b=3:=by simp at i;omega
 rcases this with rfl | rfl | rfl | rfl<;>simp
theorem zxm (c:Ld w r G ts s) {T:TypeId} (d:a=w.heap.size):Calls prog 96 #[Zp (Z (A r 0 F)),J (Z (A a 0 F)) 3 3] (w.alloc (Zc #[I ⟨#[43]⟩,I ⟨#[45]⟩,I ⟨#[124]⟩] T)) fun b w'=>b=.returned (Y ((sign (txt ts s)).2==1))/\w'=w.alloc (Zc #[I ⟨#[43]⟩,I ⟨#[45]⟩,I ⟨#[124]⟩] T):=by
 rw[<- ybv];exact fS (c.alloc _) ws1 a 3 oC oC (Words.three w _ _ _ T d)
theorem zxn (c:Ld w r G ts s) {T:TypeId} (d:a=w.heap.size):Calls prog 96 #[Zp (Z (A r 0 F)),J (Z (A a 0 F)) 4 4] (w.alloc (Zc #[I ⟨#[42]⟩,I ⟨#[47]⟩,I ⟨#[37]⟩,I ⟨#[38]⟩] T)) fun b w'=>b=.returned (Y ((sign (txt ts s)).2==2))/\w'=w.alloc (Zc #[I ⟨#[42]⟩,I ⟨#[47]⟩,I ⟨#[37]⟩,I ⟨#[38]⟩] T):=by
 rw[<- ybw];exact fS (c.alloc _) ws2 a 4 oC oC (Words.four w _ _ _ _ T d)
theorem zxl (b:Ld w r G ts s) {M:Nat} {T:TypeId} (c:M=w.heap.size):Calls prog 96 #[Zp (Z (A r 0 F)),J (Z (A M 0 F)) 2 2] (w.alloc (Zc #[I ⟨#[61,61]⟩,I ⟨#[60]⟩] T)) fun a w'=>a=.returned (Y ((sign (txt ts s)).2==0))/\w'=w.alloc (Zc #[I ⟨#[61,61]⟩,I ⟨#[60]⟩] T):=by
 rw[<- ybu];exact fS (b.alloc _) ws0 M 2 oC oC (Words.two w _ _ T c)
end
section
variable {w w':Zw} {r G:Nat} {ts:List Tok} {s:St}
theorem ybz {q:Nat} (ih:∀ {ad:Nat},ad<=q->kV r G ts 168 (qL ts ad 2)):kV r G ts 163 (qL ts (q+1) 1):=by
 intro w s a6 a8 y;have aY:=kc25;have aZ:∀(ac:Fn) (first ab:Array Zv) (w:Zw),(Instr.makeFunc ac first ab).run prog w=.ok (.func ac first ab) w:=fun _ _ _ _=>rfl
 have b0:=a8.lt;have az:=Box4.new w (U O 0) (I empty) (U O 0) (J F 0 0) 25;unfold qL at y;rw[ju oC]at y;obtain⟨E,ay,ae⟩:=qQ y;have a7:Hid (zD ts q 1 E.1 E.2=Z a6):=ae;clear y ae;go_enter func163,ntmps163;go_wp2_with (fail);refine(ih (jE _) (a8.alloc _) ay).mono ?_;rintro K f (⟨b,rfl,z⟩|⟨b,aV,rfl,W,aA,z⟩);·go_wp2;exact oz05x44
 obtain⟨b1,bc,b2,_,rfl,aW,b6,aX,rfl⟩:=W.shape;have aI:=z.size;rw[jO]at aI W;go_wp2
 go_loopg [] q (fun o wr=>∃(aa:Tree) (t:St) (i j:Int) (l:ByteArray) (g:Option Addr) (k h:Nat),Hid (zD ts o 1 aa t=Z a6)/\o<=q/\Box4 wr w.heap.size (U O 0) (I empty) (U O 0) (J F 0 0)/\Box4 wr f.heap.size (U O i) (I l) (U O j) (J g k h) /\
  Lies (fun d=>w.heap.size+1<=d/\d≠f.heap.size/\d<wr.heap.size) wr aa (Za #[U O i,I l,U O j,J g k h])/\Ld wr r G ts t/\Fr r w wr)
 case atStart =>
  exact oz05x39
 case round =>
  obtain⟨aa,t,i,j,l,g,k,h,af,bf,ai,a2,ap,R,ah⟩:=hrel;have bh:=a2.lt
  cases gk with
  | zero=>have:=af.out;unfold zD at this;simp at this
  | succ o =>
   have e:=af.out;clear af a7;unfold zD at e;rw[R.ok,ju oC]at e;have C:=zxm (T:=9) R rfl;have ao:=R.alloc (Zc #[I ⟨#[43]⟩,I ⟨#[45]⟩,I ⟨#[124]⟩] 9);have aL:=a2.alloc (Zc #[I ⟨#[43]⟩,I ⟨#[45]⟩,I ⟨#[124]⟩] 9);have aK:=ai.alloc (Zc #[I ⟨#[43]⟩,I ⟨#[45]⟩,I ⟨#[124]⟩] 9);have aJ:=ap.frP (x:=r) (Q:=fun d=>w.heap.size+1<=d/\d≠f.heap.size/\d<(wr.alloc (Zc #[I ⟨#[43]⟩,I ⟨#[45]⟩,I ⟨#[124]⟩] 9)).heap.size) (Fr.al wr (Zc #[I ⟨#[43]⟩,I ⟨#[45]⟩,I ⟨#[124]⟩] 9)) (fun d b=>⟨b.2.2,oA⟩) (fun d b=>⟨b.1,b.2.1,oG⟩);cases n:((sign (txt ts t)).2==1)
   case false =>
    rw[n]at C;have u:((sign (txt ts t)).2 != ((1:Nat):Int))=H:=oz05y53;rw[u,jv rfl]at e;simp only[jh]at e;subst e;clear n u;obtain⟨aj,ak,am,an,aM,aN,aO,aP⟩:=ai;obtain⟨b7,b8,b9,ba,_,_,_,_⟩:=a2;have aD:w.heap.size<wr.heap.size:=oA;go_wp2_with (fail);refine C.mono ?_;rintro K av ⟨rfl,P⟩;obtain rfl:=P.symm;go_wp2;refine jT (v:=Za #[U O i,I l,U O j,J g k h]) (by simp[results,results163,go_sem,aj,ak,am,an,aD]) rfl ?_;exact oz05x38
   case true =>
    rw[n]at C;have u:((sign (txt ts t)).2 != ((1:Nat):Int))=X:=oz05y53;rw[u,ju oC]at e;obtain⟨S,au,a5⟩:=qQ e;rw[ju oC]at a5;have aR:Hid (zD ts o 1 (.node 19 empty (sign (txt ts t)).1 [aa,S.1]) S.2=Z a6):=a5;exact oz05x34
theorem zwj {q:Nat} (ih:∀ {ad:Nat},ad<=q->kV r G ts 175 (qL ts ad 3)):kV r G ts 168 (qL ts (q+1) 2):=by
 intro w s a6 a8 y;have aY:=kc25;have aZ:∀(ac:Fn) (first ab:Array Zv) (w:Zw),(Instr.makeFunc ac first ab).run prog w=.ok (.func ac first ab) w:=fun _ _ _ _=>rfl
 have b0:=a8.lt;have az:=Box4.new w (U O 0) (I empty) (U O 0) (J F 0 0) 25;unfold qL at y;rw[ju oC]at y;obtain⟨E,ay,ae⟩:=qQ y;have a7:Hid (zD ts q 2 E.1 E.2=Z a6):=ae;clear y ae;go_enter func168,ntmps168;go_wp2_with (fail);refine(ih (jE _) (a8.alloc _) ay).mono ?_;rintro K f (⟨b,rfl,z⟩|⟨b,aV,rfl,W,aA,z⟩);·go_wp2;exact oz05x44
 obtain⟨b1,bc,b2,_,rfl,aW,b6,aX,rfl⟩:=W.shape;have aI:=z.size;rw[jO]at aI W;go_wp2
 go_loopg [] q (fun o wr=>∃(aa:Tree) (t:St) (i j:Int) (l:ByteArray) (g:Option Addr) (k h:Nat),Hid (zD ts o 2 aa t=Z a6)/\o<=q/\Box4 wr w.heap.size (U O 0) (I empty) (U O 0) (J F 0 0)/\Box4 wr f.heap.size (U O i) (I l) (U O j) (J g k h) /\
  Lies (fun d=>w.heap.size+1<=d/\d≠f.heap.size/\d<wr.heap.size) wr aa (Za #[U O i,I l,U O j,J g k h])/\Ld wr r G ts t/\Fr r w wr)
 case atStart =>
  exact oz05x39
 case round =>
  obtain⟨aa,t,i,j,l,g,k,h,af,bf,ai,a2,ap,R,ah⟩:=hrel;have bh:=a2.lt
  cases gk with
  | zero=>have:=af.out;unfold zD at this;simp at this
  | succ o =>
   have e:=af.out;clear af a7;unfold zD at e;rw[R.ok,ju oC]at e;have C:=zxn (T:=9) R rfl;have ao:=R.alloc (Zc #[I ⟨#[42]⟩,I ⟨#[47]⟩,I ⟨#[37]⟩,I ⟨#[38]⟩] 9);have aL:=a2.alloc (Zc #[I ⟨#[42]⟩,I ⟨#[47]⟩,I ⟨#[37]⟩,I ⟨#[38]⟩] 9);have aK:=ai.alloc (Zc #[I ⟨#[42]⟩,I ⟨#[47]⟩,I ⟨#[37]⟩,I ⟨#[38]⟩] 9);have aJ:=ap.frP (x:=r) (Q:=fun d=>w.heap.size+1<=d/\d≠f.heap.size/\d<(wr.alloc (Zc #[I ⟨#[42]⟩,I ⟨#[47]⟩,I ⟨#[37]⟩,I ⟨#[38]⟩] 9)).heap.size) (Fr.al wr (Zc #[I ⟨#[42]⟩,I ⟨#[47]⟩,I ⟨#[37]⟩,I ⟨#[38]⟩] 9)) (fun d b=>⟨b.2.2,oA⟩) (fun d b=>⟨b.1,b.2.1,oG⟩);cases n:((sign (txt ts t)).2==2)
   case false =>
    rw[n]at C;have u:((sign (txt ts t)).2 != ((2:Nat):Int))=H:=oz05y54;rw[u,jv rfl]at e;simp only[jh]at e;subst e;clear n u;obtain⟨aj,ak,am,an,aM,aN,aO,aP⟩:=ai;obtain⟨b7,b8,b9,ba,_,_,_,_⟩:=a2;have aD:w.heap.size<wr.heap.size:=oA;go_wp2_with (fail);refine C.mono ?_;rintro K av ⟨rfl,P⟩;obtain rfl:=P.symm;go_wp2;refine jT (v:=Za #[U O i,I l,U O j,J g k h]) (by simp[results,results168,go_sem,aj,ak,am,an,aD]) rfl ?_;exact oz05x38
   case true =>
    rw[n]at C;have u:((sign (txt ts t)).2 != ((2:Nat):Int))=X:=oz05y54;rw[u,ju oC]at e;obtain⟨S,au,a5⟩:=qQ e;rw[ju oC]at a5;have aR:Hid (zD ts o 2 (.node 19 empty (sign (txt ts t)).1 [aa,S.1]) S.2=Z a6):=a5;exact oz05x34
theorem ya0 {q:Nat} (ih:∀ {ad:Nat},ad<=q->kV r G ts 163 (qL ts ad 1)):kV r G ts 155 (kM ts (q+2)):=by
 intro w s a6 a8 y;have aY:=kc25;have aZ:∀(ac:Fn) (first ab:Array Zv) (w:Zw),(Instr.makeFunc ac first ab).run prog w=.ok (.func ac first ab) w:=fun _ _ _ _=>rfl
 have b0:=a8.lt;have az:=Box4.new w (U O 0) (I empty) (U O 0) (J F 0 0) 25;unfold kM at y;rw[a8.ok,ju oC]at y;unfold qL at y;rw[ju oC]at y;obtain⟨E,ay,ae⟩:=qQ y;have a7:Hid (zD ts q 0 E.1 E.2=Z a6):=ae;clear y ae;go_enter func155,ntmps155;go_wp2_with (fail);refine(ih (jE _) (a8.alloc _) ay).mono ?_;rintro K f (⟨b,rfl,z⟩|⟨b,aV,rfl,W,aA,z⟩);·go_wp2;exact oz05x44
 obtain⟨i,l,j,_,rfl,g,k,h,rfl⟩:=W.shape;have aI:=z.size;rw[jO]at aI W;have R:=aA.alloc (Zc #[U O i,I l,U O j,J g k h] 25);have ai:=(az.fr z oA).alloc (Zc #[U O i,I l,U O j,J g k h] 25);have a2:=Box4.new f (U O i) (I l) (U O j) (J g k h) 25;have ah:=((Fr.al w (Zc #[U O 0,I empty,U O 0,J F 0 0] 25)).trans z).alloc (Zc #[U O i,I l,U O j,J g k h] 25);have ap:=W.frP (x:=r) (Q:=fun d=>w.heap.size+1<=d/\d≠f.heap.size/\d<(f.alloc (Zc #[U O i,I l,U O j,J g k h] 25)).heap.size) (Fr.al f (Zc #[U O i,I l,U O j,J g k h] 25)) (fun d b=>⟨b.2,oA⟩) (fun d b=>⟨oA,oA,oG⟩);have bj:(f.alloc (Zc #[U O i,I l,U O j,J g k h] 25)).heap.size=f.heap.size+1:=jO _ _;have C:=zxl (T:=9) (M:=f.heap.size+1) R bj.symm;have ao:=R.alloc (Zc #[I ⟨#[61,61]⟩,I ⟨#[60]⟩] 9);have aL:=a2.alloc (Zc #[I ⟨#[61,61]⟩,I ⟨#[60]⟩] 9);have aK:=ai.alloc (Zc #[I ⟨#[61,61]⟩,I ⟨#[60]⟩] 9);have aJ:=ap.frP (x:=r) (Q:=fun d=>w.heap.size+1<=d/\d≠f.heap.size/\d<((f.alloc (Zc #[U O i,I l,U O j,J g k h] 25)).alloc (Zc #[I ⟨#[61,61]⟩,I ⟨#[60]⟩] 9)).heap.size) (Fr.al _ (Zc #[I ⟨#[61,61]⟩,I ⟨#[60]⟩] 9)) (fun d b=>⟨b.2.2,oA⟩) (fun d b=>⟨b.1,b.2.1,oG⟩)
 cases q with
 | zero=>have:=a7.out;unfold zD at this;simp at this
 | succ o =>
  have e:=a7.out;clear a7;unfold zD at e;rw[b,ju oC]at e;cases n:((sign (txt ts E.2)).2==0)
  case false =>
   rw[n]at C;have u:((sign (txt ts E.2)).2 != ((0:Nat):Int))=H:=oz05y55;rw[u,jv rfl]at e;simp only[jh]at e;subst e;clear n u;obtain⟨aj,ak,am,an,aM,aN,aO,aP⟩:=az.fr z oA;have aD:w.heap.size<f.heap.size:=oA;go_wp2_with (fail);refine C.mono ?_;rintro K av ⟨rfl,P⟩;obtain rfl:=P.symm;go_wp2;refine jT (v:=Za #[U O i,I l,U O j,J g k h]) (by simp[results,results155,go_sem,aj,ak,am,an,aD]) rfl ?_;have aU:=Fr.put f w.heap.size (U O i) (I l) (U O j) (J g k h);exact .inr ⟨b,_,rfl,(W.frP (x:=w.heap.size) aU (fun d b=>⟨b.2,oA⟩) (fun d b=>b)).frP (x:=r) ((Fr.al _ _).trans (Fr.al _ _)) (fun d b=>⟨by simpa using b.2,oA⟩) (fun d b=>⟨oA,oE⟩),((aA.put4 oA _ _ _ _).alloc _).alloc _,((((Fr.al _ _).trans z).put4 (jE _) _ _ _ _).alloc _).alloc _⟩
  case true =>
   rw[n]at C;have u:((sign (txt ts E.2)).2 != ((0:Nat):Int))=X:=oz05y55;rw[u,ju oC]at e;obtain⟨S,au,a5⟩:=qQ e;rw[jv oC]at a5;simp only[jh]at a5;subst a5;have a9:0<=(sign (txt ts E.2)).2:=by rw[beq_iff_eq]at n;rw[n];decide
   clear e n u;by_cases a3:S.2.bad=H;·have ag:=zkc oC (k:=i) (m:=j) (x:=l) (a:=g) (nn:=k) (c:=h) (ih (show o<=o+1 by omega)) ao a9 au a3;clear a9;go_wp2_with (fail);refine C.mono ?_;rintro K av ⟨rfl,P⟩;obtain rfl:=P.symm;go_wp2_with (fail);refine ag.mono ?_;rintro K aQ ⟨rfl,V⟩;go_wp2;exact⟨rfl,kG.lost rfl a3 ((ah.trans (Fr.al _ _)).trans V)⟩
   ·have aB:S.2.bad=X:=by simpa using a3
    have ag:=zkb oC (ih (show o<=o+1 by omega)) ao (B:=w.heap.size+1) (D:=f.heap.size) oA oG oG aJ a9 au aB;clear a9 a3;generalize (sign (txt ts E.2)).1=bm at *;go_wp2_with (fail);refine C.mono ?_;rintro K av ⟨rfl,P⟩;obtain rfl:=P.symm;go_wp2_with (fail);refine ag.mono ?_;rintro K aQ ⟨bb,rfl,aC,aS,V⟩;obtain⟨aE,aH,aF,_,rfl,aw,aG,ax,rfl⟩:=aC.shape;have ar:=aL.fr V oA;have aT:=aK.fr V oA;have bi:=ar.lt;obtain⟨aj,ak,am,an,aM,aN,aO,aP⟩:=id ar;obtain⟨bn,bo,bp,bq,br,aV,bs,bb⟩:=id aT;go_wp2;refine jT (v:=Za #[U O aE,I aH,U O aF,J aw aG ax]) (by simp[results,results155,go_sem,bn,bo,bp,bq]) rfl ?_;have be:Fr r w _:=((ah.trans (Fr.al _ _)).trans V).put4 (N:=f.heap.size) oA (U O aE) (I aH) (U O aF) (J aw aG ax);have bg:=aC.frP (x:=f.heap.size) (Fr.put aQ f.heap.size (U O aE) (I aH) (U O aF) (J aw aG ax)) (fun d b=>⟨b.2.2,b.2.1⟩) (fun d b=>b);exact .inr ⟨aB,_,rfl,bg.frP (x:=w.heap.size) (Fr.put _ _ _ _ _ _) (fun d b=>⟨by simpa using b.2.2,oA⟩) (fun d b=>⟨oA,by simpa using b.2.2⟩),(aS.put4 oA _ _ _ _).put4 oA _ _ _ _,be.put4 (jE _) _ _ _ _⟩
end
end syn
namespace syn
open Go.RowKit
open lexs (Tok Fine own_shape)
section
variable (ts:List Tok) (item:Nat->St->Option (Tree × St))
def uL:Nat->List Tree->St->Option (List Tree × St)
 | 0,_,_=>F
 | f+1,ks,s=>(item f s).bind fun q=>if eqS (txt ts q.2) ⟨#[44]⟩ then uL f (ks++[q.1]) q.2.next else Z (ks++[q.1],kB ts ⟨#[41]⟩ q.2)
def cJ (f:Nat) (s:St):Option (List Tree × St):=if eqS (txt ts s) ⟨#[41]⟩ then Z ([],s.next)else uL ts item f [] s
end
section
variable {w w' w0:Zw} {r G B:Nat} {ts:List Tok} {s:St} {kv:Zv} {ks:List Tree}
structure KO (w0:Zw) (B r G:Nat) (ts:List Tok) (w:Zw) (s:St) (kv:Zv) (ks:List Tree):Prop where
 ld:Ld w r G ts s
 low:r<w0.heap.size
 b0:w0.heap.size<=B
 fr:Fr r w0 w
 kids:Kids B (fun b=>B<=b/\b<w.heap.size/\Z b≠kv.ownBlock) w kv ks
variable {c:Nat}
theorem KO.nr (a:KO w0 B r G ts w s kv ks):kv.ownBlock≠Z r:=fun b=>by have c:=(a.kids.blk b).1;have d:=a.low;have e:=a.b0;omega
theorem KO.step (a:KO w0 B r G ts w s kv ks) {d:St} (f:Ld w' r G ts d) (c:Fr r w w'):KO w0 B r G ts w' d kv ks :=
 ⟨f,a.low,a.b0,a.fr.trans c,a.kids.grown c (.inr a.nr) (fun e b=>⟨b.2.1,by have:=a.low;have:=a.b0;simp;omega⟩) (fun e b=>⟨b.1,jo b.2.1 c.size,b.2.2⟩)⟩
theorem KO.set (a:KO w0 B r G ts w s kv ks) {N:Nat} (e:w0.heap.size<=N) (f:N<B) (o:Nat) (v:Zv):KO w0 B r G ts (w.setCell (A N o F) v) s kv ks :=
 ⟨a.ld.set (by have:=a.low;omega) o v,a.low,a.b0,a.fr.setNew e v,a.kids.grown ((Fr.refl N w).set o v) (.inr (fun d=>by have:=(a.kids.blk d).1;omega)) (fun c b=>⟨b.2.1,oE⟩) (fun c b=>⟨b.1,by rw[jQ];exact b.2.1,b.2.2⟩)⟩
theorem KO.pushed {j:List Q4} (c:KO w0 B r G ts w s kv ks) (L:w.ownsRow B 25 4 kv ks.length (xS j)) (o:kW (fun b=>B<=b/\b<w.heap.size/\Z b≠kv.ownBlock) w ks j) {t:Tree} {q:Q4} (x:Lies (fun b=>B<=b/\b<w.heap.size/\Z b≠kv.ownBlock) w t q.v) {g:Zw} {i:Zv} {C:Obj} (z:g.ownsRow B 25 4 i (ks.length+1) (xS j++[q.1,q.2.1,q.2.2.1,q.2.2.2])) (u:(w.alloc C).grownBy g kv.ownBlock) (p:i.ownBlock=kv.ownBlock\/i.ownBlock=Z (w.heap.size+1)):KO w0 B r G ts g s i (ks++[t]):=by
 have d:w.grownBy g kv.ownBlock:=gN (World.grownBy_alloc w _ _) u;have N:=d.size;have K:=c.low;have E:=c.b0
 have l:∀b,(B<=b/\b<w.heap.size/\Z b≠kv.ownBlock)->(B<=b/\b<g.heap.size/\Z b≠i.ownBlock):=fun b h=>⟨h.1,oA,fun e=>by
  rcases p with k | k
  ·exact h.2.2 (e.trans k)
  ·rw[k]at e;have:b=w.heap.size+1:=by simpa using e
   omega⟩
 have n:∀b,(B<=b/\b<w.heap.size/\Z b≠kv.ownBlock)->∀f,g.cell? (A b f F)=w.cell? (A b f F):=fun b h f=>jM (a:=(A b f F)) (d.block b h.2.1 h.2.2)
 refine⟨c.ld.keep d (fun M e=>by have D:=(c.kids.blk e).1;omega),c.low,c.b0,?_,j++[q],?_,kW.snoc (x.to l n) (o.to l n)⟩;·exact⟨d.os.trans c.fr.os,d.tape.trans c.fr.tape,d.output.trans c.fr.output,jp c.fr.size d.size,fun f m y=>(d.block f (jo m c.fr.size) (fun e=>by have:=(c.kids.blk e.symm).1;omega)).trans (c.fr.block f m y)⟩
 ·rw[zap,jb];exact z
theorem KO.one {h:Tree} {b d e f:Zv} (l:Ld w r G ts s) (p:r<w0.heap.size) (n:w0.heap.size<=B) (k:Fr r w0 w) (j:B<=w.heap.size) (m:c=w.heap.size) (o:Lies (fun a=>B<=a/\a<w.heap.size) w h (Za #[b,d,e,f])) : KO w0 B r G ts (w.alloc (Zc #[b,d,e,f] 25)) s (J (Z (A c 0 F)) 1 1) [h]:=by
 subst m;refine⟨l.alloc _,p,n,k.alloc _,[(b,d,e,f)],World.ownsRow_lit w #[b,d,e,f] 1 j oC rfl,?_,trivial⟩
 exact o.frP (x:=w.heap.size) (Fr.al _ _) (fun a g=>⟨g.2,oA⟩) (fun a g=>⟨g.1,oG,fun i=>by
  have:a=w.heap.size:=by simpa[Value.ownBlock] using i
  omega⟩)
def yaq (w:Zw) (r G:Nat) (ts:List Tok) (q:List Tree × St) (e:Ending) (w':Zw):Prop :=
 (q.2.bad=H/\e=.panicked (Pan ts q.2)/\Fr r w w')\/(q.2.bad=X/\q.1.length<=100001/\∃kv,e=.returned kv/\KO w w.heap.size r G ts w' q.2 kv q.1)
theorem zta (a:Ld w r G ts s) (e:eqS (txt ts s) ⟨#[44]⟩=H) {b:TypeId} (k:c=w.heap.size) : Calls prog 80 #[Zp (Z (A r 0 F)),J (Z (A c 0 F)) 2 2] (w.alloc (Zc #[I ⟨#[44]⟩,I ⟨#[41]⟩] b)) fun d w'=>∃h,(h.toList==[44])=H/\d=.returned (I h)/\Ld w' r G ts s.next/\Fr r w w':=by
 have g:zN ts s [⟨#[44]⟩,⟨#[41]⟩]=H:=by unfold zN;simp[e]
 refine(zaz (a.alloc _) [⟨#[44]⟩,⟨#[41]⟩] c 2 oB oC (Words.two w _ _ b k) g).mono ?_;rintro d w' ⟨rfl,i,j⟩;have f:=dC oC g;refine⟨_,?_,rfl,i,(Fr.al _ _).trans j⟩;rw[<- eqS_lit,<- zdp (a.good _ (jH f)) a.ok (dJ f) oC];exact e
theorem zw3 (a:Ld w r G ts s) (i:eqS (txt ts s) ⟨#[44]⟩=X) (h:eqS (txt ts s) ⟨#[41]⟩=H) {b:TypeId} (l:c=w.heap.size) : Calls prog 80 #[Zp (Z (A r 0 F)),J (Z (A c 0 F)) 2 2] (w.alloc (Zc #[I ⟨#[44]⟩,I ⟨#[41]⟩] b)) fun d w'=>∃g,(g.toList==[44])=X/\d=.returned (I g)/\Ld w' r G ts s.next/\Fr r w w':=by
 have f:zN ts s [⟨#[44]⟩,⟨#[41]⟩]=H:=by unfold zN;simp[h]
 refine(zaz (a.alloc _) [⟨#[44]⟩,⟨#[41]⟩] c 2 oB oC (Words.two w _ _ b l) f).mono ?_;rintro d w' ⟨rfl,j,k⟩;have e:=dC oC f;refine⟨_,?_,rfl,j,(Fr.al _ _).trans k⟩;rw[<- eqS_lit,<- zdp (a.good _ (jH e)) a.ok (dJ e) oC];exact i
theorem zu2 (f:Ld w r G ts s) (e:eqS (txt ts s) ⟨#[44]⟩=X) (d:eqS (txt ts s) ⟨#[41]⟩=X) {a:TypeId} (g:c=w.heap.size) : Calls prog 80 #[Zp (Z (A r 0 F)),J (Z (A c 0 F)) 2 2] (w.alloc (Zc #[I ⟨#[44]⟩,I ⟨#[41]⟩] a)) fun b w'=>b=.panicked (Pan ts s)/\Fr r w w':=by
 refine(ze9 (f.alloc _) [⟨#[44]⟩,⟨#[41]⟩] c 2 oB oC (Words.two w _ _ a g) (by unfold zN;simp[d,e])).mono ?_;rintro b w' ⟨rfl,rfl⟩;exact⟨rfl,Fr.al _ _⟩
theorem zqk (aj:c=155\/c=124) {item:Nat->St->Option (Tree × St)} {f:Nat} (ih:∀ {h:Nat},h<=f->kV r G ts c (item h)) (aN:∀(h:Nat) (s:St) (d:Tree × St),s.bad=H->item h s=Z d->d.2=s) (aK:f<=100000) (z:Ld w r G ts s) {d:List Tree × St} (b:cJ ts item f s=Z d) : Calls prog 123 #[Zp (Z (A r 0 F)),.func (.func c) #[Zp (Z (A r 0 F))] #[]] w (yaq w r G ts d):=by
 rcases aj with rfl | rfl
 all_goals
  have aJ:=kc25;have af:=z.lt;obtain⟨aC,hi,az,aA,aB⟩:=info_parts uD;unfold cJ at b;cases o:eqS (txt ts s) ⟨#[41]⟩
  case true =>
   rw[o,jv rfl]at b;simp only[jh]at b;subst b;have Q:=yQ (T:=9) z ⟨#[41]⟩ oC o rfl;have a2:s.next.bad=X:=z.ok;clear o;go_enter func123,ntmps123;go_wp2_with (fail);refine Q.mono ?_;rintro a aE ⟨rfl,W,q⟩;go_wp2;go_ret;exact .inr ⟨a2,oB,_,rfl,W,af,jE _,q,Kids.nil _ _ _⟩
  case false =>
   rw[o,ju oC]at b;have Q:=yM (T:=9) z ⟨#[41]⟩ oC o rfl;clear o
   cases f with
   | zero=>unfold uL at b;simp at b
   | succ f =>
    unfold uL at b;obtain⟨k,ah,b⟩:=qQ b;have m:Hid ((if eqS (txt ts k.2) ⟨#[44]⟩ then uL ts item f ([]++[k.1]) k.2.next else Z ([]++[k.1],kB ts ⟨#[41]⟩ k.2))=Z d):=b;clear b;go_enter func123,ntmps123;go_wp2_with (fail);refine Q.mono ?_;rintro a aE ⟨rfl,W,q⟩;go_wp2_with (fail);refine(ih (Nat.le_succ _) W ah).mono ?_;rintro a aU (⟨D,rfl,y⟩|⟨D,aS,rfl,ab,am,y⟩)
    ·have HS:Hid (d.2=k.2):=by
      have:=m.out;rw[zH oC D,ju oC]at this;simp only[jh]at this;show _=_;rw[<- this];exact qE oC D
     go_wp2;exact⟨rfl,.inl ⟨by rw[HS.out];exact D,by rw[HS.out],q.trans y⟩⟩
    obtain⟨aO,aW,aP,_,rfl,aH,aQ,aI,rfl⟩:=ab.shape;have aG:=q.size;have aX:=y.size;have a9:=KO.one (B:=w.heap.size) am af (jE _) (q.trans y) oA rfl (ab.low aG);go_wp2
    go_loopg [5] f (fun p kv wr=>∃(ks:List Tree) (l:St),Hid ((if eqS (txt ts l) ⟨#[44]⟩ then uL ts item p ks l.next else Z (ks,kB ts ⟨#[41]⟩ l))=Z d)/\ks.length+p<=f+1/\KO w w.heap.size r G ts wr l kv ks)
    case atStart=>exact⟨[]++[k.1],k.2,m.out,oE,a9⟩
    case round =>
     obtain⟨ks,l,K,aL,i⟩:=hrel;clear m a9;obtain⟨L,N,rfl⟩:=i.kids.shape;cases u:eqS (txt ts l) ⟨#[44]⟩
     case false =>
      have e:=K.out;rw[u,ju oC]at e;simp only[jh]at e;subst e;cases v:eqS (txt ts l) ⟨#[41]⟩
      case false =>
       rw[zeu v];go_wp2_with (fail);refine(zu2 i.ld u v rfl).mono ?_;rintro a a7 ⟨rfl,n⟩;go_wp2;exact⟨rfl,.inl ⟨rfl,rfl,i.fr.trans n⟩⟩
      case true =>
       have a2:l.next.bad=X:=i.ld.ok;go_wp2_with (fail);refine(zw3 i.ld u v rfl).mono ?_;rintro a a7 ⟨aF,ay,rfl,C,n⟩;go_wp2;go_ret;exact .inr ⟨by simp only[cX v];exact a2,oP,_,rfl,by simp only[cX v];exact i.step C n⟩
     case true =>
      have e:=K.out;rw[u,jv rfl]at e;clear K
      cases gk with
      | zero=>unfold uL at e;simp at e
      | succ p =>
       unfold uL at e;obtain⟨j,ai,ae⟩:=qQ e;have m:Hid ((if eqS (txt ts j.2) ⟨#[44]⟩ then uL ts item p (ks++[j.1]) j.2.next else Z (ks++[j.1],kB ts ⟨#[41]⟩ j.2))=Z d):=ae;clear e ae;go_wp2_with (fail);refine(zta i.ld u rfl).mono ?_;rintro a a7 ⟨aF,ay,rfl,C,n⟩;have S:=i.step C n;go_wp2_with (fail);refine(ih (show p<=f+1 by omega) C ai).mono ?_;rintro a x (⟨E,rfl,R⟩|⟨E,aT,rfl,ac,an,R⟩)
       ·have HS:Hid (d.2=j.2):=by
         have:=m.out;rw[zH oC E,ju oC]at this;simp only[jh]at this;show _=_;rw[<- this];exact qE oC E
        go_wp2;exact⟨rfl,.inl ⟨by rw[HS.out];exact E,by rw[HS.out],(i.fr.trans n).trans R⟩⟩
       obtain⟨a3,a8,a5,_,rfl,M,a6,P,rfl⟩:=ac.shape;have av:∀h,(Value.slice L ks.length N).ownBlock=Z h->w.heap.size<=h/\h<a7.heap.size:=fun h ar=>S.kids.blk ar
       have V:=S.step an R;have aZ:=V.fr.size;have aY:=S.fr.size
       have aw:Lies (fun g=>w.heap.size<=g/\g<x.heap.size/\Z g≠(Value.slice L ks.length N).ownBlock) x j.1 (Za #[U O a3,I a8,U O a5,J M a6 P]) :=
        ac.to (fun g ao=>⟨oA,ao.2,fun a=>by have:=(av g a.symm).2;omega⟩) (fun _ _ _=>rfl)
       obtain⟨aD,ad,aa⟩:=V.kids;have ag:Hid (kW (fun g=>w.heap.size<=g/\g<x.heap.size/\Z g≠(Value.slice L ks.length N).ownBlock) x ks aD):=aa;have aM:ks.length<=100001:=oA;clear aa;go_wp2_with (at_builtin;refine uQ rfl (.tmp 16) (.tmp 19) 23 rfl w.heap.size 25 aC (Za #[U O 0,I ⟨#[]⟩,U O 0,J F 0 0]) 4 56 underlying23 hi az aA aB rfl oC _ _ _ rfl (ad.alloc _) (A x.heap.size 0 F) 1 1 [U O a3,I a8,U O a5,J M a6 P] rfl rfl (xL _ _ _ _ _ _ _ rfl) oF (by unfold maxLen;omega) oA oH oC ?_;intro aR aV ax au ap;have ak:=KO.pushed (q:=(U O a3,I a8,U O a5,J M a6 P)) (t:=j.1) V ad ag.out aw ax au (by rcases ap with a | a;exact .inl a;exact .inr (by rw[a];simp)))
       go_roundg p
       case rel=>exact⟨_,j.2,m.out,oL,ak⟩
       case measure=>omega
end
section
variable {w w' w0:Zw} {r G B:Nat} {ts:List Tok} {s:St}
variable {a:Nat}
theorem zr9 {j:ByteArray} :∀ {ks:List Tree} {s:St} {f:Tree × St},s.bad=X->yI ts a j ks s H=Z f->∃g,uL ts (kM ts) a ks s=Z g/\f=(.node 18 j 0 g.1,g.2):=by
 induction a with
 | zero=>intro ks s f i c;unfold yI at c;simp at c
 | succ a ih =>
  intro ks s f i c;unfold yI at c;rw[i]at c;simp only[Bool.not_false,Bool.and_self,if_true]at c;obtain⟨h,k,b⟩:=qQ c;unfold uL;rw[k];simp only[jf];unfold eat at b;cases e:eqS (txt ts h.2) ⟨#[44]⟩
  ·rw[e]at b;simp only[jr,if_false]at b |-
   cases a with
   | zero=>unfold yI at b;simp at b
   | succ a =>
    unfold yI at b;simp only[Bool.false_and,jr,if_false,jh]at b;exact⟨_,rfl,b.symm⟩
  ·rw[e]at b;simp only[if_true]at b |-
   have d:h.2.next.bad=X:=by
    cases d:h.2.bad;·exact d
    ·rw[zH oC d]at e;cases e
   exact ih d b
theorem zh7 {f:ByteArray} {e:Tree × St} (g:(kB ts ⟨#[40]⟩ s).bad=X) (b:zV ts (a+1) f s=Z e):∃c,cJ ts (kM ts) a (kB ts ⟨#[40]⟩ s)=Z c/\e=(.node 18 f 0 c.1,c.2):=by
 unfold zV at b;unfold cJ;cases d:eqS (txt ts (kB ts ⟨#[40]⟩ s)) ⟨#[41]⟩;·rw[d]at b;simp only[jr,if_false]at b |-;exact zr9 g b
 ·rw[d]at b;simp only[if_true,jh]at b |-;exact⟨_,rfl,b.symm⟩
theorem zqj (ih:∀ {d:Nat},d<=a->kV r G ts 155 (kM ts d)) (o:a<=100000) (f:ByteArray) {w:Zw} {s:St} {e:List Tree × St} (i:Ld w r G ts s) (q:cJ ts (kM ts) a s=Z e) : Calls prog 152 #[Zp (Z (A r 0 F)),I f] w (kG w r G ts (.node 18 f 0 e.1,e.2)):=by
 have E:=kc25;have M:∀(h:Fn) (first g:Array Zv) (w:Zw),(Instr.makeFunc h first g).run prog w=.ok (.func h first g) w:=fun _ _ _ _=>rfl
 have t:=i.lt;have m:=Box4.new w (U O 0) (I empty) (U O 0) (J F 0 0) 25;go_enter func152,ntmps152;go_wp2_with (fail);refine(zqk oC ih (fun d s u c l=>(stuck ts d).e s u c l) o (i.alloc _) q).mono ?_;rintro K S (⟨c,rfl,n⟩|⟨c,L,kv,rfl,b⟩);·go_wp2;exact⟨rfl,kG.lost rfl c ((Fr.al _ _).trans n)⟩
 obtain⟨j,k,rfl⟩:=b.kids.shape;have C:=b.fr.size;rw[jO]at C;obtain⟨x,y,z,B,N,P,Q,R⟩:=m.fr b.fr oA;go_wp2;refine jT (v:=Za #[U O 18,I f,U O 0,J j e.1.length k]) (by simp[results,results152,go_sem,x,y,z,B]) rfl ?_;refine kG.fin t ((Fr.al _ _).trans b.fr) b.ld (jE _) (Nat.lt_succ_self _) ?_;exact b.kids.lies (fun D c=>⟨by have:=c.1;rw[jO]at this;exact this,c.2.1⟩) (fun d p=>by have:=b.kids.blk p;rw[jO]at this;exact this) oA
theorem zj0 (a:Ld w r G ts s) (b:s.i<ts.length):vY ts s=(ts[s.i].kind==2):=by unfold vY;rw[bM a.ok,dJ b]
theorem ztv (a:¬s.i<ts.length):vY ts s=X:=by
 unfold vY here;rw[List.getElem?_eq_none oA];cases s.bad<;>rfl
def zg8 (ts:List Tok) (f:Nat) (s:St):Option (Tree × St) :=
 if eqS (txt ts s) ⟨#[40]⟩ then qY ts f s
 else if vY ts s then Z (number ts s)
 else if eqS (txt ts (whole ts s).2) ⟨#[40]⟩ then zV ts f (whole ts s).1 (whole ts s).2 else qZ ts f (whole ts s).1 (whole ts s).2
theorem zpk (e:Ld w r G ts s) (a:ByteArray) (i:[a].all xJ=H) {b:Bool} (f:eqS (txt ts s) a=b) {M:Nat} {T:TypeId} (h:M=w.heap.size) : Calls prog 96 #[Zp (Z (A r 0 F)),J (Z (A M 0 F)) 1 1] (w.alloc (Zc #[I a] T)) fun c w'=>c=.returned (Y b)/\Ld w' r G ts s/\Fr r w w' :=
 (fS (e.alloc _) [a] M 1 oB i (Words.one w a T h)).mono fun c w' ⟨g,d⟩=>⟨by rw[g,zbf f],by rw[d];exact e.alloc _,by rw[d];exact Fr.al _ _⟩
theorem kG.hand {b:Zw} {a:Tree × St} {d e f g:Zv} {c:Zw} (m:r<w.heap.size) (i:Fr r w c) (n:w.heap.size<c.heap.size) (o:a.2.bad=X) (l:Lies (fun h=>c.heap.size<=h/\h<b.heap.size) b a.1 (Za #[d,e,f,g])) (k:Ld b r G ts a.2) (j:Fr r c b) : kG w r G ts a (.returned (Za #[d,e,f,g])) ((((b.setCell (A w.heap.size 0 F) d).setCell (A w.heap.size 1 F) e).setCell (A w.heap.size 2 F) f).setCell (A w.heap.size 3 F) g) :=
 kG.fin (t:=a.1) (s3:=a.2) m (i.trans j) k (jE _) n l
theorem yay (aF:a<=100000) (am:kV r G ts 154 (qY ts a)) (ak:∀ {p:Nat},p<a->kV r G ts 155 (kM ts p)):kV r G ts 182 (zg8 ts a):=by
 intro w s q u b;have aD:=kc25;have aE:=kc76;have af:=u.lt;have ab:=Box4.new w (U O 0) (I empty) (U O 0) (J F 0 0) 25;have ac:=u.alloc (Zc #[U O 0,I empty,U O 0,J F 0 0] 25);have aG:=u.len;unfold zg8 at b;cases C:eqS (txt ts s) ⟨#[40]⟩
 case true =>
  rw[C,jv rfl]at b;have t:=zpk (T:=9) ac ⟨#[40]⟩ oC C (M:=w.heap.size+1) oB;go_enter func182,ntmps182;go_wp2_with (fail);refine t.mono ?_;rintro h a6 ⟨rfl,d,c⟩;have l:=c.size;rw[jO]at l;go_wp2_with (fail);refine(am d b).mono ?_;exact oz05x37
 case false =>
  rw[C,ju oC]at b;have t:=zpk (T:=9) ac ⟨#[40]⟩ oC C (M:=w.heap.size+1) oB;cases o:vY ts s
  case true =>
   rw[o,jv rfl]at b;simp only[jh]at b;subst b
   have k:s.i<ts.length:=by
    rcases jL s.i ts.length with e | e
    ·exact e
    ·rw[ztv oA]at o;cases o
   have ai:=(zj0 u k).symm.trans o;go_enter func182,ntmps182;go_wp2_with (fail);refine t.mono ?_;rintro h a6 ⟨rfl,d,c⟩;have l:=c.size;rw[jO]at l;obtain⟨a8,a9,L,aa,B⟩:=d.c0;obtain rfl:=B k;obtain⟨az,aA,aB⟩:=d.tok s.i k;have Q:0<ts.length - s.i:=oA;have aj:ts.length - s.i<=3000:=oA;generalize ts[s.i].kind=av at *;generalize ts.length - s.i=an at *;go_wp2_with (fail);refine(zgc d).mono ?_;exact oz05x37
  case false =>
   rw[o,ju oC]at b
   obtain⟨a,rfl⟩:∃ag,a=ag+1:=by
    cases a with
    | zero=>unfold zV qZ at b;simp at b
    | succ a=>exact⟨a,rfl⟩
   have ih:∀ {p:Nat},p<=a->kV r G ts 155 (kM ts p):=fun e=>ak oA
   have ah:a<=100000:=oA;by_cases k:s.i<ts.length;·have ai:=(zj0 u k).symm.trans o;go_enter func182,ntmps182;go_wp2_with (fail);refine t.mono ?_;rintro h a6 ⟨rfl,d,c⟩;have l:=c.size;rw[jO]at l;obtain⟨a8,a9,L,aa,B⟩:=d.c0;obtain rfl:=B k;obtain⟨az,aA,aB⟩:=d.tok s.i k;have Q:0<ts.length - s.i:=oA;have aj:ts.length - s.i<=3000:=oA;generalize ts[s.i].kind=av at *;generalize ts.length - s.i=an at *;exact oz05x33
   ·go_enter func182,ntmps182;go_wp2_with (fail);refine t.mono ?_;rintro h a6 ⟨rfl,d,c⟩;have l:=c.size;rw[jO]at l;obtain⟨a8,a9,L,aa,B⟩:=d.c0;have Q:ts.length - s.i=0:=oA;rw[Q]at L;exact oz05x33
theorem zui (a2:kV r G ts 175 (zQ ts a)) (af:kV r G ts 182 (zg8 ts a)):kV r G ts 175 (zQ ts (a+1)):=by
 intro w s q P e;have av:=kc25;have ae:=P.lt;have D:=Box4.new w (U O 0) (I empty) (U O 0) (J F 0 0) 25;have Q:=P.alloc (Zc #[U O 0,I empty,U O 0,J F 0 0] 25);unfold zQ at e;cases o:eqS (txt ts s) ⟨#[45]⟩
 case true =>
  rw[o,jv rfl]at e;obtain⟨an,C,h⟩:=qQ e;simp only[jh]at h;subst h;have l:=yQ (T:=9) Q ⟨#[45]⟩ oC o (M:=w.heap.size+1) oB;go_enter func175,ntmps175;go_wp2_with (fail);refine l.mono ?_;rintro f z ⟨rfl,i,b⟩;have k:=b.size;rw[jO]at k;go_wp2_with (fail);refine(a2 i C).mono ?_;rintro f d (⟨g,rfl,c⟩|⟨g,ao,rfl,n,R,c⟩);·go_wp2;exact⟨rfl,kG.lost rfl g (((Fr.al _ _).trans b).trans c)⟩
  obtain⟨ag,ar,ai,_,rfl,a8,ak,aa,rfl⟩:=n.shape;have au:=c.size;have W:w.heap.size<d.heap.size:=oA;obtain⟨t,u,x,y,a3,a5,a6,a7⟩:=(D.fr b oA).fr c oA;go_wp2;refine jT (v:=Za #[U O 20,I empty,U O 0,J (Z (A d.heap.size 0 F)) 1 1]) oz05y56 rfl ?_;have V:=Fr.put d w.heap.size (U O 20) (I empty) (U O 0) (J (Z (A d.heap.size 0 F)) 1 1);exact oz05x40
 case false =>
  rw[o,ju oC]at e;have l:=yM (T:=9) Q ⟨#[45]⟩ oC o (M:=w.heap.size+1) oB;cases p:eqS (txt ts s) ⟨#[33]⟩
  case true =>
   rw[p,jv rfl]at e;obtain⟨an,C,h⟩:=qQ e;simp only[jh]at h;subst h;go_enter func175,ntmps175;go_wp2_with (fail);refine l.mono ?_;rintro f w0 ⟨rfl,L,E⟩;go_wp2_with (fail);refine(yQ L ⟨#[33]⟩ oC p rfl).mono ?_;rintro f z ⟨rfl,i,K⟩;have b:=E.trans K;have k:=b.size;rw[jO]at k;go_wp2_with (fail);refine(a2 i C).mono ?_;rintro f d (⟨g,rfl,c⟩|⟨g,ao,rfl,n,R,c⟩);·go_wp2;exact⟨rfl,kG.lost rfl g (((Fr.al _ _).trans b).trans c)⟩
   obtain⟨ag,ar,ai,_,rfl,a8,ak,aa,rfl⟩:=n.shape;have au:=c.size;have W:w.heap.size<d.heap.size:=oA;obtain⟨t,u,x,y,a3,a5,a6,a7⟩:=(D.fr b oA).fr c oA;go_wp2;refine jT (v:=Za #[U O 21,I empty,U O 0,J (Z (A d.heap.size 0 F)) 1 1]) oz05y56 rfl ?_;have V:=Fr.put d w.heap.size (U O 21) (I empty) (U O 0) (J (Z (A d.heap.size 0 F)) 1 1);exact oz05x40
  case false =>
   rw[p,ju oC]at e;go_enter func175,ntmps175;go_wp2_with (fail);refine l.mono ?_;rintro f w0 ⟨rfl,L,E⟩;go_wp2_with (fail);refine(yM L ⟨#[33]⟩ oC p rfl).mono ?_;rintro f z ⟨rfl,i,K⟩;have b:=E.trans K;have k:=b.size;rw[jO]at k;go_wp2_with (fail);refine(af i (q:=q) e).mono ?_;rintro f ax (⟨N,rfl,m⟩|⟨N,aw,rfl,S,ac,m⟩);·go_wp2;exact⟨rfl,kG.lost rfl N (((Fr.al _ _).trans b).trans m)⟩
   obtain⟨ah,ap,aj,_,rfl,a9,am,ab,rfl⟩:=S.shape;obtain⟨t,u,x,y,a3,a5,a6,a7⟩:=(D.fr b oA).fr m oA;go_wp2;exact jT (v:=Za #[U O ah,I ap,U O aj,J a9 am ab]) (by simp[results,results175,go_sem,t,u,x,y]) rfl (kG.hand ae ((Fr.al _ _).trans b) oA N S ac m)
end
end syn
namespace syn
open Go.RowKit
open lexs (Tok Fine)
section
variable {r G:Nat} {ts:List Tok}
structure GoodX (r G:Nat) (ts:List Tok) (f:Nat):Prop where
 e:kV r G ts 155 (kM ts f)
 b1:kV r G ts 163 (qL ts f 1)
 b2:kV r G ts 168 (qL ts f 2)
 b3:kV r G ts 175 (qL ts f 3)
 u:kV r G ts 175 (zQ ts f)
 a:kV r G ts 154 (qY ts f)
 p:∀(x:ByteArray) {w:Zw} {s:St} {q:Tree × St},Ld w r G ts s->qZ ts f x s=Z q->Calls prog 156 #[Zp (Z (A r 0 F)),I x] w (kG w r G ts q)
theorem zzl:GoodX r G ts 0 :=
 ⟨fun {w s b} _ a=>by simp[kM]at a,fun {w s b} _ a=>by simp[qL]at a,fun {w s b} _ a=>by simp[qL]at a,fun {w s b} _ a=>by simp[qL]at a,fun {w s b} _ a=>by simp[zQ]at a,fun {w s b} _ a=>by simp[qY]at a,fun c {w s b} _ a=>by simp[qZ]at a⟩
theorem zqe (r G:Nat) (ts:List Tok) (d:Nat) (m:d<=100000):∀ {f:Nat},f<=d->GoodX r G ts f:=by
 induction d with
 | zero =>
  intro f j;obtain rfl:f=0:=oA
  exact zzl
 | succ d ih =>
  intro f j;have c:∀ {h:Nat},h<=d->GoodX r G ts h:=ih oA;rcases jL f (d+1)with b | b
  ·exact c oA
  obtain rfl:f=d+1:=oA;refine⟨?_,ybz fun b=>(c b).b2,zwj fun b=>(c b).b3,?_,zui (c (jE _)).u (yay oA (c (jE _)).a (fun b=>(c oA).e)),zug (c (jE _)).e,fun l {w s i} g k=>zps (c (jE _)).e l g k⟩
  ·cases d with
   | zero =>
    intro w s i g b;unfold kM at b;rw[g.ok]at b
    simp[qL]at b
   | succ d=>exact ya0 fun b=>(c oA).b1
  ·intro w s i g b;unfold qL at b;rw[jv oC]at b;exact(c (jE _)).u g b
end
end syn
namespace syn
open Go.RowKit
open lexs (Tok Fine own_shape)
section
variable {w w' w0:Zw} {r G B:Nat} {ts:List Tok} {s:St}
def zdr (ts:List Tok) (f:Nat) (s:St):Option (Tree × St) :=
 (kM ts f (kB ts ⟨#[61]⟩ (name ts (label ts s).2).2)).bind fun x=>Z (.node 7 (name ts (label ts s).2).1 (label ts s).1 [x.1],x.2)
def setF (ts:List Tok) (f:Nat) (s:St):Option (Tree × St) :=
 (qZ ts f (whole ts s).1 (whole ts s).2).bind fun x=>(kM ts f (kB ts ⟨#[61]⟩ x.2)).bind fun a=>Z (.node 8 empty 0 [x.1,a.1],a.2)
theorem zzz {h:Nat} (ih:kV r G ts 155 (kM ts h)):kV r G ts 150 (zdr ts h):=by
 intro w s Q y q;have ar:=kc25;have aA:=y.lt;have W:=Box4.new w (U O 0) (I empty) (U O 0) (J F 0 0) 25;unfold zdr at q;obtain⟨k,i,u⟩:=qQ q;simp only[jh]at u;subst u;clear q
 have S:Hid ((label ts s).2.bad=H->k.2=(label ts s).2):=fun a=>by
  have K:=gQ (ts:=ts) a;rw[K,qE oC a]at i;exact(stuck ts h).e _ _ a i
 have E:Hid ((name ts (label ts s).2).2.bad=H->k.2=(name ts (label ts s).2).2):=fun a=>by
  rw[qE oC a]at i;exact(stuck ts h).e _ _ a i
 have ah:Hid ((kB ts ⟨#[61]⟩ (name ts (label ts s).2).2).bad=H->k.2=kB ts ⟨#[61]⟩ (name ts (label ts s).2).2):=fun a=>(stuck ts h).e _ _ a i
 have a7:=dK (y.alloc (Zc #[U O 0,I empty,U O 0,J F 0 0] 25));generalize label ts s=ab at *;obtain⟨ac,ao⟩:=ab;have az:=fun (w:Zw) (t:Ld w r G ts ao)=>gV t
 simp only at *;generalize name ts ao=nb at *;obtain⟨C,aM⟩:=nb;simp only at *;go_enter func150,ntmps150;go_wp2_with (fail);refine a7.mono ?_;rintro l aZ (⟨a,rfl,d⟩|⟨a,rfl,a3,d⟩);·go_wp2;exact⟨rfl,kG.lost (S.out a) a ((Fr.al _ _).trans d)⟩
 go_wp2_with (fail);refine(az _ a3).mono ?_;rintro l n (⟨p,rfl,f⟩|⟨p,rfl,a5,f⟩);·go_wp2;exact⟨rfl,kG.lost (E.out p) p (((Fr.al _ _).trans d).trans f)⟩
 go_wp2_with (fail);refine(uC (a5.alloc _) ⟨#[61]⟩ oC oB).mono ?_;rintro l o ⟨b1,⟨z,rfl,e⟩|⟨z,rfl,N,e⟩⟩;·go_wp2;exact oz05x48
 go_wp2_with (fail);refine(ih N i).mono ?_;rintro l b (⟨a8,rfl,g⟩|⟨a8,aY,rfl,B,a6,g⟩);·go_wp2;exact⟨rfl,kG.lost rfl a8 (((((Fr.al _ _).trans d).trans f).trans ((Fr.al _ _).trans e)).trans g)⟩
 obtain⟨aa,j,ad,_,rfl,T,ae,V,rfl⟩:=B.shape;have af:=d.size;have b6:=f.size;have ag:=e.size;have bo:=g.size;rw[jO]at af ag;obtain⟨aR,aS,m,aT,bg,bh,bi,bj⟩:=((((W.fr d oA).fr f oA).alloc _).fr e oA).fr g oA;obtain⟨aN,aO,aP,aQ,aU,aV,aW,aX⟩:=((Box4.new n (U O 7) (I C) (U O ac) (J F 0 0) 25).fr e oA).fr g oA;have aB:w.heap.size<b.heap.size:=oA;have aC:n.heap.size<b.heap.size:=oA;go_wp2;refine jT (v:=Za #[U O 7,I C,U O ac,J (Z (A b.heap.size 0 F)) 1 1]) (by simp[results,results150,go_sem,aR,aS,m,aT,aB,aC]) rfl ?_;have L:Fr r w b:=((((Fr.al _ _).trans d).trans f).trans ((Fr.al _ _).trans e)).trans g;have aF:=B.frP (x:=n.heap.size) ((Fr.refl n.heap.size b).set 3 (J (Z (A b.heap.size 0 F)) 1 1)) (fun c a=>⟨a.2,oA⟩) (fun c a=>(⟨a.1,by rw[jQ];exact a.2⟩:o.heap.size<=c/\c<(b.setCell (A n.heap.size 3 F) (J (Z (A b.heap.size 0 F)) 1 1)).heap.size));have P:=Fr.put (b.setCell (A n.heap.size 3 F) (J (Z (A b.heap.size 0 F)) 1 1)) w.heap.size (U O 7) (I C) (U O ac) (J (Z (A b.heap.size 0 F)) 1 1);exact .inr ⟨a8,_,rfl,((aF.fr (show w.heap.size<o.heap.size by omega) P).low (show w.heap.size<=o.heap.size by omega)).rowed oE oB,((a6.set oA 3 _).put4 oA _ _ _ _).alloc _,((L.setNew oA _).put4 (jE _) _ _ _ _).alloc _⟩
theorem yby {h:Nat} (aD:∀(j:ByteArray) {w:Zw} {s:St} {Q:Tree × St},Ld w r G ts s->qZ ts h j s=Z Q->Calls prog 156 #[Zp (Z (A r 0 F)),I j] w (kG w r G ts Q)) (ih:kV r G ts 155 (kM ts h)):kV r G ts 157 (setF ts h):=by
 intro w s Q y q;have ar:=kc25;have aA:=y.lt;have W:=Box4.new w (U O 0) (I empty) (U O 0) (J F 0 0) 25;unfold setF at q;obtain⟨k,i,u⟩:=qQ q;obtain⟨m,x,ai⟩:=qQ u;simp only[jh]at ai;subst ai;clear q u
 have E:Hid (k.2.bad=H->m.2=k.2):=fun a=>by
  rw[qE oC a]at x;exact(stuck ts h).e _ _ a x
 have S:Hid ((whole ts s).2.bad=H->m.2=(whole ts s).2):=fun a=>by
  have K:=(stuck ts h).p _ _ _ a i;rw[E.out (by rw[K];exact a),K]
 have ah:Hid ((kB ts ⟨#[61]⟩ k.2).bad=H->m.2=kB ts ⟨#[61]⟩ k.2):=fun a=>(stuck ts h).e _ _ a x
 have a7:=zcf (y.alloc (Zc #[U O 0,I empty,U O 0,J F 0 0] 25));generalize whole ts s=ab at *;obtain⟨C,aM⟩:=ab;simp only at *;go_enter func157,ntmps157;go_wp2_with (fail);refine a7.mono ?_;rintro l aZ (⟨a,rfl,d⟩|⟨a,rfl,a3,d⟩);·go_wp2;exact⟨rfl,kG.lost (S.out a) a ((Fr.al _ _).trans d)⟩
 go_wp2_with (fail);refine(aD C a3 i).mono ?_;rintro l n (⟨p,rfl,f⟩|⟨p,bm,rfl,an,a5,f⟩);·go_wp2;exact⟨rfl,kG.lost (E.out p) p (((Fr.al _ _).trans d).trans f)⟩
 obtain⟨aa,j,ad,_,rfl,T,ae,V,rfl⟩:=an.shape;go_wp2_with (fail);refine(uC (a5.alloc _) ⟨#[61]⟩ oC oB).mono ?_;rintro l o ⟨b1,⟨z,rfl,e⟩|⟨z,rfl,N,e⟩⟩;·go_wp2;exact oz05x48
 have af:=d.size;have b6:=f.size;have ag:=e.size;rw[jO]at af ag;have aj:=(Box4.new n (U O aa) (I j) (U O ad) (J T ae V) 25).fr e oA;have ak:=(((W.fr d oA).fr f oA).alloc _).fr e oA;obtain⟨aN,aO,aP,aQ,aU,aV,aW,aX⟩:=id aj;have L:Fr r w o:=(((Fr.al _ _).trans d).trans f).trans ((Fr.al _ _).trans e);by_cases a9:m.2.bad=H
 ·go_wp2;refine wp_region_any oD ?_;change wpAny _ _ _ _ _ _ _ (World.drew _);refine tkQ 1 (Zp (Z (A r 0 F))) ?_;refine wpAny_ready (rs:=[0,2]) oD oB ?_;refine AllReady.cons rfl (fun R M=>?_) ?_
  ·go_simp;refine M _ _ ?_;clear M R;refine one0 2 fun R M=>?_
   exact oz05x45
  refine AllReady.cons rfl (fun R M=>?_) AllReady.nil;exact oz05x45
 ·have am:m.2.bad=X:=by simpa using a9
  go_wp2
  go_region_with (go_at_call 155;refine(ih.fine (N.drewN 1) x am).mono ?_;rintro l b ⟨aY,rfl,B,a6,g⟩;obtain⟨aE,b0,aH,_,rfl,ap,aK,au,rfl⟩:=B.shape;obtain⟨b7,b8,b9,ba,_,_,_,_⟩:=(aj.drewN 1).fr g oA;obtain⟨av,aw,ax,ay,bb,bc,be,bf⟩:=(ak.drewN 1).fr g oA;have b2:w.heap.size<b.heap.size:=((ak.drewN 1).fr g oA).lt)
  all_goals
   go_wp2;refine jT (v:=Za #[U O 8,I empty,U O 0,J (Z (A b.heap.size 0 F)) 2 2]) (by simp[results,results157,go_sem,av,aw,ax,ay,b2,empty]) rfl ?_;have a2:Fr r o b:=((Fr.refl r o).drewN 1).trans g;have bn:=a2.size
   have aG:Lies (fun c=>w.heap.size<c/\c<b.heap.size) b m.1 (Za #[U O aE,I b0,U O aH,J ap aK au]):=B.to (fun c a=>by
    have i:o.heap.size<=c:=a.1
    exact⟨oA,a.2⟩) (fun _ _ _=>rfl)
   have aJ:Lies (fun c=>w.heap.size<c/\c<b.heap.size) b k.1 (Za #[U O aa,I j,U O ad,J T ae V]):=an.frP (x:=r) (((Fr.al _ _).trans e).trans a2) (fun c a=>⟨a.2,oA⟩) (fun c a=>⟨oA,oA⟩);have P:=Fr.put b w.heap.size (U O 8) (I empty) (U O 0) (J (Z (A b.heap.size 0 F)) 2 2);have aL:=aJ.frP (x:=w.heap.size) P (fun c a=>⟨a.2,oA⟩) (fun c a=>a);have aI:=aG.frP (x:=w.heap.size) P (fun c a=>⟨a.2,oA⟩) (fun c a=>a);exact .inr ⟨am,_,rfl,aL.rowed2P aI (fun c a=>by simpa using a.2) (fun c a=>⟨oA,oE⟩) oB ⟨oA,oB⟩,(a6.put4 oA _ _ _ _).alloc _,((L.trans a2).put4 (jE _) _ _ _ _).alloc _⟩
end
section
variable {w w' w0:Zw} {r G B:Nat} {ts:List Tok} {s:St}
theorem kG.kids {h:Zw} {g:St} {kv:Zv} {ks:List Tree} {c d:Int} {e:ByteArray} {a B:Nat} (m:r<w.heap.size) (b:KO w B r G ts h g kv ks) (j:w.heap.size<=a) (i:a<B) (l:ks.length<=4611686018427387904) : kG w r G ts (.node c e d ks,g) (.returned (Za #[U O c,I e,U O d,kv])) ((((h.setCell (A a 0 F) (U O c)).setCell (A a 1 F) (I e)).setCell (A a 2 F) (U O d)).setCell (A a 3 F) kv) :=
 kG.fin m b.fr b.ld j i (b.kids.lies (fun n f=>⟨f.1,f.2.1⟩) (fun o k=>b.kids.blk k) l)
theorem zzw {k:Nat} (ba:k<=100000) (aJ:∀ {g:Nat},g<=k->kV r G ts 140 (yP ts g)):kV r G ts 125 (qA ts (k+1)):=by
 intro w s D a9 a6;have aT:=kc25;have aj:=a9.lt;obtain⟨aI,hi,aF,aG,aH⟩:=info_parts uD;have an:=(Box4.new w (U O 0) (I empty) (U O 0) (J F 0 0) 25).alloc (Zc #[U O 6,I empty,U O 0,J F 0 0] 25);have a7:=Box4.new (w.alloc (Zc #[U O 0,I empty,U O 0,J F 0 0] 25)) (U O 6) (I empty) (U O 0) (J F 0 0) 25;rw[jO]at a7;have ap:=(a9.alloc (Zc #[U O 0,I empty,U O 0,J F 0 0] 25)).alloc (Zc #[U O 6,I empty,U O 0,J F 0 0] 25);unfold qA at a6;have av:=uC (T:=9) ap ⟨#[123]⟩ oC (M:=w.heap.size+2) oB;have n:Hid (yC ts k [] (kB ts ⟨#[123]⟩ s)=Z D):=a6;clear a6;generalize kB ts ⟨#[123]⟩ s=aO at *;go_enter func125,ntmps125;go_wp2_with (fail);refine av.mono ?_;rintro c bm ⟨bo,⟨o,rfl,u⟩|⟨o,rfl,ar,u⟩⟩;·go_wp2;exact⟨rfl,kG.lost ((fM ts k).bl _ _ _ o n.out) o (((Fr.al _ _).trans (Fr.al _ _)).trans u)⟩
 go_wp2
 go_loopg [] k (fun m wr=>∃(ks:List Tree) (Q:St) (kv:Zv),Hid (yC ts m ks Q=Z D)/\ks.length+m<=k/\KO w (w.heap.size+2) r G ts wr Q kv ks/\Box4 wr (w.heap.size+1) (U O 6) (I empty) (U O 0) kv/\Box4 wr w.heap.size (U O 0) (I empty) (U O 0) (J F 0 0))
 case atStart =>
  exact⟨[],aO,J F 0 0,n.out,oB,⟨ar,aj,oA,((Fr.al _ _).trans (Fr.al _ _)).trans u,Kids.nil _ _ _⟩,a7.fr u oA,an.fr u oA⟩
 case round =>
  obtain⟨ks,Q,kv,R,bb,a,ae,ac⟩:=hrel;clear n;obtain⟨i,j,rfl⟩:=a.kids.shape
  cases gk with
  | zero=>have:=R.out;unfold yC at this;simp at this
  | succ m =>
   have h:=R.out;clear R;unfold yC at h;rw[a.ld.ok,ju oC]at h;cases P:eqS (txt ts Q) ⟨#[125]⟩
   case true =>
    rw[P,jv rfl]at h;simp only[jh]at h;subst h;go_wp2_with (fail);refine(yQ a.ld ⟨#[125]⟩ oC P rfl).mono ?_;rintro c E ⟨rfl,y,l⟩;have x:=a.step y l;obtain⟨aK,aL,aM,aN,_,_,_,_⟩:=ae.fr l oA;obtain⟨aP,aQ,aR,aS,bf,bg,bh,bi⟩:=ac.fr l oA;go_wp2;exact jT (v:=Za #[U O 6,I empty,U O 0,J i ks.length j]) (by simp[results,results125,go_sem,aP,aQ,aR,aS]) rfl (kG.kids aj x (jE _) oA oA)
   case false =>
    rw[P,ju oC]at h;obtain⟨f,S,ai⟩:=qQ h;have n:Hid (yC ts m (ks++[f.1]) f.2=Z D):=ai;clear h ai;go_wp2_with (fail);refine(yM a.ld ⟨#[125]⟩ oC P rfl).mono ?_;rintro c E ⟨rfl,y,l⟩;have x:=a.step y l;have W:=ae.fr l oA;have ax:=ac.fr l oA;obtain⟨aK,aL,aM,aN,_,_,_,_⟩:=id W;have aa:kV r G ts 140 (yP ts m):=aJ oA;by_cases N:f.2.bad=H
    ·have HS:Hid (D.2=f.2):=(fM ts m).bl _ _ _ N n.out;go_wp2;refine wp_region_any oD ?_;change wpAny _ _ _ _ _ _ _ (World.drew _);refine tkQ 0 (Zp (Z (A (w.heap.size+1) 3 F))) ?_;refine tkQ 2 (Zp (Z (A r 0 F))) ?_;refine wpAny_ready (rs:=[1,3]) oD oB ?_;refine AllReady.cons rfl (fun b a=>?_) (AllReady.cons rfl (fun b a=>?_) AllReady.nil)
     focus
      go_simp;refine a _ _ ?_;clear a b;refine one0 3 fun b a=>?_
     all_goals
      go_simp;go_at_call 140;refine(aa.lost (y.drewN 1) S N).mono ?_;rintro c e ⟨rfl,V⟩;go_wp2;exact⟨rfl,kG.lost HS.out N ((x.fr.drewN 1).trans V)⟩
    ·have az:f.2.bad=X:=by simpa using N
     go_wp2;refine wp_region_any oD ?_;change wpAny _ _ _ _ _ _ _ (World.drew _);refine tkQ 0 (Zp (Z (A (w.heap.size+1) 3 F))) ?_;refine tkQ 2 (Zp (Z (A r 0 F))) ?_;refine wpAny_ready (rs:=[1,3]) oD oB ?_;refine AllReady.cons rfl (fun b a=>?_) (AllReady.cons rfl (fun b a=>?_) AllReady.nil)
     focus
      go_simp;refine a _ _ ?_;clear a b;refine one0 3 fun b a=>?_
     all_goals
      go_simp;go_at_call 140;refine(aa.fine (y.drewN 1) S az).mono ?_;rintro c e ⟨bj,rfl,ag,au,V⟩;obtain⟨z,K,B,_,rfl,p,C,q,rfl⟩:=ag.shape;have L:Fr r E e:=((Fr.refl r E).drewN 1).trans V;have a5:∀g,(Value.slice i ks.length j).ownBlock=Z g->w.heap.size+2<=g/\g<E.heap.size:=fun g aA=>x.kids.blk aA
      have a8:=x.step au L;have bs:=L.size;have bp:=W.lt
      have aB:Lies (fun d=>w.heap.size+2<=d/\d<e.heap.size/\Z d≠(Value.slice i ks.length j).ownBlock) e f.1 (Za #[U O z,I K,U O B,J p C q]) :=
       ag.to (fun d o=>by
        have S:E.heap.size<=d:=o.1
        exact⟨oA,o.2,fun c=>by have:=(a5 d c.symm).2;omega⟩) (fun _ _ _=>rfl)
      obtain⟨ak,ah,ab⟩:=a8.kids;have am:Hid (kW (fun d=>w.heap.size+2<=d/\d<e.heap.size/\Z d≠(Value.slice i ks.length j).ownBlock) e ks ak):=ab;have bc:ks.length<=100001:=oA;have a2:=W.fr L oA;have ad:=ax.fr L oA;obtain⟨b6,b7,b8,b9,_,_,_,_⟩:=id a2;have bq:w.heap.size+1<e.heap.size:=a2.lt;have br:w.heap.size<e.heap.size:=ad.lt;clear ab;go_wp2
     focus
      refine one0 4 fun b a=>?_
      go_simp;refine a _ _ ?_;clear a b
     rotate_left
     focus
      refine wpAny_ready (rs:=[1,4]) oD oB ?_;refine AllReady.cons rfl (fun b a=>?_) (AllReady.cons rfl (fun b a=>?_) AllReady.nil)
      all_goals
       go_simp;refine a _ _ ?_;clear a b
      focus
       refine one0 4 fun b a=>?_
       go_simp;refine a _ _ ?_;clear a b
      rotate_left
      focus
       refine one0 1 fun b a=>?_
       go_simp;refine a _ _ ?_;clear a b
     all_goals
      refine one0 5 fun b a=>?_
      refine step_append_lies _ oI (.tmp 13) (.tmp 16) 23 oI (w.heap.size+2) 25 aI (Za #[U O 0,I ⟨#[]⟩,U O 0,J F 0 0]) 4 56 underlying23 hi aF aG aH rfl oC (J i ks.length j) ks.length (xS ak) rfl (ah.alloc _) (A e.heap.size 0 F) 1 1 [U O z,I K,U O B,J p C q] rfl rfl (xL _ _ _ _ _ _ _ rfl) oF oA (by unfold maxLen;omega) oA oE (e.heap.size+1) oB ?_;intro g aU bn aE a3 aw be;refine a _ _ ?_;clear a b;have ao:=KO.pushed (q:=(U O z,I K,U O B,J p C q)) (t:=f.1) a8 ah am.out aB aE a3 (by rcases aw with c | c;exact .inl c.symm;exact .inr (by rw[c];rfl));have aC:(Value.slice i ks.length j).ownBlock≠Z (w.heap.size+1):=fun c=>by have:=(a5 _ c).1;omega
      have aD:(Value.slice i ks.length j).ownBlock≠Z w.heap.size:=fun c=>by have:=(a5 _ c).1;omega
      have af:=(a2.alloc (Zc #[U O z,I K,U O B,J p C q] 25)).grown a3 aC;have ay:=(ad.alloc (Zc #[U O z,I K,U O B,J p C q] 25)).grown a3 aD;obtain⟨aZ,b0,b1,b2,aV,aW,aX,aY⟩:=id af;refine one0 6 fun b a=>?_
      go_simp;refine a _ _ ?_;clear a b;refine one0 7 fun b a=>?_
      go_simp;refine a _ _ ?_;clear a b;refine wpAny_done oD ?_ _;go_wp2
      go_roundg m
      case rel=>exact⟨ks++[f.1],f.2,_,n.out,oL,ao.set oA oA 3 _,af.set3 _,ay.other oA _⟩
      case measure=>omega
end
section
variable {w w' w0:Zw} {r G B:Nat} {ts:List Tok} {s:St}
def zc6 (ts:List Tok) (f:Nat) (s:St):Option (Tree × St) :=
 (qY ts f s).bind fun x=>(qA ts f x.2).bind fun b =>
  if eqS (txt ts b.2) ⟨#[101,108,115,101]⟩ then(qA ts f b.2.next).bind fun c=>Z (.node 10 empty 0 [x.1,b.1,c.1],c.2)else Z (.node 10 empty 0 [x.1,b.1],b.2)
theorem zcn {a b:ByteArray} (d:eqS (txt ts s) a=H) (e:(a.data.toList==b.data.toList)=X):eqS (txt ts s) b=X:=by
 have c:=zdo d;rw[<- c,zjs];exact e
theorem zxo (f:Ld w r G ts s) (a b:ByteArray) (j:[a,b].all xJ=H) {c:Bool} (g:(eqS (txt ts s) a||eqS (txt ts s) b)=c) {M:Nat} {T:TypeId} (i:M=w.heap.size) : Calls prog 96 #[Zp (Z (A r 0 F)),J (Z (A M 0 F)) 2 2] (w.alloc (Zc #[I a,I b] T)) fun d w'=>d=.returned (Y c)/\Ld w' r G ts s/\Fr r w w' :=
 (fS (f.alloc _) [a,b] M 2 oB j (Words.two w a b T i)).mono fun d w' ⟨h,e⟩=>⟨by rw[h,<- g];unfold zN;simp,by rw[e];exact f.alloc _,by rw[e];exact Fr.al _ _⟩
structure StatHyps (r G:Nat) (ts:List Tok) (f:Nat):Prop where
 x:∀ {g:Nat},g<=f->GoodX r G ts g
 b:kV r G ts 125 (qA ts f)
 c:kV r G ts 153 (zc6 ts f)
 hf:f<=100000
theorem ya4 {t:Nat} (D:StatHyps r G ts t):kV r G ts 140 (yP ts (t+1)):=by
 intro w s aB aE q;have be:=kc25;have ad:=aE.lt;unfold yP at q;have a6:=Box4.new w (U O 0) (I empty) (U O 0) (J F 0 0) 25;go_enter func140,ntmps140;go_wp2_with (fail);refine(zxo (T:=9) (aE.alloc (Zc #[U O 0,I empty,U O 0,J F 0 0] 25)) ⟨#[108,111,119]⟩ ⟨#[104,105,103,104]⟩ oC rfl (M:=w.heap.size+1) oB).mono ?_;rintro f y ⟨rfl,e,a⟩;cases a9:(eqS (txt ts s) ⟨#[108,111,119]⟩||eqS (txt ts s) ⟨#[104,105,103,104]⟩)
 case true =>
  have u:=a.size;rw[jO]at u
  have aH:∀ae,((⟨#[108,111,119]⟩:ByteArray).data.toList==ae.data.toList)=X->((⟨#[104,105,103,104]⟩:ByteArray).data.toList==ae.data.toList)=X->eqS (txt ts s) ae=X:=fun ae h l=>by
   rcases Bool.or_eq_true_iff.1 a9 with n | n
   ·exact zcn n h
   ·exact zcn n l
  rw[aH ⟨#[105,102]⟩ rfl rfl,ju oC,aH ⟨#[119,104,105,108,101]⟩ rfl rfl,ju oC,a9,jv rfl]at q
  obtain⟨j,h,rfl⟩:∃j,zdr ts t s=Z j/\aB=(j.1,kB ts ⟨#[59]⟩ j.2):=by
   obtain⟨ae,h,l⟩:=qQ q;simp only[jh]at l;exact⟨_,by unfold zdr;rw[h];rfl,l.symm⟩
  go_wp2_with (fail);refine(zzz (D.x (jE _)).e e h).mono ?_;exact oz05x35
 cases R:eqS (txt ts s) ⟨#[100,111]⟩
 case true =>
  go_wp2_with (fail);refine(yQ e ⟨#[100,111]⟩ oC R rfl).mono ?_;rintro f y ⟨rfl,e,c⟩;replace a:=a.trans c;clear c;have u:=a.size;rw[jO]at u;rw[show eqS (txt ts s) ⟨#[105,102]⟩=X from zcn R rfl,ju oC,show eqS (txt ts s) ⟨#[119,104,105,108,101]⟩=X from zcn R rfl,ju oC,a9,ju oC,R,jv rfl]at q;obtain⟨j,h,l⟩:=qQ q;simp only[jh]at l;subst l
  have ao:Hid ((whole ts s.next).2.bad=H->kB ts ⟨#[59]⟩ j.2=(whole ts s.next).2):=fun d=>by
   rw[(stuck ts t).c _ _ _ d h];exact qE oC d
  obtain⟨t,rfl⟩:∃aO,t=aO+1:=by
   cases t with
   | zero=>unfold zV at h;simp at h
   | succ t=>exact⟨t,rfl⟩
  have ay:Hid ((kB ts ⟨#[40]⟩ (whole ts s.next).2).bad=H->kB ts ⟨#[59]⟩ j.2=kB ts ⟨#[40]⟩ (whole ts s.next).2):=fun d=>by
   have ap:j.2=kB ts ⟨#[40]⟩ (whole ts s.next).2:=by
    unfold zV at h;rw[zH oC d,ju oC]at h;exact(stuck ts t).cl _ _ _ _ _ d h
   rw[ap];exact qE oC d
  go_wp2_with (fail);refine(zcf e).mono ?_;rintro f aw (⟨S,rfl,i⟩|⟨S,rfl,a7,i⟩);·go_wp2;exact oz05x42
  go_wp2_with (fail);refine(uC a7 ⟨#[40]⟩ oC rfl).mono ?_;rintro f aC ⟨aJ,⟨ac,rfl,C⟩|⟨ac,rfl,az,C⟩⟩;·go_wp2;exact oz05x52
  obtain⟨k,aV,rfl⟩:=zh7 ac h;go_wp2_with (fail);refine(zqj (fun n=>(D.x oA).e) (by have:=D.hf;omega) _ az aV).mono ?_;rintro f o (⟨m,rfl,b⟩|⟨m,am,rfl,p,K,b⟩);·go_wp2;exact oz05x47
  obtain⟨L,z,N,_,rfl,a5,aa,E,rfl⟩:=p.shape;have aD:=i.size;have an:=b.size;have bc:=C.size;go_wp2_with (fail);refine(gC (K.alloc _) _ _ _ _ _ _).mono ?_;rintro f ax (⟨B,rfl,g⟩|⟨B,rfl,Q,g⟩);·go_wp2;exact oz05x46
  obtain⟨W,a2,P,a3,ah,ai,aj,ak⟩:=((((((a6.fr a oA).fr i oA).fr C oA).fr b oA).alloc _)).fr g oA;go_wp2;exact jT (v:=Za #[U O 9,I empty,U O 0,J (Z (A o.heap.size 0 F)) 1 1]) oz05y57 rfl (kG.fin ad ((((((Fr.al _ _).trans a).trans i).trans C).trans (b.trans (Fr.al _ _))).trans g) Q (jE _) (show w.heap.size<aC.heap.size by omega) (((p.rowed (k:=9) (x:=empty) (m:=0) (c:=1) b.size rfl)).fr oA g))
 go_wp2_with (fail);refine(yM e ⟨#[100,111]⟩ oC R rfl).mono ?_;rintro f y ⟨rfl,e,c⟩;replace a:=a.trans c;clear c;cases V:eqS (txt ts s) ⟨#[105,102]⟩
 case true =>
  go_wp2_with (fail);refine(yQ e ⟨#[105,102]⟩ oC V rfl).mono ?_;rintro f y ⟨rfl,e,c⟩;replace a:=a.trans c;clear c;have u:=a.size;rw[jO]at u;rw[V,jv rfl]at q;have aW:zc6 ts t s.next=Z aB:=q;go_wp2_with (fail);refine(D.c e aW).mono ?_;rintro f bn (⟨aA,rfl,au⟩|⟨aA,bm,rfl,aG,aU,au⟩);·go_wp2;exact⟨rfl,kG.lost rfl aA (((Fr.al _ _).trans a).trans au)⟩
  obtain⟨aY,bb,b2,_,rfl,aL,b9,aN,rfl⟩:=aG.shape;obtain⟨W,a2,P,a3,ah,ai,aj,ak⟩:=(a6.fr a oA).fr au oA;go_wp2;exact jT (v:=Za #[U O aY,I bb,U O b2,J aL b9 aN]) (by simp[results,results140,go_sem,W,a2,P,a3]) rfl (kG.hand ad ((Fr.al _ _).trans a) oA aA aG aU au)
 go_wp2_with (fail);refine(yM e ⟨#[105,102]⟩ oC V rfl).mono ?_;rintro f y ⟨rfl,e,c⟩;replace a:=a.trans c;clear c;cases a8:eqS (txt ts s) ⟨#[119,104,105,108,101]⟩
 case true =>
  go_wp2_with (fail);refine(yQ e ⟨#[119,104,105,108,101]⟩ oC a8 rfl).mono ?_;rintro f y ⟨rfl,e,c⟩;replace a:=a.trans c;clear c;have u:=a.size;rw[jO]at u;rw[V,ju oC,a8,jv rfl]at q;obtain⟨j,h,l⟩:=qQ q;obtain⟨P,ar,af⟩:=qQ l;simp only[jh]at af;subst af;have ao:Hid (j.2.bad=H->P.2=j.2):=fun d=>(fM ts t).bk _ _ d ar
  go_wp2_with (fail);refine((D.x (jE _)).a e h).mono ?_;rintro f aw (⟨S,rfl,i⟩|⟨S,bj,rfl,aF,a7,i⟩);·go_wp2;exact oz05x42
  obtain⟨L,z,N,_,rfl,a5,aa,E,rfl⟩:=aF.shape;go_wp2_with (fail);refine(D.b a7 ar).mono ?_;rintro f o (⟨m,rfl,b⟩|⟨m,am,rfl,p,K,b⟩);·go_wp2;exact⟨rfl,kG.lost rfl m ((((Fr.al _ _).trans a).trans i).trans b)⟩
  obtain⟨aX,ba,aZ,_,rfl,aK,b6,aM,rfl⟩:=p.shape;have aD:=i.size;have an:=b.size;have aJ:w.heap.size<o.heap.size:=oA;have aT:Fr r w o:=(((Fr.al _ _).trans a).trans i).trans b;obtain⟨aP,aQ,aR,aS,bf,bg,bh,bi⟩:=((a6.fr a oA).fr i oA).fr b oA;go_wp2;refine jT (v:=Za #[U O 11,I empty,U O 0,J (Z (A o.heap.size 0 F)) 2 2]) (by simp[results,results140,go_sem,aP,aQ,aR,aS,aJ,empty]) rfl ?_;have b0:Lies (fun x=>w.heap.size<x/\x<o.heap.size) o P.1 (Za #[U O aX,I ba,U O aZ,J aK b6 aM]):=p.to (fun x d=>⟨oA,d.2⟩) (fun _ _ _=>rfl);have b7:Lies (fun x=>w.heap.size<x/\x<o.heap.size) o j.1 (Za #[U O L,I z,U O N,J a5 aa E]):=aF.frP (x:=r) b (fun x d=>⟨d.2,oA⟩) (fun x d=>⟨oA,oA⟩);have aI:=Fr.put o w.heap.size (U O 11) (I empty) (U O 0) (J (Z (A o.heap.size 0 F)) 2 2);have b8:=b7.frP (x:=w.heap.size) aI (fun x d=>⟨d.2,oA⟩) (fun x d=>d);have b1:=b0.frP (x:=w.heap.size) aI (fun x d=>⟨d.2,oA⟩) (fun x d=>d);exact .inr ⟨m,_,rfl,b8.rowed2P b1 (fun x d=>by simpa using d.2) (fun x d=>⟨oA,oE⟩) oB ⟨oA,oB⟩,(K.put4 oA _ _ _ _).alloc _,(aT.put4 (jE _) _ _ _ _).alloc _⟩
 go_wp2_with (fail);refine(yM e ⟨#[119,104,105,108,101]⟩ oC a8 rfl).mono ?_;rintro f y ⟨rfl,e,c⟩;replace a:=a.trans c;clear c;cases ab:eqS (txt ts s) ⟨#[111,117,116]⟩
 case true =>
  go_wp2_with (fail);refine(yQ e ⟨#[111,117,116]⟩ oC ab rfl).mono ?_;rintro f y ⟨rfl,e,c⟩;replace a:=a.trans c;clear c;have u:=a.size;rw[jO]at u;rw[V,ju oC,a8,ju oC,a9,ju oC,R,ju oC,ab,jv rfl]at q;obtain⟨j,h,l⟩:=qQ q;simp only[jh]at l;subst l
  have ao:Hid ((label ts s.next).2.bad=H->kB ts ⟨#[59]⟩ j.2=(label ts s.next).2):=fun d=>by
   rw[(stuck ts t).e _ _ d h];exact qE oC d
  go_wp2_with (fail);refine(dK e).mono ?_;rintro f aw (⟨S,rfl,i⟩|⟨S,rfl,a7,i⟩);·go_wp2;exact oz05x42
  go_wp2_with (fail);refine((D.x (jE _)).e a7 h).mono ?_;rintro f o (⟨m,rfl,b⟩|⟨m,am,rfl,p,K,b⟩);·go_wp2;exact⟨rfl,kG.lost (qE oC m) m ((((Fr.al _ _).trans a).trans i).trans b)⟩
  obtain⟨L,z,N,_,rfl,a5,aa,E,rfl⟩:=p.shape;have aD:=i.size;have an:=b.size;go_wp2_with (fail);refine(gC (K.alloc _) _ _ _ _ _ _).mono ?_;rintro f ax (⟨B,rfl,g⟩|⟨B,rfl,Q,g⟩);·go_wp2;exact⟨rfl,kG.lost rfl B (((((Fr.al _ _).trans a).trans i).trans (b.trans (Fr.al _ _))).trans g)⟩
  obtain⟨W,a2,P,a3,ah,ai,aj,ak⟩:=(((((a6.fr a oA).fr i oA).fr b oA).alloc _)).fr g oA;go_wp2;exact jT (v:=Za #[U O 12,I empty,U O (label ts s.next).1,J (Z (A o.heap.size 0 F)) 1 1]) oz05y57 rfl (kG.fin ad (((((Fr.al _ _).trans a).trans i).trans (b.trans (Fr.al _ _))).trans g) Q (jE _) (show w.heap.size<aw.heap.size by omega) (((p.rowed (k:=12) (x:=empty) (m:=(label ts s.next).1) (c:=1) b.size rfl)).fr oA g))
 go_wp2_with (fail);refine(yM e ⟨#[111,117,116]⟩ oC ab rfl).mono ?_;rintro f y ⟨rfl,e,c⟩;replace a:=a.trans c;clear c;cases ag:eqS (txt ts s) ⟨#[105,110]⟩
 case true =>
  go_wp2_with (fail);refine(yQ e ⟨#[105,110]⟩ oC ag rfl).mono ?_;rintro f y ⟨rfl,e,c⟩;replace a:=a.trans c;clear c;have u:=a.size;rw[jO]at u;rw[V,ju oC,a8,ju oC,a9,ju oC,R,ju oC,ab,ju oC,ag,jv rfl]at q;obtain⟨j,h,l⟩:=qQ q;simp only[jh]at l;subst l
  have ay:Hid ((whole ts (label ts s.next).2).2.bad=H->kB ts ⟨#[59]⟩ j.2=(whole ts (label ts s.next).2).2):=fun d=>by
   rw[(stuck ts t).p _ _ _ d h];exact qE oC d
  have ao:Hid ((label ts s.next).2.bad=H->kB ts ⟨#[59]⟩ j.2=(label ts s.next).2):=fun d=>by
   have ap:=zfu (ts:=ts) d;rw[ay.out (by rw[ap];exact d),ap]
  go_wp2_with (fail);refine(dK e).mono ?_;rintro f aw (⟨S,rfl,i⟩|⟨S,rfl,a7,i⟩);·go_wp2;exact oz05x42
  go_wp2_with (fail);refine(zcf a7).mono ?_;rintro f aC (⟨ac,rfl,C⟩|⟨ac,rfl,az,C⟩);·go_wp2;exact oz05x52
  go_wp2_with (fail);refine((D.x (jE _)).p _ az h).mono ?_;rintro f o (⟨m,rfl,b⟩|⟨m,am,rfl,p,K,b⟩);·go_wp2;exact oz05x47
  obtain⟨L,z,N,_,rfl,a5,aa,E,rfl⟩:=p.shape;have aD:=i.size;have an:=b.size;have bc:=C.size;go_wp2_with (fail);refine(gC (K.alloc _) _ _ _ _ _ _).mono ?_;rintro f ax (⟨B,rfl,g⟩|⟨B,rfl,Q,g⟩);·go_wp2;exact oz05x46
  obtain⟨W,a2,P,a3,ah,ai,aj,ak⟩:=((((((a6.fr a oA).fr i oA).fr C oA).fr b oA).alloc _)).fr g oA;go_wp2;exact jT (v:=Za #[U O 13,I empty,U O (label ts s.next).1,J (Z (A o.heap.size 0 F)) 1 1]) oz05y57 rfl (kG.fin ad ((((((Fr.al _ _).trans a).trans i).trans C).trans (b.trans (Fr.al _ _))).trans g) Q (jE _) (show w.heap.size<aC.heap.size by omega) (((p.rowed (k:=13) (x:=empty) (m:=(label ts s.next).1) (c:=1) b.size rfl)).fr oA g))
 go_wp2_with (fail);refine(yM e ⟨#[105,110]⟩ oC ag rfl).mono ?_;rintro f y ⟨rfl,e,c⟩;replace a:=a.trans c;clear c;cases av:eqS (txt ts s) ⟨#[114,101,116,117,114,110]⟩
 case true =>
  go_wp2_with (fail);refine(yQ e ⟨#[114,101,116,117,114,110]⟩ oC av rfl).mono ?_;rintro f y ⟨rfl,e,c⟩;replace a:=a.trans c;clear c;have u:=a.size;rw[jO]at u;rw[V,ju oC,a8,ju oC,a9,ju oC,R,ju oC,ab,ju oC,ag,ju oC,av,jv rfl]at q;obtain⟨j,h,l⟩:=qQ q;simp only[jh]at l;subst l;go_wp2_with (fail);refine((D.x (jE _)).e e h).mono ?_;rintro f o (⟨m,rfl,b⟩|⟨m,am,rfl,p,K,b⟩);·go_wp2;exact oz05x51
  obtain⟨L,z,N,_,rfl,a5,aa,E,rfl⟩:=p.shape;have an:=b.size;go_wp2_with (fail);refine(gC (K.alloc _) _ _ _ _ _ _).mono ?_;rintro f ax (⟨B,rfl,g⟩|⟨B,rfl,Q,g⟩);·go_wp2;exact⟨rfl,kG.lost rfl B ((((Fr.al _ _).trans a).trans (b.trans (Fr.al _ _))).trans g)⟩
  obtain⟨W,a2,P,a3,ah,ai,aj,ak⟩:=((((a6.fr a oA).fr b oA).alloc _)).fr g oA;go_wp2;exact jT (v:=Za #[U O 14,I empty,U O 0,J (Z (A o.heap.size 0 F)) 1 1]) oz05y57 rfl (kG.fin ad ((((Fr.al _ _).trans a).trans (b.trans (Fr.al _ _))).trans g) Q (jE _) (show w.heap.size<y.heap.size by omega) (((p.rowed (k:=14) (x:=empty) (m:=0) (c:=1) b.size rfl)).fr oA g))
 go_wp2_with (fail);refine(yM e ⟨#[114,101,116,117,114,110]⟩ oC av rfl).mono ?_;rintro f y ⟨rfl,e,c⟩;replace a:=a.trans c;clear c;have u:=a.size;rw[jO]at u;rw[V,ju oC,a8,ju oC,a9,ju oC,R,ju oC,ab,ju oC,ag,ju oC,av,ju oC]at q
 obtain⟨j,h,rfl⟩:∃j,setF ts t s=Z j/\aB=(j.1,kB ts ⟨#[59]⟩ j.2):=by
  obtain⟨ae,h,l⟩:=qQ q;obtain⟨bo,ar,af⟩:=qQ l;simp only[jh]at af;refine⟨_,by unfold setF;rw[h];simp only[jf];rw[ar];rfl,af.symm⟩
 go_wp2_with (fail);refine(yby (D.x (jE _)).p (D.x (jE _)).e e h).mono ?_;exact oz05x35
end
section
variable {w w' w0:Zw} {r G B:Nat} {ts:List Tok} {s:St}
theorem zyc {a2:Nat} (bw:kV r G ts 154 (qY ts a2)) (aw:kV r G ts 125 (qA ts a2)):kV r G ts 153 (zc6 ts a2):=by
 intro w s q aE au;have bP:=kc25;have bp:=aE.lt;obtain⟨bv,hi,br,bs,bu⟩:=info_parts uD;have b1:=Box4.new w (U O 0) (I empty) (U O 0) (J F 0 0) 25;unfold zc6 at au;obtain⟨M,ay,az⟩:=qQ au;obtain⟨m,aA,a3⟩:=qQ az;clear au az
 have ai:Hid (m.2.bad=H->q.2=m.2):=fun b=>by
  rw[zH oC b,ju oC]at a3;simp only[jh]at a3;rw[<- a3]
 have ax:Hid (M.2.bad=H->q.2=M.2):=fun b=>by
  have af:=(fM ts a2).bk _ _ b aA;rw[ai.out (by rw[af];exact b),af]
 have ae:Hid ((if eqS (txt ts m.2) ⟨#[101,108,115,101]⟩ then(qA ts a2 m.2.next).bind fun h=>Z (.node 10 empty 0 [M.1,m.1,h.1],h.2)else Z (.node 10 empty 0 [M.1,m.1],m.2))=Z q):=a3;clear a3;go_enter func153,ntmps153;go_wp2_with (fail);refine(bw (aE.alloc _) ay).mono ?_;rintro i cq (⟨aj,rfl,P⟩|⟨aj,cn,rfl,ar,b6,P⟩);·go_wp2;exact⟨rfl,kG.lost (ax.out aj) aj ((Fr.al _ _).trans P)⟩
 obtain⟨l,g,p,_,rfl,n,C,h,rfl⟩:=ar.shape;go_wp2_with (fail);refine(aw b6 aA).mono ?_;rintro i c (⟨ak,rfl,R⟩|⟨ak,co,rfl,aJ,aF,R⟩);·go_wp2;exact⟨rfl,kG.lost (ai.out ak) ak (((Fr.al _ _).trans P).trans R)⟩
 obtain⟨z,K,B,_,rfl,t,D,u,rfl⟩:=aJ.shape;have bH:=P.size;have cr:=R.size;rw[jO]at bH ar;have aD:Fr r w c:=((Fr.al _ _).trans P).trans R;have aG:=(b1.fr P oA).fr R oA;have aL:Lies (fun a=>w.heap.size<a/\a<c.heap.size) c m.1 (Za #[U O z,I K,U O B,J t D u]):=aJ.to (fun a b=>⟨oA,b.2⟩) (fun _ _ _=>rfl);have aM:Lies (fun a=>w.heap.size<a/\a<c.heap.size) c M.1 (Za #[U O l,I g,U O p,J n C h]):=ar.frP (x:=r) R (fun a b=>⟨b.2,oA⟩) (fun a b=>⟨oA,oA⟩);cases aa:eqS (txt ts m.2) ⟨#[101,108,115,101]⟩
 case false =>
  have L:=ae.out;rw[aa,ju oC]at L;simp only[jh]at L;subst L;have bq:=aM.rowed2P (T:=25) (k:=10) (x:=empty) (m:=0) (c:=2) (Q:=fun a=>w.heap.size<a/\a<(c.alloc (Zc #[U O l,I g,U O p,J n C h,U O z,I K,U O B,J t D u] 25)).heap.size) aL (fun a b=>b.2) (fun a b=>⟨b.1,oG⟩) rfl ⟨oA,oG⟩;go_wp2_with (fail);refine(yM ((aF.alloc _).alloc _) ⟨#[101,108,115,101]⟩ oC aa oB).mono ?_;rintro i E ⟨rfl,a9,j⟩;obtain⟨aW,aX,aY,aZ,ci,cj,ck,cm⟩:=((aG.alloc _).alloc _).fr j oA;obtain⟨aN,aO,aP,aQ,_,_,_,_⟩:=(Box4.new (c.alloc (Zc #[U O l,I g,U O p,J n C h,U O z,I K,U O B,J t D u] 25)) (U O 10) (I empty) (U O 0) (J (Z (A c.heap.size 0 F)) 2 2) 25).fr j oH;simp only[jO]at aN aO aP aQ;go_wp2
  exact jT (v:=Za #[U O 10,I empty,U O 0,J (Z (A c.heap.size 0 F)) 2 2]) (by simp[results,results153,go_sem,aW,aX,aY,aZ]) rfl
   (kG.fin bp (aD.trans (((Fr.al _ _).trans (Fr.al _ _)).trans j)) a9 (jE _) (Nat.lt_succ_self _) (bq.frP (x:=r) ((Fr.al _ _).trans j) (fun a b=>⟨b.2,oA⟩) (fun a b=>⟨oA,jo b.2 ((Fr.al (r:=r) _ _).trans j).size⟩)))
 case true =>
  have L:=ae.out;rw[aa,jv rfl]at L;obtain⟨ac,aB,aC⟩:=qQ L;simp only[jh]at aC;subst aC;clear L ae ai ax;go_wp2_with (fail);refine(yQ ((aF.alloc _).alloc _) ⟨#[101,108,115,101]⟩ oC aa oB).mono ?_;rintro i E ⟨rfl,a9,j⟩;have ag:Fr r c E:=((Fr.al _ _).trans (Fr.al _ _)).trans j;have S:Fr r w E:=aD.trans ag;have bN:=j.size;simp only[jO]at bN;have am:=(Box4.new (c.alloc (Zc #[U O l,I g,U O p,J n C h,U O z,I K,U O B,J t D u] 25)) (U O 10) (I empty) (U O 0) (J (Z (A c.heap.size 0 F)) 2 2) 25).fr j oH;rw[jO]at am;have ba:=((aG.alloc _).alloc _).fr j oA;have bj:=((World.ownsRow_lit (e:=25) (size:=4) c #[U O l,I g,U O p,J n C h,U O z,I K,U O B,J t D u] 2 (base:=w.heap.size+1) oA oC rfl).alloc (Zc #[U O 10,I empty,U O 0,J (Z (A c.heap.size 0 F)) 2 2] 25)).kept j (.inr oT);have aS:=aM.frP (x:=r) (Q:=fun a=>w.heap.size<a/\a<E.heap.size/\a≠c.heap.size/\a≠c.heap.size+1) ag (fun a b=>⟨b.2,oA⟩) (fun a b=>⟨b.1,oA,oA,oA⟩);have aU:=aL.frP (x:=r) (Q:=fun a=>w.heap.size<a/\a<E.heap.size/\a≠c.heap.size/\a≠c.heap.size+1) ag (fun a b=>⟨b.2,oA⟩) (fun a b=>⟨b.1,oA,oA,oA⟩);obtain⟨aN,aO,aP,aQ,_,_,_,_⟩:=id am;by_cases ao:ac.2.bad=H
  ·go_wp2;refine wp_region_any oD ?_;change wpAny _ _ _ _ _ _ _ (World.drew _);refine tkQ 0 (Zp (Z (A (c.heap.size+1) 3 F))) ?_;refine tkQ 2 (Zp (Z (A r 0 F))) ?_;refine wpAny_ready (rs:=[1,3]) oD oB ?_;refine AllReady.cons rfl (fun e d=>?_) (AllReady.cons rfl (fun e d=>?_) AllReady.nil)
   focus
    go_simp;refine d _ _ ?_;clear d e;refine one0 3 fun e d=>?_
   all_goals
    go_simp;go_at_call 125;refine(aw.lost (a9.drewN 1) aB ao).mono ?_;rintro i f ⟨rfl,ah⟩;go_wp2;exact⟨rfl,kG.lost rfl ao ((S.drewN 1).trans ah)⟩
  ·have aI:ac.2.bad=X:=by simpa using ao
   go_wp2;refine wp_region_any oD ?_;change wpAny _ _ _ _ _ _ _ (World.drew _);refine tkQ 0 (Zp (Z (A (c.heap.size+1) 3 F))) ?_;refine tkQ 2 (Zp (Z (A r 0 F))) ?_;refine wpAny_ready (rs:=[1,3]) oD oB ?_;refine AllReady.cons rfl (fun e d=>?_) (AllReady.cons rfl (fun e d=>?_) AllReady.nil)
   focus
    go_simp;refine d _ _ ?_;clear d e;refine one0 3 fun e d=>?_
   all_goals
    go_simp;go_at_call 125;refine(aw.fine (a9.drewN 1) aB aI).mono ?_;rintro i f ⟨cp,rfl,aK,b7,ah⟩;obtain⟨a5,a8,a6,_,rfl,V,a7,W,rfl⟩:=aK.shape;have k:Fr r E f:=((Fr.refl r E).drewN 1).trans ah;have ct:=k.size;have an:=am.fr k oA;have aH:=ba.fr k oA;have bm:=bj.kept k (.inr oT);obtain⟨c9,ca,cb,cc,_,_,_,_⟩:=id an;have cu:c.heap.size+1<f.heap.size:=an.lt;have cv:w.heap.size<f.heap.size:=aH.lt;have aR:Hid (Lies (fun a=>w.heap.size<a/\a<f.heap.size/\a≠c.heap.size/\a≠c.heap.size+1) f M.1 (Za #[U O l,I g,U O p,J n C h])):=aS.frP (x:=r) k (fun a b=>⟨b.2.1,oA⟩) (fun a b=>⟨b.1,oA,b.2.2.1,b.2.2.2⟩);have aT:Hid (Lies (fun a=>w.heap.size<a/\a<f.heap.size/\a≠c.heap.size/\a≠c.heap.size+1) f m.1 (Za #[U O z,I K,U O B,J t D u])):=aU.frP (x:=r) k (fun a b=>⟨b.2.1,oA⟩) (fun a b=>⟨b.1,oA,b.2.2.1,b.2.2.2⟩)
    have aV:Hid (Lies (fun a=>w.heap.size<a/\a<f.heap.size/\a≠c.heap.size/\a≠c.heap.size+1) f ac.1 (Za #[U O a5,I a8,U O a6,J V a7 W])):=aK.to (fun a b=>by
     have ay:E.heap.size<=a:=b.1
     exact⟨oA,b.2,oA,oA⟩) (fun _ _ _=>rfl)
    go_wp2
   focus
    refine one0 4 fun e d=>?_
    go_simp;refine d _ _ ?_;clear d e
   rotate_left
   focus
    refine wpAny_ready (rs:=[1,4]) oD oB ?_;refine AllReady.cons rfl (fun e d=>?_) (AllReady.cons rfl (fun e d=>?_) AllReady.nil)
    all_goals
     go_simp;refine d _ _ ?_;clear d e
    focus
     refine one0 4 fun e d=>?_
     go_simp;refine d _ _ ?_;clear d e
    rotate_left
    focus
     refine one0 1 fun e d=>?_
     go_simp;refine d _ _ ?_;clear d e
   all_goals
    refine one0 5 fun e d=>?_
    refine step_append_lies _ oI (.tmp 14) (.tmp 17) 23 oI (w.heap.size+1) 25 bv (Za #[U O 0,I ⟨#[]⟩,U O 0,J F 0 0]) 4 56 underlying23 hi br bs bu rfl oC (J (Z (A c.heap.size 0 F)) 2 2) 2 [U O l,I g,U O p,J n C h,U O z,I K,U O B,J t D u] rfl (bm.alloc _) (A f.heap.size 0 F) 1 1 [U O a5,I a8,U O a6,J V a7 W] rfl rfl (xL _ _ _ _ _ _ _ rfl) oF oA (by unfold maxLen;omega) oA oE (f.heap.size+1) oB ?_;intro o N ad bn ap b9 bh;refine d _ _ ?_;clear d e;have x:f.grownBy ad (Z c.heap.size):=gN (World.grownBy_alloc f _ _) ap;have cw:=x.size;have bc:=(an.alloc (Zc #[U O a5,I a8,U O a6,J V a7 W] 25)).grown ap oO;have bb:=(aH.alloc (Zc #[U O a5,I a8,U O a6,J V a7 W] 25)).grown ap oT;obtain⟨c6,af,c7,c8,bR,bS,bX,bY⟩:=id bc;obtain⟨bz,bD,bE,bF,ce,cf,cg,ch⟩:=id bb
    have cd:w.heap.size<o/\o≠c.heap.size+1:=by
     rcases b9 with i | i
     ·have bZ:c.heap.size=o:=by simpa[Value.ownBlock] using i
      omega
     ·omega
    refine one0 6 fun e d=>?_
    go_simp;refine d _ _ ?_;clear d e;refine one0 7 fun e d=>?_
    go_simp;refine d _ _ ?_;clear d e;refine wpAny_done oD ?_ _;go_wp2;refine jT (v:=Za #[U O 10,I empty,U O 0,J (Z (A o 0 F)) 3 N]) (by simp[results,results153,go_sem,bz,bD,bE,bF,empty]) rfl ?_;have b2:Fr r w ad:=⟨x.os.trans (S.trans k).os,x.tape.trans (S.trans k).tape,x.output.trans (S.trans k).output,jp (S.trans k).size x.size,fun y bf bi=>(x.block y oA oE).trans ((S.trans k).block y bf bi)⟩
    have b8:=b7.keep x (fun l i=>by
     obtain rfl:c.heap.size=l:=by simpa using i
     omega)
    have bo:=Fr.put (ad.setCell (A (c.heap.size+1) 3 F) (J (Z (A o 0 F)) 3 N)) w.heap.size (U O 10) (I empty) (U O 0) (J (Z (A o 0 F)) 3 N)
    have av:∀a,(w.heap.size<a/\a<f.heap.size/\a≠c.heap.size/\a≠c.heap.size+1)->∀y,World.cell? _ (A a y F)=f.cell? (A a y F):=fun a b y=>by
     rw[jM (a:=(A a y F)) (bo.block a oN oH),jD _ _ _ _ oH];exact jM (a:=(A a y F)) (x.block a b.2.1 oE)
    have bG:(Value.slice (Z (A o 0 F)) 3 N).ownBlock≠Z (c.heap.size+1):=oT;have ab:(Value.slice (Z (A o 0 F)) 3 N).ownBlock≠Z w.heap.size:=oT
    have bg:Kids (w.heap.size+1) (fun a=>w.heap.size<=a/\a<ad.heap.size) _ (J (Z (A o 0 F)) 3 N) [M.1,m.1,ac.1]:=⟨[(U O l,I g,U O p,J n C h),(U O z,I K,U O B,J t D u),(U O a5,I a8,U O a6,J V a7 W)],
     jU (jU (jU (jU (jU bn bG _) ab _) ab _) ab _) ab _,
     aR.out.to (fun a b=>⟨oA,oA⟩) av,aT.out.to (fun a b=>⟨oA,oA⟩) av,aV.out.to (fun a b=>⟨oA,oA⟩) av,trivial⟩
    exact .inr ⟨aI,_,rfl,bg.lies (fun a b=>⟨b.1,by simpa using b.2⟩) (fun b0 be=>by
     obtain rfl:o=b0:=by simpa[Value.ownBlock] using be
     exact⟨oA,by simpa using bh⟩) oB,(b8.set oA 3 _).put4 oA _ _ _ _,(b2.setNew oA _).put4 (jE _) _ _ _ _⟩
structure GoodY (r G:Nat) (ts:List Tok) (f:Nat):Prop where
 b:kV r G ts 125 (qA ts f)
 s:kV r G ts 140 (yP ts f)
theorem yaw (r G:Nat) (ts:List Tok) (c:Nat) (j:c<=100000):∀ {e:Nat},e<=c->GoodY r G ts e:=by
 induction c with
 | zero =>
  intro e h;obtain rfl:e=0:=oA
  exact⟨fun {w s i} _ d=>by simp[qA]at d,fun {w s i} _ d=>by simp[yP]at d⟩
 | succ c ih =>
  intro e h;have f:∀ {g:Nat},g<=c->GoodY r G ts g:=ih oA;rcases jL e (c+1)with d | d
  ·exact f oA
  obtain rfl:e=c+1:=oA;refine⟨zzw oA (fun d=>(f d).s),ya4 ⟨fun d=>zqe r G ts c oA d,(f (jE _)).b,?_,oA⟩⟩;exact zyc (zqe r G ts c oA (jE _)).a (f (jE _)).b
end
end syn
end Go.Proofs.YtjkcecppnmlhjaaGreatDoor
