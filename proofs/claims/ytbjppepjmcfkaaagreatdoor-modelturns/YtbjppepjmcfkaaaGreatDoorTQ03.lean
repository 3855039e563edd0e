/- What the program's choice answers, once those that it calls do: a contract; and all that read statements. -/
import Derived.Test.YtbjppepjmcfkaaaGreatDoorTQr
import Derived.Test.YtbjppepjmcfkaaaGreatDoorTQ02
open Go.Proofs.Tryz
open Go.Value renaming int → U, string → I, slice → J, bool → Y, agg → Za, pointer → Zp
open Go.IntKind renaming i64 → O
open Go.Obj renaming cells → Zc
open Go.Addr renaming mk → A
open Option renaming none → F, some → Z
open Bool renaming false → X, true → H
open Go renaming World → Zw, Value → Zv
set_option maxHeartbeats 4000000
set_option linter.unusedVariables false
set_option linter.unusedSimpArgs false
set_option maxRecDepth 100000
namespace Go.Proofs.YtbjppepjmcfkaaaGreatDoor
theorem zow {E:Prop} (u:E:=by
 exact⟨rfl,kG.lost (ah.out B) B ((((Fr.al _ _).trans d).trans f).trans ((Fr.al _ _).trans e))⟩):E:=u
theorem zot {E:Prop} (u:E:=by
 go_simp;go_at_call 218;refine(ih.lost (P.drewN 1) y a9).mono ?_;rintro l b ⟨rfl,g⟩;go_wp2
 exact⟨rfl,kG.lost rfl a9 ((M.drewN 1).trans g)⟩):E:=u
theorem zeg {k:Prop} (n:k:=by
 simp[results,results197,go_sem,a2,a3,Q,a5,empty]):k:=n
theorem zon {k:Prop} (n:k:=by
 rintro f o (⟨m,rfl,b⟩|⟨m,an,rfl,p,L,b⟩);·go_wp2;exact zox
 obtain⟨N,B,P,_,rfl,a6,ab,K,rfl⟩:=p.shape;have ao:=b.size;go_wp2_with (fail);refine(gS L _ _ _ _ _ _).mono ?_;rintro f ay (⟨C,rfl,g⟩|⟨C,rfl,R,g⟩);·go_wp2;exact⟨rfl,kG.lost rfl C ((((Fr.al _ _).trans a).trans b).trans g)⟩
 obtain⟨a2,a3,Q,a5,ai,aj,ak,am⟩:=((a7.fr a oA).fr b oA).fr g oA;go_wp2
 exact jU (v:=Za #[U O N,I B,U O P,J a6 ab K]) (by simp[results,results197,go_sem,a2,a3,Q,a5,empty]) rfl (kG.fin ae ((((Fr.al _ _).trans a).trans b).trans g) R (jE _) (show w.heap.size<z.heap.size by omega) ((p).fr oA g))):k:=n
theorem zef {k:Prop} (n:k:=by
 exact⟨rfl,kG.lost (ap.out V) V (((Fr.al _ _).trans a).trans i)⟩):k:=n
theorem zou {k:Prop} (n:k:=by
 exact⟨rfl,kG.lost rfl C ((((((Fr.al _ _).trans a).trans i).trans D).trans (b.trans (Fr.al _ _))).trans g)⟩):k:=n
theorem zov {k:Prop} (n:k:=by
 exact⟨rfl,kG.lost (kY oD m) m (((((Fr.al _ _).trans a).trans i).trans D).trans b)⟩):k:=n
theorem zox {k:Prop} (n:k:=by
 exact⟨rfl,kG.lost (kY oD m) m (((Fr.al _ _).trans a).trans b)⟩):k:=n
theorem zoy {k:Prop} (n:k:=by
 exact⟨rfl,kG.lost (az.out ad) ad ((((Fr.al _ _).trans a).trans i).trans D)⟩):k:=n
theorem zoz {p:Prop} (P:p:=by
 simp only[bne];rw[show((1:Nat):Int)=1 from rfl,n];rfl):p:=P
theorem zom {p:Prop} (P:p:=by
 have a9:0<=(sign (txt ts u)).2:=by rw[beq_iff_eq]at n;rw[n];decide
 clear e a6 n y;obtain⟨b7,b8,b9,ba,_,_,_,_⟩:=id a3;by_cases a5:V.2.bad=H;·have ag:=zl4 oD (k:=i) (m:=j) (x:=l) (a:=g) (nn:=k) (c:=h) (ih (show o<=t by omega)) ao a9 au a5;have HS:Hid (q.2=V.2):=(stuck ts o).bl _ _ _ _ a5 aR.out;clear a9;go_wp2_with (fail);refine E.mono ?_;rintro L av ⟨rfl,R⟩;obtain rfl:=R.symm;go_wp2_with (fail);refine ag.mono ?_;rintro L aQ ⟨rfl,W⟩;go_wp2;exact⟨rfl,kG.lost HS.out a5 ((ah.trans (Fr.al _ _)).trans W)⟩
 ·have aB:V.2.bad=X:=by simpa using a5
  have ag:=zl3 oD (ih (show o<=t by omega)) ao (B:=w.heap.size+1) (D:=f.heap.size) oA oK oK aJ a9 au aB;clear a9 a5 aB;generalize (sign (txt ts u)).1=bm at *;go_wp2_with (fail);refine E.mono ?_;rintro L av ⟨rfl,R⟩;obtain rfl:=R.symm;go_wp2_with (fail);refine ag.mono ?_;rintro L aQ ⟨bb,rfl,aC,aS,W⟩;obtain⟨aE,aH,aF,_,rfl,aw,aG,ax,rfl⟩:=aC.shape;have ar:=aL.fr W oA;have aT:=aK.fr W oA;have bi:=ar.lt;obtain⟨aj,ak,am,an,aM,aN,aO,aP⟩:=id ar;go_wp2
  go_roundg o
  case rel =>
   refine⟨_,V.2,aE,aF,aH,aw,aG,ax,aR.out,oA,?_,ar.put,?_,aS.put4 oA _ _ _ _,((ah.trans (Fr.al _ _)).trans W).put4 oA _ _ _ _⟩;·exact(((aT.other oA _).other oA _).other oA _).other oA _
   ·exact aC.frP (x:=f.heap.size) (Fr.put _ _ _ _ _ _) (fun d b=>⟨b.2.2,b.2.1⟩) (fun d b=>⟨b.1,b.2.1,by simpa using b.2.2⟩)
  case measure=>omega):p:=P
theorem zoq {p:Prop} (P:p:=by
 have aU:=Fr.put wr w.heap.size (U O i) (I l) (U O j) (J g k h)
 exact .inr ⟨S.ok,_,rfl,(ap.frP (x:=w.heap.size) aU (fun d b=>⟨b.2.2,oA⟩) (fun d b=>b)).frP (x:=r) (Fr.al _ _) (fun d b=>⟨by simpa using b.2.2,oA⟩) (fun d b=>⟨oA,oE⟩),(S.put4 oA _ _ _ _).alloc _,(ah.put4 (jE _) _ _ _ _).alloc _⟩):p:=P
theorem zor {p:Prop} (P:p:=by
 refine⟨K.1,K.2,b1,b2,bc,aW,b6,aX,a7.out,jE _,(az.fr C oA).alloc _,Box4.new _ _ _ _ _ _,?_,aA.alloc _,(((Fr.al _ _).trans C).alloc _)⟩
 exact a2.frP (x:=r) (Fr.al _ _) (fun d b=>⟨b.2,oA⟩) (fun d b=>⟨oA,oA,oK⟩)):p:=P
theorem zhh {p:Prop} (P:p:=by
 exact⟨rfl,kG.lost ((stuck ts t).bl _ _ _ _ b a7.out) b ((Fr.al _ _).trans C)⟩):p:=P
theorem zo0 {p:Prop} (P:p:=by
 simp only[bne];rw[show((2:Nat):Int)=2 from rfl,n];rfl):p:=P
theorem zo1 {p:Prop} (P:p:=by
 simp only[bne];rw[show((0:Nat):Int)=0 from rfl,n];rfl):p:=P
theorem zol {g:Prop} (e:g:=by
 go_wp2_with (fail);refine(zdf d).mono ?_;rintro h aH (⟨x,rfl,m⟩|⟨x,rfl,ad,m⟩)
 ·have HS:Hid (q.2=(whole ts s).2):=by
   rw[zJ oD x,ju oD]at b;exact(stuck ts (a+1)).p _ _ _ x b
  go_wp2;exact⟨rfl,kG.lost HS.out x (((Fr.al _ _).trans c).trans m)⟩
 have aI:=m.size;cases z:eqS (txt ts (whole ts s).2) ⟨#[40]⟩
 case true =>
  rw[z,jv rfl]at b;have K:=zam z;obtain⟨g,ae,rfl⟩:=zjk (by rw[K];exact x) b;rw[K]at ae;clear K;go_wp2_with (fail);refine(yX ad ⟨#[40]⟩ oD z rfl).mono ?_;rintro h ax ⟨rfl,N,n⟩;have aC:=n.size;go_wp2_with (fail);refine(zrt ih ah _ N ae).mono ?_;exact zoo
 case false =>
  rw[z,ju oD]at b;go_wp2_with (fail);refine(yO ad ⟨#[40]⟩ oD z rfl).mono ?_;rintro h ax ⟨rfl,N,n⟩;have aC:=n.size;go_wp2_with (fail);refine(zqx (ih (jE _)) _ N b).mono ?_
  exact zoo):g:=e
theorem zoo {g:Prop} (e:g:=by
 rintro h ay (⟨j,rfl,f⟩|⟨j,aw,rfl,y,P,f⟩);·go_wp2;exact⟨rfl,kG.lost rfl j (((((Fr.al _ _).trans c).trans m).trans n).trans f)⟩
 obtain⟨R,a7,S,_,rfl,D,V,E,rfl⟩:=y.shape;obtain⟨W,a2,a3,a5,ao,ap,ar,au⟩:=(((ab.fr c oA).fr m oA).fr n oA).fr f oA;go_wp2
 exact jU (v:=Za #[U O R,I a7,U O S,J D V E]) (by simp[results,results245,go_sem,W,a2,a3,a5]) rfl (kG.hand af ((((Fr.al _ _).trans c).trans m).trans n) oA j y P f)):g:=e
theorem zop {g:Prop} (e:g:=by
 rintro h ay (⟨j,rfl,f⟩|⟨j,aw,rfl,y,P,f⟩);·go_wp2;exact⟨rfl,kG.lost rfl j (((Fr.al _ _).trans c).trans f)⟩
 obtain⟨R,a7,S,_,rfl,D,V,E,rfl⟩:=y.shape;obtain⟨W,a2,a3,a5,ao,ap,ar,au⟩:=(ab.fr c oA).fr f oA;go_wp2
 exact jU (v:=Za #[U O R,I a7,U O S,J D V E]) (by simp[results,results245,go_sem,W,a2,a3,a5]) rfl (kG.hand af ((Fr.al _ _).trans c) oA j y P f)):g:=e
theorem zo2 {j:Prop} (B:j:=by
 simp[results,results239,go_sem,t,u,x,y,W,empty]):j:=B
theorem zos {j:Prop} (B:j:=by
 have ad:=(n.fr (show w.heap.size<z.heap.size by omega) V).low (show w.heap.size<=z.heap.size by omega)
 exact .inr ⟨g,_,rfl,ad.rowed oE oC,(R.put4 oA _ _ _ _).alloc _,((((Fr.al _ _).trans b).trans c).put4 (jE _) _ _ _ _).alloc _⟩):j:=B
namespace syn
open Go.RowKit
open lexs (Tok Fine)
section
variable {w w':Zw} {r G:Nat} {ts:List Tok} {s:St}
variable {b d e:Nat} {f:St->Option (Tree × St)}
theorem kT.lost (c:kT r G ts b f) {q:Tree × St} (g:Ld w r G ts s) (i:f s=Z q) (h:q.2.bad=H) : Calls prog b #[Zp (Z (A r 0 F))] w fun d w'=>d=.panicked (Pan ts q.2)/\Fr r w w' :=
 (c g i).mono fun d w' c=>by
  rcases c with⟨_,a,e⟩|⟨a,_⟩
  ·exact⟨a,e⟩
  ·rw[h]at a;cases a
theorem kT.fine (c:kT r G ts b f) {q:Tree × St} (g:Ld w r G ts s) (i:f s=Z q) (h:q.2.bad=X) : Calls prog b #[Zp (Z (A r 0 F))] w fun e w'=>∃v,e=.returned v/\Lies (fun d=>w.heap.size<=d/\d<w'.heap.size) w' q.1 v/\Ld w' r G ts q.2/\Fr r w w' :=
 (c g i).mono fun e w' c=>by
  rcases c with⟨a,_⟩|⟨_,a⟩
  ·rw[h]at a;cases a
  ·exact a
theorem Lies.rowed2P {d Q:Nat->Prop} {b:Zw} {u v:Tree} {e f g h i j l n:Zv} {T:TypeId} {o c:Nat} {k m:Int} {x:ByteArray} (z:Lies d b u (Za #[e,f,g,h])) (B:Lies d b v (Za #[i,j,l,n])) (t:∀a,d a->a<b.heap.size) (s:∀a,d a->Q a) (C:o=b.heap.size) (D:Q o) (E:2<=c:=by omega) : Lies Q (b.alloc (Zc #[e,f,g,h,i,j,l,n] T)) (.node k x m [u,v]) (Za #[U O k,I x,U O m,J (Z (A o 0 F)) 2 c]):=by
 obtain⟨w,y⟩:=zu6 b (y0:=e) (y1:=f) (y2:=g) (y3:=h) (z0:=i) (z1:=j) (z2:=l) (z3:=n) (T:=T) C;refine Lies.two D w y ?_ ?_;·exact z.to s (fun a q r=>((Below.refl b.heap.size b).alloc (jE _) _).cell (p:=(A a r F)) (t a q))
 ·exact B.to s (fun a q r=>((Below.refl b.heap.size b).alloc (jE _) _).cell (p:=(A a r F)) (t a q))
theorem zuo:sign empty=(0,-1):=by rw[zap];decide
theorem znf (c:Ld w r G ts s) (a:0<=(sign (txt ts s)).2):∃b:s.i<ts.length,raw ts[s.i]=txt ts s:=by
 have b:=zp5 a;refine⟨b,?_⟩;unfold txt at a |-;rw[zaz c.ok,cK b]at a |-;simp only at a |-;split at a;·rw[zuo]at a;exact absurd a oD
 ·rename_i d;rw[ju d];rfl
theorem zl3 (a6:b=227\/b=232\/b=239) (ih:kT r G ts b f) (u:Ld w r G ts s) {B D:Nat} (aE:r<B) (aF:B<=w.heap.size) (aG:D<w.heap.size) {x:Tree} {j k:Int} {h:ByteArray} {i:Option Addr} (ab:Lies (fun a=>B<=a/\a≠D/\a<w.heap.size) w x (Za #[U O j,I h,U O k,J i d e])) (P:0<=(sign (txt ts s)).2) {q:Tree × St} (ad:f s.next=Z q) (c:q.2.bad=X) : Calls prog 228 #[Zp (Z (A r 0 F)),Za #[U O j,I h,U O k,J i d e],.func (.func b) #[Zp (Z (A r 0 F))] #[]] w fun m w' =>
   ∃v,m=.returned v/\Lies (fun a=>B<=a/\a≠D/\a<w'.heap.size) w' (.node 19 empty (sign (txt ts s)).1 [x,q.1]) v/\Ld w' r G ts q.2/\Fr r w w':=by
 rcases a6 with rfl | rfl | rfl
 all_goals
  have au:=kc25;have aH:=u.lt;obtain⟨ac,ae⟩:=znf u P;have a7:=(u.alloc (Zc #[U O j,I h,U O k,J i d e] 25)).alloc (Zc #[U O 0,I empty,U O 0,J F 0 0] 25);have a5:=(Box4.new w (U O j) (I h) (U O k) (J i d e) 25).alloc (Zc #[U O 0,I empty,U O 0,J F 0 0] 25);have z:=Box4.new (w.alloc (Zc #[U O j,I h,U O k,J i d e] 25)) (U O 0) (I empty) (U O 0) (J F 0 0) 25;rw[jP]at z;have K:=zba a7 ac;rw[ae]at K;have aa:=fun w af=>zrv (txt ts s) w af P
  generalize (sign (txt ts s)).1=Q at *;generalize txt ts s=aS at *;go_enter func228,ntmps228;go_wp2_with (fail);refine K.mono ?_;rintro m R ⟨rfl,E,n⟩;go_wp2_with (fail);refine(aa _ E.ops).mono ?_;rintro m p ⟨rfl,L⟩;have a8:=E.below L;have o:Fr r R p:=Fr.below L;have y:=(a5.fr n oA).fr o oA;have t:=(z.fr n oA).fr o oA;obtain⟨aN,aO,aP,aQ,av,aw,ax,ay⟩:=id y;have aI:w.heap.size+1<p.heap.size:=t.lt;have aU:w.heap.size+2<=R.heap.size:=by have:=n.size;simpa using this
  have aV:=o.size;go_wp2
  go_region_with (refine(ih.fine (a8.drewN 1) ad c).mono ?_;rintro m g ⟨aR,rfl,M,a9,l⟩;obtain⟨ag,ao,ah,_,rfl,S,ak,T,rfl⟩:=M.shape;obtain⟨az,aA,aB,aC,_,_,_,_⟩:=(y.drewN 1).fr l oA;obtain⟨V,W,a2,a3,aJ,aK,aL,aM⟩:=(t.drewN 1).fr l oA;have ar:w.heap.size+1<g.heap.size:=((t.drewN 1).fr l oA).lt)
  all_goals
   go_wp2;refine jU (v:=Za #[U O 19,I empty,U O Q,J (Z (A g.heap.size 0 F)) 2 2]) (by simp[results,results228,go_sem,V,W,a2,a3,ar,empty]) rfl ?_;have C:Fr r w g:=(((((Fr.al _ _).trans (Fr.al _ _)).trans n).trans o).drewN 1).trans l;have ap:=l.size;have aT:p.heap.size<=g.heap.size:=ap;have am:Lies (fun a=>B<=a/\a≠D/\a<g.heap.size/\a≠w.heap.size+1) g x (Za #[U O j,I h,U O k,J i d e]):=ab.frP (x:=r) C (fun a c=>⟨c.2.2,oA⟩) (fun a c=>⟨c.1,c.2.1,oA,oA⟩)
   have ai:Lies (fun a=>B<=a/\a≠D/\a<g.heap.size/\a≠w.heap.size+1) g q.1 (Za #[U O ag,I ao,U O ah,J S ak T]):=M.to (fun a c=>by
    have aD:p.heap.size<=a:=c.1
    exact⟨oA,oA,c.2,oA⟩) (fun _ _ _=>rfl)
   have N:=Fr.put g (w.heap.size+1) (U O 19) (I empty) (U O Q) (J (Z (A g.heap.size 0 F)) 2 2);have an:=am.frP (x:=w.heap.size+1) N (fun a c=>⟨c.2.2.1,c.2.2.2⟩) (fun a c=>c);have aj:=ai.frP (x:=w.heap.size+1) N (fun a c=>⟨c.2.2.1,c.2.2.2⟩) (fun a c=>c);exact⟨_,rfl,an.rowed2P aj (fun a c=>by simpa using c.2.2.1) (fun a c=>⟨c.1,c.2.1,oE⟩) oC ⟨oA,oA,oC⟩,(a9.put4 oA _ _ _ _).alloc _,(C.put4 oA _ _ _ _).alloc _⟩
theorem zl4 (v:b=227\/b=232\/b=239) (ih:kT r G ts b f) (h:Ld w r G ts s) {k m:Int} {x:ByteArray} {a:Option Addr} {nn c:Nat} (p:0<=(sign (txt ts s)).2) {q:Tree × St} (E:f s.next=Z q) (C:q.2.bad=H) : Calls prog 228 #[Zp (Z (A r 0 F)),Za #[U O k,I x,U O m,J a nn c],.func (.func b) #[Zp (Z (A r 0 F))] #[]] w fun d w'=>d=.panicked (Pan ts q.2)/\Fr r w w':=by
 rcases v with rfl | rfl | rfl
 all_goals
  have Q:=kc25;have R:=h.lt;obtain⟨D,K⟩:=znf h p;have y:=(h.alloc (Zc #[U O k,I x,U O m,J a nn c] 25)).alloc (Zc #[U O 0,I empty,U O 0,J F 0 0] 25);have t:=(Box4.new w (U O k) (I x) (U O m) (J a nn c) 25).alloc (Zc #[U O 0,I empty,U O 0,J F 0 0] 25);have n:=zba y D;rw[K]at n;have B:=fun w L=>zrv (txt ts s) w L p
  generalize (sign (txt ts s)).1=M at *;generalize txt ts s=a3 at *;go_enter func228,ntmps228;go_wp2_with (fail);refine n.mono ?_;rintro d N ⟨rfl,l,i⟩;go_wp2_with (fail);refine(B _ l.ops).mono ?_;rintro d P ⟨rfl,o⟩;have z:=l.below o;have j:Fr r N P:=Fr.below o;obtain⟨S,T,V,W,_,_,_,_⟩:=(t.fr i oA).fr j oA;go_wp2;refine wp_region_any oB ?_;change wpAny _ _ _ _ _ _ _ (World.drew _);refine tkQ 0 (U O M) ?_
 focus
  refine tkQ 2 (.func (.func 227) #[Zp (Z (A r 0 F))] #[]) ?_
 rotate_left
 focus
  refine tkQ 2 (.func (.func 232) #[Zp (Z (A r 0 F))] #[]) ?_
 rotate_left
 focus
  refine tkQ 2 (.func (.func 239) #[Zp (Z (A r 0 F))] #[]) ?_
 rotate_left
 all_goals
  refine wpAny_ready (rs:=[1,3]) oB oC ?_;refine AllReady.cons rfl (fun g e=>?_) (AllReady.cons rfl (fun g e=>?_) AllReady.nil)
  focus
   go_simp;refine e _ _ ?_;clear e g;refine one0 3 fun g e=>?_
  all_goals
   go_simp;refine(ih.lost (z.drewN 1) E C).mono ?_;rintro d a2 ⟨rfl,u⟩;go_wp2;exact⟨rfl,rfl,(((((Fr.al _ _).trans (Fr.al _ _)).trans i).trans j).drewN 1).trans u⟩
end
section
variable {w w':Zw} {r G:Nat} {ts:List Tok} {s:St}
variable {a:Nat}
theorem yaq (b:a<9):sign (sv a)=(so a,sl a):=by
 rw[zap];rcases zbi b with rfl | rfl | rfl | rfl | rfl | rfl | rfl | rfl | rfl<;>rfl
theorem zha {g:List ByteArray} {d:Int} (k:∀j∈g,(sign j).2=d) (l:∀a,a<9->sl a=d->sv a∈g) (h:0<=d):zQ ts s g=((sign (txt ts s)).2==d):=by
 unfold zQ;generalize txt ts s=e;rw[Bool.eq_iff_iff,List.any_eq_true,beq_iff_eq];constructor;·rintro⟨j,o,f⟩;obtain rfl:=zeu f;exact k _ o
 ·intro b;by_cases i:∀a,a<9->eqS (sv a) e=X;·rw[zgh e i]at b;exfalso;rw[<- b]at h;exact absurd h oD
  ·obtain⟨a,c,f⟩:∃a,a<9/\eqS (sv a) e=H:=by
    refine Classical.byContradiction fun m=>i fun a c=>?_
    cases n:eqS (sv a) e;·rfl
    ·exact absurd ⟨a,c,n⟩ m
   obtain rfl:=zeu f;rw[yaq c]at b;exact⟨_,l a c b,by unfold eqS;simp⟩
def ws0:List ByteArray:=[⟨#[61,61]⟩,⟨#[60]⟩]
def ws1:List ByteArray:=[⟨#[43]⟩,⟨#[45]⟩,⟨#[124]⟩]
def ws2:List ByteArray:=[⟨#[42]⟩,⟨#[47]⟩,⟨#[37]⟩,⟨#[38]⟩]
theorem yds:zQ ts s ws0=((sign (txt ts s)).2==0):=by
 refine zha (fun e a=>?_) (fun d c=>?_) oD;·simp only[ws0,List.mem_cons,List.not_mem_nil,or_false]at a;rcases a with rfl | rfl<;>rw[zap]<;>rfl
 ·rcases zbi c with rfl | rfl | rfl | rfl | rfl | rfl | rfl | rfl | rfl<;>intro b<;>first | (exact absurd b oD) | (simp[ws0,sv,signs])
theorem ydt:zQ ts s ws1=((sign (txt ts s)).2==1):=by
 refine zha (fun e a=>?_) (fun d c=>?_) oD;·simp only[ws1,List.mem_cons,List.not_mem_nil,or_false]at a;rcases a with rfl | rfl | rfl<;>rw[zap]<;>rfl
 ·rcases zbi c with rfl | rfl | rfl | rfl | rfl | rfl | rfl | rfl | rfl<;>intro b<;>first | (exact absurd b oD) | (simp[ws1,sv,signs])
theorem ydu:zQ ts s ws2=((sign (txt ts s)).2==2):=by
 refine zha (fun e a=>?_) (fun d c=>?_) oD;·simp only[ws2,List.mem_cons,List.not_mem_nil,or_false]at a;rcases a with rfl | rfl | rfl | rfl<;>rw[zap]<;>rfl
 ·rcases zbi c with rfl | rfl | rfl | rfl | rfl | rfl | rfl | rfl | rfl<;>intro b<;>first | (exact absurd b oD) | (simp[ws2,sv,signs])
theorem Words.three (w:Zw) (c d e:ByteArray) (f:TypeId) (g:a=w.heap.size):Words (w.alloc (Zc #[I c,I d,I e] f)) a [c,d,e]:=by
 subst g;intro b h;have:b=0\/b=1\/b=2:=by simp at h;omega
 rcases this with rfl | rfl | rfl<;>simp
theorem Words.four (w:Zw) (d e f c:ByteArray) (g:TypeId) (h:a=w.heap.size):Words (w.alloc (Zc #[I d,I e,I f,I c] g)) a [d,e,f,c]:=by
 subst h;intro b i;have:b=0\/b=1\/b=2\/b=3:=by simp at i;omega
 rcases this with rfl | rfl | rfl | rfl<;>simp
theorem zzf (c:Ld w r G ts s) {T:TypeId} (d:a=w.heap.size):Calls prog 151 #[Zp (Z (A r 0 F)),J (Z (A a 0 F)) 3 3] (w.alloc (Zc #[I ⟨#[43]⟩,I ⟨#[45]⟩,I ⟨#[124]⟩] T)) fun b w'=>b=.returned (Y ((sign (txt ts s)).2==1))/\w'=w.alloc (Zc #[I ⟨#[43]⟩,I ⟨#[45]⟩,I ⟨#[124]⟩] T):=by
 rw[<- ydt];exact dX (c.alloc _) ws1 a 3 oD oD (Words.three w _ _ _ T d)
theorem zzg (c:Ld w r G ts s) {T:TypeId} (d:a=w.heap.size):Calls prog 151 #[Zp (Z (A r 0 F)),J (Z (A a 0 F)) 4 4] (w.alloc (Zc #[I ⟨#[42]⟩,I ⟨#[47]⟩,I ⟨#[37]⟩,I ⟨#[38]⟩] T)) fun b w'=>b=.returned (Y ((sign (txt ts s)).2==2))/\w'=w.alloc (Zc #[I ⟨#[42]⟩,I ⟨#[47]⟩,I ⟨#[37]⟩,I ⟨#[38]⟩] T):=by
 rw[<- ydu];exact dX (c.alloc _) ws2 a 4 oD oD (Words.four w _ _ _ _ T d)
theorem zze (b:Ld w r G ts s) {M:Nat} {T:TypeId} (c:M=w.heap.size):Calls prog 151 #[Zp (Z (A r 0 F)),J (Z (A M 0 F)) 2 2] (w.alloc (Zc #[I ⟨#[61,61]⟩,I ⟨#[60]⟩] T)) fun a w'=>a=.returned (Y ((sign (txt ts s)).2==0))/\w'=w.alloc (Zc #[I ⟨#[61,61]⟩,I ⟨#[60]⟩] T):=by
 rw[<- yds];exact dX (b.alloc _) ws0 M 2 oD oD (Words.two w _ _ T c)
end
section
variable {w w':Zw} {r G:Nat} {ts:List Tok} {s:St}
theorem yd1 {t:Nat} (ih:∀ {ad:Nat},ad<=t->kT r G ts 232 (zK ts ad 2)):kT r G ts 227 (zK ts (t+1) 1):=by
 intro w s q a8 z;have aY:=kc25;have aZ:∀(ac:Fn) (first ab:Array Zv) (w:Zw),(Instr.makeFunc ac first ab).run prog w=.ok (.func ac first ab) w:=fun _ _ _ _=>rfl
 have b0:=a8.lt;have az:=Box4.new w (U O 0) (I empty) (U O 0) (J F 0 0) 25;unfold zK at z;rw[ju oD]at z;obtain⟨K,ay,ae⟩:=qP z;have a7:Hid (zV ts t 1 K.1 K.2=Z q):=ae;clear z ae;go_enter func227,ntmps227;go_wp2_with (fail);refine(ih (jE _) (a8.alloc _) ay).mono ?_;rintro L f (⟨b,rfl,C⟩|⟨b,aV,rfl,a2,aA,C⟩);·go_wp2;exact zhh
 obtain⟨b1,bc,b2,_,rfl,aW,b6,aX,rfl⟩:=a2.shape;have aI:=C.size;rw[jP]at aI a2;go_wp2
 go_loopg [] t (fun o wr=>∃(aa:Tree) (u:St) (i j:Int) (l:ByteArray) (g:Option Addr) (k h:Nat),Hid (zV ts o 1 aa u=Z q)/\o<=t/\Box4 wr w.heap.size (U O 0) (I empty) (U O 0) (J F 0 0)/\Box4 wr f.heap.size (U O i) (I l) (U O j) (J g k h) /\
  Lies (fun d=>w.heap.size+1<=d/\d≠f.heap.size/\d<wr.heap.size) wr aa (Za #[U O i,I l,U O j,J g k h])/\Ld wr r G ts u/\Fr r w wr)
 case atStart =>
  exact zor
 case round =>
  obtain⟨aa,u,i,j,l,g,k,h,af,bf,ai,a3,ap,S,ah⟩:=hrel;have bh:=a3.lt
  cases gk with
  | zero=>have:=af.out;unfold zV at this;simp at this
  | succ o =>
   have e:=af.out;clear af a7;unfold zV at e;rw[S.ok,ju oD]at e;have E:=zzf (T:=9) S rfl;have ao:=S.alloc (Zc #[I ⟨#[43]⟩,I ⟨#[45]⟩,I ⟨#[124]⟩] 9);have aL:=a3.alloc (Zc #[I ⟨#[43]⟩,I ⟨#[45]⟩,I ⟨#[124]⟩] 9);have aK:=ai.alloc (Zc #[I ⟨#[43]⟩,I ⟨#[45]⟩,I ⟨#[124]⟩] 9);have aJ:=ap.frP (x:=r) (Q:=fun d=>w.heap.size+1<=d/\d≠f.heap.size/\d<(wr.alloc (Zc #[I ⟨#[43]⟩,I ⟨#[45]⟩,I ⟨#[124]⟩] 9)).heap.size) (Fr.al wr (Zc #[I ⟨#[43]⟩,I ⟨#[45]⟩,I ⟨#[124]⟩] 9)) (fun d b=>⟨b.2.2,oA⟩) (fun d b=>⟨b.1,b.2.1,oK⟩);cases n:((sign (txt ts u)).2==1)
   case false =>
    rw[n]at E;have y:((sign (txt ts u)).2 != ((1:Nat):Int))=H:=zoz;rw[y,jv rfl]at e;simp only[jh]at e;subst e;clear n y;obtain⟨aj,ak,am,an,aM,aN,aO,aP⟩:=ai;obtain⟨b7,b8,b9,ba,_,_,_,_⟩:=a3;have aD:w.heap.size<wr.heap.size:=oA;go_wp2_with (fail);refine E.mono ?_;rintro L av ⟨rfl,R⟩;obtain rfl:=R.symm;go_wp2;refine jU (v:=Za #[U O i,I l,U O j,J g k h]) (by simp[results,results227,go_sem,aj,ak,am,an,aD]) rfl ?_;exact zoq
   case true =>
    rw[n]at E;have y:((sign (txt ts u)).2 != ((1:Nat):Int))=X:=zoz;rw[y,ju oD]at e;obtain⟨V,au,a6⟩:=qP e;rw[ju oD]at a6;have aR:Hid (zV ts o 1 (.node 19 empty (sign (txt ts u)).1 [aa,V.1]) V.2=Z q):=a6;exact zom
theorem zyc {t:Nat} (ih:∀ {ad:Nat},ad<=t->kT r G ts 239 (zK ts ad 3)):kT r G ts 232 (zK ts (t+1) 2):=by
 intro w s q a8 z;have aY:=kc25;have aZ:∀(ac:Fn) (first ab:Array Zv) (w:Zw),(Instr.makeFunc ac first ab).run prog w=.ok (.func ac first ab) w:=fun _ _ _ _=>rfl
 have b0:=a8.lt;have az:=Box4.new w (U O 0) (I empty) (U O 0) (J F 0 0) 25;unfold zK at z;rw[ju oD]at z;obtain⟨K,ay,ae⟩:=qP z;have a7:Hid (zV ts t 2 K.1 K.2=Z q):=ae;clear z ae;go_enter func232,ntmps232;go_wp2_with (fail);refine(ih (jE _) (a8.alloc _) ay).mono ?_;rintro L f (⟨b,rfl,C⟩|⟨b,aV,rfl,a2,aA,C⟩);·go_wp2;exact zhh
 obtain⟨b1,bc,b2,_,rfl,aW,b6,aX,rfl⟩:=a2.shape;have aI:=C.size;rw[jP]at aI a2;go_wp2
 go_loopg [] t (fun o wr=>∃(aa:Tree) (u:St) (i j:Int) (l:ByteArray) (g:Option Addr) (k h:Nat),Hid (zV ts o 2 aa u=Z q)/\o<=t/\Box4 wr w.heap.size (U O 0) (I empty) (U O 0) (J F 0 0)/\Box4 wr f.heap.size (U O i) (I l) (U O j) (J g k h) /\
  Lies (fun d=>w.heap.size+1<=d/\d≠f.heap.size/\d<wr.heap.size) wr aa (Za #[U O i,I l,U O j,J g k h])/\Ld wr r G ts u/\Fr r w wr)
 case atStart =>
  exact zor
 case round =>
  obtain⟨aa,u,i,j,l,g,k,h,af,bf,ai,a3,ap,S,ah⟩:=hrel;have bh:=a3.lt
  cases gk with
  | zero=>have:=af.out;unfold zV at this;simp at this
  | succ o =>
   have e:=af.out;clear af a7;unfold zV at e;rw[S.ok,ju oD]at e;have E:=zzg (T:=9) S rfl;have ao:=S.alloc (Zc #[I ⟨#[42]⟩,I ⟨#[47]⟩,I ⟨#[37]⟩,I ⟨#[38]⟩] 9);have aL:=a3.alloc (Zc #[I ⟨#[42]⟩,I ⟨#[47]⟩,I ⟨#[37]⟩,I ⟨#[38]⟩] 9);have aK:=ai.alloc (Zc #[I ⟨#[42]⟩,I ⟨#[47]⟩,I ⟨#[37]⟩,I ⟨#[38]⟩] 9);have aJ:=ap.frP (x:=r) (Q:=fun d=>w.heap.size+1<=d/\d≠f.heap.size/\d<(wr.alloc (Zc #[I ⟨#[42]⟩,I ⟨#[47]⟩,I ⟨#[37]⟩,I ⟨#[38]⟩] 9)).heap.size) (Fr.al wr (Zc #[I ⟨#[42]⟩,I ⟨#[47]⟩,I ⟨#[37]⟩,I ⟨#[38]⟩] 9)) (fun d b=>⟨b.2.2,oA⟩) (fun d b=>⟨b.1,b.2.1,oK⟩);cases n:((sign (txt ts u)).2==2)
   case false =>
    rw[n]at E;have y:((sign (txt ts u)).2 != ((2:Nat):Int))=H:=zo0;rw[y,jv rfl]at e;simp only[jh]at e;subst e;clear n y;obtain⟨aj,ak,am,an,aM,aN,aO,aP⟩:=ai;obtain⟨b7,b8,b9,ba,_,_,_,_⟩:=a3;have aD:w.heap.size<wr.heap.size:=oA;go_wp2_with (fail);refine E.mono ?_;rintro L av ⟨rfl,R⟩;obtain rfl:=R.symm;go_wp2;refine jU (v:=Za #[U O i,I l,U O j,J g k h]) (by simp[results,results232,go_sem,aj,ak,am,an,aD]) rfl ?_;exact zoq
   case true =>
    rw[n]at E;have y:((sign (txt ts u)).2 != ((2:Nat):Int))=X:=zo0;rw[y,ju oD]at e;obtain⟨V,au,a6⟩:=qP e;rw[ju oD]at a6;have aR:Hid (zV ts o 2 (.node 19 empty (sign (txt ts u)).1 [aa,V.1]) V.2=Z q):=a6;exact zom
theorem ycz {t:Nat} (ih:∀ {ad:Nat},ad<=t->kT r G ts 227 (zK ts ad 1)):kT r G ts 218 (qN ts (t+2)):=by
 intro w s q a8 z;have aY:=kc25;have aZ:∀(ac:Fn) (first ab:Array Zv) (w:Zw),(Instr.makeFunc ac first ab).run prog w=.ok (.func ac first ab) w:=fun _ _ _ _=>rfl
 have b0:=a8.lt;have az:=Box4.new w (U O 0) (I empty) (U O 0) (J F 0 0) 25;unfold qN at z;rw[a8.ok,ju oD]at z;unfold zK at z;rw[ju oD]at z;obtain⟨K,ay,ae⟩:=qP z;have a7:Hid (zV ts t 0 K.1 K.2=Z q):=ae;clear z ae;go_enter func218,ntmps218;go_wp2_with (fail);refine(ih (jE _) (a8.alloc _) ay).mono ?_;rintro L f (⟨b,rfl,C⟩|⟨b,aV,rfl,a2,aA,C⟩);·go_wp2;exact zhh
 obtain⟨i,l,j,_,rfl,g,k,h,rfl⟩:=a2.shape;have aI:=C.size;rw[jP]at aI a2;have S:=aA.alloc (Zc #[U O i,I l,U O j,J g k h] 25);have ai:=(az.fr C oA).alloc (Zc #[U O i,I l,U O j,J g k h] 25);have a3:=Box4.new f (U O i) (I l) (U O j) (J g k h) 25;have ah:=((Fr.al w (Zc #[U O 0,I empty,U O 0,J F 0 0] 25)).trans C).alloc (Zc #[U O i,I l,U O j,J g k h] 25);have ap:=a2.frP (x:=r) (Q:=fun d=>w.heap.size+1<=d/\d≠f.heap.size/\d<(f.alloc (Zc #[U O i,I l,U O j,J g k h] 25)).heap.size) (Fr.al f (Zc #[U O i,I l,U O j,J g k h] 25)) (fun d b=>⟨b.2,oA⟩) (fun d b=>⟨oA,oA,oK⟩);have bj:(f.alloc (Zc #[U O i,I l,U O j,J g k h] 25)).heap.size=f.heap.size+1:=jP _ _;have E:=zze (T:=9) (M:=f.heap.size+1) S bj.symm;have ao:=S.alloc (Zc #[I ⟨#[61,61]⟩,I ⟨#[60]⟩] 9);have aL:=a3.alloc (Zc #[I ⟨#[61,61]⟩,I ⟨#[60]⟩] 9);have aK:=ai.alloc (Zc #[I ⟨#[61,61]⟩,I ⟨#[60]⟩] 9);have aJ:=ap.frP (x:=r) (Q:=fun d=>w.heap.size+1<=d/\d≠f.heap.size/\d<((f.alloc (Zc #[U O i,I l,U O j,J g k h] 25)).alloc (Zc #[I ⟨#[61,61]⟩,I ⟨#[60]⟩] 9)).heap.size) (Fr.al _ (Zc #[I ⟨#[61,61]⟩,I ⟨#[60]⟩] 9)) (fun d b=>⟨b.2.2,oA⟩) (fun d b=>⟨b.1,b.2.1,oK⟩)
 cases t with
 | zero=>have:=a7.out;unfold zV at this;simp at this
 | succ o =>
  have e:=a7.out;clear a7;unfold zV at e;rw[b,ju oD]at e;cases n:((sign (txt ts K.2)).2==0)
  case false =>
   rw[n]at E;have y:((sign (txt ts K.2)).2 != ((0:Nat):Int))=H:=zo1;rw[y,jv rfl]at e;simp only[jh]at e;subst e;clear n y;obtain⟨aj,ak,am,an,aM,aN,aO,aP⟩:=az.fr C oA;have aD:w.heap.size<f.heap.size:=oA;go_wp2_with (fail);refine E.mono ?_;rintro L av ⟨rfl,R⟩;obtain rfl:=R.symm;go_wp2;refine jU (v:=Za #[U O i,I l,U O j,J g k h]) (by simp[results,results218,go_sem,aj,ak,am,an,aD]) rfl ?_;have aU:=Fr.put f w.heap.size (U O i) (I l) (U O j) (J g k h);exact .inr ⟨b,_,rfl,(a2.frP (x:=w.heap.size) aU (fun d b=>⟨b.2,oA⟩) (fun d b=>b)).frP (x:=r) ((Fr.al _ _).trans (Fr.al _ _)) (fun d b=>⟨by simpa using b.2,oA⟩) (fun d b=>⟨oA,oE⟩),((aA.put4 oA _ _ _ _).alloc _).alloc _,((((Fr.al _ _).trans C).put4 (jE _) _ _ _ _).alloc _).alloc _⟩
  case true =>
   rw[n]at E;have y:((sign (txt ts K.2)).2 != ((0:Nat):Int))=X:=zo1;rw[y,ju oD]at e;obtain⟨V,au,a6⟩:=qP e;rw[jv oD]at a6;simp only[jh]at a6;subst a6;have a9:0<=(sign (txt ts K.2)).2:=by rw[beq_iff_eq]at n;rw[n];decide
   clear e n y;by_cases a5:V.2.bad=H;·have ag:=zl4 oD (k:=i) (m:=j) (x:=l) (a:=g) (nn:=k) (c:=h) (ih (show o<=o+1 by omega)) ao a9 au a5;clear a9;go_wp2_with (fail);refine E.mono ?_;rintro L av ⟨rfl,R⟩;obtain rfl:=R.symm;go_wp2_with (fail);refine ag.mono ?_;rintro L aQ ⟨rfl,W⟩;go_wp2;exact⟨rfl,kG.lost rfl a5 ((ah.trans (Fr.al _ _)).trans W)⟩
   ·have aB:V.2.bad=X:=by simpa using a5
    have ag:=zl3 oD (ih (show o<=o+1 by omega)) ao (B:=w.heap.size+1) (D:=f.heap.size) oA oK oK aJ a9 au aB;clear a9 a5;generalize (sign (txt ts K.2)).1=bm at *;go_wp2_with (fail);refine E.mono ?_;rintro L av ⟨rfl,R⟩;obtain rfl:=R.symm;go_wp2_with (fail);refine ag.mono ?_;rintro L aQ ⟨bb,rfl,aC,aS,W⟩;obtain⟨aE,aH,aF,_,rfl,aw,aG,ax,rfl⟩:=aC.shape;have ar:=aL.fr W oA;have aT:=aK.fr W oA;have bi:=ar.lt;obtain⟨aj,ak,am,an,aM,aN,aO,aP⟩:=id ar;obtain⟨bn,bo,bp,bq,br,aV,bs,bb⟩:=id aT;go_wp2;refine jU (v:=Za #[U O aE,I aH,U O aF,J aw aG ax]) (by simp[results,results218,go_sem,bn,bo,bp,bq]) rfl ?_;have be:Fr r w _:=((ah.trans (Fr.al _ _)).trans W).put4 (N:=f.heap.size) oA (U O aE) (I aH) (U O aF) (J aw aG ax);have bg:=aC.frP (x:=f.heap.size) (Fr.put aQ f.heap.size (U O aE) (I aH) (U O aF) (J aw aG ax)) (fun d b=>⟨b.2.2,b.2.1⟩) (fun d b=>b);exact .inr ⟨aB,_,rfl,bg.frP (x:=w.heap.size) (Fr.put _ _ _ _ _ _) (fun d b=>⟨by simpa using b.2.2,oA⟩) (fun d b=>⟨oA,by simpa using b.2.2⟩),(aS.put4 oA _ _ _ _).put4 oA _ _ _ _,be.put4 (jE _) _ _ _ _⟩
end
end syn
namespace syn
open Go.RowKit
open lexs (Tok Fine own_shape)
section
variable (ts:List Tok) (item:Nat->St->Option (Tree × St))
def uY:Nat->List Tree->St->Option (List Tree × St)
 | 0,_,_=>F
 | f+1,ks,s=>(item f s).bind fun q=>if eqS (txt ts q.2) ⟨#[44]⟩ then uY f (ks++[q.1]) q.2.next else Z (ks++[q.1],kE ts ⟨#[41]⟩ q.2)
def bY (f:Nat) (s:St):Option (List Tree × St):=if eqS (txt ts s) ⟨#[41]⟩ then Z ([],s.next)else uY ts item f [] s
end
section
variable {w w' w0:Zw} {r G B:Nat} {ts:List Tok} {s:St} {kv:Zv} {ks:List Tree}
structure KO (w0:Zw) (B r G:Nat) (ts:List Tok) (w:Zw) (s:St) (kv:Zv) (ks:List Tree):Prop where
 ld:Ld w r G ts s
 low:r<w0.heap.size
 b0:w0.heap.size<=B
 fr:Fr r w0 w
 kids:Kids B (fun b=>B<=b/\b<w.heap.size/\Z b≠kv.ownBlock) w kv ks
variable {c:Nat}
theorem KO.nr (a:KO w0 B r G ts w s kv ks):kv.ownBlock≠Z r:=fun b=>by have c:=(a.kids.blk b).1;have d:=a.low;have e:=a.b0;omega
theorem KO.step (a:KO w0 B r G ts w s kv ks) {d:St} (f:Ld w' r G ts d) (c:Fr r w w'):KO w0 B r G ts w' d kv ks :=
 ⟨f,a.low,a.b0,a.fr.trans c,a.kids.grown c (.inr a.nr) (fun e b=>⟨b.2.1,by have:=a.low;have:=a.b0;simp;omega⟩) (fun e b=>⟨b.1,jo b.2.1 c.size,b.2.2⟩)⟩
theorem KO.set (a:KO w0 B r G ts w s kv ks) {N:Nat} (e:w0.heap.size<=N) (f:N<B) (o:Nat) (v:Zv):KO w0 B r G ts (w.setCell (A N o F) v) s kv ks :=
 ⟨a.ld.set (by have:=a.low;omega) o v,a.low,a.b0,a.fr.setNew e v,a.kids.grown ((Fr.refl N w).set o v) (.inr (fun d=>by have:=(a.kids.blk d).1;omega)) (fun c b=>⟨b.2.1,oE⟩) (fun c b=>⟨b.1,by rw[jR];exact b.2.1,b.2.2⟩)⟩
theorem KO.pushed {j:List Q4} (c:KO w0 B r G ts w s kv ks) (L:w.ownsRow B 25 4 kv ks.length (uX j)) (o:zG (fun b=>B<=b/\b<w.heap.size/\Z b≠kv.ownBlock) w ks j) {t:Tree} {q:Q4} (x:Lies (fun b=>B<=b/\b<w.heap.size/\Z b≠kv.ownBlock) w t q.v) {g:Zw} {i:Zv} {C:Obj} (z:g.ownsRow B 25 4 i (ks.length+1) (uX j++[q.1,q.2.1,q.2.2.1,q.2.2.2])) (u:(w.alloc C).grownBy g kv.ownBlock) (p:i.ownBlock=kv.ownBlock\/i.ownBlock=Z (w.heap.size+1)):KO w0 B r G ts g s i (ks++[t]):=by
 have d:w.grownBy g kv.ownBlock:=zi9 (World.grownBy_alloc w _ _) u;have N:=d.size;have K:=c.low;have E:=c.b0
 have l:∀b,(B<=b/\b<w.heap.size/\Z b≠kv.ownBlock)->(B<=b/\b<g.heap.size/\Z b≠i.ownBlock):=fun b h=>⟨h.1,oA,fun e=>by
  rcases p with k | k
  ·exact h.2.2 (e.trans k)
  ·rw[k]at e;have:b=w.heap.size+1:=by simpa using e
   omega⟩
 have n:∀b,(B<=b/\b<w.heap.size/\Z b≠kv.ownBlock)->∀f,g.cell? (A b f F)=w.cell? (A b f F):=fun b h f=>jN (a:=(A b f F)) (d.block b h.2.1 h.2.2)
 refine⟨c.ld.keep d (fun M e=>by have D:=(c.kids.blk e).1;omega),c.low,c.b0,?_,j++[q],?_,zG.snoc (x.to l n) (o.to l n)⟩;·exact⟨d.os.trans c.fr.os,d.tape.trans c.fr.tape,d.output.trans c.fr.output,jp c.fr.size d.size,fun f m y=>(d.block f (jo m c.fr.size) (fun e=>by have:=(c.kids.blk e.symm).1;omega)).trans (c.fr.block f m y)⟩
 ·rw[ztv,jb];exact z
theorem KO.one {h:Tree} {b d e f:Zv} (l:Ld w r G ts s) (p:r<w0.heap.size) (n:w0.heap.size<=B) (k:Fr r w0 w) (j:B<=w.heap.size) (m:c=w.heap.size) (o:Lies (fun a=>B<=a/\a<w.heap.size) w h (Za #[b,d,e,f])) : KO w0 B r G ts (w.alloc (Zc #[b,d,e,f] 25)) s (J (Z (A c 0 F)) 1 1) [h]:=by
 subst m;refine⟨l.alloc _,p,n,k.alloc _,[(b,d,e,f)],World.ownsRow_lit w #[b,d,e,f] 1 j oD rfl,?_,trivial⟩
 exact o.frP (x:=w.heap.size) (Fr.al _ _) (fun a g=>⟨g.2,oA⟩) (fun a g=>⟨g.1,oK,fun i=>by
  have:a=w.heap.size:=by simpa[Value.ownBlock] using i
  omega⟩)
def ycj (w:Zw) (r G:Nat) (ts:List Tok) (q:List Tree × St) (e:Ending) (w':Zw):Prop :=
 (q.2.bad=H/\e=.panicked (Pan ts q.2)/\Fr r w w')\/(q.2.bad=X/\q.1.length<=100001/\∃kv,e=.returned kv/\KO w w.heap.size r G ts w' q.2 kv q.1)
theorem zuu (a:Ld w r G ts s) (e:eqS (txt ts s) ⟨#[44]⟩=H) {b:TypeId} (k:c=w.heap.size) : Calls prog 122 #[Zp (Z (A r 0 F)),J (Z (A c 0 F)) 2 2] (w.alloc (Zc #[I ⟨#[44]⟩,I ⟨#[41]⟩] b)) fun d w'=>∃h,(h.toList==[44])=H/\d=.returned (I h)/\Ld w' r G ts s.next/\Fr r w w':=by
 have g:zQ ts s [⟨#[44]⟩,⟨#[41]⟩]=H:=by unfold zQ;simp[e]
 refine(zb1 (a.alloc _) [⟨#[44]⟩,⟨#[41]⟩] c 2 oC oD (Words.two w _ _ b k) g).mono ?_;rintro d w' ⟨rfl,i,j⟩;have f:=cE oD g;refine⟨_,?_,rfl,i,(Fr.al _ _).trans j⟩;rw[<- eqS_lit,<- zev (a.good _ (jH f)) a.ok (cK f) oD];exact e
theorem zyt (a:Ld w r G ts s) (i:eqS (txt ts s) ⟨#[44]⟩=X) (h:eqS (txt ts s) ⟨#[41]⟩=H) {b:TypeId} (l:c=w.heap.size) : Calls prog 122 #[Zp (Z (A r 0 F)),J (Z (A c 0 F)) 2 2] (w.alloc (Zc #[I ⟨#[44]⟩,I ⟨#[41]⟩] b)) fun d w'=>∃g,(g.toList==[44])=X/\d=.returned (I g)/\Ld w' r G ts s.next/\Fr r w w':=by
 have f:zQ ts s [⟨#[44]⟩,⟨#[41]⟩]=H:=by unfold zQ;simp[h]
 refine(zb1 (a.alloc _) [⟨#[44]⟩,⟨#[41]⟩] c 2 oC oD (Words.two w _ _ b l) f).mono ?_;rintro d w' ⟨rfl,j,k⟩;have e:=cE oD f;refine⟨_,?_,rfl,j,(Fr.al _ _).trans k⟩;rw[<- eqS_lit,<- zev (a.good _ (jH e)) a.ok (cK e) oD];exact i
theorem zwr (f:Ld w r G ts s) (e:eqS (txt ts s) ⟨#[44]⟩=X) (d:eqS (txt ts s) ⟨#[41]⟩=X) {a:TypeId} (g:c=w.heap.size) : Calls prog 122 #[Zp (Z (A r 0 F)),J (Z (A c 0 F)) 2 2] (w.alloc (Zc #[I ⟨#[44]⟩,I ⟨#[41]⟩] a)) fun b w'=>b=.panicked (Pan ts s)/\Fr r w w':=by
 refine(zgs (f.alloc _) [⟨#[44]⟩,⟨#[41]⟩] c 2 oC oD (Words.two w _ _ a g) (by unfold zQ;simp[d,e])).mono ?_;rintro b w' ⟨rfl,rfl⟩;exact⟨rfl,Fr.al _ _⟩
theorem zru (aj:c=218\/c=179) {item:Nat->St->Option (Tree × St)} {f:Nat} (ih:∀ {g:Nat},g<=f->kT r G ts c (item g)) (aN:∀(g:Nat) (s:St) (q:Tree × St),s.bad=H->item g s=Z q->q.2=s) (aK:f<=100000) (z:Ld w r G ts s) {q:List Tree × St} (b:bY ts item f s=Z q) : Calls prog 178 #[Zp (Z (A r 0 F)),.func (.func c) #[Zp (Z (A r 0 F))] #[]] w (ycj w r G ts q):=by
 rcases aj with rfl | rfl
 all_goals
  have aJ:=kc25;have af:=z.lt;obtain⟨aC,hi,az,aA,aB⟩:=info_parts zb9;unfold bY at b;cases n:eqS (txt ts s) ⟨#[41]⟩
  case true =>
   rw[n,jv rfl]at b;simp only[jh]at b;subst b;have Q:=yX (T:=9) z ⟨#[41]⟩ oD n rfl;have a2:s.next.bad=X:=z.ok;clear n;go_enter func178,ntmps178;go_wp2_with (fail);refine Q.mono ?_;rintro a aE ⟨rfl,W,p⟩;go_wp2;go_ret;exact .inr ⟨a2,oC,_,rfl,W,af,jE _,p,Kids.nil _ _ _⟩
  case false =>
   rw[n,ju oD]at b;have Q:=yO (T:=9) z ⟨#[41]⟩ oD n rfl;clear n
   cases f with
   | zero=>unfold uY at b;simp at b
   | succ f =>
    unfold uY at b;obtain⟨j,ah,b⟩:=qP b;have l:Hid ((if eqS (txt ts j.2) ⟨#[44]⟩ then uY ts item f ([]++[j.1]) j.2.next else Z ([]++[j.1],kE ts ⟨#[41]⟩ j.2))=Z q):=b;clear b;go_enter func178,ntmps178;go_wp2_with (fail);refine Q.mono ?_;rintro a aE ⟨rfl,W,p⟩;go_wp2_with (fail);refine(ih (Nat.le_succ _) W ah).mono ?_;rintro a aU (⟨D,rfl,y⟩|⟨D,aS,rfl,ab,am,y⟩)
    ·have HS:Hid (q.2=j.2):=by
      have:=l.out;rw[zJ oD D,ju oD]at this;simp only[jh]at this;show _=_;rw[<- this];exact kY oD D
     go_wp2;exact⟨rfl,.inl ⟨by rw[HS.out];exact D,by rw[HS.out],p.trans y⟩⟩
    obtain⟨aO,aW,aP,_,rfl,aH,aQ,aI,rfl⟩:=ab.shape;have aG:=p.size;have aX:=y.size;have a9:=KO.one (B:=w.heap.size) am af (jE _) (p.trans y) oA rfl (ab.low aG);go_wp2
    go_loopg [5] f (fun o kv wr=>∃(ks:List Tree) (k:St),Hid ((if eqS (txt ts k) ⟨#[44]⟩ then uY ts item o ks k.next else Z (ks,kE ts ⟨#[41]⟩ k))=Z q)/\ks.length+o<=f+1/\KO w w.heap.size r G ts wr k kv ks)
    case atStart=>exact⟨[]++[j.1],j.2,l.out,oE,a9⟩
    case round =>
     obtain⟨ks,k,K,aL,h⟩:=hrel;clear l a9;obtain⟨L,N,rfl⟩:=h.kids.shape;cases u:eqS (txt ts k) ⟨#[44]⟩
     case false =>
      have d:=K.out;rw[u,ju oD]at d;simp only[jh]at d;subst d;cases v:eqS (txt ts k) ⟨#[41]⟩
      case false =>
       rw[zf9 v];go_wp2_with (fail);refine(zwr h.ld u v rfl).mono ?_;rintro a a7 ⟨rfl,m⟩;go_wp2;exact⟨rfl,.inl ⟨rfl,rfl,h.fr.trans m⟩⟩
      case true =>
       have a2:k.next.bad=X:=h.ld.ok;go_wp2_with (fail);refine(zyt h.ld u v rfl).mono ?_;rintro a a7 ⟨aF,ay,rfl,C,m⟩;go_wp2;go_ret;exact .inr ⟨by simp only[zam v];exact a2,oO,_,rfl,by simp only[zam v];exact h.step C m⟩
     case true =>
      have d:=K.out;rw[u,jv rfl]at d;clear K
      cases gk with
      | zero=>unfold uY at d;simp at d
      | succ o =>
       unfold uY at d;obtain⟨i,ai,ae⟩:=qP d;have l:Hid ((if eqS (txt ts i.2) ⟨#[44]⟩ then uY ts item o (ks++[i.1]) i.2.next else Z (ks++[i.1],kE ts ⟨#[41]⟩ i.2))=Z q):=ae;clear d ae;go_wp2_with (fail);refine(zuu h.ld u rfl).mono ?_;rintro a a7 ⟨aF,ay,rfl,C,m⟩;have S:=h.step C m;go_wp2_with (fail);refine(ih (show o<=f+1 by omega) C ai).mono ?_;rintro a x (⟨E,rfl,R⟩|⟨E,aT,rfl,ac,an,R⟩)
       ·have HS:Hid (q.2=i.2):=by
         have:=l.out;rw[zJ oD E,ju oD]at this;simp only[jh]at this;show _=_;rw[<- this];exact kY oD E
        go_wp2;exact⟨rfl,.inl ⟨by rw[HS.out];exact E,by rw[HS.out],(h.fr.trans m).trans R⟩⟩
       obtain⟨a3,a8,a5,_,rfl,M,a6,P,rfl⟩:=ac.shape;have av:∀g,(Value.slice L ks.length N).ownBlock=Z g->w.heap.size<=g/\g<a7.heap.size:=fun g ar=>S.kids.blk ar
       have V:=S.step an R;have aZ:=V.fr.size;have aY:=S.fr.size
       have aw:Lies (fun e=>w.heap.size<=e/\e<x.heap.size/\Z e≠(Value.slice L ks.length N).ownBlock) x i.1 (Za #[U O a3,I a8,U O a5,J M a6 P]) :=
        ac.to (fun e ao=>⟨oA,ao.2,fun a=>by have:=(av e a.symm).2;omega⟩) (fun _ _ _=>rfl)
       obtain⟨aD,ad,aa⟩:=V.kids;have ag:Hid (zG (fun e=>w.heap.size<=e/\e<x.heap.size/\Z e≠(Value.slice L ks.length N).ownBlock) x ks aD):=aa;have aM:ks.length<=100001:=oA;clear aa;go_wp2_with (at_builtin;refine zsf rfl (.tmp 16) (.tmp 19) 23 rfl w.heap.size 25 aC (Za #[U O 0,I ⟨#[]⟩,U O 0,J F 0 0]) 4 56 underlying23 hi az aA aB rfl oD _ _ _ rfl (ad.alloc _) (A x.heap.size 0 F) 1 1 [U O a3,I a8,U O a5,J M a6 P] rfl rfl (zah _ _ _ _ _ _ _ rfl) oI (by unfold maxLen;omega) oA oN oD ?_;intro aR aV ax au ap;have ak:=KO.pushed (q:=(U O a3,I a8,U O a5,J M a6 P)) (t:=i.1) V ad ag.out aw ax au (by rcases ap with a | a;exact .inl a;exact .inr (by rw[a];simp)))
       go_roundg o
       case rel=>exact⟨_,i.2,l.out,oQ,ak⟩
       case measure=>omega
end
section
variable {w w' w0:Zw} {r G B:Nat} {ts:List Tok} {s:St}
variable {a:Nat}
theorem zto {i:ByteArray} :∀ {ks:List Tree} {s:St} {q:Tree × St},s.bad=X->xP ts a i ks s H=Z q->∃f,uY ts (qN ts) a ks s=Z f/\q=(.node 18 i 0 f.1,f.2):=by
 induction a with
 | zero=>intro ks s q h c;unfold xP at c;simp at c
 | succ a ih =>
  intro ks s q h c;unfold xP at c;rw[h]at c;simp only[Bool.not_false,Bool.and_self,if_true]at c;obtain⟨g,j,b⟩:=qP c;unfold uY;rw[j];simp only[jf];unfold eat at b;cases e:eqS (txt ts g.2) ⟨#[44]⟩
  ·rw[e]at b;simp only[jr,if_false]at b |-
   cases a with
   | zero=>unfold xP at b;simp at b
   | succ a =>
    unfold xP at b;simp only[Bool.false_and,jr,if_false,jh]at b;exact⟨_,rfl,b.symm⟩
  ·rw[e]at b;simp only[if_true]at b |-
   have d:g.2.next.bad=X:=by
    cases d:g.2.bad;·exact d
    ·rw[zJ oD d]at e;cases e
   exact ih d b
theorem zjk {e:ByteArray} {q:Tree × St} (f:(kE ts ⟨#[40]⟩ s).bad=X) (b:xI ts (a+1) e s=Z q):∃c,bY ts (qN ts) a (kE ts ⟨#[40]⟩ s)=Z c/\q=(.node 18 e 0 c.1,c.2):=by
 unfold xI at b;unfold bY;cases d:eqS (txt ts (kE ts ⟨#[40]⟩ s)) ⟨#[41]⟩;·rw[d]at b;simp only[jr,if_false]at b |-;exact zto f b
 ·rw[d]at b;simp only[if_true,jh]at b |-;exact⟨_,rfl,b.symm⟩
theorem zrt (ih:∀ {d:Nat},d<=a->kT r G ts 218 (qN ts d)) (o:a<=100000) (f:ByteArray) {w:Zw} {s:St} {e:List Tree × St} (i:Ld w r G ts s) (t:bY ts (qN ts) a s=Z e) : Calls prog 215 #[Zp (Z (A r 0 F)),I f] w (kG w r G ts (.node 18 f 0 e.1,e.2)):=by
 have E:=kc25;have M:∀(h:Fn) (first g:Array Zv) (w:Zw),(Instr.makeFunc h first g).run prog w=.ok (.func h first g) w:=fun _ _ _ _=>rfl
 have u:=i.lt;have m:=Box4.new w (U O 0) (I empty) (U O 0) (J F 0 0) 25;go_enter func215,ntmps215;go_wp2_with (fail);refine(zru oD ih (fun d s q c l=>(stuck ts d).e s q c l) o (i.alloc _) t).mono ?_;rintro K S (⟨c,rfl,n⟩|⟨c,L,kv,rfl,b⟩);·go_wp2;exact⟨rfl,kG.lost rfl c ((Fr.al _ _).trans n)⟩
 obtain⟨j,k,rfl⟩:=b.kids.shape;have C:=b.fr.size;rw[jP]at C;obtain⟨x,y,z,B,N,P,Q,R⟩:=m.fr b.fr oA;go_wp2;refine jU (v:=Za #[U O 18,I f,U O 0,J j e.1.length k]) (by simp[results,results215,go_sem,x,y,z,B]) rfl ?_;refine kG.fin u ((Fr.al _ _).trans b.fr) b.ld (jE _) (Nat.lt_succ_self _) ?_;exact b.kids.lies (fun D c=>⟨by have:=c.1;rw[jP]at this;exact this,c.2.1⟩) (fun d p=>by have:=b.kids.blk p;rw[jP]at this;exact this) oA
theorem zlq (a:Ld w r G ts s) (b:s.i<ts.length):dR ts s=(ts[s.i].kind==2):=by unfold dR;rw[zaz a.ok,cK b]
theorem zvl (a:¬s.i<ts.length):dR ts s=X:=by
 unfold dR here;rw[List.getElem?_eq_none oA];cases s.bad<;>rfl
def zih (ts:List Tok) (f:Nat) (s:St):Option (Tree × St) :=
 if eqS (txt ts s) ⟨#[40]⟩ then yL ts f s
 else if dR ts s then Z (number ts s)
 else if eqS (txt ts (whole ts s).2) ⟨#[40]⟩ then xI ts f (whole ts s).1 (whole ts s).2 else yE ts f (whole ts s).1 (whole ts s).2
theorem zqp (e:Ld w r G ts s) (a:ByteArray) (i:[a].all xQ=H) {b:Bool} (f:eqS (txt ts s) a=b) {M:Nat} {T:TypeId} (h:M=w.heap.size) : Calls prog 151 #[Zp (Z (A r 0 F)),J (Z (A M 0 F)) 1 1] (w.alloc (Zc #[I a] T)) fun c w'=>c=.returned (Y b)/\Ld w' r G ts s/\Fr r w w' :=
 (dX (e.alloc _) [a] M 1 oC i (Words.one w a T h)).mono fun c w' ⟨g,d⟩=>⟨by rw[g,zcj f],by rw[d];exact e.alloc _,by rw[d];exact Fr.al _ _⟩
theorem kG.hand {a:Zw} {q:Tree × St} {c d e f:Zv} {b:Zw} (l:r<w.heap.size) (h:Fr r w b) (m:w.heap.size<b.heap.size) (n:q.2.bad=X) (k:Lies (fun g=>b.heap.size<=g/\g<a.heap.size) a q.1 (Za #[c,d,e,f])) (j:Ld a r G ts q.2) (i:Fr r b a) : kG w r G ts q (.returned (Za #[c,d,e,f])) ((((a.setCell (A w.heap.size 0 F) c).setCell (A w.heap.size 1 F) d).setCell (A w.heap.size 2 F) e).setCell (A w.heap.size 3 F) f) :=
 kG.fin (t:=q.1) (s3:=q.2) l (h.trans i) j (jE _) m k
theorem ycx (aF:a<=100000) (am:kT r G ts 217 (yL ts a)) (ak:∀ {p:Nat},p<a->kT r G ts 218 (qN ts p)):kT r G ts 245 (zih ts a):=by
 intro w s q u b;have aD:=kc25;have aE:=kc110;have af:=u.lt;have ab:=Box4.new w (U O 0) (I empty) (U O 0) (J F 0 0) 25;have ac:=u.alloc (Zc #[U O 0,I empty,U O 0,J F 0 0] 25);have aG:=u.len;unfold zih at b;cases C:eqS (txt ts s) ⟨#[40]⟩
 case true =>
  rw[C,jv rfl]at b;have t:=zqp (T:=9) ac ⟨#[40]⟩ oD C (M:=w.heap.size+1) oC;go_enter func245,ntmps245;go_wp2_with (fail);refine t.mono ?_;rintro h a6 ⟨rfl,d,c⟩;have l:=c.size;rw[jP]at l;go_wp2_with (fail);refine(am d b).mono ?_;exact zop
 case false =>
  rw[C,ju oD]at b;have t:=zqp (T:=9) ac ⟨#[40]⟩ oD C (M:=w.heap.size+1) oC;cases o:dR ts s
  case true =>
   rw[o,jv rfl]at b;simp only[jh]at b;subst b
   have k:s.i<ts.length:=by
    rcases jM s.i ts.length with e | e
    ·exact e
    ·rw[zvl oA]at o;cases o
   have ai:=(zlq u k).symm.trans o;go_enter func245,ntmps245;go_wp2_with (fail);refine t.mono ?_;rintro h a6 ⟨rfl,d,c⟩;have l:=c.size;rw[jP]at l;obtain⟨a8,a9,L,aa,B⟩:=d.c0;obtain rfl:=B k;obtain⟨az,aA,aB⟩:=d.tok s.i k;have Q:0<ts.length - s.i:=oA;have aj:ts.length - s.i<=3000:=oA;generalize ts[s.i].kind=av at *;generalize ts.length - s.i=an at *;go_wp2_with (fail);refine(zhg d).mono ?_;exact zop
  case false =>
   rw[o,ju oD]at b
   obtain⟨a,rfl⟩:∃ag,a=ag+1:=by
    cases a with
    | zero=>unfold xI yE at b;simp at b
    | succ a=>exact⟨a,rfl⟩
   have ih:∀ {p:Nat},p<=a->kT r G ts 218 (qN ts p):=fun e=>ak oA
   have ah:a<=100000:=oA;by_cases k:s.i<ts.length;·have ai:=(zlq u k).symm.trans o;go_enter func245,ntmps245;go_wp2_with (fail);refine t.mono ?_;rintro h a6 ⟨rfl,d,c⟩;have l:=c.size;rw[jP]at l;obtain⟨a8,a9,L,aa,B⟩:=d.c0;obtain rfl:=B k;obtain⟨az,aA,aB⟩:=d.tok s.i k;have Q:0<ts.length - s.i:=oA;have aj:ts.length - s.i<=3000:=oA;generalize ts[s.i].kind=av at *;generalize ts.length - s.i=an at *;exact zol
   ·go_enter func245,ntmps245;go_wp2_with (fail);refine t.mono ?_;rintro h a6 ⟨rfl,d,c⟩;have l:=c.size;rw[jP]at l;obtain⟨a8,a9,L,aa,B⟩:=d.c0;have Q:ts.length - s.i=0:=oA;rw[Q]at L;exact zol
theorem zwb (a2:kT r G ts 239 (xH ts a)) (af:kT r G ts 245 (zih ts a)):kT r G ts 239 (xH ts (a+1)):=by
 intro w s q P e;have av:=kc25;have ae:=P.lt;have D:=Box4.new w (U O 0) (I empty) (U O 0) (J F 0 0) 25;have Q:=P.alloc (Zc #[U O 0,I empty,U O 0,J F 0 0] 25);unfold xH at e;cases o:eqS (txt ts s) ⟨#[45]⟩
 case true =>
  rw[o,jv rfl]at e;obtain⟨an,C,h⟩:=qP e;simp only[jh]at h;subst h;have l:=yX (T:=9) Q ⟨#[45]⟩ oD o (M:=w.heap.size+1) oC;go_enter func239,ntmps239;go_wp2_with (fail);refine l.mono ?_;rintro f z ⟨rfl,i,b⟩;have k:=b.size;rw[jP]at k;go_wp2_with (fail);refine(a2 i C).mono ?_;rintro f d (⟨g,rfl,c⟩|⟨g,ao,rfl,n,R,c⟩);·go_wp2;exact⟨rfl,kG.lost rfl g (((Fr.al _ _).trans b).trans c)⟩
  obtain⟨ag,ar,ai,_,rfl,a8,ak,aa,rfl⟩:=n.shape;have au:=c.size;have W:w.heap.size<d.heap.size:=oA;obtain⟨t,u,x,y,a3,a5,a6,a7⟩:=(D.fr b oA).fr c oA;go_wp2;refine jU (v:=Za #[U O 20,I empty,U O 0,J (Z (A d.heap.size 0 F)) 1 1]) zo2 rfl ?_;have V:=Fr.put d w.heap.size (U O 20) (I empty) (U O 0) (J (Z (A d.heap.size 0 F)) 1 1);exact zos
 case false =>
  rw[o,ju oD]at e;have l:=yO (T:=9) Q ⟨#[45]⟩ oD o (M:=w.heap.size+1) oC;cases p:eqS (txt ts s) ⟨#[33]⟩
  case true =>
   rw[p,jv rfl]at e;obtain⟨an,C,h⟩:=qP e;simp only[jh]at h;subst h;go_enter func239,ntmps239;go_wp2_with (fail);refine l.mono ?_;rintro f w0 ⟨rfl,L,E⟩;go_wp2_with (fail);refine(yX L ⟨#[33]⟩ oD p rfl).mono ?_;rintro f z ⟨rfl,i,K⟩;have b:=E.trans K;have k:=b.size;rw[jP]at k;go_wp2_with (fail);refine(a2 i C).mono ?_;rintro f d (⟨g,rfl,c⟩|⟨g,ao,rfl,n,R,c⟩);·go_wp2;exact⟨rfl,kG.lost rfl g (((Fr.al _ _).trans b).trans c)⟩
   obtain⟨ag,ar,ai,_,rfl,a8,ak,aa,rfl⟩:=n.shape;have au:=c.size;have W:w.heap.size<d.heap.size:=oA;obtain⟨t,u,x,y,a3,a5,a6,a7⟩:=(D.fr b oA).fr c oA;go_wp2;refine jU (v:=Za #[U O 21,I empty,U O 0,J (Z (A d.heap.size 0 F)) 1 1]) zo2 rfl ?_;have V:=Fr.put d w.heap.size (U O 21) (I empty) (U O 0) (J (Z (A d.heap.size 0 F)) 1 1);exact zos
  case false =>
   rw[p,ju oD]at e;go_enter func239,ntmps239;go_wp2_with (fail);refine l.mono ?_;rintro f w0 ⟨rfl,L,E⟩;go_wp2_with (fail);refine(yO L ⟨#[33]⟩ oD p rfl).mono ?_;rintro f z ⟨rfl,i,K⟩;have b:=E.trans K;have k:=b.size;rw[jP]at k;go_wp2_with (fail);refine(af i (q:=q) e).mono ?_;rintro f ax (⟨N,rfl,m⟩|⟨N,aw,rfl,S,ac,m⟩);·go_wp2;exact⟨rfl,kG.lost rfl N (((Fr.al _ _).trans b).trans m)⟩
   obtain⟨ah,ap,aj,_,rfl,a9,am,ab,rfl⟩:=S.shape;obtain⟨t,u,x,y,a3,a5,a6,a7⟩:=(D.fr b oA).fr m oA;go_wp2;exact jU (v:=Za #[U O ah,I ap,U O aj,J a9 am ab]) (by simp[results,results239,go_sem,t,u,x,y]) rfl (kG.hand ae ((Fr.al _ _).trans b) oA N S ac m)
end
end syn
namespace syn
open Go.RowKit
open lexs (Tok Fine)
section
variable {r G:Nat} {ts:List Tok}
structure GoodX (r G:Nat) (ts:List Tok) (f:Nat):Prop where
 e:kT r G ts 218 (qN ts f)
 b1:kT r G ts 227 (zK ts f 1)
 b2:kT r G ts 232 (zK ts f 2)
 b3:kT r G ts 239 (zK ts f 3)
 u:kT r G ts 239 (xH ts f)
 a:kT r G ts 217 (yL ts f)
 p:∀(x:ByteArray) {w:Zw} {s:St} {q:Tree × St},Ld w r G ts s->yE ts f x s=Z q->Calls prog 219 #[Zp (Z (A r 0 F)),I x] w (kG w r G ts q)
theorem ybh:GoodX r G ts 0 :=
 ⟨fun {w s q} _ a=>by simp[qN]at a,fun {w s q} _ a=>by simp[zK]at a,fun {w s q} _ a=>by simp[zK]at a,fun {w s q} _ a=>by simp[zK]at a,fun {w s q} _ a=>by simp[xH]at a,fun {w s q} _ a=>by simp[yL]at a,fun b {w s q} _ a=>by simp[yE]at a⟩
theorem zrm (r G:Nat) (ts:List Tok) (d:Nat) (l:d<=100000):∀ {f:Nat},f<=d->GoodX r G ts f:=by
 induction d with
 | zero =>
  intro f i;obtain rfl:f=0:=oA
  exact ybh
 | succ d ih =>
  intro f i;have c:∀ {h:Nat},h<=d->GoodX r G ts h:=ih oA;rcases jM f (d+1)with b | b
  ·exact c oA
  obtain rfl:f=d+1:=oA;refine⟨?_,yd1 fun b=>(c b).b2,zyc fun b=>(c b).b3,?_,zwb (c (jE _)).u (ycx oA (c (jE _)).a (fun b=>(c oA).e)),zv9 (c (jE _)).e,fun k {w s q} g j=>zqx (c (jE _)).e k g j⟩
  ·cases d with
   | zero =>
    intro w s q g b;unfold qN at b;rw[g.ok]at b
    simp[zK]at b
   | succ d=>exact ycz fun b=>(c oA).b1
  ·intro w s q g b;unfold zK at b;rw[jv oD]at b;exact(c (jE _)).u g b
end
end syn
namespace syn
open Go.RowKit
open lexs (Tok Fine own_shape)
section
variable {w w' w0:Zw} {r G B:Nat} {ts:List Tok} {s:St}
def zey (ts:List Tok) (f:Nat) (s:St):Option (Tree × St) :=
 (qN ts f (kE ts ⟨#[61]⟩ (name ts (label ts s).2).2)).bind fun x=>Z (.node 7 (name ts (label ts s).2).1 (label ts s).1 [x.1],x.2)
def zfg (ts:List Tok) (f:Nat) (s:St):Option (Tree × St) :=
 (yE ts f (whole ts s).1 (whole ts s).2).bind fun x=>(qN ts f (kE ts ⟨#[61]⟩ x.2)).bind fun y=>Z (.node 8 empty 0 [x.1,y.1],y.2)
theorem ybv {h:Nat} (ih:kT r G ts 218 (qN ts h)):kT r G ts 213 (zey ts h):=by
 intro w s q z t;have ar:=kc25;have aA:=z.lt;have W:=Box4.new w (U O 0) (I empty) (U O 0) (J F 0 0) 25;unfold zey at t;obtain⟨k,i,x⟩:=qP t;simp only[jh]at x;subst x;clear t
 have S:Hid ((label ts s).2.bad=H->k.2=(label ts s).2):=fun a=>by
  have L:=fJ (ts:=ts) a;rw[L,kY oD a]at i;exact(stuck ts h).e _ _ a i
 have K:Hid ((name ts (label ts s).2).2.bad=H->k.2=(name ts (label ts s).2).2):=fun a=>by
  rw[kY oD a]at i;exact(stuck ts h).e _ _ a i
 have ah:Hid ((kE ts ⟨#[61]⟩ (name ts (label ts s).2).2).bad=H->k.2=kE ts ⟨#[61]⟩ (name ts (label ts s).2).2):=fun a=>(stuck ts h).e _ _ a i
 have a7:=cM (z.alloc (Zc #[U O 0,I empty,U O 0,J F 0 0] 25));generalize label ts s=ab at *;obtain⟨ac,ao⟩:=ab;have az:=fun (w:Zw) (u:Ld w r G ts ao)=>fV u
 simp only at *;generalize name ts ao=aM at *;obtain⟨D,aN⟩:=aM;simp only at *;go_enter func213,ntmps213;go_wp2_with (fail);refine a7.mono ?_;rintro l b0 (⟨a,rfl,d⟩|⟨a,rfl,a3,d⟩);·go_wp2;exact⟨rfl,kG.lost (S.out a) a ((Fr.al _ _).trans d)⟩
 go_wp2_with (fail);refine(az _ a3).mono ?_;rintro l n (⟨p,rfl,f⟩|⟨p,rfl,a5,f⟩);·go_wp2;exact⟨rfl,kG.lost (K.out p) p (((Fr.al _ _).trans d).trans f)⟩
 go_wp2_with (fail);refine(uP (a5.alloc _) ⟨#[61]⟩ oD oC).mono ?_;rintro l o ⟨b2,⟨B,rfl,e⟩|⟨B,rfl,P,e⟩⟩;·go_wp2;exact zow
 go_wp2_with (fail);refine(ih P i).mono ?_;rintro l b (⟨a8,rfl,g⟩|⟨a8,aZ,rfl,C,a6,g⟩);·go_wp2;exact⟨rfl,kG.lost rfl a8 (((((Fr.al _ _).trans d).trans f).trans ((Fr.al _ _).trans e)).trans g)⟩
 obtain⟨aa,j,ad,_,rfl,T,ae,V,rfl⟩:=C.shape;have af:=d.size;have b7:=f.size;have ag:=e.size;have bp:=g.size;rw[jP]at af ag;obtain⟨aS,aT,m,aU,bh,bi,bj,bm⟩:=((((W.fr d oA).fr f oA).alloc _).fr e oA).fr g oA;obtain⟨aO,aP,aQ,aR,aV,aW,aX,aY⟩:=((Box4.new n (U O 7) (I D) (U O ac) (J F 0 0) 25).fr e oA).fr g oA;have aB:w.heap.size<b.heap.size:=oA;have aC:n.heap.size<b.heap.size:=oA;go_wp2;refine jU (v:=Za #[U O 7,I D,U O ac,J (Z (A b.heap.size 0 F)) 1 1]) (by simp[results,results213,go_sem,aS,aT,m,aU,aB,aC]) rfl ?_;have M:Fr r w b:=((((Fr.al _ _).trans d).trans f).trans ((Fr.al _ _).trans e)).trans g;have aF:=C.frP (x:=n.heap.size) ((Fr.refl n.heap.size b).set 3 (J (Z (A b.heap.size 0 F)) 1 1)) (fun c a=>⟨a.2,oA⟩) (fun c a=>(⟨a.1,by rw[jR];exact a.2⟩:o.heap.size<=c/\c<(b.setCell (A n.heap.size 3 F) (J (Z (A b.heap.size 0 F)) 1 1)).heap.size));have Q:=Fr.put (b.setCell (A n.heap.size 3 F) (J (Z (A b.heap.size 0 F)) 1 1)) w.heap.size (U O 7) (I D) (U O ac) (J (Z (A b.heap.size 0 F)) 1 1);exact .inr ⟨a8,_,rfl,((aF.fr (show w.heap.size<o.heap.size by omega) Q).low (show w.heap.size<=o.heap.size by omega)).rowed oE oC,((a6.set oA 3 _).put4 oA _ _ _ _).alloc _,((M.setNew oA _).put4 (jE _) _ _ _ _).alloc _⟩
theorem yd0 {h:Nat} (aD:∀(j:ByteArray) {w:Zw} {s:St} {q:Tree × St},Ld w r G ts s->yE ts h j s=Z q->Calls prog 219 #[Zp (Z (A r 0 F)),I j] w (kG w r G ts q)) (ih:kT r G ts 218 (qN ts h)):kT r G ts 220 (zfg ts h):=by
 intro w s q z t;have ar:=kc25;have aA:=z.lt;have W:=Box4.new w (U O 0) (I empty) (U O 0) (J F 0 0) 25;unfold zfg at t;obtain⟨k,i,x⟩:=qP t;obtain⟨m,y,ai⟩:=qP x;simp only[jh]at ai;subst ai;clear t x
 have K:Hid (k.2.bad=H->m.2=k.2):=fun a=>by
  rw[kY oD a]at y;exact(stuck ts h).e _ _ a y
 have S:Hid ((whole ts s).2.bad=H->m.2=(whole ts s).2):=fun a=>by
  have L:=(stuck ts h).p _ _ _ a i;rw[K.out (by rw[L];exact a),L]
 have ah:Hid ((kE ts ⟨#[61]⟩ k.2).bad=H->m.2=kE ts ⟨#[61]⟩ k.2):=fun a=>(stuck ts h).e _ _ a y
 have a7:=zdf (z.alloc (Zc #[U O 0,I empty,U O 0,J F 0 0] 25));generalize whole ts s=ab at *;obtain⟨D,aN⟩:=ab;simp only at *;go_enter func220,ntmps220;go_wp2_with (fail);refine a7.mono ?_;rintro l b0 (⟨a,rfl,d⟩|⟨a,rfl,a3,d⟩);·go_wp2;exact⟨rfl,kG.lost (S.out a) a ((Fr.al _ _).trans d)⟩
 go_wp2_with (fail);refine(aD D a3 i).mono ?_;rintro l n (⟨p,rfl,f⟩|⟨p,bn,rfl,an,a5,f⟩);·go_wp2;exact⟨rfl,kG.lost (K.out p) p (((Fr.al _ _).trans d).trans f)⟩
 obtain⟨aa,j,ad,_,rfl,T,ae,V,rfl⟩:=an.shape;go_wp2_with (fail);refine(uP (a5.alloc _) ⟨#[61]⟩ oD oC).mono ?_;rintro l o ⟨b2,⟨B,rfl,e⟩|⟨B,rfl,P,e⟩⟩;·go_wp2;exact zow
 have af:=d.size;have b7:=f.size;have ag:=e.size;rw[jP]at af ag;have aj:=(Box4.new n (U O aa) (I j) (U O ad) (J T ae V) 25).fr e oA;have ak:=(((W.fr d oA).fr f oA).alloc _).fr e oA;obtain⟨aO,aP,aQ,aR,aV,aW,aX,aY⟩:=id aj;have M:Fr r w o:=(((Fr.al _ _).trans d).trans f).trans ((Fr.al _ _).trans e);by_cases a9:m.2.bad=H
 ·go_wp2;refine wp_region_any oB ?_;change wpAny _ _ _ _ _ _ _ (World.drew _);refine tkQ 1 (Zp (Z (A r 0 F))) ?_;refine wpAny_ready (rs:=[0,2]) oB oC ?_;refine AllReady.cons rfl (fun R N=>?_) ?_
  ·go_simp;refine N _ _ ?_;clear N R;refine one0 2 fun R N=>?_
   exact zot
  refine AllReady.cons rfl (fun R N=>?_) AllReady.nil;exact zot
 ·have am:m.2.bad=X:=by simpa using a9
  go_wp2
  go_region_with (go_at_call 218;refine(ih.fine (P.drewN 1) y am).mono ?_;rintro l b ⟨aZ,rfl,C,a6,g⟩;obtain⟨aE,b1,aH,_,rfl,ap,aK,au,rfl⟩:=C.shape;obtain⟨b8,b9,ba,bb,_,_,_,_⟩:=(aj.drewN 1).fr g oA;obtain⟨av,aw,ax,ay,bc,be,bf,bg⟩:=(ak.drewN 1).fr g oA;have b6:w.heap.size<b.heap.size:=((ak.drewN 1).fr g oA).lt)
  all_goals
   go_wp2;refine jU (v:=Za #[U O 8,I empty,U O 0,J (Z (A b.heap.size 0 F)) 2 2]) (by simp[results,results220,go_sem,av,aw,ax,ay,b6,empty]) rfl ?_;have a2:Fr r o b:=((Fr.refl r o).drewN 1).trans g;have bo:=a2.size
   have aG:Lies (fun c=>w.heap.size<c/\c<b.heap.size) b m.1 (Za #[U O aE,I b1,U O aH,J ap aK au]):=C.to (fun c a=>by
    have i:o.heap.size<=c:=a.1
    exact⟨oA,a.2⟩) (fun _ _ _=>rfl)
   have aJ:Lies (fun c=>w.heap.size<c/\c<b.heap.size) b k.1 (Za #[U O aa,I j,U O ad,J T ae V]):=an.frP (x:=r) (((Fr.al _ _).trans e).trans a2) (fun c a=>⟨a.2,oA⟩) (fun c a=>⟨oA,oA⟩);have Q:=Fr.put b w.heap.size (U O 8) (I empty) (U O 0) (J (Z (A b.heap.size 0 F)) 2 2);have aL:=aJ.frP (x:=w.heap.size) Q (fun c a=>⟨a.2,oA⟩) (fun c a=>a);have aI:=aG.frP (x:=w.heap.size) Q (fun c a=>⟨a.2,oA⟩) (fun c a=>a);exact .inr ⟨am,_,rfl,aL.rowed2P aI (fun c a=>by simpa using a.2) (fun c a=>⟨oA,oE⟩) oC ⟨oA,oC⟩,(a6.put4 oA _ _ _ _).alloc _,((M.trans a2).put4 (jE _) _ _ _ _).alloc _⟩
end
section
variable {w w' w0:Zw} {r G B:Nat} {ts:List Tok} {s:St}
theorem kG.kids {h:Zw} {g:St} {kv:Zv} {ks:List Tree} {c d:Int} {e:ByteArray} {a B:Nat} (m:r<w.heap.size) (b:KO w B r G ts h g kv ks) (j:w.heap.size<=a) (i:a<B) (l:ks.length<=4611686018427387904) : kG w r G ts (.node c e d ks,g) (.returned (Za #[U O c,I e,U O d,kv])) ((((h.setCell (A a 0 F) (U O c)).setCell (A a 1 F) (I e)).setCell (A a 2 F) (U O d)).setCell (A a 3 F) kv) :=
 kG.fin m b.fr b.ld j i (b.kids.lies (fun n f=>⟨f.1,f.2.1⟩) (fun o k=>b.kids.blk k) l)
theorem ybs {k:Nat} (ba:k<=100000) (aJ:∀ {g:Nat},g<=k->kT r G ts 197 (vU ts g)):kT r G ts 180 (zS ts (k+1)):=by
 intro w s q a9 a6;have aT:=kc25;have aj:=a9.lt;obtain⟨aI,hi,aF,aG,aH⟩:=info_parts zb9;have an:=(Box4.new w (U O 0) (I empty) (U O 0) (J F 0 0) 25).alloc (Zc #[U O 6,I empty,U O 0,J F 0 0] 25);have a7:=Box4.new (w.alloc (Zc #[U O 0,I empty,U O 0,J F 0 0] 25)) (U O 6) (I empty) (U O 0) (J F 0 0) 25;rw[jP]at a7;have ap:=(a9.alloc (Zc #[U O 0,I empty,U O 0,J F 0 0] 25)).alloc (Zc #[U O 6,I empty,U O 0,J F 0 0] 25);unfold zS at a6;have av:=uP (T:=9) ap ⟨#[123]⟩ oD (M:=w.heap.size+2) oC;have n:Hid (xE ts k [] (kE ts ⟨#[123]⟩ s)=Z q):=a6;clear a6;generalize kE ts ⟨#[123]⟩ s=aO at *;go_enter func180,ntmps180;go_wp2_with (fail);refine av.mono ?_;rintro c bm ⟨bo,⟨o,rfl,x⟩|⟨o,rfl,ar,x⟩⟩;·go_wp2;exact⟨rfl,kG.lost ((dL ts k).bl _ _ _ o n.out) o (((Fr.al _ _).trans (Fr.al _ _)).trans x)⟩
 go_wp2
 go_loopg [] k (fun m wr=>∃(ks:List Tree) (Q:St) (kv:Zv),Hid (xE ts m ks Q=Z q)/\ks.length+m<=k/\KO w (w.heap.size+2) r G ts wr Q kv ks/\Box4 wr (w.heap.size+1) (U O 6) (I empty) (U O 0) kv/\Box4 wr w.heap.size (U O 0) (I empty) (U O 0) (J F 0 0))
 case atStart =>
  exact⟨[],aO,J F 0 0,n.out,oC,⟨ar,aj,oA,((Fr.al _ _).trans (Fr.al _ _)).trans x,Kids.nil _ _ _⟩,a7.fr x oA,an.fr x oA⟩
 case round =>
  obtain⟨ks,Q,kv,R,bb,a,ae,ac⟩:=hrel;clear n;obtain⟨i,j,rfl⟩:=a.kids.shape
  cases gk with
  | zero=>have:=R.out;unfold xE at this;simp at this
  | succ m =>
   have h:=R.out;clear R;unfold xE at h;rw[a.ld.ok,ju oD]at h;cases P:eqS (txt ts Q) ⟨#[125]⟩
   case true =>
    rw[P,jv rfl]at h;simp only[jh]at h;subst h;go_wp2_with (fail);refine(yX a.ld ⟨#[125]⟩ oD P rfl).mono ?_;rintro c E ⟨rfl,z,l⟩;have y:=a.step z l;obtain⟨aK,aL,aM,aN,_,_,_,_⟩:=ae.fr l oA;obtain⟨aP,aQ,aR,aS,bf,bg,bh,bi⟩:=ac.fr l oA;go_wp2;exact jU (v:=Za #[U O 6,I empty,U O 0,J i ks.length j]) (by simp[results,results180,go_sem,aP,aQ,aR,aS]) rfl (kG.kids aj y (jE _) oA oA)
   case false =>
    rw[P,ju oD]at h;obtain⟨f,S,ai⟩:=qP h;have n:Hid (xE ts m (ks++[f.1]) f.2=Z q):=ai;clear h ai;go_wp2_with (fail);refine(yO a.ld ⟨#[125]⟩ oD P rfl).mono ?_;rintro c E ⟨rfl,z,l⟩;have y:=a.step z l;have W:=ae.fr l oA;have ax:=ac.fr l oA;obtain⟨aK,aL,aM,aN,_,_,_,_⟩:=id W;have aa:kT r G ts 197 (vU ts m):=aJ oA;by_cases N:f.2.bad=H
    ·have HS:Hid (q.2=f.2):=(dL ts m).bl _ _ _ N n.out;go_wp2;refine wp_region_any oB ?_;change wpAny _ _ _ _ _ _ _ (World.drew _);refine tkQ 0 (Zp (Z (A (w.heap.size+1) 3 F))) ?_;refine tkQ 2 (Zp (Z (A r 0 F))) ?_;refine wpAny_ready (rs:=[1,3]) oB oC ?_;refine AllReady.cons rfl (fun b a=>?_) (AllReady.cons rfl (fun b a=>?_) AllReady.nil)
     focus
      go_simp;refine a _ _ ?_;clear a b;refine one0 3 fun b a=>?_
     all_goals
      go_simp;go_at_call 197;refine(aa.lost (z.drewN 1) S N).mono ?_;rintro c e ⟨rfl,V⟩;go_wp2;exact⟨rfl,kG.lost HS.out N ((y.fr.drewN 1).trans V)⟩
    ·have az:f.2.bad=X:=by simpa using N
     go_wp2;refine wp_region_any oB ?_;change wpAny _ _ _ _ _ _ _ (World.drew _);refine tkQ 0 (Zp (Z (A (w.heap.size+1) 3 F))) ?_;refine tkQ 2 (Zp (Z (A r 0 F))) ?_;refine wpAny_ready (rs:=[1,3]) oB oC ?_;refine AllReady.cons rfl (fun b a=>?_) (AllReady.cons rfl (fun b a=>?_) AllReady.nil)
     focus
      go_simp;refine a _ _ ?_;clear a b;refine one0 3 fun b a=>?_
     all_goals
      go_simp;go_at_call 197;refine(aa.fine (z.drewN 1) S az).mono ?_;rintro c e ⟨bj,rfl,ag,au,V⟩;obtain⟨B,K,C,_,rfl,p,D,u,rfl⟩:=ag.shape;have L:Fr r E e:=((Fr.refl r E).drewN 1).trans V;have a5:∀g,(Value.slice i ks.length j).ownBlock=Z g->w.heap.size+2<=g/\g<E.heap.size:=fun g aA=>y.kids.blk aA
      have a8:=y.step au L;have bs:=L.size;have bp:=W.lt
      have aB:Lies (fun d=>w.heap.size+2<=d/\d<e.heap.size/\Z d≠(Value.slice i ks.length j).ownBlock) e f.1 (Za #[U O B,I K,U O C,J p D u]) :=
       ag.to (fun d o=>by
        have S:E.heap.size<=d:=o.1
        exact⟨oA,o.2,fun c=>by have:=(a5 d c.symm).2;omega⟩) (fun _ _ _=>rfl)
      obtain⟨ak,ah,ab⟩:=a8.kids;have am:Hid (zG (fun d=>w.heap.size+2<=d/\d<e.heap.size/\Z d≠(Value.slice i ks.length j).ownBlock) e ks ak):=ab;have bc:ks.length<=100001:=oA;have a2:=W.fr L oA;have ad:=ax.fr L oA;obtain⟨b6,b7,b8,b9,_,_,_,_⟩:=id a2;have bq:w.heap.size+1<e.heap.size:=a2.lt;have br:w.heap.size<e.heap.size:=ad.lt;clear ab;go_wp2
     focus
      refine one0 4 fun b a=>?_
      go_simp;refine a _ _ ?_;clear a b
     rotate_left
     focus
      refine wpAny_ready (rs:=[1,4]) oB oC ?_;refine AllReady.cons rfl (fun b a=>?_) (AllReady.cons rfl (fun b a=>?_) AllReady.nil)
      all_goals
       go_simp;refine a _ _ ?_;clear a b
      focus
       refine one0 4 fun b a=>?_
       go_simp;refine a _ _ ?_;clear a b
      rotate_left
      focus
       refine one0 1 fun b a=>?_
       go_simp;refine a _ _ ?_;clear a b
     all_goals
      refine one0 5 fun b a=>?_
      refine step_append_lies _ oG (.tmp 13) (.tmp 16) 23 oG (w.heap.size+2) 25 aI (Za #[U O 0,I ⟨#[]⟩,U O 0,J F 0 0]) 4 56 underlying23 hi aF aG aH rfl oD (J i ks.length j) ks.length (uX ak) rfl (ah.alloc _) (A e.heap.size 0 F) 1 1 [U O B,I K,U O C,J p D u] rfl rfl (zah _ _ _ _ _ _ _ rfl) oI oA (by unfold maxLen;omega) oA oE (e.heap.size+1) oC ?_;intro g aU bn aE a3 aw be;refine a _ _ ?_;clear a b;have ao:=KO.pushed (q:=(U O B,I K,U O C,J p D u)) (t:=f.1) a8 ah am.out aB aE a3 (by rcases aw with c | c;exact .inl c.symm;exact .inr (by rw[c];rfl));have aC:(Value.slice i ks.length j).ownBlock≠Z (w.heap.size+1):=fun c=>by have:=(a5 _ c).1;omega
      have aD:(Value.slice i ks.length j).ownBlock≠Z w.heap.size:=fun c=>by have:=(a5 _ c).1;omega
      have af:=(a2.alloc (Zc #[U O B,I K,U O C,J p D u] 25)).grown a3 aC;have ay:=(ad.alloc (Zc #[U O B,I K,U O C,J p D u] 25)).grown a3 aD;obtain⟨aZ,b0,b1,b2,aV,aW,aX,aY⟩:=id af;refine one0 6 fun b a=>?_
      go_simp;refine a _ _ ?_;clear a b;refine one0 7 fun b a=>?_
      go_simp;refine a _ _ ?_;clear a b;refine wpAny_done oB ?_ _;go_wp2
      go_roundg m
      case rel=>exact⟨ks++[f.1],f.2,_,n.out,oQ,ao.set oA oA 3 _,af.set3 _,ay.other oA _⟩
      case measure=>omega
end
section
variable {w w' w0:Zw} {r G B:Nat} {ts:List Tok} {s:St}
def zeb (ts:List Tok) (f:Nat) (s:St):Option (Tree × St) :=
 (yL ts f s).bind fun x=>(zS ts f x.2).bind fun b =>
  if eqS (txt ts b.2) ⟨#[101,108,115,101]⟩ then(zS ts f b.2.next).bind fun c=>Z (.node 10 empty 0 [x.1,b.1,c.1],c.2)else Z (.node 10 empty 0 [x.1,b.1],b.2)
theorem zdk {a b:ByteArray} (d:eqS (txt ts s) a=H) (e:(a.data.toList==b.data.toList)=X):eqS (txt ts s) b=X:=by
 have c:=zeu d;rw[<- c,zlk];exact e
theorem zzh (f:Ld w r G ts s) (a b:ByteArray) (j:[a,b].all xQ=H) {c:Bool} (g:(eqS (txt ts s) a||eqS (txt ts s) b)=c) {M:Nat} {T:TypeId} (i:M=w.heap.size) : Calls prog 151 #[Zp (Z (A r 0 F)),J (Z (A M 0 F)) 2 2] (w.alloc (Zc #[I a,I b] T)) fun d w'=>d=.returned (Y c)/\Ld w' r G ts s/\Fr r w w' :=
 (dX (f.alloc _) [a,b] M 2 oC j (Words.two w a b T i)).mono fun d w' ⟨h,e⟩=>⟨by rw[h,<- g];unfold zQ;simp,by rw[e];exact f.alloc _,by rw[e];exact Fr.al _ _⟩
structure StatHyps (r G:Nat) (ts:List Tok) (f:Nat):Prop where
 x:∀ {g:Nat},g<=f->GoodX r G ts g
 b:kT r G ts 180 (zS ts f)
 c:kT r G ts 216 (zeb ts f)
 hf:f<=100000
theorem yc6 {u:Nat} (E:StatHyps r G ts u):kT r G ts 197 (vU ts (u+1)):=by
 intro w s q aE t;have be:=kc25;have ae:=aE.lt;unfold vU at t;have a7:=Box4.new w (U O 0) (I empty) (U O 0) (J F 0 0) 25;go_enter func197,ntmps197;go_wp2_with (fail);refine(zzh (T:=9) (aE.alloc (Zc #[U O 0,I empty,U O 0,J F 0 0] 25)) ⟨#[108,111,119]⟩ ⟨#[104,105,103,104]⟩ oD rfl (M:=w.heap.size+1) oC).mono ?_;rintro f z ⟨rfl,e,a⟩;cases aa:(eqS (txt ts s) ⟨#[108,111,119]⟩||eqS (txt ts s) ⟨#[104,105,103,104]⟩)
 case true =>
  have x:=a.size;rw[jP]at x
  have aH:∀af,((⟨#[108,111,119]⟩:ByteArray).data.toList==af.data.toList)=X->((⟨#[104,105,103,104]⟩:ByteArray).data.toList==af.data.toList)=X->eqS (txt ts s) af=X:=fun af h l=>by
   rcases Bool.or_eq_true_iff.1 aa with n | n
   ·exact zdk n h
   ·exact zdk n l
  rw[aH ⟨#[105,102]⟩ rfl rfl,ju oD,aH ⟨#[119,104,105,108,101]⟩ rfl rfl,ju oD,aa,jv rfl]at t
  obtain⟨j,h,rfl⟩:∃j,zey ts u s=Z j/\q=(j.1,kE ts ⟨#[59]⟩ j.2):=by
   obtain⟨af,h,l⟩:=qP t;simp only[jh]at l;exact⟨_,by unfold zey;rw[h];rfl,l.symm⟩
  go_wp2_with (fail);refine(ybv (E.x (jE _)).e e h).mono ?_;exact zon
 cases S:eqS (txt ts s) ⟨#[100,111]⟩
 case true =>
  go_wp2_with (fail);refine(yX e ⟨#[100,111]⟩ oD S rfl).mono ?_;rintro f z ⟨rfl,e,c⟩;replace a:=a.trans c;clear c;have x:=a.size;rw[jP]at x;rw[show eqS (txt ts s) ⟨#[105,102]⟩=X from zdk S rfl,ju oD,show eqS (txt ts s) ⟨#[119,104,105,108,101]⟩=X from zdk S rfl,ju oD,aa,ju oD,S,jv rfl]at t;obtain⟨j,h,l⟩:=qP t;simp only[jh]at l;subst l
  have ap:Hid ((whole ts s.next).2.bad=H->kE ts ⟨#[59]⟩ j.2=(whole ts s.next).2):=fun d=>by
   rw[(stuck ts u).c _ _ _ d h];exact kY oD d
  obtain⟨u,rfl⟩:∃aO,u=aO+1:=by
   cases u with
   | zero=>unfold xI at h;simp at h
   | succ u=>exact⟨u,rfl⟩
  have az:Hid ((kE ts ⟨#[40]⟩ (whole ts s.next).2).bad=H->kE ts ⟨#[59]⟩ j.2=kE ts ⟨#[40]⟩ (whole ts s.next).2):=fun d=>by
   have ar:j.2=kE ts ⟨#[40]⟩ (whole ts s.next).2:=by
    unfold xI at h;rw[zJ oD d,ju oD]at h;exact(stuck ts u).cl _ _ _ _ _ d h
   rw[ar];exact kY oD d
  go_wp2_with (fail);refine(zdf e).mono ?_;rintro f ax (⟨V,rfl,i⟩|⟨V,rfl,a8,i⟩);·go_wp2;exact zef
  go_wp2_with (fail);refine(uP a8 ⟨#[40]⟩ oD rfl).mono ?_;rintro f aC ⟨aJ,⟨ad,rfl,D⟩|⟨ad,rfl,aA,D⟩⟩;·go_wp2;exact zoy
  obtain⟨k,aV,rfl⟩:=zjk ad h;go_wp2_with (fail);refine(zrt (fun n=>(E.x oA).e) (by have:=E.hf;omega) _ aA aV).mono ?_;rintro f o (⟨m,rfl,b⟩|⟨m,an,rfl,p,L,b⟩);·go_wp2;exact zov
  obtain⟨N,B,P,_,rfl,a6,ab,K,rfl⟩:=p.shape;have aD:=i.size;have ao:=b.size;have bc:=D.size;go_wp2_with (fail);refine(gS (L.alloc _) _ _ _ _ _ _).mono ?_;rintro f ay (⟨C,rfl,g⟩|⟨C,rfl,R,g⟩);·go_wp2;exact zou
  obtain⟨a2,a3,Q,a5,ai,aj,ak,am⟩:=((((((a7.fr a oA).fr i oA).fr D oA).fr b oA).alloc _)).fr g oA;go_wp2;exact jU (v:=Za #[U O 9,I empty,U O 0,J (Z (A o.heap.size 0 F)) 1 1]) zeg rfl (kG.fin ae ((((((Fr.al _ _).trans a).trans i).trans D).trans (b.trans (Fr.al _ _))).trans g) R (jE _) (show w.heap.size<aC.heap.size by omega) (((p.rowed (k:=9) (x:=empty) (m:=0) (c:=1) b.size rfl)).fr oA g))
 go_wp2_with (fail);refine(yO e ⟨#[100,111]⟩ oD S rfl).mono ?_;rintro f z ⟨rfl,e,c⟩;replace a:=a.trans c;clear c;cases W:eqS (txt ts s) ⟨#[105,102]⟩
 case true =>
  go_wp2_with (fail);refine(yX e ⟨#[105,102]⟩ oD W rfl).mono ?_;rintro f z ⟨rfl,e,c⟩;replace a:=a.trans c;clear c;have x:=a.size;rw[jP]at x;rw[W,jv rfl]at t;have aW:zeb ts u s.next=Z q:=t;go_wp2_with (fail);refine(E.c e aW).mono ?_;rintro f bn (⟨aB,rfl,av⟩|⟨aB,bm,rfl,aG,aU,av⟩);·go_wp2;exact⟨rfl,kG.lost rfl aB (((Fr.al _ _).trans a).trans av)⟩
  obtain⟨aY,bb,b2,_,rfl,aL,b9,aN,rfl⟩:=aG.shape;obtain⟨a2,a3,Q,a5,ai,aj,ak,am⟩:=(a7.fr a oA).fr av oA;go_wp2;exact jU (v:=Za #[U O aY,I bb,U O b2,J aL b9 aN]) (by simp[results,results197,go_sem,a2,a3,Q,a5]) rfl (kG.hand ae ((Fr.al _ _).trans a) oA aB aG aU av)
 go_wp2_with (fail);refine(yO e ⟨#[105,102]⟩ oD W rfl).mono ?_;rintro f z ⟨rfl,e,c⟩;replace a:=a.trans c;clear c;cases a9:eqS (txt ts s) ⟨#[119,104,105,108,101]⟩
 case true =>
  go_wp2_with (fail);refine(yX e ⟨#[119,104,105,108,101]⟩ oD a9 rfl).mono ?_;rintro f z ⟨rfl,e,c⟩;replace a:=a.trans c;clear c;have x:=a.size;rw[jP]at x;rw[W,ju oD,a9,jv rfl]at t;obtain⟨j,h,l⟩:=qP t;obtain⟨Q,au,ag⟩:=qP l;simp only[jh]at ag;subst ag;have ap:Hid (j.2.bad=H->Q.2=j.2):=fun d=>(dL ts u).bk _ _ d au
  go_wp2_with (fail);refine((E.x (jE _)).a e h).mono ?_;rintro f ax (⟨V,rfl,i⟩|⟨V,bj,rfl,aF,a8,i⟩);·go_wp2;exact zef
  obtain⟨N,B,P,_,rfl,a6,ab,K,rfl⟩:=aF.shape;go_wp2_with (fail);refine(E.b a8 au).mono ?_;rintro f o (⟨m,rfl,b⟩|⟨m,an,rfl,p,L,b⟩);·go_wp2;exact⟨rfl,kG.lost rfl m ((((Fr.al _ _).trans a).trans i).trans b)⟩
  obtain⟨aX,ba,aZ,_,rfl,aK,b6,aM,rfl⟩:=p.shape;have aD:=i.size;have ao:=b.size;have aJ:w.heap.size<o.heap.size:=oA;have aT:Fr r w o:=(((Fr.al _ _).trans a).trans i).trans b;obtain⟨aP,aQ,aR,aS,bf,bg,bh,bi⟩:=((a7.fr a oA).fr i oA).fr b oA;go_wp2;refine jU (v:=Za #[U O 11,I empty,U O 0,J (Z (A o.heap.size 0 F)) 2 2]) (by simp[results,results197,go_sem,aP,aQ,aR,aS,aJ,empty]) rfl ?_;have b0:Lies (fun y=>w.heap.size<y/\y<o.heap.size) o Q.1 (Za #[U O aX,I ba,U O aZ,J aK b6 aM]):=p.to (fun y d=>⟨oA,d.2⟩) (fun _ _ _=>rfl);have b7:Lies (fun y=>w.heap.size<y/\y<o.heap.size) o j.1 (Za #[U O N,I B,U O P,J a6 ab K]):=aF.frP (x:=r) b (fun y d=>⟨d.2,oA⟩) (fun y d=>⟨oA,oA⟩);have aI:=Fr.put o w.heap.size (U O 11) (I empty) (U O 0) (J (Z (A o.heap.size 0 F)) 2 2);have b8:=b7.frP (x:=w.heap.size) aI (fun y d=>⟨d.2,oA⟩) (fun y d=>d);have b1:=b0.frP (x:=w.heap.size) aI (fun y d=>⟨d.2,oA⟩) (fun y d=>d);exact .inr ⟨m,_,rfl,b8.rowed2P b1 (fun y d=>by simpa using d.2) (fun y d=>⟨oA,oE⟩) oC ⟨oA,oC⟩,(L.put4 oA _ _ _ _).alloc _,(aT.put4 (jE _) _ _ _ _).alloc _⟩
 go_wp2_with (fail);refine(yO e ⟨#[119,104,105,108,101]⟩ oD a9 rfl).mono ?_;rintro f z ⟨rfl,e,c⟩;replace a:=a.trans c;clear c;cases ac:eqS (txt ts s) ⟨#[111,117,116]⟩
 case true =>
  go_wp2_with (fail);refine(yX e ⟨#[111,117,116]⟩ oD ac rfl).mono ?_;rintro f z ⟨rfl,e,c⟩;replace a:=a.trans c;clear c;have x:=a.size;rw[jP]at x;rw[W,ju oD,a9,ju oD,aa,ju oD,S,ju oD,ac,jv rfl]at t;obtain⟨j,h,l⟩:=qP t;simp only[jh]at l;subst l
  have ap:Hid ((label ts s.next).2.bad=H->kE ts ⟨#[59]⟩ j.2=(label ts s.next).2):=fun d=>by
   rw[(stuck ts u).e _ _ d h];exact kY oD d
  go_wp2_with (fail);refine(cM e).mono ?_;rintro f ax (⟨V,rfl,i⟩|⟨V,rfl,a8,i⟩);·go_wp2;exact zef
  go_wp2_with (fail);refine((E.x (jE _)).e a8 h).mono ?_;rintro f o (⟨m,rfl,b⟩|⟨m,an,rfl,p,L,b⟩);·go_wp2;exact⟨rfl,kG.lost (kY oD m) m ((((Fr.al _ _).trans a).trans i).trans b)⟩
  obtain⟨N,B,P,_,rfl,a6,ab,K,rfl⟩:=p.shape;have aD:=i.size;have ao:=b.size;go_wp2_with (fail);refine(gS (L.alloc _) _ _ _ _ _ _).mono ?_;rintro f ay (⟨C,rfl,g⟩|⟨C,rfl,R,g⟩);·go_wp2;exact⟨rfl,kG.lost rfl C (((((Fr.al _ _).trans a).trans i).trans (b.trans (Fr.al _ _))).trans g)⟩
  obtain⟨a2,a3,Q,a5,ai,aj,ak,am⟩:=(((((a7.fr a oA).fr i oA).fr b oA).alloc _)).fr g oA;go_wp2;exact jU (v:=Za #[U O 12,I empty,U O (label ts s.next).1,J (Z (A o.heap.size 0 F)) 1 1]) zeg rfl (kG.fin ae (((((Fr.al _ _).trans a).trans i).trans (b.trans (Fr.al _ _))).trans g) R (jE _) (show w.heap.size<ax.heap.size by omega) (((p.rowed (k:=12) (x:=empty) (m:=(label ts s.next).1) (c:=1) b.size rfl)).fr oA g))
 go_wp2_with (fail);refine(yO e ⟨#[111,117,116]⟩ oD ac rfl).mono ?_;rintro f z ⟨rfl,e,c⟩;replace a:=a.trans c;clear c;cases ah:eqS (txt ts s) ⟨#[105,110]⟩
 case true =>
  go_wp2_with (fail);refine(yX e ⟨#[105,110]⟩ oD ah rfl).mono ?_;rintro f z ⟨rfl,e,c⟩;replace a:=a.trans c;clear c;have x:=a.size;rw[jP]at x;rw[W,ju oD,a9,ju oD,aa,ju oD,S,ju oD,ac,ju oD,ah,jv rfl]at t;obtain⟨j,h,l⟩:=qP t;simp only[jh]at l;subst l
  have az:Hid ((whole ts (label ts s.next).2).2.bad=H->kE ts ⟨#[59]⟩ j.2=(whole ts (label ts s.next).2).2):=fun d=>by
   rw[(stuck ts u).p _ _ _ d h];exact kY oD d
  have ap:Hid ((label ts s.next).2.bad=H->kE ts ⟨#[59]⟩ j.2=(label ts s.next).2):=fun d=>by
   have ar:=zg1 (ts:=ts) d;rw[az.out (by rw[ar];exact d),ar]
  go_wp2_with (fail);refine(cM e).mono ?_;rintro f ax (⟨V,rfl,i⟩|⟨V,rfl,a8,i⟩);·go_wp2;exact zef
  go_wp2_with (fail);refine(zdf a8).mono ?_;rintro f aC (⟨ad,rfl,D⟩|⟨ad,rfl,aA,D⟩);·go_wp2;exact zoy
  go_wp2_with (fail);refine((E.x (jE _)).p _ aA h).mono ?_;rintro f o (⟨m,rfl,b⟩|⟨m,an,rfl,p,L,b⟩);·go_wp2;exact zov
  obtain⟨N,B,P,_,rfl,a6,ab,K,rfl⟩:=p.shape;have aD:=i.size;have ao:=b.size;have bc:=D.size;go_wp2_with (fail);refine(gS (L.alloc _) _ _ _ _ _ _).mono ?_;rintro f ay (⟨C,rfl,g⟩|⟨C,rfl,R,g⟩);·go_wp2;exact zou
  obtain⟨a2,a3,Q,a5,ai,aj,ak,am⟩:=((((((a7.fr a oA).fr i oA).fr D oA).fr b oA).alloc _)).fr g oA;go_wp2;exact jU (v:=Za #[U O 13,I empty,U O (label ts s.next).1,J (Z (A o.heap.size 0 F)) 1 1]) zeg rfl (kG.fin ae ((((((Fr.al _ _).trans a).trans i).trans D).trans (b.trans (Fr.al _ _))).trans g) R (jE _) (show w.heap.size<aC.heap.size by omega) (((p.rowed (k:=13) (x:=empty) (m:=(label ts s.next).1) (c:=1) b.size rfl)).fr oA g))
 go_wp2_with (fail);refine(yO e ⟨#[105,110]⟩ oD ah rfl).mono ?_;rintro f z ⟨rfl,e,c⟩;replace a:=a.trans c;clear c;cases aw:eqS (txt ts s) ⟨#[114,101,116,117,114,110]⟩
 case true =>
  go_wp2_with (fail);refine(yX e ⟨#[114,101,116,117,114,110]⟩ oD aw rfl).mono ?_;rintro f z ⟨rfl,e,c⟩;replace a:=a.trans c;clear c;have x:=a.size;rw[jP]at x;rw[W,ju oD,a9,ju oD,aa,ju oD,S,ju oD,ac,ju oD,ah,ju oD,aw,jv rfl]at t;obtain⟨j,h,l⟩:=qP t;simp only[jh]at l;subst l;go_wp2_with (fail);refine((E.x (jE _)).e e h).mono ?_;rintro f o (⟨m,rfl,b⟩|⟨m,an,rfl,p,L,b⟩);·go_wp2;exact zox
  obtain⟨N,B,P,_,rfl,a6,ab,K,rfl⟩:=p.shape;have ao:=b.size;go_wp2_with (fail);refine(gS (L.alloc _) _ _ _ _ _ _).mono ?_;rintro f ay (⟨C,rfl,g⟩|⟨C,rfl,R,g⟩);·go_wp2;exact⟨rfl,kG.lost rfl C ((((Fr.al _ _).trans a).trans (b.trans (Fr.al _ _))).trans g)⟩
  obtain⟨a2,a3,Q,a5,ai,aj,ak,am⟩:=((((a7.fr a oA).fr b oA).alloc _)).fr g oA;go_wp2;exact jU (v:=Za #[U O 14,I empty,U O 0,J (Z (A o.heap.size 0 F)) 1 1]) zeg rfl (kG.fin ae ((((Fr.al _ _).trans a).trans (b.trans (Fr.al _ _))).trans g) R (jE _) (show w.heap.size<z.heap.size by omega) (((p.rowed (k:=14) (x:=empty) (m:=0) (c:=1) b.size rfl)).fr oA g))
 go_wp2_with (fail);refine(yO e ⟨#[114,101,116,117,114,110]⟩ oD aw rfl).mono ?_;rintro f z ⟨rfl,e,c⟩;replace a:=a.trans c;clear c;have x:=a.size;rw[jP]at x;rw[W,ju oD,a9,ju oD,aa,ju oD,S,ju oD,ac,ju oD,ah,ju oD,aw,ju oD]at t
 obtain⟨j,h,rfl⟩:∃j,zfg ts u s=Z j/\q=(j.1,kE ts ⟨#[59]⟩ j.2):=by
  obtain⟨af,h,l⟩:=qP t;obtain⟨bo,au,ag⟩:=qP l;simp only[jh]at ag;refine⟨_,by unfold zfg;rw[h];simp only[jf];rw[au];rfl,ag.symm⟩
 go_wp2_with (fail);refine(yd0 (E.x (jE _)).p (E.x (jE _)).e e h).mono ?_;exact zon
end
section
variable {w w' w0:Zw} {r G B:Nat} {ts:List Tok} {s:St}
theorem zz5 {a2:Nat} (bw:kT r G ts 217 (yL ts a2)) (aw:kT r G ts 180 (zS ts a2)):kT r G ts 216 (zeb ts a2):=by
 intro w s q aE au;have bM:=kc25;have bp:=aE.lt;obtain⟨bv,hi,br,bs,bu⟩:=info_parts zb9;have b1:=Box4.new w (U O 0) (I empty) (U O 0) (J F 0 0) 25;unfold zeb at au;obtain⟨M,ay,az⟩:=qP au;obtain⟨m,aA,a3⟩:=qP az;clear au az
 have ai:Hid (m.2.bad=H->q.2=m.2):=fun b=>by
  rw[zJ oD b,ju oD]at a3;simp only[jh]at a3;rw[<- a3]
 have ax:Hid (M.2.bad=H->q.2=M.2):=fun b=>by
  have af:=(dL ts a2).bk _ _ b aA;rw[ai.out (by rw[af];exact b),af]
 have ae:Hid ((if eqS (txt ts m.2) ⟨#[101,108,115,101]⟩ then(zS ts a2 m.2.next).bind fun h=>Z (.node 10 empty 0 [M.1,m.1,h.1],h.2)else Z (.node 10 empty 0 [M.1,m.1],m.2))=Z q):=a3;clear a3;go_enter func216,ntmps216;go_wp2_with (fail);refine(bw (aE.alloc _) ay).mono ?_;rintro i cq (⟨aj,rfl,P⟩|⟨aj,cn,rfl,ar,b6,P⟩);·go_wp2;exact⟨rfl,kG.lost (ax.out aj) aj ((Fr.al _ _).trans P)⟩
 obtain⟨l,g,p,_,rfl,n,C,h,rfl⟩:=ar.shape;go_wp2_with (fail);refine(aw b6 aA).mono ?_;rintro i c (⟨ak,rfl,R⟩|⟨ak,co,rfl,aJ,aF,R⟩);·go_wp2;exact⟨rfl,kG.lost (ai.out ak) ak (((Fr.al _ _).trans P).trans R)⟩
 obtain⟨z,K,B,_,rfl,t,D,u,rfl⟩:=aJ.shape;have bG:=P.size;have cr:=R.size;rw[jP]at bG ar;have aD:Fr r w c:=((Fr.al _ _).trans P).trans R;have aG:=(b1.fr P oA).fr R oA;have aL:Lies (fun a=>w.heap.size<a/\a<c.heap.size) c m.1 (Za #[U O z,I K,U O B,J t D u]):=aJ.to (fun a b=>⟨oA,b.2⟩) (fun _ _ _=>rfl);have aM:Lies (fun a=>w.heap.size<a/\a<c.heap.size) c M.1 (Za #[U O l,I g,U O p,J n C h]):=ar.frP (x:=r) R (fun a b=>⟨b.2,oA⟩) (fun a b=>⟨oA,oA⟩);cases aa:eqS (txt ts m.2) ⟨#[101,108,115,101]⟩
 case false =>
  have L:=ae.out;rw[aa,ju oD]at L;simp only[jh]at L;subst L;have bq:=aM.rowed2P (T:=25) (k:=10) (x:=empty) (m:=0) (c:=2) (Q:=fun a=>w.heap.size<a/\a<(c.alloc (Zc #[U O l,I g,U O p,J n C h,U O z,I K,U O B,J t D u] 25)).heap.size) aL (fun a b=>b.2) (fun a b=>⟨b.1,oK⟩) rfl ⟨oA,oK⟩;go_wp2_with (fail);refine(yO ((aF.alloc _).alloc _) ⟨#[101,108,115,101]⟩ oD aa oC).mono ?_;rintro i E ⟨rfl,a9,j⟩;obtain⟨aW,aX,aY,aZ,ci,cj,ck,cm⟩:=((aG.alloc _).alloc _).fr j oA;obtain⟨aN,aO,aP,aQ,_,_,_,_⟩:=(Box4.new (c.alloc (Zc #[U O l,I g,U O p,J n C h,U O z,I K,U O B,J t D u] 25)) (U O 10) (I empty) (U O 0) (J (Z (A c.heap.size 0 F)) 2 2) 25).fr j oN;simp only[jP]at aN aO aP aQ;go_wp2
  exact jU (v:=Za #[U O 10,I empty,U O 0,J (Z (A c.heap.size 0 F)) 2 2]) (by simp[results,results216,go_sem,aW,aX,aY,aZ]) rfl
   (kG.fin bp (aD.trans (((Fr.al _ _).trans (Fr.al _ _)).trans j)) a9 (jE _) (Nat.lt_succ_self _) (bq.frP (x:=r) ((Fr.al _ _).trans j) (fun a b=>⟨b.2,oA⟩) (fun a b=>⟨oA,jo b.2 ((Fr.al (r:=r) _ _).trans j).size⟩)))
 case true =>
  have L:=ae.out;rw[aa,jv rfl]at L;obtain⟨ac,aB,aC⟩:=qP L;simp only[jh]at aC;subst aC;clear L ae ai ax;go_wp2_with (fail);refine(yX ((aF.alloc _).alloc _) ⟨#[101,108,115,101]⟩ oD aa oC).mono ?_;rintro i E ⟨rfl,a9,j⟩;have ag:Fr r c E:=((Fr.al _ _).trans (Fr.al _ _)).trans j;have S:Fr r w E:=aD.trans ag;have bK:=j.size;simp only[jP]at bK;have am:=(Box4.new (c.alloc (Zc #[U O l,I g,U O p,J n C h,U O z,I K,U O B,J t D u] 25)) (U O 10) (I empty) (U O 0) (J (Z (A c.heap.size 0 F)) 2 2) 25).fr j oN;rw[jP]at am;have ba:=((aG.alloc _).alloc _).fr j oA;have bj:=((World.ownsRow_lit (e:=25) (size:=4) c #[U O l,I g,U O p,J n C h,U O z,I K,U O B,J t D u] 2 (base:=w.heap.size+1) oA oD rfl).alloc (Zc #[U O 10,I empty,U O 0,J (Z (A c.heap.size 0 F)) 2 2] 25)).kept j (.inr oS);have aS:=aM.frP (x:=r) (Q:=fun a=>w.heap.size<a/\a<E.heap.size/\a≠c.heap.size/\a≠c.heap.size+1) ag (fun a b=>⟨b.2,oA⟩) (fun a b=>⟨b.1,oA,oA,oA⟩);have aU:=aL.frP (x:=r) (Q:=fun a=>w.heap.size<a/\a<E.heap.size/\a≠c.heap.size/\a≠c.heap.size+1) ag (fun a b=>⟨b.2,oA⟩) (fun a b=>⟨b.1,oA,oA,oA⟩);obtain⟨aN,aO,aP,aQ,_,_,_,_⟩:=id am;by_cases ao:ac.2.bad=H
  ·go_wp2;refine wp_region_any oB ?_;change wpAny _ _ _ _ _ _ _ (World.drew _);refine tkQ 0 (Zp (Z (A (c.heap.size+1) 3 F))) ?_;refine tkQ 2 (Zp (Z (A r 0 F))) ?_;refine wpAny_ready (rs:=[1,3]) oB oC ?_;refine AllReady.cons rfl (fun e d=>?_) (AllReady.cons rfl (fun e d=>?_) AllReady.nil)
   focus
    go_simp;refine d _ _ ?_;clear d e;refine one0 3 fun e d=>?_
   all_goals
    go_simp;go_at_call 180;refine(aw.lost (a9.drewN 1) aB ao).mono ?_;rintro i f ⟨rfl,ah⟩;go_wp2;exact⟨rfl,kG.lost rfl ao ((S.drewN 1).trans ah)⟩
  ·have aI:ac.2.bad=X:=by simpa using ao
   go_wp2;refine wp_region_any oB ?_;change wpAny _ _ _ _ _ _ _ (World.drew _);refine tkQ 0 (Zp (Z (A (c.heap.size+1) 3 F))) ?_;refine tkQ 2 (Zp (Z (A r 0 F))) ?_;refine wpAny_ready (rs:=[1,3]) oB oC ?_;refine AllReady.cons rfl (fun e d=>?_) (AllReady.cons rfl (fun e d=>?_) AllReady.nil)
   focus
    go_simp;refine d _ _ ?_;clear d e;refine one0 3 fun e d=>?_
   all_goals
    go_simp;go_at_call 180;refine(aw.fine (a9.drewN 1) aB aI).mono ?_;rintro i f ⟨cp,rfl,aK,b7,ah⟩;obtain⟨a5,a8,a6,_,rfl,V,a7,W,rfl⟩:=aK.shape;have k:Fr r E f:=((Fr.refl r E).drewN 1).trans ah;have ct:=k.size;have an:=am.fr k oA;have aH:=ba.fr k oA;have bm:=bj.kept k (.inr oS);obtain⟨c9,ca,cb,cc,_,_,_,_⟩:=id an;have cu:c.heap.size+1<f.heap.size:=an.lt;have cv:w.heap.size<f.heap.size:=aH.lt;have aR:Hid (Lies (fun a=>w.heap.size<a/\a<f.heap.size/\a≠c.heap.size/\a≠c.heap.size+1) f M.1 (Za #[U O l,I g,U O p,J n C h])):=aS.frP (x:=r) k (fun a b=>⟨b.2.1,oA⟩) (fun a b=>⟨b.1,oA,b.2.2.1,b.2.2.2⟩);have aT:Hid (Lies (fun a=>w.heap.size<a/\a<f.heap.size/\a≠c.heap.size/\a≠c.heap.size+1) f m.1 (Za #[U O z,I K,U O B,J t D u])):=aU.frP (x:=r) k (fun a b=>⟨b.2.1,oA⟩) (fun a b=>⟨b.1,oA,b.2.2.1,b.2.2.2⟩)
    have aV:Hid (Lies (fun a=>w.heap.size<a/\a<f.heap.size/\a≠c.heap.size/\a≠c.heap.size+1) f ac.1 (Za #[U O a5,I a8,U O a6,J V a7 W])):=aK.to (fun a b=>by
     have ay:E.heap.size<=a:=b.1
     exact⟨oA,b.2,oA,oA⟩) (fun _ _ _=>rfl)
    go_wp2
   focus
    refine one0 4 fun e d=>?_
    go_simp;refine d _ _ ?_;clear d e
   rotate_left
   focus
    refine wpAny_ready (rs:=[1,4]) oB oC ?_;refine AllReady.cons rfl (fun e d=>?_) (AllReady.cons rfl (fun e d=>?_) AllReady.nil)
    all_goals
     go_simp;refine d _ _ ?_;clear d e
    focus
     refine one0 4 fun e d=>?_
     go_simp;refine d _ _ ?_;clear d e
    rotate_left
    focus
     refine one0 1 fun e d=>?_
     go_simp;refine d _ _ ?_;clear d e
   all_goals
    refine one0 5 fun e d=>?_
    refine step_append_lies _ oG (.tmp 14) (.tmp 17) 23 oG (w.heap.size+1) 25 bv (Za #[U O 0,I ⟨#[]⟩,U O 0,J F 0 0]) 4 56 underlying23 hi br bs bu rfl oD (J (Z (A c.heap.size 0 F)) 2 2) 2 [U O l,I g,U O p,J n C h,U O z,I K,U O B,J t D u] rfl (bm.alloc _) (A f.heap.size 0 F) 1 1 [U O a5,I a8,U O a6,J V a7 W] rfl rfl (zah _ _ _ _ _ _ _ rfl) oI oA (by unfold maxLen;omega) oA oE (f.heap.size+1) oC ?_;intro o N ad bn ap b9 bh;refine d _ _ ?_;clear d e;have x:f.grownBy ad (Z c.heap.size):=zi9 (World.grownBy_alloc f _ _) ap;have cw:=x.size;have bc:=(an.alloc (Zc #[U O a5,I a8,U O a6,J V a7 W] 25)).grown ap oP;have bb:=(aH.alloc (Zc #[U O a5,I a8,U O a6,J V a7 W] 25)).grown ap oS;obtain⟨c6,af,c7,c8,bN,bP,bR,bS⟩:=id bc;obtain⟨bz,bA,bB,bC,ce,cf,cg,ch⟩:=id bb
    have cd:w.heap.size<o/\o≠c.heap.size+1:=by
     rcases b9 with i | i
     ·have bX:c.heap.size=o:=by simpa[Value.ownBlock] using i
      omega
     ·omega
    refine one0 6 fun e d=>?_
    go_simp;refine d _ _ ?_;clear d e;refine one0 7 fun e d=>?_
    go_simp;refine d _ _ ?_;clear d e;refine wpAny_done oB ?_ _;go_wp2;refine jU (v:=Za #[U O 10,I empty,U O 0,J (Z (A o 0 F)) 3 N]) (by simp[results,results216,go_sem,bz,bA,bB,bC,empty]) rfl ?_;have b2:Fr r w ad:=⟨x.os.trans (S.trans k).os,x.tape.trans (S.trans k).tape,x.output.trans (S.trans k).output,jp (S.trans k).size x.size,fun y bf bi=>(x.block y oA oE).trans ((S.trans k).block y bf bi)⟩
    have b8:=b7.keep x (fun l i=>by
     obtain rfl:c.heap.size=l:=by simpa using i
     omega)
    have bo:=Fr.put (ad.setCell (A (c.heap.size+1) 3 F) (J (Z (A o 0 F)) 3 N)) w.heap.size (U O 10) (I empty) (U O 0) (J (Z (A o 0 F)) 3 N)
    have av:∀a,(w.heap.size<a/\a<f.heap.size/\a≠c.heap.size/\a≠c.heap.size+1)->∀y,World.cell? _ (A a y F)=f.cell? (A a y F):=fun a b y=>by
     rw[jN (a:=(A a y F)) (bo.block a oY oN),jD _ _ _ _ oN];exact jN (a:=(A a y F)) (x.block a b.2.1 oE)
    have bF:(Value.slice (Z (A o 0 F)) 3 N).ownBlock≠Z (c.heap.size+1):=oS;have ab:(Value.slice (Z (A o 0 F)) 3 N).ownBlock≠Z w.heap.size:=oS
    have bg:Kids (w.heap.size+1) (fun a=>w.heap.size<=a/\a<ad.heap.size) _ (J (Z (A o 0 F)) 3 N) [M.1,m.1,ac.1]:=⟨[(U O l,I g,U O p,J n C h),(U O z,I K,U O B,J t D u),(U O a5,I a8,U O a6,J V a7 W)],
     jV (jV (jV (jV (jV bn bF _) ab _) ab _) ab _) ab _,
     aR.out.to (fun a b=>⟨oA,oA⟩) av,aT.out.to (fun a b=>⟨oA,oA⟩) av,aV.out.to (fun a b=>⟨oA,oA⟩) av,trivial⟩
    exact .inr ⟨aI,_,rfl,bg.lies (fun a b=>⟨b.1,by simpa using b.2⟩) (fun b0 be=>by
     obtain rfl:o=b0:=by simpa[Value.ownBlock] using be
     exact⟨oA,by simpa using bh⟩) oC,(b8.set oA 3 _).put4 oA _ _ _ _,(b2.setNew oA _).put4 (jE _) _ _ _ _⟩
structure GoodY (r G:Nat) (ts:List Tok) (f:Nat):Prop where
 b:kT r G ts 180 (zS ts f)
 s:kT r G ts 197 (vU ts f)
theorem ycp (r G:Nat) (ts:List Tok) (c:Nat) (i:c<=100000):∀ {e:Nat},e<=c->GoodY r G ts e:=by
 induction c with
 | zero =>
  intro e h;obtain rfl:e=0:=oA
  exact⟨fun {w s q} _ d=>by simp[zS]at d,fun {w s q} _ d=>by simp[vU]at d⟩
 | succ c ih =>
  intro e h;have f:∀ {g:Nat},g<=c->GoodY r G ts g:=ih oA;rcases jM e (c+1)with d | d
  ·exact f oA
  obtain rfl:e=c+1:=oA;refine⟨ybs oA (fun d=>(f d).s),yc6 ⟨fun d=>zrm r G ts c oA d,(f (jE _)).b,?_,oA⟩⟩;exact zz5 (zrm r G ts c oA (jE _)).a (f (jE _)).b
end
end syn
end Go.Proofs.YtbjppepjmcfkaaaGreatDoor
