/- A map of one's own from names to faces: what it holds, by a plain function. -/
import Derived.Test.YtbjppepjmcfkaaaGreatDoorTQr
import Derived.Test.YtbjppepjmcfkaaaGreatDoorTQ03
import Derived.Laws.EntriesVeiled
import Derived.Lib.SmallJoins
import Derived.WalkSpells
import Derived.RangeFuncNested
import Derived.RangeFuncBound
import Derived.Shelf.RegionOpen
import Derived.OwnWalkIn
import Derived.LoopNIn
import Derived.LoopIn
set_option maxHeartbeats 4000000
set_option linter.unusedVariables false
set_option linter.unusedSimpArgs false
set_option maxRecDepth 100000
namespace Go.Proofs.YtbjppepjmcfkaaaGreatDoor
theorem zhi {r:Prop} (a:r:=by
 subst this
 exact⟨none,0,rfl,oC,fun a=>absurd rfl a⟩):r:=a
theorem zpc {a:Prop} (k:a:=by
 rw[L.out,ap.out];exact kG.fin aw ((ae.trans t).trans j) a8 (jE _) (show w.heap.size<x.heap.size by omega) ((b7.fr oA t).fr oA j)):a:=k
theorem zeh {a:Prop} (k:a:=by
 simp[results,Tryz.results126,go_sem,aa,ab,ac,ad,empty]):a:=k
theorem zpb {a:Prop} (k:a:=by
 unfold zY;rw[zJ oD d,ju oD]):a:=k
theorem zo3 {a:Prop} (k:a:=by
 go_wp2_with (fail);refine(yX au ⟨#[112,114,111,99]⟩ oD W rfl).mono ?_;rintro h b8 ⟨rfl,af,p⟩;have b9:=p.size;go_wp2_with (fail);refine(yc3 bj bm oD af b6).mono ?_;rintro h bP (⟨aL,rfl,ar⟩|⟨aL,bN,rfl,b2,bi,ar⟩);·go_wp2;exact⟨rfl,kG.lost rfl aL ((((Fr.al _ _).trans P).trans p).trans ar)⟩
 obtain⟨bn,bB,bo,_,rfl,ba,bp,bb,rfl⟩:=b2.shape;obtain⟨aa,ab,ac,ad,ax,ay,az,aA⟩:=(av.fr p oA).fr ar oA;go_wp2
 exact jU (v:=.agg #[.int .i64 bn,.string bB,.int .i64 bo,.slice ba bp bb]) (by simp[results,Tryz.results126,go_sem,aa,ab,ac,ad]) rfl (kG.hand aw (((Fr.al _ _).trans P).trans p) oA aL b2 bi ar)):a:=k
theorem zo5 {a:Prop} (k:a:=by
 have K:kE ts ⟨#[93]⟩ (number ts e.next).2=(number ts e.next).2:=kY oD d;rw[K]
 exact kY oD d):a:=k
theorem zo6 {a:Prop} (k:a:=by
 exact⟨rfl,kG.lost (by simp only[L.out];exact aY.out ak) ak ((a2.trans ((Fr.al _ _).trans i)).trans D)⟩):a:=k
theorem zo7 {a:Prop} (k:a:=by
 exact⟨rfl,kG.lost (a7.out aj) aj (((((Fr.al _ _).trans P).trans p).trans Q).trans R)⟩):a:=k
theorem zo8 {a:Prop} (k:a:=by
 exact⟨rfl,kG.lost (by simp only[L.out]) S ((a2.trans ((Fr.al _ _).trans i)).trans j)⟩):a:=k
theorem zo9 {a:Prop} (k:a:=by
 exact⟨rfl,kG.lost (by simp only[L.out];exact kY oD am) am (ae.trans t)⟩):a:=k
theorem zpa {a:Prop} (k:a:=by
 exact⟨rfl,kG.lost (ao.out ai) ai ((((Fr.al _ _).trans P).trans p).trans Q)⟩):a:=k
theorem zei {p:Prop} (a7:p:=by
 have:=(aN _ f).1;omega):p:=a7
theorem zpd {p:Prop} (a7:p:=by
 rcases b2 with f | f;exact .inl f.symm;exact .inr (by rw[f];rfl)):p:=a7
theorem zo4 {j:Prop} (o:j:=by
 simp only[Tryz.ntmps78,List.size_toArray,jd,je,Nat.reduceAdd,Nat.reduceSub,Array.replicate_succ,Array.replicate_zero,List.push_toArray,List.append_toArray,js,jL,Act.put,List.setIfInBounds_toArray,List.set_cons_succ,List.set_cons_zero];refine wpS_of_wp (wp_mono (Q:=fun b i w'=>b=.normal/\i.defers=[]/\w'.cell? ⟨a,0,none⟩=some (.int .i64 2)/\w'.cell? ⟨a,1,none⟩=some (.int .i64 at_)/\Fr a w w') ?_ ?_);·go_wp2;exact(((Fr.refl _ _).set _ _).set _ _).alloc _
 ·rintro b i w' ⟨rfl,f,q,r,s⟩
  exact⟨f,_,rfl,.tuple #[],by simp[results,Tryz.results78],rfl,rfl,q,r,s⟩):j:=o
theorem zpe {j:Prop} (p:j:=by
 rw[<- jP w (.cells #[.int .i64 f,.string h,.int .i64 g,.slice c n d] 25)];simp):j:=p
namespace syn
open Go.RowKit
open lexs (Tok Fine own_shape)
section
variable {w w' w0:World} {r G B:Nat} {ts:List Tok} {s:St}
def za7 (ts:List Tok) (_:Nat) (s:St):Option (Tree × St):=some (.node 5 (name ts (label ts s).2).1 (label ts s).1 [],(name ts (label ts s).2).2)
theorem zsx {f:Nat}:∀ {c:List Tree} {s:St} {b:List Tree × St},vR ts f c s=some b->uY ts (za7 ts) f c s=some (b.1,kE ts ⟨#[41]⟩ b.2):=by
 induction f with
 | zero=>intro c s b a;unfold vR at a;simp at a
 | succ f ih =>
  intro c s b a;unfold vR at a;unfold uY;simp only[za7,jf];split at a;·rename_i d;rw[jv d];exact ih a
  ·rename_i d;rw[ju d];simp only[jh]at a;rw[<- a]
theorem zte {f:Nat} {c:List Tree × St} (a:params ts f s=some c):bY ts (za7 ts) f s=some (c.1,kE ts ⟨#[41]⟩ c.2):=by
 unfold params at a;unfold bY;cases b:eqS (txt ts s) ⟨#[41]⟩;·rw[b]at a;simp only[jr,if_false]at a |-;exact zsx a
 ·rw[b]at a;simp only[if_true,jh]at a |-;rw[<- a,zam b]
theorem zxj (d:Nat) (s:St) (q:Tree × St) (b:s.bad=true) (a:za7 ts d s=some q):q.2=s:=by
 unfold za7 at a;simp only[jh]at a;rw[<- a];have c:=zau (ts:=ts) b;show(name ts (label ts s).2).2=s;rw[c];exact fJ b
theorem params_st {f:Nat} {c:List Tree × St} (b:s.bad=true) (a:params ts f s=some c):c.2=s:=by
 unfold params at a;rw[zJ oD b,ju oD]at a
 cases f with
 | zero=>unfold vR at a;simp at a
 | succ f =>
  unfold vR at a;have d:=zau (ts:=ts) b;have e:=fJ (ts:=ts) b;rw[d,e,zJ oD b,ju oD]at a;simp only[jh]at a;rw[<- a]
theorem zxd (a:s.bad=true):vK ts s=s:=by
 unfold vK;have b:=zau (ts:=ts) a;rw[b,zJ oD a,ju oD]
def procF (ts:List Tok) (f:Nat) (n:Int) (s:St):Option (Tree × St) :=
 (params ts f (kE ts ⟨#[40]⟩ (name ts s).2)).bind fun p=>(zS ts f (vK ts (kE ts ⟨#[41]⟩ p.2))).bind fun b=>some (.node 4 (name ts s).1 (gR ts n (kE ts ⟨#[41]⟩ p.2)) (p.1++[b.1]),b.2)
theorem KO.rebase {e:World} {d:Value} {c:List Tree} (a:KO e B r G ts w s d c) (b:Fr r w0 e) (f:r<w0.heap.size):KO w0 B r G ts w s d c :=
 ⟨a.ld,f,jp b.size a.b0,b.trans a.fr,a.kids⟩
theorem yc3 {f:Nat} (bS:f<=100000) (b6:kT r G ts 180 (zS ts f)) {n:Int} (dr:0<=n/\n<=2) (aa:Ld w r G ts s) {q:Tree × St} (L:procF ts f n s=some q) : Calls Tryz.prog 154 #[.pointer (some ⟨r,0,none⟩),.int .i64 n] w (kG w r G ts q):=by
 have d0:=kc25;have dq:∀(aK:Fn) (first S:Array Value) (w:World),(Instr.makeFunc aK first S).run Tryz.prog w=.ok (.func aK first S) w:=fun _ _ _ _=>rfl
 have b2:=aa.lt;obtain⟨ce,hi,cb,cc,cd⟩:=info_parts zb9;have bg:=Box4.new w (.int .i64 0) (.string empty) (.int .i64 0) (.slice none 0 0) 25;unfold procF at L;obtain⟨l,aF,aM⟩:=qP L;obtain⟨b,y,aN⟩:=qP aM;simp only[jh]at aN;subst aN;clear L aM;have c6:=zte aF
 have bb:Hid ((label ts (kE ts ⟨#[41]⟩ l.2)).2.bad=true->b.2=(label ts (kE ts ⟨#[41]⟩ l.2)).2):=fun i=>by
  have E:vK ts (kE ts ⟨#[41]⟩ l.2)=(label ts (kE ts ⟨#[41]⟩ l.2)).2:=by unfold vK;rw[zJ oD i,ju oD]
  rw[E]at y;exact(dL ts f).bk _ _ i y
 have aJ:Hid ((kE ts ⟨#[41]⟩ l.2).bad=true->b.2=kE ts ⟨#[41]⟩ l.2):=fun i=>by
  rw[zxd i]at y;exact(dL ts f).bk _ _ i y
 have aI:Hid ((kE ts ⟨#[40]⟩ (name ts s).2).bad=true->b.2=kE ts ⟨#[40]⟩ (name ts s).2):=fun i=>by
  have E:=params_st i aF;have ah:kE ts ⟨#[41]⟩ l.2=kE ts ⟨#[40]⟩ (name ts s).2:=by rw[E];exact kY oD i
  rw[aJ.out (by rw[ah];exact i),ah]
 have ba:Hid ((name ts s).2.bad=true->b.2=(name ts s).2):=fun i=>by
  have E:kE ts ⟨#[40]⟩ (name ts s).2=(name ts s).2:=kY oD i;rw[aI.out (by rw[E];exact i),E]
 have bv:=fV (aa.alloc (.cells #[.int .i64 0,.string empty,.int .i64 0,.slice none 0 0] 25));have ca:l.1.length<=100001->True:=fun _=>trivial
 generalize name ts s=cp at *;obtain⟨aH,e2⟩:=cp;simp only at *;generalize kE ts ⟨#[41]⟩ l.2=e at *;obtain⟨j,ps⟩:=l;simp only at *;clear ca aF;go_enter Tryz.func154,Tryz.ntmps154;go_wp2_with (fail);refine bv.mono ?_;rintro g h (⟨au,rfl,P⟩|⟨au,rfl,bo,P⟩);·go_wp2;exact⟨rfl,kG.lost (ba.out au) au ((Fr.al _ _).trans P)⟩
 go_wp2_with (fail);refine(uP (bo.alloc _) ⟨#[40]⟩ oD oC).mono ?_;rintro g D ⟨eg,⟨aw,rfl,Q⟩|⟨aw,rfl,bp,Q⟩⟩;·go_wp2;exact⟨rfl,kG.lost (aI.out aw) aw (((Fr.al _ _).trans P).trans ((Fr.al _ _).trans Q))⟩
 have cH:=P.size;have cL:=Q.size;simp only[jP]at cH cL;have aO:Fr r w D:=((Fr.al _ _).trans P).trans ((Fr.al _ _).trans Q);have bM:=(Box4.new h (.int .i64 4) (.string aH) (.int .i64 0) (.slice none 0 0) 25).fr Q oA;have bz:=((bg.fr P oA).alloc (.cells #[.int .i64 4,.string aH,.int .i64 0,.slice none 0 0] 25)).fr Q oA;go_wp2_with (fail)
 refine(zru oD (f:=f) (fun {B} aL {w s q} aa L=>by
  unfold za7 at L;simp only[jh]at L;rw[<- L]
  exact yb1 aa) zxj bS bp c6).mono ?_
 rintro g ed (⟨ax,rfl,a8⟩|⟨ax,dn,e1,rfl,a⟩);·go_wp2;exact⟨rfl,kG.lost (aJ.out ax) ax (aO.trans a8)⟩
 obtain⟨p,u,rfl⟩:=a.kids.shape;have a8:=a.fr;have aX:=bM.fr a8 oA;have bA:=bz.fr a8 oA;have ak:=(a.rebase aO b2).set (N:=h.heap.size) oA oA 3 (.slice p j.length u);have bN:=aX.set3 (.slice p j.length u);have bB:=bA.other (M:=h.heap.size) (o:=3) oA (.slice p j.length u);have dj:=zdm ts e;obtain⟨cq,cr,ct,cu,e3,e4,e5,e6⟩:=id aX;go_wp2_with (fail);refine(cM ak.ld).mono ?_;rintro g ef (⟨aB,rfl,K⟩|⟨aB,rfl,bu,K⟩);·go_wp2;exact⟨rfl,kG.lost (bb.out aB) aB (ak.fr.trans K)⟩
 have aR:=ak.step bu K;have ay:=bN.fr K oA;have aV:=bB.fr K oA;obtain⟨x0,x1,x2,x3,e8,e9,ea,eb⟩:=id ay;cases C:eqS (txt ts (label ts e).2) ⟨#[103,105,118,101,115]⟩
 case' false =>
  have ai:vK ts e=(label ts e).2:=by unfold vK;rw[C,ju oD]
  have a6:Hid (gR ts n e=(label ts e).1+n):=by show _=_;unfold gR;rw[C,ju oD,Int.add_comm]
  rw[ai]at y;generalize label ts e=aG at *;obtain⟨d,sl⟩:=aG;simp only at *;have V:=aR.set (N:=h.heap.size) oA oA 2 (.int .i64 (d+n));have az:=ay.set2 (.int .i64 (d+n));have ar:=aV.other (M:=h.heap.size) (o:=2) oA (.int .i64 (d+n));go_wp2_with (fail);refine(yO V.ld ⟨#[103,105,118,101,115]⟩ oD C oC).mono ?_;rintro g m ⟨rfl,ab,k⟩;have x:=V.step ab k;have ac:=az.fr k oA;have ap:=ar.fr k oA;have aj:Hid (d+n=gR ts n e):=a6.out.symm;have ae:D.heap.size<=m.heap.size:=by have be:=a.fr.size;have af:=K.size;have ag:=k.size;simp only[jR]at af ag;omega
  generalize d+n=num at *
 case' true =>
  have ai:vK ts e=(label ts (label ts e).2.next).2:=by unfold vK;rw[C,jv rfl]
  have a6:Hid (gR ts n e=(label ts e).1+n+4+4*(label ts (label ts e).2.next).1):=by show _=_;unfold gR;rw[C,jv rfl,Int.add_comm n]
  rw[ai]at y;have dk:=zdm ts (label ts e).2.next;have bc:Hid ((label ts (label ts e).2.next).2.bad=true->b.2=(label ts (label ts e).2.next).2):=fun i=>(dL ts f).bk _ _ i y
  have br:=fun (w:World) (aL:Ld w r G ts (label ts e).2.next)=>cM aL
  generalize label ts (label ts e).2.next=cj at *;obtain⟨b7,e7⟩:=cj;generalize label ts e=aG at *;obtain⟨d,sl⟩:=aG;simp only at *;have V:=aR.set (N:=h.heap.size) oA oA 2 (.int .i64 (d+n));have az:=ay.set2 (.int .i64 (d+n));have ar:=aV.other (M:=h.heap.size) (o:=2) oA (.int .i64 (d+n));go_wp2_with (fail);refine(yX V.ld ⟨#[103,105,118,101,115]⟩ oD C oC).mono ?_;rintro g ee ⟨rfl,bs,a9⟩;have bn:=V.step bs a9;have aY:=az.fr a9 oA;have bF:=ar.fr a9 oA;obtain⟨db,dd,df,di,dx,dy,dz,e0⟩:=id aY;have am:=bn.set (N:=h.heap.size) oA oA 2 (.int .i64 (d+n+4));have bP:=aY.set2 (.int .i64 (d+n+4));have bG:=bF.other (M:=h.heap.size) (o:=2) oA (.int .i64 (d+n+4));go_wp2_with (fail);refine(br _ am.ld).mono ?_;rintro g m (⟨aA,rfl,k⟩|⟨aA,rfl,ab,k⟩);·go_wp2;exact⟨rfl,kG.lost (bc.out aA) aA (am.fr.trans k)⟩
  have an:=am.step ab k;have ad:=bP.fr k oA;have ao:=bG.fr k oA;have ae:D.heap.size<=m.heap.size:=by have be:=a.fr.size;have af:=K.size;have ag:=k.size;have bf:=a9.size;simp only[jR]at af ag bf;omega
  rcases(show b7=0\/b7=1 by omega)with rfl | rfl
  focus
   have x:=an;have ac:=ad;have ap:=ao;have aj:Hid (d+n+4=gR ts n e):=by show _=_;rw[a6.out];omega
   generalize d+n+4=num at *
  rotate_left
  focus
   obtain⟨cw,cx,cy,cz,ck,cm,cn,co⟩:=id ad;have aQ:=an.set (N:=h.heap.size) oA oA 2 (.int .i64 (d+n+4+4));have aW:=ad.set2 (.int .i64 (d+n+4+4));have aU:=ao.other (M:=h.heap.size) (o:=2) oA (.int .i64 (d+n+4+4));have aj:Hid (d+n+4+4=gR ts n e):=by show _=_;rw[a6.out];omega
   go_wp2;have cR:D.heap.size<=(m.setCell ⟨h.heap.size,2,none⟩ (.int .i64 (d+n+4+4))).heap.size:=by rw[jR];exact ae
   have x:=aQ;have ac:=aW;have ap:=aU;clear ae aQ aW aU;generalize m.setCell ⟨h.heap.size,2,none⟩ (.int .i64 (d+n+4+4))=m at *;have ae:=cR;clear an ad ao cw cx cy cz ck cm cn co ab k;generalize d+n+4+4=num at *
 all_goals
  obtain⟨cq,cr,ct,cu,_,_,_,_⟩:=id ac;by_cases aC:b.2.bad=true
  ·go_wp2;refine wp_region_any oB ?_;change wpAny _ _ _ _ _ _ _ (World.drew _);refine tkQ 0 (.pointer (some ⟨h.heap.size,3,none⟩)) ?_;refine tkQ 2 (.pointer (some ⟨r,0,none⟩)) ?_;refine wpAny_ready (rs:=[1,3]) oB oC ?_;refine AllReady.cons rfl (fun c a=>?_) (AllReady.cons rfl (fun c a=>?_) AllReady.nil)
   focus
    go_simp;refine a _ _ ?_;clear a c;refine one0 3 fun c a=>?_
   all_goals
    go_simp;go_at_call 180;refine(b6.lost (x.ld.drewN 1) y aC).mono ?_;rintro g cv ⟨rfl,bi⟩;go_wp2;exact⟨rfl,kG.lost rfl aC ((x.fr.drewN 1).trans bi)⟩
  ·have bR:b.2.bad=false:=by simpa using aC
   go_wp2;refine wp_region_any oB ?_;change wpAny _ _ _ _ _ _ _ (World.drew _);refine tkQ 0 (.pointer (some ⟨h.heap.size,3,none⟩)) ?_;refine tkQ 2 (.pointer (some ⟨r,0,none⟩)) ?_;refine wpAny_ready (rs:=[1,3]) oB oC ?_;refine AllReady.cons rfl (fun c a=>?_) (AllReady.cons rfl (fun c a=>?_) AllReady.nil)
   focus
    go_simp;refine a _ _ ?_;clear a c;refine one0 3 fun c a=>?_
   all_goals
    go_simp;go_at_call 180;refine(b6.fine (x.ld.drewN 1) y bR).mono ?_;rintro g z ⟨ec,rfl,aZ,bq,bh⟩;obtain⟨W,a5,a2,_,rfl,R,a3,T,rfl⟩:=aZ.shape;have a7:Fr r m z:=((Fr.refl r m).drewN 1).trans bh;have aE:∀B,(Value.slice p j.length u).ownBlock=some B->D.heap.size<=B/\B<m.heap.size:=fun B C=>x.kids.blk C
    have aP:=x.step bq a7;have ek:=a7.size;have dm:=x.b0;have ej:=x.fr.size
    have bX:Lies (fun b=>D.heap.size<=b/\b<z.heap.size/\some b≠(Value.slice p j.length u).ownBlock) z b.1 (.agg #[.int .i64 W,.string a5,.int .i64 a2,.slice R a3 T]) :=
     aZ.to (fun b i=>by
      have dl:m.heap.size<=b:=i.1
      exact⟨oA,i.2,fun g=>by have:=(aE b g.symm).2;omega⟩) (fun _ _ _=>rfl)
    obtain⟨b8,b1,aS⟩:=aP.kids;have b9:Hid (zG (fun b=>D.heap.size<=b/\b<z.heap.size/\some b≠(Value.slice p j.length u).ownBlock) z j b8):=aS;have av:=ac.fr a7 oA;have aT:=ap.fr a7 oA;obtain⟨da,dc,de,dh,_,_,_,_⟩:=id av;have eh:h.heap.size<z.heap.size:=av.lt;have ei:w.heap.size<z.heap.size:=aT.lt;clear aS;go_wp2
   focus
    refine one0 4 fun c a=>?_
    go_simp;refine a _ _ ?_;clear a c
   rotate_left
   focus
    refine wpAny_ready (rs:=[1,4]) oB oC ?_;refine AllReady.cons rfl (fun c a=>?_) (AllReady.cons rfl (fun c a=>?_) AllReady.nil)
    all_goals
     go_simp;refine a _ _ ?_;clear a c
    focus
     refine one0 4 fun c a=>?_
     go_simp;refine a _ _ ?_;clear a c
    rotate_left
    focus
     refine one0 1 fun c a=>?_
     go_simp;refine a _ _ ?_;clear a c
   all_goals
    refine one0 5 fun c a=>?_
    refine step_append_lies _ oG (.tmp 37) (.tmp 40) 23 oG D.heap.size 25 ce (.agg #[.int .i64 0,.string ⟨#[]⟩,.int .i64 0,.slice none 0 0]) 4 56 Tryz.underlying23 hi cb cc cd rfl oD (.slice p j.length u) j.length (uX b8) rfl (b1.alloc _) ⟨z.heap.size,0,none⟩ 1 1 [.int .i64 W,.string a5,.int .i64 a2,.slice R a3 T] rfl rfl (zah _ _ _ _ _ _ _ rfl) oI oA (by unfold maxLen;omega) oA oE (z.heap.size+1) oC ?_;intro B S cv c9 aD bw dp;refine a _ _ ?_;clear a c;have bj:=KO.pushed (q:=(.int .i64 W,.string a5,.int .i64 a2,.slice R a3 T)) (t:=b.1) aP b1 b9.out bX c9 aD (by rcases bw with g | g;exact .inl g.symm;exact .inr (by rw[g];rfl));have c7:(Value.slice p j.length u).ownBlock≠some h.heap.size:=fun g=>by have:=(aE _ g).1;omega
    have c8:(Value.slice p j.length u).ownBlock≠some w.heap.size:=fun g=>by have:=(aE _ g).1;omega
    have bK:=(av.alloc (.cells #[.int .i64 W,.string a5,.int .i64 a2,.slice R a3 T] 25)).grown aD c7;have bC:=(aT.alloc (.cells #[.int .i64 W,.string a5,.int .i64 a2,.slice R a3 T] 25)).grown aD c8;obtain⟨d5,E,ah,d6,d1,d2,d3,d4⟩:=id bK;obtain⟨cf,cg,ch,ci,ds,dt,du,dw⟩:=id bC;refine one0 6 fun c a=>?_
    go_simp;refine a _ _ ?_;clear a c;refine one0 7 fun c a=>?_
    go_simp;refine a _ _ ?_;clear a c;refine wpAny_done oB ?_ _;go_wp2;have bm:=bj.set (N:=h.heap.size) oA oA 3 (.slice (some ⟨B,0,none⟩) (j.length+1) S);exact jU (v:=.agg #[.int .i64 4,.string aH,.int .i64 num,.slice (some ⟨B,0,none⟩) (j.length+1) S]) (by simp[results,Tryz.results154,go_sem,cf,cg,ch,ci]) rfl (by rw[<- aj.out];exact kG.kids b2 bm (jE _) oA oQ)
end
section
variable {w w' w0:World} {r G B:Nat} {ts:List Tok} {s:St}
theorem ycy {f:Nat} (bj:f<=100000) (bm:kT r G ts 180 (zS ts f)):kT r G ts 126 (dQ ts f):=by
 intro w s q b0 u;have bM:=kc25;have aw:=b0.lt;have aZ:=Box4.new w (.int .i64 0) (.string empty) (.int .i64 0) (.slice none 0 0) 25;have b1:=b0.alloc (.cells #[.int .i64 0,.string empty,.int .i64 0,.slice none 0 0] 25);cases a9:eqS (txt ts s) ⟨#[112,117,98]⟩
 case true =>
  have aC:zE ts s=s.next:=by unfold zE;rw[a9,jv rfl]
  have aB:cX ts s=2:=by unfold cX;rw[a9,jv rfl]
  have aD:=yX (T:=9) b1 ⟨#[112,117,98]⟩ oD a9 (M:=w.heap.size+1) oC;go_enter Tryz.func126,Tryz.ntmps126;go_wp2_with (fail);refine aD.mono ?_;rintro h bw ⟨rfl,au,P⟩;unfold dQ at u;rw[aC,aB]at u;have aV:=P.size;rw[jP]at aV;have av:=aZ.fr P oA;cases W:eqS (txt ts s.next) ⟨#[112,114,111,99]⟩
  case true =>
   rw[W,jv rfl]at u;have b6:procF ts f 2 (s.next).next=some q:=u;exact zo3
  case false =>
   rw[W,ju oD]at u;simp only[jh]at u;subst u;have bh:=zdm ts s.next;go_wp2_with (fail);refine(yO au ⟨#[112,114,111,99]⟩ oD W rfl).mono ?_;rintro h b8 ⟨rfl,af,p⟩;have b9:=p.size
   have a7:Hid ((name ts (label ts s.next).2).2.bad=true->kE ts ⟨#[59]⟩ (zY ts (name ts (label ts s.next).2).2).2=(name ts (label ts s.next).2).2):=fun d=>by
    have K:(zY ts (name ts (label ts s.next).2).2).2=(name ts (label ts s.next).2).2:=zpb;rw[K];exact kY oD d
   have ao:Hid ((label ts s.next).2.bad=true->kE ts ⟨#[59]⟩ (zY ts (name ts (label ts s.next).2).2).2=(label ts s.next).2):=fun d=>by
    have K:=fJ (ts:=ts) d;rw[a7.out (by rw[K];exact d),K]
   go_wp2_with (fail);refine(cM af).mono ?_;rintro h bz (⟨ai,rfl,Q⟩|⟨ai,rfl,aE,Q⟩);·go_wp2;exact zpa
   have bG:=Q.size;go_wp2_with (fail);refine(fV aE).mono ?_;rintro h g (⟨aj,rfl,R⟩|⟨aj,rfl,ag,R⟩);·go_wp2;exact zo7
   have bK:=R.size;have a2:Fr r w g:=((((Fr.al _ _).trans P).trans p).trans Q).trans R;have ah:=((av.fr p oA).fr Q oA).fr R oA;clear ao a7;generalize label ts s.next=aO at *;obtain⟨l,sl⟩:=aO;simp only at *;generalize name ts sl=aP at *;obtain⟨C,e⟩:=aP;simp only at *;have ap:Hid (2+l=(l+2)):=by show _=_;omega
   cases V:eqS (txt ts e) ⟨#[91]⟩
   case false =>
    have L:Hid (zY ts e=([],e)):=by show _=_;unfold zY;rw[V,ju oD]
    go_wp2_with (fail);refine(yO (ag.alloc _) ⟨#[91]⟩ oD V oC).mono ?_;rintro h x ⟨rfl,a3,i⟩;have a6:=i.size;simp only[jP]at a6;obtain⟨aQ,aR,aS,aT,_,_,_,_⟩:=(Box4.new g (.int .i64 3) (.string C) (.int .i64 (l+2)) (.slice none 0 0) 25).fr i oA;go_wp2_with (fail);refine(gS a3 _ _ _ _ _ _).mono ?_;rintro h aU (⟨S,rfl,j⟩|⟨S,rfl,a8,j⟩);·go_wp2;exact zo8
    obtain⟨aa,ab,ac,ad,ax,ay,az,aA⟩:=((ah.alloc _).fr i oA).fr j oA;go_wp2;exact jU (v:=.agg #[.int .i64 3,.string C,.int .i64 (l+2),.slice none 0 0]) zeh rfl (by rw[L.out,ap.out];exact kG.fin aw ((a2.trans ((Fr.al _ _).trans i)).trans j) a8 (jE _) (show w.heap.size<x.heap.size by omega) ((Lies.leaf (fun b=>x.heap.size<=b/\b<x.heap.size) x 3 C (l+2)).fr oA j))
   case true =>
    have L:Hid (zY ts e=([(number ts e.next).1],kE ts ⟨#[93]⟩ (number ts e.next).2)):=by show _=_;unfold zY;rw[V,jv rfl]
    have aY:Hid ((number ts e.next).2.bad=true->kE ts ⟨#[59]⟩ (kE ts ⟨#[93]⟩ (number ts e.next).2)=(number ts e.next).2):=fun d=>by
     exact zo5
    go_wp2_with (fail);refine(yX (ag.alloc _) ⟨#[91]⟩ oD V oC).mono ?_;rintro h x ⟨rfl,a3,i⟩;have a6:=i.size;simp only[jP]at a6;go_wp2_with (fail);refine(zhg a3).mono ?_;rintro h c (⟨ak,rfl,D⟩|⟨ak,bv,rfl,an,aF,D⟩);·go_wp2;exact zo6
    obtain⟨z,m,B,_,rfl,E,n,y,rfl⟩:=an.shape;have aW:=D.size;have a5:=((Box4.new g (.int .i64 3) (.string C) (.int .i64 (l+2)) (.slice none 0 0) 25).fr i oA).fr D oA;have aI:=((ah.alloc _).fr i oA).fr D oA;obtain⟨aQ,aR,aS,aT,bq,br,bs,bu⟩:=id a5;have bC:g.heap.size<c.heap.size:=a5.lt;have aM:=(Fr.refl g.heap.size c).set 3 (.slice (some ⟨c.heap.size,0,none⟩) 1 1);have aN:Lies (fun b=>x.heap.size<=b/\b<(c.setCell ⟨g.heap.size,3,none⟩ (.slice (some ⟨c.heap.size,0,none⟩) 1 1)).heap.size) (c.setCell ⟨g.heap.size,3,none⟩ (.slice (some ⟨c.heap.size,0,none⟩) 1 1)) (number ts e.next).1 (.agg #[.int .i64 z,.string m,.int .i64 B,.slice E n y]):=an.frP (x:=g.heap.size) aM (fun b d=>⟨d.2,oA⟩) (fun b d=>⟨d.1,by rw[jR];exact d.2⟩);have aG:=(aF.set (N:=g.heap.size) oA 3 (.slice (some ⟨c.heap.size,0,none⟩) 1 1)).alloc (.cells #[.int .i64 z,.string m,.int .i64 B,.slice E n y] 25);have ae:Fr r w _:=(((a2.trans ((Fr.al _ _).trans i)).trans D).setNew (N:=g.heap.size) (o:=3) oA (.slice (some ⟨c.heap.size,0,none⟩) 1 1)).alloc (.cells #[.int .i64 z,.string m,.int .i64 B,.slice E n y] 25);have aK:=(a5.set3 (.slice (some ⟨c.heap.size,0,none⟩) 1 1)).alloc (.cells #[.int .i64 z,.string m,.int .i64 B,.slice E n y] 25);have aJ:=(aI.other (M:=g.heap.size) (o:=3) oA (.slice (some ⟨c.heap.size,0,none⟩) 1 1)).alloc (.cells #[.int .i64 z,.string m,.int .i64 B,.slice E n y] 25);have b7:=aN.rowed (T:=25) (k:=3) (x:=C) (m:=(l+2)) (c:=1) (M:=c.heap.size) (by rw[jR];exact aW) oC;go_wp2_with (fail);refine(uP aG ⟨#[93]⟩ oD oC).mono ?_;rintro h bA ⟨bF,⟨am,rfl,t⟩|⟨am,rfl,aH,t⟩⟩;·go_wp2;exact zo9
    have aX:=t.size;simp only[jP,jR]at aX;obtain⟨bc,be,bf,bg,_,_,_,_⟩:=aK.fr t oA;go_wp2_with (fail);refine(gS aH _ _ _ _ _ _).mono ?_;rintro h aU (⟨S,rfl,j⟩|⟨S,rfl,a8,j⟩);·go_wp2;exact⟨rfl,kG.lost (by simp only[L.out]) S ((ae.trans t).trans j)⟩
    obtain⟨aa,ab,ac,ad,ax,ay,az,aA⟩:=(aJ.fr t oA).fr j oA;go_wp2;exact jU (v:=.agg #[.int .i64 3,.string C,.int .i64 (l+2),.slice (some ⟨c.heap.size,0,none⟩) 1 1]) zeh rfl zpc
 case false =>
  have aC:zE ts s=s:=by unfold zE;rw[a9,ju oD]
  have aB:cX ts s=0:=by unfold cX;rw[a9,ju oD]
  have aD:=yO (T:=9) b1 ⟨#[112,117,98]⟩ oD a9 (M:=w.heap.size+1) oC;go_enter Tryz.func126,Tryz.ntmps126;go_wp2_with (fail);refine aD.mono ?_;rintro h bw ⟨rfl,au,P⟩;unfold dQ at u;rw[aC,aB]at u;have aV:=P.size;rw[jP]at aV;have av:=aZ.fr P oA;cases W:eqS (txt ts s) ⟨#[112,114,111,99]⟩
  case true =>
   rw[W,jv rfl]at u;have b6:procF ts f 0 (s).next=some q:=u;exact zo3
  case false =>
   rw[W,ju oD]at u;simp only[jh]at u;subst u;have bh:=zdm ts s;go_wp2_with (fail);refine(yO au ⟨#[112,114,111,99]⟩ oD W rfl).mono ?_;rintro h b8 ⟨rfl,af,p⟩;have b9:=p.size
   have a7:Hid ((name ts (label ts s).2).2.bad=true->kE ts ⟨#[59]⟩ (zY ts (name ts (label ts s).2).2).2=(name ts (label ts s).2).2):=fun d=>by
    have K:(zY ts (name ts (label ts s).2).2).2=(name ts (label ts s).2).2:=zpb;rw[K];exact kY oD d
   have ao:Hid ((label ts s).2.bad=true->kE ts ⟨#[59]⟩ (zY ts (name ts (label ts s).2).2).2=(label ts s).2):=fun d=>by
    have K:=fJ (ts:=ts) d;rw[a7.out (by rw[K];exact d),K]
   go_wp2_with (fail);refine(cM af).mono ?_;rintro h bz (⟨ai,rfl,Q⟩|⟨ai,rfl,aE,Q⟩);·go_wp2;exact zpa
   have bG:=Q.size;go_wp2_with (fail);refine(fV aE).mono ?_;rintro h g (⟨aj,rfl,R⟩|⟨aj,rfl,ag,R⟩);·go_wp2;exact zo7
   have bK:=R.size;have a2:Fr r w g:=((((Fr.al _ _).trans P).trans p).trans Q).trans R;have ah:=((av.fr p oA).fr Q oA).fr R oA;clear ao a7;generalize label ts s=aO at *;obtain⟨l,sl⟩:=aO;simp only at *;generalize name ts sl=aP at *;obtain⟨C,e⟩:=aP;simp only at *;have ap:Hid (0+l=l):=by show _=_;omega
   cases V:eqS (txt ts e) ⟨#[91]⟩
   case false =>
    have L:Hid (zY ts e=([],e)):=by show _=_;unfold zY;rw[V,ju oD]
    go_wp2_with (fail);refine(yO (ag.alloc _) ⟨#[91]⟩ oD V oC).mono ?_;rintro h x ⟨rfl,a3,i⟩;have a6:=i.size;simp only[jP]at a6;obtain⟨aQ,aR,aS,aT,_,_,_,_⟩:=(Box4.new g (.int .i64 3) (.string C) (.int .i64 l) (.slice none 0 0) 25).fr i oA;go_wp2_with (fail);refine(gS a3 _ _ _ _ _ _).mono ?_;rintro h aU (⟨S,rfl,j⟩|⟨S,rfl,a8,j⟩);·go_wp2;exact zo8
    obtain⟨aa,ab,ac,ad,ax,ay,az,aA⟩:=((ah.alloc _).fr i oA).fr j oA;go_wp2;exact jU (v:=.agg #[.int .i64 3,.string C,.int .i64 l,.slice none 0 0]) zeh rfl (by rw[L.out,ap.out];exact kG.fin aw ((a2.trans ((Fr.al _ _).trans i)).trans j) a8 (jE _) (show w.heap.size<x.heap.size by omega) ((Lies.leaf (fun b=>x.heap.size<=b/\b<x.heap.size) x 3 C l).fr oA j))
   case true =>
    have L:Hid (zY ts e=([(number ts e.next).1],kE ts ⟨#[93]⟩ (number ts e.next).2)):=by show _=_;unfold zY;rw[V,jv rfl]
    have aY:Hid ((number ts e.next).2.bad=true->kE ts ⟨#[59]⟩ (kE ts ⟨#[93]⟩ (number ts e.next).2)=(number ts e.next).2):=fun d=>by
     exact zo5
    go_wp2_with (fail);refine(yX (ag.alloc _) ⟨#[91]⟩ oD V oC).mono ?_;rintro h x ⟨rfl,a3,i⟩;have a6:=i.size;simp only[jP]at a6;go_wp2_with (fail);refine(zhg a3).mono ?_;rintro h c (⟨ak,rfl,D⟩|⟨ak,bv,rfl,an,aF,D⟩);·go_wp2;exact zo6
    obtain⟨z,m,B,_,rfl,E,n,y,rfl⟩:=an.shape;have aW:=D.size;have a5:=((Box4.new g (.int .i64 3) (.string C) (.int .i64 l) (.slice none 0 0) 25).fr i oA).fr D oA;have aI:=((ah.alloc _).fr i oA).fr D oA;obtain⟨aQ,aR,aS,aT,bq,br,bs,bu⟩:=id a5;have bC:g.heap.size<c.heap.size:=a5.lt;have aM:=(Fr.refl g.heap.size c).set 3 (.slice (some ⟨c.heap.size,0,none⟩) 1 1);have aN:Lies (fun b=>x.heap.size<=b/\b<(c.setCell ⟨g.heap.size,3,none⟩ (.slice (some ⟨c.heap.size,0,none⟩) 1 1)).heap.size) (c.setCell ⟨g.heap.size,3,none⟩ (.slice (some ⟨c.heap.size,0,none⟩) 1 1)) (number ts e.next).1 (.agg #[.int .i64 z,.string m,.int .i64 B,.slice E n y]):=an.frP (x:=g.heap.size) aM (fun b d=>⟨d.2,oA⟩) (fun b d=>⟨d.1,by rw[jR];exact d.2⟩);have aG:=(aF.set (N:=g.heap.size) oA 3 (.slice (some ⟨c.heap.size,0,none⟩) 1 1)).alloc (.cells #[.int .i64 z,.string m,.int .i64 B,.slice E n y] 25);have ae:Fr r w _:=(((a2.trans ((Fr.al _ _).trans i)).trans D).setNew (N:=g.heap.size) (o:=3) oA (.slice (some ⟨c.heap.size,0,none⟩) 1 1)).alloc (.cells #[.int .i64 z,.string m,.int .i64 B,.slice E n y] 25);have aK:=(a5.set3 (.slice (some ⟨c.heap.size,0,none⟩) 1 1)).alloc (.cells #[.int .i64 z,.string m,.int .i64 B,.slice E n y] 25);have aJ:=(aI.other (M:=g.heap.size) (o:=3) oA (.slice (some ⟨c.heap.size,0,none⟩) 1 1)).alloc (.cells #[.int .i64 z,.string m,.int .i64 B,.slice E n y] 25);have b7:=aN.rowed (T:=25) (k:=3) (x:=C) (m:=l) (c:=1) (M:=c.heap.size) (by rw[jR];exact aW) oC;go_wp2_with (fail);refine(uP aG ⟨#[93]⟩ oD oC).mono ?_;rintro h bA ⟨bF,⟨am,rfl,t⟩|⟨am,rfl,aH,t⟩⟩;·go_wp2;exact zo9
    have aX:=t.size;simp only[jP,jR]at aX;obtain⟨bc,be,bf,bg,_,_,_,_⟩:=aK.fr t oA;go_wp2_with (fail);refine(gS aH _ _ _ _ _ _).mono ?_;rintro h aU (⟨S,rfl,j⟩|⟨S,rfl,a8,j⟩);·go_wp2;exact⟨rfl,kG.lost (by simp only[L.out]) S ((ae.trans t).trans j)⟩
    obtain⟨aa,ab,ac,ad,ax,ay,az,aA⟩:=(aJ.fr t oA).fr j oA;go_wp2;exact jU (v:=.agg #[.int .i64 3,.string C,.int .i64 l,.slice (some ⟨c.heap.size,0,none⟩) 1 1]) zeh rfl zpc
end
section
variable {w w' w0:World} {r G B:Nat} {ts:List Tok} {s:St}
theorem importsL_st {f:Nat} {d:List Tree} {b:List Tree × St} (c:s.bad=true) (a:xB ts f d s=some b):b.2=s:=by
 cases f with
 | zero=>unfold xB at a;simp at a
 | succ f =>
  unfold xB at a;rw[zJ oD c,ju oD]at a;simp only[jh]at a;rw[<- a]
theorem declsL_st {f:Nat} {d:List Tree} {b:List Tree × St} (c:s.bad=true) (a:xF ts f d s=some b):b.2=s:=by
 cases f with
 | zero=>unfold xF at a;simp at a
 | succ f =>
  unfold xF at a;rw[c]at a;simp only[Bool.true_or,if_true,jh]at a;rw[<- a]
theorem zvs (e:Ld w r G ts s) (f:(name ts s).2.bad=true):Calls Tryz.prog 123 #[.pointer (some ⟨r,0,none⟩)] w fun b w'=>b=.panicked (Pan ts (name ts s).2)/\Fr r w w' :=
 (fV e).mono fun b w' c=>by
  rcases c with⟨_,a,d⟩|⟨a,_⟩
  ·exact⟨a,d⟩
  ·rw[f]at a;cases a
theorem zkm (f:Ld w r G ts s) (g:(name ts s).2.bad=false):Calls Tryz.prog 123 #[.pointer (some ⟨r,0,none⟩)] w fun b w'=>b=.returned (.string (name ts s).1)/\Ld w' r G ts (name ts s).2/\Fr r w w' :=
 (fV f).mono fun b w' c=>by
  rcases c with⟨a,_⟩|⟨_,a,d,e⟩
  ·rw[g]at a;cases a
  ·exact⟨a,d,e⟩
theorem zts (j:Ld w r G ts s) (e f:Int) (g:ByteArray) (b:Option Addr) (n c:Nat) (k:(kE ts ⟨#[59]⟩ s).bad=true):Calls Tryz.prog 125 #[.pointer (some ⟨r,0,none⟩),.agg #[.int .i64 e,.string g,.int .i64 f,.slice b n c]] w fun d w'=>d=.panicked (Pan ts (kE ts ⟨#[59]⟩ s))/\Fr r w w' :=
 (gS j e f g b n c).mono fun d w' h=>by
  rcases h with⟨_,a,i⟩|⟨a,_⟩
  ·exact⟨a,i⟩
  ·rw[k]at a;cases a
theorem ztr (k:Ld w r G ts s) (d e:Int) (f:ByteArray) (b:Option Addr) (n c:Nat) (l:(kE ts ⟨#[59]⟩ s).bad=false):Calls Tryz.prog 125 #[.pointer (some ⟨r,0,none⟩),.agg #[.int .i64 d,.string f,.int .i64 e,.slice b n c]] w fun g w'=>g=.returned (.agg #[.int .i64 d,.string f,.int .i64 e,.slice b n c])/\Ld w' r G ts (kE ts ⟨#[59]⟩ s)/\Fr r w w' :=
 (gS k d e f b n c).mono fun g w' h=>by
  rcases h with⟨a,_⟩|⟨_,a,i,j⟩
  ·rw[l]at a;cases a
  ·exact⟨a,i,j⟩
theorem zz6 (aE:Ld w r G ts ⟨0,false⟩) {q:Tree × St} (aT:za0 ts=some q):Calls Tryz.prog 79 #[.pointer (some ⟨r,0,none⟩)] w (kG w r G ts q):=by
 have ct:=kc25;have bc:=aE.lt;have cw:=aE.len;obtain⟨bh,hi,be,bf,bg⟩:=info_parts zb9;have aX:kT r G ts 126 (dQ ts 100000):=ycy (jE _) (ycp r G ts 100000 (jE _) (jE _)).b;have bF:=Box4.new w (.int .i64 0) (.string empty) (.int .i64 0) (.slice none 0 0) 25;unfold za0 at aT;obtain⟨p,aS,ar⟩:=qP aT;obtain⟨y,aL,aW⟩:=qP ar;simp only[jh]at aW;subst aW;clear aT ar;have ao:Hid (p.2.bad=true->y.2=p.2):=fun o=>declsL_st o aL
 have ap:Hid ((gU ts).bad=true->y.2=gU ts):=fun o=>by
  have m:=importsL_st o aS;rw[ao.out (by rw[m];exact o),m]
 have aA:Hid ((name ts (kE ts ⟨#[109,111,100,117,108,101]⟩ ⟨0,false⟩)).2.bad=true->y.2=(name ts (kE ts ⟨#[109,111,100,117,108,101]⟩ ⟨0,false⟩)).2):=fun o=>by
  have m:gU ts=(name ts (kE ts ⟨#[109,111,100,117,108,101]⟩ ⟨0,false⟩)).2:=by unfold gU;exact kY oD o
  rw[ap.out (by rw[m];exact o),m]
 have aV:Hid ((kE ts ⟨#[109,111,100,117,108,101]⟩ ⟨0,false⟩).bad=true->y.2=kE ts ⟨#[109,111,100,117,108,101]⟩ ⟨0,false⟩):=fun o=>by
  have m:=fJ (ts:=ts) o;rw[aA.out (by rw[m];exact o),m]
 have HP:Hid (xB ts 4000 [] (gU ts)=some p):=aS;have aU:Hid (xF ts 4000 p.1 p.2=some y):=aL;clear aS aL;have b1:=uP (T:=9) (aE.alloc (.cells #[.int .i64 0,.string empty,.int .i64 0,.slice none 0 0] 25)) ⟨#[109,111,100,117,108,101]⟩ oD (M:=w.heap.size+1) oC;unfold za6;unfold gU at HP ap;generalize kE ts ⟨#[109,111,100,117,108,101]⟩ ⟨0,false⟩=d at *;have b0:=fun (w:World) (a7:Ld w r G ts d)=>fV a7
 generalize name ts d=c9 at *;obtain⟨aj,cz⟩:=c9;simp only at *;go_enter Tryz.func79,Tryz.ntmps79;go_wp2_with (fail);refine b1.mono ?_;rintro f d2 ⟨d4,⟨P,rfl,K⟩|⟨P,rfl,bK,K⟩⟩;·go_wp2;exact⟨rfl,kG.lost (aV.out P) P ((Fr.al _ _).trans K)⟩
 go_wp2_with (fail);refine(b0 _ bK).mono ?_;rintro f g (⟨aJ,rfl,W⟩|⟨aJ,rfl,bM,W⟩);·go_wp2;exact⟨rfl,kG.lost (aA.out aJ) aJ (((Fr.al _ _).trans K).trans W)⟩
 go_wp2_with (fail);refine(uP (bM.alloc _) ⟨#[59]⟩ oD oC).mono ?_;rintro f ci ⟨d5,⟨aK,rfl,a2⟩|⟨aK,rfl,bN,a2⟩⟩;·go_wp2;exact⟨rfl,kG.lost (ap.out aK) aK ((((Fr.al _ _).trans K).trans W).trans ((Fr.al _ _).trans a2))⟩
 have ck:=K.size;have d6:=W.size;have cm:=a2.size;simp only[jP]at ck cm;have bG:Fr r w ci:=(((Fr.al _ _).trans K).trans W).trans ((Fr.al _ _).trans a2);have bR:=(Box4.new g (.int .i64 1) (.string aj) (.int .i64 0) (.slice none 0 0) 25).fr a2 oA;have bX:=(((bF.fr K oA).fr W oA).alloc (.cells #[.int .i64 1,.string aj,.int .i64 0,.slice none 0 0] 25)).fr a2 oA;clear ap aA aV b1 b0;go_wp2
 go_loopg [] 4000 (fun x wr=>∃(e:List Tree) (d:St) (S:Value),Hid (xB ts x e d=some p)/\e.length+x<=4000/\KO w (g.heap.size+1) r G ts wr d S e/\Box4 wr g.heap.size (.int .i64 1) (.string aj) (.int .i64 0) S/\Box4 wr w.heap.size (.int .i64 0) (.string empty) (.int .i64 0) (.slice none 0 0))
 case atStart=>exact⟨[],_,.slice none 0 0,HP.out,oC,⟨bN,bc,oA,bG,Kids.nil _ _ _⟩,bR,bX⟩
 case round =>
  obtain⟨e,d,S,D,c6,a,P,aH⟩:=hrel;clear HP;obtain⟨k,l,rfl⟩:=a.kids.shape
  cases gk with
  | zero=>have:=D.out;unfold xB at this;simp at this
  | succ x =>
   have j:=D.out;clear D;unfold xB at j;cases ae:eqS (txt ts d) ⟨#[105,109,112,111,114,116]⟩
   case false =>
    rw[ae,ju oD]at j;simp only[jh]at j;subst j;go_wp2_with (fail);refine(yO a.ld ⟨#[105,109,112,111,114,116]⟩ oD ae rfl).mono ?_;rintro f d3 ⟨rfl,aZ,au⟩;have aY:=a.step aZ au;have b7:=P.fr au oA;have b6:=aH.fr au oA;clear ao a P aH ae;go_wp2
    go_loopg [] 4000 (fun x wr=>∃(e:List Tree) (d:St) (S:Value),Hid (xF ts x e d=some y)/\e.length+x<=8000/\KO w (g.heap.size+1) r G ts wr d S e/\Box4 wr g.heap.size (.int .i64 1) (.string aj) (.int .i64 0) S/\Box4 wr w.heap.size (.int .i64 0) (.string empty) (.int .i64 0) (.slice none 0 0))
    case atStart=>exact⟨e,d,_,aU.out,oA,aY,b7,b6⟩
    case round =>
     clear aU aY b7 b6 aZ au;obtain⟨e,d,S,D,c6,n,z,aw⟩:=hrel;obtain⟨k,l,rfl⟩:=n.kids.shape;obtain⟨s,c8⟩:∃s,s=wr:=⟨_,rfl⟩
     obtain rfl:=c8;obtain⟨al,cu,bC,cv,ar⟩:=n.ld.c0
     cases gk with
     | zero=>have:=D.out;unfold xF at this;simp at this
     | succ x =>
      have j:=D.out;clear D;unfold xF at j;rw[n.ld.ok]at j;by_cases ay:ts.length<=d.i;·rw[decide_eq_true ay]at j;simp only[Bool.or_true,if_true,jh]at j;subst j;have ba:ts.length - d.i=0:=oA;rw[ba]at bC;obtain⟨bi,bj,bm,bn,_,_,_,_⟩:=id z;obtain⟨ce,cf,cg,ch,cH,cL,cR,d0⟩:=id aw;go_wp2;exact jU (v:=.agg #[.int .i64 1,.string aj,.int .i64 0,.slice k e.length l]) (by simp[results,Tryz.results79,go_sem,ce,cf,cg,ch]) rfl (kG.kids bc n (jE _) oA oA)
      ·rw[decide_eq_false ay]at j;simp only[Bool.or_false,jr,if_false]at j;obtain⟨C,aB,bb⟩:=qP j;have V:Hid (xF ts x (e++[C.1]) C.2=some y):=bb;clear j bb;obtain rfl:=ar oA;have ba:0<ts.length - d.i:=oA;have cx:ts.length - d.i<=3000:=oA;generalize ts.length - d.i=cy at *;obtain⟨bi,bj,bm,bn,_,_,_,_⟩:=id z;by_cases ax:C.2.bad=true
       ·have HS:Hid (y.2=C.2):=declsL_st ax V.out;go_wp2;refine wp_region_any oB ?_;change wpAny _ _ _ _ _ _ _ (World.drew _);refine tkQ 0 (.pointer (some ⟨g.heap.size,3,none⟩)) ?_;refine tkQ 2 (.pointer (some ⟨r,0,none⟩)) ?_;refine wpAny_ready (rs:=[1,3]) oB oC ?_;refine AllReady.cons rfl (fun c a=>?_) (AllReady.cons rfl (fun c a=>?_) AllReady.nil)
        focus
         go_simp;refine a _ _ ?_;clear a c;refine one0 3 fun c a=>?_
        all_goals
         go_simp;go_at_call 126;refine(aX.lost (n.ld.drewN 1) aB ax).mono ?_;rintro f am ⟨rfl,L⟩;go_wp2;exact⟨rfl,kG.lost HS.out ax ((n.fr.drewN 1).trans L)⟩
       have bS:C.2.bad=false:=by simpa using ax
       go_wp2;refine wp_region_any oB ?_;change wpAny _ _ _ _ _ _ _ (World.drew _);refine tkQ 0 (.pointer (some ⟨g.heap.size,3,none⟩)) ?_;refine tkQ 2 (.pointer (some ⟨r,0,none⟩)) ?_;refine wpAny_ready (rs:=[1,3]) oB oC ?_;refine AllReady.cons rfl (fun c a=>?_) (AllReady.cons rfl (fun c a=>?_) AllReady.nil)
       focus
        go_simp;refine a _ _ ?_;clear a c;refine one0 3 fun c a=>?_
       all_goals
        go_simp;go_at_call 126;refine(aX.fine (n.ld.drewN 1) aB bS).mono ?_;rintro f h ⟨d1,rfl,b9,aG,a8⟩;obtain⟨ag,an,ah,_,rfl,a5,ai,a6,rfl⟩:=b9.shape;have B:Fr r s h:=((Fr.refl r s).drewN 1).trans a8;have aN:∀u,(Value.slice k e.length l).ownBlock=some u->g.heap.size+1<=u/\u<s.heap.size:=fun u aM=>n.kids.blk aM
        have a9:=n.step aG B;have cr:=B.size;have cp:=z.lt;have Q:=z.fr B oA;have ab:=aw.fr B oA;have cn:g.heap.size<h.heap.size:=Q.lt;have co:w.heap.size<h.heap.size:=ab.lt;obtain⟨ak,af,aa⟩:=a9.kids;have az:Hid (zG (fun b=>g.heap.size+1<=b/\b<h.heap.size/\some b≠(Value.slice k e.length l).ownBlock) h e ak):=aa;obtain⟨bw,bz,bA,bB,_,_,_,_⟩:=id Q;have c7:e.length<=8000:=oA;clear aa
        have aO:Lies (fun b=>g.heap.size+1<=b/\b<h.heap.size/\some b≠(Value.slice k e.length l).ownBlock) h C.1 (.agg #[.int .i64 ag,.string an,.int .i64 ah,.slice a5 ai a6]) :=
         b9.to (fun b o=>by
          have aB:s.heap.size<=b:=o.1
          exact⟨oA,o.2,fun f=>by have:=(aN b f.symm).2;omega⟩) (fun _ _ _=>rfl)
        go_wp2
       focus
        refine one0 4 fun c a=>?_
        go_simp;refine a _ _ ?_;clear a c
       rotate_left
       focus
        refine wpAny_ready (rs:=[1,4]) oB oC ?_;refine AllReady.cons rfl (fun c a=>?_) (AllReady.cons rfl (fun c a=>?_) AllReady.nil)
        all_goals
         go_simp;refine a _ _ ?_;clear a c
        focus
         refine one0 4 fun c a=>?_
         go_simp;refine a _ _ ?_;clear a c
        rotate_left
        focus
         refine one0 1 fun c a=>?_
         go_simp;refine a _ _ ?_;clear a c
       all_goals
        refine one0 5 fun c a=>?_
        refine step_append_lies _ oG (.tmp 33) (.tmp 36) 23 oG (g.heap.size+1) 25 bh (.agg #[.int .i64 0,.string ⟨#[]⟩,.int .i64 0,.slice none 0 0]) 4 56 Tryz.underlying23 hi be bf bg rfl oD (.slice k e.length l) e.length (uX ak) rfl (af.alloc _) ⟨h.heap.size,0,none⟩ 1 1 [.int .i64 ag,.string an,.int .i64 ah,.slice a5 ai a6] rfl rfl (zah _ _ _ _ _ _ _ rfl) oI oA (by unfold maxLen;omega) oA oE (h.heap.size+1) oC ?_;intro u bo cj aR R b2 ay;refine a _ _ ?_;clear a c;have aD:=KO.pushed (q:=(.int .i64 ag,.string an,.int .i64 ah,.slice a5 ai a6)) (t:=C.1) a9 af az.out aO aR R zpd;have aP:(Value.slice k e.length l).ownBlock≠some g.heap.size:=fun f=>zei
        have aQ:(Value.slice k e.length l).ownBlock≠some w.heap.size:=fun f=>zei
        have ac:=(Q.alloc (.cells #[.int .i64 ag,.string an,.int .i64 ah,.slice a5 ai a6] 25)).grown R aP;have aI:=(ab.alloc (.cells #[.int .i64 ag,.string an,.int .i64 ah,.slice a5 ai a6] 25)).grown R aQ;obtain⟨bu,m,E,bv,bp,bq,br,bs⟩:=id ac;refine one0 6 fun c a=>?_
        go_simp;refine a _ _ ?_;clear a c;refine one0 7 fun c a=>?_
        go_simp;refine a _ _ ?_;clear a c;refine wpAny_done oB ?_ _;go_wp2
        go_roundg x
        case rel=>exact⟨e++[C.1],C.2,_,V.out,oQ,aD.set oA oA 3 _,ac.set3 _,aI.other oA _⟩
        case measure=>omega
   case true =>
    rw[ae,jv rfl]at j;have V:Hid (xB ts x (e++[.node 2 (name ts d.next).1 0 []]) (kE ts ⟨#[59]⟩ (name ts d.next).2)=some p):=j;clear j;go_wp2_with (fail);refine(yX a.ld ⟨#[105,109,112,111,114,116]⟩ oD ae rfl).mono ?_;rintro f s ⟨rfl,av,aC⟩;have n:=a.step av aC;have z:=P.fr aC oA;have aw:=aH.fr aC oA;obtain⟨bi,bj,bm,bn,_,_,_,_⟩:=id z;by_cases a3:(name ts d.next).2.bad=true
    ·have HS:Hid (y.2=(name ts d.next).2):=by
      have m:kE ts ⟨#[59]⟩ (name ts d.next).2=(name ts d.next).2:=kY oD a3;have E:=importsL_st (by rw[m];exact a3) V.out;show _=_;rw[ao.out (by rw[E,m];exact a3),E,m]
     go_wp2;refine wp_region_any oB ?_;change wpAny _ _ _ _ _ _ _ (World.drew _);refine tkQ 0 (.pointer (some ⟨g.heap.size,3,none⟩)) ?_;refine tkQ 2 (.pointer (some ⟨r,0,none⟩)) ?_;refine tkQ 3 (.pointer (some ⟨r,0,none⟩)) ?_;refine wpAny_ready (rs:=[1,4]) oB oC ?_;refine AllReady.cons rfl (fun c a=>?_) (AllReady.cons rfl (fun c a=>?_) AllReady.nil)
     focus
      go_simp;refine a _ _ ?_;clear a c;refine one0 4 fun c a=>?_
     all_goals
      go_simp;go_at_call 123;refine(zvs (av.drewN 1) a3).mono ?_;rintro f am ⟨rfl,L⟩;go_wp2;exact⟨rfl,kG.lost HS.out a3 ((n.fr.drewN 1).trans L)⟩
    have b8:(name ts d.next).2.bad=false:=by simpa using a3
    by_cases ad:(kE ts ⟨#[59]⟩ (name ts d.next).2).bad=true
    ·have HS:Hid (y.2=kE ts ⟨#[59]⟩ (name ts d.next).2):=by
      have E:=importsL_st ad V.out;show _=_;rw[ao.out (by rw[E];exact ad),E]
     go_wp2;refine wp_region_any oB ?_;change wpAny _ _ _ _ _ _ _ (World.drew _);refine tkQ 0 (.pointer (some ⟨g.heap.size,3,none⟩)) ?_;refine tkQ 2 (.pointer (some ⟨r,0,none⟩)) ?_;refine tkQ 3 (.pointer (some ⟨r,0,none⟩)) ?_;refine wpAny_ready (rs:=[1,4]) oB oC ?_;refine AllReady.cons rfl (fun c a=>?_) (AllReady.cons rfl (fun c a=>?_) AllReady.nil)
     focus
      go_simp;refine a _ _ ?_;clear a c;refine one0 4 fun c a=>?_
     all_goals
      go_simp;go_at_call 123;refine(zkm (av.drewN 1) b8).mono ?_;rintro f am ⟨rfl,aF,L⟩;have N:Fr r s am:=((Fr.refl r s).drewN 1).trans L;have cq:=N.size;obtain⟨ca,cb,cc,cd,_,_,_,_⟩:=z.fr N oA;go_wp2;refine tkQ 5 (.agg #[.int .i64 2,.string (name ts d.next).1,.int .i64 0,.slice none 0 0] ) ?_
     focus
      refine one0 6 fun c a=>?_
     rotate_left
     focus
      refine wpAny_ready (rs:=[1,6]) oB oC ?_;refine AllReady.cons rfl (fun c a=>?_) (AllReady.cons rfl (fun c a=>?_) AllReady.nil)
      focus
       go_simp;refine a _ _ ?_;clear a c;refine one0 6 fun c a=>?_
     all_goals
      go_simp;go_at_call 125;refine(zts aF 2 0 _ none 0 0 ad).mono ?_;rintro f h ⟨rfl,a8⟩;go_wp2;exact⟨rfl,kG.lost HS.out ad (n.fr.trans (N.trans a8))⟩
    have bP:(kE ts ⟨#[59]⟩ (name ts d.next).2).bad=false:=by simpa using ad
    go_wp2;refine wp_region_any oB ?_;change wpAny _ _ _ _ _ _ _ (World.drew _);refine tkQ 0 (.pointer (some ⟨g.heap.size,3,none⟩)) ?_;refine tkQ 2 (.pointer (some ⟨r,0,none⟩)) ?_;refine tkQ 3 (.pointer (some ⟨r,0,none⟩)) ?_;refine wpAny_ready (rs:=[1,4]) oB oC ?_;refine AllReady.cons rfl (fun c a=>?_) (AllReady.cons rfl (fun c a=>?_) AllReady.nil)
    focus
     go_simp;refine a _ _ ?_;clear a c;refine one0 4 fun c a=>?_
    all_goals
     go_simp;go_at_call 123;refine(zkm (av.drewN 1) b8).mono ?_;rintro f am ⟨rfl,aF,L⟩;have N:Fr r s am:=((Fr.refl r s).drewN 1).trans L;have cq:=N.size;obtain⟨ca,cb,cc,cd,_,_,_,_⟩:=z.fr N oA;go_wp2;refine tkQ 5 (.agg #[.int .i64 2,.string (name ts d.next).1,.int .i64 0,.slice none 0 0] ) ?_
    focus
     refine one0 6 fun c a=>?_
    rotate_left
    focus
     refine wpAny_ready (rs:=[1,6]) oB oC ?_;refine AllReady.cons rfl (fun c a=>?_) (AllReady.cons rfl (fun c a=>?_) AllReady.nil)
     focus
      go_simp;refine a _ _ ?_;clear a c;refine one0 6 fun c a=>?_
     rotate_left
    all_goals
     go_simp;go_at_call 125;refine(ztr aF 2 0 _ none 0 0 bP).mono ?_;rintro f h ⟨rfl,aG,a8⟩;have B:Fr r s h:=N.trans a8;have aN:∀u,(Value.slice k e.length l).ownBlock=some u->g.heap.size+1<=u/\u<s.heap.size:=fun u aM=>n.kids.blk aM
     have a9:=n.step aG B;have cr:=B.size;have cp:=z.lt;have Q:=z.fr B oA;have ab:=aw.fr B oA;have cn:g.heap.size<h.heap.size:=Q.lt;have co:w.heap.size<h.heap.size:=ab.lt;obtain⟨ak,af,aa⟩:=a9.kids;have az:Hid (zG (fun b=>g.heap.size+1<=b/\b<h.heap.size/\some b≠(Value.slice k e.length l).ownBlock) h e ak):=aa;obtain⟨bw,bz,bA,bB,_,_,_,_⟩:=id Q;have c7:e.length<=8000:=oA;clear aa;have aO:Lies (fun b=>g.heap.size+1<=b/\b<h.heap.size/\some b≠(Value.slice k e.length l).ownBlock) h (.node 2 (name ts d.next).1 0 []) (.agg #[.int .i64 2,.string (name ts d.next).1,.int .i64 0,.slice none 0 0]):=Lies.leaf _ _ _ _ _;go_wp2
    focus
     refine wpAny_ready (rs:=[1,7]) oB oC ?_;refine AllReady.cons rfl (fun c a=>?_) (AllReady.cons rfl (fun c a=>?_) AllReady.nil)
     all_goals
      go_simp;refine a _ _ ?_;clear a c
     rotate_left
     focus
      refine one0 1 fun c a=>?_
      go_simp;refine a _ _ ?_;clear a c
    rotate_left
    iterate 3
     focus
      refine one0 7 fun c a=>?_
      go_simp;refine a _ _ ?_;clear a c
     rotate_left
    all_goals
     refine one0 8 fun c a=>?_
     refine step_append_lies _ oG (.tmp 17) (.tmp 23) 23 oG (g.heap.size+1) 25 bh (.agg #[.int .i64 0,.string ⟨#[]⟩,.int .i64 0,.slice none 0 0]) 4 56 Tryz.underlying23 hi be bf bg rfl oD (.slice k e.length l) e.length (uX ak) rfl (af.alloc _) ⟨h.heap.size,0,none⟩ 1 1 [.int .i64 2,.string (name ts d.next).1,.int .i64 0,.slice none 0 0] rfl rfl (zah _ _ _ _ _ _ _ rfl) oI oA (by unfold maxLen;omega) oA oE (h.heap.size+1) oC ?_;intro u bo cj aR R b2 ay;refine a _ _ ?_;clear a c;have aD:=KO.pushed (q:=(.int .i64 2,.string (name ts d.next).1,.int .i64 0,.slice none 0 0)) (t:=Tree.node 2 (name ts d.next).1 0 [] ) a9 af az.out aO aR R zpd;have aP:(Value.slice k e.length l).ownBlock≠some g.heap.size:=fun f=>zei
     have aQ:(Value.slice k e.length l).ownBlock≠some w.heap.size:=fun f=>zei
     have ac:=(Q.alloc (.cells #[.int .i64 2,.string (name ts d.next).1,.int .i64 0,.slice none 0 0] 25)).grown R aP;have aI:=(ab.alloc (.cells #[.int .i64 2,.string (name ts d.next).1,.int .i64 0,.slice none 0 0] 25)).grown R aQ;obtain⟨bu,m,E,bv,bp,bq,br,bs⟩:=id ac;refine one0 9 fun c a=>?_
     go_simp;refine a _ _ ?_;clear a c;refine one0 10 fun c a=>?_
     go_simp;refine a _ _ ?_;clear a c;refine wpAny_done oB ?_ _;go_wp2
     go_roundg x
     case rel=>exact⟨e++[Tree.node 2 (name ts d.next).1 0 [] ],kE ts ⟨#[59]⟩ (name ts d.next).2,_,V.out,oQ,aD.set oA oA 3 _,ac.set3 _,aI.other oA _⟩
     case measure=>omega
end
section
variable {w w' w0:World} {r G B:Nat} {ts:List Tok} {s:St}
variable {a:Nat}
theorem zbm {b:Program} {c:Exit->Act->List Frame->World->Prop} {d:Act} {e cs':List Frame} {w:World} {g:Code} {v:Value} {h:TypeId} {f:String} (i:recoverD e=some (v,cs')) (j:g.wpS b c (d.put (some a) v) cs' w) : ((Code.region 0 #[{ dst:=some a,op:=Op.call { callee:=Callee.builtin Builtin.recover,args:=#[],argTypes:=#[] },type:=h,pos:=f,after:=#[],guard:=none }] false).seq g).wpS b c d e w:=by
 apply wpS_seq;apply wpS_region;simp[wpOpsS,go_sem,i,Exit.thenS];exact j
theorem zc0 {c:Program} {d:Exit->Act->List Frame->World->Prop} {e:Act} {b:List Frame} {w:World} {g:Code} {h:TypeId} {f:String} (i:recoverD b=none) (j:g.wpS c d (e.put (some a) .nilIface) b w) : ((Code.region 0 #[{ dst:=some a,op:=Op.call { callee:=Callee.builtin Builtin.recover,args:=#[],argTypes:=#[] },type:=h,pos:=f,after:=#[],guard:=none }] false).seq g).wpS c d e b w:=by
 apply wpS_seq;apply wpS_region;simp[wpOpsS,go_sem,i,Exit.thenS];exact j
theorem catch_idle (e a:Addr) (w:World) : CallsD Tryz.prog 78 #[.pointer (some e),.pointer (some a)] .returning w fun a f w'=>a=.returned (.tuple #[])/\f=.returning/\w'=w:=by
 have i:∀w:World,(binOp BinOp.eql 20 .nilIface .nilIface).run Tryz.prog w=.ok (.bool true) w:=fun _=>oB
 refine callsD_of_wpS Tryz.func78 rfl fun h g c=>?_
 refine zc0 (by simp[recoverD,c]) ?_;simp only[Tryz.ntmps78,List.size_toArray,jd,je,Nat.reduceAdd,Nat.reduceSub,Array.replicate_succ,Array.replicate_zero,List.push_toArray,List.append_toArray,js,jL,Act.put,List.setIfInBounds_toArray,List.set_cons_succ,List.set_cons_zero];refine wpS_of_wp (wp_mono (Q:=fun a b w'=>a=.normal/\b.defers=[]/\w'=w) ?_ ?_);·go_wp2
 ·rintro a b w' ⟨rfl,d,rfl⟩;exact⟨d,_,rfl,.tuple #[],by simp[results,Tryz.results78],rfl,c,rfl⟩
theorem zsm (a c:Nat) (at_:Int) (w:World) (p:w.cell? ⟨a,0,none⟩=some (.int .i64 0)) (f:w.cell? ⟨a,1,none⟩=some (.int .i64 0)) (m:w.frozen? ⟨a,0,none⟩=false) (n:w.frozen? ⟨a,1,none⟩=false) (t:a<w.heap.size) : CallsD Tryz.prog 78 #[.pointer (some ⟨a,0,none⟩),.pointer (some ⟨c,0,none⟩)] (.panicking [{ v:=.iface 151 (.agg #[.int .i64 at_]),recovered:=false }]) w fun b h w'=>b=.returned (.tuple #[])/\h=.panicking [{ v:=.iface 151 (.agg #[.int .i64 at_]),recovered:=true }]/\w'.cell? ⟨a,0,none⟩=some (.int .i64 2)/\w'.cell? ⟨a,1,none⟩=some (.int .i64 at_)/\Fr a w w':=by
 have l:=kc151;have k:=kc28;have u:∀w:World,(binOp BinOp.eql 20 (.iface 151 (.agg #[.int .i64 at_])) .nilIface).run Tryz.prog w=.ok (.bool false) w:=fun _=>oB
 have x:∀w:World,(Instr.typeAssert (.iface 151 (.agg #[.int .i64 at_])) 20 151 true).run Tryz.prog w=.ok (.tuple #[.agg #[.int .i64 at_],.bool true]) w:=fun _=>oB
 refine callsD_of_wpS Tryz.func78 rfl fun e d g=>?_
 refine zbm (v:=.iface 151 (.agg #[.int .i64 at_])) (cs':={ e with mode:=.panicking [{ v:=.iface 151 (.agg #[.int .i64 at_]),recovered:=true }] } :: d) (by simp[recoverD,g]) ?_;exact zo4
theorem zs1 (a c:Nat) (at_:Int) (w:World) (z:w.cell? ⟨c,0,none⟩=some (.int .i64 at_)) (B:c<w.heap.size) (p:w.cell? ⟨a,0,none⟩=some (.int .i64 0)) (f:w.cell? ⟨a,1,none⟩=some (.int .i64 0)) (m:w.frozen? ⟨a,0,none⟩=false) (n:w.frozen? ⟨a,1,none⟩=false) (t:a<w.heap.size) : CallsD Tryz.prog 78 #[.pointer (some ⟨a,0,none⟩),.pointer (some ⟨c,0,none⟩)] (.panicking [{ v:=.iface 152 (.agg #[]),recovered:=false }]) w fun b h w'=>b=.returned (.tuple #[])/\h=.panicking [{ v:=.iface 152 (.agg #[]),recovered:=true }]/\w'.cell? ⟨a,0,none⟩=some (.int .i64 2)/\w'.cell? ⟨a,1,none⟩=some (.int .i64 at_)/\Fr a w w':=by
 have l:=kc151;have k:=kc28;have u:∀w:World,(binOp BinOp.eql 20 (.iface 152 (.agg #[])) .nilIface).run Tryz.prog w=.ok (.bool false) w:=fun _=>oB
 have x:∀w:World,(Instr.typeAssert (.iface 152 (.agg #[])) 20 151 true).run Tryz.prog w=.ok (.tuple #[.agg #[.int .i64 0],.bool false]) w:=fun _=>oB
 have C:∀w:World,(Instr.typeAssert (.iface 152 (.agg #[])) 20 152 true).run Tryz.prog w=.ok (.tuple #[.agg #[],.bool true]) w:=fun _=>oB
 have y:=kc152;refine callsD_of_wpS Tryz.func78 rfl fun e d g=>?_
 refine zbm (v:=.iface 152 (.agg #[])) (cs':={ e with mode:=.panicking [{ v:=.iface 152 (.agg #[]),recovered:=true }] } :: d) (by simp[recoverD,g]) ?_;exact zo4
theorem Ld.new {L:Value} {T:TypeId} (d:w.ownsRow a 110 3 L ts.length (lexs.cellsOf ts)) (n:ts.length<=3000) (l:∀p∈ts,Fine p) (i:dH w):∃G,Ld (w.alloc (.cells #[L] T)) w.heap.size G ts ⟨0,false⟩:=by
 have o:3<w.heap.size:=by
  obtain⟨y,p,fr,h,_⟩:=i;rcases jM 3 w.heap.size with b | b
  ·exact b
  ·rw[Array.getElem?_eq_none b]at h;simp at h
 have j:dH (w.alloc (.cells #[L] T)):=zcz i (bal _);have u:=d.alloc (.cells #[L] T);obtain⟨q,e,rfl,B,s⟩:=own_shape d
 have k:ts.length<=e:=by
  rcases d.2 with⟨f,r⟩|⟨c,x,z,f,_,_,r,_⟩
  ·omega
  ·injection f with _ _ e3;omega
 rcases Nat.eq_zero_or_pos ts.length with g | g
 ·refine⟨0,⟨q,e,oC,by simpa using k,fun b=>by dsimp only at b;omega⟩,oC,fun v m=>oA,oA,n,jz _,l,rfl,j,o⟩
 ·obtain⟨c,rfl⟩:=s g;have t:=d.lt c rfl;refine⟨c,⟨some ⟨c,0,none⟩,e,oC,by simpa using k,fun b=>oC⟩,oC,fun v m=>?_,t.2,n,jz _,l,rfl,j,o⟩;exact lexs.tok_cells u m
def dN (w:World) (n:Nat) (ts:List Tok) (q:Tree × St) (e:Ending) (w':World):Prop :=
 ∃v,e=.returned (.tuple #[v,.agg #[.int .i64 (if q.2.bad then 2 else 0),.int .i64 (if q.2.bad then dJ ts n q.2 else 0)]])/\Lies (fun b=>w.heap.size<=b/\b<w'.heap.size) w' (if q.2.bad then cS else q.1) v/\Below w.heap.size w w'
theorem dN.bad {n:Nat} {q:Tree × St} (b:q.2.bad=true) (a:Below w.heap.size w w'):dN w n ts q (.returned (.tuple #[.agg #[.int .i64 0,.string empty,.int .i64 0,.slice none 0 0],.agg #[.int .i64 2,.int .i64 (dJ ts n q.2)]])) w':=by
 unfold dN;rw[b];exact⟨_,rfl,Lies.leaf _ _ _ _ _,a⟩
theorem dN.good {n:Nat} {q:Tree × St} {v:Value} (c:q.2.bad=false) (d:Lies (fun b=>w.heap.size<=b/\b<w'.heap.size) w' q.1 v) (a:Below w.heap.size w w'):dN w n ts q (.returned (.tuple #[v,.agg #[.int .i64 0,.int .i64 0]])) w':=by
 unfold dN;rw[c];exact⟨_,rfl,d,a⟩
theorem yc4 {y:Value} {ae n:Nat} (a7:w.ownsRow ae 110 3 y ts.length (lexs.cellsOf ts)) (ar:ts.length<=3000) (ao:∀ac∈ts,Fine ac) (am:dH w) {q:Tree × St} (av:za0 ts=some q) : Calls Tryz.prog 39 #[y,.int .i64 n] w (dN w n ts q):=by
 have aB:=kc25;have aC:=kc28;have aD:=kc154;have aG:∀(a5:Fn) (first a2:Array Value) (w:World),(Instr.makeFunc a5 first a2).run Tryz.prog w=.ok (.func a5 first a2) w:=fun _ _ _ _=>rfl
 obtain⟨u,E⟩:∃u,u=((w.alloc (.cells #[.int .i64 n] 3)).alloc (.cells #[.int .i64 0,.string empty,.int .i64 0,.slice none 0 0] 25)).alloc (.cells #[.int .i64 0,.int .i64 0] 28):=⟨_,rfl⟩
 have ax:u.heap.size=w.heap.size+3:=by rw[E];simp
 have an:Below w.heap.size w u:=by rw[E];exact((bal _).alloc oC _).alloc oE _
 obtain⟨G,D⟩:=Ld.new (w:=u) (L:=y) (T:=154) (by rw[E];exact((a7.alloc _).alloc _).alloc _) ar ao (zcz am an);have s:=zz6 D av;rw[ax]at s D;obtain⟨c,L,rfl,aF,_⟩:=own_shape a7;rw[E]at s D;go_enter_defers Tryz.func39,Tryz.ntmps39;obtain⟨g,j⟩:∃g,g=(((w.alloc (.cells #[.int .i64 n] 3)).alloc (.cells #[.int .i64 0,.string empty,.int .i64 0,.slice none 0 0] 25)).alloc (.cells #[.int .i64 0,.int .i64 0] 28)).alloc (.cells #[.slice c ts.length L] 154):=⟨_,rfl⟩
 rw[<- j]at s D;have aH:g.heap.size=w.heap.size+4:=by rw[j];simp
 have e:Below w.heap.size w g:=by rw[j];exact(((bal _).alloc oC _).alloc oE _).alloc oE _
 have aA:g.cell? ⟨w.heap.size,0,none⟩=some (.int .i64 n):=by
  have ag:(w.alloc (.cells #[.int .i64 n] 3)).cell? ⟨w.heap.size,0,none⟩=some (.int .i64 n):=oC;rw[j];exact((((Below.refl (w.alloc (.cells #[.int .i64 n] 3)).heap.size (w.alloc (.cells #[.int .i64 n] 3))).alloc (jE _) _).alloc oC _).alloc oC _).cell (p:=⟨w.heap.size,0,none⟩) oC |>.trans ag
 have a9:Box4 g (w.heap.size+1) (.int .i64 0) (.string empty) (.int .i64 0) (.slice none 0 0):=by
  have:=((Box4.new (w.alloc (.cells #[.int .i64 n] 3)) (.int .i64 0) (.string empty) (.int .i64 0) (.slice none 0 0) 25).alloc (.cells #[.int .i64 0,.int .i64 0] 28)).alloc (.cells #[.slice c ts.length L] 154);rw[jP]at this;rw[j];exact this
 have l:g.cell? ⟨w.heap.size+2,0,none⟩=some (.int .i64 0)/\g.cell? ⟨w.heap.size+2,1,none⟩=some (.int .i64 0)/\g.frozen? ⟨w.heap.size+2,0,none⟩=false/\g.frozen? ⟨w.heap.size+2,1,none⟩=false:=by
  have aw:((w.alloc (.cells #[.int .i64 n] 3)).alloc (.cells #[.int .i64 0,.string empty,.int .i64 0,.slice none 0 0] 25)).heap.size=w.heap.size+2:=oC;generalize (w.alloc (.cells #[.int .i64 n] 3)).alloc (.cells #[.int .i64 0,.string empty,.int .i64 0,.slice none 0 0] 25)=o at *;rw[<- aw];have d:=((Below.refl (o.alloc (.cells #[.int .i64 0,.int .i64 0] 28)).heap.size (o.alloc (.cells #[.int .i64 0,.int .i64 0] 28))).alloc (jE _) (.cells #[.slice c ts.length L] 154)).block o.heap.size oC;rw[j];refine⟨(jN (a:=⟨o.heap.size,0,none⟩) d).trans oC,(jN (a:=⟨o.heap.size,1,none⟩) d).trans oC,(jO (a:=⟨o.heap.size,0,none⟩) d).trans oC,(jO (a:=⟨o.heap.size,1,none⟩) d).trans oC⟩
 go_wp2_with (fail);rw[j]at s;refine s.mono ?_;rw[<- j];rintro z x (⟨d,rfl,a⟩|⟨d,v,rfl,a6,aE,a⟩)
 ·have az:=a.size;have h:=a.block (w.heap.size+2) oA oC;have ak:=a.block w.heap.size oA oC;have P:=a9.fr a oA;have B:=(jN (a:=⟨w.heap.size+2,0,none⟩) h).trans l.1;have C:=(jN (a:=⟨w.heap.size+2,1,none⟩) h).trans l.2.1;have M:=(jO (a:=⟨w.heap.size+2,0,none⟩) h).trans l.2.2.1;have N:=(jO (a:=⟨w.heap.size+2,1,none⟩) h).trans l.2.2.2;have aj:=(jN (a:=⟨w.heap.size,0,none⟩) ak).trans aA
  have key:CallsD Tryz.prog 78 #[.pointer (some ⟨w.heap.size+2,0,none⟩),.pointer (some ⟨w.heap.size,0,none⟩)] (.panicking (Pan ts q.2)) x fun z W w'=>z=.returned (.tuple #[])/\W=.panicking [{ v:=lost ts q.2,recovered:=true }]/\w'.cell? ⟨w.heap.size+2,0,none⟩=some (.int .i64 2)/\w'.cell? ⟨w.heap.size+2,1,none⟩=some (.int .i64 (dJ ts n q.2))/\Fr (w.heap.size+2) x w':=by
   unfold Pan lost dJ
   cases aI:ts[q.2.i]? with
   | none=>exact zs1 _ _ _ _ aj oA B C M N oA
   | some ac=>exact zsm _ _ _ _ B C M N oA
  have m:Hid (Below w.heap.size w x):=⟨a.os.trans e.os,a.tape.trans e.tape,a.output.trans e.output,jp e.size a.size,fun k t=>(a.block k oA oE).trans (e.block k t)⟩
  go_wp2;refine leaves_cons (f:=78) (args:=#[.pointer (some ⟨w.heap.size+2,0,none⟩),.pointer (some ⟨w.heap.size,0,none⟩)]) oC oR ?_;refine key.mono ?_;rintro z W ad ⟨rfl,rfl,ah,ai,r⟩;obtain⟨Q,R,S,V,_,_,_,_⟩:=P.fr r oA;have af:Hid (Below w.heap.size w ad):=⟨r.os.trans m.out.os,r.tape.trans m.out.tape,r.output.trans m.out.output,jp m.out.size r.size,fun k t=>(r.block k oA oE).trans (m.out.block k t)⟩
  refine⟨.tuple #[.agg #[.int .i64 0,.string empty,.int .i64 0,.slice none 0 0],.agg #[.int .i64 2,.int .i64 (dJ ts n q.2)]],?_,dN.bad d af.out⟩;simp[results,Tryz.results39,go_sem,Q,R,S,V,ah,ai,empty]
 ·obtain⟨a8,K,aa,_,rfl,al,ab,a3,rfl⟩:=a6.shape;have az:=a.size;have h:=a.block (w.heap.size+2) oA oC;have P:=a9.fr a oA;have B:=(jN (a:=⟨w.heap.size+2,0,none⟩) h).trans l.1;have C:=(jN (a:=⟨w.heap.size+2,1,none⟩) h).trans l.2.1;have M:=(jO (a:=⟨w.heap.size+2,0,none⟩) h).trans l.2.2.1;have N:=(jO (a:=⟨w.heap.size+2,1,none⟩) h).trans l.2.2.2;obtain⟨Q,R,S,V,aJ,aK,aL,aM⟩:=id P;have m:Hid (Below w.heap.size w x):=⟨a.os.trans e.os,a.tape.trans e.tape,a.output.trans e.output,jp e.size a.size,fun k t=>(a.block k oA oE).trans (e.block k t)⟩
  go_wp2;refine leaves_cons (f:=78) (args:=#[.pointer (some ⟨w.heap.size+2,0,none⟩),.pointer (some ⟨w.heap.size,0,none⟩)]) oC oR ?_;refine(catch_idle _ _ _).mono ?_;rintro z W ad ⟨rfl,rfl,ay⟩;subst ay;have au:=Fr.put x (w.heap.size+1) (.int .i64 a8) (.string K) (.int .i64 aa) (.slice al ab a3);have ap:=a6.frP (x:=w.heap.size+1) au (fun b d=>⟨d.2,oA⟩) (fun b d=>d);refine⟨.tuple #[.agg #[.int .i64 a8,.string K,.int .i64 aa,.slice al ab a3],.agg #[.int .i64 0,.int .i64 0]],?_,dN.good d ?_ ?_⟩;·simp[results,Tryz.results39,go_sem,Q,R,S,V,B,C]
  ·exact ap.frP (x:=w.heap.size+2) (((Fr.refl _ _).set 0 _).set 1 _) (fun b d=>⟨by simpa using d.2,oA⟩) (fun b d=>⟨oA,by simpa using d.2⟩)
  ·exact(((((m.out.setCell oC _).setCell oC _).setCell oC _).setCell oC _).setCell oE _).setCell oE _
end
end syn
namespace syn
open Go.RowKit
def zrh (w:World) (P:Nat) (o:Option Int) (e:Ending) (w':World):Prop :=
 e=.returned (.bool o.isSome)/\(∀a,o=some a->w'.cell? ⟨P,0,none⟩=some (.int .i64 a))/\w'.frozen? ⟨P,0,none⟩=false/\Fr P w w'
variable {c:Nat}
theorem zsz {a:List Tree} (f:c<a.length) (b d:Int):vS (a.drop c) b d=match uU a[c] b d with | none=>none | some e=>vS (a.drop (c+1)) b e:=by
 rw[List.drop_eq_getElem_cons f,vS]
 all_goals (cases uU a[c] b d<;>rfl)
theorem zuw {e:Tree} {b a d:Int} (f:0<=a) (g:a<=500) (h:1<=b) (i:b<=17) (c:uU e b a=some d):0<=d/\d<=500:=by
 rw[zc7 e b a f g h i]at c;have:=kU e;split at c;·simp only[jh]at c;omega
 ·simp at c
theorem ze4 {w:World} {h v:Value} {b:Obj} (e:w.cell? ⟨c,0,none⟩=some h) (f:w.frozen? ⟨c,0,none⟩=false):((w.setCell ⟨c,0,none⟩ v).alloc b).cell? ⟨c,0,none⟩=some v/\((w.setCell ⟨c,0,none⟩ v).alloc b).frozen? ⟨c,0,none⟩=false:=by
 have g:c<(w.setCell ⟨c,0,none⟩ v).heap.size:=by rw[jR];exact jS w ⟨c,0,none⟩ e
 have d:=((Below.refl (w.setCell ⟨c,0,none⟩ v).heap.size (w.setCell ⟨c,0,none⟩ v)).alloc (jE _) b).block c g;exact⟨(jN (a:=⟨c,0,none⟩) d).trans (jT _ _ _ e),(jO (a:=⟨c,0,none⟩) d).trans (by simp[f])⟩
theorem yc8 {w:World} {f:Value} (b:Obj) (e:w.cell? ⟨c,0,none⟩=some f) (g:w.frozen? ⟨c,0,none⟩=false):(w.alloc b).cell? ⟨c,0,none⟩=some f/\(w.alloc b).frozen? ⟨c,0,none⟩=false:=by
 have d:=((Below.refl w.heap.size w).alloc (jE _) b).block c (jS w ⟨c,0,none⟩ e);exact⟨(jN (a:=⟨c,0,none⟩) d).trans e,(jO (a:=⟨c,0,none⟩) d).trans g⟩
theorem zoe (E:Tree) (l:Value) (w:World) (c:Nat) (d e:Int) (aC:0<=e) (aD:e<=500) (aE:1<=d) (aF:d<=17) (s:w.cell? ⟨c,0,none⟩=some (.int .i64 e)) (z:w.frozen? ⟨c,0,none⟩=false) (B:Lies (fun b=>b<w.heap.size/\b≠c) w E l):Calls Tryz.prog 80 #[l,.int .i64 d,.pointer (some ⟨c,0,none⟩)] w (zrh w c (uU E d e)):=by
 have ay:=kc25;have aB:c<w.heap.size:=jS w ⟨c,0,none⟩ s
 match E,B with
 | .node k x m ks,B =>
  have ih:∀(a:Nat) (N:a<ks.length) (l:Value) (w:World) (e:Int),0<=e->e<=500->d+1<=17->w.cell? ⟨c,0,none⟩=some (.int .i64 e)->w.frozen? ⟨c,0,none⟩=false->Lies (fun b=>b<w.heap.size/\b≠c) w ks[a] l ->
    Calls Tryz.prog 80 #[l,.int .i64 (d+1),.pointer (some ⟨c,0,none⟩)] w (zrh w c (uU ks[a] (d+1) e)):=fun a N l w e y r o ah ai ak=>zoe ks[a] l w c (d+1) e y r oA o ah ai ak
  unfold Lies at B;obtain⟨u,K,rfl,aH,ao⟩:=B;have aA:=Box4.new w (.int .i64 k) (.string x) (.int .i64 m) (.slice u ks.length K) 25;unfold uU;by_cases ag:16<d;·rw[jv (.inl ag)];go_enter Tryz.func80,Tryz.ntmps80;go_wp2;go_ret;exact⟨rfl,fun f h=>by simp at h,(ze4 s z).2,((Fr.refl _ _).set _ _).alloc _⟩
  by_cases aj:500<e+1;·rw[jv (.inr aj)];go_enter Tryz.func80,Tryz.ntmps80;go_wp2;go_ret;exact⟨rfl,fun f h=>by simp at h,(ze4 s z).2,((Fr.refl _ _).set _ _).alloc _⟩
  rw[ju oA];obtain⟨j,M⟩:∃j,j=vS ks (d+1) (e+1):=⟨_,rfl⟩
  rw[<- M];have ad:Hid (vS (ks.drop 0) (d+1) (e+1)=j):=M.symm;clear M;have P:(ks.length:Int)<=4611686018427387904:=oA;go_enter Tryz.func80,Tryz.ntmps80;go_wp2;go_loopw [25] (fun R wr=>∃(a:Nat) (n:Int),a<=ks.length/\R=.int .i64 a/\0<=n/\n<=500/\Hid (vS (ks.drop a) (d+1) n=j)/\wr.cell? ⟨c,0,none⟩=some (.int .i64 n)/\wr.frozen? ⟨c,0,none⟩=false/\Fr c w wr/\Box4 wr w.heap.size (.int .i64 k) (.string x) (.int .i64 m) (.slice u ks.length K)) (fun R _=>ks.length - (intOf R).toNat)
  case atStart =>
   refine⟨0,e+1,jz _,rfl,oA,oA,ad.out,?_,?_,?_,?_⟩;·exact(ze4 s z).1
   ·exact(ze4 s z).2
   ·exact((Fr.refl _ _).set _ _).alloc _
   ·have:=Box4.new (w.setCell ⟨c,0,none⟩ (.int .i64 (e+1))) (.int .i64 k) (.string x) (.int .i64 m) (.slice u ks.length K) 25;rw[jR]at this;exact this
  case round =>
   obtain⟨a,n,N,rfl,a7,a8,G,W,a2,q,g⟩:=hrel;have aI:=g.lt;obtain⟨aJ,aK,aL,aM,_,_,_,_⟩:=id g;by_cases t:a<ks.length
   ·obtain⟨af,D,rfl,a6,am⟩:=ao (by intro L;rw[L]at t;simp at t);have an:=am.to (w':=wr) (Q:=fun b=>b<wr.heap.size/\b≠c) (fun b g=>⟨jo g.1 q.size,g.2⟩) (fun b g D=>jN (a:=⟨b,D,none⟩) (q.block b g.1 (by simpa using g.2))) a6;obtain⟨v,⟨x0,x1,x2,x3,rfl,av,aw,ax,az⟩,P⟩:=an.get a t;have aG:af<wr.heap.size:=jo a6.1 q.size;obtain⟨a9,ac,aa,_,C,S,ab,T,rfl⟩:=P.shape;injection C with C;simp only[Array.mk.injEq,jq,and_true]at C;obtain⟨rfl,rfl,rfl,rfl⟩:=C;have a3:=yc8 (.cells #[.int .i64 a9,.string ac,.int .i64 aa,.slice S ab T] 25) W a2;have V:=ih a t _ (wr.alloc (.cells #[.int .i64 a9,.string ac,.int .i64 aa,.slice S ab T] 25)) n a7 a8 oA a3.1 a3.2 (P.to (fun b g=>⟨oK,g.2⟩) (fun b g D=>((Below.refl wr.heap.size wr).alloc (jE _) _).cell (p:=⟨b,D,none⟩) g.1));have HS:Hid (vS (ks.drop a) (d+1) n=match uU ks[a] (d+1) n with | none=>none | some f=>vS (ks.drop (a+1)) (d+1) f):=zsz t _ _;have ae:Hid (∀f,uU ks[a] (d+1) n=some f->0<=f/\f<=500):=fun f h=>zuw a7 a8 oA oA h
    clear ih;generalize ap:uU ks[a] (d+1) n=au at *;clear ap
    cases au with
    | none =>
     have i:Hid (j=none):=by show _=_;rw[<- G.out,HS.out]
     go_wp2_with (fail);refine V.mono ?_;rintro L ar ⟨rfl,y,r,o⟩;go_wp2;go_ret
     exact⟨by rw[i.out];rfl,fun f h=>by rw[i.out]at h;simp at h,r,(q.trans (Fr.al _ _)).trans o⟩
    | some f =>
     have i:Hid (vS (ks.drop (a+1)) (d+1) f=j):=by show _=_;rw[<- G.out,HS.out]
     have a5:=ae.out f rfl;go_wp2_with (fail);refine V.mono ?_;rintro L ar ⟨rfl,y,r,o⟩;go_wp2;go_roundw
     case rel=>exact⟨a+1,f,oA,oM,a5.1,a5.2,i.out,y f rfl,r,(q.trans (Fr.al _ _)).trans o,(g.alloc _).fr o oA⟩
     case measure=>simp[intOf];omega
   ·have i:Hid (j=some n):=by
     show _=_;rw[<- G.out,List.drop_eq_nil_of_le oA,vS]
    go_wp2;go_ret
    exact⟨by rw[i.out];rfl,fun f h=>by
     rw[i.out]at h;simp only[jh]at h;rw[<- h]
     exact W,a2,q⟩
termination_by SizeOf.sizeOf E
decreasing_by exact zh4 N
theorem yb2 (i:Tree) (o:Value) (w:World) (l:Lies (·<w.heap.size) w i o) : Calls Tryz.prog 40 #[o] w fun k w'=>k=.returned (.bool (fitsT i))/\Below w.heap.size w w':=by
 have u:=kc25;obtain⟨f,h,g,_,rfl,c,n,d,rfl⟩:=l.shape;have s:=zjh i;have y:((w.alloc (.cells #[.int .i64 f,.string h,.int .i64 g,.slice c n d] 25)).alloc (.cells #[.int .i64 0] 3)).heap.size=w.heap.size+2:=oC
 have q:=zoe i (.agg #[.int .i64 f,.string h,.int .i64 g,.slice c n d]) ((w.alloc (.cells #[.int .i64 f,.string h,.int .i64 g,.slice c n d] 25)).alloc (.cells #[.int .i64 0] 3)) (w.heap.size+1) 1 0 oA oA oA oA zpe zpe
  (l.to (fun b a=>⟨oA,oA⟩) (fun b a t=>(((Below.refl w.heap.size w).alloc (jE _) _).alloc oC _).cell (p:=⟨b,t,none⟩) a))
 go_enter Tryz.func40,Tryz.ntmps40;go_wp2_with (fail);refine q.mono ?_;rintro k z ⟨rfl,v,x,e⟩;go_wp2;go_ret;refine⟨by rw[<- s];rfl,?_⟩;have a:=((Below.refl w.heap.size w).alloc (jE _) (.cells #[.int .i64 f,.string h,.int .i64 g,.slice c n d] 25)).alloc oC (.cells #[.int .i64 0] 3);exact⟨e.os.trans a.os,e.tape.trans a.tape,e.output.trans a.output,jp a.size e.size,fun m r=>(e.block m oA oE).trans (a.block m r)⟩
end syn
namespace syn
open Go.RowKit
open lexs (Tok Fine own_shape qS)
def fP (w:World) (o:Out) (e:Ending) (w':World):Prop :=
 ∃v,e=.returned (.tuple #[v,.agg #[.int .i64 o.code,.int .i64 o.place]])/\Lies (fun b=>w.heap.size<=b/\b<w'.heap.size) w' o.tree v/\Below w.heap.size w w'
def ya8 (H:World->Prop) (F:Nat) (x:ByteArray):Prop:=∀w:World,H w->Calls Tryz.prog F #[.string x] w (fP w (parse x))
def gO (w:World):Prop:=qS w/\dH w
structure Box2 (w:World) (N:Nat) (x0 x1:Value):Prop where
 c0:w.cell? ⟨N,0,none⟩=some x0
 c1:w.cell? ⟨N,1,none⟩=some x1
 f0:w.frozen? ⟨N,0,none⟩=false
 f1:w.frozen? ⟨N,1,none⟩=false
theorem Box2.new (w:World) (x0 x1:Value) (T:TypeId):Box2 (w.alloc (.cells #[x0,x1] T)) w.heap.size x0 x1:=oV
theorem Box2.lt {w:World} {N:Nat} {x0 x1:Value} (a:Box2 w N x0 x1):N<w.heap.size:=jS w ⟨N,0,none⟩ a.c0
theorem Box2.fr {w w':World} {r N:Nat} {x0 x1:Value} (b:Box2 w N x0 x1) (d:Fr r w w') (e:N≠r):Box2 w' N x0 x1:=by
 have c:=d.block N b.lt (by simpa using e);exact⟨(jN (a:=⟨N,0,none⟩) c).trans b.c0,(jN (a:=⟨N,1,none⟩) c).trans b.c1,(jO (a:=⟨N,0,none⟩) c).trans b.f0,(jO (a:=⟨N,1,none⟩) c).trans b.f1⟩
theorem Box2.below {w w':World} {N:Nat} {x0 x1:Value} (a:Box2 w N x0 x1) (b:Below w.heap.size w w'):Box2 w' N x0 x1:=a.fr (r:=N+1) (Fr.below b) oA
theorem Box2.alloc {w:World} {N:Nat} {x0 x1:Value} (b:Box2 w N x0 x1) (a:Obj):Box2 (w.alloc a) N x0 x1:=b.below (bal a)
theorem Box4.below {w w':World} {N:Nat} {x0 x1 x2 x3:Value} (a:Box4 w N x0 x1 x2 x3) (b:Below w.heap.size w w'):Box4 w' N x0 x1 x2 x3:=a.fr (r:=N+1) (Fr.below b) oA
theorem fP.none {w w':World} {a b:Int} (c:Below w.heap.size w w'):fP w ⟨cS,a,b⟩ (.returned (.tuple #[.agg #[.int .i64 0,.string empty,.int .i64 0,.slice none 0 0],.agg #[.int .i64 a,.int .i64 b]])) w' :=
 ⟨_,rfl,Lies.leaf _ _ _ _ _,c⟩
theorem below6 {w a:World} (h:Below w.heap.size w a) (b c d e f g:Value):Below w.heap.size w ((((((a.setCell ⟨w.heap.size,0,none⟩ b).setCell ⟨w.heap.size,1,none⟩ c).setCell ⟨w.heap.size,2,none⟩ d).setCell ⟨w.heap.size,3,none⟩ e).setCell ⟨w.heap.size+1,0,none⟩ f).setCell ⟨w.heap.size+1,1,none⟩ g) :=
 (((((h.setCell (jE _) _).setCell (jE _) _).setCell (jE _) _).setCell (jE _) _).setCell (Nat.le_succ _) _).setCell (Nat.le_succ _) _
theorem ze1 (e:ByteArray):ya8 gO 17 e:=by
 intro w ⟨aw,ax⟩;have aP:=kc25;have aQ:=kc28;have V:Below w.heap.size w ((w.alloc (.cells #[.int .i64 0,.string empty,.int .i64 0,.slice none 0 0] 25)).alloc (.cells #[.int .i64 0,.int .i64 0] 28)):=(bal _).alloc oC _;have s:=lexs.scan_own e _ (lexs.hasErr_below aw V);have a7:=(Box4.new w (.int .i64 0) (.string empty) (.int .i64 0) (.slice none 0 0) 25).alloc (.cells #[.int .i64 0,.int .i64 0] 28);have T:=Box2.new (w.alloc (.cells #[.int .i64 0,.string empty,.int .i64 0,.slice none 0 0] 25)) (.int .i64 0) (.int .i64 0) 28;rw[jP]at T;unfold parse
 cases u:lexs.scan e.data.toList with
 | err a3 aJ =>
  rw[u]at s;have az:=lexs.scan_err u;have aR:(a3 != 0)=true:=by simpa using az
  simp only[lexs.Res.code,lexs.Res.place,lexs.Res.toks]at s;go_enter Tryz.func17,Tryz.ntmps17;go_wp2_with (fail);refine s.mono ?_;rintro P a ⟨v,rfl,ad,j⟩;have p:=a7.below j;have r:=T.below j;obtain⟨x,y,z,B,ae,af,ag,ah⟩:=id p;obtain⟨C,D,ai,aj⟩:=id r;have ar:w.heap.size+1<a.heap.size:=r.lt;have ap:w.heap.size<a.heap.size:=p.lt;have N:Below w.heap.size w a:=V.trans (j.mono oE);go_wp2;go_region
  all_goals
   go_wp2;refine jU (v:=.tuple #[.agg #[.int .i64 0,.string empty,.int .i64 0,.slice none 0 0],.agg #[.int .i64 a3,.int .i64 aJ]]) (by simp[results,Tryz.results17,go_sem,x,y,z,B,C,D,ap,ar,empty]) rfl (fP.none ?_)
   exact below_drewN ((below6 N _ _ _ _ _ _).alloc oE _) 1
 | ok ts =>
  rw[u]at s;simp only[lexs.Res.code,lexs.Res.place,lexs.Res.toks]at s;obtain⟨aS,a5,_,_,ac⟩:=zjf (lexs.scan_len u);simp only[ac];have aA:=lexs.scan_fine u;have aC:=lexs.scan_len u;generalize (Tree.node 1 (za6 ts) 0 a5.1,a5.2)=q at *;go_enter Tryz.func17,Tryz.ntmps17;go_wp2_with (fail);refine s.mono ?_;rintro P a ⟨v,rfl,ad,j⟩;have p:=a7.below j;have r:=T.below j;have ar:w.heap.size+1<a.heap.size:=r.lt;have ap:w.heap.size<a.heap.size:=p.lt;have W:Below w.heap.size w a:=V.trans (j.mono oE);have a9:=Box2.new a (.int .i64 0) (.int .i64 0) 28;have a6:=yc4 (n:=e.size) (ad.alloc (.cells #[.int .i64 0,.int .i64 0] 28)) aC aA (zcz ax (W.alloc oA (.cells #[.int .i64 0,.int .i64 0] 28))) ac;unfold dS;cases M:q.2.bad
  case true =>
   go_wp2_with (fail);refine a6.mono ?_;rintro P d ⟨aM,rfl,g,f⟩;rw[M]at g |-;simp only[if_true]at g |-;obtain⟨k,o,l,_,rfl,h,m,i,rfl⟩:=g.shape;have G:=(p.alloc (.cells #[.int .i64 0,.int .i64 0] 28)).below f;have K:=(r.alloc (.cells #[.int .i64 0,.int .i64 0] 28)).below f;have L:=a9.below f;obtain⟨x,y,z,B,ae,af,ag,ah⟩:=id G;obtain⟨C,D,ai,aj⟩:=id K;obtain⟨aK,aL,aN,aO⟩:=id L;have an:w.heap.size+1<d.heap.size:=K.lt;have am:w.heap.size<d.heap.size:=G.lt;have ao:a.heap.size<d.heap.size:=L.lt;have N:Below w.heap.size w d:=(W.alloc oA _).trans (f.mono oE);go_wp2;go_region
   all_goals
    go_wp2;refine jU (v:=.tuple #[.agg #[.int .i64 0,.string empty,.int .i64 0,.slice none 0 0],.agg #[.int .i64 2,.int .i64 (dJ ts e.size q.2)]]) (by simp[results,Tryz.results17,go_sem,x,y,z,B,C,D,am,an,ao,empty]) rfl ?_;have E:dS ts e.size q=⟨cS,2,dJ ts e.size q.2⟩:=by unfold dS;rw[M];rfl
    rw[E];refine fP.none ?_;have a2:Below w.heap.size w ((d.setCell ⟨a.heap.size,0,none⟩ (.int .i64 2)).setCell ⟨a.heap.size,1,none⟩ (.int .i64 (dJ ts e.size q.2))):=(N.setCell oE _).setCell oE _;exact below_drewN ((below6 a2 _ _ _ _ _ _).alloc oE _) 1
  case false =>
   go_wp2_with (fail);refine a6.mono ?_;rintro P d ⟨aM,rfl,g,f⟩;rw[M]at g |-;simp only[jr,if_false]at g |-;obtain⟨k,o,l,_,rfl,h,m,i,rfl⟩:=g.shape;have G:=(p.alloc (.cells #[.int .i64 0,.int .i64 0] 28)).below f;have K:=(r.alloc (.cells #[.int .i64 0,.int .i64 0] 28)).below f;have L:=a9.below f;obtain⟨aK,aL,aN,aO⟩:=id L;have an:w.heap.size+1<d.heap.size:=K.lt;have am:w.heap.size<d.heap.size:=G.lt;have ao:a.heap.size<d.heap.size:=L.lt;have N:Below w.heap.size w d:=(W.alloc oA _).trans (f.mono oE);have a2:Below w.heap.size w ((d.setCell ⟨a.heap.size,0,none⟩ (.int .i64 0)).setCell ⟨a.heap.size,1,none⟩ (.int .i64 0)):=(N.setCell oE _).setCell oE _;have S:Fr a.heap.size d ((d.setCell ⟨a.heap.size,0,none⟩ (.int .i64 0)).setCell ⟨a.heap.size,1,none⟩ (.int .i64 0)):=((Fr.refl _ _).set _ _).set _ _;have aD:=g.frP (x:=a.heap.size) S (Q:=fun b=>a.heap.size<b/\b<d.heap.size) (fun b c=>⟨c.2,by have:=c.1;rw[jP]at this;omega⟩) (fun b c=>⟨by have:=c.1;rw[jP]at this;omega,c.2⟩);have au:=G.fr S oA;have av:=K.fr S oA;have aE:((d.setCell ⟨a.heap.size,0,none⟩ (.int .i64 0)).setCell ⟨a.heap.size,1,none⟩ (.int .i64 0)).heap.size=d.heap.size:=oC;go_wp2_with (fail);generalize (d.setCell ⟨a.heap.size,0,none⟩ (.int .i64 0)).setCell ⟨a.heap.size,1,none⟩ (.int .i64 0)=R at *;have ab:=aD.frP (x:=R.heap.size) (Fr.al R (.cells #[.int .i64 k,.string o,.int .i64 l,.slice h m i] 25)) (Q:=fun b=>a.heap.size<b/\b<(R.alloc (.cells #[.int .i64 k,.string o,.int .i64 l,.slice h m i] 25)).heap.size) (fun b c=>⟨oA,oA⟩) (fun b c=>⟨c.1,oK⟩);have ay:=Box4.new R (.int .i64 k) (.string o) (.int .i64 l) (.slice h m i) 25;refine(yb2 q.1 _ _ (ab.to (fun b c=>c.2) (fun _ _ _=>rfl))).mono ?_;rintro P ak ⟨rfl,t⟩;have a8:Below w.heap.size w ak:=(a2.alloc oA _).trans (t.mono oE);obtain⟨x,y,z,B,ae,af,ag,ah⟩:=(au.alloc (.cells #[.int .i64 k,.string o,.int .i64 l,.slice h m i] 25)).below t;obtain⟨C,D,ai,aj⟩:=(av.alloc (.cells #[.int .i64 k,.string o,.int .i64 l,.slice h m i] 25)).below t;obtain⟨aF,aG,aH,aI,_,_,_,_⟩:=ay.below t;rw[aE]at aF aG aH aI;have aB:=ab.frP (x:=w.heap.size) (Fr.below t) (Q:=fun b=>a.heap.size<b/\b<ak.heap.size) (fun b c=>⟨c.2,oA⟩) (fun b c=>⟨c.1,jo c.2 t.size⟩);cases aa:fitsT q.1
   case true =>
    go_wp2;refine jU (v:=.tuple #[.agg #[.int .i64 k,.string o,.int .i64 l,.slice h m i],.agg #[.int .i64 0,.int .i64 0]]) (by simp[results,Tryz.results17,go_sem,x,y,z,B,C,D]) rfl ?_;have E:dS ts e.size q=⟨q.1,0,0⟩:=by unfold dS;rw[M,aa];rfl
    rw[E];refine⟨_,rfl,?_,below6 a8 _ _ _ _ _ _⟩;exact(aB.frP (x:=w.heap.size) (Fr.put _ _ _ _ _ _) (fun b c=>⟨c.2,oA⟩) (fun b c=>c)).frP (x:=w.heap.size+1) (((Fr.refl _ _).set 0 _).set 1 _) (fun b c=>⟨by simpa using c.2,oA⟩) (fun b c=>⟨oA,by simpa using c.2⟩)
   case false =>
    go_wp2;refine jU (v:=.tuple #[.agg #[.int .i64 0,.string empty,.int .i64 0,.slice none 0 0],.agg #[.int .i64 1,.int .i64 0]]) (by simp[results,Tryz.results17,go_sem,x,y,z,B,C,D,empty]) rfl ?_;have E:dS ts e.size q=⟨cS,1,0⟩:=by unfold dS;rw[M,aa];rfl
    rw[E];exact fP.none (below6 a8 _ _ _ _ _ _)
end syn
namespace syn
open Go.RowKit
theorem qF.kid {w wr:World} {c:List Tree} {a b:Nat} (k:a<w.heap.size) (h:qF (·<w.heap.size) w c a b) (i:Below w.heap.size w wr) {j:Nat} (l:j<c.length) : ∃x0 x1 x2 x3,wr.cell? ⟨a,b+j*4,none⟩=some x0/\wr.cell? ⟨a,b+j*4+1,none⟩=some x1/\wr.cell? ⟨a,b+j*4+2,none⟩=some x2/\wr.cell? ⟨a,b+j*4+3,none⟩=some x3/\Lies (·<wr.heap.size) wr c[j] (.agg #[x0,x1,x2,x3]):=by
 obtain⟨v,⟨x0,x1,x2,x3,rfl,d,e,f,g⟩,m⟩:=(h.below k i).get j l;exact⟨x0,x1,x2,x3,d,e,f,g,m⟩
end syn
namespace face
open Go.RowKit Go.ChangeShapes Go.WideShapes
open syn (kO eqS)
def IntsIn (w:World) (v:Value) (l:List Int):Prop:=∃a c,v=.slice a l.length c/\l.length<=9223372036854775807 /\
 (l≠[]->∃g o,a=some ⟨g,o,none⟩/\∀i (b:i<l.length),w.cell? ⟨g,o+i,none⟩=some (.int .i64 l[i]))
def zct (w:World) (v:Value) (l:List VarD):Prop:=∃a c,v=.slice a l.length c/\l.length<=4611686018427387903 /\
 (l≠[]->∃g o,a=some ⟨g,o,none⟩/\∀i (b:i<l.length),w.cell? ⟨g,o+i*4,none⟩=some (.string l[i].name)/\w.cell? ⟨g,o+i*4+1,none⟩=some (.bool l[i].pub) /\
  w.cell? ⟨g,o+i*4+2,none⟩=some (.int .i64 l[i].label)/\w.cell? ⟨g,o+i*4+3,none⟩=some (.int .i64 l[i].size))
def bL (w:World) (v:Value) (l:List ProcD):Prop:=∃a c,v=.slice a l.length c/\l.length<=4611686018427387903 /\
 (l≠[]->∃g o,a=some ⟨g,o,none⟩/\∀i (b:i<l.length),w.cell? ⟨g,o+i*6,none⟩=some (.string l[i].name)/\w.cell? ⟨g,o+i*6+1,none⟩=some (.bool l[i].pub) /\
  (∃u,w.cell? ⟨g,o+i*6+2,none⟩=some u/\IntsIn w u l[i].params) /\
  w.cell? ⟨g,o+i*6+3,none⟩=some (.int .i64 l[i].writes)/\w.cell? ⟨g,o+i*6+4,none⟩=some (.bool l[i].gives)/\w.cell? ⟨g,o+i*6+5,none⟩=some (.int .i64 l[i].given))
def zP (w:World) (v:Value) (f:FaceD):Prop:=∃b a,v=.agg #[.string f.module,b,a]/\zct w b f.vars/\bL w a f.procs
def zN (p:ProcD) (u:Value):Value:=.agg #[.string p.name,.bool p.pub,u,.int .i64 p.writes,.bool p.gives,.int .i64 p.given]
def qE (v:VarD):Value:=.agg #[.string v.name,.bool v.pub,.int .i64 v.label,.int .i64 v.size]
/-! what was there stays -/
theorem keep {w w':World} {a:Addr} {c:Value} (b:w.cell? a=some c) (d:Below w.heap.size w w'):w'.cell? a=some c:=by
 rw[d.cell (jS w a b)];exact b
theorem IntsIn.below {w w':World} {v:Value} {a:List Int} (g:IntsIn w v a) (h:Below w.heap.size w w'):IntsIn w' v a:=by
 obtain⟨b,c,d,k,j⟩:=g;refine⟨b,c,d,k,fun l=>?_⟩;obtain⟨f,n,e,i⟩:=j l;exact⟨f,n,e,fun m hi=>keep (i m hi) h⟩
theorem zct.below {w w':World} {v:Value} {d:List VarD} (j:zct w v d) (a:Below w.heap.size w w'):zct w' v d:=by
 obtain⟨e,f,g,l,k⟩:=j;refine⟨e,f,g,l,fun m=>?_⟩;obtain⟨i,n,h,b⟩:=k m;exact⟨i,n,h,fun c hi=>⟨keep (b c hi).1 a,keep (b c hi).2.1 a,keep (b c hi).2.2.1 a,keep (b c hi).2.2.2 a⟩⟩
theorem bL.below {w w':World} {v:Value} {b:List ProcD} (h:bL w v b) (a:Below w.heap.size w w'):bL w' v b:=by
 obtain⟨c,d,e,q,p⟩:=h;refine⟨c,d,e,q,fun r=>?_⟩;obtain⟨g,u,f,o⟩:=p r;refine⟨g,u,f,fun t hi=>?_⟩;obtain⟨i,j,⟨x,k,s⟩,l,m,n⟩:=o t hi;exact⟨keep i a,keep j a,⟨x,keep k a,s.below a⟩,keep l a,keep m a,keep n a⟩
theorem zP.below {w w':World} {v:Value} {f:FaceD} (c:zP w v f) (a:Below w.heap.size w w'):zP w' v f:=by
 obtain⟨h,g,b,d,e⟩:=c;exact⟨h,g,b,d.below a,e.below a⟩
/-! an argument is opened -/
theorem plain_addr {w:World} {b:Addr} {v:Value} (a:w.cell? b=some v):∃c d,b=⟨c,d,none⟩:=by
 obtain⟨c,d,s⟩:=b
 cases s with
 | none=>exact⟨c,d,rfl⟩
 | some s =>
  unfold World.cell? at a;simp only at a;split at a;·simp at a
  ·cases a
section
variable {H:Type} {enc:TypeId × Value->H} {W:World} {n:Nat}
theorem cell4:Tryz.prog.cellsOf 87=4:=oB
theorem dP:Tryz.prog.cellsOf 91=6:=oB
theorem zqe:Tryz.prog.cellsOf 3=1:=oB
theorem xW:Tryz.prog.cellsOf 55=3:=oB
theorem maxLen_le:maxLen<=9223372036854775807:=by unfold maxLen;omega
end
end face
namespace face
open Go.RowKit
open syn (kO eqS)
theorem zh0 {α:Type} {c:α->Bool} {a:List α} (b:Nat) (d:b<a.length) (e:c a[b]=false):a.all c=false:=by
 rw[List.all_eq_false];exact⟨a[b],jH d,by simp[e]⟩
theorem zg3 {α:Type} {b:α->Bool} {a:List α} (d:∀i (g:i<a.length),b a[i]=true):a.all b=true:=by
 rw[List.all_eq_true];intro h e;obtain⟨f,c,rfl⟩:=List.mem_iff_getElem.1 e;exact d f c
theorem dU {a b:Bool} (c:a=b):Ending.returned (.bool a)=.returned (.bool b):=by rw[c]
theorem zI {w:World} {a:Addr} {v:Value} (b:w.cell? a=some v) (c:Obj):(w.alloc c).cell? a=some v:=by
 rw[(bal c).cell (jS w a b)];exact b
end face
namespace face
open Go.RowKit
open syn
theorem fE:∀(c:List Tree) (a:Nat) (b:a<c.length),kC (c.take (a+1))=kC (c.take a)+kD c[a]
 | [],a,b=>by simp at b
 | t :: r,0,b=>by simp[kC]
 | t :: r,a+1,b=>by
  have d:a<r.length:=by simpa using b
  have:=fE r a d;show kD t+kC (r.take (a+1))=kD t+kC (r.take a)+kD r[a];omega
theorem fA:∀(c:List Tree) (a:Nat),kC (c.take a)<=kC c
 | [],a=>oC
 | b :: r,0=>by have d:=kX (b :: r);show kC []<=_;unfold kC;exact d
 | b :: r,a+1=>by
  have:=fA r a;show kD b+kC (r.take a)<=kD b+kC r;omega
theorem zlf:∀(c:List Tree) (a:Nat) (b:a<c.length),kD c[a]<=kC c
 | [],a,b=>by simp at b
 | t :: r,0,b=>by have:=kX r;show kD t<=kD t+kC r;omega
 | t :: r,a+1,b=>by
  have d:a<r.length:=by simpa using b
  have:=zlf r a d;have e:=kU t;show kD r[a]<=kD t+kC r;omega
/-! of a variable -/
/-! kids of a module -/
theorem zf6 {w wr:World} {b:List Kid} {c d:Nat} (p:c<w.heap.size) (n:qF (·<w.heap.size) w (b.map Kid.tree) c d) (o:Below w.heap.size w wr) {a:Nat} (q:a<b.length) : ∃e f,wr.cell? ⟨c,d+a*4,none⟩=some (.int .i64 b[a].kind)/\wr.cell? ⟨c,d+a*4+1,none⟩=some (.string b[a].text)/\wr.cell? ⟨c,d+a*4+2,none⟩=some (.int .i64 b[a].num)/\wr.cell? ⟨c,d+a*4+3,none⟩=some (.slice e b[a].kids.length f) /\ Lies (·<wr.heap.size) wr b[a].tree (.agg #[.int .i64 b[a].kind,.string b[a].text,.int .i64 b[a].num,.slice e b[a].kids.length f]):=by
 obtain⟨x0,x1,x2,x3,i,j,k,l,g⟩:=n.kid p o (j:=a) (by simpa using q);rw[List.getElem_map]at g;have h:=g;rw[Kid.tree_is]at h;unfold Lies at h;obtain⟨e,f,m,_,_⟩:=h;cases m;exact⟨e,f,i,j,k,l,g⟩
def vY (l:List ByteArray):List Value:=l.map Value.string
theorem zwp (a:List ByteArray) (b:ByteArray):vY (a++[b])=vY a++[.string b]:=by simp[vY]
theorem zrp:(Tryz.prog.info? 9).map (fun a=>(a.zero,a.size,a.bytes))=some (some (.string ⟨#[]⟩),1,16):=oB
theorem zjw (c:ByteArray):∀b∈[Value.string c],b.oneCell'=true:=by intro b a;simp at a;rw[a];rfl
theorem zaq {w:World} (a:Value) (b:TypeId) (n:Nat) (e:n=w.heap.size):∀c d,[a][c]?=some d->(w.alloc (.cells #[a] b)).cell? ((⟨n,0,none⟩:Addr).add c)=some d:=by
 subst e;exact cell_one_new w a b
theorem ziv (a:List Kid) (b:Nat) (c:b<a.length):a.take (b+1)=a.take b++[a[b]]:=by
 rw[List.take_add_one,List.getElem?_eq_getElem c];rfl
end face
namespace chk
open Go.RowKit
open syn face
theorem long_size {c:ByteArray} (a:qL c):c.size<=33:=by
 rcases a with a | ⟨d,b,e,f,rfl⟩
 ·have:=dZ a;omega
 ·have g:=dZ e;have h:=dZ f;rw[ByteArray.size_append,ByteArray.size_append];show d.size+1+b.size<=33;omega
end chk
namespace face
open Go.RowKit
theorem cell_grown {w w':World} {c:Option Nat} (e:w.grownBy w' c) {a:Addr} {v:Value} (b:w.cell? a=some v) (f:c≠some a.block):w'.cell? a=some v:=by
 rw[jN (a:=a) (e.block a.block (jS w a b) (fun d=>f d.symm))];exact b
structure Box6 (w:World) (N:Nat) (x0 x1 x2 x3 x4 x5:Value):Prop where
 c0:w.cell? ⟨N,0,none⟩=some x0
 c1:w.cell? ⟨N,1,none⟩=some x1
 c2:w.cell? ⟨N,2,none⟩=some x2
 c3:w.cell? ⟨N,3,none⟩=some x3
 c4:w.cell? ⟨N,4,none⟩=some x4
 c5:w.cell? ⟨N,5,none⟩=some x5
 f0:w.frozen? ⟨N,0,none⟩=false
 f1:w.frozen? ⟨N,1,none⟩=false
 f2:w.frozen? ⟨N,2,none⟩=false
 f3:w.frozen? ⟨N,3,none⟩=false
 f4:w.frozen? ⟨N,4,none⟩=false
 f5:w.frozen? ⟨N,5,none⟩=false
section
variable {w w':World} {N:Nat} {x0 x1 x2 x3 x4 x5:Value}
theorem Box6.new (w:World) (x0 x1 x2 x3 x4 x5:Value) (T:TypeId):Box6 (w.alloc (.cells #[x0,x1,x2,x3,x4,x5] T)) w.heap.size x0 x1 x2 x3 x4 x5:=oV
theorem Box6.lt (a:Box6 w N x0 x1 x2 x3 x4 x5):N<w.heap.size:=jS w ⟨N,0,none⟩ a.c0
theorem Box6.block (b:Box6 w N x0 x1 x2 x3 x4 x5) (c:w'.heap[N]?=w.heap[N]?):Box6 w' N x0 x1 x2 x3 x4 x5 :=
 ⟨(jN (a:=⟨N,0,none⟩) c).trans b.c0,(jN (a:=⟨N,1,none⟩) c).trans b.c1,(jN (a:=⟨N,2,none⟩) c).trans b.c2,(jN (a:=⟨N,3,none⟩) c).trans b.c3,(jN (a:=⟨N,4,none⟩) c).trans b.c4,(jN (a:=⟨N,5,none⟩) c).trans b.c5,
   (jO (a:=⟨N,0,none⟩) c).trans b.f0,(jO (a:=⟨N,1,none⟩) c).trans b.f1,(jO (a:=⟨N,2,none⟩) c).trans b.f2,(jO (a:=⟨N,3,none⟩) c).trans b.f3,(jO (a:=⟨N,4,none⟩) c).trans b.f4,(jO (a:=⟨N,5,none⟩) c).trans b.f5⟩
theorem Box6.below (a:Box6 w N x0 x1 x2 x3 x4 x5) (b:Below w.heap.size w w'):Box6 w' N x0 x1 x2 x3 x4 x5:=a.block (b.block N a.lt)
theorem Box6.alloc (b:Box6 w N x0 x1 x2 x3 x4 x5) (a:Obj):Box6 (w.alloc a) N x0 x1 x2 x3 x4 x5:=b.below (bal a)
theorem Box6.grown {row:Option Nat} (a:Box6 w N x0 x1 x2 x3 x4 x5) (c:w.grownBy w' row) (d:row≠some N):Box6 w' N x0 x1 x2 x3 x4 x5:=a.block (c.block N a.lt (fun b=>d b.symm))
theorem Box6.other (b:Box6 w N x0 x1 x2 x3 x4 x5) {M o:Nat} (c:M≠N) (v:Value):Box6 (w.setCell ⟨M,o,none⟩ v) N x0 x1 x2 x3 x4 x5:=b.block (jQ _ _ _ _ (fun a=>c (by rw[a])))
theorem Box6.drew (a:Box6 w N x0 x1 x2 x3 x4 x5):Box6 w.drew N x0 x1 x2 x3 x4 x5:=⟨a.c0,a.c1,a.c2,a.c3,a.c4,a.c5,a.f0,a.f1,a.f2,a.f3,a.f4,a.f5⟩
theorem Box6.set2 (a:Box6 w N x0 x1 x2 x3 x4 x5) (v:Value):Box6 (w.setCell ⟨N,2,none⟩ v) N x0 x1 v x3 x4 x5 :=
 ⟨by rw[jD _ _ _ _ oC];exact a.c0,by rw[jD _ _ _ _ oC];exact a.c1,jT _ _ _ a.c2,by rw[jD _ _ _ _ oC];exact a.c3,by rw[jD _ _ _ _ oC];exact a.c4,by rw[jD _ _ _ _ oC];exact a.c5,
  by simp[a.f0],by simp[a.f1],by simp[a.f2],by simp[a.f3],by simp[a.f4],by simp[a.f5]⟩
end
end face
namespace face
open Go.RowKit
open syn
def intV (l:List Int):List Value:=l.map (Value.int .i64)
theorem zkg (a:List Int) (b:Int):intV (a++[b])=intV a++[.int .i64 b]:=by simp[intV]
theorem infoI:(Tryz.prog.info? 3).map (fun a=>(a.zero,a.size,a.bytes))=some (some (.int .i64 0),1,8):=oB
theorem zoc (c:Int):∀b∈[Value.int .i64 c],b.oneCell'=true:=by intro b a;simp at a;rw[a];rfl
theorem zyu (ps:List (ByteArray × Bool)) (a:Nat) (b:a<ps.length):((ps.take (a+1)).map fun q=>bI q.2)=((ps.take a).map fun q=>bI q.2)++[bI ps[a].2]:=by
 rw[List.take_add_one,List.map_append,List.getElem?_eq_getElem b];rfl
/-! rows of variables and of procedures -/
def qZ (l:List VarD):List Value:=l.flatMap fun v=>[.string v.name,.bool v.pub,.int .i64 v.label,.int .i64 v.size]
theorem ziw (a:List VarD) (v:VarD):qZ (a++[v])=qZ a++[.string v.name,.bool v.pub,.int .i64 v.label,.int .i64 v.size]:=by simp[qZ]
def xO (l:List (ProcD × Value)):List Value:=l.flatMap fun q=>[.string q.1.name,.bool q.1.pub,q.2,.int .i64 q.1.writes,.bool q.1.gives,.int .i64 q.1.given]
theorem zsl (a:List (ProcD × Value)) (q:ProcD × Value):xO (a++[q])=xO a++[.string q.1.name,.bool q.1.pub,q.2,.int .i64 q.1.writes,.bool q.1.gives,.int .i64 q.1.given]:=by simp[xO]
theorem zc1:∀(b:List VarD) (a:Nat) (c:a<b.length),(qZ b)[a*4]?=some (.string b[a].name)/\(qZ b)[a*4+1]?=some (.bool b[a].pub)/\(qZ b)[a*4+2]?=some (.int .i64 b[a].label)/\(qZ b)[a*4+3]?=some (.int .i64 b[a].size)
 | [],a,c=>by simp at c
 | v :: b,0,c=>by simp[qZ]
 | v :: b,a+1,c=>by
  have g:a<b.length:=by simpa using c
  have d:=zc1 b a g;have e:qZ (v :: b)=[.string v.name,.bool v.pub,.int .i64 v.label,.int .i64 v.size]++qZ b:=rfl;have f:(a+1)*4=a*4+4:=oA;rw[e,f];refine⟨?_,?_,?_,?_⟩;·rw[List.getElem?_append_right oC];simpa using d.1
  ·rw[List.getElem?_append_right oC];simpa using d.2.1
  ·rw[List.getElem?_append_right oC];simpa using d.2.2.1
  ·rw[List.getElem?_append_right oC];simpa using d.2.2.2
theorem zi5:∀(b:List (ProcD × Value)) (a:Nat) (d:a<b.length),(xO b)[a*6]?=some (.string b[a].1.name)/\(xO b)[a*6+1]?=some (.bool b[a].1.pub)/\(xO b)[a*6+2]?=some b[a].2/\(xO b)[a*6+3]?=some (.int .i64 b[a].1.writes)/\(xO b)[a*6+4]?=some (.bool b[a].1.gives)/\(xO b)[a*6+5]?=some (.int .i64 b[a].1.given)
 | [],a,d=>by simp at d
 | v :: b,0,d=>by simp[xO]
 | v :: b,a+1,d=>by
  have g:a<b.length:=by simpa using d
  have c:=zi5 b a g;have e:xO (v :: b)=[.string v.1.name,.bool v.1.pub,v.2,.int .i64 v.1.writes,.bool v.1.gives,.int .i64 v.1.given]++xO b:=rfl;have f:(a+1)*6=a*6+6:=oA;rw[e,f];refine⟨?_,?_,?_,?_,?_,?_⟩;·rw[List.getElem?_append_right oC];simpa using c.1
  ·rw[List.getElem?_append_right oC];simpa using c.2.1
  ·rw[List.getElem?_append_right oC];simpa using c.2.2.1
  ·rw[List.getElem?_append_right oC];simpa using c.2.2.2.1
  ·rw[List.getElem?_append_right oC];simpa using c.2.2.2.2.1
  ·rw[List.getElem?_append_right oC];simpa using c.2.2.2.2.2
theorem ze8:(Tryz.prog.info? 87).map (fun a=>(a.zero,a.size,a.bytes))=some (some (.agg #[.string ⟨#[]⟩,.bool false,.int .i64 0,.int .i64 0]),4,40):=oB
theorem zro:(Tryz.prog.info? 91).map (fun a=>(a.zero,a.size,a.bytes))=some (some (.agg #[.string ⟨#[]⟩,.bool false,.slice none 0 0,.int .i64 0,.bool false,.int .i64 0]),6,72):=oB
def yM (Q:Nat->Prop) (w:World) (u:Value) (l:List Int):Prop:=∃a c,u=.slice a l.length c/\l.length<=9223372036854775807 /\
 (l≠[]->∃g,a=some ⟨g,0,none⟩/\Q g/\∀i (b:i<l.length),w.cell? ⟨g,i,none⟩=some (.int .i64 l[i]))
theorem yM.to {Q a:Nat->Prop} {w w':World} {f:Value} {d:List Int} (l:yM Q w f d) (m:∀b,Q b->a b) (r:∀b,Q b->∀e v,w.cell? ⟨b,e,none⟩=some v->w'.cell? ⟨b,e,none⟩=some v):yM a w' f d:=by
 obtain⟨g,h,i,p,o⟩:=l;refine⟨g,h,i,p,fun q=>?_⟩;obtain⟨k,j,c,n⟩:=o q;exact⟨k,j,m _ c,fun s hi=>r _ c _ _ (n s hi)⟩
theorem yM.ints {c:Nat->Prop} {w:World} {b:Value} {a:List Int} (i:yM c w b a):IntsIn w b a:=by
 obtain⟨d,e,f,l,k⟩:=i;refine⟨d,e,f,l,fun m=>?_⟩;obtain⟨h,g,o,j⟩:=k m;exact⟨h,0,g,fun n hi=>by rw[Nat.zero_add];exact j n hi⟩
theorem yM.own {w:World} {B:Nat} {e:Value} {c:List Int} (a:w.ownsRow B 3 1 e c.length (intV c)):yM (fun b=>B<=b/\b<w.heap.size) w e c:=by
 have u:=a.lt;rcases a.2 with⟨rfl,g⟩|⟨d,f,o,rfl,_,_,p,m,_⟩
 ·have:c=[]:=List.length_eq_zero_iff.1 g;exact zhi
 ·refine⟨some ⟨d,0,none⟩,f,rfl,by unfold maxLen at m;omega,fun _=>⟨d,rfl,u d rfl,fun h hi=>?_⟩⟩;have:=a.cellAt h oA;rw[this];unfold intV;rw[List.getElem?_map,List.getElem?_eq_getElem hi];rfl
theorem zqd {w:World} {B:Nat} {e:Value} {c:List VarD} (a:w.ownsRow B 87 4 e c.length (qZ c)) (n:c.length<=4611686018427387903):zct w e c:=by
 rcases a.2 with⟨rfl,g⟩|⟨d,f,o,rfl,_,_,p,m,_⟩
 ·have:c=[]:=List.length_eq_zero_iff.1 g;exact zhi
 ·refine⟨some ⟨d,0,none⟩,f,rfl,n,fun _=>⟨d,0,rfl,fun h hi=>?_⟩⟩;obtain⟨i,j,k,l⟩:=zc1 c h hi;simp only[Nat.zero_add];exact⟨(a.cellAt _ oA).trans i,(a.cellAt _ oA).trans j,(a.cellAt _ oA).trans k,(a.cellAt _ oA).trans l⟩
theorem zna {w:World} {B:Nat} {e:Value} {c:List (ProcD × Value)} (a:w.ownsRow B 91 6 e c.length (xO c)) (n:c.length<=4611686018427387903) (v:∀q∈c,IntsIn w q.2 q.1.params):bL w e (c.map (·.1)):=by
 rcases a.2 with⟨rfl,g⟩|⟨d,f,o,rfl,_,_,p,m,_⟩
 ·have:c=[]:=List.length_eq_zero_iff.1 g;exact zhi
 ·refine⟨some ⟨d,0,none⟩,f,by rw[List.length_map],by rw[List.length_map];exact n,fun _=>⟨d,0,rfl,fun h hi=>?_⟩⟩;rw[List.length_map]at hi;obtain⟨i,j,k,l,s,t⟩:=zi5 c h hi;simp only[Nat.zero_add,List.getElem_map];exact⟨(a.cellAt _ oA).trans i,(a.cellAt _ oA).trans j,⟨_,(a.cellAt _ oA).trans k,v _ (jH hi)⟩,(a.cellAt _ oA).trans l,(a.cellAt _ oA).trans s,(a.cellAt _ oA).trans t⟩
end face
namespace chk
open Go.RowKit Go.Shelf
open syn face
attribute [local go_sem] Oper.semAt_some
set_option linter.unusedVariables false
set_option linter.unusedSimpArgs false
def bk (a:List VarD) (k:Nat):Nat × VarD:=(a.length - 1 - k,a[a.length - 1 - k]?.getD default)
def upto {α:Type} (f:Nat->α) (k:Nat):List α:=(List.range k).map f
variable {c:Value} {d:List VarD}
theorem upto_succ {α:Type} (f:Nat->α) (a:Nat):upto f (a+1)=upto f a++[f a]:=by simp[upto,List.range_succ]
theorem upto_length {α:Type} (f:Nat->α) (a:Nat):(upto f a).length=a:=by simp[upto]
def zfe (x:Nat × VarD):Array Value:=#[.int .i64 (x.1:Int),qE x.2]
set_option maxRecDepth 100000 in
theorem zwx (k:Fence) (n:Nat) (a3:k.fn 229) (a7:k.round=none) (ag:1<=n) (K j m b N:Nat) (a:List VarD) (af:a.length<=1000) (l:b<m) (Q:j<m) (h w:List (Nat × VarD)->World->Prop) (a2:∀e t W,h e W->e.length<a.length->YieldAt k (n - 1) Tryz.prog K (zfe t) W fun i f =>
   (i=.returned (.bool true)/\h (e++[t]) f/\Below m W f)\/(i=.returned (.bool false)/\w (e++[t]) f))
  (W:World) (R:W.cell? ⟨j,0,none⟩=some (.slice (some ⟨b,0,none⟩) a.length N)) (E:∀c (o:c<a.length),W.cell? ⟨b,c*4,none⟩=some (.string a[c].name)/\W.cell? ⟨b,c*4+1,none⟩=some (.bool a[c].pub)/\W.cell? ⟨b,c*4+2,none⟩=some (.int .i64 a[c].label)/\W.cell? ⟨b,c*4+3,none⟩=some (.int .i64 a[c].size)) (P:h [] W) :
  CallsIn k n Tryz.prog 229 #[.func (.yield K) #[] #[],.pointer (some ⟨j,0,none⟩)] W fun i f=>(∃v,i=.returned v) /\
   ((∃L,L=upto (bk a) a.length/\h L f)\/(∃e,(∃d,d<=a.length/\e=upto (bk a) d)/\w e f)):=by
 have ab:Tryz.prog.cellsOf 87=4:=cell4;refine callsIn_of_wp Tryz.func229 rfl a3 ?_ a7;simp only[Tryz.ntmps229,List.size_toArray,jd,je,Nat.reduceAdd,Nat.reduceSub,Array.replicate_succ,Array.replicate_zero,List.push_toArray,List.append_toArray,js,jL]
 gi_wp2
 gi_loopw [3] (fun s wr=>∃d:Nat,d<=a.length/\s=.int .i64 ((a.length:Int) - 1 - d)/\h (upto (bk a) d) wr/\Below m W wr)
  (fun s _=>(intOf s+1).toNat)
 case atStart=>exact⟨0,jz _,oC,P,Below.refl _ _⟩
 case round =>
  obtain⟨d,ae,rfl,C,g⟩:=hrel;have ad:=(g.cell (p:=⟨j,0,none⟩) Q).trans R;by_cases a6:d<a.length
  ·obtain⟨c,o⟩:∃c:Nat,c=a.length - 1 - d:=⟨_,rfl⟩
   have G:c<a.length:=oA;have q:(a.length:Int) - 1 - d=(c:Int):=oA;obtain⟨x,y,z,B⟩:=E c G;have ah:=(g.cell (p:=⟨b,c*4,none⟩) l).trans x;have ai:=(g.cell (p:=⟨b,c*4+1,none⟩) l).trans y;have aj:=(g.cell (p:=⟨b,c*4+2,none⟩) l).trans z;have ak:=(g.cell (p:=⟨b,c*4+3,none⟩) l).trans B
   have D:bk a d=(c,a[c]):=by
    unfold bk;rw[<- o,List.getElem?_eq_getElem G];rfl
   obtain⟨ac,am,a9,aa,r,V⟩:=a2 _ (bk a d) wr C (by rw[upto_length];exact a6);rw[D]at r;unfold zfe qE at r;dsimp only at r;have u:Hid (upto (bk a) (d+1)=upto (bk a) d++[bk a d]):=upto_succ _ _;rw[q];have M:Hid ((a.length:Int) - 1 - d=(c:Int)):=q;clear E x y z B D o q;generalize a[c]=v at *
   gi_wp2
   refine V.mono ?_;rintro i a8 (⟨rfl,S,a5⟩|⟨rfl,T⟩)
   ·gi_wp2
    go_roundw
    case rel=>exact⟨d+1,oA,by have:=M.out;go_num,by rw[u.out];exact S,g.trans a5⟩
    case measure=>simp[intOf]
   ·gi_wp2
    refine jU (results_none rfl _ _ _) rfl ?_;exact⟨⟨_,rfl⟩,.inr ⟨_,⟨d+1,oA,u.out.symm⟩,T⟩⟩
  ·obtain rfl:d=a.length:=oA
   gi_wp2
   go_end0
   exact⟨⟨_,rfl⟩,.inl ⟨_,rfl,C⟩⟩
attribute [local go_sem] Oper.semAt_some
set_option linter.unusedVariables false
set_option linter.unusedSimpArgs false
set_option maxRecDepth 100000 in
theorem zsr (a:Fence) (n:Nat) (j:a.fn 229) (k:a.round=none) (m c:Nat) (e:Option Addr) (f:Nat) (b:List (Nat × VarD)->World->Prop) (W:World) (o:W.cell? ⟨c,0,none⟩=some (.slice e 0 f)) (h:b [] W) : CallsIn a n Tryz.prog 229 #[.func (.yield m) #[] #[],.pointer (some ⟨c,0,none⟩)] W fun g d=>(∃v,g=.returned v)/\b [] d:=by
 refine callsIn_of_wp Tryz.func229 rfl j ?_ k;simp only[Tryz.ntmps229,List.size_toArray,jd,je,Nat.reduceAdd,Nat.reduceSub,Array.replicate_succ,Array.replicate_zero,List.push_toArray,List.append_toArray,js,jL]
 gi_wp2
 gi_loopw [3] (fun l wr=>l=.int .i64 (-1)/\b [] wr) (fun _ _=>0)
 case atStart=>exact⟨oC,h⟩
 case round =>
  obtain⟨rfl,i⟩:=hrel
  gi_wp2
  go_end0
  exact⟨⟨_,rfl⟩,i⟩
theorem zy3 (a:Fence) (n:Nat) (e:a.fn 221) (f:a.round=none) (b:Option Addr) (len c:Nat) (w:World) : CallsIn a n Tryz.prog 221 #[.slice b len c] w fun d w'=>d=.returned (.func (.func 229) #[] #[.pointer (some ⟨w.heap.size,0,none⟩)])/\w'=w.alloc (.cells #[.slice b len c] 52):=by
 refine callsIn_of_wp Tryz.func221 rfl e ?_ f;simp only[Tryz.ntmps221,List.size_toArray,jd,je,Nat.reduceAdd,Nat.reduceSub,Array.replicate_succ,Array.replicate_zero,List.push_toArray,List.append_toArray,js,jL]
 gi_wp2
 go_ret;exact⟨rfl,rfl⟩
def fX (e:Nat) (W:World) (u:Value) (c:List VarD):Prop:=∃a d,u=.slice a c.length d/\(0<c.length->∃b,a=some ⟨b,0,none⟩/\b<e/\∀j (f:j<c.length),W.cell? ⟨b,j*4,none⟩=some (.string c[j].name)/\W.cell? ⟨b,j*4+1,none⟩=some (.bool c[j].pub)/\W.cell? ⟨b,j*4+2,none⟩=some (.int .i64 c[j].label)/\W.cell? ⟨b,j*4+3,none⟩=some (.int .i64 c[j].size))
theorem fX.below {g:Nat} {h B:World} (f:Below g h B) (v:fX g h c d):fX g B c d:=by
 obtain⟨i,n,o,t⟩:=v;refine⟨i,n,o,fun u=>?_⟩;obtain⟨b,q,a,r⟩:=t u;refine⟨b,q,a,fun e s=>?_⟩;obtain⟨j,k,l,m⟩:=r e s;exact⟨(f.cell (p:=⟨b,e*4,none⟩) a).trans j,(f.cell (p:=⟨b,e*4+1,none⟩) a).trans k,(f.cell (p:=⟨b,e*4+2,none⟩) a).trans l,(f.cell (p:=⟨b,e*4+3,none⟩) a).trans m⟩
theorem fX.mono {e n₁:Nat} {a:World} (m:fX e a c d) (n:e<=n₁):fX n₁ a c d:=by
 obtain⟨f,g,h,k⟩:=m;refine⟨f,g,h,fun l=>?_⟩;obtain⟨b,i,o,j⟩:=k l;exact⟨b,i,oA,j⟩
theorem zym {w:World} {B:Nat} (a:w.ownsRow B 87 4 c d.length (qZ d)):fX w.heap.size w c d:=by
 rcases a.2 with⟨rfl,j⟩|⟨b,e,l,rfl,_,_,m,n,_⟩
 ·exact⟨none,0,by rw[j],fun o=>oA⟩
 ·refine⟨some ⟨b,0,none⟩,e,rfl,fun _=>⟨b,rfl,(a.lt b rfl).2,fun k hi=>?_⟩⟩;obtain⟨f,g,h,i⟩:=zc1 d k hi;exact⟨(a.cellAt _ oA).trans f,(a.cellAt _ oA).trans g,(a.cellAt _ oA).trans h,(a.cellAt _ oA).trans i⟩
theorem ztl (d:Fence) (n:Nat) (k:d.fn 229) (l:d.round=none) (K:1<=n) (c e:Nat) (r:Value) (a:List VarD) (G:a.length<=1000) (w:World) (u:c<e) (L:e<=w.heap.size) (z:w.cell? ⟨c,0,none⟩=some r) (v:fX e w r a) : SeqStopsK d n Tryz.prog 229 #[.pointer (some ⟨c,0,none⟩)] zfe (Below e) (fun P=>P=upto (bk a) a.length) (fun N=>∃o,o<=a.length/\N=upto (bk a) o) a.length w:=fun q g s W j _ _ x i=>by
 have f:=(j.cell (p:=⟨c,0,none⟩) (by show c<w.heap.size;omega)).trans z;obtain⟨t,h,rfl,E⟩:=v.below (j.mono L);rcases Nat.eq_zero_or_pos a.length with m | M
 ·rw[m]at f;refine(zsr d n k l q c t h g W f i).mono fun R Q ⟨C,D⟩=>⟨C,.inl ⟨_,rfl,?_⟩⟩
  rw[m];exact D
 ·obtain⟨b,rfl,y,B⟩:=E M;exact zwx d n k l K q c e b h a G y u g s x W f B i
end chk
namespace face
open Go.RowKit Go.Maps Go.WideMaps
open syn (kO eqS)
/-! how many names are known: plain facts -/
def qM (x:ByteArray):Lit:=.string x.data.toList
def yS (l:List ByteArray):List Lit:=l.map qM
theorem zg5 (a b:ByteArray):(qM a).sameKey (qM b)=eqS a b:=by
 show(a.data.toList==b.data.toList)=eqS a b;unfold eqS;rw[ByteArray.toList_eq,ByteArray.toList_eq]
theorem zj5 (c:List ByteArray) (a:ByteArray):((yS c).any fun b=>b.sameKey (qM a))=kJ c a:=by
 unfold yS kJ;rw[List.any_map]
 congr 1
 funext b
 exact zg5 b a
theorem zn0:∀(b a:List Lit),(b.foldl addKey a).length<=a.length+b.length
 | [],a=>oC
 | x :: r,a=>by
  rw[List.foldl_cons];have c:=zn0 r (addKey a x);have d:(addKey a x).length<=a.length+1:=by unfold addKey;split<;>simp
  simp only[jd];omega
theorem zjp:∀(c a:List ByteArray),(((yS c).foldl addKey (yS a)).length==a.length+c.length)=apartB a c
 | [],a=>by simp[yS,apartB]
 | b :: r,a=>by
  show(((qM b :: yS r).foldl addKey (yS a)).length==a.length+(r.length+1))=(!kJ a b&&apartB (a++[b]) r)
  rw[List.foldl_cons];unfold addKey;rw[zj5];cases g:kJ a b
  ·simp only[jr,if_false,Bool.not_false,Bool.true_and];have d:yS a++[qM b]=yS (a++[b]):=by simp[yS]
   have:=zjp r (a++[b]);rw[d,<- this];simp only[jb,jd,je]
   congr 1
   omega
  ·simp only[if_true,Bool.not_true,Bool.false_and];have:=zn0 (yS r) (yS a);have e:(yS a).length=a.length:=by simp[yS]
   have f:(yS r).length=r.length:=by simp[yS]
   rw[beq_eq_false_iff_ne];show(List.foldl addKey (yS a) (yS r)).length≠_;omega
def setD (l:List ByteArray):DataW Unit:=setOf (.agg []) (yS l)
theorem zkz (a:List ByteArray):(Maps.size (setD a)==a.length)=apartB [] a:=by
 unfold setD;rw[size_setOf _ _ (fun c b=>by obtain⟨d,_,rfl⟩:=List.mem_map.1 b;trivial)];have:=zjp a [];simpa[yS] using this
theorem zk0 (a:List ByteArray) (b:ByteArray):setD (a++[b])=(setD a).put (qM b) (.agg []):=by
 unfold setD yS;rw[List.map_append,List.map_singleton,setOf_snoc]
/-! the map while it is filled -/
theorem vE:Keyed Tryz.prog 9:=string_keyed Tryz.underlying9
theorem zs9 {b:ByteArray} (a:kO b=true):b.size<=maxLen:=by
 unfold kO at a;simp only[jj,jl]at a;have:=a.1.1.1.2;unfold maxLen;omega
theorem zlr {a:ByteArray} (b:kO a=true):keyOf Tryz.prog 9 (.string a)=some (qM a):=keyOf_string_mk Tryz.underlying9 (zs9 b)
theorem grown_of_below {w w':World} (a:Below w.heap.size w w'):w.grownBy w' none:=⟨a.os,a.tape,a.output,a.size,fun c b _=>a.block c b⟩
theorem zft {w w':World} {c:Option Nat} (d:w.grownBy w' c) {a:Addr} {v:Value} (b:w.cell? a=some v) (e:some a.block≠c):w'.cell? a=some v:=by
 have:=d.block a.block (jS w a b) e;unfold World.cell? at b |-;rw[this];exact b
end face
namespace chk
open Go.RowKit Go.Maps Go.WideMaps
open syn face
def fR (v:Value):Option (DataW Value × List MemPlace):=some (.held v,[])
def kI (w:World) (b n:Nat) (f:ByteArray->Option Value):Prop :=
 ∃D:DataW Value,w.ownsMap Tryz.prog 9 fR b n D/\∀x:ByteArray,Maps.has D (qM x)=(f x).isSome/\∀v,f x=some v->∀z,D.atKey (qM x) z=.held v
theorem zas {v b:Value} {ps:List MemPlace} (a:fR v=some (.held b,ps)):v=b:=by
 unfold fR at a;simp only[jh,Prod.mk.injEq,DataW.held.injEq]at a;exact a.1
section
variable {w w':World} {b n:Nat} {f:ByteArray->Option Value}
theorem kI.made (w:World):kI (w.alloc (.map #[] 0)) w.heap.size 0 (fun _=>none) :=
 ⟨.map [],World.ownsMap_made _ _ _ _,fun b=>⟨rfl,fun v a=>by cases a⟩⟩
theorem kI.lt (a:kI w b n f):b<w.heap.size:=by
 obtain⟨c,a,_⟩:=a;exact a.lt
theorem kI.kept {row:Option Nat} (a:kI w b n f) (e:w.grownBy w' row) (g:some b≠row):kI w' b n f:=by
 obtain⟨c,a,d⟩:=a;exact⟨c,a.kept e g,d⟩
theorem kI.below (a:kI w b n f) (c:Below w.heap.size w w'):kI w' b n f:=a.kept (grown_of_below c) oC
theorem kI.setCell (a:kI w b n f) {c:Addr} (h:b≠c.block) (d:Value):kI (w.setCell c d) b n f:=by
 obtain⟨e,a,g⟩:=a;exact⟨e,a.setCell h d,g⟩
theorem zqr {b a:ByteArray} (d:eqS b a=false):qM b≠qM a:=fun c=>by
 have:=zg5 b a;rw[c,zg5,d]at this;have e:eqS a a=true:=by unfold eqS;simp
 rw[e]at this;cases this
theorem ybj {b c:ByteArray} (a:eqS b c=true):qM b=qM c:=by
 unfold eqS at a;unfold qM;rw[<- ByteArray.toList_eq,<- ByteArray.toList_eq];rw[beq_iff_eq]at a;rw[a]
theorem zki (a:ByteArray):WideAt.IsKeyLit (qM a):=trivial
theorem kI.put {c:DataW Value} {x:ByteArray} {v:Value} (h:∀a:ByteArray,Maps.has c (qM a)=(f a).isSome/\∀v,f a=some v->∀b,c.atKey (qM a) b=.held v) (i:IsMap c):∀a:ByteArray,Maps.has (c.put (qM x) (.held v)) (qM a)=((if eqS a x then some v else f a):Option Value).isSome/\∀d,(if eqS a x then some v else f a)=some d->∀b,(c.put (qM x) (.held v)).atKey (qM a) b=.held d:=by
 intro a
 cases e:eqS a x with
 | true =>
  rw[ybj e,jv rfl];refine⟨has_put_same i (zki x) _,fun d g b=>?_⟩;cases g
  exact atKey_put_same i (zki x) _ _
 | false =>
  rw[ju oD];refine⟨(has_put_other (zqr e) _).trans (h a).1,fun d g b=>?_⟩;rw[atKey_put_other (zqr e)];exact(h a).2 d g b
end
def vQ:Value:=.agg #[.string ⟨#[]⟩,.slice none 0 0,.slice none 0 0]
theorem zry (w:World):(zeroValue 55).run Tryz.prog w=.ok vQ w:=oB
section
variable {w w':World} {b n:Nat} {f:ByteArray->Option Value}
theorem kI.look (c:kI w b n f) (a:ByteArray) (o:a.size<=maxLen):(Instr.lookup 51 (.map (some b)) (.string a) false).run Tryz.prog w=.ok ((f a).getD vQ) w:=by
 obtain⟨d,c,j⟩:=c;obtain⟨v,ps,l,m⟩:=c.lookup vE Tryz.underlying51 (zry w) (zd:=.held vQ) (zp:=[]) rfl (keyOf_string_mk Tryz.underlying9 o);rw[l];obtain⟨e,k⟩:=j a
 have i:d.atKey (qM a) (.held vQ)=.held ((f a).getD vQ):=by
  cases g:f a with
  | none=>rw[g]at e;exact atKey_of_not_has e _
  | some p=>exact k p g _
 have h:fR v=some (d.atKey (qM a) (.held vQ),ps):=m;rw[i]at h;rw[zas h]
theorem kI.store (a:kI w b n f) (k:n<maxLen) (c:ByteArray) (l:c.size<=maxLen) (v:Value):∃w',(Instr.mapUpdate 51 (.map (some b)) (.string c) v).run Tryz.prog w=.ok () w'/\kI w' b (n+1) (fun e=>if eqS e c then some v else f e)/\w.grownBy w' (some b):=by
 obtain⟨m,a,g⟩:=a;obtain⟨w',h,i,j⟩:=a.update vE Tryz.underlying51 k (keyOf_string_mk Tryz.underlying9 l) (d:=.held v) (ps:=[]) rfl;exact⟨w',h,⟨_,i,kI.put g a.isMap⟩,j⟩
end
theorem zbq {w:World} {b n:Nat} {f:ByteArray->Option Value} {o:Array Oper} {rest:List Oper} {d:Oper} {c:Act} {k:Exit->Act->World->Prop} (t:d.guard=none) (h i:Operand) (x:d.op=Op.lookup 51 h i true) (u:c.eval h=.map (some b)) (e:kI w b n f) (a:ByteArray) (z:a.size<=maxLen) (y:c.eval i=.string a) (s:wpList Tryz.prog o k rest (c.put d.dst (.tuple #[(f a).getD vQ,.bool (f a).isSome])) w):wpList Tryz.prog o k (d :: rest) c w:=by
 obtain⟨j,e,q⟩:=e;refine wpList_lookup_own_ok w t h i 51 x 9 55 vE Tryz.underlying51 fR (zry w) (.held vQ) [] rfl b n j u e (.string a) (qM a) y (keyOf_string_mk Tryz.underlying9 z) ?_;intro v ps m;obtain⟨g,r⟩:=q a
 have p:j.atKey (qM a) (.held vQ)=.held ((f a).getD vQ):=by
  cases l:f a with
  | none=>rw[l]at g;exact atKey_of_not_has g _
  | some B=>exact r B l _
 rw[p]at m;rw[zas m,g];exact s
theorem zux {w:World} {b n:Nat} {f:ByteArray->Option Value} {k:Array Oper} {rest:List Oper} {e:Oper} {a:Act} {j:Exit->Act->World->Prop} (r:e.guard=none) (h i v:Operand) (x:e.op=Op.mapUpdate 51 h i v) (t:a.eval h=.map (some b)) (d:kI w b n f) (u:n<maxLen) (c:ByteArray) (B:c.size<=maxLen) (z:a.eval i=.string c) (g:Value) (y:a.eval v=g) (q:∀w',kI w' b (n+1) (fun l=>if eqS l c then some g else f l)->w.grownBy w' (some b)->wpList Tryz.prog k j rest (a.put e.dst undef) w'):wpList Tryz.prog k j (e :: rest) a w:=by
 obtain⟨m,d,o⟩:=d;refine wpList_mapUpdate_own w r h i v 51 x 9 55 vE Tryz.underlying51 fR b n m t d u (.string c) g (qM c) z y (keyOf_string_mk Tryz.underlying9 B) (.held g) [] rfl ?_;intro w' p s;exact q w' ⟨_,p,kI.put o d.isMap⟩ s
end chk
end Go.Proofs.YtbjppepjmcfkaaaGreatDoor
