/- What the program's opOf answers: a contract. -/
import Derived.Test.YtjkcecppnmlhjaaGreatDoorNQr
import Derived.Deep.LoopGhost
import Derived.Test.YtjkcecppnmlhjaaGreatDoorNQ03
open Go.Proofs.Tryz
open Go.Value renaming int → U, string → I, slice → J, bool → Y, agg → Za, pointer → Zp
open Go.IntKind renaming i64 → O
open Go.Obj renaming cells → Zc
open Go.Addr renaming mk → A
open Option renaming none → F, some → Z
open Bool renaming false → X, true → H
open Go renaming World → Zw, Value → Zv
set_option maxHeartbeats 4000000
set_option linter.unusedVariables false
set_option maxRecDepth 100000
set_option linter.unusedSimpArgs false
namespace Go.Proofs.YtjkcecppnmlhjaaGreatDoor
theorem oz04y30 {V:Prop} (x:V:=by
 rcases am with d | d;exact .inl d;exact .inr (by rw[d];simp)):V:=x
theorem oz04y29 {V:Prop} (x:V:=by
 simp[results,results31,go_sem,a2,a3,a5,a6]):V:=x
theorem oz04y31 {g:Prop} (D:g:=by
 rcases av with f | f;exact .inl f;exact .inr (by rw[f];simp)):g:=D
theorem oz04x21 {g:Prop} (D:g:=by
 obtain⟨q,u,rfl⟩:=a.kids.shape;go_wp2_with (fail);have bv:ks.length<=100000:=oA;refine(zI a.mid.rd ⟨#[41]⟩ oC).mono ?_;rintro f p ⟨rfl,d,c⟩;replace a:=a.step d c;clear d c;have bH:=fC ts (kB ts ⟨#[41]⟩ e);go_wp2_with (fail);refine(fK a.mid.rd).mono ?_;rintro f p ⟨rfl,d,c⟩;replace a:=a.step d c;clear d c;obtain⟨R,S,T,V,K,M,N,P⟩:=a.mid.b1;replace a:=a.num (2+(label ts (kB ts ⟨#[41]⟩ e)).1);go_wp2_with (fail);cases B:eqS (txt ts (label ts (kB ts ⟨#[41]⟩ e)).2) ⟨#[103,105,118,101,115]⟩
 case false =>
  have aQ:yH ts 2 (kB ts ⟨#[41]⟩ e)=2+(label ts (kB ts ⟨#[41]⟩ e)).1:=by unfold yH;rw[B,ju oC]<;>simp
  have aw:zM ts (kB ts ⟨#[41]⟩ e)=(label ts (kB ts ⟨#[41]⟩ e)).2:=by unfold zM;rw[B,ju oC]
  rw[aw]at ac;refine(kS a.mid.rd ⟨#[103,105,118,101,115]⟩ oC B).mono ?_;rintro f p ⟨rfl,d,c⟩;replace a:=a.step d c;clear d c;go_wp2_with (fail);refine(aA a.mid.rd ac).mono ?_;rintro f wc ⟨bn,rfl,a3,ar,ap⟩;obtain⟨j,n,l,_,rfl,h,m,i,rfl⟩:=a3.shape;have aa:∀z,(Value.slice q ks.length u).ownBlock=Z z->w.heap.size+2<=z/\z<_:=fun z B=>a.kids.blk B
  have be:=a.mid.size;replace a:=a.step ar ap;have bf:=a.mid.size
  have ab:Lies (fun b=>w.heap.size+2<=b/\b<(wc.alloc (Zc #[U O j,I n,U O l,J h m i] 25)).heap.size/\Z b≠(Value.slice q ks.length u).ownBlock) (wc.alloc (Zc #[U O j,I n,U O l,J h m i] 25)) b.1 (Za #[U O j,I n,U O l,J h m i]) :=
   a3.frP (x:=wc.heap.size) (Fr.al wc _) (fun b W=>⟨W.2,oA⟩) (fun b W=>⟨oA,oG,fun f=>by have:=(aa b f.symm).2;omega⟩)
  replace a:=a.alloc (Zc #[U O j,I n,U O l,J h m i] 25);obtain⟨R,S,T,V,K,M,N,P⟩:=a.mid.b1;obtain⟨ai,a7,a6⟩:=a.kids;have a9:Hid (kW (fun b=>w.heap.size+2<=b/\b<(wc.alloc (Zc #[U O j,I n,U O l,J h m i] 25)).heap.size/\Z b≠(Value.slice q ks.length u).ownBlock) (wc.alloc (Zc #[U O j,I n,U O l,J h m i] 25)) ks ai/\Lies (fun b=>w.heap.size+2<=b/\b<(wc.alloc (Zc #[U O j,I n,U O l,J h m i] 25)).heap.size/\Z b≠(Value.slice q ks.length u).ownBlock) (wc.alloc (Zc #[U O j,I n,U O l,J h m i] 25)) b.1 (Za #[U O j,I n,U O l,J h m i])):=⟨a6,ab⟩
  clear a6 a3 ab aa;go_wp2_with (at_builtin;refine uQ rfl (.tmp 92) (.tmp 94) 23 rfl (w.heap.size+2) 25 ao (Za #[U O 0,I ⟨#[]⟩,U O 0,J F 0 0]) 4 56 underlying23 hi ak am an rfl oC _ _ _ rfl (a7.alloc _) (A (wc.heap.size+1) 0 F) 1 1 [U O j,I n,U O l,J h m i] rfl rfl (xL _ _ _ _ _ _ _ oB) oF (by unfold maxLen;omega) oA oH oC ?_;intro aW aX a8 G av;obtain⟨ad,ae,rfl,aR,_⟩:=own_shape a8;obtain⟨aL,aM,aN,aO,aS,aT,aU,aV⟩:=(a.mid.b1.alloc _).grown G a.nb;have af:=MK.pushed (q:=(U O j,I n,U O l,J h m i)) (t:=b.1) a.mid a7 a9.out.1 a9.out.2 a8 G oz04y31;obtain⟨aC,aD,aE,aF,bh,bi,bj,bm⟩:=(a.mid.b0.alloc _).grown G (fun f=>by have:=(a.kids.blk f).1;omega));refine jT (v:=Za #[U O 4,I C,U O (2+(label ts (kB ts ⟨#[41]⟩ e)).1),J ad (ks.length+1) ae]) (by simp[results,results31,go_sem,aC,aD,aE,aF]) rfl ?_;exact oz04x27
 case true =>
  have aQ:yH ts 2 (kB ts ⟨#[41]⟩ e)=2+(label ts (kB ts ⟨#[41]⟩ e)).1+4+4*(label ts (label ts (kB ts ⟨#[41]⟩ e)).2.next).1:=by unfold yH;rw[B,jv rfl]<;>simp
  have aw:zM ts (kB ts ⟨#[41]⟩ e)=(label ts (label ts (kB ts ⟨#[41]⟩ e)).2.next).2:=by unfold zM;rw[B,jv rfl]
  rw[aw]at ac;have bN:=fC ts (label ts (kB ts ⟨#[41]⟩ e)).2.next;refine(zU a.mid.rd ⟨#[103,105,118,101,115]⟩ oC B).mono ?_;rintro f p ⟨rfl,d,c⟩;replace a:=a.step d c;clear d c;go_wp2_with (fail);refine(fK a.mid.rd).mono ?_;rintro f p ⟨rfl,d,c⟩;replace a:=a.step d c;clear d c;obtain⟨R,S,T,V,K,M,N,P⟩:=a.mid.b1;replace a:=a.num (2+(label ts (kB ts ⟨#[41]⟩ e)).1+4+4*(label ts (label ts (kB ts ⟨#[41]⟩ e)).2.next).1);go_wp2_with (fail);refine(aA a.mid.rd ac).mono ?_;rintro f wc ⟨bn,rfl,a3,ar,ap⟩;obtain⟨j,n,l,_,rfl,h,m,i,rfl⟩:=a3.shape;have aa:∀z,(Value.slice q ks.length u).ownBlock=Z z->w.heap.size+2<=z/\z<_:=fun z B=>a.kids.blk B
  have be:=a.mid.size;replace a:=a.step ar ap;have bf:=a.mid.size
  have ab:Lies (fun b=>w.heap.size+2<=b/\b<(wc.alloc (Zc #[U O j,I n,U O l,J h m i] 25)).heap.size/\Z b≠(Value.slice q ks.length u).ownBlock) (wc.alloc (Zc #[U O j,I n,U O l,J h m i] 25)) b.1 (Za #[U O j,I n,U O l,J h m i]) :=
   a3.frP (x:=wc.heap.size) (Fr.al wc _) (fun b W=>⟨W.2,oA⟩) (fun b W=>⟨oA,oG,fun f=>by have:=(aa b f.symm).2;omega⟩)
  replace a:=a.alloc (Zc #[U O j,I n,U O l,J h m i] 25);obtain⟨R,S,T,V,K,M,N,P⟩:=a.mid.b1;obtain⟨ai,a7,a6⟩:=a.kids;have a9:Hid (kW (fun b=>w.heap.size+2<=b/\b<(wc.alloc (Zc #[U O j,I n,U O l,J h m i] 25)).heap.size/\Z b≠(Value.slice q ks.length u).ownBlock) (wc.alloc (Zc #[U O j,I n,U O l,J h m i] 25)) ks ai/\Lies (fun b=>w.heap.size+2<=b/\b<(wc.alloc (Zc #[U O j,I n,U O l,J h m i] 25)).heap.size/\Z b≠(Value.slice q ks.length u).ownBlock) (wc.alloc (Zc #[U O j,I n,U O l,J h m i] 25)) b.1 (Za #[U O j,I n,U O l,J h m i])):=⟨a6,ab⟩
  clear a6 a3 ab aa;go_wp2_with (at_builtin;refine uQ rfl (.tmp 92) (.tmp 94) 23 rfl (w.heap.size+2) 25 ao (Za #[U O 0,I ⟨#[]⟩,U O 0,J F 0 0]) 4 56 underlying23 hi ak am an rfl oC _ _ _ rfl (a7.alloc _) (A (wc.heap.size+1) 0 F) 1 1 [U O j,I n,U O l,J h m i] rfl rfl (xL _ _ _ _ _ _ _ oB) oF (by unfold maxLen;omega) oA oH oC ?_;intro aW aX a8 G av;obtain⟨ad,ae,rfl,aR,_⟩:=own_shape a8;obtain⟨aL,aM,aN,aO,aS,aT,aU,aV⟩:=(a.mid.b1.alloc _).grown G a.nb;have af:=MK.pushed (q:=(U O j,I n,U O l,J h m i)) (t:=b.1) a.mid a7 a9.out.1 a9.out.2 a8 G oz04y31;obtain⟨aC,aD,aE,aF,bh,bi,bj,bm⟩:=(a.mid.b0.alloc _).grown G (fun f=>by have:=(a.kids.blk f).1;omega));refine jT (v:=Za #[U O 4,I C,U O (2+(label ts (kB ts ⟨#[41]⟩ e)).1+4+4*(label ts (label ts (kB ts ⟨#[41]⟩ e)).2.next).1),J ad (ks.length+1) ae]) (by simp[results,results31,go_sem,aC,aD,aE,aF]) rfl ?_
  exact oz04x27):g:=D
theorem oz04x23 {g:Prop} (D:g:=by
 cases gk with
 | zero=>have:=aG.out;simp[yB]at this
 | succ k =>
  have aI:yB ts (k+1) ks e=Z g:=by have:=aG.out;simpa using this
  clear aG;unfold yB at aI;obtain⟨q,u,rfl⟩:=a.kids.shape;have bw:=a.nr;have aa:∀z,(Value.slice q ks.length u).ownBlock=Z z->w.heap.size+2<=z/\z<wr.heap.size:=fun z B=>a.kids.blk B
  have bo:=a.kids;have bp:=a.mid.alloc (Zc #[U O 5,I empty,U O 0,J F 0 0] 25);have cj:=a.mid.size;have ci:=a.mid.old;have br:=Box4.new wr (U O 5) (I empty) (U O 0) (J F 0 0) 25;go_wp2_with (fail);refine(fK bp.rd).mono ?_;rintro f cb ⟨rfl,bS,aK⟩;have bZ:=aK.size;rw[jO]at bZ;have bP:=(bp.step bS aK)
  have bX:=br.fr aK oA;obtain⟨cd,ce,cf,cg,c7,c8,c9,ca⟩:=bX;have b6:=bP.other (o:=2) (show w.heap.size+2<=wr.heap.size by omega) (U O (label ts e).1);have bs:=(br.fr aK oA).set2 (U O (label ts e).1);go_wp2_with (fail);refine(gF b6.rd).mono ?_;rintro f aJ ⟨rfl,bq,aH⟩;have c6:=aH.size;simp only[jQ]at c6;have bR:=(b6.step bq aH).other (o:=1) (show w.heap.size+2<=wr.heap.size by omega) (I (name ts (label ts e).2).1);have bY:=bs.fr aH oA;obtain⟨cd,ce,cf,cg,c7,c8,c9,ca⟩:=bY;have ch:=(bs.fr aH oA).set1 (I (name ts (label ts e).2).1);have bu:(Value.slice q ks.length u).ownBlock≠Z wr.heap.size:=fun f=>by have:=(aa _ f).2;omega
  have bz:=bo.grown (Q:=fun b=>w.heap.size+2<=b/\b<wr.heap.size/\Z b≠(Value.slice q ks.length u).ownBlock) (World.grownBy_alloc wr (Zc #[U O 5,I empty,U O 0,J F 0 0] 25) F) (by cases D:(Value.slice q ks.length u).ownBlock<;>simp) (fun b W=>⟨W.2.1,oB⟩) (fun _ D=>D);have bD:=bz.grown (Q:=fun b=>w.heap.size+2<=b/\b<wr.heap.size/\Z b≠(Value.slice q ks.length u).ownBlock) aK (.inr bw) (fun b W=>⟨oG,oE⟩) (fun _ D=>D);have bE:=bD.grown (Q:=fun b=>w.heap.size+2<=b/\b<wr.heap.size/\Z b≠(Value.slice q ks.length u).ownBlock) ((Fr.refl wr.heap.size cb).set 2 (U O (label ts e).1)) (.inr bu) (fun b W=>⟨oA,oE⟩) (fun _ D=>D);have bF:=bE.grown (Q:=fun b=>w.heap.size+2<=b/\b<wr.heap.size/\Z b≠(Value.slice q ks.length u).ownBlock) aH (.inr bw) (fun b W=>⟨oN,oE⟩) (fun _ D=>D);have bG:=bF.grown (Q:=fun b=>w.heap.size+2<=b/\b<wr.heap.size/\Z b≠(Value.slice q ks.length u).ownBlock) ((Fr.refl wr.heap.size aJ).set 1 (I (name ts (label ts e).2).1)) (.inr bu) (fun b W=>⟨oA,oE⟩) (fun _ D=>D);replace a:=MK.of bR bG oN;clear bz bD bE bF bG bo;have bv:ks.length<=100000:=oA;have ck:w.heap.size+1<aJ.heap.size:=oA;have cm:wr.heap.size<aJ.heap.size:=oA;obtain⟨R,S,T,V,K,M,N,P⟩:=(b6.step bq aH).b1;obtain⟨ai,a7,a6⟩:=a.kids;have a9:Hid (kW (fun b=>w.heap.size+2<=b/\b<(aJ.setCell (A wr.heap.size 1 F) (I (name ts (label ts e).2).1)).heap.size/\Z b≠(Value.slice q ks.length u).ownBlock) (aJ.setCell (A wr.heap.size 1 F) (I (name ts (label ts e).2).1)) ks ai):=a6;clear a6;go_wp2_with (at_builtin;refine uQ rfl (.tmp 64) (.tmp 66) 23 rfl (w.heap.size+2) 25 ao (Za #[U O 0,I ⟨#[]⟩,U O 0,J F 0 0]) 4 56 underlying23 hi ak am an rfl oC _ _ _ rfl (a7.alloc _) (A aJ.heap.size 0 F) 1 1 [U O 5,I (name ts (label ts e).2).1,U O (label ts e).1,J F 0 0] rfl rfl (xL _ _ _ _ _ _ _ oB) oF (by unfold maxLen;omega) oA oH oC ?_;intro aW aX a8 G av;obtain⟨ad,ae,rfl,aR,_⟩:=own_shape a8;obtain⟨aL,aM,aN,aO,aS,aT,aU,aV⟩:=(a.mid.b1.alloc _).grown G a.nb;have af:=MK.pushed (q:=(U O 5,I (name ts (label ts e).2).1,U O (label ts e).1,J F 0 0)) (t:=.node 5 (name ts (label ts e).2).1 (label ts e).1 []) a.mid a7 a9.out (Lies.leaf _ _ _ _ _) a8 G (by rcases av with f | f;exact .inl f;exact .inr (by rw[f];simp)));cases aP:eqS (txt ts (name ts (label ts e).2).2) ⟨#[44]⟩
  case true =>
   rw[aP,jv rfl]at aI;refine(zU af.mid.rd ⟨#[44]⟩ oC aP).mono ?_;rintro f cc ⟨rfl,b7,aZ⟩;have b2:=af.step b7 aZ;go_wp2
   go_roundg k
   case measure=>exact Nat.lt_succ_self _
   case rel=>exact⟨ks++[.node 5 (name ts (label ts e).2).1 (label ts e).1 []],_,J ad (ks.length+1) ae,H,rfl,(jv rfl).mpr aI,oL,b2⟩
  case false =>
   rw[aP,ju oC]at aI;simp only[jh]at aI;refine(kS af.mid.rd ⟨#[44]⟩ oC aP).mono ?_;rintro f cc ⟨rfl,b7,aZ⟩;have b2:=af.step b7 aZ;go_wp2
   go_roundg k
   case measure=>exact Nat.lt_succ_self _
   case rel=>exact⟨ks++[.node 5 (name ts (label ts e).2).1 (label ts e).1 []],_,J ad (ks.length+1) ae,X,rfl,(ju oC).mpr aI,oL,b2⟩):g:=D
theorem oz04x27 {g:Prop} (D:g:=by
 rw[aQ]
 exact af.fin aj oL):g:=D
theorem oz04y32 {g:Prop} (D:g:=by
 rcases av with f | f;exact .inl f;exact .inr (by rw[f];simp)):g:=D
theorem oz04x22 {g:Prop} (D:g:=by
 obtain⟨q,u,rfl⟩:=a.kids.shape;go_wp2_with (fail);have bv:ks.length<=100000:=oA;refine(zI a.mid.rd ⟨#[41]⟩ oC).mono ?_;rintro f p ⟨rfl,d,c⟩;replace a:=a.step d c;clear d c;have bH:=fC ts (kB ts ⟨#[41]⟩ e);go_wp2_with (fail);refine(fK a.mid.rd).mono ?_;rintro f p ⟨rfl,d,c⟩;replace a:=a.step d c;clear d c;obtain⟨R,S,T,V,K,M,N,P⟩:=a.mid.b1;replace a:=a.num ((label ts (kB ts ⟨#[41]⟩ e)).1);go_wp2_with (fail);cases B:eqS (txt ts (label ts (kB ts ⟨#[41]⟩ e)).2) ⟨#[103,105,118,101,115]⟩
 case false =>
  have aQ:yH ts 0 (kB ts ⟨#[41]⟩ e)=(label ts (kB ts ⟨#[41]⟩ e)).1:=by unfold yH;rw[B,ju oC]<;>simp
  have aw:zM ts (kB ts ⟨#[41]⟩ e)=(label ts (kB ts ⟨#[41]⟩ e)).2:=by unfold zM;rw[B,ju oC]
  rw[aw]at ac;refine(kS a.mid.rd ⟨#[103,105,118,101,115]⟩ oC B).mono ?_;rintro f p ⟨rfl,d,c⟩;replace a:=a.step d c;clear d c;go_wp2_with (fail);refine(aA a.mid.rd ac).mono ?_;rintro f wc ⟨bn,rfl,a3,ar,ap⟩;obtain⟨j,n,l,_,rfl,h,m,i,rfl⟩:=a3.shape;have aa:∀z,(Value.slice q ks.length u).ownBlock=Z z->w.heap.size+2<=z/\z<_:=fun z B=>a.kids.blk B
  have be:=a.mid.size;replace a:=a.step ar ap;have bf:=a.mid.size
  have ab:Lies (fun b=>w.heap.size+2<=b/\b<(wc.alloc (Zc #[U O j,I n,U O l,J h m i] 25)).heap.size/\Z b≠(Value.slice q ks.length u).ownBlock) (wc.alloc (Zc #[U O j,I n,U O l,J h m i] 25)) b.1 (Za #[U O j,I n,U O l,J h m i]) :=
   a3.frP (x:=wc.heap.size) (Fr.al wc _) (fun b W=>⟨W.2,oA⟩) (fun b W=>⟨oA,oG,fun f=>by have:=(aa b f.symm).2;omega⟩)
  replace a:=a.alloc (Zc #[U O j,I n,U O l,J h m i] 25);obtain⟨R,S,T,V,K,M,N,P⟩:=a.mid.b1;obtain⟨ai,a7,a6⟩:=a.kids;have a9:Hid (kW (fun b=>w.heap.size+2<=b/\b<(wc.alloc (Zc #[U O j,I n,U O l,J h m i] 25)).heap.size/\Z b≠(Value.slice q ks.length u).ownBlock) (wc.alloc (Zc #[U O j,I n,U O l,J h m i] 25)) ks ai/\Lies (fun b=>w.heap.size+2<=b/\b<(wc.alloc (Zc #[U O j,I n,U O l,J h m i] 25)).heap.size/\Z b≠(Value.slice q ks.length u).ownBlock) (wc.alloc (Zc #[U O j,I n,U O l,J h m i] 25)) b.1 (Za #[U O j,I n,U O l,J h m i])):=⟨a6,ab⟩
  clear a6 a3 ab aa;go_wp2_with (at_builtin;refine uQ rfl (.tmp 92) (.tmp 94) 23 rfl (w.heap.size+2) 25 ao (Za #[U O 0,I ⟨#[]⟩,U O 0,J F 0 0]) 4 56 underlying23 hi ak am an rfl oC _ _ _ rfl (a7.alloc _) (A (wc.heap.size+1) 0 F) 1 1 [U O j,I n,U O l,J h m i] rfl rfl (xL _ _ _ _ _ _ _ oB) oF (by unfold maxLen;omega) oA oH oC ?_;intro aW aX a8 G av;obtain⟨ad,ae,rfl,aR,_⟩:=own_shape a8;obtain⟨aL,aM,aN,aO,aS,aT,aU,aV⟩:=(a.mid.b1.alloc _).grown G a.nb;have af:=MK.pushed (q:=(U O j,I n,U O l,J h m i)) (t:=b.1) a.mid a7 a9.out.1 a9.out.2 a8 G oz04y32;obtain⟨aC,aD,aE,aF,bh,bi,bj,bm⟩:=(a.mid.b0.alloc _).grown G (fun f=>by have:=(a.kids.blk f).1;omega));refine jT (v:=Za #[U O 4,I C,U O ((label ts (kB ts ⟨#[41]⟩ e)).1),J ad (ks.length+1) ae]) (by simp[results,results31,go_sem,aC,aD,aE,aF]) rfl ?_;exact oz04x27
 case true =>
  have aQ:yH ts 0 (kB ts ⟨#[41]⟩ e)=(label ts (kB ts ⟨#[41]⟩ e)).1+4+4*(label ts (label ts (kB ts ⟨#[41]⟩ e)).2.next).1:=by unfold yH;rw[B,jv rfl]<;>simp
  have aw:zM ts (kB ts ⟨#[41]⟩ e)=(label ts (label ts (kB ts ⟨#[41]⟩ e)).2.next).2:=by unfold zM;rw[B,jv rfl]
  rw[aw]at ac;have bN:=fC ts (label ts (kB ts ⟨#[41]⟩ e)).2.next;refine(zU a.mid.rd ⟨#[103,105,118,101,115]⟩ oC B).mono ?_;rintro f p ⟨rfl,d,c⟩;replace a:=a.step d c;clear d c;go_wp2_with (fail);refine(fK a.mid.rd).mono ?_;rintro f p ⟨rfl,d,c⟩;replace a:=a.step d c;clear d c;obtain⟨R,S,T,V,K,M,N,P⟩:=a.mid.b1;replace a:=a.num ((label ts (kB ts ⟨#[41]⟩ e)).1+4+4*(label ts (label ts (kB ts ⟨#[41]⟩ e)).2.next).1);go_wp2_with (fail);refine(aA a.mid.rd ac).mono ?_;rintro f wc ⟨bn,rfl,a3,ar,ap⟩;obtain⟨j,n,l,_,rfl,h,m,i,rfl⟩:=a3.shape;have aa:∀z,(Value.slice q ks.length u).ownBlock=Z z->w.heap.size+2<=z/\z<_:=fun z B=>a.kids.blk B
  have be:=a.mid.size;replace a:=a.step ar ap;have bf:=a.mid.size
  have ab:Lies (fun b=>w.heap.size+2<=b/\b<(wc.alloc (Zc #[U O j,I n,U O l,J h m i] 25)).heap.size/\Z b≠(Value.slice q ks.length u).ownBlock) (wc.alloc (Zc #[U O j,I n,U O l,J h m i] 25)) b.1 (Za #[U O j,I n,U O l,J h m i]) :=
   a3.frP (x:=wc.heap.size) (Fr.al wc _) (fun b W=>⟨W.2,oA⟩) (fun b W=>⟨oA,oG,fun f=>by have:=(aa b f.symm).2;omega⟩)
  replace a:=a.alloc (Zc #[U O j,I n,U O l,J h m i] 25);obtain⟨R,S,T,V,K,M,N,P⟩:=a.mid.b1;obtain⟨ai,a7,a6⟩:=a.kids;have a9:Hid (kW (fun b=>w.heap.size+2<=b/\b<(wc.alloc (Zc #[U O j,I n,U O l,J h m i] 25)).heap.size/\Z b≠(Value.slice q ks.length u).ownBlock) (wc.alloc (Zc #[U O j,I n,U O l,J h m i] 25)) ks ai/\Lies (fun b=>w.heap.size+2<=b/\b<(wc.alloc (Zc #[U O j,I n,U O l,J h m i] 25)).heap.size/\Z b≠(Value.slice q ks.length u).ownBlock) (wc.alloc (Zc #[U O j,I n,U O l,J h m i] 25)) b.1 (Za #[U O j,I n,U O l,J h m i])):=⟨a6,ab⟩
  clear a6 a3 ab aa;go_wp2_with (at_builtin;refine uQ rfl (.tmp 92) (.tmp 94) 23 rfl (w.heap.size+2) 25 ao (Za #[U O 0,I ⟨#[]⟩,U O 0,J F 0 0]) 4 56 underlying23 hi ak am an rfl oC _ _ _ rfl (a7.alloc _) (A (wc.heap.size+1) 0 F) 1 1 [U O j,I n,U O l,J h m i] rfl rfl (xL _ _ _ _ _ _ _ oB) oF (by unfold maxLen;omega) oA oH oC ?_;intro aW aX a8 G av;obtain⟨ad,ae,rfl,aR,_⟩:=own_shape a8;obtain⟨aL,aM,aN,aO,aS,aT,aU,aV⟩:=(a.mid.b1.alloc _).grown G a.nb;have af:=MK.pushed (q:=(U O j,I n,U O l,J h m i)) (t:=b.1) a.mid a7 a9.out.1 a9.out.2 a8 G oz04y32;obtain⟨aC,aD,aE,aF,bh,bi,bj,bm⟩:=(a.mid.b0.alloc _).grown G (fun f=>by have:=(a.kids.blk f).1;omega));refine jT (v:=Za #[U O 4,I C,U O ((label ts (kB ts ⟨#[41]⟩ e)).1+4+4*(label ts (label ts (kB ts ⟨#[41]⟩ e)).2.next).1),J ad (ks.length+1) ae]) (by simp[results,results31,go_sem,aC,aD,aE,aF]) rfl ?_
  exact oz04x27):g:=D
theorem oz04x26 {m:Prop} (b:m:=by
 go_wp2_with (fail);refine h.mono ?_;rintro f q ⟨rfl,p⟩;obtain rfl:=p.symm;go_wp2_with (fail);refine l.mono ?_;rintro f t ⟨rfl,o,n⟩;go_wp2;go_ret
 exact⟨rfl,o,n⟩):m:=b
theorem oz04x24 {a:Prop} (d:a:=by
 simp only[Bool.true_or,Bool.or_true,Bool.false_or,Bool.not_true,Bool.false_and];go_enter func37,ntmps37;go_wp2;go_ret
 exact⟨rfl,bal _⟩):a:=d
theorem oz04y28 {aU:Prop} (ag:aU:=by
 simp[results,results131,go_sem,W,a2,a3,a5]):aU:=ag
theorem oz04x25 {aD:Prop} (g:aD:=by
 subst l;obtain⟨h,i,rfl⟩:=y.shape;go_wp2_with (fail);refine(zI ad ⟨#[41]⟩ oC).mono ?_;rintro c f ⟨rfl,ac,m⟩;have aC:=m.size;obtain⟨aj,j,ak,am,aY,aZ,b0,b1⟩:=ae.fr m oA;obtain⟨aE,aF,aG,aH,_,_,_,_⟩:=S.fr m oA
 have E:Kids (w.heap.size+2) (fun a=>w.heap.size+1<=a/\a<f.heap.size) f (J h ks.length i) ks :=
  y.grown m (.inr fun c=>by have:=(p r c).1;omega) (fun a e=>⟨e.2.1,oE⟩) (fun a e=>⟨oA,oA⟩)
 have z:Hid (Lies (fun a=>w.heap.size+1<=a/\a<f.heap.size) f (.node 18 x 0 ks) (Za #[U O 18,I x,U O 0,J h ks.length i])) :=
  E.lies (fun _ g=>g) (fun d o=>⟨by have:=(p d o).1;omega,by have:=(p d o).2;omega⟩) oA
 clear y E p;go_wp2
 exact jT (v:=Za #[U O 18,I x,U O 0,J h ks.length i]) (by simp[results,results111,go_sem,aj,j,ak,am]) rfl
  (Ans.fin C (av.trans m) ac (Nat.lt_succ_self _) z.out)):aD:=g
namespace syn
open Go.RowKit
open lexs (Tok tok_cells own_shape)
section
variable {w:Zw} {r:Nat} {L:Zv} {ts:List Tok} {s:St}
variable {b c:Nat} {d e:Tree} {f g:Zw}
theorem Lies.frP {c Q:Nat->Prop} {x:Nat} {v:Zv} (i:Lies c f d v) (j:Fr x f g) (e:∀b,c b->b<f.heap.size/\b≠x) (k:∀b,c b->Q b):Lies Q g d v :=
 i.to k (fun b h l=>jM (a:=(A b l F)) (j.block b (e b h).1 (by have:=(e b h).2;simpa using this)))
theorem Lies.two {a:Nat->Prop} {v f:Zv} {k m:Int} {x:ByteArray} (l:a b) (g:cell4 w b 0 v) (h:cell4 w b 4 f) (i:Lies a w d v) (j:Lies a w e f) (n:2<=c:=by omega):Lies a w (.node k x m [d,e]) (Za #[U O k,I x,U O m,J (Z (A b 0 F)) 2 c]):=by
 unfold Lies;refine⟨Z (A b 0 F),c,rfl,⟨oB,by simpa using n⟩,fun _=>⟨b,0,rfl,l,?_⟩⟩;unfold kQ;refine⟨⟨v,g,i⟩,?_⟩;unfold kQ;exact⟨⟨f,h,j⟩,by unfold kQ;trivial⟩
theorem zeo (w:Zw) {y0 y1 y2 y3 z0 z1 z2 z3:Zv} {T:TypeId} {M:Nat} (a:M=w.heap.size):cell4 (w.alloc (Zc #[y0,y1,y2,y3,z0,z1,z2,z3] T)) M 0 (Za #[y0,y1,y2,y3])/\cell4 (w.alloc (Zc #[y0,y1,y2,y3,z0,z1,z2,z3] T)) M 4 (Za #[z0,z1,z2,z3]):=by
 subst a;exact⟨⟨y0,y1,y2,y3,rfl,oB,oB,oB,oB⟩,⟨z0,z1,z2,z3,rfl,oB,oB,oB,oB⟩⟩
theorem Box4.put {j d e f c g h i:Zv} (a:Box4 w b j d e f):Box4 ((((w.setCell (A b 0 F) c).setCell (A b 1 F) g).setCell (A b 2 F) h).setCell (A b 3 F) i) b c g h i:=by
 have k:∀o,(World.setCell w (A b 0 F) c).frozen? (A b o F)=w.frozen? (A b o F):=fun o=>oB
 refine⟨?_,?_,?_,?_,by simp[a.f0],by simp[a.f1],by simp[a.f2],by simp[a.f3]⟩;·rw[jD _ _ _ _ oB,jD _ _ _ _ oB,jD _ _ _ _ oB];exact jS _ _ _ a.c0
 ·rw[jD _ _ _ _ oB,jD _ _ _ _ oB];exact jS _ _ _ (u:=d) (by rw[jD _ _ _ _ oB];exact a.c1)
 ·rw[jD _ _ _ _ oB];exact jS _ _ _ (u:=e) (by rw[jD _ _ _ _ oB,jD _ _ _ _ oB];exact a.c2)
 ·exact jS _ _ _ (u:=f) (by rw[jD _ _ _ _ oB,jD _ _ _ _ oB,jD _ _ _ _ oB];exact a.c3)
theorem Ans.row2 {y:St} {g h i j l n o q:Zv} {s:TypeId} {k m:Int} {x:ByteArray} (u:Fr r w f) (D:Rd f r L ts y) (z:Lies (fun a=>w.heap.size<=a/\a<f.heap.size) f d (Za #[g,h,i,j])) (B:Lies (fun a=>w.heap.size<=a/\a<f.heap.size) f e (Za #[l,n,o,q])) (C:b=f.heap.size) : Ans w r L ts (.node k x m [d,e],y) (.returned (Za #[U O k,I x,U O m,J (Z (A b 0 F)) 2 2])) (f.alloc (Zc #[g,h,i,j,l,n,o,q] s)):=by
 have E:=u.size;have v:=zeo f (y0:=g) (y1:=h) (y2:=i) (y3:=j) (z0:=l) (z1:=n) (z2:=o) (z3:=q) (T:=s) C;refine⟨_,rfl,?_,D.alloc _,u.alloc _⟩;refine Lies.two ⟨oA,oG⟩ v.1 v.2 ?_ ?_;·exact z.to (fun a c=>⟨c.1,oG⟩) (fun a c t=>((Below.refl f.heap.size f).alloc (jE _) _).cell (p:=(A a t F)) c.2)
 ·exact B.to (fun a c=>⟨c.1,oG⟩) (fun a c t=>((Below.refl f.heap.size f).alloc (jE _) _).cell (p:=(A a t F)) c.2)
theorem Lies.three {v h i j k l m n o:Zv} {g:Obj} (p:Lies (fun a=>b<a/\a≠c/\a<f.heap.size) f d v) : Lies (fun a=>b<=a/\a<(((((((((f.setCell (A c 0 F) h).setCell (A c 1 F) i).setCell (A c 2 F) j).setCell (A c 3 F) k).setCell (A b 0 F) l).setCell (A b 1 F) m).setCell (A b 2 F) n).setCell (A b 3 F) o).alloc g).heap.size) (((((((((f.setCell (A c 0 F) h).setCell (A c 1 F) i).setCell (A c 2 F) j).setCell (A c 3 F) k).setCell (A b 0 F) l).setCell (A b 1 F) m).setCell (A b 2 F) n).setCell (A b 3 F) o).alloc g) d v:=by
 have q:=p.frP (Q:=fun a=>b<a/\a<f.heap.size) (Fr.put f c h i j k) (fun a e=>⟨e.2.2,e.2.1⟩) (fun a e=>⟨e.1,e.2.2⟩);have r:=q.frP (Q:=fun a=>b<a/\a<f.heap.size) (Fr.put _ b l m n o) (fun a e=>⟨by simpa using e.2,oA⟩) (fun a e=>e);exact r.frP (x:=b) (Fr.al _ g) (fun a e=>⟨by simpa using e.2,oA⟩) (fun a e=>⟨oA,oE⟩)
theorem Lies.three' {v i j k l:Zv} {g h:Obj} (m:Lies (fun a=>b<a/\a≠c/\a<f.heap.size) f d v) : Lies (fun a=>b<a/\a≠c/\a<((((((f.setCell (A c 0 F) i).setCell (A c 1 F) j).setCell (A c 2 F) k).setCell (A c 3 F) l).alloc g).alloc h).heap.size) ((((((f.setCell (A c 0 F) i).setCell (A c 1 F) j).setCell (A c 2 F) k).setCell (A c 3 F) l).alloc g).alloc h) d v:=by
 have n:=m.frP (Q:=fun a=>b<a/\a≠c/\a<f.heap.size) (Fr.put f c i j k l) (fun a e=>⟨e.2.2,e.2.1⟩) (fun a e=>e);have o:=n.frP (x:=c) (Q:=fun a=>b<a/\a≠c/\a<f.heap.size) (Fr.al _ g) (fun a e=>⟨by simpa using e.2.2,e.2.1⟩) (fun a e=>e);exact o.frP (x:=c) (Fr.al _ h) (fun a e=>⟨oE,e.2.1⟩) (fun a e=>⟨e.1,e.2.1,oE⟩)
theorem Rd.next (a:Rd w r L ts s) (b:s.i<ts.length):Rd (w.setCell (A r 1 F) (U O ((s.i:Int)+1))) r L ts s.next:=a.setAt (s.i+1) b
set_option maxRecDepth 100000 in
theorem yae (bs:∀ {w:Zw} {s:St} {f:Tree × St},Rd w r L ts s->zQ ts b s=Z f->Calls prog 143 #[Zp (Z (A r 0 F))] w (Ans w r L ts f)) (aT:∀ {P:Nat},P<=b->∀ {w:Zw} {s:St} {f:Tree × St} (c:Nat),c<=3->Rd w r L ts s->qL ts P c s=Z f->Calls prog 131 #[Zp (Z (A r 0 F)),U O c] w (Ans w r L ts f)) (h:Rd w r L ts s) (c:Nat) (bF:c<=3) {f:Tree × St} (l:qL ts (b+1) c s=Z f):Calls prog 131 #[Zp (Z (A r 0 F)),U O c] w (Ans w r L ts f):=by
 have bz:=kc25;have bo:=h.lt;have aL:=Box4.new w (U O 0) (I empty) (U O 0) (J F 0 0) 25;unfold qL at l;by_cases aJ:2<c
 ·rw[jv aJ]at l;go_enter func131,ntmps131;go_wp2_with (fail);refine(bs (h.alloc _) l).mono ?_;rintro G b0 ⟨c6,rfl,aN,bm,aM⟩;obtain⟨k,aE,m,_,rfl,b8,n,bc,rfl⟩:=aN.shape;obtain⟨W,a2,a3,a5,az,aA,aB,aC⟩:=aL.fr aM oA;go_wp2
  exact jT (v:=Za #[U O k,I aE,U O m,J b8 n bc]) oz04y28 rfl
   (Ans.fin h ((Fr.al _ _).trans aM) bm oG aN)
 ·rw[ju aJ]at l
  cases ah:qL ts b (c+1) s with
  | none=>rw[ah]at l;simp at l
  | some aa =>
   rw[ah]at l;simp only[jf]at l;have aI:Hid (zD ts b c aa.1 aa.2=Z f):=l
   have aK:∀ {P:Nat} {w:Zw} {s:St} {f:Tree × St},P<=b->Rd w r L ts s->qL ts P (c+1) s=Z f->Calls prog 131 #[Zp (Z (A r 0 F)),U O ((c:Int)+1)] w (Ans w r L ts f):=fun bn h ag=>by
    have:=aT bn (c+1) oA h ag;rw[Int.natCast_add]at this;exact this
   clear aT l;go_enter func131,ntmps131;go_wp2_with (fail);refine(aK (jE _) (h.alloc _) ah).mono ?_;rintro G j ⟨bZ,rfl,am,bj,aj⟩;obtain⟨bu,b1,bv,_,rfl,b9,bw,be,rfl⟩:=am.shape;have b2:=aj.size;rw[jO]at b2 am;go_wp2
   go_loopg [] b (fun k wr=>∃(n:Tree) (o:St) (z B:Int) (D:ByteArray) (q:Option Addr) (C t:Nat),Hid (zD ts k c n o=Z f)/\k<=b/\Box4 wr w.heap.size (U O 0) (I empty) (U O 0) (J F 0 0)/\Box4 wr j.heap.size (U O z) (I D) (U O B) (J q C t) /\
    Lies (fun d=>w.heap.size<d/\d≠j.heap.size/\d<wr.heap.size) wr n (Za #[U O z,I D,U O B,J q C t])/\Rd wr r L ts o/\Fr r w wr)
   case atStart =>
    refine⟨aa.1,aa.2,bu,bv,b1,b9,bw,be,aI.out,jE _,(aL.fr aj oA).alloc _,Box4.new _ _ _ _ _ _,?_,bj.alloc _,(((Fr.al _ _).trans aj).alloc _)⟩;exact am.frP (x:=r) (Fr.al _ _) (fun d e=>⟨e.2,oA⟩) (fun d e=>⟨oA,oA,oG⟩)
   case round =>
    obtain⟨n,o,z,B,D,q,C,t,ab,bE,a7,R,a6,y,ak⟩:=hrel;have bp:=R.lt;have bG:(c:Int)+1<=3:=oA
    cases gk with
    | zero=>have:=ab.out;unfold zD at this;simp at this
    | succ k =>
     have a:=ab.out;clear ab aI;unfold zD at a;cases a8:o.bad
     case true =>
      rw[a8]at a;simp only[if_true,jh]at a;subst a;have ae:=y.c2;rw[a8]at ae;obtain⟨W,a2,a3,a5,az,aA,aB,aC⟩:=a7;obtain⟨aV,aW,aX,aY,_,_,_,_⟩:=R;go_wp2
      exact jT (v:=Za #[U O z,I D,U O B,J q C t]) oz04y28 rfl
       (Ans.fin h ak y (Nat.lt_succ_self _) (a6.to (fun d e=>⟨e.1,e.2.2⟩) (fun _ _ _=>rfl)))
     case false =>
      rw[a8]at a;simp only[jr,if_false]at a;have ae:=y.c2;rw[a8]at ae;have ap:=yK _ r L ts o y;have Q:=ya9 (txt ts o);have N:0<=(sign (txt ts o)).2->o.i<ts.length:=zgr;generalize txt ts o=aE at ap Q a N;generalize sign aE=sg at Q a N;obtain⟨so,aZ⟩:=sg;dsimp only at Q a N;cases ar:(aZ != (c:Int))
      case true =>
       rw[ar]at a;simp only[if_true,jh]at a;subst a
       go_wp2_with (first
        | (go_at_call 59;refine ap.mono ?_;rintro G b0 ⟨rfl,V,rfl⟩)
        | (go_at_call 144;refine(Q _).mono ?_;rintro G aD ⟨rfl,S⟩;have u:Fr r wr aD:=((Fr.refl _ _).drewN V).trans (Fr.below S);obtain⟨W,a2,a3,a5,az,aA,aB,aC⟩:=a7.fr u oA;obtain⟨aV,aW,aX,aY,_,_,_,_⟩:=R.fr u oA))
       exact jT (v:=Za #[U O z,I D,U O B,J q C t]) oz04y28 rfl
        (Ans.fin h (ak.trans u) ((y.drewN V).below S) (Nat.lt_succ_self _) (a6.frP u (fun d e=>⟨e.2.2,oA⟩) (fun d e=>⟨e.1,jo e.2.2 u.size⟩)))
      case false =>
       rw[ar]at a;simp only[jr,if_false]at a
       cases ai:qL ts k (c+1) o.next with
       | none=>rw[ai]at a;simp at a
       | some p =>
        rw[ai]at a;simp only[jf]at a
        have N:=N (by
         have:aZ=(c:Int):=by simpa using ar
         omega)
        have bH:=y.len;have bf:=y.c1
        go_wp2_with (first
         | (go_at_call 59;refine ap.mono ?_;rintro G b0 ⟨rfl,V,rfl⟩)
         | (go_at_call 144;refine(Q _).mono ?_;rintro G aD ⟨rfl,S⟩;have ao:=(y.drewN V).below S;have u:Fr r wr aD:=((Fr.refl _ _).drewN V).trans (Fr.below S);have bf:=ao.c1;have bD:=ao.f1))
        refine(aK oA (ao.next N) ai).mono ?_;rintro G g ⟨c7,rfl,an,aO,bi⟩;obtain⟨au,aF,ax,_,rfl,ac,ay,ad,rfl⟩:=an.shape;have K:Fr r wr g:=(u.set _ _).trans bi;have bq:j.heap.size<g.heap.size:=jo bp K.size;have br:w.heap.size<g.heap.size:=oA;have bN:=u.size;have bP:=K.size;have aQ:=R.fr K oA;have aP:=a7.fr K oA
        have aH:Hid (Lies (fun d=>w.heap.size<d/\d≠j.heap.size/\d<g.heap.size) g n (Za #[U O z,I D,U O B,J q C t])/\Lies (fun d=>w.heap.size<d/\d≠j.heap.size/\d<g.heap.size) g p.1 (Za #[U O au,I aF,U O ax,J ac ay ad])):=by
         refine⟨a6.frP K (fun d e=>⟨e.2.2,oA⟩) (fun d e=>⟨e.1,e.2.1,oA⟩),?_⟩;exact an.to (fun d e=>by rw[jQ]at e;exact⟨oA,oA,e.2⟩) (fun _ _ _=>rfl)
        have b6:Hid (Box4 g j.heap.size (U O z) (I D) (U O B) (J q C t)/\Box4 g w.heap.size (U O 0) (I empty) (U O 0) (J F 0 0)):=⟨aQ,aP⟩
        have aG:Hid (Fr r w g/\w.heap.size<=j.heap.size/\r<w.heap.size/\j.heap.size<g.heap.size):=⟨ak.trans K,oA,bo,bq⟩
        clear a6 an R a7;obtain⟨aV,aW,aX,aY,bR,bS,bX,bY⟩:=aQ;obtain⟨W,a2,a3,a5,az,aA,aB,aC⟩:=aP;cases aS:((c:Int)==0)
        case true =>
         have a9:(Tree.node 19 empty so [n,p.1],p.2)=f:=by
          have:(c==0)=H:=by simpa using aS
          rw[this]at a;simpa using a
         subst a9;go_wp2;refine jT (v:=Za #[U O 19,I empty,U O so,J (Z (A (g.heap.size+1) 0 F)) 2 2]) (by simp[results,results131,go_sem,W,a2,a3,a5,br,empty]) rfl ?_;obtain⟨af,E,bg,bh⟩:=aG.out;obtain⟨av,aw⟩:=aH.out;refine Ans.row2 (((af.put4 E _ _ _ _).put4 (jE _) _ _ _ _).alloc _) (((aO.put4 (h.old E).1 (h.old E).2 _ _ _ _).put4 (h.old (jE _)).1 (h.old (jE _)).2 _ _ _ _).alloc _) ?_ ?_ oB;·exact Lies.three av
         ·exact Lies.three aw
        case false =>
         have a9:zD ts k c (.node 19 empty so [n,p.1]) p.2=Z f:=by
          have:(c==0)=X:=by simpa using aS
          rw[this]at a;simpa using a
         have b7:Hid (zD ts k c (.node 19 empty so [n,p.1]) p.2=Z f):=a9;clear a9 a;go_wp2
         go_roundg k
         case measure=>exact Nat.lt_succ_self _
         case rel =>
          obtain⟨af,E,bg,bh⟩:=aG.out;obtain⟨av,aw⟩:=aH.out;obtain⟨ba,bb⟩:=b6.out;refine⟨.node 19 empty so [n,p.1],p.2,19,so,empty,Z (A (g.heap.size+1) 0 F),2,2,b7.out,oA,((bb.fr (Fr.put _ _ _ _ _ _) oA).alloc _).alloc _,(ba.put.alloc _).alloc _,?_,((aO.put4 (h.old E).1 (h.old E).2 _ _ _ _).alloc _).alloc _,((af.put4 E _ _ _ _).alloc _).alloc _⟩;have aR:=zeo (((((g.setCell (A j.heap.size 0 F) (U O 19)).setCell (A j.heap.size 1 F) (I empty)).setCell (A j.heap.size 2 F) (U O so)).setCell (A j.heap.size 3 F) (J (Z (A (g.heap.size+1) 0 F)) 2 2)).alloc (Zc #[U O au,I aF,U O ax,J ac ay ad] 25)) (y0:=U O z) (y1:=I D) (y2:=U O B) (y3:=J q C t) (z0:=U O au) (z1:=I aF) (z2:=U O ax) (z3:=J ac ay ad) (T:=25) (M:=g.heap.size+1) oB;refine Lies.two ⟨oA,oA,oB⟩ aR.1 aR.2 ?_ ?_;·exact Lies.three' av
          ·exact Lies.three' aw
end
end syn
namespace syn
open Go.RowKit
open lexs (Tok own_shape)
variable {b c:Nat->Prop} {d:Nat}
theorem uD:(prog.info? 25).map (fun a=>(a.zero,a.size,a.bytes))=Z (Z (Za #[U O 0,I ⟨#[]⟩,U O 0,J F 0 0]),4,56):=oD
abbrev Q4:=Zv × Zv × Zv × Zv
def Q4.v (q:Q4):Zv:=Za #[q.1,q.2.1,q.2.2.1,q.2.2.2]
def xS (a:List Q4):List Zv:=a.flatMap fun q=>[q.1,q.2.1,q.2.2.1,q.2.2.2]
theorem zap (b:List Q4) (a:Q4):xS (b++[a])=xS b++[a.1,a.2.1,a.2.2.1,a.2.2.2]:=by simp[xS]
def kW (P:Nat->Prop) (w:Zw):List Tree->List Q4->Prop
 | [],[]=>True
 | t :: r,q :: vs=>Lies P w t q.v/\kW P w r vs
 | _,_=>False
theorem kW.length {w:Zw}:∀ {ks:List Tree} {a:List Q4},kW b w ks a->ks.length=a.length
 | [],[],_=>rfl
 | t :: r,q :: a,h=>by simp[kW.length h.2]
 | [],_ :: _,h=>by simp[kW]at h
 | _ :: _,[],h=>by simp[kW]at h
theorem kW.to {b Q:Nat->Prop} {w w':Zw} (d:∀a,b a->Q a) (e:∀a,b a->∀f,w'.cell? (A a f F)=w.cell? (A a f F)):∀ {ks:List Tree} {c:List Q4},kW b w ks c->kW Q w' ks c
 | [],[],_=>trivial
 | t :: r,q :: c,h=>⟨h.1.to d e,kW.to d e h.2⟩
 | [],_ :: _,h=>by simp[kW]at h
 | _ :: _,[],h=>by simp[kW]at h
theorem kW.snoc {w:Zw} {e:Tree} {d:Q4} (c:Lies b w e d.v):∀ {ks:List Tree} {a:List Q4},kW b w ks a->kW b w (ks++[e]) (a++[d])
 | [],[],_=>⟨c,trivial⟩
 | t' :: r,q' :: a,h=>⟨h.1,kW.snoc c h.2⟩
 | [],_ :: _,h=>by simp[kW]at h
 | _ :: _,[],h=>by simp[kW]at h
theorem kW.at {w:Zw} :∀ {ks:List Tree} {c:List Q4} {g:Nat},kW b w ks c->(∀f,f<c.length*4->w.cell? (A d (g+f) F)=(xS c)[f]?)->kQ b w ks d g
 | [],[],g,_,_=>by unfold kQ;trivial
 | t :: r,a :: c,g,h,hc=>by
  unfold kQ;have e:xS (a :: c)=[a.1,a.2.1,a.2.2.1,a.2.2.2]++xS c:=rfl;refine⟨⟨a.v,⟨a.1,a.2.1,a.2.2.1,a.2.2.2,rfl,?_,?_,?_,?_⟩,h.1⟩,kW.at h.2 ?_⟩;·have:=hc 0 oH;rw[e]at this;simpa using this
  ·have:=hc 1 oH;rw[e]at this;simpa using this
  ·have:=hc 2 oH;rw[e]at this;simpa using this
  ·have:=hc 3 oH;rw[e]at this;simpa using this
  ·intro f i;have:=hc (4+f) oE;rw[e,List.getElem?_append_right oB,<- Nat.add_assoc]at this
   simpa using this
 | [],_ :: _,_,h,_=>by simp[kW]at h
 | _ :: _,[],_,h,_=>by simp[kW]at h
def Kids (B:Nat) (P:Nat->Prop) (w:Zw) (kv:Zv) (ks:List Tree):Prop:=∃a,w.ownsRow B 25 4 kv ks.length (xS a)/\kW P w ks a
theorem Kids.nil (a:Nat) (b:Nat->Prop) (w:Zw):Kids a b w (J F 0 0) []:=⟨[],World.ownsRow_nil _ _ _ _,trivial⟩
theorem Kids.lies {w:Zw} {kv:Zv} {ks:List Tree} {k m:Int} {x:ByteArray} (l:Kids d b w kv ks) (o:∀f,b f->c f) (q:∀a,kv.ownBlock=Z a->c a) (r:ks.length<=4611686018427387904):Lies c w (.node k x m ks) (Za #[U O k,I x,U O m,kv]):=by
 obtain⟨L,e,i⟩:=l;have G:=i.length;obtain⟨j,g,rfl,_,t⟩:=own_shape e
 have p:ks.length<=g:=by
  rcases e.2 with⟨h,K⟩|⟨a,v,y,h,z,B,C,D,_⟩
  ·omega
  ·injection h with _ _ e2;omega
 unfold Lies;refine⟨j,g,rfl,⟨r,p⟩,fun s=>?_⟩;have n:0<ks.length:=by cases ks with | nil=>exact absurd rfl s | cons _ _=>simp
 obtain⟨a,rfl⟩:=t n;refine⟨a,0,rfl,q a rfl,(i.to o (fun _ _ _=>rfl)).at ?_⟩;intro u E;rw[Nat.zero_add];exact e.cellAt u oA
theorem xL (w:Zw) (d e f g:Zv) (j:TypeId) (h:Nat) (i:h=w.heap.size):∀b c,[d,e,f,g][b]?=Z c->(w.alloc (Zc #[d,e,f,g] j)).cell? (((A h 0 F):Addr).add b)=Z c:=by
 subst i;intro b c a
 match b,a with
 | 0,a=>simp at a;subst a;simp[Addr.add]
 | 1,a=>simp at a;subst a;simp[Addr.add]
 | 2,a=>simp at a;subst a;simp[Addr.add]
 | 3,a=>simp at a;subst a;simp[Addr.add]
theorem gN {b c d:Zw} {row:Option Nat} (a:b.grownBy c row) (k:c.grownBy d row):b.grownBy d row :=
 ⟨k.os.trans a.os,k.tape.trans a.tape,k.output.trans a.output,jp a.size k.size,fun g e f=>(k.block g (jo e a.size) f).trans (a.block g e f)⟩
theorem zax {w b:Zw} {row:Option Nat} (a:w.grownBy b row) {N o:Nat} (f:w.heap.size<=N) (v:Zv):w.grownBy (b.setCell (A N o F) v) row :=
 ⟨a.os,a.tape,a.output,by rw[jQ];exact a.size,fun e c d=>(jP _ _ _ _ oH).trans (a.block e c d)⟩
theorem Box4.grown {w w':Zw} {row:Option Nat} {e f g h:Zv} (b:Box4 w d e f g h) (j:w.grownBy w' row) (k:row≠Z d):Box4 w' d e f g h:=by
 have c:=j.block d b.lt (fun i=>k i.symm)
 exact⟨(jM (a:=(A d 0 F)) c).trans b.c0,(jM (a:=(A d 1 F)) c).trans b.c1,(jM (a:=(A d 2 F)) c).trans b.c2,(jM (a:=(A d 3 F)) c).trans b.c3,
  (jN (a:=(A d 0 F)) c).trans b.f0,(jN (a:=(A d 1 F)) c).trans b.f1,(jN (a:=(A d 2 F)) c).trans b.f2,(jN (a:=(A d 3 F)) c).trans b.f3⟩
set_option maxRecDepth 100000 in
theorem zd0 (w:Zw) (i m:Int) (x:ByteArray) (kv:Zv) (ks:List Tree) (q:Nat) (h:Nat->Prop) (Q:Tree) (j l:Int) (k:ByteArray) (n:Option Addr) (p o:Nat) (V:Kids q h w kv ks) (aj:q<=w.heap.size) (ak:ks.length<=100000) (W:Lies h w Q (Za #[U O j,I k,U O l,J n p o])) (E:∀b,h b->b<w.heap.size/\Z b≠kv.ownBlock) : Calls prog 108 #[Za #[U O i,I x,U O m,kv],Za #[U O j,I k,U O l,J n p o]] w fun a w'=>∃s,a=.returned (Za #[U O i,I x,U O m,s])/\Kids q h w' s (ks++[Q])/\w.grownBy w' kv.ownBlock /\ (s.ownBlock=kv.ownBlock\/∃C,s.ownBlock=Z C/\w.heap.size<=C):=by
 have ae:=kc25;obtain⟨a7,hi,a3,a5,a6⟩:=info_parts uD;obtain⟨R,B,G⟩:=V;have S:Hid (kW h w ks R):=G;clear G;obtain⟨d,f,rfl,am,ao⟩:=own_shape B
 have r:(Value.slice d ks.length f).ownBlock≠Z w.heap.size/\(Value.slice d ks.length f).ownBlock≠Z (w.heap.size+1)/\(Value.slice d ks.length f).ownBlock≠Z (w.heap.size+2):=by
  refine⟨fun a=>?_,fun a=>?_,fun a=>?_⟩<;>(have:=(B.lt _ a).2;omega)
 have L:=Box4.new ((w.alloc (Zc #[U O i,I x,U O m,J d ks.length f] 25)).alloc (Zc #[U O j,I k,U O l,J n p o] 25)) (U O 0) (I empty) (U O 0) (J F 0 0) 25;rw[jO,jO]at L;go_enter func108,ntmps108;go_wp2_with (at_builtin;refine uQ rfl (.tmp 6) (.tmp 8) 23 rfl q 25 a7 (Za #[U O 0,I ⟨#[]⟩,U O 0,J F 0 0]) 4 56 underlying23 hi a3 a5 a6 rfl oC _ _ _ rfl ((((B.alloc _).alloc _).alloc _).alloc _) (A (w.heap.size+3) 0 F) 1 1 [U O j,I k,U O l,J n p o] rfl rfl (xL _ _ _ _ _ _ _ oB) oF (by unfold maxLen;omega) oA oH oC ?_;intro aA ad M z a2;obtain⟨e,g,rfl,an,_⟩:=own_shape M;obtain⟨ap,ar,au,av,af,ag,ah,ai⟩:=((((Box4.new w (U O i) (I x) (U O m) (J d ks.length f) 25).alloc _).alloc _).alloc _).grown z r.1;obtain⟨a9,aa,ab,ac,aw,ax,ay,az⟩:=((L).alloc _).grown z r.2.2);have T:w.grownBy ad (Value.slice d ks.length f).ownBlock:=gN (gN (gN (gN (World.grownBy_alloc w _ _) (World.grownBy_alloc _ _ _)) (World.grownBy_alloc _ _ _)) (World.grownBy_alloc _ _ _)) z
 have y:(Value.slice e (ks.length+1) g).ownBlock=(Value.slice d ks.length f).ownBlock\/(Value.slice e (ks.length+1) g).ownBlock=Z (w.heap.size+4):=by
  rcases a2 with a | a
  ·exact .inl a
  ·exact .inr (by rw[a];simp)
 have a8:(Value.slice e (ks.length+1) g).ownBlock≠Z w.heap.size:=by rcases y with a | a<;>rw[a];exact r.1;simp
 have t:(Value.slice e (ks.length+1) g).ownBlock≠Z (w.heap.size+1+1):=by rcases y with a | a<;>rw[a];exact r.2.2;simp
 have D:=zax (o:=3) (zax (o:=2) (zax (o:=1) (zax (o:=0) (zax (o:=3) (N:=w.heap.size) T (jE _) (J e (ks.length+1) g)) (show w.heap.size<=w.heap.size+1+1 by omega) (U O i)) (show w.heap.size<=w.heap.size+1+1 by omega) (I x)) (show w.heap.size<=w.heap.size+1+1 by omega) (U O m)) (show w.heap.size<=w.heap.size+1+1 by omega) (J e (ks.length+1) g);have P:∀b,h b->∀c,World.cell? _ (A b c F)=w.cell? (A b c F):=fun b K c=>jM (a:=(A b c F)) (D.block b (E b K).1 (E b K).2)
 refine jT (v:=Za #[U O i,I x,U O m,J e (ks.length+1) g]) (by simp[results,results108,go_sem,a9,aa,ab,ac]) rfl ⟨_,rfl,⟨R++[(U O j,I k,U O l,J n p o)],?_,?_⟩,D,?_⟩;·rw[zap,jb];exact jU (jU (jU (jU (jU M a8 _) t _) t _) t _) t _
 ·exact kW.snoc (W.to (fun _ u=>u) P) (S.out.to (fun _ u=>u) P)
 ·rcases y with a | a
  ·exact .inl a
  ·exact .inr ⟨_,a,oA⟩
section
variable {w:Zw} {r:Nat} {L:Zv} {ts:List Tok} {s:St}
variable {b c:Nat}
theorem Kids.shape {d:Nat->Prop} {kv:Zv} {ks:List Tree} (f:Kids b d w kv ks):∃a c,kv=J a ks.length c:=by
 obtain⟨h,g,_⟩:=f;obtain⟨a,c,e,_⟩:=own_shape g;exact⟨a,c,e⟩
theorem Kids.blk {a:Nat->Prop} {kv:Zv} {ks:List Tree} (d:Kids b a w kv ks) (e:kv.ownBlock=Z c):b<=c/\c<w.heap.size:=by
 obtain⟨g,f,_⟩:=d;exact f.lt c e
theorem Kids.grown {d Q:Nat->Prop} {w':Zw} {row:Option Nat} {kv:Zv} {ks:List Tree} (h:Kids b d w kv ks) (g:w.grownBy w' row) (k:kv.ownBlock=F\/kv.ownBlock≠row) (e:∀c,d c->c<w.heap.size/\Z c≠row) (i:∀c,d c->Q c):Kids b Q w' kv ks:=by
 obtain⟨n,l,j⟩:=h;exact⟨n,l.kept g k,j.to i (fun c f m=>jM (a:=(A c m F)) (g.block c (e c f).1 (e c f).2))⟩
theorem Rd.grown {w':Zw} {row:Option Nat} (b:Rd w r L ts s) (d:w.grownBy w' row) (g:row≠Z r) (f:L.ownBlock=F\/L.ownBlock≠row):Rd w' r L ts s:=by
 have c:=d.block r b.lt (fun e=>g e.symm)
 exact⟨(jM (a:=(A r 0 F)) c).trans b.c0,(jM (a:=(A r 1 F)) c).trans b.c1,(jM (a:=(A r 2 F)) c).trans b.c2,(jN (a:=(A r 1 F)) c).trans b.f1,(jN (a:=(A r 2 F)) c).trans b.f2,
  b.own.kept d f,b.ne,b.len,b.le,b.num⟩
theorem Fr.grown {e f:Zw} {row:Option Nat} (a:Fr r w e) (b:e.grownBy f row) (i:∀k,row=Z k->w.heap.size<=k):Fr r w f :=
 ⟨b.os.trans a.os,b.tape.trans a.tape,b.output.trans a.output,jp a.size b.size,fun c d h=>(b.block c (jo d a.size) (fun g=>by have:=i c g.symm;omega)).trans (a.block c d h)⟩
set_option maxRecDepth 100000 in
theorem ybd (be:b<=100000) (aV:∀ {d:Nat},d<=b->∀ {w:Zw} {s:St} {q:Tree × St},Rd w r L ts s->kM ts d s=Z q->Calls prog 109 #[Zp (Z (A r 0 F))] w (Ans w r L ts q)) (C:Rd w r L ts s) (x:ByteArray) {q:Tree × St} (n:zV ts (b+1) x s=Z q):Calls prog 111 #[Zp (Z (A r 0 F)),I x] w (Ans w r L ts q):=by
 have b7:=kc25;have aT:=C.lt;have a7:=(Box4.new w (U O 0) (I empty) (U O 0) (J F 0 0) 25).alloc (Zc #[U O 18,I x,U O 0,J F 0 0] 25);have N:=Box4.new (w.alloc (Zc #[U O 0,I empty,U O 0,J F 0 0] 25)) (U O 18) (I x) (U O 0) (J F 0 0) 25;rw[jO]at N;unfold zV at n;have a9:∀ {w:Zw},Rd w r L ts s->Calls prog 28 #[Zp (Z (A r 0 F)),I ⟨#[40]⟩] w fun c w'=>c=.returned (.tuple #[])/\Rd w' r L ts (kB ts ⟨#[40]⟩ s)/\Fr r w w':=fun g=>zI g ⟨#[40]⟩ oC
 generalize kB ts ⟨#[40]⟩ s=an at a9 n;cases G:eqS (txt ts an) ⟨#[41]⟩
 case true =>
  rw[G]at n;simp only[if_true,jh]at n;subst n;go_enter func111,ntmps111;go_wp2_with (fail);refine(a9 ((C.alloc _).alloc _)).mono ?_;rintro c b2 ⟨rfl,aa,t⟩;go_wp2_with (fail);refine(zU aa ⟨#[41]⟩ oC G).mono ?_;rintro c b6 ⟨rfl,ab,u⟩;obtain⟨aj,j,ak,am,aY,aZ,b0,b1⟩:=(a7.fr t oA).fr u oA;obtain⟨aE,aF,aG,aH,_,_,_,_⟩:=(N.fr t oA).fr u oA;go_wp2
  exact jT (v:=Za #[U O 18,I x,U O 0,J F 0 0]) (by simp[results,results111,go_sem,aj,j,ak,am]) rfl
   (Ans.fin C ((((Fr.al _ _).alloc _).trans t).trans u) ab (Nat.lt_succ_self _) (Lies.leaf _ _ _ _ _))
 case false =>
  rw[G]at n;simp only[jr,if_false]at n;have ar:Hid (yI ts b x [] an H=Z q):=n;clear n;go_enter func111,ntmps111;go_wp2_with (fail);refine(a9 ((C.alloc _).alloc _)).mono ?_;rintro c b2 ⟨rfl,aa,t⟩;go_wp2_with (fail);refine(kS aa ⟨#[41]⟩ oC G).mono ?_;rintro c b6 ⟨rfl,ab,u⟩;have aK:=(a7.fr t oA).fr u oA;have aL:=(N.fr t oA).fr u oA;have aN:=(((Fr.al w (Zc #[U O 0,I empty,U O 0,J F 0 0] 25) (r:=r)).alloc _).trans t).trans u;clear a7 N G;go_wp2
  go_loopg [6] b (fun k on wr=>∃(ks:List Tree) (K:St) (kv:Zv) (V:Bool),on=Y V/\Hid (yI ts k x ks K V=Z q)/\ks.length+k<=b/\Box4 wr w.heap.size (U O 0) (I empty) (U O 0) (J F 0 0)/\Box4 wr (w.heap.size+1) (U O 18) (I x) (U O 0) kv /\
   Kids (w.heap.size+2) (fun a=>w.heap.size+2<=a/\a<wr.heap.size/\Z a≠kv.ownBlock) wr kv ks/\Rd wr r L ts K/\Fr r w wr)
  case atStart=>exact⟨[],an,J F 0 0,H,rfl,ar.out,oB,aK,aL,Kids.nil _ _ _,ab,aN⟩
  case round =>
   obtain⟨ks,K,kv,V,rfl,W,aR,ae,S,y,ad,av⟩:=hrel;have aU:=S.lt;have p:∀d,kv.ownBlock=Z d->w.heap.size+2<=d/\d<wr.heap.size:=fun d o=>y.blk o
   cases gk with
   | zero=>have:=W.out;unfold yI at this;simp at this
   | succ k =>
    have l:=W.out;clear W ar;unfold yI at l;cases V
    case false =>
     simp only[Bool.false_and,jr,if_false,jh]at l;exact oz04x25
    case true =>
     have au:=ad.c2;cases az:K.bad
     case true =>
      rw[az]at l au;simp only[Bool.not_true,Bool.and_false,jr,if_false,jh]at l;exact oz04x25
     case false =>
      rw[az]at l au;simp only[Bool.not_false,Bool.and_true,if_true]at l
      cases M:kM ts k K with
      | none=>rw[M]at l;simp at l
      | some j =>
       rw[M]at l;simp only[jf]at l;have aJ:Hid (yI ts k x (ks++[j.1]) (eat ts ⟨#[44]⟩ j.2).2 (eat ts ⟨#[44]⟩ j.2).1=Z q):=l;clear l;obtain⟨h,i,rfl⟩:=y.shape;go_wp2_with (fail);refine(aV oA ad M).mono ?_;rintro c f ⟨bz,rfl,a8,ac,m⟩;obtain⟨ag,ao,ah,_,rfl,a2,ai,a5,rfl⟩:=a8.shape;have aC:=m.size;have bm:w.heap.size+1<f.heap.size:=oA;have T:=S.fr m oA;have R:=ae.fr m oA;have ap:Hid (Box4 f w.heap.size (U O 0) (I empty) (U O 0) (J F 0 0)/\Box4 f (w.heap.size+1) (U O 18) (I x) (U O 0) (J h ks.length i)):=⟨R,T⟩
       clear ae S R;obtain⟨aE,aF,aG,aH,bs,bu,bv,bw⟩:=T;have aB:(Value.slice h ks.length i).ownBlock≠Z r:=fun c=>by have:=(p r c).1;omega
       have E:Kids (w.heap.size+2) (fun a=>w.heap.size+2<=a/\a<f.heap.size/\Z a≠(Value.slice h ks.length i).ownBlock) f (J h ks.length i) ks :=
        y.grown m (.inr aB) (fun a e=>⟨e.2.1,oE⟩) (fun a e=>⟨e.1,oA,e.2.2⟩)
       have ax:Lies (fun a=>w.heap.size+2<=a/\a<f.heap.size/\Z a≠(Value.slice h ks.length i).ownBlock) f j.1 (Za #[U O ag,I ao,U O ah,J a2 ai a5]) :=
        a8.to (fun a e=>⟨oA,e.2,fun c=>by have:=(p a c.symm).2;omega⟩) (fun _ _ _=>rfl)
       have aM:=zd0 (f.alloc (Zc #[U O ag,I ao,U O ah,J a2 ai a5] 25)) 18 0 x (J h ks.length i) ks (w.heap.size+2) (fun a=>w.heap.size+2<=a/\a<f.heap.size/\Z a≠(Value.slice h ks.length i).ownBlock) j.1 ag ah ao a2 ai a5
        (E.grown (World.grownBy_alloc f _ F) (by cases g:(Value.slice h ks.length i).ownBlock<;>simp) (fun a e=>⟨e.2.1,oB⟩) (fun _ g=>g)) oG oA
        (ax.frP (x:=f.heap.size) (Fr.al _ _) (fun a e=>⟨e.2.1,oA⟩) (fun _ g=>g)) (fun a e=>⟨oG,e.2.2⟩)
       have z:Hid (Fr r w f/\(Value.slice h ks.length i).ownBlock≠Z r/\(∀d,(Value.slice h ks.length i).ownBlock=Z d->w.heap.size+2<=d/\d<wr.heap.size)/\r<w.heap.size/\wr.heap.size<=f.heap.size/\w.heap.size+1<wr.heap.size/\ks.length+(k+1)<=b):=⟨av.trans m,aB,p,aT,aC,aU,aR⟩
       clear y E a8 ax p;have ay:∀d,L.ownBlock=Z d->d<w.heap.size:=fun d o=>(C.own.lt d o).2
       go_wp2_with (first
        | (go_at_call 108;refine aM.mono ?_;rintro c aI ⟨bn,rfl,P,B,aA⟩;obtain⟨a3,a6,rfl⟩:=P.shape;obtain⟨b8,b9,ba,bb,bo,bp,bq,br⟩:=(ap.out.2.alloc _).grown B (fun c=>by have:=(z.out.2.2.1 _ c).1;omega);have aP:=(ac.alloc _).grown B z.out.2.1 (by cases g:L.ownBlock with | none=>exact .inl rfl | some d=>exact .inr (fun c=>by have M:=ay d g;have bc:=(z.out.2.2.1 d c.symm).1;omega)))
        | (go_at_call 30;refine(dR _ r L ts j.2 (aP.put4 (show w.heap.size+1≠r by omega) (fun c=>by have:=ay _ c;omega) _ _ _ _) ⟨#[44]⟩ oC).mono ?_;rintro c bD ⟨rfl,aQ,D⟩))
       obtain⟨aO,bg,af,bh,bi,bj,bf⟩:=z.out;obtain⟨R,T⟩:=ap.out
       go_roundg k
       case measure=>exact Nat.lt_succ_self _
       case rel =>
        have aW:=B.size;have aX:=D.size;rw[jO]at aW;simp only[jQ]at aX;have aS:(ks++[j.1]).length=ks.length+1:=oB;rw[aS]at P aA;refine⟨ks++[j.1],(eat ts ⟨#[44]⟩ j.2).2,J a3 (ks.length+1) a6,(eat ts ⟨#[44]⟩ j.2).1,rfl,aJ.out,oL,?_,?_,?_,aQ,?_⟩;·exact(((R.alloc _).grown B (fun c=>by have:=(af _ c).1;omega)).fr (Fr.put aI (w.heap.size+1) _ _ _ _) oA).fr D oA
        ·exact(((T.alloc _).grown B (fun c=>by have:=(af _ c).1;omega)).put).fr D oA
        ·have aw:=P.grown (Q:=fun a=>w.heap.size+2<=a/\a<f.heap.size/\Z a≠(Value.slice a3 (ks.length+1) a6).ownBlock) (Fr.put aI (w.heap.size+1) (U O 18) (I x) (U O 0) (J a3 (ks.length+1) a6)) (.inr fun c=>by have:=(P.blk c).1;omega) (fun a e=>⟨oA,oE⟩) (fun a e=>⟨e.1,e.2.1,fun c=>by
          rcases aA with g | ⟨d,g,o⟩
          ·exact e.2.2 (c.trans g)
          ·rw[g]at c;rw[jO]at o;have:a=d:=by simpa using c
           omega⟩)
         exact aw.grown D (.inr fun c=>by have:=(aw.blk c).1;omega) (fun a e=>⟨oX,oE⟩) (fun a e=>⟨e.1,oA,e.2.2⟩)
        ·exact((((aO.alloc _).grown B (fun d c=>by have:=(af d c).1;omega)).put4 (show w.heap.size<=w.heap.size+1 by omega) _ _ _ _)).trans D
end
end syn
namespace syn
open Go.RowKit
open lexs (Tok)
structure GoodE (r:Nat) (L:Zv) (ts:List Tok) (f:Nat):Prop where
 expr:∀ {w:Zw} {s:St} {q:Tree × St},Rd w r L ts s->kM ts f s=Z q->Calls prog 109 #[Zp (Z (A r 0 F))] w (Ans w r L ts q)
 bound:∀ {w:Zw} {s:St} {q:Tree × St} (least:Nat),least<=3->Rd w r L ts s->qL ts f least s=Z q->Calls prog 131 #[Zp (Z (A r 0 F)),U O least] w (Ans w r L ts q)
 unary:∀ {w:Zw} {s:St} {q:Tree × St},Rd w r L ts s->zQ ts f s=Z q->Calls prog 143 #[Zp (Z (A r 0 F))] w (Ans w r L ts q)
 asked:∀ {w:Zw} {s:St} {q:Tree × St},Rd w r L ts s->qY ts f s=Z q->Calls prog 107 #[Zp (Z (A r 0 F))] w (Ans w r L ts q)
 place:∀ {w:Zw} {s:St} {q:Tree × St} (x:ByteArray),Rd w r L ts s->qZ ts f x s=Z q->Calls prog 112 #[Zp (Z (A r 0 F)),I x] w (Ans w r L ts q)
 call:∀ {w:Zw} {s:St} {q:Tree × St} (x:ByteArray),Rd w r L ts s->zV ts f x s=Z q->Calls prog 111 #[Zp (Z (A r 0 F)),I x] w (Ans w r L ts q)
theorem yau (r:Nat) (L:Zv) (ts:List Tok) (c:Nat) (i:c<=100000):GoodE r L ts c:=by
 induction c using Nat.strongRecOn with
 | _ c ih =>
  cases c with
  | zero =>
   refine⟨fun _ a=>?_,fun _ _ _ a=>?_,fun _ a=>?_,fun _ a=>?_,fun _ _ a=>?_,fun _ _ a=>?_⟩;·unfold kM at a;simp at a
   ·unfold qL at a;simp at a
   ·unfold zQ at a;simp at a
   ·unfold qY at a;simp at a
   ·unfold qZ at a;simp at a
   ·unfold zV at a;simp at a
  | succ c =>
   have d:=ih c (Nat.lt_succ_self c) oA
   refine⟨fun b a=>ybf (fun b a=>d.bound 0 oA b a) b a,
    fun g f b a=>yae (fun b a=>d.unary b a) (fun {e} h {_ _ _} g f b a=>(ih e oA oA).bound g f b a) b g f a,
    fun b a=>yah (fun b a=>d.unary b a) (fun b a=>d.asked b a) (fun x b a=>d.place x b a) (fun x b a=>d.call x b a) b a,
    fun b a=>yac (fun b a=>d.expr b a) b a,
    fun x b a=>yag (fun b a=>d.expr b a) b x a,
    fun x b a=>ybd oA (fun {e} h {_ _ _} b a=>(ih e oA oA).expr b a) b x a⟩
end syn
namespace syn
open Go.RowKit
open lexs (Tok own_shape)
section
variable {w:Zw} {r:Nat} {L:Zv} {ts:List Tok} {s:St}
set_option maxRecDepth 100000 in
theorem yad {t:Nat} (be:t<=100000) (aY:∀ {c:Nat},c<=t->∀ {w:Zw} {s:St} {o:Tree × St},Rd w r L ts s->yP ts c s=Z o->Calls prog 91 #[Zp (Z (A r 0 F))] w (Ans w r L ts o)) (D:Rd w r L ts s) {o:Tree × St} (ae:qA ts (t+1) s=Z o):Calls prog 62 #[Zp (Z (A r 0 F))] w (Ans w r L ts o):=by
 have b7:=kc25;obtain⟨aX,hi,aT,aV,aW⟩:=info_parts uD;have aR:=D.lt;have an:=(Box4.new w (U O 0) (I empty) (U O 0) (J F 0 0) 25).alloc (Zc #[U O 6,I empty,U O 0,J F 0 0] 25);have a8:=Box4.new (w.alloc (Zc #[U O 0,I empty,U O 0,J F 0 0] 25)) (U O 6) (I empty) (U O 0) (J F 0 0) 25;rw[jO]at a8;have ap:∀c,L.ownBlock=Z c->c<w.heap.size:=fun c n=>(D.own.lt c n).2
 unfold qA at ae;have ak:Hid (yC ts t [] (kB ts ⟨#[123]⟩ s)=Z o):=ae;clear ae;go_enter func62,ntmps62;go_wp2_with (fail);refine(zI ((D.alloc _).alloc _) ⟨#[123]⟩ oC).mono ?_;rintro b bF ⟨rfl,aL,aa⟩;have aG:=an.fr aa oA;have aH:=a8.fr aa oA;have aI:=((Fr.al w (Zc #[U O 0,I empty,U O 0,J F 0 0] 25) (r:=r)).alloc _).trans aa;clear an a8;go_wp2
 go_loopg [] t (fun k wr=>∃(ks:List Tree) (B:St) (kv:Zv),Hid (yC ts k ks B=Z o)/\ks.length+k<=t/\Box4 wr w.heap.size (U O 0) (I empty) (U O 0) (J F 0 0)/\Box4 wr (w.heap.size+1) (U O 6) (I empty) (U O 0) kv /\
  Kids (w.heap.size+2) (fun a=>w.heap.size+2<=a/\a<wr.heap.size/\Z a≠kv.ownBlock) wr kv ks/\Rd wr r L ts B/\Fr r w wr)
 case atStart=>exact⟨[],_,J F 0 0,ak.out,oB,aG,aH,Kids.nil _ _ _,aL,aI⟩
 case round =>
  obtain⟨ks,B,kv,a7,aO,S,E,i,Q,ab⟩:=hrel;have aU:=E.lt;have j:∀c,kv.ownBlock=Z c->w.heap.size+2<=c/\c<wr.heap.size:=fun c n=>i.blk n
  have am:=Q.c2
  cases gk with
  | zero=>have:=a7.out;unfold yC at this;simp at this
  | succ k =>
   have g:=a7.out;clear a7 ak;unfold yC at g;cases au:B.bad
   case true =>
    rw[au]at g am;simp only[if_true,jh]at g;subst g;obtain⟨e,f,rfl⟩:=i.shape
    have u:Hid (Lies (fun a=>w.heap.size+1<=a/\a<wr.heap.size) wr (.node 6 empty 0 ks) (Za #[U O 6,I empty,U O 0,J e ks.length f])) :=
     i.lies (fun a h=>⟨oA,h.2.1⟩) (fun c n=>⟨by have:=(j c n).1;omega,(j c n).2⟩) oA
    clear i j;obtain⟨af,l,ag,ah,b0,b1,b2,b6⟩:=S;obtain⟨aA,aB,aC,aD,_,_,_,_⟩:=E;go_wp2
    exact jT (v:=Za #[U O 6,I empty,U O 0,J e ks.length f]) (by simp[results,results62,go_sem,af,l,ag,ah]) rfl
     (Ans.fin D ab Q (Nat.lt_succ_self _) u.out)
   case false =>
    rw[au]at g am;simp only[jr,if_false]at g;cases z:eqS (txt ts B) ⟨#[125]⟩
    case true =>
     rw[z]at g;simp only[if_true,jh]at g;have a9:=zU Q ⟨#[125]⟩ oC z;clear z;subst g;obtain⟨e,f,rfl⟩:=i.shape
     have u:Hid (Lies (fun a=>w.heap.size+1<=a/\a<wr.heap.size) wr (.node 6 empty 0 ks) (Za #[U O 6,I empty,U O 0,J e ks.length f])) :=
      i.lies (fun a h=>⟨oA,h.2.1⟩) (fun c n=>⟨by have:=(j c n).1;omega,(j c n).2⟩) oA
     clear i j;go_wp2_with (go_at_call 30;refine a9.mono ?_;rintro b d ⟨rfl,ad,x⟩;obtain⟨af,l,ag,ah,b0,b1,b2,b6⟩:=S.fr x oA;obtain⟨aA,aB,aC,aD,_,_,_,_⟩:=E.fr x oA)
     exact jT (v:=Za #[U O 6,I empty,U O 0,J e ks.length f]) (by simp[results,results62,go_sem,af,l,ag,ah]) rfl
      (Ans.fin D (ab.trans x) ad (Nat.lt_succ_self _) (u.out.fr oA x))
    case false =>
     rw[z]at g;simp only[jr,if_false]at g;have a9:=kS Q ⟨#[125]⟩ oC z;clear z
     cases N:yP ts k B with
     | none=>rw[N]at g;simp at g
     | some l =>
      rw[N]at g;simp only[jf]at g;have aF:Hid (yC ts k (ks++[l.1]) l.2=Z o):=g;clear g;obtain⟨e,f,rfl⟩:=i.shape;go_wp2_with (go_at_call 30;refine a9.mono ?_;rintro b bG ⟨rfl,aM,ao⟩);refine(aY oA aM N).mono ?_;rintro b d ⟨bE,rfl,ac,ad,x⟩;obtain⟨W,a6,a2,_,rfl,K,a3,M,rfl⟩:=ac.shape;have C:=ao.trans x;have bi:=ao.size;have aS:=C.size;have bn:w.heap.size+1<d.heap.size:=oA;have V:=E.fr C oA;have T:=S.fr C oA;have aj:Hid (Box4 d w.heap.size (U O 0) (I empty) (U O 0) (J F 0 0)/\Box4 d (w.heap.size+1) (U O 6) (I empty) (U O 0) (J e ks.length f)):=⟨T,V⟩
      clear S E T;obtain⟨aA,aB,aC,aD,bs,bu,bv,bw⟩:=V;have ax:(Value.slice e ks.length f).ownBlock≠Z r:=fun b=>by have:=(j r b).1;omega
      have aK:Kids (w.heap.size+2) (fun a=>w.heap.size+2<=a/\a<d.heap.size/\Z a≠(Value.slice e ks.length f).ownBlock) d (J e ks.length f) ks :=
       i.grown C (.inr ax) (fun a h=>⟨h.2.1,oE⟩) (fun a h=>⟨h.1,oA,h.2.2⟩)
      have P:Lies (fun a=>w.heap.size+2<=a/\a<d.heap.size/\Z a≠(Value.slice e ks.length f).ownBlock) d l.1 (Za #[U O W,I a6,U O a2,J K a3 M]) :=
       ac.to (fun a h=>⟨oA,h.2,fun b=>by have:=(j a b.symm).2;omega⟩) (fun _ _ _=>rfl)
      obtain⟨aE,aQ,R⟩:=aK;have u:Hid (Fr r w d/\(Value.slice e ks.length f).ownBlock≠Z r/\(∀c,(Value.slice e ks.length f).ownBlock=Z c->w.heap.size+2<=c/\c<wr.heap.size)/\r<w.heap.size/\wr.heap.size<=d.heap.size/\w.heap.size+1<wr.heap.size/\ks.length+(k+1)<=t/\kW (fun a=>w.heap.size+2<=a/\a<d.heap.size/\Z a≠(Value.slice e ks.length f).ownBlock) d ks aE/\Lies (fun a=>w.heap.size+2<=a/\a<d.heap.size/\Z a≠(Value.slice e ks.length f).ownBlock) d l.1 (Za #[U O W,I a6,U O a2,J K a3 M])):=⟨ab.trans C,ax,j,aR,aS,aU,aO,R,P⟩
      clear i ac P j R;go_wp2_with (at_builtin;refine uQ rfl (.tmp 21) (.tmp 23) 23 rfl (w.heap.size+2) 25 aX (Za #[U O 0,I ⟨#[]⟩,U O 0,J F 0 0]) 4 56 underlying23 hi aT aV aW rfl oC _ _ _ rfl ((aQ.alloc _).alloc _) (A (d.heap.size+1) 0 F) 1 1 [U O W,I a6,U O a2,J K a3 M] rfl rfl (xL _ _ _ _ _ _ _ oB) oF (by unfold maxLen;omega) oA oH oC ?_;intro bD ai ay aw aN;obtain⟨p,q,rfl,bg,_⟩:=own_shape ay;obtain⟨b8,b9,ba,bb,bo,bp,bq,br⟩:=((aj.out.2.alloc _).alloc _).grown aw (fun b=>by have:=(u.out.2.2.1 _ b).1;omega));obtain⟨aJ,aP,G,bh,bj,bm,bf,R,P⟩:=u.out;obtain⟨T,V⟩:=aj.out;have y:d.grownBy ai (Value.slice e ks.length f).ownBlock:=gN (gN (World.grownBy_alloc d _ _) (World.grownBy_alloc _ _ _)) aw
      have av:(Value.slice p (ks.length+1) q).ownBlock=(Value.slice e ks.length f).ownBlock\/(Value.slice p (ks.length+1) q).ownBlock=Z (d.heap.size+2):=by
       rcases aN with b | b
       ·exact .inl b
       ·exact .inr (by rw[b];simp)
      have bz:=y.size
      have aZ:(Value.slice p (ks.length+1) q).ownBlock≠Z (w.heap.size+1):=fun b=>by
       rcases av with m | m
       ·rw[m]at b;have:=(G _ b).1;omega
       ·rw[m]at b;have:d.heap.size+2=w.heap.size+1:=by simpa using b
        omega
      have az:∀a,(w.heap.size+2<=a/\a<d.heap.size/\Z a≠(Value.slice e ks.length f).ownBlock)->∀a5,(ai.setCell (A (w.heap.size+1) 3 F) (J p (ks.length+1) q)).cell? (A a a5 F)=d.cell? (A a a5 F):=fun a h a5=>by
       rw[jD _ _ _ _ oH];exact jM (a:=(A a a5 F)) (y.block a h.2.1 h.2.2)
      go_roundg k
      case measure=>exact Nat.lt_succ_self _
      case rel =>
       refine⟨ks++[l.1],l.2,J p (ks.length+1) q,aF.out,oL,?_,?_,⟨aE++[(U O W,I a6,U O a2,J K a3 M)],?_,?_⟩,?_,?_⟩;·exact(T.grown y (fun b=>by have:=(G _ b).1;omega)).other oA _
       ·exact(V.grown y (fun b=>by have:=(G _ b).1;omega)).set3 _
       ·rw[zap,jb];exact jU ay aZ _
       ·have ar:∀a,(w.heap.size+2<=a/\a<d.heap.size/\Z a≠(Value.slice e ks.length f).ownBlock)->(w.heap.size+2<=a/\a<(ai.setCell (A (w.heap.size+1) 3 F) (J p (ks.length+1) q)).heap.size/\Z a≠(Value.slice p (ks.length+1) q).ownBlock):=fun a h=>⟨h.1,oN,fun b=>by
         rcases av with m | m
         ·exact h.2.2 (b.trans m)
         ·rw[m]at b;have:a=d.heap.size+2:=by simpa using b
          omega⟩
        exact kW.snoc (P.to ar az) (R.to ar az)
       ·exact(ad.grown y aP (by cases m:L.ownBlock with | none=>exact .inl rfl | some c=>exact .inr (fun b=>by have N:=ap c m;have bc:=(G c b.symm).1;omega))).setNew oA (fun b=>by have:=ap _ b;omega) _
       ·exact(aJ.grown y (fun c b=>by have:=(G c b).1;omega)).setNew oA _
end
section
variable {w:Zw} {r:Nat} {L:Zv} {ts:List Tok} {s:St}
theorem Box4.set0 {b:Nat} {f c d e:Zv} (a:Box4 w b f c d e) (v:Zv):Box4 (w.setCell (A b 0 F) v) b v c d e :=
 ⟨jS _ _ _ a.c0,by rw[jD _ _ _ _ oB];exact a.c1,by rw[jD _ _ _ _ oB];exact a.c2,by rw[jD _ _ _ _ oB];exact a.c3,by simp[a.f0],by simp[a.f1],by simp[a.f2],by simp[a.f3]⟩
theorem Box4.set1 {b:Nat} {c f d e:Zv} (a:Box4 w b c f d e) (v:Zv):Box4 (w.setCell (A b 1 F) v) b c v d e :=
 ⟨by rw[jD _ _ _ _ oB];exact a.c0,jS _ _ _ a.c1,by rw[jD _ _ _ _ oB];exact a.c2,by rw[jD _ _ _ _ oB];exact a.c3,by simp[a.f0],by simp[a.f1],by simp[a.f2],by simp[a.f3]⟩
structure Mid (w:Zw) (r:Nat) (L:Zv) (ts:List Tok) (wk:Zw) (s:St) (k:Int) (x:ByteArray) (m:Int) (kv:Zv):Prop where
 rd:Rd wk r L ts s
 fr:Fr r w wk
 b0:Box4 wk w.heap.size (U O 0) (I empty) (U O 0) (J F 0 0)
 b1:Box4 wk (w.heap.size+1) (U O k) (I x) (U O m) kv
 old:r<w.heap.size
 own:∀g,L.ownBlock=Z g->g<w.heap.size
section
variable {wk:Zw} {k m:Int} {x:ByteArray} {kv:Zv}
theorem Mid.size (a:Mid w r L ts wk s k x m kv):w.heap.size+1<wk.heap.size:=a.b1.lt
theorem Mid.step (a:Mid w r L ts wk s k x m kv) {w':Zw} {c:St} (d:Rd w' r L ts c) (b:Fr r wk w'):Mid w r L ts w' c k x m kv :=
 ⟨d,a.fr.trans b,a.b0.fr b (by have:=a.old;omega),a.b1.fr b (by have:=a.old;omega),a.old,a.own⟩
theorem Mid.kind (a:Mid w r L ts wk s k x m kv) (b:Int):Mid w r L ts (wk.setCell (A (w.heap.size+1) 0 F) (U O b)) s b x m kv :=
 ⟨a.rd.setNew (by have:=a.old;omega) (fun c=>by have:=a.own _ c;omega) _,a.fr.setNew oA _,a.b0.other oA _,a.b1.set0 _,a.old,a.own⟩
theorem Mid.text (a:Mid w r L ts wk s k x m kv) (b:ByteArray):Mid w r L ts (wk.setCell (A (w.heap.size+1) 1 F) (I b)) s k b m kv :=
 ⟨a.rd.setNew (by have:=a.old;omega) (fun c=>by have:=a.own _ c;omega) _,a.fr.setNew oA _,a.b0.other oA _,a.b1.set1 _,a.old,a.own⟩
theorem Mid.num (a:Mid w r L ts wk s k x m kv) (b:Int):Mid w r L ts (wk.setCell (A (w.heap.size+1) 2 F) (U O b)) s k x b kv :=
 ⟨a.rd.setNew (by have:=a.old;omega) (fun c=>by have:=a.own _ c;omega) _,a.fr.setNew oA _,a.b0.other oA _,a.b1.set2 _,a.old,a.own⟩
theorem Mid.alloc (a:Mid w r L ts wk s k x m kv) (b:Obj):Mid w r L ts (wk.alloc b) s k x m kv:=a.step (a.rd.alloc b) (Fr.al _ _)
theorem Mid.drewN (a:Mid w r L ts wk s k x m kv) (n:Nat):Mid w r L ts (wk.drewN n) s k x m kv:=a.step (a.rd.drewN n) ((Fr.refl _ _).drewN n)
theorem Mid.grown (b:Mid w r L ts wk s k x m kv) {w':Zw} {row:Option Nat} (e:wk.grownBy w' row) (d:∀c,row=Z c->w.heap.size+2<=c):Mid w r L ts w' s k x m kv :=
 ⟨b.rd.grown e (fun a=>by have:=d _ a;have:=b.old;omega) (by cases a:L.ownBlock with | none=>exact .inl rfl | some c=>exact .inr (fun f=>by have g:=b.own c a;have h:=d c f.symm;omega)),b.fr.grown e (fun c a=>by have:=d c a;omega),
  b.b0.grown e (fun a=>by have:=d _ a;omega),b.b1.grown e (fun a=>by have:=d _ a;omega),b.old,b.own⟩
theorem Mid.put (a:Mid w r L ts wk s k x m kv) (b d:Int) (e:ByteArray) (c:Zv):Mid w r L ts ((((wk.setCell (A (w.heap.size+1) 0 F) (U O b)).setCell (A (w.heap.size+1) 1 F) (I e)).setCell (A (w.heap.size+1) 2 F) (U O d)).setCell (A (w.heap.size+1) 3 F) c) s b e d c :=
 ⟨a.rd.put4 (by have:=a.old;omega) (fun f=>by have:=a.own _ f;omega) _ _ _ _,a.fr.put4 oA _ _ _ _,a.b0.fr (Fr.put _ _ _ _ _ _) oA,a.b1.put,a.old,a.own⟩
theorem Mid.start (a:Rd w r L ts s):Mid w r L ts ((w.alloc (Zc #[U O 0,I empty,U O 0,J F 0 0] 25)).alloc (Zc #[U O 0,I empty,U O 0,J F 0 0] 25)) s 0 empty 0 (J F 0 0):=by
 have b:=Box4.new (w.alloc (Zc #[U O 0,I empty,U O 0,J F 0 0] 25)) (U O 0) (I empty) (U O 0) (J F 0 0) 25;rw[jO]at b;exact⟨(a.alloc _).alloc _,(Fr.al _ _).alloc _,(Box4.new w _ _ _ _ _).alloc _,b,a.lt,fun c d=>(a.own.lt c d).2⟩
theorem Mid.first (u:Mid w r L ts wk s k x m (J F 0 0)) {i:Tree} {j n:Int} {l:ByteArray} {o:Option Addr} {q p:Nat} {B:Nat} (D:w.heap.size+2<=B) (z:Lies (fun a=>B<=a/\a<wk.heap.size) wk i (Za #[U O j,I l,U O n,J o q p])) : Calls prog 108 #[Za #[U O k,I x,U O m,J F 0 0],Za #[U O j,I l,U O n,J o q p]] wk fun b w'=>∃c d,b=.returned (Za #[U O k,I x,U O m,J c 1 d]) /\ Kids (w.heap.size+2) (fun a=>w.heap.size+2<=a/\a<wk.heap.size) w' (J c 1 d) [i]/\Mid w r L ts w' s k x m (J F 0 0)/\wk.grownBy w' F/\(∀e,(Value.slice c 1 d).ownBlock=Z e->wk.heap.size<=e):=by
 have G:=u.size;refine(zd0 wk k m x (J F 0 0) [] (w.heap.size+2) (fun a=>w.heap.size+2<=a/\a<wk.heap.size) i j n l o q p (Kids.nil _ _ _) oA oB (z.to (fun a h=>⟨oA,h.2⟩) (fun _ _ _=>rfl)) (fun a h=>⟨h.2,oO⟩)).mono ?_;rintro b w' ⟨K,rfl,y,v,C⟩;obtain⟨c,d,rfl⟩:=y.shape;refine⟨c,d,rfl,y,u.grown v (fun e b=>by simp[Value.ownBlock]at b),v,fun e f=>?_⟩;rcases C with b | ⟨t,b,E⟩
 ·have g:(Value.slice c 1 d).ownBlock=F:=b;rw[g]at f;simp at f
 ·have g:(Value.slice c 1 d).ownBlock=Z t:=b;rw[g]at f;have:t=e:=by simpa using f
  omega
end
end
section
variable {w:Zw} {r:Nat} {L:Zv} {ts:List Tok} {s:St} {wk:Zw} {k m:Int} {x:ByteArray} {kv:Zv} {ks:List Tree}
structure MK (w:Zw) (r:Nat) (L:Zv) (ts:List Tok) (wk:Zw) (s:St) (k:Int) (x:ByteArray) (m:Int) (kv:Zv) (ks:List Tree):Prop where
 mid:Mid w r L ts wk s k x m kv
 kids:Kids (w.heap.size+2) (fun b=>w.heap.size+2<=b/\b<wk.heap.size/\Z b≠kv.ownBlock) wk kv ks
theorem MK.nr (a:MK w r L ts wk s k x m kv ks):kv.ownBlock≠Z r:=fun b=>by have c:=(a.kids.blk b).1;have d:=a.mid.old;omega
theorem MK.nb (b:MK w r L ts wk s k x m kv ks):kv.ownBlock≠Z (w.heap.size+1):=fun a=>by have c:=(b.kids.blk a).1;omega
theorem MK.step (b:MK w r L ts wk s k x m kv ks) {w':Zw} {d:St} (f:Rd w' r L ts d) (c:Fr r wk w'):MK w r L ts w' d k x m kv ks :=
 ⟨b.mid.step f c,b.kids.grown c (.inr b.nr) (fun e a=>⟨a.2.1,by have:=b.mid.old;simp;omega⟩) (fun e a=>⟨a.1,jo a.2.1 c.size,a.2.2⟩)⟩
theorem MK.alloc (a:MK w r L ts wk s k x m kv ks) (b:Obj):MK w r L ts (wk.alloc b) s k x m kv ks:=a.step (a.mid.rd.alloc b) (Fr.al _ _)
theorem MK.drewN (a:MK w r L ts wk s k x m kv ks) (n:Nat):MK w r L ts (wk.drewN n) s k x m kv ks:=a.step (a.mid.rd.drewN n) ((Fr.refl _ _).drewN n)
theorem MK.cell {o:Nat} (v:Zv) (c:MK w r L ts wk s k x m kv ks):Kids (w.heap.size+2) (fun a=>w.heap.size+2<=a/\a<(wk.setCell (A (w.heap.size+1) o F) v).heap.size/\Z a≠kv.ownBlock) (wk.setCell (A (w.heap.size+1) o F) v) kv ks :=
 c.kids.grown ((Fr.refl (w.heap.size+1) wk).set o v) (.inr c.nb) (fun a b=>⟨b.2.1,oE⟩) (fun a b=>⟨b.1,by rw[jQ];exact b.2.1,b.2.2⟩)
theorem MK.kind (b:MK w r L ts wk s k x m kv ks) (a:Int):MK w r L ts (wk.setCell (A (w.heap.size+1) 0 F) (U O a)) s a x m kv ks:=⟨b.mid.kind a,b.cell _⟩
theorem MK.text (b:MK w r L ts wk s k x m kv ks) (a:ByteArray):MK w r L ts (wk.setCell (A (w.heap.size+1) 1 F) (I a)) s k a m kv ks:=⟨b.mid.text a,b.cell _⟩
theorem MK.num (b:MK w r L ts wk s k x m kv ks) (a:Int):MK w r L ts (wk.setCell (A (w.heap.size+1) 2 F) (U O a)) s k x a kv ks:=⟨b.mid.num a,b.cell _⟩
theorem MK.start (a:Rd w r L ts s):MK w r L ts ((w.alloc (Zc #[U O 0,I empty,U O 0,J F 0 0] 25)).alloc (Zc #[U O 0,I empty,U O 0,J F 0 0] 25)) s 0 empty 0 (J F 0 0) []:=⟨Mid.start a,Kids.nil _ _ _⟩
theorem MK.pushed {l:List Q4} (f:Mid w r L ts wk s k x m kv) (K:wk.ownsRow (w.heap.size+2) 25 4 kv ks.length (xS l)) (B:kW (fun b=>w.heap.size+2<=b/\b<wk.heap.size/\Z b≠kv.ownBlock) wk ks l) {t:Tree} {q:Q4} (z:Lies (fun b=>w.heap.size+2<=b/\b<wk.heap.size/\Z b≠kv.ownBlock) wk t q.v) {g:Zw} {d:Zv} {N:Obj} (u:g.ownsRow (w.heap.size+2) 25 4 d (ks.length+1) (xS l++[q.1,q.2.1,q.2.2.1,q.2.2.2])) (E:(wk.alloc N).grownBy g kv.ownBlock) (C:d.ownBlock=kv.ownBlock\/d.ownBlock=Z (wk.heap.size+1)):MK w r L ts (g.setCell (A (w.heap.size+1) 3 F) d) s k x m d (ks++[t]):=by
 have P:=f.size;have G:∀e,kv.ownBlock=Z e->w.heap.size+2<=e/\e<wk.heap.size:=fun e D=>K.lt e D
 have o:wk.grownBy g kv.ownBlock:=gN (World.grownBy_alloc wk _ _) E;have Q:=o.size
 have M:d.ownBlock≠Z (w.heap.size+1):=fun c=>by
  have:=(u.lt _ c).1;omega
 have i:=f.grown o (fun e c=>(G e c).1)
 have y:∀b,(w.heap.size+2<=b/\b<wk.heap.size/\Z b≠kv.ownBlock)->∀j,(g.setCell (A (w.heap.size+1) 3 F) d).cell? (A b j F)=wk.cell? (A b j F):=fun b h j=>by
  rw[jD _ _ _ _ oH];exact jM (a:=(A b j F)) (o.block b h.2.1 h.2.2)
 have p:∀b,(w.heap.size+2<=b/\b<wk.heap.size/\Z b≠kv.ownBlock)->(w.heap.size+2<=b/\b<(g.setCell (A (w.heap.size+1) 3 F) d).heap.size/\Z b≠d.ownBlock):=fun b h=>⟨h.1,oN,fun c=>by
  rcases C with n | n
  ·exact h.2.2 (c.trans n)
  ·rw[n]at c;have:b=wk.heap.size+1:=by simpa using c
   omega⟩
 refine⟨⟨i.rd.setNew (by have:=f.old;omega) (fun c=>by have:=f.own _ c;omega) _,i.fr.setNew oA _,i.b0.other oA _,i.b1.set3 _,f.old,f.own⟩,l++[q],?_,kW.snoc (z.to p y) (B.to p y)⟩;rw[zap,jb];exact jU u M _
theorem MK.fin {e:St} (a:MK w r L ts wk s k x m kv ks) (c:Rd w r L ts e) (h:ks.length<=200000):Ans w r L ts (.node k x m ks,s) (.returned (Za #[U O k,I x,U O m,kv])) ((((wk.setCell (A w.heap.size 0 F) (U O k)).setCell (A w.heap.size 1 F) (I x)).setCell (A w.heap.size 2 F) (U O m)).setCell (A w.heap.size 3 F) kv) :=
 Ans.fin c a.mid.fr a.mid.rd (Nat.lt_succ_self _) (a.kids.lies (fun f d=>⟨oA,d.2.1⟩) (fun g b=>⟨by have:=(a.kids.blk b).1;omega,(a.kids.blk b).2⟩) oA)
end
section
variable {w:Zw} {r:Nat} {L:Zv} {ts:List Tok} {s:St}
theorem fC (ts:List Tok) (s:St):0<=(label ts s).1/\(label ts s).1<=1:=by
 unfold label;split<;>simp
set_option maxRecDepth 100000 in
theorem zus (N:Rd w r L ts s) (T:eqS (txt ts (kY ts s)) ⟨#[112,114,111,99]⟩=X) : Calls prog 31 #[Zp (Z (A r 0 F))] w (Ans w r L ts (.node 3 (name ts (label ts (kY ts s)).2).1 (vN ts s+(label ts (kY ts s)).1) (zG ts (name ts (label ts (kY ts s)).2).2).1,kB ts ⟨#[59]⟩ (zG ts (name ts (label ts (kY ts s)).2).2).2)):=by
 have aL:=kc25;obtain⟨ar,hi,an,ao,ap⟩:=info_parts uD;have a:=MK.start N;have D:∀ {w:Zw},Rd w r L ts (kY ts s)->Calls prog 60 #[Zp (Z (A r 0 F))] w fun d w'=>d=.returned (U O (label ts (kY ts s)).1)/\Rd w' r L ts (label ts (kY ts s)).2/\Fr r w w':=fun x=>fK x
 have ac:=fC ts (kY ts s);have u:kY ts s=if eqS (txt ts s) ⟨#[112,117,98]⟩ then s.next else s:=rfl;have p:vN ts s=if eqS (txt ts s) ⟨#[112,117,98]⟩ then 2 else 0:=rfl;generalize kY ts s=aI at T D ac u |-;generalize vN ts s=aM at p |-;generalize label ts aI=aE at D ac |-;obtain⟨z,a7⟩:=aE;dsimp only at D ac |-;have G:∀ {w:Zw},Rd w r L ts a7->Calls prog 29 #[Zp (Z (A r 0 F))] w fun d w'=>d=.returned (I (name ts a7).1)/\Rd w' r L ts (name ts a7).2/\Fr r w w':=fun x=>gF x
 generalize name ts a7=aF at G |-;obtain⟨B,o⟩:=aF;dsimp only at G |-;cases M:eqS (txt ts o) ⟨#[91]⟩
 case false =>
  have ab:zG ts o=([],o):=by unfold zG;rw[M];rfl
  rw[ab];cases y:eqS (txt ts s) ⟨#[112,117,98]⟩
  case true =>
   rw[y,jv rfl]at u p;subst u p;go_enter func31,ntmps31;go_wp2_with (fail);refine(zU a.mid.rd ⟨#[112,117,98]⟩ oC y).mono ?_;rintro d e ⟨rfl,c,b⟩;replace a:=a.step c b;clear c b;obtain⟨j,k,l,m,f,g,h,i⟩:=a.mid.b1;replace a:=a.num 2;go_wp2_with (fail);refine(kS a.mid.rd ⟨#[112,114,111,99]⟩ oC T).mono ?_;rintro d e ⟨rfl,c,b⟩;replace a:=a.step c b;clear c b;obtain⟨j,k,l,m,f,g,h,i⟩:=a.mid.b1;replace a:=a.kind 3;go_wp2_with (fail);refine(D a.mid.rd).mono ?_;rintro d e ⟨rfl,c,b⟩;replace a:=a.step c b;clear c b;obtain⟨j,k,l,m,f,g,h,i⟩:=a.mid.b1;replace a:=a.num (2+z);go_wp2_with (fail);refine(G a.mid.rd).mono ?_;rintro d e ⟨rfl,c,b⟩;replace a:=a.step c b;clear c b;obtain⟨j,k,l,m,f,g,h,i⟩:=a.mid.b1;replace a:=a.text B;go_wp2_with (fail);refine(kS a.mid.rd ⟨#[91]⟩ oC M).mono ?_;rintro d e ⟨rfl,c,b⟩;replace a:=a.step c b;clear c b;go_wp2_with (fail);refine(zI a.mid.rd ⟨#[59]⟩ oC).mono ?_;rintro d e ⟨rfl,c,b⟩;replace a:=a.step c b;clear c b;obtain⟨j,k,l,m,f,g,h,i⟩:=a.mid.b1;obtain⟨a2,a3,a5,a6,ag,ah,ai,aj⟩:=a.mid.b0;go_wp2;exact jT (v:=Za #[U O 3,I B,U O (2+z),J F 0 0]) oz04y29 rfl (a.fin N oB)
  case false =>
   rw[y,ju oC]at u p;subst u p;rw[Int.zero_add];go_enter func31,ntmps31;go_wp2_with (fail);refine(kS a.mid.rd ⟨#[112,117,98]⟩ oC y).mono ?_;rintro d e ⟨rfl,c,b⟩;replace a:=a.step c b;clear c b;go_wp2_with (fail);refine(kS a.mid.rd ⟨#[112,114,111,99]⟩ oC T).mono ?_;rintro d e ⟨rfl,c,b⟩;replace a:=a.step c b;clear c b;obtain⟨j,k,l,m,f,g,h,i⟩:=a.mid.b1;replace a:=a.kind 3;go_wp2_with (fail);refine(D a.mid.rd).mono ?_;rintro d e ⟨rfl,c,b⟩;replace a:=a.step c b;clear c b;obtain⟨j,k,l,m,f,g,h,i⟩:=a.mid.b1;replace a:=a.num z;go_wp2_with (fail);refine(G a.mid.rd).mono ?_;rintro d e ⟨rfl,c,b⟩;replace a:=a.step c b;clear c b;obtain⟨j,k,l,m,f,g,h,i⟩:=a.mid.b1;replace a:=a.text B;go_wp2_with (fail);refine(kS a.mid.rd ⟨#[91]⟩ oC M).mono ?_;rintro d e ⟨rfl,c,b⟩;replace a:=a.step c b;clear c b;go_wp2_with (fail);refine(zI a.mid.rd ⟨#[59]⟩ oC).mono ?_;rintro d e ⟨rfl,c,b⟩;replace a:=a.step c b;clear c b;obtain⟨j,k,l,m,f,g,h,i⟩:=a.mid.b1;obtain⟨a2,a3,a5,a6,ag,ah,ai,aj⟩:=a.mid.b0;go_wp2;exact jT (v:=Za #[U O 3,I B,U O z,J F 0 0]) oz04y29 rfl (a.fin N oB)
 case true =>
  have ab:zG ts o=([(number ts o.next).1],kB ts ⟨#[93]⟩ (number ts o.next).2):=by unfold zG;rw[M];rfl
  rw[ab];have K:∀ {w:Zw},Rd w r L ts o.next->Calls prog 61 #[Zp (Z (A r 0 F))] w fun d w'=>d=.returned (fR (zal (number ts o.next).1))/\Rd w' r L ts (number ts o.next).2/\Fr r w w':=fun x=>zoz x
  have W:=zhr ts o.next;unfold fR at K;generalize number ts o.next=aH at K W |-;obtain⟨aG,aN⟩:=aH;dsimp only at K W |-;generalize zal aG=n at K W;subst W;cases y:eqS (txt ts s) ⟨#[112,117,98]⟩
  case true =>
   rw[y,jv rfl]at u p;subst u p;go_enter func31,ntmps31;go_wp2_with (fail);refine(zU a.mid.rd ⟨#[112,117,98]⟩ oC y).mono ?_;rintro d e ⟨rfl,c,b⟩;replace a:=a.step c b;clear c b;obtain⟨j,k,l,m,f,g,h,i⟩:=a.mid.b1;replace a:=a.num 2;go_wp2_with (fail);refine(kS a.mid.rd ⟨#[112,114,111,99]⟩ oC T).mono ?_;rintro d e ⟨rfl,c,b⟩;replace a:=a.step c b;clear c b;obtain⟨j,k,l,m,f,g,h,i⟩:=a.mid.b1;replace a:=a.kind 3;go_wp2_with (fail);refine(D a.mid.rd).mono ?_;rintro d e ⟨rfl,c,b⟩;replace a:=a.step c b;clear c b;obtain⟨j,k,l,m,f,g,h,i⟩:=a.mid.b1;replace a:=a.num (2+z);go_wp2_with (fail);refine(G a.mid.rd).mono ?_;rintro d e ⟨rfl,c,b⟩;replace a:=a.step c b;clear c b;obtain⟨j,k,l,m,f,g,h,i⟩:=a.mid.b1;replace a:=a.text B;go_wp2_with (fail);refine(zU a.mid.rd ⟨#[91]⟩ oC M).mono ?_;rintro d e ⟨rfl,c,b⟩;replace a:=a.step c b;clear c b;go_wp2_with (fail);refine(K a.mid.rd).mono ?_;rintro d E ⟨rfl,af,ad⟩;replace a:=a.step af ad;have az:=a.mid.size;replace a:=a.alloc (Zc #[U O 15,I empty,U O n,J F 0 0] 25);obtain⟨j,k,l,m,f,g,h,i⟩:=a.mid.b1;obtain⟨ak,R,P⟩:=a.kids;have a8:Hid (kW (fun C=>w.heap.size+2<=C/\C<(E.alloc (Zc #[U O 15,I empty,U O n,J F 0 0] 25)).heap.size/\Z C≠(Value.slice F 0 0).ownBlock) (E.alloc (Zc #[U O 15,I empty,U O n,J F 0 0] 25)) [] ak):=P;clear P;go_wp2_with (at_builtin;refine uQ rfl (.tmp 34) (.tmp 36) 23 rfl (w.heap.size+2) 25 ar (Za #[U O 0,I ⟨#[]⟩,U O 0,J F 0 0]) 4 56 underlying23 hi an ao ap rfl oC _ _ _ rfl (R.alloc _) (A (E.heap.size+1) 0 F) 1 1 [U O 15,I empty,U O n,J F 0 0] rfl rfl (xL _ _ _ _ _ _ _ oB) oF (by unfold maxLen;simp) oB oH oC ?_;intro aJ aK S Q am;obtain⟨a9,aa,rfl,ay,_⟩:=own_shape S;obtain⟨au,av,aw,ax,aA,aB,aC,aD⟩:=(a.mid.b1.alloc _).grown Q a.nb;have ae:=MK.pushed (q:=(U O 15,I empty,U O n,J F 0 0)) (t:=.node 15 empty n []) a.mid R a8.out (Lies.leaf _ _ _ _ _) S Q oz04y30);replace a:=ae;refine(zI a.mid.rd ⟨#[93]⟩ oC).mono ?_;rintro d e ⟨rfl,c,b⟩;replace a:=a.step c b;clear c b;go_wp2_with (fail);refine(zI a.mid.rd ⟨#[59]⟩ oC).mono ?_;rintro d e ⟨rfl,c,b⟩;replace a:=a.step c b;clear c b;obtain⟨j,k,l,m,f,g,h,i⟩:=a.mid.b1;obtain⟨a2,a3,a5,a6,ag,ah,ai,aj⟩:=a.mid.b0;go_wp2;exact jT (v:=Za #[U O 3,I B,U O (2+z),J a9 1 aa]) oz04y29 rfl (a.fin N oB)
  case false =>
   rw[y,ju oC]at u p;subst u p;rw[Int.zero_add];go_enter func31,ntmps31;go_wp2_with (fail);refine(kS a.mid.rd ⟨#[112,117,98]⟩ oC y).mono ?_;rintro d e ⟨rfl,c,b⟩;replace a:=a.step c b;clear c b;go_wp2_with (fail);refine(kS a.mid.rd ⟨#[112,114,111,99]⟩ oC T).mono ?_;rintro d e ⟨rfl,c,b⟩;replace a:=a.step c b;clear c b;obtain⟨j,k,l,m,f,g,h,i⟩:=a.mid.b1;replace a:=a.kind 3;go_wp2_with (fail);refine(D a.mid.rd).mono ?_;rintro d e ⟨rfl,c,b⟩;replace a:=a.step c b;clear c b;obtain⟨j,k,l,m,f,g,h,i⟩:=a.mid.b1;replace a:=a.num z;go_wp2_with (fail);refine(G a.mid.rd).mono ?_;rintro d e ⟨rfl,c,b⟩;replace a:=a.step c b;clear c b;obtain⟨j,k,l,m,f,g,h,i⟩:=a.mid.b1;replace a:=a.text B;go_wp2_with (fail);refine(zU a.mid.rd ⟨#[91]⟩ oC M).mono ?_;rintro d e ⟨rfl,c,b⟩;replace a:=a.step c b;clear c b;go_wp2_with (fail);refine(K a.mid.rd).mono ?_;rintro d E ⟨rfl,af,ad⟩;replace a:=a.step af ad;have az:=a.mid.size;replace a:=a.alloc (Zc #[U O 15,I empty,U O n,J F 0 0] 25);obtain⟨j,k,l,m,f,g,h,i⟩:=a.mid.b1;obtain⟨ak,R,P⟩:=a.kids;have a8:Hid (kW (fun C=>w.heap.size+2<=C/\C<(E.alloc (Zc #[U O 15,I empty,U O n,J F 0 0] 25)).heap.size/\Z C≠(Value.slice F 0 0).ownBlock) (E.alloc (Zc #[U O 15,I empty,U O n,J F 0 0] 25)) [] ak):=P;clear P;go_wp2_with (at_builtin;refine uQ rfl (.tmp 34) (.tmp 36) 23 rfl (w.heap.size+2) 25 ar (Za #[U O 0,I ⟨#[]⟩,U O 0,J F 0 0]) 4 56 underlying23 hi an ao ap rfl oC _ _ _ rfl (R.alloc _) (A (E.heap.size+1) 0 F) 1 1 [U O 15,I empty,U O n,J F 0 0] rfl rfl (xL _ _ _ _ _ _ _ oB) oF (by unfold maxLen;simp) oB oH oC ?_;intro aJ aK S Q am;obtain⟨a9,aa,rfl,ay,_⟩:=own_shape S;obtain⟨au,av,aw,ax,aA,aB,aC,aD⟩:=(a.mid.b1.alloc _).grown Q a.nb;have ae:=MK.pushed (q:=(U O 15,I empty,U O n,J F 0 0)) (t:=.node 15 empty n []) a.mid R a8.out (Lies.leaf _ _ _ _ _) S Q oz04y30);replace a:=ae;refine(zI a.mid.rd ⟨#[93]⟩ oC).mono ?_;rintro d e ⟨rfl,c,b⟩;replace a:=a.step c b;clear c b;go_wp2_with (fail);refine(zI a.mid.rd ⟨#[59]⟩ oC).mono ?_;rintro d e ⟨rfl,c,b⟩;replace a:=a.step c b;clear c b;obtain⟨j,k,l,m,f,g,h,i⟩:=a.mid.b1;obtain⟨a2,a3,a5,a6,ag,ah,ai,aj⟩:=a.mid.b0;go_wp2;exact jT (v:=Za #[U O 3,I B,U O z,J a9 1 aa]) oz04y29 rfl (a.fin N oB)
end
section
variable {w:Zw} {r:Nat} {L:Zv} {ts:List Tok} {s:St}
theorem Mid.other {wk:Zw} {k m:Int} {x:ByteArray} {kv:Zv} (a:Mid w r L ts wk s k x m kv) {M o:Nat} (c:w.heap.size+2<=M) (v:Zv):Mid w r L ts (wk.setCell (A M o F) v) s k x m kv :=
 ⟨a.rd.setNew (by have:=a.old;omega) (fun b=>by have:=a.own _ b;omega) _,a.fr.setNew oA _,a.b0.other oA _,a.b1.other oA _,a.old,a.own⟩
theorem MK.of {wk:Zw} {k m:Int} {x:ByteArray} {kv:Zv} {ks:List Tree} {b:Nat} (d:Mid w r L ts wk s k x m kv) (e:Kids (w.heap.size+2) (fun a=>w.heap.size+2<=a/\a<b/\Z a≠kv.ownBlock) wk kv ks) (i:b<=wk.heap.size):MK w r L ts wk s k x m kv ks :=
 ⟨d,by
  obtain⟨h,g,f⟩:=e
  exact⟨h,g,f.to (fun a c=>⟨c.1,oA,c.2.2⟩) (fun _ _ _=>rfl)⟩⟩
set_option maxRecDepth 100000 in
theorem zur {y:Nat} (b9:y<=100000) (aA:∀ {w:Zw} {s:St} {a2:Tree × St},Rd w r L ts s->qA ts y s=Z a2->Calls prog 62 #[Zp (Z (A r 0 F))] w (Ans w r L ts a2)) (aj:Rd w r L ts s) (az:eqS (txt ts s) ⟨#[112,117,98]⟩=H) (ay:eqS (txt ts s.next) ⟨#[112,114,111,99]⟩=H) {C:ByteArray} {E:St} (ax:name ts s.next.next=(C,E)) (au:eqS (txt ts (kB ts ⟨#[40]⟩ E)) ⟨#[41]⟩=X) {g:List Tree × St} (ag:yB ts y [] (kB ts ⟨#[40]⟩ E)=Z g) {b:Tree × St} (ac:qA ts y (zM ts (kB ts ⟨#[41]⟩ g.2))=Z b) : Calls prog 31 #[Zp (Z (A r 0 F))] w (Ans w r L ts (.node 4 C (yH ts 2 (kB ts ⟨#[41]⟩ g.2)) (g.1++[b.1]),b.2)):=by
 have aY:=kc25;obtain⟨ao,hi,ak,am,an⟩:=info_parts uD;have a:=MK.start aj;have HP:Hid (yB ts y [] (kB ts ⟨#[40]⟩ E)=Z g):=ag;have b8:((txt ts (kB ts ⟨#[40]⟩ E)).toList==[41])=X:=(eqS_lit _ _).symm.trans au;go_enter func31,ntmps31;go_wp2_with (fail);refine(zU a.mid.rd ⟨#[112,117,98]⟩ oC az).mono ?_;rintro f p ⟨rfl,d,c⟩;replace a:=a.step d c;clear d c;obtain⟨R,S,T,V,K,M,N,P⟩:=a.mid.b1;replace a:=a.num 2;go_wp2_with (fail);refine(zU a.mid.rd ⟨#[112,114,111,99]⟩ oC ay).mono ?_;rintro f p ⟨rfl,d,c⟩;replace a:=a.step d c;clear d c;obtain⟨R,S,T,V,K,M,N,P⟩:=a.mid.b1;replace a:=a.kind 4;have a5:=gF a.mid.rd;rw[ax]at a5;go_wp2_with (fail);refine a5.mono ?_;rintro f p ⟨rfl,d,c⟩;replace a:=a.step d c;clear d c a5;obtain⟨R,S,T,V,K,M,N,P⟩:=a.mid.b1;replace a:=a.text C;go_wp2_with (fail);refine(zI a.mid.rd ⟨#[40]⟩ oC).mono ?_;rintro f p ⟨rfl,d,c⟩;replace a:=a.step d c;clear d c;go_wp2_with (fail);refine(yK _ r L ts _ a.mid.rd).mono ?_;rintro f p ⟨rfl,aB,rfl⟩;replace a:=a.drewN aB;go_wp2
 go_loopg [6] y (fun k bg wr=>∃(ks:List Tree) (e:St) (kv:Zv) (ah:Bool),bg=Y ah/\Hid (if ah then yB ts k ks e=Z g else(ks,e)=g)/\ks.length+k<=y/\MK w r L ts wr e 4 C 2 kv ks)
 case atStart=>exact⟨[],_,J F 0 0,H,rfl,HP.out,oB,a⟩
 case round =>
  obtain⟨ks,e,kv,ah,rfl,aG,ba,a⟩:=hrel;cases ah
  case false =>
   have bc:(ks,e)=g:=by have:=aG.out;simpa using this
   subst bc;exact oz04x21
  case true =>
   exact oz04x23
set_option maxRecDepth 100000 in
theorem zs0 {y:Nat} (b9:y<=100000) (aA:∀ {w:Zw} {s:St} {a2:Tree × St},Rd w r L ts s->qA ts y s=Z a2->Calls prog 62 #[Zp (Z (A r 0 F))] w (Ans w r L ts a2)) (aj:Rd w r L ts s) (az:eqS (txt ts s) ⟨#[112,117,98]⟩=H) (ay:eqS (txt ts s.next) ⟨#[112,114,111,99]⟩=H) {C:ByteArray} {E:St} (ax:name ts s.next.next=(C,E)) (au:eqS (txt ts (kB ts ⟨#[40]⟩ E)) ⟨#[41]⟩=H) {g:List Tree × St} (ag:([],kB ts ⟨#[40]⟩ E)=g) {b:Tree × St} (ac:qA ts y (zM ts (kB ts ⟨#[41]⟩ g.2))=Z b) : Calls prog 31 #[Zp (Z (A r 0 F))] w (Ans w r L ts (.node 4 C (yH ts 2 (kB ts ⟨#[41]⟩ g.2)) (g.1++[b.1]),b.2)):=by
 have aY:=kc25;obtain⟨ao,hi,ak,am,an⟩:=info_parts uD;have a:=MK.start aj;have b8:((txt ts (kB ts ⟨#[40]⟩ E)).toList==[41])=H:=(eqS_lit _ _).symm.trans au;go_enter func31,ntmps31;go_wp2_with (fail);refine(zU a.mid.rd ⟨#[112,117,98]⟩ oC az).mono ?_;rintro f p ⟨rfl,d,c⟩;replace a:=a.step d c;clear d c;obtain⟨R,S,T,V,K,M,N,P⟩:=a.mid.b1;replace a:=a.num 2;go_wp2_with (fail);refine(zU a.mid.rd ⟨#[112,114,111,99]⟩ oC ay).mono ?_;rintro f p ⟨rfl,d,c⟩;replace a:=a.step d c;clear d c;obtain⟨R,S,T,V,K,M,N,P⟩:=a.mid.b1;replace a:=a.kind 4;have a5:=gF a.mid.rd;rw[ax]at a5;go_wp2_with (fail);refine a5.mono ?_;rintro f p ⟨rfl,d,c⟩;replace a:=a.step d c;clear d c a5;obtain⟨R,S,T,V,K,M,N,P⟩:=a.mid.b1;replace a:=a.text C;go_wp2_with (fail);refine(zI a.mid.rd ⟨#[40]⟩ oC).mono ?_;rintro f p ⟨rfl,d,c⟩;replace a:=a.step d c;clear d c;go_wp2_with (fail);refine(yK _ r L ts _ a.mid.rd).mono ?_;rintro f p ⟨rfl,aB,rfl⟩;replace a:=a.drewN aB;obtain⟨ks,e,kv,bb,ba,a⟩:∃ks e kv,(ks,e)=g/\ks.length<=y/\MK w r L ts _ e 4 C 2 kv ks:=⟨[],_,_,ag,oB,a⟩
 clear ag;subst bb;exact oz04x21
set_option maxRecDepth 100000 in
theorem zuq {y:Nat} (b9:y<=100000) (aA:∀ {w:Zw} {s:St} {a2:Tree × St},Rd w r L ts s->qA ts y s=Z a2->Calls prog 62 #[Zp (Z (A r 0 F))] w (Ans w r L ts a2)) (aj:Rd w r L ts s) (az:eqS (txt ts s) ⟨#[112,117,98]⟩=X) (ay:eqS (txt ts s) ⟨#[112,114,111,99]⟩=H) {C:ByteArray} {E:St} (ax:name ts s.next=(C,E)) (au:eqS (txt ts (kB ts ⟨#[40]⟩ E)) ⟨#[41]⟩=X) {g:List Tree × St} (ag:yB ts y [] (kB ts ⟨#[40]⟩ E)=Z g) {b:Tree × St} (ac:qA ts y (zM ts (kB ts ⟨#[41]⟩ g.2))=Z b) : Calls prog 31 #[Zp (Z (A r 0 F))] w (Ans w r L ts (.node 4 C (yH ts 0 (kB ts ⟨#[41]⟩ g.2)) (g.1++[b.1]),b.2)):=by
 have aY:=kc25;obtain⟨ao,hi,ak,am,an⟩:=info_parts uD;have a:=MK.start aj;have HP:Hid (yB ts y [] (kB ts ⟨#[40]⟩ E)=Z g):=ag;have b8:((txt ts (kB ts ⟨#[40]⟩ E)).toList==[41])=X:=(eqS_lit _ _).symm.trans au;go_enter func31,ntmps31;go_wp2_with (fail);refine(kS a.mid.rd ⟨#[112,117,98]⟩ oC az).mono ?_;rintro f p ⟨rfl,d,c⟩;replace a:=a.step d c;clear d c;go_wp2_with (fail);refine(zU a.mid.rd ⟨#[112,114,111,99]⟩ oC ay).mono ?_;rintro f p ⟨rfl,d,c⟩;replace a:=a.step d c;clear d c;obtain⟨R,S,T,V,K,M,N,P⟩:=a.mid.b1;replace a:=a.kind 4;have a5:=gF a.mid.rd;rw[ax]at a5;go_wp2_with (fail);refine a5.mono ?_;rintro f p ⟨rfl,d,c⟩;replace a:=a.step d c;clear d c a5;obtain⟨R,S,T,V,K,M,N,P⟩:=a.mid.b1;replace a:=a.text C;go_wp2_with (fail);refine(zI a.mid.rd ⟨#[40]⟩ oC).mono ?_;rintro f p ⟨rfl,d,c⟩;replace a:=a.step d c;clear d c;go_wp2_with (fail);refine(yK _ r L ts _ a.mid.rd).mono ?_;rintro f p ⟨rfl,aB,rfl⟩;replace a:=a.drewN aB;go_wp2
 go_loopg [6] y (fun k bg wr=>∃(ks:List Tree) (e:St) (kv:Zv) (ah:Bool),bg=Y ah/\Hid (if ah then yB ts k ks e=Z g else(ks,e)=g)/\ks.length+k<=y/\MK w r L ts wr e 4 C 0 kv ks)
 case atStart=>exact⟨[],_,J F 0 0,H,rfl,HP.out,oB,a⟩
 case round =>
  obtain⟨ks,e,kv,ah,rfl,aG,ba,a⟩:=hrel;cases ah
  case false =>
   have bc:(ks,e)=g:=by have:=aG.out;simpa using this
   subst bc;exact oz04x22
  case true =>
   exact oz04x23
set_option maxRecDepth 100000 in
theorem zsz {y:Nat} (b9:y<=100000) (aA:∀ {w:Zw} {s:St} {a2:Tree × St},Rd w r L ts s->qA ts y s=Z a2->Calls prog 62 #[Zp (Z (A r 0 F))] w (Ans w r L ts a2)) (aj:Rd w r L ts s) (az:eqS (txt ts s) ⟨#[112,117,98]⟩=X) (ay:eqS (txt ts s) ⟨#[112,114,111,99]⟩=H) {C:ByteArray} {E:St} (ax:name ts s.next=(C,E)) (au:eqS (txt ts (kB ts ⟨#[40]⟩ E)) ⟨#[41]⟩=H) {g:List Tree × St} (ag:([],kB ts ⟨#[40]⟩ E)=g) {b:Tree × St} (ac:qA ts y (zM ts (kB ts ⟨#[41]⟩ g.2))=Z b) : Calls prog 31 #[Zp (Z (A r 0 F))] w (Ans w r L ts (.node 4 C (yH ts 0 (kB ts ⟨#[41]⟩ g.2)) (g.1++[b.1]),b.2)):=by
 have aY:=kc25;obtain⟨ao,hi,ak,am,an⟩:=info_parts uD;have a:=MK.start aj;have b8:((txt ts (kB ts ⟨#[40]⟩ E)).toList==[41])=H:=(eqS_lit _ _).symm.trans au;go_enter func31,ntmps31;go_wp2_with (fail);refine(kS a.mid.rd ⟨#[112,117,98]⟩ oC az).mono ?_;rintro f p ⟨rfl,d,c⟩;replace a:=a.step d c;clear d c;go_wp2_with (fail);refine(zU a.mid.rd ⟨#[112,114,111,99]⟩ oC ay).mono ?_;rintro f p ⟨rfl,d,c⟩;replace a:=a.step d c;clear d c;obtain⟨R,S,T,V,K,M,N,P⟩:=a.mid.b1;replace a:=a.kind 4;have a5:=gF a.mid.rd;rw[ax]at a5;go_wp2_with (fail);refine a5.mono ?_;rintro f p ⟨rfl,d,c⟩;replace a:=a.step d c;clear d c a5;obtain⟨R,S,T,V,K,M,N,P⟩:=a.mid.b1;replace a:=a.text C;go_wp2_with (fail);refine(zI a.mid.rd ⟨#[40]⟩ oC).mono ?_;rintro f p ⟨rfl,d,c⟩;replace a:=a.step d c;clear d c;go_wp2_with (fail);refine(yK _ r L ts _ a.mid.rd).mono ?_;rintro f p ⟨rfl,aB,rfl⟩;replace a:=a.drewN aB;obtain⟨ks,e,kv,bb,ba,a⟩:∃ks e kv,(ks,e)=g/\ks.length<=y/\MK w r L ts _ e 4 C 0 kv ks:=⟨[],_,_,ag,oB,a⟩
 clear ag;subst bb;exact oz04x22
end
section
variable {r n:Nat} {L:Zv} {ts:List Tok} {s:St} {wk:Zw} {k m:Int} {x:ByteArray} {kv:Zv} {ks:List Tree}
structure MP (n r:Nat) (L:Zv) (ts:List Tok) (wk:Zw) (s:St) (k:Int) (x:ByteArray) (m:Int) (kv:Zv) (ks:List Tree):Prop where
 rd:Rd wk r L ts s
 box:Box4 wk n (U O k) (I x) (U O m) kv
 rn:r<n
 own:∀g,L.ownBlock=Z g->g<n
 kids:Kids (n+1) (fun b=>n+1<=b/\b<wk.heap.size/\Z b≠kv.ownBlock) wk kv ks
theorem MP.size (a:MP n r L ts wk s k x m kv ks):n<wk.heap.size:=a.box.lt
theorem MP.nr (a:MP n r L ts wk s k x m kv ks):kv.ownBlock≠Z r:=fun b=>by have c:=(a.kids.blk b).1;have d:=a.rn;omega
theorem MP.nb (b:MP n r L ts wk s k x m kv ks):kv.ownBlock≠Z n:=fun a=>by have c:=(b.kids.blk a).1;omega
theorem MP.step (a:MP n r L ts wk s k x m kv ks) {w':Zw} {d:St} (f:Rd w' r L ts d) (c:Fr r wk w'):MP n r L ts w' d k x m kv ks :=
 ⟨f,a.box.fr c (by have:=a.rn;omega),a.rn,a.own,a.kids.grown c (.inr a.nr) (fun e b=>⟨b.2.1,by have:=a.rn;simp;omega⟩) (fun e b=>⟨b.1,jo b.2.1 c.size,b.2.2⟩)⟩
theorem MP.alloc (a:MP n r L ts wk s k x m kv ks) (b:Obj):MP n r L ts (wk.alloc b) s k x m kv ks:=a.step (a.rd.alloc b) (Fr.al _ _)
theorem MP.text (a:MP n r L ts wk s k x m kv ks) (c:ByteArray):MP n r L ts (wk.setCell (A n 1 F) (I c)) s k c m kv ks :=
 ⟨a.rd.setNew (by have:=a.rn;omega) (fun e=>by have:=a.own _ e;omega) _,a.box.set1 _,a.rn,a.own,a.kids.grown ((Fr.refl n wk).set 1 _) (.inr a.nb) (fun d b=>⟨b.2.1,oE⟩) (fun d b=>⟨b.1,by rw[jQ];exact b.2.1,b.2.2⟩)⟩
theorem MP.pushed {l:List Q4} (c:MP n r L ts wk s k x m kv ks) (M:wk.ownsRow (n+1) 25 4 kv ks.length (xS l)) (C:kW (fun b=>n+1<=b/\b<wk.heap.size/\Z b≠kv.ownBlock) wk ks l) {t:Tree} {q:Q4} (z:Lies (fun b=>n+1<=b/\b<wk.heap.size/\Z b≠kv.ownBlock) wk t q.v) {g:Zw} {e:Zv} {P:Obj} (u:g.ownsRow (n+1) 25 4 e (ks.length+1) (xS l++[q.1,q.2.1,q.2.2.1,q.2.2.2])) (G:(wk.alloc P).grownBy g kv.ownBlock) (D:e.ownBlock=kv.ownBlock\/e.ownBlock=Z (wk.heap.size+1)):MP n r L ts (g.setCell (A n 3 F) e) s k x m e (ks++[t]):=by
 have T:=c.size;have S:=c.rn;have K:∀f,kv.ownBlock=Z f->n+1<=f/\f<wk.heap.size:=fun f E=>M.lt f E
 have i:wk.grownBy g kv.ownBlock:=gN (World.grownBy_alloc wk _ _) G;have V:=i.size;have N:e.ownBlock≠Z n:=fun d=>by have:=(u.lt _ d).1;omega
 have w:∀b,(n+1<=b/\b<wk.heap.size/\Z b≠kv.ownBlock)->∀j,(g.setCell (A n 3 F) e).cell? (A b j F)=wk.cell? (A b j F):=fun b h j=>by
  rw[jD _ _ _ _ oH];exact jM (a:=(A b j F)) (i.block b h.2.1 h.2.2)
 have p:∀b,(n+1<=b/\b<wk.heap.size/\Z b≠kv.ownBlock)->(n+1<=b/\b<(g.setCell (A n 3 F) e).heap.size/\Z b≠e.ownBlock):=fun b h=>⟨h.1,oN,fun d=>by
  rcases D with o | o
  ·exact h.2.2 (d.trans o)
  ·rw[o]at d;have:b=wk.heap.size+1:=by simpa using d
   omega⟩
 have B:=c.rd.grown i c.nr (by cases d:L.ownBlock with | none=>exact .inl rfl | some f=>exact .inr (fun y=>by have Q:=c.own f d;have R:=(K f y.symm).1;omega));refine⟨B.setNew oA (fun d=>by have:=c.own _ d;omega) _,(c.box.grown i c.nb).set3 _,c.rn,c.own,l++[q],?_,kW.snoc (z.to p w) (C.to p w)⟩;rw[zap,jb];exact jU u N _
end
end syn
namespace syn
open Go.RowKit
def fF (w:Zw):Prop:=∃cs t fr,w.heap[3]?=Z (Zc cs t fr)/\cs.size=20/\∀k,k<10->cs[k*2]?=Z (I (opAt k))/\cs[k*2+1]?=Z (U O (dQ k))
end syn
namespace syn
open Go.RowKit
open lexs (Tok Fine)
structure Ld (w:Zw) (r G:Nat) (ts:List Tok) (s:St):Prop where
 c0:∃a c,w.cell? (A r 0 F)=Z (J a (ts.length - s.i) c)/\ts.length - s.i<=c/\(s.i<ts.length->a=Z (A G (s.i*3) F))
 f0:w.frozen? (A r 0 F)=X
 tok:∀(k:Nat) (h:k<ts.length),w.cell? (A G (k*3) F)=Z (U O ts[k].kind)/\w.cell? (A G (k*3+1) F)=Z (I (raw ts[k]))/\w.cell? (A G (k*3+2) F)=Z (U O (ts[k].at_:Int))
 old:G<r
 len:ts.length<=3000
 le:s.i<=ts.length
 good:∀t∈ts,Fine t
 ok:s.bad=X
 ops:fF w
 low:3<r
section
variable {w w':Zw} {r G:Nat} {ts:List Tok} {s:St}
variable {a:List ByteArray}
theorem Ld.lt (a:Ld w r G ts s):r<w.heap.size:=by obtain⟨c,d,b,_⟩:=a.c0;exact jR w (A r 0 F) b
theorem Ld.gt (a:Ld w r G ts s) (b:0<ts.length):G<w.heap.size:=jR w (A G (0*3) F) (a.tok 0 b).1
theorem Ld.keep (a:Ld w r G ts s) {row:Option Nat} (f:w.grownBy w' row) (h:∀k,row=Z k->r<k):Ld w' r G ts s:=by
 have i:=f.block r a.lt (fun c=>by have:=h r c.symm;omega);refine⟨?_,(jN (a:=(A r 0 F)) i).trans a.f0,?_,a.old,a.len,a.le,a.good,a.ok,?_,a.low⟩;·obtain⟨b,j,m,d,e⟩:=a.c0;exact⟨b,j,(jM (a:=(A r 0 F)) i).trans m,d,e⟩
 ·intro k o;have g:=f.block G (a.gt oA) (fun c=>by have d:=h G c.symm;have e:=a.old;omega);rw[jM (a:=(A G (k*3) F)) g,jM (a:=(A G (k*3+1) F)) g,jM (a:=(A G (k*3+2) F)) g];exact a.tok k o
 ·obtain⟨l,p,fr,d,e,n⟩:=a.ops;have q:=a.low;have t:=a.lt;exact⟨l,p,fr,by rw[f.block _ oA (fun c=>by have:=h _ c.symm;omega)];exact d,e,n⟩
theorem Ld.alloc (b:Ld w r G ts s) (a:Obj):Ld (w.alloc a) r G ts s:=b.keep (World.grownBy_alloc w a F) oB
theorem Ld.drewN (a:Ld w r G ts s) (n:Nat):Ld (w.drewN n) r G ts s:=⟨a.c0,a.f0,a.tok,a.old,a.len,a.le,a.good,a.ok,a.ops,a.low⟩
theorem Ld.set (b:Ld w r G ts s) {N:Nat} (c:r<N) (o:Nat) (v:Zv):Ld (w.setCell (A N o F) v) r G ts s :=
 b.keep ((Fr.refl N w).set o v) (fun k a=>by
  obtain rfl:N=k:=by simpa using a
  exact c)
def zN (ts:List Tok) (s:St) (a:List ByteArray):Bool:=a.any fun b=>eqS (txt ts s) b
theorem ziz (e:¬s.i<ts.length) (b:a.all xJ=H):zN ts s a=X:=by
 unfold zN;rw[List.any_eq_false];intro d c;rw[List.all_eq_true]at b;rw[zxk oE (b d c)];simp
theorem zvs (f:Ld w r G ts s) (g:s.i<ts.length) (c:a.all xJ=H):zN ts s a=a.any fun b=>eqS (raw ts[s.i]) b:=by
 unfold zN;rw[List.all_eq_true]at c;have e:∀b∈a,eqS (txt ts s) b=eqS (raw ts[s.i]) b:=fun b d=>zdp (f.good _ (jH g)) f.ok (by simp[g]) (c b d)
 clear c
 induction a with
 | nil=>rfl
 | cons h j ih =>
  rw[List.any_cons,List.any_cons,e h oB,ih (fun b d=>e b (by simp[d]))]
def lost (ts:List Tok) (s:St):Zv:=match ts[s.i]? with
 | some t=>.iface 96 (Za #[U O (t.at_:Int)])
 | none=>.iface 97 (Za #[])
def Pan (ts:List Tok) (s:St):List PanicEntry:=[{ v:=lost ts s,recovered:=X }]
def Words (w:Zw) (g:Nat) (a:List ByteArray):Prop:=∀(k:Nat) (b:k<a.length),w.cell? (A g k F)=Z (I a[k])
theorem ztg {x:ByteArray} {k:Nat} (d:k<a.length) (b:eqS x a[k]=H):(a.any fun c=>eqS x c)=H:=by
 rw[List.any_eq_true];exact⟨a[k],jH _,b⟩
theorem zw8 {x:ByteArray} (c:∀j (f:j<a.length),eqS x a[j]=X):(a.any fun b=>eqS x b)=X:=by
 rw[List.any_eq_false];intro b e;obtain⟨k,d,rfl⟩:=List.mem_iff_getElem.1 e;simp[c k d]
theorem zzy (x:ByteArray) (a:List ByteArray) (h o:Nat) (v:a.length<=100) (i:Words w h a) : Calls prog 139 #[J (Z (A h 0 F)) a.length o,I x] w fun p w'=>∃n:Int,p=.returned (U O n)/\decide (0<=n)=(a.any fun e=>eqS x e)/\w'=w:=by
 go_enter func139,ntmps139;go_wp2;go_loop [8] (fun j=>∃k:Nat,k<=a.length/\j=U O k/\Hid (∀b (d:b<a.length),b<k->eqS x a[b]=X)) (fun j=>a.length - (intOf j).toNat)
 case atStart=>exact⟨0,jz _,rfl,fun b _ d=>oA⟩
 case round =>
  obtain⟨k,u,rfl,g⟩:=hrel;by_cases m:k<a.length
  ·have t:=i k m;have q:Hid (Words w h a):=i;clear i;have r:Hid (eqS x a[k]=eqS x a[k]):=rfl;cases f:eqS x a[k]
   ·have c:Hid (eqS x a[k]=X):=f;unfold eqS at f;go_wp2
    go_round
    case rel=>exact⟨k+1,oA,oJ,fun b d s=>by
     rcases jL b k with l | l
     ·exact g.out b d l
     ·have:b=k:=oA;subst this
      exact c.out⟩
    case measure=>simp[intOf];omega
   ·have c:Hid ((a.any fun e=>eqS x e)=H):=ztg m f;unfold eqS at f;go_wp2;go_ret;exact⟨(k:Int),rfl,by rw[c.out];simp,rfl⟩
  ·have c:Hid ((a.any fun e=>eqS x e)=X):=zw8 (fun b d=>g.out b d oA);clear g;go_wp2;go_ret;exact⟨-1,rfl,by rw[c.out];rfl,rfl⟩
theorem zuf (x:ByteArray) (a:List ByteArray) (b d:Nat) (h:a.length<=100) (g:Words w b a) : Calls prog 122 #[J (Z (A b 0 F)) a.length d,I x] w fun e w'=>e=.returned (Y (a.any fun c=>eqS x c))/\w'=w:=by
 have f:=zzy x a b d h g;generalize (a.any fun c=>eqS x c)=j at *;go_enter func122,ntmps122;go_wp2_with (fail);refine f.mono ?_;rintro e l ⟨k,rfl,hi,i⟩;obtain rfl:=i.symm;go_wp2;go_ret;exact⟨by rw[<- hi];rfl,rfl⟩
end
section
variable {w w':Zw} {r G:Nat} {ts:List Tok} {s:St}
theorem fS (b:Ld w r G ts s) (a:List ByteArray) (d e:Nat) (o:a.length<=100) (h:a.all xJ=H) (m:Words w d a) : Calls prog 96 #[Zp (Z (A r 0 F)),J (Z (A d 0 F)) a.length e] w fun f w'=>f=.returned (Y (zN ts s a))/\w'=w:=by
 have v:=kc76;have B:=b.len;obtain⟨u,y,j,z,k⟩:=b.c0;by_cases c:s.i<ts.length;·obtain rfl:=k c;rw[zvs b c h];obtain⟨E,K,L⟩:=b.tok s.i c;have l:=zuf (w:=w) (raw ts[s.i]) a d e o m;generalize (a.any fun q=>eqS (raw ts[s.i]) q)=t at *;generalize raw ts[s.i]=x at *;have g:0<ts.length - s.i:=oA;have C:ts.length - s.i<=3000:=oA;generalize ts.length - s.i=n at *;go_enter func96,ntmps96;go_wp2_with (fail);refine l.mono ?_;rintro f D ⟨rfl,p⟩;obtain rfl:=p.symm;go_wp2;go_ret;exact⟨rfl,rfl⟩
 ·rw[ziz c h];have g:ts.length - s.i=0:=oA;rw[g]at j;go_enter func96,ntmps96;go_wp2;go_ret;exact⟨rfl,rfl⟩
theorem zbi (a:Ld w r G ts s) : Calls prog 97 #[Zp (Z (A r 0 F))] w fun d w'=>d=.panicked (Pan ts s)/\w'=w:=by
 have h:=kc76;have l:=a.len;obtain⟨g,j,e,k,f⟩:=a.c0;unfold Pan lost;by_cases b:s.i<ts.length;·obtain rfl:=f b;rw[List.getElem?_eq_getElem b];obtain⟨o,p,q⟩:=a.tok s.i b;have c:0<ts.length - s.i:=oA;have m:ts.length - s.i<=3000:=oA;generalize ts.length - s.i=n at *;dsimp only;go_enter func97,ntmps97;go_wp2;exact⟨rfl,rfl,rfl⟩
 ·rw[List.getElem?_eq_none oA];have c:ts.length - s.i=0:=oA;rw[c]at e;dsimp only;go_enter func97,ntmps97;go_wp2;exact⟨rfl,rfl,rfl⟩
theorem zae (a:Ld w r G ts s) (e:s.i<ts.length) : Calls prog 98 #[Zp (Z (A r 0 F))] w fun l w'=>l=.returned (I (raw ts[s.i]))/\Ld w' r G ts s.next/\Fr r w w':=by
 have E:=kc76;have P:=a.len;obtain⟨D,h,q,K,t⟩:=a.c0;obtain rfl:=t e;obtain⟨S,T,V⟩:=a.tok s.i e;have y:=a.f0;have Q:0<ts.length - s.i:=oA;have R:ts.length - s.i<=3000:=oA;have u:ts.length - s.next.i=ts.length - s.i - 1:=by unfold St.next;dsimp only;omega
 have g:∀(b:Option Addr) (c:Nat),ts.length - s.i - 1<=c->(1<ts.length - s.i->b=Z (A G (s.i*3+3) F))->Ld (w.setCell (A r 0 F) (J b (ts.length - s.i - 1) c)) r G ts s.next:=by
  intro b c M v;refine⟨⟨b,c,?_,oA,fun d=>?_⟩,by simp[y],?_,a.old,a.len,e,a.good,a.ok,?_,a.low⟩;·rw[jS _ _ _ q,u]
  ·rw[v (by unfold St.next at d;dsimp only at d;omega)];unfold St.next;simp only[jh,Addr.mk.injEq,true_and,and_true];omega
  ·intro k z;have L:=a.old;rw[jD _ _ _ _ oH,jD _ _ _ _ oH,jD _ _ _ _ oH];exact a.tok k z
  ·obtain⟨j,C,fr,m,o,p⟩:=a.ops;have N:=a.low;exact⟨j,C,fr,by rw[jP _ _ _ _ oH];exact m,o,p⟩
 have f:Hid (∀(b:Option Addr) (c:Nat),ts.length - s.i - 1<=c->(1<ts.length - s.i->b=Z (A G (s.i*3+3) F))->Ld (w.setCell (A r 0 F) (J b (ts.length - s.i - 1) c)) r G ts s.next):=g;clear g;generalize ts.length - s.i=n at *;by_cases x:h=1;·subst x;have B:n=1:=oA;subst B;go_enter func98,ntmps98;go_wp2;go_ret;exact⟨rfl,f.out (Z (A G (s.i*3) F)) 0 oA (fun d=>oA),(Fr.refl _ _).set _ _⟩
 ·go_enter func98,ntmps98;go_wp2;go_ret;exact⟨rfl,f.out _ _ oA (fun d=>rfl),(Fr.refl _ _).set _ _⟩
theorem dC {c:List ByteArray} (d:c.all xJ=H) (a:zN ts s c=H):s.i<ts.length:=by
 rcases jL s.i ts.length with b | b
 ·exact b
 ·rw[ziz oA d]at a;simp at a
theorem zuk (g:Ld w r G ts s) (a:List ByteArray) (c e:Nat) (k:a.length<=100) (d:a.all xJ=H) (j:Words w c a) (b:zN ts s a=H) : Calls prog 82 #[Zp (Z (A r 0 F)),J (Z (A c 0 F)) a.length e] w fun f w'=>f=.returned (Y H)/\Ld w' r G ts s.next/\Fr r w w':=by
 have h:=fS g a c e k d j;rw[b]at h;have l:=zae g (dC d b);go_enter func82,ntmps82;exact oz04x26
theorem zwk (g:Ld w r G ts s) (a:List ByteArray) (b c:Nat) (i:a.length<=100) (j:a.all xJ=H) (h:Words w b a) (f:zN ts s a=X) : Calls prog 82 #[Zp (Z (A r 0 F)),J (Z (A b 0 F)) a.length c] w fun d w'=>d=.returned (Y X)/\w'=w:=by
 have e:=fS g a b c i j h;rw[f]at e;go_enter func82,ntmps82;go_wp2_with (fail);refine e.mono ?_;rintro d l ⟨rfl,k⟩;obtain rfl:=k.symm;go_wp2;go_ret;exact⟨rfl,rfl⟩
theorem zaz (g:Ld w r G ts s) (a:List ByteArray) (c e:Nat) (k:a.length<=100) (d:a.all xJ=H) (j:Words w c a) (b:zN ts s a=H) : Calls prog 80 #[Zp (Z (A r 0 F)),J (Z (A c 0 F)) a.length e] w fun f w'=>f=.returned (I (raw (ts[s.i]'(dC d b))))/\Ld w' r G ts s.next/\Fr r w w':=by
 have h:=fS g a c e k d j;rw[b]at h;have l:=zae g (dC d b);generalize raw (ts[s.i]'(dC d b))=x at *;go_enter func80,ntmps80;exact oz04x26
theorem ze9 (f:Ld w r G ts s) (a:List ByteArray) (c d:Nat) (j:a.length<=100) (k:a.all xJ=H) (i:Words w c a) (g:zN ts s a=X) : Calls prog 80 #[Zp (Z (A r 0 F)),J (Z (A c 0 F)) a.length d] w fun b w'=>b=.panicked (Pan ts s)/\w'=w:=by
 have e:=fS f a c d j k i;rw[g]at e;have h:=zbi f;go_enter func80,ntmps80;go_wp2_with (fail);refine e.mono ?_;rintro b n ⟨rfl,l⟩;obtain rfl:=l.symm;go_wp2_with (fail);refine h.mono ?_;rintro b o ⟨rfl,m⟩;obtain rfl:=m.symm;go_wp2;exact⟨rfl,rfl,rfl⟩
end
theorem eqS_comm (x a:ByteArray):eqS x a=eqS a x:=by unfold eqS;rw[Bool.eq_iff_iff];simp only[beq_iff_eq];exact eq_comm
section
variable {w w':Zw} {r G:Nat} {ts:List Tok} {s:St}
theorem Ld.below (b:Ld w r G ts s) (a:Below w.heap.size w w'):Ld w' r G ts s:=b.keep (row:=F) ⟨a.os,a.tape,a.output,a.size,fun d c _=>a.block d c⟩ oB
theorem reserved_any (x:ByteArray):(zK.any fun a=>eqS a x)=((x.toList==[100,111])||(x.toList==[101,108,115,101])||(x.toList==[103,105,118,101,115])||(x.toList==[104,105,103,104])||(x.toList==[105,102])||(x.toList==[105,109,112,111,114,116])||(x.toList==[105,110])||(x.toList==[108,111,119])||(x.toList==[109,111,100,117,108,101])||(x.toList==[111,117,116])||(x.toList==[112,114,111,99])||(x.toList==[112,117,98])||(x.toList==[114,101,116,117,114,110])||(x.toList==[119,104,105,108,101])):=by
 have d:(zK.any fun a=>eqS a x)=(zK.any fun a=>eqS x a):=by
  rw[Bool.eq_iff_iff,List.any_eq_true,List.any_eq_true];constructor;·rintro⟨a,b,c⟩;exact⟨a,b,by rw[eqS_comm];exact c⟩
  ·rintro⟨a,b,c⟩;exact⟨a,b,by rw[eqS_comm];exact c⟩
 rw[d];unfold zK;simp only[List.any_cons,List.any_nil,Bool.or_false];rw[show eqS x ⟨#[100,111]⟩=(x.toList==[100,111])from eqS_lit x [100,111],show eqS x ⟨#[101,108,115,101]⟩=(x.toList==[101,108,115,101])from eqS_lit x [101,108,115,101],show eqS x ⟨#[103,105,118,101,115]⟩=(x.toList==[103,105,118,101,115])from eqS_lit x [103,105,118,101,115],show eqS x ⟨#[104,105,103,104]⟩=(x.toList==[104,105,103,104])from eqS_lit x [104,105,103,104],show eqS x ⟨#[105,102]⟩=(x.toList==[105,102])from eqS_lit x [105,102],show eqS x ⟨#[105,109,112,111,114,116]⟩=(x.toList==[105,109,112,111,114,116])from eqS_lit x [105,109,112,111,114,116],show eqS x ⟨#[105,110]⟩=(x.toList==[105,110])from eqS_lit x [105,110],show eqS x ⟨#[108,111,119]⟩=(x.toList==[108,111,119])from eqS_lit x [108,111,119],show eqS x ⟨#[109,111,100,117,108,101]⟩=(x.toList==[109,111,100,117,108,101])from eqS_lit x [109,111,100,117,108,101],show eqS x ⟨#[111,117,116]⟩=(x.toList==[111,117,116])from eqS_lit x [111,117,116],show eqS x ⟨#[112,114,111,99]⟩=(x.toList==[112,114,111,99])from eqS_lit x [112,114,111,99],show eqS x ⟨#[112,117,98]⟩=(x.toList==[112,117,98])from eqS_lit x [112,117,98],show eqS x ⟨#[114,101,116,117,114,110]⟩=(x.toList==[114,101,116,117,114,110])from eqS_lit x [114,101,116,117,114,110],show eqS x ⟨#[119,104,105,108,101]⟩=(x.toList==[119,104,105,108,101])from eqS_lit x [119,104,105,108,101]];simp only[Bool.or_assoc]
theorem oisName (k b:Int) (x:ByteArray) (w:Zw) : Calls prog 37 #[Za #[U O k,I x,U O b]] w fun c w'=>c=.returned (Y (!(zK.any fun e=>eqS e x)&&k==1))/\Below w.heap.size w w':=by
 have f:=kc76;rw[reserved_any];cases g:(x.toList==[100,111])
 case true =>
  exact oz04x24
 cases h:(x.toList==[101,108,115,101])
 case true =>
  exact oz04x24
 cases n:(x.toList==[103,105,118,101,115])
 case true =>
  exact oz04x24
 cases o:(x.toList==[104,105,103,104])
 case true =>
  exact oz04x24
 cases p:(x.toList==[105,102])
 case true =>
  exact oz04x24
 cases q:(x.toList==[105,109,112,111,114,116])
 case true =>
  exact oz04x24
 cases r:(x.toList==[105,110])
 case true =>
  exact oz04x24
 cases s:(x.toList==[108,111,119])
 case true =>
  exact oz04x24
 cases t:(x.toList==[109,111,100,117,108,101])
 case true =>
  exact oz04x24
 cases u:(x.toList==[111,117,116])
 case true =>
  exact oz04x24
 cases i:(x.toList==[112,114,111,99])
 case true =>
  exact oz04x24
 cases j:(x.toList==[112,117,98])
 case true =>
  exact oz04x24
 cases l:(x.toList==[114,101,116,117,114,110])
 case true =>
  exact oz04x24
 cases m:(x.toList==[119,104,105,108,101])
 case true =>
  exact oz04x24
 simp only[Bool.or_false,Bool.not_false,Bool.true_and];go_enter func37,ntmps37;go_wp2;go_ret;exact⟨rfl,bal _⟩
def fQ (w:Zw) (r G:Nat) (ts:List Tok) (v:Zv) (a:St) (e:Ending) (w':Zw):Prop :=
 (a.bad=H/\e=.panicked (Pan ts a)/\Fr r w w')\/(a.bad=X/\e=.returned v/\Ld w' r G ts a/\Fr r w w')
theorem dJ (a:s.i<ts.length):ts[s.i]?=Z ts[s.i]:=List.getElem?_eq_getElem a
theorem gV (a:Ld w r G ts s):Calls prog 81 #[Zp (Z (A r 0 F))] w (fQ w r G ts (I (name ts s).1) (name ts s).2):=by
 have N:=kc76;have R:=a.len;have T:=a.lt;obtain⟨M,P,y,Q,z⟩:=a.c0;unfold name;by_cases d:s.i<ts.length
 ·obtain rfl:=z d;obtain⟨V,W,a2⟩:=a.tok s.i d;have v:0<ts.length - s.i:=oA;have S:ts.length - s.i<=3000:=oA;have t:=fun w=>oisName ts[s.i].kind (ts[s.i].at_:Int) (raw ts[s.i]) w
  have u:=zv9 (a.good _ (jH d)) a.ok (dJ d);rw[u]
  have p:ownName ts[s.i]=H->txt ts s=raw ts[s.i]:=by
   intro c;unfold ownName at c;simp only[jj,beq_iff_eq]at c;unfold txt;rw[bM a.ok,dJ d];simp only;rw[c.2,ju oC];rfl
  have j:∀w:Zw,Calls prog 37 #[Za #[U O ts[s.i].kind,I (raw ts[s.i]),U O (ts[s.i].at_:Int)]] w fun b w'=>b=.returned (Y (ownName ts[s.i]))/\Below w.heap.size w w':=t
  clear t u;cases o:ownName ts[s.i]
  ·rw[o]at j;simp only[jr,if_false];have f:∀w',Fr r w w'->Ld w' r G ts s->Calls prog 97 #[Zp (Z (A r 0 F))] w' fun b k=>b=.panicked (Pan ts s)/\k=w':=fun w' _ c=>zbi c
   have l:Hid (Ld w r G ts s):=a;clear p a;generalize ts[s.i].kind=K at *;generalize raw ts[s.i]=L at *;generalize ts[s.i].at_=E at *;generalize ts.length - s.i=n at *;go_enter func81,ntmps81;go_wp2_with (fail);refine(j _).mono ?_;rintro b g ⟨rfl,e⟩;have h:Fr r w g:=Fr.below e;have m:Ld g r G ts s:=l.out.below e;go_wp2_with (fail);refine(f _ h m).mono ?_;rintro b x ⟨rfl,q⟩;obtain rfl:=q.symm;go_wp2;exact⟨rfl,.inl ⟨rfl,rfl,h⟩⟩
  ·rw[o]at j;simp only[if_true];rw[p o];have f:∀w',Ld w' r G ts s->Calls prog 98 #[Zp (Z (A r 0 F))] w' fun b k=>b=.returned (I (raw ts[s.i]))/\Ld k r G ts s.next/\Fr r w' k:=fun w' c=>zae c d
   have l:Hid (Ld w r G ts s):=a;have D:s.next.bad=X:=a.ok;clear p a;generalize ts[s.i].kind=K at *;generalize raw ts[s.i]=L at *;generalize ts[s.i].at_=E at *;generalize ts.length - s.i=n at *;go_enter func81,ntmps81;go_wp2_with (fail);refine(j _).mono ?_;rintro b g ⟨rfl,e⟩;have h:Fr r w g:=Fr.below e;have m:Ld g r G ts s:=l.out.below e;go_wp2_with (fail);refine(f _ m).mono ?_;rintro b x ⟨rfl,C,B⟩;go_wp2;go_ret;exact .inr ⟨D,rfl,C,h.trans B⟩
 ·have v:ts.length - s.i=0:=oA;rw[v]at y;rw[zt2 (List.getElem?_eq_none oA)];simp only[jr,if_false];have f:=zbi a;go_enter func81,ntmps81;go_wp2_with (fail);refine f.mono ?_;rintro b x ⟨rfl,q⟩;obtain rfl:=q.symm;go_wp2;exact⟨rfl,.inl ⟨rfl,rfl,Fr.refl _ _⟩⟩
end
end syn
namespace syn
open Go.RowKit
theorem zb2 {w w':Zw} (a:fF w) (f:Below w.heap.size w w'):fF w':=by
 obtain⟨c,h,fr,b,d,e⟩:=a
 have g:3<w.heap.size:=by
  rcases jL 3 w.heap.size with a | a
  ·exact a
  ·rw[Array.getElem?_eq_none a]at b;simp at b
 exact⟨c,h,fr,by rw[f.block _ g];exact b,d,e⟩
theorem zuj (a:Array Zv) (j:a.size=20) (f:∀k,k<10->a[k*2]?=Z (I (opAt k))/\a[k*2+1]?=Z (U O (dQ k))) (k:Nat) (c:k<10) (w:Zw) : (Instr.index 204 (.agg a) (U O (k:Int))).run prog w=.ok (Za #[I (opAt k),U O (dQ k)]) w:=by
 have h:=kc203;obtain⟨d,e⟩:=f k c
 have g:a.extract (k*2) (k*2+2)=#[I (opAt k),U O (dQ k)]:=by
  apply Array.ext_getElem?;intro b;rw[Array.getElem?_extract];by_cases hi:b<2
  ·have i:min (k*2+2) a.size=k*2+2:=oA;rw[jv oA];rcases(show b=0\/b=1 by omega)with rfl | rfl
   ·simpa using d
   ·simpa using e
  ·rw[ju oA];simp;omega
 simp[Instr.index,go_sem,underlying204,c,g]
theorem ten {k:Nat} (a:k<10):k=0\/k=1\/k=2\/k=3\/k=4\/k=5\/k=6\/k=7\/k=8\/k=9:=oA
theorem zdo {x b:ByteArray} (a:eqS x b=H):b=x:=by
 unfold eqS at a;rw[beq_iff_eq,ByteArray.toList_eq,ByteArray.toList_eq]at a;exact WideShapes.bytes_inj a.symm
theorem zjs (x a:ByteArray):eqS x a=(x.data.toList==a.data.toList):=by unfold eqS;rw[ByteArray.toList_eq,ByteArray.toList_eq]
theorem cY (x:ByteArray):sign x=((signs.find? fun a=>a.1.data.toList==x.data.toList).map (·.2)).getD (0,-1):=by
 unfold sign;simp only[zjs]
theorem zz0 {x:ByteArray} {k:Nat} (c:k<10) (b:eqS (opAt k) x=H) (a:0<=(sign x).2):(k:Int)=(sign x).1:=by
 obtain rfl:=zdo b;rw[cY]at a |-;rcases ten c with rfl | rfl | rfl | rfl | rfl | rfl | rfl | rfl | rfl | rfl<;>revert a<;>decide
theorem zye {x:ByteArray} (a:∀b,b<10->eqS (opAt b) x=X):(sign x).2<0:=by
 have c:sign x=(0,-1):=by
  refine zci x (fun b d=>?_);have e:b<9:=d;rcases cM e with rfl | rfl | rfl | rfl | rfl | rfl | rfl | rfl | rfl
  ·exact a 9 oA
  ·exact a 8 oA
  ·exact a 1 oA
  ·exact a 2 oA
  ·exact a 7 oA
  ·exact a 3 oA
  ·exact a 4 oA
  ·exact a 5 oA
  ·exact a 6 oA
 rw[c]
 decide
theorem zql (x:ByteArray) (w:Zw) (y:fF w) (s:0<=(sign x).2) : Calls prog 169 #[I x] w fun u w'=>u=.returned (U O (sign x).1)/\Below w.heap.size w w':=by
 have E:=kc203;have hi:(prog.info? 204).map (·.size)=Z 20:=oD
 obtain⟨l,B,fr,z,r,n⟩:=y;have g:=fun k p w=>zuj l r n k p w
 clear n;rw[<- r]at hi;have j:Hid (0<=(sign x).2):=s;clear s;obtain⟨c,h⟩:∃c,c=(sign x).1:=⟨_,rfl⟩
 rw[<- h];have t:Hid (c=(sign x).1):=h;clear h;go_enter func169,ntmps169;go_wp2_with (refine wpList_load_row rfl 204 _ rfl 3 rfl B l fr _ z underlying204 rfl hi ?_);go_loopw [6] (fun v wr=>∃k:Nat,k<=10/\v=U O k/\Below w.heap.size w wr/\Hid (∀a,a<k->eqS (opAt a) x=X)) (fun v _=>10 - (intOf v).toNat)
 case atStart=>exact⟨0,oA,rfl,Below.refl _ _,fun a o=>oA⟩
 case round =>
  obtain⟨k,p,rfl,e,i⟩:=hrel;by_cases q:k<10
  ·have d:=g k q wr;have G:(k:Int)<10:=oA;cases b:eqS (opAt k) x
   ·have f:Hid (eqS (opAt k) x=X):=b;unfold eqS at b;clear g;generalize opAt k=C at d b;generalize dQ k=D at d;go_wp2;go_roundw
    case rel=>exact⟨k+1,oA,oJ,e.alloc e.size _,fun a o=>by
     rcases jL a k with m | m
     ·exact i.out a m
     ·have:a=k:=oA;subst this
      exact f.out⟩
    case measure=>simp[intOf];omega
   ·have f:Hid ((k:Int)=c):=(zz0 q b j.out).trans t.out.symm;unfold eqS at b;clear g;generalize opAt k=C at d b;generalize dQ k=D at d;go_wp2;go_ret;exact⟨by rw[<- f.out];rfl,e.alloc e.size _⟩
  ·have:=zye (x:=x) (fun a o=>i.out a oA);have:=j.out;omega
end syn
end Go.Proofs.YtjkcecppnmlhjaaGreatDoor
