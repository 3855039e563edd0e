/- What the reference's isLabel, Place and May answer: contracts. -/
import Derived.Test.YtjkcecppnmlhjaaGreatDoorNQr
import Derived.Test.YtjkcecppnmlhjaaGreatDoorNQ12
open Go.Proofs.Tryz
open Go.Value renaming int → U, string → I, slice → J, bool → Y, agg → Za, pointer → Zp
open Go.IntKind renaming i64 → O
open Go.Obj renaming cells → Zc
open Go.Addr renaming mk → A
open Option renaming none → F, some → Z
open Bool renaming false → X, true → H
open Go renaming World → Zw, Value → Zv
set_option maxHeartbeats 4000000
set_option linter.unusedVariables false
set_option linter.unusedSimpArgs false
set_option maxRecDepth 100000
namespace Go.Proofs.YtjkcecppnmlhjaaGreatDoor
theorem oz13x120 {a2:Prop} (a9:a2:=by
 obtain⟨m,n,o,p,i,j,k,l⟩:=a.b1;replace a:=a.kind 7;go_wp2_with (fail);refine(fK a.rd).mono ?_;rintro d e ⟨rfl,c,b⟩;replace a:=a.step c b;clear c b;obtain⟨m,n,o,p,i,j,k,l⟩:=a.b1;replace a:=a.num (label ts s).1;go_wp2_with (fail);refine(gF a.rd).mono ?_;rintro d e ⟨rfl,c,b⟩;replace a:=a.step c b;clear c b;obtain⟨m,n,o,p,i,j,k,l⟩:=a.b1;replace a:=a.text (name ts (label ts s).2).1;go_wp2_with (fail);refine(zI a.rd ⟨#[61]⟩ oC).mono ?_;rintro d e ⟨rfl,c,b⟩;replace a:=a.step c b;clear c b;go_wp2_with (fail);refine(W a.rd P).mono ?_;rintro d M ⟨aB,rfl,R,ae,ab⟩;obtain⟨ag,ap,ai,_,rfl,a6,G,a8,rfl⟩:=R.shape;have av:=a.size;have C:=a.step ae ab;have au:w.heap.size+1<M.heap.size:=C.size;obtain⟨m,n,o,p,i,j,k,l⟩:=C.b1;have aa:=(C.alloc (Zc #[U O ag,I ap,U O ai,J a6 G a8] 25)).first (B:=w.heap.size+2) (jE _) (R.frP (x:=M.heap.size) (Fr.al M _) (fun t V=>⟨V.2,oA⟩) (fun t V=>⟨oA,oG⟩))
 go_wp2_with (fail);refine aa.mono ?_;rintro d aC ⟨y,z,rfl,ad,S,ac,ar⟩;obtain⟨m,n,o,p,i,j,k,l⟩:=S.b1;have T:=S.put 7 (label ts s).1 (name ts (label ts s).2).1 (J y 1 z);go_wp2_with (fail);refine(zI T.rd ⟨#[59]⟩ oC).mono ?_;rintro d a3 ⟨rfl,af,Q⟩;have u:=T.step af Q;obtain⟨ak,am,an,ao,ax,ay,az,aA⟩:=u.b0;obtain⟨m,n,o,p,i,j,k,l⟩:=u.b1;have a5:Hid (Lies (fun t=>w.heap.size+1<=t/\t<a3.heap.size) a3 (.node 7 (name ts (label ts s).2).1 (label ts s).1 [f.1]) (Za #[U O 7,I (name ts (label ts s).2).1,U O (label ts s).1,J y 1 z])):=ad.done ac.size oB Q h.lt;go_wp2
 exact jT (v:=Za #[U O 7,I (name ts (label ts s).2).1,U O (label ts s).1,J y 1 z]) (by simp[results,results91,go_sem,ak,am,an,ao]) rfl
  (Ans.fin h u.fr u.rd (Nat.lt_succ_self _) a5.out)):a2:=a9
theorem oz13y128 {l:Prop} (aA:l:=by
 simp[results,results12,go_sem,ae,p,af,ag,ah,ai,empty]):l:=aA
theorem oz13y127 {l:Prop} (aA:l:=by
 rcases b7 with h | h;exact .inl h;exact .inr (by rw[h];simp)):l:=aA
theorem oz13y133 {h:Prop} (d:h:=by
 have:=b7.out;omega):h:=d
theorem oz13y132 {h:Prop} (d:h:=by
 have:=(s.on.lt _ a).2;simp at this):h:=d
theorem oz13y131 {h:Prop} (d:h:=by
 rw[d];simp):h:=d
theorem oz13y130 {h:Prop} (d:h:=by
 have:=s.lt;simp;omega):h:=d
theorem oz13y129 {h:Prop} (d:h:=by
 unfold maxLen;omega):h:=d
theorem oz13x121 {h:Prop} (d:h:=by
 go_wp2_with (go_at_call 26;refine(u _ G).mono ?_;rintro a a2 ⟨⟨W,rfl,q⟩,o⟩;obtain rfl:=o.symm;simp at q)
 refine jT (v:=Za #[U O 5,U O c]) (by simp[results,results13,go_sem,ap,ar]) rfl ⟨za1 (w:=w) R B.out,cU g.below _ _⟩):h:=d
theorem oz13x122 {h:Prop} (d:h:=by
 go_wp2_with (go_at_call 26;refine(u _ G).mono ?_;rintro a a2 ⟨⟨W,rfl,q⟩,o⟩;obtain rfl:=o.symm;simp at q)
 refine jT (v:=Za #[U O 1,U O c]) (by simp[results,results13,go_sem,ap,ar]) rfl ⟨za1 (w:=w) R B.out,cU g.below _ _⟩):h:=d
theorem oz13x123 {h:Prop} (d:h:=by
 have B:Hid (R=Z (5,c)):=by show _=_;rw[<- m.out,V];rfl
 rw[V]at u
 exact oz13x121):h:=d
theorem oz13x125 {h:Prop} (d:h:=by
 refine jT (v:=Za #[U O 6,U O c]) (by simp[results,results13,go_sem,ao,ad]) rfl ⟨za1 (w:=w) R B.out,cU f.below _ _⟩):h:=d
theorem oz13x126 {h:Prop} (d:h:=by
 have B:Hid (R=Z (1,c)):=by show _=_;rw[<- m.out,jv aw]
 exact oz13x122):h:=d
theorem oz13x124 {C:Prop} (d:C:=by
 go_enter func24,ntmps24;go_wp2_with (go_at_call 53;refine(uT _ _).mono ?_;rintro k l ⟨rfl,f⟩;obtain rfl:=f.symm);go_ret
 exact⟨rfl,Below.refl _ _⟩):C:=d
namespace syn
open Go.RowKit
open lexs (Tok own_shape)
section
variable {w:Zw} {r:Nat} {L:Zv} {ts:List Tok} {s:St}
variable {a:Nat} {b:Tree × St}
theorem Kids.done {c g:Zw} {n q s t u:Zv} {ks:List Tree} {m o:Int} {p:ByteArray} (j:Kids (w.heap.size+2) (fun b=>w.heap.size+2<=b/\b<a) c n ks) (y:a<=c.heap.size) (z:ks.length<=100) (i:Fr r ((((c.setCell (A (w.heap.size+1) 0 F) q).setCell (A (w.heap.size+1) 1 F) s).setCell (A (w.heap.size+1) 2 F) t).setCell (A (w.heap.size+1) 3 F) u) g) (B:r<w.heap.size) : Lies (fun b=>w.heap.size+1<=b/\b<g.heap.size) g (.node m p o ks) (Za #[U O m,I p,U O o,n]):=by
 have h:=j.grown (Q:=fun b=>w.heap.size+2<=b/\b<a) (Fr.put c (w.heap.size+1) q s t u) (.inr fun d=>by have:=(j.blk d).1;omega) (fun b k=>⟨oA,oE⟩) (fun _ e=>e);have v:=i.size;simp only[jQ]at v;have f:=h.grown (Q:=fun b=>w.heap.size+2<=b/\b<a) i (.inr fun d=>by have:=(h.blk d).1;omega) (fun b k=>⟨oX,oE⟩) (fun _ e=>e);exact f.lies (fun b k=>⟨oA,oA⟩) (fun x l=>⟨by have:=(f.blk l).1;omega,(f.blk l).2⟩) oA
set_option maxRecDepth 100000 in
theorem zre (a8:∀ {w:Zw} {s:St} {P:Tree × St},Rd w r L ts s->kM ts a s=Z P->Calls prog 109 #[Zp (Z (A r 0 F))] w (Ans w r L ts P)) (m:Rd w r L ts s) (ab:eqS (txt ts s) ⟨#[105,102]⟩=X) (ac:eqS (txt ts s) ⟨#[119,104,105,108,101]⟩=X) (n:eqS (txt ts s) ⟨#[108,111,119]⟩=X) (ad:eqS (txt ts s) ⟨#[104,105,103,104]⟩=X) (ae:eqS (txt ts s) ⟨#[100,111]⟩=X) (af:eqS (txt ts s) ⟨#[111,117,116]⟩=X) (ag:eqS (txt ts s) ⟨#[105,110]⟩=X) (ao:eqS (txt ts s) ⟨#[114,101,116,117,114,110]⟩=H) (V:kM ts a s.next=Z b):Calls prog 91 #[Zp (Z (A r 0 F))] w (Ans w r L ts (.node 14 empty 0 [b.1],kB ts ⟨#[59]⟩ b.2)):=by
 have ar:=kc25;have c:=Mid.start m;have ax:((txt ts s).toList==[108,111,119])=X:=(eqS_lit _ _).symm.trans n;have ay:((txt ts s).toList==[104,105,103,104])=X:=(eqS_lit _ _).symm.trans ad;go_enter func91,ntmps91;go_wp2_with (fail);refine(kS c.rd ⟨#[105,102]⟩ oC ab).mono ?_;rintro f g ⟨rfl,e,d⟩;replace c:=c.step e d;clear e d;go_wp2_with (fail);refine(kS c.rd ⟨#[119,104,105,108,101]⟩ oC ac).mono ?_;rintro f g ⟨rfl,e,d⟩;replace c:=c.step e d;clear e d;go_wp2_with (fail);refine(yK _ r L ts s c.rd).mono ?_;rintro f g ⟨rfl,ah,rfl⟩;replace c:=c.drewN ah;go_wp2_with (fail);refine(yK _ r L ts s c.rd).mono ?_;rintro f g ⟨rfl,ai,rfl⟩;replace c:=c.drewN ai;rw[World.drewN_drewN]at c;go_wp2_with (fail);refine(kS c.rd ⟨#[100,111]⟩ oC ae).mono ?_;rintro f g ⟨rfl,e,d⟩;replace c:=c.step e d;clear e d;go_wp2_with (fail);refine(kS c.rd ⟨#[111,117,116]⟩ oC af).mono ?_;rintro f g ⟨rfl,e,d⟩;replace c:=c.step e d;clear e d;go_wp2_with (fail);refine(kS c.rd ⟨#[105,110]⟩ oC ag).mono ?_;rintro f g ⟨rfl,e,d⟩;replace c:=c.step e d;clear e d;go_wp2_with (fail);refine(zU c.rd ⟨#[114,101,116,117,114,110]⟩ oC ao).mono ?_;rintro f g ⟨rfl,e,d⟩;replace c:=c.step e d;clear e d;obtain⟨u,y,z,C,o,p,q,t⟩:=c.b1;replace c:=c.kind 14;go_wp2_with (fail);refine(a8 c.rd V).mono ?_;rintro f D ⟨aD,rfl,G,a6,a2⟩;obtain⟨a9,ap,aa,_,rfl,S,n,T,rfl⟩:=G.shape;have aw:=c.size;have l:=c.step a6 a2;have av:w.heap.size+1<D.heap.size:=l.size;obtain⟨u,y,z,C,o,p,q,t⟩:=l.b1;have W:=(l.alloc (Zc #[U O a9,I ap,U O aa,J S n T] 25)).first (B:=w.heap.size+2) (jE _) (G.frP (x:=D.heap.size) (Fr.al D _) (fun h N=>⟨N.2,oA⟩) (fun h N=>⟨oA,oG⟩))
 go_wp2_with (fail);refine W.mono ?_;rintro f aE ⟨j,k,rfl,a5,K,a3,au⟩;obtain⟨u,y,z,C,o,p,q,t⟩:=K.b1;have M:=K.put 14 0 empty (J j 1 k);go_wp2_with (fail);refine(zI M.rd ⟨#[59]⟩ oC).mono ?_;rintro f Q ⟨rfl,a7,E⟩;have i:=M.step a7 E;obtain⟨aj,ak,am,an,az,aA,aB,aC⟩:=i.b0;obtain⟨u,y,z,C,o,p,q,t⟩:=i.b1;have R:Hid (Lies (fun h=>w.heap.size+1<=h/\h<Q.heap.size) Q (.node 14 empty 0 [b.1]) (Za #[U O 14,I empty,U O 0,J j 1 k])):=a5.done a3.size oB E m.lt;go_wp2
 exact jT (v:=Za #[U O 14,I empty,U O 0,J j 1 k]) (by simp[results,results91,go_sem,aj,ak,am,an]) rfl
  (Ans.fin m i.fr i.rd (Nat.lt_succ_self _) R.out)
set_option maxRecDepth 100000 in
theorem zws (a8:∀ {w:Zw} {s:St} {P:Tree × St} (D:ByteArray),Rd w r L ts s->zV ts a D s=Z P->Calls prog 111 #[Zp (Z (A r 0 F)),I D] w (Ans w r L ts P)) (m:Rd w r L ts s) (ab:eqS (txt ts s) ⟨#[105,102]⟩=X) (ac:eqS (txt ts s) ⟨#[119,104,105,108,101]⟩=X) (n:eqS (txt ts s) ⟨#[108,111,119]⟩=X) (ad:eqS (txt ts s) ⟨#[104,105,103,104]⟩=X) (ak:eqS (txt ts s) ⟨#[100,111]⟩=H) (V:zV ts a (whole ts s.next).1 (whole ts s.next).2=Z b):Calls prog 91 #[Zp (Z (A r 0 F))] w (Ans w r L ts (.node 9 empty 0 [b.1],kB ts ⟨#[59]⟩ b.2)):=by
 have an:=kc25;have c:=Mid.start m;have au:((txt ts s).toList==[108,111,119])=X:=(eqS_lit _ _).symm.trans n;have av:((txt ts s).toList==[104,105,103,104])=X:=(eqS_lit _ _).symm.trans ad;go_enter func91,ntmps91;go_wp2_with (fail);refine(kS c.rd ⟨#[105,102]⟩ oC ab).mono ?_;rintro f g ⟨rfl,e,d⟩;replace c:=c.step e d;clear e d;go_wp2_with (fail);refine(kS c.rd ⟨#[119,104,105,108,101]⟩ oC ac).mono ?_;rintro f g ⟨rfl,e,d⟩;replace c:=c.step e d;clear e d;go_wp2_with (fail);refine(yK _ r L ts s c.rd).mono ?_;rintro f g ⟨rfl,ae,rfl⟩;replace c:=c.drewN ae;go_wp2_with (fail);refine(yK _ r L ts s c.rd).mono ?_;rintro f g ⟨rfl,af,rfl⟩;replace c:=c.drewN af;rw[World.drewN_drewN]at c;go_wp2_with (fail);refine(zU c.rd ⟨#[100,111]⟩ oC ak).mono ?_;rintro f g ⟨rfl,e,d⟩;replace c:=c.step e d;clear e d;obtain⟨u,x,y,z,o,p,q,t⟩:=c.b1;replace c:=c.kind 9;go_wp2_with (fail);refine(zdw c.rd).mono ?_;rintro f g ⟨rfl,e,d⟩;replace c:=c.step e d;clear e d;go_wp2_with (fail);refine(a8 _ c.rd V).mono ?_;rintro f C ⟨aA,rfl,G,a6,a2⟩;obtain⟨a9,am,aa,_,rfl,S,n,T,rfl⟩:=G.shape;have ar:=c.size;have l:=c.step a6 a2;have ap:w.heap.size+1<C.heap.size:=l.size;obtain⟨u,x,y,z,o,p,q,t⟩:=l.b1;have W:=(l.alloc (Zc #[U O a9,I am,U O aa,J S n T] 25)).first (B:=w.heap.size+2) (jE _) (G.frP (x:=C.heap.size) (Fr.al C _) (fun h N=>⟨N.2,oA⟩) (fun h N=>⟨oA,oG⟩))
 go_wp2_with (fail);refine W.mono ?_;rintro f aB ⟨j,k,rfl,a5,K,a3,ao⟩;obtain⟨u,x,y,z,o,p,q,t⟩:=K.b1;have M:=K.put 9 0 empty (J j 1 k);go_wp2_with (fail);refine(zI M.rd ⟨#[59]⟩ oC).mono ?_;rintro f Q ⟨rfl,a7,E⟩;have i:=M.step a7 E;obtain⟨ag,ah,ai,aj,aw,ax,ay,az⟩:=i.b0;obtain⟨u,x,y,z,o,p,q,t⟩:=i.b1;have R:Hid (Lies (fun h=>w.heap.size+1<=h/\h<Q.heap.size) Q (.node 9 empty 0 [b.1]) (Za #[U O 9,I empty,U O 0,J j 1 k])):=a5.done a3.size oB E m.lt;go_wp2
 exact jT (v:=Za #[U O 9,I empty,U O 0,J j 1 k]) (by simp[results,results91,go_sem,ag,ah,ai,aj]) rfl
  (Ans.fin m i.fr i.rd (Nat.lt_succ_self _) R.out)
set_option maxRecDepth 100000 in
theorem zuu (a8:∀ {w:Zw} {s:St} {P:Tree × St},Rd w r L ts s->kM ts a s=Z P->Calls prog 109 #[Zp (Z (A r 0 F))] w (Ans w r L ts P)) (z:Rd w r L ts s) (ab:eqS (txt ts s) ⟨#[105,102]⟩=X) (ac:eqS (txt ts s) ⟨#[119,104,105,108,101]⟩=X) (C:eqS (txt ts s) ⟨#[108,111,119]⟩=X) (ad:eqS (txt ts s) ⟨#[104,105,103,104]⟩=X) (ae:eqS (txt ts s) ⟨#[100,111]⟩=X) (am:eqS (txt ts s) ⟨#[111,117,116]⟩=H) (V:kM ts a (label ts s.next).2=Z b):Calls prog 91 #[Zp (Z (A r 0 F))] w (Ans w r L ts (.node 12 empty (label ts s.next).1 [b.1],kB ts ⟨#[59]⟩ b.2)):=by
 have ao:=kc25;have c:=Mid.start z;have av:((txt ts s).toList==[108,111,119])=X:=(eqS_lit _ _).symm.trans C;have aw:((txt ts s).toList==[104,105,103,104])=X:=(eqS_lit _ _).symm.trans ad;go_enter func91,ntmps91;go_wp2_with (fail);refine(kS c.rd ⟨#[105,102]⟩ oC ab).mono ?_;rintro f g ⟨rfl,e,d⟩;replace c:=c.step e d;clear e d;go_wp2_with (fail);refine(kS c.rd ⟨#[119,104,105,108,101]⟩ oC ac).mono ?_;rintro f g ⟨rfl,e,d⟩;replace c:=c.step e d;clear e d;go_wp2_with (fail);refine(yK _ r L ts s c.rd).mono ?_;rintro f g ⟨rfl,af,rfl⟩;replace c:=c.drewN af;go_wp2_with (fail);refine(yK _ r L ts s c.rd).mono ?_;rintro f g ⟨rfl,ag,rfl⟩;replace c:=c.drewN ag;rw[World.drewN_drewN]at c;go_wp2_with (fail);refine(kS c.rd ⟨#[100,111]⟩ oC ae).mono ?_;rintro f g ⟨rfl,e,d⟩;replace c:=c.step e d;clear e d;go_wp2_with (fail);refine(zU c.rd ⟨#[111,117,116]⟩ oC am).mono ?_;rintro f g ⟨rfl,e,d⟩;replace c:=c.step e d;clear e d;obtain⟨n,o,p,q,j,k,l,m⟩:=c.b1;replace c:=c.kind 12;go_wp2_with (fail);refine(fK c.rd).mono ?_;rintro f g ⟨rfl,e,d⟩;replace c:=c.step e d;clear e d;obtain⟨n,o,p,q,j,k,l,m⟩:=c.b1;replace c:=c.num (label ts s.next).1;go_wp2_with (fail);refine(a8 c.rd V).mono ?_;rintro f D ⟨aB,rfl,G,a6,a2⟩;obtain⟨a9,an,aa,_,rfl,S,C,T,rfl⟩:=G.shape;have au:=c.size;have y:=c.step a6 a2;have ar:w.heap.size+1<D.heap.size:=y.size;obtain⟨n,o,p,q,j,k,l,m⟩:=y.b1;have W:=(y.alloc (Zc #[U O a9,I an,U O aa,J S C T] 25)).first (B:=w.heap.size+2) (jE _) (G.frP (x:=D.heap.size) (Fr.al D _) (fun h N=>⟨N.2,oA⟩) (fun h N=>⟨oA,oG⟩))
 go_wp2_with (fail);refine W.mono ?_;rintro f aC ⟨t,u,rfl,a5,K,a3,ap⟩;obtain⟨n,o,p,q,j,k,l,m⟩:=K.b1;have M:=K.put 12 (label ts s.next).1 empty (J t 1 u);go_wp2_with (fail);refine(zI M.rd ⟨#[59]⟩ oC).mono ?_;rintro f Q ⟨rfl,a7,E⟩;have i:=M.step a7 E;obtain⟨ah,ai,aj,ak,ax,ay,az,aA⟩:=i.b0;obtain⟨n,o,p,q,j,k,l,m⟩:=i.b1;have R:Hid (Lies (fun h=>w.heap.size+1<=h/\h<Q.heap.size) Q (.node 12 empty (label ts s.next).1 [b.1]) (Za #[U O 12,I empty,U O (label ts s.next).1,J t 1 u])):=a5.done a3.size oB E z.lt;go_wp2
 exact jT (v:=Za #[U O 12,I empty,U O (label ts s.next).1,J t 1 u]) (by simp[results,results91,go_sem,ah,ai,aj,ak]) rfl
  (Ans.fin z i.fr i.rd (Nat.lt_succ_self _) R.out)
set_option maxRecDepth 100000 in
theorem zwu (a8:∀ {w:Zw} {s:St} {P:Tree × St} (D:ByteArray),Rd w r L ts s->qZ ts a D s=Z P->Calls prog 112 #[Zp (Z (A r 0 F)),I D] w (Ans w r L ts P)) (y:Rd w r L ts s) (ab:eqS (txt ts s) ⟨#[105,102]⟩=X) (ac:eqS (txt ts s) ⟨#[119,104,105,108,101]⟩=X) (z:eqS (txt ts s) ⟨#[108,111,119]⟩=X) (ad:eqS (txt ts s) ⟨#[104,105,103,104]⟩=X) (ae:eqS (txt ts s) ⟨#[100,111]⟩=X) (af:eqS (txt ts s) ⟨#[111,117,116]⟩=X) (an:eqS (txt ts s) ⟨#[105,110]⟩=H) (V:qZ ts a (whole ts (label ts s.next).2).1 (whole ts (label ts s.next).2).2=Z b):Calls prog 91 #[Zp (Z (A r 0 F))] w (Ans w r L ts (.node 13 empty (label ts s.next).1 [b.1],kB ts ⟨#[59]⟩ b.2)):=by
 have ap:=kc25;have c:=Mid.start y;have aw:((txt ts s).toList==[108,111,119])=X:=(eqS_lit _ _).symm.trans z;have ax:((txt ts s).toList==[104,105,103,104])=X:=(eqS_lit _ _).symm.trans ad;go_enter func91,ntmps91;go_wp2_with (fail);refine(kS c.rd ⟨#[105,102]⟩ oC ab).mono ?_;rintro f g ⟨rfl,e,d⟩;replace c:=c.step e d;clear e d;go_wp2_with (fail);refine(kS c.rd ⟨#[119,104,105,108,101]⟩ oC ac).mono ?_;rintro f g ⟨rfl,e,d⟩;replace c:=c.step e d;clear e d;go_wp2_with (fail);refine(yK _ r L ts s c.rd).mono ?_;rintro f g ⟨rfl,ag,rfl⟩;replace c:=c.drewN ag;go_wp2_with (fail);refine(yK _ r L ts s c.rd).mono ?_;rintro f g ⟨rfl,ah,rfl⟩;replace c:=c.drewN ah;rw[World.drewN_drewN]at c;go_wp2_with (fail);refine(kS c.rd ⟨#[100,111]⟩ oC ae).mono ?_;rintro f g ⟨rfl,e,d⟩;replace c:=c.step e d;clear e d;go_wp2_with (fail);refine(kS c.rd ⟨#[111,117,116]⟩ oC af).mono ?_;rintro f g ⟨rfl,e,d⟩;replace c:=c.step e d;clear e d;go_wp2_with (fail);refine(zU c.rd ⟨#[105,110]⟩ oC an).mono ?_;rintro f g ⟨rfl,e,d⟩;replace c:=c.step e d;clear e d;obtain⟨n,o,p,q,j,k,l,m⟩:=c.b1;replace c:=c.kind 13;go_wp2_with (fail);refine(fK c.rd).mono ?_;rintro f g ⟨rfl,e,d⟩;replace c:=c.step e d;clear e d;obtain⟨n,o,p,q,j,k,l,m⟩:=c.b1;replace c:=c.num (label ts s.next).1;go_wp2_with (fail);refine(zdw c.rd).mono ?_;rintro f g ⟨rfl,e,d⟩;replace c:=c.step e d;clear e d;go_wp2_with (fail);refine(a8 _ c.rd V).mono ?_;rintro f C ⟨aC,rfl,G,a6,a2⟩;obtain⟨a9,ao,aa,_,rfl,S,z,T,rfl⟩:=G.shape;have av:=c.size;have x:=c.step a6 a2;have au:w.heap.size+1<C.heap.size:=x.size;obtain⟨n,o,p,q,j,k,l,m⟩:=x.b1;have W:=(x.alloc (Zc #[U O a9,I ao,U O aa,J S z T] 25)).first (B:=w.heap.size+2) (jE _) (G.frP (x:=C.heap.size) (Fr.al C _) (fun h N=>⟨N.2,oA⟩) (fun h N=>⟨oA,oG⟩))
 go_wp2_with (fail);refine W.mono ?_;rintro f aD ⟨t,u,rfl,a5,K,a3,ar⟩;obtain⟨n,o,p,q,j,k,l,m⟩:=K.b1;have M:=K.put 13 (label ts s.next).1 empty (J t 1 u);go_wp2_with (fail);refine(zI M.rd ⟨#[59]⟩ oC).mono ?_;rintro f Q ⟨rfl,a7,E⟩;have i:=M.step a7 E;obtain⟨ai,aj,ak,am,ay,az,aA,aB⟩:=i.b0;obtain⟨n,o,p,q,j,k,l,m⟩:=i.b1;have R:Hid (Lies (fun h=>w.heap.size+1<=h/\h<Q.heap.size) Q (.node 13 empty (label ts s.next).1 [b.1]) (Za #[U O 13,I empty,U O (label ts s.next).1,J t 1 u])):=a5.done a3.size oB E y.lt;go_wp2
 exact jT (v:=Za #[U O 13,I empty,U O (label ts s.next).1,J t 1 u]) (by simp[results,results91,go_sem,ai,aj,ak,am]) rfl
  (Ans.fin y i.fr i.rd (Nat.lt_succ_self _) R.out)
set_option maxRecDepth 100000 in
theorem zut {g:Nat} (W:∀ {w:Zw} {s:St} {q:Tree × St},Rd w r L ts s->kM ts g s=Z q->Calls prog 109 #[Zp (Z (A r 0 F))] w (Ans w r L ts q)) (h:Rd w r L ts s) (D:eqS (txt ts s) ⟨#[105,102]⟩=X) (E:eqS (txt ts s) ⟨#[119,104,105,108,101]⟩=X) (N:eqS (txt ts s) ⟨#[108,111,119]⟩=H) {f:Tree × St} (P:kM ts g (kB ts ⟨#[61]⟩ (name ts (label ts s).2).2)=Z f):Calls prog 91 #[Zp (Z (A r 0 F))] w (Ans w r L ts (.node 7 (name ts (label ts s).2).1 (label ts s).1 [f.1],kB ts ⟨#[59]⟩ f.2)):=by
 have a7:=kc25;have a:=Mid.start h;have ah:((txt ts s).toList==[108,111,119])=H:=(eqS_lit _ _).symm.trans N;go_enter func91,ntmps91;go_wp2_with (fail);refine(kS a.rd ⟨#[105,102]⟩ oC D).mono ?_;rintro d e ⟨rfl,c,b⟩;replace a:=a.step c b;clear c b;go_wp2_with (fail);refine(kS a.rd ⟨#[119,104,105,108,101]⟩ oC E).mono ?_;rintro d e ⟨rfl,c,b⟩;replace a:=a.step c b;clear c b;go_wp2_with (fail);refine(yK _ r L ts s a.rd).mono ?_;rintro d e ⟨rfl,K,rfl⟩;replace a:=a.drewN K;exact oz13x120
set_option maxRecDepth 100000 in
theorem zs3 {g:Nat} (W:∀ {w:Zw} {s:St} {q:Tree × St},Rd w r L ts s->kM ts g s=Z q->Calls prog 109 #[Zp (Z (A r 0 F))] w (Ans w r L ts q)) (h:Rd w r L ts s) (D:eqS (txt ts s) ⟨#[105,102]⟩=X) (E:eqS (txt ts s) ⟨#[119,104,105,108,101]⟩=X) (G:eqS (txt ts s) ⟨#[108,111,119]⟩=X) (N:eqS (txt ts s) ⟨#[104,105,103,104]⟩=H) {f:Tree × St} (P:kM ts g (kB ts ⟨#[61]⟩ (name ts (label ts s).2).2)=Z f):Calls prog 91 #[Zp (Z (A r 0 F))] w (Ans w r L ts (.node 7 (name ts (label ts s).2).1 (label ts s).1 [f.1],kB ts ⟨#[59]⟩ f.2)):=by
 have a7:=kc25;have a:=Mid.start h;have ah:((txt ts s).toList==[108,111,119])=X:=(eqS_lit _ _).symm.trans G;have aw:((txt ts s).toList==[104,105,103,104])=H:=(eqS_lit _ _).symm.trans N;go_enter func91,ntmps91;go_wp2_with (fail);refine(kS a.rd ⟨#[105,102]⟩ oC D).mono ?_;rintro d e ⟨rfl,c,b⟩;replace a:=a.step c b;clear c b;go_wp2_with (fail);refine(kS a.rd ⟨#[119,104,105,108,101]⟩ oC E).mono ?_;rintro d e ⟨rfl,c,b⟩;replace a:=a.step c b;clear c b;go_wp2_with (fail);refine(yK _ r L ts s a.rd).mono ?_;rintro d e ⟨rfl,K,rfl⟩;replace a:=a.drewN K;go_wp2_with (fail);refine(yK _ r L ts s a.rd).mono ?_;rintro d e ⟨rfl,aj,rfl⟩;replace a:=a.drewN aj;rw[World.drewN_drewN]at a;exact oz13x120
end
section
variable {w:Zw} {r:Nat} {L:Zv} {ts:List Tok} {s:St}
theorem Mid.next {d:Zw} {g h:Int} {i:ByteArray} {G:Zv} (C:Mid w r L ts d s g i h G) {b:List Tree} {c:Zv} {W0 W1:Nat} (E:Kids (w.heap.size+2) (fun a=>w.heap.size+2<=a/\a<W0) d c b) (S:b.length<=100) (M:∀n,c.ownBlock=Z n->W0<=n) (P:W0<=W1) (Q:W1<=d.heap.size) {l:Tree} {u x:Int} {v:ByteArray} {y:Option Addr} {B z:Nat} (K:Lies (fun a=>w.heap.size+2<=a/\a<W1/\Z a≠c.ownBlock) d l (Za #[U O u,I v,U O x,J y B z])) : Calls prog 108 #[Za #[U O g,I i,U O h,c],Za #[U O u,I v,U O x,J y B z]] d fun e m=>∃j k,e=.returned (Za #[U O g,I i,U O h,J j (b.length+1) k]) /\ Kids (w.heap.size+2) (fun a=>w.heap.size+2<=a/\a<W1) m (J j (b.length+1) k) (b++[l])/\Mid w r L ts m s g i h G/\d.grownBy m c.ownBlock:=by
 have T:=C.size;refine(zd0 d g h i c b (w.heap.size+2) (fun a=>w.heap.size+2<=a/\a<W1/\Z a≠c.ownBlock) l u x v y B z ?_ oA oA K (fun a f=>⟨oA,f.2.2⟩)).mono ?_;·obtain⟨t,q,p⟩:=E;exact⟨t,q,p.to (fun a f=>⟨f.1,oA,fun e=>by have:=M a e.symm;omega⟩) (fun _ _ _=>rfl)⟩
 ·rintro e m ⟨V,rfl,o,D,R⟩;obtain⟨j,k,rfl⟩:=o.shape;have N:(b++[l]).length=b.length+1:=oB;rw[N]at o |-;refine⟨j,k,rfl,?_,C.grown D (fun n e=>(E.blk e).1),D⟩;obtain⟨t,q,p⟩:=o;exact⟨t,q,p.to (fun a f=>⟨f.1,f.2.1⟩) (fun _ _ _=>rfl)⟩
set_option maxRecDepth 100000 in
theorem zrz {G:Nat} (aB:∀ {w:Zw} {s:St} {q:Tree × St},Rd w r L ts s->qY ts G s=Z q->Calls prog 107 #[Zp (Z (A r 0 F))] w (Ans w r L ts q)) (aC:∀ {w:Zw} {s:St} {q:Tree × St},Rd w r L ts s->qA ts G s=Z q->Calls prog 62 #[Zp (Z (A r 0 F))] w (Ans w r L ts q)) (a5:Rd w r L ts s) (aD:eqS (txt ts s) ⟨#[105,102]⟩=X) (aS:eqS (txt ts s) ⟨#[119,104,105,108,101]⟩=H) {m n:Tree × St} (ag:qY ts G s.next=Z m) (ah:qA ts G m.2=Z n):Calls prog 91 #[Zp (Z (A r 0 F))] w (Ans w r L ts (.node 11 empty 0 [m.1,n.1],n.2)):=by
 have aT:=kc25;have e:=Mid.start a5;go_enter func91,ntmps91;go_wp2_with (fail);refine(kS e.rd ⟨#[105,102]⟩ oC aD).mono ?_;rintro l aR ⟨rfl,u,t⟩;replace e:=e.step u t;clear u t;go_wp2_with (fail);refine(zU e.rd ⟨#[119,104,105,108,101]⟩ oC aS).mono ?_;rintro l aR ⟨rfl,u,t⟩;replace e:=e.step u t;clear u t;obtain⟨aJ,aK,aL,aM,aF,aG,aH,aI⟩:=e.b1;replace e:=e.kind 11;go_wp2_with (fail);refine(aB e.rd ag).mono ?_;rintro l D ⟨b7,rfl,W,ap,ac⟩;obtain⟨y,E,z,_,rfl,o,C,p,rfl⟩:=W.shape;have ay:=e.size;replace e:=(e.step ap ac).alloc (Zc #[U O y,I E,U O z,J o C p] 25);have au:=Box4.new D (U O y) (I E) (U O z) (J o C p) 25;go_wp2_with (fail);refine(aC e.rd ah).mono ?_;rintro l d ⟨b8,rfl,a2,ar,K⟩;obtain⟨h,k,i,_,rfl,f,j,g,rfl⟩:=a2.shape;have az:=ac.size;have aA:=K.size;rw[jO]at aA;simp only[jQ]at ay az;have aX:=a5.lt;replace e:=e.step ar K;have av:=au.fr K oA;have aW:D.heap.size<d.heap.size:=oA;have aV:w.heap.size+1<d.heap.size:=oA;have aU:w.heap.size<d.heap.size:=oA;obtain⟨aJ,aK,aL,aM,aF,aG,aH,aI⟩:=e.b1;obtain⟨b9,ba,bb,bc,_,_,_,_⟩:=av;have a9:Lies (fun b=>w.heap.size+2<=b/\b<d.heap.size) d m.1 (Za #[U O y,I E,U O z,J o C p]):=(W.frP (x:=D.heap.size) (Q:=fun b=>w.heap.size+2<=b/\b<D.heap.size) (Fr.al D (Zc #[U O y,I E,U O z,J o C p] 25)) (fun b c=>⟨c.2,oA⟩) (fun b c=>⟨by simp only[jQ]at c;omega,c.2⟩)).frP K (fun b c=>⟨oG,oA⟩) (fun b c=>⟨c.1,oA⟩);have ab:Lies (fun b=>w.heap.size+2<=b/\b<d.heap.size) d n.1 (Za #[U O h,I k,U O i,J f j g]):=a2.to (fun b c=>⟨by rw[jO]at c;omega,c.2⟩) (fun _ _ _=>rfl);have ao:=(e.alloc (Zc #[U O h,I k,U O i,J f j g] 25)).drewN 1;have aa:Lies (fun b=>w.heap.size+2<=b/\b<((d.alloc (Zc #[U O h,I k,U O i,J f j g] 25)).drewN 1).heap.size) ((d.alloc (Zc #[U O h,I k,U O i,J f j g] 25)).drewN 1) m.1 (Za #[U O y,I E,U O z,J o C p]):=a9.frP (x:=d.heap.size) ((Fr.al d _).drewN 1) (fun b c=>⟨c.2,oA⟩) (fun b c=>⟨c.1,oE⟩);have aj:Lies (fun b=>w.heap.size+2<=b/\b<d.heap.size) ((d.alloc (Zc #[U O h,I k,U O i,J f j g] 25)).drewN 1) n.1 (Za #[U O h,I k,U O i,J f j g]):=ab.frP (x:=d.heap.size) ((Fr.al d _).drewN 1) (fun b c=>⟨c.2,oA⟩) (fun b c=>c);have ax:=(Box4.new d (U O h) (I k) (U O i) (J f j g) 25).drewN 1;have ak:=ao.first (B:=w.heap.size+2) (jE _) aa
 clear a9 ab aa W a2;go_wp2
 go_region_with (first
  | (go_at_call 108;refine(an.next (W0:=d.heap.size+1) (W1:=d.heap.size+1) T oB M (jE _) aw ai).mono ?_;rintro l ae ⟨a7,a8,rfl,V,a3,am⟩;obtain⟨aN,aO,aP,aQ,aY,aZ,b2,b6⟩:=a3.b0;have af:Hid (Lies (fun b=>w.heap.size+1<=b/\b<ae.heap.size) ae (.node 11 empty 0 [m.1,n.1]) (Za #[U O 11,I empty,U O 0,J a7 2 a8])):=V.lies (fun b c=>⟨oA,by have:=am.size;omega⟩) (fun R ad=>⟨by have:=(V.blk ad).1;omega,(V.blk ad).2⟩) oB)
  | (go_at_call 108;refine ak.mono ?_;rintro l a6 ⟨N,P,rfl,T,an,S,M⟩;obtain⟨be,bf,bg,bh,_,_,_,_⟩:=ax.grown S oB;have aw:d.heap.size+1<=a6.heap.size:=by have:=S.size;simpa using this
     have T:Kids (w.heap.size+2) (fun b=>w.heap.size+2<=b/\b<d.heap.size+1) a6 (J N 1 P) [m.1]:=by simpa using T
     have M:∀R,(Value.slice N 1 P).ownBlock=Z R->d.heap.size+1<=R:=by simpa using M
     have ai:Lies (fun b=>w.heap.size+2<=b/\b<d.heap.size+1/\Z b≠(Value.slice N 1 P).ownBlock) a6 n.1 (Za #[U O h,I k,U O i,J f j g]):=aj.to (fun b c=>⟨c.1,oA,fun l=>by have:=M b l.symm;omega⟩) (fun b c aE=>jM (a:=(A b aE F)) (S.block b oE oB))))
 all_goals
  go_wp2
  exact jT (v:=Za #[U O 11,I empty,U O 0,J a7 2 a8]) (by simp[results,results91,go_sem,aN,aO,aP,aQ]) rfl
   (Ans.fin a5 a3.fr a3.rd (Nat.lt_succ_self _) af.out)
end
section
variable {w:Zw} {r:Nat} {L:Zv} {ts:List Tok} {s:St}
set_option maxRecDepth 100000 in
theorem zuv {K:Nat} (aJ:∀ {w:Zw} {s:St} {D:Tree × St},Rd w r L ts s->kM ts K s=Z D->Calls prog 109 #[Zp (Z (A r 0 F))] w (Ans w r L ts D)) (aK:∀ {w:Zw} {s:St} {D:Tree × St} (E:ByteArray),Rd w r L ts s->qZ ts K E s=Z D->Calls prog 112 #[Zp (Z (A r 0 F)),I E] w (Ans w r L ts D)) (R:Rd w r L ts s) (aL:eqS (txt ts s) ⟨#[105,102]⟩=X) (t:eqS (txt ts s) ⟨#[119,104,105,108,101]⟩=X) (aM:eqS (txt ts s) ⟨#[108,111,119]⟩=X) (i:eqS (txt ts s) ⟨#[104,105,103,104]⟩=X) (aN:eqS (txt ts s) ⟨#[100,111]⟩=X) (aO:eqS (txt ts s) ⟨#[111,117,116]⟩=X) (aP:eqS (txt ts s) ⟨#[105,110]⟩=X) (aQ:eqS (txt ts s) ⟨#[114,101,116,117,114,110]⟩=X) {n o:Tree × St} (ao:qZ ts K (whole ts s).1 (whole ts s).2=Z n) (ap:kM ts K (kB ts ⟨#[61]⟩ n.2)=Z o):Calls prog 91 #[Zp (Z (A r 0 F))] w (Ans w r L ts (.node 8 empty 0 [n.1,o.1],kB ts ⟨#[59]⟩ o.2)):=by
 have b7:=kc25;have c:=Mid.start R;have bp:((txt ts s).toList==[108,111,119])=X:=(eqS_lit _ _).symm.trans aM;have br:((txt ts s).toList==[104,105,103,104])=X:=(eqS_lit _ _).symm.trans i;go_enter func91,ntmps91;go_wp2_with (fail);refine(kS c.rd ⟨#[105,102]⟩ oC aL).mono ?_;rintro h p ⟨rfl,g,f⟩;replace c:=c.step g f;clear g f;go_wp2_with (fail);refine(kS c.rd ⟨#[119,104,105,108,101]⟩ oC t).mono ?_;rintro h p ⟨rfl,g,f⟩;replace c:=c.step g f;clear g f;go_wp2_with (fail);refine(yK _ r L ts s c.rd).mono ?_;rintro h p ⟨rfl,aR,rfl⟩;replace c:=c.drewN aR;go_wp2_with (fail);refine(yK _ r L ts s c.rd).mono ?_;rintro h p ⟨rfl,aS,rfl⟩;replace c:=c.drewN aS;rw[World.drewN_drewN]at c;go_wp2_with (fail);refine(kS c.rd ⟨#[100,111]⟩ oC aN).mono ?_;rintro h p ⟨rfl,g,f⟩;replace c:=c.step g f;clear g f;go_wp2_with (fail);refine(kS c.rd ⟨#[111,117,116]⟩ oC aO).mono ?_;rintro h p ⟨rfl,g,f⟩;replace c:=c.step g f;clear g f;go_wp2_with (fail);refine(kS c.rd ⟨#[105,110]⟩ oC aP).mono ?_;rintro h p ⟨rfl,g,f⟩;replace c:=c.step g f;clear g f;go_wp2_with (fail);refine(kS c.rd ⟨#[114,101,116,117,114,110]⟩ oC aQ).mono ?_;rintro h p ⟨rfl,g,f⟩;replace c:=c.step g f;clear g f;obtain⟨ah,ai,aj,ak,aU,aV,aW,aX⟩:=c.b1;replace c:=c.kind 8;go_wp2_with (fail);refine(zdw c.rd).mono ?_;rintro h p ⟨rfl,g,f⟩;replace c:=c.step g f;clear g f;go_wp2_with (fail);refine(aK _ c.rd ao).mono ?_;rintro h u ⟨bz,rfl,a6,aA,ad⟩;obtain⟨z,G,C,_,rfl,x,t,y,rfl⟩:=a6.shape;have bh:=c.size;replace c:=(c.step aA ad).alloc (Zc #[U O z,I G,U O C,J x t y] 25);have aE:=Box4.new u (U O z) (I G) (U O C) (J x t y) 25;go_wp2_with (fail);refine(zI c.rd ⟨#[61]⟩ oC).mono ?_;rintro h bE ⟨rfl,aB,M⟩;replace c:=c.step aB M;go_wp2_with (fail);refine(aJ c.rd ap).mono ?_;rintro h e ⟨bD,rfl,a7,aC,N⟩;obtain⟨l,q,m,_,rfl,j,i,k,rfl⟩:=a7.shape;have bi:=ad.size;have aI:=M.size;have bj:=N.size;rw[jO]at aI;have bg:=R.lt;replace c:=c.step aC N;have aF:=(aE.fr M oA).fr N oA;have bf:u.heap.size<e.heap.size:=oA;have be:w.heap.size+1<e.heap.size:=oA;have bc:w.heap.size<e.heap.size:=oA;obtain⟨ah,ai,aj,ak,aU,aV,aW,aX⟩:=c.b1;obtain⟨bG,bH,bN,bP,_,_,_,_⟩:=aF;have aa:Lies (fun b=>w.heap.size+2<=b/\b<e.heap.size) e n.1 (Za #[U O z,I G,U O C,J x t y]):=((a6.frP (x:=u.heap.size) (Q:=fun b=>w.heap.size+2<=b/\b<u.heap.size) (Fr.al u (Zc #[U O z,I G,U O C,J x t y] 25)) (fun b d=>⟨d.2,oA⟩) (fun b d=>⟨oA,d.2⟩)).frP (Q:=fun b=>w.heap.size+2<=b/\b<u.heap.size) M (fun b d=>⟨oG,oA⟩) (fun b d=>d)).frP N (fun b d=>⟨oA,oA⟩) (fun b d=>⟨d.1,oA⟩);have ac:Lies (fun b=>w.heap.size+2<=b/\b<e.heap.size) e o.1 (Za #[U O l,I q,U O m,J j i k]):=a7.to (fun b d=>⟨oA,d.2⟩) (fun _ _ _=>rfl);have az:=(c.alloc (Zc #[U O l,I q,U O m,J j i k] 25)).drewN 1;have ab:Lies (fun b=>w.heap.size+2<=b/\b<((e.alloc (Zc #[U O l,I q,U O m,J j i k] 25)).drewN 1).heap.size) ((e.alloc (Zc #[U O l,I q,U O m,J j i k] 25)).drewN 1) n.1 (Za #[U O z,I G,U O C,J x t y]):=aa.frP (x:=e.heap.size) ((Fr.al e _).drewN 1) (fun b d=>⟨d.2,oA⟩) (fun b d=>⟨d.1,oE⟩);have au:Lies (fun b=>w.heap.size+2<=b/\b<e.heap.size) ((e.alloc (Zc #[U O l,I q,U O m,J j i k] 25)).drewN 1) o.1 (Za #[U O l,I q,U O m,J j i k]):=ac.frP (x:=e.heap.size) ((Fr.al e _).drewN 1) (fun b d=>⟨d.2,oA⟩) (fun b d=>d);have aH:=(Box4.new e (U O l) (I q) (U O m) (J j i k) 25).drewN 1;have av:=az.first (B:=w.heap.size+2) (jE _) ab
 clear aa ac ab a6 a7;go_wp2
 go_region_with (first
  | (go_at_call 108;refine(ay.next (W0:=e.heap.size+1) (W1:=e.heap.size+1) a5 oB S (jE _) aG ar).mono ?_;rintro h bF ⟨V,a2,rfl,ax,af,aw⟩;obtain⟨b8,b9,ba,bb,bm,bn,bo,bq⟩:=af.b1;have ag:=af.put 8 0 empty (J V 2 a2))
  | (go_at_call 108;refine av.mono ?_;rintro h a8 ⟨T,W,rfl,a5,ay,a3,S⟩;obtain⟨bR,bS,bX,bY,_,_,_,_⟩:=aH.grown a3 oB;have aG:e.heap.size+1<=a8.heap.size:=by have:=a3.size;simpa using this
     have a5:Kids (w.heap.size+2) (fun b=>w.heap.size+2<=b/\b<e.heap.size+1) a8 (J T 1 W) [n.1]:=by simpa using a5
     have S:∀a9,(Value.slice T 1 W).ownBlock=Z a9->e.heap.size+1<=a9:=by simpa using S
     have ar:Lies (fun b=>w.heap.size+2<=b/\b<e.heap.size+1/\Z b≠(Value.slice T 1 W).ownBlock) a8 o.1 (Za #[U O l,I q,U O m,J j i k]):=au.to (fun b d=>⟨d.1,oA,fun h=>by have:=S b h.symm;omega⟩) (fun b d aT=>jM (a:=(A b aT F)) (a3.block b oE oB))))
 all_goals
  go_wp2_with (fail);refine(zI ag.rd ⟨#[59]⟩ oC).mono ?_;rintro h am ⟨rfl,aD,ae⟩;have P:=ag.step aD ae;obtain⟨aY,aZ,b2,b6,bs,bu,bv,bw⟩:=P.b0;obtain⟨ah,ai,aj,ak,_,_,_,_⟩:=P.b1;have an:Hid (Lies (fun b=>w.heap.size+1<=b/\b<am.heap.size) am (.node 8 empty 0 [n.1,o.1]) (Za #[U O 8,I empty,U O 0,J V 2 a2])):=Kids.done (ks:=[n.1,o.1]) ax (by have:=aw.size;omega) oB ae R.lt;go_wp2
  exact jT (v:=Za #[U O 8,I empty,U O 0,J V 2 a2]) (by simp[results,results91,go_sem,aY,aZ,b2,b6]) rfl
   (Ans.fin R P.fr P.rd (Nat.lt_succ_self _) an.out)
end
section
variable {w:Zw} {r:Nat} {L:Zv} {ts:List Tok} {s:St}
theorem Mid.nextW {f:Zw} {j k:Int} {l:ByteArray} {N:Zv} (D:Mid w r L ts f s j l k N) {d:List Tree} {e:Zv} {W0 W1:Nat} (G:Kids (w.heap.size+2) (fun a=>w.heap.size+2<=a/\a<W0) f e d) (W:d.length<=100) (K:∀c,e.ownBlock=Z c->W0<=c) (S:W0<=W1) (T:W1<=f.heap.size) {m:Tree} {v y:Int} {x:ByteArray} {z:Option Addr} {C B:Nat} (Q:Lies (fun a=>w.heap.size+2<=a/\a<W1/\Z a≠e.ownBlock) f m (Za #[U O v,I x,U O y,J z C B])) : Calls prog 108 #[Za #[U O j,I l,U O k,e],Za #[U O v,I x,U O y,J z C B]] f fun b n=>∃h i,b=.returned (Za #[U O j,I l,U O k,J h (d.length+1) i]) /\ Kids (w.heap.size+2) (fun a=>w.heap.size+2<=a/\a<W1) n (J h (d.length+1) i) (d++[m])/\Mid w r L ts n s j l k N/\f.grownBy n e.ownBlock/\(∀c,(Value.slice h (d.length+1) i).ownBlock=Z c->W0<=c):=by
 have a2:=D.size;refine(zd0 f j k l e d (w.heap.size+2) (fun a=>w.heap.size+2<=a/\a<W1/\Z a≠e.ownBlock) m v y x z C B ?_ oA oA Q (fun a g=>⟨oA,g.2.2⟩)).mono ?_;·obtain⟨u,t,p⟩:=G;exact⟨u,t,p.to (fun a g=>⟨g.1,oA,fun b=>by have:=K a b.symm;omega⟩) (fun _ _ _=>rfl)⟩
 ·rintro b n ⟨a3,rfl,o,E,M⟩;obtain⟨h,i,rfl⟩:=o.shape;have R:(d++[m]).length=d.length+1:=oB;rw[R]at o M |-;refine⟨h,i,rfl,?_,D.grown E (fun c b=>(G.blk b).1),E,fun c q=>?_⟩;rotate_left
  ·rcases M with b | ⟨P,b,V⟩
   ·exact K c (by rw[<- b];exact q)
   ·rw[b]at q;have:P=c:=by simpa using q
    omega
  obtain⟨u,t,p⟩:=o;exact⟨u,t,p.to (fun a g=>⟨g.1,g.2.1⟩) (fun _ _ _=>rfl)⟩
set_option maxRecDepth 100000 in
theorem zwt {D:Nat} (aI:∀ {w:Zw} {s:St} {q:Tree × St},Rd w r L ts s->qY ts D s=Z q->Calls prog 107 #[Zp (Z (A r 0 F))] w (Ans w r L ts q)) (aJ:∀ {w:Zw} {s:St} {q:Tree × St},Rd w r L ts s->qA ts D s=Z q->Calls prog 62 #[Zp (Z (A r 0 F))] w (Ans w r L ts q)) (K:Rd w r L ts s) (aU:eqS (txt ts s) ⟨#[105,102]⟩=H) {l f:Tree × St} (am:qY ts D s.next=Z l) (an:qA ts D l.2=Z f) (aK:eqS (txt ts f.2) ⟨#[101,108,115,101]⟩=X):Calls prog 91 #[Zp (Z (A r 0 F))] w (Ans w r L ts (.node 10 empty 0 [l.1,f.1],f.2)):=by
 have aV:=kc25;have e:=Mid.start K;go_enter func91,ntmps91;go_wp2_with (fail);refine(zU e.rd ⟨#[105,102]⟩ oC aU).mono ?_;rintro n bo ⟨rfl,ae,ab⟩;replace e:=e.step ae ab;clear ae ab;obtain⟨af,ag,ah,ai,aM,aN,aO,aP⟩:=e.b1;replace e:=e.kind 10;go_wp2_with (fail);refine(aI e.rd am).mono ?_;rintro n z ⟨bj,rfl,W,ay,a9⟩;obtain⟨t,C,u,_,rfl,o,y,p,rfl⟩:=W.shape;have aF:=e.size;replace e:=(e.step ay a9).alloc (Zc #[U O t,I C,U O u,J o y p] 25);have aB:=Box4.new z (U O t) (I C) (U O u) (J o y p) 25;go_wp2_with (fail);refine(aJ e.rd an).mono ?_;rintro n c ⟨bm,rfl,a2,az,E⟩;obtain⟨i,m,j,_,rfl,g,k,h,rfl⟩:=a2.shape;have aG:=a9.size;have aH:=E.size;rw[jO]at aH;simp only[jQ]at aF aG;have b9:=K.lt;replace e:=e.step az E;have aC:=aB.fr E oA;have b8:z.heap.size<c.heap.size:=oA;have b7:w.heap.size+1<c.heap.size:=oA;have b6:w.heap.size<c.heap.size:=oA;obtain⟨af,ag,ah,ai,aM,aN,aO,aP⟩:=e.b1;obtain⟨bp,bq,br,bs,_,_,_,_⟩:=aC;have a6:Lies (fun b=>w.heap.size+2<=b/\b<c.heap.size) c l.1 (Za #[U O t,I C,U O u,J o y p]):=(W.frP (x:=z.heap.size) (Q:=fun b=>w.heap.size+2<=b/\b<z.heap.size) (Fr.al z (Zc #[U O t,I C,U O u,J o y p] 25)) (fun b d=>⟨d.2,oA⟩) (fun b d=>⟨by simp only[jQ]at d;omega,d.2⟩)).frP E (fun b d=>⟨oG,oA⟩) (fun b d=>⟨d.1,oA⟩);have a8:Lies (fun b=>w.heap.size+2<=b/\b<c.heap.size) c f.1 (Za #[U O i,I m,U O j,J g k h]):=a2.to (fun b d=>⟨by rw[jO]at d;omega,d.2⟩) (fun _ _ _=>rfl);have ax:=(e.alloc (Zc #[U O i,I m,U O j,J g k h] 25)).drewN 1;have a7:Lies (fun b=>w.heap.size+2<=b/\b<((c.alloc (Zc #[U O i,I m,U O j,J g k h] 25)).drewN 1).heap.size) ((c.alloc (Zc #[U O i,I m,U O j,J g k h] 25)).drewN 1) l.1 (Za #[U O t,I C,U O u,J o y p]):=a6.frP (x:=c.heap.size) ((Fr.al c _).drewN 1) (fun b d=>⟨d.2,oA⟩) (fun b d=>⟨d.1,oE⟩);have ap:Lies (fun b=>w.heap.size+2<=b/\b<c.heap.size) ((c.alloc (Zc #[U O i,I m,U O j,J g k h] 25)).drewN 1) f.1 (Za #[U O i,I m,U O j,J g k h]):=a8.frP (x:=c.heap.size) ((Fr.al c _).drewN 1) (fun b d=>⟨d.2,oA⟩) (fun b d=>d);have aE:=(Box4.new c (U O i) (I m) (U O j) (J g k h) 25).drewN 1;have ar:=ax.first (B:=w.heap.size+2) (jE _) a7
 clear a6 a8 a7 W a2;go_wp2
 go_region_with (first
  | (go_at_call 108;refine(aw.nextW (W0:=c.heap.size+1) (W1:=c.heap.size+1) V oB M (jE _) aD ao).mono ?_;rintro n bn ⟨P,S,rfl,av,ac,au,b2⟩;obtain⟨aW,aX,aY,aZ,ba,bb,bc,be⟩:=ac.b1;have ad:=ac.put 10 0 empty (J P 2 S))
  | (go_at_call 108;refine ar.mono ?_;rintro n a3 ⟨N,R,rfl,V,aw,T,M⟩;obtain⟨bu,bv,bw,bz,_,_,_,_⟩:=aE.grown T oB;have aD:c.heap.size+1<=a3.heap.size:=by have:=T.size;simpa using this
     have V:Kids (w.heap.size+2) (fun b=>w.heap.size+2<=b/\b<c.heap.size+1) a3 (J N 1 R) [l.1]:=by simpa using V
     have M:∀a5,(Value.slice N 1 R).ownBlock=Z a5->c.heap.size+1<=a5:=by simpa using M
     have ao:Lies (fun b=>w.heap.size+2<=b/\b<c.heap.size+1/\Z b≠(Value.slice N 1 R).ownBlock) a3 f.1 (Za #[U O i,I m,U O j,J g k h]):=ap.to (fun b d=>⟨d.1,oA,fun n=>by have:=M b n.symm;omega⟩) (fun b d aL=>jM (a:=(A b aL F)) (T.block b oE oB))))
 all_goals
  go_wp2_with (fail);refine(kS ad.rd ⟨#[101,108,115,101]⟩ oC aK).mono ?_;rintro n aj ⟨rfl,aA,aa⟩;have G:=ad.step aA aa;obtain⟨aQ,aR,aS,aT,bf,bg,bh,bi⟩:=G.b0;obtain⟨af,ag,ah,ai,_,_,_,_⟩:=G.b1;have ak:Hid (Lies (fun b=>w.heap.size+1<=b/\b<aj.heap.size) aj (.node 10 empty 0 [l.1,f.1]) (Za #[U O 10,I empty,U O 0,J P 2 S])):=Kids.done (ks:=[l.1,f.1]) av (by have:=au.size;omega) oB aa K.lt;go_wp2
  exact jT (v:=Za #[U O 10,I empty,U O 0,J P 2 S]) (by simp[results,results91,go_sem,aQ,aR,aS,aT]) rfl
   (Ans.fin K G.fr G.rd (Nat.lt_succ_self _) ak.out)
end
section
variable {w:Zw} {r:Nat} {L:Zv} {ts:List Tok} {s:St}
set_option maxRecDepth 100000 in
theorem zrd {C:Nat} (bi:∀ {w:Zw} {s:St} {q:Tree × St},Rd w r L ts s->qY ts C s=Z q->Calls prog 107 #[Zp (Z (A r 0 F))] w (Ans w r L ts q)) (aL:∀ {w:Zw} {s:St} {q:Tree × St},Rd w r L ts s->qA ts C s=Z q->Calls prog 62 #[Zp (Z (A r 0 F))] w (Ans w r L ts q)) (a2:Rd w r L ts s) (bu:eqS (txt ts s) ⟨#[105,102]⟩=H) {g h p:Tree × St} (aO:qY ts C s.next=Z g) (aP:qA ts C g.2=Z h) (bv:eqS (txt ts h.2) ⟨#[101,108,115,101]⟩=H) (aQ:qA ts C h.2.next=Z p):Calls prog 91 #[Zp (Z (A r 0 F))] w (Ans w r L ts (.node 10 empty 0 [g.1,h.1,p.1],p.2)):=by
 have bw:=kc25;have f:=Mid.start a2;go_enter func91,ntmps91;go_wp2_with (fail);refine(zU f.rd ⟨#[105,102]⟩ oC bu).mono ?_;rintro e ch ⟨rfl,aJ,aC⟩;replace f:=f.step aJ aC;clear aJ aC;obtain⟨ap,ar,au,av,ak,am,an,ao⟩:=f.b1;replace f:=f.kind 10;go_wp2_with (fail);refine(bi f.rd aO).mono ?_;rintro e K ⟨cd,rfl,af,b6,aB⟩;obtain⟨D,M,E,_,rfl,t,G,y,rfl⟩:=af.shape;have bf:=f.size;replace f:=(f.step b6 aB).alloc (Zc #[U O D,I M,U O E,J t G y] 25);have b9:=Box4.new K (U O D) (I M) (U O E) (J t G y) 25;go_wp2_with (fail);refine(aL f.rd aP).mono ?_;rintro e d ⟨ce,rfl,ag,b7,T⟩;obtain⟨l,o,m,_,rfl,i,n,j,rfl⟩:=ag.shape;have bg:=aB.size;have bh:=T.size;rw[jO]at bh;simp only[jQ]at bf bg;have bR:=a2.lt;replace f:=f.step b7 T;have ba:=b9.fr T oA;have bP:K.heap.size<d.heap.size:=oA;have bN:w.heap.size+1<d.heap.size:=oA;have bH:w.heap.size<d.heap.size:=oA;obtain⟨ap,ar,au,av,ak,am,an,ao⟩:=f.b1;obtain⟨ci,cj,ck,cm,_,_,_,_⟩:=ba;have ay:Lies (fun b=>w.heap.size+2<=b/\b<d.heap.size) d g.1 (Za #[U O D,I M,U O E,J t G y]):=(af.frP (x:=K.heap.size) (Q:=fun b=>w.heap.size+2<=b/\b<K.heap.size) (Fr.al K (Zc #[U O D,I M,U O E,J t G y] 25)) (fun b c=>⟨c.2,oA⟩) (fun b c=>⟨by simp only[jQ]at c;omega,c.2⟩)).frP T (fun b c=>⟨oG,oA⟩) (fun b c=>⟨c.1,oA⟩);have aA:Lies (fun b=>w.heap.size+2<=b/\b<d.heap.size) d h.1 (Za #[U O l,I o,U O m,J i n j]):=ag.to (fun b c=>⟨by rw[jO]at c;omega,c.2⟩) (fun _ _ _=>rfl);have aZ:=(f.alloc (Zc #[U O l,I o,U O m,J i n j] 25)).drewN 1;have az:Lies (fun b=>w.heap.size+2<=b/\b<((d.alloc (Zc #[U O l,I o,U O m,J i n j] 25)).drewN 1).heap.size) ((d.alloc (Zc #[U O l,I o,U O m,J i n j] 25)).drewN 1) g.1 (Za #[U O D,I M,U O E,J t G y]):=ay.frP (x:=d.heap.size) ((Fr.al d _).drewN 1) (fun b c=>⟨c.2,oA⟩) (fun b c=>⟨c.1,oE⟩);have aS:Lies (fun b=>w.heap.size+2<=b/\b<d.heap.size) ((d.alloc (Zc #[U O l,I o,U O m,J i n j] 25)).drewN 1) h.1 (Za #[U O l,I o,U O m,J i n j]):=aA.frP (x:=d.heap.size) ((Fr.al d _).drewN 1) (fun b c=>⟨c.2,oA⟩) (fun b c=>c);have be:=(Box4.new d (U O l) (I o) (U O m) (J i n j) 25).drewN 1;have aT:=aZ.first (B:=w.heap.size+2) (jE _) az
 clear ay aA az af ag;go_wp2
 go_region_with (first
  | (go_at_call 108;refine(aY.nextW (W0:=d.heap.size+1) (W1:=d.heap.size+1) ad oB a3 (jE _) bc aR).mono ?_;rintro e bs ⟨N,R,rfl,aD,aG,aV,bb⟩;obtain⟨bz,bD,bE,bF,bX,bY,bZ,c6⟩:=aG.b1;have aH:=aG.put 10 0 empty (J N 2 R))
  | (go_at_call 108;refine aT.mono ?_;rintro e aw ⟨a9,aa,rfl,ad,aY,ac,a3⟩;obtain⟨cn,co,cp,cq,_,_,_,_⟩:=be.grown ac oB;have bc:d.heap.size+1<=aw.heap.size:=by have:=ac.size;simpa using this
     have ad:Kids (w.heap.size+2) (fun b=>w.heap.size+2<=b/\b<d.heap.size+1) aw (J a9 1 aa) [g.1]:=by simpa using ad
     have a3:∀ax,(Value.slice a9 1 aa).ownBlock=Z ax->d.heap.size+1<=ax:=by simpa using a3
     have aR:Lies (fun b=>w.heap.size+2<=b/\b<d.heap.size+1/\Z b≠(Value.slice a9 1 aa).ownBlock) aw h.1 (Za #[U O l,I o,U O m,J i n j]):=aS.to (fun b c=>⟨c.1,oA,fun e=>by have:=a3 b e.symm;omega⟩) (fun b c bj=>jM (a:=(A b bj F)) (ac.block b oE oB))))
 all_goals
  go_wp2_with (fail);refine(zU aH.rd ⟨#[101,108,115,101]⟩ oC bv).mono ?_;rintro e cg ⟨rfl,b8,ab⟩;have ai:=aH.step b8 ab;have c7:=aV.size;have bq:=ab.size;simp only[jQ]at bq;have ae:=aD.grown (Q:=fun b=>w.heap.size+2<=b/\b<d.heap.size+1) (Fr.put bs (w.heap.size+1) (U O 10) (I empty) (U O 0) (J N 2 R)) (.inr fun e=>by have:=(aD.blk e).1;omega) (fun b c=>⟨oA,oE⟩) (fun _ k=>k);have W:=ae.grown (Q:=fun b=>w.heap.size+2<=b/\b<d.heap.size+1) ab (.inr fun e=>by have:=(ae.blk e).1;omega) (fun b c=>⟨oX,oE⟩) (fun _ k=>k);go_wp2_with (fail);refine(aL ai.rd aQ).mono ?_;rintro e wc ⟨cf,rfl,ah,aK,V⟩;obtain⟨a5,a8,a6,_,rfl,P,a7,S,rfl⟩:=ah.shape;have c8:=V.size;have b2:=(ai.step aK V).alloc (Zc #[U O a5,I a8,U O a6,J P a7 S] 25);have aE:=(W.grown (Q:=fun b=>w.heap.size+2<=b/\b<d.heap.size+1) V (.inr fun e=>by have:=(W.blk e).1;omega) (fun b c=>⟨oA,oE⟩) (fun _ k=>k)).grown (Q:=fun b=>w.heap.size+2<=b/\b<d.heap.size+1) (World.grownBy_alloc wc (Zc #[U O a5,I a8,U O a6,J P a7 S] 25) F) (by cases k:(Value.slice N ([g.1].length+1) R).ownBlock<;>simp) (fun b c=>⟨oA,oB⟩) (fun _ k=>k)
  have aF:Lies (fun b=>w.heap.size+2<=b/\b<wc.heap.size/\Z b≠(Value.slice N ([g.1].length+1) R).ownBlock) (wc.alloc (Zc #[U O a5,I a8,U O a6,J P a7 S] 25)) p.1 (Za #[U O a5,I a8,U O a6,J P a7 S]) :=
   ah.frP (x:=wc.heap.size) (Fr.al wc _) (fun b c=>⟨c.2,oA⟩) (fun b c=>⟨oA,c.2,fun e=>by have:=(W.blk e.symm).2;omega⟩)
  have bS:w.heap.size+1<wc.heap.size:=oA;have aU:=b2.nextW (W0:=d.heap.size+1) (W1:=wc.heap.size) aE oB bb oA oG aF;obtain⟨ap,ar,au,av,ak,am,an,ao⟩:=(ai.step aK V).b1;clear ae W ah aF aE;go_wp2_with (fail);refine aU.mono ?_;rintro e aM ⟨u,z,rfl,aX,aj,aW,bG⟩;obtain⟨ap,ar,au,av,ak,am,an,ao⟩:=aj.b1;obtain⟨bm,bn,bo,bp,c9,ca,cb,cc⟩:=aj.b0;have aI:=aj.put 10 0 empty (J u 3 z);have br:=aW.size;rw[jO]at br;have aN:Hid (Lies (fun b=>w.heap.size+1<=b/\b<((((aM.setCell (A (w.heap.size+1) 0 F) (U O 10)).setCell (A (w.heap.size+1) 1 F) (I empty)).setCell (A (w.heap.size+1) 2 F) (U O 0)).setCell (A (w.heap.size+1) 3 F) (J u 3 z)).heap.size) ((((aM.setCell (A (w.heap.size+1) 0 F) (U O 10)).setCell (A (w.heap.size+1) 1 F) (I empty)).setCell (A (w.heap.size+1) 2 F) (U O 0)).setCell (A (w.heap.size+1) 3 F) (J u 3 z)) (.node 10 empty 0 [g.1,h.1,p.1]) (Za #[U O 10,I empty,U O 0,J u 3 z])):=Kids.done (r:=r) (ks:=[g.1,h.1,p.1]) aX oA oB (Fr.refl _ _) a2.lt;go_wp2
  exact jT (v:=Za #[U O 10,I empty,U O 0,J u 3 z]) (by simp[results,results91,go_sem,bm,bn,bo,bp]) rfl
   (Ans.fin a2 aI.fr aI.rd (Nat.lt_succ_self _) aN.out)
end
end syn
namespace syn
open Go.RowKit
open lexs (Tok)
structure GoodS (r:Nat) (L:Zv) (ts:List Tok) (f:Nat):Prop where
 block:∀ {w:Zw} {s:St} {q:Tree × St},Rd w r L ts s->qA ts f s=Z q->Calls prog 62 #[Zp (Z (A r 0 F))] w (Ans w r L ts q)
 stat:∀ {w:Zw} {s:St} {q:Tree × St},Rd w r L ts s->yP ts f s=Z q->Calls prog 91 #[Zp (Z (A r 0 F))] w (Ans w r L ts q)
theorem vF {α β:Type} {b:Option α} {c:α->Option β} {e:β} (d:b.bind c=Z e):∃a,b=Z a/\c a=Z e:=by
 cases b with
 | none=>simp at d
 | some a=>exact⟨a,rfl,d⟩
theorem ybk {r:Nat} {L:Zv} {ts:List Tok} {q:Nat} (d:GoodE r L ts q) (p:GoodS r L ts q) {w:Zw} {s:St} {u:Tree × St} (e:Rd w r L ts s) (a:yP ts (q+1) s=Z u) : Calls prog 91 #[Zp (Z (A r 0 F))] w (Ans w r L ts u):=by
 unfold yP at a;cases c:eqS (txt ts s) ⟨#[105,102]⟩
 case true =>
  rw[c,jv rfl]at a;obtain⟨i,b,a⟩:=vF a;obtain⟨t,k,a⟩:=vF a;cases o:eqS (txt ts t.2) ⟨#[101,108,115,101]⟩
  case true =>
   rw[o,jv rfl]at a;obtain⟨x,v,a⟩:=vF a;simp only[jh]at a;subst a;exact zrd d.asked p.block e c b k o v
  case false =>
   rw[o,ju oC]at a;simp only[jh]at a;subst a;exact zwt d.asked p.block e c b k o
 rw[c,ju oC]at a;cases f:eqS (txt ts s) ⟨#[119,104,105,108,101]⟩
 case true =>
  rw[f,jv rfl]at a;obtain⟨i,b,a⟩:=vF a;obtain⟨t,k,a⟩:=vF a;simp only[jh]at a;subst a;exact zrz d.asked p.block e c f b k
 rw[f,ju oC]at a;cases g:eqS (txt ts s) ⟨#[108,111,119]⟩
 case true =>
  rw[g,Bool.true_or,jv rfl]at a;obtain⟨i,b,a⟩:=vF a;simp only[jh]at a;subst a;exact zut d.expr e c f g b
 rw[g,Bool.false_or]at a;cases h:eqS (txt ts s) ⟨#[104,105,103,104]⟩
 case true =>
  rw[h,jv rfl]at a;obtain⟨i,b,a⟩:=vF a;simp only[jh]at a;subst a;exact zs3 d.expr e c f g h b
 rw[h,ju oC]at a;cases j:eqS (txt ts s) ⟨#[100,111]⟩
 case true =>
  rw[j,jv rfl]at a;obtain⟨i,b,a⟩:=vF a;simp only[jh]at a;subst a;exact zws d.call e c f g h j b
 rw[j,ju oC]at a;cases l:eqS (txt ts s) ⟨#[111,117,116]⟩
 case true =>
  rw[l,jv rfl]at a;obtain⟨i,b,a⟩:=vF a;simp only[jh]at a;subst a;exact zuu d.expr e c f g h j l b
 rw[l,ju oC]at a;cases m:eqS (txt ts s) ⟨#[105,110]⟩
 case true =>
  rw[m,jv rfl]at a;obtain⟨i,b,a⟩:=vF a;simp only[jh]at a;subst a;exact zwu d.place e c f g h j l m b
 rw[m,ju oC]at a;cases n:eqS (txt ts s) ⟨#[114,101,116,117,114,110]⟩
 case true =>
  rw[n,jv rfl]at a;obtain⟨i,b,a⟩:=vF a;simp only[jh]at a;subst a;exact zre d.expr e c f g h j l m n b
 rw[n,ju oC]at a;obtain⟨i,b,a⟩:=vF a;obtain⟨y,k,a⟩:=vF a;simp only[jh]at a;subst a;exact zuv d.expr d.place e c f g h j l m n b k
theorem yav (r:Nat) (L:Zv) (ts:List Tok) (b:Nat) (e:b<=100000):GoodS r L ts b:=by
 induction b using Nat.strongRecOn with
 | _ b ih =>
  cases b with
  | zero =>
   refine⟨fun _ a=>?_,fun _ a=>?_⟩;·unfold qA at a;simp at a
   ·unfold yP at a;simp at a
  | succ b =>
   exact⟨fun c a=>yad oA (fun {d} f {_ _ _} c a=>(ih d oA oA).stat c a) c a,
    fun c a=>ybk (yau r L ts b oA) (ih b (Nat.lt_succ_self b) oA) c a⟩
theorem ybe {r:Nat} {L:Zv} {ts:List Tok} {k:Nat} (g:k<=100000) {w:Zw} {s:St} {l:Tree × St} (f:Rd w r L ts s) (b:gD ts k s=Z l) : Calls prog 31 #[Zp (Z (A r 0 F))] w (Ans w r L ts l):=by
 have S:=yav r L ts k g;unfold gD at b;cases d:eqS (txt ts (kY ts s)) ⟨#[112,114,111,99]⟩
 case false =>
  rw[d,ju oC]at b;simp only[jh]at b;subst b;exact zus f d
 case true =>
  rw[d,jv rfl]at b;obtain⟨n,a,b⟩:=vF b;obtain⟨m,h,b⟩:=vF b;simp only[jh]at b;subst b;unfold params at a;cases e:eqS (txt ts s) ⟨#[112,117,98]⟩
  case true =>
   have j:kY ts s=s.next:=by unfold kY;rw[e,jv rfl]
   have i:vN ts s=2:=by unfold vN;rw[e,jv rfl]
   rw[j]at d a |-;rw[i];cases c:eqS (txt ts (kB ts ⟨#[40]⟩ (name ts s.next.next).2)) ⟨#[41]⟩
   case true =>
    rw[c,jv rfl]at a;exact zs0 g S.block f e d (show name ts s.next.next=((name ts s.next.next).1,(name ts s.next.next).2)from rfl) c (by simpa using a) h
   case false =>
    rw[c,ju oC]at a;exact zur g S.block f e d (show name ts s.next.next=((name ts s.next.next).1,(name ts s.next.next).2)from rfl) c a h
  case false =>
   have j:kY ts s=s:=by unfold kY;rw[e,ju oC]
   have i:vN ts s=0:=by unfold vN;rw[e,ju oC]
   rw[j]at d a |-;rw[i];cases c:eqS (txt ts (kB ts ⟨#[40]⟩ (name ts s.next).2)) ⟨#[41]⟩
   case true =>
    rw[c,jv rfl]at a;exact zsz g S.block f e d (show name ts s.next=((name ts s.next).1,(name ts s.next).2)from rfl) c (by simpa using a) h
   case false =>
    rw[c,ju oC]at a;exact zuq g S.block f e d (show name ts s.next=((name ts s.next).1,(name ts s.next).2)from rfl) c a h
end syn
namespace syn
open Go.RowKit
open lexs (Tok own_shape)
theorem dF {c r:Nat} {d w f:Zw} (a:Below c d w) (b:Fr r w f) (h:c<=r) (i:c<=w.heap.size):Below c d f :=
 ⟨b.os.trans a.os,b.tape.trans a.tape,b.output.trans a.output,jp a.size b.size,fun e g=>(b.block e oA oE).trans (a.block e g)⟩
theorem Rd.new {w:Zw} {L:Zv} {ts:List Tok} {T:TypeId} {b:Nat} (a:w.ownsRow b 76 3 L ts.length (lexs.cellsOf ts)) (d:ts.length<=3000) (e:∀t∈ts,t.kind=2->lexs.numE t.text=0/\t.text≠[]):Rd (w.alloc (Zc #[L,U O 0,Y X] T)) w.heap.size L ts ⟨0,X⟩:=by
 refine⟨oB,oB,oB,oB,oB,?_,?_,d,jz _,e⟩;·exact lexs.ownsRow_le (a.alloc _) (jz _)
 ·intro c;have:=(a.lt _ c).2;omega
theorem yaf (n:ByteArray):zpb (fun _=>True) 12 n:=by
 intro w _;have ck:=kc25;have cm:=kc28;have cn:=kc71;obtain⟨bh,hi,be,bf,bg⟩:=info_parts uD;have aZ:Below w.heap.size w ((w.alloc (Zc #[U O 0,I empty,U O 0,J F 0 0] 25)).alloc (Zc #[U O 0,U O 0] 28)):=(bal _).alloc oB _;have R:=lexs.rscan_any n ((w.alloc (Zc #[U O 0,I empty,U O 0,J F 0 0] 25)).alloc (Zc #[U O 0,U O 0] 28));have aY:=(Box4.new w (U O 0) (I empty) (U O 0) (J F 0 0) 25).alloc (Zc #[U O 0,U O 0] 28);have aE:=Box2.new (w.alloc (Zc #[U O 0,I empty,U O 0,J F 0 0] 25)) (U O 0) (U O 0) 28;rw[jO]at aE;unfold parse
 cases a2:lexs.scan n.data.toList with
 | err G l =>
  rw[a2]at R;have bH:=lexs.scan_err a2;have cq:(G != 0)=H:=by simpa using bH
  simp only[lexs.Res.code,lexs.Res.place,lexs.Res.toks]at R;go_enter func12,ntmps12;go_wp2_with (fail);refine R.mono ?_;rintro h c ⟨v,rfl,W,M⟩;have a5:=aY.below M;have a6:=aE.below M;obtain⟨ae,p,af,ag,bi,bj,bm,bn⟩:=id a5;obtain⟨ah,ai,bo,bp⟩:=id a6;have br:w.heap.size+1<c.heap.size:=a6.lt;have bq:w.heap.size<c.heap.size:=a5.lt;have a8:Below w.heap.size w c:=aZ.trans (M.mono oE);go_wp2;go_region
  all_goals
   go_wp2;refine jT (v:=.tuple #[Za #[U O 0,I empty,U O 0,J F 0 0],Za #[U O G,U O l]]) (by simp[results,results12,go_sem,ae,p,af,ag,ah,ai,bq,br,empty]) rfl (vJ.none ?_)
   exact below_drewN ((fI a8 _ _ _ _ _ _).alloc oE _) 1
 | ok ts =>
  rw[a2]at R;simp only[lexs.Res.code,lexs.Res.place,lexs.Res.toks]at R;obtain⟨l,az,bb,b2,ba⟩:=zed (lexs.scan_len a2);simp only[ba];have c8:=lexs.scan_num a2;have bS:=lexs.scan_len a2;have HP:Hid (zZ ts 4000 [] (uK ts)=Z l):=bb;have aQ:Hid (yD ts 4000 l.1 l.2=Z az):=b2;clear bb b2 ba;go_enter func12,ntmps12;go_wp2_with (fail);refine R.mono ?_;rintro h c ⟨v,rfl,W,M⟩;have a5:=aY.below M;have a6:=aE.below M;have br:w.heap.size+1<c.heap.size:=a6.lt;have bq:w.heap.size<c.heap.size:=a5.lt;have bG:Below w.heap.size w c:=aZ.trans (M.mono oE);obtain⟨a3,G,rfl,cw,bP⟩:=own_shape W;have aX:=(Rd.new (T:=71) (W.alloc (Zc #[U O 0,U O 0] 28)) bS c8).alloc (Zc #[U O 1,I empty,U O 0,J F 0 0] 25);have b0:=Box4.new ((c.alloc (Zc #[U O 0,U O 0] 28)).alloc (Zc #[J a3 ts.length G,U O 0,Y X] 71)) (U O 1) (I empty) (U O 0) (J F 0 0) 25;simp only[jO]at aX b0;have d:Below c.heap.size c (((c.alloc (Zc #[U O 0,U O 0] 28)).alloc (Zc #[J a3 ts.length G,U O 0,Y X] 71)).alloc (Zc #[U O 1,I empty,U O 0,J F 0 0] 25)):=((bal _).alloc oB _).alloc oE _;have a:MP (c.heap.size+2) (c.heap.size+1) (J a3 ts.length G) ts _ ⟨0,X⟩ 1 empty 0 (J F 0 0) []:=⟨aX,b0,oA,fun g o=>by have:=(W.lt g o).2;omega,Kids.nil _ _ _⟩
  go_wp2_with (fail);refine(zI a.rd ⟨#[109,111,100,117,108,101]⟩ oC).mono ?_;rintro h ci ⟨rfl,aU,aj⟩;have cy:c.heap.size+3<=ci.heap.size:=by have:=aj.size;simpa using this
  replace a:=a.step aU aj;replace d:=dF d aj oA oE;go_wp2_with (fail);refine(gF a.rd).mono ?_;rintro h d3 ⟨rfl,aV,ak⟩;have cz:=ak.size;replace a:=a.step aV ak;replace d:=dF d ak oA oA;obtain⟨an,ao,ap,ar,aK,aL,aM,aN⟩:=id a.box;replace a:=a.text (name ts (kB ts ⟨#[109,111,100,117,108,101]⟩ ⟨0,X⟩)).1;replace d:=d.setCell (p:=(A (c.heap.size+2) 1 F)) oB (I (name ts (kB ts ⟨#[109,111,100,117,108,101]⟩ ⟨0,X⟩)).1);go_wp2_with (fail);refine(zI a.rd ⟨#[59]⟩ oC).mono ?_;rintro h d4 ⟨rfl,aW,am⟩;have cb:=am.size;rw[jQ]at cb;replace a:=a.step aW am;replace d:=dF d am oA oN;go_wp2
  go_loopg [] 4000 (fun m wr=>∃(b:List Tree) (e:St) (ad:Zv),Hid (zZ ts m b e=Z l)/\b.length+m<=4000/\MP (c.heap.size+2) (c.heap.size+1) (J a3 ts.length G) ts wr e 1 (xB ts) 0 ad b/\Below c.heap.size c wr)
  case atStart=>exact⟨[],uK ts,J F 0 0,HP.out,oB,a,d⟩
  case round =>
   clear a d aW am aV ak aU aj HP an ao ap ar aK aL aM aN;obtain⟨b,e,ad,K,b8,a,d⟩:=hrel;obtain⟨y,z,rfl⟩:=a.kids.shape
   cases gk with
   | zero=>have:=K.out;unfold zZ at this;simp at this
   | succ m =>
    have k:=K.out;clear K;unfold zZ at k;cases a9:eqS (txt ts e) ⟨#[105,109,112,111,114,116]⟩
    case true =>
     rw[a9,jv rfl]at k;have aw:Hid (zZ ts m (b++[Tree.node 2 (name ts e.next).1 0 []]) (kB ts ⟨#[59]⟩ (name ts e.next).2)=Z l):=k;clear k;have aJ:=a.size;go_wp2_with (fail);refine(zU a.rd ⟨#[105,109,112,111,114,116]⟩ oC a9).mono ?_;rintro h E ⟨rfl,P,u⟩;replace a:=a.step P u;replace d:=dF d u oA oA;have c9:=a.size;go_wp2_with (fail);refine(gF a.rd).mono ?_;rintro h aP ⟨rfl,bE,aS⟩;replace a:=a.step bE aS;replace d:=dF d aS oA oA;have cx:=a.size;go_wp2_with (fail);refine(zI a.rd ⟨#[59]⟩ oC).mono ?_;rintro h au ⟨rfl,bF,aT⟩;replace a:=a.step bF aT;replace d:=dF d aT oA oA;have ca:=a.size;have c6:=a.rn;have aH:∀g,(Value.slice y b.length z).ownBlock=Z g->c.heap.size+2+1<=g/\g<au.heap.size:=fun g o=>a.kids.blk o
     have bX:b.length<=8000:=oA;obtain⟨an,ao,ap,ar,aK,aL,aM,aN⟩:=id a.box;obtain⟨aO,ab,a7⟩:=a.kids;have av:Hid (kW (fun f=>c.heap.size+2+1<=f/\f<au.heap.size/\Z f≠(Value.slice y b.length z).ownBlock) au b aO):=a7;clear a7;go_wp2_with (at_builtin;refine uQ rfl (.tmp 38) (.tmp 41) 23 rfl (c.heap.size+2+1) 25 bh (Za #[U O 0,I ⟨#[]⟩,U O 0,J F 0 0]) 4 56 underlying23 hi be bf bg rfl oC _ _ _ rfl (ab.alloc _) (A au.heap.size 0 F) 1 1 [U O 2,I (name ts e.next).1,U O 0,J F 0 0] rfl rfl (xL _ _ _ _ _ _ _ oB) oF (by unfold maxLen;omega) oA oH oC ?_;intro ch cj ac N b7;obtain⟨ax,ay,rfl,c7,_⟩:=own_shape ac;obtain⟨bs,bu,bv,bw,cc,cd,ce,cf⟩:=(a.box.alloc _).grown N a.nb;have aD:=MP.pushed (q:=(U O 2,I (name ts e.next).1,U O 0,J F 0 0)) (t:=Tree.node 2 (name ts e.next).1 0 [] ) a ab av.out (Lies.leaf _ _ _ _ _) ac N oz13y127;have aF:=(((d.alloc oA _).grown N oE (fun m h=>by have:=(aH m h).1;omega)).setCell (p:=(A (c.heap.size+2) 3 F)) oB (J ax (b.length+1) ay)))
     go_roundg m
     case rel=>exact⟨b++[Tree.node 2 (name ts e.next).1 0 [] ],_,_,aw.out,oL,aD,aF⟩
     case measure=>omega
    case false =>
     rw[a9,ju oC]at k;simp only[jh]at k;subst k;have aJ:=a.size;go_wp2_with (fail);refine(kS a.rd ⟨#[105,109,112,111,114,116]⟩ oC a9).mono ?_;rintro h E ⟨rfl,P,u⟩;replace a:=a.step P u;replace d:=dF d u oA oA;clear a9;go_wp2
     go_loopg [] 4000 (fun m wr=>∃(b:List Tree) (e:St) (ad:Zv),Hid (yD ts m b e=Z az)/\b.length+m<=8000/\MP (c.heap.size+2) (c.heap.size+1) (J a3 ts.length G) ts wr e 1 (xB ts) 0 ad b/\Below c.heap.size c wr)
     case atStart=>exact⟨b,e,_,aQ.out,oA,a,d⟩
     case round =>
      clear a d P u aQ aJ b8;obtain⟨b,e,ad,K,b8,a,d⟩:=hrel;obtain⟨y,z,rfl⟩:=a.kids.shape;have aJ:=a.size;have co:=a.rd.c1;have aR:=a.rd.c2;have cp:=a.rd.le
      cases gk with
      | zero=>have:=K.out;unfold yD at this;simp at this
      | succ m =>
       have k:=K.out;clear K;unfold yD at k;have aB:=a5.below d;have aC:=a6.below d;have a8:Below w.heap.size w wr:=bG.trans (d.mono oA);have db:w.heap.size<wr.heap.size:=aB.lt;have dc:w.heap.size+1<wr.heap.size:=aC.lt;cases V:e.bad
       case true =>
        rw[V]at k aR;simp only[Bool.true_or,if_true,jh]at k;subst k;obtain⟨ae,p,af,ag,bi,bj,bm,bn⟩:=id aB;obtain⟨ah,ai,bo,bp⟩:=id aC;by_cases aa:e.i<ts.length
        ·have L:Hid (xT ts n.size (.node 1 (xB ts) 0 b,e)=⟨gE,2,(ts[e.i].at_:Int)⟩):=by
          show _=_;unfold xT gB;rw[V,List.getElem?_eq_getElem aa];rfl
         obtain⟨g,rfl⟩:=bP oA;obtain⟨d5,d6,da⟩:=lexs.tok_cells (lexs.own_below W d) aa;have aG:((e.i:Int)<(ts.length:Int)):=oA;have bN:=(W.lt g rfl).1;simp only[jO]at bN;have cr:¬g=w.heap.size:=oA;have ct:¬g=w.heap.size+1:=oA;have cu:¬w.heap.size=g:=oA;have cv:¬w.heap.size+1=g:=oA;generalize ts[e.i].at_=cg at *;go_wp2;go_region
         all_goals
          go_wp2;refine jT (v:=.tuple #[Za #[U O 0,I empty,U O 0,J F 0 0],Za #[U O 2,U O cg]]) oz13y128 rfl ?_;rw[L.out];exact vJ.none (below_drewN (fI a8 _ _ _ _ _ _) 1)
        ·have L:Hid (xT ts n.size (.node 1 (xB ts) 0 b,e)=⟨gE,2,(n.size:Int)⟩):=by
          show _=_;unfold xT gB;rw[V,List.getElem?_eq_none (show ts.length<=e.i by omega)];rfl
         have aG:¬((e.i:Int)<(ts.length:Int)):=oA;go_wp2;refine jT (v:=.tuple #[Za #[U O 0,I empty,U O 0,J F 0 0],Za #[U O 2,U O n.size]]) oz13y128 rfl ?_;rw[L.out];exact vJ.none (fI a8 _ _ _ _ _ _)
       case false =>
        rw[V]at k aR;by_cases aa:ts.length<=e.i
        ·rw[decide_eq_true aa]at k;simp only[Bool.or_true,if_true,jh]at k;subst k;have aG:¬((e.i:Int)<(ts.length:Int)):=oA;obtain⟨an,ao,ap,ar,_,_,_,_⟩:=id a.box;have bZ:Lies (·<wr.heap.size) wr (.node 1 (xB ts) 0 b) (Za #[U O 1,I (xB ts),U O 0,J y b.length z]):=a.kids.lies (fun f j=>j.2.1) (fun g o=>(a.kids.blk o).2) oA
         have bY:Lies (fun f=>c.heap.size+3<=f/\f<wr.heap.size) wr (.node 1 (xB ts) 0 b) (Za #[U O 1,I (xB ts),U O 0,J y b.length z]):=a.kids.lies (fun f j=>⟨j.1,j.2.1⟩) (fun g o=>a.kids.blk o) oA;have bD:=ybg _ _ _ bZ;go_wp2_with (fail);refine bD.mono ?_;rintro h aP ⟨rfl,S⟩;have b1:Below w.heap.size w aP:=a8.trans (S.mono oA);obtain⟨ae,p,af,ag,bi,bj,bm,bn⟩:=aB.below S;obtain⟨ah,ai,bo,bp⟩:=aC.below S;obtain⟨cA,cB,d0,d1,_,_,_,_⟩:=a.box.below S;have aI:=bY.frP (x:=w.heap.size) (Fr.below S) (Q:=fun f=>c.heap.size+3<=f/\f<aP.heap.size) (fun f j=>⟨j.2,oA⟩) (fun f j=>⟨j.1,jo j.2 S.size⟩);cases b6:fitsT (.node 1 (xB ts) 0 b)
         case true =>
          have L:Hid (xT ts n.size (.node 1 (xB ts) 0 b,e)=⟨.node 1 (xB ts) 0 b,0,0⟩):=by show _=_;unfold xT;rw[V,b6];rfl
          go_wp2;refine jT (v:=.tuple #[Za #[U O 1,I (xB ts),U O 0,J y b.length z],Za #[U O 0,U O 0]]) (by simp[results,results12,go_sem,ae,p,af,ag,ah,ai]) rfl ?_;rw[L.out];refine⟨_,rfl,?_,fI b1 _ _ _ _ _ _⟩;exact(aI.frP (x:=w.heap.size) (Fr.put _ _ _ _ _ _) (fun f j=>⟨j.2,oA⟩) (fun f j=>j)).frP (x:=w.heap.size+1) (((Fr.refl _ _).set 0 _).set 1 _) (fun f j=>⟨by simpa using j.2,oA⟩) (fun f j=>⟨oA,by simpa using j.2⟩)
         case false =>
          have L:Hid (xT ts n.size (.node 1 (xB ts) 0 b,e)=⟨gE,1,0⟩):=by show _=_;unfold xT;rw[V,b6];rfl
          go_wp2;refine jT (v:=.tuple #[Za #[U O 0,I empty,U O 0,J F 0 0],Za #[U O 1,U O 0]]) oz13y128 rfl ?_;rw[L.out];exact vJ.none (fI b1 _ _ _ _ _ _)
        ·rw[decide_eq_false aa]at k;simp only[Bool.or_false,jr,if_false]at k;obtain⟨p,bz,bc⟩:=qQ k;have aw:Hid (yD ts m (b++[p.1]) p.2=Z az):=bc;clear k bc;have aG:((e.i:Int)<(ts.length:Int)):=oA;have bR:∀g,(Value.slice y b.length z).ownBlock=Z g->g<wr.heap.size:=fun g o=>(a.kids.blk o).2
         go_wp2_with (fail);refine(ybe (jE _) a.rd bz).mono ?_;rintro h E ⟨d2,rfl,b9,P,u⟩;obtain⟨x,D,B,_,rfl,r,C,s,rfl⟩:=b9.shape;replace a:=(a.step P u).alloc (Zc #[U O x,I D,U O B,J r C s] 25);have c9:=u.size;replace d:=(dF d u oA oA).alloc oA (Zc #[U O x,I D,U O B,J r C s] 25)
         have aI:Lies (fun f=>c.heap.size+2+1<=f/\f<(E.alloc (Zc #[U O x,I D,U O B,J r C s] 25)).heap.size/\Z f≠(Value.slice y b.length z).ownBlock) (E.alloc (Zc #[U O x,I D,U O B,J r C s] 25)) p.1 (Za #[U O x,I D,U O B,J r C s]) :=
          b9.frP (x:=E.heap.size) (Fr.al _ _) (fun f j=>⟨j.2,oA⟩) (fun f j=>⟨oA,oG,fun h=>by have:=bR f h.symm;omega⟩)
         have ca:=a.size;have c6:=a.rn;have aH:∀g,(Value.slice y b.length z).ownBlock=Z g->c.heap.size+2+1<=g/\g<(E.alloc (Zc #[U O x,I D,U O B,J r C s] 25)).heap.size:=fun g o=>a.kids.blk o
         have bX:b.length<=8000:=oA;obtain⟨an,ao,ap,ar,aK,aL,aM,aN⟩:=id a.box;obtain⟨aO,ab,a7⟩:=a.kids;have av:Hid (kW (fun f=>c.heap.size+2+1<=f/\f<(E.alloc (Zc #[U O x,I D,U O B,J r C s] 25)).heap.size/\Z f≠(Value.slice y b.length z).ownBlock) (E.alloc (Zc #[U O x,I D,U O B,J r C s] 25)) b aO):=a7;clear a7;go_wp2_with (at_builtin;refine uQ rfl (.tmp 61) (.tmp 63) 23 rfl (c.heap.size+2+1) 25 bh (Za #[U O 0,I ⟨#[]⟩,U O 0,J F 0 0]) 4 56 underlying23 hi be bf bg rfl oC _ _ _ rfl (ab.alloc _) (A (E.heap.size+1) 0 F) 1 1 [U O x,I D,U O B,J r C s] rfl rfl (xL _ _ _ _ _ _ _ oB) oF (by unfold maxLen;omega) oA oH oC ?_;intro ch cj ac N b7;obtain⟨ax,ay,rfl,c7,_⟩:=own_shape ac;obtain⟨bs,bu,bv,bw,cc,cd,ce,cf⟩:=(a.box.alloc _).grown N a.nb;have aD:=MP.pushed (q:=(U O x,I D,U O B,J r C s)) (t:=p.1) a ab av.out aI ac N oz13y127;have aF:=(((d.alloc oA _).grown N oE (fun m h=>by have:=(aH m h).1;omega)).setCell (p:=(A (c.heap.size+2) 3 F)) oB (J ax (b.length+1) ay)))
         go_roundg m
         case rel=>exact⟨b++[p.1],_,_,aw.out,oL,aD,aF⟩
         case measure=>omega
end syn
namespace face
open Go.RowKit
open syn
theorem za1 {w:Zw} {b a:Int} (R:Option (Int × Int)) (c:R=Z (b,a)):Ending.returned (Za #[U O b,U O a])=.returned (dH R):=by rw[c];rfl
theorem cU {w wr:Zw} (a:Below w.heap.size w wr) (b c:Zv):Below w.heap.size w ((wr.setCell (A (w.heap.size+1) 0 F) b).setCell (A (w.heap.size+1) 1 F) c):=(a.setCell (Nat.le_succ _) _).setCell (Nat.le_succ _) _
theorem ya8 (x:ByteArray) (j:List Kid) (v:Zv) (w:Zw) (bv:Lies (·<w.heap.size) w (.node 1 x 0 (j.map Kid.tree)) v) (d6:kA (j.map Kid.tree)<=1000) (da:j.length<=1000) (bu:∀e∈j,e.kids.length<=1000) : Calls prog 13 #[v] w fun a cz=>a=.returned (dH (zC x j [] [] 1))/\Below w.heap.size w cz:=by
 have cB:=kc25;have d0:=kc28;have bZ:prog.cellsOf 9=1:=zbo;obtain⟨ab,hi,a8,a9,aa⟩:=info_parts zqf;obtain⟨R,be⟩:∃R,R=zC x j [] [] 1:=⟨_,rfl⟩
 rw[<- be];have bn:Hid (zC x (j.drop 0) [] [] 1=R):=be.symm;clear be;unfold Lies at bv;obtain⟨a3,a5,rfl,ci,cf⟩:=bv;rw[List.length_map]at ci |-
 have bm:LI w ((w.alloc (Zc #[U O 1,I x,U O 0,J a3 j.length a5] 25)).alloc (Zc #[U O 0,U O 0] 28)) x (J a3 j.length a5) (J F 0 0) (J F 0 0) [] [] :=
  ⟨Joins.below_alloc2 _ _ _,oB,oB,oB,oB,oB,oB,World.ownsRow_nil _ _ _ _,World.ownsRow_nil _ _ _ _,(fun ae d=>by cases d)⟩
 go_enter func13,ntmps13;go_wp2;go_loopw [3,4,5,6] (fun cq cv cw cx wr=>∃(n:Nat) (is k:List ByteArray) (c:Int),n<=j.length/\cx=U O n/\cw=U O c/\Hid (c=1+kA ((j.take n).map Kid.tree))/\LI w wr x (J a3 j.length a5) cq cv is k/\is.length<=5/\k.length<=20/\Hid (zC x (j.drop n) is k c=R)) (fun _ _ _ aS _=>j.length - (intOf aS).toNat)
 case atStart=>exact⟨0,[],[],1,jz _,rfl,rfl,rfl,bm,oB,oB,bn⟩
 case round =>
  clear bm bn;obtain⟨n,is,k,c,dd,rfl,rfl,aT,s,bg,cj,N⟩:=hrel;have dr:=s.q3;by_cases ak:n<j.length
  ·obtain⟨d4,dq,rfl,cb,aQ⟩:=cf (by intro a;have:=congrArg List.length a;simp at this;rw[this]at ak;simp at ak);obtain⟨aI,S,bz,bD,bE,bF,p⟩:=cW cb aQ (Below.refl _ _) ak;have aA:=keep bz s.below;have aB:=keep bD s.below;have ac:=keep bE s.below;have a6:=keep bF s.below;clear bz bD bE bF;have aW:=bu j[n] (jH ak);have bp:=ze3 j n ak;have c9:=zea j (n+1);have am:=qU j[n].tree;have cn:=kR ((j.take n).map Kid.tree);have db:0<=c:=by rw[aT.out];omega
   have dc:c<=1001:=by have:=zea j n;rw[aT.out];omega
   have ah:c+kC j[n].tree<=1001:=by rw[aT.out];omega
   have M:Hid (c+kC j[n].tree=1+kA ((j.take (n+1)).map Kid.tree)):=by show _=_;rw[bp,aT.out];omega
   clear bp c9 cn;rw[zvk j n ak]at N;obtain⟨b9,bb,rfl⟩:∃b9 bb,_=Value.slice b9 is.length bb:=by obtain⟨a3,a5,a,_⟩:=lexs.own_shape s.oi;exact⟨a3,a5,a⟩
   obtain⟨aJ,aK,rfl⟩:∃aJ aK,_=Value.slice aJ k.length aK:=by obtain⟨a3,a5,a,_⟩:=lexs.own_shape s.on;exact⟨a3,a5,a⟩
   cases aR:j[n] with
   | imp b =>
    rw[aR]at aA aB ac a6 N M am ah;simp only[Kid.kind,Kid.text,Kid.num,Kid.kids,je]at aA aB ac a6;have ca:kC (Kid.imp b).tree=1:=rfl;rw[ca]at M ah;clear aQ p aW am;have m:Hid ((if kH is b||eqS b x then Z (5,c)else if 5<=is.length then Z (1,c)else zC x (j.drop (n+1)) (is++[b]) k (c+1))=R):=N.out;clear N;have g:=s.next (yX (Zc #[U O 2,I b,U O 0,J aI 0 S] 25));obtain⟨ap,ar,aU,aV,aL⟩:_/\_/\_/\_/\_:=⟨g.r0,g.r1,g.z0,g.z1,g.q1⟩
    have G:=zbd g.oi;have u:=fun P (d:uU P (J b9 is.length bb) is)=>rPlace is b _ P d
    cases V:kH is b
    case true =>
     exact oz13x123
    rw[V,Bool.false_or]at m;rw[V]at u;cases b2:eqS b x
    case true =>
     have B:Hid (R=Z (5,c)):=by show _=_;rw[<- m.out,b2];rfl
     unfold eqS at b2;exact oz13x121
    rw[b2]at m;simp only[jr,if_false]at m;unfold eqS at b2;by_cases aP:5<=is.length
    case pos =>
     have B:Hid (R=Z (1,c)):=by show _=_;rw[<- m.out,jv aP]
     exact oz13x122
    rw[ju aP]at m
    go_wp2_with first
     | (go_at_call 26;refine(u _ G).mono ?_;rintro a a2 ⟨⟨W,rfl,q⟩,o⟩;obtain rfl:=o.symm;simp at q)
     | (at_builtin;refine wpList_append_lies _ rfl (.tmp 45) (.tmp 48) 41 rfl (w.heap.size+2) 9 ab (I ⟨#[]⟩) 1 16 underlying41 hi a8 a9 aa rfl oC _ _ _ rfl (g.oi.alloc _) (A (wr.heap.size+1) 0 F) 1 1 [I b] rfl rfl (xZ _ _ _ oB) (fA _) oA oz13y129 oA oz13y130 (wr.heap.size+1+1) oB ?_;intro av au l E i D ay;have C:=g.next (yX (Zc #[I b] 9));have f:=C.pushI E i (D.imp id (fun d=>oz13y131)))
     | go_in
    go_roundw
    case rel=>exact⟨n+1,is++[b],k,c+1,oA,oJ,oJ,M.out,f,oE,cj,m.out⟩
    case measure=>simp[intOf];omega
   | var b h K y =>
    rw[aR]at aA aB ac a6 N M am ah p;simp only[Kid.kind,Kid.text,Kid.num]at aA aB ac a6 p;have m:Hid ((if kH k b then Z (5,c)else if 20<=k.length then Z (1,c)else match vW y c with | some a=>Z a | none=>zC x (j.drop (n+1)) is (k++[b]) (c+kC (Kid.var b h K y).tree))=R):=N.out;clear N;generalize ck:2*bI h+bI K=num at ac p
    cases y with
    | none =>
    simp only[Kid.kids,je]at a6 p;clear aQ aW;have g:=s.next (yX (Zc #[U O 3,I b,U O num,J aI 0 S] 25));obtain⟨ap,ar,aU,aV,aL⟩:_/\_/\_/\_/\_:=⟨g.r0,g.r1,g.z0,g.z1,g.q1⟩
    have G:=zbd g.on;have u:=fun P (d:uU P (J aJ k.length aK) k)=>rPlace k b _ P d
    cases V:kH k b
    case true =>
     exact oz13x123
    rw[V]at u m;simp only[jr,if_false]at m;by_cases aw:20<=k.length
    case pos =>
     exact oz13x126
    rw[ju aw]at m;have a7:Hid (zC x (j.drop (n+1)) is (k++[b]) (c+kC (Kid.var b h K F).tree)=R):=m.out;clear m;generalize (Kid.var b h K F).tree=aH at p a7 M ah am
    go_wp2_with first
     | (go_at_call 26;refine(u _ G).mono ?_;rintro a a2 ⟨⟨W,rfl,q⟩,o⟩;obtain rfl:=o.symm;simp at q)
     | (at_builtin;refine wpList_append_lies _ rfl (.tmp 64) (.tmp 67) 41 rfl (w.heap.size+2) 9 ab (I ⟨#[]⟩) 1 16 underlying41 hi a8 a9 aa rfl oC _ _ _ rfl (g.on.alloc _) (A (wr.heap.size+1) 0 F) 1 1 [I b] rfl rfl (xZ _ _ _ oB) (fA _) oA oz13y129 oA oz13y130 (wr.heap.size+1+1) oB ?_;intro av au l E i D ay;have C:=g.next (yX (Zc #[I b] 9));have f:=C.pushN E i (D.imp id (fun d=>oz13y131));have aC:l.cell? (A wr.heap.size 0 F)=Z (U O 3):=cell_grown i (kK oB _) (fun a=>oz13y132);have aD:l.cell? (A wr.heap.size 1 F)=Z (I b):=cell_grown i (kK oB _) (fun a=>oz13y132);have aE:l.cell? (A wr.heap.size 2 F)=Z (U O num):=cell_grown i (kK oB _) (fun a=>oz13y132);have aF:l.cell? (A wr.heap.size 3 F)=Z (J aI 0 S):=cell_grown i (kK oB _) (fun a=>oz13y132);obtain⟨ao,ad,aM,aN⟩:_/\_/\_/\_:=⟨f.r0,f.r1,f.z0,f.z1⟩;have Q:=p.below f.below;skip)
     | (go_at_call 33;refine(cD _ _ _ Q oA).mono ?_;rintro a b6 ⟨rfl,aj⟩)
     | go_in
    go_roundw
    case rel=>exact⟨n+1,is,k++[b],c+kC aH,oA,oJ,oJ,M.out,f.next aj,bg,oE,a7.out⟩
    case measure=>simp[intOf];omega
    | some y =>
    simp only[Kid.kids,List.length_singleton]at a6 p
    obtain⟨r,t,rfl,b0⟩:∃r t,aI=Z (A r t F)/\w.cell? (A r (t+2) F)=Z (U O y):=by
     unfold Kid.tree Lies at p;obtain⟨bX,bY,a,_,bh⟩:=p;cases a;obtain⟨r,t,rfl,_,ai⟩:=bh oB;unfold kQ at ai;obtain⟨⟨ad,⟨bN,bP,du,dw,rfl,d1,d2,c6,d3⟩,bw⟩,_⟩:=ai;unfold Lies at bw;obtain⟨cA,bZ,aL,_,_⟩:=bw;cases aL;exact⟨r,t,rfl,c6⟩
    clear aQ aW;have g:=s.next (yX (Zc #[U O 3,I b,U O num,J (Z (A r t F)) 1 S] 25));obtain⟨ap,ar,aU,aV,aL⟩:_/\_/\_/\_/\_:=⟨g.r0,g.r1,g.z0,g.z1,g.q1⟩
    have G:=zbd g.on;have u:=fun P (d:uU P (J aJ k.length aK) k)=>rPlace k b _ P d
    cases V:kH k b
    case true =>
     exact oz13x123
    rw[V]at u m;simp only[jr,if_false]at m;by_cases aw:20<=k.length
    case pos =>
     exact oz13x126
    rw[ju aw]at m;by_cases an:y<1\/64<y
    ·have b1:vW (Z y) c=Z (6,c):=jv an;have B:Hid (R=Z (6,c)):=by show _=_;rw[<- m.out,b1]
     clear m b1;rcases an with an | an
     ·go_wp2_with first
      | (go_at_call 26;refine(u _ G).mono ?_;rintro a a2 ⟨⟨W,rfl,q⟩,o⟩;obtain rfl:=o.symm;simp at q)
      | (at_builtin;refine wpList_append_lies _ rfl (.tmp 64) (.tmp 67) 41 rfl (w.heap.size+2) 9 ab (I ⟨#[]⟩) 1 16 underlying41 hi a8 a9 aa rfl oC _ _ _ rfl (g.on.alloc _) (A (wr.heap.size+1) 0 F) 1 1 [I b] rfl rfl (xZ _ _ _ oB) (fA _) oA oz13y129 oA oz13y130 (wr.heap.size+1+1) oB ?_;intro av au l E i D ay;have C:=g.next (yX (Zc #[I b] 9));have f:=C.pushN E i (D.imp id (fun d=>oz13y131));have aC:l.cell? (A wr.heap.size 0 F)=Z (U O 3):=cell_grown i (kK oB _) (fun a=>oz13y132);have aD:l.cell? (A wr.heap.size 1 F)=Z (I b):=cell_grown i (kK oB _) (fun a=>oz13y132);have aE:l.cell? (A wr.heap.size 2 F)=Z (U O num):=cell_grown i (kK oB _) (fun a=>oz13y132);have aF:l.cell? (A wr.heap.size 3 F)=Z (J (Z (A r t F)) 1 S):=cell_grown i (kK oB _) (fun a=>oz13y132);obtain⟨ao,ad,aM,aN⟩:_/\_/\_/\_:=⟨f.r0,f.r1,f.z0,f.z1⟩;have Q:=p.below f.below;have bG:=keep b0 f.below)
      | (go_at_call 33;refine(cD _ _ _ Q oA).mono ?_;rintro a b6 ⟨rfl,aj⟩)
      | go_in
      exact oz13x125
     ·have co:¬y<1:=oA
      go_wp2_with first
      | (go_at_call 26;refine(u _ G).mono ?_;rintro a a2 ⟨⟨W,rfl,q⟩,o⟩;obtain rfl:=o.symm;simp at q)
      | (at_builtin;refine wpList_append_lies _ rfl (.tmp 64) (.tmp 67) 41 rfl (w.heap.size+2) 9 ab (I ⟨#[]⟩) 1 16 underlying41 hi a8 a9 aa rfl oC _ _ _ rfl (g.on.alloc _) (A (wr.heap.size+1) 0 F) 1 1 [I b] rfl rfl (xZ _ _ _ oB) (fA _) oA oz13y129 oA oz13y130 (wr.heap.size+1+1) oB ?_;intro av au l E i D ay;have C:=g.next (yX (Zc #[I b] 9));have f:=C.pushN E i (D.imp id (fun d=>oz13y131));have aC:l.cell? (A wr.heap.size 0 F)=Z (U O 3):=cell_grown i (kK oB _) (fun a=>oz13y132);have aD:l.cell? (A wr.heap.size 1 F)=Z (I b):=cell_grown i (kK oB _) (fun a=>oz13y132);have aE:l.cell? (A wr.heap.size 2 F)=Z (U O num):=cell_grown i (kK oB _) (fun a=>oz13y132);have aF:l.cell? (A wr.heap.size 3 F)=Z (J (Z (A r t F)) 1 S):=cell_grown i (kK oB _) (fun a=>oz13y132);obtain⟨ao,ad,aM,aN⟩:_/\_/\_/\_:=⟨f.r0,f.r1,f.z0,f.z1⟩;have Q:=p.below f.below;have bG:=keep b0 f.below)
      | (go_at_call 33;refine(cD _ _ _ Q oA).mono ?_;rintro a b6 ⟨rfl,aj⟩)
      | go_in
      exact oz13x125
    ·have a7:Hid (zC x (j.drop (n+1)) is (k++[b]) (c+kC (Kid.var b h K (Z y)).tree)=R):=by
      have b1:vW (Z y) c=F:=ju an;have d:=m.out;rw[b1]at d;exact d
     have dj:¬y<1:=fun d=>an (.inl d)
     have co:¬ 64<y:=fun d=>an (.inr d)
     clear m;generalize (Kid.var b h K (Z y)).tree=aH at p a7 M ah am
     go_wp2_with first
      | (go_at_call 26;refine(u _ G).mono ?_;rintro a a2 ⟨⟨W,rfl,q⟩,o⟩;obtain rfl:=o.symm;simp at q)
      | (at_builtin;refine wpList_append_lies _ rfl (.tmp 64) (.tmp 67) 41 rfl (w.heap.size+2) 9 ab (I ⟨#[]⟩) 1 16 underlying41 hi a8 a9 aa rfl oC _ _ _ rfl (g.on.alloc _) (A (wr.heap.size+1) 0 F) 1 1 [I b] rfl rfl (xZ _ _ _ oB) (fA _) oA oz13y129 oA oz13y130 (wr.heap.size+1+1) oB ?_;intro av au l E i D ay;have C:=g.next (yX (Zc #[I b] 9));have f:=C.pushN E i (D.imp id (fun d=>oz13y131));have aC:l.cell? (A wr.heap.size 0 F)=Z (U O 3):=cell_grown i (kK oB _) (fun a=>oz13y132);have aD:l.cell? (A wr.heap.size 1 F)=Z (I b):=cell_grown i (kK oB _) (fun a=>oz13y132);have aE:l.cell? (A wr.heap.size 2 F)=Z (U O num):=cell_grown i (kK oB _) (fun a=>oz13y132);have aF:l.cell? (A wr.heap.size 3 F)=Z (J (Z (A r t F)) 1 S):=cell_grown i (kK oB _) (fun a=>oz13y132);obtain⟨ao,ad,aM,aN⟩:_/\_/\_/\_:=⟨f.r0,f.r1,f.z0,f.z1⟩;have Q:=p.below f.below;have bG:=keep b0 f.below)
      | (go_at_call 33;refine(cD _ _ _ Q oA).mono ?_;rintro a b6 ⟨rfl,aj⟩)
      | go_in
     go_roundw
     case rel=>exact⟨n+1,is,k++[b],c+kC aH,oA,oJ,oJ,M.out,f.next aj,bg,oE,a7.out⟩
     case measure=>simp[intOf];omega
   | proc b h K aO ps ae =>
    rw[aR]at aA aB ac a6 N M am ah p;simp only[Kid.kind,Kid.text,Kid.num]at aA aB ac a6 p;have m:Hid ((if kH k b then Z (5,c)else if 20<=k.length then Z (1,c)else if 5<ps.length then Z (1,c)else match xK [] ps (c+1)with | some a=>Z a | none=>zC x (j.drop (n+1)) is (k++[b]) (c+kC (Kid.proc b h K aO ps ae).tree))=R):=N.out;clear N;generalize ck:2*bI h+bI K+gI aO=num at ac p;obtain⟨z,aZ⟩:∃z,z=(Kid.proc b h K aO ps ae).kids.length:=⟨_,rfl⟩
    rw[<- aZ]at a6 p;have b7:Hid (z=ps.length+1):=by show _=_;rw[aZ];simp[Kid.kids]
    have b0:z<=1000:=by have:=bu j[n] (jH ak);rw[aR,<- aZ]at this;exact this
    clear aZ aR
    obtain⟨r,t,rfl,cc,ai⟩:∃r t,aI=Z (A r t F)/\r<w.heap.size/\kQ (·<w.heap.size) w (ps.map zO++[ae]) r t:=by
     have br:=p;unfold Kid.tree Lies at br;obtain⟨bX,bY,a,_,bh⟩:=br;obtain⟨r,t,c7,af,ai⟩:=bh oB;cases a;exact⟨r,t,c7,af,ai⟩
    clear aQ aW;have g:=s.next (yX (Zc #[U O 4,I b,U O num,J (Z (A r t F)) z S] 25));obtain⟨ap,ar,aU,aV,aL⟩:_/\_/\_/\_/\_:=⟨g.r0,g.r1,g.z0,g.z1,g.q1⟩
    have G:=zbd g.on;have u:=fun P (d:uU P (J aJ k.length aK) k)=>rPlace k b _ P d
    cases V:kH k b
    case true =>
     exact oz13x123
    rw[V]at u m;simp only[jr,if_false]at m;by_cases aw:20<=k.length
    case pos =>
     exact oz13x126
    rw[ju aw]at m;by_cases aP:5<ps.length
    ·have B:Hid (R=Z (1,c)):=by show _=_;rw[<- m.out,jv aP]
     have cp:5<wrap64 ((z:Int) - 1):=by have:=b7.out;unfold wrap64;omega
     have o:5<(z:Int) - 1:=oz13y133;clear m
     go_wp2_with first
      | (go_at_call 26;refine(u _ G).mono ?_;rintro a a2 ⟨⟨W,rfl,q⟩,o⟩;obtain rfl:=o.symm;simp at q)
      | (at_builtin;refine wpList_append_lies _ rfl (.tmp 64) (.tmp 67) 41 rfl (w.heap.size+2) 9 ab (I ⟨#[]⟩) 1 16 underlying41 hi a8 a9 aa rfl oC _ _ _ rfl (g.on.alloc _) (A (wr.heap.size+1) 0 F) 1 1 [I b] rfl rfl (xZ _ _ _ oB) (fA _) oA oz13y129 oA oz13y130 (wr.heap.size+1+1) oB ?_;intro av au l E i D ay;have C:=g.next (yX (Zc #[I b] 9));have f:=C.pushN E i (D.imp id (fun d=>oz13y131));have aC:l.cell? (A wr.heap.size 0 F)=Z (U O 4):=cell_grown i (kK oB _) (fun a=>oz13y132);have aD:l.cell? (A wr.heap.size 1 F)=Z (I b):=cell_grown i (kK oB _) (fun a=>oz13y132);have aE:l.cell? (A wr.heap.size 2 F)=Z (U O num):=cell_grown i (kK oB _) (fun a=>oz13y132);have aF:l.cell? (A wr.heap.size 3 F)=Z (J (Z (A r t F)) z S):=cell_grown i (kK oB _) (fun a=>oz13y132);obtain⟨ao,ad,aM,aN⟩:_/\_/\_/\_:=⟨f.r0,f.r1,f.z0,f.z1⟩;have Q:=p.below f.below)
      | go_in
     refine jT (v:=Za #[U O 1,U O c]) (by simp[results,results13,go_sem,ao,ad]) rfl ⟨za1 (w:=w) R B.out,cU f.below _ _⟩
    ·rw[ju aP]at m;have cp:¬ 5<wrap64 ((z:Int) - 1):=by have:=b7.out;unfold wrap64;omega
     have o:¬ 5<(z:Int) - 1:=oz13y133
     go_wp2_with first
      | (go_at_call 26;refine(u _ G).mono ?_;rintro a a2 ⟨⟨W,rfl,q⟩,o⟩;obtain rfl:=o.symm;simp at q)
      | (at_builtin;refine wpList_append_lies _ rfl (.tmp 64) (.tmp 67) 41 rfl (w.heap.size+2) 9 ab (I ⟨#[]⟩) 1 16 underlying41 hi a8 a9 aa rfl oC _ _ _ rfl (g.on.alloc _) (A (wr.heap.size+1) 0 F) 1 1 [I b] rfl rfl (xZ _ _ _ oB) (fA _) oA oz13y129 oA oz13y130 (wr.heap.size+1+1) oB ?_;intro av au l E i D ay;have C:=g.next (yX (Zc #[I b] 9));have f:=C.pushN E i (D.imp id (fun d=>oz13y131));have aC:l.cell? (A wr.heap.size 0 F)=Z (U O 4):=cell_grown i (kK oB _) (fun a=>oz13y132);have aD:l.cell? (A wr.heap.size 1 F)=Z (I b):=cell_grown i (kK oB _) (fun a=>oz13y132);have aE:l.cell? (A wr.heap.size 2 F)=Z (U O num):=cell_grown i (kK oB _) (fun a=>oz13y132);have aF:l.cell? (A wr.heap.size 3 F)=Z (J (Z (A r t F)) z S):=cell_grown i (kK oB _) (fun a=>oz13y132);obtain⟨ao,ad,aM,aN⟩:_/\_/\_/\_:=⟨f.r0,f.r1,f.z0,f.z1⟩;have Q:=p.below f.below)
      | go_in
     have HP:Hid (xK ((ps.take 0).map (·.1)) (ps.drop 0) (c+1+(0:Nat))=xK [] ps (c+1)):=by show xK [] ps (c+1+0)=_;rw[Int.add_zero]
     go_loopw [8,9] (fun cy aS bH=>∃e:Nat,e<=ps.length/\aS=U O e/\bH.ownsRow l.heap.size 9 1 cy ((ps.take e).map (·.1)).length (yU ((ps.take e).map (·.1)))/\Below l.heap.size l bH/\Hid (xK ((ps.take e).map (·.1)) (ps.drop e) (c+1+(e:Nat))=xK [] ps (c+1))) (fun _ aS _=>ps.length - (intOf aS).toNat)
     case atStart=>exact⟨0,jz _,rfl,World.ownsRow_nil _ _ _ _,Below.refl _ _,HP⟩
     case round =>
      clear HP;obtain⟨e,df,rfl,az,T,HP⟩:=hrel;have ag:=f.next T;have dl:=keep aC T;have dm:=keep aD T;have dn:=keep aE T;have dp:=keep aF T;obtain⟨bN,bP,bo,d5⟩:_/\_/\_/\_:=⟨ag.r0,ag.r1,ag.z0,ag.z1⟩
      obtain⟨ba,bc,rfl⟩:∃ba bc,_=Value.slice ba ((ps.take e).map (·.1)).length bc:=by obtain⟨a3,a5,a,_⟩:=lexs.own_shape az;exact⟨a3,a5,a⟩
      have aX:((ps.take e).map (·.1)).length=e:=by rw[List.length_map,List.length_take];omega
      rw[aX]at az |-;by_cases bi:e<ps.length
      ·obtain⟨cr,ct,cu⟩:=zi6 cc ai ag.below bi;have de:e<z:=oz13y133;have cg:e+1<z:=oz13y133;have bq:ps.drop e=ps[e] :: ps.drop (e+1):=List.drop_eq_getElem_cons bi;have bj:(ps.take (e+1)).map (·.1)=(ps.take e).map (·.1)++[ps[e].1]:=by rw[List.take_add_one,List.map_append,List.getElem?_eq_getElem bi];rfl
       have aG:Hid ((if kH ((ps.take e).map (·.1)) ps[e].1 then Z (5,c+1+(e:Nat))else xK ((ps.take (e+1)).map (·.1)) (ps.drop (e+1)) (c+1+(e:Nat)+1))=xK [] ps (c+1)):=by
        show _=_;rw[<- HP.out,bq,bj];rfl
       have b8:Hid ((ps.take (e+1)).map (·.1)=(ps.take e).map (·.1)++[ps[e].1]):=bj
       have bf:uU wr (J ba e bc) ((ps.take e).map (·.1)):=zbd (by rw[aX];exact az)
       have ax:=rPlace ((ps.take e).map (·.1)) ps[e].1 _ wr bf
       clear bq bj HP cr cu;generalize ps[e].1=bR at aG b8 ct ax;generalize (ps.take e).map (·.1)=L at aG b8 az ax bf aX
       clear bf;have dh:e<=1000:=oA;have dk:wrap64 (c+1+(e:Int))=c+1+(e:Int):=by unfold wrap64;omega
       cases aY:kH L bR
       ·rw[aY]at ax
        have bS:Hid (xK ((ps.take (e+1)).map (·.1)) (ps.drop (e+1)) (c+1+((e+1:Nat):Int))=xK [] ps (c+1)):=by
         show _=_;rw[<- aG.out,aY];have a:c+1+((e+1:Nat):Int)=c+1+(e:Nat)+1:=oA;rw[a];rfl
        clear aG
        go_wp2_with first
         | (go_at_call 26;refine ax.mono ?_;rintro a a2 ⟨⟨W,rfl,q⟩,o⟩;obtain rfl:=o.symm;simp at q)
         | (at_builtin;refine wpList_append_own _ rfl (.tmp 128) (.tmp 135) 41 rfl l.heap.size 9 ab (I ⟨#[]⟩) 1 16 underlying41 hi a8 a9 aa rfl oC _ _ _ rfl (az.alloc _) (A wr.heap.size 0 F) 1 1 [I bR] rfl rfl (xZ _ _ _ oB) (fA _) oz13y129 oA (by have:=T.size;simp;omega) ?_;intro ds dt cm cd di)
         | go_in
        go_roundw
        case rel =>
         refine⟨e+1,oA,oJ,?_,?_,bS.out⟩;·rw[b8.out,jb,zcj,aX];exact cm
         ·exact(T.alloc T.size _).grown cd (by have:=T.size;simp;omega) (fun ae c8=>(az.lt _ c8).1)
        case measure=>simp[intOf];omega
       ·rw[aY]at ax
        have B:Hid (R=Z (5,c+1+(e:Int))):=by
         show _=_;have d:=aG.out;rw[aY]at d;have af:=m.out;rw[<- d]at af;exact af.symm
        go_wp2_with (go_at_call 26;refine ax.mono ?_;rintro a a2 ⟨⟨W,rfl,q⟩,o⟩;obtain rfl:=o.symm;simp at q);refine jT (v:=Za #[U O 5,U O (c+1+(e:Int))]) (by simp[results,results13,go_sem,bN,bP]) rfl ⟨za1 (w:=w) R B.out,cU ag.below _ _⟩
      ·have ch:e=ps.length:=oA
       have a7:Hid (zC x (j.drop (n+1)) is (k++[b]) (c+kC (Kid.proc b h K aO ps ae).tree)=R):=by
        have d:=HP.out;rw[ch,List.drop_length]at d;have bo:xK [] ps (c+1)=F:=d.symm;have af:=m.out;rw[bo]at af;exact af
       have cg:¬(e:Int)+1<(z:Int):=oz13y133;have bs:=Q.below T;clear HP m ai;generalize (Kid.proc b h K aO ps ae).tree=aH at bs a7 M ah am;clear Q p;go_wp2_with (go_at_call 33;refine(cD _ _ _ bs oA).mono ?_;rintro a b6 ⟨rfl,aj⟩);go_roundw
       case rel=>exact⟨n+1,is,k++[b],c+kC aH,oA,oJ,oJ,M.out,ag.next aj,bg,oE,a7.out⟩
       case measure=>simp[intOf];omega
  ·have ce:j.drop n=[]:=List.drop_eq_nil_of_le oA;have B:Hid (R=F):=by show _=_;rw[<- N.out,ce];rfl
   obtain⟨ap,ar,aU,aV⟩:_/\_/\_/\_:=⟨s.r0,s.r1,s.z0,s.z1⟩
   go_wp2;refine jT (v:=Za #[U O 0,U O 0]) (by simp[results,results13,go_sem,ap,ar]) rfl ⟨by rw[B.out];rfl,cU s.below _ _⟩
end face
namespace face
open Go.RowKit
open lexs (Tok qB zF uT vS)
open syn
def rv (k:Nat):ByteArray:=zK.getD k empty
variable {a:ByteArray}
theorem any_hit (b:ByteArray) (a:Nat) (d:a<14) (c:eqS (rv a) b=H):(zK.any fun e=>eqS e b)=H:=by
 rw[List.any_eq_true];refine⟨rv a,?_,c⟩;unfold rv;rw[List.getD_eq_getElem?_getD,List.getElem?_eq_getElem (show a<zK.length from d)];exact jH _
theorem any_none (c:ByteArray) (e:∀b,b<14->eqS (rv b) c=X):(zK.any fun d=>eqS d c)=X:=by
 rw[List.any_eq_false];intro d f;obtain⟨g,a,rfl⟩:=List.mem_iff_getElem.1 f;have:=e g a;unfold rv at this;rw[List.getD_eq_getElem?_getD,List.getElem?_eq_getElem a]at this;simpa using this
theorem ret_bool {a b:Bool} (c:a=b):Ending.returned (Y a)=.returned (Y b):=by rw[c]
theorem isName_short (b:¬(1<=a.size/\a.size<=16)):kE a=X:=by unfold kE;rw[decide_eq_false b];rfl
theorem isName_letter (c:0<a.size) (b:qB (a[0].toNat:Int)=X):kE a=X:=by
 unfold kE;rw[lexs.headL a c,b];simp
theorem isName_inside (b:Nat) (e:b<a.size) (d:zF (a[b].toNat:Int)=X):kE a=X:=by
 have:a.data.toList.all (fun c=>zF (c.toNat:Int))=X:=by
  rw[List.all_eq_false];exact⟨a[b],by rw[<- lexs.getL a b e];exact jH _,by simp[d]⟩
 unfold kE;rw[this];simp
theorem isName_rest (d:1<=a.size/\a.size<=16) (h:qB (a[0].toNat:Int)=H) (f:∀b (j:b<a.size),zF (a[b].toNat:Int)=H):kE a=!(zK.any fun i=>eqS i a):=by
 have:a.data.toList.all (fun c=>zF (c.toNat:Int))=H:=by
  rw[List.all_eq_true];intro c g;obtain⟨b,e,rfl⟩:=List.mem_iff_getElem.1 g;rw[lexs.len_L]at e;exact f b e
 unfold kE;rw[this,lexs.headL a d.1,h,decide_eq_true d];simp
set_option maxRecDepth 100000 in
theorem rName (c:ByteArray) (w:Zw) : Calls prog 24 #[I c] w fun k l=>k=.returned (Y (kE c))/\Below w.heap.size w l:=by
 by_cases s:1<=c.size
 case neg =>
  rw[isName_short (fun d=>s d.1)];have N:(c.size:Int)<1:=oA;go_enter func24,ntmps24;go_wp2;go_ret;exact⟨rfl,Below.refl _ _⟩
 by_cases v:c.size<=16
 case neg =>
  rw[isName_short (fun d=>v d.2)];exact oz13x124
 cases r:qB (c[0].toNat:Int);·rw[isName_letter s r];exact oz13x124
 ·obtain⟨e,o⟩:∃e,e=kE c:=⟨_,rfl⟩
  rw[<- o];have n:Hid (e=kE c):=o;clear o;go_enter func24,ntmps24;go_wp2_with (go_at_call 53;refine(uT _ _).mono ?_;rintro k l ⟨rfl,f⟩;obtain rfl:=f.symm);go_loop [3] (fun g=>∃a:Nat,a<=c.size/\g=U O a/\Hid (∀b (d:b<c.size),b<a->zF (c[b].toNat:Int)=H)) (fun g=>c.size - (intOf g).toNat)
  case atStart=>exact⟨0,jz _,rfl,fun b _ d=>oA⟩
  case round =>
   obtain⟨a,m,rfl,h⟩:=hrel;by_cases K:a<c.size
   ·cases z:zF (c[a].toNat:Int);·have j:Hid (e=X):=n.out.trans (isName_inside a K z);go_wp2_with (go_at_call 54;refine(vS _ _).mono ?_;rintro k l ⟨rfl,f⟩;obtain rfl:=f.symm);go_ret;exact⟨ret_bool j.out.symm,Below.refl _ _⟩
    ·go_wp2_with (go_at_call 54;refine(vS _ _).mono ?_;rintro k l ⟨rfl,f⟩;obtain rfl:=f.symm)
     go_round
     case rel=>exact⟨a+1,oA,oJ,fun b d L=>by
      rcases jL b a with x | x
      ·exact h.out b d x
      ·have:b=a:=oA;subst this
       exact z⟩
     case measure=>simp[intOf];omega
   ·have u:Hid (e=!(zK.any fun t=>eqS t c)):=n.out.trans (isName_rest ⟨s,v⟩ r (fun b d=>h.out b d oA));clear h n r;go_wp2_with go_in;go_loopw [5] (fun g wr=>∃b:Nat,b<=14/\g=U O b/\(∀a,a<14->wr.cell? (A w.heap.size a F)=Z (I (rv a)))/\Below w.heap.size w wr/\Hid (∀a,a<b->eqS (rv a) c=X)) (fun g _=>14 - (intOf g).toNat)
    case atStart =>
     refine⟨0,oA,rfl,?_,bal _,fun a m=>oA⟩;intro a m;have G:a=0\/a=1\/a=2\/a=3\/a=4\/a=5\/a=6\/a=7\/a=8\/a=9\/a=10\/a=11\/a=12\/a=13:=oA;rcases G with rfl | rfl | rfl | rfl | rfl | rfl | rfl | rfl | rfl | rfl | rfl | rfl | rfl | rfl<;>simp<;>rfl
    case round =>
     obtain⟨b,M,rfl,q,p,h⟩:=hrel;by_cases B:b<14
     ·have y:=q b B;have D:Hid (∀a,a<14->wr.cell? (A w.heap.size a F)=Z (I (rv a))):=q;clear q;cases i:eqS (rv b) c
      ·have E:Hid (eqS (rv b) c=X):=i;unfold eqS at i;generalize rv b=t at y i;go_wp2;go_roundw
       case rel=>exact⟨b+1,oA,oJ,D.out,p,fun a m=>by
        rcases jL a b with d | d
        ·exact h.out a d
        ·have:a=b:=oA;subst this
         exact E.out⟩
       case measure=>simp[intOf];omega
      ·have j:Hid (e=X):=by
        show _=_;rw[u.out,any_hit c b B i];rfl
       unfold eqS at i;generalize rv b=t at y i;go_wp2;go_ret;exact⟨ret_bool j.out.symm,p⟩
     ·have j:Hid (e=H):=by
       show _=_;rw[u.out,any_none c (fun a m=>h.out a oA)];rfl
      go_wp2;go_ret;exact⟨ret_bool j.out.symm,p⟩
end face
namespace face
open Go.RowKit
open syn (kE eqS)
/-! in the reference's order: plain facts -/
def gH (v:VarD):Bool:=v.pub&&(qM v.label&&(decide (0<=v.size)&&decide (v.size<=64)))
def zg5 (p:ProcD):Bool:=p.pub&&(decide (p.params.length<=5)&&(qM p.writes&&(qM p.given&&(p.gives||p.given==0))))
def uM (p:ProcD):Bool:=zg5 p&&p.params.all qM
def vU:List ByteArray->List ByteArray->Bool
 | _,[]=>H
 | seen,x :: r=>(kE x&&!kH seen x)&&vU (seen++[x]) r
theorem zip:∀(b a:List ByteArray),vU a b=(b.all kE&&apartB a b)
 | [],_=>rfl
 | x :: r,a=>by
  show((kE x&&!kH a x)&&vU (a++[x]) r)=((kE x&&r.all kE)&&(!kH a x&&apartB (a++[x]) r))
  rw[zip r (a++[x])];cases kE x<;>cases kH a x<;>cases r.all kE<;>rfl
theorem ziq:∀ {c seen:List ByteArray} (a:Nat) (b:a<c.length),(kE c[a]&&!kH (seen++c.take a) c[a])=X->vU seen c=X
 | [],_,_,b,_=>by simp at b
 | x :: r,seen,0,b,hp=>by
  show((kE x&&!kH seen x)&&vU (seen++[x]) r)=X;simp only[jI,List.take_zero,List.append_nil]at hp
  rw[hp];rfl
 | x :: r,seen,a+1,b,hp=>by
  show((kE x&&!kH seen x)&&vU (seen++[x]) r)=X;simp only[List.getElem_cons_succ,List.take_succ_cons]at hp;rw[ziq (seen:=seen++[x]) a (by simpa using b) (by simpa using hp),Bool.and_false]
theorem zh3:∀ {c b:List ByteArray},(∀a (e:a<c.length),(kE c[a]&&!kH (b++c.take a) c[a])=H)->vU b c=H
 | [],_,_=>rfl
 | x :: r,b,hp=>by
  show((kE x&&!kH b x)&&vU (b++[x]) r)=H;have d:(kE x&&!kH (b++[]) x)=H:=hp 0 oB;rw[List.append_nil]at d
  rw[d,zh3 (fun a e=>by
   have:=hp (a+1) oE
   simpa using this)]
  rfl
theorem zfv {α:Type} (d c r:α->Bool) (e:∀b,d b=(c b&&r b)):∀a:List α,a.all d=(a.all c&&a.all r)
 | []=>rfl
 | b :: a=>by
  rw[List.all_cons,List.all_cons,List.all_cons,e,zfv d c r e a];cases c b<;>cases r b<;>cases a.all c<;>rfl
theorem zv6 (a:FaceD):vB a=(kE a.module&&(decide (a.vars.length+a.procs.length<=20)&&(a.vars.all gH&&(a.procs.all uM&&vU [] (a.vars.map (·.name)++a.procs.map (·.name)))))):=by
 unfold vB
 rw[zip,List.all_append,List.all_map,List.all_map,zfv uR (kE ∘ (·.name)) gH (fun v=>rfl),zfv vO (kE ∘ (·.name)) uM (fun b=>by
  unfold vO uM zg5;show _=(kE b.name&&_)
  cases kE b.name<;>cases b.pub<;>cases decide (b.params.length<=5)<;>cases b.params.all qM<;>cases qM b.writes<;>cases qM b.given<;>cases(b.gives||b.given==0)<;>rfl)]
 show _=_;unfold zf8;cases kE a.module<;>cases decide (a.vars.length+a.procs.length<=20)<;>cases a.vars.all (kE ∘ (·.name))<;>cases a.vars.all gH<;>cases a.procs.all (kE ∘ (·.name))<;>cases a.procs.all uM<;>rfl
/-! contracts -/
theorem dM (a:Int) (w:Zw):Calls prog 25 #[U O a] w fun b c=>b=.returned (Y (qM a))/\c=w:=by
 unfold qM;cases d:(a==0)
 ·cases e:(a==1)
  all_goals
   go_enter func25,ntmps25;go_wp2;go_ret;exact⟨rfl,rfl⟩
 ·go_enter func25,ntmps25;go_wp2;go_ret;exact⟨rfl,rfl⟩
end face
end Go.Proofs.YtjkcecppnmlhjaaGreatDoor
