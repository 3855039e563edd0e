/- What the reference's Same answers of two nodes of one tree: a contract. -/
import Derived.Test.YtjkcecppnmlhjaaGreatDoorNQr
import Derived.Test.YtjkcecppnmlhjaaGreatDoorNQ05
import Derived.Laws.EntriesVeiled
open Go.Proofs.Tryz
open Go.Value renaming int → U, string → I, slice → J, bool → Y, agg → Za, pointer → Zp
open Go.IntKind renaming i64 → O
open Go.Obj renaming cells → Zc
open Go.Addr renaming mk → A
open Option renaming none → F, some → Z
open Bool renaming false → X
open Go renaming World → Zw, Value → Zv
set_option maxHeartbeats 4000000
set_option linter.unusedVariables false
set_option linter.unusedSimpArgs false
set_option maxRecDepth 100000
namespace Go.Proofs.YtjkcecppnmlhjaaGreatDoor
theorem oz06x60 {p:Prop} (e:p:=by
 go_roundw
 case rel=>exact⟨b+1,oA,oJ,q.out,below_drewN j _,fun a n=>by
  rcases jL a b with e | e
  ·exact h.out a e
  ·have:a=b:=oA
   rw[this];exact f⟩
 case measure=>simp[intOf];omega):p:=e
theorem oz06y70 {a:Prop} (i:a:=by
 rw[D.out,ao.out];exact kG.fin av ((ad.trans n).trans h) a6 (jE _) (show w.heap.size<q.heap.size by omega) ((b2.fr oA n).fr oA h)):a:=i
theorem oz06y69 {a:Prop} (i:a:=by
 simp[results,results84,go_sem,a8,a9,aa,ab,empty]):a:=i
theorem oz06y68 {a:Prop} (i:a:=by
 unfold zG;rw[zH oC c,ju oC]):a:=i
theorem oz06x58 {a:Prop} (i:a:=by
 go_wp2_with (fail);refine(yQ ar ⟨#[112,114,111,99]⟩ oC S rfl).mono ?_;rintro f b7 ⟨rfl,ae,m⟩;have b8:=m.size;go_wp2_with (fail);refine(ya1 bi bj oC ae b1).mono ?_;rintro f bR (⟨aK,rfl,ap⟩|⟨aK,bP,rfl,b0,bh,ap⟩);·go_wp2;exact⟨rfl,kG.lost rfl aK ((((Fr.al _ _).trans E).trans m).trans ap)⟩
 obtain⟨bm,bD,bn,_,rfl,b9,bo,ba,rfl⟩:=b0.shape;obtain⟨a8,a9,aa,ab,aw,ax,ay,az⟩:=(au.fr m oA).fr ap oA;go_wp2
 exact jT (v:=Za #[U O bm,I bD,U O bn,J b9 bo ba]) (by simp[results,results84,go_sem,a8,a9,aa,ab]) rfl (kG.hand av (((Fr.al _ _).trans E).trans m) oA aK b0 bh ap)):a:=i
theorem oz06x61 {a:Prop} (i:a:=by
 have C:kB ts ⟨#[93]⟩ (number ts d.next).2=(number ts d.next).2:=qE oC c;rw[C]
 exact qE oC c):a:=i
theorem oz06x62 {a:Prop} (i:a:=by
 exact⟨rfl,kG.lost (by simp only[D.out];exact aW.out aj) aj ((V.trans ((Fr.al _ _).trans g)).trans z)⟩):a:=i
theorem oz06x64 {a:Prop} (i:a:=by
 exact⟨rfl,kG.lost (a5.out ai) ai (((((Fr.al _ _).trans E).trans m).trans K).trans P)⟩):a:=i
theorem oz06x65 {a:Prop} (i:a:=by
 exact⟨rfl,kG.lost (by simp only[D.out]) Q ((V.trans ((Fr.al _ _).trans g)).trans h)⟩):a:=i
theorem oz06x66 {a:Prop} (i:a:=by
 exact⟨rfl,kG.lost (by simp only[D.out];exact qE oC ak) ak (ad.trans n)⟩):a:=i
theorem oz06x67 {a:Prop} (i:a:=by
 exact⟨rfl,kG.lost (an.out ah) ah ((((Fr.al _ _).trans E).trans m).trans K)⟩):a:=i
theorem oz06x63 {V:Prop} (C:V:=by
 go_wp2;go_ret
 exact⟨zyt t.out,u⟩):V:=C
theorem oz06y72 {p:Prop} (a6:p:=by
 have:=(aN _ e).1;omega):p:=a6
theorem oz06y71 {p:Prop} (a6:p:=by
 rcases b2 with e | e;exact .inl e.symm;exact .inr (by rw[e];rfl)):p:=a6
theorem oz06x59 {j:Prop} (o:j:=by
 simp only[ntmps46,List.size_toArray,jd,je,Nat.reduceAdd,Nat.reduceSub,Array.replicate_succ,Array.replicate_zero,List.push_toArray,List.append_toArray,js,jK,Act.put,List.setIfInBounds_toArray,List.set_cons_succ,List.set_cons_zero];refine wpS_of_wp (wp_mono (Q:=fun b i w'=>b=.normal/\i.defers=[]/\w'.cell? (A a 0 F)=Z (U O 2)/\w'.cell? (A a 1 F)=Z (U O at_)/\Fr a w w') ?_ ?_);·go_wp2;exact(((Fr.refl _ _).set _ _).set _ _).alloc _
 ·rintro b i w' ⟨rfl,f,q,r,s⟩
  exact⟨f,_,rfl,.tuple #[],by simp[results,results46],rfl,rfl,q,r,s⟩):j:=o
theorem oz06y73 {j:Prop} (p:j:=by
 rw[<- jO w (Zc #[U O e,I h,U O f,J b g c] 25)];simp):j:=p
namespace syn
open Go.RowKit
open lexs (Tok Fine own_shape)
section
variable {w w' w0:Zw} {r G B:Nat} {ts:List Tok} {s:St}
def zac (ts:List Tok) (_:Nat) (s:St):Option (Tree × St):=Z (.node 5 (name ts (label ts s).2).1 (label ts s).1 [],(name ts (label ts s).2).2)
variable {a:Nat}
theorem zra :∀ {d:List Tree} {s:St} {c:List Tree × St},yB ts a d s=Z c->uL ts (zac ts) a d s=Z (c.1,kB ts ⟨#[41]⟩ c.2):=by
 induction a with
 | zero=>intro d s c b;unfold yB at b;simp at b
 | succ a ih =>
  intro d s c b;unfold yB at b;unfold uL;simp only[zac,jf];split at b;·rename_i e;rw[jv e];exact ih b
  ·rename_i e;rw[ju e];simp only[jh]at b;rw[<- b]
theorem zru {d:List Tree × St} (b:params ts a s=Z d):cJ ts (zac ts) a s=Z (d.1,kB ts ⟨#[41]⟩ d.2):=by
 unfold params at b;unfold cJ;cases c:eqS (txt ts s) ⟨#[41]⟩;·rw[c]at b;simp only[jr,if_false]at b |-;exact zra b
 ·rw[c]at b;simp only[if_true,jh]at b |-;rw[<- b,cX c]
theorem zvx (e:Nat) (s:St) (c:Tree × St) (b:s.bad=true) (a:zac ts e s=Z c):c.2=s:=by
 unfold zac at a;simp only[jh]at a;rw[<- a];have d:=bC (ts:=ts) b;show(name ts (label ts s).2).2=s;rw[d];exact gQ b
theorem params_st {d:List Tree × St} (c:s.bad=true) (b:params ts a s=Z d):d.2=s:=by
 unfold params at b;rw[zH oC c,ju oC]at b
 cases a with
 | zero=>unfold yB at b;simp at b
 | succ a =>
  unfold yB at b;have e:=bC (ts:=ts) c;have f:=gQ (ts:=ts) c;rw[e,f,zH oC c,ju oC]at b;simp only[jh]at b;rw[<- b]
theorem zvr (a:s.bad=true):zM ts s=s:=by
 unfold zM;have b:=bC (ts:=ts) a;rw[b,zH oC a,ju oC]
def procF (ts:List Tok) (f:Nat) (n:Int) (s:St):Option (Tree × St) :=
 (params ts f (kB ts ⟨#[40]⟩ (name ts s).2)).bind fun p=>(qA ts f (zM ts (kB ts ⟨#[41]⟩ p.2))).bind fun b=>Z (.node 4 (name ts s).1 (yH ts n (kB ts ⟨#[41]⟩ p.2)) (p.1++[b.1]),b.2)
theorem KO.rebase {e:Zw} {d:Zv} {c:List Tree} (a:KO e B r G ts w s d c) (b:Fr r w0 e) (f:r<w0.heap.size):KO w0 B r G ts w s d c :=
 ⟨a.ld,f,jp b.size a.b0,b.trans a.fr,a.kids⟩
theorem ya1 (bY:a<=100000) (b6:kV r G ts 125 (qA ts a)) {c:Int} (dr:0<=c/\c<=2) (a9:Ld w r G ts s) {ad:Tree × St} (K:procF ts a c s=Z ad) : Calls prog 99 #[Zp (Z (A r 0 F)),U O c] w (kG w r G ts ad):=by
 have d0:=kc25;have dq:∀(aK:Fn) (first R:Array Zv) (w:Zw),(Instr.makeFunc aK first R).run prog w=.ok (.func aK first R) w:=fun _ _ _ _=>rfl
 have b2:=a9.lt;obtain⟨ce,hi,cb,cc,cd⟩:=info_parts uD;have bg:=Box4.new w (U O 0) (I empty) (U O 0) (J F 0 0) 25;unfold procF at K;obtain⟨m,aF,aM⟩:=qQ K;obtain⟨g,x,aN⟩:=qQ aM;simp only[jh]at aN;subst aN;clear K aM;have c6:=zru aF
 have bb:Hid ((label ts (kB ts ⟨#[41]⟩ m.2)).2.bad=true->g.2=(label ts (kB ts ⟨#[41]⟩ m.2)).2):=fun j=>by
  have D:zM ts (kB ts ⟨#[41]⟩ m.2)=(label ts (kB ts ⟨#[41]⟩ m.2)).2:=by unfold zM;rw[zH oC j,ju oC]
  rw[D]at x;exact(fM ts a).bk _ _ j x
 have aJ:Hid ((kB ts ⟨#[41]⟩ m.2).bad=true->g.2=kB ts ⟨#[41]⟩ m.2):=fun j=>by
  rw[zvr j]at x;exact(fM ts a).bk _ _ j x
 have aI:Hid ((kB ts ⟨#[40]⟩ (name ts s).2).bad=true->g.2=kB ts ⟨#[40]⟩ (name ts s).2):=fun j=>by
  have D:=params_st j aF;have ah:kB ts ⟨#[41]⟩ m.2=kB ts ⟨#[40]⟩ (name ts s).2:=by rw[D];exact qE oC j
  rw[aJ.out (by rw[ah];exact j),ah]
 have ba:Hid ((name ts s).2.bad=true->g.2=(name ts s).2):=fun j=>by
  have D:kB ts ⟨#[40]⟩ (name ts s).2=(name ts s).2:=qE oC j;rw[aI.out (by rw[D];exact j),D]
 have bv:=gV (a9.alloc (Zc #[U O 0,I empty,U O 0,J F 0 0] 25));have ca:m.1.length<=100001->True:=fun _=>trivial
 generalize name ts s=nb at *;obtain⟨aH,e1⟩:=nb;simp only at *;generalize kB ts ⟨#[41]⟩ m.2=f at *;obtain⟨k,ps⟩:=m;simp only at *;clear ca aF;go_enter func99,ntmps99;go_wp2_with (fail);refine bv.mono ?_;rintro h i (⟨au,rfl,L⟩|⟨au,rfl,bo,L⟩);·go_wp2;exact⟨rfl,kG.lost (ba.out au) au ((Fr.al _ _).trans L)⟩
 go_wp2_with (fail);refine(uC (bo.alloc _) ⟨#[40]⟩ oC oB).mono ?_;rintro h C ⟨ej,⟨aw,rfl,P⟩|⟨aw,rfl,bp,P⟩⟩;·go_wp2;exact⟨rfl,kG.lost (aI.out aw) aw (((Fr.al _ _).trans L).trans ((Fr.al _ _).trans P))⟩
 have cz:=L.size;have cA:=P.size;simp only[jO]at cz cA;have aO:Fr r w C:=((Fr.al _ _).trans L).trans ((Fr.al _ _).trans P);have bP:=(Box4.new i (U O 4) (I aH) (U O 0) (J F 0 0) 25).fr P oA;have bz:=((bg.fr L oA).alloc (Zc #[U O 4,I aH,U O 0,J F 0 0] 25)).fr P oA;go_wp2_with (fail)
 refine(zqk oC (f:=a) (fun {z} aL {w s ad} a9 K=>by
  unfold zac at K;simp only[jh]at K;rw[<- K]
  exact zz1 a9) zvx bY bp c6).mono ?_
 rintro h ec (⟨ax,rfl,a7⟩|⟨ax,dn,e0,rfl,b⟩);·go_wp2;exact⟨rfl,kG.lost (aJ.out ax) ax (aO.trans a7)⟩
 obtain⟨p,q,rfl⟩:=b.kids.shape;have a7:=b.fr;have aX:=bP.fr a7 oA;have bD:=bz.fr a7 oA;have ak:=(b.rebase aO b2).set (N:=i.heap.size) oA oA 3 (J p k.length q);have bR:=aX.set3 (J p k.length q);have bE:=bD.other (M:=i.heap.size) (o:=3) oA (J p k.length q);have dj:=fC ts f;obtain⟨cp,cq,cr,ct,e2,e3,e4,e5⟩:=id aX;go_wp2_with (fail);refine(dK ak.ld).mono ?_;rintro h ee (⟨aB,rfl,E⟩|⟨aB,rfl,bu,E⟩);·go_wp2;exact⟨rfl,kG.lost (bb.out aB) aB (ak.fr.trans E)⟩
 have aR:=ak.step bu E;have ay:=bR.fr E oA;have aV:=bE.fr E oA;obtain⟨ef,eg,eh,ei,e7,e8,e9,ea⟩:=id ay;cases B:eqS (txt ts (label ts f).2) ⟨#[103,105,118,101,115]⟩
 case' false =>
  have ai:zM ts f=(label ts f).2:=by unfold zM;rw[B,ju oC]
  have a5:Hid (yH ts c f=(label ts f).1+c):=by show _=_;unfold yH;rw[B,ju oC,Int.add_comm]
  rw[ai]at x;generalize label ts f=aG at *;obtain⟨e,sl⟩:=aG;simp only at *;have T:=aR.set (N:=i.heap.size) oA oA 2 (U O (e+c));have az:=ay.set2 (U O (e+c));have ar:=aV.other (M:=i.heap.size) (o:=2) oA (U O (e+c));go_wp2_with (fail);refine(yM T.ld ⟨#[103,105,118,101,115]⟩ oC B oB).mono ?_;rintro h n ⟨rfl,aa,l⟩;have u:=T.step aa l;have ab:=az.fr l oA;have ap:=ar.fr l oA;have aj:Hid (e+c=yH ts c f):=a5.out.symm;have ae:C.heap.size<=n.heap.size:=by have be:=b.fr.size;have af:=E.size;have ag:=l.size;simp only[jQ]at af ag;omega
  generalize e+c=num at *
 case' true =>
  have ai:zM ts f=(label ts (label ts f).2.next).2:=by unfold zM;rw[B,jv rfl]
  have a5:Hid (yH ts c f=(label ts f).1+c+4+4*(label ts (label ts f).2.next).1):=by show _=_;unfold yH;rw[B,jv rfl,Int.add_comm c]
  rw[ai]at x;have dk:=fC ts (label ts f).2.next;have bc:Hid ((label ts (label ts f).2.next).2.bad=true->g.2=(label ts (label ts f).2.next).2):=fun j=>(fM ts a).bk _ _ j x
  have br:=fun (w:Zw) (aL:Ld w r G ts (label ts f).2.next)=>dK aL
  generalize label ts (label ts f).2.next=cj at *;obtain⟨b7,e6⟩:=cj;generalize label ts f=aG at *;obtain⟨e,sl⟩:=aG;simp only at *;have T:=aR.set (N:=i.heap.size) oA oA 2 (U O (e+c));have az:=ay.set2 (U O (e+c));have ar:=aV.other (M:=i.heap.size) (o:=2) oA (U O (e+c));go_wp2_with (fail);refine(yQ T.ld ⟨#[103,105,118,101,115]⟩ oC B oB).mono ?_;rintro h ed ⟨rfl,bs,a8⟩;have bn:=T.step bs a8;have aY:=az.fr a8 oA;have bG:=ar.fr a8 oA;obtain⟨db,dd,df,di,dx,dy,dz,dZ⟩:=id aY;have am:=bn.set (N:=i.heap.size) oA oA 2 (U O (e+c+4));have bS:=aY.set2 (U O (e+c+4));have bH:=bG.other (M:=i.heap.size) (o:=2) oA (U O (e+c+4));go_wp2_with (fail);refine(br _ am.ld).mono ?_;rintro h n (⟨aA,rfl,l⟩|⟨aA,rfl,aa,l⟩);·go_wp2;exact⟨rfl,kG.lost (bc.out aA) aA (am.fr.trans l)⟩
  have an:=am.step aa l;have ac:=bS.fr l oA;have ao:=bH.fr l oA;have ae:C.heap.size<=n.heap.size:=by have be:=b.fr.size;have af:=E.size;have ag:=l.size;have bf:=a8.size;simp only[jQ]at af ag bf;omega
  rcases(show b7=0\/b7=1 by omega)with rfl | rfl
  focus
   have u:=an;have ab:=ac;have ap:=ao;have aj:Hid (e+c+4=yH ts c f):=by show _=_;rw[a5.out];omega
   generalize e+c+4=num at *
  rotate_left
  focus
   obtain⟨cv,cw,cx,cy,ck,cm,cn,co⟩:=id ac;have aQ:=an.set (N:=i.heap.size) oA oA 2 (U O (e+c+4+4));have aW:=ac.set2 (U O (e+c+4+4));have aU:=ao.other (M:=i.heap.size) (o:=2) oA (U O (e+c+4+4));have aj:Hid (e+c+4+4=yH ts c f):=by show _=_;rw[a5.out];omega
   go_wp2;have cB:C.heap.size<=(n.setCell (A i.heap.size 2 F) (U O (e+c+4+4))).heap.size:=by rw[jQ];exact ae
   have u:=aQ;have ab:=aW;have ap:=aU;clear ae aQ aW aU;generalize n.setCell (A i.heap.size 2 F) (U O (e+c+4+4))=n at *;have ae:=cB;clear an ac ao cv cw cx cy ck cm cn co aa l;generalize e+c+4+4=num at *
 all_goals
  obtain⟨cp,cq,cr,ct,_,_,_,_⟩:=id ab;by_cases aC:g.2.bad=true
  ·go_wp2;refine wp_region_any oD ?_;change wpAny _ _ _ _ _ _ _ (World.drew _);refine tkQ 0 (Zp (Z (A i.heap.size 3 F))) ?_;refine tkQ 2 (Zp (Z (A r 0 F))) ?_;refine wpAny_ready (rs:=[1,3]) oD oB ?_;refine AllReady.cons rfl (fun d b=>?_) (AllReady.cons rfl (fun d b=>?_) AllReady.nil)
   focus
    go_simp;refine b _ _ ?_;clear b d;refine one0 3 fun d b=>?_
   all_goals
    go_simp;go_at_call 125;refine(b6.lost (u.ld.drewN 1) x aC).mono ?_;rintro h cu ⟨rfl,bi⟩;go_wp2;exact⟨rfl,kG.lost rfl aC ((u.fr.drewN 1).trans bi)⟩
  ·have bX:g.2.bad=X:=by simpa using aC
   go_wp2;refine wp_region_any oD ?_;change wpAny _ _ _ _ _ _ _ (World.drew _);refine tkQ 0 (Zp (Z (A i.heap.size 3 F))) ?_;refine tkQ 2 (Zp (Z (A r 0 F))) ?_;refine wpAny_ready (rs:=[1,3]) oD oB ?_;refine AllReady.cons rfl (fun d b=>?_) (AllReady.cons rfl (fun d b=>?_) AllReady.nil)
   focus
    go_simp;refine b _ _ ?_;clear b d;refine one0 3 fun d b=>?_
   all_goals
    go_simp;go_at_call 125;refine(b6.fine (u.ld.drewN 1) x bX).mono ?_;rintro h y ⟨eb,rfl,aZ,bq,bh⟩;obtain⟨V,a3,W,_,rfl,Q,a2,S,rfl⟩:=aZ.shape;have a6:Fr r n y:=((Fr.refl r n).drewN 1).trans bh;have aE:∀z,(Value.slice p k.length q).ownBlock=Z z->C.heap.size<=z/\z<n.heap.size:=fun z B=>u.kids.blk B
    have aP:=u.step bq a6;have eo:=a6.size;have dm:=u.b0;have en:=u.fr.size
    have bZ:Lies (fun g=>C.heap.size<=g/\g<y.heap.size/\Z g≠(Value.slice p k.length q).ownBlock) y g.1 (Za #[U O V,I a3,U O W,J Q a2 S]) :=
     aZ.to (fun g j=>by
      have dl:n.heap.size<=g:=j.1
      exact⟨oA,j.2,fun h=>by have:=(aE g h.symm).2;omega⟩) (fun _ _ _=>rfl)
    obtain⟨b8,b1,aS⟩:=aP.kids;have b9:Hid (kW (fun g=>C.heap.size<=g/\g<y.heap.size/\Z g≠(Value.slice p k.length q).ownBlock) y k b8):=aS;have av:=ab.fr a6 oA;have aT:=ap.fr a6 oA;obtain⟨da,dc,de,dh,_,_,_,_⟩:=id av;have ek:i.heap.size<y.heap.size:=av.lt;have em:w.heap.size<y.heap.size:=aT.lt;clear aS;go_wp2
   focus
    refine one0 4 fun d b=>?_
    go_simp;refine b _ _ ?_;clear b d
   rotate_left
   focus
    refine wpAny_ready (rs:=[1,4]) oD oB ?_;refine AllReady.cons rfl (fun d b=>?_) (AllReady.cons rfl (fun d b=>?_) AllReady.nil)
    all_goals
     go_simp;refine b _ _ ?_;clear b d
    focus
     refine one0 4 fun d b=>?_
     go_simp;refine b _ _ ?_;clear b d
    rotate_left
    focus
     refine one0 1 fun d b=>?_
     go_simp;refine b _ _ ?_;clear b d
   all_goals
    refine one0 5 fun d b=>?_
    refine step_append_lies _ oI (.tmp 37) (.tmp 40) 23 oI C.heap.size 25 ce (Za #[U O 0,I ⟨#[]⟩,U O 0,J F 0 0]) 4 56 underlying23 hi cb cc cd rfl oC (J p k.length q) k.length (xS b8) rfl (b1.alloc _) (A y.heap.size 0 F) 1 1 [U O V,I a3,U O W,J Q a2 S] rfl rfl (xL _ _ _ _ _ _ _ rfl) oF oA (by unfold maxLen;omega) oA oE (y.heap.size+1) oB ?_;intro z R cu c9 aD bw dp;refine b _ _ ?_;clear b d;have bj:=KO.pushed (q:=(U O V,I a3,U O W,J Q a2 S)) (t:=g.1) aP b1 b9.out bZ c9 aD (by rcases bw with h | h;exact .inl h.symm;exact .inr (by rw[h];rfl));have c7:(Value.slice p k.length q).ownBlock≠Z i.heap.size:=fun h=>by have:=(aE _ h).1;omega
    have c8:(Value.slice p k.length q).ownBlock≠Z w.heap.size:=fun h=>by have:=(aE _ h).1;omega
    have bN:=(av.alloc (Zc #[U O V,I a3,U O W,J Q a2 S] 25)).grown aD c7;have bF:=(aT.alloc (Zc #[U O V,I a3,U O W,J Q a2 S] 25)).grown aD c8;obtain⟨d5,D,ah,d6,d1,d2,d3,d4⟩:=id bN;obtain⟨cf,cg,ch,ci,ds,dt,du,dw⟩:=id bF;refine one0 6 fun d b=>?_
    go_simp;refine b _ _ ?_;clear b d;refine one0 7 fun d b=>?_
    go_simp;refine b _ _ ?_;clear b d;refine wpAny_done oD ?_ _;go_wp2;have bm:=bj.set (N:=i.heap.size) oA oA 3 (J (Z (A z 0 F)) (k.length+1) R);exact jT (v:=Za #[U O 4,I aH,U O num,J (Z (A z 0 F)) (k.length+1) R]) (by simp[results,results99,go_sem,cf,cg,ch,ci]) rfl (by rw[<- aj.out];exact kG.kids b2 bm (jE _) oA oL)
end
section
variable {w w' w0:Zw} {r G B:Nat} {ts:List Tok} {s:St}
theorem yaz {ac:Nat} (bi:ac<=100000) (bj:kV r G ts 125 (qA ts ac)):kV r G ts 84 (gD ts ac):=by
 intro w s b6 aY p;have bN:=kc25;have av:=aY.lt;have aX:=Box4.new w (U O 0) (I empty) (U O 0) (J F 0 0) 25;have aZ:=aY.alloc (Zc #[U O 0,I empty,U O 0,J F 0 0] 25);cases a7:eqS (txt ts s) ⟨#[112,117,98]⟩
 case true =>
  have aB:kY ts s=s.next:=by unfold kY;rw[a7,jv rfl]
  have aA:vN ts s=2:=by unfold vN;rw[a7,jv rfl]
  have aC:=yQ (T:=9) aZ ⟨#[112,117,98]⟩ oC a7 (M:=w.heap.size+1) oB;go_enter func84,ntmps84;go_wp2_with (fail);refine aC.mono ?_;rintro f bv ⟨rfl,ar,E⟩;unfold gD at p;rw[aB,aA]at p;have aT:=E.size;rw[jO]at aT;have au:=aX.fr E oA;cases S:eqS (txt ts s.next) ⟨#[112,114,111,99]⟩
  case true =>
   rw[S,jv rfl]at p;have b1:procF ts ac 2 (s.next).next=Z b6:=p;exact oz06x58
  case false =>
   rw[S,ju oC]at p;simp only[jh]at p;subst p;have bg:=fC ts s.next;go_wp2_with (fail);refine(yM ar ⟨#[112,114,111,99]⟩ oC S rfl).mono ?_;rintro f b7 ⟨rfl,ae,m⟩;have b8:=m.size
   have a5:Hid ((name ts (label ts s.next).2).2.bad=true->kB ts ⟨#[59]⟩ (zG ts (name ts (label ts s.next).2).2).2=(name ts (label ts s.next).2).2):=fun c=>by
    have C:(zG ts (name ts (label ts s.next).2).2).2=(name ts (label ts s.next).2).2:=oz06y68;rw[C];exact qE oC c
   have an:Hid ((label ts s.next).2.bad=true->kB ts ⟨#[59]⟩ (zG ts (name ts (label ts s.next).2).2).2=(label ts s.next).2):=fun c=>by
    have C:=gQ (ts:=ts) c;rw[a5.out (by rw[C];exact c),C]
   go_wp2_with (fail);refine(dK ae).mono ?_;rintro f bw (⟨ah,rfl,K⟩|⟨ah,rfl,aD,K⟩);·go_wp2;exact oz06x67
   have bG:=K.size;go_wp2_with (fail);refine(gV aD).mono ?_;rintro f e (⟨ai,rfl,P⟩|⟨ai,rfl,af,P⟩);·go_wp2;exact oz06x64
   have bH:=P.size;have V:Fr r w e:=((((Fr.al _ _).trans E).trans m).trans K).trans P;have ag:=((au.fr m oA).fr K oA).fr P oA;clear an a5;generalize label ts s.next=aN at *;obtain⟨j,sl⟩:=aN;simp only at *;generalize name ts sl=nb at *;obtain⟨y,d⟩:=nb;simp only at *;have ao:Hid (2+j=(j+2)):=by show _=_;omega
   cases R:eqS (txt ts d) ⟨#[91]⟩
   case false =>
    have D:Hid (zG ts d=([],d)):=by show _=_;unfold zG;rw[R,ju oC]
    go_wp2_with (fail);refine(yM (af.alloc _) ⟨#[91]⟩ oC R oB).mono ?_;rintro f q ⟨rfl,W,g⟩;have a3:=g.size;simp only[jO]at a3;obtain⟨aO,aP,aQ,aR,_,_,_,_⟩:=(Box4.new e (U O 3) (I y) (U O (j+2)) (J F 0 0) 25).fr g oA;go_wp2_with (fail);refine(gC W _ _ _ _ _ _).mono ?_;rintro f aS (⟨Q,rfl,h⟩|⟨Q,rfl,a6,h⟩);·go_wp2;exact oz06x65
    obtain⟨a8,a9,aa,ab,aw,ax,ay,az⟩:=((ag.alloc _).fr g oA).fr h oA;go_wp2;exact jT (v:=Za #[U O 3,I y,U O (j+2),J F 0 0]) oz06y69 rfl (by rw[D.out,ao.out];exact kG.fin av ((V.trans ((Fr.al _ _).trans g)).trans h) a6 (jE _) (show w.heap.size<q.heap.size by omega) ((Lies.leaf (fun k=>q.heap.size<=k/\k<q.heap.size) q 3 y (j+2)).fr oA h))
   case true =>
    have D:Hid (zG ts d=([(number ts d.next).1],kB ts ⟨#[93]⟩ (number ts d.next).2)):=by show _=_;unfold zG;rw[R,jv rfl]
    have aW:Hid ((number ts d.next).2.bad=true->kB ts ⟨#[59]⟩ (kB ts ⟨#[93]⟩ (number ts d.next).2)=(number ts d.next).2):=fun c=>by
     exact oz06x61
    go_wp2_with (fail);refine(yQ (af.alloc _) ⟨#[91]⟩ oC R oB).mono ?_;rintro f q ⟨rfl,W,g⟩;have a3:=g.size;simp only[jO]at a3;go_wp2_with (fail);refine(zgc W).mono ?_;rintro f b (⟨aj,rfl,z⟩|⟨aj,bu,rfl,am,aE,z⟩);·go_wp2;exact oz06x62
    obtain⟨u,l,x,_,rfl,B,L,t,rfl⟩:=am.shape;have aU:=z.size;have a2:=((Box4.new e (U O 3) (I y) (U O (j+2)) (J F 0 0) 25).fr g oA).fr z oA;have aH:=((ag.alloc _).fr g oA).fr z oA;obtain⟨aO,aP,aQ,aR,bp,bq,br,bs⟩:=id a2;have bE:e.heap.size<b.heap.size:=a2.lt;have aL:=(Fr.refl e.heap.size b).set 3 (J (Z (A b.heap.size 0 F)) 1 1);have aM:Lies (fun k=>q.heap.size<=k/\k<(b.setCell (A e.heap.size 3 F) (J (Z (A b.heap.size 0 F)) 1 1)).heap.size) (b.setCell (A e.heap.size 3 F) (J (Z (A b.heap.size 0 F)) 1 1)) (number ts d.next).1 (Za #[U O u,I l,U O x,J B L t]):=am.frP (x:=e.heap.size) aL (fun k c=>⟨c.2,oA⟩) (fun k c=>⟨c.1,by rw[jQ];exact c.2⟩);have aF:=(aE.set (N:=e.heap.size) oA 3 (J (Z (A b.heap.size 0 F)) 1 1)).alloc (Zc #[U O u,I l,U O x,J B L t] 25);have ad:Fr r w _:=(((V.trans ((Fr.al _ _).trans g)).trans z).setNew (N:=e.heap.size) (o:=3) oA (J (Z (A b.heap.size 0 F)) 1 1)).alloc (Zc #[U O u,I l,U O x,J B L t] 25);have aJ:=(a2.set3 (J (Z (A b.heap.size 0 F)) 1 1)).alloc (Zc #[U O u,I l,U O x,J B L t] 25);have aI:=(aH.other (M:=e.heap.size) (o:=3) oA (J (Z (A b.heap.size 0 F)) 1 1)).alloc (Zc #[U O u,I l,U O x,J B L t] 25);have b2:=aM.rowed (T:=25) (k:=3) (x:=y) (m:=(j+2)) (c:=1) (M:=b.heap.size) (by rw[jQ];exact aU) oB;go_wp2_with (fail);refine(uC aF ⟨#[93]⟩ oC oB).mono ?_;rintro f bz ⟨bF,⟨ak,rfl,n⟩|⟨ak,rfl,aG,n⟩⟩;·go_wp2;exact oz06x66
    have aV:=n.size;simp only[jO,jQ]at aV;obtain⟨bb,bc,be,bf,_,_,_,_⟩:=aJ.fr n oA;go_wp2_with (fail);refine(gC aG _ _ _ _ _ _).mono ?_;rintro f aS (⟨Q,rfl,h⟩|⟨Q,rfl,a6,h⟩);·go_wp2;exact⟨rfl,kG.lost (by simp only[D.out]) Q ((ad.trans n).trans h)⟩
    obtain⟨a8,a9,aa,ab,aw,ax,ay,az⟩:=(aI.fr n oA).fr h oA;go_wp2;exact jT (v:=Za #[U O 3,I y,U O (j+2),J (Z (A b.heap.size 0 F)) 1 1]) oz06y69 rfl oz06y70
 case false =>
  have aB:kY ts s=s:=by unfold kY;rw[a7,ju oC]
  have aA:vN ts s=0:=by unfold vN;rw[a7,ju oC]
  have aC:=yM (T:=9) aZ ⟨#[112,117,98]⟩ oC a7 (M:=w.heap.size+1) oB;go_enter func84,ntmps84;go_wp2_with (fail);refine aC.mono ?_;rintro f bv ⟨rfl,ar,E⟩;unfold gD at p;rw[aB,aA]at p;have aT:=E.size;rw[jO]at aT;have au:=aX.fr E oA;cases S:eqS (txt ts s) ⟨#[112,114,111,99]⟩
  case true =>
   rw[S,jv rfl]at p;have b1:procF ts ac 0 (s).next=Z b6:=p;exact oz06x58
  case false =>
   rw[S,ju oC]at p;simp only[jh]at p;subst p;have bg:=fC ts s;go_wp2_with (fail);refine(yM ar ⟨#[112,114,111,99]⟩ oC S rfl).mono ?_;rintro f b7 ⟨rfl,ae,m⟩;have b8:=m.size
   have a5:Hid ((name ts (label ts s).2).2.bad=true->kB ts ⟨#[59]⟩ (zG ts (name ts (label ts s).2).2).2=(name ts (label ts s).2).2):=fun c=>by
    have C:(zG ts (name ts (label ts s).2).2).2=(name ts (label ts s).2).2:=oz06y68;rw[C];exact qE oC c
   have an:Hid ((label ts s).2.bad=true->kB ts ⟨#[59]⟩ (zG ts (name ts (label ts s).2).2).2=(label ts s).2):=fun c=>by
    have C:=gQ (ts:=ts) c;rw[a5.out (by rw[C];exact c),C]
   go_wp2_with (fail);refine(dK ae).mono ?_;rintro f bw (⟨ah,rfl,K⟩|⟨ah,rfl,aD,K⟩);·go_wp2;exact oz06x67
   have bG:=K.size;go_wp2_with (fail);refine(gV aD).mono ?_;rintro f e (⟨ai,rfl,P⟩|⟨ai,rfl,af,P⟩);·go_wp2;exact oz06x64
   have bH:=P.size;have V:Fr r w e:=((((Fr.al _ _).trans E).trans m).trans K).trans P;have ag:=((au.fr m oA).fr K oA).fr P oA;clear an a5;generalize label ts s=aN at *;obtain⟨j,sl⟩:=aN;simp only at *;generalize name ts sl=nb at *;obtain⟨y,d⟩:=nb;simp only at *;have ao:Hid (0+j=j):=by show _=_;omega
   cases R:eqS (txt ts d) ⟨#[91]⟩
   case false =>
    have D:Hid (zG ts d=([],d)):=by show _=_;unfold zG;rw[R,ju oC]
    go_wp2_with (fail);refine(yM (af.alloc _) ⟨#[91]⟩ oC R oB).mono ?_;rintro f q ⟨rfl,W,g⟩;have a3:=g.size;simp only[jO]at a3;obtain⟨aO,aP,aQ,aR,_,_,_,_⟩:=(Box4.new e (U O 3) (I y) (U O j) (J F 0 0) 25).fr g oA;go_wp2_with (fail);refine(gC W _ _ _ _ _ _).mono ?_;rintro f aS (⟨Q,rfl,h⟩|⟨Q,rfl,a6,h⟩);·go_wp2;exact oz06x65
    obtain⟨a8,a9,aa,ab,aw,ax,ay,az⟩:=((ag.alloc _).fr g oA).fr h oA;go_wp2;exact jT (v:=Za #[U O 3,I y,U O j,J F 0 0]) oz06y69 rfl (by rw[D.out,ao.out];exact kG.fin av ((V.trans ((Fr.al _ _).trans g)).trans h) a6 (jE _) (show w.heap.size<q.heap.size by omega) ((Lies.leaf (fun k=>q.heap.size<=k/\k<q.heap.size) q 3 y j).fr oA h))
   case true =>
    have D:Hid (zG ts d=([(number ts d.next).1],kB ts ⟨#[93]⟩ (number ts d.next).2)):=by show _=_;unfold zG;rw[R,jv rfl]
    have aW:Hid ((number ts d.next).2.bad=true->kB ts ⟨#[59]⟩ (kB ts ⟨#[93]⟩ (number ts d.next).2)=(number ts d.next).2):=fun c=>by
     exact oz06x61
    go_wp2_with (fail);refine(yQ (af.alloc _) ⟨#[91]⟩ oC R oB).mono ?_;rintro f q ⟨rfl,W,g⟩;have a3:=g.size;simp only[jO]at a3;go_wp2_with (fail);refine(zgc W).mono ?_;rintro f b (⟨aj,rfl,z⟩|⟨aj,bu,rfl,am,aE,z⟩);·go_wp2;exact oz06x62
    obtain⟨u,l,x,_,rfl,B,L,t,rfl⟩:=am.shape;have aU:=z.size;have a2:=((Box4.new e (U O 3) (I y) (U O j) (J F 0 0) 25).fr g oA).fr z oA;have aH:=((ag.alloc _).fr g oA).fr z oA;obtain⟨aO,aP,aQ,aR,bp,bq,br,bs⟩:=id a2;have bE:e.heap.size<b.heap.size:=a2.lt;have aL:=(Fr.refl e.heap.size b).set 3 (J (Z (A b.heap.size 0 F)) 1 1);have aM:Lies (fun k=>q.heap.size<=k/\k<(b.setCell (A e.heap.size 3 F) (J (Z (A b.heap.size 0 F)) 1 1)).heap.size) (b.setCell (A e.heap.size 3 F) (J (Z (A b.heap.size 0 F)) 1 1)) (number ts d.next).1 (Za #[U O u,I l,U O x,J B L t]):=am.frP (x:=e.heap.size) aL (fun k c=>⟨c.2,oA⟩) (fun k c=>⟨c.1,by rw[jQ];exact c.2⟩);have aF:=(aE.set (N:=e.heap.size) oA 3 (J (Z (A b.heap.size 0 F)) 1 1)).alloc (Zc #[U O u,I l,U O x,J B L t] 25);have ad:Fr r w _:=(((V.trans ((Fr.al _ _).trans g)).trans z).setNew (N:=e.heap.size) (o:=3) oA (J (Z (A b.heap.size 0 F)) 1 1)).alloc (Zc #[U O u,I l,U O x,J B L t] 25);have aJ:=(a2.set3 (J (Z (A b.heap.size 0 F)) 1 1)).alloc (Zc #[U O u,I l,U O x,J B L t] 25);have aI:=(aH.other (M:=e.heap.size) (o:=3) oA (J (Z (A b.heap.size 0 F)) 1 1)).alloc (Zc #[U O u,I l,U O x,J B L t] 25);have b2:=aM.rowed (T:=25) (k:=3) (x:=y) (m:=j) (c:=1) (M:=b.heap.size) (by rw[jQ];exact aU) oB;go_wp2_with (fail);refine(uC aF ⟨#[93]⟩ oC oB).mono ?_;rintro f bz ⟨bF,⟨ak,rfl,n⟩|⟨ak,rfl,aG,n⟩⟩;·go_wp2;exact oz06x66
    have aV:=n.size;simp only[jO,jQ]at aV;obtain⟨bb,bc,be,bf,_,_,_,_⟩:=aJ.fr n oA;go_wp2_with (fail);refine(gC aG _ _ _ _ _ _).mono ?_;rintro f aS (⟨Q,rfl,h⟩|⟨Q,rfl,a6,h⟩);·go_wp2;exact⟨rfl,kG.lost (by simp only[D.out]) Q ((ad.trans n).trans h)⟩
    obtain⟨a8,a9,aa,ab,aw,ax,ay,az⟩:=(aI.fr n oA).fr h oA;go_wp2;exact jT (v:=Za #[U O 3,I y,U O j,J (Z (A b.heap.size 0 F)) 1 1]) oz06y69 rfl oz06y70
end
end syn
namespace syn
open Go.RowKit
theorem zgb {w wr:Zw} {b c d e:Zv} {f:TypeId} (a:Below (w.heap.size+1) (w.alloc (Zc #[b,c,d,e] f)) wr) : wr.cell? (A w.heap.size 0 F)=Z b/\wr.cell? (A w.heap.size 1 F)=Z c/\wr.cell? (A w.heap.size 2 F)=Z d/\wr.cell? (A w.heap.size 3 F)=Z e/\w.heap.size+1<=wr.heap.size/\Below w.heap.size w wr:=by
 refine⟨?_,?_,?_,?_,?_,?_⟩;·rw[a.cell (p:=(A w.heap.size 0 F)) oB];simp
 ·rw[a.cell (p:=(A w.heap.size 1 F)) oB];simp
 ·rw[a.cell (p:=(A w.heap.size 2 F)) oB];simp
 ·rw[a.cell (p:=(A w.heap.size 3 F)) oB];simp
 ·have:=a.size;simpa using this
 ·exact(bal _).trans (a.mono oA)
theorem kQ.kid1 {w wr:Zw} {h:List Tree} {b c:Nat} (o:b<w.heap.size) (m:kQ (·<w.heap.size) w h b c) (n:Below w.heap.size w wr) {a:Nat} (p:a<h.length) : ∃d e f g,wr.cell? (A b (c+a*4) F)=Z d/\wr.cell? (A b (c+a*4+1) F)=Z e/\wr.cell? (A b (c+a*4+2) F)=Z f/\wr.cell? (A b (c+a*4+3) F)=Z g/\Lies (·<wr.heap.size) wr h[a] (Za #[d,e,f,g]):=by
 obtain⟨v,⟨d,e,f,g,rfl,i,j,k,l⟩,q⟩:=(m.below o n).get a p;exact⟨d,e,f,g,i,j,k,l,q⟩
theorem zyt {a b:Int} (c:a=b):Ending.returned (U O a)=.returned (U O b):=by rw[c]
set_option maxRecDepth 100000 in
theorem zqp (l:Tree) (e:Zv) (w:Zw) (kD:Int) (a9:0<=kD) (aa:kD<=500) (q:Lies (·<w.heap.size) w l e) : Calls prog 63 #[e,U O kD] w fun g w'=>g=.returned (U O (xI l kD))/\Below w.heap.size w w':=by
 have a6:=kc25
 match l with
 | .node k x m ks =>
  have ih:∀c (hi:c<ks.length) (e:Zv) (w:Zw) (kD:Int),0<=kD->kD<=500->Lies (·<w.heap.size) w ks[c] e->Calls prog 63 #[e,U O kD] w fun g w'=>g=.returned (U O (xI ks[c] kD))/\Below w.heap.size w w' :=
   fun c hi e w kD D E G=>zqp ks[c] e w kD D E G
  unfold Lies at q;obtain⟨y,z,rfl,ac,P⟩:=q;obtain⟨d,n⟩:∃d,d=xI (.node k x m ks) kD:=⟨_,rfl⟩
  rw[<- n];have v:Hid (xU (ks.drop 0) 1 kD=d):=by show _=_;rw[n];unfold xI;rfl
  clear n;go_enter func63,ntmps63;go_wp2;go_loopw [5,6] (fun S c wr=>∃(b:Nat) (a:Int),b<=ks.length/\c=U O b/\S=U O a/\1<=a/\a<=kD+1/\Hid (xU (ks.drop b) a kD=d)/\Below (w.heap.size+1) (w.alloc (Zc #[U O k,I x,U O m,J y ks.length z] 25)) wr) (fun _ c _=>ks.length - (intOf c).toNat)
  case atStart=>exact⟨0,1,jz _,rfl,rfl,oA,oA,v.out,Below.refl _ _⟩
  case round =>
   obtain⟨b,a,ab,rfl,rfl,ad,T,f,r⟩:=hrel;obtain⟨af,ag,ah,ai,Q,u⟩:=zgb r;by_cases h:b<ks.length
   ·obtain⟨a8,ae,rfl,N,K⟩:=P (by intro g;rw[g]at h;simp at h);obtain⟨ak,am,an,ao,a2,a3,a5,a7,R⟩:=K.kid1 N u h
    have j:Hid (xU (ks.drop b) a kD=if a<=kD then xU (ks.drop (b+1)) (a+xI ks[b] (kD - a)) kD else a):=by
     show _=_;rw[List.drop_eq_getElem_cons h,xU]
    by_cases s:a<=kD
    ·have p:=ih b h _ wr (kD - a) oA oA R;have L:=zd7 ks[b] (kD - a) oA;have o:Hid (xU (ks.drop (b+1)) (a+xI ks[b] (kD - a)) kD=d):=by show _=_;rw[<- f.out,j.out,jv s]
     generalize xI ks[b] (kD - a)=i at p L o;clear j f;go_wp2_with (go_at_call 63;refine p.mono ?_;rintro g aj ⟨rfl,M⟩);go_roundw
     case rel=>exact⟨b+1,a+i,oA,oJ,oJ,oA,oA,o.out,r.trans (M.mono Q)⟩
     case measure=>simp[intOf];omega
    ·have t:Hid (a=d):=by show _=_;rw[<- f.out,j.out,ju s]
     clear j f;exact oz06x63
   ·have t:Hid (a=d):=by
     show _=_;rw[<- f.out,List.drop_eq_nil_of_le oA,xU]
    clear f;exact oz06x63
termination_by SizeOf.sizeOf l
decreasing_by exact dI hi
set_option maxRecDepth 100000 in
theorem zqo (l:Tree) (e:Zv) (w:Zw) (kD:Int) (a9:0<=kD) (aa:kD<=500) (q:Lies (·<w.heap.size) w l e) : Calls prog 64 #[e,U O kD] w fun g w'=>g=.returned (U O (yZ l kD))/\Below w.heap.size w w':=by
 have a6:=kc25
 match l with
 | .node k x m ks =>
  have ih:∀c (hi:c<ks.length) (e:Zv) (w:Zw) (kD:Int),0<=kD->kD<=500->Lies (·<w.heap.size) w ks[c] e->Calls prog 64 #[e,U O kD] w fun g w'=>g=.returned (U O (yZ ks[c] kD))/\Below w.heap.size w w' :=
   fun c hi e w kD D E G=>zqo ks[c] e w kD D E G
  unfold Lies at q;obtain⟨y,z,rfl,ac,P⟩:=q;obtain⟨d,n⟩:∃d,d=yZ (.node k x m ks) kD:=⟨_,rfl⟩
  rw[<- n];have v:Hid (xR (ks.drop 0) 0 kD+1=d):=by show _=_;rw[n];unfold yZ;rfl
  clear n;go_enter func64,ntmps64;go_wp2;go_loopw [5,6] (fun S c wr=>∃(b:Nat) (a:Int),b<=ks.length/\c=U O b/\S=U O a/\0<=a/\a<=kD/\Hid (xR (ks.drop b) a kD+1=d)/\Below (w.heap.size+1) (w.alloc (Zc #[U O k,I x,U O m,J y ks.length z] 25)) wr) (fun _ c _=>ks.length - (intOf c).toNat)
  case atStart=>exact⟨0,0,jz _,rfl,rfl,oA,oA,v.out,Below.refl _ _⟩
  case round =>
   obtain⟨b,a,ab,rfl,rfl,ad,T,f,r⟩:=hrel;obtain⟨af,ag,ah,ai,Q,u⟩:=zgb r;by_cases h:b<ks.length
   ·obtain⟨a8,ae,rfl,N,K⟩:=P (by intro g;rw[g]at h;simp at h);obtain⟨ak,am,an,ao,a2,a3,a5,a7,R⟩:=K.kid1 N u h
    have j:Hid (xR (ks.drop b) a kD=if 0<kD/\a<=kD then xR (ks.drop (b+1)) (max a (yZ ks[b] (kD - 1))) kD else a):=by
     show _=_;rw[List.drop_eq_getElem_cons h,xR]
    by_cases s:0<kD
    ·have p:=ih b h _ wr (kD - 1) oA oA R;have L:=zd5 ks[b] (kD - 1) oA;have o:Hid (xR (ks.drop (b+1)) (max a (yZ ks[b] (kD - 1))) kD+1=d):=by show _=_;rw[<- f.out,j.out,jv ⟨s,T⟩]
     generalize yZ ks[b] (kD - 1)=i at p L o;have B:max a i=if a<i then i else a:=by rw[Int.max_def];split<;>split<;>omega
     rw[B]at o;have W:Hid (max a i=if a<i then i else a):=B;clear B;clear j f;go_wp2_with (go_at_call 64;refine p.mono ?_;rintro g aj ⟨rfl,M⟩);go_roundw
     case rel=>exact⟨b+1,if a<i then i else a,oA,oJ,by first | rfl | rw[W.out],by split<;>omega,by split<;>omega,o.out,r.trans (M.mono Q)⟩
     case measure=>simp[intOf];omega
    ·have t:Hid (a+1=d):=by show _=_;rw[<- f.out,j.out,ju (fun C=>s C.1)]
     clear j f;exact oz06x63
   ·have t:Hid (a+1=d):=by
     show _=_;rw[<- f.out,List.drop_eq_nil_of_le oA,xR]
    clear f;exact oz06x63
termination_by SizeOf.sizeOf l
decreasing_by exact dI hi
set_option maxRecDepth 100000 in
theorem ybg (k:Tree) (q:Zv) (w:Zw) (n:Lies (·<w.heap.size) w k q) : Calls prog 32 #[q] w fun h w'=>h=.returned (Y (fitsT k))/\Below w.heap.size w w':=by
 have x:=kc25;have p:=n
 cases k with
 | node a d c b =>
  unfold Lies at p;obtain⟨f,g,rfl,_,_⟩:=p;have o:Lies (·<(w.alloc (Zc #[U O a,I d,U O c,J f b.length g] 25)).heap.size) (w.alloc (Zc #[U O a,I d,U O c,J f b.length g] 25)) (.node a d c b) (Za #[U O a,I d,U O c,J f b.length g]):=n.below (bal _)
  have j:=zqp (.node a d c b) _ _ 500 oA oA o;have m:=fun (e:Zw) (r:Lies (·<e.heap.size) e (.node a d c b) (Za #[U O a,I d,U O c,J f b.length g]))=>zqo (.node a d c b) _ e 16 oA oA r
  unfold fitsT;generalize xI (.node a d c b) 500=v at j |-;generalize yZ (.node a d c b) 16=y at m |-;by_cases l:500<v;·rw[jv l];go_enter func32,ntmps32;go_wp2_with (go_at_call 63;refine j.mono ?_;rintro h e ⟨rfl,i⟩);go_ret;exact⟨rfl,(bal _).trans (i.mono oB)⟩
  ·rw[ju l];go_enter func32,ntmps32
   go_wp2_with (first
    | (go_at_call 63;refine j.mono ?_;rintro h e ⟨rfl,i⟩;have t:Below (w.heap.size+1) (w.alloc (Zc #[U O a,I d,U O c,J f b.length g] 25)) e:=i.mono oB;obtain⟨B,C,D,E,z,u⟩:=zgb t)
    | (go_at_call 64;refine(m _ (o.below i)).mono ?_;rintro h G ⟨rfl,s⟩))
   go_ret;exact⟨rfl,u.trans (s.mono oA)⟩
end syn
namespace syn
open Go.RowKit
open lexs (Tok Fine own_shape)
section
variable {w w' w0:Zw} {r G B:Nat} {ts:List Tok} {s:St}
theorem importsL_st {b:Nat} {e:List Tree} {c:List Tree × St} (d:s.bad=true) (a:zZ ts b e s=Z c):c.2=s:=by
 cases b with
 | zero=>unfold zZ at a;simp at a
 | succ b =>
  unfold zZ at a;rw[zH oC d,ju oC]at a;simp only[jh]at a;rw[<- a]
theorem declsL_st {b:Nat} {e:List Tree} {c:List Tree × St} (d:s.bad=true) (a:yD ts b e s=Z c):c.2=s:=by
 cases b with
 | zero=>unfold yD at a;simp at a
 | succ b =>
  unfold yD at a;rw[d]at a;simp only[Bool.true_or,if_true,jh]at a;rw[<- a]
theorem zt1 (e:Ld w r G ts s) (f:(name ts s).2.bad=true):Calls prog 81 #[Zp (Z (A r 0 F))] w fun b w'=>b=.panicked (Pan ts (name ts s).2)/\Fr r w w' :=
 (gV e).mono fun b w' c=>by
  rcases c with⟨_,a,d⟩|⟨a,_⟩
  ·exact⟨a,d⟩
  ·rw[f]at a;cases a
theorem zt0 (f:Ld w r G ts s) (g:(name ts s).2.bad=X):Calls prog 81 #[Zp (Z (A r 0 F))] w fun b w'=>b=.returned (I (name ts s).1)/\Ld w' r G ts (name ts s).2/\Fr r w w' :=
 (gV f).mono fun b w' c=>by
  rcases c with⟨a,_⟩|⟨_,a,d,e⟩
  ·rw[g]at a;cases a
  ·exact⟨a,d,e⟩
theorem zsc (k:Ld w r G ts s) (e f:Int) (h:ByteArray) (b:Option Addr) (g c:Nat) (l:(kB ts ⟨#[59]⟩ s).bad=true):Calls prog 83 #[Zp (Z (A r 0 F)),Za #[U O e,I h,U O f,J b g c]] w fun d w'=>d=.panicked (Pan ts (kB ts ⟨#[59]⟩ s))/\Fr r w w' :=
 (gC k e f h b g c).mono fun d w' i=>by
  rcases i with⟨_,a,j⟩|⟨a,_⟩
  ·exact⟨a,j⟩
  ·rw[l]at a;cases a
theorem zsb (l:Ld w r G ts s) (d e:Int) (g:ByteArray) (b:Option Addr) (f c:Nat) (m:(kB ts ⟨#[59]⟩ s).bad=X):Calls prog 83 #[Zp (Z (A r 0 F)),Za #[U O d,I g,U O e,J b f c]] w fun h w'=>h=.returned (Za #[U O d,I g,U O e,J b f c])/\Ld w' r G ts (kB ts ⟨#[59]⟩ s)/\Fr r w w' :=
 (gC l d e g b f c).mono fun h w' i=>by
  rcases i with⟨a,_⟩|⟨_,a,j,k⟩
  ·rw[m]at a;cases a
  ·exact⟨a,j,k⟩
theorem zyd (aE:Ld w r G ts ⟨0,X⟩) {ay:Tree × St} (aT:bO ts=Z ay):Calls prog 47 #[Zp (Z (A r 0 F))] w (kG w r G ts ay):=by
 have cr:=kc25;have bc:=aE.lt;have cv:=aE.len;obtain⟨bh,hi,be,bf,bg⟩:=info_parts uD;have aX:kV r G ts 84 (gD ts 100000):=yaz (jE _) (yaw r G ts 100000 (jE _) (jE _)).b;have bG:=Box4.new w (U O 0) (I empty) (U O 0) (J F 0 0) 25;unfold bO at aT;obtain⟨p,aS,ap⟩:=qQ aT;obtain⟨x,aL,aW⟩:=qQ ap;simp only[jh]at aW;subst aW;clear aT ap;have an:Hid (p.2.bad=true->x.2=p.2):=fun o=>declsL_st o aL
 have ao:Hid ((uK ts).bad=true->x.2=uK ts):=fun o=>by
  have m:=importsL_st o aS;rw[an.out (by rw[m];exact o),m]
 have aA:Hid ((name ts (kB ts ⟨#[109,111,100,117,108,101]⟩ ⟨0,X⟩)).2.bad=true->x.2=(name ts (kB ts ⟨#[109,111,100,117,108,101]⟩ ⟨0,X⟩)).2):=fun o=>by
  have m:uK ts=(name ts (kB ts ⟨#[109,111,100,117,108,101]⟩ ⟨0,X⟩)).2:=by unfold uK;exact qE oC o
  rw[ao.out (by rw[m];exact o),m]
 have aV:Hid ((kB ts ⟨#[109,111,100,117,108,101]⟩ ⟨0,X⟩).bad=true->x.2=kB ts ⟨#[109,111,100,117,108,101]⟩ ⟨0,X⟩):=fun o=>by
  have m:=gQ (ts:=ts) o;rw[aA.out (by rw[m];exact o),m]
 have HP:Hid (zZ ts 4000 [] (uK ts)=Z p):=aS;have aU:Hid (yD ts 4000 p.1 p.2=Z x):=aL;clear aS aL;have b1:=uC (T:=9) (aE.alloc (Zc #[U O 0,I empty,U O 0,J F 0 0] 25)) ⟨#[109,111,100,117,108,101]⟩ oC (M:=w.heap.size+1) oB;unfold xB;unfold uK at HP ao;generalize kB ts ⟨#[109,111,100,117,108,101]⟩ ⟨0,X⟩=c at *;have b0:=fun (w:Zw) (a6:Ld w r G ts c)=>gV a6
 generalize name ts c=nb at *;obtain⟨ai,cy⟩:=nb;simp only at *;go_enter func47,ntmps47;go_wp2_with (fail);refine b1.mono ?_;rintro e d2 ⟨d4,⟨N,rfl,E⟩|⟨N,rfl,bN,E⟩⟩;·go_wp2;exact⟨rfl,kG.lost (aV.out N) N ((Fr.al _ _).trans E)⟩
 go_wp2_with (fail);refine(b0 _ bN).mono ?_;rintro e f (⟨aJ,rfl,V⟩|⟨aJ,rfl,bP,V⟩);·go_wp2;exact⟨rfl,kG.lost (aA.out aJ) aJ (((Fr.al _ _).trans E).trans V)⟩
 go_wp2_with (fail);refine(uC (bP.alloc _) ⟨#[59]⟩ oC oB).mono ?_;rintro e ch ⟨d5,⟨aK,rfl,W⟩|⟨aK,rfl,bR,W⟩⟩;·go_wp2;exact⟨rfl,kG.lost (ao.out aK) aK ((((Fr.al _ _).trans E).trans V).trans ((Fr.al _ _).trans W))⟩
 have cj:=E.size;have d6:=V.size;have ck:=W.size;simp only[jO]at cj ck;have bH:Fr r w ch:=(((Fr.al _ _).trans E).trans V).trans ((Fr.al _ _).trans W);have bX:=(Box4.new f (U O 1) (I ai) (U O 0) (J F 0 0) 25).fr W oA;have bZ:=(((bG.fr E oA).fr V oA).alloc (Zc #[U O 1,I ai,U O 0,J F 0 0] 25)).fr W oA;clear ao aA aV b1 b0;go_wp2
 go_loopg [] 4000 (fun u wr=>∃(d:List Tree) (c:St) (R:Zv),Hid (zZ ts u d c=Z p)/\d.length+u<=4000/\KO w (f.heap.size+1) r G ts wr c R d/\Box4 wr f.heap.size (U O 1) (I ai) (U O 0) R/\Box4 wr w.heap.size (U O 0) (I empty) (U O 0) (J F 0 0))
 case atStart=>exact⟨[],_,J F 0 0,HP.out,oB,⟨bR,bc,oA,bH,Kids.nil _ _ _⟩,bX,bZ⟩
 case round =>
  obtain⟨d,c,R,C,c6,a,N,aH⟩:=hrel;clear HP;obtain⟨k,l,rfl⟩:=a.kids.shape
  cases gk with
  | zero=>have:=C.out;unfold zZ at this;simp at this
  | succ u =>
   have j:=C.out;clear C;unfold zZ at j;cases ad:eqS (txt ts c) ⟨#[105,109,112,111,114,116]⟩
   case false =>
    rw[ad,ju oC]at j;simp only[jh]at j;subst j;go_wp2_with (fail);refine(yM a.ld ⟨#[105,109,112,111,114,116]⟩ oC ad rfl).mono ?_;rintro e d3 ⟨rfl,aZ,ar⟩;have aY:=a.step aZ ar;have b7:=N.fr ar oA;have b6:=aH.fr ar oA;clear an a N aH ad;go_wp2
    go_loopg [] 4000 (fun u wr=>∃(d:List Tree) (c:St) (R:Zv),Hid (yD ts u d c=Z x)/\d.length+u<=8000/\KO w (f.heap.size+1) r G ts wr c R d/\Box4 wr f.heap.size (U O 1) (I ai) (U O 0) R/\Box4 wr w.heap.size (U O 0) (I empty) (U O 0) (J F 0 0))
    case atStart=>exact⟨d,c,_,aU.out,oA,aY,b7,b6⟩
    case round =>
     clear aU aY b7 b6 aZ ar;obtain⟨d,c,R,C,c6,n,y,av⟩:=hrel;obtain⟨k,l,rfl⟩:=n.kids.shape;obtain⟨q,c8⟩:∃q,q=wr:=⟨_,rfl⟩
     obtain rfl:=c8;obtain⟨al,ct,bF,cu,ap⟩:=n.ld.c0
     cases gk with
     | zero=>have:=C.out;unfold yD at this;simp at this
     | succ u =>
      have j:=C.out;clear C;unfold yD at j;rw[n.ld.ok]at j;by_cases ax:ts.length<=c.i;·rw[decide_eq_true ax]at j;simp only[Bool.or_true,if_true,jh]at j;subst j;have ba:ts.length - c.i=0:=oA;rw[ba]at bF;obtain⟨bi,bj,bm,bn,_,_,_,_⟩:=id y;obtain⟨cd,ce,cf,cg,cz,cA,cB,d0⟩:=id av;go_wp2;exact jT (v:=Za #[U O 1,I ai,U O 0,J k d.length l]) (by simp[results,results47,go_sem,cd,ce,cf,cg]) rfl (kG.kids bc n (jE _) oA oA)
      ·rw[decide_eq_false ax]at j;simp only[Bool.or_false,jr,if_false]at j;obtain⟨B,aB,bb⟩:=qQ j;have S:Hid (yD ts u (d++[B.1]) B.2=Z x):=bb;clear j bb;obtain rfl:=ap oA;have ba:0<ts.length - c.i:=oA;have cw:ts.length - c.i<=3000:=oA;generalize ts.length - c.i=cx at *;obtain⟨bi,bj,bm,bn,_,_,_,_⟩:=id y;by_cases aw:B.2.bad=true
       ·have HS:Hid (x.2=B.2):=declsL_st aw S.out;go_wp2;refine wp_region_any oD ?_;change wpAny _ _ _ _ _ _ _ (World.drew _);refine tkQ 0 (Zp (Z (A f.heap.size 3 F))) ?_;refine tkQ 2 (Zp (Z (A r 0 F))) ?_;refine wpAny_ready (rs:=[1,3]) oD oB ?_;refine AllReady.cons rfl (fun b a=>?_) (AllReady.cons rfl (fun b a=>?_) AllReady.nil)
        focus
         go_simp;refine a _ _ ?_;clear a b;refine one0 3 fun b a=>?_
        all_goals
         go_simp;go_at_call 84;refine(aX.lost (n.ld.drewN 1) aB aw).mono ?_;rintro e ak ⟨rfl,K⟩;go_wp2;exact⟨rfl,kG.lost HS.out aw ((n.fr.drewN 1).trans K)⟩
       have bY:B.2.bad=X:=by simpa using aw
       go_wp2;refine wp_region_any oD ?_;change wpAny _ _ _ _ _ _ _ (World.drew _);refine tkQ 0 (Zp (Z (A f.heap.size 3 F))) ?_;refine tkQ 2 (Zp (Z (A r 0 F))) ?_;refine wpAny_ready (rs:=[1,3]) oD oB ?_;refine AllReady.cons rfl (fun b a=>?_) (AllReady.cons rfl (fun b a=>?_) AllReady.nil)
       focus
        go_simp;refine a _ _ ?_;clear a b;refine one0 3 fun b a=>?_
       all_goals
        go_simp;go_at_call 84;refine(aX.fine (n.ld.drewN 1) aB bY).mono ?_;rintro e g ⟨d1,rfl,b9,aG,a7⟩;obtain⟨af,am,ag,_,rfl,a3,ah,a5,rfl⟩:=b9.shape;have z:Fr r q g:=((Fr.refl r q).drewN 1).trans a7;have aN:∀s,(Value.slice k d.length l).ownBlock=Z s->f.heap.size+1<=s/\s<q.heap.size:=fun s aM=>n.kids.blk aM
        have a8:=n.step aG z;have cq:=z.size;have co:=y.lt;have P:=y.fr z oA;have aa:=av.fr z oA;have cm:f.heap.size<g.heap.size:=P.lt;have cn:w.heap.size<g.heap.size:=aa.lt;obtain⟨aj,ae,a9⟩:=a8.kids;have az:Hid (kW (fun h=>f.heap.size+1<=h/\h<g.heap.size/\Z h≠(Value.slice k d.length l).ownBlock) g d aj):=a9;obtain⟨bw,bz,bD,bE,_,_,_,_⟩:=id P;have c7:d.length<=8000:=oA;clear a9
        have aO:Lies (fun h=>f.heap.size+1<=h/\h<g.heap.size/\Z h≠(Value.slice k d.length l).ownBlock) g B.1 (Za #[U O af,I am,U O ag,J a3 ah a5]) :=
         b9.to (fun h o=>by
          have aB:q.heap.size<=h:=o.1
          exact⟨oA,o.2,fun e=>by have:=(aN h e.symm).2;omega⟩) (fun _ _ _=>rfl)
        go_wp2
       focus
        refine one0 4 fun b a=>?_
        go_simp;refine a _ _ ?_;clear a b
       rotate_left
       focus
        refine wpAny_ready (rs:=[1,4]) oD oB ?_;refine AllReady.cons rfl (fun b a=>?_) (AllReady.cons rfl (fun b a=>?_) AllReady.nil)
        all_goals
         go_simp;refine a _ _ ?_;clear a b
        focus
         refine one0 4 fun b a=>?_
         go_simp;refine a _ _ ?_;clear a b
        rotate_left
        focus
         refine one0 1 fun b a=>?_
         go_simp;refine a _ _ ?_;clear a b
       all_goals
        refine one0 5 fun b a=>?_
        refine step_append_lies _ oI (.tmp 33) (.tmp 36) 23 oI (f.heap.size+1) 25 bh (Za #[U O 0,I ⟨#[]⟩,U O 0,J F 0 0]) 4 56 underlying23 hi be bf bg rfl oC (J k d.length l) d.length (xS aj) rfl (ae.alloc _) (A g.heap.size 0 F) 1 1 [U O af,I am,U O ag,J a3 ah a5] rfl rfl (xL _ _ _ _ _ _ _ rfl) oF oA (by unfold maxLen;omega) oA oE (g.heap.size+1) oB ?_;intro s bo ci aR Q b2 ax;refine a _ _ ?_;clear a b;have aD:=KO.pushed (q:=(U O af,I am,U O ag,J a3 ah a5)) (t:=B.1) a8 ae az.out aO aR Q oz06y71;have aP:(Value.slice k d.length l).ownBlock≠Z f.heap.size:=fun e=>oz06y72
        have aQ:(Value.slice k d.length l).ownBlock≠Z w.heap.size:=fun e=>oz06y72
        have ab:=(P.alloc (Zc #[U O af,I am,U O ag,J a3 ah a5] 25)).grown Q aP;have aI:=(aa.alloc (Zc #[U O af,I am,U O ag,J a3 ah a5] 25)).grown Q aQ;obtain⟨bu,m,D,bv,bp,bq,br,bs⟩:=id ab;refine one0 6 fun b a=>?_
        go_simp;refine a _ _ ?_;clear a b;refine one0 7 fun b a=>?_
        go_simp;refine a _ _ ?_;clear a b;refine wpAny_done oD ?_ _;go_wp2
        go_roundg u
        case rel=>exact⟨d++[B.1],B.2,_,S.out,oL,aD.set oA oA 3 _,ab.set3 _,aI.other oA _⟩
        case measure=>omega
   case true =>
    rw[ad,jv rfl]at j;have S:Hid (zZ ts u (d++[.node 2 (name ts c.next).1 0 []]) (kB ts ⟨#[59]⟩ (name ts c.next).2)=Z p):=j;clear j;go_wp2_with (fail);refine(yQ a.ld ⟨#[105,109,112,111,114,116]⟩ oC ad rfl).mono ?_;rintro e q ⟨rfl,au,aC⟩;have n:=a.step au aC;have y:=N.fr aC oA;have av:=aH.fr aC oA;obtain⟨bi,bj,bm,bn,_,_,_,_⟩:=id y;by_cases a2:(name ts c.next).2.bad=true
    ·have HS:Hid (x.2=(name ts c.next).2):=by
      have m:kB ts ⟨#[59]⟩ (name ts c.next).2=(name ts c.next).2:=qE oC a2;have D:=importsL_st (by rw[m];exact a2) S.out;show _=_;rw[an.out (by rw[D,m];exact a2),D,m]
     go_wp2;refine wp_region_any oD ?_;change wpAny _ _ _ _ _ _ _ (World.drew _);refine tkQ 0 (Zp (Z (A f.heap.size 3 F))) ?_;refine tkQ 2 (Zp (Z (A r 0 F))) ?_;refine tkQ 3 (Zp (Z (A r 0 F))) ?_;refine wpAny_ready (rs:=[1,4]) oD oB ?_;refine AllReady.cons rfl (fun b a=>?_) (AllReady.cons rfl (fun b a=>?_) AllReady.nil)
     focus
      go_simp;refine a _ _ ?_;clear a b;refine one0 4 fun b a=>?_
     all_goals
      go_simp;go_at_call 81;refine(zt1 (au.drewN 1) a2).mono ?_;rintro e ak ⟨rfl,K⟩;go_wp2;exact⟨rfl,kG.lost HS.out a2 ((n.fr.drewN 1).trans K)⟩
    have b8:(name ts c.next).2.bad=X:=by simpa using a2
    by_cases ac:(kB ts ⟨#[59]⟩ (name ts c.next).2).bad=true
    ·have HS:Hid (x.2=kB ts ⟨#[59]⟩ (name ts c.next).2):=by
      have D:=importsL_st ac S.out;show _=_;rw[an.out (by rw[D];exact ac),D]
     go_wp2;refine wp_region_any oD ?_;change wpAny _ _ _ _ _ _ _ (World.drew _);refine tkQ 0 (Zp (Z (A f.heap.size 3 F))) ?_;refine tkQ 2 (Zp (Z (A r 0 F))) ?_;refine tkQ 3 (Zp (Z (A r 0 F))) ?_;refine wpAny_ready (rs:=[1,4]) oD oB ?_;refine AllReady.cons rfl (fun b a=>?_) (AllReady.cons rfl (fun b a=>?_) AllReady.nil)
     focus
      go_simp;refine a _ _ ?_;clear a b;refine one0 4 fun b a=>?_
     all_goals
      go_simp;go_at_call 81;refine(zt0 (au.drewN 1) b8).mono ?_;rintro e ak ⟨rfl,aF,K⟩;have L:Fr r q ak:=((Fr.refl r q).drewN 1).trans K;have cp:=L.size;obtain⟨c9,ca,cb,cc,_,_,_,_⟩:=y.fr L oA;go_wp2;refine tkQ 5 (Za #[U O 2,I (name ts c.next).1,U O 0,J F 0 0] ) ?_
     focus
      refine one0 6 fun b a=>?_
     rotate_left
     focus
      refine wpAny_ready (rs:=[1,6]) oD oB ?_;refine AllReady.cons rfl (fun b a=>?_) (AllReady.cons rfl (fun b a=>?_) AllReady.nil)
      focus
       go_simp;refine a _ _ ?_;clear a b;refine one0 6 fun b a=>?_
     all_goals
      go_simp;go_at_call 83;refine(zsc aF 2 0 _ F 0 0 ac).mono ?_;rintro e g ⟨rfl,a7⟩;go_wp2;exact⟨rfl,kG.lost HS.out ac (n.fr.trans (L.trans a7))⟩
    have bS:(kB ts ⟨#[59]⟩ (name ts c.next).2).bad=X:=by simpa using ac
    go_wp2;refine wp_region_any oD ?_;change wpAny _ _ _ _ _ _ _ (World.drew _);refine tkQ 0 (Zp (Z (A f.heap.size 3 F))) ?_;refine tkQ 2 (Zp (Z (A r 0 F))) ?_;refine tkQ 3 (Zp (Z (A r 0 F))) ?_;refine wpAny_ready (rs:=[1,4]) oD oB ?_;refine AllReady.cons rfl (fun b a=>?_) (AllReady.cons rfl (fun b a=>?_) AllReady.nil)
    focus
     go_simp;refine a _ _ ?_;clear a b;refine one0 4 fun b a=>?_
    all_goals
     go_simp;go_at_call 81;refine(zt0 (au.drewN 1) b8).mono ?_;rintro e ak ⟨rfl,aF,K⟩;have L:Fr r q ak:=((Fr.refl r q).drewN 1).trans K;have cp:=L.size;obtain⟨c9,ca,cb,cc,_,_,_,_⟩:=y.fr L oA;go_wp2;refine tkQ 5 (Za #[U O 2,I (name ts c.next).1,U O 0,J F 0 0] ) ?_
    focus
     refine one0 6 fun b a=>?_
    rotate_left
    focus
     refine wpAny_ready (rs:=[1,6]) oD oB ?_;refine AllReady.cons rfl (fun b a=>?_) (AllReady.cons rfl (fun b a=>?_) AllReady.nil)
     focus
      go_simp;refine a _ _ ?_;clear a b;refine one0 6 fun b a=>?_
     rotate_left
    all_goals
     go_simp;go_at_call 83;refine(zsb aF 2 0 _ F 0 0 bS).mono ?_;rintro e g ⟨rfl,aG,a7⟩;have z:Fr r q g:=L.trans a7;have aN:∀s,(Value.slice k d.length l).ownBlock=Z s->f.heap.size+1<=s/\s<q.heap.size:=fun s aM=>n.kids.blk aM
     have a8:=n.step aG z;have cq:=z.size;have co:=y.lt;have P:=y.fr z oA;have aa:=av.fr z oA;have cm:f.heap.size<g.heap.size:=P.lt;have cn:w.heap.size<g.heap.size:=aa.lt;obtain⟨aj,ae,a9⟩:=a8.kids;have az:Hid (kW (fun h=>f.heap.size+1<=h/\h<g.heap.size/\Z h≠(Value.slice k d.length l).ownBlock) g d aj):=a9;obtain⟨bw,bz,bD,bE,_,_,_,_⟩:=id P;have c7:d.length<=8000:=oA;clear a9;have aO:Lies (fun h=>f.heap.size+1<=h/\h<g.heap.size/\Z h≠(Value.slice k d.length l).ownBlock) g (.node 2 (name ts c.next).1 0 []) (Za #[U O 2,I (name ts c.next).1,U O 0,J F 0 0]):=Lies.leaf _ _ _ _ _;go_wp2
    focus
     refine wpAny_ready (rs:=[1,7]) oD oB ?_;refine AllReady.cons rfl (fun b a=>?_) (AllReady.cons rfl (fun b a=>?_) AllReady.nil)
     all_goals
      go_simp;refine a _ _ ?_;clear a b
     rotate_left
     focus
      refine one0 1 fun b a=>?_
      go_simp;refine a _ _ ?_;clear a b
    rotate_left
    iterate 3
     focus
      refine one0 7 fun b a=>?_
      go_simp;refine a _ _ ?_;clear a b
     rotate_left
    all_goals
     refine one0 8 fun b a=>?_
     refine step_append_lies _ oI (.tmp 17) (.tmp 23) 23 oI (f.heap.size+1) 25 bh (Za #[U O 0,I ⟨#[]⟩,U O 0,J F 0 0]) 4 56 underlying23 hi be bf bg rfl oC (J k d.length l) d.length (xS aj) rfl (ae.alloc _) (A g.heap.size 0 F) 1 1 [U O 2,I (name ts c.next).1,U O 0,J F 0 0] rfl rfl (xL _ _ _ _ _ _ _ rfl) oF oA (by unfold maxLen;omega) oA oE (g.heap.size+1) oB ?_;intro s bo ci aR Q b2 ax;refine a _ _ ?_;clear a b;have aD:=KO.pushed (q:=(U O 2,I (name ts c.next).1,U O 0,J F 0 0)) (t:=Tree.node 2 (name ts c.next).1 0 [] ) a8 ae az.out aO aR Q oz06y71;have aP:(Value.slice k d.length l).ownBlock≠Z f.heap.size:=fun e=>oz06y72
     have aQ:(Value.slice k d.length l).ownBlock≠Z w.heap.size:=fun e=>oz06y72
     have ab:=(P.alloc (Zc #[U O 2,I (name ts c.next).1,U O 0,J F 0 0] 25)).grown Q aP;have aI:=(aa.alloc (Zc #[U O 2,I (name ts c.next).1,U O 0,J F 0 0] 25)).grown Q aQ;obtain⟨bu,m,D,bv,bp,bq,br,bs⟩:=id ab;refine one0 9 fun b a=>?_
     go_simp;refine a _ _ ?_;clear a b;refine one0 10 fun b a=>?_
     go_simp;refine a _ _ ?_;clear a b;refine wpAny_done oD ?_ _;go_wp2
     go_roundg u
     case rel=>exact⟨d++[Tree.node 2 (name ts c.next).1 0 [] ],kB ts ⟨#[59]⟩ (name ts c.next).2,_,S.out,oL,aD.set oA oA 3 _,ab.set3 _,aI.other oA _⟩
     case measure=>omega
end
section
variable {w w' w0:Zw} {r G B:Nat} {ts:List Tok} {s:St}
variable {a:Nat} {c:Tree × St}
theorem zb3 {b:Program} {c:Exit->Act->List Frame->Zw->Prop} {d:Act} {e cs':List Frame} {w:Zw} {g:Code} {v:Zv} {h:TypeId} {f:String} (i:recoverD e=Z (v,cs')) (j:g.wpS b c (d.put (Z a) v) cs' w) : ((Code.region 0 #[{ dst:=Z a,op:=Op.call { callee:=Callee.builtin Builtin.recover,args:=#[],argTypes:=#[] },type:=h,pos:=f,after:=#[],guard:=F }] X).seq g).wpS b c d e w:=by
 apply wpS_seq;apply wpS_region;simp[wpOpsS,go_sem,i,Exit.thenS];exact j
theorem zd9 {c:Program} {d:Exit->Act->List Frame->Zw->Prop} {e:Act} {b:List Frame} {w:Zw} {g:Code} {h:TypeId} {f:String} (i:recoverD b=F) (j:g.wpS c d (e.put (Z a) .nilIface) b w) : ((Code.region 0 #[{ dst:=Z a,op:=Op.call { callee:=Callee.builtin Builtin.recover,args:=#[],argTypes:=#[] },type:=h,pos:=f,after:=#[],guard:=F }] X).seq g).wpS c d e b w:=by
 apply wpS_seq;apply wpS_region;simp[wpOpsS,go_sem,i,Exit.thenS];exact j
theorem catch_idle (e a:Addr) (w:Zw) : CallsD prog 46 #[Zp (Z e),Zp (Z a)] .returning w fun a f w'=>a=.returned (.tuple #[])/\f=.returning/\w'=w:=by
 have i:∀w:Zw,(binOp BinOp.eql 20 .nilIface .nilIface).run prog w=.ok (Y true) w:=fun _=>oD
 refine callsD_of_wpS func46 rfl fun h g c=>?_
 refine zd9 (by simp[recoverD,c]) ?_;simp only[ntmps46,List.size_toArray,jd,je,Nat.reduceAdd,Nat.reduceSub,Array.replicate_succ,Array.replicate_zero,List.push_toArray,List.append_toArray,js,jK,Act.put,List.setIfInBounds_toArray,List.set_cons_succ,List.set_cons_zero];refine wpS_of_wp (wp_mono (Q:=fun a b w'=>a=.normal/\b.defers=[]/\w'=w) ?_ ?_);·go_wp2
 ·rintro a b w' ⟨rfl,d,rfl⟩;exact⟨d,_,rfl,.tuple #[],by simp[results,results46],rfl,c,rfl⟩
theorem zqz (a c:Nat) (at_:Int) (w:Zw) (p:w.cell? (A a 0 F)=Z (U O 0)) (f:w.cell? (A a 1 F)=Z (U O 0)) (m:w.frozen? (A a 0 F)=X) (n:w.frozen? (A a 1 F)=X) (t:a<w.heap.size) : CallsD prog 46 #[Zp (Z (A a 0 F)),Zp (Z (A c 0 F))] (.panicking [{ v:=.iface 96 (Za #[U O at_]),recovered:=X }]) w fun b h w'=>b=.returned (.tuple #[])/\h=.panicking [{ v:=.iface 96 (Za #[U O at_]),recovered:=true }]/\w'.cell? (A a 0 F)=Z (U O 2)/\w'.cell? (A a 1 F)=Z (U O at_)/\Fr a w w':=by
 have l:=kc96;have k:=kc28;have u:∀w:Zw,(binOp BinOp.eql 20 (.iface 96 (Za #[U O at_])) .nilIface).run prog w=.ok (Y X) w:=fun _=>oD
 have x:∀w:Zw,(Instr.typeAssert (.iface 96 (Za #[U O at_])) 20 96 true).run prog w=.ok (.tuple #[Za #[U O at_],Y true]) w:=fun _=>oD
 refine callsD_of_wpS func46 rfl fun e d g=>?_
 refine zb3 (v:=.iface 96 (Za #[U O at_])) (cs':={ e with mode:=.panicking [{ v:=.iface 96 (Za #[U O at_]),recovered:=true }] } :: d) (by simp[recoverD,g]) ?_;exact oz06x59
theorem zrj (a c:Nat) (at_:Int) (w:Zw) (z:w.cell? (A c 0 F)=Z (U O at_)) (B:c<w.heap.size) (p:w.cell? (A a 0 F)=Z (U O 0)) (f:w.cell? (A a 1 F)=Z (U O 0)) (m:w.frozen? (A a 0 F)=X) (n:w.frozen? (A a 1 F)=X) (t:a<w.heap.size) : CallsD prog 46 #[Zp (Z (A a 0 F)),Zp (Z (A c 0 F))] (.panicking [{ v:=.iface 97 (Za #[]),recovered:=X }]) w fun b h w'=>b=.returned (.tuple #[])/\h=.panicking [{ v:=.iface 97 (Za #[]),recovered:=true }]/\w'.cell? (A a 0 F)=Z (U O 2)/\w'.cell? (A a 1 F)=Z (U O at_)/\Fr a w w':=by
 have l:=kc96;have k:=kc28;have u:∀w:Zw,(binOp BinOp.eql 20 (.iface 97 (Za #[])) .nilIface).run prog w=.ok (Y X) w:=fun _=>oD
 have x:∀w:Zw,(Instr.typeAssert (.iface 97 (Za #[])) 20 96 true).run prog w=.ok (.tuple #[Za #[U O 0],Y X]) w:=fun _=>oD
 have C:∀w:Zw,(Instr.typeAssert (.iface 97 (Za #[])) 20 97 true).run prog w=.ok (.tuple #[Za #[],Y true]) w:=fun _=>oD
 have y:=kc97;refine callsD_of_wpS func46 rfl fun e d g=>?_
 refine zb3 (v:=.iface 97 (Za #[])) (cs':={ e with mode:=.panicking [{ v:=.iface 97 (Za #[]),recovered:=true }] } :: d) (by simp[recoverD,g]) ?_;exact oz06x59
theorem Ld.new {L:Zv} {T:TypeId} (d:w.ownsRow a 76 3 L ts.length (lexs.cellsOf ts)) (n:ts.length<=3000) (l:∀p∈ts,Fine p) (i:fF w):∃G,Ld (w.alloc (Zc #[L] T)) w.heap.size G ts ⟨0,X⟩:=by
 have o:3<w.heap.size:=by
  obtain⟨y,p,fr,h,_⟩:=i;rcases jL 3 w.heap.size with b | b
  ·exact b
  ·rw[Array.getElem?_eq_none b]at h;simp at h
 have j:fF (w.alloc (Zc #[L] T)):=zb2 i (bal _);have u:=d.alloc (Zc #[L] T);obtain⟨q,e,rfl,B,s⟩:=own_shape d
 have k:ts.length<=e:=by
  rcases d.2 with⟨f,r⟩|⟨c,x,z,f,_,_,r,_⟩
  ·omega
  ·injection f with _ _ e3;omega
 rcases Nat.eq_zero_or_pos ts.length with g | g
 ·refine⟨0,⟨q,e,oB,by simpa using k,fun b=>by dsimp only at b;omega⟩,oB,fun v m=>oA,oA,n,jz _,l,rfl,j,o⟩
 ·obtain⟨c,rfl⟩:=s g;have t:=d.lt c rfl;refine⟨c,⟨Z (A c 0 F),e,oB,by simpa using k,fun b=>oB⟩,oB,fun v m=>?_,t.2,n,jz _,l,rfl,j,o⟩;exact lexs.tok_cells u m
def fN (w:Zw) (n:Nat) (ts:List Tok) (q:Tree × St) (e:Ending) (w':Zw):Prop :=
 ∃v,e=.returned (.tuple #[v,Za #[U O (if q.2.bad then 2 else 0),U O (if q.2.bad then gB ts n q.2 else 0)]])/\Lies (fun b=>w.heap.size<=b/\b<w'.heap.size) w' (if q.2.bad then gE else q.1) v/\Below w.heap.size w w'
theorem fN.bad (d:c.2.bad=true) (b:Below w.heap.size w w'):fN w a ts c (.returned (.tuple #[Za #[U O 0,I empty,U O 0,J F 0 0],Za #[U O 2,U O (gB ts a c.2)]])) w':=by
 unfold fN;rw[d];exact⟨_,rfl,Lies.leaf _ _ _ _ _,b⟩
theorem fN.good {v:Zv} (e:c.2.bad=X) (f:Lies (fun b=>w.heap.size<=b/\b<w'.heap.size) w' c.1 v) (d:Below w.heap.size w w'):fN w a ts c (.returned (.tuple #[v,Za #[U O 0,U O 0]])) w':=by
 unfold fN;rw[e];exact⟨_,rfl,f,d⟩
theorem ya2 {x:Zv} {ae n:Nat} (a7:w.ownsRow ae 76 3 x ts.length (lexs.cellsOf ts)) (ar:ts.length<=3000) (ao:∀ac∈ts,Fine ac) (am:fF w) (av:bO ts=Z c) : Calls prog 20 #[x,U O n] w (fN w n ts c):=by
 have aC:=kc25;have aD:=kc28;have aE:=kc99;have aH:∀(a5:Fn) (first a2:Array Zv) (w:Zw),(Instr.makeFunc a5 first a2).run prog w=.ok (.func a5 first a2) w:=fun _ _ _ _=>rfl
 obtain⟨t,D⟩:∃t,t=((w.alloc (Zc #[U O n] 3)).alloc (Zc #[U O 0,I empty,U O 0,J F 0 0] 25)).alloc (Zc #[U O 0,U O 0] 28):=⟨_,rfl⟩
 have ax:t.heap.size=w.heap.size+3:=by rw[D];simp
 have an:Below w.heap.size w t:=by rw[D];exact((bal _).alloc oB _).alloc oE _
 obtain⟨G,C⟩:=Ld.new (w:=t) (L:=x) (T:=99) (by rw[D];exact((a7.alloc _).alloc _).alloc _) ar ao (zb2 am an);have r:=zyd C av;rw[ax]at r C;obtain⟨b,L,rfl,aG,_⟩:=own_shape a7;rw[D]at r C;go_enter_defers func20,ntmps20;obtain⟨g,j⟩:∃g,g=(((w.alloc (Zc #[U O n] 3)).alloc (Zc #[U O 0,I empty,U O 0,J F 0 0] 25)).alloc (Zc #[U O 0,U O 0] 28)).alloc (Zc #[J b ts.length L] 99):=⟨_,rfl⟩
 rw[<- j]at r C;have aI:g.heap.size=w.heap.size+4:=by rw[j];simp
 have e:Below w.heap.size w g:=by rw[j];exact(((bal _).alloc oB _).alloc oE _).alloc oE _
 have aA:g.cell? (A w.heap.size 0 F)=Z (U O n):=by
  have ag:(w.alloc (Zc #[U O n] 3)).cell? (A w.heap.size 0 F)=Z (U O n):=oB;rw[j];exact((((Below.refl (w.alloc (Zc #[U O n] 3)).heap.size (w.alloc (Zc #[U O n] 3))).alloc (jE _) _).alloc oB _).alloc oB _).cell (p:=(A w.heap.size 0 F)) oB |>.trans ag
 have a9:Box4 g (w.heap.size+1) (U O 0) (I empty) (U O 0) (J F 0 0):=by
  have:=((Box4.new (w.alloc (Zc #[U O n] 3)) (U O 0) (I empty) (U O 0) (J F 0 0) 25).alloc (Zc #[U O 0,U O 0] 28)).alloc (Zc #[J b ts.length L] 99);rw[jO]at this;rw[j];exact this
 have l:g.cell? (A (w.heap.size+2) 0 F)=Z (U O 0)/\g.cell? (A (w.heap.size+2) 1 F)=Z (U O 0)/\g.frozen? (A (w.heap.size+2) 0 F)=X/\g.frozen? (A (w.heap.size+2) 1 F)=X:=by
  have aw:((w.alloc (Zc #[U O n] 3)).alloc (Zc #[U O 0,I empty,U O 0,J F 0 0] 25)).heap.size=w.heap.size+2:=oB;generalize (w.alloc (Zc #[U O n] 3)).alloc (Zc #[U O 0,I empty,U O 0,J F 0 0] 25)=o at *;rw[<- aw];have d:=((Below.refl (o.alloc (Zc #[U O 0,U O 0] 28)).heap.size (o.alloc (Zc #[U O 0,U O 0] 28))).alloc (jE _) (Zc #[J b ts.length L] 99)).block o.heap.size oB;rw[j];refine⟨(jM (a:=(A o.heap.size 0 F)) d).trans oB,(jM (a:=(A o.heap.size 1 F)) d).trans oB,(jN (a:=(A o.heap.size 0 F)) d).trans oB,(jN (a:=(A o.heap.size 1 F)) d).trans oB⟩
 go_wp2_with (fail);rw[j]at r;refine r.mono ?_;rw[<- j];rintro y u (⟨d,rfl,a⟩|⟨d,v,rfl,a6,aF,a⟩)
 ·have az:=a.size;have h:=a.block (w.heap.size+2) oA oB;have ak:=a.block w.heap.size oA oB;have P:=a9.fr a oA;have z:=(jM (a:=(A (w.heap.size+2) 0 F)) h).trans l.1;have B:=(jM (a:=(A (w.heap.size+2) 1 F)) h).trans l.2.1;have M:=(jN (a:=(A (w.heap.size+2) 0 F)) h).trans l.2.2.1;have N:=(jN (a:=(A (w.heap.size+2) 1 F)) h).trans l.2.2.2;have aj:=(jM (a:=(A w.heap.size 0 F)) ak).trans aA
  have aB:CallsD prog 46 #[Zp (Z (A (w.heap.size+2) 0 F)),Zp (Z (A w.heap.size 0 F))] (.panicking (Pan ts c.2)) u fun y W w'=>y=.returned (.tuple #[])/\W=.panicking [{ v:=lost ts c.2,recovered:=true }]/\w'.cell? (A (w.heap.size+2) 0 F)=Z (U O 2)/\w'.cell? (A (w.heap.size+2) 1 F)=Z (U O (gB ts n c.2))/\Fr (w.heap.size+2) u w':=by
   unfold Pan lost gB
   cases aJ:ts[c.2.i]? with
   | none=>exact zrj _ _ _ _ aj oA z B M N oA
   | some ac=>exact zqz _ _ _ _ z B M N oA
  have m:Hid (Below w.heap.size w u):=⟨a.os.trans e.os,a.tape.trans e.tape,a.output.trans e.output,jp e.size a.size,fun k s=>(a.block k oA oE).trans (e.block k s)⟩
  go_wp2;refine leaves_cons (f:=46) (args:=#[Zp (Z (A (w.heap.size+2) 0 F)),Zp (Z (A w.heap.size 0 F))]) oB oY ?_;refine aB.mono ?_;rintro y W ad ⟨rfl,rfl,ah,ai,q⟩;obtain⟨Q,R,S,V,_,_,_,_⟩:=P.fr q oA;have af:Hid (Below w.heap.size w ad):=⟨q.os.trans m.out.os,q.tape.trans m.out.tape,q.output.trans m.out.output,jp m.out.size q.size,fun k s=>(q.block k oA oE).trans (m.out.block k s)⟩
  refine⟨.tuple #[Za #[U O 0,I empty,U O 0,J F 0 0],Za #[U O 2,U O (gB ts n c.2)]],?_,fN.bad d af.out⟩;simp[results,results20,go_sem,Q,R,S,V,ah,ai,empty]
 ·obtain⟨a8,E,aa,_,rfl,al,ab,a3,rfl⟩:=a6.shape;have az:=a.size;have h:=a.block (w.heap.size+2) oA oB;have P:=a9.fr a oA;have z:=(jM (a:=(A (w.heap.size+2) 0 F)) h).trans l.1;have B:=(jM (a:=(A (w.heap.size+2) 1 F)) h).trans l.2.1;have M:=(jN (a:=(A (w.heap.size+2) 0 F)) h).trans l.2.2.1;have N:=(jN (a:=(A (w.heap.size+2) 1 F)) h).trans l.2.2.2;obtain⟨Q,R,S,V,aK,aL,aM,aN⟩:=id P;have m:Hid (Below w.heap.size w u):=⟨a.os.trans e.os,a.tape.trans e.tape,a.output.trans e.output,jp e.size a.size,fun k s=>(a.block k oA oE).trans (e.block k s)⟩
  go_wp2;refine leaves_cons (f:=46) (args:=#[Zp (Z (A (w.heap.size+2) 0 F)),Zp (Z (A w.heap.size 0 F))]) oB oY ?_;refine(catch_idle _ _ _).mono ?_;rintro y W ad ⟨rfl,rfl,ay⟩;subst ay;have au:=Fr.put u (w.heap.size+1) (U O a8) (I E) (U O aa) (J al ab a3);have ap:=a6.frP (x:=w.heap.size+1) au (fun K d=>⟨d.2,oA⟩) (fun K d=>d);refine⟨.tuple #[Za #[U O a8,I E,U O aa,J al ab a3],Za #[U O 0,U O 0]],?_,fN.good d ?_ ?_⟩;·simp[results,results20,go_sem,Q,R,S,V,z,B]
  ·exact ap.frP (x:=w.heap.size+2) (((Fr.refl _ _).set 0 _).set 1 _) (fun K d=>⟨by simpa using d.2,oA⟩) (fun K d=>⟨oA,by simpa using d.2⟩)
  ·exact(((((m.out.setCell oB _).setCell oB _).setCell oB _).setCell oB _).setCell oE _).setCell oE _
end
end syn
namespace syn
open Go.RowKit
def zqc (w:Zw) (P:Nat) (o:Option Int) (e:Ending) (w':Zw):Prop :=
 e=.returned (Y o.isSome)/\(∀a,o=Z a->w'.cell? (A P 0 F)=Z (U O a))/\w'.frozen? (A P 0 F)=X/\Fr P w w'
variable {b:Nat}
theorem zrh {a:List Tree} (f:b<a.length) (c d:Int):vI (a.drop b) c d=match uG a[b] c d with | none=>F | some e=>vI (a.drop (b+1)) c e:=by
 rw[List.drop_eq_getElem_cons f,vI]
 all_goals (cases uG a[b] c d<;>rfl)
theorem ztb {e:Tree} {b a d:Int} (f:0<=a) (g:a<=500) (h:1<=b) (i:b<=17) (c:uG e b a=Z d):0<=d/\d<=500:=by
 rw[zcb e b a f g h i]at c;have:=qU e;split at c;·simp only[jh]at c;omega
 ·simp at c
theorem zdu {w:Zw} {h v:Zv} {c:Obj} (e:w.cell? (A b 0 F)=Z h) (f:w.frozen? (A b 0 F)=X):((w.setCell (A b 0 F) v).alloc c).cell? (A b 0 F)=Z v/\((w.setCell (A b 0 F) v).alloc c).frozen? (A b 0 F)=X:=by
 have g:b<(w.setCell (A b 0 F) v).heap.size:=by rw[jQ];exact jR w (A b 0 F) e
 have d:=((Below.refl (w.setCell (A b 0 F) v).heap.size (w.setCell (A b 0 F) v)).alloc (jE _) c).block b g;exact⟨(jM (a:=(A b 0 F)) d).trans (jS _ _ _ e),(jN (a:=(A b 0 F)) d).trans (by simp[f])⟩
theorem ya6 {w:Zw} {f:Zv} (c:Obj) (e:w.cell? (A b 0 F)=Z f) (g:w.frozen? (A b 0 F)=X):(w.alloc c).cell? (A b 0 F)=Z f/\(w.alloc c).frozen? (A b 0 F)=X:=by
 have d:=((Below.refl w.heap.size w).alloc (jE _) c).block b (jR w (A b 0 F) e);exact⟨(jM (a:=(A b 0 F)) d).trans e,(jN (a:=(A b 0 F)) d).trans g⟩
theorem zna (E:Tree) (n:Zv) (w:Zw) (b:Nat) (c d:Int) (aC:0<=d) (aD:d<=500) (aE:1<=c) (aF:c<=17) (s:w.cell? (A b 0 F)=Z (U O d)) (z:w.frozen? (A b 0 F)=X) (B:Lies (fun e=>e<w.heap.size/\e≠b) w E n):Calls prog 48 #[n,U O c,Zp (Z (A b 0 F))] w (zqc w b (uG E c d)):=by
 have ay:=kc25;have aB:b<w.heap.size:=jR w (A b 0 F) s
 match E,B with
 | .node k x m ks,B =>
  have ih:∀(a:Nat) (N:a<ks.length) (n:Zv) (w:Zw) (d:Int),0<=d->d<=500->c+1<=17->w.cell? (A b 0 F)=Z (U O d)->w.frozen? (A b 0 F)=X->Lies (fun e=>e<w.heap.size/\e≠b) w ks[a] n ->
    Calls prog 48 #[n,U O (c+1),Zp (Z (A b 0 F))] w (zqc w b (uG ks[a] (c+1) d)):=fun a N n w d y r o ah ai ak=>zna ks[a] n w b (c+1) d y r oA o ah ai ak
  unfold Lies at B;obtain⟨u,K,rfl,aH,ao⟩:=B;have aA:=Box4.new w (U O k) (I x) (U O m) (J u ks.length K) 25;unfold uG;by_cases ag:16<c;·rw[jv (.inl ag)];go_enter func48,ntmps48;go_wp2;go_ret;exact⟨rfl,fun f h=>by simp at h,(zdu s z).2,((Fr.refl _ _).set _ _).alloc _⟩
  by_cases aj:500<d+1;·rw[jv (.inr aj)];go_enter func48,ntmps48;go_wp2;go_ret;exact⟨rfl,fun f h=>by simp at h,(zdu s z).2,((Fr.refl _ _).set _ _).alloc _⟩
  rw[ju oA];obtain⟨l,M⟩:∃l,l=vI ks (c+1) (d+1):=⟨_,rfl⟩
  rw[<- M];have ad:Hid (vI (ks.drop 0) (c+1) (d+1)=l):=M.symm;clear M;have P:(ks.length:Int)<=4611686018427387904:=oA;go_enter func48,ntmps48;go_wp2;go_loopw [25] (fun R wr=>∃(a:Nat) (i:Int),a<=ks.length/\R=U O a/\0<=i/\i<=500/\Hid (vI (ks.drop a) (c+1) i=l)/\wr.cell? (A b 0 F)=Z (U O i)/\wr.frozen? (A b 0 F)=X/\Fr b w wr/\Box4 wr w.heap.size (U O k) (I x) (U O m) (J u ks.length K)) (fun R _=>ks.length - (intOf R).toNat)
  case atStart =>
   refine⟨0,d+1,jz _,rfl,oA,oA,ad.out,?_,?_,?_,?_⟩;·exact(zdu s z).1
   ·exact(zdu s z).2
   ·exact((Fr.refl _ _).set _ _).alloc _
   ·have:=Box4.new (w.setCell (A b 0 F) (U O (d+1))) (U O k) (I x) (U O m) (J u ks.length K) 25;rw[jQ]at this;exact this
  case round =>
   obtain⟨a,i,N,rfl,a7,a8,G,W,a2,q,g⟩:=hrel;have aI:=g.lt;obtain⟨aJ,aK,aL,aM,_,_,_,_⟩:=id g;by_cases t:a<ks.length
   ·obtain⟨af,D,rfl,a6,am⟩:=ao (by intro L;rw[L]at t;simp at t);have an:=am.to (w':=wr) (Q:=fun e=>e<wr.heap.size/\e≠b) (fun e g=>⟨jo g.1 q.size,g.2⟩) (fun e g D=>jM (a:=(A e D F)) (q.block e g.1 (by simpa using g.2))) a6;obtain⟨v,⟨aN,aO,aP,aQ,rfl,av,aw,ax,az⟩,P⟩:=an.get a t;have aG:af<wr.heap.size:=jo a6.1 q.size;obtain⟨a9,ac,aa,_,C,S,ab,T,rfl⟩:=P.shape;injection C with C;simp only[Array.mk.injEq,jq,and_true]at C;obtain⟨rfl,rfl,rfl,rfl⟩:=C;have a3:=ya6 (Zc #[U O a9,I ac,U O aa,J S ab T] 25) W a2;have V:=ih a t _ (wr.alloc (Zc #[U O a9,I ac,U O aa,J S ab T] 25)) i a7 a8 oA a3.1 a3.2 (P.to (fun e g=>⟨oG,g.2⟩) (fun e g D=>((Below.refl wr.heap.size wr).alloc (jE _) _).cell (p:=(A e D F)) g.1));have HS:Hid (vI (ks.drop a) (c+1) i=match uG ks[a] (c+1) i with | none=>F | some f=>vI (ks.drop (a+1)) (c+1) f):=zrh t _ _;have ae:Hid (∀f,uG ks[a] (c+1) i=Z f->0<=f/\f<=500):=fun f h=>ztb a7 a8 oA oA h
    clear ih;generalize ap:uG ks[a] (c+1) i=au at *;clear ap
    cases au with
    | none =>
     have j:Hid (l=F):=by show _=_;rw[<- G.out,HS.out]
     go_wp2_with (fail);refine V.mono ?_;rintro L ar ⟨rfl,y,r,o⟩;go_wp2;go_ret
     exact⟨by rw[j.out];rfl,fun f h=>by rw[j.out]at h;simp at h,r,(q.trans (Fr.al _ _)).trans o⟩
    | some f =>
     have j:Hid (vI (ks.drop (a+1)) (c+1) f=l):=by show _=_;rw[<- G.out,HS.out]
     have a5:=ae.out f rfl;go_wp2_with (fail);refine V.mono ?_;rintro L ar ⟨rfl,y,r,o⟩;go_wp2;go_roundw
     case rel=>exact⟨a+1,f,oA,oJ,a5.1,a5.2,j.out,y f rfl,r,(q.trans (Fr.al _ _)).trans o,(g.alloc _).fr o oA⟩
     case measure=>simp[intOf];omega
   ·have j:Hid (l=Z i):=by
     show _=_;rw[<- G.out,List.drop_eq_nil_of_le oA,vI]
    go_wp2;go_ret
    exact⟨by rw[j.out];rfl,fun f h=>by
     rw[j.out]at h;simp only[jh]at h;rw[<- h]
     exact W,a2,q⟩
termination_by SizeOf.sizeOf E
decreasing_by exact dI N
theorem zz2 (i:Tree) (o:Zv) (w:Zw) (m:Lies (·<w.heap.size) w i o) : Calls prog 21 #[o] w fun l w'=>l=.returned (Y (fitsT i))/\Below w.heap.size w w':=by
 have u:=kc25;obtain⟨e,h,f,_,rfl,b,g,c,rfl⟩:=m.shape;have s:=zh2 i;have y:((w.alloc (Zc #[U O e,I h,U O f,J b g c] 25)).alloc (Zc #[U O 0] 3)).heap.size=w.heap.size+2:=oB
 have q:=zna i (Za #[U O e,I h,U O f,J b g c]) ((w.alloc (Zc #[U O e,I h,U O f,J b g c] 25)).alloc (Zc #[U O 0] 3)) (w.heap.size+1) 1 0 oA oA oA oA oz06y73 oz06y73
  (m.to (fun k a=>⟨oA,oA⟩) (fun k a t=>(((Below.refl w.heap.size w).alloc (jE _) _).alloc oB _).cell (p:=(A k t F)) a))
 go_enter func21,ntmps21;go_wp2_with (fail);refine q.mono ?_;rintro l z ⟨rfl,v,x,d⟩;go_wp2;go_ret;refine⟨by rw[<- s];rfl,?_⟩;have a:=((Below.refl w.heap.size w).alloc (jE _) (Zc #[U O e,I h,U O f,J b g c] 25)).alloc oB (Zc #[U O 0] 3);exact⟨d.os.trans a.os,d.tape.trans a.tape,d.output.trans a.output,jp a.size d.size,fun n r=>(d.block n oA oE).trans (a.block n r)⟩
end syn
namespace syn
open Go.RowKit
open lexs (Tok Fine own_shape qV)
def vJ (w:Zw) (o:Out) (e:Ending) (w':Zw):Prop :=
 ∃v,e=.returned (.tuple #[v,Za #[U O o.code,U O o.place]])/\Lies (fun b=>w.heap.size<=b/\b<w'.heap.size) w' o.tree v/\Below w.heap.size w w'
def zpb (H:Zw->Prop) (a:Nat) (x:ByteArray):Prop:=∀w:Zw,H w->Calls prog a #[I x] w (vJ w (parse x))
def dA (w:Zw):Prop:=qV w/\fF w
structure Box2 (w:Zw) (N:Nat) (x0 x1:Zv):Prop where
 c0:w.cell? (A N 0 F)=Z x0
 c1:w.cell? (A N 1 F)=Z x1
 f0:w.frozen? (A N 0 F)=X
 f1:w.frozen? (A N 1 F)=X
variable {c d f g:Zv} {h:Nat}
theorem Box2.new (w:Zw) (a b:Zv) (T:TypeId):Box2 (w.alloc (Zc #[a,b] T)) w.heap.size a b:=oV
theorem Box2.lt {w:Zw} (a:Box2 w h c d):h<w.heap.size:=jR w (A h 0 F) a.c0
theorem Box2.fr {w w':Zw} {r b:Nat} (e:Box2 w b c d) (g:Fr r w w') (h:b≠r):Box2 w' b c d:=by
 have f:=g.block b e.lt (by simpa using h);exact⟨(jM (a:=(A b 0 F)) f).trans e.c0,(jM (a:=(A b 1 F)) f).trans e.c1,(jN (a:=(A b 0 F)) f).trans e.f0,(jN (a:=(A b 1 F)) f).trans e.f1⟩
theorem Box2.below {w w':Zw} (a:Box2 w h c d) (b:Below w.heap.size w w'):Box2 w' h c d:=a.fr (r:=h+1) (Fr.below b) oA
theorem Box2.alloc {w:Zw} (b:Box2 w h c d) (a:Obj):Box2 (w.alloc a) h c d:=b.below (bal a)
theorem Box4.below {w w':Zw} (a:Box4 w h c d f g) (b:Below w.heap.size w w'):Box4 w' h c d f g:=a.fr (r:=h+1) (Fr.below b) oA
theorem vJ.none {w w':Zw} {a b:Int} (c:Below w.heap.size w w'):vJ w ⟨gE,a,b⟩ (.returned (.tuple #[Za #[U O 0,I empty,U O 0,J F 0 0],Za #[U O a,U O b]])) w' :=
 ⟨_,rfl,Lies.leaf _ _ _ _ _,c⟩
theorem fI {w a:Zw} (h:Below w.heap.size w a) (b c d e f g:Zv):Below w.heap.size w ((((((a.setCell (A w.heap.size 0 F) b).setCell (A w.heap.size 1 F) c).setCell (A w.heap.size 2 F) d).setCell (A w.heap.size 3 F) e).setCell (A (w.heap.size+1) 0 F) f).setCell (A (w.heap.size+1) 1 F) g) :=
 (((((h.setCell (jE _) _).setCell (jE _) _).setCell (jE _) _).setCell (jE _) _).setCell (Nat.le_succ _) _).setCell (Nat.le_succ _) _
theorem zg3 (e:ByteArray):zpb dA 9 e:=by
 intro w ⟨aw,ax⟩;have aP:=kc25;have aQ:=kc28;have V:Below w.heap.size w ((w.alloc (Zc #[U O 0,I empty,U O 0,J F 0 0] 25)).alloc (Zc #[U O 0,U O 0] 28)):=(bal _).alloc oB _;have s:=lexs.scan_own e _ (lexs.hasErr_below aw V);have a7:=(Box4.new w (U O 0) (I empty) (U O 0) (J F 0 0) 25).alloc (Zc #[U O 0,U O 0] 28);have T:=Box2.new (w.alloc (Zc #[U O 0,I empty,U O 0,J F 0 0] 25)) (U O 0) (U O 0) 28;rw[jO]at T;unfold parse
 cases u:lexs.scan e.data.toList with
 | err a3 aJ =>
  rw[u]at s;have az:=lexs.scan_err u;have aR:(a3 != 0)=true:=by simpa using az
  simp only[lexs.Res.code,lexs.Res.place,lexs.Res.toks]at s;go_enter func9,ntmps9;go_wp2_with (fail);refine s.mono ?_;rintro P a ⟨v,rfl,ad,k⟩;have q:=a7.below k;have r:=T.below k;obtain⟨x,y,z,B,ae,af,ag,ah⟩:=id q;obtain⟨C,D,ai,aj⟩:=id r;have ar:w.heap.size+1<a.heap.size:=r.lt;have ap:w.heap.size<a.heap.size:=q.lt;have N:Below w.heap.size w a:=V.trans (k.mono oE);go_wp2;go_region
  all_goals
   go_wp2;refine jT (v:=.tuple #[Za #[U O 0,I empty,U O 0,J F 0 0],Za #[U O a3,U O aJ]]) (by simp[results,results9,go_sem,x,y,z,B,C,D,ap,ar,empty]) rfl (vJ.none ?_)
   exact below_drewN ((fI N _ _ _ _ _ _).alloc oE _) 1
 | ok ts =>
  rw[u]at s;simp only[lexs.Res.code,lexs.Res.place,lexs.Res.toks]at s;obtain⟨aS,a5,_,_,ac⟩:=zed (lexs.scan_len u);simp only[ac];have aA:=lexs.scan_fine u;have aC:=lexs.scan_len u;generalize (Tree.node 1 (xB ts) 0 a5.1,a5.2)=f at *;go_enter func9,ntmps9;go_wp2_with (fail);refine s.mono ?_;rintro P a ⟨v,rfl,ad,k⟩;have q:=a7.below k;have r:=T.below k;have ar:w.heap.size+1<a.heap.size:=r.lt;have ap:w.heap.size<a.heap.size:=q.lt;have W:Below w.heap.size w a:=V.trans (k.mono oE);have a9:=Box2.new a (U O 0) (U O 0) 28;have a6:=ya2 (n:=e.size) (ad.alloc (Zc #[U O 0,U O 0] 28)) aC aA (zb2 ax (W.alloc oA (Zc #[U O 0,U O 0] 28))) ac;unfold xT;cases M:f.2.bad
  case true =>
   go_wp2_with (fail);refine a6.mono ?_;rintro P d ⟨aM,rfl,h,g⟩;rw[M]at h |-;simp only[if_true]at h |-;obtain⟨l,p,m,_,rfl,i,o,j,rfl⟩:=h.shape;have G:=(q.alloc (Zc #[U O 0,U O 0] 28)).below g;have K:=(r.alloc (Zc #[U O 0,U O 0] 28)).below g;have L:=a9.below g;obtain⟨x,y,z,B,ae,af,ag,ah⟩:=id G;obtain⟨C,D,ai,aj⟩:=id K;obtain⟨aK,aL,aN,aO⟩:=id L;have an:w.heap.size+1<d.heap.size:=K.lt;have am:w.heap.size<d.heap.size:=G.lt;have ao:a.heap.size<d.heap.size:=L.lt;have N:Below w.heap.size w d:=(W.alloc oA _).trans (g.mono oE);go_wp2;go_region
   all_goals
    go_wp2;refine jT (v:=.tuple #[Za #[U O 0,I empty,U O 0,J F 0 0],Za #[U O 2,U O (gB ts e.size f.2)]]) (by simp[results,results9,go_sem,x,y,z,B,C,D,am,an,ao,empty]) rfl ?_;have E:xT ts e.size f=⟨gE,2,gB ts e.size f.2⟩:=by unfold xT;rw[M];rfl
    rw[E];refine vJ.none ?_;have a2:Below w.heap.size w ((d.setCell (A a.heap.size 0 F) (U O 2)).setCell (A a.heap.size 1 F) (U O (gB ts e.size f.2))):=(N.setCell oE _).setCell oE _;exact below_drewN ((fI a2 _ _ _ _ _ _).alloc oE _) 1
  case false =>
   go_wp2_with (fail);refine a6.mono ?_;rintro P d ⟨aM,rfl,h,g⟩;rw[M]at h |-;simp only[jr,if_false]at h |-;obtain⟨l,p,m,_,rfl,i,o,j,rfl⟩:=h.shape;have G:=(q.alloc (Zc #[U O 0,U O 0] 28)).below g;have K:=(r.alloc (Zc #[U O 0,U O 0] 28)).below g;have L:=a9.below g;obtain⟨aK,aL,aN,aO⟩:=id L;have an:w.heap.size+1<d.heap.size:=K.lt;have am:w.heap.size<d.heap.size:=G.lt;have ao:a.heap.size<d.heap.size:=L.lt;have N:Below w.heap.size w d:=(W.alloc oA _).trans (g.mono oE);have a2:Below w.heap.size w ((d.setCell (A a.heap.size 0 F) (U O 0)).setCell (A a.heap.size 1 F) (U O 0)):=(N.setCell oE _).setCell oE _;have S:Fr a.heap.size d ((d.setCell (A a.heap.size 0 F) (U O 0)).setCell (A a.heap.size 1 F) (U O 0)):=((Fr.refl _ _).set _ _).set _ _;have aD:=h.frP (x:=a.heap.size) S (Q:=fun c=>a.heap.size<c/\c<d.heap.size) (fun c b=>⟨b.2,by have:=b.1;rw[jO]at this;omega⟩) (fun c b=>⟨by have:=b.1;rw[jO]at this;omega,b.2⟩);have au:=G.fr S oA;have av:=K.fr S oA;have aE:((d.setCell (A a.heap.size 0 F) (U O 0)).setCell (A a.heap.size 1 F) (U O 0)).heap.size=d.heap.size:=oB;go_wp2_with (fail);generalize (d.setCell (A a.heap.size 0 F) (U O 0)).setCell (A a.heap.size 1 F) (U O 0)=R at *;have ab:=aD.frP (x:=R.heap.size) (Fr.al R (Zc #[U O l,I p,U O m,J i o j] 25)) (Q:=fun c=>a.heap.size<c/\c<(R.alloc (Zc #[U O l,I p,U O m,J i o j] 25)).heap.size) (fun c b=>⟨oA,oA⟩) (fun c b=>⟨b.1,oG⟩);have ay:=Box4.new R (U O l) (I p) (U O m) (J i o j) 25;refine(zz2 f.1 _ _ (ab.to (fun c b=>b.2) (fun _ _ _=>rfl))).mono ?_;rintro P ak ⟨rfl,t⟩;have a8:Below w.heap.size w ak:=(a2.alloc oA _).trans (t.mono oE);obtain⟨x,y,z,B,ae,af,ag,ah⟩:=(au.alloc (Zc #[U O l,I p,U O m,J i o j] 25)).below t;obtain⟨C,D,ai,aj⟩:=(av.alloc (Zc #[U O l,I p,U O m,J i o j] 25)).below t;obtain⟨aF,aG,aH,aI,_,_,_,_⟩:=ay.below t;rw[aE]at aF aG aH aI;have aB:=ab.frP (x:=w.heap.size) (Fr.below t) (Q:=fun c=>a.heap.size<c/\c<ak.heap.size) (fun c b=>⟨b.2,oA⟩) (fun c b=>⟨b.1,jo b.2 t.size⟩);cases aa:fitsT f.1
   case true =>
    go_wp2;refine jT (v:=.tuple #[Za #[U O l,I p,U O m,J i o j],Za #[U O 0,U O 0]]) (by simp[results,results9,go_sem,x,y,z,B,C,D]) rfl ?_;have E:xT ts e.size f=⟨f.1,0,0⟩:=by unfold xT;rw[M,aa];rfl
    rw[E];refine⟨_,rfl,?_,fI a8 _ _ _ _ _ _⟩;exact(aB.frP (x:=w.heap.size) (Fr.put _ _ _ _ _ _) (fun c b=>⟨b.2,oA⟩) (fun c b=>b)).frP (x:=w.heap.size+1) (((Fr.refl _ _).set 0 _).set 1 _) (fun c b=>⟨by simpa using b.2,oA⟩) (fun c b=>⟨oA,by simpa using b.2⟩)
   case false =>
    go_wp2;refine jT (v:=.tuple #[Za #[U O 0,I empty,U O 0,J F 0 0],Za #[U O 1,U O 0]]) (by simp[results,results9,go_sem,x,y,z,B,C,D,empty]) rfl ?_;have E:xT ts e.size f=⟨gE,1,0⟩:=by unfold xT;rw[M,aa];rfl
    rw[E];exact vJ.none (fI a8 _ _ _ _ _ _)
end syn
namespace lexs
open Go.RowKit
theorem ybj (s:ByteArray) (c:Nat) (G:s.size<=3000) (hi:c<s.size) (w:Zw) : Calls prog 58 #[I s,U O c] w fun t w'=>∃m:ByteArray,t=.returned (I m)/\m.size=yR (s.data.toList.drop c)/\Below w.heap.size w w':=by
 go_enter func58,ntmps58;go_wp2;go_loopw [6] (fun l wr=>∃b:Nat,b<=20/\l=U O b/\(∀a,a<20->wr.cell? (A w.heap.size a F)=Z (I (sg a)))/\Below w.heap.size w wr/\Hid (∀a,a<b->uW (s.data.toList.drop c) a=X)) (fun l _=>20 - (intOf l).toNat)
 case atStart =>
  refine⟨0,oA,rfl,?_,bal _,fun a n=>oA⟩;intro a n;have v:a=0\/a=1\/a=2\/a=3\/a=4\/a=5\/a=6\/a=7\/a=8\/a=9\/a=10\/a=11\/a=12\/a=13\/a=14\/a=15\/a=16\/a=17\/a=18\/a=19:=oA;rcases v with rfl | rfl | rfl | rfl | rfl | rfl | rfl | rfl | rfl | rfl | rfl | rfl | rfl | rfl | rfl | rfl | rfl | rfl | rfl | rfl<;>simp<;>rfl
 case round =>
  obtain⟨b,E,rfl,k,j,h⟩:=hrel;by_cases o:b<20
  ·have x:=k b o;have C:=zyw b;have B:=yai b;have q:Hid (∀a,a<20->wr.cell? (A w.heap.size a F)=Z (I (sg a))):=k;clear k;obtain⟨d,g⟩:∃d,d=sg b:=⟨_,rfl⟩
   have f:=zs7 s c b oA d g;rw[<- g]at x C B;have r:Hid (d=sg b):=g;have HS:Hid (uW (s.data.toList.drop c) b=true ↔ c+d.size<=s.size/\((s.extract c (c+d.size)).toList==d.toList)=true):=f;clear g f;have L:IntKind.i64.wrap ((c:Int)+(d.size:Int))=(c:Int)+(d.size:Int):=oU;by_cases y:(c:Int)+(d.size:Int)<=(s.size:Int)
   ·have K:=zbc 9 underlying9 s c d.size oA;go_wp2
    go_quiet (fail)
    go_wp2;·go_ret;have f:uW (s.data.toList.drop c) b=true:=HS.out.2 ⟨oA,by assumption⟩;refine⟨d,rfl,?_,below_drewN j _⟩;rw[zrf _ b o h.out f,<- zak d,r.out,zo0]
    ·have f:uW (s.data.toList.drop c) b=X:=by
      rw[Bool.eq_false_iff];intro e;have i:=(HS.out.1 e).2;have u:((s.extract c (c+d.size)).toList==d.toList)=X:=by assumption
      rw[u]at i;exact absurd i oC
     exact oz06x60
   ·have D:decide ((c:Int)+(d.size:Int)<=(s.size:Int))=X:=by simpa using y
    go_wp2
    go_quiet (fail)
    go_wp2
    have f:uW (s.data.toList.drop c) b=X:=by
     rw[Bool.eq_false_iff];intro e;have i:=(HS.out.1 e).1;omega
    exact oz06x60
  ·have z:b=20:=oA;subst z;go_wp2;go_ret;exact⟨_,rfl,by rw[zr0 _ h.out];rfl,j⟩
end lexs
namespace syn
open Go.RowKit
theorem zu3 {w wr:Zw} {e f g c h i j d:Zv} {b:TypeId} (a:Below (w.heap.size+2) ((w.alloc (Zc #[e,f,g,c] b)).alloc (Zc #[h,i,j,d] b)) wr) : wr.cell? (A w.heap.size 3 F)=Z c/\wr.cell? (A (w.heap.size+1) 3 F)=Z d/\w.heap.size+2<=wr.heap.size/\Below w.heap.size w wr:=by
 refine⟨?_,?_,?_,?_⟩;·rw[a.cell (p:=(A w.heap.size 3 F)) oB];simp
 ·rw[a.cell (p:=(A (w.heap.size+1) 3 F)) oB];simp
 ·have:=a.size;simpa using this
 ·exact((bal _).alloc oB _).trans (a.mono oA)
theorem kQ.kid {w wr:Zw} {g:List Tree} {a b:Nat} (o:a<w.heap.size) (m:kQ (·<w.heap.size) w g a b) (n:Below w.heap.size w wr) {j:Nat} (p:j<g.length) : ∃c d e f,wr.cell? (A a (b+j*4) F)=Z c/\wr.cell? (A a (b+j*4+1) F)=Z d/\wr.cell? (A a (b+j*4+2) F)=Z e/\wr.cell? (A a (b+j*4+3) F)=Z f/\Lies (·<wr.heap.size) wr g[j] (Za #[c,d,e,f]):=by
 obtain⟨v,⟨c,d,e,f,rfl,h,i,k,l⟩,q⟩:=(m.below o n).get j p;exact⟨c,d,e,f,h,i,k,l,q⟩
set_option maxRecDepth 100000 in
theorem zqq (g:Tree) (d e:Zv) (w:Zw) (i:Lies (·<w.heap.size) w g d) (j:Lies (·<w.heap.size) w g e) : Calls prog 6 #[d,e] w fun b w'=>b=.returned (Y true)/\Below w.heap.size w w':=by
 have P:=kc25
 match g with
 | .node k x m ks =>
  have ih:∀a (hi:a<ks.length) (d e:Zv) (w:Zw),Lies (·<w.heap.size) w ks[a] d->Lies (·<w.heap.size) w ks[a] e->Calls prog 6 #[d,e] w fun b w'=>b=.returned (Y true)/\Below w.heap.size w w' :=
   fun a hi d e w r s=>zqq ks[a] d e w r s
  unfold Lies at i j;obtain⟨n,p,rfl,a5,C⟩:=i;obtain⟨o,q,rfl,_,D⟩:=j;go_enter func6,ntmps6;go_wp2;go_loopw [5] (fun a wr=>∃f:Nat,f<=ks.length/\a=U O f/\Below (w.heap.size+2) ((w.alloc (Zc #[U O k,I x,U O m,J n ks.length p] 25)).alloc (Zc #[U O k,I x,U O m,J o ks.length q] 25)) wr) (fun a _=>ks.length - (intOf a).toNat)
  case atStart=>exact⟨0,jz _,rfl,Below.refl _ _⟩
  case round =>
   obtain⟨f,a3,rfl,l⟩:=hrel;obtain⟨a8,a9,E,h⟩:=zu3 l;by_cases c:f<ks.length
   ·obtain⟨W,a6,rfl,z,u⟩:=C (by intro b;rw[b]at c;simp at c);obtain⟨a2,a7,rfl,B,v⟩:=D (by intro b;rw[b]at c;simp at c);obtain⟨ab,ac,ad,ae,L,M,N,Q,G⟩:=u.kid z h c;obtain⟨af,ag,ah,ai,R,S,T,V,K⟩:=v.kid B h c;have t:=ih f c _ _ wr.drew G.drew K.drew;go_wp2
    go_region_with (go_at_call 6;refine t.mono ?_;rintro b aa ⟨rfl,y⟩)
    all_goals
     go_wp2;go_roundw
     case rel=>exact⟨f+1,oA,oJ,l.drew.trans (y.mono E)⟩
     case measure=>simp[intOf];omega
   ·go_wp2;go_ret;exact⟨rfl,h⟩
termination_by SizeOf.sizeOf g
decreasing_by exact dI hi
end syn
end Go.Proofs.YtjkcecppnmlhjaaGreatDoor
