/- What a name finds among the given faces, one by one; the first of all that is wrong with the faces. -/
import Derived.Test.YtjkcecppnmlhjaaGreatDoorNQr
import Derived.Test.YtjkcecppnmlhjaaGreatDoorNQ19
open Go.Proofs.Tryz
open Go.Value renaming int → U, string → I, slice → J, bool → Y, agg → Za, pointer → Zp
open Go.IntKind renaming i64 → O
open Go.Obj renaming cells → Zc
open Go.Addr renaming mk → A
open Option renaming none → F, some → Z
open Bool renaming false → X, true → H
open Go renaming World → Zw, Value → Zv
set_option maxHeartbeats 4000000
set_option linter.unusedVariables false
set_option linter.unusedSimpArgs false
set_option maxRecDepth 100000
set_option linter.unusedSectionVars false
namespace Go.Proofs.YtjkcecppnmlhjaaGreatDoor
theorem oz20y204 {p:Prop} (q:p:=by
 have kl:=j.2.1;go_simp):p:=q
theorem oz20x194 {p:Prop} (q:p:=by
 go_simp;refine l.out _ _ aj (fun E=>?_);clear l z E;replace C:=av;replace a3:=aj;replace ah:=aO;clear av aj aO d kf ke;have d:=a3;generalize f.alloc (Zc #[I x,U O m,U O deep] 115)=ba at *;generalize f.heap.size=aI at *;refine oneH 11 fun z l=>?_
 have am:=C.rl;have aS:=World.news_of_block (w:=ba) (B:=aI) (cs:=#[I x,U O m,U O deep]) (t:=115) (fr:=(0,0)) bj;refine step_append_lies _ oI (.tmp 227) (.tmp 233) 80 oI (D+1) 115 bz (Za #[I ⟨#[]⟩,U O 0,U O 0]) 3 32 underlying80 bn bu bv bw rfl oC _ L.length (zT L) oI am (A aI 0 F) 1 1 [I x,U O m,U O deep] oI rfl aS oS oC (by unfold maxLen;omega) oA (by have:=C.lc.lt;omega) _ rfl ?_;intro bb aJ w7 aZ a6 az kp;have ax:=Q4.grown a3 a6 bp;refine l.out _ _ ax (fun E=>?_);have bh:=LK.push C aZ a6 az;have bf:=ah.trans (FrU.push (D:=D) (cap:=aJ) a6 az (L.length+1));have km:w7.frozen? (A D 4 F)=X:=(jN (a:=(A D 4 F)) (a6.block D C.lc.lt (fun o=>by have bc:D+1<=D:=(am.lt _ o.symm).1;omega))).trans (C.lc.fz 4);have kw:w7.cell? (A D 4 F)=Z (J a7 L.length t):=(jM (a:=(A D 4 F)) (a6.block D C.lc.lt (fun o=>by have bc:D+1<=D:=(am.lt _ o.symm).1;omega))).trans C.lc.c4;clear l z E aZ a6 az am aS C d ah a3;have d:=ax;rw[uP oI];simp only[jA,jB,jC];refine tkw 12 (Zp (Z (A D 0 F))) d HP ?_;simp only[jA,jB,jC];refine tkw 13 (Zp (Z (A D 4 F))) d HP ?_;simp only[jA,jB,jC];refine oneH 14 fun z l=>?_
 go_simp;have bi:=Q4.other (M:=D) oA ax 4 (J (Z (A bb 0 F)) (L.length+1) aJ);refine l.out _ _ bi (fun E=>?_);clear l z E;refine wpAnyH_done oD ?_ _;go_wp2
 exact aH.out _ _ _ (.inr rfl) (RSR.ofKU bf bh oB (fun _=>rfl) i.out)):p:=q
theorem oz20x195 {p:Prop} (q:p:=by
 simp only[jA,jB,jC];refine tkw 24 (U O at_) d HP ?_;simp only[jA,jB,jC];refine oneH 25 fun z l=>?_
 go_simp;go_at_call 35;refine(rU (R:=R) (rest:=d7 L x deep at_ (if decide ((L.length:Int)<20)=X then .bad 1 at_ else if(m==1||!hi vx ctx 0)=X then .bad 7 at_ else .ok (L++[⟨x,m,deep⟩],a')) (e+1)) h a9.out).mono ?_;rintro o aD ⟨rfl,T,ao,ad,ab,aA,K,G⟩;go_wp2;have aQ:=Q4.grown k T oE;obtain⟨aM,aN⟩:=aF.out;refine l.out _ _ ⟨aQ,K.lc.c4,(K.rl.cellAt (e*3) oA).trans aM,(K.rl.cellAt (e*3+2) oA).trans aN⟩ (fun E=>?_);replace a2:=a2.trans T;clear l z E d h a9 aA k aM aN aF T;refine wpAnyH_done oD ?_ _;go_wp2;go_roundw
 case rel=>exact⟨e+1,ad,ab,ao,oA,oJ,a2,aQ,K,G⟩
 case measure=>simp[intOf];omega):p:=q
theorem oz20x198 {p:Prop} (T:p:=by
 go_wp2_with (go_at_call 117;refine(zag _ _ _ _).mono ?_;rintro e ir ⟨rfl,a6⟩;obtain rfl:=a6.symm);refine(rU d f.out).mono ?_;rintro e iq ⟨rfl,W,ip,ik,ij,io,a2,Q⟩;go_wp2
 exact s.out _ _ _ (.inr rfl) (RSR.ofKU (FrU.of (V.trans W) _) a2 (jE _) (fun _=>rfl) Q.out)):p:=T
theorem oz20x202 {p:Prop} (B:p:=by
 refine(rU g d.out).mono ?_;rintro e i4 ⟨rfl,C,i3,hR,hQ,hV,E,y⟩;go_wp2
 exact k.out _ _ _ (.inr rfl) (RSR.ofKU (FrU.of C _) E (jE _) (fun _=>rfl) y.out)):p:=B
theorem oz20x199 {p:Prop} (a8:p:=by
 go_wp2_with (go_at_call 117;refine(zag _ _ _ _).mono ?_;rintro f iH ⟨rfl,ae⟩;obtain rfl:=ae.symm);refine(rU d e.out).mono ?_;rintro f iG ⟨rfl,a9,iF,iz,iw,iE,aa,a6⟩;go_wp2
 exact K.out _ _ _ (.inr rfl) (RSR.ofKU (FrU.of (l.trans a9) _) aa (jE _) (fun _=>rfl) a6.out)):p:=a8
theorem oz20x201 {p:Prop} (l:p:=by
 refine(rU e d.out).mono ?_;rintro i ie ⟨rfl,P,ib,hZ,hX,i5,S,G⟩;go_wp2
 exact r.out _ _ _ (.inr rfl) (RSR.ofKU (FrU.of (M.trans P) _) S (jE _) (fun _=>rfl) G.out)):p:=l
theorem oz20x203 {p:Prop} (l:p:=by
 rintro i ic ⟨rfl,N,h,g,f,i4,Q,E⟩;go_wp2
 go_meet
 case rel=>exact⟨g,f,h,N,Q,E⟩):p:=l
theorem oz20x196 {p:Prop} (c:p:=by
 rintro b d wr h ad;have a9:=RSR.from C ad
 rcases h with rfl | rfl
 ·exact jT (results_none rfl _ _ _) rfl a9
 ·exact bodyPost_end (results_none rfl _ _ _) rfl a9):p:=c
theorem oz20x197 {p:Prop} (c:p:=by
 obtain⟨g,o,aa,ac,ab⟩:=i oB;obtain⟨af,⟨ag,ah,ai,aj,rfl,a5,a6,a7,a8⟩,a2⟩:=ab.get 0 oB;simp only[Nat.zero_mul,Nat.add_zero,jI]at a5 a6 a7 a8 a2;obtain⟨tk,tx,tm,ae⟩:=d;unfold Lies at a2;obtain⟨ta,tc,h,_,_⟩:=a2;injection h with h;simp only[Array.mk.injEq,jq,and_true]at h;obtain⟨rfl,rfl,rfl,rfl⟩:=h
 exact⟨_,_,_,_,_,_,rfl,g,o,aa,ac,a5,a6,a7,a8⟩):p:=c
theorem oz20x200 {p:Prop} (a:p:=by
 rintro P ez ⟨rfl,aS,ee,aO,aN,eq,aU,aI⟩;go_wp2
 exact aK.out _ _ ⟨rfl,aE,r,b,aO,aN,ee,_,_,_,_,_,_,aR.trans (FrU.of aS _),aU,aI.out⟩):p:=a
theorem oz20y205 {p:Prop} (y:p:=by
 have e4:¬((ps.length:Int)+1<=(e:Int)):=oA;go_simp):p:=y
theorem oz20x193 {p:Prop} (y:p:=by
 go_simp;refine l.out _ _ ⟨ax,az⟩ (fun G=>?_);clear l z G;replace k:=ar;replace aa:=ax;replace an:=b7;replace aA:=az;clear ar ax b7 az h dq dp;have h:=And.intro aa aA;generalize C.alloc (Zc #[I u,U O t,U O 1] 115)=bG at *;generalize C.heap.size=aZ at *;refine oneH 19 fun z l=>?_
 have af:=k.rl;have bf:=World.news_of_block (w:=bG) (B:=aZ) (cs:=#[I u,U O t,U O 1]) (t:=115) (fr:=(0,0)) ci;refine step_append_lies _ oI (.tmp 48) (.tmp 62) 80 oI (D+1) 115 cx (Za #[I ⟨#[]⟩,U O 0,U O 0]) 3 32 underlying80 cm cu cv cw rfl oC _ i.length (zT i) oI af (A aZ 0 F) 1 1 [I u,U O t,U O 1] oI rfl bf oS oC (by unfold maxLen;omega) oA (by have:=k.lc.lt;omega) _ rfl ?_;intro aH aF w7 bo T aC e3;have aN:=Q4.grown aa T bh;have ck:=T.size;have be:Below w0.heap.size w0 w7:=k.bs.grown T k.bs.size (fun e5 f=>by have b2:=(af.lt _ f).1;have:=k.hD;omega);refine l.out _ _ ⟨aN,be⟩ (fun G=>?_);have b9:=LK.push k bo T aC;have cd:=an.trans (FrU.push (D:=D) (cap:=aF) T aC (i.length+1));have b1:w7.frozen? (A D 4 F)=X:=(jN (a:=(A D 4 F)) (T.block D k.lc.lt (fun f=>by have b2:D+1<=D:=(af.lt _ f.symm).1;omega))).trans (k.lc.fz 4);have e7:w7.cell? (A D 4 F)=Z (J aS i.length aT):=(jM (a:=(A D 4 F)) (T.block D k.lc.lt (fun f=>by have b2:D+1<=D:=(af.lt _ f.symm).1;omega))).trans k.lc.c4
 have bD:Hid ((Value.slice (Z (A aH 0 F)) (i.length+1) aF).ownBlock≠Z w.heap.size):=fun f=>by
  have aG:aH=w.heap.size:=by injection f
  rcases aC with b0 | b0
  ·exact bh (by rw[b0,aG])
  ·have cc:=aW.out;have cb:=aY.out;omega
 clear l z G bo T aC af bf k h an aa aA;have h:=And.intro aN be;rw[uP oI];simp only[jA,jB,jC];refine tkw 20 (Zp (Z (A D 0 F))) h HP ?_;simp only[jA,jB,jC];refine tkw 21 (Zp (Z (A D 4 F))) h HP ?_;simp only[jA,jB,jC];refine oneH 22 fun z l=>?_
 go_simp;have ba:=Q4.other (M:=D) (fun f=>aV.out f.symm) aN 4 (J (Z (A aH 0 F)) (i.length+1) aF);refine l.out _ _ ⟨ba,b9.bs⟩ (fun G=>?_);clear l z G;refine wpAnyH_done oD ?_ _;go_wp2;go_roundw
 case rel=>exact⟨e+1,_,i++[⟨u,t,1⟩],_,bE.out,oJ,bz.out,by rw[jb];exact congrArg (·+1) bw.out,br.out,b9,cd,bD.out,ba,by have cc:=aW.out;have cb:=aY.out;have dx:=ck;rw[jQ];omega⟩
 case measure=>simp[intOf];omega):p:=y
namespace chk
open Go.RowKit
open syn face cut
open ord (tkd uP)
theorem zm3:(prog.info? 115).map (fun a=>(a.zero,a.size,a.bytes))=Z (Z (Za #[I ⟨#[]⟩,U O 0,U O 0]),3,32):=oD
section
variable {w0 w w7:Zw} {D:Nat} {own:FV} {fs:List FV} {fv lv:Zv} {L:List Loc} {at_:Int} {p0 p1 p2 p3 p4 p5:Zv} {fc fa:Int} {st:Bool} {g cap:Nat} {x:ByteArray} {m dp:Int}
theorem LK.push (a:LK w0 w D own fs fv lv L at_ p0 p1 p2 p3 p4 p5 fc fa st) (q:w7.ownsRow (D+1) 115 3 (J (Z (A g 0 F)) (L.length+1) cap) (L.length+1) (zT L++[I x,U O m,U O dp])) (e:w.grownBy w7 lv.ownBlock) (j:lv.ownBlock=Z g\/g=w.heap.size):LK w0 (w7.setCell (A D 4 F) (J (Z (A g 0 F)) (L.length+1) cap)) D own fs fv (J (Z (A g 0 F)) (L.length+1) cap) (L++[⟨x,m,dp⟩]) at_ p0 p1 p2 p3 p4 p5 fc fa st:=by
 have i:Z D≠lv.ownBlock:=fun c=>by have h:D+1<=D:=(a.rl.lt _ c.symm).1;omega
 have p:=a.lc.block (e.block D a.lc.lt i)
 have o:g≠D:=by
  rcases j with c | c
  ·exact fun d=>i (by rw[c,d])
  ·have:=a.lc.lt;omega
 have n:Below w0.heap.size w0 w7:=a.bs.grown e a.bs.size (fun r c=>by have h:=(a.rl.lt _ c).1;have:=a.hD;omega)
 have k:=a.rf.kept e (by
  cases c:fv.ownBlock with
  | none=>exact .inl rfl
  | some b=>exact .inr (fun d=>a.ne b c d.symm))
 refine⟨p.set4 _,n.setCell a.hD _,a.hD,a.ow,a.fi,jU k (fun c=>by have h:D+1<=D:=(k.lt _ c).1;omega) _,?_,fun b f d=>?_⟩;·rw[jb,zq0];exact jU q (fun c=>o (by injection c)) _
 ·have l:g=b:=by injection d
  subst l;rcases j with c | c
  ·exact a.ne _ f c
  ·have:=(a.rf.lt _ f).2;omega
theorem FrU.push (c:w.grownBy w7 lv.ownBlock) (i:lv.ownBlock=Z g\/g=w.heap.size) (n:Nat):FrU D lv (J (Z (A g 0 F)) n cap) w (w7.setCell (A D 4 F) (J (Z (A g 0 F)) n cap)):=by
 refine⟨by rw[jQ];exact c.size,fun b e f h=>?_,fun b a=>?_⟩;·exact(jP w7 (A D 4 F) _ b f).trans (c.block b e (fun a=>h a.symm))
 ·have d:g=b:=by injection a
  subst d;rcases i with a | a
  ·exact .inl a
  ·exact .inr oA
end
def d7 {α:Type} (L:List Loc) (x:ByteArray) (deep at_:Int) (rest:Res α) (i:Nat):Res α:=if(!(L.drop i).any (fun l=>l.deep==deep&&eqS l.name x))=X then .bad 5 at_ else rest
theorem zxh {α:Type} {L:List Loc} {x:ByteArray} {deep at_:Int} {rest:Res α} {a:Nat} (hi:a<L.length):d7 L x deep at_ rest a=if(!(L[a].deep==deep&&eqS L[a].name x))=X then .bad 5 at_ else d7 L x deep at_ rest (a+1):=by
 unfold d7;rw[List.drop_eq_getElem_cons hi,List.any_cons];cases(L[a].deep==deep&&eqS L[a].name x)<;>simp
theorem zzg {α:Type} {L:List Loc} {x:ByteArray} {deep at_:Int} {rest:Res α} {a:Nat} (hi:L.length<=a):d7 L x deep at_ rest a=rest:=by
 unfold d7;rw[List.drop_eq_nil_of_le hi];rfl
section
variable {w0 w:Zw} {D n:Nat} {own:FV} {fs:List FV} {fv lv:Zv} {L:List Loc} {p0 p1 p2 p3 p4 p5:Zv} {fc fa ctx deep at_ ix vx m a' an c b:Int} {last st:Bool} {x:ByteArray} {a:Option Addr} {sc:Nat} {R:Res (List Loc × Int)}
theorem zyz (bp:lv.ownBlock≠Z n) (hf:fs.length<=1000) (bg:L.length<=20) (ai:Q4 n (U O 7) (I x) (U O m) (J a 1 sc) w) (h:LK w0 w D own fs fv lv L a' p0 p1 p2 p3 p4 p5 c b st) (kr:D<n) (aR:st=X->a'=an) (aT:KU fc fa c b R (t7 L x m ctx deep at_ (ix,vx,an)) st) {bE iz iW j8 jZ c6 ch cu dt e4 ef er eF eQ f3 fh fu g5 gh gv h5 hk hv hK hV i8 ic ie ig ii ij ik il im io ip iq ir iu iv iw iy iC iD iE iF iG iH iI iJ iK iL iM iN iO iP iQ iR iS iT iU iV iY iZ j0 j1 j2 j3 j4 j5 j6 j7 j9 ja jc jk jm jx jV jW jX jY k0 k1 k2 k3 k4 k5 k6 k7 k9 ka bF bG bH bN bP bR bS bX bY bZ c7 c8 c9 ca cb cc cd ce cf cg ci cj ck cm cn co cp cq cr ct cv cw cx cy cz cA cB d0 d1 d2 d3 d4 d5 d6 da db dc dd de df dh di dj dk dl dm dn dq dr ds du dw dx dy dz dZ e0 e1 e2 e3 e5 e6 e7 e8 e9 ea eb ec ed ee eg eh ei ej ek em en eo ep eq eu ev ew ey ez eA eB eC eD eE eG eH eI eJ eK eL eM eN eO eP eR eS eT eU eV eW eX eY eZ f0 f4 f5 f6 f7 f8 f9 fb fe ff fg fi fj fk fl fm fn fo fp fq ft fw fx fy fX fY g0 g1 g2 g3 g4 g6 g7 g8 g9 ga gb gd ge gf gg gi gj gl gm gn gp gq gr gs gu gw gx gy gz gP h0 h1 h2 h3 h4 h6 h7 h8 h9 ha hc he hg hh hj hl hm hn ho hp hq hr hs ht hu hw hz hC hD hE hF hG hH hI hJ hL hM hN hO hP hQ hR hS hT hU hW hX hY hZ i1 i3 i4 i5 i6 i7 i9 ia ib:Zv} {aa:Exit->Act->Zw->Prop} (aP:∀c N kb aK w,aa (.panic c) ⟨N,aK⟩ w->aa (.panic c) ⟨kb,aK⟩ w) (k:∀(o:Exit) (N:Array Zv) (v:Zw),o=.ret\/o=.normal->RSR w0 D own fs fv lv L p0 p1 p2 p3 p4 p5 fc fa w R (.returned (.tuple #[])) v->aa o ⟨N,[]⟩ v) : Code.wp prog (xH 24 f92) aa ⟨#[Zp (Z (A D 0 F)),bE,U O ctx,U O deep,Y last,iz,Zp (Z (A n 0 F)),iW,j8,jZ,U O at_,c6,ch,cu,U O ix,U O vx,dt,e4,ef,er,eF,eQ,f3,fh,fu,g5,gh,gv,h5,hk,hv,hK,hV,i8,ic,ie,ig,ii,ij,ik,il,im,io,ip,iq,ir,iu,iv,iw,iy,iC,iD,iE,iF,iG,iH,iI,iJ,iK,iL,iM,iN,iO,iP,iQ,iR,iS,iT,iU,iV,iY,iZ,j0,j1,j2,j3,j4,j5,j6,j7,j9,ja,jc,jk,jm,jx,jV,jW,jX,jY,k0,k1,k2,k3,k4,k5,k6,k7,k9,ka,bF,bG,bH,bN,bP,bR,bS,bX,bY,bZ,c7,c8,c9,ca,cb,cc,cd,ce,cf,cg,ci,cj,ck,cm,cn,co,cp,cq,cr,ct,cv,cw,cx,cy,cz,cA,cB,d0,d1,d2,d3,d4,d5,d6,da,db,dc,dd,de,df,dh,di,dj,dk,dl,dm,dn,dq,dr,ds,du,dw,dx,dy,dz,dZ,e0,e1,e2,e3,e5,e6,e7,e8,e9,ea,eb,ec,ed,ee,eg,eh,ei,ej,ek,em,en,eo,ep,eq,eu,ev,ew,ey,ez,eA,eB,eC,eD,eE,eG,eH,eI,eJ,eK,eL,eM,eN,eO,eP,eR,eS,eT,eU,eV,eW,eX,eY,eZ,f0,f4,f5,f6,f7,f8,f9,fb,fe,ff,fg,fi,fj,fk,fl,fm,fn,fo,fp,fq,ft,fw,fx,fy,fX,fY,g0,g1,g2,g3,g4,g6,g7,g8,g9,ga,gb,gd,ge,gf,gg,gi,gj,gl,gm,gn,gp,gq,gr,gs,gu,gw,gx,gy,gz,gP,h0,h1,h2,h3,h4,h6,h7,h8,h9,ha,hc,he,hg,hh,hj,hl,hm,hn,ho,hp,hq,hr,hs,ht,hu,hw,hz,hC,hD,hE,hF,hG,hH,hI,hJ,hL,hM,hN,hO,hP,hQ,hR,hS,hT,hU,hW,hX,hY,hZ,i1,i3,i4,i5,i6,i7,i9,ia,ib],[]⟩ w:=by
 have kj:=kc25;have aH:Hid _:=k;have HP:Hid _:=aP;have i:Hid _:=aT;have aE:Hid _:=aR;clear k aP aT aR;obtain⟨aC,b6,b7,b8⟩:=id ai;have b2:=h.lc.c14
 conv=>arg 2;whnf
 dsimp only
 cases st with
 | true =>
  have aU:R=.bad c b:=i.out;have aY:RSR w0 D own fs fv lv L p0 p1 p2 p3 p4 p5 fc fa w R (.returned (.tuple #[])) w:=RSR.mk (FrU.refl _ _ _) h ⟨jE _,aU⟩;have b9:Hid (RSR w0 D own fs fv lv L p0 p1 p2 p3 p4 p5 fc fa w R (.returned (.tuple #[])) w):=aY;clear aY aU i h;go_wp2
  exact aH.out _ _ _ (.inl rfl) b9.out
 | false =>
  obtain rfl:=aE.out rfl;clear aE
  replace i:Hid (KU fc fa c b R (d7 L x deep at_ (if decide ((L.length:Int)<20)=X then .bad 1 at_ else if(m==1||!hi vx ctx 0)=X then .bad 7 at_ else .ok (L++[⟨x,m,deep⟩],a')) 0) X):=by
   have q:=i.out;unfold t7 at q;unfold d7;rw[List.drop_zero];rw[show decide ((L.length:Int)<20)=decide (L.length<20) by simp only[decide_eq_decide];omega];exact q
  obtain⟨bz,bn,bu,bv,bw⟩:=info_parts zm3;obtain⟨a7,t,rfl,kq,bo⟩:=lexs.own_shape h.rl;have kk:prog.cellsOf 115=3:=oD;have aX:=jR w (A n 0 F) aC;have kg:Hid (n<w.heap.size):=aX;clear aX
  go_upto_block 5 with fail
  go_cut [21] from 168 to 202 (fun _ wr=>∃(s r:Int) (u:Bool),Fr D w wr/\Q4 n (U O 7) (I x) (U O m) (J a 1 sc) wr/\LK w0 wr D own fs fv (J a7 L.length t) L a' p0 p1 p2 p3 p4 p5 s r u/\Hid (KU fc fa s r R (if decide ((L.length:Int)<20)=X then .bad 1 at_ else if(m==1||!hi vx ctx 0)=X then .bad 7 at_ else .ok (L++[⟨x,m,deep⟩],a')) u))
  case first =>
   go_wp2;go_loopw [21] (fun N wr=>∃(e:Nat) (s r:Int) (u:Bool),e<=L.length/\N=U O e/\Fr D w wr/\Q4 n (U O 7) (I x) (U O m) (J a 1 sc) wr/\LK w0 wr D own fs fv (J a7 L.length t) L a' p0 p1 p2 p3 p4 p5 s r u/\Hid (KU fc fa s r R (d7 L x deep at_ (if decide ((L.length:Int)<20)=X then .bad 1 at_ else if(m==1||!hi vx ctx 0)=X then .bad 7 at_ else .ok (L++[⟨x,m,deep⟩],a')) e) u)) (fun N _=>L.length - (intOf N).toNat)
   case atStart=>exact⟨0,c,b,X,jz _,rfl,Fr.refl _ _,ai,h,i⟩
   case round =>
    clear ai h i aC b6 b7 b8 b2;obtain⟨e,s,r,u,kn,rfl,a2,k,h,i⟩:=hrel;have P:=h.lc.c4;by_cases aV:e<L.length
    ·obtain⟨g,rfl⟩:=bo oA;obtain⟨V,af,W⟩:=zec L e aV;have b0:=(h.rl.cellAt (e*3) oA).trans V;have b1:=(h.rl.cellAt (e*3+2) oA).trans W;replace i:Hid (KU fc fa s r R (if(!(L[e].deep==deep&&eqS L[e].name x))=X then .bad 5 at_ else d7 L x deep at_ (if decide ((L.length:Int)<20)=X then .bad 1 at_ else if(m==1||!hi vx ctx 0)=X then .bad 7 at_ else .ok (L++[⟨x,m,deep⟩],a')) (e+1)) u):=KU.to (zxh aV) i.out;generalize L[e].name=y at *;generalize L[e].deep=dp at *;have aF:Hid ((zT L)[e*3]?=Z (I y)/\(zT L)[e*3+2]?=Z (U O dp)):=⟨V,W⟩
     have ko:L.length<=20:=bg;have a5:(fun f:Zw=>(Q4 n (U O 7) (I x) (U O m) (J a 1 sc) f/\f.cell? (A D 4 F)=Z (J (Z (A g 0 F)) L.length t)/\f.cell? (A g (e*3) F)=Z (I y)/\f.cell? (A g (e*3+2) F)=Z (U O dp))) wr.drew:=⟨k,P,b0,b1⟩
     clear V af W b0 b1;have be:=h.lc.lt;replace h:=h.drew;replace k:Q4 n (U O 7) (I x) (U O m) (J a 1 sc) wr.drew:=k;replace a2:=a2.trans (Fr.below (Below.refl _ _).drew);by_cases ay:deep=dp
     ·subst ay
      cases ak:eqS y x with
      | true =>
       have bm:(y.toList==x.toList)=H:=ak
       have a9:Hid (KU fc fa s r R (if X=X then .bad 5 at_ else d7 L x deep at_ (if decide ((L.length:Int)<20)=X then .bad 1 at_ else if(m==1||!hi vx ctx 0)=X then .bad 7 at_ else .ok (L++[⟨x,m,deep⟩],a')) (e+1)) u):=by
        have q:=i.out;rw[show(!(deep==deep&&eqS y x))=X by simp[ak]]at q;exact q
       clear i
       go_upto_region 31 with fail
       refine wp_region_held_drew (S:=fun f=>(Q4 n (U O 7) (I x) (U O m) (J a 1 sc) f/\f.cell? (A D 4 F)=Z (J (Z (A g 0 F)) L.length t)/\f.cell? (A g (e*3) F)=Z (I y)/\f.cell? (A g (e*3+2) F)=Z (U O deep))) oD a5 (fun d=>?_);clear a5 P;refine tkw 0 (Zp (Z (A D 0 F))) d HP ?_;simp only[jA,jB,jC];refine tkw 1 (Zp (Z (A D 0 F))) d HP ?_;simp only[jA,jB,jC];refine tkw 2 (Zp (Z (A D 0 F))) d HP ?_;simp only[jA,jB,jC];refine tkw 3 (Zp (Z (A D 4 F))) d HP ?_;simp only[jA,jB,jC];refine tkw 4 (J (Z (A g 0 F)) L.length t) d HP ?_ (hy:=Or.inl ⟨oI,fun v j=>oz20y204⟩);simp only[jA,jB,jC];refine tkw 5 (U O e) d HP ?_;simp only[jA,jB,jC];refine tkw 6 (Zp (Z (A g (e*3) F))) d HP ?_;simp only[jA,jB,jC];refine tkw 7 (Zp (Z (A g (e*3+2) F))) d HP ?_;simp only[jA,jB,jC];refine tkw 8 (U O deep) d HP ?_ (hy:=Or.inl ⟨oI,fun v j=>by have ag:=j.2.2.2;go_simp⟩);simp only[jA,jB,jC];refine tkw 9 (U O deep) d HP ?_;simp only[jA,jB,jC];refine tkw 10 (Y X) d HP ?_;simp only[jA,jB,jC];refine tkw 11 (Y X) d HP ?_;simp only[jA,jB,jC];refine tkw 12 (Zp (Z (A D 0 F))) d HP ?_;simp only[jA,jB,jC];refine tkw 13 (Zp (Z (A D 0 F))) d HP ?_;simp only[jA,jB,jC];refine tkw 14 (Zp (Z (A D 4 F))) d HP ?_;simp only[jA,jB,jC];refine tkw 15 (J (Z (A g 0 F)) L.length t) d HP ?_ (hy:=Or.inl ⟨oI,fun v j=>oz20y204⟩);simp only[jA,jB,jC];refine tkw 16 (U O e) d HP ?_;simp only[jA,jB,jC];refine tkw 17 (Zp (Z (A g (e*3) F))) d HP ?_;simp only[jA,jB,jC];refine tkw 18 (Zp (Z (A g (e*3) F))) d HP ?_;simp only[jA,jB,jC];refine tkw 19 (I y) d HP ?_ (hy:=Or.inl ⟨oI,fun v j=>by have ag:=j.2.2.1;go_simp⟩);simp only[jA,jB,jC];refine tkw 20 (Zp (Z (A n 1 F))) d HP ?_;simp only[jA,jB,jC];refine tkw 21 (I x) d HP ?_ (hy:=Or.inl ⟨oI,fun v j=>by obtain⟨⟨V,af,W,aL⟩,_⟩:=j;go_simp⟩);simp only[jA,jB,jC];refine tkw 22 (Y X) d HP ?_;simp only[jA,jB,jC];refine tkw 23 (Y X) d HP ?_
       exact oz20x195
      | false =>
       have bm:(y.toList==x.toList)=X:=ak
       have a9:Hid (KU fc fa s r R (if H=X then .bad 5 at_ else d7 L x deep at_ (if decide ((L.length:Int)<20)=X then .bad 1 at_ else if(m==1||!hi vx ctx 0)=X then .bad 7 at_ else .ok (L++[⟨x,m,deep⟩],a')) (e+1)) u):=by
        have q:=i.out;rw[show(!(deep==deep&&eqS y x))=H by simp[ak]]at q;exact q
       clear i
       go_upto_region 31 with fail
       refine wp_region_held_drew (S:=fun f=>(Q4 n (U O 7) (I x) (U O m) (J a 1 sc) f/\f.cell? (A D 4 F)=Z (J (Z (A g 0 F)) L.length t)/\f.cell? (A g (e*3) F)=Z (I y)/\f.cell? (A g (e*3+2) F)=Z (U O deep))) oD a5 (fun d=>?_);clear a5 P;refine tkw 0 (Zp (Z (A D 0 F))) d HP ?_;simp only[jA,jB,jC];refine tkw 1 (Zp (Z (A D 0 F))) d HP ?_;simp only[jA,jB,jC];refine tkw 2 (Zp (Z (A D 0 F))) d HP ?_;simp only[jA,jB,jC];refine tkw 3 (Zp (Z (A D 4 F))) d HP ?_;simp only[jA,jB,jC];refine tkw 4 (J (Z (A g 0 F)) L.length t) d HP ?_ (hy:=Or.inl ⟨oI,fun v j=>oz20y204⟩);simp only[jA,jB,jC];refine tkw 5 (U O e) d HP ?_;simp only[jA,jB,jC];refine tkw 6 (Zp (Z (A g (e*3) F))) d HP ?_;simp only[jA,jB,jC];refine tkw 7 (Zp (Z (A g (e*3+2) F))) d HP ?_;simp only[jA,jB,jC];refine tkw 8 (U O deep) d HP ?_ (hy:=Or.inl ⟨oI,fun v j=>by have ag:=j.2.2.2;go_simp⟩);simp only[jA,jB,jC];refine tkw 9 (U O deep) d HP ?_;simp only[jA,jB,jC];refine tkw 10 (Y X) d HP ?_;simp only[jA,jB,jC];refine tkw 11 (Y X) d HP ?_;simp only[jA,jB,jC];refine tkw 12 (Zp (Z (A D 0 F))) d HP ?_;simp only[jA,jB,jC];refine tkw 13 (Zp (Z (A D 0 F))) d HP ?_;simp only[jA,jB,jC];refine tkw 14 (Zp (Z (A D 4 F))) d HP ?_;simp only[jA,jB,jC];refine tkw 15 (J (Z (A g 0 F)) L.length t) d HP ?_ (hy:=Or.inl ⟨oI,fun v j=>oz20y204⟩);simp only[jA,jB,jC];refine tkw 16 (U O e) d HP ?_;simp only[jA,jB,jC];refine tkw 17 (Zp (Z (A g (e*3) F))) d HP ?_;simp only[jA,jB,jC];refine tkw 18 (Zp (Z (A g (e*3) F))) d HP ?_;simp only[jA,jB,jC];refine tkw 19 (I y) d HP ?_ (hy:=Or.inl ⟨oI,fun v j=>by have ag:=j.2.2.1;go_simp⟩);simp only[jA,jB,jC];refine tkw 20 (Zp (Z (A n 1 F))) d HP ?_;simp only[jA,jB,jC];refine tkw 21 (I x) d HP ?_ (hy:=Or.inl ⟨oI,fun v j=>by obtain⟨⟨V,af,W,aL⟩,_⟩:=j;go_simp⟩);simp only[jA,jB,jC];refine tkw 22 (Y H) d HP ?_;simp only[jA,jB,jC];refine tkw 23 (Y H) d HP ?_;exact oz20x195
     ·have bq:(dp==deep)=X:=beq_false_of_ne (fun o=>ay o.symm);have ks:¬dp=deep:=fun o=>ay o.symm
      have a9:Hid (KU fc fa s r R (if H=X then .bad 5 at_ else d7 L x deep at_ (if decide ((L.length:Int)<20)=X then .bad 1 at_ else if(m==1||!hi vx ctx 0)=X then .bad 7 at_ else .ok (L++[⟨x,m,deep⟩],a')) (e+1)) u):=by
       have q:=i.out;rw[show(!(dp==deep&&eqS y x))=H by simp[bq]]at q;exact q
      clear i
      go_upto_region 31 with fail
      refine wp_region_held_drew (S:=fun f=>(Q4 n (U O 7) (I x) (U O m) (J a 1 sc) f/\f.cell? (A D 4 F)=Z (J (Z (A g 0 F)) L.length t)/\f.cell? (A g (e*3) F)=Z (I y)/\f.cell? (A g (e*3+2) F)=Z (U O dp))) oD a5 (fun d=>?_);clear a5 P;refine tkw 0 (Zp (Z (A D 0 F))) d HP ?_;simp only[jA,jB,jC];refine tkw 1 (Zp (Z (A D 0 F))) d HP ?_;simp only[jA,jB,jC];refine tkw 2 (Zp (Z (A D 0 F))) d HP ?_;simp only[jA,jB,jC];refine tkw 3 (Zp (Z (A D 4 F))) d HP ?_;simp only[jA,jB,jC];refine tkw 4 (J (Z (A g 0 F)) L.length t) d HP ?_ (hy:=Or.inl ⟨oI,fun v j=>oz20y204⟩);simp only[jA,jB,jC];refine tkw 5 (U O e) d HP ?_;simp only[jA,jB,jC];refine tkw 6 (Zp (Z (A g (e*3) F))) d HP ?_;simp only[jA,jB,jC];refine tkw 7 (Zp (Z (A g (e*3+2) F))) d HP ?_;simp only[jA,jB,jC];refine tkw 8 (U O dp) d HP ?_ (hy:=Or.inl ⟨oI,fun v j=>by have ag:=j.2.2.2;go_simp⟩);simp only[jA,jB,jC];refine tkw 9 (U O deep) d HP ?_;simp only[jA,jB,jC];refine tkw 10 (Y H) d HP ?_;simp only[jA,jB,jC];refine tkw 11 (Y H) d HP ?_;simp only[jA,jB,jC];refine tkx 12 d HP ?_;simp only[jA,jB,jC];refine tkx 13 d HP ?_;simp only[jA,jB,jC];refine tkx 14 d HP ?_;simp only[jA,jB,jC];refine tkx 15 d HP ?_;simp only[jA,jB,jC];refine tkx 16 d HP ?_;simp only[jA,jB,jC];refine tkx 17 d HP ?_;simp only[jA,jB,jC];refine tkx 18 d HP ?_;simp only[jA,jB,jC];refine tkx 19 d HP ?_;simp only[jA,jB,jC];refine tkx 20 d HP ?_;simp only[jA,jB,jC];refine tkx 21 d HP ?_;simp only[jA,jB,jC];refine tkx 22 d HP ?_;simp only[jA,jB,jC];refine tkw 23 (Y H) d HP ?_;exact oz20x195
    ·replace i:Hid (KU fc fa s r R (if decide ((L.length:Int)<20)=X then .bad 1 at_ else if(m==1||!hi vx ctx 0)=X then .bad 7 at_ else .ok (L++[⟨x,m,deep⟩],a')) u):=KU.to (zzg oA) i.out;go_wp2
     go_meet
     case rel=>exact⟨s,r,u,a2,k,h,i⟩
  case rest =>
   clear ai h i aC b6 b7 b8 b2;obtain⟨ki,kh,ku,Q,k,h,i⟩:=hcut;have P:=h.lc.c4;go_wp2_with (fail);refine(rU h i.out).mono ?_;rintro o aD ⟨rfl,T,ao,ad,ab,aA,K,G⟩;have br:n<wc.heap.size:=jR wc (A n 0 F) k.1;replace k:=Q4.grown k T oE;replace Q:=Q.trans T;clear h i aA T P br
   go_upto_region 33 with fail
   go_cut [20,163] from 212 to 222 (fun bD _ wr=>∃(s r:Int) (u:Bool),bD=U O m/\Fr D w wr/\Q4 n (U O 7) (I x) (U O m) (J a 1 sc) wr/\LK w0 wr D own fs fv (J a7 L.length t) L a' p0 p1 p2 p3 p4 p5 s r u/\Hid (KU fc fa s r R (.ok (L++[⟨x,m,deep⟩],a')) u))
   case first =>
    replace G:Hid (KU fc fa ad ab R (if(m==1||!hi vx ctx 0)=X then .bad 7 at_ else .ok (L++[⟨x,m,deep⟩],a')) ao):=G.out;have aG:Hid (n<aD.heap.size):=jR aD (A n 0 F) k.1;by_cases aW:m=1
    ·replace G:Hid (KU fc fa ad ab R (if H=X then .bad 7 at_ else .ok (L++[⟨x,m,deep⟩],a')) ao):=KU.or1 (dO aW) G.out;go_wp2_with (go_at_call 117;refine(zag _ _ _ _).mono ?_;rintro o kd ⟨rfl,aB⟩;obtain rfl:=aB.symm);refine(rU K G.out).mono ?_;rintro o kc ⟨rfl,a8,ap,ae,ac,bs,au,ar⟩;have aw:=Q4.grown k a8 (by have:=aG.out;simp;omega);go_wp2
     go_meet
     case rel=>exact⟨ae,ac,ap,by rw[aW],Q.trans a8,aw,au,ar⟩
    ·skip;go_wp2_with (go_at_call 117;refine(zag _ _ _ _).mono ?_;rintro o kd ⟨rfl,aB⟩;obtain rfl:=aB.symm);refine(rU K G.out).mono ?_;rintro o kc ⟨rfl,a8,ap,ae,ac,bs,au,ar⟩;have aw:=Q4.grown k a8 (by have:=aG.out;simp;omega);go_wp2
     go_meet
     case rel=>exact⟨ae,ac,ap,rfl,Q.trans a8,aw,au,ar⟩
   case rest =>
    clear k K G Q;obtain⟨ae,ac,ap,rfl,Q,k,h,i⟩:=hcut;have P:=h.lc.c4;have kt:n<wc.heap.size:=jR wc (A n 0 F) k.1;have ah:FrU D (J a7 L.length t) (J a7 L.length t) w wc.drew:=(FrU.of Q _).drew;have C:=h.drew;have a3:Q4 n (U O 7) (I x) (U O m) (J a 1 sc) wc.drew:=k;have ke:=C.lc.c4;have be:=C.lc.lt;clear h P
    go_upto_region 34 with fail
    refine wp_region_held_drew (S:=fun f=>Q4 n (U O 7) (I x) (U O m) (J a 1 sc) f) oD a3 (fun d=>?_);generalize wc.drew=f at *;refine tkw 0 (Zp (Z (A D 0 F))) d HP ?_;simp only[jA,jB,jC];refine tkw 1 (Zp (Z (A D 0 F))) d HP ?_;simp only[jA,jB,jC];refine tkw 2 (Zp (Z (A D 0 F))) d HP ?_;simp only[jA,jB,jC];refine tkw 3 (Zp (Z (A D 4 F))) d HP ?_;simp only[jA,jB,jC];refine tkw 5 (Zp (Z (A n 1 F))) d HP ?_;simp only[jA,jB,jC];refine tkw 6 (I x) d HP ?_ (hy:=Or.inl ⟨oI,fun v j=>by obtain⟨V,af,W,aL⟩:=j;go_simp⟩);simp only[jA,jB,jC];refine tkw 7 (U O m) d HP ?_;simp only[jA,jB,jC];refine tkw 8 (U O deep) d HP ?_;simp only[jA,jB,jC];refine tkw 9 (Za #[I x,U O m,U O deep] ) d HP ?_;simp only[jA,jB,jC];have aj:=Q4.alloc a3 (Zc #[I x,U O m,U O deep] 115);have av:=C.alloc (Zc #[I x,U O m,U O deep] 115);have aO:=ah.alloc (Zc #[I x,U O m,U O deep] 115);have bj:(f.alloc (Zc #[I x,U O m,U O deep] 115)).heap[f.heap.size]?=Z (Zc #[I x,U O m,U O deep] 115 (0,0)):=World.alloc_heap_new f _;have kf:=av.lc.c4;refine wpAnyH_ready (rs:=[4,10]) oD oB ?_;refine AllReadyH.cons rfl (fun z l=>?_) (AllReadyH.cons rfl (fun z l=>?_) AllReadyH.nil)
    ·go_simp;refine l.out _ _ d (fun E=>?_);clear l z E;refine oneH 10 fun z l=>?_
     exact oz20x194
    ·go_simp;refine l.out _ _ aj (fun E=>?_);clear l z E;refine oneH 4 fun z l=>?_
     exact oz20x194
end
section
variable {w0 w:Zw} {D n:Nat} {own:FV} {fs:List FV} {fv lv:Zv} {L:List Loc} {p0 p1 p2 p3 p4 p5:Zv} {fc fa ctx deep at_ ix vx m a' an c b:Int} {last st:Bool} {x:ByteArray} {a:Option Addr} {sc:Nat} {R:Res (List Loc × Int)} {E:Env} {tk tm:Int} {tx:ByteArray} {ta:Option Addr} {tn tc:Nat}
theorem zy0 (hE:E=⟨own.1,fs.map (·.1)⟩) (M:kT tx) (a3:∃g o,a=Z (A g o F)/\g<w0.heap.size/\w0.cell? (A g o F)=Z (U O tk)/\w0.cell? (A g (o+1) F)=Z (I tx)/\w0.cell? (A g (o+2) F)=Z (U O tm)/\w0.cell? (A g (o+3) F)=Z (J ta tn tc)) (hf:fs.length<=1000) (u:L.length<=20) (z:Q4 n (U O 8) (I x) (U O m) (J a 2 sc) w) (d:LK w0 w D own fs fv lv L a' p0 p1 p2 p3 p4 p5 c b st) (im:D<n) (B:st=X->a'=an) (C:KU fc fa c b R (t8 L (plb E L tx) ctx at_ (ix,vx,an)) st) {ag hc hD hP i1 aw aH aS bv bS cd cp cB dd dq e1 ec eo eC eN eY fe fp g2 ge gr gw gx gy gz gP h0 h1 h2 h3 h4 h5 h6 h7 h8 h9 ha he hg hh hj hk hl hm hn ho hp hq hr hs ht hu hv hw hy hz hC hF hG hH hI hJ hK hL hM hN hO hQ hR hS hT hU hV hW hX hY hZ i3 i4 i5 i6 i7 i8 i9 ia ib ic ah ai aj ak am ao ap ar au av ax ay az aA aB aC aD aE aF aG aI aJ aK aL aM aN aO aP aQ aR aT aU aV aW aX aY aZ b0 b1 b2 b6 b7 b8 b9 ba bb bc be bf bg bh bi bj bm bn bo bp bq br bu bw bz bD bE bF bG bH bN bP bR bX bY bZ c6 c7 c8 c9 ca cb cc ce cf cg ch ci cj ck cm cn co cq cr ct cu cv cw cx cy cz cA d0 d1 d2 d3 d4 d5 d6 da db dc de df dh di dj dk dl dm dn dp dr ds dt du dw dx dy dz dZ e0 e2 e3 e4 e5 e6 e7 e8 e9 ea eb ed ee ef eg eh ei ej ek em en ep eq er eu ev ew ey ez eA eB eD eE eF eG eH eI eJ eK eL eM eO eP eQ eR eS eT eU eV eW eX eZ f0 f3 f4 f5 f6 f7 f8 f9 fb ff fg fh fi fj fk fl fm fn fo fq ft fu fw fx fy fX fY g0 g1 g3 g4 g5 g6 g7 g8 g9 ga gb gd gf gg gh gi gj gl gm gn gp gq gs gu gv:Zv} {k:Exit->Act->Zw->Prop} (v:∀c q ie t w,k (.panic c) ⟨q,t⟩ w->k (.panic c) ⟨ie,t⟩ w) (y:∀(e:Exit) (q:Array Zv) (P:Zw),e=.ret\/e=.normal->RSR w0 D own fs fv lv L p0 p1 p2 p3 p4 p5 fc fa w R (.returned (.tuple #[])) P->k e ⟨q,[]⟩ P) : Code.wp prog (xH 24 f92) k ⟨#[Zp (Z (A D 0 F)),ag,U O ctx,U O deep,Y last,hc,Zp (Z (A n 0 F)),hD,hP,i1,U O at_,aw,aH,aS,U O ix,U O vx,bv,bS,cd,cp,cB,dd,dq,e1,ec,eo,eC,eN,eY,fe,fp,g2,ge,gr,gw,gx,gy,gz,gP,h0,h1,h2,h3,h4,h5,h6,h7,h8,h9,ha,he,hg,hh,hj,hk,hl,hm,hn,ho,hp,hq,hr,hs,ht,hu,hv,hw,hy,hz,hC,hF,hG,hH,hI,hJ,hK,hL,hM,hN,hO,hQ,hR,hS,hT,hU,hV,hW,hX,hY,hZ,i3,i4,i5,i6,i7,i8,i9,ia,ib,ic,ah,ai,aj,ak,am,ao,ap,ar,au,av,ax,ay,az,aA,aB,aC,aD,aE,aF,aG,aI,aJ,aK,aL,aM,aN,aO,aP,aQ,aR,aT,aU,aV,aW,aX,aY,aZ,b0,b1,b2,b6,b7,b8,b9,ba,bb,bc,be,bf,bg,bh,bi,bj,bm,bn,bo,bp,bq,br,bu,bw,bz,bD,bE,bF,bG,bH,bN,bP,bR,bX,bY,bZ,c6,c7,c8,c9,ca,cb,cc,ce,cf,cg,ch,ci,cj,ck,cm,cn,co,cq,cr,ct,cu,cv,cw,cx,cy,cz,cA,d0,d1,d2,d3,d4,d5,d6,da,db,dc,de,df,dh,di,dj,dk,dl,dm,dn,dp,dr,ds,dt,du,dw,dx,dy,dz,dZ,e0,e2,e3,e4,e5,e6,e7,e8,e9,ea,eb,ed,ee,ef,eg,eh,ei,ej,ek,em,en,ep,eq,er,eu,ev,ew,ey,ez,eA,eB,eD,eE,eF,eG,eH,eI,eJ,eK,eL,eM,eO,eP,eQ,eR,eS,eT,eU,eV,eW,eX,eZ,f0,f3,f4,f5,f6,f7,f8,f9,fb,ff,fg,fh,fi,fj,fk,fl,fm,fn,fo,fq,ft,fu,fw,fx,fy,fX,fY,g0,g1,g3,g4,g5,g6,g7,g8,g9,ga,gb,gd,gf,gg,gh,gi,gj,gl,gm,gn,gp,gq,gs,gu,gv],[]⟩ w:=by
 have il:=kc25;have s:Hid _:=y;have HP:Hid _:=v;have f:Hid _:=C;have r:Hid _:=B;clear y v C B;obtain⟨ac,ad,ae,af⟩:=id z;have ab:=d.lc.c14
 conv=>arg 2;whnf
 dsimp only
 cases st with
 | true =>
  have G:R=.bad c b:=f.out;have K:RSR w0 D own fs fv lv L p0 p1 p2 p3 p4 p5 fc fa w R (.returned (.tuple #[])) w:=RSR.mk (FrU.refl _ _ _) d ⟨jE _,G⟩;have S:Hid (RSR w0 D own fs fv lv L p0 p1 p2 p3 p4 p5 fc fa w R (.returned (.tuple #[])) w):=K;clear K G f d;go_wp2
  exact s.out _ _ _ (.inl rfl) S.out
 | false =>
  obtain rfl:=r.out rfl;clear r;obtain⟨g,o,rfl,j,i⟩:=a3;have a7:=(d.bs.cell (p:=(A g o F)) j).trans i.1;have a8:=(d.bs.cell (p:=(A g (o+1) F)) j).trans i.2.1;have a9:=(d.bs.cell (p:=(A g (o+2) F)) j).trans i.2.2.1;have aa:=(d.bs.cell (p:=(A g (o+3) F)) j).trans i.2.2.2;have h:=rPlace tk tx tm ta tn tc ix w M d hf (jp u oC);rw[<- hE]at h;replace h:Calls prog 118 #[Zp (Z (A D 0 F)),Za #[U O tk,I tx,U O tm,J ta tn tc],U O ix] w fun e ig=>e=.returned (.tuple #[U O (plb E L tx),U O ix])/\Below w.heap.size w ig:=h
  generalize plb E L tx=N at *;clear i hE hf M u;go_wp2_with (fail);refine h.mono ?_;rintro e ii ⟨rfl,l⟩;replace d:=d.below l;have V:Fr D w ii:=Fr.below l;clear h a7 a8 a9 aa ac ad ae af ab l j z;replace f:Hid (KU fc fa c b R (if(N==1||!hi vx ix ctx)=X then .bad 7 at_ else .ok (L,a')) X):=f.out;by_cases a5:N=1;·replace f:Hid (KU fc fa c b R (if H=X then .bad 7 at_ else .ok (L,a')) X):=KU.or1 (dO a5) f.out;exact oz20x198
  ·skip;exact oz20x198
end
section
variable {w0 w:Zw} {D n:Nat} {own:FV} {fs:List FV} {fv lv:Zv} {L:List Loc} {p0 p1 p2 p3 p4 p5:Zv} {fc fa ctx deep at_ ix vx m a' an c b:Int} {last st:Bool} {x:ByteArray} {a:Option Addr} {sc:Nat} {R:Res (List Loc × Int)}
theorem zy1 (hf:fs.length<=1000) (hK:L.length<=20) (y:Q4 n (U O 9) (I x) (U O m) (J a 1 sc) w) (d:LK w0 w D own fs fv lv L a' p0 p1 p2 p3 p4 p5 c b st) (hL:D<n) (p:st=X->a'=an) (q:KU fc fa c b R (.ok (L,an)) st) {z gh h4 hj hu T ab ao aW ba bo bF c7 ci cv d4 dj dw e6 eh ev eH eS f5 fj fx g0 g1 g2 g3 g4 g5 g6 g7 g8 g9 ga gb gd ge gf gg gi gj gl gm gn gp gq gr gs gu gv gw gx gy gz gP h0 h1 h2 h3 h5 h6 h7 h8 h9 ha hc he hg hh hk hl hm hn ho hp hq hr hs ht hv hw hy hz hC hD hE hF hG hH B C E G K M N P Q S V W a2 a3 a5 a6 a7 a8 a9 aa ac ad ae af ag ah ai aj ak am ap ar au av aw ax ay az aA aB aC aD aE aF aG aH aI aJ aK aL aM aN aO aP aQ aR aS aT aU aV aX aY aZ b0 b1 b2 b6 b7 b8 b9 bb bc be bf bg bh bi bj bm bn bp bq br bs bu bv bw bz bD bE bG bH bN bP bR bS bX bY bZ c6 c8 c9 ca cb cc cd ce cf cg ch cj ck cm cn co cp cq cr ct cu cw cx cy cz cA cB d0 d1 d2 d3 d5 d6 da db dc dd de df dh di dk dl dm dn dp dq dr ds dt du dx dy dz dZ e0 e1 e2 e3 e4 e5 e7 e8 e9 ea eb ec ed ee ef eg ei ej ek em en eo ep eq er eu ew ey ez eA eB eC eD eE eF eG eI eJ eK eL eM eN eO eP eQ eR eT eU eV eW eX eY eZ f0 f3 f4 f6 f7 f8 f9 fb fe ff fg fh fi fk fl fm fn fo fp fq ft fu fw fy fX fY:Zv} {e:Exit->Act->Zw->Prop} (l:∀c h hI k w,e (.panic c) ⟨h,k⟩ w->e (.panic c) ⟨hI,k⟩ w) (o:∀(g:Exit) (h:Array Zv) (u:Zw),g=.ret\/g=.normal->RSR w0 D own fs fv lv L p0 p1 p2 p3 p4 p5 fc fa w R (.returned (.tuple #[])) u->e g ⟨h,[]⟩ u) : Code.wp prog (xH 24 f92) e ⟨#[Zp (Z (A D 0 F)),z,U O ctx,U O deep,Y last,gh,Zp (Z (A n 0 F)),h4,hj,hu,U O at_,T,ab,ao,U O ix,U O vx,aW,ba,bo,bF,c7,ci,cv,d4,dj,dw,e6,eh,ev,eH,eS,f5,fj,fx,g0,g1,g2,g3,g4,g5,g6,g7,g8,g9,ga,gb,gd,ge,gf,gg,gi,gj,gl,gm,gn,gp,gq,gr,gs,gu,gv,gw,gx,gy,gz,gP,h0,h1,h2,h3,h5,h6,h7,h8,h9,ha,hc,he,hg,hh,hk,hl,hm,hn,ho,hp,hq,hr,hs,ht,hv,hw,hy,hz,hC,hD,hE,hF,hG,hH,B,C,E,G,K,M,N,P,Q,S,V,W,a2,a3,a5,a6,a7,a8,a9,aa,ac,ad,ae,af,ag,ah,ai,aj,ak,am,ap,ar,au,av,aw,ax,ay,az,aA,aB,aC,aD,aE,aF,aG,aH,aI,aJ,aK,aL,aM,aN,aO,aP,aQ,aR,aS,aT,aU,aV,aX,aY,aZ,b0,b1,b2,b6,b7,b8,b9,bb,bc,be,bf,bg,bh,bi,bj,bm,bn,bp,bq,br,bs,bu,bv,bw,bz,bD,bE,bG,bH,bN,bP,bR,bS,bX,bY,bZ,c6,c8,c9,ca,cb,cc,cd,ce,cf,cg,ch,cj,ck,cm,cn,co,cp,cq,cr,ct,cu,cw,cx,cy,cz,cA,cB,d0,d1,d2,d3,d5,d6,da,db,dc,dd,de,df,dh,di,dk,dl,dm,dn,dp,dq,dr,ds,dt,du,dx,dy,dz,dZ,e0,e1,e2,e3,e4,e5,e7,e8,e9,ea,eb,ec,ed,ee,ef,eg,ei,ej,ek,em,en,eo,ep,eq,er,eu,ew,ey,ez,eA,eB,eC,eD,eE,eF,eG,eI,eJ,eK,eL,eM,eN,eO,eP,eQ,eR,eT,eU,eV,eW,eX,eY,eZ,f0,f3,f4,f6,f7,f8,f9,fb,fe,ff,fg,fh,fi,fk,fl,fm,fn,fo,fp,fq,ft,fu,fw,fy,fX,fY],[]⟩ w:=by
 have hJ:=kc25;have j:Hid _:=o;have HP:Hid _:=l;have f:Hid _:=q;have i:Hid _:=p;clear o l q p;obtain⟨hM,hN,hO,hP⟩:=id y;have t:=d.lc.c14
 conv=>arg 2;whnf
 dsimp only
 cases st with
 | true =>
  have r:R=.bad c b:=f.out;have s:RSR w0 D own fs fv lv L p0 p1 p2 p3 p4 p5 fc fa w R (.returned (.tuple #[])) w:=RSR.mk (FrU.refl _ _ _) d ⟨jE _,r⟩;have v:Hid (RSR w0 D own fs fv lv L p0 p1 p2 p3 p4 p5 fc fa w R (.returned (.tuple #[])) w):=s;clear s r f d;go_wp2
  exact j.out _ _ _ (.inl rfl) v.out
 | false =>
  obtain rfl:=i.out rfl;clear i;clear t;have t:=d.lc.c14;go_wp2;exact j.out _ _ _ (.inr rfl) (RSR.ofKU (FrU.refl _ _ _) d (jE _) (fun _=>rfl) f.out)
end
section
variable {w0 w:Zw} {D n:Nat} {own:FV} {fs:List FV} {fv lv:Zv} {L:List Loc} {p0 p1 p2 p3 p4 p5:Zv} {fc fa ctx deep at_ ix vx m a' an c b:Int} {last st:Bool} {x:ByteArray} {a:Option Addr} {sc:Nat} {R:Res (List Loc × Int)}
theorem zwy (hf:fs.length<=1000) (hT:L.length<=20) (G:Q4 n (U O 12) (I x) (U O m) (J a 1 sc) w) (g:LK w0 w D own fs fv lv L a' p0 p1 p2 p3 p4 p5 c b st) (hU:D<n) (r:st=X->a'=an) (s:KU fc fa c b R (t12 L m ctx at_ (ix,vx,an)) st) {M gp ha hp hD a6 ah ax b2 bh bv bS cd cp cB dd dq e1 ec eo eC eN eY fe fp g2 g6 g7 g8 g9 ga gb gd ge gf gg gh gi gj gl gm gn gq gr gs gu gv gw gx gy gz gP h0 h1 h2 h3 h4 h5 h6 h7 h8 h9 hc he hg hh hj hk hl hm hn ho hq hr hs ht hu hv hw hy hz hC hE hF hG hH hI hJ hK hL hM hN N P Q S T V W a2 a3 a5 a7 a8 a9 aa ab ac ad ae af ag ai aj ak am ao ap ar au av aw ay az aA aB aC aD aE aF aG aH aI aJ aK aL aM aN aO aP aQ aR aS aT aU aV aW aX aY aZ b0 b1 b6 b7 b8 b9 ba bb bc be bf bg bi bj bm bn bo bp bq br bs bu bw bz bD bE bF bG bH bN bP bR bX bY bZ c6 c7 c8 c9 ca cb cc ce cf cg ch ci cj ck cm cn co cq cr ct cu cv cw cx cy cz cA d0 d1 d2 d3 d4 d5 d6 da db dc de df dh di dj dk dl dm dn dp dr ds dt du dw dx dy dz dZ e0 e2 e3 e4 e5 e6 e7 e8 e9 ea eb ed ee ef eg eh ei ej ek em en ep eq er eu ev ew ey ez eA eB eD eE eF eG eH eI eJ eK eL eM eO eP eQ eR eS eT eU eV eW eX eZ f0 f3 f4 f5 f6 f7 f8 f9 fb ff fg fh fi fj fk fl fm fn fo fq ft fu fw fx fy fX fY g0 g1 g3 g4 g5:Zv} {f:Exit->Act->Zw->Prop} (o:∀c i hO l w,f (.panic c) ⟨i,l⟩ w->f (.panic c) ⟨hO,l⟩ w) (q:∀(e:Exit) (i:Array Zv) (v:Zw),e=.ret\/e=.normal->RSR w0 D own fs fv lv L p0 p1 p2 p3 p4 p5 fc fa w R (.returned (.tuple #[])) v->f e ⟨i,[]⟩ v) : Code.wp prog (xH 24 f92) f ⟨#[Zp (Z (A D 0 F)),M,U O ctx,U O deep,Y last,gp,Zp (Z (A n 0 F)),ha,hp,hD,U O at_,a6,ah,ax,U O ix,U O vx,b2,bh,bv,bS,cd,cp,cB,dd,dq,e1,ec,eo,eC,eN,eY,fe,fp,g2,g6,g7,g8,g9,ga,gb,gd,ge,gf,gg,gh,gi,gj,gl,gm,gn,gq,gr,gs,gu,gv,gw,gx,gy,gz,gP,h0,h1,h2,h3,h4,h5,h6,h7,h8,h9,hc,he,hg,hh,hj,hk,hl,hm,hn,ho,hq,hr,hs,ht,hu,hv,hw,hy,hz,hC,hE,hF,hG,hH,hI,hJ,hK,hL,hM,hN,N,P,Q,S,T,V,W,a2,a3,a5,a7,a8,a9,aa,ab,ac,ad,ae,af,ag,ai,aj,ak,am,ao,ap,ar,au,av,aw,ay,az,aA,aB,aC,aD,aE,aF,aG,aH,aI,aJ,aK,aL,aM,aN,aO,aP,aQ,aR,aS,aT,aU,aV,aW,aX,aY,aZ,b0,b1,b6,b7,b8,b9,ba,bb,bc,be,bf,bg,bi,bj,bm,bn,bo,bp,bq,br,bs,bu,bw,bz,bD,bE,bF,bG,bH,bN,bP,bR,bX,bY,bZ,c6,c7,c8,c9,ca,cb,cc,ce,cf,cg,ch,ci,cj,ck,cm,cn,co,cq,cr,ct,cu,cv,cw,cx,cy,cz,cA,d0,d1,d2,d3,d4,d5,d6,da,db,dc,de,df,dh,di,dj,dk,dl,dm,dn,dp,dr,ds,dt,du,dw,dx,dy,dz,dZ,e0,e2,e3,e4,e5,e6,e7,e8,e9,ea,eb,ed,ee,ef,eg,eh,ei,ej,ek,em,en,ep,eq,er,eu,ev,ew,ey,ez,eA,eB,eD,eE,eF,eG,eH,eI,eJ,eK,eL,eM,eO,eP,eQ,eR,eS,eT,eU,eV,eW,eX,eZ,f0,f3,f4,f5,f6,f7,f8,f9,fb,ff,fg,fh,fi,fj,fk,fl,fm,fn,fo,fq,ft,fu,fw,fx,fy,fX,fY,g0,g1,g3,g4,g5],[]⟩ w:=by
 have hS:=kc25;have k:Hid _:=q;have HP:Hid _:=o;have d:Hid _:=s;have j:Hid _:=r;clear q o s r;obtain⟨hX,hY,hZ,i1⟩:=id G;have hW:=g.lc.c14
 conv=>arg 2;whnf
 dsimp only
 cases st with
 | true =>
  have t:R=.bad c b:=d.out;have u:RSR w0 D own fs fv lv L p0 p1 p2 p3 p4 p5 fc fa w R (.returned (.tuple #[])) w:=RSR.mk (FrU.refl _ _ _) g ⟨jE _,t⟩;have z:Hid (RSR w0 D own fs fv lv L p0 p1 p2 p3 p4 p5 fc fa w R (.returned (.tuple #[])) w):=u;clear u t d g;go_wp2
  exact k.out _ _ _ (.inl rfl) z.out
 | false =>
  obtain rfl:=j.out rfl;clear j;replace d:Hid (KU fc fa c b R (if(m==1||!hi vx ctx 0)=X then .bad 7 at_ else .ok (L,a')) X):=d.out;by_cases K:m=1;·replace d:Hid (KU fc fa c b R (if H=X then .bad 7 at_ else .ok (L,a')) X):=KU.or1 (dO K) d.out;go_wp2_with (go_at_call 117;refine(zag _ _ _ _).mono ?_;rintro e hP ⟨rfl,h⟩;obtain rfl:=h.symm);exact oz20x202
  ·go_wp2_with (go_at_call 117;refine(zag _ _ _ _).mono ?_;rintro e hP ⟨rfl,h⟩;obtain rfl:=h.symm);exact oz20x202
end
section
variable {w0 w:Zw} {D n:Nat} {own:FV} {fs:List FV} {fv lv:Zv} {L:List Loc} {p0 p1 p2 p3 p4 p5:Zv} {fc fa ctx deep at_ ix vx m a' an c b:Int} {last st:Bool} {x:ByteArray} {a:Option Addr} {sc:Nat} {R:Res (List Loc × Int)} {E:Env} {tk tm:Int} {tx:ByteArray} {ta:Option Addr} {tn tc:Nat}
theorem zwz (hE:E=⟨own.1,fs.map (·.1)⟩) (a5:kT tx) (ab:∃g o,a=Z (A g o F)/\g<w0.heap.size/\w0.cell? (A g o F)=Z (U O tk)/\w0.cell? (A g (o+1) F)=Z (I tx)/\w0.cell? (A g (o+2) F)=Z (U O tm)/\w0.cell? (A g (o+3) F)=Z (J ta tn tc)) (hf:fs.length<=1000) (N:L.length<=20) (S:Q4 n (U O 13) (I x) (U O m) (J a 1 sc) w) (d:LK w0 w D own fs fv lv L a' p0 p1 p2 p3 p4 p5 c b st) (iD:D<n) (T:st=X->a'=an) (V:KU fc fa c b R (t13 L (plb E L tx) m ctx at_ (ix,vx,an)) st) {au ho hN hY ib aF aQ b1 bP cb cn cz db dn dZ ea em eA eL eW f9 fn g0 gb gp h0 h4 h5 h6 h7 h8 h9 ha hc he hg hh hj hk hl hm hn hp hq hr hs ht hu hv hw hy hz hC hD hF hG hH hI hJ hK hL hM hO hP hQ hR hS hT hU hV hW hX hZ i1 i3 i4 i5 i6 i7 i8 i9 ia ic ie ig ii ij ik il im io ip av aw ax ay az aA aB aC aD aE aG aH aI aJ aK aL aM aN aO aP aR aS aT aU aV aW aX aY aZ b0 b2 b6 b7 b8 b9 ba bb bc be bf bg bh bi bj bm bn bo bp bq br bu bv bw bz bD bE bF bG bH bN bR bS bX bY bZ c6 c7 c8 c9 ca cc cd ce cf cg ch ci cj ck cm co cp cq cr ct cu cv cw cx cy cA cB d0 d1 d2 d3 d4 d5 d6 da dc dd de df dh di dj dk dl dm dp dq dr ds dt du dw dx dy dz e0 e1 e2 e3 e4 e5 e6 e7 e8 e9 eb ec ed ee ef eg eh ei ej ek en eo ep eq er eu ev ew ey ez eB eC eD eE eF eG eH eI eJ eK eM eN eO eP eQ eR eS eT eU eV eX eY eZ f0 f3 f4 f5 f6 f7 f8 fb fe ff fg fh fi fj fk fl fm fo fp fq ft fu fw fx fy fX fY g1 g2 g3 g4 g5 g6 g7 g8 g9 ga gd ge gf gg gh gi gj gl gm gn gq gr gs gu gv gw gx gy gz gP h1 h2 h3:Zv} {t:Exit->Act->Zw->Prop} (P:∀c C iq M w,t (.panic c) ⟨C,M⟩ w->t (.panic c) ⟨iq,M⟩ w) (Q:∀(f:Exit) (C:Array Zv) (s:Zw),f=.ret\/f=.normal->RSR w0 D own fs fv lv L p0 p1 p2 p3 p4 p5 fc fa w R (.returned (.tuple #[])) s->t f ⟨C,[]⟩ s) : Code.wp prog (xH 24 f92) t ⟨#[Zp (Z (A D 0 F)),au,U O ctx,U O deep,Y last,ho,Zp (Z (A n 0 F)),hN,hY,ib,U O at_,aF,aQ,b1,U O ix,U O vx,bP,cb,cn,cz,db,dn,dZ,ea,em,eA,eL,eW,f9,fn,g0,gb,gp,h0,h4,h5,h6,h7,h8,h9,ha,hc,he,hg,hh,hj,hk,hl,hm,hn,hp,hq,hr,hs,ht,hu,hv,hw,hy,hz,hC,hD,hF,hG,hH,hI,hJ,hK,hL,hM,hO,hP,hQ,hR,hS,hT,hU,hV,hW,hX,hZ,i1,i3,i4,i5,i6,i7,i8,i9,ia,ic,ie,ig,ii,ij,ik,il,im,io,ip,av,aw,ax,ay,az,aA,aB,aC,aD,aE,aG,aH,aI,aJ,aK,aL,aM,aN,aO,aP,aR,aS,aT,aU,aV,aW,aX,aY,aZ,b0,b2,b6,b7,b8,b9,ba,bb,bc,be,bf,bg,bh,bi,bj,bm,bn,bo,bp,bq,br,bu,bv,bw,bz,bD,bE,bF,bG,bH,bN,bR,bS,bX,bY,bZ,c6,c7,c8,c9,ca,cc,cd,ce,cf,cg,ch,ci,cj,ck,cm,co,cp,cq,cr,ct,cu,cv,cw,cx,cy,cA,cB,d0,d1,d2,d3,d4,d5,d6,da,dc,dd,de,df,dh,di,dj,dk,dl,dm,dp,dq,dr,ds,dt,du,dw,dx,dy,dz,e0,e1,e2,e3,e4,e5,e6,e7,e8,e9,eb,ec,ed,ee,ef,eg,eh,ei,ej,ek,en,eo,ep,eq,er,eu,ev,ew,ey,ez,eB,eC,eD,eE,eF,eG,eH,eI,eJ,eK,eM,eN,eO,eP,eQ,eR,eS,eT,eU,eV,eX,eY,eZ,f0,f3,f4,f5,f6,f7,f8,fb,fe,ff,fg,fh,fi,fj,fk,fl,fm,fo,fp,fq,ft,fu,fw,fx,fy,fX,fY,g1,g2,g3,g4,g5,g6,g7,g8,g9,ga,gd,ge,gf,gg,gh,gi,gj,gl,gm,gn,gq,gr,gs,gu,gv,gw,gx,gy,gz,gP,h1,h2,h3],[]⟩ w:=by
 have iy:=kc25;have K:Hid _:=Q;have HP:Hid _:=P;have e:Hid _:=V;have G:Hid _:=T;clear Q P V T;obtain⟨am,ao,ap,ar⟩:=id S;have aj:=d.lc.c14
 conv=>arg 2;whnf
 dsimp only
 cases st with
 | true =>
  have W:R=.bad c b:=e.out;have a3:RSR w0 D own fs fv lv L p0 p1 p2 p3 p4 p5 fc fa w R (.returned (.tuple #[])) w:=RSR.mk (FrU.refl _ _ _) d ⟨jE _,W⟩;have a7:Hid (RSR w0 D own fs fv lv L p0 p1 p2 p3 p4 p5 fc fa w R (.returned (.tuple #[])) w):=a3;clear a3 W e d;go_wp2
  exact K.out _ _ _ (.inl rfl) a7.out
 | false =>
  obtain rfl:=G.out rfl;clear G;obtain⟨g,o,rfl,r,q⟩:=ab;have af:=(d.bs.cell (p:=(A g o F)) r).trans q.1;have ag:=(d.bs.cell (p:=(A g (o+1) F)) r).trans q.2.1;have ah:=(d.bs.cell (p:=(A g (o+2) F)) r).trans q.2.2.1;have ai:=(d.bs.cell (p:=(A g (o+3) F)) r).trans q.2.2.2;have k:=rPlace tk tx tm ta tn tc ix w a5 d hf (jp N oC);rw[<- hE]at k;replace k:Calls prog 118 #[Zp (Z (A D 0 F)),Za #[U O tk,I tx,U O tm,J ta tn tc],U O ix] w fun f ir=>f=.returned (.tuple #[U O (plb E L tx),U O ix])/\Below w.heap.size w ir:=k
  generalize plb E L tx=u at *;clear q hE hf a5 N;go_wp2_with (fail);refine k.mono ?_;rintro f iu ⟨rfl,B⟩;replace d:=d.below B;have l:Fr D w iu:=Fr.below B;clear k af ag ah ai am ao ap ar aj B r S;have iC:=Nat.le_refl 0;replace e:Hid (KU fc fa c b R (if(m==1||ctx==0)=X then .bad 7 at_ else if(u==1||!hi m ix ctx)=X then .bad 7 at_ else .ok (L,a')) X):=e.out
  go_upto_region 42 with fail
  go_cut [20,163] from 286 to 294 (fun ak _ s=>∃(i h:Int) (j:Bool),ak=U O m/\Fr D w s/\LK w0 s D own fs fv lv L a' p0 p1 p2 p3 p4 p5 i h j/\Hid (KU fc fa i h R (if(u==1||!hi m ix ctx)=X then .bad 7 at_ else .ok (L,a')) j))
  case first =>
   by_cases a2:m=1
   ·replace e:Hid (KU fc fa c b R (if H=X then .bad 7 at_ else if(u==1||!hi m ix ctx)=X then .bad 7 at_ else .ok (L,a')) X):=KU.or1 (dO a2) e.out;go_wp2_with (fail);refine(rU d e.out).mono ?_;rintro f iv ⟨rfl,y,j,i,h,ad,z,v⟩;go_wp2
    go_meet
    case rel=>exact⟨i,h,j,by rw[a2],l.trans y,z,v⟩
   ·go_wp2_with (fail);refine(rU d e.out).mono ?_;rintro f iv ⟨rfl,y,j,i,h,ad,z,v⟩;go_wp2
    go_meet
    case rel=>exact⟨i,h,j,rfl,l.trans y,z,v⟩
  case rest =>
   clear l d e;obtain⟨i,h,j,rfl,l,d,e⟩:=hcut;by_cases ac:u=1;·replace e:Hid (KU fc fa i h R (if H=X then .bad 7 at_ else .ok (L,a')) j):=KU.or1 (dO ac) e.out;exact oz20x199
   ·skip;exact oz20x199
end
section
variable {w0 w:Zw} {D n:Nat} {own:FV} {fs:List FV} {fv lv:Zv} {L:List Loc} {p0 p1 p2 p3 p4 p5:Zv} {fc fa ctx deep at_ ix vx m a' an c b:Int} {last st:Bool} {x:ByteArray} {a:Option Addr} {sc:Nat} {R:Res (List Loc × Int)} {p:Pr}
theorem zw0 (hf:fs.length<=1000) (i1:L.length<=20) (T:Q4 n (U O 14) (I x) (U O m) (J a 1 sc) w) (e:LK w0 w D own fs fv lv L a' p0 p1 p2 p3 (Y p.gives) (U O p.given) c b st) (i3:D<n) (v:st=X->a'=an) (y:KU fc fa c b R (t14 p L last at_ (ix,vx,an)) st) {W gx hl hw hK ad ar aE bc bq bH c9 ck cx d6 dl dy e8 ej ey eJ eU f7 fl fX g9 ge gf gg gh gi gj gl gm gn gp gq gr gs gu gv gw gy gz gP h0 h1 h2 h3 h4 h5 h6 h7 h8 h9 ha hc he hg hh hj hk hm hn ho hp hq hr hs ht hu hv hy hz hC hD hE hF hG hH hI hJ hL hM hN hO hP hQ hR hS hT hU a2 a3 a5 a6 a7 a8 a9 aa ab ac ae af ag ah ai aj ak am ao ap au av aw ax ay az aA aB aC aD aF aG aH aI aJ aK aL aM aN aO aP aQ aR aS aT aU aV aW aX aY aZ b0 b1 b2 b6 b7 b8 b9 ba bb be bf bg bh bi bj bm bn bo bp br bs bu bv bw bz bD bE bF bG bN bP bR bS bX bY bZ c6 c7 c8 ca cb cc cd ce cf cg ch ci cj cm cn co cp cq cr ct cu cv cw cy cz cA cB d0 d1 d2 d3 d4 d5 da db dc dd de df dh di dj dk dm dn dp dq dr ds dt du dw dx dz dZ e0 e1 e2 e3 e4 e5 e6 e7 e9 ea eb ec ed ee ef eg eh ei ek em en eo ep eq er eu ev ew ez eA eB eC eD eE eF eG eH eI eK eL eM eN eO eP eQ eR eS eT eV eW eX eY eZ f0 f3 f4 f5 f6 f8 f9 fb fe ff fg fh fi fj fk fm fn fo fp fq ft fu fw fx fy fY g0 g1 g2 g3 g4 g5 g6 g7 g8 ga gb gd:Zv} {k:Exit->Act->Zw->Prop} (t:∀c o hV s w,k (.panic c) ⟨o,s⟩ w->k (.panic c) ⟨hV,s⟩ w) (u:∀(i:Exit) (o:Array Zv) (j:Zw),i=.ret\/i=.normal->RSR w0 D own fs fv lv L p0 p1 p2 p3 (Y p.gives) (U O p.given) fc fa w R (.returned (.tuple #[])) j->k i ⟨o,[]⟩ j) : Code.wp prog (xH 24 f92) k ⟨#[Zp (Z (A D 0 F)),W,U O ctx,U O deep,Y last,gx,Zp (Z (A n 0 F)),hl,hw,hK,U O at_,ad,ar,aE,U O ix,U O vx,bc,bq,bH,c9,ck,cx,d6,dl,dy,e8,ej,ey,eJ,eU,f7,fl,fX,g9,ge,gf,gg,gh,gi,gj,gl,gm,gn,gp,gq,gr,gs,gu,gv,gw,gy,gz,gP,h0,h1,h2,h3,h4,h5,h6,h7,h8,h9,ha,hc,he,hg,hh,hj,hk,hm,hn,ho,hp,hq,hr,hs,ht,hu,hv,hy,hz,hC,hD,hE,hF,hG,hH,hI,hJ,hL,hM,hN,hO,hP,hQ,hR,hS,hT,hU,a2,a3,a5,a6,a7,a8,a9,aa,ab,ac,ae,af,ag,ah,ai,aj,ak,am,ao,ap,au,av,aw,ax,ay,az,aA,aB,aC,aD,aF,aG,aH,aI,aJ,aK,aL,aM,aN,aO,aP,aQ,aR,aS,aT,aU,aV,aW,aX,aY,aZ,b0,b1,b2,b6,b7,b8,b9,ba,bb,be,bf,bg,bh,bi,bj,bm,bn,bo,bp,br,bs,bu,bv,bw,bz,bD,bE,bF,bG,bN,bP,bR,bS,bX,bY,bZ,c6,c7,c8,ca,cb,cc,cd,ce,cf,cg,ch,ci,cj,cm,cn,co,cp,cq,cr,ct,cu,cv,cw,cy,cz,cA,cB,d0,d1,d2,d3,d4,d5,da,db,dc,dd,de,df,dh,di,dj,dk,dm,dn,dp,dq,dr,ds,dt,du,dw,dx,dz,dZ,e0,e1,e2,e3,e4,e5,e6,e7,e9,ea,eb,ec,ed,ee,ef,eg,eh,ei,ek,em,en,eo,ep,eq,er,eu,ev,ew,ez,eA,eB,eC,eD,eE,eF,eG,eH,eI,eK,eL,eM,eN,eO,eP,eQ,eR,eS,eT,eV,eW,eX,eY,eZ,f0,f3,f4,f5,f6,f8,f9,fb,fe,ff,fg,fh,fi,fj,fk,fm,fn,fo,fp,fq,ft,fu,fw,fx,fy,fY,g0,g1,g2,g3,g4,g5,g6,g7,g8,ga,gb,gd],[]⟩ w:=by
 have hY:=kc25;have r:Hid _:=u;have HP:Hid _:=t;have d:Hid _:=y;have q:Hid _:=v;clear u t y v;obtain⟨i7,i8,i9,ia⟩:=id T;have i6:=e.lc.c14
 conv=>arg 2;whnf
 dsimp only
 cases st with
 | true =>
  have z:R=.bad c b:=d.out;have B:RSR w0 D own fs fv lv L p0 p1 p2 p3 (Y p.gives) (U O p.given) fc fa w R (.returned (.tuple #[])) w:=RSR.mk (FrU.refl _ _ _) e ⟨jE _,z⟩;have K:Hid (RSR w0 D own fs fv lv L p0 p1 p2 p3 (Y p.gives) (U O p.given) fc fa w R (.returned (.tuple #[])) w):=B;clear B z d e;go_wp2
  exact r.out _ _ _ (.inl rfl) K.out
 | false =>
  obtain rfl:=q.out rfl;clear q;replace d:Hid (KU fc fa c b R (if(last&&p.gives)=X then .bad 2 at_ else if(p.given==1||vx==0)=X then .bad 7 at_ else .ok (L,a')) X):=d.out;have hW:=e.lc.c10;have C:=e.lc.c11
  go_upto_region 45 with fail
  go_cut [] from 309 to 319 (fun j=>∃(g f:Int) (h:Bool),Fr D w j/\LK w0 j D own fs fv lv L a' p0 p1 p2 p3 (Y p.gives) (U O p.given) g f h/\Hid (KU fc fa g f R (if(p.given==1||vx==0)=X then .bad 7 at_ else .ok (L,a')) h))
  case first =>
   cases last with
   | true =>
    replace d:Hid (KU fc fa c b R (if p.gives=X then .bad 2 at_ else if(p.given==1||vx==0)=X then .bad 7 at_ else .ok (L,a')) X):=d.out;go_wp2_with (fail);refine(rU e d.out).mono ?_
    exact oz20x203
   | false =>
    go_wp2_with (fail);refine(rU (R:=R) (rest:=if(p.given==1||vx==0)=X then .bad 7 at_ else .ok (L,a')) e d.out).mono ?_;exact oz20x203
  case rest =>
   clear e d hW C;obtain⟨g,f,h,M,e,d⟩:=hcut;have C:=e.lc.c11;by_cases V:p.given=1;·replace d:Hid (KU fc fa g f R (if H=X then .bad 7 at_ else .ok (L,a')) h):=KU.or1 (dO V) d.out;go_wp2_with (fail);exact oz20x201
   ·go_wp2_with (fail);exact oz20x201
end
theorem zo8 {c:Tree->Prop} {a b:Tree} (f:c a) (g:c b):∀e∈[a,b],c e:=fun e d=>by
 simp only[List.mem_cons,List.not_mem_nil,or_false]at d;rcases d with rfl | rfl
 ·exact f
 ·exact g
section
variable {w0:Zw} {D:Nat} {own:FV} {fs:List FV} {fv:Zv} {p0 p1 p2 p3:Zv} {fc fa m:Int} {x:ByteArray} {E:Env} {p:Pr} (hf:fs.length<=1000) (hE:E=⟨own.1,fs.map (·.1)⟩) (hOk:yY E)
include hf hE hOk
set_option maxHeartbeats 40000000
theorem yb1 {b:Tree} (h:ExT b):fG E p w0 D own fs fv p0 p1 p2 p3 fc fa (.node 7 x m [b]):=by
 intro ctx deep last L lv v w at_ f u e N P c r;unfold Lies at f;obtain⟨a,sc,rfl,Q,i⟩:=f;have j:0<=at_:=oA;have s:at_+1+kA [b]<=1000000:=by rw[qT]at r;omega
 have G:lv.ownBlock≠Z w.heap.size:=fun b=>by have:=(c.rl.lt _ b).2;omega
 have t:D<w.heap.size:=c.lc.lt;refine bW (R:=kdF E L ctx X X H [b] 0 0 (at_+1)) oC oC hf e hE (fun d y=>by rcases jy.1 y with rfl;exact h) i c j s rfl ?_
 iterate 325 intro _
 intro ix vx a' M K V W C n k l;refine zyz G hf e n k t (fun _=>rfl) (KU.bind (R:=stF E p ctx deep last (.node 7 x m [b]) L at_) (T:=fun q=>t7 L x m ctx deep at_ q) (yb4 ctx p deep at_ m last x hOk u b) l) (fun _ _ _ _ _ c=>c) ?_;exact oz20x196
theorem yba {b:Tree} (h:ExT b):fG E p w0 D own fs fv p0 p1 p2 p3 fc fa (.node 12 x m [b]):=by
 intro ctx deep last L lv v w at_ f u e N P c r;unfold Lies at f;obtain⟨a,sc,rfl,Q,i⟩:=f;have j:0<=at_:=oA;have s:at_+1+kA [b]<=1000000:=by rw[qT]at r;omega
 have G:lv.ownBlock≠Z w.heap.size:=fun b=>by have:=(c.rl.lt _ b).2;omega
 have t:D<w.heap.size:=c.lc.lt;refine bW (R:=kdF E L ctx X X H [b] 0 0 (at_+1)) oC oC hf e hE (fun d y=>by rcases jy.1 y with rfl;exact h) i c j s rfl ?_
 iterate 325 intro _
 intro ix vx a' M K V W C n k l;refine zwy hf e n k t (fun _=>rfl) (KU.bind (R:=stF E p ctx deep last (.node 12 x m [b]) L at_) (T:=fun q=>t12 L m ctx at_ q) (ybl ctx p deep at_ m last x hOk u b) l) (fun _ _ _ _ _ c=>c) ?_;exact oz20x196
theorem ybc {b:Tree} (h:ExT b):fG E p w0 D own fs fv p0 p1 p2 p3 fc fa (.node 14 x m [b]):=by
 intro ctx deep last L lv v w at_ f u e N P c r;unfold Lies at f;obtain⟨a,sc,rfl,Q,i⟩:=f;have j:0<=at_:=oA;have s:at_+1+kA [b]<=1000000:=by rw[qT]at r;omega
 have G:lv.ownBlock≠Z w.heap.size:=fun b=>by have:=(c.rl.lt _ b).2;omega
 have t:D<w.heap.size:=c.lc.lt;refine bW (R:=kdF E L ctx X X H [b] 0 0 (at_+1)) oC oC hf e hE (fun d y=>by rcases jy.1 y with rfl;exact h) i c j s rfl ?_
 iterate 325 intro _
 intro ix vx a' M K V W C n k l;refine zw0 hf e n k t (fun _=>rfl) (KU.bind (R:=stF E p ctx deep last (.node 14 x m [b]) L at_) (T:=fun q=>t14 p L last at_ q) (ybn ctx p deep at_ m last x hOk u b) l) (fun _ _ _ _ _ c=>c) ?_;exact oz20x196
theorem yb3 {b:Tree} (h:ExT b):fG E p w0 D own fs fv p0 p1 p2 p3 fc fa (.node 9 x m [b]):=by
 intro ctx deep last L lv v w at_ f u e N P c r;unfold Lies at f;obtain⟨a,sc,rfl,Q,i⟩:=f;have j:0<=at_:=oA;have s:at_+1+kA [b]<=1000000:=by rw[qT]at r;omega
 have G:lv.ownBlock≠Z w.heap.size:=fun b=>by have:=(c.rl.lt _ b).2;omega
 have t:D<w.heap.size:=c.lc.lt;refine bW (R:=kdF E L ctx X H H [b] 0 0 (at_+1)) oC oC hf e hE (fun d y=>by rcases jy.1 y with rfl;exact h) i c j s rfl ?_
 iterate 325 intro _
 intro ix vx a' M K V W C n k l;refine zy1 hf e n k t (fun _=>rfl) (KU.bind (R:=stF E p ctx deep last (.node 9 x m [b]) L at_) (T:=fun q=>.ok (L,q.2.2)) (yb6 ctx p deep at_ m last x b) l) (fun _ _ _ _ _ c=>c) ?_;exact oz20x196
theorem ybb {d:Tree} (B:PlT d):fG E p w0 D own fs fv p0 p1 p2 p3 fc fa (.node 13 x m [d]):=by
 intro ctx deep last L lv v w at_ f u e N P c r;unfold Lies at f;obtain⟨a,sc,rfl,Q,i⟩:=f;have j:0<=at_:=oA;have s:at_+1+kA [d]<=1000000:=by rw[qT]at r;omega
 have G:lv.ownBlock≠Z w.heap.size:=fun b=>by have:=(c.rl.lt _ b).2;omega
 have t:D<w.heap.size:=c.lc.lt
 have z:∃tk tx tm ta tn tc,txt d=tx/\∃g o,a=Z (A g o F)/\g<w0.heap.size/\w0.cell? (A g o F)=Z (U O tk)/\w0.cell? (A g (o+1) F)=Z (I tx)/\w0.cell? (A g (o+2) F)=Z (U O tm)/\w0.cell? (A g (o+3) F)=Z (J ta tn tc):=by
  exact oz20x197
 obtain⟨tk,tx,tm,ta,tn,tc,S,z⟩:=z
 have a3:kT tx:=by rw[<- S];cases B with
  | nam c=>exact c
  | item c _=>exact c
 refine bW (R:=kdF E L ctx H X H [d] 0 0 (at_+1)) oC oC hf e hE (fun d y=>by rcases jy.1 y with rfl;exact B.ex) i c j s rfl ?_
 iterate 325 intro _
 intro ix vx a' M K V W C n k l;refine zwz hE a3 z hf e n k t (fun _=>rfl) (by rw[<- S];exact(KU.bind (R:=stF E p ctx deep last (.node 13 x m [d]) L at_) (T:=fun q=>t13 L (plb E L (txt d)) m ctx at_ q) (ybm ctx p deep at_ m last x hOk u B) l)) (fun _ _ _ _ _ c=>c) ?_;exact oz20x196
theorem yb2 {d b:Tree} (B:PlT d) (h:ExT b):fG E p w0 D own fs fv p0 p1 p2 p3 fc fa (.node 8 x m [d,b]):=by
 intro ctx deep last L lv v w at_ f u e N P c r;unfold Lies at f;obtain⟨a,sc,rfl,Q,i⟩:=f;have j:0<=at_:=oA;have s:at_+1+kA [d,b]<=1000000:=by rw[qT]at r;omega
 have G:lv.ownBlock≠Z w.heap.size:=fun b=>by have:=(c.rl.lt _ b).2;omega
 have t:D<w.heap.size:=c.lc.lt
 have z:∃tk tx tm ta tn tc,txt d=tx/\∃g o,a=Z (A g o F)/\g<w0.heap.size/\w0.cell? (A g o F)=Z (U O tk)/\w0.cell? (A g (o+1) F)=Z (I tx)/\w0.cell? (A g (o+2) F)=Z (U O tm)/\w0.cell? (A g (o+3) F)=Z (J ta tn tc):=by
  exact oz20x197
 obtain⟨tk,tx,tm,ta,tn,tc,S,z⟩:=z
 have a3:kT tx:=by rw[<- S];cases B with
  | nam c=>exact c
  | item c _=>exact c
 refine bW (R:=kdF E L ctx H X H [d,b] 0 0 (at_+1)) oC oC hf e hE (zo8 B.ex h) i c j s rfl ?_
 iterate 325 intro _
 intro ix vx a' M K V W C n k l;refine zy0 hE a3 z hf e n k t (fun _=>rfl) (by rw[<- S];exact(KU.bind (R:=stF E p ctx deep last (.node 8 x m [d,b]) L at_) (T:=fun q=>t8 L (plb E L (txt d)) ctx at_ q) (yb5 ctx p deep at_ m last x hOk u B b) l)) (fun _ _ _ _ _ c=>c) ?_;exact oz20x196
theorem zhe {f:Int} (z:f=10\/f=11) {e:Tree} {d:List Tree} (T:ExT e) (t:∀k∈d,BlT k) (ih:∀j (W:j<d.length),cC E p w0 D own fs fv p0 p1 p2 p3 fc fa d[j]):fG E p w0 D own fs fv p0 p1 p2 p3 fc fa (.node f x m (e :: d)):=by
 intro ctx deep last L lv v w at_ B M K Q S h a3;have a8:=kc25;unfold Lies at B;obtain⟨a,sc,rfl,ab,y⟩:=B;have a9:0<=at_:=oA;have a5:at_+1+kA (e :: d)<=1000000:=by rw[qT]at a3;omega
 have a2:lv.ownBlock≠Z w.heap.size:=fun e=>by have:=(h.rl.lt _ e).2;omega
 have u:D<w.heap.size:=h.lc.lt;obtain⟨g,o,rfl,V,P⟩:=y oB;obtain⟨R,n⟩:∃R,stF E p ctx deep last (.node f x m (e :: d)) L at_=R:=⟨_,rfl⟩
 rw[n]
 have N:(match exF E L ctx X e (at_+1)with
  | .bad c b=>.bad c b
  | .ok q=>zX E p (jn ctx q.1) (deep+1) d L q.2)=R:=by
  rw[<- n];unfold stF;rw[jv z];rfl
 have i:=h.alloc (Zc #[U O f,I x,U O m,J (Z (A g o F)) (d.length+1) sc] 25);have ac:=i.lc.c5;have ad:=i.lc.fz 5;have s:=i.setAt (at_+1);have l:Q4 w.heap.size (U O f) (I x) (U O m) (J (Z (A g o F)) (d.length+1) sc) ((w.alloc (Zc #[U O f,I x,U O m,J (Z (A g o F)) (d.length+1) sc] 25)).setCell (A D 5 F) (U O (at_+1))):=Q4.other oA ⟨oB,oB,oB,oB⟩ _ _;have r:Fr D w ((w.alloc (Zc #[U O f,I x,U O m,J (Z (A g o F)) (d.length+1) sc] 25)).setCell (A D 5 F) (U O (at_+1))):=((Fr.refl _ _).alloc _).set _ _;rw[World.setCell_alloc_past (hn:=u)]at s l r;obtain⟨ae,af,ag,ah⟩:=id l;have aa:at_+1<=1000000:=by have:=kR (e :: d);omega
 have G:Hid (∀j (W:j<d.length),cC E p w0 D own fs fv p0 p1 p2 p3 fc fa d[j]):=ih;have C:Hid (∀k∈d,BlT k):=t;clear ih t i h y n;rcases z with rfl | rfl
 all_goals
  go_enter func92,ntmps92
  go_upto_if 44 with fail
  go_step
  refine yb7 hf K hE M Q S T C.out G.out V P l s a2 u a5 N ?_;intro k wr a6;have a7:=RSR.from r a6
  try simp only[Exit.inBlock,Exit.then]
  refine jT (results_none rfl _ _ _) rfl ?_;exact a7
theorem zqn:∀(g:Tree),StT g->fG E p w0 D own fs fv p0 p1 p2 p3 fc fa g
 | .node k x m ks,hst=>by
  have i:∀(b:Tree),b∈ks->BlT b->cC E p w0 D own fs fv p0 p1 p2 p3 fc fa b:=fun b c o=>zp3 b o (fun y B z n f e d=>by
   have u:StT n[e]:=by
    subst f
    cases o with
    | mk r=>exact r _ (jH d)
   have t:SizeOf.sizeOf n[e]<SizeOf.sizeOf (Tree.node k x m ks):=by
    have s:=List.sizeOf_lt_of_mem c;have v:=List.sizeOf_lt_of_mem (jH d);subst f;simp only[Tree.node.sizeOf_spec]at s |-;omega
   exact zqn n[e] u)
  cases hst with
  | loc q w a=>exact yb1 hf hE hOk a
  | set j a=>exact yb2 hf hE hOk j a
  | dd h=>exact yb3 hf hE hOk h.ex
  | ift a c=>exact zhe hf hE hOk (.inl rfl) a (fun g l=>by rcases jy.1 l with rfl;exact c) (fun e d=>by
    have f:e=0:=by simp at d;exact d
    subst f
    exact i _ oB c)
  | ife a c h=>exact zhe hf hE hOk (.inl rfl) a (zo8 c h) (fun e d=>by
    have f:e=0\/e=1:=by simp at d;omega
    rcases f with rfl | rfl
    ·exact i _ oB c
    ·exact i _ oB h)
  | whi a c=>exact zhe hf hE hOk (.inr rfl) a (fun g l=>by rcases jy.1 l with rfl;exact c) (fun e d=>by
    have f:e=0:=by simp at d;exact d
    subst f
    exact i _ oB c)
  | out q a=>exact yba hf hE hOk a
  | inn q j=>exact ybb hf hE hOk j
  | ret a=>exact ybc hf hE hOk a
termination_by g=>SizeOf.sizeOf g
decreasing_by exact t
theorem zyo (b:Tree) (a:BlT b):cC E p w0 D own fs fv p0 p1 p2 p3 fc fa b:=zp3 b a (fun h x m g c f e=>zqn hf hE hOk g[f] (by
  subst c
  cases a with
  | mk d=>exact d _ (jH e)))
end
def PRR (w0:Zw) (D:Nat) (own:FV) (fs:List FV) (fv lv:Zv) (fc fa:Int) (w:Zw) (r:Res Int) (e:Ending) (w':Zw):Prop:=e=.returned (.tuple #[])/\∃(a:Zv) (d:List Loc) (a' c b:Int) (st:Bool) (p0 p1 p2 p3 p4 p5:Zv),FrU D lv a w w'/\LK w0 w' D own fs fv a d a' p0 p1 p2 p3 p4 p5 c b st/\KU fc fa c b r (.ok a') st
theorem ztn {a:Int} {x:ByteArray} {m:Int} {bs:List Tree} (b:0<bs.length):yF (.node a x m bs)=(knd (bs[bs.length - 1]' oA)==14):=by
 unfold yF;dsimp only;rw[List.getLast?_eq_getElem?,List.getElem?_eq_getElem oA];cases bs[bs.length - 1]' oA;rfl
section
variable {w0 w:Zw} {D n N:Nat} {own:FV} {fs:List FV} {fv lv:Zv} {L:List Loc} {p0 p1 p2:Zv} {fc fa at_ a1:Int} {num:Int} {x:ByteArray} {sc g o:Nat} {R:Res Int} {E:Env} {q:ProcD} {bs:List Tree} {ba:Option Addr} {bc:Nat}
theorem ya5 (hf:fs.length<=1000) (hE:E=⟨own.1,fs.map (·.1)⟩) (hOk:yY E) (am:L.length<=20) (an:qN L) (ag:BlT (.node 6 empty 0 bs)) (t:g<w0.heap.size) (a7:Lies (·<w0.heap.size) w0 (.node 6 empty 0 bs) (Za #[U O 6,I empty,U O 0,J ba bs.length bc])) (a9:w0.cell? (A g (o+N*4) F)=Z (U O 6)) (aa:w0.cell? (A g (o+N*4+1) F)=Z (I empty)) (ab:w0.cell? (A g (o+N*4+2) F)=Z (U O 0)) (ac:w0.cell? (A g (o+N*4+3) F)=Z (J ba bs.length bc)) (ar:Q4 n (U O 4) (I x) (U O num) (J (Z (A g o F)) (N+1) sc) w) (e:LK w0 w D own fs fv lv L a1 p0 p1 p2 (U O q.writes) (Y q.gives) (U O q.given) fc fa X) (aQ:1<=a1) (aB:a1+kC (.node 6 empty 0 bs)<=1000000) (au:(match blF E ⟨q.gives,q.given⟩ q.writes 1 (.node 6 empty 0 bs) L a1 with
  | .bad c k=>.bad c k
  | .ok G=>if(!q.gives||yF (.node 6 empty 0 bs))=X then .bad 2 at_ else .ok G.2)=R)
  {bf bE d1 df ds e3 bg bo bp bq br bu bv bw bz bD bF bG bH bN bP bR bS bX bY bZ c6 c7 c8 ca cb cc cd ce cf cg ch ci cj ck cm cn co cp cq cr ct cu cv cw cx cy cz cA cB d0 d2 d3 d4 d5 d6 da db dc dd de dh di dj dk dl dm dn dp dq dr dt du dw dx dy dz dZ e0 e1 e2 e4 e5 e6 e7 e8 e9 ea eb ec ed bh bi bj bm bn:Zv} {z:Exit->Act->Zw->Prop} (ao:∀c v ef k w,z (.panic c) ⟨v,k⟩ w->z (.panic c) ⟨ef,k⟩ w) (ap:∀(v:Array Zv) (K:Zw),PRR w0 D own fs fv lv fc fa w R (.returned (.tuple #[])) K->z .normal ⟨v,[]⟩ K) :
  Code.wp prog (xH 11 f36) z ⟨#[Zp (Z (A D 0 F)),bf,bE,Zp (Z (A n 0 F)),U O at_,U O (N:Int),d1,df,ds,e3,bg,bo,bp,bq,br,bu,bv,bw,bz,bD,bF,bG,bH,bN,bP,bR,bS,bX,bY,bZ,c6,c7,c8,ca,cb,cc,cd,ce,cf,cg,ch,ci,cj,ck,cm,cn,co,cp,cq,cr,ct,cu,cv,cw,cx,cy,cz,cA,cB,d0,d2,d3,d4,d5,d6,da,db,dc,dd,de,dh,di,dj,dk,dl,dm,dn,dp,dq,dr,dt,du,dw,dx,dy,dz,dZ,e0,e1,e2,e4,e5,e6,e7,e8,e9,ea,eb,ec,ed,bh,bi,bj,bm,bn],[]⟩ w:=by
 have en:=kc25;have aK:Hid _:=ap;have HP:Hid _:=ao;have a8:Hid _:=au;clear ap ao au;obtain⟨b8,b9,bb,be⟩:=id ar;have b0:=(e.bs.cell (p:=(A g (o+N*4) F)) t).trans a9;have b1:=(e.bs.cell (p:=(A g (o+N*4+1) F)) t).trans aa;have b2:=(e.bs.cell (p:=(A g (o+N*4+2) F)) t).trans ab;have b6:=(e.bs.cell (p:=(A g (o+N*4+3) F)) t).trans ac;have az:=a7;unfold Lies at az;obtain⟨ek,em,d,aV,aw⟩:=az;injection d with d;simp only[Array.mk.injEq,jq,and_true,true_and]at d;injection d with hea _ hec;obtain rfl:=hea;obtain rfl:=hec;have aW:kC (.node 6 empty 0 bs)=kA bs+1:=qT _ _ _ _;have aZ:=vQ bs;have aY:(bs.length:Int)<=1000000:=oA;have a3:=(e.alloc (Zc #[U O 6,I empty,U O 0,J ba bs.length bc] 25)).drew;have ah:=zyo (p:=⟨q.gives,q.given⟩) (E:=E) hf hE hOk (.node 6 empty 0 bs) ag q.writes 1 L lv _ _ a1 a7 an am oC oA a3 oA aB;have V:Q4 w.heap.size (U O 6) (I empty) (U O 0) (J ba bs.length bc) (w.alloc (Zc #[U O 6,I empty,U O 0,J ba bs.length bc] 25)).drew:=⟨oB,oB,oB,oB⟩
 have aj:FrU D lv lv w (w.alloc (Zc #[U O 6,I empty,U O 0,J ba bs.length bc] 25)).drew:=((FrU.refl D lv w).alloc _).drew;have aA:lv.ownBlock≠Z w.heap.size:=fun P=>by have:=(e.rl.lt _ P).2;omega
 have ai:w.heap.size≠D:=by have:=e.lc.lt;omega
 have aJ:Hid (lv.ownBlock≠Z w.heap.size):=aA;have aH:Hid (w.heap.size≠D):=ai;have y:Hid (bs≠[]->∃g o,ba=Z (A g o F)/\g<w0.heap.size/\kQ (·<w0.heap.size) w0 bs g o):=aw
 clear e ar aW aZ a7 aw a9 aa ab ac t hf hE hOk am an ag aA ai aQ aB aV
 conv=>arg 2;whnf
 dsimp only
 go_upto_region 12 with fail
 clear b0 b1 b2 b6 b8 b9 bb be;have aG:=a3.lc.c9;refine wp_region_held_drew (S:=fun M=>Q4 w.heap.size (U O 6) (I empty) (U O 0) (J ba bs.length bc) M/\M.cell? (A D 9 F)=Z (U O q.writes)) oD ⟨V,aG⟩ (fun h=>?_);clear aG;generalize (w.alloc (Zc #[U O 6,I empty,U O 0,J ba bs.length bc] 25)).drew=M at *;refine tkw 0 (Zp (Z (A D 0 F))) h HP ?_;simp only[jA,jB,jC];refine tkw 1 (Za #[U O 6,I empty,U O 0,J ba bs.length bc] ) h HP ?_ (hy:=Or.inl ⟨oI,fun K a6=>by obtain⟨⟨Q,ad,ae,af⟩,_⟩:=a6;go_simp⟩);simp only[jA,jB,jC];refine tkw 2 (Zp (Z (A D 0 F))) h HP ?_;simp only[jA,jB,jC];refine tkw 3 (Zp (Z (A D 0 F))) h HP ?_;simp only[jA,jB,jC];refine tkw 4 (Zp (Z (A D 6 F))) h HP ?_;simp only[jA,jB,jC];refine tkw 5 (Zp (Z (A D 9 F))) h HP ?_;simp only[jA,jB,jC];refine tkw 6 (U O q.writes) h HP ?_ (hy:=Or.inl ⟨oI,fun K a6=>by have ep:=a6.2;go_simp⟩);simp only[jA,jB,jC];refine oneH 7 fun aL ak=>?_
 go_simp;go_at_call 67;refine ah.mono ?_;rintro P eg ⟨rfl,aE,a2,a5⟩;go_wp2;have W:=a2.q4 V aH.out aJ.out
 obtain⟨r,b,j,i,m,f,l⟩:∃(r:List Loc) (b j i:Int) (m:Bool),LK w0 eg D own fs fv aE r b p0 p1 p2 (U O q.writes) (Y q.gives) (U O q.given) j i m/\Hid (KU fc fa j i R (if(!q.gives||yF (.node 6 empty 0 bs))=X then .bad 2 at_ else .ok b) m):=by
  have a:=a8.out;generalize blF E ⟨q.gives,q.given⟩ q.writes 1 (.node 6 empty 0 bs) L a1=aM at *
  cases aM with
  | bad c k=>obtain⟨r,b,_,f⟩:=a5;exact⟨r,b,c,k,H,f,a.symm⟩
  | ok G=>exact⟨G.1,G.2,fc,fa,X,a5,rfl,rfl,a.symm⟩
 have aR:=aj.trans a2;refine ak.out _ _ ⟨W,f.lc.c9⟩ (fun aT=>?_);clear ak aL aT ah a5 a2 aj a3 V h a8;refine wpAnyH_done oD ?_ _;obtain⟨eE,eF,eG,ei⟩:=id W;have aF:=f.lc.c10
 cases u:q.gives with
 | false =>
  rw[u]at aF
  have s:Hid (KU fc fa j i R (if H=X then .bad 2 at_ else .ok b) m):=by
   have a:=l.out;rw[u]at a;exact a
  clear l y;go_wp2_with (fail);refine(rU f s.out).mono ?_
  exact oz20x200
 | true =>
  rw[u]at aF;by_cases C:bs=[]
  ·subst C
   have s:Hid (KU fc fa j i R (if X=X then .bad 2 at_ else .ok b) m):=by
    have a:=l.out;rw[u]at a;exact a
   clear l y;go_wp2_with (fail);refine(rU (R:=R) (rest:=.ok b) f s.out).mono ?_;exact oz20x200
  ·have aD:0<bs.length:=List.length_pos_iff.2 C;obtain⟨aP,b7,rfl,aX,av⟩:=y.out C;obtain⟨ey,⟨eh,eA,eB,eC,rfl,Q,ad,ae,af⟩,B⟩:=av.get (bs.length - 1) oA
   have ay:eh=U O (knd (bs[bs.length - 1]' oA)):=by
    generalize bs[bs.length - 1]' oA=v at B;obtain⟨eu,eD,ew,ev⟩:=v;unfold Lies at B;obtain⟨ej,eo,d,_,_⟩:=B;injection d with d;simp only[Array.mk.injEq,jq,and_true]at d;exact d.1
   have T:=(f.bs.cell (p:=(A aP (b7+(bs.length - 1)*4) F)) aX).trans Q;rw[ay]at T;have ax:yF (.node 6 empty 0 bs)=(knd (bs[bs.length - 1]' oA)==14):=ztn aD
   have s:Hid (KU fc fa j i R (if(knd (bs[bs.length - 1]' oA)==14)=X then .bad 2 at_ else .ok b) m):=by
    have a:=l.out;rw[u,ax]at a;exact a
   generalize knd (bs[bs.length - 1]' oA)=er at *;obtain⟨nb,aC⟩:∃nb,bs.length=nb+1:=⟨bs.length - 1,oA⟩
   rw[aC]at ei T aY;rw[Nat.add_sub_cancel]at T;clear l y av B Q ad ae af ay ax aC aD C W;go_wp2_with (fail);refine(rU f s.out).mono ?_;exact oz20x200
end
section
variable {w0 w:Zw} {D:Nat} {own:FV} {fs:List FV} {fv lv:Zv} {L:List Loc} {at_:Int} {p0 p1 p2 p3 p4 p5:Zv} {fc fa:Int} {st:Bool}
theorem LK.setProc (a:LK w0 w D own fs fv lv L at_ p0 p1 p2 p3 p4 p5 fc fa st) (c d e f g h:Zv):LK w0 ((((((w.setCell (A D 6 F) c).setCell (A D 7 F) d).setCell (A D 8 F) e).setCell (A D 9 F) f).setCell (A D 10 F) g).setCell (A D 11 F) h) D own fs fv lv L at_ c d e f g h fc fa st:=by
 have i:LK w0 (w.setCell (A D 6 F) c) D own fs fv lv L at_ c p1 p2 p3 p4 p5 fc fa st:=have b:=a.rest 6 c;⟨a.lc.set6 _,b.1,a.hD,a.ow,a.fi,b.2.1,b.2.2,a.ne⟩;have j:LK w0 ((w.setCell (A D 6 F) c).setCell (A D 7 F) d) D own fs fv lv L at_ c d p2 p3 p4 p5 fc fa st:=have b:=i.rest 7 d;⟨i.lc.set7 _,b.1,a.hD,a.ow,a.fi,b.2.1,b.2.2,a.ne⟩;have k:LK w0 (((w.setCell (A D 6 F) c).setCell (A D 7 F) d).setCell (A D 8 F) e) D own fs fv lv L at_ c d e p3 p4 p5 fc fa st:=have b:=j.rest 8 e;⟨j.lc.set8 _,b.1,a.hD,a.ow,a.fi,b.2.1,b.2.2,a.ne⟩;have l:LK w0 ((((w.setCell (A D 6 F) c).setCell (A D 7 F) d).setCell (A D 8 F) e).setCell (A D 9 F) f) D own fs fv lv L at_ c d e f p4 p5 fc fa st:=have b:=k.rest 9 f;⟨k.lc.set9 _,b.1,a.hD,a.ow,a.fi,b.2.1,b.2.2,a.ne⟩;have m:LK w0 (((((w.setCell (A D 6 F) c).setCell (A D 7 F) d).setCell (A D 8 F) e).setCell (A D 9 F) f).setCell (A D 10 F) g) D own fs fv lv L at_ c d e f g p5 fc fa st:=have b:=l.rest 10 g;⟨l.lc.set10 _,b.1,a.hD,a.ow,a.fi,b.2.1,b.2.2,a.ne⟩;have b:=m.rest 11 h;exact⟨m.lc.set11 _,b.1,a.hD,a.ow,a.fi,b.2.1,b.2.2,a.ne⟩
theorem LK.noLoc (a:LK w0 w D own fs fv lv L at_ p0 p1 p2 p3 p4 p5 fc fa st):LK w0 (w.setCell (A D 4 F) (J F 0 0)) D own fs fv (J F 0 0) [] at_ p0 p1 p2 p3 p4 p5 fc fa st:=by
 have c:=a.rest 4 (J F 0 0);exact⟨a.lc.set4 _,c.1,a.hD,a.ow,a.fi,c.2.1,World.ownsRow_nil _ _ _ _,fun b _ d=>by cases d⟩
end
theorem zun (ps:List (ByteArray × Bool)) (a:Nat) (b:a<ps.length):qJ (ps.take (a+1))=qJ (ps.take a)++[⟨ps[a].1,bI ps[a].2,1⟩]:=by
 unfold qJ;rw[List.take_add_one,List.map_append,List.getElem?_eq_getElem b];rfl
theorem zup {w:Zw} {f:Nat} {x:ByteArray} {p t:Bool} {m:Option Bool} {ps:List (ByteArray × Bool)} {e:List Tree} {v:Zv} (n:Lies (·<f) w (Kid.proc x p t m ps (.node 6 empty 0 e)).tree v) : ∃g o c u sc,v=Za #[U O 4,I x,U O (2*bI p+bI t+gI m),J (Z (A g o F)) (ps.length+1) c]/\g<f /\ (∀d (q:d<ps.length),w.cell? (A g (o+d*4+1) F)=Z (I ps[d].1)/\w.cell? (A g (o+d*4+2) F)=Z (U O (bI ps[d].2))) /\ w.cell? (A g (o+ps.length*4) F)=Z (U O 6)/\w.cell? (A g (o+ps.length*4+1) F)=Z (I empty)/\w.cell? (A g (o+ps.length*4+2) F)=Z (U O 0)/\w.cell? (A g (o+ps.length*4+3) F)=Z (J u e.length sc)/\Lies (·<f) w (.node 6 empty 0 e) (Za #[U O 6,I empty,U O 0,J u e.length sc]):=by
 unfold Kid.tree at n;obtain⟨g,o,c,rfl,z,B,h⟩:=gO n oB;simp only[jb,List.length_map,List.length_singleton]at B h |-;obtain⟨D,K,E,k,G,l,r,i,j,s,b⟩:=h ps.length oA;rw[List.getElem_append_right oB]at b;simp only[List.length_map,Nat.sub_self,jI]at b;have C:=b;unfold Lies at b;obtain⟨a',y,a,_,_⟩:=b;injection a with a;simp only[Array.mk.injEq,jq,and_true,Value.int.injEq,Value.string.injEq,Value.slice.injEq,true_and]at a;obtain⟨rfl,rfl,rfl,rfl,rfl,rfl⟩:=a;refine⟨g,o,c,k,l,rfl,z,fun d q=>?_,r,i,j,s,C⟩;obtain⟨D,K,E,k,G,l,r,i,j,s,b⟩:=h d oA;rw[List.getElem_append_left (by simpa using q),List.getElem_map]at b;unfold zO Lies at b;obtain⟨a',y,a,_,_⟩:=b;injection a with a;simp only[Array.mk.injEq,jq,and_true,Value.int.injEq,Value.string.injEq,Value.slice.injEq,true_and,je]at a;obtain⟨rfl,rfl,rfl,rfl,rfl,rfl⟩:=a;exact⟨i,j⟩
section
variable {w0:Zw} {D:Nat} {own:FV} {fs:List FV} {fv lv:Zv} {L:List Loc} {p0 p1 p2 p3 p4 p5:Zv} {fc fa:Int} {E:Env}
theorem zz9 (hf:fs.length<=1000) (hE:E=⟨own.1,fs.map (·.1)⟩) (hOk:yY E) (x:ByteArray) (p r:Bool) (n:Option Bool) (ps:List (ByteArray × Bool)) (bs:List Tree) (am:BlT (.node 6 empty 0 bs)) (ch:ps.length<=20) (v:Zv) (w:Zw) (at_:Int) (aR:Lies (·<w0.heap.size) w0 (Kid.proc x p r n ps (.node 6 empty 0 bs)).tree v) (y:LK w0 w D own fs fv lv L at_ p0 p1 p2 p3 p4 p5 fc fa X) (dw:1<=at_) (co:at_+kC (Kid.proc x p r n ps (.node 6 empty 0 bs)).tree<=1000000) : Calls prog 36 #[Zp (Z (A D 0 F)),v] w (PRR w0 D own fs fv lv fc fa w (prF E (kO x p r n ps) ps (.node 6 empty 0 bs) (yF (.node 6 empty 0 bs)) at_)):=by
 have dt:=kc25;have du:prog.cellsOf 57=6:=vA;obtain⟨cx,cm,cu,cv,cw⟩:=info_parts zm3;rw[zc5]at co;have e0:=kR bs;have ct:=aR;obtain⟨g,o,c,bq,sc,rfl,aO,bn,ag,ah,ai,aj,aB⟩:=zup ct;generalize cp:2*bI p+bI r+gI n=m at *;have ao:=(y.alloc (Zc #[U O 4,I x,U O m,J (Z (A g o F)) (ps.length+1) c] 25))
 have bg:=y.lc.lt;have d0:=ao.lc.c5;have d5:=ao.lc.fz 5;have ap:=ao.setAt (at_+1);have av:Q4 w.heap.size (U O 4) (I x) (U O m) (J (Z (A g o F)) (ps.length+1) c) ((w.alloc (Zc #[U O 4,I x,U O m,J (Z (A g o F)) (ps.length+1) c] 25)).setCell (A D 5 F) (U O (at_+1))):=Q4.other oA ⟨oB,oB,oB,oB⟩ _ _;have aI:FrU D lv lv w ((w.alloc (Zc #[U O 4,I x,U O m,J (Z (A g o F)) (ps.length+1) c] 25)).setCell (A D 5 F) (U O (at_+1))):=((FrU.refl D lv w).alloc _).set _ _ (fun _ f=>f);rw[World.setCell_alloc_past (hn:=bg)]at ap av aI;have aL:=zox x p r n ps (.node 6 empty 0 bs) _ _ (Lies.below aR ap.bs) oA
 have bb:prF E (kO x p r n ps) ps (.node 6 empty 0 bs) (yF (.node 6 empty 0 bs)) at_=(match blF E ⟨(kO x p r n ps).gives,(kO x p r n ps).given⟩ (kO x p r n ps).writes 1 (.node 6 empty 0 bs) (qJ ps) (at_+1+ps.length)with
  | .bad c d=>.bad c d
  | .ok s=>if(!(kO x p r n ps).gives||yF (.node 6 empty 0 bs))=X then .bad 2 at_ else .ok s.2):=by
  unfold prF;have f:((!(kO x p r n ps).gives||yF (.node 6 empty 0 bs))=X)=((kO x p r n ps).gives=H/\yF (.node 6 empty 0 bs)=X):=oB;simp only[f];rfl
 obtain⟨R,ae⟩:∃R,prF E (kO x p r n ps) ps (.node 6 empty 0 bs) (yF (.node 6 empty 0 bs)) at_=R:=⟨_,rfl⟩
 rw[ae];have aX:Hid (R=_):=ae.symm.trans bb;unfold qR at aL;generalize kO x p r n ps=q at *;have dy:(ps.length:Int)<=20:=oA;have aE:Hid (BlT (.node 6 empty 0 bs)/\(∀e (cn:e<ps.length),w0.cell? (A g (o+e*4+1) F)=Z (I ps[e].1)/\w0.cell? (A g (o+e*4+2) F)=Z (U O (bI ps[e].2)))/\Lies (·<w0.heap.size) w0 (.node 6 empty 0 bs) (Za #[U O 6,I empty,U O 0,J bq bs.length sc])/\w0.cell? (A g (o+ps.length*4) F)=Z (U O 6)/\w0.cell? (A g (o+ps.length*4+1) F)=Z (I empty)/\w0.cell? (A g (o+ps.length*4+2) F)=Z (U O 0)/\w0.cell? (A g (o+ps.length*4+3) F)=Z (J bq bs.length sc)):=⟨am,bn,aB,ag,ah,ai,aj⟩
 clear am bn aB ag ah ai aj ae bb aR ao y cp;go_enter func36,ntmps36;obtain⟨d6,da,db,dc⟩:=id av;go_wp2_with (fail);refine aL.mono ?_;rintro f aD ⟨e6,rfl,bp,ay⟩;obtain⟨a7,a8,rfl,_,_⟩:=lexs.own_shape bp;obtain⟨a2,V,dd,a5,W,a3⟩:=q;dsimp only;have j:=ap.below ay;have aM:=av.below ay;have b6:=aI.trans (FrU.below ay D _);have cB:=j.lc.c4;have d1:=j.lc.c6;have d2:=j.lc.c7;have d3:=j.lc.c8;have d4:=j.lc.c9;have cz:=j.lc.c10;have cA:=j.lc.c11;have b1:=j.lc.fz 4;have bY:=j.lc.fz 6;have bZ:=j.lc.fz 7;have c6:=j.lc.fz 8;have ca:=j.lc.fz 9;have bS:=j.lc.fz 10;have bX:=j.lc.fz 11;have aK:=(j.setProc (I a2) (Y V) (J a7 ps.length a8) (U O a5) (Y W) (U O a3)).noLoc;have P:D≠w.heap.size:=oA;have aw:=Q4.other (M:=D) P (Q4.other (M:=D) P (Q4.other (M:=D) P (Q4.other (M:=D) P (Q4.other (M:=D) P (Q4.other (M:=D) P (Q4.other (M:=D) P aM 6 (I a2)) 7 (Y V)) 8 (J a7 ps.length a8)) 9 (U O a5)) 10 (Y W)) 11 (U O a3)) 4 (J F 0 0);have aJ:=FrU.set (u2:=J F 0 0) (FrU.set (FrU.set (FrU.set (FrU.set (FrU.set (FrU.set b6 6 (I a2) (fun _ f=>f)) 7 (Y V) (fun _ f=>f)) 8 (J a7 ps.length a8) (fun _ f=>f)) 9 (U O a5) (fun _ f=>f)) 10 (Y W) (fun _ f=>f)) 11 (U O a3) (fun _ f=>f)) 4 (J F 0 0) (fun b f=>by cases f);have bm:w.heap.size<aD.heap.size:=jR aD (A w.heap.size 0 F) aM.1;have aQ:w.heap.size<(((((((aD.setCell (A D 6 F) (I a2)).setCell (A D 7 F) (Y V)).setCell (A D 8 F) (J a7 ps.length a8)).setCell (A D 9 F) (U O a5)).setCell (A D 10 F) (Y W)).setCell (A D 11 F) (U O a3)).setCell (A D 4 F) (J F 0 0)).heap.size:=by simpa using bm
 clear aL ap av aI d6 da db dc d0 d5;have aV:Hid (w.heap.size≠D):=(by show _≠_;omega)
 have HP:Hid (∀c (a6 df:Array Zv) d w2,bodyPost prog f36 (PRR w0 D own fs fv lv fc fa w R) (.panic c) ⟨a6,d⟩ w2->bodyPost prog f36 (PRR w0 D own fs fv lv fc fa w R) (.panic c) ⟨df,d⟩ w2):=fun _ _ _ _ _ y=>y
 have cq:=aw.2.2.2
 go_upto_block 0 with fail
 clear cB d1 d2 d3 d4 cz cA b1 bY bZ c6 ca bS bX j aM b6 bm bp ay bg P cq;generalize (((((((aD.setCell (A D 6 F) (I a2)).setCell (A D 7 F) (Y V)).setCell (A D 8 F) (J a7 ps.length a8)).setCell (A D 9 F) (U O a5)).setCell (A D 10 F) (Y W)).setCell (A D 11 F) (U O a3)).setCell (A D 4 F) (J F 0 0))=ds at *;go_cut [6] from 32 to 65 (fun _ wr=>∃(N:Zv),LK w0 wr D own fs fv N (qJ ps) (at_+1+ps.length) (I a2) (Y V) (J a7 ps.length a8) (U O a5) (Y W) (U O a3) fc fa X/\FrU D lv N w wr/\Q4 w.heap.size (U O 4) (I x) (U O m) (J (Z (A g o F)) (ps.length+1) c) wr)
 case first =>
  go_wp2;go_loopw [6] (fun a6 wr=>∃(e:Nat) (N:Zv) (i:List Loc) (a':Int),e<=ps.length/\a6=U O e/\i=qJ (ps.take e)/\i.length=e/\a'=at_+1+(e:Int)/\LK w0 wr D own fs fv N i a' (I a2) (Y V) (J a7 ps.length a8) (U O a5) (Y W) (U O a3) fc fa X/\FrU D lv N w wr/\N.ownBlock≠Z w.heap.size/\Q4 w.heap.size (U O 4) (I x) (U O m) (J (Z (A g o F)) (ps.length+1) c) wr/\w.heap.size<wr.heap.size) (fun a6 _=>ps.length - (intOf a6).toNat)
  case atStart=>exact⟨0,_,[],at_+1,jz _,rfl,by simp[qJ],rfl,oB,aK,aJ,(fun f=>by cases f),aw,aQ⟩
  case round =>
   clear aK aJ aw aQ aX;obtain⟨e,N,i,a',cn,rfl,au,b8,bc,Q,ac,bi,ad,bj⟩:=hrel;by_cases aP:e<ps.length
   ·obtain⟨a9,ak⟩:=aE.out.2.1 e aP
    have bz:Hid (i++[⟨ps[e].1,bI ps[e].2,1⟩]=qJ (ps.take (e+1))):=by
     show _=_;rw[au];exact(zun ps e aP).symm
    have bu:Hid (w0.cell? (A g (o+e*4+1) F)=Z (I ps[e].1)):=a9;have bv:Hid (w0.cell? (A g (o+e*4+2) F)=Z (U O (bI ps[e].2))):=ak;have aU:Hid (g<w0.heap.size):=aO;have bE:Hid (e+1<=ps.length):=aP;have bw:Hid (i.length=e):=b8;have br:Hid (a'+1=at_+1+((e+1:Nat):Int)):=(by show _=_;omega)
    clear a9 ak aE au aO;generalize ps[e].1=u at *;generalize bI ps[e].2=t at *;obtain⟨aS,aT,rfl,_,_⟩:=lexs.own_shape Q.rl;have dn:=Q.lc.c5;have dr:=Q.lc.fz 5;have k:=(Q.setAt (a'+1)).drew;have aa:Q4 w.heap.size (U O 4) (I x) (U O m) (J (Z (A g o F)) (ps.length+1) c) (wr.setCell (A D 5 F) (U O (a'+1))).drew:=Q4.other (M:=D) (fun f=>aV.out f.symm) ad 5 (U O (a'+1));have an:=(FrU.set (u2:=J aS i.length aT) ac 5 (U O (a'+1)) (fun _ f=>f)).drew;have aA:=k.bs;have dp:=k.lc.c4;have bh:(Value.slice aS i.length aT).ownBlock≠Z w.heap.size:=bi;have aW:Hid (w.heap.size<(wr.setCell (A D 5 F) (U O (a'+1))).drew.heap.size):=(by show _<_;simpa using bj)
    have e2:i.length<=20:=oA;have dZ:a'<=1000000:=oA;have dz:0<=a':=oA;clear Q ac ad bi bj bc b8
    go_upto_region 10 with fail
    clear dn dr;refine wp_region_held_drew (S:=fun C=>Q4 w.heap.size (U O 4) (I x) (U O m) (J (Z (A g o F)) (ps.length+1) c) C/\Below w0.heap.size w0 C) oD ⟨aa,aA⟩ (fun h=>?_);generalize (wr.setCell (A D 5 F) (U O (a'+1))).drew=C at *;refine tkw 0 (Zp (Z (A D 0 F))) h HP ?_;simp only[jA,jB,jC];refine tkw 1 (Zp (Z (A D 0 F))) h HP ?_;simp only[jA,jB,jC];refine tkw 2 (Zp (Z (A D 0 F))) h HP ?_;simp only[jA,jB,jC];refine tkw 3 (Zp (Z (A D 4 F))) h HP ?_;simp only[jA,jB,jC];refine tkw 5 (Zp (Z (A w.heap.size 3 F))) h HP ?_;simp only[jA,jB,jC];refine tkw 6 (J (Z (A g o F)) (ps.length+1) c) h HP ?_ (hy:=Or.inl ⟨oI,fun ab K=>by obtain⟨⟨bR,a9,ak,aG⟩,_⟩:=K;go_simp⟩);simp only[jA,jB,jC];refine tkw 7 (U O e) h HP ?_;simp only[jA,jB,jC];refine tkw 8 (Zp (Z (A g (o+e*4) F))) h HP ?_ (hy:=Or.inl ⟨oI,fun ab K=>oz20y205⟩);simp only[jA,jB,jC];refine tkw 9 (Zp (Z (A g (o+e*4+1) F))) h HP ?_;simp only[jA,jB,jC];refine tkw 10 (I u) h HP ?_ (hy:=Or.inl ⟨oI,fun ab K=>by have a9:=(K.2.cell (p:=(A g (o+e*4+1) F)) aU.out).trans bu.out;go_simp⟩);simp only[jA,jB,jC];refine tkw 11 (Zp (Z (A w.heap.size 3 F))) h HP ?_;simp only[jA,jB,jC];refine tkw 12 (J (Z (A g o F)) (ps.length+1) c) h HP ?_ (hy:=Or.inl ⟨oI,fun ab K=>by obtain⟨⟨bR,a9,ak,aG⟩,_⟩:=K;go_simp⟩);simp only[jA,jB,jC];refine tkw 13 (U O e) h HP ?_;simp only[jA,jB,jC];refine tkw 14 (Zp (Z (A g (o+e*4) F))) h HP ?_ (hy:=Or.inl ⟨oI,fun ab K=>oz20y205⟩);simp only[jA,jB,jC];refine tkw 15 (Zp (Z (A g (o+e*4+2) F))) h HP ?_;simp only[jA,jB,jC];refine tkw 16 (U O t) h HP ?_ (hy:=Or.inl ⟨oI,fun ab K=>by have a9:=(K.2.cell (p:=(A g (o+e*4+2) F)) aU.out).trans bv.out;go_simp⟩);simp only[jA,jB,jC];refine tkw 17 (Za #[I u,U O t,U O 1] ) h HP ?_;simp only[jA,jB,jC];have ax:=Q4.alloc aa (Zc #[I u,U O t,U O 1] 115);have ar:=k.alloc (Zc #[I u,U O t,U O 1] 115);have b7:=an.alloc (Zc #[I u,U O t,U O 1] 115);have ci:(C.alloc (Zc #[I u,U O t,U O 1] 115)).heap[C.heap.size]?=Z (Zc #[I u,U O t,U O 1] 115 (0,0)):=World.alloc_heap_new C _;have az:=ar.bs;have dq:=ar.lc.c4;have aY:Hid (C.heap.size<=(C.alloc (Zc #[I u,U O t,U O 1] 115)).heap.size):=(by show _<=_;simp)
    refine wpAnyH_ready (rs:=[4,18]) oD oB ?_;refine AllReadyH.cons rfl (fun z l=>?_) (AllReadyH.cons rfl (fun z l=>?_) AllReadyH.nil)
    ·go_simp;refine l.out _ _ h (fun G=>?_);clear l z G;refine oneH 18 fun z l=>?_
     exact oz20x193
    ·go_simp;refine l.out _ _ ⟨ax,az⟩ (fun G=>?_);clear l z G;refine oneH 4 fun z l=>?_
     exact oz20x193
   ·obtain rfl:e=ps.length:=oA;rw[List.take_length]at au;subst au;subst bc;go_wp2
    go_meet
    case rel=>exact⟨N,Q,ac,ad⟩
 case rest =>
  clear aK aJ aw aQ;obtain⟨N,Q,ac,ad⟩:=hcut;obtain⟨am,_,aB,ag,ah,ai,aj⟩:=aE.out;have ae:=aX.out.symm;have e1:kC (.node 6 empty 0 bs)=kA bs+1:=qT _ _ _ _
  go_step
  refine ya5 (q:=⟨a2,V,dd,a5,W,a3⟩) hf hE hOk (by rw[zfs];exact ch) (bJ ps) am aO aB ag ah ai aj ad Q oA oA ae (fun _ _ _ _ _ y=>y) ?_;intro a6 ab cr;refine bodyPost_end (results_none rfl _ _ _) rfl ?_;obtain⟨cj,cy,bF,bH,bP,bN,de,dh,di,dj,dk,dl,dm,ce,cf,cg⟩:=cr;exact⟨cj,cy,bF,bH,bP,bN,de,dh,di,dj,dk,dl,dm,ac.trans ce,cf,cg⟩
end
end chk
namespace chk
open Go.RowKit
open syn face
section
variable {w0 w w7:Zw} {D:Nat} {own:FV} {fs:List FV} {fv lv:Zv} {L:List Loc} {at_:Int} {p0 p1 p2 p3 p4 p5:Zv} {fc fa:Int} {st:Bool} {g cap:Nat} {q:FV}
theorem LK.pushF (a:LK w0 w D own fs fv lv L at_ p0 p1 p2 p3 p4 p5 fc fa st) (s:qX w0 (fvV q) q.1) (h:w7.ownsRow (D+1) 38 3 (J (Z (A g 0 F)) (fs.length+1) cap) (fs.length+1) (uF fs++[I q.1.module,q.2.1,q.2.2])) (f:w.grownBy w7 fv.ownBlock) (k:fv.ownBlock=Z g\/g=w.heap.size):LK w0 (w7.setCell (A D 3 F) (J (Z (A g 0 F)) (fs.length+1) cap)) D own (fs++[q]) (J (Z (A g 0 F)) (fs.length+1) cap) lv L at_ p0 p1 p2 p3 p4 p5 fc fa st:=by
 have j:Z D≠fv.ownBlock:=fun c=>by have i:D+1<=D:=(a.rf.lt _ c.symm).1;omega
 have r:=a.lc.block (f.block D a.lc.lt j)
 have p:g≠D:=by
  rcases k with c | c
  ·exact fun d=>j (by rw[c,d])
  ·have:=a.lc.lt;omega
 have o:Below w0.heap.size w0 w7:=a.bs.grown f a.bs.size (fun u c=>by have i:=(a.rf.lt _ c).1;have:=a.hD;omega)
 have l:=a.rl.kept f (by
  cases c:lv.ownBlock with
  | none=>exact .inl rfl
  | some b=>exact .inr (fun d=>a.ne b d.symm c))
 refine⟨r.set3 _,o.setCell a.hD _,a.hD,a.ow,fun t h=>?_,?_,jU l (fun c=>by have i:D+1<=D:=(l.lt _ c).1;omega) _,fun b m d=>?_⟩
 ·rcases List.mem_append.1 h with e | e
  ·exact a.fi t e
  ·rcases jy.1 e with rfl;exact s
 ·rw[jb,zq6];exact jU h (fun c=>p (by injection c)) _
 ·have n:g=b:=by injection m
  subst n;rcases k with c | c
  ·exact a.ne _ c d
  ·have:=(a.rl.lt _ d).2;omega
end
def Apart (a:List FV):Prop:=∀i j (hi:i<a.length) (b:j<a.length),eqS a[i].1.module a[j].1.module=H->i=j
def Fnd (p:FV->Bool) (a fs:List FV) (i:Nat) (b:Bool) (c:List FV):Prop :=
 (b=X/\c=fs/\∀k (d:k<a.length),k<i->p a[k]=X)\/(b=H/\∃k,∃d:k<a.length,k<i/\p a[k]=H/\c=fs++[a[k]])
theorem Fnd.start (p:FV->Bool) (b fs:List FV):Fnd p b fs 0 X fs:=.inl ⟨rfl,rfl,fun _ _ a=>absurd a (Nat.not_lt_zero _)⟩
theorem Fnd.no {p:FV->Bool} {d fs h:List FV} {a:Nat} {b:Bool} (k:Fnd p d fs a b h) (hi:a<d.length) (m:p d[a]=X):Fnd p d fs (a+1) b h:=by
 rcases k with⟨e,i,f⟩|⟨e,c,g,i,f,l⟩
 ·refine .inl ⟨e,i,fun c g n=>?_⟩;by_cases j:c=a;·subst j;exact m
  ·exact f c g oA
 ·exact .inr ⟨e,c,g,oA,f,l⟩
theorem Fnd.yes {p:FV->Bool} {c fs d:List FV} {a:Nat} {b:Bool} (h:Fnd p c fs a b d) (l:∀a j (hi:a<c.length) (o:j<c.length),p c[a]=H->p c[j]=H->a=j) (hi:a<c.length) (g:p c[a]=H):d=fs/\Fnd p c fs (a+1) H (d++[c[a]]):=by
 rcases h with⟨i,e,f⟩|⟨i,m,k,e,f,n⟩
 ·subst e;exact⟨rfl,.inr ⟨rfl,a,hi,oA,g,rfl⟩⟩
 ·have:=l m a k hi f g;omega
theorem Fnd.last {p:FV->Bool} {a fs f:List FV} {b:Bool} (o:Fnd p a fs a.length b f) (t:∀c j (hi:c<a.length) (u:j<a.length),p a[c]=H->p a[j]=H->c=j):(b=X/\f=fs/\a.find? p=F)\/(b=H/\∃q∈a,a.find? p=Z q/\f=fs++[q]):=by
 rcases o with⟨g,k,e⟩|⟨g,n,h,k,e,r⟩
 ·refine .inl ⟨g,k,?_⟩;rw[List.find?_eq_none];intro q s m;obtain⟨c,hi,rfl⟩:=List.mem_iff_getElem.1 s;rw[e c hi hi]at m;cases m
 ·refine .inr ⟨g,a[n],jH h,?_,r⟩
  cases d:a.find? p with
  | none=>rw[List.find?_eq_none]at d;exact absurd e (d _ (jH h))
  | some q =>
   obtain⟨c,hi,i⟩:=List.mem_iff_getElem.1 (List.mem_of_find?_eq_some d);have l:=List.find?_some d;rw[<- i]at l;have:=t c n hi h l e;subst this;rw[i]
theorem Apart.name {c:List FV} (e:Apart c) (x:ByteArray):∀a b (hi:a<c.length) (d:b<c.length),eqS c[a].1.module x=H->eqS c[b].1.module x=H->a=b:=fun a b hi d f g=>e a b hi d (by rw[xN.1 f,xN.1 g];exact xN.2 rfl)
end chk
end Go.Proofs.YtjkcecppnmlhjaaGreatDoor
