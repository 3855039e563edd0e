/- What the program's Check answers: its plain function, what is given. -/
import Derived.Test.YtbjppepjmcfkaaaGreatDoorTQr
import Derived.Test.YtbjppepjmcfkaaaGreatDoorTQ12
import Derived.Test.YtbjppepjmcfkaaaGreatDoorTQ09
open Go.Proofs.Tryz
open Go.Value renaming int → U, string → I, slice → J, bool → Y, agg → Za, pointer → Zp
open Go.IntKind renaming i64 → O
open Go.Obj renaming cells → Zc
open Go.Addr renaming mk → A
open Option renaming none → F, some → Z
open Bool renaming false → X, true → H
open Go renaming World → Zw, Value → Zv
set_option maxHeartbeats 4000000
set_option linter.unusedVariables false
set_option linter.unusedSimpArgs false
set_option maxRecDepth 100000
namespace Go.Proofs.YtbjppepjmcfkaaaGreatDoor
theorem zcd {e:Prop} (M:e:=by
 rw[zm8];exact dx):e:=M
theorem zdw {e:Prop} (M:e:=by
 rw[N,jR];exact jE _):e:=M
theorem zdv {e:Prop} (M:e:=by
 rw[N];exact aJ.other oA _):e:=M
theorem zdu {e:Prop} (M:e:=by
 rw[N];exact aH.other oA _):e:=M
theorem zdt {e:Prop} (M:e:=by
 rw[N];exact G.setAt _):e:=M
theorem cC {e:Prop} (M:e:=by
 rcases av.own _ b with bc | bc;cases bc;omega):e:=M
theorem zav {x:Prop} (au:x:=by
 have:=aL _ r;omega):x:=au
theorem zgv {x:Prop} (au:x:=by
 show _=_;rw[aJ.out,aN.out]):x:=au
theorem zgu {x:Prop} (au:x:=by
 show _=_;rw[zbk,HP.out];simp[kZ]):x:=au
theorem zgt {x:Prop} (au:x:=by
 show _=_;rw[zbo,aI.out];simp[kW]):x:=au
theorem zdx {h:Prop} (d:h:=by
 injection b with b;exact b.symm):h:=d
theorem zgw {e:Prop} (j:e:=by
 rw[M];exact aP.other oA _):e:=j
theorem zce {e:Prop} (j:e:=by
 have df:w.cell? (A D 5 F)=Z (.map (Z Kb)):=an;go_simp):e:=j
namespace chk
open Go.RowKit Go.Shelf
open syn face
theorem zwg (ps:List (ByteArray × Bool)) (a:Nat) (b:a<ps.length):kN (qY (ps.take (a+1)))=kN (qY (ps.take a))++[⟨ps[a].1,X,bI ps[a].2,0⟩]:=by
 rw[List.take_succ_eq_append_getElem b];unfold qY kN;rw[List.map_append,List.map_append];rfl
theorem zjc {c:Nat->Prop} {w:Zw} {e:Tree}:∀ {d:List Tree} {a b:Nat},qF c w (d++[e]) a b->qF c w d a b
 | [],a,b,h=>by unfold qF;trivial
 | t :: r,a,b,h=>by
  rw[jL]at h;unfold qF at h |-;exact⟨h.1,zjc h.2⟩
section
variable {E:Env} {w0:Zw} {D Kb kn:Nat} {kf:KF}
theorem ycw (L:ByteArray) (e ab:Bool) (a8:Option Bool) (ps:List (ByteArray × Bool)) (Q:List Tree) (c8:∀bK,yF bK->Tab E bK kf (kN bK)) (aK:∀a7∈Q,StT a7) (dx:ps.length<=20) (dw:InT (.node 6 empty 0 Q)) (v:Zv) (w:Zw) (at_:Int) (eA:List VarD) (ez:Zv) (cf:Lies (·<w0.heap.size) w0 (Kid.proc L e ab a8 ps (.node 6 empty 0 Q)).tree v) (M:CS w0 w D Kb kn kf eA ez (at_+1)) (eL:0<=at_) (e6:at_+kD (Kid.proc L e ab a8 ps (.node 6 empty 0 Q)).tree<=1000000) : Calls prog 84 #[Zp (Z (A D 0 F)),v,U O at_] w (PR w0 D Kb kn kf (prF E (qB L e ab a8 ps) ps (.node 6 empty 0 Q) (gF (.node 6 empty 0 Q)) at_)):=by
 have eI:=kc25;have eH:=kc190;have eK:prog.cellsOf 91=6:=dP;have eJ:prog.cellsOf 87=4:=cell4;obtain⟨ep,hi,em,en,eo⟩:=info_parts ze8;have dy:=fun g (cL:Below w0.heap.size w0 g)=>zhe L e ab a8 ps (.node 6 empty 0 Q) v g (cf.to (fun p c9=>jo c9 cL.size) (fun p c9 P=>cL.cell (p:=(A p P F)) c9)) oA dw
 rw[zm9 L e ab a8 ps Q]at e6;have eO:=kX Q;have d2:=dF Q;obtain⟨V,P,c,rfl,af,eN,eS,b1,di,W,aX,bv,d4,bw⟩:=zuh cf;have aY:=zku L e ab a8 ps;have aV:=zv6 (E:=E) (p:=⟨(qB L e ab a8 ps).gives,(qB L e ab a8 ps).given⟩) (w0:=w0) (D:=D) (Kb:=Kb) (kn:=kn) c8;have aS:Hid _:=fun af=>zyi E (qB L e ab a8 ps) ps 6 empty 0 Q at_ aK af
 have aM:Hid _:=fun af cc=>zwi E (qB L e ab a8 ps) ps 6 empty 0 Q at_ aK af cc
 have aT:Hid _:=fun ew bm cc=>yad E (qB L e ab a8 ps) ps 6 empty 0 ew at_ bm cc
 generalize 2*bI e+bI ab+gI a8=m at *;generalize qB L e ab a8 ps=q at *;obtain⟨T,R,dh,f,aR,K⟩:=q;dsimp only at aY aV aS aM aT;obtain⟨aN,ax⟩:∃aN,Hid (prF E ⟨T,R,dh,f,aR,K⟩ ps (.node 6 empty 0 Q) (gF (.node 6 empty 0 Q)) at_=aN):=⟨_,rfl⟩
 rw[ax.out];clear cf;have eP:=M.lt;have eM:=M.hD;have bR:=M.alloc (Zc #[U O 4,I L,U O m,J (Z (A V P F)) (ps.length+1) c] 25);have cz:=BoxC.new w #[U O 4,I L,U O m,J (Z (A V P F)) (ps.length+1) c] 25;go_enter func84,ntmps84;go_wp2_with (go_at_call 127;refine(dy _ bR.bs).mono ?_;rintro b o ⟨f3,rfl,de,bu⟩;obtain⟨a2,a3,rfl,_,_⟩:=lexs.own_shape de;unfold zN;have aG:=(bR.below bu).alloc (Zc #[I T,Y R,J a2 ps.length a3,U O f,Y aR,U O K] 91);have aE:=aG.c6;have cj:=aG.fz 6;have aA:BoxC ((o.alloc (Zc #[I T,Y R,J a2 ps.length a3,U O f,Y aR,U O K] 91)).setCell (A D 6 F) (J F 0 0)) w.heap.size #[U O 4,I L,U O m,J (Z (A V P F)) (ps.length+1) c] 25:=((cz.below bu).alloc _).other oA _;have ei:=bu.size;rw[jP]at ei;have aI:BoxC ((o.alloc (Zc #[I T,Y R,J a2 ps.length a3,U O f,Y aR,U O K] 91)).setCell (A D 6 F) (J F 0 0)) o.heap.size #[I T,Y R,J a2 ps.length a3,U O f,Y aR,U O K] 91:=(BoxC.new o _ _).other oA _;have du:=aG.clear;have b7:=aA.cell 3 rfl);clear bR aG cz aE cj b7 bu de;generalize ((o.alloc (Zc #[I T,Y R,J a2 ps.length a3,U O f,Y aR,U O K] 91)).setCell (A D 6 F) (J F 0 0))=dl at *;go_loopw [27] (fun a7 wr=>∃(n:Nat) (y:Zv),n<=ps.length/\a7=U O n/\CS w0 wr D Kb kn kf (kN (qY (ps.take n))) y (at_+1+n)/\FrU D (J F 0 0) y dl wr) (fun a7 _=>ps.length - (intOf a7).toNat)
 case atStart=>exact⟨0,_,jz _,rfl,by simpa[qY,kN] using du,FrU.refl _ _ _⟩
 case round =>
  obtain⟨n,y,eR,rfl,G,av⟩:=hrel;by_cases d3:n<ps.length
  ·skip;obtain⟨aj,ak,cu,cv,cw,cx⟩:=b1 n d3;have eq:=(G.bs.cell (p:=(A V (P+n*4) F)) af).trans cu;have er:=(G.bs.cell (p:=(A V (P+n*4+1) F)) af).trans cv;have eu:=(G.bs.cell (p:=(A V (P+n*4+2) F)) af).trans cw;have ev:=(G.bs.cell (p:=(A V (P+n*4+3) F)) af).trans cx;have dk:=show Hid _ from zwg ps n d3
   have co:Hid (bits BinOp.and IntKind.i64 (bI ps[n].2) 1=bI ps[n].2):=zch _;have eW:(kN (qY (ps.take n))).length<=20:=by rw[xT,zm8,List.length_take];omega
   clear cu cv cw cx b1;generalize ps[n].1=j at *;generalize bI ps[n].2=i at *;generalize kN (qY (ps.take n))=vs at *;obtain⟨am,an,rfl,eU,eV⟩:=lexs.own_shape G.rl;have b6:∀p,(Value.slice am vs.length an).ownBlock=Z p->p<wr.heap.size:=fun p b=>(G.rl.lt _ b).2
   have eQ:=G.lt;have aG:=G.alloc (Zc #[U O 5,I j,U O i,J aj 0 ak] 25);have d1:=(FrU.refl D (J am vs.length an) wr).alloc (Zc #[U O 5,I j,U O i,J aj 0 ak] 25);have au:=aG.begin oA oA;have cH:Q4 wr.heap.size (U O 5) (I j) (U O i) (J aj 0 ak) (wr.alloc (Zc #[U O 5,I j,U O i,J aj 0 ak] 25)):=⟨oC,oC,oC,oC⟩
   go_wp2_with (go_at_call 81;refine au.mono ?_;rintro b h ⟨rfl,N⟩;have B:CS w0 h D Kb kn kf vs (J am vs.length an) (at_+1+n+1):=by { rw[N];exact aG.setAt _ };have r:Q4 wr.heap.size (U O 5) (I j) (U O i) (J aj 0 ak) h:=by { rw[N];exact Q4.other oA cH _ _ };have a6:FrU D (J am vs.length an) (J am vs.length an) wr h:=by { rw[N];exact d1.set _ _ (fun _ b=>b) };have b2:wr.heap.size+1<=h.heap.size:=by { rw[N,jR];simp };clear N);refine wp_region_held_drew (S:=fun g=>Q4 wr.heap.size (U O 5) (I j) (U O i) (J aj 0 ak) g) oB (show Q4 wr.heap.size (U O 5) (I j) (U O i) (J aj 0 ak) h.drew from r) (fun x=>?_);clear x eq er eu ev aG d1 au cH;replace B:=B.drew;replace a6:=a6.drew;replace r:Q4 wr.heap.size (U O 5) (I j) (U O i) (J aj 0 ak) h.drew:=r;replace b2:wr.heap.size+1<=h.drew.heap.size:=b2;generalize h.drew=cr at *;refine tkP 0 (Zp (Z (A D 0 F))) r ?_;simp only[Act.put,jA,jB,jC];refine tkP 1 (Zp (Z (A D 0 F))) r ?_;simp only[Act.put,jA,jB,jC];refine tkP 2 (Zp (Z (A D 0 F))) r ?_;simp only[Act.put,jA,jB,jC];refine tkP 3 (Zp (Z (A D 6 F))) r ?_;simp only[Act.put,jA,jB,jC];refine tkP 5 (Za #[U O 5,I j,U O i,J aj 0 ak]) r ?_;simp only[Act.put,jA,jB,jC];refine wpAnyH_ready (rs:=[4,6]) oB oC ?_;refine AllReadyH.cons rfl (fun z l=>?_) (AllReadyH.cons rfl (fun z l=>?_) AllReadyH.nil)
   focus
    have aE:=B.c6;go_simp;refine l.out _ _ r (fun x=>?_);clear l z x aE;refine oneH 6 fun z l=>?_
    go_simp;go_at_call 129;refine(zgp 5 j i aj 0 ak cr).mono ?_;rintro b C ⟨rfl,ai⟩;rw[co.out];unfold qE;have ej:=ai.size;replace B:=B.below ai;replace r:=Q4.below r ai;replace a6:=a6.trans (FrU.below ai D (J am vs.length an));go_wp2;refine l.out _ _ r (fun x=>?_);clear l z x ai;refine oneH 7 fun z l=>?_
    go_simp;have cd:∀n u,([I j,Y X,U O i,U O 0]:List Zv)[n]?=Z u->(C.alloc (Zc #[I j,Y X,U O i,U O 0] 87)).cell? (((A C.heap.size 0 F):Addr).add n)=Z u:=zZ _ #[I j,Y X,U O i,U O 0] _ _ rfl;have bz:C.heap.size+1=(C.alloc (Zc #[I j,Y X,U O i,U O 0] 87)).heap.size:=oC;have da:wr.heap.size+1<=C.heap.size:=oA;replace a6:=a6.alloc (Zc #[I j,Y X,U O i,U O 0] 87);replace B:=B.alloc (Zc #[I j,Y X,U O i,U O 0] 87);replace r:=Q4.alloc r (Zc #[I j,Y X,U O i,U O 0] 87);refine l.out _ _ r (fun x=>?_);clear l z x;generalize C.alloc (Zc #[I j,Y X,U O i,U O 0] 87)=bM at *;generalize C.heap.size=bF at *
   rotate_left
   focus
    go_simp;go_at_call 129;refine(zgp 5 j i aj 0 ak cr).mono ?_;rintro b C ⟨rfl,ai⟩;rw[co.out];unfold qE;have ej:=ai.size;replace B:=B.below ai;replace r:=Q4.below r ai;replace a6:=a6.trans (FrU.below ai D (J am vs.length an));go_wp2;refine l.out _ _ r (fun x=>?_);clear l z x ai;refine wpAnyH_ready (rs:=[4,7]) oB oC ?_;refine AllReadyH.cons rfl (fun z l=>?_) (AllReadyH.cons rfl (fun z l=>?_) AllReadyH.nil)
    focus
     have aE:=B.c6;go_simp;refine l.out _ _ r (fun x=>?_);clear l z x aE;refine oneH 7 fun z l=>?_
     go_simp;have cd:∀n u,([I j,Y X,U O i,U O 0]:List Zv)[n]?=Z u->(C.alloc (Zc #[I j,Y X,U O i,U O 0] 87)).cell? (((A C.heap.size 0 F):Addr).add n)=Z u:=zZ _ #[I j,Y X,U O i,U O 0] _ _ rfl;have bz:C.heap.size+1=(C.alloc (Zc #[I j,Y X,U O i,U O 0] 87)).heap.size:=oC;have da:wr.heap.size+1<=C.heap.size:=oA;replace a6:=a6.alloc (Zc #[I j,Y X,U O i,U O 0] 87);replace B:=B.alloc (Zc #[I j,Y X,U O i,U O 0] 87);replace r:=Q4.alloc r (Zc #[I j,Y X,U O i,U O 0] 87);refine l.out _ _ r (fun x=>?_);clear l z x;generalize C.alloc (Zc #[I j,Y X,U O i,U O 0] 87)=bM at *;generalize C.heap.size=bF at *
    rotate_left
    focus
     go_simp;have cd:∀n u,([I j,Y X,U O i,U O 0]:List Zv)[n]?=Z u->(C.alloc (Zc #[I j,Y X,U O i,U O 0] 87)).cell? (((A C.heap.size 0 F):Addr).add n)=Z u:=zZ _ #[I j,Y X,U O i,U O 0] _ _ rfl;have bz:C.heap.size+1=(C.alloc (Zc #[I j,Y X,U O i,U O 0] 87)).heap.size:=oC;have da:wr.heap.size+1<=C.heap.size:=oA;replace a6:=a6.alloc (Zc #[I j,Y X,U O i,U O 0] 87);replace B:=B.alloc (Zc #[I j,Y X,U O i,U O 0] 87);replace r:=Q4.alloc r (Zc #[I j,Y X,U O i,U O 0] 87);refine l.out _ _ r (fun x=>?_);clear l z x;generalize C.alloc (Zc #[I j,Y X,U O i,U O 0] 87)=bM at *;generalize C.heap.size=bF at *;refine oneH 4 fun z l=>?_
     have aE:=B.c6;go_simp;refine l.out _ _ r (fun x=>?_);clear l z x aE
   all_goals
    refine oneH 8 fun z l=>?_
    refine step_append_lies _ oG (.tmp 37) (.tmp 40) 52 oG (D+1) 87 ep (Za #[I ⟨#[]⟩,Y X,U O 0,U O 0]) 4 40 underlying52 hi em en eo rfl oD (J am vs.length an) vs.length (qZ vs) oJ B.rl (A bF 0 F) 1 1 [I j,Y X,U O i,U O 0] oJ rfl cd oI oA (by unfold maxLen;omega) oA (by have:=B.lt;omega) (bF+1) bz.symm ?_;intro bP cy ac e7 bf cR eT;have e9:(Value.slice am vs.length an).ownBlock≠Z wr.heap.size:=fun b=>by have:=b6 _ b;omega
    have e8:(Value.slice am vs.length an).ownBlock≠Z D:=fun b=>by have:=(B.rl.lt _ b).1;omega
    have e4:=B.push (v:=⟨j,X,i,0⟩) e7 bf (cR.imp id (fun b=>b.trans bz));have ca:=bf.block D B.lt (fun b=>e8 b.symm);have aE:=(jN (a:=(A D 6 F)) ca).trans B.c6;have cj:=(jO (a:=(A D 6 F)) ca).trans (B.fz 6);have aB:FrU D (J am vs.length an) (J (Z (A bP 0 F)) (vs.length+1) cy) wr (ac.setCell (A D 6 F) (J (Z (A bP 0 F)) (vs.length+1) cy)):=a6.trans ⟨by rw[jR];exact bf.size,fun p dr ds dt=>(jQ _ _ _ p (by show p≠D;exact ds)).trans (bf.block p dr (fun b=>dt b.symm)),fun p b=>by have dq:Z bP=Z p:=b;cases dq;exact cR.imp id (fun b=>oA)⟩;replace r:=Q4.grown r bf e9;clear B ca a6;refine l.out _ _ r (fun x=>?_);clear l z x;simp only[Act.put,jA,jB,jC];refine tkP 9 (Zp (Z (A D 0 F))) r ?_;simp only[Act.put,jA,jB,jC];refine tkP 10 (Zp (Z (A D 6 F))) r ?_;simp only[Act.put,jA,jB,jC];refine oneH 11 fun z l=>?_
    go_simp;refine l.out _ _ (Q4.other oA r _ _) (fun x=>?_);clear l z x aE cj;refine wpAnyH_done oB ?_ _;go_wp2;exact⟨⟨n+1,_,oA,oC,by rw[dk.out,show at_+1+((n+1:Nat):Int)=at_+1+(n:Int)+1 by omega];exact e4,av.trans aB⟩,by simp[intOf];omega⟩
  ·skip
   cases aR with
   | false =>
    obtain rfl:n=ps.length:=oA;rw[jG (jE _)]at G;have b6:∀p,y.ownBlock=Z p->p<wr.heap.size:=fun p b=>(G.rl.lt _ b).2
    have aH:=aA.fr av oA oP;have aJ:=aI.fr av oA oP;have au:=G.begin oA oA;have ch:=aA.lt;have ci:=aI.lt;have cb:y.ownBlock≠Z w.heap.size:=fun b=>cC
    have bh:y.ownBlock≠Z o.heap.size:=fun b=>cC
    have bS:=aH.lt;have c6:=aJ.lt;clear b1;go_wp2_with (go_at_call 81;refine au.mono ?_;rintro b h ⟨rfl,N⟩;have a9:CS w0 h D Kb kn kf (kN (qY ps)) y (at_+1+ps.length+1):=zdt;have aO:BoxC h w.heap.size #[U O 4,I L,U O m,J (Z (A V P F)) (ps.length+1) c] 25:=zdu;have ae:BoxC h o.heap.size #[I T,Y R,J a2 ps.length a3,U O f,Y X,U O K] 91:=zdv;have b2:wr.heap.size<=h.heap.size:=zdw;clear N;have b7:=aO.cell 3 rfl;have bB:=ae.cell 3 rfl;have aL:=ae.cell 4 rfl;have bC:=zI aL (Zc #[U O f,U O 0] 190);have bA:=(a9.bs.cell (p:=(A V (P+ps.length*4+3) F)) af).trans aX);have az:=a9.alloc (Zc #[U O f,U O 0] 190);refine(aV Q aK f 1 0 (qY ps) y di W _ (at_+1+ps.length+1) bw (zd5 ps) (zcg ps) zcd aY.2.1 oA az oA oA).mono ?_;have ah:Hid _:=ax.out.symm.trans (aS.out oW);generalize qK E ⟨X,K⟩ f 1 Q (qY ps) (at_+1+ps.length+1)=b9 at *;clear ax aS aM aT
    cases b9 with
    | bad bb ba =>
     rintro b ac ⟨rfl,aQ⟩;go_wp2
     exact⟨rfl,PR.mkBad ah.out aQ⟩
    | ok aF =>
     rintro b ac ⟨rfl,bj,ad,aB⟩;go_wp2
     go_end0
     exact PR.mkOk ah.out ad
   | true =>
    rcases List.eq_nil_or_concat Q with rfl|⟨d,bm,df⟩
    ·skip;obtain rfl:n=ps.length:=oA;rw[jG (jE _)]at G;have b6:∀p,y.ownBlock=Z p->p<wr.heap.size:=fun p b=>(G.rl.lt _ b).2
     have aH:=aA.fr av oA oP;have aJ:=aI.fr av oA oP;have au:=G.begin oA oA;have ch:=aA.lt;have ci:=aI.lt;have cb:y.ownBlock≠Z w.heap.size:=fun b=>cC
     have bh:y.ownBlock≠Z o.heap.size:=fun b=>cC
     have bS:=aH.lt;have c6:=aJ.lt;clear b1;go_wp2_with (go_at_call 81;refine au.mono ?_;rintro b h ⟨rfl,N⟩;have a9:CS w0 h D Kb kn kf (kN (qY ps)) y (at_+1+ps.length+1):=zdt;have aO:BoxC h w.heap.size #[U O 4,I L,U O m,J (Z (A V P F)) (ps.length+1) c] 25:=zdu;have ae:BoxC h o.heap.size #[I T,Y R,J a2 ps.length a3,U O f,Y H,U O K] 91:=zdv;have b2:wr.heap.size<=h.heap.size:=zdw;clear N;have b7:=aO.cell 3 rfl;have bB:=ae.cell 3 rfl;have aL:=ae.cell 4 rfl;have bC:=zI aL (Zc #[U O f,U O 0] 190);have bA:=(a9.bs.cell (p:=(A V (P+ps.length*4+3) F)) af).trans aX);have az:=a9.alloc (Zc #[U O f,U O 0] 190);refine(aV [] (fun a7 bi=>by cases bi) f 1 0 (qY ps) y di W _ (at_+1+ps.length+1) (fun M=>absurd rfl M) (zd5 ps) (zcg ps) zcd aY.2.1 oA az oA oA).mono ?_;have ah:Hid (aN=.bad 2 at_):=ax.out.symm.trans (aM.out oW oW);clear ax aS aM aT;rintro b ac ⟨rfl,bj,ad,aB⟩;go_wp2_with (go_at_call 128;refine(vO 2 at_ _).mono ?_;rintro b bG ⟨rfl,cg⟩;rw[cg]);exact⟨rfl,PR.mkBad ah.out ad.bs⟩
    ·rw[List.concat_eq_append]at df;subst df;by_cases aD:(match bm with | .node k _ _ _=>k)=14
     ·skip;obtain⟨s,t,rfl,ag,br⟩:=bw oC;obtain⟨eF,⟨eB,eC,eD,eE,rfl,bn,ck,cm,cn⟩,aC⟩:=br.get d.length oC;rw[List.getElem_append_right (jE _)]at aC;simp only[Nat.sub_self,jI]at aC;obtain⟨a5,ar,ap,ao⟩:=bm;have bg:=aC;unfold Lies at bg;obtain⟨bo,bp,ay,_,_⟩:=bg;injection ay with ay;simp only[Array.mk.injEq,jq,and_true]at ay;obtain⟨rfl,rfl,rfl,rfl⟩:=ay;have d5:=aK _ (List.mem_append_right _ (jy.2 rfl));have ce:∀a7∈d,StT a7:=fun a7 bi=>aK a7 (List.mem_append_left _ bi)
      have e5:((d.length:Int)+1) - 1=(d.length:Int):=oA;have e0:kC (d++[.node a5 ar ap ao])=kC d+kD (.node a5 ar ap ao):=by rw[zar,uQ]
      have e1:=kX d;have e2:=kU (.node a5 ar ap ao);have ee:d.length+1<=W:=by simpa using bv
      have ef:d.length<=W:=oA;have eg:¬W<d.length:=oA;have eh:¬W=0:=oA;simp only[jb,List.length_singleton]at aX bv d4 d2;replace aD:a5=14:=aD;subst aD
      obtain⟨b,rfl,rfl,rfl,ek⟩:∃b,ar=empty/\ap=0/\ao=[b]/\ExT b:=by
       cases d5 with
       | ret e3=>exact⟨_,rfl,rfl,rfl,e3⟩
      have eb:xA (d++[.node 14 empty 0 [b]])=H:=by rw[zge];rfl
      obtain rfl:n=ps.length:=oA;rw[jG (jE _)]at G;have b6:∀p,y.ownBlock=Z p->p<wr.heap.size:=fun p b=>(G.rl.lt _ b).2
      have aH:=aA.fr av oA oP;have aJ:=aI.fr av oA oP;have au:=G.begin oA oA;have ch:=aA.lt;have ci:=aI.lt;have cb:y.ownBlock≠Z w.heap.size:=fun b=>cC
      have bh:y.ownBlock≠Z o.heap.size:=fun b=>cC
      have bS:=aH.lt;have c6:=aJ.lt;clear b1;go_wp2_with (go_at_call 81;refine au.mono ?_;rintro b h ⟨rfl,N⟩;have a9:CS w0 h D Kb kn kf (kN (qY ps)) y (at_+1+ps.length+1):=zdt;have aO:BoxC h w.heap.size #[U O 4,I L,U O m,J (Z (A V P F)) (ps.length+1) c] 25:=zdu;have ae:BoxC h o.heap.size #[I T,Y R,J a2 ps.length a3,U O f,Y H,U O K] 91:=zdv;have b2:wr.heap.size<=h.heap.size:=zdw;clear N;have b7:=aO.cell 3 rfl;have bB:=ae.cell 3 rfl;have aL:=ae.cell 4 rfl;have bC:=zI aL (Zc #[U O f,U O 0] 190);have bA:=(a9.bs.cell (p:=(A V (P+ps.length*4+3) F)) af).trans aX;have dj:=zI ((a9.bs.cell (p:=(A s (t+d.length*4) F)) ag).trans bn) (Zc #[U O f,U O 0] 190));have az:=a9.alloc (Zc #[U O f,U O 0] 190);have ah:Hid _:=ax.out.symm.trans (aT.out d (.node 14 empty 0 [b]) eb);have aw:(h.alloc (Zc #[U O f,U O 0] 190)).cell? (A h.heap.size 0 F)=Z (U O f)/\(h.alloc (Zc #[U O f,U O 0] 190)).cell? (A h.heap.size 1 F)=Z (U O 0):=⟨oC,oC⟩
      have bX:=ae.alloc (Zc #[U O f,U O 0] 190);have aU:=aV d ce f 1 0 (qY ps) y (Z (A s t F)) W (h.alloc (Zc #[U O f,U O 0] 190)).drew (at_+1+ps.length+1) (fun _=>⟨s,t,rfl,ag,zjc br⟩) (zd5 ps) (zcg ps) zcd aY.2.1 oA az.drew oA oA
      have cp:Hid (∀aF,qK E ⟨H,K⟩ f 1 d (qY ps) (at_+1+ps.length+1)=.ok aF->Ext 1 (qY ps) aF.1/\aF.2=at_+1+ps.length+1+kC d/\aF.1.length<=20):=fun aF ec=>by
       obtain⟨dn,ct,dp⟩:=zhw E _ d _ _ _ _ _ ce ec;exact⟨dn,ct,dp zcd⟩
      generalize qK E ⟨H,K⟩ f 1 d (qY ps) (at_+1+ps.length+1)=b9 at *;clear ax aS aM aT b7 bB aL bC bA dj aV;have d6:∀p,y.ownBlock=Z p->p<h.heap.size:=fun p b=>by have:=b6 p b;omega
      refine wp_region_held_drew (S:=fun g=>g.cell? (A h.heap.size 0 F)=Z (U O f)/\g.cell? (A h.heap.size 1 F)=Z (U O 0)) oB (show(fun g=>g.cell? (A h.heap.size 0 F)=Z (U O f)/\g.cell? (A h.heap.size 1 F)=Z (U O 0)) (h.alloc (Zc #[U O f,U O 0] 190)).drew from aw) (fun x=>?_);clear x;replace az:=az.drew;replace aw:(fun g=>g.cell? (A h.heap.size 0 F)=Z (U O f)/\g.cell? (A h.heap.size 1 F)=Z (U O 0)) (h.alloc (Zc #[U O f,U O 0] 190)).drew:=aw;replace bX:BoxC (h.alloc (Zc #[U O f,U O 0] 190)).drew o.heap.size #[I T,Y R,J a2 ps.length a3,U O f,Y H,U O K] 91:=bX;have d0:h.heap.size<(h.alloc (Zc #[U O f,U O 0] 190)).drew.heap.size:=by show _<(h.alloc (Zc #[U O f,U O 0] 190)).heap.size;simp
      generalize (h.alloc (Zc #[U O f,U O 0] 190)).drew=eG at *;refine tkP 0 (Zp (Z (A D 0 F))) aw ?_;simp only[Act.put,jA,jB,jC];refine tkP 1 (J (Z (A s t F)) (d.length+1) W) aw ?_;simp only[Act.put,jA,jB,jC];refine tkP 2 (U O d.length) aw ?_;simp only[Act.put,jA,jB,jC];refine tkP 3 (J (Z (A s t F)) d.length W) aw ?_;simp only[Act.put,jA,jB,jC];refine tkP 4 (Za #[U O f,U O 0]) aw ?_;simp only[Act.put,jA,jB,jC];refine oneH 5 fun z l=>?_
      go_simp;go_at_call 130;refine aU.mono ?_
      cases b9 with
      | bad bb ba =>
       have b8:Hid (aN=.bad bb ba):=ah.out;rintro bN ac ⟨rfl,aQ⟩;go_wp2
       exact⟨rfl,PR.mkBad b8.out aQ⟩
      | ok aF =>
       obtain⟨cq,ct⟩:=aF;obtain⟨db,dc,dd⟩:=cp.out _ rfl;dsimp only at db dc dd;subst dc;rintro bN ac ⟨rfl,bj,ad,aB⟩;dsimp only at ad;have ed:(fun g=>g.cell? (A h.heap.size 0 F)=Z (U O f)/\g.cell? (A h.heap.size 1 F)=Z (U O 0)) ac:=⟨(aB.cell d0 oA (fun b=>by have:=d6 _ b;omega)).trans aw.1,(aB.cell d0 oA (fun b=>by have:=d6 _ b;omega)).trans aw.2⟩
       have aP:=bX.fr aB oA bh;have aZ:o.heap.size<ac.drew.heap.size:=aP.lt;have b0:bj.ownBlock≠Z o.heap.size:=fun b=>by rcases aB.own _ b with bc | bc;exact bh bc;omega
       go_wp2;refine l.out _ _ ed (fun x=>?_);clear l z x;refine wpAnyH_done oB ?_ _;have c7:=zz3 b ek c8 ⟨T,R,dh,f,H,K⟩ a2 ps.length a3 rfl aY.2.2 cq bj _ ac.drew _ aC (db.lab (zcg ps)) dd ad.drew oA oA;unfold zN at c7;dsimp only at c7;have aa:(fun g=>g.cell? (A s (t+d.length*4) F)=Z (U O 14)/\g.cell? (A s (t+d.length*4+1) F)=Z (I empty)/\g.cell? (A s (t+d.length*4+2) F)=Z (U O 0)/\g.cell? (A s (t+d.length*4+3) F)=Z (J bo [b].length bp)/\g.cell? (A o.heap.size 0 F)=Z (I T)/\g.cell? (A o.heap.size 1 F)=Z (Y R)/\g.cell? (A o.heap.size 2 F)=Z (J a2 ps.length a3)/\g.cell? (A o.heap.size 3 F)=Z (U O f)/\g.cell? (A o.heap.size 4 F)=Z (Y H)/\g.cell? (A o.heap.size 5 F)=Z (U O K)) ac.drew:=⟨(ad.bs.cell (p:=(A s (t+d.length*4) F)) ag).trans bn,(ad.bs.cell (p:=(A s (t+d.length*4+1) F)) ag).trans ck,(ad.bs.cell (p:=(A s (t+d.length*4+2) F)) ag).trans cm,(ad.bs.cell (p:=(A s (t+d.length*4+3) F)) ag).trans cn,aP.cell 0 rfl,aP.cell 1 rfl,aP.cell 2 rfl,aP.cell 3 rfl,aP.cell 4 rfl,aP.cell 5 rfl⟩
       have bq:Hid _:=ah.out;generalize stF E ⟨H,K⟩ f 1 H (.node 14 empty 0 [b]) cq (at_+1+ps.length+1+kC d)=dm at *;clear c8 aC aU cp ah;go_wp2;refine wp_region_held_drew (S:=fun g=>g.cell? (A s (t+d.length*4) F)=Z (U O 14)/\g.cell? (A s (t+d.length*4+1) F)=Z (I empty)/\g.cell? (A s (t+d.length*4+2) F)=Z (U O 0)/\g.cell? (A s (t+d.length*4+3) F)=Z (J bo [b].length bp)/\g.cell? (A o.heap.size 0 F)=Z (I T)/\g.cell? (A o.heap.size 1 F)=Z (Y R)/\g.cell? (A o.heap.size 2 F)=Z (J a2 ps.length a3)/\g.cell? (A o.heap.size 3 F)=Z (U O f)/\g.cell? (A o.heap.size 4 F)=Z (Y H)/\g.cell? (A o.heap.size 5 F)=Z (U O K)) oB aa (fun x=>?_);clear x;generalize ac.drew=bM at *;refine tkP 0 (Zp (Z (A D 0 F))) aa ?_;simp only[Act.put,jA,jB,jC];refine tkP 1 (J (Z (A s t F)) (d.length+1) W) aa ?_;simp only[Act.put,jA,jB,jC];refine tkP 2 (U O d.length) aa ?_;simp only[Act.put,jA,jB,jC];refine tkP 3 (Zp (Z (A s (t+d.length*4) F))) aa ?_;simp only[Act.put,jA,jB,jC];refine tkP 4 (Za #[U O 14,I empty,U O 0,J bo [b].length bp]) aa ?_;simp only[Act.put,jA,jB,jC];refine tkP 5 (Za #[I T,Y R,J a2 ps.length a3,U O f,Y H,U O K]) aa ?_;simp only[Act.put,jA,jB,jC];refine oneH 6 fun z l=>?_
       go_simp;go_at_call 131;refine c7.mono ?_
       cases dm with
       | bad bb ba =>
        have b8:Hid (aN=.bad bb ba):=bq.out;rintro bN bG ⟨rfl,aQ⟩;go_wp2
        exact⟨rfl,PR.mkBad b8.out aQ⟩
       | ok ey =>
        have b8:Hid (aN=.ok ey.2):=bq.out;rintro bN bG ⟨rfl,f0,be,aW⟩;have dz:(fun g=>g.cell? (A s (t+d.length*4) F)=Z (U O 14)/\g.cell? (A s (t+d.length*4+1) F)=Z (I empty)/\g.cell? (A s (t+d.length*4+2) F)=Z (U O 0)/\g.cell? (A s (t+d.length*4+3) F)=Z (J bo [b].length bp)/\g.cell? (A o.heap.size 0 F)=Z (I T)/\g.cell? (A o.heap.size 1 F)=Z (Y R)/\g.cell? (A o.heap.size 2 F)=Z (J a2 ps.length a3)/\g.cell? (A o.heap.size 3 F)=Z (U O f)/\g.cell? (A o.heap.size 4 F)=Z (Y H)/\g.cell? (A o.heap.size 5 F)=Z (U O K)) bG:=⟨(be.bs.cell (p:=(A s (t+d.length*4) F)) ag).trans bn,(be.bs.cell (p:=(A s (t+d.length*4+1) F)) ag).trans ck,(be.bs.cell (p:=(A s (t+d.length*4+2) F)) ag).trans cm,(be.bs.cell (p:=(A s (t+d.length*4+3) F)) ag).trans cn,(aW.cell aZ oA b0).trans aa.2.2.2.2.1,(aW.cell aZ oA b0).trans aa.2.2.2.2.2.1,(aW.cell aZ oA b0).trans aa.2.2.2.2.2.2.1,(aW.cell aZ oA b0).trans aa.2.2.2.2.2.2.2.1,(aW.cell aZ oA b0).trans aa.2.2.2.2.2.2.2.2.1,(aW.cell aZ oA b0).trans aa.2.2.2.2.2.2.2.2.2⟩
        go_wp2;refine l.out _ _ dz (fun x=>?_);clear l z x;refine wpAnyH_done oB ?_ _;go_wp2
        go_end0
        exact PR.mkOk b8.out be
     ·skip;obtain⟨s,t,rfl,ag,br⟩:=bw oC;obtain⟨eF,⟨eB,eC,eD,eE,rfl,bn,ck,cm,cn⟩,aC⟩:=br.get d.length oC;rw[List.getElem_append_right (jE _)]at aC;simp only[Nat.sub_self,jI]at aC;obtain⟨a5,ar,ap,ao⟩:=bm;have bg:=aC;unfold Lies at bg;obtain⟨bo,bp,ay,_,_⟩:=bg;injection ay with ay;simp only[Array.mk.injEq,jq,and_true]at ay;obtain⟨rfl,rfl,rfl,rfl⟩:=ay;have d5:=aK _ (List.mem_append_right _ (jy.2 rfl));have ce:∀a7∈d,StT a7:=fun a7 bi=>aK a7 (List.mem_append_left _ bi)
      have e5:((d.length:Int)+1) - 1=(d.length:Int):=oA;have e0:kC (d++[.node a5 ar ap ao])=kC d+kD (.node a5 ar ap ao):=by rw[zar,uQ]
      have e1:=kX d;have e2:=kU (.node a5 ar ap ao);have ee:d.length+1<=W:=by simpa using bv
      have ef:d.length<=W:=oA;have eg:¬W<d.length:=oA;have eh:¬W=0:=oA;simp only[jb,List.length_singleton]at aX bv d4 d2;replace aD:¬a5=14:=aD;have ea:xA (d++[.node a5 ar ap ao])=X:=by rw[zge];simp[xA,aD]
      have eX:(a5==14)=X:=by simp[aD]
      have eY:decide (a5=14)=X:=by simp[aD]
      have eZ:(a5 != 14)=H:=by simp[aD]
      obtain rfl:n=ps.length:=oA;rw[jG (jE _)]at G;have b6:∀p,y.ownBlock=Z p->p<wr.heap.size:=fun p b=>(G.rl.lt _ b).2
      have aH:=aA.fr av oA oP;have aJ:=aI.fr av oA oP;have au:=G.begin oA oA;have ch:=aA.lt;have ci:=aI.lt;have cb:y.ownBlock≠Z w.heap.size:=fun b=>cC
      have bh:y.ownBlock≠Z o.heap.size:=fun b=>cC
      have bS:=aH.lt;have c6:=aJ.lt;clear b1;go_wp2_with (go_at_call 81;refine au.mono ?_;rintro b h ⟨rfl,N⟩;have a9:CS w0 h D Kb kn kf (kN (qY ps)) y (at_+1+ps.length+1):=zdt;have aO:BoxC h w.heap.size #[U O 4,I L,U O m,J (Z (A V P F)) (ps.length+1) c] 25:=zdu;have ae:BoxC h o.heap.size #[I T,Y R,J a2 ps.length a3,U O f,Y H,U O K] 91:=zdv;have b2:wr.heap.size<=h.heap.size:=zdw;clear N;have b7:=aO.cell 3 rfl;have bB:=ae.cell 3 rfl;have aL:=ae.cell 4 rfl;have bC:=zI aL (Zc #[U O f,U O 0] 190);have bA:=(a9.bs.cell (p:=(A V (P+ps.length*4+3) F)) af).trans aX;have dj:=zI ((a9.bs.cell (p:=(A s (t+d.length*4) F)) ag).trans bn) (Zc #[U O f,U O 0] 190));have az:=a9.alloc (Zc #[U O f,U O 0] 190);have aU:=aV (d++[.node a5 ar ap ao]) aK f 1 0 (qY ps) y (Z (A s t F)) W _ (at_+1+ps.length+1) bw (zd5 ps) (zcg ps) zcd aY.2.1 oA az oA oA;simp only[jb,List.length_singleton]at aU;refine aU.mono ?_;have ah:Hid _:=ax.out.symm.trans (aM.out oW ea);generalize qK E ⟨H,K⟩ f 1 (d++[.node a5 ar ap ao]) (qY ps) (at_+1+ps.length+1)=b9 at *;clear ax aS aM aT aU
      cases b9 with
      | bad bb ba =>
       rintro b ac ⟨rfl,aQ⟩;go_wp2
       exact⟨rfl,PR.mkBad ah.out aQ⟩
      | ok aF =>
       have bq:Hid (aN=.bad 2 at_):=ah.out;rintro b ac ⟨rfl,bj,ad,aB⟩;go_wp2_with (go_at_call 128;refine(vO 2 at_ _).mono ?_;rintro b bG ⟨rfl,cg⟩;rw[cg]);exact⟨rfl,PR.mkBad bq.out ad.bs⟩
end
def DE (d:Nat->Prop) (m:ByteArray) (a:List Kid) (w:Zw) (e:Ending) (w':Zw):Prop:=∃(c b:Zv) (V:List VarD) (P:List (ProcD × Zv)),e=.returned (Za #[I m,c,b])/\FR d (w.heap.size+1+1) w' c b V P/\V=kW H a/\P.map (·.1)=kZ H a/\Below w.heap.size w w'
variable {b d:ByteArray} {h:List FaceD} {i:ByteArray->Option FV}
theorem zy7 {a:Zw} {m:ByteArray} {e d f g:Zv} (h:List Zv) (c:Nat) (b:BoxC a c #[I m,e,d] 55):(results f82 (List.toArray (f :: g :: Zp (Z (A c 0 F)) :: h))).run prog a=.ok (Za #[I m,e,d]) a:=by
 have l:prog.cellsOf 55=3:=xW;have i:=b.cell 0 rfl;have j:=b.cell 1 rfl;have k:=b.cell 2 rfl;simp[results,f82,go_sem,i,j,k]
theorem zv3 (aA:Nat->Prop) (w0:Zw) (D:Nat) (m:ByteArray) (g:List Kid) (a:Option Addr) (c:Nat) (w:Zw) (ar:Below w0.heap.size w0 w) (co:D<w.heap.size) (aQ:∀e,aA e->e<w.heap.size) (bu:w.cell? (A D 1 F)=Z (I m)) (bv:w.cell? (A D 3 F)=Z (J a g.length c)) (h:g≠[]->∃aD T,a=Z (A aD T F)/\aD<w0.heap.size/\qF (·<w0.heap.size) w0 (g.map Kid.tree) aD T) (ck:g.length<=1000) (bB:∀k∈g,k.good) (bN:∀k∈g,k.kids.length<=1000) : Calls prog 82 #[Zp (Z (A D 0 F))] w (DE aA m g w):=by
 have cd:=kc25;have cf:prog.cellsOf 87=4:=cell4;have cg:prog.cellsOf 91=6:=dP;have ce:prog.cellsOf 55=3:=xW;have bw:=zI bu (Zc #[I ⟨#[]⟩,J F 0 0,J F 0 0] 55);have bz:=zI (zI bv (Zc #[I ⟨#[]⟩,J F 0 0,J F 0 0] 55)) (Zc #[I m,J F 0 0,J F 0 0] 55);have bj:Below w.heap.size w ((w.alloc (Zc #[I ⟨#[]⟩,J F 0 0,J F 0 0] 55)).alloc (Zc #[I m,J F 0 0,J F 0 0] 55)):=(bal _).alloc oC _;have bi:BoxC ((w.alloc (Zc #[I ⟨#[]⟩,J F 0 0,J F 0 0] 55)).alloc (Zc #[I m,J F 0 0,J F 0 0] 55)) w.heap.size #[I ⟨#[]⟩,J F 0 0,J F 0 0] 55:=(BoxC.new w _ _).alloc _
 have bh:BoxC ((w.alloc (Zc #[I ⟨#[]⟩,J F 0 0,J F 0 0] 55)).alloc (Zc #[I m,J F 0 0,J F 0 0] 55)) (w.heap.size+1) #[I m,J F 0 0,J F 0 0] 55:=by
  have:=BoxC.new (w.alloc (Zc #[I ⟨#[]⟩,J F 0 0,J F 0 0] 55)) #[I m,J F 0 0,J F 0 0] 55;rw[jP]at this;exact this
 go_enter func82,ntmps82;go_wp2;clear bw bz;generalize ((w.alloc (Zc #[I ⟨#[]⟩,J F 0 0,J F 0 0] 55)).alloc (Zc #[I m,J F 0 0,J F 0 0] 55))=cc at *;go_loopw [18] (fun be wr=>∃(t:Nat) (bf bc:Zv) (B:List VarD) (y:List (ProcD × Zv)),t<=g.length/\be=U O t/\FR aA (w.heap.size+1+1) wr bf bc B y/\BoxC wr (w.heap.size+1) #[I m,bf,bc] 55/\BoxC wr w.heap.size #[I ⟨#[]⟩,J F 0 0,J F 0 0] 55/\Below w.heap.size w wr/\Hid (B=kW H (g.take t))/\Hid (y.map (·.1)=kZ H (g.take t))) (fun be _=>g.length - (intOf be).toNat)
 case atStart=>exact⟨0,_,_,[],[],jz _,rfl,FR.nil _ _ _,bh,bi,bj,rfl,rfl⟩
 case round =>
  clear bh bi bj;obtain⟨t,bf,bc,B,y,cp,rfl,aj,am,ac,K,aI,HP⟩:=hrel;obtain⟨a5,a7,rfl⟩:=aj.shapeV;obtain⟨a3,a6,rfl⟩:=aj.shapeP;have bp:∀e,(Value.slice a5 B.length a7).ownBlock=Z e->e<wr.heap.size:=fun e r=>(aj.ov.lt _ r).2
  have bo:∀e,(Value.slice a3 y.length a6).ownBlock=Z e->e<wr.heap.size:=fun e r=>(aj.op.lt _ r).2
  have cq:=am.lt;have cn:B.length<=1000:=by rw[aI.out];exact jp (zb3 H _) oT
  have cm:y.length<=1000:=by
   have bg:(y.map (·.1)).length=(kZ H (g.take t)).length:=by rw[HP.out]
   rw[List.length_map]at bg;rw[bg];exact jp (zbs H _) oT
  by_cases aw:t<g.length
  ·obtain⟨aD,T,rfl,aW,aS⟩:=h (by intro r;rw[r]at aw;simp at aw);have bm:=ar.trans (K.mono ar.size);obtain⟨cr,ct,aE,aF,aG,az,aY⟩:=zf6 aW aS bm aw;obtain⟨Q,R,c7,c8,c9,bs,bn⟩:=zf6 aW aS (Below.refl _ _) aw;have aX:=(bm.cell (p:=(A aD (T+t*4+3) F)) aW).trans bs;rw[aX]at az;injection az with az;injection az with e1 _ e2;subst e1 e2;have az:=aX;clear c7 c8 c9 bs aX;have aK:=bB _ (jH aw);have bq:=bN _ (jH aw);have aJ:Hid (g.take (t+1)=g.take t++[g[t]]):=ziv g t aw;clear aS h;generalize bC:g[t]=kid at *;clear bC
   cases kid with
   | imp s =>
    have aN:Hid (kW H (g.take t++[.imp s])=B):=zgt;have aC:Hid (kZ H (g.take t++[.imp s])=y.map (·.1)):=zgu
    clear aY aK;simp only[Kid.kind,Kid.text,Kid.num]at aE aF aG;generalize (Kid.imp s).kids.length=N at *;go_wp2
    exact⟨⟨t+1,_,_,B,y,oA,oC,aj.alloc _,am.alloc _,ac.alloc _,K.alloc oA _,zgv,by show _=_;rw[aJ.out,aC.out]⟩,by simp[intOf];omega⟩
   | var s x V n =>
    have aN:Hid (kW H (g.take t++[.var s x V n])=B++[yW s x V n]):=zgt;have aC:Hid (kZ H (g.take t++[.var s x V n])=y.map (·.1)):=zgu
    have af:=fun a2 (aB:Below w.heap.size w a2)=>zh7 s x V n _ a2 (bn.to (fun e K=>jo K (jp ar.size aB.size)) (fun e K T=>(ar.trans (aB.mono ar.size)).cell (p:=(A e T F)) K))
    simp only[Kid.kind,Kid.text,Kid.num]at aE aF aG af;clear aY aK;generalize yW s x V n=d at *;generalize (Kid.var s x V n).kids.length=N at *;generalize 2*bI x+bI V=P at *;obtain⟨ba,hi,b7,b8,b9⟩:=info_parts ze8;have i:Q4 wr.heap.size (U O 3) (I s) (U O P) (J Q N R) (wr.alloc (Zc #[U O 3,I s,U O P,J Q N R] 25)).drew:=⟨oC,oC,oC,oC⟩
    go_wp2;refine wp_region_held_drew (S:=fun a2=>Q4 wr.heap.size (U O 3) (I s) (U O P) (J Q N R) a2) oB i (fun p=>?_);clear p aE aF aG az;have E:=(aj.alloc (Zc #[U O 3,I s,U O P,J Q N R] 25)).drew;have C:BoxC (wr.alloc (Zc #[U O 3,I s,U O P,J Q N R] 25)).drew (w.heap.size+1) #[I m,J a5 B.length a7,J a3 y.length a6] 55:=am.alloc _;have L:BoxC (wr.alloc (Zc #[U O 3,I s,U O P,J Q N R] 25)).drew w.heap.size #[I ⟨#[]⟩,J F 0 0,J F 0 0] 55:=ac.alloc _;have z:=(K.alloc oA (Zc #[U O 3,I s,U O P,J Q N R] 25)).drew;have bS:wr.heap.size+1<=(wr.alloc (Zc #[U O 3,I s,U O P,J Q N R] 25)).drew.heap.size:=by show _<=(wr.alloc (Zc #[U O 3,I s,U O P,J Q N R] 25)).heap.size;simp
    clear aj am ac K;generalize (wr.alloc (Zc #[U O 3,I s,U O P,J Q N R] 25)).drew=aa at *;refine tkP 0 (Zp (Z (A (w.heap.size+1) 1 F))) i ?_;simp only[Act.put,jA,jB,jC];refine tkP 2 (Za #[U O 3,I s,U O P,J Q N R]) i ?_;simp only[Act.put,jA,jB,jC];refine wpAnyH_ready (rs:=[1,3]) oB oC ?_;refine AllReadyH.cons rfl (fun g h=>?_) (AllReadyH.cons rfl (fun g h=>?_) AllReadyH.nil)
    focus
     have W:=C.cell 1 rfl;go_simp;refine h.out _ _ i (fun p=>?_);clear h g p W;refine oneH 3 fun g h=>?_
     go_simp;go_at_call 108;refine(af aa z).mono ?_;rintro r f ⟨rfl,G⟩;unfold qE;have b6:=G.size;replace E:=E.below G;replace i:=Q4.below i G;replace C:=C.below G;replace L:=L.below G;have ag:=z.trans (G.mono z.size);go_wp2;refine h.out _ _ i (fun p=>?_);clear h g p af;replace z:=ag;clear ag;refine oneH 4 fun g h=>?_
     go_simp;have ax:∀t u,([I d.name,Y d.pub,U O d.label,U O d.size]:List Zv)[t]?=Z u->(f.alloc (Zc #[I d.name,Y d.pub,U O d.label,U O d.size] 87)).cell? (((A f.heap.size 0 F):Addr).add t)=Z u:=zZ _ #[I d.name,Y d.pub,U O d.label,U O d.size] _ _ rfl;have ao:f.heap.size+1=(f.alloc (Zc #[I d.name,Y d.pub,U O d.label,U O d.size] 87)).heap.size:=oC;have ah:wr.heap.size+1<=f.heap.size:=oA;have a8:=(Below.refl f.heap.size f).alloc (jE _) (Zc #[I d.name,Y d.pub,U O d.label,U O d.size] 87);replace z:=z.alloc (jp oA ah) (Zc #[I d.name,Y d.pub,U O d.label,U O d.size] 87);replace E:=E.alloc (Zc #[I d.name,Y d.pub,U O d.label,U O d.size] 87);replace i:=Q4.alloc i (Zc #[I d.name,Y d.pub,U O d.label,U O d.size] 87);replace C:=C.alloc (Zc #[I d.name,Y d.pub,U O d.label,U O d.size] 87);replace L:=L.alloc (Zc #[I d.name,Y d.pub,U O d.label,U O d.size] 87);clear a8;refine h.out _ _ i (fun p=>?_);clear h g p;generalize f.alloc (Zc #[I d.name,Y d.pub,U O d.label,U O d.size] 87)=ak at *;generalize f.heap.size=ap at *
    rotate_left
    focus
     go_simp;go_at_call 108;refine(af aa z).mono ?_;rintro r f ⟨rfl,G⟩;unfold qE;have b6:=G.size;replace E:=E.below G;replace i:=Q4.below i G;replace C:=C.below G;replace L:=L.below G;have ag:=z.trans (G.mono z.size);go_wp2;refine h.out _ _ i (fun p=>?_);clear h g p af;replace z:=ag;clear ag;refine wpAnyH_ready (rs:=[1,4]) oB oC ?_;refine AllReadyH.cons rfl (fun g h=>?_) (AllReadyH.cons rfl (fun g h=>?_) AllReadyH.nil)
     focus
      have W:=C.cell 1 rfl;go_simp;refine h.out _ _ i (fun p=>?_);clear h g p W;refine oneH 4 fun g h=>?_
      go_simp;have ax:∀t u,([I d.name,Y d.pub,U O d.label,U O d.size]:List Zv)[t]?=Z u->(f.alloc (Zc #[I d.name,Y d.pub,U O d.label,U O d.size] 87)).cell? (((A f.heap.size 0 F):Addr).add t)=Z u:=zZ _ #[I d.name,Y d.pub,U O d.label,U O d.size] _ _ rfl;have ao:f.heap.size+1=(f.alloc (Zc #[I d.name,Y d.pub,U O d.label,U O d.size] 87)).heap.size:=oC;have ah:wr.heap.size+1<=f.heap.size:=oA;have a8:=(Below.refl f.heap.size f).alloc (jE _) (Zc #[I d.name,Y d.pub,U O d.label,U O d.size] 87);replace z:=z.alloc (jp oA ah) (Zc #[I d.name,Y d.pub,U O d.label,U O d.size] 87);replace E:=E.alloc (Zc #[I d.name,Y d.pub,U O d.label,U O d.size] 87);replace i:=Q4.alloc i (Zc #[I d.name,Y d.pub,U O d.label,U O d.size] 87);replace C:=C.alloc (Zc #[I d.name,Y d.pub,U O d.label,U O d.size] 87);replace L:=L.alloc (Zc #[I d.name,Y d.pub,U O d.label,U O d.size] 87);clear a8;refine h.out _ _ i (fun p=>?_);clear h g p;generalize f.alloc (Zc #[I d.name,Y d.pub,U O d.label,U O d.size] 87)=ak at *;generalize f.heap.size=ap at *
     rotate_left
     focus
      go_simp;have ax:∀t u,([I d.name,Y d.pub,U O d.label,U O d.size]:List Zv)[t]?=Z u->(f.alloc (Zc #[I d.name,Y d.pub,U O d.label,U O d.size] 87)).cell? (((A f.heap.size 0 F):Addr).add t)=Z u:=zZ _ #[I d.name,Y d.pub,U O d.label,U O d.size] _ _ rfl;have ao:f.heap.size+1=(f.alloc (Zc #[I d.name,Y d.pub,U O d.label,U O d.size] 87)).heap.size:=oC;have ah:wr.heap.size+1<=f.heap.size:=oA;have a8:=(Below.refl f.heap.size f).alloc (jE _) (Zc #[I d.name,Y d.pub,U O d.label,U O d.size] 87);replace z:=z.alloc (jp oA ah) (Zc #[I d.name,Y d.pub,U O d.label,U O d.size] 87);replace E:=E.alloc (Zc #[I d.name,Y d.pub,U O d.label,U O d.size] 87);replace i:=Q4.alloc i (Zc #[I d.name,Y d.pub,U O d.label,U O d.size] 87);replace C:=C.alloc (Zc #[I d.name,Y d.pub,U O d.label,U O d.size] 87);replace L:=L.alloc (Zc #[I d.name,Y d.pub,U O d.label,U O d.size] 87);clear a8;refine h.out _ _ i (fun p=>?_);clear h g p;generalize f.alloc (Zc #[I d.name,Y d.pub,U O d.label,U O d.size] 87)=ak at *;generalize f.heap.size=ap at *;refine oneH 1 fun g h=>?_
      have W:=C.cell 1 rfl;go_simp;refine h.out _ _ i (fun p=>?_);clear h g p W
    all_goals
     refine oneH 5 fun g h=>?_
     refine step_append_lies _ oG (.tmp 27) (.tmp 30) 52 oG (w.heap.size+1+1) 87 ba (Za #[I ⟨#[]⟩,Y X,U O 0,U O 0]) 4 40 underlying52 hi b7 b8 b9 rfl oD (J a5 B.length a7) B.length (qZ B) oJ E.ov (A ap 0 F) 1 1 [I d.name,Y d.pub,U O d.label,U O d.size] oJ rfl ax oI oA (by unfold maxLen;omega) oA oA (ap+1) ao.symm ?_;intro ae ad ca aZ ab aT bF;have aL:∀e,(Value.slice a5 B.length a7).ownBlock=Z e->w.heap.size+1+1<=e/\e<wr.heap.size:=fun e r=>⟨(E.ov.lt _ r).1,bp e r⟩
     have b1:(Value.slice a5 B.length a7).ownBlock≠Z wr.heap.size:=fun r=>zav
     have b0:(Value.slice a5 B.length a7).ownBlock≠Z (w.heap.size+1):=fun r=>zav
     have b2:(Value.slice a5 B.length a7).ownBlock≠Z w.heap.size:=fun r=>zav
     have aP:∀e,ak.heap.size<=e->¬aA e:=fun e K r=>by have:=aQ e r;omega
     have aV:=(E.pushV (v:=d) aZ ab (aT.imp id (fun r=>r.trans ao)) aP).set (M:=w.heap.size+1) (o:=1) oA (J (Z (A ae 0 F)) (B.length+1) ad);have an:=C.grown ab b0;have W:=an.cell 1 rfl;have bb:=an.fz 1;have aO:=an.set 1 (J (Z (A ae 0 F)) (B.length+1) ad);have aR:=(L.grown ab b2).other (b:=w.heap.size+1) (o:=1) oA (J (Z (A ae 0 F)) (B.length+1) ad);have aU:=(z.grown ab oA (fun k r=>by have:=aL k r;omega)).setCell (p:=(A (w.heap.size+1) 1 F)) (Nat.le_succ _) (J (Z (A ae 0 F)) (B.length+1) ad);have bX:=ab.size;replace i:=Q4.grown i ab b1;clear E C L z an;refine h.out _ _ i (fun p=>?_);clear h g p;simp only[Act.put,jA,jB,jC];refine tkP 6 (Zp (Z (A (w.heap.size+1) 1 F))) i ?_;simp only[Act.put,jA,jB,jC];refine oneH 7 fun g h=>?_
     go_simp;refine h.out _ _ (Q4.other oA i _ _) (fun p=>?_);clear h g p W bb;refine wpAnyH_done oB ?_ _;go_wp2
     exact⟨⟨t+1,J (Z (A ae 0 F)) (B.length+1) ad,J a3 y.length a6,B++[d],y,oA,oC,aV,aO,aR,aU,zgv,by show _=_;rw[aJ.out,aC.out]⟩,by simp[intOf];omega⟩
   | proc s x V ai ps e =>
    have aN:Hid (kW H (g.take t++[.proc s x V ai ps e])=B):=zgt;have aC:Hid (kZ H (g.take t++[.proc s x V ai ps e])=y.map (·.1)++[qB s x V ai ps]):=zgu
    have aH:Hid ((qB s x V ai ps).params.length=ps.length):=by show _=_;simp[qB]
    have bM:ps.length<=1000:=by simp[Kid.kids]at bq;omega
    have af:∀a2 (aB:Below w.heap.size w a2),Calls prog 127 #[_] a2 fun r w'=>∃u,r=.returned (zN (qB s x V ai ps) u)/\w'.ownsRow a2.heap.size 3 1 u ps.length (intV (qB s x V ai ps).params)/\Below a2.heap.size a2 w':=fun a2 aB=>zhe s x V ai ps e _ a2 (bn.to (fun e K=>jo K (jp ar.size aB.size)) (fun e K T=>(ar.trans (aB.mono ar.size)).cell (p:=(A e T F)) K)) bM aK.2.2
    simp only[Kid.kind,Kid.text,Kid.num]at aE aF aG af;clear aY aK bq;generalize qB s x V ai ps=b at *;generalize (Kid.proc s x V ai ps e).kids.length=N at *;generalize 2*bI x+bI V+gI ai=P at *;obtain⟨ba,hi,b7,b8,b9⟩:=info_parts zro;have i:Q4 wr.heap.size (U O 4) (I s) (U O P) (J Q N R) (wr.alloc (Zc #[U O 4,I s,U O P,J Q N R] 25)).drew:=⟨oC,oC,oC,oC⟩
    go_wp2;refine wp_region_held_drew (S:=fun a2=>Q4 wr.heap.size (U O 4) (I s) (U O P) (J Q N R) a2) oB i (fun p=>?_);clear p aE aF aG az;have E:=(aj.alloc (Zc #[U O 4,I s,U O P,J Q N R] 25)).drew;have C:BoxC (wr.alloc (Zc #[U O 4,I s,U O P,J Q N R] 25)).drew (w.heap.size+1) #[I m,J a5 B.length a7,J a3 y.length a6] 55:=am.alloc _;have L:BoxC (wr.alloc (Zc #[U O 4,I s,U O P,J Q N R] 25)).drew w.heap.size #[I ⟨#[]⟩,J F 0 0,J F 0 0] 55:=ac.alloc _;have z:=(K.alloc oA (Zc #[U O 4,I s,U O P,J Q N R] 25)).drew;have bS:wr.heap.size+1<=(wr.alloc (Zc #[U O 4,I s,U O P,J Q N R] 25)).drew.heap.size:=by show _<=(wr.alloc (Zc #[U O 4,I s,U O P,J Q N R] 25)).heap.size;simp
    clear aj am ac K;generalize (wr.alloc (Zc #[U O 4,I s,U O P,J Q N R] 25)).drew=aa at *;refine tkP 0 (Zp (Z (A (w.heap.size+1) 2 F))) i ?_;simp only[Act.put,jA,jB,jC];refine tkP 2 (Za #[U O 4,I s,U O P,J Q N R]) i ?_;simp only[Act.put,jA,jB,jC];refine wpAnyH_ready (rs:=[1,3]) oB oC ?_;refine AllReadyH.cons rfl (fun g h=>?_) (AllReadyH.cons rfl (fun g h=>?_) AllReadyH.nil)
    focus
     have W:=C.cell 2 rfl;go_simp;refine h.out _ _ i (fun p=>?_);clear h g p W;refine oneH 3 fun g h=>?_
     go_simp;go_at_call 127;refine(af aa z).mono ?_;rintro r f ⟨cb,rfl,ay,G⟩;obtain⟨j,l,rfl,_,_⟩:=lexs.own_shape ay;have a9:yM (fun e=>aa.heap.size<=e/\e<f.heap.size) f (J j b.params.length l) b.params:=yM.own (by rw[aH.out];exact ay);rw[aH.out]at a9;generalize c6:ps.length=o at ay a9 |-;unfold zN;have b6:=G.size;replace E:=E.below G;replace i:=Q4.below i G;replace C:=C.below G;replace L:=L.below G;have ag:=z.trans (G.mono z.size);have bG:aa.heap.size<=aa.heap.size:=jE _;generalize bK:aa.heap.size=aM at a9;go_wp2;refine h.out _ _ i (fun p=>?_);clear h g p af;replace z:=ag;clear ag;refine oneH 4 fun g h=>?_
     go_simp;have ax:∀t u,([I b.name,Y b.pub,J j o l,U O b.writes,Y b.gives,U O b.given]:List Zv)[t]?=Z u->(f.alloc (Zc #[I b.name,Y b.pub,J j o l,U O b.writes,Y b.gives,U O b.given] 91)).cell? (((A f.heap.size 0 F):Addr).add t)=Z u:=zZ _ #[I b.name,Y b.pub,J j o l,U O b.writes,Y b.gives,U O b.given] _ _ rfl;have ao:f.heap.size+1=(f.alloc (Zc #[I b.name,Y b.pub,J j o l,U O b.writes,Y b.gives,U O b.given] 91)).heap.size:=oC;have ah:wr.heap.size+1<=f.heap.size:=oA;have a8:=(Below.refl f.heap.size f).alloc (jE _) (Zc #[I b.name,Y b.pub,J j o l,U O b.writes,Y b.gives,U O b.given] 91);replace z:=z.alloc (jp oA ah) (Zc #[I b.name,Y b.pub,J j o l,U O b.writes,Y b.gives,U O b.given] 91);replace E:=E.alloc (Zc #[I b.name,Y b.pub,J j o l,U O b.writes,Y b.gives,U O b.given] 91);replace i:=Q4.alloc i (Zc #[I b.name,Y b.pub,J j o l,U O b.writes,Y b.gives,U O b.given] 91);replace C:=C.alloc (Zc #[I b.name,Y b.pub,J j o l,U O b.writes,Y b.gives,U O b.given] 91);replace L:=L.alloc (Zc #[I b.name,Y b.pub,J j o l,U O b.writes,Y b.gives,U O b.given] 91);replace a9:yM (fun e=>aM<=e/\e<f.heap.size) (f.alloc (Zc #[I b.name,Y b.pub,J j o l,U O b.writes,Y b.gives,U O b.given] 91)) (J j o l) b.params:=a9.to (fun e K=>⟨K.1,oA⟩) (fun e K T v av=>(a8.cell (p:=(A e T F)) (by show e<f.heap.size;omega)).trans av);clear a8;refine h.out _ _ i (fun p=>?_);clear h g p;generalize f.alloc (Zc #[I b.name,Y b.pub,J j o l,U O b.writes,Y b.gives,U O b.given] 91)=ak at *;generalize f.heap.size=ap at *
    rotate_left
    focus
     go_simp;go_at_call 127;refine(af aa z).mono ?_;rintro r f ⟨cb,rfl,ay,G⟩;obtain⟨j,l,rfl,_,_⟩:=lexs.own_shape ay;have a9:yM (fun e=>aa.heap.size<=e/\e<f.heap.size) f (J j b.params.length l) b.params:=yM.own (by rw[aH.out];exact ay);rw[aH.out]at a9;generalize c6:ps.length=o at ay a9 |-;unfold zN;have b6:=G.size;replace E:=E.below G;replace i:=Q4.below i G;replace C:=C.below G;replace L:=L.below G;have ag:=z.trans (G.mono z.size);have bG:aa.heap.size<=aa.heap.size:=jE _;generalize bK:aa.heap.size=aM at a9;go_wp2;refine h.out _ _ i (fun p=>?_);clear h g p af;replace z:=ag;clear ag;refine wpAnyH_ready (rs:=[1,4]) oB oC ?_;refine AllReadyH.cons rfl (fun g h=>?_) (AllReadyH.cons rfl (fun g h=>?_) AllReadyH.nil)
     focus
      have W:=C.cell 2 rfl;go_simp;refine h.out _ _ i (fun p=>?_);clear h g p W;refine oneH 4 fun g h=>?_
      go_simp;have ax:∀t u,([I b.name,Y b.pub,J j o l,U O b.writes,Y b.gives,U O b.given]:List Zv)[t]?=Z u->(f.alloc (Zc #[I b.name,Y b.pub,J j o l,U O b.writes,Y b.gives,U O b.given] 91)).cell? (((A f.heap.size 0 F):Addr).add t)=Z u:=zZ _ #[I b.name,Y b.pub,J j o l,U O b.writes,Y b.gives,U O b.given] _ _ rfl;have ao:f.heap.size+1=(f.alloc (Zc #[I b.name,Y b.pub,J j o l,U O b.writes,Y b.gives,U O b.given] 91)).heap.size:=oC;have ah:wr.heap.size+1<=f.heap.size:=oA;have a8:=(Below.refl f.heap.size f).alloc (jE _) (Zc #[I b.name,Y b.pub,J j o l,U O b.writes,Y b.gives,U O b.given] 91);replace z:=z.alloc (jp oA ah) (Zc #[I b.name,Y b.pub,J j o l,U O b.writes,Y b.gives,U O b.given] 91);replace E:=E.alloc (Zc #[I b.name,Y b.pub,J j o l,U O b.writes,Y b.gives,U O b.given] 91);replace i:=Q4.alloc i (Zc #[I b.name,Y b.pub,J j o l,U O b.writes,Y b.gives,U O b.given] 91);replace C:=C.alloc (Zc #[I b.name,Y b.pub,J j o l,U O b.writes,Y b.gives,U O b.given] 91);replace L:=L.alloc (Zc #[I b.name,Y b.pub,J j o l,U O b.writes,Y b.gives,U O b.given] 91);replace a9:yM (fun e=>aM<=e/\e<f.heap.size) (f.alloc (Zc #[I b.name,Y b.pub,J j o l,U O b.writes,Y b.gives,U O b.given] 91)) (J j o l) b.params:=a9.to (fun e K=>⟨K.1,oA⟩) (fun e K T v av=>(a8.cell (p:=(A e T F)) (by show e<f.heap.size;omega)).trans av);clear a8;refine h.out _ _ i (fun p=>?_);clear h g p;generalize f.alloc (Zc #[I b.name,Y b.pub,J j o l,U O b.writes,Y b.gives,U O b.given] 91)=ak at *;generalize f.heap.size=ap at *
     rotate_left
     focus
      go_simp;have ax:∀t u,([I b.name,Y b.pub,J j o l,U O b.writes,Y b.gives,U O b.given]:List Zv)[t]?=Z u->(f.alloc (Zc #[I b.name,Y b.pub,J j o l,U O b.writes,Y b.gives,U O b.given] 91)).cell? (((A f.heap.size 0 F):Addr).add t)=Z u:=zZ _ #[I b.name,Y b.pub,J j o l,U O b.writes,Y b.gives,U O b.given] _ _ rfl;have ao:f.heap.size+1=(f.alloc (Zc #[I b.name,Y b.pub,J j o l,U O b.writes,Y b.gives,U O b.given] 91)).heap.size:=oC;have ah:wr.heap.size+1<=f.heap.size:=oA;have a8:=(Below.refl f.heap.size f).alloc (jE _) (Zc #[I b.name,Y b.pub,J j o l,U O b.writes,Y b.gives,U O b.given] 91);replace z:=z.alloc (jp oA ah) (Zc #[I b.name,Y b.pub,J j o l,U O b.writes,Y b.gives,U O b.given] 91);replace E:=E.alloc (Zc #[I b.name,Y b.pub,J j o l,U O b.writes,Y b.gives,U O b.given] 91);replace i:=Q4.alloc i (Zc #[I b.name,Y b.pub,J j o l,U O b.writes,Y b.gives,U O b.given] 91);replace C:=C.alloc (Zc #[I b.name,Y b.pub,J j o l,U O b.writes,Y b.gives,U O b.given] 91);replace L:=L.alloc (Zc #[I b.name,Y b.pub,J j o l,U O b.writes,Y b.gives,U O b.given] 91);replace a9:yM (fun e=>aM<=e/\e<f.heap.size) (f.alloc (Zc #[I b.name,Y b.pub,J j o l,U O b.writes,Y b.gives,U O b.given] 91)) (J j o l) b.params:=a9.to (fun e K=>⟨K.1,oA⟩) (fun e K T v av=>(a8.cell (p:=(A e T F)) (by show e<f.heap.size;omega)).trans av);clear a8;refine h.out _ _ i (fun p=>?_);clear h g p;generalize f.alloc (Zc #[I b.name,Y b.pub,J j o l,U O b.writes,Y b.gives,U O b.given] 91)=ak at *;generalize f.heap.size=ap at *;refine oneH 1 fun g h=>?_
      have W:=C.cell 2 rfl;go_simp;refine h.out _ _ i (fun p=>?_);clear h g p W
    all_goals
     refine oneH 5 fun g h=>?_
     refine step_append_lies _ oG (.tmp 36) (.tmp 39) 53 oG (w.heap.size+1+1) 91 ba (Za #[I ⟨#[]⟩,Y X,J F 0 0,U O 0,Y X,U O 0]) 6 72 underlying53 hi b7 b8 b9 rfl oD (J a3 y.length a6) y.length (xO y) oJ E.op (A ap 0 F) 1 1 [I b.name,Y b.pub,J j o l,U O b.writes,Y b.gives,U O b.given] oJ rfl ax (by intro u br;simp at br;rcases br with rfl | rfl | rfl | rfl | rfl | rfl<;>rfl) oA (by unfold maxLen;omega) oA oA (ap+1) ao.symm ?_;intro ae ad ca aZ ab aT bF;have aL:∀e,(Value.slice a3 y.length a6).ownBlock=Z e->w.heap.size+1+1<=e/\e<wr.heap.size:=fun e r=>⟨(E.op.lt _ r).1,bo e r⟩
     have b1:(Value.slice a3 y.length a6).ownBlock≠Z wr.heap.size:=fun r=>zav
     have b0:(Value.slice a3 y.length a6).ownBlock≠Z (w.heap.size+1):=fun r=>zav
     have b2:(Value.slice a3 y.length a6).ownBlock≠Z w.heap.size:=fun r=>zav
     have aP:∀e,ak.heap.size<=e->¬aA e:=fun e K r=>by have:=aQ e r;omega
     have bP:yM (fun e=>w.heap.size+1+1<=e/\e<ak.heap.size/\(Value.slice a5 B.length a7).ownBlock≠Z e/\(Value.slice a3 y.length a6).ownBlock≠Z e/\¬aA e) ak (J j o l) b.params :=
      a9.to (fun e K=>⟨oA,oA,fun r=>by have:=bp _ r;omega,fun r=>by have:=bo _ r;omega,fun r=>by have:=aQ e r;omega⟩) (fun e K T v av=>av)
     have aV:=(E.pushP (q:=(b,J j o l)) aZ ab (aT.imp id (fun r=>r.trans ao)) aP bP).set (M:=w.heap.size+1) (o:=2) oA (J (Z (A ae 0 F)) (y.length+1) ad);have an:=C.grown ab b0;have W:=an.cell 2 rfl;have bb:=an.fz 2;have aO:=an.set 2 (J (Z (A ae 0 F)) (y.length+1) ad);have aR:=(L.grown ab b2).other (b:=w.heap.size+1) (o:=2) oA (J (Z (A ae 0 F)) (y.length+1) ad);have aU:=(z.grown ab oA (fun k r=>by have:=aL k r;omega)).setCell (p:=(A (w.heap.size+1) 2 F)) (Nat.le_succ _) (J (Z (A ae 0 F)) (y.length+1) ad);have bX:=ab.size;replace i:=Q4.grown i ab b1;clear E C L z an;refine h.out _ _ i (fun p=>?_);clear h g p;simp only[Act.put,jA,jB,jC];refine tkP 6 (Zp (Z (A (w.heap.size+1) 2 F))) i ?_;simp only[Act.put,jA,jB,jC];refine oneH 7 fun g h=>?_
     go_simp;refine h.out _ _ (Q4.other oA i _ _) (fun p=>?_);clear h g p W bb;refine wpAnyH_done oB ?_ _;go_wp2;exact⟨⟨t+1,J a5 B.length a7,J (Z (A ae 0 F)) (y.length+1) ad,B,y++[(b,J j o l)],oA,oC,aV,aO,aR,aU,zgv,by show _=_;rw[aJ.out,aC.out,List.map_append];rfl⟩,by simp[intOf];omega⟩
  ·obtain rfl:t=g.length:=oA;rw[jG oA]at aI HP;have cx:=am.cell 0 rfl;have cy:=am.cell 1 rfl;have cz:=am.cell 2 rfl;have cu:=ac.cell 0 rfl;have cv:=ac.cell 1 rfl;have cw:=ac.cell 2 rfl;have ch:=ac.fz 0;have ci:=ac.fz 1;have cj:=ac.fz 2;have bR:=((ac.set 0 (I m)).set 1 (J a5 B.length a7)).set 2 (J a3 y.length a6);have bA:=((aj.set (M:=w.heap.size) (o:=0) oA (I m)).set (M:=w.heap.size) (o:=1) oA (J a5 B.length a7)).set (M:=w.heap.size) (o:=2) oA (J a3 y.length a6);have G:=((K.setCell (p:=(A w.heap.size 0 F)) (jE _) (I m)).setCell (p:=(A w.heap.size 1 F)) (jE _) (J a5 B.length a7)).setCell (p:=(A w.heap.size 2 F)) (jE _) (J a3 y.length a6);go_wp2;refine jU (v:=Za #[I m,J a5 B.length a7,J a3 y.length a6]) (zy7 _ _ bR) rfl ?_;exact⟨_,_,B,y,rfl,bA,aI.out,HP.out,G⟩
structure Rel (own:FV) (gf:ByteArray->Option FV) (fs:List FaceD) (f:ByteArray->Option FV):Prop where
 e:∀z,eqS z empty=H->f z=Z own
 o:∀z,eqS z empty=X->(f z).map (·.1)=fs.find? (fun q=>eqS q.module z)
 g:∀z q,eqS z empty=X->f z=Z q->gf z=Z q
theorem vN :eqS b d=H ↔ b=d:=by
 unfold eqS;rw[beq_iff_eq];constructor
 ·intro c;cases b;cases d;rename_i a e;have:a.toList=e.toList:=by simpa[ByteArray.toList_eq] using c
  congr
  exact Array.toList_inj.1 this
 ·intro c;rw[c]
theorem Rel.start (own:FV) (gf:ByteArray->Option FV):Rel own gf [] (fun b=>if eqS b empty then Z own else F) :=
 ⟨fun b a=>by rw[jv a],fun b a=>by rw[ju (by rw[a];decide)];rfl,fun b q a c=>by rw[ju (by rw[a];decide)]at c;cases c⟩
theorem Rel.more {own:FV} {gf:ByteArray->Option FV} (f:Rel own gf h i) {q:FV} (w:eqS b empty=X) (r:gf b=Z q) (p:eqS q.1.module b=H):Rel own gf (h++[q.1]) (fun a=>if eqS a b then Z q else i a):=by
 refine⟨fun a d=>?_,fun a d=>?_,fun a l d j=>?_⟩
 ·have x:eqS a b=X:=by
   cases c:eqS a b with
   | false=>rfl
   | true=>rw[vN.1 c,w]at d;cases d
  rw[ju (by rw[x];decide)];exact f.e a d
 ·rw[List.find?_append]
  cases c:eqS a b with
  | true =>
   obtain rfl:=vN.1 c;rw[jv rfl]
   cases k:i a with
   | none =>
    have:=f.o a d;rw[k]at this;rw[<- this]
    simp[List.find?,p]
   | some l =>
    have m:=f.o a d;rw[k]at m;have n:=f.g a l d k;rw[r]at n;cases n;rw[<- m]
    rfl
  | false =>
   rw[ju oD,f.o a d]
   have v:eqS q.1.module a=X:=by
    cases u:eqS q.1.module a with
    | false=>rfl
    | true =>
     have s:=vN.1 u;have t:=vN.1 p;rw[<- s,t]at c;have:eqS b b=H:=vN.2 rfl;rw[this]at c;cases c
   simp[List.find?,v]
 ·cases c:eqS a b with
  | true =>
   rw[c,jv rfl]at j;rw[vN.1 c,r]
   exact j
  | false =>
   rw[c,ju oD]at j;exact f.g a l d j
theorem zjm :b.size=0 ↔ eqS b empty=H:=by
 rw[vN];constructor
 ·intro a
  cases b with
  | mk c =>
   have:c=#[]:=Array.size_eq_zero_iff.1 a;rw[this];rfl
 ·intro a;rw[a];rfl
theorem Rel.face {own:FV} {gf:ByteArray->Option FV} (c:Rel own gf h i) (b:ByteArray):(i (zT b)).map (·.1)=cJ ⟨own.1,h⟩ b:=by
 unfold cJ;by_cases a:(zT b).size=0;·rw[jv a,c.e _ (zjm.1 a)];rfl
 ·rw[ju a];refine c.o _ ?_
  cases d:eqS (zT b) empty with
  | false=>rfl
  | true=>exact absurd (zjm.2 d) a
theorem zxu (b:List Loc) (c:ByteArray):cQ (kN b) c=(b.reverse.find? (fun a=>eqS a.name c)).map fun a=>⟨a.name,X,a.label,0⟩:=by
 unfold cQ kN;rw[<- List.map_reverse,List.find?_map];rfl
theorem Rel.tab {own:FV} {gf:ByteArray->Option FV} (c:Rel own gf h i) (f:cO ⟨own.1,h⟩) (b:List Loc) (e:yF b):Tab ⟨own.1,h⟩ b i (kN b):=by
 refine⟨f,e,fun a g=>?_,fun a g=>?_⟩
 ·unfold xM cY;rw[zxu,<- c.face a]
  cases b.reverse.find? (fun d=>eqS d.name a)with
  | some d=>rfl
  | none =>
   dsimp only[Option.map_none]
   cases i (zT a)with
   | none=>rfl
   | some q=>rfl
 ·unfold uK procF;rw[<- c.face a]
  cases i (zT a)with
  | none=>rfl
  | some q=>rfl
theorem yb5 {E:Env} {q:ProcD} {ps:List (ByteArray × Bool)} {k:Int} {m:Int} {d:List Tree} {f:Bool} {a e:Int} (h:∀t∈d,StT t) (c:prF E q ps (.node k b m d) f a=.ok e):e=a+1+ps.length+1+kC d:=by
 rw[ze5]at c;split at c;·cases c
 ·rename_i i g;have:=(zet E _ d _ _ _ _ _ h g).2.1;split at c;·cases c
  ·cases c;exact this
def xJ (w:Zw) (D:Nat):Zw:={ w with heap:=w.heap.setIfInBounds D (Zc #[] 0 (0,0)) }
theorem zjo (w:Zw) (D:Nat):(xJ w D).heap.size=w.heap.size:=by simp[xJ]
theorem zfk (w:Zw) (D a:Nat) (c:a≠D):(xJ w D).heap[a]?=w.heap[a]?:=by
 unfold xJ;exact Array.getElem?_setIfInBounds_ne (fun b=>c b.symm)
theorem zi8 (w:Zw) (D:Nat):w.grownBy (xJ w D) (Z D) :=
 ⟨rfl,rfl,rfl,Nat.le_of_eq (zjo w D).symm,fun a _ c=>zfk w D a (fun b=>c (by rw[b]))⟩
theorem zfp {w:Zw} {D:Nat} {a:Addr} {v:Zv} (b:(xJ w D).cell? a=Z v):a.block≠D/\w.cell? a=Z v:=by
 have e:a.block≠D:=by
  intro d;have c:=jS _ a b
  have f:(xJ w D).heap[a.block]?=Z (Zc #[] 0 (0,0)):=by
   rw[zjo]at c;unfold xJ;rw[d];rw[d]at c;simp[c]
  simp[World.cell?,f]at b
 exact⟨e,by rw[<- jN (a:=a) (zfk w D a.block e)];exact b⟩
theorem zjn {w:Zw} {D:Nat} {a:Addr} {v:Zv} (c:a.block≠D) (b:w.cell? a=Z v):(xJ w D).cell? a=Z v:=by
 rw[jN (a:=a) (zfk w D a.block c)];exact b
end chk
namespace chk
open Go.RowKit Go.Shelf Go.Maps
open syn face
section
variable {w0 w w':Zw} {D Kb kn:Nat} {kf:KF} {vs:List VarD} {u:Zv} {a:Int}
theorem CS.import (b:CS w0 w D Kb kn kf vs u a) {q:FV} {x:ByteArray} (n:kI w' Kb (kn+1) (fun c=>if eqS c x then Z (fvV q)else fvO (kf.f c))) (i:w.grownBy w' (Z Kb)) (p:zP kf.W (fvV q) q.1) (o:∀a v,kf.W.cell? a=Z v->a.block≠Kb) (m:w0.heap.size<=Kb) : CS w0 w' D Kb (kn+1) { kf with f:=fun c=>if eqS c x then Z q else kf.f c } vs u a:=by
 have g:=i.block D b.lt (fun d=>b.nk (by injection d with d;exact d.symm));refine⟨b.bs.grown i b.bs.size (fun k d=>by injection d with d;rw[<- d];exact m),b.hD,(jN (a:=(A D 4 F)) g).trans b.c4,(jN (a:=(A D 5 F)) g).trans b.c5,(jN (a:=(A D 6 F)) g).trans b.c6,(jN (a:=(A D 7 F)) g).trans b.c7,fun k=>(jO (a:=(A D k F)) g).trans (b.fz k),?_,?_,fun e v h=>⟨(b.fw e v h).1,(b.fw e v h).2.1,(jN (a:=e) (i.block e.block (jo (b.fw e v h).2.1 b.fm) (fun d=>o e v h (by injection d)))).trans (b.fw e v h).2.2⟩,jp b.fm i.size,b.mM,b.fu,b.rl.kept i ?_,b.nk,b.mx,b.nu⟩
 ·have d:(fun c=>fvO (if eqS c x then Z q else kf.f c))=(fun c=>if eqS c x then Z (fvV q)else fvO (kf.f c)):=by
   funext c
   split<;>rfl
  show kI w' Kb (kn+1) (fun c=>fvO (if eqS c x then Z q else kf.f c));rw[d];exact n
 ·intro c e j;dsimp only at j;split at j;·cases j;exact p
  ·exact b.fi c e j
 ·cases d:u.ownBlock with
  | none=>exact .inl rfl
  | some r=>exact .inr (fun l=>b.nu (d.trans l))
end
structure M0 (w0 w:Zw) (D Gb Kb gn:Nat) (gf:ByteArray->Option FV) (m:ByteArray) (k:Option Addr) (n c:Nat) (a:Int):Prop where
 bs:Below w0.heap.size w0 w
 hD:w0.heap.size<=D
 c1:w.cell? (A D 1 F)=Z (I m)
 c3:w.cell? (A D 3 F)=Z (J k n c)
 c4:w.cell? (A D 4 F)=Z (.map (Z Gb))
 c5:w.cell? (A D 5 F)=Z (.map (Z Kb))
 c6:w.cell? (A D 6 F)=Z (J F 0 0)
 c7:w.cell? (A D 7 F)=Z (U O a)
 fz:∀k,w.frozen? (A D k F)=X
 mp:kI w Kb 0 (fun _=>F)
 nk:Kb≠D
 hK:w0.heap.size<=Kb
 mx:uV w0
 mg:kI w0 Gb gn (fun z=>fvO (gf z))
section
variable {w0 w w':Zw} {D Gb Kb gn:Nat} {gf:ByteArray->Option FV} {m:ByteArray} {k:Option Addr} {n c:Nat} {a:Int}
theorem M0.lt (b:M0 w0 w D Gb Kb gn gf m k n c a):D<w.heap.size:=jS w (A D 5 F) b.c5
theorem M0.setAt (b:M0 w0 w D Gb Kb gn gf m k n c a) (f:Int):M0 w0 (w.setCell (A D 7 F) (U O f)) D Gb Kb gn gf m k n c f :=
 have e:∀d,d≠7->(w.setCell (A D 7 F) (U O f)).cell? (A D d F)=w.cell? (A D d F):=fun d hi=>jD w (A D 7 F) (A D d F) _ (by intro g;injection g with _ g;exact hi g.symm)
 ⟨b.bs.setCell b.hD _,b.hD,(e 1 oD).trans b.c1,(e 3 oD).trans b.c3,(e 4 oD).trans b.c4,(e 5 oD).trans b.c5,(e 6 oD).trans b.c6,World.cell?_setCell_same' _ _ _ (by rw[b.c7];rfl),fun k=>by rw[World.frozen?_setCell];exact b.fz k,b.mp.setCell b.nk _,b.nk,b.hK,b.mx,b.mg⟩
theorem M0.below (b:M0 w0 w D Gb Kb gn gf m k n c a) (e:Below w.heap.size w w'):M0 w0 w' D Gb Kb gn gf m k n c a :=
 have d:∀f,w'.cell? (A D f F)=w.cell? (A D f F):=fun f=>e.cell (p:=(A D f F)) b.lt
 ⟨b.bs.trans (e.mono b.bs.size),b.hD,(d 1).trans b.c1,(d 3).trans b.c3,(d 4).trans b.c4,(d 5).trans b.c5,(d 6).trans b.c6,(d 7).trans b.c7,fun k=>(jO (a:=(A D k F)) (e.block D b.lt)).trans (b.fz k),b.mp.below e,b.nk,b.hK,b.mx,b.mg⟩
theorem M0.own (d:M0 w0 w D Gb Kb gn gf m k n c a) {q:FV} (z:kI w' Kb 1 (fun e=>if eqS e empty then Z (fvV q)else F)) (p:w.grownBy w' (Z Kb)) {r:Nat} {j:List VarD} {i:List (ProcD × Zv)} (y:FR (fun f=>f=D\/f=Kb) r w q.2.1 q.2.2 j i) (C:q.1.vars=j) (B:q.1.procs=i.map (·.1)) (M:j.length<=1000) (N:i.length<=1000) : CS w0 w' D Kb 1 ⟨fun e=>if eqS e empty then Z q else F,xJ (xJ w' D) Kb,w'.heap.size,.map (Z Gb)⟩ [] (J F 0 0) a:=by
 have g:=p.block D d.lt (fun b=>d.nk zdx);have t:=d.bs.grown p d.bs.size (fun k b=>by injection b with b;rw[<- b];exact d.hK);have o:FR (fun f=>f=D\/f=Kb) r (xJ (xJ w' D) Kb) q.2.1 q.2.2 j i:=((y.grown p (fun f b=>.inr zdx)).grown (zi8 w' D) (fun f b=>.inl zdx)).grown (zi8 _ Kb) (fun f b=>.inr zdx);refine⟨t,d.hD,(jN (a:=(A D 4 F)) g).trans d.c4,(jN (a:=(A D 5 F)) g).trans d.c5,(jN (a:=(A D 6 F)) g).trans d.c6,(jN (a:=(A D 7 F)) g).trans d.c7,fun k=>(jO (a:=(A D k F)) g).trans (d.fz k),?_,?_,fun h v E=>?_,jE _,t.size,fun f b=>(by cases b),World.ownsRow_nil _ _ _ _,d.nk,d.mx,fun b=>(by cases b)⟩
 ·have b:(fun e=>fvO (if eqS e empty then Z q else F))=(fun e=>if eqS e empty then Z (fvV q)else F):=by
   funext e
   split<;>rfl
  show kI w' Kb 1 (fun e=>fvO (if eqS e empty then Z q else F));rw[b];exact z
 ·intro e h l;dsimp only at l;split at l;·cases l;exact⟨_,_,rfl,by rw[C];exact zqd o.ov oA,by rw[B];exact zna o.op oA (fun K G=>(o.par K G).ints)⟩
  ·cases l
 ·obtain⟨L,u⟩:=zfp E;obtain⟨x,s⟩:=zfp u;exact⟨x,jS _ h s,s⟩
end
def MR (w0:Zw) (r:Option (Int × Int)) (e:Ending) (w':Zw):Prop:=Below w0.heap.size w0 w'/\match r with
 | some q=>e=.panicked (qG q.1 q.2)
 | none=>e=.returned (.tuple #[])
theorem MR.mkBad {w0 w':Zw} {b:Option (Int × Int)} {c a:Int} (d:b=Z (c,a)) (e:Below w0.heap.size w0 w'):MR w0 b (.panicked (qG c a)) w':=by rw[d];exact⟨e,rfl⟩
theorem MR.mkOk {w0 w':Zw} {a:Option (Int × Int)} (b:a=F) (c:Below w0.heap.size w0 w'):MR w0 a (.returned (.tuple #[])) w':=by rw[b];exact⟨c,rfl⟩
def zil:Kid->Prop
 | .imp x=>kO x=H
 | .var _ _ _ n=>0<=n.getD 0
 | .proc _ _ _ _ ps b=>ps.length<=20/\InT b/\BlT b
theorem ydm (a:List Kid) (b:Nat) (c:b<a.length):kC ((a.take (b+1)).map Kid.tree)=kC ((a.take b).map Kid.tree)+kD a[b].tree:=by
 rw[ziv a b c,List.map_append,zar];rw[show[a[b]].map Kid.tree=[a[b].tree] from rfl,uQ]
theorem zy6 (a:List Kid) (b:Nat):kC ((a.take b).map Kid.tree)<=kC (a.map Kid.tree):=by
 have c:kC (a.map Kid.tree)=kC ((a.take b).map Kid.tree)+kC ((a.drop b).map Kid.tree):=by
  rw[<- zar,<- List.map_append,List.take_append_drop]
 have:=kX ((a.drop b).map Kid.tree);omega
theorem ya6 (c:ByteArray) (b a:Bool) (n:Option Int):kD (Kid.var c b a n).tree=1+(Kid.var c b a n).kids.length:=by
 rw[Kid.tree_is,yB]
 cases n with
 | none=>simp[Kid.kids,kC]
 | some k =>
  unfold Kid.kids;rw[uQ,yB];simp[kC]
theorem zzj (a:ByteArray):kD (Kid.imp a).tree=1:=by
 unfold Kid.tree;rw[yB];simp[kC]
theorem zfq {w:Zw} {q:FV} (j:zP w (fvV q) q.1):∃m e k f b l d,fvV q=Za #[I m,J e k f,J b l d]:=by
 obtain⟨o,n,g,⟨a,c,h,_⟩,⟨b,d,i,_⟩⟩:=j;exact⟨_,_,_,_,_,_,_,by rw[g,h,i]⟩
section
variable {w0:Zw} {D Gb Kb gn:Nat} {gf:ByteArray->Option FV}
theorem zz2 (r:List FaceD) (b0:∀a5,(gf a5).map (·.1)=r.find? (fun g=>eqS g.module a5)) (b1:∀a5 q,gf a5=Z q->zP w0 (fvV q) q.1) (bM:∀g∈r,dG g) (m:ByteArray) (b:List Kid) (a:Option Addr) (c:Nat) (w:Zw) (j:M0 w0 w D Gb Kb gn gf m a b.length c 0) (aA:b≠[]->∃V aa,a=Z (A V aa F)/\V<w0.heap.size/\qF (·<w0.heap.size) w0 (b.map Kid.tree) V aa) (cR:b.length<=900) (aS:∀k∈b,k.good/\zil k) (aT:∀k∈b,k.kids.length<=1000) (d2:kC (b.map Kid.tree)<=900000) (cm:dG (qQ H m b)) : Calls prog 42 #[Zp (Z (A D 0 F))] w (MR w0 (moF (qQ H m b) r b [] 1)):=by
 have cx:=kc25;have cy:prog.cellsOf 55=3:=xW;obtain⟨B,aK⟩:∃B,Hid (moF (qQ H m b) r b [] 1=B):=⟨_,rfl⟩
 rw[aK.out];have bb:=j.lt;have W:=zqs D 0 w j.c7 (j.fz 7) oA oA;go_enter func42,ntmps42;go_wp2_with (go_at_call 81;refine W.mono ?_;rintro p av ⟨rfl,bg⟩;have s:M0 w0 av D Gb Kb gn gf m a b.length c 1:=by { rw[bg];exact j.setAt _ };clear bg);have s:=s.below (Below.refl av.heap.size av).drew;have a8:(fun ae=>ae.cell? (A D 5 F)=Z (.map (Z Kb))) av.drew:=s.c5;refine wp_region_held_drew (S:=fun ae=>ae.cell? (A D 5 F)=Z (.map (Z Kb))) oB a8 (fun ak=>?_);clear ak W;generalize av.drew=bB at *;refine tkH (i:=0) (v:=Zp (Z (A D 0 F))) rfl (Or.inl ⟨oG,fun w an=>zce⟩) a8 ?_;simp only[Act.put,jA,jB,jC];refine tkH (i:=1) (v:=Zp (Z (A D 0 F))) rfl (Or.inl ⟨oG,fun w an=>zce⟩) a8 ?_;simp only[Act.put,jA,jB,jC];refine tkH (i:=2) (v:=Zp (Z (A D 5 F))) rfl (Or.inl ⟨oG,fun w an=>zce⟩) a8 ?_;simp only[Act.put,jA,jB,jC];refine tkH (i:=3) (v:=.map (Z Kb)) rfl (Or.inl ⟨oG,fun w an=>zce⟩) a8 ?_;simp only[Act.put,jA,jB,jC];refine tkH (i:=4) (v:=Zp (Z (A D 0 F))) rfl (Or.inl ⟨oG,fun w an=>zce⟩) a8 ?_;simp only[Act.put,jA,jB,jC];refine oneH 5 fun bz am=>?_
 go_simp;go_at_call 82;have cL:=s.mp.lt;refine(zv3 (fun aj=>aj=D\/aj=Kb) w0 D m b a c bB s.bs s.lt (fun aj p=>by have:=s.lt;rcases p with rfl | rfl<;>omega) s.c1 s.c3 aA oA (fun k ci=>(aS k ci).1) aT).mono ?_;rintro p br ⟨au,ap,bA,aX,rfl,aZ,aQ,aO,ba⟩;have y:=s.below ba;have c9:bA.length<=1000:=by rw[aQ];exact jp (zb3 H _) oA
 have c6:aX.length<=1000:=by
  have s:(aX.map (·.1)).length=(kZ H b).length:=by rw[aO]
  rw[List.length_map]at s;rw[s];exact jp (zbs H _) oA
 go_wp2;refine am.out _ _ y.c5 (fun ak=>?_);clear am ak;obtain⟨a7,be,b2,aE⟩:=y.mp.store (by unfold maxLen;omega) empty oD (fvV (qQ H m b,au,ap));have c8:br.cell? (A D 5 F)=Z (.map (Z Kb)):=y.c5;have da:D≠Kb:=fun p=>y.nk p.symm
 refine oneH 6 fun bz am=>?_
 have cq:(Instr.mapUpdate 51 (.map (Z Kb)) (I ⟨#[]⟩) (Za #[I m,au,ap])).run prog br=.ok () a7:=be;go_simp;have b7:a7.cell? (A D 5 F)=Z (.map (Z Kb)):=cell_grown aE y.c5 oE;refine am.out _ _ b7 (fun ak=>?_);clear am ak be cq;refine wpAnyH_done oB ?_ _;have aM:=y.own (q:=(qQ H m b,au,ap)) b2 aE aZ aQ.symm aO.symm c9 c6;have b6:=Rel.start (qQ H m b,au,ap) gf;have cb:∀e v,(xJ (xJ a7 D) Kb).cell? e=Z v->e.block≠Kb:=fun e v aC=>(zfp aC).1
 have ca:∀e v,w0.cell? e=Z v->(xJ (xJ a7 D) Kb).cell? e=Z v:=fun e v aC=>by
  have L:=jS w0 e aC;have aL:=y.hD;have cz:=y.hK;exact zjn oA (zjn oA ((aM.bs.cell (p:=e) L).trans aC))
 have bR:=y.hK;have ct:=y.mg;have cw:a7.cell? (A D 3 F)=Z (J a b.length c):=cell_grown aE y.c3 oE;go_wp2;clear j s y aZ aQ aO ba b2 aE a8 c8 b7 cw;generalize xJ (xJ a7 D) Kb=af at *;generalize a7.heap.size=ad at *;go_loopw [19] (fun ar wr=>∃(f kn:Nat) (h:List FaceD) (g:ByteArray->Option FV) (vs:List VarD) (u:Zv),f<=b.length/\ar=U O f/\kn<=f+1/\Hid (Rel (qQ H m b,au,ap) gf h g)/\Hid (∀q∈h,q∈r)/\CS w0 wr D Kb kn ⟨g,af,ad,.map (Z Gb)⟩ vs u (1+kC ((b.take f).map Kid.tree))/\Hid (B=moF (qQ H m b) r (b.drop f) h (1+kC ((b.take f).map Kid.tree)))) (fun ar _=>b.length - (intOf ar).toNat)
 case atStart=>exact⟨0,1,[],_,_,_,jz _,rfl,oA,b6,(fun q l=>by cases l),by simpa[kC] using aM,by show _=_;rw[<- aK.out];simp[kC]⟩
 case round =>
  clear aM b6 aK;obtain⟨f,kn,h,g,vs,u,d3,rfl,d5,ax,aw,C,R⟩:=hrel;by_cases L:f<b.length
  ·obtain⟨V,aa,rfl,ao,b8⟩:=aA (by intro p;rw[p]at L;simp at L);obtain⟨N,P,bh,bi,bj,bm,aG⟩:=zf6 ao b8 (Below.refl _ _) L;have aU:=(C.bs.cell (p:=(A V (aa+f*4) F)) ao).trans bh;have aV:=(C.bs.cell (p:=(A V (aa+f*4+1) F)) ao).trans bi;have aW:=(C.bs.cell (p:=(A V (aa+f*4+2) F)) ao).trans bj;have dc:=(C.bs.cell (p:=(A V (aa+f*4+3) F)) ao).trans bm;obtain⟨aF,aH⟩:=aS _ (jH L);have cp:=aT _ (jH L);have ce:=ydm b f L;have cd:=zy6 b (f+1);have cc:=kX ((b.take f).map Kid.tree);have cf:=kU b[f].tree;have ab:Hid (b.drop f=b[f] :: b.drop (f+1)):=List.drop_eq_getElem_cons L;have cH:=C.lt;have aY:cO ⟨qQ H m b,h⟩:=⟨cm,fun q l=>bM q (aw.out q l)⟩
   have ay:Hid (∀ah,yF ah->Tab ⟨qQ H m b,h⟩ ah g (kN ah)):=fun ah bS=>ax.out.tab aY ah bS
   clear b8 aA bh bi bj bm aS aT aY;generalize cj:b[f]=kid at *;clear cj;have d0:(0:Int)<=1+kC ((b.take f).map Kid.tree):=oA;have b9:1+kC ((b.take (f+1)).map Kid.tree)<=900001:=oA;obtain⟨ai,T⟩:∃ai,Hid (1+kC ((b.take (f+1)).map Kid.tree)=ai):=⟨_,rfl⟩
   have ac:Hid (ai=1+kC ((b.take f).map Kid.tree)+kD kid.tree):=by show _=_;have:=T.out;omega
   have d1:ai<=900001:=by rw[<- T.out];exact b9
   clear ce cd cc b9;generalize 1+kC ((b.take f).map Kid.tree)=at_ at *
   cases kid with
   | imp d =>
    have db:d.size<=16:=aF
    have cr:eqS d empty=X:=by
     cases cg:eqS d empty with
     | false=>rfl
     | true =>
      have aL:kO d=H:=aH;rw[vN.1 cg]at aL;exact absurd aL oD
    have a3:=ac.out;rw[zzj]at a3;subst a3;simp only[Kid.kind,Kid.text,Kid.num]at aU aV aW;generalize (Kid.imp d).kids.length=o at *
    have z:Hid (B=match r.find? (fun g=>eqS g.module d)with
      | none=>Z (4,at_)
      | some g=>moF (qQ H m b) r (b.drop (f+1)) (h++[g]) (at_+1)):=R.out.trans (by rw[ab.out];simp only[moF];rfl)
    clear R ab aG aF aH cp ay ac cf;have a2:=C.alloc (Zc #[U O 2,I d,U O 0,J N o P] 25);have aP:=BoxC.new wr  #[U O 2,I d,U O 0,J N o P] 25;have W:=a2.begin oA oA;go_wp2_with (go_at_call 81;refine W.mono ?_;rintro p Q ⟨rfl,M⟩;have t:CS w0 Q D Kb kn ⟨g,af,ad,.map (Z Gb)⟩ vs u (at_+1):=by { rw[M];exact a2.setAt _ };have x:BoxC Q wr.heap.size  #[U O 2,I d,U O 0,J N o P] 25:=zgw;clear M;have bn:=x.cell 0 rfl;have bo:=x.cell 1 rfl;have bp:=x.cell 2 rfl;have bq:=x.cell 3 rfl)
    have bN:=oImported D Gb Kb gn kn (fun a5=>fvO (gf a5)) (fun a5=>fvO (g a5)) d at_ Q t.c4 t.c5 (ct.below t.bs) t.mp oA oA (fun p=>t.nk p.symm) (fun v aJ=>by
     cases l:gf d with
     | none=>rw[show fvO (gf d)=F by rw[l];rfl]at aJ;cases aJ
     | some q =>
      rw[show fvO (gf d)=Z (fvV q) by rw[l];rfl]at aJ;cases aJ
      exact zfq (b1 d q l))
    refine bN.mono ?_;rintro p bu (⟨bc,rfl,aR⟩|⟨v,aI,rfl,bX,ch⟩)
    ·have a6:Hid (B=Z (4,at_)):=by
      show _=_;rw[z.out,<- b0 d]
      cases l:gf d with
      | none=>rfl
      | some q=>rw[show fvO (gf d)=Z (fvV q) by rw[l];rfl]at bc;cases bc
     clear z;go_wp2;exact⟨rfl,MR.mkBad a6.out (t.bs.trans (aR.mono t.bs.size))⟩
    ·obtain⟨q,l⟩:∃q,gf d=Z q:=by
      cases l:gf d with
      | none=>rw[show fvO (gf d)=F by rw[l];rfl]at aI;cases aI
      | some q=>exact⟨q,rfl⟩
     rw[show fvO (gf d)=Z (fvV q) by rw[l];rfl]at aI;cases aI;have aD:r.find? (fun g=>eqS g.module d)=Z q.1:=by rw[<- b0 d,l];rfl
     have ck:eqS q.1.module d=H:=by simpa using List.find?_some aD
     have a6:Hid (B=moF (qQ H m b) r (b.drop (f+1)) (h++[q.1]) (at_+1)):=by
      show _=_;rw[z.out,aD]
     have aN:=t.import (q:=q) (x:=d) bX ch (zP.mono ca (b1 d q l)) cb bR;have bw:Hid _:=ax.out.more cr l ck
     have bv:Hid (∀e∈h++[q.1],e∈r):=fun e cn=>by
      rcases List.mem_append.1 cn with j | j
      ·exact aw.out e j
      ·simp only[jy]at j;rw[j];exact List.mem_of_find?_eq_some aD
     clear z aD;go_wp2
     exact⟨⟨f+1,kn+1,h++[q.1],_,vs,u,oA,oC,oA,bw,bv,by rw[T.out];exact aN,by show _=_;rw[T.out];exact a6.out⟩,by simp[intOf];omega⟩
   | var d e K n =>
    have a3:=ac.out;rw[ya6]at a3;have z:Hid (B=moF (qQ H m b) r (b.drop (f+1)) h (at_+1+(Kid.var d e K n).kids.length)):=R.out.trans (by rw[ab.out];simp only[moF]);clear R ab aG aF aH ay ac;simp only[Kid.kind,Kid.text,Kid.num]at aU aV aW;generalize 2*bI e+bI K=a9 at *;generalize (Kid.var d e K n).kids.length=o at *;subst a3;have a2:=C.alloc (Zc #[U O 3,I d,U O a9,J N o P] 25);have aP:=BoxC.new wr  #[U O 3,I d,U O a9,J N o P] 25;have W:=a2.begin oA oA;go_wp2_with (go_at_call 81;refine W.mono ?_;rintro p Q ⟨rfl,M⟩;have t:CS w0 Q D Kb kn ⟨g,af,ad,.map (Z Gb)⟩ vs u (at_+1):=by { rw[M];exact a2.setAt _ };have x:BoxC Q wr.heap.size  #[U O 3,I d,U O a9,J N o P] 25:=zgw;clear M;have bn:=x.cell 0 rfl;have bo:=x.cell 1 rfl;have bp:=x.cell 2 rfl;have bq:=x.cell 3 rfl);have dd:=t.c7;have de:=t.fz 7;have d4:(o:Int)<=1000:=oA;go_region
    all_goals
     go_wp2
     exact⟨⟨f+1,kn,h,g,vs,u,oA,oC,oA,ax,aw,by rw[T.out,show at_+(1+(o:Int))=at_+1+o by omega];exact(t.setAt _).drew,by show _=_;rw[T.out,show at_+(1+(o:Int))=at_+1+o by omega];exact z.out⟩,by simp[intOf];omega⟩
   | proc d e K ag ps aj =>
    obtain⟨co,bP,bK⟩:=aH
    obtain⟨E,rfl,bf⟩:∃E,aj=.node 6 empty 0 E/\∀ar∈E,StT ar:=by
     cases bK with
     | mk j=>exact⟨_,rfl,j⟩
    have a3:=ac.out
    have z:Hid (B=match prF ⟨qQ H m b,h⟩ (qB d e K ag ps) ps (.node 6 empty 0 E) (gF (.node 6 empty 0 E)) at_ with
      | .bad c G=>Z (c,G)
      | .ok G=>moF (qQ H m b) r (b.drop (f+1)) h G):=R.out.trans (by rw[ab.out];simp only[moF];rfl)
    have az:Hid (∀G,prF ⟨qQ H m b,h⟩ (qB d e K ag ps) ps (.node 6 empty 0 E) (gF (.node 6 empty 0 E)) at_=.ok G->G=ai):=fun G bb=>by
     have:=yb5 bf bb;rw[zm9]at a3;omega
    have aB:=fun ae (C:CS w0 ae D Kb kn ⟨g,af,ad,.map (Z Gb)⟩ vs u (at_+1))=>ycw (kf:=⟨g,af,ad,.map (Z Gb)⟩) d e K ag ps E ay.out bf co bP _ ae at_ vs u aG C oA oA
    have d6:at_<=900001:=oA;clear R ab aG aF ay ac a3;simp only[Kid.kind,Kid.text,Kid.num]at aU aV aW aB;generalize prF ⟨qQ H m b,h⟩ (qB d e K ag ps) ps (.node 6 empty 0 E) (gF (.node 6 empty 0 E)) at_=bC at *;generalize 2*bI e+bI K+gI ag=a9 at *;generalize (Kid.proc d e K ag ps (.node 6 empty 0 E)).kids.length=o at *;have a2:=C.alloc (Zc #[U O 4,I d,U O a9,J N o P] 25);have aP:=BoxC.new wr  #[U O 4,I d,U O a9,J N o P] 25;have W:=a2.begin oA oA;go_wp2_with (go_at_call 81;refine W.mono ?_;rintro p Q ⟨rfl,M⟩;have t:CS w0 Q D Kb kn ⟨g,af,ad,.map (Z Gb)⟩ vs u (at_+1):=by { rw[M];exact a2.setAt _ };have x:BoxC Q wr.heap.size  #[U O 4,I d,U O a9,J N o P] 25:=zgw;clear M;have bn:=x.cell 0 rfl;have bo:=x.cell 1 rfl;have bp:=x.cell 2 rfl;have bq:=x.cell 3 rfl);refine(aB _ t).mono ?_
    cases bC with
    | bad bG bF =>
     have a6:Hid (B=Z (bG,bF)):=z.out;clear z aB;rintro p bu ⟨rfl,aR⟩;go_wp2
     exact⟨rfl,MR.mkBad a6.out aR⟩
    | ok G =>
     obtain rfl:=az.out G rfl;have a6:Hid (B=moF (qQ H m b) r (b.drop (f+1)) h G):=z.out;clear z aB az;rintro p bu ⟨rfl,cv,cu,aN⟩;go_wp2;exact⟨⟨f+1,kn,h,g,cv,cu,oA,oC,oA,ax,aw,by rw[T.out];exact aN,by show _=_;rw[T.out];exact a6.out⟩,by simp[intOf];omega⟩
  ·obtain rfl:f=b.length:=oA
   have az:Hid (B=F):=by
    show _=_;rw[R.out,List.drop_eq_nil_of_le oA];rfl
   clear R aA;go_wp2
   go_end0
   exact MR.mkOk az.out C.bs
end
section
variable {w w':Zw}
theorem zs6 (e:Addr) (w:Zw) : CallsD prog 41 #[Zp (Z e)] .returning w fun b f w'=>b=.returned (.tuple #[])/\f=.returning/\w'=w:=by
 have i:∀w:Zw,(binOp BinOp.eql 20 .nilIface .nilIface).run prog w=.ok (Y H) w:=fun _=>oB
 refine callsD_of_wpS func41 rfl fun h g c=>?_
 refine zc0 (by simp[recoverD,c]) ?_;simp only[ntmps41,List.size_toArray,jd,je,Nat.reduceAdd,Nat.reduceSub,Array.replicate_succ,Array.replicate_zero,List.push_toArray,List.append_toArray,js,jL,Act.put,List.setIfInBounds_toArray,List.set_cons_succ,List.set_cons_zero];refine wpS_of_wp (wp_mono (Q:=fun b a w'=>b=.normal/\a.defers=[]/\w'=w) ?_ ?_);·go_wp2
 ·rintro b a w' ⟨rfl,d,rfl⟩;exact⟨d,_,rfl,.tuple #[],by simp[results,results41],rfl,c,rfl⟩
theorem ybg (b:Nat) (c a:Int) (w:Zw) (p:w.cell? (A b 0 F)=Z (U O 0)) (e:w.cell? (A b 1 F)=Z (U O 0)) (n:w.frozen? (A b 0 F)=X) (o:w.frozen? (A b 1 F)=X) (r:b<w.heap.size) : CallsD prog 41 #[Zp (Z (A b 0 F))] (.panicking (qG c a)) w fun d l w'=>d=.returned (.tuple #[])/\l=.panicking [{ v:=.iface 28 (Za #[U O c,U O a]),recovered:=H }]/\w'.cell? (A b 0 F)=Z (U O c)/\w'.cell? (A b 1 F)=Z (U O a)/\Fr b w w':=by
 have m:=kc28;have s:∀w:Zw,(binOp BinOp.eql 20 (.iface 28 (Za #[U O c,U O a])) .nilIface).run prog w=.ok (Y X) w:=fun _=>oB
 have t:∀w:Zw,(Instr.typeAssert (.iface 28 (Za #[U O c,U O a])) 20 28 H).run prog w=.ok (.tuple #[Za #[U O c,U O a],Y H]) w:=fun _=>oB
 unfold qG;refine callsD_of_wpS func41 rfl fun g f k=>?_
 refine zbm (v:=.iface 28 (Za #[U O c,U O a])) (cs':={ g with mode:=.panicking [{ v:=.iface 28 (Za #[U O c,U O a]),recovered:=H }] } :: f) (by simp[recoverD,k]) ?_;simp only[ntmps41,List.size_toArray,jd,je,Nat.reduceAdd,Nat.reduceSub,Array.replicate_succ,Array.replicate_zero,List.push_toArray,List.append_toArray,js,jL,Act.put,List.setIfInBounds_toArray,List.set_cons_succ,List.set_cons_zero];refine wpS_of_wp (wp_mono (Q:=fun d q w'=>d=.normal/\q.defers=[]/\w'.cell? (A b 0 F)=Z (U O c)/\w'.cell? (A b 1 F)=Z (U O a)/\Fr b w w') ?_ ?_);·go_wp2;exact(((Fr.refl _ _).set _ _).set _ _).alloc _
 ·rintro d q w' ⟨rfl,e,h,i,j⟩;exact⟨e,_,rfl,.tuple #[],by simp[results,results41],rfl,rfl,h,i,j⟩
def GO (w:Zw) (r:Option (Int × Int)) (e:Ending) (w':Zw):Prop:=e=.returned (Za #[U O (r.getD (0,0)).1,U O (r.getD (0,0)).2])/\Below w.heap.size w w'
theorem zzx {Gb gn:Nat} {gf:ByteArray->Option FV} (r:List FaceD) (m:ByteArray) (b:List Kid) (v:Zv) (w:Zw) (K:∀g,(gf g).map (·.1)=r.find? (fun o=>eqS o.module g)) (L:∀g q,gf g=Z q->zP w (fvV q) q.1) (M:∀o∈r,dG o) (an:kI w Gb gn (fun g=>fvO (gf g))) (ag:uV w) (T:Lies (·<w.heap.size) w (.node 1 m 0 (b.map Kid.tree)) v) (a8:b.length<=900) (ae:∀k∈b,k.good/\zil k) (ai:∀k∈b,k.kids.length<=1000) (ac:kC (b.map Kid.tree)<=900000) (ah:dG (qQ H m b)) : Calls prog 18 #[v,.map (Z Gb)] w (GO w (moF (qQ H m b) r b [] 1)):=by
 have au:=kc25;have av:=kc28;have aw:=kc100;have ay:=@run_makeMap prog;have ax:∀(E:Fn) (first D:Array Zv) (w:Zw),(Instr.makeFunc E first D).run prog w=.ok (.func E first D) w:=fun _ _ _ _=>rfl
 unfold Lies at T;obtain⟨a,c,rfl,_,R⟩:=T;rw[List.length_map]at *;have N:b≠[]->∃p y,a=Z (A p y F)/\p<w.heap.size/\qF (·<w.heap.size) w (b.map Kid.tree) p y:=fun B=>R (by simpa using B)
 clear R;obtain⟨d,i⟩:∃d,d=((((w.alloc (Zc #[U O 1,I m,U O 0,J a b.length c] 25)).alloc (Zc #[U O 0,U O 0] 28)).alloc (.map #[] 0)).alloc (Zc #[U O 1,I m,U O 0,J a b.length c,.map (Z Gb),.map (Z (w.heap.size+1+1)),J F 0 0,U O 0] 100)):=⟨_,rfl⟩
 have aj:(((w.alloc (Zc #[U O 1,I m,U O 0,J a b.length c] 25)).alloc (Zc #[U O 0,U O 0] 28)).alloc (.map #[] 0)).heap.size=w.heap.size+1+1+1:=oC;have ab:Below w.heap.size w d:=by rw[i];exact(((bal _).alloc oC _).alloc oE _).alloc oE _
 have e:BoxC d (w.heap.size+1+1+1) #[U O 1,I m,U O 0,J a b.length c,.map (Z Gb),.map (Z (w.heap.size+1+1)),J F 0 0,U O 0] 100:=by
  have:=BoxC.new (((w.alloc (Zc #[U O 1,I m,U O 0,J a b.length c] 25)).alloc (Zc #[U O 0,U O 0] 28)).alloc (.map #[] 0)) #[U O 1,I m,U O 0,J a b.length c,.map (Z Gb),.map (Z (w.heap.size+1+1)),J F 0 0,U O 0] 100;rw[aj]at this;rw[i];exact this
 have a3:Box2 d (w.heap.size+1) (U O 0) (U O 0):=by
  have:=Box2.new (w.alloc (Zc #[U O 1,I m,U O 0,J a b.length c] 25)) (U O 0) (U O 0) 28;rw[jP]at this;rw[i];have aa:=((Below.refl ((w.alloc (Zc #[U O 1,I m,U O 0,J a b.length c] 25)).alloc (Zc #[U O 0,U O 0] 28)).heap.size ((w.alloc (Zc #[U O 1,I m,U O 0,J a b.length c] 25)).alloc (Zc #[U O 0,U O 0] 28))).alloc (jE _) (.map #[] 0)).alloc oC (Zc #[U O 1,I m,U O 0,J a b.length c,.map (Z Gb),.map (Z (w.heap.size+1+1)),J F 0 0,U O 0] 100);exact this.below aa
 have S:kI d (w.heap.size+1+1) 0 (fun _=>F):=by
  have:=kI.made ((w.alloc (Zc #[U O 1,I m,U O 0,J a b.length c] 25)).alloc (Zc #[U O 0,U O 0] 28));rw[jP,jP]at this;rw[i];exact this.below (bal _)
 obtain⟨f,t⟩:∃f,f=((w.alloc (Zc #[U O 1,I m,U O 0,J a b.length c] 25)).alloc (Zc #[U O 0,U O 0] 28)):=⟨_,rfl⟩
 have az:f.heap.size=w.heap.size+1+1:=by rw[t];simp
 have n:Below w.heap.size w f:=by rw[t];exact(bal _).alloc oC _
 have Q:Below f.heap.size f d:=by rw[i,t];exact(bal _).alloc oC _
 have G:M0 f d (w.heap.size+1+1+1) Gb (w.heap.size+1+1) gn gf m a b.length c 0 :=
  ⟨Q,oA,e.cell 1 rfl,e.cell 3 rfl,e.cell 4 rfl,e.cell 5 rfl,e.cell 6 rfl,e.cell 7 rfl,fun k=>e.fz k,S,oA,oA,zbl ag n,an.below n⟩
 have P:=zz2 r K (fun g q x=>(L g q x).below n) M m b a c d G (fun B=>by
  obtain⟨p,y,l,ad,a9⟩:=N B
  exact⟨p,y,l,oA,qF.below ad a9 n⟩) a8 ae ai ac ah
 clear G S e N K L M
 have a5:Box2 f (w.heap.size+1) (U O 0) (U O 0):=by
  have:=Box2.new (w.alloc (Zc #[U O 1,I m,U O 0,J a b.length c] 25)) (U O 0) (U O 0) 28;rw[jP]at this;rw[t];exact this
 clear t ab a3;generalize moF (qQ H m b) r b [] 1=a2 at *;go_enter_defers func18,ntmps18;go_wp2_with (fail);rw[<- i];refine P.mono ?_;clear i P Q;rintro l C ⟨u,x⟩;have j:=a5.below u;have am:=j.lt;have h:Hid (Below w.heap.size w C):=n.trans (u.mono n.size)
 cases a2 with
 | some q =>
  obtain rfl:l=.panicked (qG q.1 q.2):=x;have key:=ybg (w.heap.size+1) q.1 q.2 C j.c0 j.c1 j.f0 j.f1 am;clear u;go_wp2;refine leaves_cons (f:=41) (args:=#[Zp (Z (A (w.heap.size+1) 0 F))]) oC oR ?_;refine key.mono ?_;rintro l ar W ⟨rfl,rfl,a6,a7,s⟩;have z:Below w.heap.size w W:=⟨s.os.trans h.out.os,s.tape.trans h.out.tape,s.output.trans h.out.output,jp h.out.size s.size,fun V af=>(s.block V (by have:=h.out.size;omega) oE).trans (h.out.block V af)⟩
  refine⟨Za #[U O q.1,U O q.2],?_,?_⟩;·simp[results,results18,go_sem,a6,a7]
  ·exact⟨rfl,z⟩
 | none =>
  obtain rfl:l=.returned (.tuple #[]):=x;obtain⟨ao,ap,aA,aB⟩:=id j;have z:Hid (Below w.heap.size w ((C.setCell (A (w.heap.size+1) 0 F) (U O 0)).setCell (A (w.heap.size+1) 1 F) (U O 0))):=(h.out.setCell (Nat.le_succ _) _).setCell (Nat.le_succ _) _;clear u;go_wp2;refine leaves_cons (f:=41) (args:=#[Zp (Z (A (w.heap.size+1) 0 F))]) oC oR ?_;refine(zs6 _ _).mono ?_;rintro l ar W ⟨rfl,rfl,ak⟩;subst ak;refine⟨Za #[U O 0,U O 0],?_,?_⟩;·simp[results,results18,go_sem,ao,ap]
  ·exact⟨rfl,z.out⟩
end
def vC (l:List FV) (z:ByteArray):Option FV:=l.find? fun q=>eqS q.1.module z
theorem zxb (a:List FV) (b:ByteArray):(vC a b).map (·.1)=(a.map (·.1)).find? (fun c=>eqS c.module b):=by
 unfold vC;rw[List.find?_map];rfl
theorem zvd (c:List FV) (q:FV) (f:(c.map (·.1)).any (fun b=>eqS b.module q.1.module)=X):(fun a=>if eqS a q.1.module then Z (fvV q)else fvO (vC c a))=fun a=>fvO (vC (c++[q]) a):=by
 funext a
 unfold vC;rw[List.find?_append]
 cases d:eqS a q.1.module with
 | true =>
  obtain rfl:=vN.1 d
  have e:c.find? (fun b=>eqS b.1.module q.1.module)=F:=by
   rw[List.find?_eq_none];intro b h;rw[List.any_eq_false]at f;exact f b.1 (List.mem_map.2 ⟨b,h,rfl⟩)
  rw[e,jv rfl]
  simp[List.find?,vN.2 rfl,fvO]
 | false =>
  have e:eqS q.1.module a=X:=by
   cases g:eqS q.1.module a with
   | false=>rfl
   | true=>rw[vN.1 g,vN.2 rfl]at d;cases d
  rw[ju oD]
  congr 1
  simp[List.find?,e]
theorem zvc (a:List FV) (b:ByteArray):(vC a b).isSome=(a.map (·.1)).any (fun c=>eqS c.module b):=by
 unfold vC;rw[List.any_map,List.isSome_find?];rfl
def cD (w:Zw) (v:Zv) (b:List FV):Prop:=∃a c,v=J a b.length c/\b.length<=2199023255552/\(b≠[]->∃g o,a=Z (A g o F)/\∀i (d:i<b.length),w.cell? (A g (o+i*3) F)=Z (I b[i].1.module)/\w.cell? (A g (o+i*3+1) F)=Z b[i].2.1/\w.cell? (A g (o+i*3+2) F)=Z b[i].2.2/\zP w (fvV b[i]) b[i].1/\b[i].1.module.size<=maxLen)
theorem zzq {c:FaceD} (a:cU c=H):dG c:=by
 unfold cU at a;simp only[jj]at a;obtain⟨_,_,i,h,_⟩:=a;refine⟨fun v b=>?_,fun k b=>?_⟩;·have:=List.all_eq_true.1 i v b;unfold gP yH at this;simp only[jj,Bool.or_eq_true,beq_iff_eq,jl]at this;exact⟨this.2.2.1,this.2.2.2.1⟩
 ·have:=List.all_eq_true.1 h k b;unfold gB yH at this;simp only[jj,Bool.or_eq_true,beq_iff_eq,jl,List.all_eq_true]at this;obtain⟨_,_,_,d,e,f,_⟩:=this;exact⟨fun j g=>d j g,e,f⟩
theorem zk6:∀(c d:List FaceD),gW d c=X->∀f∈c,cU f=H
 | [],_,_,f,b=>by cases b
 | a :: r,d,h,f,b=>by
  unfold gW at h;simp only[Bool.or_eq_false_iff,Bool.not_eq_false']at h;rcases List.mem_cons.1 b with rfl | b
  ·exact h.1.2
  ·exact zk6 r _ h.2 f b
theorem zu2 (a:List FaceD) (b:Nat) (c:b<a.length):gW (a.take b) (a.drop b)=(((a.take b).any (fun q=>eqS q.module a[b].module)||!cU a[b])||gW (a.take (b+1)) (a.drop (b+1))):=by
 rw[List.drop_eq_getElem_cons c,List.take_succ_eq_append_getElem c];rfl
theorem rangeF_ok {n:Option Int} {a:Int} (b:gC n a=F):0<=n.getD 0:=by
 cases n with
 | none=>simp
 | some k =>
  simp only[gC]at b;split at b;·cases b
  ·simp only[Option.getD_some];omega
theorem zbr (m:ByteArray):∀(e:List Kid) (is d:List ByteArray) (a:Int),kV m e is d a=F->∀k∈e,match k with
  | .imp _=>True
  | .var _ _ _ n=>0<=n.getD 0
  | .proc _ _ _ _ ps _=>ps.length<=5
 | [],_,_,_,_,k,c=>by cases c
 | .imp x :: r,is,d,a,h,k,c=>by
  unfold kV at h;split at h;·cases h
  ·split at h;·cases h
   ·rcases List.mem_cons.1 c with rfl | c
    ·trivial
    ·exact zbr m r _ _ _ h k c
 | .var x p l n :: r,is,d,a,h,k,c=>by
  unfold kV at h;split at h;·cases h
  ·split at h;·cases h
   ·split at h;·cases h
    ·rename_i f;rcases List.mem_cons.1 c with rfl | c
     ·exact rangeF_ok f
     ·exact zbr m r _ _ _ h k c
 | .proc x p l g ps b :: r,is,d,a,h,k,c=>by
  unfold kV at h;split at h;·cases h
  ·split at h;·cases h
   ·split at h;·cases h
    ·rename_i i;split at h;·cases h
     ·rcases List.mem_cons.1 c with rfl | c
      ·show ps.length<=5;omega
      ·exact zbr m r _ _ _ h k c
theorem zkq:∀(ps:List (ByteArray × Bool)) (b:List ByteArray) (a:Int) (q:Int × Int),dY b ps a=Z q->q.1=5
 | [],_,_,_,h=>by cases h
 | x :: r,b,a,q,h=>by
  unfold dY at h;split at h;·cases h;rfl
  ·exact zkq r _ _ q h
theorem zc5 (m:ByteArray):∀(e:List Kid) (is d:List ByteArray) (a:Int) (q:Int × Int),kV m e is d a=Z q->q.1=5\/q.1=1\/q.1=6
 | [],_,_,_,_,h=>by cases h
 | .imp x :: r,is,d,a,q,h=>by
  unfold kV at h;split at h;·cases h;exact .inl rfl
  ·split at h;·cases h;exact .inr (.inl rfl)
   ·exact zc5 m r _ _ _ q h
 | .var x p l n :: r,is,d,a,q,h=>by
  unfold kV at h;split at h;·cases h;exact .inl rfl
  ·split at h;·cases h;exact .inr (.inl rfl)
   ·split at h
    ·rename_i f c;cases h
     cases n with
     | none=>cases c
     | some k =>
      simp only[gC]at c;split at c;·cases c;exact .inr (.inr rfl)
      ·cases c
    ·exact zc5 m r _ _ _ q h
 | .proc x p l g ps b :: r,is,d,a,q,h=>by
  unfold kV at h;split at h;·cases h;exact .inl rfl
  ·split at h;·cases h;exact .inr (.inl rfl)
   ·split at h;·cases h;exact .inr (.inl rfl)
    ·split at h;·rename_i f c;cases h;exact .inl (zkq _ _ _ _ c)
     ·exact zc5 m r _ _ _ q h
theorem zdh (all:Bool):∀(l:List Kid) (v:VarD),v∈kW all l->∃d h f n,Kid.var d h f n∈l/\v=yW d h f n
 | [],v,b=>by cases b
 | .imp d :: r,v,b=>by
  obtain⟨a,e,c,i,j,k⟩:=zdh all r v b
  exact⟨a,e,c,i,jF _ j,k⟩
 | .proc d h f g ps e :: r,v,b=>by
  obtain⟨a,e,c,i,j,k⟩:=zdh all r v b
  exact⟨a,e,c,i,jF _ j,k⟩
 | .var d h f n :: r,v,b=>by
  have:v=yW d h f n\/v∈kW all r:=by
   unfold kW at b;split at b;·exact List.mem_cons.1 b
   ·exact .inr b
  rcases this with rfl | b
  ·exact⟨d,h,f,n,jJ ..,rfl⟩
  ·obtain⟨a,e,c,i,j,k⟩:=zdh all r v b;exact⟨a,e,c,i,jF _ j,k⟩
theorem procsK_mem (all:Bool):∀(g:List Kid) (q:ProcD),q∈kZ all g->∃c e d f ps,q=qB c e d f ps
 | [],v,a=>by cases a
 | .imp c :: r,v,a=>procsK_mem all r v a
 | .var c e d n :: r,v,a=>procsK_mem all r v a
 | .proc c e d f ps b :: r,v,a=>by
  have:v=qB c e d f ps\/v∈kZ all r:=by
   unfold kZ at a;split at a;·exact List.mem_cons.1 a
   ·exact .inr a
  rcases this with rfl | a
  ·exact⟨c,e,d,f,ps,rfl⟩
  ·exact procsK_mem all r v a
theorem yb3 {m:ByteArray} {a:List Kid} (f:kV m a [] [] 1=F):dG (qQ H m a):=by
 refine⟨fun v i=>?_,fun q h=>?_⟩;·obtain⟨d,c,b,n,g,rfl⟩:=zdh H a v i;have:=zbr m a _ _ _ f _ g;exact⟨dI _,this⟩
 ·obtain⟨d,c,b,e,ps,rfl⟩:=procsK_mem H a q h;exact zku d c b e ps
theorem zzn {m:ByteArray} {a:List Kid} (f:kV m a [] [] 1=F) (i:∀k∈a,k.good/\k.named/\gE k):∀k∈a,k.good/\zil k:=by
 intro k d;obtain⟨b,g,h⟩:=i k d;have c:=zbr m a _ _ _ f k d;refine⟨b,?_⟩
 cases k with
 | imp e=>exact g
 | var e l j n=>exact c
 | proc e l j p ps o=>exact⟨by have q:ps.length<=5:=c;omega,b.2.2,h⟩
end chk
end Go.Proofs.YtbjppepjmcfkaaaGreatDoor
