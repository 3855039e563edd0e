/- What the reference's May answers: a contract. -/
import Derived.Test.YtjkcecppnmlhjaaGreatDoorNQr
import Derived.Test.YtjkcecppnmlhjaaGreatDoorNQ13
open Go.Proofs.Tryz
open Go.Value renaming int → U, string → I, slice → J, bool → Y, pointer → Zp
open Go.IntKind renaming i64 → O
open Go.Obj renaming cells → Zc
open Go.Addr renaming mk → A
open Option renaming none → F, some → Z
open Bool renaming false → X, true → H
open Go renaming World → Zw, Value → Zv
set_option maxHeartbeats 4000000
set_option linter.unusedVariables false
set_option linter.unusedSimpArgs false
set_option maxRecDepth 100000
namespace Go.Proofs.YtjkcecppnmlhjaaGreatDoor
theorem oz14x134 {E:Prop} (d:E:=by
 go_ret
 exact⟨vL l.out.symm,(g.next (dU _)).below⟩):E:=d
theorem oz14x135 {E:Prop} (d:E:=by
 go_enter func11,ntmps11;go_wp2_with (go_at_call 24;refine w.mono ?_;rw[a5];rintro i R ⟨rfl,B⟩;have L:R.cell? (A p.heap.size 1 F)=Z (J N c.length P):=zau B 1;have V:R.cell? (A p.heap.size 2 F)=Z (J S ps.length T):=zau B 2)
 exact oz14x137):E:=d
theorem oz14x136 {E:Prop} (d:E:=by
 go_wp2_with (go_at_call 25;refine(dM _ _).mono ?_;rw[u];rintro i k ⟨rfl,r⟩;obtain rfl:=r.symm)
 exact oz14x134):E:=d
theorem oz14x137 {E:Prop} (d:E:=by
 go_ret
 exact⟨vL l.out.symm,zr6 B⟩):E:=d
namespace face
open Go.RowKit
open lexs (own_below own_shape)
open syn (kE eqS)
def cK (l:List ByteArray):List Zv:=l.map Value.string
variable {a b:Zw} {c:List ByteArray}
theorem zzn:(prog.info? 9).map (fun a=>(a.zero,a.size,a.bytes))=Z (Z (I ⟨#[]⟩),1,16):=oD
structure RInv (w wr:Zw) (x:ByteArray) (vv pv v:Zv) (l:List ByteArray):Prop where
 below:Below w.heap.size w wr
 lt:w.heap.size+1<=wr.heap.size
 c1:wr.cell? (A w.heap.size 1 F)=Z vv
 c2:wr.cell? (A w.heap.size 2 F)=Z pv
 own:wr.ownsRow (w.heap.size+1) 9 1 v l.length (cK l)
theorem RInv.next {f wr g:Zw} {h:ByteArray} {e d v:Zv} (a:RInv f wr h e d v c) (b:Below wr.heap.size wr g):RInv f g h e d v c :=
 ⟨a.below.trans (b.mono a.below.size),jp a.lt b.size,keep a.c1 b,keep a.c2 b,own_below a.own b⟩
theorem zhv {row:Option Nat} (e:a.grownBy b row) {c:Addr} {v:Zv} (d:a.cell? c=Z v) (f:Z c.block≠row):b.cell? c=Z v:=by
 have:=e.block c.block (jR a c d) f;unfold World.cell? at d |-;rw[this];exact d
theorem RInv.put {d wr g:Zw} {l e:ByteArray} {k i v j:Zv} (a:RInv d wr l k i v c) (b:wr.grownBy g v.ownBlock) (n:g.ownsRow (d.heap.size+1) 9 1 j (c.length+1) (cK c++[I e])) : RInv d g l k i j (c++[e]):=by
 have h:Z d.heap.size≠v.ownBlock:=fun f=>by have:=(a.own.lt _ f.symm).1;omega
 refine⟨a.below.grown b a.below.size (fun o m=>?_),jp a.lt b.size,zhv b a.c1 h,zhv b a.c2 h,?_⟩;·have:=(a.own.lt _ m).1;omega
 ·rw[jb];have f:cK (c++[e])=cK c++[I e]:=by simp[cK]
  rw[f];exact n
theorem zhz (a:ByteArray):∀u∈[Value.string a],u.oneCell'=H:=oZ
theorem dU (b:Obj):Below a.heap.size a (a.alloc b):=bal b
theorem zau {c:Array Zv} {e:TypeId} (f:Below (a.alloc (Zc c e)).heap.size (a.alloc (Zc c e)) b) (d:Nat):b.cell? (A a.heap.size d F)=c[d]?:=by
 rw[f.cell (p:=(A a.heap.size d F)) oB];simp
theorem zr6 {c:Obj} (d:Below (a.alloc c).heap.size (a.alloc c) b):Below a.heap.size a b :=
 (bal c).trans (d.mono oB)
theorem zim {α β:Type} (c:α->β) (b:List α) (a:Nat) (d:a<b.length):(b.take (a+1)).map c=(b.take a).map c++[c b[a]]:=by
 rw[List.take_add_one,List.map_append,List.getElem?_eq_getElem d];rfl
theorem zit (b:Zv) (c:TypeId) (e:Nat) (g:e=a.heap.size):∀d f,[b][d]?=Z f->(a.alloc (Zc #[b] c)).cell? (((A e 0 F):Addr).add d)=Z f:=by
 subst g;exact cell_one_new a b c
theorem zke {h:Nat} {v:Zv} (e:a.ownsRow h 9 1 v c.length (cK c)) : ∃g f,v=J g c.length f/\c.length<=f/\f<=9223372036854775807/\(c≠[]->∃b,g=Z (A b 0 F)/\∀d (hi:d<c.length),a.cell? (A b d F)=Z (I c[d])):=by
 rcases e.2 with⟨rfl,l⟩|⟨b,i,m,rfl,_,_,j,k,_⟩
 ·have:c=[]:=List.length_eq_zero_iff.1 l;subst this;exact⟨F,0,rfl,oB,oA,fun e=>absurd rfl e⟩
 ·refine⟨Z (A b 0 F),i,rfl,j,by unfold maxLen at k;omega,fun _=>⟨b,rfl,fun d hi=>?_⟩⟩;have:=e.cellAt d oA;rw[this];unfold cK;rw[List.getElem?_map,List.getElem?_eq_getElem hi];rfl
theorem zu0 {d f:Nat} {b:Nat} (hi:b<=c.length) (j:c.length<=9223372036854775807) (g:∀b (hi:b<c.length),a.cell? (A d b F)=Z (I c[b])):uU a (J (Z (A d 0 F)) b f) (c.take b):=by
 have e:(c.take b).length=b:=oQ;refine⟨Z (A d 0 F),f,by rw[e],by rw[e];omega,fun _=>⟨d,0,rfl,fun i h=>?_⟩⟩;rw[e]at h;rw[Nat.zero_add,g i oA,List.getElem_take]
theorem yb0 (ax:FaceD) (bb:Zv) (p:Zw) (br:qX p bb ax) : Calls prog 11 #[bb] p fun i bG=>i=.returned (Y (vB ax))/\Below p.heap.size p bG:=by
 have bS:prog.cellsOf 38=3:=xG;have bX:prog.cellsOf 52=4:=cell4;have bY:prog.cellsOf 57=6:=vA;have bR:prog.cellsOf 9=1:=zbo;obtain⟨b6,hi,b0,b1,b2⟩:=info_parts zzn;rw[zv6];obtain⟨ce,cd,rfl,aZ,aY⟩:=br;obtain⟨M,c,ps⟩:=ax;simp only at aZ aY |-;obtain⟨N,P,rfl,ca,ap⟩:=aZ;obtain⟨S,T,rfl,cb,aX⟩:=aY;have w:=rName M (p.alloc (Zc #[I M,J N c.length P,J S ps.length T] 38));obtain⟨j,aC⟩:∃j,j=(kE M&&(decide (c.length+ps.length<=20)&&(c.all gH&&(ps.all uM&&vU [] (c.map (·.name)++ps.map (·.name)))))):=⟨_,rfl⟩
 rw[<- aC];have an:Hid (j=(kE M&&(decide (c.length+ps.length<=20)&&(c.all gH&&(ps.all uM&&vU [] (c.map (·.name)++ps.map (·.name))))))):=aC
 clear aC;cases a5:kE M
 case false =>
  have l:Hid (j=X):=by show _=_;rw[an.out,a5];rfl
  go_enter func11,ntmps11;go_wp2_with (go_at_call 24;refine w.mono ?_;rw[a5];rintro i R ⟨rfl,B⟩);exact oz14x137
 by_cases aR:c.length+ps.length<=20
 case neg =>
  have l:Hid (j=X):=by show _=_;rw[an.out,a5,decide_eq_false aR];rfl
  by_cases bF:c.length<=20
  case neg =>
   go_enter func11,ntmps11;go_wp2_with (go_at_call 24;refine w.mono ?_;rw[a5];rintro i R ⟨rfl,B⟩;have L:R.cell? (A p.heap.size 1 F)=Z (J N c.length P):=zau B 1);exact oz14x137
  by_cases bz:ps.length<=20
  case neg =>
   exact oz14x135
  have bj:20<(c.length:Int)+(ps.length:Int):=oA;have bs:wrap64 ((c.length:Int)+(ps.length:Int))=(c.length:Int)+(ps.length:Int):=by unfold wrap64;omega
  exact oz14x135
 have aw:Hid (j=(c.all gH&&(ps.all uM&&vU [] (c.map (·.name)++ps.map (·.name))))):=by show _=_;rw[an.out,a5,decide_eq_true aR];rfl
 clear an;have bF:c.length<=20:=oA;have bz:ps.length<=20:=oA;have bj:(c.length:Int)+(ps.length:Int)<=20:=oA;have bs:wrap64 ((c.length:Int)+(ps.length:Int))=(c.length:Int)+(ps.length:Int):=by unfold wrap64;omega
 go_enter func11,ntmps11;go_wp2_with (go_at_call 24;refine w.mono ?_;rw[a5];rintro i R ⟨rfl,B⟩;have L:R.cell? (A p.heap.size 1 F)=Z (J N c.length P):=zau B 1;have V:R.cell? (A p.heap.size 2 F)=Z (J S ps.length T):=zau B 2)
 have aS:RInv p R M (J N c.length P) (J S ps.length T) (J F 0 0) ((c.take 0).map (·.name)) :=
  ⟨zr6 B,jR _ _ L,L,V,World.ownsRow_nil _ _ _ _⟩
 clear L V B;go_loopw [3,4] (fun v s wr=>∃e:Nat,e<=c.length/\s=U O e/\RInv p wr M (J N c.length P) (J S ps.length T) v ((c.take e).map (·.name))/\Hid (∀b (d:b<c.length),b<e->gH c[b]=H)) (fun _ s _=>c.length - (intOf s).toNat)
 case atStart=>exact⟨0,jz _,rfl,aS,fun b _ d=>oA⟩
 case round =>
  clear aS;obtain⟨e,bn,rfl,g,a2⟩:=hrel;have bD:=g.c1;by_cases D:e<c.length
  ·obtain⟨m,bw,rfl,aE⟩:=ap (by intro i;rw[i]at D;simp at D);obtain⟨ah,ai,aj,ak⟩:=aE e D;have ar:=keep ah g.below;have L:=keep ai g.below;have V:=keep aj g.below;have a9:=keep ak g.below;clear ah ai aj ak;obtain⟨G,n⟩:∃G,G=gH c[e]:=⟨_,rfl⟩
   have a6:Hid (G=gH c[e]):=n;have x:Hid (G=X->j=X):=fun d=>aw.out.trans (by rw[bU e D (by rw[<- a6.out];exact d)];rfl)
   have ad:Hid ((c.take (e+1)).map (·.name)=(c.take e).map (·.name)++[c[e].name]):=zim _ _ _ D
   unfold gH at n;generalize c[e].name=s0,c[e].pub=s1,c[e].label=s2,c[e].size=aa at n ar L V a9 ad;cases y:s1
   case false =>
    subst y;have l:Hid (j=X):=x.out (by rw[n];rfl);go_wp2;exact oz14x134
   subst y;cases u:qM s2
   case false =>
    have l:Hid (j=X):=x.out (by rw[n,u];rfl);exact oz14x136
   by_cases K:0<=aa
   case neg =>
    have l:Hid (j=X):=x.out (by rw[n,u,decide_eq_false K];rfl);exact oz14x136
   by_cases ae:aa<=64
   case neg =>
    have l:Hid (j=X):=x.out (by rw[n,u,decide_eq_true K,decide_eq_false ae];rfl);exact oz14x136
   have W:Hid (gH c[e]=H):=a6.out.symm.trans (by rw[n,u,decide_eq_true K,decide_eq_true ae];rfl);have az:=g.next (dU (Zc #[I s0,Y H,U O s2,U O aa] 52));have bo:((c.take e).map (·.name)).length<=20:=oE
   clear a6 x n
   go_wp2_with first
    | (go_at_call 25;refine(dM _ _).mono ?_;rw[u];rintro i k ⟨rfl,r⟩;obtain rfl:=r.symm)
    | (at_builtin;refine wpList_append_own _ rfl (.tmp 67) (.tmp 70) 41 rfl (p.heap.size+1) 9 b6 (I ⟨#[]⟩) 1 16 underlying41 hi b0 b1 b2 rfl oC _ _ _ rfl (az.own.alloc _) (A (wr.heap.size+1) 0 F) 1 1 [I s0] rfl rfl (zit _ _ _ oB) (zhz _) (by unfold maxLen;omega) oA (by have:=g.lt;simp;omega) ?_;intro bE bN aI aF bq)
    | go_in
   go_roundw
   case rel=>exact⟨e+1,oA,oJ,by rw[ad.out];exact(az.next (dU _)).put aF aI,fun b d ay=>by
    rcases jL b e with z | z
    ·exact a2.out b d z
    ·have:b=e:=oA;subst this
     exact W.out⟩
   case measure=>simp[intOf];omega
  ·have au:Hid (j=(ps.all uM&&vU [] (c.map (·.name)++ps.map (·.name)))):=by show _=_;rw[aw.out,bL (fun b d=>a2.out b d oA)];rfl
   clear aw a2 ap;rw[jG oA]at g;go_wp2;go_loopw [3,6] (fun v s wr=>∃e:Nat,e<=ps.length/\s=U O e/\RInv p wr M (J N c.length P) (J S ps.length T) v (c.map (·.name)++(ps.take e).map (·.name))/\Hid (∀b (d:b<ps.length),b<e->uM ps[b]=H)) (fun _ s _=>ps.length - (intOf s).toNat)
   case atStart=>exact⟨0,jz _,rfl,by simpa using g,fun b _ d=>oA⟩
   case round =>
    clear g bD;obtain⟨e,bn,rfl,g,a2⟩:=hrel;have ba:=g.c2;by_cases D:e<ps.length
    ·obtain⟨m,bw,rfl,aE⟩:=aX (by intro i;rw[i]at D;simp at D);obtain⟨ah,ai,⟨aK,aj,bu⟩,ak,b7,b8⟩:=aE e D;obtain⟨aN,aO,rfl,bp,aG⟩:=bu;have ar:=keep ah g.below;have L:=keep ai g.below;have V:=keep aj g.below;have a9:=keep ak g.below;have q4:=keep b7 g.below;have b9:=keep b8 g.below;clear ah ai aj ak b7 b8;obtain⟨G,n⟩:∃G,G=uM ps[e]:=⟨_,rfl⟩
     have a6:Hid (G=uM ps[e]):=n;have x:Hid (G=X->j=X):=fun d=>au.out.trans (by rw[bU e D (by rw[<- a6.out];exact d)];rfl)
     have ad:Hid ((ps.take (e+1)).map (·.name)=(ps.take e).map (·.name)++[ps[e].name]):=zim _ _ _ D
     unfold uM zg5 at n;generalize ps[e].name=s0,ps[e].pub=s1,ps[e].params=s2,ps[e].writes=aa,ps[e].gives=s4,ps[e].given=Q at n ar L V a9 q4 b9 ad bp aG;cases y:s1
     case false =>
      subst y;have l:Hid (j=X):=x.out (by rw[n];rfl);go_wp2;exact oz14x134
     subst y;by_cases u:s2.length<=5
     case neg =>
      have l:Hid (j=X):=x.out (by rw[n,decide_eq_false u];rfl);go_wp2;exact oz14x134
     cases K:qM aa
     case false =>
      have l:Hid (j=X):=x.out (by rw[n,K];simp);go_wp2_with (go_at_call 25;refine(dM _ _).mono ?_;rw[K];rintro i k ⟨rfl,r⟩;obtain rfl:=r.symm);exact oz14x134
     cases af:qM Q
     case false =>
      have l:Hid (j=X):=x.out (by rw[n,af];simp);go_wp2_with (go_at_call 25;refine(dM _ _).mono ?_;(first | rw[K] | rw[af]);rintro i k ⟨rfl,r⟩;obtain rfl:=r.symm);exact oz14x134
     by_cases ae:s4=H\/Q=0
     case neg =>
      have bh:s4=X:=by cases s4<;>simp_all
      have aP:¬Q=0:=fun d=>ae (.inr d)
      have aQ:(Q==0)=X:=beq_false_of_ne aP;have bZ:(Q != 0)=H:=by simp[bne,aQ]
      subst bh;have l:Hid (j=X):=x.out (by rw[n,aQ];simp);go_wp2_with (go_at_call 25;refine(dM _ _).mono ?_;(first | rw[K] | rw[af]);rintro i k ⟨rfl,r⟩;obtain rfl:=r.symm);go_ret;exact⟨vL l.out.symm,(g.next (dU _)).below⟩
      all_goals exact absurd (show(Q != 0)=X from by simp_all) (by simp[aP])
     have aL:Hid (G=s2.all qM):=by
      show _=_;have:(s4||Q==0)=H:=by rcases ae with d | d<;>simp[d]
      rw[n,K,af,this,decide_eq_true u];rfl
     have az:=g.next (dU (Zc #[I s0,Y H,J aN s2.length aO,U O aa,Y s4,U O Q] 57));have bo:(c.map (·.name)++(ps.take e).map (·.name)).length<=20:=oE
     clear n;have bi:(s4=X/\Q=0)\/s4=H:=by cases d:s4<;>simp_all
     rcases bi with⟨rfl,rfl⟩ | rfl
     all_goals
      go_wp2_with (go_at_call 25;refine(dM _ _).mono ?_;(first | rw[K] | rw[af]);rintro i k ⟨rfl,r⟩;obtain rfl:=r.symm);go_loopw [8] (fun s am=>∃a:Nat,a<=s2.length/\s=U O a/\Below wr.heap.size wr am/\am.cell? (A wr.heap.size 0 F)=Z (I s0)/\am.cell? (A wr.heap.size 2 F)=Z (J aN s2.length aO)/\Hid (∀b (d:b<s2.length),b<a->qM s2[b]=H)) (fun s _=>s2.length - (intOf s).toNat)
      case atStart=>exact⟨0,jz _,rfl,dU _,oB,oB,fun b _ d=>oA⟩
      case round =>
       clear ar L V a9 q4 b9 ba;obtain⟨a,ap,rfl,aU,bf,bg,ac⟩:=hrel;have ag:=g.next aU;by_cases C:a<s2.length
       ·obtain⟨c6,cc,rfl,aW⟩:=aG (by intro i;rw[i]at C;simp at C);have a8:=keep (aW a C) ag.below;clear aW aG;cases a7:qM s2[a];·have l:Hid (j=X):=x.out (by rw[aL.out,bU a C a7]);generalize s2[a]=bP at a7 a8;go_wp2_with (go_at_call 25;refine(dM _ _).mono ?_;rw[a7];rintro i k ⟨rfl,r⟩;obtain rfl:=r.symm);go_ret;exact⟨vL l.out.symm,ag.below⟩
        ·have W:Hid (qM s2[a]=H):=a7;generalize s2[a]=bP at a7 a8;go_wp2_with (go_at_call 25;refine(dM _ _).mono ?_;rw[a7];rintro i k ⟨rfl,r⟩;obtain rfl:=r.symm);go_roundw
         case rel=>exact⟨a+1,oA,oJ,aU,bf,bg,fun b d ay=>by
          rcases jL b a with z | z
          ·exact ac.out b d z
          ·have:b=a:=oA;subst this
           exact W.out⟩
         case measure=>simp[intOf];omega
       ·have W:Hid (uM ps[e]=H):=a6.out.symm.trans (aL.out.trans (bL (fun b d=>ac.out b d oA)))
        go_wp2_with first
         | (at_builtin;refine wpList_append_own _ rfl (.tmp 129) (.tmp 132) 41 rfl (p.heap.size+1) 9 b6 (I ⟨#[]⟩) 1 16 underlying41 hi b0 b1 b2 rfl oC _ _ _ rfl (ag.own.alloc _) (A wr.heap.size 0 F) 1 1 [I s0] rfl rfl (zit _ _ _ oB) (zhz _) (by unfold maxLen;omega) oA (by have:=ag.lt;simp;omega) ?_;intro bE bN aI aF bq)
         | go_in
        go_roundw
        case rel=>exact⟨e+1,oA,oJ,by rw[ad.out,<- jt];exact(ag.next (dU _)).put aF aI,fun b d ay=>by
         rcases jL b e with z | z
         ·exact a2.out b d z
         ·have:b=e:=oA;subst this
          exact W.out⟩
        case measure=>simp[intOf];omega
    ·rw[jG oA]at g;have av:Hid (j=vU [] (c.map (·.name)++ps.map (·.name))):=by show _=_;rw[au.out,bL (fun b d=>a2.out b d oA)];rfl
     have bm:(c.map (·.name)++ps.map (·.name)).length<=20:=oE
     clear au a2 aX;generalize c.map (·.name)++ps.map (·.name)=f at av g bm
     have aT:=g.own;obtain⟨be,t,rfl,c8,c7,_⟩:=zke aT;clear aT;go_wp2;go_loopw [9] (fun s am=>∃a:Nat,a<=f.length/\s=U O a/\RInv p am M (J N c.length P) (J S ps.length T) (J be f.length t) f/\Hid (∀b (d:b<f.length),b<a->(kE f[b]&&!kH ([]++f.take b) f[b])=H)) (fun s _=>f.length - (intOf s).toNat)
     case atStart=>exact⟨0,jz _,rfl,g,fun b _ d=>oA⟩
     case round =>
      clear g ba;obtain⟨a,ap,rfl,g,ac⟩:=hrel;by_cases C:a<f.length
      ·obtain⟨_,_,i,_,_,aV⟩:=zke g.own;cases i;obtain⟨m,rfl,ao⟩:=aV (by intro i;rw[i]at C;simp at C);clear aV;have a8:=ao a C
       have ab:Hid (∀k,Below wr.drew.heap.size wr.drew k->k.cell? (A m a F)=Z (I f[a])/\RInv p k M (J N c.length P) (J S ps.length T) (J (Z (A m 0 F)) f.length t) f/\uU k (J (Z (A m 0 F)) a t) (f.take a)):=fun k q=>by
        have aD:Below wr.heap.size wr k:=⟨q.os,q.tape,q.output,q.size,q.block⟩
        exact⟨keep (ao a C) aD,g.next aD,zu0 (ji C) oA (fun b hi=>keep (ao b hi) aD)⟩
       have aM:Hid ((kE f[a]&&!kH (f.take a) f[a])=X->j=X):=fun d=>av.out.trans (ziq a C (by simpa using d))
       have bc:Hid ((kE f[a]&&!kH (f.take a) f[a])=H->(kE f[a]&&!kH ([]++f.take a) f[a])=H):=fun d=>by simpa using d
       clear ao;have w:=rName f[a] wr.drew;have a3:=fun k (d:uU k (J (Z (A m 0 F)) a t) (f.take a))=>rPlace (f.take a) f[a] _ k d
       have c9:(a:Int)<=t:=oA;cases y:kE f[a]
       ·have l:Hid (j=X):=aM.out (by rw[y];rfl);rw[y]at w;generalize f[a]=aK at a8 w;clear a3 ab;go_wp2;refine wp_region_any oD ?_;change wpAny _ _ _ _ _ _ _ (World.drew _);refine tkQ 0 (J (Z (A m 0 F)) f.length t) ?_;go_simp;refine tkQ 1 (U O (a:Int)) ?_;go_simp;refine tkQ 2 (Zp (Z (A m a F))) ?_;go_simp;refine one0 3 fun o h=>?_
        go_simp;refine h _ _ ?_;clear h o;refine one0 4 fun o h=>?_
        go_simp;go_at_call 24;refine w.mono ?_;rintro i k ⟨rfl,q⟩;go_simp;refine h _ _ ?_;clear h o;refine tkQ 5 (Y H) ?_;go_simp;refine tkQ 6 (Y H) ?_;go_simp;refine tk0 (i:=7) (v:=undef) rfl (Or.inr ⟨oI,rfl⟩) ?_;go_simp;refine tk0 (i:=8) (v:=undef) rfl (Or.inr ⟨oI,rfl⟩) ?_;go_simp;refine tk0 (i:=9) (v:=undef) rfl (Or.inr ⟨oI,rfl⟩) ?_;go_simp;refine tk0 (i:=10) (v:=undef) rfl (Or.inr ⟨oI,rfl⟩) ?_;go_simp;refine tk0 (i:=11) (v:=undef) rfl (Or.inr ⟨oI,rfl⟩) ?_;go_simp;refine tk0 (i:=12) (v:=undef) rfl (Or.inr ⟨oI,rfl⟩) ?_;go_simp;refine tk0 (i:=13) (v:=undef) rfl (Or.inr ⟨oI,rfl⟩) ?_;go_simp;refine tk0 (i:=14) (v:=undef) rfl (Or.inr ⟨oI,rfl⟩) ?_;go_simp;refine tk0 (i:=15) (v:=undef) rfl (Or.inr ⟨oI,rfl⟩) ?_;go_simp;refine tkQ 16 (Y H) ?_;go_simp;refine wpAny_done oD ?_ _;go_wp2;go_ret;exact⟨vL l.out.symm,(g.next ⟨q.os,q.tape,q.output,q.size,q.block⟩).below⟩
       ·rw[y]at w;cases u:kH (f.take a) f[a]
        ·have W:Hid ((kE f[a]&&!kH ([]++f.take a) f[a])=H):=bc.out (by rw[y,u];rfl);rw[u]at a3;generalize f[a]=aK at a8 w a3 ab;go_wp2;refine wp_region_any oD ?_;change wpAny _ _ _ _ _ _ _ (World.drew _);refine tkQ 0 (J (Z (A m 0 F)) f.length t) ?_;go_simp;refine tkQ 1 (U O (a:Int)) ?_;go_simp;refine tkQ 2 (Zp (Z (A m a F))) ?_;go_simp;refine one0 3 fun o h=>?_
         go_simp;refine h _ _ ?_;clear h o;refine one0 4 fun o h=>?_
         go_simp;go_at_call 24;refine w.mono ?_;rintro i k ⟨rfl,q⟩;go_simp;refine h _ _ ?_;clear h o;obtain⟨a9,aA,aB⟩:=ab.out k q;refine tkQ 5 (Y X) ?_;go_simp;refine tkQ 6 (Y X) ?_;go_simp;refine tkQ 7 (J (Z (A m 0 F)) f.length t) ?_;go_simp;refine tkQ 8 (U O (a:Int)) ?_;go_simp;refine tkQ 9 (J (Z (A m 0 F)) a t) ?_;go_simp;refine tkQ 10 (J (Z (A m 0 F)) f.length t) ?_;go_simp;refine tkQ 11 (U O (a:Int)) ?_;go_simp;refine tkQ 12 (Zp (Z (A m a F))) ?_;go_simp;refine one0 13 fun o h=>?_
         go_simp;refine h _ _ ?_;clear h o;refine one0 14 fun o h=>?_
         go_simp;go_at_call 26;refine(a3 _ aB).mono ?_;rintro i bH ⟨⟨bv,rfl,aH⟩,aJ⟩;obtain rfl:=aJ.symm;simp only[jl,decide_eq_false_iff_not]at aH;go_simp;refine h _ _ ?_;clear h o;refine tkQ 15 (Y X) ?_;go_simp;refine tkQ 16 (Y X) ?_;go_simp;refine wpAny_done oD ?_ _;go_wp2;go_roundw
         case rel=>exact⟨a+1,oA,oJ,aA,fun b d ay=>by
          rcases jL b a with z | z
          ·exact ac.out b d z
          ·have:b=a:=oA;subst this
           exact W.out⟩
         case measure=>simp[intOf];omega
        ·have l:Hid (j=X):=aM.out (by rw[y,u];rfl);rw[u]at a3;generalize f[a]=aK at a8 w a3 ab;go_wp2;refine wp_region_any oD ?_;change wpAny _ _ _ _ _ _ _ (World.drew _);refine tkQ 0 (J (Z (A m 0 F)) f.length t) ?_;go_simp;refine tkQ 1 (U O (a:Int)) ?_;go_simp;refine tkQ 2 (Zp (Z (A m a F))) ?_;go_simp;refine one0 3 fun o h=>?_
         go_simp;refine h _ _ ?_;clear h o;refine one0 4 fun o h=>?_
         go_simp;go_at_call 24;refine w.mono ?_;rintro i k ⟨rfl,q⟩;go_simp;refine h _ _ ?_;clear h o;obtain⟨a9,aA,aB⟩:=ab.out k q;refine tkQ 5 (Y X) ?_;go_simp;refine tkQ 6 (Y X) ?_;go_simp;refine tkQ 7 (J (Z (A m 0 F)) f.length t) ?_;go_simp;refine tkQ 8 (U O (a:Int)) ?_;go_simp;refine tkQ 9 (J (Z (A m 0 F)) a t) ?_;go_simp;refine tkQ 10 (J (Z (A m 0 F)) f.length t) ?_;go_simp;refine tkQ 11 (U O (a:Int)) ?_;go_simp;refine tkQ 12 (Zp (Z (A m a F))) ?_;go_simp;refine one0 13 fun o h=>?_
         go_simp;refine h _ _ ?_;clear h o;refine one0 14 fun o h=>?_
         go_simp;go_at_call 26;refine(a3 _ aB).mono ?_;rintro i bH ⟨⟨bv,rfl,aH⟩,aJ⟩;obtain rfl:=aJ.symm;simp only[jl,decide_eq_false_iff_not]at aH;go_simp;refine h _ _ ?_;clear h o;refine tkQ 15 (Y H) ?_;go_simp;refine tkQ 16 (Y H) ?_;go_simp;refine wpAny_done oD ?_ _;go_wp2;go_ret;exact⟨vL l.out.symm,aA.below⟩
      ·have l:Hid (j=H):=av.out.trans (zh3 (fun b d=>ac.out b d oA));go_wp2;go_ret;exact⟨vL l.out.symm,g.below⟩
end face
end Go.Proofs.YtjkcecppnmlhjaaGreatDoor
