/- What show's New answers: a contract. -/
import Derived.Test.YtbjppepjmcfkaaaGreatDoorTQr
import Derived.Test.YtbjppepjmcfkaaaGreatDoorTQ08
open Go.Proofs.Tryz
open Go.Value renaming int → U, string → I, slice → J, bool → Y, agg → Za
open Go.IntKind renaming i64 → O
open Go.Obj renaming cells → Zc
open Go.Addr renaming mk → A
open Option renaming none → F, some → Z
open Bool renaming false → X, true → H
open Go renaming World → Zw, Value → Zv
set_option maxHeartbeats 4000000
set_option linter.unusedVariables false
set_option linter.unusedSimpArgs false
set_option maxRecDepth 100000
namespace Go.Proofs.YtbjppepjmcfkaaaGreatDoor
theorem zcr {f:Prop} (j:f:=by
 go_ret
 exact⟨dU h.out.symm,z.trans (b.mono oC)⟩):f:=j
theorem zp0 {f:Prop} (j:f:=by
 go_wp2_with (go_at_call 34;refine s.mono ?_;rw[i];rintro e c ⟨rfl,b⟩;have K:c.cell? (A a.heap.size 1 F)=Z (Y X):=yN b 1)
 exact zcr):f:=j
theorem zp1 {f:Prop} (j:f:=by
 go_wp2_with (go_at_call 34;refine s.mono ?_;rw[i];rintro e c ⟨rfl,b⟩)
 exact zcr):f:=j
theorem zhs {f:Prop} (j:f:=by
 show _=_;rw[a3.out,D,a6];rfl):f:=j
theorem zhr {f:Prop} (j:f:=by
 go_wp2_with (go_at_call 70;refine(bV _ _).mono ?_;(first | rw[D] | rw[a6]);rintro e C ⟨rfl,l⟩;obtain rfl:=l.symm);go_ret
 exact⟨dU h.out.symm,M⟩):f:=j
theorem zpz {ao:Prop} (f:ao:=by
 go_enter func15,ntmps15;go_wp2_with (go_at_call 34;refine ae.mono ?_;rw[B];rintro g n ⟨rfl,p⟩);go_ret
 exact⟨dU r.out.symm,ad.trans (p.mono oC)⟩):ao:=f
theorem zcc {e:Prop} (j:e:=by
 repeat (first | exact Below.refl _ _ | refine Below.setCell ?_ (jE _) _ | refine Below.alloc ?_ (jE _) _)):e:=j
theorem zcb {e:Prop} (j:e:=by
 simp[results,f29,go_sem,bO,zac,l]):e:=j
namespace face
open Go.RowKit
open lexs (qS)
open syn (kO eqS)
theorem bV (a:Int) (b:Zw):Calls prog 70 #[U O a] b fun c d=>c=.returned (Y (yH a))/\d=b:=by
 unfold yH;cases e:(a==0)
 ·cases f:(a==1)
  all_goals
   go_enter func70,ntmps70;go_wp2;go_ret;exact⟨rfl,rfl⟩
 ·go_enter func70,ntmps70;go_wp2;go_ret;exact⟨rfl,rfl⟩
theorem qS.below {a b:Zw} (c:qS a) (d:Below a.heap.size a b):qS b:=by
 obtain⟨v,e,f⟩:=c;exact⟨v,keep e d,f⟩
theorem yN {a e:Zw} {b:Array Zv} {d:TypeId} (f:Below (a.alloc (Zc b d)).heap.size (a.alloc (Zc b d)) e) (c:Nat):e.cell? (A a.heap.size c F)=b[c]?:=by
 rw[f.cell (p:=(A a.heap.size c F)) oC];simp
theorem zz1 (v:VarD) (a:Zw) (V:qS a) : Calls prog 35 #[qE v] a fun e a2=>e=.returned (Y (gP v))/\Below a.heap.size a a2:=by
 have ah:prog.cellsOf 87=4:=cell4;obtain⟨o,f,x,r⟩:=v;unfold qE;have z:=(Below.refl a.heap.size a).alloc (jE _) (Zc #[I o,Y f,U O x,U O r] 87);have s:=zim o _ (qS.below V z);obtain⟨d,w⟩:∃d,d=gP ⟨o,f,x,r⟩:=⟨_,rfl⟩
 rw[<- w];have m:Hid (d=(kO o&&(f&&(yH x&&(decide (0<=r)&&decide (r<=64)))))):=w;clear w;cases i:kO o
 case false =>
  have h:Hid (d=X):=by show _=_;rw[m.out,i];rfl
  go_enter func35,ntmps35;exact zp1
 cases G:f
 case false =>
  subst G;have h:Hid (d=X):=by show _=_;rw[m.out,i];rfl
  go_enter func35,ntmps35;exact zp0
 subst G;cases t:yH x
 case false =>
  have h:Hid (d=X):=by show _=_;rw[m.out,i,t];rfl
  go_enter func35,ntmps35
  go_wp2_with first
   | (go_at_call 34;refine s.mono ?_;rw[i];rintro e c ⟨rfl,b⟩;have K:c.cell? (A a.heap.size 1 F)=Z (Y H):=yN b 1;have P:c.cell? (A a.heap.size 2 F)=Z (U O x):=yN b 2)
   | (go_at_call 70;refine(bV _ _).mono ?_;rw[t];rintro e C ⟨rfl,l⟩;obtain rfl:=l.symm)
  exact zcr
 by_cases a5:0<=r
 ·by_cases ac:r<=64
  all_goals
   have h:Hid (d=decide (r<=64)):=by show _=_;rw[m.out,i,t,decide_eq_true a5];rfl
   go_enter func35,ntmps35
   go_wp2_with first
    | (go_at_call 34;refine s.mono ?_;rw[i];rintro e c ⟨rfl,b⟩;have K:c.cell? (A a.heap.size 1 F)=Z (Y H):=yN b 1;have P:c.cell? (A a.heap.size 2 F)=Z (U O x):=yN b 2;have a9:c.cell? (A a.heap.size 3 F)=Z (U O r):=yN b 3)
    | (go_at_call 70;refine(bV _ _).mono ?_;rw[t];rintro e C ⟨rfl,l⟩;obtain rfl:=l.symm)
   go_ret;exact⟨dU (by rw[h.out]<;>simp[ac]),z.trans (b.mono oC)⟩
 ·have h:Hid (d=X):=by show _=_;rw[m.out,i,t,decide_eq_false a5];rfl
  go_enter func35,ntmps35
  go_wp2_with first
   | (go_at_call 34;refine s.mono ?_;rw[i];rintro e c ⟨rfl,b⟩;have K:c.cell? (A a.heap.size 1 F)=Z (Y H):=yN b 1;have P:c.cell? (A a.heap.size 2 F)=Z (U O x):=yN b 2;have a9:c.cell? (A a.heap.size 3 F)=Z (U O r):=yN b 3)
   | (go_at_call 70;refine(bV _ _).mono ?_;rw[t];rintro e C ⟨rfl,l⟩;obtain rfl:=l.symm)
  exact zcr
/-! slices.Equal of numbers -/
theorem zx9 (v:ProcD) (aa:Zv) (a:Zw) (V:qS a) (ae:IntsIn a aa v.params) : Calls prog 36 #[zN v aa] a fun e a2=>e=.returned (Y (gB v))/\Below a.heap.size a a2:=by
 have ai:prog.cellsOf 91=6:=dP;obtain⟨o,L,ps,y,u,n⟩:=v;unfold zN;obtain⟨S,T,rfl,t,a8⟩:=ae;simp only at t a8 |-;have z:=(Below.refl a.heap.size a).alloc (jE _) (Zc #[I o,Y L,J S ps.length T,U O y,Y u,U O n] 91);have s:=zim o _ (qS.below V z);obtain⟨d,w⟩:∃d,d=gB ⟨o,L,ps,y,u,n⟩:=⟨_,rfl⟩
 rw[<- w];have m:Hid (d=(kO o&&(L&&(decide (ps.length<=5)&&(ps.all yH&&(yH y&&(yH n&&(u||n==0)))))))):=w;clear w;cases i:kO o
 case false =>
  have h:Hid (d=X):=by show _=_;rw[m.out,i];rfl
  go_enter func36,ntmps36;exact zp1
 cases G:L
 case false =>
  subst G;have h:Hid (d=X):=by show _=_;rw[m.out,i];rfl
  go_enter func36,ntmps36;exact zp0
 subst G;by_cases a7:ps.length<=5
 case neg =>
  have h:Hid (d=X):=by show _=_;rw[m.out,i,decide_eq_false a7];rfl
  go_enter func36,ntmps36;go_wp2_with (go_at_call 34;refine s.mono ?_;rw[i];rintro e c ⟨rfl,b⟩;have K:c.cell? (A a.heap.size 1 F)=Z (Y H):=yN b 1;have P:c.cell? (A a.heap.size 2 F)=Z (J S ps.length T):=yN b 2);exact zcr
 have R:Hid (d=(ps.all yH&&(yH y&&(yH n&&(u||n==0))))):=by show _=_;rw[m.out,i,decide_eq_true a7];rfl
 clear m;go_enter func36,ntmps36;go_wp2_with (go_at_call 34;refine s.mono ?_;rw[i];rintro e c ⟨rfl,b⟩;have K:c.cell? (A a.heap.size 1 F)=Z (Y H):=yN b 1;have P:c.cell? (A a.heap.size 2 F)=Z (J S ps.length T):=yN b 2);have a9:c.cell? (A a.heap.size 3 F)=Z (U O y):=yN b 3;have am:c.cell? (A a.heap.size 4 F)=Z (Y u):=yN b 4;have an:c.cell? (A a.heap.size 5 F)=Z (U O n):=yN b 5;have M:Below a.heap.size a c:=z.trans (b.mono oC);go_loopw [23] (fun W af=>∃k:Nat,k<=ps.length/\W=U O k/\af=c/\Hid (∀p (j:p<ps.length),p<k->yH ps[p]=H)) (fun W _=>ps.length - (intOf W).toNat)
 case atStart=>exact⟨0,jz _,rfl,rfl,fun p _ j=>oA⟩
 case round =>
  obtain⟨k,aj,rfl,rfl,Q⟩:=hrel;by_cases N:k<ps.length
  ·obtain⟨g,ak,rfl,ad⟩:=a8 (by intro e;rw[e]at N;simp at N);have q:=keep (ad k N) M;cases B:yH ps[k]
   ·have h:Hid (d=X):=by show _=_;rw[R.out,zh0 k N B];rfl
    generalize ps[k]=ag at B q;go_wp2_with (go_at_call 70;refine(bV _ _).mono ?_;rw[B];rintro e C ⟨rfl,l⟩;obtain rfl:=l.symm);go_ret;exact⟨dU h.out.symm,M⟩
   ·have ab:Hid (yH ps[k]=H):=B;generalize ps[k]=ag at B q;go_wp2_with (go_at_call 70;refine(bV _ _).mono ?_;rw[B];rintro e C ⟨rfl,l⟩;obtain rfl:=l.symm);go_roundw
    case rel=>exact⟨k+1,oA,oM,trivial,fun p j D=>by
     rcases jM p k with E | E
     ·exact Q.out p j E
     ·have:p=k:=oA;subst this
      exact ab.out⟩
    case measure=>simp[intOf];omega
  ·have a3:Hid (d=(yH y&&(yH n&&(u||n==0)))):=by show _=_;rw[R.out,zg3 (fun p j=>Q.out p j oA)];rfl
   clear R Q;cases D:yH y
   ·have h:Hid (d=X):=by show _=_;rw[a3.out,D];rfl
    go_wp2_with (go_at_call 70;refine(bV _ _).mono ?_;rw[D];rintro e C ⟨rfl,l⟩;obtain rfl:=l.symm);go_ret;exact⟨dU h.out.symm,M⟩
   cases a6:yH n;·have h:Hid (d=X):=zhs;exact zhr
   cases E:u;·subst E;have h:Hid (d=(n==0)):=zhs;exact zhr
   ·subst E;have h:Hid (d=H):=zhs;exact zhr
end face
namespace face
open Go.RowKit Go.Maps Go.WideMaps
open lexs (qS)
open syn (kO eqS)
structure Inv (w wr:Zw) (B:Nat) (x:ByteArray) (vv pv:Zv) (l:List ByteArray):Prop where
 below:Below w.heap.size w wr
 c0:wr.cell? (A w.heap.size 0 F)=Z (I x)
 c1:wr.cell? (A w.heap.size 1 F)=Z vv
 c2:wr.cell? (A w.heap.size 2 F)=Z pv
 lt:w.heap.size<B
 own:wr.ownsMap prog 9 (unitElem (H:=Unit)) B l.length (setD l)
theorem Inv.next {g wr h:Zw} {c:Nat} {i:ByteArray} {f e:Zv} {d:List ByteArray} (a:Inv g wr c i f e d) (b:Below wr.heap.size wr h):Inv g h c i f e d :=
 ⟨a.below.trans (b.mono a.below.size),keep a.c0 b,keep a.c1 b,keep a.c2 b,a.lt,a.own.kept (grown_of_below b) oC⟩
theorem Inv.put {f wr g:Zw} {b:Nat} {x j:ByteArray} {i h:Zv} {d:List ByteArray} (a:Inv f wr b x i h d) (c:wr.grownBy g (Z b)) (l:g.ownsMap prog 9 (unitElem (H:=Unit)) b (d.length+1) ((setD d).put (qM j) (.agg []))) : Inv f g b x i h (d++[j]):=by
 have e:Z f.heap.size≠Z b:=by have:=a.lt;simp;omega
 refine⟨a.below.grown c a.below.size (fun m k=>?_),zft c a.c0 e,zft c a.c1 e,zft c a.c2 e,a.lt,?_⟩;·cases k;exact ji a.lt
 ·rw[zk0,jb];exact l
theorem zbw {a c:Zw} {b:Obj} (d:Below (a.alloc b).heap.size (a.alloc b) c):Below a.heap.size a c :=
 (bal b).trans (d.mono oC)
theorem zta {v:VarD} (a:gP v=H):kO v.name=H:=by
 unfold gP at a;simp only[jj]at a;exact a.1
theorem zsv {v:ProcD} (a:gB v=H):kO v.name=H:=by
 unfold gB at a;simp only[jj]at a;exact a.1
theorem zk3 {α β:Type} (c:α->β) (b:List α) (a:Nat) (d:a<b.length):(b.take (a+1)).map c=(b.take a).map c++[c b[a]]:=by
 rw[List.take_add_one,List.map_append,List.getElem?_eq_getElem d];rfl
theorem ydw (S:FaceD) (ap:Zv) (e:Zw) (aa:qS e) (aA:zP e ap S) : Calls prog 15 #[ap] e fun g aI=>g=.returned (Y (cU S))/\Below e.heap.size e aI:=by
 have aM:prog.cellsOf 55=3:=xW;have aN:prog.cellsOf 87=4:=cell4;have aO:prog.cellsOf 91=6:=dP;have aR:=@run_makeMap prog;obtain⟨aV,aS,rfl,aj,ai⟩:=aA;obtain⟨l,b,ps⟩:=S;simp only at aj ai |-;obtain⟨u,w,rfl,aP,af⟩:=aj;obtain⟨v,x,rfl,aQ,ag⟩:=ai;have ad:=(Below.refl e.heap.size e).alloc (jE _) (Zc #[I l,J u b.length w,J v ps.length x] 55);have ae:=zim l _ (qS.below aa ad);obtain⟨k,W⟩:∃k,k=cU ⟨l,b,ps⟩:=⟨_,rfl⟩
 rw[<- W];have N:Hid (k=(kO l&&(decide (b.length+ps.length<=20)&&(b.all gP&&(ps.all gB&&apartB [] (zn7 ⟨l,b,ps⟩)))))):=W;clear W;cases B:kO l
 case false =>
  have r:Hid (k=X):=by show _=_;rw[N.out,B];rfl
  exact zpz
 by_cases ac:b.length+ps.length<=20
 case neg =>
  have r:Hid (k=X):=by show _=_;rw[N.out,B,decide_eq_false ac];rfl
  have ax:20<(b.length:Int)+(ps.length:Int):=oA;have aB:wrap64 ((b.length:Int)+(ps.length:Int))=(b.length:Int)+(ps.length:Int):=by unfold wrap64;omega
  exact zpz
 have R:Hid (k=(b.all gP&&(ps.all gB&&apartB [] (b.map (·.name)++ps.map (·.name))))):=by show _=_;rw[N.out,B,decide_eq_true ac];rfl
 clear N;have ax:(b.length:Int)+(ps.length:Int)<=20:=oA;have aB:wrap64 ((b.length:Int)+(ps.length:Int))=(b.length:Int)+(ps.length:Int):=by unfold wrap64;omega
 go_enter func15,ntmps15;go_wp2_with (go_at_call 34;refine ae.mono ?_;rw[B];rintro g n ⟨rfl,p⟩;have K:n.cell? (A e.heap.size 0 F)=Z (I l):=yN p 0;have L:n.cell? (A e.heap.size 1 F)=Z (J u b.length w):=yN p 1;have s:n.cell? (A e.heap.size 2 F)=Z (J v ps.length x):=yN p 2;have aH:=fun aE=>zI L aE);have a2:Below e.heap.size e n:=zbw p;have ah:e.heap.size<n.heap.size:=jS _ _ K
 have V:Inv e (n.alloc (.map #[] 0)) n.heap.size l (J u b.length w) (J v ps.length x) ((b.take 0).map (·.name)) :=
  ⟨a2.alloc a2.size _,zI K _,zI L _,zI s _,ah,World.ownsMap_made _ _ _ _⟩
 generalize n.heap.size=t at V ah |-;go_loopw [28] (fun q wr=>∃a:Nat,a<=b.length/\q=U O a/\Inv e wr t l (J u b.length w) (J v ps.length x) ((b.take a).map (·.name))/\Hid (∀d (f:d<b.length),d<a->gP b[d]=H)) (fun q _=>b.length - (intOf q).toNat)
 case atStart=>exact⟨0,jz _,rfl,V,fun d _ f=>oA⟩
 case round =>
  obtain⟨a,az,rfl,c,o⟩:=hrel;clear V K L s aH p a2;by_cases j:a<b.length
  ·obtain⟨av,aD,rfl,a3⟩:=af (by intro g;rw[g]at j;simp at j);obtain⟨C,D,E,G⟩:=a3 a j;have K:=keep C c.below;have L:=keep D c.below;have s:=keep E c.below;have aF:=keep G c.below;clear C D E G;have h:=zz1 b[a] (wr.alloc (Zc #[I b[a].name,Y b[a].pub,U O b[a].label,U O b[a].size] 87)) (qS.below (qS.below aa c.below) (bal _));unfold qE at h;cases i:gP b[a]
   ·have r:Hid (k=X):=by show _=_;rw[R.out,zh0 a j i];rfl
    rw[i]at h;go_wp2_with (go_at_call 35;refine h.mono ?_;rintro g M ⟨rfl,m⟩);go_ret;exact⟨dU r.out.symm,(c.next (zbw m)).below⟩
   ·have Q:Hid (gP b[a]=H):=i;rw[i]at h;have a6:=zlr (zta i);have a7:((b.take a).map (·.name)).length<maxLen:=by unfold maxLen;simp;omega
    go_wp2_with first
     | (go_at_call 35;refine h.mono ?_;rintro g M ⟨rfl,m⟩;have z:=c.next (zbw m);have aG:M.cell? (A wr.heap.size 0 F)=Z (I b[a].name):=yN m 0)
     | (at_mapUpdate;refine wpList_mapUpdate_own _ rfl _ _ _ 85 rfl 9 89 vE underlying85 (unitElem (H:=Unit)) t _ _ rfl z.own a7 _ _ _ rfl rfl a6 _ [] unitElem_mk ?_;intro aJ a9 a5)
     | go_in
    go_roundw
    case rel=>exact⟨a+1,oA,oM,by rw[zk3 _ _ _ j];exact z.put a5 a9,fun d f aw=>by
     rcases jM d a with y | y
     ·exact o.out d f y
     ·have:d=a:=oA;subst this
      exact Q.out⟩
    case measure=>simp[intOf];omega
  ·have P:Hid (k=(ps.all gB&&apartB [] (b.map (·.name)++ps.map (·.name)))):=by show _=_;rw[R.out,zg3 (fun d f=>o.out d f oA)];rfl
   clear R o af;rw[jG oA]at c;have s:=c.c2;go_wp2;go_loopw [43] (fun q wr=>∃a:Nat,a<=ps.length/\q=U O a/\Inv e wr t l (J u b.length w) (J v ps.length x) (b.map (·.name)++(ps.take a).map (·.name))/\Hid (∀d (f:d<ps.length),d<a->gB ps[d]=H)) (fun q _=>ps.length - (intOf q).toNat)
   case atStart=>exact⟨0,jz _,rfl,by simpa using c,fun d _ f=>oA⟩
   case round =>
    clear c s;obtain⟨a,az,rfl,c,o⟩:=hrel;by_cases j:a<ps.length
    ·obtain⟨av,aD,rfl,a3⟩:=ag (by intro g;rw[g]at j;simp at j);obtain⟨C,D,⟨aW,E,ak⟩,G,am,an⟩:=a3 a j;have aC:=ak;obtain⟨ar,au,rfl,_,_⟩:=aC;have K:=keep C c.below;have L:=keep D c.below;have s:=keep E c.below;have aF:=keep G c.below;have aT:=keep am c.below;have aU:=keep an c.below;clear C D E G am an;have T:=(Below.refl wr.heap.size wr).alloc (jE _) (Zc #[I ps[a].name,Y ps[a].pub,J ar ps[a].params.length au,U O ps[a].writes,Y ps[a].gives,U O ps[a].given] 91);have h:=zx9 ps[a] _ _ (qS.below (qS.below aa c.below) T) ((ak.below c.below).below T);clear T;unfold zN at h;cases i:gB ps[a]
     ·have r:Hid (k=X):=by show _=_;rw[P.out,zh0 a j i];rfl
      rw[i]at h;go_wp2_with (go_at_call 36;refine h.mono ?_;rintro g M ⟨rfl,m⟩);go_ret;exact⟨dU r.out.symm,(c.next (zbw m)).below⟩
     ·have Q:Hid (gB ps[a]=H):=i;rw[i]at h;have a6:=zlr (zsv i);have a7:(b.map (·.name)++(ps.take a).map (·.name)).length<maxLen:=by unfold maxLen;simp;omega
      go_wp2_with first
       | (go_at_call 36;refine h.mono ?_;rintro g M ⟨rfl,m⟩;have z:=c.next (zbw m);have aG:M.cell? (A wr.heap.size 0 F)=Z (I ps[a].name):=yN m 0)
       | (at_mapUpdate;refine wpList_mapUpdate_own _ rfl _ _ _ 85 rfl 9 89 vE underlying85 (unitElem (H:=Unit)) t _ _ rfl z.own a7 _ _ _ rfl rfl a6 _ [] unitElem_mk ?_;intro aJ a9 a5)
       | go_in
      go_roundw
      case rel=>exact⟨a+1,oA,oM,by rw[zk3 _ _ _ j,<- jt];exact z.put a5 a9,fun d f aw=>by
       rcases jM d a with y | y
       ·exact o.out d f y
       ·have:d=a:=oA;subst this
        exact Q.out⟩
      case measure=>simp[intOf];omega
    ·rw[jG oA]at c
     have ab:Hid (k=((Maps.size (setD (b.map (·.name)++ps.map (·.name))):Int)==(b.length:Int)+(ps.length:Int))):=by
      show _=_;rw[P.out,zg3 (fun d f=>o.out d f oA),<- zkz];simp only[jb,List.length_map,Bool.true_and];rw[Bool.eq_iff_iff];simp only[beq_iff_eq];omega
     have a8:=c.own;have ay:=c.below;clear o P c ag;generalize (b.map (·.name)++ps.map (·.name)).length=aL at a8
     generalize setD (b.map (·.name)++ps.map (·.name))=aK at a8 ab
     go_wp2_with first
      | (at_len;refine wpList_len_own _ rfl _ 85 rfl 9 89 underlying85 (unitElem (H:=Unit)) t _ _ rfl a8 ?_)
      | go_in
     go_ret;exact⟨dU ab.out.symm,ay⟩
end face
namespace mac
open Go.RowKit
def zac (a ih:Zv) (fuel:Int):Zv:=Za #[U O 0,J F 0 0,J F 0 0,U O 0,U O 0,U O 0,a,ih,U O fuel]
def bO:Zv:=zac (J F 0 0) (J F 0 0) 0
def zU (b a:Nat) (fuel m:Int):Int:=if fuel<0\/m<fuel then 6 else if 1000<b\/1000<a then 1 else 0
def dW (c ih:Zv) (b a:Nat) (fuel m:Int):Zv:=.tuple #[if zU b a fuel m=0 then zac c ih fuel else bO,U O (zU b a fuel m)]
theorem zit (f g:Option Addr) (b a i h:Nat) (c d:Int) (k:Zw) : Calls prog 29 #[J f b i,J g a h,U O c,U O d] k fun m t=>m=.returned (dW (J f b i) (J g a h) b a c d)/\Below k.heap.size k t:=by
 have u:=kc71;have l:=kc44;by_cases n:c<0;·skip;go_enter func29,ntmps29;go_wp2;refine jU (v:=.tuple #[bO,U O 6]) zcb rfl ?_;exact⟨by unfold dW;rw[show zU b a c d=6 by unfold zU;rw[jv (Or.inl n)] ];rfl,zcc⟩
 by_cases o:d<c;·skip;go_enter func29,ntmps29;go_wp2;refine jU (v:=.tuple #[bO,U O 6]) zcb rfl ?_;exact⟨by unfold dW;rw[show zU b a c d=6 by unfold zU;rw[jv (Or.inr o)] ];rfl,zcc⟩
 by_cases p:1000<b;·have q:(1000:Int)<(b:Int):=oA;go_enter func29,ntmps29;go_wp2;refine jU (v:=.tuple #[bO,U O 1]) zcb rfl ?_;exact⟨by unfold dW;rw[show zU b a c d=1 by unfold zU;rw[ju oA,jv (Or.inl p)] ];rfl,zcc⟩
 have q:¬(1000:Int)<(b:Int):=oA;by_cases r:1000<a;·have s:(1000:Int)<(a:Int):=oA;go_enter func29,ntmps29;go_wp2;refine jU (v:=.tuple #[bO,U O 1]) zcb rfl ?_;exact⟨by unfold dW;rw[show zU b a c d=1 by unfold zU;rw[ju oA,jv (Or.inr r)] ];rfl,zcc⟩
 have s:¬(1000:Int)<(a:Int):=oA;go_enter func29,ntmps29;go_wp2;refine jU (v:=.tuple #[zac (J f b i) (J g a h) c,U O 0]) zcb rfl ?_;exact⟨by unfold dW;rw[show zU b a c d=0 by unfold zU;rw[ju oA,ju oA] ];rfl,zcc⟩
end mac
end Go.Proofs.YtbjppepjmcfkaaaGreatDoor
