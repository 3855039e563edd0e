/- What show's New answers: a contract. -/
import Derived.Test.YtbjppepjmcfkaaaGreatDoorNQr
import Derived.Test.YtbjppepjmcfkaaaGreatDoorNQ08
open Go.Proofs.Tryz
open Go.Value renaming int → U, string → I, slice → J, bool → Y, agg → Za
open Go.IntKind renaming i64 → O
open Go.Obj renaming cells → Zc
open Go.Addr renaming mk → A
open Option renaming none → F, some → Z
open Bool renaming false → X, true → H
open Go renaming World → Zw, Value → Zv
set_option maxHeartbeats 4000000
set_option linter.unusedVariables false
set_option linter.unusedSimpArgs false
set_option maxRecDepth 100000
namespace Go.Proofs.YtbjppepjmcfkaaaGreatDoor
theorem zcl {f:Prop} (j:f:=by
 go_ret
 exact⟨dS h.out.symm,z.trans (b.mono oC)⟩):f:=j
theorem zpe {f:Prop} (j:f:=by
 go_wp2_with (go_at_call 34;refine s.mono ?_;rw[i];rintro e c ⟨rfl,b⟩;have K:c.cell? (A a.heap.size 1 F)=Z (Y X):=yL b 1)
 exact zcl):f:=j
theorem zpf {f:Prop} (j:f:=by
 go_wp2_with (go_at_call 34;refine s.mono ?_;rw[i];rintro e c ⟨rfl,b⟩)
 exact zcl):f:=j
theorem zhl {f:Prop} (j:f:=by
 show _=_;rw[a3.out,D,a6];rfl):f:=j
theorem zhk {f:Prop} (j:f:=by
 go_wp2_with (go_at_call 70;refine(bT _ _).mono ?_;(first | rw[D] | rw[a6]);rintro e C ⟨rfl,l⟩;obtain rfl:=l.symm);go_ret
 exact⟨dS h.out.symm,M⟩):f:=j
theorem zpd {ao:Prop} (f:ao:=by
 go_enter func15,ntmps15;go_wp2_with (go_at_call 34;refine ae.mono ?_;rw[B];rintro g n ⟨rfl,p⟩);go_ret
 exact⟨dS r.out.symm,ad.trans (p.mono oC)⟩):ao:=f
theorem zb4 {e:Prop} (j:e:=by
 repeat (first | exact Below.refl _ _ | refine Below.setCell ?_ (jE _) _ | refine Below.alloc ?_ (jE _) _)):e:=j
theorem zb3 {e:Prop} (j:e:=by
 simp[results,f29,go_sem,bK,bZ,l]):e:=j
namespace face
open Go.RowKit
open lexs (qQ)
open syn (kN eqS)
theorem bT (a:Int) (b:Zw):Calls prog 70 #[U O a] b fun c d=>c=.returned (Y (yE a))/\d=b:=by
 unfold yE;cases e:(a==0)
 ·cases f:(a==1)
  all_goals
   go_enter func70,ntmps70;go_wp2;go_ret;exact⟨rfl,rfl⟩
 ·go_enter func70,ntmps70;go_wp2;go_ret;exact⟨rfl,rfl⟩
theorem qQ.below {a b:Zw} (c:qQ a) (d:Below a.heap.size a b):qQ b:=by
 obtain⟨v,e,f⟩:=c;exact⟨v,keep e d,f⟩
theorem yL {a e:Zw} {b:Array Zv} {d:TypeId} (f:Below (a.alloc (Zc b d)).heap.size (a.alloc (Zc b d)) e) (c:Nat):e.cell? (A a.heap.size c F)=b[c]?:=by
 rw[f.cell (p:=(A a.heap.size c F)) oC];simp
theorem zzb (v:VarD) (a:Zw) (V:qQ a) : Calls prog 35 #[qD v] a fun e a2=>e=.returned (Y (gK v))/\Below a.heap.size a a2:=by
 have ah:prog.cellsOf 87=4:=cell4;obtain⟨o,f,x,r⟩:=v;unfold qD;have z:=(Below.refl a.heap.size a).alloc (jE _) (Zc #[I o,Y f,U O x,U O r] 87);have s:=zib o _ (qQ.below V z);obtain⟨d,w⟩:∃d,d=gK ⟨o,f,x,r⟩:=⟨_,rfl⟩
 rw[<- w];have m:Hid (d=(kN o&&(f&&(yE x&&(decide (0<=r)&&decide (r<=64)))))):=w;clear w;cases i:kN o
 case false =>
  have h:Hid (d=X):=by show _=_;rw[m.out,i];rfl
  go_enter func35,ntmps35;exact zpf
 cases G:f
 case false =>
  subst G;have h:Hid (d=X):=by show _=_;rw[m.out,i];rfl
  go_enter func35,ntmps35;exact zpe
 subst G;cases t:yE x
 case false =>
  have h:Hid (d=X):=by show _=_;rw[m.out,i,t];rfl
  go_enter func35,ntmps35
  go_wp2_with first
   | (go_at_call 34;refine s.mono ?_;rw[i];rintro e c ⟨rfl,b⟩;have K:c.cell? (A a.heap.size 1 F)=Z (Y H):=yL b 1;have P:c.cell? (A a.heap.size 2 F)=Z (U O x):=yL b 2)
   | (go_at_call 70;refine(bT _ _).mono ?_;rw[t];rintro e C ⟨rfl,l⟩;obtain rfl:=l.symm)
  exact zcl
 by_cases a5:0<=r
 ·by_cases ac:r<=64
  all_goals
   have h:Hid (d=decide (r<=64)):=by show _=_;rw[m.out,i,t,decide_eq_true a5];rfl
   go_enter func35,ntmps35
   go_wp2_with first
    | (go_at_call 34;refine s.mono ?_;rw[i];rintro e c ⟨rfl,b⟩;have K:c.cell? (A a.heap.size 1 F)=Z (Y H):=yL b 1;have P:c.cell? (A a.heap.size 2 F)=Z (U O x):=yL b 2;have a9:c.cell? (A a.heap.size 3 F)=Z (U O r):=yL b 3)
    | (go_at_call 70;refine(bT _ _).mono ?_;rw[t];rintro e C ⟨rfl,l⟩;obtain rfl:=l.symm)
   go_ret;exact⟨dS (by rw[h.out]<;>simp[ac]),z.trans (b.mono oC)⟩
 ·have h:Hid (d=X):=by show _=_;rw[m.out,i,t,decide_eq_false a5];rfl
  go_enter func35,ntmps35
  go_wp2_with first
   | (go_at_call 34;refine s.mono ?_;rw[i];rintro e c ⟨rfl,b⟩;have K:c.cell? (A a.heap.size 1 F)=Z (Y H):=yL b 1;have P:c.cell? (A a.heap.size 2 F)=Z (U O x):=yL b 2;have a9:c.cell? (A a.heap.size 3 F)=Z (U O r):=yL b 3)
   | (go_at_call 70;refine(bT _ _).mono ?_;rw[t];rintro e C ⟨rfl,l⟩;obtain rfl:=l.symm)
  exact zcl
/-! slices.Equal of numbers -/
theorem zxi (v:ProcD) (aa:Zv) (a:Zw) (V:qQ a) (ae:IntsIn a aa v.params) : Calls prog 36 #[zL v aa] a fun e a2=>e=.returned (Y (uX v))/\Below a.heap.size a a2:=by
 have ai:prog.cellsOf 91=6:=dN;obtain⟨o,L,ps,y,u,n⟩:=v;unfold zL;obtain⟨S,T,rfl,t,a8⟩:=ae;simp only at t a8 |-;have z:=(Below.refl a.heap.size a).alloc (jE _) (Zc #[I o,Y L,J S ps.length T,U O y,Y u,U O n] 91);have s:=zib o _ (qQ.below V z);obtain⟨d,w⟩:∃d,d=uX ⟨o,L,ps,y,u,n⟩:=⟨_,rfl⟩
 rw[<- w];have m:Hid (d=(kN o&&(L&&(decide (ps.length<=5)&&(ps.all yE&&(yE y&&(yE n&&(u||n==0)))))))):=w;clear w;cases i:kN o
 case false =>
  have h:Hid (d=X):=by show _=_;rw[m.out,i];rfl
  go_enter func36,ntmps36;exact zpf
 cases G:L
 case false =>
  subst G;have h:Hid (d=X):=by show _=_;rw[m.out,i];rfl
  go_enter func36,ntmps36;exact zpe
 subst G;by_cases a7:ps.length<=5
 case neg =>
  have h:Hid (d=X):=by show _=_;rw[m.out,i,decide_eq_false a7];rfl
  go_enter func36,ntmps36;go_wp2_with (go_at_call 34;refine s.mono ?_;rw[i];rintro e c ⟨rfl,b⟩;have K:c.cell? (A a.heap.size 1 F)=Z (Y H):=yL b 1;have P:c.cell? (A a.heap.size 2 F)=Z (J S ps.length T):=yL b 2);exact zcl
 have R:Hid (d=(ps.all yE&&(yE y&&(yE n&&(u||n==0))))):=by show _=_;rw[m.out,i,decide_eq_true a7];rfl
 clear m;go_enter func36,ntmps36;go_wp2_with (go_at_call 34;refine s.mono ?_;rw[i];rintro e c ⟨rfl,b⟩;have K:c.cell? (A a.heap.size 1 F)=Z (Y H):=yL b 1;have P:c.cell? (A a.heap.size 2 F)=Z (J S ps.length T):=yL b 2);have a9:c.cell? (A a.heap.size 3 F)=Z (U O y):=yL b 3;have am:c.cell? (A a.heap.size 4 F)=Z (Y u):=yL b 4;have an:c.cell? (A a.heap.size 5 F)=Z (U O n):=yL b 5;have M:Below a.heap.size a c:=z.trans (b.mono oC);go_loopw [23] (fun W af=>∃k:Nat,k<=ps.length/\W=U O k/\af=c/\Hid (∀p (j:p<ps.length),p<k->yE ps[p]=H)) (fun W _=>ps.length - (intOf W).toNat)
 case atStart=>exact⟨0,jz _,rfl,rfl,fun p _ j=>oA⟩
 case round =>
  obtain⟨k,aj,rfl,rfl,Q⟩:=hrel;by_cases N:k<ps.length
  ·obtain⟨g,ak,rfl,ad⟩:=a8 (by intro e;rw[e]at N;simp at N);have q:=keep (ad k N) M;cases B:yE ps[k]
   ·have h:Hid (d=X):=by show _=_;rw[R.out,zhs k N B];rfl
    generalize ps[k]=ag at B q;go_wp2_with (go_at_call 70;refine(bT _ _).mono ?_;rw[B];rintro e C ⟨rfl,l⟩;obtain rfl:=l.symm);go_ret;exact⟨dS h.out.symm,M⟩
   ·have ab:Hid (yE ps[k]=H):=B;generalize ps[k]=ag at B q;go_wp2_with (go_at_call 70;refine(bT _ _).mono ?_;rw[B];rintro e C ⟨rfl,l⟩;obtain rfl:=l.symm);go_roundw
    case rel=>exact⟨k+1,oA,oM,trivial,fun p j D=>by
     rcases jL p k with E | E
     ·exact Q.out p j E
     ·have:p=k:=oA;subst this
      exact ab.out⟩
    case measure=>simp[intOf];omega
  ·have a3:Hid (d=(yE y&&(yE n&&(u||n==0)))):=by show _=_;rw[R.out,zgs (fun p j=>Q.out p j oA)];rfl
   clear R Q;cases D:yE y
   ·have h:Hid (d=X):=by show _=_;rw[a3.out,D];rfl
    go_wp2_with (go_at_call 70;refine(bT _ _).mono ?_;rw[D];rintro e C ⟨rfl,l⟩;obtain rfl:=l.symm);go_ret;exact⟨dS h.out.symm,M⟩
   cases a6:yE n;·have h:Hid (d=X):=zhl;exact zhk
   cases E:u;·subst E;have h:Hid (d=(n==0)):=zhl;exact zhk
   ·subst E;have h:Hid (d=H):=zhl;exact zhk
end face
namespace face
open Go.RowKit Go.Maps Go.WideMaps
open lexs (qQ)
open syn (kN eqS)
structure Inv (w wr:Zw) (B:Nat) (x:ByteArray) (vv pv:Zv) (l:List ByteArray):Prop where
 below:Below w.heap.size w wr
 c0:wr.cell? (A w.heap.size 0 F)=Z (I x)
 c1:wr.cell? (A w.heap.size 1 F)=Z vv
 c2:wr.cell? (A w.heap.size 2 F)=Z pv
 lt:w.heap.size<B
 own:wr.ownsMap prog 9 (unitElem (H:=Unit)) B l.length (setD l)
theorem Inv.next {g wr h:Zw} {c:Nat} {i:ByteArray} {f e:Zv} {d:List ByteArray} (a:Inv g wr c i f e d) (b:Below wr.heap.size wr h):Inv g h c i f e d :=
 ⟨a.below.trans (b.mono a.below.size),keep a.c0 b,keep a.c1 b,keep a.c2 b,a.lt,a.own.kept (grown_of_below b) oC⟩
theorem Inv.put {f wr g:Zw} {b:Nat} {x j:ByteArray} {i h:Zv} {d:List ByteArray} (a:Inv f wr b x i h d) (c:wr.grownBy g (Z b)) (l:g.ownsMap prog 9 (unitElem (H:=Unit)) b (d.length+1) ((setD d).put (qK j) (.agg []))) : Inv f g b x i h (d++[j]):=by
 have e:Z f.heap.size≠Z b:=by have:=a.lt;simp;omega
 refine⟨a.below.grown c a.below.size (fun m k=>?_),zfh c a.c0 e,zfh c a.c1 e,zfh c a.c2 e,a.lt,?_⟩;·cases k;exact ji a.lt
 ·rw[zkm,jb];exact l
theorem zbq {a c:Zw} {b:Obj} (d:Below (a.alloc b).heap.size (a.alloc b) c):Below a.heap.size a c :=
 (bal b).trans (d.mono oC)
theorem zsq {v:VarD} (a:gK v=H):kN v.name=H:=by
 unfold gK at a;simp only[jj]at a;exact a.1
theorem zsb {v:ProcD} (a:uX v=H):kN v.name=H:=by
 unfold uX at a;simp only[jj]at a;exact a.1
theorem zko {α β:Type} (c:α->β) (b:List α) (a:Nat) (d:a<b.length):(b.take (a+1)).map c=(b.take a).map c++[c b[a]]:=by
 rw[List.take_add_one,List.map_append,List.getElem?_eq_getElem d];rfl
theorem yc3 (S:FaceD) (ap:Zv) (e:Zw) (aa:qQ e) (aA:zM e ap S) : Calls prog 15 #[ap] e fun g aI=>g=.returned (Y (cT S))/\Below e.heap.size e aI:=by
 have aM:prog.cellsOf 55=3:=xO;have aN:prog.cellsOf 87=4:=cell4;have aO:prog.cellsOf 91=6:=dN;have aR:=@run_makeMap prog;obtain⟨aV,aS,rfl,aj,ai⟩:=aA;obtain⟨l,b,ps⟩:=S;simp only at aj ai |-;obtain⟨u,w,rfl,aP,af⟩:=aj;obtain⟨v,x,rfl,aQ,ag⟩:=ai;have ad:=(Below.refl e.heap.size e).alloc (jE _) (Zc #[I l,J u b.length w,J v ps.length x] 55);have ae:=zib l _ (qQ.below aa ad);obtain⟨k,W⟩:∃k,k=cT ⟨l,b,ps⟩:=⟨_,rfl⟩
 rw[<- W];have N:Hid (k=(kN l&&(decide (b.length+ps.length<=20)&&(b.all gK&&(ps.all uX&&apartB [] (znl ⟨l,b,ps⟩)))))):=W;clear W;cases B:kN l
 case false =>
  have r:Hid (k=X):=by show _=_;rw[N.out,B];rfl
  exact zpd
 by_cases ac:b.length+ps.length<=20
 case neg =>
  have r:Hid (k=X):=by show _=_;rw[N.out,B,decide_eq_false ac];rfl
  have ax:20<(b.length:Int)+(ps.length:Int):=oA;have aB:wrap64 ((b.length:Int)+(ps.length:Int))=(b.length:Int)+(ps.length:Int):=by unfold wrap64;omega
  exact zpd
 have R:Hid (k=(b.all gK&&(ps.all uX&&apartB [] (b.map (·.name)++ps.map (·.name))))):=by show _=_;rw[N.out,B,decide_eq_true ac];rfl
 clear N;have ax:(b.length:Int)+(ps.length:Int)<=20:=oA;have aB:wrap64 ((b.length:Int)+(ps.length:Int))=(b.length:Int)+(ps.length:Int):=by unfold wrap64;omega
 go_enter func15,ntmps15;go_wp2_with (go_at_call 34;refine ae.mono ?_;rw[B];rintro g n ⟨rfl,p⟩;have K:n.cell? (A e.heap.size 0 F)=Z (I l):=yL p 0;have L:n.cell? (A e.heap.size 1 F)=Z (J u b.length w):=yL p 1;have s:n.cell? (A e.heap.size 2 F)=Z (J v ps.length x):=yL p 2;have aH:=fun aE=>zG L aE);have a2:Below e.heap.size e n:=zbq p;have ah:e.heap.size<n.heap.size:=jR _ _ K
 have V:Inv e (n.alloc (.map #[] 0)) n.heap.size l (J u b.length w) (J v ps.length x) ((b.take 0).map (·.name)) :=
  ⟨a2.alloc a2.size _,zG K _,zG L _,zG s _,ah,World.ownsMap_made _ _ _ _⟩
 generalize n.heap.size=t at V ah |-;go_loopw [28] (fun q wr=>∃a:Nat,a<=b.length/\q=U O a/\Inv e wr t l (J u b.length w) (J v ps.length x) ((b.take a).map (·.name))/\Hid (∀d (f:d<b.length),d<a->gK b[d]=H)) (fun q _=>b.length - (intOf q).toNat)
 case atStart=>exact⟨0,jz _,rfl,V,fun d _ f=>oA⟩
 case round =>
  obtain⟨a,az,rfl,c,o⟩:=hrel;clear V K L s aH p a2;by_cases j:a<b.length
  ·obtain⟨av,aD,rfl,a3⟩:=af (by intro g;rw[g]at j;simp at j);obtain⟨C,D,E,G⟩:=a3 a j;have K:=keep C c.below;have L:=keep D c.below;have s:=keep E c.below;have aF:=keep G c.below;clear C D E G;have h:=zzb b[a] (wr.alloc (Zc #[I b[a].name,Y b[a].pub,U O b[a].label,U O b[a].size] 87)) (qQ.below (qQ.below aa c.below) (bal _));unfold qD at h;cases i:gK b[a]
   ·have r:Hid (k=X):=by show _=_;rw[R.out,zhs a j i];rfl
    rw[i]at h;go_wp2_with (go_at_call 35;refine h.mono ?_;rintro g M ⟨rfl,m⟩);go_ret;exact⟨dS r.out.symm,(c.next (zbq m)).below⟩
   ·have Q:Hid (gK b[a]=H):=i;rw[i]at h;have a6:=zlb (zsq i);have a7:((b.take a).map (·.name)).length<maxLen:=by unfold maxLen;simp;omega
    go_wp2_with first
     | (go_at_call 35;refine h.mono ?_;rintro g M ⟨rfl,m⟩;have z:=c.next (zbq m);have aG:M.cell? (A wr.heap.size 0 F)=Z (I b[a].name):=yL m 0)
     | (at_mapUpdate;refine wpList_mapUpdate_own _ rfl _ _ _ 85 rfl 9 89 xT underlying85 (unitElem (H:=Unit)) t _ _ rfl z.own a7 _ _ _ rfl rfl a6 _ [] unitElem_mk ?_;intro aJ a9 a5)
     | go_in
    go_roundw
    case rel=>exact⟨a+1,oA,oM,by rw[zko _ _ _ j];exact z.put a5 a9,fun d f aw=>by
     rcases jL d a with y | y
     ·exact o.out d f y
     ·have:d=a:=oA;subst this
      exact Q.out⟩
    case measure=>simp[intOf];omega
  ·have P:Hid (k=(ps.all uX&&apartB [] (b.map (·.name)++ps.map (·.name)))):=by show _=_;rw[R.out,zgs (fun d f=>o.out d f oA)];rfl
   clear R o af;rw[jG oA]at c;have s:=c.c2;go_wp2;go_loopw [43] (fun q wr=>∃a:Nat,a<=ps.length/\q=U O a/\Inv e wr t l (J u b.length w) (J v ps.length x) (b.map (·.name)++(ps.take a).map (·.name))/\Hid (∀d (f:d<ps.length),d<a->uX ps[d]=H)) (fun q _=>ps.length - (intOf q).toNat)
   case atStart=>exact⟨0,jz _,rfl,by simpa using c,fun d _ f=>oA⟩
   case round =>
    clear c s;obtain⟨a,az,rfl,c,o⟩:=hrel;by_cases j:a<ps.length
    ·obtain⟨av,aD,rfl,a3⟩:=ag (by intro g;rw[g]at j;simp at j);obtain⟨C,D,⟨aW,E,ak⟩,G,am,an⟩:=a3 a j;have aC:=ak;obtain⟨ar,au,rfl,_,_⟩:=aC;have K:=keep C c.below;have L:=keep D c.below;have s:=keep E c.below;have aF:=keep G c.below;have aT:=keep am c.below;have aU:=keep an c.below;clear C D E G am an;have T:=(Below.refl wr.heap.size wr).alloc (jE _) (Zc #[I ps[a].name,Y ps[a].pub,J ar ps[a].params.length au,U O ps[a].writes,Y ps[a].gives,U O ps[a].given] 91);have h:=zxi ps[a] _ _ (qQ.below (qQ.below aa c.below) T) ((ak.below c.below).below T);clear T;unfold zL at h;cases i:uX ps[a]
     ·have r:Hid (k=X):=by show _=_;rw[P.out,zhs a j i];rfl
      rw[i]at h;go_wp2_with (go_at_call 36;refine h.mono ?_;rintro g M ⟨rfl,m⟩);go_ret;exact⟨dS r.out.symm,(c.next (zbq m)).below⟩
     ·have Q:Hid (uX ps[a]=H):=i;rw[i]at h;have a6:=zlb (zsb i);have a7:(b.map (·.name)++(ps.take a).map (·.name)).length<maxLen:=by unfold maxLen;simp;omega
      go_wp2_with first
       | (go_at_call 36;refine h.mono ?_;rintro g M ⟨rfl,m⟩;have z:=c.next (zbq m);have aG:M.cell? (A wr.heap.size 0 F)=Z (I ps[a].name):=yL m 0)
       | (at_mapUpdate;refine wpList_mapUpdate_own _ rfl _ _ _ 85 rfl 9 89 xT underlying85 (unitElem (H:=Unit)) t _ _ rfl z.own a7 _ _ _ rfl rfl a6 _ [] unitElem_mk ?_;intro aJ a9 a5)
       | go_in
      go_roundw
      case rel=>exact⟨a+1,oA,oM,by rw[zko _ _ _ j,<- jt];exact z.put a5 a9,fun d f aw=>by
       rcases jL d a with y | y
       ·exact o.out d f y
       ·have:d=a:=oA;subst this
        exact Q.out⟩
      case measure=>simp[intOf];omega
    ·rw[jG oA]at c
     have ab:Hid (k=((Maps.size (setD (b.map (·.name)++ps.map (·.name))):Int)==(b.length:Int)+(ps.length:Int))):=by
      show _=_;rw[P.out,zgs (fun d f=>o.out d f oA),<- zkl];simp only[jb,List.length_map,Bool.true_and];rw[Bool.eq_iff_iff];simp only[beq_iff_eq];omega
     have a8:=c.own;have ay:=c.below;clear o P c ag;generalize (b.map (·.name)++ps.map (·.name)).length=aL at a8
     generalize setD (b.map (·.name)++ps.map (·.name))=aK at a8 ab
     go_wp2_with first
      | (at_len;refine wpList_len_own _ rfl _ 85 rfl 9 89 underlying85 (unitElem (H:=Unit)) t _ _ rfl a8 ?_)
      | go_in
     go_ret;exact⟨dS ab.out.symm,ay⟩
end face
namespace mac
open Go.RowKit
def bZ (a ih:Zv) (fuel:Int):Zv:=Za #[U O 0,J F 0 0,J F 0 0,U O 0,U O 0,U O 0,a,ih,U O fuel]
def bK:Zv:=bZ (J F 0 0) (J F 0 0) 0
def qV (nl nh:Nat) (fuel m:Int):Int:=if fuel<0\/m<fuel then 6 else if 1000<nl\/1000<nh then 1 else 0
def dV (a ih:Zv) (nl nh:Nat) (fuel m:Int):Zv:=.tuple #[if qV nl nh fuel m=0 then bZ a ih fuel else bK,U O (qV nl nh fuel m)]
theorem zif (f g:Option Addr) (b a i h:Nat) (c d:Int) (k:Zw) : Calls prog 29 #[J f b i,J g a h,U O c,U O d] k fun m t=>m=.returned (dV (J f b i) (J g a h) b a c d)/\Below k.heap.size k t:=by
 have u:=kc71;have l:=kc44;by_cases n:c<0;·skip;go_enter func29,ntmps29;go_wp2;refine jT (v:=.tuple #[bK,U O 6]) zb3 rfl ?_;exact⟨by unfold dV;rw[show qV b a c d=6 by unfold qV;rw[jv (Or.inl n)] ];rfl,zb4⟩
 by_cases o:d<c;·skip;go_enter func29,ntmps29;go_wp2;refine jT (v:=.tuple #[bK,U O 6]) zb3 rfl ?_;exact⟨by unfold dV;rw[show qV b a c d=6 by unfold qV;rw[jv (Or.inr o)] ];rfl,zb4⟩
 by_cases p:1000<b;·have q:(1000:Int)<(b:Int):=oA;go_enter func29,ntmps29;go_wp2;refine jT (v:=.tuple #[bK,U O 1]) zb3 rfl ?_;exact⟨by unfold dV;rw[show qV b a c d=1 by unfold qV;rw[ju oA,jv (Or.inl p)] ];rfl,zb4⟩
 have q:¬(1000:Int)<(b:Int):=oA;by_cases r:1000<a;·have s:(1000:Int)<(a:Int):=oA;go_enter func29,ntmps29;go_wp2;refine jT (v:=.tuple #[bK,U O 1]) zb3 rfl ?_;exact⟨by unfold dV;rw[show qV b a c d=1 by unfold qV;rw[ju oA,jv (Or.inr r)] ];rfl,zb4⟩
 have s:¬(1000:Int)<(a:Int):=oA;go_enter func29,ntmps29;go_wp2;refine jT (v:=.tuple #[bZ (J f b i) (J g a h) c,U O 0]) zb3 rfl ?_;exact⟨by unfold dV;rw[show qV b a c d=0 by unfold qV;rw[ju oA,ju oA] ];rfl,zb4⟩
end mac
end Go.Proofs.YtbjppepjmcfkaaaGreatDoor
