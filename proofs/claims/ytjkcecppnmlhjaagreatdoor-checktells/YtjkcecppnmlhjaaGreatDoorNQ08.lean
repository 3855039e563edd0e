/- The library's slices.Backward over variables: what it hands back, and that it goes over them from the last one on. -/
import Derived.Test.YtjkcecppnmlhjaaGreatDoorNQr
import Derived.Test.YtjkcecppnmlhjaaGreatDoorNQ07
import Derived.WalkSpells
import Derived.Test.YtjkcecppnmlhjaaGreatDoorNQ06
import Derived.Test.YtjkcecppnmlhjaaGreatDoorNQ01
import Derived.RangeFuncNested
import Derived.RangeFuncBound
import Derived.Shelf.RegionOpen
import Derived.OwnWalkIn
import Derived.LoopNIn
import Derived.LoopIn
open Go.Proofs.Tryz
open Go.Value renaming int → U, string → I, slice → J, bool → Y, agg → Za, pointer → Zp
open Go.IntKind renaming i64 → O
open Go.Obj renaming cells → Zc
open Go.Addr renaming mk → A
open Option renaming none → F, some → Z
open Bool renaming false → X, true → H
open Go renaming World → Zw, Value → Zv
set_option maxHeartbeats 4000000
set_option linter.unusedVariables false
set_option linter.unusedSimpArgs false
set_option maxRecDepth 100000
namespace Go.Proofs.YtjkcecppnmlhjaaGreatDoor
theorem oz08x77 {s:Prop} (a:s:=by
 subst this
 exact⟨F,0,rfl,oB,fun a=>absurd rfl a⟩):s:=a
theorem oz08x76 {f:Prop} (h:f:=by
 go_wp2;go_roundw
 case rel=>exact⟨d+1,oA,oJ,by rw[jv oA],trivial⟩
 case measure=>simp[intOf];omega):f:=h
theorem oz08y79 {c:Prop} (C:c:=by
 have:=(h.lt _ g).1;omega):c:=C
theorem oz08y78 {c:Prop} (C:c:=by
 have:=a5.out;omega):c:=C
namespace face
open Go.RowKit
open syn (kE eqS)
theorem bU {α:Type} {c:α->Bool} {a:List α} (b:Nat) (d:b<a.length) (e:c a[b]=X):a.all c=X:=by
 rw[List.all_eq_false];exact⟨a[b],jH d,by simp[e]⟩
theorem bL {α:Type} {b:α->Bool} {a:List α} (d:∀i (g:i<a.length),b a[i]=H):a.all b=H:=by
 rw[List.all_eq_true];intro h e;obtain⟨f,c,rfl⟩:=List.mem_iff_getElem.1 e;exact d f c
theorem vL {a b:Bool} (c:a=b):Ending.returned (Y a)=.returned (Y b):=by rw[c]
theorem kK {w:Zw} {a:Addr} {v:Zv} (b:w.cell? a=Z v) (c:Obj):(w.alloc c).cell? a=Z v:=by
 rw[(bal c).cell (jR w a b)];exact b
end face
namespace face
open Go.RowKit
open syn
theorem xE:∀(c:List Tree) (a:Nat) (b:a<c.length),kA (c.take (a+1))=kA (c.take a)+kC c[a]
 | [],a,b=>by simp at b
 | t :: r,0,b=>by simp[kA]
 | t :: r,a+1,b=>by
  have d:a<r.length:=by simpa using b
  have:=xE r a d;show kC t+kA (r.take (a+1))=kC t+kA (r.take a)+kC r[a];omega
theorem xY:∀(c:List Tree) (a:Nat),kA (c.take a)<=kA c
 | [],a=>oB
 | b :: r,0=>by have d:=kR (b :: r);show kA []<=_;unfold kA;exact d
 | b :: r,a+1=>by
  have:=xY r a;show kC b+kA (r.take a)<=kC b+kA r;omega
theorem ze2:∀(c:List Tree) (a:Nat) (b:a<c.length),kC c[a]<=kA c
 | [],a,b=>by simp at b
 | t :: r,0,b=>by have:=kR r;show kC t<=kC t+kA r;omega
 | t :: r,a+1,b=>by
  have d:a<r.length:=by simpa using b
  have:=ze2 r a d;have e:=qU t;show kC r[a]<=kC t+kA r;omega
theorem zj9 {w d:Zw} {a:Array Zv} {c:TypeId} (e:Below (w.alloc (Zc a c)).heap.size (w.alloc (Zc a c)) d) (b:Nat):d.cell? (A w.heap.size b F)=a[b]?:=by
 rw[e.cell (p:=(A w.heap.size b F)) oB];simp
theorem zr7 {w b:Zw} {a:Obj} (c:Below (w.alloc a).heap.size (w.alloc a) b):Below w.heap.size w b :=
 (bal a).trans (c.mono oB)
theorem cD (b:Tree) (v:Zv) (w:Zw) (o:Lies (·<w.heap.size) w b v) (n:kC b<=1000000) : Calls prog 33 #[v] w fun c w'=>c=.returned (U O (kC b))/\Below w.heap.size w w':=by
 have L:=kc25
 match b with
 | .node k x m ks =>
  have ih:∀d (hi:d<ks.length) (v:Zv) (w:Zw),Lies (·<w.heap.size) w ks[d] v->Calls prog 33 #[v] w fun c w'=>c=.returned (U O (kC ks[d]))/\Below w.heap.size w w' :=
   fun d hi v w r=>cD ks[d] v w r (by have:=ze2 ks d hi;unfold kC at n;omega)
  unfold Lies at o;obtain⟨g,h,rfl,Q,y⟩:=o;unfold kC at n |-;go_enter func33,ntmps33;go_wp2;go_loopw [3,4] (fun D b wr=>∃a:Nat,a<=ks.length/\D=U O (kA (ks.take a)+1)/\b=U O a/\Below (w.alloc (Zc #[U O k,I x,U O m,J g ks.length h] 25)).heap.size (w.alloc (Zc #[U O k,I x,U O m,J g ks.length h] 25)) wr) (fun _ b _=>ks.length - (intOf b).toNat)
  case atStart=>exact⟨0,jz _,rfl,rfl,Below.refl _ _⟩
  case round =>
   obtain⟨a,P,rfl,rfl,f⟩:=hrel;have V:wr.cell? (A w.heap.size 3 F)=Z (J g ks.length h):=zj9 f 3;have l:=zr7 f;by_cases e:a<ks.length
   ·obtain⟨N,T,rfl,u,s⟩:=y (by intro c;rw[c]at e;simp at e);obtain⟨x0,x1,x2,x3,E,G,K,M,C⟩:=s.kid u l e;have j:=ih a e _ wr C;have i:=xE ks a e;have R:=xY ks (a+1);have z:=qU ks[a];have B:=kR (ks.take a);generalize kC ks[a]=p at j i z;generalize kA (ks.take a)=q at i B;have S:wrap64 (q+1+p)=q+p+1:=by unfold wrap64;omega
    go_wp2_with (go_at_call 33;refine j.mono ?_;rintro c W ⟨rfl,t⟩);go_roundw
    case rel=>exact⟨a+1,oA,by rw[i];congr 1;omega,oJ,f.trans (t.mono f.size)⟩
    case measure=>simp[intOf];omega
   ·rw[jG oA];go_wp2;go_ret;exact⟨rfl,l⟩
termination_by SizeOf.sizeOf b
decreasing_by exact dI hi
/-! of a variable -/
theorem zx3 (b a:Bool):(2*bI b+bI a).tmod 2=bI a:=by cases b<;>cases a<;>decide
theorem zx4 (a b:Bool):decide (2<=(2*bI a+bI b).tmod 4)=a:=by cases a<;>cases b<;>decide
theorem yab (h:ByteArray) (b a:Bool) (d:Option Int) (v:Zv) (w:Zw) (g:Lies (·<w.heap.size) w (Kid.var h b a d).tree v) : Calls prog 65 #[v] w fun o w'=>o=.returned (qC (zY h b a d))/\Below w.heap.size w w':=by
 have B:=kc25;have D:prog.cellsOf 52=4:=cell4;have HP:Hid (decide (2<=(2*bI b+bI a).tmod 4)=b):=zx4 b a;have f:Hid ((2*bI b+bI a).tmod 2=bI a):=zx3 b a
 cases d with
 | none =>
  unfold Kid.tree Lies at g;obtain⟨m,n,rfl,t,j⟩:=g;clear j;unfold qC zY;generalize 2*bI b+bI a=c at HP f;go_enter func65,ntmps65;go_wp2;refine jT (v:=Za #[I h,Y (decide (2<=c.tmod 4)),U O (c.tmod 2),U O 0]) (by simp[results,results65,go_sem]) rfl ⟨by rw[HP.out,f.out];rfl,?_⟩
  exact Joins.below_alloc3 _ _ _ _
 | some d =>
  unfold Kid.tree Lies at g;obtain⟨m,n,rfl,t,j⟩:=g;obtain⟨q,K,rfl,s,r⟩:=j oB;obtain⟨⟨P,⟨x0,x1,x2,x3,rfl,y,z,i,C⟩,l⟩,_⟩:=r
  unfold Lies at l;obtain⟨x,E,p,_,_⟩:=l;cases p;unfold qC zY;generalize 2*bI b+bI a=c at HP f;have L:=fun e=>kK i e
  have M:=fun e k=>kK (kK i e) k
  have N:=fun e k u=>kK (kK (kK i e) k) u
  have G:q<w.heap.size:=s;go_enter func65,ntmps65;go_wp2;refine jT (v:=Za #[I h,Y (decide (2<=c.tmod 4)),U O (c.tmod 2),U O d]) (by simp[results,results65,go_sem]) rfl ⟨by rw[HP.out,f.out];rfl,?_⟩;exact Joins.below_alloc3 _ _ _ _
/-! kids of a module -/
theorem cW {w wr:Zw} {b:List Kid} {c d:Nat} (p:c<w.heap.size) (n:kQ (·<w.heap.size) w (b.map Kid.tree) c d) (o:Below w.heap.size w wr) {a:Nat} (q:a<b.length) : ∃e f,wr.cell? (A c (d+a*4) F)=Z (U O b[a].kind)/\wr.cell? (A c (d+a*4+1) F)=Z (I b[a].text)/\wr.cell? (A c (d+a*4+2) F)=Z (U O b[a].num)/\wr.cell? (A c (d+a*4+3) F)=Z (J e b[a].kids.length f) /\ Lies (·<wr.heap.size) wr b[a].tree (Za #[U O b[a].kind,I b[a].text,U O b[a].num,J e b[a].kids.length f]):=by
 obtain⟨x0,x1,x2,x3,i,j,k,l,g⟩:=n.kid p o (j:=a) (by simpa using q);rw[List.getElem_map]at g;have h:=g;rw[Kid.tree_is]at h;unfold Lies at h;obtain⟨e,f,m,_,_⟩:=h;cases m;exact⟨e,f,i,j,k,l,g⟩
def yU (l:List ByteArray):List Zv:=l.map Value.string
theorem zcj (a:List ByteArray) (b:ByteArray):yU (a++[b])=yU a++[I b]:=by simp[yU]
theorem zqf:(prog.info? 9).map (fun a=>(a.zero,a.size,a.bytes))=Z (Z (I ⟨#[]⟩),1,16):=oD
theorem fA (a:ByteArray):∀u∈[Value.string a],u.oneCell'=H:=oZ
theorem xZ {w:Zw} (a:Zv) (b:TypeId) (d:Nat) (f:d=w.heap.size):∀c e,[a][c]?=Z e->(w.alloc (Zc #[a] b)).cell? (((A d 0 F):Addr).add c)=Z e:=by
 subst f;exact cell_one_new w a b
theorem zam (a:List Kid) (b:Nat) (c:b<a.length):a.take (b+1)=a.take b++[a[b]]:=by
 rw[List.take_add_one,List.getElem?_eq_getElem c];rfl
end face
namespace chk
open Go.RowKit
open syn face
variable {a:ByteArray}
theorem byte_at (b:Nat) (c:b<a.size):a.data.toList[b]?=Z a[b]:=by
 rw[List.getElem?_eq_getElem (by rw[lexs.len_L];exact c)];exact congrArg Z (lexs.getL a b c)
theorem zyr (a:ByteArray) (w:Zw) (n:a.size<=1000) (h:∀c∈a.data.toList,c≠46) : Calls prog 161 #[I a] w fun f w'=>f=.returned (.tuple #[I ⟨#[]⟩,I a,Y H])/\w'=w:=by
 have i:∀d (g:d<a.size),¬((a[d].toNat:Int)=46):=fun d g f=>h a[d] (by have:=byte_at d g;exact List.mem_of_getElem? this) (by
  have:a[d].toNat=46:=oA
  exact UInt8.toNat_inj.1 this)
 go_enter func161,ntmps161;go_wp2;go_loopw [5,6] (fun k e wr=>∃b:Nat,b<=a.size/\e=U O b/\k=U O (-1)/\wr=w) (fun _ e _=>a.size - (intOf e).toNat)
 case atStart=>exact⟨0,jz _,rfl,rfl,rfl⟩
 case round =>
  obtain⟨b,l,rfl,rfl,rfl⟩:=hrel;by_cases j:b<a.size
  ·have m:=i b j;go_wp2;go_roundw
   case rel=>exact⟨b+1,oA,oJ,rfl,trivial⟩
   case measure=>simp[intOf];omega
  ·go_wp2;refine jT (v:=.tuple #[I ⟨#[]⟩,I a,Y H]) (by simp[results,results161,go_sem]) rfl ?_;exact⟨rfl,rfl⟩
theorem zxq {b c:List UInt8} (d:a.data.toList=b++46 :: c):a.extract 0 b.length=⟨b.toArray⟩:=by
 apply ByteArray.ext;apply Array.toList_inj.1;rw[<- ByteArray.toList_eq,Lib.extract_toList,d];simp
theorem zy4 {b c:List UInt8} (d:a.data.toList=b++46 :: c):a.extract (b.length+1) a.size=⟨c.toArray⟩:=by
 have e:a.size=b.length+(c.length+1):=by rw[<- lexs.len_L,d];simp
 apply ByteArray.ext;apply Array.toList_inj.1;rw[<- ByteArray.toList_eq,Lib.extract_toList,d,e];rw[show b.length+(c.length+1) - (b.length+1)=c.length by omega,show b++46 :: c=(b++[46])++c by simp,List.drop_append_of_le_length oB,List.drop_of_length_le oB];simp
theorem zys (a:ByteArray) (b i:List UInt8) (w:Zw) (K:a.size<=1000) (h:a.data.toList=b++46 :: i) (q:∀c∈b,c≠46) (r:∀c∈i,c≠46) : Calls prog 161 #[I a] w fun o w'=>o=.returned (.tuple #[I ⟨b.toArray⟩,I ⟨i.toArray⟩,Y H])/\Below w.heap.size w w':=by
 have y:a.size=b.length+(i.length+1):=by rw[<- lexs.len_L,h];simp
 have C:=zxq h;have z:=zy4 h
 have l:∀(j:b.length<a.size),(a[b.length].toNat:Int)=46:=fun j=>by
  have g:=byte_at b.length j;rw[h,List.getElem?_append_right (jE _)]at g;simp at g;rw[<- g];rfl
 have m:∀e (j:e<a.size),e≠b.length->¬((a[e].toNat:Int)=46):=fun e j G o=>by
  have p:a[e]=46:=UInt8.toNat_inj.1 (by
   have:a[e].toNat=46:=oA
   exact this)
  have g:=byte_at e j;rw[h]at g;rcases jL e b.length with k | k
  ·rw[List.getElem?_append_left k]at g;exact q _ (List.mem_of_getElem? g) p
  ·rw[List.getElem?_append_right k,show e - b.length=(e - b.length - 1)+1 by omega,List.getElem?_cons_succ]at g;exact r _ (List.mem_of_getElem? g) p
 generalize b.length=f at *;clear h q r;have E:f<a.size:=oA;go_enter func161,ntmps161;go_wp2;go_loopw [5,6] (fun B n wr=>∃d:Nat,d<=a.size/\n=U O d/\(B=if f<d then U O f else U O (-1))/\wr=w) (fun _ n _=>a.size - (intOf n).toNat)
 case atStart=>exact⟨0,jz _,rfl,oB,rfl⟩
 case round =>
  obtain⟨d,D,rfl,rfl,rfl⟩:=hrel;by_cases u:d<a.size
  ·by_cases s:d=f;·subst s;have x:=l u;rw[ju oA];clear m l;exact oz08x76
   ·have x:=m d u s;by_cases t:f<d;·rw[jv t];exact oz08x76
    ·rw[ju t];go_wp2;go_roundw
     case rel=>exact⟨d+1,oA,oJ,by rw[ju oA],trivial⟩
     case measure=>simp[intOf];omega
  ·rw[jv oA];clear m l;go_wp2;go_region
   all_goals
    go_wp2;refine jT (v:=.tuple #[I ⟨b.toArray⟩,I (a.extract (f+1) (f+(i.length+1))),Y H]) (by simp[results,results161,go_sem]) rfl ?_;exact⟨by rw[<- y,z],(Below.refl _ _).drew⟩
theorem zz8 (a:ByteArray) (w:Zw) (g:a.size<=1000) (b:kT a) : Calls prog 161 #[I a] w fun e w'=>e=.returned (.tuple #[I (zR a),I (yJ a),Y H])/\Below w.heap.size w w':=by
 rcases zek b with⟨c,f,d⟩|⟨h,i,c,f,d,j,k,l⟩
 ·rw[f,d];exact(zyr a w g c).mono (fun e w' b=>⟨b.1,by rw[b.2];exact Below.refl _ _⟩)
 ·rw[k,l];exact zys a h i w g c d j
theorem zes (b:kT a):a.size<=33:=by
 rcases b with b | ⟨c,d,e,f,rfl⟩
 ·have:=zb8 b;omega
 ·have g:=zb8 e;have h:=zb8 f;rw[ByteArray.size_append,ByteArray.size_append];show c.size+1+d.size<=33;omega
end chk
namespace face
open Go.RowKit
theorem cell_grown {w w':Zw} {row:Option Nat} (d:w.grownBy w' row) {a:Addr} {v:Zv} (b:w.cell? a=Z v) (e:row≠Z a.block):w'.cell? a=Z v:=by
 rw[jM (a:=a) (d.block a.block (jR w a b) (fun c=>e c.symm))];exact b
structure Box6 (w:Zw) (N:Nat) (x0 x1 x2 x3 x4 x5:Zv):Prop where
 c0:w.cell? (A N 0 F)=Z x0
 c1:w.cell? (A N 1 F)=Z x1
 c2:w.cell? (A N 2 F)=Z x2
 c3:w.cell? (A N 3 F)=Z x3
 c4:w.cell? (A N 4 F)=Z x4
 c5:w.cell? (A N 5 F)=Z x5
 f0:w.frozen? (A N 0 F)=X
 f1:w.frozen? (A N 1 F)=X
 f2:w.frozen? (A N 2 F)=X
 f3:w.frozen? (A N 3 F)=X
 f4:w.frozen? (A N 4 F)=X
 f5:w.frozen? (A N 5 F)=X
section
variable {w w':Zw} {N:Nat} {x0 x1 x2 x3 x4 x5:Zv}
theorem Box6.new (w:Zw) (x0 x1 x2 x3 x4 x5:Zv) (T:TypeId):Box6 (w.alloc (Zc #[x0,x1,x2,x3,x4,x5] T)) w.heap.size x0 x1 x2 x3 x4 x5:=oV
theorem Box6.lt (a:Box6 w N x0 x1 x2 x3 x4 x5):N<w.heap.size:=jR w (A N 0 F) a.c0
theorem Box6.block (b:Box6 w N x0 x1 x2 x3 x4 x5) (c:w'.heap[N]?=w.heap[N]?):Box6 w' N x0 x1 x2 x3 x4 x5 :=
 ⟨(jM (a:=(A N 0 F)) c).trans b.c0,(jM (a:=(A N 1 F)) c).trans b.c1,(jM (a:=(A N 2 F)) c).trans b.c2,(jM (a:=(A N 3 F)) c).trans b.c3,(jM (a:=(A N 4 F)) c).trans b.c4,(jM (a:=(A N 5 F)) c).trans b.c5,
   (jN (a:=(A N 0 F)) c).trans b.f0,(jN (a:=(A N 1 F)) c).trans b.f1,(jN (a:=(A N 2 F)) c).trans b.f2,(jN (a:=(A N 3 F)) c).trans b.f3,(jN (a:=(A N 4 F)) c).trans b.f4,(jN (a:=(A N 5 F)) c).trans b.f5⟩
theorem Box6.below (a:Box6 w N x0 x1 x2 x3 x4 x5) (b:Below w.heap.size w w'):Box6 w' N x0 x1 x2 x3 x4 x5:=a.block (b.block N a.lt)
theorem Box6.alloc (b:Box6 w N x0 x1 x2 x3 x4 x5) (a:Obj):Box6 (w.alloc a) N x0 x1 x2 x3 x4 x5:=b.below (bal a)
theorem Box6.grown {row:Option Nat} (a:Box6 w N x0 x1 x2 x3 x4 x5) (c:w.grownBy w' row) (d:row≠Z N):Box6 w' N x0 x1 x2 x3 x4 x5:=a.block (c.block N a.lt (fun b=>d b.symm))
theorem Box6.other (b:Box6 w N x0 x1 x2 x3 x4 x5) {M o:Nat} (c:M≠N) (v:Zv):Box6 (w.setCell (A M o F) v) N x0 x1 x2 x3 x4 x5:=b.block (jP _ _ _ _ (fun a=>c (by rw[a])))
theorem Box6.drew (a:Box6 w N x0 x1 x2 x3 x4 x5):Box6 w.drew N x0 x1 x2 x3 x4 x5:=⟨a.c0,a.c1,a.c2,a.c3,a.c4,a.c5,a.f0,a.f1,a.f2,a.f3,a.f4,a.f5⟩
theorem Box6.set2 (a:Box6 w N x0 x1 x2 x3 x4 x5) (v:Zv):Box6 (w.setCell (A N 2 F) v) N x0 x1 v x3 x4 x5 :=
 ⟨by rw[jD _ _ _ _ oB];exact a.c0,by rw[jD _ _ _ _ oB];exact a.c1,jS _ _ _ a.c2,by rw[jD _ _ _ _ oB];exact a.c3,by rw[jD _ _ _ _ oB];exact a.c4,by rw[jD _ _ _ _ oB];exact a.c5,
  by simp[a.f0],by simp[a.f1],by simp[a.f2],by simp[a.f3],by simp[a.f4],by simp[a.f5]⟩
end
end face
namespace face
open Go.RowKit
open syn
theorem zwa (c a:Bool) (b:Option Bool):(2*bI c+bI a+gI b).tmod 2=bI a:=by cases c<;>cases a<;>rcases b with _ | _ | _<;>decide
theorem zwb (a c:Bool) (b:Option Bool):decide (2<=(2*bI a+bI c+gI b).tmod 4)=a:=by cases a<;>cases c<;>rcases b with _ | _ | _<;>decide
theorem zsq (c b:Bool) (a:Option Bool):decide (4<=2*bI c+bI b+gI a)=a.isSome:=by cases c<;>cases b<;>rcases a with _ | _ | _<;>decide
theorem zsp (c b:Bool) (a:Option Bool):wrap64 ((2*bI c+bI b+gI a).tdiv 8)=bI (a.getD X):=by cases c<;>cases b<;>rcases a with _ | _ | _<;>decide +kernel
def yG (l:List Int):List Zv:=l.map (Value.int O)
theorem zay (a:List Int) (b:Int):yG (a++[b])=yG a++[U O b]:=by simp[yG]
theorem zdz:(prog.info? 3).map (fun a=>(a.zero,a.size,a.bytes))=Z (Z (U O 0),1,8):=oD
theorem zbj (a:Int):∀u∈[Value.int O a],u.oneCell'=H:=oZ
theorem zi6 {w wr:Zw} {ps:List (ByteArray × Bool)} {e:Tree} {b c:Nat} (l:b<w.heap.size) (j:kQ (·<w.heap.size) w (ps.map zO++[e]) b c) (k:Below w.heap.size w wr) {a:Nat} (m:a<ps.length) : wr.cell? (A b (c+a*4) F)=Z (U O 5)/\wr.cell? (A b (c+a*4+1) F)=Z (I ps[a].1)/\wr.cell? (A b (c+a*4+2) F)=Z (U O (bI ps[a].2)):=by
 obtain⟨x0,x1,x2,x3,f,g,h,p,d⟩:=j.kid l k (j:=a) oE;rw[List.getElem_append_left (by simpa using m),List.getElem_map]at d;unfold zO Lies at d;obtain⟨n,o,i,_,_⟩:=d;cases i;exact⟨f,g,h⟩
theorem zmp (ps:List (ByteArray × Bool)) (a:Nat) (c:a<ps.length):((ps.take (a+1)).map fun b=>bI b.2)=((ps.take a).map fun b=>bI b.2)++[bI ps[a].2]:=by
 rw[List.take_add_one,List.map_append,List.getElem?_eq_getElem c];rfl
theorem zox (j:ByteArray) (c e:Bool) (d:Option Bool) (ps:List (ByteArray × Bool)) (N:Tree) (v:Zv) (w:Zw) (a2:Lies (·<w.heap.size) w (Kid.proc j c e d ps N).tree v) (aX:ps.length<=1000) : Calls prog 66 #[v] w fun g w'=>∃l,g=.returned (qR (kO j c e d ps) l)/\w'.ownsRow w.heap.size 3 1 l ps.length (yG (ps.map fun i=>bI i.2))/\Below w.heap.size w w':=by
 have aD:=kc25;have aE:prog.cellsOf 57=6:=vA;have aC:prog.cellsOf 3=1:=cF;obtain⟨ag,hi,ad,ae,af⟩:=info_parts zdz;have G:Hid ((2*bI c+bI e+gI d).tmod 2=bI e):=zwa c e d;have K:Hid (decide (2<=(2*bI c+bI e+gI d).tmod 4)=c):=zwb c e d;have L:Hid (decide (4<=2*bI c+bI e+gI d)=d.isSome):=zsq c e d;have M:Hid (wrap64 ((2*bI c+bI e+gI d).tdiv 8)=bI (d.getD X)):=zsp c e d;unfold Kid.tree Lies at a2;obtain⟨av,m,rfl,T,t⟩:=a2;obtain⟨n,p,rfl,a9,S⟩:=t oB;clear t;have V:(ps.map zO++[N]).length=ps.length+1:=oB;rw[V]at T |-;obtain⟨f,u⟩:∃f,f=ps.length+1:=⟨_,rfl⟩
 rw[<- u]at T |-;have a5:Hid (f=ps.length+1):=u;clear u V;unfold qR kO;generalize 2*bI c+bI e+gI d=b at G K L M;go_enter func66,ntmps66;go_wp2;have x:=(Box6.new (w.alloc (Zc #[U O 4,I j,U O b,J (Z (A n p F)) f m] 25)) (I ⟨#[]⟩) (Y X) (J F 0 0) (U O 0) (Y X) (U O 0) 57).alloc (Zc #[I j,Y (decide (2<=b.tmod 4)),J F 0 0,U O (b.tmod 2),Y (decide (4<=b)),U O (wrap64 (b.tdiv 8))] 57);have y:=Box6.new ((w.alloc (Zc #[U O 4,I j,U O b,J (Z (A n p F)) f m] 25)).alloc (Zc #[I ⟨#[]⟩,Y X,J F 0 0,U O 0,Y X,U O 0] 57)) (I j) (Y (decide (2<=b.tmod 4))) (J F 0 0) (U O (b.tmod 2)) (Y (decide (4<=b))) (U O (wrap64 (b.tdiv 8))) 57;rw[jO]at x;rw[jO,jO]at y;have E:(w.alloc (Zc #[U O 4,I j,U O b,J (Z (A n p F)) f m] 25)).cell? (A w.heap.size 3 F)=Z (J (Z (A n p F)) f m):=oB
 go_loopw [4] (fun D wr=>∃(a:Nat) (l:Zv),a<=ps.length/\D=U O a/\wr.ownsRow (w.heap.size+3) 3 1 l a (yG ((ps.take a).map fun i=>bI i.2))/\Below w.heap.size w wr/\wr.cell? (A w.heap.size 3 F)=Z (J (Z (A n p F)) f m) /\
   Box6 wr (w.heap.size+1) (I ⟨#[]⟩) (Y X) (J F 0 0) (U O 0) (Y X) (U O 0)/\Box6 wr (w.heap.size+1+1) (I j) (Y (decide (2<=b.tmod 4))) l (U O (b.tmod 2)) (Y (decide (4<=b))) (U O (wrap64 (b.tdiv 8)))) (fun D _=>ps.length - (intOf D).toNat)
 case atStart=>exact⟨0,J F 0 0,jz _,rfl,World.ownsRow_nil _ _ _ _,Joins.below_alloc3 _ _ _ _,kK (kK E _) _,x,y⟩
 case round =>
  clear E x y;obtain⟨a,l,aY,rfl,h,o,ak,P,B⟩:=hrel;have b1:=B.lt;obtain⟨aw,ax,ay,az,aA,aB,aR,aS,aT,aU,aV,aW⟩:=id B;obtain⟨q,r,rfl,_,_⟩:=lexs.own_shape h;by_cases W:a<ps.length
  ·obtain⟨ah,ai,aj⟩:=zi6 a9 S o W;have z:Hid (((ps.take (a+1)).map fun i=>bI i.2)=((ps.take a).map fun i=>bI i.2)++[bI ps[a].2]):=zmp ps a W;have aa:a<f:=oz08y78;have aZ:a+1<f:=oz08y78;have u:f<=1001:=oz08y78;clear ah ai;generalize bI ps[a].2=a3 at aj z;generalize ((ps.take a).map fun i=>bI i.2)=a6 at h z;clear S
   go_wp2
   go_region_law (refine step_append_lies _ oI (.tmp 30) (.tmp 37) 55 oI (w.heap.size+3) 3 ag (U O 0) 1 8 underlying55 hi ad ae af rfl oC (J q a r) a (yG a6) oK (World.ownsRow.alloc (w:=wr.drew) h _) (A wr.heap.size 0 F) 1 1 [U O a3] oK rfl (xZ _ _ _ oB) (zbj _) oA (by unfold maxLen;omega) oA oE (wr.heap.size+1) oB ?_;intro R a7 bc ac s a8 b0;have Q:=(B.drew.alloc (Zc #[U O a3] 3)).grown s (fun g=>oz08y79);obtain⟨aL,aM,aN,aO,aP,aQ,aF,aG,aH,aI,aJ,aK⟩:=id Q)
   all_goals
    go_wp2;go_roundw
    case rel =>
     refine⟨a+1,J (Z (A R 0 F)) (a+1) a7,oA,oJ,?_,?_,?_,?_,Q.set2 _⟩
     ·rw[z.out,zay]
      exact jU ac (by
       show Z R≠_;rcases a8 with g | g
       ·have:=(h.lt _ g).1;simp;omega
       ·simp;omega) _
     ·refine Below.setCell ?_ (by show w.heap.size<=w.heap.size+1+1;omega) _;exact(Below.grown (w:=wr.drew.alloc _) ((o.drew).alloc (by have:=o.size;simp;omega) _) s (by have:=o.size;simp;omega) (fun b2 t=>by have:=(h.lt _ t).1;omega))
     ·rw[jD _ _ _ _ oB];exact cell_grown s (kK (w:=wr.drew) ak _) (fun g=>by have:=(h.lt _ g).1;simp at this;omega)
     ·exact((P.drew.alloc _).grown s (fun g=>oz08y79)).other oA _
    case measure=>simp[intOf];omega
  ·have aa:¬((a:Int)+1<(f:Int)):=oz08y78;have ab:a=ps.length:=oA;subst ab;rw[List.take_length]at h;obtain⟨am,an,ao,ap,ar,au,b6,b7,b8,b9,ba,bb⟩:=id P;go_wp2;refine jT (v:=Za #[I j,Y (decide (2<=b.tmod 4)),J q ps.length r,U O (b.tmod 2),Y (decide (4<=b)),U O (wrap64 (b.tdiv 8))]) (by simp[results,results66,go_sem,am,an,ao,ap,ar,au]) rfl ⟨J q ps.length r,by rw[G.out,K.out,L.out,M.out],?_,?_⟩
   ·have k:(Value.slice q ps.length r).ownBlock≠Z (w.heap.size+1):=fun g=>oz08y79
    exact lexs.ownsRow_le (jU (jU (jU (jU (jU (jU h k _) k _) k _) k _) k _) k _) oA
   ·exact(((((o.setCell (Nat.le_succ _) _).setCell (Nat.le_succ _) _).setCell (Nat.le_succ _) _).setCell (Nat.le_succ _) _).setCell (Nat.le_succ _) _).setCell (Nat.le_succ _) _
/-! rows of variables and of procedures -/
def qW (l:List VarD):List Zv:=l.flatMap fun v=>[I v.name,Y v.pub,U O v.label,U O v.size]
theorem zhm (a:List VarD) (v:VarD):qW (a++[v])=qW a++[I v.name,Y v.pub,U O v.label,U O v.size]:=by simp[qW]
def yV (l:List (ProcD × Zv)):List Zv:=l.flatMap fun q=>[I q.1.name,Y q.1.pub,q.2,U O q.1.writes,Y q.1.gives,U O q.1.given]
theorem zqy (b:List (ProcD × Zv)) (a:ProcD × Zv):yV (b++[a])=yV b++[I a.1.name,Y a.1.pub,a.2,U O a.1.writes,Y a.1.gives,U O a.1.given]:=by simp[yV]
theorem zb4:∀(b:List VarD) (a:Nat) (c:a<b.length),(qW b)[a*4]?=Z (I b[a].name)/\(qW b)[a*4+1]?=Z (Y b[a].pub)/\(qW b)[a*4+2]?=Z (U O b[a].label)/\(qW b)[a*4+3]?=Z (U O b[a].size)
 | [],a,c=>by simp at c
 | v :: b,0,c=>by simp[qW]
 | v :: b,a+1,c=>by
  have g:a<b.length:=by simpa using c
  have d:=zb4 b a g;have e:qW (v :: b)=[I v.name,Y v.pub,U O v.label,U O v.size]++qW b:=rfl;have f:(a+1)*4=a*4+4:=oA;rw[e,f];refine⟨?_,?_,?_,?_⟩;·rw[List.getElem?_append_right oB];simpa using d.1
  ·rw[List.getElem?_append_right oB];simpa using d.2.1
  ·rw[List.getElem?_append_right oB];simpa using d.2.2.1
  ·rw[List.getElem?_append_right oB];simpa using d.2.2.2
theorem zhs:∀(b:List (ProcD × Zv)) (a:Nat) (d:a<b.length),(yV b)[a*6]?=Z (I b[a].1.name)/\(yV b)[a*6+1]?=Z (Y b[a].1.pub)/\(yV b)[a*6+2]?=Z b[a].2/\(yV b)[a*6+3]?=Z (U O b[a].1.writes)/\(yV b)[a*6+4]?=Z (Y b[a].1.gives)/\(yV b)[a*6+5]?=Z (U O b[a].1.given)
 | [],a,d=>by simp at d
 | v :: b,0,d=>by simp[yV]
 | v :: b,a+1,d=>by
  have g:a<b.length:=by simpa using d
  have c:=zhs b a g;have e:yV (v :: b)=[I v.1.name,Y v.1.pub,v.2,U O v.1.writes,Y v.1.gives,U O v.1.given]++yV b:=rfl;have f:(a+1)*6=a*6+6:=oA;rw[e,f];refine⟨?_,?_,?_,?_,?_,?_⟩;·rw[List.getElem?_append_right oB];simpa using c.1
  ·rw[List.getElem?_append_right oB];simpa using c.2.1
  ·rw[List.getElem?_append_right oB];simpa using c.2.2.1
  ·rw[List.getElem?_append_right oB];simpa using c.2.2.2.1
  ·rw[List.getElem?_append_right oB];simpa using c.2.2.2.2.1
  ·rw[List.getElem?_append_right oB];simpa using c.2.2.2.2.2
theorem zbw:(prog.info? 52).map (fun a=>(a.zero,a.size,a.bytes))=Z (Z (Za #[I ⟨#[]⟩,Y X,U O 0,U O 0]),4,40):=oD
theorem zha:(prog.info? 57).map (fun a=>(a.zero,a.size,a.bytes))=Z (Z (Za #[I ⟨#[]⟩,Y X,J F 0 0,U O 0,Y X,U O 0]),6,72):=oD
def yE (Q:Nat->Prop) (w:Zw) (u:Zv) (l:List Int):Prop:=∃a c,u=J a l.length c/\l.length<=9223372036854775807 /\
 (l≠[]->∃g,a=Z (A g 0 F)/\Q g/\∀i (b:i<l.length),w.cell? (A g i F)=Z (U O l[i]))
theorem yE.to {Q R:Nat->Prop} {w w':Zw} {e:Zv} {c:List Int} (k:yE Q w e c) (l:∀a,Q a->R a) (q:∀a,Q a->∀d v,w.cell? (A a d F)=Z v->w'.cell? (A a d F)=Z v):yE R w' e c:=by
 obtain⟨f,g,h,o,n⟩:=k;refine⟨f,g,h,o,fun p=>?_⟩;obtain⟨j,i,b,m⟩:=n p;exact⟨j,i,l _ b,fun r hi=>q _ b _ _ (m r hi)⟩
theorem yE.ints {c:Nat->Prop} {w:Zw} {b:Zv} {a:List Int} (i:yE c w b a):IntsIn w b a:=by
 obtain⟨d,e,f,l,k⟩:=i;refine⟨d,e,f,l,fun m=>?_⟩;obtain⟨h,g,o,j⟩:=k m;exact⟨h,0,g,fun n hi=>by rw[Nat.zero_add];exact j n hi⟩
theorem yE.own {w:Zw} {e:Nat} {d:Zv} {b:List Int} (a:w.ownsRow e 3 1 d b.length (yG b)):yE (fun o=>e<=o/\o<w.heap.size) w d b:=by
 have v:=a.lt;rcases a.2 with⟨rfl,g⟩|⟨c,f,p,rfl,_,_,r,m,_⟩
 ·have:b=[]:=List.length_eq_zero_iff.1 g;exact oz08x77
 ·refine⟨Z (A c 0 F),f,rfl,by unfold maxLen at m;omega,fun _=>⟨c,rfl,v c rfl,fun h hi=>?_⟩⟩;have:=a.cellAt h oA;rw[this];unfold yG;rw[List.getElem?_map,List.getElem?_eq_getElem hi];rfl
theorem zpa {w:Zw} {e:Nat} {d:Zv} {b:List VarD} (a:w.ownsRow e 52 4 d b.length (qW b)) (n:b.length<=4611686018427387903):bT w d b:=by
 rcases a.2 with⟨rfl,g⟩|⟨c,f,p,rfl,_,_,r,m,_⟩
 ·have:b=[]:=List.length_eq_zero_iff.1 g;exact oz08x77
 ·refine⟨Z (A c 0 F),f,rfl,n,fun _=>⟨c,0,rfl,fun h hi=>?_⟩⟩;obtain⟨i,j,k,l⟩:=zb4 b h hi;simp only[Nat.zero_add];exact⟨(a.cellAt _ oA).trans i,(a.cellAt _ oA).trans j,(a.cellAt _ oA).trans k,(a.cellAt _ oA).trans l⟩
theorem zmg {w:Zw} {e:Nat} {d:Zv} {b:List (ProcD × Zv)} (a:w.ownsRow e 57 6 d b.length (yV b)) (n:b.length<=4611686018427387903) (x:∀q∈b,IntsIn w q.2 q.1.params):bK w d (b.map (·.1)):=by
 rcases a.2 with⟨rfl,g⟩|⟨c,f,p,rfl,_,_,r,m,_⟩
 ·have:b=[]:=List.length_eq_zero_iff.1 g;exact oz08x77
 ·refine⟨Z (A c 0 F),f,by rw[List.length_map],by rw[List.length_map];exact n,fun _=>⟨c,0,rfl,fun h hi=>?_⟩⟩;rw[List.length_map]at hi;obtain⟨i,j,k,l,t,u⟩:=zhs b h hi;simp only[Nat.zero_add,List.getElem_map];exact⟨(a.cellAt _ oA).trans i,(a.cellAt _ oA).trans j,⟨_,(a.cellAt _ oA).trans k,x _ (jH hi)⟩,(a.cellAt _ oA).trans l,(a.cellAt _ oA).trans t,(a.cellAt _ oA).trans u⟩
end face
namespace chk
open Go.RowKit Go.Shelf
open syn face
attribute [local go_sem] Oper.semAt_some
set_option linter.unusedVariables false
set_option linter.unusedSimpArgs false
def bk (a:List VarD) (k:Nat):Nat × VarD:=(a.length - 1 - k,a[a.length - 1 - k]?.getD default)
def upto {α:Type} (f:Nat->α) (k:Nat):List α:=(List.range k).map f
variable {c:Zv} {d:List VarD}
theorem upto_succ {α:Type} (a:Nat->α) (b:Nat):upto a (b+1)=upto a b++[a b]:=by simp[upto,List.range_succ]
theorem upto_length {α:Type} (b:Nat->α) (a:Nat):(upto b a).length=a:=by simp[upto]
def zd2 (x:Nat × VarD):Array Zv:=#[U O (x.1:Int),qC x.2]
set_option maxRecDepth 100000 in
theorem zu6 (l:Fence) (t:Nat) (a3:l.fn 165) (a7:l.round=F) (ag:1<=t) (L k n e P:Nat) (a:List VarD) (af:a.length<=1000) (m:e<n) (R:k<n) (i x:List (Nat × VarD)->Zw->Prop) (a2:∀f u d,i f d->f.length<a.length->YieldAt l (t - 1) prog L (zd2 u) d fun j g =>
   (j=.returned (Y H)/\i (f++[u]) g/\Below n d g)\/(j=.returned (Y X)/\x (f++[u]) g))
  (d:Zw) (S:d.cell? (A k 0 F)=Z (J (Z (A e 0 F)) a.length P)) (G:∀b (o:b<a.length),d.cell? (A e (b*4) F)=Z (I a[b].name)/\d.cell? (A e (b*4+1) F)=Z (Y a[b].pub)/\d.cell? (A e (b*4+2) F)=Z (U O a[b].label)/\d.cell? (A e (b*4+3) F)=Z (U O a[b].size)) (Q:i [] d) :
  CallsIn l t prog 165 #[.func (.yield L) #[] #[],Zp (Z (A k 0 F))] d fun j g=>(∃v,j=.returned v) /\
   ((∃M,M=upto (bk a) a.length/\i M g)\/(∃f,(∃c,c<=a.length/\f=upto (bk a) c)/\x f g)):=by
 have ab:prog.cellsOf 52=4:=cell4;refine callsIn_of_wp func165 rfl a3 ?_ a7;simp only[ntmps165,List.size_toArray,jd,je,Nat.reduceAdd,Nat.reduceSub,Array.replicate_succ,Array.replicate_zero,List.push_toArray,List.append_toArray,js,jK]
 gi_wp2
 gi_loopw [3] (fun s wr=>∃c:Nat,c<=a.length/\s=U O ((a.length:Int) - 1 - c)/\i (upto (bk a) c) wr/\Below n d wr)
  (fun s _=>(intOf s+1).toNat)
 case atStart=>exact⟨0,jz _,oB,Q,Below.refl _ _⟩
 case round =>
  obtain⟨c,ae,rfl,D,h⟩:=hrel;have ad:=(h.cell (p:=(A k 0 F)) R).trans S;by_cases a6:c<a.length
  ·obtain⟨b,o⟩:∃b:Nat,b=a.length - 1 - c:=⟨_,rfl⟩
   have K:b<a.length:=oA;have q:(a.length:Int) - 1 - c=(b:Int):=oA;obtain⟨y,z,B,C⟩:=G b K;have ah:=(h.cell (p:=(A e (b*4) F)) m).trans y;have ai:=(h.cell (p:=(A e (b*4+1) F)) m).trans z;have aj:=(h.cell (p:=(A e (b*4+2) F)) m).trans B;have ak:=(h.cell (p:=(A e (b*4+3) F)) m).trans C
   have E:bk a c=(b,a[b]):=by
    unfold bk;rw[<- o,List.getElem?_eq_getElem K];rfl
   obtain⟨ac,am,a9,aa,r,W⟩:=a2 _ (bk a c) wr D (by rw[upto_length];exact a6);rw[E]at r;unfold zd2 qC at r;dsimp only at r;have w:Hid (upto (bk a) (c+1)=upto (bk a) c++[bk a c]):=upto_succ _ _;rw[q];have N:Hid ((a.length:Int) - 1 - c=(b:Int)):=q;clear G y z B C E o q;generalize a[b]=v at *
   gi_wp2
   refine W.mono ?_;rintro j a8 (⟨rfl,T,a5⟩|⟨rfl,V⟩)
   ·gi_wp2
    go_roundw
    case rel=>exact⟨c+1,oA,by have:=N.out;go_num,by rw[w.out];exact T,h.trans a5⟩
    case measure=>simp[intOf]
   ·gi_wp2
    refine jT (results_none rfl _ _ _) rfl ?_;exact⟨⟨_,rfl⟩,.inr ⟨_,⟨c+1,oA,w.out.symm⟩,V⟩⟩
  ·obtain rfl:c=a.length:=oA
   gi_wp2
   go_end0
   exact⟨⟨_,rfl⟩,.inl ⟨_,rfl,D⟩⟩
attribute [local go_sem] Oper.semAt_some
set_option linter.unusedVariables false
set_option linter.unusedSimpArgs false
set_option maxRecDepth 100000 in
theorem zq2 (a:Fence) (o:Nat) (k:a.fn 165) (l:a.round=F) (n d:Nat) (f:Option Addr) (g:Nat) (b:List (Nat × VarD)->Zw->Prop) (c:Zw) (p:c.cell? (A d 0 F)=Z (J f 0 g)) (i:b [] c) : CallsIn a o prog 165 #[.func (.yield n) #[] #[],Zp (Z (A d 0 F))] c fun h e=>(∃v,h=.returned v)/\b [] e:=by
 refine callsIn_of_wp func165 rfl k ?_ l;simp only[ntmps165,List.size_toArray,jd,je,Nat.reduceAdd,Nat.reduceSub,Array.replicate_succ,Array.replicate_zero,List.push_toArray,List.append_toArray,js,jK]
 gi_wp2
 gi_loopw [3] (fun m wr=>m=U O (-1)/\b [] wr) (fun _ _=>0)
 case atStart=>exact⟨oB,i⟩
 case round =>
  obtain⟨rfl,j⟩:=hrel
  gi_wp2
  go_end0
  exact⟨⟨_,rfl⟩,j⟩
theorem zw9 (a:Fence) (g:Nat) (e:a.fn 158) (f:a.round=F) (b:Option Addr) (len c:Nat) (w:Zw) : CallsIn a g prog 158 #[J b len c] w fun d w'=>d=.returned (.func (.func 165) #[] #[Zp (Z (A w.heap.size 0 F))])/\w'=w.alloc (Zc #[J b len c] 35):=by
 refine callsIn_of_wp func158 rfl e ?_ f;simp only[ntmps158,List.size_toArray,jd,je,Nat.reduceAdd,Nat.reduceSub,Array.replicate_succ,Array.replicate_zero,List.push_toArray,List.append_toArray,js,jK]
 gi_wp2
 go_ret;exact⟨rfl,rfl⟩
def gX (e:Nat) (d:Zw) (u:Zv) (c:List VarD):Prop:=∃a cap,u=J a c.length cap/\(0<c.length->∃b,a=Z (A b 0 F)/\b<e/\∀j (f:j<c.length),d.cell? (A b (j*4) F)=Z (I c[j].name)/\d.cell? (A b (j*4+1) F)=Z (Y c[j].pub)/\d.cell? (A b (j*4+2) F)=Z (U O c[j].label)/\d.cell? (A b (j*4+3) F)=Z (U O c[j].size))
theorem gX.below {g:Nat} {h i:Zw} (f:Below g h i) (w:gX g h c d):gX g i c d:=by
 obtain⟨j,o,q,u⟩:=w;refine⟨j,o,q,fun v=>?_⟩;obtain⟨a,r,b,s⟩:=u v;refine⟨a,r,b,fun e t=>?_⟩;obtain⟨k,l,m,n⟩:=s e t;exact⟨(f.cell (p:=(A a (e*4) F)) b).trans k,(f.cell (p:=(A a (e*4+1) F)) b).trans l,(f.cell (p:=(A a (e*4+2) F)) b).trans m,(f.cell (p:=(A a (e*4+3) F)) b).trans n⟩
theorem gX.mono {b n₁:Nat} {a:Zw} (m:gX b a c d) (n:b<=n₁):gX n₁ a c d:=by
 obtain⟨e,g,h,k⟩:=m;refine⟨e,g,h,fun l=>?_⟩;obtain⟨f,i,o,j⟩:=k l;exact⟨f,i,oA,j⟩
theorem zwr {w:Zw} {e:Nat} (a:w.ownsRow e 52 4 c d.length (qW d)):gX w.heap.size w c d:=by
 rcases a.2 with⟨rfl,k⟩|⟨b,f,m,rfl,_,_,n,o,_⟩
 ·exact⟨F,0,by rw[k],fun p=>oA⟩
 ·refine⟨Z (A b 0 F),f,rfl,fun _=>⟨b,rfl,(a.lt b rfl).2,fun l hi=>?_⟩⟩;obtain⟨g,h,i,j⟩:=zb4 d l hi;exact⟨(a.cellAt _ oA).trans g,(a.cellAt _ oA).trans h,(a.cellAt _ oA).trans i,(a.cellAt _ oA).trans j⟩
theorem zr4 (c:Fence) (e:Nat) (l:c.fn 165) (m:c.round=F) (L:1<=e) (b d:Nat) (r:Zv) (a:List VarD) (K:a.length<=1000) (w:Zw) (v:b<d) (M:d<=w.heap.size) (B:w.cell? (A b 0 F)=Z r) (x:gX d w r a) : SeqStopsK c e prog 165 #[Zp (Z (A b 0 F))] zd2 (Below d) (fun Q=>Q=upto (bk a) a.length) (fun P=>∃o,o<=a.length/\P=upto (bk a) o) a.length w:=fun q g s h k _ _ y j=>by
 have f:=(k.cell (p:=(A b 0 F)) (by show b<w.heap.size;omega)).trans B;obtain⟨t,i,rfl,G⟩:=x.below (k.mono M);rcases Nat.eq_zero_or_pos a.length with n | N
 ·rw[n]at f;refine(zq2 c e l m q b t i g h f j).mono fun S R ⟨D,E⟩=>⟨D,.inl ⟨_,rfl,?_⟩⟩
  rw[n];exact E
 ·obtain⟨u,rfl,z,C⟩:=G N;exact zu6 c e l m L q b d u i a K z v g s y h f C j
end chk
end Go.Proofs.YtjkcecppnmlhjaaGreatDoor
