/- What the program's varOf answers: a contract. -/
import Derived.Test.YtjkcecppnmlhjaaGreatDoorNQr
import Derived.Test.YtjkcecppnmlhjaaGreatDoorNQ09
open Go.Proofs.Tryz
open Go.Value renaming int → U, string → I, slice → J, bool → Y, agg → Za, pointer → Zp
open Go.IntKind renaming i64 → O
open Go.Obj renaming cells → Zc
open Go.Addr renaming mk → A
open Option renaming none → F, some → Z
open Bool renaming false → X, true → H
open Go renaming World → Zw, Value → Zv
set_option maxHeartbeats 4000000
set_option linter.unusedVariables false
set_option linter.unusedSimpArgs false
set_option maxRecDepth 100000
namespace Go.Proofs.YtjkcecppnmlhjaaGreatDoor
theorem oz10y83 {n:Prop} (a:n:=by
 have:=g _ b;simp at this):n:=a
theorem oz10y84 {n:Prop} (a:n:=by
 have:=f _ b;simp at this):n:=a
theorem oz10y85 {aa:Prop} (c:aa:=by
 simp[results,results145,go_sem,ab,ac,ad]):aa:=c
theorem oz10y86 {an:Prop} (d:an:=by
 simp[results,results133,go_sem,a3,a5,a6,a7,a8,a9,bV]):an:=d
theorem oz10x81 {e:Prop} (g:e:=by
 go_enter func114,ntmps114;go_wp2;go_ret
 exact⟨rfl,rfl⟩):e:=g
theorem oz10y82 {c:Prop} (a:c:=by
 intro h;cases h;exact i rfl):c:=a
theorem oz10x80 {e:Prop} (g:e:=by
 go_enter func130,ntmps130;go_wp2;go_ret
 exact⟨rfl,rfl⟩):e:=g
namespace face
open Go.RowKit Go.Maps Go.WideMaps
open syn (kE eqS)
def qI (c a:Int):List PanicEntry:=[{ v:=.iface 28 (Za #[U O c,U O a]),recovered:=X }]
theorem zc8 (D:Nat) (b a:Int) (w:Zw) (d:w.cell? (A D 7 F)=Z (U O a)) : Calls prog 93 #[Zp (Z (A D 0 F)),U O b] w fun c w'=>c=.panicked (qI b a)/\w'=w:=by
 unfold qI;go_enter func93,ntmps93;go_wp2;exact⟨rfl,rfl,rfl⟩
theorem zvt (a:List ByteArray) (b:ByteArray):Maps.has (setD a) (zJ b)=kH a b:=by
 unfold setD;rw[has_setOf _ _ _ (fun d c=>by obtain⟨e,_,rfl⟩:=List.mem_map.1 c;trivial)];exact zio a b
theorem zs6 {a:List ByteArray} (b:apartB [] a=H):Maps.size (setD a)=a.length:=by
 have:=zjb a;rw[b]at this;simpa using this
theorem zhf (w:Zw):(zeroValue 54).run prog w=.ok (Za #[]) w:=oD
theorem zh4:∀(c a:List ByteArray) (b:ByteArray),apartB a (c++[b])=(apartB a c&&!kH (a++c) b)
 | [],a,b=>by simp[apartB]
 | y :: r,a,b=>by
  show(!kH a y&&apartB (a++[y]) (r++[b]))=((!kH a y&&apartB (a++[y]) r)&&!kH (a++y :: r) b)
  rw[zh4 r (a++[y]) b,Bool.and_assoc];simp
theorem zbr (D b:Nat) (L:List ByteArray) (a:ByteArray) (kD:Nat) (d:Int) (w:Zw) (m:w.cell? (A D 7 F)=Z (U O d)) (c:w.ownsMap prog 9 (unitElem (H:=Unit)) b L.length (setD L)) (j:apartB [] L=H) (v:a.size<=1000) (u:kD<=1000) (s:L.length<=1000) : Calls prog 68 #[Zp (Z (A D 0 F)),.map (Z b),I a,U O kD] w fun e w' =>
   (kH L a=H/\e=.panicked (qI 5 d)/\Below w.heap.size w w')\/(kH L a=X/\kD<=L.length/\e=.panicked (qI 1 d)/\Below w.heap.size w w') \/
   (kH L a=X/\L.length<kD/\e=.returned (.tuple #[])/\w'.ownsMap prog 9 (unitElem (H:=Unit)) b (L++[a]).length (setD (L++[a]))/\apartB [] (L++[a])=H/\w.grownBy w' (Z b)):=by
 have g:keyOf prog 9 (I a)=Z (zJ a):=keyOf_string_mk underlying9 (by unfold maxLen;omega);have l:=zs6 j;have f:=zvt L a;have k:=fun q=>kK m q
 cases h:kH L a
 ·rw[h]at f;by_cases o:kD<=L.length
  ·go_enter func68,ntmps68
   go_wp2_with first
    | (at_lookup;refine wpList_lookup_own_unit _ rfl _ _ 50 rfl 9 54 gY underlying50 (zhf _) b _ _ rfl c _ _ rfl g ?_;rw[f])
    | (at_len;refine wpList_len_own _ rfl _ 50 rfl 9 54 underlying50 (unitElem (H:=Unit)) b _ _ rfl (c.alloc _) ?_;rw[l])
    | (go_at_call 93;refine(zc8 D _ d _ (k _)).mono ?_;rintro e w2 ⟨rfl,i⟩;obtain rfl:=i.symm)
    | go_in
   exact⟨rfl,Or.inr (Or.inl ⟨trivial,o,rfl,bal _⟩)⟩
  ·have t:L.length<kD:=oA;have r:apartB [] (L++[a])=H:=by rw[zh4,j,js,h];rfl
   go_enter func68,ntmps68
   go_wp2_with first
    | (at_lookup;refine wpList_lookup_own_unit _ rfl _ _ 50 rfl 9 54 gY underlying50 (zhf _) b _ _ rfl c _ _ rfl g ?_;rw[f])
    | (at_len;refine wpList_len_own _ rfl _ 50 rfl 9 54 underlying50 (unitElem (H:=Unit)) b _ _ rfl (c.alloc _) ?_;rw[l])
    | (at_mapUpdate;refine wpList_mapUpdate_own _ rfl _ _ _ 50 rfl 9 54 gY underlying50 (unitElem (H:=Unit)) b _ _ rfl (c.alloc _) (by unfold maxLen;omega) _ _ _ rfl rfl g _ [] unitElem_mk ?_;intro x p n)
    | go_in
   go_end0
   exact⟨rfl,by rw[zjc];exact p,(((zb0 ((Below.refl w.heap.size w).alloc (jE _) _)).but _).trans n)⟩
 ·rw[h]at f;go_enter func68,ntmps68
  go_wp2_with first
   | (at_lookup;refine wpList_lookup_own_unit _ rfl _ _ 50 rfl 9 54 gY underlying50 (zhf _) b _ _ rfl c _ _ rfl g ?_;rw[f])
   | (go_at_call 93;refine(zc8 D _ d _ (k _)).mono ?_;rintro e w2 ⟨rfl,i⟩;obtain rfl:=i.symm)
   | go_in
  exact⟨rfl,Or.inl ⟨trivial,rfl,bal _⟩⟩
end face
namespace face
open Go.RowKit
open syn
theorem zjj (a c:Bool) (b:Option Bool):(bits BinOp.and IntKind.i64 (2*bI a+bI c+gI b) 2 != 0)=a:=by cases a<;>cases c<;>rcases b with _ | _ | _<;>decide +kernel
theorem zji (c a:Bool) (b:Option Bool):bits BinOp.and IntKind.i64 (2*bI c+bI a+gI b) 1=bI a:=by cases c<;>cases a<;>rcases b with _ | _ | _<;>decide +kernel
theorem zr8 (c b:Bool) (a:Option Bool):bits BinOp.and IntKind.i64 (2*bI c+bI b+gI a) 12=gI a:=by cases c<;>cases b<;>rcases a with _ | _ | _<;>decide +kernel
theorem zpo (d:Int) (f:ByteArray) (m:Int) (a:Option Addr) (e b:Nat) (w:Zw) : Calls prog 102 #[Za #[U O d,I f,U O m,J a e b]] w fun c w'=>c=.returned (Y (bits BinOp.and IntKind.i64 m 2 != 0))/\Below w.heap.size w w':=by
 have g:=kc25;go_enter func102,ntmps102;go_wp2;go_ret;exact⟨rfl,bal _⟩
theorem dX (d:Int) (f:ByteArray) (m:Int) (a:Option Addr) (e b:Nat) (w:Zw) : Calls prog 103 #[Za #[U O d,I f,U O m,J a e b]] w fun c w'=>c=.returned (U O (bits BinOp.and IntKind.i64 m 1))/\Below w.heap.size w w':=by
 have g:=kc25;go_enter func103,ntmps103;go_wp2;go_ret;exact⟨rfl,bal _⟩
abbrev Q4 (N:Nat) (x0 x1 x2 x3:Zv) (w:Zw):Prop:=w.cell? (A N 0 F)=Z x0/\w.cell? (A N 1 F)=Z x1/\w.cell? (A N 2 F)=Z x2/\w.cell? (A N 3 F)=Z x3
theorem Q4.below {w w':Zw} {N:Nat} {x0 x1 x2 x3:Zv} (a:Q4 N x0 x1 x2 x3 w) (b:Below w.heap.size w w'):Q4 N x0 x1 x2 x3 w':=⟨keep a.1 b,keep a.2.1 b,keep a.2.2.1 b,keep a.2.2.2 b⟩
theorem Q4.alloc {w:Zw} {N:Nat} {x0 x1 x2 x3:Zv} (b:Q4 N x0 x1 x2 x3 w) (a:Obj):Q4 N x0 x1 x2 x3 (w.alloc a):=b.below (bal a)
theorem Q4.set4 {w:Zw} {N M:Nat} {x0 x1 x2 x3:Zv} (i:M≠N) (a:Q4 N x0 x1 x2 x3 w) (d e f g:Zv):Q4 N x0 x1 x2 x3 ((((w.setCell (A M 0 F) d).setCell (A M 1 F) e).setCell (A M 2 F) f).setCell (A M 3 F) g):=by
 have one:∀(w:Zw) (b:Nat) (v:Zv),Q4 N x0 x1 x2 x3 w->Q4 N x0 x1 x2 x3 (w.setCell (A M b F) v):=fun w b v a =>
  ⟨by rw[jD _ _ _ _ oz10y82];exact a.1,by rw[jD _ _ _ _ oz10y82];exact a.2.1,by rw[jD _ _ _ _ oz10y82];exact a.2.2.1,by rw[jD _ _ _ _ oz10y82];exact a.2.2.2⟩
 exact one _ _ _ (one _ _ _ (one _ _ _ (one _ _ _ a)))
structure F4 (w:Zw) (N:Nat) (x0 x1 x2 x3:Zv):Prop where
 c0:w.cell? (A N 0 F)=Z x0
 c1:w.cell? (A N 1 F)=Z x1
 c2:w.cell? (A N 2 F)=Z x2
 c3:w.cell? (A N 3 F)=Z x3
 f0:w.frozen? (A N 0 F)=X
 f1:w.frozen? (A N 1 F)=X
 f2:w.frozen? (A N 2 F)=X
 f3:w.frozen? (A N 3 F)=X
theorem F4.new (w:Zw) (x0 x1 x2 x3:Zv) (T:TypeId):F4 (w.alloc (Zc #[x0,x1,x2,x3] T)) w.heap.size x0 x1 x2 x3:=oV
theorem F4.lt {w:Zw} {N:Nat} {x0 x1 x2 x3:Zv} (a:F4 w N x0 x1 x2 x3):N<w.heap.size:=jR w (A N 0 F) a.c0
theorem F4.block {w w':Zw} {N:Nat} {x0 x1 x2 x3:Zv} (b:F4 w N x0 x1 x2 x3) (c:w'.heap[N]?=w.heap[N]?):F4 w' N x0 x1 x2 x3 :=
 ⟨(jM (a:=(A N 0 F)) c).trans b.c0,(jM (a:=(A N 1 F)) c).trans b.c1,(jM (a:=(A N 2 F)) c).trans b.c2,(jM (a:=(A N 3 F)) c).trans b.c3,(jN (a:=(A N 0 F)) c).trans b.f0,(jN (a:=(A N 1 F)) c).trans b.f1,(jN (a:=(A N 2 F)) c).trans b.f2,(jN (a:=(A N 3 F)) c).trans b.f3⟩
theorem F4.below {w w':Zw} {N:Nat} {x0 x1 x2 x3:Zv} (a:F4 w N x0 x1 x2 x3) (b:Below w.heap.size w w'):F4 w' N x0 x1 x2 x3:=a.block (b.block N a.lt)
end face
namespace chk
open Go.RowKit
open syn face
theorem vD (b a:Int) (w:Zw) : Calls prog 87 #[U O b,U O a] w fun c w'=>c=.panicked (qI b a)/\w'=w:=by
 unfold qI;go_enter func87,ntmps87;go_wp2;exact⟨rfl,rfl,rfl⟩
theorem zad (a b:Int) (w:Zw):Calls prog 130 #[U O a,U O b] w fun f w'=>f=.returned (U O (jn a b))/\w'=w:=by
 unfold jn;by_cases c:a=0
 ·by_cases d:b=0;·rw[ju (by simp[c,d])];exact oz10x80
  ·rw[jv (.inr d)];exact oz10x80
 ·rw[jv (.inl c)];exact oz10x80
theorem zpn (D:Nat) (a:Int) (w:Zw) (c:w.cell? (A D 7 F)=Z (U O a)) (f:w.frozen? (A D 7 F)=X) (d:0<=a) (e:a<=1000000) : Calls prog 49 #[Zp (Z (A D 0 F))] w fun b w'=>b=.returned (U O a)/\w'=w.setCell (A D 7 F) (U O (a+1)):=by
 go_enter func49,ntmps49;go_wp2;go_ret;exact⟨rfl,rfl⟩
def zE (to:Int) (a:List Int):Bool:=a.all fun l=>jn to l==to
def FL (w:Zw) (to a:Int) (b:List Int) (e:Ending) (w':Zw):Prop:=(zE to b=H/\e=.returned (.tuple #[])/\w'=w)\/(zE to b=X/\e=.panicked (qI 7 a)/\w'=w)
theorem fP (p to:Int) (a:List Int) (u:Zv) (w:Zw) (y:IntsIn w u a) : Calls prog 105 #[U O p,U O to,u] w (FL w to p a):=by
 obtain⟨P,Q,rfl,G,t⟩:=y;have K:(a.length:Int)<=9223372036854775807:=oA;go_enter func105,ntmps105;go_wp2;go_loopw [10] (fun n wr=>∃c:Nat,c<=a.length/\n=U O c/\Hid (∀b (hi:b<a.length),b<c->(jn to a[b]==to)=H)/\wr=w) (fun n _=>a.length - (intOf n).toNat)
 case atStart=>exact⟨0,jz _,rfl,fun b hi q=>absurd q oA,rfl⟩
 case round =>
  obtain⟨c,E,rfl,o,rfl⟩:=hrel;by_cases g:c<a.length
  ·obtain⟨C,N,rfl,s⟩:=t (by intro e;rw[e]at g;simp at g);have M:=s c g
   have i:Hid (∀d,(jn to a[c]==to)=d->d=X->zE to a=X):=fun d k l=>by
    unfold zE;rw[List.all_eq_false];exact⟨a[c],jH g,by rw[k,l];decide⟩
   have HS:Hid (∀d,(jn to a[c]==to)=d->d=H->∀b (hi:b<a.length),b<c+1->(jn to a[b]==to)=H):=fun d k l b hi q=>by
    rcases jL b c with r | r
    ·exact o.out b hi r
    ·obtain rfl:b=c:=oA;exact k.trans l
   clear s t;generalize a[c]=h at *;cases f:(jn to h==to)
   ·have j:Hid (zE to a=X):=i.out _ f rfl;have L:¬jn to h=to:=by simpa using f
    clear i HS
    go_wp2_with first
     | (go_at_call 130;refine(zad _ _ _).mono ?_;rintro e B ⟨rfl,m⟩;obtain rfl:=m.symm)
     | (go_at_call 87;refine(vD _ _ _).mono ?_;rintro e R ⟨rfl,z⟩;obtain rfl:=z.symm)
    exact⟨rfl,.inr ⟨j.out,rfl,rfl⟩⟩
   ·have v:=HS.out _ f rfl;have D:jn to h=to:=by simpa using f
    clear i HS;go_wp2_with (go_at_call 130;refine(zad _ _ _).mono ?_;rintro e B ⟨rfl,m⟩;obtain rfl:=m.symm);go_roundw
    case rel=>exact⟨c+1,oA,oJ,v,trivial⟩
    case measure=>simp[intOf];omega
  ·have j:Hid (zE to a=H):=by
    show _=_;unfold zE;rw[List.all_eq_true];intro h x;obtain⟨b,hi,rfl⟩:=List.mem_iff_getElem.1 x;exact o.out b hi oA
   go_wp2
   go_end0
   exact .inl ⟨j.out,rfl,rfl⟩
end chk
namespace face
open Go.RowKit
structure FR (xx:Nat->Prop) (B:Nat) (w:Zw) (vv pv:Zv) (V:List VarD) (P:List (ProcD × Zv)):Prop where
 ov:w.ownsRow B 52 4 vv V.length (qW V)
 op:w.ownsRow B 57 6 pv P.length (yV P)
 par:∀q∈P,yE (fun b=>B<=b/\b<w.heap.size/\vv.ownBlock≠Z b/\pv.ownBlock≠Z b/\¬xx b) w q.2 q.1.params
 dj:∀b,vv.ownBlock=Z b->pv.ownBlock≠Z b
 xv:∀b,vv.ownBlock=Z b->¬xx b
 xp:∀b,pv.ownBlock=Z b->¬xx b
section
variable {xx:Nat->Prop} {B:Nat} {w w':Zw} {vv pv:Zv} {V:List VarD} {P:List (ProcD × Zv)}
theorem FR.nil (xx:Nat->Prop) (B:Nat) (w:Zw):FR xx B w (J F 0 0) (J F 0 0) [] [] :=
 ⟨World.ownsRow_nil _ _ _ _,World.ownsRow_nil _ _ _ _,(fun d c=>by cases c),(fun b a=>by cases a),(fun b a=>by cases a),(fun b a=>by cases a)⟩
theorem FR.grown {row:Option Nat} (b:FR xx B w vv pv V P) (e:w.grownBy w' row) (g:∀a,row=Z a->xx a):FR xx B w' vv pv V P:=by
 have k:vv.ownBlock=F\/vv.ownBlock≠row:=by
  cases c:vv.ownBlock with
  | none=>exact .inl rfl
  | some a=>exact .inr (fun f=>b.xv a c (g a f.symm))
 have i:pv.ownBlock=F\/pv.ownBlock≠row:=by
  cases c:pv.ownBlock with
  | none=>exact .inl rfl
  | some a=>exact .inr (fun f=>b.xp a c (g a f.symm))
 refine⟨b.ov.kept e k,b.op.kept e i,fun l j=>?_,b.dj,b.xv,b.xp⟩;exact(b.par l j).to (fun a d=>⟨d.1,jo d.2.1 e.size,d.2.2⟩) (fun a d m v h=>cell_grown e h (fun c=>d.2.2.2.2 (g a c)))
theorem FR.below (c:FR xx B w vv pv V P) (a:Below w.heap.size w w'):FR xx B w' vv pv V P :=
 c.grown (row:=F) ⟨a.os,a.tape,a.output,a.size,fun e d _=>a.block e d⟩ (fun f b=>by cases b)
theorem FR.alloc (b:FR xx B w vv pv V P) (a:Obj):FR xx B (w.alloc a) vv pv V P:=b.below (bal a)
theorem FR.drew (a:FR xx B w vv pv V P):FR xx B w.drew vv pv V P:=⟨a.ov,a.op,a.par,a.dj,a.xv,a.xp⟩
theorem FR.set (a:FR xx B w vv pv V P) {M o:Nat} (i:M<B) (v:Zv):FR xx B (w.setCell (A M o F) v) vv pv V P:=by
 refine⟨jU a.ov (fun b=>by have:=(a.ov.lt _ b).1;simp at this;omega) _,jU a.op (fun b=>by have:=(a.op.lt _ b).1;simp at this;omega) _,fun g f=>?_,a.dj,a.xv,a.xp⟩
 exact(a.par g f).to (fun d c=>⟨c.1,by rw[jQ];exact c.2.1,c.2.2⟩) (fun d c j k e=>by
  rw[jD _ _ _ _ (by intro b;have h:=c.1;cases b;omega)]
  exact e)
theorem FR.pushV (e:FR xx B w vv pv V P) {v:VarD} {b k:Nat} (o:w'.ownsRow B 52 4 (J (Z (A b 0 F)) (V.length+1) k) (V.length+1) (qW V++[I v.name,Y v.pub,U O v.label,U O v.size])) (j:w.grownBy w' vv.ownBlock) (i:vv.ownBlock=Z b\/b=w.heap.size) (l:∀a,w.heap.size<=a->¬xx a):FR xx B w' (J (Z (A b 0 F)) (V.length+1) k) pv (V++[v]) P:=by
 have p:pv.ownBlock=F\/pv.ownBlock≠vv.ownBlock:=by
  cases d:pv.ownBlock with
  | none=>exact .inl rfl
  | some a=>exact .inr (fun g=>e.dj a g.symm d)
 have n:∀a,Z b=Z a->pv.ownBlock≠Z a:=fun a d g=>by
  cases d;rcases i with c | c
  ·exact e.dj b c g
  ·have:=(e.op.lt _ g).2;omega
 refine⟨by rw[zhm,jb];exact o,e.op.kept j p,fun r q=>?_,n,fun a d=>?_,e.xp⟩
 ·refine(e.par r q).to (fun a f=>⟨f.1,jo f.2.1 j.size,fun d=>?_,f.2.2.2⟩) (fun a f s v m=>cell_grown j m f.2.2.1);have h:Z b=Z a:=d;cases h;rcases i with c | c
  ·exact f.2.2.1 c
  ·have:=f.2.1;omega
 ·have h:Z b=Z a:=d;cases h;rcases i with c | c
  ·exact e.xv b c
  ·exact l b oA
theorem FR.pushP (f:FR xx B w vv pv V P) {q:ProcD × Zv} {c l:Nat} (p:w'.ownsRow B 57 6 (J (Z (A c 0 F)) (P.length+1) l) (P.length+1) (yV P++[I q.1.name,Y q.1.pub,q.2,U O q.1.writes,Y q.1.gives,U O q.1.given])) (j:w.grownBy w' pv.ownBlock) (i:pv.ownBlock=Z c\/c=w.heap.size) (n:∀a,w.heap.size<=a->¬xx a) (s:yE (fun a=>B<=a/\a<w.heap.size/\vv.ownBlock≠Z a/\pv.ownBlock≠Z a/\¬xx a) w q.2 q.1.params):FR xx B w' vv (J (Z (A c 0 F)) (P.length+1) l) V (P++[q]):=by
 have t:vv.ownBlock=F\/vv.ownBlock≠pv.ownBlock:=by
  cases d:vv.ownBlock with
  | none=>exact .inl rfl
  | some a=>exact .inr (fun h=>f.dj a d h.symm)
 refine⟨f.ov.kept j t,by rw[zqy,jb];exact p,fun k m=>?_,fun a d h=>?_,f.xv,fun a d=>?_⟩
 ·have r:yE (fun a=>B<=a/\a<w.heap.size/\vv.ownBlock≠Z a/\pv.ownBlock≠Z a/\¬xx a) w k.2 k.1.params:=by
   rw[List.mem_append]at m;rcases m with b | b
   ·exact f.par k b
   ·simp only[jy]at b;subst b;exact s
  refine r.to (fun a e=>⟨e.1,jo e.2.1 j.size,e.2.2.1,fun d=>?_,e.2.2.2.2⟩) (fun a e u v o=>cell_grown j o e.2.2.2.1);have g:Z c=Z a:=d;cases g;rcases i with b | b
  ·exact e.2.2.2.1 b
  ·have:=e.2.1;omega
 ·have g:Z c=Z a:=h;cases g;rcases i with b | b
  ·exact f.dj c d b
  ·have:=(f.ov.lt _ d).2;omega
 ·have g:Z c=Z a:=d;cases g;rcases i with b | b
  ·exact f.xp c b
  ·exact n c oA
theorem FR.face {m:ByteArray} (a:FR xx B w vv pv V P) (e:V.length<=1000) (d:P.length<=1000):qX w (Za #[I m,vv,pv]) ⟨m,V,P.map (·.1)⟩ :=
 ⟨vv,pv,rfl,zpa a.ov (by show V.length<=_;omega),zmg a.op oA (fun c b=>(a.par c b).ints)⟩
theorem FR.shapeV (d:FR xx B w vv pv V P):∃a b,vv=J a V.length b:=by
 obtain⟨a,b,c,_⟩:=lexs.own_shape d.ov;exact⟨a,b,c⟩
theorem FR.shapeP (d:FR xx B w vv pv V P):∃a b,pv=J a P.length b:=by
 obtain⟨a,b,c,_⟩:=lexs.own_shape d.op;exact⟨a,b,c⟩
end
structure Box3 (w:Zw) (N:Nat) (x0 x1 x2:Zv):Prop where
 c0:w.cell? (A N 0 F)=Z x0
 c1:w.cell? (A N 1 F)=Z x1
 c2:w.cell? (A N 2 F)=Z x2
 f0:w.frozen? (A N 0 F)=X
 f1:w.frozen? (A N 1 F)=X
 f2:w.frozen? (A N 2 F)=X
section
variable {w w':Zw} {N:Nat} {x0 x1 x2:Zv}
theorem Box3.new (w:Zw) (x0 x1 x2:Zv) (T:TypeId):Box3 (w.alloc (Zc #[x0,x1,x2] T)) w.heap.size x0 x1 x2:=oV
theorem Box3.lt (a:Box3 w N x0 x1 x2):N<w.heap.size:=jR w (A N 0 F) a.c0
theorem Box3.block (b:Box3 w N x0 x1 x2) (c:w'.heap[N]?=w.heap[N]?):Box3 w' N x0 x1 x2 :=
 ⟨(jM (a:=(A N 0 F)) c).trans b.c0,(jM (a:=(A N 1 F)) c).trans b.c1,(jM (a:=(A N 2 F)) c).trans b.c2,(jN (a:=(A N 0 F)) c).trans b.f0,(jN (a:=(A N 1 F)) c).trans b.f1,(jN (a:=(A N 2 F)) c).trans b.f2⟩
theorem Box3.below (a:Box3 w N x0 x1 x2) (b:Below w.heap.size w w'):Box3 w' N x0 x1 x2:=a.block (b.block N a.lt)
theorem Box3.alloc (b:Box3 w N x0 x1 x2) (a:Obj):Box3 (w.alloc a) N x0 x1 x2:=b.below (bal a)
theorem Box3.grown {row:Option Nat} (a:Box3 w N x0 x1 x2) (c:w.grownBy w' row) (d:row≠Z N):Box3 w' N x0 x1 x2:=a.block (c.block N a.lt (fun b=>d b.symm))
theorem Box3.other (b:Box3 w N x0 x1 x2) {M o:Nat} (c:M≠N) (v:Zv):Box3 (w.setCell (A M o F) v) N x0 x1 x2:=b.block (jP _ _ _ _ (fun a=>c (by rw[a])))
theorem Box3.set1 (a:Box3 w N x0 x1 x2) (v:Zv):Box3 (w.setCell (A N 1 F) v) N x0 v x2 :=
 ⟨by rw[jD _ _ _ _ oB];exact a.c0,jS _ _ _ a.c1,by rw[jD _ _ _ _ oB];exact a.c2,by simp[a.f0],by simp[a.f1],by simp[a.f2]⟩
theorem Box3.set2 (a:Box3 w N x0 x1 x2) (v:Zv):Box3 (w.setCell (A N 2 F) v) N x0 x1 v :=
 ⟨by rw[jD _ _ _ _ oB];exact a.c0,by rw[jD _ _ _ _ oB];exact a.c1,jS _ _ _ a.c2,by simp[a.f0],by simp[a.f1],by simp[a.f2]⟩
end
end face
namespace face
open Go.RowKit
open syn (kE eqS)
def uU (w:Zw) (v:Zv) (l:List ByteArray):Prop:=∃a c,v=J a l.length c/\l.length<=9223372036854775807 /\
 (l≠[]->∃g o,a=Z (A g o F)/\∀i (b:i<l.length),w.cell? (A g (o+i) F)=Z (I l[i]))
theorem zte {a:List ByteArray} {c:ByteArray} (b:Nat) (d:b<a.length) (e:eqS a[b] c=H):kH a c=H:=by
 unfold kH;rw[List.any_eq_true];exact⟨a[b],jH d,e⟩
theorem zr2 {a:List ByteArray} {b:ByteArray} (d:∀i (g:i<a.length),eqS a[i] b=X):kH a b=X:=by
 unfold kH;rw[List.any_eq_false];intro h e;obtain⟨f,c,rfl⟩:=List.mem_iff_getElem.1 e;simp[d f c]
theorem rPlace (b:List ByteArray) (d:ByteArray) (v:Zv) (w:Zw) (q:uU w v b) : Calls prog 26 #[v,I d] w fun i w'=>(∃o:Int,i=.returned (U O o)/\decide (0<=o)=kH b d)/\w'=w:=by
 obtain⟨s,t,rfl,z,n⟩:=q;go_enter func26,ntmps26;go_wp2;go_loopw [5] (fun j wr=>∃a:Nat,a<=b.length/\j=U O a/\wr=w/\Hid (∀c (g:c<b.length),c<a->eqS b[c] d=X)) (fun j _=>b.length - (intOf j).toNat)
 case atStart=>exact⟨0,jz _,rfl,rfl,fun c _ g=>oA⟩
 case round =>
  obtain⟨a,y,rfl,rfl,k⟩:=hrel;by_cases h:a<b.length
  ·obtain⟨u,B,rfl,m⟩:=n (by intro i;rw[i]at h;simp at h);have p:=m a h;clear m n;cases e:eqS b[a] d
   ·have f:Hid (eqS b[a] d=X):=e;unfold eqS at e;generalize b[a]=r at e p;go_wp2;go_roundw
    case rel=>exact⟨a+1,oA,oJ,by trivial,fun c g x=>by
     rcases jL c a with l | l
     ·exact k.out c g l
     ·have:c=a:=oA;subst this
      exact f.out⟩
    case measure=>simp[intOf];omega
   ·have f:Hid (kH b d=H):=zte a h e;unfold eqS at e;generalize b[a]=r at e p;go_wp2;go_ret;exact⟨⟨_,rfl,by rw[f.out];simp⟩,rfl⟩
  ·have f:Hid (kH b d=X):=zr2 (fun c g=>k.out c g oA);go_wp2;go_ret;exact⟨⟨_,rfl,by rw[f.out];simp⟩,rfl⟩
end face
namespace face
open Go.RowKit
open syn
variable {a c d:Nat} {e:List Kid} {f:List (ProcD × Zv)} {h:ByteArray}
theorem xF (w:Zw) (a:Array Zv) (e:TypeId) (c:Nat) (f:c=w.heap.size):∀b d,a.toList[b]?=Z d->(w.alloc (Zc a e)).cell? (((A c 0 F):Addr).add b)=Z d:=by
 subst f;exact World.news_of_block (MapKept.heap_alloc w _).1
theorem fW (all:Bool):∀a:List Kid,(kI all a).length<=a.length
 | []=>jE _
 | .imp x :: r=>by have:=fW all r;show(kI all r).length<=r.length+1;omega
 | .var x p l n :: r=>by
  have:=fW all r;show(if all||p then zY x p l n :: kI all r else kI all r).length<=r.length+1
  split<;>(try simp only[jd])<;>omega
 | .proc _ _ _ _ _ _ :: r=>by have:=fW all r;show(kI all r).length<=r.length+1;omega
theorem fV (all:Bool):∀a:List Kid,(kL all a).length<=a.length
 | []=>jE _
 | .imp x :: r=>by have:=fV all r;show(kL all r).length<=r.length+1;omega
 | .var x p l n :: r=>by have:=fV all r;show(kL all r).length<=r.length+1;omega
 | .proc x p l g ps b :: r=>by
  have:=fV all r;show(if all||p then kO x p l g ps :: kL all r else kL all r).length<=r.length+1;split<;>(try simp only[jd])<;>omega
structure GI (all:Bool) (w wr:Zw) (m:ByteArray) (K:List Kid) (kv vv pv:Zv) (j:Nat) (Pq:List (ProcD × Zv)):Prop where
 below:Below w.heap.size w wr
 q3:wr.cell? (A w.heap.size 3 F)=Z kv
 b1:Box3 wr (w.heap.size+1) (I ⟨#[]⟩) (J F 0 0) (J F 0 0)
 b2:Box3 wr (w.heap.size+1+1) (I m) vv pv
 fr:FR (fun _=>False) (w.heap.size+3) wr vv pv (kI all (K.take j)) Pq
 pq:Pq.map (·.1)=kL all (K.take j)
theorem GI.next {all:Bool} {w wr w2:Zw} {m:ByteArray} {kv vv pv:Zv} (b:GI all w wr m e kv vv pv a f) (c:Below wr.heap.size wr w2):GI all w w2 m e kv vv pv a f :=
 ⟨b.below.trans (c.mono b.below.size),keep b.q3 c,b.b1.below c,b.b2.below c,b.fr.below c,b.pq⟩
theorem GI.skip {all:Bool} {w wr:Zw} {m:ByteArray} {kv vv pv:Zv} (b:GI all w wr m e kv vv pv a f) (c:kI all (e.take (a+1))=kI all (e.take a)) (d:kL all (e.take (a+1))=kL all (e.take a)):GI all w wr m e kv vv pv (a+1) f :=
 ⟨b.below,b.q3,b.b1,b.b2,by rw[c];exact b.fr,by rw[d];exact b.pq⟩
theorem GI.pushV {all:Bool} {w wr w2:Zw} {m:ByteArray} {kv vv pv:Zv} {v:VarD} (b:GI all w wr m e kv vv pv a f) (l:kI all (e.take (a+1))=kI all (e.take a)++[v]) (n:kL all (e.take (a+1))=kL all (e.take a)) (p:w2.ownsRow (w.heap.size+3) 52 4 (J (Z (A c 0 F)) ((kI all (e.take a)).length+1) d) ((kI all (e.take a)).length+1) (qW (kI all (e.take a))++[I v.name,Y v.pub,U O v.label,U O v.size])) (h:wr.grownBy w2 vv.ownBlock) (o:vv.ownBlock=Z c\/c=wr.heap.size):GI all w (w2.setCell (A (w.heap.size+1+1) 1 F) (J (Z (A c 0 F)) ((kI all (e.take a)).length+1) d)) m e kv (J (Z (A c 0 F)) ((kI all (e.take a)).length+1) d) pv (a+1) f:=by
 have j:∀i,vv.ownBlock=Z i->w.heap.size+3<=i:=fun i k=>(b.fr.ov.lt _ k).1
 refine⟨?_,?_,?_,?_,?_,by rw[n];exact b.pq⟩;·exact Below.setCell (b.below.grown h b.below.size (fun i k=>by have:=j i k;omega)) (by show w.heap.size<=w.heap.size+1+1;omega) _
 ·rw[jD _ _ _ _ oB];exact cell_grown h b.q3 (fun g=>by have:=j _ g;simp at this;omega)
 ·exact(b.b1.grown h (fun g=>by have:=j _ g;omega)).other oA _
 ·exact(b.b2.grown h (fun g=>by have:=j _ g;omega)).set1 _
 ·rw[l];exact(b.fr.pushV p h o (fun _ _ b=>b)).set oA _
theorem GI.pushP {all:Bool} {w wr w2:Zw} {m:ByteArray} {kv vv pv:Zv} {q:ProcD × Zv} (b:GI all w wr m e kv vv pv a f) (n:kI all (e.take (a+1))=kI all (e.take a)) (o:kL all (e.take (a+1))=kL all (e.take a)++[q.1]) (r:w2.ownsRow (w.heap.size+3) 57 6 (J (Z (A c 0 F)) (f.length+1) d) (f.length+1) (yV f++[I q.1.name,Y q.1.pub,q.2,U O q.1.writes,Y q.1.gives,U O q.1.given])) (h:wr.grownBy w2 pv.ownBlock) (p:pv.ownBlock=Z c\/c=wr.heap.size) (s:yE (fun j=>w.heap.size+3<=j/\j<wr.heap.size/\vv.ownBlock≠Z j/\pv.ownBlock≠Z j/\¬False) wr q.2 q.1.params) : GI all w (w2.setCell (A (w.heap.size+1+1) 2 F) (J (Z (A c 0 F)) (f.length+1) d)) m e kv vv (J (Z (A c 0 F)) (f.length+1) d) (a+1) (f++[q]):=by
 have k:∀i,pv.ownBlock=Z i->w.heap.size+3<=i:=fun i l=>(b.fr.op.lt _ l).1
 refine⟨?_,?_,?_,?_,?_,by rw[List.map_append,b.pq,o];rfl⟩;·exact Below.setCell (b.below.grown h b.below.size (fun i l=>by have:=k i l;omega)) (by show w.heap.size<=w.heap.size+1+1;omega) _
 ·rw[jD _ _ _ _ oB];exact cell_grown h b.q3 (fun g=>by have:=k _ g;simp at this;omega)
 ·exact(b.b1.grown h (fun g=>by have:=k _ g;omega)).other oA _
 ·exact(b.b2.grown h (fun g=>by have:=k _ g;omega)).set2 _
 ·rw[n];exact(b.fr.pushP r h p (fun _ _ b=>b) s).set oA _
theorem zxy {all:Bool} (d:a<e.length) {p b:Bool} {c:Option Int} (f:e[a]=.var h p b c) : kI all (e.take (a+1))=kI all (e.take a)++(if all||p then[zY h p b c] else[])/\kL all (e.take (a+1))=kL all (e.take a):=by
 rw[zam e a d,fU,fT,f];refine⟨?_,by simp[kL]⟩
 congr 1
theorem zvz {all:Bool} (f:a<e.length) {p c:Bool} {b:Option Bool} {ps:List (ByteArray × Bool)} {d:Tree} (g:e[a]=.proc h p c b ps d) : kL all (e.take (a+1))=kL all (e.take a)++(if all||p then[kO h p c b ps] else[])/\kI all (e.take (a+1))=kI all (e.take a):=by
 rw[zam e a f,fU,fT,g];refine⟨?_,by simp[kI]⟩
 congr 1
theorem zxx {all:Bool} (b:a<e.length) (c:e[a]=.imp h) : kL all (e.take (a+1))=kL all (e.take a)/\kI all (e.take (a+1))=kI all (e.take a):=by
 rw[zam e a b,fU,fT,c];exact⟨by simp[kL],by simp[kI]⟩
theorem cell_far {w:Zw} {a:Addr} {c:Zv} (d:w.cell? a=Z c) {M o:Nat} (e:M≠a.block) (f:Zv):(w.setCell (A M o F) f).cell? a=Z c:=by
 rw[jD _ _ _ _ (by intro b;apply e;first | (rw[b]) | (rw[<- b]))];exact d
theorem yX {w:Zw} (a:Obj):Below w.heap.size w (w.alloc a):=bal a
theorem zjh {w w2:Zw} {a:Obj} (b:Below (w.alloc a).heap.size (w.alloc a) w2):Below w.heap.size w w2:=(yX a).trans (b.mono oB)
theorem zbd {w:Zw} {B:Nat} {v:Zv} {L:List ByteArray} (a:w.ownsRow B 9 1 v L.length (yU L)):uU w v L:=by
 rcases a.2 with⟨rfl,e⟩|⟨b,c,g,rfl,_,_,h,d,_⟩
 ·have:L=[]:=List.length_eq_zero_iff.1 e;subst this;exact⟨F,0,rfl,oB,fun a=>absurd rfl a⟩
 ·refine⟨Z (A b 0 F),c,rfl,by unfold maxLen at d;omega,fun _=>⟨b,0,rfl,fun f hi=>?_⟩⟩;have:=a.cellAt f oA;rw[Nat.zero_add,this];unfold yU;rw[List.getElem?_map,List.getElem?_eq_getElem hi];rfl
theorem dY {w w':Zw} {B:Nat} {d:TypeId} {v:Zv} {e:List Zv} (f:w.ownsRow B d a v c e) (b:Below w.heap.size w w'):w'.ownsRow B d a v c e :=
 f.kept (row:=F) ⟨b.os,b.tape,b.output,b.size,fun h g _=>b.block h g⟩ (by cases v.ownBlock<;>simp)
structure LI (w wr:Zw) (m:ByteArray) (kv iv nv:Zv) (is ns:List ByteArray):Prop where
 below:Below w.heap.size w wr
 q1:wr.cell? (A w.heap.size 1 F)=Z (I m)
 q3:wr.cell? (A w.heap.size 3 F)=Z kv
 r0:wr.cell? (A (w.heap.size+1) 0 F)=Z (U O 0)
 r1:wr.cell? (A (w.heap.size+1) 1 F)=Z (U O 0)
 z0:wr.frozen? (A (w.heap.size+1) 0 F)=X
 z1:wr.frozen? (A (w.heap.size+1) 1 F)=X
 oi:wr.ownsRow (w.heap.size+2) 9 1 iv is.length (yU is)
 on:wr.ownsRow (w.heap.size+2) 9 1 nv ns.length (yU ns)
 dj:∀b,iv.ownBlock=Z b->nv.ownBlock≠Z b
section
variable {w wr w2:Zw} {m:ByteArray} {kv iv nv:Zv} {is ns:List ByteArray}
theorem LI.lt (a:LI w wr m kv iv nv is ns):w.heap.size+1<wr.heap.size:=jR wr (A (w.heap.size+1) 0 F) a.r0
theorem cP {w w':Zw} {row:Option Nat} (d:w.grownBy w' row) {a:Addr} (e:a.block<w.heap.size) (c:w.frozen? a=X) (f:row≠Z a.block):w'.frozen? a=X:=by
 rw[jN (a:=a) (d.block a.block e (fun b=>f b.symm))];exact c
theorem LI.next (a:LI w wr m kv iv nv is ns) (b:Below wr.heap.size wr w2):LI w w2 m kv iv nv is ns :=
 have c:wr.grownBy w2 F:=⟨b.os,b.tape,b.output,b.size,fun e d _=>b.block e d⟩
 ⟨a.below.trans (b.mono a.below.size),keep a.q1 b,keep a.q3 b,keep a.r0 b,keep a.r1 b,cP c a.lt a.z0 oB,cP c a.lt a.z1 oB,dY a.oi b,dY a.on b,a.dj⟩
theorem LI.pushI (a:LI w wr m kv iv nv is ns) {x:ByteArray} {d j:Nat} (q:w2.ownsRow (w.heap.size+2) 9 1 (J (Z (A d 0 F)) (is.length+1) j) (is.length+1) (yU is++[I x])) (c:wr.grownBy w2 iv.ownBlock) (p:iv.ownBlock=Z d\/d=wr.heap.size) : LI w w2 m kv (J (Z (A d 0 F)) (is.length+1) j) nv (is++[x]) ns:=by
 have g:∀e,iv.ownBlock=Z e->w.heap.size+2<=e:=fun e i=>(a.oi.lt _ i).1
 have l:=a.lt
 refine⟨a.below.grown c a.below.size (fun e i=>by have:=g e i;omega),cell_grown c a.q1 (fun b=>by have:=g _ b;simp at this;omega),cell_grown c a.q3 (fun b=>by have:=g _ b;simp at this;omega),
  cell_grown c a.r0 (fun b=>oz10y83),cell_grown c a.r1 (fun b=>oz10y83),cP c l a.z0 (fun b=>oz10y83),cP c l a.z1 (fun b=>oz10y83),?_,?_,?_⟩
 ·rw[zcj,jb];exact q
 ·refine a.on.kept c ?_
  cases b:nv.ownBlock with
  | none=>exact .inl rfl
  | some h=>exact .inr (fun f=>a.dj h f.symm b)
 ·intro h b f;have o:Z d=Z h:=b;cases o;rcases p with k | k
  ·exact a.dj d k f
  ·have:=(a.on.lt _ f).2;omega
theorem LI.pushN (a:LI w wr m kv iv nv is ns) {o:ByteArray} {d j:Nat} (r:w2.ownsRow (w.heap.size+2) 9 1 (J (Z (A d 0 F)) (ns.length+1) j) (ns.length+1) (yU ns++[I o])) (c:wr.grownBy w2 nv.ownBlock) (q:nv.ownBlock=Z d\/d=wr.heap.size) : LI w w2 m kv iv (J (Z (A d 0 F)) (ns.length+1) j) is (ns++[o]):=by
 have f:∀e,nv.ownBlock=Z e->w.heap.size+2<=e:=fun e i=>(a.on.lt _ i).1
 have l:=a.lt
 refine⟨a.below.grown c a.below.size (fun e i=>by have:=f e i;omega),cell_grown c a.q1 (fun b=>by have:=f _ b;simp at this;omega),cell_grown c a.q3 (fun b=>by have:=f _ b;simp at this;omega),
  cell_grown c a.r0 (fun b=>oz10y84),cell_grown c a.r1 (fun b=>oz10y84),cP c l a.z0 (fun b=>oz10y84),cP c l a.z1 (fun b=>oz10y84),?_,?_,?_⟩
 ·refine a.oi.kept c ?_
  cases b:iv.ownBlock with
  | none=>exact .inl rfl
  | some g=>exact .inr (fun h=>a.dj g b h.symm)
 ·rw[zcj,jb];exact r
 ·intro g b h;have p:Z d=Z g:=h;cases p;rcases q with k | k
  ·exact a.dj d b k
  ·have:=(a.oi.lt _ b).2;omega
end
def dH:Option (Int × Int)->Zv
 | none=>Za #[U O 0,U O 0]
 | some (c,a)=>Za #[U O c,U O a]
theorem zvk (a:List Kid) (b:Nat) (c:b<a.length):a.drop b=a[b] :: a.drop (b+1):=List.drop_eq_getElem_cons c
theorem ze3 (a:List Kid) (b:Nat) (d:b<a.length):kA ((a.take (b+1)).map Kid.tree)=kA ((a.take b).map Kid.tree)+kC a[b].tree:=by
 have c:=xE (a.map Kid.tree) b (by simpa using d);rw[<- List.map_take,<- List.map_take,List.getElem_map]at c;exact c
theorem zea (a:List Kid) (b:Nat):kA ((a.take b).map Kid.tree)<=kA (a.map Kid.tree):=by
 rw[List.map_take];exact xY _ _
end face
namespace chk
open Go.RowKit
open syn face
structure LC (w:Zw) (D:Nat) (x0 x1 x2 x3 x4 x5 x6 x7 x8 x9 x10 x11 x12 x13 x14:Zv):Prop where
 c0:w.cell? (A D 0 F)=Z x0
 c1:w.cell? (A D 1 F)=Z x1
 c2:w.cell? (A D 2 F)=Z x2
 c3:w.cell? (A D 3 F)=Z x3
 c4:w.cell? (A D 4 F)=Z x4
 c5:w.cell? (A D 5 F)=Z x5
 c6:w.cell? (A D 6 F)=Z x6
 c7:w.cell? (A D 7 F)=Z x7
 c8:w.cell? (A D 8 F)=Z x8
 c9:w.cell? (A D 9 F)=Z x9
 c10:w.cell? (A D 10 F)=Z x10
 c11:w.cell? (A D 11 F)=Z x11
 c12:w.cell? (A D 12 F)=Z x12
 c13:w.cell? (A D 13 F)=Z x13
 c14:w.cell? (A D 14 F)=Z x14
 fz:∀k,w.frozen? (A D k F)=X
section
variable {w w':Zw} {D:Nat} {x0 x1 x2 x3 x4 x5 x6 x7 x8 x9 x10 x11 x12 x13 x14:Zv}
theorem LC.lt (a:LC w D x0 x1 x2 x3 x4 x5 x6 x7 x8 x9 x10 x11 x12 x13 x14):D<w.heap.size:=jR w (A D 0 F) a.c0
theorem LC.block (b:LC w D x0 x1 x2 x3 x4 x5 x6 x7 x8 x9 x10 x11 x12 x13 x14) (c:w'.heap[D]?=w.heap[D]?):LC w' D x0 x1 x2 x3 x4 x5 x6 x7 x8 x9 x10 x11 x12 x13 x14 :=
 ⟨(jM (a:=(A D 0 F)) c).trans b.c0,(jM (a:=(A D 1 F)) c).trans b.c1,(jM (a:=(A D 2 F)) c).trans b.c2,(jM (a:=(A D 3 F)) c).trans b.c3,(jM (a:=(A D 4 F)) c).trans b.c4,(jM (a:=(A D 5 F)) c).trans b.c5,(jM (a:=(A D 6 F)) c).trans b.c6,(jM (a:=(A D 7 F)) c).trans b.c7,(jM (a:=(A D 8 F)) c).trans b.c8,(jM (a:=(A D 9 F)) c).trans b.c9,(jM (a:=(A D 10 F)) c).trans b.c10,(jM (a:=(A D 11 F)) c).trans b.c11,(jM (a:=(A D 12 F)) c).trans b.c12,(jM (a:=(A D 13 F)) c).trans b.c13,(jM (a:=(A D 14 F)) c).trans b.c14,
   fun d=>(jN (a:=(A D d F)) c).trans (b.fz d)⟩
theorem LC.new (w:Zw) (x0 x1 x2 x3 x4 x5 x6 x7 x8 x9 x10 x11 x12 x13 x14:Zv) (T:TypeId):LC (w.alloc (Zc #[x0,x1,x2,x3,x4,x5,x6,x7,x8,x9,x10,x11,x12,x13,x14] T)) w.heap.size x0 x1 x2 x3 x4 x5 x6 x7 x8 x9 x10 x11 x12 x13 x14:=by
 constructor<;>simp
theorem LC.fzset {c:Nat} {v:Zv} (b:LC w D x0 x1 x2 x3 x4 x5 x6 x7 x8 x9 x10 x11 x12 x13 x14):∀a,(w.setCell (A D c F) v).frozen? (A D a F)=X:=fun a=>by simp[b.fz a]
theorem LC.set3 (a:LC w D x0 x1 x2 x3 x4 x5 x6 x7 x8 x9 x10 x11 x12 x13 x14) (v:Zv):LC (w.setCell (A D 3 F) v) D x0 x1 x2 v x4 x5 x6 x7 x8 x9 x10 x11 x12 x13 x14 :=
 ⟨(jD _ _ _ _ oB).trans a.c0,(jD _ _ _ _ oB).trans a.c1,(jD _ _ _ _ oB).trans a.c2,jS _ _ _ a.c3,(jD _ _ _ _ oB).trans a.c4,(jD _ _ _ _ oB).trans a.c5,(jD _ _ _ _ oB).trans a.c6,(jD _ _ _ _ oB).trans a.c7,(jD _ _ _ _ oB).trans a.c8,(jD _ _ _ _ oB).trans a.c9,(jD _ _ _ _ oB).trans a.c10,(jD _ _ _ _ oB).trans a.c11,(jD _ _ _ _ oB).trans a.c12,(jD _ _ _ _ oB).trans a.c13,(jD _ _ _ _ oB).trans a.c14,a.fzset⟩
theorem LC.set4 (a:LC w D x0 x1 x2 x3 x4 x5 x6 x7 x8 x9 x10 x11 x12 x13 x14) (v:Zv):LC (w.setCell (A D 4 F) v) D x0 x1 x2 x3 v x5 x6 x7 x8 x9 x10 x11 x12 x13 x14 :=
 ⟨(jD _ _ _ _ oB).trans a.c0,(jD _ _ _ _ oB).trans a.c1,(jD _ _ _ _ oB).trans a.c2,(jD _ _ _ _ oB).trans a.c3,jS _ _ _ a.c4,(jD _ _ _ _ oB).trans a.c5,(jD _ _ _ _ oB).trans a.c6,(jD _ _ _ _ oB).trans a.c7,(jD _ _ _ _ oB).trans a.c8,(jD _ _ _ _ oB).trans a.c9,(jD _ _ _ _ oB).trans a.c10,(jD _ _ _ _ oB).trans a.c11,(jD _ _ _ _ oB).trans a.c12,(jD _ _ _ _ oB).trans a.c13,(jD _ _ _ _ oB).trans a.c14,a.fzset⟩
theorem LC.set5 (a:LC w D x0 x1 x2 x3 x4 x5 x6 x7 x8 x9 x10 x11 x12 x13 x14) (v:Zv):LC (w.setCell (A D 5 F) v) D x0 x1 x2 x3 x4 v x6 x7 x8 x9 x10 x11 x12 x13 x14 :=
 ⟨(jD _ _ _ _ oB).trans a.c0,(jD _ _ _ _ oB).trans a.c1,(jD _ _ _ _ oB).trans a.c2,(jD _ _ _ _ oB).trans a.c3,(jD _ _ _ _ oB).trans a.c4,jS _ _ _ a.c5,(jD _ _ _ _ oB).trans a.c6,(jD _ _ _ _ oB).trans a.c7,(jD _ _ _ _ oB).trans a.c8,(jD _ _ _ _ oB).trans a.c9,(jD _ _ _ _ oB).trans a.c10,(jD _ _ _ _ oB).trans a.c11,(jD _ _ _ _ oB).trans a.c12,(jD _ _ _ _ oB).trans a.c13,(jD _ _ _ _ oB).trans a.c14,a.fzset⟩
theorem LC.set6 (a:LC w D x0 x1 x2 x3 x4 x5 x6 x7 x8 x9 x10 x11 x12 x13 x14) (v:Zv):LC (w.setCell (A D 6 F) v) D x0 x1 x2 x3 x4 x5 v x7 x8 x9 x10 x11 x12 x13 x14 :=
 ⟨(jD _ _ _ _ oB).trans a.c0,(jD _ _ _ _ oB).trans a.c1,(jD _ _ _ _ oB).trans a.c2,(jD _ _ _ _ oB).trans a.c3,(jD _ _ _ _ oB).trans a.c4,(jD _ _ _ _ oB).trans a.c5,jS _ _ _ a.c6,(jD _ _ _ _ oB).trans a.c7,(jD _ _ _ _ oB).trans a.c8,(jD _ _ _ _ oB).trans a.c9,(jD _ _ _ _ oB).trans a.c10,(jD _ _ _ _ oB).trans a.c11,(jD _ _ _ _ oB).trans a.c12,(jD _ _ _ _ oB).trans a.c13,(jD _ _ _ _ oB).trans a.c14,a.fzset⟩
theorem LC.set7 (a:LC w D x0 x1 x2 x3 x4 x5 x6 x7 x8 x9 x10 x11 x12 x13 x14) (v:Zv):LC (w.setCell (A D 7 F) v) D x0 x1 x2 x3 x4 x5 x6 v x8 x9 x10 x11 x12 x13 x14 :=
 ⟨(jD _ _ _ _ oB).trans a.c0,(jD _ _ _ _ oB).trans a.c1,(jD _ _ _ _ oB).trans a.c2,(jD _ _ _ _ oB).trans a.c3,(jD _ _ _ _ oB).trans a.c4,(jD _ _ _ _ oB).trans a.c5,(jD _ _ _ _ oB).trans a.c6,jS _ _ _ a.c7,(jD _ _ _ _ oB).trans a.c8,(jD _ _ _ _ oB).trans a.c9,(jD _ _ _ _ oB).trans a.c10,(jD _ _ _ _ oB).trans a.c11,(jD _ _ _ _ oB).trans a.c12,(jD _ _ _ _ oB).trans a.c13,(jD _ _ _ _ oB).trans a.c14,a.fzset⟩
theorem LC.set8 (a:LC w D x0 x1 x2 x3 x4 x5 x6 x7 x8 x9 x10 x11 x12 x13 x14) (v:Zv):LC (w.setCell (A D 8 F) v) D x0 x1 x2 x3 x4 x5 x6 x7 v x9 x10 x11 x12 x13 x14 :=
 ⟨(jD _ _ _ _ oB).trans a.c0,(jD _ _ _ _ oB).trans a.c1,(jD _ _ _ _ oB).trans a.c2,(jD _ _ _ _ oB).trans a.c3,(jD _ _ _ _ oB).trans a.c4,(jD _ _ _ _ oB).trans a.c5,(jD _ _ _ _ oB).trans a.c6,(jD _ _ _ _ oB).trans a.c7,jS _ _ _ a.c8,(jD _ _ _ _ oB).trans a.c9,(jD _ _ _ _ oB).trans a.c10,(jD _ _ _ _ oB).trans a.c11,(jD _ _ _ _ oB).trans a.c12,(jD _ _ _ _ oB).trans a.c13,(jD _ _ _ _ oB).trans a.c14,a.fzset⟩
theorem LC.set9 (a:LC w D x0 x1 x2 x3 x4 x5 x6 x7 x8 x9 x10 x11 x12 x13 x14) (v:Zv):LC (w.setCell (A D 9 F) v) D x0 x1 x2 x3 x4 x5 x6 x7 x8 v x10 x11 x12 x13 x14 :=
 ⟨(jD _ _ _ _ oB).trans a.c0,(jD _ _ _ _ oB).trans a.c1,(jD _ _ _ _ oB).trans a.c2,(jD _ _ _ _ oB).trans a.c3,(jD _ _ _ _ oB).trans a.c4,(jD _ _ _ _ oB).trans a.c5,(jD _ _ _ _ oB).trans a.c6,(jD _ _ _ _ oB).trans a.c7,(jD _ _ _ _ oB).trans a.c8,jS _ _ _ a.c9,(jD _ _ _ _ oB).trans a.c10,(jD _ _ _ _ oB).trans a.c11,(jD _ _ _ _ oB).trans a.c12,(jD _ _ _ _ oB).trans a.c13,(jD _ _ _ _ oB).trans a.c14,a.fzset⟩
theorem LC.set10 (a:LC w D x0 x1 x2 x3 x4 x5 x6 x7 x8 x9 x10 x11 x12 x13 x14) (v:Zv):LC (w.setCell (A D 10 F) v) D x0 x1 x2 x3 x4 x5 x6 x7 x8 x9 v x11 x12 x13 x14 :=
 ⟨(jD _ _ _ _ oB).trans a.c0,(jD _ _ _ _ oB).trans a.c1,(jD _ _ _ _ oB).trans a.c2,(jD _ _ _ _ oB).trans a.c3,(jD _ _ _ _ oB).trans a.c4,(jD _ _ _ _ oB).trans a.c5,(jD _ _ _ _ oB).trans a.c6,(jD _ _ _ _ oB).trans a.c7,(jD _ _ _ _ oB).trans a.c8,(jD _ _ _ _ oB).trans a.c9,jS _ _ _ a.c10,(jD _ _ _ _ oB).trans a.c11,(jD _ _ _ _ oB).trans a.c12,(jD _ _ _ _ oB).trans a.c13,(jD _ _ _ _ oB).trans a.c14,a.fzset⟩
theorem LC.set11 (a:LC w D x0 x1 x2 x3 x4 x5 x6 x7 x8 x9 x10 x11 x12 x13 x14) (v:Zv):LC (w.setCell (A D 11 F) v) D x0 x1 x2 x3 x4 x5 x6 x7 x8 x9 x10 v x12 x13 x14 :=
 ⟨(jD _ _ _ _ oB).trans a.c0,(jD _ _ _ _ oB).trans a.c1,(jD _ _ _ _ oB).trans a.c2,(jD _ _ _ _ oB).trans a.c3,(jD _ _ _ _ oB).trans a.c4,(jD _ _ _ _ oB).trans a.c5,(jD _ _ _ _ oB).trans a.c6,(jD _ _ _ _ oB).trans a.c7,(jD _ _ _ _ oB).trans a.c8,(jD _ _ _ _ oB).trans a.c9,(jD _ _ _ _ oB).trans a.c10,jS _ _ _ a.c11,(jD _ _ _ _ oB).trans a.c12,(jD _ _ _ _ oB).trans a.c13,(jD _ _ _ _ oB).trans a.c14,a.fzset⟩
theorem LC.set12 (a:LC w D x0 x1 x2 x3 x4 x5 x6 x7 x8 x9 x10 x11 x12 x13 x14) (v:Zv):LC (w.setCell (A D 12 F) v) D x0 x1 x2 x3 x4 x5 x6 x7 x8 x9 x10 x11 v x13 x14 :=
 ⟨(jD _ _ _ _ oB).trans a.c0,(jD _ _ _ _ oB).trans a.c1,(jD _ _ _ _ oB).trans a.c2,(jD _ _ _ _ oB).trans a.c3,(jD _ _ _ _ oB).trans a.c4,(jD _ _ _ _ oB).trans a.c5,(jD _ _ _ _ oB).trans a.c6,(jD _ _ _ _ oB).trans a.c7,(jD _ _ _ _ oB).trans a.c8,(jD _ _ _ _ oB).trans a.c9,(jD _ _ _ _ oB).trans a.c10,(jD _ _ _ _ oB).trans a.c11,jS _ _ _ a.c12,(jD _ _ _ _ oB).trans a.c13,(jD _ _ _ _ oB).trans a.c14,a.fzset⟩
theorem LC.set13 (a:LC w D x0 x1 x2 x3 x4 x5 x6 x7 x8 x9 x10 x11 x12 x13 x14) (v:Zv):LC (w.setCell (A D 13 F) v) D x0 x1 x2 x3 x4 x5 x6 x7 x8 x9 x10 x11 x12 v x14 :=
 ⟨(jD _ _ _ _ oB).trans a.c0,(jD _ _ _ _ oB).trans a.c1,(jD _ _ _ _ oB).trans a.c2,(jD _ _ _ _ oB).trans a.c3,(jD _ _ _ _ oB).trans a.c4,(jD _ _ _ _ oB).trans a.c5,(jD _ _ _ _ oB).trans a.c6,(jD _ _ _ _ oB).trans a.c7,(jD _ _ _ _ oB).trans a.c8,(jD _ _ _ _ oB).trans a.c9,(jD _ _ _ _ oB).trans a.c10,(jD _ _ _ _ oB).trans a.c11,(jD _ _ _ _ oB).trans a.c12,jS _ _ _ a.c13,(jD _ _ _ _ oB).trans a.c14,a.fzset⟩
theorem LC.set14 (a:LC w D x0 x1 x2 x3 x4 x5 x6 x7 x8 x9 x10 x11 x12 x13 x14) (v:Zv):LC (w.setCell (A D 14 F) v) D x0 x1 x2 x3 x4 x5 x6 x7 x8 x9 x10 x11 x12 x13 v :=
 ⟨(jD _ _ _ _ oB).trans a.c0,(jD _ _ _ _ oB).trans a.c1,(jD _ _ _ _ oB).trans a.c2,(jD _ _ _ _ oB).trans a.c3,(jD _ _ _ _ oB).trans a.c4,(jD _ _ _ _ oB).trans a.c5,(jD _ _ _ _ oB).trans a.c6,(jD _ _ _ _ oB).trans a.c7,(jD _ _ _ _ oB).trans a.c8,(jD _ _ _ _ oB).trans a.c9,(jD _ _ _ _ oB).trans a.c10,(jD _ _ _ _ oB).trans a.c11,(jD _ _ _ _ oB).trans a.c12,(jD _ _ _ _ oB).trans a.c13,jS _ _ _ a.c14,a.fzset⟩
end
def zT (l:List Loc):List Zv:=l.flatMap fun v=>[I v.name,U O v.label,U O v.deep]
theorem zq0 (a:List Loc) (v:Loc):zT (a++[v])=zT a++[I v.name,U O v.label,U O v.deep]:=by simp[zT]
theorem zec:∀(b:List Loc) (a:Nat) (i:a<b.length),(zT b)[a*3]?=Z (I b[a].name)/\(zT b)[a*3+1]?=Z (U O b[a].label)/\(zT b)[a*3+2]?=Z (U O b[a].deep)
 | [],a,h=>by simp at h
 | v :: r,0,h=>⟨rfl,rfl,rfl⟩
 | v :: r,a+1,h=>by
  obtain⟨e,f,g⟩:=zec r a (by simpa using h)
  have d:∀c,(zT (v :: r))[(a+1)*3+c]?=(zT r)[a*3+c]?:=fun c=>by
   show(Value.string v.name :: Value.int O v.label :: Value.int O v.deep :: zT r)[(a+1)*3+c]?=_;rw[show(a+1)*3+c=(a*3+c)+1+1+1 by omega];rfl
  exact⟨(d 0).trans e,(d 1).trans f,(d 2).trans g⟩
abbrev FV:=FaceD × Zv × Zv
def fvV (q:FV):Zv:=Za #[I q.1.module,q.2.1,q.2.2]
def uF (l:List FV):List Zv:=l.flatMap fun q=>[I q.1.module,q.2.1,q.2.2]
theorem zq6 (b:List FV) (a:FV):uF (b++[a])=uF b++[I a.1.module,a.2.1,a.2.2]:=by simp[uF]
theorem zif:∀(b:List FV) (a:Nat) (i:a<b.length),(uF b)[a*3]?=Z (I b[a].1.module)/\(uF b)[a*3+1]?=Z b[a].2.1/\(uF b)[a*3+2]?=Z b[a].2.2
 | [],a,h=>by simp at h
 | v :: r,0,h=>⟨rfl,rfl,rfl⟩
 | v :: r,a+1,h=>by
  obtain⟨e,f,g⟩:=zif r a (by simpa using h)
  have d:∀c,(uF (v :: r))[(a+1)*3+c]?=(uF r)[a*3+c]?:=fun c=>by
   show(Value.string v.1.module :: v.2.1 :: v.2.2 :: uF r)[(a+1)*3+c]?=_;rw[show(a+1)*3+c=(a*3+c)+1+1+1 by omega];rfl
  exact⟨(d 0).trans e,(d 1).trans f,(d 2).trans g⟩
structure LK (w0 w:Zw) (D:Nat) (own:FV) (fs:List FV) (fv lv:Zv) (L:List Loc) (at_:Int) (p0 p1 p2 p3 p4 p5:Zv) (fc fa:Int) (st:Bool):Prop where
 lc:LC w D (I own.1.module) own.2.1 own.2.2 fv lv (U O at_) p0 p1 p2 p3 p4 p5 (U O fc) (U O fa) (Y st)
 bs:Below w0.heap.size w0 w
 hD:w0.heap.size<=D
 ow:qX w0 (fvV own) own.1
 fi:∀q∈fs,qX w0 (fvV q) q.1
 rf:w.ownsRow (D+1) 38 3 fv fs.length (uF fs)
 rl:w.ownsRow (D+1) 115 3 lv L.length (zT L)
 ne:∀b,fv.ownBlock=Z b->lv.ownBlock≠Z b
section
variable {w0 w w':Zw} {D:Nat} {own:FV} {fs:List FV} {fv lv:Zv} {L:List Loc} {at_:Int} {p0 p1 p2 p3 p4 p5:Zv} {fc fa:Int} {st:Bool}
theorem LK.below (a:LK w0 w D own fs fv lv L at_ p0 p1 p2 p3 p4 p5 fc fa st) (b:Below w.heap.size w w'):LK w0 w' D own fs fv lv L at_ p0 p1 p2 p3 p4 p5 fc fa st :=
 ⟨a.lc.block (b.block D a.lc.lt),a.bs.trans (b.mono a.bs.size),a.hD,a.ow,a.fi,dY a.rf b,dY a.rl b,a.ne⟩
theorem LK.alloc (b:LK w0 w D own fs fv lv L at_ p0 p1 p2 p3 p4 p5 fc fa st) (a:Obj):LK w0 (w.alloc a) D own fs fv lv L at_ p0 p1 p2 p3 p4 p5 fc fa st:=b.below (bal a)
theorem LK.drew (a:LK w0 w D own fs fv lv L at_ p0 p1 p2 p3 p4 p5 fc fa st):LK w0 w.drew D own fs fv lv L at_ p0 p1 p2 p3 p4 p5 fc fa st:=a.below (Below.refl _ _).drew
theorem LK.rest (a:LK w0 w D own fs fv lv L at_ p0 p1 p2 p3 p4 p5 fc fa st) (c:Nat) (v:Zv):Below w0.heap.size w0 (w.setCell (A D c F) v)/\(w.setCell (A D c F) v).ownsRow (D+1) 38 3 fv fs.length (uF fs)/\(w.setCell (A D c F) v).ownsRow (D+1) 115 3 lv L.length (zT L) :=
 ⟨a.bs.setCell a.hD _,jU a.rf (fun b=>by have d:D+1<=D:=(a.rf.lt _ b).1;omega) _,jU a.rl (fun b=>by have d:D+1<=D:=(a.rl.lt _ b).1;omega) _⟩
theorem LK.setAt (a:LK w0 w D own fs fv lv L at_ p0 p1 p2 p3 p4 p5 fc fa st) (b:Int):LK w0 (w.setCell (A D 5 F) (U O b)) D own fs fv lv L b p0 p1 p2 p3 p4 p5 fc fa st :=
 have c:=a.rest 5 (U O b)
 ⟨a.lc.set5 _,c.1,a.hD,a.ow,a.fi,c.2.1,c.2.2,a.ne⟩
theorem LK.fault (a:LK w0 w D own fs fv lv L at_ p0 p1 p2 p3 p4 p5 fc fa st) (b c:Int):LK w0 (((w.setCell (A D 14 F) (Y H)).setCell (A D 12 F) (U O b)).setCell (A D 13 F) (U O c)) D own fs fv lv L at_ p0 p1 p2 p3 p4 p5 b c H:=by
 have d:=a.rest 14 (Y H);have g:LK w0 (w.setCell (A D 14 F) (Y H)) D own fs fv lv L at_ p0 p1 p2 p3 p4 p5 fc fa H:=⟨a.lc.set14 _,d.1,a.hD,a.ow,a.fi,d.2.1,d.2.2,a.ne⟩
 have e:=g.rest 12 (U O b);have h:LK w0 ((w.setCell (A D 14 F) (Y H)).setCell (A D 12 F) (U O b)) D own fs fv lv L at_ p0 p1 p2 p3 p4 p5 b fa H:=⟨g.lc.set12 _,e.1,a.hD,a.ow,a.fi,e.2.1,e.2.2,a.ne⟩
 have f:=h.rest 13 (U O c);exact⟨h.lc.set13 _,f.1,a.hD,a.ow,a.fi,f.2.1,f.2.2,a.ne⟩
end
end chk
namespace chk
open Go.RowKit Go.Maps
open syn face
def fvO (o:Option FV):Option Zv:=o.map fvV
theorem zub (D u j K p:Nat) (k t:ByteArray->Option Zv) (h:ByteArray) (x:Int) (w:Zw) (L:w.cell? (A D 4 F)=Z (.map (Z u))) (M:w.cell? (A D 5 F)=Z (.map (Z j))) (y:kZ w u K k) (z:kZ w j p t) (aa:h.size<=1000) (a5:p<=1000) (a7:D≠j) (R:∀v,k h=Z v->∃m a e c b g d,v=Za #[I m,J a e c,J b g d]) : Calls prog 51 #[Zp (Z (A D 0 F)),I h,U O x] w fun q w' =>
   (k h=F/\q=.panicked (qI 4 x)/\Below w.heap.size w w')\/(∃v,k h=Z v/\q=.returned (.tuple #[])/\kZ w' j (p+1) (fun E=>if eqS E h then Z v else t E)/\w.grownBy w' (Z j)):=by
 have a2:prog.cellsOf 38=3:=xG;have s:h.size<=maxLen:=by unfold maxLen;omega
 have a3:D<w.heap.size:=jR w (A D 4 F) L
 cases o:k h with
 | none =>
  have V:Hid (k h=F):=o;go_enter func51,ntmps51
  go_wp2_with first
   | (at_lookup;refine zao (f:=k) rfl _ _ rfl rfl y h s rfl ?_;rw[o];unfold vH)
   | (go_at_call 87;refine(vD _ _ _).mono ?_;rintro q ab ⟨rfl,T⟩;obtain rfl:=T.symm)
   | go_in
  exact⟨rfl,.inl ⟨trivial,rfl,bal _⟩⟩
 | some v =>
  obtain⟨m,a,e,c,b,g,d,rfl⟩:=R v o;have B:=z.below ((Below.refl w.heap.size w).alloc (jE _) (Zc #[I m,J a e c,J b g d] 38));go_enter func51,ntmps51
  go_wp2_with first
   | (at_lookup;refine zao (f:=k) rfl _ _ rfl rfl y h s rfl ?_;rw[o])
   | go_in
  have i:(w.alloc (Zc #[I m,J a e c,J b g d] 38)).drew.cell? (A D 5 F)=Z (.map (Z j))/\(w.alloc (Zc #[I m,J a e c,J b g d] 38)).drew.cell? (A w.heap.size 0 F)=Z (I m)/\(w.alloc (Zc #[I m,J a e c,J b g d] 38)).drew.cell? (A w.heap.size 1 F)=Z (J a e c)/\(w.alloc (Zc #[I m,J a e c,J b g d] 38)).drew.cell? (A w.heap.size 2 F)=Z (J b g d):=⟨kK M _,oB,oB,oB⟩
  have P:kZ (w.alloc (Zc #[I m,J a e c,J b g d] 38)).drew j p t:=B.below (Below.refl _ _).drew;have N:Below w.heap.size w (w.alloc (Zc #[I m,J a e c,J b g d] 38)).drew:=(bal _).drew;have a6:=z.lt;refine wp_region_held_drew (S:=fun l=>l.cell? (A D 5 F)=Z (.map (Z j))/\l.cell? (A w.heap.size 0 F)=Z (I m)/\l.cell? (A w.heap.size 1 F)=Z (J a e c)/\l.cell? (A w.heap.size 2 F)=Z (J b g d)) oD i (fun r=>?_);clear r B;generalize (w.alloc (Zc #[I m,J a e c,J b g d] 38)).drew=l at *;obtain⟨W,a9,Q,n⟩:=P.store (by unfold maxLen;omega) h s (Za #[I m,J a e c,J b g d]);refine tkP 0 (Zp (Z (A D 0 F))) i ?_;simp only[Act.put,jA,jB,jC];refine tkP 1 (Zp (Z (A D 0 F))) i ?_;simp only[Act.put,jA,jB,jC];refine tkP 2 (Zp (Z (A D 5 F))) i ?_;simp only[Act.put,jA,jB,jC];refine tkP 3 (.map (Z j)) i ?_;simp only[Act.put,jA,jB,jC];refine tkP 4 (I h) i ?_;simp only[Act.put,jA,jB,jC];refine tkP 5 (Za #[I m,J a e c,J b g d] ) i ?_;simp only[Act.put,jA,jB,jC];refine wpAnyH_ready (rs:=[6]) oD oB ?_;refine AllReadyH.cons rfl (fun G C=>?_) AllReadyH.nil;go_simp;have a8:j≠w.heap.size:=oA;refine C.out _ _ ⟨cell_grown n i.1 oE,cell_grown n i.2.1 oE,cell_grown n i.2.2.1 oE,cell_grown n i.2.2.2 oE⟩ (fun r=>?_);clear C G r;refine wpAnyH_done oD ?_ _;go_wp2
  go_end0
  exact .inr ⟨_,rfl,rfl,Q,((zb0 N).but _).trans n⟩
end chk
namespace chk
open Go.RowKit
open syn face
def uN (own:FV) (fs:List FV) (x:ByteArray):Option FV:=if(zR x).size=0 then Z own else fs.find? fun q=>eqS q.1.module (zR x)
theorem zix (own:FV) (fs:List FV) (a:ByteArray):dG ⟨own.1,fs.map (·.1)⟩ a=(uN own fs a).map (·.1):=by
 unfold dG uN;split;·rfl
 ·show(fs.map (·.1)).find? _=_
  rw[List.find?_map];rfl
def ofV (o:Option FV) (s:ByteArray):Zv:=match o with
 | none=>.tuple #[Za #[I ⟨#[]⟩,J F 0 0,J F 0 0],I s,Y X]
 | some q=>.tuple #[fvV q,I s,Y H]
theorem cV {α:Type} {p:α->Bool} {l:List α} {a:Nat} (d:a<l.length) (c:∀b (hi:b<l.length),b<a->p l[b]=X) (e:p l[a]=H):l.find? p=Z l[a]:=by
 induction l generalizing a with
 | nil=>simp at d
 | cons f h ih =>
  cases a with
  | zero=>exact List.find?_cons_of_pos e
  | succ a =>
   rw[List.find?_cons_of_neg (by rw[show p f=X from c 0 oB oA];decide)];exact ih (by simpa using d) (fun b hi g=>c (b+1) (by simpa using hi) oA) e
theorem zav {α:Type} {c:α->Bool} {b:List α} (d:∀a (hi:a<b.length),c b[a]=X):b.find? c=F:=by
 rw[List.find?_eq_none];intro f e;obtain⟨a,hi,rfl⟩:=List.mem_iff_getElem.1 e;simp[d a hi]
theorem zuy {a:ByteArray} (b:a.size=0):a=⟨#[]⟩:=by
 apply ByteArray.ext;exact Array.eq_empty_of_size_eq_zero b
theorem bA {w:Zw} {a:FV} (g:qX w (fvV a) a.1):∃c e d f,a=(a.1,J c a.1.vars.length e,J d a.1.procs.length f):=by
 obtain⟨vv,pv,b,⟨c,e,rfl,_,_⟩,⟨d,f,rfl,_,_⟩⟩:=g;obtain⟨h,i,j⟩:=a;unfold fvV at b;injection b with b;simp only[Array.mk.injEq,jq,and_true,true_and]at b;obtain⟨rfl,rfl⟩:=b;exact⟨c,e,d,f,rfl⟩
section
variable {w0 w w':Zw} {D:Nat} {own:FV} {fs:List FV} {fv lv:Zv} {L:List Loc} {at_:Int} {p0 p1 p2 p3 p4 p5:Zv} {fc fa:Int} {st:Bool}
theorem rOf (k:ByteArray) (w:Zw) (a5:kT k) (c:LK w0 w D own fs fv lv L at_ p0 p1 p2 p3 p4 p5 fc fa st) (aA:fs.length<=1000) : Calls prog 145 #[Zp (Z (A D 0 F)),I k] w fun e w'=>e=.returned (ofV (uN own fs k) (yJ k))/\Below w.heap.size w w':=by
 have av:prog.cellsOf 38=3:=xG;have C:=zz8 k (w.alloc (Zc #[I ⟨#[]⟩,J F 0 0,J F 0 0] 38)) (by have:=zes a5;omega) a5;have n:=c.alloc (Zc #[I ⟨#[]⟩,J F 0 0,J F 0 0] 38);have y:=Box3.new w (I ⟨#[]⟩) (J F 0 0) (J F 0 0) 38;have m:Below w.heap.size w (w.alloc (Zc #[I ⟨#[]⟩,J F 0 0,J F 0 0] 38)):=bal _;unfold uN;generalize zR k=d at *;generalize yJ k=g at *;have az:=c.lc.lt;obtain⟨a6,a8,a7,a9,q⟩:=bA c.ow;by_cases s:d.size=0
 ·rw[jv s];obtain rfl:=zuy s;clear s;rw[q];rw[q]at n;generalize own.1=l at *;clear q;show Calls _ _ _ _ fun e w'=>e=.returned (.tuple #[Za #[I l.module,J a6 l.vars.length a8,J a7 l.procs.length a9],I g,Y H])/\_
  go_enter func145,ntmps145;go_wp2_with (go_at_call 161;refine C.mono ?_;rintro e M ⟨rfl,f⟩;have j:=n.below f;have o:=y.below f;have aF:=j.lc.c0;have aG:=j.lc.c1;have aH:=j.lc.c2;obtain⟨ab,ac,ad,ap,ar,au⟩:=id o);refine jT (v:=.tuple #[Za #[I l.module,J a6 l.vars.length a8,J a7 l.procs.length a9],I g,Y H]) oz10y85 rfl ?_;exact⟨rfl,(((m.trans (f.mono m.size)).setCell (jE _) _).setCell (jE _) _).setCell (jE _) _⟩
 rw[ju s]
 have aD:(d.toList==[])=X:=by
  rw[beq_eq_false_iff_ne];intro e;rw[ByteArray.toList_eq]at e;have:=lexs.len_L d;rw[e]at this;simp at this;omega
 obtain⟨V,x⟩:∃V,Hid (ofV (fs.find? fun h=>eqS h.1.module d) g=V):=⟨_,rfl⟩
 rw[x.out];have aj:=c.fi;obtain⟨ax,aw,rfl,aB,ak⟩:=lexs.own_shape c.rf;have ao:=n.lc.c3;clear q c;go_enter func145,ntmps145;go_wp2_with (go_at_call 161;refine C.mono ?_;rintro e M ⟨rfl,f⟩;have j:=n.below f;have o:=y.below f;have aI:=j.lc.c3;obtain⟨ab,ac,ad,ap,ar,au⟩:=id o);have N:Hid (Below w.heap.size w M):=m.trans (f.mono m.size);have r:=j.rf;clear n y o f m C ao j;go_loopw [10] (fun K wr=>∃a:Nat,a<=fs.length/\K=U O a/\Hid (∀b (hi:b<fs.length),b<a->eqS fs[b].1.module d=X)/\wr=M) (fun K _=>fs.length - (intOf K).toNat)
 case atStart=>exact⟨0,jz _,rfl,fun b hi c=>absurd c oA,rfl⟩
 case round =>
  obtain⟨a,aC,rfl,u,rfl⟩:=hrel;by_cases E:a<fs.length
  ·obtain⟨ay,rfl⟩:=ak oA;obtain⟨T,W,a2⟩:=zif fs a E;have aE:=(r.cellAt (a*3) oA).trans T;have am:=(r.cellAt (a*3+1) oA).trans W;have an:=(r.cellAt (a*3+2) oA).trans a2;obtain⟨P,R,Q,S,G⟩:=bA (aj _ (jH E));have ag:Hid (fs[a]=(fs[a].1,J P fs[a].1.vars.length R,J Q fs[a].1.procs.length S)):=G
   have t:Hid (∀i,eqS fs[a].1.module d=i->i=H->V=ofV (Z fs[a]) g):=fun i z B=>by
    rw[<- x.out,cV E (fun b hi c=>u.out b hi c) (z.trans B)]
   have HS:Hid (∀i,eqS fs[a].1.module d=i->i=X->∀b (hi:b<fs.length),b<a+1->eqS fs[b].1.module d=X):=fun i z B b hi c=>by
    rcases jL b a with a3 | a3
    ·exact u.out b hi a3
    ·obtain rfl:b=a:=oA;exact z.trans B
   rw[G]at am an;clear T W a2 G r;generalize fs[a].1=h at *;cases p:eqS h.module d
   ·have ai:(h.module.toList==d.toList)=X:=p;have ah:=HS.out _ p rfl;clear HS t;go_wp2;go_roundw
    case rel=>exact⟨a+1,oA,oJ,ah,trivial⟩
    case measure=>simp[intOf];omega
   ·have ai:(h.module.toList==d.toList)=H:=p;have af:Hid (V=ofV (Z fs[a]) g):=t.out _ p rfl;clear HS t;go_wp2;refine jT (v:=.tuple #[Za #[I h.module,J P h.vars.length R,J Q h.procs.length S],I g,Y H]) oz10y85 rfl ?_;exact⟨by rw[af.out,ag.out];rfl,((N.out.setCell (jE _) _).setCell (jE _) _).setCell (jE _) _⟩
  ·have ae:Hid (V=ofV F g):=by
    show _=_;rw[<- x.out,zav (fun b hi=>u.out b hi oA)]
   go_wp2;refine jT (v:=.tuple #[Za #[I ⟨#[]⟩,J F 0 0,J F 0 0],I g,Y X]) oz10y85 rfl ?_;exact⟨by rw[ae.out];rfl,((N.out.setCell (jE _) _).setCell (jE _) _).setCell (jE _) _⟩
end
def vrV (o:Option (Int × Int)):Zv:=match o with
 | none=>.tuple #[U O 0,U O 0,Y X]
 | some q=>.tuple #[U O q.1,U O q.2,Y H]
theorem zjv {α:Type} {b:α->Bool} {a:List α} {j:Nat} (h:j<a.length) (e:∀c (hi:c<a.length),j<c->b a[c]=X) (g:b a[j]=H):a.reverse.find? b=Z a[j]:=by
 have f:a.length - 1 - j<a.reverse.length:=by rw[List.length_reverse];omega
 have d:a.reverse[a.length - 1 - j]=a[j]:=by
  rw[List.getElem_reverse]
  congr 1
  omega
 have:=cV (l:=a.reverse) (p:=b) f (fun c hi i=>by
  rw[List.getElem_reverse];rw[List.length_reverse]at hi
  exact e _ _ oA) (by rw[d];exact g)
 rw[this,d]
theorem zhk {α:Type} {c:α->Bool} {b:List α} (d:∀a (hi:a<b.length),c b[a]=X):b.reverse.find? c=F:=by
 rw[List.find?_eq_none];intro f e;obtain⟨a,hi,rfl⟩:=List.mem_iff_getElem.1 (List.mem_reverse.1 e);simp[d a hi]
def varO (own:FV) (fs:List FV) (x:ByteArray):Option (Int × Int):=match uN own fs x with
 | none=>F
 | some q=>(gW q.1.vars (yJ x)).map fun v=>(v.label,v.size)
theorem zy5 (own:FV) (fs:List FV) (L:List Loc) (b:ByteArray):zP ⟨own.1,fs.map (·.1)⟩ L b=match L.reverse.find? (fun a=>eqS a.name b)with
  | some a=>Z (a.label,0)
  | none=>varO own fs b:=by
 unfold zP varO
 cases L.reverse.find? (fun a=>eqS a.name b)with
 | some a=>rfl
 | none =>
  dsimp only;rw[zix]
  cases uN own fs b with
  | none=>rfl
  | some c=>rfl
theorem zvn {own:FV} {fs:List FV} {c:ByteArray} {b:FV} (a:uN own fs c=Z b):b=own\/b∈fs:=by
 unfold uN at a;split at a;·cases a;exact .inl rfl
 ·exact .inr (List.mem_of_find?_eq_some a)
section
variable {w0 w w':Zw} {D:Nat} {own:FV} {fs:List FV} {fv lv:Zv} {L:List Loc} {at_:Int} {p0 p1 p2 p3 p4 p5:Zv} {fc fa:Int} {st:Bool}
theorem LK.faceq (b:LK w0 w D own fs fv lv L at_ p0 p1 p2 p3 p4 p5 fc fa st) {e:ByteArray} {a:FV} (d:uN own fs e=Z a):qX w0 (fvV a) a.1:=by
 rcases zvn d with rfl | c
 ·exact b.ow
 ·exact b.fi a c
theorem za0 (e:ByteArray) (w:Zw) (au:kT e) (g:LK w0 w D own fs fv lv L at_ p0 p1 p2 p3 p4 p5 fc fa st) (ap:fs.length<=1000) (aA:L.length<=1000) : Calls prog 132 #[Zp (Z (A D 0 F)),I e] w fun u w'=>u=.returned (vrV (zP ⟨own.1,fs.map (·.1)⟩ L e))/\Below w.heap.size w w':=by
 have ax:prog.cellsOf 38=3:=xG;have az:prog.cellsOf 52=4:=cell4;have ay:prog.cellsOf 115=3:=oD;rw[zy5];obtain⟨V,C⟩:∃V,Hid (vrV (match L.reverse.find? (fun a7=>eqS a7.name e)with | some a7=>Z (a7.label,0) | none=>varO own fs e)=V):=⟨_,rfl⟩
 rw[C.out];have M:=g.rl;have aw:=g.lc.c4;obtain⟨aG,aH,rfl,aB,ad⟩:=lexs.own_shape g.rl;have o:=rOf e w au g ap;go_enter func132,ntmps132;go_wp2;go_loopw [7] (fun i wr=>∃b:Nat,b<=L.length/\i=U O ((b:Int) - 1)/\Hid (∀a (hi:a<L.length),b<=a->eqS L[a].name e=X)/\wr=w) (fun i _=>(intOf i+1).toNat)
 case atStart=>exact⟨L.length,jE _,oJ,fun a hi g=>absurd hi oA,rfl⟩
 case round =>
  obtain⟨b,ar,rfl,j,rfl⟩:=hrel;by_cases z:0<b
  ·obtain⟨ak,rfl⟩:=ad oA;obtain⟨d,rfl⟩:∃d,b=d+1:=⟨b - 1,oA⟩
   have ae:d<L.length:=oA;rw[show((d+1:Nat):Int) - 1=(d:Int) by omega];obtain⟨x,aa,G⟩:=zec L d ae;have av:=(M.cellAt (d*3) oA).trans x;have aD:=(M.cellAt (d*3+1) oA).trans aa
   have l:Hid (∀f,eqS L[d].name e=f->f=H->V=vrV (Z (L[d].label,0))):=fun f m n=>by
    rw[<- C.out,zjv ae (fun a hi g=>j.out a hi oA) (m.trans n)]
   have HS:Hid (∀f,eqS L[d].name e=f->f=X->∀a (hi:a<L.length),d<=a->eqS L[a].name e=X):=fun f m n a hi g=>by
    rcases jL d a with K | K
    ·exact j.out a hi oA
    ·obtain rfl:a=d:=oA;exact m.trans n
   clear x aa G M o;generalize L[d].name=a8 at *;generalize L[d].label=ag at *;cases h:eqS a8 e
   ·have t:(a8.toList==e.toList)=X:=h;have Q:=HS.out _ h rfl;clear HS l;go_wp2;go_roundw
    case rel=>exact⟨d,oA,oJ,Q,trivial⟩
    case measure=>simp[intOf]
   ·have t:(a8.toList==e.toList)=H:=h;have P:Hid (V=vrV (Z (ag,0))):=l.out _ h rfl;clear HS l;go_wp2;refine jT (v:=.tuple #[U O ag,U O 0,Y H]) (by simp[results,results132,go_sem]) rfl ?_;exact⟨by rw[P.out];rfl,Below.refl _ _⟩
  ·obtain rfl:b=0:=oA
   have E:Hid (vrV (varO own fs e)=V):=by
    show _=_;rw[<- C.out,zhk (fun a hi=>j.out a hi oA)]
   clear C j M aw ad
   cases p:uN own fs e with
   | none =>
    have B:Hid (V=vrV F):=by
     show _=_;rw[<- E.out];unfold varO;rw[p]
    rw[p]at o;clear p E;go_wp2_with (go_at_call 145;refine o.mono ?_;rintro u r ⟨rfl,s⟩;unfold ofV);have k:Hid (Below wr.heap.size wr (r.alloc (Zc #[I ⟨#[]⟩,J F 0 0,J F 0 0] 38))):=s.alloc s.size _;go_loopw [11] (fun i a9=>i=U O 0/\a9=r.alloc (Zc #[I ⟨#[]⟩,J F 0 0,J F 0 0] 38)) (fun _ _=>0)
    case atStart=>exact⟨rfl,rfl⟩
    case round =>
     obtain⟨rfl,rfl⟩:=hrel;go_wp2;refine jT (v:=.tuple #[U O 0,U O 0,Y X]) (by simp[results,results132,go_sem]) rfl ?_
     exact⟨by rw[B.out];rfl,k.out⟩
   | some ah =>
    have a5:=(g.faceq p).below g.bs
    have B:Hid (V=vrV ((gW ah.1.vars (yJ e)).map fun v=>(v.label,v.size))):=by
     show _=_;rw[<- E.out];unfold varO;rw[p]
    rw[p]at o;clear p E g;obtain⟨R,T,S,W,af⟩:=bA a5;obtain⟨_,_,a2,an,_⟩:=id a5;rw[af]at o a2;have y:_=_:=a2;unfold fvV at y;injection y with y;simp only[Array.mk.injEq,jq,and_true,true_and]at y;obtain⟨rfl,rfl⟩:=y;clear a2 af a5;generalize ah.1=c at *;generalize yJ e=q at *;obtain⟨_,_,a3,aC,a6⟩:=an;injection a3 with a3 _ ee4;obtain rfl:=a3;obtain rfl:=ee4;have am:=a6;go_wp2_with (go_at_call 145;refine o.mono ?_;rintro u r ⟨rfl,s⟩;unfold ofV fvV;dsimp only);have k:Hid (Below wr.heap.size wr (r.alloc (Zc #[I c.module,J R c.vars.length T,J S c.procs.length W] 38))):=s.alloc s.size _;have ac:=Box3.new r (I c.module) (J R c.vars.length T) (J S c.procs.length W) 38;generalize ao:r.alloc (Zc #[I c.module,J R c.vars.length T,J S c.procs.length W] 38)=aj at *;generalize r.heap.size=N at *;obtain⟨aJ,aK,aL,_,_,_⟩:=id ac;clear o s ao ac;go_loopw [11] (fun i a9=>∃b:Nat,b<=c.vars.length/\i=U O b/\Hid (∀a (hi:a<c.vars.length),a<b->eqS c.vars[a].name q=X)/\a9=aj) (fun i _=>c.vars.length - (intOf i).toNat)
    case atStart=>exact⟨0,jz _,rfl,fun a hi g=>absurd g oA,rfl⟩
    case round =>
     obtain⟨b,ar,rfl,j,rfl⟩:=hrel;by_cases z:b<c.vars.length
     ·obtain⟨ak,aI,rfl,t⟩:=a6 (by intro u;rw[u]at z;simp at z);obtain⟨x,_,G,ab⟩:=t b z;have av:=keep x k.out;have aE:=keep G k.out;have aF:=keep ab k.out
      have l:Hid (∀f,eqS c.vars[b].name q=f->f=H->V=vrV (Z (c.vars[b].label,c.vars[b].size))):=fun f m n=>by
       rw[B.out];unfold gW;rw[cV z (fun a hi g=>j.out a hi g) (m.trans n)];rfl
      have HS:Hid (∀f,eqS c.vars[b].name q=f->f=X->∀a (hi:a<c.vars.length),a<b+1->eqS c.vars[a].name q=X):=fun f m n a hi g=>by
       rcases jL a b with K | K
       ·exact j.out a hi K
       ·obtain rfl:a=b:=oA;exact m.trans n
      clear x G ab t a6 am;generalize c.vars[b]=v at *;cases h:eqS v.name q
      ·have t:(v.name.toList==q.toList)=X:=h;have Q:=HS.out _ h rfl;clear HS l;go_wp2;go_roundw
       case rel=>exact⟨b+1,oA,oJ,Q,trivial⟩
       case measure=>simp[intOf];omega
      ·have t:(v.name.toList==q.toList)=H:=h;have P:Hid (V=vrV (Z (v.label,v.size))):=l.out _ h rfl;clear HS l;go_wp2;go_region
       all_goals
        go_wp2;refine jT (v:=.tuple #[U O v.label,U O v.size,Y H]) (by simp[results,results132,go_sem]) rfl ?_;exact⟨by rw[P.out];rfl,k.out.drew⟩
     ·have ai:Hid (V=vrV F):=by
       show _=_;rw[B.out];unfold gW;rw[zav (fun a hi=>j.out a hi oA)];rfl
      go_wp2;refine jT (v:=.tuple #[U O 0,U O 0,Y X]) (by simp[results,results132,go_sem]) rfl ?_;exact⟨by rw[ai.out];rfl,k.out⟩
end
def bV:Zv:=Za #[I ⟨#[]⟩,Y X,J F 0 0,U O 0,Y X,U O 0]
def clR (w0:Zw) (o:Option ProcD) (e:Ending):Prop:=match o with
 | none=>e=.returned (.tuple #[bV,Y X])
 | some p=>∃u,e=.returned (.tuple #[qR p u,Y H])/\IntsIn w0 u p.params
theorem zjm {w0:Zw} {b:Option ProcD} {a:Ending} (c:b=F) (d:a=.returned (.tuple #[bV,Y X])):clR w0 b a:=by rw[c];exact d
theorem zvg {w0:Zw} {d:Option ProcD} {a:ProcD} {b:Zv} {c:Ending} (e:d=Z a) (f:c=.returned (.tuple #[qR a b,Y H])) (g:IntsIn w0 b a.params):clR w0 d c:=by rw[e];exact⟨b,f,g⟩
section
variable {w0 w w':Zw} {D:Nat} {own:FV} {fs:List FV} {fv lv:Zv} {L:List Loc} {at_:Int} {p0 p1 p2 p3 p4 p5:Zv} {fc fa:Int} {st:Bool}
theorem zyp (e:ByteArray) (w:Zw) (aC:kT e) (d:LK w0 w D own fs fv lv L at_ p0 p1 p2 p3 p4 p5 fc fa st) (aA:fs.length<=1000) : Calls prog 133 #[Zp (Z (A D 0 F)),I e] w fun o w'=>clR w0 (procF ⟨own.1,fs.map (·.1)⟩ e) o/\Below w.heap.size w w':=by
 have aH:prog.cellsOf 38=3:=xG;have aI:prog.cellsOf 57=6:=vA;have j:=rOf e (w.alloc (Zc #[I ⟨#[]⟩,Y X,J F 0 0,U O 0,Y X,U O 0] 57)) aC (d.alloc _) aA;have B:=Box6.new w (I ⟨#[]⟩) (Y X) (J F 0 0) (U O 0) (Y X) (U O 0) 57;have g:Below w.heap.size w (w.alloc (Zc #[I ⟨#[]⟩,Y X,J F 0 0,U O 0,Y X,U O 0] 57)):=bal _;obtain⟨V,P⟩:∃V,Hid (procF ⟨own.1,fs.map (·.1)⟩ e=V):=⟨_,rfl⟩
 rw[P.out]
 have t:Hid (V=match uN own fs e with | none=>F | some q=>zbu q.1.procs (yJ e)):=by
  show _=_;rw[<- P.out];unfold procF;rw[zix]
  cases uN own fs e with
  | none=>rfl
  | some q=>rfl
 clear P
 cases k:uN own fs e with
 | none =>
  have s:Hid (V=F):=by
   show _=_;rw[t.out,k]
  rw[k]at j;clear k t d;go_enter func133,ntmps133;go_wp2_with (go_at_call 145;refine j.mono ?_;rintro o m ⟨rfl,h⟩;unfold ofV);have f:Hid (Below w.heap.size w (m.alloc (Zc #[I ⟨#[]⟩,J F 0 0,J F 0 0] 38))):=(g.trans (h.mono g.size)).alloc (g.trans (h.mono g.size)).size _;obtain⟨a3,a5,a6,a7,a8,a9,aF,t7,t8,aG,aD,aE⟩:=(B.below h).alloc (Zc #[I ⟨#[]⟩,J F 0 0,J F 0 0] 38);generalize m.alloc (Zc #[I ⟨#[]⟩,J F 0 0,J F 0 0] 38)=Q at *;clear j h B g;go_loopw [9] (fun r aa=>r=U O 0/\aa=Q) (fun _ _=>0)
  case atStart=>exact⟨rfl,rfl⟩
  case round =>
   obtain⟨rfl,rfl⟩:=hrel;go_wp2;refine jT (v:=.tuple #[bV,Y X]) oz10y86 rfl ?_
   exact⟨zjm s.out rfl,(((((f.out.setCell (jE _) _).setCell (jE _) _).setCell (jE _) _).setCell (jE _) _).setCell (jE _) _).setCell (jE _) _⟩
 | some q =>
  have a2:=d.faceq k;have n:Hid (Below w0.heap.size w0 w):=d.bs
  have s:Hid (V=zbu q.1.procs (yJ e)):=by
   show _=_;rw[t.out,k]
  rw[k]at j;clear k t d;obtain⟨u,y,x,z,aj⟩:=bA a2;obtain⟨_,_,R,_,ay⟩:=id a2;rw[aj]at j R;have p:_=_:=R;unfold fvV at p;injection p with p;simp only[Array.mk.injEq,jq,and_true,true_and]at p;obtain⟨rfl,rfl⟩:=p;clear R aj a2;generalize q.1=a at *;generalize yJ e=l at *;obtain⟨_,_,S,aL,am⟩:=ay;injection S with S _ ee4;obtain rfl:=S;obtain rfl:=ee4;go_enter func133,ntmps133;go_wp2_with (go_at_call 145;refine j.mono ?_;rintro o m ⟨rfl,h⟩;unfold ofV fvV;dsimp only);have f:Hid (Below w.heap.size w (m.alloc (Zc #[I a.module,J u a.vars.length y,J x a.procs.length z] 38))):=(g.trans (h.mono g.size)).alloc (g.trans (h.mono g.size)).size _;have ai:=Box3.new m (I a.module) (J u a.vars.length y) (J x a.procs.length z) 38;have ax:=(B.below h).alloc (Zc #[I a.module,J u a.vars.length y,J x a.procs.length z] 38);generalize az:m.alloc (Zc #[I a.module,J u a.vars.length y,J x a.procs.length z] 38)=Q at *;generalize m.heap.size=N at *;obtain⟨aU,aV,aW,_,_,_⟩:=id ai;obtain⟨a3,a5,a6,a7,a8,a9,aF,t7,t8,aG,aD,aE⟩:=id ax;clear j h az ai B g;go_loopw [9] (fun r aa=>∃c:Nat,c<=a.procs.length/\r=U O c/\Hid (∀b (hi:b<a.procs.length),b<c->eqS a.procs[b].name l=X)/\aa=Q) (fun r _=>a.procs.length - (intOf r).toNat)
  case atStart=>exact⟨0,jz _,rfl,fun b hi d=>absurd d oA,rfl⟩
  case round =>
   obtain⟨c,aK,rfl,M,rfl⟩:=hrel;by_cases G:c<a.procs.length
   ·obtain⟨aJ,aS,rfl,C⟩:=am (by intro o;rw[o]at G;simp at G);obtain⟨ab,ac,⟨aT,ad,ak⟩,ae,af,ag⟩:=C c G;have aM:=keep (keep ab n.out) f.out;have aN:=keep (keep ac n.out) f.out;have aO:=keep (keep ad n.out) f.out;have aP:=keep (keep ae n.out) f.out;have aQ:=keep (keep af n.out) f.out;have aR:=keep (keep ag n.out) f.out
    have K:Hid (∀i,eqS a.procs[c].name l=i->i=H->V=Z a.procs[c]):=fun i T W=>by
     rw[s.out];exact cV G (fun b hi d=>M.out b hi d) (T.trans W)
    have HS:Hid (∀i,eqS a.procs[c].name l=i->i=X->∀b (hi:b<a.procs.length),b<c+1->eqS a.procs[b].name l=X):=fun i T W b hi d=>by
     rcases jL b c with ah | ah
     ·exact M.out b hi ah
     ·obtain rfl:b=c:=oA;exact T.trans W
    clear ab ac ad ae af ag C am;generalize a.procs[c]=v at *;have aB:=ak;obtain⟨ao,ap,rfl,_,_⟩:=aB;cases E:eqS v.name l
    ·have C:(v.name.toList==l.toList)=X:=E;have av:=HS.out _ E rfl;clear HS K;go_wp2;go_roundw
     case rel=>exact⟨c+1,oA,oJ,av,trivial⟩
     case measure=>simp[intOf];omega
    ·have C:(v.name.toList==l.toList)=H:=E;have au:Hid (V=Z v):=K.out _ E rfl;clear HS K;have aw:Below w.heap.size w ((((((wr.setCell (A w.heap.size 0 F) (I v.name)).setCell (A w.heap.size 1 F) (Y v.pub)).setCell (A w.heap.size 2 F) (J ao v.params.length ap)).setCell (A w.heap.size 3 F) (U O v.writes)).setCell (A w.heap.size 4 F) (Y v.gives)).setCell (A w.heap.size 5 F) (U O v.given)):=(((((f.out.setCell (jE _) _).setCell (jE _) _).setCell (jE _) _).setCell (jE _) _).setCell (jE _) _).setCell (jE _) _;go_wp2;refine jT (v:=.tuple #[qR v (J ao v.params.length ap),Y H]) (by simp[results,results133,go_sem,a3,a5,a6,a7,a8,a9,qR]) rfl ?_;exact⟨zvg au.out rfl ak,aw⟩
   ·have ar:Hid (V=F):=by
     show _=_;rw[s.out];exact zav (fun b hi=>M.out b hi oA)
    go_wp2;refine jT (v:=.tuple #[bV,Y X]) oz10y86 rfl ?_;exact⟨zjm ar.out rfl,(((((f.out.setCell (jE _) _).setCell (jE _) _).setCell (jE _) _).setCell (jE _) _).setCell (jE _) _).setCell (jE _) _⟩
end
theorem zah (a b:Int) (w:Zw):Calls prog 114 #[U O a,U O b] w fun f w'=>f=.returned (U O (jn a b))/\w'=w:=by
 unfold jn;by_cases c:a=0
 ·by_cases d:b=0;·rw[ju (by simp[c,d])];exact oz10x81
  ·rw[jv (.inr d)];exact oz10x81
 ·rw[jv (.inl c)];exact oz10x81
def ULw (D:Nat) (w:Zw) (is st:Bool) (c a:Int):Zw:=if is||st then w else((w.setCell (A D 14 F) (Y H)).setCell (A D 12 F) (U O c)).setCell (A D 13 F) (U O a)
section
variable {w0 w w':Zw} {D:Nat} {own:FV} {fs:List FV} {fv lv:Zv} {L:List Loc} {at_:Int} {p0 p1 p2 p3 p4 p5:Zv} {fc fa:Int} {st:Bool}
theorem uS (is:Bool) (c b:Int) (w:Zw) (a:LK w0 w D own fs fv lv L at_ p0 p1 p2 p3 p4 p5 fc fa st) : Calls prog 35 #[Zp (Z (A D 0 F)),Y is,U O c,U O b] w fun d w'=>d=.returned (.tuple #[])/\w'=ULw D w is st c b:=by
 have e:=kc28;have k:=a.lc.c14;have i:=a.lc.c12;have j:=a.lc.c13;have f:=a.lc.fz 12;have g:=a.lc.fz 13;have h:=a.lc.fz 14;cases is
 ·cases st
  ·go_enter func35,ntmps35;go_wp2
   go_end0
   exact⟨rfl,rfl⟩
  ·go_enter func35,ntmps35;go_wp2
   go_end0
   exact⟨rfl,rfl⟩
 ·go_enter func35,ntmps35;go_wp2
  go_end0
  exact⟨rfl,rfl⟩
theorem ULw.fr (is st:Bool) (b a:Int):Fr D w (ULw D w is st b a):=by
 unfold ULw;split;·exact Fr.refl _ _
 ·exact(((Fr.refl _ _).set _ _).set _ _).set _ _
theorem ULw.ok (b a:Int) (st:Bool):ULw D w H st b a=w:=rfl
theorem LK.stay (c:LK w0 w D own fs fv lv L at_ p0 p1 p2 p3 p4 p5 fc fa H) (is:Bool) (b a:Int):ULw D w is H b a=w:=by
 unfold ULw;simp
theorem LK.wrong (c:LK w0 w D own fs fv lv L at_ p0 p1 p2 p3 p4 p5 fc fa X) (b a:Int):LK w0 (ULw D w X X b a) D own fs fv lv L at_ p0 p1 p2 p3 p4 p5 b a H:=c.fault b a
end
def itR (o:Option (Int × Int)):Option Int:=match o with
 | none=>Z 4
 | some v=>if 0<v.2 then F else Z 3
def itW (D:Nat) (w:Zw) (o:Option Int) (a:Int):Zw:=match o with
 | none=>w
 | some c=>ULw D w X X c a
section
variable {w0 w w':Zw} {D:Nat} {own:FV} {fs:List FV} {fv lv:Zv} {L:List Loc} {at_:Int} {p0 p1 p2 p3 p4 p5:Zv} {fc fa:Int} {st:Bool}
theorem ya7 (p:Int) (c:ByteArray) (m:Int) (q:Option Addr) (s r:Nat) (b:Int) (w:Zw) (E:kT c) (l:LK w0 w D own fs fv lv L at_ p0 p1 p2 p3 p4 p5 fc fa X) (C:fs.length<=1000) (B:L.length<=1000) : Calls prog 115 #[Zp (Z (A D 0 F)),Za #[U O p,I c,U O m,J q s r],U O b] w fun a w'=>a=.returned (.tuple #[])/\∃y,Below w.heap.size w y/\w'=itW D y (itR (zP ⟨own.1,fs.map (·.1)⟩ L c)) b:=by
 have K:=kc25;have o:=za0 c (w.alloc (Zc #[U O p,I c,U O m,J q s r] 25)) E (l.alloc _) C B;have f:Below w.heap.size w (w.alloc (Zc #[U O p,I c,U O m,J q s r] 25)):=bal _;have n:=l.alloc (Zc #[U O p,I c,U O m,J q s r] 25);generalize zP ⟨own.1,fs.map (·.1)⟩ L c=V at *
 cases V with
 | none =>
  go_enter func115,ntmps115;go_wp2_with (fail);refine o.mono ?_;rintro a h ⟨rfl,e⟩;have g:=n.below e;have k:Hid (Below w.heap.size w h):=f.trans (e.mono f.size);have i:=uS X 4 b h g;have z:=g.wrong 4 b;have d:=uS X 3 b _ z;rw[z.stay]at d;unfold vrV;clear o e f n l;go_wp2_with (fail);refine i.mono ?_;rintro a w2 ⟨rfl,rfl⟩;go_wp2_with (fail);refine d.mono ?_;rintro a x ⟨rfl,rfl⟩;go_wp2
  go_end0
  exact⟨rfl,h,k.out,rfl⟩
 | some v =>
  go_enter func115,ntmps115;go_wp2_with (fail);refine o.mono ?_;rintro a h ⟨rfl,e⟩;have g:=n.below e;have k:Hid (Below w.heap.size w h):=f.trans (e.mono f.size);have i:=uS H 4 b h g;rw[ULw.ok]at i;unfold vrV;clear o e f n l;by_cases j:0<v.2
  ·have d:=uS H 3 b _ g;rw[ULw.ok]at d;have t:Hid (itR (Z v)=F):=by show(if 0<v.2 then F else Z 3)=F;rw[jv j]
   obtain⟨G,u⟩:=v;dsimp only at j |-;go_wp2_with (fail);refine i.mono ?_;rintro a w2 ⟨rfl,rfl⟩;go_wp2_with (fail);refine d.mono ?_;rintro a x ⟨rfl,rfl⟩;go_wp2
   go_end0
   exact⟨rfl,x,k.out,by rw[t.out];rfl⟩
  ·have d:=uS X 3 b _ g;have t:Hid (itR (Z v)=Z 3):=by show(if 0<v.2 then F else Z 3)=Z 3;rw[ju j]
   obtain⟨G,u⟩:=v;dsimp only at j |-;have M:u<=0:=oA;have N:decide (0<u)=X:=decide_eq_false j;go_wp2_with (fail);refine i.mono ?_;rintro a w2 ⟨rfl,rfl⟩;go_wp2_with (fail);refine d.mono ?_;rintro a x ⟨rfl,rfl⟩;go_wp2
   go_end0
   exact⟨rfl,_,k.out,by rw[t.out];rfl⟩
end
end chk
namespace face
open Go.RowKit
open syn
section
variable {w w':Zw} {N M:Nat} {x0 x1 x2 x3:Zv}
theorem F4.other (b:F4 w N x0 x1 x2 x3) {o:Nat} (c:M≠N) (v:Zv):F4 (w.setCell (A M o F) v) N x0 x1 x2 x3:=b.block (jP _ _ _ _ (fun a=>c (by rw[a])))
theorem F4.other4 (f:F4 w N x0 x1 x2 x3) (a:M≠N) (b c d e:Zv):F4 ((((w.setCell (A M 0 F) b).setCell (A M 1 F) c).setCell (A M 2 F) d).setCell (A M 3 F) e) N x0 x1 x2 x3:=(((f.other a b).other a c).other a d).other a e
theorem F4.set0 (a:F4 w N x0 x1 x2 x3) (v:Zv):F4 (w.setCell (A N 0 F) v) N v x1 x2 x3 :=
 ⟨jS _ _ _ a.c0,by rw[jD _ _ _ _ oB];exact a.c1,by rw[jD _ _ _ _ oB];exact a.c2,by rw[jD _ _ _ _ oB];exact a.c3,by simp[a.f0],by simp[a.f1],by simp[a.f2],by simp[a.f3]⟩
theorem F4.set1 (a:F4 w N x0 x1 x2 x3) (v:Zv):F4 (w.setCell (A N 1 F) v) N x0 v x2 x3 :=
 ⟨by rw[jD _ _ _ _ oB];exact a.c0,jS _ _ _ a.c1,by rw[jD _ _ _ _ oB];exact a.c2,by rw[jD _ _ _ _ oB];exact a.c3,by simp[a.f0],by simp[a.f1],by simp[a.f2],by simp[a.f3]⟩
theorem F4.set2 (a:F4 w N x0 x1 x2 x3) (v:Zv):F4 (w.setCell (A N 2 F) v) N x0 x1 v x3 :=
 ⟨by rw[jD _ _ _ _ oB];exact a.c0,by rw[jD _ _ _ _ oB];exact a.c1,jS _ _ _ a.c2,by rw[jD _ _ _ _ oB];exact a.c3,by simp[a.f0],by simp[a.f1],by simp[a.f2],by simp[a.f3]⟩
theorem F4.set3 (a:F4 w N x0 x1 x2 x3) (v:Zv):F4 (w.setCell (A N 3 F) v) N x0 x1 x2 v :=
 ⟨by rw[jD _ _ _ _ oB];exact a.c0,by rw[jD _ _ _ _ oB];exact a.c1,by rw[jD _ _ _ _ oB];exact a.c2,jS _ _ _ a.c3,by simp[a.f0],by simp[a.f1],by simp[a.f2],by simp[a.f3]⟩
theorem F4.set4 (e:F4 w N x0 x1 x2 x3) (a b c d:Zv):F4 ((((w.setCell (A N 0 F) a).setCell (A N 1 F) b).setCell (A N 2 F) c).setCell (A N 3 F) d) N a b c d:=(((e.set0 a).set1 b).set2 c).set3 d
theorem F4.alloc (b:F4 w N x0 x1 x2 x3) (a:Obj):F4 (w.alloc a) N x0 x1 x2 x3:=b.below (bal a)
theorem zee {B:Nat} {b:Zw} (c:Below B b w) (a:B<=M) (x0 x1 x2 x3:Zv):Below B b ((((w.setCell (A M 0 F) x0).setCell (A M 1 F) x1).setCell (A M 2 F) x2).setCell (A M 3 F) x3):=(((c.setCell a _).setCell a _).setCell a _).setCell a _
end
theorem zpr (e:ByteArray) (j i:Bool) (r:Option Int) (v:Zv) (w:Zw) (a2:Lies (·<w.heap.size) w (Kid.var e j i r).tree v) : Calls prog 85 #[v] w fun q w'=>q=.returned (qC (zY e j i r))/\Below w.heap.size w w':=by
 have aJ:=kc25;have aK:prog.cellsOf 52=4:=cell4;have HP:(bits BinOp.and IntKind.i64 (2*bI j+bI i) 2 != 0)=j:=by have:=zjj j i F;rw[show gI F=0 from rfl,Int.add_zero]at this;exact this
 have E:bits BinOp.and IntKind.i64 (2*bI j+bI i) 1=bI i:=by have:=zji j i F;rw[show gI F=0 from rfl,Int.add_zero]at this;exact this
 rw[Kid.tree_is]at a2;unfold Lies at a2;obtain⟨n,o,rfl,av,af⟩:=a2;simp only[Kid.kind,Kid.text,Kid.num]at *;generalize 2*bI j+bI i=m at HP E;generalize y:(Kid.var e j i r).kids.length=g
 have au:0<g->∃(s u:Nat) (t:Int) (a8:Option Addr) (a9:Nat),n=Z (A s u F)/\g=1/\r=Z t/\s<w.heap.size/\w.cell? (A s u F)=Z (U O 15)/\w.cell? (A s (u+1) F)=Z (I empty)/\w.cell? (A s (u+2) F)=Z (U O t)/\w.cell? (A s (u+3) F)=Z (J a8 0 a9):=by
  intro ar
  cases r with
  | none=>simp[Kid.kids]at y;omega
  | some t =>
   obtain⟨s,u,rfl,ad,ac⟩:=af (by simp[Kid.kids]);unfold Kid.kids at ac
   obtain⟨⟨b1,⟨x0,x1,x2,x3,rfl,L,P,Q,R⟩,ag⟩,_⟩:=ac
   unfold Lies at ag;obtain⟨a7,T,aa,_,_⟩:=ag;cases aa;simp[Kid.kids]at y;exact⟨s,u,t,a7,T,rfl,y.symm,rfl,ad,L,P,Q,R⟩
 have aw:g=0->r.getD 0=0:=by
  intro ar
  cases r with
  | none=>rfl
  | some t=>simp[Kid.kids]at y;omega
 have aT:g<=1:=by
  cases r with
  | none=>simp[Kid.kids]at y;omega
  | some t=>simp[Kid.kids]at y;omega
 clear af av y;have ab:∀k,Calls prog 102 #[Za #[U O 3,I e,U O m,J n g o]] k fun q w'=>q=.returned (Y j)/\Below k.heap.size k w':=fun k=>by have:=zpo 3 e m n g o k;rw[HP]at this;exact this
 have V:∀k,Calls prog 103 #[Za #[U O 3,I e,U O m,J n g o]] k fun q w'=>q=.returned (U O (bI i))/\Below k.heap.size k w':=fun k=>by have:=dX 3 e m n g o k;rw[E]at this;exact this
 clear HP E;have a:Q4 w.heap.size (U O 3) (I e) (U O m) (J n g o) ((w.alloc (Zc #[U O 3,I e,U O m,J n g o] 25)).alloc (Zc #[I ⟨#[]⟩,Y X,U O 0,U O 0] 52)).drew:=⟨oB,oB,oB,oB⟩
 have b:Below w.heap.size w ((w.alloc (Zc #[U O 3,I e,U O m,J n g o] 25)).alloc (Zc #[I ⟨#[]⟩,Y X,U O 0,U O 0] 52)).drew:=(Joins.below_alloc2 w (Zc #[U O 3,I e,U O m,J n g o] 25) (Zc #[I ⟨#[]⟩,Y X,U O 0,U O 0] 52)).drew;have f:F4 ((w.alloc (Zc #[U O 3,I e,U O m,J n g o] 25)).alloc (Zc #[I ⟨#[]⟩,Y X,U O 0,U O 0] 52)).drew (w.heap.size+1) (I ⟨#[]⟩) (Y X) (U O 0) (U O 0):=oV;go_enter func85,ntmps85;go_wp2;refine wp_region_held_drew (S:=fun k=>Q4 w.heap.size (U O 3) (I e) (U O m) (J n g o) k) oD a (fun h=>?_);clear h;generalize ((w.alloc (Zc #[U O 3,I e,U O m,J n g o] 25)).alloc (Zc #[I ⟨#[]⟩,Y X,U O 0,U O 0] 52)).drew=k at *;refine tkP 0 (Zp (Z (A w.heap.size 1 F))) a ?_;simp only[Act.put,jA,jB,jC];refine tkP 1 (I e) a ?_;simp only[Act.put,jA,jB,jC];refine tkP 2 (Za #[U O 3,I e,U O m,J n g o] ) a ?_;simp only[Act.put,jA,jB,jC];refine tkP 4 (Za #[U O 3,I e,U O m,J n g o] ) a ?_;simp only[Act.put,jA,jB,jC];refine wpAnyH_ready (rs:=[3,7]) oD oB ?_;refine AllReadyH.cons rfl (fun l d=>?_) (AllReadyH.cons rfl (fun l d=>?_) AllReadyH.nil)
 focus
  go_simp;go_at_call 102;refine(ab _).mono ?_;rintro q C ⟨rfl,c⟩;go_wp2;replace a:=Q4.below a c;replace b:=b.trans (c.mono b.size);replace f:=f.below c;skip;refine d.out _ _ a (fun h=>?_);clear d l h c;refine wpAnyH_ready (rs:=[5,7]) oD oB ?_;refine AllReadyH.cons rfl (fun l d=>?_) (AllReadyH.cons rfl (fun l d=>?_) AllReadyH.nil)
  focus
   go_simp;go_at_call 103;refine(V _).mono ?_;rintro q B ⟨rfl,c⟩;go_wp2;replace a:=Q4.below a c;replace b:=b.trans (c.mono b.size);replace f:=f.below c;skip;refine d.out _ _ a (fun h=>?_);clear d l h c;refine tkP 6 (Za #[I e,Y j,U O (bI i),U O 0] ) a ?_;simp only[Act.put,jA,jB,jC];refine oneH 7 fun l d=>?_
   go_simp;have p:=F4.new B (I ⟨#[]⟩) (Y X) (U O 0) (U O 0) 52;have ae:w.heap.size+1<B.heap.size:=f.lt;replace a:=Q4.alloc a (Zc #[I ⟨#[]⟩,Y X,U O 0,U O 0] 52);replace b:=b.alloc b.size (Zc #[I ⟨#[]⟩,Y X,U O 0,U O 0] 52);replace f:=f.alloc (Zc #[I ⟨#[]⟩,Y X,U O 0,U O 0] 52);refine d.out _ _ a (fun h=>?_);clear d l h;generalize B.alloc (Zc #[I ⟨#[]⟩,Y X,U O 0,U O 0] 52)=a6 at *;generalize B.heap.size=N at *
  rotate_left
  focus
   go_simp;have p:=F4.new C (I ⟨#[]⟩) (Y X) (U O 0) (U O 0) 52;have ae:w.heap.size+1<C.heap.size:=f.lt;replace a:=Q4.alloc a (Zc #[I ⟨#[]⟩,Y X,U O 0,U O 0] 52);replace b:=b.alloc b.size (Zc #[I ⟨#[]⟩,Y X,U O 0,U O 0] 52);replace f:=f.alloc (Zc #[I ⟨#[]⟩,Y X,U O 0,U O 0] 52);refine d.out _ _ a (fun h=>?_);clear d l h;generalize C.alloc (Zc #[I ⟨#[]⟩,Y X,U O 0,U O 0] 52)=a6 at *;generalize C.heap.size=N at *;refine oneH 5 fun l d=>?_
   go_simp;go_at_call 103;refine(V _).mono ?_;rintro q B ⟨rfl,c⟩;go_wp2;replace a:=Q4.below a c;replace b:=b.trans (c.mono b.size);replace f:=f.below c;replace p:=p.below c;refine d.out _ _ a (fun h=>?_);clear d l h c;refine tkP 6 (Za #[I e,Y j,U O (bI i),U O 0] ) a ?_;simp only[Act.put,jA,jB,jC]
 rotate_left 2
 focus
  go_simp;have p:=F4.new k (I ⟨#[]⟩) (Y X) (U O 0) (U O 0) 52;have ae:w.heap.size+1<k.heap.size:=f.lt;replace a:=Q4.alloc a (Zc #[I ⟨#[]⟩,Y X,U O 0,U O 0] 52);replace b:=b.alloc b.size (Zc #[I ⟨#[]⟩,Y X,U O 0,U O 0] 52);replace f:=f.alloc (Zc #[I ⟨#[]⟩,Y X,U O 0,U O 0] 52);refine d.out _ _ a (fun h=>?_);clear d l h;generalize k.alloc (Zc #[I ⟨#[]⟩,Y X,U O 0,U O 0] 52)=a6 at *;generalize k.heap.size=N at *;refine oneH 3 fun l d=>?_
  go_simp;go_at_call 102;refine(ab _).mono ?_;rintro q C ⟨rfl,c⟩;go_wp2;replace a:=Q4.below a c;replace b:=b.trans (c.mono b.size);replace f:=f.below c;replace p:=p.below c;refine d.out _ _ a (fun h=>?_);clear d l h c;refine oneH 5 fun l d=>?_
  go_simp;go_at_call 103;refine(V _).mono ?_;rintro q B ⟨rfl,c⟩;go_wp2;replace a:=Q4.below a c;replace b:=b.trans (c.mono b.size);replace f:=f.below c;replace p:=p.below c;refine d.out _ _ a (fun h=>?_);clear d l h c;refine tkP 6 (Za #[I e,Y j,U O (bI i),U O 0] ) a ?_;simp only[Act.put,jA,jB,jC]
 all_goals
  refine oneH 8 fun l d=>?_
  obtain⟨ax,ay,az,aA,am,an,ao,ap⟩:=id p;go_simp;replace p:=p.set4 (I e) (Y j) (U O (bI i)) (U O 0);replace a:=Q4.set4 (M:=N) oA a (I e) (Y j) (U O (bI i)) (U O 0);replace b:=zee (M:=N) b oA (I e) (Y j) (U O (bI i)) (U O 0);replace f:=f.other4 (M:=N) oA (I e) (Y j) (U O (bI i)) (U O 0);refine d.out _ _ a (fun h=>?_);clear d l h ax ay az aA am an ao ap;generalize (World.setCell _ (A N 3 F) _)=aF at *;refine wpAnyH_done oD ?_ _;obtain⟨aB,aC,aD,aE⟩:=id a;go_wp2;go_loopw [16] (fun a3 wr=>∃(z:Nat) (D:Int),z<=g/\Hid (z=g->D=r.getD 0)/\a3=U O z/\Below w.heap.size w wr/\F4 wr N (I e) (Y j) (U O (bI i)) (U O D)/\F4 wr (w.heap.size+1) (I ⟨#[]⟩) (Y X) (U O 0) (U O 0)) (fun a3 _=>g - (intOf a3).toNat)
  case atStart=>exact⟨0,0,jz _,fun q=>(aw q.symm).symm,rfl,b,p,f⟩
  case round =>
   clear b p f aB aC aD aE a;obtain⟨z,D,aS,a5,rfl,x,K,G⟩:=hrel;have aW:=K.lt;have aV:=G.lt;obtain⟨aG,a7,aH,aI,aO,aP,aQ,aR⟩:=id K;obtain⟨ai,T,aj,ak,aL,aa,aM,aN⟩:=id G;by_cases aU:z<g
   ·obtain⟨s,u,t,a8,a9,rfl,rfl,rfl,ad,L,P,Q,R⟩:=au oA;have W:z=0:=oA;subst W;have aX:=keep L x;have aY:=keep P x;have aZ:=keep Q x;have b0:=keep R x;go_wp2;go_roundw
    case rel=>exact⟨1,t,oA,fun _=>rfl,oJ,(x.setCell (by show w.heap.size<=N;omega) _).alloc (by rw[jQ];exact x.size) _,(K.set3 _).alloc _,(G.other oA _).alloc _⟩
    case measure=>simp[intOf]
   ·have W:z=g:=oA;subst W;have ah:Hid (D=r.getD 0):=a5.out rfl;clear a5;go_wp2;refine jT (v:=Za #[I e,Y j,U O (bI i),U O D]) (by simp[results,results85,go_sem,ai,T,aj,ak]) rfl ⟨by rw[ah.out];rfl,zee x oA _ _ _ _⟩
end face
end Go.Proofs.YtjkcecppnmlhjaaGreatDoor
