/- Where a word lies: a contract. -/
import Derived.Test.YtbjppepjmcfkaaaGreatDoorTQr
import Derived.Test.YtbjppepjmcfkaaaGreatDoorTQ04
import Derived.Test.YtbjppepjmcfkaaaGreatDoorRows
import Derived.Shelf.Strings.Search3
import Derived.Lib.IndexAny
import Derived.Deep.Cut
set_option maxHeartbeats 4000000
set_option linter.unusedVariables false
set_option linter.unusedSimpArgs false
set_option maxRecDepth 100000
namespace Go.Proofs.YtbjppepjmcfkaaaGreatDoor
theorem zhl {p:Prop} (T:p:=by
 simp[results,Tryz.results127,go_sem,aO,aP,aQ,aR,aS,aT]):p:=T
theorem zcq {p:Prop} (T:p:=by
 show w.heap.size<=N;omega):p:=T
theorem zel {p:Prop} (T:p:=by
 have:=ak _ m;omega):p:=T
theorem zhk {p:Prop} (T:p:=by
 have:=(x.lt _ m).2;omega):p:=T
theorem zcp {p:Prop} (T:p:=by
 have:=aL.out;omega):p:=T
theorem zpg {p:Prop} (T:p:=by
 exact lexs.ownsRow_le (zne (jV (jV x aE _) aE _) aD _ _ _ _ _ _) oA):p:=T
theorem uS {p:Prop} (d:p:=by
 go_enter Tryz.func190,Tryz.ntmps190;go_wp2;go_ret2
 exact⟨rfl,rfl⟩):p:=d
theorem zph {p:Prop} (a:p:=by
 go_wp2
 go_quiet (fail)
 go_wp2
 exact⟨rfl,gV.new rfl,lo,hi,⟨_,k.out.drewN _⟩,(FK.refl ..).drewN _⟩):p:=a
theorem zen {p:Prop} (a:p:=by
 rw[n.out];exact r):p:=a
theorem zem {p:Prop} (a:p:=by
 rw[n.out];exact k):p:=a
theorem zpf {p:Prop} (f:p:=by
 go_enter Tryz.func107,Tryz.ntmps107;go_wp2_with (go_at_call 137;refine d.mono ?_;rintro e j ⟨rfl,g⟩;obtain rfl:=g.symm);go_ret
 exact⟨rfl,rfl⟩):p:=f
theorem zek {p:Prop} (c:p:=by
 intro g;cases g;exact h rfl):p:=c
theorem zej {p:Prop} (m:p:=by
 go_quiet (first | (go_at_call 107;refine Calls.quiet_of_same (ab _)))
 go_wp2;rw[r.out]
 exact⟨rfl,z.out.trans ((below_drewN _ _).mono z.out.size),rfl⟩):p:=m
theorem zhj {p:Prop} (f:p:=by
 go_enter Tryz.func185,Tryz.ntmps185;go_wp2;go_ret
 exact⟨rfl,rfl⟩):p:=f
end Go.Proofs.YtbjppepjmcfkaaaGreatDoor
namespace Go.Proofs.YtbjppepjmcfkaaaGreatDoor.face
open Go.RowKit Go.Maps Go.WideMaps
open syn (kO eqS)
def qG (c a:Int):List PanicEntry:=[{ v:=.iface 28 (.agg #[.int .i64 c,.int .i64 a]),recovered:=false }]
theorem oRefuse (D:Nat) (b a:Int) (w:World) (d:w.cell? ⟨D,7,none⟩=some (.int .i64 a)) : Calls Tryz.prog 148 #[.pointer (some ⟨D,0,none⟩),.int .i64 b] w fun c w'=>c=.panicked (qG b a)/\w'=w:=by
 unfold qG;go_enter Tryz.func148,Tryz.ntmps148;go_wp2;exact⟨rfl,rfl,rfl⟩
theorem zxf (l:List ByteArray) (a:ByteArray):Maps.has (setD l) (qM a)=kJ l a:=by
 unfold setD;rw[has_setOf _ _ _ (fun c b=>by obtain⟨d,_,rfl⟩:=List.mem_map.1 b;trivial)];exact zj5 l a
theorem zup {l:List ByteArray} (a:apartB [] l=true):Maps.size (setD l)=l.length:=by
 have:=zkz l;rw[a]at this;simpa using this
theorem zir (w:World):(zeroValue 89).run Tryz.prog w=.ok (.agg #[]) w:=oB
theorem zji:∀(l a:List ByteArray) (b:ByteArray),apartB a (l++[b])=(apartB a l&&!kJ (a++l) b)
 | [],a,b=>by simp[apartB]
 | y :: r,a,b=>by
  show(!kJ a y&&apartB (a++[y]) (r++[b]))=((!kJ a y&&apartB (a++[y]) r)&&!kJ (a++y :: r) b)
  rw[zji r (a++[y]) b,Bool.and_assoc];simp
theorem oEnter (D b:Nat) (c:List ByteArray) (d:ByteArray) (kF:Nat) (a:Int) (w:World) (n:w.cell? ⟨D,7,none⟩=some (.int .i64 a)) (e:w.ownsMap Tryz.prog 9 (unitElem (H:=Unit)) b c.length (setD c)) (k:apartB [] c=true) (x:d.size<=1000) (v:kF<=1000) (t:c.length<=1000) : Calls Tryz.prog 110 #[.pointer (some ⟨D,0,none⟩),.map (some b),.string d,.int .i64 kF] w fun f w' =>
   (kJ c d=true/\f=.panicked (qG 5 a)/\Below w.heap.size w w')\/(kJ c d=false/\kF<=c.length/\f=.panicked (qG 1 a)/\Below w.heap.size w w') \/
   (kJ c d=false/\c.length<kF/\f=.returned (.tuple #[])/\w'.ownsMap Tryz.prog 9 (unitElem (H:=Unit)) b (c++[d]).length (setD (c++[d]))/\apartB [] (c++[d])=true/\w.grownBy w' (some b)):=by
 have h:keyOf Tryz.prog 9 (.string d)=some (qM d):=keyOf_string_mk Tryz.underlying9 (by unfold maxLen;omega);have m:=zup k;have g:=zxf c d;have l:=fun r=>zI n r
 cases i:kJ c d
 ·rw[i]at g;by_cases p:kF<=c.length
  ·go_enter Tryz.func110,Tryz.ntmps110
   go_wp2_with first
    | (at_lookup;refine wpList_lookup_own_unit _ rfl _ _ 85 rfl 9 89 vE Tryz.underlying85 (zir _) b _ _ rfl e _ _ rfl h ?_;rw[g])
    | (at_len;refine wpList_len_own _ rfl _ 85 rfl 9 89 Tryz.underlying85 (unitElem (H:=Unit)) b _ _ rfl (e.alloc _) ?_;rw[m])
    | (go_at_call 148;refine(oRefuse D _ a _ (l _)).mono ?_;rintro f w2 ⟨rfl,j⟩;obtain rfl:=j.symm)
    | go_in
   exact⟨rfl,Or.inr (Or.inl ⟨trivial,p,rfl,bal _⟩)⟩
  ·have u:c.length<kF:=oA;have s:apartB [] (c++[d])=true:=by rw[zji,k,js,i];rfl
   go_enter Tryz.func110,Tryz.ntmps110
   go_wp2_with first
    | (at_lookup;refine wpList_lookup_own_unit _ rfl _ _ 85 rfl 9 89 vE Tryz.underlying85 (zir _) b _ _ rfl e _ _ rfl h ?_;rw[g])
    | (at_len;refine wpList_len_own _ rfl _ 85 rfl 9 89 Tryz.underlying85 (unitElem (H:=Unit)) b _ _ rfl (e.alloc _) ?_;rw[m])
    | (at_mapUpdate;refine wpList_mapUpdate_own _ rfl _ _ _ 85 rfl 9 89 vE Tryz.underlying85 (unitElem (H:=Unit)) b _ _ rfl (e.alloc _) (by unfold maxLen;omega) _ _ _ rfl rfl h _ [] unitElem_mk ?_;intro y q o)
    | go_in
   go_end0
   exact⟨rfl,by rw[zk0];exact q,(((grown_of_below ((Below.refl w.heap.size w).alloc (jE _) _)).but _).trans o)⟩
 ·rw[i]at g;go_enter Tryz.func110,Tryz.ntmps110
  go_wp2_with first
   | (at_lookup;refine wpList_lookup_own_unit _ rfl _ _ 85 rfl 9 89 vE Tryz.underlying85 (zir _) b _ _ rfl e _ _ rfl h ?_;rw[g])
   | (go_at_call 148;refine(oRefuse D _ a _ (l _)).mono ?_;rintro f w2 ⟨rfl,j⟩;obtain rfl:=j.symm)
   | go_in
  exact⟨rfl,Or.inl ⟨trivial,rfl,bal _⟩⟩
end Go.Proofs.YtbjppepjmcfkaaaGreatDoor.face
namespace Go.Proofs.YtbjppepjmcfkaaaGreatDoor.face
open Go.RowKit
open syn
theorem zla (p l:Bool) (a:Option Bool):(bits BinOp.and IntKind.i64 (2*bI p+bI l+gI a) 2 != 0)=p:=by cases p<;>cases l<;>rcases a with _ | _ | _<;>decide +kernel
theorem zk9 (p l:Bool) (a:Option Bool):bits BinOp.and IntKind.i64 (2*bI p+bI l+gI a) 1=bI l:=by cases p<;>cases l<;>rcases a with _ | _ | _<;>decide +kernel
theorem ztn (p l:Bool) (a:Option Bool):bits BinOp.and IntKind.i64 (2*bI p+bI l+gI a) 12=gI a:=by cases p<;>cases l<;>rcases a with _ | _ | _<;>decide +kernel
theorem zqt (e:Int) (g:ByteArray) (b:Int) (a:Option Addr) (f c:Nat) (w:World) : Calls Tryz.prog 138 #[.agg #[.int .i64 e,.string g,.int .i64 b,.slice a f c]] w fun d w'=>d=.returned (.bool (bits BinOp.and IntKind.i64 b 2 != 0))/\Below w.heap.size w w':=by
 have h:=kc25;go_enter Tryz.func138,Tryz.ntmps138;go_wp2;go_ret;exact⟨rfl,bal _⟩
theorem bH (e:Int) (g:ByteArray) (b:Int) (a:Option Addr) (f c:Nat) (w:World) : Calls Tryz.prog 139 #[.agg #[.int .i64 e,.string g,.int .i64 b,.slice a f c]] w fun d w'=>d=.returned (.int .i64 (bits BinOp.and IntKind.i64 b 1))/\Below w.heap.size w w':=by
 have h:=kc25;go_enter Tryz.func139,Tryz.ntmps139;go_wp2;go_ret;exact⟨rfl,bal _⟩
abbrev Q4 (N:Nat) (x0 x1 x2 x3:Value) (w:World):Prop:=w.cell? ⟨N,0,none⟩=some x0/\w.cell? ⟨N,1,none⟩=some x1/\w.cell? ⟨N,2,none⟩=some x2/\w.cell? ⟨N,3,none⟩=some x3
theorem Q4.below {w w':World} {N:Nat} {x0 x1 x2 x3:Value} (a:Q4 N x0 x1 x2 x3 w) (b:Below w.heap.size w w'):Q4 N x0 x1 x2 x3 w':=⟨keep a.1 b,keep a.2.1 b,keep a.2.2.1 b,keep a.2.2.2 b⟩
theorem Q4.alloc {w:World} {N:Nat} {x0 x1 x2 x3:Value} (b:Q4 N x0 x1 x2 x3 w) (a:Obj):Q4 N x0 x1 x2 x3 (w.alloc a):=b.below (bal a)
theorem Q4.set4 {w:World} {N M:Nat} {x0 x1 x2 x3:Value} (h:M≠N) (c:Q4 N x0 x1 x2 x3 w) (a b f d:Value):Q4 N x0 x1 x2 x3 ((((w.setCell ⟨M,0,none⟩ a).setCell ⟨M,1,none⟩ b).setCell ⟨M,2,none⟩ f).setCell ⟨M,3,none⟩ d):=by
 have one:∀(w:World) (e:Nat) (v:Value),Q4 N x0 x1 x2 x3 w->Q4 N x0 x1 x2 x3 (w.setCell ⟨M,e,none⟩ v):=fun w e v c =>
  ⟨by rw[jD _ _ _ _ zek];exact c.1,by rw[jD _ _ _ _ zek];exact c.2.1,by rw[jD _ _ _ _ zek];exact c.2.2.1,by rw[jD _ _ _ _ zek];exact c.2.2.2⟩
 exact one _ _ _ (one _ _ _ (one _ _ _ (one _ _ _ c)))
structure F4 (w:World) (N:Nat) (x0 x1 x2 x3:Value):Prop where
 c0:w.cell? ⟨N,0,none⟩=some x0
 c1:w.cell? ⟨N,1,none⟩=some x1
 c2:w.cell? ⟨N,2,none⟩=some x2
 c3:w.cell? ⟨N,3,none⟩=some x3
 f0:w.frozen? ⟨N,0,none⟩=false
 f1:w.frozen? ⟨N,1,none⟩=false
 f2:w.frozen? ⟨N,2,none⟩=false
 f3:w.frozen? ⟨N,3,none⟩=false
theorem F4.new (w:World) (x0 x1 x2 x3:Value) (T:TypeId):F4 (w.alloc (.cells #[x0,x1,x2,x3] T)) w.heap.size x0 x1 x2 x3:=oV
theorem F4.lt {w:World} {N:Nat} {x0 x1 x2 x3:Value} (a:F4 w N x0 x1 x2 x3):N<w.heap.size:=jS w ⟨N,0,none⟩ a.c0
theorem F4.block {w w':World} {N:Nat} {x0 x1 x2 x3:Value} (b:F4 w N x0 x1 x2 x3) (c:w'.heap[N]?=w.heap[N]?):F4 w' N x0 x1 x2 x3 :=
 ⟨(jN (a:=⟨N,0,none⟩) c).trans b.c0,(jN (a:=⟨N,1,none⟩) c).trans b.c1,(jN (a:=⟨N,2,none⟩) c).trans b.c2,(jN (a:=⟨N,3,none⟩) c).trans b.c3,(jO (a:=⟨N,0,none⟩) c).trans b.f0,(jO (a:=⟨N,1,none⟩) c).trans b.f1,(jO (a:=⟨N,2,none⟩) c).trans b.f2,(jO (a:=⟨N,3,none⟩) c).trans b.f3⟩
theorem F4.below {w w':World} {N:Nat} {x0 x1 x2 x3:Value} (a:F4 w N x0 x1 x2 x3) (b:Below w.heap.size w w'):F4 w' N x0 x1 x2 x3:=a.block (b.block N a.lt)
end Go.Proofs.YtbjppepjmcfkaaaGreatDoor.face
namespace Go.Proofs.YtbjppepjmcfkaaaGreatDoor.chk
open Go.RowKit
open syn face
theorem vO (b a:Int) (w:World) : Calls Tryz.prog 128 #[.int .i64 b,.int .i64 a] w fun c w'=>c=.panicked (qG b a)/\w'=w:=by
 unfold qG;go_enter Tryz.func128,Tryz.ntmps128;go_wp2;exact⟨rfl,rfl,rfl⟩
theorem za9 (a b:Int) (w:World):Calls Tryz.prog 185 #[.int .i64 a,.int .i64 b] w fun e w'=>e=.returned (.int .i64 (jn a b))/\w'=w:=by
 unfold jn;by_cases c:a=0
 ·by_cases d:b=0;·rw[ju (by simp[c,d])];exact zhj
  ·rw[jv (.inr d)];exact zhj
 ·rw[jv (.inl c)];exact zhj
theorem zqs (D:Nat) (a:Int) (w:World) (c:w.cell? ⟨D,7,none⟩=some (.int .i64 a)) (f:w.frozen? ⟨D,7,none⟩=false) (d:0<=a) (e:a<=1000000) : Calls Tryz.prog 81 #[.pointer (some ⟨D,0,none⟩)] w fun b w'=>b=.returned (.int .i64 a)/\w'=w.setCell ⟨D,7,none⟩ (.int .i64 (a+1)):=by
 go_enter Tryz.func81,Tryz.ntmps81;go_wp2;go_ret;exact⟨rfl,rfl⟩
def zA (to:Int) (a:List Int):Bool:=a.all fun l=>jn to l==to
def FL (w:World) (to a:Int) (b:List Int) (e:Ending) (w':World):Prop:=(zA to b=true/\e=.returned (.tuple #[])/\w'=w)\/(zA to b=false/\e=.panicked (qG 7 a)/\w'=w)
theorem dT (a to:Int) (c:List Int) (u:Value) (w:World) (y:IntsIn w u c) : Calls Tryz.prog 158 #[.int .i64 a,.int .i64 to,u] w (FL w to a c):=by
 obtain⟨P,Q,rfl,G,t⟩:=y;have K:(c.length:Int)<=9223372036854775807:=oA;go_enter Tryz.func158,Tryz.ntmps158;go_wp2;go_loopw [10] (fun o wr=>∃e:Nat,e<=c.length/\o=.int .i64 e/\Hid (∀d (hi:d<c.length),d<e->(jn to c[d]==to)=true)/\wr=w) (fun o _=>c.length - (intOf o).toNat)
 case atStart=>exact⟨0,jz _,rfl,fun d hi q=>absurd q oA,rfl⟩
 case round =>
  obtain⟨e,E,rfl,p,rfl⟩:=hrel;by_cases h:e<c.length
  ·obtain⟨C,N,rfl,s⟩:=t (by intro f;rw[f]at h;simp at h);have M:=s e h
   have i:Hid (∀b,(jn to c[e]==to)=b->b=false->zA to c=false):=fun b k m=>by
    unfold zA;rw[List.all_eq_false];exact⟨c[e],jH h,by rw[k,m];decide⟩
   have HS:Hid (∀b,(jn to c[e]==to)=b->b=true->∀d (hi:d<c.length),d<e+1->(jn to c[d]==to)=true):=fun b k m d hi q=>by
    rcases jM d e with r | r
    ·exact p.out d hi r
    ·obtain rfl:d=e:=oA;exact k.trans m
   clear s t;generalize c[e]=l at *;cases g:(jn to l==to)
   ·have j:Hid (zA to c=false):=i.out _ g rfl;have L:¬jn to l=to:=by simpa using g
    clear i HS
    go_wp2_with first
     | (go_at_call 185;refine(za9 _ _ _).mono ?_;rintro f B ⟨rfl,n⟩;obtain rfl:=n.symm)
     | (go_at_call 128;refine(vO _ _ _).mono ?_;rintro f R ⟨rfl,z⟩;obtain rfl:=z.symm)
    exact⟨rfl,.inr ⟨j.out,rfl,rfl⟩⟩
   ·have v:=HS.out _ g rfl;have D:jn to l=to:=by simpa using g
    clear i HS;go_wp2_with (go_at_call 185;refine(za9 _ _ _).mono ?_;rintro f B ⟨rfl,n⟩;obtain rfl:=n.symm);go_roundw
    case rel=>exact⟨e+1,oA,oM,v,trivial⟩
    case measure=>simp[intOf];omega
  ·have j:Hid (zA to c=true):=by
    show _=_;unfold zA;rw[List.all_eq_true];intro l x;obtain⟨d,hi,rfl⟩:=List.mem_iff_getElem.1 x;exact p.out d hi oA
   go_wp2
   go_end0
   exact .inl ⟨j.out,rfl,rfl⟩
end Go.Proofs.YtbjppepjmcfkaaaGreatDoor.chk
namespace Go.Proofs.YtbjppepjmcfkaaaGreatDoor.face
open Go.RowKit
structure FR (xx:Nat->Prop) (B:Nat) (w:World) (vv pv:Value) (V:List VarD) (P:List (ProcD × Value)):Prop where
 ov:w.ownsRow B 87 4 vv V.length (qZ V)
 op:w.ownsRow B 91 6 pv P.length (xO P)
 par:∀q∈P,yM (fun b=>B<=b/\b<w.heap.size/\vv.ownBlock≠some b/\pv.ownBlock≠some b/\¬xx b) w q.2 q.1.params
 dj:∀b,vv.ownBlock=some b->pv.ownBlock≠some b
 xv:∀b,vv.ownBlock=some b->¬xx b
 xp:∀b,pv.ownBlock=some b->¬xx b
section
variable {xx:Nat->Prop} {B:Nat} {w w':World} {vv pv:Value} {V:List VarD} {P:List (ProcD × Value)}
theorem FR.nil (xx:Nat->Prop) (B:Nat) (w:World):FR xx B w (.slice none 0 0) (.slice none 0 0) [] [] :=
 ⟨World.ownsRow_nil _ _ _ _,World.ownsRow_nil _ _ _ _,(fun q c=>by cases c),(fun b a=>by cases a),(fun b a=>by cases a),(fun b a=>by cases a)⟩
theorem FR.grown {row:Option Nat} (a:FR xx B w vv pv V P) (e:w.grownBy w' row) (g:∀b,row=some b->xx b):FR xx B w' vv pv V P:=by
 have k:vv.ownBlock=none\/vv.ownBlock≠row:=by
  cases c:vv.ownBlock with
  | none=>exact .inl rfl
  | some b=>exact .inr (fun f=>a.xv b c (g b f.symm))
 have i:pv.ownBlock=none\/pv.ownBlock≠row:=by
  cases c:pv.ownBlock with
  | none=>exact .inl rfl
  | some b=>exact .inr (fun f=>a.xp b c (g b f.symm))
 refine⟨a.ov.kept e k,a.op.kept e i,fun q j=>?_,a.dj,a.xv,a.xp⟩;exact(a.par q j).to (fun b d=>⟨d.1,jo d.2.1 e.size,d.2.2⟩) (fun b d l v h=>cell_grown e h (fun c=>d.2.2.2.2 (g b c)))
theorem FR.below (d:FR xx B w vv pv V P) (a:Below w.heap.size w w'):FR xx B w' vv pv V P :=
 d.grown (row:=none) ⟨a.os,a.tape,a.output,a.size,fun f e _=>a.block f e⟩ (fun b c=>by cases c)
theorem FR.alloc (b:FR xx B w vv pv V P) (a:Obj):FR xx B (w.alloc a) vv pv V P:=b.below (bal a)
theorem FR.drew (a:FR xx B w vv pv V P):FR xx B w.drew vv pv V P:=⟨a.ov,a.op,a.par,a.dj,a.xv,a.xp⟩
theorem FR.set (a:FR xx B w vv pv V P) {M o:Nat} (h:M<B) (v:Value):FR xx B (w.setCell ⟨M,o,none⟩ v) vv pv V P:=by
 refine⟨jV a.ov (fun c=>by have:=(a.ov.lt _ c).1;simp at this;omega) _,jV a.op (fun c=>by have:=(a.op.lt _ c).1;simp at this;omega) _,fun q f=>?_,a.dj,a.xv,a.xp⟩
 exact(a.par q f).to (fun b d=>⟨d.1,by rw[jR];exact d.2.1,d.2.2⟩) (fun b d i j e=>by
  rw[jD _ _ _ _ (by intro c;have g:=d.1;cases c;omega)]
  exact e)
theorem FR.pushV (e:FR xx B w vv pv V P) {v:VarD} {a k:Nat} (o:w'.ownsRow B 87 4 (.slice (some ⟨a,0,none⟩) (V.length+1) k) (V.length+1) (qZ V++[.string v.name,.bool v.pub,.int .i64 v.label,.int .i64 v.size])) (j:w.grownBy w' vv.ownBlock) (i:vv.ownBlock=some a\/a=w.heap.size) (l:∀b,w.heap.size<=b->¬xx b):FR xx B w' (.slice (some ⟨a,0,none⟩) (V.length+1) k) pv (V++[v]) P:=by
 have p:pv.ownBlock=none\/pv.ownBlock≠vv.ownBlock:=by
  cases d:pv.ownBlock with
  | none=>exact .inl rfl
  | some b=>exact .inr (fun g=>e.dj b g.symm d)
 have n:∀b,some a=some b->pv.ownBlock≠some b:=fun b d g=>by
  cases d;rcases i with c | c
  ·exact e.dj a c g
  ·have:=(e.op.lt _ g).2;omega
 refine⟨by rw[ziw,jb];exact o,e.op.kept j p,fun q r=>?_,n,fun b d=>?_,e.xp⟩
 ·refine(e.par q r).to (fun b f=>⟨f.1,jo f.2.1 j.size,fun d=>?_,f.2.2.2⟩) (fun b f s v m=>cell_grown j m f.2.2.1);have h:some a=some b:=d;cases h;rcases i with c | c
  ·exact f.2.2.1 c
  ·have:=f.2.1;omega
 ·have h:some a=some b:=d;cases h;rcases i with c | c
  ·exact e.xv a c
  ·exact l a oA
theorem FR.pushP (f:FR xx B w vv pv V P) {q:ProcD × Value} {c l:Nat} (p:w'.ownsRow B 91 6 (.slice (some ⟨c,0,none⟩) (P.length+1) l) (P.length+1) (xO P++[.string q.1.name,.bool q.1.pub,q.2,.int .i64 q.1.writes,.bool q.1.gives,.int .i64 q.1.given])) (j:w.grownBy w' pv.ownBlock) (i:pv.ownBlock=some c\/c=w.heap.size) (n:∀b,w.heap.size<=b->¬xx b) (s:yM (fun b=>B<=b/\b<w.heap.size/\vv.ownBlock≠some b/\pv.ownBlock≠some b/\¬xx b) w q.2 q.1.params):FR xx B w' vv (.slice (some ⟨c,0,none⟩) (P.length+1) l) V (P++[q]):=by
 have t:vv.ownBlock=none\/vv.ownBlock≠pv.ownBlock:=by
  cases d:vv.ownBlock with
  | none=>exact .inl rfl
  | some b=>exact .inr (fun h=>f.dj b d h.symm)
 refine⟨f.ov.kept j t,by rw[zsl,jb];exact p,fun k m=>?_,fun b d h=>?_,f.xv,fun b d=>?_⟩
 ·have r:yM (fun b=>B<=b/\b<w.heap.size/\vv.ownBlock≠some b/\pv.ownBlock≠some b/\¬xx b) w k.2 k.1.params:=by
   rw[List.mem_append]at m;rcases m with a | a
   ·exact f.par k a
   ·simp only[jy]at a;subst a;exact s
  refine r.to (fun b e=>⟨e.1,jo e.2.1 j.size,e.2.2.1,fun d=>?_,e.2.2.2.2⟩) (fun b e u v o=>cell_grown j o e.2.2.2.1);have g:some c=some b:=d;cases g;rcases i with a | a
  ·exact e.2.2.2.1 a
  ·have:=e.2.1;omega
 ·have g:some c=some b:=h;cases g;rcases i with a | a
  ·exact f.dj c d a
  ·have:=(f.ov.lt _ d).2;omega
 ·have g:some c=some b:=d;cases g;rcases i with a | a
  ·exact f.xp c a
  ·exact n c oA
theorem FR.face {m:ByteArray} (a:FR xx B w vv pv V P) (d:V.length<=1000) (c:P.length<=1000):zP w (.agg #[.string m,vv,pv]) ⟨m,V,P.map (·.1)⟩ :=
 ⟨vv,pv,rfl,zqd a.ov (by show V.length<=_;omega),zna a.op oA (fun q b=>(a.par q b).ints)⟩
theorem FR.shapeV (d:FR xx B w vv pv V P):∃a b,vv=.slice a V.length b:=by
 obtain⟨a,b,c,_⟩:=lexs.own_shape d.ov;exact⟨a,b,c⟩
theorem FR.shapeP (d:FR xx B w vv pv V P):∃a b,pv=.slice a P.length b:=by
 obtain⟨a,b,c,_⟩:=lexs.own_shape d.op;exact⟨a,b,c⟩
end
structure Box3 (w:World) (N:Nat) (x0 x1 x2:Value):Prop where
 c0:w.cell? ⟨N,0,none⟩=some x0
 c1:w.cell? ⟨N,1,none⟩=some x1
 c2:w.cell? ⟨N,2,none⟩=some x2
 f0:w.frozen? ⟨N,0,none⟩=false
 f1:w.frozen? ⟨N,1,none⟩=false
 f2:w.frozen? ⟨N,2,none⟩=false
section
variable {w w':World} {N:Nat} {x0 x1 x2:Value}
theorem Box3.new (w:World) (x0 x1 x2:Value) (T:TypeId):Box3 (w.alloc (.cells #[x0,x1,x2] T)) w.heap.size x0 x1 x2:=oV
theorem Box3.lt (a:Box3 w N x0 x1 x2):N<w.heap.size:=jS w ⟨N,0,none⟩ a.c0
theorem Box3.block (b:Box3 w N x0 x1 x2) (c:w'.heap[N]?=w.heap[N]?):Box3 w' N x0 x1 x2 :=
 ⟨(jN (a:=⟨N,0,none⟩) c).trans b.c0,(jN (a:=⟨N,1,none⟩) c).trans b.c1,(jN (a:=⟨N,2,none⟩) c).trans b.c2,(jO (a:=⟨N,0,none⟩) c).trans b.f0,(jO (a:=⟨N,1,none⟩) c).trans b.f1,(jO (a:=⟨N,2,none⟩) c).trans b.f2⟩
theorem Box3.below (a:Box3 w N x0 x1 x2) (b:Below w.heap.size w w'):Box3 w' N x0 x1 x2:=a.block (b.block N a.lt)
theorem Box3.alloc (b:Box3 w N x0 x1 x2) (a:Obj):Box3 (w.alloc a) N x0 x1 x2:=b.below (bal a)
end
end Go.Proofs.YtbjppepjmcfkaaaGreatDoor.face
namespace Go.Proofs.YtbjppepjmcfkaaaGreatDoor.face
open Go.RowKit
open syn (kO eqS)
def zH (w:World) (v:Value) (l:List ByteArray):Prop:=∃a c,v=.slice a l.length c/\l.length<=9223372036854775807 /\
 (l≠[]->∃g o,a=some ⟨g,o,none⟩/\∀i (b:i<l.length),w.cell? ⟨g,o+i,none⟩=some (.string l[i]))
end Go.Proofs.YtbjppepjmcfkaaaGreatDoor.face
namespace Go.Proofs.YtbjppepjmcfkaaaGreatDoor.face
open Go.RowKit
open syn
theorem zZ (w:World) (cs:Array Value) (T:TypeId) (b:Nat) (c:b=w.heap.size):∀a u,cs.toList[a]?=some u->(w.alloc (.cells cs T)).cell? ((⟨b,0,none⟩:Addr).add a)=some u:=by
 subst c;exact World.news_of_block (MapKept.heap_alloc w _).1
theorem zb3 (all:Bool):∀a:List Kid,(kW all a).length<=a.length
 | []=>jE _
 | .imp x :: r=>by have:=zb3 all r;show(kW all r).length<=r.length+1;omega
 | .var x p l n :: r=>by
  have:=zb3 all r;show(if all||p then yW x p l n :: kW all r else kW all r).length<=r.length+1
  split<;>(try simp only[jd])<;>omega
 | .proc _ _ _ _ _ _ :: r=>by have:=zb3 all r;show(kW all r).length<=r.length+1;omega
theorem zbs (all:Bool):∀a:List Kid,(kZ all a).length<=a.length
 | []=>jE _
 | .imp x :: r=>by have:=zbs all r;show(kZ all r).length<=r.length+1;omega
 | .var x p l n :: r=>by have:=zbs all r;show(kZ all r).length<=r.length+1;omega
 | .proc x p l g ps b :: r=>by
  have:=zbs all r;show(if all||p then qB x p l g ps :: kZ all r else kZ all r).length<=r.length+1;split<;>(try simp only[jd])<;>omega
theorem strs_own {w:World} {B:Nat} {v:Value} {a:List ByteArray} (b:w.ownsRow B 9 1 v a.length (vY a)):zH w v a:=by
 rcases b.2 with⟨rfl,f⟩|⟨c,d,h,rfl,_,_,i,e,_⟩
 ·have:a=[]:=List.length_eq_zero_iff.1 f;subst this;exact⟨none,0,rfl,oC,fun b=>absurd rfl b⟩
 ·refine⟨some ⟨c,0,none⟩,d,rfl,by unfold maxLen at e;omega,fun _=>⟨c,0,rfl,fun g hi=>?_⟩⟩;have:=b.cellAt g oA;rw[Nat.zero_add,this];unfold vY;rw[List.getElem?_map,List.getElem?_eq_getElem hi];rfl
theorem zl6 {w w':World} {B:Nat} {b:TypeId} {c d:Nat} {v:Value} {e:List Value} (f:w.ownsRow B b c v d e) (a:Below w.heap.size w w'):w'.ownsRow B b c v d e :=
 f.kept (row:=none) ⟨a.os,a.tape,a.output,a.size,fun h g _=>a.block h g⟩ (by cases v.ownBlock<;>simp)
end Go.Proofs.YtbjppepjmcfkaaaGreatDoor.face
namespace Go.Proofs.YtbjppepjmcfkaaaGreatDoor.chk
open Go.RowKit
open syn face
abbrev FV:=FaceD × Value × Value
def fvV (q:FV):Value:=.agg #[.string q.1.module,q.2.1,q.2.2]
end Go.Proofs.YtbjppepjmcfkaaaGreatDoor.chk
namespace Go.Proofs.YtbjppepjmcfkaaaGreatDoor.chk
open Go.RowKit Go.Maps
open syn face
def fvO (o:Option FV):Option Value:=o.map fvV
theorem oImported (D u l G p:Nat) (m t:ByteArray->Option Value) (j:ByteArray) (a:Int) (w:World) (K:w.cell? ⟨D,4,none⟩=some (.map (some u))) (L:w.cell? ⟨D,5,none⟩=some (.map (some l))) (x:kI w u G m) (y:kI w l p t) (aa:j.size<=1000) (a5:p<=1000) (a7:D≠l) (Q:∀v,m j=some v->∃g b h d c i e,v=.agg #[.string g,.slice b h d,.slice c i e]) : Calls Tryz.prog 83 #[.pointer (some ⟨D,0,none⟩),.string j,.int .i64 a] w fun q w' =>
   (m j=none/\q=.panicked (qG 4 a)/\Below w.heap.size w w')\/(∃v,m j=some v/\q=.returned (.tuple #[])/\kI w' l (p+1) (fun C=>if eqS C j then some v else t C)/\w.grownBy w' (some l)):=by
 have a2:Tryz.prog.cellsOf 55=3:=xW;have s:j.size<=maxLen:=by unfold maxLen;omega
 have a3:D<w.heap.size:=jS w ⟨D,4,none⟩ K
 cases o:m j with
 | none =>
  have T:Hid (m j=none):=o;go_enter Tryz.func83,Tryz.ntmps83
  go_wp2_with first
   | (at_lookup;refine zbq (f:=m) rfl _ _ rfl rfl x j s rfl ?_;rw[o];unfold vQ)
   | (go_at_call 128;refine(vO _ _ _).mono ?_;rintro q ab ⟨rfl,R⟩;obtain rfl:=R.symm)
   | go_in
  exact⟨rfl,.inl ⟨trivial,rfl,bal _⟩⟩
 | some v =>
  obtain⟨g,b,h,d,c,i,e,rfl⟩:=Q v o;have z:=y.below ((Below.refl w.heap.size w).alloc (jE _) (.cells #[.string g,.slice b h d,.slice c i e] 55));go_enter Tryz.func83,Tryz.ntmps83
  go_wp2_with first
   | (at_lookup;refine zbq (f:=m) rfl _ _ rfl rfl x j s rfl ?_;rw[o])
   | go_in
  have k:(w.alloc (.cells #[.string g,.slice b h d,.slice c i e] 55)).drew.cell? ⟨D,5,none⟩=some (.map (some l))/\(w.alloc (.cells #[.string g,.slice b h d,.slice c i e] 55)).drew.cell? ⟨w.heap.size,0,none⟩=some (.string g)/\(w.alloc (.cells #[.string g,.slice b h d,.slice c i e] 55)).drew.cell? ⟨w.heap.size,1,none⟩=some (.slice b h d)/\(w.alloc (.cells #[.string g,.slice b h d,.slice c i e] 55)).drew.cell? ⟨w.heap.size,2,none⟩=some (.slice c i e):=⟨zI L _,oC,oC,oC⟩
  have N:kI (w.alloc (.cells #[.string g,.slice b h d,.slice c i e] 55)).drew l p t:=z.below (Below.refl _ _).drew;have M:Below w.heap.size w (w.alloc (.cells #[.string g,.slice b h d,.slice c i e] 55)).drew:=(bal _).drew;have a6:=y.lt;refine wp_region_held_drew (S:=fun W=>W.cell? ⟨D,5,none⟩=some (.map (some l))/\W.cell? ⟨w.heap.size,0,none⟩=some (.string g)/\W.cell? ⟨w.heap.size,1,none⟩=some (.slice b h d)/\W.cell? ⟨w.heap.size,2,none⟩=some (.slice c i e)) oB k (fun r=>?_);clear r z;generalize (w.alloc (.cells #[.string g,.slice b h d,.slice c i e] 55)).drew=W at *;obtain⟨V,a9,P,n⟩:=N.store (by unfold maxLen;omega) j s (.agg #[.string g,.slice b h d,.slice c i e]);refine tkP 0 (.pointer (some ⟨D,0,none⟩)) k ?_;simp only[Act.put,jA,jB,jC];refine tkP 1 (.pointer (some ⟨D,0,none⟩)) k ?_;simp only[Act.put,jA,jB,jC];refine tkP 2 (.pointer (some ⟨D,5,none⟩)) k ?_;simp only[Act.put,jA,jB,jC];refine tkP 3 (.map (some l)) k ?_;simp only[Act.put,jA,jB,jC];refine tkP 4 (.string j) k ?_;simp only[Act.put,jA,jB,jC];refine tkP 5 (.agg #[.string g,.slice b h d,.slice c i e] ) k ?_;simp only[Act.put,jA,jB,jC];refine wpAnyH_ready (rs:=[6]) oB oC ?_;refine AllReadyH.cons rfl (fun E B=>?_) AllReadyH.nil;go_simp;have a8:l≠w.heap.size:=oA;refine B.out _ _ ⟨cell_grown n k.1 oE,cell_grown n k.2.1 oE,cell_grown n k.2.2.1 oE,cell_grown n k.2.2.2 oE⟩ (fun r=>?_);clear B E r;refine wpAnyH_done oB ?_ _;go_wp2
  go_end0
  exact .inr ⟨_,rfl,rfl,P,((grown_of_below M).but _).trans n⟩
end Go.Proofs.YtbjppepjmcfkaaaGreatDoor.chk
namespace Go.Proofs.YtbjppepjmcfkaaaGreatDoor.chk
open Go.RowKit
open syn face
theorem zf5 {α:Type} {p:α->Bool} {l:List α} {b:Nat} (e:b<l.length) (d:∀c (hi:c<l.length),c<b->p l[c]=false) (f:p l[b]=true):l.find? p=some l[b]:=by
 induction l generalizing b with
 | nil=>simp at e
 | cons a h ih =>
  cases b with
  | zero=>exact List.find?_cons_of_pos f
  | succ b =>
   rw[List.find?_cons_of_neg (by rw[show p a=false from d 0 oC oA];decide)];exact ih (by simpa using e) (fun c hi g=>d (c+1) (by simpa using hi) oA) f
theorem zka {α:Type} {p:α->Bool} {l:List α} (c:∀b (hi:b<l.length),p l[b]=false):l.find? p=none:=by
 rw[List.find?_eq_none];intro a d;obtain⟨b,hi,rfl⟩:=List.mem_iff_getElem.1 d;simp[c b hi]
theorem zlo {w:World} {q:FV} (f:zP w (fvV q) q.1):∃a d c e,q=(q.1,.slice a q.1.vars.length d,.slice c q.1.procs.length e):=by
 obtain⟨vv,pv,b,⟨a,d,rfl,_,_⟩,⟨c,e,rfl,_,_⟩⟩:=f;obtain⟨g,h,i⟩:=q;unfold fvV at b;injection b with b;simp only[Array.mk.injEq,jq,and_true,true_and]at b;obtain⟨rfl,rfl⟩:=b;exact⟨a,d,c,e,rfl⟩
theorem zw8 {α:Type} {p:α->Bool} {l:List α} {j:Nat} (f:j<l.length) (c:∀a (hi:a<l.length),j<a->p l[a]=false) (e:p l[j]=true):l.reverse.find? p=some l[j]:=by
 have d:l.length - 1 - j<l.reverse.length:=by rw[List.length_reverse];omega
 have b:l.reverse[l.length - 1 - j]=l[j]:=by
  rw[List.getElem_reverse]
  congr 1
  omega
 have:=zf5 (l:=l.reverse) (p:=p) d (fun a hi g=>by
  rw[List.getElem_reverse];rw[List.length_reverse]at hi
  exact c _ _ oA) (by rw[b];exact e)
 rw[this,b]
theorem zsn {α:Type} {p:α->Bool} {l:List α} (c:∀b (hi:b<l.length),p l[b]=false):l.reverse.find? p=none:=by
 rw[List.find?_eq_none];intro a d;obtain⟨b,hi,rfl⟩:=List.mem_iff_getElem.1 (List.mem_reverse.1 d);simp[c b hi]
end Go.Proofs.YtbjppepjmcfkaaaGreatDoor.chk
namespace Go.Proofs.YtbjppepjmcfkaaaGreatDoor.face
open Go.RowKit
open syn
section
variable {w w':World} {N M:Nat} {x0 x1 x2 x3:Value}
theorem F4.other (b:F4 w N x0 x1 x2 x3) {o:Nat} (c:M≠N) (v:Value):F4 (w.setCell ⟨M,o,none⟩ v) N x0 x1 x2 x3:=b.block (jQ _ _ _ _ (fun a=>c (by rw[a])))
theorem F4.other4 (f:F4 w N x0 x1 x2 x3) (c:M≠N) (a b e d:Value):F4 ((((w.setCell ⟨M,0,none⟩ a).setCell ⟨M,1,none⟩ b).setCell ⟨M,2,none⟩ e).setCell ⟨M,3,none⟩ d) N x0 x1 x2 x3:=(((f.other c a).other c b).other c e).other c d
theorem F4.set0 (a:F4 w N x0 x1 x2 x3) (v:Value):F4 (w.setCell ⟨N,0,none⟩ v) N v x1 x2 x3 :=
 ⟨jT _ _ _ a.c0,by rw[jD _ _ _ _ oC];exact a.c1,by rw[jD _ _ _ _ oC];exact a.c2,by rw[jD _ _ _ _ oC];exact a.c3,by simp[a.f0],by simp[a.f1],by simp[a.f2],by simp[a.f3]⟩
theorem F4.set1 (a:F4 w N x0 x1 x2 x3) (v:Value):F4 (w.setCell ⟨N,1,none⟩ v) N x0 v x2 x3 :=
 ⟨by rw[jD _ _ _ _ oC];exact a.c0,jT _ _ _ a.c1,by rw[jD _ _ _ _ oC];exact a.c2,by rw[jD _ _ _ _ oC];exact a.c3,by simp[a.f0],by simp[a.f1],by simp[a.f2],by simp[a.f3]⟩
theorem F4.set2 (a:F4 w N x0 x1 x2 x3) (v:Value):F4 (w.setCell ⟨N,2,none⟩ v) N x0 x1 v x3 :=
 ⟨by rw[jD _ _ _ _ oC];exact a.c0,by rw[jD _ _ _ _ oC];exact a.c1,jT _ _ _ a.c2,by rw[jD _ _ _ _ oC];exact a.c3,by simp[a.f0],by simp[a.f1],by simp[a.f2],by simp[a.f3]⟩
theorem F4.set3 (a:F4 w N x0 x1 x2 x3) (v:Value):F4 (w.setCell ⟨N,3,none⟩ v) N x0 x1 x2 v :=
 ⟨by rw[jD _ _ _ _ oC];exact a.c0,by rw[jD _ _ _ _ oC];exact a.c1,by rw[jD _ _ _ _ oC];exact a.c2,jT _ _ _ a.c3,by simp[a.f0],by simp[a.f1],by simp[a.f2],by simp[a.f3]⟩
theorem F4.set4 (e:F4 w N x0 x1 x2 x3) (a b c d:Value):F4 ((((w.setCell ⟨N,0,none⟩ a).setCell ⟨N,1,none⟩ b).setCell ⟨N,2,none⟩ c).setCell ⟨N,3,none⟩ d) N a b c d:=(((e.set0 a).set1 b).set2 c).set3 d
theorem F4.alloc (b:F4 w N x0 x1 x2 x3) (a:Obj):F4 (w.alloc a) N x0 x1 x2 x3:=b.below (bal a)
theorem zfm {B:Nat} {a:World} (c:Below B a w) (b:B<=M) (x0 x1 x2 x3:Value):Below B a ((((w.setCell ⟨M,0,none⟩ x0).setCell ⟨M,1,none⟩ x1).setCell ⟨M,2,none⟩ x2).setCell ⟨M,3,none⟩ x3):=(((c.setCell b _).setCell b _).setCell b _).setCell b _
end
theorem zh7 (f:ByteArray) (p l:Bool) (q:Option Int) (v:Value) (w:World) (a2:Lies (·<w.heap.size) w (Kid.var f p l q).tree v) : Calls Tryz.prog 108 #[v] w fun o w'=>o=.returned (qE (yW f p l q))/\Below w.heap.size w w':=by
 have aJ:=kc25;have aK:Tryz.prog.cellsOf 87=4:=cell4;have HP:(bits BinOp.and IntKind.i64 (2*bI p+bI l) 2 != 0)=p:=by have:=zla p l none;rw[show gI none=0 from rfl,Int.add_zero]at this;exact this
 have D:bits BinOp.and IntKind.i64 (2*bI p+bI l) 1=bI l:=by have:=zk9 p l none;rw[show gI none=0 from rfl,Int.add_zero]at this;exact this
 rw[Kid.tree_is]at a2;unfold Lies at a2;obtain⟨a,k,rfl,av,af⟩:=a2;simp only[Kid.kind,Kid.text,Kid.num]at *;generalize 2*bI p+bI l=n at HP D;generalize x:(Kid.var f p l q).kids.length=h
 have au:0<h->∃(r t:Nat) (s:Int) (a8:Option Addr) (a9:Nat),a=some ⟨r,t,none⟩/\h=1/\q=some s/\r<w.heap.size/\w.cell? ⟨r,t,none⟩=some (.int .i64 15)/\w.cell? ⟨r,t+1,none⟩=some (.string empty)/\w.cell? ⟨r,t+2,none⟩=some (.int .i64 s)/\w.cell? ⟨r,t+3,none⟩=some (.slice a8 0 a9):=by
  intro ar
  cases q with
  | none=>simp[Kid.kids]at x;omega
  | some s =>
   obtain⟨r,t,rfl,ad,ac⟩:=af (by simp[Kid.kids]);unfold Kid.kids at ac
   obtain⟨⟨b1,⟨x0,x1,x2,x3,rfl,K,L,P,Q⟩,ag⟩,_⟩:=ac
   unfold Lies at ag;obtain⟨a7,R,aa,_,_⟩:=ag;cases aa;simp[Kid.kids]at x;exact⟨r,t,s,a7,R,rfl,x.symm,rfl,ad,K,L,P,Q⟩
 have aw:h=0->q.getD 0=0:=by
  intro ar
  cases q with
  | none=>rfl
  | some s=>simp[Kid.kids]at x;omega
 have aT:h<=1:=by
  cases q with
  | none=>simp[Kid.kids]at x;omega
  | some s=>simp[Kid.kids]at x;omega
 clear af av x;have ab:∀W,Calls Tryz.prog 138 #[.agg #[.int .i64 3,.string f,.int .i64 n,.slice a h k]] W fun o w'=>o=.returned (.bool p)/\Below W.heap.size W w':=fun W=>by have:=zqt 3 f n a h k W;rw[HP]at this;exact this
 have T:∀W,Calls Tryz.prog 139 #[.agg #[.int .i64 3,.string f,.int .i64 n,.slice a h k]] W fun o w'=>o=.returned (.int .i64 (bI l))/\Below W.heap.size W w':=fun W=>by have:=bH 3 f n a h k W;rw[D]at this;exact this
 clear HP D;have b:Q4 w.heap.size (.int .i64 3) (.string f) (.int .i64 n) (.slice a h k) ((w.alloc (.cells #[.int .i64 3,.string f,.int .i64 n,.slice a h k] 25)).alloc (.cells #[.string ⟨#[]⟩,.bool false,.int .i64 0,.int .i64 0] 87)).drew:=⟨oC,oC,oC,oC⟩
 have c:Below w.heap.size w ((w.alloc (.cells #[.int .i64 3,.string f,.int .i64 n,.slice a h k] 25)).alloc (.cells #[.string ⟨#[]⟩,.bool false,.int .i64 0,.int .i64 0] 87)).drew:=(Joins.below_alloc2 w (.cells #[.int .i64 3,.string f,.int .i64 n,.slice a h k] 25) (.cells #[.string ⟨#[]⟩,.bool false,.int .i64 0,.int .i64 0] 87)).drew;have g:F4 ((w.alloc (.cells #[.int .i64 3,.string f,.int .i64 n,.slice a h k] 25)).alloc (.cells #[.string ⟨#[]⟩,.bool false,.int .i64 0,.int .i64 0] 87)).drew (w.heap.size+1) (.string ⟨#[]⟩) (.bool false) (.int .i64 0) (.int .i64 0):=oV;go_enter Tryz.func108,Tryz.ntmps108;go_wp2;refine wp_region_held_drew (S:=fun W=>Q4 w.heap.size (.int .i64 3) (.string f) (.int .i64 n) (.slice a h k) W) oB b (fun i=>?_);clear i;generalize ((w.alloc (.cells #[.int .i64 3,.string f,.int .i64 n,.slice a h k] 25)).alloc (.cells #[.string ⟨#[]⟩,.bool false,.int .i64 0,.int .i64 0] 87)).drew=W at *;refine tkP 0 (.pointer (some ⟨w.heap.size,1,none⟩)) b ?_;simp only[Act.put,jA,jB,jC];refine tkP 1 (.string f) b ?_;simp only[Act.put,jA,jB,jC];refine tkP 2 (.agg #[.int .i64 3,.string f,.int .i64 n,.slice a h k] ) b ?_;simp only[Act.put,jA,jB,jC];refine tkP 4 (.agg #[.int .i64 3,.string f,.int .i64 n,.slice a h k] ) b ?_;simp only[Act.put,jA,jB,jC];refine wpAnyH_ready (rs:=[3,7]) oB oC ?_;refine AllReadyH.cons rfl (fun j e=>?_) (AllReadyH.cons rfl (fun j e=>?_) AllReadyH.nil)
 focus
  go_simp;go_at_call 138;refine(ab _).mono ?_;rintro o B ⟨rfl,d⟩;go_wp2;replace b:=Q4.below b d;replace c:=c.trans (d.mono c.size);replace g:=g.below d;skip;refine e.out _ _ b (fun i=>?_);clear e j i d;refine wpAnyH_ready (rs:=[5,7]) oB oC ?_;refine AllReadyH.cons rfl (fun j e=>?_) (AllReadyH.cons rfl (fun j e=>?_) AllReadyH.nil)
  focus
   go_simp;go_at_call 139;refine(T _).mono ?_;rintro o z ⟨rfl,d⟩;go_wp2;replace b:=Q4.below b d;replace c:=c.trans (d.mono c.size);replace g:=g.below d;skip;refine e.out _ _ b (fun i=>?_);clear e j i d;refine tkP 6 (.agg #[.string f,.bool p,.int .i64 (bI l),.int .i64 0] ) b ?_;simp only[Act.put,jA,jB,jC];refine oneH 7 fun j e=>?_
   go_simp;have m:=F4.new z (.string ⟨#[]⟩) (.bool false) (.int .i64 0) (.int .i64 0) 87;have ae:w.heap.size+1<z.heap.size:=g.lt;replace b:=Q4.alloc b (.cells #[.string ⟨#[]⟩,.bool false,.int .i64 0,.int .i64 0] 87);replace c:=c.alloc c.size (.cells #[.string ⟨#[]⟩,.bool false,.int .i64 0,.int .i64 0] 87);replace g:=g.alloc (.cells #[.string ⟨#[]⟩,.bool false,.int .i64 0,.int .i64 0] 87);refine e.out _ _ b (fun i=>?_);clear e j i;generalize z.alloc (.cells #[.string ⟨#[]⟩,.bool false,.int .i64 0,.int .i64 0] 87)=a6 at *;generalize z.heap.size=N at *
  rotate_left
  focus
   go_simp;have m:=F4.new B (.string ⟨#[]⟩) (.bool false) (.int .i64 0) (.int .i64 0) 87;have ae:w.heap.size+1<B.heap.size:=g.lt;replace b:=Q4.alloc b (.cells #[.string ⟨#[]⟩,.bool false,.int .i64 0,.int .i64 0] 87);replace c:=c.alloc c.size (.cells #[.string ⟨#[]⟩,.bool false,.int .i64 0,.int .i64 0] 87);replace g:=g.alloc (.cells #[.string ⟨#[]⟩,.bool false,.int .i64 0,.int .i64 0] 87);refine e.out _ _ b (fun i=>?_);clear e j i;generalize B.alloc (.cells #[.string ⟨#[]⟩,.bool false,.int .i64 0,.int .i64 0] 87)=a6 at *;generalize B.heap.size=N at *;refine oneH 5 fun j e=>?_
   go_simp;go_at_call 139;refine(T _).mono ?_;rintro o z ⟨rfl,d⟩;go_wp2;replace b:=Q4.below b d;replace c:=c.trans (d.mono c.size);replace g:=g.below d;replace m:=m.below d;refine e.out _ _ b (fun i=>?_);clear e j i d;refine tkP 6 (.agg #[.string f,.bool p,.int .i64 (bI l),.int .i64 0] ) b ?_;simp only[Act.put,jA,jB,jC]
 rotate_left 2
 focus
  go_simp;have m:=F4.new W (.string ⟨#[]⟩) (.bool false) (.int .i64 0) (.int .i64 0) 87;have ae:w.heap.size+1<W.heap.size:=g.lt;replace b:=Q4.alloc b (.cells #[.string ⟨#[]⟩,.bool false,.int .i64 0,.int .i64 0] 87);replace c:=c.alloc c.size (.cells #[.string ⟨#[]⟩,.bool false,.int .i64 0,.int .i64 0] 87);replace g:=g.alloc (.cells #[.string ⟨#[]⟩,.bool false,.int .i64 0,.int .i64 0] 87);refine e.out _ _ b (fun i=>?_);clear e j i;generalize W.alloc (.cells #[.string ⟨#[]⟩,.bool false,.int .i64 0,.int .i64 0] 87)=a6 at *;generalize W.heap.size=N at *;refine oneH 3 fun j e=>?_
  go_simp;go_at_call 138;refine(ab _).mono ?_;rintro o B ⟨rfl,d⟩;go_wp2;replace b:=Q4.below b d;replace c:=c.trans (d.mono c.size);replace g:=g.below d;replace m:=m.below d;refine e.out _ _ b (fun i=>?_);clear e j i d;refine oneH 5 fun j e=>?_
  go_simp;go_at_call 139;refine(T _).mono ?_;rintro o z ⟨rfl,d⟩;go_wp2;replace b:=Q4.below b d;replace c:=c.trans (d.mono c.size);replace g:=g.below d;replace m:=m.below d;refine e.out _ _ b (fun i=>?_);clear e j i d;refine tkP 6 (.agg #[.string f,.bool p,.int .i64 (bI l),.int .i64 0] ) b ?_;simp only[Act.put,jA,jB,jC]
 all_goals
  refine oneH 8 fun j e=>?_
  obtain⟨ax,ay,az,aA,am,an,ao,ap⟩:=id m;go_simp;replace m:=m.set4 (.string f) (.bool p) (.int .i64 (bI l)) (.int .i64 0);replace b:=Q4.set4 (M:=N) oA b (.string f) (.bool p) (.int .i64 (bI l)) (.int .i64 0);replace c:=zfm (M:=N) c oA (.string f) (.bool p) (.int .i64 (bI l)) (.int .i64 0);replace g:=g.other4 (M:=N) oA (.string f) (.bool p) (.int .i64 (bI l)) (.int .i64 0);refine e.out _ _ b (fun i=>?_);clear e j i ax ay az aA am an ao ap;generalize (World.setCell _ ⟨N,3,none⟩ _)=aF at *;refine wpAnyH_done oB ?_ _;obtain⟨aB,aC,aD,aE⟩:=id b;go_wp2;go_loopw [16] (fun a3 wr=>∃(y:Nat) (C:Int),y<=h/\Hid (y=h->C=q.getD 0)/\a3=.int .i64 y/\Below w.heap.size w wr/\F4 wr N (.string f) (.bool p) (.int .i64 (bI l)) (.int .i64 C)/\F4 wr (w.heap.size+1) (.string ⟨#[]⟩) (.bool false) (.int .i64 0) (.int .i64 0)) (fun a3 _=>h - (intOf a3).toNat)
  case atStart=>exact⟨0,0,jz _,fun o=>(aw o.symm).symm,rfl,c,m,g⟩
  case round =>
   clear c m g aB aC aD aE b;obtain⟨y,C,aS,a5,rfl,u,G,E⟩:=hrel;have aW:=G.lt;have aV:=E.lt;obtain⟨aG,a7,aH,aI,aO,aP,aQ,aR⟩:=id G;obtain⟨ai,R,aj,ak,aL,aa,aM,aN⟩:=id E;by_cases aU:y<h
   ·obtain⟨r,t,s,a8,a9,rfl,rfl,rfl,ad,K,L,P,Q⟩:=au oA;have V:y=0:=oA;subst V;have aX:=keep K u;have aY:=keep L u;have aZ:=keep P u;have b0:=keep Q u;go_wp2;go_roundw
    case rel=>exact⟨1,s,oA,fun _=>rfl,oM,(u.setCell (by show w.heap.size<=N;omega) _).alloc (by rw[jR];exact u.size) _,(G.set3 _).alloc _,(E.other oA _).alloc _⟩
    case measure=>simp[intOf]
   ·have V:y=h:=oA;subst V;have ah:Hid (C=q.getD 0):=a5.out rfl;clear a5;go_wp2;refine jU (v:=.agg #[.string f,.bool p,.int .i64 (bI l),.int .i64 C]) (by simp[results,Tryz.results108,go_sem,ai,R,aj,ak]) rfl ⟨by rw[ah.out];rfl,zfm u oA _ _ _ _⟩
section
variable {w w':World} {N M:Nat} {x0 x1 x2 x3 x4 x5:Value}
theorem Box6.other6 (h:Box6 w N x0 x1 x2 x3 x4 x5) (c:M≠N) (a b e d f g:Value):Box6 ((((((w.setCell ⟨M,0,none⟩ a).setCell ⟨M,1,none⟩ b).setCell ⟨M,2,none⟩ e).setCell ⟨M,3,none⟩ d).setCell ⟨M,4,none⟩ f).setCell ⟨M,5,none⟩ g) N x0 x1 x2 x3 x4 x5:=(((((h.other c a).other c b).other c e).other c d).other c f).other c g
theorem Q4.other {d e f g:Value} (c:M≠N) (b:Q4 N d e f g w) (o:Nat) (v:Value):Q4 N d e f g (w.setCell ⟨M,o,none⟩ v) :=
 ⟨by rw[jD _ _ _ _ (by intro a;cases a;exact c rfl)];exact b.1,by rw[jD _ _ _ _ (by intro a;cases a;exact c rfl)];exact b.2.1,by rw[jD _ _ _ _ (by intro a;cases a;exact c rfl)];exact b.2.2.1,by rw[jD _ _ _ _ (by intro a;cases a;exact c rfl)];exact b.2.2.2⟩
theorem Q4.other6 {h i j k:Value} (c:M≠N) (l:Q4 N h i j k w) (a b e d f g:Value):Q4 N h i j k ((((((w.setCell ⟨M,0,none⟩ a).setCell ⟨M,1,none⟩ b).setCell ⟨M,2,none⟩ e).setCell ⟨M,3,none⟩ d).setCell ⟨M,4,none⟩ f).setCell ⟨M,5,none⟩ g) :=
 Q4.other c (Q4.other c (Q4.other c (Q4.other c (Q4.other c (Q4.other c l 0 a) 1 b) 2 e) 3 d) 4 f) 5 g
theorem zc3 {B:Nat} {a:World} (c:Below B a w) (b:B<=M) (x0 x1 x2 x3 x4 x5:Value):Below B a ((((((w.setCell ⟨M,0,none⟩ x0).setCell ⟨M,1,none⟩ x1).setCell ⟨M,2,none⟩ x2).setCell ⟨M,3,none⟩ x3).setCell ⟨M,4,none⟩ x4).setCell ⟨M,5,none⟩ x5):=(((((c.setCell b _).setCell b _).setCell b _).setCell b _).setCell b _).setCell b _
theorem Box6.set0 (a:Box6 w N x0 x1 x2 x3 x4 x5) (v:Value):Box6 (w.setCell ⟨N,0,none⟩ v) N v x1 x2 x3 x4 x5 :=
 ⟨jT _ _ _ a.c0,by rw[jD _ _ _ _ oC];exact a.c1,by rw[jD _ _ _ _ oC];exact a.c2,by rw[jD _ _ _ _ oC];exact a.c3,by rw[jD _ _ _ _ oC];exact a.c4,by rw[jD _ _ _ _ oC];exact a.c5,by simp[a.f0],by simp[a.f1],by simp[a.f2],by simp[a.f3],by simp[a.f4],by simp[a.f5]⟩
theorem Box6.set1 (a:Box6 w N x0 x1 x2 x3 x4 x5) (v:Value):Box6 (w.setCell ⟨N,1,none⟩ v) N x0 v x2 x3 x4 x5 :=
 ⟨by rw[jD _ _ _ _ oC];exact a.c0,jT _ _ _ a.c1,by rw[jD _ _ _ _ oC];exact a.c2,by rw[jD _ _ _ _ oC];exact a.c3,by rw[jD _ _ _ _ oC];exact a.c4,by rw[jD _ _ _ _ oC];exact a.c5,by simp[a.f0],by simp[a.f1],by simp[a.f2],by simp[a.f3],by simp[a.f4],by simp[a.f5]⟩
theorem Box6.set3 (a:Box6 w N x0 x1 x2 x3 x4 x5) (v:Value):Box6 (w.setCell ⟨N,3,none⟩ v) N x0 x1 x2 v x4 x5 :=
 ⟨by rw[jD _ _ _ _ oC];exact a.c0,by rw[jD _ _ _ _ oC];exact a.c1,by rw[jD _ _ _ _ oC];exact a.c2,jT _ _ _ a.c3,by rw[jD _ _ _ _ oC];exact a.c4,by rw[jD _ _ _ _ oC];exact a.c5,by simp[a.f0],by simp[a.f1],by simp[a.f2],by simp[a.f3],by simp[a.f4],by simp[a.f5]⟩
theorem Box6.set4 (a:Box6 w N x0 x1 x2 x3 x4 x5) (v:Value):Box6 (w.setCell ⟨N,4,none⟩ v) N x0 x1 x2 x3 v x5 :=
 ⟨by rw[jD _ _ _ _ oC];exact a.c0,by rw[jD _ _ _ _ oC];exact a.c1,by rw[jD _ _ _ _ oC];exact a.c2,by rw[jD _ _ _ _ oC];exact a.c3,jT _ _ _ a.c4,by rw[jD _ _ _ _ oC];exact a.c5,by simp[a.f0],by simp[a.f1],by simp[a.f2],by simp[a.f3],by simp[a.f4],by simp[a.f5]⟩
theorem Box6.set5 (a:Box6 w N x0 x1 x2 x3 x4 x5) (v:Value):Box6 (w.setCell ⟨N,5,none⟩ v) N x0 x1 x2 x3 x4 v :=
 ⟨by rw[jD _ _ _ _ oC];exact a.c0,by rw[jD _ _ _ _ oC];exact a.c1,by rw[jD _ _ _ _ oC];exact a.c2,by rw[jD _ _ _ _ oC];exact a.c3,by rw[jD _ _ _ _ oC];exact a.c4,jT _ _ _ a.c5,by simp[a.f0],by simp[a.f1],by simp[a.f2],by simp[a.f3],by simp[a.f4],by simp[a.f5]⟩
theorem Box6.put (g:Box6 w N x0 x1 x2 x3 x4 x5) (a b c d e f:Value):Box6 ((((((w.setCell ⟨N,0,none⟩ a).setCell ⟨N,1,none⟩ b).setCell ⟨N,2,none⟩ c).setCell ⟨N,3,none⟩ d).setCell ⟨N,4,none⟩ e).setCell ⟨N,5,none⟩ f) N a b c d e f:=(((((g.set0 a).set1 b).set2 c).set3 d).set4 e).set5 f
end
variable {c e f:Nat}
theorem zug {w wr:World} {ps:List (ByteArray × Bool)} {b:Tree} (o:c<w.heap.size) (m:qF (·<w.heap.size) w (ps.map zD++[b]) c e) (n:Below w.heap.size w wr) (p:f<ps.length) : ∃(q:ByteArray) (a:Option Addr) (d:Nat),wr.cell? ⟨c,e+f*4,none⟩=some (.int .i64 5)/\wr.cell? ⟨c,e+f*4+1,none⟩=some (.string q)/\wr.cell? ⟨c,e+f*4+2,none⟩=some (.int .i64 (bI ps[f].2))/\wr.cell? ⟨c,e+f*4+3,none⟩=some (.slice a 0 d):=by
 obtain⟨x0,x1,x2,x3,h,i,j,k,g⟩:=m.kid o n (j:=f) oE;rw[List.getElem_append_left (by simpa using p),List.getElem_map]at g;unfold zD Lies at g;obtain⟨a,d,l,_,_⟩:=g;cases l;exact⟨_,a,d,h,i,j,k⟩
theorem zt4 {w wr:World} {ps:List (ByteArray × Bool)} {b:Tree} (s:c<w.heap.size) (q:qF (·<w.heap.size) w (ps.map zD++[b]) c e) (r:Below w.heap.size w wr) (p:InT b) : ∃(f h:Int) (i:ByteArray) (a:Option Addr) (t g:Nat),f≠5/\wr.cell? ⟨c,e+ps.length*4,none⟩=some (.int .i64 f)/\wr.cell? ⟨c,e+ps.length*4+1,none⟩=some (.string i)/\wr.cell? ⟨c,e+ps.length*4+2,none⟩=some (.int .i64 h)/\wr.cell? ⟨c,e+ps.length*4+3,none⟩=some (.slice a t g):=by
 obtain⟨x0,x1,x2,x3,k,l,m,n,d⟩:=q.kid s r (j:=ps.length) oC;rw[List.getElem_append_right oC]at d;simp only[List.length_map,Nat.sub_self,jI]at d;obtain⟨f,i,h,u⟩:=b;unfold InT at p;unfold Lies at d;obtain⟨a,g,o,_,_⟩:=d;cases o;exact⟨f,h,i,a,_,g,oA,k,l,m,n⟩
theorem znd {w w':World} {B:Nat} {b:TypeId} {v:Value} {d:List Value} (f:w.ownsRow B b c v e d) (a:Below w.heap.size w w'):w'.ownsRow B b c v e d :=
 f.kept (row:=none) ⟨a.os,a.tape,a.output,a.size,fun h g _=>a.block h g⟩ (by cases v.ownBlock<;>simp)
theorem zne {w:World} {B:Nat} {b:TypeId} {c d M:Nat} {v:Value} {e:List Value} (f:w.ownsRow B b c v d e) (a:v.ownBlock≠some M) (x0 x1 x2 x3 x4 x5:Value):((((((w.setCell ⟨M,0,none⟩ x0).setCell ⟨M,1,none⟩ x1).setCell ⟨M,2,none⟩ x2).setCell ⟨M,3,none⟩ x3).setCell ⟨M,4,none⟩ x4).setCell ⟨M,5,none⟩ x5).ownsRow B b c v d e :=
 jV (jV (jV (jV (jV (jV f a _) a _) a _) a _) a _) a _
theorem Q4.grown {w w':World} {N:Nat} {d e f g:Value} {row:Option Nat} (a:Q4 N d e f g w) (b:w.grownBy w' row) (c:row≠some N):Q4 N d e f g w':=⟨cell_grown b a.1 c,cell_grown b a.2.1 c,cell_grown b a.2.2.1 c,cell_grown b a.2.2.2 c⟩
theorem zwy (q:Bool):bits BinOp.and IntKind.i64 (bI q) 1=bI q:=by cases q<;>decide +kernel
theorem zhe (n:ByteArray) (p l:Bool) (a2:Option Bool) (ps:List (ByteArray × Bool)) (b:Tree) (v:Value) (w:World) (aG:Lies (·<w.heap.size) w (Kid.proc n p l a2 ps b).tree v) (c9:ps.length<=1000) (b0:InT b) : Calls Tryz.prog 127 #[v] w fun m w'=>∃u,m=.returned (zN (qB n p l a2 ps) u)/\w'.ownsRow w.heap.size 3 1 u ps.length (intV (ps.map fun q=>bI q.2))/\Below w.heap.size w w':=by
 have bB:=kc25;have bC:Tryz.prog.cellsOf 91=6:=dP;have bA:Tryz.prog.cellsOf 3=1:=zqe;obtain⟨bg,hi,bc,be,bf⟩:=info_parts infoI;have HP:=zla p l a2;have af:=zk9 p l a2;have ae:Hid (bits BinOp.and IntKind.i64 (2*bI p+bI l+gI a2) 12=gI a2):=ztn p l a2;unfold Kid.tree Lies at aG;obtain⟨a,G,rfl,aA,ac⟩:=aG;obtain⟨g,K,rfl,az,a8⟩:=ac oC;clear ac;have aB:(ps.map zD++[b]).length=ps.length+1:=oC;rw[aB]at aA |-;obtain⟨o,aa⟩:∃o,o=ps.length+1:=⟨_,rfl⟩
 rw[<- aa]at aA |-;have aL:Hid (o=ps.length+1):=aa;clear aa aB;generalize 2*bI p+bI l+gI a2=y at HP af ae;have ax:∀W,Calls Tryz.prog 138 #[.agg #[.int .i64 4,.string n,.int .i64 y,.slice (some ⟨g,K,none⟩) o G]] W fun m w'=>m=.returned (.bool p)/\Below W.heap.size W w':=fun W=>by have:=zqt 4 n y (some ⟨g,K,none⟩) o G W;rw[HP]at this;exact this
 have ag:∀W,Calls Tryz.prog 139 #[.agg #[.int .i64 4,.string n,.int .i64 y,.slice (some ⟨g,K,none⟩) o G]] W fun m w'=>m=.returned (.int .i64 (bI l))/\Below W.heap.size W w':=fun W=>by have:=bH 4 n y (some ⟨g,K,none⟩) o G W;rw[af]at this;exact this
 clear HP af;have c:Q4 w.heap.size (.int .i64 4) (.string n) (.int .i64 y) (.slice (some ⟨g,K,none⟩) o G) ((w.alloc (.cells #[.int .i64 4,.string n,.int .i64 y,.slice (some ⟨g,K,none⟩) o G] 25)).alloc (.cells #[.string ⟨#[]⟩,.bool false,.slice none 0 0,.int .i64 0,.bool false,.int .i64 0] 91)).drew:=⟨oC,oC,oC,oC⟩
 have d:Below w.heap.size w ((w.alloc (.cells #[.int .i64 4,.string n,.int .i64 y,.slice (some ⟨g,K,none⟩) o G] 25)).alloc (.cells #[.string ⟨#[]⟩,.bool false,.slice none 0 0,.int .i64 0,.bool false,.int .i64 0] 91)).drew:=(Joins.below_alloc2 w (.cells #[.int .i64 4,.string n,.int .i64 y,.slice (some ⟨g,K,none⟩) o G] 25) (.cells #[.string ⟨#[]⟩,.bool false,.slice none 0 0,.int .i64 0,.bool false,.int .i64 0] 91)).drew;have s:Box6 ((w.alloc (.cells #[.int .i64 4,.string n,.int .i64 y,.slice (some ⟨g,K,none⟩) o G] 25)).alloc (.cells #[.string ⟨#[]⟩,.bool false,.slice none 0 0,.int .i64 0,.bool false,.int .i64 0] 91)).drew (w.heap.size+1) (.string ⟨#[]⟩) (.bool false) (.slice none 0 0) (.int .i64 0) (.bool false) (.int .i64 0):=oV;go_enter Tryz.func127,Tryz.ntmps127;go_wp2;refine wp_region_held_drew (S:=fun W=>Q4 w.heap.size (.int .i64 4) (.string n) (.int .i64 y) (.slice (some ⟨g,K,none⟩) o G) W) oB c (fun i=>?_);clear i;generalize ((w.alloc (.cells #[.int .i64 4,.string n,.int .i64 y,.slice (some ⟨g,K,none⟩) o G] 25)).alloc (.cells #[.string ⟨#[]⟩,.bool false,.slice none 0 0,.int .i64 0,.bool false,.int .i64 0] 91)).drew=W at *;rename_i Q' aM b1
 have aK:∀(N:Nat) (W:World),w.heap.size+1<N->Q4 w.heap.size (.int .i64 4) (.string n) (.int .i64 y) (.slice (some ⟨g,K,none⟩) o G) W->Below w.heap.size w W->Box6 W (w.heap.size+1) (.string ⟨#[]⟩) (.bool false) (.slice none 0 0) (.int .i64 0) (.bool false) (.int .i64 0)->Box6 W N (.string n) (.bool p) (.slice none 0 0) (.int .i64 (bI l)) (.bool false) (.int .i64 0)->Exit.then aM Q' Exit.normal { tmps:=#[.agg #[.int .i64 4,.string n,.int .i64 y,.slice (some ⟨g,K,none⟩) o G],.pointer (some ⟨w.heap.size,0,none⟩),.pointer (some ⟨w.heap.size+1,0,none⟩),.pointer (some ⟨N,0,none⟩),undef,undef,.pointer (some ⟨w.heap.size,1,none⟩),.string n,.agg #[.int .i64 4,.string n,.int .i64 y,.slice (some ⟨g,K,none⟩) o G],.bool p,.agg #[.int .i64 4,.string n,.int .i64 y,.slice (some ⟨g,K,none⟩) o G],.int .i64 (bI l),.agg #[.string n,.bool p,.slice none 0 0,.int .i64 (bI l),.bool false,.int .i64 0],undef,undef,undef,undef,undef,undef,undef,undef,undef,undef,undef,undef,undef,undef,undef,undef,undef,undef,undef,undef,undef,undef,undef,undef,undef,undef,undef,undef,undef,undef],defers:=[] } W:=by
  clear c d s W;intro N av ab c d s L;obtain⟨_,_,C,bp⟩:=id c;have bb:=L.lt;go_wp2
  go_loopw [16] (fun ap wr=>∃(f:Nat) (u:Value),f<=o/\ap=.int .i64 f/\wr.ownsRow (N+1) 3 1 u ((ps.take f).map fun q=>bI q.2).length (intV ((ps.take f).map fun q=>bI q.2))/\Below w.heap.size w wr/\wr.cell? ⟨w.heap.size,2,none⟩=some (.int .i64 y) /\
    Box6 wr (w.heap.size+1) (.string ⟨#[]⟩) (.bool false) (.slice none 0 0) (.int .i64 0) (.bool false) (.int .i64 0)/\Box6 wr N (.string n) (.bool p) u (.int .i64 (bI l)) (.bool false) (.int .i64 0)) (fun ap _=>o - (intOf ap).toNat)
  case atStart=>exact⟨0,.slice none 0 0,jz _,rfl,World.ownsRow_nil _ _ _ _,d,C,s,L⟩
  case round =>
   clear d L s C bp c bb;obtain⟨f,u,cb,rfl,x,d,C,E,t⟩:=hrel;have cg:=t.lt;by_cases aC:f<ps.length
   ·skip;obtain⟨R,P,Q,aH,aI,ao,aJ⟩:=zug az a8 d aC;have a6:Hid (((ps.take (f+1)).map fun q=>bI q.2)=((ps.take f).map fun q=>bI q.2)++[bI ps[f].2]):=zyu ps f aC;have aj:∀W,Calls Tryz.prog 139 #[.agg #[.int .i64 5,.string R,.int .i64 (bI ps[f].2),.slice P 0 Q]] W fun m w'=>m=.returned (.int .i64 (bI ps[f].2))/\Below W.heap.size W w':=fun W=>by have:=bH 5 R (bI ps[f].2) P 0 Q W;rw[zwy]at this;exact this
    have cc:f<o:=zcp;have aa:o<=1001:=zcp;have ah:((ps.take f).map fun q=>bI q.2).length=f:=oE;generalize bI ps[f].2=j at ao a6 aj;generalize ((ps.take f).map fun q=>bI q.2)=ar at x a6 ah;clear a8
    rw[ah]at x;obtain⟨z,B,rfl,_,_⟩:=lexs.own_shape x;have ak:∀D,(Value.slice z f B).ownBlock=some D->N<D/\D<wr.heap.size:=fun D m=>by have:=x.lt _ m;omega
    go_wp2;have c:Q4 wr.heap.size (.int .i64 5) (.string R) (.int .i64 j) (.slice P 0 Q) (wr.alloc (.cells #[.int .i64 5,.string R,.int .i64 j,.slice P 0 Q] 25)).drew:=⟨oC,oC,oC,oC⟩
    replace d:=(d.alloc d.size (.cells #[.int .i64 5,.string R,.int .i64 j,.slice P 0 Q] 25)).drew;replace x:(wr.alloc (.cells #[.int .i64 5,.string R,.int .i64 j,.slice P 0 Q] 25)).drew.ownsRow (N+1) 3 1 (.slice z f B) f (intV ar):=x.alloc _;replace E:=(E.alloc (.cells #[.int .i64 5,.string R,.int .i64 j,.slice P 0 Q] 25)).drew;replace t:=(t.alloc (.cells #[.int .i64 5,.string R,.int .i64 j,.slice P 0 Q] 25)).drew;replace C:(wr.alloc (.cells #[.int .i64 5,.string R,.int .i64 j,.slice P 0 Q] 25)).drew.cell? ⟨w.heap.size,2,none⟩=some (.int .i64 y):=zI C _;refine wp_region_held_drew (S:=fun W=>Q4 wr.heap.size (.int .i64 5) (.string R) (.int .i64 j) (.slice P 0 Q) W) oB c (fun i=>?_);clear i;generalize (wr.alloc (.cells #[.int .i64 5,.string R,.int .i64 j,.slice P 0 Q] 25)).drew=bq at *;generalize wr.heap.size=bk at *;clear aH aI ao aJ;refine tkP 0 (.pointer (some ⟨N,2,none⟩)) c ?_;simp only[Act.put,jA,jB,jC];refine tkP 2 (.agg #[.int .i64 5,.string R,.int .i64 j,.slice P 0 Q] ) c ?_;simp only[Act.put,jA,jB,jC];refine wpAnyH_ready (rs:=[1,3]) oB oC ?_;refine AllReadyH.cons rfl (fun k e=>?_) (AllReadyH.cons rfl (fun k e=>?_) AllReadyH.nil)
    focus
     have a3:=t.c2;go_simp;refine e.out _ _ c (fun i=>?_);clear e k i a3;refine oneH 3 fun k e=>?_
     go_simp;go_at_call 139;refine(aj _).mono ?_;rintro m r ⟨rfl,h⟩;go_wp2;replace c:=Q4.below c h;replace d:=d.trans (h.mono d.size);replace E:=E.below h;replace t:=t.below h;replace C:=keep C h;replace x:=znd x h;refine e.out _ _ c (fun i=>?_);clear e k i h;refine oneH 4 fun k e=>?_
     go_simp;have am:∀f u,[Value.int .i64 j][f]?=some u->(r.alloc (.cells #[.int .i64 j] 3)).cell? ((⟨r.heap.size,0,none⟩:Addr).add f)=some u:=zaq _ _ _ rfl;have an:r.heap.size+1=(r.alloc (.cells #[.int .i64 j] 3)).heap.size:=oC;have aF:∀D,(Value.slice z f B).ownBlock=some D->D≠r.heap.size:=fun D m=>zhk
     replace c:=Q4.alloc c (.cells #[.int .i64 j] 3);replace d:=d.alloc d.size (.cells #[.int .i64 j] 3);replace E:=E.alloc (.cells #[.int .i64 j] 3);replace t:=t.alloc (.cells #[.int .i64 j] 3);replace C:=zI C (.cells #[.int .i64 j] 3);replace x:=x.alloc (.cells #[.int .i64 j] 3);refine e.out _ _ c (fun i=>?_);clear e k i;generalize r.alloc (.cells #[.int .i64 j] 3)=V at *;generalize r.heap.size=ad at *
    rotate_left
    focus
     go_simp;go_at_call 139;refine(aj _).mono ?_;rintro m r ⟨rfl,h⟩;go_wp2;replace c:=Q4.below c h;replace d:=d.trans (h.mono d.size);replace E:=E.below h;replace t:=t.below h;replace C:=keep C h;replace x:=znd x h;refine e.out _ _ c (fun i=>?_);clear e k i h;refine wpAnyH_ready (rs:=[1,4]) oB oC ?_;refine AllReadyH.cons rfl (fun k e=>?_) (AllReadyH.cons rfl (fun k e=>?_) AllReadyH.nil)
     focus
      have a3:=t.c2;go_simp;refine e.out _ _ c (fun i=>?_);clear e k i a3;refine oneH 4 fun k e=>?_
      go_simp;have am:∀f u,[Value.int .i64 j][f]?=some u->(r.alloc (.cells #[.int .i64 j] 3)).cell? ((⟨r.heap.size,0,none⟩:Addr).add f)=some u:=zaq _ _ _ rfl;have an:r.heap.size+1=(r.alloc (.cells #[.int .i64 j] 3)).heap.size:=oC;have aF:∀D,(Value.slice z f B).ownBlock=some D->D≠r.heap.size:=fun D m=>zhk
      replace c:=Q4.alloc c (.cells #[.int .i64 j] 3);replace d:=d.alloc d.size (.cells #[.int .i64 j] 3);replace E:=E.alloc (.cells #[.int .i64 j] 3);replace t:=t.alloc (.cells #[.int .i64 j] 3);replace C:=zI C (.cells #[.int .i64 j] 3);replace x:=x.alloc (.cells #[.int .i64 j] 3);refine e.out _ _ c (fun i=>?_);clear e k i;generalize r.alloc (.cells #[.int .i64 j] 3)=V at *;generalize r.heap.size=ad at *
     rotate_left
     focus
      go_simp;have am:∀f u,[Value.int .i64 j][f]?=some u->(r.alloc (.cells #[.int .i64 j] 3)).cell? ((⟨r.heap.size,0,none⟩:Addr).add f)=some u:=zaq _ _ _ rfl;have an:r.heap.size+1=(r.alloc (.cells #[.int .i64 j] 3)).heap.size:=oC;have aF:∀D,(Value.slice z f B).ownBlock=some D->D≠r.heap.size:=fun D m=>zhk
      replace c:=Q4.alloc c (.cells #[.int .i64 j] 3);replace d:=d.alloc d.size (.cells #[.int .i64 j] 3);replace E:=E.alloc (.cells #[.int .i64 j] 3);replace t:=t.alloc (.cells #[.int .i64 j] 3);replace C:=zI C (.cells #[.int .i64 j] 3);replace x:=x.alloc (.cells #[.int .i64 j] 3);refine e.out _ _ c (fun i=>?_);clear e k i;generalize r.alloc (.cells #[.int .i64 j] 3)=V at *;generalize r.heap.size=ad at *;refine oneH 1 fun k e=>?_
      have a3:=t.c2;go_simp;refine e.out _ _ c (fun i=>?_);clear e k i a3
    all_goals
     refine oneH 5 fun k e=>?_
     refine step_append_lies _ oG (.tmp 24) (.tmp 27) 34 oG (N+1) 3 bg (.int .i64 0) 1 8 Tryz.underlying34 hi bc be bf rfl oD (.slice z f B) f (intV ar) oJ x ⟨ad,0,none⟩ 1 1 [.int .i64 j] oJ rfl am (zoc _) oA (by unfold maxLen;omega) oA (by have:=t.lt;omega) (ad+1) an.symm ?_;intro a7 aN cj b6 a9 b2 cf;have ba:(Value.slice z f B).ownBlock≠some bk:=fun m=>zel
     have b8:(Value.slice z f B).ownBlock≠some (w.heap.size+1):=fun m=>zel
     have b7:(Value.slice z f B).ownBlock≠some w.heap.size:=fun m=>zel
     have b9:(Value.slice z f B).ownBlock≠some N:=fun m=>zel
     replace c:=Q4.grown c a9 ba;have ca:N<a7:=by rcases b2 with m | m;exact(ak _ m).1;have:=t.lt;omega
     replace d:=Below.grown d a9 d.size (fun D ac=>by have:=ak _ ac;omega);replace E:=E.grown a9 b8;replace t:=t.grown a9 b9;replace C:=cell_grown a9 C b7;refine e.out _ _ c (fun i=>?_);clear e k i;simp only[Act.put,jA,jB,jC];refine tkP 6 (.pointer (some ⟨N,2,none⟩)) c ?_;simp only[Act.put,jA,jB,jC];refine oneH 7 fun k e=>?_
     have a3:=t.c2;have bh:=t.f2;go_simp;refine e.out _ _ (Q4.other oA c _ _) (fun i=>?_);clear e k i a3 bh;refine wpAnyH_done oB ?_ _;go_wp2;go_roundw
     case rel =>
      refine⟨f+1,.slice (some ⟨a7,0,none⟩) (f+1) aN,oA,oM,?_,d.setCell zcq _,?_,E.other oA _,t.set2 _⟩;·rw[a6.out,zkg,jb,ah];exact jV b6 (by show some a7≠some N;simp;omega) _
      ·rw[jD _ _ _ _ (by intro m;cases m;omega)];exact C
     case measure=>simp[intOf];omega
   by_cases ce:f<o
   ·skip;have ai:f=ps.length:=zcp;subst ai;obtain⟨D,ch,R,P,ci,Q,cd,aH,aI,ao,aJ⟩:=zt4 az a8 d b0;have aa:o<=1001:=zcp;have a6:Hid (ps.take (ps.length+1)=ps.take ps.length):=by show _=_;rw[List.take_length,jG oA]
    clear a8
    go_wp2;go_roundw
    case rel=>exact⟨ps.length+1,u,oA,oM,by rw[a6.out];exact x.alloc _,d.alloc d.size _,zI C _,E.alloc _,t.alloc _⟩
    case measure=>simp[intOf];omega
   have ai:f=o:=oA;subst ai;have ay:ps.take f=ps:=by rw[jG zcp]
   rw[ay,List.length_map]at x;clear ay a8
   obtain⟨z,B,rfl,_,_⟩:=lexs.own_shape x;obtain⟨br,bs,bu,bv,bw,bz,bR,bS,bX,c6,c7,c8⟩:=id t;obtain⟨aO,aP,aQ,aR,aS,aT,bF,bG,bK,bM,bN,bP⟩:=id E;have aD:(Value.slice z ps.length B).ownBlock≠some (w.heap.size+1):=fun m=>by have:=(x.lt _ m).1;omega
   have aE:(Value.slice z ps.length B).ownBlock≠some N:=fun m=>by have:=(x.lt _ m).1;omega
   have a5:=ae.out;clear ae;rcases a2 with _ | aZ
   ·have aw:bits BinOp.and IntKind.i64 y 12=0:=a5;clear a5;go_wp2;refine jU (v:=.agg #[.string n,.bool p,.slice z ps.length B,.int .i64 (bI l),.bool false,.int .i64 0]) zhl rfl ⟨.slice z ps.length B,rfl,?_,zc3 d oA _ _ _ _ _ _⟩;exact lexs.ownsRow_le (zne x aD _ _ _ _ _ _) oA
   cases aZ;·have aw:bits BinOp.and IntKind.i64 y 12=4:=a5;clear a5;go_wp2;refine jU (v:=.agg #[.string n,.bool p,.slice z ps.length B,.int .i64 (bI l),.bool true,.int .i64 0]) zhl rfl ⟨.slice z ps.length B,rfl,?_,zc3 ((d.setCell zcq _).setCell zcq _) oA _ _ _ _ _ _⟩;exact zpg
   ·have aw:bits BinOp.and IntKind.i64 y 12=8:=a5;clear a5;go_wp2;refine jU (v:=.agg #[.string n,.bool p,.slice z ps.length B,.int .i64 (bI l),.bool true,.int .i64 1]) zhl rfl ⟨.slice z ps.length B,rfl,?_,zc3 ((d.setCell zcq _).setCell zcq _) oA _ _ _ _ _ _⟩;exact zpg
 clear b1
 ·skip;refine tkP 0 (.pointer (some ⟨w.heap.size,1,none⟩)) c ?_;simp only[Act.put,jA,jB,jC];refine tkP 1 (.string n) c ?_;simp only[Act.put,jA,jB,jC];refine tkP 2 (.agg #[.int .i64 4,.string n,.int .i64 y,.slice (some ⟨g,K,none⟩) o G] ) c ?_;simp only[Act.put,jA,jB,jC];refine tkP 4 (.agg #[.int .i64 4,.string n,.int .i64 y,.slice (some ⟨g,K,none⟩) o G] ) c ?_;simp only[Act.put,jA,jB,jC];refine wpAnyH_ready (rs:=[3,7]) oB oC ?_;refine AllReadyH.cons rfl (fun k e=>?_) (AllReadyH.cons rfl (fun k e=>?_) AllReadyH.nil)
  focus
   go_simp;go_at_call 138;refine(ax _).mono ?_;rintro m r ⟨rfl,h⟩;go_wp2;replace c:=Q4.below c h;replace d:=d.trans (h.mono d.size);replace s:=s.below h;skip;refine e.out _ _ c (fun i=>?_);clear e k i h;refine wpAnyH_ready (rs:=[5,7]) oB oC ?_;refine AllReadyH.cons rfl (fun k e=>?_) (AllReadyH.cons rfl (fun k e=>?_) AllReadyH.nil)
   focus
    go_simp;go_at_call 139;refine(ag _).mono ?_;rintro m V ⟨rfl,h⟩;go_wp2;replace c:=Q4.below c h;replace d:=d.trans (h.mono d.size);replace s:=s.below h;skip;refine e.out _ _ c (fun i=>?_);clear e k i h;refine tkP 6 (.agg #[.string n,.bool p,.slice none 0 0,.int .i64 (bI l),.bool false,.int .i64 0] ) c ?_;simp only[Act.put,jA,jB,jC];refine oneH 7 fun k e=>?_
    go_simp;have L:=Box6.new V (.string ⟨#[]⟩) (.bool false) (.slice none 0 0) (.int .i64 0) (.bool false) (.int .i64 0) 91;have ab:w.heap.size+1<V.heap.size:=s.lt;replace c:=Q4.alloc c (.cells #[.string ⟨#[]⟩,.bool false,.slice none 0 0,.int .i64 0,.bool false,.int .i64 0] 91);replace d:=d.alloc d.size (.cells #[.string ⟨#[]⟩,.bool false,.slice none 0 0,.int .i64 0,.bool false,.int .i64 0] 91);replace s:=s.alloc (.cells #[.string ⟨#[]⟩,.bool false,.slice none 0 0,.int .i64 0,.bool false,.int .i64 0] 91);refine e.out _ _ c (fun i=>?_);clear e k i;generalize V.alloc (.cells #[.string ⟨#[]⟩,.bool false,.slice none 0 0,.int .i64 0,.bool false,.int .i64 0] 91)=au at *;generalize V.heap.size=N at *
   rotate_left
   focus
    go_simp;have L:=Box6.new r (.string ⟨#[]⟩) (.bool false) (.slice none 0 0) (.int .i64 0) (.bool false) (.int .i64 0) 91;have ab:w.heap.size+1<r.heap.size:=s.lt;replace c:=Q4.alloc c (.cells #[.string ⟨#[]⟩,.bool false,.slice none 0 0,.int .i64 0,.bool false,.int .i64 0] 91);replace d:=d.alloc d.size (.cells #[.string ⟨#[]⟩,.bool false,.slice none 0 0,.int .i64 0,.bool false,.int .i64 0] 91);replace s:=s.alloc (.cells #[.string ⟨#[]⟩,.bool false,.slice none 0 0,.int .i64 0,.bool false,.int .i64 0] 91);refine e.out _ _ c (fun i=>?_);clear e k i;generalize r.alloc (.cells #[.string ⟨#[]⟩,.bool false,.slice none 0 0,.int .i64 0,.bool false,.int .i64 0] 91)=au at *;generalize r.heap.size=N at *;refine oneH 5 fun k e=>?_
    go_simp;go_at_call 139;refine(ag _).mono ?_;rintro m V ⟨rfl,h⟩;go_wp2;replace c:=Q4.below c h;replace d:=d.trans (h.mono d.size);replace s:=s.below h;replace L:=L.below h;refine e.out _ _ c (fun i=>?_);clear e k i h;refine tkP 6 (.agg #[.string n,.bool p,.slice none 0 0,.int .i64 (bI l),.bool false,.int .i64 0] ) c ?_;simp only[Act.put,jA,jB,jC]
  rotate_left 2
  focus
   go_simp;have L:=Box6.new W (.string ⟨#[]⟩) (.bool false) (.slice none 0 0) (.int .i64 0) (.bool false) (.int .i64 0) 91;have ab:w.heap.size+1<W.heap.size:=s.lt;replace c:=Q4.alloc c (.cells #[.string ⟨#[]⟩,.bool false,.slice none 0 0,.int .i64 0,.bool false,.int .i64 0] 91);replace d:=d.alloc d.size (.cells #[.string ⟨#[]⟩,.bool false,.slice none 0 0,.int .i64 0,.bool false,.int .i64 0] 91);replace s:=s.alloc (.cells #[.string ⟨#[]⟩,.bool false,.slice none 0 0,.int .i64 0,.bool false,.int .i64 0] 91);refine e.out _ _ c (fun i=>?_);clear e k i;generalize W.alloc (.cells #[.string ⟨#[]⟩,.bool false,.slice none 0 0,.int .i64 0,.bool false,.int .i64 0] 91)=au at *;generalize W.heap.size=N at *;refine oneH 3 fun k e=>?_
   go_simp;go_at_call 138;refine(ax _).mono ?_;rintro m r ⟨rfl,h⟩;go_wp2;replace c:=Q4.below c h;replace d:=d.trans (h.mono d.size);replace s:=s.below h;replace L:=L.below h;refine e.out _ _ c (fun i=>?_);clear e k i h;refine oneH 5 fun k e=>?_
   go_simp;go_at_call 139;refine(ag _).mono ?_;rintro m V ⟨rfl,h⟩;go_wp2;replace c:=Q4.below c h;replace d:=d.trans (h.mono d.size);replace s:=s.below h;replace L:=L.below h;refine e.out _ _ c (fun i=>?_);clear e k i h;refine tkP 6 (.agg #[.string n,.bool p,.slice none 0 0,.int .i64 (bI l),.bool false,.int .i64 0] ) c ?_;simp only[Act.put,jA,jB,jC]
  all_goals
   refine oneH 8 fun k e=>?_
   obtain⟨bi,o,bj,bm,bn,bo,aU,aV,aW,aX,aY,a7⟩:=id L;go_simp;replace L:=L.put (.string n) (.bool p) (.slice none 0 0) (.int .i64 (bI l)) (.bool false) (.int .i64 0);replace c:=Q4.other6 (M:=N) oA c (.string n) (.bool p) (.slice none 0 0) (.int .i64 (bI l)) (.bool false) (.int .i64 0);replace d:=zc3 (M:=N) d oA (.string n) (.bool p) (.slice none 0 0) (.int .i64 (bI l)) (.bool false) (.int .i64 0);replace s:=s.other6 (M:=N) oA (.string n) (.bool p) (.slice none 0 0) (.int .i64 (bI l)) (.bool false) (.int .i64 0);refine e.out _ _ c (fun i=>?_);clear e k i bi o bj bm bn bo aU aV aW aX aY a7;generalize (World.setCell _ ⟨N,5,none⟩ _)=av at *;refine wpAnyH_done oB ?_ _;exact aK N av ab c d s L
end Go.Proofs.YtbjppepjmcfkaaaGreatDoor.face
namespace Go.Proofs.YtbjppepjmcfkaaaGreatDoor.mac
open Go.RowKit
def BoxC (W:World) (B:Nat) (cs:Array Value) (T:TypeId):Prop:=W.heap[B]?=some (.cells cs T (0,0))
section
variable {W W':World} {B D:Nat} {cs:Array Value} {T:TypeId} {u u':Value}
theorem BoxC.lt (a:BoxC W B cs T):B<W.heap.size:=(Array.getElem?_eq_some_iff.1 a).1
theorem BoxC.new (W:World) (cs:Array Value) (T:TypeId):BoxC (W.alloc (.cells cs T)) W.heap.size cs T:=heap_alloc_new W _
theorem BoxC.below (a:BoxC W B cs T) (b:Below W.heap.size W W'):BoxC W' B cs T:=(b.block B a.lt).trans a
theorem BoxC.grown {row:Option Nat} (a:BoxC W B cs T) (c:W.grownBy W' row) (d:row≠some B):BoxC W' B cs T:=(c.block B a.lt (fun b=>d b.symm)).trans a
theorem BoxC.alloc (b:BoxC W B cs T) (a:Obj):BoxC (W.alloc a) B cs T:=b.below (bal a)
theorem BoxC.other (a:BoxC W B cs T) {b o:Nat} (c:B≠b) (v:Value):BoxC (W.setCell ⟨b,o,none⟩ v) B cs T:=(jQ W ⟨b,o,none⟩ v B c).trans a
theorem BoxC.set (b:BoxC W B cs T) (a:Nat) (v:Value):BoxC (W.setCell ⟨B,a,none⟩ v) B (cs.setIfInBounds a v) T:=heap_setCell_same W B a cs T v b
theorem BoxC.cell (b:BoxC W B cs T) (a:Nat) {v:Value} (c:cs[a]?=some v):W.cell? ⟨B,a,none⟩=some v:=by
 simp[World.cell?,show W.heap[B]?=_ from b,c]
theorem BoxC.fz (a:BoxC W B cs T) (b:Nat):W.frozen? ⟨B,b,none⟩=false:=by
 simp[World.frozen?,show W.heap[B]?=_ from a]
end
theorem grown_of_below {w w':World} (a:Below w.heap.size w w'):w.grownBy w' none:=⟨a.os,a.tape,a.output,a.size,fun c b _=>a.block c b⟩
theorem keep {w w':World} {a:Addr} {c:Value} (b:w.cell? a=some c) (d:Below w.heap.size w w'):w'.cell? a=some c:=by
 rw[d.cell (jS w a b)];exact b
theorem yD (w:World) (B a:Nat) (v:Value):w.grownBy (w.setCell ⟨B,a,none⟩ v) (some B) :=
 ⟨rfl,rfl,rfl,oC,fun d _ c=>jQ w ⟨B,a,none⟩ v d (fun b=>c (by rw[b]))⟩
end Go.Proofs.YtbjppepjmcfkaaaGreatDoor.mac
namespace Go.Proofs.YtbjppepjmcfkaaaGreatDoor.mdl
open Go.RowKit
open syn face mac chk
abbrev intV (x:Int):Value:=.int .i64 x
abbrev natV (x:Nat):Value:=.int .i64 (x:Int)
structure Kept (P:Nat->Prop) (a w:World):Prop where
 os:w.os=a.os
 tape:w.tape=a.tape
 output:w.output=a.output
 size:a.heap.size<=w.heap.size
 block:∀k,k<a.heap.size->P k->w.heap[k]?=a.heap[k]?
section
variable {P Q:Nat->Prop} {a b w w':World}
theorem Kept.refl (P:Nat->Prop) (w:World):Kept P w w:=⟨rfl,rfl,rfl,jE _,fun _ _ _=>rfl⟩
theorem Kept.trans (d:Kept P a b) (c:Kept Q b w) (g:∀c,c<a.heap.size->P c->Q c):Kept P a w :=
 ⟨c.os.trans d.os,c.tape.trans d.tape,c.output.trans d.output,jp d.size c.size,fun e hi f=>(c.block e (jo hi d.size) (g e hi f)).trans (d.block e hi f)⟩
theorem Kept.mono (c:Kept P a w) (e:∀b,b<a.heap.size->Q b->P b):Kept Q a w:=⟨c.os,c.tape,c.output,c.size,fun b d f=>c.block b d (e b d f)⟩
theorem Kept.below (b:Kept P a w) (c:Below w.heap.size w w'):Kept P a w' :=
 ⟨c.os.trans b.os,c.tape.trans b.tape,c.output.trans b.output,jp b.size c.size,fun e d f=>(c.block e (jo d b.size)).trans (b.block e d f)⟩
theorem Kept.grown {row:Option Nat} (c:Kept P a w) (d:w.grownBy w' row) (h:∀b,b<a.heap.size->row=some b->¬P b):Kept P a w' :=
 ⟨d.os.trans c.os,d.tape.trans c.tape,d.output.trans c.output,jp c.size d.size,fun b e f=>(d.block b (jo e c.size) (fun g=>h b e g.symm f)).trans (c.block b e f)⟩
theorem Kept.set (c:Kept P a w) {B o:Nat} (e:B<a.heap.size->¬P B) (v:Value):Kept P a (w.setCell ⟨B,o,none⟩ v) :=
 c.grown (yD w B o v) (fun f d b=>by injection b with b;subst b;exact e d)
theorem Kept.cell (d:Kept P a w) {p:Addr} {c:Value} (b:a.cell? p=some c) (e:P p.block):w.cell? p=some c :=
 (jN (w:=a) (d.block p.block (jS a p b) e)).trans b
theorem Kept.box (c:Kept P a w) {B:Nat} {cs:Array Value} {T:TypeId} (b:BoxC a B cs T) (d:P B):BoxC w B cs T:=(c.block B b.lt d).trans b
end
structure Pl where
 R:Nat
 D:Nat
 rd:R<D
 vb:Nat
 pb:Nat
 vn:Nat
 pn:Nat
 il:Value
 ih:Value
 vf:ByteArray->Option Value
 pf:ByteArray->Option Value
def yQ (p:Pl) (C:Cx) (lo hi:Value) (s:RS) (d:Nat):Array Value:=#[.map (some p.vb),.map (some p.pb),intV 0,lo,hi,natV s.uL,natV s.uH,natV s.st,p.il,p.ih,natV C.fuel,natV d]
def Mut (p:Pl) (b:Nat):Prop:=∃x v,p.vf x=some v/\v.ownBlock=some b
def uD (p:Pl) (w:World) (x:ByteArray) (l:List Int):Prop:=match p.vf x with
 | none=>l=[]
 | some v=>∃b,v=.slice (some ⟨b,0,none⟩) l.length l.length/\(b<p.D/\b≠p.R)/\BoxC w b (l.map intV).toArray 2/\l.length<=64
def Stc (p:Pl) (k:Nat):Prop:=k<p.D/\k≠p.R/\¬Mut p k
structure MR (p:Pl) (C:Cx) (w0:World) (lo hi:Value) (s:RS) (d:Nat) (w:World):Prop where
 box:BoxC w p.R (yQ p C lo hi s d) 80
 sz:w0.heap.size=p.D
 rl:w.ownsRow (p.D+1) 2 1 lo s.oL.length (s.oL.map intV)
 rh:w.ownsRow (p.D+1) 2 1 hi s.oH.length (s.oH.map intV)
 ne:∀b,lo.ownBlock=some b->hi.ownBlock≠some b
 stc:Kept (Stc p) w0 w
 wd:∀x,uD p w x (s.vs x)
 one:∀x y v v2,p.vf x=some v->p.vf y=some v2->v.ownBlock=v2.ownBlock->eqS x y=true
 bx:BoxC w p.D #[.pointer (some ⟨p.R,2,none⟩)] 128
structure FK (p:Pl) (X:Nat->Prop) (lo hi lo' hi':Value) (w w':World):Prop where
 k:Kept (fun k=>p.D<k/\¬X k/\lo.ownBlock≠some k/\hi.ownBlock≠some k) w w'
 ol:∀b,lo'.ownBlock=some b->lo.ownBlock=some b\/w.heap.size<=b
 oh:∀b,hi'.ownBlock=some b->hi.ownBlock=some b\/w.heap.size<=b
section
variable {p:Pl} {C:Cx} {w0 w w' w2:World} {lo hi lo' hi' lo2 hi2:Value} {s:RS} {d:Nat} {X Y:Nat->Prop}
theorem FK.refl (p:Pl) (X:Nat->Prop) (lo hi:Value) (w:World):FK p X lo hi lo hi w w:=⟨Kept.refl _ w,fun _ a=>.inl a,fun _ a=>.inl a⟩
theorem FK.trans (d:FK p X lo hi lo' hi' w w') (e:FK p X lo' hi' lo2 hi2 w' w2):FK p X lo hi lo2 hi2 w w2 :=
 ⟨d.k.trans e.k (fun b j ⟨f,g,h,i⟩=>⟨f,g,fun c=>by rcases d.ol b c with a | a;exact h a;omega,fun c=>by rcases d.oh b c with a | a;exact i a;omega⟩),
  fun b c=>by
   rcases e.ol b c with a | a
   ·exact d.ol b a
   ·exact .inr (jp d.k.size a),
  fun b c=>by
   rcases e.oh b c with a | a
   ·exact d.oh b a
   ·exact .inr (jp d.k.size a)⟩
theorem FK.mono (a:FK p X lo hi lo' hi' w w') (g:∀b,b<w.heap.size->X b->Y b):FK p Y lo hi lo' hi' w w' :=
 ⟨a.k.mono (fun b h ⟨d,e,f⟩=>⟨d,fun c=>e (g b h c),f⟩),a.ol,a.oh⟩
theorem FK.below (a:FK p X lo hi lo' hi' w w') (b:Below w'.heap.size w' w2):FK p X lo hi lo' hi' w w2:=⟨a.k.below b,a.ol,a.oh⟩
theorem FK.drew (a:FK p X lo hi lo' hi' w w'):FK p X lo hi lo' hi' w w'.drew:=a.below (Below.refl _ _).drew
theorem FK.size (a:FK p X lo hi lo' hi' w w'):w.heap.size<=w'.heap.size:=a.k.size
theorem FK.box (a:FK p X lo hi lo' hi' w w') {B:Nat} {cs:Array Value} {T:TypeId} (f:BoxC w B cs T) (b:p.D<B) (c:¬X B) (d:lo.ownBlock≠some B) (e:hi.ownBlock≠some B):BoxC w' B cs T:=a.k.box f ⟨b,c,d,e⟩
theorem FK.lone (c:FK p X lo hi lo' hi' w w') {B:Nat} (e:B<w.heap.size) (d:lo.ownBlock≠some B):lo'.ownBlock≠some B:=fun b=>by
 rcases c.ol B b with a | a
 ·exact d a
 ·omega
theorem FK.hine (c:FK p X lo hi lo' hi' w w') {B:Nat} (e:B<w.heap.size) (d:hi.ownBlock≠some B):hi'.ownBlock≠some B:=fun b=>by
 rcases c.oh B b with a | a
 ·exact d a
 ·omega
theorem MR.lt (a:MR p C w0 lo hi s d w):p.D<w.heap.size:=a.bx.lt
theorem uD.kept {d:ByteArray} {l:List Int} (a:uD p w d l) (i:∀b,b<p.D->b≠p.R->w'.heap[b]?=w.heap[b]?):uD p w' d l:=by
 unfold uD at a |-
 cases e:p.vf d with
 | none=>rw[e]at a;exact a
 | some v =>
  rw[e]at a;obtain⟨b,f,c,g,h⟩:=a;exact⟨b,f,c,(i b c.1 c.2).trans g,h⟩
theorem MR.below (a:MR p C w0 lo hi s d w) (c:Below w.heap.size w w'):MR p C w0 lo hi s d w' :=
 ⟨a.box.below c,a.sz,a.rl.kept (mac.grown_of_below c) (by cases lo.ownBlock<;>simp),a.rh.kept (mac.grown_of_below c) (by cases hi.ownBlock<;>simp),a.ne,a.stc.below c,fun e=>(a.wd e).kept (fun b f g=>c.block b (by have:=a.lt;omega)),a.one,a.bx.below c⟩
theorem MR.drew (a:MR p C w0 lo hi s d w):MR p C w0 lo hi s d w.drew:=a.below (Below.refl _ _).drew
theorem MR.alloc (b:MR p C w0 lo hi s d w) (a:Obj):MR p C w0 lo hi s d (w.alloc a):=b.below (bal a)
theorem MR.loNe (b:MR p C w0 lo hi s d w):lo.ownBlock≠some p.R:=fun a=>by have:=(b.rl.lt _ a).1;have:=p.rd;omega
theorem MR.hiNe (b:MR p C w0 lo hi s d w):hi.ownBlock≠some p.R:=fun a=>by have:=(b.rh.lt _ a).1;have:=p.rd;omega
theorem MR.side (a:MR p C w0 lo hi s d w) {B:Nat} (h:p.D<B) (e:lo.ownBlock≠some B) (f:hi.ownBlock≠some B) (c:Nat) (v:Value):MR p C w0 lo hi s d (w.setCell ⟨B,c,none⟩ v) :=
 ⟨a.box.other (by have:=p.rd;omega) v,a.sz,a.rl.kept (yD w B c v) (.inr e),a.rh.kept (yD w B c v) (.inr f),a.ne,a.stc.set (fun j=>by have:=a.sz;omega) v,fun g=>(a.wd g).kept (fun b i k=>jQ w ⟨B,c,none⟩ v b (by show b≠B;omega)),a.one,a.bx.other oA v⟩
theorem MR.turn (a:MR p C w0 lo hi s d w) (c:Nat) (v:Value) {s':RS} {f:Nat} (i:(yQ p C lo hi s d).setIfInBounds c v=yQ p C lo hi s' f) (l:s'.vs=s.vs) (h:s'.oL=s.oL) (g:s'.oH=s.oH):MR p C w0 lo hi s' f (w.setCell ⟨p.R,c,none⟩ v):=by
 have e:=a.box.set c v;rw[i]at e;refine⟨e,a.sz,?_,?_,a.ne,a.stc.set (fun _ j=>j.2.1 rfl) v,fun m=>?_,a.one,a.bx.other (by have:=p.rd;omega) v⟩;·rw[h];exact a.rl.kept (yD w p.R c v) (.inr a.loNe)
 ·rw[g];exact a.rh.kept (yD w p.R c v) (.inr a.hiNe)
 ·rw[l];exact(a.wd m).kept (fun b e k=>jQ w ⟨p.R,c,none⟩ v b k)
theorem FK.turn (a:FK p X lo hi lo' hi' w w') (b:Nat) (v:Value):FK p X lo hi lo' hi' w (w'.setCell ⟨p.R,b,none⟩ v) :=
 ⟨a.k.set (fun _ ⟨c,_⟩=>by have:=p.rd;omega) v,a.ol,a.oh⟩
theorem FK.side (b:FK p X lo hi lo' hi' w w') {B:Nat} (a:X B\/w.heap.size<=B) (d:Nat) (v:Value):FK p X lo hi lo' hi' w (w'.setCell ⟨B,d,none⟩ v) :=
 ⟨b.k.set (fun e ⟨_,c,_⟩=>by rcases a with a | a;exact c a;omega) v,b.ol,b.oh⟩
theorem FK.alloc (b:FK p X lo hi lo' hi' w w') (a:Obj):FK p X lo hi lo' hi' w (w'.alloc a):=b.below (bal a)
end
abbrev Nod (p:Pl) (w:World) (t:Tree) (v:Value):Prop:=Lies (Stc p) w t v
end Go.Proofs.YtbjppepjmcfkaaaGreatDoor.mdl
namespace Go.Proofs.YtbjppepjmcfkaaaGreatDoor.numOps
open Go.ChangeShapes Go.WideShapes Go.ChangeAt Go.RowKit
theorem op4 (a b:Int) (d:¬b=0) (w:World) : Calls Tryz.prog 190 #[.int .i64 4,.int .i64 a,.int .i64 b] w fun c w'=>c=.returned (.tuple #[.int .i64 (wrap64 (a.tdiv b)),.bool true])/\w'=w:=by
 have f:(b==0)=false:=by simpa using d
 exact uS
theorem ydy (a:Int) (w:World) : Calls Tryz.prog 190 #[.int .i64 4,.int .i64 a,.int .i64 0] w fun c w'=>c=.returned (.tuple #[.int .i64 0,.bool false])/\w'=w:=by
 exact uS
theorem ydz (a:Int) (w:World) : Calls Tryz.prog 190 #[.int .i64 5,.int .i64 a,.int .i64 0] w fun c w'=>c=.returned (.tuple #[.int .i64 0,.bool false])/\w'=w:=by
 exact uS
theorem op5 (a b:Int) (d:¬b=0) (w:World) : Calls Tryz.prog 190 #[.int .i64 5,.int .i64 a,.int .i64 b] w fun c w'=>c=.returned (.tuple #[.int .i64 (a.tmod b),.bool true])/\w'=w:=by
 have f:(b==0)=false:=by simpa using d
 exact uS
theorem zz7 (a b:Int) (w:World) : Calls Tryz.prog 190 #[.int .i64 8,.int .i64 a,.int .i64 b] w fun c w'=>c=.returned (.tuple #[.int .i64 (if a<b then 1 else 0),.bool true])/\w'=w:=by
 by_cases d:a<b
 all_goals
  exact uS
theorem zz8 (a b:Int) (w:World) : Calls Tryz.prog 190 #[.int .i64 9,.int .i64 a,.int .i64 b] w fun c w'=>c=.returned (.tuple #[.int .i64 (if a=b then 1 else 0),.bool true])/\w'=w:=by
 by_cases d:a=b;·subst d;exact uS
 ·have f:(a==b)=false:=by simpa using d
  exact uS
theorem ybx (a b:Int) (w:World) : Calls Tryz.prog 190 #[.int .i64 6,.int .i64 a,.int .i64 b] w fun c w'=>c=.returned (.tuple #[.int .i64 (bits BinOp.and IntKind.i64 a b),.bool true])/\w'=w:=by
 exact uS
theorem op_none (e a b:Int) (d:(e<1\/9<e)) (w:World) : Calls Tryz.prog 190 #[.int .i64 e,.int .i64 a,.int .i64 b] w fun c w'=>c=.returned (.tuple #[.int .i64 0,.bool false])/\w'=w:=by
 rcases d with d | d
 all_goals
  exact uS
theorem yc2 (a b:Int) (w:World) : Calls Tryz.prog 190 #[.int .i64 7,.int .i64 a,.int .i64 b] w fun c w'=>c=.returned (.tuple #[.int .i64 (bits BinOp.or IntKind.i64 a b),.bool true])/\w'=w:=by
 exact uS
theorem ybw (a b:Int) (w:World) : Calls Tryz.prog 190 #[.int .i64 1,.int .i64 a,.int .i64 b] w fun c w'=>c=.returned (.tuple #[.int .i64 (wrap64 (a+b)),.bool true])/\w'=w:=by
 exact uS
theorem yb0 (a b:Int) (w:World) : Calls Tryz.prog 190 #[.int .i64 2,.int .i64 a,.int .i64 b] w fun c w'=>c=.returned (.tuple #[.int .i64 (wrap64 (a - b)),.bool true])/\w'=w:=by
 exact uS
theorem ybz (a b:Int) (w:World) : Calls Tryz.prog 190 #[.int .i64 3,.int .i64 a,.int .i64 b] w fun c w'=>c=.returned (.tuple #[.int .i64 (wrap64 (a*b)),.bool true])/\w'=w:=by
 exact uS
end Go.Proofs.YtbjppepjmcfkaaaGreatDoor.numOps
namespace Go.Proofs.YtbjppepjmcfkaaaGreatDoor.mac
open Go.RowKit
open numOps
def zbd (k:Int):List PanicEntry:=[{ v:=.iface 129 (.int .i64 k),recovered:=false }]
def opV (o a b:Int):Value:=match opF o a b with
 | none=>.tuple #[.int .i64 0,.bool false]
 | some x=>.tuple #[.int .i64 x,.bool true]
theorem oOp (c a b:Int) (w:World):Calls Tryz.prog 190 #[.int .i64 c,.int .i64 a,.int .i64 b] w fun n w'=>n=.returned (opV c a b)/\w'=w:=by
 unfold opV opF;by_cases e:c=1;·subst e;exact ybw a b w
 by_cases f:c=2;·subst f;exact yb0 a b w
 by_cases g:c=3;·subst g;exact ybz a b w
 by_cases h:c=4
 ·subst h;by_cases d:b=0;·subst d;exact ydy a w
  ·rw[ju e,ju f,ju g,jv rfl,ju d];exact op4 a b d w
 by_cases i:c=5
 ·subst i;by_cases d:b=0;·subst d;exact ydz a w
  ·rw[ju e,ju f,ju g,ju h,jv rfl,ju d];exact op5 a b d w
 by_cases j:c=6;·subst j;exact ybx a b w
 by_cases k:c=7;·subst k;exact yc2 a b w
 by_cases l:c=8;·subst l;exact zz7 a b w
 by_cases m:c=9;·subst m;exact zz8 a b w
 rw[ju e,ju f,ju g,ju h,ju i,ju j,ju k,ju l,ju m];exact op_none c a b oA w
def RkE (w:World) (o:Option Int) (e:Ending) (w':World):Prop :=
 w'=w/\match o with
  | none=>e=.panicked (zbd 2)
  | some x=>e=.returned (.int .i64 x)
theorem oReckon (d a b:Int) (w:World) : Calls Tryz.prog 173 #[.int .i64 d,.int .i64 a,.int .i64 b] w (RkE w (opF d a b)):=by
 have c:=oOp d a b w;unfold opV at c
 cases f:opF d a b with
 | none =>
  rw[f]at c;go_enter Tryz.func173,Tryz.ntmps173;go_wp2_with (go_at_call 190;refine c.mono ?_;rintro g h ⟨rfl,e⟩;obtain rfl:=e.symm)
  exact⟨rfl,rfl,rfl⟩
 | some i =>
  rw[f]at c;go_enter Tryz.func173,Tryz.ntmps173;go_wp2_with (go_at_call 190;refine c.mono ?_;rintro g h ⟨rfl,e⟩;obtain rfl:=e.symm);go_ret;exact⟨rfl,rfl⟩
end Go.Proofs.YtbjppepjmcfkaaaGreatDoor.mac
namespace Go.Proofs.YtbjppepjmcfkaaaGreatDoor.mdl
open Go.RowKit
open syn face mac chk
def ze6 (k:Int):List PanicEntry:=[{ v:=.iface 131 (.int .i64 k),recovered:=false }]
def zcy (c:Int) (ps:List PanicEntry):List PanicEntry:={ v:=.iface 129 (.int .i64 c),recovered:=false } :: ps
abbrev gV (e:Ending) (c:Int):Prop:=∃ps,(∀q∈ps,q.goexit=false)/\e=.panicked (zcy c ps)
theorem gV.new {c:Ending} {b:Int} (a:c=.panicked (zbd b)):gV c b:=⟨[],fun q a=>(by cases a),a⟩
abbrev MRs (p:Pl) (C:Cx) (w0:World) (lo hi:Value) (s:RS) (w:World):Prop:=∃d,MR p C w0 lo hi s d w
def Rs {α:Type} (p:Pl) (C:Cx) (w0:World) (lo hi:Value) (d:Nat) (X:Nat->Prop) (w:World) (val:α->Value) (T:α->World->Prop) (o:Out α) (e:Ending) (w':World):Prop:=match o with
 | .go x s=>e=.returned (val x)/\∃lo' hi',MR p C w0 lo' hi' s d w'/\FK p X lo hi lo' hi' w w'/\T x w'
 | .back v s=>e=.panicked (ze6 v)/\∃lo' hi',MR p C w0 lo' hi' s d w'/\FK p X lo hi lo' hi' w w'
 | .stop c s=>gV e c/\∃lo' hi',MRs p C w0 lo' hi' s w'/\FK p X lo hi lo' hi' w w'
 | .lost=>False
abbrev zrx:Unit->Value:=fun _=>.tuple #[]
theorem below_drewN (w:World):∀a,Below w.heap.size w (w.drewN a)
 | 0=>Below.refl _ _
 | a+1=>(below_drewN w a).drew
section
variable {p:Pl} {C:Cx} {w0 w:World} {lo hi:Value} {s:RS} {d:Nat} {X:Nat->Prop}
theorem MR.drewN (b:MR p C w0 lo hi s d w) (a:Nat):MR p C w0 lo hi s d (w.drewN a):=b.below (below_drewN w a)
theorem FK.drewN {w2:World} {lo' hi':Value} (b:FK p X lo hi lo' hi' w w2) (a:Nat):FK p X lo hi lo' hi' w (w2.drewN a):=b.below (below_drewN w2 a)
theorem uJ (X:Nat->Prop) (a:MR p C w0 lo hi s d w) (h:s.st<=1000):Calls Tryz.prog 140 #[.pointer (some ⟨p.R,2,none⟩)] w (Rs p C w0 lo hi d X w zrx (fun _ _=>True) (kP C.fuel s)):=by
 have i:=a.box.cell 7 (v:=natV s.st) rfl;have c:=a.box.cell 10 (v:=natV C.fuel) rfl;have f:=a.lt;have g:=p.rd;have fz:=a.box.fz 7;unfold kP;by_cases b:s.st=C.fuel
 ·rw[jv b];rw[<- b]at c;go_enter Tryz.func140,Tryz.ntmps140;go_wp2
  go_quiet (fail)
  go_wp2;exact⟨rfl,gV.new rfl,lo,hi,⟨_,a.drewN _⟩,(FK.refl ..).drewN _⟩
 ·rw[ju b];have e:((s.st:Int)==(C.fuel:Int))=false:=oE;go_enter Tryz.func140,Tryz.ntmps140;go_wp2
  go_quiet (fail)
  go_wp2
  go_end0
  exact⟨rfl,lo,hi,(a.drewN _).turn 7 _ (s':={ s with st:=s.st+1 }) (by simp[yQ]) rfl rfl rfl,((FK.refl ..).drewN _).turn 7 _,trivial⟩
theorem oReckon (X:Nat->Prop) (g:MR p C w0 lo hi s d w) (f a b:Int):Calls Tryz.prog 173 #[.int .i64 f,.int .i64 a,.int .i64 b] w (Rs p C w0 lo hi d X w intV (fun _ _=>True) (zO f a b s)):=by
 refine(mac.oReckon f a b w).mono fun h w' c=>?_
 unfold RkE at c;obtain⟨rfl,c⟩:=c;unfold zO;split at c;·rename_i e;rw[e];exact⟨gV.new c,lo,hi,⟨_,g⟩,FK.refl ..⟩
 ·rename_i i e;rw[e];exact⟨c,lo,hi,g,FK.refl ..,trivial⟩
def zcw (p:Pl) (w:World) (v:Value) (l:List Int):Prop:=∃a c,v=.slice a l.length c/\(l≠[]->∃g o,a=some ⟨g,o,none⟩/\Stc p g/\∀i (b:i<l.length),w.cell? ⟨g,o+i,none⟩=some (intV l[i]))
theorem oTake (X:Nat->Prop) (a:MR p C w0 lo hi s d w) (t:zcw p w0 p.il C.iL) (r:zcw p w0 p.ih C.iH) (M:C.iL.length<=1000) (L:C.iH.length<=1000) (T:s.uL<=C.iL.length) (V:s.uH<=C.iH.length) (j:Int) (x:j=0\/j=1) : Calls Tryz.prog 147 #[.pointer (some ⟨p.R,2,none⟩),.int .i64 j] w (Rs p C w0 lo hi d X w intV (fun _ _=>True) (takeF C j s)):=by
 have Q:=a.lt;have S:=p.rd;unfold takeF;obtain⟨W,a2,f,i⟩:=t;obtain⟨N,P,e,h⟩:=r;have z:=a.box.cell 5 (v:=natV s.uL) rfl;have B:=a.box.cell 6 (v:=natV s.uH) rfl;have D:=a.box.cell 8 (v:=p.il) rfl;have E:=a.box.cell 9 (v:=p.ih) rfl;have G:=a.box.fz 5;have K:=a.box.fz 6;rw[f]at D;rw[e]at E;have k:=show Hid _ from a
 rcases x with rfl | rfl
 ·rw[ju oD];by_cases c:s.uL=C.iL.length;·rw[List.getElem?_eq_none oA];rw[c]at z;clear i h f e c a;go_enter Tryz.func147,Tryz.ntmps147;exact zph
  ·have b:s.uL<C.iL.length:=oA;rw[List.getElem?_eq_getElem b];obtain⟨m,o,rfl,n,g⟩:=i (by intro l;rw[l]at b;simp at b);have q:=a.stc.cell (p:=⟨m,o+s.uL,none⟩) (g s.uL b) n;have u:((s.uL:Int)==(C.iL.length:Int))=false:=oE;clear h f e c a g;dsimp only;generalize C.iL[s.uL]=y at *;go_enter Tryz.func147,Tryz.ntmps147;go_wp2
   go_quiet (fail)
   go_wp2;go_ret;exact⟨rfl,lo,hi,(k.out.drewN _).turn 5 _ (s':={ s with uL:=s.uL+1 }) (by simp[yQ]) rfl rfl rfl,((FK.refl ..).drewN _).turn 5 _,trivial⟩
 ·rw[jv rfl];by_cases c:s.uH=C.iH.length
  ·rw[List.getElem?_eq_none oA];rw[c]at B;clear i h f e c a;go_enter Tryz.func147,Tryz.ntmps147;go_wp2
   go_quiet (fail)
   exact zph
  ·have b:s.uH<C.iH.length:=oA;rw[List.getElem?_eq_getElem b];obtain⟨m,o,rfl,n,g⟩:=h (by intro l;rw[l]at b;simp at b);have q:=a.stc.cell (p:=⟨m,o+s.uH,none⟩) (g s.uH b) n;have u:((s.uH:Int)==(C.iH.length:Int))=false:=oE;clear i f e c a g;dsimp only;generalize C.iH[s.uH]=y at *;go_enter Tryz.func147,Tryz.ntmps147;go_wp2
   go_quiet (fail)
   go_wp2
   go_quiet (fail)
   go_wp2;go_ret;exact⟨rfl,lo,hi,(k.out.drewN _).turn 6 _ (s':={ s with uH:=s.uH+1 }) (by simp[yQ]) rfl rfl rfl,((FK.refl ..).drewN _).turn 6 _,trivial⟩
end
theorem zqq:(Tryz.prog.info? 2).map (fun a=>(a.zero,a.size,a.bytes))=some (some (.int .i64 0),1,8):=oB
theorem info_parts {T:TypeId} {e:Option Value} {d b:Nat} (c:(Tryz.prog.info? T).map (fun a=>(a.zero,a.size,a.bytes))=some (e,d,b)):∃a,Tryz.prog.info? T=some a/\a.zero=e/\a.size=d/\a.bytes=b:=by
 cases hi:Tryz.prog.info? T with
 | none=>rw[hi]at c;cases c
 | some a =>
  rw[hi]at c;simp only[Option.map_some,jh,Prod.mk.injEq]at c;exact⟨a,rfl,c.1,c.2.1,c.2.2⟩
theorem zed (w:World) (u:Value) (T:TypeId):∀a c,[u][a]?=some c->(w.alloc (.cells #[u] T)).cell? ((⟨w.heap.size,0,none⟩:Addr).add a)=some c:=by
 intro a c b
 cases a with
 | zero=>simp at b;subst b;simp[Addr.add]
 | succ a=>simp at b
section
variable {p:Pl} {C:Cx} {w0 w w':World} {lo hi:Value} {s:RS} {d:Nat} {X:Nat->Prop}
variable {c e f:Nat}
theorem MR.lshape (f:MR p C w0 lo hi s d w):∃a c,lo=.slice a s.oL.length c:=by
 obtain⟨_,⟨b,e⟩|⟨i,g,h,b,_⟩⟩:=f.rl;·exact⟨none,0,by rw[b,e]⟩
 ·exact⟨_,_,b⟩
theorem MR.hshape (f:MR p C w0 lo hi s d w):∃a c,hi=.slice a s.oH.length c:=by
 obtain⟨_,⟨b,e⟩|⟨i,g,h,b,_⟩⟩:=f.rh;·exact⟨none,0,by rw[b,e]⟩
 ·exact⟨_,_,b⟩
theorem MR.pushL (a:MR p C w0 lo hi s d w) (i:Int) (m:w'.ownsRow (p.D+1) 2 1 (.slice (some ⟨c,0,none⟩) (s.oL.length+1) e) (s.oL.length+1) (s.oL.map intV++[intV i])) (h:w.grownBy w' lo.ownBlock) (o:lo.ownBlock=some c\/c=w.heap.size) : MR p C w0 (.slice (some ⟨c,0,none⟩) (s.oL.length+1) e) hi { s with oL:=s.oL++[i] } d (w'.setCell ⟨p.R,3,none⟩ (.slice (some ⟨c,0,none⟩) (s.oL.length+1) e)):=by
 have t:=(m.lt c rfl).1
 have l:hi.ownBlock≠some c:=fun f=>by
  rcases o with g | g
  ·exact a.ne c g f
  ·have:=(a.rh.lt _ f).2;omega
 have j:=(a.box.grown h a.loNe).set 3 (.slice (some ⟨c,0,none⟩) (s.oL.length+1) e)
 have r:w'.ownsRow (p.D+1) 2 1 hi s.oH.length (s.oH.map intV):=a.rh.kept h (by
  cases f:hi.ownBlock with
  | none=>exact .inl rfl
  | some b=>exact .inr fun g=>a.ne b g.symm f)
 refine⟨?_,a.sz,?_,r.kept (yD w' p.R 3 _) (.inr a.hiNe),fun b f g=>?_,(a.stc.grown h (fun v u f=>by have:=(a.rl.lt _ f).1;have:=a.sz;omega)).set (fun _ q=>q.2.1 rfl) _,fun i=>?_,a.one,(a.bx.grown h (fun f=>by have:=(a.rl.lt _ f).1;omega)).other (by have:=p.rd;omega) _⟩;·rw[show yQ p C (.slice (some ⟨c,0,none⟩) (s.oL.length+1) e) hi { s with oL:=s.oL++[i] } d=(yQ p C lo hi s d).setIfInBounds 3 (.slice (some ⟨c,0,none⟩) (s.oL.length+1) e) by simp[yQ]];exact j
 ·simp only[jb,jd,je,List.map_append,List.map_cons,List.map_nil];exact m.kept (yD w' p.R 3 _) (.inr (fun f=>by injection f with f;(have g:c=p.R:=f);have:=p.rd;omega))
 ·have n:c=b:=by injection f
  rw[n]at l;exact l g
 ·exact((a.wd i).kept (fun b j k=>h.block b (by have:=a.lt;omega) (fun f=>by have:=(a.rl.lt _ f.symm).1;omega))).kept (fun b j k=>jQ w' ⟨p.R,3,none⟩ _ b k)
theorem MR.pushH (a:MR p C w0 lo hi s d w) (i:Int) (m:w'.ownsRow (p.D+1) 2 1 (.slice (some ⟨c,0,none⟩) (s.oH.length+1) e) (s.oH.length+1) (s.oH.map intV++[intV i])) (h:w.grownBy w' hi.ownBlock) (o:hi.ownBlock=some c\/c=w.heap.size) : MR p C w0 lo (.slice (some ⟨c,0,none⟩) (s.oH.length+1) e) { s with oH:=s.oH++[i] } d (w'.setCell ⟨p.R,4,none⟩ (.slice (some ⟨c,0,none⟩) (s.oH.length+1) e)):=by
 have t:=(m.lt c rfl).1
 have l:lo.ownBlock≠some c:=fun f=>by
  rcases o with g | g
  ·exact a.ne c f g
  ·have:=(a.rl.lt _ f).2;omega
 have j:=(a.box.grown h a.hiNe).set 4 (.slice (some ⟨c,0,none⟩) (s.oH.length+1) e)
 have r:w'.ownsRow (p.D+1) 2 1 lo s.oL.length (s.oL.map intV):=a.rl.kept h (by
  cases f:lo.ownBlock with
  | none=>exact .inl rfl
  | some b=>exact .inr fun g=>a.ne b f g.symm)
 refine⟨?_,a.sz,r.kept (yD w' p.R 4 _) (.inr a.loNe),?_,fun b f g=>?_,(a.stc.grown h (fun v u f=>by have:=(a.rh.lt _ f).1;have:=a.sz;omega)).set (fun _ q=>q.2.1 rfl) _,fun i=>?_,a.one,(a.bx.grown h (fun f=>by have:=(a.rh.lt _ f).1;omega)).other (by have:=p.rd;omega) _⟩;·rw[show yQ p C lo (.slice (some ⟨c,0,none⟩) (s.oH.length+1) e) { s with oH:=s.oH++[i] } d=(yQ p C lo hi s d).setIfInBounds 4 (.slice (some ⟨c,0,none⟩) (s.oH.length+1) e) by simp[yQ]];exact j
 ·simp only[jb,jd,je,List.map_append,List.map_cons,List.map_nil];exact m.kept (yD w' p.R 4 _) (.inr (fun f=>by injection f with f;(have g:c=p.R:=f);have:=p.rd;omega))
 ·have n:c=b:=by injection g
  rw[n]at l;exact l f
 ·exact((a.wd i).kept (fun b j k=>h.block b (by have:=a.lt;omega) (fun f=>by have:=(a.rh.lt _ f.symm).1;omega))).kept (fun b j k=>jQ w' ⟨p.R,4,none⟩ _ b k)
theorem FK.pushL {w2:World} {lo' hi':Value} (g:FK p X lo hi lo' hi' w w2) (o:MR p C w0 lo' hi' s d w2) {i:World} (m:w2.grownBy i lo'.ownBlock) (l:lo'.ownBlock=some c\/c=w2.heap.size):FK p X lo hi (.slice (some ⟨c,0,none⟩) e f) hi' w i :=
 ⟨g.k.grown m (fun n q h ⟨_,_,k,_⟩=>by rcases g.ol n h with a | a;exact k a;omega),fun b h=>by
  have j:c=b:=by injection h
  subst j;rcases l with a | a
  ·exact g.ol _ a
  ·exact .inr (by have:=g.size;omega),g.oh⟩
theorem FK.pushH {w2:World} {lo' hi':Value} (g:FK p X lo hi lo' hi' w w2) (o:MR p C w0 lo' hi' s d w2) {i:World} (m:w2.grownBy i hi'.ownBlock) (l:hi'.ownBlock=some c\/c=w2.heap.size):FK p X lo hi lo' (.slice (some ⟨c,0,none⟩) e f) w i :=
 ⟨g.k.grown m (fun n q h ⟨_,_,_,k⟩=>by rcases g.oh n h with a | a;exact k a;omega),g.ol,fun b h=>by
  have j:c=b:=by injection h
  subst j;rcases l with a | a
  ·exact g.oh _ a
  ·exact .inr (by have:=g.size;omega)⟩
theorem ydx (X:Nat->Prop) (a:MR p C w0 lo hi s d w) (l c:Int) (K:l=0\/l=1) (T:s.oL.length<=1000) (V:s.oH.length<=1000) : Calls Tryz.prog 146 #[.pointer (some ⟨p.R,2,none⟩),.int .i64 l,.int .i64 c] w (Rs p C w0 lo hi d X w zrx (fun _ _=>True) (.go () (uN l c s))):=by
 obtain⟨z,t,u,x,y⟩:=info_parts zqq;have S:=a.lt;have W:=p.rd;have b:=a.alloc (.cells #[.int .i64 c] 2);have j:=(FK.refl p X lo hi w).alloc (.cells #[.int .i64 c] 2);unfold uN;rcases K with rfl | rfl
 ·rw[ju oD];obtain⟨L,M,f⟩:=a.lshape;have q:=a.box.cell 3 (v:=lo) rfl;have i:=b.rl;have h:=b.loNe;rw[f]at q i h;have e:=show Hid _ from b
  have m:=show Hid _ from j
  have n:=show Hid _ from f
  clear b j f a;go_enter Tryz.func146,Tryz.ntmps146;go_wp2_with (at_builtin;refine wpList_append_lies _ rfl (.tmp 25) (.tmp 27) 42 rfl (p.D+1) 2 z (.int .i64 0) 1 8 Tryz.underlying42 t u x y rfl oD _ _ _ rfl i ⟨w.heap.size,0,none⟩ 1 1 [.int .i64 c] rfl oC (zed w _ _) oU oA (by unfold maxLen;omega) oA oE _ rfl ?_;intro E B N o k r G;have g:=e.out.box.grown k h;have P:=g.cell 3 rfl;have Q:=g.fz 3)
  go_end0
  exact⟨rfl,_,_,e.out.pushL c o zem zen,(m.out.pushL e.out zem zen).turn 3 _,trivial⟩
 ·rw[jv rfl];obtain⟨L,M,f⟩:=a.hshape;have q:=a.box.cell 4 (v:=hi) rfl;have i:=b.rh;have h:=b.hiNe;rw[f]at q i h;have e:=show Hid _ from b
  have m:=show Hid _ from j
  have n:=show Hid _ from f
  clear b j f a;go_enter Tryz.func146,Tryz.ntmps146;go_wp2_with (at_builtin;refine wpList_append_lies _ rfl (.tmp 13) (.tmp 15) 42 rfl (p.D+1) 2 z (.int .i64 0) 1 8 Tryz.underlying42 t u x y rfl oD _ _ _ rfl i ⟨w.heap.size,0,none⟩ 1 1 [.int .i64 c] rfl oC (zed w _ _) oU oA (by unfold maxLen;omega) oA oE _ rfl ?_;intro E B N o k r G;have g:=e.out.box.grown k h;have P:=g.cell 4 rfl;have Q:=g.fz 4)
  go_end0
  exact⟨rfl,_,_,e.out.pushH c o zem zen,(m.out.pushH e.out zem zen).turn 4 _,trivial⟩
end
structure FrB (p:Pl) (B:Nat) (M:ByteArray) (l:Lc) (w:World):Prop where
 gt:p.D<B
 c0:w.cell? ⟨B,0,none⟩=some (.pointer (some ⟨p.R,0,none⟩))
 c1:w.cell? ⟨B,1,none⟩=some (.string M)
 cn:w.cell? ⟨B,42,none⟩=some (natV l.length)
 nm:∀i (h:i<l.length),w.cell? ⟨B,2+i*2,none⟩=some (.string l[i].1)
 vl:∀i (h:i<l.length),w.cell? ⟨B,2+i*2+1,none⟩=some (intV l[i].2)
 all:∀i,i<43->∃v,w.cell? ⟨B,i,none⟩=some v
 fz:∀i,w.frozen? ⟨B,i,none⟩=false
 le:l.length<=20
section
variable {p:Pl} {C:Cx} {w0 w w':World} {lo hi lo' hi':Value} {s:RS} {d B:Nat} {X:Nat->Prop} {M:ByteArray} {l:Lc}
theorem FrB.lt (a:FrB p B M l w):B<w.heap.size:=jS w _ a.c0
theorem FrB.kept (c:FrB p B M l w) (e:w'.heap[B]?=w.heap[B]?):FrB p B M l w':=by
 have d:∀b,w'.cell? ⟨B,b,none⟩=w.cell? ⟨B,b,none⟩:=fun b=>jN (a:=⟨B,b,none⟩) e
 have f:∀b,w'.frozen? ⟨B,b,none⟩=w.frozen? ⟨B,b,none⟩:=fun b=>jO (a:=⟨B,b,none⟩) e
 exact⟨c.gt,(d _).trans c.c0,(d _).trans c.c1,(d _).trans c.cn,fun b hi=>(d _).trans (c.nm b hi),fun b hi=>(d _).trans (c.vl b hi),fun b hi=>by obtain⟨v,g⟩:=c.all b hi;exact⟨v,(d _).trans g⟩,fun b=>(f _).trans (c.fz b),c.le⟩
theorem FrB.below (a:FrB p B M l w) (b:Below w.heap.size w w'):FrB p B M l w':=a.kept (b.block B a.lt)
theorem FrB.other (a:FrB p B M l w) {b o:Nat} (c:B≠b) (v:Value):FrB p B M l (w.setCell ⟨b,o,none⟩ v):=a.kept (jQ w ⟨b,o,none⟩ v B c)
theorem FrB.alloc (b:FrB p B M l w) (a:Obj):FrB p B M l (w.alloc a):=b.below (bal a)
theorem FrB.fk (a:FrB p B M l w) (d:FK p X lo hi lo' hi' w w') (e:¬X B) (b:lo.ownBlock≠some B) (c:hi.ownBlock≠some B):FrB p B M l w':=a.kept (d.k.block B a.lt ⟨a.gt,e,b,c⟩)
theorem zbn (w:World) (B b a:Nat) (v:Value) {u:Value} (e:w.cell? ⟨B,b,none⟩=some u):(w.setCell ⟨B,b,none⟩ v).cell? ⟨B,a,none⟩=if a=b then some v else w.cell? ⟨B,a,none⟩:=by
 by_cases c:a=b;·subst c;rw[jv rfl];exact jT _ _ _ e
 ·rw[ju c];exact jD _ _ _ _ (fun d=>c (by injection d with _ d _;exact d.symm))
theorem FrB.push (b:FrB p B M l w) (s:l.length<20) (c:ByteArray) (v:Int):FrB p B M (l++[(c,v)]) (((w.setCell ⟨B,2+l.length*2,none⟩ (.string c)).setCell ⟨B,2+l.length*2+1,none⟩ (intV v)).setCell ⟨B,42,none⟩ (natV (l.length+1))):=by
 obtain⟨t,n⟩:=b.all (2+l.length*2) oA;obtain⟨r,o⟩:=b.all (2+l.length*2+1) oA;have d:=fun a=>zbn w B (2+l.length*2) a (.string c) n
 have q:(w.setCell ⟨B,2+l.length*2,none⟩ (.string c)).cell? ⟨B,2+l.length*2+1,none⟩=some r:=by rw[d,ju oA];exact o
 have e:=fun a=>zbn _ B (2+l.length*2+1) a (intV v) q
 have m:((w.setCell ⟨B,2+l.length*2,none⟩ (.string c)).setCell ⟨B,2+l.length*2+1,none⟩ (intV v)).cell? ⟨B,42,none⟩=some (natV l.length):=by rw[e,ju oA,d,ju oA];exact b.cn
 have f:=fun a=>zbn _ B 42 a (natV (l.length+1)) m
 have g:∀a,a≠42->a≠2+l.length*2+1->a≠2+l.length*2->(((w.setCell ⟨B,2+l.length*2,none⟩ (.string c)).setCell ⟨B,2+l.length*2+1,none⟩ (intV v)).setCell ⟨B,42,none⟩ (natV (l.length+1))).cell? ⟨B,a,none⟩=w.cell? ⟨B,a,none⟩:=fun a i j k=>by rw[f,ju i,e,ju j,d,ju k]
 refine⟨b.gt,(g 0 oA oA oA).trans b.c0,(g 1 oA oA oA).trans b.c1,?_,fun a hi=>?_,fun a hi=>?_,fun a hi=>?_,fun a=>by simp[b.fz],oE⟩;·rw[f,jv rfl];simp
 ·simp only[jb,jd,je]at hi;by_cases h:a=l.length;·subst h;rw[f,ju oA,e,ju oA,d,jv rfl];simp
  ·rw[g _ oA oA oA,b.nm a oA,List.getElem_append_left oA]
 ·simp only[jb,jd,je]at hi;by_cases h:a=l.length;·subst h;rw[f,ju oA,e,jv rfl];simp
  ·rw[g _ oA oA oA,b.vl a oA,List.getElem_append_left oA]
 ·rw[f];split;·exact⟨_,rfl⟩
  ·rw[e];split;·exact⟨_,rfl⟩
   ·rw[d];split;·exact⟨_,rfl⟩
    ·exact b.all a hi
theorem FrB.put (b:FrB p B M l w) {c:Nat} (hi:c<l.length) (v:Int):FrB p B M (l.set c ((l.getD c (empty,0)).1,v)) (w.setCell ⟨B,2+c*2+1,none⟩ (intV v)):=by
 have g:=fun a=>zbn w B (2+c*2+1) a (intV v) (b.vl c hi)
 have i:=b.le;have f:∀a,a≠2+c*2+1->(w.setCell ⟨B,2+c*2+1,none⟩ (intV v)).cell? ⟨B,a,none⟩=w.cell? ⟨B,a,none⟩:=fun a h=>by rw[g,ju h]
 refine⟨b.gt,(f 0 oA).trans b.c0,(f 1 oA).trans b.c1,?_,fun a d=>?_,fun a d=>?_,fun a d=>?_,fun a=>by simp[b.fz],by simp;exact i⟩;·rw[List.length_set];exact(f 42 oA).trans b.cn
 ·rw[List.length_set]at d;rw[f _ oA,b.nm a d,List.getElem_set];split;·rename_i e;subst e;simp[d]
  ·rfl
 ·rw[List.length_set]at d;rw[g,List.getElem_set];by_cases e:a=c;·subst e;rw[jv rfl,jv rfl]
  ·rw[ju oA,ju (fun b=>e b.symm)];exact b.vl a d
 ·rw[g];split;·exact⟨_,rfl⟩
  ·exact b.all a d
end
end Go.Proofs.YtbjppepjmcfkaaaGreatDoor.mdl
namespace Go.Proofs
open Go.Shelf
def Tryz.laysCont_ren : Go.Shelf.Ren := ⟨fun | 144 => 137 | 143 => 172 | 219 => 189 | 217 => 150 | 225 => 203 | 224 => 204 | 267 => 205 | 266 => 176 | 314 => 225 | n => n, fun | 9 => 9 | 4 => 4 | 3 => 3 | 5 => 5 | 46 => 242 | 146 => 270 | 51 => 269 | n => n, fun | 1 => 0 | n => n⟩
theorem Tryz.laysCont : Go.Proofs.Lays.n144 Tryz.prog Tryz.laysCont_ren := {
  mixed := by kernel_rfl
  f143 := Tryz.func172.trans (congrArg some (by kernel_rfl))
  f144 := Tryz.func137.trans (congrArg some (by kernel_rfl))
  f217 := Tryz.func150.trans (congrArg some (by kernel_rfl))
  f219 := Tryz.func189.trans (congrArg some (by kernel_rfl))
  f224 := Tryz.func204.trans (congrArg some (by kernel_rfl))
  f225 := Tryz.func203.trans (congrArg some (by kernel_rfl))
  f266 := Tryz.func176.trans (congrArg some (by kernel_rfl))
  f267 := Tryz.func205.trans (congrArg some (by kernel_rfl))
  f314 := Tryz.func225.trans (congrArg some (by kernel_rfl))
  t3 := Tryz.underlying3
  a3 := Tryz.isAgg3
  z3 := Tryz.sizeOf3
  v3 := Tryz.zeroValue3
  t4 := Tryz.underlying4
  a4 := Tryz.isAgg4
  z4 := Tryz.sizeOf4
  v4 := Tryz.zeroValue4
  t5 := Tryz.underlying5
  a5 := Tryz.isAgg5
  z5 := Tryz.sizeOf5
  v5 := Tryz.zeroValue5
  t9 := Tryz.underlying9
  a9 := Tryz.isAgg9
  z9 := Tryz.sizeOf9
  v9 := Tryz.zeroValue9
  t46 := Tryz.underlying242
  a46 := Tryz.isAgg242
  z46 := Tryz.sizeOf242
  v46 := Tryz.zeroValue242
  t51 := Tryz.underlying269
  a51 := Tryz.isAgg269
  z51 := Tryz.sizeOf269
  v51 := Tryz.zeroValue269
  t146 := Tryz.underlying270
  a146 := Tryz.isAgg270
  z146 := Tryz.sizeOf270
  v146 := Tryz.zeroValue270
  g1 := by kernel_rfl }
end Go.Proofs
namespace Go.Proofs.YtbjppepjmcfkaaaGreatDoor.mdl
open Go.RowKit Go.Shelf
open syn face mac chk
theorem zv2 (a:ByteArray) (w:World):Calls Tryz.prog 137 #[.string a,.string ⟨#[46]⟩] w fun c w'=>c=.returned (.bool (a.data.toList.contains 46))/\w'=w:=by
 have b:=Any.strings_Contains_one Tryz.laysCont a 46 w;rw[<- Lib.contains_iff_indexByte]at b;exact b
theorem zcx (a b:ByteArray) (w:World) (f:a.size+b.size<=100000):Calls Tryz.prog 107 #[.string a,.string b] w fun e w'=>e=.returned (.string (qO a b))/\w'=w:=by
 have d:=zv2 a w;unfold qO
 cases c:a.data.toList.contains 46 with
 | true =>
  rw[c]at d;rw[jv rfl];clear c
  exact zpf
 | false =>
  rw[c]at d;rw[ju oD];clear c;have h:b.size+1+a.size<=maxLen:=by unfold maxLen;omega
  have i:b.size+1<=maxLen:=by unfold maxLen;omega
  exact zpf
end Go.Proofs.YtbjppepjmcfkaaaGreatDoor.mdl
namespace Go.Proofs.YtbjppepjmcfkaaaGreatDoor.mdl
open Go.RowKit Go.Maps Go.WideMaps
open syn face mac chk
section
variable {p:Pl} {C:Cx} {w0 w w':World} {lo hi lo' hi':Value} {s:RS} {d B:Nat} {X:Nat->Prop} {M:ByteArray} {l:Lc}
theorem zr7 (g:MR p C w0 lo hi s d w) (a:FrB p B M l w) (b:lo.ownBlock≠some B) (c:hi.ownBlock≠some B) (k:l.length<20) (f:ByteArray) (v:Int) : Calls Tryz.prog 67 #[.pointer (some ⟨B,0,none⟩),.string f,.int .i64 v] w fun j w'=>j=.returned (.tuple #[])/\MR p C w0 lo hi s d w'/\FK p (·=B) lo hi lo hi w w'/\FrB p B M (l++[(f,v)]) w':=by
 have m:=a.cn;have e:=a.gt;have fz:=a.fz;obtain⟨t,q⟩:=a.all (2+l.length*2) oA;obtain⟨u,r⟩:=a.all (2+l.length*2+1) oA;have i:=show Hid _ from g
 have h:=show Hid _ from a
 have o:(l.length:Int)<20:=oA;clear g;go_enter Tryz.func67,Tryz.ntmps67;go_wp2;go_region;go_wp2
 go_end0
 have n:B≠p.R:=by have:=p.rd;omega
 refine⟨rfl,(((i.out.side e b c _ _).side e b c _ _).side e b c _ _).drew,((((FK.refl p (·=B) lo hi w).side (.inl rfl) _ _).side (.inl rfl) _ _).side (.inl rfl) _ _).drew,?_⟩
 exact(h.out.push k f v).below (Below.refl _ _).drew
theorem zc4:∀ {l:Lc} {c:ByteArray},gH l c=none->∀a (b:a<l.length),eqS l[a].1 c=false
 | [],_,_,a,b=>by simp at b
 | q :: r,c,e,a,b=>by
  unfold gH at e;split at e;·cases e
  ·rename_i d;split at e;·cases e
   ·rename_i f
    cases a with
    | zero=>simpa using f
    | succ a=>exact zc4 d a (by simpa using b)
theorem zak:∀ {l:Lc} {d:ByteArray} {b:Nat},gH l d=some b->∃i:b<l.length,eqS l[b].1 d=true/\∀c (i:c<l.length),b<c->eqS l[c].1 d=false
 | [],_,_,e=>by cases e
 | q :: r,d,b,e=>by
  unfold gH at e;split at e
  ·rename_i c f;cases e;obtain⟨j,k,m⟩:=zak f;refine⟨by simpa using j,by simpa using k,fun a g n=>?_⟩
   cases a with
   | zero=>omega
   | succ a=>exact m a (by simpa using g) oA
  ·rename_i f;split at e
   ·rename_i h;cases e;refine⟨oC,by simpa using h,fun a g n=>?_⟩
    cases a with
    | zero=>omega
    | succ a=>exact zc4 f a (by simpa using g)
   ·cases e
def vfV (p:Pl) (x:ByteArray):Value:=(p.vf x).getD (.slice none 0 0)
def WdP (p:Pl) (B:Nat):Wd->Value->Prop
 | .loc i,a=>a=.pointer (some ⟨B,2+i*2+1,none⟩)
 | .var x i,a=>∃b n c,p.vf x=some (.slice (some ⟨b,0,none⟩) n c)/\a=.pointer (some ⟨b,i,none⟩)
def WdE (p:Pl) (B:Nat) (w:World) (q:Option Wd) (e:Ending) (w':World):Prop:=Below w.heap.size w w'/\match q with
 | none=>e=.panicked (zbd 3)
 | some q=>∃a,e=.returned a/\WdP p B q a
end
def Dr (a w:World):Prop:=∃n,w=a.drewN n
theorem Dr.refl (a:World):Dr a a:=⟨0,by first | rfl | simp⟩
theorem Dr.more {a w:World} (c:Dr a w) (b:Nat):Dr a (w.drewN b):=by
 obtain⟨d,rfl⟩:=c;exact⟨d+b,oC⟩
theorem kI.same {w w':World} {b c:Nat} {a:ByteArray->Option Value} (h:kI w b c a) (f:w'.heap[b]?=w.heap[b]?):kI w' b c a:=by
 obtain⟨D,⟨g,e,k,d,l,j⟩,i⟩:=h;exact⟨D,⟨g,e,f.trans k,d,l,j⟩,i⟩
theorem zeroS (w:World):(zeroValue 42).run Tryz.prog w=.ok (.slice none 0 0) w:=oB
theorem zxw {w:World} {b n:Nat} {c:ByteArray->Option Value} (d:kI w b n c) (a:ByteArray) (m:a.size<=maxLen):(Instr.lookup 74 (.map (some b)) (.string a) false).run Tryz.prog w=.ok ((c a).getD (.slice none 0 0)) w:=by
 obtain⟨D,d,i⟩:=d;obtain⟨v,ps,k,l⟩:=d.lookup vE Tryz.underlying74 (zeroS w) (zd:=.held (.slice none 0 0)) (zp:=[]) rfl (keyOf_string_mk Tryz.underlying9 m);rw[k];obtain⟨e,j⟩:=i a
 have h:D.atKey (qM a) (.held (.slice none 0 0))=.held ((c a).getD (.slice none 0 0)):=by
  cases f:c a with
  | none=>rw[f]at e;exact atKey_of_not_has e _
  | some u=>exact j u f _
 have g:fR v=some (D.atKey (qM a) (.held (.slice none 0 0)),ps):=l;rw[h]at g;rw[zas g]
section
variable {p:Pl} {C:Cx} {w0 w w':World} {lo hi lo' hi':Value} {s:RS} {d B:Nat} {X:Nat->Prop} {M:ByteArray} {l:Lc}
theorem zu4 (w:World) (x0 x1 x2 x3:Value) (T:TypeId) (a:Nat):((w.alloc (.cells #[x0,x1,x2,x3] T)).drewN a).cell? ⟨w.heap.size,0,none⟩=some x0/\((w.alloc (.cells #[x0,x1,x2,x3] T)).drewN a).cell? ⟨w.heap.size,1,none⟩=some x1/\((w.alloc (.cells #[x0,x1,x2,x3] T)).drewN a).cell? ⟨w.heap.size,2,none⟩=some x2/\((w.alloc (.cells #[x0,x1,x2,x3] T)).drewN a).cell? ⟨w.heap.size,3,none⟩=some x3:=by
 have c:=below_drewN (w.alloc (.cells #[x0,x1,x2,x3] T)) a;have b:=fun (e:Nat) (v:Value) (d:(w.alloc (.cells #[x0,x1,x2,x3] T)).cell? ⟨w.heap.size,e,none⟩=some v)=>mac.keep d c
 exact⟨b 0 _ oC,b 1 _ oC,b 2 _ oC,b 3 _ oC⟩
theorem zxs {l:Lc} {d:ByteArray} {a:Nat} (f:a<l.length) (c:eqS l[a].1 d=true) (m:∀k (n:k<l.length),a<k->eqS l[k].1 d=false):gH l d=some a:=by
 cases e:gH l d with
 | none=>rw[zc4 e a f]at c;cases c
 | some h =>
  obtain⟨i,g,j⟩:=zak e;rcases Nat.lt_trichotomy a h with b | b | b
  ·rw[m h i b]at g;cases g
  ·rw[b]
  ·rw[j a f b]at c;cases c
theorem zxt {l:Lc} {a:ByteArray} (e:∀k (g:k<l.length),eqS l[k].1 a=false):gH l a=none:=by
 cases c:gH l a with
 | none=>rfl
 | some f =>
  obtain⟨d,b,_⟩:=zak c;rw[e f d]at b;cases b
theorem zin (m:MR p C w0 lo hi s d w) (V:kI w0 p.vb p.vn p.vf) (az:Stc p p.vb) (D:FrB p B M l w) (h i:Int) (e:ByteArray) (S:List Tree) (a:Option Addr) (o k:Nat) (aQ:e.size<=1000) (aG:M.size<=1000) (g:Int) : Calls Tryz.prog 143 #[.pointer (some ⟨B,0,none⟩),.agg #[.int .i64 h,.string e,.int .i64 i,.slice a o k],.int .i64 g] w (WdE p B w (zL M l (.node h e i S) g s)):=by
 have aJ:=D.gt;have aN:=D.le;have aO:=D.lt;have am:=show Hid _ from @zc4 l e
 have HS:=show Hid _ from @zak l e
 have ak:=show Hid _ from m
 have ah:=show Hid _ from D
 have an:Hid (∀w',Kept (Stc p) w0 w'->kI w' p.vb p.vn p.vf):=fun w' aA=>kI.same V (aA.block _ V.lt az)
 have T:Hid (∀j,Below w.heap.size w ((w.alloc (.cells #[.int .i64 h,.string e,.int .i64 i,.slice a o k] 25)).drewN j)):=fun j=>(bal _).trans ((below_drewN _ j).mono oC)
 have af:=show Hid _ from zu4 w (.int .i64 h) (.string e) (.int .i64 i) (.slice a o k) 25
 have ap:=show Hid _ from m.wd
 obtain⟨q,a3⟩:∃q,q=zL M l (.node h e i S) g s:=⟨_,rfl⟩
 rw[<- a3];have a7:=show Hid _ from a3
 have ar:=(D.alloc (.cells #[.int .i64 h,.string e,.int .i64 i,.slice a o k] 25)).cn;clear m D V a3;go_enter Tryz.func143,Tryz.ntmps143;go_wp2;go_loopw [7] (fun v wr=>∃x:Nat,x<=l.length/\v=.int .i64 ((x:Int) - 1)/\Dr (w.alloc (.cells #[.int .i64 h,.string e,.int .i64 i,.slice a o k] 25)) wr/\Hid (∀c (m:c<l.length),x<=c->eqS l[c].1 e=false)) (fun v _=>(intOf v+1).toNat)
 case atStart=>exact⟨l.length,jE _,by first | rfl | simp,Dr.refl _,fun c m a9=>oA⟩
 case round =>
  obtain⟨x,aM,rfl,aa,L⟩:=hrel;have ag:=show Hid _ from aa
  obtain⟨y,rfl⟩:=aa;obtain⟨aS,aT,aU,aV⟩:=af.out y;have P:=ah.out.below (T.out y);have Q:=ak.out.below (T.out y);have aB:=show Hid _ from Q
  have z:=show Hid _ from T.out y
  have aC:=P.c0;have aD:=P.c1;have av:=show Hid _ from P.nm
  have aE:=Q.box.cell 0 (v:=.map (some p.vb)) rfl;have aj:Hid (∀j (f:ByteArray),f.size<=maxLen->(Instr.lookup 74 (.map (some p.vb)) (.string f) false).run Tryz.prog (((w.alloc (.cells #[.int .i64 h,.string e,.int .i64 i,.slice a o k] 25)).drewN y).drewN j)=.ok (vfV p f) (((w.alloc (.cells #[.int .i64 h,.string e,.int .i64 i,.slice a o k] 25)).drewN y).drewN j)):=fun j f a5=>zxw (an.out _ (Q.stc.below (below_drewN _ j))) f a5
  clear P Q ar;generalize (w.alloc (.cells #[.int .i64 h,.string e,.int .i64 i,.slice a o k] 25)).drewN y=W at *;by_cases ac:x=0
  ·subst ac;have ae:gH l (textOf (.node h e i S))=none:=zxt (fun a6 a2=>L.out a6 a2 (jz _))
   have n:q=if g<0\/((s.vs (qO e M)).length:Int)<=g then none else some (.var (qO e M) g.toNat):=by
    rw[a7.out];unfold zL;rw[ae];rfl
   have ab:=fun W'=>zcx e M W' oA
   have a5:(qO e M).size<=maxLen:=by
    unfold qO;split;·unfold maxLen;omega
    ·have au:(⟨#[46]⟩:ByteArray).size=1:=rfl;rw[ByteArray.size_append,ByteArray.size_append,au];unfold maxLen;omega
   have G:=fun j=>aj.out j _ a5
   have E:=ap.out (qO e M);clear L ae am HS;generalize qO e M=f at *;unfold uD at E;unfold vfV at G
   cases K:p.vf f with
   | none =>
    rw[K]at E G;dsimp only[Option.getD_none]at G
    have r:Hid (q=none):=by
     show q=none;rw[n,jv];rw[E];simp;omega
    clear n E K;by_cases ad:g<0;·go_wp2;exact zej
    ·have aP:(0:Int)<=g:=oA;go_wp2
     exact zej
   | some u =>
    rw[K]at E G;dsimp only[Option.getD_some]at G;obtain⟨b,rfl,aI,_,aF⟩:=E;have ao:Hid (p.vf f=some (.slice (some ⟨b,0,none⟩) (s.vs f).length (s.vs f).length)):=K;generalize (s.vs f).length=N at *;clear K;by_cases ad:g<0
    ·have r:Hid (q=none):=by show q=none;rw[n,jv (.inl ad)]
     clear n;go_wp2;exact zej
    ·by_cases ay:(N:Int)<=g
     ·have r:Hid (q=none):=by show q=none;rw[n,jv (.inr ay)]
      clear n;go_wp2;exact zej
     ·have r:Hid (q=some (.var f g.toNat)):=by show q=_;rw[n,ju oA]
      obtain⟨c,rfl⟩:∃c:Nat,g=(c:Int):=⟨g.toNat,oA⟩
      have aH:c<N:=oA;clear n;go_wp2
      go_quiet (first | (go_at_call 107;refine Calls.quiet_of_same (ab _)))
      go_wp2;go_ret;rw[r.out];exact⟨z.out.trans ((below_drewN _ _).mono z.out.size),_,rfl,b,N,N,ao.out,oC⟩
  ·obtain⟨c,rfl⟩:∃c,x=c+1:=⟨x - 1,oA⟩
   have a8:((c+1:Nat):Int) - 1=(c:Int):=oA;rw[a8];have aR:=av.out c oA;have aL:(c:Int)<20:=oA;have aK:(0:Int)<=(c:Int):=oA;clear a8 ac
   cases R:eqS l[c].1 e with
   | true =>
    have r:Hid (q=some (.loc c)):=by
     show q=_;rw[a7.out];unfold zL;rw[show gH l (textOf (.node h e i S))=some c from zxs oA R (fun a6 a2 aw=>L.out a6 a2 oA)]
    unfold eqS at R;generalize l[c].1=f at *;go_wp2
    go_quiet (fail)
    go_wp2;go_ret;rw[r.out]
    exact⟨z.out.trans ((below_drewN _ _).mono z.out.size),_,rfl,rfl⟩
   | false =>
    have ai:Hid (∀t (m:t<l.length),c<=t->eqS l[t].1 e=false):=fun t a9 aw=>by
     rcases jM c t with ax | ax
     ·exact L.out t a9 oA
     ·obtain rfl:t=c:=oA;exact R
    unfold eqS at R;generalize l[c].1=f at *;go_wp2
    go_quiet (fail)
    go_wp2;go_roundw
    case rel=>exact⟨c,oA,oM,Dr.more ag.out _,ai⟩
    case measure=>simp[intOf]<;>omega
end
end Go.Proofs.YtbjppepjmcfkaaaGreatDoor.mdl
