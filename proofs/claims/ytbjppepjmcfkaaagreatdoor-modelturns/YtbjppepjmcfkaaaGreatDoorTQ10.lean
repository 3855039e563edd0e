/- Statements: what they leave, how far they reach, and labels. No Go in sight. -/
import Derived.Test.YtbjppepjmcfkaaaGreatDoorTQr
import Derived.Shelf.Strings.Cut
import Derived.Maps.OwnIn
import Derived.Test.YtbjppepjmcfkaaaGreatDoorTQ05
import Derived.Lib.BufferOwn
set_option maxHeartbeats 4000000
set_option linter.unusedVariables false
set_option linter.unusedSimpArgs false
set_option maxRecDepth 100000
namespace Go.Proofs.YtbjppepjmcfkaaaGreatDoor
theorem zmg {p:Prop} (f:p:=by
 simp[results,Tryz.results183,go_sem,ci,cj,ck,cm,cn,co,zN]):p:=f
theorem zl7 {p:Prop} (f:p:=by
 injection aJ with aJ _ ee2;obtain rfl:=aJ;obtain rfl:=ee2;obtain⟨_,_,b1,_,a6⟩:=cf.below B;injection b1 with b1 _ ee4;obtain rfl:=b1;obtain rfl:=ee4;have aQ:b<e.length:=by rw[az];exact y
 obtain⟨e5,ej,rfl,c7⟩:=bi (by intro c;rw[c]at aQ;simp at aQ);obtain⟨e6,ek,rfl,c8⟩:=a6 (by intro c;rw[c]at y;simp at y);have dh:=c7 b aQ;have di:=c8 b y;have N:=dT at_ ps[b] [e[b]] (.slice (some ⟨wr.heap.size,0,none⟩) 1 1) (wr.alloc (.cells #[.int .i64 e[b]] 3)) (zb6 _ _);have HS:Hid (xV ps e=(zA ps[b] [e[b]]&&xV (ps.drop (b+1)) (e.drop (b+1)))):=W.out.trans (ztk y aQ);clear c7 c8 bi a6 W;generalize ps[b]=dj at *;generalize e[b]=bm at *;cases P:zA dj [bm]
 ·have G:Hid (K=.bad 7 at_):=by
   show _=_;rw[ag.out];have bK:=HS.out;rw[P,Bool.false_and]at bK;simp[az,bK]
  have a3:=N.mono (R':=fun c w'=>c=.panicked (qG 7 at_)/\w'=wr.alloc (.cells #[.int .i64 bm] 3)) (fun c w' f=>by
   rcases f with⟨x,_⟩|⟨_,S⟩
   ·rw[P]at x;cases x
   ·exact S)
  exact zmc
 ·have af:Hid (xV ps e=xV (ps.drop (b+1)) (e.drop (b+1))):=by
   show _=_;rw[HS.out,P,Bool.true_and]
  have a3:=N.mono (R':=fun c w'=>c=.returned (.tuple #[])/\w'=wr.alloc (.cells #[.int .i64 bm] 3)) (fun c w' f=>by
   rcases f with⟨_,S⟩|⟨x,_⟩
   ·exact S
   ·rw[P]at x;cases x)
  clear N;go_wp2_with (go_at_call 158;refine a3.mono ?_;rintro c r ⟨rfl,V⟩;rw[V])
  exact⟨⟨b+1,oA,oC,af,b9.out.alloc b9.out.size _⟩,by simp[intOf];omega⟩):p:=f
theorem zma {p:Prop} (f:p:=by
 have a3:=N.mono (R':=fun c w'=>c=.panicked (qG 7 at_)/\w'=wr.alloc (.cells #[.int .i64 g] 3)) (fun c w' f=>by
  rcases f with⟨x,_⟩|⟨_,S⟩
  ·rw[P]at x;cases x
  ·exact S)
 exact zmc):p:=f
theorem zmb {p:Prop} (f:p:=by
 exact CL.mkOk G.out rfl ((((((bS.other a8 a9 aa ab _).other a8 a9 aa ab _).other a8 a9 aa ab _).other a8 a9 aa ab _).other a8 a9 aa ab _).other a8 a9 aa ab _) (fN (fN (fN (fN (fN (fN bR ac _) ac _) ac _) ac _) ac _) ac _)):p:=f
theorem zmc {p:Prop} (f:p:=by
 clear N;go_wp2_with (go_at_call 158;refine a3.mono ?_;rintro c r ⟨rfl,V⟩;rw[V])
 exact⟨rfl,CL.mkBad G.out (b7.alloc _).bs⟩):p:=f
theorem zmd {p:Prop} (f:p:=by
 rw[c]
 exact⟨b7.alloc _,(bP.trans (Fr.below B)).alloc _,(aN.below B).alloc _,(bX.below B).alloc _⟩):p:=f
theorem zdp {p:Prop} (f:p:=by
 show _=_;rw[ag.out]
 simp[az,af.out,P]):p:=f
theorem zmh {p:Prop} (h:p:=by
 simp only[jy]at d;subst d;exact e):p:=h
theorem zme {p:Prop} (z:p:=by
 rcases jM b e with bj | bj
 ·exact Q.out b hi bj
 ·obtain rfl:b=e:=oA
  exact ag.trans ah):p:=z
theorem zmf {p:Prop} (z:p:=by
 exact⟨⟨e+1,oA,oC,bb,aw.out.alloc aw.out.size _⟩,by simp[intOf];omega⟩):p:=z
theorem zl8 {p:Prop} (l:p:=by
 have B:Hid (s=.ok (v,a6,aR)):=by
  show _=_;rw[ai.out];simp[z,L]
 go_wp2_with first
  | (go_at_call 198;refine ap.mono ?_;rintro d ag ⟨f,m⟩;obtain rfl:d=.returned (qE v):=m;unfold qE;obtain⟨ab,ac,ad,ae⟩:=id (Q4.below a2 f);obtain⟨bc,be,bf,bg,k⟩:=(x.below f x.lt).cells;have bh:=k 0;have bi:=k 1;have bj:=k 2;have bm:=k 3;clear k;have C:=(j.below f).put4 (b:=w.heap.size+1) oA oA (fun d=>by have:=aw _ d;omega) oA (.string v.name) (.bool v.pub) (.int .i64 v.label) (.int .i64 v.size);have aI:=zg8 (b:=w.heap.size+1) (am.trans (Fr.below f)) oA (.string v.name) (.bool v.pub) (.int .i64 v.label) (.int .i64 v.size))
  | (go_at_call 128;refine(vO 3 at_ _).mono ?_;rintro d bb ⟨rfl,ax⟩;rw[ax])
 refine jU (v:=.tuple #[qE v,.int .i64 a6]) (zyh _ _ (((x.below f x.lt).put v).put v)) rfl ?_
 exact PL.mkOk B.out rfl (C.put4 (b:=w.heap.size+1) oA oA (fun d=>by have:=aw _ d;omega) oA _ _ _ _) (zg8 aI oA _ _ _ _)):p:=l
theorem zl9 {p:Prop} (l:p:=by
 have B:Hid (s=.bad 3 at_):=by
  show _=_;rw[ai.out];simp[z,L]
 go_wp2_with first
  | (go_at_call 198;refine ap.mono ?_;rintro d ag ⟨f,m⟩;obtain rfl:d=.returned (qE v):=m;unfold qE;obtain⟨ab,ac,ad,ae⟩:=id (Q4.below a2 f);obtain⟨bc,be,bf,bg,k⟩:=(x.below f x.lt).cells;have bh:=k 0;have bi:=k 1;have bj:=k 2;have bm:=k 3;clear k;have C:=(j.below f).put4 (b:=w.heap.size+1) oA oA (fun d=>by have:=aw _ d;omega) oA (.string v.name) (.bool v.pub) (.int .i64 v.label) (.int .i64 v.size);have aI:=zg8 (b:=w.heap.size+1) (am.trans (Fr.below f)) oA (.string v.name) (.bool v.pub) (.int .i64 v.label) (.int .i64 v.size))
  | (go_at_call 128;refine(vO 3 at_ _).mono ?_;rintro d bb ⟨rfl,ax⟩;rw[ax])
 exact⟨rfl,PL.mkBad B.out C.bs⟩):p:=l
end Go.Proofs.YtbjppepjmcfkaaaGreatDoor
namespace Go.Proofs
open Go.Shelf
def Tryz.laysCut_ren : Go.Shelf.Ren := ⟨fun | 145 => 230 | 220 => 234 | 219 => 189 | 217 => 150 | 225 => 203 | 224 => 204 | 267 => 205 | 266 => 176 | 314 => 225 | n => n, fun | 9 => 9 | 4 => 4 | 59 => 267 | 3 => 3 | 5 => 5 | 46 => 242 | 146 => 270 | 51 => 269 | n => n, fun | 1 => 0 | n => n⟩
theorem Tryz.laysCut : Go.Proofs.Lays.n145 Tryz.prog Tryz.laysCut_ren := {
  mixed := by kernel_rfl
  f145 := Tryz.func230.trans (congrArg some (by kernel_rfl))
  f217 := Tryz.func150.trans (congrArg some (by kernel_rfl))
  f219 := Tryz.func189.trans (congrArg some (by kernel_rfl))
  f220 := Tryz.func234.trans (congrArg some (by kernel_rfl))
  f224 := Tryz.func204.trans (congrArg some (by kernel_rfl))
  f225 := Tryz.func203.trans (congrArg some (by kernel_rfl))
  f266 := Tryz.func176.trans (congrArg some (by kernel_rfl))
  f267 := Tryz.func205.trans (congrArg some (by kernel_rfl))
  f314 := Tryz.func225.trans (congrArg some (by kernel_rfl))
  t3 := Tryz.underlying3
  a3 := Tryz.isAgg3
  z3 := Tryz.sizeOf3
  v3 := Tryz.zeroValue3
  t4 := Tryz.underlying4
  a4 := Tryz.isAgg4
  z4 := Tryz.sizeOf4
  v4 := Tryz.zeroValue4
  t5 := Tryz.underlying5
  a5 := Tryz.isAgg5
  z5 := Tryz.sizeOf5
  v5 := Tryz.zeroValue5
  t9 := Tryz.underlying9
  a9 := Tryz.isAgg9
  z9 := Tryz.sizeOf9
  v9 := Tryz.zeroValue9
  t46 := Tryz.underlying242
  a46 := Tryz.isAgg242
  z46 := Tryz.sizeOf242
  v46 := Tryz.zeroValue242
  t51 := Tryz.underlying269
  a51 := Tryz.isAgg269
  z51 := Tryz.sizeOf269
  v51 := Tryz.zeroValue269
  t59 := Tryz.underlying267
  a59 := Tryz.isAgg267
  z59 := Tryz.sizeOf267
  v59 := Tryz.zeroValue267
  t146 := Tryz.underlying270
  a146 := Tryz.isAgg270
  z146 := Tryz.sizeOf270
  v146 := Tryz.zeroValue270
  g1 := by kernel_rfl }
end Go.Proofs
namespace Go.Proofs.YtbjppepjmcfkaaaGreatDoor.chk
open Go.RowKit
open syn face
def uV (w:World):Prop:=∃m:Int,w.cell? ⟨Tryz.laysCut_ren.g 1,0,none⟩=some (.int .i64 m)
theorem zbl {w w':World} (a:uV w) (b:Below w.heap.size w w'):uV w':=by
 obtain⟨c,a⟩:=a;exact⟨c,keep a b⟩
theorem zxh:∀b:List UInt8,(∀a∈b,a≠46)->Lib.index b [46] = -1
 | b,h=>Lib.index_none (fun c g=>by
  unfold Lib.occAt
  cases e:b.drop c with
  | nil=>rfl
  | cons a f =>
   have d:a∈b:=List.mem_of_mem_drop (i:=c) (by rw[e];exact jJ);have:=h a d;show((46:UInt8)==a&&List.isPrefixOf [] f)=false;rw[beq_false_of_ne (Ne.symm this)]
   rfl)
theorem zxg (a e:List UInt8) (f:∀b∈a,b≠46):Lib.index (a++46 :: e) [46]=a.length :=
 Lib.index_first (i:=a.length) oC (by
  unfold Lib.occAt
  simp) (fun d h=>by
  unfold Lib.occAt;rw[List.drop_append_of_le_length oA]
  cases c:a.drop d with
  | nil =>
   have:=congrArg List.length c;simp at this
   omega
  | cons b j =>
   have g:b∈a:=List.mem_of_mem_drop (i:=d) (by rw[c];exact jJ);have:=f b g;show((46:UInt8)==b&&List.isPrefixOf [] _)=false;rw[beq_false_of_ne (Ne.symm this)]
   rfl)
theorem zqv (b:ByteArray) (w:World) (k:qL b) (i:uV w) : Calls Tryz.prog 222 #[.string b] w fun e w'=>e=.returned (.tuple #[.string (zT b),.string (vL b)])/\Below w.heap.size w w':=by
 obtain⟨n,i⟩:=i;have c:=Any.strings_Cut Tryz.laysCut b ⟨#[46]⟩ n w (by have:=long_size k;omega) i;rw[show((⟨#[46]⟩:ByteArray).data.toList)=[46] from rfl]at c;rcases zfu k with⟨f,j,g⟩|⟨a,d,f,j,g,q,l,m⟩
 ·have h:Lib.cut b.data.toList [46]=(b.data.toList,[],false):=by
   unfold Lib.cut;rw[zxh _ f,ju oD]
  rw[h]at c;rw[j,g];dsimp only at c;rw[Lib.mk_data]at c;go_enter Tryz.func222,Tryz.ntmps222;go_wp2_with (go_at_call 230;refine c.mono ?_;rintro e p ⟨rfl,o,rfl⟩);refine jU (v:=.tuple #[.string empty,.string b]) (by simp[results,Tryz.results222,go_sem,empty]) rfl ?_;exact⟨rfl,⟨rfl,rfl,rfl,jE _,fun _ _=>rfl⟩⟩
 ·have h:Lib.cut b.data.toList [46]=(a,d,true):=by
   unfold Lib.cut;rw[f,zxg a d g,jv oA];simp
  rw[h]at c;rw[l,m];dsimp only at c;go_enter Tryz.func222,Tryz.ntmps222;go_wp2_with (go_at_call 230;refine c.mono ?_;rintro e p ⟨rfl,o,rfl⟩);refine jU (v:=.tuple #[.string ⟨a.toArray⟩,.string ⟨d.toArray⟩]) (by simp[results,Tryz.results222,go_sem]) rfl ?_;exact⟨rfl,⟨rfl,rfl,rfl,jE _,fun _ _=>rfl⟩⟩
end Go.Proofs.YtbjppepjmcfkaaaGreatDoor.chk
namespace Go.Proofs.YtbjppepjmcfkaaaGreatDoor.chk
open Go.RowKit Go.Shelf
open syn face
attribute [local go_sem] Oper.semAt_some
set_option linter.unusedVariables false
set_option linter.unusedSimpArgs false
set_option maxRecDepth 100000
def kR (a:World) (B:Nat) (v:VarD):Prop:=a.heap[B]?=some (.cells #[.string v.name,.bool v.pub,.int .i64 v.label,.int .i64 v.size] 87 (0,0))
variable {c d:Nat} {g h:World} {i:ByteArray}
theorem kR.lt {v:VarD} (a:kR g c v):c<g.heap.size:=(Array.getElem?_eq_some_iff.1 a).1
theorem kR.kept {row:Option Nat} {v:VarD} (a:kR g c v) (b:g.grownBy h row) (d:some c≠row):kR h c v:=(b.block c a.lt d).trans a
theorem kR.alloc {v:VarD} (b:kR g c v) (a:Obj):kR (g.alloc a) c v:=b.kept (World.grownBy_alloc g a none) oC
theorem kR.new (a:World) (v:VarD):kR (a.alloc (.cells #[.string v.name,.bool v.pub,.int .i64 v.label,.int .i64 v.size] 87)) a.heap.size v:=World.alloc_heap_new a _
theorem zfn {β:Type} (a:Nat) (h:β->VarD):Own (fun d e=>kR e a (h d)):=fun d f l n c j k =>
 c.kept j (fun g=>by obtain⟨m,b,i⟩:=k a g.symm;rw[show f.heap[a]?=_ from c]at b;cases b;cases i)
theorem kR.cells {v:VarD} (a:kR g c v):g.cell? ⟨c,0,none⟩=some (.string v.name)/\g.cell? ⟨c,1,none⟩=some (.bool v.pub)/\g.cell? ⟨c,2,none⟩=some (.int .i64 v.label)/\g.cell? ⟨c,3,none⟩=some (.int .i64 v.size)/\∀b,g.frozen? ⟨c,b,none⟩=false:=by
 refine⟨?_,?_,?_,?_,?_⟩;·simp[World.cell?,show g.heap[c]?=_ from a]
 ·simp[World.cell?,show g.heap[c]?=_ from a]
 ·simp[World.cell?,show g.heap[c]?=_ from a]
 ·simp[World.cell?,show g.heap[c]?=_ from a]
 ·intro b;simp[World.frozen?,show g.heap[c]?=_ from a]
theorem kR.below {v:VarD} (a:kR g d v) (e:Below c g h) (b:d<c):kR h d v:=(e.block d b).trans a
theorem kR.put {f:VarD} (a:kR g c f) (v:VarD):kR ((((g.setCell ⟨c,0,none⟩ (.string v.name)).setCell ⟨c,1,none⟩ (.bool v.pub)).setCell ⟨c,2,none⟩ (.int .i64 v.label)).setCell ⟨c,3,none⟩ (.int .i64 v.size)) c v:=by
 have b:=heap_setCell_same g c 0 _ 87 (.string v.name) a;have d:=heap_setCell_same _ c 1 _ 87 (.bool v.pub) b;have e:=heap_setCell_same _ c 2 _ 87 (.int .i64 v.label) d;exact heap_setCell_same _ c 3 _ 87 (.int .i64 v.size) e
def yP:VarD:=⟨⟨#[]⟩,false,0,0⟩
def cQ (vs:List VarD) (x:ByteArray):Option VarD:=vs.reverse.find? fun v=>eqS v.name x
def bQ (x:ByteArray) (a:List (Nat × VarD)):Prop:=∀y∈a,eqS y.2.name x=false
def xM (kf:ByteArray->Option FV) (vs:List VarD) (x:ByteArray):Option VarD:=match cQ vs x with
 | some v=>some v
 | none=>match kf (zT x)with
  | some q=>zbc q.1.vars (vL x)
  | none=>none
def VP (o:Option VarD) (a:Int) (w:World) (e:Ending) (w':World):Prop:=Below w.heap.size w w'/\match o with
 | some v=>e=.returned (qE v)
 | none=>e=.panicked (qG 4 a)
theorem zrj {vs:List VarD} (a:c<vs.length):(bk vs c).2=vs[vs.length - 1 - c]:=by
 unfold bk;rw[List.getElem?_eq_getElem oA,Option.getD_some]
theorem zn8 {vs:List VarD} (e:c<=vs.length) (b:bQ i (upto (bk vs) c)) (a:Nat) (hi:a<vs.length) (d:vs.length<=a+c):eqS vs[a].name i=false:=by
 have:=b (bk vs (vs.length - 1 - a)) (by unfold upto;exact List.mem_map.2 ⟨_,List.mem_range.2 oA,rfl⟩);rw[zrj oA]at this;simpa[show vs.length - 1 - (vs.length - 1 - a)=a by omega] using this
theorem zt7 {vs:List VarD} {g:List (Nat × VarD)} {b:Nat × VarD} (l:c<=vs.length) (a:upto (bk vs) c=g++[b]) (e:bQ i g) (f:eqS b.2.name i=true):cQ vs i=some b.2:=by
 cases c with
 | zero=>exact absurd a (by unfold upto;simp)
 | succ c =>
  rw[upto_succ]at a;have d:=List.append_inj' a rfl;have h:bk vs c=b:=by have:=d.2;simp only[jq,and_true]at this;exact this
  rw[<- d.1]at e;rw[<- h,zrj oA]at f |-;unfold cQ;rw[zw8 (j:=vs.length - 1 - c) oA (fun k hi a=>zn8 oA e k hi oA) f]
theorem zt6 {vs:List VarD} (a:bQ i (upto (bk vs) vs.length)):cQ vs i=none:=by
 unfold cQ;exact zsn (fun b hi=>zn8 (jE _) a b hi oA)
theorem zly (d:qL i):(zT i).size<=maxLen:=by
 have h:=long_size d;rcases zfu d with⟨_,b,_⟩|⟨a,g,f,_,_,_,b,_⟩
 ·rw[b];exact jz _
 ·rw[b];have c:i.size=i.data.toList.length:=rfl;rw[f]at c;have e:ByteArray.size ⟨a.toArray⟩=a.length:=by simp[ByteArray.size]
  rw[e];simp at c;unfold maxLen;omega
theorem zc9 {w a:World} (f:Below c w a) (i:c<=d) {h:Obj} (b:Obj) (g:a.heap[d]?=some h):Below c w (a.putObj d b):=f.trans ((Below.refl c a).grown (grownBy_putObj' a d b) (by have:=(Array.getElem?_eq_some_iff.1 g).1;omega) (fun j e=>by cases e;omega))
theorem zql (a b c:Value) (w:World):(Instr.field 55 (.agg #[a,b,c]) 1).run Tryz.prog w=.ok b w:=oB
theorem kR.result {v:VarD} {b c d e f h:Value} (j:List Value) (a:Nat) (i:kR g a v):(results Tryz.f198 (List.toArray (b :: c :: d :: e :: f :: h :: .pointer (some ⟨a,0,none⟩) :: j))).run Tryz.prog g=.ok (qE v) g:=by
 obtain⟨k,l,m,n,o⟩:=i.cells;unfold qE;simp[results,Tryz.f198,go_sem,k,l,m,n]
theorem zsw (D Kb kn:Nat) (kf:ByteArray->Option FV) (vs:List VarD) (u:Value) (a:ByteArray) (at_:Int) (w:World) (ar:w.cell? ⟨D,5,none⟩=some (.map (some Kb))) (d3:w.cell? ⟨D,6,none⟩=some u) (aB:kI w Kb kn (fun ab=>fvO (kf ab))) (b2:∀ab q,kf ab=some q->zP w (fvV q) q.1) (bp:fX w.heap.size w u vs) (c8:vs.length<=1000) (aJ:qL a) (b6:uV w) : CallsIn Fence.wide 3 Tryz.prog 198 #[.pointer (some ⟨D,0,none⟩),.string a,.int .i64 at_] w fun i w'=>VP (xM kf vs a) at_ w i w':=by
 obtain⟨l,af⟩:∃l,Hid (xM kf vs a=l):=⟨_,rfl⟩
 rw[af.out];have bG:Tryz.prog.cellsOf 55=3:=xW;have d1:Tryz.prog.cellsOf 87=4:=cell4;have aE:D<w.heap.size:=jS w ⟨D,5,none⟩ ar;obtain⟨t,x,rfl,d6⟩:=id bp;refine callsIn_of_wp_marks Tryz.func198 rfl trivial ?_ rfl;simp only[Tryz.ntmps198,List.size_toArray,jd,je,Nat.reduceAdd,Nat.reduceSub,Array.replicate_succ,Array.replicate_zero,List.push_toArray,List.append_toArray,js,jL]
 gi_wp2_with (refine⟨trivial,?_⟩;gi_at_call 221;refine(zy3 Fence.wide 2 trivial rfl _ _ _ _).mono ?_;rintro i w' ⟨rfl,rfl⟩)
 have bf:Boxed (((w.alloc (.cells #[.string a] 9)).alloc (.cells #[.string ⟨#[]⟩,.bool false,.int .i64 0,.int .i64 0] 87)).alloc (.cells #[.slice t vs.length x] 52)) w.heap.size 9 (.string a):=((Boxed.new w 9 (.string a)).alloc _).alloc _
 have be:kR (((w.alloc (.cells #[.string a] 9)).alloc (.cells #[.string ⟨#[]⟩,.bool false,.int .i64 0,.int .i64 0] 87)).alloc (.cells #[.slice t vs.length x] 52)) (w.heap.size+1) yP:=by
  have:=(kR.new (w.alloc (.cells #[.string a] 9)) yP).alloc (.cells #[.slice t vs.length x] 52);rw[jP]at this;exact this
 have bc:Boxed (((w.alloc (.cells #[.string a] 9)).alloc (.cells #[.string ⟨#[]⟩,.bool false,.int .i64 0,.int .i64 0] 87)).alloc (.cells #[.slice t vs.length x] 52)) (w.heap.size+1+1) 52 (.slice t vs.length x):=by
  have:=Boxed.new ((w.alloc (.cells #[.string a] 9)).alloc (.cells #[.string ⟨#[]⟩,.bool false,.int .i64 0,.int .i64 0] 87)) 52 (.slice t vs.length x);rw[jP,jP]at this;exact this
 have M:Below w.heap.size w (((w.alloc (.cells #[.string a] 9)).alloc (.cells #[.string ⟨#[]⟩,.bool false,.int .i64 0,.int .i64 0] 87)).alloc (.cells #[.slice t vs.length x] 52)):=(((Below.refl _ w).alloc (jE _) _).alloc oC _).alloc oE _;have bq:=(bp.below M).mono (n₁:=w.heap.size+1+1+1) oA;have ca:(((w.alloc (.cells #[.string a] 9)).alloc (.cells #[.string ⟨#[]⟩,.bool false,.int .i64 0,.int .i64 0] 87)).alloc (.cells #[.slice t vs.length x] 52)).heap.size=w.heap.size+1+1+1:=oC;obtain⟨aU,bS⟩:∃aU,((w.alloc (.cells #[.string a] 9)).alloc (.cells #[.string ⟨#[]⟩,.bool false,.int .i64 0,.int .i64 0] 87)).alloc (.cells #[.slice t vs.length x] 52)=aU:=⟨_,rfl⟩
 rw[bS]at bf be bc M bq ca |-
 refine wpIn_rangeFunc_ownH rfl oA (gf:=229) (lb:=#[.pointer (some ⟨w.heap.size+1+1,0,none⟩)]) rfl trivial (enters_of Tryz.func229 oB rfl)
  (ztl Fence.wide 2 trivial rfl oA (w.heap.size+1+1) (w.heap.size+1+1+1) _ vs c8 aU oA oA bc.cell bq) belowK_t (belowK_b oA) (Below.refl _ _) (fun _=>rfl)
  (fun G h=>(Boxed h w.heap.size 9 (.string a)/\kR h (w.heap.size+1) yP)/\(Below w.heap.size w h/\(bQ a G/\w.heap.size+1+1+1<=h.heap.size)))
  (fun aX G h=>kR h (w.heap.size+1) (((G.getLast?).map (·.2)).getD yP)/\(Below w.heap.size w h/\(aX=.ret/\∃b9 d,G=b9++[d]/\bQ a b9/\eqS d.2.name a=true)))
  ?hI ?hIx ?h0
  (fun d aV h=>∃aj,w.heap.size+1+1+1<=aj/\kR h aj d.2/\aV={ tmps:=#[.pointer (some ⟨D,0,none⟩),.string a,.int .i64 at_,undef,.pointer (some ⟨w.heap.size,0,none⟩),undef,.pointer (some ⟨w.heap.size+1,0,none⟩),undef,.pointer (some ⟨aj,0,none⟩),undef,undef,undef,undef,.pointer (some ⟨D,0,none⟩),.pointer (some ⟨D,0,none⟩),.pointer (some ⟨D,6,none⟩),.slice t vs.length x,.func (.func 229) #[] #[.pointer (some ⟨w.heap.size+1+1,0,none⟩)],.int .i64 (d.1:Int),.agg #[.string d.2.name,.bool d.2.pub,.int .i64 d.2.label,.int .i64 d.2.size],undef,undef,undef,undef,undef,undef,undef,undef,undef,undef,undef,undef,undef,undef,undef,undef,undef,undef,undef,undef,undef,undef,undef,undef,undef,undef,undef,undef,undef,undef,undef],defers:=[] }) ?hAx ?assign ?body ?done ?stop
 case hI =>
  refine OwnFrom.and (Own.from (fun aK ac ad ai N a7 a8=>?_) _) (OwnFrom.and (ownFrom_below (jE _) oA) (fun aK ac ad ai N a7 a8=>⟨N.1,jp N.2 a7.size⟩));exact⟨boxed_own w.heap.size 9 (fun _:Unit=>.string a) () ac ad ai N.1 a7 a8,zfn (w.heap.size+1) (fun _:Unit=>yP) () ac ad ai N.2 a7 a8⟩
 case hIx =>
  intro aX;refine OwnFrom.and (Own.from (fun aK ac ad ai N a7 a8=>?_) _) (OwnFrom.and (ownFrom_below (jE _) oA) (fun aK ac ad ai N a7 a8=>N));exact zfn (w.heap.size+1) (fun G:List (Nat × VarD)=>((G.getLast?).map (·.2)).getD yP) aK ac ad ai N a7 a8
 case h0=>exact⟨⟨bf,be⟩,M,(fun d b7=>by cases b7),oA⟩
 case hAx =>
  intro d aV;refine Own.from (fun aK ac ad ai N a7 a8=>?_) _
  obtain⟨aj,ag,ah,bK⟩:=N;exact⟨aj,ag,zfn aj (fun _:Unit=>d.2) () ac ad ai ah a7 a8,bK⟩
 case assign =>
  rintro cf G d h d0 ⟨⟨an,S⟩,f,av,aF⟩ bM;have d5:=S.lt;unfold zfe qE;dsimp only;simp only[List.zip_toArray,List.zip_cons_cons,List.zip_nil_right,List.foldl_toArray,List.foldl_cons,List.foldl_nil,List.setIfInBounds_toArray,List.set_cons_zero,List.set_cons_succ]
  gi_wp2
  exact bM _ _ ((KeepsOthers.alloc _ _).from _) ((Below.refl _ h).alloc aF _) ⟨⟨an.alloc _,S.alloc _⟩,f.alloc f.size _,av,oE⟩ ⟨h.heap.size,aF,kR.new h d.2,rfl⟩
 case body =>
  rintro cf G d aV h C ⟨dl,a8⟩ ⟨⟨an,S⟩,f,av,aF⟩ ⟨aj,d4,bC,rfl⟩ W;obtain⟨cy,cz,cH,cL,cR⟩:=bC.cells;obtain⟨cg,ch,ci,cj,aa⟩:=S.cells;have b8:=an.cell;have ck:=aa 0;have cm:=aa 1;have cn:=aa 2;have co:=aa 3;cases B:eqS d.2.name a
  ·have T:(d.2.name.toList==a.toList)=false:=B
   have am:Hid (bQ a (G++[d])):=fun ab E=>by
    rw[List.mem_append]at E;rcases E with E | E
    ·exact av ab E
    ·simp only[jy]at E;subst E;exact B
   gi_wp2
   exact⟨(KeepsOthers.refl _).from _,Below.refl _ _,⟨an,S⟩,f,am.out,aF⟩
  ·have T:(d.2.name.toList==a.toList)=true:=B;have am:Hid (bQ a G):=av;have HP:Hid (kR ((((h.setCell ⟨w.heap.size+1,0,none⟩ (.string d.2.name)).setCell ⟨w.heap.size+1,1,none⟩ (.bool d.2.pub)).setCell ⟨w.heap.size+1,2,none⟩ (.int .i64 d.2.label)).setCell ⟨w.heap.size+1,3,none⟩ (.int .i64 d.2.size)) (w.heap.size+1) d.2):=S.put d.2
   gi_wp2
   refine⟨((((KeepsOthers.setCell _ _ _).trans (KeepsOthers.setCell _ _ _)).trans (KeepsOthers.setCell _ _ _)).trans (KeepsOthers.setCell _ _ _)).from _,?_,(((f.setCell (Nat.le_succ _) _).setCell (Nat.le_succ _) _).setCell (Nat.le_succ _) _).setCell (Nat.le_succ _) _,rfl,G,d,rfl,am.out,B⟩;rw[List.getLast?_append];exact HP.out
 case done =>
  rintro j cx h bn bP ⟨⟨an,S⟩,f,av,aF⟩ V;have b8:=an.cell;have a3:=zqv a h aJ (zbl b6 f);have aG:(zT a).size<=maxLen:=zly aJ;have bu:cQ vs a=none:=by rw[show cx=_ from bP]at av;exact zt6 av
  have bX:=V
  cases r:kf (zT a)with
  | none =>
   gi_wp2_with (refine⟨trivial,?_⟩;gi_at_call 222;refine((callsIn_wide (n:=2)).2 a3).mono ?_;rintro i w' ⟨rfl,g⟩;have b0:w'.cell? ⟨D,5,none⟩=some (.map (some Kb)):=(f.trans (g.mono f.size)).cell (p:=⟨D,5,none⟩) aE |>.trans ar;have C:=(aB.below (f.trans (g.mono f.size))).look (zT a) aG;rw[r]at C;simp only[fvO,Option.map_none,Option.getD_none,vQ]at C;have ax:=zql (.string ⟨#[]⟩) (.slice none 0 0) (.slice none 0 0) w')
   have Q:Hid (l=none):=by
    show _=_;rw[<- af.out];unfold xM;rw[bu,r]
   have ae:Hid (Below w.heap.size w w'):=f.trans (g.mono f.size);have aD:Hid (w'.heap[j]?=some (.deferred (some []))):=(g.block j (Array.getElem?_eq_some_iff.1 V).1).trans V;clear C ax a3 r g
   gi_loopw [38] (fun P wr=>P=.int .i64 0/\wr=w') (fun _ _=>0)
   case atStart=>exact⟨rfl,rfl⟩
   case round =>
    obtain⟨rfl,rfl⟩:=hrel
    gi_wp2_with (refine⟨trivial,?_⟩;gi_at_call 128;refine((callsIn_wide (n:=2)).2 (vO 4 at_ wr)).mono ?_;rintro i y ⟨rfl,rfl⟩)
    refine⟨oC,.inl ⟨_,_,rfl,run_takeDeferred aD.out,?_⟩⟩;refine⟨zc9 ae.out oA _ aD.out,?_⟩
    rw[Q.out]
  | some q =>
   have au:=(b2 _ q r).below f
   have aA:Hid (l=zbc q.1.vars (vL a)):=by
    show _=_;rw[<- af.out];unfold xM;rw[bu,r]
   have o:=fun R aC=>(aB.below aC:kI R _ _ _).look (zT a) aG
   rw[r]at o;simp only[fvO,Option.map_some,Option.getD_some]at o;obtain⟨aM,aY,aW,aZ,aH⟩:=zlo au;obtain⟨_,_,ao,bR,_⟩:=id au;rw[aH]at o ao;have L:_=_:=ao;unfold fvV at L o;injection L with L;simp only[Array.mk.injEq,jq,and_true,true_and]at L;obtain⟨rfl,rfl⟩:=L;clear ao aH au;dsimp only at o;generalize q.1=c at *;obtain⟨_,_,ap,cd,aI⟩:=bR;injection ap with ap _ ee4;obtain rfl:=ap;obtain rfl:=ee4
   gi_wp2_with (refine⟨trivial,?_⟩;gi_at_call 222;refine((callsIn_wide (n:=2)).2 a3).mono ?_;rintro i w' ⟨rfl,g⟩;have b0:w'.cell? ⟨D,5,none⟩=some (.map (some Kb)):=(f.trans (g.mono f.size)).cell (p:=⟨D,5,none⟩) aE |>.trans ar;have C:=o w' (f.trans (g.mono f.size));have ax:=zql (.string c.module) (.slice aM c.vars.length aY) (.slice aW c.procs.length aZ) w')
   have bw:c.vars≠[]->∃a2 a9,aM=some ⟨a2,a9,none⟩/\∀(R:World),Below w'.heap.size w' R->∀b (z:b<c.vars.length),R.cell? ⟨a2,a9+b*4,none⟩=some (.string c.vars[b].name)/\R.cell? ⟨a2,a9+b*4+1,none⟩=some (.bool c.vars[b].pub)/\R.cell? ⟨a2,a9+b*4+2,none⟩=some (.int .i64 c.vars[b].label)/\R.cell? ⟨a2,a9+b*4+3,none⟩=some (.int .i64 c.vars[b].size):=fun az=>by
    obtain⟨a2,a9,ay,T⟩:=aI az;refine⟨a2,a9,ay,fun R aC b hi=>?_⟩;obtain⟨aO,ay,aP,aQ⟩:=T b hi;have aR:=g.trans (aC.mono g.size);exact⟨keep aO aR,keep ay aR,keep aP aR,keep aQ aR⟩
   have ae:Hid (Below w.heap.size w w'):=f.trans (g.mono f.size);have aD:Hid (w'.heap[j]?=some (.deferred (some []))):=(g.block j (Array.getElem?_eq_some_iff.1 V).1).trans V;have aS:kR w' (w.heap.size+1) yP:=S.below g S.lt;have ce:=g.size;have bo:j<w'.heap.size:=jo (Array.getElem?_eq_some_iff.1 V).1 ce;generalize vL a=s at *;clear C o ax a3 r g aI f V bX an S b8
   gi_loopw [38] (fun P wr=>∃e:Nat,e<=c.vars.length/\P=.int .i64 e/\Hid (∀b (hi:b<c.vars.length),b<e->eqS c.vars[b].name s=false)/\Below w'.heap.size w' wr) (fun P _=>c.vars.length - (intOf P).toNat)
   case atStart=>exact⟨0,jz _,rfl,fun b hi z=>absurd z oA,Below.refl _ _⟩
   case round =>
    obtain⟨e,c6,rfl,Q,a6⟩:=hrel;have aw:Hid (Below w'.heap.size w' wr):=a6;by_cases W:e<c.vars.length
    ·obtain⟨a2,a9,rfl,br⟩:=bw (by intro i;rw[i]at W;simp at W);obtain⟨dh,di,dj,dk⟩:=br wr a6 e W;have E:kR wr (w.heap.size+1) yP:=aS.below a6 (by have:=aS.lt;omega)
     have ak:Hid (∀m,eqS c.vars[e].name s=m->m=true->l=some c.vars[e]):=fun m ag ah=>by
      rw[aA.out];unfold zbc;exact zf5 W (fun b hi z=>Q.out b hi z) (ag.trans ah)
     have HS:Hid (∀m,eqS c.vars[e].name s=m->m=false->∀b (hi:b<c.vars.length),b<e+1->eqS c.vars[b].name s=false):=fun m ag ah b hi z=>by
      exact zme
     clear br bw;generalize c.vars[e]=v at *;cases B:eqS v.name s
     ·have T:(v.name.toList==s.toList)=false:=B;have bb:=HS.out _ B rfl;clear HS ak
      gi_wp2
      exact zmf
     ·have T:(v.name.toList==s.toList)=true:=B;have aT:Hid (l=some v):=ak.out _ B rfl;clear HS ak;have bz:=E.alloc (.cells #[.string v.name,.bool v.pub,.int .i64 v.label,.int .i64 v.size] 87);obtain⟨cg,ch,ci,cj,aa⟩:=bz.cells;have ck:=aa 0;have cm:=aa 1;have cn:=aa 2;have co:=aa 3;have az:j≠w.heap.size+1:=oA;have HP:Hid (kR (((((wr.alloc (.cells #[.string v.name,.bool v.pub,.int .i64 v.label,.int .i64 v.size] 87)).setCell ⟨w.heap.size+1,0,none⟩ (.string v.name)).setCell ⟨w.heap.size+1,1,none⟩ (.bool v.pub)).setCell ⟨w.heap.size+1,2,none⟩ (.int .i64 v.label)).setCell ⟨w.heap.size+1,3,none⟩ (.int .i64 v.size)) (w.heap.size+1) v):=bz.put v
      have ba:Hid ((((((wr.alloc (.cells #[.string v.name,.bool v.pub,.int .i64 v.label,.int .i64 v.size] 87)).setCell ⟨w.heap.size+1,0,none⟩ (.string v.name)).setCell ⟨w.heap.size+1,1,none⟩ (.bool v.pub)).setCell ⟨w.heap.size+1,2,none⟩ (.int .i64 v.label)).setCell ⟨w.heap.size+1,3,none⟩ (.int .i64 v.size)).heap[j]?=some (.deferred (some []))) :=
       (jQ _ ⟨w.heap.size+1,3,none⟩ _ j az).trans ((jQ _ ⟨w.heap.size+1,2,none⟩ _ j az).trans ((jQ _ ⟨w.heap.size+1,1,none⟩ _ j az).trans ((jQ _ ⟨w.heap.size+1,0,none⟩ _ j az).trans (((aw.out.alloc aw.out.size _).block j bo).trans aD.out))))
      have bA:Hid (Below w.heap.size w (((((wr.alloc (.cells #[.string v.name,.bool v.pub,.int .i64 v.label,.int .i64 v.size] 87)).setCell ⟨w.heap.size+1,0,none⟩ (.string v.name)).setCell ⟨w.heap.size+1,1,none⟩ (.bool v.pub)).setCell ⟨w.heap.size+1,2,none⟩ (.int .i64 v.label)).setCell ⟨w.heap.size+1,3,none⟩ (.int .i64 v.size))) :=
       ((((ae.out.trans ((aw.out.alloc aw.out.size _).mono ae.out.size)).setCell (Nat.le_succ _) _).setCell (Nat.le_succ _) _).setCell (Nat.le_succ _) _).setCell (Nat.le_succ _) _
      gi_wp2
      generalize (((((wr.alloc (.cells #[.string v.name,.bool v.pub,.int .i64 v.label,.int .i64 v.size] 87)).setCell ⟨w.heap.size+1,0,none⟩ (.string v.name)).setCell ⟨w.heap.size+1,1,none⟩ (.bool v.pub)).setCell ⟨w.heap.size+1,2,none⟩ (.int .i64 v.label)).setCell ⟨w.heap.size+1,3,none⟩ (.int .i64 v.size))=bB at *;refine⟨oC,.inl ⟨_,_,rfl,run_takeDeferred ba.out,?_⟩⟩;have bF:kR (bB.putObj j (.deferred none)) (w.heap.size+1) v:=(World.putObj_heap_other (k:=w.heap.size+1) oA).trans HP.out;refine⟨qE v,bF.result _ _,zc9 bA.out oA _ ba.out,?_⟩;rw[aT.out]
    ·obtain rfl:e=c.vars.length:=oA
     have am:Hid (l=none):=by
      show _=_;rw[aA.out];unfold zbc;exact zka fun b hi=>Q.out b hi hi
     have bs:Hid (wr.heap[j]?=some (.deferred (some []))):=(a6.block j bo).trans aD.out;have K:Hid (Below w.heap.size w wr):=ae.out.trans (a6.mono ae.out.size)
     gi_wp2_with (refine⟨trivial,?_⟩;gi_at_call 128;refine((callsIn_wide (n:=2)).2 (vO 4 at_ wr)).mono ?_;rintro i y ⟨rfl,rfl⟩)
     refine⟨oC,.inl ⟨_,_,rfl,run_takeDeferred bs.out,?_⟩⟩;refine⟨zc9 K.out oA _ bs.out,?_⟩;rw[am.out]
 case stop =>
  rintro j aX G h bn ⟨df,c7,rfl⟩ ⟨aN,f,rfl,b9,d,i,c9,b7⟩ V;rw[i]at aN;simp only[List.getLast?_append,List.getLast?_singleton,Option.some_or,Option.map_some,Option.getD_some]at aN;obtain⟨cy,cz,cH,cL,cR⟩:=aN.cells;have ae:=zc9 f (jp oA bn) (.deferred none) V;have bg:kR (h.putObj j (.deferred none)) (w.heap.size+1) d.2:=(World.putObj_heap_other (k:=w.heap.size+1) oA).trans aN;obtain⟨dt,du,dw,dx,dy⟩:=bg.cells
  gi_wp2
  refine⟨oC,.inl ⟨_,_,rfl,run_takeDeferred V,?_⟩⟩;refine⟨qE d.2,?_,ae,?_⟩;·exact bg.result _ _
  ·have cc:l=some d.2:=by
    rw[<- af.out];unfold xM;rw[zt7 c7 i c9 b7]
   rw[cc]
theorem zv7 (D Kb kn:Nat) (kf:ByteArray->Option FV) (vs:List VarD) (u:Value) (a:ByteArray) (at_:Int) (w:World) (d:w.cell? ⟨D,5,none⟩=some (.map (some Kb))) (e:w.cell? ⟨D,6,none⟩=some u) (f:kI w Kb kn (fun b=>fvO (kf b))) (h:∀b q,kf b=some q->zP w (fvV q) q.1) (g:fX w.heap.size w u vs) (i:vs.length<=1000) (k:qL a) (j:uV w) : Calls Tryz.prog 198 #[.pointer (some ⟨D,0,none⟩),.string a,.int .i64 at_] w fun c w'=>VP (xM kf vs a) at_ w c w' :=
 (callsIn_wide (n:=3)).1 (zsw D Kb kn kf vs u a at_ w d e f h g i k j)
def uK (kf:ByteArray->Option FV) (x:ByteArray):Option ProcD:=match kf (zT x)with
 | some q=>zib q.1.procs (vL x)
 | none=>none
def PP (o:Option ProcD) (a:Int) (w:World) (e:Ending) (w':World):Prop:=Below w.heap.size w w'/\match o with
 | some p=>∃u,e=.returned (zN p u)/\IntsIn w' u p.params
 | none=>e=.panicked (qG 4 a)
theorem znn {b:Option ProcD} {a:Int} {w w':World} (c:b=none) (d:Below w.heap.size w w'):PP b a w (.panicked (qG 4 a)) w':=by rw[c];exact⟨d,rfl⟩
theorem zy0 {c:Option ProcD} {p:ProcD} {u:Value} {a:Int} {b:Ending} {w w':World} (d:c=some p) (e:Below w.heap.size w w') (f:b=.returned (zN p u)) (g:IntsIn w' u p.params):PP c a w b w':=by rw[d];exact⟨e,u,f,g⟩
theorem znz (a c b:Value) (w:World):(Instr.field 55 (.agg #[a,c,b]) 2).run Tryz.prog w=.ok b w:=oB
theorem zud (D Kb kn:Nat) (kf:ByteArray->Option FV) (a:ByteArray) (at_:Int) (w:World) (ar:w.cell? ⟨D,5,none⟩=some (.map (some Kb))) (aB:kI w Kb kn (fun ab=>fvO (kf ab))) (b2:∀ab q,kf ab=some q->zP w (fvV q) q.1) (aJ:qL a) (b6:uV w) : Calls Tryz.prog 199 #[.pointer (some ⟨D,0,none⟩),.string a,.int .i64 at_] w fun i w'=>PP (uK kf a) at_ w i w':=by
 obtain⟨l,af⟩:∃l,Hid (uK kf a=l):=⟨_,rfl⟩
 rw[af.out];have bG:Tryz.prog.cellsOf 55=3:=xW;have d2:Tryz.prog.cellsOf 91=6:=dP;have aE:D<w.heap.size:=jS w ⟨D,5,none⟩ ar;have aG:(zT a).size<=maxLen:=zly aJ;have M:Below w.heap.size w (w.alloc (.cells #[.string ⟨#[]⟩,.bool false,.slice none 0 0,.int .i64 0,.bool false,.int .i64 0] 91)):=bal _;have b1:=Box6.new w (.string ⟨#[]⟩) (.bool false) (.slice none 0 0) (.int .i64 0) (.bool false) (.int .i64 0) 91;have a3:=zqv a _ aJ (zbl b6 M)
 cases r:kf (zT a)with
 | none =>
  have Q:Hid (l=none):=by
   show _=_;rw[<- af.out];unfold uK;rw[r]
  go_enter Tryz.func199,Tryz.ntmps199;go_wp2_with (go_at_call 222;refine a3.mono ?_;rintro i y ⟨rfl,g⟩;have a5:=M.trans (g.mono M.size);have b0:y.cell? ⟨D,5,none⟩=some (.map (some Kb)):=(a5.cell (p:=⟨D,5,none⟩) aE).trans ar;have C:=(aB.below a5).look (zT a) aG;rw[r]at C;simp only[fvO,Option.map_none,Option.getD_none,vQ]at C;have ax:=znz (.string ⟨#[]⟩) (.slice none 0 0) (.slice none 0 0) y);have aL:Hid (Below w.heap.size w y):=a5;clear C ax a3 r g b1 M a5;go_loopw [24] (fun P wr=>P=.int .i64 0/\wr=y) (fun _ _=>0)
  case atStart=>exact⟨rfl,rfl⟩
  case round =>
   obtain⟨rfl,rfl⟩:=hrel;go_wp2_with (go_at_call 128;refine(vO 4 at_ wr).mono ?_;rintro i cw ⟨rfl,rfl⟩)
   exact⟨rfl,znn Q.out aL.out⟩
 | some q =>
  have au:=b2 _ q r
  have aA:Hid (l=zib q.1.procs (vL a)):=by
   show _=_;rw[<- af.out];unfold uK;rw[r]
  have o:=fun R aC=>(aB.below aC:kI R _ _ _).look (zT a) aG
  rw[r]at o;simp only[fvO,Option.map_some,Option.getD_some]at o;obtain⟨aM,aY,aW,aZ,aH⟩:=zlo au;obtain⟨_,_,ao,_,bN⟩:=id au;rw[aH]at o ao;have L:_=_:=ao;unfold fvV at L o;injection L with L;simp only[Array.mk.injEq,jq,and_true,true_and]at L;obtain⟨rfl,rfl⟩:=L;clear ao aH au;dsimp only at o;generalize q.1=c at *;obtain⟨_,_,ap,cd,aI⟩:=bN;injection ap with ap _ ee4;obtain rfl:=ap;obtain rfl:=ee4;go_enter Tryz.func199,Tryz.ntmps199;go_wp2_with (go_at_call 222;refine a3.mono ?_;rintro i y ⟨rfl,g⟩;have a5:=M.trans (g.mono M.size);have b0:y.cell? ⟨D,5,none⟩=some (.map (some Kb)):=(a5.cell (p:=⟨D,5,none⟩) aE).trans ar;have C:=o y a5;have ax:=znz (.string c.module) (.slice aM c.vars.length aY) (.slice aW c.procs.length aZ) y);have aL:Hid (Below w.heap.size w y):=a5;have aS:=b1.below g;generalize vL a=s at *;clear C o ax a3 r g b1 M a5;go_loopw [24] (fun P wr=>∃e:Nat,e<=c.procs.length/\P=.int .i64 e/\Hid (∀b (hi:b<c.procs.length),b<e->eqS c.procs[b].name s=false)/\Below y.heap.size y wr) (fun P _=>c.procs.length - (intOf P).toNat)
  case atStart=>exact⟨0,jz _,rfl,fun b hi z=>absurd z oA,Below.refl _ _⟩
  case round =>
   obtain⟨e,c6,rfl,Q,a6⟩:=hrel;have aw:Hid (Below y.heap.size y wr):=a6;have K:Hid (Below w.heap.size w wr):=aL.out.trans (a6.mono aL.out.size);by_cases W:e<c.procs.length
   ·obtain⟨a2,a9,rfl,T⟩:=aI (by intro i;rw[i]at W;simp at W);obtain⟨aO,ay,⟨u,aP,bv⟩,aQ,bh,bi⟩:=T e W;have b8:=keep aO K.out;have da:=keep ay K.out;have db:=keep aP K.out;have dc:=keep aQ K.out;have dd:=keep bh K.out;have de:=keep bi K.out
    have ak:Hid (∀m,eqS c.procs[e].name s=m->m=true->l=some c.procs[e]):=fun m ag ah=>by
     rw[aA.out];exact zf5 W (fun b hi z=>Q.out b hi z) (ag.trans ah)
    have HS:Hid (∀m,eqS c.procs[e].name s=m->m=false->∀b (hi:b<c.procs.length),b<e+1->eqS c.procs[b].name s=false):=fun m ag ah b hi z=>by
     exact zme
    clear aO ay aP aQ bh bi T aI;generalize c.procs[e]=v at *;have cb:=bv;obtain⟨t,x,rfl,_,_⟩:=cb;have E:=aS.below a6;cases B:eqS v.name s;·have T:(v.name.toList==s.toList)=false:=B;have bb:=HS.out _ B rfl;clear HS ak E;go_wp2;exact zmf
    ·have T:(v.name.toList==s.toList)=true:=B;have aT:Hid (l=some v):=ak.out _ B rfl;clear HS ak;obtain⟨cp,cq,cr,ct,cu,cv,dp,dq,dr,ds,dm,dn⟩:=E.alloc (.cells #[.string v.name,.bool v.pub,.slice t v.params.length x,.int .i64 v.writes,.bool v.gives,.int .i64 v.given] 91);have bm:Below w.heap.size w (((((((wr.alloc (.cells #[.string v.name,.bool v.pub,.slice t v.params.length x,.int .i64 v.writes,.bool v.gives,.int .i64 v.given] 91)).setCell ⟨w.heap.size,0,none⟩ (.string v.name)).setCell ⟨w.heap.size,1,none⟩ (.bool v.pub)).setCell ⟨w.heap.size,2,none⟩ (.slice t v.params.length x)).setCell ⟨w.heap.size,3,none⟩ (.int .i64 v.writes)).setCell ⟨w.heap.size,4,none⟩ (.bool v.gives)).setCell ⟨w.heap.size,5,none⟩ (.int .i64 v.given)):=((((((K.out.alloc K.out.size _).setCell (jE _) _).setCell (jE _) _).setCell (jE _) _).setCell (jE _) _).setCell (jE _) _).setCell (jE _) _;go_wp2;refine jU (v:=zN v (.slice t v.params.length x)) (by simp[results,Tryz.results199,go_sem,cp,cq,cr,ct,cu,cv,zN]) rfl ?_;exact zy0 aT.out bm rfl (bv.below bm)
   ·obtain rfl:e=c.procs.length:=oA
    have am:Hid (l=none):=by
     show _=_;rw[aA.out];exact zka fun b hi=>Q.out b hi hi
    go_wp2_with (go_at_call 128;refine(vO 4 at_ wr).mono ?_;rintro i cw ⟨rfl,rfl⟩);exact⟨rfl,znn am.out K.out⟩
structure KF where
 f:ByteArray->Option FV
 W:World
 M:Nat
 G:Value
instance:Coe KF (ByteArray->Option FV):=⟨KF.f⟩
theorem IntsIn.mono {w w':World} (i:∀a v,w.cell? a=some v->w'.cell? a=some v) {v:Value} {b:List Int} (g:IntsIn w v b):IntsIn w' v b:=by
 obtain⟨a,c,d,k,j⟩:=g;refine⟨a,c,d,k,fun l=>?_⟩;obtain⟨f,n,e,h⟩:=j l;exact⟨f,n,e,fun m hi=>i _ _ (h m hi)⟩
theorem zP.mono {w w':World} (b:∀a v,w.cell? a=some v->w'.cell? a=some v) {v:Value} {i:FaceD} (p:zP w v i):zP w' v i:=by
 obtain⟨K,G,m,⟨a,k,n,D,B⟩,⟨j,l,o,E,C⟩⟩:=p;refine⟨K,G,m,⟨a,k,n,D,fun g=>?_⟩,⟨j,l,o,E,fun g=>?_⟩⟩;·obtain⟨f,h,e,c⟩:=B g;exact⟨f,h,e,fun d hi=>⟨b _ _ (c d hi).1,b _ _ (c d hi).2.1,b _ _ (c d hi).2.2.1,b _ _ (c d hi).2.2.2⟩⟩
 ·obtain⟨f,h,e,c⟩:=C g;refine⟨f,h,e,fun d hi=>?_⟩;obtain⟨q,r,⟨u,s,t⟩,x,y,z⟩:=c d hi;exact⟨b _ _ q,b _ _ r,⟨u,b _ _ s,IntsIn.mono b t⟩,b _ _ x,b _ _ y,b _ _ z⟩
structure CS (w0 w:World) (D Kb kn:Nat) (kf:KF) (vs:List VarD) (u:Value) (a:Int):Prop where
 bs:Below w0.heap.size w0 w
 hD:w0.heap.size<=D
 c4:w.cell? ⟨D,4,none⟩=some kf.G
 c5:w.cell? ⟨D,5,none⟩=some (.map (some Kb))
 c6:w.cell? ⟨D,6,none⟩=some u
 c7:w.cell? ⟨D,7,none⟩=some (.int .i64 a)
 fz:∀k,w.frozen? ⟨D,k,none⟩=false
 mp:kI w Kb kn (fun z=>fvO (kf.f z))
 fi:∀z q,kf.f z=some q->zP kf.W (fvV q) q.1
 fw:∀a v,kf.W.cell? a=some v->a.block≠D/\a.block<kf.M/\w.cell? a=some v
 fm:kf.M<=w.heap.size
 mM:w0.heap.size<=kf.M
 fu:∀b,u.ownBlock=some b->kf.M<=b
 rl:w.ownsRow (D+1) 87 4 u vs.length (qZ vs)
 nk:Kb≠D
 mx:uV w0
 nu:u.ownBlock≠some Kb
section
variable {w0 w w':World} {D Kb kn:Nat} {kf:KF} {vs:List VarD} {u:Value} {a:Int}
theorem CS.lt (b:CS w0 w D Kb kn kf vs u a):D<w.heap.size:=jS w ⟨D,5,none⟩ b.c5
theorem CS.below (b:CS w0 w D Kb kn kf vs u a) (c:Below w.heap.size w w'):CS w0 w' D Kb kn kf vs u a :=
 ⟨b.bs.trans (c.mono b.bs.size),b.hD,(c.cell (p:=⟨D,4,none⟩) b.lt).trans b.c4,(c.cell (p:=⟨D,5,none⟩) b.lt).trans b.c5,(c.cell (p:=⟨D,6,none⟩) b.lt).trans b.c6,(c.cell (p:=⟨D,7,none⟩) b.lt).trans b.c7,fun e=>(jO (a:=⟨D,e,none⟩) (c.block D b.lt)).trans (b.fz e),b.mp.below c,b.fi,fun p v d=>⟨(b.fw p v d).1,(b.fw p v d).2.1,(c.cell (p:=p) (jo (b.fw p v d).2.1 b.fm)).trans (b.fw p v d).2.2⟩,jp b.fm c.size,b.mM,b.fu,zl6 b.rl c,b.nk,b.mx,b.nu⟩
theorem CS.alloc (c:CS w0 w D Kb kn kf vs u a) (b:Obj):CS w0 (w.alloc b) D Kb kn kf vs u a:=c.below (bal b)
theorem CS.drew (b:CS w0 w D Kb kn kf vs u a):CS w0 w.drew D Kb kn kf vs u a:=b.below (Below.refl _ _).drew
theorem CS.other (c:CS w0 w D Kb kn kf vs u a) {b o:Nat} (j:b≠D) (k:b≠Kb) (l:u.ownBlock≠some b) (g:kf.M<=b) (v:Value):CS w0 (w.setCell ⟨b,o,none⟩ v) D Kb kn kf vs u a :=
 have e:=jQ w ⟨b,o,none⟩ v D (fun d=>j d.symm)
 ⟨c.bs.setCell (jp c.mM g) _,c.hD,(jN (a:=⟨D,4,none⟩) e).trans c.c4,(jN (a:=⟨D,5,none⟩) e).trans c.c5,(jN (a:=⟨D,6,none⟩) e).trans c.c6,(jN (a:=⟨D,7,none⟩) e).trans c.c7,fun h=>(jO (a:=⟨D,h,none⟩) e).trans (c.fz h),c.mp.setCell (fun d=>k d.symm) _,c.fi,fun p x f=>⟨(c.fw p x f).1,(c.fw p x f).2.1,(jN (a:=p) (jQ w ⟨b,o,none⟩ v p.block (fun d=>Nat.not_lt.2 g (by have i:p.block=b:=d;rw[<- i];exact(c.fw p x f).2.1)))).trans (c.fw p x f).2.2⟩,by rw[jR];exact c.fm,c.mM,c.fu,jV c.rl l _,c.nk,c.mx,c.nu⟩
theorem CS.setAt (b:CS w0 w D Kb kn kf vs u a) (e:Int):CS w0 (w.setCell ⟨D,7,none⟩ (.int .i64 e)) D Kb kn kf vs u e :=
 ⟨b.bs.setCell b.hD _,b.hD,(jD w ⟨D,7,none⟩ ⟨D,4,none⟩ _ oC).trans b.c4,(jD w ⟨D,7,none⟩ ⟨D,5,none⟩ _ oC).trans b.c5,(jD w ⟨D,7,none⟩ ⟨D,6,none⟩ _ oC).trans b.c6,World.cell?_setCell_same' _ _ _ (by rw[b.c7];rfl),fun g=>by rw[World.frozen?_setCell];exact b.fz g,b.mp.setCell b.nk _,b.fi,fun p d c=>⟨(b.fw p d c).1,(b.fw p d c).2.1,(jN (a:=p) (jQ w ⟨D,7,none⟩ _ p.block (b.fw p d c).1)).trans (b.fw p d c).2.2⟩,by rw[jR];exact b.fm,b.mM,b.fu,jV b.rl (fun f=>by have h:D+1<=D:=(b.rl.lt _ f).1;omega) _,b.nk,b.mx,b.nu⟩
theorem CS.faces (b:CS w0 w D Kb kn kf vs u a) (c:ByteArray) (q:FV) (e:kf.f c=some q):zP w (fvV q) q.1:=zP.mono (fun p v d=>(b.fw p v d).2.2) (b.fi c q e)
theorem CS.max (b:CS w0 w D Kb kn kf vs u a):uV w:=zbl b.mx b.bs
theorem CS.grown (b:CS w0 w D Kb kn kf vs u a) {row:Option Nat} (e:w.grownBy w' row) (h:∀d,row=some d->d≠D/\d≠Kb/\u.ownBlock≠some d/\kf.M<=d):CS w0 w' D Kb kn kf vs u a:=by
 have f:=e.block D b.lt (fun c=>(h D c.symm).1 rfl);refine⟨b.bs.grown e b.bs.size (fun j c=>jp b.mM (h j c).2.2.2),b.hD,(jN (a:=⟨D,4,none⟩) f).trans b.c4,(jN (a:=⟨D,5,none⟩) f).trans b.c5,(jN (a:=⟨D,6,none⟩) f).trans b.c6,(jN (a:=⟨D,7,none⟩) f).trans b.c7,fun j=>(jO (a:=⟨D,j,none⟩) f).trans (b.fz j),b.mp.kept e (fun c=>(h Kb c.symm).2.1 rfl),b.fi,fun p i g=>⟨(b.fw p i g).1,(b.fw p i g).2.1,(jN (a:=p) (e.block p.block (jo (b.fw p i g).2.1 b.fm) (fun c=>Nat.not_lt.2 (h _ c.symm).2.2.2 (b.fw p i g).2.1))).trans (b.fw p i g).2.2⟩,jp b.fm e.size,b.mM,b.fu,b.rl.kept e ?_,b.nk,b.mx,b.nu⟩
 cases c:u.ownBlock with
 | none=>exact .inl rfl
 | some d=>exact .inr (fun k=>(h d k.symm).2.2.1 c)
theorem CS.put4 (g:CS w0 w D Kb kn kf vs u a) {b:Nat} (c:b≠D) (d:b≠Kb) (e:u.ownBlock≠some b) (f:kf.M<=b) (h i j k:Value):CS w0 ((((w.setCell ⟨b,0,none⟩ h).setCell ⟨b,1,none⟩ i).setCell ⟨b,2,none⟩ j).setCell ⟨b,3,none⟩ k) D Kb kn kf vs u a :=
 (((g.other c d e f _).other c d e f _).other c d e f _).other c d e f _
theorem CS.variable (b:CS w0 w D Kb kn kf vs u a) (e:vs.length<=1000) {c:ByteArray} (g:qL c) (at_:Int) : Calls Tryz.prog 198 #[.pointer (some ⟨D,0,none⟩),.string c,.int .i64 at_] w fun d w'=>VP (xM kf vs c) at_ w d w' :=
 zv7 D Kb kn kf.f vs u c at_ w b.c5 b.c6 b.mp b.faces (zym b.rl) e g b.max
theorem CS.procedure (b:CS w0 w D Kb kn kf vs u a) {c:ByteArray} (e:qL c) (at_:Int) : Calls Tryz.prog 199 #[.pointer (some ⟨D,0,none⟩),.string c,.int .i64 at_] w fun d w'=>PP (uK kf c) at_ w d w' :=
 zud D Kb kn kf.f c at_ w b.c5 b.mp b.faces e b.max
theorem CS.begin (b:CS w0 w D Kb kn kf vs u a) (d:0<=a) (e:a<=1000000) : Calls Tryz.prog 81 #[.pointer (some ⟨D,0,none⟩)] w fun c w'=>c=.returned (.int .i64 a)/\w'=w.setCell ⟨D,7,none⟩ (.int .i64 (a+1)) :=
 zqs D a w b.c7 (b.fz 7) d e
end
theorem fN {d a c:Nat} {w b:World} (f:Fr d w b) (g:w.heap.size<=a) (v:Value):Fr d w (b.setCell ⟨a,c,none⟩ v) :=
 World.grownBy.andThen f (Go.Lib.grownBy_setCell b a c v) (fun h e=>by cases e;exact .inl g)
theorem zg8 {c b:Nat} {w d:World} (e:Fr c w d) (a:w.heap.size<=b) (f g h i:Value):Fr c w ((((d.setCell ⟨b,0,none⟩ f).setCell ⟨b,1,none⟩ g).setCell ⟨b,2,none⟩ h).setCell ⟨b,3,none⟩ i) :=
 fN (fN (fN (fN e a _) a _) a _) a _
def EX (w0:World) (D Kb kn:Nat) (kf:KF) (vs:List VarD) (u:Value) (w:World) (r:Res (Int × Int)) (e:Ending) (w':World):Prop:=match r with
 | .bad c b=>e=.panicked (qG c b)/\Below w0.heap.size w0 w'
 | .ok q=>e=.returned (.int .i64 q.1)/\CS w0 w' D Kb kn kf vs u q.2/\Fr D w w'
def plP (kf:ByteArray->Option FV) (vs:List VarD) (k:Int) (x:ByteArray) (a:Int):Res (List Int × Int)->Res (VarD × Int × Int)
 | .bad c b=>.bad c b
 | .ok q=>match xM kf vs x with
  | none=>.bad 4 a
  | some v=>if decide (0<v.size)=(k==17)then .ok (v,q.1.getLast?.getD 0,q.2)else .bad 3 a
def PL (w0:World) (D Kb kn:Nat) (kf:KF) (vs:List VarD) (u:Value) (w:World) (r:Res (VarD × Int × Int)) (e:Ending) (w':World):Prop:=match r with
 | .bad c b=>e=.panicked (qG c b)/\Below w0.heap.size w0 w'
 | .ok q=>e=.returned (.tuple #[qE q.1,.int .i64 q.2.1])/\CS w0 w' D Kb kn kf vs u q.2.2/\Fr D w w'
theorem zyh {a:World} {v:VarD} {d e f g h i c:Value} (k:List Value) (b:Nat) (j:kR a b v):(results Tryz.f182 (List.toArray (d :: e :: f :: g :: h :: i :: .pointer (some ⟨b,0,none⟩) :: c :: k))).run Tryz.prog a=.ok (.tuple #[qE v,c]) a:=by
 obtain⟨l,m,n,o,p⟩:=j.cells;unfold qE;simp[results,Tryz.f182,go_sem,l,m,n,o]
section
variable {w0:World} {D Kb kn:Nat} {kf:KF} {vs:List VarD} {u:Value}
theorem PL.mkBad {w w':World} {c:Res (VarD × Int × Int)} {b a:Int} (d:c=.bad b a) (e:Below w0.heap.size w0 w'):PL w0 D Kb kn kf vs u w c (.panicked (qG b a)) w':=by rw[d];exact⟨rfl,e⟩
theorem PL.mkOk {w w':World} {d:Res (VarD × Int × Int)} {v:VarD} {c a:Int} {b:Ending} (e:d=.ok (v,c,a)) (g:b=.returned (.tuple #[qE v,.int .i64 c])) (f:CS w0 w' D Kb kn kf vs u a) (h:Fr D w w'):PL w0 D Kb kn kf vs u w d b w':=by rw[e];exact⟨g,f,h⟩
theorem zh6 (E:Env) (g:List Loc) (b8:vs.length<=1000) (h:Int) (o:ByteArray) (P:Int) (b:List Tree) (v:Value) (w:World) (e at_:Int) (aK:∀Q∈b,ExT Q) (b9:qL o) (aL:Lies (·<w0.heap.size) w0 (.node h o P b) v) (l:CS w0 w D Kb kn kf vs u at_) (aU:0<=at_) (bz:at_+1+kC b<=1000000) (ih:∀c (aZ:c<b.length) (v:Value) (w:World) (at_:Int),ExT b[c]->Lies (·<w0.heap.size) w0 b[c] v->CS w0 w D Kb kn kf vs u at_->0<=at_->at_+kD b[c]<=1000000 -> Calls Tryz.prog 159 #[.pointer (some ⟨D,0,none⟩),v,.int .i64 e] w fun d w'=>EX w0 D Kb kn kf vs u w (exF E g e false b[c] at_) d w') : Calls Tryz.prog 182 #[.pointer (some ⟨D,0,none⟩),v,.int .i64 e] w fun d w'=>PL w0 D Kb kn kf vs u w (plP kf vs h o at_ (exL E g e b (at_+1))) d w':=by
 have bo:=kc25;have bp:Tryz.prog.cellsOf 87=4:=cell4;unfold Lies at aL;obtain⟨a,t,rfl,bv,ar⟩:=aL;have br:=kX b;have bu:=l.lt;have bw:=dF b;obtain⟨r,ao⟩:∃r,exL E g e b (at_+1)=r:=⟨_,rfl⟩
 rw[ao];have aN:Hid (exL E g e b (at_+1)=r):=ao;clear ao;obtain⟨s,aj⟩:∃s,Hid (plP kf vs h o at_ r=s):=⟨_,rfl⟩
 rw[aj.out];have an:=(l.alloc (.cells #[.int .i64 h,.string o,.int .i64 P,.slice a b.length t] 25)).alloc (.cells #[.string ⟨#[]⟩,.bool false,.int .i64 0,.int .i64 0] 87);have aG:=an.begin aU oA;have bB:=l.fm;have bq:=l.mp.lt;have aw:∀i,u.ownBlock=some i->i<w.heap.size:=fun i d=>(l.rl.lt _ d).2
 clear l;go_enter Tryz.func182,Tryz.ntmps182;go_wp2_with (go_at_call 81;refine aG.mono ?_;rintro d af ⟨rfl,N⟩;have W:CS w0 af D Kb kn kf vs u (at_+1):=by { rw[N];exact an.setAt _ };have G:Q4 w.heap.size (.int .i64 h) (.string o) (.int .i64 P) (.slice a b.length t) af:=by { rw[N];exact Q4.other oA ⟨oC,oC,oC,oC⟩ _ _ };have aH:Fr D w af:=by { rw[N];exact(((Fr.refl _ _).alloc _).alloc _).set _ _ };have K:kR af (w.heap.size+1) yP:=by { rw[N];have:=kR.new (w.alloc (.cells #[.int .i64 h,.string o,.int .i64 P,.slice a b.length t] 25)) yP;rw[jP]at this;exact(jQ _ ⟨D,7,none⟩ _ _ (by show w.heap.size+1≠D;omega)).trans this };clear N;obtain⟨ab,ac,ad,ae⟩:=id G);clear an aG ab ac ad ae;go_loopw [7,16] (fun a6 Q wr=>∃(c:Nat) (n:List Int),c<=b.length/\Q=.int .i64 c/\a6=.int .i64 (n.getLast?.getD 0)/\Fr D w wr/\w.heap.size+1+1<=wr.heap.size/\Q4 w.heap.size (.int .i64 h) (.string o) (.int .i64 P) (.slice a b.length t) wr/\kR wr (w.heap.size+1) yP/\CS w0 wr D Kb kn kf vs u (at_+1+kC (b.take c))/\Hid (r=vW n (exL E g e (b.drop c) (at_+1+kC (b.take c))))) (fun _ Q _=>b.length - (intOf Q).toNat)
 case atStart =>
  have bC:=K.lt;refine⟨0,[],jz _,rfl,rfl,aH,oA,G,K,by simpa[kC] using W,?_⟩;show _=_;rw[<- aN.out,List.drop_zero];simp only[List.take_zero,kC,Int.add_zero]
  cases exL E g e b (at_+1)with
  | bad t i=>rfl
  | ok q=>rfl
 case round =>
  clear W G aH K;obtain⟨c,n,aZ,rfl,rfl,am,bA,a2,x,j,R⟩:=hrel;obtain⟨ab,ac,ad,ae⟩:=id a2;by_cases y:c<b.length
  ·obtain⟨V,aa,rfl,a5,aJ⟩:=ar (by intro d;rw[d]at y;simp at y);obtain⟨bN,⟨bP,bR,bS,bX,rfl,aC,aD,aE,aF⟩,au⟩:=aJ.get c y;obtain⟨a7,ah,a8,_,m,S,a9,T,rfl⟩:=au.shape;injection m with m;simp only[Array.mk.injEq,jq,and_true]at m;obtain⟨rfl,rfl,rfl,rfl⟩:=m;have bF:=(j.bs.cell (p:=⟨V,aa+c*4,none⟩) a5).trans aC;have bG:=(j.bs.cell (p:=⟨V,aa+c*4+1,none⟩) a5).trans aD;have bK:=(j.bs.cell (p:=⟨V,aa+c*4+2,none⟩) a5).trans aE;have bM:=(j.bs.cell (p:=⟨V,aa+c*4+3,none⟩) a5).trans aF;have b0:=fE b c y;have b1:=fA b (c+1);have b2:=kU b[c];have b6:=kX (b.take c);have W:=j.alloc (.cells #[.int .i64 a7,.string ah,.int .i64 a8,.slice S a9 T] 25);have aX:=am.alloc (.cells #[.int .i64 a7,.string ah,.int .i64 a8,.slice S a9 T] 25);have G:=Q4.alloc a2 (.cells #[.int .i64 a7,.string ah,.int .i64 a8,.slice S a9 T] 25);have K:=x.alloc (.cells #[.int .i64 a7,.string ah,.int .i64 a8,.slice S a9 T] 25);have ak:=ih c y _ _ _ (aK _ (jH y)) au W oA oA
   have HP:Hid (r=match exF E g e false b[c] (at_+1+kC (b.take c))with
     | .bad t i=>.bad t i
     | .ok q=>vW (n++[q.1]) (exL E g e (b.drop (c+1)) q.2)):=R.out.trans (zgc E g e b c y n _)
   have ay:Hid (∀q,exF E g e false b[c] (at_+1+kC (b.take c))=.ok q->q.2=at_+1+kC (b.take (c+1))):=fun q av=>by
    have:=cI E g e _ _ _ _ av;omega
   clear aC aD aE aF aJ au ar R b0 b1 b2 b6 ih;generalize aY:exF E g e false b[c] (at_+1+kC (b.take c))=aB at *;have aM:Hid (∀q,aB=.ok q->q.2=at_+1+kC (b.take (c+1))):=fun q av=>ay.out q av
   clear aY ay
   cases aB with
   | bad aT aS =>
    have aO:Hid (s=.bad aT aS):=by
     show _=_;rw[<- aj.out,HP.out];rfl
    go_wp2_with (go_at_call 159;refine ak.mono ?_;rintro d ag ⟨rfl,f⟩)
    exact⟨rfl,PL.mkBad aO.out f⟩
   | ok q =>
    have aP:Hid (r=vW (n++[q.1]) (exL E g e (b.drop (c+1)) q.2)):=HP.out;have az:=aM.out q rfl;obtain⟨ba,bn⟩:=q;dsimp only at az ak;subst az;go_wp2_with (go_at_call 159;refine ak.mono ?_;rintro d ag ⟨rfl,C,a3⟩);have b7:=a3.size;refine⟨⟨c+1,n++[ba],oA,oC,oC,aX.trans a3,by simp at b7;omega,Q4.grown G a3 oE,K.kept a3 oE,C,aP.out⟩,by simp[intOf];omega⟩
  ·obtain rfl:c=b.length:=oA
   have aA:Hid (r=.ok (n,at_+1+kC b)):=by
    show _=_;rw[R.out,List.drop_eq_nil_of_le oA,jG oA];simp[exL,vW]
   rw[jG oA]at j;have ap:=j.variable b8 b9 at_
   have ai:Hid (s=match xM kf vs o with
     | none=>.bad 4 at_
     | some v=>if decide (0<v.size)=(h==17)then .ok (v,n.getLast?.getD 0,at_+1+kC b)else .bad 3 at_):=by
    show _=_;rw[<- aj.out,aA.out];rfl
   clear aA R ih ar aK;generalize at_+1+kC b=aR at *;generalize n.getLast?.getD 0=a6 at *;generalize xM kf vs o=aQ at *
   cases aQ with
   | none =>
    have B:Hid (s=.bad 4 at_):=ai.out;go_wp2_with (go_at_call 198;refine ap.mono ?_;rintro d ag ⟨f,m⟩;obtain rfl:d=.panicked (qG 4 at_):=m)
    exact⟨rfl,PL.mkBad B.out (j.bs.trans (f.mono j.bs.size))⟩
   | some v =>
    by_cases z:h=17
    ·by_cases M:0<v.size
     ·skip;have L:decide (0<v.size)=true:=by simp[M]
      exact zl8
     ·skip;have L:decide (0<v.size)=false:=by simp[M]
      exact zl9
    ·by_cases M:0<v.size
     ·skip;have L:decide (0<v.size)=true:=by simp[M]
      have aV:(h==17)=false:=by simp[z]
      have aW:decide (h=17)=false:=by simp[z]
      exact zl9
     ·skip;have L:decide (0<v.size)=false:=by simp[M]
      have aV:(h==17)=false:=by simp[z]
      have aW:decide (h=17)=false:=by simp[z]
      exact zl8
end
def xV:List Int->List Int->Bool
 | p :: r,l :: s=>zA p [l]&&xV r s
 | _,_=>true
theorem zxi {w:World} {e:Nat} {d:Value} {b:List Int} (l:b.length<=1000000) (c:w.ownsRow e 3 1 d b.length (intV b)):IntsIn w d b:=by
 obtain⟨a,f,rfl,_,h⟩:=lexs.own_shape c;refine⟨a,f,rfl,oA,fun i=>?_⟩;have j:0<b.length:=List.length_pos_iff.2 i;obtain⟨g,rfl⟩:=h j;refine⟨g,0,rfl,fun k hi=>?_⟩;rw[Nat.zero_add];refine(c.cellAt k oA).trans ?_;unfold intV;rw[List.getElem?_map,List.getElem?_eq_getElem hi];rfl
theorem zb6 (w:World) (a:Int):IntsIn (w.alloc (.cells #[.int .i64 a] 3)) (.slice (some ⟨w.heap.size,0,none⟩) 1 1) [a] :=
 ⟨_,_,rfl,oC,fun _=>⟨_,_,rfl,fun b hi=>by obtain rfl:b=0:=by { simp at hi;exact hi };simp⟩⟩
theorem ztk {ps b:List Int} {a:Nat} (c:a<ps.length) (d:a<b.length):xV (ps.drop a) (b.drop a)=(zA ps[a] [b[a]]&&xV (ps.drop (a+1)) (b.drop (a+1))):=by
 rw[List.drop_eq_getElem_cons c,List.drop_eq_getElem_cons d];rfl
def clP (kf:ByteArray->Option FV) (ctx:Int) (alone:Bool) (x:ByteArray) (a:Int):Res (List Int × Int)->Res (ProcD × Int)
 | .bad c b=>.bad c b
 | .ok q=>match uK kf x with
  | none=>.bad 4 a
  | some p=>if q.1.length≠p.params.length then .bad 6 a else if(!p.gives&&!alone)=true then .bad 3 a else if xV p.params q.1=false then .bad 7 a else if zA p.writes [ctx]=false then .bad 7 a else .ok (p,q.2)
def CL (w0:World) (D Kb kn:Nat) (kf:KF) (vs:List VarD) (u:Value) (w:World) (r:Res (ProcD × Int)) (e:Ending) (w':World):Prop:=match r with
 | .bad c b=>e=.panicked (qG c b)/\Below w0.heap.size w0 w'
 | .ok q=>(∃z,e=.returned (zN q.1 z))/\CS w0 w' D Kb kn kf vs u q.2/\Fr D w w'
section
variable {w0:World} {D Kb kn:Nat} {kf:KF} {vs:List VarD} {u:Value}
theorem CL.mkBad {w w':World} {c:Res (ProcD × Int)} {b a:Int} (d:c=.bad b a) (e:Below w0.heap.size w0 w'):CL w0 D Kb kn kf vs u w c (.panicked (qG b a)) w':=by rw[d];exact⟨rfl,e⟩
theorem CL.mkOk {w w':World} {c:Res (ProcD × Int)} {p:ProcD} {d:Value} {a:Int} {b:Ending} (e:c=.ok (p,a)) (g:b=.returned (zN p d)) (f:CS w0 w' D Kb kn kf vs u a) (h:Fr D w w'):CL w0 D Kb kn kf vs u w c b w':=by rw[e];exact⟨⟨d,g⟩,f,h⟩
theorem zrr (E:Env) (z:List Loc) (aB:Int) (Q:ByteArray) (aD:Int) (d:List Tree) (v:Value) (w:World) (g at_:Int) (an:Bool) (c9:∀C∈d,ExT C) (db:qL Q) (ce:Lies (·<w0.heap.size) w0 (.node aB Q aD d) v) (f:CS w0 w D Kb kn kf vs u at_) (cw:0<=at_) (ed:at_+1+kC d<=1000000) (ih:∀b (ba:b<d.length) (v:Value) (w:World) (at_:Int),ExT d[b]->Lies (·<w0.heap.size) w0 d[b] v->CS w0 w D Kb kn kf vs u at_->0<=at_->at_+kD d[b]<=1000000 -> Calls Tryz.prog 159 #[.pointer (some ⟨D,0,none⟩),v,.int .i64 g] w fun c w'=>EX w0 D Kb kn kf vs u w (exF E z g false d[b] at_) c w') : Calls Tryz.prog 183 #[.pointer (some ⟨D,0,none⟩),v,.int .i64 g,.bool an] w fun c w'=>CL w0 D Kb kn kf vs u w (clP kf g an Q at_ (exL E z g d (at_+1))) c w':=by
 have e3:=kc25;have e4:Tryz.prog.cellsOf 91=6:=dP;have e2:Tryz.prog.cellsOf 3=1:=zqe;obtain⟨df,hi,dc,dd,de⟩:=info_parts infoI;unfold Lies at ce;obtain⟨a,a7,rfl,ea,bb⟩:=ce;have e8:=kX d;have e9:=f.lt;have eb:=dF d;obtain⟨a2,b8⟩:∃a2,exL E z g d (at_+1)=a2:=⟨_,rfl⟩
 rw[b8];have cp:Hid (exL E z g d (at_+1)=a2):=b8;clear b8;obtain⟨K,aY⟩:∃K,Hid (clP kf g an Q at_ a2=K):=⟨_,rfl⟩
 rw[aY.out];have b6:=(f.alloc (.cells #[.int .i64 aB,.string Q,.int .i64 aD,.slice a d.length a7] 25)).alloc (.cells #[.string ⟨#[]⟩,.bool false,.slice none 0 0,.int .i64 0,.bool false,.int .i64 0] 91);have bM:=b6.begin cw oA;have eg:=f.fm;have e7:=f.mp.lt;have bf:∀s,u.ownBlock=some s->s<w.heap.size:=fun s c=>(f.rl.lt _ c).2
 clear f;go_enter Tryz.func183,Tryz.ntmps183;go_wp2_with (go_at_call 81;refine bM.mono ?_;rintro c aX ⟨rfl,aA⟩;have aL:CS w0 aX D Kb kn kf vs u (at_+1):=by { rw[aA];exact b6.setAt _ };have au:Q4 w.heap.size (.int .i64 aB) (.string Q) (.int .i64 aD) (.slice a d.length a7) aX:=by { rw[aA];exact Q4.other oA ⟨oC,oC,oC,oC⟩ _ _ };have bN:Fr D w aX:=by { rw[aA];exact(((Fr.refl _ _).alloc _).alloc _).set _ _ };have av:Box6 aX (w.heap.size+1) (.string ⟨#[]⟩) (.bool false) (.slice none 0 0) (.int .i64 0) (.bool false) (.int .i64 0):=by { rw[aA];have:=Box6.new (w.alloc (.cells #[.int .i64 aB,.string Q,.int .i64 aD,.slice a d.length a7] 25)) (.string ⟨#[]⟩) (.bool false) (.slice none 0 0) (.int .i64 0) (.bool false) (.int .i64 0) 91;rw[jP]at this;exact this.other oA _ };clear aA;obtain⟨aT,aU,aV,aW⟩:=id au);clear b6 bM aT aU aV aW;go_loopw [10,21] (fun dz C wr=>∃(b:Nat) (e:List Int),b<=d.length/\C=.int .i64 b/\e.length=b/\wr.ownsRow (w.heap.size+1+1) 3 1 dz e.length (intV e)/\Fr D w wr/\w.heap.size+1+1<=wr.heap.size/\Q4 w.heap.size (.int .i64 aB) (.string Q) (.int .i64 aD) (.slice a d.length a7) wr/\Box6 wr (w.heap.size+1) (.string ⟨#[]⟩) (.bool false) (.slice none 0 0) (.int .i64 0) (.bool false) (.int .i64 0)/\CS w0 wr D Kb kn kf vs u (at_+1+kC (d.take b))/\Hid (a2=vW e (exL E z g (d.drop b) (at_+1+kC (d.take b))))) (fun _ C _=>d.length - (intOf C).toNat)
 case atStart =>
  have L:=av.lt;refine⟨0,[],jz _,rfl,rfl,World.ownsRow_nil _ _ _ _,bN,oA,au,av,by simpa[kC] using aL,?_⟩;show _=_;rw[<- cp.out,List.drop_zero];simp only[List.take_zero,kC,Int.add_zero]
  cases exL E z g d (at_+1)with
  | bad a7 s=>rfl
  | ok q=>rfl
 case round =>
  clear aL au bN av;obtain⟨b,e,ba,rfl,cb,a5,ar,cd,aM,aw,t,aH⟩:=hrel;obtain⟨aT,aU,aV,aW⟩:=id aM;have ak:Hid (e.length=b):=cb;clear cb;by_cases y:b<d.length
  ·obtain⟨aK,aS,rfl,aO,c6⟩:=bb (by intro c;rw[c]at y;simp at y);obtain⟨em,⟨ep,eq,er,eu,rfl,bB,bC,bF,bG⟩,bc⟩:=c6.get b y;obtain⟨aC,aG,aE,_,ah,am,aF,ao,rfl⟩:=bc.shape;injection ah with ah;simp only[Array.mk.injEq,jq,and_true]at ah;obtain⟨rfl,rfl,rfl,rfl⟩:=ah;have eh:=(t.bs.cell (p:=⟨aK,aS+b*4,none⟩) aO).trans bB;have dh:=(t.bs.cell (p:=⟨aK,aS+b*4+1,none⟩) aO).trans bC;have di:=(t.bs.cell (p:=⟨aK,aS+b*4+2,none⟩) aO).trans bF;have ei:=(t.bs.cell (p:=⟨aK,aS+b*4+3,none⟩) aO).trans bG;have d2:=fE d b y;have d3:=fA d (b+1);have d4:=kU d[b];have d5:=kX (d.take b);have aL:=t.alloc (.cells #[.int .i64 aC,.string aG,.int .i64 aE,.slice am aF ao] 25);have cx:=ar.alloc (.cells #[.int .i64 aC,.string aG,.int .i64 aE,.slice am aF ao] 25);have au:=Q4.alloc aM (.cells #[.int .i64 aC,.string aG,.int .i64 aE,.slice am aF ao] 25);have av:=aw.alloc (.cells #[.int .i64 aC,.string aG,.int .i64 aE,.slice am aF ao] 25);have b2:=ih b y _ _ _ (c9 _ (jH y)) bc aL oA oA
   have HP:Hid (a2=match exF E z g false d[b] (at_+1+kC (d.take b))with
     | .bad a7 s=>.bad a7 s
     | .ok q=>vW (e++[q.1]) (exL E z g (d.drop (b+1)) q.2)):=aH.out.trans (zgc E z g d b y e _)
   have W:Hid (∀q,exF E z g false d[b] (at_+1+kC (d.take b))=.ok q->q.2=at_+1+kC (d.take (b+1))):=fun q be=>by
    have:=cI E z g _ _ _ _ be;omega
   have ec:e.length<=1000000:=by have:=ak.out;omega
   have ca:=ak.out;obtain⟨ai,aj,rfl,_,_⟩:=lexs.own_shape a5;rw[ca]at a5 |-;clear ca;clear bB bC bF bG c6 bc bb aH d2 d3 d4 d5 ih;generalize cz:exF E z g false d[b] (at_+1+kC (d.take b))=bA at *;have af:Hid (∀q,bA=.ok q->q.2=at_+1+kC (d.take (b+1))):=fun q be=>W.out q be
   clear cz W
   cases bA with
   | bad cv cu =>
    have cq:Hid (K=.bad cv cu):=by
     show _=_;rw[<- aY.out,HP.out];rfl
    go_wp2_with (go_at_call 159;refine b2.mono ?_;rintro c i ⟨rfl,j⟩)
    exact⟨rfl,CL.mkBad cq.out j⟩
   | ok q =>
    have cr:Hid (a2=vW (e++[q.1]) (exL E z g (d.drop (b+1)) q.2)):=HP.out;have bw:=af.out q rfl;obtain⟨cg,e1⟩:=q;dsimp only at bw b2;subst bw;have d0:=a5.alloc (.cells #[.int .i64 aC,.string aG,.int .i64 aE,.slice am aF ao] 25);have cL:some D≠(Value.slice ai b aj).ownBlock:=fun c=>by have:=(a5.lt _ c.symm).1;omega
    have cR:(Value.slice ai b aj).ownBlock=none\/(Value.slice ai b aj).ownBlock≠some D:=by
     cases c:(Value.slice ai b aj).ownBlock with
     | none=>exact .inl rfl
     | some s=>exact .inr (fun b0=>cL (by rw[c,b0]))
    go_wp2_with first
     | (go_at_call 159;refine b2.mono ?_;rintro c i ⟨rfl,T,ax⟩;have cc:=d0.kept ax cR;have da:=ax.size;rw[jP]at da)
     | (at_builtin;refine wpList_append_own _ rfl (.tmp 25) (.tmp 30) 34 rfl (w.heap.size+1+1) 3 df (.int .i64 0) 1 8 Tryz.underlying34 hi dc dd de rfl oD _ _ _ rfl (cc.alloc _) ⟨i.heap.size,0,none⟩ 1 1 [.int .i64 cg] rfl rfl (zaq _ _ _ oC) (zoc _) (by unfold maxLen;omega) oA oE ?_;intro en eo d1 ay ef)
     | go_in
    have aP:∀s,(Value.slice ai b aj).ownBlock=some s->w.heap.size+1+1<=s:=fun s c=>(cc.lt _ c).1
    have d6:=ay.size;simp only[jP]at d6;refine⟨⟨b+1,e++[cg],oA,oC,by simp[ak.out],?_,?_,oA,?_,?_,?_,cr.out⟩,by simp[intOf];omega⟩;·rw[jb,zkg,ak.out];exact d1
    ·exact World.grownBy.andThen ((cx.trans ax).alloc _) ay (fun s c=>.inl (by have:=aP s c;omega))
    ·exact Q4.grown (Q4.alloc (Q4.grown au ax oE) _) ay (fun c=>by have:=aP _ c;omega)
    ·exact((av.grown ax oE).alloc _).grown ay (fun c=>by have:=aP _ c;omega)
    ·exact(T.alloc _).grown ay (fun s c=>by have:=aP s c;exact⟨oA,oA,fun b0=>by have:=bf s b0;omega,oA⟩)
  ·obtain rfl:b=d.length:=oA
   have bz:Hid (a2=.ok (e,at_+1+kC d)):=by
    show _=_;rw[aH.out,List.drop_eq_nil_of_le oA,jG oA];simp[exL,vW]
   rw[jG oA]at t;have ae:=t.procedure db at_
   have ag:Hid (K=match uK kf Q with
     | none=>.bad 4 at_
     | some p=>if e.length≠p.params.length then .bad 6 at_ else if(!p.gives&&!an)=true then .bad 3 at_ else if xV p.params e=false then .bad 7 at_ else if zA p.writes [g]=false then .bad 7 at_ else .ok (p,at_+1+kC d)):=by
    show _=_;rw[<- aY.out,bz.out];rfl
   have cH:e.length<=1000000:=by have:=ak.out;omega
   clear bz aH ih bb c9;generalize at_+1+kC d=aI at *;generalize uK kf Q=ct at *
   cases ct with
   | none =>
    have G:Hid (K=.bad 4 at_):=ag.out;go_wp2_with (go_at_call 199;refine ae.mono ?_;rintro c i ⟨j,ah⟩;obtain rfl:c=.panicked (qG 4 at_):=ah)
    exact⟨rfl,CL.mkBad G.out (t.bs.trans (j.mono t.bs.size))⟩
   | some p =>
    have aR:=zxi cH a5;obtain⟨ai,aj,rfl,_,_⟩:=lexs.own_shape a5;obtain⟨n,m,ps,h,ch,o⟩:=p;dsimp only at ag;by_cases az:e.length=ps.length
    ·cases ch with
     | true =>
      skip
      go_wp2_with first
       | (go_at_call 199;refine ae.mono ?_;rintro c i ⟨j,bv,rfl,L⟩;obtain⟨k,l,rfl,bj,a6⟩:=id L;unfold zN;have T:=(t.below j).alloc (.cells #[.string n,.bool m,.slice k ps.length l,.int .i64 h,.bool true,.int .i64 o] 91))
       | fail
      have aN:=Box6.new i (.string n) (.bool m) (.slice k ps.length l) (.int .i64 h) (.bool true) (.int .i64 o) 91;have ad:Below i.heap.size i (i.alloc (.cells #[.string n,.bool m,.slice k ps.length l,.int .i64 h,.bool true,.int .i64 o] 91)):=bal _;have bh:=(aR.below j).below ad;have cf:=L.below ad;have bP:Fr D w (i.alloc (.cells #[.string n,.bool m,.slice k ps.length l,.int .i64 h,.bool true,.int .i64 o] 91)):=(ar.trans (Fr.below j)).alloc _;have bX:=(aw.below j).alloc (.cells #[.string n,.bool m,.slice k ps.length l,.int .i64 h,.bool true,.int .i64 o] 91);have cy:w.heap.size+1+1<=i.heap.size:=jp cd j.size;clear ad j L a6 aR ar aw a5 ae aM aT aU aV aW t;generalize i.alloc (.cells #[.string n,.bool m,.slice k ps.length l,.int .i64 h,.bool true,.int .i64 o] 91)=R at *;generalize i.heap.size=aZ at *;go_loopw [57] (fun C bn=>∃b:Nat,b<=ps.length/\C=.int .i64 b/\Hid (xV ps e=xV (ps.drop b) (e.drop b))/\Below R.heap.size R bn) (fun C _=>ps.length - (intOf C).toNat)
      case atStart=>exact⟨0,jz _,rfl,rfl,Below.refl _ _⟩
      case round =>
       obtain⟨b,ba,rfl,W,B⟩:=hrel;have b9:Hid (Below R.heap.size R wr):=B;have b7:=T.below B;obtain⟨bo,bp,bq,e0,br,bu,_,_,_,_,_,_⟩:=aN.below B;by_cases y:b<ps.length;·obtain⟨_,_,aJ,_,bi⟩:=bh.below B;exact zl7
       ·obtain rfl:b=ps.length:=oA
        have af:Hid (xV ps e=true):=by
         show _=_;rw[W.out,List.drop_eq_nil_of_le (jE _),List.drop_eq_nil_of_le oA];rfl
        have N:=dT at_ h [g] (.slice (some ⟨wr.heap.size,0,none⟩) 1 1) (wr.alloc (.cells #[.int .i64 g] 3)) (zb6 _ _);cases P:zA h [g]
        ·have G:Hid (K=.bad 7 at_):=by
          exact zdp
         exact zma
        ·have G:Hid (K=.ok (⟨n,m,ps,h,true,o⟩,aI)):=by
          exact zdp
         have a3:=N.mono (R':=fun c w'=>c=.returned (.tuple #[])/\w'=wr.alloc (.cells #[.int .i64 g] 3)) (fun c w' f=>by
          rcases f with⟨_,S⟩|⟨x,_⟩
          ·exact S
          ·rw[P]at x;cases x)
         clear N
         have ap:∀r,r=wr.alloc (.cells #[.int .i64 g] 3)->CS w0 r D Kb kn kf vs u aI/\Fr D w r/\Box6 r aZ (.string n) (.bool m) (.slice k ps.length l) (.int .i64 h) (.bool true) (.int .i64 o)/\Box6 r (w.heap.size+1) (.string ⟨#[]⟩) (.bool false) (.slice none 0 0) (.int .i64 0) (.bool false) (.int .i64 0):=fun r c=>by
          exact zmd
         clear bo bp bq br bu;go_wp2_with (go_at_call 158;refine a3.mono ?_;rintro c r ⟨rfl,V⟩;obtain⟨bS,bR,⟨dk,dl,dm,dn,dp,dq,_,_,_,_,_,_⟩,⟨ci,cj,ck,cm,cn,co,dt,du,dw,dx,dr,ds⟩⟩:=ap r V;clear V ap);have a8:w.heap.size+1≠D:=oA;have a9:w.heap.size+1≠Kb:=oA;have aa:u.ownBlock≠some (w.heap.size+1):=fun c=>by have:=bf _ c;omega
         have ab:kf.M<=w.heap.size+1:=oA;have ac:w.heap.size<=w.heap.size+1:=oA;refine jU (v:=zN ⟨n,m,ps,h,true,o⟩ (.slice k ps.length l)) zmg rfl ?_
         exact zmb
     | false =>
      cases an with
      | true =>
       go_wp2_with first
        | (go_at_call 199;refine ae.mono ?_;rintro c i ⟨j,bv,rfl,L⟩;obtain⟨k,l,rfl,bj,a6⟩:=id L;unfold zN;have T:=(t.below j).alloc (.cells #[.string n,.bool m,.slice k ps.length l,.int .i64 h,.bool false,.int .i64 o] 91))
        | fail
       have aN:=Box6.new i (.string n) (.bool m) (.slice k ps.length l) (.int .i64 h) (.bool false) (.int .i64 o) 91;have ad:Below i.heap.size i (i.alloc (.cells #[.string n,.bool m,.slice k ps.length l,.int .i64 h,.bool false,.int .i64 o] 91)):=bal _;have bh:=(aR.below j).below ad;have cf:=L.below ad;have bP:Fr D w (i.alloc (.cells #[.string n,.bool m,.slice k ps.length l,.int .i64 h,.bool false,.int .i64 o] 91)):=(ar.trans (Fr.below j)).alloc _;have bX:=(aw.below j).alloc (.cells #[.string n,.bool m,.slice k ps.length l,.int .i64 h,.bool false,.int .i64 o] 91);have cy:w.heap.size+1+1<=i.heap.size:=jp cd j.size;clear ad j L a6 aR ar aw a5 ae aM aT aU aV aW t;generalize i.alloc (.cells #[.string n,.bool m,.slice k ps.length l,.int .i64 h,.bool false,.int .i64 o] 91)=R at *;generalize i.heap.size=aZ at *;go_loopw [57] (fun C bn=>∃b:Nat,b<=ps.length/\C=.int .i64 b/\Hid (xV ps e=xV (ps.drop b) (e.drop b))/\Below R.heap.size R bn) (fun C _=>ps.length - (intOf C).toNat)
       case atStart=>exact⟨0,jz _,rfl,rfl,Below.refl _ _⟩
       case round =>
        obtain⟨b,ba,rfl,W,B⟩:=hrel;have b9:Hid (Below R.heap.size R wr):=B;have b7:=T.below B;obtain⟨bo,bp,bq,e0,br,bu,_,_,_,_,_,_⟩:=aN.below B;by_cases y:b<ps.length;·obtain⟨_,_,aJ,_,bi⟩:=bh.below B;exact zl7
        ·obtain rfl:b=ps.length:=oA
         have af:Hid (xV ps e=true):=by
          show _=_;rw[W.out,List.drop_eq_nil_of_le (jE _),List.drop_eq_nil_of_le oA];rfl
         have N:=dT at_ h [g] (.slice (some ⟨wr.heap.size,0,none⟩) 1 1) (wr.alloc (.cells #[.int .i64 g] 3)) (zb6 _ _);cases P:zA h [g]
         ·have G:Hid (K=.bad 7 at_):=by
           exact zdp
          exact zma
         ·have G:Hid (K=.ok (⟨n,m,ps,h,false,o⟩,aI)):=by
           exact zdp
          have a3:=N.mono (R':=fun c w'=>c=.returned (.tuple #[])/\w'=wr.alloc (.cells #[.int .i64 g] 3)) (fun c w' f=>by
           rcases f with⟨_,S⟩|⟨x,_⟩
           ·exact S
           ·rw[P]at x;cases x)
          clear N
          have ap:∀r,r=wr.alloc (.cells #[.int .i64 g] 3)->CS w0 r D Kb kn kf vs u aI/\Fr D w r/\Box6 r aZ (.string n) (.bool m) (.slice k ps.length l) (.int .i64 h) (.bool false) (.int .i64 o)/\Box6 r (w.heap.size+1) (.string ⟨#[]⟩) (.bool false) (.slice none 0 0) (.int .i64 0) (.bool false) (.int .i64 0):=fun r c=>by
           exact zmd
          clear bo bp bq br bu;go_wp2_with (go_at_call 158;refine a3.mono ?_;rintro c r ⟨rfl,V⟩;obtain⟨bS,bR,⟨dk,dl,dm,dn,dp,dq,_,_,_,_,_,_⟩,⟨ci,cj,ck,cm,cn,co,dt,du,dw,dx,dr,ds⟩⟩:=ap r V;clear V ap);have a8:w.heap.size+1≠D:=oA;have a9:w.heap.size+1≠Kb:=oA;have aa:u.ownBlock≠some (w.heap.size+1):=fun c=>by have:=bf _ c;omega
          have ab:kf.M<=w.heap.size+1:=oA;have ac:w.heap.size<=w.heap.size+1:=oA;refine jU (v:=zN ⟨n,m,ps,h,false,o⟩ (.slice k ps.length l)) zmg rfl ?_
          exact zmb
      | false =>
       have G:Hid (K=.bad 3 at_):=by
        show _=_;rw[ag.out];simp[az]
       go_wp2_with first
        | (go_at_call 199;refine ae.mono ?_;rintro c i ⟨j,bv,rfl,L⟩;obtain⟨k,l,rfl,bj,a6⟩:=id L;unfold zN;have T:=(t.below j).alloc (.cells #[.string n,.bool m,.slice k ps.length l,.int .i64 h,.bool false,.int .i64 o] 91))
        | (go_at_call 128;refine(vO 3 at_ _).mono ?_;rintro c dy ⟨rfl,bg⟩;rw[bg])
       exact⟨rfl,CL.mkBad G.out T.bs⟩
    ·have G:Hid (K=.bad 6 at_):=by
      show _=_;rw[ag.out];simp[az]
     have ee:¬((e.length:Int)=(ps.length:Int)):=oA
     go_wp2_with first
      | (go_at_call 199;refine ae.mono ?_;rintro c i ⟨j,bv,rfl,L⟩;obtain⟨k,l,rfl,bj,a6⟩:=id L;unfold zN;have T:=(t.below j).alloc (.cells #[.string n,.bool m,.slice k ps.length l,.int .i64 h,.bool ch,.int .i64 o] 91))
      | (go_at_call 128;refine(vO 6 at_ _).mono ?_;rintro c dy ⟨rfl,bg⟩;rw[bg])
     exact⟨rfl,CL.mkBad G.out T.bs⟩
end
structure Agr (E:Env) (L:List Loc) (ctx:Int) (kf:ByteArray->Option FV) (vs:List VarD):Prop where
 pl:∀(k:Int) (x:ByteArray) (a a':Int) (ls:List Int),(k=16/\ls=[]\/k=17/\∃l,ls=[l])->qL x->(match plP kf vs k x a (.ok (ls,a'))with
  | .bad c b=>Res.bad c b
  | .ok q=>.ok (jn q.1.label q.2.1,q.2.2))=match yV E L ctx false k x ls a with
  | .bad c b=>.bad c b
  | .ok l=>.ok (l,a')
 cl:∀(alone:Bool) (x:ByteArray) (a a':Int) (ls:List Int),qL x->(match clP kf ctx alone x a (.ok (ls,a'))with
  | .bad c b=>Res.bad c b
  | .ok q=>.ok (q.1.given,q.2))=match yV E L ctx alone 18 x ls a with
  | .bad c b=>.bad c b
  | .ok l=>.ok (l,a')
theorem exL_len (E:Env) (b:List Loc) (c:Int):∀(f:List Tree) (a:Int) (q:List Int × Int),exL E b c f a=.ok q->q.1.length=f.length
 | [],a,q,h=>by
  simp only[exL,Res.ok.injEq]at h;rw[<- h]
  rfl
 | t :: r,a,q,h=>by
  unfold exL at h
  cases e:exF E b c false t a with
  | bad i g=>rw[e]at h;cases h
  | ok j =>
   rw[e]at h;dsimp only at h
   cases d:exL E b c r j.2 with
   | bad i g=>rw[d]at h;cases h
   | ok k =>
    rw[d]at h;simp only[Res.ok.injEq]at h;rw[<- h];simp[exL_len E b c r _ _ d]
theorem Agr.place {E:Env} {c:List Loc} {d:Int} {kf:ByteArray->Option FV} {vs:List VarD} (f:Agr E c d kf vs) {b:Int} {g:ByteArray} {m:Int} {e:List Tree} {a:Int} (o:b=16\/b=17) (k:ExT (.node b g m e)) : exF E c d false (.node b g m e) a=match plP kf vs b g a (exL E c d e (a+1))with
   | .bad j i=>Res.bad j i
   | .ok q=>.ok (jn q.1.label q.2.1,q.2.2):=by
 have p:=k.kids.2.1 (by rcases o with f | f<;>simp[f])
 cases h:exL E c d e (a+1)with
 | bad j i=>rw[zg6 h];rfl
 | ok q =>
  obtain⟨r,n⟩:=q;rw[zh1 h];have l:=exL_len E c d e _ _ h;refine(f.pl b g a n r ?_ p).symm
  cases k with
  | num t=>omega
  | nam _=>exact .inl ⟨rfl,List.eq_nil_of_length_eq_zero l⟩
  | item _ s=>exact .inr ⟨rfl,List.length_eq_one_iff.1 l⟩
  | call _ _=>omega
  | op _ _=>omega
  | neg _=>omega
  | nott _=>omega
theorem Agr.call {E:Env} {c:List Loc} {b:Int} {kf:ByteArray->Option FV} {vs:List VarD} (k:Agr E c b kf vs) {e:Bool} {d:ByteArray} {n:Int} {f:List Tree} {a:Int} (l:qL d) : exF E c b e (.node 18 d n f) a=match clP kf b e d a (exL E c b f (a+1))with
   | .bad h g=>Res.bad h g
   | .ok q=>.ok (q.1.given,q.2):=by
 cases i:exL E c b f (a+1)with
 | bad h g=>rw[zg6 i];rfl
 | ok q =>
  obtain⟨m,j⟩:=q;rw[zh1 i];exact(k.cl e d a j m l).symm
theorem zyg (E:Env) (d:List Loc) (e:Int) (b:Int) (i:ByteArray) (c:List Int) (a:Int) (f:b≠16) (g:b≠17) (h:b≠18):yV E d e false b i c a=.ok (joinL c 0):=by
 unfold yV;rw[ju f,ju g,ju h]
theorem ybe (a c d e f b:Value) (w:World):(Instr.field 91 (.agg #[a,c,d,e,f,b]) 5).run Tryz.prog w=.ok b w:=oB
section
variable {w0:World} {D Kb kn:Nat} {kf:KF} {vs:List VarD} {u:Value}
theorem EX.mkBad {w w':World} {c:Res (Int × Int)} {b a:Int} (d:c=.bad b a) (e:Below w0.heap.size w0 w'):EX w0 D Kb kn kf vs u w c (.panicked (qG b a)) w':=by rw[d];exact⟨rfl,e⟩
theorem EX.mkOk {w w':World} {d:Res (Int × Int)} {c a:Int} {b:Ending} (e:d=.ok (c,a)) (g:b=.returned (.int .i64 c)) (f:CS w0 w' D Kb kn kf vs u a) (h:Fr D w w'):EX w0 D Kb kn kf vs u w d b w':=by rw[e];exact⟨g,f,h⟩
theorem fU (E:Env) (d:List Loc) (c:Int) (ai:Agr E d c kf vs) (aN:vs.length<=1000) (i:Tree) (v:Value) (w:World) (at_:Int) (a5:ExT i) (ar:Lies (·<w0.heap.size) w0 i v) (G:CS w0 w D Kb kn kf vs u at_) (ah:0<=at_) (ba:at_+kD i<=1000000) : Calls Tryz.prog 159 #[.pointer (some ⟨D,0,none⟩),v,.int .i64 c] w fun e w'=>EX w0 D Kb kn kf vs u w (exF E d c false i at_) e w':=by
 match i with
 | .node k x m ks =>
  have ih:∀b (am:b<ks.length) (v:Value) (w:World) (at_:Int),ExT ks[b]->Lies (·<w0.heap.size) w0 ks[b] v->CS w0 w D Kb kn kf vs u at_->0<=at_->at_+kD ks[b]<=1000000 ->
    Calls Tryz.prog 159 #[.pointer (some ⟨D,0,none⟩),v,.int .i64 c] w fun e w'=>EX w0 D Kb kn kf vs u w (exF E d c false ks[b] at_) e w':=fun b am v w at_ aX aY aZ b0 b1=>fU E d c ai aN ks[b] v w at_ aX aY aZ b0 b1
  obtain⟨an,aM,bB⟩:=a5.kids;have bu:=kc25;have bv:Tryz.prog.cellsOf 87=4:=cell4;have b9:kD (.node k x m ks)=1+kC ks:=by unfold kD;omega
  rw[b9]at ba;have a7:=ar;unfold Lies at ar;obtain⟨a,f,rfl,bC,R⟩:=ar;have b6:Below w.heap.size w (w.alloc (.cells #[.int .i64 k,.string x,.int .i64 m,.slice a ks.length f] 25)):=bal _;have Q:=G.alloc (.cells #[.int .i64 k,.string x,.int .i64 m,.slice a ks.length f] 25);have W:Fr D w (w.alloc (.cells #[.int .i64 k,.string x,.int .i64 m,.slice a ks.length f] 25)):=(Fr.refl _ _).alloc _;obtain⟨g,ak⟩:∃g,exF E d c false (.node k x m ks) at_=g:=⟨_,rfl⟩
  rw[ak];have o:Hid (exF E d c false (.node k x m ks) at_=g):=ak;clear ak;by_cases K:k=16\/k=17
  ·have a9:=aM (by rcases K with G | G<;>simp[G]);have t:=zh6 E d aN k x m ks _ _ c at_ an a9 a7 Q ah oA ih
   have M:Hid (g=match plP kf vs k x at_ (exL E d c ks (at_+1))with
     | .bad f C=>Res.bad f C
     | .ok q=>.ok (jn q.1.label q.2.1,q.2.2)):=by
    show _=_;rw[<- o.out];exact ai.place K a5
   clear o ih R a7 a5;generalize plP kf vs k x at_ (exL E d c ks (at_+1))=ad at *
   cases ad with
   | bad P N =>
    have j:Hid (g=.bad P N):=M.out;rcases K with rfl | rfl
    ·go_enter Tryz.func159,Tryz.ntmps159;go_wp2_with (go_at_call 182;refine t.mono ?_;rintro e n ⟨rfl,y⟩);exact⟨rfl,EX.mkBad j.out y⟩
    ·go_enter Tryz.func159,Tryz.ntmps159;go_wp2_with (go_at_call 182;refine t.mono ?_;rintro e n ⟨rfl,y⟩)
     exact⟨rfl,EX.mkBad j.out y⟩
   | ok q =>
    obtain⟨bp,bm,ae⟩:=q;have j:Hid (g=.ok (jn bp.label bm,ae)):=M.out;rcases K with rfl | rfl
    ·go_enter Tryz.func159,Tryz.ntmps159
     go_wp2_with first
      | (go_at_call 182;refine t.mono ?_;rintro e n ⟨rfl,s,l⟩;unfold qE)
      | (go_at_call 185;refine(za9 _ _ _).mono ?_;rintro e aS ⟨rfl,S⟩;rw[S])
     go_ret;exact EX.mkOk j.out rfl (s.alloc _) ((W.trans l).alloc _)
    ·go_enter Tryz.func159,Tryz.ntmps159
     go_wp2_with first
      | (go_at_call 182;refine t.mono ?_;rintro e n ⟨rfl,s,l⟩;unfold qE)
      | (go_at_call 185;refine(za9 _ _ _).mono ?_;rintro e aS ⟨rfl,S⟩;rw[S])
     go_ret;exact EX.mkOk j.out rfl (s.alloc _) ((W.trans l).alloc _)
  ·have bb:k≠16:=fun e=>K (.inl e)
   have bc:k≠17:=fun e=>K (.inr e)
   by_cases aF:k=18
   ·subst aF;have a9:=aM oC;have t:=zrr E d 18 x m ks _ _ c at_ false an a9 a7 Q ah oA ih
    have M:Hid (g=match clP kf c false x at_ (exL E d c ks (at_+1))with
      | .bad f C=>Res.bad f C
      | .ok q=>.ok (q.1.given,q.2)):=by
     show _=_;rw[<- o.out];exact ai.call a9
    clear o ih R a7 a5;generalize clP kf c false x at_ (exL E d c ks (at_+1))=ad at *
    cases ad with
    | bad P N =>
     have j:Hid (g=.bad P N):=M.out;go_enter Tryz.func159,Tryz.ntmps159;go_wp2_with (go_at_call 183;refine t.mono ?_;rintro e n ⟨rfl,y⟩)
     exact⟨rfl,EX.mkBad j.out y⟩
    | ok q =>
     obtain⟨p,ae⟩:=q;have j:Hid (g=.ok (p.given,ae)):=M.out;go_enter Tryz.func159,Tryz.ntmps159;go_wp2_with (go_at_call 183;refine t.mono ?_;rintro e n ⟨⟨bq,rfl⟩,s,l⟩;unfold zN;have bA:=ybe (.string p.name) (.bool p.pub) bq (.int .i64 p.writes) (.bool p.gives) (.int .i64 p.given) n);go_ret;exact EX.mkOk j.out rfl s (W.trans l)
   ·have bw:=kX ks;have aG:=Q.begin ah oA;have bz:=G.lt;have bF:=dF ks;obtain⟨B,aK⟩:∃B,exL E d c ks (at_+1)=B:=⟨_,rfl⟩
    have ac:Hid (exL E d c ks (at_+1)=B):=aK;clear aK;go_enter Tryz.func159,Tryz.ntmps159;go_wp2_with (go_at_call 81;refine aG.mono ?_;rintro e ab ⟨rfl,a8⟩;have a2:CS w0 ab D Kb kn kf vs u (at_+1):=by { rw[a8];exact Q.setAt _ };have L:Q4 w.heap.size (.int .i64 k) (.string x) (.int .i64 m) (.slice a ks.length f) ab:=by { rw[a8];exact Q4.other oA ⟨oC,oC,oC,oC⟩ _ _ };have aH:Fr D w ab:=by { rw[a8];exact((Fr.refl _ _).alloc _).set _ _ };clear a8;obtain⟨aO,aP,aQ,aR⟩:=id L);clear Q aG aO aP aQ aR G b6 W;go_loopw [9,40] (fun bo i wr=>∃(b:Nat) (h:List Int),b<=ks.length/\i=.int .i64 b/\bo=.int .i64 (joinL h 0)/\Fr D w wr/\w.heap.size+1<=wr.heap.size/\Q4 w.heap.size (.int .i64 k) (.string x) (.int .i64 m) (.slice a ks.length f) wr/\CS w0 wr D Kb kn kf vs u (at_+1+kC (ks.take b))/\Hid (B=vW h (exL E d c (ks.drop b) (at_+1+kC (ks.take b))))) (fun _ i _=>ks.length - (intOf i).toNat)
    case atStart =>
     have bj:=jS ab ⟨w.heap.size,0,none⟩ L.1;refine⟨0,[],jz _,rfl,rfl,aH,bj,L,by simpa[kC] using a2,?_⟩;show _=_;rw[<- ac.out,List.drop_zero];simp only[List.take_zero,kC,Int.add_zero]
     cases exL E d c ks (at_+1)with
     | bad f C=>rfl
     | ok q=>rfl
    case round =>
     clear a2 L aH;obtain⟨b,h,am,rfl,rfl,aI,bG,aJ,r,T⟩:=hrel;obtain⟨aO,aP,aQ,aR⟩:=id aJ;by_cases z:b<ks.length
     ·obtain⟨V,aa,rfl,a6,aL⟩:=R (by intro e;rw[e]at z;simp at z);obtain⟨bR,⟨bS,bX,c6,c7,rfl,aB,aC,aD,aE⟩,ao⟩:=aL.get b z;obtain⟨au,ax,av,_,a3,af,aw,ag,rfl⟩:=ao.shape;injection a3 with a3;simp only[Array.mk.injEq,jq,and_true]at a3;obtain⟨rfl,rfl,rfl,rfl⟩:=a3;have bK:=(r.bs.cell (p:=⟨V,aa+b*4,none⟩) a6).trans aB;have bM:=(r.bs.cell (p:=⟨V,aa+b*4+1,none⟩) a6).trans aC;have bN:=(r.bs.cell (p:=⟨V,aa+b*4+2,none⟩) a6).trans aD;have bP:=(r.bs.cell (p:=⟨V,aa+b*4+3,none⟩) a6).trans aE;have be:=fE ks b z;have bf:=fA ks (b+1);have bg:=kU ks[b];have bh:=kX (ks.take b);have a2:=r.alloc (.cells #[.int .i64 au,.string ax,.int .i64 av,.slice af aw ag] 25);have b7:=aI.alloc (.cells #[.int .i64 au,.string ax,.int .i64 av,.slice af aw ag] 25);have L:=Q4.alloc aJ (.cells #[.int .i64 au,.string ax,.int .i64 av,.slice af aw ag] 25);have aj:=ih b z _ _ _ (an _ (jH z)) ao a2 oA oA
      have HP:Hid (B=match exF E d c false ks[b] (at_+1+kC (ks.take b))with
        | .bad f C=>.bad f C
        | .ok q=>vW (h++[q.1]) (exL E d c (ks.drop (b+1)) q.2)):=T.out.trans (zgc E d c ks b z h _)
      have ay:Hid (∀q,exF E d c false ks[b] (at_+1+kC (ks.take b))=.ok q->q.2=at_+1+kC (ks.take (b+1))):=fun q ap=>by
       have:=cI E d c _ _ _ _ ap;omega
      clear aB aC aD aE aL ao R T be bf bg bh ih;generalize b8:exF E d c false ks[b] (at_+1+kC (ks.take b))=aA at *;have aT:Hid (∀q,aA=.ok q->q.2=at_+1+kC (ks.take (b+1))):=fun q ap=>ay.out q ap
      clear b8 ay
      cases aA with
      | bad P N =>
       have aU:Hid (g=.bad P N):=by
        show _=_;rw[<- o.out];exact zg6 (ac.out.trans HP.out)
       go_wp2_with (go_at_call 159;refine aj.mono ?_;rintro e n ⟨rfl,y⟩)
       exact⟨rfl,EX.mkBad aU.out y⟩
      | ok q =>
       have aV:Hid (B=vW (h++[q.1]) (exL E d c (ks.drop (b+1)) q.2)):=HP.out;have az:=aT.out q rfl;obtain⟨bn,br⟩:=q;dsimp only at az aj;subst az
       go_wp2_with first
        | (go_at_call 159;refine aj.mono ?_;rintro e n ⟨rfl,s,l⟩)
        | (go_at_call 185;refine(za9 _ _ _).mono ?_;rintro e aS ⟨rfl,S⟩;rw[S])
       have bi:=l.size;rw[jP]at bi;exact⟨⟨b+1,h++[bn],oA,oC,by rw[zjt],b7.trans l,oA,Q4.grown L l oE,s,aV.out⟩,by simp[intOf];omega⟩
     ·obtain rfl:b=ks.length:=oA
      have aW:Hid (g=.ok (joinL h 0,at_+1+kC ks)):=by
       show _=_
       have b2:exL E d c ks (at_+1)=.ok (h,at_+1+kC ks):=by
        rw[ac.out,T.out,List.drop_eq_nil_of_le oA,jG oA];simp[exL,vW]
       rw[<- o.out,zh1 b2,zyg E d c k x h at_ bb bc aF]
      rw[jG oA]at r;clear ih R T o;go_wp2;go_ret;exact EX.mkOk aW.out rfl r aI
termination_by SizeOf.sizeOf i
decreasing_by exact zh4 am
end
end Go.Proofs.YtbjppepjmcfkaaaGreatDoor.chk
namespace Go.Proofs.YtbjppepjmcfkaaaGreatDoor.chk
open syn face
def Lab (l:Int):Prop:=l=0\/l=1
variable {d e:Int} {g i j:List Loc} {k:ByteArray}
theorem zzm (a:Lab d):jn d 0=d:=by
 unfold jn;rcases a with rfl | rfl<;>decide
theorem zzl (a v:Int):jn v a=jn (jn 0 a) v:=by
 unfold jn;by_cases b:v=0<;>by_cases c:a=0<;>simp[b,c]
theorem zkb {p:Int} (a:Int) (b:Lab p):zA p [a]=(p==1||a==0):=by
 unfold zA jn;rcases b with rfl | rfl
 ·by_cases c:a=0<;>simp[c]
 ·simp
theorem zk5:∀(ps a:List Int),(∀p∈ps,Lab p)->xV ps a=bT ps a
 | [],a,h=>by
  cases a<;>rfl
 | p :: r,[],h=>rfl
 | p :: r,l :: s,h=>by
  show(zA p [l]&&xV r s)=((p==1||l==0)&&bT r s)
  rw[zkb l (h p (jJ ..)),zk5 r s (fun q b=>h q (jF _ b))]
theorem ya9 {E:Env} {kf:ByteArray->Option FV} {vs:List VarD} (C:∀b,qL b->(xM kf vs b).map (fun v=>(v.label,v.size))=cY E g b) (B:∀b,qL b->uK kf b=procF E b) (z:∀b v,qL b->xM kf vs b=some v->Lab v.label/\0<=v.size) (y:∀b p,qL b->uK kf b=some p->(∀q∈p.params,Lab q)/\Lab p.writes):Agr E g d kf vs where
 pl:=fun G b a h f x k=>by
  have c:=C b k;rcases x with⟨rfl,rfl⟩|⟨rfl,q,rfl⟩
  ·unfold plP yV;rw[jv rfl,<- c]
   cases o:xM kf vs b with
   | none=>rfl
   | some v =>
    obtain⟨r,w⟩:=z b v k o;dsimp only[Option.map_some];by_cases e:v.size=0;·rw[jv (by simp[e]),jv e];show Res.ok (jn v.label 0,h)=_;rw[zzm r]
    ·rw[ju oE,ju e]
  ·unfold plP yV;rw[ju oD,jv rfl,<- c]
   cases o:xM kf vs b with
   | none=>rfl
   | some v =>
    dsimp only[Option.map_some];by_cases e:0<v.size;·rw[jv (by simp[e]),jv e];show Res.ok (jn v.label q,h)=Res.ok (jn (jn 0 q) v.label,h);rw[zzl]
    ·rw[ju oE,ju e]
 cl:=fun l b a h f k=>by
  refine Eq.trans ?_ (yc7 E g d l b f a h).symm;rw[<- B b k];unfold clP
  cases o:uK kf b with
  | none=>rfl
  | some p =>
   obtain⟨r,w⟩:=y b p k o;dsimp only;rw[zk5 _ _ r,zkb d w];by_cases m:f.length=p.params.length
   ·have D:¬(f.length≠p.params.length):=fun c=>c m
    have u:¬(p.params.length≠f.length):=fun c=>c m.symm
    rw[ju D,ju u];by_cases i:p.gives=false/\l=false
    ·have s:(!p.gives&&!l)=true:=by simp[i.1,i.2]
     rw[jv s,jv i]
    ·have s:¬((!p.gives&&!l)=true):=fun c=>i (by simpa using c)
     rw[ju s,ju i];by_cases n:bT p.params f=false;·rw[jv n,jv n]
     ·rw[ju n,ju n];by_cases j:p.writes≠1/\d≠0
      ·have t:(p.writes==1||d==0)=false:=by simp[j.1,j.2]
       rw[jv t,jv j]
      ·have t:¬((p.writes==1||d==0)=false):=fun c=>j (by simpa using c)
       rw[ju t,ju j]
   ·have u:p.params.length≠f.length:=fun c=>m c.symm
    rw[jv m,jv u]
def kN (L:List Loc):List VarD:=L.map fun l=>⟨l.name,false,l.label,0⟩
def dG (f:FaceD):Prop:=(∀v∈f.vars,Lab v.label/\0<=v.size)/\∀p∈f.procs,(∀l∈p.params,Lab l)/\Lab p.writes/\Lab p.given
def cO (E:Env):Prop:=dG E.own/\∀f∈E.faces,dG f
def yF (L:List Loc):Prop:=∀l∈L,Lab l.label
theorem zh3 (a b:Int):Lab (jn a b):=by
 unfold jn Lab;split<;>simp
theorem zkh:∀(b:List Int) (a:Int),Lab a->Lab (joinL b a)
 | [],a,h=>h
 | x :: r,a,h=>zkh r _ (zh3 a x)
theorem zj9 {E:Env} {b:FaceD} (c:cO E) (a:cJ E k=some b):dG b:=by
 unfold cJ at a;split at a;·cases a;exact c.1
 ·exact c.2 b (List.mem_of_find?_eq_some a)
theorem znm {E:Env} {v:Int × Int} (d:cO E) (e:yF g) (a:cY E g k=some v):Lab v.1/\0<=v.2:=by
 unfold cY at a;split at a;·rename_i i h;cases a;exact⟨e i (List.mem_reverse.1 (List.mem_of_find?_eq_some h)),Int.le_refl _⟩
 ·split at a;·cases a
  ·rename_i c f
   cases b:zbc c.vars (vL k)with
   | none=>rw[b]at a;cases a
   | some j =>
    rw[b]at a;simp only[Option.map_some,jh]at a;rw[<- a];exact(zj9 d f).1 j (List.mem_of_find?_eq_some b)
theorem zkv {E:Env} {p:ProcD} (b:cO E) (a:procF E k=some p):(∀l∈p.params,Lab l)/\Lab p.writes/\Lab p.given:=by
 unfold procF at a;split at a;·cases a
 ·rename_i d c;exact(zj9 b c).2 p (List.mem_of_find?_eq_some a)
theorem zye {E:Env} {h:Bool} {m:List Int} {a f:Int} (c:cO E) (i:yF g) (b:yV E g d h e k m a=.ok f):Lab f:=by
 unfold yV at b;split at b
 ·split at b;·cases b
  ·rename_i v l;split at b;·cases b;exact(znm c i l).1
   ·cases b
 ·split at b
  ·split at b;·cases b
   ·split at b;·cases b;exact zh3 _ _
    ·cases b
  ·split at b
   ·split at b;·cases b
    ·rename_i p j;split at b;·cases b
     ·split at b;·cases b
      ·split at b;·cases b
       ·split at b;·cases b
        ·cases b;exact(zkv c j).2.2
   ·cases b;exact zkh _ _ (.inl rfl)
theorem zec {E:Env} {ctx:Int} {alone:Bool} {t:Tree} {a:Int} {q:Int × Int} (c:cO E) (d:yF g) (b:exF E g ctx alone t a=.ok q):Lab q.1:=by
 obtain⟨f,k,j,h⟩:=t;unfold exF at b;split at b;·cases b
 ·split at b;·cases b
  ·rename_i i e;cases b;exact zye c d e
theorem jn0 (a:Lab d):jn 0 d=d:=by
 rcases a with rfl | rfl<;>decide
theorem zci (E:Env) (d:List Loc) (e:Int) (f:Tree) (a:Int):exL E d e [f] a=match exF E d e false f a with
  | .bad c b=>.bad c b
  | .ok q=>.ok ([q.1],q.2):=by
 simp only[exL];cases exF E d e false f a<;>rfl
theorem ybf {to v a:Int} (b:Lab to) (c:Lab v) (d:Lab a):(zA to [v,a]=false)=(to≠1/\hi v a 0=true):=by
 rcases b with rfl | rfl<;>rcases c with rfl | rfl<;>rcases d with rfl | rfl<;>decide
theorem zqn {to v b a:Int} (c:Lab to) (d:Lab v) (e:Lab b) (f:Lab a):(zA to [v,b,a]=false)=(to≠1/\hi v b a=true):=by
 rcases c with rfl | rfl<;>rcases d with rfl | rfl<;>rcases e with rfl | rfl<;>rcases f with rfl | rfl<;>decide
theorem zqm {to a:Int} (b:Lab to) (c:Lab a):(zA to [a]=false)=(to≠1/\a≠0):=by
 rcases b with rfl | rfl<;>rcases c with rfl | rfl<;>decide
theorem zq2 {E:Env} {e:Tree} {a:Int} {q:Int × Int × Int} (b:plF E g d e a=.ok q):q.2.2=a+kD e:=by
 obtain⟨h,k,i,c⟩:=e;simp only[plF]at b;split at b;·cases b
 ·rename_i j f;split at b;·cases b
  ·cases b;have:=bU E g d c _ _ f;show j.2=_;rw[show kD (.node h k i c)=kC c+1 by unfold kD;rfl];omega
def Ext (b:Int) (L a:List Loc):Prop:=∃M,a=L++M/\∀m∈M,m.deep=b/\Lab m.label
theorem Ext.refl (b:Int) (a:List Loc):Ext b a a:=⟨[],oC,fun d c=>by cases c⟩
theorem Ext.trans (k:Ext d g i) (l:Ext d i j):Ext d g j:=by
 obtain⟨c,rfl,f⟩:=k;obtain⟨e,rfl,h⟩:=l;refine⟨c++e,oC,fun b m=>?_⟩;rcases List.mem_append.1 m with a | a
 ·exact f b a
 ·exact h b a
theorem Ext.lab (a:Ext d g i) (e:yF g):yF i:=by
 obtain⟨h,rfl,c⟩:=a;intro b f;rcases List.mem_append.1 f with a | a
 ·exact e b a
 ·exact(c b a).2
theorem Ext.take (a:Ext d g i):i.take g.length=g:=by
 obtain⟨b,rfl,c⟩:=a;simp
theorem Ext.len (a:Ext d g i):g.length<=i.length:=by
 obtain⟨b,rfl,c⟩:=a;simp
theorem dI (a:Bool):Lab (bI a):=by
 cases a;·exact .inl rfl
 ·exact .inr rfl
theorem yB (b:Int) (d:ByteArray) (c:Int) (a:List Tree):kD (.node b d c a)=kC a+1:=by
 unfold kD;rfl
theorem uQ (a:Tree):kC [a]=kD a:=by
 show kD a+kC []=_;simp[kC]
section
variable (E:Env) (p:Pr)
variable {b c d e:Int} {f:ByteArray}
theorem yar {j:List Loc} {v:Bool} {m:List Tree} {a:Int} {q:List Loc × Int} (u:StT (.node d f e m)) (l:¬(d=10\/d=11)) (g:xL E p j b c v d f e m a=.ok q):Ext c j q.1/\q.2=a+kD (.node d f e m)/\(j.length<=20->q.1.length<=20):=by
 rw[yB];unfold xL at g
 cases u with
 | loc n z k =>
  rw[jv rfl]at g;split at g;·cases g
  ·rename_i i h;have:=(bU E j b _ _ _ h).1;split at g;·cases g
   ·split at g;·cases g
    ·split at g;·cases g
     ·cases g;refine⟨⟨_,rfl,fun e r=>?_⟩,by show i.2=_;omega,fun _=>oE⟩;simp only[jy]at r;subst r
      exact⟨rfl,dI n⟩
 | set s k =>
  rw[ju oD,jv rfl]at g;dsimp only at g;split at g;·cases g
  ·rename_i i h;have o:=zq2 h;split at g;·cases g
   ·rename_i w t;have x:=cI E j b _ _ _ _ t;split at g;·cases g
    ·cases g;refine⟨Ext.refl _ _,?_,id⟩;show w.2=_;show _=a+(kD _+(kD _+kC [])+1)
     simp only[kC]
     omega
 | dd y =>
  rw[ju oD,ju oD,jv rfl]at g;dsimp only at g;split at g;·cases g
  ·rename_i i h;have o:=cI E j b _ _ _ _ h;cases g;refine⟨Ext.refl _ _,?_,id⟩;show i.2=_;rw[uQ]
   omega
 | ift _ _=>exact absurd (.inl rfl) l
 | ife _ _ _=>exact absurd (.inl rfl) l
 | whi _ _=>exact absurd (.inr rfl) l
 | out n k =>
  rw[ju oD,ju oD,ju oD,jv rfl]at g;split at g;·cases g
  ·rename_i i h;have:=(bU E j b _ _ _ h).1;split at g;·cases g
   ·cases g
    exact⟨Ext.refl _ _,by show i.2=_;omega,id⟩
 | inn n s =>
  rw[ju oD,ju oD,ju oD,ju oD,jv rfl]at g;dsimp only at g;split at g;·cases g
  ·rename_i i h;have o:=zq2 h;split at g;·cases g
   ·split at g;·cases g
    ·cases g;refine⟨Ext.refl _ _,?_,id⟩;show i.2.2=_;rw[uQ]
     omega
 | ret k =>
  rw[ju oD,ju oD,ju oD,ju oD,ju oD]at g;split at g;·cases g
  ·rename_i i h;have:=(bU E j b _ _ _ h).1;split at g;·cases g
   ·split at g;·cases g
    ·cases g;exact⟨Ext.refl _ _,by show i.2=_;omega,id⟩
theorem StT.blocks {i:Tree} {l:List Tree} (h:StT (.node b f c (i :: l))) (n:b=10\/b=11):ExT i/\∀g∈l,BlT g:=by
 cases h with
 | loc k o a=>omega
 | set m a=>omega
 | dd j=>omega
 | ift a e=>exact⟨a,fun g d=>zmh⟩
 | ife a e j=>exact⟨a,fun g d=>by
   simp only[List.mem_cons,List.not_mem_nil,or_false]at d;rcases d with rfl | rfl
   ·exact e
   ·exact j⟩
 | whi a e=>exact⟨a,fun g d=>zmh⟩
 | out k a=>omega
 | inn k m=>omega
 | ret a=>omega
theorem StT.some_kid (a:StT (.node b f c [])):False:=by cases a
mutual
theorem zif:∀(g:Tree) (c d:Int) (f:Bool) (b:List Loc) (a:Int) (q:List Loc × Int),StT g->stF E p c d f g b a=.ok q->Ext d b q.1/\q.2=a+kD g/\(b.length<=20->q.1.length<=20)
 | .node k x m [],c,d,f,b,a,q,hs,h=>hs.some_kid.elim
 | .node k x m (j :: r),c,d,f,b,a,q,hs,h=>by
  unfold stF at h;split at h
  ·rename_i e;dsimp only at h;split at h;·cases h
   ·rename_i o l;have n:=cI E b c _ _ _ _ l;have i:=znr r _ _ _ _ _ (hs.blocks e).2 h;rw[i.1,i.2,yB];refine⟨Ext.refl _ _,?_,id⟩;show _=a+(kD j+kC r+1)
    omega
  ·rename_i e;exact yar E p hs e h
theorem znr:∀(f:List Tree) (d e:Int) (c:List Loc) (a:Int) (q:List Loc × Int),(∀b∈f,BlT b)->yG E p d e f c a=.ok q->q.1=c/\q.2=a+kC f
 | [],d,e,c,a,q,hs,h=>by
  simp only[yG,Res.ok.injEq]at h;rw[<- h]
  exact⟨rfl,by simp[kC]⟩
 | b :: r,d,e,c,a,q,hs,h=>by
  unfold yG at h;split at h;·cases h
  ·rename_i l j;have g:=za3 b _ _ _ _ _ (hs b (jJ ..)) j;have i:=znr r _ _ _ _ _ (fun b k=>hs b (jF _ k)) h;rw[i.1,i.2,g.1,g.2];refine⟨rfl,?_⟩;show _=a+(kD b+kC r)
   omega
theorem za3:∀(d:Tree) (e f:Int) (c:List Loc) (a:Int) (q:List Loc × Int),BlT d->blF E p e f d c a=.ok q->q.1=c/\q.2=a+kD d
 | .node k x m ks,e,f,c,a,q,hs,b=>by
  unfold blF at b;split at b;·cases b
  ·rename_i i h;have g:=zet ks _ _ _ _ _ (by cases hs with | mk b=>exact b) h;cases b;refine⟨g.1.take,?_⟩;show i.2=_;rw[g.2.1,yB];omega
theorem zet:∀(i:List Tree) (f e:Int) (d:List Loc) (a:Int) (q:List Loc × Int),(∀c∈i,StT c)->zM E p f e i d a=.ok q->Ext e d q.1/\q.2=a+kC i/\(d.length<=20->q.1.length<=20)
 | [],f,e,d,a,q,hs,b=>by
  simp only[zM,Res.ok.injEq]at b;rw[<- b]
  exact⟨Ext.refl _ _,by simp[kC],id⟩
 | c :: r,f,e,d,a,q,hs,b=>by
  unfold zM at b;split at b;·cases b
  ·rename_i l j;have g:=zif c _ _ _ _ _ _ (hs c (jJ ..)) j;have h:=zet r _ _ _ _ _ (fun c k=>hs c (jF _ k)) b;refine⟨g.1.trans h.1,?_,fun b=>h.2.2 (g.2.2 b)⟩;rw[h.2.1,g.2.1];show _=a+(kD c+kC r)
   omega
end
def qK (ctx d:Int):List Tree->List Loc->Int->Res (List Loc × Int)
 | [],L,a=>.ok (L,a)
 | t :: r,L,a=>match stF E p ctx d false t L a with
  | .bad c b=>.bad c b
  | .ok q=>qK ctx d r q.1 q.2
theorem zqb (d b:Int) (f:b≠1):∀(g:List Tree) (c:List Loc) (a:Int),zM E p d b g c a=qK E p d b g c a
 | [],c,a=>by simp only[zM,qK]
 | t :: r,c,a=>by
  unfold zM qK;rw[show(decide (b=1)&&r.isEmpty)=false by simp[f]];split;·rename_i e;rw[e]
  ·rename_i q e;rw[e];exact zqb d b f r _ _
theorem znh (i j:Int) (m:Bool) (c:Int) (g:ByteArray) (f:Int) (e:List Tree) (h:List Loc) (a:Int) (l:StT (.node c g f e)) (b:p.gives=false\/c≠14):stF E p i j m (.node c g f e) h a=stF E p i j false (.node c g f e) h a:=by
 unfold stF;split;·rfl
 ·rename_i d;unfold xL
  cases l with
  | ift _ _=>exact absurd (.inl rfl) d
  | ife _ _ _=>exact absurd (.inl rfl) d
  | whi _ _=>exact absurd (.inr rfl) d
  | ret n =>
   have k:p.gives=false:=by
    rcases b with b | b
    ·exact b
    ·exact absurd rfl b
   rw[k]
   simp
  | _=>rfl
theorem zk1 (d:Int) (g:p.gives=false):∀(c:List Tree) (b:List Loc) (a:Int),(∀f∈c,StT f)->zM E p d 1 c b a=qK E p d 1 c b a
 | [],b,a,_=>by simp only[zM,qK]
 | .node k x m c :: r,b,a,hs=>by
  unfold zM qK;rw[znh E p d 1 _ k x m c b a (hs _ (jJ ..)) (.inl g)];split;·rename_i e;rw[e]
  ·rename_i q e;rw[e];exact zk1 d g r _ _ (fun f h=>hs f (jF _ h))
def xA:List Tree->Bool
 | []=>false
 | [.node k _ _ _]=>k==14
 | _ :: t :: r=>xA (t :: r)
theorem zj2 (e:Int):∀(d:List Tree) (c:List Loc) (a:Int),(∀f∈d,StT f)->xA d=false->zM E p e 1 d c a=qK E p e 1 d c a
 | [],c,a,_,_=>by simp only[zM,qK]
 | [.node k x m d],c,a,hs,hr=>by
  have i:k≠14:=by
   intro h;subst h;simp[xA]at hr
  unfold zM qK;rw[znh E p e 1 _ k x m d c a (hs _ (jJ ..)) (.inr i)];split;·rename_i b;rw[b]
  ·rename_i q b;rw[b];simp only[zM,qK]
 | f :: g :: r,c,a,hs,hr=>by
  unfold zM qK;rw[show(decide ((1:Int)=1)&&(g :: r).isEmpty)=false by simp];split;·rename_i b;rw[b]
  ·rename_i q b;rw[b];exact zj2 e (g :: r) _ _ (fun f j=>hs f (jF _ j)) (by simpa[xA] using hr)
theorem zni (c:Int) (d:Tree):∀(g:List Tree) (b:List Loc) (a:Int),zM E p c 1 (g++[d]) b a=match qK E p c 1 g b a with
  | .bad f e=>.bad f e
  | .ok q=>stF E p c 1 true d q.1 q.2
 | [],b,a=>by
  show zM E p c 1 [d] b a=_;unfold zM qK;rw[show(decide ((1:Int)=1)&&([]:List Tree).isEmpty)=true by simp];dsimp only
  cases i:stF E p c 1 true d b a with
  | bad f e=>rfl
  | ok q=>simp only[zM]
 | h :: r,b,a=>by
  show zM E p c 1 (h :: (r++[d])) b a=_;unfold zM qK;rw[show(decide ((1:Int)=1)&&(r++[d]).isEmpty)=false by simp]
  cases stF E p c 1 false h b a with
  | bad f e=>rfl
  | ok q=>exact zni c d r _ _
theorem zhw:∀(i:List Tree) (f e:Int) (d:List Loc) (a:Int) (q:List Loc × Int),(∀c∈i,StT c)->qK E p f e i d a=.ok q->Ext e d q.1/\q.2=a+kC i/\(d.length<=20->q.1.length<=20)
 | [],f,e,d,a,q,hs,b=>by
  simp only[qK,Res.ok.injEq]at b;rw[<- b]
  exact⟨Ext.refl _ _,by simp[kC],id⟩
 | c :: r,f,e,d,a,q,hs,b=>by
  unfold qK at b;split at b;·cases b
  ·rename_i l j;have g:=zif E p c _ _ _ _ _ _ (hs c (jJ ..)) j;have h:=zhw r _ _ _ _ _ (fun c k=>hs c (jF _ k)) b;refine⟨g.1.trans h.1,?_,fun b=>h.2.2 (g.2.2 b)⟩;rw[h.2.1,g.2.1];show _=a+(kD c+kC r)
   omega
end
structure InvL (L:List Loc) (deep:Int) (first:Nat):Prop where
 le:first<=L.length
 out:∀l∈L.take first,l.deep<deep
 inn:∀l∈L.drop first,l.deep=deep
variable {b c:List Loc} {d:Int}
theorem InvL.any {first:Nat} (f:InvL b d first) (c:ByteArray):b.any (fun a=>a.deep==d&&eqS a.name c)=((kN b).drop first).any (fun l=>eqS l.name c):=by
 have h:b.any (fun a=>a.deep==d&&eqS a.name c)=(b.take first++b.drop first).any (fun a=>a.deep==d&&eqS a.name c):=by rw[List.take_append_drop]
 rw[h,List.any_append]
 have i:(b.take first).any (fun a=>a.deep==d&&eqS a.name c)=false:=by
  rw[List.any_eq_false];intro a e;have:=f.out a e;have k:(a.deep==d)=false:=oE;simp[k]
 rw[i,Bool.false_or];unfold kN;rw[<- List.map_drop,List.any_map];have g:∀a∈b.drop first,(a.deep==d&&eqS a.name c)=eqS a.name c:=fun a e=>by simp[f.inn a e]
 generalize b.drop first=j at g
 clear h i f
 induction j with
 | nil=>rfl
 | cons m n ih =>
  rw[List.any_cons,List.any_cons,ih (fun a e=>g a (jF _ e)),g m (jJ ..)];rfl
theorem InvL.ext {first:Nat} (a:InvL b d first) (h:Ext d b c):InvL c d first:=by
 obtain⟨j,rfl,g⟩:=h;refine⟨by have:=a.le;simp;omega,?_,?_⟩;·rw[List.take_append_of_le_length a.le];exact a.out
 ·rw[List.drop_append_of_le_length a.le];intro f i;rcases List.mem_append.1 i with e | e
  ·exact a.inn f e
  ·exact(g f e).1
theorem InvL.enter {first:Nat} (f:InvL b d first):InvL b (d+1) b.length:=by
 refine⟨jE _,?_,?_⟩
 ·intro e a;rw[List.take_length]at a;rw[<- List.take_append_drop first b]at a;rcases List.mem_append.1 a with c | c
  ·have:=f.out e c;omega
  ·have:=f.inn e c;omega
 ·intro e a;rw[List.drop_length]at a;cases a
end Go.Proofs.YtbjppepjmcfkaaaGreatDoor.chk
