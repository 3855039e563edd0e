/- What the program's isPub and labelOf answer: contracts. -/
import Derived.Test.YtfopddgjdaoidaaGreatDoorNR09
import Derived.WalkSpells
import Derived.Shelf.Strings.Cut
import Derived.RangeFuncNested
import Derived.RangeFuncBound
import Derived.Shelf.RegionOpen
import Derived.OwnWalkIn
import Derived.LoopNIn
import Derived.LoopIn
set_option linter.unusedVariables false
set_option linter.unusedSimpArgs false
set_option maxRecDepth 100000
namespace Go.Proofs.YtfopddgjdaoidaaGreatDoor.face
open Go.RowKit
open syn (isName eqS)
def labelB (n:Int):Bool:=n==0||n==1
def mayVarB (v:VarD):Bool:=isName v.name&&(v.pub&&(labelB v.label&&(decide (0≤v.size)&&decide (v.size≤64))))
def mayProcB (p:ProcD):Bool:=isName p.name&&(p.pub&&(decide (p.params.length≤5)&&(p.params.all labelB&&(labelB p.writes&&(labelB p.given&&(p.gives||p.given==0))))))
def among (l:List ByteArray) (x:ByteArray):Bool:=l.any fun y=>eqS y x
def apartB:List ByteArray→List ByteArray→Bool
 | _,[]=>true
 | seen,x :: r=>!among seen x&&apartB (seen++[x]) r
def namesOf (f:FaceD):List ByteArray:=f.vars.map (·.name)++f.procs.map (·.name)
def mayB (f:FaceD):Bool:=isName f.module&&(decide (f.vars.length+f.procs.length≤20)&&(f.vars.all mayVarB&&(f.procs.all mayProcB&&apartB [] (namesOf f))))
theorem all_no {α:Type} {p:α→Bool} {l:List α} (i:Nat) (h:i<l.length) (hp:p l[i]=false):l.all p=false:=by
 rw [List.all_eq_false]
 exact ⟨l[i],List.getElem_mem h,by simp [hp]⟩
theorem all_yes {α:Type} {p:α→Bool} {l:List α} (hp:∀ i (h:i<l.length),p l[i]=true):l.all p=true:=by
 rw [List.all_eq_true]
 intro x hx
 obtain ⟨k,hk,rfl⟩:=List.mem_iff_getElem.1 hx
 exact hp k hk
theorem ret_b {x y:Bool} (h:x=y):Ending.returned (.bool x)=.returned (.bool y):=by rw [h]
theorem cell_new {w:World} {a:Addr} {v:Value} (h:w.cell? a=some v) (ob:Obj):(w.alloc ob).cell? a=some v:=by
 rw [(bal ob).cell (World.block_lt_of_cell? w a h)];exact h
end Go.Proofs.YtfopddgjdaoidaaGreatDoor.face
namespace Go.Proofs.YtfopddgjdaoidaaGreatDoor.face
open syn
def parF:List ByteArray→List (ByteArray × Bool)→Int→Option (Int × Int)
 | _,[],_=>none
 | seen,q :: r,a=>if among seen q.1 then some (5,a) else parF (seen++[q.1]) r (a+1)
def rangeF:Option Int→Int→Option (Int × Int)
 | none,_=>none
 | some n,a=>if n<1∨64<n then some (6,a) else none
def lookK (m:ByteArray):List Kid→List ByteArray→List ByteArray→Int→Option (Int × Int)
 | [],_,_,_=>none
 | .imp x :: r,is,ns,a=>if among is x||eqS x m then some (5,a) else if 5≤is.length then some (1,a) else lookK m r (is++[x]) ns (a+1)
 | .var x p l n :: r,is,ns,a=>if among ns x then some (5,a) else if 20≤ns.length then some (1,a) else
  match rangeF n a with
  | some e=>some e
  | none=>lookK m r is (ns++[x]) (a+cntT (Kid.var x p l n).tree)
 | .proc x p l g ps b :: r,is,ns,a=>if among ns x then some (5,a) else if 20≤ns.length then some (1,a) else if 5<ps.length then some (1,a) else
  match parF [] ps (a+1) with
  | some e=>some e
  | none=>lookK m r is (ns++[x]) (a+cntT (Kid.proc x p l g ps b).tree)
def varD (x:ByteArray) (p l:Bool) (n:Option Int):VarD:=⟨x,p,bI l,n.getD 0⟩
def procD (x:ByteArray) (p l:Bool) (g:Option Bool) (ps:List (ByteArray × Bool)):ProcD:=⟨x,p,ps.map fun q=>bI q.2,bI l,g.isSome,bI (g.getD false)⟩
def importsK:List Kid→List ByteArray
 | []=>[]
 | .imp x :: r=>x :: importsK r
 | _ :: r=>importsK r
def varsK (all:Bool):List Kid→List VarD
 | []=>[]
 | .var x p l n :: r=>if all||p then varD x p l n :: varsK all r else varsK all r
 | _ :: r=>varsK all r
def procsK (all:Bool):List Kid→List ProcD
 | []=>[]
 | .proc x p l g ps b :: r=>if all||p then procD x p l g ps :: procsK all r else procsK all r
 | _ :: r=>procsK all r
def faceK (all:Bool) (m:ByteArray) (ks:List Kid):FaceD:=⟨m,varsK all ks,procsK all ks⟩
theorem importsK_append:∀ (a b:List Kid),importsK (a++b)=importsK a++importsK b
 | [],b=>rfl
 | .imp x :: r,b=>by show x :: importsK (r++b)=x :: (importsK r++importsK b);rw [importsK_append r b]
 | .var _ _ _ _ :: r,b=>importsK_append r b
 | .proc _ _ _ _ _ _ :: r,b=>importsK_append r b
theorem varsK_append (all:Bool):∀ (a b:List Kid),varsK all (a++b)=varsK all a++varsK all b
 | [],b=>rfl
 | .imp x :: r,b=>varsK_append all r b
 | .var x p l n :: r,b=>by
  show (if all||p then varD x p l n :: varsK all (r++b) else varsK all (r++b))=(if all||p then varD x p l n :: varsK all r else varsK all r)++varsK all b
  rw [varsK_append all r b]
  split<;>rfl
 | .proc _ _ _ _ _ _ :: r,b=>varsK_append all r b
theorem procsK_append (all:Bool):∀ (a b:List Kid),procsK all (a++b)=procsK all a++procsK all b
 | [],b=>rfl
 | .imp x :: r,b=>procsK_append all r b
 | .var _ _ _ _ :: r,b=>procsK_append all r b
 | .proc x p l g ps c :: r,b=>by
  show (if all||p then procD x p l g ps :: procsK all (r++b) else procsK all (r++b))=(if all||p then procD x p l g ps :: procsK all r else procsK all r)++procsK all b
  rw [procsK_append all r b]
  split<;>rfl
end Go.Proofs.YtfopddgjdaoidaaGreatDoor.face
namespace Go.Proofs.YtfopddgjdaoidaaGreatDoor.syn
open Go.RowKit
theorem LiesAt.kid {w wr:World} {ks:List Tree} {g o:Nat} (hg:g<w.heap.size) (h:LiesAt (·<w.heap.size) w ks g o) (hb:Below w.heap.size w wr) {j:Nat} (hj:j<ks.length) :
  ∃ x0 x1 x2 x3,wr.cell? ⟨g,o+j*4,none⟩=some x0∧wr.cell? ⟨g,o+j*4+1,none⟩=some x1∧wr.cell? ⟨g,o+j*4+2,none⟩=some x2∧wr.cell? ⟨g,o+j*4+3,none⟩=some x3∧Lies (·<wr.heap.size) wr ks[j] (.agg #[x0,x1,x2,x3]):=by
 obtain ⟨v,⟨x0,x1,x2,x3,rfl,c0,c1,c2,c3⟩,hl⟩:=(h.below hg hb).get j hj
 exact ⟨x0,x1,x2,x3,c0,c1,c2,c3,hl⟩
end Go.Proofs.YtfopddgjdaoidaaGreatDoor.syn
namespace Go.Proofs.YtfopddgjdaoidaaGreatDoor.face
open Go.RowKit
open syn
theorem cntL_take:∀ (ks:List Tree) (j:Nat) (h:j<ks.length),cntL (ks.take (j+1))=cntL (ks.take j)+cntT ks[j]
 | [],j,h=>by simp at h
 | t :: r,0,h=>by simp [cntL]
 | t :: r,j+1,h=>by
  have hj:j<r.length:=by simpa using h
  have:=cntL_take r j hj
  show cntT t+cntL (r.take (j+1))=cntT t+cntL (r.take j)+cntT r[j]
  omega
theorem cntL_take_le:∀ (ks:List Tree) (j:Nat),cntL (ks.take j)≤cntL ks
 | [],j=>by simp
 | t :: r,0=>by have h1:=cntL_pos (t :: r);show cntL []≤_;unfold cntL;exact h1
 | t :: r,j+1=>by
  have:=cntL_take_le r j
  show cntT t+cntL (r.take j)≤cntT t+cntL r
  omega
theorem cntT_mem:∀ (ks:List Tree) (j:Nat) (h:j<ks.length),cntT ks[j]≤cntL ks
 | [],j,h=>by simp at h
 | t :: r,0,h=>by have:=cntL_pos r;show cntT t≤cntT t+cntL r;omega
 | t :: r,j+1,h=>by
  have hj:j<r.length:=by simpa using h
  have:=cntT_mem r j hj
  have h2:=cntT_pos t
  show cntT r[j]≤cntT t+cntL r
  omega
/-! of a variable -/
/-! kids of a module -/
def Kid.kind:Kid→Int
 | .imp _=>2
 | .var _ _ _ _=>3
 | .proc _ _ _ _ _ _=>4
def Kid.text:Kid→ByteArray
 | .imp x=>x
 | .var x _ _ _=>x
 | .proc x _ _ _ _ _=>x
def Kid.num:Kid→Int
 | .imp _=>0
 | .var _ p l _=>2*bI p+bI l
 | .proc _ p l g _ _=>2*bI p+bI l+gI g
def Kid.kids:Kid→List Tree
 | .imp _=>[]
 | .var _ _ _ none=>[]
 | .var _ _ _ (some n)=>[.node 15 empty n []]
 | .proc _ _ _ _ ps b=>ps.map parT++[b]
theorem Kid.tree_is (k:Kid):k.tree=.node k.kind k.text k.num k.kids:=by
 cases k with
 | imp x=>rfl
 | var x p l n=>cases n<;>rfl
 | proc x p l g ps b=>rfl
theorem kid_cells {w wr:World} {K:List Kid} {g o:Nat} (hg:g<w.heap.size) (hat:LiesAt (·<w.heap.size) w (K.map Kid.tree) g o) (hb:Below w.heap.size w wr) {j:Nat} (hj:j<K.length) :
  ∃ a c,wr.cell? ⟨g,o+j*4,none⟩=some (.int .i64 K[j].kind)∧wr.cell? ⟨g,o+j*4+1,none⟩=some (.string K[j].text)∧wr.cell? ⟨g,o+j*4+2,none⟩=some (.int .i64 K[j].num)∧wr.cell? ⟨g,o+j*4+3,none⟩=some (.slice a K[j].kids.length c) ∧
   Lies (·<wr.heap.size) wr K[j].tree (.agg #[.int .i64 K[j].kind,.string K[j].text,.int .i64 K[j].num,.slice a K[j].kids.length c]):=by
 obtain ⟨x0,x1,x2,x3,c0,c1,c2,c3,hl⟩:=hat.kid hg hb (j:=j) (by simpa using hj)
 rw [List.getElem_map] at hl
 have hl2:=hl
 rw [Kid.tree_is] at hl2
 unfold Lies at hl2
 obtain ⟨a,c,e,_,_⟩:=hl2
 cases e
 exact ⟨a,c,c0,c1,c2,c3,hl⟩
def strV (l:List ByteArray):List Value:=l.map Value.string
theorem strV_snoc (l:List ByteArray) (y:ByteArray):strV (l++[y])=strV l++[.string y]:=by simp [strV]
theorem infoS:(Tryz.prog.info? 9).map (fun i=>(i.zero,i.size,i.bytes))=some (some (.string ⟨#[]⟩),1,16):=by kernel_rfl
theorem one_string (y:ByteArray):∀ u∈[Value.string y],u.oneCell'=true:=by intro u hu;simp at hu;rw [hu];rfl
theorem cell_one {w:World} (y:Value) (T:TypeId) (n:Nat) (hn:n=w.heap.size):∀ j u,[y][j]?=some u→(w.alloc (.cells #[y] T)).cell? ((⟨n,0,none⟩:Addr).add j)=some u:=by
 subst hn
 exact cell_one_new w y T
theorem take_succ_kid (K:List Kid) (j:Nat) (h:j<K.length):K.take (j+1)=K.take j++[K[j]]:=by
 rw [List.take_add_one,List.getElem?_eq_getElem h];rfl
abbrev modV (m:ByteArray) (a:Option Addr) (n c:Nat):Array Value:=#[.int .i64 1,.string m,.int .i64 0,.slice a n c]
end Go.Proofs.YtfopddgjdaoidaaGreatDoor.face
namespace Go.Proofs.YtfopddgjdaoidaaGreatDoor.chk
open syn face
inductive Res (α:Type) where
 | bad (c a:Int)
 | ok (x:α)
def jn (a b:Int):Int:=if a≠0∨b≠0 then 1 else 0
structure Env where
 own:FaceD
 faces:List FaceD
structure Loc where
 name:ByteArray
 label:Int
 deep:Int
def cutL:List UInt8→List UInt8 × Option (List UInt8)
 | []=>([],none)
 | c :: r=>if c=46 then ([],some r) else ((c :: (cutL r).1),(cutL r).2)
def modOf (x:ByteArray):ByteArray:=match cutL x.data.toList with
 | (a,some _)=>⟨a.toArray⟩
 | (_,none)=>empty
def ownOf (x:ByteArray):ByteArray:=match cutL x.data.toList with
 | (_,some b)=>⟨b.toArray⟩
 | (_,none)=>x
def faceOf (E:Env) (x:ByteArray):Option FaceD:=if (modOf x).size=0 then some E.own else E.faces.find? fun f=>eqS f.module (modOf x)
def varIn (l:List VarD) (x:ByteArray):Option VarD:=l.find? fun v=>eqS v.name x
def procIn (l:List ProcD) (x:ByteArray):Option ProcD:=l.find? fun p=>eqS p.name x
def varF (E:Env) (L:List Loc) (x:ByteArray):Option (Int × Int) :=
 match L.reverse.find? (fun l=>eqS l.name x) with
 | some l=>some (l.label,0)
 | none=>match faceOf E x with
  | none=>none
  | some f=>(varIn f.vars (ownOf x)).map fun v=>(v.label,v.size)
def procF (E:Env) (x:ByteArray):Option ProcD:=match faceOf E x with
 | none=>none
 | some f=>procIn f.procs (ownOf x)
def argsOk:List Int→List Int→Bool
 | [],_=>true
 | _,[]=>true
 | p :: r,l :: s=>(p==1||l==0)&&argsOk r s
def joinL:List Int→Int→Int
 | [],l=>l
 | x :: r,l=>joinL r (jn l x)
def ownF (E:Env) (L:List Loc) (ctx:Int) (alone:Bool) (k:Int) (x:ByteArray) (ls:List Int) (a:Int):Res Int :=
 if k=16 then match varF E L x with
  | none=>.bad 4 a
  | some v=>if v.2=0 then .ok v.1 else .bad 3 a
 else if k=17 then match varF E L x with
  | none=>.bad 4 a
  | some v=>if 0<v.2 then .ok (jn (joinL ls 0) v.1) else .bad 3 a
 else if k=18 then match procF E x with
  | none=>.bad 4 a
  | some p=>if p.params.length≠ls.length then .bad 6 a else if p.gives=false∧alone=false then .bad 3 a else if argsOk p.params ls=false then .bad 7 a else if p.writes≠1∧ctx≠0 then .bad 7 a else .ok p.given
 else .ok (joinL ls 0)
section
variable (E:Env) (L:List Loc) (ctx:Int)
mutual
def exF (alone:Bool):Tree→Int→Res (Int × Int)
 | .node k x _ ks,a=>match exL ks (a+1) with
  | .bad c b=>.bad c b
  | .ok q=>match ownF E L ctx alone k x q.1 a with
   | .bad c b=>.bad c b
   | .ok l=>.ok (l,q.2)
def exL:List Tree→Int→Res (List Int × Int)
 | [],a=>.ok ([],a)
 | t :: r,a=>match exF false t a with
  | .bad c b=>.bad c b
  | .ok q=>match exL r q.2 with
   | .bad c b=>.bad c b
   | .ok s=>.ok (q.1 :: s.1,s.2)
end
end
def plF (E:Env) (L:List Loc) (ctx:Int):Tree→Int→Res (Int × Int × Int)
 | .node k x m ks,a=>match exL E L ctx ks (a+1) with
  | .bad c b=>.bad c b
  | .ok q=>match ownF E L ctx false k x q.1 a with
   | .bad c b=>.bad c b
   | .ok _=>.ok (((varF E L x).map (·.1)).getD 0,joinL q.1 0,q.2)
def hi (a b c:Int):Bool:=a==1||b==1||c==1
structure Pr where
 gives:Bool
 given:Int
section
variable (E:Env) (p:Pr)
def simF (L:List Loc) (ctx deep:Int) (last:Bool) (k:Int) (x:ByteArray) (m:Int) (ks:List Tree) (a:Int):Res (List Loc × Int) :=
 if k=7 then match exL E L ctx ks (a+1) with
  | .bad c b=>.bad c b
  | .ok q=>if L.any (fun l=>l.deep==deep&&eqS l.name x) then .bad 5 a else if 20≤L.length then .bad 1 a else if m≠1∧hi (joinL q.1 0) ctx 0=true then .bad 7 a else .ok (L++[⟨x,m,deep⟩],q.2)
 else if k=8 then match ks with
  | [t,e]=>match plF E L ctx t (a+1) with
   | .bad c b=>.bad c b
   | .ok q=>match exF E L ctx false e q.2.2 with
    | .bad c b=>.bad c b
    | .ok s=>if q.1≠1∧hi s.1 q.2.1 ctx=true then .bad 7 a else .ok (L,s.2)
  | _=>.ok (L,a)
 else if k=9 then match ks with
  | [t]=>match exF E L ctx true t (a+1) with
   | .bad c b=>.bad c b
   | .ok q=>.ok (L,q.2)
  | _=>.ok (L,a)
 else if k=12 then match exL E L ctx ks (a+1) with
  | .bad c b=>.bad c b
  | .ok q=>if m≠1∧hi (joinL q.1 0) ctx 0=true then .bad 7 a else .ok (L,q.2)
 else if k=13 then match ks with
  | [t]=>match plF E L ctx t (a+1) with
   | .bad c b=>.bad c b
   | .ok q=>if m≠1∧ctx≠0 then .bad 7 a else if q.1≠1∧hi m q.2.1 ctx=true then .bad 7 a else .ok (L,q.2.2)
  | _=>.ok (L,a)
 else match exL E L ctx ks (a+1) with
  | .bad c b=>.bad c b
  | .ok q=>if (last&&p.gives)=false then .bad 2 a else if p.given≠1∧joinL q.1 0≠0 then .bad 7 a else .ok (L,q.2)
mutual
def stF (ctx deep:Int) (last:Bool):Tree→List Loc→Int→Res (List Loc × Int)
 | .node k x m ks,L,a=>if k=10∨k=11 then match ks with
   | []=>.ok (L,a)
   | e :: r=>match exF E L ctx false e (a+1) with
    | .bad c b=>.bad c b
    | .ok q=>blsF (jn ctx q.1) (deep+1) r L q.2
  else simF E p L ctx deep last k x m ks a
def blsF (ctx deep:Int):List Tree→List Loc→Int→Res (List Loc × Int)
 | [],L,a=>.ok (L,a)
 | t :: r,L,a=>match blF ctx deep t L a with
  | .bad c b=>.bad c b
  | .ok q=>blsF ctx deep r q.1 q.2
def blF (ctx deep:Int):Tree→List Loc→Int→Res (List Loc × Int)
 | .node _ _ _ ks,L,a=>match stsF ctx deep ks L (a+1) with
  | .bad c b=>.bad c b
  | .ok q=>.ok (q.1.take L.length,q.2)
def stsF (ctx deep:Int):List Tree→List Loc→Int→Res (List Loc × Int)
 | [],L,a=>.ok (L,a)
 | t :: r,L,a=>match stF ctx deep (decide (deep=1)&&r.isEmpty) t L a with
  | .bad c b=>.bad c b
  | .ok q=>stsF ctx deep r q.1 q.2
end
end
def prF (E:Env) (q:ProcD) (ps:List (ByteArray × Bool)) (b:Tree) (ends:Bool) (a:Int):Res Int :=
 match blF E ⟨q.gives,q.given⟩ q.writes 1 b (ps.map fun p=>⟨p.1,bI p.2,1⟩) (a+1+ps.length) with
 | .bad c d=>.bad c d
 | .ok s=>if q.gives=true∧ends=false then .bad 2 a else .ok s.2
def endsT:Tree→Bool
 | .node _ _ _ ks=>match ks.getLast? with
  | some (.node k _ _ _)=>k==14
  | none=>false
def moF (own:FaceD) (given:List FaceD):List Kid→List FaceD→Int→Option (Int × Int)
 | [],_,_=>none
 | .imp x :: r,fs,a=>match given.find? (fun f=>eqS f.module x) with
  | none=>some (4,a)
  | some f=>moF own given r (fs++[f]) (a+1)
 | .var x p l n :: r,fs,a=>moF own given r fs (a+1+(Kid.var x p l n).kids.length)
 | .proc x p l g ps b :: r,fs,a=>match prF ⟨own,fs⟩ (procD x p l g ps) ps b (endsT b) a with
  | .bad c d=>some (c,d)
  | .ok d=>moF own given r fs d
theorem cutL_none:∀ (l:List UInt8),(∀ c∈l,c≠46)→cutL l=(l,none)
 | [],_=>rfl
 | c :: r,h=>by
  unfold cutL
  rw [if_neg (h c (List.mem_cons_self)),cutL_none r (fun d hd=>h d (List.mem_cons_of_mem _ hd))]
theorem cutL_some:∀ (a b:List UInt8),(∀ c∈a,c≠46)→cutL (a++46 :: b)=(a,some b)
 | [],b,_=>by show cutL (46 :: b)=_;unfold cutL;rw [if_pos rfl]
 | c :: r,b,h=>by
  show cutL (c :: (r++46 :: b))=_
  unfold cutL
  rw [if_neg (h c (List.mem_cons_self)),cutL_some r b (fun d hd=>h d (List.mem_cons_of_mem _ hd))]
theorem name_nopoint {x:ByteArray} (h:isName x=true):∀ c∈x.data.toList,c≠46:=by
 intro c hc e
 unfold isName at h
 simp only [Bool.and_eq_true] at h
 have h2:=List.all_eq_true.1 h.1.2 c hc
 rw [e] at h2
 exact absurd h2 (by decide)
theorem long_cases {x:ByteArray} (h:LongN x):((∀ c∈x.data.toList,c≠46)∧modOf x=empty∧ownOf x=x) ∨
  (∃ a b:List UInt8,x.data.toList=a++46 :: b∧0<a.length∧(∀ c∈a,c≠46)∧(∀ c∈b,c≠46)∧modOf x=⟨a.toArray⟩∧ownOf x=⟨b.toArray⟩):=by
 rcases h with h | ⟨a,b,ha,hb,rfl⟩
 ·have hn:=name_nopoint h
  refine .inl ⟨hn,?_,?_⟩
  ·unfold modOf;rw [cutL_none _ hn]
  ·unfold ownOf;rw [cutL_none _ hn]
 ·have e:(a++⟨#[46]⟩++b).data.toList=a.data.toList++46 :: b.data.toList:=by
   simp [ByteArray.data_append]
  have hna:=name_nopoint ha
  refine .inr ⟨a.data.toList,b.data.toList,e,?_,hna,name_nopoint hb,?_,?_⟩
  ·unfold isName at ha
   simp only [Bool.and_eq_true,decide_eq_true_eq] at ha
   have:=ha.1.1.1.1
   rw [lexs.len_L]
   omega
  ·unfold modOf;rw [e,cutL_some _ _ hna]
  ·unfold ownOf;rw [e,cutL_some _ _ hna]
end Go.Proofs.YtfopddgjdaoidaaGreatDoor.chk
namespace Go.Proofs.YtfopddgjdaoidaaGreatDoor.chk
open Go.RowKit
open syn face
theorem long_size {x:ByteArray} (h:LongN x):x.size≤33:=by
 rcases h with h | ⟨a,b,ha,hb,rfl⟩
 ·have:=name_short h;omega
 ·have h1:=name_short ha
  have h2:=name_short hb
  rw [ByteArray.size_append,ByteArray.size_append]
  show a.size+1+b.size≤33
  omega
end Go.Proofs.YtfopddgjdaoidaaGreatDoor.chk
namespace Go.Proofs
open Go.Shelf
def Tryz.laysCut_ren : Go.Shelf.Ren := ⟨fun | 145 => 199 | 220 => 219 | 219 => 234 | 217 => 138 | 225 => 244 | 224 => 245 | 267 => 246 | 266 => 174 | 314 => 252 | n => n, fun | 9 => 9 | 4 => 4 | 59 => 230 | 3 => 3 | 5 => 5 | 46 => 226 | 146 => 274 | 51 => 265 | n => n, fun | 1 => 1 | n => n⟩
theorem Tryz.laysCut : Go.Proofs.Lays.n145 Tryz.prog Tryz.laysCut_ren := {
  mixed := by kernel_rfl
  f145 := Tryz.func199.trans (congrArg some (by kernel_rfl))
  f217 := Tryz.func138.trans (congrArg some (by kernel_rfl))
  f219 := Tryz.func234.trans (congrArg some (by kernel_rfl))
  f220 := Tryz.func219.trans (congrArg some (by kernel_rfl))
  f224 := Tryz.func245.trans (congrArg some (by kernel_rfl))
  f225 := Tryz.func244.trans (congrArg some (by kernel_rfl))
  f266 := Tryz.func174.trans (congrArg some (by kernel_rfl))
  f267 := Tryz.func246.trans (congrArg some (by kernel_rfl))
  f314 := Tryz.func252.trans (congrArg some (by kernel_rfl))
  t3 := Tryz.underlying3
  a3 := Tryz.isAgg3
  z3 := Tryz.sizeOf3
  v3 := Tryz.zeroValue3
  t4 := Tryz.underlying4
  a4 := Tryz.isAgg4
  z4 := Tryz.sizeOf4
  v4 := Tryz.zeroValue4
  t5 := Tryz.underlying5
  a5 := Tryz.isAgg5
  z5 := Tryz.sizeOf5
  v5 := Tryz.zeroValue5
  t9 := Tryz.underlying9
  a9 := Tryz.isAgg9
  z9 := Tryz.sizeOf9
  v9 := Tryz.zeroValue9
  t46 := Tryz.underlying226
  a46 := Tryz.isAgg226
  z46 := Tryz.sizeOf226
  v46 := Tryz.zeroValue226
  t51 := Tryz.underlying265
  a51 := Tryz.isAgg265
  z51 := Tryz.sizeOf265
  v51 := Tryz.zeroValue265
  t59 := Tryz.underlying230
  a59 := Tryz.isAgg230
  z59 := Tryz.sizeOf230
  v59 := Tryz.zeroValue230
  t146 := Tryz.underlying274
  a146 := Tryz.isAgg274
  z146 := Tryz.sizeOf274
  v146 := Tryz.zeroValue274
  g1 := by kernel_rfl }
end Go.Proofs
namespace Go.Proofs.YtfopddgjdaoidaaGreatDoor.chk
open Go.RowKit
open syn face
def HasMax (w:World):Prop:=∃ m:Int,w.cell? ⟨Tryz.laysCut_ren.g 1,0,none⟩=some (.int .i64 m)
theorem hasMax_below {w w':World} (h:HasMax w) (hb:Below w.heap.size w w'):HasMax w':=by
 obtain ⟨m,h⟩:=h
 exact ⟨m,keep h hb⟩
theorem index_no:∀ l:List UInt8,(∀ c∈l,c≠46)→Lib.index l [46] = -1
 | l,h=>Lib.index_none (fun j hj=>by
  unfold Lib.occAt
  cases hd:l.drop j with
  | nil=>rfl
  | cons c r =>
   have hc:c∈l:=List.mem_of_mem_drop (i:=j) (by rw [hd];exact List.mem_cons_self)
   have:=h c hc
   show ((46:UInt8)==c&&List.isPrefixOf [] r)=false
   rw [beq_false_of_ne (Ne.symm this)]
   rfl)
theorem index_at (a b:List UInt8) (h:∀ c∈a,c≠46):Lib.index (a++46 :: b) [46]=a.length :=
 Lib.index_first (i:=a.length) (by simp) (by
  unfold Lib.occAt
  simp) (fun j hj=>by
  unfold Lib.occAt
  rw [List.drop_append_of_le_length (by omega)]
  cases hd:a.drop j with
  | nil =>
   have:=congrArg List.length hd
   simp at this
   omega
  | cons c r =>
   have hc:c∈a:=List.mem_of_mem_drop (i:=j) (by rw [hd];exact List.mem_cons_self)
   have:=h c hc
   show ((46:UInt8)==c&&List.isPrefixOf [] _)=false
   rw [beq_false_of_ne (Ne.symm this)]
   rfl)
theorem oSplit (x:ByteArray) (w:World) (hx:LongN x) (hm:HasMax w) :
  Calls Tryz.prog 228 #[.string x] w fun e w'=>e=.returned (.tuple #[.string (modOf x),.string (ownOf x)])∧Below w.heap.size w w':=by
 obtain ⟨m,hm⟩:=hm
 have hC:=Any.strings_Cut Tryz.laysCut x ⟨#[46]⟩ m w (by have:=long_size hx;omega) hm
 rw [show ((⟨#[46]⟩:ByteArray).data.toList)=[46] from rfl] at hC
 rcases long_cases hx with ⟨h1,h2,h3⟩|⟨a,b,h1,h2,h3,h4,h5,h6⟩
 ·have hc:Lib.cut x.data.toList [46]=(x.data.toList,[],false):=by
   unfold Lib.cut
   rw [index_no _ h1,if_neg (by decide)]
  rw [hc] at hC
  rw [h2,h3]
  dsimp only at hC
  rw [Lib.mk_data] at hC
  go_enter Tryz.func228,Tryz.ntmps228
  go_wp2_with (go_at_call 199;refine hC.mono ?_;rintro e w1 ⟨rfl,n,rfl⟩)
  refine bodyPost_ret (v:=.tuple #[.string empty,.string x]) (by simp [results,Tryz.results228,go_sem,empty]) rfl ?_
  exact ⟨rfl,⟨rfl,rfl,rfl,jE _,fun _ _=>rfl⟩⟩
 ·have hc:Lib.cut x.data.toList [46]=(a,b,true):=by
   unfold Lib.cut
   rw [h1,index_at a b h3,if_pos (by omega)]
   simp
  rw [hc] at hC
  rw [h5,h6]
  dsimp only at hC
  go_enter Tryz.func228,Tryz.ntmps228
  go_wp2_with (go_at_call 199;refine hC.mono ?_;rintro e w1 ⟨rfl,n,rfl⟩)
  refine bodyPost_ret (v:=.tuple #[.string ⟨a.toArray⟩,.string ⟨b.toArray⟩]) (by simp [results,Tryz.results228,go_sem]) rfl ?_
  exact ⟨rfl,⟨rfl,rfl,rfl,jE _,fun _ _=>rfl⟩⟩
end Go.Proofs.YtfopddgjdaoidaaGreatDoor.chk
namespace Go.Proofs.YtfopddgjdaoidaaGreatDoor.face
open Go.RowKit
theorem cell_grown {w w':World} {row:Option Nat} (hg:w.grownBy w' row) {a:Addr} {v:Value} (h:w.cell? a=some v) (hne:row≠some a.block):w'.cell? a=some v:=by
 rw [World.cell?_of_block (a:=a) (hg.block a.block (World.block_lt_of_cell? w a h) (fun e=>hne e.symm))]
 exact h
structure Box6 (w:World) (N:Nat) (x0 x1 x2 x3 x4 x5:Value):Prop where
 c0:w.cell? ⟨N,0,none⟩=some x0
 c1:w.cell? ⟨N,1,none⟩=some x1
 c2:w.cell? ⟨N,2,none⟩=some x2
 c3:w.cell? ⟨N,3,none⟩=some x3
 c4:w.cell? ⟨N,4,none⟩=some x4
 c5:w.cell? ⟨N,5,none⟩=some x5
 f0:w.frozen? ⟨N,0,none⟩=false
 f1:w.frozen? ⟨N,1,none⟩=false
 f2:w.frozen? ⟨N,2,none⟩=false
 f3:w.frozen? ⟨N,3,none⟩=false
 f4:w.frozen? ⟨N,4,none⟩=false
 f5:w.frozen? ⟨N,5,none⟩=false
section
variable {w w':World} {N:Nat} {x0 x1 x2 x3 x4 x5:Value}
theorem Box6.new (w:World) (x0 x1 x2 x3 x4 x5:Value) (T:TypeId):Box6 (w.alloc (.cells #[x0,x1,x2,x3,x4,x5] T)) w.heap.size x0 x1 x2 x3 x4 x5:=by constructor<;>simp
theorem Box6.lt (h:Box6 w N x0 x1 x2 x3 x4 x5):N<w.heap.size:=World.block_lt_of_cell? w ⟨N,0,none⟩ h.c0
theorem Box6.block (h:Box6 w N x0 x1 x2 x3 x4 x5) (hb:w'.heap[N]?=w.heap[N]?):Box6 w' N x0 x1 x2 x3 x4 x5 :=
 ⟨(World.cell?_of_block (a:=⟨N,0,none⟩) hb).trans h.c0,(World.cell?_of_block (a:=⟨N,1,none⟩) hb).trans h.c1,(World.cell?_of_block (a:=⟨N,2,none⟩) hb).trans h.c2,(World.cell?_of_block (a:=⟨N,3,none⟩) hb).trans h.c3,(World.cell?_of_block (a:=⟨N,4,none⟩) hb).trans h.c4,(World.cell?_of_block (a:=⟨N,5,none⟩) hb).trans h.c5,
   (World.frozen?_of_block (a:=⟨N,0,none⟩) hb).trans h.f0,(World.frozen?_of_block (a:=⟨N,1,none⟩) hb).trans h.f1,(World.frozen?_of_block (a:=⟨N,2,none⟩) hb).trans h.f2,(World.frozen?_of_block (a:=⟨N,3,none⟩) hb).trans h.f3,(World.frozen?_of_block (a:=⟨N,4,none⟩) hb).trans h.f4,(World.frozen?_of_block (a:=⟨N,5,none⟩) hb).trans h.f5⟩
theorem Box6.below (h:Box6 w N x0 x1 x2 x3 x4 x5) (hb:Below w.heap.size w w'):Box6 w' N x0 x1 x2 x3 x4 x5:=h.block (hb.block N h.lt)
theorem Box6.alloc (h:Box6 w N x0 x1 x2 x3 x4 x5) (o:Obj):Box6 (w.alloc o) N x0 x1 x2 x3 x4 x5:=h.below (bal o)
theorem Box6.grown {row:Option Nat} (h:Box6 w N x0 x1 x2 x3 x4 x5) (hg:w.grownBy w' row) (hne:row≠some N):Box6 w' N x0 x1 x2 x3 x4 x5:=h.block (hg.block N h.lt (fun e=>hne e.symm))
theorem Box6.other (h:Box6 w N x0 x1 x2 x3 x4 x5) {M o:Nat} (hne:M≠N) (v:Value):Box6 (w.setCell ⟨M,o,none⟩ v) N x0 x1 x2 x3 x4 x5:=h.block (Below.heap_setCell _ _ _ _ (fun e=>hne (by rw [e])))
theorem Box6.drew (h:Box6 w N x0 x1 x2 x3 x4 x5):Box6 w.drew N x0 x1 x2 x3 x4 x5:=⟨h.c0,h.c1,h.c2,h.c3,h.c4,h.c5,h.f0,h.f1,h.f2,h.f3,h.f4,h.f5⟩
theorem Box6.set2 (h:Box6 w N x0 x1 x2 x3 x4 x5) (v:Value):Box6 (w.setCell ⟨N,2,none⟩ v) N x0 x1 v x3 x4 x5 :=
 ⟨by rw [jD _ _ _ _ (by simp)];exact h.c0,by rw [jD _ _ _ _ (by simp)];exact h.c1,World.cell?_setCell_same _ _ _ h.c2,by rw [jD _ _ _ _ (by simp)];exact h.c3,by rw [jD _ _ _ _ (by simp)];exact h.c4,by rw [jD _ _ _ _ (by simp)];exact h.c5,
  by simp [h.f0],by simp [h.f1],by simp [h.f2],by simp [h.f3],by simp [h.f4],by simp [h.f5]⟩
end
end Go.Proofs.YtfopddgjdaoidaaGreatDoor.face
namespace Go.Proofs.YtfopddgjdaoidaaGreatDoor.face
open Go.RowKit
open syn
def intV (l:List Int):List Value:=l.map (Value.int .i64)
theorem intV_snoc (l:List Int) (y:Int):intV (l++[y])=intV l++[.int .i64 y]:=by simp [intV]
theorem infoI:(Tryz.prog.info? 3).map (fun i=>(i.zero,i.size,i.bytes))=some (some (.int .i64 0),1,8):=by kernel_rfl
theorem one_int (y:Int):∀ u∈[Value.int .i64 y],u.oneCell'=true:=by intro u hu;simp at hu;rw [hu];rfl
theorem take_par (ps:List (ByteArray × Bool)) (j:Nat) (h:j<ps.length):((ps.take (j+1)).map fun q=>bI q.2)=((ps.take j).map fun q=>bI q.2)++[bI ps[j].2]:=by
 rw [List.take_add_one,List.map_append,List.getElem?_eq_getElem h];rfl
/-! rows of variables and of procedures -/
def varCells (l:List VarD):List Value:=l.flatMap fun v=>[.string v.name,.bool v.pub,.int .i64 v.label,.int .i64 v.size]
theorem varCells_snoc (l:List VarD) (v:VarD):varCells (l++[v])=varCells l++[.string v.name,.bool v.pub,.int .i64 v.label,.int .i64 v.size]:=by simp [varCells]
def procCells (l:List (ProcD × Value)):List Value:=l.flatMap fun q=>[.string q.1.name,.bool q.1.pub,q.2,.int .i64 q.1.writes,.bool q.1.gives,.int .i64 q.1.given]
theorem procCells_snoc (l:List (ProcD × Value)) (q:ProcD × Value):procCells (l++[q])=procCells l++[.string q.1.name,.bool q.1.pub,q.2,.int .i64 q.1.writes,.bool q.1.gives,.int .i64 q.1.given]:=by simp [procCells]
theorem varCells_at:∀ (l:List VarD) (k:Nat) (hk:k<l.length),(varCells l)[k*4]?=some (.string l[k].name)∧(varCells l)[k*4+1]?=some (.bool l[k].pub)∧(varCells l)[k*4+2]?=some (.int .i64 l[k].label)∧(varCells l)[k*4+3]?=some (.int .i64 l[k].size)
 | [],k,hk=>by simp at hk
 | v :: l,0,hk=>by simp [varCells]
 | v :: l,k+1,hk=>by
  have hk':k<l.length:=by simpa using hk
  have h:=varCells_at l k hk'
  have e:varCells (v :: l)=[.string v.name,.bool v.pub,.int .i64 v.label,.int .i64 v.size]++varCells l:=rfl
  have e3:(k+1)*4=k*4+4:=by omega
  rw [e,e3]
  refine ⟨?_,?_,?_,?_⟩
  ·rw [List.getElem?_append_right (by simp)];simpa using h.1
  ·rw [List.getElem?_append_right (by simp)];simpa using h.2.1
  ·rw [List.getElem?_append_right (by simp)];simpa using h.2.2.1
  ·rw [List.getElem?_append_right (by simp)];simpa using h.2.2.2
theorem procCells_at:∀ (l:List (ProcD × Value)) (k:Nat) (hk:k<l.length),(procCells l)[k*6]?=some (.string l[k].1.name)∧(procCells l)[k*6+1]?=some (.bool l[k].1.pub)∧(procCells l)[k*6+2]?=some l[k].2∧(procCells l)[k*6+3]?=some (.int .i64 l[k].1.writes)∧(procCells l)[k*6+4]?=some (.bool l[k].1.gives)∧(procCells l)[k*6+5]?=some (.int .i64 l[k].1.given)
 | [],k,hk=>by simp at hk
 | v :: l,0,hk=>by simp [procCells]
 | v :: l,k+1,hk=>by
  have hk':k<l.length:=by simpa using hk
  have h:=procCells_at l k hk'
  have e:procCells (v :: l)=[.string v.1.name,.bool v.1.pub,v.2,.int .i64 v.1.writes,.bool v.1.gives,.int .i64 v.1.given]++procCells l:=rfl
  have e3:(k+1)*6=k*6+6:=by omega
  rw [e,e3]
  refine ⟨?_,?_,?_,?_,?_,?_⟩
  ·rw [List.getElem?_append_right (by simp)];simpa using h.1
  ·rw [List.getElem?_append_right (by simp)];simpa using h.2.1
  ·rw [List.getElem?_append_right (by simp)];simpa using h.2.2.1
  ·rw [List.getElem?_append_right (by simp)];simpa using h.2.2.2.1
  ·rw [List.getElem?_append_right (by simp)];simpa using h.2.2.2.2.1
  ·rw [List.getElem?_append_right (by simp)];simpa using h.2.2.2.2.2
theorem infoV:(Tryz.prog.info? 76).map (fun i=>(i.zero,i.size,i.bytes))=some (some (.agg #[.string ⟨#[]⟩,.bool false,.int .i64 0,.int .i64 0]),4,40):=by kernel_rfl
theorem infoP:(Tryz.prog.info? 80).map (fun i=>(i.zero,i.size,i.bytes))=some (some (.agg #[.string ⟨#[]⟩,.bool false,.slice none 0 0,.int .i64 0,.bool false,.int .i64 0]),6,72):=by kernel_rfl
def ParIn (Q:Nat→Prop) (w:World) (u:Value) (l:List Int):Prop:=∃ a c,u=.slice a l.length c∧l.length≤9223372036854775807 ∧
 (l≠[]→∃ g,a=some ⟨g,0,none⟩∧Q g∧∀ i (h:i<l.length),w.cell? ⟨g,i,none⟩=some (.int .i64 l[i]))
theorem ParIn.to {Q R:Nat→Prop} {w w':World} {u:Value} {l:List Int} (h:ParIn Q w u l) (hQ:∀ b,Q b→R b) (hw:∀ b,Q b→∀ o v,w.cell? ⟨b,o,none⟩=some v→w'.cell? ⟨b,o,none⟩=some v):ParIn R w' u l:=by
 obtain ⟨a,c,e,hl,hk⟩:=h
 refine ⟨a,c,e,hl,fun hne=>?_⟩
 obtain ⟨g,e2,hq,hc⟩:=hk hne
 exact ⟨g,e2,hQ _ hq,fun i hi=>hw _ hq _ _ (hc i hi)⟩
theorem ParIn.ints {Q:Nat→Prop} {w:World} {u:Value} {l:List Int} (h:ParIn Q w u l):IntsIn w u l:=by
 obtain ⟨a,c,e,hl,hk⟩:=h
 refine ⟨a,c,e,hl,fun hne=>?_⟩
 obtain ⟨g,e2,hq,hc⟩:=hk hne
 exact ⟨g,0,e2,fun i hi=>by rw [Nat.zero_add];exact hc i hi⟩
theorem ParIn.own {w:World} {B:Nat} {u:Value} {l:List Int} (h:w.ownsRow B 3 1 u l.length (intV l)):ParIn (fun b=>B≤b∧b<w.heap.size) w u l:=by
 have hlt:=h.lt
 rcases h.2 with ⟨rfl,hn⟩|⟨g,cap,cur,rfl,_,_,h1,h2,_⟩
 ·have:l=[]:=List.length_eq_zero_iff.1 hn
  subst this
  exact ⟨none,0,rfl,by simp,fun h=>absurd rfl h⟩
 ·refine ⟨some ⟨g,0,none⟩,cap,rfl,by unfold maxLen at h2;omega,fun _=>⟨g,rfl,hlt g rfl,fun i hi=>?_⟩⟩
  have:=h.cellAt i (by omega)
  rw [this]
  unfold intV
  rw [List.getElem?_map,List.getElem?_eq_getElem hi]
  rfl
theorem vars_in {w:World} {B:Nat} {u:Value} {l:List VarD} (h:w.ownsRow B 76 4 u l.length (varCells l)) (hl:l.length≤4611686018427387903):VarsIn w u l:=by
 rcases h.2 with ⟨rfl,hn⟩|⟨g,cap,cur,rfl,_,_,h1,h2,_⟩
 ·have:l=[]:=List.length_eq_zero_iff.1 hn
  subst this
  exact ⟨none,0,rfl,by simp,fun h=>absurd rfl h⟩
 ·refine ⟨some ⟨g,0,none⟩,cap,rfl,hl,fun _=>⟨g,0,rfl,fun i hi=>?_⟩⟩
  obtain ⟨e0,e1,e2,e3⟩:=varCells_at l i hi
  simp only [Nat.zero_add]
  exact ⟨(h.cellAt _ (by omega)).trans e0,(h.cellAt _ (by omega)).trans e1,(h.cellAt _ (by omega)).trans e2,(h.cellAt _ (by omega)).trans e3⟩
theorem procs_in {w:World} {B:Nat} {u:Value} {l:List (ProcD × Value)} (h:w.ownsRow B 80 6 u l.length (procCells l)) (hl:l.length≤4611686018427387903) (hp:∀ q∈l,IntsIn w q.2 q.1.params):ProcsIn w u (l.map (·.1)):=by
 rcases h.2 with ⟨rfl,hn⟩|⟨g,cap,cur,rfl,_,_,h1,h2,_⟩
 ·have:l=[]:=List.length_eq_zero_iff.1 hn
  subst this
  exact ⟨none,0,rfl,by simp,fun h=>absurd rfl h⟩
 ·refine ⟨some ⟨g,0,none⟩,cap,by rw [List.length_map],by rw [List.length_map];exact hl,fun _=>⟨g,0,rfl,fun i hi=>?_⟩⟩
  rw [List.length_map] at hi
  obtain ⟨e0,e1,e2,e3,e4,e5⟩:=procCells_at l i hi
  simp only [Nat.zero_add,List.getElem_map]
  exact ⟨(h.cellAt _ (by omega)).trans e0,(h.cellAt _ (by omega)).trans e1,⟨_,(h.cellAt _ (by omega)).trans e2,hp _ (List.getElem_mem hi)⟩,(h.cellAt _ (by omega)).trans e3,(h.cellAt _ (by omega)).trans e4,(h.cellAt _ (by omega)).trans e5⟩
end Go.Proofs.YtfopddgjdaoidaaGreatDoor.face
namespace Go.Proofs.YtfopddgjdaoidaaGreatDoor.chk
open Go.RowKit Go.Shelf
open syn face
attribute [local go_sem] Oper.semAt_some
set_option linter.unusedVariables false
set_option linter.unusedSimpArgs false
def bk (vs:List VarD) (k:Nat):Nat × VarD:=(vs.length - 1 - k,vs[vs.length - 1 - k]?.getD default)
def upto {α:Type} (f:Nat→α) (k:Nat):List α:=(List.range k).map f
theorem upto_succ {α:Type} (f:Nat→α) (k:Nat):upto f (k+1)=upto f k++[f k]:=by simp [upto,List.range_succ]
theorem upto_length {α:Type} (f:Nat→α) (k:Nat):(upto f k).length=k:=by simp [upto]
def encV (x:Nat × VarD):Array Value:=#[.int .i64 (x.1:Int),varV x.2]
set_option maxRecDepth 100000 in
set_option maxHeartbeats 2000000 in
theorem back1_in (F:Fence) (n:Nat) (hfn:F.fn 241) (hro:F.round=none) (hn:1≤n) (l Bs n₀ b cap:Nat) (vs:List VarD) (hlen:vs.length≤1000) (hb:b<n₀) (hBn:Bs<n₀) (J Jx:List (Nat × VarD)→World→Prop)
  (hY:∀ pre x W,J pre W→pre.length<vs.length→YieldAt F (n - 1) Tryz.prog l (encV x) W fun e W' =>
   (e=.returned (.bool true)∧J (pre++[x]) W'∧Below n₀ W W')∨(e=.returned (.bool false)∧Jx (pre++[x]) W'))
  (W:World) (hBs:W.cell? ⟨Bs,0,none⟩=some (.slice (some ⟨b,0,none⟩) vs.length cap)) (hc:∀ j (hj:j<vs.length),W.cell? ⟨b,j*4,none⟩=some (.string vs[j].name)∧W.cell? ⟨b,j*4+1,none⟩=some (.bool vs[j].pub)∧W.cell? ⟨b,j*4+2,none⟩=some (.int .i64 vs[j].label)∧W.cell? ⟨b,j*4+3,none⟩=some (.int .i64 vs[j].size)) (h0:J [] W) :
  CallsIn F n Tryz.prog 241 #[.func (.yield l) #[] #[],.pointer (some ⟨Bs,0,none⟩)] W fun e W'=>(∃ v,e=.returned v) ∧
   ((∃ ys,ys=upto (bk vs) vs.length∧J ys W')∨(∃ pre,(∃ k,k≤vs.length∧pre=upto (bk vs) k)∧Jx pre W')):=by
 have c4:Tryz.prog.cellsOf 76=4:=cell4
 refine callsIn_of_wp Tryz.func241 rfl hfn ?_ hro
 simp only [Tryz.ntmps241,List.size_toArray,List.length_cons,List.length_nil,Nat.reduceAdd,Nat.reduceSub,Array.replicate_succ,Array.replicate_zero,List.push_toArray,List.append_toArray,List.nil_append,List.cons_append]
 gi_wp2
 gi_loopw [3] (fun i wr=>∃ k:Nat,k≤vs.length∧i=.int .i64 ((vs.length:Int) - 1 - k)∧J (upto (bk vs) k) wr∧Below n₀ W wr)
  (fun i _=>(intOf i+1).toNat)
 case atStart=>exact ⟨0,Nat.zero_le _,by simp,h0,Below.refl _ _⟩
 case round =>
  obtain ⟨k,hk,rfl,hJs,hnx⟩:=hrel
  have hbs:=(hnx.cell (p:=⟨Bs,0,none⟩) hBn).trans hBs
  by_cases hlt:k<vs.length
  ·obtain ⟨j,hj⟩:∃ j:Nat,j=vs.length - 1 - k:=⟨_,rfl⟩
   have hjl:j<vs.length:=by omega
   have hji:(vs.length:Int) - 1 - k=(j:Int):=by omega
   obtain ⟨e0,e1,e2,e3⟩:=hc j hjl
   have k0:=(hnx.cell (p:=⟨b,j*4,none⟩) hb).trans e0
   have k1:=(hnx.cell (p:=⟨b,j*4+1,none⟩) hb).trans e1
   have k2:=(hnx.cell (p:=⟨b,j*4+2,none⟩) hb).trans e2
   have k3:=(hnx.cell (p:=⟨b,j*4+3,none⟩) hb).trans e3
   have hbk:bk vs k=(j,vs[j]):=by
    unfold bk
    rw [← hj,List.getElem?_eq_getElem hjl]
    rfl
   obtain ⟨fn,tmps,assign,body,hy,hR⟩:=hY _ (bk vs k) wr hJs (by rw [upto_length];exact hlt)
   rw [hbk] at hy
   unfold encV varV at hy
   dsimp only at hy
   have HU:Hid (upto (bk vs) (k+1)=upto (bk vs) k++[bk vs k]):=upto_succ _ _
   rw [hji]
   have HJ:Hid ((vs.length:Int) - 1 - k=(j:Int)):=hji
   clear hc e0 e1 e2 e3 hbk hj hji
   generalize vs[j]=v at *
   gi_wp2
   refine hR.mono ?_
   rintro e W3 (⟨rfl,hJ3,hk3⟩|⟨rfl,hJx3⟩)
   ·gi_wp2
    go_roundw
    case rel=>exact ⟨k+1,by omega,by have:=HJ.out;go_num,by rw [HU.out];exact hJ3,hnx.trans hk3⟩
    case measure=>simp [intOf]
   ·gi_wp2
    refine bodyPost_ret (results_none rfl _ _ _) rfl ?_
    exact ⟨⟨_,rfl⟩,.inr ⟨_,⟨k+1,by omega,HU.out.symm⟩,hJx3⟩⟩
  ·obtain rfl:k=vs.length:=by omega
   gi_wp2
   go_end0
   exact ⟨⟨_,rfl⟩,.inl ⟨_,rfl,hJs⟩⟩
attribute [local go_sem] Oper.semAt_some
set_option linter.unusedVariables false
set_option linter.unusedSimpArgs false
set_option maxRecDepth 100000 in
set_option maxHeartbeats 1000000 in
theorem back1_nil_in (F:Fence) (n:Nat) (hfn:F.fn 241) (hro:F.round=none) (l Bs:Nat) (a:Option Addr) (cap:Nat) (J:List (Nat × VarD)→World→Prop) (W:World) (hBs:W.cell? ⟨Bs,0,none⟩=some (.slice a 0 cap)) (h0:J [] W) :
  CallsIn F n Tryz.prog 241 #[.func (.yield l) #[] #[],.pointer (some ⟨Bs,0,none⟩)] W fun e W'=>(∃ v,e=.returned v)∧J [] W':=by
 refine callsIn_of_wp Tryz.func241 rfl hfn ?_ hro
 simp only [Tryz.ntmps241,List.size_toArray,List.length_cons,List.length_nil,Nat.reduceAdd,Nat.reduceSub,Array.replicate_succ,Array.replicate_zero,List.push_toArray,List.append_toArray,List.nil_append,List.cons_append]
 gi_wp2
 gi_loopw [3] (fun i wr=>i=.int .i64 (-1)∧J [] wr) (fun _ _=>0)
 case atStart=>exact ⟨by simp,h0⟩
 case round =>
  obtain ⟨rfl,hJs⟩:=hrel
  gi_wp2
  go_end0
  exact ⟨⟨_,rfl⟩,hJs⟩
set_option maxHeartbeats 1000000 in
theorem back_in (F:Fence) (n:Nat) (hfn:F.fn 227) (hro:F.round=none) (a:Option Addr) (len cap:Nat) (w:World) :
  CallsIn F n Tryz.prog 227 #[.slice a len cap] w fun e w'=>e=.returned (.func (.func 241) #[] #[.pointer (some ⟨w.heap.size,0,none⟩)])∧w'=w.alloc (.cells #[.slice a len cap] 41):=by
 refine callsIn_of_wp Tryz.func227 rfl hfn ?_ hro
 simp only [Tryz.ntmps227,List.size_toArray,List.length_cons,List.length_nil,Nat.reduceAdd,Nat.reduceSub,Array.replicate_succ,Array.replicate_zero,List.push_toArray,List.append_toArray,List.nil_append,List.cons_append]
 gi_wp2
 go_ret
 exact ⟨rfl,rfl⟩
def RowV (n₀:Nat) (W:World) (u:Value) (vs:List VarD):Prop:=∃ a cap,u=.slice a vs.length cap∧(0<vs.length→∃ b,a=some ⟨b,0,none⟩∧b<n₀∧∀ j (hj:j<vs.length),W.cell? ⟨b,j*4,none⟩=some (.string vs[j].name)∧W.cell? ⟨b,j*4+1,none⟩=some (.bool vs[j].pub)∧W.cell? ⟨b,j*4+2,none⟩=some (.int .i64 vs[j].label)∧W.cell? ⟨b,j*4+3,none⟩=some (.int .i64 vs[j].size))
theorem RowV.below {n₀:Nat} {A B:World} (h:Below n₀ A B) {u:Value} {vs:List VarD} (hr:RowV n₀ A u vs):RowV n₀ B u vs:=by
 obtain ⟨a,cap,e,hk⟩:=hr
 refine ⟨a,cap,e,fun hp=>?_⟩
 obtain ⟨b,e2,hb,hc⟩:=hk hp
 refine ⟨b,e2,hb,fun j hj=>?_⟩
 obtain ⟨c0,c1,c2,c3⟩:=hc j hj
 exact ⟨(h.cell (p:=⟨b,j*4,none⟩) hb).trans c0,(h.cell (p:=⟨b,j*4+1,none⟩) hb).trans c1,(h.cell (p:=⟨b,j*4+2,none⟩) hb).trans c2,(h.cell (p:=⟨b,j*4+3,none⟩) hb).trans c3⟩
theorem RowV.mono {n₀ n₁:Nat} {A:World} {u:Value} {vs:List VarD} (hr:RowV n₀ A u vs) (h:n₀≤n₁):RowV n₁ A u vs:=by
 obtain ⟨a,cap,e,hk⟩:=hr
 refine ⟨a,cap,e,fun hp=>?_⟩
 obtain ⟨b,e2,hb,hc⟩:=hk hp
 exact ⟨b,e2,by omega,hc⟩
theorem rowV_own {w:World} {B:Nat} {u:Value} {vs:List VarD} (h:w.ownsRow B 76 4 u vs.length (varCells vs)):RowV w.heap.size w u vs:=by
 rcases h.2 with ⟨rfl,hn⟩|⟨g,cap,cur,rfl,_,_,h1,h2,_⟩
 ·exact ⟨none,0,by rw [hn],fun hp=>by omega⟩
 ·refine ⟨some ⟨g,0,none⟩,cap,rfl,fun _=>⟨g,rfl,(h.lt g rfl).2,fun i hi=>?_⟩⟩
  obtain ⟨e0,e1,e2,e3⟩:=varCells_at vs i hi
  exact ⟨(h.cellAt _ (by omega)).trans e0,(h.cellAt _ (by omega)).trans e1,(h.cellAt _ (by omega)).trans e2,(h.cellAt _ (by omega)).trans e3⟩
theorem back_stops (F:Fence) (n:Nat) (hfn:F.fn 241) (hro:F.round=none) (hn:1≤n) (Bs n₀:Nat) (u:Value) (vs:List VarD) (hlen:vs.length≤1000) (w:World) (hBn:Bs<n₀) (hn₀:n₀≤w.heap.size)
  (hc:w.cell? ⟨Bs,0,none⟩=some u) (hR:RowV n₀ w u vs) :
  SeqStopsK F n Tryz.prog 241 #[.pointer (some ⟨Bs,0,none⟩)] encV (Below n₀) (fun ys=>ys=upto (bk vs) vs.length)
   (fun pre=>∃ k,k≤vs.length∧pre=upto (bk vs) k) vs.length w:=fun l J Jx W hW _ _ hY h0=>by
 have hc':=(hW.cell (p:=⟨Bs,0,none⟩) (by show Bs<w.heap.size;omega)).trans hc
 obtain ⟨a,cap,rfl,hk⟩:=hR.below (hW.mono hn₀)
 rcases Nat.eq_zero_or_pos vs.length with hz | hp
 ·rw [hz] at hc'
  refine (back1_nil_in F n hfn hro l Bs a cap J W hc' h0).mono fun e W' ⟨he,hj⟩=>⟨he,.inl ⟨_,rfl,?_⟩⟩
  rw [hz]
  exact hj
 ·obtain ⟨b,rfl,hb,hcs⟩:=hk hp
  exact back1_in F n hfn hro hn l Bs n₀ b cap vs hlen hb hBn J Jx hY W hc' hcs h0
end Go.Proofs.YtfopddgjdaoidaaGreatDoor.chk
namespace Go.Proofs.YtfopddgjdaoidaaGreatDoor.face
open Go.RowKit Go.Maps Go.WideMaps
open syn (isName eqS)
/-! how many names are known: plain facts -/
def keyL (x:ByteArray):Lit:=.string x.data.toList
def keysL (l:List ByteArray):List Lit:=l.map keyL
theorem eqS_key (x y:ByteArray):(keyL x).sameKey (keyL y)=eqS x y:=by
 show (x.data.toList==y.data.toList)=eqS x y
 unfold eqS
 rw [ByteArray.toList_eq,ByteArray.toList_eq]
theorem among_key (l:List ByteArray) (x:ByteArray):((keysL l).any fun y=>y.sameKey (keyL x))=among l x:=by
 unfold keysL among
 rw [List.any_map]
 congr 1
 funext y
 exact eqS_key y x
theorem fold_le:∀ (l acc:List Lit),(l.foldl addKey acc).length≤acc.length+l.length
 | [],acc=>by simp
 | x :: r,acc=>by
  rw [List.foldl_cons]
  have h1:=fold_le r (addKey acc x)
  have h2:(addKey acc x).length≤acc.length+1:=by unfold addKey;split<;>simp
  simp only [List.length_cons]
  omega
theorem fold_apart:∀ (l seen:List ByteArray),(((keysL l).foldl addKey (keysL seen)).length==seen.length+l.length)=apartB seen l
 | [],seen=>by simp [keysL,apartB]
 | x :: r,seen=>by
  show (((keyL x :: keysL r).foldl addKey (keysL seen)).length==seen.length+(r.length+1))=(!among seen x&&apartB (seen++[x]) r)
  rw [List.foldl_cons]
  unfold addKey
  rw [among_key]
  cases h:among seen x
  ·simp only [Bool.false_eq_true,if_false,Bool.not_false,Bool.true_and]
   have e:keysL seen++[keyL x]=keysL (seen++[x]):=by simp [keysL]
   have:=fold_apart r (seen++[x])
   rw [e,← this]
   simp only [List.length_append,List.length_cons,List.length_nil]
   congr 1
   omega
  ·simp only [if_true,Bool.not_true,Bool.false_and]
   have:=fold_le (keysL r) (keysL seen)
   have e1:(keysL seen).length=seen.length:=by simp [keysL]
   have e2:(keysL r).length=r.length:=by simp [keysL]
   rw [beq_eq_false_iff_ne]
   show (List.foldl addKey (keysL seen) (keysL r)).length≠_
   omega
def setD (l:List ByteArray):DataW Unit:=setOf (.agg []) (keysL l)
theorem setD_size (l:List ByteArray):(Maps.size (setD l)==l.length)=apartB [] l:=by
 unfold setD
 rw [size_setOf _ _ (fun x hx=>by obtain ⟨y,_,rfl⟩:=List.mem_map.1 hx;trivial)]
 have:=fold_apart l []
 simpa [keysL] using this
theorem setD_snoc (l:List ByteArray) (x:ByteArray):setD (l++[x])=(setD l).put (keyL x) (.agg []):=by
 unfold setD keysL
 rw [List.map_append,List.map_singleton,setOf_snoc]
/-! the map while it is filled -/
theorem lawS:Keyed Tryz.prog 9:=string_keyed Tryz.underlying9
theorem isName_size {x:ByteArray} (h:isName x=true):x.size≤maxLen:=by
 unfold isName at h
 simp only [Bool.and_eq_true,decide_eq_true_eq] at h
 have:=h.1.1.1.2
 unfold maxLen
 omega
theorem key_name {x:ByteArray} (h:isName x=true):keyOf Tryz.prog 9 (.string x)=some (keyL x):=keyOf_string_mk Tryz.underlying9 (isName_size h)
theorem grown_of_below {w w':World} (hb:Below w.heap.size w w'):w.grownBy w' none:=⟨hb.os,hb.tape,hb.output,hb.size,fun j hj _=>hb.block j hj⟩
theorem grown_cell {w w':World} {row:Option Nat} (hg:w.grownBy w' row) {a:Addr} {v:Value} (h:w.cell? a=some v) (hne:some a.block≠row):w'.cell? a=some v:=by
 have:=hg.block a.block (World.block_lt_of_cell? w a h) hne
 unfold World.cell? at h ⊢
 rw [this]
 exact h
end Go.Proofs.YtfopddgjdaoidaaGreatDoor.face
namespace Go.Proofs.YtfopddgjdaoidaaGreatDoor.chk
open Go.RowKit Go.Maps Go.WideMaps
open syn face
def heldE (v:Value):Option (DataW Value × List MemPlace):=some (.held v,[])
def MapF (w:World) (b n:Nat) (f:ByteArray→Option Value):Prop :=
 ∃ D:DataW Value,w.ownsMap Tryz.prog 9 heldE b n D∧∀ x:ByteArray,Maps.has D (keyL x)=(f x).isSome∧∀ v,f x=some v→∀ z,D.atKey (keyL x) z=.held v
def noFaceV:Value:=.agg #[.string ⟨#[]⟩,.slice none 0 0,.slice none 0 0]
theorem zeroF (w:World):(zeroValue 44).run Tryz.prog w=.ok noFaceV w:=by kernel_rfl
theorem held_inj {v v':Value} {ps:List MemPlace} (h:heldE v=some (.held v',ps)):v=v':=by
 unfold heldE at h
 simp only [Option.some.injEq,Prod.mk.injEq,DataW.held.injEq] at h
 exact h.1
section
variable {w w':World} {b n:Nat} {f:ByteArray→Option Value}
theorem MapF.made (w:World):MapF (w.alloc (.map #[] 0)) w.heap.size 0 (fun _=>none) :=
 ⟨.map [],World.ownsMap_made _ _ _ _,fun x=>⟨rfl,fun v h=>by cases h⟩⟩
theorem MapF.lt (h:MapF w b n f):b<w.heap.size:=by
 obtain ⟨D,h,_⟩:=h
 exact h.lt
theorem MapF.kept {row:Option Nat} (h:MapF w b n f) (hg:w.grownBy w' row) (hne:some b≠row):MapF w' b n f:=by
 obtain ⟨D,h,h2⟩:=h
 exact ⟨D,h.kept hg hne,h2⟩
theorem MapF.below (h:MapF w b n f) (hb:Below w.heap.size w w'):MapF w' b n f:=h.kept (grown_of_below hb) (by simp)
theorem MapF.setCell (h:MapF w b n f) {a:Addr} (ha:b≠a.block) (u:Value):MapF (w.setCell a u) b n f:=by
 obtain ⟨D,h,h2⟩:=h
 exact ⟨D,h.setCell ha u,h2⟩
theorem key_ne {x y:ByteArray} (h:eqS x y=false):keyL x≠keyL y:=fun e=>by
 have:=eqS_key x y
 rw [e,eqS_key,h] at this
 have h2:eqS y y=true:=by unfold eqS;simp
 rw [h2] at this
 cases this
theorem key_eq {x y:ByteArray} (h:eqS x y=true):keyL x=keyL y:=by
 unfold eqS at h
 unfold keyL
 rw [← ByteArray.toList_eq,← ByteArray.toList_eq]
 rw [beq_iff_eq] at h
 rw [h]
theorem key_isKey (x:ByteArray):WideAt.IsKeyLit (keyL x):=trivial
theorem MapF.look (h:MapF w b n f) (x:ByteArray) (hx:x.size≤maxLen):(Instr.lookup 60 (.map (some b)) (.string x) false).run Tryz.prog w=.ok ((f x).getD noFaceV) w:=by
 obtain ⟨D,h,h2⟩:=h
 obtain ⟨v,ps,hrun,hv⟩:=h.lookup lawS Tryz.underlying60 (zeroF w) (zd:=.held noFaceV) (zp:=[]) rfl (keyOf_string_mk Tryz.underlying9 hx)
 rw [hrun]
 obtain ⟨h3,h4⟩:=h2 x
 have e:D.atKey (keyL x) (.held noFaceV)=.held ((f x).getD noFaceV):=by
  cases hf:f x with
  | none=>rw [hf] at h3;exact atKey_of_not_has h3 _
  | some u=>exact h4 u hf _
 have hv':heldE v=some (D.atKey (keyL x) (.held noFaceV),ps):=hv
 rw [e] at hv'
 rw [held_inj hv']
theorem MapF.put {D:DataW Value} {x:ByteArray} {v:Value} (h:∀ y:ByteArray,Maps.has D (keyL y)=(f y).isSome∧∀ v,f y=some v→∀ z,D.atKey (keyL y) z=.held v) (hm:IsMap D):∀ y:ByteArray,Maps.has (D.put (keyL x) (.held v)) (keyL y)=((if eqS y x then some v else f y):Option Value).isSome∧∀ u,(if eqS y x then some v else f y)=some u→∀ z,(D.put (keyL x) (.held v)).atKey (keyL y) z=.held u:=by
 intro y
 cases he:eqS y x with
 | true =>
  rw [key_eq he,if_pos rfl]
  refine ⟨has_put_same hm (key_isKey x) _,fun u hu z=>?_⟩
  cases hu
  exact atKey_put_same hm (key_isKey x) _ _
 | false =>
  rw [if_neg (by decide)]
  refine ⟨(has_put_other (key_ne he) _).trans (h y).1,fun u hu z=>?_⟩
  rw [atKey_put_other (key_ne he)]
  exact (h y).2 u hu z
theorem MapF.store (h:MapF w b n f) (hn:n<maxLen) (x:ByteArray) (hx:x.size≤maxLen) (v:Value):∃ w',(Instr.mapUpdate 60 (.map (some b)) (.string x) v).run Tryz.prog w=.ok () w'∧MapF w' b (n+1) (fun z=>if eqS z x then some v else f z)∧w.grownBy w' (some b):=by
 obtain ⟨D,h,h2⟩:=h
 obtain ⟨w',h3,h4,h5⟩:=h.update lawS Tryz.underlying60 hn (keyOf_string_mk Tryz.underlying9 hx) (d:=.held v) (ps:=[]) rfl
 exact ⟨w',h3,⟨_,h4,MapF.put h2 h.isMap⟩,h5⟩
end
theorem wpList_look {w:World} {b n:Nat} {f:ByteArray→Option Value} {ops:Array Oper} {rest:List Oper} {o:Oper} {a:Act} {Q:Exit→Act→World→Prop} (hg:o.guard=none) (m x:Operand) (hop:o.op=Op.lookup 60 m x true) (hm:a.eval m=.map (some b)) (h:MapF w b n f) (y:ByteArray) (hy:y.size≤maxLen) (hx:a.eval x=.string y)
  (hK:wpList Tryz.prog ops Q rest (a.put o.dst (.tuple #[(f y).getD noFaceV,.bool (f y).isSome])) w):wpList Tryz.prog ops Q (o :: rest) a w:=by
 obtain ⟨D,h,h2⟩:=h
 refine wpList_lookup_own_ok w hg m x 60 hop 9 44 lawS Tryz.underlying60 heldE (zeroF w) (.held noFaceV) [] rfl b n D hm h (.string y) (keyL y) hx (keyOf_string_mk Tryz.underlying9 hy) ?_
 intro v ps hv
 obtain ⟨h3,h4⟩:=h2 y
 have e:D.atKey (keyL y) (.held noFaceV)=.held ((f y).getD noFaceV):=by
  cases hf:f y with
  | none=>rw [hf] at h3;exact atKey_of_not_has h3 _
  | some u=>exact h4 u hf _
 rw [e] at hv
 rw [held_inj hv,h3]
 exact hK
theorem wpList_put {w:World} {b n:Nat} {f:ByteArray→Option Value} {ops:Array Oper} {rest:List Oper} {o:Oper} {a:Act} {Q:Exit→Act→World→Prop} (hg:o.guard=none) (m x v:Operand) (hop:o.op=Op.mapUpdate 60 m x v) (hm:a.eval m=.map (some b)) (h:MapF w b n f) (hn:n<maxLen) (y:ByteArray) (hy:y.size≤maxLen) (hx:a.eval x=.string y) (u:Value) (hv:a.eval v=u)
  (hK:∀ w',MapF w' b (n+1) (fun z=>if eqS z y then some u else f z)→w.grownBy w' (some b)→wpList Tryz.prog ops Q rest (a.put o.dst undef) w'):wpList Tryz.prog ops Q (o :: rest) a w:=by
 obtain ⟨D,h,h2⟩:=h
 refine wpList_mapUpdate_own w hg m x v 60 hop 9 44 lawS Tryz.underlying60 heldE b n D hm h hn (.string y) u (keyL y) hx hv (keyOf_string_mk Tryz.underlying9 hy) (.held u) [] rfl ?_
 intro w' h3 hg'
 exact hK w' ⟨_,h3,MapF.put h2 h.isMap⟩ hg'
end Go.Proofs.YtfopddgjdaoidaaGreatDoor.chk
namespace Go.Proofs.YtfopddgjdaoidaaGreatDoor.face
open Go.RowKit Go.Maps Go.WideMaps
open syn (isName eqS)
def Thrown (c a:Int):List PanicEntry:=[{ v:=.iface 28 (.agg #[.int .i64 c,.int .i64 a]),recovered:=false }]
theorem oRefuse (D:Nat) (c a:Int) (w:World) (h:w.cell? ⟨D,7,none⟩=some (.int .i64 a)) :
  Calls Tryz.prog 151 #[.pointer (some ⟨D,0,none⟩),.int .i64 c] w fun e w'=>e=.panicked (Thrown c a)∧w'=w:=by
 unfold Thrown
 go_enter Tryz.func151,Tryz.ntmps151
 go_wp2
 exact ⟨rfl,rfl,rfl⟩
theorem has_setD (l:List ByteArray) (x:ByteArray):Maps.has (setD l) (keyL x)=among l x:=by
 unfold setD
 rw [has_setOf _ _ _ (fun y hy=>by obtain ⟨z,_,rfl⟩:=List.mem_map.1 hy;trivial)]
 exact among_key l x
theorem size_apart {l:List ByteArray} (h:apartB [] l=true):Maps.size (setD l)=l.length:=by
 have:=setD_size l
 rw [h] at this
 simpa using this
theorem zeroU (w:World):(zeroValue 78).run Tryz.prog w=.ok (.agg #[]) w:=by kernel_rfl
theorem apart_snoc:∀ (l seen:List ByteArray) (x:ByteArray),apartB seen (l++[x])=(apartB seen l&&!among (seen++l) x)
 | [],seen,x=>by simp [apartB]
 | y :: r,seen,x=>by
  show (!among seen y&&apartB (seen++[y]) (r++[x]))=((!among seen y&&apartB (seen++[y]) r)&&!among (seen++y :: r) x)
  rw [apart_snoc r (seen++[y]) x,Bool.and_assoc]
  simp
set_option maxHeartbeats 2000000 in
theorem oEnter (D b:Nat) (L:List ByteArray) (x:ByteArray) (most:Nat) (a:Int) (w:World) (hD:w.cell? ⟨D,7,none⟩=some (.int .i64 a)) (hown:w.ownsMap Tryz.prog 9 (unitElem (H:=Unit)) b L.length (setD L)) (hA:apartB [] L=true) (hx:x.size≤1000) (hm:most≤1000) (hl:L.length≤1000) :
  Calls Tryz.prog 117 #[.pointer (some ⟨D,0,none⟩),.map (some b),.string x,.int .i64 most] w fun e w' =>
   (among L x=true∧e=.panicked (Thrown 5 a)∧Below w.heap.size w w')∨(among L x=false∧most≤L.length∧e=.panicked (Thrown 1 a)∧Below w.heap.size w w') ∨
   (among L x=false∧L.length<most∧e=.returned (.tuple #[])∧w'.ownsMap Tryz.prog 9 (unitElem (H:=Unit)) b (L++[x]).length (setD (L++[x]))∧apartB [] (L++[x])=true∧w.grownBy w' (some b)):=by
 have hkey:keyOf Tryz.prog 9 (.string x)=some (keyL x):=keyOf_string_mk Tryz.underlying9 (by unfold maxLen;omega)
 have hsz:=size_apart hA
 have hhas:=has_setD L x
 have hD1:=fun ob=>cell_new hD ob
 cases hm1:among L x
 ·rw [hm1] at hhas
  by_cases hle:most≤L.length
  ·go_enter Tryz.func117,Tryz.ntmps117
   go_wp2_with first
    | (at_lookup;refine wpList_lookup_own_unit _ rfl _ _ 74 rfl 9 78 lawS Tryz.underlying74 (zeroU _) b _ _ rfl hown _ _ rfl hkey ?_;rw [hhas])
    | (at_len;refine wpList_len_own _ rfl _ 74 rfl 9 78 Tryz.underlying74 (unitElem (H:=Unit)) b _ _ rfl (hown.alloc _) ?_;rw [hsz])
    | (go_at_call 151;refine (oRefuse D _ a _ (hD1 _)).mono ?_;rintro e w2 ⟨rfl,hw2⟩;obtain rfl:=hw2.symm)
    | go_in
   exact ⟨rfl,Or.inr (Or.inl ⟨trivial,hle,rfl,bal _⟩)⟩
  ·have hlt:L.length<most:=by omega
   have hA2:apartB [] (L++[x])=true:=by rw [apart_snoc,hA,List.nil_append,hm1];rfl
   go_enter Tryz.func117,Tryz.ntmps117
   go_wp2_with first
    | (at_lookup;refine wpList_lookup_own_unit _ rfl _ _ 74 rfl 9 78 lawS Tryz.underlying74 (zeroU _) b _ _ rfl hown _ _ rfl hkey ?_;rw [hhas])
    | (at_len;refine wpList_len_own _ rfl _ 74 rfl 9 78 Tryz.underlying74 (unitElem (H:=Unit)) b _ _ rfl (hown.alloc _) ?_;rw [hsz])
    | (at_mapUpdate;refine wpList_mapUpdate_own _ rfl _ _ _ 74 rfl 9 78 lawS Tryz.underlying74 (unitElem (H:=Unit)) b _ _ rfl (hown.alloc _) (by unfold maxLen;omega) _ _ _ rfl rfl hkey _ [] unitElem_mk ?_;intro w5 hown5 hgrow5)
    | go_in
   go_end0
   exact ⟨rfl,by rw [setD_snoc];exact hown5,(((grown_of_below ((Below.refl w.heap.size w).alloc (jE _) _)).but _).trans hgrow5)⟩
 ·rw [hm1] at hhas
  go_enter Tryz.func117,Tryz.ntmps117
  go_wp2_with first
   | (at_lookup;refine wpList_lookup_own_unit _ rfl _ _ 74 rfl 9 78 lawS Tryz.underlying74 (zeroU _) b _ _ rfl hown _ _ rfl hkey ?_;rw [hhas])
   | (go_at_call 151;refine (oRefuse D _ a _ (hD1 _)).mono ?_;rintro e w2 ⟨rfl,hw2⟩;obtain rfl:=hw2.symm)
   | go_in
  exact ⟨rfl,Or.inl ⟨trivial,rfl,bal _⟩⟩
end Go.Proofs.YtfopddgjdaoidaaGreatDoor.face
namespace Go.Proofs.YtfopddgjdaoidaaGreatDoor.face
open Go.RowKit
open syn
theorem bits_pub (p l:Bool) (g:Option Bool):(bits BinOp.and IntKind.i64 (2*bI p+bI l+gI g) 2 != 0)=p:=by cases p<;>cases l<;>rcases g with _ | _ | _<;>decide +kernel
theorem bits_low (p l:Bool) (g:Option Bool):bits BinOp.and IntKind.i64 (2*bI p+bI l+gI g) 1=bI l:=by cases p<;>cases l<;>rcases g with _ | _ | _<;>decide +kernel
theorem bits_gives (p l:Bool) (g:Option Bool):bits BinOp.and IntKind.i64 (2*bI p+bI l+gI g) 12=gI g:=by cases p<;>cases l<;>rcases g with _ | _ | _<;>decide +kernel
theorem oIsPub (k:Int) (x:ByteArray) (m:Int) (a:Option Addr) (n c:Nat) (w:World) :
  Calls Tryz.prog 155 #[.agg #[.int .i64 k,.string x,.int .i64 m,.slice a n c]] w fun e w'=>e=.returned (.bool (bits BinOp.and IntKind.i64 m 2 != 0))∧Below w.heap.size w w':=by
 have c24:=kc25
 go_enter Tryz.func155,Tryz.ntmps155
 go_wp2
 go_ret
 exact ⟨rfl,bal _⟩
theorem oLabelOf (k:Int) (x:ByteArray) (m:Int) (a:Option Addr) (n c:Nat) (w:World) :
  Calls Tryz.prog 156 #[.agg #[.int .i64 k,.string x,.int .i64 m,.slice a n c]] w fun e w'=>e=.returned (.int .i64 (bits BinOp.and IntKind.i64 m 1))∧Below w.heap.size w w':=by
 have c24:=kc25
 go_enter Tryz.func156,Tryz.ntmps156
 go_wp2
 go_ret
 exact ⟨rfl,bal _⟩
abbrev Q4 (N:Nat) (x0 x1 x2 x3:Value) (w:World):Prop:=w.cell? ⟨N,0,none⟩=some x0∧w.cell? ⟨N,1,none⟩=some x1∧w.cell? ⟨N,2,none⟩=some x2∧w.cell? ⟨N,3,none⟩=some x3
theorem Q4.below {w w':World} {N:Nat} {x0 x1 x2 x3:Value} (h:Q4 N x0 x1 x2 x3 w) (hb:Below w.heap.size w w'):Q4 N x0 x1 x2 x3 w':=⟨keep h.1 hb,keep h.2.1 hb,keep h.2.2.1 hb,keep h.2.2.2 hb⟩
theorem Q4.alloc {w:World} {N:Nat} {x0 x1 x2 x3:Value} (h:Q4 N x0 x1 x2 x3 w) (o:Obj):Q4 N x0 x1 x2 x3 (w.alloc o):=h.below (bal o)
theorem Q4.set4 {w:World} {N M:Nat} {x0 x1 x2 x3:Value} (hne:M≠N) (h:Q4 N x0 x1 x2 x3 w) (a b c d:Value):Q4 N x0 x1 x2 x3 ((((w.setCell ⟨M,0,none⟩ a).setCell ⟨M,1,none⟩ b).setCell ⟨M,2,none⟩ c).setCell ⟨M,3,none⟩ d):=by
 have one:∀ (w:World) (o:Nat) (v:Value),Q4 N x0 x1 x2 x3 w→Q4 N x0 x1 x2 x3 (w.setCell ⟨M,o,none⟩ v):=fun w o v h =>
  ⟨by rw [jD _ _ _ _ (by intro e;cases e;exact hne rfl)];exact h.1,by rw [jD _ _ _ _ (by intro e;cases e;exact hne rfl)];exact h.2.1,by rw [jD _ _ _ _ (by intro e;cases e;exact hne rfl)];exact h.2.2.1,by rw [jD _ _ _ _ (by intro e;cases e;exact hne rfl)];exact h.2.2.2⟩
 exact one _ _ _ (one _ _ _ (one _ _ _ (one _ _ _ h)))
structure F4 (w:World) (N:Nat) (x0 x1 x2 x3:Value):Prop where
 c0:w.cell? ⟨N,0,none⟩=some x0
 c1:w.cell? ⟨N,1,none⟩=some x1
 c2:w.cell? ⟨N,2,none⟩=some x2
 c3:w.cell? ⟨N,3,none⟩=some x3
 f0:w.frozen? ⟨N,0,none⟩=false
 f1:w.frozen? ⟨N,1,none⟩=false
 f2:w.frozen? ⟨N,2,none⟩=false
 f3:w.frozen? ⟨N,3,none⟩=false
theorem F4.new (w:World) (x0 x1 x2 x3:Value) (T:TypeId):F4 (w.alloc (.cells #[x0,x1,x2,x3] T)) w.heap.size x0 x1 x2 x3:=by constructor<;>simp
theorem F4.lt {w:World} {N:Nat} {x0 x1 x2 x3:Value} (h:F4 w N x0 x1 x2 x3):N<w.heap.size:=World.block_lt_of_cell? w ⟨N,0,none⟩ h.c0
theorem F4.block {w w':World} {N:Nat} {x0 x1 x2 x3:Value} (h:F4 w N x0 x1 x2 x3) (hb:w'.heap[N]?=w.heap[N]?):F4 w' N x0 x1 x2 x3 :=
 ⟨(World.cell?_of_block (a:=⟨N,0,none⟩) hb).trans h.c0,(World.cell?_of_block (a:=⟨N,1,none⟩) hb).trans h.c1,(World.cell?_of_block (a:=⟨N,2,none⟩) hb).trans h.c2,(World.cell?_of_block (a:=⟨N,3,none⟩) hb).trans h.c3,(World.frozen?_of_block (a:=⟨N,0,none⟩) hb).trans h.f0,(World.frozen?_of_block (a:=⟨N,1,none⟩) hb).trans h.f1,(World.frozen?_of_block (a:=⟨N,2,none⟩) hb).trans h.f2,(World.frozen?_of_block (a:=⟨N,3,none⟩) hb).trans h.f3⟩
theorem F4.below {w w':World} {N:Nat} {x0 x1 x2 x3:Value} (h:F4 w N x0 x1 x2 x3) (hb:Below w.heap.size w w'):F4 w' N x0 x1 x2 x3:=h.block (hb.block N h.lt)
end Go.Proofs.YtfopddgjdaoidaaGreatDoor.face
