/- A reader of expressions that has answered answers the same with more fuel. -/
import Derived.Test.YtaadmdlbkhcfnaaGreatDoorNC00
import Derived.Lib.ItoaNum
set_option linter.unusedVariables false
set_option linter.unusedSimpArgs false
namespace Go.Proofs.YtaadmdlbkhcfnaaGreatDoor
namespace face
open syn (kK eqS)
def xH (n:Int):Bool:=n==0||n==1
def gP (v:VarD):Bool:=kK v.name&&(v.pub&&(xH v.label&&(decide (0<=v.size)&&decide (v.size<=64))))
def gJ (p:ProcD):Bool:=kK p.name&&(p.pub&&(decide (p.params.length<=5)&&(p.params.all xH&&(xH p.writes&&(xH p.given&&(p.gives||p.given==0))))))
def qL (l:List ByteArray) (x:ByteArray):Bool:=l.any fun y=>eqS y x
def xA:List ByteArray->List ByteArray->Bool
 | _,[]=>true
 | seen,x :: r=>!qL seen x&&xA (seen++[x]) r
def zma (f:FaceD):List ByteArray:=f.vars.map (·.name)++f.procs.map (·.name)
def cF (f:FaceD):Bool:=kK f.module&&(decide (f.vars.length+f.procs.length<=20)&&(f.vars.all gP&&(f.procs.all gJ&&xA [] (zma f))))
end face
namespace face
open syn
def bK:List ByteArray->List (ByteArray × Bool)->Int->Option (Int × Int)
 | _,[],_=>none
 | seen,q :: r,a=>if qL seen q.1 then some (5,a) else bK (seen++[q.1]) r (a+1)
def gQ:Option Int->Int->Option (Int × Int)
 | none,_=>none
 | some n,a=>if n<1\/64<n then some (6,a) else none
def lookK (m:ByteArray):List Kid->List ByteArray->List ByteArray->Int->Option (Int × Int)
 | [],_,_,_=>none
 | .imp x :: r,is,ns,a=>if qL is x||eqS x m then some (5,a) else if 5<=is.length then some (1,a) else lookK m r (is++[x]) ns (a+1)
 | .var x p l n :: r,is,ns,a=>if qL ns x then some (5,a) else if 20<=ns.length then some (1,a) else
  match gQ n a with
  | some e=>some e
  | none=>lookK m r is (ns++[x]) (a+kB (Kid.var x p l n).tree)
 | .proc x p l g ps b :: r,is,ns,a=>if qL ns x then some (5,a) else if 20<=ns.length then some (1,a) else if 5<ps.length then some (1,a) else
  match bK [] ps (a+1) with
  | some e=>some e
  | none=>lookK m r is (ns++[x]) (a+kB (Kid.proc x p l g ps b).tree)
def vD (x:ByteArray) (p l:Bool) (n:Option Int):VarD:=⟨x,p,bI l,n.getD 0⟩
def zH (x:ByteArray) (p l:Bool) (g:Option Bool) (ps:List (ByteArray × Bool)):ProcD:=⟨x,p,ps.map fun q=>bI q.2,bI l,g.isSome,bI (g.getD false)⟩
def qV:List Kid->List ByteArray
 | []=>[]
 | .imp x :: r=>x :: qV r
 | _ :: r=>qV r
def qE (all:Bool):List Kid->List VarD
 | []=>[]
 | .var x p l n :: r=>if all||p then vD x p l n :: qE all r else qE all r
 | _ :: r=>qE all r
def qH (all:Bool):List Kid->List ProcD
 | []=>[]
 | .proc x p l g ps b :: r=>if all||p then zH x p l g ps :: qH all r else qH all r
 | _ :: r=>qH all r
def zZ (all:Bool) (m:ByteArray) (ks:List Kid):FaceD:=⟨m,qE all ks,qH all ks⟩
theorem bL:∀ (a b:List Kid),qV (a++b)=qV a++qV b
 | [],b=>rfl
 | .imp x :: r,b=>by show x :: qV (r++b)=x :: (qV r++qV b);rw [bL r b]
 | .var _ _ _ _ :: r,b=>bL r b
 | .proc _ _ _ _ _ _ :: r,b=>bL r b
theorem cI (all:Bool):∀ (a b:List Kid),qE all (a++b)=qE all a++qE all b
 | [],b=>rfl
 | .imp x :: r,b=>cI all r b
 | .var x p l n :: r,b=>by
  show (if all||p then vD x p l n :: qE all (r++b) else qE all (r++b))=(if all||p then vD x p l n :: qE all r else qE all r)++qE all b;rw [cI all r b]
  split<;>rfl
 | .proc _ _ _ _ _ _ :: r,b=>cI all r b
theorem cG (all:Bool):∀ (a b:List Kid),qH all (a++b)=qH all a++qH all b
 | [],b=>rfl
 | .imp x :: r,b=>cG all r b
 | .var _ _ _ _ :: r,b=>cG all r b
 | .proc x p l g ps c :: r,b=>by
  show (if all||p then zH x p l g ps :: qH all (r++b) else qH all (r++b))=(if all||p then zH x p l g ps :: qH all r else qH all r)++qH all b;rw [cG all r b];split<;>rfl
def Kid.kind:Kid->Int
 | .imp _=>2
 | .var _ _ _ _=>3
 | .proc _ _ _ _ _ _=>4
def Kid.text:Kid->ByteArray
 | .imp x=>x
 | .var x _ _ _=>x
 | .proc x _ _ _ _ _=>x
def Kid.num:Kid->Int
 | .imp _=>0
 | .var _ p l _=>2*bI p+bI l
 | .proc _ p l g _ _=>2*bI p+bI l+gI g
def Kid.kids:Kid->List Tree
 | .imp _=>[]
 | .var _ _ _ none=>[]
 | .var _ _ _ (some n)=>[.node 15 empty n []]
 | .proc _ _ _ _ ps b=>ps.map zL++[b]
theorem Kid.tree_is (k:Kid):k.tree=.node k.kind k.text k.num k.kids:=by
 cases k with
 | imp x=>rfl
 | var x p l n=>cases n<;>rfl
 | proc x p l g ps b=>rfl
end face
namespace chk
open syn face
inductive Res (α:Type) where
 | bad (c a:Int)
 | ok (x:α)
def jn (a b:Int):Int:=if a≠0\/b≠0 then 1 else 0
structure Env where
 own:FaceD
 faces:List FaceD
structure Loc where
 name:ByteArray
 label:Int
 deep:Int
def xJ (x:ByteArray):ByteArray:=match yL x.data.toList with
 | (a,some _)=>⟨a.toArray⟩
 | (_,none)=>empty
def uR (x:ByteArray):ByteArray:=match yL x.data.toList with
 | (_,some b)=>⟨b.toArray⟩
 | (_,none)=>x
def zat (E:Env) (x:ByteArray):Option FaceD:=if (xJ x).size=0 then some E.own else E.faces.find? fun f=>eqS f.module (xJ x)
def za1 (l:List VarD) (x:ByteArray):Option VarD:=l.find? fun v=>eqS v.name x
def zgr (l:List ProcD) (x:ByteArray):Option ProcD:=l.find? fun p=>eqS p.name x
def cD (E:Env) (L:List Loc) (x:ByteArray):Option (Int × Int) :=
 match L.reverse.find? (fun l=>eqS l.name x) with
 | some l=>some (l.label,0)
 | none=>match zat E x with
  | none=>none
  | some f=>(za1 f.vars (uR x)).map fun v=>(v.label,v.size)
def procF (E:Env) (x:ByteArray):Option ProcD:=match zat E x with
 | none=>none
 | some f=>zgr f.procs (uR x)
def cY:List Int->List Int->Bool
 | [],_=>true
 | _,[]=>true
 | p :: r,l :: s=>(p==1||l==0)&&cY r s
def uB:List Int->Int->Int
 | [],l=>l
 | x :: r,l=>uB r (jn l x)
def vR (E:Env) (L:List Loc) (ctx:Int) (alone:Bool) (k:Int) (x:ByteArray) (ls:List Int) (a:Int):Res Int :=
 if k=16 then match cD E L x with
  | none=>.bad 4 a
  | some v=>if v.2=0 then .ok v.1 else .bad 3 a
 else if k=17 then match cD E L x with
  | none=>.bad 4 a
  | some v=>if 0<v.2 then .ok (jn (uB ls 0) v.1) else .bad 3 a
 else if k=18 then match procF E x with
  | none=>.bad 4 a
  | some p=>if p.params.length≠ls.length then .bad 6 a else if p.gives=false/\alone=false then .bad 3 a else if cY p.params ls=false then .bad 7 a else if p.writes≠1/\ctx≠0 then .bad 7 a else .ok p.given
 else .ok (uB ls 0)
section
variable (E:Env) (L:List Loc) (ctx:Int)
mutual
def exF (alone:Bool):Tree->Int->Res (Int × Int)
 | .node k x _ ks,a=>match exL ks (a+1) with
  | .bad c b=>.bad c b
  | .ok q=>match vR E L ctx alone k x q.1 a with
   | .bad c b=>.bad c b
   | .ok l=>.ok (l,q.2)
def exL:List Tree->Int->Res (List Int × Int)
 | [],a=>.ok ([],a)
 | t :: r,a=>match exF false t a with
  | .bad c b=>.bad c b
  | .ok q=>match exL r q.2 with
   | .bad c b=>.bad c b
   | .ok s=>.ok (q.1 :: s.1,s.2)
end
end
def plF (E:Env) (L:List Loc) (ctx:Int):Tree->Int->Res (Int × Int × Int)
 | .node k x m ks,a=>match exL E L ctx ks (a+1) with
  | .bad c b=>.bad c b
  | .ok q=>match vR E L ctx false k x q.1 a with
   | .bad c b=>.bad c b
   | .ok _=>.ok (((cD E L x).map (·.1)).getD 0,uB q.1 0,q.2)
def hi (a b c:Int):Bool:=a==1||b==1||c==1
structure Pr where
 gives:Bool
 given:Int
section
variable (E:Env) (p:Pr)
def uS (L:List Loc) (ctx deep:Int) (last:Bool) (k:Int) (x:ByteArray) (m:Int) (ks:List Tree) (a:Int):Res (List Loc × Int) :=
 if k=7 then match exL E L ctx ks (a+1) with
  | .bad c b=>.bad c b
  | .ok q=>if L.any (fun l=>l.deep==deep&&eqS l.name x) then .bad 5 a else if 20<=L.length then .bad 1 a else if m≠1/\hi (uB q.1 0) ctx 0=true then .bad 7 a else .ok (L++[⟨x,m,deep⟩],q.2)
 else if k=8 then match ks with
  | [t,e]=>match plF E L ctx t (a+1) with
   | .bad c b=>.bad c b
   | .ok q=>match exF E L ctx false e q.2.2 with
    | .bad c b=>.bad c b
    | .ok s=>if q.1≠1/\hi s.1 q.2.1 ctx=true then .bad 7 a else .ok (L,s.2)
  | _=>.ok (L,a)
 else if k=9 then match ks with
  | [t]=>match exF E L ctx true t (a+1) with
   | .bad c b=>.bad c b
   | .ok q=>.ok (L,q.2)
  | _=>.ok (L,a)
 else if k=12 then match exL E L ctx ks (a+1) with
  | .bad c b=>.bad c b
  | .ok q=>if m≠1/\hi (uB q.1 0) ctx 0=true then .bad 7 a else .ok (L,q.2)
 else if k=13 then match ks with
  | [t]=>match plF E L ctx t (a+1) with
   | .bad c b=>.bad c b
   | .ok q=>if m≠1/\ctx≠0 then .bad 7 a else if q.1≠1/\hi m q.2.1 ctx=true then .bad 7 a else .ok (L,q.2.2)
  | _=>.ok (L,a)
 else match exL E L ctx ks (a+1) with
  | .bad c b=>.bad c b
  | .ok q=>if (last&&p.gives)=false then .bad 2 a else if p.given≠1/\uB q.1 0≠0 then .bad 7 a else .ok (L,q.2)
mutual
def stF (ctx deep:Int) (last:Bool):Tree->List Loc->Int->Res (List Loc × Int)
 | .node k x m ks,L,a=>if k=10\/k=11 then match ks with
   | []=>.ok (L,a)
   | e :: r=>match exF E L ctx false e (a+1) with
    | .bad c b=>.bad c b
    | .ok q=>vE (jn ctx q.1) (deep+1) r L q.2
  else uS E p L ctx deep last k x m ks a
def vE (ctx deep:Int):List Tree->List Loc->Int->Res (List Loc × Int)
 | [],L,a=>.ok (L,a)
 | t :: r,L,a=>match blF ctx deep t L a with
  | .bad c b=>.bad c b
  | .ok q=>vE ctx deep r q.1 q.2
def blF (ctx deep:Int):Tree->List Loc->Int->Res (List Loc × Int)
 | .node _ _ _ ks,L,a=>match yG ctx deep ks L (a+1) with
  | .bad c b=>.bad c b
  | .ok q=>.ok (q.1.take L.length,q.2)
def yG (ctx deep:Int):List Tree->List Loc->Int->Res (List Loc × Int)
 | [],L,a=>.ok (L,a)
 | t :: r,L,a=>match stF ctx deep (decide (deep=1)&&r.isEmpty) t L a with
  | .bad c b=>.bad c b
  | .ok q=>yG ctx deep r q.1 q.2
end
end
def prF (E:Env) (q:ProcD) (ps:List (ByteArray × Bool)) (b:Tree) (ends:Bool) (a:Int):Res Int :=
 match blF E ⟨q.gives,q.given⟩ q.writes 1 b (ps.map fun p=>⟨p.1,bI p.2,1⟩) (a+1+ps.length) with
 | .bad c d=>.bad c d
 | .ok s=>if q.gives=true/\ends=false then .bad 2 a else .ok s.2
def uJ:Tree->Bool
 | .node _ _ _ ks=>match ks.getLast? with
  | some (.node k _ _ _)=>k==14
  | none=>false
def moF (own:FaceD) (given:List FaceD):List Kid->List FaceD->Int->Option (Int × Int)
 | [],_,_=>none
 | .imp x :: r,fs,a=>match given.find? (fun f=>eqS f.module x) with
  | none=>some (4,a)
  | some f=>moF own given r (fs++[f]) (a+1)
 | .var x p l n :: r,fs,a=>moF own given r fs (a+1+(Kid.var x p l n).kids.length)
 | .proc x p l g ps b :: r,fs,a=>match prF ⟨own,fs⟩ (zH x p l g ps) ps b (uJ b) a with
  | .bad c d=>some (c,d)
  | .ok d=>moF own given r fs d
theorem zbp:∀ (l:List UInt8),(∀ c∈l,c≠46)->yL l=(l,none)
 | [],_=>rfl
 | c :: r,h=>by
  unfold yL;rw [ju (h c (jJ)),zbp r (fun d hd=>h d (jF _ hd))]
theorem zbo:∀ (a b:List UInt8),(∀ c∈a,c≠46)->yL (a++46 :: b)=(a,some b)
 | [],b,_=>by show yL (46 :: b)=_;unfold yL;rw [jv rfl]
 | c :: r,b,h=>by
  show yL (c :: (r++46 :: b))=_;unfold yL;rw [ju (h c (jJ)),zbo r b (fun d hd=>h d (jF _ hd))]
theorem zd8 {x:ByteArray} (h:kK x=true):∀ c∈x.data.toList,c≠46:=by
 intro c hc e;unfold kK at h;simp only [jj] at h;have h2:=List.all_eq_true.1 h.1.2 c hc;rw [e] at h2;exact absurd h2 (by decide)
theorem zic {x:ByteArray} (h:zG x):((∀ c∈x.data.toList,c≠46)/\xJ x=empty/\uR x=x) \/ (∃ a b:List UInt8,x.data.toList=a++46 :: b/\0<a.length/\(∀ c∈a,c≠46)/\(∀ c∈b,c≠46)/\xJ x=⟨a.toArray⟩/\uR x=⟨b.toArray⟩):=by
 rcases h with h | ⟨a,b,ha,hb,rfl⟩
 ·have hn:=zd8 h;refine .inl ⟨hn,?_,?_⟩;·unfold xJ;rw [zbp _ hn]
  ·unfold uR;rw [zbp _ hn]
 ·have e:(a++⟨#[46]⟩++b).data.toList=a.data.toList++46 :: b.data.toList:=by
   simp [ByteArray.data_append]
  have hna:=zd8 ha;refine .inr ⟨a.data.toList,b.data.toList,e,?_,hna,zd8 hb,?_,?_⟩;·unfold kK at ha;simp only [jj,jl] at ha;have:=ha.1.1.1.1;rw [lexs.len_L];omega
  ·unfold xJ;rw [e,zbo _ _ hna]
  ·unfold uR;rw [e,zbo _ _ hna]
end chk
namespace face
open lexs syn
structure Fine (t:Tok):Prop where
 kinds:t.kind=1\/t.kind=2\/t.kind=3
 ne:t.text≠[]
 word:t.kind=1->t.text.length<=16/\xL (t.text.headD 0)=true/\t.text.all qG=true
 num:t.kind=2->qU t.text=0
 sign:t.kind=3->xL (t.text.headD 0)=false
theorem take_run (p:UInt8->Bool) (l:List UInt8):l.take (run p l)=l.takeWhile p:=by
 unfold run
 induction l with
 | nil=>rfl
 | cons b r ih =>
  rw [List.takeWhile_cons];cases p b;·rfl
  ·simp [ih]
theorem step_fine {b:UInt8} {r:List UInt8} {K:Int} {n i:Nat} (h:qA (b :: r)=.tok K n):Fine ⟨K,(b :: r).take n,i⟩:=by
 have hn:=(zbn h).1;obtain ⟨m,rfl⟩:∃ m,n=m+1:=⟨n - 1,by omega⟩
 have hh:((b :: r).take (m+1)).headD 0=b:=by simp
 have hne:(b :: r).take (m+1)≠[]:=by simp
 rw [qA,List.headD_cons,vI] at h;by_cases h1:(b==32||b==10)=true;·rw [jv h1] at h;simp at h
 rw [ju h1] at h;by_cases h2:(b==35)=true;·rw [jv h2] at h;simp at h
 rw [ju h2] at h;cases h3:xL b
 ·rw [h3] at h;simp only [jr,if_false] at h;cases h4:qJ b
  ·rw [h4] at h;simp only [jr,if_false] at h;split at h;·simp at h
   ·injection h with hk hm;subst hk;refine ⟨.inr (.inr rfl),hne,fun e=>by simp at e,fun e=>by simp at e,fun _=>?_⟩;show xL (((b :: r).take (m+1)).headD 0)=false;rw [hh];exact h3
  ·rw [h4] at h;simp only [if_true] at h;split at h;·rename_i he;injection h with hk hm;subst hk;refine ⟨.inr (.inl rfl),hne,fun e=>by simp at e,fun _=>?_,fun e=>by simp at e⟩;rw [<- hm];simpa using he
   ·simp at h
 ·rw [h3] at h;simp only [if_true] at h;split at h;·simp at h
  ·rename_i h16;injection h with hk hm;subst hk;refine ⟨.inl rfl,hne,fun _=>⟨?_,?_,?_⟩,fun e=>by simp at e,fun e=>by simp at e⟩;·show ((b :: r).take (m+1)).length<=16;rw [List.length_take];omega
   ·show xL (((b :: r).take (m+1)).headD 0)=true;rw [hh];exact h3
   ·show ((b :: r).take (m+1)).all qG=true;rw [<- hm,take_run];exact List.all_takeWhile
theorem scanL_fine:∀ (f:Nat) (l:List UInt8) (i:Nat) (acc toks:List Tok),zC f l i acc=.ok toks->(∀ t∈acc,Fine t)->∀ t∈toks,Fine t
 | 0,l,i,acc,toks,h,ha=>by
  unfold zC at h;injection h with h;subst h
  exact ha
 | f+1,[],i,acc,toks,h,ha=>by
  unfold zC at h;injection h with h;subst h
  exact ha
 | f+1,b :: r,i,acc,toks,h,ha=>by
  cases hs:qA (b :: r) with
  | skip n=>rw [cL hs] at h;exact scanL_fine f _ _ _ _ h ha
  | fault c=>rw [bP hs] at h;simp at h
  | tok k n =>
   rw [fW hs] at h;refine scanL_fine f _ _ _ _ h ?_;intro t ht;rw [List.mem_append] at ht;rcases ht with ht | ht
   ·exact ha t ht
   ·simp only [jy] at ht;subst ht;exact step_fine hs
theorem scan_fine {l:List UInt8} {toks:List Tok} (h:scan l=.ok toks):∀ t∈toks,Fine t:=by
 unfold scan at h;split at h;·simp at h
 ·exact scanL_fine _ _ _ _ _ h (fun t ht=>by simp at ht)
def raw (t:Tok):ByteArray:=⟨t.text.toArray⟩
theorem raw_list (t:Tok):(raw t).data.toList=t.text:=rfl
theorem raw_size (t:Tok):(raw t).size=t.text.length:=by rw [<- lexs.len_L,raw_list]
def ownName (t:Tok):Bool:=!(vS.any fun y=>eqS y (raw t))&&t.kind==1
theorem zbm {x y:ByteArray} (h:x.data.toList=y.data.toList):x=y:=WideShapes.bytes_inj h
theorem zdm {x y:ByteArray}:eqS x y=true ↔ x=y:=by
 unfold eqS;rw [beq_iff_eq,ByteArray.toList_eq,ByteArray.toList_eq];exact ⟨zbm,fun h=>by rw [h]⟩
def zna (x:ByteArray):List Tok->Bool
 | [t]=>ownName t&&eqS (raw t) x
 | _=>false
def bD (x:ByteArray):Bool:=zna x (scan x.data.toList).toks
theorem zpp {t:Tok} (hg:Fine t) (h:ownName t=true):kK (raw t)=true:=by
 unfold ownName at h;simp only [jj,beq_iff_eq] at h;obtain ⟨h1,h2,h3⟩:=hg.word h.2
 have hsz:1<=(raw t).size:=by
  rw [raw_size];have:=hg.ne
  cases hl:t.text with
  | nil=>exact absurd hl this
  | cons b r=>simp
 unfold kK;rw [raw_list];have hl:zD ((t.text.headD 0).toNat:Int)=true:=h2;have ha:t.text.all (fun c=>gF (c.toNat:Int))=true:=h3;rw [hl,ha,decide_eq_true ⟨hsz,by rw [raw_size];exact h1⟩,h.1];rfl
theorem run_all {l:List UInt8} (h:l.all qG=true):run qG l=l.length:=by
 apply zgs;·intro j hj _;exact List.all_eq_true.1 h _ (jH hj)
 ·exact .inl rfl
theorem zsi {x:ByteArray} (h:kK x=true):scan x.data.toList=.ok [⟨1,x.data.toList,0⟩]:=by
 unfold kK at h;simp only [jj,jl] at h;obtain ⟨⟨⟨⟨h1,h16⟩,hl⟩,ha⟩,_⟩:=h;have hlen:x.data.toList.length=x.size:=lexs.len_L x;unfold scan;rw [ju (by omega)]
 cases hx:x.data.toList with
 | nil=>rw [hx] at hlen;simp at hlen;omega
 | cons b r =>
  rw [hx] at hl ha hlen;have hlb:xL b=true:=hl;have hrun:run qG (b :: r)=(b :: r).length:=run_all ha
  have hb32:(b==32||b==10)=false:=by
   cases hb:(b==32||b==10) with
   | false=>rfl
   | true =>
    simp only [Bool.or_eq_true,beq_iff_eq] at hb;rcases hb with rfl | rfl<;>simp [xL,zD] at hlb
  have hb35:(b==35)=false:=by
   cases hb:(b==35) with
   | false=>rfl
   | true =>
    simp only [beq_iff_eq] at hb;subst hb;simp [xL,zD] at hlb
  have hs:qA (b :: r)=.tok 1 (b :: r).length:=by
   rw [qA,List.headD_cons,vI,hb32,hb35,hlb,hrun];simp only [jr,if_false,if_true];rw [ju (by omega)]
  rw [jd] at hs |-;rw [fW hs];rw [List.drop_eq_nil_of_le (by simp),zcw,jG (by simp)];rfl
theorem ztk (x:ByteArray):bD x=kK x:=by
 unfold bD
 cases hn:kK x with
 | true =>
  rw [zsi hn];show (ownName _&&eqS _ x)=true;have e:raw ⟨1,x.data.toList,0⟩=x:=zbm rfl;rw [e];unfold ownName;rw [e];unfold kK at hn;simp only [jj] at hn;rw [hn.2,zdm.2 rfl]
  rfl
 | false =>
  cases hs:scan x.data.toList with
  | err c p=>rfl
  | ok l =>
   show zna x l=false
   match l,hs with
   | [],_=>rfl
   | [t],hs =>
    show (ownName t&&eqS (raw t) x)=false
    cases ho:ownName t with
    | false=>rfl
    | true =>
     cases he:eqS (raw t) x with
     | false=>rfl
     | true =>
      have h1:=zpp (scan_fine hs t (by simp)) ho;rw [zdm.1 he,hn] at h1
      cases h1
   | _ :: _ :: _,_=>rfl
end face
namespace pr
open syn face chk
def kV (x:ByteArray):Option (List ByteArray):=match yL x.data.toList with
 | (a,none)=>if kK x then some [x] else none
 | (a,some b)=>if kK ⟨a.toArray⟩&&kK ⟨b.toArray⟩ then some [⟨a.toArray⟩,⟨#[46]⟩,⟨b.toArray⟩] else none
def xB (x:ByteArray) (names:Int):Bool:=if names=0 then x.size==0 else match kV x with
 | some l=>decide ((l.length:Int)<2*names)
 | none=>false
def qT (k:Int):Int × Int × Int × Int × Int :=
 if k=1 then (1,0,0,0,500) else if k=2 then (1,0,0,0,0) else if k=3 then (1,0,3,0,1) else if k=4 then (1,0,11,1,500) else
 if k=5 then (1,0,1,0,0) else if k=6 then (0,0,0,0,500) else if k=7 then (1,0,1,1,1) else if k=8 then (0,0,0,2,2) else
 if k=9 then (0,0,0,1,1) else if k=10 then (0,0,0,2,3) else if k=11 then (0,0,0,2,2) else if k=12 then (0,0,1,1,1) else
 if k=13 then (0,0,1,1,1) else if k=14 then (0,0,0,1,1) else if k=15 then (0,0,9223372036854775807,0,0) else if k=16 then (2,0,0,0,0) else
 if k=17 then (2,0,0,1,1) else if k=18 then (2,0,0,0,500) else if k=19 then (0,1,9,2,2) else if k=20 then (0,0,0,1,1) else (0,0,0,1,1)
def kI (kinds:List Int):Tree->Bool
 | .node k x m ks=>kinds.contains k&&decide ((qT k).2.1<=m)&&decide (m<=(qT k).2.2.1)&&decide ((qT k).2.2.2.1<=ks.length)&&decide ((ks.length:Int)<=(qT k).2.2.2.2)&&xB x (qT k).1
def vW (m:Int):ByteArray:=⟨(Lib.itoa m).toArray⟩
def yT:List Int:=[15,16,17,18,19,20,21]
def noT:Tree:=.node 0 empty 0 []
def ybn (t:Tree) (i:Nat):Tree:=match t with
 | .node _ _ _ ks=>ks.getD i noT
def kU (g:Tree->Option (List ByteArray)):Nat->List Tree->Option (List ByteArray)
 | _,[]=>some []
 | at_,t :: r=>(g t).bind fun a=>(kU g (at_+1) r).bind fun b=>some ((if at_=0 then [] else [⟨#[44]⟩])++a++b)
def uI (k m:Int):Int:=if k=19 then kZ m.toNat else if k=20\/k=21 then 3 else 4
def yV (g:Int->Tree->Option (List ByteArray)):Tree->Option (List ByteArray)
 | .node k x m ks =>
  if k=15 then some [vW m] else
  if k=16 then kV x else
  if k=17 then (kV x).bind fun nm=>(g 0 (ks.getD 0 noT)).bind fun e=>some (nm++[⟨#[91]⟩]++e++[⟨#[93]⟩]) else
  if k=18 then (kV x).bind fun nm=>(kU (g 0) 0 ks).bind fun e=>some (nm++[⟨#[40]⟩]++e++[⟨#[41]⟩]) else
  if k=19 then (g (max (kZ m.toNat) 1) (ks.getD 0 noT)).bind fun a=>(g (kZ m.toNat+1) (ks.getD 1 noT)).bind fun b=>some (a++[opAt m.toNat]++b) else
  if k=20 then (g 3 (ks.getD 0 noT)).bind fun e=>some ([⟨#[45]⟩]++e) else
  (g 3 (ks.getD 0 noT)).bind fun e=>some ([⟨#[33]⟩]++e)
def kD:Nat->Int->Tree->Option (List ByteArray)
 | 0,_,_=>none
 | f+1,least,.node k x m ks=>if kI yT (.node k x m ks) then
   (if least<=uI k m then yV (kD f) (.node k x m ks) else (yV (kD f) (.node k x m ks)).bind fun e=>some ([⟨#[40]⟩]++e++[⟨#[41]⟩])) else none
def kO (m:Int):ByteArray:=if m=1 then ⟨#[104,105,103,104]⟩ else ⟨#[108,111,119]⟩
def kW (g:Tree->Option (List ByteArray)) (ks:List Tree):Option (List ByteArray):=(kU g 0 ks).bind fun e=>some ([⟨#[40]⟩]++e++[⟨#[41]⟩])
def yK:Tree->Option (List ByteArray)
 | .node k x m ks=>if kI [5] (.node k x m ks) then some ([kO m]++[x]) else none
def kP (g:Tree->Option (List ByteArray)):List Tree->Option (List ByteArray)
 | []=>some []
 | t :: r=>(g t).bind fun a=>(kP g r).bind fun b=>some (a++b)
def kQ:List Int:=[7,8,9,10,11,12,13,14]
def yI (f:Nat) (t:Tree):Option (List ByteArray):=if kI [16,17] t then kD f 0 t else none
def doW (f:Nat) (t:Tree):Option (List ByteArray):=if kI [18] t then kD f 0 t else none
mutual
def kS:Nat->Tree->Option (List ByteArray)
 | 0,_=>none
 | f+1,.node k x m ks=>if kI [6] (.node k x m ks) then (kP (kL f) ks).bind fun b=>some ([⟨#[123]⟩]++b++[⟨#[125]⟩]) else none
def kL:Nat->Tree->Option (List ByteArray)
 | 0,_=>none
 | f+1,.node k x m ks=>if kI kQ (.node k x m ks) then
   (if k=10 then (kW (kD f 0) (ks.take 1)).bind fun c=>(kS f (ks.getD 1 noT)).bind fun b =>
    if 2<ks.length then (kS f (ks.getD 2 noT)).bind fun d=>some ([⟨#[105,102]⟩]++c++b++[⟨#[101,108,115,101]⟩]++d) else some ([⟨#[105,102]⟩]++c++b)
   else if k=11 then (kW (kD f 0) (ks.take 1)).bind fun c=>(kS f (ks.getD 1 noT)).bind fun b=>some ([⟨#[119,104,105,108,101]⟩]++c++b)
   else if k=7 then (kD f 0 (ks.getD 0 noT)).bind fun e=>some ([kO m]++[x,⟨#[61]⟩]++e++[⟨#[59]⟩])
   else if k=8 then (yI f (ks.getD 0 noT)).bind fun p=>(kD f 0 (ks.getD 1 noT)).bind fun e=>some (p++[⟨#[61]⟩]++e++[⟨#[59]⟩])
   else if k=9 then (doW f (ks.getD 0 noT)).bind fun e=>some ([⟨#[100,111]⟩]++e++[⟨#[59]⟩])
   else if k=12 then (kD f 0 (ks.getD 0 noT)).bind fun e=>some ([⟨#[111,117,116]⟩]++[kO m]++e++[⟨#[59]⟩])
   else if k=13 then (yI f (ks.getD 0 noT)).bind fun e=>some ([⟨#[105,110]⟩]++[kO m]++e++[⟨#[59]⟩])
   else (kD f 0 (ks.getD 0 noT)).bind fun e=>some ([⟨#[114,101,116,117,114,110]⟩]++e++[⟨#[59]⟩]))
  else none
end
def xE (m:Int):List ByteArray:=if m.toNat / 4 % 4=1 then [⟨#[103,105,118,101,115]⟩,⟨#[108,111,119]⟩] else if m.toNat / 4 % 4=2 then [⟨#[103,105,118,101,115]⟩,⟨#[104,105,103,104]⟩] else []
def xS (t:Tree):Option (List ByteArray):=match t with
 | .node k x m ks=>if kI [15] (.node k x m ks) then some [vW m] else none
def qQ (f:Nat) (t:Tree):Option (List ByteArray):=match t with
 | .node k x m ks=>if kI [3,4] (.node k x m ks) then
   (if k=4 then (kW yK (ks.take (ks.length - 1))).bind fun p=>(kS f (ks.getD (ks.length - 1) noT)).bind fun b=>some ((if m.toNat / 2 % 2=1 then [⟨#[112,117,98]⟩] else [])++[⟨#[112,114,111,99]⟩,x]++p++[kO (m % 2)]++xE m++b)
   else (match ks with
    | []=>some ((if m.toNat / 2 % 2=1 then [⟨#[112,117,98]⟩] else [])++[kO (m % 2)]++[x]++[⟨#[59]⟩])
    | t0 :: _=>(xS t0).bind fun n=>some ((if m.toNat / 2 % 2=1 then [⟨#[112,117,98]⟩] else [])++[kO (m % 2)]++[x]++[⟨#[91]⟩]++n++[⟨#[93]⟩]++[⟨#[59]⟩])))
  else none
def kT:Tree->Bool
 | .node k _ _ _=>k==2
def yQ (t:Tree):Option (List ByteArray):=match t with
 | .node k x m ks=>if kI [2] (.node k x m ks) then some [⟨#[105,109,112,111,114,116]⟩,x,⟨#[59]⟩] else none
def xG (f:Nat) (t:Tree):Option (List ByteArray):=match t with
 | .node k x m ks=>if kI [1] (.node k x m ks) then
   (kP yQ (ks.takeWhile kT)).bind fun a=>(kP (qQ f) (ks.dropWhile kT)).bind fun b=>some ([⟨#[109,111,100,117,108,101]⟩,x,⟨#[59]⟩]++a++b)
  else none
end pr
namespace chk
open syn face
theorem ExT.kids {k:Int} {x:ByteArray} {m:Int} {ks:List Tree} (h:ExT (.node k x m ks)):(∀ t∈ks,ExT t)/\((k=16\/k=17\/k=18)->zG x)/\(k=15\/k=16\/k=17\/k=18\/k=19\/k=20\/k=21):=by
 cases h with
 | num n=>exact ⟨fun t ht=>(by cases ht),fun h=>by omega,by omega⟩
 | nam h=>exact ⟨fun t ht=>(by cases ht),fun _=>h,by omega⟩
 | item h e=>exact ⟨fun t ht=>(by simp only [jy] at ht;subst ht;exact e),fun _=>h,by omega⟩
 | call h e=>exact ⟨e,fun _=>h,by omega⟩
 | op a b=>exact ⟨fun t ht=>(by
   simp only [List.mem_cons,List.not_mem_nil,or_false] at ht;rcases ht with rfl | rfl
   ·exact a
   ·exact b),fun h=>by omega,by omega⟩
 | neg a=>exact ⟨fun t ht=>(by simp only [jy] at ht;subst ht;exact a),fun h=>by omega,by omega⟩
 | nott a=>exact ⟨fun t ht=>(by simp only [jy] at ht;subst ht;exact a),fun h=>by omega,by omega⟩
section
variable (E:Env) (L:List Loc) (ctx:Int)
mutual
theorem dW:∀ (t:Tree) (alone:Bool) (a:Int) (q:Int × Int),exF E L ctx alone t a=.ok q->q.2=a+kB t
 | .node k x m ks,alone,a,q,h=>by
  unfold exF at h
  cases hL:exL E L ctx ks (a+1) with
  | bad c b=>rw [hL] at h;simp at h
  | ok s =>
   rw [hL] at h;dsimp only at h;have:=cZ ks (a+1) s hL
   cases hO:vR E L ctx alone k x s.1 a with
   | bad c b=>rw [hO] at h;simp at h
   | ok l =>
    rw [hO] at h;simp only [Res.ok.injEq] at h;rw [<- h];show s.2=_;rw [show kB (.node k x m ks)=kA ks+1 by unfold kB;rfl];omega
theorem cZ:∀ (ks:List Tree) (a:Int) (q:List Int × Int),exL E L ctx ks a=.ok q->q.2=a+kA ks/\q.1.length=ks.length
 | [],a,q,h=>by
  unfold exL at h;simp only [Res.ok.injEq] at h;rw [<- h]
  simp [kA]
 | t :: r,a,q,h=>by
  unfold exL at h
  cases h1:exF E L ctx false t a with
  | bad c b=>rw [h1] at h;simp at h
  | ok s =>
   rw [h1] at h;dsimp only at h
   cases h2:exL E L ctx r s.2 with
   | bad c b=>rw [h2] at h;simp at h
   | ok u =>
    rw [h2] at h;simp only [Res.ok.injEq] at h;have e1:=dW t false a s h1;have e2:=cZ r s.2 u h2;rw [<- h];show u.2=_/\(s.1 :: u.1).length=_;rw [show kA (t :: r)=kB t+kA r by rfl];refine ⟨by omega,by simp [e2.2]⟩
end
def uL (ls:List Int):Res (List Int × Int)->Res (List Int × Int)
 | .bad c b=>.bad c b
 | .ok q=>.ok (ls++q.1,q.2)
theorem zey (ks:List Tree) (j:Nat) (hj:j<ks.length) (ls:List Int) (a:Int):uL ls (exL E L ctx (ks.drop j) a)=match exF E L ctx false ks[j] a with
  | .bad c b=>.bad c b
  | .ok q=>uL (ls++[q.1]) (exL E L ctx (ks.drop (j+1)) q.2):=by
 rw [List.drop_eq_getElem_cons hj];generalize ks.drop (j+1)=rest
 rw [show exL E L ctx (ks[j] :: rest) a=(match exF E L ctx false ks[j] a with
  | .bad c b=>.bad c b
  | .ok q=>match exL E L ctx rest q.2 with
   | .bad c b=>.bad c b
   | .ok s=>.ok (q.1 :: s.1,s.2)) from by simp only [exL]<;>rfl]
 cases exF E L ctx false ks[j] a with
 | bad c b=>rfl
 | ok q =>
  dsimp only
  cases exL E L ctx rest q.2 with
  | bad c b=>rfl
  | ok u=>simp [uL]
end
theorem zik:∀ (ls:List Int) (y l:Int),uB (ls++[y]) l=jn (uB ls l) y
 | [],y,l=>rfl
 | x :: r,y,l=>zik r y (jn l x)
end chk
namespace chk
open Go.RowKit
open syn face
theorem len_cnt:∀ l:List Tree,(l.length:Int)<=kA l
 | []=>by simp [kA]
 | t :: r=>by
  have h1:=kR t;have h2:=len_cnt r;show ((r.length+1:Nat):Int)<=kB t+kA r;omega
theorem zfq {E:Env} {L:List Loc} {ctx:Int} {alone:Bool} {k:Int} {x:ByteArray} {m:Int} {ks:List Tree} {a c b:Int} (h:exL E L ctx ks (a+1)=.bad c b):exF E L ctx alone (.node k x m ks) a=.bad c b:=by
 simp only [exF,h]
theorem zgl {E:Env} {L:List Loc} {ctx:Int} {alone:Bool} {k:Int} {x:ByteArray} {m:Int} {ks:List Tree} {a a':Int} {ls:List Int} (h:exL E L ctx ks (a+1)=.ok (ls,a')):exF E L ctx alone (.node k x m ks) a=match vR E L ctx alone k x ls a with
  | .bad c b=>.bad c b
  | .ok l=>.ok (l,a'):=by
 simp only [exF,h]<;>rfl
theorem ya2 (E:Env) (L:List Loc) (ctx:Int) (alone:Bool) (x:ByteArray) (ls:List Int) (a an:Int):(match vR E L ctx alone 18 x ls a with
  | .bad c b=>Res.bad c b
  | .ok l=>.ok (l,an))=match procF E x with
  | none=>.bad 4 a
  | some p=>if p.params.length≠ls.length then .bad 6 a else if p.gives=false/\alone=false then .bad 3 a else if cY p.params ls=false then .bad 7 a else if p.writes≠1/\ctx≠0 then .bad 7 a else .ok (p.given,an):=by
 unfold vR;rw [ju (by decide),ju (by decide),jv rfl]
 cases procF E x with
 | none=>rfl
 | some p =>
  dsimp only;by_cases h1:p.params.length≠ls.length;·rw [jv h1,jv h1]
  ·rw [ju h1,ju h1];by_cases h2:p.gives=false/\alone=false;·rw [jv h2,jv h2]
   ·rw [ju h2,ju h2];by_cases h3:cY p.params ls=false;·rw [jv h3,jv h3]
    ·rw [ju h3,ju h3];by_cases h4:p.writes≠1/\ctx≠0;·rw [jv h4,jv h4]
     ·rw [ju h4,ju h4]
end chk
namespace pr
open syn face chk
theorem zbj {x:ByteArray} {l:List ByteArray} (h:kV x=some l):l.length<=3:=by
 unfold kV at h;split at h
 ·split at h;·injection h with h;subst h;simp
  ·cases h
 ·split at h;·injection h with h;subst h;simp
  ·cases h
theorem bC (f:Nat) (l:Int):kD f l noT=none:=by
 cases f<;>rfl
theorem zen {g:Tree->Option (List ByteArray)} (hg:∀ t o,g t=some o->(o.length:Int)<=8*kB t - 1):∀ (ks:List Tree) (a:Nat) (o:List ByteArray),kU g a ks=some o->(o.length:Int)<=8*kA ks
 | [],a,o,h=>by
  unfold kU at h;injection h with h;subst h
  simp [kA]
 | t :: r,a,o,h=>by
  unfold kU at h
  cases h1:g t with
  | none=>rw [h1] at h;cases h
  | some p =>
   rw [h1] at h
   cases h2:kU g (a+1) r with
   | none=>rw [h2] at h;cases h
   | some q =>
    rw [h2] at h;simp only [jf] at h;injection h with h;subst h;have e1:=hg _ _ h1;have e2:=zen hg r _ _ h2;simp only [kA,jb];split<;>simp only [je,jd]<;>push_cast<;>omega
theorem ze8 {f:Nat} (hg:∀ l t o,kD f l t=some o->(o.length:Int)<=8*kB t - 1):∀ (t:Tree) (o:List ByteArray),yV (kD f) t=some o->(o.length:Int)<=8*kB t - 3
 | .node k x m ks,o,h=>by
  have hc:kB (.node k x m ks)=1+kA ks:=by first | rfl | (simp only [kB];omega)
  have hp:=kX ks
  have k0:∀ l o,kD f l (ks.getD 0 noT)=some o->(o.length:Int)<=8*kA ks - 1:=fun l o e=>by
   cases ks with
   | nil=>rw [show ([]:List Tree).getD 0 noT=noT from rfl,bC] at e;cases e
   | cons t r =>
    have h1:=hg _ _ _ e;have h2:=kX r;simp only [kA,List.getD_cons_zero] at h1 |-;omega
  have k1:∀ l l' o o',kD f l (ks.getD 0 noT)=some o->kD f l' (ks.getD 1 noT)=some o'->(o.length:Int)+o'.length<=8*kA ks - 2:=fun l l' o o' e e'=>by
   match ks,e,e' with
   | [],e,e'=>rw [show ([]:List Tree).getD 0 noT=noT from rfl,bC] at e;cases e
   | [t],e,e'=>rw [show [t].getD 1 noT=noT from rfl,bC] at e';cases e'
   | t :: u :: r,e,e' =>
    have h1:=hg _ _ _ e;have h2:=hg _ _ _ e';have h3:=kX r;simp only [kA,List.getD_cons_zero,List.getD_cons_succ] at h1 h2 |-;omega
  rw [hc];simp only [yV] at h;split at h;·injection h with h;subst h;simp;omega
  split at h;·have:=zbj h;omega
  split at h
  ·cases h1:kV x with
   | none=>rw [h1] at h;cases h
   | some nm =>
    rw [h1] at h;simp only [jf] at h
    cases h2:kD f 0 (ks.getD 0 noT) with
    | none=>rw [h2] at h;cases h
    | some e =>
     rw [h2] at h;simp only [jf] at h;injection h with h;subst h;have e1:=zbj h1;have e2:=k0 _ _ h2;simp only [jb,jd,je];push_cast;omega
  split at h
  ·cases h1:kV x with
   | none=>rw [h1] at h;cases h
   | some nm =>
    rw [h1] at h;simp only [jf] at h
    cases h2:kU (kD f 0) 0 ks with
    | none=>rw [h2] at h;cases h
    | some e =>
     rw [h2] at h;simp only [jf] at h;injection h with h;subst h;have e1:=zbj h1;have e2:=zen (hg 0) _ _ _ h2;simp only [jb,jd,je];push_cast;omega
  split at h
  ·cases h1:kD f (max (kZ m.toNat) 1) (ks.getD 0 noT) with
   | none=>rw [h1] at h;cases h
   | some p =>
    rw [h1] at h;simp only [jf] at h
    cases h2:kD f (kZ m.toNat+1) (ks.getD 1 noT) with
    | none=>rw [h2] at h;cases h
    | some q =>
     rw [h2] at h;simp only [jf] at h;injection h with h;subst h;have e2:=k1 _ _ _ _ h1 h2;simp only [jb,jd,je];push_cast;omega
  split at h
  all_goals
   cases h2:kD f 3 (ks.getD 0 noT) with
   | none=>rw [h2] at h;cases h
   | some e =>
    rw [h2] at h;simp only [jf] at h;injection h with h;subst h;have e2:=k0 _ _ h2;simp only [jb,jd,je];push_cast;omega
theorem vM:∀ (f:Nat) (l:Int) (t:Tree) (o:List ByteArray),kD f l t=some o->(o.length:Int)<=8*kB t - 1
 | 0,l,t,o,h=>by cases h
 | f+1,l,.node k x m ks,o,h=>by
  unfold kD at h;split at h
  ·split at h;·have:=ze8 (vM f) _ _ h;omega
   ·cases h2:yV (kD f) (.node k x m ks) with
    | none=>rw [h2] at h;cases h
    | some e =>
     rw [h2] at h;simp only [jf] at h;injection h with h;subst h;have:=ze8 (vM f) _ _ h2;simp only [jb,jd,je];push_cast;omega
  ·cases h
end pr
namespace pr
open lexs (Tok scan qU val qJ)
open syn face
def za5 (k m:Int):Prop:=(k=15->0<=m/\m<=9223372036854775807)/\(k=19->1<=m/\m<=9)
mutual
def NuT:Tree->Prop
 | .node k _ m ks=>za5 k m/\NuL ks
def NuL:List Tree->Prop
 | []=>True
 | t :: r=>NuT t/\NuL r
end
theorem zs6 {l:List UInt8} (h:qU l=0) (h0:l≠[]):val l<9223372036854775808:=by
 have h1:l.all qJ=true:=by
  unfold qU at h;split at h;·cases h
  ·rename_i hh;simpa using hh
 have h2:(decide (1<l.length)&&l.headD 0==48)=false:=by
  unfold qU at h;rw [ju (by simp [h1])] at h;split at h;·cases h
  ·rename_i hh;simpa using hh
 rw [lexs.numE_val l h1 h0 h2] at h;split at h
 ·assumption
 ·cases h
theorem zqd {x:ByteArray} (h:0<=(sign x).2):1<=(sign x).1/\(sign x).1<=9:=by
 unfold sign at h |-
 cases hf:signs.find? (fun y=>eqS y.1 x) with
 | none=>rw [hf] at h;exact absurd h (by decide)
 | some y =>
  have hm:=List.mem_of_find?_eq_some hf;have:∀ y∈signs,1<=y.2.1/\y.2.1<=9:=by decide +kernel
  exact this y hm
theorem NuL.snoc {t:Tree} (ht:NuT t):∀ {ks:List Tree},NuL ks->NuL (ks++[t])
 | [],_=>by show NuT t/\NuL [];exact ⟨ht,by unfold NuL;trivial⟩
 | a :: r,h=>by
  unfold NuL at h;show NuT a/\NuL (r++[t]);exact ⟨h.1,NuL.snoc ht h.2⟩
theorem fZ {k m:Int} {x:ByteArray} (h:za5 k m):NuT (.node k x m []):=by unfold NuT;exact ⟨h,by unfold NuL;trivial⟩
theorem dV {k m:Int} {x:ByteArray} {t:Tree} (h:za5 k m) (ht:NuT t):NuT (.node k x m [t]):=by
 unfold NuT NuL NuL;exact ⟨h,ht,trivial⟩
theorem zby {k m:Int} {x:ByteArray} {t u:Tree} (h:za5 k m) (ht:NuT t) (hu:NuT u):NuT (.node k x m [t,u]):=by
 unfold NuT NuL NuL NuL;exact ⟨h,ht,hu,trivial⟩
theorem zrm {k m:Int} {x:ByteArray} {t u v:Tree} (h:za5 k m) (ht:NuT t) (hu:NuT u) (hv:NuT v):NuT (.node k x m [t,u,v]):=by
 unfold NuT NuL NuL NuL NuL;exact ⟨h,ht,hu,hv,trivial⟩
section
variable (ts:List Tok) (hG:∀ t∈ts,lexs.GoodTok t)
include hG
structure NuE (f:Nat):Prop where
 ex:∀ s q,qB ts f s=some q->NuT q.1
 bo:∀ l s q,qK ts f l s=some q->NuT q.1
 bl:∀ l n s q,NuT n->qW ts f l n s=some q->NuT q.1
 un:∀ s q,zF ts f s=some q->NuT q.1
 ak:∀ s q,zJ ts f s=some q->NuT q.1
 pl:∀ x s q,qX ts f x s=some q->NuT q.1
 ca:∀ x s q,zT ts f x s=some q->NuT q.1
 cl:∀ x ks s on q,NuL ks->zO ts f x ks s on=some q->NuT q.1
theorem zjb (s:St):NuT (zK ts s).1:=by
 unfold zK
 cases hh:xY ts s with
 | none=>exact fZ ⟨by omega,by omega⟩
 | some t =>
  dsimp only
  have hm:t∈ts:=by
   unfold xY at hh;split at hh;·cases hh
   ·exact List.mem_of_getElem? hh
  by_cases h2:(t.kind==2)=true
  ·rw [jv h2];obtain ⟨h3,h4⟩:=hG t hm (by simpa using h2);have h5:=(zs6 h3 h4)
   exact fZ ⟨fun _=>⟨by omega,by omega⟩,by omega⟩
  ·rw [ju h2];exact fZ ⟨by omega,by omega⟩
theorem nuE:∀ f,NuE ts f
 | 0=>by
  constructor;·intro s q h;unfold qB at h;cases h
  ·intro l s q h;unfold qK at h;cases h
  ·intro l n s q hn h;unfold qW at h;cases h
  ·intro s q h;unfold zF at h;cases h
  ·intro s q h;unfold zJ at h;cases h
  ·intro x s q h;unfold qX at h;cases h
  ·intro x s q h;unfold zT at h;cases h
  ·intro x ks s on q hk h;unfold zO at h;cases h
 | f+1=>by
  have ih:=nuE f;constructor
  ·intro s q h;unfold qB at h;split at h;·cases h;exact fZ ⟨by omega,by omega⟩
   ·exact ih.bo _ _ _ h
  ·intro l s q h;unfold qK at h;split at h;·exact ih.un _ _ h
   ·obtain ⟨p,hp,h⟩:=jg.1 h;exact ih.bl _ _ _ _ (ih.bo _ _ _ hp) h
  ·intro l n s q hn h;unfold qW at h;split at h;·cases h;exact hn
   ·split at h;·cases h;exact hn
    ·rename_i hs;have hr:=zqd (x:=txt ts s) (by simp at hs;omega);obtain ⟨p,hp,h⟩:=jg.1 h;have h2:=ih.bo _ _ _ hp;split at h;·cases h;exact zby ⟨by omega,fun _=>hr⟩ hn h2
     ·exact ih.bl _ _ _ _ (zby ⟨by omega,fun _=>hr⟩ hn h2) h
  ·intro s q h;unfold zF at h;split at h;·obtain ⟨p,hp,h⟩:=jg.1 h;cases h;exact dV ⟨by omega,by omega⟩ (ih.un _ _ hp)
   ·split at h;·obtain ⟨p,hp,h⟩:=jg.1 h;cases h;exact dV ⟨by omega,by omega⟩ (ih.un _ _ hp)
    ·split at h;·exact ih.ak _ _ h
     ·split at h;·cases h;exact zjb ts hG s
      ·split at h;·exact ih.ca _ _ _ h
       ·exact ih.pl _ _ _ h
  ·intro s q h;unfold zJ at h;obtain ⟨p,hp,h⟩:=jg.1 h;cases h;show NuT p.1;exact ih.ex _ _ hp
  ·intro x s q h;unfold qX at h;split at h;·obtain ⟨p,hp,h⟩:=jg.1 h;cases h;exact dV ⟨by omega,by omega⟩ (ih.ex _ _ hp)
   ·cases h;exact fZ ⟨by omega,by omega⟩
  ·intro x s q h;unfold zT at h;split at h;·cases h;exact fZ ⟨by omega,by omega⟩
   ·exact ih.cl _ _ _ _ _ (by unfold NuL;trivial) h
  ·intro x ks s on q hk h;unfold zO at h;split at h;·obtain ⟨p,hp,h⟩:=jg.1 h;exact ih.cl _ _ _ _ _ (NuL.snoc (ih.ex _ _ hp) hk) h
   ·cases h;show NuT (.node 18 x 0 ks);unfold NuT;exact ⟨⟨by omega,by omega⟩,hk⟩
structure NuS (f:Nat):Prop where
 bl:∀ s q,qZ ts f s=some q->NuT q.1
 li:∀ ks s q,NuL ks->zQ ts f ks s=some q->NuT q.1
 st:∀ s q,zI ts f s=some q->NuT q.1
theorem nuS:∀ f,NuS ts f
 | 0=>by
  constructor;·intro s q h;unfold qZ at h;cases h
  ·intro ks s q hk h;unfold zQ at h;cases h
  ·intro s q h;unfold zI at h;cases h
 | f+1=>by
  have ih:=nuS f;have ie:=nuE ts hG f;constructor;·intro s q h;unfold qZ at h;exact ih.li _ _ _ (by unfold NuL;trivial) h
  ·intro ks s q hk h;unfold zQ at h;have hn:NuT (.node 6 empty 0 ks):=by unfold NuT;exact ⟨⟨by omega,by omega⟩,hk⟩
   split at h;·cases h;exact hn
   ·split at h;·cases h;exact hn
    ·obtain ⟨p,hp,h⟩:=jg.1 h;exact ih.li _ _ _ (NuL.snoc (ih.st _ _ hp) hk) h
  ·intro s q h;unfold zI at h;split at h
   ·obtain ⟨x,hx,h⟩:=jg.1 h;obtain ⟨b,hb,h⟩:=jg.1 h;split at h;·obtain ⟨c,hc,h⟩:=jg.1 h;cases h;exact zrm ⟨by omega,by omega⟩ (ie.ak _ _ hx) (ih.bl _ _ hb) (ih.bl _ _ hc)
    ·cases h;exact zby ⟨by omega,by omega⟩ (ie.ak _ _ hx) (ih.bl _ _ hb)
   ·split at h;·obtain ⟨x,hx,h⟩:=jg.1 h;obtain ⟨b,hb,h⟩:=jg.1 h;cases h;exact zby ⟨by omega,by omega⟩ (ie.ak _ _ hx) (ih.bl _ _ hb)
    ·split at h;·obtain ⟨x,hx,h⟩:=jg.1 h;cases h;exact dV ⟨by omega,by omega⟩ (ie.ex _ _ hx)
     ·split at h;·obtain ⟨x,hx,h⟩:=jg.1 h;cases h;exact dV ⟨by omega,by omega⟩ (ie.ca _ _ _ hx)
      ·split at h;·obtain ⟨x,hx,h⟩:=jg.1 h;cases h;exact dV ⟨by omega,by omega⟩ (ie.ex _ _ hx)
       ·split at h;·obtain ⟨x,hx,h⟩:=jg.1 h;cases h;exact dV ⟨by omega,by omega⟩ (ie.pl _ _ _ hx)
        ·split at h;·obtain ⟨x,hx,h⟩:=jg.1 h;cases h;exact dV ⟨by omega,by omega⟩ (ie.ex _ _ hx)
         ·obtain ⟨x,hx,h⟩:=jg.1 h;obtain ⟨y,hy,h⟩:=jg.1 h;cases h;exact zby ⟨by omega,by omega⟩ (ie.pl _ _ _ hx) (ie.ex _ _ hy)
end
section
variable (ts:List Tok) (hG:∀ t∈ts,lexs.GoodTok t)
include hG
omit hG in
theorem zim:∀ (f:Nat) (ks:List Tree) (s:St) (q:List Tree × St),NuL ks->yD ts f ks s=some q->NuL q.1
 | 0,ks,s,q,hk,h=>by unfold yD at h;cases h
 | f+1,ks,s,q,hk,h=>by
  unfold yD at h;have hn:=NuL.snoc (fZ (x:=(name ts (label ts s).2).1) (k:=5) (m:=(label ts s).1) ⟨by omega,by omega⟩) hk;split at h;·exact zim f _ _ _ hn h
  ·cases h;exact hn
theorem zvg (f:Nat) (s:St) (q:Tree × St) (h:yO ts f s=some q):NuT q.1:=by
 unfold yO at h;split at h
 ·obtain ⟨a,ha,h⟩:=jg.1 h;obtain ⟨b,hb,h⟩:=jg.1 h;cases h
  have h1:NuL a.1:=by
   unfold params at ha;split at ha;·cases ha;unfold NuL;trivial
   ·exact zim ts f [] _ _ (by unfold NuL;trivial) ha
  show NuT (.node 4 _ _ _);unfold NuT;exact ⟨⟨by omega,by omega⟩,NuL.snoc ((nuS ts hG f).bl _ _ hb) h1⟩
 ·cases h;show NuT (.node 3 _ _ _);unfold NuT;refine ⟨⟨by omega,by omega⟩,?_⟩;unfold yB;split;·unfold NuL NuL;exact ⟨zjb ts hG _,trivial⟩
  ·unfold NuL;trivial
omit hG in
theorem zht:∀ (f:Nat) (ks:List Tree) (s:St) (q:List Tree × St),NuL ks->yC ts f ks s=some q->NuL q.1
 | 0,ks,s,q,hk,h=>by unfold yC at h;cases h
 | f+1,ks,s,q,hk,h=>by
  unfold yC at h;split at h;·exact zht f _ _ _ (NuL.snoc (fZ ⟨by omega,by omega⟩) hk) h
  ·cases h;exact hk
theorem zi2:∀ (f:Nat) (ks:List Tree) (s:St) (q:List Tree × St),NuL ks->zY ts f ks s=some q->NuL q.1
 | 0,ks,s,q,hk,h=>by unfold zY at h;cases h
 | f+1,ks,s,q,hk,h=>by
  unfold zY at h;split at h;·cases h;exact hk
  ·obtain ⟨p,hp,h⟩:=jg.1 h;exact zi2 f _ _ _ (NuL.snoc (zvg ts hG _ _ _ hp) hk) h
theorem zsz (q:Tree × St) (h:uG ts=some q):NuT q.1:=by
 unfold uG at h;obtain ⟨p,hp,h⟩:=jg.1 h;obtain ⟨r,hr,h⟩:=jg.1 h;cases h;show NuT (.node 1 _ 0 _);unfold NuT;exact ⟨⟨by omega,by omega⟩,zi2 ts hG _ _ _ _ (zht ts _ _ _ _ (by unfold NuL;trivial) hp) hr⟩
end
theorem ztd (x:ByteArray):NuT (kM x).tree:=by
 have h0:NuT fK:=fZ ⟨by omega,by omega⟩;unfold kM
 cases hs:scan x.data.toList with
 | err c p=>exact h0
 | ok ts =>
  dsimp only
  cases hm:uG ts with
  | none=>exact h0
  | some q =>
   dsimp only;unfold gB;split;·exact h0
   ·split;·exact zsz ts (fun t ht=>lexs.scan_num hs t ht) q hm
    ·exact h0
end pr
namespace pr
open lexs (Tok scan)
open syn face chk
theorem zkz:∀ ks:List Tree,(ks.length:Int)<=kA ks
 | []=>by unfold kA;simp
 | t :: r=>by
  unfold kA;have:=zkz r;have:=kR t;simp only [jd];omega
theorem zl3 {t:Tree}:∀ {ks:List Tree},t∈ks->kB t<=kA ks
 | [],h=>by cases h
 | a :: r,h=>by
  unfold kA;have h1:=kR a;have h2:=kX r;rcases List.mem_cons.1 h with rfl | h
  ·omega
  ·have:=zl3 h;omega
theorem zmq {t:Tree}:∀ {ks:List Tree},t∈ks->zV t<=zM ks
 | [],h=>by cases h
 | a :: r,h=>by
  unfold zM;rcases List.mem_cons.1 h with rfl | h
  ·omega
  ·have:=zmq h;omega
theorem znu {t:Tree}:∀ {ks:List Tree},NuL ks->t∈ks->NuT t
 | [],_,h=>by cases h
 | a :: r,hn,h=>by
  unfold NuL at hn;rcases List.mem_cons.1 h with rfl | h
  ·exact hn.1
  ·exact znu hn.2 h
structure Sz (f:Nat) (t:Tree):Prop where
 nu:NuT t
 cnt:kB t<=500
 dep:zV t<=f
theorem Sz.pos {t:Tree} (h:Sz 0 t):False:=by
 have:=cT t;have:=h.dep;omega
theorem Sz.kid {f:Nat} {k m:Int} {x:ByteArray} {ks:List Tree} (h:Sz (f+1) (.node k x m ks)) {t:Tree} (ht:t∈ks):Sz f t:=by
 obtain ⟨h1,h2,h3⟩:=h;unfold NuT at h1;unfold kB at h2;unfold zV at h3;have:=zl3 ht;have:=zmq ht;exact ⟨znu h1.2 ht,by omega,by omega⟩
theorem Sz.len {f:Nat} {k m:Int} {x:ByteArray} {ks:List Tree} (h:Sz f (.node k x m ks)):(ks.length:Int)<=500:=by
 have h2:=h.cnt;unfold kB at h2;have:=zkz ks;omega
theorem Sz.ok {f:Nat} {k m:Int} {x:ByteArray} {ks:List Tree} (h:Sz f (.node k x m ks)):za5 k m:=by
 have h1:=h.nu;unfold NuT at h1;exact h1.1
theorem zk6:∀ (l:List UInt8),(∀ c∈l,c≠46)->yL l=(l,none)
 | [],_=>rfl
 | c :: r,h=>by
  unfold yL;rw [ju (h c (jJ)),zk6 r (fun d hd=>h d (jF _ hd))]
theorem zkn:∀ (a b:List UInt8),(∀ c∈a,c≠46)->yL (a++46 :: b)=(a,some b)
 | [],b,_=>by show yL (46 :: b)=_;unfold yL;rw [jv rfl]
 | c :: r,b,h=>by
  show yL (c :: (r++46 :: b))=_;unfold yL;rw [ju (h c (jJ)),zkn r b (fun d hd=>h d (jF _ hd))]
theorem zkj {x:ByteArray} (h:kK x=true):∀ c∈x.data.toList,c≠46:=by
 intro c hc e;unfold kK at h;simp only [jj] at h;have h2:=List.all_eq_true.1 h.1.2 c hc;rw [e] at h2;exact absurd h2 (by decide)
theorem ziv {x:ByteArray} (h:kK x=true):kV x=some [x]:=by
 unfold kV;rw [zk6 _ (zkj h)];simp only;rw [jv h]
theorem zcp {x:ByteArray} (h:zG x):∃ l,kV x=some l/\l.length<=3:=by
 rcases h with h | ⟨a,b,ha,hb,rfl⟩
 ·exact ⟨[x],ziv h,by simp⟩
 ·have e:(a++⟨#[46]⟩++b).data.toList=a.data.toList++46 :: b.data.toList:=by
   simp [ByteArray.data_append]
  unfold kV;rw [e,zkn _ _ (zkj ha)];simp only;have ea:(⟨a.data.toList.toArray⟩:ByteArray)=a:=by simp
  have eb:(⟨b.data.toList.toArray⟩:ByteArray)=b:=by simp
  rw [ea,eb,ha,hb];exact ⟨_,rfl,by simp⟩
theorem cV {x:ByteArray} (h:kK x=true):xB x 1=true:=by
 unfold xB;rw [ju (by decide),ziv h];rfl
theorem zaf {x:ByteArray} (h:zG x):xB x 2=true:=by
 obtain ⟨l,h1,h2⟩:=zcp h;unfold xB;rw [ju (by decide),h1];simp only [jl];omega
theorem uM:xB empty 0=true:=rfl
theorem yR {kinds:List Int} {k m:Int} {x:ByteArray} {ks:List Tree} (hk:kinds.contains k=true) (h1:(qT k).2.1<=m) (h2:m<=(qT k).2.2.1) (h3:(qT k).2.2.2.1<=ks.length) (h4:(ks.length:Int)<=(qT k).2.2.2.2) (h5:xB x (qT k).1=true) : kI kinds (.node k x m ks)=true:=by
 unfold kI;dsimp only;rw [hk,decide_eq_true h1,decide_eq_true h2,decide_eq_true h3,decide_eq_true h4,h5];rfl
theorem zew {g:Tree->Option (List ByteArray)}:∀ (ks:List Tree) (i:Nat),(∀ t∈ks,∃ w,g t=some w)->∃ w,kU g i ks=some w
 | [],i,_=>⟨_,rfl⟩
 | t :: r,i,h=>by
  obtain ⟨a,ha⟩:=h t (jJ);obtain ⟨b,hb⟩:=zew r (i+1) (fun u hu=>h u (jF _ hu));unfold kU;rw [ha,jf,hb];exact ⟨_,rfl⟩
theorem zdl {g:Tree->Option (List ByteArray)}:∀ (ks:List Tree),(∀ t∈ks,∃ w,g t=some w)->∃ w,kP g ks=some w
 | [],_=>⟨_,rfl⟩
 | t :: r,h=>by
  obtain ⟨a,ha⟩:=h t (jJ);obtain ⟨b,hb⟩:=zdl r (fun u hu=>h u (jF _ hu));unfold kP;rw [ha,jf,hb];exact ⟨_,rfl⟩
theorem zcz {g:Tree->Option (List ByteArray)} {ks:List Tree} (h:∀ t∈ks,∃ w,g t=some w):∃ w,kW g ks=some w:=by
 obtain ⟨w,hw⟩:=zew ks 0 h;unfold kW;rw [hw];exact ⟨_,rfl⟩
theorem bA {f:Nat} {l k m:Int} {x:ByteArray} {ks:List Tree} (hl:kI yT (.node k x m ks)=true) (h:∃ w,yV (kD f) (.node k x m ks)=some w):∃ w,kD (f+1) l (.node k x m ks)=some w:=by
 obtain ⟨w,hw⟩:=h;unfold kD;rw [jv hl,hw];split;·exact ⟨_,rfl⟩
 ·exact ⟨_,rfl⟩
theorem zvz {t:Tree} (he:ExT t) {f:Nat} (hs:Sz f t):kI yT t=true:=by
 cases he with
 | num n=>exact yR (by decide) (hs.ok.1 rfl).1 (hs.ok.1 rfl).2 (by decide) (by decide) uM
 | nam hx=>exact yR (by decide) (by decide) (by decide) (by decide) (by decide) (zaf hx)
 | item hx h1=>exact yR (by decide) (by decide) (by decide) (show (1:Int)<=1 by omega) (show (1:Int)<=1 by omega) (zaf hx)
 | call hx h1=>exact yR (by decide) (by decide) (by decide) (Int.natCast_nonneg _) hs.len (zaf hx)
 | op h1 h2=>exact yR (by decide) (hs.ok.2 rfl).1 (hs.ok.2 rfl).2 (show (2:Int)<=2 by omega) (show (2:Int)<=2 by omega) uM
 | neg h1=>exact yR (by decide) (by decide) (by decide) (show (1:Int)<=1 by omega) (show (1:Int)<=1 by omega) uM
 | nott h1=>exact yR (by decide) (by decide) (by decide) (show (1:Int)<=1 by omega) (show (1:Int)<=1 by omega) uM
theorem uC:∀ (f:Nat) (t:Tree),ExT t->Sz f t->∀ l,∃ w,kD f l t=some w
 | 0,t,_,hs,_=>hs.pos.elim
 | f+1,t,he,hs,l=>by
  have hl:=zvz he hs
  cases he with
  | num n=>exact bA hl ⟨_,rfl⟩
  | nam hx =>
   obtain ⟨w,hw,_⟩:=zcp hx
   exact bA hl ⟨w,hw⟩
  | item hx h1 =>
   rename_i x e;obtain ⟨w,hw,_⟩:=zcp hx;obtain ⟨a,ha⟩:=uC f e h1 (hs.kid (by simp)) 0;refine bA hl ⟨w++[⟨#[91]⟩]++a++[⟨#[93]⟩],?_⟩;show (kV x).bind (fun nm=>(kD f 0 e).bind fun e=>some (nm++[⟨#[91]⟩]++e++[⟨#[93]⟩]))=_;rw [hw,jf,ha]
   rfl
  | call hx h1 =>
   rename_i x ks;obtain ⟨w,hw,_⟩:=zcp hx;obtain ⟨a,ha⟩:=zew (g:=kD f 0) ks 0 (fun t ht=>uC f t (h1 t ht) (hs.kid ht) 0);refine bA hl ⟨w++[⟨#[40]⟩]++a++[⟨#[41]⟩],?_⟩;show (kV x).bind (fun nm=>(kU (kD f 0) 0 ks).bind fun e=>some (nm++[⟨#[40]⟩]++e++[⟨#[41]⟩]))=_;rw [hw,jf,ha]
   rfl
  | op h1 h2 =>
   rename_i m a b;obtain ⟨w1,hw1⟩:=uC f a h1 (hs.kid (by simp)) (max (kZ m.toNat) 1);obtain ⟨w2,hw2⟩:=uC f b h2 (hs.kid (by simp)) (kZ m.toNat+1);refine bA hl ⟨w1++[opAt m.toNat]++w2,?_⟩;show (kD f (max (kZ m.toNat) 1) a).bind (fun a=>(kD f (kZ m.toNat+1) b).bind fun b=>some (a++[opAt m.toNat]++b))=_;rw [hw1,jf,hw2]
   rfl
  | neg h1 =>
   rename_i a;obtain ⟨w,hw⟩:=uC f a h1 (hs.kid (by simp)) 3;refine bA hl ⟨[⟨#[45]⟩]++w,?_⟩;show (kD f 3 a).bind (fun e=>some ([⟨#[45]⟩]++e))=_;rw [hw]
   rfl
  | nott h1 =>
   rename_i a;obtain ⟨w,hw⟩:=uC f a h1 (hs.kid (by simp)) 3;refine bA hl ⟨[⟨#[33]⟩]++w,?_⟩;show (kD f 3 a).bind (fun e=>some ([⟨#[33]⟩]++e))=_;rw [hw];rfl
theorem zj7 {f:Nat} {t:Tree} (h:PlT t) (hs:Sz f t):∃ w,yI f t=some w:=by
 have hl:kI [16,17] t=true:=by
  cases h with
  | nam hx=>exact yR (by decide) (by decide) (by decide) (by decide) (by decide) (zaf hx)
  | item hx h1=>exact yR (by decide) (by decide) (by decide) (show (1:Int)<=1 by omega) (show (1:Int)<=1 by omega) (zaf hx)
 unfold yI;rw [jv hl];exact uC f t h.ex hs 0
theorem zzx {f:Nat} {t:Tree} (h:CaT t) (hs:Sz f t):∃ w,doW f t=some w:=by
 have hl:kI [18] t=true:=by
  cases h with
  | mk hx h1=>exact yR (by decide) (by decide) (by decide) (Int.natCast_nonneg _) hs.len (zaf hx)
 unfold doW;rw [jv hl];exact uC f t h.ex hs 0
theorem gK (b:Bool):0<=bI b/\bI b<=1:=by cases b<;>decide
structure SHas (f:Nat):Prop where
 bl:∀ t,BlT t->Sz f t->∃ w,kS f t=some w
 st:∀ t,StT t->Sz f t->∃ w,kL f t=some w
theorem zg3 {P:Tree->Prop} {t:Tree} (h:P t):∀ u∈[t],P u:=fun u hu=>by
 rw [jy] at hu;rw [hu];exact h
theorem zn3:∀ f,SHas f
 | 0=>⟨fun t _ hs=>hs.pos.elim,fun t _ hs=>hs.pos.elim⟩
 | f+1=>by
  have ih:=zn3 f;constructor
  ·intro t h hs
   cases h with
   | mk h1 =>
    rename_i ks;obtain ⟨w,hw⟩:=zdl (g:=kL f) ks (fun t ht=>ih.st t (h1 t ht) (hs.kid ht));have hl:kI [6] (.node 6 empty 0 ks)=true:=yR (by decide) (by decide) (by decide) (Int.natCast_nonneg _) hs.len uM;unfold kS;rw [jv hl,hw];exact ⟨_,rfl⟩
  ·intro t h hs
   cases h with
   | loc l hx h1 =>
    rename_i x e;obtain ⟨w,hw⟩:=uC f e h1 (hs.kid (by simp)) 0;have hl:kI kQ (.node 7 x (bI l) [e])=true:=yR (by decide) (gK l).1 (gK l).2 (show (1:Int)<=1 by omega) (show (1:Int)<=1 by omega) (cV hx);unfold kL;rw [jv hl];show ∃ w,(kD f 0 e).bind (fun e=>some ([kO (bI l)]++[x,⟨#[61]⟩]++e++[⟨#[59]⟩]))=some w;rw [hw]
    exact ⟨_,rfl⟩
   | set h1 h2 =>
    rename_i p e;obtain ⟨a,ha⟩:=zj7 (f:=f) h1 (hs.kid (by simp));obtain ⟨w,hw⟩:=uC f e h2 (hs.kid (by simp)) 0;have hl:kI kQ (.node 8 empty 0 [p,e])=true:=yR (by decide) (by decide) (by decide) (show (2:Int)<=2 by omega) (show (2:Int)<=2 by omega) uM;unfold kL;rw [jv hl];show ∃ w,(yI f p).bind (fun p=>(kD f 0 e).bind fun e=>some (p++[⟨#[61]⟩]++e++[⟨#[59]⟩]))=some w;rw [ha,jf,hw]
    exact ⟨_,rfl⟩
   | dd h1 =>
    rename_i c;obtain ⟨w,hw⟩:=zzx (f:=f) h1 (hs.kid (by simp));have hl:kI kQ (.node 9 empty 0 [c])=true:=yR (by decide) (by decide) (by decide) (show (1:Int)<=1 by omega) (show (1:Int)<=1 by omega) uM;unfold kL;rw [jv hl];show ∃ w,(doW f c).bind (fun e=>some ([⟨#[100,111]⟩]++e++[⟨#[59]⟩]))=some w;rw [hw]
    exact ⟨_,rfl⟩
   | ift h1 h2 =>
    rename_i e b;obtain ⟨c,hc⟩:=zcz (g:=kD f 0) (ks:=[e]) (zg3 (uC f e h1 (hs.kid (by simp)) 0));obtain ⟨w,hw⟩:=ih.bl b h2 (hs.kid (by simp));have hl:kI kQ (.node 10 empty 0 [e,b])=true:=yR (by decide) (by decide) (by decide) (show (2:Int)<=2 by omega) (show (2:Int)<=3 by omega) uM;unfold kL;rw [jv hl];show ∃ w,(kW (kD f 0) [e]).bind (fun c=>(kS f b).bind fun b=>some ([⟨#[105,102]⟩]++c++b))=some w;rw [hc,jf,hw]
    exact ⟨_,rfl⟩
   | ife h1 h2 h3 =>
    rename_i e b d;obtain ⟨c,hc⟩:=zcz (g:=kD f 0) (ks:=[e]) (zg3 (uC f e h1 (hs.kid (by simp)) 0));obtain ⟨w,hw⟩:=ih.bl b h2 (hs.kid (by simp));obtain ⟨v,hv⟩:=ih.bl d h3 (hs.kid (by simp));have hl:kI kQ (.node 10 empty 0 [e,b,d])=true:=yR (by decide) (by decide) (by decide) (show (2:Int)<=3 by omega) (show (3:Int)<=3 by omega) uM;unfold kL;rw [jv hl];show ∃ w,(kW (kD f 0) [e]).bind (fun c=>(kS f b).bind fun b=>(kS f d).bind fun d=>some ([⟨#[105,102]⟩]++c++b++[⟨#[101,108,115,101]⟩]++d))=some w;rw [hc,jf,hw,jf,hv]
    exact ⟨_,rfl⟩
   | whi h1 h2 =>
    rename_i e b;obtain ⟨c,hc⟩:=zcz (g:=kD f 0) (ks:=[e]) (zg3 (uC f e h1 (hs.kid (by simp)) 0));obtain ⟨w,hw⟩:=ih.bl b h2 (hs.kid (by simp));have hl:kI kQ (.node 11 empty 0 [e,b])=true:=yR (by decide) (by decide) (by decide) (show (2:Int)<=2 by omega) (show (2:Int)<=2 by omega) uM;unfold kL;rw [jv hl];show ∃ w,(kW (kD f 0) [e]).bind (fun c=>(kS f b).bind fun b=>some ([⟨#[119,104,105,108,101]⟩]++c++b))=some w;rw [hc,jf,hw]
    exact ⟨_,rfl⟩
   | out l h1 =>
    rename_i e;obtain ⟨w,hw⟩:=uC f e h1 (hs.kid (by simp)) 0;have hl:kI kQ (.node 12 empty (bI l) [e])=true:=yR (by decide) (gK l).1 (gK l).2 (show (1:Int)<=1 by omega) (show (1:Int)<=1 by omega) uM;unfold kL;rw [jv hl];show ∃ w,(kD f 0 e).bind (fun e=>some ([⟨#[111,117,116]⟩]++[kO (bI l)]++e++[⟨#[59]⟩]))=some w;rw [hw]
    exact ⟨_,rfl⟩
   | inn l h1 =>
    rename_i e;obtain ⟨w,hw⟩:=zj7 (f:=f) h1 (hs.kid (by simp));have hl:kI kQ (.node 13 empty (bI l) [e])=true:=yR (by decide) (gK l).1 (gK l).2 (show (1:Int)<=1 by omega) (show (1:Int)<=1 by omega) uM;unfold kL;rw [jv hl];show ∃ w,(yI f e).bind (fun e=>some ([⟨#[105,110]⟩]++[kO (bI l)]++e++[⟨#[59]⟩]))=some w;rw [hw]
    exact ⟨_,rfl⟩
   | ret h1 =>
    rename_i e;obtain ⟨w,hw⟩:=uC f e h1 (hs.kid (by simp)) 0;have hl:kI kQ (.node 14 empty 0 [e])=true:=yR (by decide) (by decide) (by decide) (show (1:Int)<=1 by omega) (show (1:Int)<=1 by omega) uM;unfold kL;rw [jv hl];show ∃ w,(kD f 0 e).bind (fun e=>some ([⟨#[114,101,116,117,114,110]⟩]++e++[⟨#[59]⟩]))=some w;rw [hw];exact ⟨_,rfl⟩
end pr
namespace pr
open syn face chk
mutual
def qO:Tree->Int->Tree × Int
 | .node k x m ks,n=>(.node k x (if k=12/\m=0/\n=0 then 1 else m) (yH ks (if k=12/\m=0 then n - 1 else n)).1,(yH ks (if k=12/\m=0 then n - 1 else n)).2)
def yH:List Tree->Int->List Tree × Int
 | [],n=>([],n)
 | t :: r,n=>((qO t n).1 :: (yH r (qO t n).2).1,(yH r (qO t n).2).2)
end
mutual
def UpT:Tree->Tree->Prop
 | .node k x m ks,t'=>∃ m' ks',t'=.node k x m' ks'/\(m'=m\/(k=12/\m'=1))/\UpL ks ks'
def UpL:List Tree->List Tree->Prop
 | [],l=>l=[]
 | t :: r,l=>∃ t' r',l=t' :: r'/\UpT t t'/\UpL r r'
end
mutual
theorem zkq:∀ (t:Tree) (n:Int),UpT t (qO t n).1
 | .node k x m ks,n=>by
  unfold qO UpT;refine ⟨_,_,rfl,?_,zj1 ks _⟩;split;·rename_i h;exact .inr ⟨h.1,rfl⟩
  ·exact .inl rfl
theorem zj1:∀ (ks:List Tree) (n:Int),UpL ks (yH ks n).1
 | [],n=>by unfold yH UpL;rfl
 | t :: r,n=>by
  unfold yH UpL;exact ⟨_,_,rfl,zkq t n,zj1 r _⟩
end
mutual
theorem zdw:∀ (t t':Tree),UpT t t'->kB t'=kB t
 | .node k x m ks,t',h=>by
  unfold UpT at h;obtain ⟨m',ks',rfl,_,h⟩:=h;unfold kB;rw [zl8 ks ks' h]
theorem zl8:∀ (ks ks':List Tree),UpL ks ks'->kA ks'=kA ks
 | [],l,h=>by unfold UpL at h;rw [h]
 | t :: r,l,h=>by
  unfold UpL at h;obtain ⟨t',r',rfl,h1,h2⟩:=h;unfold kA;rw [zdw t t' h1,zl8 r r' h2]
end
mutual
theorem zgu:∀ (t t':Tree),UpT t t'->zV t'=zV t
 | .node k x m ks,t',h=>by
  unfold UpT at h;obtain ⟨m',ks',rfl,_,h⟩:=h;unfold zV;rw [zmf ks ks' h]
theorem zmf:∀ (ks ks':List Tree),UpL ks ks'->zM ks'=zM ks
 | [],l,h=>by unfold UpL at h;rw [h]
 | t :: r,l,h=>by
  unfold UpL at h;obtain ⟨t',r',rfl,h1,h2⟩:=h;unfold zM;rw [zgu t t' h1,zmf r r' h2]
end
mutual
theorem znz:∀ (t t':Tree),UpT t t'->NuT t->NuT t'
 | .node k x m ks,t',h,hn=>by
  unfold UpT at h;obtain ⟨m',ks',rfl,hm,h⟩:=h;unfold NuT at hn |-;refine ⟨?_,zm5 ks ks' h hn.2⟩;rcases hm with rfl|⟨rfl,rfl⟩
  ·exact hn.1
  ·exact ⟨by omega,by omega⟩
theorem zm5:∀ (ks ks':List Tree),UpL ks ks'->NuL ks->NuL ks'
 | [],l,h,hn=>by unfold UpL at h;rw [h];unfold NuL;trivial
 | t :: r,l,h,hn=>by
  unfold UpL at h;obtain ⟨t',r',rfl,h1,h2⟩:=h;unfold NuL at hn |-;exact ⟨znz t t' h1 hn.1,zm5 r r' h2 hn.2⟩
end
theorem zdg:∀ {ks ks':List Tree},UpL ks ks'->(∀ t∈ks,∀ t',UpT t t'->t'=t)->ks'=ks
 | [],l,h,_=>by unfold UpL at h;exact h
 | t :: r,l,h,hs=>by
  unfold UpL at h;obtain ⟨t',r',rfl,h1,h2⟩:=h;rw [hs t (jJ) t' h1,zdg h2 (fun u hu=>hs u (jF _ hu))]
theorem uN {k m:Int} {x:ByteArray} {ks:List Tree} (hk:k≠12) (hs:∀ t∈ks,∀ t',UpT t t'->t'=t) (t':Tree) (h:UpT (.node k x m ks) t'):t'=.node k x m ks:=by
 unfold UpT at h;obtain ⟨m',ks',rfl,hm,h⟩:=h;rw [zdg h hs];rcases hm with rfl|⟨h1,_⟩
 ·rfl
 ·exact absurd h1 hk
theorem fN {t:Tree} (h:ExT t):∀ t',UpT t t'->t'=t:=by
 induction h with
 | num n=>exact uN (by decide) (fun t ht=>by cases ht)
 | nam hx=>exact uN (by decide) (fun t ht=>by cases ht)
 | item hx h1 ih=>exact uN (by decide) (fun t ht=>by rw [jy] at ht;rw [ht];exact ih)
 | call hx h1 ih=>exact uN (by decide) ih
 | op h1 h2 ih1 ih2=>exact uN (by decide) (fun t ht=>by
   rcases List.mem_cons.1 ht with rfl | ht
   ·exact ih1
   ·rw [jy] at ht;rw [ht];exact ih2)
 | neg h1 ih=>exact uN (by decide) (fun t ht=>by rw [jy] at ht;rw [ht];exact ih)
 | nott h1 ih=>exact uN (by decide) (fun t ht=>by rw [jy] at ht;rw [ht];exact ih)
structure UpS (f:Nat):Prop where
 st:∀ t t',zV t<=f->StT t->UpT t t'->StT t'/\∀ E p ctx deep last L a q,stF E p ctx deep last t L a=.ok q->stF E p ctx deep last t' L a=.ok q
 bl:∀ t t',zV t<=f->BlT t->UpT t t'->BlT t'/\∀ E p ctx deep L a q,blF E p ctx deep t L a=.ok q->blF E p ctx deep t' L a=.ok q
theorem zni {f:Nat} (ih:UpS f):∀ (ks ks':List Tree),zM ks<=f->(∀ t∈ks,StT t)->UpL ks ks'->(∀ t∈ks',StT t)/\∀ E p ctx deep L a q,yG E p ctx deep ks L a=.ok q->yG E p ctx deep ks' L a=.ok q
 | [],l,hd,hs,h=>by
  unfold UpL at h;rw [h]
  exact ⟨fun t ht=>(by cases ht),fun E p ctx deep L a q hq=>hq⟩
 | t :: r,l,hd,hs,h=>by
  unfold UpL at h;obtain ⟨t',r',rfl,h1,h2⟩:=h;unfold zM at hd;obtain ⟨g1,g2⟩:=ih.st t t' (by omega) (hs t (jJ)) h1;obtain ⟨g3,g4⟩:=zni ih r r' (by omega) (fun u hu=>hs u (jF _ hu)) h2
  have he:r'.isEmpty=r.isEmpty:=by
   cases r with
   | nil=>unfold UpL at h2;rw [h2]
   | cons a b=>unfold UpL at h2;obtain ⟨a',b',rfl,_,_⟩:=h2;rfl
  refine ⟨fun u hu=>?_,fun E p ctx deep L a q hq=>?_⟩
  ·rcases List.mem_cons.1 hu with rfl | hu
   ·exact g1
   ·exact g3 u hu
  ·unfold yG at hq |-;rw [he]
   cases hr:stF E p ctx deep (decide (deep=1)&&r.isEmpty) t L a with
   | bad c b=>rw [hr] at hq;cases hq
   | ok z =>
    rw [hr] at hq;rw [g2 _ _ _ _ _ _ _ _ hr];exact g4 _ _ _ _ _ _ _ hq
theorem znt {f:Nat} (ih:UpS f):∀ (ks ks':List Tree),zM ks<=f->(∀ t∈ks,BlT t)->UpL ks ks'->∀ E p ctx deep L a q,vE E p ctx deep ks L a=.ok q->vE E p ctx deep ks' L a=.ok q
 | [],l,hd,hs,h=>by
  unfold UpL at h;rw [h]
  exact fun E p ctx deep L a q hq=>hq
 | t :: r,l,hd,hs,h=>by
  unfold UpL at h;obtain ⟨t',r',rfl,h1,h2⟩:=h;unfold zM at hd;intro E p ctx deep L a q hq;unfold vE at hq |-
  cases hr:blF E p ctx deep t L a with
  | bad c b=>rw [hr] at hq;cases hq
  | ok z =>
   rw [hr] at hq;rw [(ih.bl t t' (by omega) (hs t (jJ)) h1).2 _ _ _ _ _ _ _ hr];exact znt ih r r' (by omega) (fun u hu=>hs u (jF _ hu)) h2 _ _ _ _ _ _ _ hq
theorem zet {f:Nat} (ih:UpS f) {k:Int} (hk:k=10\/k=11) {x:ByteArray} {m:Int} {e:Tree} {r r':List Tree} (hd:zM r<=f) (hs:∀ t∈r,BlT t) (h:UpL r r') : ∀ E p ctx deep last L a q,stF E p ctx deep last (.node k x m (e :: r)) L a=.ok q->stF E p ctx deep last (.node k x m (e :: r')) L a=.ok q:=by
 intro E p ctx deep last L a q hq;unfold stF at hq |-;rw [jv hk] at hq |-;dsimp only at hq |-
 cases hr:exF E L ctx false e (a+1) with
 | bad c b=>rw [hr] at hq;cases hq
 | ok z =>
  rw [hr] at hq;dsimp only at hq |-;exact znt ih r r' hd hs h _ _ _ _ _ _ _ hq
theorem zbe {t t':Tree} (e:t'=t) (h:StT t):StT t'/\∀ E p ctx deep last L a q,stF E p ctx deep last t L a=.ok q->stF E p ctx deep last t' L a=.ok q:=by
 rw [e];exact ⟨h,fun E p ctx deep last L a q hq=>hq⟩
theorem zg8:∀ f,UpS f
 | 0=>⟨fun t _ hd=>by have:=cT t;omega,fun t _ hd=>by have:=cT t;omega⟩
 | f+1=>by
  have ih:=zg8 f;constructor
  ·intro t t' hd hs h;have hs0:=hs
   cases hs with
   | loc l hx h1=>exact zbe (uN (by decide) (fun t ht=>by rw [jy] at ht;rw [ht];exact fN h1) t' h) hs0
   | set h1 h2=>exact zbe (uN (by decide) (fun t ht=>by
     rcases List.mem_cons.1 ht with rfl | ht
     ·exact fN h1.ex
     ·rw [jy] at ht;rw [ht];exact fN h2) t' h) hs0
   | dd h1=>exact zbe (uN (by decide) (fun t ht=>by rw [jy] at ht;rw [ht];exact fN h1.ex) t' h) hs0
   | inn l h1=>exact zbe (uN (by decide) (fun t ht=>by rw [jy] at ht;rw [ht];exact fN h1.ex) t' h) hs0
   | ret h1=>exact zbe (uN (by decide) (fun t ht=>by rw [jy] at ht;rw [ht];exact fN h1) t' h) hs0
   | out l h1 =>
    rename_i e;unfold UpT at h;obtain ⟨m',ks',rfl,hm,h⟩:=h;rw [zdg h (fun t ht=>by rw [jy] at ht;rw [ht];exact fN h1)];rcases hm with rfl|⟨_,rfl⟩
    ·exact ⟨hs0,fun E p ctx deep last L a q hq=>hq⟩
    ·refine ⟨.out true h1,fun E p ctx deep last L a q hq=>?_⟩;unfold stF at hq |-;rw [ju (by decide)] at hq |-;unfold uS at hq |-;rw [ju (by decide),ju (by decide),ju (by decide),jv rfl] at hq |-
     cases hr:exL E L ctx [e] (a+1) with
     | bad c b=>rw [hr] at hq;cases hq
     | ok z =>
      rw [hr] at hq;dsimp only at hq |-;rw [ju (fun hh=>hh.1 rfl)];split at hq;·cases hq
      ·exact hq
   | ift h1 h2 =>
    rename_i e b;unfold UpT at h;obtain ⟨m',ks',rfl,hm,h⟩:=h;unfold UpL at h;obtain ⟨e',r',rfl,g1,g2⟩:=h;obtain rfl:=fN h1 _ g1;obtain rfl:m'=0:=by rcases hm with h | ⟨h,_⟩<;>omega
    unfold zV zM at hd;have g3:=zet ih (k:=10) (.inl rfl) (x:=empty) (m:=0) (e:=e') (by omega) (fun t ht=>by rw [jy] at ht;rw [ht];exact h2) g2;refine ⟨?_,g3⟩;unfold UpL UpL at g2;obtain ⟨b',r2,rfl,g4,rfl⟩:=g2;unfold zM at hd
    exact .ift h1 (ih.bl b b' (by omega) h2 g4).1
   | ife h1 h2 h3 =>
    rename_i e b c;unfold UpT at h;obtain ⟨m',ks',rfl,hm,h⟩:=h;unfold UpL at h;obtain ⟨e',r',rfl,g1,g2⟩:=h;obtain rfl:=fN h1 _ g1;obtain rfl:m'=0:=by rcases hm with h | ⟨h,_⟩<;>omega
    unfold zV zM at hd
    have g3:=zet ih (k:=10) (.inl rfl) (x:=empty) (m:=0) (e:=e') (by omega) (fun t ht=>by
     rcases List.mem_cons.1 ht with rfl | ht
     ·exact h2
     ·rw [jy] at ht;rw [ht];exact h3) g2
    refine ⟨?_,g3⟩;unfold UpL UpL UpL at g2;obtain ⟨b',r2,rfl,g4,c',r3,rfl,g5,rfl⟩:=g2;unfold zM zM at hd
    exact .ife h1 (ih.bl b b' (by omega) h2 g4).1 (ih.bl c c' (by omega) h3 g5).1
   | whi h1 h2 =>
    rename_i e b;unfold UpT at h;obtain ⟨m',ks',rfl,hm,h⟩:=h;unfold UpL at h;obtain ⟨e',r',rfl,g1,g2⟩:=h;obtain rfl:=fN h1 _ g1;obtain rfl:m'=0:=by rcases hm with h | ⟨h,_⟩<;>omega
    unfold zV zM at hd;have g3:=zet ih (k:=11) (.inr rfl) (x:=empty) (m:=0) (e:=e') (by omega) (fun t ht=>by rw [jy] at ht;rw [ht];exact h2) g2;refine ⟨?_,g3⟩;unfold UpL UpL at g2;obtain ⟨b',r2,rfl,g4,rfl⟩:=g2;unfold zM at hd;exact .whi h1 (ih.bl b b' (by omega) h2 g4).1
  ·intro t t' hd hs h
   cases hs with
   | mk h1 =>
    rename_i ks;unfold UpT at h;obtain ⟨m',ks',rfl,hm,h⟩:=h;obtain rfl:m'=0:=by rcases hm with h | ⟨h,_⟩<;>omega
    unfold zV at hd;obtain ⟨g1,g2⟩:=zni ih ks ks' (by omega) h1 h;refine ⟨.mk g1,fun E p ctx deep L a q hq=>?_⟩;unfold blF at hq |-
    cases hr:yG E p ctx deep ks L (a+1) with
    | bad c b=>rw [hr] at hq;cases hq
    | ok z =>
     rw [hr] at hq;rw [g2 _ _ _ _ _ _ _ hr];exact hq
theorem vA (k:Int) (x:ByteArray) (m:Int) (ks:List Tree):kB (.node k x m ks)=kA ks+1:=by
 unfold kB;rfl
theorem za6:∀ {ks:List Tree},0<ks.length->kB (ks.getD 0 noT)<=kA ks
 | [],h=>by simp at h
 | a :: r,h=>by have:=kX r;show kB a<=kA (a :: r);unfold kA;omega
theorem zd0:∀ {ks:List Tree},1<ks.length->kB (ks.getD 0 noT)+kB (ks.getD 1 noT)<=kA ks
 | [],h=>by simp at h
 | a :: r,h=>by
  have:=za6 (ks:=r) (by simpa using h);show kB a+kB (r.getD 0 noT)<=kA (a :: r);unfold kA;omega
theorem zyb:∀ {ks:List Tree},2<ks.length->kB (ks.getD 0 noT)+kB (ks.getD 1 noT)+kB (ks.getD 2 noT)<=kA ks
 | [],h=>by simp at h
 | a :: r,h=>by
  have:=zd0 (ks:=r) (by simp only [jd] at h;omega);show kB a+kB (r.getD 0 noT)+kB (r.getD 1 noT)<=kA (a :: r);unfold kA;omega
theorem dC {g:Tree->Option (List ByteArray)} (hg:g noT=none) {ks:List Tree} {i:Nat} {w:List ByteArray} (h:g (ks.getD i noT)=some w):i<ks.length:=by
 rcases jL i ks.length with h1 | h1
 ·exact h1
 ·rw [List.getD_eq_getElem?_getD,List.getElem?_eq_none h1,Option.getD_none,hg] at h;cases h
theorem zgw {f:Nat}:kS f noT=none:=by cases f<;>rfl
theorem zuw (f:Nat):yI f noT=none:=rfl
theorem yam (f:Nat):doW f noT=none:=rfl
theorem zcx {f:Nat} {t:Tree} {w:List ByteArray} (h:yI f t=some w):(w.length:Int)<=8*kB t - 1:=by
 unfold yI at h;by_cases hl:kI [16,17] t=true;·rw [jv hl] at h;exact vM _ _ _ _ h
 ·rw [ju hl] at h;cases h
theorem zy4 {f:Nat} {t:Tree} {w:List ByteArray} (h:doW f t=some w):(w.length:Int)<=8*kB t - 1:=by
 unfold doW at h;by_cases hl:kI [18] t=true;·rw [jv hl] at h;exact vM _ _ _ _ h
 ·rw [ju hl] at h;cases h
theorem bU {g:Tree->Option (List ByteArray)} (hg:∀ t o,g t=some o->(o.length:Int)<=8*kB t - 1) {ks:List Tree} {w:List ByteArray} (h:kW g ks=some w):(w.length:Int)<=8*kA ks+2:=by
 unfold kW at h
 cases hw:kU g 0 ks with
 | none=>rw [hw] at h;cases h
 | some e =>
  rw [hw] at h;obtain rfl:=jw h;have:=zen hg ks 0 e hw;simp only [jb,jd,je];push_cast;omega
theorem ziu {g:Tree->Option (List ByteArray)} (hg:∀ t o,g t=some o->(o.length:Int)<=8*kB t - 1) {ks:List Tree} {w:List ByteArray} (h:kW g (ks.take 1)=some w):(w.length:Int)<=8*kB (ks.getD 0 noT)+2:=by
 have h1:=bU hg h
 cases ks with
 | nil=>have:=kR noT;rw [show kA (([]:List Tree).take 1)=0 from rfl] at h1;show (w.length:Int)<=8*kB noT+2;omega
 | cons a r =>
  rw [show kA ((a :: r).take 1)=kB a+0 from rfl] at h1;show (w.length:Int)<=8*kB a+2;omega
theorem zdi {g:Tree->Option (List ByteArray)} (hg:∀ t o,g t=some o->(o.length:Int)<=8*kB t):∀ (ks:List Tree) (w:List ByteArray),kP g ks=some w->(w.length:Int)<=8*kA ks
 | [],w,h=>by obtain rfl:=jw h;simp [kA]
 | t :: r,w,h=>by
  unfold kP at h
  cases h1:g t with
  | none=>rw [h1] at h;cases h
  | some a =>
   rw [h1] at h
   cases h2:kP g r with
   | none=>simp only [jf,h2] at h;cases h
   | some b =>
    simp only [jf,h2,jh] at h;subst h;have e1:=hg t a h1;have e2:=zdi hg r b h2;simp only [kA,jb];push_cast;omega
structure SLen (f:Nat):Prop where
 bk:∀ t w,kS f t=some w->(w.length:Int)<=8*kB t
 st:∀ t w,kL f t=some w->(w.length:Int)<=8*kB t
theorem fQ:∀ f,SLen f
 | 0=>⟨fun _ _ h=>by simp [kS] at h,fun _ _ h=>by simp [kL] at h⟩
 | f+1=>by
  have ih:=fQ f;have io:∀ t a,kD f 0 t=some a->(a.length:Int)<=8*kB t - 1:=fun t a h=>vM f 0 t a h
  refine ⟨fun t w h=>?_,fun t w h=>?_⟩
  ·obtain ⟨k,x,m,ks⟩:=t;unfold kS at h;by_cases hl:kI [6] (.node k x m ks)=true
   ·rw [jv hl] at h
    cases hb:kP (kL f) ks with
    | none=>rw [hb] at h;cases h
    | some b =>
     rw [hb] at h;obtain rfl:=jw h;have e1:=zdi ih.st ks b hb;rw [vA];simp only [jb,jd,je];push_cast;omega
   ·rw [ju hl] at h;cases h
  ·obtain ⟨k,x,m,ks⟩:=t;unfold kL at h;by_cases hl:kI kQ (.node k x m ks)=true
   ·rw [jv hl] at h;by_cases h10:k=10
    ·rw [jv h10] at h
     cases hc:kW (kD f 0) (ks.take 1) with
     | none=>rw [hc] at h;cases h
     | some c =>
      rw [hc] at h
      cases hb:kS f (ks.getD 1 noT) with
      | none=>simp only [jf,hb] at h;cases h
      | some b =>
       simp only [jf,hb] at h;have e1:=ziu io hc;have e2:=ih.bk _ _ hb;have e3:=dC zgw hb;have e4:=zd0 e3;by_cases h2:2<ks.length
       ·rw [jv h2] at h
        cases hd:kS f (ks.getD 2 noT) with
        | none=>rw [hd] at h;cases h
        | some d =>
         rw [hd] at h;obtain rfl:=jw h;have e5:=ih.bk _ _ hd;have e6:=zyb h2;rw [vA];simp only [jb,jd,je];push_cast;omega
       ·rw [ju h2] at h;obtain rfl:=jw h;rw [vA];simp only [jb,jd,je];push_cast;omega
    rw [ju h10] at h;by_cases h11:k=11
    ·rw [jv h11] at h
     cases hc:kW (kD f 0) (ks.take 1) with
     | none=>rw [hc] at h;cases h
     | some c =>
      rw [hc] at h
      cases hb:kS f (ks.getD 1 noT) with
      | none=>simp only [jf,hb] at h;cases h
      | some b =>
       simp only [jf,hb,jh] at h;subst h;have e1:=ziu io hc;have e2:=ih.bk _ _ hb;have e3:=dC zgw hb;have e4:=zd0 e3;rw [vA];simp only [jb,jd,je];push_cast;omega
    rw [ju h11] at h;by_cases h7:k=7
    ·rw [jv h7] at h;subst h7
     cases hc:kD f 0 (ks.getD 0 noT) with
     | none=>rw [hc] at h;cases h
     | some c =>
      rw [hc] at h;obtain rfl:=jw h;have e1:=io _ _ hc;have e3:=dC (bC f 0) hc;have e4:=za6 e3;rw [vA];simp only [jb,jd,je];push_cast;omega
    rw [ju h7] at h;by_cases h8:k=8
    ·rw [jv h8] at h
     cases hp:yI f (ks.getD 0 noT) with
     | none=>rw [hp] at h;cases h
     | some p =>
      rw [hp] at h
      cases hc:kD f 0 (ks.getD 1 noT) with
      | none=>simp only [jf,hc] at h;cases h
      | some c =>
       simp only [jf,hc,jh] at h;subst h;have e1:=zcx hp;have e2:=io _ _ hc;have e3:=dC (bC f 0) hc;have e4:=zd0 e3;rw [vA];simp only [jb,jd,je];push_cast;omega
    rw [ju h8] at h;by_cases h9:k=9
    ·rw [jv h9] at h
     cases hc:doW f (ks.getD 0 noT) with
     | none=>rw [hc] at h;cases h
     | some c =>
      rw [hc] at h;obtain rfl:=jw h;have e1:=zy4 hc;have e3:=dC (yam f) hc;have e4:=za6 e3;rw [vA];simp only [jb,jd,je];push_cast;omega
    rw [ju h9] at h;by_cases h12:k=12
    ·rw [jv h12] at h
     cases hc:kD f 0 (ks.getD 0 noT) with
     | none=>rw [hc] at h;cases h
     | some c =>
      rw [hc] at h;obtain rfl:=jw h;have e1:=io _ _ hc;have e3:=dC (bC f 0) hc;have e4:=za6 e3;rw [vA];simp only [jb,jd,je];push_cast;omega
    rw [ju h12] at h;by_cases h13:k=13
    ·rw [jv h13] at h
     cases hc:yI f (ks.getD 0 noT) with
     | none=>rw [hc] at h;cases h
     | some c =>
      rw [hc] at h;obtain rfl:=jw h;have e1:=zcx hc;have e3:=dC (zuw f) hc;have e4:=za6 e3;rw [vA];simp only [jb,jd,je];push_cast;omega
    rw [ju h13] at h
    cases hc:kD f 0 (ks.getD 0 noT) with
    | none=>rw [hc] at h;cases h
    | some c =>
     rw [hc] at h;obtain rfl:=jw h;have e1:=io _ _ hc;have e3:=dC (bC f 0) hc;have e4:=za6 e3;rw [vA];simp only [jb,jd,je];push_cast;omega
   ·rw [ju hl] at h;cases h
theorem zfy (t:Tree) (o:List ByteArray) (h:yK t=some o):(o.length:Int)<=8*kB t - 1:=by
 have:=kR t;obtain ⟨k,x,m,ks⟩:=t;unfold yK at h;dsimp only at h;split at h;·obtain rfl:=jw h;simp only [jb,jd,je];push_cast;omega
 ·cases h
theorem zlj:∀ {ks:List Tree},0<ks.length->kA (ks.take (ks.length - 1))+kB (ks.getD (ks.length - 1) noT)=kA ks
 | [],h=>by simp at h
 | [a],h=>by show kA []+kB a=kA [a];unfold kA;rw [show kA ([]:List Tree)=0 from rfl];omega
 | a :: b :: r,h=>by
  have ih:=zlj (ks:=b :: r) (by simp);have e:(a :: b :: r).length - 1=(b :: r).length - 1+1:=by simp
  rw [e,List.take_succ_cons,List.getD_cons_succ];show kA (a :: List.take ((b :: r).length - 1) (b :: r))+_=kA (a :: b :: r);rw [show kA (a :: List.take ((b :: r).length - 1) (b :: r))=kB a+kA (List.take ((b :: r).length - 1) (b :: r)) from rfl,show kA (a :: b :: r)=kB a+kA (b :: r) from rfl];omega
theorem zwc (m:Int):(if m.toNat / 2 % 2=1 then [⟨#[112,117,98]⟩] else []:List ByteArray).length<=1:=by
 split<;>simp
theorem zmo (m:Int):(xE m).length<=2:=by
 unfold xE;split;·simp
 ·split<;>simp
theorem zko {f:Nat} (t:Tree) (w:List ByteArray) (ho:qQ f t=some w):(w.length:Int)<=8*kB t:=by
 obtain ⟨k,x,m,ks⟩:=t;have hp0:=kX ks;have hpu:=zwc m;have hgi:=zmo m;unfold qQ at ho;dsimp only at ho;by_cases hl:kI [3,4] (.node k x m ks)=true
 ·rw [jv hl] at ho;by_cases hk4:k=4
  ·rw [jv hk4] at ho
   cases hp:kW yK (ks.take (ks.length - 1)) with
   | none=>rw [hp] at ho;cases ho
   | some p =>
    rw [hp] at ho
    cases hb:kS f (ks.getD (ks.length - 1) noT) with
    | none=>simp only [jf,hb] at ho;cases ho
    | some b =>
     simp only [jf,hb,jh] at ho;subst ho;have e1:=bU zfy hp;have e2:=(fQ f).bk _ _ hb;have e3:=dC zgw hb;have e4:=zlj (ks:=ks) (by omega);rw [vA];simp only [jb,jd,je];push_cast;omega
  ·rw [ju hk4] at ho
   cases ks with
   | nil =>
    dsimp only at ho;obtain rfl:=jw ho;rw [vA]
    simp only [jb,jd,je];push_cast;omega
   | cons t0 rr =>
    dsimp only at ho
    cases hw:xS t0 with
    | none=>rw [hw] at ho;cases ho
    | some n =>
     rw [hw] at ho;obtain rfl:=jw ho
     have e1:n.length=1:=by
      obtain ⟨k,x,m,ks⟩:=t0;unfold xS at hw;dsimp only at hw;split at hw;·obtain rfl:=jw hw;rfl
      ·cases hw
     rw [vA];simp only [jb,jd,je];push_cast;omega
 ·rw [ju hl] at ho;cases ho
theorem zwu (t:Tree) (w:List ByteArray) (h:yQ t=some w):(w.length:Int)<=8*kB t:=by
 have:=kR t;obtain ⟨k,x,m,ks⟩:=t;unfold yQ at h;dsimp only at h;split at h;·obtain rfl:=jw h;simp only [jb,jd,je];push_cast;omega
 ·cases h
theorem cntL_app:∀ (a b:List Tree),kA (a++b)=kA a+kA b
 | [],b=>by show kA b=kA []+kA b;rw [show kA ([]:List Tree)=0 from rfl];omega
 | t :: r,b=>by
  rw [jK,show kA (t :: (r++b))=kB t+kA (r++b) from rfl,show kA (t :: r)=kB t+kA r from rfl,cntL_app r b];omega
theorem zqj {f:Nat} {t:Tree} {w:List ByteArray} (ho:xG f t=some w):(w.length:Int)<=8*kB t:=by
 obtain ⟨k,x,m,ks⟩:=t;unfold xG at ho;dsimp only at ho;by_cases hl:kI [1] (.node k x m ks)=true
 ·rw [jv hl] at ho
  cases ha:kP yQ (ks.takeWhile kT) with
  | none=>rw [ha] at ho;cases ho
  | some a =>
   rw [ha] at ho
   cases hb:kP (qQ f) (ks.dropWhile kT) with
   | none=>simp only [jf,hb] at ho;cases ho
   | some b =>
    simp only [jf,hb,jh] at ho;subst ho;have e1:=zdi zwu _ _ ha;have e2:=zdi zko _ _ hb
    have e3:kA ks=kA (ks.takeWhile kT)+kA (ks.dropWhile kT):=by
     rw [<- cntL_app,List.takeWhile_append_dropWhile]
    rw [vA];simp only [jb,jd,je];push_cast;omega
 ·rw [ju hl] at ho;cases ho
end pr
namespace pr
open lexs (Tok scan)
open syn face chk
theorem zv0 (q:ByteArray × Bool) (h:kK q.1=true):∃ w,yK (zL q)=some w:=by
 have hl:kI [5] (.node 5 q.1 (bI q.2) [])=true:=yR (by decide) (gK q.2).1 (gK q.2).2 (by decide) (by decide) (cV h);unfold zL yK;dsimp only;rw [jv hl];exact ⟨_,rfl⟩
theorem zxp (g:Option Bool):0<=gI g/\gI g<=8:=by
 cases g with
 | none=>decide
 | some b=>cases b<;>decide
theorem ztw {f:Nat} (k:Kid) (hi:kT k.tree=false) (h:k.good/\k.named/\xI k) (hs:Sz (f+1) k.tree):∃ w,qQ f k.tree=some w:=by
 obtain ⟨h1,h2,h3⟩:=h
 cases k with
 | imp x=>exact absurd hi (by simp [kT,Kid.tree])
 | var x p l n =>
  have hp:=gK p;have hb:=gK l
  cases n with
  | none =>
   have hl:kI [3,4] (.node 3 x (2*bI p+bI l) [])=true:=yR (by decide) (show (0:Int)<=_ by omega) (show _<=(3:Int) by omega) (by decide) (by decide) (cV h2);show ∃ w,qQ f (.node 3 x (2*bI p+bI l) [])=some w;unfold qQ;dsimp only;rw [jv hl,ju (by decide)]
   exact ⟨_,rfl⟩
  | some n =>
   have hl:kI [3,4] (.node 3 x (2*bI p+bI l) [.node 15 empty n []])=true:=yR (by decide) (show (0:Int)<=_ by omega) (show _<=(3:Int) by omega) (show (0:Int)<=1 by omega) (show (1:Int)<=1 by omega) (cV h2);have hk:Sz f (.node 15 empty n []):=Sz.kid (k:=3) (x:=x) (m:=2*bI p+bI l) (ks:=[.node 15 empty n []]) hs (by simp);have hl2:kI [15] (.node 15 empty n [])=true:=yR (by decide) (hk.ok.1 rfl).1 (hk.ok.1 rfl).2 (by decide) (by decide) uM
   have hn:xS (.node 15 empty n [])=some [vW n]:=by
    unfold xS;dsimp only;rw [jv hl2]
   show ∃ w,qQ f (.node 3 x (2*bI p+bI l) [.node 15 empty n []])=some w;unfold qQ;dsimp only;rw [jv hl,ju (by decide),hn]
   exact ⟨_,rfl⟩
 | proc x p l g ps b =>
  have hp:=gK p;have hb:=gK l;have hg:=zxp g;have hs':Sz (f+1) (.node 4 x (2*bI p+bI l+gI g) (ps.map zL++[b])):=hs
  have hl:kI [3,4] (.node 4 x (2*bI p+bI l+gI g) (ps.map zL++[b]))=true :=
   yR (by decide) (show (0:Int)<=_ by omega) (show _<=(11:Int) by omega) (show (1:Int)<=_ by simp;omega) hs'.len (cV h2.1)
  obtain ⟨w,hw⟩:=(zn3 f).bl b h3 (hs'.kid (by simp))
  obtain ⟨c,hc⟩:=zcz (g:=yK) (ks:=ps.map zL) (fun t ht=>by
   obtain ⟨q,hq,rfl⟩:=List.mem_map.1 ht
   exact zv0 q (h2.2 q hq))
  have e1:(ps.map zL++[b]).take ((ps.map zL++[b]).length - 1)=ps.map zL:=by
   rw [jb,List.length_singleton,Nat.add_sub_cancel,List.take_left'];rfl
  have e2:(ps.map zL++[b]).getD ((ps.map zL++[b]).length - 1) noT=b:=by
   rw [jb,List.length_singleton,Nat.add_sub_cancel,List.getD_eq_getElem?_getD,List.getElem?_append_right (Nat.le_refl _)];simp
  show ∃ w,qQ f (.node 4 x (2*bI p+bI l+gI g) (ps.map zL++[b]))=some w;unfold qQ;dsimp only;rw [jv hl,jv rfl,e1,e2,hc,jf,hw];exact ⟨_,rfl⟩
theorem zwg (k:Kid) (hi:kT k.tree=true) (h:k.good/\k.named/\xI k):∃ w,yQ k.tree=some w:=by
 cases k with
 | imp x =>
  have hl:kI [2] (.node 2 x 0 [])=true:=yR (by decide) (by decide) (by decide) (by decide) (by decide) (cV h.2.1);show ∃ w,yQ (.node 2 x 0 [])=some w;unfold yQ;dsimp only;rw [jv hl]
  exact ⟨_,rfl⟩
 | var x p l n=>cases n<;>exact absurd hi (by simp [kT,Kid.tree])
 | proc x p l g ps b=>exact absurd hi (by simp [kT,Kid.tree])
section
variable (ts:List Tok)
theorem zhj:∀ (f:Nat) (ks:List Tree) (s:St) (q:List Tree × St),(∀ t∈ks,kT t=true)->yC ts f ks s=some q->∀ t∈q.1,kT t=true
 | 0,ks,s,q,hk,h=>by unfold yC at h;cases h
 | f+1,ks,s,q,hk,h=>by
  unfold yC at h;split at h
  ·refine zhj f _ _ _ ?_ h;intro t ht;rcases List.mem_append.1 ht with ht | ht
   ·exact hk t ht
   ·rw [jy] at ht;rw [ht];rfl
  ·cases h;exact hk
theorem zsr (f:Nat) (s:St) (q:Tree × St) (h:yO ts f s=some q):kT q.1=false:=by
 unfold yO at h;split at h;·obtain ⟨a,ha,h⟩:=jg.1 h;obtain ⟨b,hb,h⟩:=jg.1 h;cases h;rfl
 ·cases h;rfl
theorem zie:∀ (f:Nat) (ks:List Tree) (s:St) (q:List Tree × St),zY ts f ks s=some q->∃ B,q.1=ks++B/\∀ t∈B,kT t=false
 | 0,ks,s,q,h=>by unfold zY at h;cases h
 | f+1,ks,s,q,h=>by
  unfold zY at h;split at h;·cases h;exact ⟨[],by simp,fun t ht=>by cases ht⟩
  ·obtain ⟨p,hp,h⟩:=jg.1 h;obtain ⟨B,e,hB⟩:=zie f _ _ _ h;refine ⟨p.1 :: B,by rw [e];simp,?_⟩;intro t ht;rcases List.mem_cons.1 ht with rfl | ht
   ·exact zsr ts _ _ _ hp
   ·exact hB t ht
end
theorem zpg (x:ByteArray) (h:(kM x).code=0):∃ (m:ByteArray) (A B:List Tree),(kM x).tree=.node 1 m 0 (A++B)/\(∀ t∈A,kT t=true)/\∀ t∈B,kT t=false:=by
 unfold kM at h |-
 cases hs:scan x.data.toList with
 | err c p =>
  rw [hs] at h
  exact absurd h (lexs.scan_err hs)
 | ok ts =>
  obtain ⟨p,q,hp,hq,hm⟩:=zed (ts:=ts) (lexs.scan_len hs);rw [hs] at h;simp only [hm] at h |-;unfold gB at h |-
  cases hb:q.2.bad with
  | true =>
   rw [jv hb] at h
   simp at h
  | false =>
   rw [ju (by simp [hb])] at h |-
   cases hf:vC (.node 1 (fJ ts) 0 q.1) with
   | false =>
    rw [ju (by simp [hf])] at h
    simp at h
   | true =>
    rw [jv rfl];obtain ⟨B,e,hB⟩:=zie ts _ _ _ _ hq;exact ⟨fJ ts,p.1,B,by show Tree.node 1 _ 0 q.1=_;rw [e],zhj ts _ _ _ _ (fun t ht=>by cases ht) hp,hB⟩
theorem zi8 {B:List Tree} (hB:∀ t∈B,kT t=false):∀ (A:List Tree),(∀ t∈A,kT t=true)->(A++B).takeWhile kT=A/\(A++B).dropWhile kT=B
 | [],_=>by
  cases B with
  | nil=>exact ⟨rfl,rfl⟩
  | cons b r =>
   have:=hB b (jJ)
   simp [this]
 | a :: r,h=>by
  have h1:=h a (jJ);obtain ⟨h2,h3⟩:=zi8 hB r (fun t ht=>h t (jF _ ht));simp only [jK,List.takeWhile_cons,List.dropWhile_cons,h1,if_true,h2,h3,and_self]
theorem zf6 (t:Tree) (h:vC t=true):kB t<=500/\zV t<=16:=by
 rw [<- zba,cO t 1 0 (by omega) (by omega) (by omega) (by omega)] at h;split at h;·rename_i hh;omega
 ·cases h
theorem zps {m:ByteArray} {ks:List Kid} {A B:List Tree} {f:Nat} (hn:kK m=true) (hk:∀ k∈ks,k.good/\k.named/\xI k) (e':ks.map Kid.tree=A++B) (hA:∀ t∈A,kT t=true) (hB:∀ t∈B,kT t=false) (hs:Sz (f+1+1) (.node 1 m 0 (ks.map Kid.tree))):∃ w,xG f (.node 1 m 0 (ks.map Kid.tree))=some w:=by
 have hl:kI [1] (.node 1 m 0 (ks.map Kid.tree))=true:=yR (by decide) (by decide) (by decide) (Int.natCast_nonneg _) hs.len (cV hn);obtain ⟨t1,t2⟩:=zi8 hB A hA;rw [<- e'] at t1 t2;have hmem:∀ t∈ks.map Kid.tree,∃ k∈ks,k.tree=t:=fun t ht=>List.mem_map.1 ht
 obtain ⟨a,ha⟩:=zdl (g:=yQ) A (fun t ht=>by
  obtain ⟨k,hk1,rfl⟩:=hmem t (by rw [e'];exact List.mem_append_left _ ht)
  exact zwg k (hA _ ht) (hk k hk1))
 obtain ⟨b,hb⟩:=zdl (g:=qQ f) B (fun t ht=>by
  have hin:t∈ks.map Kid.tree:=by rw [e'];exact List.mem_append_right _ ht
  obtain ⟨k,hk1,rfl⟩:=hmem t hin
  exact ztw k (hB _ ht) (hk k hk1) (hs.kid hin))
 unfold xG;dsimp only;rw [jv hl,t1,t2,ha,jf,hb];exact ⟨_,rfl⟩
end pr
namespace syn
open lexs (Tok)
section
variable (ts:List Tok)
structure Mono (f:Nat):Prop where
 ex:∀ s R,qB ts f s=some R->qB ts (f+1) s=some R
 bo:∀ l s R,qK ts f l s=some R->qK ts (f+1) l s=some R
 bl:∀ l n s R,qW ts f l n s=some R->qW ts (f+1) l n s=some R
 un:∀ s R,zF ts f s=some R->zF ts (f+1) s=some R
 as:∀ s R,zJ ts f s=some R->zJ ts (f+1) s=some R
 pl:∀ x s R,qX ts f x s=some R->qX ts (f+1) x s=some R
 ca:∀ x s R,zT ts f x s=some R->zT ts (f+1) x s=some R
 cl:∀ x ks s on R,zO ts f x ks s on=some R->zO ts (f+1) x ks s on=some R
theorem xM {α β:Type} {a b:Option α} {g h:α->Option β} {R:β} (h1:a.bind g=some R) (hab:∀ x,a=some x->b=some x) (hgh:∀ x,g x=some R->h x=some R):b.bind h=some R:=by
 cases ha:a with
 | none=>rw [ha] at h1;cases h1
 | some x =>
  rw [ha] at h1;rw [hab x ha];exact hgh x h1
theorem mono:∀ f,Mono ts f
 | 0=>⟨fun _ _ h=>by simp [qB] at h,fun _ _ _ h=>by simp [qK] at h,fun _ _ _ _ h=>by simp [qW] at h,fun _ _ h=>by simp [zF] at h,fun _ _ h=>by simp [zJ] at h,fun _ _ _ h=>by simp [qX] at h,fun _ _ _ h=>by simp [zT] at h,fun _ _ _ _ _ h=>by simp [zO] at h⟩
 | f+1=>by
  have ih:=mono f;refine ⟨fun s R h=>?_,fun l s R h=>?_,fun l n s R h=>?_,fun s R h=>?_,fun s R h=>?_,fun x s R h=>?_,fun x s R h=>?_,fun x ks s on R h=>?_⟩
  ·unfold qB at h |-;by_cases hb:s.bad=true;·rw [jv hb] at h |-;exact h
   ·rw [ju hb] at h |-;exact ih.bo _ _ _ h
  ·unfold qK at h |-;by_cases hb:2<l;·rw [jv hb] at h |-;exact ih.un _ _ h
   ·rw [ju hb] at h |-;exact xM h (fun q hq=>ih.bo _ _ _ hq) (fun q hq=>ih.bl _ _ _ _ hq)
  ·unfold qW at h |-;by_cases hb:s.bad=true;·rw [jv hb] at h |-;exact h
   ·rw [ju hb] at h |-;by_cases hs:((sign (txt ts s)).2 != (l:Int))=true;·rw [jv hs] at h |-;exact h
    ·rw [ju hs] at h |-;refine xM h (fun q hq=>ih.bo _ _ _ hq) (fun q hq=>?_);by_cases h0:(l==0)=true;·rw [jv h0] at hq |-;exact hq
     ·rw [ju h0] at hq |-;exact ih.bl _ _ _ _ hq
  ·unfold zF at h |-;by_cases h1:eqS (txt ts s) ⟨#[45]⟩=true;·rw [jv h1] at h |-;exact xM h (fun q hq=>ih.un _ _ hq) (fun q hq=>hq)
   ·rw [ju h1] at h |-;by_cases h2:eqS (txt ts s) ⟨#[33]⟩=true;·rw [jv h2] at h |-;exact xM h (fun q hq=>ih.un _ _ hq) (fun q hq=>hq)
    ·rw [ju h2] at h |-;by_cases h3:eqS (txt ts s) ⟨#[40]⟩=true;·rw [jv h3] at h |-;exact ih.as _ _ h
     ·rw [ju h3] at h |-;by_cases h4:gO ts s=true;·rw [jv h4] at h |-;exact h
      ·rw [ju h4] at h |-;by_cases h5:eqS (txt ts (whole ts s).2) ⟨#[40]⟩=true;·rw [jv h5] at h |-;exact ih.ca _ _ _ h
       ·rw [ju h5] at h |-;exact ih.pl _ _ _ h
  ·unfold zJ at h |-;exact xM h (fun q hq=>ih.ex _ _ hq) (fun q hq=>hq)
  ·unfold qX at h |-;by_cases h1:eqS (txt ts s) ⟨#[91]⟩=true;·rw [jv h1] at h |-;exact xM h (fun q hq=>ih.ex _ _ hq) (fun q hq=>hq)
   ·rw [ju h1] at h |-;exact h
  ·unfold zT at h |-;by_cases h1:eqS (txt ts (kF ts ⟨#[40]⟩ s)) ⟨#[41]⟩=true;·rw [jv h1] at h |-;exact h
   ·rw [ju h1] at h |-;exact ih.cl _ _ _ _ _ h
  ·unfold zO at h |-;by_cases h1:(on&&!s.bad)=true;·rw [jv h1] at h |-;exact xM h (fun q hq=>ih.ex _ _ hq) (fun q hq=>ih.cl _ _ _ _ _ hq)
   ·rw [ju h1] at h |-;exact h
variable {ts}
theorem zf8 {f g:Nat} (h:f<=g) {s R} (e:qB ts f s=some R):qB ts g s=some R:=by
 induction h with
 | refl=>exact e
 | step _ ih=>exact (mono ts _).ex _ _ ih
theorem zle {f g:Nat} (h:f<=g) {l s R} (e:qK ts f l s=some R):qK ts g l s=some R:=by
 induction h with
 | refl=>exact e
 | step _ ih=>exact (mono ts _).bo _ _ _ ih
theorem zjj {f g:Nat} (h:f<=g) {l n s R} (e:qW ts f l n s=some R):qW ts g l n s=some R:=by
 induction h with
 | refl=>exact e
 | step _ ih=>exact (mono ts _).bl _ _ _ _ ih
theorem zu9 {f g:Nat} (h:f<=g) {x ks s on R} (e:zO ts f x ks s on=some R):zO ts g x ks s on=some R:=by
 induction h with
 | refl=>exact e
 | step _ ih=>exact (mono ts _).cl _ _ _ _ _ ih
end
end syn
end Go.Proofs.YtaadmdlbkhcfnaaGreatDoor
