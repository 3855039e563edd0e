/- The library's slices.Backward over variables, at this dump: the contract of what it hands back, for every loop body. -/
import Derived.Test.YtfopddgjdaoidaaGreatDoorNM19
import Derived.Shelf.Strings.Cut
import Derived.RangeFuncNested
import Derived.RangeFuncBound
import Derived.Shelf.RegionOpen
import Derived.OwnWalkIn
import Derived.LoopNIn
import Derived.LoopIn
set_option linter.unusedVariables false
set_option linter.unusedSimpArgs false
set_option maxRecDepth 100000
namespace Go.Proofs.YtfopddgjdaoidaaGreatDoor.chk
open syn face
inductive Res (α:Type) where
  | bad (c a:Int)
  | ok (x:α)
def jn (a b:Int):Int:=if a≠0∨b≠0 then 1 else 0
structure Env where
  own:FaceD
  faces:List FaceD
structure Loc where
  name:ByteArray
  label:Int
  deep:Int
def cutL:List UInt8→List UInt8 × Option (List UInt8)
  | []=>([],none)
  | c :: r=>if c=46 then ([],some r) else ((c :: (cutL r).1),(cutL r).2)
def modOf (x:ByteArray):ByteArray:=match cutL x.data.toList with
  | (a,some _)=>⟨a.toArray⟩
  | (_,none)=>empty
def ownOf (x:ByteArray):ByteArray:=match cutL x.data.toList with
  | (_,some b)=>⟨b.toArray⟩
  | (_,none)=>x
def faceOf (E:Env) (x:ByteArray):Option FaceD:=if (modOf x).size=0 then some E.own else E.faces.find? fun f=>eqS f.module (modOf x)
def varIn (l:List VarD) (x:ByteArray):Option VarD:=l.find? fun v=>eqS v.name x
def procIn (l:List ProcD) (x:ByteArray):Option ProcD:=l.find? fun p=>eqS p.name x
def varF (E:Env) (L:List Loc) (x:ByteArray):Option (Int × Int) :=
  match L.reverse.find? (fun l=>eqS l.name x) with
  | some l=>some (l.label,0)
  | none=>match faceOf E x with
    | none=>none
    | some f=>(varIn f.vars (ownOf x)).map fun v=>(v.label,v.size)
def procF (E:Env) (x:ByteArray):Option ProcD:=match faceOf E x with
  | none=>none
  | some f=>procIn f.procs (ownOf x)
def argsOk:List Int→List Int→Bool
  | [],_=>true
  | _,[]=>true
  | p :: r,l :: s=>(p==1 || l==0) && argsOk r s
def joinL:List Int→Int→Int
  | [],l=>l
  | x :: r,l=>joinL r (jn l x)
def ownF (E:Env) (L:List Loc) (ctx:Int) (alone:Bool) (k:Int) (x:ByteArray) (ls:List Int) (a:Int):Res Int :=
  if k=16 then match varF E L x with
    | none=>.bad 4 a
    | some v=>if v.2=0 then .ok v.1 else .bad 3 a
  else if k=17 then match varF E L x with
    | none=>.bad 4 a
    | some v=>if 0<v.2 then .ok (jn (joinL ls 0) v.1) else .bad 3 a
  else if k=18 then match procF E x with
    | none=>.bad 4 a
    | some p=>if p.params.length≠ls.length then .bad 6 a else if p.gives=false∧alone=false then .bad 3 a else if argsOk p.params ls=false then .bad 7 a else if p.writes≠1∧ctx≠0 then .bad 7 a else .ok p.given
  else .ok (joinL ls 0)
section
variable (E:Env) (L:List Loc) (ctx:Int)
mutual
def exF (alone:Bool):Tree→Int→Res (Int × Int)
  | .node k x _ ks,a=>match exL ks (a+1) with
    | .bad c b=>.bad c b
    | .ok q=>match ownF E L ctx alone k x q.1 a with
      | .bad c b=>.bad c b
      | .ok l=>.ok (l,q.2)
def exL:List Tree→Int→Res (List Int × Int)
  | [],a=>.ok ([],a)
  | t :: r,a=>match exF false t a with
    | .bad c b=>.bad c b
    | .ok q=>match exL r q.2 with
      | .bad c b=>.bad c b
      | .ok s=>.ok (q.1 :: s.1,s.2)
end
end
def plF (E:Env) (L:List Loc) (ctx:Int):Tree→Int→Res (Int × Int × Int)
  | .node k x m ks,a=>match exL E L ctx ks (a+1) with
    | .bad c b=>.bad c b
    | .ok q=>match ownF E L ctx false k x q.1 a with
      | .bad c b=>.bad c b
      | .ok _=>.ok (((varF E L x).map (·.1)).getD 0,joinL q.1 0,q.2)
def hi (a b c:Int):Bool:=a==1 || b==1 || c==1
structure Pr where
  gives:Bool
  given:Int
section
variable (E:Env) (p:Pr)
def simF (L:List Loc) (ctx deep:Int) (last:Bool) (k:Int) (x:ByteArray) (m:Int) (ks:List Tree) (a:Int):Res (List Loc × Int) :=
  if k=7 then match exL E L ctx ks (a+1) with
    | .bad c b=>.bad c b
    | .ok q=>if L.any (fun l=>l.deep==deep && eqS l.name x) then .bad 5 a else if 20≤L.length then .bad 1 a else if m≠1∧hi (joinL q.1 0) ctx 0=true then .bad 7 a else .ok (L++[⟨x,m,deep⟩],q.2)
  else if k=8 then match ks with
    | [t,e]=>match plF E L ctx t (a+1) with
      | .bad c b=>.bad c b
      | .ok q=>match exF E L ctx false e q.2.2 with
        | .bad c b=>.bad c b
        | .ok s=>if q.1≠1∧hi s.1 q.2.1 ctx=true then .bad 7 a else .ok (L,s.2)
    | _=>.ok (L,a)
  else if k=9 then match ks with
    | [t]=>match exF E L ctx true t (a+1) with
      | .bad c b=>.bad c b
      | .ok q=>.ok (L,q.2)
    | _=>.ok (L,a)
  else if k=12 then match exL E L ctx ks (a+1) with
    | .bad c b=>.bad c b
    | .ok q=>if m≠1∧hi (joinL q.1 0) ctx 0=true then .bad 7 a else .ok (L,q.2)
  else if k=13 then match ks with
    | [t]=>match plF E L ctx t (a+1) with
      | .bad c b=>.bad c b
      | .ok q=>if m≠1∧ctx≠0 then .bad 7 a else if q.1≠1∧hi m q.2.1 ctx=true then .bad 7 a else .ok (L,q.2.2)
    | _=>.ok (L,a)
  else match exL E L ctx ks (a+1) with
    | .bad c b=>.bad c b
    | .ok q=>if (last && p.gives)=false then .bad 2 a else if p.given≠1∧joinL q.1 0≠0 then .bad 7 a else .ok (L,q.2)
mutual
def stF (ctx deep:Int) (last:Bool):Tree→List Loc→Int→Res (List Loc × Int)
  | .node k x m ks,L,a=>if k=10∨k=11 then match ks with
      | []=>.ok (L,a)
      | e :: r=>match exF E L ctx false e (a+1) with
        | .bad c b=>.bad c b
        | .ok q=>blsF (jn ctx q.1) (deep+1) r L q.2
    else simF E p L ctx deep last k x m ks a
def blsF (ctx deep:Int):List Tree→List Loc→Int→Res (List Loc × Int)
  | [],L,a=>.ok (L,a)
  | t :: r,L,a=>match blF ctx deep t L a with
    | .bad c b=>.bad c b
    | .ok q=>blsF ctx deep r q.1 q.2
def blF (ctx deep:Int):Tree→List Loc→Int→Res (List Loc × Int)
  | .node _ _ _ ks,L,a=>match stsF ctx deep ks L (a+1) with
    | .bad c b=>.bad c b
    | .ok q=>.ok (q.1.take L.length,q.2)
def stsF (ctx deep:Int):List Tree→List Loc→Int→Res (List Loc × Int)
  | [],L,a=>.ok (L,a)
  | t :: r,L,a=>match stF ctx deep (decide (deep=1) && r.isEmpty) t L a with
    | .bad c b=>.bad c b
    | .ok q=>stsF ctx deep r q.1 q.2
end
end
def prF (E:Env) (q:ProcD) (ps:List (ByteArray × Bool)) (b:Tree) (ends:Bool) (a:Int):Res Int :=
  match blF E ⟨q.gives,q.given⟩ q.writes 1 b (ps.map fun p=>⟨p.1,bI p.2,1⟩) (a+1+ps.length) with
  | .bad c d=>.bad c d
  | .ok s=>if q.gives=true∧ends=false then .bad 2 a else .ok s.2
def endsT:Tree→Bool
  | .node _ _ _ ks=>match ks.getLast? with
    | some (.node k _ _ _)=>k==14
    | none=>false
def moF (own:FaceD) (given:List FaceD):List Kid→List FaceD→Int→Option (Int × Int)
  | [],_,_=>none
  | .imp x :: r,fs,a=>match given.find? (fun f=>eqS f.module x) with
    | none=>some (4,a)
    | some f=>moF own given r (fs++[f]) (a+1)
  | .var x p l n :: r,fs,a=>moF own given r fs (a+1+(Kid.var x p l n).kids.length)
  | .proc x p l g ps b :: r,fs,a=>match prF ⟨own,fs⟩ (procD x p l g ps) ps b (endsT b) a with
    | .bad c d=>some (c,d)
    | .ok d=>moF own given r fs d
theorem cutL_none:∀ (l:List UInt8),(∀ c ∈ l,c≠46)→cutL l=(l,none)
  | [],_=>rfl
  | c :: r,h=>by
    unfold cutL
    rw [if_neg (h c (List.mem_cons_self)),cutL_none r (fun d hd=>h d (List.mem_cons_of_mem _ hd))]
theorem cutL_some:∀ (a b:List UInt8),(∀ c ∈ a,c≠46)→cutL (a++46 :: b)=(a,some b)
  | [],b,_=>by show cutL (46 :: b)=_;unfold cutL;rw [if_pos rfl]
  | c :: r,b,h=>by
    show cutL (c :: (r++46 :: b))=_
    unfold cutL
    rw [if_neg (h c (List.mem_cons_self)),cutL_some r b (fun d hd=>h d (List.mem_cons_of_mem _ hd))]
theorem name_nopoint {x:ByteArray} (h:isName x=true):∀ c ∈ x.data.toList,c≠46:=by
  intro c hc e
  unfold isName at h
  simp only [Bool.and_eq_true] at h
  have h2:=List.all_eq_true.1 h.1.2 c hc
  rw [e] at h2
  exact absurd h2 (by decide)
theorem long_cases {x:ByteArray} (h:LongN x):((∀ c ∈ x.data.toList,c≠46)∧modOf x=empty∧ownOf x=x) ∨
    (∃ a b:List UInt8,x.data.toList=a++46 :: b∧0<a.length∧(∀ c ∈ a,c≠46)∧(∀ c ∈ b,c≠46)∧modOf x=⟨a.toArray⟩∧ownOf x=⟨b.toArray⟩):=by
  rcases h with h | ⟨a,b,ha,hb,rfl⟩
  · have hn:=name_nopoint h
    refine .inl ⟨hn,?_,?_⟩
    · unfold modOf;rw [cutL_none _ hn]
    · unfold ownOf;rw [cutL_none _ hn]
  · have e:(a++⟨#[46]⟩++b).data.toList=a.data.toList++46 :: b.data.toList:=by
      simp [ByteArray.data_append]
    have hna:=name_nopoint ha
    refine .inr ⟨a.data.toList,b.data.toList,e,?_,hna,name_nopoint hb,?_,?_⟩
    · unfold isName at ha
      simp only [Bool.and_eq_true,decide_eq_true_eq] at ha
      have:=ha.1.1.1.1
      rw [lexs.len_L]
      omega
    · unfold modOf;rw [e,cutL_some _ _ hna]
    · unfold ownOf;rw [e,cutL_some _ _ hna]
end Go.Proofs.YtfopddgjdaoidaaGreatDoor.chk
namespace Go.Proofs.YtfopddgjdaoidaaGreatDoor.chk
open Go.RowKit
open syn face
theorem long_size {x:ByteArray} (h:LongN x):x.size≤33:=by
  rcases h with h | ⟨a,b,ha,hb,rfl⟩
  · have:=name_short h;omega
  · have h1:=name_short ha
    have h2:=name_short hb
    rw [ByteArray.size_append,ByteArray.size_append]
    show a.size+1+b.size≤33
    omega
end Go.Proofs.YtfopddgjdaoidaaGreatDoor.chk
namespace Go.Proofs
open Go.Shelf
def Tryz.laysCut_ren : Go.Shelf.Ren := ⟨fun | 145 => 199 | 220 => 219 | 219 => 234 | 217 => 138 | 225 => 244 | 224 => 245 | 267 => 246 | 266 => 174 | 314 => 252 | n => n, fun | 9 => 9 | 4 => 4 | 59 => 230 | 3 => 3 | 5 => 5 | 46 => 226 | 146 => 274 | 51 => 265 | n => n, fun | 1 => 1 | n => n⟩
theorem Tryz.laysCut : Go.Proofs.Lays.n145 Tryz.prog Tryz.laysCut_ren := {
  mixed := by kernel_rfl
  f145 := Tryz.func199.trans (congrArg some (by kernel_rfl))
  f217 := Tryz.func138.trans (congrArg some (by kernel_rfl))
  f219 := Tryz.func234.trans (congrArg some (by kernel_rfl))
  f220 := Tryz.func219.trans (congrArg some (by kernel_rfl))
  f224 := Tryz.func245.trans (congrArg some (by kernel_rfl))
  f225 := Tryz.func244.trans (congrArg some (by kernel_rfl))
  f266 := Tryz.func174.trans (congrArg some (by kernel_rfl))
  f267 := Tryz.func246.trans (congrArg some (by kernel_rfl))
  f314 := Tryz.func252.trans (congrArg some (by kernel_rfl))
  t3 := Tryz.underlying3
  a3 := Tryz.isAgg3
  z3 := Tryz.sizeOf3
  v3 := Tryz.zeroValue3
  t4 := Tryz.underlying4
  a4 := Tryz.isAgg4
  z4 := Tryz.sizeOf4
  v4 := Tryz.zeroValue4
  t5 := Tryz.underlying5
  a5 := Tryz.isAgg5
  z5 := Tryz.sizeOf5
  v5 := Tryz.zeroValue5
  t9 := Tryz.underlying9
  a9 := Tryz.isAgg9
  z9 := Tryz.sizeOf9
  v9 := Tryz.zeroValue9
  t46 := Tryz.underlying226
  a46 := Tryz.isAgg226
  z46 := Tryz.sizeOf226
  v46 := Tryz.zeroValue226
  t51 := Tryz.underlying265
  a51 := Tryz.isAgg265
  z51 := Tryz.sizeOf265
  v51 := Tryz.zeroValue265
  t59 := Tryz.underlying230
  a59 := Tryz.isAgg230
  z59 := Tryz.sizeOf230
  v59 := Tryz.zeroValue230
  t146 := Tryz.underlying274
  a146 := Tryz.isAgg274
  z146 := Tryz.sizeOf274
  v146 := Tryz.zeroValue274
  g1 := by kernel_rfl }
end Go.Proofs
namespace Go.Proofs.YtfopddgjdaoidaaGreatDoor.chk
open Go.RowKit
open syn face
def HasMax (w:World):Prop:=∃ m:Int,w.cell? ⟨Tryz.laysCut_ren.g 1,0,none⟩=some (.int .i64 m)
theorem hasMax_below {w w':World} (h:HasMax w) (hb:Below w.heap.size w w'):HasMax w':=by
  obtain ⟨m,h⟩:=h
  exact ⟨m,keep h hb⟩
theorem index_no:∀ l:List UInt8,(∀ c ∈ l,c≠46)→Lib.index l [46] = -1
  | l,h=>Lib.index_none (fun j hj=>by
    unfold Lib.occAt
    cases hd:l.drop j with
    | nil=>rfl
    | cons c r =>
      have hc:c ∈ l:=List.mem_of_mem_drop (i:=j) (by rw [hd];exact List.mem_cons_self)
      have:=h c hc
      show ((46:UInt8)==c && List.isPrefixOf [] r)=false
      rw [beq_false_of_ne (Ne.symm this)]
      rfl)
theorem index_at (a b:List UInt8) (h:∀ c ∈ a,c≠46):Lib.index (a++46 :: b) [46]=a.length :=
  Lib.index_first (i:=a.length) (by simp) (by
    unfold Lib.occAt
    simp) (fun j hj=>by
    unfold Lib.occAt
    rw [List.drop_append_of_le_length (by omega)]
    cases hd:a.drop j with
    | nil =>
      have:=congrArg List.length hd
      simp at this
      omega
    | cons c r =>
      have hc:c ∈ a:=List.mem_of_mem_drop (i:=j) (by rw [hd];exact List.mem_cons_self)
      have:=h c hc
      show ((46:UInt8)==c && List.isPrefixOf [] _)=false
      rw [beq_false_of_ne (Ne.symm this)]
      rfl)
theorem oSplit (x:ByteArray) (w:World) (hx:LongN x) (hm:HasMax w) :
    Calls Tryz.prog 228 #[.string x] w fun e w'=>e=.returned (.tuple #[.string (modOf x),.string (ownOf x)])∧Below w.heap.size w w':=by
  obtain ⟨m,hm⟩:=hm
  have hC:=Any.strings_Cut Tryz.laysCut x ⟨#[46]⟩ m w (by have:=long_size hx;omega) hm
  rw [show ((⟨#[46]⟩:ByteArray).data.toList)=[46] from rfl] at hC
  rcases long_cases hx with ⟨h1,h2,h3⟩ | ⟨a,b,h1,h2,h3,h4,h5,h6⟩
  · have hc:Lib.cut x.data.toList [46]=(x.data.toList,[],false):=by
      unfold Lib.cut
      rw [index_no _ h1,if_neg (by decide)]
    rw [hc] at hC
    rw [h2,h3]
    dsimp only at hC
    rw [Lib.mk_data] at hC
    go_enter Tryz.func228,Tryz.ntmps228
    go_wp2_with (go_at_call 199;refine hC.mono ?_;rintro e w1 ⟨rfl,n,rfl⟩)
    refine bodyPost_ret (v:=.tuple #[.string empty,.string x]) (by simp [results,Tryz.results228,go_sem,empty]) rfl ?_
    exact ⟨rfl,⟨rfl,rfl,rfl,jE _,fun _ _=>rfl⟩⟩
  · have hc:Lib.cut x.data.toList [46]=(a,b,true):=by
      unfold Lib.cut
      rw [h1,index_at a b h3,if_pos (by omega)]
      simp
    rw [hc] at hC
    rw [h5,h6]
    dsimp only at hC
    go_enter Tryz.func228,Tryz.ntmps228
    go_wp2_with (go_at_call 199;refine hC.mono ?_;rintro e w1 ⟨rfl,n,rfl⟩)
    refine bodyPost_ret (v:=.tuple #[.string ⟨a.toArray⟩,.string ⟨b.toArray⟩]) (by simp [results,Tryz.results228,go_sem]) rfl ?_
    exact ⟨rfl,⟨rfl,rfl,rfl,jE _,fun _ _=>rfl⟩⟩
end Go.Proofs.YtfopddgjdaoidaaGreatDoor.chk
namespace Go.Proofs.YtfopddgjdaoidaaGreatDoor.face
open Go.RowKit
theorem cell_grown {w w':World} {row:Option Nat} (hg:w.grownBy w' row) {a:Addr} {v:Value} (h:w.cell? a=some v) (hne:row≠some a.block):w'.cell? a=some v:=by
  rw [World.cell?_of_block (a:=a) (hg.block a.block (World.block_lt_of_cell? w a h) (fun e=>hne e.symm))]
  exact h
structure Box6 (w:World) (N:Nat) (x0 x1 x2 x3 x4 x5:Value):Prop where
  c0:w.cell? ⟨N,0,none⟩=some x0
  c1:w.cell? ⟨N,1,none⟩=some x1
  c2:w.cell? ⟨N,2,none⟩=some x2
  c3:w.cell? ⟨N,3,none⟩=some x3
  c4:w.cell? ⟨N,4,none⟩=some x4
  c5:w.cell? ⟨N,5,none⟩=some x5
  f0:w.frozen? ⟨N,0,none⟩=false
  f1:w.frozen? ⟨N,1,none⟩=false
  f2:w.frozen? ⟨N,2,none⟩=false
  f3:w.frozen? ⟨N,3,none⟩=false
  f4:w.frozen? ⟨N,4,none⟩=false
  f5:w.frozen? ⟨N,5,none⟩=false
section
variable {w w':World} {N:Nat} {x0 x1 x2 x3 x4 x5:Value}
theorem Box6.new (w:World) (x0 x1 x2 x3 x4 x5:Value) (T:TypeId):Box6 (w.alloc (.cells #[x0,x1,x2,x3,x4,x5] T)) w.heap.size x0 x1 x2 x3 x4 x5:=by constructor <;> simp
theorem Box6.lt (h:Box6 w N x0 x1 x2 x3 x4 x5):N<w.heap.size:=World.block_lt_of_cell? w ⟨N,0,none⟩ h.c0
theorem Box6.block (h:Box6 w N x0 x1 x2 x3 x4 x5) (hb:w'.heap[N]?=w.heap[N]?):Box6 w' N x0 x1 x2 x3 x4 x5 :=
  ⟨(World.cell?_of_block (a:=⟨N,0,none⟩) hb).trans h.c0,(World.cell?_of_block (a:=⟨N,1,none⟩) hb).trans h.c1,(World.cell?_of_block (a:=⟨N,2,none⟩) hb).trans h.c2,(World.cell?_of_block (a:=⟨N,3,none⟩) hb).trans h.c3,(World.cell?_of_block (a:=⟨N,4,none⟩) hb).trans h.c4,(World.cell?_of_block (a:=⟨N,5,none⟩) hb).trans h.c5,
    (World.frozen?_of_block (a:=⟨N,0,none⟩) hb).trans h.f0,(World.frozen?_of_block (a:=⟨N,1,none⟩) hb).trans h.f1,(World.frozen?_of_block (a:=⟨N,2,none⟩) hb).trans h.f2,(World.frozen?_of_block (a:=⟨N,3,none⟩) hb).trans h.f3,(World.frozen?_of_block (a:=⟨N,4,none⟩) hb).trans h.f4,(World.frozen?_of_block (a:=⟨N,5,none⟩) hb).trans h.f5⟩
theorem Box6.below (h:Box6 w N x0 x1 x2 x3 x4 x5) (hb:Below w.heap.size w w'):Box6 w' N x0 x1 x2 x3 x4 x5:=h.block (hb.block N h.lt)
theorem Box6.alloc (h:Box6 w N x0 x1 x2 x3 x4 x5) (o:Obj):Box6 (w.alloc o) N x0 x1 x2 x3 x4 x5:=h.below ((Below.refl _ _).alloc (jE _) o)
theorem Box6.grown {row:Option Nat} (h:Box6 w N x0 x1 x2 x3 x4 x5) (hg:w.grownBy w' row) (hne:row≠some N):Box6 w' N x0 x1 x2 x3 x4 x5:=h.block (hg.block N h.lt (fun e=>hne e.symm))
theorem Box6.other (h:Box6 w N x0 x1 x2 x3 x4 x5) {M o:Nat} (hne:M≠N) (v:Value):Box6 (w.setCell ⟨M,o,none⟩ v) N x0 x1 x2 x3 x4 x5:=h.block (Below.heap_setCell _ _ _ _ (fun e=>hne (by rw [e])))
theorem Box6.drew (h:Box6 w N x0 x1 x2 x3 x4 x5):Box6 w.drew N x0 x1 x2 x3 x4 x5:=⟨h.c0,h.c1,h.c2,h.c3,h.c4,h.c5,h.f0,h.f1,h.f2,h.f3,h.f4,h.f5⟩
theorem Box6.set2 (h:Box6 w N x0 x1 x2 x3 x4 x5) (v:Value):Box6 (w.setCell ⟨N,2,none⟩ v) N x0 x1 v x3 x4 x5 :=
  ⟨by rw [jD _ _ _ _ (by simp)];exact h.c0,by rw [jD _ _ _ _ (by simp)];exact h.c1,World.cell?_setCell_same _ _ _ h.c2,by rw [jD _ _ _ _ (by simp)];exact h.c3,by rw [jD _ _ _ _ (by simp)];exact h.c4,by rw [jD _ _ _ _ (by simp)];exact h.c5,
    by simp [h.f0],by simp [h.f1],by simp [h.f2],by simp [h.f3],by simp [h.f4],by simp [h.f5]⟩
end
end Go.Proofs.YtfopddgjdaoidaaGreatDoor.face
namespace Go.Proofs.YtfopddgjdaoidaaGreatDoor.face
open Go.RowKit
open syn
def intV (l:List Int):List Value:=l.map (Value.int .i64)
theorem intV_snoc (l:List Int) (y:Int):intV (l++[y])=intV l++[.int .i64 y]:=by simp [intV]
theorem infoI:(Tryz.prog.info? 3).map (fun i=>(i.zero,i.size,i.bytes))=some (some (.int .i64 0),1,8):=by kernel_rfl
theorem one_int (y:Int):∀ u ∈ [Value.int .i64 y],u.oneCell'=true:=by intro u hu;simp at hu;rw [hu];rfl
theorem take_par (ps:List (ByteArray × Bool)) (j:Nat) (h:j<ps.length):((ps.take (j+1)).map fun q=>bI q.2)=((ps.take j).map fun q=>bI q.2)++[bI ps[j].2]:=by
  rw [List.take_add_one,List.map_append,List.getElem?_eq_getElem h];rfl
/-! rows of variables and of procedures -/
def varCells (l:List VarD):List Value:=l.flatMap fun v=>[.string v.name,.bool v.pub,.int .i64 v.label,.int .i64 v.size]
theorem varCells_snoc (l:List VarD) (v:VarD):varCells (l++[v])=varCells l++[.string v.name,.bool v.pub,.int .i64 v.label,.int .i64 v.size]:=by simp [varCells]
def procCells (l:List (ProcD × Value)):List Value:=l.flatMap fun q=>[.string q.1.name,.bool q.1.pub,q.2,.int .i64 q.1.writes,.bool q.1.gives,.int .i64 q.1.given]
theorem procCells_snoc (l:List (ProcD × Value)) (q:ProcD × Value):procCells (l++[q])=procCells l++[.string q.1.name,.bool q.1.pub,q.2,.int .i64 q.1.writes,.bool q.1.gives,.int .i64 q.1.given]:=by simp [procCells]
theorem varCells_at:∀ (l:List VarD) (k:Nat) (hk:k<l.length),(varCells l)[k * 4]?=some (.string l[k].name)∧(varCells l)[k * 4+1]?=some (.bool l[k].pub)∧(varCells l)[k * 4+2]?=some (.int .i64 l[k].label)∧(varCells l)[k * 4+3]?=some (.int .i64 l[k].size)
  | [],k,hk=>by simp at hk
  | v :: l,0,hk=>by simp [varCells]
  | v :: l,k+1,hk=>by
    have hk':k<l.length:=by simpa using hk
    have h:=varCells_at l k hk'
    have e:varCells (v :: l)=[.string v.name,.bool v.pub,.int .i64 v.label,.int .i64 v.size]++varCells l:=rfl
    have e3:(k+1) * 4=k * 4+4:=by omega
    rw [e,e3]
    refine ⟨?_,?_,?_,?_⟩
    · rw [List.getElem?_append_right (by simp)];simpa using h.1
    · rw [List.getElem?_append_right (by simp)];simpa using h.2.1
    · rw [List.getElem?_append_right (by simp)];simpa using h.2.2.1
    · rw [List.getElem?_append_right (by simp)];simpa using h.2.2.2
theorem procCells_at:∀ (l:List (ProcD × Value)) (k:Nat) (hk:k<l.length),(procCells l)[k * 6]?=some (.string l[k].1.name)∧(procCells l)[k * 6+1]?=some (.bool l[k].1.pub)∧(procCells l)[k * 6+2]?=some l[k].2∧(procCells l)[k * 6+3]?=some (.int .i64 l[k].1.writes)∧(procCells l)[k * 6+4]?=some (.bool l[k].1.gives)∧(procCells l)[k * 6+5]?=some (.int .i64 l[k].1.given)
  | [],k,hk=>by simp at hk
  | v :: l,0,hk=>by simp [procCells]
  | v :: l,k+1,hk=>by
    have hk':k<l.length:=by simpa using hk
    have h:=procCells_at l k hk'
    have e:procCells (v :: l)=[.string v.1.name,.bool v.1.pub,v.2,.int .i64 v.1.writes,.bool v.1.gives,.int .i64 v.1.given]++procCells l:=rfl
    have e3:(k+1) * 6=k * 6+6:=by omega
    rw [e,e3]
    refine ⟨?_,?_,?_,?_,?_,?_⟩
    · rw [List.getElem?_append_right (by simp)];simpa using h.1
    · rw [List.getElem?_append_right (by simp)];simpa using h.2.1
    · rw [List.getElem?_append_right (by simp)];simpa using h.2.2.1
    · rw [List.getElem?_append_right (by simp)];simpa using h.2.2.2.1
    · rw [List.getElem?_append_right (by simp)];simpa using h.2.2.2.2.1
    · rw [List.getElem?_append_right (by simp)];simpa using h.2.2.2.2.2
theorem infoV:(Tryz.prog.info? 76).map (fun i=>(i.zero,i.size,i.bytes))=some (some (.agg #[.string ⟨#[]⟩,.bool false,.int .i64 0,.int .i64 0]),4,40):=by kernel_rfl
theorem infoP:(Tryz.prog.info? 80).map (fun i=>(i.zero,i.size,i.bytes))=some (some (.agg #[.string ⟨#[]⟩,.bool false,.slice none 0 0,.int .i64 0,.bool false,.int .i64 0]),6,72):=by kernel_rfl
def ParIn (Q:Nat→Prop) (w:World) (u:Value) (l:List Int):Prop:=∃ a c,u=.slice a l.length c∧l.length≤9223372036854775807 ∧
  (l≠[]→∃ g,a=some ⟨g,0,none⟩∧Q g∧∀ i (h:i<l.length),w.cell? ⟨g,i,none⟩=some (.int .i64 l[i]))
theorem ParIn.to {Q R:Nat→Prop} {w w':World} {u:Value} {l:List Int} (h:ParIn Q w u l) (hQ:∀ b,Q b→R b) (hw:∀ b,Q b→∀ o v,w.cell? ⟨b,o,none⟩=some v→w'.cell? ⟨b,o,none⟩=some v):ParIn R w' u l:=by
  obtain ⟨a,c,e,hl,hk⟩:=h
  refine ⟨a,c,e,hl,fun hne=>?_⟩
  obtain ⟨g,e2,hq,hc⟩:=hk hne
  exact ⟨g,e2,hQ _ hq,fun i hi=>hw _ hq _ _ (hc i hi)⟩
theorem ParIn.ints {Q:Nat→Prop} {w:World} {u:Value} {l:List Int} (h:ParIn Q w u l):IntsIn w u l:=by
  obtain ⟨a,c,e,hl,hk⟩:=h
  refine ⟨a,c,e,hl,fun hne=>?_⟩
  obtain ⟨g,e2,hq,hc⟩:=hk hne
  exact ⟨g,0,e2,fun i hi=>by rw [Nat.zero_add];exact hc i hi⟩
theorem ParIn.own {w:World} {B:Nat} {u:Value} {l:List Int} (h:w.ownsRow B 3 1 u l.length (intV l)):ParIn (fun b=>B≤b∧b<w.heap.size) w u l:=by
  have hlt:=h.lt
  rcases h.2 with ⟨rfl,hn⟩ | ⟨g,cap,cur,rfl,_,_,h1,h2,_⟩
  · have:l=[]:=List.length_eq_zero_iff.1 hn
    subst this
    exact ⟨none,0,rfl,by simp,fun h=>absurd rfl h⟩
  · refine ⟨some ⟨g,0,none⟩,cap,rfl,by unfold maxLen at h2;omega,fun _=>⟨g,rfl,hlt g rfl,fun i hi=>?_⟩⟩
    have:=h.cellAt i (by omega)
    rw [this]
    unfold intV
    rw [List.getElem?_map,List.getElem?_eq_getElem hi]
    rfl
theorem vars_in {w:World} {B:Nat} {u:Value} {l:List VarD} (h:w.ownsRow B 76 4 u l.length (varCells l)) (hl:l.length≤4611686018427387903):VarsIn w u l:=by
  rcases h.2 with ⟨rfl,hn⟩ | ⟨g,cap,cur,rfl,_,_,h1,h2,_⟩
  · have:l=[]:=List.length_eq_zero_iff.1 hn
    subst this
    exact ⟨none,0,rfl,by simp,fun h=>absurd rfl h⟩
  · refine ⟨some ⟨g,0,none⟩,cap,rfl,hl,fun _=>⟨g,0,rfl,fun i hi=>?_⟩⟩
    obtain ⟨e0,e1,e2,e3⟩:=varCells_at l i hi
    simp only [Nat.zero_add]
    exact ⟨(h.cellAt _ (by omega)).trans e0,(h.cellAt _ (by omega)).trans e1,(h.cellAt _ (by omega)).trans e2,(h.cellAt _ (by omega)).trans e3⟩
theorem procs_in {w:World} {B:Nat} {u:Value} {l:List (ProcD × Value)} (h:w.ownsRow B 80 6 u l.length (procCells l)) (hl:l.length≤4611686018427387903) (hp:∀ q ∈ l,IntsIn w q.2 q.1.params):ProcsIn w u (l.map (·.1)):=by
  rcases h.2 with ⟨rfl,hn⟩ | ⟨g,cap,cur,rfl,_,_,h1,h2,_⟩
  · have:l=[]:=List.length_eq_zero_iff.1 hn
    subst this
    exact ⟨none,0,rfl,by simp,fun h=>absurd rfl h⟩
  · refine ⟨some ⟨g,0,none⟩,cap,by rw [List.length_map],by rw [List.length_map];exact hl,fun _=>⟨g,0,rfl,fun i hi=>?_⟩⟩
    rw [List.length_map] at hi
    obtain ⟨e0,e1,e2,e3,e4,e5⟩:=procCells_at l i hi
    simp only [Nat.zero_add,List.getElem_map]
    exact ⟨(h.cellAt _ (by omega)).trans e0,(h.cellAt _ (by omega)).trans e1,⟨_,(h.cellAt _ (by omega)).trans e2,hp _ (List.getElem_mem hi)⟩,(h.cellAt _ (by omega)).trans e3,(h.cellAt _ (by omega)).trans e4,(h.cellAt _ (by omega)).trans e5⟩
end Go.Proofs.YtfopddgjdaoidaaGreatDoor.face
namespace Go.Proofs.YtfopddgjdaoidaaGreatDoor.chk
open Go.RowKit Go.Shelf
open syn face
attribute [local go_sem] Oper.semAt_some
set_option linter.unusedVariables false
set_option linter.unusedSimpArgs false
def bk (vs:List VarD) (k:Nat):Nat × VarD:=(vs.length - 1 - k,vs[vs.length - 1 - k]?.getD default)
def upto {α:Type} (f:Nat→α) (k:Nat):List α:=(List.range k).map f
theorem upto_succ {α:Type} (f:Nat→α) (k:Nat):upto f (k+1)=upto f k++[f k]:=by simp [upto,List.range_succ]
theorem upto_length {α:Type} (f:Nat→α) (k:Nat):(upto f k).length=k:=by simp [upto]
def encV (x:Nat × VarD):Array Value:=#[.int .i64 (x.1:Int),varV x.2]
set_option maxRecDepth 100000 in
set_option maxHeartbeats 2000000 in
theorem back1_in (F:Fence) (n:Nat) (hfn:F.fn 241) (hro:F.round=none) (hn:1≤n) (l Bs n₀ b cap:Nat) (vs:List VarD) (hlen:vs.length≤1000) (hb:b<n₀) (hBn:Bs<n₀) (J Jx:List (Nat × VarD)→World→Prop)
    (hY:∀ pre x W,J pre W→pre.length<vs.length→YieldAt F (n - 1) Tryz.prog l (encV x) W fun e W' =>
      (e=.returned (.bool true)∧J (pre++[x]) W'∧Below n₀ W W')∨(e=.returned (.bool false)∧Jx (pre++[x]) W'))
    (W:World) (hBs:W.cell? ⟨Bs,0,none⟩=some (.slice (some ⟨b,0,none⟩) vs.length cap)) (hc:∀ j (hj:j<vs.length),W.cell? ⟨b,j * 4,none⟩=some (.string vs[j].name)∧W.cell? ⟨b,j * 4+1,none⟩=some (.bool vs[j].pub)∧W.cell? ⟨b,j * 4+2,none⟩=some (.int .i64 vs[j].label)∧W.cell? ⟨b,j * 4+3,none⟩=some (.int .i64 vs[j].size)) (h0:J [] W) :
    CallsIn F n Tryz.prog 241 #[.func (.yield l) #[] #[],.pointer (some ⟨Bs,0,none⟩)] W fun e W'=>(∃ v,e=.returned v) ∧
      ((∃ ys,ys=upto (bk vs) vs.length∧J ys W')∨(∃ pre,(∃ k,k≤vs.length∧pre=upto (bk vs) k)∧Jx pre W')):=by
  have c4:Tryz.prog.cellsOf 76=4:=cell4
  refine callsIn_of_wp Tryz.func241 rfl hfn ?_ hro
  simp only [Tryz.ntmps241,List.size_toArray,List.length_cons,List.length_nil,Nat.reduceAdd,Nat.reduceSub,Array.replicate_succ,Array.replicate_zero,List.push_toArray,List.append_toArray,List.nil_append,List.cons_append]
  gi_wp2
  gi_loopw [3] (fun i wr=>∃ k:Nat,k≤vs.length∧i=.int .i64 ((vs.length:Int) - 1 - k)∧J (upto (bk vs) k) wr∧Below n₀ W wr)
    (fun i _=>(intOf i+1).toNat)
  case atStart=>exact ⟨0,Nat.zero_le _,by simp,h0,Below.refl _ _⟩
  case round =>
    obtain ⟨k,hk,rfl,hJs,hnx⟩:=hrel
    have hbs:=(hnx.cell (p:=⟨Bs,0,none⟩) hBn).trans hBs
    by_cases hlt:k<vs.length
    · obtain ⟨j,hj⟩:∃ j:Nat,j=vs.length - 1 - k:=⟨_,rfl⟩
      have hjl:j<vs.length:=by omega
      have hji:(vs.length:Int) - 1 - k=(j:Int):=by omega
      obtain ⟨e0,e1,e2,e3⟩:=hc j hjl
      have k0:=(hnx.cell (p:=⟨b,j * 4,none⟩) hb).trans e0
      have k1:=(hnx.cell (p:=⟨b,j * 4+1,none⟩) hb).trans e1
      have k2:=(hnx.cell (p:=⟨b,j * 4+2,none⟩) hb).trans e2
      have k3:=(hnx.cell (p:=⟨b,j * 4+3,none⟩) hb).trans e3
      have hbk:bk vs k=(j,vs[j]):=by
        unfold bk
        rw [← hj,List.getElem?_eq_getElem hjl]
        rfl
      obtain ⟨fn,tmps,assign,body,hy,hR⟩:=hY _ (bk vs k) wr hJs (by rw [upto_length];exact hlt)
      rw [hbk] at hy
      unfold encV varV at hy
      dsimp only at hy
      have HU:Hid (upto (bk vs) (k+1)=upto (bk vs) k++[bk vs k]):=upto_succ _ _
      rw [hji]
      have HJ:Hid ((vs.length:Int) - 1 - k=(j:Int)):=hji
      clear hc e0 e1 e2 e3 hbk hj hji
      generalize vs[j]=v at *
      gi_wp2
      refine hR.mono ?_
      rintro e W3 (⟨rfl,hJ3,hk3⟩ | ⟨rfl,hJx3⟩)
      · gi_wp2
        go_roundw
        case rel=>exact ⟨k+1,by omega,by have:=HJ.out;go_num,by rw [HU.out];exact hJ3,hnx.trans hk3⟩
        case measure=>simp [intOf]
      · gi_wp2
        refine bodyPost_ret (results_none rfl _ _ _) rfl ?_
        exact ⟨⟨_,rfl⟩,.inr ⟨_,⟨k+1,by omega,HU.out.symm⟩,hJx3⟩⟩
    · obtain rfl:k=vs.length:=by omega
      gi_wp2
      go_end0
      exact ⟨⟨_,rfl⟩,.inl ⟨_,rfl,hJs⟩⟩
end Go.Proofs.YtfopddgjdaoidaaGreatDoor.chk
