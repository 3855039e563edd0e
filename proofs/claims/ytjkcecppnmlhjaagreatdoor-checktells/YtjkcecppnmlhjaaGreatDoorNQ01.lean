/- A fault that chapter 5 finds has a code. No Go in sight. -/
import Derived.Test.YtjkcecppnmlhjaaGreatDoorNQ00
open Option renaming none → F, some → Z
open Bool renaming false → X, true → H
set_option linter.unusedVariables false
set_option linter.unusedSimpArgs false
namespace Go.Proofs.YtjkcecppnmlhjaaGreatDoor
theorem oz01y5 {p:Prop} (a:p:=by
 simp only[jy]at b;subst b;exact f):p:=a
namespace chk
open syn face
inductive Res (α:Type) where
 | bad (c a:Int)
 | ok (x:α)
def jn (a b:Int):Int:=if a≠0\/b≠0 then 1 else 0
structure Env where
 own:FaceD
 faces:List FaceD
structure Loc where
 name:ByteArray
 label:Int
 deep:Int
def zR (x:ByteArray):ByteArray:=match gJ x.data.toList with
 | (a,Z _)=>⟨a.toArray⟩
 | (_,F)=>empty
def yJ (x:ByteArray):ByteArray:=match gJ x.data.toList with
 | (_,Z b)=>⟨b.toArray⟩
 | (_,F)=>x
def dG (E:Env) (x:ByteArray):Option FaceD:=if(zR x).size=0 then Z E.own else E.faces.find? fun f=>eqS f.module (zR x)
def gW (l:List VarD) (x:ByteArray):Option VarD:=l.find? fun v=>eqS v.name x
def zbu (l:List ProcD) (x:ByteArray):Option ProcD:=l.find? fun p=>eqS p.name x
def zP (E:Env) (L:List Loc) (x:ByteArray):Option (Int × Int) :=
 match L.reverse.find? (fun l=>eqS l.name x)with
 | some l=>Z (l.label,0)
 | none=>match dG E x with
  | none=>F
  | some f=>(gW f.vars (yJ x)).map fun v=>(v.label,v.size)
def procF (E:Env) (x:ByteArray):Option ProcD:=match dG E x with
 | none=>F
 | some f=>zbu f.procs (yJ x)
def uV:List Int->List Int->Bool
 | [],_=>H
 | _,[]=>H
 | p :: r,l :: s=>(p==1||l==0)&&uV r s
def joinL:List Int->Int->Int
 | [],l=>l
 | x :: r,l=>joinL r (jn l x)
def zS (E:Env) (L:List Loc) (ctx:Int) (alone:Bool) (k:Int) (x:ByteArray) (b:List Int) (a:Int):Res Int :=
 if k=16 then match zP E L x with
  | none=>.bad 4 a
  | some v=>if v.2=0 then .ok v.1 else .bad 3 a
 else if k=17 then match zP E L x with
  | none=>.bad 4 a
  | some v=>if 0<v.2 then .ok (jn (joinL b 0) v.1)else .bad 3 a
 else if k=18 then match procF E x with
  | none=>.bad 4 a
  | some p=>if p.params.length≠b.length then .bad 6 a else if p.gives=X/\alone=X then .bad 3 a else if uV p.params b=X then .bad 7 a else if p.writes≠1/\ctx≠0 then .bad 7 a else .ok p.given
 else .ok (joinL b 0)
section
variable (E:Env) (L:List Loc) (ctx:Int)
mutual
def exF (alone:Bool):Tree->Int->Res (Int × Int)
 | .node k x _ ks,a=>match exL ks (a+1)with
  | .bad c b=>.bad c b
  | .ok q=>match zS E L ctx alone k x q.1 a with
   | .bad c b=>.bad c b
   | .ok l=>.ok (l,q.2)
def exL:List Tree->Int->Res (List Int × Int)
 | [],a=>.ok ([],a)
 | t :: r,a=>match exF X t a with
  | .bad c b=>.bad c b
  | .ok q=>match exL r q.2 with
   | .bad c b=>.bad c b
   | .ok s=>.ok (q.1 :: s.1,s.2)
end
end
def plF (E:Env) (L:List Loc) (ctx:Int):Tree->Int->Res (Int × Int × Int)
 | .node k x m ks,a=>match exL E L ctx ks (a+1)with
  | .bad c b=>.bad c b
  | .ok q=>match zS E L ctx X k x q.1 a with
   | .bad c b=>.bad c b
   | .ok _=>.ok (((zP E L x).map (·.1)).getD 0,joinL q.1 0,q.2)
def hi (a b c:Int):Bool:=a==1||b==1||c==1
structure Pr where
 gives:Bool
 given:Int
section
variable (E:Env) (p:Pr)
def xC (L:List Loc) (ctx d:Int) (last:Bool) (k:Int) (x:ByteArray) (m:Int) (ks:List Tree) (a:Int):Res (List Loc × Int) :=
 if k=7 then match exL E L ctx ks (a+1)with
  | .bad c b=>.bad c b
  | .ok q=>if L.any (fun l=>l.deep==d&&eqS l.name x)then .bad 5 a else if 20<=L.length then .bad 1 a else if m≠1/\hi (joinL q.1 0) ctx 0=H then .bad 7 a else .ok (L++[⟨x,m,d⟩],q.2)
 else if k=8 then match ks with
  | [t,e]=>match plF E L ctx t (a+1)with
   | .bad c b=>.bad c b
   | .ok q=>match exF E L ctx X e q.2.2 with
    | .bad c b=>.bad c b
    | .ok s=>if q.1≠1/\hi s.1 q.2.1 ctx=H then .bad 7 a else .ok (L,s.2)
  | _=>.ok (L,a)
 else if k=9 then match ks with
  | [t]=>match exF E L ctx H t (a+1)with
   | .bad c b=>.bad c b
   | .ok q=>.ok (L,q.2)
  | _=>.ok (L,a)
 else if k=12 then match exL E L ctx ks (a+1)with
  | .bad c b=>.bad c b
  | .ok q=>if m≠1/\hi (joinL q.1 0) ctx 0=H then .bad 7 a else .ok (L,q.2)
 else if k=13 then match ks with
  | [t]=>match plF E L ctx t (a+1)with
   | .bad c b=>.bad c b
   | .ok q=>if m≠1/\ctx≠0 then .bad 7 a else if q.1≠1/\hi m q.2.1 ctx=H then .bad 7 a else .ok (L,q.2.2)
  | _=>.ok (L,a)
 else match exL E L ctx ks (a+1)with
  | .bad c b=>.bad c b
  | .ok q=>if(last&&p.gives)=X then .bad 2 a else if p.given≠1/\joinL q.1 0≠0 then .bad 7 a else .ok (L,q.2)
mutual
def stF (ctx d:Int) (last:Bool):Tree->List Loc->Int->Res (List Loc × Int)
 | .node k x m ks,L,a=>if k=10\/k=11 then match ks with
   | []=>.ok (L,a)
   | e :: r=>match exF E L ctx X e (a+1)with
    | .bad c b=>.bad c b
    | .ok q=>zX (jn ctx q.1) (d+1) r L q.2
  else xC E p L ctx d last k x m ks a
def zX (ctx d:Int):List Tree->List Loc->Int->Res (List Loc × Int)
 | [],L,a=>.ok (L,a)
 | t :: r,L,a=>match blF ctx d t L a with
  | .bad c b=>.bad c b
  | .ok q=>zX ctx d r q.1 q.2
def blF (ctx d:Int):Tree->List Loc->Int->Res (List Loc × Int)
 | .node _ _ _ ks,L,a=>match qP ctx d ks L (a+1)with
  | .bad c b=>.bad c b
  | .ok q=>.ok (q.1.take L.length,q.2)
def qP (ctx d:Int):List Tree->List Loc->Int->Res (List Loc × Int)
 | [],L,a=>.ok (L,a)
 | t :: r,L,a=>match stF ctx d (decide (d=1)&&r.isEmpty) t L a with
  | .bad c b=>.bad c b
  | .ok q=>qP ctx d r q.1 q.2
end
end
def prF (E:Env) (q:ProcD) (ps:List (ByteArray × Bool)) (b:Tree) (e:Bool) (a:Int):Res Int :=
 match blF E ⟨q.gives,q.given⟩ q.writes 1 b (ps.map fun p=>⟨p.1,bI p.2,1⟩) (a+1+ps.length)with
 | .bad c d=>.bad c d
 | .ok s=>if q.gives=H/\e=X then .bad 2 a else .ok s.2
def yF:Tree->Bool
 | .node _ _ _ ks=>match ks.getLast? with
  | some (.node k _ _ _)=>k==14
  | none=>X
def moF (own:FaceD) (e:List FaceD):List Kid->List FaceD->Int->Option (Int × Int)
 | [],_,_=>F
 | .imp x :: r,fs,a=>match e.find? (fun f=>eqS f.module x)with
  | none=>Z (4,a)
  | some f=>moF own e r (fs++[f]) (a+1)
 | .var x p l n :: r,fs,a=>moF own e r fs (a+1+(Kid.var x p l n).kids.length)
 | .proc x p l g ps b :: r,fs,a=>match prF ⟨own,fs⟩ (kO x p l g ps) ps b (yF b) a with
  | .bad c d=>Z (c,d)
  | .ok d=>moF own e r fs d
variable {e:ByteArray}
theorem zep:∀(a:List UInt8),(∀c∈a,c≠46)->gJ a=(a,F)
 | [],_=>rfl
 | c :: r,h=>by
  unfold gJ;rw[ju (h c (jJ)),zep r (fun b d=>h b (jF _ d))]
theorem zeq:∀(c a:List UInt8),(∀b∈c,b≠46)->gJ (c++46 :: a)=(c,Z a)
 | [],a,_=>by show gJ (46 :: a)=_;unfold gJ;rw[jv rfl]
 | b :: r,a,h=>by
  show gJ (b :: (r++46 :: a))=_;unfold gJ;rw[ju (h b (jJ)),zeq r a (fun d e=>h d (jF _ e))]
theorem zd8 (b:kE e=H):∀a∈e.data.toList,a≠46:=by
 intro a f d;unfold kE at b;simp only[jj]at b;have c:=List.all_eq_true.1 b.1.2 a f;rw[d]at c;exact absurd c oC
theorem zek (g:kT e):((∀c∈e.data.toList,c≠46)/\zR e=empty/\yJ e=e) \/ (∃a b:List UInt8,e.data.toList=a++46 :: b/\0<a.length/\(∀c∈a,c≠46)/\(∀c∈b,c≠46)/\zR e=⟨a.toArray⟩/\yJ e=⟨b.toArray⟩):=by
 rcases g with g | ⟨a,b,d,j,rfl⟩
 ·have h:=zd8 g;refine .inl ⟨h,?_,?_⟩;·unfold zR;rw[zep _ h]
  ·unfold yJ;rw[zep _ h]
 ·have f:(a++⟨#[46]⟩++b).data.toList=a.data.toList++46 :: b.data.toList:=by
   simp[ByteArray.data_append]
  have i:=zd8 d;refine .inr ⟨a.data.toList,b.data.toList,f,?_,i,zd8 j,?_,?_⟩;·unfold kE at d;simp only[jj,jl]at d;have:=d.1.1.1.1;rw[lexs.len_L];omega
  ·unfold zR;rw[f,zeq _ _ i]
  ·unfold yJ;rw[f,zeq _ _ i]
theorem ExT.kids {c:Int} {j:Int} {h:List Tree} (a:ExT (.node c e j h)):(∀d∈h,ExT d)/\((c=16\/c=17\/c=18)->kT e)/\(c=15\/c=16\/c=17\/c=18\/c=19\/c=20\/c=21):=by
 cases a with
 | num k=>exact⟨fun d b=>(by cases b),fun a=>oA,oA⟩
 | nam a=>exact⟨fun d b=>(by cases b),fun _=>a,oA⟩
 | item a g=>exact⟨fun d b=>(by simp only[jy]at b;subst b;exact g),fun _=>a,oA⟩
 | call a g=>exact⟨g,fun _=>a,oA⟩
 | op f i=>exact⟨fun d b=>(by
   simp only[List.mem_cons,List.not_mem_nil,or_false]at b;rcases b with rfl | rfl
   ·exact f
   ·exact i),fun a=>by omega,oA⟩
 | neg f=>exact⟨fun d b=>oz01y5,fun a=>oA,oA⟩
 | nott f=>exact⟨fun d b=>oz01y5,fun a=>oA,oA⟩
section
variable (E:Env) (L:List Loc) (ctx:Int)
mutual
theorem uI:∀(g:Tree) (b:Bool) (a:Int) (d:Int × Int),exF E L ctx b g a=.ok d->d.2=a+kC g
 | .node k x m ks,b,a,d,h=>by
  unfold exF at h
  cases c:exL E L ctx ks (a+1)with
  | bad j i=>rw[c]at h;simp at h
  | ok e =>
   rw[c]at h;dsimp only at h;have:=cG ks (a+1) e c
   cases f:zS E L ctx b k x e.1 a with
   | bad j i=>rw[f]at h;simp at h
   | ok l =>
    rw[f]at h;simp only[Res.ok.injEq]at h;rw[<- h];show e.2=_;rw[show kC (.node k x m ks)=kA ks+1 by unfold kC;rfl];omega
theorem cG:∀(g:List Tree) (a:Int) (b:List Int × Int),exL E L ctx g a=.ok b->b.2=a+kA g/\b.1.length=g.length
 | [],a,b,h=>by
  unfold exL at h;simp only[Res.ok.injEq]at h;rw[<- h]
  simp[kA]
 | d :: r,a,b,h=>by
  unfold exL at h
  cases e:exF E L ctx X d a with
  | bad k j=>rw[e]at h;simp at h
  | ok c =>
   rw[e]at h;dsimp only at h
   cases f:exL E L ctx r c.2 with
   | bad k j=>rw[f]at h;simp at h
   | ok i =>
    rw[f]at h;simp only[Res.ok.injEq]at h;have m:=uI d X a c e;have l:=cG r c.2 i f;rw[<- h];show i.2=_/\(c.1 :: i.1).length=_;rw[show kA (d :: r)=kC d+kA r by rfl];refine⟨oA,by simp[l.2]⟩
end
def yS (a:List Int):Res (List Int × Int)->Res (List Int × Int)
 | .bad c b=>.bad c b
 | .ok q=>.ok (a++q.1,q.2)
theorem zch (b:List Tree) (a:Nat) (h:a<b.length) (g:List Int) (f:Int):yS g (exL E L ctx (b.drop a) f)=match exF E L ctx X b[a] f with
  | .bad d c=>.bad d c
  | .ok e=>yS (g++[e.1]) (exL E L ctx (b.drop (a+1)) e.2):=by
 rw[List.drop_eq_getElem_cons h];generalize b.drop (a+1)=rest
 rw[show exL E L ctx (b[a] :: rest) f=(match exF E L ctx X b[a] f with
  | .bad d c=>.bad d c
  | .ok e=>match exL E L ctx rest e.2 with
   | .bad d c=>.bad d c
   | .ok s=>.ok (e.1 :: s.1,s.2))from by simp only[exL]<;>rfl]
 cases exF E L ctx X b[a] f with
 | bad d c=>rfl
 | ok e =>
  dsimp only
  cases exL E L ctx rest e.2 with
  | bad d c=>rfl
  | ok i=>simp[yS]
end
theorem zei:∀(c:List Int) (b a:Int),joinL (c++[b]) a=jn (joinL c a) b
 | [],b,a=>rfl
 | x :: r,b,a=>zei r b (jn a x)
end chk
namespace chk
open Go.RowKit
open syn face
theorem vQ:∀a:List Tree,(a.length:Int)<=kA a
 | []=>by simp[kA]
 | t :: r=>by
  have b:=qU t;have c:=vQ r;show((r.length+1:Nat):Int)<=kC t+kA r;omega
theorem zc7 {E:Env} {L:List Loc} {ctx:Int} {e:Bool} {g:Int} {i:ByteArray} {h:Int} {d:List Tree} {a c b:Int} (f:exL E L ctx d (a+1)=.bad c b):exF E L ctx e (.node g i h d) a=.bad c b:=by
 simp only[exF,f]
theorem zbp {E:Env} {L:List Loc} {ctx:Int} {alone:Bool} {k:Int} {x:ByteArray} {m:Int} {e:List Tree} {a d:Int} {f:List Int} (g:exL E L ctx e (a+1)=.ok (f,d)):exF E L ctx alone (.node k x m e) a=match zS E L ctx alone k x f a with
  | .bad c b=>.bad c b
  | .ok l=>.ok (l,d):=by
 simp only[exF,g]<;>rfl
theorem zqm (E:Env) (L:List Loc) (ctx:Int) (i:Bool) (j:ByteArray) (d:List Int) (a k:Int):(match zS E L ctx i 18 j d a with
  | .bad c b=>Res.bad c b
  | .ok l=>.ok (l,k))=match procF E j with
  | none=>.bad 4 a
  | some p=>if p.params.length≠d.length then .bad 6 a else if p.gives=X/\i=X then .bad 3 a else if uV p.params d=X then .bad 7 a else if p.writes≠1/\ctx≠0 then .bad 7 a else .ok (p.given,k):=by
 unfold zS;rw[ju oC,ju oC,jv rfl]
 cases procF E j with
 | none=>rfl
 | some p =>
  dsimp only;by_cases e:p.params.length≠d.length;·rw[jv e,jv e]
  ·rw[ju e,ju e];by_cases f:p.gives=X/\i=X;·rw[jv f,jv f]
   ·rw[ju f,ju f];by_cases g:uV p.params d=X;·rw[jv g,jv g]
    ·rw[ju g,ju g];by_cases h:p.writes≠1/\ctx≠0;·rw[jv h,jv h]
     ·rw[ju h,ju h]
end chk
namespace face
open syn
def uB:List ByteArray->List (ByteArray × Bool)->Int->Option (Int × Int)
 | _,[],_=>F
 | seen,q :: r,a=>if kH seen q.1 then Z (5,a)else if 5<=seen.length then Z (1,a)else uB (seen++[q.1]) r (a+1)
def zW:List Kid->List ByteArray->List ByteArray->Int->Option (Int × Int)
 | [],_,_,_=>F
 | .imp x :: r,ms,ns,a=>if kH ms x then Z (5,a)else if 6<=ms.length then Z (1,a)else zW r (ms++[x]) ns (a+1)
 | .var x p l n :: r,ms,ns,a=>if kH ns x then Z (5,a)else if 20<=ns.length then Z (1,a)else
  match vW n a with
  | some e=>Z e
  | none=>zW r ms (ns++[x]) (a+kC (Kid.var x p l n).tree)
 | .proc x p l g ps b :: r,ms,ns,a=>if kH ns x then Z (5,a)else if 20<=ns.length then Z (1,a)else if 5<ps.length then Z (1,a)else
  match uB [] ps (a+1)with
  | some e=>Z e
  | none=>zW r ms (ns++[x]) (a+kC (Kid.proc x p l g ps b).tree)
theorem zov:∀(ps:List (ByteArray × Bool)) (a:List ByteArray) (b:Int),a.length+ps.length<=5->uB a ps b=xK a ps b
 | [],_,_,_=>rfl
 | q :: r,a,b,h=>by
  unfold uB xK;simp only[jd]at h;split;·rfl
  ·rw[ju oA];exact zov r _ _ oE
theorem zvl (a b:ByteArray):eqS a b=eqS b a:=by unfold eqS;rw[Bool.eq_iff_iff];simp only[beq_iff_eq];exact eq_comm
theorem ztf (b:ByteArray) (is:List ByteArray) (a:ByteArray):kH (b :: is) a=(kH is a||eqS a b):=by
 show(eqS b a||kH is a)=_;rw[zvl b a,Bool.or_comm]
theorem zcr (d:ByteArray):∀(e:List Kid) (is c:List ByteArray) (a:Int),zW e (d :: is) c a=zC d e is c a
 | [],_,_,_=>rfl
 | .imp x :: r,is,c,a=>by
  unfold zW zC;rw[ztf];split;·rfl
  ·simp only[jd];by_cases f:5<=is.length;·rw[jv oA,jv f]
   ·rw[ju oA,ju f]
    exact zcr d r (is++[x]) c (a+1)
 | .var x p l n :: r,is,c,a=>by
  unfold zW zC;split;·rfl
  ·split;·rfl
   ·cases vW n a with
    | some h=>rfl
    | none=>exact zcr d r is _ _
 | .proc x p l g ps b :: r,is,c,a=>by
  unfold zW zC;split;·rfl
  ·split;·rfl
   ·split;·rfl
    ·rename_i i;rw[zov ps [] (a+1) oE]
     cases xK [] ps (a+1)with
     | some h=>rfl
     | none=>exact zcr d r is _ _
end face
namespace face
open lexs syn
structure Fine (t:Tok):Prop where
 kinds:t.kind=1\/t.kind=2\/t.kind=3
 ne:t.text≠[]
 word:t.kind=1->t.text.length<=16/\xX (t.text.headD 0)=H/\t.text.all kN=H
 num:t.kind=2->numE t.text=0
 sign:t.kind=3->xX (t.text.headD 0)=X
variable {a:List UInt8} {b c:ByteArray}
theorem take_run (p:UInt8->Bool) (a:List UInt8):a.take (run p a)=a.takeWhile p:=by
 unfold run
 induction a with
 | nil=>rfl
 | cons b c ih =>
  rw[List.takeWhile_cons];cases p b;·rfl
  ·simp[ih]
theorem step_fine {c:UInt8} {i:Int} {g o:Nat} (b:kU (c :: a)=.tok i g):Fine ⟨i,(c :: a).take g,o⟩:=by
 have q:=(za3 b).1;obtain⟨e,rfl⟩:∃e,g=e+1:=⟨g - 1,oA⟩
 have m:((c :: a).take (e+1)).headD 0=c:=oB;have h:(c :: a).take (e+1)≠[]:=oB;rw[kU,List.headD_cons,gG]at b;by_cases j:(c==32||c==10)=H;·rw[jv j]at b;simp at b
 rw[ju j]at b;by_cases k:(c==35)=H;·rw[jv k]at b;simp at b
 rw[ju k]at b;cases f:xX c
 ·rw[f]at b;simp only[jr,if_false]at b;cases l:kX c
  ·rw[l]at b;simp only[jr,if_false]at b;split at b;·simp at b
   ·injection b with hk hm;subst hk;refine⟨.inr (.inr rfl),h,fun d=>by simp at d,fun d=>by simp at d,fun _=>?_⟩;show xX (((c :: a).take (e+1)).headD 0)=X;rw[m];exact f
  ·rw[l]at b;simp only[if_true]at b;split at b;·rename_i n;injection b with hk hm;subst hk;refine⟨.inr (.inl rfl),h,fun d=>by simp at d,fun _=>?_,fun d=>by simp at d⟩;rw[<- hm];simpa using n
   ·simp at b
 ·rw[f]at b;simp only[if_true]at b;split at b;·simp at b
  ·rename_i p;injection b with hk hm;subst hk;refine⟨.inl rfl,h,fun _=>⟨?_,?_,?_⟩,fun d=>by simp at d,fun d=>by simp at d⟩;·show((c :: a).take (e+1)).length<=16;rw[List.length_take];omega
   ·show xX (((c :: a).take (e+1)).headD 0)=H;rw[m];exact f
   ·show((c :: a).take (e+1)).all kN=H;rw[<- hm,take_run];exact List.all_takeWhile
theorem scanL_fine:∀(c:Nat) (g:List UInt8) (f:Nat) (b toks:List Tok),qH c g f b=.ok toks->(∀d∈b,Fine d)->∀d∈toks,Fine d
 | 0,g,f,b,toks,h,ha=>by
  unfold qH at h;injection h with h;subst h
  exact ha
 | c+1,[],f,b,toks,h,ha=>by
  unfold qH at h;injection h with h;subst h
  exact ha
 | c+1,i :: r,f,b,toks,h,ha=>by
  cases e:kU (i :: r)with
  | skip j=>rw[cT e]at h;exact scanL_fine c _ _ _ _ h ha
  | fault k=>rw[cQ e]at h;simp at h
  | tok l j =>
   rw[dV e]at h;refine scanL_fine c _ _ _ _ h ?_;intro d a;rw[List.mem_append]at a;rcases a with a | a
   ·exact ha d a
   ·simp only[jy]at a;subst a;exact step_fine e
theorem scan_fine {toks:List Tok} (b:scan a=.ok toks):∀c∈toks,Fine c:=by
 unfold scan at b;split at b;·simp at b
 ·exact scanL_fine _ _ _ _ _ b (fun c d=>by simp at d)
def raw (t:Tok):ByteArray:=⟨t.text.toArray⟩
theorem raw_list (a:Tok):(raw a).data.toList=a.text:=rfl
theorem raw_size (a:Tok):(raw a).size=a.text.length:=by rw[<- lexs.len_L,raw_list]
def ownName (t:Tok):Bool:=!(zK.any fun a=>eqS a (raw t))&&t.kind==1
theorem zir (a:b.data.toList=c.data.toList):b=c:=WideShapes.bytes_inj a
theorem zmy :eqS b c=H ↔ b=c:=by
 unfold eqS;rw[beq_iff_eq,ByteArray.toList_eq,ByteArray.toList_eq];exact⟨zir,fun a=>by rw[a]⟩
def zp9 (x:ByteArray):List Tok->Bool
 | [t]=>ownName t&&eqS (raw t) x
 | _=>X
def zai (x:ByteArray):Bool:=zp9 x (scan x.data.toList).toks
theorem zrq {a:Tok} (d:Fine a) (b:ownName a=H):kE (raw a)=H:=by
 unfold ownName at b;simp only[jj,beq_iff_eq]at b;obtain⟨f,g,h⟩:=d.word b.2
 have j:1<=(raw a).size:=by
  rw[raw_size];have:=d.ne
  cases c:a.text with
  | nil=>exact absurd c this
  | cons k l=>simp
 unfold kE;rw[raw_list];have c:qB ((a.text.headD 0).toNat:Int)=H:=g;have i:a.text.all (fun e=>zF (e.toNat:Int))=H:=h;rw[c,i,decide_eq_true ⟨j,by rw[raw_size];exact f⟩,b.1];rfl
theorem zyv (b:a.all kN=H):run kN a=a.length:=by
 apply zp5;·intro d c _;exact List.all_eq_true.1 b _ (jH c)
 ·exact .inl rfl
theorem zuw (e:kE b=H):scan b.data.toList=.ok [⟨1,b.data.toList,0⟩]:=by
 unfold kE at e;simp only[jj,jl]at e;obtain⟨⟨⟨⟨o,p⟩,i⟩,h⟩,_⟩:=e;have g:b.data.toList.length=b.size:=lexs.len_L b;unfold scan;rw[ju oA]
 cases k:b.data.toList with
 | nil=>rw[k]at g;simp at g;omega
 | cons a d =>
  rw[k]at i h g;have f:xX a=H:=i;have n:run kN (a :: d)=(a :: d).length:=zyv h
  have l:(a==32||a==10)=X:=by
   cases c:(a==32||a==10)with
   | false=>rfl
   | true =>
    simp only[Bool.or_eq_true,beq_iff_eq]at c;rcases c with rfl | rfl<;>simp[xX,qB]at f
  have m:(a==35)=X:=by
   cases c:(a==35)with
   | false=>rfl
   | true =>
    simp only[beq_iff_eq]at c;subst c;simp[xX,qB]at f
  have j:kU (a :: d)=.tok 1 (a :: d).length:=by
   rw[kU,List.headD_cons,gG,l,m,f,n];simp only[jr,if_false,if_true];rw[ju oA]
  rw[jd]at j |-;rw[dV j];rw[List.drop_eq_nil_of_le oB,zja,jG oB];rfl
theorem zw4 (a:ByteArray):zai a=kE a:=by
 unfold zai
 cases b:kE a with
 | true =>
  rw[zuw b];show(ownName _&&eqS _ a)=H;have d:raw ⟨1,a.data.toList,0⟩=a:=zir rfl;rw[d];unfold ownName;rw[d];unfold kE at b;simp only[jj]at b;rw[b.2,zmy.2 rfl]
  rfl
 | false =>
  cases c:scan a.data.toList with
  | err i p=>rfl
  | ok f =>
   show zp9 a f=X
   match f,c with
   | [],_=>rfl
   | [t],c =>
    show(ownName t&&eqS (raw t) a)=X
    cases h:ownName t with
    | false=>rfl
    | true =>
     cases g:eqS (raw t) a with
     | false=>rfl
     | true =>
      have e:=zrq (scan_fine c t oB) h;rw[zmy.1 g,b]at e
      cases e
   | _ :: _ :: _,_=>rfl
end face
namespace chk
open syn face
def qO:List FaceD->List FaceD->Bool
 | _,[]=>X
 | seen,f :: r=>(seen.any (fun q=>eqS q.module f.module)||!vB f)||qO (seen++[f]) r
def nz (q:Int × Int):Int × Int:=if q.1=0 then(0,0)else q
def ckF (x:ByteArray) (a:List FaceD) (m:ByteArray) (K:List Kid):Int × Int :=
 if qO [] a=H then(2,0)else if(parse x).code≠0 then((parse x).code,(parse x).place)else
  match zC m K [] [] 1 with
  | some q=>q
  | none=>nz ((moF (qS H m K) a K [] 1).getD (0,0))
end chk
namespace pr
open syn face chk
theorem zfw {α:Type} {a c b d:Int} (e:(chk.Res.bad a c:chk.Res α)=.bad b d):a=b:=by injection e
theorem zkd {E:Env} {L:List chk.Loc} {ctx:Int} {d:Bool} {f:Int} {h:ByteArray} {g:List Int} {c b e:Int} (a:zS E L ctx d f h g c=.bad b e):b≠0:=by
 unfold zS at a
 repeat' split at a
 all_goals first | (have:=zfw a;omega) | cases a
section
variable (E:Env) (L:List chk.Loc) (ctx:Int)
mutual
theorem zfy:∀(f:Tree) (d:Bool) (c a e:Int),exF E L ctx d f c=.bad a e->a≠0
 | .node k x m ks,d,c,a,e,h=>by
  unfold exF at h;split at h;·rename_i b;cases h;exact zco ks _ _ _ b
  ·split at h;·rename_i b;cases h;exact zkd b
   ·cases h
theorem zco:∀(e:List Tree) (b a c:Int),exL E L ctx e b=.bad a c->a≠0
 | [],b,a,c,h=>by unfold exL at h;cases h
 | t :: r,b,a,c,h=>by
  unfold exL at h;split at h;·rename_i d;cases h;exact zfy t _ _ _ _ d
  ·split at h;·rename_i d;cases h;exact zco r _ _ _ d
   ·cases h
end
theorem zyh (d:Tree) (e c f:Int) (a:plF E L ctx d e=.bad c f):c≠0:=by
 obtain⟨h,j,i,g⟩:=d;unfold plF at a;dsimp only at a;split at a;·rename_i b;cases a;exact zco E L ctx g _ _ _ b
 ·split at a;·rename_i b;cases a;exact zkd b
  ·cases a
end
theorem zwx {E:Env} {p:Pr} {L:List chk.Loc} {ctx f:Int} {last:Bool} {g:Int} {j:ByteArray} {i:Int} {h:List Tree} {d c e:Int} (a:xC E p L ctx f last g j i h d=.bad c e):c≠0:=by
 unfold xC at a
 repeat' split at a
 all_goals first
  | (cases a;done)
  | (have:=zfw a;omega)
  | (rename_i b;cases a;first | exact zco _ _ _ _ _ _ _ b | exact zfy _ _ _ _ _ _ _ _ b | exact zyh _ _ _ _ _ _ _ b)
section
variable (E:Env) (p:Pr)
mutual
theorem zy2:∀(g:Tree) (ctx d:Int) (last:Bool) (L:List chk.Loc) (b a c:Int),stF E p ctx d last g L b=.bad a c->a≠0
 | .node k x m ks,ctx,d,last,L,b,a,c,h=>by
  unfold stF at h;split at h
  ·cases ks with
   | nil=>cases h
   | cons i f =>
    dsimp only at h;split at h;·rename_i e;cases h;exact zfy _ _ _ _ _ _ _ _ e
    ·exact zjk f _ _ _ _ _ _ h
  ·exact zwx h
theorem zjk:∀(f:List Tree) (ctx d:Int) (L:List chk.Loc) (b a c:Int),zX E p ctx d f L b=.bad a c->a≠0
 | [],ctx,d,L,b,a,c,h=>by unfold zX at h;cases h
 | t :: r,ctx,d,L,b,a,c,h=>by
  unfold zX at h;split at h;·rename_i e;cases h;exact zmt t _ _ _ _ _ _ e
  ·exact zjk r _ _ _ _ _ _ h
theorem zmt:∀(f:Tree) (ctx d:Int) (L:List chk.Loc) (b a c:Int),blF E p ctx d f L b=.bad a c->a≠0
 | .node k x m ks,ctx,d,L,b,a,c,h=>by
  unfold blF at h;split at h;·rename_i e;cases h;exact zmo ks _ _ _ _ _ _ e
  ·cases h
theorem zmo:∀(f:List Tree) (ctx d:Int) (L:List chk.Loc) (b a c:Int),qP E p ctx d f L b=.bad a c->a≠0
 | [],ctx,d,L,b,a,c,h=>by unfold qP at h;cases h
 | t :: r,ctx,d,L,b,a,c,h=>by
  unfold qP at h;split at h;·rename_i e;cases h;exact zy2 t _ _ _ _ _ _ _ e
  ·exact zmo r _ _ _ _ _ _ h
end
end
theorem zyj {E:Env} {h:ProcD} {ps:List (ByteArray × Bool)} {d:Tree} {f:Bool} {c b e:Int} (a:prF E h ps d f c=.bad b e):b≠0:=by
 unfold prF at a;split at a;·rename_i g;cases a;exact zmt _ _ _ _ _ _ _ _ _ g
 ·split at a;·have:=zfw a;omega
  ·cases a
theorem mo_code (own:FaceD) (e:List FaceD):∀(f:List Kid) (d:List FaceD) (c:Int) (a:Int × Int),moF own e f d c=Z a->a.1≠0
 | [],d,c,a,h=>by unfold moF at h;cases h
 | .imp x :: r,d,c,a,h=>by
  unfold moF at h;split at h;·cases h;show(4:Int)≠0;decide
  ·exact mo_code own e r _ _ _ h
 | .var x p l n :: r,d,c,a,h=>by
  unfold moF at h
  exact mo_code own e r _ _ _ h
 | .proc x p l g ps b :: r,d,c,a,h=>by
  unfold moF at h;split at h;·rename_i i;cases h;exact zyj i
  ·exact mo_code own e r _ _ _ h
end pr
end Go.Proofs.YtjkcecppnmlhjaaGreatDoor
