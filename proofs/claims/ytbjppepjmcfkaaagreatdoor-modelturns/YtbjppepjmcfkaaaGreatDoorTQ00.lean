/- What a run of the model comes to: plain functions. No Go in sight. -/
import Derived.Test.YtbjppepjmcfkaaaGreatDoorTQc
import Derived.RowKit
import Derived.Lib.ParseIntB
import Derived.Lib.Strings
open Go.Value renaming int → U, string → I
open Go.IntKind renaming i64 → O
open Option renaming some → Z
open Bool renaming false → X, true → H
open Go renaming Value → Zv
set_option linter.unusedVariables false
set_option linter.unusedSimpArgs false
namespace Go.Proofs.YtbjppepjmcfkaaaGreatDoor
theorem zcv {p:Prop} (d:p:=by
 exact⟨_,rfl,oO⟩):p:=d
theorem zcu {p:Prop} (b:p:=by
 rw[d];have B:=xR (ts:=ts) (s:=c.2) ⟨#[59]⟩ oD
 exact ze3):p:=b
theorem ze3 {p:Prop} (b:p:=by
 exact⟨_,rfl,oO,.inl oO⟩):p:=b
theorem zia {p:Prop} (a:p:=by
 rw[c,jv rfl]at a;simp only[jh]at a
 rw[<- a]):p:=a
theorem zqy {p:Prop} (a:p:=by
 simp only[jy]at b;subst b;exact f):p:=a
namespace lexs
def qV (c:Int):Bool:=decide (97<=c/\c<=122)||decide (65<=c/\c<=90)
def yJ (c:Int):Bool:=decide (48<=c/\c<=57)
def uZ (c:Int):Bool:=qV c||yJ c||c==95
def vF (c:UInt8):Bool:=qV (c.toNat:Int)
def qU (c:UInt8):Bool:=yJ (c.toNat:Int)
def qD (c:UInt8):Bool:=uZ (c.toNat:Int)
def kF:List UInt8:=[57,50,50,51,51,55,50,48,51,54,56,53,52,55,55,53,56,48,55]
def zC (l:List UInt8):Int :=
 if l.all qU=X then 2
 else if decide (1<l.length)&&l.headD 0==48 then 2
 else if decide (19<l.length)||(l.length==19&&(!Op.bytesLess l kF&&!(l==kF)))then 6
 else 0
def cV:List UInt8:=[123,125,40,41,91,93,59,44,46,61,60,43,45,42,47,37,38,124,33]
def uT (l:List UInt8):Nat :=
 if l.headD 0==61&&(l.drop 1).headD 0==61 then 2 else if cV.contains (l.headD 0)then 1 else 0
def run (p:UInt8->Bool) (l:List UInt8):Nat:=(l.takeWhile p).length
inductive Step where
 | skip (n:Nat)
 | fault (c:Int)
 | tok (k:Int) (n:Nat)
def fW (c:UInt8) (l:List UInt8):Step :=
 if c==32||c==10 then .skip 1
 else if c==35 then .skip (run (fun b=>b != 10) l)
 else if vF c then(if 16<run qD l then .fault 1 else .tok 1 (run qD l))
 else if qU c then(if zC (l.take (run qD l))==0 then .tok 2 (run qD l)else .fault (zC (l.take (run qD l))))
 else if uT l==0 then .fault 2 else .tok 3 (uT l)
def qH (l:List UInt8):Step:=fW (l.headD 0) l
structure Tok where
 kind:Int
 text:List UInt8
 at_:Nat
inductive Res where
 | ok (l:List Tok)
 | err (c:Int) (at_:Nat)
def qT:Nat->List UInt8->Nat->List Tok->Res
 | 0,_,_,acc=>.ok acc
 | _+1,[],_,acc=>.ok acc
 | f+1,b :: r,i,acc =>
  match qH (b :: r)with
  | .skip n=>qT f ((b :: r).drop n) (i+n) acc
  | .fault c=>.err c i
  | .tok k n=>qT f ((b :: r).drop n) (i+n) (acc++[⟨k,(b :: r).take n,i⟩])
def scan (l:List UInt8):Res:=if 3000<l.length then .err 1 0 else qT l.length l 0 []
/-! ### rows of bytes -/
variable {d:UInt8} {e:List UInt8} {g h j:Nat} {m:Int}
theorem zid (p:UInt8->Bool) (a:List UInt8):run p a<=a.length:=(List.takeWhile_sublist p).length_le
theorem zq6 (p:UInt8->Bool) (c:List UInt8) (b:Nat) (f:∀d (a:d<c.length),d<b->p c[d]=H) (e:b=c.length\/∃a:b<c.length,p c[b]=X):run p c=b:=by
 induction c generalizing b with
 | nil =>
  rcases e with a | ⟨a,_⟩
  ·simp[run,a]
  ·simp at a
 | cons g k ih =>
  unfold run at ih |-
  cases b with
  | zero =>
   rcases e with a | ⟨a,hp⟩
   ·simp at a
   ·simp only[jI]at hp
    simp[hp]
  | succ b =>
   have h:p g=H:=f 0 oC oA;rw[List.takeWhile_cons,jv h,jd,ih b];·intro d i j;exact f (d+1) oE oA
   ·rcases e with a | ⟨a,hp⟩
    ·left;simpa using a
    ·right;exact⟨by simpa using a,by simpa using hp⟩
theorem zcs (p:UInt8->Bool) (a:UInt8) (c:List UInt8) (b:p a=H):0<run p (a :: c):=by
 simp[run,b]
theorem zun (a:List UInt8):uT a<=a.length:=by
 unfold uT;rcases a with _ | ⟨b,_ | ⟨c,d⟩⟩
 ·simp[cV]
 ·simp;split<;>simp
 ·split<;>(try split)<;>simp
theorem zf7 (a:vF d=H):qD d=H:=by unfold vF at a;unfold qD uZ;simp[a]
theorem zf4 (a:qU d=H):qD d=H:=by unfold qU at a;unfold qD uZ;simp[a]
theorem zuq (a:qH (d :: e)=.skip g):0<g/\g<=e.length+1:=by
 rw[qH,List.headD_cons,fW]at a;by_cases c:(d==32||d==10)=H;·rw[jv c]at a;injection a with a;omega
 rw[ju c]at a;by_cases b:(d==35)=H
 ·rw[jv b]at a;injection a with a;have h:d=35:=by simpa using b
  have:=zcs (fun d=>d != 10) d e (by rw[h];decide);have f:=zid (fun d=>d != 10) (d :: e);simp only[jd]at f;omega
 rw[ju b]at a;split at a;·split at a<;>simp at a
 ·split at a;·split at a<;>simp at a
  ·split at a<;>simp at a
theorem zdg (a:qH (d :: e)=.tok m g):0<g/\g<=e.length+1:=by
 rw[qH,List.headD_cons,fW]at a;by_cases b:(d==32||d==10)=H;·rw[jv b]at a;simp at a
 rw[ju b]at a;by_cases c:(d==35)=H;·rw[jv c]at a;simp at a
 rw[ju c]at a;have j:=zid qD (d :: e);simp only[jd]at j;split at a
 ·rename_i i;have:=zcs qD d e (zf7 i);split at a;·simp at a
  ·injection a with _ a;omega
 ·split at a
  ·rename_i h;have:=zcs qD d e (zf4 h);split at a;·injection a with _ a;omega
   ·simp at a
  ·split at a;·simp at a
   ·rename_i k;injection a with _ a;have f:=zun (d :: e);simp only[jd]at f;have:uT (d :: e)≠0:=by simpa using k
    omega
/-! ### one round of the scan,at whatever fuel is zqh -/
theorem zky (b:Nat) (c:Nat) (a:List Tok):qT b [] c a=.ok a:=by cases b<;>rfl
theorem zbu {a:List Tok} (b:qH (d :: e)=.skip j):qT (g+1) (d :: e) h a=qT g ((d :: e).drop j) (h+j) a:=by
 rw[qT,b]
theorem zbp {a:List Tok} (b:qH (d :: e)=.fault m):qT (g+1) (d :: e) h a=.err m h:=by
 rw[qT,b]
theorem zao {a:List Tok} (b:qH (d :: e)=.tok m j):qT (g+1) (d :: e) h a=qT g ((d :: e).drop j) (h+j) (a++[⟨m,(d :: e).take j,h⟩]):=by
 rw[qT,b]
def val:List UInt8->Nat
 | []=>0
 | c :: r=>(c.toNat - 48)*10 ^ r.length+val r
theorem zai (a:qU d=H):48<=d.toNat/\d.toNat<=57:=by
 unfold qU yJ at a;have:=of_decide_eq_true a;omega
theorem zig (a:List UInt8) (b:a.all qU=H):val a<10 ^ a.length:=by
 induction a with
 | nil=>simp[val]
 | cons d c ih =>
  rw[List.all_cons,jj]at b;have f:=zai b.1;have:=ih b.2;rw[val,jd,Nat.pow_succ];have e:(d.toNat - 48)*10 ^ c.length<=9*10 ^ c.length:=Nat.mul_le_mul_right _ oA;omega
theorem yb4 (b:List UInt8) (e:b.all qU=H) (a:Nat) (i:a<=18446744073709551615) : Lib.parseUintM (2 ^ 64 - 1) a b=if a*10 ^ b.length+val b<=18446744073709551615 then .ok (a*10 ^ b.length+val b)else .range:=by
 induction b generalizing a with
 | nil=>simp[Lib.parseUintM,val,i]
 | cons d c ih =>
  rw[List.all_cons,jj]at e;have j:=zai e.1;have h:1<=10 ^ c.length:=Nat.pow_pos oA
  have key:a*10 ^ (d :: c).length+val (d :: c)=(a*10+(d.toNat - 48))*10 ^ c.length+val c:=by
   rw[val,jd,Nat.pow_succ,Nat.add_mul,Nat.mul_comm (10 ^ c.length) 10,Nat.mul_assoc,Nat.add_assoc]
  have k:(a*10+(d.toNat - 48))<=(a*10+(d.toNat - 48))*10 ^ c.length:=Nat.le_mul_of_pos_right _ h;rw[key,Lib.parseUintM,jv j];by_cases f:1844674407370955162<=a;·rw[jv f,ju oA]
  ·rw[ju f];by_cases g:2 ^ 64 - 1<a*10+(d.toNat - 48)
   ·rw[jv g,ju oA]
   ·rw[ju g,ih e.2 _ oA]
theorem zkr (b:List UInt8) (c:b.all qU=H) (f:b≠[]):Lib.parseIntB 64 b=if val b<9223372036854775808 then .ok (val b:Int)else .range:=by
 obtain⟨a,d,rfl⟩:=List.exists_cons_of_ne_nil f;have k:=zai (by rw[List.all_cons,jj]at c;exact c.1:qU a=H);have e:=yb4 (a :: d) c 0 oA;rw[Nat.zero_mul,Nat.zero_add]at e;have j:¬a.toNat=45:=oA;have i:¬(a.toNat=43\/a.toNat=45):=oA;unfold Lib.parseIntB;simp only[i,if_false];rw[Lib.parseUintB,ju f,e];by_cases g:val (a :: d)<=18446744073709551615
 ·rw[jv g];simp only[j,not_false_eq_true,true_and,false_and,if_false];by_cases h:val (a :: d)<9223372036854775808;·rw[jv h,ju oA]
  ·rw[ju h,jv oA]
 ·rw[ju g,ju oA]
theorem zxr (d a:List UInt8) (k:d.length=a.length) (i:d.all qU=H) (j:a.all qU=H):Op.bytesLess d a=decide (val d<val a)/\(d==a)=decide (val d=val a):=by
 induction d generalizing a with
 | nil =>
  have:a=[]:=List.eq_nil_of_length_eq_zero (by simpa using k.symm);subst this
  simp[Op.bytesLess,val]
 | cons c d ih =>
  obtain⟨b,a,rfl⟩:∃b r,a=b :: r:=List.exists_cons_of_ne_nil (by intro e;rw[e]at k;simp at k);have n:d.length=a.length:=by simpa using k
  rw[List.all_cons,jj]at i j;have t:=zai i.1;have u:=zai j.1;have s:=zig d i.2;have v:=zig a j.2;obtain⟨p,q⟩:=ih a n i.2 j.2;rw[Op.bytesLess,p,List.cons_beq_cons,q,val,val,n];rw[n]at s;rcases Nat.lt_trichotomy c.toNat b.toNat with f | f | f
  ·have g:c<b:=f;have l:¬c=b:=by intro e;rw[e]at f;omega
   have o:(c.toNat - 48+1)*10 ^ a.length<=(b.toNat - 48)*10 ^ a.length:=Nat.mul_le_mul_right _ oA;rw[Nat.add_mul,Nat.one_mul]at o;have h:(c.toNat - 48)*10 ^ a.length+val d<(b.toNat - 48)*10 ^ a.length+val a:=oA;have m:(c==b)=X:=by simp[l]
   rw[decide_eq_true g,decide_eq_true h,decide_eq_false (Nat.ne_of_lt h),m];exact⟨rfl,rfl⟩
  ·have g:c=b:=UInt8.toNat_inj.1 f;subst g;simp
  ·have g:¬c<b:=by intro e;have:c.toNat<b.toNat:=e;omega
   have l:¬c=b:=by intro e;rw[e]at f;omega
   have o:(b.toNat - 48+1)*10 ^ a.length<=(c.toNat - 48)*10 ^ a.length:=Nat.mul_le_mul_right _ oA;rw[Nat.add_mul,Nat.one_mul]at o;have h:(b.toNat - 48)*10 ^ a.length+val a<(c.toNat - 48)*10 ^ a.length+val d:=oA;have m:(c==b)=X:=by simp[l]
   rw[decide_eq_false g,decide_eq_false (Nat.lt_asymm h),decide_eq_false (Nat.ne_of_gt h),m];exact⟨rfl,rfl⟩
theorem numE_val (a:List UInt8) (d:a.all qU=H) (m:a≠[]) (f:(decide (1<a.length)&&a.headD 0==48)=X):zC a=if val a<9223372036854775808 then 0 else 6:=by
 have v:=zig a d;rw[zC,ju (by simp[d]),ju (by rw[f];decide)];rcases Nat.lt_trichotomy a.length 19 with b | b | b
 ·have n:10 ^ a.length<=10 ^ 18:=Nat.pow_le_pow_right oA oA;have o:(10:Nat) ^ 18=1000000000000000000:=oD;have h:¬ 19<a.length:=oA;have i:¬a.length=19:=oA;rw[jv (show val a<9223372036854775808 by omega),ju (by simp[h,i])]
 ·have q:kF.length=19:=oD;have r:val kF=9223372036854775807:=oD;obtain⟨k,l⟩:=zxr a kF (by rw[b,q]) d oD;rw[k,l,r,b];by_cases g:val a<9223372036854775808;·rw[jv g,ju oE]
  ·rw[ju g,jv oE]
 ·obtain⟨c,e,rfl⟩:=List.exists_cons_of_ne_nil m;have t:=zai (by rw[List.all_cons,jj]at d;exact d.1:qU c=H)
  have u:c.toNat≠48:=by
   intro j;have:c=48:=UInt8.toNat_inj.1 j;subst this;have:1<(48 :: e:List UInt8).length:=oA;rw[decide_eq_true this]at f;simp at f
  have o:(10:Nat) ^ 19=10000000000000000000:=oD;have n:10 ^ 19<=10 ^ e.length:=Nat.pow_le_pow_right oA (by simp at b;omega);have s:1*10 ^ e.length<=(c.toNat - 48)*10 ^ e.length:=Nat.mul_le_mul_right _ oA;have p:¬val (c :: e)<9223372036854775808:=by rw[val];omega
  rw[ju p,jv (by simp only[b,decide_true,Bool.true_or])]
theorem len_L (s:ByteArray):s.data.toList.length=s.size:=oC
theorem vP (a b:UInt8) (d:Int) (e:d=(b.toNat:Int)):((a.toNat:Int)==d)=(a==b):=by
 subst e;rw[Bool.eq_iff_iff];simp only[beq_iff_eq];constructor;·intro c;exact UInt8.toNat_inj.1 oA
 ·intro c;rw[c]
theorem drop_cons (s:ByteArray) (p:Nat) (a:p<s.size):s.data.toList.drop p=s[p] :: s.data.toList.drop (p+1):=by
 rw[List.drop_eq_getElem_cons (by rw[len_L];exact a)];rfl
theorem yb7 (c:UInt8->Bool) (s:ByteArray) (p b:Nat) (hp:p+b<=s.size) (e:∀a (d:a<s.size),p<=a->a<p+b->c s[a]=H) (f:p+b=s.size\/∃d:p+b<s.size,c s[p+b]=X):run c (s.data.toList.drop p)=b:=by
 apply zq6;·intro a h i;rw[List.length_drop,len_L]at h;rw[List.getElem_drop];exact e (p+a) oA oA oA
 ·rcases f with d | ⟨d,g⟩
  ·left;rw[List.length_drop,len_L];omega
  ·right;refine⟨by rw[List.length_drop,len_L];omega,?_⟩;rw[List.getElem_drop];exact g
theorem ztt (s:ByteArray) (p a:Nat):s.extract p (p+a)=⟨((s.data.toList.drop p).take a).toArray⟩:=by
 apply WideShapes.bytes_inj;rw[Lib.extract_data];simp
/-! the ways of a step,c the byte at hand -/
section
variable {s:ByteArray} {p:Nat} (hp:p<s.size)
include hp
variable {a b:Nat} {c:Res}
theorem zyq (a:((s[p].toNat:Int)==32)=H\/((s[p].toNat:Int)==10)=H):qH (s.data.toList.drop p)=.skip 1:=by
 rw[vP _ 32 32 rfl,vP _ 10 10 rfl]at a;rw[drop_cons s p hp,qH,List.headD_cons,fW,jv];rcases a with a | a<;>simp[a]
theorem yaw (b:((s[p].toNat:Int)==32)=X) (c:((s[p].toNat:Int)==10)=X) (d:((s[p].toNat:Int)==35)=H) (f:run (fun e=>e != 10) (s.data.toList.drop p)=a) : qH (s.data.toList.drop p)=.skip a:=by
 rw[vP _ 32 32 rfl]at b;rw[vP _ 10 10 rfl]at c;rw[vP _ 35 35 rfl]at d;rw[<- f,drop_cons s p hp,qH,List.headD_cons,fW,ju (by simp[b,c]),jv d]
theorem za1 (a:((s[p].toNat:Int)==32)=X) (b:((s[p].toNat:Int)==10)=X) (c:((s[p].toNat:Int)==35)=X) : qH (s.data.toList.drop p)=(if qV (s[p].toNat:Int)then(if 16<run qD (s.data.toList.drop p)then .fault 1 else .tok 1 (run qD (s.data.toList.drop p)))else if yJ (s[p].toNat:Int)then(if zC ((s.data.toList.drop p).take (run qD (s.data.toList.drop p)))==0 then .tok 2 (run qD (s.data.toList.drop p))else .fault (zC ((s.data.toList.drop p).take (run qD (s.data.toList.drop p)))))else if uT (s.data.toList.drop p)==0 then .fault 2 else .tok 3 (uT (s.data.toList.drop p))):=by
 rw[vP _ 32 32 rfl]at a;rw[vP _ 10 10 rfl]at b;rw[vP _ 35 35 rfl]at c;rw[qH];have d:(s.data.toList.drop p).headD 0=s[p]:=by rw[drop_cons s p hp,List.headD_cons]
 rw[d,fW,ju (by simp[a,b]),ju (by simp[c])];rfl
theorem yay (b:((s[p].toNat:Int)==32)=X) (c:((s[p].toNat:Int)==10)=X) (d:((s[p].toNat:Int)==35)=X) (e:qV (s[p].toNat:Int)=H) (f:run qD (s.data.toList.drop p)=a) (g:a<=16) : qH (s.data.toList.drop p)=.tok 1 a:=by
 rw[za1 hp b c d,jv e,f,ju oA]
theorem yau (b:((s[p].toNat:Int)==32)=X) (c:((s[p].toNat:Int)==10)=X) (d:((s[p].toNat:Int)==35)=X) (e:qV (s[p].toNat:Int)=H) (g:run qD (s.data.toList.drop p)=a) (f:16<a) : qH (s.data.toList.drop p)=.fault 1:=by
 rw[za1 hp b c d,jv e,g,jv f]
theorem ycc (b:((s[p].toNat:Int)==32)=X) (c:((s[p].toNat:Int)==10)=X) (d:((s[p].toNat:Int)==35)=X) (g:qV (s[p].toNat:Int)=X) (e:yJ (s[p].toNat:Int)=H) (h:run qD (s.data.toList.drop p)=a) (f:(zC ((s.data.toList.drop p).take a)==0)=H):qH (s.data.toList.drop p)=.tok 2 a:=by
 rw[za1 hp b c d,ju (by simp[g]),jv e,h,jv f]
theorem yca (b:((s[p].toNat:Int)==32)=X) (c:((s[p].toNat:Int)==10)=X) (d:((s[p].toNat:Int)==35)=X) (g:qV (s[p].toNat:Int)=X) (e:yJ (s[p].toNat:Int)=H) (h:run qD (s.data.toList.drop p)=a) (f:(zC ((s.data.toList.drop p).take a)==0)=X):qH (s.data.toList.drop p)=.fault (zC ((s.data.toList.drop p).take a)):=by
 rw[za1 hp b c d,ju (by simp[g]),jv e,h,ju (by simp[f])]
theorem yax (c:((s[p].toNat:Int)==32)=X) (d:((s[p].toNat:Int)==10)=X) (e:((s[p].toNat:Int)==35)=X) (g:qV (s[p].toNat:Int)=X) (f:yJ (s[p].toNat:Int)=X) (h:uT (s.data.toList.drop p)=a) (b:a≠0) : qH (s.data.toList.drop p)=.tok 3 a:=by
 rw[za1 hp c d e,ju (by simp[g]),ju (by simp[f]),h,ju (by simpa using b)]
theorem yav (a:((s[p].toNat:Int)==32)=X) (b:((s[p].toNat:Int)==10)=X) (c:((s[p].toNat:Int)==35)=X) (e:qV (s[p].toNat:Int)=X) (d:yJ (s[p].toNat:Int)=X) (f:uT (s.data.toList.drop p)=0) : qH (s.data.toList.drop p)=.fault 2:=by
 rw[za1 hp a b c,ju (by simp[e]),ju (by simp[d]),f,jv oG]
/-! the scan goes on -/
theorem go_skip {a f:Nat} {acc:List Tok} (b:qH (s.data.toList.drop p)=.skip a) (d:qT (f+1) (s.data.toList.drop p) p acc=c):qT f (s.data.toList.drop (p+a)) (p+a) acc=c/\0<a/\p+a<=s.size:=by
 have h:(s.data.toList.drop (p+1)).length=s.size - (p+1):=by rw[List.length_drop,len_L]
 have e:=drop_cons s p hp;rw[e]at b d;have g:=zuq b;rw[zbu b,<- e,List.drop_drop]at d;refine⟨d,g.1,oA⟩
theorem go_tok {h:Int} {f:List Tok} (d:qH (s.data.toList.drop p)=.tok h a) (e:qT (b+1) (s.data.toList.drop p) p f=c) : qT b (s.data.toList.drop (p+a)) (p+a) (f++[⟨h,(s.data.toList.drop p).take a,p⟩])=c/\0<a/\p+a<=s.size:=by
 have j:(s.data.toList.drop (p+1)).length=s.size - (p+1):=by rw[List.length_drop,len_L]
 have g:=drop_cons s p hp;rw[g]at d e;have i:=zdg d;rw[zao d,<- g,List.drop_drop]at e;refine⟨e,i.1,oA⟩
theorem go_fault {d:Int} {f:List Tok} (e:qH (s.data.toList.drop p)=.fault d) (b:qT (a+1) (s.data.toList.drop p) p f=c):c=.err d p:=by
 rw[drop_cons s p hp]at e b;rw[zbp e]at b;exact b.symm
end
theorem go_end {s:ByteArray} {p d:Nat} {b:List Tok} {a:Res} (hp:s.size<=p) (c:qT d (s.data.toList.drop p) p b=a):a=.ok b:=by
 rw[List.drop_eq_nil_of_le (by rw[len_L];exact hp),zky]at c;exact c.symm
/-! what lies in memory -/
def cellsOf (l:List Tok):List Zv:=l.flatMap fun t=>[U O t.kind,I ⟨t.text.toArray⟩,U O (t.at_:Int)]
theorem zss (b:List Tok) (a:Tok):cellsOf (b++[a])=cellsOf b++[U O a.kind,I ⟨a.text.toArray⟩,U O (a.at_:Int)]:=by simp[cellsOf]
theorem cellsOf_length (a:List Tok):(cellsOf a).length=a.length*3:=by
 induction a with
 | nil=>rfl
 | cons b a ih=>simp only[cellsOf,List.flatMap_cons,jb,jd]at ih |-;simp only[je];omega
def Res.toks:Res->List Tok
 | .ok l=>l
 | .err _ _=>[]
def Res.code:Res->Int
 | .ok _=>0
 | .err c _=>c
def Res.place:Res->Int
 | .ok _=>0
 | .err _ p=>(p:Int)
end lexs
namespace syn
open lexs (Tok qV uZ val)
inductive Tree where
 | node (kind:Int) (text:ByteArray) (num:Int) (kids:List Tree)
structure St where
 i:Nat
 bad:Bool
def St.fail (s:St):St:={ s with bad:=H }
def St.next (s:St):St:={ s with i:=s.i+1 }
def empty:ByteArray:=⟨#[]⟩
def eqS (x y:ByteArray):Bool:=x.toList==y.toList
section
variable (ts:List Tok)
def here (s:St):Option Tok:=if s.bad then none else ts[s.i]?
def txt (s:St):ByteArray :=
 match here ts s with
 | none=>empty
 | some t=>if t.kind==2 then empty else⟨t.text.toArray⟩
def eat (x:ByteArray) (s:St):Bool × St:=if eqS (txt ts s) x then(H,s.next)else(X,s)
def kE (x:ByteArray) (s:St):St:=if eqS (txt ts s) x then s.next else s.fail
def xS:List ByteArray:=[⟨#[100,111]⟩,⟨#[101,108,115,101]⟩,⟨#[103,105,118,101,115]⟩,⟨#[104,105,103,104]⟩,⟨#[105,102]⟩,⟨#[105,109,112,111,114,116]⟩,⟨#[105,110]⟩,⟨#[108,111,119]⟩,⟨#[109,111,100,117,108,101]⟩,⟨#[111,117,116]⟩,⟨#[112,114,111,99]⟩,⟨#[112,117,98]⟩,⟨#[114,101,116,117,114,110]⟩,⟨#[119,104,105,108,101]⟩]
def kO (x:ByteArray):Bool :=
 decide (1<=x.size/\x.size<=16)&&qV ((x.data.toList.headD 0).toNat:Int)&&x.data.toList.all (fun c=>uZ (c.toNat:Int))&&!(xS.any fun y=>eqS y x)
def name (s:St):ByteArray × St:=if kO (txt ts s)then(txt ts s,s.next)else(empty,s.fail)
def whole (s:St):ByteArray × St :=
 let a:=name ts s
 let e:=eat ts ⟨#[46]⟩ a.2
 if e.1 then(a.1++⟨#[46]⟩++(name ts e.2).1,(name ts e.2).2)else(a.1,a.2)
def label (s:St):Int × St :=
 if eqS (txt ts s) ⟨#[104,105,103,104]⟩ then(1,s.next)else(0,kE ts ⟨#[108,111,119]⟩ s)
def dR (s:St):Bool:=match here ts s with | none=>X | some t=>t.kind==2
def number (s:St):Tree × St :=
 match here ts s with
 | none=>(.node 15 empty 0 [],s.fail)
 | some t=>if t.kind==2 then(.node 15 empty (val t.text:Int) [],s.next)else(.node 15 empty 0 [],s.fail)
def signs:List (ByteArray × Int × Int):=[(⟨#[61,61]⟩,9,0),(⟨#[60]⟩,8,0),(⟨#[43]⟩,1,1),(⟨#[45]⟩,2,1),(⟨#[124]⟩,7,1),(⟨#[42]⟩,3,2),(⟨#[47]⟩,4,2),(⟨#[37]⟩,5,2),(⟨#[38]⟩,6,2)]
def sign (x:ByteArray):Int × Int:=((signs.find? fun y=>eqS y.1 x).map (·.2)).getD (0,-1)
end
end syn
namespace syn
open lexs (Tok)
section
variable (ts:List Tok)
mutual
def qN:Nat->St->Option (Tree × St)
 | 0,_=>none
 | f+1,s=>if s.bad then Z (.node 0 empty 0 [],s)else zK f 0 s
def zK:Nat->Nat->St->Option (Tree × St)
 | 0,_,_=>none
 | f+1,least,s=>if 2<least then xH f s else(zK f (least+1) s).bind fun q=>zV f least q.1 q.2
def zV:Nat->Nat->Tree->St->Option (Tree × St)
 | 0,_,_,_=>none
 | f+1,a,n,s =>
  if s.bad then Z (n,s)
  else if(sign (txt ts s)).2 != (a:Int)then Z (n,s)
  else(zK f (a+1) s.next).bind fun q =>
   if a==0 then Z (.node 19 empty (sign (txt ts s)).1 [n,q.1],q.2)else zV f a (.node 19 empty (sign (txt ts s)).1 [n,q.1]) q.2
def xH:Nat->St->Option (Tree × St)
 | 0,_=>none
 | f+1,s =>
  if eqS (txt ts s) ⟨#[45]⟩ then(xH f s.next).bind fun q=>Z (.node 20 empty 0 [q.1],q.2)
  else if eqS (txt ts s) ⟨#[33]⟩ then(xH f s.next).bind fun q=>Z (.node 21 empty 0 [q.1],q.2)
  else if eqS (txt ts s) ⟨#[40]⟩ then yL f s
  else if dR ts s then Z (number ts s)
  else if eqS (txt ts (whole ts s).2) ⟨#[40]⟩ then xI f (whole ts s).1 (whole ts s).2 else yE f (whole ts s).1 (whole ts s).2
def yL:Nat->St->Option (Tree × St)
 | 0,_=>none
 | f+1,s=>(qN f (kE ts ⟨#[40]⟩ s)).bind fun q=>Z (q.1,kE ts ⟨#[41]⟩ q.2)
def yE:Nat->ByteArray->St->Option (Tree × St)
 | 0,_,_=>none
 | f+1,x,s =>
  if eqS (txt ts s) ⟨#[91]⟩ then(qN f s.next).bind fun q=>Z (.node 17 x 0 [q.1],kE ts ⟨#[93]⟩ q.2)else Z (.node 16 x 0 [],s)
def xI:Nat->ByteArray->St->Option (Tree × St)
 | 0,_,_=>none
 | f+1,x,s =>
  if eqS (txt ts (kE ts ⟨#[40]⟩ s)) ⟨#[41]⟩ then Z (.node 18 x 0 [],(kE ts ⟨#[40]⟩ s).next)else xP f x [] (kE ts ⟨#[40]⟩ s) H
def xP:Nat->ByteArray->List Tree->St->Bool->Option (Tree × St)
 | 0,_,_,_,_=>none
 | f+1,x,ks,s,on =>
  if on&&!s.bad then(qN f s).bind fun q=>xP f x (ks++[q.1]) (eat ts ⟨#[44]⟩ q.2).2 (eat ts ⟨#[44]⟩ q.2).1
  else Z (.node 18 x 0 ks,kE ts ⟨#[41]⟩ s)
end
end
variable {a:ByteArray}
theorem zda (b:eqS empty a=H):a.size=0:=by
 unfold eqS at b;rw[beq_iff_eq,ByteArray.toList_eq,ByteArray.toList_eq]at b;have c:=congrArg List.length b;rw[lexs.len_L,lexs.len_L]at c;exact c.symm
theorem zrc {ts:List Tok} {s:St} (e:0<a.size) (b:eqS (txt ts s) a=H):s.i<ts.length:=by
 unfold txt here at b;rcases jM s.i ts.length with c | c
 ·exact c
 ·exfalso;rw[List.getElem?_eq_none c]at b;cases d:s.bad<;>rw[d]at b<;>simp at b<;>have:=zda b<;>omega
def sv (k:Nat):ByteArray:=(signs.getD k (empty,0,-1)).1
def so (k:Nat):Int:=(signs.getD k (empty,0,-1)).2.1
def sl (k:Nat):Int:=(signs.getD k (empty,0,-1)).2.2
theorem zbi {a:Nat} (b:a<9):a=0\/a=1\/a=2\/a=3\/a=4\/a=5\/a=6\/a=7\/a=8:=oA
theorem yde {a:Nat} (b:a<signs.length):sv a=signs[a].1/\(so a,sl a)=signs[a].2:=by
 unfold sv so sl;rw[List.getD_eq_getElem?_getD,List.getElem?_eq_getElem b];exact⟨rfl,rfl⟩
theorem zgh (c:ByteArray) (d:∀b,b<9->eqS (sv b) c=X):sign c=(0,-1):=by
 unfold sign;rw[List.find?_eq_none.2];·rfl
 ·intro g e;obtain⟨f,a,rfl⟩:=List.mem_iff_getElem.1 e;have:=d f a;rw[(yde a).1]at this;simpa using this
theorem eqS_lit (b:ByteArray) (a:List UInt8):eqS b ⟨a.toArray⟩=(b.toList==a):=by unfold eqS;rw[ByteArray.toList_eq ⟨a.toArray⟩]
theorem zfj (b:¬(1<=a.size/\a.size<=16)):kO a=X:=by unfold kO;rw[decide_eq_false b];rfl
theorem zw6 (a:ByteArray):eqS a a=H:=by unfold eqS;exact beq_self_eq_true _
section
variable {ts:List Tok} {s:St}
theorem zp5 (b:0<=(sign (txt ts s)).2):s.i<ts.length:=by
 rcases jM s.i ts.length with a | a
 ·exact a
 ·exfalso
  have c:txt ts s=empty:=by
   unfold txt here;rw[List.getElem?_eq_none a];cases s.bad<;>rfl
  rw[c,zgh empty (fun e d=>?_)]at b;·exact absurd b oD
  ·rw[show empty=⟨([]:List UInt8).toArray⟩ from rfl,eqS_lit (sv e) [],ByteArray.toList_eq];rcases zbi d with rfl | rfl | rfl | rfl | rfl | rfl | rfl | rfl | rfl<;>rfl
end
section
variable {ts:List Tok} {s:St}
def left (ts:List Tok) (s:St):Nat:=if s.bad then 0 else ts.length - s.i
theorem zdb:left ts s.fail=0:=rfl
theorem left_bad (a:s.bad=H):left ts s=0:=by unfold left;rw[a];rfl
theorem fB:left ts s.next<=left ts s:=by
 unfold left St.next;dsimp only;split<;>omega
theorem left_hit {c:ByteArray} (e:0<c.size) (a:eqS (txt ts s) c=H):left ts s.next+1=left ts s:=by
 have f:=zrc e a
 have b:s.bad=X:=by
  cases b:s.bad;·rfl
  ·exfalso;have d:txt ts s=empty:=by unfold txt here;rw[b];rfl
   rw[d]at a;have:=zda a;omega
 unfold left St.next;dsimp only;rw[b];simp;omega
theorem xR (a:ByteArray) (c:0<a.size):left ts (kE ts a s)<=left ts s/\((kE ts a s).bad=H\/left ts (kE ts a s)+1=left ts s):=by
 unfold kE;cases b:eqS (txt ts s) a;·simp only[jr,if_false];exact⟨by rw[zdb];omega,.inl rfl⟩
 ·simp only[if_true];have:=left_hit c b;exact⟨oA,.inr this⟩
theorem dC:left ts (name ts s).2<=left ts s:=by
 unfold name;split;·exact fB
 ·simp only[zdb];omega
theorem zlt (a:ByteArray):left ts (eat ts a s).2<=left ts s:=by
 unfold eat
 split;·exact fB
 ·exact Nat.le_refl _
theorem left_whole:left ts (whole ts s).2<=left ts s:=by
 unfold whole;dsimp only;split;·exact jp dC (jp (zlt _) dC)
 ·exact dC
theorem zjb:left ts (number ts s).2<=left ts s:=by
 unfold number;split;·simp only[zdb];omega
 ·split;·exact fB
  ·simp only[zdb];omega
def Has (ts:List Tok) (s:St) (o:Option (Tree × St)):Prop:=∃q,o=Z q/\left ts q.2<=left ts s
structure Enough (ts:List Tok) (f:Nat):Prop where
 e:∀s:St,(s.bad=H/\1<=f)\/10*left ts s+8<=f->Has ts s (qN ts f s)
 b:∀(s:St) (l:Nat),l<=3->10*left ts s+7<=f+l->Has ts s (zK ts f l s)
 bl:∀(s:St) (l:Nat) (n:Tree),l<=2->10*left ts s+6<=f+l->Has ts s (zV ts f l n s)
 u:∀s:St,10*left ts s+3<=f->Has ts s (xH ts f s)
 a:∀s:St,10*left ts s+2<=f->Has ts s (yL ts f s)
 p:∀(s:St) (x:ByteArray),10*left ts s+2<=f->Has ts s (yE ts f x s)
 c:∀(s:St) (x:ByteArray),10*left ts s+2<=f->Has ts s (xI ts f x s)
 cl:∀(s:St) (x:ByteArray) (ks:List Tree) (on:Bool),(((on&&!s.bad)=X/\1<=f)\/10*left ts s+9<=f)->Has ts s (xP ts f x ks s on)
theorem zqh (ts:List Tok) (n:Nat):Enough ts n:=by
 induction n with
 | zero=>exact⟨fun s d=>oA,fun s i g r=>oA,fun s i z g r=>oA,fun s d=>oA,fun s d=>oA,fun s j d=>oA,fun s j d=>oA,fun s j y on d=>oA⟩
 | succ n ih =>
  refine⟨fun s d=>?_,fun s i C d=>?_,fun s i z C d=>?_,fun s d=>?_,fun s d=>?_,fun s j d=>?_,fun s j d=>?_,fun s j y on d=>?_⟩
  ·unfold qN;cases t:s.bad
   ·simp only[jr,if_false];refine ih.b s 0 oA ?_;rcases d with⟨d,_⟩ | d
    ·rw[t]at d;simp at d
    ·omega
   ·simp only[if_true];exact⟨_,rfl,Nat.le_refl _⟩
  ·unfold zK;split;·exact ih.u s oA
   ·obtain⟨q,f,h⟩:=ih.b s (i+1) oA oA;rw[f];simp only[jf];obtain⟨l,k,w⟩:=ih.bl q.2 i q.1 oA oA;exact⟨l,k,oA⟩
  ·unfold zV;cases t:s.bad
   ·simp only[jr,if_false];split;·exact⟨_,rfl,Nat.le_refl _⟩
    ·rename_i E;have K:(sign (txt ts s)).2=(i:Int):=by simpa using E
     have L:=zp5 (ts:=ts) (s:=s) oA
     have m:left ts s.next+1=left ts s:=by
      unfold left St.next;dsimp only;rw[t];simp;omega
     obtain⟨q,f,h⟩:=ih.b s.next (i+1) oA oA;rw[f];simp only[jf];split;·exact⟨_,rfl,oO⟩
     ·obtain⟨l,k,w⟩:=ih.bl q.2 i (.node 19 empty (sign (txt ts s)).1 [z,q.1]) oA oA;exact⟨l,k,oA⟩
   ·simp only[if_true];exact⟨_,rfl,Nat.le_refl _⟩
  ·unfold xH;cases g:eqS (txt ts s) ⟨#[45]⟩
   ·simp only[jr,if_false];cases r:eqS (txt ts s) ⟨#[33]⟩
    ·simp only[jr,if_false];split;·exact ih.a s oA
     ·split;·exact⟨_,rfl,zjb⟩
      ·have M:=left_whole (ts:=ts) (s:=s);split;·obtain⟨q,f,h⟩:=ih.c (whole ts s).2 (whole ts s).1 oA;exact⟨q,f,oA⟩
       ·obtain⟨q,f,h⟩:=ih.p (whole ts s).2 (whole ts s).1 oA;exact⟨q,f,oA⟩
    ·simp only[if_true];have m:=left_hit oD r;obtain⟨q,f,h⟩:=ih.u s.next oA;rw[f];exact zcv
   ·simp only[if_true];have m:=left_hit oD g;obtain⟨q,f,h⟩:=ih.u s.next oA;rw[f];exact zcv
  ·unfold yL;have x:=xR (ts:=ts) (s:=s) ⟨#[40]⟩ oD;obtain⟨q,f,h⟩:=ih.e (kE ts ⟨#[40]⟩ s) (by rcases x.2 with g | g;exact .inl ⟨g,oA⟩;exact .inr oA);rw[f];have D:=xR (ts:=ts) (s:=q.2) ⟨#[41]⟩ oD;exact zcv
  ·unfold yE;split;·rename_i g;have m:=left_hit oD g;obtain⟨q,f,h⟩:=ih.e s.next (.inr oA);rw[f];have D:=xR (ts:=ts) (s:=q.2) ⟨#[93]⟩ oD;exact zcv
   ·exact⟨_,rfl,Nat.le_refl _⟩
  ·unfold xI;have x:=xR (ts:=ts) (s:=s) ⟨#[40]⟩ oD;split;·rename_i g;have m:=left_hit oD g;exact zcv
   ·obtain⟨q,f,h⟩:=ih.cl (kE ts ⟨#[40]⟩ s) j [] H (by rcases x.2 with g | g;exact .inl ⟨by rw[g];rfl,oA⟩;exact .inr oA);exact⟨q,f,oA⟩
  ·unfold xP;cases B:(on&&!s.bad);·simp only[jr,if_false];exact⟨_,rfl,(xR (ts:=ts) (s:=s) ⟨#[41]⟩ oD).1⟩
   ·simp only[if_true]
    have G:10*left ts s+9<=n+1:=by
     rcases d with⟨d,_⟩ | d
     ·rw[B]at d;simp at d
     ·exact d
    obtain⟨q,f,h⟩:=ih.e s (.inr oA);rw[f];simp only[jf];cases v:eqS (txt ts q.2) ⟨#[44]⟩
    ·have o:eat ts ⟨#[44]⟩ q.2=(X,q.2):=by unfold eat;rw[v];rfl
     rw[o];obtain⟨l,k,w⟩:=ih.cl q.2 j (y++[q.1]) X (.inl ⟨rfl,oA⟩);exact⟨l,k,oA⟩
    ·have o:eat ts ⟨#[44]⟩ q.2=(H,q.2.next):=by unfold eat;rw[v];rfl
     rw[o];have m:=left_hit oD v;obtain⟨l,k,w⟩:=ih.cl q.2.next j (y++[q.1]) H (.inr oA);exact⟨l,k,oA⟩
end
section
variable (ts:List Tok)
mutual
def zS:Nat->St->Option (Tree × St)
 | 0,_=>none
 | f+1,s=>xE f [] (kE ts ⟨#[123]⟩ s)
def xE:Nat->List Tree->St->Option (Tree × St)
 | 0,_,_=>none
 | f+1,ks,s =>
  if s.bad then Z (.node 6 empty 0 ks,s)
  else if eqS (txt ts s) ⟨#[125]⟩ then Z (.node 6 empty 0 ks,s.next)
  else(vU f s).bind fun q=>xE f (ks++[q.1]) q.2
def vU:Nat->St->Option (Tree × St)
 | 0,_=>none
 | f+1,s =>
  if eqS (txt ts s) ⟨#[105,102]⟩ then
   (yL ts f s.next).bind fun x=>(zS f x.2).bind fun b =>
    if eqS (txt ts b.2) ⟨#[101,108,115,101]⟩ then(zS f b.2.next).bind fun c=>Z (.node 10 empty 0 [x.1,b.1,c.1],c.2)else Z (.node 10 empty 0 [x.1,b.1],b.2)
  else if eqS (txt ts s) ⟨#[119,104,105,108,101]⟩ then(yL ts f s.next).bind fun x=>(zS f x.2).bind fun b=>Z (.node 11 empty 0 [x.1,b.1],b.2)
  else if eqS (txt ts s) ⟨#[108,111,119]⟩||eqS (txt ts s) ⟨#[104,105,103,104]⟩ then
   (qN ts f (kE ts ⟨#[61]⟩ (name ts (label ts s).2).2)).bind fun x=>Z (.node 7 (name ts (label ts s).2).1 (label ts s).1 [x.1],kE ts ⟨#[59]⟩ x.2)
  else if eqS (txt ts s) ⟨#[100,111]⟩ then(xI ts f (whole ts s.next).1 (whole ts s.next).2).bind fun x=>Z (.node 9 empty 0 [x.1],kE ts ⟨#[59]⟩ x.2)
  else if eqS (txt ts s) ⟨#[111,117,116]⟩ then(qN ts f (label ts s.next).2).bind fun x=>Z (.node 12 empty (label ts s.next).1 [x.1],kE ts ⟨#[59]⟩ x.2)
  else if eqS (txt ts s) ⟨#[105,110]⟩ then(yE ts f (whole ts (label ts s.next).2).1 (whole ts (label ts s.next).2).2).bind fun x=>Z (.node 13 empty (label ts s.next).1 [x.1],kE ts ⟨#[59]⟩ x.2)
  else if eqS (txt ts s) ⟨#[114,101,116,117,114,110]⟩ then(qN ts f s.next).bind fun x=>Z (.node 14 empty 0 [x.1],kE ts ⟨#[59]⟩ x.2)
  else(yE ts f (whole ts s).1 (whole ts s).2).bind fun x=>(qN ts f (kE ts ⟨#[61]⟩ x.2)).bind fun y=>Z (.node 8 empty 0 [x.1,y.1],kE ts ⟨#[59]⟩ y.2)
end
end
section
variable (ts:List Tok)
def zE (s:St):St:=if eqS (txt ts s) ⟨#[112,117,98]⟩ then s.next else s
def cX (s:St):Int:=if eqS (txt ts s) ⟨#[112,117,98]⟩ then 2 else 0
def vR:Nat->List Tree->St->Option (List Tree × St)
 | 0,_,_=>none
 | f+1,ks,s =>
  if eqS (txt ts (name ts (label ts s).2).2) ⟨#[44]⟩ then vR f (ks++[.node 5 (name ts (label ts s).2).1 (label ts s).1 []]) (name ts (label ts s).2).2.next
  else Z (ks++[.node 5 (name ts (label ts s).2).1 (label ts s).1 []],(name ts (label ts s).2).2)
def params (f:Nat) (s:St):Option (List Tree × St):=if eqS (txt ts s) ⟨#[41]⟩ then Z ([],s)else vR ts f [] s
def vK (s:St):St:=if eqS (txt ts (label ts s).2) ⟨#[103,105,118,101,115]⟩ then(label ts (label ts s).2.next).2 else(label ts s).2
def gR (n:Int) (s:St):Int:=if eqS (txt ts (label ts s).2) ⟨#[103,105,118,101,115]⟩ then n+(label ts s).1+4+4*(label ts (label ts s).2.next).1 else n+(label ts s).1
def zY (s:St):List Tree × St:=if eqS (txt ts s) ⟨#[91]⟩ then([(number ts s.next).1],kE ts ⟨#[93]⟩ (number ts s.next).2)else([],s)
def dQ (f:Nat) (s:St):Option (Tree × St) :=
 if eqS (txt ts (zE ts s)) ⟨#[112,114,111,99]⟩ then
  (params ts f (kE ts ⟨#[40]⟩ (name ts (zE ts s).next).2)).bind fun p =>
   (zS ts f (vK ts (kE ts ⟨#[41]⟩ p.2))).bind fun b =>
    Z (.node 4 (name ts (zE ts s).next).1 (gR ts (cX ts s) (kE ts ⟨#[41]⟩ p.2)) (p.1++[b.1]),b.2)
 else Z (.node 3 (name ts (label ts (zE ts s)).2).1 (cX ts s+(label ts (zE ts s)).1) (zY ts (name ts (label ts (zE ts s)).2).2).1,kE ts ⟨#[59]⟩ (zY ts (name ts (label ts (zE ts s)).2).2).2)
end
section
variable {ts:List Tok} {s:St}
theorem cZ:left ts (label ts s).2<=left ts s:=by
 unfold label;split;·exact fB
 ·exact(xR ⟨#[108,111,119]⟩ oD).1
theorem zgo {x:ByteArray} (a:s.bad=H):(kE ts x s).bad=H:=by
 unfold kE;split;·exact a
 ·rfl
theorem zqc (a:s.bad=H):txt ts s=empty:=by unfold txt here;rw[a];rfl
theorem zJ {a:ByteArray} (d:0<a.size) (c:s.bad=H):eqS (txt ts s) a=X:=by
 cases b:eqS (txt ts s) a;·rfl
 ·rw[zqc c]at b;have:=zda b;omega
theorem zyx:left ts (whole ts s).2+1<=left ts s\/(whole ts s).2.bad=H:=by
 cases b:kO (txt ts s)
 ·right;have c:name ts s=(empty,s.fail):=by unfold name;rw[b];rfl
  unfold whole;rw[c];have d:eat ts ⟨#[46]⟩ s.fail=(X,s.fail):=by unfold eat;rw[zJ oD rfl];rfl
  dsimp only;rw[d];rfl
 ·left;have c:name ts s=(txt ts s,s.next):=by unfold name;rw[b];rfl
  have a:0<(txt ts s).size:=by
   rcases jM 0 (txt ts s).size with a | a
   ·exact a
   ·rw[zfj oA]at b;exact absurd b oD
  have e:=left_hit a (zw6 (txt ts s))
  have f:left ts (whole ts s).2<=left ts s.next:=by
   unfold whole;rw[c];dsimp only;split;·exact jp dC (zlt _)
   ·exact Nat.le_refl _
  omega
structure Enough2 (ts:List Tok) (f:Nat):Prop where
 bk:∀s:St,20*left ts s+12<=f->Has ts s (zS ts f s)
 bkl:∀(s:St) (ks:List Tree),(s.bad=H/\1<=f)\/20*left ts s+11<=f->Has ts s (xE ts f ks s)
 st:∀s:St,20*left ts s+10<=f->∃q,vU ts f s=Z q/\left ts q.2<=left ts s/\(left ts q.2+1<=left ts s\/q.2.bad=H)
theorem zza (ts:List Tok) (f:Nat):Enough2 ts f:=by
 induction f with
 | zero=>exact⟨fun s b=>oA,fun s w b=>oA,fun s b=>oA⟩
 | succ f ih =>
  have E:=zqh ts f;refine⟨fun s b=>?_,fun s w b=>?_,fun s b=>?_⟩;·unfold zS;have v:=xR (ts:=ts) (s:=s) ⟨#[123]⟩ oD;obtain⟨q,n,z⟩:=ih.bkl (kE ts ⟨#[123]⟩ s) [] (.inr oA);exact⟨q,n,oA⟩
  ·unfold xE;cases i:s.bad
   ·simp only[jr,if_false]
    have W:20*left ts s+11<=f+1:=by
     rcases b with⟨b,_⟩ | b
     ·rw[i]at b;simp at b
     ·exact b
    split;·exact⟨_,rfl,fB⟩
    ·obtain⟨q,n,z,k⟩:=ih.st s oA;rw[n];simp only[jf];obtain⟨S,D,a3⟩:=ih.bkl q.2 (w++[q.1]) (by rcases k with h | h;exact .inr oA;exact .inl ⟨h,oA⟩);exact⟨S,D,oA⟩
   ·simp only[if_true];exact⟨_,rfl,Nat.le_refl _⟩
  ·unfold vU;cases L:eqS (txt ts s) ⟨#[105,102]⟩
   case true =>
    have j:=left_hit oD L;rw[jv rfl];obtain⟨c,d,g⟩:=E.a s.next oA;obtain⟨l,i,K⟩:=ih.bk c.2 oA;rw[d];simp only[jf];rw[i];simp only[jf];split;·obtain⟨V,x,a7⟩:=ih.bk l.2.next (by have:=fB (ts:=ts) (s:=l.2);omega);rw[x];have:=fB (ts:=ts) (s:=l.2);exact ze3
    ·exact⟨_,rfl,oO,.inl oO⟩
   rw[ju oD];cases M:eqS (txt ts s) ⟨#[119,104,105,108,101]⟩
   case true =>
    have j:=left_hit oD M;rw[jv rfl];obtain⟨c,d,g⟩:=E.a s.next oA;obtain⟨l,i,K⟩:=ih.bk c.2 oA;rw[d];simp only[jf];rw[i];exact ze3
   rw[ju oD];cases r:(eqS (txt ts s) ⟨#[108,111,119]⟩||eqS (txt ts s) ⟨#[104,105,103,104]⟩)
   case true =>
    rw[jv rfl]
    have a2:left ts (label ts s).2+1<=left ts s:=by
     unfold label;cases h:eqS (txt ts s) ⟨#[104,105,103,104]⟩;·simp only[jr,if_false];rw[h,Bool.or_false]at r;unfold kE;rw[r,jv rfl];have:=left_hit oD r;omega
     ·simp only[if_true];have:=left_hit oD h;omega
    have a5:=dC (ts:=ts) (s:=(label ts s).2);have v:=xR (ts:=ts) (s:=(name ts (label ts s).2).2) ⟨#[61]⟩ oD;obtain⟨c,d,g⟩:=E.e (kE ts ⟨#[61]⟩ (name ts (label ts s).2).2) (.inr oA);exact zcu
   rw[ju oD];cases N:eqS (txt ts s) ⟨#[100,111]⟩
   case true =>
    have j:=left_hit oD N;rw[jv rfl];have o:=left_whole (ts:=ts) (s:=s.next);obtain⟨c,d,g⟩:=E.c (whole ts s.next).2 (whole ts s.next).1 oA;exact zcu
   rw[ju oD];cases P:eqS (txt ts s) ⟨#[111,117,116]⟩
   case true =>
    have j:=left_hit oD P;rw[jv rfl];have o:=cZ (ts:=ts) (s:=s.next);obtain⟨c,d,g⟩:=E.e (label ts s.next).2 (.inr oA);exact zcu
   rw[ju oD];cases Q:eqS (txt ts s) ⟨#[105,110]⟩
   case true =>
    have j:=left_hit oD Q;rw[jv rfl];have o:=cZ (ts:=ts) (s:=s.next);have a6:=left_whole (ts:=ts) (s:=(label ts s.next).2);obtain⟨c,d,g⟩:=E.p (whole ts (label ts s.next).2).2 (whole ts (label ts s.next).2).1 oA;exact zcu
   rw[ju oD];cases R:eqS (txt ts s) ⟨#[114,101,116,117,114,110]⟩
   case true =>
    have j:=left_hit oD R;rw[jv rfl];obtain⟨c,d,g⟩:=E.e s.next (.inr oA);exact zcu
   rw[ju oD];have o:=left_whole (ts:=ts) (s:=s);rcases zyx (ts:=ts) (s:=s)with k | k
   ·obtain⟨c,d,g⟩:=E.p (whole ts s).2 (whole ts s).1 oA;rw[d];simp only[jf];have v:=xR (ts:=ts) (s:=c.2) ⟨#[61]⟩ oD;obtain⟨T,G,a8⟩:=E.e (kE ts ⟨#[61]⟩ c.2) (.inr oA);rw[G];have B:=xR (ts:=ts) (s:=T.2) ⟨#[59]⟩ oD;exact ze3
   ·obtain⟨m,rfl⟩:∃m,f=m+1:=⟨f - 1,oA⟩
    have C:yE ts (m+1) (whole ts s).1 (whole ts s).2=Z (.node 16 (whole ts s).1 0 [],(whole ts s).2):=by
     unfold yE;rw[zJ oD k,ju oD]
    rw[C];simp only[jf];have t:=zgo (ts:=ts) (x:=⟨#[61]⟩) k
    have y:qN ts (m+1) (kE ts ⟨#[61]⟩ (whole ts s).2)=Z (.node 0 empty 0 [],kE ts ⟨#[61]⟩ (whole ts s).2):=by
     unfold qN;rw[t,jv rfl]
    rw[y];have u:=zgo (ts:=ts) (x:=⟨#[59]⟩) t;exact⟨_,rfl,by dsimp only;rw[left_bad u];omega,.inr u⟩
end
section
variable {ts:List Tok} {s:St}
theorem zxp:left ts (zE ts s)<=left ts s:=by
 unfold zE;split;·exact fB
 ·exact Nat.le_refl _
theorem zt5:left ts (vK ts s)<=left ts s:=by
 unfold vK;split;·exact jp cZ (jp fB cZ)
 ·exact cZ
theorem zxq:left ts (zY ts s).2<=left ts s:=by
 unfold zY;split;·exact jp (xR ⟨#[93]⟩ oD).1 (jp zjb fB)
 ·exact Nat.le_refl _
theorem zxy (a:s.bad=H):(name ts s).2.bad=H:=by
 unfold name;split;·exact a
 ·rfl
theorem ya5 (a:s.bad=H):(zY ts s).2.bad=H:=by
 unfold zY;rw[zJ oD a,ju oD];exact a
theorem zxn:left ts (label ts s).2+1<=left ts s\/(label ts s).2.bad=H:=by
 unfold label;cases b:eqS (txt ts s) ⟨#[104,105,103,104]⟩
 ·simp only[jr,if_false];rcases(xR (ts:=ts) (s:=s) ⟨#[108,111,119]⟩ oD).2 with a | a
  ·exact .inr a
  ·exact .inl oA
 ·simp only[if_true];have:=left_hit oD b;exact .inl oA
theorem ztd (a:Nat):∀(b:List Tree) (s:St),left ts s+1<=a->∃p,vR ts a b s=Z p/\left ts p.2<=left ts s:=by
 induction a with
 | zero=>intro b s c;omega
 | succ a ih =>
  intro b s c;have e:=cZ (ts:=ts) (s:=s);have f:=dC (ts:=ts) (s:=(label ts s).2);unfold vR;split;·rename_i d;have g:=left_hit oD d;obtain⟨p,hp,h⟩:=ih (b++[.node 5 (name ts (label ts s).2).1 (label ts s).1 []]) (name ts (label ts s).2).2.next oA;exact⟨p,hp,oA⟩
  ·exact⟨_,rfl,oO⟩
theorem zu9 {f:Nat} (j:20*left ts s+12<=f):∃q,dQ ts f s=Z q/\left ts q.2<=left ts s/\(left ts q.2+1<=left ts s\/q.2.bad=H):=by
 have hp:=zxp (ts:=ts) (s:=s);unfold dQ;split
 ·rename_i a;have l:=left_hit oD a;have c:=dC (ts:=ts) (s:=(zE ts s).next);have d:=(xR (ts:=ts) (s:=(name ts (zE ts s).next).2) ⟨#[40]⟩ oD).1
  obtain⟨p,h,lp⟩:∃p,params ts f (kE ts ⟨#[40]⟩ (name ts (zE ts s).next).2)=Z p/\left ts p.2<=left ts (kE ts ⟨#[40]⟩ (name ts (zE ts s).next).2):=by
   unfold params;split;·exact⟨_,rfl,Nat.le_refl _⟩
   ·exact ztd f [] _ oA
  rw[h];simp only[jf];have e:=(xR (ts:=ts) (s:=p.2) ⟨#[41]⟩ oD).1;have k:=zt5 (ts:=ts) (s:=kE ts ⟨#[41]⟩ p.2);obtain⟨i,g,m⟩:=(zza ts f).bk (vK ts (kE ts ⟨#[41]⟩ p.2)) oA;rw[g];exact⟨_,rfl,oO,.inl oO⟩
 ·have a:=cZ (ts:=ts) (s:=zE ts s);have c:=dC (ts:=ts) (s:=(label ts (zE ts s)).2);have d:=zxq (ts:=ts) (s:=(name ts (label ts (zE ts s)).2).2);have e:=(xR (ts:=ts) (s:=(zY ts (name ts (label ts (zE ts s)).2).2).2) ⟨#[59]⟩ oD).1;refine⟨_,rfl,oO,?_⟩;rcases zxn (ts:=ts) (s:=zE ts s)with b | b
  ·exact .inl oO
  ·exact .inr (zgo (ya5 (zxy b)))
end
section
variable (ts:List Tok)
def xB:Nat->List Tree->St->Option (List Tree × St)
 | 0,_,_=>none
 | f+1,ks,s=>if eqS (txt ts s) ⟨#[105,109,112,111,114,116]⟩ then xB f (ks++[.node 2 (name ts s.next).1 0 []]) (kE ts ⟨#[59]⟩ (name ts s.next).2)else Z (ks,s)
def xF:Nat->List Tree->St->Option (List Tree × St)
 | 0,_,_=>none
 | f+1,ks,s=>if s.bad||decide (ts.length<=s.i)then Z (ks,s)else(dQ ts 100000 s).bind fun q=>xF f (ks++[q.1]) q.2
def gU:St:=kE ts ⟨#[59]⟩ (name ts (kE ts ⟨#[109,111,100,117,108,101]⟩ ⟨0,X⟩)).2
def za6:ByteArray:=(name ts (kE ts ⟨#[109,111,100,117,108,101]⟩ ⟨0,X⟩)).1
def za0:Option (Tree × St) :=
 (xB ts 4000 [] (gU ts)).bind fun p=>(xF ts 4000 p.1 p.2).bind fun q=>Z (.node 1 (za6 ts) 0 q.1,q.2)
end
end syn
namespace syn
mutual
def fT:Tree->Int->Int
 | .node _ _ _ ks,kF=>fS ks 1 kF
def fS:List Tree->Int->Int->Int
 | [],k,_=>k
 | t :: r,k,kF=>if k<=kF then fS r (k+fT t (kF - k)) kF else k
end
mutual
def gT:Tree->Int->Int
 | .node _ _ _ ks,kF=>fQ ks 0 kF+1
def fQ:List Tree->Int->Int->Int
 | [],d,_=>d
 | t :: r,d,kF=>if 0<kF/\d<=kF then fQ r (max d (gT t (kF - 1))) kF else d
end
def fitsT (t:Tree):Bool:=if 500<fT t 500 then X else decide (gT t 16<=16)
mutual
theorem zi3:∀(a:Tree) (kF:Int),0<=kF->1<=fT a kF/\fT a kF<=kF+1
 | .node _ _ _ ks,kF,h=>by
  unfold fT;exact zi2 ks 1 kF h oA oA
theorem zi2:∀(b:List Tree) (a kF:Int),0<=kF->1<=a->a<=kF+1->1<=fS b a kF/\fS b a kF<=kF+1
 | [],a,kF,h,h1,h2=>by unfold fS;exact⟨h1,h2⟩
 | t :: r,a,kF,h,h1,h2=>by
  unfold fS;split;·have c:=zi3 t (kF - a) oA;exact zi2 r _ kF h oA oA
  ·exact⟨h1,h2⟩
end
mutual
theorem ziy:∀(a:Tree) (kF:Int),0<=kF->1<=gT a kF/\gT a kF<=kF+1
 | .node _ _ _ ks,kF,h=>by
  unfold gT;have:=zfh ks 0 kF h oA oA;omega
theorem zfh:∀(b:List Tree) (a kF:Int),0<=kF->0<=a->a<=kF->0<=fQ b a kF/\fQ b a kF<=kF
 | [],a,kF,h,h1,h2=>by unfold fQ;exact⟨h1,h2⟩
 | t :: r,a,kF,h,h1,h2=>by
  unfold fQ;split;·rename_i c;have d:=ziy t (kF - 1) oA;exact zfh r _ kF h oA oA
  ·exact⟨h1,h2⟩
end
end syn
namespace lexs
theorem zgg:∀(b:Nat) (e:List UInt8) (d:Nat) (a toks:List Tok),qT b e d a=.ok toks->toks.length<=a.length+e.length
 | 0,e,d,a,toks,h=>by
  unfold qT at h;injection h with h;subst h
  omega
 | b+1,[],d,a,toks,h=>by
  unfold qT at h;injection h with h;subst h
  simp
 | b+1,g :: r,d,a,toks,h=>by
  cases c:qH (g :: r)with
  | skip i =>
   rw[zbu c]at h;have:=zgg b _ _ _ _ h;rw[List.length_drop]at this
   omega
  | fault j=>rw[zbp c]at h;simp at h
  | tok l i =>
   rw[zao c]at h;have f:=zgg b _ _ _ _ h;have k:=(zdg c).1;rw[List.length_drop,jb]at f;simp at f |-;omega
theorem scan_len {b:List UInt8} {toks:List Tok} (a:scan b=.ok toks):toks.length<=3000:=by
 unfold scan at a;split at a;·simp at a
 ·have:=zgg _ _ _ _ _ a;simp at this;omega
end lexs
namespace syn
open lexs (Tok scan)
structure Out where
 tree:Tree
 code:Int
 place:Int
def cS:Tree:=.node 0 empty 0 []
def dJ (ts:List Tok) (n:Nat) (s:St):Int:=match ts[s.i]? with
 | some t=>(t.at_:Int)
 | none=>(n:Int)
def dS (ts:List Tok) (n:Nat) (q:Tree × St):Out :=
 if q.2.bad then⟨cS,2,dJ ts n q.2⟩ else if fitsT q.1 then⟨q.1,0,0⟩ else⟨cS,1,0⟩
def parse (x:ByteArray):Out:=match scan x.data.toList with
 | .err c p=>⟨cS,c,p⟩
 | .ok ts=>match za0 ts with
  | none=>⟨cS,0,0⟩
  | some q=>dS ts x.size q
section
variable {ts:List Tok} {s:St}
theorem zsu (a:Nat):∀(b:List Tree) (s:St),left ts s+1<=a->∃p,xB ts a b s=Z p/\left ts p.2<=left ts s:=by
 induction a with
 | zero=>intro b s c;omega
 | succ a ih =>
  intro b s c;unfold xB;split;·rename_i d;have f:=left_hit oD d;have e:=dC (ts:=ts) (s:=s.next);have g:=(xR (ts:=ts) (s:=(name ts s.next).2) ⟨#[59]⟩ oD).1;obtain⟨p,hp,h⟩:=ih (b++[.node 2 (name ts s.next).1 0 []]) (kE ts ⟨#[59]⟩ (name ts s.next).2) oA;exact⟨p,hp,oA⟩
  ·exact⟨_,rfl,Nat.le_refl _⟩
theorem ztp (a:Nat):∀(c:List Tree) (s:St),left ts s<=3000->left ts s+2<=a\/(s.bad=H/\1<=a)->∃p,xF ts a c s=Z p:=by
 induction a with
 | zero=>intro c s f b;omega
 | succ a ih =>
  intro c s f b;unfold xF;cases g:s.bad
  ·rw[g]at b;simp only[jr,false_and,or_false]at b;by_cases e:ts.length<=s.i;·rw[decide_eq_true e];exact⟨_,rfl⟩
   ·rw[decide_eq_false e];simp only[Bool.or_false,jr,if_false];obtain⟨q,j,k,h⟩:=zu9 (ts:=ts) (s:=s) (f:=100000) oA;rw[j];simp only[jf];refine ih _ _ oA ?_;rcases h with d | d
    ·exact .inl oA
    ·exact .inr ⟨d,oA⟩
  ·simp only[Bool.true_or,if_true];exact⟨_,rfl⟩
theorem left_le:left ts s<=ts.length:=by unfold left;split<;>omega
theorem zjf (b:ts.length<=3000):∃p q,xB ts 4000 [] (gU ts)=Z p/\xF ts 4000 p.1 p.2=Z q/\za0 ts=Z (.node 1 (za6 ts) 0 q.1,q.2):=by
 have c:=left_le (ts:=ts) (s:=gU ts);obtain⟨p,hp,d⟩:=zsu (ts:=ts) 4000 [] (gU ts) oA;obtain⟨q,a⟩:=ztp (ts:=ts) 4000 p.1 p.2 oA (.inl oA);refine⟨p,q,hp,a,?_⟩;unfold za0;rw[hp];simp only[jf];rw[a];rfl
end
end syn
namespace syn
def opS:List ByteArray:=[empty,⟨#[43]⟩,⟨#[45]⟩,⟨#[42]⟩,⟨#[47]⟩,⟨#[37]⟩,⟨#[38]⟩,⟨#[124]⟩,⟨#[60]⟩,⟨#[61,61]⟩]
def opB:List Int:=[0,1,1,2,2,2,2,1,0,0]
def opAt (k:Nat):ByteArray:=opS.getD k empty
def cW (k:Nat):Int:=opB.getD k 0
end syn
namespace syn
open lexs (Tok)
section
variable {ts:List Tok} {s:St}
theorem zfi:kO empty=X:=zfj (by intro a;exact absurd a.1 oD)
theorem zny (a:s.bad=H):s.fail=s:=by cases s;simp_all [St.fail]
theorem kY {b:ByteArray} (c:0<b.size) (a:s.bad=H):kE ts b s=s:=by
 unfold kE;rw[zJ c a,ju oD];exact zny a
theorem fJ (a:s.bad=H):(name ts s).2=s:=by
 unfold name;rw[zqc a];rw[zfi,ju oD];exact zny a
theorem zqg {a:ByteArray} (c:0<a.size) (b:s.bad=H):eat ts a s=(X,s):=by
 unfold eat
 rw[zJ c b,ju oD]
theorem zg1 (a:s.bad=H):(whole ts s).2=s:=by
 unfold whole;dsimp only;rw[fJ a,zqg oD a];simp
theorem zau (a:s.bad=H):(label ts s).2=s:=by
 unfold label;rw[zJ oD a,ju oD];exact kY oD a
theorem zvk (a:s.bad=H):dR ts s=X:=by unfold dR here;rw[a];rfl
structure Stuck (ts:List Tok) (f:Nat):Prop where
 e:∀(s:St) (q:Tree × St),s.bad=H->qN ts f s=Z q->q.2=s
 b:∀(l:Nat) (s:St) (q:Tree × St),s.bad=H->zK ts f l s=Z q->q.2=s
 bl:∀(l:Nat) (n:Tree) (s:St) (q:Tree × St),s.bad=H->zV ts f l n s=Z q->q.2=s
 u:∀(s:St) (q:Tree × St),s.bad=H->xH ts f s=Z q->q.2=s
 a:∀(s:St) (q:Tree × St),s.bad=H->yL ts f s=Z q->q.2=s
 p:∀(x:ByteArray) (s:St) (q:Tree × St),s.bad=H->yE ts f x s=Z q->q.2=s
 c:∀(x:ByteArray) (s:St) (q:Tree × St),s.bad=H->xI ts f x s=Z q->q.2=s
 cl:∀(x:ByteArray) (ks:List Tree) (s:St) (on:Bool) (q:Tree × St),s.bad=H->xP ts f x ks s on=Z q->q.2=s
theorem qP {α β:Type} {b:Option α} {c:α->Option β} {q:β} (d:b.bind c=Z q):∃a,b=Z a/\c a=Z q:=by
 cases b with
 | none=>simp at d
 | some a=>exact⟨a,rfl,d⟩
theorem stuck (ts:List Tok) (d:Nat):Stuck ts d:=by
 induction d with
 | zero=>exact⟨fun s q _ a=>by simp[qN]at a,fun k s q _ a=>by simp[zK]at a,fun k m s q _ a=>by simp[zV]at a,fun s q _ a=>by simp[xH]at a,fun s q _ a=>by simp[yL]at a,fun g s q _ a=>by simp[yE]at a,fun g s q _ a=>by simp[xI]at a,fun g f s on q _ a=>by simp[xP]at a⟩
 | succ d ih =>
  refine⟨fun s q c a=>?_,fun k s q c a=>?_,fun k m s q c a=>?_,fun s q c a=>?_,fun s q c a=>?_,fun g s q c a=>?_,fun g s q c a=>?_,fun g f s on q c a=>?_⟩;·unfold qN at a;exact zia
  ·unfold zK at a;split at a;·exact ih.u _ _ c a
   ·obtain⟨n,i,j⟩:=qP a;have h:=ih.b _ _ _ c i;rw[<- h];exact ih.bl _ _ _ _ (by rw[h];exact c) j
  ·unfold zV at a;exact zia
  ·unfold xH at a;rw[zJ oD c,zJ oD c,zJ oD c,zvk c,zg1 c,zJ oD c]at a;simp only[jr,if_false]at a;exact ih.p _ _ _ c a
  ·unfold yL at a;obtain⟨n,i,j⟩:=qP a;rw[kY oD c]at i;have h:=ih.e _ _ c i;simp only[jh]at j;rw[<- j,h];exact kY oD c
  ·unfold yE at a;rw[zJ oD c,ju oD]at a;simp only[jh]at a;rw[<- a]
  ·unfold xI at a;rw[kY oD c,zJ oD c,ju oD]at a;exact ih.cl _ _ _ _ _ c a
  ·unfold xP at a;rw[c]at a;simp only[Bool.not_true,Bool.and_false,jr,if_false,jh]at a;rw[<- a];exact kY oD c
structure Stuck2 (ts:List Tok) (f:Nat):Prop where
 bk:∀(s:St) (q:Tree × St),s.bad=H->zS ts f s=Z q->q.2=s
 bl:∀(ks:List Tree) (s:St) (q:Tree × St),s.bad=H->xE ts f ks s=Z q->q.2=s
theorem dL (ts:List Tok) (d:Nat):Stuck2 ts d:=by
 have l:∀(d:Nat) (f:List Tree) (s:St) (q:Tree × St),s.bad=H->xE ts d f s=Z q->q.2=s:=by
  intro d f s q c a
  cases d with
  | zero=>simp[xE]at a
  | succ d =>
   unfold xE at a;exact zia
 refine⟨fun s q c a=>?_,fun f s q c a=>l d f s q c a⟩
 cases d with
 | zero=>simp[zS]at a
 | succ d =>
  unfold zS at a;rw[kY oD c]at a;exact l _ _ _ _ c a
end
end syn
namespace lexs
structure Fine (t:Tok):Prop where
 kinds:t.kind=1\/t.kind=2\/t.kind=3
 ne:t.text≠[]
 word:t.kind=1->t.text.length<=16/\vF (t.text.headD 0)=H/\t.text.all qD=H
 num:t.kind=2->zC t.text=0
 sign:t.kind=3->vF (t.text.headD 0)=X
theorem take_run (p:UInt8->Bool) (a:List UInt8):a.take (run p a)=a.takeWhile p:=by
 unfold run
 induction a with
 | nil=>rfl
 | cons b c ih =>
  rw[List.takeWhile_cons];cases p b;·rfl
  ·simp[ih]
theorem step_fine {b:UInt8} {e:List UInt8} {i:Int} {g o:Nat} (a:qH (b :: e)=.tok i g):Fine ⟨i,(b :: e).take g,o⟩:=by
 have q:=(zdg a).1;obtain⟨d,rfl⟩:∃d,g=d+1:=⟨g - 1,oA⟩
 have m:((b :: e).take (d+1)).headD 0=b:=oC;have h:(b :: e).take (d+1)≠[]:=oC;rw[qH,List.headD_cons,fW]at a;by_cases j:(b==32||b==10)=H;·rw[jv j]at a;simp at a
 rw[ju j]at a;by_cases k:(b==35)=H;·rw[jv k]at a;simp at a
 rw[ju k]at a;cases f:vF b
 ·rw[f]at a;simp only[jr,if_false]at a;cases l:qU b
  ·rw[l]at a;simp only[jr,if_false]at a;split at a;·simp at a
   ·injection a with hk hm;subst hk;refine⟨.inr (.inr rfl),h,fun c=>by simp at c,fun c=>by simp at c,fun _=>?_⟩;show vF (((b :: e).take (d+1)).headD 0)=X;rw[m];exact f
  ·rw[l]at a;simp only[if_true]at a;split at a;·rename_i n;injection a with hk hm;subst hk;refine⟨.inr (.inl rfl),h,fun c=>by simp at c,fun _=>?_,fun c=>by simp at c⟩;rw[<- hm];simpa using n
   ·simp at a
 ·rw[f]at a;simp only[if_true]at a;split at a;·simp at a
  ·rename_i p;injection a with hk hm;subst hk;refine⟨.inl rfl,h,fun _=>⟨?_,?_,?_⟩,fun c=>by simp at c,fun c=>by simp at c⟩;·show((b :: e).take (d+1)).length<=16;rw[List.length_take];omega
   ·show vF (((b :: e).take (d+1)).headD 0)=H;rw[m];exact f
   ·show((b :: e).take (d+1)).all qD=H;rw[<- hm,take_run];exact List.all_takeWhile
theorem scanL_fine:∀(c:Nat) (g:List UInt8) (f:Nat) (b toks:List Tok),qT c g f b=.ok toks->(∀d∈b,Fine d)->∀d∈toks,Fine d
 | 0,g,f,b,toks,h,ha=>by
  unfold qT at h;injection h with h;subst h
  exact ha
 | c+1,[],f,b,toks,h,ha=>by
  unfold qT at h;injection h with h;subst h
  exact ha
 | c+1,i :: r,f,b,toks,h,ha=>by
  cases e:qH (i :: r)with
  | skip j=>rw[zbu e]at h;exact scanL_fine c _ _ _ _ h ha
  | fault k=>rw[zbp e]at h;simp at h
  | tok l j =>
   rw[zao e]at h;refine scanL_fine c _ _ _ _ h ?_;intro d a;rw[List.mem_append]at a;rcases a with a | a
   ·exact ha d a
   ·simp only[jy]at a;subst a;exact step_fine e
theorem scan_fine {d:List UInt8} {toks:List Tok} (a:scan d=.ok toks):∀b∈toks,Fine b:=by
 unfold scan at a;split at a;·simp at a
 ·exact scanL_fine _ _ _ _ _ a (fun b c=>by simp at c)
end lexs
namespace syn
open lexs (Tok Fine qV uZ vF qD qU zC)
def raw (t:Tok):ByteArray:=⟨t.text.toArray⟩
theorem raw_list (a:Tok):(raw a).data.toList=a.text:=rfl
theorem raw_size (a:Tok):(raw a).size=a.text.length:=by rw[<- lexs.len_L,raw_list]
def xQ (x:ByteArray):Bool:=decide (0<x.size)&&!qU (x.data.toList.headD 0)
section
variable {ts:List Tok} {s:St}
theorem zaz (a:s.bad=X):here ts s=ts[s.i]?:=by unfold here;rw[a];rfl
theorem zjv {b:List UInt8} (a:zC b=0):b.all qU=H:=by
 unfold zC at a;cases c:b.all qU;·rw[c]at a;simp at a
 ·rfl
theorem zx3 {a:List UInt8} (c:zC a=0) (d:a≠[]):qU (a.headD 0)=H:=by
 have b:=zjv c
 cases a with
 | nil=>exact absurd rfl d
 | cons e f=>simp only[List.all_cons,jj]at b;exact b.1
theorem zev {a:Tok} (f:Fine a) (j:s.bad=X) (m:ts[s.i]?=Z a) {b:ByteArray} (e:xQ b=H):eqS (txt ts s) b=eqS (raw a) b:=by
 unfold txt;rw[zaz j,m];simp only;unfold xQ at e;simp only[jj,jl,Bool.not_eq_true']at e;cases k:(a.kind==2);·simp only[jr,if_false];rfl
 ·simp only[if_true];have l:a.kind=2:=by simpa using k
  have d:=zx3 (f.num l) f.ne
  have g:eqS empty b=X:=by
   cases c:eqS empty b;·rfl
   ·have:=zda c;omega
  have h:eqS (raw a) b=X:=by
   cases c:eqS (raw a) b;·rfl
   ·exfalso;unfold eqS at c;rw[beq_iff_eq,ByteArray.toList_eq,ByteArray.toList_eq,raw_list]at c;rw[c]at d;rw[e.2]at d;simp at d
  rw[g,h]
theorem zzb (d:ts[s.i]?=none) {b:ByteArray} (a:xQ b=H):eqS (txt ts s) b=X:=by
 cases c:eqS (txt ts s) b;·rfl
 ·exfalso;unfold xQ at a;simp only[jj,jl]at a;have:=zrc a.1 c;rw[List.getElem?_eq_none_iff]at d;omega
def ownName (t:Tok):Bool:=!(xS.any fun y=>eqS y (raw t))&&t.kind==1
theorem zxz {a:Tok} (d:Fine a) (l:s.bad=X) (o:ts[s.i]?=Z a):kO (txt ts s)=ownName a:=by
 unfold txt;rw[zaz l,o];simp only;rcases d.kinds with b | b | b
 ·rw[b];obtain⟨g,h,j⟩:=d.word b;unfold ownName;rw[b]
  have n:1<=(raw a).size:=by
   rw[raw_size];have:=d.ne
   cases c:a.text with
   | nil=>exact absurd c this
   | cons q r=>simp
  have f:kO (raw a)=!(xS.any fun p=>eqS p (raw a)):=by
   unfold kO;rw[raw_list];have c:qV ((a.text.headD 0).toNat:Int)=H:=h;have k:a.text.all (fun e=>uZ (e.toNat:Int))=H:=j;rw[c,k,decide_eq_true ⟨n,by rw[raw_size];exact g⟩];simp
  simp only[show((1:Int)==2)=X from rfl,show((1:Int)==1)=H from rfl,jr,if_false,Bool.and_true];exact f
 ·rw[b];unfold ownName;rw[b];simp[zfi]
 ·rw[b];unfold ownName;rw[b];have m:=d.sign b;have c:qV ((a.text.headD 0).toNat:Int)=X:=m;simp only[show((3:Int)==2)=X from rfl,show((3:Int)==1)=X from rfl,jr,if_false,Bool.and_false];unfold kO;show(_&&qV (((raw a).data.toList.headD 0).toNat:Int)&&_&&_)=X;rw[raw_list,c];simp
theorem zvt (a:ts[s.i]?=none):kO (txt ts s)=X:=by
 have:txt ts s=empty:=by
  unfold txt here;rw[a];cases s.bad<;>rfl
 rw[this];exact zfi
end
end syn
namespace syn
mutual
def kD:Tree->Int
 | .node _ _ _ ks=>kC ks+1
def kC:List Tree->Int
 | []=>0
 | t :: r=>kD t+kC r
end
mutual
def vV:Tree->Int
 | .node _ _ _ ks=>vB ks+1
def vB:List Tree->Int
 | []=>0
 | t :: r=>max (vV t) (vB r)
end
mutual
theorem kU:∀a:Tree,1<=kD a
 | .node _ _ _ ks=>by unfold kD;have:=kX ks;omega
theorem kX:∀a:List Tree,0<=kC a
 | []=>by unfold kC;omega
 | t :: r=>by unfold kC;have b:=kU t;have c:=kX r;omega
end
mutual
theorem zlj:∀a:Tree,1<=vV a
 | .node _ _ _ ks=>by unfold vV;have:=zb5 ks;omega
theorem zb5:∀a:List Tree,0<=vB a
 | []=>by unfold vB;omega
 | t :: r=>by unfold vB;have b:=zlj t;have c:=zb5 r;omega
end
mutual
theorem zlw:∀(a:Tree) (kF:Int),0<=kF->(kD a<=kF->fT a kF=kD a)/\(kF<kD a->kF<fT a kF)
 | .node _ _ _ ks,kF,h=>by
  unfold fT kD;have:=zlv ks 1 kF h oA oA;exact⟨fun b=>by rw[this.1 oA];omega,fun b=>this.2 oA⟩
theorem zlv:∀(b:List Tree) (a kF:Int),0<=kF->1<=a->a<=kF+1->(a+kC b<=kF->fS b a kF=a+kC b)/\(kF<a+kC b->kF<fS b a kF)
 | [],a,kF,d,h1,h2=>by unfold fS kC;exact⟨fun _=>oA,fun d=>oA⟩
 | t :: r,a,kF,d,h1,h2=>by
  unfold fS kC;have j:=kU t;have k:=kX r;split
  ·rename_i i;have c:=zlw t (kF - a) oA;have h:=zi3 t (kF - a) oA;have g:=zlv r (a+fT t (kF - a)) kF d oA oA;refine⟨fun e=>?_,fun e=>?_⟩;·rw[g.1 (by rw[c.1 oA];omega),c.1 oA];omega
   ·rcases Int.lt_or_le (kF - a) (kD t)with f | f
    ·have:=c.2 f;exact g.2 oA
    ·have:=c.1 f;exact g.2 oA
  ·exact⟨fun e=>oA,fun e=>oA⟩
end
mutual
theorem zli:∀(a:Tree) (kF:Int),0<=kF->(vV a<=kF->gT a kF=vV a)/\(kF<vV a->kF<gT a kF)
 | .node _ _ _ ks,kF,h=>by
  unfold gT vV;have p:=zb5 ks;rcases Int.lt_or_le 0 kF with c | c
  ·have:=zlh ks 0 kF c oA oA;have d:max 0 (vB ks)=vB ks:=oA;rw[d]at this;exact⟨fun b=>by rw[this.1 oA],fun b=>by have:=this.2 oA;omega⟩
  ·have e:=zfh ks 0 kF h oA oA;exact⟨fun b=>oA,fun b=>oA⟩
theorem zlh:∀(b:List Tree) (a kF:Int),0<kF->0<=a->a<=kF->(max a (vB b)<=kF - 1->fQ b a kF=max a (vB b))/\(kF - 1<max a (vB b)->kF<=fQ b a kF)
 | [],a,kF,c,h1,h2=>by unfold fQ vB;exact⟨fun _=>oA,fun c=>oA⟩
 | t :: r,a,kF,c,h1,h2=>by
  unfold fQ vB;rw[jv ⟨c,h2⟩];have e:=zli t (kF - 1) oA;have i:=ziy t (kF - 1) oA;have f:=zlh r (max a (gT t (kF - 1))) kF c oA oA;refine⟨fun h=>?_,fun h=>?_⟩;·have g:=e.1 oA;rw[f.1 oA,g];omega
  ·rcases Int.lt_or_le (kF - 1) (vV t)with d | d
   ·have:=e.2 d;exact f.2 oA
   ·have:=e.1 d;exact f.2 oA
end
mutual
def uU:Tree->Int->Int->Option Int
 | .node _ _ _ ks,d,c=>if 16<d\/500<c+1 then none else vS ks (d+1) (c+1)
def vS:List Tree->Int->Int->Option Int
 | [],_,c=>Z c
 | t :: r,d,c=>match uU t d c with
  | none=>none
  | some a=>vS r d a
end
mutual
theorem zc7:∀(c:Tree) (b a:Int),0<=a->a<=500->1<=b->b<=17->uU c b a=if vV c+b<=17/\a+kD c<=500 then Z (a+kD c)else none
 | .node _ _ _ ks,b,a,h1,h2,h3,h4=>by
  unfold uU vV kD;have f:=zb5 ks;have g:=kX ks;by_cases d:16<b\/500<a+1;·rw[jv d,ju oA]
  ·rw[ju d,zj4 ks (b+1) (a+1) oA oA oA oA];by_cases e:vB ks+(b+1)<=17/\a+1+kC ks<=500
   ·rw[jv e,jv oA]
    congr 1
    omega
   ·rw[ju e,ju oA]
theorem zj4:∀(c:List Tree) (b a:Int),0<=a->a<=500->1<=b->b<=17->vS c b a=if vB c+b<=17/\a+kC c<=500 then Z (a+kC c)else none
 | [],b,a,h1,h2,h3,h4=>by
  unfold vS vB kC;rw[jv oA]
  congr 1
  omega
 | t :: r,b,a,h1,h2,h3,h4=>by
  unfold vS vB kC;have f:=kU t;have g:=kX r;have h:=zlj t;have i:=zb5 r;rw[zc7 t b a h1 h2 h3 h4];by_cases d:vV t+b<=17/\a+kD t<=500
  ·rw[jv d];simp only;rw[zj4 r b (a+kD t) oA oA h3 h4];by_cases e:vB r+b<=17/\a+kD t+kC r<=500
   ·rw[jv e,jv oA]
    congr 1
    omega
   ·rw[ju e,ju oA]
  ·rw[ju d];simp only;rw[ju oA]
end
theorem zjh (a:Tree):(uU a 1 0).isSome=fitsT a:=by
 rw[zc7 a 1 0 oA oA oA oA];unfold fitsT;have h:=zlw a 500 oA;have g:=zli a 16 oA;rcases Int.lt_or_le 500 (kD a)with f | f
 ·have d:=h.2 f;have b:¬(vV a+1<=17/\0+kD a<=500):=oA;simp only[jv d,ju b];rfl
 ·have d:¬ 500<fT a 500:=by rw[h.1 f];omega
  simp only[ju d];rcases Int.lt_or_le 16 (vV a)with c | c
  ·have b:¬(vV a+1<=17/\0+kD a<=500):=oA;have e:¬gT a 16<=16:=by have:=g.2 c;omega
   simp only[ju b,decide_eq_false e];rfl
  ·have b:vV a+1<=17/\0+kD a<=500:=oA;have e:gT a 16<=16:=by rw[g.1 c];exact c
   simp only[jv b,decide_eq_true e];rfl
end syn
namespace lexs
theorem zyr {d:List UInt8} {b:Int} (a:qH d=.fault b):b≠0:=by
 unfold qH fW at a;split at a;·simp at a
 split at a;·simp at a
 split at a
 ·split at a;·injection a with a;omega
  ·simp at a
 split at a
 ·split at a;·simp at a
  ·rename_i c;injection a with a;rw[<- a];simpa using c
 split at a;·injection a with a;omega
 ·simp at a
theorem zgf:∀(b:Nat) (f:List UInt8) (e:Nat) (c:List Tok) (a:Int) (p:Nat),qT b f e c=.err a p->a≠0
 | 0,f,e,c,a,p,h=>by unfold qT at h;simp at h
 | b+1,[],e,c,a,p,h=>by unfold qT at h;simp at h
 | b+1,g :: r,e,c,a,p,h=>by
  cases d:qH (g :: r)with
  | skip i=>rw[zbu d]at h;exact zgf b _ _ _ _ _ h
  | fault j =>
   rw[zbp d]at h;injection h with h _;rw[<- h]
   exact zyr d
  | tok k i=>rw[zao d]at h;exact zgf b _ _ _ _ _ h
theorem scan_err {c:List UInt8} {b:Int} {p:Nat} (a:scan c=.err b p):b≠0:=by
 unfold scan at a;split at a;·injection a with a _;omega
 ·exact zgf _ _ _ _ _ _ a
end lexs
namespace chk
def gJ:List UInt8->List UInt8 × Option (List UInt8)
 | []=>([],none)
 | c :: r=>if c=46 then([],Z r)else((c :: (gJ r).1),(gJ r).2)
end chk
namespace face
open lexs (Tok scan)
open syn
mutual
def InT:Tree->Prop
 | .node k _ _ ks=>(k=0\/6<=k)/\InL ks
def InL:List Tree->Prop
 | []=>True
 | t :: r=>InT t/\InL r
end
variable {b c:Int} {d:ByteArray} {e f:Tree}
theorem InL.snoc (b:InT e):∀ {c:List Tree},InL c->InL (c++[e])
 | [],_=>by show InT e/\InL [];exact⟨b,by unfold InL;trivial⟩
 | a :: r,h=>by
  unfold InL at h;show InT a/\InL (r++[e]);exact⟨h.1,InL.snoc b h.2⟩
theorem zat (a:b=0\/6<=b):InT (.node b d c []):=by unfold InT;exact⟨a,by unfold InL;trivial⟩
theorem cF (a:b=0\/6<=b) (f:InT e):InT (.node b d c [e]):=by
 unfold InT InL InL;exact⟨a,f,trivial⟩
theorem zcl (a:b=0\/6<=b) (g:InT e) (h:InT f):InT (.node b d c [e,f]):=by
 unfold InT InL InL InL;exact⟨a,g,h,trivial⟩
theorem zvj {a e v:Tree} (f:b=0\/6<=b) (g:InT a) (h:InT e) (i:InT v):InT (.node b d c [a,e,v]):=by
 unfold InT InL InL InL InL;exact⟨f,g,h,i,trivial⟩
section
variable (ts:List Tok)
structure InE (f:Nat):Prop where
 ex:∀s q,qN ts f s=Z q->InT q.1
 bo:∀l s q,zK ts f l s=Z q->InT q.1
 bl:∀l n s q,InT n->zV ts f l n s=Z q->InT q.1
 un:∀s q,xH ts f s=Z q->InT q.1
 ak:∀s q,yL ts f s=Z q->InT q.1
 pl:∀x s q,yE ts f x s=Z q->InT q.1
 ca:∀x s q,xI ts f x s=Z q->InT q.1
 cl:∀x ks s on q,InL ks->xP ts f x ks s on=Z q->InT q.1
theorem zvz (s:St):InT (number ts s).1:=by
 unfold number;split;·exact zat (.inr oA)
 ·split<;>exact zat (.inr oA)
theorem inE:∀d,InE ts d
 | 0=>by
  constructor;·intro s q a;unfold qN at a;cases a
  ·intro f s q a;unfold zK at a;cases a
  ·intro f i s q c a;unfold zV at a;cases a
  ·intro s q a;unfold xH at a;cases a
  ·intro s q a;unfold yL at a;cases a
  ·intro b s q a;unfold yE at a;cases a
  ·intro b s q a;unfold xI at a;cases a
  ·intro b h s on q e a;unfold xP at a;cases a
 | d+1=>by
  have ih:=inE d;constructor
  ·intro s q a;unfold qN at a;split at a;·cases a;exact zat (.inl rfl)
   ·exact ih.bo _ _ _ a
  ·intro f s q a;unfold zK at a;split at a;·exact ih.un _ _ a
   ·obtain⟨p,hp,a⟩:=jg.1 a;exact ih.bl _ _ _ _ (ih.bo _ _ _ hp) a
  ·intro f i s q c a;unfold zV at a;split at a;·cases a;exact c
   ·split at a;·cases a;exact c
    ·obtain⟨p,hp,a⟩:=jg.1 a;have g:=ih.bo _ _ _ hp;split at a;·cases a;exact zcl (.inr oA) c g
     ·exact ih.bl _ _ _ _ (zcl (.inr oA) c g) a
  ·intro s q a;unfold xH at a;split at a;·obtain⟨p,hp,a⟩:=jg.1 a;cases a;exact cF (.inr oA) (ih.un _ _ hp)
   ·split at a;·obtain⟨p,hp,a⟩:=jg.1 a;cases a;exact cF (.inr oA) (ih.un _ _ hp)
    ·split at a;·exact ih.ak _ _ a
     ·split at a;·cases a;exact zvz ts s
      ·split at a;·exact ih.ca _ _ _ a
       ·exact ih.pl _ _ _ a
  ·intro s q a;unfold yL at a;obtain⟨p,hp,a⟩:=jg.1 a;cases a;show InT p.1;exact ih.ex _ _ hp
  ·intro b s q a;unfold yE at a;split at a;·obtain⟨p,hp,a⟩:=jg.1 a;cases a;exact cF (.inr oA) (ih.ex _ _ hp)
   ·cases a;exact zat (.inr oA)
  ·intro b s q a;unfold xI at a;split at a;·cases a;exact zat (.inr oA)
   ·exact ih.cl _ _ _ _ _ (by unfold InL;trivial) a
  ·intro b h s on q e a;unfold xP at a;split at a;·obtain⟨p,hp,a⟩:=jg.1 a;exact ih.cl _ _ _ _ _ (InL.snoc (ih.ex _ _ hp) e) a
   ·cases a;show InT (.node 18 b 0 h);unfold InT;exact⟨.inr oA,e⟩
structure InS (f:Nat):Prop where
 bl:∀s q,zS ts f s=Z q->InT q.1
 li:∀ks s q,InL ks->xE ts f ks s=Z q->InT q.1
 st:∀s q,vU ts f s=Z q->InT q.1
theorem inS:∀e,InS ts e
 | 0=>by
  constructor;·intro s q a;unfold zS at a;cases a
  ·intro i s q g a;unfold xE at a;cases a
  ·intro s q a;unfold vU at a;cases a
 | e+1=>by
  have ih:=inS e;have c:=inE ts e;constructor;·intro s q a;unfold zS at a;exact ih.li _ _ _ (by unfold InL;trivial) a
  ·intro i s q g a;unfold xE at a;have h:InT (.node 6 empty 0 i):=by unfold InT;exact⟨.inr oA,g⟩
   split at a;·cases a;exact h
   ·split at a;·cases a;exact h
    ·obtain⟨p,hp,a⟩:=jg.1 a;exact ih.li _ _ _ (InL.snoc (ih.st _ _ hp) g) a
  ·intro s q a;unfold vU at a;split at a
   ·obtain⟨d,b,a⟩:=jg.1 a;obtain⟨j,f,a⟩:=jg.1 a;split at a;·obtain⟨m,k,a⟩:=jg.1 a;cases a;exact zvj (.inr oA) (c.ak _ _ b) (ih.bl _ _ f) (ih.bl _ _ k)
    ·cases a;exact zcl (.inr oA) (c.ak _ _ b) (ih.bl _ _ f)
   ·split at a;·obtain⟨d,b,a⟩:=jg.1 a;obtain⟨j,f,a⟩:=jg.1 a;cases a;exact zcl (.inr oA) (c.ak _ _ b) (ih.bl _ _ f)
    ·split at a;·obtain⟨d,b,a⟩:=jg.1 a;cases a;exact cF (.inr oA) (c.ex _ _ b)
     ·split at a;·obtain⟨d,b,a⟩:=jg.1 a;cases a;exact cF (.inr oA) (c.ca _ _ _ b)
      ·split at a;·obtain⟨d,b,a⟩:=jg.1 a;cases a;exact cF (.inr oA) (c.ex _ _ b)
       ·split at a;·obtain⟨d,b,a⟩:=jg.1 a;cases a;exact cF (.inr oA) (c.pl _ _ _ b)
        ·split at a;·obtain⟨d,b,a⟩:=jg.1 a;cases a;exact cF (.inr oA) (c.ex _ _ b)
         ·obtain⟨d,b,a⟩:=jg.1 a;obtain⟨n,l,a⟩:=jg.1 a;cases a;exact zcl (.inr oA) (c.pl _ _ _ b) (c.ex _ _ l)
end
/-! declarations -/
def bI (b:Bool):Int:=if b then 1 else 0
inductive Kid where
 | imp (x:ByteArray)
 | var (x:ByteArray) (p l:Bool) (n:Option Int)
 | proc (x:ByteArray) (p l:Bool) (g:Option Bool) (ps:List (ByteArray × Bool)) (b:Tree)
def gI:Option Bool->Int
 | none=>0
 | some b=>4+4*bI b
def zD (q:ByteArray × Bool):Tree:=.node 5 q.1 (bI q.2) []
def Kid.tree:Kid->Tree
 | .imp x=>.node 2 x 0 []
 | .var x p l none=>.node 3 x (2*bI p+bI l) []
 | .var x p l (Z n)=>.node 3 x (2*bI p+bI l) [.node 15 empty n []]
 | .proc x p l g ps b=>.node 4 x (2*bI p+bI l+gI g) (ps.map zD++[b])
section
variable (ts:List Tok)
theorem bE (s:St):∃a:Bool,(label ts s).1=bI a:=by
 unfold label;split;·exact⟨H,rfl⟩
 ·exact⟨X,rfl⟩
theorem yb6 (s:St):∃p:Bool,cX ts s=2*bI p:=by
 unfold cX;split;·exact⟨H,rfl⟩
 ·exact⟨X,rfl⟩
theorem zxc (p:Bool) (s:St):∃(a:Bool) (d:Option Bool),gR ts (2*bI p) s=2*bI p+bI a+gI d:=by
 obtain⟨a,b⟩:=bE ts s;unfold gR;split
 ·obtain⟨c,e⟩:=bE ts (label ts s).2.next;refine⟨a,Z c,?_⟩;rw[b,e];show _=2*bI p+bI a+(4+4*bI c)
  omega
 ·exact⟨a,none,by rw[b];show _=2*bI p+bI a+0;omega⟩
theorem zv0 (s:St):∃a,(number ts s).1=.node 15 empty a []:=by
 unfold number;split;·exact⟨_,rfl⟩
 ·split<;>exact⟨_,rfl⟩
end
end face
namespace face
open syn
def Kid.good:Kid->Prop
 | .imp x=>x.size<=16
 | .var x _ _ _=>x.size<=16
 | .proc x _ _ _ ps b=>x.size<=16/\(∀q∈ps,q.1.size<=16)/\InT b
end face
namespace face
open lexs (Tok scan scan_len)
open syn
section
variable (ts:List Tok)
theorem name_size (s:St):(name ts s).1.size<=16:=by
 unfold name;split;·rename_i a;unfold kO at a;simp only[jj,jl]at a;exact a.1.1.1.2
 ·exact jz _
end
def Kid.named:Kid->Prop
 | .imp x=>kO x=H
 | .var x _ _ _=>kO x=H
 | .proc x _ _ _ ps _=>kO x=H/\∀q∈ps,kO q.1=H
theorem dZ {b:ByteArray} (a:kO b=H):b.size<=16:=by
 unfold kO at a;simp only[jj,jl]at a;exact a.1.1.1.2
section
variable (ts:List Tok)
theorem qA {s t:St} (c:s.bad=H->t=s) (a:t.bad=X):s.bad=X:=by
 cases b:s.bad;·rfl
 ·rw[c b,b]at a;cases a
theorem dB {s:St} (a:(name ts s).2.bad=X):kO (name ts s).1=H/\s.bad=X:=by
 refine⟨?_,qA (fun c=>fJ c) a⟩;unfold name at a |-;split
 ·assumption
 ·rename_i b;rw[ju b]at a;simp[St.fail]at a
theorem zjy:∀(b:Nat) (a:List Tree) (s:St) (q:List Tree × St),s.bad=H->vR ts b a s=Z q->q.2=s
 | 0,a,s,q,hb,h=>by unfold vR at h;cases h
 | b+1,a,s,q,hb,h=>by
  unfold vR at h;rw[zau hb,fJ hb,zJ oD hb,ju oD]at h;cases h;rfl
theorem params_st (b:Nat) (s:St) (q:List Tree × St) (c:s.bad=H) (a:params ts b s=Z q):q.2=s:=by
 unfold params at a;rw[zJ oD c,ju oD]at a;exact zjy ts b [] s q c a
theorem zjg:∀(b:Nat) (ps:List (ByteArray × Bool)) (s:St) (q:List Tree × St),(∀q∈ps,kO q.1=H)->vR ts b (ps.map zD) s=Z q->q.2.bad=X->∃d:List (ByteArray × Bool),q.1=d.map zD/\∀q∈d,kO q.1=H
 | 0,ps,s,q,hs,h,hb=>by unfold vR at h;cases h
 | b+1,ps,s,q,hs,h,hb=>by
  unfold vR at h;obtain⟨c,g⟩:=bE ts s
  have e:ps.map zD++[.node 5 (name ts (label ts s).2).1 (label ts s).1 []]=(ps++[((name ts (label ts s).2).1,c)]).map zD:=by
   rw[List.map_append,g];rfl
  rw[e]at h
  have key:(name ts (label ts s).2).2.bad=X->∀q∈ps++[((name ts (label ts s).2).1,c)],kO q.1=H:=by
   intro i q a;rw[List.mem_append]at a;rcases a with a | a
   ·exact hs q a
   ·simp only[jy]at a;subst a;exact(dB ts i).1
  split at h;·have f:(name ts (label ts s).2).2.next.bad=X:=qA (fun j=>zjy ts b _ _ _ j h) hb;exact zjg b _ _ _ (key f) h hb
  ·cases h;exact⟨_,rfl,key hb⟩
theorem zve {s:St} (a:s.bad=H):vK ts s=s:=by
 unfold vK;rw[zau a,zJ oD a,ju oD]
theorem ya4 {s:St} (a:s.bad=H):(zY ts s).2=s:=by
 unfold zY;rw[zJ oD a,ju oD]
theorem zp4 {s:St} (a:s.bad=H):zE ts s=s:=by
 unfold zE;rw[zJ oD a,ju oD]
theorem importsL_st (b:Nat) (d:List Tree) (s:St) (q:List Tree × St) (c:s.bad=H) (a:xB ts b d s=Z q):q.2=s:=by
 cases b with
 | zero=>unfold xB at a;cases a
 | succ b =>
  unfold xB at a;rw[zJ oD c,ju oD]at a;cases a;rfl
theorem declsL_st (b:Nat) (d:List Tree) (s:St) (q:List Tree × St) (c:s.bad=H) (a:xF ts b d s=Z q):q.2=s:=by
 cases b with
 | zero=>unfold xF at a;cases a
 | succ b =>
  unfold xF at a;rw[c,Bool.true_or,jv rfl]at a;cases a;rfl
end
end face
namespace chk
open lexs (Tok scan scan_len)
open syn face
def qL (x:ByteArray):Prop:=kO x=H\/∃a b,kO a=H/\kO b=H/\x=a++⟨#[46]⟩++b
inductive ExT:Tree->Prop
 | num (n:Nat):ExT (.node 15 empty n [])
 | nam {x:ByteArray}:qL x->ExT (.node 16 x 0 [])
 | item {x:ByteArray} {e:Tree}:qL x->ExT e->ExT (.node 17 x 0 [e])
 | call {x:ByteArray} {ks:List Tree}:qL x->(∀t∈ks,ExT t)->ExT (.node 18 x 0 ks)
 | op {m:Int} {a b:Tree}:ExT a->ExT b->ExT (.node 19 empty m [a,b])
 | neg {a:Tree}:ExT a->ExT (.node 20 empty 0 [a])
 | nott {a:Tree}:ExT a->ExT (.node 21 empty 0 [a])
inductive PlT:Tree->Prop
 | nam {x:ByteArray}:qL x->PlT (.node 16 x 0 [])
 | item {x:ByteArray} {e:Tree}:qL x->ExT e->PlT (.node 17 x 0 [e])
theorem PlT.ex {b:Tree} (a:PlT b):ExT b:=by
 cases a with
 | nam a=>exact .nam a
 | item a c=>exact .item a c
inductive CaT:Tree->Prop
 | mk {x:ByteArray} {ks:List Tree}:qL x->(∀t∈ks,ExT t)->CaT (.node 18 x 0 ks)
theorem CaT.ex {b:Tree} (a:CaT b):ExT b:=by
 cases a with
 | mk a c=>exact .call a c
mutual
inductive StT:Tree->Prop
 | loc {x:ByteArray} (l:Bool) {e:Tree}:kO x=H->ExT e->StT (.node 7 x (bI l) [e])
 | set {p e:Tree}:PlT p->ExT e->StT (.node 8 empty 0 [p,e])
 | dd {c:Tree}:CaT c->StT (.node 9 empty 0 [c])
 | ift {e b:Tree}:ExT e->BlT b->StT (.node 10 empty 0 [e,b])
 | ife {e b c:Tree}:ExT e->BlT b->BlT c->StT (.node 10 empty 0 [e,b,c])
 | whi {e b:Tree}:ExT e->BlT b->StT (.node 11 empty 0 [e,b])
 | out (l:Bool) {e:Tree}:ExT e->StT (.node 12 empty (bI l) [e])
 | inn (l:Bool) {p:Tree}:PlT p->StT (.node 13 empty (bI l) [p])
 | ret {e:Tree}:ExT e->StT (.node 14 empty 0 [e])
inductive BlT:Tree->Prop
 | mk {ks:List Tree}:(∀t∈ks,StT t)->BlT (.node 6 empty 0 ks)
end
section
variable (ts:List Tok)
theorem znu (a:ByteArray) (s:St):(eat ts a s).2.bad=s.bad:=by
 unfold eat
 split<;>rfl
theorem zbv {s:St} (a:(whole ts s).2.bad=X):qL (whole ts s).1/\s.bad=X:=by
 refine⟨?_,qA (fun d=>zg1 d) a⟩;unfold whole at a |-;dsimp only at a |-;split at a;·rename_i b;rw[jv b];obtain⟨f,c⟩:=dB ts a;rw[znu]at c;obtain⟨e,_⟩:=dB ts c;exact .inr ⟨_,_,e,f,rfl⟩
 ·rename_i b;rw[ju b];exact .inl (dB ts a).1
structure ShE (f:Nat):Prop where
 ex:∀s q,qN ts f s=Z q->q.2.bad=X->ExT q.1
 bo:∀l s q,zK ts f l s=Z q->q.2.bad=X->ExT q.1
 bl:∀l n s q,ExT n->zV ts f l n s=Z q->q.2.bad=X->ExT q.1
 un:∀s q,xH ts f s=Z q->q.2.bad=X->ExT q.1
 ak:∀s q,yL ts f s=Z q->q.2.bad=X->ExT q.1
 pl:∀x s q,qL x->yE ts f x s=Z q->q.2.bad=X->PlT q.1
 ca:∀x s q,qL x->xI ts f x s=Z q->q.2.bad=X->CaT q.1
 cl:∀x ks s on q,qL x->(∀t∈ks,ExT t)->xP ts f x ks s on=Z q->q.2.bad=X->CaT q.1
theorem zvy {s:St} (a:(number ts s).2.bad=X):ExT (number ts s).1:=by
 unfold number at a |-
 cases b:here ts s with
 | none=>rw[b]at a;simp[St.fail]at a
 | some d =>
  rw[b]at a;dsimp only at a |-;split at a;·rename_i c;rw[jv c];exact .num _
  ·simp[St.fail]at a
theorem shE:∀j,ShE ts j
 | 0=>by
  constructor;·intro s q a;unfold qN at a;cases a
  ·intro m s q a;unfold zK at a;cases a
  ·intro m r s q g a;unfold zV at a;cases a
  ·intro s q a;unfold xH at a;cases a
  ·intro s q a;unfold yL at a;cases a
  ·intro i s q d a;unfold yE at a;cases a
  ·intro i s q d a;unfold xI at a;cases a
  ·intro i o s on q d l a;unfold xP at a;cases a
 | j+1=>by
  have ih:=shE j;have h:=Go.Proofs.YtbjppepjmcfkaaaGreatDoor.syn.stuck ts j;constructor
  ·intro s q a b;unfold qN at a;split at a;·rename_i n;cases a;rw[n]at b;cases b
   ·exact ih.bo _ _ _ a b
  ·intro m s q a b;unfold zK at a;split at a;·exact ih.un _ _ a b
   ·obtain⟨p,hp,a⟩:=jg.1 a;have e:p.2.bad=X:=qA (fun d=>h.bl _ _ _ _ d a) b;exact ih.bl _ _ _ _ (ih.bo _ _ _ hp e) a b
  ·intro m r s q g a b;unfold zV at a;split at a;·cases a;exact g
   ·split at a;·cases a;exact g
    ·obtain⟨p,hp,a⟩:=jg.1 a;split at a;·cases a;exact .op g (ih.bo _ _ _ hp b)
     ·have e:p.2.bad=X:=qA (fun d=>h.bl _ _ _ _ d a) b;exact ih.bl _ _ _ _ (.op g (ih.bo _ _ _ hp e)) a b
  ·intro s q a b;unfold xH at a;split at a;·obtain⟨p,hp,a⟩:=jg.1 a;cases a;exact .neg (ih.un _ _ hp b)
   ·split at a;·obtain⟨p,hp,a⟩:=jg.1 a;cases a;exact .nott (ih.un _ _ hp b)
    ·split at a;·exact ih.ak _ _ a b
     ·split at a;·cases a;exact zvy ts b
      ·split at a;·have e:(whole ts s).2.bad=X:=qA (fun d=>h.c _ _ _ d a) b;exact(ih.ca _ _ _ (zbv ts e).1 a b).ex
       ·have e:(whole ts s).2.bad=X:=qA (fun d=>h.p _ _ _ d a) b;exact(ih.pl _ _ _ (zbv ts e).1 a b).ex
  ·intro s q a b;unfold yL at a;obtain⟨p,hp,a⟩:=jg.1 a;cases a;have e:p.2.bad=X:=qA (t:=kE ts ⟨#[41]⟩ p.2) (fun d=>kY oD d) b;show ExT p.1;exact ih.ex _ _ hp e
  ·intro i s q d a b;unfold yE at a;split at a;·obtain⟨p,hp,a⟩:=jg.1 a;cases a;exact .item d (ih.ex _ _ hp (qA (fun d=>kY oD d) b))
   ·cases a;exact .nam d
  ·intro i s q d a b;unfold xI at a;split at a;·cases a;exact .mk d (fun k f=>by cases f)
   ·exact ih.cl _ _ _ _ _ d (fun k f=>by cases f) a b
  ·intro i o s on q d l a b;unfold xP at a;split at a
   ·obtain⟨p,hp,a⟩:=jg.1 a;have e:(eat ts ⟨#[44]⟩ p.2).2.bad=X:=qA (fun d=>h.cl _ _ _ _ _ d a) b;rw[znu]at e;refine ih.cl _ _ _ _ _ d ?_ a b;intro k f;rw[List.mem_append]at f;rcases f with f | f
    ·exact l k f
    ·simp only[jy]at f;subst f;exact ih.ex _ _ hp e
   ·cases a;exact .mk d l
structure ShS (f:Nat):Prop where
 bl:∀s q,zS ts f s=Z q->q.2.bad=X->BlT q.1
 li:∀ks s q,(∀t∈ks,StT t)->xE ts f ks s=Z q->q.2.bad=X->BlT q.1
 st:∀s q,vU ts f s=Z q->q.2.bad=X->StT q.1
theorem shS:∀m,ShS ts m
 | 0=>by
  constructor;·intro s q a;unfold zS at a;cases a
  ·intro B s q v a;unfold xE at a;cases a
  ·intro s q a;unfold vU at a;cases a
 | m+1=>by
  have ih:=shS m;have i:=shE ts m;have t:=Go.Proofs.YtbjppepjmcfkaaaGreatDoor.syn.stuck ts m;have r:=dL ts m;constructor;·intro s q a f;unfold zS at a;exact ih.li _ _ _ (fun y j=>by cases j) a f
  ·intro B s q v a f;unfold xE at a;split at a;·cases a;exact .mk v
   ·split at a;·cases a;exact .mk v
    ·obtain⟨p,hp,a⟩:=jg.1 a;have c:p.2.bad=X:=qA (fun d=>r.bl _ _ _ d a) f;refine ih.li _ _ _ ?_ a f;intro y j;rw[List.mem_append]at j;rcases j with j | j
     ·exact v y j
     ·simp only[jy]at j;subst j;exact ih.st _ _ hp c
  ·intro s q a f;unfold vU at a;split at a
   ·obtain⟨g,d,a⟩:=jg.1 a;obtain⟨w,k,a⟩:=jg.1 a;split at a;·obtain⟨D,x,a⟩:=jg.1 a;cases a;have c:w.2.next.bad=X:=qA (fun b=>r.bk _ _ b x) f;replace c:w.2.bad=X:=c;have h:g.2.bad=X:=qA (fun b=>r.bk _ _ b k) c;exact .ife (i.ak _ _ d h) (ih.bl _ _ k c) (ih.bl _ _ x f)
    ·cases a;have h:g.2.bad=X:=qA (fun b=>r.bk _ _ b k) f;exact .ift (i.ak _ _ d h) (ih.bl _ _ k f)
   ·split at a;·obtain⟨g,d,a⟩:=jg.1 a;obtain⟨w,k,a⟩:=jg.1 a;cases a;have h:g.2.bad=X:=qA (fun b=>r.bk _ _ b k) f;exact .whi (i.ak _ _ d h) (ih.bl _ _ k f)
    ·split at a;·obtain⟨g,d,a⟩:=jg.1 a;cases a;have c:g.2.bad=X:=qA (fun b=>kY oD b) f;have h:(kE ts ⟨#[61]⟩ (name ts (label ts s).2).2).bad=X:=qA (fun b=>t.e _ _ b d) c;have u:(name ts (label ts s).2).2.bad=X:=qA (fun b=>kY oD b) h;obtain⟨o,n⟩:=bE ts s;rw[n];exact .loc o (dB ts u).1 (i.ex _ _ d c)
     ·split at a;·obtain⟨g,d,a⟩:=jg.1 a;cases a;have c:g.2.bad=X:=qA (fun b=>kY oD b) f;have h:(whole ts s.next).2.bad=X:=qA (fun b=>t.c _ _ _ b d) c;exact .dd (i.ca _ _ _ (zbv ts h).1 d c)
      ·split at a;·obtain⟨g,d,a⟩:=jg.1 a;cases a;have c:g.2.bad=X:=qA (fun b=>kY oD b) f;obtain⟨o,n⟩:=bE ts s.next;rw[n];exact .out o (i.ex _ _ d c)
       ·split at a;·obtain⟨g,d,a⟩:=jg.1 a;cases a;have c:g.2.bad=X:=qA (fun b=>kY oD b) f;have h:(whole ts (label ts s.next).2).2.bad=X:=qA (fun b=>t.p _ _ _ b d) c;obtain⟨o,n⟩:=bE ts s.next;rw[n];exact .inn o (i.pl _ _ _ (zbv ts h).1 d c)
        ·split at a;·obtain⟨g,d,a⟩:=jg.1 a;cases a;have c:g.2.bad=X:=qA (fun b=>kY oD b) f;exact .ret (i.ex _ _ d c)
         ·obtain⟨g,d,a⟩:=jg.1 a;obtain⟨C,b,a⟩:=jg.1 a;cases a;have c:C.2.bad=X:=qA (fun l=>kY oD l) f;have h:(kE ts ⟨#[61]⟩ g.2).bad=X:=qA (fun l=>t.e _ _ l b) c;have u:g.2.bad=X:=qA (fun l=>kY oD l) h;have z:(whole ts s).2.bad=X:=qA (fun l=>t.p _ _ _ l d) u;exact .set (i.pl _ _ _ (zbv ts z).1 d u) (i.ex _ _ b c)
end
def gE:Kid->Prop
 | .proc _ _ _ _ _ b=>BlT b
 | _=>True
section
variable (ts:List Tok)
theorem zw4 (c:Nat) (s:St) (q:Tree × St) (b:dQ ts c s=Z q) (r:q.2.bad=X):∃i:Kid,q.1=i.tree/\i.good/\i.named/\gE i/\s.bad=X:=by
 unfold dQ at b;obtain⟨p,hp⟩:=yb6 ts s;rw[hp]at b;split at b
 ·obtain⟨d,e,b⟩:=jg.1 b;obtain⟨u,o,b⟩:=jg.1 b;cases b;have l:(vK ts (kE ts ⟨#[41]⟩ d.2)).bad=X:=qA (fun a=>(dL ts c).bk _ _ a o) r;have m:(kE ts ⟨#[41]⟩ d.2).bad=X:=qA (fun a=>zve ts a) l;have g:d.2.bad=X:=qA (fun a=>kY oD a) m;have n:(kE ts ⟨#[40]⟩ (name ts (zE ts s).next).2).bad=X:=qA (fun a=>params_st ts c _ _ a e) g;have h:(name ts (zE ts s).next).2.bad=X:=qA (fun a=>kY oD a) n;obtain⟨k,v⟩:=dB ts h;have w:s.bad=X:=qA (fun a=>zp4 ts a) v
  obtain⟨ps,C,t⟩:∃ps:List (ByteArray × Bool),d.1=ps.map zD/\∀q∈ps,kO q.1=H:=by
   unfold params at e;split at e;·cases e;exact⟨[],rfl,fun q f=>by cases f⟩
   ·exact zjg ts c [] _ _ (fun q f=>by cases f) e g
  obtain⟨j,x,y⟩:=zxc ts p (kE ts ⟨#[41]⟩ d.2);refine⟨.proc (name ts (zE ts s).next).1 p j x ps u.1,?_,⟨face.name_size ts _,fun q f=>dZ (t q f),(inS ts c).bl _ _ o⟩,⟨k,t⟩,(shS ts c).bl _ _ o r,w⟩;show Tree.node 4 _ _ _=Tree.node 4 _ _ _;rw[y,C]
 ·cases b;have l:(zY ts (name ts (label ts (zE ts s)).2).2).2.bad=X:=qA (fun a=>kY oD a) r;have m:(name ts (label ts (zE ts s)).2).2.bad=X:=qA (fun a=>ya4 ts a) l;obtain⟨k,g⟩:=dB ts m;have n:(zE ts s).bad=X:=qA (fun a=>zau a) g;have h:s.bad=X:=qA (fun a=>zp4 ts a) n;obtain⟨j,z⟩:=bE ts (zE ts s);rw[z];unfold zY;split;·obtain⟨D,B⟩:=zv0 ts (name ts (label ts (zE ts s)).2).2.next;rw[B];exact⟨.var _ p j (Z D),rfl,face.name_size ts _,k,trivial,h⟩
  ·exact⟨.var _ p j none,rfl,face.name_size ts _,k,trivial,h⟩
theorem zi1:∀(d:Nat) (c:List Kid) (s:St) (q:List Tree × St),(∀a∈c,a.good/\a.named/\gE a)->xB ts d (c.map Kid.tree) s=Z q->q.2.bad=X->∃f:List Kid,q.1=f.map Kid.tree/\∀a∈f,a.good/\a.named/\gE a
 | 0,c,s,q,hk,h,hb=>by unfold xB at h;cases h
 | d+1,c,s,q,hk,h,hb=>by
  unfold xB at h;split at h
  ·have j:c.map Kid.tree++[.node 2 (name ts s.next).1 0 []]=(c++[Kid.imp (name ts s.next).1]).map Kid.tree:=by rw[List.map_append];rfl
   rw[j]at h;have g:(kE ts ⟨#[59]⟩ (name ts s.next).2).bad=X:=qA (fun e=>importsL_st ts d _ _ _ e h) hb;have i:(name ts s.next).2.bad=X:=qA (fun e=>kY oD e) g;refine zi1 d _ _ _ ?_ h hb;intro a b;rw[List.mem_append]at b;rcases b with b | b
   ·exact hk a b
   ·simp only[jy]at b;subst b;exact⟨face.name_size ts _,(dB ts i).1,trivial⟩
  ·cases h;exact⟨c,rfl,hk⟩
theorem zjl:∀(e:Nat) (d:List Kid) (s:St) (q:List Tree × St),(∀b∈d,b.good/\b.named/\gE b)->xF ts e (d.map Kid.tree) s=Z q->q.2.bad=X->∃f:List Kid,q.1=f.map Kid.tree/\∀b∈f,b.good/\b.named/\gE b
 | 0,d,s,q,hk,a,hb=>by unfold xF at a;cases a
 | e+1,d,s,q,hk,a,hb=>by
  unfold xF at a;split at a;·cases a;exact⟨d,rfl,hk⟩
  ·obtain⟨p,hp,a⟩:=jg.1 a;have g:p.2.bad=X:=qA (fun m=>declsL_st ts e _ _ _ m a) hb;obtain⟨b,i,j,k,l,_⟩:=zw4 ts _ _ _ hp g;have h:d.map Kid.tree++[p.1]=(d++[b]).map Kid.tree:=by rw[List.map_append,i];rfl
   rw[h]at a;refine zjl e _ _ _ ?_ a hb;intro n c;rw[List.mem_append]at c;rcases c with c | c
   ·exact hk n c
   ·simp only[jy]at c;subst c;exact⟨j,k,l⟩
end
theorem zi4 (g:ByteArray) (a:(parse g).code=0):∃(j:ByteArray) (f:List Kid),(parse g).tree=.node 1 j 0 (f.map Kid.tree)/\j.size<=16/\kO j=H/\(∀e∈f,e.good/\e.named/\gE e)/\fitsT (parse g).tree=H:=by
 unfold parse at a |-
 cases d:scan g.data.toList with
 | err v p =>
  rw[d]at a
  exact absurd a (lexs.scan_err d)
 | ok ts =>
  obtain⟨p,q,hp,i,t⟩:=zjf (ts:=ts) (scan_len d);rw[d]at a;simp only[t]at a |-;unfold dS at a |-
  cases c:q.2.bad with
  | true =>
   rw[jv c]at a
   simp at a
  | false =>
   rw[ju (by simp[c])]at a |-
   cases l:fitsT (.node 1 (za6 ts) 0 q.1)with
   | false =>
    rw[ju (by simp[l])]at a
    simp at a
   | true =>
    rw[jv rfl];have k:p.2.bad=X:=qA (fun b=>declsL_st ts _ _ _ _ b i) c;have m:(gU ts).bad=X:=qA (fun b=>importsL_st ts _ _ _ _ b hp) k;have n:(name ts (kE ts ⟨#[109,111,100,117,108,101]⟩ ⟨0,X⟩)).2.bad=X:=qA (fun b=>kY oD b) m;obtain⟨f,o,h⟩:=zi1 ts _ [] _ _ (fun e h=>by cases h) hp k;rw[o]at i;obtain⟨u,r,s⟩:=zjl ts _ f _ _ h i c;exact⟨za6 ts,u,by show Tree.node 1 _ 0 q.1=_;rw[r],face.name_size ts _,(dB ts n).1,s,l⟩
end chk
namespace face
structure VarD where
 name:ByteArray
 pub:Bool
 label:Int
 size:Int
structure ProcD where
 name:ByteArray
 pub:Bool
 params:List Int
 writes:Int
 gives:Bool
 given:Int
structure FaceD where
 module:ByteArray
 vars:List VarD
 procs:List ProcD
instance:Inhabited VarD:=⟨⟨default,default,default,default⟩⟩
instance:Inhabited ProcD:=⟨⟨default,default,default,default,default,default⟩⟩
end face
namespace face
open syn (kO eqS)
def yH (n:Int):Bool:=n==0||n==1
def gP (v:VarD):Bool:=kO v.name&&(v.pub&&(yH v.label&&(decide (0<=v.size)&&decide (v.size<=64))))
def gB (p:ProcD):Bool:=kO p.name&&(p.pub&&(decide (p.params.length<=5)&&(p.params.all yH&&(yH p.writes&&(yH p.given&&(p.gives||p.given==0))))))
def kJ (l:List ByteArray) (x:ByteArray):Bool:=l.any fun y=>eqS y x
def apartB:List ByteArray->List ByteArray->Bool
 | _,[]=>H
 | seen,x :: r=>!kJ seen x&&apartB (seen++[x]) r
def zn7 (f:FaceD):List ByteArray:=f.vars.map (·.name)++f.procs.map (·.name)
def cU (f:FaceD):Bool:=kO f.module&&(decide (f.vars.length+f.procs.length<=20)&&(f.vars.all gP&&(f.procs.all gB&&apartB [] (zn7 f))))
end face
namespace face
open syn
def dY:List ByteArray->List (ByteArray × Bool)->Int->Option (Int × Int)
 | _,[],_=>none
 | seen,q :: r,a=>if kJ seen q.1 then Z (5,a)else dY (seen++[q.1]) r (a+1)
def gC:Option Int->Int->Option (Int × Int)
 | none,_=>none
 | some n,a=>if n<1\/64<n then Z (6,a)else none
def kV (m:ByteArray):List Kid->List ByteArray->List ByteArray->Int->Option (Int × Int)
 | [],_,_,_=>none
 | .imp x :: r,is,ns,a=>if kJ is x||eqS x m then Z (5,a)else if 5<=is.length then Z (1,a)else kV m r (is++[x]) ns (a+1)
 | .var x p l n :: r,is,ns,a=>if kJ ns x then Z (5,a)else if 20<=ns.length then Z (1,a)else
  match gC n a with
  | some e=>Z e
  | none=>kV m r is (ns++[x]) (a+kD (Kid.var x p l n).tree)
 | .proc x p l g ps b :: r,is,ns,a=>if kJ ns x then Z (5,a)else if 20<=ns.length then Z (1,a)else if 5<ps.length then Z (1,a)else
  match dY [] ps (a+1)with
  | some e=>Z e
  | none=>kV m r is (ns++[x]) (a+kD (Kid.proc x p l g ps b).tree)
def yW (x:ByteArray) (p l:Bool) (n:Option Int):VarD:=⟨x,p,bI l,n.getD 0⟩
def qB (x:ByteArray) (p l:Bool) (g:Option Bool) (ps:List (ByteArray × Bool)):ProcD:=⟨x,p,ps.map fun q=>bI q.2,bI l,g.isSome,bI (g.getD X)⟩
def kS:List Kid->List ByteArray
 | []=>[]
 | .imp x :: r=>x :: kS r
 | _ :: r=>kS r
def kW (all:Bool):List Kid->List VarD
 | []=>[]
 | .var x p l n :: r=>if all||p then yW x p l n :: kW all r else kW all r
 | _ :: r=>kW all r
def kZ (all:Bool):List Kid->List ProcD
 | []=>[]
 | .proc x p l g ps b :: r=>if all||p then qB x p l g ps :: kZ all r else kZ all r
 | _ :: r=>kZ all r
def qQ (all:Bool) (m:ByteArray) (ks:List Kid):FaceD:=⟨m,kW all ks,kZ all ks⟩
theorem zad:∀(b a:List Kid),kS (b++a)=kS b++kS a
 | [],a=>rfl
 | .imp x :: r,a=>by show x :: kS (r++a)=x :: (kS r++kS a);rw[zad r a]
 | .var _ _ _ _ :: r,a=>zad r a
 | .proc _ _ _ _ _ _ :: r,a=>zad r a
theorem zbo (all:Bool):∀(b a:List Kid),kW all (b++a)=kW all b++kW all a
 | [],a=>rfl
 | .imp x :: r,a=>zbo all r a
 | .var x p l n :: r,a=>by
  show(if all||p then yW x p l n :: kW all (r++a)else kW all (r++a))=(if all||p then yW x p l n :: kW all r else kW all r)++kW all a;rw[zbo all r a]
  split<;>rfl
 | .proc _ _ _ _ _ _ :: r,a=>zbo all r a
theorem zbk (all:Bool):∀(b a:List Kid),kZ all (b++a)=kZ all b++kZ all a
 | [],a=>rfl
 | .imp x :: r,a=>zbk all r a
 | .var _ _ _ _ :: r,a=>zbk all r a
 | .proc x p l g ps c :: r,a=>by
  show(if all||p then qB x p l g ps :: kZ all (r++a)else kZ all (r++a))=(if all||p then qB x p l g ps :: kZ all r else kZ all r)++kZ all a;rw[zbk all r a];split<;>rfl
def Kid.kind:Kid->Int
 | .imp _=>2
 | .var _ _ _ _=>3
 | .proc _ _ _ _ _ _=>4
def Kid.text:Kid->ByteArray
 | .imp x=>x
 | .var x _ _ _=>x
 | .proc x _ _ _ _ _=>x
def Kid.num:Kid->Int
 | .imp _=>0
 | .var _ p l _=>2*bI p+bI l
 | .proc _ p l g _ _=>2*bI p+bI l+gI g
def Kid.kids:Kid->List Tree
 | .imp _=>[]
 | .var _ _ _ none=>[]
 | .var _ _ _ (Z n)=>[.node 15 empty n []]
 | .proc _ _ _ _ ps b=>ps.map zD++[b]
theorem Kid.tree_is (a:Kid):a.tree=.node a.kind a.text a.num a.kids:=by
 cases a with
 | imp b=>rfl
 | var b p c d=>cases d<;>rfl
 | proc b p c f ps e=>rfl
end face
namespace chk
open syn face
inductive Res (α:Type) where
 | bad (c a:Int)
 | ok (x:α)
def jn (a b:Int):Int:=if a≠0\/b≠0 then 1 else 0
structure Env where
 own:FaceD
 faces:List FaceD
structure Loc where
 name:ByteArray
 label:Int
 deep:Int
def zT (x:ByteArray):ByteArray:=match gJ x.data.toList with
 | (a,Z _)=>⟨a.toArray⟩
 | (_,none)=>empty
def vL (x:ByteArray):ByteArray:=match gJ x.data.toList with
 | (_,Z b)=>⟨b.toArray⟩
 | (_,none)=>x
def cJ (E:Env) (x:ByteArray):Option FaceD:=if(zT x).size=0 then Z E.own else E.faces.find? fun f=>eqS f.module (zT x)
def zbc (l:List VarD) (x:ByteArray):Option VarD:=l.find? fun v=>eqS v.name x
def zib (l:List ProcD) (x:ByteArray):Option ProcD:=l.find? fun p=>eqS p.name x
def cY (E:Env) (L:List Loc) (x:ByteArray):Option (Int × Int) :=
 match L.reverse.find? (fun l=>eqS l.name x)with
 | some l=>Z (l.label,0)
 | none=>match cJ E x with
  | none=>none
  | some f=>(zbc f.vars (vL x)).map fun v=>(v.label,v.size)
def procF (E:Env) (x:ByteArray):Option ProcD:=match cJ E x with
 | none=>none
 | some f=>zib f.procs (vL x)
def bT:List Int->List Int->Bool
 | [],_=>H
 | _,[]=>H
 | p :: r,l :: s=>(p==1||l==0)&&bT r s
def joinL:List Int->Int->Int
 | [],l=>l
 | x :: r,l=>joinL r (jn l x)
def yV (E:Env) (L:List Loc) (ctx:Int) (alone:Bool) (k:Int) (x:ByteArray) (b:List Int) (a:Int):Res Int :=
 if k=16 then match cY E L x with
  | none=>.bad 4 a
  | some v=>if v.2=0 then .ok v.1 else .bad 3 a
 else if k=17 then match cY E L x with
  | none=>.bad 4 a
  | some v=>if 0<v.2 then .ok (jn (joinL b 0) v.1)else .bad 3 a
 else if k=18 then match procF E x with
  | none=>.bad 4 a
  | some p=>if p.params.length≠b.length then .bad 6 a else if p.gives=X/\alone=X then .bad 3 a else if bT p.params b=X then .bad 7 a else if p.writes≠1/\ctx≠0 then .bad 7 a else .ok p.given
 else .ok (joinL b 0)
section
variable (E:Env) (L:List Loc) (ctx:Int)
mutual
def exF (alone:Bool):Tree->Int->Res (Int × Int)
 | .node k x _ ks,a=>match exL ks (a+1)with
  | .bad c b=>.bad c b
  | .ok q=>match yV E L ctx alone k x q.1 a with
   | .bad c b=>.bad c b
   | .ok l=>.ok (l,q.2)
def exL:List Tree->Int->Res (List Int × Int)
 | [],a=>.ok ([],a)
 | t :: r,a=>match exF X t a with
  | .bad c b=>.bad c b
  | .ok q=>match exL r q.2 with
   | .bad c b=>.bad c b
   | .ok s=>.ok (q.1 :: s.1,s.2)
end
end
def plF (E:Env) (L:List Loc) (ctx:Int):Tree->Int->Res (Int × Int × Int)
 | .node k x m ks,a=>match exL E L ctx ks (a+1)with
  | .bad c b=>.bad c b
  | .ok q=>match yV E L ctx X k x q.1 a with
   | .bad c b=>.bad c b
   | .ok _=>.ok (((cY E L x).map (·.1)).getD 0,joinL q.1 0,q.2)
def hi (a b c:Int):Bool:=a==1||b==1||c==1
structure Pr where
 gives:Bool
 given:Int
section
variable (E:Env) (p:Pr)
def xL (L:List Loc) (ctx d:Int) (f:Bool) (k:Int) (x:ByteArray) (m:Int) (ks:List Tree) (a:Int):Res (List Loc × Int) :=
 if k=7 then match exL E L ctx ks (a+1)with
  | .bad c b=>.bad c b
  | .ok q=>if L.any (fun l=>l.deep==d&&eqS l.name x)then .bad 5 a else if 20<=L.length then .bad 1 a else if m≠1/\hi (joinL q.1 0) ctx 0=H then .bad 7 a else .ok (L++[⟨x,m,d⟩],q.2)
 else if k=8 then match ks with
  | [t,e]=>match plF E L ctx t (a+1)with
   | .bad c b=>.bad c b
   | .ok q=>match exF E L ctx X e q.2.2 with
    | .bad c b=>.bad c b
    | .ok s=>if q.1≠1/\hi s.1 q.2.1 ctx=H then .bad 7 a else .ok (L,s.2)
  | _=>.ok (L,a)
 else if k=9 then match ks with
  | [t]=>match exF E L ctx H t (a+1)with
   | .bad c b=>.bad c b
   | .ok q=>.ok (L,q.2)
  | _=>.ok (L,a)
 else if k=12 then match exL E L ctx ks (a+1)with
  | .bad c b=>.bad c b
  | .ok q=>if m≠1/\hi (joinL q.1 0) ctx 0=H then .bad 7 a else .ok (L,q.2)
 else if k=13 then match ks with
  | [t]=>match plF E L ctx t (a+1)with
   | .bad c b=>.bad c b
   | .ok q=>if m≠1/\ctx≠0 then .bad 7 a else if q.1≠1/\hi m q.2.1 ctx=H then .bad 7 a else .ok (L,q.2.2)
  | _=>.ok (L,a)
 else match exL E L ctx ks (a+1)with
  | .bad c b=>.bad c b
  | .ok q=>if(f&&p.gives)=X then .bad 2 a else if p.given≠1/\joinL q.1 0≠0 then .bad 7 a else .ok (L,q.2)
mutual
def stF (ctx d:Int) (f:Bool):Tree->List Loc->Int->Res (List Loc × Int)
 | .node k x m ks,L,a=>if k=10\/k=11 then match ks with
   | []=>.ok (L,a)
   | e :: r=>match exF E L ctx X e (a+1)with
    | .bad c b=>.bad c b
    | .ok q=>yG (jn ctx q.1) (d+1) r L q.2
  else xL E p L ctx d f k x m ks a
def yG (ctx d:Int):List Tree->List Loc->Int->Res (List Loc × Int)
 | [],L,a=>.ok (L,a)
 | t :: r,L,a=>match blF ctx d t L a with
  | .bad c b=>.bad c b
  | .ok q=>yG ctx d r q.1 q.2
def blF (ctx d:Int):Tree->List Loc->Int->Res (List Loc × Int)
 | .node _ _ _ ks,L,a=>match zM ctx d ks L (a+1)with
  | .bad c b=>.bad c b
  | .ok q=>.ok (q.1.take L.length,q.2)
def zM (ctx d:Int):List Tree->List Loc->Int->Res (List Loc × Int)
 | [],L,a=>.ok (L,a)
 | t :: r,L,a=>match stF ctx d (decide (d=1)&&r.isEmpty) t L a with
  | .bad c b=>.bad c b
  | .ok q=>zM ctx d r q.1 q.2
end
end
def prF (E:Env) (q:ProcD) (ps:List (ByteArray × Bool)) (b:Tree) (e:Bool) (a:Int):Res Int :=
 match blF E ⟨q.gives,q.given⟩ q.writes 1 b (ps.map fun p=>⟨p.1,bI p.2,1⟩) (a+1+ps.length)with
 | .bad c d=>.bad c d
 | .ok s=>if q.gives=H/\e=X then .bad 2 a else .ok s.2
def gF:Tree->Bool
 | .node _ _ _ ks=>match ks.getLast? with
  | some (.node k _ _ _)=>k==14
  | none=>X
def moF (own:FaceD) (e:List FaceD):List Kid->List FaceD->Int->Option (Int × Int)
 | [],_,_=>none
 | .imp x :: r,fs,a=>match e.find? (fun f=>eqS f.module x)with
  | none=>Z (4,a)
  | some f=>moF own e r (fs++[f]) (a+1)
 | .var x p l n :: r,fs,a=>moF own e r fs (a+1+(Kid.var x p l n).kids.length)
 | .proc x p l g ps b :: r,fs,a=>match prF ⟨own,fs⟩ (qB x p l g ps) ps b (gF b) a with
  | .bad c d=>Z (c,d)
  | .ok d=>moF own e r fs d
variable {e:ByteArray}
theorem zfz:∀(a:List UInt8),(∀c∈a,c≠46)->gJ a=(a,none)
 | [],_=>rfl
 | c :: r,h=>by
  unfold gJ;rw[ju (h c (jJ)),zfz r (fun b d=>h b (jF _ d))]
theorem zby:∀(c a:List UInt8),(∀b∈c,b≠46)->gJ (c++46 :: a)=(c,Z a)
 | [],a,_=>by show gJ (46 :: a)=_;unfold gJ;rw[jv rfl]
 | b :: r,a,h=>by
  show gJ (b :: (r++46 :: a))=_;unfold gJ;rw[ju (h b (jJ)),zby r a (fun d e=>h d (jF _ e))]
theorem zaf (b:kO e=H):∀a∈e.data.toList,a≠46:=by
 intro a f d;unfold kO at b;simp only[jj]at b;have c:=List.all_eq_true.1 b.1.2 a f;rw[d]at c;exact absurd c oD
theorem zfu (g:qL e):((∀c∈e.data.toList,c≠46)/\zT e=empty/\vL e=e) \/ (∃a b:List UInt8,e.data.toList=a++46 :: b/\0<a.length/\(∀c∈a,c≠46)/\(∀c∈b,c≠46)/\zT e=⟨a.toArray⟩/\vL e=⟨b.toArray⟩):=by
 rcases g with g | ⟨a,b,d,j,rfl⟩
 ·have h:=zaf g;refine .inl ⟨h,?_,?_⟩;·unfold zT;rw[zfz _ h]
  ·unfold vL;rw[zfz _ h]
 ·have f:(a++⟨#[46]⟩++b).data.toList=a.data.toList++46 :: b.data.toList:=by
   simp[ByteArray.data_append]
  have i:=zaf d;refine .inr ⟨a.data.toList,b.data.toList,f,?_,i,zaf j,?_,?_⟩;·unfold kO at d;simp only[jj,jl]at d;have:=d.1.1.1.1;rw[lexs.len_L];omega
  ·unfold zT;rw[f,zby _ _ i]
  ·unfold vL;rw[f,zby _ _ i]
theorem zt9 {a:List UInt8} (b:zT e=⟨a.toArray⟩) (c:0<a.length):¬(zT e).size=0:=by
 rw[b];show ¬(a.toArray.size=0);rw[List.size_toArray];omega
theorem ExT.kids {c:Int} {j:Int} {h:List Tree} (a:ExT (.node c e j h)):(∀d∈h,ExT d)/\((c=16\/c=17\/c=18)->qL e)/\(c=15\/c=16\/c=17\/c=18\/c=19\/c=20\/c=21):=by
 cases a with
 | num k=>exact⟨fun d b=>(by cases b),fun a=>oA,oA⟩
 | nam a=>exact⟨fun d b=>(by cases b),fun _=>a,oA⟩
 | item a g=>exact⟨fun d b=>(by simp only[jy]at b;subst b;exact g),fun _=>a,oA⟩
 | call a g=>exact⟨g,fun _=>a,oA⟩
 | op f i=>exact⟨fun d b=>(by
   simp only[List.mem_cons,List.not_mem_nil,or_false]at b;rcases b with rfl | rfl
   ·exact f
   ·exact i),fun a=>by omega,oA⟩
 | neg f=>exact⟨fun d b=>zqy,fun a=>oA,oA⟩
 | nott f=>exact⟨fun d b=>zqy,fun a=>oA,oA⟩
section
variable (E:Env) (L:List Loc) (ctx:Int)
mutual
theorem cI:∀(e:Tree) (b:Bool) (a:Int) (q:Int × Int),exF E L ctx b e a=.ok q->q.2=a+kD e
 | .node k x m ks,b,a,q,h=>by
  unfold exF at h
  cases c:exL E L ctx ks (a+1)with
  | bad g f=>rw[c]at h;simp at h
  | ok s =>
   rw[c]at h;dsimp only at h;have:=bU ks (a+1) s c
   cases d:yV E L ctx b k x s.1 a with
   | bad g f=>rw[d]at h;simp at h
   | ok i =>
    rw[d]at h;simp only[Res.ok.injEq]at h;rw[<- h];show s.2=_;rw[show kD (.node k x m ks)=kC ks+1 by unfold kD;rfl];omega
theorem bU:∀(e:List Tree) (a:Int) (q:List Int × Int),exL E L ctx e a=.ok q->q.2=a+kC e/\q.1.length=e.length
 | [],a,q,h=>by
  unfold exL at h;simp only[Res.ok.injEq]at h;rw[<- h]
  simp[kC]
 | b :: r,a,q,h=>by
  unfold exL at h
  cases c:exF E L ctx X b a with
  | bad i g=>rw[c]at h;simp at h
  | ok s =>
   rw[c]at h;dsimp only at h
   cases d:exL E L ctx r s.2 with
   | bad i g=>rw[d]at h;simp at h
   | ok f =>
    rw[d]at h;simp only[Res.ok.injEq]at h;have k:=cI b X a s c;have j:=bU r s.2 f d;rw[<- h];show f.2=_/\(s.1 :: f.1).length=_;rw[show kC (b :: r)=kD b+kC r by rfl];refine⟨oA,by simp[j.2]⟩
end
def vW (a:List Int):Res (List Int × Int)->Res (List Int × Int)
 | .bad c b=>.bad c b
 | .ok q=>.ok (a++q.1,q.2)
theorem zgc (b:List Tree) (a:Nat) (g:a<b.length) (f:List Int) (e:Int):vW f (exL E L ctx (b.drop a) e)=match exF E L ctx X b[a] e with
  | .bad d c=>.bad d c
  | .ok q=>vW (f++[q.1]) (exL E L ctx (b.drop (a+1)) q.2):=by
 rw[List.drop_eq_getElem_cons g];generalize b.drop (a+1)=rest
 rw[show exL E L ctx (b[a] :: rest) e=(match exF E L ctx X b[a] e with
  | .bad d c=>.bad d c
  | .ok q=>match exL E L ctx rest q.2 with
   | .bad d c=>.bad d c
   | .ok s=>.ok (q.1 :: s.1,s.2))from by simp only[exL]<;>rfl]
 cases exF E L ctx X b[a] e with
 | bad d c=>rfl
 | ok q =>
  dsimp only
  cases exL E L ctx rest q.2 with
  | bad d c=>rfl
  | ok h=>simp[vW]
end
theorem zjt:∀(c:List Int) (b a:Int),joinL (c++[b]) a=jn (joinL c a) b
 | [],b,a=>rfl
 | x :: r,b,a=>zjt r b (jn a x)
end chk
namespace chk
open Go.RowKit
open syn face
theorem dF:∀a:List Tree,(a.length:Int)<=kC a
 | []=>by simp[kC]
 | t :: r=>by
  have b:=kU t;have c:=dF r;show((r.length+1:Nat):Int)<=kD t+kC r;omega
theorem zg6 {E:Env} {L:List Loc} {ctx:Int} {e:Bool} {g:Int} {i:ByteArray} {h:Int} {d:List Tree} {a c b:Int} (f:exL E L ctx d (a+1)=.bad c b):exF E L ctx e (.node g i h d) a=.bad c b:=by
 simp only[exF,f]
theorem zh1 {E:Env} {L:List Loc} {ctx:Int} {e:Bool} {f:Int} {i:ByteArray} {k:Int} {g:List Tree} {a d:Int} {h:List Int} (j:exL E L ctx g (a+1)=.ok (h,d)):exF E L ctx e (.node f i k g) a=match yV E L ctx e f i h a with
  | .bad c b=>.bad c b
  | .ok l=>.ok (l,d):=by
 simp only[exF,j]<;>rfl
theorem yc7 (E:Env) (L:List Loc) (ctx:Int) (i:Bool) (j:ByteArray) (d:List Int) (a k:Int):(match yV E L ctx i 18 j d a with
  | .bad c b=>Res.bad c b
  | .ok l=>.ok (l,k))=match procF E j with
  | none=>.bad 4 a
  | some p=>if p.params.length≠d.length then .bad 6 a else if p.gives=X/\i=X then .bad 3 a else if bT p.params d=X then .bad 7 a else if p.writes≠1/\ctx≠0 then .bad 7 a else .ok (p.given,k):=by
 unfold yV;rw[ju oD,ju oD,jv rfl]
 cases procF E j with
 | none=>rfl
 | some p =>
  dsimp only;by_cases e:p.params.length≠d.length;·rw[jv e,jv e]
  ·rw[ju e,ju e];by_cases f:p.gives=X/\i=X;·rw[jv f,jv f]
   ·rw[ju f,ju f];by_cases g:bT p.params d=X;·rw[jv g,jv g]
    ·rw[ju g,ju g];by_cases h:p.writes≠1/\ctx≠0;·rw[jv h,jv h]
     ·rw[ju h,ju h]
end chk
namespace mac
open Go.RowKit
def opF (o a b:Int):Option Int :=
 if o=1 then Z (wrap64 (a+b))
 else if o=2 then Z (wrap64 (a - b))
 else if o=3 then Z (wrap64 (a*b))
 else if o=4 then(if b=0 then none else Z (wrap64 (a.tdiv b)))
 else if o=5 then(if b=0 then none else Z (a.tmod b))
 else if o=6 then Z (bits BinOp.and IntKind.i64 a b)
 else if o=7 then Z (bits BinOp.or IntKind.i64 a b)
 else if o=8 then Z (if a<b then 1 else 0)
 else if o=9 then Z (if a=b then 1 else 0)
 else none
end mac
namespace mdl
open syn face mac
theorem xG {b c:ByteArray}:eqS b c=H ↔ b=c:=by
 unfold eqS;rw[beq_iff_eq];constructor
 ·intro a;cases b;cases c;rename_i d e;have:d.toList=e.toList:=by simpa[ByteArray.toList_eq] using a
  congr
  exact Array.toList_inj.1 this
 ·intro a;rw[a]
structure RS where
 vs:ByteArray->List Int
 oL:List Int
 oH:List Int
 uL:Nat
 uH:Nat
 st:Nat
inductive Out (α:Type) where
 | go (x:α) (s:RS)
 | back (v:Int) (s:RS)
 | stop (c:Int) (s:RS)
 | lost
def Out.bind {α β:Type} (o:Out α) (k:α->RS->Out β):Out β:=match o with
 | .go x s=>k x s
 | .back v s=>.back v s
 | .stop c s=>.stop c s
 | .lost=>.lost
structure PR where
 mod:ByteArray
 pars:List ByteArray
 body:Tree
def gY:PR:=⟨empty,[],.node 0 empty 0 []⟩
structure Cx where
 ps:ByteArray->PR
 iL:List Int
 iH:List Int
 fuel:Nat
abbrev Lc:=List (ByteArray × Int)
def qO (x m:ByteArray):ByteArray:=if x.data.toList.contains 46 then x else m++⟨#[46]⟩++x
def yec:Tree->List Tree
 | .node _ _ _ ks=>ks
def textOf:Tree->ByteArray
 | .node _ x _ _=>x
def gH (l:Lc) (x:ByteArray):Option Nat:=match l with
 | []=>none
 | q :: r=>match gH r x with
  | some i=>Z (i+1)
  | none=>if eqS q.1 x then Z 0 else none
inductive Wd where
 | loc (i:Nat)
 | var (x:ByteArray) (i:Nat)
def zL (M:ByteArray) (l:Lc) (t:Tree) (a:Int) (s:RS):Option Wd:=match gH l (textOf t)with
 | some i=>Z (.loc i)
 | none=>if a<0\/((s.vs (qO (textOf t) M)).length:Int)<=a then none else Z (.var (qO (textOf t) M) a.toNat)
def cT (l:Lc) (s:RS):Wd->Int
 | .loc i=>(l.getD i (empty,0)).2
 | .var x i=>(s.vs x).getD i 0
def putVar (f:ByteArray->List Int) (x:ByteArray) (l:List Int):ByteArray->List Int:=fun y=>if eqS y x then l else f y
def qJ (l:Lc) (s:RS) (v:Int):Wd->Lc × RS
 | .loc i=>(l.set i ((l.getD i (empty,0)).1,v),s)
 | .var x i=>(l,{ s with vs:=putVar s.vs x ((s.vs x).set i v) })
def kP (F:Nat) (s:RS):Out Unit:=if s.st=F then .stop 0 s else .go () { s with st:=s.st+1 }
def uN (m:Int) (v:Int) (s:RS):RS:=if m=1 then { s with oH:=s.oH++[v] } else { s with oL:=s.oL++[v] }
def takeF (C:Cx) (m:Int) (s:RS):Out Int :=
 if m=1 then match C.iH[s.uH]? with
  | none=>.stop 4 s
  | some v=>.go v { s with uH:=s.uH+1 }
 else match C.iL[s.uL]? with
  | none=>.stop 4 s
  | some v=>.go v { s with uL:=s.uL+1 }
def zO (o a b:Int) (s:RS):Out Int:=match opF o a b with
 | none=>.stop 2 s
 | some v=>.go v s
section
variable (C:Cx)
mutual
def exM:Nat->ByteArray->Lc->Nat->Tree->RS->Out Int
 | 0,_,_,_,_,_=>.lost
 | g+1,M,l,d,.node k x m ks,s=>(kP C.fuel s).bind fun _ s =>
  if k=16\/k=17 then(ixM g M l d (.node k x m ks) s).bind fun i s=>match zL M l (.node k x m ks) i s with
   | none=>.stop 3 s
   | some q=>.go (cT l s q) s
  else if k=18 then caM g M l d (.node k x m ks) s
  else if k=19 then match ks with
   | a :: b :: _=>(exM g M l d a s).bind fun u s=>(exM g M l d b s).bind fun v s=>zO m u v s
   | _=>.lost
  else if k=20 then match ks with
   | a :: _=>(exM g M l d a s).bind fun v s=>zO 2 0 v s
   | _=>.lost
  else if k=21 then match ks with
   | a :: _=>(exM g M l d a s).bind fun v s=>zO 9 0 v s
   | _=>.lost
  else .go m s
def ixM:Nat->ByteArray->Lc->Nat->Tree->RS->Out Int
 | 0,_,_,_,_,_=>.lost
 | g+1,M,l,d,.node k x m ks,s=>if k=16 then .go 0 s else match ks with
  | a :: _=>exM g M l d a s
  | _=>.lost
def asM:Nat->ByteArray->Lc->Nat->List Tree->List Int->RS->Out (List Int)
 | 0,_,_,_,_,_,_=>.lost
 | _+1,_,_,_,[],vs,s=>.go vs s
 | g+1,M,l,d,t :: r,vs,s=>(exM g M l d t s).bind fun v s=>asM g M l d r (vs++[v]) s
def caM:Nat->ByteArray->Lc->Nat->Tree->RS->Out Int
 | 0,_,_,_,_,_=>.lost
 | g+1,M,l,d,.node k x m ks,s=>(asM g M l d ks [] s).bind fun a s=>clM g d (qO x M) a s
def clM:Nat->Nat->ByteArray->List Int->RS->Out Int
 | 0,_,_,_,_=>.lost
 | g+1,d,x,vs,s=>if d=30 then .stop 5 s else
  if vs.length<(C.ps x).pars.length\/20<(C.ps x).pars.length then .lost else
  match blM g (C.ps x).mod ((C.ps x).pars.zip vs) (d+1) (C.ps x).body s with
  | .go _ s=>.go 0 s
  | .back v s=>.go v s
  | .stop c s=>.stop c s
  | .lost=>.lost
def blM:Nat->ByteArray->Lc->Nat->Tree->RS->Out Lc
 | 0,_,_,_,_,_=>.lost
 | g+1,M,l,d,.node _ _ _ ks,s=>(ssM g M l d ks s).bind fun a s=>.go (a.take l.length) s
def ssM:Nat->ByteArray->Lc->Nat->List Tree->RS->Out Lc
 | 0,_,_,_,_,_=>.lost
 | _+1,_,l,_,[],s=>.go l s
 | g+1,M,l,d,t :: r,s=>(stM g M l d t s).bind fun l s=>ssM g M l d r s
def stM:Nat->ByteArray->Lc->Nat->Tree->RS->Out Lc
 | 0,_,_,_,_,_=>.lost
 | g+1,M,l,d,.node k x m ks,s=>(kP C.fuel s).bind fun _ s=>match ks with
  | []=>.lost
  | a :: r=>if k=7 then(exM g M l d a s).bind fun v s=>if 20<=l.length then .lost else .go (l++[(x,v)]) s
   else if k=8 then match r with
    | []=>.lost
    | b :: _=>(ixM g M l d a s).bind fun i s=>(exM g M l d b s).bind fun v s=>match zL M l a i s with
     | none=>.stop 3 s
     | some q=>.go (qJ l s v q).1 (qJ l s v q).2
   else if k=9 then(caM g M l d a s).bind fun _ s=>.go l s
   else if k=10 then(exM g M l d a s).bind fun v s=>if v≠0 then match r with
     | []=>.lost
     | b :: _=>blM g M l d b s
    else match r with
     | _ :: c :: _=>blM g M l d c s
     | _=>.go l s
   else if k=11 then match r with
    | []=>.lost
    | b :: _=>whM g M l d a b s
   else if k=12 then(exM g M l d a s).bind fun v s=>.go l (uN (m % 2) v s)
   else if k=13 then(ixM g M l d a s).bind fun i s=>(takeF C (m % 2) s).bind fun v s=>match zL M l a i s with
     | none=>.stop 3 s
     | some q=>.go (qJ l s v q).1 (qJ l s v q).2
   else if k=14 then(exM g M l d a s).bind fun v s=>.back v s
   else .go l s
def whM:Nat->ByteArray->Lc->Nat->Tree->Tree->RS->Out Lc
 | 0,_,_,_,_,_,_=>.lost
 | g+1,M,l,d,a,b,s=>(exM g M l d a s).bind fun v s=>if v≠0 then(blM g M l d b s).bind fun l s=>whM g M l d a b s else .go l s
end
end
end mdl
end Go.Proofs.YtbjppepjmcfkaaaGreatDoor
