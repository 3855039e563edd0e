/- A declaration and its node. No Go in sight. -/
import Derived.Test.YtjkcecppnmlhjaaGreatDoorNQc
import Derived.RowKit
import Derived.Lib.ParseIntB
import Derived.Lib.Strings
set_option linter.unusedVariables false
namespace Go.Proofs.YtjkcecppnmlhjaaGreatDoor
theorem oz00x4 {p:Prop} (f:p:=by
 exact⟨_,rfl,oP⟩):p:=f
theorem zbs {p:Prop} (b:p:=by
 rw[d];have C:=xM (ts:=ts) (s:=c.2) ⟨#[59]⟩ oC
 exact oz00x2):p:=b
theorem oz00x2 {p:Prop} (b:p:=by
 exact⟨_,rfl,oP,.inl oP⟩):p:=b
theorem zbt {p:Prop} (a:p:=by
 rw[c,jv rfl]at a;simp only[jh]at a
 rw[<- a]):p:=a
namespace lexs
def qB (c:Int):Bool:=decide (97<=c/\c<=122)||decide (65<=c/\c<=90)
def zL (c:Int):Bool:=decide (48<=c/\c<=57)
def zF (c:Int):Bool:=qB c||zL c||c==95
def xX (c:UInt8):Bool:=qB (c.toNat:Int)
def kX (c:UInt8):Bool:=zL (c.toNat:Int)
def kN (c:UInt8):Bool:=zF (c.toNat:Int)
def kD:List UInt8:=[57,50,50,51,51,55,50,48,51,54,56,53,52,55,55,53,56,48,55]
def numE (l:List UInt8):Int :=
 if l.all kX=false then 2
 else if decide (1<l.length)&&l.headD 0==48 then 2
 else if decide (19<l.length)||(l.length==19&&(!Op.bytesLess l kD&&!(l==kD)))then 6
 else 0
def uO:List UInt8:=[123,125,40,41,91,93,59,44,46,61,60,43,45,42,47,37,38,124,33]
def yR (l:List UInt8):Nat :=
 if l.headD 0==61&&(l.drop 1).headD 0==61 then 2 else if uO.contains (l.headD 0)then 1 else 0
def run (p:UInt8->Bool) (l:List UInt8):Nat:=(l.takeWhile p).length
inductive Step where
 | skip (n:Nat)
 | fault (c:Int)
 | tok (k:Int) (n:Nat)
def gG (c:UInt8) (l:List UInt8):Step :=
 if c==32||c==10 then .skip 1
 else if c==35 then .skip (run (fun b=>b != 10) l)
 else if xX c then(if 16<run kN l then .fault 1 else .tok 1 (run kN l))
 else if kX c then(if numE (l.take (run kN l))==0 then .tok 2 (run kN l)else .fault (numE (l.take (run kN l))))
 else if yR l==0 then .fault 2 else .tok 3 (yR l)
def kU (l:List UInt8):Step:=gG (l.headD 0) l
structure Tok where
 kind:Int
 text:List UInt8
 at_:Nat
inductive Res where
 | ok (l:List Tok)
 | err (c:Int) (at_:Nat)
def qH:Nat->List UInt8->Nat->List Tok->Res
 | 0,_,_,acc=>.ok acc
 | _+1,[],_,acc=>.ok acc
 | f+1,b :: r,i,acc =>
  match kU (b :: r)with
  | .skip n=>qH f ((b :: r).drop n) (i+n) acc
  | .fault c=>.err c i
  | .tok k n=>qH f ((b :: r).drop n) (i+n) (acc++[⟨k,(b :: r).take n,i⟩])
def scan (l:List UInt8):Res:=if 3000<l.length then .err 1 0 else qH l.length l 0 []
/-! ### rows of bytes -/
variable {d:UInt8} {e:List UInt8} {g h j:Nat} {m:Int}
theorem zg6 (p:UInt8->Bool) (a:List UInt8):run p a<=a.length:=(List.takeWhile_sublist p).length_le
theorem zp5 (p:UInt8->Bool) (c:List UInt8) (b:Nat) (f:∀d (a:d<c.length),d<b->p c[d]=true) (e:b=c.length\/∃a:b<c.length,p c[b]=false):run p c=b:=by
 induction c generalizing b with
 | nil =>
  rcases e with a | ⟨a,_⟩
  ·simp[run,a]
  ·simp at a
 | cons g k ih =>
  unfold run at ih |-
  cases b with
  | zero =>
   rcases e with a | ⟨a,hp⟩
   ·simp at a
   ·simp only[jI]at hp
    simp[hp]
  | succ b =>
   have h:p g=true:=f 0 oB oA;rw[List.takeWhile_cons,jv h,jd,ih b];·intro d i j;exact f (d+1) oE oA
   ·rcases e with a | ⟨a,hp⟩
    ·left;simpa using a
    ·right;exact⟨by simpa using a,by simpa using hp⟩
theorem zbn (p:UInt8->Bool) (a:UInt8) (c:List UInt8) (b:p a=true):0<run p (a :: c):=by
 simp[run,b]
theorem zik (a:List UInt8):yR a<=a.length:=by
 unfold yR;rcases a with _ | ⟨b,_ | ⟨c,d⟩⟩
 ·simp[uO]
 ·simp;split<;>simp
 ·split<;>(try split)<;>simp
theorem zet (a:xX d=true):kN d=true:=by unfold xX at a;unfold kN zF;simp[a]
theorem zer (a:kX d=true):kN d=true:=by unfold kX at a;unfold kN zF;simp[a]
theorem zs8 (a:kU (d :: e)=.skip g):0<g/\g<=e.length+1:=by
 rw[kU,List.headD_cons,gG]at a;by_cases c:(d==32||d==10)=true;·rw[jv c]at a;injection a with a;omega
 rw[ju c]at a;by_cases b:(d==35)=true
 ·rw[jv b]at a;injection a with a;have h:d=35:=by simpa using b
  have:=zbn (fun d=>d != 10) d e (by rw[h];decide);have f:=zg6 (fun d=>d != 10) (d :: e);simp only[jd]at f;omega
 rw[ju b]at a;split at a;·split at a<;>simp at a
 ·split at a;·split at a<;>simp at a
  ·split at a<;>simp at a
theorem za3 (a:kU (d :: e)=.tok m g):0<g/\g<=e.length+1:=by
 rw[kU,List.headD_cons,gG]at a;by_cases b:(d==32||d==10)=true;·rw[jv b]at a;simp at a
 rw[ju b]at a;by_cases c:(d==35)=true;·rw[jv c]at a;simp at a
 rw[ju c]at a;have j:=zg6 kN (d :: e);simp only[jd]at j;split at a
 ·rename_i i;have:=zbn kN d e (zet i);split at a;·simp at a
  ·injection a with _ a;omega
 ·split at a
  ·rename_i h;have:=zbn kN d e (zer h);split at a;·injection a with _ a;omega
   ·simp at a
  ·split at a;·simp at a
   ·rename_i k;injection a with _ a;have f:=zik (d :: e);simp only[jd]at f;have:yR (d :: e)≠0:=by simpa using k
    omega
/-! ### one round of the scan,at whatever fuel is zpe -/
theorem zja (b:Nat) (c:Nat) (a:List Tok):qH b [] c a=.ok a:=by cases b<;>rfl
theorem cT {a:List Tok} (b:kU (d :: e)=.skip j):qH (g+1) (d :: e) h a=qH g ((d :: e).drop j) (h+j) a:=by
 rw[qH,b]
theorem cQ {a:List Tok} (b:kU (d :: e)=.fault m):qH (g+1) (d :: e) h a=.err m h:=by
 rw[qH,b]
theorem dV {a:List Tok} (b:kU (d :: e)=.tok m j):qH (g+1) (d :: e) h a=qH g ((d :: e).drop j) (h+j) (a++[⟨m,(d :: e).take j,h⟩]):=by
 rw[qH,b]
def val:List UInt8->Nat
 | []=>0
 | c :: r=>(c.toNat - 48)*10 ^ r.length+val r
theorem dig_bounds (a:kX d=true):48<=d.toNat/\d.toNat<=57:=by
 unfold kX zL at a;have:=of_decide_eq_true a;omega
theorem zg7 (a:List UInt8) (b:a.all kX=true):val a<10 ^ a.length:=by
 induction a with
 | nil=>simp[val]
 | cons d c ih =>
  rw[List.all_cons,jj]at b;have f:=dig_bounds b.1;have:=ih b.2;rw[val,jd,Nat.pow_succ];have e:(d.toNat - 48)*10 ^ c.length<=9*10 ^ c.length:=Nat.mul_le_mul_right _ oA;omega
theorem zz3 (b:List UInt8) (e:b.all kX=true) (a:Nat) (i:a<=18446744073709551615) : Lib.parseUintM (2 ^ 64 - 1) a b=if a*10 ^ b.length+val b<=18446744073709551615 then .ok (a*10 ^ b.length+val b)else .range:=by
 induction b generalizing a with
 | nil=>simp[Lib.parseUintM,val,i]
 | cons d c ih =>
  rw[List.all_cons,jj]at e;have j:=dig_bounds e.1;have h:1<=10 ^ c.length:=Nat.pow_pos oA
  have k:a*10 ^ (d :: c).length+val (d :: c)=(a*10+(d.toNat - 48))*10 ^ c.length+val c:=by
   rw[val,jd,Nat.pow_succ,Nat.add_mul,Nat.mul_comm (10 ^ c.length) 10,Nat.mul_assoc,Nat.add_assoc]
  have l:(a*10+(d.toNat - 48))<=(a*10+(d.toNat - 48))*10 ^ c.length:=Nat.le_mul_of_pos_right _ h;rw[k,Lib.parseUintM,jv j];by_cases f:1844674407370955162<=a;·rw[jv f,ju oA]
  ·rw[ju f];by_cases g:2 ^ 64 - 1<a*10+(d.toNat - 48)
   ·rw[jv g,ju oA]
   ·rw[ju g,ih e.2 _ oA]
theorem zi7 (b:List UInt8) (c:b.all kX=true) (f:b≠[]):Lib.parseIntB 64 b=if val b<9223372036854775808 then .ok (val b:Int)else .range:=by
 obtain⟨a,d,rfl⟩:=List.exists_cons_of_ne_nil f;have k:=dig_bounds (by rw[List.all_cons,jj]at c;exact c.1:kX a=true);have e:=zz3 (a :: d) c 0 oA;rw[Nat.zero_mul,Nat.zero_add]at e;have j:¬a.toNat=45:=oA;have i:¬(a.toNat=43\/a.toNat=45):=oA;unfold Lib.parseIntB;simp only[i,if_false];rw[Lib.parseUintB,ju f,e];by_cases g:val (a :: d)<=18446744073709551615
 ·rw[jv g];simp only[j,not_false_eq_true,true_and,false_and,if_false];by_cases h:val (a :: d)<9223372036854775808;·rw[jv h,ju oA]
  ·rw[ju h,jv oA]
 ·rw[ju g,ju oA]
theorem zv3 (d a:List UInt8) (k:d.length=a.length) (i:d.all kX=true) (j:a.all kX=true):Op.bytesLess d a=decide (val d<val a)/\(d==a)=decide (val d=val a):=by
 induction d generalizing a with
 | nil =>
  have:a=[]:=List.eq_nil_of_length_eq_zero (by simpa using k.symm);subst this
  simp[Op.bytesLess,val]
 | cons c d ih =>
  obtain⟨b,a,rfl⟩:∃b r,a=b :: r:=List.exists_cons_of_ne_nil (by intro e;rw[e]at k;simp at k);have n:d.length=a.length:=by simpa using k
  rw[List.all_cons,jj]at i j;have t:=dig_bounds i.1;have u:=dig_bounds j.1;have s:=zg7 d i.2;have v:=zg7 a j.2;obtain⟨p,q⟩:=ih a n i.2 j.2;rw[Op.bytesLess,p,List.cons_beq_cons,q,val,val,n];rw[n]at s;rcases Nat.lt_trichotomy c.toNat b.toNat with f | f | f
  ·have g:c<b:=f;have l:¬c=b:=by intro e;rw[e]at f;omega
   have o:(c.toNat - 48+1)*10 ^ a.length<=(b.toNat - 48)*10 ^ a.length:=Nat.mul_le_mul_right _ oA;rw[Nat.add_mul,Nat.one_mul]at o;have h:(c.toNat - 48)*10 ^ a.length+val d<(b.toNat - 48)*10 ^ a.length+val a:=oA;have m:(c==b)=false:=by simp[l]
   rw[decide_eq_true g,decide_eq_true h,decide_eq_false (Nat.ne_of_lt h),m];exact⟨rfl,rfl⟩
  ·have g:c=b:=UInt8.toNat_inj.1 f;subst g;simp
  ·have g:¬c<b:=by intro e;have:c.toNat<b.toNat:=e;omega
   have l:¬c=b:=by intro e;rw[e]at f;omega
   have o:(b.toNat - 48+1)*10 ^ a.length<=(c.toNat - 48)*10 ^ a.length:=Nat.mul_le_mul_right _ oA;rw[Nat.add_mul,Nat.one_mul]at o;have h:(b.toNat - 48)*10 ^ a.length+val a<(c.toNat - 48)*10 ^ a.length+val d:=oA;have m:(c==b)=false:=by simp[l]
   rw[decide_eq_false g,decide_eq_false (Nat.lt_asymm h),decide_eq_false (Nat.ne_of_gt h),m];exact⟨rfl,rfl⟩
theorem numE_val (a:List UInt8) (d:a.all kX=true) (m:a≠[]) (f:(decide (1<a.length)&&a.headD 0==48)=false):numE a=if val a<9223372036854775808 then 0 else 6:=by
 have v:=zg7 a d;rw[numE,ju (by simp[d]),ju (by rw[f];decide)];rcases Nat.lt_trichotomy a.length 19 with b | b | b
 ·have n:10 ^ a.length<=10 ^ 18:=Nat.pow_le_pow_right oA oA;have o:(10:Nat) ^ 18=1000000000000000000:=oC;have h:¬ 19<a.length:=oA;have i:¬a.length=19:=oA;rw[jv (show val a<9223372036854775808 by omega),ju (by simp[h,i])]
 ·have q:kD.length=19:=oC;have r:val kD=9223372036854775807:=oC;obtain⟨k,l⟩:=zv3 a kD (by rw[b,q]) d oC;rw[k,l,r,b];by_cases g:val a<9223372036854775808;·rw[jv g,ju oE]
  ·rw[ju g,jv oE]
 ·obtain⟨c,e,rfl⟩:=List.exists_cons_of_ne_nil m;have t:=dig_bounds (by rw[List.all_cons,jj]at d;exact d.1:kX c=true)
  have u:c.toNat≠48:=by
   intro j;have:c=48:=UInt8.toNat_inj.1 j;subst this;have:1<(48 :: e:List UInt8).length:=oA;rw[decide_eq_true this]at f;simp at f
  have o:(10:Nat) ^ 19=10000000000000000000:=oC;have n:10 ^ 19<=10 ^ e.length:=Nat.pow_le_pow_right oA (by simp at b;omega);have s:1*10 ^ e.length<=(c.toNat - 48)*10 ^ e.length:=Nat.mul_le_mul_right _ oA;have p:¬val (c :: e)<9223372036854775808:=by rw[val];omega
  rw[ju p,jv (by simp only[b,decide_true,Bool.true_or])]
theorem len_L (s:ByteArray):s.data.toList.length=s.size:=oB
theorem xP (a b:UInt8) (d:Int) (e:d=(b.toNat:Int)):((a.toNat:Int)==d)=(a==b):=by
 subst e;rw[Bool.eq_iff_iff];simp only[beq_iff_eq];constructor;·intro c;exact UInt8.toNat_inj.1 oA
 ·intro c;rw[c]
theorem drop_cons (s:ByteArray) (p:Nat) (a:p<s.size):s.data.toList.drop p=s[p] :: s.data.toList.drop (p+1):=by
 rw[List.drop_eq_getElem_cons (by rw[len_L];exact a)];rfl
theorem fL (c:UInt8->Bool) (s:ByteArray) (p b:Nat) (hp:p+b<=s.size) (e:∀a (d:a<s.size),p<=a->a<p+b->c s[a]=true) (f:p+b=s.size\/∃d:p+b<s.size,c s[p+b]=false):run c (s.data.toList.drop p)=b:=by
 apply zp5;·intro a h i;rw[List.length_drop,len_L]at h;rw[List.getElem_drop];exact e (p+a) oA oA oA
 ·rcases f with d | ⟨d,g⟩
  ·left;rw[List.length_drop,len_L];omega
  ·right;refine⟨by rw[List.length_drop,len_L];omega,?_⟩;rw[List.getElem_drop];exact g
theorem zsd (s:ByteArray) (p a:Nat):s.extract p (p+a)=⟨((s.data.toList.drop p).take a).toArray⟩:=by
 apply WideShapes.bytes_inj;rw[Lib.extract_data];simp
/-! the ways of a step,c the byte at hand -/
section
variable {s:ByteArray} {p:Nat} (hp:p<s.size)
include hp
variable {a b:Nat}
theorem zft (a:((s[p].toNat:Int)==32)=true\/((s[p].toNat:Int)==10)=true):kU (s.data.toList.drop p)=.skip 1:=by
 rw[xP _ 32 32 rfl,xP _ 10 10 rfl]at a;rw[drop_cons s p hp,kU,List.headD_cons,gG,jv];rcases a with a | a<;>simp[a]
theorem zo3 (b:((s[p].toNat:Int)==32)=false) (c:((s[p].toNat:Int)==10)=false) (d:((s[p].toNat:Int)==35)=true) (f:run (fun e=>e != 10) (s.data.toList.drop p)=a) : kU (s.data.toList.drop p)=.skip a:=by
 rw[xP _ 32 32 rfl]at b;rw[xP _ 10 10 rfl]at c;rw[xP _ 35 35 rfl]at d;rw[<- f,drop_cons s p hp,kU,List.headD_cons,gG,ju (by simp[b,c]),jv d]
theorem bQ (a:((s[p].toNat:Int)==32)=false) (b:((s[p].toNat:Int)==10)=false) (c:((s[p].toNat:Int)==35)=false) : kU (s.data.toList.drop p)=(if qB (s[p].toNat:Int)then(if 16<run kN (s.data.toList.drop p)then .fault 1 else .tok 1 (run kN (s.data.toList.drop p)))else if zL (s[p].toNat:Int)then(if numE ((s.data.toList.drop p).take (run kN (s.data.toList.drop p)))==0 then .tok 2 (run kN (s.data.toList.drop p))else .fault (numE ((s.data.toList.drop p).take (run kN (s.data.toList.drop p)))))else if yR (s.data.toList.drop p)==0 then .fault 2 else .tok 3 (yR (s.data.toList.drop p))):=by
 rw[xP _ 32 32 rfl]at a;rw[xP _ 10 10 rfl]at b;rw[xP _ 35 35 rfl]at c;rw[kU];have d:(s.data.toList.drop p).headD 0=s[p]:=by rw[drop_cons s p hp,List.headD_cons]
 rw[d,gG,ju (by simp[a,b]),ju (by simp[c])];rfl
theorem zo5 (b:((s[p].toNat:Int)==32)=false) (c:((s[p].toNat:Int)==10)=false) (d:((s[p].toNat:Int)==35)=false) (e:qB (s[p].toNat:Int)=true) (f:run kN (s.data.toList.drop p)=a) (g:a<=16) : kU (s.data.toList.drop p)=.tok 1 a:=by
 rw[bQ hp b c d,jv e,f,ju oA]
theorem zo1 (b:((s[p].toNat:Int)==32)=false) (c:((s[p].toNat:Int)==10)=false) (d:((s[p].toNat:Int)==35)=false) (e:qB (s[p].toNat:Int)=true) (g:run kN (s.data.toList.drop p)=a) (f:16<a) : kU (s.data.toList.drop p)=.fault 1:=by
 rw[bQ hp b c d,jv e,g,jv f]
theorem zp7 (b:((s[p].toNat:Int)==32)=false) (c:((s[p].toNat:Int)==10)=false) (d:((s[p].toNat:Int)==35)=false) (g:qB (s[p].toNat:Int)=false) (e:zL (s[p].toNat:Int)=true) (h:run kN (s.data.toList.drop p)=a) (f:(numE ((s.data.toList.drop p).take a)==0)=true):kU (s.data.toList.drop p)=.tok 2 a:=by
 rw[bQ hp b c d,ju (by simp[g]),jv e,h,jv f]
theorem zp6 (b:((s[p].toNat:Int)==32)=false) (c:((s[p].toNat:Int)==10)=false) (d:((s[p].toNat:Int)==35)=false) (g:qB (s[p].toNat:Int)=false) (e:zL (s[p].toNat:Int)=true) (h:run kN (s.data.toList.drop p)=a) (f:(numE ((s.data.toList.drop p).take a)==0)=false):kU (s.data.toList.drop p)=.fault (numE ((s.data.toList.drop p).take a)):=by
 rw[bQ hp b c d,ju (by simp[g]),jv e,h,ju (by simp[f])]
theorem zo4 (c:((s[p].toNat:Int)==32)=false) (d:((s[p].toNat:Int)==10)=false) (e:((s[p].toNat:Int)==35)=false) (g:qB (s[p].toNat:Int)=false) (f:zL (s[p].toNat:Int)=false) (h:yR (s.data.toList.drop p)=a) (b:a≠0) : kU (s.data.toList.drop p)=.tok 3 a:=by
 rw[bQ hp c d e,ju (by simp[g]),ju (by simp[f]),h,ju (by simpa using b)]
theorem zo2 (a:((s[p].toNat:Int)==32)=false) (b:((s[p].toNat:Int)==10)=false) (c:((s[p].toNat:Int)==35)=false) (e:qB (s[p].toNat:Int)=false) (d:zL (s[p].toNat:Int)=false) (f:yR (s.data.toList.drop p)=0) : kU (s.data.toList.drop p)=.fault 2:=by
 rw[bQ hp a b c,ju (by simp[e]),ju (by simp[d]),f,jv oI]
/-! the scan goes on -/
theorem go_skip {a f:Nat} {acc:List Tok} {R:Res} (b:kU (s.data.toList.drop p)=.skip a) (c:qH (f+1) (s.data.toList.drop p) p acc=R):qH f (s.data.toList.drop (p+a)) (p+a) acc=R/\0<a/\p+a<=s.size:=by
 have g:(s.data.toList.drop (p+1)).length=s.size - (p+1):=by rw[List.length_drop,len_L]
 have d:=drop_cons s p hp;rw[d]at b c;have e:=zs8 b;rw[cT b,<- d,List.drop_drop]at c;refine⟨c,e.1,oA⟩
theorem zpj {g:Int} {e:List Tok} {R:Res} (c:kU (s.data.toList.drop p)=.tok g a) (d:qH (b+1) (s.data.toList.drop p) p e=R) : qH b (s.data.toList.drop (p+a)) (p+a) (e++[⟨g,(s.data.toList.drop p).take a,p⟩])=R/\0<a/\p+a<=s.size:=by
 have i:(s.data.toList.drop (p+1)).length=s.size - (p+1):=by rw[List.length_drop,len_L]
 have f:=drop_cons s p hp;rw[f]at c d;have h:=za3 c;rw[dV c,<- f,List.drop_drop]at d;refine⟨d,h.1,oA⟩
theorem zcp {c:Int} {e:List Tok} {R:Res} (d:kU (s.data.toList.drop p)=.fault c) (b:qH (a+1) (s.data.toList.drop p) p e=R):R=.err c p:=by
 rw[drop_cons s p hp]at d b;rw[cQ d]at b;exact b.symm
end
theorem zpi {s:ByteArray} {p d:Nat} {b:List Tok} {a:Res} (hp:s.size<=p) (c:qH d (s.data.toList.drop p) p b=a):a=.ok b:=by
 rw[List.drop_eq_nil_of_le (by rw[len_L];exact hp),zja]at c;exact c.symm
/-! what lies in memory -/
def cellsOf (l:List Tok):List Value:=l.flatMap fun t=>[.int .i64 t.kind,.string ⟨t.text.toArray⟩,.int .i64 (t.at_:Int)]
theorem zq3 (b:List Tok) (a:Tok):cellsOf (b++[a])=cellsOf b++[.int .i64 a.kind,.string ⟨a.text.toArray⟩,.int .i64 (a.at_:Int)]:=by simp[cellsOf]
theorem cellsOf_length (a:List Tok):(cellsOf a).length=a.length*3:=by
 induction a with
 | nil=>rfl
 | cons b a ih=>simp only[cellsOf,List.flatMap_cons,jb,jd]at ih |-;simp only[je];omega
def Res.toks:Res->List Tok
 | .ok l=>l
 | .err _ _=>[]
def Res.code:Res->Int
 | .ok _=>0
 | .err c _=>c
def Res.place:Res->Int
 | .ok _=>0
 | .err _ p=>(p:Int)
end lexs
namespace syn
open lexs (Tok qB zF val)
inductive Tree where
 | node (kind:Int) (text:ByteArray) (num:Int) (kids:List Tree)
structure St where
 i:Nat
 bad:Bool
def St.fail (s:St):St:={ s with bad:=true }
def St.next (s:St):St:={ s with i:=s.i+1 }
def empty:ByteArray:=⟨#[]⟩
def eqS (x a:ByteArray):Bool:=x.toList==a.toList
section
variable (ts:List Tok)
def here (s:St):Option Tok:=if s.bad then none else ts[s.i]?
def txt (s:St):ByteArray :=
 match here ts s with
 | none=>empty
 | some t=>if t.kind==2 then empty else⟨t.text.toArray⟩
def eat (x:ByteArray) (s:St):Bool × St:=if eqS (txt ts s) x then(true,s.next)else(false,s)
def kB (x:ByteArray) (s:St):St:=if eqS (txt ts s) x then s.next else s.fail
def zK:List ByteArray:=[⟨#[100,111]⟩,⟨#[101,108,115,101]⟩,⟨#[103,105,118,101,115]⟩,⟨#[104,105,103,104]⟩,⟨#[105,102]⟩,⟨#[105,109,112,111,114,116]⟩,⟨#[105,110]⟩,⟨#[108,111,119]⟩,⟨#[109,111,100,117,108,101]⟩,⟨#[111,117,116]⟩,⟨#[112,114,111,99]⟩,⟨#[112,117,98]⟩,⟨#[114,101,116,117,114,110]⟩,⟨#[119,104,105,108,101]⟩]
def kE (x:ByteArray):Bool :=
 decide (1<=x.size/\x.size<=16)&&qB ((x.data.toList.headD 0).toNat:Int)&&x.data.toList.all (fun c=>zF (c.toNat:Int))&&!(zK.any fun a=>eqS a x)
def name (s:St):ByteArray × St:=if kE (txt ts s)then(txt ts s,s.next)else(empty,s.fail)
def whole (s:St):ByteArray × St :=
 let a:=name ts s
 let e:=eat ts ⟨#[46]⟩ a.2
 if e.1 then(a.1++⟨#[46]⟩++(name ts e.2).1,(name ts e.2).2)else(a.1,a.2)
def label (s:St):Int × St :=
 if eqS (txt ts s) ⟨#[104,105,103,104]⟩ then(1,s.next)else(0,kB ts ⟨#[108,111,119]⟩ s)
def vY (s:St):Bool:=match here ts s with | none=>false | some t=>t.kind==2
def number (s:St):Tree × St :=
 match here ts s with
 | none=>(.node 15 empty 0 [],s.fail)
 | some t=>if t.kind==2 then(.node 15 empty (val t.text:Int) [],s.next)else(.node 15 empty 0 [],s.fail)
def signs:List (ByteArray × Int × Int):=[(⟨#[61,61]⟩,9,0),(⟨#[60]⟩,8,0),(⟨#[43]⟩,1,1),(⟨#[45]⟩,2,1),(⟨#[124]⟩,7,1),(⟨#[42]⟩,3,2),(⟨#[47]⟩,4,2),(⟨#[37]⟩,5,2),(⟨#[38]⟩,6,2)]
def sign (x:ByteArray):Int × Int:=((signs.find? fun a=>eqS a.1 x).map (·.2)).getD (0,-1)
end
end syn
namespace syn
open lexs (Tok)
section
variable (ts:List Tok)
mutual
def kM:Nat->St->Option (Tree × St)
 | 0,_=>none
 | f+1,s=>if s.bad then some (.node 0 empty 0 [],s)else qL f 0 s
def qL:Nat->Nat->St->Option (Tree × St)
 | 0,_,_=>none
 | f+1,least,s=>if 2<least then zQ f s else(qL f (least+1) s).bind fun q=>zD f least q.1 q.2
def zD:Nat->Nat->Tree->St->Option (Tree × St)
 | 0,_,_,_=>none
 | f+1,a,n,s =>
  if s.bad then some (n,s)
  else if(sign (txt ts s)).2 != (a:Int)then some (n,s)
  else(qL f (a+1) s.next).bind fun q =>
   if a==0 then some (.node 19 empty (sign (txt ts s)).1 [n,q.1],q.2)else zD f a (.node 19 empty (sign (txt ts s)).1 [n,q.1]) q.2
def zQ:Nat->St->Option (Tree × St)
 | 0,_=>none
 | f+1,s =>
  if eqS (txt ts s) ⟨#[45]⟩ then(zQ f s.next).bind fun q=>some (.node 20 empty 0 [q.1],q.2)
  else if eqS (txt ts s) ⟨#[33]⟩ then(zQ f s.next).bind fun q=>some (.node 21 empty 0 [q.1],q.2)
  else if eqS (txt ts s) ⟨#[40]⟩ then qY f s
  else if vY ts s then some (number ts s)
  else if eqS (txt ts (whole ts s).2) ⟨#[40]⟩ then zV f (whole ts s).1 (whole ts s).2 else qZ f (whole ts s).1 (whole ts s).2
def qY:Nat->St->Option (Tree × St)
 | 0,_=>none
 | f+1,s=>(kM f (kB ts ⟨#[40]⟩ s)).bind fun q=>some (q.1,kB ts ⟨#[41]⟩ q.2)
def qZ:Nat->ByteArray->St->Option (Tree × St)
 | 0,_,_=>none
 | f+1,x,s =>
  if eqS (txt ts s) ⟨#[91]⟩ then(kM f s.next).bind fun q=>some (.node 17 x 0 [q.1],kB ts ⟨#[93]⟩ q.2)else some (.node 16 x 0 [],s)
def zV:Nat->ByteArray->St->Option (Tree × St)
 | 0,_,_=>none
 | f+1,x,s =>
  if eqS (txt ts (kB ts ⟨#[40]⟩ s)) ⟨#[41]⟩ then some (.node 18 x 0 [],(kB ts ⟨#[40]⟩ s).next)else yI f x [] (kB ts ⟨#[40]⟩ s) true
def yI:Nat->ByteArray->List Tree->St->Bool->Option (Tree × St)
 | 0,_,_,_,_=>none
 | f+1,x,ks,s,on =>
  if on&&!s.bad then(kM f s).bind fun q=>yI f x (ks++[q.1]) (eat ts ⟨#[44]⟩ q.2).2 (eat ts ⟨#[44]⟩ q.2).1
  else some (.node 18 x 0 ks,kB ts ⟨#[41]⟩ s)
end
end
variable {b:ByteArray}
theorem zcd (a:eqS empty b=true):b.size=0:=by
 unfold eqS at a;rw[beq_iff_eq,ByteArray.toList_eq,ByteArray.toList_eq]at a;have c:=congrArg List.length a;rw[lexs.len_L,lexs.len_L]at c;exact c.symm
theorem zdy {ts:List Tok} {s:St} (e:0<b.size) (a:eqS (txt ts s) b=true):s.i<ts.length:=by
 unfold txt here at a;rcases jL s.i ts.length with c | c
 ·exact c
 ·exfalso;rw[List.getElem?_eq_none c]at a;cases d:s.bad<;>rw[d]at a<;>simp at a<;>have:=zcd a<;>omega
def sv (k:Nat):ByteArray:=(signs.getD k (empty,0,-1)).1
def so (k:Nat):Int:=(signs.getD k (empty,0,-1)).2.1
def sl (k:Nat):Int:=(signs.getD k (empty,0,-1)).2.2
theorem cM {a:Nat} (b:a<9):a=0\/a=1\/a=2\/a=3\/a=4\/a=5\/a=6\/a=7\/a=8:=oA
theorem zid {α:Type} (p:α->Bool):∀(b:List α) (c:Nat) (e:c<b.length),(∀d (g:d<b.length),d<c->p b[d]=false)->p b[c]=true->b.find? p=some b[c]
 | [],c,e,_,_=>by simp at e
 | a :: b,0,_,_,h=>by rw[List.find?_cons_of_pos (by simpa using h)];rfl
 | a :: b,c+1,e,h1,h2=>by
  have f:=h1 0 oB oA;simp only[jI]at f;rw[List.find?_cons,f];simpa using zid p b c (by simpa using e) (fun d g i=>h1 (d+1) oE oA) (by simpa using h2)
theorem zd1 {a:Nat} (b:a<signs.length):sv a=signs[a].1/\(so a,sl a)=signs[a].2:=by
 unfold sv so sl;rw[List.getD_eq_getElem?_getD,List.getElem?_eq_getElem b];exact⟨rfl,rfl⟩
theorem zwv (d:ByteArray) (a:Nat) (i:a<9) (f:∀b,b<a->eqS (sv b) d=false) (e:eqS (sv a) d=true):sign d=(so a,sl a):=by
 have c:a<signs.length:=i;unfold sign;rw[zid _ signs a c (fun b g h=>by have:=f b h;rw[(zd1 g).1]at this;exact this) (by rw[(zd1 c).1]at e;exact e)];exact(zd1 c).2.symm
theorem zci (c:ByteArray) (d:∀b,b<9->eqS (sv b) c=false):sign c=(0,-1):=by
 unfold sign;rw[List.find?_eq_none.2];·rfl
 ·intro g e;obtain⟨f,a,rfl⟩:=List.mem_iff_getElem.1 e;have:=d f a;rw[(zd1 a).1]at this;simpa using this
theorem eqS_lit (b:ByteArray) (a:List UInt8):eqS b ⟨a.toArray⟩=(b.toList==a):=by unfold eqS;rw[ByteArray.toList_eq ⟨a.toArray⟩]
theorem isName_short (a:¬(1<=b.size/\b.size<=16)):kE b=false:=by unfold kE;rw[decide_eq_false a];rfl
theorem zjt (a:ByteArray):eqS a a=true:=by unfold eqS;exact beq_self_eq_true _
section
variable {ts:List Tok} {s:St}
theorem zgr (b:0<=(sign (txt ts s)).2):s.i<ts.length:=by
 rcases jL s.i ts.length with a | a
 ·exact a
 ·exfalso
  have c:txt ts s=empty:=by
   unfold txt here;rw[List.getElem?_eq_none a];cases s.bad<;>rfl
  rw[c,zci empty (fun e d=>?_)]at b;·exact absurd b oC
  ·rw[show empty=⟨([]:List UInt8).toArray⟩ from rfl,eqS_lit (sv e) [],ByteArray.toList_eq];rcases cM d with rfl | rfl | rfl | rfl | rfl | rfl | rfl | rfl | rfl<;>rfl
end
section
variable {ts:List Tok} {s:St}
def left (ts:List Tok) (s:St):Nat:=if s.bad then 0 else ts.length - s.i
theorem zce:left ts s.fail=0:=rfl
theorem left_bad (a:s.bad=true):left ts s=0:=by unfold left;rw[a];rfl
theorem gL:left ts s.next<=left ts s:=by
 unfold left St.next;dsimp only;split<;>omega
theorem yW {c:ByteArray} (e:0<c.size) (a:eqS (txt ts s) c=true):left ts s.next+1=left ts s:=by
 have f:=zdy e a
 have b:s.bad=false:=by
  cases b:s.bad;·rfl
  ·exfalso;have d:txt ts s=empty:=by unfold txt here;rw[b];rfl
   rw[d]at a;have:=zcd a;omega
 unfold left St.next;dsimp only;rw[b];simp;omega
theorem xM (a:ByteArray) (c:0<a.size):left ts (kB ts a s)<=left ts s/\((kB ts a s).bad=true\/left ts (kB ts a s)+1=left ts s):=by
 unfold kB;cases b:eqS (txt ts s) a;·simp only[jr,if_false];exact⟨by rw[zce];omega,.inl rfl⟩
 ·simp only[if_true];have:=yW c b;exact⟨oA,.inr this⟩
theorem fB:left ts (name ts s).2<=left ts s:=by
 unfold name;split;·exact gL
 ·simp only[zce];omega
theorem zj3 (a:ByteArray):left ts (eat ts a s).2<=left ts s:=by
 unfold eat
 split;·exact gL
 ·exact Nat.le_refl _
theorem left_whole:left ts (whole ts s).2<=left ts s:=by
 unfold whole;dsimp only;split;·exact jp fB (jp (zj3 _) fB)
 ·exact fB
theorem zhx:left ts (number ts s).2<=left ts s:=by
 unfold number;split;·simp only[zce];omega
 ·split;·exact gL
  ·simp only[zce];omega
def Has (ts:List Tok) (s:St) (o:Option (Tree × St)):Prop:=∃q,o=some q/\left ts q.2<=left ts s
structure Enough (ts:List Tok) (f:Nat):Prop where
 e:∀s:St,(s.bad=true/\1<=f)\/10*left ts s+8<=f->Has ts s (kM ts f s)
 b:∀(s:St) (l:Nat),l<=3->10*left ts s+7<=f+l->Has ts s (qL ts f l s)
 bl:∀(s:St) (l:Nat) (n:Tree),l<=2->10*left ts s+6<=f+l->Has ts s (zD ts f l n s)
 u:∀s:St,10*left ts s+3<=f->Has ts s (zQ ts f s)
 a:∀s:St,10*left ts s+2<=f->Has ts s (qY ts f s)
 p:∀(s:St) (x:ByteArray),10*left ts s+2<=f->Has ts s (qZ ts f x s)
 c:∀(s:St) (x:ByteArray),10*left ts s+2<=f->Has ts s (zV ts f x s)
 cl:∀(s:St) (x:ByteArray) (ks:List Tree) (on:Bool),(((on&&!s.bad)=false/\1<=f)\/10*left ts s+9<=f)->Has ts s (yI ts f x ks s on)
theorem zpe (ts:List Tok) (o:Nat):Enough ts o:=by
 induction o with
 | zero=>exact⟨fun s f=>oA,fun s j h r=>oA,fun s j z h r=>oA,fun s f=>oA,fun s f=>oA,fun s k f=>oA,fun s k f=>oA,fun s k y on f=>oA⟩
 | succ o ih =>
  refine⟨fun s f=>?_,fun s j C f=>?_,fun s j z C f=>?_,fun s f=>?_,fun s f=>?_,fun s k f=>?_,fun s k f=>?_,fun s k y on f=>?_⟩
  ·unfold kM;cases t:s.bad
   ·simp only[jr,if_false];refine ih.b s 0 oA ?_;rcases f with⟨f,_⟩ | f
    ·rw[t]at f;simp at f
    ·omega
   ·simp only[if_true];exact⟨_,rfl,Nat.le_refl _⟩
  ·unfold qL;split;·exact ih.u s oA
   ·obtain⟨d,g,i⟩:=ih.b s (j+1) oA oA;rw[g];simp only[jf];obtain⟨m,l,w⟩:=ih.bl d.2 j d.1 oA oA;exact⟨m,l,oA⟩
  ·unfold zD;cases t:s.bad
   ·simp only[jr,if_false];split;·exact⟨_,rfl,Nat.le_refl _⟩
    ·rename_i E;have K:(sign (txt ts s)).2=(j:Int):=by simpa using E
     have L:=zgr (ts:=ts) (s:=s) oA
     have n:left ts s.next+1=left ts s:=by
      unfold left St.next;dsimp only;rw[t];simp;omega
     obtain⟨d,g,i⟩:=ih.b s.next (j+1) oA oA;rw[g];simp only[jf];split;·exact⟨_,rfl,oP⟩
     ·obtain⟨m,l,w⟩:=ih.bl d.2 j (.node 19 empty (sign (txt ts s)).1 [z,d.1]) oA oA;exact⟨m,l,oA⟩
   ·simp only[if_true];exact⟨_,rfl,Nat.le_refl _⟩
  ·unfold zQ;cases h:eqS (txt ts s) ⟨#[45]⟩
   ·simp only[jr,if_false];cases r:eqS (txt ts s) ⟨#[33]⟩
    ·simp only[jr,if_false];split;·exact ih.a s oA
     ·split;·exact⟨_,rfl,zhx⟩
      ·have M:=left_whole (ts:=ts) (s:=s);split;·obtain⟨d,g,i⟩:=ih.c (whole ts s).2 (whole ts s).1 oA;exact⟨d,g,oA⟩
       ·obtain⟨d,g,i⟩:=ih.p (whole ts s).2 (whole ts s).1 oA;exact⟨d,g,oA⟩
    ·simp only[if_true];have n:=yW oC r;obtain⟨d,g,i⟩:=ih.u s.next oA;rw[g];exact oz00x4
   ·simp only[if_true];have n:=yW oC h;obtain⟨d,g,i⟩:=ih.u s.next oA;rw[g];exact oz00x4
  ·unfold qY;have x:=xM (ts:=ts) (s:=s) ⟨#[40]⟩ oC;obtain⟨d,g,i⟩:=ih.e (kB ts ⟨#[40]⟩ s) (by rcases x.2 with h | h;exact .inl ⟨h,oA⟩;exact .inr oA);rw[g];have D:=xM (ts:=ts) (s:=d.2) ⟨#[41]⟩ oC;exact oz00x4
  ·unfold qZ;split;·rename_i h;have n:=yW oC h;obtain⟨d,g,i⟩:=ih.e s.next (.inr oA);rw[g];have D:=xM (ts:=ts) (s:=d.2) ⟨#[93]⟩ oC;exact oz00x4
   ·exact⟨_,rfl,Nat.le_refl _⟩
  ·unfold zV;have x:=xM (ts:=ts) (s:=s) ⟨#[40]⟩ oC;split;·rename_i h;have n:=yW oC h;exact oz00x4
   ·obtain⟨d,g,i⟩:=ih.cl (kB ts ⟨#[40]⟩ s) k [] true (by rcases x.2 with h | h;exact .inl ⟨by rw[h];rfl,oA⟩;exact .inr oA);exact⟨d,g,oA⟩
  ·unfold yI;cases B:(on&&!s.bad);·simp only[jr,if_false];exact⟨_,rfl,(xM (ts:=ts) (s:=s) ⟨#[41]⟩ oC).1⟩
   ·simp only[if_true]
    have G:10*left ts s+9<=o+1:=by
     rcases f with⟨f,_⟩ | f
     ·rw[B]at f;simp at f
     ·exact f
    obtain⟨d,g,i⟩:=ih.e s (.inr oA);rw[g];simp only[jf];cases v:eqS (txt ts d.2) ⟨#[44]⟩
    ·have q:eat ts ⟨#[44]⟩ d.2=(false,d.2):=by unfold eat;rw[v];rfl
     rw[q];obtain⟨m,l,w⟩:=ih.cl d.2 k (y++[d.1]) false (.inl ⟨rfl,oA⟩);exact⟨m,l,oA⟩
    ·have q:eat ts ⟨#[44]⟩ d.2=(true,d.2.next):=by unfold eat;rw[v];rfl
     rw[q];have n:=yW oC v;obtain⟨m,l,w⟩:=ih.cl d.2.next k (y++[d.1]) true (.inr oA);exact⟨m,l,oA⟩
end
section
variable (ts:List Tok)
mutual
def qA:Nat->St->Option (Tree × St)
 | 0,_=>none
 | f+1,s=>yC f [] (kB ts ⟨#[123]⟩ s)
def yC:Nat->List Tree->St->Option (Tree × St)
 | 0,_,_=>none
 | f+1,ks,s =>
  if s.bad then some (.node 6 empty 0 ks,s)
  else if eqS (txt ts s) ⟨#[125]⟩ then some (.node 6 empty 0 ks,s.next)
  else(yP f s).bind fun q=>yC f (ks++[q.1]) q.2
def yP:Nat->St->Option (Tree × St)
 | 0,_=>none
 | f+1,s =>
  if eqS (txt ts s) ⟨#[105,102]⟩ then
   (qY ts f s.next).bind fun x=>(qA f x.2).bind fun b =>
    if eqS (txt ts b.2) ⟨#[101,108,115,101]⟩ then(qA f b.2.next).bind fun c=>some (.node 10 empty 0 [x.1,b.1,c.1],c.2)else some (.node 10 empty 0 [x.1,b.1],b.2)
  else if eqS (txt ts s) ⟨#[119,104,105,108,101]⟩ then(qY ts f s.next).bind fun x=>(qA f x.2).bind fun b=>some (.node 11 empty 0 [x.1,b.1],b.2)
  else if eqS (txt ts s) ⟨#[108,111,119]⟩||eqS (txt ts s) ⟨#[104,105,103,104]⟩ then
   (kM ts f (kB ts ⟨#[61]⟩ (name ts (label ts s).2).2)).bind fun x=>some (.node 7 (name ts (label ts s).2).1 (label ts s).1 [x.1],kB ts ⟨#[59]⟩ x.2)
  else if eqS (txt ts s) ⟨#[100,111]⟩ then(zV ts f (whole ts s.next).1 (whole ts s.next).2).bind fun x=>some (.node 9 empty 0 [x.1],kB ts ⟨#[59]⟩ x.2)
  else if eqS (txt ts s) ⟨#[111,117,116]⟩ then(kM ts f (label ts s.next).2).bind fun x=>some (.node 12 empty (label ts s.next).1 [x.1],kB ts ⟨#[59]⟩ x.2)
  else if eqS (txt ts s) ⟨#[105,110]⟩ then(qZ ts f (whole ts (label ts s.next).2).1 (whole ts (label ts s.next).2).2).bind fun x=>some (.node 13 empty (label ts s.next).1 [x.1],kB ts ⟨#[59]⟩ x.2)
  else if eqS (txt ts s) ⟨#[114,101,116,117,114,110]⟩ then(kM ts f s.next).bind fun x=>some (.node 14 empty 0 [x.1],kB ts ⟨#[59]⟩ x.2)
  else(qZ ts f (whole ts s).1 (whole ts s).2).bind fun x=>(kM ts f (kB ts ⟨#[61]⟩ x.2)).bind fun a=>some (.node 8 empty 0 [x.1,a.1],kB ts ⟨#[59]⟩ a.2)
end
end
section
variable (ts:List Tok)
def kY (s:St):St:=if eqS (txt ts s) ⟨#[112,117,98]⟩ then s.next else s
def vN (s:St):Int:=if eqS (txt ts s) ⟨#[112,117,98]⟩ then 2 else 0
def yB:Nat->List Tree->St->Option (List Tree × St)
 | 0,_,_=>none
 | f+1,ks,s =>
  if eqS (txt ts (name ts (label ts s).2).2) ⟨#[44]⟩ then yB f (ks++[.node 5 (name ts (label ts s).2).1 (label ts s).1 []]) (name ts (label ts s).2).2.next
  else some (ks++[.node 5 (name ts (label ts s).2).1 (label ts s).1 []],(name ts (label ts s).2).2)
def params (f:Nat) (s:St):Option (List Tree × St):=if eqS (txt ts s) ⟨#[41]⟩ then some ([],s)else yB ts f [] s
def zM (s:St):St:=if eqS (txt ts (label ts s).2) ⟨#[103,105,118,101,115]⟩ then(label ts (label ts s).2.next).2 else(label ts s).2
def yH (n:Int) (s:St):Int:=if eqS (txt ts (label ts s).2) ⟨#[103,105,118,101,115]⟩ then n+(label ts s).1+4+4*(label ts (label ts s).2.next).1 else n+(label ts s).1
def zG (s:St):List Tree × St:=if eqS (txt ts s) ⟨#[91]⟩ then([(number ts s.next).1],kB ts ⟨#[93]⟩ (number ts s.next).2)else([],s)
def gD (f:Nat) (s:St):Option (Tree × St) :=
 if eqS (txt ts (kY ts s)) ⟨#[112,114,111,99]⟩ then
  (params ts f (kB ts ⟨#[40]⟩ (name ts (kY ts s).next).2)).bind fun p =>
   (qA ts f (zM ts (kB ts ⟨#[41]⟩ p.2))).bind fun b =>
    some (.node 4 (name ts (kY ts s).next).1 (yH ts (vN ts s) (kB ts ⟨#[41]⟩ p.2)) (p.1++[b.1]),b.2)
 else some (.node 3 (name ts (label ts (kY ts s)).2).1 (vN ts s+(label ts (kY ts s)).1) (zG ts (name ts (label ts (kY ts s)).2).2).1,kB ts ⟨#[59]⟩ (zG ts (name ts (label ts (kY ts s)).2).2).2)
end
section
variable {ts:List Tok} {s:St}
theorem dS:left ts (label ts s).2<=left ts s:=by
 unfold label;split;·exact gL
 ·exact(xM ⟨#[108,111,119]⟩ oC).1
theorem ze6 {x:ByteArray} (a:s.bad=true):(kB ts x s).bad=true:=by
 unfold kB;split;·exact a
 ·rfl
theorem zo9 (a:s.bad=true):txt ts s=empty:=by unfold txt here;rw[a];rfl
theorem zH {a:ByteArray} (d:0<a.size) (c:s.bad=true):eqS (txt ts s) a=false:=by
 cases b:eqS (txt ts s) a;·rfl
 ·rw[zo9 c]at b;have:=zcd b;omega
theorem zw6:left ts (whole ts s).2+1<=left ts s\/(whole ts s).2.bad=true:=by
 cases b:kE (txt ts s)
 ·right;have c:name ts s=(empty,s.fail):=by unfold name;rw[b];rfl
  unfold whole;rw[c];have d:eat ts ⟨#[46]⟩ s.fail=(false,s.fail):=by unfold eat;rw[zH oC rfl];rfl
  dsimp only;rw[d];rfl
 ·left;have c:name ts s=(txt ts s,s.next):=by unfold name;rw[b];rfl
  have a:0<(txt ts s).size:=by
   rcases jL 0 (txt ts s).size with a | a
   ·exact a
   ·rw[isName_short oA]at b;exact absurd b oC
  have e:=yW a (zjt (txt ts s))
  have f:left ts (whole ts s).2<=left ts s.next:=by
   unfold whole;rw[c];dsimp only;split;·exact jp fB (zj3 _)
   ·exact Nat.le_refl _
  omega
structure Enough2 (ts:List Tok) (f:Nat):Prop where
 bk:∀s:St,20*left ts s+12<=f->Has ts s (qA ts f s)
 bkl:∀(s:St) (ks:List Tree),(s.bad=true/\1<=f)\/20*left ts s+11<=f->Has ts s (yC ts f ks s)
 st:∀s:St,20*left ts s+10<=f->∃q,yP ts f s=some q/\left ts q.2<=left ts s/\(left ts q.2+1<=left ts s\/q.2.bad=true)
theorem zxj (ts:List Tok) (g:Nat):Enough2 ts g:=by
 induction g with
 | zero=>exact⟨fun s b=>oA,fun s x b=>oA,fun s b=>oA⟩
 | succ g ih =>
  have f:=zpe ts g;refine⟨fun s b=>?_,fun s x b=>?_,fun s b=>?_⟩;·unfold qA;have w:=xM (ts:=ts) (s:=s) ⟨#[123]⟩ oC;obtain⟨o,q,B⟩:=ih.bkl (kB ts ⟨#[123]⟩ s) [] (.inr oA);exact⟨o,q,oA⟩
  ·unfold yC;cases j:s.bad
   ·simp only[jr,if_false]
    have W:20*left ts s+11<=g+1:=by
     rcases b with⟨b,_⟩ | b
     ·rw[j]at b;simp at b
     ·exact b
    split;·exact⟨_,rfl,gL⟩
    ·obtain⟨o,q,B,l⟩:=ih.st s oA;rw[q];simp only[jf];obtain⟨S,E,a3⟩:=ih.bkl o.2 (x++[o.1]) (by rcases l with i | i;exact .inr oA;exact .inl ⟨i,oA⟩);exact⟨S,E,oA⟩
   ·simp only[if_true];exact⟨_,rfl,Nat.le_refl _⟩
  ·unfold yP;cases L:eqS (txt ts s) ⟨#[105,102]⟩
   case true =>
    have k:=yW oC L;rw[jv rfl];obtain⟨c,d,h⟩:=f.a s.next oA;obtain⟨m,j,K⟩:=ih.bk c.2 oA;rw[d];simp only[jf];rw[j];simp only[jf];split;·obtain⟨V,y,a7⟩:=ih.bk m.2.next (by have:=gL (ts:=ts) (s:=m.2);omega);rw[y];have:=gL (ts:=ts) (s:=m.2);exact oz00x2
    ·exact⟨_,rfl,oP,.inl oP⟩
   rw[ju oC];cases M:eqS (txt ts s) ⟨#[119,104,105,108,101]⟩
   case true =>
    have k:=yW oC M;rw[jv rfl];obtain⟨c,d,h⟩:=f.a s.next oA;obtain⟨m,j,K⟩:=ih.bk c.2 oA;rw[d];simp only[jf];rw[j];exact oz00x2
   rw[ju oC];cases t:(eqS (txt ts s) ⟨#[108,111,119]⟩||eqS (txt ts s) ⟨#[104,105,103,104]⟩)
   case true =>
    rw[jv rfl]
    have a2:left ts (label ts s).2+1<=left ts s:=by
     unfold label;cases i:eqS (txt ts s) ⟨#[104,105,103,104]⟩;·simp only[jr,if_false];rw[i,Bool.or_false]at t;unfold kB;rw[t,jv rfl];have:=yW oC t;omega
     ·simp only[if_true];have:=yW oC i;omega
    have a5:=fB (ts:=ts) (s:=(label ts s).2);have w:=xM (ts:=ts) (s:=(name ts (label ts s).2).2) ⟨#[61]⟩ oC;obtain⟨c,d,h⟩:=f.e (kB ts ⟨#[61]⟩ (name ts (label ts s).2).2) (.inr oA);exact zbs
   rw[ju oC];cases N:eqS (txt ts s) ⟨#[100,111]⟩
   case true =>
    have k:=yW oC N;rw[jv rfl];have r:=left_whole (ts:=ts) (s:=s.next);obtain⟨c,d,h⟩:=f.c (whole ts s.next).2 (whole ts s.next).1 oA;exact zbs
   rw[ju oC];cases P:eqS (txt ts s) ⟨#[111,117,116]⟩
   case true =>
    have k:=yW oC P;rw[jv rfl];have r:=dS (ts:=ts) (s:=s.next);obtain⟨c,d,h⟩:=f.e (label ts s.next).2 (.inr oA);exact zbs
   rw[ju oC];cases Q:eqS (txt ts s) ⟨#[105,110]⟩
   case true =>
    have k:=yW oC Q;rw[jv rfl];have r:=dS (ts:=ts) (s:=s.next);have a6:=left_whole (ts:=ts) (s:=(label ts s.next).2);obtain⟨c,d,h⟩:=f.p (whole ts (label ts s.next).2).2 (whole ts (label ts s.next).2).1 oA;exact zbs
   rw[ju oC];cases R:eqS (txt ts s) ⟨#[114,101,116,117,114,110]⟩
   case true =>
    have k:=yW oC R;rw[jv rfl];obtain⟨c,d,h⟩:=f.e s.next (.inr oA);exact zbs
   rw[ju oC];have r:=left_whole (ts:=ts) (s:=s);rcases zw6 (ts:=ts) (s:=s)with l | l
   ·obtain⟨c,d,h⟩:=f.p (whole ts s).2 (whole ts s).1 oA;rw[d];simp only[jf];have w:=xM (ts:=ts) (s:=c.2) ⟨#[61]⟩ oC;obtain⟨T,G,a8⟩:=f.e (kB ts ⟨#[61]⟩ c.2) (.inr oA);rw[G];have C:=xM (ts:=ts) (s:=T.2) ⟨#[59]⟩ oC;exact oz00x2
   ·obtain⟨n,rfl⟩:∃n,g=n+1:=⟨g - 1,oA⟩
    have D:qZ ts (n+1) (whole ts s).1 (whole ts s).2=some (.node 16 (whole ts s).1 0 [],(whole ts s).2):=by
     unfold qZ;rw[zH oC l,ju oC]
    rw[D];simp only[jf];have u:=ze6 (ts:=ts) (x:=⟨#[61]⟩) l
    have z:kM ts (n+1) (kB ts ⟨#[61]⟩ (whole ts s).2)=some (.node 0 empty 0 [],kB ts ⟨#[61]⟩ (whole ts s).2):=by
     unfold kM;rw[u,jv rfl]
    rw[z];have v:=ze6 (ts:=ts) (x:=⟨#[59]⟩) u;exact⟨_,rfl,by dsimp only;rw[left_bad v];omega,.inr v⟩
end
section
variable {ts:List Tok} {s:St}
theorem zv1:left ts (kY ts s)<=left ts s:=by
 unfold kY;split;·exact gL
 ·exact Nat.le_refl _
theorem zsl:left ts (zM ts s)<=left ts s:=by
 unfold zM;split;·exact jp dS (jp gL dS)
 ·exact dS
theorem zv2:left ts (zG ts s).2<=left ts s:=by
 unfold zG;split;·exact jp (xM ⟨#[93]⟩ oC).1 (jp zhx gL)
 ·exact Nat.le_refl _
theorem zv8 (a:s.bad=true):(name ts s).2.bad=true:=by
 unfold name;split;·exact a
 ·rfl
theorem zy7 (a:s.bad=true):(zG ts s).2.bad=true:=by
 unfold zG;rw[zH oC a,ju oC];exact a
theorem zv0:left ts (label ts s).2+1<=left ts s\/(label ts s).2.bad=true:=by
 unfold label;cases b:eqS (txt ts s) ⟨#[104,105,103,104]⟩
 ·simp only[jr,if_false];rcases(xM (ts:=ts) (s:=s) ⟨#[108,111,119]⟩ oC).2 with a | a
  ·exact .inr a
  ·exact .inl oA
 ·simp only[if_true];have:=yW oC b;exact .inl oA
theorem zrt (a:Nat):∀(b:List Tree) (s:St),left ts s+1<=a->∃p,yB ts a b s=some p/\left ts p.2<=left ts s:=by
 induction a with
 | zero=>intro b s c;omega
 | succ a ih =>
  intro b s c;have e:=dS (ts:=ts) (s:=s);have f:=fB (ts:=ts) (s:=(label ts s).2);unfold yB;split;·rename_i d;have g:=yW oC d;obtain⟨p,hp,h⟩:=ih (b++[.node 5 (name ts (label ts s).2).1 (label ts s).1 []]) (name ts (label ts s).2).2.next oA;exact⟨p,hp,oA⟩
  ·exact⟨_,rfl,oP⟩
theorem ztm {f:Nat} (k:20*left ts s+12<=f):∃a,gD ts f s=some a/\left ts a.2<=left ts s/\(left ts a.2+1<=left ts s\/a.2.bad=true):=by
 have hp:=zv1 (ts:=ts) (s:=s);unfold gD;split
 ·rename_i b;have m:=yW oC b;have d:=fB (ts:=ts) (s:=(kY ts s).next);have e:=(xM (ts:=ts) (s:=(name ts (kY ts s).next).2) ⟨#[40]⟩ oC).1
  obtain⟨p,i,lp⟩:∃p,params ts f (kB ts ⟨#[40]⟩ (name ts (kY ts s).next).2)=some p/\left ts p.2<=left ts (kB ts ⟨#[40]⟩ (name ts (kY ts s).next).2):=by
   unfold params;split;·exact⟨_,rfl,Nat.le_refl _⟩
   ·exact zrt f [] _ oA
  rw[i];simp only[jf];have g:=(xM (ts:=ts) (s:=p.2) ⟨#[41]⟩ oC).1;have l:=zsl (ts:=ts) (s:=kB ts ⟨#[41]⟩ p.2);obtain⟨j,h,n⟩:=(zxj ts f).bk (zM ts (kB ts ⟨#[41]⟩ p.2)) oA;rw[h];exact⟨_,rfl,oP,.inl oP⟩
 ·have b:=dS (ts:=ts) (s:=kY ts s);have d:=fB (ts:=ts) (s:=(label ts (kY ts s)).2);have e:=zv2 (ts:=ts) (s:=(name ts (label ts (kY ts s)).2).2);have g:=(xM (ts:=ts) (s:=(zG ts (name ts (label ts (kY ts s)).2).2).2) ⟨#[59]⟩ oC).1;refine⟨_,rfl,oP,?_⟩;rcases zv0 (ts:=ts) (s:=kY ts s)with c | c
  ·exact .inl oP
  ·exact .inr (ze6 (zy7 (zv8 c)))
end
section
variable (ts:List Tok)
def zZ:Nat->List Tree->St->Option (List Tree × St)
 | 0,_,_=>none
 | f+1,ks,s=>if eqS (txt ts s) ⟨#[105,109,112,111,114,116]⟩ then zZ f (ks++[.node 2 (name ts s.next).1 0 []]) (kB ts ⟨#[59]⟩ (name ts s.next).2)else some (ks,s)
def yD:Nat->List Tree->St->Option (List Tree × St)
 | 0,_,_=>none
 | f+1,ks,s=>if s.bad||decide (ts.length<=s.i)then some (ks,s)else(gD ts 100000 s).bind fun q=>yD f (ks++[q.1]) q.2
def uK:St:=kB ts ⟨#[59]⟩ (name ts (kB ts ⟨#[109,111,100,117,108,101]⟩ ⟨0,false⟩)).2
def xB:ByteArray:=(name ts (kB ts ⟨#[109,111,100,117,108,101]⟩ ⟨0,false⟩)).1
def bO:Option (Tree × St) :=
 (zZ ts 4000 [] (uK ts)).bind fun p=>(yD ts 4000 p.1 p.2).bind fun q=>some (.node 1 (xB ts) 0 q.1,q.2)
end
end syn
namespace syn
mutual
def xI:Tree->Int->Int
 | .node _ _ _ ks,kD=>xU ks 1 kD
def xU:List Tree->Int->Int->Int
 | [],k,_=>k
 | t :: r,k,kD=>if k<=kD then xU r (k+xI t (kD - k)) kD else k
end
mutual
def yZ:Tree->Int->Int
 | .node _ _ _ ks,kD=>xR ks 0 kD+1
def xR:List Tree->Int->Int->Int
 | [],d,_=>d
 | t :: r,d,kD=>if 0<kD/\d<=kD then xR r (max d (yZ t (kD - 1))) kD else d
end
def fitsT (t:Tree):Bool:=if 500<xI t 500 then false else decide (yZ t 16<=16)
mutual
theorem zd7:∀(a:Tree) (kD:Int),0<=kD->1<=xI a kD/\xI a kD<=kD+1
 | .node _ _ _ ks,kD,h=>by
  unfold xI;exact zhq ks 1 kD h oA oA
theorem zhq:∀(b:List Tree) (a kD:Int),0<=kD->1<=a->a<=kD+1->1<=xU b a kD/\xU b a kD<=kD+1
 | [],a,kD,h,h1,h2=>by unfold xU;exact⟨h1,h2⟩
 | t :: r,a,kD,h,h1,h2=>by
  unfold xU;split;·have c:=zd7 t (kD - a) oA;exact zhq r _ kD h oA oA
  ·exact⟨h1,h2⟩
end
mutual
theorem zd5:∀(a:Tree) (kD:Int),0<=kD->1<=yZ a kD/\yZ a kD<=kD+1
 | .node _ _ _ ks,kD,h=>by
  unfold yZ;have:=zd4 ks 0 kD h oA oA;omega
theorem zd4:∀(b:List Tree) (a kD:Int),0<=kD->0<=a->a<=kD->0<=xR b a kD/\xR b a kD<=kD
 | [],a,kD,h,h1,h2=>by unfold xR;exact⟨h1,h2⟩
 | t :: r,a,kD,h,h1,h2=>by
  unfold xR;split;·rename_i c;have d:=zd5 t (kD - 1) oA;exact zd4 r _ kD h oA oA
  ·exact⟨h1,h2⟩
end
end syn
namespace lexs
variable {a:List UInt8}
theorem zw2 {c:UInt8} {f:Nat} (b:kU (c :: a)=.tok 2 f):numE ((c :: a).take f)=0:=by
 rw[kU,List.headD_cons,gG]at b;by_cases d:(c==32||c==10)=true;·rw[jv d]at b;simp at b
 rw[ju d]at b;by_cases e:(c==35)=true;·rw[jv e]at b;simp at b
 rw[ju e]at b;split at b
 ·split at b;·simp at b
  ·injection b with h3 _;simp at h3
 ·split at b
  ·split at b;·rename_i g;injection b with _ h4;subst h4;simpa using g
   ·simp at b
  ·split at b;·simp at b
   ·injection b with h3 _;simp at h3
def zmr (t:Tok):Prop:=t.kind=2->numE t.text=0/\t.text≠[]
theorem zez:∀(c:Nat) (g:List UInt8) (f:Nat) (b toks:List Tok),qH c g f b=.ok toks->(∀e∈b,zmr e)->∀e∈toks,zmr e
 | 0,g,f,b,toks,h,ha=>by
  unfold qH at h;injection h with h;subst h
  exact ha
 | c+1,[],f,b,toks,h,ha=>by
  unfold qH at h;injection h with h;subst h
  exact ha
 | c+1,i :: r,f,b,toks,h,ha=>by
  cases d:kU (i :: r)with
  | skip n=>rw[cT d]at h;exact zez c _ _ _ _ h ha
  | fault o=>rw[cQ d]at h;simp at h
  | tok m n =>
   rw[dV d]at h;refine zez c _ _ _ _ h ?_;intro e a;rw[List.mem_append]at a;rcases a with a | a
   ·exact ha e a
   ·simp only[jy]at a;subst a;intro k;have l:m=2:=k;subst l;refine⟨zw2 d,?_⟩;have p:=(za3 d).1;intro j;have:=congrArg List.length j;rw[List.length_take]at this;simp at this;omega
theorem scan_num {toks:List Tok} (b:scan a=.ok toks):∀c∈toks,c.kind=2->numE c.text=0/\c.text≠[]:=by
 unfold scan at b;split at b;·simp at b
 ·exact zez _ _ _ _ _ b (fun c d=>by simp at d)
theorem zey:∀(b:Nat) (e:List UInt8) (d:Nat) (a toks:List Tok),qH b e d a=.ok toks->toks.length<=a.length+e.length
 | 0,e,d,a,toks,h=>by
  unfold qH at h;injection h with h;subst h
  omega
 | b+1,[],d,a,toks,h=>by
  unfold qH at h;injection h with h;subst h
  simp
 | b+1,g :: r,d,a,toks,h=>by
  cases c:kU (g :: r)with
  | skip i =>
   rw[cT c]at h;have:=zey b _ _ _ _ h;rw[List.length_drop]at this
   omega
  | fault j=>rw[cQ c]at h;simp at h
  | tok l i =>
   rw[dV c]at h;have f:=zey b _ _ _ _ h;have k:=(za3 c).1;rw[List.length_drop,jb]at f;simp at f |-;omega
theorem scan_len {toks:List Tok} (b:scan a=.ok toks):toks.length<=3000:=by
 unfold scan at b;split at b;·simp at b
 ·have:=zey _ _ _ _ _ b;simp at this;omega
end lexs
namespace syn
open lexs (Tok scan)
structure Out where
 tree:Tree
 code:Int
 place:Int
def gE:Tree:=.node 0 empty 0 []
def gB (ts:List Tok) (n:Nat) (s:St):Int:=match ts[s.i]? with
 | some t=>(t.at_:Int)
 | none=>(n:Int)
def xT (ts:List Tok) (n:Nat) (q:Tree × St):Out :=
 if q.2.bad then⟨gE,2,gB ts n q.2⟩ else if fitsT q.1 then⟨q.1,0,0⟩ else⟨gE,1,0⟩
def parse (x:ByteArray):Out:=match scan x.data.toList with
 | .err c p=>⟨gE,c,p⟩
 | .ok ts=>match bO ts with
  | none=>⟨gE,0,0⟩
  | some q=>xT ts x.size q
section
variable {ts:List Tok} {s:St}
theorem zq7 (a:Nat):∀(b:List Tree) (s:St),left ts s+1<=a->∃p,zZ ts a b s=some p/\left ts p.2<=left ts s:=by
 induction a with
 | zero=>intro b s c;omega
 | succ a ih =>
  intro b s c;unfold zZ;split;·rename_i d;have f:=yW oC d;have e:=fB (ts:=ts) (s:=s.next);have g:=(xM (ts:=ts) (s:=(name ts s.next).2) ⟨#[59]⟩ oC).1;obtain⟨p,hp,h⟩:=ih (b++[.node 2 (name ts s.next).1 0 []]) (kB ts ⟨#[59]⟩ (name ts s.next).2) oA;exact⟨p,hp,oA⟩
  ·exact⟨_,rfl,Nat.le_refl _⟩
theorem zsa (a:Nat):∀(c:List Tree) (s:St),left ts s<=3000->left ts s+2<=a\/(s.bad=true/\1<=a)->∃p,yD ts a c s=some p:=by
 induction a with
 | zero=>intro c s f b;omega
 | succ a ih =>
  intro c s f b;unfold yD;cases g:s.bad
  ·rw[g]at b;simp only[jr,false_and,or_false]at b;by_cases e:ts.length<=s.i;·rw[decide_eq_true e];exact⟨_,rfl⟩
   ·rw[decide_eq_false e];simp only[Bool.or_false,jr,if_false];obtain⟨l,j,k,h⟩:=ztm (ts:=ts) (s:=s) (f:=100000) oA;rw[j];simp only[jf];refine ih _ _ oA ?_;rcases h with d | d
    ·exact .inl oA
    ·exact .inr ⟨d,oA⟩
  ·simp only[Bool.true_or,if_true];exact⟨_,rfl⟩
theorem left_le:left ts s<=ts.length:=by unfold left;split<;>omega
theorem zed (c:ts.length<=3000):∃p a,zZ ts 4000 [] (uK ts)=some p/\yD ts 4000 p.1 p.2=some a/\bO ts=some (.node 1 (xB ts) 0 a.1,a.2):=by
 have d:=left_le (ts:=ts) (s:=uK ts);obtain⟨p,hp,e⟩:=zq7 (ts:=ts) 4000 [] (uK ts) oA;obtain⟨a,b⟩:=zsa (ts:=ts) 4000 p.1 p.2 oA (.inl oA);refine⟨p,a,hp,b,?_⟩;unfold bO;rw[hp];simp only[jf];rw[b];rfl
end
end syn
namespace syn
def opS:List ByteArray:=[empty,⟨#[43]⟩,⟨#[45]⟩,⟨#[42]⟩,⟨#[47]⟩,⟨#[37]⟩,⟨#[38]⟩,⟨#[124]⟩,⟨#[60]⟩,⟨#[61,61]⟩]
def opB:List Int:=[0,1,1,2,2,2,2,1,0,0]
def opAt (k:Nat):ByteArray:=opS.getD k empty
def dQ (k:Nat):Int:=opB.getD k 0
end syn
namespace syn
open lexs (Tok)
section
variable {ts:List Tok} {s:St}
theorem zd6:kE empty=false:=isName_short (by intro a;exact absurd a.1 oC)
theorem zm0 (a:s.bad=true):s.fail=s:=by cases s;simp_all [St.fail]
theorem qE {b:ByteArray} (c:0<b.size) (a:s.bad=true):kB ts b s=s:=by
 unfold kB;rw[zH c a,ju oC];exact zm0 a
theorem gQ (a:s.bad=true):(name ts s).2=s:=by
 unfold name;rw[zo9 a];rw[zd6,ju oC];exact zm0 a
theorem zpd {a:ByteArray} (c:0<a.size) (b:s.bad=true):eat ts a s=(false,s):=by
 unfold eat
 rw[zH c b,ju oC]
theorem zfu (a:s.bad=true):(whole ts s).2=s:=by
 unfold whole;dsimp only;rw[gQ a,zpd oC a];simp
theorem bC (a:s.bad=true):(label ts s).2=s:=by
 unfold label;rw[zH oC a,ju oC];exact qE oC a
theorem ztu (a:s.bad=true):vY ts s=false:=by unfold vY here;rw[a];rfl
structure Stuck (ts:List Tok) (f:Nat):Prop where
 e:∀(s:St) (q:Tree × St),s.bad=true->kM ts f s=some q->q.2=s
 b:∀(l:Nat) (s:St) (q:Tree × St),s.bad=true->qL ts f l s=some q->q.2=s
 bl:∀(l:Nat) (n:Tree) (s:St) (q:Tree × St),s.bad=true->zD ts f l n s=some q->q.2=s
 u:∀(s:St) (q:Tree × St),s.bad=true->zQ ts f s=some q->q.2=s
 a:∀(s:St) (q:Tree × St),s.bad=true->qY ts f s=some q->q.2=s
 p:∀(x:ByteArray) (s:St) (q:Tree × St),s.bad=true->qZ ts f x s=some q->q.2=s
 c:∀(x:ByteArray) (s:St) (q:Tree × St),s.bad=true->zV ts f x s=some q->q.2=s
 cl:∀(x:ByteArray) (ks:List Tree) (s:St) (on:Bool) (q:Tree × St),s.bad=true->yI ts f x ks s on=some q->q.2=s
theorem qQ {α β:Type} {b:Option α} {c:α->Option β} {e:β} (d:b.bind c=some e):∃a,b=some a/\c a=some e:=by
 cases b with
 | none=>simp at d
 | some a=>exact⟨a,rfl,d⟩
theorem stuck (ts:List Tok) (f:Nat):Stuck ts f:=by
 induction f with
 | zero=>exact⟨fun s d _ a=>by simp[kM]at a,fun l s d _ a=>by simp[qL]at a,fun l n s d _ a=>by simp[zD]at a,fun s d _ a=>by simp[zQ]at a,fun s d _ a=>by simp[qY]at a,fun h s d _ a=>by simp[qZ]at a,fun h s d _ a=>by simp[zV]at a,fun h g s on d _ a=>by simp[yI]at a⟩
 | succ f ih =>
  refine⟨fun s d c a=>?_,fun l s d c a=>?_,fun l n s d c a=>?_,fun s d c a=>?_,fun s d c a=>?_,fun h s d c a=>?_,fun h s d c a=>?_,fun h g s on d c a=>?_⟩;·unfold kM at a;exact zbt
  ·unfold qL at a;split at a;·exact ih.u _ _ c a
   ·obtain⟨o,j,k⟩:=qQ a;have i:=ih.b _ _ _ c j;rw[<- i];exact ih.bl _ _ _ _ (by rw[i];exact c) k
  ·unfold zD at a;exact zbt
  ·unfold zQ at a;rw[zH oC c,zH oC c,zH oC c,ztu c,zfu c,zH oC c]at a;simp only[jr,if_false]at a;exact ih.p _ _ _ c a
  ·unfold qY at a;obtain⟨o,j,k⟩:=qQ a;rw[qE oC c]at j;have i:=ih.e _ _ c j;simp only[jh]at k;rw[<- k,i];exact qE oC c
  ·unfold qZ at a;rw[zH oC c,ju oC]at a;simp only[jh]at a;rw[<- a]
  ·unfold zV at a;rw[qE oC c,zH oC c,ju oC]at a;exact ih.cl _ _ _ _ _ c a
  ·unfold yI at a;rw[c]at a;simp only[Bool.not_true,Bool.and_false,jr,if_false,jh]at a;rw[<- a];exact qE oC c
structure Stuck2 (ts:List Tok) (f:Nat):Prop where
 bk:∀(s:St) (q:Tree × St),s.bad=true->qA ts f s=some q->q.2=s
 bl:∀(ks:List Tree) (s:St) (q:Tree × St),s.bad=true->yC ts f ks s=some q->q.2=s
theorem fM (ts:List Tok) (f:Nat):Stuck2 ts f:=by
 have m:∀(f:Nat) (g:List Tree) (s:St) (d:Tree × St),s.bad=true->yC ts f g s=some d->d.2=s:=by
  intro f g s d c a
  cases f with
  | zero=>simp[yC]at a
  | succ f =>
   unfold yC at a;exact zbt
 refine⟨fun s d c a=>?_,fun g s d c a=>m f g s d c a⟩
 cases f with
 | zero=>simp[qA]at a
 | succ f =>
  unfold qA at a;rw[qE oC c]at a;exact m _ _ _ _ c a
end
end syn
namespace lexs
structure Fine (t:Tok):Prop where
 kinds:t.kind=1\/t.kind=2\/t.kind=3
 ne:t.text≠[]
 word:t.kind=1->t.text.length<=16/\xX (t.text.headD 0)=true/\t.text.all kN=true
 num:t.kind=2->numE t.text=0
 sign:t.kind=3->xX (t.text.headD 0)=false
theorem take_run (p:UInt8->Bool) (a:List UInt8):a.take (run p a)=a.takeWhile p:=by
 unfold run
 induction a with
 | nil=>rfl
 | cons b c ih =>
  rw[List.takeWhile_cons];cases p b;·rfl
  ·simp[ih]
theorem step_fine {b:UInt8} {e:List UInt8} {i:Int} {g o:Nat} (a:kU (b :: e)=.tok i g):Fine ⟨i,(b :: e).take g,o⟩:=by
 have q:=(za3 a).1;obtain⟨d,rfl⟩:∃d,g=d+1:=⟨g - 1,oA⟩
 have m:((b :: e).take (d+1)).headD 0=b:=oB;have h:(b :: e).take (d+1)≠[]:=oB;rw[kU,List.headD_cons,gG]at a;by_cases j:(b==32||b==10)=true;·rw[jv j]at a;simp at a
 rw[ju j]at a;by_cases k:(b==35)=true;·rw[jv k]at a;simp at a
 rw[ju k]at a;cases f:xX b
 ·rw[f]at a;simp only[jr,if_false]at a;cases l:kX b
  ·rw[l]at a;simp only[jr,if_false]at a;split at a;·simp at a
   ·injection a with hk hm;subst hk;refine⟨.inr (.inr rfl),h,fun c=>by simp at c,fun c=>by simp at c,fun _=>?_⟩;show xX (((b :: e).take (d+1)).headD 0)=false;rw[m];exact f
  ·rw[l]at a;simp only[if_true]at a;split at a;·rename_i n;injection a with hk hm;subst hk;refine⟨.inr (.inl rfl),h,fun c=>by simp at c,fun _=>?_,fun c=>by simp at c⟩;rw[<- hm];simpa using n
   ·simp at a
 ·rw[f]at a;simp only[if_true]at a;split at a;·simp at a
  ·rename_i p;injection a with hk hm;subst hk;refine⟨.inl rfl,h,fun _=>⟨?_,?_,?_⟩,fun c=>by simp at c,fun c=>by simp at c⟩;·show((b :: e).take (d+1)).length<=16;rw[List.length_take];omega
   ·show xX (((b :: e).take (d+1)).headD 0)=true;rw[m];exact f
   ·show((b :: e).take (d+1)).all kN=true;rw[<- hm,take_run];exact List.all_takeWhile
theorem scanL_fine:∀(c:Nat) (g:List UInt8) (f:Nat) (b toks:List Tok),qH c g f b=.ok toks->(∀d∈b,Fine d)->∀d∈toks,Fine d
 | 0,g,f,b,toks,h,ha=>by
  unfold qH at h;injection h with h;subst h
  exact ha
 | c+1,[],f,b,toks,h,ha=>by
  unfold qH at h;injection h with h;subst h
  exact ha
 | c+1,i :: r,f,b,toks,h,ha=>by
  cases e:kU (i :: r)with
  | skip j=>rw[cT e]at h;exact scanL_fine c _ _ _ _ h ha
  | fault k=>rw[cQ e]at h;simp at h
  | tok l j =>
   rw[dV e]at h;refine scanL_fine c _ _ _ _ h ?_;intro d a;rw[List.mem_append]at a;rcases a with a | a
   ·exact ha d a
   ·simp only[jy]at a;subst a;exact step_fine e
theorem scan_fine {d:List UInt8} {toks:List Tok} (a:scan d=.ok toks):∀b∈toks,Fine b:=by
 unfold scan at a;split at a;·simp at a
 ·exact scanL_fine _ _ _ _ _ a (fun b c=>by simp at c)
end lexs
namespace syn
open lexs (Tok Fine qB zF xX kN kX numE)
def raw (t:Tok):ByteArray:=⟨t.text.toArray⟩
theorem raw_list (a:Tok):(raw a).data.toList=a.text:=rfl
theorem raw_size (a:Tok):(raw a).size=a.text.length:=by rw[<- lexs.len_L,raw_list]
def xJ (x:ByteArray):Bool:=decide (0<x.size)&&!kX (x.data.toList.headD 0)
section
variable {ts:List Tok} {s:St}
theorem bM (a:s.bad=false):here ts s=ts[s.i]?:=by unfold here;rw[a];rfl
theorem zii {b:List UInt8} (a:numE b=0):b.all kX=true:=by
 unfold numE at a;cases c:b.all kX;·rw[c]at a;simp at a
 ·rfl
theorem zwc {a:List UInt8} (c:numE a=0) (d:a≠[]):kX (a.headD 0)=true:=by
 have b:=zii c
 cases a with
 | nil=>exact absurd rfl d
 | cons e f=>simp only[List.all_cons,jj]at b;exact b.1
theorem zdp {a:Tok} (f:Fine a) (j:s.bad=false) (m:ts[s.i]?=some a) {b:ByteArray} (e:xJ b=true):eqS (txt ts s) b=eqS (raw a) b:=by
 unfold txt;rw[bM j,m];simp only;unfold xJ at e;simp only[jj,jl,Bool.not_eq_true']at e;cases k:(a.kind==2);·simp only[jr,if_false];rfl
 ·simp only[if_true];have l:a.kind=2:=by simpa using k
  have d:=zwc (f.num l) f.ne
  have g:eqS empty b=false:=by
   cases c:eqS empty b;·rfl
   ·have:=zcd c;omega
  have h:eqS (raw a) b=false:=by
   cases c:eqS (raw a) b;·rfl
   ·exfalso;unfold eqS at c;rw[beq_iff_eq,ByteArray.toList_eq,ByteArray.toList_eq,raw_list]at c;rw[c]at d;rw[e.2]at d;simp at d
  rw[g,h]
theorem zxk (d:ts[s.i]?=none) {b:ByteArray} (a:xJ b=true):eqS (txt ts s) b=false:=by
 cases c:eqS (txt ts s) b;·rfl
 ·exfalso;unfold xJ at a;simp only[jj,jl]at a;have:=zdy a.1 c;rw[List.getElem?_eq_none_iff]at d;omega
def ownName (t:Tok):Bool:=!(zK.any fun a=>eqS a (raw t))&&t.kind==1
theorem zv9 {a:Tok} (d:Fine a) (l:s.bad=false) (o:ts[s.i]?=some a):kE (txt ts s)=ownName a:=by
 unfold txt;rw[bM l,o];simp only;rcases d.kinds with b | b | b
 ·rw[b];obtain⟨g,h,j⟩:=d.word b;unfold ownName;rw[b]
  have n:1<=(raw a).size:=by
   rw[raw_size];have:=d.ne
   cases c:a.text with
   | nil=>exact absurd c this
   | cons q r=>simp
  have f:kE (raw a)=!(zK.any fun p=>eqS p (raw a)):=by
   unfold kE;rw[raw_list];have c:qB ((a.text.headD 0).toNat:Int)=true:=h;have k:a.text.all (fun e=>zF (e.toNat:Int))=true:=j;rw[c,k,decide_eq_true ⟨n,by rw[raw_size];exact g⟩];simp
  simp only[show((1:Int)==2)=false from rfl,show((1:Int)==1)=true from rfl,jr,if_false,Bool.and_true];exact f
 ·rw[b];unfold ownName;rw[b];simp[zd6]
 ·rw[b];unfold ownName;rw[b];have m:=d.sign b;have c:qB ((a.text.headD 0).toNat:Int)=false:=m;simp only[show((3:Int)==2)=false from rfl,show((3:Int)==1)=false from rfl,jr,if_false,Bool.and_false];unfold kE;show(_&&qB (((raw a).data.toList.headD 0).toNat:Int)&&_&&_)=false;rw[raw_list,c];simp
theorem zt2 (a:ts[s.i]?=none):kE (txt ts s)=false:=by
 have:txt ts s=empty:=by
  unfold txt here;rw[a];cases s.bad<;>rfl
 rw[this];exact zd6
end
end syn
namespace syn
mutual
def kC:Tree->Int
 | .node _ _ _ ks=>kA ks+1
def kA:List Tree->Int
 | []=>0
 | t :: r=>kC t+kA r
end
mutual
def vM:Tree->Int
 | .node _ _ _ ks=>xV ks+1
def xV:List Tree->Int
 | []=>0
 | t :: r=>max (vM t) (xV r)
end
mutual
theorem qU:∀a:Tree,1<=kC a
 | .node _ _ _ ks=>by unfold kC;have:=kR ks;omega
theorem kR:∀a:List Tree,0<=kA a
 | []=>by unfold kA;omega
 | t :: r=>by unfold kA;have b:=qU t;have c:=kR r;omega
end
mutual
theorem zjr:∀a:Tree,1<=vM a
 | .node _ _ _ ks=>by unfold vM;have:=za4 ks;omega
theorem za4:∀a:List Tree,0<=xV a
 | []=>by unfold xV;omega
 | t :: r=>by unfold xV;have b:=zjr t;have c:=za4 r;omega
end
mutual
theorem zj5:∀(a:Tree) (kD:Int),0<=kD->(kC a<=kD->xI a kD=kC a)/\(kD<kC a->kD<xI a kD)
 | .node _ _ _ ks,kD,h=>by
  unfold xI kC;have:=zj4 ks 1 kD h oA oA;exact⟨fun b=>by rw[this.1 oA];omega,fun b=>this.2 oA⟩
theorem zj4:∀(b:List Tree) (a kD:Int),0<=kD->1<=a->a<=kD+1->(a+kA b<=kD->xU b a kD=a+kA b)/\(kD<a+kA b->kD<xU b a kD)
 | [],a,kD,d,h1,h2=>by unfold xU kA;exact⟨fun _=>oA,fun d=>oA⟩
 | t :: r,a,kD,d,h1,h2=>by
  unfold xU kA;have j:=qU t;have k:=kR r;split
  ·rename_i i;have c:=zj5 t (kD - a) oA;have h:=zd7 t (kD - a) oA;have g:=zj4 r (a+xI t (kD - a)) kD d oA oA;refine⟨fun e=>?_,fun e=>?_⟩;·rw[g.1 (by rw[c.1 oA];omega),c.1 oA];omega
   ·rcases Int.lt_or_le (kD - a) (kC t)with f | f
    ·have:=c.2 f;exact g.2 oA
    ·have:=c.1 f;exact g.2 oA
  ·exact⟨fun e=>oA,fun e=>oA⟩
end
mutual
theorem zjq:∀(a:Tree) (kD:Int),0<=kD->(vM a<=kD->yZ a kD=vM a)/\(kD<vM a->kD<yZ a kD)
 | .node _ _ _ ks,kD,h=>by
  unfold yZ vM;have p:=za4 ks;rcases Int.lt_or_le 0 kD with c | c
  ·have:=zjp ks 0 kD c oA oA;have d:max 0 (xV ks)=xV ks:=oA;rw[d]at this;exact⟨fun b=>by rw[this.1 oA],fun b=>by have:=this.2 oA;omega⟩
  ·have e:=zd4 ks 0 kD h oA oA;exact⟨fun b=>oA,fun b=>oA⟩
theorem zjp:∀(b:List Tree) (a kD:Int),0<kD->0<=a->a<=kD->(max a (xV b)<=kD - 1->xR b a kD=max a (xV b))/\(kD - 1<max a (xV b)->kD<=xR b a kD)
 | [],a,kD,c,h1,h2=>by unfold xR xV;exact⟨fun _=>oA,fun c=>oA⟩
 | t :: r,a,kD,c,h1,h2=>by
  unfold xR xV;rw[jv ⟨c,h2⟩];have e:=zjq t (kD - 1) oA;have i:=zd5 t (kD - 1) oA;have f:=zjp r (max a (yZ t (kD - 1))) kD c oA oA;refine⟨fun h=>?_,fun h=>?_⟩;·have g:=e.1 oA;rw[f.1 oA,g];omega
  ·rcases Int.lt_or_le (kD - 1) (vM t)with d | d
   ·have:=e.2 d;exact f.2 oA
   ·have:=e.1 d;exact f.2 oA
end
mutual
def uG:Tree->Int->Int->Option Int
 | .node _ _ _ ks,d,c=>if 16<d\/500<c+1 then none else vI ks (d+1) (c+1)
def vI:List Tree->Int->Int->Option Int
 | [],_,c=>some c
 | t :: r,d,c=>match uG t d c with
  | none=>none
  | some a=>vI r d a
end
mutual
theorem zcb:∀(c:Tree) (b a:Int),0<=a->a<=500->1<=b->b<=17->uG c b a=if vM c+b<=17/\a+kC c<=500 then some (a+kC c)else none
 | .node _ _ _ ks,b,a,h1,h2,h3,h4=>by
  unfold uG vM kC;have f:=za4 ks;have g:=kR ks;by_cases d:16<b\/500<a+1;·rw[jv d,ju oA]
  ·rw[ju d,zin ks (b+1) (a+1) oA oA oA oA];by_cases e:xV ks+(b+1)<=17/\a+1+kA ks<=500
   ·rw[jv e,jv oA]
    congr 1
    omega
   ·rw[ju e,ju oA]
theorem zin:∀(c:List Tree) (b a:Int),0<=a->a<=500->1<=b->b<=17->vI c b a=if xV c+b<=17/\a+kA c<=500 then some (a+kA c)else none
 | [],b,a,h1,h2,h3,h4=>by
  unfold vI xV kA;rw[jv oA]
  congr 1
  omega
 | t :: r,b,a,h1,h2,h3,h4=>by
  unfold vI xV kA;have f:=qU t;have g:=kR r;have h:=zjr t;have i:=za4 r;rw[zcb t b a h1 h2 h3 h4];by_cases d:vM t+b<=17/\a+kC t<=500
  ·rw[jv d];simp only;rw[zin r b (a+kC t) oA oA h3 h4];by_cases e:xV r+b<=17/\a+kC t+kA r<=500
   ·rw[jv e,jv oA]
    congr 1
    omega
   ·rw[ju e,ju oA]
  ·rw[ju d];simp only;rw[ju oA]
end
theorem zh2 (a:Tree):(uG a 1 0).isSome=fitsT a:=by
 rw[zcb a 1 0 oA oA oA oA];unfold fitsT;have h:=zj5 a 500 oA;have g:=zjq a 16 oA;rcases Int.lt_or_le 500 (kC a)with f | f
 ·have d:=h.2 f;have b:¬(vM a+1<=17/\0+kC a<=500):=oA;simp only[jv d,ju b];rfl
 ·have d:¬ 500<xI a 500:=by rw[h.1 f];omega
  simp only[ju d];rcases Int.lt_or_le 16 (vM a)with c | c
  ·have b:¬(vM a+1<=17/\0+kC a<=500):=oA;have e:¬yZ a 16<=16:=by have:=g.2 c;omega
   simp only[ju b,decide_eq_false e];rfl
  ·have b:vM a+1<=17/\0+kC a<=500:=oA;have e:yZ a 16<=16:=by rw[g.1 c];exact c
   simp only[jv b,decide_eq_true e];rfl
end syn
namespace lexs
theorem zw1 {d:List UInt8} {b:Int} (a:kU d=.fault b):b≠0:=by
 unfold kU gG at a;split at a;·simp at a
 split at a;·simp at a
 split at a
 ·split at a;·injection a with a;omega
  ·simp at a
 split at a
 ·split at a;·simp at a
  ·rename_i c;injection a with a;rw[<- a];simpa using c
 split at a;·injection a with a;omega
 ·simp at a
theorem zex:∀(b:Nat) (f:List UInt8) (e:Nat) (c:List Tok) (a:Int) (p:Nat),qH b f e c=.err a p->a≠0
 | 0,f,e,c,a,p,h=>by unfold qH at h;simp at h
 | b+1,[],e,c,a,p,h=>by unfold qH at h;simp at h
 | b+1,g :: r,e,c,a,p,h=>by
  cases d:kU (g :: r)with
  | skip i=>rw[cT d]at h;exact zex b _ _ _ _ _ h
  | fault j =>
   rw[cQ d]at h;injection h with h _;rw[<- h]
   exact zw1 d
  | tok k i=>rw[dV d]at h;exact zex b _ _ _ _ _ h
theorem scan_err {c:List UInt8} {b:Int} {p:Nat} (a:scan c=.err b p):b≠0:=by
 unfold scan at a;split at a;·injection a with a _;omega
 ·exact zex _ _ _ _ _ _ a
end lexs
namespace chk
def gJ:List UInt8->List UInt8 × Option (List UInt8)
 | []=>([],none)
 | c :: r=>if c=46 then([],some r)else((c :: (gJ r).1),(gJ r).2)
end chk
namespace face
open lexs (Tok scan)
open syn
mutual
def InT:Tree->Prop
 | .node k _ _ ks=>(k=0\/6<=k)/\InL ks
def InL:List Tree->Prop
 | []=>True
 | t :: r=>InT t/\InL r
end
variable {b c:Int} {d:ByteArray} {e f:Tree}
theorem InL.snoc (b:InT e):∀ {c:List Tree},InL c->InL (c++[e])
 | [],_=>by show InT e/\InL [];exact⟨b,by unfold InL;trivial⟩
 | a :: r,h=>by
  unfold InL at h;show InT a/\InL (r++[e]);exact⟨h.1,InL.snoc b h.2⟩
theorem bB (a:b=0\/6<=b):InT (.node b d c []):=by unfold InT;exact⟨a,by unfold InL;trivial⟩
theorem dD (a:b=0\/6<=b) (f:InT e):InT (.node b d c [e]):=by
 unfold InT InL InL;exact⟨a,f,trivial⟩
theorem zbg (a:b=0\/6<=b) (g:InT e) (h:InT f):InT (.node b d c [e,f]):=by
 unfold InT InL InL InL;exact⟨a,g,h,trivial⟩
theorem ztt {a e v:Tree} (f:b=0\/6<=b) (g:InT a) (h:InT e) (i:InT v):InT (.node b d c [a,e,v]):=by
 unfold InT InL InL InL InL;exact⟨f,g,h,i,trivial⟩
section
variable (ts:List Tok)
structure InE (f:Nat):Prop where
 ex:∀s q,kM ts f s=some q->InT q.1
 bo:∀l s q,qL ts f l s=some q->InT q.1
 bl:∀l n s q,InT n->zD ts f l n s=some q->InT q.1
 un:∀s q,zQ ts f s=some q->InT q.1
 ak:∀s q,qY ts f s=some q->InT q.1
 pl:∀x s q,qZ ts f x s=some q->InT q.1
 ca:∀x s q,zV ts f x s=some q->InT q.1
 cl:∀x ks s on q,InL ks->yI ts f x ks s on=some q->InT q.1
theorem zt7 (s:St):InT (number ts s).1:=by
 unfold number;split;·exact bB (.inr oA)
 ·split<;>exact bB (.inr oA)
theorem inE:∀e,InE ts e
 | 0=>by
  constructor;·intro s b a;unfold kM at a;cases a
  ·intro g s b a;unfold qL at a;cases a
  ·intro g j s b d a;unfold zD at a;cases a
  ·intro s b a;unfold zQ at a;cases a
  ·intro s b a;unfold qY at a;cases a
  ·intro c s b a;unfold qZ at a;cases a
  ·intro c s b a;unfold zV at a;cases a
  ·intro c i s on b f a;unfold yI at a;cases a
 | e+1=>by
  have ih:=inE e;constructor
  ·intro s b a;unfold kM at a;split at a;·cases a;exact bB (.inl rfl)
   ·exact ih.bo _ _ _ a
  ·intro g s b a;unfold qL at a;split at a;·exact ih.un _ _ a
   ·obtain⟨p,hp,a⟩:=jg.1 a;exact ih.bl _ _ _ _ (ih.bo _ _ _ hp) a
  ·intro g j s b d a;unfold zD at a;split at a;·cases a;exact d
   ·split at a;·cases a;exact d
    ·obtain⟨p,hp,a⟩:=jg.1 a;have h:=ih.bo _ _ _ hp;split at a;·cases a;exact zbg (.inr oA) d h
     ·exact ih.bl _ _ _ _ (zbg (.inr oA) d h) a
  ·intro s b a;unfold zQ at a;split at a;·obtain⟨p,hp,a⟩:=jg.1 a;cases a;exact dD (.inr oA) (ih.un _ _ hp)
   ·split at a;·obtain⟨p,hp,a⟩:=jg.1 a;cases a;exact dD (.inr oA) (ih.un _ _ hp)
    ·split at a;·exact ih.ak _ _ a
     ·split at a;·cases a;exact zt7 ts s
      ·split at a;·exact ih.ca _ _ _ a
       ·exact ih.pl _ _ _ a
  ·intro s b a;unfold qY at a;obtain⟨p,hp,a⟩:=jg.1 a;cases a;show InT p.1;exact ih.ex _ _ hp
  ·intro c s b a;unfold qZ at a;split at a;·obtain⟨p,hp,a⟩:=jg.1 a;cases a;exact dD (.inr oA) (ih.ex _ _ hp)
   ·cases a;exact bB (.inr oA)
  ·intro c s b a;unfold zV at a;split at a;·cases a;exact bB (.inr oA)
   ·exact ih.cl _ _ _ _ _ (by unfold InL;trivial) a
  ·intro c i s on b f a;unfold yI at a;split at a;·obtain⟨p,hp,a⟩:=jg.1 a;exact ih.cl _ _ _ _ _ (InL.snoc (ih.ex _ _ hp) f) a
   ·cases a;show InT (.node 18 c 0 i);unfold InT;exact⟨.inr oA,f⟩
structure InS (f:Nat):Prop where
 bl:∀s q,qA ts f s=some q->InT q.1
 li:∀ks s q,InL ks->yC ts f ks s=some q->InT q.1
 st:∀s q,yP ts f s=some q->InT q.1
theorem inS:∀f,InS ts f
 | 0=>by
  constructor;·intro s e a;unfold qA at a;cases a
  ·intro j s e h a;unfold yC at a;cases a
  ·intro s e a;unfold yP at a;cases a
 | f+1=>by
  have ih:=inS f;have c:=inE ts f;constructor;·intro s e a;unfold qA at a;exact ih.li _ _ _ (by unfold InL;trivial) a
  ·intro j s e h a;unfold yC at a;have i:InT (.node 6 empty 0 j):=by unfold InT;exact⟨.inr oA,h⟩
   split at a;·cases a;exact i
   ·split at a;·cases a;exact i
    ·obtain⟨p,hp,a⟩:=jg.1 a;exact ih.li _ _ _ (InL.snoc (ih.st _ _ hp) h) a
  ·intro s e a;unfold yP at a;split at a
   ·obtain⟨d,b,a⟩:=jg.1 a;obtain⟨k,g,a⟩:=jg.1 a;split at a;·obtain⟨n,l,a⟩:=jg.1 a;cases a;exact ztt (.inr oA) (c.ak _ _ b) (ih.bl _ _ g) (ih.bl _ _ l)
    ·cases a;exact zbg (.inr oA) (c.ak _ _ b) (ih.bl _ _ g)
   ·split at a;·obtain⟨d,b,a⟩:=jg.1 a;obtain⟨k,g,a⟩:=jg.1 a;cases a;exact zbg (.inr oA) (c.ak _ _ b) (ih.bl _ _ g)
    ·split at a;·obtain⟨d,b,a⟩:=jg.1 a;cases a;exact dD (.inr oA) (c.ex _ _ b)
     ·split at a;·obtain⟨d,b,a⟩:=jg.1 a;cases a;exact dD (.inr oA) (c.ca _ _ _ b)
      ·split at a;·obtain⟨d,b,a⟩:=jg.1 a;cases a;exact dD (.inr oA) (c.ex _ _ b)
       ·split at a;·obtain⟨d,b,a⟩:=jg.1 a;cases a;exact dD (.inr oA) (c.pl _ _ _ b)
        ·split at a;·obtain⟨d,b,a⟩:=jg.1 a;cases a;exact dD (.inr oA) (c.ex _ _ b)
         ·obtain⟨d,b,a⟩:=jg.1 a;obtain⟨o,m,a⟩:=jg.1 a;cases a;exact zbg (.inr oA) (c.pl _ _ _ b) (c.ex _ _ m)
end
/-! declarations -/
def bI (b:Bool):Int:=if b then 1 else 0
inductive Kid where
 | imp (x:ByteArray)
 | var (x:ByteArray) (p l:Bool) (n:Option Int)
 | proc (x:ByteArray) (p l:Bool) (g:Option Bool) (ps:List (ByteArray × Bool)) (b:Tree)
def gI:Option Bool->Int
 | none=>0
 | some b=>4+4*bI b
def zO (q:ByteArray × Bool):Tree:=.node 5 q.1 (bI q.2) []
def Kid.tree:Kid->Tree
 | .imp x=>.node 2 x 0 []
 | .var x p l none=>.node 3 x (2*bI p+bI l) []
 | .var x p l (some n)=>.node 3 x (2*bI p+bI l) [.node 15 empty n []]
 | .proc x p l g ps b=>.node 4 x (2*bI p+bI l+gI g) (ps.map zO++[b])
section
variable (ts:List Tok)
theorem dW (s:St):∃a:Bool,(label ts s).1=bI a:=by
 unfold label;split;·exact⟨true,rfl⟩
 ·exact⟨false,rfl⟩
theorem zz4 (s:St):∃p:Bool,vN ts s=2*bI p:=by
 unfold vN;split;·exact⟨true,rfl⟩
 ·exact⟨false,rfl⟩
theorem zvq (p:Bool) (s:St):∃(a:Bool) (d:Option Bool),yH ts (2*bI p) s=2*bI p+bI a+gI d:=by
 obtain⟨a,b⟩:=dW ts s;unfold yH;split
 ·obtain⟨c,e⟩:=dW ts (label ts s).2.next;refine⟨a,some c,?_⟩;rw[b,e];show _=2*bI p+bI a+(4+4*bI c)
  omega
 ·exact⟨a,none,by rw[b];show _=2*bI p+bI a+0;omega⟩
theorem zt8 (s:St):∃a,(number ts s).1=.node 15 empty a []:=by
 unfold number;split;·exact⟨_,rfl⟩
 ·split<;>exact⟨_,rfl⟩
end
end face
namespace face
open syn
def Kid.good:Kid->Prop
 | .imp x=>x.size<=16
 | .var x _ _ _=>x.size<=16
 | .proc x _ _ _ ps b=>x.size<=16/\(∀q∈ps,q.1.size<=16)/\InT b
end face
namespace face
open lexs (Tok scan scan_len)
open syn
section
variable (ts:List Tok)
theorem name_size (s:St):(name ts s).1.size<=16:=by
 unfold name;split;·rename_i a;unfold kE at a;simp only[jj,jl]at a;exact a.1.1.1.2
 ·exact jz _
end
def Kid.named:Kid->Prop
 | .imp x=>kE x=true
 | .var x _ _ _=>kE x=true
 | .proc x _ _ _ ps _=>kE x=true/\∀q∈ps,kE q.1=true
theorem zb8 {b:ByteArray} (a:kE b=true):b.size<=16:=by
 unfold kE at a;simp only[jj,jl]at a;exact a.1.1.1.2
section
variable (ts:List Tok)
theorem qD {s t:St} (c:s.bad=true->t=s) (a:t.bad=false):s.bad=false:=by
 cases b:s.bad;·rfl
 ·rw[c b,b]at a;cases a
theorem gZ {s:St} (a:(name ts s).2.bad=false):kE (name ts s).1=true/\s.bad=false:=by
 refine⟨?_,qD (fun c=>gQ c) a⟩;unfold name at a |-;split
 ·assumption
 ·rename_i b;rw[ju b]at a;simp[St.fail]at a
theorem zij:∀(c:Nat) (b:List Tree) (s:St) (a:List Tree × St),s.bad=true->yB ts c b s=some a->a.2=s
 | 0,b,s,a,hb,h=>by unfold yB at h;cases h
 | c+1,b,s,a,hb,h=>by
  unfold yB at h;rw[bC hb,gQ hb,zH oC hb,ju oC]at h;cases h;rfl
theorem params_st (c:Nat) (s:St) (b:List Tree × St) (d:s.bad=true) (a:params ts c s=some b):b.2=s:=by
 unfold params at a;rw[zH oC d,ju oC]at a;exact zij ts c [] s b d a
theorem zh0:∀(c:Nat) (ps:List (ByteArray × Bool)) (s:St) (a:List Tree × St),(∀a∈ps,kE a.1=true)->yB ts c (ps.map zO) s=some a->a.2.bad=false->∃f:List (ByteArray × Bool),a.1=f.map zO/\∀a∈f,kE a.1=true
 | 0,ps,s,a,hs,h,hb=>by unfold yB at h;cases h
 | c+1,ps,s,a,hs,h,hb=>by
  unfold yB at h;obtain⟨e,j⟩:=dW ts s
  have g:ps.map zO++[.node 5 (name ts (label ts s).2).1 (label ts s).1 []]=(ps++[((name ts (label ts s).2).1,e)]).map zO:=by
   rw[List.map_append,j];rfl
  rw[g]at h
  have d:(name ts (label ts s).2).2.bad=false->∀a∈ps++[((name ts (label ts s).2).1,e)],kE a.1=true:=by
   intro k a b;rw[List.mem_append]at b;rcases b with b | b
   ·exact hs a b
   ·simp only[jy]at b;subst b;exact(gZ ts k).1
  split at h;·have i:(name ts (label ts s).2).2.next.bad=false:=qD (fun l=>zij ts c _ _ _ l h) hb;exact zh0 c _ _ _ (d i) h hb
  ·cases h;exact⟨_,rfl,d hb⟩
theorem ztq {s:St} (a:s.bad=true):zM ts s=s:=by
 unfold zM;rw[bC a,zH oC a,ju oC]
theorem zy6 {s:St} (a:s.bad=true):(zG ts s).2=s:=by
 unfold zG;rw[zH oC a,ju oC]
theorem zow {s:St} (a:s.bad=true):kY ts s=s:=by
 unfold kY;rw[zH oC a,ju oC]
theorem importsL_st (b:Nat) (e:List Tree) (s:St) (c:List Tree × St) (d:s.bad=true) (a:zZ ts b e s=some c):c.2=s:=by
 cases b with
 | zero=>unfold zZ at a;cases a
 | succ b =>
  unfold zZ at a;rw[zH oC d,ju oC]at a;cases a;rfl
theorem declsL_st (b:Nat) (e:List Tree) (s:St) (c:List Tree × St) (d:s.bad=true) (a:yD ts b e s=some c):c.2=s:=by
 cases b with
 | zero=>unfold yD at a;cases a
 | succ b =>
  unfold yD at a;rw[d,Bool.true_or,jv rfl]at a;cases a;rfl
end
end face
namespace chk
open lexs (Tok scan scan_len)
open syn face
def kT (x:ByteArray):Prop:=kE x=true\/∃a b,kE a=true/\kE b=true/\x=a++⟨#[46]⟩++b
inductive ExT:Tree->Prop
 | num (n:Nat):ExT (.node 15 empty n [])
 | nam {x:ByteArray}:kT x->ExT (.node 16 x 0 [])
 | item {x:ByteArray} {e:Tree}:kT x->ExT e->ExT (.node 17 x 0 [e])
 | call {x:ByteArray} {ks:List Tree}:kT x->(∀t∈ks,ExT t)->ExT (.node 18 x 0 ks)
 | op {m:Int} {a b:Tree}:ExT a->ExT b->ExT (.node 19 empty m [a,b])
 | neg {a:Tree}:ExT a->ExT (.node 20 empty 0 [a])
 | nott {a:Tree}:ExT a->ExT (.node 21 empty 0 [a])
inductive PlT:Tree->Prop
 | nam {x:ByteArray}:kT x->PlT (.node 16 x 0 [])
 | item {x:ByteArray} {e:Tree}:kT x->ExT e->PlT (.node 17 x 0 [e])
theorem PlT.ex {b:Tree} (a:PlT b):ExT b:=by
 cases a with
 | nam a=>exact .nam a
 | item a c=>exact .item a c
inductive CaT:Tree->Prop
 | mk {x:ByteArray} {ks:List Tree}:kT x->(∀t∈ks,ExT t)->CaT (.node 18 x 0 ks)
theorem CaT.ex {b:Tree} (a:CaT b):ExT b:=by
 cases a with
 | mk a c=>exact .call a c
mutual
inductive StT:Tree->Prop
 | loc {x:ByteArray} (l:Bool) {e:Tree}:kE x=true->ExT e->StT (.node 7 x (bI l) [e])
 | set {p e:Tree}:PlT p->ExT e->StT (.node 8 empty 0 [p,e])
 | dd {c:Tree}:CaT c->StT (.node 9 empty 0 [c])
 | ift {e b:Tree}:ExT e->BlT b->StT (.node 10 empty 0 [e,b])
 | ife {e b c:Tree}:ExT e->BlT b->BlT c->StT (.node 10 empty 0 [e,b,c])
 | whi {e b:Tree}:ExT e->BlT b->StT (.node 11 empty 0 [e,b])
 | out (l:Bool) {e:Tree}:ExT e->StT (.node 12 empty (bI l) [e])
 | inn (l:Bool) {p:Tree}:PlT p->StT (.node 13 empty (bI l) [p])
 | ret {e:Tree}:ExT e->StT (.node 14 empty 0 [e])
inductive BlT:Tree->Prop
 | mk {ks:List Tree}:(∀t∈ks,StT t)->BlT (.node 6 empty 0 ks)
end
section
variable (ts:List Tok)
theorem zmx (a:ByteArray) (s:St):(eat ts a s).2.bad=s.bad:=by
 unfold eat
 split<;>rfl
theorem zas {s:St} (a:(whole ts s).2.bad=false):kT (whole ts s).1/\s.bad=false:=by
 refine⟨?_,qD (fun d=>zfu d) a⟩;unfold whole at a |-;dsimp only at a |-;split at a;·rename_i b;rw[jv b];obtain⟨f,c⟩:=gZ ts a;rw[zmx]at c;obtain⟨e,_⟩:=gZ ts c;exact .inr ⟨_,_,e,f,rfl⟩
 ·rename_i b;rw[ju b];exact .inl (gZ ts a).1
structure ShE (f:Nat):Prop where
 ex:∀s q,kM ts f s=some q->q.2.bad=false->ExT q.1
 bo:∀l s q,qL ts f l s=some q->q.2.bad=false->ExT q.1
 bl:∀l n s q,ExT n->zD ts f l n s=some q->q.2.bad=false->ExT q.1
 un:∀s q,zQ ts f s=some q->q.2.bad=false->ExT q.1
 ak:∀s q,qY ts f s=some q->q.2.bad=false->ExT q.1
 pl:∀x s q,kT x->qZ ts f x s=some q->q.2.bad=false->PlT q.1
 ca:∀x s q,kT x->zV ts f x s=some q->q.2.bad=false->CaT q.1
 cl:∀x ks s on q,kT x->(∀t∈ks,ExT t)->yI ts f x ks s on=some q->q.2.bad=false->CaT q.1
theorem zt6 {s:St} (a:(number ts s).2.bad=false):ExT (number ts s).1:=by
 unfold number at a |-
 cases b:here ts s with
 | none=>rw[b]at a;simp[St.fail]at a
 | some d =>
  rw[b]at a;dsimp only at a |-;split at a;·rename_i c;rw[jv c];exact .num _
  ·simp[St.fail]at a
theorem shE:∀k,ShE ts k
 | 0=>by
  constructor;·intro s e a;unfold kM at a;cases a
  ·intro n s e a;unfold qL at a;cases a
  ·intro n r s e h a;unfold zD at a;cases a
  ·intro s e a;unfold zQ at a;cases a
  ·intro s e a;unfold qY at a;cases a
  ·intro j s e d a;unfold qZ at a;cases a
  ·intro j s e d a;unfold zV at a;cases a
  ·intro j q s on e d m a;unfold yI at a;cases a
 | k+1=>by
  have ih:=shE k;have i:=Go.Proofs.YtjkcecppnmlhjaaGreatDoor.syn.stuck ts k;constructor
  ·intro s e a b;unfold kM at a;split at a;·rename_i o;cases a;rw[o]at b;cases b
   ·exact ih.bo _ _ _ a b
  ·intro n s e a b;unfold qL at a;split at a;·exact ih.un _ _ a b
   ·obtain⟨p,hp,a⟩:=jg.1 a;have f:p.2.bad=false:=qD (fun d=>i.bl _ _ _ _ d a) b;exact ih.bl _ _ _ _ (ih.bo _ _ _ hp f) a b
  ·intro n r s e h a b;unfold zD at a;split at a;·cases a;exact h
   ·split at a;·cases a;exact h
    ·obtain⟨p,hp,a⟩:=jg.1 a;split at a;·cases a;exact .op h (ih.bo _ _ _ hp b)
     ·have f:p.2.bad=false:=qD (fun d=>i.bl _ _ _ _ d a) b;exact ih.bl _ _ _ _ (.op h (ih.bo _ _ _ hp f)) a b
  ·intro s e a b;unfold zQ at a;split at a;·obtain⟨p,hp,a⟩:=jg.1 a;cases a;exact .neg (ih.un _ _ hp b)
   ·split at a;·obtain⟨p,hp,a⟩:=jg.1 a;cases a;exact .nott (ih.un _ _ hp b)
    ·split at a;·exact ih.ak _ _ a b
     ·split at a;·cases a;exact zt6 ts b
      ·split at a;·have f:(whole ts s).2.bad=false:=qD (fun d=>i.c _ _ _ d a) b;exact(ih.ca _ _ _ (zas ts f).1 a b).ex
       ·have f:(whole ts s).2.bad=false:=qD (fun d=>i.p _ _ _ d a) b;exact(ih.pl _ _ _ (zas ts f).1 a b).ex
  ·intro s e a b;unfold qY at a;obtain⟨p,hp,a⟩:=jg.1 a;cases a;have f:p.2.bad=false:=qD (t:=kB ts ⟨#[41]⟩ p.2) (fun d=>qE oC d) b;show ExT p.1;exact ih.ex _ _ hp f
  ·intro j s e d a b;unfold qZ at a;split at a;·obtain⟨p,hp,a⟩:=jg.1 a;cases a;exact .item d (ih.ex _ _ hp (qD (fun d=>qE oC d) b))
   ·cases a;exact .nam d
  ·intro j s e d a b;unfold zV at a;split at a;·cases a;exact .mk d (fun l g=>by cases g)
   ·exact ih.cl _ _ _ _ _ d (fun l g=>by cases g) a b
  ·intro j q s on e d m a b;unfold yI at a;split at a
   ·obtain⟨p,hp,a⟩:=jg.1 a;have f:(eat ts ⟨#[44]⟩ p.2).2.bad=false:=qD (fun d=>i.cl _ _ _ _ _ d a) b;rw[zmx]at f;refine ih.cl _ _ _ _ _ d ?_ a b;intro l g;rw[List.mem_append]at g;rcases g with g | g
    ·exact m l g
    ·simp only[jy]at g;subst g;exact ih.ex _ _ hp f
   ·cases a;exact .mk d m
structure ShS (f:Nat):Prop where
 bl:∀s q,qA ts f s=some q->q.2.bad=false->BlT q.1
 li:∀ks s q,(∀t∈ks,StT t)->yC ts f ks s=some q->q.2.bad=false->BlT q.1
 st:∀s q,yP ts f s=some q->q.2.bad=false->StT q.1
theorem shS:∀m,ShS ts m
 | 0=>by
  constructor;·intro s q a;unfold qA at a;cases a
  ·intro B s q v a;unfold yC at a;cases a
  ·intro s q a;unfold yP at a;cases a
 | m+1=>by
  have ih:=shS m;have i:=shE ts m;have t:=Go.Proofs.YtjkcecppnmlhjaaGreatDoor.syn.stuck ts m;have r:=fM ts m;constructor;·intro s q a f;unfold qA at a;exact ih.li _ _ _ (fun y j=>by cases j) a f
  ·intro B s q v a f;unfold yC at a;split at a;·cases a;exact .mk v
   ·split at a;·cases a;exact .mk v
    ·obtain⟨p,hp,a⟩:=jg.1 a;have c:p.2.bad=false:=qD (fun d=>r.bl _ _ _ d a) f;refine ih.li _ _ _ ?_ a f;intro y j;rw[List.mem_append]at j;rcases j with j | j
     ·exact v y j
     ·simp only[jy]at j;subst j;exact ih.st _ _ hp c
  ·intro s q a f;unfold yP at a;split at a
   ·obtain⟨g,d,a⟩:=jg.1 a;obtain⟨w,k,a⟩:=jg.1 a;split at a;·obtain⟨D,x,a⟩:=jg.1 a;cases a;have c:w.2.next.bad=false:=qD (fun b=>r.bk _ _ b x) f;replace c:w.2.bad=false:=c;have h:g.2.bad=false:=qD (fun b=>r.bk _ _ b k) c;exact .ife (i.ak _ _ d h) (ih.bl _ _ k c) (ih.bl _ _ x f)
    ·cases a;have h:g.2.bad=false:=qD (fun b=>r.bk _ _ b k) f;exact .ift (i.ak _ _ d h) (ih.bl _ _ k f)
   ·split at a;·obtain⟨g,d,a⟩:=jg.1 a;obtain⟨w,k,a⟩:=jg.1 a;cases a;have h:g.2.bad=false:=qD (fun b=>r.bk _ _ b k) f;exact .whi (i.ak _ _ d h) (ih.bl _ _ k f)
    ·split at a;·obtain⟨g,d,a⟩:=jg.1 a;cases a;have c:g.2.bad=false:=qD (fun b=>qE oC b) f;have h:(kB ts ⟨#[61]⟩ (name ts (label ts s).2).2).bad=false:=qD (fun b=>t.e _ _ b d) c;have u:(name ts (label ts s).2).2.bad=false:=qD (fun b=>qE oC b) h;obtain⟨o,n⟩:=dW ts s;rw[n];exact .loc o (gZ ts u).1 (i.ex _ _ d c)
     ·split at a;·obtain⟨g,d,a⟩:=jg.1 a;cases a;have c:g.2.bad=false:=qD (fun b=>qE oC b) f;have h:(whole ts s.next).2.bad=false:=qD (fun b=>t.c _ _ _ b d) c;exact .dd (i.ca _ _ _ (zas ts h).1 d c)
      ·split at a;·obtain⟨g,d,a⟩:=jg.1 a;cases a;have c:g.2.bad=false:=qD (fun b=>qE oC b) f;obtain⟨o,n⟩:=dW ts s.next;rw[n];exact .out o (i.ex _ _ d c)
       ·split at a;·obtain⟨g,d,a⟩:=jg.1 a;cases a;have c:g.2.bad=false:=qD (fun b=>qE oC b) f;have h:(whole ts (label ts s.next).2).2.bad=false:=qD (fun b=>t.p _ _ _ b d) c;obtain⟨o,n⟩:=dW ts s.next;rw[n];exact .inn o (i.pl _ _ _ (zas ts h).1 d c)
        ·split at a;·obtain⟨g,d,a⟩:=jg.1 a;cases a;have c:g.2.bad=false:=qD (fun b=>qE oC b) f;exact .ret (i.ex _ _ d c)
         ·obtain⟨g,d,a⟩:=jg.1 a;obtain⟨C,b,a⟩:=jg.1 a;cases a;have c:C.2.bad=false:=qD (fun l=>qE oC l) f;have h:(kB ts ⟨#[61]⟩ g.2).bad=false:=qD (fun l=>t.e _ _ l b) c;have u:g.2.bad=false:=qD (fun l=>qE oC l) h;have z:(whole ts s).2.bad=false:=qD (fun l=>t.p _ _ _ l d) u;exact .set (i.pl _ _ _ (zas ts z).1 d u) (i.ex _ _ b c)
end
def vK:Kid->Prop
 | .proc _ _ _ _ _ b=>BlT b
 | _=>True
section
variable (ts:List Tok)
theorem zvj (d:Nat) (s:St) (c:Tree × St) (b:gD ts d s=some c) (r:c.2.bad=false):∃j:Kid,c.1=j.tree/\j.good/\j.named/\vK j/\s.bad=false:=by
 unfold gD at b;obtain⟨p,hp⟩:=zz4 ts s;rw[hp]at b;split at b
 ·obtain⟨e,f,b⟩:=jg.1 b;obtain⟨u,q,b⟩:=jg.1 b;cases b;have m:(zM ts (kB ts ⟨#[41]⟩ e.2)).bad=false:=qD (fun a=>(fM ts d).bk _ _ a q) r;have n:(kB ts ⟨#[41]⟩ e.2).bad=false:=qD (fun a=>ztq ts a) m;have h:e.2.bad=false:=qD (fun a=>qE oC a) n;have o:(kB ts ⟨#[40]⟩ (name ts (kY ts s).next).2).bad=false:=qD (fun a=>params_st ts d _ _ a f) h;have i:(name ts (kY ts s).next).2.bad=false:=qD (fun a=>qE oC a) o;obtain⟨l,v⟩:=gZ ts i;have w:s.bad=false:=qD (fun a=>zow ts a) v
  obtain⟨ps,C,t⟩:∃ps:List (ByteArray × Bool),e.1=ps.map zO/\∀c∈ps,kE c.1=true:=by
   unfold params at f;split at f;·cases f;exact⟨[],rfl,fun c g=>by cases g⟩
   ·exact zh0 ts d [] _ _ (fun c g=>by cases g) f h
  obtain⟨k,x,y⟩:=zvq ts p (kB ts ⟨#[41]⟩ e.2);refine⟨.proc (name ts (kY ts s).next).1 p k x ps u.1,?_,⟨face.name_size ts _,fun c g=>zb8 (t c g),(inS ts d).bl _ _ q⟩,⟨l,t⟩,(shS ts d).bl _ _ q r,w⟩;show Tree.node 4 _ _ _=Tree.node 4 _ _ _;rw[y,C]
 ·cases b;have m:(zG ts (name ts (label ts (kY ts s)).2).2).2.bad=false:=qD (fun a=>qE oC a) r;have n:(name ts (label ts (kY ts s)).2).2.bad=false:=qD (fun a=>zy6 ts a) m;obtain⟨l,h⟩:=gZ ts n;have o:(kY ts s).bad=false:=qD (fun a=>bC a) h;have i:s.bad=false:=qD (fun a=>zow ts a) o;obtain⟨k,z⟩:=dW ts (kY ts s);rw[z];unfold zG;split;·obtain⟨D,B⟩:=zt8 ts (name ts (label ts (kY ts s)).2).2.next;rw[B];exact⟨.var _ p k (some D),rfl,face.name_size ts _,l,trivial,i⟩
  ·exact⟨.var _ p k none,rfl,face.name_size ts _,l,trivial,i⟩
theorem zho:∀(e:Nat) (c:List Kid) (s:St) (d:List Tree × St),(∀a∈c,a.good/\a.named/\vK a)->zZ ts e (c.map Kid.tree) s=some d->d.2.bad=false->∃g:List Kid,d.1=g.map Kid.tree/\∀a∈g,a.good/\a.named/\vK a
 | 0,c,s,d,hk,h,hb=>by unfold zZ at h;cases h
 | e+1,c,s,d,hk,h,hb=>by
  unfold zZ at h;split at h
  ·have k:c.map Kid.tree++[.node 2 (name ts s.next).1 0 []]=(c++[Kid.imp (name ts s.next).1]).map Kid.tree:=by rw[List.map_append];rfl
   rw[k]at h;have i:(kB ts ⟨#[59]⟩ (name ts s.next).2).bad=false:=qD (fun f=>importsL_st ts e _ _ _ f h) hb;have j:(name ts s.next).2.bad=false:=qD (fun f=>qE oC f) i;refine zho e _ _ _ ?_ h hb;intro a b;rw[List.mem_append]at b;rcases b with b | b
   ·exact hk a b
   ·simp only[jy]at b;subst b;exact⟨face.name_size ts _,(gZ ts j).1,trivial⟩
  ·cases h;exact⟨c,rfl,hk⟩
theorem zh8:∀(f:Nat) (d:List Kid) (s:St) (e:List Tree × St),(∀b∈d,b.good/\b.named/\vK b)->yD ts f (d.map Kid.tree) s=some e->e.2.bad=false->∃g:List Kid,e.1=g.map Kid.tree/\∀b∈g,b.good/\b.named/\vK b
 | 0,d,s,e,hk,a,hb=>by unfold yD at a;cases a
 | f+1,d,s,e,hk,a,hb=>by
  unfold yD at a;split at a;·cases a;exact⟨d,rfl,hk⟩
  ·obtain⟨p,hp,a⟩:=jg.1 a;have h:p.2.bad=false:=qD (fun n=>declsL_st ts f _ _ _ n a) hb;obtain⟨b,j,k,l,m,_⟩:=zvj ts _ _ _ hp h;have i:d.map Kid.tree++[p.1]=(d++[b]).map Kid.tree:=by rw[List.map_append,j];rfl
   rw[i]at a;refine zh8 f _ _ _ ?_ a hb;intro o c;rw[List.mem_append]at c;rcases c with c | c
   ·exact hk o c
   ·simp only[jy]at c;subst c;exact⟨k,l,m⟩
end
theorem zrb (g:ByteArray) (a:(parse g).code=0):∃(j:ByteArray) (f:List Kid),(parse g).tree=.node 1 j 0 (f.map Kid.tree)/\j.size<=16/\kE j=true/\(∀e∈f,e.good/\e.named/\vK e)/\fitsT (parse g).tree=true:=by
 unfold parse at a |-
 cases d:scan g.data.toList with
 | err v p =>
  rw[d]at a
  exact absurd a (lexs.scan_err d)
 | ok ts =>
  obtain⟨p,k,hp,i,t⟩:=zed (ts:=ts) (scan_len d);rw[d]at a;simp only[t]at a |-;unfold xT at a |-
  cases c:k.2.bad with
  | true =>
   rw[jv c]at a
   simp at a
  | false =>
   rw[ju (by simp[c])]at a |-
   cases m:fitsT (.node 1 (xB ts) 0 k.1)with
   | false =>
    rw[ju (by simp[m])]at a
    simp at a
   | true =>
    rw[jv rfl];have l:p.2.bad=false:=qD (fun b=>declsL_st ts _ _ _ _ b i) c;have n:(uK ts).bad=false:=qD (fun b=>importsL_st ts _ _ _ _ b hp) l;have o:(name ts (kB ts ⟨#[109,111,100,117,108,101]⟩ ⟨0,false⟩)).2.bad=false:=qD (fun b=>qE oC b) n;obtain⟨f,q,h⟩:=zho ts _ [] _ _ (fun e h=>by cases h) hp l;rw[q]at i;obtain⟨u,r,s⟩:=zh8 ts _ f _ _ h i c;exact⟨xB ts,u,by show Tree.node 1 _ 0 k.1=_;rw[r],face.name_size ts _,(gZ ts o).1,s,m⟩
end chk
namespace face
structure VarD where
 name:ByteArray
 pub:Bool
 label:Int
 size:Int
structure ProcD where
 name:ByteArray
 pub:Bool
 params:List Int
 writes:Int
 gives:Bool
 given:Int
structure FaceD where
 module:ByteArray
 vars:List VarD
 procs:List ProcD
instance:Inhabited VarD:=⟨⟨default,default,default,default⟩⟩
instance:Inhabited ProcD:=⟨⟨default,default,default,default,default,default⟩⟩
end face
namespace face
open syn (kE eqS)
def qM (n:Int):Bool:=n==0||n==1
def uR (v:VarD):Bool:=kE v.name&&(v.pub&&(qM v.label&&(decide (0<=v.size)&&decide (v.size<=64))))
def vO (p:ProcD):Bool:=kE p.name&&(p.pub&&(decide (p.params.length<=5)&&(p.params.all qM&&(qM p.writes&&(qM p.given&&(p.gives||p.given==0))))))
def kH (l:List ByteArray) (x:ByteArray):Bool:=l.any fun a=>eqS a x
def apartB:List ByteArray->List ByteArray->Bool
 | _,[]=>true
 | seen,x :: r=>!kH seen x&&apartB (seen++[x]) r
def zf8 (f:FaceD):List ByteArray:=f.vars.map (·.name)++f.procs.map (·.name)
def vB (f:FaceD):Bool:=kE f.module&&(decide (f.vars.length+f.procs.length<=20)&&(f.vars.all uR&&(f.procs.all vO&&apartB [] (zf8 f))))
end face
namespace face
open syn
def xK:List ByteArray->List (ByteArray × Bool)->Int->Option (Int × Int)
 | _,[],_=>none
 | seen,q :: r,a=>if kH seen q.1 then some (5,a)else xK (seen++[q.1]) r (a+1)
def vW:Option Int->Int->Option (Int × Int)
 | none,_=>none
 | some n,a=>if n<1\/64<n then some (6,a)else none
def zC (m:ByteArray):List Kid->List ByteArray->List ByteArray->Int->Option (Int × Int)
 | [],_,_,_=>none
 | .imp x :: r,is,ns,a=>if kH is x||eqS x m then some (5,a)else if 5<=is.length then some (1,a)else zC m r (is++[x]) ns (a+1)
 | .var x p l n :: r,is,ns,a=>if kH ns x then some (5,a)else if 20<=ns.length then some (1,a)else
  match vW n a with
  | some e=>some e
  | none=>zC m r is (ns++[x]) (a+kC (Kid.var x p l n).tree)
 | .proc x p l g ps b :: r,is,ns,a=>if kH ns x then some (5,a)else if 20<=ns.length then some (1,a)else if 5<ps.length then some (1,a)else
  match xK [] ps (a+1)with
  | some e=>some e
  | none=>zC m r is (ns++[x]) (a+kC (Kid.proc x p l g ps b).tree)
def zY (x:ByteArray) (p l:Bool) (n:Option Int):VarD:=⟨x,p,bI l,n.getD 0⟩
def kO (x:ByteArray) (p l:Bool) (g:Option Bool) (ps:List (ByteArray × Bool)):ProcD:=⟨x,p,ps.map fun q=>bI q.2,bI l,g.isSome,bI (g.getD false)⟩
def qF:List Kid->List ByteArray
 | []=>[]
 | .imp x :: r=>x :: qF r
 | _ :: r=>qF r
def kI (all:Bool):List Kid->List VarD
 | []=>[]
 | .var x p l n :: r=>if all||p then zY x p l n :: kI all r else kI all r
 | _ :: r=>kI all r
def kL (all:Bool):List Kid->List ProcD
 | []=>[]
 | .proc x p l g ps b :: r=>if all||p then kO x p l g ps :: kL all r else kL all r
 | _ :: r=>kL all r
def qS (all:Bool) (m:ByteArray) (ks:List Kid):FaceD:=⟨m,kI all ks,kL all ks⟩
theorem cN:∀(b a:List Kid),qF (b++a)=qF b++qF a
 | [],a=>rfl
 | .imp x :: r,a=>by show x :: qF (r++a)=x :: (qF r++qF a);rw[cN r a]
 | .var _ _ _ _ :: r,a=>cN r a
 | .proc _ _ _ _ _ _ :: r,a=>cN r a
theorem fU (all:Bool):∀(b a:List Kid),kI all (b++a)=kI all b++kI all a
 | [],a=>rfl
 | .imp x :: r,a=>fU all r a
 | .var x p l n :: r,a=>by
  show(if all||p then zY x p l n :: kI all (r++a)else kI all (r++a))=(if all||p then zY x p l n :: kI all r else kI all r)++kI all a;rw[fU all r a]
  split<;>rfl
 | .proc _ _ _ _ _ _ :: r,a=>fU all r a
theorem fT (all:Bool):∀(b a:List Kid),kL all (b++a)=kL all b++kL all a
 | [],a=>rfl
 | .imp x :: r,a=>fT all r a
 | .var _ _ _ _ :: r,a=>fT all r a
 | .proc x p l g ps c :: r,a=>by
  show(if all||p then kO x p l g ps :: kL all (r++a)else kL all (r++a))=(if all||p then kO x p l g ps :: kL all r else kL all r)++kL all a;rw[fT all r a];split<;>rfl
def Kid.kind:Kid->Int
 | .imp _=>2
 | .var _ _ _ _=>3
 | .proc _ _ _ _ _ _=>4
def Kid.text:Kid->ByteArray
 | .imp x=>x
 | .var x _ _ _=>x
 | .proc x _ _ _ _ _=>x
def Kid.num:Kid->Int
 | .imp _=>0
 | .var _ p l _=>2*bI p+bI l
 | .proc _ p l g _ _=>2*bI p+bI l+gI g
def Kid.kids:Kid->List Tree
 | .imp _=>[]
 | .var _ _ _ none=>[]
 | .var _ _ _ (some n)=>[.node 15 empty n []]
 | .proc _ _ _ _ ps b=>ps.map zO++[b]
theorem Kid.tree_is (a:Kid):a.tree=.node a.kind a.text a.num a.kids:=by
 cases a with
 | imp b=>rfl
 | var b p c d=>cases d<;>rfl
 | proc b p c f ps e=>rfl
end face
end Go.Proofs.YtjkcecppnmlhjaaGreatDoor
