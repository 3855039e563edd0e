/- Faces, as plain data. No Go in sight. -/
import Derived.RowKit
import Derived.Lib.ParseIntB
import Derived.Lib.Strings
import Derived.Test.YtaadmdlbkhcfnaaGreatDoorNCp
set_option linter.unusedVariables false
namespace Go.Proofs.YtaadmdlbkhcfnaaGreatDoor
namespace lexs
def zD (c:Int):Bool:=decide (97<=c/\c<=122)||decide (65<=c/\c<=90)
def yA (c:Int):Bool:=decide (48<=c/\c<=57)
def gF (c:Int):Bool:=zD c||yA c||c==95
def xL (c:UInt8):Bool:=zD (c.toNat:Int)
def qJ (c:UInt8):Bool:=yA (c.toNat:Int)
def qG (c:UInt8):Bool:=gF (c.toNat:Int)
def kH:List UInt8:=[57,50,50,51,51,55,50,48,51,54,56,53,52,55,55,53,56,48,55]
def qU (l:List UInt8):Int :=
 if l.all qJ=false then 2
 else if decide (1<l.length)&&l.headD 0==48 then 2
 else if decide (19<l.length)||(l.length==19&&(!Op.bytesLess l kH&&!(l==kH))) then 6
 else 0
def gU:List UInt8:=[123,125,40,41,91,93,59,44,46,61,60,43,45,42,47,37,38,124,33]
def vZ (l:List UInt8):Nat :=
 if l.headD 0==61&&(l.drop 1).headD 0==61 then 2 else if gU.contains (l.headD 0) then 1 else 0
def run (p:UInt8->Bool) (l:List UInt8):Nat:=(l.takeWhile p).length
inductive Step where
 | skip (n:Nat)
 | fault (c:Int)
 | tok (k:Int) (n:Nat)
def vI (c:UInt8) (l:List UInt8):Step :=
 if c==32||c==10 then .skip 1
 else if c==35 then .skip (run (fun b=>b != 10) l)
 else if xL c then (if 16<run qG l then .fault 1 else .tok 1 (run qG l))
 else if qJ c then (if qU (l.take (run qG l))==0 then .tok 2 (run qG l) else .fault (qU (l.take (run qG l))))
 else if vZ l==0 then .fault 2 else .tok 3 (vZ l)
def qA (l:List UInt8):Step:=vI (l.headD 0) l
structure Tok where
 kind:Int
 text:List UInt8
 at_:Nat
inductive Res where
 | ok (l:List Tok)
 | err (c:Int) (at_:Nat)
def zC:Nat->List UInt8->Nat->List Tok->Res
 | 0,_,_,acc=>.ok acc
 | _+1,[],_,acc=>.ok acc
 | f+1,b :: r,i,acc =>
  match qA (b :: r) with
  | .skip n=>zC f ((b :: r).drop n) (i+n) acc
  | .fault c=>.err c i
  | .tok k n=>zC f ((b :: r).drop n) (i+n) (acc++[⟨k,(b :: r).take n,i⟩])
def scan (l:List UInt8):Res:=if 3000<l.length then .err 1 0 else zC l.length l 0 []
/-! ### rows of bytes -/
theorem zgo (p:UInt8->Bool) (l:List UInt8):run p l<=l.length:=(List.takeWhile_sublist p).length_le
theorem zgs (p:UInt8->Bool) (l:List UInt8) (n:Nat) (h1:∀ j (h:j<l.length),j<n->p l[j]=true) (h2:n=l.length\/∃ h:n<l.length,p l[n]=false):run p l=n:=by
 induction l generalizing n with
 | nil =>
  rcases h2 with h | ⟨h,_⟩
  ·simp [run,h]
  ·simp at h
 | cons c r ih =>
  unfold run at ih |-
  cases n with
  | zero =>
   rcases h2 with h | ⟨h,hp⟩
   ·simp at h
   ·simp only [jI] at hp
    simp [hp]
  | succ n =>
   have h0:p c=true:=h1 0 (by simp) (by omega);rw [List.takeWhile_cons,jv h0,jd,ih n];·intro j hj hn;exact h1 (j+1) (by simp;omega) (by omega)
   ·rcases h2 with h | ⟨h,hp⟩
    ·left;simpa using h
    ·right;exact ⟨by simpa using h,by simpa using hp⟩
theorem zbz (p:UInt8->Bool) (c:UInt8) (r:List UInt8) (h:p c=true):0<run p (c :: r):=by
 simp [run,h]
theorem zqy (l:List UInt8):vZ l<=l.length:=by
 unfold vZ;rcases l with _ | ⟨a,_ | ⟨b,r⟩⟩
 ·simp [gU]
 ·simp;split<;>simp
 ·split<;>(try split)<;>simp
theorem ze1 {c:UInt8} (h:xL c=true):qG c=true:=by unfold xL at h;unfold qG gF;simp [h]
theorem zcv {c:UInt8} (h:qJ c=true):qG c=true:=by unfold qJ at h;unfold qG gF;simp [h]
theorem zqw {b:UInt8} {r:List UInt8} {n:Nat} (h:qA (b :: r)=.skip n):0<n/\n<=r.length+1:=by
 rw [qA,List.headD_cons,vI] at h;by_cases h1:(b==32||b==10)=true;·rw [jv h1] at h;injection h with h;omega
 rw [ju h1] at h;by_cases h2:(b==35)=true
 ·rw [jv h2] at h;injection h with h;have hb:b=35:=by simpa using h2
  have:=zbz (fun b=>b != 10) b r (by rw [hb];decide);have h3:=zgo (fun b=>b != 10) (b :: r);simp only [jd] at h3;omega
 rw [ju h2] at h;split at h;·split at h<;>simp at h
 ·split at h;·split at h<;>simp at h
  ·split at h<;>simp at h
theorem zbn {b:UInt8} {r:List UInt8} {k:Int} {n:Nat} (h:qA (b :: r)=.tok k n):0<n/\n<=r.length+1:=by
 rw [qA,List.headD_cons,vI] at h;by_cases h1:(b==32||b==10)=true;·rw [jv h1] at h;simp at h
 rw [ju h1] at h;by_cases h2:(b==35)=true;·rw [jv h2] at h;simp at h
 rw [ju h2] at h;have hr:=zgo qG (b :: r);simp only [jd] at hr;split at h
 ·rename_i hl;have:=zbz qG b r (ze1 hl);split at h;·simp at h
  ·injection h with _ h;omega
 ·split at h
  ·rename_i hd;have:=zbz qG b r (zcv hd);split at h;·injection h with _ h;omega
   ·simp at h
  ·split at h;·simp at h
   ·rename_i hs;injection h with _ h;have h3:=zqy (b :: r);simp only [jd] at h3;have:vZ (b :: r)≠0:=by simpa using hs
    omega
/-! ### one round of the scan,at whatever fuel is zng -/
theorem zcw (f:Nat) (i:Nat) (acc:List Tok):zC f [] i acc=.ok acc:=by cases f<;>rfl
theorem cL {f:Nat} {b:UInt8} {r:List UInt8} {i n:Nat} {acc:List Tok} (h:qA (b :: r)=.skip n):zC (f+1) (b :: r) i acc=zC f ((b :: r).drop n) (i+n) acc:=by
 rw [zC,h]
theorem bP {f:Nat} {b:UInt8} {r:List UInt8} {i:Nat} {c:Int} {acc:List Tok} (h:qA (b :: r)=.fault c):zC (f+1) (b :: r) i acc=.err c i:=by
 rw [zC,h]
theorem fW {f:Nat} {b:UInt8} {r:List UInt8} {i n:Nat} {k:Int} {acc:List Tok} (h:qA (b :: r)=.tok k n):zC (f+1) (b :: r) i acc=zC f ((b :: r).drop n) (i+n) (acc++[⟨k,(b :: r).take n,i⟩]):=by
 rw [zC,h]
def val:List UInt8->Nat
 | []=>0
 | c :: r=>(c.toNat - 48)*10 ^ r.length+val r
theorem cK {c:UInt8} (h:qJ c=true):48<=c.toNat/\c.toNat<=57:=by
 unfold qJ yA at h;have:=of_decide_eq_true h;omega
theorem zgv (l:List UInt8) (h:l.all qJ=true):val l<10 ^ l.length:=by
 induction l with
 | nil=>simp [val]
 | cons c r ih =>
  rw [List.all_cons,jj] at h;have hb:=cK h.1;have:=ih h.2;rw [val,jd,Nat.pow_succ];have h2:(c.toNat - 48)*10 ^ r.length<=9*10 ^ r.length:=Nat.mul_le_mul_right _ (by omega);omega
theorem zy0 (l:List UInt8) (h:l.all qJ=true) (acc:Nat) (ha:acc<=18446744073709551615) : Lib.parseUintM (2 ^ 64 - 1) acc l=if acc*10 ^ l.length+val l<=18446744073709551615 then .ok (acc*10 ^ l.length+val l) else .range:=by
 induction l generalizing acc with
 | nil=>simp [Lib.parseUintM,val,ha]
 | cons c r ih =>
  rw [List.all_cons,jj] at h;have hb:=cK h.1;have hT:1<=10 ^ r.length:=Nat.pow_pos (by omega)
  have key:acc*10 ^ (c :: r).length+val (c :: r)=(acc*10+(c.toNat - 48))*10 ^ r.length+val r:=by
   rw [val,jd,Nat.pow_succ,Nat.add_mul,Nat.mul_comm (10 ^ r.length) 10,Nat.mul_assoc,Nat.add_assoc]
  have big:(acc*10+(c.toNat - 48))<=(acc*10+(c.toNat - 48))*10 ^ r.length:=Nat.le_mul_of_pos_right _ hT;rw [key,Lib.parseUintM,jv hb];by_cases h1:1844674407370955162<=acc;·rw [jv h1,ju (by omega)]
  ·rw [ju h1];by_cases h2:2 ^ 64 - 1<acc*10+(c.toNat - 48)
   ·rw [jv h2,ju (by omega)]
   ·rw [ju h2,ih h.2 _ (by omega)]
theorem zjr (l:List UInt8) (h:l.all qJ=true) (h0:l≠[]):Lib.parseIntB 64 l=if val l<9223372036854775808 then .ok (val l:Int) else .range:=by
 obtain ⟨c,r,rfl⟩:=List.exists_cons_of_ne_nil h0;have hb:=cK (by rw [List.all_cons,jj] at h;exact h.1:qJ c=true);have e:=zy0 (c :: r) h 0 (by omega);rw [Nat.zero_mul,Nat.zero_add] at e;have n45:¬ c.toNat=45:=by omega
 have n43:¬ (c.toNat=43\/c.toNat=45):=by omega
 unfold Lib.parseIntB;simp only [n43,if_false];rw [Lib.parseUintB,ju h0,e];by_cases hm:val (c :: r)<=18446744073709551615
 ·rw [jv hm];simp only [n45,not_false_eq_true,true_and,false_and,if_false];by_cases hv:val (c :: r)<9223372036854775808;·rw [jv hv,ju (by omega)]
  ·rw [ju hv,jv (by omega)]
 ·rw [ju hm,ju (by omega)]
theorem zuo (a b:List UInt8) (hl:a.length=b.length) (ha:a.all qJ=true) (hb:b.all qJ=true):Op.bytesLess a b=decide (val a<val b)/\(a==b)=decide (val a=val b):=by
 induction a generalizing b with
 | nil =>
  have:b=[]:=List.eq_nil_of_length_eq_zero (by simpa using hl.symm);subst this
  simp [Op.bytesLess,val]
 | cons x a ih =>
  obtain ⟨y,b,rfl⟩:∃ y r,b=y :: r:=List.exists_cons_of_ne_nil (by intro e;rw [e] at hl;simp at hl);have hl':a.length=b.length:=by simpa using hl
  rw [List.all_cons,jj] at ha hb;have hx:=cK ha.1;have hy:=cK hb.1;have va:=zgv a ha.2;have vb:=zgv b hb.2;obtain ⟨i1,i2⟩:=ih b hl' ha.2 hb.2;rw [Op.bytesLess,i1,List.cons_beq_cons,i2,val,val,hl'];rw [hl'] at va;rcases Nat.lt_trichotomy x.toNat y.toNat with h | h | h
  ·have h1:x<y:=h;have h2:¬ x=y:=by intro e;rw [e] at h;omega
   have hm:(x.toNat - 48+1)*10 ^ b.length<=(y.toNat - 48)*10 ^ b.length:=Nat.mul_le_mul_right _ (by omega);rw [Nat.add_mul,Nat.one_mul] at hm;have hA:(x.toNat - 48)*10 ^ b.length+val a<(y.toNat - 48)*10 ^ b.length+val b:=by omega
   have h3:(x==y)=false:=by simp [h2]
   rw [decide_eq_true h1,decide_eq_true hA,decide_eq_false (Nat.ne_of_lt hA),h3];exact ⟨rfl,rfl⟩
  ·have h1:x=y:=UInt8.toNat_inj.1 h;subst h1;simp
  ·have h1:¬ x<y:=by intro e;have:x.toNat<y.toNat:=e;omega
   have h2:¬ x=y:=by intro e;rw [e] at h;omega
   have hm:(y.toNat - 48+1)*10 ^ b.length<=(x.toNat - 48)*10 ^ b.length:=Nat.mul_le_mul_right _ (by omega);rw [Nat.add_mul,Nat.one_mul] at hm;have hA:(y.toNat - 48)*10 ^ b.length+val b<(x.toNat - 48)*10 ^ b.length+val a:=by omega
   have h3:(x==y)=false:=by simp [h2]
   rw [decide_eq_false h1,decide_eq_false (Nat.lt_asymm hA),decide_eq_false (Nat.ne_of_gt hA),h3];exact ⟨rfl,rfl⟩
theorem numE_val (l:List UInt8) (h:l.all qJ=true) (h0:l≠[]) (hz:(decide (1<l.length)&&l.headD 0==48)=false):qU l=if val l<9223372036854775808 then 0 else 6:=by
 have hv:=zgv l h;rw [qU,ju (by simp [h]),ju (by rw [hz];decide)];rcases Nat.lt_trichotomy l.length 19 with hl | hl | hl
 ·have h1:10 ^ l.length<=10 ^ 18:=Nat.pow_le_pow_right (by omega) (by omega);have h2:(10:Nat) ^ 18=1000000000000000000:=by decide
  have a1:¬ 19<l.length:=by omega
  have a2:¬ l.length=19:=by omega
  rw [jv (show val l<9223372036854775808 by omega),ju (by simp [a1,a2])]
 ·have hm:kH.length=19:=by decide
  have vm:val kH=9223372036854775807:=by decide
  obtain ⟨e1,e2⟩:=zuo l kH (by rw [hl,hm]) h (by decide);rw [e1,e2,vm,hl];by_cases hlt:val l<9223372036854775808;·rw [jv hlt,ju (by simp;omega)]
  ·rw [ju hlt,jv (by simp;omega)]
 ·obtain ⟨c,r,rfl⟩:=List.exists_cons_of_ne_nil h0;have hc:=cK (by rw [List.all_cons,jj] at h;exact h.1:qJ c=true)
  have hne:c.toNat≠48:=by
   intro e;have:c=48:=UInt8.toNat_inj.1 e;subst this;have:1<(48 :: r:List UInt8).length:=by omega
   rw [decide_eq_true this] at hz;simp at hz
  have h2:(10:Nat) ^ 19=10000000000000000000:=by decide
  have h1:10 ^ 19<=10 ^ r.length:=Nat.pow_le_pow_right (by omega) (by simp at hl;omega);have h3:1*10 ^ r.length<=(c.toNat - 48)*10 ^ r.length:=Nat.mul_le_mul_right _ (by omega);have hb:¬ val (c :: r)<9223372036854775808:=by rw [val];omega
  rw [ju hb,jv (by simp only [hl,decide_true,Bool.true_or])]
theorem len_L (s:ByteArray):s.data.toList.length=s.size:=by simp
theorem uH (b c:UInt8) (n:Int) (hn:n=(c.toNat:Int)):((b.toNat:Int)==n)=(b==c):=by
 subst hn;rw [Bool.eq_iff_iff];simp only [beq_iff_eq];constructor;·intro h;exact UInt8.toNat_inj.1 (by omega)
 ·intro h;rw [h]
theorem gG (s:ByteArray) (p:Nat) (h:p<s.size):s.data.toList.drop p=s[p] :: s.data.toList.drop (p+1):=by
 rw [List.drop_eq_getElem_cons (by rw [len_L];exact h)];rfl
theorem zzt (P:UInt8->Bool) (s:ByteArray) (p n:Nat) (hp:p+n<=s.size) (h1:∀ j (h:j<s.size),p<=j->j<p+n->P s[j]=true) (h2:p+n=s.size\/∃ h:p+n<s.size,P s[p+n]=false):run P (s.data.toList.drop p)=n:=by
 apply zgs;·intro j hj hn;rw [List.length_drop,len_L] at hj;rw [List.getElem_drop];exact h1 (p+j) (by omega) (by omega) (by omega)
 ·rcases h2 with h | ⟨h,hP⟩
  ·left;rw [List.length_drop,len_L];omega
  ·right;refine ⟨by rw [List.length_drop,len_L];omega,?_⟩;rw [List.getElem_drop];exact hP
theorem zqc (s:ByteArray) (p n:Nat):s.extract p (p+n)=⟨((s.data.toList.drop p).take n).toArray⟩:=by
 apply WideShapes.bytes_inj;rw [Lib.extract_data];simp
/-! the ways of a step,c the byte at hand -/
section
variable {s:ByteArray} {p:Nat} (hp:p<s.size)
include hp
theorem zu2 (h:((s[p].toNat:Int)==32)=true\/((s[p].toNat:Int)==10)=true):qA (s.data.toList.drop p)=.skip 1:=by
 rw [uH _ 32 32 rfl,uH _ 10 10 rfl] at h;rw [gG s p hp,qA,List.headD_cons,vI,jv];rcases h with h | h<;>simp [h]
theorem zvm (h1:((s[p].toNat:Int)==32)=false) (h2:((s[p].toNat:Int)==10)=false) (h3:((s[p].toNat:Int)==35)=true) {n:Nat} (hr:run (fun b=>b != 10) (s.data.toList.drop p)=n) : qA (s.data.toList.drop p)=.skip n:=by
 rw [uH _ 32 32 rfl] at h1;rw [uH _ 10 10 rfl] at h2;rw [uH _ 35 35 rfl] at h3;rw [<- hr,gG s p hp,qA,List.headD_cons,vI,ju (by simp [h1,h2]),jv h3]
theorem zaq (h1:((s[p].toNat:Int)==32)=false) (h2:((s[p].toNat:Int)==10)=false) (h3:((s[p].toNat:Int)==35)=false) : qA (s.data.toList.drop p)=(if zD (s[p].toNat:Int) then (if 16<run qG (s.data.toList.drop p) then .fault 1 else .tok 1 (run qG (s.data.toList.drop p))) else if yA (s[p].toNat:Int) then (if qU ((s.data.toList.drop p).take (run qG (s.data.toList.drop p)))==0 then .tok 2 (run qG (s.data.toList.drop p)) else .fault (qU ((s.data.toList.drop p).take (run qG (s.data.toList.drop p))))) else if vZ (s.data.toList.drop p)==0 then .fault 2 else .tok 3 (vZ (s.data.toList.drop p))):=by
 rw [uH _ 32 32 rfl] at h1;rw [uH _ 10 10 rfl] at h2;rw [uH _ 35 35 rfl] at h3;rw [qA];have e:(s.data.toList.drop p).headD 0=s[p]:=by rw [gG s p hp,List.headD_cons]
 rw [e,vI,ju (by simp [h1,h2]),ju (by simp [h3])];rfl
theorem zx8 (h1:((s[p].toNat:Int)==32)=false) (h2:((s[p].toNat:Int)==10)=false) (h3:((s[p].toNat:Int)==35)=false) (hl:zD (s[p].toNat:Int)=true) {n:Nat} (hr:run qG (s.data.toList.drop p)=n) (hn:n<=16) : qA (s.data.toList.drop p)=.tok 1 n:=by
 rw [zaq hp h1 h2 h3,jv hl,hr,ju (by omega)]
theorem zwm (h1:((s[p].toNat:Int)==32)=false) (h2:((s[p].toNat:Int)==10)=false) (h3:((s[p].toNat:Int)==35)=false) (hl:zD (s[p].toNat:Int)=true) {n:Nat} (hr:run qG (s.data.toList.drop p)=n) (hn:16<n) : qA (s.data.toList.drop p)=.fault 1:=by
 rw [zaq hp h1 h2 h3,jv hl,hr,jv hn]
theorem zzv (h1:((s[p].toNat:Int)==32)=false) (h2:((s[p].toNat:Int)==10)=false) (h3:((s[p].toNat:Int)==35)=false) (hl:zD (s[p].toNat:Int)=false) (hd:yA (s[p].toNat:Int)=true) {n:Nat} (hr:run qG (s.data.toList.drop p)=n) (he:(qU ((s.data.toList.drop p).take n)==0)=true):qA (s.data.toList.drop p)=.tok 2 n:=by
 rw [zaq hp h1 h2 h3,ju (by simp [hl]),jv hd,hr,jv he]
theorem zyq (h1:((s[p].toNat:Int)==32)=false) (h2:((s[p].toNat:Int)==10)=false) (h3:((s[p].toNat:Int)==35)=false) (hl:zD (s[p].toNat:Int)=false) (hd:yA (s[p].toNat:Int)=true) {n:Nat} (hr:run qG (s.data.toList.drop p)=n) (he:(qU ((s.data.toList.drop p).take n)==0)=false):qA (s.data.toList.drop p)=.fault (qU ((s.data.toList.drop p).take n)):=by
 rw [zaq hp h1 h2 h3,ju (by simp [hl]),jv hd,hr,ju (by simp [he])]
theorem zvp (h1:((s[p].toNat:Int)==32)=false) (h2:((s[p].toNat:Int)==10)=false) (h3:((s[p].toNat:Int)==35)=false) (hl:zD (s[p].toNat:Int)=false) (hd:yA (s[p].toNat:Int)=false) {n:Nat} (hn:vZ (s.data.toList.drop p)=n) (h0:n≠0) : qA (s.data.toList.drop p)=.tok 3 n:=by
 rw [zaq hp h1 h2 h3,ju (by simp [hl]),ju (by simp [hd]),hn,ju (by simpa using h0)]
theorem zvv (h1:((s[p].toNat:Int)==32)=false) (h2:((s[p].toNat:Int)==10)=false) (h3:((s[p].toNat:Int)==35)=false) (hl:zD (s[p].toNat:Int)=false) (hd:yA (s[p].toNat:Int)=false) (hn:vZ (s.data.toList.drop p)=0) : qA (s.data.toList.drop p)=.fault 2:=by
 rw [zaq hp h1 h2 h3,ju (by simp [hl]),ju (by simp [hd]),hn,jv (by rfl)]
/-! the scan goes on -/
theorem zlt {n f:Nat} {acc:List Tok} {R:Res} (h:qA (s.data.toList.drop p)=.skip n) (hR:zC (f+1) (s.data.toList.drop p) p acc=R):zC f (s.data.toList.drop (p+n)) (p+n) acc=R/\0<n/\p+n<=s.size:=by
 have hl:(s.data.toList.drop (p+1)).length=s.size - (p+1):=by rw [List.length_drop,len_L]
 have e:=gG s p hp;rw [e] at h hR;have hn:=zqw h;rw [cL h,<- e,List.drop_drop] at hR;refine ⟨hR,hn.1,by omega⟩
theorem zy5 {n f:Nat} {k:Int} {acc:List Tok} {R:Res} (h:qA (s.data.toList.drop p)=.tok k n) (hR:zC (f+1) (s.data.toList.drop p) p acc=R) : zC f (s.data.toList.drop (p+n)) (p+n) (acc++[⟨k,(s.data.toList.drop p).take n,p⟩])=R/\0<n/\p+n<=s.size:=by
 have hl:(s.data.toList.drop (p+1)).length=s.size - (p+1):=by rw [List.length_drop,len_L]
 have e:=gG s p hp;rw [e] at h hR;have hn:=zbn h;rw [fW h,<- e,List.drop_drop] at hR;refine ⟨hR,hn.1,by omega⟩
theorem zth {f:Nat} {c:Int} {acc:List Tok} {R:Res} (h:qA (s.data.toList.drop p)=.fault c) (hR:zC (f+1) (s.data.toList.drop p) p acc=R):R=.err c p:=by
 rw [gG s p hp] at h hR;rw [bP h] at hR;exact hR.symm
end
theorem zyz {s:ByteArray} {p f:Nat} {acc:List Tok} {R:Res} (hp:s.size<=p) (hR:zC f (s.data.toList.drop p) p acc=R):R=.ok acc:=by
 rw [List.drop_eq_nil_of_le (by rw [len_L];exact hp),zcw] at hR;exact hR.symm
/-! what lies in memory -/
def cellsOf (l:List Tok):List Value:=l.flatMap fun t=>[.int .i64 t.kind,.string ⟨t.text.toArray⟩,.int .i64 (t.at_:Int)]
theorem zo5 (l:List Tok) (t:Tok):cellsOf (l++[t])=cellsOf l++[.int .i64 t.kind,.string ⟨t.text.toArray⟩,.int .i64 (t.at_:Int)]:=by simp [cellsOf]
theorem zow (l:List Tok):(cellsOf l).length=l.length*3:=by
 induction l with
 | nil=>rfl
 | cons t l ih=>simp only [cellsOf,List.flatMap_cons,jb,jd] at ih |-;simp only [je];omega
def Res.toks:Res->List Tok
 | .ok l=>l
 | .err _ _=>[]
def Res.code:Res->Int
 | .ok _=>0
 | .err c _=>c
def Res.place:Res->Int
 | .ok _=>0
 | .err _ p=>(p:Int)
end lexs
namespace syn
open lexs (Tok zD gF val)
inductive Tree where
 | node (kind:Int) (text:ByteArray) (num:Int) (kids:List Tree)
structure St where
 i:Nat
 bad:Bool
def St.fail (s:St):St:={ s with bad:=true }
def St.next (s:St):St:={ s with i:=s.i+1 }
def empty:ByteArray:=⟨#[]⟩
def eqS (x y:ByteArray):Bool:=x.toList==y.toList
section
variable (ts:List Tok)
def xY (s:St):Option Tok:=if s.bad then none else ts[s.i]?
def txt (s:St):ByteArray :=
 match xY ts s with
 | none=>empty
 | some t=>if t.kind==2 then empty else ⟨t.text.toArray⟩
def eat (x:ByteArray) (s:St):Bool × St:=if eqS (txt ts s) x then (true,s.next) else (false,s)
def kF (x:ByteArray) (s:St):St:=if eqS (txt ts s) x then s.next else s.fail
def vS:List ByteArray:=[⟨#[100,111]⟩,⟨#[101,108,115,101]⟩,⟨#[103,105,118,101,115]⟩,⟨#[104,105,103,104]⟩,⟨#[105,102]⟩,⟨#[105,109,112,111,114,116]⟩,⟨#[105,110]⟩,⟨#[108,111,119]⟩,⟨#[109,111,100,117,108,101]⟩,⟨#[111,117,116]⟩,⟨#[112,114,111,99]⟩,⟨#[112,117,98]⟩,⟨#[114,101,116,117,114,110]⟩,⟨#[119,104,105,108,101]⟩]
def kK (x:ByteArray):Bool :=
 decide (1<=x.size/\x.size<=16)&&zD ((x.data.toList.headD 0).toNat:Int)&&x.data.toList.all (fun c=>gF (c.toNat:Int))&&!(vS.any fun y=>eqS y x)
def name (s:St):ByteArray × St:=if kK (txt ts s) then (txt ts s,s.next) else (empty,s.fail)
def whole (s:St):ByteArray × St :=
 let a:=name ts s
 let e:=eat ts ⟨#[46]⟩ a.2
 if e.1 then (a.1++⟨#[46]⟩++(name ts e.2).1,(name ts e.2).2) else (a.1,a.2)
def label (s:St):Int × St :=
 if eqS (txt ts s) ⟨#[104,105,103,104]⟩ then (1,s.next) else (0,kF ts ⟨#[108,111,119]⟩ s)
def gO (s:St):Bool:=match xY ts s with | none=>false | some t=>t.kind==2
def zK (s:St):Tree × St :=
 match xY ts s with
 | none=>(.node 15 empty 0 [],s.fail)
 | some t=>if t.kind==2 then (.node 15 empty (val t.text:Int) [],s.next) else (.node 15 empty 0 [],s.fail)
def signs:List (ByteArray × Int × Int):=[(⟨#[61,61]⟩,9,0),(⟨#[60]⟩,8,0),(⟨#[43]⟩,1,1),(⟨#[45]⟩,2,1),(⟨#[124]⟩,7,1),(⟨#[42]⟩,3,2),(⟨#[47]⟩,4,2),(⟨#[37]⟩,5,2),(⟨#[38]⟩,6,2)]
def sign (x:ByteArray):Int × Int:=((signs.find? fun y=>eqS y.1 x).map (·.2)).getD (0,-1)
end
end syn
namespace syn
open lexs (Tok)
section
variable (ts:List Tok)
mutual
def qB:Nat->St->Option (Tree × St)
 | 0,_=>none
 | f+1,s=>if s.bad then some (.node 0 empty 0 [],s) else qK f 0 s
def qK:Nat->Nat->St->Option (Tree × St)
 | 0,_,_=>none
 | f+1,least,s=>if 2<least then zF f s else (qK f (least+1) s).bind fun q=>qW f least q.1 q.2
def qW:Nat->Nat->Tree->St->Option (Tree × St)
 | 0,_,_,_=>none
 | f+1,least,n,s =>
  if s.bad then some (n,s)
  else if (sign (txt ts s)).2 != (least:Int) then some (n,s)
  else (qK f (least+1) s.next).bind fun q =>
   if least==0 then some (.node 19 empty (sign (txt ts s)).1 [n,q.1],q.2) else qW f least (.node 19 empty (sign (txt ts s)).1 [n,q.1]) q.2
def zF:Nat->St->Option (Tree × St)
 | 0,_=>none
 | f+1,s =>
  if eqS (txt ts s) ⟨#[45]⟩ then (zF f s.next).bind fun q=>some (.node 20 empty 0 [q.1],q.2)
  else if eqS (txt ts s) ⟨#[33]⟩ then (zF f s.next).bind fun q=>some (.node 21 empty 0 [q.1],q.2)
  else if eqS (txt ts s) ⟨#[40]⟩ then zJ f s
  else if gO ts s then some (zK ts s)
  else if eqS (txt ts (whole ts s).2) ⟨#[40]⟩ then zT f (whole ts s).1 (whole ts s).2 else qX f (whole ts s).1 (whole ts s).2
def zJ:Nat->St->Option (Tree × St)
 | 0,_=>none
 | f+1,s=>(qB f (kF ts ⟨#[40]⟩ s)).bind fun q=>some (q.1,kF ts ⟨#[41]⟩ q.2)
def qX:Nat->ByteArray->St->Option (Tree × St)
 | 0,_,_=>none
 | f+1,x,s =>
  if eqS (txt ts s) ⟨#[91]⟩ then (qB f s.next).bind fun q=>some (.node 17 x 0 [q.1],kF ts ⟨#[93]⟩ q.2) else some (.node 16 x 0 [],s)
def zT:Nat->ByteArray->St->Option (Tree × St)
 | 0,_,_=>none
 | f+1,x,s =>
  if eqS (txt ts (kF ts ⟨#[40]⟩ s)) ⟨#[41]⟩ then some (.node 18 x 0 [],(kF ts ⟨#[40]⟩ s).next) else zO f x [] (kF ts ⟨#[40]⟩ s) true
def zO:Nat->ByteArray->List Tree->St->Bool->Option (Tree × St)
 | 0,_,_,_,_=>none
 | f+1,x,ks,s,on =>
  if on&&!s.bad then (qB f s).bind fun q=>zO f x (ks++[q.1]) (eat ts ⟨#[44]⟩ q.2).2 (eat ts ⟨#[44]⟩ q.2).1
  else some (.node 18 x 0 ks,kF ts ⟨#[41]⟩ s)
end
end
theorem zcu {x:ByteArray} (h:eqS empty x=true):x.size=0:=by
 unfold eqS at h;rw [beq_iff_eq,ByteArray.toList_eq,ByteArray.toList_eq] at h;have h2:=congrArg List.length h;rw [lexs.len_L,lexs.len_L] at h2;exact h2.symm
theorem znk {ts:List Tok} {s:St} {x:ByteArray} (hx:0<x.size) (h:eqS (txt ts s) x=true):s.i<ts.length:=by
 unfold txt xY at h;rcases jL s.i ts.length with hl | hl
 ·exact hl
 ·exfalso;rw [List.getElem?_eq_none hl] at h;cases hb:s.bad<;>rw [hb] at h<;>simp at h<;>have:=zcu h<;>omega
def sv (k:Nat):ByteArray:=(signs.getD k (empty,0,-1)).1
def so (k:Nat):Int:=(signs.getD k (empty,0,-1)).2.1
def sl (k:Nat):Int:=(signs.getD k (empty,0,-1)).2.2
theorem za4 {k:Nat} (h:k<9):k=0\/k=1\/k=2\/k=3\/k=4\/k=5\/k=6\/k=7\/k=8:=by omega
theorem ya7 {k:Nat} (h:k<signs.length):sv k=signs[k].1/\(so k,sl k)=signs[k].2:=by
 unfold sv so sl;rw [List.getD_eq_getElem?_getD,List.getElem?_eq_getElem h];exact ⟨rfl,rfl⟩
theorem zeu (x:ByteArray) (h:∀ j,j<9->eqS (sv j) x=false):sign x=(0,-1):=by
 unfold sign;rw [List.find?_eq_none.2];·rfl
 ·intro y hy;obtain ⟨k,hk,rfl⟩:=List.mem_iff_getElem.1 hy;have:=h k hk;rw [(ya7 hk).1] at this;simpa using this
theorem eqS_lit (y:ByteArray) (l:List UInt8):eqS y ⟨l.toArray⟩=(y.toList==l):=by unfold eqS;rw [ByteArray.toList_eq ⟨l.toArray⟩]
theorem zd9 {x:ByteArray} (h:¬ (1<=x.size/\x.size<=16)):kK x=false:=by unfold kK;rw [decide_eq_false h];rfl
theorem eqS_self (x:ByteArray):eqS x x=true:=by unfold eqS;exact beq_self_eq_true _
section
variable {ts:List Tok} {s:St}
theorem zmn (h:0<=(sign (txt ts s)).2):s.i<ts.length:=by
 rcases jL s.i ts.length with hl | hl
 ·exact hl
 ·exfalso
  have he:txt ts s=empty:=by
   unfold txt xY;rw [List.getElem?_eq_none hl];cases s.bad<;>rfl
  rw [he,zeu empty (fun j hj=>?_)] at h;·exact absurd h (by decide)
  ·rw [show empty=⟨([]:List UInt8).toArray⟩ from rfl,eqS_lit (sv j) [],ByteArray.toList_eq];rcases za4 hj with rfl | rfl | rfl | rfl | rfl | rfl | rfl | rfl | rfl<;>rfl
end
section
variable {ts:List Tok} {s:St}
def left (ts:List Tok) (s:St):Nat:=if s.bad then 0 else ts.length - s.i
theorem zcr:left ts s.fail=0:=rfl
theorem zuq (h:s.bad=true):left ts s=0:=by unfold left;rw [h];rfl
theorem gY:left ts s.next<=left ts s:=by
 unfold left St.next;dsimp only;split<;>omega
theorem vG {x:ByteArray} (hx:0<x.size) (h:eqS (txt ts s) x=true):left ts s.next+1=left ts s:=by
 have hl:=znk hx h
 have hb:s.bad=false:=by
  cases hb:s.bad;·rfl
  ·exfalso;have he:txt ts s=empty:=by unfold txt xY;rw [hb];rfl
   rw [he] at h;have:=zcu h;omega
 unfold left St.next;dsimp only;rw [hb];simp;omega
theorem xT (x:ByteArray) (hx:0<x.size):left ts (kF ts x s)<=left ts s/\((kF ts x s).bad=true\/left ts (kF ts x s)+1=left ts s):=by
 unfold kF;cases h:eqS (txt ts s) x;·simp only [jr,if_false];exact ⟨by rw [zcr];omega,.inl rfl⟩
 ·simp only [if_true];have:=vG hx h;exact ⟨by omega,.inr this⟩
theorem fV:left ts (name ts s).2<=left ts s:=by
 unfold name;split;·exact gY
 ·simp only [zcr];omega
theorem zk8 (x:ByteArray):left ts (eat ts x s).2<=left ts s:=by
 unfold eat
 split;·exact gY
 ·exact Nat.le_refl _
theorem zck:left ts (whole ts s).2<=left ts s:=by
 unfold whole;dsimp only;split;·exact jp fV (jp (zk8 _) fV)
 ·exact fV
theorem zh1:left ts (zK ts s).2<=left ts s:=by
 unfold zK;split;·simp only [zcr];omega
 ·split;·exact gY
  ·simp only [zcr];omega
def Has (ts:List Tok) (s:St) (o:Option (Tree × St)):Prop:=∃ q,o=some q/\left ts q.2<=left ts s
structure Enough (ts:List Tok) (f:Nat):Prop where
 e:∀ s:St,(s.bad=true/\1<=f)\/10*left ts s+8<=f->Has ts s (qB ts f s)
 b:∀ (s:St) (l:Nat),l<=3->10*left ts s+7<=f+l->Has ts s (qK ts f l s)
 bl:∀ (s:St) (l:Nat) (n:Tree),l<=2->10*left ts s+6<=f+l->Has ts s (qW ts f l n s)
 u:∀ s:St,10*left ts s+3<=f->Has ts s (zF ts f s)
 a:∀ s:St,10*left ts s+2<=f->Has ts s (zJ ts f s)
 p:∀ (s:St) (x:ByteArray),10*left ts s+2<=f->Has ts s (qX ts f x s)
 c:∀ (s:St) (x:ByteArray),10*left ts s+2<=f->Has ts s (zT ts f x s)
 cl:∀ (s:St) (x:ByteArray) (ks:List Tree) (on:Bool),(((on&&!s.bad)=false/\1<=f)\/10*left ts s+9<=f)->Has ts s (zO ts f x ks s on)
theorem zng (ts:List Tok) (f:Nat):Enough ts f:=by
 induction f with
 | zero=>exact ⟨fun s h=>by omega,fun s l h1 h2=>by omega,fun s l n h1 h2=>by omega,fun s h=>by omega,fun s h=>by omega,fun s x h=>by omega,fun s x h=>by omega,fun s x ks on h=>by omega⟩
 | succ f ih =>
  refine ⟨fun s h=>?_,fun s l hl h=>?_,fun s l n hl h=>?_,fun s h=>?_,fun s h=>?_,fun s x h=>?_,fun s x h=>?_,fun s x ks on h=>?_⟩
  ·unfold qB;cases hb:s.bad
   ·simp only [jr,if_false];refine ih.b s 0 (by omega) ?_;rcases h with ⟨h,_⟩ | h
    ·rw [hb] at h;simp at h
    ·omega
   ·simp only [if_true];exact ⟨_,rfl,Nat.le_refl _⟩
  ·unfold qK;split;·exact ih.u s (by omega)
   ·obtain ⟨q,hq,hle⟩:=ih.b s (l+1) (by omega) (by omega);rw [hq];simp only [jf];obtain ⟨q',hq',hle'⟩:=ih.bl q.2 l q.1 (by omega) (by omega);exact ⟨q',hq',by omega⟩
  ·unfold qW;cases hb:s.bad
   ·simp only [jr,if_false];split;·exact ⟨_,rfl,Nat.le_refl _⟩
    ·rename_i hne;have hk:(sign (txt ts s)).2=(l:Int):=by simpa using hne
     have hlt:=zmn (ts:=ts) (s:=s) (by omega)
     have hn:left ts s.next+1=left ts s:=by
      unfold left St.next;dsimp only;rw [hb];simp;omega
     obtain ⟨q,hq,hle⟩:=ih.b s.next (l+1) (by omega) (by omega);rw [hq];simp only [jf];split;·exact ⟨_,rfl,by dsimp only;omega⟩
     ·obtain ⟨q',hq',hle'⟩:=ih.bl q.2 l (.node 19 empty (sign (txt ts s)).1 [n,q.1]) (by omega) (by omega);exact ⟨q',hq',by omega⟩
   ·simp only [if_true];exact ⟨_,rfl,Nat.le_refl _⟩
  ·unfold zF;cases h1:eqS (txt ts s) ⟨#[45]⟩
   ·simp only [jr,if_false];cases h2:eqS (txt ts s) ⟨#[33]⟩
    ·simp only [jr,if_false];split;·exact ih.a s (by omega)
     ·split;·exact ⟨_,rfl,zh1⟩
      ·have hw:=zck (ts:=ts) (s:=s);split;·obtain ⟨q,hq,hle⟩:=ih.c (whole ts s).2 (whole ts s).1 (by omega);exact ⟨q,hq,by omega⟩
       ·obtain ⟨q,hq,hle⟩:=ih.p (whole ts s).2 (whole ts s).1 (by omega);exact ⟨q,hq,by omega⟩
    ·simp only [if_true];have hn:=vG (by decide) h2;obtain ⟨q,hq,hle⟩:=ih.u s.next (by omega);rw [hq];exact ⟨_,rfl,by dsimp only;omega⟩
   ·simp only [if_true];have hn:=vG (by decide) h1;obtain ⟨q,hq,hle⟩:=ih.u s.next (by omega);rw [hq];exact ⟨_,rfl,by dsimp only;omega⟩
  ·unfold zJ;have hm:=xT (ts:=ts) (s:=s) ⟨#[40]⟩ (by decide);obtain ⟨q,hq,hle⟩:=ih.e (kF ts ⟨#[40]⟩ s) (by rcases hm.2 with h1 | h1;exact .inl ⟨h1,by omega⟩;exact .inr (by omega));rw [hq];have hm2:=xT (ts:=ts) (s:=q.2) ⟨#[41]⟩ (by decide);exact ⟨_,rfl,by dsimp only;omega⟩
  ·unfold qX;split;·rename_i h1;have hn:=vG (by decide) h1;obtain ⟨q,hq,hle⟩:=ih.e s.next (.inr (by omega));rw [hq];have hm2:=xT (ts:=ts) (s:=q.2) ⟨#[93]⟩ (by decide);exact ⟨_,rfl,by dsimp only;omega⟩
   ·exact ⟨_,rfl,Nat.le_refl _⟩
  ·unfold zT;have hm:=xT (ts:=ts) (s:=s) ⟨#[40]⟩ (by decide);split;·rename_i h1;have hn:=vG (by decide) h1;exact ⟨_,rfl,by dsimp only;omega⟩
   ·obtain ⟨q,hq,hle⟩:=ih.cl (kF ts ⟨#[40]⟩ s) x [] true (by rcases hm.2 with h1 | h1;exact .inl ⟨by rw [h1];rfl,by omega⟩;exact .inr (by omega));exact ⟨q,hq,by omega⟩
  ·unfold zO;cases hc:(on&&!s.bad);·simp only [jr,if_false];exact ⟨_,rfl,(xT (ts:=ts) (s:=s) ⟨#[41]⟩ (by decide)).1⟩
   ·simp only [if_true]
    have h9:10*left ts s+9<=f+1:=by
     rcases h with ⟨h,_⟩ | h
     ·rw [hc] at h;simp at h
     ·exact h
    obtain ⟨q,hq,hle⟩:=ih.e s (.inr (by omega));rw [hq];simp only [jf];cases he:eqS (txt ts q.2) ⟨#[44]⟩
    ·have e1:eat ts ⟨#[44]⟩ q.2=(false,q.2):=by unfold eat;rw [he];rfl
     rw [e1];obtain ⟨q',hq',hle'⟩:=ih.cl q.2 x (ks++[q.1]) false (.inl ⟨rfl,by omega⟩);exact ⟨q',hq',by omega⟩
    ·have e1:eat ts ⟨#[44]⟩ q.2=(true,q.2.next):=by unfold eat;rw [he];rfl
     rw [e1];have hn:=vG (by decide) he;obtain ⟨q',hq',hle'⟩:=ih.cl q.2.next x (ks++[q.1]) true (.inr (by omega));exact ⟨q',hq',by omega⟩
end
section
variable (ts:List Tok)
mutual
def qZ:Nat->St->Option (Tree × St)
 | 0,_=>none
 | f+1,s=>zQ f [] (kF ts ⟨#[123]⟩ s)
def zQ:Nat->List Tree->St->Option (Tree × St)
 | 0,_,_=>none
 | f+1,ks,s =>
  if s.bad then some (.node 6 empty 0 ks,s)
  else if eqS (txt ts s) ⟨#[125]⟩ then some (.node 6 empty 0 ks,s.next)
  else (zI f s).bind fun q=>zQ f (ks++[q.1]) q.2
def zI:Nat->St->Option (Tree × St)
 | 0,_=>none
 | f+1,s =>
  if eqS (txt ts s) ⟨#[105,102]⟩ then
   (zJ ts f s.next).bind fun x=>(qZ f x.2).bind fun b =>
    if eqS (txt ts b.2) ⟨#[101,108,115,101]⟩ then (qZ f b.2.next).bind fun c=>some (.node 10 empty 0 [x.1,b.1,c.1],c.2) else some (.node 10 empty 0 [x.1,b.1],b.2)
  else if eqS (txt ts s) ⟨#[119,104,105,108,101]⟩ then (zJ ts f s.next).bind fun x=>(qZ f x.2).bind fun b=>some (.node 11 empty 0 [x.1,b.1],b.2)
  else if eqS (txt ts s) ⟨#[108,111,119]⟩||eqS (txt ts s) ⟨#[104,105,103,104]⟩ then
   (qB ts f (kF ts ⟨#[61]⟩ (name ts (label ts s).2).2)).bind fun x=>some (.node 7 (name ts (label ts s).2).1 (label ts s).1 [x.1],kF ts ⟨#[59]⟩ x.2)
  else if eqS (txt ts s) ⟨#[100,111]⟩ then (zT ts f (whole ts s.next).1 (whole ts s.next).2).bind fun x=>some (.node 9 empty 0 [x.1],kF ts ⟨#[59]⟩ x.2)
  else if eqS (txt ts s) ⟨#[111,117,116]⟩ then (qB ts f (label ts s.next).2).bind fun x=>some (.node 12 empty (label ts s.next).1 [x.1],kF ts ⟨#[59]⟩ x.2)
  else if eqS (txt ts s) ⟨#[105,110]⟩ then (qX ts f (whole ts (label ts s.next).2).1 (whole ts (label ts s.next).2).2).bind fun x=>some (.node 13 empty (label ts s.next).1 [x.1],kF ts ⟨#[59]⟩ x.2)
  else if eqS (txt ts s) ⟨#[114,101,116,117,114,110]⟩ then (qB ts f s.next).bind fun x=>some (.node 14 empty 0 [x.1],kF ts ⟨#[59]⟩ x.2)
  else (qX ts f (whole ts s).1 (whole ts s).2).bind fun x=>(qB ts f (kF ts ⟨#[61]⟩ x.2)).bind fun y=>some (.node 8 empty 0 [x.1,y.1],kF ts ⟨#[59]⟩ y.2)
end
end
section
variable (ts:List Tok)
def zP (s:St):St:=if eqS (txt ts s) ⟨#[112,117,98]⟩ then s.next else s
def gW (s:St):Int:=if eqS (txt ts s) ⟨#[112,117,98]⟩ then 2 else 0
def yD:Nat->List Tree->St->Option (List Tree × St)
 | 0,_,_=>none
 | f+1,ks,s =>
  if eqS (txt ts (name ts (label ts s).2).2) ⟨#[44]⟩ then yD f (ks++[.node 5 (name ts (label ts s).2).1 (label ts s).1 []]) (name ts (label ts s).2).2.next
  else some (ks++[.node 5 (name ts (label ts s).2).1 (label ts s).1 []],(name ts (label ts s).2).2)
def params (f:Nat) (s:St):Option (List Tree × St):=if eqS (txt ts s) ⟨#[41]⟩ then some ([],s) else yD ts f [] s
def vN (s:St):St:=if eqS (txt ts (label ts s).2) ⟨#[103,105,118,101,115]⟩ then (label ts (label ts s).2.next).2 else (label ts s).2
def uZ (n:Int) (s:St):Int:=if eqS (txt ts (label ts s).2) ⟨#[103,105,118,101,115]⟩ then n+(label ts s).1+4+4*(label ts (label ts s).2.next).1 else n+(label ts s).1
def yB (s:St):List Tree × St:=if eqS (txt ts s) ⟨#[91]⟩ then ([(zK ts s.next).1],kF ts ⟨#[93]⟩ (zK ts s.next).2) else ([],s)
def yO (f:Nat) (s:St):Option (Tree × St) :=
 if eqS (txt ts (zP ts s)) ⟨#[112,114,111,99]⟩ then
  (params ts f (kF ts ⟨#[40]⟩ (name ts (zP ts s).next).2)).bind fun p =>
   (qZ ts f (vN ts (kF ts ⟨#[41]⟩ p.2))).bind fun b =>
    some (.node 4 (name ts (zP ts s).next).1 (uZ ts (gW ts s) (kF ts ⟨#[41]⟩ p.2)) (p.1++[b.1]),b.2)
 else some (.node 3 (name ts (label ts (zP ts s)).2).1 (gW ts s+(label ts (zP ts s)).1) (yB ts (name ts (label ts (zP ts s)).2).2).1,kF ts ⟨#[59]⟩ (yB ts (name ts (label ts (zP ts s)).2).2).2)
end
section
variable {ts:List Tok} {s:St}
theorem cN:left ts (label ts s).2<=left ts s:=by
 unfold label;split;·exact gY
 ·exact (xT ⟨#[108,111,119]⟩ (by decide)).1
theorem zfc {x:ByteArray} (h:s.bad=true):(kF ts x s).bad=true:=by
 unfold kF;split;·exact h
 ·rfl
theorem zlr (h:s.bad=true):txt ts s=empty:=by unfold txt xY;rw [h];rfl
theorem zX {x:ByteArray} (hx:0<x.size) (h:s.bad=true):eqS (txt ts s) x=false:=by
 cases he:eqS (txt ts s) x;·rfl
 ·rw [zlr h] at he;have:=zcu he;omega
theorem zud:left ts (whole ts s).2+1<=left ts s\/(whole ts s).2.bad=true:=by
 cases hn:kK (txt ts s)
 ·right;have e:name ts s=(empty,s.fail):=by unfold name;rw [hn];rfl
  unfold whole;rw [e];have e2:eat ts ⟨#[46]⟩ s.fail=(false,s.fail):=by unfold eat;rw [zX (by decide) rfl];rfl
  dsimp only;rw [e2];rfl
 ·left;have e:name ts s=(txt ts s,s.next):=by unfold name;rw [hn];rfl
  have h1:0<(txt ts s).size:=by
   rcases jL 0 (txt ts s).size with h1 | h1
   ·exact h1
   ·rw [zd9 (by omega)] at hn;exact absurd hn (by decide)
  have h2:=vG h1 (eqS_self (txt ts s))
  have h3:left ts (whole ts s).2<=left ts s.next:=by
   unfold whole;rw [e];dsimp only;split;·exact jp fV (zk8 _)
   ·exact Nat.le_refl _
  omega
structure Enough2 (ts:List Tok) (f:Nat):Prop where
 bk:∀ s:St,20*left ts s+12<=f->Has ts s (qZ ts f s)
 bkl:∀ (s:St) (ks:List Tree),(s.bad=true/\1<=f)\/20*left ts s+11<=f->Has ts s (zQ ts f ks s)
 st:∀ s:St,20*left ts s+10<=f->∃ q,zI ts f s=some q/\left ts q.2<=left ts s/\(left ts q.2+1<=left ts s\/q.2.bad=true)
theorem zx2 (ts:List Tok) (f:Nat):Enough2 ts f:=by
 induction f with
 | zero=>exact ⟨fun s h=>by omega,fun s ks h=>by omega,fun s h=>by omega⟩
 | succ f ih =>
  have E:=zng ts f;refine ⟨fun s h=>?_,fun s ks h=>?_,fun s h=>?_⟩;·unfold qZ;have hm:=xT (ts:=ts) (s:=s) ⟨#[123]⟩ (by decide);obtain ⟨q,hq,hle⟩:=ih.bkl (kF ts ⟨#[123]⟩ s) [] (.inr (by omega));exact ⟨q,hq,by omega⟩
  ·unfold zQ;cases hb:s.bad
   ·simp only [jr,if_false]
    have h9:20*left ts s+11<=f+1:=by
     rcases h with ⟨h,_⟩ | h
     ·rw [hb] at h;simp at h
     ·exact h
    split;·exact ⟨_,rfl,gY⟩
    ·obtain ⟨q,hq,hle,hor⟩:=ih.st s (by omega);rw [hq];simp only [jf];obtain ⟨q',hq',hle'⟩:=ih.bkl q.2 (ks++[q.1]) (by rcases hor with h1 | h1;exact .inr (by omega);exact .inl ⟨h1,by omega⟩);exact ⟨q',hq',by omega⟩
   ·simp only [if_true];exact ⟨_,rfl,Nat.le_refl _⟩
  ·unfold zI;cases n1:eqS (txt ts s) ⟨#[105,102]⟩
   case true =>
    have hn:=vG (by decide) n1;rw [jv rfl];obtain ⟨x,hx,lx⟩:=E.a s.next (by omega);obtain ⟨b,hb,lb⟩:=ih.bk x.2 (by omega);rw [hx];simp only [jf];rw [hb];simp only [jf];split;·obtain ⟨c,hc,lc⟩:=ih.bk b.2.next (by have:=gY (ts:=ts) (s:=b.2);omega);rw [hc];have:=gY (ts:=ts) (s:=b.2);exact ⟨_,rfl,by dsimp only;omega,.inl (by dsimp only;omega)⟩
    ·exact ⟨_,rfl,by dsimp only;omega,.inl (by dsimp only;omega)⟩
   rw [ju (by decide)];cases n2:eqS (txt ts s) ⟨#[119,104,105,108,101]⟩
   case true =>
    have hn:=vG (by decide) n2;rw [jv rfl];obtain ⟨x,hx,lx⟩:=E.a s.next (by omega);obtain ⟨b,hb,lb⟩:=ih.bk x.2 (by omega);rw [hx];simp only [jf];rw [hb];exact ⟨_,rfl,by dsimp only;omega,.inl (by dsimp only;omega)⟩
   rw [ju (by decide)];cases n3:(eqS (txt ts s) ⟨#[108,111,119]⟩||eqS (txt ts s) ⟨#[104,105,103,104]⟩)
   case true =>
    rw [jv rfl]
    have hl:left ts (label ts s).2+1<=left ts s:=by
     unfold label;cases h1:eqS (txt ts s) ⟨#[104,105,103,104]⟩;·simp only [jr,if_false];rw [h1,Bool.or_false] at n3;unfold kF;rw [n3,jv rfl];have:=vG (by decide) n3;omega
     ·simp only [if_true];have:=vG (by decide) h1;omega
    have hnm:=fV (ts:=ts) (s:=(label ts s).2);have hm:=xT (ts:=ts) (s:=(name ts (label ts s).2).2) ⟨#[61]⟩ (by decide);obtain ⟨x,hx,lx⟩:=E.e (kF ts ⟨#[61]⟩ (name ts (label ts s).2).2) (.inr (by omega));rw [hx];have hm2:=xT (ts:=ts) (s:=x.2) ⟨#[59]⟩ (by decide);exact ⟨_,rfl,by dsimp only;omega,.inl (by dsimp only;omega)⟩
   rw [ju (by decide)];cases n5:eqS (txt ts s) ⟨#[100,111]⟩
   case true =>
    have hn:=vG (by decide) n5;rw [jv rfl];have hw:=zck (ts:=ts) (s:=s.next);obtain ⟨x,hx,lx⟩:=E.c (whole ts s.next).2 (whole ts s.next).1 (by omega);rw [hx];have hm2:=xT (ts:=ts) (s:=x.2) ⟨#[59]⟩ (by decide);exact ⟨_,rfl,by dsimp only;omega,.inl (by dsimp only;omega)⟩
   rw [ju (by decide)];cases n6:eqS (txt ts s) ⟨#[111,117,116]⟩
   case true =>
    have hn:=vG (by decide) n6;rw [jv rfl];have hw:=cN (ts:=ts) (s:=s.next);obtain ⟨x,hx,lx⟩:=E.e (label ts s.next).2 (.inr (by omega));rw [hx];have hm2:=xT (ts:=ts) (s:=x.2) ⟨#[59]⟩ (by decide);exact ⟨_,rfl,by dsimp only;omega,.inl (by dsimp only;omega)⟩
   rw [ju (by decide)];cases n7:eqS (txt ts s) ⟨#[105,110]⟩
   case true =>
    have hn:=vG (by decide) n7;rw [jv rfl];have hw:=cN (ts:=ts) (s:=s.next);have hw2:=zck (ts:=ts) (s:=(label ts s.next).2);obtain ⟨x,hx,lx⟩:=E.p (whole ts (label ts s.next).2).2 (whole ts (label ts s.next).2).1 (by omega);rw [hx];have hm2:=xT (ts:=ts) (s:=x.2) ⟨#[59]⟩ (by decide);exact ⟨_,rfl,by dsimp only;omega,.inl (by dsimp only;omega)⟩
   rw [ju (by decide)];cases n8:eqS (txt ts s) ⟨#[114,101,116,117,114,110]⟩
   case true =>
    have hn:=vG (by decide) n8;rw [jv rfl];obtain ⟨x,hx,lx⟩:=E.e s.next (.inr (by omega));rw [hx];have hm2:=xT (ts:=ts) (s:=x.2) ⟨#[59]⟩ (by decide);exact ⟨_,rfl,by dsimp only;omega,.inl (by dsimp only;omega)⟩
   rw [ju (by decide)];have hw:=zck (ts:=ts) (s:=s);rcases zud (ts:=ts) (s:=s) with hor | hor
   ·obtain ⟨x,hx,lx⟩:=E.p (whole ts s).2 (whole ts s).1 (by omega);rw [hx];simp only [jf];have hm:=xT (ts:=ts) (s:=x.2) ⟨#[61]⟩ (by decide);obtain ⟨y,hy,ly⟩:=E.e (kF ts ⟨#[61]⟩ x.2) (.inr (by omega));rw [hy];have hm2:=xT (ts:=ts) (s:=y.2) ⟨#[59]⟩ (by decide);exact ⟨_,rfl,by dsimp only;omega,.inl (by dsimp only;omega)⟩
   ·obtain ⟨g,rfl⟩:∃ g,f=g+1:=⟨f - 1,by omega⟩
    have hpl:qX ts (g+1) (whole ts s).1 (whole ts s).2=some (.node 16 (whole ts s).1 0 [],(whole ts s).2):=by
     unfold qX;rw [zX (by decide) hor,ju (by decide)]
    rw [hpl];simp only [jf];have hb1:=zfc (ts:=ts) (x:=⟨#[61]⟩) hor
    have hex:qB ts (g+1) (kF ts ⟨#[61]⟩ (whole ts s).2)=some (.node 0 empty 0 [],kF ts ⟨#[61]⟩ (whole ts s).2):=by
     unfold qB;rw [hb1,jv rfl]
    rw [hex];have hb2:=zfc (ts:=ts) (x:=⟨#[59]⟩) hb1;exact ⟨_,rfl,by dsimp only;rw [zuq hb2];omega,.inr hb2⟩
end
section
variable {ts:List Tok} {s:St}
theorem zut:left ts (zP ts s)<=left ts s:=by
 unfold zP;split;·exact gY
 ·exact Nat.le_refl _
theorem zqk:left ts (vN ts s)<=left ts s:=by
 unfold vN;split;·exact jp cN (jp gY cN)
 ·exact cN
theorem zvd:left ts (yB ts s).2<=left ts s:=by
 unfold yB;split;·exact jp (xT ⟨#[93]⟩ (by decide)).1 (jp zh1 gY)
 ·exact Nat.le_refl _
theorem zu0 (h:s.bad=true):(name ts s).2.bad=true:=by
 unfold name;split;·exact h
 ·rfl
theorem zxz (h:s.bad=true):(yB ts s).2.bad=true:=by
 unfold yB;rw [zX (by decide) h,ju (by decide)];exact h
theorem zue:left ts (label ts s).2+1<=left ts s\/(label ts s).2.bad=true:=by
 unfold label;cases h1:eqS (txt ts s) ⟨#[104,105,103,104]⟩
 ·simp only [jr,if_false];rcases (xT (ts:=ts) (s:=s) ⟨#[108,111,119]⟩ (by decide)).2 with h | h
  ·exact .inr h
  ·exact .inl (by omega)
 ·simp only [if_true];have:=vG (by decide) h1;exact .inl (by omega)
theorem zpl (f:Nat):∀ (ks:List Tree) (s:St),left ts s+1<=f->∃ p,yD ts f ks s=some p/\left ts p.2<=left ts s:=by
 induction f with
 | zero=>intro ks s h;omega
 | succ f ih =>
  intro ks s h;have h1:=cN (ts:=ts) (s:=s);have h2:=fV (ts:=ts) (s:=(label ts s).2);unfold yD;split;·rename_i h3;have h4:=vG (by decide) h3;obtain ⟨p,hp,hle⟩:=ih (ks++[.node 5 (name ts (label ts s).2).1 (label ts s).1 []]) (name ts (label ts s).2).2.next (by omega);exact ⟨p,hp,by omega⟩
  ·exact ⟨_,rfl,by dsimp only;omega⟩
theorem zj0 {f:Nat} (h:20*left ts s+12<=f):∃ q,yO ts f s=some q/\left ts q.2<=left ts s/\(left ts q.2+1<=left ts s\/q.2.bad=true):=by
 have hp:=zut (ts:=ts) (s:=s);unfold yO;split
 ·rename_i h1;have hn:=vG (by decide) h1;have h2:=fV (ts:=ts) (s:=(zP ts s).next);have h3:=(xT (ts:=ts) (s:=(name ts (zP ts s).next).2) ⟨#[40]⟩ (by decide)).1
  obtain ⟨p,hpp,lp⟩:∃ p,params ts f (kF ts ⟨#[40]⟩ (name ts (zP ts s).next).2)=some p/\left ts p.2<=left ts (kF ts ⟨#[40]⟩ (name ts (zP ts s).next).2):=by
   unfold params;split;·exact ⟨_,rfl,Nat.le_refl _⟩
   ·exact zpl f [] _ (by omega)
  rw [hpp];simp only [jf];have h4:=(xT (ts:=ts) (s:=p.2) ⟨#[41]⟩ (by decide)).1;have h5:=zqk (ts:=ts) (s:=kF ts ⟨#[41]⟩ p.2);obtain ⟨b,hb,lb⟩:=(zx2 ts f).bk (vN ts (kF ts ⟨#[41]⟩ p.2)) (by omega);rw [hb];exact ⟨_,rfl,by dsimp only;omega,.inl (by dsimp only;omega)⟩
 ·have h1:=cN (ts:=ts) (s:=zP ts s);have h2:=fV (ts:=ts) (s:=(label ts (zP ts s)).2);have h3:=zvd (ts:=ts) (s:=(name ts (label ts (zP ts s)).2).2);have h4:=(xT (ts:=ts) (s:=(yB ts (name ts (label ts (zP ts s)).2).2).2) ⟨#[59]⟩ (by decide)).1;refine ⟨_,rfl,by dsimp only;omega,?_⟩;rcases zue (ts:=ts) (s:=zP ts s) with hor | hor
  ·exact .inl (by dsimp only;omega)
  ·exact .inr (zfc (zxz (zu0 hor)))
end
section
variable (ts:List Tok)
def yC:Nat->List Tree->St->Option (List Tree × St)
 | 0,_,_=>none
 | f+1,ks,s=>if eqS (txt ts s) ⟨#[105,109,112,111,114,116]⟩ then yC f (ks++[.node 2 (name ts s.next).1 0 []]) (kF ts ⟨#[59]⟩ (name ts s.next).2) else some (ks,s)
def zY:Nat->List Tree->St->Option (List Tree × St)
 | 0,_,_=>none
 | f+1,ks,s=>if s.bad||decide (ts.length<=s.i) then some (ks,s) else (yO ts 100000 s).bind fun q=>zY f (ks++[q.1]) q.2
def gC:St:=kF ts ⟨#[59]⟩ (name ts (kF ts ⟨#[109,111,100,117,108,101]⟩ ⟨0,false⟩)).2
def fJ:ByteArray:=(name ts (kF ts ⟨#[109,111,100,117,108,101]⟩ ⟨0,false⟩)).1
def uG:Option (Tree × St) :=
 (yC ts 4000 [] (gC ts)).bind fun p=>(zY ts 4000 p.1 p.2).bind fun q=>some (.node 1 (fJ ts) 0 q.1,q.2)
end
end syn
namespace syn
mutual
def fO:Tree->Int->Int
 | .node _ _ _ ks,kH=>fP ks 1 kH
def fP:List Tree->Int->Int->Int
 | [],k,_=>k
 | t :: r,k,kH=>if k<=kH then fP r (k+fO t (kH - k)) kH else k
end
mutual
def gS:Tree->Int->Int
 | .node _ _ _ ks,kH=>fM ks 0 kH+1
def fM:List Tree->Int->Int->Int
 | [],d,_=>d
 | t :: r,d,kH=>if 0<kH/\d<=kH then fM r (max d (gS t (kH - 1))) kH else d
end
def vC (t:Tree):Bool:=if 500<fO t 500 then false else decide (gS t 16<=16)
mutual
theorem zhf:∀ (t:Tree) (kH:Int),0<=kH->1<=fO t kH/\fO t kH<=kH+1
 | .node _ _ _ ks,kH,h=>by
  unfold fO;exact zhl ks 1 kH h (by omega) (by omega)
theorem zhl:∀ (ks:List Tree) (k kH:Int),0<=kH->1<=k->k<=kH+1->1<=fP ks k kH/\fP ks k kH<=kH+1
 | [],k,kH,h,h1,h2=>by unfold fP;exact ⟨h1,h2⟩
 | t :: r,k,kH,h,h1,h2=>by
  unfold fP;split;·have hm:=zhf t (kH - k) (by omega);exact zhl r _ kH h (by omega) (by omega)
  ·exact ⟨h1,h2⟩
end
mutual
theorem zhp:∀ (t:Tree) (kH:Int),0<=kH->1<=gS t kH/\gS t kH<=kH+1
 | .node _ _ _ ks,kH,h=>by
  unfold gS;have:=zea ks 0 kH h (by omega) (by omega);omega
theorem zea:∀ (ks:List Tree) (d kH:Int),0<=kH->0<=d->d<=kH->0<=fM ks d kH/\fM ks d kH<=kH
 | [],d,kH,h,h1,h2=>by unfold fM;exact ⟨h1,h2⟩
 | t :: r,d,kH,h,h1,h2=>by
  unfold fM;split;·rename_i hc;have hm:=zhp t (kH - 1) (by omega);exact zea r _ kH h (by omega) (by omega)
  ·exact ⟨h1,h2⟩
end
end syn
namespace lexs
theorem zuj {b:UInt8} {r:List UInt8} {n:Nat} (h:qA (b :: r)=.tok 2 n):qU ((b :: r).take n)=0:=by
 rw [qA,List.headD_cons,vI] at h;by_cases h1:(b==32||b==10)=true;·rw [jv h1] at h;simp at h
 rw [ju h1] at h;by_cases h2:(b==35)=true;·rw [jv h2] at h;simp at h
 rw [ju h2] at h;split at h
 ·split at h;·simp at h
  ·injection h with h3 _;simp at h3
 ·split at h
  ·split at h;·rename_i he;injection h with _ h4;subst h4;simpa using he
   ·simp at h
  ·split at h;·simp at h
   ·injection h with h3 _;simp at h3
def GoodTok (t:Tok):Prop:=t.kind=2->qU t.text=0/\t.text≠[]
theorem zer:∀ (f:Nat) (l:List UInt8) (i:Nat) (acc toks:List Tok),zC f l i acc=.ok toks->(∀ t∈acc,GoodTok t)->∀ t∈toks,GoodTok t
 | 0,l,i,acc,toks,h,ha=>by
  unfold zC at h;injection h with h;subst h
  exact ha
 | f+1,[],i,acc,toks,h,ha=>by
  unfold zC at h;injection h with h;subst h
  exact ha
 | f+1,b :: r,i,acc,toks,h,ha=>by
  cases hs:qA (b :: r) with
  | skip n=>rw [cL hs] at h;exact zer f _ _ _ _ h ha
  | fault c=>rw [bP hs] at h;simp at h
  | tok k n =>
   rw [fW hs] at h;refine zer f _ _ _ _ h ?_;intro t ht;rw [List.mem_append] at ht;rcases ht with ht | ht
   ·exact ha t ht
   ·simp only [jy] at ht;subst ht;intro hk;have hk':k=2:=hk;subst hk';refine ⟨zuj hs,?_⟩;have hn:=(zbn hs).1;intro e;have:=congrArg List.length e;rw [List.length_take] at this;simp at this;omega
theorem scan_num {l:List UInt8} {toks:List Tok} (h:scan l=.ok toks):∀ t∈toks,t.kind=2->qU t.text=0/\t.text≠[]:=by
 unfold scan at h;split at h;·simp at h
 ·exact zer _ _ _ _ _ h (fun t ht=>by simp at ht)
theorem zeo:∀ (f:Nat) (l:List UInt8) (i:Nat) (acc toks:List Tok),zC f l i acc=.ok toks->toks.length<=acc.length+l.length
 | 0,l,i,acc,toks,h=>by
  unfold zC at h;injection h with h;subst h
  omega
 | f+1,[],i,acc,toks,h=>by
  unfold zC at h;injection h with h;subst h
  simp
 | f+1,b :: r,i,acc,toks,h=>by
  cases hs:qA (b :: r) with
  | skip n =>
   rw [cL hs] at h;have:=zeo f _ _ _ _ h;rw [List.length_drop] at this
   omega
  | fault c=>rw [bP hs] at h;simp at h
  | tok k n =>
   rw [fW hs] at h;have h1:=zeo f _ _ _ _ h;have h2:=(zbn hs).1;rw [List.length_drop,jb] at h1;simp at h1 |-;omega
theorem scan_len {l:List UInt8} {toks:List Tok} (h:scan l=.ok toks):toks.length<=3000:=by
 unfold scan at h;split at h;·simp at h
 ·have:=zeo _ _ _ _ _ h;simp at this;omega
end lexs
namespace syn
open lexs (Tok scan)
structure Out where
 tree:Tree
 code:Int
 place:Int
def fK:Tree:=.node 0 empty 0 []
def dD (ts:List Tok) (n:Nat) (s:St):Int:=match ts[s.i]? with
 | some t=>(t.at_:Int)
 | none=>(n:Int)
def gB (ts:List Tok) (n:Nat) (q:Tree × St):Out :=
 if q.2.bad then ⟨fK,2,dD ts n q.2⟩ else if vC q.1 then ⟨q.1,0,0⟩ else ⟨fK,1,0⟩
def kM (x:ByteArray):Out:=match scan x.data.toList with
 | .err c p=>⟨fK,c,p⟩
 | .ok ts=>match uG ts with
  | none=>⟨fK,0,0⟩
  | some q=>gB ts x.size q
section
variable {ts:List Tok} {s:St}
theorem zpa (f:Nat):∀ (ks:List Tree) (s:St),left ts s+1<=f->∃ p,yC ts f ks s=some p/\left ts p.2<=left ts s:=by
 induction f with
 | zero=>intro ks s h;omega
 | succ f ih =>
  intro ks s h;unfold yC;split;·rename_i h3;have h4:=vG (by decide) h3;have h2:=fV (ts:=ts) (s:=s.next);have h5:=(xT (ts:=ts) (s:=(name ts s.next).2) ⟨#[59]⟩ (by decide)).1;obtain ⟨p,hp,hle⟩:=ih (ks++[.node 2 (name ts s.next).1 0 []]) (kF ts ⟨#[59]⟩ (name ts s.next).2) (by omega);exact ⟨p,hp,by omega⟩
  ·exact ⟨_,rfl,Nat.le_refl _⟩
theorem zqb (f:Nat):∀ (ks:List Tree) (s:St),left ts s<=3000->left ts s+2<=f\/(s.bad=true/\1<=f)->∃ p,zY ts f ks s=some p:=by
 induction f with
 | zero=>intro ks s h0 h;omega
 | succ f ih =>
  intro ks s h0 h;unfold zY;cases hb:s.bad
  ·rw [hb] at h;simp only [jr,false_and,or_false] at h;by_cases hl:ts.length<=s.i;·rw [decide_eq_true hl];exact ⟨_,rfl⟩
   ·rw [decide_eq_false hl];simp only [Bool.or_false,jr,if_false];obtain ⟨q,hq,hle,hor⟩:=zj0 (ts:=ts) (s:=s) (f:=100000) (by omega);rw [hq];simp only [jf];refine ih _ _ (by omega) ?_;rcases hor with h1 | h1
    ·exact .inl (by omega)
    ·exact .inr ⟨h1,by omega⟩
  ·simp only [Bool.true_or,if_true];exact ⟨_,rfl⟩
theorem zx5:left ts s<=ts.length:=by unfold left;split<;>omega
theorem zed (h:ts.length<=3000):∃ p q,yC ts 4000 [] (gC ts)=some p/\zY ts 4000 p.1 p.2=some q/\uG ts=some (.node 1 (fJ ts) 0 q.1,q.2):=by
 have h1:=zx5 (ts:=ts) (s:=gC ts);obtain ⟨p,hp,hle⟩:=zpa (ts:=ts) 4000 [] (gC ts) (by omega);obtain ⟨q,hq⟩:=zqb (ts:=ts) 4000 p.1 p.2 (by omega) (.inl (by omega));refine ⟨p,q,hp,hq,?_⟩;unfold uG;rw [hp];simp only [jf];rw [hq];rfl
end
end syn
namespace syn
def opS:List ByteArray:=[empty,⟨#[43]⟩,⟨#[45]⟩,⟨#[42]⟩,⟨#[47]⟩,⟨#[37]⟩,⟨#[38]⟩,⟨#[124]⟩,⟨#[60]⟩,⟨#[61,61]⟩]
def opB:List Int:=[0,1,1,2,2,2,2,1,0,0]
def opAt (k:Nat):ByteArray:=opS.getD k empty
def kZ (k:Nat):Int:=opB.getD k 0
end syn
namespace syn
open lexs (Tok)
section
variable {ts:List Tok} {s:St}
theorem zd7:kK empty=false:=zd9 (by intro h;exact absurd h.1 (by decide))
theorem zl2 (h:s.bad=true):s.fail=s:=by cases s;simp_all [St.fail]
theorem qF {x:ByteArray} (hx:0<x.size) (h:s.bad=true):kF ts x s=s:=by
 unfold kF;rw [zX hx h,ju (by decide)];exact zl2 h
theorem fD (h:s.bad=true):(name ts s).2=s:=by
 unfold name;rw [zlr h];rw [zd7,ju (by decide)];exact zl2 h
theorem zm8 {x:ByteArray} (hx:0<x.size) (h:s.bad=true):eat ts x s=(false,s):=by
 unfold eat
 rw [zX hx h,ju (by decide)]
theorem zfk (h:s.bad=true):(whole ts s).2=s:=by
 unfold whole;dsimp only;rw [fD h,zm8 (by decide) h];simp
theorem zae (h:s.bad=true):(label ts s).2=s:=by
 unfold label;rw [zX (by decide) h,ju (by decide)];exact qF (by decide) h
theorem zs0 (h:s.bad=true):gO ts s=false:=by unfold gO xY;rw [h];rfl
structure Stuck (ts:List Tok) (f:Nat):Prop where
 e:∀ (s:St) (q:Tree × St),s.bad=true->qB ts f s=some q->q.2=s
 b:∀ (l:Nat) (s:St) (q:Tree × St),s.bad=true->qK ts f l s=some q->q.2=s
 bl:∀ (l:Nat) (n:Tree) (s:St) (q:Tree × St),s.bad=true->qW ts f l n s=some q->q.2=s
 u:∀ (s:St) (q:Tree × St),s.bad=true->zF ts f s=some q->q.2=s
 a:∀ (s:St) (q:Tree × St),s.bad=true->zJ ts f s=some q->q.2=s
 p:∀ (x:ByteArray) (s:St) (q:Tree × St),s.bad=true->qX ts f x s=some q->q.2=s
 c:∀ (x:ByteArray) (s:St) (q:Tree × St),s.bad=true->zT ts f x s=some q->q.2=s
 cl:∀ (x:ByteArray) (ks:List Tree) (s:St) (on:Bool) (q:Tree × St),s.bad=true->zO ts f x ks s on=some q->q.2=s
theorem zN {α β:Type} {o:Option α} {g:α->Option β} {q:β} (h:o.bind g=some q):∃ a,o=some a/\g a=some q:=by
 cases o with
 | none=>simp at h
 | some a=>exact ⟨a,rfl,h⟩
theorem stuck (ts:List Tok) (f:Nat):Stuck ts f:=by
 induction f with
 | zero=>exact ⟨fun s q _ h=>by simp [qB] at h,fun l s q _ h=>by simp [qK] at h,fun l n s q _ h=>by simp [qW] at h,fun s q _ h=>by simp [zF] at h,fun s q _ h=>by simp [zJ] at h,fun x s q _ h=>by simp [qX] at h,fun x s q _ h=>by simp [zT] at h,fun x ks s on q _ h=>by simp [zO] at h⟩
 | succ f ih =>
  refine ⟨fun s q hb h=>?_,fun l s q hb h=>?_,fun l n s q hb h=>?_,fun s q hb h=>?_,fun s q hb h=>?_,fun x s q hb h=>?_,fun x s q hb h=>?_,fun x ks s on q hb h=>?_⟩;·unfold qB at h;rw [hb,jv rfl] at h;simp only [jh] at h;rw [<- h]
  ·unfold qK at h;split at h;·exact ih.u _ _ hb h
   ·obtain ⟨q1,h1,h2⟩:=zN h;have e1:=ih.b _ _ _ hb h1;rw [<- e1];exact ih.bl _ _ _ _ (by rw [e1];exact hb) h2
  ·unfold qW at h;rw [hb,jv rfl] at h;simp only [jh] at h;rw [<- h]
  ·unfold zF at h;rw [zX (by decide) hb,zX (by decide) hb,zX (by decide) hb,zs0 hb,zfk hb,zX (by decide) hb] at h;simp only [jr,if_false] at h;exact ih.p _ _ _ hb h
  ·unfold zJ at h;obtain ⟨q1,h1,h2⟩:=zN h;rw [qF (by decide) hb] at h1;have e1:=ih.e _ _ hb h1;simp only [jh] at h2;rw [<- h2,e1];exact qF (by decide) hb
  ·unfold qX at h;rw [zX (by decide) hb,ju (by decide)] at h;simp only [jh] at h;rw [<- h]
  ·unfold zT at h;rw [qF (by decide) hb,zX (by decide) hb,ju (by decide)] at h;exact ih.cl _ _ _ _ _ hb h
  ·unfold zO at h;rw [hb] at h;simp only [Bool.not_true,Bool.and_false,jr,if_false,jh] at h;rw [<- h];exact qF (by decide) hb
structure Stuck2 (ts:List Tok) (f:Nat):Prop where
 bk:∀ (s:St) (q:Tree × St),s.bad=true->qZ ts f s=some q->q.2=s
 bl:∀ (ks:List Tree) (s:St) (q:Tree × St),s.bad=true->zQ ts f ks s=some q->q.2=s
theorem dF (ts:List Tok) (f:Nat):Stuck2 ts f:=by
 have hL:∀ (f:Nat) (ks:List Tree) (s:St) (q:Tree × St),s.bad=true->zQ ts f ks s=some q->q.2=s:=by
  intro f ks s q hb h
  cases f with
  | zero=>simp [zQ] at h
  | succ f =>
   unfold zQ at h;rw [hb,jv rfl] at h;simp only [jh] at h;rw [<- h]
 refine ⟨fun s q hb h=>?_,fun ks s q hb h=>hL f ks s q hb h⟩
 cases f with
 | zero=>simp [qZ] at h
 | succ f =>
  unfold qZ at h;rw [qF (by decide) hb] at h;exact hL _ _ _ _ hb h
end
end syn
namespace lexs
structure Fine (t:Tok):Prop where
 kinds:t.kind=1\/t.kind=2\/t.kind=3
 ne:t.text≠[]
 word:t.kind=1->t.text.length<=16/\xL (t.text.headD 0)=true/\t.text.all qG=true
 num:t.kind=2->qU t.text=0
 sign:t.kind=3->xL (t.text.headD 0)=false
theorem take_run (p:UInt8->Bool) (l:List UInt8):l.take (run p l)=l.takeWhile p:=by
 unfold run
 induction l with
 | nil=>rfl
 | cons b r ih =>
  rw [List.takeWhile_cons];cases p b;·rfl
  ·simp [ih]
theorem step_fine {b:UInt8} {r:List UInt8} {K:Int} {n i:Nat} (h:qA (b :: r)=.tok K n):Fine ⟨K,(b :: r).take n,i⟩:=by
 have hn:=(zbn h).1;obtain ⟨m,rfl⟩:∃ m,n=m+1:=⟨n - 1,by omega⟩
 have hh:((b :: r).take (m+1)).headD 0=b:=by simp
 have hne:(b :: r).take (m+1)≠[]:=by simp
 rw [qA,List.headD_cons,vI] at h;by_cases h1:(b==32||b==10)=true;·rw [jv h1] at h;simp at h
 rw [ju h1] at h;by_cases h2:(b==35)=true;·rw [jv h2] at h;simp at h
 rw [ju h2] at h;cases h3:xL b
 ·rw [h3] at h;simp only [jr,if_false] at h;cases h4:qJ b
  ·rw [h4] at h;simp only [jr,if_false] at h;split at h;·simp at h
   ·injection h with hk hm;subst hk;refine ⟨.inr (.inr rfl),hne,fun e=>by simp at e,fun e=>by simp at e,fun _=>?_⟩;show xL (((b :: r).take (m+1)).headD 0)=false;rw [hh];exact h3
  ·rw [h4] at h;simp only [if_true] at h;split at h;·rename_i he;injection h with hk hm;subst hk;refine ⟨.inr (.inl rfl),hne,fun e=>by simp at e,fun _=>?_,fun e=>by simp at e⟩;rw [<- hm];simpa using he
   ·simp at h
 ·rw [h3] at h;simp only [if_true] at h;split at h;·simp at h
  ·rename_i h16;injection h with hk hm;subst hk;refine ⟨.inl rfl,hne,fun _=>⟨?_,?_,?_⟩,fun e=>by simp at e,fun e=>by simp at e⟩;·show ((b :: r).take (m+1)).length<=16;rw [List.length_take];omega
   ·show xL (((b :: r).take (m+1)).headD 0)=true;rw [hh];exact h3
   ·show ((b :: r).take (m+1)).all qG=true;rw [<- hm,take_run];exact List.all_takeWhile
theorem scanL_fine:∀ (f:Nat) (l:List UInt8) (i:Nat) (acc toks:List Tok),zC f l i acc=.ok toks->(∀ t∈acc,Fine t)->∀ t∈toks,Fine t
 | 0,l,i,acc,toks,h,ha=>by
  unfold zC at h;injection h with h;subst h
  exact ha
 | f+1,[],i,acc,toks,h,ha=>by
  unfold zC at h;injection h with h;subst h
  exact ha
 | f+1,b :: r,i,acc,toks,h,ha=>by
  cases hs:qA (b :: r) with
  | skip n=>rw [cL hs] at h;exact scanL_fine f _ _ _ _ h ha
  | fault c=>rw [bP hs] at h;simp at h
  | tok k n =>
   rw [fW hs] at h;refine scanL_fine f _ _ _ _ h ?_;intro t ht;rw [List.mem_append] at ht;rcases ht with ht | ht
   ·exact ha t ht
   ·simp only [jy] at ht;subst ht;exact step_fine hs
theorem scan_fine {l:List UInt8} {toks:List Tok} (h:scan l=.ok toks):∀ t∈toks,Fine t:=by
 unfold scan at h;split at h;·simp at h
 ·exact scanL_fine _ _ _ _ _ h (fun t ht=>by simp at ht)
end lexs
namespace syn
open lexs (Tok Fine zD gF xL qG qJ qU)
def raw (t:Tok):ByteArray:=⟨t.text.toArray⟩
theorem raw_list (t:Tok):(raw t).data.toList=t.text:=rfl
theorem raw_size (t:Tok):(raw t).size=t.text.length:=by rw [<- lexs.len_L,raw_list]
def vQ (x:ByteArray):Bool:=decide (0<x.size)&&!qJ (x.data.toList.headD 0)
section
variable {ts:List Tok} {s:St}
theorem zal (hb:s.bad=false):xY ts s=ts[s.i]?:=by unfold xY;rw [hb];rfl
theorem zij {l:List UInt8} (h:qU l=0):l.all qJ=true:=by
 unfold qU at h;cases ha:l.all qJ;·rw [ha] at h;simp at h
 ·rfl
theorem zt9 {l:List UInt8} (h:qU l=0) (hne:l≠[]):qJ (l.headD 0)=true:=by
 have h1:=zij h
 cases l with
 | nil=>exact absurd rfl hne
 | cons b r=>simp only [List.all_cons,jj] at h1;exact h1.1
theorem zca {t:Tok} (hg:Fine t) (hb:s.bad=false) (ht:ts[s.i]?=some t) {x:ByteArray} (hx:vQ x=true):eqS (txt ts s) x=eqS (raw t) x:=by
 unfold txt;rw [zal hb,ht];simp only;unfold vQ at hx;simp only [jj,jl,Bool.not_eq_true'] at hx;cases hk:(t.kind==2);·simp only [jr,if_false];rfl
 ·simp only [if_true];have hk2:t.kind=2:=by simpa using hk
  have hd:=zt9 (hg.num hk2) hg.ne
  have e1:eqS empty x=false:=by
   cases h:eqS empty x;·rfl
   ·have:=zcu h;omega
  have e2:eqS (raw t) x=false:=by
   cases h:eqS (raw t) x;·rfl
   ·exfalso;unfold eqS at h;rw [beq_iff_eq,ByteArray.toList_eq,ByteArray.toList_eq,raw_list] at h;rw [h] at hd;rw [hx.2] at hd;simp at hd
  rw [e1,e2]
theorem zvs (ht:ts[s.i]?=none) {x:ByteArray} (hx:vQ x=true):eqS (txt ts s) x=false:=by
 cases h:eqS (txt ts s) x;·rfl
 ·exfalso;unfold vQ at hx;simp only [jj,jl] at hx;have:=znk hx.1 h;rw [List.getElem?_eq_none_iff] at ht;omega
def ownName (t:Tok):Bool:=!(vS.any fun y=>eqS y (raw t))&&t.kind==1
theorem ztl {t:Tok} (hg:Fine t) (hb:s.bad=false) (ht:ts[s.i]?=some t):kK (txt ts s)=ownName t:=by
 unfold txt;rw [zal hb,ht];simp only;rcases hg.kinds with hk | hk | hk
 ·rw [hk];obtain ⟨h1,h2,h3⟩:=hg.word hk;unfold ownName;rw [hk]
  have hsz:1<=(raw t).size:=by
   rw [raw_size];have:=hg.ne
   cases hl:t.text with
   | nil=>exact absurd hl this
   | cons b r=>simp
  have e:kK (raw t)=!(vS.any fun y=>eqS y (raw t)):=by
   unfold kK;rw [raw_list];have hl:zD ((t.text.headD 0).toNat:Int)=true:=h2;have ha:t.text.all (fun c=>gF (c.toNat:Int))=true:=h3;rw [hl,ha,decide_eq_true ⟨hsz,by rw [raw_size];exact h1⟩];simp
  simp only [show ((1:Int)==2)=false from rfl,show ((1:Int)==1)=true from rfl,jr,if_false,Bool.and_true];exact e
 ·rw [hk];unfold ownName;rw [hk];simp [zd7]
 ·rw [hk];unfold ownName;rw [hk];have hs:=hg.sign hk;have hl:zD ((t.text.headD 0).toNat:Int)=false:=hs;simp only [show ((3:Int)==2)=false from rfl,show ((3:Int)==1)=false from rfl,jr,if_false,Bool.and_false];unfold kK;show (_&&zD (((raw t).data.toList.headD 0).toNat:Int)&&_&&_)=false;rw [raw_list,hl];simp
theorem zrq (ht:ts[s.i]?=none):kK (txt ts s)=false:=by
 have:txt ts s=empty:=by
  unfold txt xY;rw [ht];cases s.bad<;>rfl
 rw [this];exact zd7
end
end syn
namespace syn
mutual
def kB:Tree->Int
 | .node _ _ _ ks=>kA ks+1
def kA:List Tree->Int
 | []=>0
 | t :: r=>kB t+kA r
end
mutual
def zV:Tree->Int
 | .node _ _ _ ks=>zM ks+1
def zM:List Tree->Int
 | []=>0
 | t :: r=>max (zV t) (zM r)
end
mutual
theorem kR:∀ t:Tree,1<=kB t
 | .node _ _ _ ks=>by unfold kB;have:=kX ks;omega
theorem kX:∀ ks:List Tree,0<=kA ks
 | []=>by unfold kA;omega
 | t :: r=>by unfold kA;have h1:=kR t;have h2:=kX r;omega
end
mutual
theorem cT:∀ t:Tree,1<=zV t
 | .node _ _ _ ks=>by unfold zV;have:=zac ks;omega
theorem zac:∀ ks:List Tree,0<=zM ks
 | []=>by unfold zM;omega
 | t :: r=>by unfold zM;have h1:=cT t;have h2:=zac r;omega
end
mutual
theorem zkg:∀ (t:Tree) (kH:Int),0<=kH->(kB t<=kH->fO t kH=kB t)/\(kH<kB t->kH<fO t kH)
 | .node _ _ _ ks,kH,h=>by
  unfold fO kB;have:=zlc ks 1 kH h (by omega) (by omega);exact ⟨fun h1=>by rw [this.1 (by omega)];omega,fun h1=>this.2 (by omega)⟩
theorem zlc:∀ (ks:List Tree) (k kH:Int),0<=kH->1<=k->k<=kH+1->(k+kA ks<=kH->fP ks k kH=k+kA ks)/\(kH<k+kA ks->kH<fP ks k kH)
 | [],k,kH,h,h1,h2=>by unfold fP kA;exact ⟨fun _=>by omega,fun h=>by omega⟩
 | t :: r,k,kH,h,h1,h2=>by
  unfold fP kA;have p1:=kR t;have p2:=kX r;split
  ·rename_i hc;have hm:=zkg t (kH - k) (by omega);have hb:=zhf t (kH - k) (by omega);have hr:=zlc r (k+fO t (kH - k)) kH h (by omega) (by omega);refine ⟨fun h3=>?_,fun h3=>?_⟩;·rw [hr.1 (by rw [hm.1 (by omega)];omega),hm.1 (by omega)];omega
   ·rcases Int.lt_or_le (kH - k) (kB t) with h4 | h4
    ·have:=hm.2 h4;exact hr.2 (by omega)
    ·have:=hm.1 h4;exact hr.2 (by omega)
  ·exact ⟨fun h3=>by omega,fun h3=>by omega⟩
end
mutual
theorem zkr:∀ (t:Tree) (kH:Int),0<=kH->(zV t<=kH->gS t kH=zV t)/\(kH<zV t->kH<gS t kH)
 | .node _ _ _ ks,kH,h=>by
  unfold gS zV;have p:=zac ks;rcases Int.lt_or_le 0 kH with h0 | h0
  ·have:=zkt ks 0 kH h0 (by omega) (by omega);have e:max 0 (zM ks)=zM ks:=by omega
   rw [e] at this;exact ⟨fun h1=>by rw [this.1 (by omega)],fun h1=>by have:=this.2 (by omega);omega⟩
  ·have hb:=zea ks 0 kH h (by omega) (by omega);exact ⟨fun h1=>by omega,fun h1=>by omega⟩
theorem zkt:∀ (ks:List Tree) (d kH:Int),0<kH->0<=d->d<=kH->(max d (zM ks)<=kH - 1->fM ks d kH=max d (zM ks))/\(kH - 1<max d (zM ks)->kH<=fM ks d kH)
 | [],d,kH,h,h1,h2=>by unfold fM zM;exact ⟨fun _=>by omega,fun h=>by omega⟩
 | t :: r,d,kH,h,h1,h2=>by
  unfold fM zM;rw [jv ⟨h,h2⟩];have hm:=zkr t (kH - 1) (by omega);have hb:=zhp t (kH - 1) (by omega);have hr:=zkt r (max d (gS t (kH - 1))) kH h (by omega) (by omega);refine ⟨fun h3=>?_,fun h3=>?_⟩;·have e:=hm.1 (by omega);rw [hr.1 (by omega),e];omega
  ·rcases Int.lt_or_le (kH - 1) (zV t) with h4 | h4
   ·have:=hm.2 h4;exact hr.2 (by omega)
   ·have:=hm.1 h4;exact hr.2 (by omega)
end
mutual
def uY:Tree->Int->Int->Option Int
 | .node _ _ _ ks,d,c=>if 16<d\/500<c+1 then none else uF ks (d+1) (c+1)
def uF:List Tree->Int->Int->Option Int
 | [],_,c=>some c
 | t :: r,d,c=>match uY t d c with
  | none=>none
  | some c'=>uF r d c'
end
mutual
theorem cO:∀ (t:Tree) (d c:Int),0<=c->c<=500->1<=d->d<=17->uY t d c=if zV t+d<=17/\c+kB t<=500 then some (c+kB t) else none
 | .node _ _ _ ks,d,c,h1,h2,h3,h4=>by
  unfold uY zV kB;have p1:=zac ks;have p2:=kX ks;by_cases hc:16<d\/500<c+1;·rw [jv hc,ju (by omega)]
  ·rw [ju hc,zip ks (d+1) (c+1) (by omega) (by omega) (by omega) (by omega)];by_cases hd:zM ks+(d+1)<=17/\c+1+kA ks<=500
   ·rw [jv hd,jv (by omega)]
    congr 1
    omega
   ·rw [ju hd,ju (by omega)]
theorem zip:∀ (ks:List Tree) (d c:Int),0<=c->c<=500->1<=d->d<=17->uF ks d c=if zM ks+d<=17/\c+kA ks<=500 then some (c+kA ks) else none
 | [],d,c,h1,h2,h3,h4=>by
  unfold uF zM kA;rw [jv (by omega)]
  congr 1
  omega
 | t :: r,d,c,h1,h2,h3,h4=>by
  unfold uF zM kA;have p1:=kR t;have p2:=kX r;have p3:=cT t;have p4:=zac r;rw [cO t d c h1 h2 h3 h4];by_cases hd:zV t+d<=17/\c+kB t<=500
  ·rw [jv hd];simp only;rw [zip r d (c+kB t) (by omega) (by omega) h3 h4];by_cases hr:zM r+d<=17/\c+kB t+kA r<=500
   ·rw [jv hr,jv (by omega)]
    congr 1
    omega
   ·rw [ju hr,ju (by omega)]
  ·rw [ju hd];simp only;rw [ju (by omega)]
end
theorem zba (t:Tree):(uY t 1 0).isSome=vC t:=by
 rw [cO t 1 0 (by omega) (by omega) (by omega) (by omega)];unfold vC;have hm:=zkg t 500 (by omega);have hd:=zkr t 16 (by omega);rcases Int.lt_or_le 500 (kB t) with h | h
 ·have a1:=hm.2 h;have a2:¬ (zV t+1<=17/\0+kB t<=500):=by omega
  simp only [jv a1,ju a2];rfl
 ·have a1:¬ 500<fO t 500:=by rw [hm.1 h];omega
  simp only [ju a1];rcases Int.lt_or_le 16 (zV t) with h2 | h2
  ·have a2:¬ (zV t+1<=17/\0+kB t<=500):=by omega
   have a3:¬ gS t 16<=16:=by have:=hd.2 h2;omega
   simp only [ju a2,decide_eq_false a3];rfl
  ·have a2:zV t+1<=17/\0+kB t<=500:=by omega
   have a3:gS t 16<=16:=by rw [hd.1 h2];exact h2
   simp only [jv a2,decide_eq_true a3];rfl
end syn
namespace lexs
theorem ztf {l:List UInt8} {c:Int} (h:qA l=.fault c):c≠0:=by
 unfold qA vI at h;split at h;·simp at h
 split at h;·simp at h
 split at h
 ·split at h;·injection h with h;omega
  ·simp at h
 split at h
 ·split at h;·simp at h
  ·rename_i hn;injection h with h;rw [<- h];simpa using hn
 split at h;·injection h with h;omega
 ·simp at h
theorem zep:∀ (f:Nat) (l:List UInt8) (i:Nat) (acc:List Tok) (c:Int) (p:Nat),zC f l i acc=.err c p->c≠0
 | 0,l,i,acc,c,p,h=>by unfold zC at h;simp at h
 | f+1,[],i,acc,c,p,h=>by unfold zC at h;simp at h
 | f+1,b :: r,i,acc,c,p,h=>by
  cases hs:qA (b :: r) with
  | skip n=>rw [cL hs] at h;exact zep f _ _ _ _ _ h
  | fault c' =>
   rw [bP hs] at h;injection h with h _;rw [<- h]
   exact ztf hs
  | tok k n=>rw [fW hs] at h;exact zep f _ _ _ _ _ h
theorem scan_err {l:List UInt8} {c:Int} {p:Nat} (h:scan l=.err c p):c≠0:=by
 unfold scan at h;split at h;·injection h with h _;omega
 ·exact zep _ _ _ _ _ _ h
end lexs
namespace chk
def yL:List UInt8->List UInt8 × Option (List UInt8)
 | []=>([],none)
 | c :: r=>if c=46 then ([],some r) else ((c :: (yL r).1),(yL r).2)
end chk
namespace face
open lexs (Tok scan)
open syn
mutual
def InT:Tree->Prop
 | .node k _ _ ks=>(k=0\/6<=k)/\InL ks
def InL:List Tree->Prop
 | []=>True
 | t :: r=>InT t/\InL r
end
theorem InL.snoc {t:Tree} (ht:InT t):∀ {ks:List Tree},InL ks->InL (ks++[t])
 | [],_=>by show InT t/\InL [];exact ⟨ht,by unfold InL;trivial⟩
 | a :: r,h=>by
  unfold InL at h;show InT a/\InL (r++[t]);exact ⟨h.1,InL.snoc ht h.2⟩
theorem zai {k m:Int} {x:ByteArray} (h:k=0\/6<=k):InT (.node k x m []):=by unfold InT;exact ⟨h,by unfold InL;trivial⟩
theorem dS {k m:Int} {x:ByteArray} {t:Tree} (h:k=0\/6<=k) (ht:InT t):InT (.node k x m [t]):=by
 unfold InT InL InL;exact ⟨h,ht,trivial⟩
theorem zbw {k m:Int} {x:ByteArray} {t u:Tree} (h:k=0\/6<=k) (ht:InT t) (hu:InT u):InT (.node k x m [t,u]):=by
 unfold InT InL InL InL;exact ⟨h,ht,hu,trivial⟩
theorem zs1 {k m:Int} {x:ByteArray} {t u v:Tree} (h:k=0\/6<=k) (ht:InT t) (hu:InT u) (hv:InT v):InT (.node k x m [t,u,v]):=by
 unfold InT InL InL InL InL;exact ⟨h,ht,hu,hv,trivial⟩
section
variable (ts:List Tok)
structure InE (f:Nat):Prop where
 ex:∀ s q,qB ts f s=some q->InT q.1
 bo:∀ l s q,qK ts f l s=some q->InT q.1
 bl:∀ l n s q,InT n->qW ts f l n s=some q->InT q.1
 un:∀ s q,zF ts f s=some q->InT q.1
 ak:∀ s q,zJ ts f s=some q->InT q.1
 pl:∀ x s q,qX ts f x s=some q->InT q.1
 ca:∀ x s q,zT ts f x s=some q->InT q.1
 cl:∀ x ks s on q,InL ks->zO ts f x ks s on=some q->InT q.1
theorem zr4 (s:St):InT (zK ts s).1:=by
 unfold zK;split;·exact zai (.inr (by omega))
 ·split<;>exact zai (.inr (by omega))
theorem inE:∀ f,InE ts f
 | 0=>by
  constructor;·intro s q h;unfold qB at h;cases h
  ·intro l s q h;unfold qK at h;cases h
  ·intro l n s q hn h;unfold qW at h;cases h
  ·intro s q h;unfold zF at h;cases h
  ·intro s q h;unfold zJ at h;cases h
  ·intro x s q h;unfold qX at h;cases h
  ·intro x s q h;unfold zT at h;cases h
  ·intro x ks s on q hk h;unfold zO at h;cases h
 | f+1=>by
  have ih:=inE f;constructor
  ·intro s q h;unfold qB at h;split at h;·cases h;exact zai (.inl rfl)
   ·exact ih.bo _ _ _ h
  ·intro l s q h;unfold qK at h;split at h;·exact ih.un _ _ h
   ·obtain ⟨p,hp,h⟩:=jg.1 h;exact ih.bl _ _ _ _ (ih.bo _ _ _ hp) h
  ·intro l n s q hn h;unfold qW at h;split at h;·cases h;exact hn
   ·split at h;·cases h;exact hn
    ·obtain ⟨p,hp,h⟩:=jg.1 h;have h2:=ih.bo _ _ _ hp;split at h;·cases h;exact zbw (.inr (by omega)) hn h2
     ·exact ih.bl _ _ _ _ (zbw (.inr (by omega)) hn h2) h
  ·intro s q h;unfold zF at h;split at h;·obtain ⟨p,hp,h⟩:=jg.1 h;cases h;exact dS (.inr (by omega)) (ih.un _ _ hp)
   ·split at h;·obtain ⟨p,hp,h⟩:=jg.1 h;cases h;exact dS (.inr (by omega)) (ih.un _ _ hp)
    ·split at h;·exact ih.ak _ _ h
     ·split at h;·cases h;exact zr4 ts s
      ·split at h;·exact ih.ca _ _ _ h
       ·exact ih.pl _ _ _ h
  ·intro s q h;unfold zJ at h;obtain ⟨p,hp,h⟩:=jg.1 h;cases h;show InT p.1;exact ih.ex _ _ hp
  ·intro x s q h;unfold qX at h;split at h;·obtain ⟨p,hp,h⟩:=jg.1 h;cases h;exact dS (.inr (by omega)) (ih.ex _ _ hp)
   ·cases h;exact zai (.inr (by omega))
  ·intro x s q h;unfold zT at h;split at h;·cases h;exact zai (.inr (by omega))
   ·exact ih.cl _ _ _ _ _ (by unfold InL;trivial) h
  ·intro x ks s on q hk h;unfold zO at h;split at h;·obtain ⟨p,hp,h⟩:=jg.1 h;exact ih.cl _ _ _ _ _ (InL.snoc (ih.ex _ _ hp) hk) h
   ·cases h;show InT (.node 18 x 0 ks);unfold InT;exact ⟨.inr (by omega),hk⟩
structure InS (f:Nat):Prop where
 bl:∀ s q,qZ ts f s=some q->InT q.1
 li:∀ ks s q,InL ks->zQ ts f ks s=some q->InT q.1
 st:∀ s q,zI ts f s=some q->InT q.1
theorem inS:∀ f,InS ts f
 | 0=>by
  constructor;·intro s q h;unfold qZ at h;cases h
  ·intro ks s q hk h;unfold zQ at h;cases h
  ·intro s q h;unfold zI at h;cases h
 | f+1=>by
  have ih:=inS f;have ie:=inE ts f;constructor;·intro s q h;unfold qZ at h;exact ih.li _ _ _ (by unfold InL;trivial) h
  ·intro ks s q hk h;unfold zQ at h;have hn:InT (.node 6 empty 0 ks):=by unfold InT;exact ⟨.inr (by omega),hk⟩
   split at h;·cases h;exact hn
   ·split at h;·cases h;exact hn
    ·obtain ⟨p,hp,h⟩:=jg.1 h;exact ih.li _ _ _ (InL.snoc (ih.st _ _ hp) hk) h
  ·intro s q h;unfold zI at h;split at h
   ·obtain ⟨x,hx,h⟩:=jg.1 h;obtain ⟨b,hb,h⟩:=jg.1 h;split at h;·obtain ⟨c,hc,h⟩:=jg.1 h;cases h;exact zs1 (.inr (by omega)) (ie.ak _ _ hx) (ih.bl _ _ hb) (ih.bl _ _ hc)
    ·cases h;exact zbw (.inr (by omega)) (ie.ak _ _ hx) (ih.bl _ _ hb)
   ·split at h;·obtain ⟨x,hx,h⟩:=jg.1 h;obtain ⟨b,hb,h⟩:=jg.1 h;cases h;exact zbw (.inr (by omega)) (ie.ak _ _ hx) (ih.bl _ _ hb)
    ·split at h;·obtain ⟨x,hx,h⟩:=jg.1 h;cases h;exact dS (.inr (by omega)) (ie.ex _ _ hx)
     ·split at h;·obtain ⟨x,hx,h⟩:=jg.1 h;cases h;exact dS (.inr (by omega)) (ie.ca _ _ _ hx)
      ·split at h;·obtain ⟨x,hx,h⟩:=jg.1 h;cases h;exact dS (.inr (by omega)) (ie.ex _ _ hx)
       ·split at h;·obtain ⟨x,hx,h⟩:=jg.1 h;cases h;exact dS (.inr (by omega)) (ie.pl _ _ _ hx)
        ·split at h;·obtain ⟨x,hx,h⟩:=jg.1 h;cases h;exact dS (.inr (by omega)) (ie.ex _ _ hx)
         ·obtain ⟨x,hx,h⟩:=jg.1 h;obtain ⟨y,hy,h⟩:=jg.1 h;cases h;exact zbw (.inr (by omega)) (ie.pl _ _ _ hx) (ie.ex _ _ hy)
end
/-! declarations -/
def bI (b:Bool):Int:=if b then 1 else 0
inductive Kid where
 | imp (x:ByteArray)
 | var (x:ByteArray) (p l:Bool) (n:Option Int)
 | proc (x:ByteArray) (p l:Bool) (g:Option Bool) (ps:List (ByteArray × Bool)) (b:Tree)
def gI:Option Bool->Int
 | none=>0
 | some b=>4+4*bI b
def zL (q:ByteArray × Bool):Tree:=.node 5 q.1 (bI q.2) []
def Kid.tree:Kid->Tree
 | .imp x=>.node 2 x 0 []
 | .var x p l none=>.node 3 x (2*bI p+bI l) []
 | .var x p l (some n)=>.node 3 x (2*bI p+bI l) [.node 15 empty n []]
 | .proc x p l g ps b=>.node 4 x (2*bI p+bI l+gI g) (ps.map zL++[b])
section
variable (ts:List Tok)
theorem cU (s:St):∃ l:Bool,(label ts s).1=bI l:=by
 unfold label;split;·exact ⟨true,rfl⟩
 ·exact ⟨false,rfl⟩
theorem zy8 (s:St):∃ p:Bool,gW ts s=2*bI p:=by
 unfold gW;split;·exact ⟨true,rfl⟩
 ·exact ⟨false,rfl⟩
theorem zt5 (p:Bool) (s:St):∃ (l:Bool) (g:Option Bool),uZ ts (2*bI p) s=2*bI p+bI l+gI g:=by
 obtain ⟨l,hl⟩:=cU ts s;unfold uZ;split
 ·obtain ⟨m,hm⟩:=cU ts (label ts s).2.next;refine ⟨l,some m,?_⟩;rw [hl,hm];show _=2*bI p+bI l+(4+4*bI m)
  omega
 ·exact ⟨l,none,by rw [hl];show _=2*bI p+bI l+0;omega⟩
theorem zss (s:St):∃ n,(zK ts s).1=.node 15 empty n []:=by
 unfold zK;split;·exact ⟨_,rfl⟩
 ·split<;>exact ⟨_,rfl⟩
end
end face
namespace face
open syn
def Kid.good:Kid->Prop
 | .imp x=>x.size<=16
 | .var x _ _ _=>x.size<=16
 | .proc x _ _ _ ps b=>x.size<=16/\(∀ q∈ps,q.1.size<=16)/\InT b
end face
namespace face
open lexs (Tok scan scan_len)
open syn
section
variable (ts:List Tok)
theorem name_size (s:St):(name ts s).1.size<=16:=by
 unfold name;split;·rename_i h;unfold kK at h;simp only [jj,jl] at h;exact h.1.1.1.2
 ·exact jz _
end
def Kid.named:Kid->Prop
 | .imp x=>kK x=true
 | .var x _ _ _=>kK x=true
 | .proc x _ _ _ ps _=>kK x=true/\∀ q∈ps,kK q.1=true
theorem zco {x:ByteArray} (h:kK x=true):x.size<=16:=by
 unfold kK at h;simp only [jj,jl] at h;exact h.1.1.1.2
section
variable (ts:List Tok)
theorem qR {s t:St} (hst:s.bad=true->t=s) (h:t.bad=false):s.bad=false:=by
 cases hs:s.bad;·rfl
 ·rw [hst hs,hs] at h;cases h
theorem fU {s:St} (h:(name ts s).2.bad=false):kK (name ts s).1=true/\s.bad=false:=by
 refine ⟨?_,qR (fun hs=>fD hs) h⟩;unfold name at h |-;split
 ·assumption
 ·rename_i hn;rw [ju hn] at h;simp [St.fail] at h
theorem ziw:∀ (f:Nat) (ks:List Tree) (s:St) (q:List Tree × St),s.bad=true->yD ts f ks s=some q->q.2=s
 | 0,ks,s,q,hb,h=>by unfold yD at h;cases h
 | f+1,ks,s,q,hb,h=>by
  unfold yD at h;rw [zae hb,fD hb,zX (by decide) hb,ju (by decide)] at h;cases h;rfl
theorem params_st (f:Nat) (s:St) (q:List Tree × St) (hb:s.bad=true) (h:params ts f s=some q):q.2=s:=by
 unfold params at h;rw [zX (by decide) hb,ju (by decide)] at h;exact ziw ts f [] s q hb h
theorem zh2:∀ (f:Nat) (ps:List (ByteArray × Bool)) (s:St) (q:List Tree × St),(∀ q∈ps,kK q.1=true)->yD ts f (ps.map zL) s=some q->q.2.bad=false->∃ ps':List (ByteArray × Bool),q.1=ps'.map zL/\∀ q∈ps',kK q.1=true
 | 0,ps,s,q,hs,h,hb=>by unfold yD at h;cases h
 | f+1,ps,s,q,hs,h,hb=>by
  unfold yD at h;obtain ⟨l,hl⟩:=cU ts s
  have e:ps.map zL++[.node 5 (name ts (label ts s).2).1 (label ts s).1 []]=(ps++[((name ts (label ts s).2).1,l)]).map zL:=by
   rw [List.map_append,hl];rfl
  rw [e] at h
  have key:(name ts (label ts s).2).2.bad=false->∀ q∈ps++[((name ts (label ts s).2).1,l)],kK q.1=true:=by
   intro hn q hq;rw [List.mem_append] at hq;rcases hq with hq | hq
   ·exact hs q hq
   ·simp only [jy] at hq;subst hq;exact (fU ts hn).1
  split at h;·have h1:(name ts (label ts s).2).2.next.bad=false:=qR (fun hx=>ziw ts f _ _ _ hx h) hb;exact zh2 f _ _ _ (key h1) h hb
  ·cases h;exact ⟨_,rfl,key hb⟩
theorem zsl {s:St} (h:s.bad=true):vN ts s=s:=by
 unfold vN;rw [zae h,zX (by decide) h,ju (by decide)]
theorem zwa {s:St} (h:s.bad=true):(yB ts s).2=s:=by
 unfold yB;rw [zX (by decide) h,ju (by decide)]
theorem zml {s:St} (h:s.bad=true):zP ts s=s:=by
 unfold zP;rw [zX (by decide) h,ju (by decide)]
theorem importsL_st (f:Nat) (ks:List Tree) (s:St) (q:List Tree × St) (hb:s.bad=true) (h:yC ts f ks s=some q):q.2=s:=by
 cases f with
 | zero=>unfold yC at h;cases h
 | succ f =>
  unfold yC at h;rw [zX (by decide) hb,ju (by decide)] at h;cases h;rfl
theorem declsL_st (f:Nat) (ks:List Tree) (s:St) (q:List Tree × St) (hb:s.bad=true) (h:zY ts f ks s=some q):q.2=s:=by
 cases f with
 | zero=>unfold zY at h;cases h
 | succ f =>
  unfold zY at h;rw [hb,Bool.true_or,jv rfl] at h;cases h;rfl
end
end face
namespace chk
open lexs (Tok scan scan_len)
open syn face
def zG (x:ByteArray):Prop:=kK x=true\/∃ a b,kK a=true/\kK b=true/\x=a++⟨#[46]⟩++b
inductive ExT:Tree->Prop
 | num (n:Nat):ExT (.node 15 empty n [])
 | nam {x:ByteArray}:zG x->ExT (.node 16 x 0 [])
 | item {x:ByteArray} {e:Tree}:zG x->ExT e->ExT (.node 17 x 0 [e])
 | call {x:ByteArray} {ks:List Tree}:zG x->(∀ t∈ks,ExT t)->ExT (.node 18 x 0 ks)
 | op {m:Int} {a b:Tree}:ExT a->ExT b->ExT (.node 19 empty m [a,b])
 | neg {a:Tree}:ExT a->ExT (.node 20 empty 0 [a])
 | nott {a:Tree}:ExT a->ExT (.node 21 empty 0 [a])
inductive PlT:Tree->Prop
 | nam {x:ByteArray}:zG x->PlT (.node 16 x 0 [])
 | item {x:ByteArray} {e:Tree}:zG x->ExT e->PlT (.node 17 x 0 [e])
theorem PlT.ex {t:Tree} (h:PlT t):ExT t:=by
 cases h with
 | nam h=>exact .nam h
 | item h e=>exact .item h e
inductive CaT:Tree->Prop
 | mk {x:ByteArray} {ks:List Tree}:zG x->(∀ t∈ks,ExT t)->CaT (.node 18 x 0 ks)
theorem CaT.ex {t:Tree} (h:CaT t):ExT t:=by
 cases h with
 | mk h e=>exact .call h e
mutual
inductive StT:Tree->Prop
 | loc {x:ByteArray} (l:Bool) {e:Tree}:kK x=true->ExT e->StT (.node 7 x (bI l) [e])
 | set {p e:Tree}:PlT p->ExT e->StT (.node 8 empty 0 [p,e])
 | dd {c:Tree}:CaT c->StT (.node 9 empty 0 [c])
 | ift {e b:Tree}:ExT e->BlT b->StT (.node 10 empty 0 [e,b])
 | ife {e b c:Tree}:ExT e->BlT b->BlT c->StT (.node 10 empty 0 [e,b,c])
 | whi {e b:Tree}:ExT e->BlT b->StT (.node 11 empty 0 [e,b])
 | out (l:Bool) {e:Tree}:ExT e->StT (.node 12 empty (bI l) [e])
 | inn (l:Bool) {p:Tree}:PlT p->StT (.node 13 empty (bI l) [p])
 | ret {e:Tree}:ExT e->StT (.node 14 empty 0 [e])
inductive BlT:Tree->Prop
 | mk {ks:List Tree}:(∀ t∈ks,StT t)->BlT (.node 6 empty 0 ks)
end
section
variable (ts:List Tok)
theorem zmm (x:ByteArray) (s:St):(eat ts x s).2.bad=s.bad:=by
 unfold eat
 split<;>rfl
theorem zbc {s:St} (h:(whole ts s).2.bad=false):zG (whole ts s).1/\s.bad=false:=by
 refine ⟨?_,qR (fun hs=>zfk hs) h⟩;unfold whole at h |-;dsimp only at h |-;split at h;·rename_i he;rw [jv he];obtain ⟨n2,b2⟩:=fU ts h;rw [zmm] at b2;obtain ⟨n1,_⟩:=fU ts b2;exact .inr ⟨_,_,n1,n2,rfl⟩
 ·rename_i he;rw [ju he];exact .inl (fU ts h).1
structure ShE (f:Nat):Prop where
 ex:∀ s q,qB ts f s=some q->q.2.bad=false->ExT q.1
 bo:∀ l s q,qK ts f l s=some q->q.2.bad=false->ExT q.1
 bl:∀ l n s q,ExT n->qW ts f l n s=some q->q.2.bad=false->ExT q.1
 un:∀ s q,zF ts f s=some q->q.2.bad=false->ExT q.1
 ak:∀ s q,zJ ts f s=some q->q.2.bad=false->ExT q.1
 pl:∀ x s q,zG x->qX ts f x s=some q->q.2.bad=false->PlT q.1
 ca:∀ x s q,zG x->zT ts f x s=some q->q.2.bad=false->CaT q.1
 cl:∀ x ks s on q,zG x->(∀ t∈ks,ExT t)->zO ts f x ks s on=some q->q.2.bad=false->CaT q.1
theorem zrf {s:St} (h:(zK ts s).2.bad=false):ExT (zK ts s).1:=by
 unfold zK at h |-
 cases hh:xY ts s with
 | none=>rw [hh] at h;simp [St.fail] at h
 | some t =>
  rw [hh] at h;dsimp only at h |-;split at h;·rename_i h2;rw [jv h2];exact .num _
  ·simp [St.fail] at h
theorem shE:∀ f,ShE ts f
 | 0=>by
  constructor;·intro s q h;unfold qB at h;cases h
  ·intro l s q h;unfold qK at h;cases h
  ·intro l n s q hn h;unfold qW at h;cases h
  ·intro s q h;unfold zF at h;cases h
  ·intro s q h;unfold zJ at h;cases h
  ·intro x s q hx h;unfold qX at h;cases h
  ·intro x s q hx h;unfold zT at h;cases h
  ·intro x ks s on q hx hk h;unfold zO at h;cases h
 | f+1=>by
  have ih:=shE f;have st:=Go.Proofs.YtaadmdlbkhcfnaaGreatDoor.syn.stuck ts f;constructor
  ·intro s q h hb;unfold qB at h;split at h;·rename_i hs;cases h;rw [hs] at hb;cases hb
   ·exact ih.bo _ _ _ h hb
  ·intro l s q h hb;unfold qK at h;split at h;·exact ih.un _ _ h hb
   ·obtain ⟨p,hp,h⟩:=jg.1 h;have b1:p.2.bad=false:=qR (fun hx=>st.bl _ _ _ _ hx h) hb;exact ih.bl _ _ _ _ (ih.bo _ _ _ hp b1) h hb
  ·intro l n s q hn h hb;unfold qW at h;split at h;·cases h;exact hn
   ·split at h;·cases h;exact hn
    ·obtain ⟨p,hp,h⟩:=jg.1 h;split at h;·cases h;exact .op hn (ih.bo _ _ _ hp hb)
     ·have b1:p.2.bad=false:=qR (fun hx=>st.bl _ _ _ _ hx h) hb;exact ih.bl _ _ _ _ (.op hn (ih.bo _ _ _ hp b1)) h hb
  ·intro s q h hb;unfold zF at h;split at h;·obtain ⟨p,hp,h⟩:=jg.1 h;cases h;exact .neg (ih.un _ _ hp hb)
   ·split at h;·obtain ⟨p,hp,h⟩:=jg.1 h;cases h;exact .nott (ih.un _ _ hp hb)
    ·split at h;·exact ih.ak _ _ h hb
     ·split at h;·cases h;exact zrf ts hb
      ·split at h;·have b1:(whole ts s).2.bad=false:=qR (fun hx=>st.c _ _ _ hx h) hb;exact (ih.ca _ _ _ (zbc ts b1).1 h hb).ex
       ·have b1:(whole ts s).2.bad=false:=qR (fun hx=>st.p _ _ _ hx h) hb;exact (ih.pl _ _ _ (zbc ts b1).1 h hb).ex
  ·intro s q h hb;unfold zJ at h;obtain ⟨p,hp,h⟩:=jg.1 h;cases h;have b1:p.2.bad=false:=qR (t:=kF ts ⟨#[41]⟩ p.2) (fun hx=>qF (by decide) hx) hb;show ExT p.1;exact ih.ex _ _ hp b1
  ·intro x s q hx h hb;unfold qX at h;split at h;·obtain ⟨p,hp,h⟩:=jg.1 h;cases h;exact .item hx (ih.ex _ _ hp (qR (fun hx=>qF (by decide) hx) hb))
   ·cases h;exact .nam hx
  ·intro x s q hx h hb;unfold zT at h;split at h;·cases h;exact .mk hx (fun t ht=>by cases ht)
   ·exact ih.cl _ _ _ _ _ hx (fun t ht=>by cases ht) h hb
  ·intro x ks s on q hx hk h hb;unfold zO at h;split at h
   ·obtain ⟨p,hp,h⟩:=jg.1 h;have b1:(eat ts ⟨#[44]⟩ p.2).2.bad=false:=qR (fun hx=>st.cl _ _ _ _ _ hx h) hb;rw [zmm] at b1;refine ih.cl _ _ _ _ _ hx ?_ h hb;intro t ht;rw [List.mem_append] at ht;rcases ht with ht | ht
    ·exact hk t ht
    ·simp only [jy] at ht;subst ht;exact ih.ex _ _ hp b1
   ·cases h;exact .mk hx hk
structure ShS (f:Nat):Prop where
 bl:∀ s q,qZ ts f s=some q->q.2.bad=false->BlT q.1
 li:∀ ks s q,(∀ t∈ks,StT t)->zQ ts f ks s=some q->q.2.bad=false->BlT q.1
 st:∀ s q,zI ts f s=some q->q.2.bad=false->StT q.1
theorem shS:∀ f,ShS ts f
 | 0=>by
  constructor;·intro s q h;unfold qZ at h;cases h
  ·intro ks s q hk h;unfold zQ at h;cases h
  ·intro s q h;unfold zI at h;cases h
 | f+1=>by
  have ih:=shS f;have ie:=shE ts f;have se:=Go.Proofs.YtaadmdlbkhcfnaaGreatDoor.syn.stuck ts f;have sb:=dF ts f;constructor;·intro s q h hb;unfold qZ at h;exact ih.li _ _ _ (fun t ht=>by cases ht) h hb
  ·intro ks s q hk h hb;unfold zQ at h;split at h;·cases h;exact .mk hk
   ·split at h;·cases h;exact .mk hk
    ·obtain ⟨p,hp,h⟩:=jg.1 h;have b1:p.2.bad=false:=qR (fun hx=>sb.bl _ _ _ hx h) hb;refine ih.li _ _ _ ?_ h hb;intro t ht;rw [List.mem_append] at ht;rcases ht with ht | ht
     ·exact hk t ht
     ·simp only [jy] at ht;subst ht;exact ih.st _ _ hp b1
  ·intro s q h hb;unfold zI at h;split at h
   ·obtain ⟨x,hx,h⟩:=jg.1 h;obtain ⟨b,hbk,h⟩:=jg.1 h;split at h;·obtain ⟨c,hc,h⟩:=jg.1 h;cases h;have b1:b.2.next.bad=false:=qR (fun hy=>sb.bk _ _ hy hc) hb;replace b1:b.2.bad=false:=b1;have b2:x.2.bad=false:=qR (fun hy=>sb.bk _ _ hy hbk) b1;exact .ife (ie.ak _ _ hx b2) (ih.bl _ _ hbk b1) (ih.bl _ _ hc hb)
    ·cases h;have b2:x.2.bad=false:=qR (fun hy=>sb.bk _ _ hy hbk) hb;exact .ift (ie.ak _ _ hx b2) (ih.bl _ _ hbk hb)
   ·split at h;·obtain ⟨x,hx,h⟩:=jg.1 h;obtain ⟨b,hbk,h⟩:=jg.1 h;cases h;have b2:x.2.bad=false:=qR (fun hy=>sb.bk _ _ hy hbk) hb;exact .whi (ie.ak _ _ hx b2) (ih.bl _ _ hbk hb)
    ·split at h;·obtain ⟨x,hx,h⟩:=jg.1 h;cases h;have b1:x.2.bad=false:=qR (fun hy=>qF (by decide) hy) hb;have b2:(kF ts ⟨#[61]⟩ (name ts (label ts s).2).2).bad=false:=qR (fun hy=>se.e _ _ hy hx) b1;have b3:(name ts (label ts s).2).2.bad=false:=qR (fun hy=>qF (by decide) hy) b2;obtain ⟨l,hl⟩:=cU ts s;rw [hl];exact .loc l (fU ts b3).1 (ie.ex _ _ hx b1)
     ·split at h;·obtain ⟨x,hx,h⟩:=jg.1 h;cases h;have b1:x.2.bad=false:=qR (fun hy=>qF (by decide) hy) hb;have b2:(whole ts s.next).2.bad=false:=qR (fun hy=>se.c _ _ _ hy hx) b1;exact .dd (ie.ca _ _ _ (zbc ts b2).1 hx b1)
      ·split at h;·obtain ⟨x,hx,h⟩:=jg.1 h;cases h;have b1:x.2.bad=false:=qR (fun hy=>qF (by decide) hy) hb;obtain ⟨l,hl⟩:=cU ts s.next;rw [hl];exact .out l (ie.ex _ _ hx b1)
       ·split at h;·obtain ⟨x,hx,h⟩:=jg.1 h;cases h;have b1:x.2.bad=false:=qR (fun hy=>qF (by decide) hy) hb;have b2:(whole ts (label ts s.next).2).2.bad=false:=qR (fun hy=>se.p _ _ _ hy hx) b1;obtain ⟨l,hl⟩:=cU ts s.next;rw [hl];exact .inn l (ie.pl _ _ _ (zbc ts b2).1 hx b1)
        ·split at h;·obtain ⟨x,hx,h⟩:=jg.1 h;cases h;have b1:x.2.bad=false:=qR (fun hy=>qF (by decide) hy) hb;exact .ret (ie.ex _ _ hx b1)
         ·obtain ⟨x,hx,h⟩:=jg.1 h;obtain ⟨y,hy,h⟩:=jg.1 h;cases h;have b1:y.2.bad=false:=qR (fun hz=>qF (by decide) hz) hb;have b2:(kF ts ⟨#[61]⟩ x.2).bad=false:=qR (fun hz=>se.e _ _ hz hy) b1;have b3:x.2.bad=false:=qR (fun hz=>qF (by decide) hz) b2;have b4:(whole ts s).2.bad=false:=qR (fun hz=>se.p _ _ _ hz hx) b3;exact .set (ie.pl _ _ _ (zbc ts b4).1 hx b3) (ie.ex _ _ hy b1)
end
def xI:Kid->Prop
 | .proc _ _ _ _ _ b=>BlT b
 | _=>True
section
variable (ts:List Tok)
theorem zta (f:Nat) (s:St) (q:Tree × St) (h:yO ts f s=some q) (hbad:q.2.bad=false):∃ k:Kid,q.1=k.tree/\k.good/\k.named/\xI k/\s.bad=false:=by
 unfold yO at h;obtain ⟨p,hp⟩:=zy8 ts s;rw [hp] at h;split at h
 ·obtain ⟨a,ha,h⟩:=jg.1 h;obtain ⟨b,hb,h⟩:=jg.1 h;cases h;have b1:(vN ts (kF ts ⟨#[41]⟩ a.2)).bad=false:=qR (fun hx=>(dF ts f).bk _ _ hx hb) hbad;have b2:(kF ts ⟨#[41]⟩ a.2).bad=false:=qR (fun hx=>zsl ts hx) b1;have b3:a.2.bad=false:=qR (fun hx=>qF (by decide) hx) b2;have b4:(kF ts ⟨#[40]⟩ (name ts (zP ts s).next).2).bad=false:=qR (fun hx=>params_st ts f _ _ hx ha) b3;have b5:(name ts (zP ts s).next).2.bad=false:=qR (fun hx=>qF (by decide) hx) b4;obtain ⟨n1,b6⟩:=fU ts b5;have b7:s.bad=false:=qR (fun hx=>zml ts hx) b6
  obtain ⟨ps,hps,hsz⟩:∃ ps:List (ByteArray × Bool),a.1=ps.map zL/\∀ q∈ps,kK q.1=true:=by
   unfold params at ha;split at ha;·cases ha;exact ⟨[],rfl,fun q hq=>by cases hq⟩
   ·exact zh2 ts f [] _ _ (fun q hq=>by cases hq) ha b3
  obtain ⟨l,g,hg⟩:=zt5 ts p (kF ts ⟨#[41]⟩ a.2);refine ⟨.proc (name ts (zP ts s).next).1 p l g ps b.1,?_,⟨face.name_size ts _,fun q hq=>zco (hsz q hq),(inS ts f).bl _ _ hb⟩,⟨n1,hsz⟩,(shS ts f).bl _ _ hb hbad,b7⟩;show Tree.node 4 _ _ _=Tree.node 4 _ _ _;rw [hg,hps]
 ·cases h;have b1:(yB ts (name ts (label ts (zP ts s)).2).2).2.bad=false:=qR (fun hx=>qF (by decide) hx) hbad;have b2:(name ts (label ts (zP ts s)).2).2.bad=false:=qR (fun hx=>zwa ts hx) b1;obtain ⟨n1,b3⟩:=fU ts b2;have b4:(zP ts s).bad=false:=qR (fun hx=>zae hx) b3;have b5:s.bad=false:=qR (fun hx=>zml ts hx) b4;obtain ⟨l,hl⟩:=cU ts (zP ts s);rw [hl];unfold yB;split;·obtain ⟨n,hn⟩:=zss ts (name ts (label ts (zP ts s)).2).2.next;rw [hn];exact ⟨.var _ p l (some n),rfl,face.name_size ts _,n1,trivial,b5⟩
  ·exact ⟨.var _ p l none,rfl,face.name_size ts _,n1,trivial,b5⟩
theorem zhh:∀ (f:Nat) (ks:List Kid) (s:St) (q:List Tree × St),(∀ k∈ks,k.good/\k.named/\xI k)->yC ts f (ks.map Kid.tree) s=some q->q.2.bad=false->∃ ks':List Kid,q.1=ks'.map Kid.tree/\∀ k∈ks',k.good/\k.named/\xI k
 | 0,ks,s,q,hk,h,hb=>by unfold yC at h;cases h
 | f+1,ks,s,q,hk,h,hb=>by
  unfold yC at h;split at h
  ·have e:ks.map Kid.tree++[.node 2 (name ts s.next).1 0 []]=(ks++[Kid.imp (name ts s.next).1]).map Kid.tree:=by rw [List.map_append];rfl
   rw [e] at h;have b1:(kF ts ⟨#[59]⟩ (name ts s.next).2).bad=false:=qR (fun hx=>importsL_st ts f _ _ _ hx h) hb;have b2:(name ts s.next).2.bad=false:=qR (fun hx=>qF (by decide) hx) b1;refine zhh f _ _ _ ?_ h hb;intro k hm;rw [List.mem_append] at hm;rcases hm with hm | hm
   ·exact hk k hm
   ·simp only [jy] at hm;subst hm;exact ⟨face.name_size ts _,(fU ts b2).1,trivial⟩
  ·cases h;exact ⟨ks,rfl,hk⟩
theorem zin:∀ (f:Nat) (ks:List Kid) (s:St) (q:List Tree × St),(∀ k∈ks,k.good/\k.named/\xI k)->zY ts f (ks.map Kid.tree) s=some q->q.2.bad=false->∃ ks':List Kid,q.1=ks'.map Kid.tree/\∀ k∈ks',k.good/\k.named/\xI k
 | 0,ks,s,q,hk,h,hb=>by unfold zY at h;cases h
 | f+1,ks,s,q,hk,h,hb=>by
  unfold zY at h;split at h;·cases h;exact ⟨ks,rfl,hk⟩
  ·obtain ⟨p,hp,h⟩:=jg.1 h;have b1:p.2.bad=false:=qR (fun hx=>declsL_st ts f _ _ _ hx h) hb;obtain ⟨k,hk1,hk2,hk3,hk4,_⟩:=zta ts _ _ _ hp b1;have e:ks.map Kid.tree++[p.1]=(ks++[k]).map Kid.tree:=by rw [List.map_append,hk1];rfl
   rw [e] at h;refine zin f _ _ _ ?_ h hb;intro k' hm;rw [List.mem_append] at hm;rcases hm with hm | hm
   ·exact hk k' hm
   ·simp only [jy] at hm;subst hm;exact ⟨hk2,hk3,hk4⟩
end
theorem zce (x:ByteArray) (h:(kM x).code=0):∃ (m:ByteArray) (ks:List Kid),(kM x).tree=.node 1 m 0 (ks.map Kid.tree)/\m.size<=16/\kK m=true/\(∀ k∈ks,k.good/\k.named/\xI k)/\vC (kM x).tree=true:=by
 unfold kM at h |-
 cases hs:scan x.data.toList with
 | err c p =>
  rw [hs] at h
  exact absurd h (lexs.scan_err hs)
 | ok ts =>
  obtain ⟨p,q,hp,hq,hm⟩:=zed (ts:=ts) (scan_len hs);rw [hs] at h;simp only [hm] at h |-;unfold gB at h |-
  cases hb:q.2.bad with
  | true =>
   rw [jv hb] at h
   simp at h
  | false =>
   rw [ju (by simp [hb])] at h |-
   cases hf:vC (.node 1 (fJ ts) 0 q.1) with
   | false =>
    rw [ju (by simp [hf])] at h
    simp at h
   | true =>
    rw [jv rfl];have b1:p.2.bad=false:=qR (fun hx=>declsL_st ts _ _ _ _ hx hq) hb;have b2:(gC ts).bad=false:=qR (fun hx=>importsL_st ts _ _ _ _ hx hp) b1;have b3:(name ts (kF ts ⟨#[109,111,100,117,108,101]⟩ ⟨0,false⟩)).2.bad=false:=qR (fun hx=>qF (by decide) hx) b2;obtain ⟨ks,e1,hk⟩:=zhh ts _ [] _ _ (fun k hk=>by cases hk) hp b1;rw [e1] at hq;obtain ⟨ks',e2,hk'⟩:=zin ts _ ks _ _ hk hq hb;exact ⟨fJ ts,ks',by show Tree.node 1 _ 0 q.1=_;rw [e2],face.name_size ts _,(fU ts b3).1,hk',hf⟩
end chk
namespace face
structure VarD where
 name:ByteArray
 pub:Bool
 label:Int
 size:Int
structure ProcD where
 name:ByteArray
 pub:Bool
 params:List Int
 writes:Int
 gives:Bool
 given:Int
structure FaceD where
 module:ByteArray
 vars:List VarD
 procs:List ProcD
instance:Inhabited VarD:=⟨⟨default,default,default,default⟩⟩
instance:Inhabited ProcD:=⟨⟨default,default,default,default,default,default⟩⟩
end face
end Go.Proofs.YtaadmdlbkhcfnaaGreatDoor
