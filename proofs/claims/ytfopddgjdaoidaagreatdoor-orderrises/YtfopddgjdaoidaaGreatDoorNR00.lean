/- What the program's judgeNumber and judge answer: contracts. -/
import Derived.WalkLawsBesides
import Derived.BigQuiet
import Derived.Shelf.Strconv.ErrVarParseInt
import Derived.Lib.Bytealg
import Derived.Test.YtfopddgjdaoidaaGreatDoorNRq
set_option linter.unusedVariables false
namespace Go.Proofs.YtfopddgjdaoidaaGreatDoor.lexs
def ltrI (c:Int):Bool:=decide (97≤c∧c≤122)||decide (65≤c∧c≤90)
def digI (c:Int):Bool:=decide (48≤c∧c≤57)
def insI (c:Int):Bool:=ltrI c||digI c||c==95
def ltrB (c:UInt8):Bool:=ltrI (c.toNat:Int)
def digB (c:UInt8):Bool:=digI (c.toNat:Int)
def insB (c:UInt8):Bool:=insI (c.toNat:Int)
def most:List UInt8:=[57,50,50,51,51,55,50,48,51,54,56,53,52,55,55,53,56,48,55]
def numE (l:List UInt8):Int :=
 if l.all digB=false then 2
 else if decide (1<l.length)&&l.headD 0==48 then 2
 else if decide (19<l.length)||(l.length==19&&(!Op.bytesLess l most&&!(l==most))) then 6
 else 0
def ones:List UInt8:=[123,125,40,41,91,93,59,44,46,61,60,43,45,42,47,37,38,124,33]
def signLen (l:List UInt8):Nat :=
 if l.headD 0==61&&(l.drop 1).headD 0==61 then 2 else if ones.contains (l.headD 0) then 1 else 0
def run (p:UInt8→Bool) (l:List UInt8):Nat:=(l.takeWhile p).length
inductive Step where
 | skip (n:Nat)
 | fault (c:Int)
 | tok (k:Int) (n:Nat)
def stepB (c:UInt8) (l:List UInt8):Step :=
 if c==32||c==10 then .skip 1
 else if c==35 then .skip (run (fun b=>b != 10) l)
 else if ltrB c then (if 16<run insB l then .fault 1 else .tok 1 (run insB l))
 else if digB c then (if numE (l.take (run insB l))==0 then .tok 2 (run insB l) else .fault (numE (l.take (run insB l))))
 else if signLen l==0 then .fault 2 else .tok 3 (signLen l)
def stepL (l:List UInt8):Step:=stepB (l.headD 0) l
structure Tok where
 kind:Int
 text:List UInt8
 at_:Nat
inductive Res where
 | ok (l:List Tok)
 | err (c:Int) (at_:Nat)
def scanL:Nat→List UInt8→Nat→List Tok→Res
 | 0,_,_,acc=>.ok acc
 | _+1,[],_,acc=>.ok acc
 | f+1,b :: r,i,acc =>
  match stepL (b :: r) with
  | .skip n=>scanL f ((b :: r).drop n) (i+n) acc
  | .fault c=>.err c i
  | .tok k n=>scanL f ((b :: r).drop n) (i+n) (acc++[⟨k,(b :: r).take n,i⟩])
def scan (l:List UInt8):Res:=if 3000<l.length then .err 1 0 else scanL l.length l 0 []
/-! ### rows of bytes -/
theorem run_le (p:UInt8→Bool) (l:List UInt8):run p l≤l.length:=(List.takeWhile_sublist p).length_le
theorem run_eq (p:UInt8→Bool) (l:List UInt8) (n:Nat) (h1:∀ j (h:j<l.length),j<n→p l[j]=true) (h2:n=l.length∨∃ h:n<l.length,p l[n]=false):run p l=n:=by
 induction l generalizing n with
 | nil =>
  rcases h2 with h | ⟨h,_⟩
  ·simp [run,h]
  ·simp at h
 | cons c r ih =>
  unfold run at ih ⊢
  cases n with
  | zero =>
   rcases h2 with h | ⟨h,hp⟩
   ·simp at h
   ·simp only [List.getElem_cons_zero] at hp
    simp [hp]
  | succ n =>
   have h0:p c=true:=h1 0 (by simp) (by omega)
   rw [List.takeWhile_cons,if_pos h0,List.length_cons,ih n]
   ·intro j hj hn
    exact h1 (j+1) (by simp;omega) (by omega)
   ·rcases h2 with h | ⟨h,hp⟩
    ·left;simpa using h
    ·right;exact ⟨by simpa using h,by simpa using hp⟩
theorem run_pos (p:UInt8→Bool) (c:UInt8) (r:List UInt8) (h:p c=true):0<run p (c :: r):=by
 simp [run,h]
theorem signLen_le (l:List UInt8):signLen l≤l.length:=by
 unfold signLen
 rcases l with _ | ⟨a,_ | ⟨b,r⟩⟩
 ·simp [ones]
 ·simp;split<;>simp
 ·split<;>(try split)<;>simp
theorem ltrB_insB {c:UInt8} (h:ltrB c=true):insB c=true:=by unfold ltrB at h;unfold insB insI;simp [h]
theorem digB_insB {c:UInt8} (h:digB c=true):insB c=true:=by unfold digB at h;unfold insB insI;simp [h]
theorem stepL_skip {b:UInt8} {r:List UInt8} {n:Nat} (h:stepL (b :: r)=.skip n):0<n∧n≤r.length+1:=by
 rw [stepL,List.headD_cons,stepB] at h
 by_cases h1:(b==32||b==10)=true
 ·rw [if_pos h1] at h;injection h with h;omega
 rw [if_neg h1] at h
 by_cases h2:(b==35)=true
 ·rw [if_pos h2] at h
  injection h with h
  have hb:b=35:=by simpa using h2
  have:=run_pos (fun b=>b != 10) b r (by rw [hb];decide)
  have h3:=run_le (fun b=>b != 10) (b :: r)
  simp only [List.length_cons] at h3
  omega
 rw [if_neg h2] at h
 split at h
 ·split at h<;>simp at h
 ·split at h
  ·split at h<;>simp at h
  ·split at h<;>simp at h
theorem stepL_tok {b:UInt8} {r:List UInt8} {k:Int} {n:Nat} (h:stepL (b :: r)=.tok k n):0<n∧n≤r.length+1:=by
 rw [stepL,List.headD_cons,stepB] at h
 by_cases h1:(b==32||b==10)=true
 ·rw [if_pos h1] at h;simp at h
 rw [if_neg h1] at h
 by_cases h2:(b==35)=true
 ·rw [if_pos h2] at h;simp at h
 rw [if_neg h2] at h
 have hr:=run_le insB (b :: r)
 simp only [List.length_cons] at hr
 split at h
 ·rename_i hl
  have:=run_pos insB b r (ltrB_insB hl)
  split at h
  ·simp at h
  ·injection h with _ h;omega
 ·split at h
  ·rename_i hd
   have:=run_pos insB b r (digB_insB hd)
   split at h
   ·injection h with _ h;omega
   ·simp at h
  ·split at h
   ·simp at h
   ·rename_i hs
    injection h with _ h
    have h3:=signLen_le (b :: r)
    simp only [List.length_cons] at h3
    have:signLen (b :: r)≠0:=by simpa using hs
    omega
/-! ### one round of the scan,at whatever fuel is enough -/
theorem scanL_end (f:Nat) (i:Nat) (acc:List Tok):scanL f [] i acc=.ok acc:=by cases f<;>rfl
theorem scanL_skip {f:Nat} {b:UInt8} {r:List UInt8} {i n:Nat} {acc:List Tok} (h:stepL (b :: r)=.skip n):scanL (f+1) (b :: r) i acc=scanL f ((b :: r).drop n) (i+n) acc:=by
 rw [scanL,h]
theorem scanL_fault {f:Nat} {b:UInt8} {r:List UInt8} {i:Nat} {c:Int} {acc:List Tok} (h:stepL (b :: r)=.fault c):scanL (f+1) (b :: r) i acc=.err c i:=by
 rw [scanL,h]
theorem scanL_tok {f:Nat} {b:UInt8} {r:List UInt8} {i n:Nat} {k:Int} {acc:List Tok} (h:stepL (b :: r)=.tok k n):scanL (f+1) (b :: r) i acc=scanL f ((b :: r).drop n) (i+n) (acc++[⟨k,(b :: r).take n,i⟩]):=by
 rw [scanL,h]
def val:List UInt8→Nat
 | []=>0
 | c :: r=>(c.toNat - 48)*10 ^ r.length+val r
theorem dig_bounds {c:UInt8} (h:digB c=true):48≤c.toNat∧c.toNat≤57:=by
 unfold digB digI at h
 have:=of_decide_eq_true h
 omega
theorem val_lt (l:List UInt8) (h:l.all digB=true):val l<10 ^ l.length:=by
 induction l with
 | nil=>simp [val]
 | cons c r ih =>
  rw [List.all_cons,Bool.and_eq_true] at h
  have hb:=dig_bounds h.1
  have:=ih h.2
  rw [val,List.length_cons,Nat.pow_succ]
  have h2:(c.toNat - 48)*10 ^ r.length≤9*10 ^ r.length:=Nat.mul_le_mul_right _ (by omega)
  omega
theorem parseM (l:List UInt8) (h:l.all digB=true) (acc:Nat) (ha:acc≤18446744073709551615) :
  Lib.parseUintM (2 ^ 64 - 1) acc l=if acc*10 ^ l.length+val l≤18446744073709551615 then .ok (acc*10 ^ l.length+val l) else .range:=by
 induction l generalizing acc with
 | nil=>simp [Lib.parseUintM,val,ha]
 | cons c r ih =>
  rw [List.all_cons,Bool.and_eq_true] at h
  have hb:=dig_bounds h.1
  have hT:1≤10 ^ r.length:=Nat.pow_pos (by omega)
  have key:acc*10 ^ (c :: r).length+val (c :: r)=(acc*10+(c.toNat - 48))*10 ^ r.length+val r:=by
   rw [val,List.length_cons,Nat.pow_succ,Nat.add_mul,Nat.mul_comm (10 ^ r.length) 10,Nat.mul_assoc,Nat.add_assoc]
  have big:(acc*10+(c.toNat - 48))≤(acc*10+(c.toNat - 48))*10 ^ r.length:=Nat.le_mul_of_pos_right _ hT
  rw [key,Lib.parseUintM,if_pos hb]
  by_cases h1:1844674407370955162≤acc
  ·rw [if_pos h1,if_neg (by omega)]
  ·rw [if_neg h1]
   by_cases h2:2 ^ 64 - 1<acc*10+(c.toNat - 48)
   ·rw [if_pos h2,if_neg (by omega)]
   ·rw [if_neg h2,ih h.2 _ (by omega)]
theorem parse_all (l:List UInt8) (h:l.all digB=true) (h0:l≠[]):Lib.parseIntB 64 l=if val l<9223372036854775808 then .ok (val l:Int) else .range:=by
 obtain ⟨c,r,rfl⟩:=List.exists_cons_of_ne_nil h0
 have hb:=dig_bounds (by rw [List.all_cons,Bool.and_eq_true] at h;exact h.1:digB c=true)
 have e:=parseM (c :: r) h 0 (by omega)
 rw [Nat.zero_mul,Nat.zero_add] at e
 have n45:¬ c.toNat=45:=by omega
 have n43:¬ (c.toNat=43∨c.toNat=45):=by omega
 unfold Lib.parseIntB
 simp only [n43,if_false]
 rw [Lib.parseUintB,if_neg h0,e]
 by_cases hm:val (c :: r)≤18446744073709551615
 ·rw [if_pos hm]
  simp only [n45,not_false_eq_true,true_and,false_and,if_false]
  by_cases hv:val (c :: r)<9223372036854775808
  ·rw [if_pos hv,if_neg (by omega)]
  ·rw [if_neg hv,if_pos (by omega)]
 ·rw [if_neg hm,if_neg (by omega)]
theorem less_val (a b:List UInt8) (hl:a.length=b.length) (ha:a.all digB=true) (hb:b.all digB=true):Op.bytesLess a b=decide (val a<val b)∧(a==b)=decide (val a=val b):=by
 induction a generalizing b with
 | nil =>
  have:b=[]:=List.eq_nil_of_length_eq_zero (by simpa using hl.symm)
  subst this
  simp [Op.bytesLess,val]
 | cons x a ih =>
  obtain ⟨y,b,rfl⟩:∃ y r,b=y :: r:=List.exists_cons_of_ne_nil (by intro e;rw [e] at hl;simp at hl)
  have hl':a.length=b.length:=by simpa using hl
  rw [List.all_cons,Bool.and_eq_true] at ha hb
  have hx:=dig_bounds ha.1
  have hy:=dig_bounds hb.1
  have va:=val_lt a ha.2
  have vb:=val_lt b hb.2
  obtain ⟨i1,i2⟩:=ih b hl' ha.2 hb.2
  rw [Op.bytesLess,i1,List.cons_beq_cons,i2,val,val,hl']
  rw [hl'] at va
  rcases Nat.lt_trichotomy x.toNat y.toNat with h | h | h
  ·have h1:x<y:=h
   have h2:¬ x=y:=by intro e;rw [e] at h;omega
   have hm:(x.toNat - 48+1)*10 ^ b.length≤(y.toNat - 48)*10 ^ b.length:=Nat.mul_le_mul_right _ (by omega)
   rw [Nat.add_mul,Nat.one_mul] at hm
   have hA:(x.toNat - 48)*10 ^ b.length+val a<(y.toNat - 48)*10 ^ b.length+val b:=by omega
   have h3:(x==y)=false:=by simp [h2]
   rw [decide_eq_true h1,decide_eq_true hA,decide_eq_false (Nat.ne_of_lt hA),h3]
   exact ⟨rfl,rfl⟩
  ·have h1:x=y:=UInt8.toNat_inj.1 h
   subst h1
   simp
  ·have h1:¬ x<y:=by intro e;have:x.toNat<y.toNat:=e;omega
   have h2:¬ x=y:=by intro e;rw [e] at h;omega
   have hm:(y.toNat - 48+1)*10 ^ b.length≤(x.toNat - 48)*10 ^ b.length:=Nat.mul_le_mul_right _ (by omega)
   rw [Nat.add_mul,Nat.one_mul] at hm
   have hA:(y.toNat - 48)*10 ^ b.length+val b<(x.toNat - 48)*10 ^ b.length+val a:=by omega
   have h3:(x==y)=false:=by simp [h2]
   rw [decide_eq_false h1,decide_eq_false (Nat.lt_asymm hA),decide_eq_false (Nat.ne_of_gt hA),h3]
   exact ⟨rfl,rfl⟩
theorem numE_val (l:List UInt8) (h:l.all digB=true) (h0:l≠[]) (hz:(decide (1<l.length)&&l.headD 0==48)=false):numE l=if val l<9223372036854775808 then 0 else 6:=by
 have hv:=val_lt l h
 rw [numE,if_neg (by simp [h]),if_neg (by rw [hz];decide)]
 rcases Nat.lt_trichotomy l.length 19 with hl | hl | hl
 ·have h1:10 ^ l.length≤10 ^ 18:=Nat.pow_le_pow_right (by omega) (by omega)
  have h2:(10:Nat) ^ 18=1000000000000000000:=by decide
  have a1:¬ 19<l.length:=by omega
  have a2:¬ l.length=19:=by omega
  rw [if_pos (show val l<9223372036854775808 by omega),if_neg (by simp [a1,a2])]
 ·have hm:most.length=19:=by decide
  have vm:val most=9223372036854775807:=by decide
  obtain ⟨e1,e2⟩:=less_val l most (by rw [hl,hm]) h (by decide)
  rw [e1,e2,vm,hl]
  by_cases hlt:val l<9223372036854775808
  ·rw [if_pos hlt,if_neg (by simp;omega)]
  ·rw [if_neg hlt,if_pos (by simp;omega)]
 ·obtain ⟨c,r,rfl⟩:=List.exists_cons_of_ne_nil h0
  have hc:=dig_bounds (by rw [List.all_cons,Bool.and_eq_true] at h;exact h.1:digB c=true)
  have hne:c.toNat≠48:=by
   intro e
   have:c=48:=UInt8.toNat_inj.1 e
   subst this
   have:1<(48 :: r:List UInt8).length:=by omega
   rw [decide_eq_true this] at hz
   simp at hz
  have h2:(10:Nat) ^ 19=10000000000000000000:=by decide
  have h1:10 ^ 19≤10 ^ r.length:=Nat.pow_le_pow_right (by omega) (by simp at hl;omega)
  have h3:1*10 ^ r.length≤(c.toNat - 48)*10 ^ r.length:=Nat.mul_le_mul_right _ (by omega)
  have hb:¬ val (c :: r)<9223372036854775808:=by rw [val];omega
  rw [if_neg hb,if_pos (by simp only [hl,decide_true,Bool.true_or])]
theorem len_L (s:ByteArray):s.data.toList.length=s.size:=by simp
theorem byte_is (b c:UInt8) (n:Int) (hn:n=(c.toNat:Int)):((b.toNat:Int)==n)=(b==c):=by
 subst hn
 rw [Bool.eq_iff_iff]
 simp only [beq_iff_eq]
 constructor
 ·intro h;exact UInt8.toNat_inj.1 (by omega)
 ·intro h;rw [h]
theorem drop_cons (s:ByteArray) (p:Nat) (h:p<s.size):s.data.toList.drop p=s[p] :: s.data.toList.drop (p+1):=by
 rw [List.drop_eq_getElem_cons (by rw [len_L];exact h)]
 rfl
theorem run_at (P:UInt8→Bool) (s:ByteArray) (p n:Nat) (hp:p+n≤s.size) (h1:∀ j (h:j<s.size),p≤j→j<p+n→P s[j]=true)
  (h2:p+n=s.size∨∃ h:p+n<s.size,P s[p+n]=false):run P (s.data.toList.drop p)=n:=by
 apply run_eq
 ·intro j hj hn
  rw [List.length_drop,len_L] at hj
  rw [List.getElem_drop]
  exact h1 (p+j) (by omega) (by omega) (by omega)
 ·rcases h2 with h | ⟨h,hP⟩
  ·left;rw [List.length_drop,len_L];omega
  ·right
   refine ⟨by rw [List.length_drop,len_L];omega,?_⟩
   rw [List.getElem_drop]
   exact hP
theorem extract_is (s:ByteArray) (p n:Nat):s.extract p (p+n)=⟨((s.data.toList.drop p).take n).toArray⟩:=by
 apply WideShapes.bytes_inj
 rw [Lib.extract_data]
 simp
/-! the ways of a step,c the byte at hand -/
section
variable {s:ByteArray} {p:Nat} (hp:p<s.size)
include hp
theorem st_blank (h:((s[p].toNat:Int)==32)=true∨((s[p].toNat:Int)==10)=true):stepL (s.data.toList.drop p)=.skip 1:=by
 rw [byte_is _ 32 32 rfl,byte_is _ 10 10 rfl] at h
 rw [drop_cons s p hp,stepL,List.headD_cons,stepB,if_pos]
 rcases h with h | h<;>simp [h]
theorem st_note (h1:((s[p].toNat:Int)==32)=false) (h2:((s[p].toNat:Int)==10)=false) (h3:((s[p].toNat:Int)==35)=true) {n:Nat} (hr:run (fun b=>b != 10) (s.data.toList.drop p)=n) :
  stepL (s.data.toList.drop p)=.skip n:=by
 rw [byte_is _ 32 32 rfl] at h1
 rw [byte_is _ 10 10 rfl] at h2
 rw [byte_is _ 35 35 rfl] at h3
 rw [← hr,drop_cons s p hp,stepL,List.headD_cons,stepB,if_neg (by simp [h1,h2]),if_pos h3]
theorem st_base (h1:((s[p].toNat:Int)==32)=false) (h2:((s[p].toNat:Int)==10)=false) (h3:((s[p].toNat:Int)==35)=false) :
  stepL (s.data.toList.drop p)=(if ltrI (s[p].toNat:Int) then (if 16<run insB (s.data.toList.drop p) then .fault 1 else .tok 1 (run insB (s.data.toList.drop p)))
   else if digI (s[p].toNat:Int) then (if numE ((s.data.toList.drop p).take (run insB (s.data.toList.drop p)))==0 then .tok 2 (run insB (s.data.toList.drop p)) else .fault (numE ((s.data.toList.drop p).take (run insB (s.data.toList.drop p)))))
   else if signLen (s.data.toList.drop p)==0 then .fault 2 else .tok 3 (signLen (s.data.toList.drop p))):=by
 rw [byte_is _ 32 32 rfl] at h1
 rw [byte_is _ 10 10 rfl] at h2
 rw [byte_is _ 35 35 rfl] at h3
 rw [stepL]
 have e:(s.data.toList.drop p).headD 0=s[p]:=by rw [drop_cons s p hp,List.headD_cons]
 rw [e,stepB,if_neg (by simp [h1,h2]),if_neg (by simp [h3])]
 rfl
theorem st_word (h1:((s[p].toNat:Int)==32)=false) (h2:((s[p].toNat:Int)==10)=false) (h3:((s[p].toNat:Int)==35)=false) (hl:ltrI (s[p].toNat:Int)=true) {n:Nat} (hr:run insB (s.data.toList.drop p)=n) (hn:n≤16) :
  stepL (s.data.toList.drop p)=.tok 1 n:=by
 rw [st_base hp h1 h2 h3,if_pos hl,hr,if_neg (by omega)]
theorem st_long (h1:((s[p].toNat:Int)==32)=false) (h2:((s[p].toNat:Int)==10)=false) (h3:((s[p].toNat:Int)==35)=false) (hl:ltrI (s[p].toNat:Int)=true) {n:Nat} (hr:run insB (s.data.toList.drop p)=n) (hn:16<n) :
  stepL (s.data.toList.drop p)=.fault 1:=by
 rw [st_base hp h1 h2 h3,if_pos hl,hr,if_pos hn]
theorem st_num (h1:((s[p].toNat:Int)==32)=false) (h2:((s[p].toNat:Int)==10)=false) (h3:((s[p].toNat:Int)==35)=false) (hl:ltrI (s[p].toNat:Int)=false) (hd:digI (s[p].toNat:Int)=true) {n:Nat} (hr:run insB (s.data.toList.drop p)=n)
  (he:(numE ((s.data.toList.drop p).take n)==0)=true):stepL (s.data.toList.drop p)=.tok 2 n:=by
 rw [st_base hp h1 h2 h3,if_neg (by simp [hl]),if_pos hd,hr,if_pos he]
theorem st_bad (h1:((s[p].toNat:Int)==32)=false) (h2:((s[p].toNat:Int)==10)=false) (h3:((s[p].toNat:Int)==35)=false) (hl:ltrI (s[p].toNat:Int)=false) (hd:digI (s[p].toNat:Int)=true) {n:Nat} (hr:run insB (s.data.toList.drop p)=n)
  (he:(numE ((s.data.toList.drop p).take n)==0)=false):stepL (s.data.toList.drop p)=.fault (numE ((s.data.toList.drop p).take n)):=by
 rw [st_base hp h1 h2 h3,if_neg (by simp [hl]),if_pos hd,hr,if_neg (by simp [he])]
theorem st_sign (h1:((s[p].toNat:Int)==32)=false) (h2:((s[p].toNat:Int)==10)=false) (h3:((s[p].toNat:Int)==35)=false) (hl:ltrI (s[p].toNat:Int)=false) (hd:digI (s[p].toNat:Int)=false) {n:Nat} (hn:signLen (s.data.toList.drop p)=n) (h0:n≠0) :
  stepL (s.data.toList.drop p)=.tok 3 n:=by
 rw [st_base hp h1 h2 h3,if_neg (by simp [hl]),if_neg (by simp [hd]),hn,if_neg (by simpa using h0)]
theorem st_none (h1:((s[p].toNat:Int)==32)=false) (h2:((s[p].toNat:Int)==10)=false) (h3:((s[p].toNat:Int)==35)=false) (hl:ltrI (s[p].toNat:Int)=false) (hd:digI (s[p].toNat:Int)=false) (hn:signLen (s.data.toList.drop p)=0) :
  stepL (s.data.toList.drop p)=.fault 2:=by
 rw [st_base hp h1 h2 h3,if_neg (by simp [hl]),if_neg (by simp [hd]),hn,if_pos (by rfl)]
/-! the scan goes on -/
theorem go_skip {n f:Nat} {acc:List Tok} {R:Res} (h:stepL (s.data.toList.drop p)=.skip n) (hR:scanL (f+1) (s.data.toList.drop p) p acc=R):scanL f (s.data.toList.drop (p+n)) (p+n) acc=R∧0<n∧p+n≤s.size:=by
 have hl:(s.data.toList.drop (p+1)).length=s.size - (p+1):=by rw [List.length_drop,len_L]
 have e:=drop_cons s p hp
 rw [e] at h hR
 have hn:=stepL_skip h
 rw [scanL_skip h,← e,List.drop_drop] at hR
 refine ⟨hR,hn.1,by omega⟩
theorem go_tok {n f:Nat} {k:Int} {acc:List Tok} {R:Res} (h:stepL (s.data.toList.drop p)=.tok k n) (hR:scanL (f+1) (s.data.toList.drop p) p acc=R) :
  scanL f (s.data.toList.drop (p+n)) (p+n) (acc++[⟨k,(s.data.toList.drop p).take n,p⟩])=R∧0<n∧p+n≤s.size:=by
 have hl:(s.data.toList.drop (p+1)).length=s.size - (p+1):=by rw [List.length_drop,len_L]
 have e:=drop_cons s p hp
 rw [e] at h hR
 have hn:=stepL_tok h
 rw [scanL_tok h,← e,List.drop_drop] at hR
 refine ⟨hR,hn.1,by omega⟩
theorem go_fault {f:Nat} {c:Int} {acc:List Tok} {R:Res} (h:stepL (s.data.toList.drop p)=.fault c) (hR:scanL (f+1) (s.data.toList.drop p) p acc=R):R=.err c p:=by
 rw [drop_cons s p hp] at h hR
 rw [scanL_fault h] at hR
 exact hR.symm
end
theorem go_end {s:ByteArray} {p f:Nat} {acc:List Tok} {R:Res} (hp:s.size≤p) (hR:scanL f (s.data.toList.drop p) p acc=R):R=.ok acc:=by
 rw [List.drop_eq_nil_of_le (by rw [len_L];exact hp),scanL_end] at hR
 exact hR.symm
/-! what lies in memory -/
def cellsOf (l:List Tok):List Value:=l.flatMap fun t=>[.int .i64 t.kind,.string ⟨t.text.toArray⟩,.int .i64 (t.at_:Int)]
theorem cellsOf_snoc (l:List Tok) (t:Tok):cellsOf (l++[t])=cellsOf l++[.int .i64 t.kind,.string ⟨t.text.toArray⟩,.int .i64 (t.at_:Int)]:=by simp [cellsOf]
theorem cellsOf_length (l:List Tok):(cellsOf l).length=l.length*3:=by
 induction l with
 | nil=>rfl
 | cons t l ih=>simp only [cellsOf,List.flatMap_cons,List.length_append,List.length_cons] at ih ⊢;simp only [List.length_nil];omega
def Res.toks:Res→List Tok
 | .ok l=>l
 | .err _ _=>[]
def Res.code:Res→Int
 | .ok _=>0
 | .err c _=>c
def Res.place:Res→Int
 | .ok _=>0
 | .err _ p=>(p:Int)
end Go.Proofs.YtfopddgjdaoidaaGreatDoor.lexs
namespace Go.Proofs.YtfopddgjdaoidaaGreatDoor.lexs
open Go.RowKit
theorem ret_bool {x y:Bool} (h:x=y):Ending.returned (.bool x)=.returned (.bool y):=by rw [h]
theorem ret_i64 {x y:Int} (h:x=y):Ending.returned (.int .i64 x)=.returned (.int .i64 y):=by rw [h]
/-! ### numeral's ways -/
theorem getL (s:ByteArray) (k:Nat) (h:k<s.size):s.data.toList[k]'(by simpa using h)=s[k]:=rfl
theorem lenL (s:ByteArray):s.data.toList.length=s.size:=by simp
theorem num_bad (s:ByteArray) (k:Nat) (h:k<s.size) (hd:digI (s[k].toNat:Int)=false):2=numE s.data.toList:=by
 have:s.data.toList.all digB=false:=by
  rw [List.all_eq_false]
  exact ⟨s[k],by rw [← getL s k h];exact List.getElem_mem _,by unfold digB;simp [hd]⟩
 unfold numE
 rw [if_pos this]
theorem headL (s:ByteArray) (h:0<s.size):s.data.toList.headD 0=s[0]:=by
 rw [← getL s 0 h]
 have:s.data.toList≠[]:=by intro e;have:=lenL s;rw [e] at this;simp at this;omega
 obtain ⟨a,r,e⟩:=List.exists_cons_of_ne_nil this
 simp only [e,List.headD_cons,List.getElem_cons_zero]
theorem slice_is (t:TypeId) (ht:Tryz.prog.underlying t=some .string) (s:ByteArray) (i n:Nat) (h:i+n≤s.size) (w:World) :
  (Instr.slice t (.string s) (some (.int .i64 (i:Int))) (some (.int .i64 ((i:Int)+(n:Int)))) none).run Tryz.prog w=.ok (.string (s.extract i (i+n))) w:=by
 have:=run_slice_string (P:=Tryz.prog) (w:=w) t s .i64 .i64 (i:Int) ((i:Int)+(n:Int)) ht (by omega) (by omega) (by omega)
 rw [this]
 simp only [Int.toNat_natCast]
 congr 4
theorem tokInfo:(Tryz.prog.info? 99).map (fun i=>(i.zero,i.size,i.bytes))=some (some (.agg #[.int .i64 0,.string ⟨#[]⟩,.int .i64 0]),3,32):=by kernel_rfl
theorem boxes {w wr:World} {x y:Value} {T:TypeId} (h:Below (w.heap.size+1) (w.alloc (.cells #[x,y] T)) wr) :
  wr.cell? ⟨w.heap.size,0,none⟩=some x∧wr.cell? ⟨w.heap.size,1,none⟩=some y∧wr.frozen? ⟨w.heap.size,0,none⟩=false∧wr.frozen? ⟨w.heap.size,1,none⟩=false∧w.heap.size+1≤wr.heap.size:=by
 refine ⟨?_,?_,?_,?_,?_⟩
 ·rw [h.cell (p:=⟨w.heap.size,0,none⟩) (by simp)];simp
 ·rw [h.cell (p:=⟨w.heap.size,1,none⟩) (by simp)];simp
 ·rw [h.frozen (p:=⟨w.heap.size,0,none⟩) (by simp)];simp
 ·rw [h.frozen (p:=⟨w.heap.size,1,none⟩) (by simp)];simp
 ·have:=h.size;simpa using this
theorem cell_three_new (w:World) (a b c:Value) (t:TypeId) (g:Nat) (hg:g=w.heap.size):∀ j u,[a,b,c][j]?=some u→(w.alloc (.cells #[a,b,c] t)).cell? ((⟨g,0,none⟩:Addr).add j)=some u:=by
 subst hg
 intro j u hj
 match j,hj with
 | 0,hj=>simp at hj;subst hj;simp [Addr.add]
 | 1,hj=>simp at hj;subst hj;simp [Addr.add]
 | 2,hj=>simp at hj;subst hj;simp [Addr.add]
theorem one_cells (a b:Int) (x:ByteArray):∀ u∈[Value.int .i64 a,.string x,.int .i64 b],u.oneCell'=true:=by
 intro u hu
 simp at hu
 rcases hu with rfl | rfl | rfl<;>rfl
theorem rel_tok {B:Nat} {W0 W w1:World} {e:TypeId} {k n:Nat} {v:Value} {xs:List Value} (hbw:Below (B+1) W0 W) (hB:B+1≤W.heap.size) (hown:W.ownsRow (B+1) e k v n xs) (hg:W.grownBy w1 v.ownBlock):Below (B+1) W0 w1 :=
 hbw.grown hg hB fun j hj=>(hown.lt _ hj).1
theorem below_old {w wr:World} {o:Obj} (h:Below (w.heap.size+1) (w.alloc o) wr):Below w.heap.size w wr :=
 (bal o).trans (h.mono (by omega))
theorem ownsRow_le {w:World} {base base' size n:Nat} {e:TypeId} {v:Value} {xs:List Value} (h:w.ownsRow base e size v n xs) (hb:base'≤base):w.ownsRow base' e size v n xs:=by
 obtain ⟨h1,h2⟩:=h
 refine ⟨h1,?_⟩
 rcases h2 with h2 | ⟨g,cap,cur,hv,hg,hh,r⟩
 ·exact Or.inl h2
 ·exact Or.inr ⟨g,cap,cur,hv,by omega,hh,r⟩
theorem own_tok {w:World} {B:Nat} {e:TypeId} {v:Value} {acc:List Tok} {s:ByteArray} {p n:Nat} {k:Int}
  (h:w.ownsRow B e 3 v (acc.length+1) (cellsOf acc++[.int .i64 k,.string (s.extract p (p+n)),.int .i64 (p:Int)])) :
  w.ownsRow B e 3 v (acc++[(⟨k,(s.data.toList.drop p).take n,p⟩:Tok)]).length (cellsOf (acc++[⟨k,(s.data.toList.drop p).take n,p⟩])):=by
 rw [cellsOf_snoc,← extract_is,List.length_append]
 exact h
theorem dig_pos {s:ByteArray} {p n:Nat} (hp:p<s.size) (hd:digI (s[p].toNat:Int)=true) (hr:run insB (s.data.toList.drop p)=n):0<n:=by
 rw [← hr,drop_cons s p hp]
 exact run_pos _ _ _ (digB_insB hd)
theorem own_below {B:Nat} {e:TypeId} {k:Nat} {v:Value} {n:Nat} {xs:List Value} {w w':World} (h:w.ownsRow B e k v n xs) (hb:Below w.heap.size w w'):w'.ownsRow B e k v n xs :=
 h.kept (row:=none) ⟨hb.os,hb.tape,hb.output,hb.size,fun j hj _=>hb.block j hj⟩ (by cases hv:v.ownBlock<;>simp)
theorem oletter (c:Int) (w:World) :
  Calls Tryz.prog 100 #[.int .u8 c] w fun e w'=>e=.returned (.bool (ltrI c))∧w'=w:=by
 go_enter Tryz.func100,Tryz.ntmps100
 go_wp2
 all_goals
  go_ret
  exact ⟨ret_bool (by rw [Bool.eq_iff_iff];simp [ltrI]<;>omega),rfl⟩
theorem odigit (c:Int) (w:World) :
  Calls Tryz.prog 101 #[.int .u8 c] w fun e w'=>e=.returned (.bool (digI c))∧w'=w:=by
 go_enter Tryz.func101,Tryz.ntmps101
 go_wp2
 all_goals
  go_ret
  exact ⟨ret_bool (by rw [Bool.eq_iff_iff];simp [digI]<;>omega),rfl⟩
theorem oblank (c:Int) (w:World) :
  Calls Tryz.prog 98 #[.int .u8 c] w fun e w'=>e=.returned (.bool (c==32||c==10))∧w'=w:=by
 go_enter Tryz.func98,Tryz.ntmps98
 go_wp2
 all_goals
  go_ret
  exact ⟨ret_bool (by first | rfl | (rw [Bool.eq_iff_iff];simp<;>omega) | (simp_all)),rfl⟩
theorem onoted (c:Int) (w:World) :
  Calls Tryz.prog 99 #[.int .u8 c] w fun e w'=>e=.returned (.bool (c != 10))∧w'=w:=by
 go_enter Tryz.func99,Tryz.ntmps99
 go_wp2
 all_goals
  go_ret
  exact ⟨ret_bool (by first | rfl | (rw [Bool.eq_iff_iff];simp<;>omega) | (simp_all)),rfl⟩
theorem obehind1 (c:Int) (w:World) :
  Calls Tryz.prog 102 #[.int .u8 c] w fun e w'=>e=.returned (.bool (insI c))∧w'=w:=by
 cases h1:ltrI c<;>cases h2:digI c
 all_goals
  go_enter Tryz.func102,Tryz.ntmps102
  go_wp2_with (first | (go_at_call 100;refine (oletter _ _).mono ?_;rintro e w' ⟨rfl,rfl⟩) | (go_at_call 101;refine (odigit _ _).mono ?_;rintro e w' ⟨rfl,rfl⟩))
  go_ret
  exact ⟨ret_bool (by unfold insI;rw [h1,h2];simp),rfl⟩
structure Stops (P:UInt8→Bool) (s:ByteArray) (i j:Nat):Prop where
 le:i≤j
 top:j≤s.size
 all:∀ k (h:k<s.size),i≤k→k<j→P s[k]=true
 stop:j=s.size∨∃ h:j<s.size,P s[j]=false
theorem Stops.run {P:UInt8→Bool} {s:ByteArray} {i j:Nat} (h:Stops P s i j):run P (s.data.toList.drop i)=j - i:=by
 have e:i+(j - i)=j:=by have:=h.le;omega
 exact run_at P s i (j - i) (by have:=h.top;omega) (fun k hk h1 h2=>h.all k hk h1 (by omega)) (by simp only [e];exact h.stop)
set_option maxRecDepth 100000 in
theorem reach_digit (s:ByteArray) (i:Nat) (hs:s.size≤3000) (hi:i≤s.size) (w:World) :
  Calls Tryz.prog 56 #[.string s,.int .i64 i,.func (.func 101) #[] #[]] w fun e w'=>∃ j:Nat,e=.returned (.int .i64 j)∧Stops digB s i j∧w'=w:=by
 go_enter Tryz.func56,Tryz.ntmps56
 go_wp2
 go_loop [1] (fun t=>∃ j:Nat,i≤j∧j≤s.size∧t=.int .i64 j∧Hid (∀ k (h:k<s.size),i≤k→k<j→digB s[k]=true)) (fun t=>s.size - (intOf t).toNat)
 case atStart=>exact ⟨i,by omega,hi,rfl,fun k _ h1 h2=>by omega⟩
 case round =>
  obtain ⟨j,hij,hjs,rfl,HN⟩:=hrel
  by_cases hq:j<s.size
  ·cases hb:digI (s[j].toNat:Int)
   ·go_wp2_with (go_at_call 101;refine (odigit _ _).mono ?_;rintro e w' ⟨rfl,hw⟩;obtain rfl:=hw.symm)
    go_ret
    exact ⟨j,rfl,⟨hij,hjs,HN.out,.inr ⟨hq,by exact hb⟩⟩,rfl⟩
   ·go_wp2_with (go_at_call 101;refine (odigit _ _).mono ?_;rintro e w' ⟨rfl,hw⟩;obtain rfl:=hw.symm)
    go_round
    case rel=>exact ⟨j+1,by omega,by omega,by go_num,fun k h h1 h2=>by
     rcases Nat.lt_or_ge k j with h3 | h3
     ·exact HN.out k h h1 h3
     ·have:k=j:=by omega
      subst this
      exact hb⟩
    case measure=>simp [intOf];omega
  ·go_wp2_with (go_at_call 101;refine (odigit _ _).mono ?_;rintro e w' ⟨rfl,hw⟩;obtain rfl:=hw.symm)
   go_ret
   exact ⟨j,rfl,⟨hij,hjs,HN.out,.inl (by omega)⟩,rfl⟩
set_option maxRecDepth 100000 in
theorem reach_inside (s:ByteArray) (i:Nat) (hs:s.size≤3000) (hi:i≤s.size) (w:World) :
  Calls Tryz.prog 56 #[.string s,.int .i64 i,.func (.func 102) #[] #[]] w fun e w'=>∃ j:Nat,e=.returned (.int .i64 j)∧Stops insB s i j∧w'=w:=by
 go_enter Tryz.func56,Tryz.ntmps56
 go_wp2
 go_loop [1] (fun t=>∃ j:Nat,i≤j∧j≤s.size∧t=.int .i64 j∧Hid (∀ k (h:k<s.size),i≤k→k<j→insB s[k]=true)) (fun t=>s.size - (intOf t).toNat)
 case atStart=>exact ⟨i,by omega,hi,rfl,fun k _ h1 h2=>by omega⟩
 case round =>
  obtain ⟨j,hij,hjs,rfl,HN⟩:=hrel
  by_cases hq:j<s.size
  ·cases hb:insI (s[j].toNat:Int)
   ·go_wp2_with (go_at_call 102;refine (obehind1 _ _).mono ?_;rintro e w' ⟨rfl,hw⟩;obtain rfl:=hw.symm)
    go_ret
    exact ⟨j,rfl,⟨hij,hjs,HN.out,.inr ⟨hq,by exact hb⟩⟩,rfl⟩
   ·go_wp2_with (go_at_call 102;refine (obehind1 _ _).mono ?_;rintro e w' ⟨rfl,hw⟩;obtain rfl:=hw.symm)
    go_round
    case rel=>exact ⟨j+1,by omega,by omega,by go_num,fun k h h1 h2=>by
     rcases Nat.lt_or_ge k j with h3 | h3
     ·exact HN.out k h h1 h3
     ·have:k=j:=by omega
      subst this
      exact hb⟩
    case measure=>simp [intOf];omega
  ·go_wp2_with (go_at_call 102;refine (obehind1 _ _).mono ?_;rintro e w' ⟨rfl,hw⟩;obtain rfl:=hw.symm)
   go_ret
   exact ⟨j,rfl,⟨hij,hjs,HN.out,.inl (by omega)⟩,rfl⟩
theorem blank_is (b:UInt8):((b.toNat:Int)==32||(b.toNat:Int)==10)=(b==32||b==10):=by rw [byte_is _ 32 32 rfl,byte_is _ 10 10 rfl]
theorem noted_is (b:UInt8):((b.toNat:Int) != 10)=(b != 10):=by rw [bne,byte_is _ 10 10 rfl];rfl
set_option maxRecDepth 100000 in
theorem reach_blank (s:ByteArray) (i:Nat) (hs:s.size≤3000) (hi:i≤s.size) (w:World) :
  Calls Tryz.prog 56 #[.string s,.int .i64 i,.func (.func 98) #[] #[]] w fun e w'=>∃ j:Nat,e=.returned (.int .i64 j)∧Stops (fun b=>b==32||b==10) s i j∧w'=w:=by
 go_enter Tryz.func56,Tryz.ntmps56
 go_wp2
 go_loop [1] (fun t=>∃ j:Nat,i≤j∧j≤s.size∧t=.int .i64 j∧Hid (∀ k (h:k<s.size),i≤k→k<j→(fun b=>b==32||b==10) s[k]=true)) (fun t=>s.size - (intOf t).toNat)
 case atStart=>exact ⟨i,by omega,hi,rfl,fun k _ h1 h2=>by omega⟩
 case round =>
  obtain ⟨j,hij,hjs,rfl,HN⟩:=hrel
  by_cases hq:j<s.size
  ·cases hb:((s[j].toNat:Int)==32||(s[j].toNat:Int)==10)
   ·go_wp2_with (go_at_call 98;refine (oblank _ _).mono ?_;rintro e w' ⟨rfl,hw⟩;obtain rfl:=hw.symm)
    go_ret
    exact ⟨j,rfl,⟨hij,hjs,HN.out,.inr ⟨hq,by rw [blank_is] at hb;exact hb⟩⟩,rfl⟩
   ·go_wp2_with (go_at_call 98;refine (oblank _ _).mono ?_;rintro e w' ⟨rfl,hw⟩;obtain rfl:=hw.symm)
    go_round
    case rel=>exact ⟨j+1,by omega,by omega,by go_num,fun k h h1 h2=>by
     rcases Nat.lt_or_ge k j with h3 | h3
     ·exact HN.out k h h1 h3
     ·have:k=j:=by omega
      subst this
      rw [blank_is] at hb;exact hb⟩
    case measure=>simp [intOf];omega
  ·go_wp2_with (go_at_call 98;refine (oblank _ _).mono ?_;rintro e w' ⟨rfl,hw⟩;obtain rfl:=hw.symm)
   go_ret
   exact ⟨j,rfl,⟨hij,hjs,HN.out,.inl (by omega)⟩,rfl⟩
set_option maxRecDepth 100000 in
theorem reach_noted (s:ByteArray) (i:Nat) (hs:s.size≤3000) (hi:i≤s.size) (w:World) :
  Calls Tryz.prog 56 #[.string s,.int .i64 i,.func (.func 99) #[] #[]] w fun e w'=>∃ j:Nat,e=.returned (.int .i64 j)∧Stops (fun b=>b != 10) s i j∧w'=w:=by
 go_enter Tryz.func56,Tryz.ntmps56
 go_wp2
 go_loop [1] (fun t=>∃ j:Nat,i≤j∧j≤s.size∧t=.int .i64 j∧Hid (∀ k (h:k<s.size),i≤k→k<j→(fun b=>b != 10) s[k]=true)) (fun t=>s.size - (intOf t).toNat)
 case atStart=>exact ⟨i,by omega,hi,rfl,fun k _ h1 h2=>by omega⟩
 case round =>
  obtain ⟨j,hij,hjs,rfl,HN⟩:=hrel
  by_cases hq:j<s.size
  ·cases hb:((s[j].toNat:Int) != 10)
   ·go_wp2_with (go_at_call 99;refine (onoted _ _).mono ?_;rintro e w' ⟨rfl,hw⟩;obtain rfl:=hw.symm)
    go_ret
    exact ⟨j,rfl,⟨hij,hjs,HN.out,.inr ⟨hq,by rw [noted_is] at hb;exact hb⟩⟩,rfl⟩
   ·go_wp2_with (go_at_call 99;refine (onoted _ _).mono ?_;rintro e w' ⟨rfl,hw⟩;obtain rfl:=hw.symm)
    go_round
    case rel=>exact ⟨j+1,by omega,by omega,by go_num,fun k h h1 h2=>by
     rcases Nat.lt_or_ge k j with h3 | h3
     ·exact HN.out k h h1 h3
     ·have:k=j:=by omega
      subst this
      rw [noted_is] at hb;exact hb⟩
    case measure=>simp [intOf];omega
  ·go_wp2_with (go_at_call 99;refine (onoted _ _).mono ?_;rintro e w' ⟨rfl,hw⟩;obtain rfl:=hw.symm)
   go_ret
   exact ⟨j,rfl,⟨hij,hjs,HN.out,.inl (by omega)⟩,rfl⟩
/-! ### what is passed by -/
structure Goes (s:ByteArray) (p j:Nat):Prop where
 le:p≤j
 top:j≤s.size
 on:∀ (f:Nat) (acc:List Tok) (R:Res),s.size≤p+f→scanL f (s.data.toList.drop p) p acc=R→∃ f',s.size≤j+f'∧scanL f' (s.data.toList.drop j) j acc=R
theorem Goes.rfl' {s:ByteArray} {p:Nat} (h:p≤s.size):Goes s p p:=⟨jE _,h,fun f acc R h1 h2=>⟨f,h1,h2⟩⟩
theorem Goes.trans {s:ByteArray} {p j k:Nat} (h1:Goes s p j) (h2:Goes s j k):Goes s p k :=
 ⟨Nat.le_trans h1.le h2.le,h2.top,fun f acc R a b=>by
  obtain ⟨f',a',b'⟩:=h1.on f acc R a b
  exact h2.on f' acc R a' b'⟩
theorem goes_step {s:ByteArray} {p n:Nat} (hp:p<s.size) (h:stepL (s.data.toList.drop p)=.skip n):Goes s p (p+n)∧0<n:=by
 have h0:=go_skip hp (f:=0) (acc:=[]) h rfl
 refine ⟨⟨by omega,h0.2.2,fun f acc R a b=>?_⟩,h0.2.1⟩
 obtain ⟨f,rfl⟩:∃ f',f=f'+1:=⟨f - 1,by omega⟩
 have hg:=go_skip hp h b
 exact ⟨f,by omega,hg.1⟩
theorem goes_blanks {s:ByteArray} {p j:Nat} (h:Stops (fun b=>b==32||b==10) s p j):Goes s p j:=by
 obtain ⟨n,rfl⟩:∃ n,j=p+n:=⟨j - p,by have:=h.le;omega⟩
 have H:∀ n,p+n≤s.size→(∀ k (h:k<s.size),p≤k→k<p+n→(s[k]==32||s[k]==10)=true)→Goes s p (p+n):=by
  intro n
  induction n with
  | zero=>intro h1 _;exact Goes.rfl' h1
  | succ n ih =>
   intro h1 h2
   have g:=ih (by omega) (fun k hk a b=>h2 k hk a (by omega))
   have hb:=h2 (p+n) (by omega) (by omega) (by omega)
   rw [← blank_is,Bool.or_eq_true] at hb
   exact g.trans (goes_step (by omega) (st_blank (by omega) hb)).1
 exact H n h.top h.all
theorem goes_note {s:ByteArray} {p j:Nat} (hp:p<s.size) (h3:((s[p].toNat:Int)==35)=true) (h:Stops (fun b=>b != 10) s p j):Goes s p j∧p<j:=by
 have hv:(s[p].toNat:Int)=35:=by simpa using h3
 have hst:=st_note hp (by rw [hv];rfl) (by rw [hv];rfl) h3 h.run
 have g:=goes_step hp hst
 have hl:=h.le
 have e:p+(j - p)=j:=by omega
 rw [e] at g
 exact ⟨g.1,by omega⟩
set_option maxRecDepth 100000 in
theorem skip_any (s:ByteArray) (i:Nat) (hs:s.size≤3000) (hi:i≤s.size) (w:World) :
  Calls Tryz.prog 55 #[.string s,.int .i64 i] w fun e w'=>∃ j:Nat,e=.returned (.int .i64 j)∧Goes s i j∧(∀ h:j<s.size,((s[j].toNat:Int)==32)=false∧((s[j].toNat:Int)==10)=false∧((s[j].toNat:Int)==35)=false)∧w'=w:=by
 go_enter Tryz.func55,Tryz.ntmps55
 go_wp2
 go_loop [1] (fun t=>∃ j:Nat,j≤s.size∧t=.int .i64 j∧Hid (Goes s i j)) (fun t=>s.size - (intOf t).toNat)
 case atStart=>exact ⟨i,hi,rfl,Goes.rfl' hi⟩
 case round =>
  obtain ⟨j,hjs,rfl,HG⟩:=hrel
  go_wp2_with (fail)
  refine (reach_blank s j hs hjs _).mono ?_
  rintro e w' ⟨k,rfl,hk,hw⟩
  obtain rfl:=hw.symm
  have HK:Hid (Goes s i k):=HG.out.trans (goes_blanks hk)
  have hkl:=hk.le
  have hkt:=hk.top
  have HS:=hk.stop
  by_cases hq:k<s.size
  ·have HB:Hid (((s[k].toNat:Int)==32)=false∧((s[k].toNat:Int)==10)=false):=by
    rcases HS with h | ⟨_,h⟩
    ·omega
    ·rw [← blank_is,Bool.or_eq_false_iff] at h
     exact h
   clear HS hk
   cases h35:((s[k].toNat:Int) != 35)
   case true =>
    go_wp2
    go_ret
    exact ⟨k,rfl,HK.out,fun _=>⟨HB.out.1,HB.out.2,by simpa [bne] using h35⟩,rfl⟩
   case false =>
    go_wp2_with (fail)
    refine (reach_noted s k hs hkt _).mono ?_
    rintro e w' ⟨m,rfl,hm,hw⟩
    obtain rfl:=hw.symm
    have hg:=goes_note hq (by simpa [bne] using h35) hm
    have HM:Hid (Goes s i m):=HK.out.trans hg.1
    have hlt:=hg.2
    have hmt:=hm.top
    clear hm hg
    go_wp2
    go_round
    case rel=>exact ⟨m,hmt,rfl,HM.out⟩
    case measure=>simp [intOf];omega
  ·have hke:k=s.size:=by omega
   subst hke
   clear HS hk
   go_wp2
   go_ret
   exact ⟨s.size,rfl,HK.out,fun h=>absurd h hq,rfl⟩
end Go.Proofs.YtfopddgjdaoidaaGreatDoor.lexs
namespace Go.Proofs
open Go.Shelf
def Tryz.laysPI_ren : Go.Shelf.Ren := ⟨fun | 174 => 137 | 247 => 172 | 245 => 173 | 287 => 192 | 279 => 193 | 280 => 194 | 281 => 195 | 282 => 196 | 321 => 207 | 322 => 208 | 316 => 106 | 171 => 210 | 205 => 209 | 243 => 231 | 246 => 201 | 283 => 223 | 284 => 224 | 285 => 225 | 286 => 226 | 129 => 237 | 317 => 236 | 318 => 238 | 319 => 239 | 320 => 240 | 337 => 249 | 338 => 250 | n => n, fun | 9 => 9 | 3 => 3 | 2 => 2 | 75 => 130 | 85 => 183 | 4 => 4 | 167 => 222 | 5 => 5 | 53 => 223 | 175 => 224 | 46 => 226 | 168 => 227 | 37 => 125 | 0 => 0 | 210 => 240 | 21 => 21 | 127 => 166 | 145 => 259 | 143 => 257 | 171 => 243 | 173 => 246 | 212 => 264 | 51 => 265 | 20 => 20 | 213 => 266 | 232 => 276 | 233 => 277 | 80 => 96 | n => n, fun | 15 => 2 | 16 => 3 | 17 => 4 | 18 => 6 | 19 => 7 | n => n⟩
theorem Tryz.laysPI : Go.Proofs.LaysC.n174 Tryz.prog Tryz.laysPI_ren := {
  mixed := by kernel_rfl
  f129 := Tryz.func237.trans (congrArg some (by kernel_rfl))
  f171 := Tryz.func210.trans (congrArg some (by kernel_rfl))
  f174 := Tryz.func137.trans (congrArg some (by kernel_rfl))
  f205 := Tryz.func209.trans (congrArg some (by kernel_rfl))
  f243 := Tryz.func231.trans (congrArg some (by kernel_rfl))
  f245 := Tryz.func173.trans (congrArg some (by kernel_rfl))
  f246 := Tryz.func201.trans (congrArg some (by kernel_rfl))
  f247 := Tryz.func172.trans (congrArg some (by kernel_rfl))
  f279 := Tryz.func193.trans (congrArg some (by kernel_rfl))
  f280 := Tryz.func194.trans (congrArg some (by kernel_rfl))
  f281 := Tryz.func195.trans (congrArg some (by kernel_rfl))
  f282 := Tryz.func196.trans (congrArg some (by kernel_rfl))
  f283 := Tryz.func223.trans (congrArg some (by kernel_rfl))
  f284 := Tryz.func224.trans (congrArg some (by kernel_rfl))
  f285 := Tryz.func225.trans (congrArg some (by kernel_rfl))
  f286 := Tryz.func226.trans (congrArg some (by kernel_rfl))
  f287 := Tryz.func192.trans (congrArg some (by kernel_rfl))
  f316 := Tryz.func106.trans (congrArg some (by kernel_rfl))
  f317 := Tryz.func236.trans (congrArg some (by kernel_rfl))
  f318 := Tryz.func238.trans (congrArg some (by kernel_rfl))
  f319 := Tryz.func239.trans (congrArg some (by kernel_rfl))
  f320 := Tryz.func240.trans (congrArg some (by kernel_rfl))
  f321 := Tryz.func207.trans (congrArg some (by kernel_rfl))
  f322 := Tryz.func208.trans (congrArg some (by kernel_rfl))
  f337 := Tryz.func249.trans (congrArg some (by kernel_rfl))
  f338 := Tryz.func250.trans (congrArg some (by kernel_rfl))
  t0 := Tryz.underlying0
  a0 := Tryz.isAgg0
  z0 := Tryz.sizeOf0
  v0 := Tryz.zeroValue0
  t2 := Tryz.underlying2
  a2 := Tryz.isAgg2
  z2 := Tryz.sizeOf2
  v2 := Tryz.zeroValue2
  t3 := Tryz.underlying3
  a3 := Tryz.isAgg3
  z3 := Tryz.sizeOf3
  v3 := Tryz.zeroValue3
  t4 := Tryz.underlying4
  a4 := Tryz.isAgg4
  z4 := Tryz.sizeOf4
  v4 := Tryz.zeroValue4
  t5 := Tryz.underlying5
  a5 := Tryz.isAgg5
  z5 := Tryz.sizeOf5
  v5 := Tryz.zeroValue5
  t9 := Tryz.underlying9
  a9 := Tryz.isAgg9
  z9 := Tryz.sizeOf9
  v9 := Tryz.zeroValue9
  t20 := Tryz.underlying20
  a20 := Tryz.isAgg20
  z20 := Tryz.sizeOf20
  v20 := Tryz.zeroValue20
  t21 := Tryz.underlying21
  a21 := Tryz.isAgg21
  z21 := Tryz.sizeOf21
  v21 := Tryz.zeroValue21
  t37 := Tryz.underlying125
  a37 := Tryz.isAgg125
  z37 := Tryz.sizeOf125
  v37 := Tryz.zeroValue125
  t46 := Tryz.underlying226
  a46 := Tryz.isAgg226
  z46 := Tryz.sizeOf226
  v46 := Tryz.zeroValue226
  t51 := Tryz.underlying265
  a51 := Tryz.isAgg265
  z51 := Tryz.sizeOf265
  v51 := Tryz.zeroValue265
  t53 := Tryz.underlying223
  a53 := Tryz.isAgg223
  z53 := Tryz.sizeOf223
  v53 := Tryz.zeroValue223
  t75 := Tryz.underlying130
  a75 := Tryz.isAgg130
  z75 := Tryz.sizeOf130
  v75 := Tryz.zeroValue130
  t85 := Tryz.underlying183
  a85 := Tryz.isAgg183
  z85 := Tryz.sizeOf183
  v85 := Tryz.zeroValue183
  t127 := Tryz.underlying166
  a127 := Tryz.isAgg166
  z127 := Tryz.sizeOf166
  v127 := Tryz.zeroValue166
  t143 := Tryz.underlying257
  a143 := Tryz.isAgg257
  z143 := Tryz.sizeOf257
  v143 := Tryz.zeroValue257
  t145 := Tryz.underlying259
  a145 := Tryz.isAgg259
  z145 := Tryz.sizeOf259
  v145 := Tryz.zeroValue259
  t167 := Tryz.underlying222
  a167 := Tryz.isAgg222
  z167 := Tryz.sizeOf222
  v167 := Tryz.zeroValue222
  t168 := Tryz.underlying227
  a168 := Tryz.isAgg227
  z168 := Tryz.sizeOf227
  v168 := Tryz.zeroValue227
  t171 := Tryz.underlying243
  a171 := Tryz.isAgg243
  z171 := Tryz.sizeOf243
  v171 := Tryz.zeroValue243
  t173 := Tryz.underlying246
  a173 := Tryz.isAgg246
  z173 := Tryz.sizeOf246
  v173 := Tryz.zeroValue246
  t175 := Tryz.underlying224
  a175 := Tryz.isAgg224
  z175 := Tryz.sizeOf224
  v175 := Tryz.zeroValue224
  t210 := Tryz.underlying240
  a210 := Tryz.isAgg240
  z210 := Tryz.sizeOf240
  v210 := Tryz.zeroValue240
  t212 := Tryz.underlying264
  a212 := Tryz.isAgg264
  z212 := Tryz.sizeOf264
  v212 := Tryz.zeroValue264
  t213 := Tryz.underlying266
  a213 := Tryz.isAgg266
  z213 := Tryz.sizeOf266
  t232 := Tryz.underlying276
  a232 := Tryz.isAgg276
  z232 := Tryz.sizeOf276
  v232 := Tryz.zeroValue276
  t233 := Tryz.underlying277
  a233 := Tryz.isAgg277
  z233 := Tryz.sizeOf277
  v233 := Tryz.zeroValue277
  g15 := by kernel_rfl
  g16 := by kernel_rfl
  g17 := by kernel_rfl
  g18 := by kernel_rfl
  g19 := by kernel_rfl
  t80 := Tryz.underlying96
  a80 := Tryz.isAgg96
  z80 := Tryz.sizeOf96
  v80 := Tryz.zeroValue96
  i0 := by kernel_rfl
  i2 := by kernel_rfl
  i3 := by kernel_rfl
  i4 := by kernel_rfl
  i5 := by kernel_rfl
  i9 := by kernel_rfl
  i20 := by kernel_rfl
  i21 := by kernel_rfl
  i37 := by kernel_rfl
  i46 := by kernel_rfl
  i51 := by kernel_rfl
  i53 := by kernel_rfl
  i75 := by kernel_rfl
  i80 := by kernel_rfl
  i85 := by kernel_rfl
  i127 := by kernel_rfl
  i143 := by kernel_rfl
  i145 := by kernel_rfl
  i167 := by kernel_rfl
  i168 := by kernel_rfl
  i171 := by kernel_rfl
  i173 := by kernel_rfl
  i175 := by kernel_rfl
  i210 := by kernel_rfl
  i212 := by kernel_rfl
  i232 := by kernel_rfl
  i233 := by kernel_rfl
  m15 := by kernel_rfl
  m16 := by kernel_rfl
  m17 := by kernel_rfl
  m18 := by kernel_rfl
  m19 := by kernel_rfl
  c0 := by kernel_rfl
  c2 := by kernel_rfl
  c3 := by kernel_rfl
  c4 := by kernel_rfl
  c5 := by kernel_rfl
  c9 := by kernel_rfl
  c20 := by kernel_rfl
  c21 := by kernel_rfl
  c37 := by kernel_rfl
  c46 := by kernel_rfl
  c51 := by kernel_rfl
  c53 := by kernel_rfl
  c75 := by kernel_rfl
  c80 := by kernel_rfl
  c85 := by kernel_rfl
  c127 := by kernel_rfl
  c143 := by kernel_rfl
  c145 := by kernel_rfl
  c167 := by kernel_rfl
  c168 := by kernel_rfl
  c171 := by kernel_rfl
  c173 := by kernel_rfl
  c175 := by kernel_rfl
  c210 := by kernel_rfl
  c212 := by kernel_rfl
  c213 := by kernel_rfl
  c232 := by kernel_rfl
  c233 := by kernel_rfl }
def Tryz.laysClone_ren : Go.Shelf.Ren := ⟨fun | 316 => 106 | n => n, fun | 9 => 9 | 3 => 3 | 4 => 4 | 37 => 125 | 0 => 0 | 127 => 166 | 5 => 5 | n => n, fun | n => n⟩
theorem Tryz.laysClone : Go.Proofs.LaysM.n316 Tryz.prog Tryz.laysClone_ren := {
  mixed := by kernel_rfl
  f316 := Tryz.func106.trans (congrArg some (by kernel_rfl))
  t0 := Tryz.underlying0
  a0 := Tryz.isAgg0
  z0 := Tryz.sizeOf0
  v0 := Tryz.zeroValue0
  t3 := Tryz.underlying3
  a3 := Tryz.isAgg3
  z3 := Tryz.sizeOf3
  v3 := Tryz.zeroValue3
  t4 := Tryz.underlying4
  a4 := Tryz.isAgg4
  z4 := Tryz.sizeOf4
  v4 := Tryz.zeroValue4
  t9 := Tryz.underlying9
  a9 := Tryz.isAgg9
  z9 := Tryz.sizeOf9
  v9 := Tryz.zeroValue9
  t37 := Tryz.underlying125
  a37 := Tryz.isAgg125
  z37 := Tryz.sizeOf125
  v37 := Tryz.zeroValue125
  t127 := Tryz.underlying166
  a127 := Tryz.isAgg166
  z127 := Tryz.sizeOf166
  v127 := Tryz.zeroValue166
  t5 := Tryz.underlying5
  a5 := Tryz.isAgg5
  z5 := Tryz.sizeOf5
  v5 := Tryz.zeroValue5
  i0 := by kernel_rfl
  i3 := by kernel_rfl
  i4 := by kernel_rfl
  i5 := by kernel_rfl
  i9 := by kernel_rfl
  i37 := by kernel_rfl
  i127 := by kernel_rfl }
end Go.Proofs
namespace Go.Proofs.YtfopddgjdaoidaaGreatDoor.lexs
open Go.RowKit
theorem behind_row (c:Int) (h:(ltrI c||digI c)=true) (w:World) :
  Calls Tryz.prog 57 #[.int .u8 c] w fun e w'=>e=.returned (.func (.func 102) #[] #[])∧Below w.heap.size w w':=by
 cases h1:ltrI c<;>cases h2:digI c
 case false.false=>simp [h1,h2] at h
 all_goals
  go_enter Tryz.func57,Tryz.ntmps57
  go_wp2_with (first | (go_at_call 100;refine (oletter _ _).mono ?_;rintro e w' ⟨rfl,hw⟩;obtain rfl:=hw.symm) | (go_at_call 101;refine (odigit _ _).mono ?_;rintro e w' ⟨rfl,hw⟩;obtain rfl:=hw.symm))
  go_ret
  exact ⟨rfl,bal _⟩
def Boxed (w w':World) (c:Int):Prop:=w'.cell? ⟨w.heap.size+1,0,none⟩=some (.int .i64 1)∧w'.cell? ⟨w.heap.size,0,none⟩=some (.int .u8 c)∧w'.frozen? ⟨w.heap.size+1,0,none⟩=false∧Below w.heap.size w w'
theorem behind_sign (c:Int) (h1:ltrI c=false) (h2:digI c=false) (w:World) :
  Calls Tryz.prog 57 #[.int .u8 c] w fun e w'=>e=.returned (.func (.func 103) #[] #[.pointer (some ⟨w.heap.size+1,0,none⟩),.pointer (some ⟨w.heap.size,0,none⟩)])∧Boxed w w' c:=by
 have hmf:∀ (fn:Fn) (first cap:Array Value) (w:World),(Instr.makeFunc fn first cap).run Tryz.prog w=.ok (.func fn first cap) w:=fun _ _ _ _=>rfl
 go_enter Tryz.func57,Tryz.ntmps57
 go_wp2_with (first | (go_at_call 100;refine (oletter _ _).mono ?_;rintro e w' ⟨rfl,hw⟩;obtain rfl:=hw.symm) | (go_at_call 101;refine (odigit _ _).mono ?_;rintro e w' ⟨rfl,hw⟩;obtain rfl:=hw.symm))
 go_ret
 refine ⟨rfl,?_,?_,?_,?_⟩
 ·simp
 ·simp
 ·simp
 ·exact (bal _).alloc (by simp) _
theorem obehind2 (x n c:Int) (a b:Addr) (w:World) (hn:0≤n∧n≤5) (ha:w.cell? a=some (.int .i64 n)) (hb:w.cell? b=some (.int .u8 c)) (hf:w.frozen? a=false) (hab:a≠b) :
  Calls Tryz.prog 103 #[.int .u8 x,.pointer (some a),.pointer (some b)] w fun e w'=>e=.returned (.bool (n==1&&c==61&&x==61))∧w'=w.setCell a (.int .i64 (n+1)):=by
 have hw:IntKind.i64.wrap (n+1)=n+1:=by rw [IntKind.wrap_i64];omega
 have ha':=World.cell?_setCell_same w a (.int .i64 (n+1)) ha
 have hb':=(jD w a b (.int .i64 (n+1)) hab).trans hb
 have e:(n+1==2)=(n==1):=by rw [Bool.eq_iff_iff];simp;omega
 cases h1:(n==1)<;>cases h2:(c==61)<;>cases h3:(x==61)
 all_goals
  rw [h1] at e
  go_enter Tryz.func103,Tryz.ntmps103
  go_wp2
  go_ret
  exact ⟨rfl,rfl⟩
def more (l:List UInt8) (c:Int):Nat:=if c==61&&l.headD 0==61 then 1 else 0
theorem head_at (s:ByteArray) (i:Nat) (h:i<s.size):((s.data.toList.drop i).headD 0==61)=((s[i].toNat:Int)==61):=by
 rw [drop_cons s i h,List.headD_cons,byte_is _ 61 61 rfl]
theorem head_end (s:ByteArray) (i:Nat) (h:s.size≤i):((s.data.toList.drop i).headD 0==61)=false:=by
 rw [List.drop_eq_nil_of_le (by rw [len_L];exact h)];rfl
set_option maxRecDepth 100000 in
theorem reach_sign (s:ByteArray) (i:Nat) (c:Int) (a b:Addr) (hs:s.size≤3000) (hi:i≤s.size) (w:World) (ha:w.cell? a=some (.int .i64 1)) (hb:w.cell? b=some (.int .u8 c)) (hf:w.frozen? a=false) (hab:a≠b) :
  Calls Tryz.prog 56 #[.string s,.int .i64 i,.func (.func 103) #[] #[.pointer (some a),.pointer (some b)]] w fun e w'=>e=.returned (.int .i64 ((i+more (s.data.toList.drop i) c:Nat):Int))∧Below a.block w w':=by
 have ha':=World.cell?_setCell_same w a (.int .i64 2) ha
 have hb':=(jD w a b (.int .i64 2) hab).trans hb
 have hf':(w.setCell a (.int .i64 2)).frozen? a=false:=by simp [hf]
 have B0:Below a.block w w:=Below.refl _ _
 have B1:Below a.block w (w.setCell a (.int .i64 2)):=B0.setCell (jE _) _
 have B2:Below a.block w ((w.setCell a (.int .i64 2)).setCell a (.int .i64 3)):=B1.setCell (jE _) _
 go_enter Tryz.func56,Tryz.ntmps56
 go_wp2
 go_loopw [1] (fun t wr=>(t=.int .i64 i∧wr=w)∨(t=.int .i64 ((i:Int)+1)∧i<s.size∧Hid (more (s.data.toList.drop i) c=1)∧wr=w.setCell a (.int .i64 2))) (fun t _=>i+1 - (intOf t).toNat)
 case atStart=>exact .inl ⟨rfl,rfl⟩
 case round =>
  rcases hrel with ⟨rfl,rfl⟩|⟨rfl,hlt,HM,rfl⟩
  ·by_cases hq:i<s.size
   ·have hh:=head_at s i hq
    cases hg:(c==61&&(s[i].toNat:Int)==61)
    ·have HM:Hid (more (s.data.toList.drop i) c=0):=by show _=_;unfold more;rw [hh,hg];rfl
     clear hh
     go_wp2_with (go_at_call 103;refine (obehind2 _ 1 c a b _ (by omega) ha hb hf hab).mono ?_;rintro e w' ⟨rfl,hw⟩;obtain rfl:=hw.symm)
     go_ret
     exact ⟨by rw [HM.out];rfl,B1⟩
    ·have HM:Hid (more (s.data.toList.drop i) c=1):=by show _=_;unfold more;rw [hh,hg];rfl
     clear hh
     go_wp2_with (go_at_call 103;refine (obehind2 _ 1 c a b _ (by omega) ha hb hf hab).mono ?_;rintro e w' ⟨rfl,hw⟩;obtain rfl:=hw.symm)
     go_roundw
     case rel=>exact .inr ⟨by go_num,hq,HM.out,by first | rfl | trivial⟩
     case measure=>simp [intOf]<;>omega
   ·have HM:Hid (more (s.data.toList.drop i) c=0):=by show _=_;unfold more;rw [head_end s i (by omega)];simp
    go_wp2_with (go_at_call 103;refine (obehind2 _ 1 c a b _ (by omega) ha hb hf hab).mono ?_;rintro e w' ⟨rfl,hw⟩;obtain rfl:=hw.symm)
    go_ret
    exact ⟨by rw [HM.out];rfl,B0⟩
  ·by_cases hq:i+1<s.size
   ·go_wp2_with (go_at_call 103;refine (obehind2 _ 2 c a b _ (by omega) ha' hb' hf' hab).mono ?_;rintro e w' ⟨rfl,hw⟩;obtain rfl:=hw.symm)
    go_ret
    exact ⟨by rw [HM.out];rfl,B2⟩
   ·go_wp2_with (go_at_call 103;refine (obehind2 _ 2 c a b _ (by omega) ha' hb' hf' hab).mono ?_;rintro e w' ⟨rfl,hw⟩;obtain rfl:=hw.symm)
    go_ret
    exact ⟨by rw [HM.out];rfl,B1⟩
theorem clone_any (x:ByteArray) (h:x.size≤3000) (w:World) :
  Calls Tryz.prog 59 #[.string x] w fun e w'=>e=.returned (.string x)∧Below w.heap.size w w':=by
 go_enter Tryz.func59,Tryz.ntmps59
 go_wp2_with (go_at_call 106;refine (Any.stringslite_Clone Tryz.laysClone x _ (by omega)).mono ?_;rintro e w' ⟨rfl,hb⟩)
 go_ret
 exact ⟨rfl,hb⟩
set_option maxHeartbeats 1000000 in
set_option maxRecDepth 100000 in
theorem index_lite (s:ByteArray) (c:Int) (w:World) :
  Calls Tryz.prog 138 #[.string s,.int .u8 c] w fun e w'=>e=.returned (.int .i64 (Lib.indexByte s.data.toList c.toNat.toUInt8))∧w'=w:=by
 go_enter Tryz.func138,Tryz.ntmps138
 go_wp2
 rw [run_callFunc_extern Tryz.func174 (by kernel_rfl) (by kernel_rfl) (by kernel_rfl) (e:=Extern.BytealgIndexByte.indexByte) (by kernel_rfl),Lib.run_indexByteString]
 simp only [Result.andThen]
 rw [Oper.upon_value]
 go_wp2
 go_ret
 exact ⟨rfl,rfl⟩
theorem index_any (s:ByteArray) (c:Int) (w:World) :
  Calls Tryz.prog 105 #[.string s,.int .u8 c] w fun e w'=>e=.returned (.int .i64 (Lib.indexByte s.data.toList c.toNat.toUInt8))∧w'=w:=by
 go_enter Tryz.func105,Tryz.ntmps105
 go_wp2_with (go_at_call 138;refine (index_lite _ _ _).mono ?_;rintro e w' ⟨rfl,rfl⟩)
 go_ret
 exact ⟨rfl,rfl⟩
theorem has_index (l:List UInt8) (c:UInt8):decide (Lib.indexByte l c ≥ 0)=l.contains c:=by
 induction l with
 | nil=>simp [Lib.indexByte]
 | cons b l ih =>
  have hg:=Lib.indexByte_ge l c
  rw [List.contains_cons,← ih,Lib.indexByte]
  by_cases h:b=c
  ·subst h;simp
  ·have h':¬ (c=b):=fun e=>h e.symm
   simp only [beq_iff_eq,h,if_false]
   by_cases h1:Lib.indexByte l c = -1
   ·simp [h1,h']
   ·rw [if_neg h1,Bool.eq_iff_iff]
    simp [h']
    omega
def HasErr (w:World):Prop:=∃ ev,w.cell? ⟨Tryz.laysPI_ren.g 16,0,none⟩=some ev∧(ev=.nilIface∨∃ te pe,ev=.iface te pe)
theorem hasErr_below {w w':World} (h:HasErr w) (hb:Below w.heap.size w w'):HasErr w':=by
 obtain ⟨ev,h1,h2⟩:=h
 have hlt:Tryz.laysPI_ren.g 16<w.heap.size:=by
  rcases Nat.lt_or_ge (Tryz.laysPI_ren.g 16) w.heap.size with h | h
  ·exact h
  ·exfalso
   simp only [World.cell?] at h1
   rw [Array.getElem?_eq_none h] at h1
   simp at h1
 exact ⟨ev,by rw [hb.cell (p:=⟨Tryz.laysPI_ren.g 16,0,none⟩) hlt];exact h1,h2⟩
theorem parse_ok (x:ByteArray) (hs:x.size≤3000) (h:x.data.toList.all digB=true) (h0:x.data.toList≠[]) (hv:val x.data.toList<9223372036854775808) (w:World) :
  Calls Tryz.prog 137 #[.string x,.int .i64 10,.int .i64 64] w fun e w'=>e=.returned (.tuple #[.int .i64 (val x.data.toList:Int),.nilIface])∧Below w.heap.size w w':=by
 refine (Any.strconv_ParseInt_10_at64_ok Tryz.laysPI x (by omega) _ (by rw [parse_all _ h h0,if_pos hv]) w).mono ?_
 rintro e w' ⟨rfl,rfl|⟨t,rfl⟩⟩
 ·exact ⟨rfl,Below.refl _ _⟩
 ·exact ⟨rfl,Lib.bytesWorld_below _ _ _⟩
theorem parse_range (x:ByteArray) (hs:x.size≤3000) (h:x.data.toList.all digB=true) (h0:x.data.toList≠[]) (hv:¬ val x.data.toList<9223372036854775808) (w:World) (he:HasErr w) :
  Calls Tryz.prog 137 #[.string x,.int .i64 10,.int .i64 64] w fun e w'=>∃ i T N,e=.returned (.tuple #[.int .i64 i,.iface T (.pointer (some ⟨N,0,none⟩))])∧Below w.heap.size w w':=by
 obtain ⟨ev,h1,h2⟩:=he
 refine (Any.strconv_ParseInt_10_at64_range Tryz.laysPI x (by omega) (by rw [parse_all _ h h0,if_neg hv]) ev w h1 h2).mono ?_
 rintro e w' ⟨N,rfl,_,_,hb⟩
 exact ⟨_,_,N,rfl,hb⟩
theorem stops_all {x:ByteArray} {j:Nat} (h:Stops digB x 0 j) (hj:j=x.size):x.data.toList.all digB=true:=by
 rw [List.all_eq_true]
 intro c hc
 obtain ⟨k,hk,rfl⟩:=List.mem_iff_getElem.1 hc
 rw [len_L] at hk
 exact h.all k hk (by omega) (by omega)
theorem ne_nil {x:ByteArray} (h:0<x.size):x.data.toList≠[]:=by intro e;have:=len_L x;rw [e] at this;simp at this;omega
set_option maxRecDepth 100000 in
theorem judgeNumber_any (x:ByteArray) (hs:x.size≤3000) (h0:0<x.size) (w:World) (he:HasErr w) :
  Calls Tryz.prog 104 #[.string x] w fun e w'=>e=.returned (.int .i64 (numE x.data.toList))∧Below w.heap.size w w':=by
 go_enter Tryz.func104,Tryz.ntmps104
 go_wp2_with (fail)
 refine (reach_digit x 0 hs (by omega) _).mono ?_
 rintro e w' ⟨j,rfl,hj,hw⟩
 obtain rfl:=hw.symm
 have hjt:=hj.top
 by_cases hlt:j<x.size
 ·have HE:Hid (2=numE x.data.toList):=by
   rcases hj.stop with h | ⟨h,hd⟩
   ·omega
   ·exact num_bad x j h hd
  clear hj
  go_wp2
  go_ret
  exact ⟨ret_i64 HE.out,Below.refl _ _⟩
 ·have hje:j=x.size:=by omega
  have ha:=stops_all hj hje
  clear hj
  subst hje
  have hh:=headL x h0
  cases hz:(decide (1<x.data.toList.length)&&x.data.toList.headD 0==48)
  ·have HN:=numE_val _ ha (ne_nil h0) hz
   rw [len_L,hh,← byte_is _ 48 48 rfl] at hz
   by_cases hv:val x.data.toList<9223372036854775808
   ·rw [if_pos hv] at HN
    have HN':Hid (numE x.data.toList=0):=HN
    have HV:Hid (val x.data.toList<9223372036854775808):=hv
    have HA:Hid (x.data.toList.all digB=true):=ha
    clear HN hv ha
    by_cases h1:1<x.size
    ·have hb:((x[0].toNat:Int)==48)=false:=by simpa [h1] using hz
     clear hz hh
     go_wp2_with (go_at_call 137;refine (parse_ok x hs HA.out (ne_nil h0) HV.out _).mono ?_;rintro e w1 ⟨rfl,hb1⟩)
     go_ret
     exact ⟨ret_i64 HN'.out.symm,hb1⟩
    ·clear hz hh
     go_wp2_with (go_at_call 137;refine (parse_ok x hs HA.out (ne_nil h0) HV.out _).mono ?_;rintro e w1 ⟨rfl,hb1⟩)
     go_ret
     exact ⟨ret_i64 HN'.out.symm,hb1⟩
   ·rw [if_neg hv] at HN
    have HN':Hid (numE x.data.toList=6):=HN
    have HV:Hid (¬ val x.data.toList<9223372036854775808):=hv
    have HA:Hid (x.data.toList.all digB=true):=ha
    clear HN hv ha
    by_cases h1:1<x.size
    ·have hb:((x[0].toNat:Int)==48)=false:=by simpa [h1] using hz
     clear hz hh
     go_wp2_with (go_at_call 137;refine (parse_range x hs HA.out (ne_nil h0) HV.out _ he).mono ?_;rintro e w1 ⟨i1,T1,N1,rfl,hb1⟩)
     go_ret
     exact ⟨ret_i64 HN'.out.symm,hb1⟩
    ·clear hz hh
     go_wp2_with (go_at_call 137;refine (parse_range x hs HA.out (ne_nil h0) HV.out _ he).mono ?_;rintro e w1 ⟨i1,T1,N1,rfl,hb1⟩)
     go_ret
     exact ⟨ret_i64 HN'.out.symm,hb1⟩
  ·have HN:Hid (numE x.data.toList=2):=by
    show _=_
    rw [numE,if_neg (by simp [ha]),if_pos hz]
   rw [len_L,hh,← byte_is _ 48 48 rfl,Bool.and_eq_true] at hz
   have h1:1<x.size:=by simpa using hz.1
   have hb:=hz.2
   clear hz hh ha
   go_wp2
   go_ret
   exact ⟨ret_i64 HN.out.symm,Below.refl _ _⟩
def signs:ByteArray:=⟨#[123,125,40,41,91,93,59,44,46,61,60,43,45,42,47,37,38,124,33]⟩
theorem index_signs (b:UInt8):decide (Lib.indexByte signs.data.toList ((b.toNat:Int)).toNat.toUInt8 ≥ 0)=ones.contains b:=by
 have e:((b.toNat:Int)).toNat.toUInt8=b:=by simp
 rw [e,has_index]
 rfl
theorem judge_word (x:ByteArray) (hs:x.size≤3000) (h0:0<x.size) (w:World) (hl:ltrI (x[0].toNat:Int)=true) (h16:x.size≤16) :
  Calls Tryz.prog 58 #[.string x] w fun e w'=>e=.returned (.tuple #[.int .i64 1,.int .i64 0])∧Below w.heap.size w w':=by
 go_enter Tryz.func58,Tryz.ntmps58
 go_wp2_with (go_at_call 100;refine (oletter _ _).mono ?_;rintro e w' ⟨rfl,hw⟩;obtain rfl:=hw.symm)
 exact bodyPost_ret (v:=.tuple #[.int .i64 1,.int .i64 0]) (by simp [results,Tryz.results58,go_sem]) rfl ⟨rfl,Below.refl _ _⟩
theorem judge_long (x:ByteArray) (hs:x.size≤3000) (h0:0<x.size) (w:World) (hl:ltrI (x[0].toNat:Int)=true) (h16:16<x.size) :
  Calls Tryz.prog 58 #[.string x] w fun e w'=>e=.returned (.tuple #[.int .i64 0,.int .i64 1])∧Below w.heap.size w w':=by
 go_enter Tryz.func58,Tryz.ntmps58
 go_wp2_with (go_at_call 100;refine (oletter _ _).mono ?_;rintro e w' ⟨rfl,hw⟩;obtain rfl:=hw.symm)
 exact bodyPost_ret (v:=.tuple #[.int .i64 0,.int .i64 1]) (by simp [results,Tryz.results58,go_sem]) rfl ⟨rfl,Below.refl _ _⟩
theorem judge_num (x:ByteArray) (hs:x.size≤3000) (h0:0<x.size) (w:World) (he:HasErr w) (hl:ltrI (x[0].toNat:Int)=false) (hd:digI (x[0].toNat:Int)=true) :
  Calls Tryz.prog 58 #[.string x] w fun e w'=>e=.returned (.tuple #[.int .i64 2,.int .i64 (numE x.data.toList)])∧Below w.heap.size w w':=by
 go_enter Tryz.func58,Tryz.ntmps58
 go_wp2_with (first
  | (go_at_call 100;refine (oletter _ _).mono ?_;rintro e w' ⟨rfl,hw⟩;obtain rfl:=hw.symm)
  | (go_at_call 101;refine (odigit _ _).mono ?_;rintro e w' ⟨rfl,hw⟩;obtain rfl:=hw.symm)
  | (go_at_call 104;refine (judgeNumber_any x hs h0 _ he).mono ?_;rintro e w1 ⟨rfl,hb1⟩))
 exact bodyPost_ret (v:=.tuple #[.int .i64 2,.int .i64 (numE x.data.toList)]) (by simp [results,Tryz.results58,go_sem]) rfl ⟨rfl,hb1⟩
theorem judge_sign (x:ByteArray) (hs:x.size≤3000) (h0:0<x.size) (w:World) (hl:ltrI (x[0].toNat:Int)=false) (hd:digI (x[0].toNat:Int)=false) (hc:ones.contains x[0]=true) :
  Calls Tryz.prog 58 #[.string x] w fun e w'=>e=.returned (.tuple #[.int .i64 3,.int .i64 0])∧Below w.heap.size w w':=by
 have hi:Lib.indexByte signs.data.toList ((x[0].toNat:Int)).toNat.toUInt8 ≥ 0:=of_decide_eq_true (by rw [index_signs,hc])
 obtain ⟨I,hI⟩:∃ I,I=Lib.indexByte signs.data.toList ((x[0].toNat:Int)).toNat.toUInt8:=⟨_,rfl⟩
 have hx:=index_any signs (x[0].toNat:Int)
 rw [← hI] at hi hx
 clear hI hc
 go_enter Tryz.func58,Tryz.ntmps58
 go_wp2_with (first
  | (go_at_call 100;refine (oletter _ _).mono ?_;rintro e w' ⟨rfl,hw⟩;obtain rfl:=hw.symm)
  | (go_at_call 101;refine (odigit _ _).mono ?_;rintro e w' ⟨rfl,hw⟩;obtain rfl:=hw.symm)
  | (go_at_call 105;refine (hx _).mono ?_;rintro e w' ⟨rfl,hw⟩;obtain rfl:=hw.symm))
 exact bodyPost_ret (v:=.tuple #[.int .i64 3,.int .i64 0]) (by simp [results,Tryz.results58,go_sem]) rfl ⟨rfl,Below.refl _ _⟩
theorem judge_none (x:ByteArray) (hs:x.size≤3000) (h0:0<x.size) (w:World) (hl:ltrI (x[0].toNat:Int)=false) (hd:digI (x[0].toNat:Int)=false) (hc:ones.contains x[0]=false) :
  Calls Tryz.prog 58 #[.string x] w fun e w'=>e=.returned (.tuple #[.int .i64 0,.int .i64 2])∧Below w.heap.size w w':=by
 have hi:¬ Lib.indexByte signs.data.toList ((x[0].toNat:Int)).toNat.toUInt8 ≥ 0:=of_decide_eq_false (by rw [index_signs,hc])
 obtain ⟨I,hI⟩:∃ I,I=Lib.indexByte signs.data.toList ((x[0].toNat:Int)).toNat.toUInt8:=⟨_,rfl⟩
 have hx:=index_any signs (x[0].toNat:Int)
 rw [← hI] at hi hx
 clear hI hc
 go_enter Tryz.func58,Tryz.ntmps58
 go_wp2_with (first
  | (go_at_call 100;refine (oletter _ _).mono ?_;rintro e w' ⟨rfl,hw⟩;obtain rfl:=hw.symm)
  | (go_at_call 101;refine (odigit _ _).mono ?_;rintro e w' ⟨rfl,hw⟩;obtain rfl:=hw.symm)
  | (go_at_call 105;refine (hx _).mono ?_;rintro e w' ⟨rfl,hw⟩;obtain rfl:=hw.symm))
 exact bodyPost_ret (v:=.tuple #[.int .i64 0,.int .i64 2]) (by simp [results,Tryz.results58,go_sem]) rfl ⟨rfl,Below.refl _ _⟩
end Go.Proofs.YtfopddgjdaoidaaGreatDoor.lexs
