/- Tokens, written one behind the other with a blank between, are read as the same: plain facts. -/
import Derived.Test.YtaadmdlbkhcfnaaGreatDoorNC01
set_option linter.unusedVariables false
namespace Go.Proofs.YtaadmdlbkhcfnaaGreatDoor
namespace pr
open syn face chk
open lexs (Tok val qJ zD yA)
def yN (x:ByteArray):Bool:=match x.data.toList with
 | []=>false
 | c :: _=>qJ c
def AtW (ts:List Tok) (i:Nat) (ws:List ByteArray):Prop:=∀ j (h:j<ws.length),∃ t:Tok,ts[i+j]?=some t/\t.text=(ws[j]).data.toList/\(t.kind==2)=yN ws[j]
section
variable {ts:List Tok} {i:Nat} {a b r:List ByteArray} {x y:ByteArray}
theorem AtW.left (h:AtW ts i (a++b)):AtW ts i a:=fun j hj=>by
 obtain ⟨t,h1,h2,h3⟩:=h j (by rw [jb];omega);rw [List.getElem_append_left hj] at h2 h3;exact ⟨t,h1,h2,h3⟩
theorem AtW.right (h:AtW ts i (a++b)):AtW ts (i+a.length) b:=fun j hj=>by
 obtain ⟨t,h1,h2,h3⟩:=h (a.length+j) (by rw [jb];omega);rw [List.getElem_append_right (by omega)] at h2 h3;simp only [Nat.add_sub_cancel_left] at h2 h3;exact ⟨t,by rw [Nat.add_assoc];exact h1,h2,h3⟩
theorem AtW.head (h:AtW ts i (x :: r)):∃ t:Tok,ts[i]?=some t/\t.text=x.data.toList/\(t.kind==2)=yN x:=by
 obtain ⟨t,h1,h2,h3⟩:=h 0 (by simp);exact ⟨t,h1,h2,h3⟩
theorem AtW.tail (h:AtW ts i (x :: r)):AtW ts (i+1) r:=AtW.right (a:=[x]) h
theorem qD (h:AtW ts i (x :: r)) (hd:yN x=false):txt ts ⟨i,false⟩=x:=by
 obtain ⟨t,h1,h2,h3⟩:=h.head;rw [hd] at h3;unfold txt xY;simp only [jr,if_false,h1,h3];exact zbm h2
theorem zkh (h:AtW ts i (x :: r)):gO ts ⟨i,false⟩=yN x:=by
 obtain ⟨t,h1,h2,h3⟩:=h.head;unfold gO xY;simp only [jr,if_false,h1,h3]
theorem zlx (h:AtW ts i (x :: r)) (hd:yN x=true):txt ts ⟨i,false⟩=empty:=by
 obtain ⟨t,h1,h2,h3⟩:=h.head;rw [hd] at h3;unfold txt xY;simp only [jr,if_false,h1,h3,if_true]
theorem eqS_self (x:ByteArray):eqS x x=true:=zdm.2 rfl
theorem yY (h:AtW ts i (x :: r)) (hd:yN x=false):kF ts x ⟨i,false⟩=⟨i+1,false⟩:=by
 unfold kF;rw [qD h hd,eqS_self,jv rfl];rfl
theorem znr (h:AtW ts i (x :: r)) (hd:yN x=false):eat ts x ⟨i,false⟩=(true,⟨i+1,false⟩):=by
 unfold eat
 rw [qD h hd,eqS_self,jv rfl];rfl
theorem zmr {s:St} (h:eqS (txt ts s) x=false):eat ts x s=(false,s):=by
 unfold eat
 rw [h,ju (by simp)]
theorem cW (hx:kK x=true) (hy:kK y=false):eqS x y=false:=by
 cases h:eqS x y with
 | false=>rfl
 | true =>
  rw [zdm.1 h,hy] at hx;cases hx
theorem zaj (hx:kK x=true):yN x=false:=by
 unfold kK at hx;simp only [jj] at hx;have hl:=hx.1.1.2;unfold yN
 cases hd:x.data.toList with
 | nil=>rfl
 | cons c l =>
  rw [hd] at hl;simp only [List.headD_cons] at hl;unfold zD at hl;show yA (c.toNat:Int)=false;unfold yA;simp only [Bool.or_eq_true,jl] at hl;simp only [decide_eq_false_iff_not];omega
theorem fE (h:AtW ts i (x :: r)) (hx:kK x=true):name ts ⟨i,false⟩=(x,⟨i+1,false⟩):=by
 unfold name;rw [qD h (zaj hx),hx,jv rfl];rfl
theorem zi1:∀ (l a b:List UInt8),yL l=(a,some b)->l=a++46 :: b
 | [],a,b,h=>by simp [yL] at h
 | c :: l,a,b,h=>by
  unfold yL at h;by_cases hc:c=46;·rw [jv hc] at h;simp only [Prod.mk.injEq,jh] at h;obtain ⟨rfl,rfl⟩:=h;rw [hc];rfl
  ·rw [ju hc] at h;simp only [Prod.mk.injEq] at h;obtain ⟨rfl,h2⟩:=h;have:=zi1 l (yL l).1 b (by rw [<- h2]);rw [jK,<- this]
theorem zdb {l:List ByteArray} (hw:kV x=some l) (h:AtW ts i (l++r)) (hp:eqS (txt ts ⟨i+l.length,false⟩) ⟨#[46]⟩=false):whole ts ⟨i,false⟩=(x,⟨i+l.length,false⟩):=by
 unfold kV at hw
 cases hc:yL x.data.toList with
 | mk a ob =>
  rw [hc] at hw
  cases ob with
  | none =>
   dsimp only at hw;by_cases hx:kK x=true;·rw [jv hx] at hw;obtain rfl:=jw hw;have hn:=fE (r:=r) h hx;have hp':eqS (txt ts ⟨i+1,false⟩) ⟨#[46]⟩=false:=hp;unfold whole;simp only [hn];rw [zmr hp'];rfl
   ·rw [ju hx] at hw
    cases hw
  | some bs =>
   dsimp only at hw;by_cases hx:(kK ⟨a.toArray⟩&&kK ⟨bs.toArray⟩)=true;·rw [jv hx] at hw;obtain rfl:=jw hw;rw [jj] at hx;have hn:=fE (r:=⟨#[46]⟩ :: ⟨bs.toArray⟩ :: r) h hx.1;have he:=znr (h.tail (x:=⟨a.toArray⟩)) (by rfl);have hn2:=fE (h.tail (x:=⟨a.toArray⟩) |>.tail) hx.2;unfold whole;simp only [hn,he,hn2,if_true];refine Prod.ext ?_ rfl;refine zbm ?_;rw [zi1 _ _ _ hc];simp
   ·rw [ju hx] at hw;cases hw
theorem zcq {l:List ByteArray} (hw:kV x=some l):∃ y r,l=y :: r/\kK y=true:=by
 unfold kV at hw
 cases hc:yL x.data.toList with
 | mk a ob =>
  rw [hc] at hw
  cases ob with
  | none =>
   dsimp only at hw;by_cases hx:kK x=true;·rw [jv hx] at hw;exact ⟨x,[],(jw hw).symm,hx⟩
   ·rw [ju hx] at hw;cases hw
  | some bs =>
   dsimp only at hw;by_cases hx:(kK ⟨a.toArray⟩&&kK ⟨bs.toArray⟩)=true;·rw [jv hx] at hw;rw [jj] at hx;exact ⟨_,_,(jw hw).symm,hx.1⟩
   ·rw [ju hx] at hw;cases hw
end
/-! numbers -/
theorem zk2:∀ (l:List UInt8) (c:UInt8),val (l++[c])=val l*10+(c.toNat - 48)
 | [],c=>by simp [val]
 | d :: l,c=>by
  have:=zk2 l c;simp only [jK,val,jb,jd,je];rw [this,Nat.pow_succ];have e:(d.toNat - 48)*(10 ^ l.length*10)=(d.toNat - 48)*10 ^ l.length*10:=by rw [Nat.mul_assoc]
  omega
theorem zdf (u:Nat):val (Lib.decDigits u)=u/\(∀ c∈Lib.decDigits u,qJ c=true)/\Lib.decDigits u≠[]:=by
 induction u using Nat.strongRecOn with
 | _ u ih =>
  rw [Lib.decDigits];by_cases h:u<10
  ·rw [dif_pos h];have e:(UInt8.ofNat (48+u)).toNat=48+u:=by simp;omega
   refine ⟨by simp only [val,e,je];omega,fun c hc=>?_,by simp⟩;obtain rfl:c=UInt8.ofNat (48+u):=by simpa using hc
   unfold qJ yA;rw [e];simp only [jl];omega
  ·rw [dif_neg h];obtain ⟨h1,h2,h3⟩:=ih (u / 10) (by omega);have e:(UInt8.ofNat (48+u % 10)).toNat=48+u % 10:=by simp;omega
   refine ⟨by rw [zk2,h1,e];omega,fun c hc=>?_,by simp⟩;rcases List.mem_append.1 hc with hc | hc
   ·exact h2 c hc
   ·obtain rfl:c=UInt8.ofNat (48+u % 10):=by simpa using hc
    unfold qJ yA;rw [e];simp only [jl];omega
theorem zfi (m:Int) (h:0<=m):(vW m).data.toList=Lib.decDigits m.toNat:=by
 show (Lib.itoa m)=_;unfold Lib.itoa;rw [ju (by omega)]
theorem zb4 (m:Int) (h:0<=m):yN (vW m)=true:=by
 unfold yN;rw [zfi m h];obtain ⟨_,h2,h3⟩:=zdf m.toNat
 cases hd:Lib.decDigits m.toNat with
 | nil=>exact absurd hd h3
 | cons c l=>exact h2 c (by rw [hd];simp)
theorem zja {ts:List Tok} {i:Nat} {r:List ByteArray} {m:Int} (h0:0<=m) (h:AtW ts i (vW m :: r)):zK ts ⟨i,false⟩=(.node 15 empty m [],⟨i+1,false⟩):=by
 obtain ⟨t,h1,h2,h3⟩:=h.head;rw [zb4 m h0] at h3;rw [zfi m h0] at h2;unfold zK xY;simp only [jr,if_false,h1,h3,if_true];rw [h2,(zdf m.toNat).1];refine Prod.ext ?_ rfl;show Tree.node 15 empty ((m.toNat:Nat):Int) []=_;rw [Int.toNat_of_nonneg h0]
theorem zxc (m:Nat) (h1:1<=m) (h9:m<=9):sign (opAt m)=((m:Int),kZ m):=by
 have:m=1\/m=2\/m=3\/m=4\/m=5\/m=6\/m=7\/m=8\/m=9:=by omega
 rcases this with rfl | rfl | rfl | rfl | rfl | rfl | rfl | rfl | rfl<;>decide +kernel
structure Fol (l:Int) (x:ByteArray):Prop where
 sg:(sign x).2<l
 br:eqS x ⟨#[91]⟩=false
 pa:eqS x ⟨#[40]⟩=false
 pt:eqS x ⟨#[46]⟩=false
theorem Fol.mono {l m:Int} {x:ByteArray} (h:Fol l x) (hl:l<=m):Fol m x:=⟨Int.lt_of_lt_of_le h.sg hl,h.br,h.pa,h.pt⟩
section
variable {ts:List Tok}
def Pz (ts:List Tok) (l i:Nat) (R:Tree × St):Prop:=∃ F,qK ts F l ⟨i,false⟩=some R
def Lz (ts:List Tok) (l:Nat) (n:Tree) (i:Nat) (R:Tree × St):Prop:=∃ F,qW ts F l n ⟨i,false⟩=some R
def Uz (ts:List Tok) (i:Nat) (R:Tree × St):Prop:=∃ F,zF ts F ⟨i,false⟩=some R
def Ez (ts:List Tok) (i:Nat) (R:Tree × St):Prop:=∃ F,qB ts F ⟨i,false⟩=some R
variable {l i j e:Nat} {n q t:Tree} {R:Tree × St} {op:Int}
theorem Uz.p (h:Uz ts i R):Pz ts 3 i R:=by
 obtain ⟨F,h⟩:=h;refine ⟨F+1,?_⟩;unfold qK;rw [jv (by omega)];exact h
theorem bJ (hl:l<=2) (h1:Pz ts (l+1) i (n,⟨j,false⟩)) (h2:Lz ts l n j R):Pz ts l i R:=by
 obtain ⟨F,h1⟩:=h1;obtain ⟨G,h2⟩:=h2;refine ⟨max F G+1,?_⟩;unfold qK;rw [ju (by omega),zle (Nat.le_max_left F G) h1];exact zjj (Nat.le_max_right F G) h2
theorem dX (h:(sign (txt ts ⟨i,false⟩)).2≠(l:Int)):Lz ts l n i (n,⟨i,false⟩):=by
 refine ⟨1,?_⟩;unfold qW;rw [ju (by simp),jv (by simpa using h)]
theorem zxg (hs:sign (txt ts ⟨i,false⟩)=(op,0)) (h:Pz ts 1 (i+1) (q,⟨e,false⟩)):Lz ts 0 n i (.node 19 empty op [n,q],⟨e,false⟩):=by
 obtain ⟨F,h⟩:=h;refine ⟨F+1,?_⟩;unfold qW;rw [ju (by simp),hs,ju (by simp)];have e:(⟨i,false⟩:St).next=⟨i+1,false⟩:=rfl;rw [e,h];rfl
theorem znw (hl:0<l) (hs:sign (txt ts ⟨i,false⟩)=(op,(l:Int))) (h:Pz ts (l+1) (i+1) (q,⟨e,false⟩)) (h2:Lz ts l (.node 19 empty op [n,q]) e R):Lz ts l n i R:=by
 obtain ⟨F,h⟩:=h;obtain ⟨G,h2⟩:=h2;refine ⟨max F G+1,?_⟩;unfold qW;rw [ju (by simp),hs,ju (by simp)];have e:(⟨i,false⟩:St).next=⟨i+1,false⟩:=rfl;rw [e,zle (Nat.le_max_left F G) h];show (if (l==0)=true then _ else _)=_;rw [ju (by simp;omega)];exact zjj (Nat.le_max_right F G) h2
theorem p_e (h:Pz ts 0 i R):Ez ts i R:=by
 obtain ⟨F,h⟩:=h;refine ⟨F+1,?_⟩;unfold qB;rw [ju (by simp)];exact h
structure Levels (ts:List Tok) (t:Tree) (i e:Nat) (b:Nat):Prop where
 p3:3<=b->Pz ts 3 i (t,⟨e,false⟩)
 b2:2<=b->∀ R,Lz ts 2 t e R->Pz ts 2 i R
 p2:2<=b->(sign (txt ts ⟨e,false⟩)).2<2->Pz ts 2 i (t,⟨e,false⟩)
 b1:1<=b->(sign (txt ts ⟨e,false⟩)).2<2->∀ R,Lz ts 1 t e R->Pz ts 1 i R
 p1:1<=b->(sign (txt ts ⟨e,false⟩)).2<1->Pz ts 1 i (t,⟨e,false⟩)
 p0:(sign (txt ts ⟨e,false⟩)).2<0->Pz ts 0 i (t,⟨e,false⟩)
theorem cR (h:Uz ts i (t,⟨e,false⟩)):Levels ts t i e 3:=by
 have p3:=h.p;have b2:∀ R,Lz ts 2 t e R->Pz ts 2 i R:=fun R hR=>bJ (by omega) p3 hR
 have p2:(sign (txt ts ⟨e,false⟩)).2<2->Pz ts 2 i (t,⟨e,false⟩):=fun hs=>b2 _ (dX (by omega))
 have b1:(sign (txt ts ⟨e,false⟩)).2<2->∀ R,Lz ts 1 t e R->Pz ts 1 i R:=fun hs R hR=>bJ (by omega) (p2 hs) hR
 have p1:(sign (txt ts ⟨e,false⟩)).2<1->Pz ts 1 i (t,⟨e,false⟩):=fun hs=>b1 (by omega) _ (dX (by omega))
 exact ⟨fun _=>p3,fun _=>b2,fun _=>p2,fun _=>b1,fun _=>p1,fun hs=>bJ (by omega) (p1 (by omega)) (dX (by omega))⟩
theorem zvj {w:List ByteArray} (h:AtW ts i ([⟨#[40]⟩]++w++[⟨#[41]⟩])) (hp:(sign (txt ts ⟨i+1+w.length,false⟩)).2<0->Pz ts 0 (i+1) (t,⟨i+1+w.length,false⟩)):Uz ts i (t,⟨i+(w.length+2),false⟩):=by
 have h1:AtW ts i (⟨#[40]⟩ :: (w++[⟨#[41]⟩])):=by simpa using h
 have h2:AtW ts (i+1+w.length) [⟨#[41]⟩]:=h1.tail.right;have e1:txt ts ⟨i,false⟩=⟨#[40]⟩:=qD h1 rfl;have e2:txt ts ⟨i+1+w.length,false⟩=⟨#[41]⟩:=qD h2 rfl;obtain ⟨F,hF⟩:=p_e (hp (by rw [e2];decide +kernel));refine ⟨F+2,?_⟩;unfold zF;have n1:eqS ⟨#[40]⟩ ⟨#[45]⟩=false:=by kernel_rfl
 have n2:eqS ⟨#[40]⟩ ⟨#[33]⟩=false:=by kernel_rfl
 have n3:eqS ⟨#[40]⟩ ⟨#[40]⟩=true:=by kernel_rfl
 rw [e1,n1,ju (by simp),n2,ju (by simp),n3,jv rfl];unfold zJ;rw [yY h1 rfl,hF];show some (t,kF ts ⟨#[41]⟩ ⟨i+1+w.length,false⟩)=_;rw [yY h2 rfl];have:i+(w.length+2)=i+1+w.length+1:=by omega
 rw [this]
structure RT (ts:List Tok) (f:Nat):Prop where
 p:∀ (l:Nat) (t:Tree) (ws:List ByteArray) (i:Nat),l<=3->kD f (l:Int) t=some ws->AtW ts i ws->Fol (l:Int) (txt ts ⟨i+ws.length,false⟩)->Pz ts l i (t,⟨i+ws.length,false⟩)
 b:∀ (l:Nat) (t:Tree) (ws:List ByteArray) (i:Nat) (R:Tree × St),l=1\/l=2->kD f (l:Int) t=some ws->AtW ts i ws->Fol ((l:Int)+1) (txt ts ⟨i+ws.length,false⟩)->Lz ts l t (i+ws.length) R->Pz ts l i R
theorem Levels.all {b:Nat} (h:Levels ts t i e b) (l:Nat) (hl:l<=3) (hb:l<=b) (hf:(sign (txt ts ⟨e,false⟩)).2<(l:Int)):Pz ts l i (t,⟨e,false⟩):=by
 have:l=0\/l=1\/l=2\/l=3:=by omega
 rcases this with rfl | rfl | rfl | rfl
 ·exact h.p0 hf
 ·exact h.p1 hb hf
 ·exact h.p2 hb hf
 ·exact h.p3 hb
theorem Levels.allB {b:Nat} (h:Levels ts t i e b) (l:Nat) (hl:l=1\/l=2) (hb:l<=b) (hf:(sign (txt ts ⟨e,false⟩)).2<(l:Int)+1) (hR:Lz ts l t e R):Pz ts l i R:=by
 rcases hl with rfl | rfl
 ·exact h.b1 hb hf R hR
 ·exact h.b2 hb R hR
end
section
variable {ts:List Tok} {f i e:Nat} {t:Tree} {R:Tree × St}
theorem zzb (m:Nat) (h1:1<=m) (h9:m<=9):(eqS (opAt m) ⟨#[91]⟩=false/\eqS (opAt m) ⟨#[40]⟩=false/\eqS (opAt m) ⟨#[46]⟩=false)/\yN (opAt m)=false/\(kZ m=0\/kZ m=1\/kZ m=2):=by
 have:m=1\/m=2\/m=3\/m=4\/m=5\/m=6\/m=7\/m=8\/m=9:=by omega
 rcases this with rfl | rfl | rfl | rfl | rfl | rfl | rfl | rfl | rfl<;>decide +kernel
theorem zrd (ih:RT ts f) (m:Nat) (h1:1<=m) (h9:m<=9) (t0 t1:Tree) (a c:List ByteArray) (ha:kD f (max (kZ m) 1) t0=some a) (hc:kD f (kZ m+1) t1=some c) (hA:AtW ts i (a++[opAt m]++c)) (hF:Fol 3 (txt ts ⟨i+(a++[opAt m]++c).length,false⟩)):Levels ts (.node 19 empty (m:Int) [t0,t1]) i (i+(a++[opAt m]++c).length) (kZ m).toNat:=by
 obtain ⟨⟨n1,n2,n3⟩,hd,hb⟩:=zzb m h1 h9;have hs:=zxc m h1 h9;have hlen:i+(a++[opAt m]++c).length=i+a.length+1+c.length:=by simp;omega
 rw [hlen] at hF |-;have hA1:AtW ts i (a++(opAt m :: c)):=by simpa using hA
 have hAa:=hA1.left;have hAo:=hA1.right;have hAc:=hAo.tail;have et:=qD hAo hd;have hsg:sign (txt ts ⟨i+a.length,false⟩)=((m:Int),kZ m):=by rw [et,hs]
 have hfo:∀ k:Int,kZ m<k->Fol k (txt ts ⟨i+a.length,false⟩):=fun k hk=>by rw [et];exact ⟨by rw [hs];exact hk,n1,n2,n3⟩
 have hfe:∀ k:Int,(sign (txt ts ⟨i+a.length+1+c.length,false⟩)).2<k->Fol k (txt ts ⟨i+a.length+1+c.length,false⟩):=fun k hk=>⟨hk,hF.br,hF.pa,hF.pt⟩
 rcases hb with hb | hb | hb
 ·rw [hb] at ha hc hsg hfo |-;have q1:=ih.p 1 t0 a i (by omega) ha hAa (hfo 1 (by omega));refine ⟨fun h=>by simp at h,fun h=>by simp at h,fun h=>by simp at h,fun h=>by simp at h,fun h=>by simp at h,fun hz=>?_⟩;have q2:=ih.p 1 t1 c (i+a.length+1) (by omega) hc hAc (hfe 1 (by omega));exact bJ (by omega) q1 (zxg hsg q2)
 ·rw [hb] at ha hc hsg hfo |-
  have b1:(sign (txt ts ⟨i+a.length+1+c.length,false⟩)).2<2->∀ R,Lz ts 1 (.node 19 empty (m:Int) [t0,t1]) (i+a.length+1+c.length) R->Pz ts 1 i R:=fun hz R hR=>by
   have q2:=ih.p 2 t1 c (i+a.length+1) (by omega) hc hAc (hfe 2 (by omega));exact ih.b 1 t0 a i R (.inl rfl) ha hAa (hfo _ (by show (1:Int)<1+1;omega)) (znw (by omega) hsg q2 hR)
  have p1:(sign (txt ts ⟨i+a.length+1+c.length,false⟩)).2<1->Pz ts 1 i (.node 19 empty (m:Int) [t0,t1],⟨i+a.length+1+c.length,false⟩):=fun hz=>b1 (by omega) _ (dX (by omega))
  exact ⟨fun h=>by simp at h,fun h=>by simp at h,fun h=>by simp at h,fun _=>b1,fun _=>p1,fun hz=>bJ (by omega) (p1 (by omega)) (dX (by omega))⟩
 ·rw [hb] at ha hc hsg hfo |-
  have b2:∀ R,Lz ts 2 (.node 19 empty (m:Int) [t0,t1]) (i+a.length+1+c.length) R->Pz ts 2 i R:=fun R hR=>by
   have q2:=ih.p 3 t1 c (i+a.length+1) (by omega) hc hAc hF;exact ih.b 2 t0 a i R (.inr rfl) ha hAa (hfo _ (by show (2:Int)<2+1;omega)) (znw (by omega) hsg q2 hR)
  have p2:(sign (txt ts ⟨i+a.length+1+c.length,false⟩)).2<2->Pz ts 2 i (.node 19 empty (m:Int) [t0,t1],⟨i+a.length+1+c.length,false⟩):=fun hz=>b2 _ (dX (by omega))
  have b1:(sign (txt ts ⟨i+a.length+1+c.length,false⟩)).2<2->∀ R,Lz ts 1 (.node 19 empty (m:Int) [t0,t1]) (i+a.length+1+c.length) R->Pz ts 1 i R:=fun hz R hR=>bJ (by omega) (p2 hz) hR
  have p1:(sign (txt ts ⟨i+a.length+1+c.length,false⟩)).2<1->Pz ts 1 i (.node 19 empty (m:Int) [t0,t1],⟨i+a.length+1+c.length,false⟩):=fun hz=>b1 (by omega) _ (dX (by omega))
  exact ⟨fun h=>by simp at h,fun _=>b2,fun _=>p2,fun _=>b1,fun _=>p1,fun hz=>bJ (by omega) (p1 (by omega)) (dX (by omega))⟩
/-! each kind that holds together kH -/
theorem yad {m:Int} (h0:0<=m) (h:AtW ts i [vW m]):Uz ts i (.node 15 empty m [],⟨i+1,false⟩):=by
 have e:=zlx h (zb4 m h0);have n1:eqS empty ⟨#[45]⟩=false:=by decide +kernel
 have n2:eqS empty ⟨#[33]⟩=false:=by decide +kernel
 have n3:eqS empty ⟨#[40]⟩=false:=by decide +kernel
 refine ⟨1,?_⟩;unfold zF;rw [e,n1,ju (by simp),n2,ju (by simp),n3,ju (by simp),zkh h,zb4 m h0,jv rfl,zja h0 h]
theorem zcc {x:ByteArray} {l r:List ByteArray} (hw:kV x=some l) (h:AtW ts i (l++r)) (hp:eqS (txt ts ⟨i+l.length,false⟩) ⟨#[46]⟩=false) (F:Nat) : zF ts (F+1) ⟨i,false⟩=if eqS (txt ts ⟨i+l.length,false⟩) ⟨#[40]⟩ then zT ts F x ⟨i+l.length,false⟩ else qX ts F x ⟨i+l.length,false⟩:=by
 obtain ⟨y,r',rfl,hy⟩:=zcq hw;have e:=qD (r:=r'++r) h (zaj hy);have hn:=zkh (r:=r'++r) h
 conv=>lhs;unfold zF
 rw [e,cW hy (by decide +kernel),ju (by simp),cW hy (by decide +kernel),ju (by simp),cW hy (by decide +kernel),ju (by simp),hn,zaj hy,ju (by simp),zdb hw h hp]
theorem zwr {x:ByteArray} {l:List ByteArray} (hw:kV x=some l) (h:AtW ts i l) (hF:Fol 3 (txt ts ⟨i+l.length,false⟩)):Uz ts i (.node 16 x 0 [],⟨i+l.length,false⟩):=by
 refine ⟨2,?_⟩;rw [zcc hw (r:=[]) (by simpa using h) hF.pt,hF.pa,ju (by simp)];unfold qX;rw [hF.br,ju (by simp)]
theorem dR (x:ByteArray) (h:(decide ((sign x).2<0)&&!eqS x ⟨#[91]⟩&&!eqS x ⟨#[40]⟩&&!eqS x ⟨#[46]⟩)=true):Fol 0 x:=by
 simp only [jj,jl,Bool.not_eq_true'] at h;exact ⟨h.1.1.1,h.1.1.2,h.1.2,h.2⟩
theorem zy3 (ih:RT ts f) {x:ByteArray} {l c:List ByteArray} {t0:Tree} (hw:kV x=some l) (hc:kD f 0 t0=some c) (h:AtW ts i (l++[⟨#[91]⟩]++c++[⟨#[93]⟩])):Uz ts i (.node 17 x 0 [t0],⟨i+(l.length+c.length+2),false⟩):=by
 have h1:AtW ts i (l++(⟨#[91]⟩ :: (c++[⟨#[93]⟩]))):=by simpa using h
 have hb:=h1.right;have hk:=hb.tail;have hz:=hk.right;have eb:=qD hb rfl;have ez:=qD hz rfl;obtain ⟨F,hF⟩:=p_e (ih.p 0 t0 c _ (by omega) hc hk.left (by rw [ez];exact dR _ (by decide +kernel)));have n1:eqS ⟨#[91]⟩ ⟨#[46]⟩=false:=by decide +kernel
 have n2:eqS ⟨#[91]⟩ ⟨#[40]⟩=false:=by decide +kernel
 have n3:eqS ⟨#[91]⟩ ⟨#[91]⟩=true:=by decide +kernel
 refine ⟨F+2,?_⟩;rw [zcc hw h1 (by rw [eb];exact n1),eb,n2,ju (by simp)];unfold qX;rw [eb,n3,jv rfl];show ((qB ts F ⟨i+l.length+1,false⟩).bind _)=_;rw [hF];show some (Tree.node 17 x 0 [t0],kF ts ⟨#[93]⟩ ⟨i+l.length+1+c.length,false⟩)=_;rw [yY hz rfl];have:i+(l.length+c.length+2)=i+l.length+1+c.length+1:=by omega
 rw [this]
theorem zii (ih:RT ts f) (x:ByteArray):∀ (r:List Tree) (t0:Tree) (a tl:List ByteArray) (k:Nat) (done:List Tree) (i:Nat),kD f 0 t0=some a->kU (kD f 0) (k+1) r=some tl->AtW ts i (a++tl++[⟨#[41]⟩])->∃ F,zO ts F x done ⟨i,false⟩ true=some (.node 18 x 0 (done++t0 :: r),⟨i+(a.length+tl.length+1),false⟩)
 | [],t0,a,tl,k,done,i,ha,ht,h=>by
  have e0:tl=[]:=(jw ht).symm;subst e0;have h1:AtW ts i (a++[⟨#[41]⟩]):=by simpa using h
  have hz:=h1.right;have ez:=qD hz rfl;obtain ⟨F,hF⟩:=p_e (ih.p 0 t0 a i (by omega) ha h1.left (by rw [ez];exact dR _ (by decide +kernel)));have n1:eqS (txt ts ⟨i+a.length,false⟩) ⟨#[44]⟩=false:=by rw [ez];decide +kernel
  refine ⟨F+2,?_⟩;unfold zO;rw [jv (by simp),zf8 (Nat.le_succ F) hF];show zO ts (F+1) x (done++[t0]) (eat ts ⟨#[44]⟩ ⟨i+a.length,false⟩).2 (eat ts ⟨#[44]⟩ ⟨i+a.length,false⟩).1=_;rw [zmr n1];unfold zO;rw [ju (by simp),yY hz rfl];have:i+(a.length+0+1)=i+a.length+1:=by omega
  simp only [je,this]
 | t1 :: r,t0,a,tl,k,done,i,ha,ht,h=>by
  unfold kU at ht
  cases ha1:kD f 0 t1 with
  | none=>rw [ha1] at ht;cases ht
  | some a1 =>
   rw [ha1] at ht
   cases ht1:kU (kD f 0) (k+1+1) r with
   | none=>simp only [jf,ht1] at ht;cases ht
   | some tl1 =>
    simp only [jf,ht1,jh] at ht;rw [ju (by omega)] at ht;subst ht;have h1:AtW ts i (a++(⟨#[44]⟩ :: (a1++tl1++[⟨#[41]⟩]))):=by simpa using h
    have hz:=h1.right;have ez:=qD hz rfl;obtain ⟨F,hF⟩:=p_e (ih.p 0 t0 a i (by omega) ha h1.left (by rw [ez];exact dR _ (by decide +kernel)));obtain ⟨G,hG⟩:=zii ih x r t1 a1 tl1 (k+1) (done++[t0]) _ ha1 ht1 hz.tail;refine ⟨max F G+1,?_⟩;unfold zO;rw [jv (by simp),zf8 (Nat.le_max_left F G) hF];show zO ts (max F G) x (done++[t0]) (eat ts ⟨#[44]⟩ ⟨i+a.length,false⟩).2 (eat ts ⟨#[44]⟩ ⟨i+a.length,false⟩).1=_;rw [znr hz rfl,zu9 (Nat.le_max_right F G) hG];have e1:done++[t0]++t1 :: r=done++t0 :: t1 :: r:=by simp
    rw [e1]
    congr 3
    simp only [jb,jd,je];omega
def zar (a:List ByteArray):Prop:=∃ y r,a=y :: r/\(yN y=true\/(yN y=false/\eqS y ⟨#[41]⟩=false))
theorem zar.app {a b:List ByteArray} (h:zar a):zar (a++b):=by
 obtain ⟨y,r,rfl,h⟩:=h;exact ⟨y,r++b,rfl,h⟩
theorem zkp:∀ (f:Nat) (l:Int) (t:Tree) (a:List ByteArray),kD f l t=some a->zar a
 | 0,_,_,_,h=>by simp [kD] at h
 | f+1,l,.node k x m ks,a,h=>by
  have hbare:∀ w,kI yT (.node k x m ks)=true->yV (kD f) (.node k x m ks)=some w->zar w:=fun w hl hw=>by
   unfold yV at hw;dsimp only at hw;by_cases h15:k=15
   ·rw [jv h15] at hw
    have hm:0<=m:=by
     subst h15;unfold kI at hl;simp only [jj,jl] at hl;exact hl.1.1.1.1.2
    obtain rfl:=jw hw;exact ⟨_,_,rfl,.inl (zb4 m hm)⟩
   rw [ju h15] at hw
   have hname:∀ nm,kV x=some nm->zar nm:=fun nm hnm=>by
    obtain ⟨y,r,rfl,hy⟩:=zcq hnm;exact ⟨y,r,rfl,.inr ⟨zaj hy,cW hy (by decide +kernel)⟩⟩
   by_cases h16:k=16;·rw [jv h16] at hw;exact hname _ hw
   rw [ju h16] at hw;by_cases h17:k=17
   ·rw [jv h17] at hw
    cases hn:kV x with
    | none=>rw [hn] at hw;cases hw
    | some nm =>
     rw [hn] at hw
     cases he:kD f 0 (ks.getD 0 noT) with
     | none=>simp only [jf,he] at hw;cases hw
     | some e =>
      simp only [jf,he,jh] at hw;subst hw;exact (((hname _ hn).app).app).app
   rw [ju h17] at hw;by_cases h18:k=18
   ·rw [jv h18] at hw
    cases hn:kV x with
    | none=>rw [hn] at hw;cases hw
    | some nm =>
     rw [hn] at hw
     cases he:kU (kD f 0) 0 ks with
     | none=>simp only [jf,he] at hw;cases hw
     | some e =>
      simp only [jf,he,jh] at hw;subst hw;exact (((hname _ hn).app).app).app
   rw [ju h18] at hw;by_cases h19:k=19
   ·rw [jv h19] at hw
    cases he:kD f (max (kZ m.toNat) 1) (ks.getD 0 noT) with
    | none=>rw [he] at hw;cases hw
    | some e =>
     rw [he] at hw
     cases he2:kD f (kZ m.toNat+1) (ks.getD 1 noT) with
     | none=>simp only [jf,he2] at hw;cases hw
     | some e2 =>
      simp only [jf,he2,jh] at hw;subst hw;exact ((zkp f _ _ _ he).app).app
   rw [ju h19] at hw;by_cases h20:k=20
   ·rw [jv h20] at hw
    cases he:kD f 3 (ks.getD 0 noT) with
    | none=>rw [he] at hw;cases hw
    | some e =>
     rw [he] at hw;obtain rfl:=jw hw;exact ⟨_,_,rfl,.inr ⟨by decide +kernel,by decide +kernel⟩⟩
   rw [ju h20] at hw
   cases he:kD f 3 (ks.getD 0 noT) with
   | none=>rw [he] at hw;cases hw
   | some e =>
    rw [he] at hw;obtain rfl:=jw hw;exact ⟨_,_,rfl,.inr ⟨by decide +kernel,by decide +kernel⟩⟩
  unfold kD at h;by_cases hl:kI yT (.node k x m ks)=true
  ·rw [jv hl] at h;by_cases hb:l<=uI k m;·rw [jv hb] at h;exact hbare _ hl h
   ·rw [ju hb] at h
    cases hw:yV (kD f) (.node k x m ks) with
    | none=>rw [hw] at h;cases h
    | some w =>
     rw [hw] at h;obtain rfl:=jw h;exact ⟨_,_,rfl,.inr ⟨by decide +kernel,by decide +kernel⟩⟩
  ·rw [ju hl] at h;cases h
theorem znd (ih:RT ts f) {x:ByteArray} {l c:List ByteArray} {ks:List Tree} (hw:kV x=some l) (hc:kU (kD f 0) 0 ks=some c) (h:AtW ts i (l++[⟨#[40]⟩]++c++[⟨#[41]⟩])):Uz ts i (.node 18 x 0 ks,⟨i+(l.length+c.length+2),false⟩):=by
 have h1:AtW ts i (l++(⟨#[40]⟩ :: (c++[⟨#[41]⟩]))):=by simpa using h
 have hb:=h1.right;have hk:=hb.tail;have eb:=qD hb rfl;have n1:eqS ⟨#[40]⟩ ⟨#[46]⟩=false:=by decide +kernel
 have n2:eqS ⟨#[40]⟩ ⟨#[40]⟩=true:=by decide +kernel
 have hm:=yY hb rfl
 cases ks with
 | nil =>
  have e0:c=[]:=(jw hc).symm;subst e0;have ez:=qD (r:=[]) hk rfl;have n3:eqS ⟨#[41]⟩ ⟨#[41]⟩=true:=by decide +kernel
  refine ⟨2,?_⟩;rw [zcc hw h1 (by rw [eb];exact n1),eb,n2,jv rfl];unfold zT;rw [hm,ez,n3,jv rfl];have:i+(l.length+0+2)=i+l.length+1+1:=by omega
  simp only [je,this]
  rfl
 | cons t0 r =>
  unfold kU at hc
  cases ha:kD f 0 t0 with
  | none=>rw [ha] at hc;cases hc
  | some a =>
   rw [ha] at hc
   cases ht:kU (kD f 0) (0+1) r with
   | none=>simp only [jf,ht] at hc;cases hc
   | some tl =>
    simp only [jf,ht,jh,if_true,js] at hc;subst hc;obtain ⟨F,hF⟩:=zii ih x r t0 a tl 0 [] _ ha ht hk
    have n3:eqS (txt ts ⟨i+l.length+1,false⟩) ⟨#[41]⟩=false:=by
     obtain ⟨y,ra,rfl,hy⟩:=zkp f 0 t0 a ha;rcases hy with hy | ⟨hy,hy2⟩
     ·rw [zlx (r:=ra++tl++[⟨#[41]⟩]) hk hy];decide +kernel
     ·rw [qD (r:=ra++tl++[⟨#[41]⟩]) hk hy];exact hy2
    refine ⟨F+2,?_⟩;rw [zcc hw h1 (by rw [eb];exact n1),eb,n2,jv rfl];unfold zT;rw [hm,n3,ju (by simp),hF]
    congr 3
    simp only [jb];omega
theorem p_u (h:Pz ts 3 i R):Uz ts i R:=by
 obtain ⟨F,h⟩:=h
 cases F with
 | zero=>simp [qK] at h
 | succ F =>
  unfold qK at h;rw [jv (by omega)] at h;exact ⟨F,h⟩
theorem zm9 (ih:RT ts f) {x:ByteArray} {K:Int} (hx:(x=⟨#[45]⟩/\K=20)\/(x=⟨#[33]⟩/\K=21)) {c:List ByteArray} {t0:Tree} (hc:kD f 3 t0=some c) (h:AtW ts i ([x]++c)) (hF:Fol 3 (txt ts ⟨i+1+c.length,false⟩)):Uz ts i (.node K empty 0 [t0],⟨i+1+c.length,false⟩):=by
 have h1:AtW ts i (x :: c):=h;obtain ⟨F,hF⟩:=p_u (ih.p 3 t0 c (i+1) (by omega) hc h1.tail hF);refine ⟨F+1,?_⟩;rcases hx with ⟨rfl,rfl⟩|⟨rfl,rfl⟩
 ·have e:=qD h1 rfl;have n1:eqS ⟨#[45]⟩ ⟨#[45]⟩=true:=by decide +kernel
  unfold zF;rw [e,n1,jv rfl];show ((zF ts F ⟨i+1,false⟩).bind _)=_;rw [hF];rfl
 ·have e:=qD h1 rfl;have n1:eqS ⟨#[33]⟩ ⟨#[45]⟩=false:=by decide +kernel
  have n2:eqS ⟨#[33]⟩ ⟨#[33]⟩=true:=by decide +kernel
  unfold zF;rw [e,n1,ju (by simp),n2,jv rfl];show ((zF ts F ⟨i+1,false⟩).bind _)=_;rw [hF];rfl
end
section
variable {ts:List Tok} {f i:Nat}
theorem uW {x:ByteArray} (h:xB x 0=true):x=empty:=by
 unfold xB at h;rw [jv rfl] at h;have h0:x.size=0:=by simpa using h
 refine zbm ?_;show _=[]
 refine List.eq_nil_of_length_eq_zero ?_;simpa using h0
theorem Levels.more {t:Tree} {e b:Nat} (h:Levels ts t i e 3):Levels ts t i e b:=⟨fun _=>h.p3 (by omega),fun _=>h.b2 (by omega),fun _=>h.p2 (by omega),fun _=>h.b1 (by omega),fun _=>h.p1 (by omega),h.p0⟩
theorem dN:∀ (ks:List Tree),(1:Int)<=ks.length->(ks.length:Int)<=1->∃ t0,ks=[t0]
 | [t0],_,_=>⟨t0,rfl⟩
 | [],a,_=>by simp at a
 | _ :: _ :: _,_,b=>by simp only [jd] at b;omega
theorem zg4:∀ (ks:List Tree),(2:Int)<=ks.length->(ks.length:Int)<=2->∃ t0 t1,ks=[t0,t1]
 | [t0,t1],_,_=>⟨t0,t1,rfl⟩
 | [],a,_=>by simp at a
 | [_],a,_=>by simp at a
 | _ :: _ :: _ :: _,_,b=>by simp only [jd] at b;omega
theorem zh0 (ih:RT ts f) (k:Int) (x:ByteArray) (m:Int) (ks:List Tree) (w:List ByteArray) (hl:kI yT (.node k x m ks)=true) (hw:yV (kD f) (.node k x m ks)=some w) (h:AtW ts i w) (hF:Fol 3 (txt ts ⟨i+w.length,false⟩)) : Levels ts (.node k x m ks) i (i+w.length) (uI k m).toNat:=by
 unfold kI at hl;simp only [jj,jl] at hl;obtain ⟨⟨⟨⟨⟨hc,h1⟩,h2⟩,h3⟩,h4⟩,h5⟩:=hl
 have hk:k=15\/k=16\/k=17\/k=18\/k=19\/k=20\/k=21:=by
  have:=List.contains_iff_mem.1 hc;simpa [yT] using this
 rcases hk with rfl | rfl | rfl | rfl | rfl | rfl | rfl
 ·have h1':(0:Int)<=m:=h1;have h4':(ks.length:Int)<=0:=h4;obtain rfl:ks=[]:=List.eq_nil_of_length_eq_zero (by omega);obtain rfl:=uW h5;have e:w=[vW m]:=(jw hw).symm;subst e;exact (cR (yad h1' h)).more
 ·have h1':(0:Int)<=m:=h1;have h2':m<=0:=h2;obtain rfl:m=0:=by omega
  have h4':(ks.length:Int)<=0:=h4;obtain rfl:ks=[]:=List.eq_nil_of_length_eq_zero (by omega);exact (cR (zwr hw h hF)).more
 ·have h1':(0:Int)<=m:=h1;have h2':m<=0:=h2;obtain rfl:m=0:=by omega
  obtain ⟨t0,rfl⟩:=dN ks h3 h4;have hw':((kV x).bind fun nm=>(kD f 0 t0).bind fun e=>some (nm++[⟨#[91]⟩]++e++[⟨#[93]⟩]))=some w:=hw
  cases hn:kV x with
  | none=>rw [hn] at hw';cases hw'
  | some nm =>
   rw [hn] at hw'
   cases he:kD f 0 t0 with
   | none=>simp only [jf,he] at hw';cases hw'
   | some e =>
    simp only [jf,he,jh] at hw';subst hw';have:=zy3 ih hn he h;have e2:(nm++[(⟨#[91]⟩:ByteArray)]++e++[(⟨#[93]⟩:ByteArray)]).length=nm.length+e.length+2:=by simp;omega
    rw [e2];exact (cR this).more
 ·have h1':(0:Int)<=m:=h1;have h2':m<=0:=h2;obtain rfl:m=0:=by omega
  have hw':((kV x).bind fun nm=>(kU (kD f 0) 0 ks).bind fun e=>some (nm++[⟨#[40]⟩]++e++[⟨#[41]⟩]))=some w:=hw
  cases hn:kV x with
  | none=>rw [hn] at hw';cases hw'
  | some nm =>
   rw [hn] at hw'
   cases he:kU (kD f 0) 0 ks with
   | none=>simp only [jf,he] at hw';cases hw'
   | some e =>
    simp only [jf,he,jh] at hw';subst hw';have:=znd ih hn he h;have e2:(nm++[(⟨#[40]⟩:ByteArray)]++e++[(⟨#[41]⟩:ByteArray)]).length=nm.length+e.length+2:=by simp;omega
    rw [e2];exact (cR this).more
 ·have h1':(1:Int)<=m:=h1;have h2':m<=9:=h2;obtain ⟨mn,rfl⟩:∃ mn:Nat,m=(mn:Int):=⟨m.toNat,by omega⟩
  obtain ⟨t0,t1,rfl⟩:=zg4 ks h3 h4;obtain rfl:=uW h5;have hw':((kD f (max (kZ mn) 1) t0).bind fun a=>(kD f (kZ mn+1) t1).bind fun b=>some (a++[opAt mn]++b))=some w:=hw
  cases ha:kD f (max (kZ mn) 1) t0 with
  | none=>rw [ha] at hw';cases hw'
  | some a =>
   rw [ha] at hw'
   cases hb:kD f (kZ mn+1) t1 with
   | none=>simp only [jf,hb] at hw';cases hw'
   | some c =>
    simp only [jf,hb,jh] at hw';subst hw';exact zrd ih mn (by omega) (by omega) t0 t1 a c ha hb h hF
 ·have h1':(0:Int)<=m:=h1;have h2':m<=0:=h2;obtain rfl:m=0:=by omega
  obtain ⟨t0,rfl⟩:=dN ks h3 h4;obtain rfl:=uW h5;have hw':((kD f 3 t0).bind fun e=>some ([⟨#[45]⟩]++e))=some w:=hw
  cases he:kD f 3 t0 with
  | none=>rw [he] at hw';cases hw'
  | some e =>
   rw [he] at hw';obtain rfl:=jw hw';have e2:i+([(⟨#[45]⟩:ByteArray)]++e).length=i+1+e.length:=by simp;omega
   rw [e2] at hF |-;exact (cR (zm9 ih (.inl ⟨rfl,rfl⟩) he h hF)).more
 ·have h1':(0:Int)<=m:=h1;have h2':m<=0:=h2;obtain rfl:m=0:=by omega
  obtain ⟨t0,rfl⟩:=dN ks h3 h4;obtain rfl:=uW h5;have hw':((kD f 3 t0).bind fun e=>some ([⟨#[33]⟩]++e))=some w:=hw
  cases he:kD f 3 t0 with
  | none=>rw [he] at hw';cases hw'
  | some e =>
   rw [he] at hw';obtain rfl:=jw hw';have e2:i+([(⟨#[33]⟩:ByteArray)]++e).length=i+1+e.length:=by simp;omega
   rw [e2] at hF |-;exact (cR (zm9 ih (.inr ⟨rfl,rfl⟩) he h hF)).more
theorem zr5 (h:AtW ts i [⟨#[41]⟩]):Fol 0 (txt ts ⟨i,false⟩):=by
 rw [qD h rfl];exact dR _ (by decide +kernel)
theorem zh4 (ih:RT ts f) (l:Nat) (hl3:l<=3) (t:Tree) (ws:List ByteArray) (ho:kD (f+1) (l:Int) t=some ws) (h:AtW ts i ws) (hF:Fol 3 (txt ts ⟨i+ws.length,false⟩)):∃ b,l<=b/\Levels ts t i (i+ws.length) b:=by
 obtain ⟨k,x,m,ks⟩:=t;unfold kD at ho;by_cases hl:kI yT (.node k x m ks)=true
 ·rw [jv hl] at ho;by_cases hb:(l:Int)<=uI k m;·rw [jv hb] at ho;exact ⟨(uI k m).toNat,by omega,zh0 ih k x m ks ws hl ho h hF⟩
  ·rw [ju hb] at ho
   cases hw:yV (kD f) (.node k x m ks) with
   | none=>rw [hw] at ho;cases ho
   | some w =>
    rw [hw] at ho;obtain rfl:=jw ho;have h1:AtW ts i (⟨#[40]⟩ :: (w++[⟨#[41]⟩])):=by simpa using h
    have hz:=h1.tail.right;have hL:=zh0 ih k x m ks w hl hw h1.tail.left ((zr5 hz).mono (by omega));have hU:=zvj h hL.p0;have e2:([(⟨#[40]⟩:ByteArray)]++w++[(⟨#[41]⟩:ByteArray)]).length=w.length+2:=by simp
    rw [e2];exact ⟨3,hl3,cR hU⟩
 ·rw [ju hl] at ho;cases ho
theorem zge (ts:List Tok):∀ f,RT ts f
 | 0=>⟨fun _ _ _ _ _ h=>by simp [kD] at h,fun _ _ _ _ _ _ h=>by simp [kD] at h⟩
 | f+1=>by
  have ih:=zge ts f;refine ⟨fun l t ws i hl ho h hF=>?_,fun l t ws i R hl ho h hF hR=>?_⟩;·obtain ⟨b,hb,hL⟩:=zh4 ih l hl t ws ho h (hF.mono (by omega));exact hL.all l hl hb hF.sg
  ·obtain ⟨b,hb,hL⟩:=zh4 ih l (by omega) t ws ho h (hF.mono (by omega));exact hL.allB l hl hb hF.sg hR
end
end pr
namespace syn
open lexs (Tok)
section
variable (ts:List Tok)
structure MonoS (f:Nat):Prop where
 bk:∀ s R,qZ ts f s=some R->qZ ts (f+1) s=some R
 bl:∀ ks s R,zQ ts f ks s=some R->zQ ts (f+1) ks s=some R
 st:∀ s R,zI ts f s=some R->zI ts (f+1) s=some R
theorem zd2:∀ f,MonoS ts f
 | 0=>⟨fun _ _ h=>by simp [qZ] at h,fun _ _ _ h=>by simp [zQ] at h,fun _ _ h=>by simp [zI] at h⟩
 | f+1=>by
  have ih:=zd2 f;have me:=mono ts f;refine ⟨fun s R h=>?_,fun ks s R h=>?_,fun s R h=>?_⟩;·unfold qZ at h |-;exact ih.bl _ _ _ h
  ·unfold zQ at h |-;by_cases hb:s.bad=true;·rw [jv hb] at h |-;exact h
   ·rw [ju hb] at h |-;by_cases h1:eqS (txt ts s) ⟨#[125]⟩=true;·rw [jv h1] at h |-;exact h
    ·rw [ju h1] at h |-;exact xM h (fun q hq=>ih.st _ _ hq) (fun q hq=>ih.bl _ _ _ hq)
  ·unfold zI at h |-;by_cases h1:eqS (txt ts s) ⟨#[105,102]⟩=true
   ·rw [jv h1] at h |-;refine xM h (fun q hq=>me.as _ _ hq) (fun q hq=>xM hq (fun b hb=>ih.bk _ _ hb) (fun b hb=>?_));by_cases h2:eqS (txt ts b.2) ⟨#[101,108,115,101]⟩=true;·rw [jv h2] at hb |-;exact xM hb (fun c hc=>ih.bk _ _ hc) (fun c hc=>hc)
    ·rw [ju h2] at hb |-;exact hb
   rw [ju h1] at h |-;by_cases h2:eqS (txt ts s) ⟨#[119,104,105,108,101]⟩=true;·rw [jv h2] at h |-;exact xM h (fun q hq=>me.as _ _ hq) (fun q hq=>xM hq (fun b hb=>ih.bk _ _ hb) (fun b hb=>hb))
   rw [ju h2] at h |-;by_cases h3:(eqS (txt ts s) ⟨#[108,111,119]⟩||eqS (txt ts s) ⟨#[104,105,103,104]⟩)=true;·rw [jv h3] at h |-;exact xM h (fun q hq=>me.ex _ _ hq) (fun q hq=>hq)
   rw [ju h3] at h |-;by_cases h4:eqS (txt ts s) ⟨#[100,111]⟩=true;·rw [jv h4] at h |-;exact xM h (fun q hq=>me.ca _ _ _ hq) (fun q hq=>hq)
   rw [ju h4] at h |-;by_cases h5:eqS (txt ts s) ⟨#[111,117,116]⟩=true;·rw [jv h5] at h |-;exact xM h (fun q hq=>me.ex _ _ hq) (fun q hq=>hq)
   rw [ju h5] at h |-;by_cases h6:eqS (txt ts s) ⟨#[105,110]⟩=true;·rw [jv h6] at h |-;exact xM h (fun q hq=>me.pl _ _ _ hq) (fun q hq=>hq)
   rw [ju h6] at h |-;by_cases h7:eqS (txt ts s) ⟨#[114,101,116,117,114,110]⟩=true;·rw [jv h7] at h |-;exact xM h (fun q hq=>me.ex _ _ hq) (fun q hq=>hq)
   rw [ju h7] at h |-;exact xM h (fun q hq=>me.pl _ _ _ hq) (fun q hq=>xM hq (fun b hb=>me.ex _ _ hb) (fun b hb=>hb))
variable {ts}
theorem zah {f g:Nat} (h:f<=g) {s R} (e:qZ ts f s=some R):qZ ts g s=some R:=by
 induction h with
 | refl=>exact e
 | step _ ih=>exact (zd2 ts _).bk _ _ ih
theorem zsb {f g:Nat} (h:f<=g) {ks s R} (e:zQ ts f ks s=some R):zQ ts g ks s=some R:=by
 induction h with
 | refl=>exact e
 | step _ ih=>exact (zd2 ts _).bl _ _ _ ih
theorem zv5 {f g:Nat} (h:f<=g) {s R} (e:zI ts f s=some R):zI ts g s=some R:=by
 induction h with
 | refl=>exact e
 | step _ ih=>exact (zd2 ts _).st _ _ ih
theorem zvb {f g:Nat} (h:f<=g) {x s R} (e:qX ts f x s=some R):qX ts g x s=some R:=by
 induction h with
 | refl=>exact e
 | step _ ih=>exact (mono ts _).pl _ _ _ ih
theorem zff {f g:Nat} (h:f<=g) {s R} (e:zJ ts f s=some R):zJ ts g s=some R:=by
 induction h with
 | refl=>exact e
 | step _ ih=>exact (mono ts _).as _ _ ih
end
end syn
namespace pr
open syn face chk
open lexs (Tok val qJ zD yA)
section
variable {ts:List Tok} {f i:Nat} {t:Tree} {ws:List ByteArray}
theorem dB {m:Int} {r:List ByteArray} (hm:m=0\/m=1) (h:AtW ts i (kO m :: r)):label ts ⟨i,false⟩=(m,⟨i+1,false⟩):=by
 rcases hm with rfl | rfl
 ·have e:=qD h (by decide +kernel);have n1:eqS ⟨#[108,111,119]⟩ ⟨#[104,105,103,104]⟩=false:=by decide +kernel
  have e0:kO 0=⟨#[108,111,119]⟩:=by decide +kernel
  rw [e0] at e h;unfold label;rw [e,n1,ju (by simp),yY h (by decide +kernel)]
 ·have e:=qD h (by decide +kernel);have n1:eqS ⟨#[104,105,103,104]⟩ ⟨#[104,105,103,104]⟩=true:=by decide +kernel
  have e0:kO 1=⟨#[104,105,103,104]⟩:=by decide +kernel
  rw [e0] at e;unfold label;rw [e,n1,jv rfl];rfl
theorem zao (y:ByteArray) {r:List ByteArray} (ho:kD f 0 t=some ws) (h:AtW ts i (ws++y :: r)) (hd:yN y=false) (hy:Fol 0 y):Ez ts i (t,⟨i+ws.length,false⟩):=by
 have hz:=h.right;exact p_e ((zge ts f).p 0 t ws i (by omega) ho h.left (by rw [qD hz hd];exact hy))
theorem ze3 {c r:List ByteArray} {t0:Tree} (hc:kW (kD f 0) [t0]=some c) (h:AtW ts i (c++r)):∃ F,zJ ts F ⟨i,false⟩=some (t0,⟨i+c.length,false⟩):=by
 have hc':((kD f 0 t0).bind fun a=>(some ([]:List ByteArray)).bind fun b=>some (([]:List ByteArray)++a++b)).bind (fun e=>some ([⟨#[40]⟩]++e++[⟨#[41]⟩]))=some c:=hc
 cases he:kD f 0 t0 with
 | none=>rw [he] at hc';cases hc'
 | some a =>
  rw [he] at hc';simp only [jf,js,List.append_nil,jh] at hc';subst hc';have h1:AtW ts i (⟨#[40]⟩ :: (a++⟨#[41]⟩ :: r)):=by simpa using h
  obtain ⟨F,hF⟩:=zao ⟨#[41]⟩ he h1.tail (by decide +kernel) (dR _ (by decide +kernel));have hz:=h1.tail.right;refine ⟨F+1,?_⟩;unfold zJ;rw [yY h1 (by decide +kernel),hF];show some (t0,kF ts ⟨#[41]⟩ ⟨i+1+a.length,false⟩)=_;rw [yY hz (by decide +kernel)];have:([(⟨#[40]⟩:ByteArray)]++a++[(⟨#[41]⟩:ByteArray)]).length=a.length+2:=by simp
  rw [this];have:i+(a.length+2)=i+1+a.length+1:=by omega
  rw [this]
theorem zkf (y:ByteArray) {r:List ByteArray} (ho:yI f t=some ws) (h:AtW ts i (ws++y :: r)) (hd:yN y=false) (hy:Fol 0 y):∃ x j F,whole ts ⟨i,false⟩=(x,⟨j,false⟩)/\qX ts F x ⟨j,false⟩=some (t,⟨i+ws.length,false⟩):=by
 unfold yI at ho;by_cases hl:kI [16,17] t=true
 ·rw [jv hl] at ho
  cases f with
  | zero=>simp [kD] at ho
  | succ f =>
   obtain ⟨k,x,m,ks⟩:=t;have hz:=h.right;have ey:=qD hz hd;unfold kI at hl;simp only [jj,jl] at hl;obtain ⟨⟨⟨⟨⟨hc,h1⟩,h2⟩,h3⟩,h4⟩,h5⟩:=hl
   have hk:k=16\/k=17:=by
    have:=List.contains_iff_mem.1 hc;simpa using this
   unfold kD at ho;by_cases hl2:kI yT (.node k x m ks)=true
   ·rw [jv hl2] at ho;rcases hk with rfl | rfl
    ·rw [jv (by show (0:Int)<=4;omega)] at ho;have hw:kV x=some ws:=ho;have h1':(0:Int)<=m:=h1;have h2':m<=0:=h2;obtain rfl:m=0:=by omega
     have h4':(ks.length:Int)<=0:=h4;obtain rfl:ks=[]:=List.eq_nil_of_length_eq_zero (by omega);refine ⟨x,i+ws.length,1,zdb hw h (by rw [ey];exact hy.pt),?_⟩;unfold qX;rw [ey,hy.br,ju (by simp)]
    ·rw [jv (by show (0:Int)<=4;omega)] at ho;have h1':(0:Int)<=m:=h1;have h2':m<=0:=h2;obtain rfl:m=0:=by omega
     obtain ⟨t0,rfl⟩:=dN ks h3 h4;have ho':((kV x).bind fun nm=>(kD f 0 t0).bind fun e=>some (nm++[⟨#[91]⟩]++e++[⟨#[93]⟩]))=some ws:=ho
     cases hn:kV x with
     | none=>rw [hn] at ho';cases ho'
     | some nm =>
      rw [hn] at ho'
      cases he:kD f 0 t0 with
      | none=>simp only [jf,he] at ho';cases ho'
      | some e =>
       simp only [jf,he,jh] at ho';subst ho';have hA:AtW ts i (nm++(⟨#[91]⟩ :: (e++⟨#[93]⟩ :: y :: r))):=by simpa using h
       have hb:=hA.right;have eb:=qD hb (by decide +kernel);obtain ⟨F,hF⟩:=zao ⟨#[93]⟩ he hb.tail (by decide +kernel) (dR _ (by decide +kernel));have hq:=hb.tail.right;have n1:eqS ⟨#[91]⟩ ⟨#[46]⟩=false:=by decide +kernel
       have n3:eqS ⟨#[91]⟩ ⟨#[91]⟩=true:=by decide +kernel
       refine ⟨x,i+nm.length,F+1,zdb hn hA (by rw [eb];exact n1),?_⟩;unfold qX;rw [eb,n3,jv rfl];show ((qB ts F ⟨i+nm.length+1,false⟩).bind _)=_;rw [hF];show some (Tree.node 17 x 0 [t0],kF ts ⟨#[93]⟩ ⟨i+nm.length+1+e.length,false⟩)=_;rw [yY hq (by decide +kernel)];have e2:(nm++[(⟨#[91]⟩:ByteArray)]++e++[(⟨#[93]⟩:ByteArray)]).length=nm.length+e.length+2:=by simp;omega
       have:i+(nm.length+e.length+2)=i+nm.length+1+e.length+1:=by omega
       rw [e2,this]
   ·rw [ju hl2] at ho;cases ho
 ·rw [ju hl] at ho;cases ho
theorem yal {r:List ByteArray} (ho:doW f t=some ws) (h:AtW ts i (ws++r)):∃ x j F,whole ts ⟨i,false⟩=(x,⟨j,false⟩)/\zT ts F x ⟨j,false⟩=some (t,⟨i+ws.length,false⟩):=by
 unfold doW at ho;by_cases hl:kI [18] t=true
 ·rw [jv hl] at ho
  cases f with
  | zero=>simp [kD] at ho
  | succ f =>
   obtain ⟨k,x,m,ks⟩:=t;unfold kI at hl;simp only [jj,jl] at hl;obtain ⟨⟨⟨⟨⟨hc,h1⟩,h2⟩,h3⟩,h4⟩,h5⟩:=hl
   obtain rfl:k=18:=by
    have:=List.contains_iff_mem.1 hc;simpa using this
   have h1':(0:Int)<=m:=h1;have h2':m<=0:=h2;obtain rfl:m=0:=by omega
   unfold kD at ho;by_cases hl2:kI yT (.node 18 x 0 ks)=true
   ·rw [jv hl2,jv (by show (0:Int)<=4;omega)] at ho;have ho':((kV x).bind fun nm=>(kU (kD f 0) 0 ks).bind fun e=>some (nm++[⟨#[40]⟩]++e++[⟨#[41]⟩]))=some ws:=ho
    cases hn:kV x with
    | none=>rw [hn] at ho';cases ho'
    | some nm =>
     rw [hn] at ho'
     cases he:kU (kD f 0) 0 ks with
     | none=>simp only [jf,he] at ho';cases ho'
     | some e =>
      simp only [jf,he,jh] at ho';subst ho';have hA:AtW ts i (nm++(⟨#[40]⟩ :: (e++⟨#[41]⟩ :: r))):=by simpa using h
      have hb:=hA.right;have eb:=qD hb (by decide +kernel);have n1:eqS ⟨#[40]⟩ ⟨#[46]⟩=false:=by decide +kernel
      have n2:eqS ⟨#[40]⟩ ⟨#[40]⟩=true:=by decide +kernel
      have hwh:=zdb hn hA (by rw [eb];exact n1);obtain ⟨F,hF⟩:=znd (zge ts f) hn he (AtW.left (b:=r) (by simpa using h))
      cases F with
      | zero=>simp [zF] at hF
      | succ F =>
       rw [zcc hn hA (by rw [eb];exact n1),eb,n2,jv rfl] at hF;refine ⟨x,_,F,hwh,?_⟩;have e2:(nm++[(⟨#[40]⟩:ByteArray)]++e++[(⟨#[41]⟩:ByteArray)]).length=nm.length+e.length+2:=by simp;omega
       rw [e2];exact hF
   ·rw [ju hl2] at ho;cases ho
 ·rw [ju hl] at ho;cases ho
end
section
variable {ts:List Tok} {f i:Nat} {t:Tree} {ws:List ByteArray}
theorem fB {x:ByteArray} (h:xB x 1=true):kK x=true:=by
 unfold xB at h;rw [ju (by decide)] at h
 cases hw:kV x with
 | none=>rw [hw] at h;cases h
 | some l =>
  rw [hw] at h;have hl:(l.length:Int)<2*1:=by simpa using h
  unfold kV at hw
  cases hc:yL x.data.toList with
  | mk a ob =>
   rw [hc] at hw
   cases ob with
   | none =>
    dsimp only at hw;by_cases hx:kK x=true;·exact hx
    ·rw [ju hx] at hw;cases hw
   | some bs =>
    dsimp only at hw;by_cases hx:(kK ⟨a.toArray⟩&&kK ⟨bs.toArray⟩)=true;·rw [jv hx] at hw;obtain rfl:=jw hw;simp at hl
    ·rw [ju hx] at hw;cases hw
theorem zih (ho:yI f t=some ws):∃ y r,ws=y :: r/\kK y=true:=by
 unfold yI at ho;by_cases hl:kI [16,17] t=true
 ·rw [jv hl] at ho
  cases f with
  | zero=>simp [kD] at ho
  | succ f =>
   obtain ⟨k,x,m,ks⟩:=t;unfold kI at hl;simp only [jj,jl] at hl
   have hk:k=16\/k=17:=by
    have:=List.contains_iff_mem.1 hl.1.1.1.1.1;simpa using this
   unfold kD at ho;by_cases hl2:kI yT (.node k x m ks)=true
   ·rw [jv hl2] at ho;rcases hk with rfl | rfl
    ·rw [jv (by show (0:Int)<=4;omega)] at ho;exact zcq ho
    ·rw [jv (by show (0:Int)<=4;omega)] at ho;have ho':((kV x).bind fun nm=>(kD f 0 (ks.getD 0 noT)).bind fun e=>some (nm++[⟨#[91]⟩]++e++[⟨#[93]⟩]))=some ws:=ho
     cases hn:kV x with
     | none=>rw [hn] at ho';cases ho'
     | some nm =>
      rw [hn] at ho'
      cases he:kD f 0 (ks.getD 0 noT) with
      | none=>simp only [jf,he] at ho';cases ho'
      | some e =>
       simp only [jf,he,jh] at ho';subst ho';obtain ⟨y,r,rfl,hy⟩:=zcq hn;exact ⟨y,_,rfl,hy⟩
   ·rw [ju hl2] at ho;cases ho
 ·rw [ju hl] at ho;cases ho
structure RTS (ts:List Tok) (f:Nat):Prop where
 bk:∀ (t:Tree) (ws:List ByteArray) (i:Nat),kS f t=some ws->AtW ts i ws->∃ F,qZ ts F ⟨i,false⟩=some (t,⟨i+ws.length,false⟩)
 st:∀ (t:Tree) (ws:List ByteArray) (i:Nat),kL f t=some ws->AtW ts i ws->eqS (txt ts ⟨i+ws.length,false⟩) ⟨#[101,108,115,101]⟩=false->∃ F,zI ts F ⟨i,false⟩=some (t,⟨i+ws.length,false⟩)
def zgn (ws:List ByteArray):Prop:=∃ y r,ws=y :: r/\yN y=false/\eqS y ⟨#[125]⟩=false/\eqS y ⟨#[101,108,115,101]⟩=false
theorem fX (y:ByteArray) (r:List ByteArray) (h:(!yN y&&!eqS y ⟨#[125]⟩&&!eqS y ⟨#[101,108,115,101]⟩)=true):zgn (y :: r):=by
 simp only [jj,Bool.not_eq_true'] at h;exact ⟨y,r,rfl,h.1.1,h.1.2,h.2⟩
theorem ztn (m:Int) (r:List ByteArray):zgn (kO m :: r):=by
 unfold kO;by_cases h:m=1;·rw [jv h];exact fX _ _ (by decide +kernel)
 ·rw [ju h];exact fX _ _ (by decide +kernel)
theorem zjs (h:kL f t=some ws):zgn ws:=by
 cases f with
 | zero=>simp [kL] at h
 | succ f =>
  obtain ⟨k,x,m,ks⟩:=t;unfold kL at h;by_cases hl:kI kQ (.node k x m ks)=true
  ·rw [jv hl] at h;by_cases h10:k=10
   ·rw [jv h10] at h
    cases hc:kW (kD f 0) (ks.take 1) with
    | none=>rw [hc] at h;cases h
    | some c =>
     rw [hc] at h
     cases hb:kS f (ks.getD 1 noT) with
     | none=>simp only [jf,hb] at h;cases h
     | some b =>
      simp only [jf,hb] at h;by_cases h2:2<ks.length
      ·rw [jv h2] at h
       cases hd:kS f (ks.getD 2 noT) with
       | none=>rw [hd] at h;cases h
       | some d =>
        rw [hd] at h;obtain rfl:=jw h;exact fX _ _ (by decide +kernel)
      ·rw [ju h2] at h;obtain rfl:=jw h;exact fX _ _ (by decide +kernel)
   rw [ju h10] at h;by_cases h11:k=11
   ·rw [jv h11] at h
    cases hc:kW (kD f 0) (ks.take 1) with
    | none=>rw [hc] at h;cases h
    | some c =>
     rw [hc] at h
     cases hb:kS f (ks.getD 1 noT) with
     | none=>simp only [jf,hb] at h;cases h
     | some b =>
      simp only [jf,hb,jh] at h;subst h;exact fX _ _ (by decide +kernel)
   rw [ju h11] at h;by_cases h7:k=7
   ·rw [jv h7] at h
    cases hc:kD f 0 (ks.getD 0 noT) with
    | none=>rw [hc] at h;cases h
    | some c =>
     rw [hc] at h;obtain rfl:=jw h;exact ztn _ _
   rw [ju h7] at h;by_cases h8:k=8
   ·rw [jv h8] at h
    cases hp:yI f (ks.getD 0 noT) with
    | none=>rw [hp] at h;cases h
    | some p =>
     rw [hp] at h
     cases hc:kD f 0 (ks.getD 1 noT) with
     | none=>simp only [jf,hc] at h;cases h
     | some c =>
      simp only [jf,hc,jh] at h;subst h;obtain ⟨y,r,rfl,hy⟩:=zih hp;exact ⟨y,_,rfl,zaj hy,cW hy (by decide +kernel),cW hy (by decide +kernel)⟩
   rw [ju h8] at h;by_cases h9:k=9
   ·rw [jv h9] at h
    cases hc:doW f (ks.getD 0 noT) with
    | none=>rw [hc] at h;cases h
    | some c =>
     rw [hc] at h;obtain rfl:=jw h;exact fX _ _ (by decide +kernel)
   rw [ju h9] at h;by_cases h12:k=12
   ·rw [jv h12] at h
    cases hc:kD f 0 (ks.getD 0 noT) with
    | none=>rw [hc] at h;cases h
    | some c =>
     rw [hc] at h;obtain rfl:=jw h;exact fX _ _ (by decide +kernel)
   rw [ju h12] at h;by_cases h13:k=13
   ·rw [jv h13] at h
    cases hc:yI f (ks.getD 0 noT) with
    | none=>rw [hc] at h;cases h
    | some c =>
     rw [hc] at h;obtain rfl:=jw h;exact fX _ _ (by decide +kernel)
   rw [ju h13] at h
   cases hc:kD f 0 (ks.getD 0 noT) with
   | none=>rw [hc] at h;cases h
   | some c =>
    rw [hc] at h;obtain rfl:=jw h;exact fX _ _ (by decide +kernel)
  ·rw [ju hl] at h;cases h
theorem zm6 (ih:RTS ts f):∀ (ks:List Tree) (b:List ByteArray) (done:List Tree) (i:Nat),kP (kL f) ks=some b->AtW ts i (b++[⟨#[125]⟩])->∃ F,zQ ts F done ⟨i,false⟩=some (.node 6 empty 0 (done++ks),⟨i+(b.length+1),false⟩)
 | [],b,done,i,hb,h=>by
  obtain rfl:=(jw hb)
  have e:=qD (r:=[]) h (by decide +kernel);have n:eqS ⟨#[125]⟩ ⟨#[125]⟩=true:=by decide +kernel
  refine ⟨1,?_⟩;unfold zQ;rw [ju (by simp),e,n,jv rfl];simp only [List.append_nil]
  rfl
 | t :: r,b,done,i,hb,h=>by
  unfold kP at hb
  cases ha:kL f t with
  | none=>rw [ha] at hb;cases hb
  | some a =>
   rw [ha] at hb
   cases hr:kP (kL f) r with
   | none=>simp only [jf,hr] at hb;cases hb
   | some b' =>
    simp only [jf,hr,jh] at hb;subst hb;have h1:AtW ts i (a++(b'++[⟨#[125]⟩])):=by simpa using h
    obtain ⟨y,ra,rfl,hd,hy1,hy2⟩:=zjs ha;have e:=qD (r:=ra++(b'++[⟨#[125]⟩])) h1 hd;have hz:=h1.right
    have hel:eqS (txt ts ⟨i+(y :: ra).length,false⟩) ⟨#[101,108,115,101]⟩=false:=by
     cases r with
     | nil =>
      obtain rfl:=(jw hr)
      rw [qD (r:=[]) hz (by decide +kernel)]
      decide +kernel
     | cons t2 r2 =>
      unfold kP at hr
      cases ha2:kL f t2 with
      | none=>rw [ha2] at hr;cases hr
      | some a2 =>
       rw [ha2] at hr
       cases hr2:kP (kL f) r2 with
       | none=>simp only [jf,hr2] at hr;cases hr
       | some b2 =>
        simp only [jf,hr2,jh] at hr;subst hr;obtain ⟨y2,ra2,rfl,hd2,_,hy4⟩:=zjs ha2;rw [qD (r:=ra2++b2++[⟨#[125]⟩]) (by simpa using hz) hd2];exact hy4
    obtain ⟨F,hF⟩:=ih.st t (y :: ra) i ha h1.left hel;obtain ⟨G,hG⟩:=zm6 ih r b' (done++[t]) _ hr hz;refine ⟨max F G+1,?_⟩;unfold zQ;rw [ju (by simp),e,hy1,ju (by simp),zv5 (Nat.le_max_left F G) hF];show zQ ts (max F G) (done++[t]) ⟨i+(y :: ra).length,false⟩=_;rw [zsb (Nat.le_max_right F G) hG];have e1:done++[t]++r=done++t :: r:=by simp
    rw [e1]
    congr 3
    simp only [jb];omega
theorem zt3 (ih:RTS ts f) (ho:kS (f+1) t=some ws) (h:AtW ts i ws):∃ F,qZ ts F ⟨i,false⟩=some (t,⟨i+ws.length,false⟩):=by
 obtain ⟨k,x,m,ks⟩:=t;unfold kS at ho;by_cases hl:kI [6] (.node k x m ks)=true
 ·rw [jv hl] at ho
  cases hb:kP (kL f) ks with
  | none=>rw [hb] at ho;cases ho
  | some b =>
   rw [hb] at ho;obtain rfl:=jw ho;unfold kI at hl;simp only [jj,jl] at hl;obtain ⟨⟨⟨⟨⟨hc,h1⟩,h2⟩,h3⟩,h4⟩,h5⟩:=hl
   obtain rfl:k=6:=by
    have:=List.contains_iff_mem.1 hc;simpa using this
   have h1':(0:Int)<=m:=h1;have h2':m<=0:=h2;obtain rfl:m=0:=by omega
   obtain rfl:=uW h5;have hA:AtW ts i (⟨#[123]⟩ :: (b++[⟨#[125]⟩])):=by simpa using h
   obtain ⟨F,hF⟩:=zm6 ih ks b [] _ hb hA.tail;refine ⟨F+1,?_⟩;unfold qZ;rw [yY hA (by decide +kernel),hF];have e2:([(⟨#[123]⟩:ByteArray)]++b++[(⟨#[125]⟩:ByteArray)]).length=b.length+2:=by simp
   have:i+(b.length+2)=i+1+(b.length+1):=by omega
   rw [e2,this];rfl
 ·rw [ju hl] at ho;cases ho
end
section
variable {ts:List Tok} {f i:Nat} {t:Tree} {ws:List ByteArray}
theorem zbu:Fol 0 ⟨#[59]⟩:=dR _ (by decide +kernel)
theorem zyp:Fol 0 ⟨#[61]⟩:=dR _ (by decide +kernel)
theorem zyo:∀ (ks:List Tree),(2:Int)<=ks.length->(ks.length:Int)<=3->(∃ a b,ks=[a,b])\/∃ a b c,ks=[a,b,c]
 | [a,b],_,_=>.inl ⟨a,b,rfl⟩
 | [a,b,c],_,_=>.inr ⟨a,b,c,rfl⟩
 | [],a,_=>by simp at a
 | [_],a,_=>by simp at a
 | _ :: _ :: _ :: _ :: _,_,b=>by simp only [jd] at b;omega
theorem zx1 (ih:RTS ts f) (ho:kL (f+1) t=some ws) (h:AtW ts i ws) (hel:eqS (txt ts ⟨i+ws.length,false⟩) ⟨#[101,108,115,101]⟩=false):∃ F,zI ts F ⟨i,false⟩=some (t,⟨i+ws.length,false⟩):=by
 obtain ⟨k,x,m,ks⟩:=t;unfold kL at ho;by_cases hl:kI kQ (.node k x m ks)=true
 ·rw [jv hl] at ho;unfold kI at hl;simp only [jj,jl] at hl;obtain ⟨⟨⟨⟨⟨hc,h1⟩,h2⟩,h3⟩,h4⟩,h5⟩:=hl
  have hk:k=7\/k=8\/k=9\/k=10\/k=11\/k=12\/k=13\/k=14:=by
   have:=List.contains_iff_mem.1 hc;simpa [kQ] using this
  rcases hk with rfl | rfl | rfl | rfl | rfl | rfl | rfl | rfl
  ·skip;rw [ju (by decide),ju (by decide),jv rfl] at ho;have h1z:(0:Int)<=m:=h1;have h2z:m<=1:=h2;have hm:m=0\/m=1:=by omega
   obtain ⟨t0,rfl⟩:=dN ks h3 h4;have hx:=fB h5;have ho2:((kD f 0 t0).bind fun e=>some ([kO m]++[x,⟨#[61]⟩]++e++[⟨#[59]⟩]))=some ws:=ho
   cases he:kD f 0 t0 with
   | none=>rw [he] at ho2;cases ho2
   | some e =>
    rw [he] at ho2;obtain rfl:=jw ho2;have hA:AtW ts i (kO m :: x :: ⟨#[61]⟩ :: (e++[⟨#[59]⟩])):=by simpa using h
    have hlab:=dB hm hA;have hnm:=fE hA.tail hx;have hq:=yY hA.tail.tail (by decide +kernel);obtain ⟨F,hF⟩:=zao ⟨#[59]⟩ he hA.tail.tail.tail (by decide +kernel) zbu;have hz:=yY hA.tail.tail.tail.right (by decide +kernel);have hdm:yN (kO m)=false:=by rcases hm with rfl | rfl<;>decide +kernel
    have e1:=qD hA hdm;have t1:eqS (kO m) ⟨#[105,102]⟩=false:=by rcases hm with rfl | rfl<;>decide +kernel
    have t2:eqS (kO m) ⟨#[119,104,105,108,101]⟩=false:=by rcases hm with rfl | rfl<;>decide +kernel
    have t3:(eqS (kO m) ⟨#[108,111,119]⟩||eqS (kO m) ⟨#[104,105,103,104]⟩)=true:=by rcases hm with rfl | rfl<;>decide +kernel
    refine ⟨F+1,?_⟩;unfold zI;rw [e1,t1,ju (by simp),t2,ju (by simp),t3,jv rfl,hlab];dsimp only;rw [hnm];dsimp only;rw [hq,hF];dsimp only [Option.bind_some];rw [hz]
    congr 3
    simp only [jb,jd,je];omega
  ·skip;rw [ju (by decide),ju (by decide),ju (by decide),jv rfl] at ho;have h1z:(0:Int)<=m:=h1;have h2z:m<=0:=h2;obtain rfl:m=0:=by omega
   obtain rfl:=uW h5;obtain ⟨t0,t1,rfl⟩:=zg4 ks h3 h4;have ho2:((yI f t0).bind fun p=>(kD f 0 t1).bind fun e=>some (p++[⟨#[61]⟩]++e++[⟨#[59]⟩]))=some ws:=ho
   cases hp:yI f t0 with
   | none=>rw [hp] at ho2;cases ho2
   | some p =>
    rw [hp] at ho2
    cases he:kD f 0 t1 with
    | none=>simp only [jf,he] at ho2;cases ho2
    | some e =>
     simp only [jf,he,jh] at ho2;subst ho2;have hA:AtW ts i (p++(⟨#[61]⟩ :: (e++[⟨#[59]⟩]))):=by simpa using h
     obtain ⟨y,rp,hyp,hy⟩:=zih hp;obtain ⟨xn,jn,F,hw,hF⟩:=zkf ⟨#[61]⟩ hp hA (by decide +kernel) zyp;have hq:=yY hA.right (by decide +kernel);obtain ⟨G,hG⟩:=zao ⟨#[59]⟩ he hA.right.tail (by decide +kernel) zbu;have hz:=yY hA.right.tail.right (by decide +kernel)
     have e1:txt ts ⟨i,false⟩=y:=by
      subst hyp;rw [jK] at hA;exact qD hA (zaj hy)
     have tn:∀ z,kK z=false->eqS y z=false:=fun z hz=>cW hy hz
     have t3:(eqS y ⟨#[108,111,119]⟩||eqS y ⟨#[104,105,103,104]⟩)=false:=by rw [tn _ (by decide +kernel),tn _ (by decide +kernel)];rfl
     refine ⟨max F G+1,?_⟩;unfold zI;rw [e1,tn _ (by decide +kernel),ju (by simp),tn _ (by decide +kernel),ju (by simp),t3,ju (by simp),tn _ (by decide +kernel),ju (by simp),tn _ (by decide +kernel),ju (by simp),tn _ (by decide +kernel),ju (by simp),tn _ (by decide +kernel),ju (by simp),hw];dsimp only;rw [zvb (Nat.le_max_left F G) hF];dsimp only [Option.bind_some];rw [hq,zf8 (Nat.le_max_right F G) hG];dsimp only [Option.bind_some];rw [hz]
     congr 3
     simp only [jb,jd,je];omega
  ·skip;rw [ju (by decide),ju (by decide),ju (by decide),ju (by decide),jv rfl] at ho;have h1z:(0:Int)<=m:=h1;have h2z:m<=0:=h2;obtain rfl:m=0:=by omega
   obtain rfl:=uW h5;obtain ⟨t0,rfl⟩:=dN ks h3 h4;have ho2:((doW f t0).bind fun e=>some ([⟨#[100,111]⟩]++e++[⟨#[59]⟩]))=some ws:=ho
   cases he:doW f t0 with
   | none=>rw [he] at ho2;cases ho2
   | some e =>
    rw [he] at ho2;obtain rfl:=jw ho2;have hA:AtW ts i (⟨#[100,111]⟩ :: (e++[⟨#[59]⟩])):=by simpa using h
    obtain ⟨xn,jn,F,hw,hF⟩:=yal he hA.tail;have hz:=yY hA.tail.right (by decide +kernel);have e1:=qD hA (by decide +kernel);have t_if:eqS ⟨#[100,111]⟩ ⟨#[105,102]⟩=false:=by decide +kernel
    have t_while:eqS ⟨#[100,111]⟩ ⟨#[119,104,105,108,101]⟩=false:=by decide +kernel
    have t_LH:(eqS ⟨#[100,111]⟩ ⟨#[108,111,119]⟩||eqS ⟨#[100,111]⟩ ⟨#[104,105,103,104]⟩)=false:=by decide +kernel
    have t_do:eqS ⟨#[100,111]⟩ ⟨#[100,111]⟩=true:=by decide +kernel
    refine ⟨F+1,?_⟩;have en:(⟨i,false⟩:St).next=⟨i+1,false⟩:=rfl;unfold zI;rw [e1,t_if,ju (by simp),t_while,ju (by simp),t_LH,ju (by simp),t_do,jv rfl,en,hw];dsimp only;rw [hF];dsimp only [Option.bind_some];rw [hz]
    congr 3
    simp only [jb,jd,je];omega
  ·skip;rw [jv rfl] at ho;have h1z:(0:Int)<=m:=h1;have h2z:m<=0:=h2;obtain rfl:m=0:=by omega
   obtain rfl:=uW h5;rcases zyo ks h3 h4 with ⟨t0,t1,rfl⟩|⟨t0,t1,t2,rfl⟩
   ·have ho2:((kW (kD f 0) [t0]).bind fun c=>(kS f t1).bind fun b=>some ([⟨#[105,102]⟩]++c++b))=some ws:=ho
    cases hcc:kW (kD f 0) [t0] with
    | none=>rw [hcc] at ho2;cases ho2
    | some c =>
     rw [hcc] at ho2
     cases hb:kS f t1 with
     | none=>simp only [jf,hb] at ho2;cases ho2
     | some b =>
      simp only [jf,hb,jh] at ho2;subst ho2;have hA:AtW ts i (⟨#[105,102]⟩ :: (c++b)):=by simpa using h
      obtain ⟨F,hF⟩:=ze3 hcc hA.tail;obtain ⟨G,hG⟩:=ih.bk t1 b _ hb hA.tail.right;have e1:=qD hA (by decide +kernel);have hlen:i+([(⟨#[105,102]⟩:ByteArray)]++c++b).length=i+1+c.length+b.length:=by simp;omega
      rw [hlen] at hel |-;have t_if:eqS ⟨#[105,102]⟩ ⟨#[105,102]⟩=true:=by decide +kernel
      refine ⟨max F G+1,?_⟩;have en:(⟨i,false⟩:St).next=⟨i+1,false⟩:=rfl;unfold zI;rw [e1,t_if,jv rfl,en,zff (Nat.le_max_left F G) hF];dsimp only [Option.bind_some];rw [zah (Nat.le_max_right F G) hG];dsimp only [Option.bind_some];rw [hel,ju (by simp)]
   ·have ho2:((kW (kD f 0) [t0]).bind fun c=>(kS f t1).bind fun b=>(kS f t2).bind fun d=>some ([⟨#[105,102]⟩]++c++b++[⟨#[101,108,115,101]⟩]++d))=some ws:=ho
    cases hcc:kW (kD f 0) [t0] with
    | none=>rw [hcc] at ho2;cases ho2
    | some c =>
     rw [hcc] at ho2
     cases hb:kS f t1 with
     | none=>simp only [jf,hb] at ho2;cases ho2
     | some b =>
      cases hd:kS f t2 with
      | none=>simp only [jf,hb,hd] at ho2;cases ho2
      | some d =>
       simp only [jf,hb,hd,jh] at ho2;subst ho2;have hA:AtW ts i (⟨#[105,102]⟩ :: (c++(b++(⟨#[101,108,115,101]⟩ :: d)))):=by simpa using h
       obtain ⟨F,hF⟩:=ze3 hcc hA.tail;have hB:=hA.tail.right;obtain ⟨G,hG⟩:=ih.bk t1 b _ hb hB.left;have hC:=hB.right;obtain ⟨K,hK⟩:=ih.bk t2 d _ hd hC.tail;have e1:=qD hA (by decide +kernel);have e2:=qD hC (by decide +kernel);have te:eqS ⟨#[101,108,115,101]⟩ ⟨#[101,108,115,101]⟩=true:=by decide +kernel
       have hlen:i+([(⟨#[105,102]⟩:ByteArray)]++c++b++[(⟨#[101,108,115,101]⟩:ByteArray)]++d).length=i+1+c.length+b.length+1+d.length:=by simp;omega
       rw [hlen];have t_if:eqS ⟨#[105,102]⟩ ⟨#[105,102]⟩=true:=by decide +kernel
       refine ⟨max F (max G K)+1,?_⟩;have en:(⟨i,false⟩:St).next=⟨i+1,false⟩:=rfl;have en2:(⟨i+1+c.length+b.length,false⟩:St).next=⟨i+1+c.length+b.length+1,false⟩:=rfl;unfold zI;rw [e1,t_if,jv rfl,en,zff (Nat.le_max_left F (max G K)) hF];dsimp only [Option.bind_some];rw [zah (jp (Nat.le_max_left G K) (Nat.le_max_right F (max G K))) hG];dsimp only [Option.bind_some];rw [e2,te,jv rfl,en2,zah (jp (Nat.le_max_right G K) (Nat.le_max_right F (max G K))) hK];rfl
  ·skip;rw [ju (by decide),jv rfl] at ho;have h1z:(0:Int)<=m:=h1;have h2z:m<=0:=h2;obtain rfl:m=0:=by omega
   obtain rfl:=uW h5;obtain ⟨t0,t1,rfl⟩:=zg4 ks h3 h4;have ho2:((kW (kD f 0) [t0]).bind fun c=>(kS f t1).bind fun b=>some ([⟨#[119,104,105,108,101]⟩]++c++b))=some ws:=ho
   cases hcc:kW (kD f 0) [t0] with
   | none=>rw [hcc] at ho2;cases ho2
   | some c =>
    rw [hcc] at ho2
    cases hb:kS f t1 with
    | none=>simp only [jf,hb] at ho2;cases ho2
    | some b =>
     simp only [jf,hb,jh] at ho2;subst ho2;have hA:AtW ts i (⟨#[119,104,105,108,101]⟩ :: (c++b)):=by simpa using h
     obtain ⟨F,hF⟩:=ze3 hcc hA.tail;obtain ⟨G,hG⟩:=ih.bk t1 b _ hb hA.tail.right;have e1:=qD hA (by decide +kernel);have hlen:i+([(⟨#[119,104,105,108,101]⟩:ByteArray)]++c++b).length=i+1+c.length+b.length:=by simp;omega
     rw [hlen];have t_if:eqS ⟨#[119,104,105,108,101]⟩ ⟨#[105,102]⟩=false:=by decide +kernel
     have t_while:eqS ⟨#[119,104,105,108,101]⟩ ⟨#[119,104,105,108,101]⟩=true:=by decide +kernel
     refine ⟨max F G+1,?_⟩;have en:(⟨i,false⟩:St).next=⟨i+1,false⟩:=rfl;unfold zI;rw [e1,t_if,ju (by simp),t_while,jv rfl,en,zff (Nat.le_max_left F G) hF];dsimp only [Option.bind_some];rw [zah (Nat.le_max_right F G) hG];rfl
  ·skip;rw [ju (by decide),ju (by decide),ju (by decide),ju (by decide),ju (by decide),jv rfl] at ho;have h1z:(0:Int)<=m:=h1;have h2z:m<=1:=h2;have hm:m=0\/m=1:=by omega
   obtain rfl:=uW h5;obtain ⟨t0,rfl⟩:=dN ks h3 h4;have ho2:((kD f 0 t0).bind fun e=>some ([⟨#[111,117,116]⟩]++[kO m]++e++[⟨#[59]⟩]))=some ws:=ho
   cases he:kD f 0 t0 with
   | none=>rw [he] at ho2;cases ho2
   | some e =>
    rw [he] at ho2;obtain rfl:=jw ho2;have hA:AtW ts i (⟨#[111,117,116]⟩ :: kO m :: (e++[⟨#[59]⟩])):=by simpa using h
    have hlab:=dB hm hA.tail;obtain ⟨F,hF⟩:=zao ⟨#[59]⟩ he hA.tail.tail (by decide +kernel) zbu;have hz:=yY hA.tail.tail.right (by decide +kernel);have e1:=qD hA (by decide +kernel);have t_if:eqS ⟨#[111,117,116]⟩ ⟨#[105,102]⟩=false:=by decide +kernel
    have t_while:eqS ⟨#[111,117,116]⟩ ⟨#[119,104,105,108,101]⟩=false:=by decide +kernel
    have t_LH:(eqS ⟨#[111,117,116]⟩ ⟨#[108,111,119]⟩||eqS ⟨#[111,117,116]⟩ ⟨#[104,105,103,104]⟩)=false:=by decide +kernel
    have t_do:eqS ⟨#[111,117,116]⟩ ⟨#[100,111]⟩=false:=by decide +kernel
    have t_out:eqS ⟨#[111,117,116]⟩ ⟨#[111,117,116]⟩=true:=by decide +kernel
    refine ⟨F+1,?_⟩;have en:(⟨i,false⟩:St).next=⟨i+1,false⟩:=rfl;unfold zI;rw [e1,t_if,ju (by simp),t_while,ju (by simp),t_LH,ju (by simp),t_do,ju (by simp),t_out,jv rfl,en,hlab];dsimp only;rw [hF];dsimp only [Option.bind_some];rw [hz]
    congr 3
    simp only [jb,jd,je];omega
  ·skip;rw [ju (by decide),ju (by decide),ju (by decide),ju (by decide),ju (by decide),ju (by decide),jv rfl] at ho;have h1z:(0:Int)<=m:=h1;have h2z:m<=1:=h2;have hm:m=0\/m=1:=by omega
   obtain rfl:=uW h5;obtain ⟨t0,rfl⟩:=dN ks h3 h4;have ho2:((yI f t0).bind fun e=>some ([⟨#[105,110]⟩]++[kO m]++e++[⟨#[59]⟩]))=some ws:=ho
   cases he:yI f t0 with
   | none=>rw [he] at ho2;cases ho2
   | some e =>
    rw [he] at ho2;obtain rfl:=jw ho2;have hA:AtW ts i (⟨#[105,110]⟩ :: kO m :: (e++[⟨#[59]⟩])):=by simpa using h
    have hlab:=dB hm hA.tail;obtain ⟨xn,jn,F,hw,hF⟩:=zkf ⟨#[59]⟩ he hA.tail.tail (by decide +kernel) zbu;have hz:=yY hA.tail.tail.right (by decide +kernel);have e1:=qD hA (by decide +kernel);have t_if:eqS ⟨#[105,110]⟩ ⟨#[105,102]⟩=false:=by decide +kernel
    have t_while:eqS ⟨#[105,110]⟩ ⟨#[119,104,105,108,101]⟩=false:=by decide +kernel
    have t_LH:(eqS ⟨#[105,110]⟩ ⟨#[108,111,119]⟩||eqS ⟨#[105,110]⟩ ⟨#[104,105,103,104]⟩)=false:=by decide +kernel
    have t_do:eqS ⟨#[105,110]⟩ ⟨#[100,111]⟩=false:=by decide +kernel
    have t_out:eqS ⟨#[105,110]⟩ ⟨#[111,117,116]⟩=false:=by decide +kernel
    have t_in:eqS ⟨#[105,110]⟩ ⟨#[105,110]⟩=true:=by decide +kernel
    refine ⟨F+1,?_⟩;have en:(⟨i,false⟩:St).next=⟨i+1,false⟩:=rfl;unfold zI;rw [e1,t_if,ju (by simp),t_while,ju (by simp),t_LH,ju (by simp),t_do,ju (by simp),t_out,ju (by simp),t_in,jv rfl,en,hlab];dsimp only;rw [hw];dsimp only;rw [hF];dsimp only [Option.bind_some];rw [hz]
    congr 3
    simp only [jb,jd,je];omega
  ·skip;rw [ju (by decide),ju (by decide),ju (by decide),ju (by decide),ju (by decide),ju (by decide),ju (by decide)] at ho;have h1z:(0:Int)<=m:=h1;have h2z:m<=0:=h2;obtain rfl:m=0:=by omega
   obtain rfl:=uW h5;obtain ⟨t0,rfl⟩:=dN ks h3 h4;have ho2:((kD f 0 t0).bind fun e=>some ([⟨#[114,101,116,117,114,110]⟩]++e++[⟨#[59]⟩]))=some ws:=ho
   cases he:kD f 0 t0 with
   | none=>rw [he] at ho2;cases ho2
   | some e =>
    rw [he] at ho2;obtain rfl:=jw ho2;have hA:AtW ts i (⟨#[114,101,116,117,114,110]⟩ :: (e++[⟨#[59]⟩])):=by simpa using h
    obtain ⟨F,hF⟩:=zao ⟨#[59]⟩ he hA.tail (by decide +kernel) zbu;have hz:=yY hA.tail.right (by decide +kernel);have e1:=qD hA (by decide +kernel);have t_if:eqS ⟨#[114,101,116,117,114,110]⟩ ⟨#[105,102]⟩=false:=by decide +kernel
    have t_while:eqS ⟨#[114,101,116,117,114,110]⟩ ⟨#[119,104,105,108,101]⟩=false:=by decide +kernel
    have t_LH:(eqS ⟨#[114,101,116,117,114,110]⟩ ⟨#[108,111,119]⟩||eqS ⟨#[114,101,116,117,114,110]⟩ ⟨#[104,105,103,104]⟩)=false:=by decide +kernel
    have t_do:eqS ⟨#[114,101,116,117,114,110]⟩ ⟨#[100,111]⟩=false:=by decide +kernel
    have t_out:eqS ⟨#[114,101,116,117,114,110]⟩ ⟨#[111,117,116]⟩=false:=by decide +kernel
    have t_in:eqS ⟨#[114,101,116,117,114,110]⟩ ⟨#[105,110]⟩=false:=by decide +kernel
    have t_return:eqS ⟨#[114,101,116,117,114,110]⟩ ⟨#[114,101,116,117,114,110]⟩=true:=by decide +kernel
    refine ⟨F+1,?_⟩;have en:(⟨i,false⟩:St).next=⟨i+1,false⟩:=rfl;unfold zI;rw [e1,t_if,ju (by simp),t_while,ju (by simp),t_LH,ju (by simp),t_do,ju (by simp),t_out,ju (by simp),t_in,ju (by simp),t_return,jv rfl,en,hF];dsimp only [Option.bind_some];rw [hz]
    congr 3
    simp only [jb,jd,je];omega
 ·rw [ju hl] at ho;cases ho
theorem zfv (ts:List Tok):∀ f,RTS ts f
 | 0=>⟨fun _ _ _ h=>by simp [kS] at h,fun _ _ _ h=>by simp [kL] at h⟩
 | f+1=>⟨fun t ws i ho h=>zt3 (zfv ts f) ho h,fun t ws i ho h hel=>zx1 (zfv ts f) ho h hel⟩
end
end pr
namespace syn
open lexs (Tok)
section
variable {ts:List Tok}
theorem zhk:∀ (f:Nat) (ks:List Tree) (s:St) R,yD ts f ks s=some R->yD ts (f+1) ks s=some R
 | 0,_,_,_,h=>by simp [yD] at h
 | f+1,ks,s,R,h=>by
  unfold yD at h |-;by_cases h1:eqS (txt ts (name ts (label ts s).2).2) ⟨#[44]⟩=true;·rw [jv h1] at h |-;exact zhk f _ _ _ h
  ·rw [ju h1] at h |-;exact h
theorem zqn {f g:Nat} (h:f<=g) {ks s R} (e:yD ts f ks s=some R):yD ts g ks s=some R:=by
 induction h with
 | refl=>exact e
 | step _ ih=>exact zhk _ _ _ _ ih
theorem zjx {f g:Nat} (h:f<=g) {s R} (e:params ts f s=some R):params ts g s=some R:=by
 unfold params at e |-;by_cases h1:eqS (txt ts s) ⟨#[41]⟩=true;·rw [jv h1] at e |-;exact e
 ·rw [ju h1] at e |-;exact zqn h e
theorem zlv {f g:Nat} (h:f<=g) {s R} (e:yO ts f s=some R):yO ts g s=some R:=by
 unfold yO at e |-;by_cases h1:eqS (txt ts (zP ts s)) ⟨#[112,114,111,99]⟩=true;·rw [jv h1] at e |-;exact xM e (fun p hp=>zjx h hp) (fun p hp=>xM hp (fun b hb=>zah h hb) (fun b hb=>hb))
 ·rw [ju h1] at e |-;exact e
theorem ztg {f g:Nat} {s:St} {R Q:Tree × St} (h1:yO ts f s=some R) (h2:yO ts g s=some Q):R=Q:=by
 have a:=zlv (Nat.le_max_left f g) h1;have b:=zlv (Nat.le_max_right f g) h2;rw [a] at b;exact jw b
end
end syn
namespace pr
open syn face chk
open lexs (Tok val qJ zD yA)
section
variable {ts:List Tok} {f i:Nat} {t:Tree} {ws:List ByteArray}
theorem zcs (h:yK t=some ws):∃ x m,t=.node 5 x m []/\ws=[kO m,x]/\kK x=true/\(m=0\/m=1):=by
 obtain ⟨k,x,m,ks⟩:=t;unfold yK at h;dsimp only at h;by_cases hl:kI [5] (.node k x m ks)=true
 ·rw [jv hl] at h;obtain rfl:=jw h;unfold kI at hl;simp only [jj,jl] at hl;obtain ⟨⟨⟨⟨⟨hc,h1⟩,h2⟩,h3⟩,h4⟩,h5⟩:=hl
  obtain rfl:k=5:=by
   have:=List.contains_iff_mem.1 hc;simpa using this
  have h1z:(0:Int)<=m:=h1;have h2z:m<=1:=h2;have h4':(ks.length:Int)<=0:=h4;obtain rfl:ks=[]:=List.eq_nil_of_length_eq_zero (by omega);exact ⟨x,m,rfl,rfl,fB h5,by omega⟩
 ·rw [ju hl] at h;cases h
theorem zhm:∀ (r:List Tree) (t0:Tree) (a tl:List ByteArray) (k:Nat) (done:List Tree) (i:Nat) (z:List ByteArray),yK t0=some a->kU yK (k+1) r=some tl->AtW ts i (a++tl++⟨#[41]⟩ :: z)->∃ F,yD ts F done ⟨i,false⟩=some (done++t0 :: r,⟨i+(a.length+tl.length),false⟩)
 | [],t0,a,tl,k,done,i,z,ha,ht,h=>by
  have e0:tl=[]:=(jw ht).symm;subst e0;obtain ⟨x,m,rfl,rfl,hx,hm⟩:=zcs ha;have hA:AtW ts i (kO m :: x :: ⟨#[41]⟩ :: z):=by simpa using h
  have hlab:=dB hm hA;have hnm:=fE hA.tail hx;have ez:=qD hA.tail.tail (by decide +kernel);have n1:eqS ⟨#[41]⟩ ⟨#[44]⟩=false:=by decide +kernel
  refine ⟨1,?_⟩;unfold yD;rw [hlab];dsimp only;rw [hnm];dsimp only;rw [ez,n1,ju (by simp)]
  rfl
 | t1 :: r,t0,a,tl,k,done,i,z,ha,ht,h=>by
  unfold kU at ht
  cases ha1:yK t1 with
  | none=>rw [ha1] at ht;cases ht
  | some a1 =>
   rw [ha1] at ht
   cases ht1:kU yK (k+1+1) r with
   | none=>simp only [jf,ht1] at ht;cases ht
   | some tl1 =>
    simp only [jf,ht1,jh] at ht;rw [ju (by omega)] at ht;subst ht;obtain ⟨x,m,rfl,rfl,hx,hm⟩:=zcs ha;have hA:AtW ts i (kO m :: x :: ⟨#[44]⟩ :: (a1++tl1++⟨#[41]⟩ :: z)):=by simpa using h
    have hlab:=dB hm hA;have hnm:=fE hA.tail hx;have ez:=qD hA.tail.tail (by decide +kernel);have n1:eqS ⟨#[44]⟩ ⟨#[44]⟩=true:=by decide +kernel
    obtain ⟨G,hG⟩:=zhm r t1 a1 tl1 (k+1) (done++[.node 5 x m []]) _ z ha1 ht1 hA.tail.tail.tail;refine ⟨G+1,?_⟩;unfold yD;rw [hlab];dsimp only;rw [hnm];dsimp only;rw [ez,n1,jv rfl];show yD ts G (done++[.node 5 x m []]) ⟨i+1+1+1,false⟩=_;rw [hG];have e1:done++[Tree.node 5 x m []]++t1 :: r=done++.node 5 x m [] :: t1 :: r:=by simp
    rw [e1]
    congr 3
    simp only [jb,jd,je];omega
theorem zrv {ps:List Tree} {p z:List ByteArray} (hp:kW yK ps=some p) (h:AtW ts i (p++z)):∃ F j,params ts F (kF ts ⟨#[40]⟩ ⟨i,false⟩)=some (ps,⟨j,false⟩)/\kF ts ⟨#[41]⟩ ⟨j,false⟩=⟨i+p.length,false⟩:=by
 unfold kW at hp
 cases hc:kU yK 0 ps with
 | none=>rw [hc] at hp;cases hp
 | some c =>
  rw [hc] at hp;obtain rfl:=jw hp;have hA:AtW ts i (⟨#[40]⟩ :: (c++⟨#[41]⟩ :: z)):=by simpa using h
  have hm:=yY hA (by decide +kernel);have hlen:i+([(⟨#[40]⟩:ByteArray)]++c++[(⟨#[41]⟩:ByteArray)]).length=i+1+c.length+1:=by simp;omega
  rw [hlen,hm];have hz:=yY hA.tail.right (by decide +kernel)
  cases ps with
  | nil =>
   obtain rfl:=(jw hc)
   have e:=qD (r:=z) hA.tail (by decide +kernel);have n1:eqS ⟨#[41]⟩ ⟨#[41]⟩=true:=by decide +kernel
   refine ⟨0,i+1,?_,hz⟩;unfold params
   rw [e,n1,jv rfl]
  | cons t0 r =>
   unfold kU at hc
   cases ha:yK t0 with
   | none=>rw [ha] at hc;cases hc
   | some a =>
    rw [ha] at hc
    cases ht:kU yK (0+1) r with
    | none=>simp only [jf,ht] at hc;cases hc
    | some tl =>
     simp only [jf,ht,jh,if_true,js] at hc;subst hc;obtain ⟨F,hF⟩:=zhm r t0 a tl 0 [] _ z ha ht hA.tail;obtain ⟨x,m,rfl,rfl,hx,hmm⟩:=zcs ha;have hdm:yN (kO m)=false:=by rcases hmm with rfl | rfl<;>decide +kernel
     have e:=qD (r:=x :: (tl++⟨#[41]⟩ :: z)) (by simpa using hA.tail) hdm;have n1:eqS (kO m) ⟨#[41]⟩=false:=by rcases hmm with rfl | rfl<;>decide +kernel
     refine ⟨F,i+1+([kO m,x].length+tl.length),?_,?_⟩;·unfold params;rw [e,n1,ju (by simp)];exact hF
     ·have:=hz;simp only [jb] at this |-;exact this
end
end pr
namespace pr
open syn face chk
open lexs (Tok val qJ zD yA)
section
variable {ts:List Tok} {f i:Nat} {t:Tree} {ws:List ByteArray}
def yX (m:Int):List ByteArray:=if m.toNat / 2 % 2=1 then [⟨#[112,117,98]⟩] else []
theorem znf {m:Int} {y:ByteArray} {r:List ByteArray} (h:AtW ts i (yX m++y :: r)) (hd:yN y=false) (hy:eqS y ⟨#[112,117,98]⟩=false):zP ts ⟨i,false⟩=⟨i+(yX m).length,false⟩/\gW ts ⟨i,false⟩=2*((m.toNat / 2 % 2:Nat):Int):=by
 unfold yX at h |-;by_cases hb:m.toNat / 2 % 2=1
 ·rw [jv hb] at h |-;have e:=qD (r:=y :: r) h (by decide +kernel);have n:eqS ⟨#[112,117,98]⟩ ⟨#[112,117,98]⟩=true:=by decide +kernel
  unfold zP gW;rw [e,n,jv rfl,jv rfl,hb];exact ⟨rfl,rfl⟩
 ·rw [ju hb] at h |-;have e:=qD (r:=r) h hd;have h0:m.toNat / 2 % 2=0:=by omega
  unfold zP gW;rw [e,hy,ju (by simp),ju (by simp),h0];exact ⟨rfl,rfl⟩
theorem zya {m:Int} (hm:m=0\/m=1):yN (kO m)=false/\eqS (kO m) ⟨#[112,117,98]⟩=false/\eqS (kO m) ⟨#[112,114,111,99]⟩=false:=by
 rcases hm with rfl | rfl<;>decide +kernel
theorem zp8 (h:kS f t=some ws):∃ r,ws=⟨#[123]⟩ :: r:=by
 cases f with
 | zero=>simp [kS] at h
 | succ f =>
  obtain ⟨k,x,m,ks⟩:=t;unfold kS at h;by_cases hl:kI [6] (.node k x m ks)=true
  ·rw [jv hl] at h
   cases hb:kP (kL f) ks with
   | none=>rw [hb] at h;cases h
   | some b =>
    rw [hb] at h;obtain rfl:=jw h;exact ⟨_,rfl⟩
  ·rw [ju hl] at h;cases h
theorem zt7 {m n:Int} {r:List ByteArray} (h0:0<=m) (h11:m<=11) (h:AtW ts i ([kO (m % 2)]++xE m++⟨#[123]⟩ :: r)):vN ts ⟨i,false⟩=⟨i+1+(xE m).length,false⟩/\uZ ts n ⟨i,false⟩=n+m % 2+4*((m.toNat / 4 % 4:Nat):Int):=by
 have hA:AtW ts i (kO (m % 2) :: (xE m++⟨#[123]⟩ :: r)):=by simpa using h
 have hl:=dB (by omega:m % 2=0\/m % 2=1) hA;unfold vN uZ;rw [hl];dsimp only;have hT:=hA.tail;unfold xE at hT |-;have hg:m.toNat / 4 % 4=0\/m.toNat / 4 % 4=1\/m.toNat / 4 % 4=2:=by omega
 rcases hg with hg | hg | hg
 ·rw [hg] at hT |-;have e:=qD (r:=r) hT (by decide +kernel);have n1:eqS ⟨#[123]⟩ ⟨#[103,105,118,101,115]⟩=false:=by decide +kernel
  rw [e,n1];simp
 ·rw [hg] at hT |-;have e:=qD (r:=⟨#[108,111,119]⟩ :: ⟨#[123]⟩ :: r) hT (by decide +kernel);have n1:eqS ⟨#[103,105,118,101,115]⟩ ⟨#[103,105,118,101,115]⟩=true:=by decide +kernel
  have hT2:AtW ts (i+1) (⟨#[103,105,118,101,115]⟩ :: kO 0 :: ⟨#[123]⟩ :: r):=hT;have hl2:=dB (m:=0) (.inl rfl) hT2.tail;have en:(⟨i+1,false⟩:St).next=⟨i+1+1,false⟩:=rfl;rw [e,n1,jv rfl,jv rfl,en,hl2];refine ⟨rfl,?_⟩;show n+m % 2+4+4*0=n+m % 2+4*1;omega
 ·rw [hg] at hT |-;have e:=qD (r:=⟨#[104,105,103,104]⟩ :: ⟨#[123]⟩ :: r) hT (by decide +kernel);have n1:eqS ⟨#[103,105,118,101,115]⟩ ⟨#[103,105,118,101,115]⟩=true:=by decide +kernel
  have hT2:AtW ts (i+1) (⟨#[103,105,118,101,115]⟩ :: kO 1 :: ⟨#[123]⟩ :: r):=hT;have hl2:=dB (m:=1) (.inr rfl) hT2.tail;have en:(⟨i+1,false⟩:St).next=⟨i+1+1,false⟩:=rfl;rw [e,n1,jv rfl,jv rfl,en,hl2];refine ⟨rfl,?_⟩;show n+m % 2+4+4*1=n+m % 2+4*2;omega
theorem zw0:∀ (ks:List Tree),1<=ks.length->ks.take (ks.length - 1)++[ks.getD (ks.length - 1) noT]=ks:=by
 intro ks h;have hne:ks≠[]:=fun e=>by rw [e] at h;simp at h
 have e1:ks.getD (ks.length - 1) noT=ks.getLast hne:=by
  rw [List.getD_eq_getElem?_getD,List.getElem?_eq_getElem (by omega),List.getLast_eq_getElem];rfl
 rw [e1,<- List.dropLast_eq_take];exact List.dropLast_concat_getLast hne
theorem zs4 (h:xS t=some ws):∃ m,t=.node 15 empty m []/\ws=[vW m]/\0<=m:=by
 obtain ⟨k,x,m,ks⟩:=t;unfold xS at h;dsimp only at h;by_cases hl:kI [15] (.node k x m ks)=true
 ·rw [jv hl] at h;obtain rfl:=jw h;unfold kI at hl;simp only [jj,jl] at hl;obtain ⟨⟨⟨⟨⟨hc,h1⟩,h2⟩,h3⟩,h4⟩,h5⟩:=hl
  obtain rfl:k=15:=by
   have:=List.contains_iff_mem.1 hc;simpa using this
  have h4':(ks.length:Int)<=0:=h4;obtain rfl:ks=[]:=List.eq_nil_of_length_eq_zero (by omega);obtain rfl:=uW h5;exact ⟨m,rfl,rfl,h1⟩
 ·rw [ju hl] at h;cases h
theorem zne {x:ByteArray} {m:Int} {ks:List Tree} {n:List ByteArray} (hx:kK x=true) (h0:0<=m) (h3:m<=3) (hn:(ks=[]/\n=[])\/∃ t0 w,ks=[t0]/\xS t0=some w/\n=[⟨#[91]⟩]++w++[⟨#[93]⟩]) (h:AtW ts i (yX m++[kO (m % 2)]++[x]++n++[⟨#[59]⟩])) : ∃ F,yO ts F ⟨i,false⟩=some (.node 3 x m ks,⟨i+(yX m++[kO (m % 2)]++[x]++n++[(⟨#[59]⟩:ByteArray)]).length,false⟩):=by
 have hm2:m % 2=0\/m % 2=1:=by omega
 obtain ⟨d1,d2,d3⟩:=zya hm2;have hA:AtW ts i (yX m++kO (m % 2) :: (x :: (n++[⟨#[59]⟩]))):=by simpa using h
 obtain ⟨p1,p2⟩:=znf hA d1 d2;have hB:=hA.right;have e1:=qD hB d1;have hl:=dB hm2 hB;have hnm:=fE hB.tail hx;have hC:=hB.tail.tail
 have hv:yB ts ⟨i+(yX m).length+1+1,false⟩=(ks,⟨i+(yX m).length+1+1+n.length,false⟩):=by
  rcases hn with ⟨rfl,rfl⟩|⟨t0,w,rfl,hw,rfl⟩
  ·have e:=qD (r:=[]) hC (by decide +kernel);have n1:eqS ⟨#[59]⟩ ⟨#[91]⟩=false:=by decide +kernel
   unfold yB;rw [e,n1];rfl
  ·obtain ⟨q,rfl,rfl,hq⟩:=zs4 hw;have hD:AtW ts (i+(yX m).length+1+1) (⟨#[91]⟩ :: vW q :: ⟨#[93]⟩ :: [⟨#[59]⟩]):=by simpa using hC
   have e:=qD hD (by decide +kernel);have n1:eqS ⟨#[91]⟩ ⟨#[91]⟩=true:=by decide +kernel
   have hnum:=zja hq hD.tail;have hmm:=yY hD.tail.tail (by decide +kernel);have en:(⟨i+(yX m).length+1+1,false⟩:St).next=⟨i+(yX m).length+1+1+1,false⟩:=rfl;unfold yB;rw [e,n1,jv rfl,en,hnum];dsimp only;rw [hmm];rfl
 have hz:=yY hC.right (by decide +kernel);refine ⟨0,?_⟩;unfold yO;rw [p1,e1,d3,ju (by simp),hl];dsimp only;rw [hnm];dsimp only;rw [hv];dsimp only;rw [hz,p2];have e3:2*((m.toNat / 2 % 2:Nat):Int)+m % 2=m:=by omega
 rw [e3]
 congr 3
 simp only [jb,jd,je];omega
theorem zxl {x:ByteArray} {m:Int} {ps:List Tree} {tb:Tree} {p b:List ByteArray} (hx:kK x=true) (h0:0<=m) (h11:m<=11) (hp:kW yK ps=some p) (hb:kS f tb=some b) (h:AtW ts i (yX m++[⟨#[112,114,111,99]⟩,x]++p++[kO (m % 2)]++xE m++b)) : ∃ F,yO ts F ⟨i,false⟩=some (.node 4 x m (ps++[tb]),⟨i+(yX m++[(⟨#[112,114,111,99]⟩:ByteArray),x]++p++[kO (m % 2)]++xE m++b).length,false⟩):=by
 have hA:AtW ts i (yX m++⟨#[112,114,111,99]⟩ :: (x :: (p++([kO (m % 2)]++xE m++b)))):=by simpa using h
 obtain ⟨p1,p2⟩:=znf hA (by decide +kernel) (by decide +kernel);have hB:=hA.right;have e1:=qD hB (by decide +kernel);have n1:eqS ⟨#[112,114,111,99]⟩ ⟨#[112,114,111,99]⟩=true:=by decide +kernel
 have hnm:=fE hB.tail hx;have hC:=hB.tail.tail;obtain ⟨F,j,hF,hj⟩:=zrv hp hC;have hD:=hC.right;obtain ⟨rb,hrb⟩:=zp8 hb;have hD2:AtW ts (i+(yX m).length+1+1+p.length) ([kO (m % 2)]++xE m++⟨#[123]⟩ :: rb):=by rw [<- hrb];exact hD
 obtain ⟨g1,g2⟩:=zt7 (n:=2*((m.toNat / 2 % 2:Nat):Int)) h0 h11 hD2;have hE:AtW ts (i+(yX m).length+1+1+p.length+([kO (m % 2)]++xE m).length) b:=hD.right
 have hE2:AtW ts (i+(yX m).length+1+1+p.length+1+(xE m).length) b:=by
  have:i+(yX m).length+1+1+p.length+([kO (m % 2)]++xE m).length=i+(yX m).length+1+1+p.length+1+(xE m).length:=by simp;omega
  rw [this] at hE;exact hE
 obtain ⟨G,hG⟩:=(zfv ts f).bk tb b _ hb hE2;refine ⟨max F G,?_⟩;have en:(⟨i+(yX m).length,false⟩:St).next=⟨i+(yX m).length+1,false⟩:=rfl;unfold yO;rw [p1,e1,n1,jv rfl,en,hnm];dsimp only;rw [zjx (Nat.le_max_left F G) hF];dsimp only [Option.bind_some];rw [hj,g1,zah (Nat.le_max_right F G) hG];dsimp only [Option.bind_some];rw [p2,g2];have e3:2*((m.toNat / 2 % 2:Nat):Int)+m % 2+4*((m.toNat / 4 % 4:Nat):Int)=m:=by omega
 rw [e3]
 congr 3
 simp only [jb,jd,je];omega
theorem zxe (ho:qQ f t=some ws) (h:AtW ts i ws):∃ F,yO ts F ⟨i,false⟩=some (t,⟨i+ws.length,false⟩):=by
 obtain ⟨k,x,m,ks⟩:=t;unfold qQ at ho;dsimp only at ho;by_cases hl:kI [3,4] (.node k x m ks)=true
 ·rw [jv hl] at ho;unfold kI at hl;simp only [jj,jl] at hl;obtain ⟨⟨⟨⟨⟨hc,h1⟩,h2⟩,h3⟩,h4⟩,h5⟩:=hl
  have hk:k=3\/k=4:=by
   have:=List.contains_iff_mem.1 hc;simpa using this
  rcases hk with rfl | rfl
  ·rw [ju (by decide)] at ho;have h4':(ks.length:Int)<=1:=h4
   cases ks with
   | nil =>
    dsimp only at ho;obtain rfl:=jw ho;have:=zne (ks:=[]) (n:=[]) (fB h5) h1 h2 (.inl ⟨rfl,rfl⟩) (by simpa [yX] using h)
    simpa [yX] using this
   | cons t0 r =>
    obtain rfl:r=[]:=List.eq_nil_of_length_eq_zero (by simp only [jd] at h4';omega);dsimp only at ho
    cases hw:xS t0 with
    | none=>rw [hw] at ho;cases ho
    | some w =>
     rw [hw] at ho;obtain rfl:=jw ho;have:=zne (ks:=[t0]) (n:=[⟨#[91]⟩]++w++[⟨#[93]⟩]) (fB h5) h1 h2 (.inr ⟨t0,w,rfl,hw,rfl⟩) (by simpa [yX] using h);simpa [yX] using this
  ·rw [jv rfl] at ho;have h3':(1:Int)<=ks.length:=h3
   cases hp:kW yK (ks.take (ks.length - 1)) with
   | none=>rw [hp] at ho;cases ho
   | some p =>
    rw [hp] at ho
    cases hb:kS f (ks.getD (ks.length - 1) noT) with
    | none=>simp only [jf,hb] at ho;cases ho
    | some b =>
     simp only [jf,hb,jh] at ho;have e:yX m++[⟨#[112,114,111,99]⟩,x]++p++[kO (m % 2)]++xE m++b=ws:=ho;subst e;have:=zxl (fB h5) h1 h2 hp hb h;rw [zw0 ks (by omega)] at this;exact this
 ·rw [ju hl] at ho;cases ho
/-! a module -/
theorem zjp (h:yQ t=some ws):∃ x,t=.node 2 x 0 []/\ws=[⟨#[105,109,112,111,114,116]⟩,x,⟨#[59]⟩]/\kK x=true:=by
 obtain ⟨k,x,m,ks⟩:=t;unfold yQ at h;dsimp only at h;by_cases hl:kI [2] (.node k x m ks)=true
 ·rw [jv hl] at h;obtain rfl:=jw h;unfold kI at hl;simp only [jj,jl] at hl;obtain ⟨⟨⟨⟨⟨hc,h1⟩,h2⟩,h3⟩,h4⟩,h5⟩:=hl
  obtain rfl:k=2:=by
   have:=List.contains_iff_mem.1 hc;simpa using this
  have h1z:(0:Int)<=m:=h1;have h2z:m<=0:=h2;obtain rfl:m=0:=by omega
  have h4':(ks.length:Int)<=0:=h4;obtain rfl:ks=[]:=List.eq_nil_of_length_eq_zero (by omega);exact ⟨x,rfl,rfl,fB h5⟩
 ·rw [ju hl] at h;cases h
end
section
variable {ts:List Tok} {f i:Nat} {t:Tree} {ws:List ByteArray}
theorem zh7:∀ (l:List Tree) (a:List ByteArray) (done:List Tree) (i F:Nat),kP yQ l=some a->AtW ts i a->eqS (txt ts ⟨i+a.length,false⟩) ⟨#[105,109,112,111,114,116]⟩=false->l.length+1<=F->yC ts F done ⟨i,false⟩=some (done++l,⟨i+a.length,false⟩)
 | [],a,done,i,F,ha,h,hn,hF=>by
  obtain rfl:=(jw ha)
  obtain ⟨G,rfl⟩:∃ G,F=G+1:=⟨F - 1,by omega⟩
  unfold yC;have hn':eqS (txt ts ⟨i,false⟩) ⟨#[105,109,112,111,114,116]⟩=false:=hn;rw [hn',ju (by simp),List.append_nil]
  rfl
 | t :: l,a,done,i,F,ha,h,hn,hF=>by
  unfold kP at ha
  cases h1:yQ t with
  | none=>rw [h1] at ha;cases ha
  | some a1 =>
   rw [h1] at ha
   cases h2:kP yQ l with
   | none=>simp only [jf,h2] at ha;cases ha
   | some a2 =>
    simp only [jf,h2,jh] at ha;subst ha;obtain ⟨x,rfl,rfl,hx⟩:=zjp h1;have hA:AtW ts i (⟨#[105,109,112,111,114,116]⟩ :: x :: ⟨#[59]⟩ :: a2):=h;have e:=qD hA (by decide +kernel);have n1:eqS ⟨#[105,109,112,111,114,116]⟩ ⟨#[105,109,112,111,114,116]⟩=true:=by decide +kernel
    have hnm:=fE hA.tail hx;have hz:=yY hA.tail.tail (by decide +kernel);obtain ⟨G,rfl⟩:∃ G,F=G+1:=⟨F - 1,by omega⟩
    have e3:i+([(⟨#[105,109,112,111,114,116]⟩:ByteArray),x,(⟨#[59]⟩:ByteArray)]++a2).length=i+1+1+1+a2.length:=by simp;omega
    rw [e3] at hn |-;have hr:=zh7 l a2 (done++[.node 2 x 0 []]) (i+1+1+1) G h2 hA.tail.tail.tail hn (by simp only [jd] at hF;omega);have en:(⟨i,false⟩:St).next=⟨i+1,false⟩:=rfl;unfold yC;rw [e,n1,jv rfl,en,hnm];dsimp only;rw [hz,hr];simp
theorem zjw (ho:qQ f t=some ws):∃ y r,ws=y :: r/\yN y=false/\eqS y ⟨#[105,109,112,111,114,116]⟩=false:=by
 obtain ⟨k,x,m,ks⟩:=t
 have key:∀ (y:ByteArray) (z:List ByteArray),yN y=false->eqS y ⟨#[105,109,112,111,114,116]⟩=false->∃ y' r,(if m.toNat / 2 % 2=1 then [⟨#[112,117,98]⟩] else [])++y :: z=y' :: r/\yN y'=false/\eqS y' ⟨#[105,109,112,111,114,116]⟩=false:=fun y z h1 h2=>by
  by_cases hb:m.toNat / 2 % 2=1;·rw [jv hb];exact ⟨_,_,rfl,by decide +kernel,by decide +kernel⟩
  ·rw [ju hb];exact ⟨_,_,rfl,h1,h2⟩
 have hlab:yN (kO (m % 2))=false/\eqS (kO (m % 2)) ⟨#[105,109,112,111,114,116]⟩=false:=by
  rcases (by omega:m % 2=0\/m % 2=1) with e | e<;>rw [e]<;>decide +kernel
 unfold qQ at ho;dsimp only at ho;by_cases hl:kI [3,4] (.node k x m ks)=true
 ·rw [jv hl] at ho;by_cases hk:k=4
  ·rw [jv hk] at ho
   cases hp:kW yK (ks.take (ks.length - 1)) with
   | none=>rw [hp] at ho;cases ho
   | some p =>
    rw [hp] at ho
    cases hb:kS f (ks.getD (ks.length - 1) noT) with
    | none=>simp only [jf,hb] at ho;cases ho
    | some b =>
     simp only [jf,hb,jh] at ho;subst ho;obtain ⟨y,r,e,h1,h2⟩:=key ⟨#[112,114,111,99]⟩ ([x]++p++[kO (m % 2)]++xE m++b) (by decide +kernel) (by decide +kernel);exact ⟨y,r,by rw [<- e];simp,h1,h2⟩
  ·rw [ju hk] at ho
   cases ks with
   | nil =>
    dsimp only at ho;obtain rfl:=jw ho;obtain ⟨y,r,e,h1,h2⟩:=key (kO (m % 2)) ([x]++[⟨#[59]⟩]) hlab.1 hlab.2
    exact ⟨y,r,by rw [<- e];simp,h1,h2⟩
   | cons t0 rr =>
    dsimp only at ho
    cases hw:xS t0 with
    | none=>rw [hw] at ho;cases ho
    | some w =>
     rw [hw] at ho;obtain rfl:=jw ho;obtain ⟨y,r,e,h1,h2⟩:=key (kO (m % 2)) ([x]++[⟨#[91]⟩]++w++[⟨#[93]⟩]++[⟨#[59]⟩]) hlab.1 hlab.2;exact ⟨y,r,by rw [<- e];simp,h1,h2⟩
 ·rw [ju hl] at ho;cases ho
theorem zki (hf:∀ j,∃ q,yO ts 100000 ⟨j,false⟩=some q):∀ (l:List Tree) (b:List ByteArray) (done:List Tree) (i F:Nat),kP (qQ f) l=some b->AtW ts i b->i+b.length=ts.length->l.length+1<=F->zY ts F done ⟨i,false⟩=some (done++l,⟨ts.length,false⟩)
 | [],b,done,i,F,hb,h,hl,hF=>by
  obtain rfl:=(jw hb)
  obtain ⟨G,rfl⟩:∃ G,F=G+1:=⟨F - 1,by omega⟩
  have hi:i=ts.length:=hl;unfold zY
  rw [jv (by simp;omega),List.append_nil,hi]
 | t :: l,b,done,i,F,hb,h,hl,hF=>by
  unfold kP at hb
  cases h1:qQ f t with
  | none=>rw [h1] at hb;cases hb
  | some b1 =>
   rw [h1] at hb
   cases h2:kP (qQ f) l with
   | none=>simp only [jf,h2] at hb;cases hb
   | some b2 =>
    simp only [jf,h2,jh] at hb;subst hb;obtain ⟨D,hD⟩:=zxe h1 h.left;obtain ⟨q,hq⟩:=hf i;have e:=ztg hD hq;subst e;obtain ⟨y,r,hy,_⟩:=zjw h1;have hpos:1<=b1.length:=by rw [hy];simp
    rw [jb] at hl;have hr:=zki hf l b2 (done++[t]) (i+b1.length) (F - 1) h2 h.right (by omega) (by simp only [jd] at hF;omega);obtain ⟨G,rfl⟩:∃ G,F=G+1:=⟨F - 1,by omega⟩
    unfold zY;rw [ju (by simp;omega),hq];show zY ts G (done++[t]) ⟨i+b1.length,false⟩=_;rw [show G=G+1 - 1 from rfl,hr];simp
theorem zr7 (hf:∀ j,∃ q,yO ts 100000 ⟨j,false⟩=some q) (ho:xG f t=some ws) (h:AtW ts 0 ws) (hlen:ts.length=ws.length):uG ts=some (t,⟨ts.length,false⟩):=by
 obtain ⟨k,x,m,ks⟩:=t;unfold xG at ho;dsimp only at ho;by_cases hl:kI [1] (.node k x m ks)=true
 ·rw [jv hl] at ho
  cases ha:kP yQ (ks.takeWhile kT) with
  | none=>rw [ha] at ho;cases ho
  | some a =>
   rw [ha] at ho
   cases hb:kP (qQ f) (ks.dropWhile kT) with
   | none=>simp only [jf,hb] at ho;cases ho
   | some b =>
    simp only [jf,hb,jh] at ho;subst ho;unfold kI at hl;simp only [jj,jl] at hl;obtain ⟨⟨⟨⟨⟨hc,h1⟩,h2⟩,h3⟩,h4⟩,h5⟩:=hl
    obtain rfl:k=1:=by
     have:=List.contains_iff_mem.1 hc;simpa using this
    have h1z:(0:Int)<=m:=h1;have h2z:m<=0:=h2;obtain rfl:m=0:=by omega
    have h4':(ks.length:Int)<=500:=h4;have hA:AtW ts 0 (⟨#[109,111,100,117,108,101]⟩ :: x :: ⟨#[59]⟩ :: (a++b)):=by simpa using h
    have hm:=yY hA (by decide +kernel);have hnm:=fE hA.tail (fB h5);have hz:=yY hA.tail.tail (by decide +kernel);have hT:AtW ts (0+1+1+1) (a++b):=hA.tail.tail.tail;have hlen':ts.length=3+a.length+b.length:=by rw [hlen];simp;omega
    have hkl:(ks.takeWhile kT).length+(ks.dropWhile kT).length=ks.length:=by
     rw [<- jb,List.takeWhile_append_dropWhile]
    have hni:eqS (txt ts ⟨0+1+1+1+a.length,false⟩) ⟨#[105,109,112,111,114,116]⟩=false:=by
     cases hd:ks.dropWhile kT with
     | nil =>
      rw [hd] at hb;obtain rfl:=(jw hb)
      have:ts[0+1+1+1+a.length]?=none:=List.getElem?_eq_none (by rw [hlen'];simp<;>omega);unfold txt xY;simp only [jr,if_false,this]
      decide +kernel
     | cons t1 r1 =>
      rw [hd] at hb;unfold kP at hb
      cases hb1:qQ f t1 with
      | none=>rw [hb1] at hb;cases hb
      | some b1 =>
       rw [hb1] at hb
       cases hb2:kP (qQ f) r1 with
       | none=>simp only [jf,hb2] at hb;cases hb
       | some b2 =>
        simp only [jf,hb2,jh] at hb;subst hb;obtain ⟨y,r,rfl,hd1,hd2⟩:=zjw hb1;rw [qD (r:=r++b2) hT.right hd1];exact hd2
    have hI:=zh7 (ks.takeWhile kT) a [] (0+1+1+1) 4000 ha hT.left hni (by omega);have hD:=zki hf (ks.dropWhile kT) b ([]++ks.takeWhile kT) (0+1+1+1+a.length) 4000 hb hT.right (by omega) (by omega)
    have hH:gC ts=⟨0+1+1+1,false⟩:=by
     unfold gC;rw [hm,hnm];exact hz
    have hX:fJ ts=x:=by
     unfold fJ;rw [hm,hnm]
    unfold uG;rw [hH,hI];dsimp only [Option.bind_some];rw [hD];dsimp only [Option.bind_some];rw [hX,js,List.takeWhile_append_dropWhile]
 ·rw [ju hl] at ho;cases ho
end
end pr
namespace lexs
theorem zjq (x:List UInt8) (h:∀ c∈x,qG c=true) (R:List UInt8):run qG (x++32 :: R)=x.length:=by
 induction x with
 | nil=>simp only [js,run];rw [List.takeWhile_cons,ju (by decide)]
 | cons c x ih =>
  have hc:=h c (by simp);have:=ih (fun d hd=>h d (by simp [hd]));unfold run at this |-;rw [jK,List.takeWhile_cons,jv hc,jd,jd,this]
theorem zsh (x R:List UInt8) (h:x≠[]):(x++R).headD 0=x.headD 0:=by
 cases x with
 | nil=>exact absurd rfl h
 | cons c x=>simp
end lexs
end Go.Proofs.YtaadmdlbkhcfnaaGreatDoor
