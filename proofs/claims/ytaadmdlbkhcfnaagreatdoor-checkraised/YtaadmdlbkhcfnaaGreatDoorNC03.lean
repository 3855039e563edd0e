/- What the program goes over: the same faults, told with the module's own name among those that are known. No Go in sight. -/
import Derived.Test.YtaadmdlbkhcfnaaGreatDoorNC02
set_option linter.unusedVariables false
namespace Go.Proofs.YtaadmdlbkhcfnaaGreatDoor
namespace pr
open syn face chk
open lexs
def yS (y:ByteArray):Prop:=∃ k:Int,y.data.toList≠[]/\(∀ R,qA (y.data.toList++32 :: R)=.tok k y.data.toList.length)/\qA y.data.toList=.tok k y.data.toList.length/\(k==2)=yN y
theorem run_all (x:List UInt8) (h:∀ c∈x,qG c=true):run qG x=x.length:=zgs qG x x.length (fun j hj _=>h _ (jH hj)) (.inl rfl)
theorem zhg (y:ByteArray) (b:UInt8) (r:List UInt8) (e:y.data.toList=b :: r) (hb:xL b=true) (hall:∀ c∈b :: r,qG c=true) (hl:(b :: r).length<=16):yS y:=by
 have hn:(b==32||b==10)=false/\(b==35)=false/\qJ b=false:=by
  unfold xL zD at hb;simp only [Bool.or_eq_true,jl] at hb;refine ⟨?_,?_,?_⟩;·simp only [Bool.or_eq_false_iff,beq_eq_false_iff_ne,ne_eq];constructor<;>(intro e;subst e;simp at hb)
  ·simp only [beq_eq_false_iff_ne,ne_eq];intro e;subst e;simp at hb
  ·unfold qJ yA;simp only [decide_eq_false_iff_not];omega
 refine ⟨1,by rw [e];simp,fun R=>?_,?_,?_⟩;·rw [e];have hr:=zjq (b :: r) hall R;unfold qA;rw [jK,List.headD_cons,vI,hn.1,ju (by simp),hn.2.1,ju (by simp),hb,jv rfl];rw [jK] at hr;rw [hr,ju (by omega)]
 ·rw [e];have hr:=run_all (b :: r) hall;unfold qA;rw [List.headD_cons,vI,hn.1,ju (by simp),hn.2.1,ju (by simp),hb,jv rfl,hr,ju (by omega)]
 ·unfold yN;rw [e];dsimp only;rw [hn.2.2];rfl
theorem fF {x:ByteArray} (h:kK x=true):yS x:=by
 unfold kK at h;simp only [jj,jl,List.all_eq_true] at h;obtain ⟨⟨⟨⟨h1,h16⟩,hl⟩,hall⟩,_⟩:=h
 cases hd:x.data.toList with
 | nil =>
  have:=len_L x;rw [hd] at this;simp at this
  omega
 | cons b r =>
  have hlen:(b :: r).length=x.size:=by rw [<- hd];exact len_L x
  rw [hd] at hl hall;exact zhg x b r hd hl hall (by omega)
theorem zuz:∀ (u:Nat),u≠0->(Lib.decDigits u).headD 0≠48:=by
 intro u
 induction u using Nat.strongRecOn with
 | _ u ih =>
  intro h0;rw [Lib.decDigits];by_cases h:u<10
  ·rw [dif_pos h,List.headD_cons];intro e;have e2:(UInt8.ofNat (48+u)).toNat=48+u:=by simp;omega
   have e3:(UInt8.ofNat (48+u)).toNat=(48:UInt8).toNat:=by rw [e]
   rw [e2] at e3;simp at e3;omega
  ·rw [dif_neg h,zsh _ _ (zdf (u / 10)).2.2];exact ih (u / 10) (by omega) (by omega)
theorem zxb (u:Nat) (h:u<10):(Lib.decDigits u).length=1:=by
 rw [Lib.decDigits,dif_pos h];rfl
theorem znc {m:Int} (h0:0<=m) (h1:m<=9223372036854775807):yS (vW m):=by
 have e:=zfi m h0;obtain ⟨hv,hd,hne⟩:=zdf m.toNat
 have hE:qU (Lib.decDigits m.toNat)=0:=by
  rw [numE_val _ (by rw [List.all_eq_true];exact hd) hne ?_,hv,jv (by omega)];by_cases hz:m.toNat<10;·rw [zxb _ hz];rfl
  ·have:=zuz m.toNat (by omega);simp only [Bool.and_eq_false_iff,beq_eq_false_iff_ne,ne_eq];exact .inr this
 have hins:∀ c∈Lib.decDigits m.toNat,qG c=true:=fun c hc=>zcv (hd c hc)
 obtain ⟨b,r,hbr⟩:=List.exists_cons_of_ne_nil hne;rw [hbr] at e hE hins hd;have hb:=hd b (by simp)
 have hn:(b==32||b==10)=false/\(b==35)=false/\xL b=false:=by
  have hb2:=cK hb;refine ⟨?_,?_,?_⟩;·simp only [Bool.or_eq_false_iff,beq_eq_false_iff_ne,ne_eq];constructor<;>(intro e;subst e;simp at hb2)
  ·simp only [beq_eq_false_iff_ne,ne_eq];intro e;subst e;simp at hb2
  ·unfold xL zD;simp only [Bool.or_eq_false_iff,decide_eq_false_iff_not];omega
 refine ⟨2,by rw [e];simp,fun R=>?_,?_,?_⟩
 ·rw [e];have hr:=zjq (b :: r) hins R;unfold qA;rw [jK,List.headD_cons,vI,hn.1,ju (by simp),hn.2.1,ju (by simp),hn.2.2,ju (by simp),hb,jv rfl];rw [jK] at hr
  have ht:List.take (b :: r).length (b :: (r++32 :: R))=b :: r:=by
   rw [<- jK];exact List.take_left' rfl
  rw [hr,ht,hE];rfl
 ·rw [e];have hr:=run_all (b :: r) hins;unfold qA;rw [List.headD_cons,vI,hn.1,ju (by simp),hn.2.1,ju (by simp),hn.2.2,ju (by simp),hb,jv rfl,hr,List.take_length,hE];rfl
 ·rw [zb4 m h0];rfl
def zA:List ByteArray->List UInt8
 | []=>[]
 | [y]=>y.data.toList
 | y :: z :: r=>y.data.toList++32 :: zA (z :: r)
theorem zit:∀ (ws:List ByteArray) (f i:Nat) (acc:List Tok),(∀ y∈ws,yS y)->(zA ws).length<=f->∃ toks,zC f (zA ws) i acc=.ok (acc++toks)/\toks.length=ws.length/\∀ j (h:j<ws.length),∃ t,toks[j]?=some t/\t.text=(ws[j]).data.toList/\(t.kind==2)=yN ws[j]
 | [],f,i,acc,_,_=>⟨[],by show zC f [] i acc=_;rw [zcw,List.append_nil],rfl,fun j h=>by simp at h⟩
 | [y],f,i,acc,hw,hf=>by
  obtain ⟨k,h1,_,h3,h4⟩:=hw y (by simp);have hf':y.data.toList.length<=f:=hf;obtain ⟨b,r,e⟩:=List.exists_cons_of_ne_nil h1;obtain ⟨g,rfl⟩:∃ g,f=g+1:=⟨f - 1,by have:=List.length_pos_iff.2 h1;omega⟩
  refine ⟨[⟨k,y.data.toList,i⟩],?_,rfl,fun j hj=>?_⟩;·show zC (g+1) y.data.toList i acc=_;have h3':=h3;rw [e] at h3' |-;rw [fW h3',List.drop_length,List.take_length,zcw]
  ·obtain rfl:j=0:=by simp at hj;omega
   exact ⟨_,rfl,rfl,h4⟩
 | y :: z :: rr,f,i,acc,hw,hf=>by
  obtain ⟨k,h1,h2,_,h4⟩:=hw y (by simp);have hf':(y.data.toList++32 :: zA (z :: rr)).length<=f:=hf;rw [jb,jd] at hf';have hl:=List.length_pos_iff.2 h1;obtain ⟨g,rfl⟩:∃ g,f=g+2:=⟨f - 2,by omega⟩
  obtain ⟨toks,t1,t2,t3⟩:=zit (z :: rr) g (i+y.data.toList.length+1) (acc++[⟨k,y.data.toList,i⟩]) (fun q hq=>hw q (jF _ hq)) (by omega);refine ⟨⟨k,y.data.toList,i⟩ :: toks,?_,by simp [t2],fun j hj=>?_⟩
  ·show zC (g+2) (y.data.toList++32 :: zA (z :: rr)) i acc=_;have h2':=h2 (zA (z :: rr));obtain ⟨b,r,e⟩:=List.exists_cons_of_ne_nil (show y.data.toList++32 :: zA (z :: rr)≠[] by simp);rw [e] at h2';rw [e,fW h2',<- e,List.drop_left' rfl,List.take_left' rfl];have hs:qA (32 :: zA (z :: rr))=.skip 1:=by rw [qA,List.headD_cons,vI,jv (by decide)]
   rw [cL hs];have:List.drop 1 (32 :: zA (z :: rr))=zA (z :: rr):=rfl;rw [this,t1];simp
  ·cases j with
   | zero=>exact ⟨_,rfl,rfl,h4⟩
   | succ j =>
    obtain ⟨t,q1,q2,q3⟩:=t3 j (by simpa using hj);exact ⟨t,by simpa using q1,by simpa using q2,by simpa using q3⟩
theorem zx6 (ws:List ByteArray) (hw:∀ y∈ws,yS y) (hl:(zA ws).length<=3000):∃ toks,scan (zA ws)=.ok toks/\toks.length=ws.length/\AtW toks 0 ws:=by
 obtain ⟨toks,h1,h2,h3⟩:=zit ws (zA ws).length 0 [] hw (Nat.le_refl _);refine ⟨toks,?_,h2,fun j hj=>?_⟩;·unfold scan;rw [ju (by omega),h1];simp
 ·obtain ⟨t,q1,q2,q3⟩:=h3 j hj;exact ⟨t,by simpa using q1,q2,q3⟩
theorem vT (y:ByteArray) (h:(match y.data.toList with | []=>false | b :: r=>xL b&&(b :: r).all qG&&decide ((b :: r).length<=16))=true):yS y:=by
 cases e:y.data.toList with
 | nil=>rw [e] at h;cases h
 | cons b r =>
  rw [e] at h;simp only [jj,jl,List.all_eq_true] at h;exact zhg y b r e h.1.1 h.1.2 h.2
def zoi (c:UInt8):Bool:=!(c==32||c==10)&&!(c==35)&&!xL c&&!qJ c&&gU.contains c
theorem sign_one (y:ByteArray) (c:UInt8) (e:y.data.toList=[c]) (h:zoi c=true):yS y:=by
 unfold zoi at h;simp only [jj,Bool.not_eq_true'] at h;obtain ⟨⟨⟨⟨h1,h2⟩,h3⟩,h4⟩,h5⟩:=h;refine ⟨3,by rw [e];simp,fun R=>?_,?_,?_⟩
 ·rw [e];unfold qA;rw [jK,List.headD_cons,vI,h1,ju (by simp),h2,ju (by simp),h3,ju (by simp),h4,ju (by simp)]
  have:vZ (c :: ([]++32 :: R))=1:=by
   show (if (c==61&&(32:UInt8)==61)=true then 2 else if gU.contains c=true then 1 else 0)=1;rw [ju (by simp),jv h5]
  rw [this];rfl
 ·rw [e];unfold qA;rw [List.headD_cons,vI,h1,ju (by simp),h2,ju (by simp),h3,ju (by simp),h4,ju (by simp)]
  have:vZ [c]=1:=by
   show (if (c==61&&(0:UInt8)==61)=true then 2 else if gU.contains c=true then 1 else 0)=1;rw [ju (by simp),jv h5]
  rw [this];rfl
 ·unfold yN;rw [e];dsimp only;rw [h4];rfl
theorem zt2:yS ⟨#[61,61]⟩:=by
 refine ⟨3,by decide +kernel,fun R=>?_,rfl,by decide +kernel⟩;show qA (61 :: 61 :: 32 :: R)=.tok 3 2;rfl
def kE (ws:List ByteArray):Prop:=∀ y∈ws,yS y
theorem kE.app {a b:List ByteArray} (ha:kE a) (hb:kE b):kE (a++b):=fun y hy=>by
 rcases List.mem_append.1 hy with h | h
 ·exact ha y h
 ·exact hb y h
theorem kE.one {y:ByteArray} (h:yS y):kE [y]:=fun z hz=>by
 obtain rfl:z=y:=by simpa using hz
 exact h
theorem kE.nil:kE []:=fun y hy=>by cases hy
theorem kE.cons {y:ByteArray} {r:List ByteArray} (h:yS y) (hr:kE r):kE (y :: r):=kE.app (kE.one h) hr
theorem yae (m:Nat) (h1:1<=m) (h9:m<=9):yS (opAt m):=by
 have:m=1\/m=2\/m=3\/m=4\/m=5\/m=6\/m=7\/m=8\/m=9:=by omega
 rcases this with rfl | rfl | rfl | rfl | rfl | rfl | rfl | rfl | rfl
 ·exact sign_one _ 43 rfl (by decide +kernel)
 ·exact sign_one _ 45 rfl (by decide +kernel)
 ·exact sign_one _ 42 rfl (by decide +kernel)
 ·exact sign_one _ 47 rfl (by decide +kernel)
 ·exact sign_one _ 37 rfl (by decide +kernel)
 ·exact sign_one _ 38 rfl (by decide +kernel)
 ·exact sign_one _ 124 rfl (by decide +kernel)
 ·exact sign_one _ 60 rfl (by decide +kernel)
 ·exact zt2
theorem zgi:yS ⟨#[40]⟩:=sign_one _ 40 rfl (by decide +kernel)
theorem zfz:yS ⟨#[41]⟩:=sign_one _ 41 rfl (by decide +kernel)
theorem zok:yS ⟨#[91]⟩:=sign_one _ 91 rfl (by decide +kernel)
theorem zn1:yS ⟨#[93]⟩:=sign_one _ 93 rfl (by decide +kernel)
theorem zw1:yS ⟨#[123]⟩:=sign_one _ 123 rfl (by decide +kernel)
theorem yaj:yS ⟨#[125]⟩:=sign_one _ 125 rfl (by decide +kernel)
theorem fH:yS ⟨#[59]⟩:=sign_one _ 59 rfl (by decide +kernel)
theorem zxu:yS ⟨#[44]⟩:=sign_one _ 44 rfl (by decide +kernel)
theorem zwv:yS ⟨#[46]⟩:=sign_one _ 46 rfl (by decide +kernel)
theorem zoq:yS ⟨#[61]⟩:=sign_one _ 61 rfl (by decide +kernel)
theorem zvf:yS ⟨#[45]⟩:=sign_one _ 45 rfl (by decide +kernel)
theorem yaq:yS ⟨#[33]⟩:=sign_one _ 33 rfl (by decide +kernel)
theorem bE (m:Int):yS (kO m):=by
 unfold kO;by_cases h:m=1;·rw [jv h];exact vT _ (by decide +kernel)
 ·rw [ju h];exact vT _ (by decide +kernel)
theorem zfm {x:ByteArray} {l:List ByteArray} (hw:kV x=some l):kE l:=by
 unfold kV at hw
 cases hc:yL x.data.toList with
 | mk a ob =>
  rw [hc] at hw
  cases ob with
  | none =>
   dsimp only at hw;by_cases hx:kK x=true;·rw [jv hx] at hw;obtain rfl:=jw hw;exact kE.one (fF hx)
   ·rw [ju hx] at hw;cases hw
  | some bs =>
   dsimp only at hw;by_cases hx:(kK ⟨a.toArray⟩&&kK ⟨bs.toArray⟩)=true;·rw [jv hx] at hw;obtain rfl:=jw hw;rw [jj] at hx;exact kE.cons (fF hx.1) (kE.cons zwv (kE.one (fF hx.2)))
   ·rw [ju hx] at hw;cases hw
theorem ze7 {g:Tree->Option (List ByteArray)} (hg:∀ t a,g t=some a->kE a):∀ (ks:List Tree) (k:Nat) (w:List ByteArray),kU g k ks=some w->kE w
 | [],k,w,h=>by obtain rfl:=jw h;exact kE.nil
 | t :: r,k,w,h=>by
  unfold kU at h
  cases h1:g t with
  | none=>rw [h1] at h;cases h
  | some a =>
   rw [h1] at h
   cases h2:kU g (k+1) r with
   | none=>simp only [jf,h2] at h;cases h
   | some b =>
    simp only [jf,h2,jh] at h;subst h;refine kE.app (kE.app ?_ (hg t a h1)) (ze7 hg r (k+1) b h2);by_cases hk:k=0;·rw [jv hk];exact kE.nil
    ·rw [ju hk];exact kE.one zxu
theorem zfj {g:Tree->Option (List ByteArray)} (hg:∀ t a,g t=some a->kE a) {ks:List Tree} {w:List ByteArray} (h:kW g ks=some w):kE w:=by
 unfold kW at h
 cases h1:kU g 0 ks with
 | none=>rw [h1] at h;cases h
 | some a =>
  rw [h1] at h;obtain rfl:=jw h;exact kE.app (kE.app (kE.one zgi) (ze7 hg ks 0 a h1)) (kE.one zfz)
theorem zdz:∀ (f:Nat) (l:Int) (t:Tree) (a:List ByteArray),kD f l t=some a->kE a
 | 0,_,_,_,h=>by simp [kD] at h
 | f+1,l,.node k x m ks,a,h=>by
  have ih:=zdz f
  have hbare:∀ w,kI yT (.node k x m ks)=true->yV (kD f) (.node k x m ks)=some w->kE w:=fun w hl hw=>by
   unfold kI at hl;simp only [jj,jl] at hl;obtain ⟨⟨⟨⟨⟨_,h1⟩,h2⟩,h3⟩,h4⟩,h5⟩:=hl;unfold yV at hw;dsimp only at hw;by_cases h15:k=15;·rw [jv h15] at hw;subst h15;obtain rfl:=jw hw;exact kE.one (znc h1 h2)
   rw [ju h15] at hw;by_cases h16:k=16;·rw [jv h16] at hw;exact zfm hw
   rw [ju h16] at hw;by_cases h17:k=17
   ·rw [jv h17] at hw
    cases hn:kV x with
    | none=>rw [hn] at hw;cases hw
    | some nm =>
     rw [hn] at hw
     cases he:kD f 0 (ks.getD 0 noT) with
     | none=>simp only [jf,he] at hw;cases hw
     | some e =>
      simp only [jf,he,jh] at hw;subst hw;exact kE.app (kE.app (kE.app (zfm hn) (kE.one zok)) (ih _ _ _ he)) (kE.one zn1)
   rw [ju h17] at hw;by_cases h18:k=18
   ·rw [jv h18] at hw
    cases hn:kV x with
    | none=>rw [hn] at hw;cases hw
    | some nm =>
     rw [hn] at hw
     cases he:kU (kD f 0) 0 ks with
     | none=>simp only [jf,he] at hw;cases hw
     | some e =>
      simp only [jf,he,jh] at hw;subst hw;exact kE.app (kE.app (kE.app (zfm hn) (kE.one zgi)) (ze7 (fun t a h=>ih 0 t a h) ks 0 e he)) (kE.one zfz)
   rw [ju h18] at hw;by_cases h19:k=19
   ·rw [jv h19] at hw;subst h19;have h1':(1:Int)<=m:=h1;have h2':m<=9:=h2
    cases he:kD f (max (kZ m.toNat) 1) (ks.getD 0 noT) with
    | none=>rw [he] at hw;cases hw
    | some e =>
     rw [he] at hw
     cases he2:kD f (kZ m.toNat+1) (ks.getD 1 noT) with
     | none=>simp only [jf,he2] at hw;cases hw
     | some e2 =>
      simp only [jf,he2,jh] at hw;subst hw;exact kE.app (kE.app (ih _ _ _ he) (kE.one (yae m.toNat (by omega) (by omega)))) (ih _ _ _ he2)
   rw [ju h19] at hw;by_cases h20:k=20
   ·rw [jv h20] at hw
    cases he:kD f 3 (ks.getD 0 noT) with
    | none=>rw [he] at hw;cases hw
    | some e =>
     rw [he] at hw;obtain rfl:=jw hw;exact kE.app (kE.one zvf) (ih _ _ _ he)
   rw [ju h20] at hw
   cases he:kD f 3 (ks.getD 0 noT) with
   | none=>rw [he] at hw;cases hw
   | some e =>
    rw [he] at hw;obtain rfl:=jw hw;exact kE.app (kE.one yaq) (ih _ _ _ he)
  unfold kD at h;by_cases hl:kI yT (.node k x m ks)=true
  ·rw [jv hl] at h;by_cases hb:l<=uI k m;·rw [jv hb] at h;exact hbare _ hl h
   ·rw [ju hb] at h
    cases hw:yV (kD f) (.node k x m ks) with
    | none=>rw [hw] at h;cases h
    | some w =>
     rw [hw] at h;obtain rfl:=jw h;exact kE.app (kE.app (kE.one zgi) (hbare _ hl hw)) (kE.one zfz)
  ·rw [ju hl] at h;cases h
/-! statements,declarations,modules -/
theorem zdv {g:Tree->Option (List ByteArray)} (hg:∀ t a,g t=some a->kE a):∀ (ks:List Tree) (w:List ByteArray),kP g ks=some w->kE w
 | [],w,h=>by obtain rfl:=jw h;exact kE.nil
 | t :: r,w,h=>by
  unfold kP at h
  cases h1:g t with
  | none=>rw [h1] at h;cases h
  | some a =>
   rw [h1] at h
   cases h2:kP g r with
   | none=>simp only [jf,h2] at h;cases h
   | some b =>
    simp only [jf,h2,jh] at h;subst h;exact kE.app (hg t a h1) (zdv hg r b h2)
theorem zk1 {f:Nat} {t:Tree} {w:List ByteArray} (h:yI f t=some w):kE w:=by
 unfold yI at h;by_cases hl:kI [16,17] t=true;·rw [jv hl] at h;exact zdz _ _ _ _ h
 ·rw [ju hl] at h;cases h
theorem yab {f:Nat} {t:Tree} {w:List ByteArray} (h:doW f t=some w):kE w:=by
 unfold doW at h;by_cases hl:kI [18] t=true;·rw [jv hl] at h;exact zdz _ _ _ _ h
 ·rw [ju hl] at h;cases h
theorem zzq {t:Tree} {w:List ByteArray} (h:yK t=some w):kE w:=by
 obtain ⟨x,m,rfl,rfl,hx,_⟩:=zcs h;exact kE.cons (bE m) (kE.one (fF hx))
structure SOk (f:Nat):Prop where
 bk:∀ t w,kS f t=some w->kE w
 st:∀ t w,kL f t=some w->kE w
theorem zos:∀ f,SOk f
 | 0=>⟨fun _ _ h=>by simp [kS] at h,fun _ _ h=>by simp [kL] at h⟩
 | f+1=>by
  have ih:=zos f;have io:=fun t a h=>zdz f 0 t a h
  refine ⟨fun t w h=>?_,fun t w h=>?_⟩
  ·obtain ⟨k,x,m,ks⟩:=t;unfold kS at h;by_cases hl:kI [6] (.node k x m ks)=true
   ·rw [jv hl] at h
    cases hb:kP (kL f) ks with
    | none=>rw [hb] at h;cases h
    | some b =>
     rw [hb] at h;obtain rfl:=jw h;exact kE.app (kE.app (kE.one zw1) (zdv ih.st ks b hb)) (kE.one yaj)
   ·rw [ju hl] at h;cases h
  ·obtain ⟨k,x,m,ks⟩:=t;unfold kL at h;by_cases hl:kI kQ (.node k x m ks)=true
   ·rw [jv hl] at h;by_cases h10:k=10
    ·rw [jv h10] at h
     cases hc:kW (kD f 0) (ks.take 1) with
     | none=>rw [hc] at h;cases h
     | some c =>
      rw [hc] at h
      cases hb:kS f (ks.getD 1 noT) with
      | none=>simp only [jf,hb] at h;cases h
      | some b =>
       simp only [jf,hb] at h;have h1:kE ([⟨#[105,102]⟩]++c++b):=kE.app (kE.app (kE.one (vT _ (by decide +kernel))) (zfj io hc)) (ih.bk _ _ hb);by_cases h2:2<ks.length
       ·rw [jv h2] at h
        cases hd:kS f (ks.getD 2 noT) with
        | none=>rw [hd] at h;cases h
        | some d =>
         rw [hd] at h;obtain rfl:=jw h;exact kE.app (kE.app h1 (kE.one (vT _ (by decide +kernel)))) (ih.bk _ _ hd)
       ·rw [ju h2] at h;obtain rfl:=jw h;exact h1
    rw [ju h10] at h;by_cases h11:k=11
    ·rw [jv h11] at h
     cases hc:kW (kD f 0) (ks.take 1) with
     | none=>rw [hc] at h;cases h
     | some c =>
      rw [hc] at h
      cases hb:kS f (ks.getD 1 noT) with
      | none=>simp only [jf,hb] at h;cases h
      | some b =>
       simp only [jf,hb,jh] at h;subst h;exact kE.app (kE.app (kE.one (vT _ (by decide +kernel))) (zfj io hc)) (ih.bk _ _ hb)
    rw [ju h11] at h;by_cases h7:k=7
    ·rw [jv h7] at h;subst h7;unfold kI at hl;simp only [jj,jl] at hl
     cases hc:kD f 0 (ks.getD 0 noT) with
     | none=>rw [hc] at h;cases h
     | some c =>
      rw [hc] at h;obtain rfl:=jw h;exact kE.app (kE.app (kE.app (kE.one (bE m)) (kE.cons (fF (fB hl.2)) (kE.one zoq))) (io _ _ hc)) (kE.one fH)
    rw [ju h7] at h;by_cases h8:k=8
    ·rw [jv h8] at h
     cases hp:yI f (ks.getD 0 noT) with
     | none=>rw [hp] at h;cases h
     | some p =>
      rw [hp] at h
      cases hc:kD f 0 (ks.getD 1 noT) with
      | none=>simp only [jf,hc] at h;cases h
      | some c =>
       simp only [jf,hc,jh] at h;subst h;exact kE.app (kE.app (kE.app (zk1 hp) (kE.one zoq)) (io _ _ hc)) (kE.one fH)
    rw [ju h8] at h;by_cases h9:k=9
    ·rw [jv h9] at h
     cases hc:doW f (ks.getD 0 noT) with
     | none=>rw [hc] at h;cases h
     | some c =>
      rw [hc] at h;obtain rfl:=jw h;exact kE.app (kE.app (kE.one (vT _ (by decide +kernel))) (yab hc)) (kE.one fH)
    rw [ju h9] at h;by_cases h12:k=12
    ·rw [jv h12] at h
     cases hc:kD f 0 (ks.getD 0 noT) with
     | none=>rw [hc] at h;cases h
     | some c =>
      rw [hc] at h;obtain rfl:=jw h;exact kE.app (kE.app (kE.app (kE.one (vT _ (by decide +kernel))) (kE.one (bE m))) (io _ _ hc)) (kE.one fH)
    rw [ju h12] at h;by_cases h13:k=13
    ·rw [jv h13] at h
     cases hc:yI f (ks.getD 0 noT) with
     | none=>rw [hc] at h;cases h
     | some c =>
      rw [hc] at h;obtain rfl:=jw h;exact kE.app (kE.app (kE.app (kE.one (vT _ (by decide +kernel))) (kE.one (bE m))) (zk1 hc)) (kE.one fH)
    rw [ju h13] at h
    cases hc:kD f 0 (ks.getD 0 noT) with
    | none=>rw [hc] at h;cases h
    | some c =>
     rw [hc] at h;obtain rfl:=jw h;exact kE.app (kE.app (kE.one (vT _ (by decide +kernel))) (io _ _ hc)) (kE.one fH)
   ·rw [ju hl] at h;cases h
theorem zgj (m:Int):kE (if m.toNat / 2 % 2=1 then [⟨#[112,117,98]⟩] else []):=by
 by_cases h:m.toNat / 2 % 2=1;·rw [jv h];exact kE.one (vT _ (by decide +kernel))
 ·rw [ju h];exact kE.nil
theorem zyg (m:Int):kE (xE m):=by
 unfold xE;by_cases h:m.toNat / 4 % 4=1;·rw [jv h];exact kE.cons (vT _ (by decide +kernel)) (kE.one (vT _ (by decide +kernel)))
 ·rw [ju h];by_cases h2:m.toNat / 4 % 4=2;·rw [jv h2];exact kE.cons (vT _ (by decide +kernel)) (kE.one (vT _ (by decide +kernel)))
  ·rw [ju h2];exact kE.nil
theorem zw3 {t:Tree} {w:List ByteArray} (h:xS t=some w):kE w:=by
 obtain ⟨k,x,m,ks⟩:=t;unfold xS at h;dsimp only at h;by_cases hl:kI [15] (.node k x m ks)=true
 ·rw [jv hl] at h;obtain rfl:=jw h;unfold kI at hl;simp only [jj,jl] at hl;obtain ⟨⟨⟨⟨⟨hc,h1⟩,h2⟩,h3⟩,h4⟩,h5⟩:=hl
  obtain rfl:k=15:=by
   have:=List.contains_iff_mem.1 hc;simpa using this
  exact kE.one (znc h1 h2)
 ·rw [ju hl] at h;cases h
theorem zv1 {f:Nat} (t:Tree) (w:List ByteArray) (ho:qQ f t=some w):kE w:=by
 obtain ⟨k,x,m,ks⟩:=t;unfold qQ at ho;dsimp only at ho;by_cases hl:kI [3,4] (.node k x m ks)=true
 ·rw [jv hl] at ho;unfold kI at hl;simp only [jj,jl] at hl;obtain ⟨⟨⟨⟨⟨hc,h1⟩,h2⟩,h3⟩,h4⟩,h5⟩:=hl
  have hk:k=3\/k=4:=by
   have:=List.contains_iff_mem.1 hc;simpa using this
  have hx:kK x=true:=by
   rcases hk with rfl | rfl<;>exact fB h5
  by_cases hk4:k=4
  ·rw [jv hk4] at ho
   cases hp:kW yK (ks.take (ks.length - 1)) with
   | none=>rw [hp] at ho;cases ho
   | some p =>
    rw [hp] at ho
    cases hb:kS f (ks.getD (ks.length - 1) noT) with
    | none=>simp only [jf,hb] at ho;cases ho
    | some b =>
     simp only [jf,hb,jh] at ho;subst ho;exact kE.app (kE.app (kE.app (kE.app (kE.app (zgj m) (kE.cons (vT _ (by decide +kernel)) (kE.one (fF hx)))) (zfj (fun t a h=>zzq h) hp)) (kE.one (bE _))) (zyg m)) ((zos f).bk _ _ hb)
  ·rw [ju hk4] at ho
   cases ks with
   | nil =>
    dsimp only at ho;obtain rfl:=jw ho
    exact kE.app (kE.app (kE.app (zgj m) (kE.one (bE _))) (kE.one (fF hx))) (kE.one fH)
   | cons t0 rr =>
    dsimp only at ho
    cases hw:xS t0 with
    | none=>rw [hw] at ho;cases ho
    | some n =>
     rw [hw] at ho;obtain rfl:=jw ho;exact kE.app (kE.app (kE.app (kE.app (kE.app (kE.app (zgj m) (kE.one (bE _))) (kE.one (fF hx))) (kE.one zok)) (zw3 hw)) (kE.one zn1)) (kE.one fH)
 ·rw [ju hl] at ho;cases ho
theorem zys (t:Tree) (w:List ByteArray) (h:yQ t=some w):kE w:=by
 obtain ⟨x,rfl,rfl,hx⟩:=zjp h;exact kE.cons (vT _ (by decide +kernel)) (kE.cons (fF hx) (kE.one fH))
theorem zel {f:Nat} {t:Tree} {w:List ByteArray} (ho:xG f t=some w):kE w:=by
 obtain ⟨k,x,m,ks⟩:=t;unfold xG at ho;dsimp only at ho;by_cases hl:kI [1] (.node k x m ks)=true
 ·rw [jv hl] at ho
  cases ha:kP yQ (ks.takeWhile kT) with
  | none=>rw [ha] at ho;cases ho
  | some a =>
   rw [ha] at ho
   cases hb:kP (qQ f) (ks.dropWhile kT) with
   | none=>simp only [jf,hb] at ho;cases ho
   | some b =>
    simp only [jf,hb,jh] at ho;subst ho;unfold kI at hl;simp only [jj,jl] at hl;obtain ⟨⟨⟨⟨⟨hc,h1⟩,h2⟩,h3⟩,h4⟩,h5⟩:=hl
    obtain rfl:k=1:=by
     have:=List.contains_iff_mem.1 hc;simpa using this
    exact kE.app (kE.app (kE.cons (vT _ (by decide +kernel)) (kE.cons (fF (fB h5)) (kE.one fH))) (zdv zys _ _ ha)) (zdv zv1 _ _ hb)
 ·rw [ju hl] at ho;cases ho
theorem zxx {f:Nat} {t:Tree} {w:List ByteArray} (hf:∀ ts:List Tok,ts.length<=3000->∀ j,∃ q,yO ts 100000 ⟨j,false⟩=some q) (ho:xG f t=some w) (hl:(zA w).length<=3000) : ∃ toks,scan (zA w)=.ok toks/\uG toks=some (t,⟨toks.length,false⟩):=by
 obtain ⟨toks,h1,h2,h3⟩:=zx6 w (zel ho) hl
 have hlen:∀ (ws:List ByteArray),kE ws->ws.length<=(zA ws).length:=fun ws=>by
  induction ws with
  | nil=>intro _;exact Nat.le_refl _
  | cons y r ih =>
   intro ha;obtain ⟨k,hne,_⟩:=ha y (by simp);have hp:=List.length_pos_iff.2 hne
   cases r with
   | nil=>show 1<=y.data.toList.length;omega
   | cons z rr =>
    have:=ih (fun q hq=>ha q (jF _ hq));show (y :: z :: rr).length<=(y.data.toList++32 :: zA (z :: rr)).length;simp only [jb,jd] at this |-;omega
 have hw:=hlen w (zel ho);exact ⟨toks,h1,zr7 (hf toks (by omega)) ho h3 h2⟩
end pr
namespace pr
open lexs (Tok scan)
open syn face chk
def xQ (t:Tree):List UInt8 × Int:=if vC t then (match xG 16 t with
 | none=>([],2)
 | some w=>if 3000<(zA w).length then ([],1) else (zA w,0)) else ([],1)
theorem zst {t:Tree} (h:(xQ t).2=0):∃ w,xG 16 t=some w/\vC t=true/\(zA w).length<=3000/\(xQ t).1=zA w:=by
 unfold xQ at h |-;by_cases hf:vC t=true
 ·rw [jv hf] at h |-
  cases hw:xG 16 t with
  | none=>rw [hw] at h;simp at h
  | some w =>
   rw [hw] at h;dsimp only at h |-;by_cases hl:3000<(zA w).length;·rw [jv hl] at h;simp at h
   ·rw [ju hl];exact ⟨w,rfl,hf,by omega,rfl⟩
 ·rw [ju hf] at h;simp at h
theorem zqz {t:Tree} (h:(xQ t).2=0):kM ⟨(xQ t).1.toArray⟩=⟨t,0,0⟩:=by
 obtain ⟨w,h1,h2,h3,h4⟩:=zst h
 obtain ⟨toks,h5,h6⟩:=zxx (fun ts hts j=>by
  obtain ⟨q,hq,_⟩:=zj0 (ts:=ts) (s:=⟨j,false⟩) (f:=100000) (by unfold left;dsimp only;rw [ju (by simp)];omega)
  exact ⟨q,hq⟩) h1 h3
 unfold kM;rw [h4];dsimp only;rw [h5];dsimp only;rw [h6];dsimp only;unfold gB;rw [ju (by simp),jv h2]
end pr
namespace pr
open lexs (Tok scan qU val qJ)
open syn face
mutual
def TxT:Tree->Prop
 | .node k x m ks=>x.size<=40/\TxL ks
def TxL:List Tree->Prop
 | []=>True
 | t :: r=>TxT t/\TxL r
end
section
variable (ts:List Tok)
theorem n40 (s:St):(name ts s).1.size<=40:=by have:=name_size ts s;omega
theorem l40 (s:St):(whole ts s).1.size<=40:=by
 unfold whole;dsimp only;have h1:=name_size ts s;split;·have h2:=name_size ts (eat ts ⟨#[46]⟩ (name ts s).2).2;dsimp only;rw [ByteArray.size_append,ByteArray.size_append];have h3:(⟨#[46]⟩:ByteArray).size=1:=rfl;omega
 ·dsimp only;omega
end
theorem TxL.snoc {t:Tree} (ht:TxT t):∀ {ks:List Tree},TxL ks->TxL (ks++[t])
 | [],_=>by show TxT t/\TxL [];exact ⟨ht,by unfold TxL;trivial⟩
 | a :: r,h=>by
  unfold TxL at h;show TxT a/\TxL (r++[t]);exact ⟨h.1,TxL.snoc ht h.2⟩
theorem fY {k m:Int} {x:ByteArray} (h:x.size<=40):TxT (.node k x m []):=by unfold TxT;exact ⟨h,by unfold TxL;trivial⟩
theorem dU {k m:Int} {x:ByteArray} {t:Tree} (h:x.size<=40) (ht:TxT t):TxT (.node k x m [t]):=by
 unfold TxT TxL TxL;exact ⟨h,ht,trivial⟩
theorem zbx {k m:Int} {x:ByteArray} {t u:Tree} (h:x.size<=40) (ht:TxT t) (hu:TxT u):TxT (.node k x m [t,u]):=by
 unfold TxT TxL TxL TxL;exact ⟨h,ht,hu,trivial⟩
theorem zrn {k m:Int} {x:ByteArray} {t u v:Tree} (h:x.size<=40) (ht:TxT t) (hu:TxT u) (hv:TxT v):TxT (.node k x m [t,u,v]):=by
 unfold TxT TxL TxL TxL TxL;exact ⟨h,ht,hu,hv,trivial⟩
section
variable (ts:List Tok)
structure TxE (f:Nat):Prop where
 ex:∀ s q,qB ts f s=some q->TxT q.1
 bo:∀ l s q,qK ts f l s=some q->TxT q.1
 bl:∀ l n s q,TxT n->qW ts f l n s=some q->TxT q.1
 un:∀ s q,zF ts f s=some q->TxT q.1
 ak:∀ s q,zJ ts f s=some q->TxT q.1
 pl:∀ x s q,x.size<=40->qX ts f x s=some q->TxT q.1
 ca:∀ x s q,x.size<=40->zT ts f x s=some q->TxT q.1
 cl:∀ x ks s on q,x.size<=40->TxL ks->zO ts f x ks s on=some q->TxT q.1
theorem zj4 (s:St):TxT (zK ts s).1:=by
 unfold zK
 cases hh:xY ts s with
 | none=>exact fY (by first | exact jz _ | exact n40 ts _ | exact l40 ts _ | assumption | decide)
 | some t =>
  dsimp only;by_cases h2:(t.kind==2)=true;·rw [jv h2];exact fY (by first | exact jz _ | exact n40 ts _ | exact l40 ts _ | assumption | decide)
  ·rw [ju h2];exact fY (by first | exact jz _ | exact n40 ts _ | exact l40 ts _ | assumption | decide)
theorem txE:∀ f,TxE ts f
 | 0=>by
  constructor;·intro s q h;unfold qB at h;cases h
  ·intro l s q h;unfold qK at h;cases h
  ·intro l n s q hn h;unfold qW at h;cases h
  ·intro s q h;unfold zF at h;cases h
  ·intro s q h;unfold zJ at h;cases h
  ·intro x s q hz h;unfold qX at h;cases h
  ·intro x s q hz h;unfold zT at h;cases h
  ·intro x ks s on q hz hk h;unfold zO at h;cases h
 | f+1=>by
  have ih:=txE f;constructor
  ·intro s q h;unfold qB at h;split at h;·cases h;exact fY (by first | exact jz _ | exact n40 ts _ | exact l40 ts _ | assumption | decide)
   ·exact ih.bo _ _ _ h
  ·intro l s q h;unfold qK at h;split at h;·exact ih.un _ _ h
   ·obtain ⟨p,hp,h⟩:=jg.1 h;exact ih.bl _ _ _ _ (ih.bo _ _ _ hp) h
  ·intro l n s q hn h;unfold qW at h;split at h;·cases h;exact hn
   ·split at h;·cases h;exact hn
    ·rename_i hs;obtain ⟨p,hp,h⟩:=jg.1 h;have h2:=ih.bo _ _ _ hp;split at h;·cases h;exact zbx (by first | exact jz _ | exact n40 ts _ | exact l40 ts _ | assumption | decide) hn h2
     ·exact ih.bl _ _ _ _ (zbx (by first | exact jz _ | exact n40 ts _ | exact l40 ts _ | assumption | decide) hn h2) h
  ·intro s q h;unfold zF at h;split at h;·obtain ⟨p,hp,h⟩:=jg.1 h;cases h;exact dU (by first | exact jz _ | exact n40 ts _ | exact l40 ts _ | assumption | decide) (ih.un _ _ hp)
   ·split at h;·obtain ⟨p,hp,h⟩:=jg.1 h;cases h;exact dU (by first | exact jz _ | exact n40 ts _ | exact l40 ts _ | assumption | decide) (ih.un _ _ hp)
    ·split at h;·exact ih.ak _ _ h
     ·split at h;·cases h;exact zj4 ts s
      ·split at h;·exact ih.ca _ _ _ (by first | exact jz _ | exact n40 ts _ | exact l40 ts _ | assumption | decide) h
       ·exact ih.pl _ _ _ (by first | exact jz _ | exact n40 ts _ | exact l40 ts _ | assumption | decide) h
  ·intro s q h;unfold zJ at h;obtain ⟨p,hp,h⟩:=jg.1 h;cases h;show TxT p.1;exact ih.ex _ _ hp
  ·intro x s q hz h;unfold qX at h;split at h;·obtain ⟨p,hp,h⟩:=jg.1 h;cases h;exact dU (by first | exact jz _ | exact n40 ts _ | exact l40 ts _ | assumption | decide) (ih.ex _ _ hp)
   ·cases h;exact fY (by first | exact jz _ | exact n40 ts _ | exact l40 ts _ | assumption | decide)
  ·intro x s q hz h;unfold zT at h;split at h;·cases h;exact fY (by first | exact jz _ | exact n40 ts _ | exact l40 ts _ | assumption | decide)
   ·exact ih.cl _ _ _ _ _ hz (by unfold TxL;trivial) h
  ·intro x ks s on q hz hk h;unfold zO at h;split at h;·obtain ⟨p,hp,h⟩:=jg.1 h;exact ih.cl _ _ _ _ _ hz (TxL.snoc (ih.ex _ _ hp) hk) h
   ·cases h;show TxT (.node 18 x 0 ks);unfold TxT;exact ⟨(by first | exact jz _ | exact n40 ts _ | exact l40 ts _ | assumption | decide),hk⟩
structure TxS (f:Nat):Prop where
 bl:∀ s q,qZ ts f s=some q->TxT q.1
 li:∀ ks s q,TxL ks->zQ ts f ks s=some q->TxT q.1
 st:∀ s q,zI ts f s=some q->TxT q.1
theorem txS:∀ f,TxS ts f
 | 0=>by
  constructor;·intro s q h;unfold qZ at h;cases h
  ·intro ks s q hk h;unfold zQ at h;cases h
  ·intro s q h;unfold zI at h;cases h
 | f+1=>by
  have ih:=txS f;have ie:=txE ts f;constructor;·intro s q h;unfold qZ at h;exact ih.li _ _ _ (by unfold TxL;trivial) h
  ·intro ks s q hk h;unfold zQ at h;have hn:TxT (.node 6 empty 0 ks):=by unfold TxT;exact ⟨(by first | exact jz _ | exact n40 ts _ | exact l40 ts _ | assumption | decide),hk⟩
   split at h;·cases h;exact hn
   ·split at h;·cases h;exact hn
    ·obtain ⟨p,hp,h⟩:=jg.1 h;exact ih.li _ _ _ (TxL.snoc (ih.st _ _ hp) hk) h
  ·intro s q h;unfold zI at h;split at h
   ·obtain ⟨x,hx,h⟩:=jg.1 h;obtain ⟨b,hb,h⟩:=jg.1 h;split at h;·obtain ⟨c,hc,h⟩:=jg.1 h;cases h;exact zrn (by first | exact jz _ | exact n40 ts _ | exact l40 ts _ | assumption | decide) (ie.ak _ _ hx) (ih.bl _ _ hb) (ih.bl _ _ hc)
    ·cases h;exact zbx (by first | exact jz _ | exact n40 ts _ | exact l40 ts _ | assumption | decide) (ie.ak _ _ hx) (ih.bl _ _ hb)
   ·split at h;·obtain ⟨x,hx,h⟩:=jg.1 h;obtain ⟨b,hb,h⟩:=jg.1 h;cases h;exact zbx (by first | exact jz _ | exact n40 ts _ | exact l40 ts _ | assumption | decide) (ie.ak _ _ hx) (ih.bl _ _ hb)
    ·split at h;·obtain ⟨x,hx,h⟩:=jg.1 h;cases h;exact dU (by first | exact jz _ | exact n40 ts _ | exact l40 ts _ | assumption | decide) (ie.ex _ _ hx)
     ·split at h;·obtain ⟨x,hx,h⟩:=jg.1 h;cases h;exact dU (by first | exact jz _ | exact n40 ts _ | exact l40 ts _ | assumption | decide) (ie.ca _ _ _ (by first | exact jz _ | exact n40 ts _ | exact l40 ts _ | assumption | decide) hx)
      ·split at h;·obtain ⟨x,hx,h⟩:=jg.1 h;cases h;exact dU (by first | exact jz _ | exact n40 ts _ | exact l40 ts _ | assumption | decide) (ie.ex _ _ hx)
       ·split at h;·obtain ⟨x,hx,h⟩:=jg.1 h;cases h;exact dU (by first | exact jz _ | exact n40 ts _ | exact l40 ts _ | assumption | decide) (ie.pl _ _ _ (by first | exact jz _ | exact n40 ts _ | exact l40 ts _ | assumption | decide) hx)
        ·split at h;·obtain ⟨x,hx,h⟩:=jg.1 h;cases h;exact dU (by first | exact jz _ | exact n40 ts _ | exact l40 ts _ | assumption | decide) (ie.ex _ _ hx)
         ·obtain ⟨x,hx,h⟩:=jg.1 h;obtain ⟨y,hy,h⟩:=jg.1 h;cases h;exact zbx (by first | exact jz _ | exact n40 ts _ | exact l40 ts _ | assumption | decide) (ie.pl _ _ _ (by first | exact jz _ | exact n40 ts _ | exact l40 ts _ | assumption | decide) hx) (ie.ex _ _ hy)
end
section
variable (ts:List Tok)
theorem zh9:∀ (f:Nat) (ks:List Tree) (s:St) (q:List Tree × St),TxL ks->yD ts f ks s=some q->TxL q.1
 | 0,ks,s,q,hk,h=>by unfold yD at h;cases h
 | f+1,ks,s,q,hk,h=>by
  unfold yD at h;have hn:=TxL.snoc (fY (x:=(name ts (label ts s).2).1) (k:=5) (m:=(label ts s).1) (by first | exact jz _ | exact n40 ts _ | exact l40 ts _ | assumption | decide)) hk;split at h;·exact zh9 f _ _ _ hn h
  ·cases h;exact hn
theorem zxi (f:Nat) (s:St) (q:Tree × St) (h:yO ts f s=some q):TxT q.1:=by
 unfold yO at h;split at h
 ·obtain ⟨a,ha,h⟩:=jg.1 h;obtain ⟨b,hb,h⟩:=jg.1 h;cases h
  have h1:TxL a.1:=by
   unfold params at ha;split at ha;·cases ha;unfold TxL;trivial
   ·exact zh9 ts f [] _ _ (by unfold TxL;trivial) ha
  show TxT (.node 4 _ _ _);unfold TxT;exact ⟨(by first | exact jz _ | exact n40 ts _ | exact l40 ts _ | assumption | decide),TxL.snoc ((txS ts f).bl _ _ hb) h1⟩
 ·cases h;show TxT (.node 3 _ _ _);unfold TxT;refine ⟨(by first | exact jz _ | exact n40 ts _ | exact l40 ts _ | assumption | decide),?_⟩;unfold yB;split;·unfold TxL TxL;exact ⟨zj4 ts _,trivial⟩
  ·unfold TxL;trivial
theorem zh3:∀ (f:Nat) (ks:List Tree) (s:St) (q:List Tree × St),TxL ks->yC ts f ks s=some q->TxL q.1
 | 0,ks,s,q,hk,h=>by unfold yC at h;cases h
 | f+1,ks,s,q,hk,h=>by
  unfold yC at h;split at h;·exact zh3 f _ _ _ (TxL.snoc (fY (by first | exact jz _ | exact n40 ts _ | exact l40 ts _ | assumption | decide)) hk) h
  ·cases h;exact hk
theorem zi0:∀ (f:Nat) (ks:List Tree) (s:St) (q:List Tree × St),TxL ks->zY ts f ks s=some q->TxL q.1
 | 0,ks,s,q,hk,h=>by unfold zY at h;cases h
 | f+1,ks,s,q,hk,h=>by
  unfold zY at h;split at h;·cases h;exact hk
  ·obtain ⟨p,hp,h⟩:=jg.1 h;exact zi0 f _ _ _ (TxL.snoc (zxi ts _ _ _ hp) hk) h
theorem zs8 (q:Tree × St) (h:uG ts=some q):TxT q.1:=by
 unfold uG at h;obtain ⟨p,hp,h⟩:=jg.1 h;obtain ⟨r,hr,h⟩:=jg.1 h;cases h;show TxT (.node 1 _ 0 _);unfold TxT;exact ⟨(by first | exact jz _ | exact n40 ts _ | exact l40 ts _ | assumption | decide),zi0 ts _ _ _ _ (zh3 ts _ _ _ _ (by unfold TxL;trivial) hp) hr⟩
end
theorem zux (x:ByteArray):TxT (kM x).tree:=by
 have h0:TxT fK:=fY (by first | exact jz _ | exact n40 ts _ | exact l40 ts _ | assumption | decide);unfold kM
 cases hs:scan x.data.toList with
 | err c p=>exact h0
 | ok ts =>
  dsimp only
  cases hm:uG ts with
  | none=>exact h0
  | some q =>
   dsimp only;unfold gB;split;·exact h0
   ·split;·exact zs8 ts q hm
    ·exact h0
end pr
namespace pr
open lexs
open syn face chk
theorem zqm {l:List UInt8} {k:Int} {n:Nat} (h:qA l=.tok k n) (hn:n=l.length):n<=20:=by
 unfold qA vI at h;split at h;·cases h
 split at h;·cases h
 split at h
 ·split at h;·cases h
  ·rename_i h16;injection h with _ h;omega
 split at h
 ·split at h
  ·rename_i hz;injection h with _ h;rw [h,hn,List.take_length] at hz;have hz:qU l=0:=by simpa using hz
   unfold qU at hz;split at hz;·cases hz
   split at hz;·cases hz
   split at hz;·cases hz
   ·rename_i h19;simp only [Bool.or_eq_true,jl,not_or] at h19;omega
  ·cases h
 ·split at h;·cases h
  ·injection h with _ h;rw [<- h];unfold vZ;split;·omega
   ·split<;>omega
theorem ziz {y:ByteArray} (h:yS y):y.data.toList.length<=20:=by
 obtain ⟨k,_,_,h2,_⟩:=h;exact zqm h2 rfl
theorem zio:∀ (ws:List ByteArray),(∀ y∈ws,yS y)->(zA ws).length<=21*ws.length
 | [],_=>Nat.le_refl _
 | [y],h=>by have:=ziz (h y (by simp));show y.data.toList.length<=21*1;omega
 | y :: z :: r,h=>by
  have h1:=ziz (h y (by simp));have h2:=zio (z :: r) (fun q hq=>h q (jF _ hq));show (y.data.toList++32 :: zA (z :: r)).length<=_;simp only [jb,jd] at h2 |-;omega
def ShT (n:Nat):Tree->Prop
 | .node _ x _ ks=>x.size<n/\ShL n ks
where ShL (n:Nat):List Tree->Prop
 | []=>True
 | t :: r=>ShT n t/\ShL n r
end pr
namespace pr
open syn face chk
mutual
theorem zof:∀ (t t':Tree),UpT t t'->InT t->InT t'
 | .node k x m ks,t',h,hn=>by
  unfold UpT at h;obtain ⟨m',ks',rfl,hm,h⟩:=h;unfold InT at hn |-;exact ⟨hn.1,zmy ks ks' h hn.2⟩
theorem zmy:∀ (ks ks':List Tree),UpL ks ks'->InL ks->InL ks'
 | [],l,h,hn=>by unfold UpL at h;rw [h];unfold InL;trivial
 | t :: r,l,h,hn=>by
  unfold UpL at h;obtain ⟨t',r',rfl,h1,h2⟩:=h;unfold InL at hn |-;exact ⟨zof t t' h1 hn.1,zmy r r' h2 hn.2⟩
end
theorem zil:∀ {A B l:List Tree},UpL (A++B) l->∃ A' B',l=A'++B'/\UpL A A'/\UpL B B'
 | [],B,l,h=>⟨[],l,rfl,by unfold UpL;rfl,h⟩
 | a :: r,B,l,h=>by
  rw [jK] at h;unfold UpL at h;obtain ⟨t',r',rfl,h1,h2⟩:=h;obtain ⟨A',B',rfl,h3,h4⟩:=zil h2;refine ⟨t' :: A',B',rfl,?_,h4⟩;unfold UpL;exact ⟨t',A',rfl,h1,h3⟩
def UpK:Kid->Kid->Prop
 | .proc x p l g ps b,k'=>∃ b',k'=.proc x p l g ps b'/\UpT b b'
 | .imp x,k'=>k'=.imp x
 | .var x p l n,k'=>k'=.var x p l n
theorem zdh {k m:Int} {x:ByteArray} (hk:k≠12) (t':Tree) (h:UpT (.node k x m []) t'):t'=.node k x m []:=uN hk (fun t ht=>by cases ht) t' h
theorem zz1 (k:Kid) (t':Tree) (h:UpT k.tree t'):∃ k',t'=k'.tree/\UpK k k':=by
 cases k with
 | imp x=>exact ⟨.imp x,zdh (by decide) t' h,rfl⟩
 | var x p l n =>
  refine ⟨.var x p l n,?_,rfl⟩
  cases n with
  | none=>exact zdh (by decide) t' h
  | some n=>exact uN (by decide) (fun t ht=>by rw [jy] at ht;rw [ht];exact zdh (by decide)) t' h
 | proc x p l g ps b =>
  have h':UpT (.node 4 x (2*bI p+bI l+gI g) (ps.map zL++[b])) t':=h;unfold UpT at h';obtain ⟨m',ks',rfl,hm,h'⟩:=h';obtain ⟨A',B',rfl,h1,h2⟩:=zil h'
  rw [zdg h1 (fun t ht=>by
   obtain ⟨q,_,rfl⟩:=List.mem_map.1 ht
   exact zdh (by decide))]
  unfold UpL UpL at h2;obtain ⟨b',r',rfl,h3,rfl⟩:=h2;rcases hm with rfl|⟨h4,_⟩
  ·exact ⟨.proc x p l g ps b',rfl,b',rfl,h3⟩
  ·exact absurd h4 (by decide)
def gV:List Kid->List Kid->Prop
 | [],l=>l=[]
 | k :: r,l=>∃ k' r',l=k' :: r'/\UpK k k'/\gV r r'
theorem zme:∀ (K:List Kid) (l:List Tree),UpL (K.map Kid.tree) l->∃ K',l=K'.map Kid.tree/\gV K K'
 | [],l,h=>⟨[],by rw [List.map_nil] at h |-;unfold UpL at h;exact h,rfl⟩
 | k :: r,l,h=>by
  rw [List.map_cons] at h;unfold UpL at h;obtain ⟨t',r',rfl,h1,h2⟩:=h;obtain ⟨k',rfl,h3⟩:=zz1 k t' h1;obtain ⟨K',rfl,h4⟩:=zme r r' h2;exact ⟨k' :: K',rfl,k',K',rfl,h3,h4⟩
theorem zfb {k k':Kid} (h:UpK k k'):kB k'.tree=kB k.tree/\kT k'.tree=kT k.tree:=by
 cases k with
 | imp x=>rw [show k'=_ from h];exact ⟨rfl,rfl⟩
 | var x p l n=>rw [show k'=_ from h];exact ⟨rfl,rfl⟩
 | proc x p l g ps b =>
  obtain ⟨b',rfl,hb⟩:=h;refine ⟨?_,rfl⟩;show kB (.node 4 x _ (ps.map zL++[b']))=kB (.node 4 x _ (ps.map zL++[b]));unfold kB
  have:∀ A:List Tree,kA (A++[b'])=kA (A++[b]):=fun A=>by
   induction A with
   | nil=>show kA [b']=kA [b];unfold kA;rw [zdw b b' hb]
   | cons a r ih=>show kA (a :: (r++[b']))=kA (a :: (r++[b]));unfold kA;rw [ih]
  rw [this]
theorem zde (m:ByteArray):∀ (K K':List Kid) (is ns:List ByteArray) (a:Int),gV K K'->lookK m K' is ns a=lookK m K is ns a
 | [],l,is,ns,a,h=>by rw [show l=[] from h]
 | k :: r,l,is,ns,a,h=>by
  obtain ⟨k',r',rfl,h1,h2⟩:=h;have hc:=(zfb h1).1
  cases k with
  | imp x=>rw [show k'=_ from h1];unfold lookK;rw [zde m r r' _ _ _ h2]
  | var x p l n=>rw [show k'=_ from h1];unfold lookK;rw [zde m r r' _ _ _ h2]
  | proc x p l g ps b =>
   obtain ⟨b',rfl,hb⟩:=h1;unfold lookK;rw [hc,zde m r r' _ _ _ h2]
theorem zdj (all:Bool):∀ (K K':List Kid),gV K K'->qE all K'=qE all K
 | [],l,h=>by rw [show l=[] from h]
 | k :: r,l,h=>by
  obtain ⟨k',r',rfl,h1,h2⟩:=h
  cases k with
  | imp x=>rw [show k'=_ from h1];unfold qE;rw [zdj all r r' h2]
  | var x p l n=>rw [show k'=_ from h1];unfold qE;rw [zdj all r r' h2]
  | proc x p l g ps b=>obtain ⟨b',rfl,hb⟩:=h1;unfold qE;rw [zdj all r r' h2]
theorem zda (all:Bool):∀ (K K':List Kid),gV K K'->qH all K'=qH all K
 | [],l,h=>by rw [show l=[] from h]
 | k :: r,l,h=>by
  obtain ⟨k',r',rfl,h1,h2⟩:=h
  cases k with
  | imp x=>rw [show k'=_ from h1];unfold qH;rw [zda all r r' h2]
  | var x p l n=>rw [show k'=_ from h1];unfold qH;rw [zda all r r' h2]
  | proc x p l g ps b=>obtain ⟨b',rfl,hb⟩:=h1;unfold qH;rw [zda all r r' h2]
theorem zvu (all:Bool) (m:ByteArray) {K K':List Kid} (h:gV K K'):zZ all m K'=zZ all m K:=by
 unfold zZ;rw [zdj all K K' h,zda all K K' h]
theorem zwt {k k':Kid} (h:UpK k k') (hk:k.good/\k.named/\xI k):k'.good/\k'.named/\xI k':=by
 cases k with
 | imp x=>rw [show k'=_ from h];exact hk
 | var x p l n=>rw [show k'=_ from h];exact hk
 | proc x p l g ps b =>
  obtain ⟨b',rfl,hb⟩:=h;obtain ⟨⟨h1,h2,h3⟩,h4,h5⟩:=hk;exact ⟨⟨h1,h2,zof b b' hb h3⟩,h4,((zg8 (zV b).toNat).bl b b' (by have:=cT b;omega) h5 hb).1⟩
theorem zln:∀ (K K':List Kid),gV K K'->(∀ k∈K,k.good/\k.named/\xI k)->∀ k∈K',k.good/\k.named/\xI k
 | [],l,h,_=>by rw [show l=[] from h];intro k hk;cases hk
 | k :: r,l,h,hs=>by
  obtain ⟨k',r',rfl,h1,h2⟩:=h;intro u hu;rcases List.mem_cons.1 hu with rfl | hu
  ·exact zwt h1 (hs k (jJ))
  ·exact zln r r' h2 (fun z hz=>hs z (jF _ hz)) u hu
theorem zmd:∀ (ks ks':List Tree),UpL ks ks'->(match ks'.getLast? with | some (.node k _ _ _)=>k==14 | none=>false)=(match ks.getLast? with | some (.node k _ _ _)=>k==14 | none=>false)
 | [],l,h=>by unfold UpL at h;rw [h]
 | [t],l,h=>by
  unfold UpL UpL at h;obtain ⟨t',r',rfl,h1,rfl⟩:=h;obtain ⟨k,x,m,ks⟩:=t;unfold UpT at h1;obtain ⟨m',ks',rfl,_,_⟩:=h1
  rfl
 | t :: u :: r,l,h=>by
  unfold UpL at h;obtain ⟨t',r',rfl,h1,h2⟩:=h;have ih:=zmd (u :: r) r' h2;unfold UpL at h2;obtain ⟨u',r2,rfl,_,_⟩:=h2;rw [List.getLast?_cons_cons,List.getLast?_cons_cons];exact ih
theorem zvh {b b':Tree} (h:UpT b b'):uJ b'=uJ b:=by
 obtain ⟨k,x,m,ks⟩:=b;unfold UpT at h;obtain ⟨m',ks',rfl,_,h⟩:=h;unfold uJ;exact zmd ks ks' h
theorem ya3 {E:Env} {q:ProcD} {ps:List (ByteArray × Bool)} {b b':Tree} {ends:Bool} {a d:Int} (hb:BlT b) (h:UpT b b') (hq:prF E q ps b ends a=.ok d):prF E q ps b' ends a=.ok d:=by
 unfold prF at hq |-
 cases hr:blF E ⟨q.gives,q.given⟩ q.writes 1 b (ps.map fun p=>⟨p.1,bI p.2,1⟩) (a+1+ps.length) with
 | bad c z=>rw [hr] at hq;cases hq
 | ok z =>
  rw [hr] at hq;rw [((zg8 (zV b).toNat).bl b b' (by have:=cT b;omega) hb h).2 _ _ _ _ _ _ _ hr];exact hq
theorem zd1 (own:FaceD) (given:List FaceD):∀ (K K':List Kid) (fs:List FaceD) (a:Int),(∀ k∈K,xI k)->gV K K'->moF own given K fs a=none->moF own given K' fs a=none
 | [],l,fs,a,_,h,hq=>by rw [show l=[] from h];exact hq
 | k :: r,l,fs,a,hd,h,hq=>by
  obtain ⟨k',r',rfl,h1,h2⟩:=h;have hd':∀ k∈r,xI k:=fun z hz=>hd z (jF _ hz)
  cases k with
  | imp x =>
   rw [show k'=_ from h1];unfold moF at hq |-;split at hq;·cases hq
   ·exact zd1 own given r r' _ _ hd' h2 hq
  | var x p l n =>
   rw [show k'=_ from h1];unfold moF at hq |-
   exact zd1 own given r r' _ _ hd' h2 hq
  | proc x p l g ps b =>
   obtain ⟨b',rfl,hb⟩:=h1;unfold moF at hq |-;rw [zvh hb]
   cases hr:prF ⟨own,fs⟩ (zH x p l g ps) ps b (uJ b) a with
   | bad c d=>rw [hr] at hq;cases hq
   | ok d =>
    rw [hr] at hq;rw [ya3 (hd _ (jJ)) hb hr];exact zd1 own given r r' _ _ hd' h2 hq
theorem zl5:∀ (K K':List Kid),gV K K'->∀ (A B:List Tree),K.map Kid.tree=A++B->(∀ t∈A,kT t=true)->(∀ t∈B,kT t=false) -> ∃ A' B',K'.map Kid.tree=A'++B'/\(∀ t∈A',kT t=true)/\∀ t∈B',kT t=false
 | [],l,h,A,B,e,hA,hB=>by rw [show l=[] from h];exact ⟨[],[],rfl,fun t ht=>(by cases ht),fun t ht=>(by cases ht)⟩
 | k :: r,l,h,A,B,e,hA,hB=>by
  obtain ⟨k',r',rfl,h1,h2⟩:=h;have hi:=(zfb h1).2;rw [List.map_cons] at e |-
  cases A with
  | cons a A =>
   rw [jK] at e;injection e with e1 e2;obtain ⟨A',B',e3,hA',hB'⟩:=zl5 r r' h2 A B e2 (fun t ht=>hA t (jF _ ht)) hB;refine ⟨k'.tree :: A',B',by rw [e3];rfl,?_,hB'⟩;intro t ht;rcases List.mem_cons.1 ht with rfl | ht
   ·rw [hi,e1];exact hA a (jJ)
   ·exact hA' t ht
  | nil =>
   rw [js] at e
   cases B with
   | nil=>cases e
   | cons b B =>
    injection e with e1 e2;refine ⟨[],k'.tree :: r'.map Kid.tree,rfl,fun t ht=>(by cases ht),?_⟩
    have hall:∀ (K K':List Kid),gV K K'->(∀ t∈K.map Kid.tree,kT t=false)->∀ t∈K'.map Kid.tree,kT t=false:=fun K=>by
     induction K with
     | nil=>intro K' h _;rw [show K'=[] from h];intro t ht;cases ht
     | cons k r ih =>
      intro K' h hs;obtain ⟨k',r',rfl,h1,h2⟩:=h;intro t ht;rw [List.map_cons] at ht;rcases List.mem_cons.1 ht with rfl | ht
      ·rw [(zfb h1).2];exact hs _ (by simp)
      ·exact ih r' h2 (fun z hz=>hs z (by rw [List.map_cons];exact jF _ hz)) t ht
    intro t ht;rcases List.mem_cons.1 ht with rfl | ht
    ·rw [hi,e1];exact hB b (jJ)
    ·exact hall r r' h2 (by rw [e2];exact fun z hz=>hB z (jF _ hz)) t ht
theorem zvq {t t':Tree} (h:UpT t t'):vC t'=vC t:=by
 rw [<- zba,<- zba,cO t' 1 0 (by omega) (by omega) (by omega) (by omega),cO t 1 0 (by omega) (by omega) (by omega) (by omega),zdw t t' h,zgu t t' h]
theorem zsx (x:ByteArray) (h:(kM x).code=0) (n:Int) (f:Nat) (hf14:14<=f):∃ (m:ByteArray) (K K':List Kid),(kM x).tree=.node 1 m 0 (K.map Kid.tree)/\(qO (kM x).tree n).1=.node 1 m 0 (K'.map Kid.tree) /\ m.size<=16/\gV K K'/\(∀ k∈K,k.good/\k.named/\xI k)/\(∀ k∈K',k.good/\k.named/\xI k)/\vC (qO (kM x).tree n).1=true/\(∃ w,xG f (qO (kM x).tree n).1=some w) /\ (∀ is ns a,lookK m K' is ns a=lookK m K is ns a)/\(∀ all,zZ all m K'=zZ all m K)/\∀ own given fs a,moF own given K fs a=none->moF own given K' fs a=none:=by
 obtain ⟨m,K,e,hm,hn,hk,hf⟩:=zce x h;obtain ⟨m',A,B,e',hA,hB⟩:=zpg x h;obtain ⟨h1,h2⟩:=zf6 _ hf;have hup:=zkq (kM x).tree n;have hs:Sz (f+1+1) (qO (kM x).tree n).1:=⟨znz _ _ hup (ztd x),by rw [zdw _ _ hup];exact h1,by rw [zgu _ _ hup];omega⟩
 have hfit:=(zvq hup).trans hf;rw [e] at e';injection e' with _ _ _ e';rw [e] at hup hs hfit |-;have hup':=hup;unfold UpT at hup';obtain ⟨m2,ks',e2,hm2,hl⟩:=hup';obtain ⟨K',rfl,hK⟩:=zme K ks' hl;obtain rfl:m2=0:=by rcases hm2 with h | ⟨h,_⟩<;>omega
 obtain ⟨A',B',e3,hA',hB'⟩:=zl5 K K' hK A B e' hA hB;rw [e2] at hs hfit |-;have hg:=zln K K' hK hk;exact ⟨m,K,K',rfl,rfl,hm,hK,hk,hg,hfit,zps hn hg e3 hA' hB' hs,fun is ns a=>zde m K K' is ns a hK,fun all=>zvu all m hK,fun own given fs a=>zd1 own given K K' fs a (fun k hk'=>(hk k hk').2.2) hK⟩
theorem zf9 {α:Type} {c a c' a':Int} (h:(chk.Res.bad c a:chk.Res α)=.bad c' a'):c=c':=by injection h
theorem zlf {E:Env} {L:List chk.Loc} {ctx:Int} {alone:Bool} {k:Int} {x:ByteArray} {ls:List Int} {a c b:Int} (h:vR E L ctx alone k x ls a=.bad c b):c≠0:=by
 unfold vR at h
 repeat' split at h
 all_goals first | (have:=zf9 h;omega) | cases h
section
variable (E:Env) (L:List chk.Loc) (ctx:Int)
mutual
theorem zfx:∀ (t:Tree) (alone:Bool) (a c b:Int),exF E L ctx alone t a=.bad c b->c≠0
 | .node k x m ks,alone,a,c,b,h=>by
  unfold exF at h;split at h;·rename_i hr;cases h;exact zc8 ks _ _ _ hr
  ·split at h;·rename_i hr;cases h;exact zlf hr
   ·cases h
theorem zc8:∀ (ks:List Tree) (a c b:Int),exL E L ctx ks a=.bad c b->c≠0
 | [],a,c,b,h=>by unfold exL at h;cases h
 | t :: r,a,c,b,h=>by
  unfold exL at h;split at h;·rename_i hr;cases h;exact zfx t _ _ _ _ hr
  ·split at h;·rename_i hr;cases h;exact zc8 r _ _ _ hr
   ·cases h
end
theorem zxo (t:Tree) (a c b:Int) (h:plF E L ctx t a=.bad c b):c≠0:=by
 obtain ⟨k,x,m,ks⟩:=t;unfold plF at h;dsimp only at h;split at h;·rename_i hr;cases h;exact zc8 E L ctx ks _ _ _ hr
 ·split at h;·rename_i hr;cases h;exact zlf hr
  ·cases h
end
theorem zu4 {E:Env} {p:Pr} {L:List chk.Loc} {ctx deep:Int} {last:Bool} {k:Int} {x:ByteArray} {m:Int} {ks:List Tree} {a c b:Int} (h:uS E p L ctx deep last k x m ks a=.bad c b):c≠0:=by
 unfold uS at h
 repeat' split at h
 all_goals first
  | (cases h;done)
  | (have:=zf9 h;omega)
  | (rename_i hr;cases h;first | exact zc8 _ _ _ _ _ _ _ hr | exact zfx _ _ _ _ _ _ _ _ hr | exact zxo _ _ _ _ _ _ _ hr)
section
variable (E:Env) (p:Pr)
mutual
theorem zx0:∀ (t:Tree) (ctx deep:Int) (last:Bool) (L:List chk.Loc) (a c b:Int),stF E p ctx deep last t L a=.bad c b->c≠0
 | .node k x m ks,ctx,deep,last,L,a,c,b,h=>by
  unfold stF at h;split at h
  ·cases ks with
   | nil=>cases h
   | cons e r =>
    dsimp only at h;split at h;·rename_i hr;cases h;exact zfx _ _ _ _ _ _ _ _ hr
    ·exact zlh r _ _ _ _ _ _ h
  ·exact zu4 h
theorem zlh:∀ (ks:List Tree) (ctx deep:Int) (L:List chk.Loc) (a c b:Int),vE E p ctx deep ks L a=.bad c b->c≠0
 | [],ctx,deep,L,a,c,b,h=>by unfold vE at h;cases h
 | t :: r,ctx,deep,L,a,c,b,h=>by
  unfold vE at h;split at h;·rename_i hr;cases h;exact zl1 t _ _ _ _ _ _ hr
  ·exact zlh r _ _ _ _ _ _ h
theorem zl1:∀ (t:Tree) (ctx deep:Int) (L:List chk.Loc) (a c b:Int),blF E p ctx deep t L a=.bad c b->c≠0
 | .node k x m ks,ctx,deep,L,a,c,b,h=>by
  unfold blF at h;split at h;·rename_i hr;cases h;exact zkb ks _ _ _ _ _ _ hr
  ·cases h
theorem zkb:∀ (ks:List Tree) (ctx deep:Int) (L:List chk.Loc) (a c b:Int),yG E p ctx deep ks L a=.bad c b->c≠0
 | [],ctx,deep,L,a,c,b,h=>by unfold yG at h;cases h
 | t :: r,ctx,deep,L,a,c,b,h=>by
  unfold yG at h;split at h;·rename_i hr;cases h;exact zx0 t _ _ _ _ _ _ _ hr
  ·exact zkb r _ _ _ _ _ _ h
end
end
theorem zwn {E:Env} {q:ProcD} {ps:List (ByteArray × Bool)} {b:Tree} {ends:Bool} {a c d:Int} (h:prF E q ps b ends a=.bad c d):c≠0:=by
 unfold prF at h;split at h;·rename_i hr;cases h;exact zl1 _ _ _ _ _ _ _ _ _ hr
 ·split at h;·have:=zf9 h;omega
  ·cases h
theorem zdn (own:FaceD) (given:List FaceD):∀ (K:List Kid) (fs:List FaceD) (a:Int) (q:Int × Int),moF own given K fs a=some q->q.1≠0
 | [],fs,a,q,h=>by unfold moF at h;cases h
 | .imp x :: r,fs,a,q,h=>by
  unfold moF at h;split at h;·cases h;show (4:Int)≠0;decide
  ·exact zdn own given r _ _ _ h
 | .var x p l n :: r,fs,a,q,h=>by
  unfold moF at h
  exact zdn own given r _ _ _ h
 | .proc x p l g ps b :: r,fs,a,q,h=>by
  unfold moF at h;split at h;·rename_i hr;cases h;exact zwn hr
  ·exact zdn own given r _ _ _ h
end pr
namespace chk
open syn face
def gE:List FaceD->List FaceD->Bool
 | _,[]=>false
 | seen,f :: r=>(seen.any (fun q=>eqS q.module f.module)||!cF f)||gE (seen++[f]) r
def nz (q:Int × Int):Int × Int:=if q.1=0 then (0,0) else q
def ckF (x:ByteArray) (fs:List FaceD) (m:ByteArray) (K:List Kid):Int × Int :=
 if gE [] fs=true then (2,0) else if (kM x).code≠0 then ((kM x).code,(kM x).place) else
  match lookK m K [] [] 1 with
  | some q=>q
  | none=>nz ((moF (zZ true m K) fs K [] 1).getD (0,0))
end chk
namespace pr
open syn face chk
theorem zwp {x:ByteArray} {fs:List FaceD} {m:ByteArray} {K:List Kid} (h:(ckF x fs m K).1=0) (hl:∀ q,lookK m K [] [] 1=some q->q.1≠0) (hp:(kM x).code=0) : gE [] fs=false/\lookK m K [] [] 1=none/\moF (zZ true m K) fs K [] 1=none:=by
 unfold ckF at h;by_cases hb:gE [] fs=true;·rw [jv hb] at h;exact absurd h (by decide)
 ·rw [ju hb,ju (by simp [hp])] at h
  cases hk:lookK m K [] [] 1 with
  | some q=>rw [hk] at h;exact absurd h (hl q hk)
  | none =>
   rw [hk] at h;refine ⟨by simpa using hb,rfl,?_⟩
   cases hm:moF (zZ true m K) fs K [] 1 with
   | none=>rfl
   | some q =>
    rw [hm] at h;have:=zdn _ _ _ _ _ _ hm;unfold nz at h;simp only [Option.getD_some] at h;rw [ju this] at h;exact absurd h this
theorem zre (x:ByteArray) (hp:(kM x).code=0) (n:Int) (fs:List FaceD):∃ (m:ByteArray) (K K':List Kid),(kM x).tree=.node 1 m 0 (K.map Kid.tree)/\(qO (kM x).tree n).1=.node 1 m 0 (K'.map Kid.tree) /\ m.size<=16/\(∀ k∈K,k.good/\k.named/\xI k)/\(∀ k∈K',k.good/\k.named/\xI k) /\ (xQ (qO (kM x).tree n).1=([],1)\/((xQ (qO (kM x).tree n).1).2=0/\kM ⟨(xQ (qO (kM x).tree n).1).1.toArray⟩=⟨.node 1 m 0 (K'.map Kid.tree),0,0⟩ /\ ((∀ q,lookK m K [] [] 1=some q->q.1≠0)->(ckF x fs m K).1=0->(ckF ⟨(xQ (qO (kM x).tree n).1).1.toArray⟩ fs m K')=(0,0)))):=by
 obtain ⟨m,K,K',e1,e2,h0,h1,h2,h3,h4,⟨w,hw⟩,h6,h7,h8⟩:=zsx x hp n 16 (by omega);refine ⟨m,K,K',e1,e2,h0,h2,h3,?_⟩
 have hc:xQ (qO (kM x).tree n).1=([],1)\/(xQ (qO (kM x).tree n).1).2=0:=by
  unfold xQ;rw [jv h4,hw];dsimp only;by_cases hl:3000<(zA w).length;·rw [jv hl];exact .inl rfl
  ·rw [ju hl];exact .inr rfl
 rcases hc with hc | hc
 ·exact .inl hc
 ·have hb:=zqz hc;rw [e2] at hb hc |-;refine .inr ⟨hc,hb,fun hl hk=>?_⟩;obtain ⟨g1,g2,g3⟩:=zwp hk hl hp;unfold ckF;rw [ju (by simp [g1]),hb,ju (by simp),h6,g2];dsimp only;rw [h7,h8 _ _ _ _ g3];rfl
mutual
theorem zn8:∀ (t:Tree),TxT t->ShT 4611686018427387904 t
 | .node k x m ks,h=>by
  unfold TxT at h;unfold ShT;exact ⟨by omega,znn ks h.2⟩
theorem znn:∀ (ks:List Tree),TxL ks->ShT.ShL 4611686018427387904 ks
 | [],_=>by unfold ShT.ShL;trivial
 | t :: r,h=>by
  unfold TxL at h;unfold ShT.ShL;exact ⟨zn8 t h.1,znn r h.2⟩
end
end pr
namespace face
open syn
def uT:List ByteArray->List (ByteArray × Bool)->Int->Option (Int × Int)
 | _,[],_=>none
 | seen,q :: r,a=>if qL seen q.1 then some (5,a) else if 5<=seen.length then some (1,a) else uT (seen++[q.1]) r (a+1)
def yW:List Kid->List ByteArray->List ByteArray->Int->Option (Int × Int)
 | [],_,_,_=>none
 | .imp x :: r,ms,ns,a=>if qL ms x then some (5,a) else if 6<=ms.length then some (1,a) else yW r (ms++[x]) ns (a+1)
 | .var x p l n :: r,ms,ns,a=>if qL ns x then some (5,a) else if 20<=ns.length then some (1,a) else
  match gQ n a with
  | some e=>some e
  | none=>yW r ms (ns++[x]) (a+kB (Kid.var x p l n).tree)
 | .proc x p l g ps b :: r,ms,ns,a=>if qL ns x then some (5,a) else if 20<=ns.length then some (1,a) else if 5<ps.length then some (1,a) else
  match uT [] ps (a+1) with
  | some e=>some e
  | none=>yW r ms (ns++[x]) (a+kB (Kid.proc x p l g ps b).tree)
theorem zl6:∀ (ps:List (ByteArray × Bool)) (seen:List ByteArray) (a:Int),seen.length+ps.length<=5->uT seen ps a=bK seen ps a
 | [],_,_,_=>rfl
 | q :: r,seen,a,h=>by
  unfold uT bK;simp only [jd] at h;split;·rfl
  ·rw [ju (by omega)];exact zl6 r _ _ (by simp;omega)
theorem zui (x y:ByteArray):eqS x y=eqS y x:=by unfold eqS;rw [Bool.eq_iff_iff];simp only [beq_iff_eq];exact eq_comm
theorem zsj (m:ByteArray) (is:List ByteArray) (x:ByteArray):qL (m :: is) x=(qL is x||eqS x m):=by
 show (eqS m x||qL is x)=_;rw [zui m x,Bool.or_comm]
theorem zc3 (m:ByteArray):∀ (K:List Kid) (is ns:List ByteArray) (a:Int),yW K (m :: is) ns a=lookK m K is ns a
 | [],_,_,_=>rfl
 | .imp x :: r,is,ns,a=>by
  unfold yW lookK;rw [zsj];split;·rfl
  ·simp only [jd];by_cases h:5<=is.length;·rw [jv (by omega),jv h]
   ·rw [ju (by omega),ju h]
    exact zc3 m r (is++[x]) ns (a+1)
 | .var x p l n :: r,is,ns,a=>by
  unfold yW lookK;split;·rfl
  ·split;·rfl
   ·cases gQ n a with
    | some e=>rfl
    | none=>exact zc3 m r is _ _
 | .proc x p l g ps b :: r,is,ns,a=>by
  unfold yW lookK;split;·rfl
  ·split;·rfl
   ·split;·rfl
    ·rename_i h5;rw [zl6 ps [] (a+1) (by simp;omega)]
     cases bK [] ps (a+1) with
     | some e=>rfl
     | none=>exact zc3 m r is _ _
end face
end Go.Proofs.YtaadmdlbkhcfnaaGreatDoor
