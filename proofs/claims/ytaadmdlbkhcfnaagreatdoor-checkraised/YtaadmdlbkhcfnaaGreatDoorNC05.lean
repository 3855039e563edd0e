/- What the program's local and set answer, once those that they call do: contracts. -/
import Derived.Test.YtaadmdlbkhcfnaaGreatDoorNC04
set_option maxHeartbeats 4000000
set_option linter.unusedVariables false
set_option linter.unusedSimpArgs false
set_option maxRecDepth 100000
namespace Go.Proofs.YtaadmdlbkhcfnaaGreatDoor
namespace syn
open Go.RowKit
theorem cJ {w w':World} (h:gR w) (hb:Below w.heap.size w w'):gR w':=by
 obtain ⟨cs,t,fr,h1,h2,h3⟩:=h
 have hlt:5<w.heap.size:=by
  rcases jL 5 w.heap.size with h | h
  ·exact h
  ·rw [Array.getElem?_eq_none h] at h1;simp at h1
 exact ⟨cs,t,fr,by rw [hb.block _ hlt];exact h1,h2,h3⟩
theorem zrj (cs:Array Value) (hs:cs.size=20) (hc:∀ k,k<10->cs[k*2]?=some (.string (opAt k))/\cs[k*2+1]?=some (.int .i64 (kZ k))) (k:Nat) (hk:k<10) (w:World) : (Instr.index 208 (.agg cs) (.int .i64 (k:Int))).run Tryz.prog w=.ok (.agg #[.string (opAt k),.int .i64 (kZ k)]) w:=by
 have c171:=kc207;obtain ⟨h1,h2⟩:=hc k hk
 have he:cs.extract (k*2) (k*2+2)=#[.string (opAt k),.int .i64 (kZ k)]:=by
  apply Array.ext_getElem?;intro i;rw [Array.getElem?_extract];by_cases hi:i<2
  ·have hm:min (k*2+2) cs.size=k*2+2:=by omega
   rw [jv (by omega)];rcases (show i=0\/i=1 by omega) with rfl | rfl
   ·simpa using h1
   ·simpa using h2
  ·rw [ju (by omega)];simp;omega
 simp [Instr.index,go_sem,Tryz.underlying208,hk,he]
theorem ten {k:Nat} (h:k<10):k=0\/k=1\/k=2\/k=3\/k=4\/k=5\/k=6\/k=7\/k=8\/k=9:=by omega
theorem zds {x y:ByteArray} (h:eqS x y=true):y=x:=by
 unfold eqS at h;rw [beq_iff_eq,ByteArray.toList_eq,ByteArray.toList_eq] at h;exact WideShapes.bytes_inj h.symm
theorem zke (x y:ByteArray):eqS x y=(x.data.toList==y.data.toList):=by unfold eqS;rw [ByteArray.toList_eq,ByteArray.toList_eq]
theorem bV (x:ByteArray):sign x=((signs.find? fun y=>y.1.data.toList==x.data.toList).map (·.2)).getD (0,-1):=by
 unfold sign;simp only [zke]
theorem zzl {x:ByteArray} {k:Nat} (hk:k<10) (h:eqS (opAt k) x=true) (hs:0<=(sign x).2):(k:Int)=(sign x).1:=by
 obtain rfl:=zds h;rw [bV] at hs |-;rcases ten hk with rfl | rfl | rfl | rfl | rfl | rfl | rfl | rfl | rfl | rfl<;>revert hs<;>decide
theorem zvo {x:ByteArray} (h:∀ j,j<10->eqS (opAt j) x=false):(sign x).2<0:=by
 have e:sign x=(0,-1):=by
  refine zeu x (fun j hj=>?_);have hj':j<9:=hj;rcases za4 hj' with rfl | rfl | rfl | rfl | rfl | rfl | rfl | rfl | rfl
  ·exact h 9 (by omega)
  ·exact h 8 (by omega)
  ·exact h 1 (by omega)
  ·exact h 2 (by omega)
  ·exact h 7 (by omega)
  ·exact h 3 (by omega)
  ·exact h 4 (by omega)
  ·exact h 5 (by omega)
  ·exact h 6 (by omega)
 rw [e]
 decide
theorem zn7 (x:ByteArray) (w:World) (hO:gR w) (hx:0<=(sign x).2) : Calls Tryz.prog 163 #[.string x] w fun e w'=>e=.returned (.int .i64 (sign x).1)/\Below w.heap.size w w':=by
 have c171:=kc207;have hi:(Tryz.prog.info? 208).map (·.size)=some 20:=by kernel_rfl
 obtain ⟨cs,t,fr,hg,hs,hc⟩:=hO;have hI:=fun k hk w=>zrj cs hs hc k hk w
 clear hc;rw [<- hs] at hi;have HX:Hid (0<=(sign x).2):=hx;clear hx;obtain ⟨V,hV⟩:∃ V,V=(sign x).1:=⟨_,rfl⟩
 rw [<- hV];have HV:Hid (V=(sign x).1):=hV;clear hV;go_enter Tryz.func163,Tryz.ntmps163;go_wp2_with (refine wpList_load_row rfl 208 _ rfl 5 rfl t cs fr _ hg Tryz.underlying208 rfl hi ?_);go_loopw [6] (fun v wr=>∃ k:Nat,k<=10/\v=.int .i64 k/\Below w.heap.size w wr/\Hid (∀ j,j<k->eqS (opAt j) x=false)) (fun v _=>10 - (intOf v).toNat)
 case atStart=>exact ⟨0,by omega,rfl,Below.refl _ _,fun j hj=>by omega⟩
 case round =>
  obtain ⟨k,hk,rfl,hbw,HN⟩:=hrel;by_cases hlt:k<10
  ·have hI':=hI k hlt wr;have hkz:(k:Int)<10:=by omega
   cases he:eqS (opAt k) x
   ·have HE:Hid (eqS (opAt k) x=false):=he;unfold eqS at he;clear hI;generalize opAt k=y at hI' he;generalize kZ k=z at hI';go_wp2;go_roundw
    case rel=>exact ⟨k+1,by omega,by go_num,hbw.alloc hbw.size _,fun j hj=>by
     rcases jL j k with h | h
     ·exact HN.out j h
     ·have:j=k:=by omega
      subst this
      exact HE.out⟩
    case measure=>simp [intOf];omega
   ·have HE:Hid ((k:Int)=V):=(zzl hlt he HX.out).trans HV.out.symm;unfold eqS at he;clear hI;generalize opAt k=y at hI' he;generalize kZ k=z at hI';go_wp2;go_ret;exact ⟨by rw [<- HE.out];rfl,hbw.alloc hbw.size _⟩
  ·have:=zvo (x:=x) (fun j hj=>HN.out j (by omega));have:=HX.out;omega
end syn
namespace syn
open Go.RowKit
open lexs (Tok Fine)
section
variable {w w':World} {r G:Nat} {ts:List Tok} {s:St}
theorem yE.one (w:World) (x:ByteArray) (T:TypeId) {M:Nat} (hM:M=w.heap.size):yE (w.alloc (.cells #[.string x] T)) M [x]:=by
 subst hM;intro k hk;obtain rfl:k=0:=by simpa using hk
 simp
theorem yE.two (w:World) (x y:ByteArray) (T:TypeId) {M:Nat} (hM:M=w.heap.size):yE (w.alloc (.cells #[.string x,.string y] T)) M [x,y]:=by
 subst hM;intro k hk;have:k=0\/k=1:=by simp at hk;omega
 rcases this with rfl | rfl<;>simp
theorem zb5 {x:ByteArray} {b:Bool} (h:eqS (txt ts s) x=b):yP ts s [x]=b:=by unfold yP;simp [h]
theorem xO (hL:Ld w r G ts s) (x:ByteArray) (hx:[x].all vQ=true) (h:eqS (txt ts s) x=true) {M:Nat} {T:TypeId} (hM:M=w.heap.size) : Calls Tryz.prog 62 #[.pointer (some ⟨r,0,none⟩),.slice (some ⟨M,0,none⟩) 1 1] (w.alloc (.cells #[.string x] T)) fun e w'=>e=.returned (.bool true)/\Ld w' r G ts s.next/\Fr r w w' :=
 (zrs (hL.alloc _) [x] M 1 (by simp) hx (yE.one w x T hM) (zb5 h)).mono fun e w' ⟨h1,h2,h3⟩=>⟨h1,h2,(Fr.al _ _).trans h3⟩
theorem xP (hL:Ld w r G ts s) (x:ByteArray) (hx:[x].all vQ=true) (h:eqS (txt ts s) x=false) {M:Nat} {T:TypeId} (hM:M=w.heap.size) : Calls Tryz.prog 62 #[.pointer (some ⟨r,0,none⟩),.slice (some ⟨M,0,none⟩) 1 1] (w.alloc (.cells #[.string x] T)) fun e w'=>e=.returned (.bool false)/\Ld w' r G ts s/\Fr r w w' :=
 (ztv (hL.alloc _) [x] M 1 (by simp) hx (yE.one w x T hM) (zb5 h)).mono fun e w' ⟨h1,h2⟩=>⟨h1,by rw [h2];exact hL.alloc _,by rw [h2];exact Fr.al _ _⟩
theorem cP {x:ByteArray} (h:eqS (txt ts s) x=true):kF ts x s=s.next:=by unfold kF;rw [h,jv rfl]
theorem zez {x:ByteArray} (h:eqS (txt ts s) x=false):kF ts x s=s.fail:=by unfold kF;rw [h,ju (by decide)]
theorem uV (hL:Ld w r G ts s) (x:ByteArray) (hx:[x].all vQ=true) {M:Nat} {T:TypeId} (hM:M=w.heap.size) : Calls Tryz.prog 60 #[.pointer (some ⟨r,0,none⟩),.slice (some ⟨M,0,none⟩) 1 1] (w.alloc (.cells #[.string x] T)) fun e w'=>∃ y,dP w r G ts (.string y) (kF ts x s) e w':=by
 cases h:eqS (txt ts s) x;·rw [zez h];refine (zfh (hL.alloc _) [x] M 1 (by simp) hx (yE.one w x T hM) (zb5 h)).mono ?_;rintro e w' ⟨rfl,rfl⟩;exact ⟨empty,.inl ⟨rfl,rfl,Fr.al _ _⟩⟩
 ·rw [cP h];refine (zbg (hL.alloc _) [x] M 1 (by simp) hx (yE.one w x T hM) (zb5 h)).mono ?_;rintro e w' ⟨rfl,h2,h3⟩;exact ⟨_,.inr ⟨hL.ok,rfl,h2,(Fr.al _ _).trans h3⟩⟩
theorem dZ (hL:Ld w r G ts s):Calls Tryz.prog 85 #[.pointer (some ⟨r,0,none⟩)] w (dP w r G ts (.int .i64 (label ts s).1) (label ts s).2):=by
 have hW:([⟨#[108,111,119]⟩,⟨#[104,105,103,104]⟩]:List ByteArray).all vQ=true:=by decide
 unfold label;cases hh:eqS (txt ts s) ⟨#[104,105,103,104]⟩
 ·simp only [jr,if_false];cases hl:eqS (txt ts s) ⟨#[108,111,119]⟩
  ·rw [zez hl];have hT:=fun M (hM:M=w.heap.size)=>zfh (hL.alloc (.cells #[.string ⟨#[108,111,119]⟩,.string ⟨#[104,105,103,104]⟩] 9)) [⟨#[108,111,119]⟩,⟨#[104,105,103,104]⟩] M 2 (by simp) hW (yE.two w _ _ _ hM) (by unfold yP;simp [hh,hl])
   go_enter Tryz.func85,Tryz.ntmps85;go_wp2_with (fail);refine (hT _ rfl).mono ?_;rintro e w2 ⟨rfl,hw2⟩;obtain rfl:=hw2.symm;go_wp2;exact ⟨rfl,.inl ⟨rfl,rfl,Fr.al _ _⟩⟩
  ·rw [cP hl];have hx:yP ts s [⟨#[108,111,119]⟩,⟨#[104,105,103,104]⟩]=true:=by unfold yP;simp [hl]
   have hT:=fun M (hM:M=w.heap.size)=>zbg (hL.alloc (.cells #[.string ⟨#[108,111,119]⟩,.string ⟨#[104,105,103,104]⟩] 9)) [⟨#[108,111,119]⟩,⟨#[104,105,103,104]⟩] M 2 (by simp) hW (yE.two w _ _ _ hM) hx
   have hlt:=dT hW hx
   have hraw:((raw (ts[s.i]'hlt)).toList==[104,105,103,104])=false:=by
    rw [<- eqS_lit,<- zca (hL.good _ (jH hlt)) hL.ok (dG hlt) (by decide)];exact hh
   have hok:s.next.bad=false:=hL.ok;generalize raw (ts[s.i]'hlt)=y at *;go_enter Tryz.func85,Tryz.ntmps85;go_wp2_with (fail);refine (hT _ rfl).mono ?_;rintro e w2 ⟨rfl,hL2,hF2⟩;go_wp2;go_ret;exact .inr ⟨hok,rfl,hL2,(Fr.al _ _).trans hF2⟩
 ·simp only [if_true];have hx:yP ts s [⟨#[108,111,119]⟩,⟨#[104,105,103,104]⟩]=true:=by unfold yP;simp [hh]
  have hT:=fun M (hM:M=w.heap.size)=>zbg (hL.alloc (.cells #[.string ⟨#[108,111,119]⟩,.string ⟨#[104,105,103,104]⟩] 9)) [⟨#[108,111,119]⟩,⟨#[104,105,103,104]⟩] M 2 (by simp) hW (yE.two w _ _ _ hM) hx
  have hlt:=dT hW hx
  have hraw:((raw (ts[s.i]'hlt)).toList==[104,105,103,104])=true:=by
   rw [<- eqS_lit,<- zca (hL.good _ (jH hlt)) hL.ok (dG hlt) (by decide)];exact hh
  have hok:s.next.bad=false:=hL.ok;generalize raw (ts[s.i]'hlt)=y at *;go_enter Tryz.func85,Tryz.ntmps85;go_wp2_with (fail);refine (hT _ rfl).mono ?_;rintro e w2 ⟨rfl,hL2,hF2⟩;go_wp2;go_ret;exact .inr ⟨hok,rfl,hL2,(Fr.al _ _).trans hF2⟩
theorem zbh (hL:Ld w r G ts s):Calls Tryz.prog 135 #[.pointer (some ⟨r,0,none⟩)] w (dP w r G ts (.string (whole ts s).1) (whole ts s).2):=by
 have hN:=fR hL
 have hst:(name ts s).2.bad=true->(whole ts s).2=(name ts s).2:=by
  intro h;unfold whole;dsimp only;rw [zm8 (by decide) h];simp
 by_cases hb:(name ts s).2.bad=true
 ·rw [hst hb];go_enter Tryz.func135,Tryz.ntmps135;go_wp2_with (fail);refine hN.mono ?_;rintro e w1 (⟨_,rfl,hF1⟩|⟨h,_,_,_⟩);·go_wp2;exact ⟨rfl,.inl ⟨hb,rfl,hF1⟩⟩
  ·rw [hb] at h;cases h
 ·have hb':(name ts s).2.bad=false:=by simpa using hb
  clear hst hb;have hx:=name_size ts s;unfold whole;generalize name ts s=q at hN hx hb' |-;obtain ⟨x,s1⟩:=q;simp only at hN hx hb' |-;unfold eat
  cases he:eqS (txt ts s1) ⟨#[46]⟩
  ·simp only [jr,if_false];go_enter Tryz.func135,Tryz.ntmps135;go_wp2_with (fail);refine hN.mono ?_;rintro e w1 (⟨h,_,_⟩|⟨_,rfl,hL1,hF1⟩);·rw [hb'] at h;cases h
   go_wp2_with (fail);refine (xP hL1 ⟨#[46]⟩ (by decide) he rfl).mono ?_;rintro e w2 ⟨rfl,hL2,hF2⟩;go_wp2;go_ret;exact .inr ⟨hb',rfl,hL2,hF1.trans hF2⟩
  ·simp only [if_true];have hy:=name_size ts s1.next;have hM:∀ {w:World},Ld w r G ts s1.next->Calls Tryz.prog 61 #[.pointer (some ⟨r,0,none⟩)] w (dP w r G ts (.string (name ts s1.next).1) (name ts s1.next).2):=fun h=>fR h
   generalize name ts s1.next=q at hM hy |-;obtain ⟨y,s2⟩:=q;simp only at hM hy |-;go_enter Tryz.func135,Tryz.ntmps135;go_wp2_with (fail);refine hN.mono ?_;rintro e w1 (⟨h,_,_⟩|⟨_,rfl,hL1,hF1⟩);·rw [hb'] at h;cases h
   go_wp2_with (fail);refine (xO hL1 ⟨#[46]⟩ (by decide) he rfl).mono ?_;rintro e w2 ⟨rfl,hL2,hF2⟩;go_wp2_with (fail);refine (hM hL2).mono ?_;rintro e w3 (⟨h3,rfl,hF3⟩|⟨h3,rfl,hL3,hF3⟩);·go_wp2;exact ⟨rfl,.inl ⟨h3,rfl,(hF1.trans hF2).trans hF3⟩⟩
   ·go_wp2;go_ret;refine .inr ⟨h3,zwk ?_,hL3,(hF1.trans hF2).trans hF3⟩;apply WideShapes.bytes_inj;simp
end
end syn
namespace syn
open Go.RowKit
open lexs (Tok Fine val qU qJ)
def kG (w:World) (r G:Nat) (ts:List Tok) (q:Tree × St) (e:Ending) (w':World):Prop :=
 (q.2.bad=true/\e=.panicked (Pan ts q.2)/\Fr r w w')\/(q.2.bad=false/\∃ v,e=.returned v/\kC (fun b=>w.heap.size<=b/\b<w'.heap.size) w' q.1 v/\Ld w' r G ts q.2/\Fr r w w')
section
variable {w w':World} {r G:Nat} {ts:List Tok} {s:St}
theorem dP.lost {v:Value} {s' s1:St} (hq:s'=s1) (hb:s1.bad=true) (hF:Fr r w w'):dP w r G ts v s' (.panicked (Pan ts s1)) w':=.inl ⟨by rw [hq];exact hb,by rw [hq],hF⟩
theorem kG.lost {q:Tree × St} {s1:St} (hq:q.2=s1) (hb:s1.bad=true) (hF:Fr r w w'):kG w r G ts q (.panicked (Pan ts s1)) w':=.inl ⟨by rw [hq];exact hb,by rw [hq],hF⟩
theorem Ld.put4 (h:Ld w r G ts s) {N:Nat} (hN:r<N) (x0 x1 x2 x3:Value):Ld ((((w.setCell ⟨N,0,none⟩ x0).setCell ⟨N,1,none⟩ x1).setCell ⟨N,2,none⟩ x2).setCell ⟨N,3,none⟩ x3) r G ts s :=
 (((h.set hN 0 x0).set hN 1 x1).set hN 2 x2).set hN 3 x3
theorem kG.fin {w3:World} {s3:St} {t:Tree} {x0 x1 x2 x3:Value} {B N:Nat} (hr:r<w.heap.size) (hF:Fr r w w3) (hL3:Ld w3 r G ts s3) (hN:w.heap.size<=N) (hB:N<B) (hL:kC (fun b=>B<=b/\b<w3.heap.size) w3 t (.agg #[x0,x1,x2,x3])) : kG w r G ts (t,s3) (.returned (.agg #[x0,x1,x2,x3])) ((((w3.setCell ⟨N,0,none⟩ x0).setCell ⟨N,1,none⟩ x1).setCell ⟨N,2,none⟩ x2).setCell ⟨N,3,none⟩ x3) :=
 .inr ⟨hL3.ok,_,rfl,(hL.fr hB (Fr.put _ _ _ _ _ _)).low (by omega),hL3.put4 (by omega) _ _ _ _,hF.put4 hN _ _ _ _⟩
theorem kC.rowed {W:World} {B:Nat} {t:Tree} {y0 y1 y2 y3:Value} {T:TypeId} {M c:Nat} {k m:Int} {x:ByteArray} (h:kC (fun b=>B<=b/\b<W.heap.size) W t (.agg #[y0,y1,y2,y3])) (hB:B<=W.heap.size) (hM:M=W.heap.size) (hc:1<=c:=by omega) : kC (fun b=>B<=b/\b<(W.alloc (.cells #[y0,y1,y2,y3] T)).heap.size) (W.alloc (.cells #[y0,y1,y2,y3] T)) (.node k x m [t]) (.agg #[.int .i64 k,.string x,.int .i64 m,.slice (some ⟨M,0,none⟩) 1 c]):=by
 refine kC.one ⟨by omega,by rw [jO];omega⟩ (zso _ hM) ?_;exact h.to (fun b hb=>⟨hb.1,by rw [jO];omega⟩) (fun b hb o=>((Below.refl W.heap.size W).alloc (jE _) _).cell (p:=⟨b,o,none⟩) hb.2)
theorem gL (hL:Ld w r G ts s) (k m:Int) (x:ByteArray) (a:Option Addr) (n c:Nat) : Calls Tryz.prog 63 #[.pointer (some ⟨r,0,none⟩),.agg #[.int .i64 k,.string x,.int .i64 m,.slice a n c]] w (dP w r G ts (.agg #[.int .i64 k,.string x,.int .i64 m,.slice a n c]) (kF ts ⟨#[59]⟩ s)):=by
 have c24:=kc25;have hr:=hL.lt;have hB1:=Box4.new w (.int .i64 k) (.string x) (.int .i64 m) (.slice a n c) 25;have hB2:=Box4.new (w.alloc (.cells #[.int .i64 k,.string x,.int .i64 m,.slice a n c] 25)) (.int .i64 0) (.string empty) (.int .i64 0) (.slice none 0 0) 25;have hB1':=hB1.alloc (.cells #[.int .i64 0,.string empty,.int .i64 0,.slice none 0 0] 25);go_enter Tryz.func63,Tryz.ntmps63;go_wp2_with (fail);refine (uV ((hL.alloc _).alloc _) ⟨#[59]⟩ (by decide) (by simp)).mono ?_;rintro e w1 ⟨y,⟨hb,rfl,hF⟩|⟨hb,rfl,hL1,hF⟩⟩;·go_wp2;exact ⟨rfl,dP.lost rfl hb (((Fr.al _ _).trans (Fr.al _ _)).trans hF)⟩
 ·obtain ⟨q0,q1',q2,q3,t0,t1,t2,t3⟩:=hB2.fr hF (by simp<;>omega);obtain ⟨p0,p1,p2,p3,_,_,_,_⟩:=hB1'.fr hF (by omega);simp only [jO] at q0 q1' q2 q3 t0 t1 t2 t3;have hz:=hF.size;simp only [jO] at hz;go_wp2
  exact jT (v:=.agg #[.int .i64 k,.string x,.int .i64 m,.slice a n c]) (by simp [results,Tryz.results63,go_sem,q0,q1',q2,q3]) rfl
   (.inr ⟨hb,rfl,hL1.put4 (by omega) _ _ _ _,(((Fr.al _ _).trans (Fr.al _ _)).trans hF).put4 (by omega) _ _ _ _⟩)
theorem zyf (hL:Ld w r G ts s) : Calls Tryz.prog 103 #[.pointer (some ⟨r,0,none⟩)] w (kG w r G ts (.node 5 (name ts (label ts s).2).1 (label ts s).1 [],(name ts (label ts s).2).2)):=by
 have c24:=kc25;have hr:=hL.lt;have hB0:=Box4.new w (.int .i64 0) (.string empty) (.int .i64 0) (.slice none 0 0) 25;go_enter Tryz.func103,Tryz.ntmps103;go_wp2_with (fail);refine (dZ (hL.alloc _)).mono ?_;rintro e w1 (⟨hb,rfl,hF1⟩|⟨hb,rfl,hL1,hF1⟩);·go_wp2;exact ⟨rfl,kG.lost (fD hb) hb ((Fr.al _ _).trans hF1)⟩
 go_wp2_with (fail);refine (fR hL1).mono ?_;rintro e w2 (⟨hb2,rfl,hF2⟩|⟨hb2,rfl,hL2,hF2⟩);·go_wp2;exact ⟨rfl,kG.lost rfl hb2 (((Fr.al _ _).trans hF1).trans hF2)⟩
 obtain ⟨q0,q1',q2,q3,t0,t1,t2,t3⟩:=(hB0.fr hF1 (by omega)).fr hF2 (by omega);go_wp2
 exact jT (v:=.agg #[.int .i64 5,.string (name ts (label ts s).2).1,.int .i64 (label ts s).1,.slice none 0 0]) (by simp [results,Tryz.results103,go_sem,q0,q1',q2,q3]) rfl
  (kG.fin hr (((Fr.al _ _).trans hF1).trans hF2) hL2 (jE _) (Nat.lt_succ_self _) (kC.leaf _ _ _ _ _))
theorem zu7 {l:List UInt8} (h:qU l=0) (h0:l≠[]):l.all qJ=true/\val l<9223372036854775808/\l.length<=3000:=by
 have hd:=zij h
 have hz:(decide (1<l.length)&&l.headD 0==48)=false:=by
  cases hz:(decide (1<l.length)&&l.headD 0==48);·rfl
  ·unfold qU at h;rw [hd,hz] at h;simp at h
 have hv:=lexs.numE_val l hd h0 hz;rw [h] at hv;refine ⟨hd,?_,?_⟩
 ·rcases jL (val l) 9223372036854775808 with h1 | h1
  ·exact h1
  ·rw [ju (by omega)] at hv;simp at hv
 ·unfold qU at h;rw [hd,hz] at h;simp only [Bool.true_eq_false,jr,if_false] at h;rcases jL 19 l.length with h1 | h1
  ·rw [decide_eq_true h1] at h;simp at h
  ·omega
theorem zfp (hL:Ld w r G ts s) : Calls Tryz.prog 86 #[.pointer (some ⟨r,0,none⟩)] w (kG w r G ts (zK ts s)):=by
 have c29:=kc89;have c24:=kc25;have hlen:=hL.len;have hr:=hL.lt;have hB0:=Box4.new w (.int .i64 0) (.string empty) (.int .i64 0) (.slice none 0 0) 25;have hL0:=hL.alloc (.cells #[.int .i64 0,.string empty,.int .i64 0,.slice none 0 0] 25);obtain ⟨a,cp,h0,h1,h2⟩:=hL.c0;unfold zK;rw [zal hL.ok];by_cases hlt:s.i<ts.length
 ·obtain rfl:=h2 hlt;rw [dG hlt];obtain ⟨y0,y1,y2⟩:=hL.tok s.i hlt;have hG:=hL.gt (by omega);have hn:0<ts.length - s.i:=by omega
  have hn':ts.length - s.i<=3000:=by omega
  simp only;cases hk:(ts[s.i].kind==2)
  ·simp only [jr,if_false];have hk':(ts[s.i].kind != 2)=true:=by simp only [bne,hk,Bool.not_false]
   have hg:=zb2 hL0;generalize ts[s.i].kind=tk at *;generalize ts.length - s.i=n at *;go_enter Tryz.func86,Tryz.ntmps86;go_wp2_with (fail);refine hg.mono ?_;rintro e w2 ⟨rfl,hw2⟩;obtain rfl:=hw2.symm;go_wp2;exact ⟨rfl,.inl ⟨rfl,rfl,Fr.al _ _⟩⟩
  ·simp only [if_true];have hk':(ts[s.i].kind != 2)=false:=by simp only [bne,hk,Bool.not_true]
   have hfine:=hL.good _ (jH hlt);obtain ⟨hd,hv,hl⟩:=zu7 (hfine.num (by simpa using hk)) hfine.ne;have hN:=zax hL0 hlt;have hP:=fun w=>lexs.parse_ok (raw ts[s.i]) (by rw [raw_size];exact hl) (by rw [raw_list];exact hd) (by rw [raw_list];exact hfine.ne) (by rw [raw_list];exact hv) w
   rw [raw_list] at hP;generalize ts[s.i].kind=tk at *;generalize ts.length - s.i=n at *;generalize raw ts[s.i]=x at *;generalize val ts[s.i].text=m at *;go_enter Tryz.func86,Tryz.ntmps86;go_wp2_with (fail);refine hN.mono ?_;rintro e w1 ⟨rfl,hL1,hF1⟩;go_wp2_with (fail);refine (hP _).mono ?_;rintro e w2 ⟨rfl,hb2⟩;have hF2:Fr r w1 w2:=Fr.below hb2;obtain ⟨q0,q1',q2,q3,t0,t1,t2,t3⟩:=(hB0.fr hF1 (by omega)).fr hF2 (by omega);go_wp2
   exact jT (v:=.agg #[.int .i64 15,.string empty,.int .i64 m,.slice none 0 0]) (by simp [results,Tryz.results86,go_sem,q0,q1',q2,q3,empty]) rfl
    (kG.fin hr (((Fr.al _ _).trans hF1).trans hF2) (hL1.below hb2) (jE _) (Nat.lt_succ_self _) (kC.leaf _ _ _ _ _))
 ·rw [List.getElem?_eq_none (by omega)];have hn:ts.length - s.i=0:=by omega
  rw [hn] at h0;have hg:=zb2 hL0;go_enter Tryz.func86,Tryz.ntmps86;go_wp2_with (fail);refine hg.mono ?_;rintro e w2 ⟨rfl,hw2⟩;obtain rfl:=hw2.symm;go_wp2;exact ⟨rfl,.inl ⟨rfl,rfl,Fr.al _ _⟩⟩
end
end syn
namespace syn
open Go.RowKit
open lexs (Tok Fine)
section
variable {w w':World} {r G:Nat} {ts:List Tok} {s:St}
def qI (r G:Nat) (ts:List Tok) (F:Nat) (g:St->Option (Tree × St)):Prop :=
 ∀ {w:World} {s:St} {q:Tree × St},Ld w r G ts s->g s=some q->Calls Tryz.prog F #[.pointer (some ⟨r,0,none⟩)] w (kG w r G ts q)
theorem zsp {f:Nat} (ih:qI r G ts 139 (qB ts f)):qI r G ts 138 (zJ ts (f+1)):=by
 intro w s q hL hq;have c24:=kc25;have hr:=hL.lt;have hB0:=Box4.new w (.int .i64 0) (.string empty) (.int .i64 0) (.slice none 0 0) 25;unfold zJ at hq;obtain ⟨q1,h1,h2⟩:=zN hq;simp only [jh] at h2;subst h2;have hT:=uV (T:=9) (hL.alloc (.cells #[.int .i64 0,.string empty,.int .i64 0,.slice none 0 0] 25)) ⟨#[40]⟩ (by decide) (M:=w.heap.size+1) (by simp)
 have hst:Hid ((kF ts ⟨#[40]⟩ s).bad=true->kF ts ⟨#[41]⟩ q1.2=kF ts ⟨#[40]⟩ s):=fun hb=>by
  rw [(stuck ts f).e _ _ hb h1];exact qF (by decide) hb
 generalize kF ts ⟨#[40]⟩ s=s1 at *;go_enter Tryz.func138,Tryz.ntmps138;go_wp2_with (fail);refine hT.mono ?_;rintro e w1 ⟨y,⟨hb,rfl,hF1⟩|⟨hb,rfl,hL1,hF1⟩⟩;·go_wp2;exact ⟨rfl,kG.lost (hst.out hb) hb ((Fr.al _ _).trans hF1)⟩
 go_wp2_with (fail);refine (ih hL1 h1).mono ?_;rintro e w2 (⟨hb2,rfl,hF2⟩|⟨hb2,v2,rfl,hl2,hL2,hF2⟩);·go_wp2;exact ⟨rfl,kG.lost (qF (by decide) hb2) hb2 (((Fr.al _ _).trans hF1).trans hF2)⟩
 obtain ⟨k,x,m,_,rfl,a,n,c,rfl⟩:=hl2.shape;go_wp2_with (fail);refine (uV (hL2.alloc _) ⟨#[41]⟩ (by decide) (by simp)).mono ?_;rintro e w3 ⟨y3,⟨hb3,rfl,hF3⟩|⟨hb3,rfl,hL3,hF3⟩⟩;·go_wp2;exact ⟨rfl,kG.lost rfl hb3 ((((Fr.al _ _).trans hF1).trans hF2).trans ((Fr.al _ _).trans hF3))⟩
 have z1:=hF1.size;have z2:=hF2.size;rw [jO] at z1;obtain ⟨q0,q1',q2,q3,t0,t1,t2,t3⟩:=(((hB0.fr hF1 (by omega)).fr hF2 (by omega)).alloc _).fr hF3 (by omega);obtain ⟨p0,p1,p2,p3,_,_,_,_⟩:=(Box4.new w2 (.int .i64 k) (.string x) (.int .i64 m) (.slice a n c) 25).fr hF3 (by omega);go_wp2
 exact jT (v:=.agg #[.int .i64 k,.string x,.int .i64 m,.slice a n c]) (by simp [results,Tryz.results138,go_sem,q0,q1',q2,q3]) rfl
  (kG.fin hr ((((Fr.al _ _).trans hF1).trans hF2).trans ((Fr.al _ _).trans hF3)) hL3 (jE _) (show w.heap.size<w1.heap.size by omega) (hl2.fr (by omega) ((Fr.al _ _).trans hF3)))
theorem zgx {f:Nat} (ih:qI r G ts 139 (qB ts f)) (x:ByteArray) {w:World} {s:St} {q:Tree × St} (hL:Ld w r G ts s) (hq:qX ts (f+1) x s=some q) : Calls Tryz.prog 140 #[.pointer (some ⟨r,0,none⟩),.string x] w (kG w r G ts q):=by
 have c24:=kc25;have hr:=hL.lt;have hB0:=Box4.new w (.int .i64 0) (.string empty) (.int .i64 0) (.slice none 0 0) 25;have hL0:=hL.alloc (.cells #[.int .i64 0,.string empty,.int .i64 0,.slice none 0 0] 25);unfold qX at hq;cases he:eqS (txt ts s) ⟨#[91]⟩
 ·rw [he] at hq;simp only [jr,if_false,jh] at hq;subst hq;have hE:=xP (T:=9) hL0 ⟨#[91]⟩ (by decide) he (M:=w.heap.size+1) (by simp);clear he;go_enter Tryz.func140,Tryz.ntmps140;go_wp2_with (fail);refine hE.mono ?_;rintro e w1 ⟨rfl,hL1,hF1⟩;obtain ⟨q0,q1',q2,q3,t0,t1,t2,t3⟩:=hB0.fr hF1 (by omega);go_wp2
  exact jT (v:=.agg #[.int .i64 16,.string x,.int .i64 0,.slice none 0 0]) (by simp [results,Tryz.results140,go_sem,q0,q1',q2,q3]) rfl
   (kG.fin hr ((Fr.al _ _).trans hF1) hL1 (jE _) (Nat.lt_succ_self _) (kC.leaf _ _ _ _ _))
 ·rw [he] at hq;simp only [if_true] at hq;obtain ⟨q1,h1,h2⟩:=zN hq;simp only [jh] at h2;subst h2;have hE:=xO (T:=9) hL0 ⟨#[91]⟩ (by decide) he (M:=w.heap.size+1) (by simp);clear he;go_enter Tryz.func140,Tryz.ntmps140;go_wp2_with (fail);refine hE.mono ?_;rintro e w1 ⟨rfl,hL1,hF1⟩;go_wp2_with (fail);refine (ih hL1 h1).mono ?_;rintro e w2 (⟨hb2,rfl,hF2⟩|⟨hb2,v2,rfl,hl2,hL2,hF2⟩);·go_wp2;exact ⟨rfl,kG.lost (qF (by decide) hb2) hb2 (((Fr.al _ _).trans hF1).trans hF2)⟩
  obtain ⟨k,y,m,_,rfl,a,n,c,rfl⟩:=hl2.shape;have hrow:=hl2.rowed (T:=25) (k:=17) (x:=x) (m:=0) (c:=1) hF2.size rfl;go_wp2_with (fail);refine (uV ((hL2.alloc _).alloc _) ⟨#[93]⟩ (by decide) (by simp)).mono ?_;rintro e w3 ⟨y3,⟨hb3,rfl,hF3⟩|⟨hb3,rfl,hL3,hF3⟩⟩;·go_wp2;exact ⟨rfl,kG.lost rfl hb3 ((((Fr.al _ _).trans hF1).trans hF2).trans (((Fr.al _ _).trans (Fr.al _ _)).trans hF3))⟩
  have z1:=hF1.size;have z2:=hF2.size;rw [jO] at z1;obtain ⟨q0,q1',q2,q3,t0,t1,t2,t3⟩:=((((hB0.fr hF1 (by omega)).fr hF2 (by omega)).alloc _).alloc _).fr hF3 (by omega);obtain ⟨p0,p1,p2,p3,_,_,_,_⟩:=(Box4.new (w2.alloc (.cells #[.int .i64 k,.string y,.int .i64 m,.slice a n c] 25)) (.int .i64 17) (.string x) (.int .i64 0) (.slice (some ⟨w2.heap.size,0,none⟩) 1 1) 25).fr hF3 (by simp<;>omega);simp only [jO] at p0 p1 p2 p3;go_wp2
  exact jT (v:=.agg #[.int .i64 17,.string x,.int .i64 0,.slice (some ⟨w2.heap.size,0,none⟩) 1 1]) (by simp [results,Tryz.results140,go_sem,q0,q1',q2,q3]) rfl
   (kG.fin hr ((((Fr.al _ _).trans hF1).trans hF2).trans (((Fr.al _ _).trans (Fr.al _ _)).trans hF3)) hL3 (jE _) (show w.heap.size<w1.heap.size by omega) (hrow.fr (by omega) ((Fr.al _ _).trans hF3)))
end
section
variable {w w':World} {r G:Nat} {ts:List Tok} {s:St}
theorem qI.lost {F:Nat} {g:St->Option (Tree × St)} (h:qI r G ts F g) {q:Tree × St} (hL:Ld w r G ts s) (hq:g s=some q) (hb:q.2.bad=true) : Calls Tryz.prog F #[.pointer (some ⟨r,0,none⟩)] w fun e w'=>e=.panicked (Pan ts q.2)/\Fr r w w' :=
 (h hL hq).mono fun e w' h=>by
  rcases h with ⟨_,h1,h2⟩|⟨h1,_⟩
  ·exact ⟨h1,h2⟩
  ·rw [hb] at h1;cases h1
theorem qI.fine {F:Nat} {g:St->Option (Tree × St)} (h:qI r G ts F g) {q:Tree × St} (hL:Ld w r G ts s) (hq:g s=some q) (hb:q.2.bad=false) : Calls Tryz.prog F #[.pointer (some ⟨r,0,none⟩)] w fun e w'=>∃ v,e=.returned v/\kC (fun b=>w.heap.size<=b/\b<w'.heap.size) w' q.1 v/\Ld w' r G ts q.2/\Fr r w w' :=
 (h hL hq).mono fun e w' h=>by
  rcases h with ⟨h1,_⟩|⟨_,h1⟩
  ·rw [hb] at h1;cases h1
  ·exact h1
theorem kC.rowed2P {P Q:Nat->Prop} {W:World} {t t':Tree} {y0 y1 y2 y3 z0 z1 z2 z3:Value} {T:TypeId} {M c:Nat} {k m:Int} {x:ByteArray} (h:kC P W t (.agg #[y0,y1,y2,y3])) (h':kC P W t' (.agg #[z0,z1,z2,z3])) (hlt:∀ b,P b->b<W.heap.size) (hQ:∀ b,P b->Q b) (hM:M=W.heap.size) (hQM:Q M) (hc:2<=c:=by omega) : kC Q (W.alloc (.cells #[y0,y1,y2,y3,z0,z1,z2,z3] T)) (.node k x m [t,t']) (.agg #[.int .i64 k,.string x,.int .i64 m,.slice (some ⟨M,0,none⟩) 2 c]):=by
 obtain ⟨c1,c2⟩:=zs3 W (y0:=y0) (y1:=y1) (y2:=y2) (y3:=y3) (z0:=z0) (z1:=z1) (z2:=z2) (z3:=z3) (T:=T) hM;refine kC.two hQM c1 c2 ?_ ?_;·exact h.to hQ (fun b hb o=>((Below.refl W.heap.size W).alloc (jE _) _).cell (p:=⟨b,o,none⟩) (hlt b hb))
 ·exact h'.to hQ (fun b hb o=>((Below.refl W.heap.size W).alloc (jE _) _).cell (p:=⟨b,o,none⟩) (hlt b hb))
theorem zq4:sign empty=(0,-1):=by rw [bV];decide
theorem zky (hL:Ld w r G ts s) (h:0<=(sign (txt ts s)).2):∃ hlt:s.i<ts.length,raw ts[s.i]=txt ts s:=by
 have hlt:=zmn h;refine ⟨hlt,?_⟩;unfold txt at h |-;rw [zal hL.ok,dG hlt] at h |-;simp only at h |-;split at h;·rw [zq4] at h;exact absurd h (by decide)
 ·rename_i hk;rw [ju hk];rfl
theorem zfa {Fk:Nat} (hFk:Fk=152\/Fk=162\/Fk=167) {g:St->Option (Tree × St)} (ih:qI r G ts Fk g) (hL:Ld w r G ts s) {B D:Nat} (hB:r<B) (hBw:B<=w.heap.size) (hD:D<w.heap.size) {n:Tree} {k m:Int} {x:ByteArray} {a:Option Addr} {nn c:Nat} (hl:kC (fun b=>B<=b/\b≠D/\b<w.heap.size) w n (.agg #[.int .i64 k,.string x,.int .i64 m,.slice a nn c])) (hs:0<=(sign (txt ts s)).2) {q:Tree × St} (hq:g s.next=some q) (hb:q.2.bad=false) : Calls Tryz.prog 153 #[.pointer (some ⟨r,0,none⟩),.agg #[.int .i64 k,.string x,.int .i64 m,.slice a nn c],.func (.func Fk) #[.pointer (some ⟨r,0,none⟩)] #[]] w fun e w' =>
   ∃ v,e=.returned v/\kC (fun b=>B<=b/\b≠D/\b<w'.heap.size) w' (.node 19 empty (sign (txt ts s)).1 [n,q.1]) v/\Ld w' r G ts q.2/\Fr r w w':=by
 rcases hFk with rfl | rfl | rfl
 all_goals
  have c24:=kc25;have hr:=hL.lt;obtain ⟨hlt,hraw⟩:=zky hL hs;have hL0:=(hL.alloc (.cells #[.int .i64 k,.string x,.int .i64 m,.slice a nn c] 25)).alloc (.cells #[.int .i64 0,.string empty,.int .i64 0,.slice none 0 0] 25);have hB1:=(Box4.new w (.int .i64 k) (.string x) (.int .i64 m) (.slice a nn c) 25).alloc (.cells #[.int .i64 0,.string empty,.int .i64 0,.slice none 0 0] 25);have hB2:=Box4.new (w.alloc (.cells #[.int .i64 k,.string x,.int .i64 m,.slice a nn c] 25)) (.int .i64 0) (.string empty) (.int .i64 0) (.slice none 0 0) 25;rw [jO] at hB2;have hN:=zax hL0 hlt;rw [hraw] at hN;have hO:=fun w hw=>zn7 (txt ts s) w hw hs
  generalize (sign (txt ts s)).1=o at *;generalize txt ts s=y at *;go_enter Tryz.func153,Tryz.ntmps153;go_wp2_with (fail);refine hN.mono ?_;rintro e w1 ⟨rfl,hL1,hF1⟩;go_wp2_with (fail);refine (hO _ hL1.ops).mono ?_;rintro e w2 ⟨rfl,hb2⟩;have hL2:=hL1.below hb2;have hF2:Fr r w1 w2:=Fr.below hb2;have hB1':=(hB1.fr hF1 (by omega)).fr hF2 (by omega);have hB2':=(hB2.fr hF1 (by omega)).fr hF2 (by omega);obtain ⟨p0,p1,p2,p3,e0,e1,e2,e3⟩:=id hB1';have hz:w.heap.size+1<w2.heap.size:=hB2'.lt;have z1:w.heap.size+2<=w1.heap.size:=by have:=hF1.size;simpa using this
  have z2:=hF2.size;go_wp2
  go_region_with (refine (ih.fine (hL2.drewN 1) hq hb).mono ?_;rintro e w3 ⟨v3,rfl,hl3,hL3,hF3⟩;obtain ⟨k3,x3,m3,_,rfl,a3,n3,c3,rfl⟩:=hl3.shape;obtain ⟨g0,g1,g2,g3,_,_,_,_⟩:=(hB1'.drewN 1).fr hF3 (by omega);obtain ⟨f0,f1,f2,f3,i0,i1,i2,i3⟩:=(hB2'.drewN 1).fr hF3 (by omega);have z3:w.heap.size+1<w3.heap.size:=((hB2'.drewN 1).fr hF3 (by omega)).lt)
  all_goals
   go_wp2;refine jT (v:=.agg #[.int .i64 19,.string empty,.int .i64 o,.slice (some ⟨w3.heap.size,0,none⟩) 2 2]) (by simp [results,Tryz.results153,go_sem,f0,f1,f2,f3,z3,empty]) rfl ?_;have hFw:Fr r w w3:=(((((Fr.al _ _).trans (Fr.al _ _)).trans hF1).trans hF2).drewN 1).trans hF3;have y3:=hF3.size;have y3':w2.heap.size<=w3.heap.size:=y3;have n3':kC (fun b=>B<=b/\b≠D/\b<w3.heap.size/\b≠w.heap.size+1) w3 n (.agg #[.int .i64 k,.string x,.int .i64 m,.slice a nn c]):=hl.frP (x:=r) hFw (fun b hb=>⟨hb.2.2,by omega⟩) (fun b hb=>⟨hb.1,hb.2.1,by omega,by omega⟩)
   have m3':kC (fun b=>B<=b/\b≠D/\b<w3.heap.size/\b≠w.heap.size+1) w3 q.1 (.agg #[.int .i64 k3,.string x3,.int .i64 m3,.slice a3 n3 c3]):=hl3.to (fun b hb=>by
    have h1:w2.heap.size<=b:=hb.1
    exact ⟨by omega,by omega,hb.2,by omega⟩) (fun _ _ _=>rfl)
   have hput:=Fr.put w3 (w.heap.size+1) (.int .i64 19) (.string empty) (.int .i64 o) (.slice (some ⟨w3.heap.size,0,none⟩) 2 2);have n4:=n3'.frP (x:=w.heap.size+1) hput (fun b hb=>⟨hb.2.2.1,hb.2.2.2⟩) (fun b hb=>hb);have m4:=m3'.frP (x:=w.heap.size+1) hput (fun b hb=>⟨hb.2.2.1,hb.2.2.2⟩) (fun b hb=>hb);exact ⟨_,rfl,n4.rowed2P m4 (fun b hb=>by simpa using hb.2.2.1) (fun b hb=>⟨hb.1,hb.2.1,by simp;omega⟩) (by simp) ⟨by omega,by omega,by simp⟩,(hL3.put4 (by omega) _ _ _ _).alloc _,(hFw.put4 (by omega) _ _ _ _).alloc _⟩
theorem zfg {Fk:Nat} (hFk:Fk=152\/Fk=162\/Fk=167) {g:St->Option (Tree × St)} (ih:qI r G ts Fk g) (hL:Ld w r G ts s) {k m:Int} {x:ByteArray} {a:Option Addr} {nn c:Nat} (hs:0<=(sign (txt ts s)).2) {q:Tree × St} (hq:g s.next=some q) (hb:q.2.bad=true) : Calls Tryz.prog 153 #[.pointer (some ⟨r,0,none⟩),.agg #[.int .i64 k,.string x,.int .i64 m,.slice a nn c],.func (.func Fk) #[.pointer (some ⟨r,0,none⟩)] #[]] w fun e w'=>e=.panicked (Pan ts q.2)/\Fr r w w':=by
 rcases hFk with rfl | rfl | rfl
 all_goals
  have c24:=kc25;have hr:=hL.lt;obtain ⟨hlt,hraw⟩:=zky hL hs;have hL0:=(hL.alloc (.cells #[.int .i64 k,.string x,.int .i64 m,.slice a nn c] 25)).alloc (.cells #[.int .i64 0,.string empty,.int .i64 0,.slice none 0 0] 25);have hB1:=(Box4.new w (.int .i64 k) (.string x) (.int .i64 m) (.slice a nn c) 25).alloc (.cells #[.int .i64 0,.string empty,.int .i64 0,.slice none 0 0] 25);have hN:=zax hL0 hlt;rw [hraw] at hN;have hO:=fun w hw=>zn7 (txt ts s) w hw hs
  generalize (sign (txt ts s)).1=o at *;generalize txt ts s=y at *;go_enter Tryz.func153,Tryz.ntmps153;go_wp2_with (fail);refine hN.mono ?_;rintro e w1 ⟨rfl,hL1,hF1⟩;go_wp2_with (fail);refine (hO _ hL1.ops).mono ?_;rintro e w2 ⟨rfl,hb2⟩;have hL2:=hL1.below hb2;have hF2:Fr r w1 w2:=Fr.below hb2;obtain ⟨p0,p1,p2,p3,_,_,_,_⟩:=(hB1.fr hF1 (by omega)).fr hF2 (by omega);go_wp2;refine wp_region_any (by kernel_rfl) ?_;change wpAny _ _ _ _ _ _ _ (World.drew _);refine tkQ 0 (.int .i64 o) ?_
 focus
  refine tkQ 2 (.func (.func 152) #[.pointer (some ⟨r,0,none⟩)] #[]) ?_
 rotate_left
 focus
  refine tkQ 2 (.func (.func 162) #[.pointer (some ⟨r,0,none⟩)] #[]) ?_
 rotate_left
 focus
  refine tkQ 2 (.func (.func 167) #[.pointer (some ⟨r,0,none⟩)] #[]) ?_
 rotate_left
 all_goals
  refine wpAny_ready (rs:=[1,3]) (by kernel_rfl) (by simp) ?_;refine AllReady.cons rfl (fun K hK=>?_) (AllReady.cons rfl (fun K hK=>?_) AllReady.nil)
  focus
   go_simp;refine hK _ _ ?_;clear hK K;refine one0 3 fun K hK=>?_
  all_goals
   go_simp;refine (ih.lost (hL2.drewN 1) hq hb).mono ?_;rintro e w3 ⟨rfl,hF3⟩;go_wp2;exact ⟨rfl,rfl,(((((Fr.al _ _).trans (Fr.al _ _)).trans hF1).trans hF2).drewN 1).trans hF3⟩
end
section
variable {w w':World} {r G:Nat} {ts:List Tok} {s:St}
theorem zxv {j:Nat} (h:j<9):sign (sv j)=(so j,sl j):=by
 rw [bV];rcases za4 h with rfl | rfl | rfl | rfl | rfl | rfl | rfl | rfl | rfl<;>rfl
theorem zfs {ws:List ByteArray} {l:Int} (h1:∀ y∈ws,(sign y).2=l) (h2:∀ j,j<9->sl j=l->sv j∈ws) (hl:0<=l):yP ts s ws=((sign (txt ts s)).2==l):=by
 unfold yP;generalize txt ts s=x;rw [Bool.eq_iff_iff,List.any_eq_true,beq_iff_eq];constructor;·rintro ⟨y,hy,he⟩;obtain rfl:=zds he;exact h1 _ hy
 ·intro h;by_cases hn:∀ j,j<9->eqS (sv j) x=false;·rw [zeu x hn] at h;exfalso;rw [<- h] at hl;exact absurd hl (by decide)
  ·obtain ⟨j,hj,he⟩:∃ j,j<9/\eqS (sv j) x=true:=by
    refine Classical.byContradiction fun hc=>hn fun j hj=>?_
    cases hx:eqS (sv j) x;·rfl
    ·exact absurd ⟨j,hj,hx⟩ hc
   obtain rfl:=zds he;rw [zxv hj] at h;exact ⟨_,h2 j hj h,by unfold eqS;simp⟩
def ws0:List ByteArray:=[⟨#[61,61]⟩,⟨#[60]⟩]
def ws1:List ByteArray:=[⟨#[43]⟩,⟨#[45]⟩,⟨#[124]⟩]
def ws2:List ByteArray:=[⟨#[42]⟩,⟨#[47]⟩,⟨#[37]⟩,⟨#[38]⟩]
theorem ybi:yP ts s ws0=((sign (txt ts s)).2==0):=by
 refine zfs (fun y hy=>?_) (fun j hj=>?_) (by decide);·simp only [ws0,List.mem_cons,List.not_mem_nil,or_false] at hy;rcases hy with rfl | rfl<;>rw [bV]<;>rfl
 ·rcases za4 hj with rfl | rfl | rfl | rfl | rfl | rfl | rfl | rfl | rfl<;>intro h<;>first | (exact absurd h (by decide)) | (simp [ws0,sv,signs])
theorem ybb:yP ts s ws1=((sign (txt ts s)).2==1):=by
 refine zfs (fun y hy=>?_) (fun j hj=>?_) (by decide);·simp only [ws1,List.mem_cons,List.not_mem_nil,or_false] at hy;rcases hy with rfl | rfl | rfl<;>rw [bV]<;>rfl
 ·rcases za4 hj with rfl | rfl | rfl | rfl | rfl | rfl | rfl | rfl | rfl<;>intro h<;>first | (exact absurd h (by decide)) | (simp [ws1,sv,signs])
theorem ybg:yP ts s ws2=((sign (txt ts s)).2==2):=by
 refine zfs (fun y hy=>?_) (fun j hj=>?_) (by decide);·simp only [ws2,List.mem_cons,List.not_mem_nil,or_false] at hy;rcases hy with rfl | rfl | rfl | rfl<;>rw [bV]<;>rfl
 ·rcases za4 hj with rfl | rfl | rfl | rfl | rfl | rfl | rfl | rfl | rfl<;>intro h<;>first | (exact absurd h (by decide)) | (simp [ws2,sv,signs])
theorem yE.three (w:World) (x y z:ByteArray) (T:TypeId) {M:Nat} (hM:M=w.heap.size):yE (w.alloc (.cells #[.string x,.string y,.string z] T)) M [x,y,z]:=by
 subst hM;intro k hk;have:k=0\/k=1\/k=2:=by simp at hk;omega
 rcases this with rfl | rfl | rfl<;>simp
theorem yE.four (w:World) (x y z u:ByteArray) (T:TypeId) {M:Nat} (hM:M=w.heap.size):yE (w.alloc (.cells #[.string x,.string y,.string z,.string u] T)) M [x,y,z,u]:=by
 subst hM;intro k hk;have:k=0\/k=1\/k=2\/k=3:=by simp at hk;omega
 rcases this with rfl | rfl | rfl | rfl<;>simp
theorem zwx (hL:Ld w r G ts s) {M:Nat} {T:TypeId} (hM:M=w.heap.size):Calls Tryz.prog 81 #[.pointer (some ⟨r,0,none⟩),.slice (some ⟨M,0,none⟩) 3 3] (w.alloc (.cells #[.string ⟨#[43]⟩,.string ⟨#[45]⟩,.string ⟨#[124]⟩] T)) fun e w'=>e=.returned (.bool ((sign (txt ts s)).2==1))/\w'=w.alloc (.cells #[.string ⟨#[43]⟩,.string ⟨#[45]⟩,.string ⟨#[124]⟩] T):=by
 rw [<- ybb];exact dO (hL.alloc _) ws1 M 3 (by decide) (by decide) (yE.three w _ _ _ T hM)
theorem zvl (hL:Ld w r G ts s) {M:Nat} {T:TypeId} (hM:M=w.heap.size):Calls Tryz.prog 81 #[.pointer (some ⟨r,0,none⟩),.slice (some ⟨M,0,none⟩) 4 4] (w.alloc (.cells #[.string ⟨#[42]⟩,.string ⟨#[47]⟩,.string ⟨#[37]⟩,.string ⟨#[38]⟩] T)) fun e w'=>e=.returned (.bool ((sign (txt ts s)).2==2))/\w'=w.alloc (.cells #[.string ⟨#[42]⟩,.string ⟨#[47]⟩,.string ⟨#[37]⟩,.string ⟨#[38]⟩] T):=by
 rw [<- ybg];exact dO (hL.alloc _) ws2 M 4 (by decide) (by decide) (yE.four w _ _ _ _ T hM)
theorem zwe (hL:Ld w r G ts s) {M:Nat} {T:TypeId} (hM:M=w.heap.size):Calls Tryz.prog 81 #[.pointer (some ⟨r,0,none⟩),.slice (some ⟨M,0,none⟩) 2 2] (w.alloc (.cells #[.string ⟨#[61,61]⟩,.string ⟨#[60]⟩] T)) fun e w'=>e=.returned (.bool ((sign (txt ts s)).2==0))/\w'=w.alloc (.cells #[.string ⟨#[61,61]⟩,.string ⟨#[60]⟩] T):=by
 rw [<- ybi];exact dO (hL.alloc _) ws0 M 2 (by decide) (by decide) (yE.two w _ _ T hM)
end
section
variable {w w':World} {r G:Nat} {ts:List Tok} {s:St}
theorem ybc {f:Nat} (ih:∀ {g:Nat},g<=f->qI r G ts 162 (qK ts g 2)):qI r G ts 152 (qK ts (f+1) 1):=by
 intro w s q hL hq;have c24:=kc25;have hmf:∀ (fn:Fn) (first cap:Array Value) (w:World),(Instr.makeFunc fn first cap).run Tryz.prog w=.ok (.func fn first cap) w:=fun _ _ _ _=>rfl
 have hr:=hL.lt;have hB0:=Box4.new w (.int .i64 0) (.string empty) (.int .i64 0) (.slice none 0 0) 25;unfold qK at hq;rw [ju (by decide)] at hq;obtain ⟨q1,h1,h2⟩:=zN hq;have HQ:Hid (qW ts f 1 q1.1 q1.2=some q):=h2;clear hq h2;go_enter Tryz.func152,Tryz.ntmps152;go_wp2_with (fail);refine (ih (jE _) (hL.alloc _) h1).mono ?_;rintro e w1 (⟨hb,rfl,hF1⟩|⟨hb,v1,rfl,hl1,hL1,hF1⟩);·go_wp2;exact ⟨rfl,kG.lost ((stuck ts f).bl _ _ _ _ hb HQ.out) hb ((Fr.al _ _).trans hF1)⟩
 obtain ⟨k1,y1,m1,_,rfl,a1,n1,c1,rfl⟩:=hl1.shape;have z1:=hF1.size;rw [jO] at z1 hl1;go_wp2
 go_loopg [] f (fun k wr=>∃ (n:Tree) (s1:St) (k0 m0:Int) (x0:ByteArray) (a0:Option Addr) (n0 c0:Nat),Hid (qW ts k 1 n s1=some q)/\k<=f/\Box4 wr w.heap.size (.int .i64 0) (.string empty) (.int .i64 0) (.slice none 0 0)/\Box4 wr w1.heap.size (.int .i64 k0) (.string x0) (.int .i64 m0) (.slice a0 n0 c0) /\
  kC (fun b=>w.heap.size+1<=b/\b≠w1.heap.size/\b<wr.heap.size) wr n (.agg #[.int .i64 k0,.string x0,.int .i64 m0,.slice a0 n0 c0])/\Ld wr r G ts s1/\Fr r w wr)
 case atStart =>
  refine ⟨q1.1,q1.2,k1,m1,y1,a1,n1,c1,HQ.out,jE _,(hB0.fr hF1 (by omega)).alloc _,Box4.new _ _ _ _ _ _,?_,hL1.alloc _,(((Fr.al _ _).trans hF1).alloc _)⟩;exact hl1.frP (x:=r) (Fr.al _ _) (fun b hb=>⟨hb.2,by omega⟩) (fun b hb=>⟨by omega,by omega,by rw [jO];omega⟩)
 case round =>
  obtain ⟨n,s1,k0,m0,x0,a0,n0,c0,HL,hkf,hb0,hb1,hLn,hLr,hFr⟩:=hrel;have hz1:=hb1.lt
  cases gk with
  | zero=>have:=HL.out;unfold qW at this;simp at this
  | succ k =>
   have hq2:=HL.out;clear HL HQ;unfold qW at hq2;rw [hLr.ok,ju (by decide)] at hq2;have hH:=zwx (T:=9) hLr rfl;have hLa:=hLr.alloc (.cells #[.string ⟨#[43]⟩,.string ⟨#[45]⟩,.string ⟨#[124]⟩] 9);have hb1a:=hb1.alloc (.cells #[.string ⟨#[43]⟩,.string ⟨#[45]⟩,.string ⟨#[124]⟩] 9);have hb0a:=hb0.alloc (.cells #[.string ⟨#[43]⟩,.string ⟨#[45]⟩,.string ⟨#[124]⟩] 9);have hLna:=hLn.frP (x:=r) (Q:=fun b=>w.heap.size+1<=b/\b≠w1.heap.size/\b<(wr.alloc (.cells #[.string ⟨#[43]⟩,.string ⟨#[45]⟩,.string ⟨#[124]⟩] 9)).heap.size) (Fr.al wr (.cells #[.string ⟨#[43]⟩,.string ⟨#[45]⟩,.string ⟨#[124]⟩] 9)) (fun b hb=>⟨hb.2.2,by omega⟩) (fun b hb=>⟨hb.1,hb.2.1,by rw [jO];omega⟩);cases hs:((sign (txt ts s1)).2==1)
   case false =>
    rw [hs] at hH;have hne:((sign (txt ts s1)).2 != ((1:Nat):Int))=true:=by simp only [bne];rw [show ((1:Nat):Int)=1 from rfl,hs];rfl
    rw [hne,jv rfl] at hq2;simp only [jh] at hq2;subst hq2;clear hs hne;obtain ⟨t0,t1,t2,t3,i0,i1,i2,i3⟩:=hb0;obtain ⟨p0,p1,p2,p3,_,_,_,_⟩:=hb1;have hz0:w.heap.size<wr.heap.size:=by omega
    go_wp2_with (fail);refine hH.mono ?_;rintro e w2 ⟨rfl,hw2⟩;obtain rfl:=hw2.symm;go_wp2;refine jT (v:=.agg #[.int .i64 k0,.string x0,.int .i64 m0,.slice a0 n0 c0]) (by simp [results,Tryz.results152,go_sem,t0,t1,t2,t3,hz0]) rfl ?_;have hput:=Fr.put wr w.heap.size (.int .i64 k0) (.string x0) (.int .i64 m0) (.slice a0 n0 c0);exact .inr ⟨hLr.ok,_,rfl,(hLn.frP (x:=w.heap.size) hput (fun b hb=>⟨hb.2.2,by omega⟩) (fun b hb=>hb)).frP (x:=r) (Fr.al _ _) (fun b hb=>⟨by simpa using hb.2.2,by omega⟩) (fun b hb=>⟨by omega,by simp;omega⟩),(hLr.put4 (by omega) _ _ _ _).alloc _,(hFr.put4 (jE _) _ _ _ _).alloc _⟩
   case true =>
    rw [hs] at hH;have hne:((sign (txt ts s1)).2 != ((1:Nat):Int))=false:=by simp only [bne];rw [show ((1:Nat):Int)=1 from rfl,hs];rfl
    rw [hne,ju (by decide)] at hq2;obtain ⟨q2,hq3,hq4⟩:=zN hq2;rw [ju (by decide)] at hq4;have HQ4:Hid (qW ts k 1 (.node 19 empty (sign (txt ts s1)).1 [n,q2.1]) q2.2=some q):=hq4;have hsg:0<=(sign (txt ts s1)).2:=by rw [beq_iff_eq] at hs;rw [hs];decide
    clear hq2 hq4 hs hne;obtain ⟨p0,p1,p2,p3,_,_,_,_⟩:=id hb1;by_cases hbq:q2.2.bad=true;·have hC:=zfg (by decide) (k:=k0) (m:=m0) (x:=x0) (a:=a0) (nn:=n0) (c:=c0) (ih (show k<=f by omega)) hLa hsg hq3 hbq;have HS:Hid (q.2=q2.2):=(stuck ts k).bl _ _ _ _ hbq HQ4.out;clear hsg;go_wp2_with (fail);refine hH.mono ?_;rintro e w2 ⟨rfl,hw2⟩;obtain rfl:=hw2.symm;go_wp2_with (fail);refine hC.mono ?_;rintro e w3 ⟨rfl,hF3⟩;go_wp2;exact ⟨rfl,kG.lost HS.out hbq ((hFr.trans (Fr.al _ _)).trans hF3)⟩
    ·have hbq':q2.2.bad=false:=by simpa using hbq
     have hC:=zfa (by decide) (ih (show k<=f by omega)) hLa (B:=w.heap.size+1) (D:=w1.heap.size) (by omega) (by rw [jO];omega) (by rw [jO];omega) hLna hsg hq3 hbq';clear hsg hbq hbq';generalize (sign (txt ts s1)).1=o at *;go_wp2_with (fail);refine hH.mono ?_;rintro e w2 ⟨rfl,hw2⟩;obtain rfl:=hw2.symm;go_wp2_with (fail);refine hC.mono ?_;rintro e w3 ⟨v3,rfl,hl3,hL3,hF3⟩;obtain ⟨k3,x3,m3,_,rfl,a3,n3,c3,rfl⟩:=hl3.shape;have hb3:=hb1a.fr hF3 (by omega);have hb30:=hb0a.fr hF3 (by omega);have hz3:=hb3.lt;obtain ⟨t0,t1,t2,t3,i0,i1,i2,i3⟩:=id hb3;go_wp2
     go_roundg k
     case rel =>
      refine ⟨_,q2.2,k3,m3,x3,a3,n3,c3,HQ4.out,by omega,?_,hb3.put,?_,hL3.put4 (by omega) _ _ _ _,((hFr.trans (Fr.al _ _)).trans hF3).put4 (by omega) _ _ _ _⟩;·exact (((hb30.other (by omega) _).other (by omega) _).other (by omega) _).other (by omega) _
      ·exact hl3.frP (x:=w1.heap.size) (Fr.put _ _ _ _ _ _) (fun b hb=>⟨hb.2.2,hb.2.1⟩) (fun b hb=>⟨hb.1,hb.2.1,by simpa using hb.2.2⟩)
     case measure=>omega
theorem zun {f:Nat} (ih:∀ {g:Nat},g<=f->qI r G ts 167 (qK ts g 3)):qI r G ts 162 (qK ts (f+1) 2):=by
 intro w s q hL hq;have c24:=kc25;have hmf:∀ (fn:Fn) (first cap:Array Value) (w:World),(Instr.makeFunc fn first cap).run Tryz.prog w=.ok (.func fn first cap) w:=fun _ _ _ _=>rfl
 have hr:=hL.lt;have hB0:=Box4.new w (.int .i64 0) (.string empty) (.int .i64 0) (.slice none 0 0) 25;unfold qK at hq;rw [ju (by decide)] at hq;obtain ⟨q1,h1,h2⟩:=zN hq;have HQ:Hid (qW ts f 2 q1.1 q1.2=some q):=h2;clear hq h2;go_enter Tryz.func162,Tryz.ntmps162;go_wp2_with (fail);refine (ih (jE _) (hL.alloc _) h1).mono ?_;rintro e w1 (⟨hb,rfl,hF1⟩|⟨hb,v1,rfl,hl1,hL1,hF1⟩);·go_wp2;exact ⟨rfl,kG.lost ((stuck ts f).bl _ _ _ _ hb HQ.out) hb ((Fr.al _ _).trans hF1)⟩
 obtain ⟨k1,y1,m1,_,rfl,a1,n1,c1,rfl⟩:=hl1.shape;have z1:=hF1.size;rw [jO] at z1 hl1;go_wp2
 go_loopg [] f (fun k wr=>∃ (n:Tree) (s1:St) (k0 m0:Int) (x0:ByteArray) (a0:Option Addr) (n0 c0:Nat),Hid (qW ts k 2 n s1=some q)/\k<=f/\Box4 wr w.heap.size (.int .i64 0) (.string empty) (.int .i64 0) (.slice none 0 0)/\Box4 wr w1.heap.size (.int .i64 k0) (.string x0) (.int .i64 m0) (.slice a0 n0 c0) /\
  kC (fun b=>w.heap.size+1<=b/\b≠w1.heap.size/\b<wr.heap.size) wr n (.agg #[.int .i64 k0,.string x0,.int .i64 m0,.slice a0 n0 c0])/\Ld wr r G ts s1/\Fr r w wr)
 case atStart =>
  refine ⟨q1.1,q1.2,k1,m1,y1,a1,n1,c1,HQ.out,jE _,(hB0.fr hF1 (by omega)).alloc _,Box4.new _ _ _ _ _ _,?_,hL1.alloc _,(((Fr.al _ _).trans hF1).alloc _)⟩;exact hl1.frP (x:=r) (Fr.al _ _) (fun b hb=>⟨hb.2,by omega⟩) (fun b hb=>⟨by omega,by omega,by rw [jO];omega⟩)
 case round =>
  obtain ⟨n,s1,k0,m0,x0,a0,n0,c0,HL,hkf,hb0,hb1,hLn,hLr,hFr⟩:=hrel;have hz1:=hb1.lt
  cases gk with
  | zero=>have:=HL.out;unfold qW at this;simp at this
  | succ k =>
   have hq2:=HL.out;clear HL HQ;unfold qW at hq2;rw [hLr.ok,ju (by decide)] at hq2;have hH:=zvl (T:=9) hLr rfl;have hLa:=hLr.alloc (.cells #[.string ⟨#[42]⟩,.string ⟨#[47]⟩,.string ⟨#[37]⟩,.string ⟨#[38]⟩] 9);have hb1a:=hb1.alloc (.cells #[.string ⟨#[42]⟩,.string ⟨#[47]⟩,.string ⟨#[37]⟩,.string ⟨#[38]⟩] 9);have hb0a:=hb0.alloc (.cells #[.string ⟨#[42]⟩,.string ⟨#[47]⟩,.string ⟨#[37]⟩,.string ⟨#[38]⟩] 9);have hLna:=hLn.frP (x:=r) (Q:=fun b=>w.heap.size+1<=b/\b≠w1.heap.size/\b<(wr.alloc (.cells #[.string ⟨#[42]⟩,.string ⟨#[47]⟩,.string ⟨#[37]⟩,.string ⟨#[38]⟩] 9)).heap.size) (Fr.al wr (.cells #[.string ⟨#[42]⟩,.string ⟨#[47]⟩,.string ⟨#[37]⟩,.string ⟨#[38]⟩] 9)) (fun b hb=>⟨hb.2.2,by omega⟩) (fun b hb=>⟨hb.1,hb.2.1,by rw [jO];omega⟩);cases hs:((sign (txt ts s1)).2==2)
   case false =>
    rw [hs] at hH;have hne:((sign (txt ts s1)).2 != ((2:Nat):Int))=true:=by simp only [bne];rw [show ((2:Nat):Int)=2 from rfl,hs];rfl
    rw [hne,jv rfl] at hq2;simp only [jh] at hq2;subst hq2;clear hs hne;obtain ⟨t0,t1,t2,t3,i0,i1,i2,i3⟩:=hb0;obtain ⟨p0,p1,p2,p3,_,_,_,_⟩:=hb1;have hz0:w.heap.size<wr.heap.size:=by omega
    go_wp2_with (fail);refine hH.mono ?_;rintro e w2 ⟨rfl,hw2⟩;obtain rfl:=hw2.symm;go_wp2;refine jT (v:=.agg #[.int .i64 k0,.string x0,.int .i64 m0,.slice a0 n0 c0]) (by simp [results,Tryz.results162,go_sem,t0,t1,t2,t3,hz0]) rfl ?_;have hput:=Fr.put wr w.heap.size (.int .i64 k0) (.string x0) (.int .i64 m0) (.slice a0 n0 c0);exact .inr ⟨hLr.ok,_,rfl,(hLn.frP (x:=w.heap.size) hput (fun b hb=>⟨hb.2.2,by omega⟩) (fun b hb=>hb)).frP (x:=r) (Fr.al _ _) (fun b hb=>⟨by simpa using hb.2.2,by omega⟩) (fun b hb=>⟨by omega,by simp;omega⟩),(hLr.put4 (by omega) _ _ _ _).alloc _,(hFr.put4 (jE _) _ _ _ _).alloc _⟩
   case true =>
    rw [hs] at hH;have hne:((sign (txt ts s1)).2 != ((2:Nat):Int))=false:=by simp only [bne];rw [show ((2:Nat):Int)=2 from rfl,hs];rfl
    rw [hne,ju (by decide)] at hq2;obtain ⟨q2,hq3,hq4⟩:=zN hq2;rw [ju (by decide)] at hq4;have HQ4:Hid (qW ts k 2 (.node 19 empty (sign (txt ts s1)).1 [n,q2.1]) q2.2=some q):=hq4;have hsg:0<=(sign (txt ts s1)).2:=by rw [beq_iff_eq] at hs;rw [hs];decide
    clear hq2 hq4 hs hne;obtain ⟨p0,p1,p2,p3,_,_,_,_⟩:=id hb1;by_cases hbq:q2.2.bad=true;·have hC:=zfg (by decide) (k:=k0) (m:=m0) (x:=x0) (a:=a0) (nn:=n0) (c:=c0) (ih (show k<=f by omega)) hLa hsg hq3 hbq;have HS:Hid (q.2=q2.2):=(stuck ts k).bl _ _ _ _ hbq HQ4.out;clear hsg;go_wp2_with (fail);refine hH.mono ?_;rintro e w2 ⟨rfl,hw2⟩;obtain rfl:=hw2.symm;go_wp2_with (fail);refine hC.mono ?_;rintro e w3 ⟨rfl,hF3⟩;go_wp2;exact ⟨rfl,kG.lost HS.out hbq ((hFr.trans (Fr.al _ _)).trans hF3)⟩
    ·have hbq':q2.2.bad=false:=by simpa using hbq
     have hC:=zfa (by decide) (ih (show k<=f by omega)) hLa (B:=w.heap.size+1) (D:=w1.heap.size) (by omega) (by rw [jO];omega) (by rw [jO];omega) hLna hsg hq3 hbq';clear hsg hbq hbq';generalize (sign (txt ts s1)).1=o at *;go_wp2_with (fail);refine hH.mono ?_;rintro e w2 ⟨rfl,hw2⟩;obtain rfl:=hw2.symm;go_wp2_with (fail);refine hC.mono ?_;rintro e w3 ⟨v3,rfl,hl3,hL3,hF3⟩;obtain ⟨k3,x3,m3,_,rfl,a3,n3,c3,rfl⟩:=hl3.shape;have hb3:=hb1a.fr hF3 (by omega);have hb30:=hb0a.fr hF3 (by omega);have hz3:=hb3.lt;obtain ⟨t0,t1,t2,t3,i0,i1,i2,i3⟩:=id hb3;go_wp2
     go_roundg k
     case rel =>
      refine ⟨_,q2.2,k3,m3,x3,a3,n3,c3,HQ4.out,by omega,?_,hb3.put,?_,hL3.put4 (by omega) _ _ _ _,((hFr.trans (Fr.al _ _)).trans hF3).put4 (by omega) _ _ _ _⟩;·exact (((hb30.other (by omega) _).other (by omega) _).other (by omega) _).other (by omega) _
      ·exact hl3.frP (x:=w1.heap.size) (Fr.put _ _ _ _ _ _) (fun b hb=>⟨hb.2.2,hb.2.1⟩) (fun b hb=>⟨hb.1,hb.2.1,by simpa using hb.2.2⟩)
     case measure=>omega
theorem yau {f:Nat} (ih:∀ {g:Nat},g<=f->qI r G ts 152 (qK ts g 1)):qI r G ts 139 (qB ts (f+2)):=by
 intro w s q hL hq;have c24:=kc25;have hmf:∀ (fn:Fn) (first cap:Array Value) (w:World),(Instr.makeFunc fn first cap).run Tryz.prog w=.ok (.func fn first cap) w:=fun _ _ _ _=>rfl
 have hr:=hL.lt;have hB0:=Box4.new w (.int .i64 0) (.string empty) (.int .i64 0) (.slice none 0 0) 25;unfold qB at hq;rw [hL.ok,ju (by decide)] at hq;unfold qK at hq;rw [ju (by decide)] at hq;obtain ⟨q1,h1,h2⟩:=zN hq;have HQ:Hid (qW ts f 0 q1.1 q1.2=some q):=h2;clear hq h2;go_enter Tryz.func139,Tryz.ntmps139;go_wp2_with (fail);refine (ih (jE _) (hL.alloc _) h1).mono ?_;rintro e w1 (⟨hb,rfl,hF1⟩|⟨hb,v1,rfl,hl1,hL1,hF1⟩);·go_wp2;exact ⟨rfl,kG.lost ((stuck ts f).bl _ _ _ _ hb HQ.out) hb ((Fr.al _ _).trans hF1)⟩
 obtain ⟨k0,x0,m0,_,rfl,a0,n0,c0,rfl⟩:=hl1.shape;have z1:=hF1.size;rw [jO] at z1 hl1;have hLr:=hL1.alloc (.cells #[.int .i64 k0,.string x0,.int .i64 m0,.slice a0 n0 c0] 25);have hb0:=(hB0.fr hF1 (by omega)).alloc (.cells #[.int .i64 k0,.string x0,.int .i64 m0,.slice a0 n0 c0] 25);have hb1:=Box4.new w1 (.int .i64 k0) (.string x0) (.int .i64 m0) (.slice a0 n0 c0) 25;have hFr:=((Fr.al w (.cells #[.int .i64 0,.string empty,.int .i64 0,.slice none 0 0] 25)).trans hF1).alloc (.cells #[.int .i64 k0,.string x0,.int .i64 m0,.slice a0 n0 c0] 25);have hLn:=hl1.frP (x:=r) (Q:=fun b=>w.heap.size+1<=b/\b≠w1.heap.size/\b<(w1.alloc (.cells #[.int .i64 k0,.string x0,.int .i64 m0,.slice a0 n0 c0] 25)).heap.size) (Fr.al w1 (.cells #[.int .i64 k0,.string x0,.int .i64 m0,.slice a0 n0 c0] 25)) (fun b hb=>⟨hb.2,by omega⟩) (fun b hb=>⟨by omega,by omega,by rw [jO];omega⟩);have hzr:(w1.alloc (.cells #[.int .i64 k0,.string x0,.int .i64 m0,.slice a0 n0 c0] 25)).heap.size=w1.heap.size+1:=jO _ _;have hH:=zwe (T:=9) (M:=w1.heap.size+1) hLr hzr.symm;have hLa:=hLr.alloc (.cells #[.string ⟨#[61,61]⟩,.string ⟨#[60]⟩] 9);have hb1a:=hb1.alloc (.cells #[.string ⟨#[61,61]⟩,.string ⟨#[60]⟩] 9);have hb0a:=hb0.alloc (.cells #[.string ⟨#[61,61]⟩,.string ⟨#[60]⟩] 9);have hLna:=hLn.frP (x:=r) (Q:=fun b=>w.heap.size+1<=b/\b≠w1.heap.size/\b<((w1.alloc (.cells #[.int .i64 k0,.string x0,.int .i64 m0,.slice a0 n0 c0] 25)).alloc (.cells #[.string ⟨#[61,61]⟩,.string ⟨#[60]⟩] 9)).heap.size) (Fr.al _ (.cells #[.string ⟨#[61,61]⟩,.string ⟨#[60]⟩] 9)) (fun b hb=>⟨hb.2.2,by omega⟩) (fun b hb=>⟨hb.1,hb.2.1,by rw [jO];omega⟩)
 cases f with
 | zero=>have:=HQ.out;unfold qW at this;simp at this
 | succ k =>
  have hq2:=HQ.out;clear HQ;unfold qW at hq2;rw [hb,ju (by decide)] at hq2;cases hs:((sign (txt ts q1.2)).2==0)
  case false =>
   rw [hs] at hH;have hne:((sign (txt ts q1.2)).2 != ((0:Nat):Int))=true:=by simp only [bne];rw [show ((0:Nat):Int)=0 from rfl,hs];rfl
   rw [hne,jv rfl] at hq2;simp only [jh] at hq2;subst hq2;clear hs hne;obtain ⟨t0,t1,t2,t3,i0,i1,i2,i3⟩:=hB0.fr hF1 (by omega);have hz0:w.heap.size<w1.heap.size:=by omega
   go_wp2_with (fail);refine hH.mono ?_;rintro e w2 ⟨rfl,hw2⟩;obtain rfl:=hw2.symm;go_wp2;refine jT (v:=.agg #[.int .i64 k0,.string x0,.int .i64 m0,.slice a0 n0 c0]) (by simp [results,Tryz.results139,go_sem,t0,t1,t2,t3,hz0]) rfl ?_;have hput:=Fr.put w1 w.heap.size (.int .i64 k0) (.string x0) (.int .i64 m0) (.slice a0 n0 c0);exact .inr ⟨hb,_,rfl,(hl1.frP (x:=w.heap.size) hput (fun b hb=>⟨hb.2,by omega⟩) (fun b hb=>hb)).frP (x:=r) ((Fr.al _ _).trans (Fr.al _ _)) (fun b hb=>⟨by simpa using hb.2,by omega⟩) (fun b hb=>⟨by omega,by simp;omega⟩),((hL1.put4 (by omega) _ _ _ _).alloc _).alloc _,((((Fr.al _ _).trans hF1).put4 (jE _) _ _ _ _).alloc _).alloc _⟩
  case true =>
   rw [hs] at hH;have hne:((sign (txt ts q1.2)).2 != ((0:Nat):Int))=false:=by simp only [bne];rw [show ((0:Nat):Int)=0 from rfl,hs];rfl
   rw [hne,ju (by decide)] at hq2;obtain ⟨q2,hq3,hq4⟩:=zN hq2;rw [jv (by decide)] at hq4;simp only [jh] at hq4;subst hq4;have hsg:0<=(sign (txt ts q1.2)).2:=by rw [beq_iff_eq] at hs;rw [hs];decide
   clear hq2 hs hne;by_cases hbq:q2.2.bad=true;·have hC:=zfg (by decide) (k:=k0) (m:=m0) (x:=x0) (a:=a0) (nn:=n0) (c:=c0) (ih (show k<=k+1 by omega)) hLa hsg hq3 hbq;clear hsg;go_wp2_with (fail);refine hH.mono ?_;rintro e w2 ⟨rfl,hw2⟩;obtain rfl:=hw2.symm;go_wp2_with (fail);refine hC.mono ?_;rintro e w3 ⟨rfl,hF3⟩;go_wp2;exact ⟨rfl,kG.lost rfl hbq ((hFr.trans (Fr.al _ _)).trans hF3)⟩
   ·have hbq':q2.2.bad=false:=by simpa using hbq
    have hC:=zfa (by decide) (ih (show k<=k+1 by omega)) hLa (B:=w.heap.size+1) (D:=w1.heap.size) (by omega) (by rw [jO];omega) (by rw [jO];omega) hLna hsg hq3 hbq';clear hsg hbq;generalize (sign (txt ts q1.2)).1=o at *;go_wp2_with (fail);refine hH.mono ?_;rintro e w2 ⟨rfl,hw2⟩;obtain rfl:=hw2.symm;go_wp2_with (fail);refine hC.mono ?_;rintro e w3 ⟨v3,rfl,hl3,hL3,hF3⟩;obtain ⟨k3,x3,m3,_,rfl,a3,n3,c3,rfl⟩:=hl3.shape;have hb3:=hb1a.fr hF3 (by omega);have hb30:=hb0a.fr hF3 (by omega);have hz3:=hb3.lt;obtain ⟨t0,t1,t2,t3,i0,i1,i2,i3⟩:=id hb3;obtain ⟨u0,u1,u2,u3,v0,v1,v2,v3⟩:=id hb30;go_wp2;refine jT (v:=.agg #[.int .i64 k3,.string x3,.int .i64 m3,.slice a3 n3 c3]) (by simp [results,Tryz.results139,go_sem,u0,u1,u2,u3]) rfl ?_;have hF4:Fr r w _:=((hFr.trans (Fr.al _ _)).trans hF3).put4 (N:=w1.heap.size) (by omega) (.int .i64 k3) (.string x3) (.int .i64 m3) (.slice a3 n3 c3);have hl4:=hl3.frP (x:=w1.heap.size) (Fr.put w3 w1.heap.size (.int .i64 k3) (.string x3) (.int .i64 m3) (.slice a3 n3 c3)) (fun b hb=>⟨hb.2.2,hb.2.1⟩) (fun b hb=>hb);exact .inr ⟨hbq',_,rfl,hl4.frP (x:=w.heap.size) (Fr.put _ _ _ _ _ _) (fun b hb=>⟨by simpa using hb.2.2,by omega⟩) (fun b hb=>⟨by omega,by simpa using hb.2.2⟩),(hL3.put4 (by omega) _ _ _ _).put4 (by omega) _ _ _ _,hF4.put4 (jE _) _ _ _ _⟩
end
end syn
namespace syn
open Go.RowKit
open lexs (Tok Fine own_shape)
section
variable (ts:List Tok) (item:Nat->St->Option (Tree × St))
def gD:Nat->List Tree->St->Option (List Tree × St)
 | 0,_,_=>none
 | f+1,ks,s=>(item f s).bind fun q=>if eqS (txt ts q.2) ⟨#[44]⟩ then gD f (ks++[q.1]) q.2.next else some (ks++[q.1],kF ts ⟨#[41]⟩ q.2)
def bH (f:Nat) (s:St):Option (List Tree × St):=if eqS (txt ts s) ⟨#[41]⟩ then some ([],s.next) else gD ts item f [] s
end
section
variable {w w' w0:World} {r G B:Nat} {ts:List Tok} {s:St} {kv:Value} {ks:List Tree}
structure KO (w0:World) (B r G:Nat) (ts:List Tok) (w:World) (s:St) (kv:Value) (ks:List Tree):Prop where
 ld:Ld w r G ts s
 low:r<w0.heap.size
 b0:w0.heap.size<=B
 fr:Fr r w0 w
 kids:Kids B (fun b=>B<=b/\b<w.heap.size/\some b≠kv.ownBlock) w kv ks
theorem KO.nr (h:KO w0 B r G ts w s kv ks):kv.ownBlock≠some r:=fun e=>by have h1:=(h.kids.blk e).1;have h2:=h.low;have h3:=h.b0;omega
theorem KO.step (h:KO w0 B r G ts w s kv ks) {s':St} (hL:Ld w' r G ts s') (hF:Fr r w w'):KO w0 B r G ts w' s' kv ks :=
 ⟨hL,h.low,h.b0,h.fr.trans hF,h.kids.grown hF (.inr h.nr) (fun b hb=>⟨hb.2.1,by have:=h.low;have:=h.b0;simp;omega⟩) (fun b hb=>⟨hb.1,jo hb.2.1 hF.size,hb.2.2⟩)⟩
theorem KO.set (h:KO w0 B r G ts w s kv ks) {N:Nat} (hN:w0.heap.size<=N) (hB:N<B) (o:Nat) (v:Value):KO w0 B r G ts (w.setCell ⟨N,o,none⟩ v) s kv ks :=
 ⟨h.ld.set (by have:=h.low;omega) o v,h.low,h.b0,h.fr.setNew hN v,h.kids.grown ((Fr.refl N w).set o v) (.inr (fun e=>by have:=(h.kids.blk e).1;omega)) (fun b hb=>⟨hb.2.1,by simp;omega⟩) (fun b hb=>⟨hb.1,by rw [jQ];exact hb.2.1,hb.2.2⟩)⟩
theorem KO.pushed {vs:List Q4} (h:KO w0 B r G ts w s kv ks) (ho:w.ownsRow B 25 4 kv ks.length (uK vs)) (ha:zR (fun b=>B<=b/\b<w.heap.size/\some b≠kv.ownBlock) w ks vs) {t:Tree} {q:Q4} (hl:kC (fun b=>B<=b/\b<w.heap.size/\some b≠kv.ownBlock) w t q.v) {w4:World} {v':Value} {o:Obj} (hown':w4.ownsRow B 25 4 v' (ks.length+1) (uK vs++[q.1,q.2.1,q.2.2.1,q.2.2.2])) (hgrow:(w.alloc o).grownBy w4 kv.ownBlock) (hfr:v'.ownBlock=kv.ownBlock\/v'.ownBlock=some (w.heap.size+1)):KO w0 B r G ts w4 s v' (ks++[t]):=by
 have hG:w.grownBy w4 kv.ownBlock:=zci (World.grownBy_alloc w _ _) hgrow;have s4:=hG.size;have hlow:=h.low;have hb0:=h.b0
 have hQ:∀ b,(B<=b/\b<w.heap.size/\some b≠kv.ownBlock)->(B<=b/\b<w4.heap.size/\some b≠v'.ownBlock):=fun b hb=>⟨hb.1,by omega,fun e=>by
  rcases hfr with e' | e'
  ·exact hb.2.2 (e.trans e')
  ·rw [e'] at e;have:b=w.heap.size+1:=by simpa using e
   omega⟩
 have hsame:∀ b,(B<=b/\b<w.heap.size/\some b≠kv.ownBlock)->∀ j,w4.cell? ⟨b,j,none⟩=w.cell? ⟨b,j,none⟩:=fun b hb j=>jM (a:=⟨b,j,none⟩) (hG.block b hb.2.1 hb.2.2)
 refine ⟨h.ld.keep hG (fun k e=>by have h1:=(h.kids.blk e).1;omega),h.low,h.b0,?_,vs++[q],?_,zR.snoc (hl.to hQ hsame) (ha.to hQ hsame)⟩;·exact ⟨hG.os.trans h.fr.os,hG.tape.trans h.fr.tape,hG.output.trans h.fr.output,jp h.fr.size hG.size,fun j hj hn=>(hG.block j (jo hj h.fr.size) (fun e=>by have:=(h.kids.blk e.symm).1;omega)).trans (h.fr.block j hj hn)⟩
 ·rw [zis,jb];exact hown'
theorem KO.one {t:Tree} {y0 y1 y2 y3:Value} {M:Nat} (hL:Ld w r G ts s) (hlow:r<w0.heap.size) (hb0:w0.heap.size<=B) (hF:Fr r w0 w) (hB:B<=w.heap.size) (hM:M=w.heap.size) (hl:kC (fun b=>B<=b/\b<w.heap.size) w t (.agg #[y0,y1,y2,y3])) : KO w0 B r G ts (w.alloc (.cells #[y0,y1,y2,y3] 25)) s (.slice (some ⟨M,0,none⟩) 1 1) [t]:=by
 subst hM;refine ⟨hL.alloc _,hlow,hb0,hF.alloc _,[(y0,y1,y2,y3)],World.ownsRow_lit w #[y0,y1,y2,y3] 1 hB (by decide) rfl,?_,trivial⟩
 exact hl.frP (x:=w.heap.size) (Fr.al _ _) (fun b hb=>⟨hb.2,by omega⟩) (fun b hb=>⟨hb.1,by rw [jO];omega,fun e=>by
  have:b=w.heap.size:=by simpa [Value.ownBlock] using e
  omega⟩)
def yav (w:World) (r G:Nat) (ts:List Tok) (q:List Tree × St) (e:Ending) (w':World):Prop :=
 (q.2.bad=true/\e=.panicked (Pan ts q.2)/\Fr r w w')\/(q.2.bad=false/\q.1.length<=100001/\∃ kv,e=.returned kv/\KO w w.heap.size r G ts w' q.2 kv q.1)
theorem zqv (hL:Ld w r G ts s) (h:eqS (txt ts s) ⟨#[44]⟩=true) {M:Nat} {T:TypeId} (hM:M=w.heap.size) : Calls Tryz.prog 60 #[.pointer (some ⟨r,0,none⟩),.slice (some ⟨M,0,none⟩) 2 2] (w.alloc (.cells #[.string ⟨#[44]⟩,.string ⟨#[41]⟩] T)) fun e w'=>∃ y,(y.toList==[44])=true/\e=.returned (.string y)/\Ld w' r G ts s.next/\Fr r w w':=by
 have hx:yP ts s [⟨#[44]⟩,⟨#[41]⟩]=true:=by unfold yP;simp [h]
 refine (zbg (hL.alloc _) [⟨#[44]⟩,⟨#[41]⟩] M 2 (by simp) (by decide) (yE.two w _ _ T hM) hx).mono ?_;rintro e w' ⟨rfl,h2,h3⟩;have hlt:=dT (by decide) hx;refine ⟨_,?_,rfl,h2,(Fr.al _ _).trans h3⟩;rw [<- eqS_lit,<- zca (hL.good _ (jH hlt)) hL.ok (dG hlt) (by decide)];exact h
theorem zus (hL:Ld w r G ts s) (h0:eqS (txt ts s) ⟨#[44]⟩=false) (h:eqS (txt ts s) ⟨#[41]⟩=true) {M:Nat} {T:TypeId} (hM:M=w.heap.size) : Calls Tryz.prog 60 #[.pointer (some ⟨r,0,none⟩),.slice (some ⟨M,0,none⟩) 2 2] (w.alloc (.cells #[.string ⟨#[44]⟩,.string ⟨#[41]⟩] T)) fun e w'=>∃ y,(y.toList==[44])=false/\e=.returned (.string y)/\Ld w' r G ts s.next/\Fr r w w':=by
 have hx:yP ts s [⟨#[44]⟩,⟨#[41]⟩]=true:=by unfold yP;simp [h]
 refine (zbg (hL.alloc _) [⟨#[44]⟩,⟨#[41]⟩] M 2 (by simp) (by decide) (yE.two w _ _ T hM) hx).mono ?_;rintro e w' ⟨rfl,h2,h3⟩;have hlt:=dT (by decide) hx;refine ⟨_,?_,rfl,h2,(Fr.al _ _).trans h3⟩;rw [<- eqS_lit,<- zca (hL.good _ (jH hlt)) hL.ok (dG hlt) (by decide)];exact h0
theorem zsy (hL:Ld w r G ts s) (h0:eqS (txt ts s) ⟨#[44]⟩=false) (h:eqS (txt ts s) ⟨#[41]⟩=false) {M:Nat} {T:TypeId} (hM:M=w.heap.size) : Calls Tryz.prog 60 #[.pointer (some ⟨r,0,none⟩),.slice (some ⟨M,0,none⟩) 2 2] (w.alloc (.cells #[.string ⟨#[44]⟩,.string ⟨#[41]⟩] T)) fun e w'=>e=.panicked (Pan ts s)/\Fr r w w':=by
 refine (zfh (hL.alloc _) [⟨#[44]⟩,⟨#[41]⟩] M 2 (by simp) (by decide) (yE.two w _ _ T hM) (by unfold yP;simp [h,h0])).mono ?_;rintro e w' ⟨rfl,rfl⟩;exact ⟨rfl,Fr.al _ _⟩
theorem zoa {Fk:Nat} (hFk:Fk=139\/Fk=103) {item:Nat->St->Option (Tree × St)} {f:Nat} (ih:∀ {g:Nat},g<=f->qI r G ts Fk (item g)) (hst:∀ (g:Nat) (s:St) (q:Tree × St),s.bad=true->item g s=some q->q.2=s) (hf:f<=100000) (hL:Ld w r G ts s) {q:List Tree × St} (hq:bH ts item f s=some q) : Calls Tryz.prog 102 #[.pointer (some ⟨r,0,none⟩),.func (.func Fk) #[.pointer (some ⟨r,0,none⟩)] #[]] w (yav w r G ts q):=by
 rcases hFk with rfl | rfl
 all_goals
  have c24:=kc25;have hr:=hL.lt;obtain ⟨i0,hi,hz0,hz1',hz2⟩:=info_parts bW;unfold bH at hq;cases he:eqS (txt ts s) ⟨#[41]⟩
  case true =>
   rw [he,jv rfl] at hq;simp only [jh] at hq;subst hq;have hE:=xO (T:=9) hL ⟨#[41]⟩ (by decide) he rfl;have hok:s.next.bad=false:=hL.ok;clear he;go_enter Tryz.func102,Tryz.ntmps102;go_wp2_with (fail);refine hE.mono ?_;rintro e w1 ⟨rfl,hL1,hF1⟩;go_wp2;go_ret;exact .inr ⟨hok,by simp,_,rfl,hL1,hr,jE _,hF1,Kids.nil _ _ _⟩
  case false =>
   rw [he,ju (by decide)] at hq;have hE:=xP (T:=9) hL ⟨#[41]⟩ (by decide) he rfl;clear he
   cases f with
   | zero=>unfold gD at hq;simp at hq
   | succ f =>
    unfold gD at hq;obtain ⟨q1,h1,hq⟩:=zN hq;have HQ:Hid ((if eqS (txt ts q1.2) ⟨#[44]⟩ then gD ts item f ([]++[q1.1]) q1.2.next else some ([]++[q1.1],kF ts ⟨#[41]⟩ q1.2))=some q):=hq;clear hq;go_enter Tryz.func102,Tryz.ntmps102;go_wp2_with (fail);refine hE.mono ?_;rintro e w1 ⟨rfl,hL1,hF1⟩;go_wp2_with (fail);refine (ih (Nat.le_succ _) hL1 h1).mono ?_;rintro e w2 (⟨hb2,rfl,hF2⟩|⟨hb2,v2,rfl,hl2,hL2,hF2⟩)
    ·have HS:Hid (q.2=q1.2):=by
      have:=HQ.out;rw [zX (by decide) hb2,ju (by decide)] at this;simp only [jh] at this;show _=_;rw [<- this];exact qF (by decide) hb2
     go_wp2;exact ⟨rfl,.inl ⟨by rw [HS.out];exact hb2,by rw [HS.out],hF1.trans hF2⟩⟩
    obtain ⟨k2,x2,m2,_,rfl,a2,n2,c2,rfl⟩:=hl2.shape;have z1:=hF1.size;have z2:=hF2.size;have hK0:=KO.one (B:=w.heap.size) hL2 hr (jE _) (hF1.trans hF2) (by omega) rfl (hl2.low z1);go_wp2
    go_loopg [5] f (fun k kv wr=>∃ (ks:List Tree) (s1:St),Hid ((if eqS (txt ts s1) ⟨#[44]⟩ then gD ts item k ks s1.next else some (ks,kF ts ⟨#[41]⟩ s1))=some q)/\ks.length+k<=f+1/\KO w w.heap.size r G ts wr s1 kv ks)
    case atStart=>exact ⟨[]++[q1.1],q1.2,HQ.out,by simp;omega,hK0⟩
    case round =>
     obtain ⟨ks,s1,HL,hkf,hK⟩:=hrel;clear HQ hK0;obtain ⟨a,c,rfl⟩:=hK.kids.shape;cases hcm:eqS (txt ts s1) ⟨#[44]⟩
     case false =>
      have hq2:=HL.out;rw [hcm,ju (by decide)] at hq2;simp only [jh] at hq2;subst hq2;cases hen:eqS (txt ts s1) ⟨#[41]⟩
      case false =>
       rw [zez hen];go_wp2_with (fail);refine (zsy hK.ld hcm hen rfl).mono ?_;rintro e w3 ⟨rfl,hF3⟩;go_wp2;exact ⟨rfl,.inl ⟨rfl,rfl,hK.fr.trans hF3⟩⟩
      case true =>
       have hok:s1.next.bad=false:=hK.ld.ok;go_wp2_with (fail);refine (zus hK.ld hcm hen rfl).mono ?_;rintro e w3 ⟨y,hy,rfl,hL3,hF3⟩;go_wp2;go_ret;exact .inr ⟨by simp only [cP hen];exact hok,by dsimp only;omega,_,rfl,by simp only [cP hen];exact hK.step hL3 hF3⟩
     case true =>
      have hq2:=HL.out;rw [hcm,jv rfl] at hq2;clear HL
      cases gk with
      | zero=>unfold gD at hq2;simp at hq2
      | succ k =>
       unfold gD at hq2;obtain ⟨q2,h2,hq3⟩:=zN hq2;have HQ:Hid ((if eqS (txt ts q2.2) ⟨#[44]⟩ then gD ts item k (ks++[q2.1]) q2.2.next else some (ks++[q2.1],kF ts ⟨#[41]⟩ q2.2))=some q):=hq3;clear hq2 hq3;go_wp2_with (fail);refine (zqv hK.ld hcm rfl).mono ?_;rintro e w3 ⟨y,hy,rfl,hL3,hF3⟩;have hK3:=hK.step hL3 hF3;go_wp2_with (fail);refine (ih (show k<=f+1 by omega) hL3 h2).mono ?_;rintro e w4 (⟨hb4,rfl,hF4⟩|⟨hb4,v4,rfl,hl4,hL4,hF4⟩)
       ·have HS:Hid (q.2=q2.2):=by
         have:=HQ.out;rw [zX (by decide) hb4,ju (by decide)] at this;simp only [jh] at this;show _=_;rw [<- this];exact qF (by decide) hb4
        go_wp2;exact ⟨rfl,.inl ⟨by rw [HS.out];exact hb4,by rw [HS.out],(hK.fr.trans hF3).trans hF4⟩⟩
       obtain ⟨kc,yc,mc,_,rfl,ac,nc,cc,rfl⟩:=hl4.shape;have hkb:∀ g,(Value.slice a ks.length c).ownBlock=some g->w.heap.size<=g/\g<w3.heap.size:=fun g hg=>hK3.kids.blk hg
       have hK4:=hK3.step hL4 hF4;have zz:=hK4.fr.size;have z3:=hK3.fr.size
       have hlc:kC (fun b=>w.heap.size<=b/\b<w4.heap.size/\some b≠(Value.slice a ks.length c).ownBlock) w4 q2.1 (.agg #[.int .i64 kc,.string yc,.int .i64 mc,.slice ac nc cc]) :=
        hl4.to (fun b hb=>⟨by omega,hb.2,fun e=>by have:=(hkb b e.symm).2;omega⟩) (fun _ _ _=>rfl)
       obtain ⟨vs,ho,ha⟩:=hK4.kids;have HA:Hid (zR (fun b=>w.heap.size<=b/\b<w4.heap.size/\some b≠(Value.slice a ks.length c).ownBlock) w4 ks vs):=ha;have hlk:ks.length<=100001:=by omega
       clear ha;go_wp2_with (at_builtin;refine zha rfl (.tmp 16) (.tmp 19) 23 rfl w.heap.size 25 i0 (.agg #[.int .i64 0,.string ⟨#[]⟩,.int .i64 0,.slice none 0 0]) 4 56 Tryz.underlying23 hi hz0 hz1' hz2 rfl (by decide) _ _ _ rfl (ho.alloc _) ⟨w4.heap.size,0,none⟩ 1 1 [.int .i64 kc,.string yc,.int .i64 mc,.slice ac nc cc] rfl rfl (cM _ _ _ _ _ _ _ rfl) (by intro u hu;simp at hu;rcases hu with rfl | rfl | rfl | rfl<;>rfl) (by unfold maxLen;omega) (by omega) (by simp<;>omega) (by decide) ?_;intro v' w5 hown' hgrow hfr;have hK5:=KO.pushed (q:=(.int .i64 kc,.string yc,.int .i64 mc,.slice ac nc cc)) (t:=q2.1) hK4 ho HA.out hlc hown' hgrow (by rcases hfr with e | e;exact .inl e;exact .inr (by rw [e];simp)))
       go_roundg k
       case rel=>exact ⟨_,q2.2,HQ.out,by rw [jb];simp;omega,hK5⟩
       case measure=>omega
end
section
variable {w w' w0:World} {r G B:Nat} {ts:List Tok} {s:St}
theorem zqe {x:ByteArray} {f:Nat}:∀ {ks:List Tree} {s:St} {q:Tree × St},s.bad=false->zO ts f x ks s true=some q->∃ p,gD ts (qB ts) f ks s=some p/\q=(.node 18 x 0 p.1,p.2):=by
 induction f with
 | zero=>intro ks s q hb h;unfold zO at h;simp at h
 | succ f ih =>
  intro ks s q hb h;unfold zO at h;rw [hb] at h;simp only [Bool.not_false,Bool.and_self,if_true] at h;obtain ⟨q1,h1,h2⟩:=zN h;unfold gD;rw [h1];simp only [jf];unfold eat at h2;cases he:eqS (txt ts q1.2) ⟨#[44]⟩
  ·rw [he] at h2;simp only [jr,if_false] at h2 |-
   cases f with
   | zero=>unfold zO at h2;simp at h2
   | succ f =>
    unfold zO at h2;simp only [Bool.false_and,jr,if_false,jh] at h2;exact ⟨_,rfl,h2.symm⟩
  ·rw [he] at h2;simp only [if_true] at h2 |-
   have hb1:q1.2.next.bad=false:=by
    cases hb1:q1.2.bad;·exact hb1
    ·rw [zX (by decide) hb1] at he;cases he
   exact ih hb1 h2
theorem zek {x:ByteArray} {f:Nat} {q:Tree × St} (hb:(kF ts ⟨#[40]⟩ s).bad=false) (h:zT ts (f+1) x s=some q):∃ p,bH ts (qB ts) f (kF ts ⟨#[40]⟩ s)=some p/\q=(.node 18 x 0 p.1,p.2):=by
 unfold zT at h;unfold bH;cases he:eqS (txt ts (kF ts ⟨#[40]⟩ s)) ⟨#[41]⟩;·rw [he] at h;simp only [jr,if_false] at h |-;exact zqe hb h
 ·rw [he] at h;simp only [if_true,jh] at h |-;exact ⟨_,rfl,h.symm⟩
theorem zg2 {f:Nat} (ih:∀ {g:Nat},g<=f->qI r G ts 139 (qB ts g)) (hf:f<=100000) (x:ByteArray) {w:World} {s:St} {p:List Tree × St} (hL:Ld w r G ts s) (hq:bH ts (qB ts) f s=some p) : Calls Tryz.prog 136 #[.pointer (some ⟨r,0,none⟩),.string x] w (kG w r G ts (.node 18 x 0 p.1,p.2)):=by
 have c24:=kc25;have hmf:∀ (fn:Fn) (first cap:Array Value) (w:World),(Instr.makeFunc fn first cap).run Tryz.prog w=.ok (.func fn first cap) w:=fun _ _ _ _=>rfl
 have hr:=hL.lt;have hB0:=Box4.new w (.int .i64 0) (.string empty) (.int .i64 0) (.slice none 0 0) 25;go_enter Tryz.func136,Tryz.ntmps136;go_wp2_with (fail);refine (zoa (by decide) ih (fun g s q hb h=>(stuck ts g).e s q hb h) hf (hL.alloc _) hq).mono ?_;rintro e w1 (⟨hb,rfl,hF1⟩|⟨hb,hlen,kv,rfl,hK⟩);·go_wp2;exact ⟨rfl,kG.lost rfl hb ((Fr.al _ _).trans hF1)⟩
 obtain ⟨a,c,rfl⟩:=hK.kids.shape;have z1:=hK.fr.size;rw [jO] at z1;obtain ⟨q0,q1',q2,q3,t0,t1,t2,t3⟩:=hB0.fr hK.fr (by omega);go_wp2;refine jT (v:=.agg #[.int .i64 18,.string x,.int .i64 0,.slice a p.1.length c]) (by simp [results,Tryz.results136,go_sem,q0,q1',q2,q3]) rfl ?_;refine kG.fin hr ((Fr.al _ _).trans hK.fr) hK.ld (jE _) (Nat.lt_succ_self _) ?_;exact hK.kids.lies (fun b hb=>⟨by have:=hb.1;rw [jO] at this;exact this,hb.2.1⟩) (fun g hg=>by have:=hK.kids.blk hg;rw [jO] at this;exact this) (by omega)
theorem zla (hL:Ld w r G ts s) (hlt:s.i<ts.length):gO ts s=(ts[s.i].kind==2):=by unfold gO;rw [zal hL.ok,dG hlt]
theorem zse (hlt:¬ s.i<ts.length):gO ts s=false:=by
 unfold gO xY;rw [List.getElem?_eq_none (by omega)];cases s.bad<;>rfl
def zg1 (ts:List Tok) (f:Nat) (s:St):Option (Tree × St) :=
 if eqS (txt ts s) ⟨#[40]⟩ then zJ ts f s
 else if gO ts s then some (zK ts s)
 else if eqS (txt ts (whole ts s).2) ⟨#[40]⟩ then zT ts f (whole ts s).1 (whole ts s).2 else qX ts f (whole ts s).1 (whole ts s).2
theorem znb (hL:Ld w r G ts s) (x:ByteArray) (hx:[x].all vQ=true) {b:Bool} (h:eqS (txt ts s) x=b) {M:Nat} {T:TypeId} (hM:M=w.heap.size) : Calls Tryz.prog 81 #[.pointer (some ⟨r,0,none⟩),.slice (some ⟨M,0,none⟩) 1 1] (w.alloc (.cells #[.string x] T)) fun e w'=>e=.returned (.bool b)/\Ld w' r G ts s/\Fr r w w' :=
 (dO (hL.alloc _) [x] M 1 (by simp) hx (yE.one w x T hM)).mono fun e w' ⟨h1,h2⟩=>⟨by rw [h1,zb5 h],by rw [h2];exact hL.alloc _,by rw [h2];exact Fr.al _ _⟩
theorem kG.hand {w3:World} {q:Tree × St} {x0 x1 x2 x3:Value} {w2:World} (hr:r<w.heap.size) (hF:Fr r w w2) (hz:w.heap.size<w2.heap.size) (hb:q.2.bad=false) (hl:kC (fun b=>w2.heap.size<=b/\b<w3.heap.size) w3 q.1 (.agg #[x0,x1,x2,x3])) (hL3:Ld w3 r G ts q.2) (hF3:Fr r w2 w3) : kG w r G ts q (.returned (.agg #[x0,x1,x2,x3])) ((((w3.setCell ⟨w.heap.size,0,none⟩ x0).setCell ⟨w.heap.size,1,none⟩ x1).setCell ⟨w.heap.size,2,none⟩ x2).setCell ⟨w.heap.size,3,none⟩ x3) :=
 kG.fin (t:=q.1) (s3:=q.2) hr (hF.trans hF3) hL3 (jE _) hz hl
theorem ya6 {f:Nat} (hf:f<=100000) (ihA:qI r G ts 138 (zJ ts f)) (ih0:∀ {g:Nat},g<f->qI r G ts 139 (qB ts g)):qI r G ts 168 (zg1 ts f):=by
 intro w s q hL hq;have c24:=kc25;have c29:=kc89;have hr:=hL.lt;have hB0:=Box4.new w (.int .i64 0) (.string empty) (.int .i64 0) (.slice none 0 0) 25;have hL0:=hL.alloc (.cells #[.int .i64 0,.string empty,.int .i64 0,.slice none 0 0] 25);have hlen:=hL.len;unfold zg1 at hq;cases hp:eqS (txt ts s) ⟨#[40]⟩
 case true =>
  rw [hp,jv rfl] at hq;have hH:=znb (T:=9) hL0 ⟨#[40]⟩ (by decide) hp (M:=w.heap.size+1) (by simp);go_enter Tryz.func168,Tryz.ntmps168;go_wp2_with (fail);refine hH.mono ?_;rintro e w1 ⟨rfl,hL1,hF1⟩;have z1:=hF1.size;rw [jO] at z1;go_wp2_with (fail);refine (ihA hL1 hq).mono ?_;rintro e w9 (⟨hb9,rfl,hF9⟩|⟨hb9,v9,rfl,hl9,hL9,hF9⟩);·go_wp2;exact ⟨rfl,kG.lost rfl hb9 (((Fr.al _ _).trans hF1).trans hF9)⟩
  obtain ⟨k9,x9,m9,_,rfl,a9,n9,c9,rfl⟩:=hl9.shape;obtain ⟨q0,q1',q2,q3,t0,t1,t2,t3⟩:=(hB0.fr hF1 (by omega)).fr hF9 (by omega);go_wp2;exact jT (v:=.agg #[.int .i64 k9,.string x9,.int .i64 m9,.slice a9 n9 c9]) (by simp [results,Tryz.results168,go_sem,q0,q1',q2,q3]) rfl (kG.hand hr ((Fr.al _ _).trans hF1) (by omega) hb9 hl9 hL9 hF9)
 case false =>
  rw [hp,ju (by decide)] at hq;have hH:=znb (T:=9) hL0 ⟨#[40]⟩ (by decide) hp (M:=w.heap.size+1) (by simp);cases hn:gO ts s
  case true =>
   rw [hn,jv rfl] at hq;simp only [jh] at hq;subst hq
   have hlt:s.i<ts.length:=by
    rcases jL s.i ts.length with h | h
    ·exact h
    ·rw [zse (by omega)] at hn;cases hn
   have hk:=(zla hL hlt).symm.trans hn;go_enter Tryz.func168,Tryz.ntmps168;go_wp2_with (fail);refine hH.mono ?_;rintro e w1 ⟨rfl,hL1,hF1⟩;have z1:=hF1.size;rw [jO] at z1;obtain ⟨a,cp,h0,h1,h2⟩:=hL1.c0;obtain rfl:=h2 hlt;obtain ⟨y0,y1,y2⟩:=hL1.tok s.i hlt;have hnn:0<ts.length - s.i:=by omega
   have hnn':ts.length - s.i<=3000:=by omega
   generalize ts[s.i].kind=tk at *;generalize ts.length - s.i=nl at *;go_wp2_with (fail);refine (zfp hL1).mono ?_;rintro e w9 (⟨hb9,rfl,hF9⟩|⟨hb9,v9,rfl,hl9,hL9,hF9⟩);·go_wp2;exact ⟨rfl,kG.lost rfl hb9 (((Fr.al _ _).trans hF1).trans hF9)⟩
   obtain ⟨k9,x9,m9,_,rfl,a9,n9,c9,rfl⟩:=hl9.shape;obtain ⟨q0,q1',q2,q3,t0,t1,t2,t3⟩:=(hB0.fr hF1 (by omega)).fr hF9 (by omega);go_wp2;exact jT (v:=.agg #[.int .i64 k9,.string x9,.int .i64 m9,.slice a9 n9 c9]) (by simp [results,Tryz.results168,go_sem,q0,q1',q2,q3]) rfl (kG.hand hr ((Fr.al _ _).trans hF1) (by omega) hb9 hl9 hL9 hF9)
  case false =>
   rw [hn,ju (by decide)] at hq
   obtain ⟨f,rfl⟩:∃ f',f=f'+1:=by
    cases f with
    | zero=>unfold zT qX at hq;simp at hq
    | succ f=>exact ⟨f,rfl⟩
   have ih:∀ {g:Nat},g<=f->qI r G ts 139 (qB ts g):=fun h=>ih0 (by omega)
   have hf':f<=100000:=by omega
   by_cases hlt:s.i<ts.length
   ·have hk:=(zla hL hlt).symm.trans hn;go_enter Tryz.func168,Tryz.ntmps168;go_wp2_with (fail);refine hH.mono ?_;rintro e w1 ⟨rfl,hL1,hF1⟩;have z1:=hF1.size;rw [jO] at z1;obtain ⟨a,cp,h0,h1,h2⟩:=hL1.c0;obtain rfl:=h2 hlt;obtain ⟨y0,y1,y2⟩:=hL1.tok s.i hlt;have hnn:0<ts.length - s.i:=by omega
    have hnn':ts.length - s.i<=3000:=by omega
    generalize ts[s.i].kind=tk at *;generalize ts.length - s.i=nl at *;go_wp2_with (fail);refine (zbh hL1).mono ?_;rintro e w2 (⟨hb2,rfl,hF2⟩|⟨hb2,rfl,hL2,hF2⟩)
    ·have HS:Hid (q.2=(whole ts s).2):=by
      rw [zX (by decide) hb2,ju (by decide)] at hq;exact (stuck ts (f+1)).p _ _ _ hb2 hq
     go_wp2;exact ⟨rfl,kG.lost HS.out hb2 (((Fr.al _ _).trans hF1).trans hF2)⟩
    have z2:=hF2.size;cases hp2:eqS (txt ts (whole ts s).2) ⟨#[40]⟩
    case true =>
     rw [hp2,jv rfl] at hq;have em:=cP hp2;obtain ⟨p,hp3,rfl⟩:=zek (by rw [em];exact hb2) hq;rw [em] at hp3;clear em;go_wp2_with (fail);refine (xO hL2 ⟨#[40]⟩ (by decide) hp2 rfl).mono ?_;rintro e w3 ⟨rfl,hL3,hF3⟩;have z3:=hF3.size;go_wp2_with (fail);refine (zg2 ih hf' _ hL3 hp3).mono ?_;rintro e w9 (⟨hb9,rfl,hF9⟩|⟨hb9,v9,rfl,hl9,hL9,hF9⟩);·go_wp2;exact ⟨rfl,kG.lost rfl hb9 (((((Fr.al _ _).trans hF1).trans hF2).trans hF3).trans hF9)⟩
     obtain ⟨k9,x9,m9,_,rfl,a9,n9,c9,rfl⟩:=hl9.shape;obtain ⟨q0,q1',q2,q3,t0,t1,t2,t3⟩:=(((hB0.fr hF1 (by omega)).fr hF2 (by omega)).fr hF3 (by omega)).fr hF9 (by omega);go_wp2;exact jT (v:=.agg #[.int .i64 k9,.string x9,.int .i64 m9,.slice a9 n9 c9]) (by simp [results,Tryz.results168,go_sem,q0,q1',q2,q3]) rfl (kG.hand hr ((((Fr.al _ _).trans hF1).trans hF2).trans hF3) (by omega) hb9 hl9 hL9 hF9)
    case false =>
     rw [hp2,ju (by decide)] at hq;go_wp2_with (fail);refine (xP hL2 ⟨#[40]⟩ (by decide) hp2 rfl).mono ?_;rintro e w3 ⟨rfl,hL3,hF3⟩;have z3:=hF3.size;go_wp2_with (fail);refine (zgx (ih (jE _)) _ hL3 hq).mono ?_;rintro e w9 (⟨hb9,rfl,hF9⟩|⟨hb9,v9,rfl,hl9,hL9,hF9⟩);·go_wp2;exact ⟨rfl,kG.lost rfl hb9 (((((Fr.al _ _).trans hF1).trans hF2).trans hF3).trans hF9)⟩
     obtain ⟨k9,x9,m9,_,rfl,a9,n9,c9,rfl⟩:=hl9.shape;obtain ⟨q0,q1',q2,q3,t0,t1,t2,t3⟩:=(((hB0.fr hF1 (by omega)).fr hF2 (by omega)).fr hF3 (by omega)).fr hF9 (by omega);go_wp2;exact jT (v:=.agg #[.int .i64 k9,.string x9,.int .i64 m9,.slice a9 n9 c9]) (by simp [results,Tryz.results168,go_sem,q0,q1',q2,q3]) rfl (kG.hand hr ((((Fr.al _ _).trans hF1).trans hF2).trans hF3) (by omega) hb9 hl9 hL9 hF9)
   ·go_enter Tryz.func168,Tryz.ntmps168;go_wp2_with (fail);refine hH.mono ?_;rintro e w1 ⟨rfl,hL1,hF1⟩;have z1:=hF1.size;rw [jO] at z1;obtain ⟨a,cp,h0,h1,h2⟩:=hL1.c0;have hnn:ts.length - s.i=0:=by omega
    rw [hnn] at h0;go_wp2_with (fail);refine (zbh hL1).mono ?_;rintro e w2 (⟨hb2,rfl,hF2⟩|⟨hb2,rfl,hL2,hF2⟩)
    ·have HS:Hid (q.2=(whole ts s).2):=by
      rw [zX (by decide) hb2,ju (by decide)] at hq;exact (stuck ts (f+1)).p _ _ _ hb2 hq
     go_wp2;exact ⟨rfl,kG.lost HS.out hb2 (((Fr.al _ _).trans hF1).trans hF2)⟩
    have z2:=hF2.size;cases hp2:eqS (txt ts (whole ts s).2) ⟨#[40]⟩
    case true =>
     rw [hp2,jv rfl] at hq;have em:=cP hp2;obtain ⟨p,hp3,rfl⟩:=zek (by rw [em];exact hb2) hq;rw [em] at hp3;clear em;go_wp2_with (fail);refine (xO hL2 ⟨#[40]⟩ (by decide) hp2 rfl).mono ?_;rintro e w3 ⟨rfl,hL3,hF3⟩;have z3:=hF3.size;go_wp2_with (fail);refine (zg2 ih hf' _ hL3 hp3).mono ?_;rintro e w9 (⟨hb9,rfl,hF9⟩|⟨hb9,v9,rfl,hl9,hL9,hF9⟩);·go_wp2;exact ⟨rfl,kG.lost rfl hb9 (((((Fr.al _ _).trans hF1).trans hF2).trans hF3).trans hF9)⟩
     obtain ⟨k9,x9,m9,_,rfl,a9,n9,c9,rfl⟩:=hl9.shape;obtain ⟨q0,q1',q2,q3,t0,t1,t2,t3⟩:=(((hB0.fr hF1 (by omega)).fr hF2 (by omega)).fr hF3 (by omega)).fr hF9 (by omega);go_wp2;exact jT (v:=.agg #[.int .i64 k9,.string x9,.int .i64 m9,.slice a9 n9 c9]) (by simp [results,Tryz.results168,go_sem,q0,q1',q2,q3]) rfl (kG.hand hr ((((Fr.al _ _).trans hF1).trans hF2).trans hF3) (by omega) hb9 hl9 hL9 hF9)
    case false =>
     rw [hp2,ju (by decide)] at hq;go_wp2_with (fail);refine (xP hL2 ⟨#[40]⟩ (by decide) hp2 rfl).mono ?_;rintro e w3 ⟨rfl,hL3,hF3⟩;have z3:=hF3.size;go_wp2_with (fail);refine (zgx (ih (jE _)) _ hL3 hq).mono ?_;rintro e w9 (⟨hb9,rfl,hF9⟩|⟨hb9,v9,rfl,hl9,hL9,hF9⟩);·go_wp2;exact ⟨rfl,kG.lost rfl hb9 (((((Fr.al _ _).trans hF1).trans hF2).trans hF3).trans hF9)⟩
     obtain ⟨k9,x9,m9,_,rfl,a9,n9,c9,rfl⟩:=hl9.shape;obtain ⟨q0,q1',q2,q3,t0,t1,t2,t3⟩:=(((hB0.fr hF1 (by omega)).fr hF2 (by omega)).fr hF3 (by omega)).fr hF9 (by omega);go_wp2;exact jT (v:=.agg #[.int .i64 k9,.string x9,.int .i64 m9,.slice a9 n9 c9]) (by simp [results,Tryz.results168,go_sem,q0,q1',q2,q3]) rfl (kG.hand hr ((((Fr.al _ _).trans hF1).trans hF2).trans hF3) (by omega) hb9 hl9 hL9 hF9)
theorem zr3 {f:Nat} (ihU:qI r G ts 167 (zF ts f)) (ihA:qI r G ts 168 (zg1 ts f)):qI r G ts 167 (zF ts (f+1)):=by
 intro w s q hL hq;have c24:=kc25;have hr:=hL.lt;have hB0:=Box4.new w (.int .i64 0) (.string empty) (.int .i64 0) (.slice none 0 0) 25;have hL0:=hL.alloc (.cells #[.int .i64 0,.string empty,.int .i64 0,.slice none 0 0] 25);unfold zF at hq;cases hm:eqS (txt ts s) ⟨#[45]⟩
 case true =>
  rw [hm,jv rfl] at hq;obtain ⟨q1,h1,h2⟩:=zN hq;simp only [jh] at h2;subst h2;have hE:=xO (T:=9) hL0 ⟨#[45]⟩ (by decide) hm (M:=w.heap.size+1) (by simp);go_enter Tryz.func167,Tryz.ntmps167;go_wp2_with (fail);refine hE.mono ?_;rintro e w1 ⟨rfl,hL1,hF1⟩;have z1:=hF1.size;rw [jO] at z1;go_wp2_with (fail);refine (ihU hL1 h1).mono ?_;rintro e w2 (⟨hb2,rfl,hF2⟩|⟨hb2,v2,rfl,hl2,hL2,hF2⟩);·go_wp2;exact ⟨rfl,kG.lost rfl hb2 (((Fr.al _ _).trans hF1).trans hF2)⟩
  obtain ⟨k,y,m,_,rfl,a,n,c,rfl⟩:=hl2.shape;have z2:=hF2.size;have hz:w.heap.size<w2.heap.size:=by omega
  obtain ⟨q0,q1',q2,q3,t0,t1,t2,t3⟩:=(hB0.fr hF1 (by omega)).fr hF2 (by omega);go_wp2;refine jT (v:=.agg #[.int .i64 20,.string empty,.int .i64 0,.slice (some ⟨w2.heap.size,0,none⟩) 1 1]) (by simp [results,Tryz.results167,go_sem,q0,q1',q2,q3,hz,empty]) rfl ?_;have hput:=Fr.put w2 w.heap.size (.int .i64 20) (.string empty) (.int .i64 0) (.slice (some ⟨w2.heap.size,0,none⟩) 1 1);have hl3:=(hl2.fr (show w.heap.size<w1.heap.size by omega) hput).low (show w.heap.size<=w1.heap.size by omega);exact .inr ⟨hb2,_,rfl,hl3.rowed (by simp;omega) (by simp),(hL2.put4 (by omega) _ _ _ _).alloc _,((((Fr.al _ _).trans hF1).trans hF2).put4 (jE _) _ _ _ _).alloc _⟩
 case false =>
  rw [hm,ju (by decide)] at hq;have hE:=xP (T:=9) hL0 ⟨#[45]⟩ (by decide) hm (M:=w.heap.size+1) (by simp);cases hx:eqS (txt ts s) ⟨#[33]⟩
  case true =>
   rw [hx,jv rfl] at hq;obtain ⟨q1,h1,h2⟩:=zN hq;simp only [jh] at h2;subst h2;go_enter Tryz.func167,Tryz.ntmps167;go_wp2_with (fail);refine hE.mono ?_;rintro e w0 ⟨rfl,hL00,hF0⟩;go_wp2_with (fail);refine (xO hL00 ⟨#[33]⟩ (by decide) hx rfl).mono ?_;rintro e w1 ⟨rfl,hL1,hF1'⟩;have hF1:=hF0.trans hF1';have z1:=hF1.size;rw [jO] at z1;go_wp2_with (fail);refine (ihU hL1 h1).mono ?_;rintro e w2 (⟨hb2,rfl,hF2⟩|⟨hb2,v2,rfl,hl2,hL2,hF2⟩);·go_wp2;exact ⟨rfl,kG.lost rfl hb2 (((Fr.al _ _).trans hF1).trans hF2)⟩
   obtain ⟨k,y,m,_,rfl,a,n,c,rfl⟩:=hl2.shape;have z2:=hF2.size;have hz:w.heap.size<w2.heap.size:=by omega
   obtain ⟨q0,q1',q2,q3,t0,t1,t2,t3⟩:=(hB0.fr hF1 (by omega)).fr hF2 (by omega);go_wp2;refine jT (v:=.agg #[.int .i64 21,.string empty,.int .i64 0,.slice (some ⟨w2.heap.size,0,none⟩) 1 1]) (by simp [results,Tryz.results167,go_sem,q0,q1',q2,q3,hz,empty]) rfl ?_;have hput:=Fr.put w2 w.heap.size (.int .i64 21) (.string empty) (.int .i64 0) (.slice (some ⟨w2.heap.size,0,none⟩) 1 1);have hl3:=(hl2.fr (show w.heap.size<w1.heap.size by omega) hput).low (show w.heap.size<=w1.heap.size by omega);exact .inr ⟨hb2,_,rfl,hl3.rowed (by simp;omega) (by simp),(hL2.put4 (by omega) _ _ _ _).alloc _,((((Fr.al _ _).trans hF1).trans hF2).put4 (jE _) _ _ _ _).alloc _⟩
  case false =>
   rw [hx,ju (by decide)] at hq;go_enter Tryz.func167,Tryz.ntmps167;go_wp2_with (fail);refine hE.mono ?_;rintro e w0 ⟨rfl,hL00,hF0⟩;go_wp2_with (fail);refine (xP hL00 ⟨#[33]⟩ (by decide) hx rfl).mono ?_;rintro e w1 ⟨rfl,hL1,hF1'⟩;have hF1:=hF0.trans hF1';have z1:=hF1.size;rw [jO] at z1;go_wp2_with (fail);refine (ihA hL1 (q:=q) hq).mono ?_;rintro e w9 (⟨hb9,rfl,hF9⟩|⟨hb9,v9,rfl,hl9,hL9,hF9⟩);·go_wp2;exact ⟨rfl,kG.lost rfl hb9 (((Fr.al _ _).trans hF1).trans hF9)⟩
   obtain ⟨k9,x9,m9,_,rfl,a9,n9,c9,rfl⟩:=hl9.shape;obtain ⟨q0,q1',q2,q3,t0,t1,t2,t3⟩:=(hB0.fr hF1 (by omega)).fr hF9 (by omega);go_wp2;exact jT (v:=.agg #[.int .i64 k9,.string x9,.int .i64 m9,.slice a9 n9 c9]) (by simp [results,Tryz.results167,go_sem,q0,q1',q2,q3]) rfl (kG.hand hr ((Fr.al _ _).trans hF1) (by omega) hb9 hl9 hL9 hF9)
end
end syn
namespace syn
open Go.RowKit
open lexs (Tok Fine)
section
variable {r G:Nat} {ts:List Tok}
structure GoodX (r G:Nat) (ts:List Tok) (f:Nat):Prop where
 e:qI r G ts 139 (qB ts f)
 b1:qI r G ts 152 (qK ts f 1)
 b2:qI r G ts 162 (qK ts f 2)
 b3:qI r G ts 167 (qK ts f 3)
 u:qI r G ts 167 (zF ts f)
 a:qI r G ts 138 (zJ ts f)
 p:∀ (x:ByteArray) {w:World} {s:St} {q:Tree × St},Ld w r G ts s->qX ts f x s=some q->Calls Tryz.prog 140 #[.pointer (some ⟨r,0,none⟩),.string x] w (kG w r G ts q)
theorem zy2:GoodX r G ts 0 :=
 ⟨fun {w s q} _ h=>by simp [qB] at h,fun {w s q} _ h=>by simp [qK] at h,fun {w s q} _ h=>by simp [qK] at h,fun {w s q} _ h=>by simp [qK] at h,fun {w s q} _ h=>by simp [zF] at h,fun {w s q} _ h=>by simp [zJ] at h,fun x {w s q} _ h=>by simp [qX] at h⟩
theorem zn9 (r G:Nat) (ts:List Tok) (F:Nat) (hF:F<=100000):∀ {f:Nat},f<=F->GoodX r G ts f:=by
 induction F with
 | zero => intro f hf;obtain rfl:f=0:=by omega
           exact zy2
 | succ F ih =>
  intro f hf;have IH:∀ {g:Nat},g<=F->GoodX r G ts g:=ih (by omega);rcases jL f (F+1) with h | h
  ·exact IH (by omega)
  obtain rfl:f=F+1:=by omega
  refine ⟨?_,ybc fun h=>(IH h).b2,zun fun h=>(IH h).b3,?_,zr3 (IH (jE _)).u (ya6 (by omega) (IH (jE _)).a (fun h=>(IH (by omega)).e)),zsp (IH (jE _)).e,fun x {w s q} hL hq=>zgx (IH (jE _)).e x hL hq⟩
  ·cases F with
   | zero =>
    intro w s q hL h;unfold qB at h;rw [hL.ok] at h
    simp [qK] at h
   | succ F=>exact yau fun h=>(IH (by omega)).b1
  ·intro w s q hL h;unfold qK at h;rw [jv (by decide)] at h;exact (IH (jE _)).u hL h
end
end syn
namespace syn
open Go.RowKit
open lexs (Tok Fine own_shape)
section
variable {w w' w0:World} {r G B:Nat} {ts:List Tok} {s:St}
def zdp (ts:List Tok) (f:Nat) (s:St):Option (Tree × St) :=
 (qB ts f (kF ts ⟨#[61]⟩ (name ts (label ts s).2).2)).bind fun x=>some (.node 7 (name ts (label ts s).2).1 (label ts s).1 [x.1],x.2)
def zd4 (ts:List Tok) (f:Nat) (s:St):Option (Tree × St) :=
 (qX ts f (whole ts s).1 (whole ts s).2).bind fun x=>(qB ts f (kF ts ⟨#[61]⟩ x.2)).bind fun y=>some (.node 8 empty 0 [x.1,y.1],y.2)
theorem zz4 {f:Nat} (ih:qI r G ts 139 (qB ts f)):qI r G ts 134 (zdp ts f):=by
 intro w s q hL hq;have c24:=kc25;have hr:=hL.lt;have hB0:=Box4.new w (.int .i64 0) (.string empty) (.int .i64 0) (.slice none 0 0) 25;unfold zdp at hq;obtain ⟨q1,h1,h2⟩:=zN hq;simp only [jh] at h2;subst h2;clear hq
 have S1:Hid ((label ts s).2.bad=true->q1.2=(label ts s).2):=fun hb=>by
  have e1:=fD (ts:=ts) hb;rw [e1,qF (by decide) hb] at h1;exact (stuck ts f).e _ _ hb h1
 have S2:Hid ((name ts (label ts s).2).2.bad=true->q1.2=(name ts (label ts s).2).2):=fun hb=>by
  rw [qF (by decide) hb] at h1;exact (stuck ts f).e _ _ hb h1
 have S3:Hid ((kF ts ⟨#[61]⟩ (name ts (label ts s).2).2).bad=true->q1.2=kF ts ⟨#[61]⟩ (name ts (label ts s).2).2):=fun hb=>(stuck ts f).e _ _ hb h1
 have hLab:=dZ (hL.alloc (.cells #[.int .i64 0,.string empty,.int .i64 0,.slice none 0 0] 25));generalize label ts s=lb at *;obtain ⟨lm,ls⟩:=lb;have hNam:=fun (w:World) (h:Ld w r G ts ls)=>fR h
 simp only at *;generalize name ts ls=nb at *;obtain ⟨nx,ns⟩:=nb;simp only at *;go_enter Tryz.func134,Tryz.ntmps134;go_wp2_with (fail);refine hLab.mono ?_;rintro e w1 (⟨hb,rfl,hF1⟩|⟨hb,rfl,hL1,hF1⟩);·go_wp2;exact ⟨rfl,kG.lost (S1.out hb) hb ((Fr.al _ _).trans hF1)⟩
 go_wp2_with (fail);refine (hNam _ hL1).mono ?_;rintro e w2 (⟨hb2,rfl,hF2⟩|⟨hb2,rfl,hL2,hF2⟩);·go_wp2;exact ⟨rfl,kG.lost (S2.out hb2) hb2 (((Fr.al _ _).trans hF1).trans hF2)⟩
 go_wp2_with (fail);refine (uV (hL2.alloc _) ⟨#[61]⟩ (by decide) (by simp)).mono ?_;rintro e w3 ⟨y3,⟨hb3,rfl,hF3⟩|⟨hb3,rfl,hL3,hF3⟩⟩;·go_wp2;exact ⟨rfl,kG.lost (S3.out hb3) hb3 ((((Fr.al _ _).trans hF1).trans hF2).trans ((Fr.al _ _).trans hF3))⟩
 go_wp2_with (fail);refine (ih hL3 h1).mono ?_;rintro e w4 (⟨hb4,rfl,hF4⟩|⟨hb4,v4,rfl,hl4,hL4,hF4⟩);·go_wp2;exact ⟨rfl,kG.lost rfl hb4 (((((Fr.al _ _).trans hF1).trans hF2).trans ((Fr.al _ _).trans hF3)).trans hF4)⟩
 obtain ⟨k,x,m,_,rfl,a,n,c,rfl⟩:=hl4.shape;have z1:=hF1.size;have z2:=hF2.size;have z3:=hF3.size;have z4:=hF4.size;rw [jO] at z1 z3;obtain ⟨q0,q1',q2,q3,t0,t1,t2,t3⟩:=((((hB0.fr hF1 (by omega)).fr hF2 (by omega)).alloc _).fr hF3 (by omega)).fr hF4 (by omega);obtain ⟨p0,p1,p2,p3,u0,u1,u2,u3⟩:=((Box4.new w2 (.int .i64 7) (.string nx) (.int .i64 lm) (.slice none 0 0) 25).fr hF3 (by omega)).fr hF4 (by omega);have hz0:w.heap.size<w4.heap.size:=by omega
 have hz2:w2.heap.size<w4.heap.size:=by omega
 go_wp2;refine jT (v:=.agg #[.int .i64 7,.string nx,.int .i64 lm,.slice (some ⟨w4.heap.size,0,none⟩) 1 1]) (by simp [results,Tryz.results134,go_sem,q0,q1',q2,q3,hz0,hz2]) rfl ?_;have hFw:Fr r w w4:=((((Fr.al _ _).trans hF1).trans hF2).trans ((Fr.al _ _).trans hF3)).trans hF4;have l5:=hl4.frP (x:=w2.heap.size) ((Fr.refl w2.heap.size w4).set 3 (.slice (some ⟨w4.heap.size,0,none⟩) 1 1)) (fun b hb=>⟨hb.2,by omega⟩) (fun b hb=>(⟨hb.1,by rw [jQ];exact hb.2⟩:w3.heap.size<=b/\b<(w4.setCell ⟨w2.heap.size,3,none⟩ (.slice (some ⟨w4.heap.size,0,none⟩) 1 1)).heap.size));have hput:=Fr.put (w4.setCell ⟨w2.heap.size,3,none⟩ (.slice (some ⟨w4.heap.size,0,none⟩) 1 1)) w.heap.size (.int .i64 7) (.string nx) (.int .i64 lm) (.slice (some ⟨w4.heap.size,0,none⟩) 1 1);exact .inr ⟨hb4,_,rfl,((l5.fr (show w.heap.size<w3.heap.size by omega) hput).low (show w.heap.size<=w3.heap.size by omega)).rowed (by simp;omega) (by simp),((hL4.set (by omega) 3 _).put4 (by omega) _ _ _ _).alloc _,((hFw.setNew (by omega) _).put4 (jE _) _ _ _ _).alloc _⟩
theorem ya8 {f:Nat} (ihP:∀ (x:ByteArray) {w:World} {s:St} {q:Tree × St},Ld w r G ts s->qX ts f x s=some q->Calls Tryz.prog 140 #[.pointer (some ⟨r,0,none⟩),.string x] w (kG w r G ts q)) (ih:qI r G ts 139 (qB ts f)):qI r G ts 141 (zd4 ts f):=by
 intro w s q hL hq;have c24:=kc25;have hr:=hL.lt;have hB0:=Box4.new w (.int .i64 0) (.string empty) (.int .i64 0) (.slice none 0 0) 25;unfold zd4 at hq;obtain ⟨q1,h1,h2⟩:=zN hq;obtain ⟨q2,h3,h4⟩:=zN h2;simp only [jh] at h4;subst h4;clear hq h2
 have S2:Hid (q1.2.bad=true->q2.2=q1.2):=fun hb=>by
  rw [qF (by decide) hb] at h3;exact (stuck ts f).e _ _ hb h3
 have S1:Hid ((whole ts s).2.bad=true->q2.2=(whole ts s).2):=fun hb=>by
  have e1:=(stuck ts f).p _ _ _ hb h1;rw [S2.out (by rw [e1];exact hb),e1]
 have S3:Hid ((kF ts ⟨#[61]⟩ q1.2).bad=true->q2.2=kF ts ⟨#[61]⟩ q1.2):=fun hb=>(stuck ts f).e _ _ hb h3
 have hLab:=zbh (hL.alloc (.cells #[.int .i64 0,.string empty,.int .i64 0,.slice none 0 0] 25));generalize whole ts s=lb at *;obtain ⟨nx,ns⟩:=lb;simp only at *;go_enter Tryz.func141,Tryz.ntmps141;go_wp2_with (fail);refine hLab.mono ?_;rintro e w1 (⟨hb,rfl,hF1⟩|⟨hb,rfl,hL1,hF1⟩);·go_wp2;exact ⟨rfl,kG.lost (S1.out hb) hb ((Fr.al _ _).trans hF1)⟩
 go_wp2_with (fail);refine (ihP nx hL1 h1).mono ?_;rintro e w2 (⟨hb2,rfl,hF2⟩|⟨hb2,v2,rfl,hl2,hL2,hF2⟩);·go_wp2;exact ⟨rfl,kG.lost (S2.out hb2) hb2 (((Fr.al _ _).trans hF1).trans hF2)⟩
 obtain ⟨k,x,m,_,rfl,a,n,c,rfl⟩:=hl2.shape;go_wp2_with (fail);refine (uV (hL2.alloc _) ⟨#[61]⟩ (by decide) (by simp)).mono ?_;rintro e w3 ⟨y3,⟨hb3,rfl,hF3⟩|⟨hb3,rfl,hL3,hF3⟩⟩;·go_wp2;exact ⟨rfl,kG.lost (S3.out hb3) hb3 ((((Fr.al _ _).trans hF1).trans hF2).trans ((Fr.al _ _).trans hF3))⟩
 have z1:=hF1.size;have z2:=hF2.size;have z3:=hF3.size;rw [jO] at z1 z3;have hB1:=(Box4.new w2 (.int .i64 k) (.string x) (.int .i64 m) (.slice a n c) 25).fr hF3 (by omega);have hB3:=(((hB0.fr hF1 (by omega)).fr hF2 (by omega)).alloc _).fr hF3 (by omega);obtain ⟨p0,p1,p2,p3,u0,u1,u2,u3⟩:=id hB1;have hFw:Fr r w w3:=(((Fr.al _ _).trans hF1).trans hF2).trans ((Fr.al _ _).trans hF3);by_cases hbq:q2.2.bad=true
 ·go_wp2;refine wp_region_any (by kernel_rfl) ?_;change wpAny _ _ _ _ _ _ _ (World.drew _);refine tkQ 1 (.pointer (some ⟨r,0,none⟩)) ?_;refine wpAny_ready (rs:=[0,2]) (by kernel_rfl) (by simp) ?_;refine AllReady.cons rfl (fun K hK=>?_) ?_
  ·go_simp;refine hK _ _ ?_;clear hK K;refine one0 2 fun K hK=>?_
   go_simp;go_at_call 139;refine (ih.lost (hL3.drewN 1) h3 hbq).mono ?_;rintro e w4 ⟨rfl,hF4⟩;go_wp2;exact ⟨rfl,kG.lost rfl hbq ((hFw.drewN 1).trans hF4)⟩
  refine AllReady.cons rfl (fun K hK=>?_) AllReady.nil;go_simp;go_at_call 139;refine (ih.lost (hL3.drewN 1) h3 hbq).mono ?_;rintro e w4 ⟨rfl,hF4⟩;go_wp2;exact ⟨rfl,kG.lost rfl hbq ((hFw.drewN 1).trans hF4)⟩
 ·have hbq':q2.2.bad=false:=by simpa using hbq
  go_wp2
  go_region_with (go_at_call 139;refine (ih.fine (hL3.drewN 1) h3 hbq').mono ?_;rintro e w4 ⟨v4,rfl,hl4,hL4,hF4⟩;obtain ⟨k4,x4,m4,_,rfl,a4,n4,c4,rfl⟩:=hl4.shape;obtain ⟨g0,g1,g2,g3,_,_,_,_⟩:=(hB1.drewN 1).fr hF4 (by omega);obtain ⟨f0,f1,f2,f3,i0,i1,i2,i3⟩:=(hB3.drewN 1).fr hF4 (by omega);have y4:w.heap.size<w4.heap.size:=((hB3.drewN 1).fr hF4 (by omega)).lt)
  all_goals
   go_wp2;refine jT (v:=.agg #[.int .i64 8,.string empty,.int .i64 0,.slice (some ⟨w4.heap.size,0,none⟩) 2 2]) (by simp [results,Tryz.results141,go_sem,f0,f1,f2,f3,y4,empty]) rfl ?_;have hF34:Fr r w3 w4:=((Fr.refl r w3).drewN 1).trans hF4;have y3':=hF34.size
   have m3':kC (fun b=>w.heap.size<b/\b<w4.heap.size) w4 q2.1 (.agg #[.int .i64 k4,.string x4,.int .i64 m4,.slice a4 n4 c4]):=hl4.to (fun b hb=>by
    have h1:w3.heap.size<=b:=hb.1
    exact ⟨by omega,hb.2⟩) (fun _ _ _=>rfl)
   have n3':kC (fun b=>w.heap.size<b/\b<w4.heap.size) w4 q1.1 (.agg #[.int .i64 k,.string x,.int .i64 m,.slice a n c]):=hl2.frP (x:=r) (((Fr.al _ _).trans hF3).trans hF34) (fun b hb=>⟨hb.2,by omega⟩) (fun b hb=>⟨by omega,by omega⟩);have hput:=Fr.put w4 w.heap.size (.int .i64 8) (.string empty) (.int .i64 0) (.slice (some ⟨w4.heap.size,0,none⟩) 2 2);have n4':=n3'.frP (x:=w.heap.size) hput (fun b hb=>⟨hb.2,by omega⟩) (fun b hb=>hb);have m4':=m3'.frP (x:=w.heap.size) hput (fun b hb=>⟨hb.2,by omega⟩) (fun b hb=>hb);exact .inr ⟨hbq',_,rfl,n4'.rowed2P m4' (fun b hb=>by simpa using hb.2) (fun b hb=>⟨by omega,by simp;omega⟩) (by simp) ⟨by omega,by simp⟩,(hL4.put4 (by omega) _ _ _ _).alloc _,((hFw.trans hF34).put4 (jE _) _ _ _ _).alloc _⟩
end
end syn
end Go.Proofs.YtaadmdlbkhcfnaaGreatDoor
