/- What the program's sum, product and expr answer, once those that they call do: contracts. -/
import Derived.Test.YtfopddgjdaoidaaGreatDoorNR02
set_option linter.unusedVariables false
set_option linter.unusedSimpArgs false
set_option maxRecDepth 100000
namespace Go.Proofs.YtfopddgjdaoidaaGreatDoor
namespace syn
open Go.RowKit
open lexs (Tok Fine)
section
variable {w w':World} {r G:Nat} {ts:List Tok} {s:St}
theorem Words.one (w:World) (x:ByteArray) (T:TypeId) {M:Nat} (hM:M=w.heap.size):Words (w.alloc (.cells #[.string x] T)) M [x]:=by
 subst hM
 intro k hk
 obtain rfl:k=0:=by simpa using hk
 simp
theorem Words.two (w:World) (x y:ByteArray) (T:TypeId) {M:Nat} (hM:M=w.heap.size):Words (w.alloc (.cells #[.string x,.string y] T)) M [x,y]:=by
 subst hM
 intro k hk
 have:k=0∨k=1:=by simp at hk;omega
 rcases this with rfl | rfl<;>simp
theorem has_one {x:ByteArray} {b:Bool} (h:eqS (txt ts s) x=b):hasW ts s [x]=b:=by unfold hasW;simp [h]
theorem skip_yes (hL:Ld w r G ts s) (x:ByteArray) (hx:[x].all wordy=true) (h:eqS (txt ts s) x=true) {M:Nat} {T:TypeId} (hM:M=w.heap.size) :
  Calls Tryz.prog 109 #[.pointer (some ⟨r,0,none⟩),.slice (some ⟨M,0,none⟩) 1 1] (w.alloc (.cells #[.string x] T)) fun e w'=>e=.returned (.bool true)∧Ld w' r G ts s.next∧Fr r w w' :=
 (oskip_yes (hL.alloc _) [x] M 1 (by simp) hx (Words.one w x T hM) (has_one h)).mono fun e w' ⟨h1,h2,h3⟩=>⟨h1,h2,(Fr.al _ _).trans h3⟩
theorem skip_no (hL:Ld w r G ts s) (x:ByteArray) (hx:[x].all wordy=true) (h:eqS (txt ts s) x=false) {M:Nat} {T:TypeId} (hM:M=w.heap.size) :
  Calls Tryz.prog 109 #[.pointer (some ⟨r,0,none⟩),.slice (some ⟨M,0,none⟩) 1 1] (w.alloc (.cells #[.string x] T)) fun e w'=>e=.returned (.bool false)∧Ld w' r G ts s∧Fr r w w' :=
 (oskip_no (hL.alloc _) [x] M 1 (by simp) hx (Words.one w x T hM) (has_one h)).mono fun e w' ⟨h1,h2⟩=>⟨h1,by rw [h2];exact hL.alloc _,by rw [h2];exact Fr.al _ _⟩
theorem must_next {x:ByteArray} (h:eqS (txt ts s) x=true):must ts x s=s.next:=by unfold must;rw [h,if_pos rfl]
theorem must_fail {x:ByteArray} (h:eqS (txt ts s) x=false):must ts x s=s.fail:=by unfold must;rw [h,if_neg (by decide)]
theorem take_must (hL:Ld w r G ts s) (x:ByteArray) (hx:[x].all wordy=true) {M:Nat} {T:TypeId} (hM:M=w.heap.size) :
  Calls Tryz.prog 107 #[.pointer (some ⟨r,0,none⟩),.slice (some ⟨M,0,none⟩) 1 1] (w.alloc (.cells #[.string x] T)) fun e w'=>∃ y,OVal w r G ts (.string y) (must ts x s) e w':=by
 cases h:eqS (txt ts s) x
 ·rw [must_fail h]
  refine (otake_no (hL.alloc _) [x] M 1 (by simp) hx (Words.one w x T hM) (has_one h)).mono ?_
  rintro e w' ⟨rfl,rfl⟩
  exact ⟨empty,.inl ⟨rfl,rfl,Fr.al _ _⟩⟩
 ·rw [must_next h]
  refine (otake_yes (hL.alloc _) [x] M 1 (by simp) hx (Words.one w x T hM) (has_one h)).mono ?_
  rintro e w' ⟨rfl,h2,h3⟩
  exact ⟨_,.inr ⟨hL.ok,rfl,h2,(Fr.al _ _).trans h3⟩⟩
theorem olabel (hL:Ld w r G ts s):Calls Tryz.prog 143 #[.pointer (some ⟨r,0,none⟩)] w (OVal w r G ts (.int .i64 (label ts s).1) (label ts s).2):=by
 have hW:([⟨#[108,111,119]⟩,⟨#[104,105,103,104]⟩]:List ByteArray).all wordy=true:=by decide
 unfold label
 cases hh:eqS (txt ts s) ⟨#[104,105,103,104]⟩
 ·simp only [Bool.false_eq_true,if_false]
  cases hl:eqS (txt ts s) ⟨#[108,111,119]⟩
  ·rw [must_fail hl]
   have hT:=fun M (hM:M=w.heap.size)=>otake_no (hL.alloc (.cells #[.string ⟨#[108,111,119]⟩,.string ⟨#[104,105,103,104]⟩] 9)) [⟨#[108,111,119]⟩,⟨#[104,105,103,104]⟩] M 2 (by simp) hW (Words.two w _ _ _ hM) (by unfold hasW;simp [hh,hl])
   go_enter Tryz.func143,Tryz.ntmps143
   go_wp2_with (fail)
   refine (hT _ rfl).mono ?_
   rintro e w2 ⟨rfl,hw2⟩
   obtain rfl:=hw2.symm
   go_wp2
   exact ⟨rfl,.inl ⟨rfl,rfl,Fr.al _ _⟩⟩
  ·rw [must_next hl]
   have hx:hasW ts s [⟨#[108,111,119]⟩,⟨#[104,105,103,104]⟩]=true:=by unfold hasW;simp [hl]
   have hT:=fun M (hM:M=w.heap.size)=>otake_yes (hL.alloc (.cells #[.string ⟨#[108,111,119]⟩,.string ⟨#[104,105,103,104]⟩] 9)) [⟨#[108,111,119]⟩,⟨#[104,105,103,104]⟩] M 2 (by simp) hW (Words.two w _ _ _ hM) hx
   have hlt:=hasW_lt hW hx
   have hraw:((raw (ts[s.i]'hlt)).toList==[104,105,103,104])=false:=by
    rw [← eqS_lit,← eq_raw (hL.good _ (List.getElem_mem hlt)) hL.ok (lt_get hlt) (by decide)]
    exact hh
   have hok:s.next.bad=false:=hL.ok
   generalize raw (ts[s.i]'hlt)=y at *
   go_enter Tryz.func143,Tryz.ntmps143
   go_wp2_with (fail)
   refine (hT _ rfl).mono ?_
   rintro e w2 ⟨rfl,hL2,hF2⟩
   go_wp2
   go_ret
   exact .inr ⟨hok,rfl,hL2,(Fr.al _ _).trans hF2⟩
 ·simp only [if_true]
  have hx:hasW ts s [⟨#[108,111,119]⟩,⟨#[104,105,103,104]⟩]=true:=by unfold hasW;simp [hh]
  have hT:=fun M (hM:M=w.heap.size)=>otake_yes (hL.alloc (.cells #[.string ⟨#[108,111,119]⟩,.string ⟨#[104,105,103,104]⟩] 9)) [⟨#[108,111,119]⟩,⟨#[104,105,103,104]⟩] M 2 (by simp) hW (Words.two w _ _ _ hM) hx
  have hlt:=hasW_lt hW hx
  have hraw:((raw (ts[s.i]'hlt)).toList==[104,105,103,104])=true:=by
   rw [← eqS_lit,← eq_raw (hL.good _ (List.getElem_mem hlt)) hL.ok (lt_get hlt) (by decide)]
   exact hh
  have hok:s.next.bad=false:=hL.ok
  generalize raw (ts[s.i]'hlt)=y at *
  go_enter Tryz.func143,Tryz.ntmps143
  go_wp2_with (fail)
  refine (hT _ rfl).mono ?_
  rintro e w2 ⟨rfl,hL2,hF2⟩
  go_wp2
  go_ret
  exact .inr ⟨hok,rfl,hL2,(Fr.al _ _).trans hF2⟩
theorem olongName (hL:Ld w r G ts s):Calls Tryz.prog 212 #[.pointer (some ⟨r,0,none⟩)] w (OVal w r G ts (.string (whole ts s).1) (whole ts s).2):=by
 have hN:=oname hL
 have hst:(name ts s).2.bad=true→(whole ts s).2=(name ts s).2:=by
  intro h
  unfold whole
  dsimp only
  rw [eat_st (by decide) h]
  simp
 by_cases hb:(name ts s).2.bad=true
 ·rw [hst hb]
  go_enter Tryz.func212,Tryz.ntmps212
  go_wp2_with (fail)
  refine hN.mono ?_
  rintro e w1 (⟨_,rfl,hF1⟩|⟨h,_,_,_⟩)
  ·go_wp2
   exact ⟨rfl,.inl ⟨hb,rfl,hF1⟩⟩
  ·rw [hb] at h
   cases h
 ·have hb':(name ts s).2.bad=false:=by simpa using hb
  clear hst hb
  have hx:=name_size ts s
  unfold whole
  generalize name ts s=q at hN hx hb' ⊢
  obtain ⟨x,s1⟩:=q
  simp only at hN hx hb' ⊢
  unfold eat
  cases he:eqS (txt ts s1) ⟨#[46]⟩
  ·simp only [Bool.false_eq_true,if_false]
   go_enter Tryz.func212,Tryz.ntmps212
   go_wp2_with (fail)
   refine hN.mono ?_
   rintro e w1 (⟨h,_,_⟩|⟨_,rfl,hL1,hF1⟩)
   ·rw [hb'] at h
    cases h
   go_wp2_with (fail)
   refine (skip_no hL1 ⟨#[46]⟩ (by decide) he rfl).mono ?_
   rintro e w2 ⟨rfl,hL2,hF2⟩
   go_wp2
   go_ret
   exact .inr ⟨hb',rfl,hL2,hF1.trans hF2⟩
  ·simp only [if_true]
   have hy:=name_size ts s1.next
   have hM:∀ {w:World},Ld w r G ts s1.next→Calls Tryz.prog 108 #[.pointer (some ⟨r,0,none⟩)] w (OVal w r G ts (.string (name ts s1.next).1) (name ts s1.next).2):=fun h=>oname h
   generalize name ts s1.next=q at hM hy ⊢
   obtain ⟨y,s2⟩:=q
   simp only at hM hy ⊢
   go_enter Tryz.func212,Tryz.ntmps212
   go_wp2_with (fail)
   refine hN.mono ?_
   rintro e w1 (⟨h,_,_⟩|⟨_,rfl,hL1,hF1⟩)
   ·rw [hb'] at h
    cases h
   go_wp2_with (fail)
   refine (skip_yes hL1 ⟨#[46]⟩ (by decide) he rfl).mono ?_
   rintro e w2 ⟨rfl,hL2,hF2⟩
   go_wp2_with (fail)
   refine (hM hL2).mono ?_
   rintro e w3 (⟨h3,rfl,hF3⟩|⟨h3,rfl,hL3,hF3⟩)
   ·go_wp2
    exact ⟨rfl,.inl ⟨h3,rfl,(hF1.trans hF2).trans hF3⟩⟩
   ·go_wp2
    go_ret
    refine .inr ⟨h3,ret_str ?_,hL3,(hF1.trans hF2).trans hF3⟩
    apply WideShapes.bytes_inj
    simp
end
end syn
namespace syn
open Go.RowKit
open lexs (Tok Fine val numE digB)
def OAns (w:World) (r G:Nat) (ts:List Tok) (q:Tree × St) (e:Ending) (w':World):Prop :=
 (q.2.bad=true∧e=.panicked (Pan ts q.2)∧Fr r w w')∨(q.2.bad=false∧∃ v,e=.returned v∧Lies (fun b=>w.heap.size≤b∧b<w'.heap.size) w' q.1 v∧Ld w' r G ts q.2∧Fr r w w')
section
variable {w w':World} {r G:Nat} {ts:List Tok} {s:St}
theorem OVal.lost {v:Value} {s' s1:St} (hq:s'=s1) (hb:s1.bad=true) (hF:Fr r w w'):OVal w r G ts v s' (.panicked (Pan ts s1)) w':=.inl ⟨by rw [hq];exact hb,by rw [hq],hF⟩
theorem OAns.lost {q:Tree × St} {s1:St} (hq:q.2=s1) (hb:s1.bad=true) (hF:Fr r w w'):OAns w r G ts q (.panicked (Pan ts s1)) w':=.inl ⟨by rw [hq];exact hb,by rw [hq],hF⟩
theorem Ld.put4 (h:Ld w r G ts s) {N:Nat} (hN:r<N) (x0 x1 x2 x3:Value):Ld ((((w.setCell ⟨N,0,none⟩ x0).setCell ⟨N,1,none⟩ x1).setCell ⟨N,2,none⟩ x2).setCell ⟨N,3,none⟩ x3) r G ts s :=
 (((h.set hN 0 x0).set hN 1 x1).set hN 2 x2).set hN 3 x3
theorem OAns.fin {w3:World} {s3:St} {t:Tree} {x0 x1 x2 x3:Value} {B N:Nat} (hr:r<w.heap.size) (hF:Fr r w w3) (hL3:Ld w3 r G ts s3) (hN:w.heap.size≤N) (hB:N<B) (hL:Lies (fun b=>B≤b∧b<w3.heap.size) w3 t (.agg #[x0,x1,x2,x3])) :
  OAns w r G ts (t,s3) (.returned (.agg #[x0,x1,x2,x3])) ((((w3.setCell ⟨N,0,none⟩ x0).setCell ⟨N,1,none⟩ x1).setCell ⟨N,2,none⟩ x2).setCell ⟨N,3,none⟩ x3) :=
 .inr ⟨hL3.ok,_,rfl,(hL.fr hB (Fr.put _ _ _ _ _ _)).low (by omega),hL3.put4 (by omega) _ _ _ _,hF.put4 hN _ _ _ _⟩
theorem Lies.rowed {W:World} {B:Nat} {t:Tree} {y0 y1 y2 y3:Value} {T:TypeId} {M c:Nat} {k m:Int} {x:ByteArray} (h:Lies (fun b=>B≤b∧b<W.heap.size) W t (.agg #[y0,y1,y2,y3])) (hB:B≤W.heap.size) (hM:M=W.heap.size) (hc:1≤c:=by omega) :
  Lies (fun b=>B≤b∧b<(W.alloc (.cells #[y0,y1,y2,y3] T)).heap.size) (W.alloc (.cells #[y0,y1,y2,y3] T)) (.node k x m [t]) (.agg #[.int .i64 k,.string x,.int .i64 m,.slice (some ⟨M,0,none⟩) 1 c]):=by
 refine Lies.one ⟨by omega,by rw [World.size_alloc];omega⟩ (cell4_new _ hM) ?_
 exact h.to (fun b hb=>⟨hb.1,by rw [World.size_alloc];omega⟩) (fun b hb o=>((Below.refl W.heap.size W).alloc (jE _) _).cell (p:=⟨b,o,none⟩) hb.2)
theorem oended (hL:Ld w r G ts s) (k m:Int) (x:ByteArray) (a:Option Addr) (n c:Nat) :
  Calls Tryz.prog 110 #[.pointer (some ⟨r,0,none⟩),.agg #[.int .i64 k,.string x,.int .i64 m,.slice a n c]] w (OVal w r G ts (.agg #[.int .i64 k,.string x,.int .i64 m,.slice a n c]) (must ts ⟨#[59]⟩ s)):=by
 have c24:=kc25
 have hr:=hL.lt
 have hB1:=Box4.new w (.int .i64 k) (.string x) (.int .i64 m) (.slice a n c) 25
 have hB2:=Box4.new (w.alloc (.cells #[.int .i64 k,.string x,.int .i64 m,.slice a n c] 25)) (.int .i64 0) (.string empty) (.int .i64 0) (.slice none 0 0) 25
 have hB1':=hB1.alloc (.cells #[.int .i64 0,.string empty,.int .i64 0,.slice none 0 0] 25)
 go_enter Tryz.func110,Tryz.ntmps110
 go_wp2_with (fail)
 refine (take_must ((hL.alloc _).alloc _) ⟨#[59]⟩ (by decide) (by simp)).mono ?_
 rintro e w1 ⟨y,⟨hb,rfl,hF⟩|⟨hb,rfl,hL1,hF⟩⟩
 ·go_wp2
  exact ⟨rfl,OVal.lost rfl hb (((Fr.al _ _).trans (Fr.al _ _)).trans hF)⟩
 ·obtain ⟨q0,q1',q2,q3,t0,t1,t2,t3⟩:=hB2.fr hF (by simp<;>omega)
  obtain ⟨p0,p1,p2,p3,_,_,_,_⟩:=hB1'.fr hF (by omega)
  simp only [World.size_alloc] at q0 q1' q2 q3 t0 t1 t2 t3
  have hz:=hF.size
  simp only [World.size_alloc] at hz
  go_wp2
  exact bodyPost_ret (v:=.agg #[.int .i64 k,.string x,.int .i64 m,.slice a n c]) (by simp [results,Tryz.results110,go_sem,q0,q1',q2,q3]) rfl
   (.inr ⟨hb,rfl,hL1.put4 (by omega) _ _ _ _,(((Fr.al _ _).trans (Fr.al _ _)).trans hF).put4 (by omega) _ _ _ _⟩)
theorem oparam (hL:Ld w r G ts s) :
  Calls Tryz.prog 177 #[.pointer (some ⟨r,0,none⟩)] w (OAns w r G ts (.node 5 (name ts (label ts s).2).1 (label ts s).1 [],(name ts (label ts s).2).2)):=by
 have c24:=kc25
 have hr:=hL.lt
 have hB0:=Box4.new w (.int .i64 0) (.string empty) (.int .i64 0) (.slice none 0 0) 25
 go_enter Tryz.func177,Tryz.ntmps177
 go_wp2_with (fail)
 refine (olabel (hL.alloc _)).mono ?_
 rintro e w1 (⟨hb,rfl,hF1⟩|⟨hb,rfl,hL1,hF1⟩)
 ·go_wp2
  exact ⟨rfl,OAns.lost (name_st hb) hb ((Fr.al _ _).trans hF1)⟩
 go_wp2_with (fail)
 refine (oname hL1).mono ?_
 rintro e w2 (⟨hb2,rfl,hF2⟩|⟨hb2,rfl,hL2,hF2⟩)
 ·go_wp2
  exact ⟨rfl,OAns.lost rfl hb2 (((Fr.al _ _).trans hF1).trans hF2)⟩
 obtain ⟨q0,q1',q2,q3,t0,t1,t2,t3⟩:=(hB0.fr hF1 (by omega)).fr hF2 (by omega)
 go_wp2
 exact bodyPost_ret (v:=.agg #[.int .i64 5,.string (name ts (label ts s).2).1,.int .i64 (label ts s).1,.slice none 0 0]) (by simp [results,Tryz.results177,go_sem,q0,q1',q2,q3]) rfl
  (OAns.fin hr (((Fr.al _ _).trans hF1).trans hF2) hL2 (jE _) (Nat.lt_succ_self _) (Lies.leaf _ _ _ _ _))
theorem fine_num {l:List UInt8} (h:numE l=0) (h0:l≠[]):l.all digB=true∧val l<9223372036854775808∧l.length≤3000:=by
 have hd:=num_digits h
 have hz:(decide (1<l.length)&&l.headD 0==48)=false:=by
  cases hz:(decide (1<l.length)&&l.headD 0==48)
  ·rfl
  ·unfold numE at h
   rw [hd,hz] at h
   simp at h
 have hv:=lexs.numE_val l hd h0 hz
 rw [h] at hv
 refine ⟨hd,?_,?_⟩
 ·rcases Nat.lt_or_ge (val l) 9223372036854775808 with h1 | h1
  ·exact h1
  ·rw [if_neg (by omega)] at hv;simp at hv
 ·unfold numE at h
  rw [hd,hz] at h
  simp only [Bool.true_eq_false,Bool.false_eq_true,if_false] at h
  rcases Nat.lt_or_ge 19 l.length with h1 | h1
  ·rw [decide_eq_true h1] at h;simp at h
  ·omega
theorem onumber (hL:Ld w r G ts s) :
  Calls Tryz.prog 144 #[.pointer (some ⟨r,0,none⟩)] w (OAns w r G ts (number ts s)):=by
 have c29:=kc99
 have c24:=kc25
 have hlen:=hL.len
 have hr:=hL.lt
 have hB0:=Box4.new w (.int .i64 0) (.string empty) (.int .i64 0) (.slice none 0 0) 25
 have hL0:=hL.alloc (.cells #[.int .i64 0,.string empty,.int .i64 0,.slice none 0 0] 25)
 obtain ⟨a,cp,h0,h1,h2⟩:=hL.c0
 unfold number
 rw [here_is hL.ok]
 by_cases hlt:s.i<ts.length
 ·obtain rfl:=h2 hlt
  rw [lt_get hlt]
  obtain ⟨y0,y1,y2⟩:=hL.tok s.i hlt
  have hG:=hL.gt (by omega)
  have hn:0<ts.length - s.i:=by omega
  have hn':ts.length - s.i≤3000:=by omega
  simp only
  cases hk:(ts[s.i].kind==2)
  ·simp only [Bool.false_eq_true,if_false]
   have hk':(ts[s.i].kind != 2)=true:=by simp only [bne,hk,Bool.not_false]
   have hg:=ogiveUp hL0
   generalize ts[s.i].kind=tk at *
   generalize ts.length - s.i=n at *
   go_enter Tryz.func144,Tryz.ntmps144
   go_wp2_with (fail)
   refine hg.mono ?_
   rintro e w2 ⟨rfl,hw2⟩
   obtain rfl:=hw2.symm
   go_wp2
   exact ⟨rfl,.inl ⟨rfl,rfl,Fr.al _ _⟩⟩
  ·simp only [if_true]
   have hk':(ts[s.i].kind != 2)=false:=by simp only [bne,hk,Bool.not_true]
   have hfine:=hL.good _ (List.getElem_mem hlt)
   obtain ⟨hd,hv,hl⟩:=fine_num (hfine.num (by simpa using hk)) hfine.ne
   have hN:=onext hL0 hlt
   have hP:=fun w=>lexs.parse_ok (raw ts[s.i]) (by rw [raw_size];exact hl) (by rw [raw_list];exact hd) (by rw [raw_list];exact hfine.ne) (by rw [raw_list];exact hv) w
   rw [raw_list] at hP
   generalize ts[s.i].kind=tk at *
   generalize ts.length - s.i=n at *
   generalize raw ts[s.i]=x at *
   generalize val ts[s.i].text=m at *
   go_enter Tryz.func144,Tryz.ntmps144
   go_wp2_with (fail)
   refine hN.mono ?_
   rintro e w1 ⟨rfl,hL1,hF1⟩
   go_wp2_with (fail)
   refine (hP _).mono ?_
   rintro e w2 ⟨rfl,hb2⟩
   have hF2:Fr r w1 w2:=Fr.below hb2
   obtain ⟨q0,q1',q2,q3,t0,t1,t2,t3⟩:=(hB0.fr hF1 (by omega)).fr hF2 (by omega)
   go_wp2
   exact bodyPost_ret (v:=.agg #[.int .i64 15,.string empty,.int .i64 m,.slice none 0 0]) (by simp [results,Tryz.results144,go_sem,q0,q1',q2,q3,empty]) rfl
    (OAns.fin hr (((Fr.al _ _).trans hF1).trans hF2) (hL1.below hb2) (jE _) (Nat.lt_succ_self _) (Lies.leaf _ _ _ _ _))
 ·rw [List.getElem?_eq_none (by omega)]
  have hn:ts.length - s.i=0:=by omega
  rw [hn] at h0
  have hg:=ogiveUp hL0
  go_enter Tryz.func144,Tryz.ntmps144
  go_wp2_with (fail)
  refine hg.mono ?_
  rintro e w2 ⟨rfl,hw2⟩
  obtain rfl:=hw2.symm
  go_wp2
  exact ⟨rfl,.inl ⟨rfl,rfl,Fr.al _ _⟩⟩
end
end syn
namespace syn
open Go.RowKit
open lexs (Tok Fine)
section
variable {w w':World} {r G:Nat} {ts:List Tok} {s:St}
def Gives (r G:Nat) (ts:List Tok) (F:Nat) (g:St→Option (Tree × St)):Prop :=
 ∀ {w:World} {s:St} {q:Tree × St},Ld w r G ts s→g s=some q→Calls Tryz.prog F #[.pointer (some ⟨r,0,none⟩)] w (OAns w r G ts q)
set_option maxHeartbeats 1000000 in
theorem oenclosed {f:Nat} (ih:Gives r G ts 216 (exprF ts f)):Gives r G ts 215 (askedF ts (f+1)):=by
 intro w s q hL hq
 have c24:=kc25
 have hr:=hL.lt
 have hB0:=Box4.new w (.int .i64 0) (.string empty) (.int .i64 0) (.slice none 0 0) 25
 unfold askedF at hq
 obtain ⟨q1,h1,h2⟩:=bind_some_is hq
 simp only [Option.some.injEq] at h2
 subst h2
 have hT:=take_must (T:=9) (hL.alloc (.cells #[.int .i64 0,.string empty,.int .i64 0,.slice none 0 0] 25)) ⟨#[40]⟩ (by decide) (M:=w.heap.size+1) (by simp)
 have hst:Hid ((must ts ⟨#[40]⟩ s).bad=true→must ts ⟨#[41]⟩ q1.2=must ts ⟨#[40]⟩ s):=fun hb=>by
  rw [(stuck ts f).e _ _ hb h1]
  exact must_st (by decide) hb
 generalize must ts ⟨#[40]⟩ s=s1 at *
 go_enter Tryz.func215,Tryz.ntmps215
 go_wp2_with (fail)
 refine hT.mono ?_
 rintro e w1 ⟨y,⟨hb,rfl,hF1⟩|⟨hb,rfl,hL1,hF1⟩⟩
 ·go_wp2
  exact ⟨rfl,OAns.lost (hst.out hb) hb ((Fr.al _ _).trans hF1)⟩
 go_wp2_with (fail)
 refine (ih hL1 h1).mono ?_
 rintro e w2 (⟨hb2,rfl,hF2⟩|⟨hb2,v2,rfl,hl2,hL2,hF2⟩)
 ·go_wp2
  exact ⟨rfl,OAns.lost (must_st (by decide) hb2) hb2 (((Fr.al _ _).trans hF1).trans hF2)⟩
 obtain ⟨k,x,m,_,rfl,a,n,c,rfl⟩:=hl2.shape
 go_wp2_with (fail)
 refine (take_must (hL2.alloc _) ⟨#[41]⟩ (by decide) (by simp)).mono ?_
 rintro e w3 ⟨y3,⟨hb3,rfl,hF3⟩|⟨hb3,rfl,hL3,hF3⟩⟩
 ·go_wp2
  exact ⟨rfl,OAns.lost rfl hb3 ((((Fr.al _ _).trans hF1).trans hF2).trans ((Fr.al _ _).trans hF3))⟩
 have z1:=hF1.size
 have z2:=hF2.size
 rw [World.size_alloc] at z1
 obtain ⟨q0,q1',q2,q3,t0,t1,t2,t3⟩:=(((hB0.fr hF1 (by omega)).fr hF2 (by omega)).alloc _).fr hF3 (by omega)
 obtain ⟨p0,p1,p2,p3,_,_,_,_⟩:=(Box4.new w2 (.int .i64 k) (.string x) (.int .i64 m) (.slice a n c) 25).fr hF3 (by omega)
 go_wp2
 exact bodyPost_ret (v:=.agg #[.int .i64 k,.string x,.int .i64 m,.slice a n c]) (by simp [results,Tryz.results215,go_sem,q0,q1',q2,q3]) rfl
  (OAns.fin hr ((((Fr.al _ _).trans hF1).trans hF2).trans ((Fr.al _ _).trans hF3)) hL3 (jE _) (show w.heap.size<w1.heap.size by omega) (hl2.fr (by omega) ((Fr.al _ _).trans hF3)))
set_option maxHeartbeats 1000000 in
theorem oplace {f:Nat} (ih:Gives r G ts 216 (exprF ts f)) (x:ByteArray) {w:World} {s:St} {q:Tree × St} (hL:Ld w r G ts s) (hq:placeF ts (f+1) x s=some q) :
  Calls Tryz.prog 217 #[.pointer (some ⟨r,0,none⟩),.string x] w (OAns w r G ts q):=by
 have c24:=kc25
 have hr:=hL.lt
 have hB0:=Box4.new w (.int .i64 0) (.string empty) (.int .i64 0) (.slice none 0 0) 25
 have hL0:=hL.alloc (.cells #[.int .i64 0,.string empty,.int .i64 0,.slice none 0 0] 25)
 unfold placeF at hq
 cases he:eqS (txt ts s) ⟨#[91]⟩
 ·rw [he] at hq
  simp only [Bool.false_eq_true,if_false,Option.some.injEq] at hq
  subst hq
  have hE:=skip_no (T:=9) hL0 ⟨#[91]⟩ (by decide) he (M:=w.heap.size+1) (by simp)
  clear he
  go_enter Tryz.func217,Tryz.ntmps217
  go_wp2_with (fail)
  refine hE.mono ?_
  rintro e w1 ⟨rfl,hL1,hF1⟩
  obtain ⟨q0,q1',q2,q3,t0,t1,t2,t3⟩:=hB0.fr hF1 (by omega)
  go_wp2
  exact bodyPost_ret (v:=.agg #[.int .i64 16,.string x,.int .i64 0,.slice none 0 0]) (by simp [results,Tryz.results217,go_sem,q0,q1',q2,q3]) rfl
   (OAns.fin hr ((Fr.al _ _).trans hF1) hL1 (jE _) (Nat.lt_succ_self _) (Lies.leaf _ _ _ _ _))
 ·rw [he] at hq
  simp only [if_true] at hq
  obtain ⟨q1,h1,h2⟩:=bind_some_is hq
  simp only [Option.some.injEq] at h2
  subst h2
  have hE:=skip_yes (T:=9) hL0 ⟨#[91]⟩ (by decide) he (M:=w.heap.size+1) (by simp)
  clear he
  go_enter Tryz.func217,Tryz.ntmps217
  go_wp2_with (fail)
  refine hE.mono ?_
  rintro e w1 ⟨rfl,hL1,hF1⟩
  go_wp2_with (fail)
  refine (ih hL1 h1).mono ?_
  rintro e w2 (⟨hb2,rfl,hF2⟩|⟨hb2,v2,rfl,hl2,hL2,hF2⟩)
  ·go_wp2
   exact ⟨rfl,OAns.lost (must_st (by decide) hb2) hb2 (((Fr.al _ _).trans hF1).trans hF2)⟩
  obtain ⟨k,y,m,_,rfl,a,n,c,rfl⟩:=hl2.shape
  have hrow:=hl2.rowed (T:=25) (k:=17) (x:=x) (m:=0) (c:=1) hF2.size rfl
  go_wp2_with (fail)
  refine (take_must ((hL2.alloc _).alloc _) ⟨#[93]⟩ (by decide) (by simp)).mono ?_
  rintro e w3 ⟨y3,⟨hb3,rfl,hF3⟩|⟨hb3,rfl,hL3,hF3⟩⟩
  ·go_wp2
   exact ⟨rfl,OAns.lost rfl hb3 ((((Fr.al _ _).trans hF1).trans hF2).trans (((Fr.al _ _).trans (Fr.al _ _)).trans hF3))⟩
  have z1:=hF1.size
  have z2:=hF2.size
  rw [World.size_alloc] at z1
  obtain ⟨q0,q1',q2,q3,t0,t1,t2,t3⟩:=((((hB0.fr hF1 (by omega)).fr hF2 (by omega)).alloc _).alloc _).fr hF3 (by omega)
  obtain ⟨p0,p1,p2,p3,_,_,_,_⟩:=(Box4.new (w2.alloc (.cells #[.int .i64 k,.string y,.int .i64 m,.slice a n c] 25)) (.int .i64 17) (.string x) (.int .i64 0) (.slice (some ⟨w2.heap.size,0,none⟩) 1 1) 25).fr hF3 (by simp<;>omega)
  simp only [World.size_alloc] at p0 p1 p2 p3
  go_wp2
  exact bodyPost_ret (v:=.agg #[.int .i64 17,.string x,.int .i64 0,.slice (some ⟨w2.heap.size,0,none⟩) 1 1]) (by simp [results,Tryz.results217,go_sem,q0,q1',q2,q3]) rfl
   (OAns.fin hr ((((Fr.al _ _).trans hF1).trans hF2).trans (((Fr.al _ _).trans (Fr.al _ _)).trans hF3)) hL3 (jE _) (show w.heap.size<w1.heap.size by omega) (hrow.fr (by omega) ((Fr.al _ _).trans hF3)))
end
section
variable {w w':World} {r G:Nat} {ts:List Tok} {s:St}
theorem Gives.lost {F:Nat} {g:St→Option (Tree × St)} (h:Gives r G ts F g) {q:Tree × St} (hL:Ld w r G ts s) (hq:g s=some q) (hb:q.2.bad=true) :
  Calls Tryz.prog F #[.pointer (some ⟨r,0,none⟩)] w fun e w'=>e=.panicked (Pan ts q.2)∧Fr r w w' :=
 (h hL hq).mono fun e w' h=>by
  rcases h with ⟨_,h1,h2⟩|⟨h1,_⟩
  ·exact ⟨h1,h2⟩
  ·rw [hb] at h1;cases h1
theorem Gives.fine {F:Nat} {g:St→Option (Tree × St)} (h:Gives r G ts F g) {q:Tree × St} (hL:Ld w r G ts s) (hq:g s=some q) (hb:q.2.bad=false) :
  Calls Tryz.prog F #[.pointer (some ⟨r,0,none⟩)] w fun e w'=>∃ v,e=.returned v∧Lies (fun b=>w.heap.size≤b∧b<w'.heap.size) w' q.1 v∧Ld w' r G ts q.2∧Fr r w w' :=
 (h hL hq).mono fun e w' h=>by
  rcases h with ⟨h1,_⟩|⟨_,h1⟩
  ·rw [hb] at h1;cases h1
  ·exact h1
theorem Lies.rowed2P {P Q:Nat→Prop} {W:World} {t t':Tree} {y0 y1 y2 y3 z0 z1 z2 z3:Value} {T:TypeId} {M c:Nat} {k m:Int} {x:ByteArray} (h:Lies P W t (.agg #[y0,y1,y2,y3])) (h':Lies P W t' (.agg #[z0,z1,z2,z3])) (hlt:∀ b,P b→b<W.heap.size) (hQ:∀ b,P b→Q b) (hM:M=W.heap.size) (hQM:Q M) (hc:2≤c:=by omega) :
  Lies Q (W.alloc (.cells #[y0,y1,y2,y3,z0,z1,z2,z3] T)) (.node k x m [t,t']) (.agg #[.int .i64 k,.string x,.int .i64 m,.slice (some ⟨M,0,none⟩) 2 c]):=by
 obtain ⟨c1,c2⟩:=cell4_two W (y0:=y0) (y1:=y1) (y2:=y2) (y3:=y3) (z0:=z0) (z1:=z1) (z2:=z2) (z3:=z3) (T:=T) hM
 refine Lies.two hQM c1 c2 ?_ ?_
 ·exact h.to hQ (fun b hb o=>((Below.refl W.heap.size W).alloc (jE _) _).cell (p:=⟨b,o,none⟩) (hlt b hb))
 ·exact h'.to hQ (fun b hb o=>((Below.refl W.heap.size W).alloc (jE _) _).cell (p:=⟨b,o,none⟩) (hlt b hb))
theorem sign_empty:sign empty=(0,-1):=by rw [sign_data];decide
theorem sign_raw (hL:Ld w r G ts s) (h:0≤(sign (txt ts s)).2):∃ hlt:s.i<ts.length,raw ts[s.i]=txt ts s:=by
 have hlt:=sign_lt h
 refine ⟨hlt,?_⟩
 unfold txt at h ⊢
 rw [here_is hL.ok,lt_get hlt] at h ⊢
 simp only at h ⊢
 split at h
 ·rw [sign_empty] at h
  exact absurd h (by decide)
 ·rename_i hk
  rw [if_neg hk]
  rfl
theorem oop_fine_sum {g:St→Option (Tree × St)} (ih:Gives r G ts 232 g) (hL:Ld w r G ts s) {B D:Nat} (hB:r<B) (hBw:B≤w.heap.size) (hD:D<w.heap.size) {n:Tree} {k m:Int} {x:ByteArray} {a:Option Addr} {nn c:Nat}
  (hl:Lies (fun b=>B≤b∧b≠D∧b<w.heap.size) w n (.agg #[.int .i64 k,.string x,.int .i64 m,.slice a nn c])) (hs:0≤(sign (txt ts s)).2) {q:Tree × St} (hq:g s.next=some q) (hb:q.2.bad=false) :
  Calls Tryz.prog 233 #[.pointer (some ⟨r,0,none⟩),.agg #[.int .i64 k,.string x,.int .i64 m,.slice a nn c],.func (.func 232) #[.pointer (some ⟨r,0,none⟩)] #[]] w fun e w' =>
   ∃ v,e=.returned v∧Lies (fun b=>B≤b∧b≠D∧b<w'.heap.size) w' (.node 19 empty (sign (txt ts s)).1 [n,q.1]) v∧Ld w' r G ts q.2∧Fr r w w':=by
 have c24:=kc25
 have hr:=hL.lt
 obtain ⟨hlt,hraw⟩:=sign_raw hL hs
 have hL0:=(hL.alloc (.cells #[.int .i64 k,.string x,.int .i64 m,.slice a nn c] 25)).alloc (.cells #[.int .i64 0,.string empty,.int .i64 0,.slice none 0 0] 25)
 have hB1:=(Box4.new w (.int .i64 k) (.string x) (.int .i64 m) (.slice a nn c) 25).alloc (.cells #[.int .i64 0,.string empty,.int .i64 0,.slice none 0 0] 25)
 have hB2:=Box4.new (w.alloc (.cells #[.int .i64 k,.string x,.int .i64 m,.slice a nn c] 25)) (.int .i64 0) (.string empty) (.int .i64 0) (.slice none 0 0) 25
 rw [World.size_alloc] at hB2
 have hN:=onext hL0 hlt
 rw [hraw] at hN
 have hO:=fun w hw=>oopOf (txt ts s) w hw hs
 generalize (sign (txt ts s)).1=o at *
 generalize txt ts s=y at *
 go_enter Tryz.func233,Tryz.ntmps233
 go_wp2_with (fail)
 refine hN.mono ?_
 rintro e w1 ⟨rfl,hL1,hF1⟩
 go_wp2_with (fail)
 refine (hO _ hL1.ops).mono ?_
 rintro e w2 ⟨rfl,hb2⟩
 have hL2:=hL1.below hb2
 have hF2:Fr r w1 w2:=Fr.below hb2
 have hB1':=(hB1.fr hF1 (by omega)).fr hF2 (by omega)
 have hB2':=(hB2.fr hF1 (by omega)).fr hF2 (by omega)
 obtain ⟨p0,p1,p2,p3,e0,e1,e2,e3⟩:=id hB1'
 have hz:w.heap.size+1<w2.heap.size:=hB2'.lt
 have z1:w.heap.size+2≤w1.heap.size:=by have:=hF1.size;simpa using this
 have z2:=hF2.size
 go_wp2
 go_region_with (go_at_call 232;refine (ih.fine (hL2.drewN 1) hq hb).mono ?_;rintro e w3 ⟨v3,rfl,hl3,hL3,hF3⟩;obtain ⟨k3,x3,m3,_,rfl,a3,n3,c3,rfl⟩:=hl3.shape;obtain ⟨g0,g1,g2,g3,_,_,_,_⟩:=(hB1'.drewN 1).fr hF3 (by omega);obtain ⟨f0,f1,f2,f3,i0,i1,i2,i3⟩:=(hB2'.drewN 1).fr hF3 (by omega);have z3:w.heap.size+1<w3.heap.size:=((hB2'.drewN 1).fr hF3 (by omega)).lt)
 all_goals
  go_wp2
  refine bodyPost_ret (v:=.agg #[.int .i64 19,.string empty,.int .i64 o,.slice (some ⟨w3.heap.size,0,none⟩) 2 2]) (by simp [results,Tryz.results233,go_sem,f0,f1,f2,f3,z3,empty]) rfl ?_
  have hFw:Fr r w w3:=(((((Fr.al _ _).trans (Fr.al _ _)).trans hF1).trans hF2).drewN 1).trans hF3
  have y3:=hF3.size
  have y3':w2.heap.size≤w3.heap.size:=y3
  have n3':Lies (fun b=>B≤b∧b≠D∧b<w3.heap.size∧b≠w.heap.size+1) w3 n (.agg #[.int .i64 k,.string x,.int .i64 m,.slice a nn c]):=hl.frP (x:=r) hFw (fun b hb=>⟨hb.2.2,by omega⟩) (fun b hb=>⟨hb.1,hb.2.1,by omega,by omega⟩)
  have m3':Lies (fun b=>B≤b∧b≠D∧b<w3.heap.size∧b≠w.heap.size+1) w3 q.1 (.agg #[.int .i64 k3,.string x3,.int .i64 m3,.slice a3 n3 c3]):=hl3.to (fun b hb=>by
   have h1:w2.heap.size≤b:=hb.1
   exact ⟨by omega,by omega,hb.2,by omega⟩) (fun _ _ _=>rfl)
  have hput:=Fr.put w3 (w.heap.size+1) (.int .i64 19) (.string empty) (.int .i64 o) (.slice (some ⟨w3.heap.size,0,none⟩) 2 2)
  have n4:=n3'.frP (x:=w.heap.size+1) hput (fun b hb=>⟨hb.2.2.1,hb.2.2.2⟩) (fun b hb=>hb)
  have m4:=m3'.frP (x:=w.heap.size+1) hput (fun b hb=>⟨hb.2.2.1,hb.2.2.2⟩) (fun b hb=>hb)
  exact ⟨_,rfl,n4.rowed2P m4 (fun b hb=>by simpa using hb.2.2.1) (fun b hb=>⟨hb.1,hb.2.1,by simp;omega⟩) (by simp) ⟨by omega,by omega,by simp⟩,(hL3.put4 (by omega) _ _ _ _).alloc _,(hFw.put4 (by omega) _ _ _ _).alloc _⟩
theorem oop_lost_sum {g:St→Option (Tree × St)} (ih:Gives r G ts 232 g) (hL:Ld w r G ts s) {k m:Int} {x:ByteArray} {a:Option Addr} {nn c:Nat}
  (hs:0≤(sign (txt ts s)).2) {q:Tree × St} (hq:g s.next=some q) (hb:q.2.bad=true) :
  Calls Tryz.prog 233 #[.pointer (some ⟨r,0,none⟩),.agg #[.int .i64 k,.string x,.int .i64 m,.slice a nn c],.func (.func 232) #[.pointer (some ⟨r,0,none⟩)] #[]] w fun e w'=>e=.panicked (Pan ts q.2)∧Fr r w w':=by
 have c24:=kc25
 have hr:=hL.lt
 obtain ⟨hlt,hraw⟩:=sign_raw hL hs
 have hL0:=(hL.alloc (.cells #[.int .i64 k,.string x,.int .i64 m,.slice a nn c] 25)).alloc (.cells #[.int .i64 0,.string empty,.int .i64 0,.slice none 0 0] 25)
 have hB1:=(Box4.new w (.int .i64 k) (.string x) (.int .i64 m) (.slice a nn c) 25).alloc (.cells #[.int .i64 0,.string empty,.int .i64 0,.slice none 0 0] 25)
 have hN:=onext hL0 hlt
 rw [hraw] at hN
 have hO:=fun w hw=>oopOf (txt ts s) w hw hs
 generalize (sign (txt ts s)).1=o at *
 generalize txt ts s=y at *
 go_enter Tryz.func233,Tryz.ntmps233
 go_wp2_with (fail)
 refine hN.mono ?_
 rintro e w1 ⟨rfl,hL1,hF1⟩
 go_wp2_with (fail)
 refine (hO _ hL1.ops).mono ?_
 rintro e w2 ⟨rfl,hb2⟩
 have hL2:=hL1.below hb2
 have hF2:Fr r w1 w2:=Fr.below hb2
 obtain ⟨p0,p1,p2,p3,_,_,_,_⟩:=(hB1.fr hF1 (by omega)).fr hF2 (by omega)
 go_wp2
 refine wp_region_any (by kernel_rfl) ?_
 change wpAny _ _ _ _ _ _ _ (World.drew _)
 refine tkQ 0 (.int .i64 o) ?_
 refine tkQ 2 (.func (.func 232) #[.pointer (some ⟨r,0,none⟩)] #[]) ?_
 refine wpAny_ready (rs:=[1,3]) (by kernel_rfl) (by simp) ?_
 refine AllReady.cons rfl (fun K hK=>?_) ?_
 ·go_simp
  refine hK _ _ ?_
  clear hK K
  refine one0 3 fun K hK=>?_
  go_simp
  go_at_call 232
  refine (ih.lost (hL2.drewN 1) hq hb).mono ?_
  rintro e w3 ⟨rfl,hF3⟩
  go_wp2
  exact ⟨rfl,rfl,(((((Fr.al _ _).trans (Fr.al _ _)).trans hF1).trans hF2).drewN 1).trans hF3⟩
 refine AllReady.cons rfl (fun K hK=>?_) AllReady.nil
 go_simp
 go_at_call 232
 refine (ih.lost (hL2.drewN 1) hq hb).mono ?_
 rintro e w3 ⟨rfl,hF3⟩
 go_wp2
 exact ⟨rfl,rfl,(((((Fr.al _ _).trans (Fr.al _ _)).trans hF1).trans hF2).drewN 1).trans hF3⟩
theorem oop_fine_product {g:St→Option (Tree × St)} (ih:Gives r G ts 242 g) (hL:Ld w r G ts s) {B D:Nat} (hB:r<B) (hBw:B≤w.heap.size) (hD:D<w.heap.size) {n:Tree} {k m:Int} {x:ByteArray} {a:Option Addr} {nn c:Nat}
  (hl:Lies (fun b=>B≤b∧b≠D∧b<w.heap.size) w n (.agg #[.int .i64 k,.string x,.int .i64 m,.slice a nn c])) (hs:0≤(sign (txt ts s)).2) {q:Tree × St} (hq:g s.next=some q) (hb:q.2.bad=false) :
  Calls Tryz.prog 233 #[.pointer (some ⟨r,0,none⟩),.agg #[.int .i64 k,.string x,.int .i64 m,.slice a nn c],.func (.func 242) #[.pointer (some ⟨r,0,none⟩)] #[]] w fun e w' =>
   ∃ v,e=.returned v∧Lies (fun b=>B≤b∧b≠D∧b<w'.heap.size) w' (.node 19 empty (sign (txt ts s)).1 [n,q.1]) v∧Ld w' r G ts q.2∧Fr r w w':=by
 have c24:=kc25
 have hr:=hL.lt
 obtain ⟨hlt,hraw⟩:=sign_raw hL hs
 have hL0:=(hL.alloc (.cells #[.int .i64 k,.string x,.int .i64 m,.slice a nn c] 25)).alloc (.cells #[.int .i64 0,.string empty,.int .i64 0,.slice none 0 0] 25)
 have hB1:=(Box4.new w (.int .i64 k) (.string x) (.int .i64 m) (.slice a nn c) 25).alloc (.cells #[.int .i64 0,.string empty,.int .i64 0,.slice none 0 0] 25)
 have hB2:=Box4.new (w.alloc (.cells #[.int .i64 k,.string x,.int .i64 m,.slice a nn c] 25)) (.int .i64 0) (.string empty) (.int .i64 0) (.slice none 0 0) 25
 rw [World.size_alloc] at hB2
 have hN:=onext hL0 hlt
 rw [hraw] at hN
 have hO:=fun w hw=>oopOf (txt ts s) w hw hs
 generalize (sign (txt ts s)).1=o at *
 generalize txt ts s=y at *
 go_enter Tryz.func233,Tryz.ntmps233
 go_wp2_with (fail)
 refine hN.mono ?_
 rintro e w1 ⟨rfl,hL1,hF1⟩
 go_wp2_with (fail)
 refine (hO _ hL1.ops).mono ?_
 rintro e w2 ⟨rfl,hb2⟩
 have hL2:=hL1.below hb2
 have hF2:Fr r w1 w2:=Fr.below hb2
 have hB1':=(hB1.fr hF1 (by omega)).fr hF2 (by omega)
 have hB2':=(hB2.fr hF1 (by omega)).fr hF2 (by omega)
 obtain ⟨p0,p1,p2,p3,e0,e1,e2,e3⟩:=id hB1'
 have hz:w.heap.size+1<w2.heap.size:=hB2'.lt
 have z1:w.heap.size+2≤w1.heap.size:=by have:=hF1.size;simpa using this
 have z2:=hF2.size
 go_wp2
 go_region_with (go_at_call 242;refine (ih.fine (hL2.drewN 1) hq hb).mono ?_;rintro e w3 ⟨v3,rfl,hl3,hL3,hF3⟩;obtain ⟨k3,x3,m3,_,rfl,a3,n3,c3,rfl⟩:=hl3.shape;obtain ⟨g0,g1,g2,g3,_,_,_,_⟩:=(hB1'.drewN 1).fr hF3 (by omega);obtain ⟨f0,f1,f2,f3,i0,i1,i2,i3⟩:=(hB2'.drewN 1).fr hF3 (by omega);have z3:w.heap.size+1<w3.heap.size:=((hB2'.drewN 1).fr hF3 (by omega)).lt)
 all_goals
  go_wp2
  refine bodyPost_ret (v:=.agg #[.int .i64 19,.string empty,.int .i64 o,.slice (some ⟨w3.heap.size,0,none⟩) 2 2]) (by simp [results,Tryz.results233,go_sem,f0,f1,f2,f3,z3,empty]) rfl ?_
  have hFw:Fr r w w3:=(((((Fr.al _ _).trans (Fr.al _ _)).trans hF1).trans hF2).drewN 1).trans hF3
  have y3:=hF3.size
  have y3':w2.heap.size≤w3.heap.size:=y3
  have n3':Lies (fun b=>B≤b∧b≠D∧b<w3.heap.size∧b≠w.heap.size+1) w3 n (.agg #[.int .i64 k,.string x,.int .i64 m,.slice a nn c]):=hl.frP (x:=r) hFw (fun b hb=>⟨hb.2.2,by omega⟩) (fun b hb=>⟨hb.1,hb.2.1,by omega,by omega⟩)
  have m3':Lies (fun b=>B≤b∧b≠D∧b<w3.heap.size∧b≠w.heap.size+1) w3 q.1 (.agg #[.int .i64 k3,.string x3,.int .i64 m3,.slice a3 n3 c3]):=hl3.to (fun b hb=>by
   have h1:w2.heap.size≤b:=hb.1
   exact ⟨by omega,by omega,hb.2,by omega⟩) (fun _ _ _=>rfl)
  have hput:=Fr.put w3 (w.heap.size+1) (.int .i64 19) (.string empty) (.int .i64 o) (.slice (some ⟨w3.heap.size,0,none⟩) 2 2)
  have n4:=n3'.frP (x:=w.heap.size+1) hput (fun b hb=>⟨hb.2.2.1,hb.2.2.2⟩) (fun b hb=>hb)
  have m4:=m3'.frP (x:=w.heap.size+1) hput (fun b hb=>⟨hb.2.2.1,hb.2.2.2⟩) (fun b hb=>hb)
  exact ⟨_,rfl,n4.rowed2P m4 (fun b hb=>by simpa using hb.2.2.1) (fun b hb=>⟨hb.1,hb.2.1,by simp;omega⟩) (by simp) ⟨by omega,by omega,by simp⟩,(hL3.put4 (by omega) _ _ _ _).alloc _,(hFw.put4 (by omega) _ _ _ _).alloc _⟩
theorem oop_lost_product {g:St→Option (Tree × St)} (ih:Gives r G ts 242 g) (hL:Ld w r G ts s) {k m:Int} {x:ByteArray} {a:Option Addr} {nn c:Nat}
  (hs:0≤(sign (txt ts s)).2) {q:Tree × St} (hq:g s.next=some q) (hb:q.2.bad=true) :
  Calls Tryz.prog 233 #[.pointer (some ⟨r,0,none⟩),.agg #[.int .i64 k,.string x,.int .i64 m,.slice a nn c],.func (.func 242) #[.pointer (some ⟨r,0,none⟩)] #[]] w fun e w'=>e=.panicked (Pan ts q.2)∧Fr r w w':=by
 have c24:=kc25
 have hr:=hL.lt
 obtain ⟨hlt,hraw⟩:=sign_raw hL hs
 have hL0:=(hL.alloc (.cells #[.int .i64 k,.string x,.int .i64 m,.slice a nn c] 25)).alloc (.cells #[.int .i64 0,.string empty,.int .i64 0,.slice none 0 0] 25)
 have hB1:=(Box4.new w (.int .i64 k) (.string x) (.int .i64 m) (.slice a nn c) 25).alloc (.cells #[.int .i64 0,.string empty,.int .i64 0,.slice none 0 0] 25)
 have hN:=onext hL0 hlt
 rw [hraw] at hN
 have hO:=fun w hw=>oopOf (txt ts s) w hw hs
 generalize (sign (txt ts s)).1=o at *
 generalize txt ts s=y at *
 go_enter Tryz.func233,Tryz.ntmps233
 go_wp2_with (fail)
 refine hN.mono ?_
 rintro e w1 ⟨rfl,hL1,hF1⟩
 go_wp2_with (fail)
 refine (hO _ hL1.ops).mono ?_
 rintro e w2 ⟨rfl,hb2⟩
 have hL2:=hL1.below hb2
 have hF2:Fr r w1 w2:=Fr.below hb2
 obtain ⟨p0,p1,p2,p3,_,_,_,_⟩:=(hB1.fr hF1 (by omega)).fr hF2 (by omega)
 go_wp2
 refine wp_region_any (by kernel_rfl) ?_
 change wpAny _ _ _ _ _ _ _ (World.drew _)
 refine tkQ 0 (.int .i64 o) ?_
 refine tkQ 2 (.func (.func 242) #[.pointer (some ⟨r,0,none⟩)] #[]) ?_
 refine wpAny_ready (rs:=[1,3]) (by kernel_rfl) (by simp) ?_
 refine AllReady.cons rfl (fun K hK=>?_) ?_
 ·go_simp
  refine hK _ _ ?_
  clear hK K
  refine one0 3 fun K hK=>?_
  go_simp
  go_at_call 242
  refine (ih.lost (hL2.drewN 1) hq hb).mono ?_
  rintro e w3 ⟨rfl,hF3⟩
  go_wp2
  exact ⟨rfl,rfl,(((((Fr.al _ _).trans (Fr.al _ _)).trans hF1).trans hF2).drewN 1).trans hF3⟩
 refine AllReady.cons rfl (fun K hK=>?_) AllReady.nil
 go_simp
 go_at_call 242
 refine (ih.lost (hL2.drewN 1) hq hb).mono ?_
 rintro e w3 ⟨rfl,hF3⟩
 go_wp2
 exact ⟨rfl,rfl,(((((Fr.al _ _).trans (Fr.al _ _)).trans hF1).trans hF2).drewN 1).trans hF3⟩
theorem oop_fine_prefixed {g:St→Option (Tree × St)} (ih:Gives r G ts 251 g) (hL:Ld w r G ts s) {B D:Nat} (hB:r<B) (hBw:B≤w.heap.size) (hD:D<w.heap.size) {n:Tree} {k m:Int} {x:ByteArray} {a:Option Addr} {nn c:Nat}
  (hl:Lies (fun b=>B≤b∧b≠D∧b<w.heap.size) w n (.agg #[.int .i64 k,.string x,.int .i64 m,.slice a nn c])) (hs:0≤(sign (txt ts s)).2) {q:Tree × St} (hq:g s.next=some q) (hb:q.2.bad=false) :
  Calls Tryz.prog 233 #[.pointer (some ⟨r,0,none⟩),.agg #[.int .i64 k,.string x,.int .i64 m,.slice a nn c],.func (.func 251) #[.pointer (some ⟨r,0,none⟩)] #[]] w fun e w' =>
   ∃ v,e=.returned v∧Lies (fun b=>B≤b∧b≠D∧b<w'.heap.size) w' (.node 19 empty (sign (txt ts s)).1 [n,q.1]) v∧Ld w' r G ts q.2∧Fr r w w':=by
 have c24:=kc25
 have hr:=hL.lt
 obtain ⟨hlt,hraw⟩:=sign_raw hL hs
 have hL0:=(hL.alloc (.cells #[.int .i64 k,.string x,.int .i64 m,.slice a nn c] 25)).alloc (.cells #[.int .i64 0,.string empty,.int .i64 0,.slice none 0 0] 25)
 have hB1:=(Box4.new w (.int .i64 k) (.string x) (.int .i64 m) (.slice a nn c) 25).alloc (.cells #[.int .i64 0,.string empty,.int .i64 0,.slice none 0 0] 25)
 have hB2:=Box4.new (w.alloc (.cells #[.int .i64 k,.string x,.int .i64 m,.slice a nn c] 25)) (.int .i64 0) (.string empty) (.int .i64 0) (.slice none 0 0) 25
 rw [World.size_alloc] at hB2
 have hN:=onext hL0 hlt
 rw [hraw] at hN
 have hO:=fun w hw=>oopOf (txt ts s) w hw hs
 generalize (sign (txt ts s)).1=o at *
 generalize txt ts s=y at *
 go_enter Tryz.func233,Tryz.ntmps233
 go_wp2_with (fail)
 refine hN.mono ?_
 rintro e w1 ⟨rfl,hL1,hF1⟩
 go_wp2_with (fail)
 refine (hO _ hL1.ops).mono ?_
 rintro e w2 ⟨rfl,hb2⟩
 have hL2:=hL1.below hb2
 have hF2:Fr r w1 w2:=Fr.below hb2
 have hB1':=(hB1.fr hF1 (by omega)).fr hF2 (by omega)
 have hB2':=(hB2.fr hF1 (by omega)).fr hF2 (by omega)
 obtain ⟨p0,p1,p2,p3,e0,e1,e2,e3⟩:=id hB1'
 have hz:w.heap.size+1<w2.heap.size:=hB2'.lt
 have z1:w.heap.size+2≤w1.heap.size:=by have:=hF1.size;simpa using this
 have z2:=hF2.size
 go_wp2
 go_region_with (go_at_call 251;refine (ih.fine (hL2.drewN 1) hq hb).mono ?_;rintro e w3 ⟨v3,rfl,hl3,hL3,hF3⟩;obtain ⟨k3,x3,m3,_,rfl,a3,n3,c3,rfl⟩:=hl3.shape;obtain ⟨g0,g1,g2,g3,_,_,_,_⟩:=(hB1'.drewN 1).fr hF3 (by omega);obtain ⟨f0,f1,f2,f3,i0,i1,i2,i3⟩:=(hB2'.drewN 1).fr hF3 (by omega);have z3:w.heap.size+1<w3.heap.size:=((hB2'.drewN 1).fr hF3 (by omega)).lt)
 all_goals
  go_wp2
  refine bodyPost_ret (v:=.agg #[.int .i64 19,.string empty,.int .i64 o,.slice (some ⟨w3.heap.size,0,none⟩) 2 2]) (by simp [results,Tryz.results233,go_sem,f0,f1,f2,f3,z3,empty]) rfl ?_
  have hFw:Fr r w w3:=(((((Fr.al _ _).trans (Fr.al _ _)).trans hF1).trans hF2).drewN 1).trans hF3
  have y3:=hF3.size
  have y3':w2.heap.size≤w3.heap.size:=y3
  have n3':Lies (fun b=>B≤b∧b≠D∧b<w3.heap.size∧b≠w.heap.size+1) w3 n (.agg #[.int .i64 k,.string x,.int .i64 m,.slice a nn c]):=hl.frP (x:=r) hFw (fun b hb=>⟨hb.2.2,by omega⟩) (fun b hb=>⟨hb.1,hb.2.1,by omega,by omega⟩)
  have m3':Lies (fun b=>B≤b∧b≠D∧b<w3.heap.size∧b≠w.heap.size+1) w3 q.1 (.agg #[.int .i64 k3,.string x3,.int .i64 m3,.slice a3 n3 c3]):=hl3.to (fun b hb=>by
   have h1:w2.heap.size≤b:=hb.1
   exact ⟨by omega,by omega,hb.2,by omega⟩) (fun _ _ _=>rfl)
  have hput:=Fr.put w3 (w.heap.size+1) (.int .i64 19) (.string empty) (.int .i64 o) (.slice (some ⟨w3.heap.size,0,none⟩) 2 2)
  have n4:=n3'.frP (x:=w.heap.size+1) hput (fun b hb=>⟨hb.2.2.1,hb.2.2.2⟩) (fun b hb=>hb)
  have m4:=m3'.frP (x:=w.heap.size+1) hput (fun b hb=>⟨hb.2.2.1,hb.2.2.2⟩) (fun b hb=>hb)
  exact ⟨_,rfl,n4.rowed2P m4 (fun b hb=>by simpa using hb.2.2.1) (fun b hb=>⟨hb.1,hb.2.1,by simp;omega⟩) (by simp) ⟨by omega,by omega,by simp⟩,(hL3.put4 (by omega) _ _ _ _).alloc _,(hFw.put4 (by omega) _ _ _ _).alloc _⟩
theorem oop_lost_prefixed {g:St→Option (Tree × St)} (ih:Gives r G ts 251 g) (hL:Ld w r G ts s) {k m:Int} {x:ByteArray} {a:Option Addr} {nn c:Nat}
  (hs:0≤(sign (txt ts s)).2) {q:Tree × St} (hq:g s.next=some q) (hb:q.2.bad=true) :
  Calls Tryz.prog 233 #[.pointer (some ⟨r,0,none⟩),.agg #[.int .i64 k,.string x,.int .i64 m,.slice a nn c],.func (.func 251) #[.pointer (some ⟨r,0,none⟩)] #[]] w fun e w'=>e=.panicked (Pan ts q.2)∧Fr r w w':=by
 have c24:=kc25
 have hr:=hL.lt
 obtain ⟨hlt,hraw⟩:=sign_raw hL hs
 have hL0:=(hL.alloc (.cells #[.int .i64 k,.string x,.int .i64 m,.slice a nn c] 25)).alloc (.cells #[.int .i64 0,.string empty,.int .i64 0,.slice none 0 0] 25)
 have hB1:=(Box4.new w (.int .i64 k) (.string x) (.int .i64 m) (.slice a nn c) 25).alloc (.cells #[.int .i64 0,.string empty,.int .i64 0,.slice none 0 0] 25)
 have hN:=onext hL0 hlt
 rw [hraw] at hN
 have hO:=fun w hw=>oopOf (txt ts s) w hw hs
 generalize (sign (txt ts s)).1=o at *
 generalize txt ts s=y at *
 go_enter Tryz.func233,Tryz.ntmps233
 go_wp2_with (fail)
 refine hN.mono ?_
 rintro e w1 ⟨rfl,hL1,hF1⟩
 go_wp2_with (fail)
 refine (hO _ hL1.ops).mono ?_
 rintro e w2 ⟨rfl,hb2⟩
 have hL2:=hL1.below hb2
 have hF2:Fr r w1 w2:=Fr.below hb2
 obtain ⟨p0,p1,p2,p3,_,_,_,_⟩:=(hB1.fr hF1 (by omega)).fr hF2 (by omega)
 go_wp2
 refine wp_region_any (by kernel_rfl) ?_
 change wpAny _ _ _ _ _ _ _ (World.drew _)
 refine tkQ 0 (.int .i64 o) ?_
 refine tkQ 2 (.func (.func 251) #[.pointer (some ⟨r,0,none⟩)] #[]) ?_
 refine wpAny_ready (rs:=[1,3]) (by kernel_rfl) (by simp) ?_
 refine AllReady.cons rfl (fun K hK=>?_) ?_
 ·go_simp
  refine hK _ _ ?_
  clear hK K
  refine one0 3 fun K hK=>?_
  go_simp
  go_at_call 251
  refine (ih.lost (hL2.drewN 1) hq hb).mono ?_
  rintro e w3 ⟨rfl,hF3⟩
  go_wp2
  exact ⟨rfl,rfl,(((((Fr.al _ _).trans (Fr.al _ _)).trans hF1).trans hF2).drewN 1).trans hF3⟩
 refine AllReady.cons rfl (fun K hK=>?_) AllReady.nil
 go_simp
 go_at_call 251
 refine (ih.lost (hL2.drewN 1) hq hb).mono ?_
 rintro e w3 ⟨rfl,hF3⟩
 go_wp2
 exact ⟨rfl,rfl,(((((Fr.al _ _).trans (Fr.al _ _)).trans hF1).trans hF2).drewN 1).trans hF3⟩
end
section
variable {w w':World} {r G:Nat} {ts:List Tok} {s:St}
theorem sign_sv {j:Nat} (h:j<9):sign (sv j)=(so j,sl j):=by
 rw [sign_data]
 rcases nine h with rfl | rfl | rfl | rfl | rfl | rfl | rfl | rfl | rfl<;>rfl
theorem has_lev {ws:List ByteArray} {l:Int} (h1:∀ y∈ws,(sign y).2=l) (h2:∀ j,j<9→sl j=l→sv j∈ws) (hl:0≤l):hasW ts s ws=((sign (txt ts s)).2==l):=by
 unfold hasW
 generalize txt ts s=x
 rw [Bool.eq_iff_iff,List.any_eq_true,beq_iff_eq]
 constructor
 ·rintro ⟨y,hy,he⟩
  obtain rfl:=eqS_eq he
  exact h1 _ hy
 ·intro h
  by_cases hn:∀ j,j<9→eqS (sv j) x=false
  ·rw [sign_none x hn] at h
   exfalso
   rw [← h] at hl
   exact absurd hl (by decide)
  ·obtain ⟨j,hj,he⟩:∃ j,j<9∧eqS (sv j) x=true:=by
    refine Classical.byContradiction fun hc=>hn fun j hj=>?_
    cases hx:eqS (sv j) x
    ·rfl
    ·exact absurd ⟨j,hj,hx⟩ hc
   obtain rfl:=eqS_eq he
   rw [sign_sv hj] at h
   exact ⟨_,h2 j hj h,by unfold eqS;simp⟩
def ws0:List ByteArray:=[⟨#[61,61]⟩,⟨#[60]⟩]
def ws1:List ByteArray:=[⟨#[43]⟩,⟨#[45]⟩,⟨#[124]⟩]
def ws2:List ByteArray:=[⟨#[42]⟩,⟨#[47]⟩,⟨#[37]⟩,⟨#[38]⟩]
theorem lev0:hasW ts s ws0=((sign (txt ts s)).2==0):=by
 refine has_lev (fun y hy=>?_) (fun j hj=>?_) (by decide)
 ·simp only [ws0,List.mem_cons,List.not_mem_nil,or_false] at hy
  rcases hy with rfl | rfl<;>rw [sign_data]<;>rfl
 ·rcases nine hj with rfl | rfl | rfl | rfl | rfl | rfl | rfl | rfl | rfl<;>intro h<;>first | (exact absurd h (by decide)) | (simp [ws0,sv,signs])
theorem lev1:hasW ts s ws1=((sign (txt ts s)).2==1):=by
 refine has_lev (fun y hy=>?_) (fun j hj=>?_) (by decide)
 ·simp only [ws1,List.mem_cons,List.not_mem_nil,or_false] at hy
  rcases hy with rfl | rfl | rfl<;>rw [sign_data]<;>rfl
 ·rcases nine hj with rfl | rfl | rfl | rfl | rfl | rfl | rfl | rfl | rfl<;>intro h<;>first | (exact absurd h (by decide)) | (simp [ws1,sv,signs])
theorem lev2:hasW ts s ws2=((sign (txt ts s)).2==2):=by
 refine has_lev (fun y hy=>?_) (fun j hj=>?_) (by decide)
 ·simp only [ws2,List.mem_cons,List.not_mem_nil,or_false] at hy
  rcases hy with rfl | rfl | rfl | rfl<;>rw [sign_data]<;>rfl
 ·rcases nine hj with rfl | rfl | rfl | rfl | rfl | rfl | rfl | rfl | rfl<;>intro h<;>first | (exact absurd h (by decide)) | (simp [ws2,sv,signs])
theorem Words.three (w:World) (x y z:ByteArray) (T:TypeId) {M:Nat} (hM:M=w.heap.size):Words (w.alloc (.cells #[.string x,.string y,.string z] T)) M [x,y,z]:=by
 subst hM
 intro k hk
 have:k=0∨k=1∨k=2:=by simp at hk;omega
 rcases this with rfl | rfl | rfl<;>simp
theorem Words.four (w:World) (x y z u:ByteArray) (T:TypeId) {M:Nat} (hM:M=w.heap.size):Words (w.alloc (.cells #[.string x,.string y,.string z,.string u] T)) M [x,y,z,u]:=by
 subst hM
 intro k hk
 have:k=0∨k=1∨k=2∨k=3:=by simp at hk;omega
 rcases this with rfl | rfl | rfl | rfl<;>simp
theorem has_at1 (hL:Ld w r G ts s) {M:Nat} {T:TypeId} (hM:M=w.heap.size):Calls Tryz.prog 139 #[.pointer (some ⟨r,0,none⟩),.slice (some ⟨M,0,none⟩) 3 3] (w.alloc (.cells #[.string ⟨#[43]⟩,.string ⟨#[45]⟩,.string ⟨#[124]⟩] T)) fun e w'=>e=.returned (.bool ((sign (txt ts s)).2==1))∧w'=w.alloc (.cells #[.string ⟨#[43]⟩,.string ⟨#[45]⟩,.string ⟨#[124]⟩] T):=by
 rw [← lev1]
 exact ohas (hL.alloc _) ws1 M 3 (by decide) (by decide) (Words.three w _ _ _ T hM)
theorem has_at2 (hL:Ld w r G ts s) {M:Nat} {T:TypeId} (hM:M=w.heap.size):Calls Tryz.prog 139 #[.pointer (some ⟨r,0,none⟩),.slice (some ⟨M,0,none⟩) 4 4] (w.alloc (.cells #[.string ⟨#[42]⟩,.string ⟨#[47]⟩,.string ⟨#[37]⟩,.string ⟨#[38]⟩] T)) fun e w'=>e=.returned (.bool ((sign (txt ts s)).2==2))∧w'=w.alloc (.cells #[.string ⟨#[42]⟩,.string ⟨#[47]⟩,.string ⟨#[37]⟩,.string ⟨#[38]⟩] T):=by
 rw [← lev2]
 exact ohas (hL.alloc _) ws2 M 4 (by decide) (by decide) (Words.four w _ _ _ _ T hM)
theorem has_at0 (hL:Ld w r G ts s) {M:Nat} {T:TypeId} (hM:M=w.heap.size):Calls Tryz.prog 139 #[.pointer (some ⟨r,0,none⟩),.slice (some ⟨M,0,none⟩) 2 2] (w.alloc (.cells #[.string ⟨#[61,61]⟩,.string ⟨#[60]⟩] T)) fun e w'=>e=.returned (.bool ((sign (txt ts s)).2==0))∧w'=w.alloc (.cells #[.string ⟨#[61,61]⟩,.string ⟨#[60]⟩] T):=by
 rw [← lev0]
 exact ohas (hL.alloc _) ws0 M 2 (by decide) (by decide) (Words.two w _ _ T hM)
end
end syn
end Go.Proofs.YtfopddgjdaoidaaGreatDoor
