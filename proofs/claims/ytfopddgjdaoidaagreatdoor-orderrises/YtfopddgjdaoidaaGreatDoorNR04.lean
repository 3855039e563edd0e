/- What the program's functions that read expressions answer: contracts, by how much fuel there is. -/
import Derived.Test.YtfopddgjdaoidaaGreatDoorNR03
set_option linter.unusedVariables false
set_option linter.unusedSimpArgs false
set_option maxRecDepth 100000
namespace Go.Proofs.YtfopddgjdaoidaaGreatDoor
namespace syn
open Go.RowKit
open lexs (Tok Fine)
section
variable {w w':World} {r G:Nat} {ts:List Tok} {s:St}
set_option maxHeartbeats 2000000 in
theorem osum {f:Nat} (ih:∀ {g:Nat},g≤f→Gives r G ts 242 (boundF ts g 2)):Gives r G ts 232 (boundF ts (f+1) 1):=by
 intro w s q hL hq
 have c24:=kc25
 have hmf:∀ (fn:Fn) (first cap:Array Value) (w:World),(Instr.makeFunc fn first cap).run Tryz.prog w=.ok (.func fn first cap) w:=fun _ _ _ _=>rfl
 have hr:=hL.lt
 have hB0:=Box4.new w (.int .i64 0) (.string empty) (.int .i64 0) (.slice none 0 0) 25
 unfold boundF at hq
 rw [if_neg (by decide)] at hq
 obtain ⟨q1,h1,h2⟩:=bind_some_is hq
 have HQ:Hid (boundL ts f 1 q1.1 q1.2=some q):=h2
 clear hq h2
 go_enter Tryz.func232,Tryz.ntmps232
 go_wp2_with (fail)
 refine (ih (jE _) (hL.alloc _) h1).mono ?_
 rintro e w1 (⟨hb,rfl,hF1⟩|⟨hb,v1,rfl,hl1,hL1,hF1⟩)
 ·go_wp2
  exact ⟨rfl,OAns.lost ((stuck ts f).bl _ _ _ _ hb HQ.out) hb ((Fr.al _ _).trans hF1)⟩
 obtain ⟨k1,y1,m1,_,rfl,a1,n1,c1,rfl⟩:=hl1.shape
 have z1:=hF1.size
 rw [World.size_alloc] at z1 hl1
 go_wp2
 go_loopg [] f (fun k wr=>∃ (n:Tree) (s1:St) (k0 m0:Int) (x0:ByteArray) (a0:Option Addr) (n0 c0:Nat),Hid (boundL ts k 1 n s1=some q)∧k≤f∧Box4 wr w.heap.size (.int .i64 0) (.string empty) (.int .i64 0) (.slice none 0 0)∧Box4 wr w1.heap.size (.int .i64 k0) (.string x0) (.int .i64 m0) (.slice a0 n0 c0) ∧
  Lies (fun b=>w.heap.size+1≤b∧b≠w1.heap.size∧b<wr.heap.size) wr n (.agg #[.int .i64 k0,.string x0,.int .i64 m0,.slice a0 n0 c0])∧Ld wr r G ts s1∧Fr r w wr)
 case atStart =>
  refine ⟨q1.1,q1.2,k1,m1,y1,a1,n1,c1,HQ.out,jE _,(hB0.fr hF1 (by omega)).alloc _,Box4.new _ _ _ _ _ _,?_,hL1.alloc _,(((Fr.al _ _).trans hF1).alloc _)⟩
  exact hl1.frP (x:=r) (Fr.al _ _) (fun b hb=>⟨hb.2,by omega⟩) (fun b hb=>⟨by omega,by omega,by rw [World.size_alloc];omega⟩)
 case round =>
  obtain ⟨n,s1,k0,m0,x0,a0,n0,c0,HL,hkf,hb0,hb1,hLn,hLr,hFr⟩:=hrel
  have hz1:=hb1.lt
  cases gk with
  | zero=>have:=HL.out;unfold boundL at this;simp at this
  | succ k =>
   have hq2:=HL.out
   clear HL HQ
   unfold boundL at hq2
   rw [hLr.ok,if_neg (by decide)] at hq2
   have hH:=has_at1 (T:=9) hLr rfl
   have hLa:=hLr.alloc (.cells #[.string ⟨#[43]⟩,.string ⟨#[45]⟩,.string ⟨#[124]⟩] 9)
   have hb1a:=hb1.alloc (.cells #[.string ⟨#[43]⟩,.string ⟨#[45]⟩,.string ⟨#[124]⟩] 9)
   have hb0a:=hb0.alloc (.cells #[.string ⟨#[43]⟩,.string ⟨#[45]⟩,.string ⟨#[124]⟩] 9)
   have hLna:=hLn.frP (x:=r) (Q:=fun b=>w.heap.size+1≤b∧b≠w1.heap.size∧b<(wr.alloc (.cells #[.string ⟨#[43]⟩,.string ⟨#[45]⟩,.string ⟨#[124]⟩] 9)).heap.size) (Fr.al wr (.cells #[.string ⟨#[43]⟩,.string ⟨#[45]⟩,.string ⟨#[124]⟩] 9)) (fun b hb=>⟨hb.2.2,by omega⟩) (fun b hb=>⟨hb.1,hb.2.1,by rw [World.size_alloc];omega⟩)
   cases hs:((sign (txt ts s1)).2==1)
   case false =>
    rw [hs] at hH
    have hne:((sign (txt ts s1)).2 != ((1:Nat):Int))=true:=by simp only [bne];rw [show ((1:Nat):Int)=1 from rfl,hs];rfl
    rw [hne,if_pos rfl] at hq2
    simp only [Option.some.injEq] at hq2
    subst hq2
    clear hs hne
    obtain ⟨t0,t1,t2,t3,i0,i1,i2,i3⟩:=hb0
    obtain ⟨p0,p1,p2,p3,_,_,_,_⟩:=hb1
    have hz0:w.heap.size<wr.heap.size:=by omega
    go_wp2_with (fail)
    refine hH.mono ?_
    rintro e w2 ⟨rfl,hw2⟩
    obtain rfl:=hw2.symm
    go_wp2
    refine bodyPost_ret (v:=.agg #[.int .i64 k0,.string x0,.int .i64 m0,.slice a0 n0 c0]) (by simp [results,Tryz.results232,go_sem,t0,t1,t2,t3,hz0]) rfl ?_
    have hput:=Fr.put wr w.heap.size (.int .i64 k0) (.string x0) (.int .i64 m0) (.slice a0 n0 c0)
    exact .inr ⟨hLr.ok,_,rfl,(hLn.frP (x:=w.heap.size) hput (fun b hb=>⟨hb.2.2,by omega⟩) (fun b hb=>hb)).frP (x:=r) (Fr.al _ _) (fun b hb=>⟨by simpa using hb.2.2,by omega⟩) (fun b hb=>⟨by omega,by simp;omega⟩),(hLr.put4 (by omega) _ _ _ _).alloc _,(hFr.put4 (jE _) _ _ _ _).alloc _⟩
   case true =>
    rw [hs] at hH
    have hne:((sign (txt ts s1)).2 != ((1:Nat):Int))=false:=by simp only [bne];rw [show ((1:Nat):Int)=1 from rfl,hs];rfl
    rw [hne,if_neg (by decide)] at hq2
    obtain ⟨q2,hq3,hq4⟩:=bind_some_is hq2
    rw [if_neg (by decide)] at hq4
    have HQ4:Hid (boundL ts k 1 (.node 19 empty (sign (txt ts s1)).1 [n,q2.1]) q2.2=some q):=hq4
    have hsg:0≤(sign (txt ts s1)).2:=by rw [beq_iff_eq] at hs;rw [hs];decide
    clear hq2 hq4 hs hne
    obtain ⟨p0,p1,p2,p3,_,_,_,_⟩:=id hb1
    by_cases hbq:q2.2.bad=true
    ·have hC:=oop_lost_product (k:=k0) (m:=m0) (x:=x0) (a:=a0) (nn:=n0) (c:=c0) (ih (show k≤f by omega)) hLa hsg hq3 hbq
     have HS:Hid (q.2=q2.2):=(stuck ts k).bl _ _ _ _ hbq HQ4.out
     clear hsg
     go_wp2_with (fail)
     refine hH.mono ?_
     rintro e w2 ⟨rfl,hw2⟩
     obtain rfl:=hw2.symm
     go_wp2_with (fail)
     refine hC.mono ?_
     rintro e w3 ⟨rfl,hF3⟩
     go_wp2
     exact ⟨rfl,OAns.lost HS.out hbq ((hFr.trans (Fr.al _ _)).trans hF3)⟩
    ·have hbq':q2.2.bad=false:=by simpa using hbq
     have hC:=oop_fine_product (ih (show k≤f by omega)) hLa (B:=w.heap.size+1) (D:=w1.heap.size) (by omega) (by rw [World.size_alloc];omega) (by rw [World.size_alloc];omega) hLna hsg hq3 hbq'
     clear hsg hbq hbq'
     generalize (sign (txt ts s1)).1=o at *
     go_wp2_with (fail)
     refine hH.mono ?_
     rintro e w2 ⟨rfl,hw2⟩
     obtain rfl:=hw2.symm
     go_wp2_with (fail)
     refine hC.mono ?_
     rintro e w3 ⟨v3,rfl,hl3,hL3,hF3⟩
     obtain ⟨k3,x3,m3,_,rfl,a3,n3,c3,rfl⟩:=hl3.shape
     have hb3:=hb1a.fr hF3 (by omega)
     have hb30:=hb0a.fr hF3 (by omega)
     have hz3:=hb3.lt
     obtain ⟨t0,t1,t2,t3,i0,i1,i2,i3⟩:=id hb3
     go_wp2
     go_roundg k
     case rel =>
      refine ⟨_,q2.2,k3,m3,x3,a3,n3,c3,HQ4.out,by omega,?_,hb3.put,?_,hL3.put4 (by omega) _ _ _ _,((hFr.trans (Fr.al _ _)).trans hF3).put4 (by omega) _ _ _ _⟩
      ·exact (((hb30.other (by omega) _).other (by omega) _).other (by omega) _).other (by omega) _
      ·exact hl3.frP (x:=w1.heap.size) (Fr.put _ _ _ _ _ _) (fun b hb=>⟨hb.2.2,hb.2.1⟩) (fun b hb=>⟨hb.1,hb.2.1,by simpa using hb.2.2⟩)
     case measure=>omega
set_option maxHeartbeats 2000000 in
theorem oproduct {f:Nat} (ih:∀ {g:Nat},g≤f→Gives r G ts 251 (boundF ts g 3)):Gives r G ts 242 (boundF ts (f+1) 2):=by
 intro w s q hL hq
 have c24:=kc25
 have hmf:∀ (fn:Fn) (first cap:Array Value) (w:World),(Instr.makeFunc fn first cap).run Tryz.prog w=.ok (.func fn first cap) w:=fun _ _ _ _=>rfl
 have hr:=hL.lt
 have hB0:=Box4.new w (.int .i64 0) (.string empty) (.int .i64 0) (.slice none 0 0) 25
 unfold boundF at hq
 rw [if_neg (by decide)] at hq
 obtain ⟨q1,h1,h2⟩:=bind_some_is hq
 have HQ:Hid (boundL ts f 2 q1.1 q1.2=some q):=h2
 clear hq h2
 go_enter Tryz.func242,Tryz.ntmps242
 go_wp2_with (fail)
 refine (ih (jE _) (hL.alloc _) h1).mono ?_
 rintro e w1 (⟨hb,rfl,hF1⟩|⟨hb,v1,rfl,hl1,hL1,hF1⟩)
 ·go_wp2
  exact ⟨rfl,OAns.lost ((stuck ts f).bl _ _ _ _ hb HQ.out) hb ((Fr.al _ _).trans hF1)⟩
 obtain ⟨k1,y1,m1,_,rfl,a1,n1,c1,rfl⟩:=hl1.shape
 have z1:=hF1.size
 rw [World.size_alloc] at z1 hl1
 go_wp2
 go_loopg [] f (fun k wr=>∃ (n:Tree) (s1:St) (k0 m0:Int) (x0:ByteArray) (a0:Option Addr) (n0 c0:Nat),Hid (boundL ts k 2 n s1=some q)∧k≤f∧Box4 wr w.heap.size (.int .i64 0) (.string empty) (.int .i64 0) (.slice none 0 0)∧Box4 wr w1.heap.size (.int .i64 k0) (.string x0) (.int .i64 m0) (.slice a0 n0 c0) ∧
  Lies (fun b=>w.heap.size+1≤b∧b≠w1.heap.size∧b<wr.heap.size) wr n (.agg #[.int .i64 k0,.string x0,.int .i64 m0,.slice a0 n0 c0])∧Ld wr r G ts s1∧Fr r w wr)
 case atStart =>
  refine ⟨q1.1,q1.2,k1,m1,y1,a1,n1,c1,HQ.out,jE _,(hB0.fr hF1 (by omega)).alloc _,Box4.new _ _ _ _ _ _,?_,hL1.alloc _,(((Fr.al _ _).trans hF1).alloc _)⟩
  exact hl1.frP (x:=r) (Fr.al _ _) (fun b hb=>⟨hb.2,by omega⟩) (fun b hb=>⟨by omega,by omega,by rw [World.size_alloc];omega⟩)
 case round =>
  obtain ⟨n,s1,k0,m0,x0,a0,n0,c0,HL,hkf,hb0,hb1,hLn,hLr,hFr⟩:=hrel
  have hz1:=hb1.lt
  cases gk with
  | zero=>have:=HL.out;unfold boundL at this;simp at this
  | succ k =>
   have hq2:=HL.out
   clear HL HQ
   unfold boundL at hq2
   rw [hLr.ok,if_neg (by decide)] at hq2
   have hH:=has_at2 (T:=9) hLr rfl
   have hLa:=hLr.alloc (.cells #[.string ⟨#[42]⟩,.string ⟨#[47]⟩,.string ⟨#[37]⟩,.string ⟨#[38]⟩] 9)
   have hb1a:=hb1.alloc (.cells #[.string ⟨#[42]⟩,.string ⟨#[47]⟩,.string ⟨#[37]⟩,.string ⟨#[38]⟩] 9)
   have hb0a:=hb0.alloc (.cells #[.string ⟨#[42]⟩,.string ⟨#[47]⟩,.string ⟨#[37]⟩,.string ⟨#[38]⟩] 9)
   have hLna:=hLn.frP (x:=r) (Q:=fun b=>w.heap.size+1≤b∧b≠w1.heap.size∧b<(wr.alloc (.cells #[.string ⟨#[42]⟩,.string ⟨#[47]⟩,.string ⟨#[37]⟩,.string ⟨#[38]⟩] 9)).heap.size) (Fr.al wr (.cells #[.string ⟨#[42]⟩,.string ⟨#[47]⟩,.string ⟨#[37]⟩,.string ⟨#[38]⟩] 9)) (fun b hb=>⟨hb.2.2,by omega⟩) (fun b hb=>⟨hb.1,hb.2.1,by rw [World.size_alloc];omega⟩)
   cases hs:((sign (txt ts s1)).2==2)
   case false =>
    rw [hs] at hH
    have hne:((sign (txt ts s1)).2 != ((2:Nat):Int))=true:=by simp only [bne];rw [show ((2:Nat):Int)=2 from rfl,hs];rfl
    rw [hne,if_pos rfl] at hq2
    simp only [Option.some.injEq] at hq2
    subst hq2
    clear hs hne
    obtain ⟨t0,t1,t2,t3,i0,i1,i2,i3⟩:=hb0
    obtain ⟨p0,p1,p2,p3,_,_,_,_⟩:=hb1
    have hz0:w.heap.size<wr.heap.size:=by omega
    go_wp2_with (fail)
    refine hH.mono ?_
    rintro e w2 ⟨rfl,hw2⟩
    obtain rfl:=hw2.symm
    go_wp2
    refine bodyPost_ret (v:=.agg #[.int .i64 k0,.string x0,.int .i64 m0,.slice a0 n0 c0]) (by simp [results,Tryz.results242,go_sem,t0,t1,t2,t3,hz0]) rfl ?_
    have hput:=Fr.put wr w.heap.size (.int .i64 k0) (.string x0) (.int .i64 m0) (.slice a0 n0 c0)
    exact .inr ⟨hLr.ok,_,rfl,(hLn.frP (x:=w.heap.size) hput (fun b hb=>⟨hb.2.2,by omega⟩) (fun b hb=>hb)).frP (x:=r) (Fr.al _ _) (fun b hb=>⟨by simpa using hb.2.2,by omega⟩) (fun b hb=>⟨by omega,by simp;omega⟩),(hLr.put4 (by omega) _ _ _ _).alloc _,(hFr.put4 (jE _) _ _ _ _).alloc _⟩
   case true =>
    rw [hs] at hH
    have hne:((sign (txt ts s1)).2 != ((2:Nat):Int))=false:=by simp only [bne];rw [show ((2:Nat):Int)=2 from rfl,hs];rfl
    rw [hne,if_neg (by decide)] at hq2
    obtain ⟨q2,hq3,hq4⟩:=bind_some_is hq2
    rw [if_neg (by decide)] at hq4
    have HQ4:Hid (boundL ts k 2 (.node 19 empty (sign (txt ts s1)).1 [n,q2.1]) q2.2=some q):=hq4
    have hsg:0≤(sign (txt ts s1)).2:=by rw [beq_iff_eq] at hs;rw [hs];decide
    clear hq2 hq4 hs hne
    obtain ⟨p0,p1,p2,p3,_,_,_,_⟩:=id hb1
    by_cases hbq:q2.2.bad=true
    ·have hC:=oop_lost_prefixed (k:=k0) (m:=m0) (x:=x0) (a:=a0) (nn:=n0) (c:=c0) (ih (show k≤f by omega)) hLa hsg hq3 hbq
     have HS:Hid (q.2=q2.2):=(stuck ts k).bl _ _ _ _ hbq HQ4.out
     clear hsg
     go_wp2_with (fail)
     refine hH.mono ?_
     rintro e w2 ⟨rfl,hw2⟩
     obtain rfl:=hw2.symm
     go_wp2_with (fail)
     refine hC.mono ?_
     rintro e w3 ⟨rfl,hF3⟩
     go_wp2
     exact ⟨rfl,OAns.lost HS.out hbq ((hFr.trans (Fr.al _ _)).trans hF3)⟩
    ·have hbq':q2.2.bad=false:=by simpa using hbq
     have hC:=oop_fine_prefixed (ih (show k≤f by omega)) hLa (B:=w.heap.size+1) (D:=w1.heap.size) (by omega) (by rw [World.size_alloc];omega) (by rw [World.size_alloc];omega) hLna hsg hq3 hbq'
     clear hsg hbq hbq'
     generalize (sign (txt ts s1)).1=o at *
     go_wp2_with (fail)
     refine hH.mono ?_
     rintro e w2 ⟨rfl,hw2⟩
     obtain rfl:=hw2.symm
     go_wp2_with (fail)
     refine hC.mono ?_
     rintro e w3 ⟨v3,rfl,hl3,hL3,hF3⟩
     obtain ⟨k3,x3,m3,_,rfl,a3,n3,c3,rfl⟩:=hl3.shape
     have hb3:=hb1a.fr hF3 (by omega)
     have hb30:=hb0a.fr hF3 (by omega)
     have hz3:=hb3.lt
     obtain ⟨t0,t1,t2,t3,i0,i1,i2,i3⟩:=id hb3
     go_wp2
     go_roundg k
     case rel =>
      refine ⟨_,q2.2,k3,m3,x3,a3,n3,c3,HQ4.out,by omega,?_,hb3.put,?_,hL3.put4 (by omega) _ _ _ _,((hFr.trans (Fr.al _ _)).trans hF3).put4 (by omega) _ _ _ _⟩
      ·exact (((hb30.other (by omega) _).other (by omega) _).other (by omega) _).other (by omega) _
      ·exact hl3.frP (x:=w1.heap.size) (Fr.put _ _ _ _ _ _) (fun b hb=>⟨hb.2.2,hb.2.1⟩) (fun b hb=>⟨hb.1,hb.2.1,by simpa using hb.2.2⟩)
     case measure=>omega
set_option maxHeartbeats 2000000 in
theorem oexpr {f:Nat} (ih:∀ {g:Nat},g≤f→Gives r G ts 232 (boundF ts g 1)):Gives r G ts 216 (exprF ts (f+2)):=by
 intro w s q hL hq
 have c24:=kc25
 have hmf:∀ (fn:Fn) (first cap:Array Value) (w:World),(Instr.makeFunc fn first cap).run Tryz.prog w=.ok (.func fn first cap) w:=fun _ _ _ _=>rfl
 have hr:=hL.lt
 have hB0:=Box4.new w (.int .i64 0) (.string empty) (.int .i64 0) (.slice none 0 0) 25
 unfold exprF at hq
 rw [hL.ok,if_neg (by decide)] at hq
 unfold boundF at hq
 rw [if_neg (by decide)] at hq
 obtain ⟨q1,h1,h2⟩:=bind_some_is hq
 have HQ:Hid (boundL ts f 0 q1.1 q1.2=some q):=h2
 clear hq h2
 go_enter Tryz.func216,Tryz.ntmps216
 go_wp2_with (fail)
 refine (ih (jE _) (hL.alloc _) h1).mono ?_
 rintro e w1 (⟨hb,rfl,hF1⟩|⟨hb,v1,rfl,hl1,hL1,hF1⟩)
 ·go_wp2
  exact ⟨rfl,OAns.lost ((stuck ts f).bl _ _ _ _ hb HQ.out) hb ((Fr.al _ _).trans hF1)⟩
 obtain ⟨k0,x0,m0,_,rfl,a0,n0,c0,rfl⟩:=hl1.shape
 have z1:=hF1.size
 rw [World.size_alloc] at z1 hl1
 have hLr:=hL1.alloc (.cells #[.int .i64 k0,.string x0,.int .i64 m0,.slice a0 n0 c0] 25)
 have hb0:=(hB0.fr hF1 (by omega)).alloc (.cells #[.int .i64 k0,.string x0,.int .i64 m0,.slice a0 n0 c0] 25)
 have hb1:=Box4.new w1 (.int .i64 k0) (.string x0) (.int .i64 m0) (.slice a0 n0 c0) 25
 have hFr:=((Fr.al w (.cells #[.int .i64 0,.string empty,.int .i64 0,.slice none 0 0] 25)).trans hF1).alloc (.cells #[.int .i64 k0,.string x0,.int .i64 m0,.slice a0 n0 c0] 25)
 have hLn:=hl1.frP (x:=r) (Q:=fun b=>w.heap.size+1≤b∧b≠w1.heap.size∧b<(w1.alloc (.cells #[.int .i64 k0,.string x0,.int .i64 m0,.slice a0 n0 c0] 25)).heap.size) (Fr.al w1 (.cells #[.int .i64 k0,.string x0,.int .i64 m0,.slice a0 n0 c0] 25)) (fun b hb=>⟨hb.2,by omega⟩) (fun b hb=>⟨by omega,by omega,by rw [World.size_alloc];omega⟩)
 have hzr:(w1.alloc (.cells #[.int .i64 k0,.string x0,.int .i64 m0,.slice a0 n0 c0] 25)).heap.size=w1.heap.size+1:=World.size_alloc _ _
 have hH:=has_at0 (T:=9) (M:=w1.heap.size+1) hLr hzr.symm
 have hLa:=hLr.alloc (.cells #[.string ⟨#[61,61]⟩,.string ⟨#[60]⟩] 9)
 have hb1a:=hb1.alloc (.cells #[.string ⟨#[61,61]⟩,.string ⟨#[60]⟩] 9)
 have hb0a:=hb0.alloc (.cells #[.string ⟨#[61,61]⟩,.string ⟨#[60]⟩] 9)
 have hLna:=hLn.frP (x:=r) (Q:=fun b=>w.heap.size+1≤b∧b≠w1.heap.size∧b<((w1.alloc (.cells #[.int .i64 k0,.string x0,.int .i64 m0,.slice a0 n0 c0] 25)).alloc (.cells #[.string ⟨#[61,61]⟩,.string ⟨#[60]⟩] 9)).heap.size) (Fr.al _ (.cells #[.string ⟨#[61,61]⟩,.string ⟨#[60]⟩] 9)) (fun b hb=>⟨hb.2.2,by omega⟩) (fun b hb=>⟨hb.1,hb.2.1,by rw [World.size_alloc];omega⟩)
 cases f with
 | zero=>have:=HQ.out;unfold boundL at this;simp at this
 | succ k =>
  have hq2:=HQ.out
  clear HQ
  unfold boundL at hq2
  rw [hb,if_neg (by decide)] at hq2
  cases hs:((sign (txt ts q1.2)).2==0)
  case false =>
   rw [hs] at hH
   have hne:((sign (txt ts q1.2)).2 != ((0:Nat):Int))=true:=by simp only [bne];rw [show ((0:Nat):Int)=0 from rfl,hs];rfl
   rw [hne,if_pos rfl] at hq2
   simp only [Option.some.injEq] at hq2
   subst hq2
   clear hs hne
   obtain ⟨t0,t1,t2,t3,i0,i1,i2,i3⟩:=hB0.fr hF1 (by omega)
   have hz0:w.heap.size<w1.heap.size:=by omega
   go_wp2_with (fail)
   refine hH.mono ?_
   rintro e w2 ⟨rfl,hw2⟩
   obtain rfl:=hw2.symm
   go_wp2
   refine bodyPost_ret (v:=.agg #[.int .i64 k0,.string x0,.int .i64 m0,.slice a0 n0 c0]) (by simp [results,Tryz.results216,go_sem,t0,t1,t2,t3,hz0]) rfl ?_
   have hput:=Fr.put w1 w.heap.size (.int .i64 k0) (.string x0) (.int .i64 m0) (.slice a0 n0 c0)
   exact .inr ⟨hb,_,rfl,(hl1.frP (x:=w.heap.size) hput (fun b hb=>⟨hb.2,by omega⟩) (fun b hb=>hb)).frP (x:=r) ((Fr.al _ _).trans (Fr.al _ _)) (fun b hb=>⟨by simpa using hb.2,by omega⟩) (fun b hb=>⟨by omega,by simp;omega⟩),((hL1.put4 (by omega) _ _ _ _).alloc _).alloc _,((((Fr.al _ _).trans hF1).put4 (jE _) _ _ _ _).alloc _).alloc _⟩
  case true =>
   rw [hs] at hH
   have hne:((sign (txt ts q1.2)).2 != ((0:Nat):Int))=false:=by simp only [bne];rw [show ((0:Nat):Int)=0 from rfl,hs];rfl
   rw [hne,if_neg (by decide)] at hq2
   obtain ⟨q2,hq3,hq4⟩:=bind_some_is hq2
   rw [if_pos (by decide)] at hq4
   simp only [Option.some.injEq] at hq4
   subst hq4
   have hsg:0≤(sign (txt ts q1.2)).2:=by rw [beq_iff_eq] at hs;rw [hs];decide
   clear hq2 hs hne
   by_cases hbq:q2.2.bad=true
   ·have hC:=oop_lost_sum (k:=k0) (m:=m0) (x:=x0) (a:=a0) (nn:=n0) (c:=c0) (ih (show k≤k+1 by omega)) hLa hsg hq3 hbq
    clear hsg
    go_wp2_with (fail)
    refine hH.mono ?_
    rintro e w2 ⟨rfl,hw2⟩
    obtain rfl:=hw2.symm
    go_wp2_with (fail)
    refine hC.mono ?_
    rintro e w3 ⟨rfl,hF3⟩
    go_wp2
    exact ⟨rfl,OAns.lost rfl hbq ((hFr.trans (Fr.al _ _)).trans hF3)⟩
   ·have hbq':q2.2.bad=false:=by simpa using hbq
    have hC:=oop_fine_sum (ih (show k≤k+1 by omega)) hLa (B:=w.heap.size+1) (D:=w1.heap.size) (by omega) (by rw [World.size_alloc];omega) (by rw [World.size_alloc];omega) hLna hsg hq3 hbq'
    clear hsg hbq
    generalize (sign (txt ts q1.2)).1=o at *
    go_wp2_with (fail)
    refine hH.mono ?_
    rintro e w2 ⟨rfl,hw2⟩
    obtain rfl:=hw2.symm
    go_wp2_with (fail)
    refine hC.mono ?_
    rintro e w3 ⟨v3,rfl,hl3,hL3,hF3⟩
    obtain ⟨k3,x3,m3,_,rfl,a3,n3,c3,rfl⟩:=hl3.shape
    have hb3:=hb1a.fr hF3 (by omega)
    have hb30:=hb0a.fr hF3 (by omega)
    have hz3:=hb3.lt
    obtain ⟨t0,t1,t2,t3,i0,i1,i2,i3⟩:=id hb3
    obtain ⟨u0,u1,u2,u3,v0,v1,v2,v3⟩:=id hb30
    go_wp2
    refine bodyPost_ret (v:=.agg #[.int .i64 k3,.string x3,.int .i64 m3,.slice a3 n3 c3]) (by simp [results,Tryz.results216,go_sem,u0,u1,u2,u3]) rfl ?_
    have hF4:Fr r w _:=((hFr.trans (Fr.al _ _)).trans hF3).put4 (N:=w1.heap.size) (by omega) (.int .i64 k3) (.string x3) (.int .i64 m3) (.slice a3 n3 c3)
    have hl4:=hl3.frP (x:=w1.heap.size) (Fr.put w3 w1.heap.size (.int .i64 k3) (.string x3) (.int .i64 m3) (.slice a3 n3 c3)) (fun b hb=>⟨hb.2.2,hb.2.1⟩) (fun b hb=>hb)
    exact .inr ⟨hbq',_,rfl,hl4.frP (x:=w.heap.size) (Fr.put _ _ _ _ _ _) (fun b hb=>⟨by simpa using hb.2.2,by omega⟩) (fun b hb=>⟨by omega,by simpa using hb.2.2⟩),(hL3.put4 (by omega) _ _ _ _).put4 (by omega) _ _ _ _,hF4.put4 (jE _) _ _ _ _⟩
end
end syn
namespace syn
open Go.RowKit
open lexs (Tok Fine own_shape)
section
variable (ts:List Tok) (item:Nat→St→Option (Tree × St))
def listL:Nat→List Tree→St→Option (List Tree × St)
 | 0,_,_=>none
 | f+1,ks,s=>(item f s).bind fun q=>if eqS (txt ts q.2) ⟨#[44]⟩ then listL f (ks++[q.1]) q.2.next else some (ks++[q.1],must ts ⟨#[41]⟩ q.2)
def listF (f:Nat) (s:St):Option (List Tree × St):=if eqS (txt ts s) ⟨#[41]⟩ then some ([],s.next) else listL ts item f [] s
end
section
variable {w w' w0:World} {r G B:Nat} {ts:List Tok} {s:St} {kv:Value} {ks:List Tree}
structure KO (w0:World) (B r G:Nat) (ts:List Tok) (w:World) (s:St) (kv:Value) (ks:List Tree):Prop where
 ld:Ld w r G ts s
 low:r<w0.heap.size
 b0:w0.heap.size≤B
 fr:Fr r w0 w
 kids:Kids B (fun b=>B≤b∧b<w.heap.size∧some b≠kv.ownBlock) w kv ks
theorem KO.nr (h:KO w0 B r G ts w s kv ks):kv.ownBlock≠some r:=fun e=>by have h1:=(h.kids.blk e).1;have h2:=h.low;have h3:=h.b0;omega
theorem KO.step (h:KO w0 B r G ts w s kv ks) {s':St} (hL:Ld w' r G ts s') (hF:Fr r w w'):KO w0 B r G ts w' s' kv ks :=
 ⟨hL,h.low,h.b0,h.fr.trans hF,h.kids.grown hF (.inr h.nr) (fun b hb=>⟨hb.2.1,by have:=h.low;have:=h.b0;simp;omega⟩) (fun b hb=>⟨hb.1,Nat.lt_of_lt_of_le hb.2.1 hF.size,hb.2.2⟩)⟩
theorem KO.set (h:KO w0 B r G ts w s kv ks) {N:Nat} (hN:w0.heap.size≤N) (hB:N<B) (o:Nat) (v:Value):KO w0 B r G ts (w.setCell ⟨N,o,none⟩ v) s kv ks :=
 ⟨h.ld.set (by have:=h.low;omega) o v,h.low,h.b0,h.fr.setNew hN v,h.kids.grown ((Fr.refl N w).set o v) (.inr (fun e=>by have:=(h.kids.blk e).1;omega)) (fun b hb=>⟨hb.2.1,by simp;omega⟩) (fun b hb=>⟨hb.1,by rw [World.size_setCell];exact hb.2.1,hb.2.2⟩)⟩
theorem KO.pushed {vs:List Q4} (h:KO w0 B r G ts w s kv ks) (ho:w.ownsRow B 25 4 kv ks.length (flat4 vs)) (ha:AllLie (fun b=>B≤b∧b<w.heap.size∧some b≠kv.ownBlock) w ks vs)
  {t:Tree} {q:Q4} (hl:Lies (fun b=>B≤b∧b<w.heap.size∧some b≠kv.ownBlock) w t q.v) {w4:World} {v':Value} {o:Obj} (hown':w4.ownsRow B 25 4 v' (ks.length+1) (flat4 vs++[q.1,q.2.1,q.2.2.1,q.2.2.2]))
  (hgrow:(w.alloc o).grownBy w4 kv.ownBlock) (hfr:v'.ownBlock=kv.ownBlock∨v'.ownBlock=some (w.heap.size+1)):KO w0 B r G ts w4 s v' (ks++[t]):=by
 have hG:w.grownBy w4 kv.ownBlock:=grown_trans (World.grownBy_alloc w _ _) hgrow
 have s4:=hG.size
 have hlow:=h.low
 have hb0:=h.b0
 have hQ:∀ b,(B≤b∧b<w.heap.size∧some b≠kv.ownBlock)→(B≤b∧b<w4.heap.size∧some b≠v'.ownBlock):=fun b hb=>⟨hb.1,by omega,fun e=>by
  rcases hfr with e' | e'
  ·exact hb.2.2 (e.trans e')
  ·rw [e'] at e
   have:b=w.heap.size+1:=by simpa using e
   omega⟩
 have hsame:∀ b,(B≤b∧b<w.heap.size∧some b≠kv.ownBlock)→∀ j,w4.cell? ⟨b,j,none⟩=w.cell? ⟨b,j,none⟩:=fun b hb j=>World.cell?_of_block (a:=⟨b,j,none⟩) (hG.block b hb.2.1 hb.2.2)
 refine ⟨h.ld.keep hG (fun k e=>by have h1:=(h.kids.blk e).1;omega),h.low,h.b0,?_,vs++[q],?_,AllLie.snoc (hl.to hQ hsame) (ha.to hQ hsame)⟩
 ·exact ⟨hG.os.trans h.fr.os,hG.tape.trans h.fr.tape,hG.output.trans h.fr.output,Nat.le_trans h.fr.size hG.size,fun j hj hn=>(hG.block j (Nat.lt_of_lt_of_le hj h.fr.size) (fun e=>by have:=(h.kids.blk e.symm).1;omega)).trans (h.fr.block j hj hn)⟩
 ·rw [flat4_snoc,List.length_append]
  exact hown'
theorem KO.one {t:Tree} {y0 y1 y2 y3:Value} {M:Nat} (hL:Ld w r G ts s) (hlow:r<w0.heap.size) (hb0:w0.heap.size≤B) (hF:Fr r w0 w) (hB:B≤w.heap.size) (hM:M=w.heap.size) (hl:Lies (fun b=>B≤b∧b<w.heap.size) w t (.agg #[y0,y1,y2,y3])) :
  KO w0 B r G ts (w.alloc (.cells #[y0,y1,y2,y3] 25)) s (.slice (some ⟨M,0,none⟩) 1 1) [t]:=by
 subst hM
 refine ⟨hL.alloc _,hlow,hb0,hF.alloc _,[(y0,y1,y2,y3)],World.ownsRow_lit w #[y0,y1,y2,y3] 1 hB (by decide) rfl,?_,trivial⟩
 exact hl.frP (x:=w.heap.size) (Fr.al _ _) (fun b hb=>⟨hb.2,by omega⟩) (fun b hb=>⟨hb.1,by rw [World.size_alloc];omega,fun e=>by
  have:b=w.heap.size:=by simpa [Value.ownBlock] using e
  omega⟩)
def OList (w:World) (r G:Nat) (ts:List Tok) (q:List Tree × St) (e:Ending) (w':World):Prop :=
 (q.2.bad=true∧e=.panicked (Pan ts q.2)∧Fr r w w')∨(q.2.bad=false∧q.1.length≤100001∧∃ kv,e=.returned kv∧KO w w.heap.size r G ts w' q.2 kv q.1)
theorem take_comma (hL:Ld w r G ts s) (h:eqS (txt ts s) ⟨#[44]⟩=true) {M:Nat} {T:TypeId} (hM:M=w.heap.size) :
  Calls Tryz.prog 107 #[.pointer (some ⟨r,0,none⟩),.slice (some ⟨M,0,none⟩) 2 2] (w.alloc (.cells #[.string ⟨#[44]⟩,.string ⟨#[41]⟩] T)) fun e w'=>∃ y,(y.toList==[44])=true∧e=.returned (.string y)∧Ld w' r G ts s.next∧Fr r w w':=by
 have hx:hasW ts s [⟨#[44]⟩,⟨#[41]⟩]=true:=by unfold hasW;simp [h]
 refine (otake_yes (hL.alloc _) [⟨#[44]⟩,⟨#[41]⟩] M 2 (by simp) (by decide) (Words.two w _ _ T hM) hx).mono ?_
 rintro e w' ⟨rfl,h2,h3⟩
 have hlt:=hasW_lt (by decide) hx
 refine ⟨_,?_,rfl,h2,(Fr.al _ _).trans h3⟩
 rw [← eqS_lit,← eq_raw (hL.good _ (List.getElem_mem hlt)) hL.ok (lt_get hlt) (by decide)]
 exact h
theorem take_end (hL:Ld w r G ts s) (h0:eqS (txt ts s) ⟨#[44]⟩=false) (h:eqS (txt ts s) ⟨#[41]⟩=true) {M:Nat} {T:TypeId} (hM:M=w.heap.size) :
  Calls Tryz.prog 107 #[.pointer (some ⟨r,0,none⟩),.slice (some ⟨M,0,none⟩) 2 2] (w.alloc (.cells #[.string ⟨#[44]⟩,.string ⟨#[41]⟩] T)) fun e w'=>∃ y,(y.toList==[44])=false∧e=.returned (.string y)∧Ld w' r G ts s.next∧Fr r w w':=by
 have hx:hasW ts s [⟨#[44]⟩,⟨#[41]⟩]=true:=by unfold hasW;simp [h]
 refine (otake_yes (hL.alloc _) [⟨#[44]⟩,⟨#[41]⟩] M 2 (by simp) (by decide) (Words.two w _ _ T hM) hx).mono ?_
 rintro e w' ⟨rfl,h2,h3⟩
 have hlt:=hasW_lt (by decide) hx
 refine ⟨_,?_,rfl,h2,(Fr.al _ _).trans h3⟩
 rw [← eqS_lit,← eq_raw (hL.good _ (List.getElem_mem hlt)) hL.ok (lt_get hlt) (by decide)]
 exact h0
theorem take_none (hL:Ld w r G ts s) (h0:eqS (txt ts s) ⟨#[44]⟩=false) (h:eqS (txt ts s) ⟨#[41]⟩=false) {M:Nat} {T:TypeId} (hM:M=w.heap.size) :
  Calls Tryz.prog 107 #[.pointer (some ⟨r,0,none⟩),.slice (some ⟨M,0,none⟩) 2 2] (w.alloc (.cells #[.string ⟨#[44]⟩,.string ⟨#[41]⟩] T)) fun e w'=>e=.panicked (Pan ts s)∧Fr r w w':=by
 refine (otake_no (hL.alloc _) [⟨#[44]⟩,⟨#[41]⟩] M 2 (by simp) (by decide) (Words.two w _ _ T hM) (by unfold hasW;simp [h,h0])).mono ?_
 rintro e w' ⟨rfl,rfl⟩
 exact ⟨rfl,Fr.al _ _⟩
set_option maxHeartbeats 2000000 in
theorem olist_expr {item:Nat→St→Option (Tree × St)} {f:Nat} (ih:∀ {g:Nat},g≤f→Gives r G ts 216 (item g)) (hst:∀ (g:Nat) (s:St) (q:Tree × St),s.bad=true→item g s=some q→q.2=s) (hf:f≤100000) (hL:Ld w r G ts s) {q:List Tree × St} (hq:listF ts item f s=some q) :
  Calls Tryz.prog 176 #[.pointer (some ⟨r,0,none⟩),.func (.func 216) #[.pointer (some ⟨r,0,none⟩)] #[]] w (OList w r G ts q):=by
 have c24:=kc25
 have hr:=hL.lt
 obtain ⟨i0,hi,hz0,hz1',hz2⟩:=info_parts nodeInfo
 unfold listF at hq
 cases he:eqS (txt ts s) ⟨#[41]⟩
 case true =>
  rw [he,if_pos rfl] at hq
  simp only [Option.some.injEq] at hq
  subst hq
  have hE:=skip_yes (T:=9) hL ⟨#[41]⟩ (by decide) he rfl
  have hok:s.next.bad=false:=hL.ok
  clear he
  go_enter Tryz.func176,Tryz.ntmps176
  go_wp2_with (fail)
  refine hE.mono ?_
  rintro e w1 ⟨rfl,hL1,hF1⟩
  go_wp2
  go_ret
  exact .inr ⟨hok,by simp,_,rfl,hL1,hr,jE _,hF1,Kids.nil _ _ _⟩
 case false =>
  rw [he,if_neg (by decide)] at hq
  have hE:=skip_no (T:=9) hL ⟨#[41]⟩ (by decide) he rfl
  clear he
  cases f with
  | zero=>unfold listL at hq;simp at hq
  | succ f =>
   unfold listL at hq
   obtain ⟨q1,h1,hq⟩:=bind_some_is hq
   have HQ:Hid ((if eqS (txt ts q1.2) ⟨#[44]⟩ then listL ts item f ([]++[q1.1]) q1.2.next else some ([]++[q1.1],must ts ⟨#[41]⟩ q1.2))=some q):=hq
   clear hq
   go_enter Tryz.func176,Tryz.ntmps176
   go_wp2_with (fail)
   refine hE.mono ?_
   rintro e w1 ⟨rfl,hL1,hF1⟩
   go_wp2_with (fail)
   refine (ih (Nat.le_succ _) hL1 h1).mono ?_
   rintro e w2 (⟨hb2,rfl,hF2⟩|⟨hb2,v2,rfl,hl2,hL2,hF2⟩)
   ·have HS:Hid (q.2=q1.2):=by
     have:=HQ.out
     rw [eqS_bad (by decide) hb2,if_neg (by decide)] at this
     simp only [Option.some.injEq] at this
     show _=_
     rw [← this]
     exact must_st (by decide) hb2
    go_wp2
    exact ⟨rfl,.inl ⟨by rw [HS.out];exact hb2,by rw [HS.out],hF1.trans hF2⟩⟩
   obtain ⟨k2,x2,m2,_,rfl,a2,n2,c2,rfl⟩:=hl2.shape
   have z1:=hF1.size
   have z2:=hF2.size
   have hK0:=KO.one (B:=w.heap.size) hL2 hr (jE _) (hF1.trans hF2) (by omega) rfl (hl2.low z1)
   go_wp2
   go_loopg [5] f (fun k kv wr=>∃ (ks:List Tree) (s1:St),Hid ((if eqS (txt ts s1) ⟨#[44]⟩ then listL ts item k ks s1.next else some (ks,must ts ⟨#[41]⟩ s1))=some q)∧ks.length+k≤f+1∧KO w w.heap.size r G ts wr s1 kv ks)
   case atStart=>exact ⟨[]++[q1.1],q1.2,HQ.out,by simp;omega,hK0⟩
   case round =>
    obtain ⟨ks,s1,HL,hkf,hK⟩:=hrel
    clear HQ hK0
    obtain ⟨a,c,rfl⟩:=hK.kids.shape
    cases hcm:eqS (txt ts s1) ⟨#[44]⟩
    case false =>
     have hq2:=HL.out
     rw [hcm,if_neg (by decide)] at hq2
     simp only [Option.some.injEq] at hq2
     subst hq2
     cases hen:eqS (txt ts s1) ⟨#[41]⟩
     case false =>
      rw [must_fail hen]
      go_wp2_with (fail)
      refine (take_none hK.ld hcm hen rfl).mono ?_
      rintro e w3 ⟨rfl,hF3⟩
      go_wp2
      exact ⟨rfl,.inl ⟨rfl,rfl,hK.fr.trans hF3⟩⟩
     case true =>
      have hok:s1.next.bad=false:=hK.ld.ok
      go_wp2_with (fail)
      refine (take_end hK.ld hcm hen rfl).mono ?_
      rintro e w3 ⟨y,hy,rfl,hL3,hF3⟩
      go_wp2
      go_ret
      exact .inr ⟨by simp only [must_next hen];exact hok,by dsimp only;omega,_,rfl,by simp only [must_next hen];exact hK.step hL3 hF3⟩
    case true =>
     have hq2:=HL.out
     rw [hcm,if_pos rfl] at hq2
     clear HL
     cases gk with
     | zero=>unfold listL at hq2;simp at hq2
     | succ k =>
      unfold listL at hq2
      obtain ⟨q2,h2,hq3⟩:=bind_some_is hq2
      have HQ:Hid ((if eqS (txt ts q2.2) ⟨#[44]⟩ then listL ts item k (ks++[q2.1]) q2.2.next else some (ks++[q2.1],must ts ⟨#[41]⟩ q2.2))=some q):=hq3
      clear hq2 hq3
      go_wp2_with (fail)
      refine (take_comma hK.ld hcm rfl).mono ?_
      rintro e w3 ⟨y,hy,rfl,hL3,hF3⟩
      have hK3:=hK.step hL3 hF3
      go_wp2_with (fail)
      refine (ih (show k≤f+1 by omega) hL3 h2).mono ?_
      rintro e w4 (⟨hb4,rfl,hF4⟩|⟨hb4,v4,rfl,hl4,hL4,hF4⟩)
      ·have HS:Hid (q.2=q2.2):=by
        have:=HQ.out
        rw [eqS_bad (by decide) hb4,if_neg (by decide)] at this
        simp only [Option.some.injEq] at this
        show _=_
        rw [← this]
        exact must_st (by decide) hb4
       go_wp2
       exact ⟨rfl,.inl ⟨by rw [HS.out];exact hb4,by rw [HS.out],(hK.fr.trans hF3).trans hF4⟩⟩
      obtain ⟨kc,yc,mc,_,rfl,ac,nc,cc,rfl⟩:=hl4.shape
      have hkb:∀ g,(Value.slice a ks.length c).ownBlock=some g→w.heap.size≤g∧g<w3.heap.size:=fun g hg=>hK3.kids.blk hg
      have hK4:=hK3.step hL4 hF4
      have zz:=hK4.fr.size
      have z3:=hK3.fr.size
      have hlc:Lies (fun b=>w.heap.size≤b∧b<w4.heap.size∧some b≠(Value.slice a ks.length c).ownBlock) w4 q2.1 (.agg #[.int .i64 kc,.string yc,.int .i64 mc,.slice ac nc cc]) :=
       hl4.to (fun b hb=>⟨by omega,hb.2,fun e=>by have:=(hkb b e.symm).2;omega⟩) (fun _ _ _=>rfl)
      obtain ⟨vs,ho,ha⟩:=hK4.kids
      have HA:Hid (AllLie (fun b=>w.heap.size≤b∧b<w4.heap.size∧some b≠(Value.slice a ks.length c).ownBlock) w4 ks vs):=ha
      have hlk:ks.length≤100001:=by omega
      clear ha
      go_wp2_with (at_builtin;refine wpList_append_fresh rfl (.tmp 16) (.tmp 19) 23 rfl w.heap.size 25 i0 (.agg #[.int .i64 0,.string ⟨#[]⟩,.int .i64 0,.slice none 0 0]) 4 56 Tryz.underlying23 hi hz0 hz1' hz2 rfl (by decide) _ _ _ rfl (ho.alloc _) ⟨w4.heap.size,0,none⟩ 1 1 [.int .i64 kc,.string yc,.int .i64 mc,.slice ac nc cc] rfl rfl (cells4_new _ _ _ _ _ _ _ rfl) (by intro u hu;simp at hu;rcases hu with rfl | rfl | rfl | rfl<;>rfl) (by unfold maxLen;omega) (by omega) (by simp<;>omega) (by decide) ?_;intro v' w5 hown' hgrow hfr;have hK5:=KO.pushed (q:=(.int .i64 kc,.string yc,.int .i64 mc,.slice ac nc cc)) (t:=q2.1) hK4 ho HA.out hlc hown' hgrow (by rcases hfr with e | e;exact .inl e;exact .inr (by rw [e];simp)))
      go_roundg k
      case rel=>exact ⟨_,q2.2,HQ.out,by rw [List.length_append];simp;omega,hK5⟩
      case measure=>omega
set_option maxHeartbeats 2000000 in
theorem olist_param {item:Nat→St→Option (Tree × St)} {f:Nat} (ih:∀ {g:Nat},g≤f→Gives r G ts 177 (item g)) (hst:∀ (g:Nat) (s:St) (q:Tree × St),s.bad=true→item g s=some q→q.2=s) (hf:f≤100000) (hL:Ld w r G ts s) {q:List Tree × St} (hq:listF ts item f s=some q) :
  Calls Tryz.prog 176 #[.pointer (some ⟨r,0,none⟩),.func (.func 177) #[.pointer (some ⟨r,0,none⟩)] #[]] w (OList w r G ts q):=by
 have c24:=kc25
 have hr:=hL.lt
 obtain ⟨i0,hi,hz0,hz1',hz2⟩:=info_parts nodeInfo
 unfold listF at hq
 cases he:eqS (txt ts s) ⟨#[41]⟩
 case true =>
  rw [he,if_pos rfl] at hq
  simp only [Option.some.injEq] at hq
  subst hq
  have hE:=skip_yes (T:=9) hL ⟨#[41]⟩ (by decide) he rfl
  have hok:s.next.bad=false:=hL.ok
  clear he
  go_enter Tryz.func176,Tryz.ntmps176
  go_wp2_with (fail)
  refine hE.mono ?_
  rintro e w1 ⟨rfl,hL1,hF1⟩
  go_wp2
  go_ret
  exact .inr ⟨hok,by simp,_,rfl,hL1,hr,jE _,hF1,Kids.nil _ _ _⟩
 case false =>
  rw [he,if_neg (by decide)] at hq
  have hE:=skip_no (T:=9) hL ⟨#[41]⟩ (by decide) he rfl
  clear he
  cases f with
  | zero=>unfold listL at hq;simp at hq
  | succ f =>
   unfold listL at hq
   obtain ⟨q1,h1,hq⟩:=bind_some_is hq
   have HQ:Hid ((if eqS (txt ts q1.2) ⟨#[44]⟩ then listL ts item f ([]++[q1.1]) q1.2.next else some ([]++[q1.1],must ts ⟨#[41]⟩ q1.2))=some q):=hq
   clear hq
   go_enter Tryz.func176,Tryz.ntmps176
   go_wp2_with (fail)
   refine hE.mono ?_
   rintro e w1 ⟨rfl,hL1,hF1⟩
   go_wp2_with (fail)
   refine (ih (Nat.le_succ _) hL1 h1).mono ?_
   rintro e w2 (⟨hb2,rfl,hF2⟩|⟨hb2,v2,rfl,hl2,hL2,hF2⟩)
   ·have HS:Hid (q.2=q1.2):=by
     have:=HQ.out
     rw [eqS_bad (by decide) hb2,if_neg (by decide)] at this
     simp only [Option.some.injEq] at this
     show _=_
     rw [← this]
     exact must_st (by decide) hb2
    go_wp2
    exact ⟨rfl,.inl ⟨by rw [HS.out];exact hb2,by rw [HS.out],hF1.trans hF2⟩⟩
   obtain ⟨k2,x2,m2,_,rfl,a2,n2,c2,rfl⟩:=hl2.shape
   have z1:=hF1.size
   have z2:=hF2.size
   have hK0:=KO.one (B:=w.heap.size) hL2 hr (jE _) (hF1.trans hF2) (by omega) rfl (hl2.low z1)
   go_wp2
   go_loopg [5] f (fun k kv wr=>∃ (ks:List Tree) (s1:St),Hid ((if eqS (txt ts s1) ⟨#[44]⟩ then listL ts item k ks s1.next else some (ks,must ts ⟨#[41]⟩ s1))=some q)∧ks.length+k≤f+1∧KO w w.heap.size r G ts wr s1 kv ks)
   case atStart=>exact ⟨[]++[q1.1],q1.2,HQ.out,by simp;omega,hK0⟩
   case round =>
    obtain ⟨ks,s1,HL,hkf,hK⟩:=hrel
    clear HQ hK0
    obtain ⟨a,c,rfl⟩:=hK.kids.shape
    cases hcm:eqS (txt ts s1) ⟨#[44]⟩
    case false =>
     have hq2:=HL.out
     rw [hcm,if_neg (by decide)] at hq2
     simp only [Option.some.injEq] at hq2
     subst hq2
     cases hen:eqS (txt ts s1) ⟨#[41]⟩
     case false =>
      rw [must_fail hen]
      go_wp2_with (fail)
      refine (take_none hK.ld hcm hen rfl).mono ?_
      rintro e w3 ⟨rfl,hF3⟩
      go_wp2
      exact ⟨rfl,.inl ⟨rfl,rfl,hK.fr.trans hF3⟩⟩
     case true =>
      have hok:s1.next.bad=false:=hK.ld.ok
      go_wp2_with (fail)
      refine (take_end hK.ld hcm hen rfl).mono ?_
      rintro e w3 ⟨y,hy,rfl,hL3,hF3⟩
      go_wp2
      go_ret
      exact .inr ⟨by simp only [must_next hen];exact hok,by dsimp only;omega,_,rfl,by simp only [must_next hen];exact hK.step hL3 hF3⟩
    case true =>
     have hq2:=HL.out
     rw [hcm,if_pos rfl] at hq2
     clear HL
     cases gk with
     | zero=>unfold listL at hq2;simp at hq2
     | succ k =>
      unfold listL at hq2
      obtain ⟨q2,h2,hq3⟩:=bind_some_is hq2
      have HQ:Hid ((if eqS (txt ts q2.2) ⟨#[44]⟩ then listL ts item k (ks++[q2.1]) q2.2.next else some (ks++[q2.1],must ts ⟨#[41]⟩ q2.2))=some q):=hq3
      clear hq2 hq3
      go_wp2_with (fail)
      refine (take_comma hK.ld hcm rfl).mono ?_
      rintro e w3 ⟨y,hy,rfl,hL3,hF3⟩
      have hK3:=hK.step hL3 hF3
      go_wp2_with (fail)
      refine (ih (show k≤f+1 by omega) hL3 h2).mono ?_
      rintro e w4 (⟨hb4,rfl,hF4⟩|⟨hb4,v4,rfl,hl4,hL4,hF4⟩)
      ·have HS:Hid (q.2=q2.2):=by
        have:=HQ.out
        rw [eqS_bad (by decide) hb4,if_neg (by decide)] at this
        simp only [Option.some.injEq] at this
        show _=_
        rw [← this]
        exact must_st (by decide) hb4
       go_wp2
       exact ⟨rfl,.inl ⟨by rw [HS.out];exact hb4,by rw [HS.out],(hK.fr.trans hF3).trans hF4⟩⟩
      obtain ⟨kc,yc,mc,_,rfl,ac,nc,cc,rfl⟩:=hl4.shape
      have hkb:∀ g,(Value.slice a ks.length c).ownBlock=some g→w.heap.size≤g∧g<w3.heap.size:=fun g hg=>hK3.kids.blk hg
      have hK4:=hK3.step hL4 hF4
      have zz:=hK4.fr.size
      have z3:=hK3.fr.size
      have hlc:Lies (fun b=>w.heap.size≤b∧b<w4.heap.size∧some b≠(Value.slice a ks.length c).ownBlock) w4 q2.1 (.agg #[.int .i64 kc,.string yc,.int .i64 mc,.slice ac nc cc]) :=
       hl4.to (fun b hb=>⟨by omega,hb.2,fun e=>by have:=(hkb b e.symm).2;omega⟩) (fun _ _ _=>rfl)
      obtain ⟨vs,ho,ha⟩:=hK4.kids
      have HA:Hid (AllLie (fun b=>w.heap.size≤b∧b<w4.heap.size∧some b≠(Value.slice a ks.length c).ownBlock) w4 ks vs):=ha
      have hlk:ks.length≤100001:=by omega
      clear ha
      go_wp2_with (at_builtin;refine wpList_append_fresh rfl (.tmp 16) (.tmp 19) 23 rfl w.heap.size 25 i0 (.agg #[.int .i64 0,.string ⟨#[]⟩,.int .i64 0,.slice none 0 0]) 4 56 Tryz.underlying23 hi hz0 hz1' hz2 rfl (by decide) _ _ _ rfl (ho.alloc _) ⟨w4.heap.size,0,none⟩ 1 1 [.int .i64 kc,.string yc,.int .i64 mc,.slice ac nc cc] rfl rfl (cells4_new _ _ _ _ _ _ _ rfl) (by intro u hu;simp at hu;rcases hu with rfl | rfl | rfl | rfl<;>rfl) (by unfold maxLen;omega) (by omega) (by simp<;>omega) (by decide) ?_;intro v' w5 hown' hgrow hfr;have hK5:=KO.pushed (q:=(.int .i64 kc,.string yc,.int .i64 mc,.slice ac nc cc)) (t:=q2.1) hK4 ho HA.out hlc hown' hgrow (by rcases hfr with e | e;exact .inl e;exact .inr (by rw [e];simp)))
      go_roundg k
      case rel=>exact ⟨_,q2.2,HQ.out,by rw [List.length_append];simp;omega,hK5⟩
      case measure=>omega
end
section
variable {w w' w0:World} {r G B:Nat} {ts:List Tok} {s:St}
theorem callL_list {x:ByteArray} {f:Nat}:∀ {ks:List Tree} {s:St} {q:Tree × St},s.bad=false→callL ts f x ks s true=some q→∃ p,listL ts (exprF ts) f ks s=some p∧q=(.node 18 x 0 p.1,p.2):=by
 induction f with
 | zero=>intro ks s q hb h;unfold callL at h;simp at h
 | succ f ih =>
  intro ks s q hb h
  unfold callL at h
  rw [hb] at h
  simp only [Bool.not_false,Bool.and_self,if_true] at h
  obtain ⟨q1,h1,h2⟩:=bind_some_is h
  unfold listL
  rw [h1]
  simp only [Option.bind_some]
  unfold eat at h2
  cases he:eqS (txt ts q1.2) ⟨#[44]⟩
  ·rw [he] at h2
   simp only [Bool.false_eq_true,if_false] at h2 ⊢
   cases f with
   | zero=>unfold callL at h2;simp at h2
   | succ f =>
    unfold callL at h2
    simp only [Bool.false_and,Bool.false_eq_true,if_false,Option.some.injEq] at h2
    exact ⟨_,rfl,h2.symm⟩
  ·rw [he] at h2
   simp only [if_true] at h2 ⊢
   have hb1:q1.2.next.bad=false:=by
    cases hb1:q1.2.bad
    ·exact hb1
    ·rw [eqS_bad (by decide) hb1] at he
     cases he
   exact ih hb1 h2
theorem callF_list {x:ByteArray} {f:Nat} {q:Tree × St} (hb:(must ts ⟨#[40]⟩ s).bad=false) (h:callF ts (f+1) x s=some q):∃ p,listF ts (exprF ts) f (must ts ⟨#[40]⟩ s)=some p∧q=(.node 18 x 0 p.1,p.2):=by
 unfold callF at h
 unfold listF
 cases he:eqS (txt ts (must ts ⟨#[40]⟩ s)) ⟨#[41]⟩
 ·rw [he] at h
  simp only [Bool.false_eq_true,if_false] at h ⊢
  exact callL_list hb h
 ·rw [he] at h
  simp only [if_true,Option.some.injEq] at h ⊢
  exact ⟨_,rfl,h.symm⟩
set_option maxHeartbeats 1000000 in
theorem ocall {f:Nat} (ih:∀ {g:Nat},g≤f→Gives r G ts 216 (exprF ts g)) (hf:f≤100000) (x:ByteArray) {w:World} {s:St} {p:List Tree × St} (hL:Ld w r G ts s) (hq:listF ts (exprF ts) f s=some p) :
  Calls Tryz.prog 213 #[.pointer (some ⟨r,0,none⟩),.string x] w (OAns w r G ts (.node 18 x 0 p.1,p.2)):=by
 have c24:=kc25
 have hmf:∀ (fn:Fn) (first cap:Array Value) (w:World),(Instr.makeFunc fn first cap).run Tryz.prog w=.ok (.func fn first cap) w:=fun _ _ _ _=>rfl
 have hr:=hL.lt
 have hB0:=Box4.new w (.int .i64 0) (.string empty) (.int .i64 0) (.slice none 0 0) 25
 go_enter Tryz.func213,Tryz.ntmps213
 go_wp2_with (fail)
 refine (olist_expr ih (fun g s q hb h=>(stuck ts g).e s q hb h) hf (hL.alloc _) hq).mono ?_
 rintro e w1 (⟨hb,rfl,hF1⟩|⟨hb,hlen,kv,rfl,hK⟩)
 ·go_wp2
  exact ⟨rfl,OAns.lost rfl hb ((Fr.al _ _).trans hF1)⟩
 obtain ⟨a,c,rfl⟩:=hK.kids.shape
 have z1:=hK.fr.size
 rw [World.size_alloc] at z1
 obtain ⟨q0,q1',q2,q3,t0,t1,t2,t3⟩:=hB0.fr hK.fr (by omega)
 go_wp2
 refine bodyPost_ret (v:=.agg #[.int .i64 18,.string x,.int .i64 0,.slice a p.1.length c]) (by simp [results,Tryz.results213,go_sem,q0,q1',q2,q3]) rfl ?_
 refine OAns.fin hr ((Fr.al _ _).trans hK.fr) hK.ld (jE _) (Nat.lt_succ_self _) ?_
 exact hK.kids.lies (fun b hb=>⟨by have:=hb.1;rw [World.size_alloc] at this;exact this,hb.2.1⟩) (fun g hg=>by have:=hK.kids.blk hg;rw [World.size_alloc] at this;exact this) (by omega)
theorem isNum_is (hL:Ld w r G ts s) (hlt:s.i<ts.length):isNum ts s=(ts[s.i].kind==2):=by unfold isNum;rw [here_is hL.ok,lt_get hlt]
theorem isNum_not (hlt:¬ s.i<ts.length):isNum ts s=false:=by
 unfold isNum here
 rw [List.getElem?_eq_none (by omega)]
 cases s.bad<;>rfl
def atomF (ts:List Tok) (f:Nat) (s:St):Option (Tree × St) :=
 if eqS (txt ts s) ⟨#[40]⟩ then askedF ts f s
 else if isNum ts s then some (number ts s)
 else if eqS (txt ts (whole ts s).2) ⟨#[40]⟩ then callF ts f (whole ts s).1 (whole ts s).2 else placeF ts f (whole ts s).1 (whole ts s).2
theorem has_at (hL:Ld w r G ts s) (x:ByteArray) (hx:[x].all wordy=true) {b:Bool} (h:eqS (txt ts s) x=b) {M:Nat} {T:TypeId} (hM:M=w.heap.size) :
  Calls Tryz.prog 139 #[.pointer (some ⟨r,0,none⟩),.slice (some ⟨M,0,none⟩) 1 1] (w.alloc (.cells #[.string x] T)) fun e w'=>e=.returned (.bool b)∧Ld w' r G ts s∧Fr r w w' :=
 (ohas (hL.alloc _) [x] M 1 (by simp) hx (Words.one w x T hM)).mono fun e w' ⟨h1,h2⟩=>⟨by rw [h1,has_one h],by rw [h2];exact hL.alloc _,by rw [h2];exact Fr.al _ _⟩
theorem OAns.hand {w3:World} {q:Tree × St} {x0 x1 x2 x3:Value} {w2:World} (hr:r<w.heap.size) (hF:Fr r w w2) (hz:w.heap.size<w2.heap.size) (hb:q.2.bad=false) (hl:Lies (fun b=>w2.heap.size≤b∧b<w3.heap.size) w3 q.1 (.agg #[x0,x1,x2,x3])) (hL3:Ld w3 r G ts q.2) (hF3:Fr r w2 w3) :
  OAns w r G ts q (.returned (.agg #[x0,x1,x2,x3])) ((((w3.setCell ⟨w.heap.size,0,none⟩ x0).setCell ⟨w.heap.size,1,none⟩ x1).setCell ⟨w.heap.size,2,none⟩ x2).setCell ⟨w.heap.size,3,none⟩ x3) :=
 OAns.fin (t:=q.1) (s3:=q.2) hr (hF.trans hF3) hL3 (jE _) hz hl
set_option maxHeartbeats 2000000 in
theorem oatom {f:Nat} (hf:f≤100000) (ihA:Gives r G ts 215 (askedF ts f)) (ih0:∀ {g:Nat},g<f→Gives r G ts 216 (exprF ts g)):Gives r G ts 255 (atomF ts f):=by
 intro w s q hL hq
 have c24:=kc25
 have c29:=kc99
 have hr:=hL.lt
 have hB0:=Box4.new w (.int .i64 0) (.string empty) (.int .i64 0) (.slice none 0 0) 25
 have hL0:=hL.alloc (.cells #[.int .i64 0,.string empty,.int .i64 0,.slice none 0 0] 25)
 have hlen:=hL.len
 unfold atomF at hq
 cases hp:eqS (txt ts s) ⟨#[40]⟩
 case true =>
  rw [hp,if_pos rfl] at hq
  have hH:=has_at (T:=9) hL0 ⟨#[40]⟩ (by decide) hp (M:=w.heap.size+1) (by simp)
  go_enter Tryz.func255,Tryz.ntmps255
  go_wp2_with (fail)
  refine hH.mono ?_
  rintro e w1 ⟨rfl,hL1,hF1⟩
  have z1:=hF1.size
  rw [World.size_alloc] at z1
  go_wp2_with (fail)
  refine (ihA hL1 hq).mono ?_
  rintro e w9 (⟨hb9,rfl,hF9⟩|⟨hb9,v9,rfl,hl9,hL9,hF9⟩)
  ·go_wp2
   exact ⟨rfl,OAns.lost rfl hb9 (((Fr.al _ _).trans hF1).trans hF9)⟩
  obtain ⟨k9,x9,m9,_,rfl,a9,n9,c9,rfl⟩:=hl9.shape
  obtain ⟨q0,q1',q2,q3,t0,t1,t2,t3⟩:=(hB0.fr hF1 (by omega)).fr hF9 (by omega)
  go_wp2
  exact bodyPost_ret (v:=.agg #[.int .i64 k9,.string x9,.int .i64 m9,.slice a9 n9 c9]) (by simp [results,Tryz.results255,go_sem,q0,q1',q2,q3]) rfl (OAns.hand hr ((Fr.al _ _).trans hF1) (by omega) hb9 hl9 hL9 hF9)
 case false =>
  rw [hp,if_neg (by decide)] at hq
  have hH:=has_at (T:=9) hL0 ⟨#[40]⟩ (by decide) hp (M:=w.heap.size+1) (by simp)
  cases hn:isNum ts s
  case true =>
   rw [hn,if_pos rfl] at hq
   simp only [Option.some.injEq] at hq
   subst hq
   have hlt:s.i<ts.length:=by
    rcases Nat.lt_or_ge s.i ts.length with h | h
    ·exact h
    ·rw [isNum_not (by omega)] at hn
     cases hn
   have hk:=(isNum_is hL hlt).symm.trans hn
   go_enter Tryz.func255,Tryz.ntmps255
   go_wp2_with (fail)
   refine hH.mono ?_
   rintro e w1 ⟨rfl,hL1,hF1⟩
   have z1:=hF1.size
   rw [World.size_alloc] at z1
   obtain ⟨a,cp,h0,h1,h2⟩:=hL1.c0
   obtain rfl:=h2 hlt
   obtain ⟨y0,y1,y2⟩:=hL1.tok s.i hlt
   have hnn:0<ts.length - s.i:=by omega
   have hnn':ts.length - s.i≤3000:=by omega
   generalize ts[s.i].kind=tk at *
   generalize ts.length - s.i=nl at *
   go_wp2_with (fail)
   refine (onumber hL1).mono ?_
   rintro e w9 (⟨hb9,rfl,hF9⟩|⟨hb9,v9,rfl,hl9,hL9,hF9⟩)
   ·go_wp2
    exact ⟨rfl,OAns.lost rfl hb9 (((Fr.al _ _).trans hF1).trans hF9)⟩
   obtain ⟨k9,x9,m9,_,rfl,a9,n9,c9,rfl⟩:=hl9.shape
   obtain ⟨q0,q1',q2,q3,t0,t1,t2,t3⟩:=(hB0.fr hF1 (by omega)).fr hF9 (by omega)
   go_wp2
   exact bodyPost_ret (v:=.agg #[.int .i64 k9,.string x9,.int .i64 m9,.slice a9 n9 c9]) (by simp [results,Tryz.results255,go_sem,q0,q1',q2,q3]) rfl (OAns.hand hr ((Fr.al _ _).trans hF1) (by omega) hb9 hl9 hL9 hF9)
  case false =>
   rw [hn,if_neg (by decide)] at hq
   obtain ⟨f,rfl⟩:∃ f',f=f'+1:=by
    cases f with
    | zero=>unfold callF placeF at hq;simp at hq
    | succ f=>exact ⟨f,rfl⟩
   have ih:∀ {g:Nat},g≤f→Gives r G ts 216 (exprF ts g):=fun h=>ih0 (by omega)
   have hf':f≤100000:=by omega
   by_cases hlt:s.i<ts.length
   ·have hk:=(isNum_is hL hlt).symm.trans hn
    go_enter Tryz.func255,Tryz.ntmps255
    go_wp2_with (fail)
    refine hH.mono ?_
    rintro e w1 ⟨rfl,hL1,hF1⟩
    have z1:=hF1.size
    rw [World.size_alloc] at z1
    obtain ⟨a,cp,h0,h1,h2⟩:=hL1.c0
    obtain rfl:=h2 hlt
    obtain ⟨y0,y1,y2⟩:=hL1.tok s.i hlt
    have hnn:0<ts.length - s.i:=by omega
    have hnn':ts.length - s.i≤3000:=by omega
    generalize ts[s.i].kind=tk at *
    generalize ts.length - s.i=nl at *
    go_wp2_with (fail)
    refine (olongName hL1).mono ?_
    rintro e w2 (⟨hb2,rfl,hF2⟩|⟨hb2,rfl,hL2,hF2⟩)
    ·have HS:Hid (q.2=(whole ts s).2):=by
      rw [eqS_bad (by decide) hb2,if_neg (by decide)] at hq
      exact (stuck ts (f+1)).p _ _ _ hb2 hq
     go_wp2
     exact ⟨rfl,OAns.lost HS.out hb2 (((Fr.al _ _).trans hF1).trans hF2)⟩
    have z2:=hF2.size
    cases hp2:eqS (txt ts (whole ts s).2) ⟨#[40]⟩
    case true =>
     rw [hp2,if_pos rfl] at hq
     have em:=must_next hp2
     obtain ⟨p,hp3,rfl⟩:=callF_list (by rw [em];exact hb2) hq
     rw [em] at hp3
     clear em
     go_wp2_with (fail)
     refine (skip_yes hL2 ⟨#[40]⟩ (by decide) hp2 rfl).mono ?_
     rintro e w3 ⟨rfl,hL3,hF3⟩
     have z3:=hF3.size
     go_wp2_with (fail)
     refine (ocall ih hf' _ hL3 hp3).mono ?_
     rintro e w9 (⟨hb9,rfl,hF9⟩|⟨hb9,v9,rfl,hl9,hL9,hF9⟩)
     ·go_wp2
      exact ⟨rfl,OAns.lost rfl hb9 (((((Fr.al _ _).trans hF1).trans hF2).trans hF3).trans hF9)⟩
     obtain ⟨k9,x9,m9,_,rfl,a9,n9,c9,rfl⟩:=hl9.shape
     obtain ⟨q0,q1',q2,q3,t0,t1,t2,t3⟩:=(((hB0.fr hF1 (by omega)).fr hF2 (by omega)).fr hF3 (by omega)).fr hF9 (by omega)
     go_wp2
     exact bodyPost_ret (v:=.agg #[.int .i64 k9,.string x9,.int .i64 m9,.slice a9 n9 c9]) (by simp [results,Tryz.results255,go_sem,q0,q1',q2,q3]) rfl (OAns.hand hr ((((Fr.al _ _).trans hF1).trans hF2).trans hF3) (by omega) hb9 hl9 hL9 hF9)
    case false =>
     rw [hp2,if_neg (by decide)] at hq
     go_wp2_with (fail)
     refine (skip_no hL2 ⟨#[40]⟩ (by decide) hp2 rfl).mono ?_
     rintro e w3 ⟨rfl,hL3,hF3⟩
     have z3:=hF3.size
     go_wp2_with (fail)
     refine (oplace (ih (jE _)) _ hL3 hq).mono ?_
     rintro e w9 (⟨hb9,rfl,hF9⟩|⟨hb9,v9,rfl,hl9,hL9,hF9⟩)
     ·go_wp2
      exact ⟨rfl,OAns.lost rfl hb9 (((((Fr.al _ _).trans hF1).trans hF2).trans hF3).trans hF9)⟩
     obtain ⟨k9,x9,m9,_,rfl,a9,n9,c9,rfl⟩:=hl9.shape
     obtain ⟨q0,q1',q2,q3,t0,t1,t2,t3⟩:=(((hB0.fr hF1 (by omega)).fr hF2 (by omega)).fr hF3 (by omega)).fr hF9 (by omega)
     go_wp2
     exact bodyPost_ret (v:=.agg #[.int .i64 k9,.string x9,.int .i64 m9,.slice a9 n9 c9]) (by simp [results,Tryz.results255,go_sem,q0,q1',q2,q3]) rfl (OAns.hand hr ((((Fr.al _ _).trans hF1).trans hF2).trans hF3) (by omega) hb9 hl9 hL9 hF9)
   ·go_enter Tryz.func255,Tryz.ntmps255
    go_wp2_with (fail)
    refine hH.mono ?_
    rintro e w1 ⟨rfl,hL1,hF1⟩
    have z1:=hF1.size
    rw [World.size_alloc] at z1
    obtain ⟨a,cp,h0,h1,h2⟩:=hL1.c0
    have hnn:ts.length - s.i=0:=by omega
    rw [hnn] at h0
    go_wp2_with (fail)
    refine (olongName hL1).mono ?_
    rintro e w2 (⟨hb2,rfl,hF2⟩|⟨hb2,rfl,hL2,hF2⟩)
    ·have HS:Hid (q.2=(whole ts s).2):=by
      rw [eqS_bad (by decide) hb2,if_neg (by decide)] at hq
      exact (stuck ts (f+1)).p _ _ _ hb2 hq
     go_wp2
     exact ⟨rfl,OAns.lost HS.out hb2 (((Fr.al _ _).trans hF1).trans hF2)⟩
    have z2:=hF2.size
    cases hp2:eqS (txt ts (whole ts s).2) ⟨#[40]⟩
    case true =>
     rw [hp2,if_pos rfl] at hq
     have em:=must_next hp2
     obtain ⟨p,hp3,rfl⟩:=callF_list (by rw [em];exact hb2) hq
     rw [em] at hp3
     clear em
     go_wp2_with (fail)
     refine (skip_yes hL2 ⟨#[40]⟩ (by decide) hp2 rfl).mono ?_
     rintro e w3 ⟨rfl,hL3,hF3⟩
     have z3:=hF3.size
     go_wp2_with (fail)
     refine (ocall ih hf' _ hL3 hp3).mono ?_
     rintro e w9 (⟨hb9,rfl,hF9⟩|⟨hb9,v9,rfl,hl9,hL9,hF9⟩)
     ·go_wp2
      exact ⟨rfl,OAns.lost rfl hb9 (((((Fr.al _ _).trans hF1).trans hF2).trans hF3).trans hF9)⟩
     obtain ⟨k9,x9,m9,_,rfl,a9,n9,c9,rfl⟩:=hl9.shape
     obtain ⟨q0,q1',q2,q3,t0,t1,t2,t3⟩:=(((hB0.fr hF1 (by omega)).fr hF2 (by omega)).fr hF3 (by omega)).fr hF9 (by omega)
     go_wp2
     exact bodyPost_ret (v:=.agg #[.int .i64 k9,.string x9,.int .i64 m9,.slice a9 n9 c9]) (by simp [results,Tryz.results255,go_sem,q0,q1',q2,q3]) rfl (OAns.hand hr ((((Fr.al _ _).trans hF1).trans hF2).trans hF3) (by omega) hb9 hl9 hL9 hF9)
    case false =>
     rw [hp2,if_neg (by decide)] at hq
     go_wp2_with (fail)
     refine (skip_no hL2 ⟨#[40]⟩ (by decide) hp2 rfl).mono ?_
     rintro e w3 ⟨rfl,hL3,hF3⟩
     have z3:=hF3.size
     go_wp2_with (fail)
     refine (oplace (ih (jE _)) _ hL3 hq).mono ?_
     rintro e w9 (⟨hb9,rfl,hF9⟩|⟨hb9,v9,rfl,hl9,hL9,hF9⟩)
     ·go_wp2
      exact ⟨rfl,OAns.lost rfl hb9 (((((Fr.al _ _).trans hF1).trans hF2).trans hF3).trans hF9)⟩
     obtain ⟨k9,x9,m9,_,rfl,a9,n9,c9,rfl⟩:=hl9.shape
     obtain ⟨q0,q1',q2,q3,t0,t1,t2,t3⟩:=(((hB0.fr hF1 (by omega)).fr hF2 (by omega)).fr hF3 (by omega)).fr hF9 (by omega)
     go_wp2
     exact bodyPost_ret (v:=.agg #[.int .i64 k9,.string x9,.int .i64 m9,.slice a9 n9 c9]) (by simp [results,Tryz.results255,go_sem,q0,q1',q2,q3]) rfl (OAns.hand hr ((((Fr.al _ _).trans hF1).trans hF2).trans hF3) (by omega) hb9 hl9 hL9 hF9)
set_option maxHeartbeats 2000000 in
theorem oprefixed {f:Nat} (ihU:Gives r G ts 251 (unaryF ts f)) (ihA:Gives r G ts 255 (atomF ts f)):Gives r G ts 251 (unaryF ts (f+1)):=by
 intro w s q hL hq
 have c24:=kc25
 have hr:=hL.lt
 have hB0:=Box4.new w (.int .i64 0) (.string empty) (.int .i64 0) (.slice none 0 0) 25
 have hL0:=hL.alloc (.cells #[.int .i64 0,.string empty,.int .i64 0,.slice none 0 0] 25)
 unfold unaryF at hq
 cases hm:eqS (txt ts s) ⟨#[45]⟩
 case true =>
  rw [hm,if_pos rfl] at hq
  obtain ⟨q1,h1,h2⟩:=bind_some_is hq
  simp only [Option.some.injEq] at h2
  subst h2
  have hE:=skip_yes (T:=9) hL0 ⟨#[45]⟩ (by decide) hm (M:=w.heap.size+1) (by simp)
  go_enter Tryz.func251,Tryz.ntmps251
  go_wp2_with (fail)
  refine hE.mono ?_
  rintro e w1 ⟨rfl,hL1,hF1⟩
  have z1:=hF1.size
  rw [World.size_alloc] at z1
  go_wp2_with (fail)
  refine (ihU hL1 h1).mono ?_
  rintro e w2 (⟨hb2,rfl,hF2⟩|⟨hb2,v2,rfl,hl2,hL2,hF2⟩)
  ·go_wp2
   exact ⟨rfl,OAns.lost rfl hb2 (((Fr.al _ _).trans hF1).trans hF2)⟩
  obtain ⟨k,y,m,_,rfl,a,n,c,rfl⟩:=hl2.shape
  have z2:=hF2.size
  have hz:w.heap.size<w2.heap.size:=by omega
  obtain ⟨q0,q1',q2,q3,t0,t1,t2,t3⟩:=(hB0.fr hF1 (by omega)).fr hF2 (by omega)
  go_wp2
  refine bodyPost_ret (v:=.agg #[.int .i64 20,.string empty,.int .i64 0,.slice (some ⟨w2.heap.size,0,none⟩) 1 1]) (by simp [results,Tryz.results251,go_sem,q0,q1',q2,q3,hz,empty]) rfl ?_
  have hput:=Fr.put w2 w.heap.size (.int .i64 20) (.string empty) (.int .i64 0) (.slice (some ⟨w2.heap.size,0,none⟩) 1 1)
  have hl3:=(hl2.fr (show w.heap.size<w1.heap.size by omega) hput).low (show w.heap.size≤w1.heap.size by omega)
  exact .inr ⟨hb2,_,rfl,hl3.rowed (by simp;omega) (by simp),(hL2.put4 (by omega) _ _ _ _).alloc _,((((Fr.al _ _).trans hF1).trans hF2).put4 (jE _) _ _ _ _).alloc _⟩
 case false =>
  rw [hm,if_neg (by decide)] at hq
  have hE:=skip_no (T:=9) hL0 ⟨#[45]⟩ (by decide) hm (M:=w.heap.size+1) (by simp)
  cases hx:eqS (txt ts s) ⟨#[33]⟩
  case true =>
   rw [hx,if_pos rfl] at hq
   obtain ⟨q1,h1,h2⟩:=bind_some_is hq
   simp only [Option.some.injEq] at h2
   subst h2
   go_enter Tryz.func251,Tryz.ntmps251
   go_wp2_with (fail)
   refine hE.mono ?_
   rintro e w0 ⟨rfl,hL00,hF0⟩
   go_wp2_with (fail)
   refine (skip_yes hL00 ⟨#[33]⟩ (by decide) hx rfl).mono ?_
   rintro e w1 ⟨rfl,hL1,hF1'⟩
   have hF1:=hF0.trans hF1'
   have z1:=hF1.size
   rw [World.size_alloc] at z1
   go_wp2_with (fail)
   refine (ihU hL1 h1).mono ?_
   rintro e w2 (⟨hb2,rfl,hF2⟩|⟨hb2,v2,rfl,hl2,hL2,hF2⟩)
   ·go_wp2
    exact ⟨rfl,OAns.lost rfl hb2 (((Fr.al _ _).trans hF1).trans hF2)⟩
   obtain ⟨k,y,m,_,rfl,a,n,c,rfl⟩:=hl2.shape
   have z2:=hF2.size
   have hz:w.heap.size<w2.heap.size:=by omega
   obtain ⟨q0,q1',q2,q3,t0,t1,t2,t3⟩:=(hB0.fr hF1 (by omega)).fr hF2 (by omega)
   go_wp2
   refine bodyPost_ret (v:=.agg #[.int .i64 21,.string empty,.int .i64 0,.slice (some ⟨w2.heap.size,0,none⟩) 1 1]) (by simp [results,Tryz.results251,go_sem,q0,q1',q2,q3,hz,empty]) rfl ?_
   have hput:=Fr.put w2 w.heap.size (.int .i64 21) (.string empty) (.int .i64 0) (.slice (some ⟨w2.heap.size,0,none⟩) 1 1)
   have hl3:=(hl2.fr (show w.heap.size<w1.heap.size by omega) hput).low (show w.heap.size≤w1.heap.size by omega)
   exact .inr ⟨hb2,_,rfl,hl3.rowed (by simp;omega) (by simp),(hL2.put4 (by omega) _ _ _ _).alloc _,((((Fr.al _ _).trans hF1).trans hF2).put4 (jE _) _ _ _ _).alloc _⟩
  case false =>
   rw [hx,if_neg (by decide)] at hq
   go_enter Tryz.func251,Tryz.ntmps251
   go_wp2_with (fail)
   refine hE.mono ?_
   rintro e w0 ⟨rfl,hL00,hF0⟩
   go_wp2_with (fail)
   refine (skip_no hL00 ⟨#[33]⟩ (by decide) hx rfl).mono ?_
   rintro e w1 ⟨rfl,hL1,hF1'⟩
   have hF1:=hF0.trans hF1'
   have z1:=hF1.size
   rw [World.size_alloc] at z1
   go_wp2_with (fail)
   refine (ihA hL1 (q:=q) hq).mono ?_
   rintro e w9 (⟨hb9,rfl,hF9⟩|⟨hb9,v9,rfl,hl9,hL9,hF9⟩)
   ·go_wp2
    exact ⟨rfl,OAns.lost rfl hb9 (((Fr.al _ _).trans hF1).trans hF9)⟩
   obtain ⟨k9,x9,m9,_,rfl,a9,n9,c9,rfl⟩:=hl9.shape
   obtain ⟨q0,q1',q2,q3,t0,t1,t2,t3⟩:=(hB0.fr hF1 (by omega)).fr hF9 (by omega)
   go_wp2
   exact bodyPost_ret (v:=.agg #[.int .i64 k9,.string x9,.int .i64 m9,.slice a9 n9 c9]) (by simp [results,Tryz.results251,go_sem,q0,q1',q2,q3]) rfl (OAns.hand hr ((Fr.al _ _).trans hF1) (by omega) hb9 hl9 hL9 hF9)
end
end syn
namespace syn
open Go.RowKit
open lexs (Tok Fine)
section
variable {r G:Nat} {ts:List Tok}
structure GoodX (r G:Nat) (ts:List Tok) (f:Nat):Prop where
 e:Gives r G ts 216 (exprF ts f)
 b1:Gives r G ts 232 (boundF ts f 1)
 b2:Gives r G ts 242 (boundF ts f 2)
 b3:Gives r G ts 251 (boundF ts f 3)
 u:Gives r G ts 251 (unaryF ts f)
 a:Gives r G ts 215 (askedF ts f)
 p:∀ (x:ByteArray) {w:World} {s:St} {q:Tree × St},Ld w r G ts s→placeF ts f x s=some q→Calls Tryz.prog 217 #[.pointer (some ⟨r,0,none⟩),.string x] w (OAns w r G ts q)
theorem goodX0:GoodX r G ts 0 :=
 ⟨fun {w s q} _ h=>by simp [exprF] at h,fun {w s q} _ h=>by simp [boundF] at h,fun {w s q} _ h=>by simp [boundF] at h,fun {w s q} _ h=>by simp [boundF] at h,fun {w s q} _ h=>by simp [unaryF] at h,fun {w s q} _ h=>by simp [askedF] at h,fun x {w s q} _ h=>by simp [placeF] at h⟩
theorem goodX (r G:Nat) (ts:List Tok) (F:Nat) (hF:F≤100000):∀ {f:Nat},f≤F→GoodX r G ts f:=by
 induction F with
 | zero => intro f hf;obtain rfl:f=0:=by omega
           exact goodX0
 | succ F ih =>
  intro f hf
  have IH:∀ {g:Nat},g≤F→GoodX r G ts g:=ih (by omega)
  rcases Nat.lt_or_ge f (F+1) with h | h
  ·exact IH (by omega)
  obtain rfl:f=F+1:=by omega
  refine ⟨?_,osum fun h=>(IH h).b2,oproduct fun h=>(IH h).b3,?_,oprefixed (IH (jE _)).u (oatom (by omega) (IH (jE _)).a (fun h=>(IH (by omega)).e)),oenclosed (IH (jE _)).e,fun x {w s q} hL hq=>oplace (IH (jE _)).e x hL hq⟩
  ·cases F with
   | zero =>
    intro w s q hL h
    unfold exprF at h
    rw [hL.ok] at h
    simp [boundF] at h
   | succ F=>exact oexpr fun h=>(IH (by omega)).b1
  ·intro w s q hL h
   unfold boundF at h
   rw [if_pos (by decide)] at h
   exact (IH (jE _)).u hL h
end
end syn
end Go.Proofs.YtfopddgjdaoidaaGreatDoor
