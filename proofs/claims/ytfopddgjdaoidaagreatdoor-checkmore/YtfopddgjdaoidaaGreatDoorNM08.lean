/- What the program's sum, product and expr answer, once those that they call do: contracts. -/
import Derived.Test.YtfopddgjdaoidaaGreatDoorNM07
set_option linter.unusedVariables false
set_option linter.unusedSimpArgs false
set_option maxRecDepth 100000
namespace Go.Proofs.YtfopddgjdaoidaaGreatDoor.syn
open Go.RowKit
open lexs (Tok Fine)
section
variable {w w':World} {r G:Nat} {ts:List Tok} {s:St}
set_option maxHeartbeats 2000000 in
theorem osum {f:Nat} (ih:∀ {g:Nat},g≤f→Gives r G ts 242 (boundF ts g 2)):Gives r G ts 232 (boundF ts (f+1) 1):=by
  intro w s q hL hq
  have c24:Tryz.prog.cellsOf 25=4:=by kernel_rfl
  have hmf:∀ (fn:Fn) (first cap:Array Value) (w:World),(Instr.makeFunc fn first cap).run Tryz.prog w=.ok (.func fn first cap) w:=fun _ _ _ _=>rfl
  have hr:=hL.lt
  have hB0:=Box4.new w (.int .i64 0) (.string empty) (.int .i64 0) (.slice none 0 0) 25
  unfold boundF at hq
  rw [if_neg (by decide)] at hq
  obtain ⟨q1,h1,h2⟩:=bind_some_is hq
  have HQ:Hid (boundL ts f 1 q1.1 q1.2=some q):=h2
  clear hq h2
  go_enter Tryz.func232,Tryz.ntmps232
  go_wp2_with (fail)
  refine (ih (jE _) (hL.alloc _) h1).mono ?_
  rintro e w1 (⟨hb,rfl,hF1⟩ | ⟨hb,v1,rfl,hl1,hL1,hF1⟩)
  · go_wp2
    exact ⟨rfl,OAns.lost ((stuck ts f).bl _ _ _ _ hb HQ.out) hb ((Fr.al _ _).trans hF1)⟩
  obtain ⟨k1,y1,m1,_,rfl,a1,n1,c1,rfl⟩:=hl1.shape
  have z1:=hF1.size
  rw [World.size_alloc] at z1 hl1
  go_wp2
  go_loopg [] f (fun k wr=>∃ (n:Tree) (s1:St) (k0 m0:Int) (x0:ByteArray) (a0:Option Addr) (n0 c0:Nat),Hid (boundL ts k 1 n s1=some q)∧k≤f∧Box4 wr w.heap.size (.int .i64 0) (.string empty) (.int .i64 0) (.slice none 0 0)∧Box4 wr w1.heap.size (.int .i64 k0) (.string x0) (.int .i64 m0) (.slice a0 n0 c0) ∧
    Lies (fun b=>w.heap.size+1≤b∧b≠w1.heap.size∧b<wr.heap.size) wr n (.agg #[.int .i64 k0,.string x0,.int .i64 m0,.slice a0 n0 c0])∧Ld wr r G ts s1∧Fr r w wr)
  case atStart =>
    refine ⟨q1.1,q1.2,k1,m1,y1,a1,n1,c1,HQ.out,jE _,(hB0.fr hF1 (by omega)).alloc _,Box4.new _ _ _ _ _ _,?_,hL1.alloc _,(((Fr.al _ _).trans hF1).alloc _)⟩
    exact hl1.frP (x:=r) (Fr.al _ _) (fun b hb=>⟨hb.2,by omega⟩) (fun b hb=>⟨by omega,by omega,by rw [World.size_alloc];omega⟩)
  case round =>
    obtain ⟨n,s1,k0,m0,x0,a0,n0,c0,HL,hkf,hb0,hb1,hLn,hLr,hFr⟩:=hrel
    have hz1:=hb1.lt
    cases gk with
    | zero=>have:=HL.out;unfold boundL at this;simp at this
    | succ k =>
      have hq2:=HL.out
      clear HL HQ
      unfold boundL at hq2
      rw [hLr.ok,if_neg (by decide)] at hq2
      have hH:=has_at1 (T:=9) hLr rfl
      have hLa:=hLr.alloc (.cells #[.string ⟨#[43]⟩,.string ⟨#[45]⟩,.string ⟨#[124]⟩] 9)
      have hb1a:=hb1.alloc (.cells #[.string ⟨#[43]⟩,.string ⟨#[45]⟩,.string ⟨#[124]⟩] 9)
      have hb0a:=hb0.alloc (.cells #[.string ⟨#[43]⟩,.string ⟨#[45]⟩,.string ⟨#[124]⟩] 9)
      have hLna:=hLn.frP (x:=r) (Q:=fun b=>w.heap.size+1≤b∧b≠w1.heap.size∧b<(wr.alloc (.cells #[.string ⟨#[43]⟩,.string ⟨#[45]⟩,.string ⟨#[124]⟩] 9)).heap.size) (Fr.al wr (.cells #[.string ⟨#[43]⟩,.string ⟨#[45]⟩,.string ⟨#[124]⟩] 9)) (fun b hb=>⟨hb.2.2,by omega⟩) (fun b hb=>⟨hb.1,hb.2.1,by rw [World.size_alloc];omega⟩)
      cases hs:((sign (txt ts s1)).2==1)
      case false =>
        rw [hs] at hH
        have hne:((sign (txt ts s1)).2 != ((1:Nat):Int))=true:=by simp only [bne];rw [show ((1:Nat):Int)=1 from rfl,hs];rfl
        rw [hne,if_pos rfl] at hq2
        simp only [Option.some.injEq] at hq2
        subst hq2
        clear hs hne
        obtain ⟨t0,t1,t2,t3,i0,i1,i2,i3⟩:=hb0
        obtain ⟨p0,p1,p2,p3,_,_,_,_⟩:=hb1
        have hz0:w.heap.size<wr.heap.size:=by omega
        go_wp2_with (fail)
        refine hH.mono ?_
        rintro e w2 ⟨rfl,hw2⟩
        obtain rfl:=hw2.symm
        go_wp2
        refine bodyPost_ret (v:=.agg #[.int .i64 k0,.string x0,.int .i64 m0,.slice a0 n0 c0]) (by simp [results,Tryz.results232,go_sem,t0,t1,t2,t3,hz0]) rfl ?_
        have hput:=Fr.put wr w.heap.size (.int .i64 k0) (.string x0) (.int .i64 m0) (.slice a0 n0 c0)
        exact .inr ⟨hLr.ok,_,rfl,(hLn.frP (x:=w.heap.size) hput (fun b hb=>⟨hb.2.2,by omega⟩) (fun b hb=>hb)).frP (x:=r) (Fr.al _ _) (fun b hb=>⟨by simpa using hb.2.2,by omega⟩) (fun b hb=>⟨by omega,by simp;omega⟩),(hLr.put4 (by omega) _ _ _ _).alloc _,(hFr.put4 (jE _) _ _ _ _).alloc _⟩
      case true =>
        rw [hs] at hH
        have hne:((sign (txt ts s1)).2 != ((1:Nat):Int))=false:=by simp only [bne];rw [show ((1:Nat):Int)=1 from rfl,hs];rfl
        rw [hne,if_neg (by decide)] at hq2
        obtain ⟨q2,hq3,hq4⟩:=bind_some_is hq2
        rw [if_neg (by decide)] at hq4
        have HQ4:Hid (boundL ts k 1 (.node 19 empty (sign (txt ts s1)).1 [n,q2.1]) q2.2=some q):=hq4
        have hsg:0≤(sign (txt ts s1)).2:=by rw [beq_iff_eq] at hs;rw [hs];decide
        clear hq2 hq4 hs hne
        obtain ⟨p0,p1,p2,p3,_,_,_,_⟩:=id hb1
        by_cases hbq:q2.2.bad=true
        · have hC:=oop_lost_product (k:=k0) (m:=m0) (x:=x0) (a:=a0) (nn:=n0) (c:=c0) (ih (show k≤f by omega)) hLa hsg hq3 hbq
          have HS:Hid (q.2=q2.2):=(stuck ts k).bl _ _ _ _ hbq HQ4.out
          clear hsg
          go_wp2_with (fail)
          refine hH.mono ?_
          rintro e w2 ⟨rfl,hw2⟩
          obtain rfl:=hw2.symm
          go_wp2_with (fail)
          refine hC.mono ?_
          rintro e w3 ⟨rfl,hF3⟩
          go_wp2
          exact ⟨rfl,OAns.lost HS.out hbq ((hFr.trans (Fr.al _ _)).trans hF3)⟩
        · have hbq':q2.2.bad=false:=by simpa using hbq
          have hC:=oop_fine_product (ih (show k≤f by omega)) hLa (B:=w.heap.size+1) (D:=w1.heap.size) (by omega) (by rw [World.size_alloc];omega) (by rw [World.size_alloc];omega) hLna hsg hq3 hbq'
          clear hsg hbq hbq'
          generalize (sign (txt ts s1)).1=o at *
          go_wp2_with (fail)
          refine hH.mono ?_
          rintro e w2 ⟨rfl,hw2⟩
          obtain rfl:=hw2.symm
          go_wp2_with (fail)
          refine hC.mono ?_
          rintro e w3 ⟨v3,rfl,hl3,hL3,hF3⟩
          obtain ⟨k3,x3,m3,_,rfl,a3,n3,c3,rfl⟩:=hl3.shape
          have hb3:=hb1a.fr hF3 (by omega)
          have hb30:=hb0a.fr hF3 (by omega)
          have hz3:=hb3.lt
          obtain ⟨t0,t1,t2,t3,i0,i1,i2,i3⟩:=id hb3
          go_wp2
          go_roundg k
          case rel =>
            refine ⟨_,q2.2,k3,m3,x3,a3,n3,c3,HQ4.out,by omega,?_,hb3.put,?_,hL3.put4 (by omega) _ _ _ _,((hFr.trans (Fr.al _ _)).trans hF3).put4 (by omega) _ _ _ _⟩
            · exact (((hb30.other (by omega) _).other (by omega) _).other (by omega) _).other (by omega) _
            · exact hl3.frP (x:=w1.heap.size) (Fr.put _ _ _ _ _ _) (fun b hb=>⟨hb.2.2,hb.2.1⟩) (fun b hb=>⟨hb.1,hb.2.1,by simpa using hb.2.2⟩)
          case measure=>omega
set_option maxHeartbeats 2000000 in
theorem oproduct {f:Nat} (ih:∀ {g:Nat},g≤f→Gives r G ts 251 (boundF ts g 3)):Gives r G ts 242 (boundF ts (f+1) 2):=by
  intro w s q hL hq
  have c24:Tryz.prog.cellsOf 25=4:=by kernel_rfl
  have hmf:∀ (fn:Fn) (first cap:Array Value) (w:World),(Instr.makeFunc fn first cap).run Tryz.prog w=.ok (.func fn first cap) w:=fun _ _ _ _=>rfl
  have hr:=hL.lt
  have hB0:=Box4.new w (.int .i64 0) (.string empty) (.int .i64 0) (.slice none 0 0) 25
  unfold boundF at hq
  rw [if_neg (by decide)] at hq
  obtain ⟨q1,h1,h2⟩:=bind_some_is hq
  have HQ:Hid (boundL ts f 2 q1.1 q1.2=some q):=h2
  clear hq h2
  go_enter Tryz.func242,Tryz.ntmps242
  go_wp2_with (fail)
  refine (ih (jE _) (hL.alloc _) h1).mono ?_
  rintro e w1 (⟨hb,rfl,hF1⟩ | ⟨hb,v1,rfl,hl1,hL1,hF1⟩)
  · go_wp2
    exact ⟨rfl,OAns.lost ((stuck ts f).bl _ _ _ _ hb HQ.out) hb ((Fr.al _ _).trans hF1)⟩
  obtain ⟨k1,y1,m1,_,rfl,a1,n1,c1,rfl⟩:=hl1.shape
  have z1:=hF1.size
  rw [World.size_alloc] at z1 hl1
  go_wp2
  go_loopg [] f (fun k wr=>∃ (n:Tree) (s1:St) (k0 m0:Int) (x0:ByteArray) (a0:Option Addr) (n0 c0:Nat),Hid (boundL ts k 2 n s1=some q)∧k≤f∧Box4 wr w.heap.size (.int .i64 0) (.string empty) (.int .i64 0) (.slice none 0 0)∧Box4 wr w1.heap.size (.int .i64 k0) (.string x0) (.int .i64 m0) (.slice a0 n0 c0) ∧
    Lies (fun b=>w.heap.size+1≤b∧b≠w1.heap.size∧b<wr.heap.size) wr n (.agg #[.int .i64 k0,.string x0,.int .i64 m0,.slice a0 n0 c0])∧Ld wr r G ts s1∧Fr r w wr)
  case atStart =>
    refine ⟨q1.1,q1.2,k1,m1,y1,a1,n1,c1,HQ.out,jE _,(hB0.fr hF1 (by omega)).alloc _,Box4.new _ _ _ _ _ _,?_,hL1.alloc _,(((Fr.al _ _).trans hF1).alloc _)⟩
    exact hl1.frP (x:=r) (Fr.al _ _) (fun b hb=>⟨hb.2,by omega⟩) (fun b hb=>⟨by omega,by omega,by rw [World.size_alloc];omega⟩)
  case round =>
    obtain ⟨n,s1,k0,m0,x0,a0,n0,c0,HL,hkf,hb0,hb1,hLn,hLr,hFr⟩:=hrel
    have hz1:=hb1.lt
    cases gk with
    | zero=>have:=HL.out;unfold boundL at this;simp at this
    | succ k =>
      have hq2:=HL.out
      clear HL HQ
      unfold boundL at hq2
      rw [hLr.ok,if_neg (by decide)] at hq2
      have hH:=has_at2 (T:=9) hLr rfl
      have hLa:=hLr.alloc (.cells #[.string ⟨#[42]⟩,.string ⟨#[47]⟩,.string ⟨#[37]⟩,.string ⟨#[38]⟩] 9)
      have hb1a:=hb1.alloc (.cells #[.string ⟨#[42]⟩,.string ⟨#[47]⟩,.string ⟨#[37]⟩,.string ⟨#[38]⟩] 9)
      have hb0a:=hb0.alloc (.cells #[.string ⟨#[42]⟩,.string ⟨#[47]⟩,.string ⟨#[37]⟩,.string ⟨#[38]⟩] 9)
      have hLna:=hLn.frP (x:=r) (Q:=fun b=>w.heap.size+1≤b∧b≠w1.heap.size∧b<(wr.alloc (.cells #[.string ⟨#[42]⟩,.string ⟨#[47]⟩,.string ⟨#[37]⟩,.string ⟨#[38]⟩] 9)).heap.size) (Fr.al wr (.cells #[.string ⟨#[42]⟩,.string ⟨#[47]⟩,.string ⟨#[37]⟩,.string ⟨#[38]⟩] 9)) (fun b hb=>⟨hb.2.2,by omega⟩) (fun b hb=>⟨hb.1,hb.2.1,by rw [World.size_alloc];omega⟩)
      cases hs:((sign (txt ts s1)).2==2)
      case false =>
        rw [hs] at hH
        have hne:((sign (txt ts s1)).2 != ((2:Nat):Int))=true:=by simp only [bne];rw [show ((2:Nat):Int)=2 from rfl,hs];rfl
        rw [hne,if_pos rfl] at hq2
        simp only [Option.some.injEq] at hq2
        subst hq2
        clear hs hne
        obtain ⟨t0,t1,t2,t3,i0,i1,i2,i3⟩:=hb0
        obtain ⟨p0,p1,p2,p3,_,_,_,_⟩:=hb1
        have hz0:w.heap.size<wr.heap.size:=by omega
        go_wp2_with (fail)
        refine hH.mono ?_
        rintro e w2 ⟨rfl,hw2⟩
        obtain rfl:=hw2.symm
        go_wp2
        refine bodyPost_ret (v:=.agg #[.int .i64 k0,.string x0,.int .i64 m0,.slice a0 n0 c0]) (by simp [results,Tryz.results242,go_sem,t0,t1,t2,t3,hz0]) rfl ?_
        have hput:=Fr.put wr w.heap.size (.int .i64 k0) (.string x0) (.int .i64 m0) (.slice a0 n0 c0)
        exact .inr ⟨hLr.ok,_,rfl,(hLn.frP (x:=w.heap.size) hput (fun b hb=>⟨hb.2.2,by omega⟩) (fun b hb=>hb)).frP (x:=r) (Fr.al _ _) (fun b hb=>⟨by simpa using hb.2.2,by omega⟩) (fun b hb=>⟨by omega,by simp;omega⟩),(hLr.put4 (by omega) _ _ _ _).alloc _,(hFr.put4 (jE _) _ _ _ _).alloc _⟩
      case true =>
        rw [hs] at hH
        have hne:((sign (txt ts s1)).2 != ((2:Nat):Int))=false:=by simp only [bne];rw [show ((2:Nat):Int)=2 from rfl,hs];rfl
        rw [hne,if_neg (by decide)] at hq2
        obtain ⟨q2,hq3,hq4⟩:=bind_some_is hq2
        rw [if_neg (by decide)] at hq4
        have HQ4:Hid (boundL ts k 2 (.node 19 empty (sign (txt ts s1)).1 [n,q2.1]) q2.2=some q):=hq4
        have hsg:0≤(sign (txt ts s1)).2:=by rw [beq_iff_eq] at hs;rw [hs];decide
        clear hq2 hq4 hs hne
        obtain ⟨p0,p1,p2,p3,_,_,_,_⟩:=id hb1
        by_cases hbq:q2.2.bad=true
        · have hC:=oop_lost_prefixed (k:=k0) (m:=m0) (x:=x0) (a:=a0) (nn:=n0) (c:=c0) (ih (show k≤f by omega)) hLa hsg hq3 hbq
          have HS:Hid (q.2=q2.2):=(stuck ts k).bl _ _ _ _ hbq HQ4.out
          clear hsg
          go_wp2_with (fail)
          refine hH.mono ?_
          rintro e w2 ⟨rfl,hw2⟩
          obtain rfl:=hw2.symm
          go_wp2_with (fail)
          refine hC.mono ?_
          rintro e w3 ⟨rfl,hF3⟩
          go_wp2
          exact ⟨rfl,OAns.lost HS.out hbq ((hFr.trans (Fr.al _ _)).trans hF3)⟩
        · have hbq':q2.2.bad=false:=by simpa using hbq
          have hC:=oop_fine_prefixed (ih (show k≤f by omega)) hLa (B:=w.heap.size+1) (D:=w1.heap.size) (by omega) (by rw [World.size_alloc];omega) (by rw [World.size_alloc];omega) hLna hsg hq3 hbq'
          clear hsg hbq hbq'
          generalize (sign (txt ts s1)).1=o at *
          go_wp2_with (fail)
          refine hH.mono ?_
          rintro e w2 ⟨rfl,hw2⟩
          obtain rfl:=hw2.symm
          go_wp2_with (fail)
          refine hC.mono ?_
          rintro e w3 ⟨v3,rfl,hl3,hL3,hF3⟩
          obtain ⟨k3,x3,m3,_,rfl,a3,n3,c3,rfl⟩:=hl3.shape
          have hb3:=hb1a.fr hF3 (by omega)
          have hb30:=hb0a.fr hF3 (by omega)
          have hz3:=hb3.lt
          obtain ⟨t0,t1,t2,t3,i0,i1,i2,i3⟩:=id hb3
          go_wp2
          go_roundg k
          case rel =>
            refine ⟨_,q2.2,k3,m3,x3,a3,n3,c3,HQ4.out,by omega,?_,hb3.put,?_,hL3.put4 (by omega) _ _ _ _,((hFr.trans (Fr.al _ _)).trans hF3).put4 (by omega) _ _ _ _⟩
            · exact (((hb30.other (by omega) _).other (by omega) _).other (by omega) _).other (by omega) _
            · exact hl3.frP (x:=w1.heap.size) (Fr.put _ _ _ _ _ _) (fun b hb=>⟨hb.2.2,hb.2.1⟩) (fun b hb=>⟨hb.1,hb.2.1,by simpa using hb.2.2⟩)
          case measure=>omega
set_option maxHeartbeats 2000000 in
theorem oexpr {f:Nat} (ih:∀ {g:Nat},g≤f→Gives r G ts 232 (boundF ts g 1)):Gives r G ts 216 (exprF ts (f+2)):=by
  intro w s q hL hq
  have c24:Tryz.prog.cellsOf 25=4:=by kernel_rfl
  have hmf:∀ (fn:Fn) (first cap:Array Value) (w:World),(Instr.makeFunc fn first cap).run Tryz.prog w=.ok (.func fn first cap) w:=fun _ _ _ _=>rfl
  have hr:=hL.lt
  have hB0:=Box4.new w (.int .i64 0) (.string empty) (.int .i64 0) (.slice none 0 0) 25
  unfold exprF at hq
  rw [hL.ok,if_neg (by decide)] at hq
  unfold boundF at hq
  rw [if_neg (by decide)] at hq
  obtain ⟨q1,h1,h2⟩:=bind_some_is hq
  have HQ:Hid (boundL ts f 0 q1.1 q1.2=some q):=h2
  clear hq h2
  go_enter Tryz.func216,Tryz.ntmps216
  go_wp2_with (fail)
  refine (ih (jE _) (hL.alloc _) h1).mono ?_
  rintro e w1 (⟨hb,rfl,hF1⟩ | ⟨hb,v1,rfl,hl1,hL1,hF1⟩)
  · go_wp2
    exact ⟨rfl,OAns.lost ((stuck ts f).bl _ _ _ _ hb HQ.out) hb ((Fr.al _ _).trans hF1)⟩
  obtain ⟨k0,x0,m0,_,rfl,a0,n0,c0,rfl⟩:=hl1.shape
  have z1:=hF1.size
  rw [World.size_alloc] at z1 hl1
  have hLr:=hL1.alloc (.cells #[.int .i64 k0,.string x0,.int .i64 m0,.slice a0 n0 c0] 25)
  have hb0:=(hB0.fr hF1 (by omega)).alloc (.cells #[.int .i64 k0,.string x0,.int .i64 m0,.slice a0 n0 c0] 25)
  have hb1:=Box4.new w1 (.int .i64 k0) (.string x0) (.int .i64 m0) (.slice a0 n0 c0) 25
  have hFr:=((Fr.al w (.cells #[.int .i64 0,.string empty,.int .i64 0,.slice none 0 0] 25)).trans hF1).alloc (.cells #[.int .i64 k0,.string x0,.int .i64 m0,.slice a0 n0 c0] 25)
  have hLn:=hl1.frP (x:=r) (Q:=fun b=>w.heap.size+1≤b∧b≠w1.heap.size∧b<(w1.alloc (.cells #[.int .i64 k0,.string x0,.int .i64 m0,.slice a0 n0 c0] 25)).heap.size) (Fr.al w1 (.cells #[.int .i64 k0,.string x0,.int .i64 m0,.slice a0 n0 c0] 25)) (fun b hb=>⟨hb.2,by omega⟩) (fun b hb=>⟨by omega,by omega,by rw [World.size_alloc];omega⟩)
  have hzr:(w1.alloc (.cells #[.int .i64 k0,.string x0,.int .i64 m0,.slice a0 n0 c0] 25)).heap.size=w1.heap.size+1:=World.size_alloc _ _
  have hH:=has_at0 (T:=9) (M:=w1.heap.size+1) hLr hzr.symm
  have hLa:=hLr.alloc (.cells #[.string ⟨#[61,61]⟩,.string ⟨#[60]⟩] 9)
  have hb1a:=hb1.alloc (.cells #[.string ⟨#[61,61]⟩,.string ⟨#[60]⟩] 9)
  have hb0a:=hb0.alloc (.cells #[.string ⟨#[61,61]⟩,.string ⟨#[60]⟩] 9)
  have hLna:=hLn.frP (x:=r) (Q:=fun b=>w.heap.size+1≤b∧b≠w1.heap.size∧b<((w1.alloc (.cells #[.int .i64 k0,.string x0,.int .i64 m0,.slice a0 n0 c0] 25)).alloc (.cells #[.string ⟨#[61,61]⟩,.string ⟨#[60]⟩] 9)).heap.size) (Fr.al _ (.cells #[.string ⟨#[61,61]⟩,.string ⟨#[60]⟩] 9)) (fun b hb=>⟨hb.2.2,by omega⟩) (fun b hb=>⟨hb.1,hb.2.1,by rw [World.size_alloc];omega⟩)
  cases f with
  | zero=>have:=HQ.out;unfold boundL at this;simp at this
  | succ k =>
    have hq2:=HQ.out
    clear HQ
    unfold boundL at hq2
    rw [hb,if_neg (by decide)] at hq2
    cases hs:((sign (txt ts q1.2)).2==0)
    case false =>
      rw [hs] at hH
      have hne:((sign (txt ts q1.2)).2 != ((0:Nat):Int))=true:=by simp only [bne];rw [show ((0:Nat):Int)=0 from rfl,hs];rfl
      rw [hne,if_pos rfl] at hq2
      simp only [Option.some.injEq] at hq2
      subst hq2
      clear hs hne
      obtain ⟨t0,t1,t2,t3,i0,i1,i2,i3⟩:=hB0.fr hF1 (by omega)
      have hz0:w.heap.size<w1.heap.size:=by omega
      go_wp2_with (fail)
      refine hH.mono ?_
      rintro e w2 ⟨rfl,hw2⟩
      obtain rfl:=hw2.symm
      go_wp2
      refine bodyPost_ret (v:=.agg #[.int .i64 k0,.string x0,.int .i64 m0,.slice a0 n0 c0]) (by simp [results,Tryz.results216,go_sem,t0,t1,t2,t3,hz0]) rfl ?_
      have hput:=Fr.put w1 w.heap.size (.int .i64 k0) (.string x0) (.int .i64 m0) (.slice a0 n0 c0)
      exact .inr ⟨hb,_,rfl,(hl1.frP (x:=w.heap.size) hput (fun b hb=>⟨hb.2,by omega⟩) (fun b hb=>hb)).frP (x:=r) ((Fr.al _ _).trans (Fr.al _ _)) (fun b hb=>⟨by simpa using hb.2,by omega⟩) (fun b hb=>⟨by omega,by simp;omega⟩),((hL1.put4 (by omega) _ _ _ _).alloc _).alloc _,((((Fr.al _ _).trans hF1).put4 (jE _) _ _ _ _).alloc _).alloc _⟩
    case true =>
      rw [hs] at hH
      have hne:((sign (txt ts q1.2)).2 != ((0:Nat):Int))=false:=by simp only [bne];rw [show ((0:Nat):Int)=0 from rfl,hs];rfl
      rw [hne,if_neg (by decide)] at hq2
      obtain ⟨q2,hq3,hq4⟩:=bind_some_is hq2
      rw [if_pos (by decide)] at hq4
      simp only [Option.some.injEq] at hq4
      subst hq4
      have hsg:0≤(sign (txt ts q1.2)).2:=by rw [beq_iff_eq] at hs;rw [hs];decide
      clear hq2 hs hne
      by_cases hbq:q2.2.bad=true
      · have hC:=oop_lost_sum (k:=k0) (m:=m0) (x:=x0) (a:=a0) (nn:=n0) (c:=c0) (ih (show k≤k+1 by omega)) hLa hsg hq3 hbq
        clear hsg
        go_wp2_with (fail)
        refine hH.mono ?_
        rintro e w2 ⟨rfl,hw2⟩
        obtain rfl:=hw2.symm
        go_wp2_with (fail)
        refine hC.mono ?_
        rintro e w3 ⟨rfl,hF3⟩
        go_wp2
        exact ⟨rfl,OAns.lost rfl hbq ((hFr.trans (Fr.al _ _)).trans hF3)⟩
      · have hbq':q2.2.bad=false:=by simpa using hbq
        have hC:=oop_fine_sum (ih (show k≤k+1 by omega)) hLa (B:=w.heap.size+1) (D:=w1.heap.size) (by omega) (by rw [World.size_alloc];omega) (by rw [World.size_alloc];omega) hLna hsg hq3 hbq'
        clear hsg hbq
        generalize (sign (txt ts q1.2)).1=o at *
        go_wp2_with (fail)
        refine hH.mono ?_
        rintro e w2 ⟨rfl,hw2⟩
        obtain rfl:=hw2.symm
        go_wp2_with (fail)
        refine hC.mono ?_
        rintro e w3 ⟨v3,rfl,hl3,hL3,hF3⟩
        obtain ⟨k3,x3,m3,_,rfl,a3,n3,c3,rfl⟩:=hl3.shape
        have hb3:=hb1a.fr hF3 (by omega)
        have hb30:=hb0a.fr hF3 (by omega)
        have hz3:=hb3.lt
        obtain ⟨t0,t1,t2,t3,i0,i1,i2,i3⟩:=id hb3
        obtain ⟨u0,u1,u2,u3,v0,v1,v2,v3⟩:=id hb30
        go_wp2
        refine bodyPost_ret (v:=.agg #[.int .i64 k3,.string x3,.int .i64 m3,.slice a3 n3 c3]) (by simp [results,Tryz.results216,go_sem,u0,u1,u2,u3]) rfl ?_
        have hF4:Fr r w _:=((hFr.trans (Fr.al _ _)).trans hF3).put4 (N:=w1.heap.size) (by omega) (.int .i64 k3) (.string x3) (.int .i64 m3) (.slice a3 n3 c3)
        have hl4:=hl3.frP (x:=w1.heap.size) (Fr.put w3 w1.heap.size (.int .i64 k3) (.string x3) (.int .i64 m3) (.slice a3 n3 c3)) (fun b hb=>⟨hb.2.2,hb.2.1⟩) (fun b hb=>hb)
        exact .inr ⟨hbq',_,rfl,hl4.frP (x:=w.heap.size) (Fr.put _ _ _ _ _ _) (fun b hb=>⟨by simpa using hb.2.2,by omega⟩) (fun b hb=>⟨by omega,by simpa using hb.2.2⟩),(hL3.put4 (by omega) _ _ _ _).put4 (by omega) _ _ _ _,hF4.put4 (jE _) _ _ _ _⟩
end
end Go.Proofs.YtfopddgjdaoidaaGreatDoor.syn
