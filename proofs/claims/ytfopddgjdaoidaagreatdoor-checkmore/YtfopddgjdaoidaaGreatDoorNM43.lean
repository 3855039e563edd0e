/- What the program's visit comes to at an import: a contract. -/
import Derived.Test.YtfopddgjdaoidaaGreatDoorNM29
set_option linter.unusedVariables false
set_option linter.unusedSimpArgs false
set_option maxRecDepth 100000
namespace Go.Proofs.YtfopddgjdaoidaaGreatDoor.face
open Go.RowKit Go.Maps
open syn
theorem kid_at {Bm:Nat} {w wr:World} {ks:List Tree} {g o j:Nat} (hat:LiesAt (·<Bm) w ks g o) (hg:g<Bm) (hB:Below Bm w wr) (hj:j<ks.length) :
    ∃ (k:Int) (x:ByteArray) (m:Int) (a:Option Addr) (n c:Nat),wr.cell? ⟨g,o+j * 4,none⟩=some (.int .i64 k)∧wr.cell? ⟨g,o+j * 4+1,none⟩=some (.string x)∧wr.cell? ⟨g,o+j * 4+2,none⟩=some (.int .i64 m)∧wr.cell? ⟨g,o+j * 4+3,none⟩=some (.slice a n c)∧Lies (·<Bm) wr ks[j] (.agg #[.int .i64 k,.string x,.int .i64 m,.slice a n c]):=by
  have hat':=hat.to (w':=wr) (Q:=(·<Bm)) (fun _ h=>h) (fun b hb o=>hB.cell (p:=⟨b,o,none⟩) hb) hg
  obtain ⟨v,⟨x0,x1,x2,x3,rfl,c0,c1,c2,c3⟩,hl⟩:=hat'.get j hj
  obtain ⟨kk,xx,mm,_,he,aa,na,ca,rfl⟩:=hl.shape
  injection he with he
  simp only [Array.mk.injEq,List.cons.injEq,and_true] at he
  obtain ⟨rfl,rfl,rfl,rfl⟩:=he
  exact ⟨kk,xx,mm,aa,na,ca,c0,c1,c2,c3,hl⟩
theorem Lies.alloc' {Bm:Nat} {w:World} {t:Tree} {v:Value} (h:Lies (·<Bm) w t v) (hB:Bm≤w.heap.size) (o:Obj):Lies (·<Bm) (w.alloc o) t v :=
  h.to (fun _ h=>h) (fun b hb o'=>((Below.refl w.heap.size w).alloc (jE _) o).cell (p:=⟨b,o',none⟩) (Nat.lt_of_lt_of_le hb hB))
theorem inL_get:∀ {ks:List Tree} (h:InL ks) (j:Nat) (hj:j<ks.length),InT ks[j]
  | [],_,j,hj=>by simp at hj
  | t :: r,h,0,hj=>by unfold InL at h;exact h.1
  | t :: r,h,j+1,hj=>by unfold InL at h;exact inL_get h.2 j (by simpa using hj)
set_option maxHeartbeats 2000000 in
theorem vIn {D Bm Bd:Nat} {mp:Option Nat} {vv pv iv:Value} {mo:ByteArray} {V:List VarD} {P:List (ProcD × Value)} {is ms ns qs:List ByteArray} (t:Tree) (v:Value) (w:World) (at_:Int) (hv:Lies (·<Bm) w t v) (hIn:InT t)
    (h:DI w D Bm Bd mp vv pv iv mo V P is ms ns qs at_) (h0:0≤at_) (hm:at_+cntT t≤1000000) :
    Calls Tryz.prog 69 #[.pointer (some ⟨D,0,none⟩),v] w fun e w'=>e=.returned (.tuple #[])∧Below Bm w w'∧DI w' D Bm Bd mp vv pv iv mo V P is ms ns qs (at_+cntT t):=by
  have c24:Tryz.prog.cellsOf 25=4:=by kernel_rfl
  match t with
  | .node k x m ks =>
    have ih:∀ i (hi:i<ks.length) (v:Value) (w:World) (at_:Int),Lies (·<Bm) w ks[i] v→InT ks[i]→DI w D Bm Bd mp vv pv iv mo V P is ms ns qs at_→0≤at_→at_+cntT ks[i]≤1000000 →
        Calls Tryz.prog 69 #[.pointer (some ⟨D,0,none⟩),v] w fun e w'=>e=.returned (.tuple #[])∧Below Bm w w'∧DI w' D Bm Bd mp vv pv iv mo V P is ms ns qs (at_+cntT ks[i]):=fun i hi v w at_ h1 h2 h3 h4 h5=>vIn ks[i] v w at_ h1 h2 h3 h4 h5
    unfold Lies at hv
    obtain ⟨a,c,rfl,hl,hk⟩:=hv
    unfold InT at hIn
    obtain ⟨hkk,hin⟩:=hIn
    have hcT:cntT (.node k x m ks)=1+cntL ks:=by unfold cntT;omega
    rw [hcT] at hm ⊢
    have hcp:=cntL_pos ks
    have k1:¬ k=1:=by omega
    have k2:¬ k=2:=by omega
    have k3:¬ k=3:=by omega
    have k4:¬ k=4:=by omega
    have k5:¬ k=5:=by omega
    have hmm:=h.lm
    have hdd:=h.ld
    have hd:=h.dc.lt
    have hI0:=h.below ((Below.refl _ _).alloc (jE _) (.cells #[.int .i64 k,.string x,.int .i64 m,.slice a ks.length c] 25))
    have hI1:=hI0.setAt (at_+1)
    have hB1:Below Bm w ((w.alloc (.cells #[.int .i64 k,.string x,.int .i64 m,.slice a ks.length c] 25)).setCell ⟨D,7,none⟩ (.int .i64 (at_+1))):=((Below.refl _ _).alloc (by omega) _).setCell (by show Bm≤D;omega) _
    have m7:=hI0.dc.c7
    have mf:=hI0.dc.fz 7
    rw [World.setCell_alloc_past (hn:=hd)] at hI1 hB1
    clear hI0 h
    go_enter Tryz.func69,Tryz.ntmps69
    go_wp2
    clear m7 mf
    simp only [show (k==1)=false by simpa using k1,show (k==2)=false by simpa using k2,show (k==3)=false by simpa using k3,show (k==4)=false by simpa using k4,show (k==5)=false by simpa using k5]
    go_loopw [75] (fun t wr=>∃ j:Nat,j≤ks.length∧t=.int .i64 j∧DI wr D Bm Bd mp vv pv iv mo V P is ms ns qs (at_+1+cntL (ks.take j))∧Below Bm w wr) (fun t _=>ks.length - (intOf t).toNat)
    case atStart=>exact ⟨0,Nat.zero_le _,rfl,by simpa [cntL] using hI1,hB1⟩
    case round =>
      clear hI1 hB1
      obtain ⟨j,hj,rfl,hI,hB⟩:=hrel
      by_cases hlt:j<ks.length
      · obtain ⟨g,o,rfl,hg,hat⟩:=hk (by intro e;rw [e] at hlt;simp at hlt)
        obtain ⟨kk,xx,mm,aa,na,ca,c0,c1,c2,c3,hx⟩:=kid_at hat hg hB hlt
        have hs1:=cntL_take ks j hlt
        have hs2:=cntL_take_le ks (j+1)
        have hs3:=cntT_pos ks[j]
        have hs4:=cntL_pos (ks.take j)
        have hsz:=hB.size
        have hC:=ih j hlt _ (wr.alloc (.cells #[.int .i64 kk,.string xx,.int .i64 mm,.slice aa na ca] 25)) _ (Lies.alloc' hx (by omega) _) (inL_get hin j hlt) (hI.below ((Below.refl _ _).alloc (jE _) _)) (by omega) (by omega)
        have hgl:g<wr.heap.size:=by have:g<Bm:=hg;omega
        rw [show at_+1+cntL (ks.take j)+cntT ks[j]=at_+1+cntL (ks.take (j+1)) by omega] at hC
        clear ih hI hx hk hat
        go_wp2_with (go_at_call 69;refine hC.mono ?_;rintro e w1 ⟨rfl,hb1,hI1⟩)
        go_roundw
        case rel=>exact ⟨j+1,by omega,by go_num,hI1,(hB.alloc (by omega) _).trans hb1⟩
        case measure=>simp [intOf];omega
      · rw [List.take_of_length_le (by omega)] at hI
        go_wp2
        go_end0
        exact ⟨rfl,hB,by rw [show at_+(1+cntL ks)=at_+1+cntL ks by omega];exact hI⟩
termination_by SizeOf.sizeOf t
decreasing_by exact kid_lt hi
end Go.Proofs.YtfopddgjdaoidaaGreatDoor.face
namespace Go.Proofs.YtfopddgjdaoidaaGreatDoor.face
open syn
def parD:List ByteArray→List (ByteArray × Bool)→Int→Option (Int × Int)
  | _,[],_=>none
  | seen,q :: r,a=>if among seen q.1 then some (5,a) else if 5≤seen.length then some (1,a) else parD (seen++[q.1]) r (a+1)
def lookD:List Kid→List ByteArray→List ByteArray→Int→Option (Int × Int)
  | [],_,_,_=>none
  | .imp x :: r,ms,ns,a=>if among ms x then some (5,a) else if 6≤ms.length then some (1,a) else lookD r (ms++[x]) ns (a+1)
  | .var x p l n :: r,ms,ns,a=>if among ns x then some (5,a) else if 20≤ns.length then some (1,a) else
    match rangeF n a with
    | some e=>some e
    | none=>lookD r ms (ns++[x]) (a+cntT (Kid.var x p l n).tree)
  | .proc x p l g ps b :: r,ms,ns,a=>if among ns x then some (5,a) else if 20≤ns.length then some (1,a) else if 5<ps.length then some (1,a) else
    match parD [] ps (a+1) with
    | some e=>some e
    | none=>lookD r ms (ns++[x]) (a+cntT (Kid.proc x p l g ps b).tree)
theorem parD_is:∀ (ps:List (ByteArray × Bool)) (seen:List ByteArray) (a:Int),seen.length+ps.length≤5→parD seen ps a=parF seen ps a
  | [],_,_,_=>rfl
  | q :: r,seen,a,h=>by
    unfold parD parF
    simp only [List.length_cons] at h
    split
    · rfl
    · rw [if_neg (by omega)]
      exact parD_is r _ _ (by simp;omega)
theorem eqS_swap (x y:ByteArray):eqS x y=eqS y x:=by unfold eqS;rw [Bool.eq_iff_iff];simp only [beq_iff_eq];exact eq_comm
theorem among_own (m:ByteArray) (is:List ByteArray) (x:ByteArray):among (m :: is) x=(among is x || eqS x m):=by
  show (eqS m x || among is x)=_
  rw [eqS_swap m x,Bool.or_comm]
theorem lookD_is (m:ByteArray):∀ (K:List Kid) (is ns:List ByteArray) (a:Int),lookD K (m :: is) ns a=lookK m K is ns a
  | [],_,_,_=>rfl
  | .imp x :: r,is,ns,a=>by
    unfold lookD lookK
    rw [among_own]
    split
    · rfl
    · simp only [List.length_cons]
      by_cases h:5≤is.length
      · rw [if_pos (by omega),if_pos h]
      · rw [if_neg (by omega),if_neg h]
        exact lookD_is m r (is++[x]) ns (a+1)
  | .var x p l n :: r,is,ns,a=>by
    unfold lookD lookK
    split
    · rfl
    · split
      · rfl
      · cases rangeF n a with
        | some e=>rfl
        | none=>exact lookD_is m r is _ _
  | .proc x p l g ps b :: r,is,ns,a=>by
    unfold lookD lookK
    split
    · rfl
    · split
      · rfl
      · split
        · rfl
        · rename_i h5
          rw [parD_is ps [] (a+1) (by simp;omega)]
          cases parF [] ps (a+1) with
          | some e=>rfl
          | none=>exact lookD_is m r is _ _
end Go.Proofs.YtfopddgjdaoidaaGreatDoor.face
namespace Go.Proofs.YtfopddgjdaoidaaGreatDoor.face
open Go.RowKit Go.Maps
open syn
def VR (Bm:Nat) (w:World) (r:Option (Int × Int)) (G:World→Prop) (e:Ending) (w':World):Prop :=
  Below Bm w w'∧((∃ q,r=some q∧e=.panicked (Thrown q.1 q.2))∨(r=none∧e=.returned (.tuple #[])∧G w'))
def enterR (L:List ByteArray) (x:ByteArray) (most:Nat) (a:Int):Option (Int × Int):=if among L x then some (5,a) else if most≤L.length then some (1,a) else none
theorem enterR_twice {L:List ByteArray} {x:ByteArray} {most:Nat} {a:Int} (h:among L x=true):enterR L x most a=some (5,a):=by unfold enterR;rw [if_pos h]
theorem enterR_many {L:List ByteArray} {x:ByteArray} {most:Nat} {a:Int} (h:among L x=false) (h2:most≤L.length):enterR L x most a=some (1,a):=by unfold enterR;rw [if_neg (by simp [h]),if_pos h2]
theorem enterR_ok {L:List ByteArray} {x:ByteArray} {most:Nat} {a:Int} (h:among L x=false) (h2:L.length<most):enterR L x most a=none:=by unfold enterR;rw [if_neg (by simp [h]),if_neg (by omega)]
set_option maxHeartbeats 2000000 in
theorem vPar {D Bm Bd b0:Nat} {vv pv iv:Value} {mo:ByteArray} {V:List VarD} {P:List (ProcD × Value)} {is ms ns qs:List ByteArray} (x:ByteArray) (l:Int) (v:Value) (w:World) (at_:Int) (hv:Lies (·<Bm) w (.node 5 x l []) v)
    (h:DI w D Bm Bd (some b0) vv pv iv mo V P is ms ns qs at_) (h0:0≤at_) (hm:at_≤1000000) (hx:x.size≤16) (hq:qs.length≤5) :
    Calls Tryz.prog 69 #[.pointer (some ⟨D,0,none⟩),v] w (VR Bm w (enterR qs x 5 at_) fun w'=>DI w' D Bm Bd (some b0) vv pv iv mo V P is ms ns (qs++[x]) (at_+1)):=by
  unfold Lies at hv
  obtain ⟨a,c,rfl,_,_⟩:=hv
  simp only [List.length_nil] at *
  have hb0:=h.lp b0 rfl
  have hb1:=(h.op b0 rfl).lt
  have c24:Tryz.prog.cellsOf 25=4:=by kernel_rfl
  have hmm:=h.lm
  have hdd:=h.ld
  have hd:=h.dc.lt
  have hI0:=h.below ((Below.refl _ _).alloc (jE _) (.cells #[.int .i64 5,.string x,.int .i64 l,.slice a 0 c] 25))
  have hI:DI (w.alloc (.cells #[.int .i64 5,.string x,.int .i64 l,.slice a 0 c] 25)).drew D Bm Bd (some b0) vv pv iv mo V P is ms ns qs at_:=hI0.below ⟨rfl,rfl,rfl,jE _,fun _ _=>rfl⟩
  clear hI0
  have hQ:Q4 w.heap.size (.int .i64 5) (.string x) (.int .i64 l) (.slice a 0 c) (w.alloc (.cells #[.int .i64 5,.string x,.int .i64 l,.slice a 0 c] 25)).drew:=⟨by simp,by simp,by simp,by simp⟩
  have hB:Below w.heap.size w (w.alloc (.cells #[.int .i64 5,.string x,.int .i64 l,.slice a 0 c] 25)).drew:=((Below.refl _ _).alloc (jE _) _).drew
  have hS:(w.alloc (.cells #[.int .i64 5,.string x,.int .i64 l,.slice a 0 c] 25)).drew.cell? ⟨D,6,none⟩=some (.map (some b0))∧(w.alloc (.cells #[.int .i64 5,.string x,.int .i64 l,.slice a 0 c] 25)).drew.cell? ⟨w.heap.size,1,none⟩=some (.string x):=⟨hI.dc.c6,hQ.2.1⟩
  go_enter Tryz.func69,Tryz.ntmps69
  go_wp2
  refine wp_region_held_drew (S:=fun W=>W.cell? ⟨D,6,none⟩=some (.map (some b0))∧W.cell? ⟨w.heap.size,1,none⟩=some (.string x)) (by kernel_rfl) hS (fun hHeld=>?_)
  clear hHeld
  generalize (w.alloc (.cells #[.int .i64 5,.string x,.int .i64 l,.slice a 0 c] 25)).drew=W at *
  refine tkH (i:=0) (v:=.pointer (some ⟨D,0,none⟩)) rfl (Or.inl ⟨by rfl,fun w hSw=>by obtain ⟨z0,z1⟩:=hSw;go_simp⟩) hS ?_
  simp only [Act.put,jA,jB,jC]
  refine tkH (i:=1) (v:=.pointer (some ⟨D,0,none⟩)) rfl (Or.inl ⟨by rfl,fun w hSw=>by obtain ⟨z0,z1⟩:=hSw;go_simp⟩) hS ?_
  simp only [Act.put,jA,jB,jC]
  refine tkH (i:=2) (v:=.pointer (some ⟨D,0,none⟩)) rfl (Or.inl ⟨by rfl,fun w hSw=>by obtain ⟨z0,z1⟩:=hSw;go_simp⟩) hS ?_
  simp only [Act.put,jA,jB,jC]
  refine tkH (i:=3) (v:=.pointer (some ⟨D,6,none⟩)) rfl (Or.inl ⟨by rfl,fun w hSw=>by obtain ⟨z0,z1⟩:=hSw;go_simp⟩) hS ?_
  simp only [Act.put,jA,jB,jC]
  refine tkH (i:=4) (v:=.map (some b0)) rfl (Or.inl ⟨by rfl,fun w hSw=>by obtain ⟨z0,z1⟩:=hSw;go_simp⟩) hS ?_
  simp only [Act.put,jA,jB,jC]
  refine tkH (i:=5) (v:=.pointer (some ⟨w.heap.size,1,none⟩)) rfl (Or.inl ⟨by rfl,fun w hSw=>by obtain ⟨z0,z1⟩:=hSw;go_simp⟩) hS ?_
  simp only [Act.put,jA,jB,jC]
  refine tkH (i:=6) (v:=.string x) rfl (Or.inl ⟨by rfl,fun w hSw=>by obtain ⟨z0,z1⟩:=hSw;go_simp⟩) hS ?_
  simp only [Act.put,jA,jB,jC]
  refine wpAnyH_ready (rs:=[7]) (by kernel_rfl) (by simp) ?_
  refine AllReadyH.cons rfl (fun K hK=>?_) AllReadyH.nil
  go_simp
  go_at_call 117
  refine (oEnter D b0 qs x 5 at_ W hI.dc.c7 (hI.op b0 rfl) hI.aq (by omega) (by omega) (by omega)).mono ?_
  rintro e W1 (⟨hm1,rfl,hb⟩ | ⟨hm1,hle,rfl,hb⟩ | ⟨hm1,hlt,rfl,hom,ham,hg⟩)
  · go_wp2
    exact ⟨rfl,(hB.trans (hb.mono hB.size)).mono (by omega),.inl ⟨_,enterR_twice hm1,rfl⟩⟩
  · go_wp2
    exact ⟨rfl,(hB.trans (hb.mono hB.size)).mono (by omega),.inl ⟨_,enterR_many hm1 hle,rfl⟩⟩
  have hI1:=hI.enterP hom ham hg
  go_wp2
  replace hQ:=Q4.grown hQ hg (by simp;omega)
  have hB1:Below Bm w W1:=(hB.mono (by omega)).grown hg (by have:=hB.size;omega) (fun k e=>by cases e;omega)
  clear hB hom ham hg hI
  refine hK.out _ _ ⟨hI1.dc.c6,hQ.2.1⟩ (fun hHeld=>?_)
  clear hK K hHeld
  refine wpAnyH_done (by kernel_rfl) ?_ _
  obtain ⟨q0,q1,q2,q3⟩:=id hQ
  have m7:=hI1.dc.c7
  have mf:=hI1.dc.fz 7
  have hI2:=hI1.setAt (at_+1)
  have hB2:=hB1.setCell (p:=⟨D,7,none⟩) (by show Bm≤D;omega) (.int .i64 (at_+1))
  clear hI1 hB1
  go_wp2
  clear m7 mf
  go_loopw [75] (fun t wr=>t=.int .i64 0∧wr=W1.setCell ⟨D,7,none⟩ (.int .i64 (at_+1))) (fun t _=>0)
  case atStart=>exact ⟨rfl,rfl⟩
  case round =>
    obtain ⟨rfl,rfl⟩:=hrel
    go_wp2
    go_end0
    exact ⟨hB2,.inr ⟨enterR_ok hm1 hlt,rfl,hI2⟩⟩
set_option maxHeartbeats 4000000 in
theorem vImp {D Bm Bd:Nat} {mp:Option Nat} {vv pv iv:Value} {mo:ByteArray} {V:List VarD} {P:List (ProcD × Value)} {is ms ns qs:List ByteArray} (x:ByteArray) (l:Int) (v:Value) (w:World) (at_:Int) (hv:Lies (·<Bm) w (.node 2 x l []) v)
    (h:DI w D Bm Bd mp vv pv iv mo V P is ms ns qs at_) (h0:0≤at_) (hm:at_≤1000000) (hx:x.size≤16) (hq:ms.length≤6) (his:is.length≤6) :
    Calls Tryz.prog 69 #[.pointer (some ⟨D,0,none⟩),v] w (VR Bm w (enterR ms x 6 at_) fun w'=>∃ iv',DI w' D Bm Bd mp vv pv iv' mo V P (is++[x]) (ms++[x]) ns qs (at_+1)):=by
  obtain ⟨i0,hi,hz0,hz1,hz2⟩:=info_parts infoS
  unfold Lies at hv
  obtain ⟨a,c,rfl,_,_⟩:=hv
  simp only [List.length_nil] at *
  have c24:Tryz.prog.cellsOf 25=4:=by kernel_rfl
  have hmm:=h.lm
  have hdd:=h.ld
  have hd:=h.dc.lt
  have hI0:=h.below ((Below.refl _ _).alloc (jE _) (.cells #[.int .i64 2,.string x,.int .i64 l,.slice a 0 c] 25))
  have hI:DI (w.alloc (.cells #[.int .i64 2,.string x,.int .i64 l,.slice a 0 c] 25)).drew D Bm Bd mp vv pv iv mo V P is ms ns qs at_:=hI0.below ⟨rfl,rfl,rfl,jE _,fun _ _=>rfl⟩
  clear hI0
  have hQ:Q4 w.heap.size (.int .i64 2) (.string x) (.int .i64 l) (.slice a 0 c) (w.alloc (.cells #[.int .i64 2,.string x,.int .i64 l,.slice a 0 c] 25)).drew:=⟨by simp,by simp,by simp,by simp⟩
  have hB:Below w.heap.size w (w.alloc (.cells #[.int .i64 2,.string x,.int .i64 l,.slice a 0 c] 25)).drew:=((Below.refl _ _).alloc (jE _) _).drew
  have hS:(w.alloc (.cells #[.int .i64 2,.string x,.int .i64 l,.slice a 0 c] 25)).drew.cell? ⟨D,4,none⟩=some (.map (some Bm))∧(w.alloc (.cells #[.int .i64 2,.string x,.int .i64 l,.slice a 0 c] 25)).drew.cell? ⟨w.heap.size,1,none⟩=some (.string x):=⟨hI.dc.c4,hQ.2.1⟩
  go_enter Tryz.func69,Tryz.ntmps69
  go_wp2
  refine wp_region_held_drew (S:=fun W=>W.cell? ⟨D,4,none⟩=some (.map (some Bm))∧W.cell? ⟨w.heap.size,1,none⟩=some (.string x)) (by kernel_rfl) hS (fun hHeld=>?_)
  clear hHeld
  generalize (w.alloc (.cells #[.int .i64 2,.string x,.int .i64 l,.slice a 0 c] 25)).drew=W at *
  refine tkH (i:=0) (v:=.pointer (some ⟨D,0,none⟩)) rfl (Or.inl ⟨by rfl,fun w hSw=>by obtain ⟨z0,z1⟩:=hSw;go_simp⟩) hS ?_
  simp only [Act.put,jA,jB,jC]
  refine tkH (i:=1) (v:=.pointer (some ⟨D,0,none⟩)) rfl (Or.inl ⟨by rfl,fun w hSw=>by obtain ⟨z0,z1⟩:=hSw;go_simp⟩) hS ?_
  simp only [Act.put,jA,jB,jC]
  refine tkH (i:=2) (v:=.pointer (some ⟨D,0,none⟩)) rfl (Or.inl ⟨by rfl,fun w hSw=>by obtain ⟨z0,z1⟩:=hSw;go_simp⟩) hS ?_
  simp only [Act.put,jA,jB,jC]
  refine tkH (i:=3) (v:=.pointer (some ⟨D,4,none⟩)) rfl (Or.inl ⟨by rfl,fun w hSw=>by obtain ⟨z0,z1⟩:=hSw;go_simp⟩) hS ?_
  simp only [Act.put,jA,jB,jC]
  refine tkH (i:=4) (v:=.map (some Bm)) rfl (Or.inl ⟨by rfl,fun w hSw=>by obtain ⟨z0,z1⟩:=hSw;go_simp⟩) hS ?_
  simp only [Act.put,jA,jB,jC]
  refine tkH (i:=5) (v:=.pointer (some ⟨w.heap.size,1,none⟩)) rfl (Or.inl ⟨by rfl,fun w hSw=>by obtain ⟨z0,z1⟩:=hSw;go_simp⟩) hS ?_
  simp only [Act.put,jA,jB,jC]
  refine tkH (i:=6) (v:=.string x) rfl (Or.inl ⟨by rfl,fun w hSw=>by obtain ⟨z0,z1⟩:=hSw;go_simp⟩) hS ?_
  simp only [Act.put,jA,jB,jC]
  refine wpAnyH_ready (rs:=[7]) (by kernel_rfl) (by simp) ?_
  refine AllReadyH.cons rfl (fun K hK=>?_) AllReadyH.nil
  go_simp
  go_at_call 117
  refine (oEnter D Bm ms x 6 at_ W hI.dc.c7 hI.om hI.am (by omega) (by omega) (by omega)).mono ?_
  rintro e W1 (⟨hm1,rfl,hb⟩ | ⟨hm1,hle,rfl,hb⟩ | ⟨hm1,hlt,rfl,hom,ham,hg⟩)
  · go_wp2
    exact ⟨rfl,(hB.trans (hb.mono hB.size)).mono (by omega),.inl ⟨_,enterR_twice hm1,rfl⟩⟩
  · go_wp2
    exact ⟨rfl,(hB.trans (hb.mono hB.size)).mono (by omega),.inl ⟨_,enterR_many hm1 hle,rfl⟩⟩
  have hI1:=hI.enterM hom ham hg
  go_wp2
  replace hQ:=Q4.grown hQ hg (by simp;omega)
  have hB1:Below Bm w W1:=(hB.mono (by omega)).grown hg (by have:=hB.size;omega) (fun k e=>by cases e;omega)
  clear hB hom ham hg hI
  refine hK.out _ _ ⟨hI1.dc.c4,hQ.2.1⟩ (fun hHeld=>?_)
  clear hK K hHeld
  refine wpAnyH_done (by kernel_rfl) ?_ _
  obtain ⟨q0,q1,q2,q3⟩:=id hQ
  have hI2:DI W1.drew D Bm Bd mp vv pv iv mo V P is (ms++[x]) ns qs at_:=hI1.below ⟨rfl,rfl,rfl,jE _,fun _ _=>rfl⟩
  have hB2:=hB1.drew
  have hS2:Q4 w.heap.size (.int .i64 2) (.string x) (.int .i64 l) (.slice a 0 c) W1.drew:=hQ
  have hvb:∀ k,iv.ownBlock=some k→k<w.heap.size:=fun k e=>(h.oi.lt _ e).2
  clear hI1 hB1 hQ h
  go_wp2
  clear q0 q1 q2 q3
  refine wp_region_held_drew (S:=fun W=>Q4 w.heap.size (.int .i64 2) (.string x) (.int .i64 l) (.slice a 0 c) W) (by kernel_rfl) hS2 (fun hHeld=>?_)
  clear hHeld
  generalize W1.drew=W2 at *
  generalize w.heap.size=N at *
  obtain ⟨av,cv,rfl,_,_⟩:=lexs.own_shape hI2.oi
  refine tkH (i:=0) (v:=.pointer (some ⟨D,0,none⟩)) rfl (Or.inl ⟨by rfl,fun w hSw=>by obtain ⟨z0,z1,z2,z3⟩:=hSw;go_simp⟩) hS2 ?_
  simp only [Act.put,jA,jB,jC]
  refine tkH (i:=1) (v:=.pointer (some ⟨D,0,none⟩)) rfl (Or.inl ⟨by rfl,fun w hSw=>by obtain ⟨z0,z1,z2,z3⟩:=hSw;go_simp⟩) hS2 ?_
  simp only [Act.put,jA,jB,jC]
  refine tkH (i:=2) (v:=.pointer (some ⟨D,0,none⟩)) rfl (Or.inl ⟨by rfl,fun w hSw=>by obtain ⟨z0,z1,z2,z3⟩:=hSw;go_simp⟩) hS2 ?_
  simp only [Act.put,jA,jB,jC]
  refine tkH (i:=3) (v:=.pointer (some ⟨D,3,none⟩)) rfl (Or.inl ⟨by rfl,fun w hSw=>by obtain ⟨z0,z1,z2,z3⟩:=hSw;go_simp⟩) hS2 ?_
  simp only [Act.put,jA,jB,jC]
  refine tkH (i:=5) (v:=.pointer (some ⟨N,1,none⟩)) rfl (Or.inl ⟨by rfl,fun w hSw=>by obtain ⟨z0,z1,z2,z3⟩:=hSw;go_simp⟩) hS2 ?_
  simp only [Act.put,jA,jB,jC]
  refine tkH (i:=6) (v:=.string x) rfl (Or.inl ⟨by rfl,fun w hSw=>by obtain ⟨z0,z1,z2,z3⟩:=hSw;go_simp⟩) hS2 ?_
  simp only [Act.put,jA,jB,jC]
  refine wpAnyH_ready (rs:=[4,7]) (by kernel_rfl) (by simp) ?_
  refine AllReadyH.cons rfl (fun K hK=>?_) ?_
  · skip
    have m1:=hI2.dc.c3
    go_simp
    refine hK.out _ _ hS2 (fun hHeld=>?_)
    clear hK K hHeld m1
    refine wpAnyH_ready (rs:=[7]) (by kernel_rfl) (by simp) ?_
    refine AllReadyH.cons rfl (fun K hK=>?_) AllReadyH.nil
    go_simp
    have hsl:∀ j u,[Value.string x][j]?=some u→(W2.alloc (.cells #[.string x] 9)).cell? ((⟨W2.heap.size,0,none⟩:Addr).add j)=some u:=cell_one _ _ _ rfl
    have hss:W2.heap.size+1=(W2.alloc (.cells #[.string x] 9)).heap.size:=by simp
    replace hB2:=hB2.alloc (by have:=hI2.dc.lt;omega) (.cells #[.string x] 9)
    replace hI2:=hI2.below ((Below.refl _ _).alloc (jE _) (.cells #[.string x] 9))
    replace hS2:=Q4.alloc hS2 (.cells #[.string x] 9)
    refine hK.out _ _ hS2 (fun hHeld=>?_)
    clear hK K hHeld
    generalize W2.alloc (.cells #[.string x] 9)=W3 at *
    generalize W2.heap.size=s0 at *
    refine wpAnyH_ready (rs:=[8]) (by kernel_rfl) (by simp) ?_
    refine AllReadyH.cons rfl (fun K hK=>?_) AllReadyH.nil
    refine step_append_lies _ (by rfl) (.tmp 38) (.tmp 41) 45 (by rfl) (D+1) 9 i0 (.string ⟨#[]⟩) 1 16 Tryz.underlying45 hi hz0 hz1 hz2 rfl (by decide) (.slice av is.length cv) is.length (strV is) (by simp [Act.eval,Act.put]) hI2.oi ⟨s0,0,none⟩ 1 1 [.string x] (by simp [Act.eval,Act.put]) rfl hsl (one_string x) (by omega) (by unfold maxLen;omega) (by omega) (by have:=hI2.dc.lt;omega) (s0+1) hss.symm ?_
    intro g5 cap5 w5 hown5 hgrow5 hat5 hlt5
    have hrN:(Value.slice av is.length cv).ownBlock≠some N:=fun e=>by have:=hvb _ e;omega
    have hrD:(Value.slice av is.length cv).ownBlock≠some D:=fun e=>by have:=(hI2.oi.lt _ e).1;omega
    have hfin:=hI2.pushI (x:=x) hown5 hgrow5 (hat5.imp id (fun e=>e.trans hss))
    replace hS2:=Q4.grown hS2 hgrow5 hrN
    replace hB2:=hB2.grown hgrow5 (by have:=hI2.dc.lt;omega) (fun k e=>by have:=(hI2.oi.lt _ e).1;omega)
    have hdc:=hI2.dc.grown hgrow5 hrD
    have m1:=hdc.c3
    have mf:=hdc.fz 3
    clear hI2 hdc
    refine hK.out _ _ hS2 (fun hHeld=>?_)
    clear hK K hHeld
    simp only [Act.put,jA,jB,jC]
    refine tkH (i:=9) (v:=.pointer (some ⟨D,0,none⟩)) rfl (Or.inl ⟨by rfl,fun w hSw=>by obtain ⟨z0,z1,z2,z3⟩:=hSw;go_simp⟩) hS2 ?_
    simp only [Act.put,jA,jB,jC]
    refine tkH (i:=10) (v:=.pointer (some ⟨D,3,none⟩)) rfl (Or.inl ⟨by rfl,fun w hSw=>by obtain ⟨z0,z1,z2,z3⟩:=hSw;go_simp⟩) hS2 ?_
    simp only [Act.put,jA,jB,jC]
    refine wpAnyH_ready (rs:=[11]) (by kernel_rfl) (by simp) ?_
    refine AllReadyH.cons rfl (fun K hK=>?_) AllReadyH.nil
    go_simp
    refine hK.out _ _ (Q4.other (by omega) hS2 _ _) (fun hHeld=>?_)
    clear hK K hHeld m1 mf
    replace hB2:=hB2.setCell (p:=⟨D,3,none⟩) (by show Bm≤D;omega) (.slice (some ⟨g5,0,none⟩) (is.length+1) cap5)
    replace hS2:=Q4.other (M:=D) (o:=3) (by omega) hS2 (.slice (some ⟨g5,0,none⟩) (is.length+1) cap5)
    refine wpAnyH_done (by kernel_rfl) ?_ _
    obtain ⟨q0,q1,q2,q3⟩:=id hS2
    have m7:=hfin.dc.c7
    have mf:=hfin.dc.fz 7
    generalize w5.setCell ⟨D,3,none⟩ (.slice (some ⟨g5,0,none⟩) (is.length+1) cap5)=W5 at *
    have hI6:=hfin.setAt (at_+1)
    have hB6:=hB2.setCell (p:=⟨D,7,none⟩) (by show Bm≤D;omega) (.int .i64 (at_+1))
    clear hfin hB2
    go_wp2
    clear m7 mf
    go_loopw [75] (fun t wr=>t=.int .i64 0∧wr=W5.setCell ⟨D,7,none⟩ (.int .i64 (at_+1))) (fun t _=>0)
    case atStart=>exact ⟨rfl,rfl⟩
    case round =>
      obtain ⟨rfl,rfl⟩:=hrel
      go_wp2
      go_end0
      exact ⟨hB6,.inr ⟨enterR_ok hm1 hlt,rfl,_,hI6⟩⟩
  refine AllReadyH.cons rfl (fun K hK=>?_) AllReadyH.nil
  go_simp
  have hsl:∀ j u,[Value.string x][j]?=some u→(W2.alloc (.cells #[.string x] 9)).cell? ((⟨W2.heap.size,0,none⟩:Addr).add j)=some u:=cell_one _ _ _ rfl
  have hss:W2.heap.size+1=(W2.alloc (.cells #[.string x] 9)).heap.size:=by simp
  replace hB2:=hB2.alloc (by have:=hI2.dc.lt;omega) (.cells #[.string x] 9)
  replace hI2:=hI2.below ((Below.refl _ _).alloc (jE _) (.cells #[.string x] 9))
  replace hS2:=Q4.alloc hS2 (.cells #[.string x] 9)
  refine hK.out _ _ hS2 (fun hHeld=>?_)
  clear hK K hHeld
  generalize W2.alloc (.cells #[.string x] 9)=W3 at *
  generalize W2.heap.size=s0 at *
  refine wpAnyH_ready (rs:=[4]) (by kernel_rfl) (by simp) ?_
  refine AllReadyH.cons rfl (fun K hK=>?_) AllReadyH.nil
  have m1:=hI2.dc.c3
  go_simp
  refine hK.out _ _ hS2 (fun hHeld=>?_)
  clear hK K hHeld m1
  refine wpAnyH_ready (rs:=[8]) (by kernel_rfl) (by simp) ?_
  refine AllReadyH.cons rfl (fun K hK=>?_) AllReadyH.nil
  refine step_append_lies _ (by rfl) (.tmp 38) (.tmp 41) 45 (by rfl) (D+1) 9 i0 (.string ⟨#[]⟩) 1 16 Tryz.underlying45 hi hz0 hz1 hz2 rfl (by decide) (.slice av is.length cv) is.length (strV is) (by simp [Act.eval,Act.put]) hI2.oi ⟨s0,0,none⟩ 1 1 [.string x] (by simp [Act.eval,Act.put]) rfl hsl (one_string x) (by omega) (by unfold maxLen;omega) (by omega) (by have:=hI2.dc.lt;omega) (s0+1) hss.symm ?_
  intro g5 cap5 w5 hown5 hgrow5 hat5 hlt5
  have hrN:(Value.slice av is.length cv).ownBlock≠some N:=fun e=>by have:=hvb _ e;omega
  have hrD:(Value.slice av is.length cv).ownBlock≠some D:=fun e=>by have:=(hI2.oi.lt _ e).1;omega
  have hfin:=hI2.pushI (x:=x) hown5 hgrow5 (hat5.imp id (fun e=>e.trans hss))
  replace hS2:=Q4.grown hS2 hgrow5 hrN
  replace hB2:=hB2.grown hgrow5 (by have:=hI2.dc.lt;omega) (fun k e=>by have:=(hI2.oi.lt _ e).1;omega)
  have hdc:=hI2.dc.grown hgrow5 hrD
  have m1:=hdc.c3
  have mf:=hdc.fz 3
  clear hI2 hdc
  refine hK.out _ _ hS2 (fun hHeld=>?_)
  clear hK K hHeld
  simp only [Act.put,jA,jB,jC]
  refine tkH (i:=9) (v:=.pointer (some ⟨D,0,none⟩)) rfl (Or.inl ⟨by rfl,fun w hSw=>by obtain ⟨z0,z1,z2,z3⟩:=hSw;go_simp⟩) hS2 ?_
  simp only [Act.put,jA,jB,jC]
  refine tkH (i:=10) (v:=.pointer (some ⟨D,3,none⟩)) rfl (Or.inl ⟨by rfl,fun w hSw=>by obtain ⟨z0,z1,z2,z3⟩:=hSw;go_simp⟩) hS2 ?_
  simp only [Act.put,jA,jB,jC]
  refine wpAnyH_ready (rs:=[11]) (by kernel_rfl) (by simp) ?_
  refine AllReadyH.cons rfl (fun K hK=>?_) AllReadyH.nil
  go_simp
  refine hK.out _ _ (Q4.other (by omega) hS2 _ _) (fun hHeld=>?_)
  clear hK K hHeld m1 mf
  replace hB2:=hB2.setCell (p:=⟨D,3,none⟩) (by show Bm≤D;omega) (.slice (some ⟨g5,0,none⟩) (is.length+1) cap5)
  replace hS2:=Q4.other (M:=D) (o:=3) (by omega) hS2 (.slice (some ⟨g5,0,none⟩) (is.length+1) cap5)
  refine wpAnyH_done (by kernel_rfl) ?_ _
  obtain ⟨q0,q1,q2,q3⟩:=id hS2
  have m7:=hfin.dc.c7
  have mf:=hfin.dc.fz 7
  generalize w5.setCell ⟨D,3,none⟩ (.slice (some ⟨g5,0,none⟩) (is.length+1) cap5)=W5 at *
  have hI6:=hfin.setAt (at_+1)
  have hB6:=hB2.setCell (p:=⟨D,7,none⟩) (by show Bm≤D;omega) (.int .i64 (at_+1))
  clear hfin hB2
  go_wp2
  clear m7 mf
  go_loopw [75] (fun t wr=>t=.int .i64 0∧wr=W5.setCell ⟨D,7,none⟩ (.int .i64 (at_+1))) (fun t _=>0)
  case atStart=>exact ⟨rfl,rfl⟩
  case round =>
    obtain ⟨rfl,rfl⟩:=hrel
    go_wp2
    go_end0
    exact ⟨hB6,.inr ⟨enterR_ok hm1 hlt,rfl,_,hI6⟩⟩
end Go.Proofs.YtfopddgjdaoidaaGreatDoor.face
