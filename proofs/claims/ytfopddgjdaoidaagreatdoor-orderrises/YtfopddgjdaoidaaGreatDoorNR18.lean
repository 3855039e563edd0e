/- What the program's addProc answers: a contract. -/
import Derived.Test.YtfopddgjdaoidaaGreatDoorNR17
set_option linter.unusedVariables false
set_option linter.unusedSimpArgs false
set_option maxRecDepth 100000
namespace Go.Proofs.YtfopddgjdaoidaaGreatDoor
namespace chk
open Go.RowKit Go.Shelf
open syn face
theorem parL_snoc (ps:List (ByteArray × Bool)) (j:Nat) (hj:j<ps.length):vsOf (parL (ps.take (j+1)))=vsOf (parL (ps.take j))++[⟨ps[j].1,false,bI ps[j].2,0⟩]:=by
 rw [List.take_succ_eq_append_getElem hj]
 unfold parL vsOf
 rw [List.map_append,List.map_append]
 rfl
theorem liesAt_init {P:Nat→Prop} {w:World} {z:Tree}:∀ {ks:List Tree} {g o:Nat},LiesAt P w (ks++[z]) g o→LiesAt P w ks g o
 | [],g,o,h=>by unfold LiesAt;trivial
 | t :: r,g,o,h=>by
  rw [List.cons_append] at h
  unfold LiesAt at h ⊢
  exact ⟨h.1,liesAt_init h.2⟩
section
variable {E:Env} {w0:World} {D Kb kn:Nat} {kf:KF}
set_option maxHeartbeats 8000000 in
theorem oProc (x:ByteArray) (p l:Bool) (gv:Option Bool) (ps:List (ByteArray × Bool)) (ss:List Tree) (hT:∀ L,LabL L→Tab E L kf (vsOf L)) (hst:∀ t∈ss,StT t) (hP:ps.length≤20) (hInT:InT (.node 6 empty 0 ss)) (v:Value) (w:World) (at_:Int) (vs0:List VarD) (u0:Value)
  (hv:Lies (·<w0.heap.size) w0 (Kid.proc x p l gv ps (.node 6 empty 0 ss)).tree v) (h:CS w0 w D Kb kn kf vs0 u0 (at_+1)) (h0:0≤at_) (hm:at_+cntT (Kid.proc x p l gv ps (.node 6 empty 0 ss)).tree≤1000000) :
  Calls Tryz.prog 84 #[.pointer (some ⟨D,0,none⟩),v,.int .i64 at_] w (PR w0 D Kb kn kf (prF E (procD x p l gv ps) ps (.node 6 empty 0 ss) (endsT (.node 6 empty 0 ss)) at_)):=by
 have c24:=kc25
 have c2:=kc179
 have c6:Tryz.prog.cellsOf 80=6:=cell6
 have c4:Tryz.prog.cellsOf 76=4:=cell4
 obtain ⟨i0,hi,hz0,hz1,hz2⟩:=info_parts infoV
 have hPO:=fun W (hW:Below w0.heap.size w0 W)=>oProcOf x p l gv ps (.node 6 empty 0 ss) v W (hv.to (fun b hb=>Nat.lt_of_lt_of_le hb hW.size) (fun b hb o=>hW.cell (p:=⟨b,o,none⟩) hb)) (by omega) hInT
 rw [proc_cnt x p l gv ps ss] at hm
 have hcs:=cntL_pos ss
 have hlss:=len_cnt ss
 obtain ⟨g,o,c,rfl,hg,hcp,hl,hpar,sa,sc,hk3,hsc,hsl,hss⟩:=proc_cells hv
 have hlab:=procD_lab x p l gv ps
 have hS:=oStatsAll (E:=E) (p:=⟨(procD x p l gv ps).gives,(procD x p l gv ps).given⟩) (w0:=w0) (D:=D) (Kb:=Kb) (kn:=kn) hT
 have HN0:Hid _:=fun hg=>prF_none E (procD x p l gv ps) ps 6 empty 0 ss at_ hst hg
 have HN1:Hid _:=fun hg hr=>prF_noret E (procD x p l gv ps) ps 6 empty 0 ss at_ hst hg hr
 have HN2:Hid _:=fun ks z hr=>prF_ret E (procD x p l gv ps) ps 6 empty 0 ks at_ z hr
 generalize 2*bI p+bI l+gI gv=m at *
 generalize procD x p l gv ps=q at *
 obtain ⟨qn,qb,qps,qw,qg,qv⟩:=q
 dsimp only at hlab hS HN0 HN1 HN2
 obtain ⟨R,HR⟩:∃ R,Hid (prF E ⟨qn,qb,qps,qw,qg,qv⟩ ps (.node 6 empty 0 ss) (endsT (.node 6 empty 0 ss)) at_=R):=⟨_,rfl⟩
 rw [HR.out]
 clear hv
 have hd:=h.lt
 have hD:=h.hD
 have hI0:=h.alloc (.cells #[.int .i64 4,.string x,.int .i64 m,.slice (some ⟨g,o,none⟩) (ps.length+1) c] 25)
 have hN0:=BoxC.new w #[.int .i64 4,.string x,.int .i64 m,.slice (some ⟨g,o,none⟩) (ps.length+1) c] 25
 go_enter Tryz.func84,Tryz.ntmps84
 go_wp2_with (go_at_call 130;refine (hPO _ hI0.bs).mono ?_;rintro e w1 ⟨zu,rfl,hzu,hb1⟩;obtain ⟨za,zc,rfl,_,_⟩:=lexs.own_shape hzu;unfold procV;have hI1:=(hI0.below hb1).alloc (.cells #[.string qn,.bool qb,.slice za ps.length zc,.int .i64 qw,.bool qg,.int .i64 qv] 80);have m6:=hI1.c6;have mf:=hI1.fz 6;have hN2':BoxC ((w1.alloc (.cells #[.string qn,.bool qb,.slice za ps.length zc,.int .i64 qw,.bool qg,.int .i64 qv] 80)).setCell ⟨D,6,none⟩ (.slice none 0 0)) w.heap.size #[.int .i64 4,.string x,.int .i64 m,.slice (some ⟨g,o,none⟩) (ps.length+1) c] 25:=((hN0.below hb1).alloc _).other (by omega) _;have hsz1:=hb1.size;rw [World.size_alloc] at hsz1;have hP2':BoxC ((w1.alloc (.cells #[.string qn,.bool qb,.slice za ps.length zc,.int .i64 qw,.bool qg,.int .i64 qv] 80)).setCell ⟨D,6,none⟩ (.slice none 0 0)) w1.heap.size #[.string qn,.bool qb,.slice za ps.length zc,.int .i64 qw,.bool qg,.int .i64 qv] 80:=(BoxC.new w1 _ _).other (by omega) _;have hI2':=hI1.clear;have n3:=hN2'.cell 3 rfl)
 clear hI0 hI1 hN0 m6 mf n3 hb1 hzu
 generalize ((w1.alloc (.cells #[.string qn,.bool qb,.slice za ps.length zc,.int .i64 qw,.bool qg,.int .i64 qv] 80)).setCell ⟨D,6,none⟩ (.slice none 0 0))=W2 at *
 go_loopw [27] (fun t wr=>∃ (j:Nat) (u':Value),j≤ps.length∧t=.int .i64 j∧CS w0 wr D Kb kn kf (vsOf (parL (ps.take j))) u' (at_+1+j)∧FrU D (.slice none 0 0) u' W2 wr) (fun t _=>ps.length - (intOf t).toNat)
 case atStart=>exact ⟨0,_,Nat.zero_le _,rfl,by simpa [parL,vsOf] using hI2',FrU.refl _ _ _⟩
 case round =>
  obtain ⟨j,u',hj,rfl,hI,hFr⟩:=hrel
  by_cases hlt:j<ps.length
  ·skip
   obtain ⟨pa,pc,c0,c1',c2',c3⟩:=hpar j hlt
   have k0:=(hI.bs.cell (p:=⟨g,o+j*4,none⟩) hg).trans c0
   have k1:=(hI.bs.cell (p:=⟨g,o+j*4+1,none⟩) hg).trans c1'
   have k2:=(hI.bs.cell (p:=⟨g,o+j*4+2,none⟩) hg).trans c2'
   have k3:=(hI.bs.cell (p:=⟨g,o+j*4+3,none⟩) hg).trans c3
   have HV2:=show Hid _ from parL_snoc ps j hlt
   have HBits:Hid (bits BinOp.and IntKind.i64 (bI ps[j].2) 1=bI ps[j].2):=bits_bI _
   have hvl:(vsOf (parL (ps.take j))).length≤20:=by rw [vsOf_len,parL_len,List.length_take];omega
   clear c0 c1' c2' c3 hpar
   generalize ps[j].1=y at *
   generalize bI ps[j].2=lb at *
   generalize vsOf (parL (ps.take j))=vs at *
   obtain ⟨ua,uc,rfl,hucl,hug⟩:=lexs.own_shape hI.rl
   have hub:∀ b,(Value.slice ua vs.length uc).ownBlock=some b→b<wr.heap.size:=fun b e=>(hI.rl.lt _ e).2
   have hd2:=hI.lt
   have hI1:=hI.alloc (.cells #[.int .i64 5,.string y,.int .i64 lb,.slice pa 0 pc] 25)
   have hf1:=(FrU.refl D (.slice ua vs.length uc) wr).alloc (.cells #[.int .i64 5,.string y,.int .i64 lb,.slice pa 0 pc] 25)
   have hBg:=hI1.begin (by omega) (by omega)
   have hQ0:Q4 wr.heap.size (.int .i64 5) (.string y) (.int .i64 lb) (.slice pa 0 pc) (wr.alloc (.cells #[.int .i64 5,.string y,.int .i64 lb,.slice pa 0 pc] 25)):=⟨by simp,by simp,by simp,by simp⟩
   go_wp2_with (go_at_call 81;refine hBg.mono ?_;rintro e w3 ⟨rfl,hw3⟩;have hI2:CS w0 w3 D Kb kn kf vs (.slice ua vs.length uc) (at_+1+j+1):=by { rw [hw3];exact hI1.setAt _ };have hS2:Q4 wr.heap.size (.int .i64 5) (.string y) (.int .i64 lb) (.slice pa 0 pc) w3:=by { rw [hw3];exact Q4.other (by omega) hQ0 _ _ };have hf2:FrU D (.slice ua vs.length uc) (.slice ua vs.length uc) wr w3:=by { rw [hw3];exact hf1.set _ _ (fun _ e=>e) };have hs3:wr.heap.size+1≤w3.heap.size:=by { rw [hw3,World.size_setCell];simp };clear hw3)
   refine wp_region_held_drew (S:=fun W=>Q4 wr.heap.size (.int .i64 5) (.string y) (.int .i64 lb) (.slice pa 0 pc) W) (by kernel_rfl) (show Q4 wr.heap.size (.int .i64 5) (.string y) (.int .i64 lb) (.slice pa 0 pc) w3.drew from hS2) (fun hHeld=>?_)
   clear hHeld k0 k1 k2 k3 hI1 hf1 hBg hQ0
   replace hI2:=hI2.drew
   replace hf2:=hf2.drew
   replace hS2:Q4 wr.heap.size (.int .i64 5) (.string y) (.int .i64 lb) (.slice pa 0 pc) w3.drew:=hS2
   replace hs3:wr.heap.size+1≤w3.drew.heap.size:=hs3
   generalize w3.drew=W3 at *
   refine tkP 0 (.pointer (some ⟨D,0,none⟩)) hS2 ?_
   simp only [Act.put,jA,jB,jC]
   refine tkP 1 (.pointer (some ⟨D,0,none⟩)) hS2 ?_
   simp only [Act.put,jA,jB,jC]
   refine tkP 2 (.pointer (some ⟨D,0,none⟩)) hS2 ?_
   simp only [Act.put,jA,jB,jC]
   refine tkP 3 (.pointer (some ⟨D,6,none⟩)) hS2 ?_
   simp only [Act.put,jA,jB,jC]
   refine tkP 5 (.agg #[.int .i64 5,.string y,.int .i64 lb,.slice pa 0 pc]) hS2 ?_
   simp only [Act.put,jA,jB,jC]
   refine wpAnyH_ready (rs:=[4,6]) (by kernel_rfl) (by simp) ?_
   refine AllReadyH.cons rfl (fun K hK=>?_) ?_
   ·skip
    have m6:=hI2.c6
    go_simp
    refine hK.out _ _ hS2 (fun hHeld=>?_)
    clear hK K hHeld m6
    refine oneH 6 fun K hK=>?_
    go_simp
    go_at_call 132
    refine (oLocalOf 5 y lb pa 0 pc W3).mono ?_
    rintro e w4 ⟨rfl,hb4⟩
    rw [HBits.out]
    unfold varV
    have hw4:=hb4.size
    replace hI2:=hI2.below hb4
    replace hS2:=Q4.below hS2 hb4
    replace hf2:=hf2.trans (FrU.below hb4 D (.slice ua vs.length uc))
    go_wp2
    refine hK.out _ _ hS2 (fun hHeld=>?_)
    clear hK K hHeld hb4
    refine oneH 7 fun K hK=>?_
    go_simp
    have hsl2:∀ j u,([.string y,.bool false,.int .i64 lb,.int .i64 0]:List Value)[j]?=some u→(w4.alloc (.cells #[.string y,.bool false,.int .i64 lb,.int .i64 0] 76)).cell? ((⟨w4.heap.size,0,none⟩:Addr).add j)=some u:=news_new _ #[.string y,.bool false,.int .i64 lb,.int .i64 0] _ _ rfl
    have hss2:w4.heap.size+1=(w4.alloc (.cells #[.string y,.bool false,.int .i64 lb,.int .i64 0] 76)).heap.size:=by simp
    have hw4s:wr.heap.size+1≤w4.heap.size:=by omega
    replace hf2:=hf2.alloc (.cells #[.string y,.bool false,.int .i64 lb,.int .i64 0] 76)
    replace hI2:=hI2.alloc (.cells #[.string y,.bool false,.int .i64 lb,.int .i64 0] 76)
    replace hS2:=Q4.alloc hS2 (.cells #[.string y,.bool false,.int .i64 lb,.int .i64 0] 76)
    refine hK.out _ _ hS2 (fun hHeld=>?_)
    clear hK K hHeld
    generalize w4.alloc (.cells #[.string y,.bool false,.int .i64 lb,.int .i64 0] 76)=W5 at *
    generalize w4.heap.size=s0 at *
    refine oneH 8 fun K hK=>?_
    refine step_append_lies _ (by rfl) (.tmp 37) (.tmp 40) 41 (by rfl) (D+1) 76 i0 (.agg #[.string ⟨#[]⟩,.bool false,.int .i64 0,.int .i64 0]) 4 40 Tryz.underlying41 hi hz0 hz1 hz2 rfl (by decide) (.slice ua vs.length uc) vs.length (varCells vs) (by simp [Act.eval,Act.put]) hI2.rl ⟨s0,0,none⟩ 1 1 [.string y,.bool false,.int .i64 lb,.int .i64 0] (by simp [Act.eval,Act.put]) rfl hsl2 (by intro u hu;simp at hu;rcases hu with rfl | rfl | rfl | rfl<;>rfl) (by omega) (by unfold maxLen;omega) (by omega) (by have:=hI2.lt;omega) (s0+1) hss2.symm ?_
    intro g5 cap5 w5 hown5 hgrow5 hat5 hlt5
    have hrN:(Value.slice ua vs.length uc).ownBlock≠some wr.heap.size:=fun e=>by have:=hub _ e;omega
    have hrD:(Value.slice ua vs.length uc).ownBlock≠some D:=fun e=>by have:=(hI2.rl.lt _ e).1;omega
    have hfin:=hI2.push (v:=⟨y,false,lb,0⟩) hown5 hgrow5 (hat5.imp id (fun e=>e.trans hss2))
    have hbl5:=hgrow5.block D hI2.lt (fun e=>hrD e.symm)
    have m6:=(World.cell?_of_block (a:=⟨D,6,none⟩) hbl5).trans hI2.c6
    have mf:=(World.frozen?_of_block (a:=⟨D,6,none⟩) hbl5).trans (hI2.fz 6)
    have hf5:FrU D (.slice ua vs.length uc) (.slice (some ⟨g5,0,none⟩) (vs.length+1) cap5) wr (w5.setCell ⟨D,6,none⟩ (.slice (some ⟨g5,0,none⟩) (vs.length+1) cap5)):=hf2.trans ⟨by rw [World.size_setCell];exact hgrow5.size,fun b h1 h2 h3=>(Below.heap_setCell _ _ _ b (by show b≠D;exact h2)).trans (hgrow5.block b h1 (fun e=>h3 e.symm)),fun b e=>by have e2:some g5=some b:=e;cases e2;exact hat5.imp id (fun e=>by omega)⟩
    replace hS2:=Q4.grown hS2 hgrow5 hrN
    clear hI2 hbl5 hf2
    refine hK.out _ _ hS2 (fun hHeld=>?_)
    clear hK K hHeld
    simp only [Act.put,jA,jB,jC]
    refine tkP 9 (.pointer (some ⟨D,0,none⟩)) hS2 ?_
    simp only [Act.put,jA,jB,jC]
    refine tkP 10 (.pointer (some ⟨D,6,none⟩)) hS2 ?_
    simp only [Act.put,jA,jB,jC]
    refine oneH 11 fun K hK=>?_
    go_simp
    refine hK.out _ _ (Q4.other (by omega) hS2 _ _) (fun hHeld=>?_)
    clear hK K hHeld m6 mf
    refine wpAnyH_done (by kernel_rfl) ?_ _
    go_wp2
    exact ⟨⟨j+1,_,by omega,by simp,by rw [HV2.out,show at_+1+((j+1:Nat):Int)=at_+1+(j:Int)+1 by omega];exact hfin,hFr.trans hf5⟩,by simp [intOf];omega⟩
   refine AllReadyH.cons rfl (fun K hK=>?_) AllReadyH.nil
   go_simp
   go_at_call 132
   refine (oLocalOf 5 y lb pa 0 pc W3).mono ?_
   rintro e w4 ⟨rfl,hb4⟩
   rw [HBits.out]
   unfold varV
   have hw4:=hb4.size
   replace hI2:=hI2.below hb4
   replace hS2:=Q4.below hS2 hb4
   replace hf2:=hf2.trans (FrU.below hb4 D (.slice ua vs.length uc))
   go_wp2
   refine hK.out _ _ hS2 (fun hHeld=>?_)
   clear hK K hHeld hb4
   refine wpAnyH_ready (rs:=[4,7]) (by kernel_rfl) (by simp) ?_
   refine AllReadyH.cons rfl (fun K hK=>?_) ?_
   ·skip
    have m6:=hI2.c6
    go_simp
    refine hK.out _ _ hS2 (fun hHeld=>?_)
    clear hK K hHeld m6
    refine oneH 7 fun K hK=>?_
    go_simp
    have hsl2:∀ j u,([.string y,.bool false,.int .i64 lb,.int .i64 0]:List Value)[j]?=some u→(w4.alloc (.cells #[.string y,.bool false,.int .i64 lb,.int .i64 0] 76)).cell? ((⟨w4.heap.size,0,none⟩:Addr).add j)=some u:=news_new _ #[.string y,.bool false,.int .i64 lb,.int .i64 0] _ _ rfl
    have hss2:w4.heap.size+1=(w4.alloc (.cells #[.string y,.bool false,.int .i64 lb,.int .i64 0] 76)).heap.size:=by simp
    have hw4s:wr.heap.size+1≤w4.heap.size:=by omega
    replace hf2:=hf2.alloc (.cells #[.string y,.bool false,.int .i64 lb,.int .i64 0] 76)
    replace hI2:=hI2.alloc (.cells #[.string y,.bool false,.int .i64 lb,.int .i64 0] 76)
    replace hS2:=Q4.alloc hS2 (.cells #[.string y,.bool false,.int .i64 lb,.int .i64 0] 76)
    refine hK.out _ _ hS2 (fun hHeld=>?_)
    clear hK K hHeld
    generalize w4.alloc (.cells #[.string y,.bool false,.int .i64 lb,.int .i64 0] 76)=W5 at *
    generalize w4.heap.size=s0 at *
    refine oneH 8 fun K hK=>?_
    refine step_append_lies _ (by rfl) (.tmp 37) (.tmp 40) 41 (by rfl) (D+1) 76 i0 (.agg #[.string ⟨#[]⟩,.bool false,.int .i64 0,.int .i64 0]) 4 40 Tryz.underlying41 hi hz0 hz1 hz2 rfl (by decide) (.slice ua vs.length uc) vs.length (varCells vs) (by simp [Act.eval,Act.put]) hI2.rl ⟨s0,0,none⟩ 1 1 [.string y,.bool false,.int .i64 lb,.int .i64 0] (by simp [Act.eval,Act.put]) rfl hsl2 (by intro u hu;simp at hu;rcases hu with rfl | rfl | rfl | rfl<;>rfl) (by omega) (by unfold maxLen;omega) (by omega) (by have:=hI2.lt;omega) (s0+1) hss2.symm ?_
    intro g5 cap5 w5 hown5 hgrow5 hat5 hlt5
    have hrN:(Value.slice ua vs.length uc).ownBlock≠some wr.heap.size:=fun e=>by have:=hub _ e;omega
    have hrD:(Value.slice ua vs.length uc).ownBlock≠some D:=fun e=>by have:=(hI2.rl.lt _ e).1;omega
    have hfin:=hI2.push (v:=⟨y,false,lb,0⟩) hown5 hgrow5 (hat5.imp id (fun e=>e.trans hss2))
    have hbl5:=hgrow5.block D hI2.lt (fun e=>hrD e.symm)
    have m6:=(World.cell?_of_block (a:=⟨D,6,none⟩) hbl5).trans hI2.c6
    have mf:=(World.frozen?_of_block (a:=⟨D,6,none⟩) hbl5).trans (hI2.fz 6)
    have hf5:FrU D (.slice ua vs.length uc) (.slice (some ⟨g5,0,none⟩) (vs.length+1) cap5) wr (w5.setCell ⟨D,6,none⟩ (.slice (some ⟨g5,0,none⟩) (vs.length+1) cap5)):=hf2.trans ⟨by rw [World.size_setCell];exact hgrow5.size,fun b h1 h2 h3=>(Below.heap_setCell _ _ _ b (by show b≠D;exact h2)).trans (hgrow5.block b h1 (fun e=>h3 e.symm)),fun b e=>by have e2:some g5=some b:=e;cases e2;exact hat5.imp id (fun e=>by omega)⟩
    replace hS2:=Q4.grown hS2 hgrow5 hrN
    clear hI2 hbl5 hf2
    refine hK.out _ _ hS2 (fun hHeld=>?_)
    clear hK K hHeld
    simp only [Act.put,jA,jB,jC]
    refine tkP 9 (.pointer (some ⟨D,0,none⟩)) hS2 ?_
    simp only [Act.put,jA,jB,jC]
    refine tkP 10 (.pointer (some ⟨D,6,none⟩)) hS2 ?_
    simp only [Act.put,jA,jB,jC]
    refine oneH 11 fun K hK=>?_
    go_simp
    refine hK.out _ _ (Q4.other (by omega) hS2 _ _) (fun hHeld=>?_)
    clear hK K hHeld m6 mf
    refine wpAnyH_done (by kernel_rfl) ?_ _
    go_wp2
    exact ⟨⟨j+1,_,by omega,by simp,by rw [HV2.out,show at_+1+((j+1:Nat):Int)=at_+1+(j:Int)+1 by omega];exact hfin,hFr.trans hf5⟩,by simp [intOf];omega⟩
   refine AllReadyH.cons rfl (fun K hK=>?_) AllReadyH.nil
   go_simp
   have hsl2:∀ j u,([.string y,.bool false,.int .i64 lb,.int .i64 0]:List Value)[j]?=some u→(w4.alloc (.cells #[.string y,.bool false,.int .i64 lb,.int .i64 0] 76)).cell? ((⟨w4.heap.size,0,none⟩:Addr).add j)=some u:=news_new _ #[.string y,.bool false,.int .i64 lb,.int .i64 0] _ _ rfl
   have hss2:w4.heap.size+1=(w4.alloc (.cells #[.string y,.bool false,.int .i64 lb,.int .i64 0] 76)).heap.size:=by simp
   have hw4s:wr.heap.size+1≤w4.heap.size:=by omega
   replace hf2:=hf2.alloc (.cells #[.string y,.bool false,.int .i64 lb,.int .i64 0] 76)
   replace hI2:=hI2.alloc (.cells #[.string y,.bool false,.int .i64 lb,.int .i64 0] 76)
   replace hS2:=Q4.alloc hS2 (.cells #[.string y,.bool false,.int .i64 lb,.int .i64 0] 76)
   refine hK.out _ _ hS2 (fun hHeld=>?_)
   clear hK K hHeld
   generalize w4.alloc (.cells #[.string y,.bool false,.int .i64 lb,.int .i64 0] 76)=W5 at *
   generalize w4.heap.size=s0 at *
   refine oneH 4 fun K hK=>?_
   have m6:=hI2.c6
   go_simp
   refine hK.out _ _ hS2 (fun hHeld=>?_)
   clear hK K hHeld m6
   refine oneH 8 fun K hK=>?_
   refine step_append_lies _ (by rfl) (.tmp 37) (.tmp 40) 41 (by rfl) (D+1) 76 i0 (.agg #[.string ⟨#[]⟩,.bool false,.int .i64 0,.int .i64 0]) 4 40 Tryz.underlying41 hi hz0 hz1 hz2 rfl (by decide) (.slice ua vs.length uc) vs.length (varCells vs) (by simp [Act.eval,Act.put]) hI2.rl ⟨s0,0,none⟩ 1 1 [.string y,.bool false,.int .i64 lb,.int .i64 0] (by simp [Act.eval,Act.put]) rfl hsl2 (by intro u hu;simp at hu;rcases hu with rfl | rfl | rfl | rfl<;>rfl) (by omega) (by unfold maxLen;omega) (by omega) (by have:=hI2.lt;omega) (s0+1) hss2.symm ?_
   intro g5 cap5 w5 hown5 hgrow5 hat5 hlt5
   have hrN:(Value.slice ua vs.length uc).ownBlock≠some wr.heap.size:=fun e=>by have:=hub _ e;omega
   have hrD:(Value.slice ua vs.length uc).ownBlock≠some D:=fun e=>by have:=(hI2.rl.lt _ e).1;omega
   have hfin:=hI2.push (v:=⟨y,false,lb,0⟩) hown5 hgrow5 (hat5.imp id (fun e=>e.trans hss2))
   have hbl5:=hgrow5.block D hI2.lt (fun e=>hrD e.symm)
   have m6:=(World.cell?_of_block (a:=⟨D,6,none⟩) hbl5).trans hI2.c6
   have mf:=(World.frozen?_of_block (a:=⟨D,6,none⟩) hbl5).trans (hI2.fz 6)
   have hf5:FrU D (.slice ua vs.length uc) (.slice (some ⟨g5,0,none⟩) (vs.length+1) cap5) wr (w5.setCell ⟨D,6,none⟩ (.slice (some ⟨g5,0,none⟩) (vs.length+1) cap5)):=hf2.trans ⟨by rw [World.size_setCell];exact hgrow5.size,fun b h1 h2 h3=>(Below.heap_setCell _ _ _ b (by show b≠D;exact h2)).trans (hgrow5.block b h1 (fun e=>h3 e.symm)),fun b e=>by have e2:some g5=some b:=e;cases e2;exact hat5.imp id (fun e=>by omega)⟩
   replace hS2:=Q4.grown hS2 hgrow5 hrN
   clear hI2 hbl5 hf2
   refine hK.out _ _ hS2 (fun hHeld=>?_)
   clear hK K hHeld
   simp only [Act.put,jA,jB,jC]
   refine tkP 9 (.pointer (some ⟨D,0,none⟩)) hS2 ?_
   simp only [Act.put,jA,jB,jC]
   refine tkP 10 (.pointer (some ⟨D,6,none⟩)) hS2 ?_
   simp only [Act.put,jA,jB,jC]
   refine oneH 11 fun K hK=>?_
   go_simp
   refine hK.out _ _ (Q4.other (by omega) hS2 _ _) (fun hHeld=>?_)
   clear hK K hHeld m6 mf
   refine wpAnyH_done (by kernel_rfl) ?_ _
   go_wp2
   exact ⟨⟨j+1,_,by omega,by simp,by rw [HV2.out,show at_+1+((j+1:Nat):Int)=at_+1+(j:Int)+1 by omega];exact hfin,hFr.trans hf5⟩,by simp [intOf];omega⟩
  ·skip
   cases qg with
   | false =>
    obtain rfl:j=ps.length:=by omega
    rw [List.take_of_length_le (jE _)] at hI
    have hub:∀ b,u'.ownBlock=some b→b<wr.heap.size:=fun b e=>(hI.rl.lt _ e).2
    have hNr:=hN2'.fr hFr (by omega) (by simp [Value.ownBlock])
    have hPr:=hP2'.fr hFr (by omega) (by simp [Value.ownBlock])
    have hBg:=hI.begin (by omega) (by omega)
    have l1:=hN2'.lt
    have l2:=hP2'.lt
    have hnb:u'.ownBlock≠some w.heap.size:=fun e=>by rcases hFr.own _ e with h5 | h5;cases h5;omega
    have hpb:u'.ownBlock≠some w1.heap.size:=fun e=>by rcases hFr.own _ e with h5 | h5;cases h5;omega
    have hNlt:=hNr.lt
    have hPlt:=hPr.lt
    clear hpar
    go_wp2_with (go_at_call 81;refine hBg.mono ?_;rintro e w3 ⟨rfl,hw3⟩;have hI3:CS w0 w3 D Kb kn kf (vsOf (parL ps)) u' (at_+1+ps.length+1):=by { rw [hw3];exact hI.setAt _ };have hN3:BoxC w3 w.heap.size #[.int .i64 4,.string x,.int .i64 m,.slice (some ⟨g,o,none⟩) (ps.length+1) c] 25:=by { rw [hw3];exact hNr.other (by omega) _ };have hP3:BoxC w3 w1.heap.size #[.string qn,.bool qb,.slice za ps.length zc,.int .i64 qw,.bool false,.int .i64 qv] 80:=by { rw [hw3];exact hPr.other (by omega) _ };have hs3:wr.heap.size≤w3.heap.size:=by { rw [hw3,World.size_setCell];exact jE _ };clear hw3;have n3:=hN3.cell 3 rfl;have q3:=hP3.cell 3 rfl;have q4:=hP3.cell 4 rfl;have q4':=cell_new q4 (.cells #[.int .i64 qw,.int .i64 0] 179);have j3:=(hI3.bs.cell (p:=⟨g,o+ps.length*4+3,none⟩) hg).trans hk3)
    have hI4:=hI3.alloc (.cells #[.int .i64 qw,.int .i64 0] 179)
    refine (hS ss hst qw 1 0 (parL ps) u' sa sc _ (at_+1+ps.length+1) hss (parL_inv ps) (parL_lab ps) (by rw [parL_len];exact hP) hlab.2.1 (by omega) hI4 (by omega) (by omega)).mono ?_
    have HB:Hid _:=HR.out.symm.trans (HN0.out (by first | rfl | trivial))
    generalize stsN E ⟨false,qv⟩ qw 1 ss (parL ps) (at_+1+ps.length+1)=X at *
    clear HR HN0 HN1 HN2
    cases X with
    | bad cc bb =>
     rintro e w5 ⟨rfl,hb5⟩
     go_wp2
     exact ⟨rfl,PR.mkBad HB.out hb5⟩
    | ok s =>
     rintro e w5 ⟨rfl,u5,hI5,hf5⟩
     go_wp2
     go_end0
     exact PR.mkOk HB.out hI5
   | true =>
    rcases List.eq_nil_or_concat ss with rfl|⟨init,z,hzz⟩
    ·skip
     obtain rfl:j=ps.length:=by omega
     rw [List.take_of_length_le (jE _)] at hI
     have hub:∀ b,u'.ownBlock=some b→b<wr.heap.size:=fun b e=>(hI.rl.lt _ e).2
     have hNr:=hN2'.fr hFr (by omega) (by simp [Value.ownBlock])
     have hPr:=hP2'.fr hFr (by omega) (by simp [Value.ownBlock])
     have hBg:=hI.begin (by omega) (by omega)
     have l1:=hN2'.lt
     have l2:=hP2'.lt
     have hnb:u'.ownBlock≠some w.heap.size:=fun e=>by rcases hFr.own _ e with h5 | h5;cases h5;omega
     have hpb:u'.ownBlock≠some w1.heap.size:=fun e=>by rcases hFr.own _ e with h5 | h5;cases h5;omega
     have hNlt:=hNr.lt
     have hPlt:=hPr.lt
     clear hpar
     go_wp2_with (go_at_call 81;refine hBg.mono ?_;rintro e w3 ⟨rfl,hw3⟩;have hI3:CS w0 w3 D Kb kn kf (vsOf (parL ps)) u' (at_+1+ps.length+1):=by { rw [hw3];exact hI.setAt _ };have hN3:BoxC w3 w.heap.size #[.int .i64 4,.string x,.int .i64 m,.slice (some ⟨g,o,none⟩) (ps.length+1) c] 25:=by { rw [hw3];exact hNr.other (by omega) _ };have hP3:BoxC w3 w1.heap.size #[.string qn,.bool qb,.slice za ps.length zc,.int .i64 qw,.bool true,.int .i64 qv] 80:=by { rw [hw3];exact hPr.other (by omega) _ };have hs3:wr.heap.size≤w3.heap.size:=by { rw [hw3,World.size_setCell];exact jE _ };clear hw3;have n3:=hN3.cell 3 rfl;have q3:=hP3.cell 3 rfl;have q4:=hP3.cell 4 rfl;have q4':=cell_new q4 (.cells #[.int .i64 qw,.int .i64 0] 179);have j3:=(hI3.bs.cell (p:=⟨g,o+ps.length*4+3,none⟩) hg).trans hk3)
     have hI4:=hI3.alloc (.cells #[.int .i64 qw,.int .i64 0] 179)
     refine (hS [] (fun t ht=>by cases ht) qw 1 0 (parL ps) u' sa sc _ (at_+1+ps.length+1) (fun h=>absurd rfl h) (parL_inv ps) (parL_lab ps) (by rw [parL_len];exact hP) hlab.2.1 (by omega) hI4 (by omega) (by omega)).mono ?_
     have HB:Hid (R=.bad 2 at_):=HR.out.symm.trans (HN1.out (by first | rfl | trivial) (by first | rfl | trivial))
     clear HR HN0 HN1 HN2
     rintro e w5 ⟨rfl,u5,hI5,hf5⟩
     go_wp2_with (go_at_call 131;refine (oRefuseC 2 at_ _).mono ?_;rintro e w6 ⟨rfl,hw6⟩;rw [hw6])
     exact ⟨rfl,PR.mkBad HB.out hI5.bs⟩
    ·rw [List.concat_eq_append] at hzz
     subst hzz
     by_cases hz14:(match z with | .node k _ _ _=>k)=14
     ·skip
      obtain ⟨g2,o2,rfl,hg2,hat2⟩:=hss (by simp)
      obtain ⟨zv,⟨x0,x1,x2,x3,rfl,z0,z1,z2,z3⟩,hlz⟩:=hat2.get init.length (by simp)
      rw [List.getElem_append_right (jE _)] at hlz
      simp only [Nat.sub_self,List.getElem_cons_zero] at hlz
      obtain ⟨zk,zx,zm,zks⟩:=z
      have hlz2:=hlz
      unfold Lies at hlz2
      obtain ⟨za2,zc2,ez,_,_⟩:=hlz2
      injection ez with ez
      simp only [Array.mk.injEq,List.cons.injEq,and_true] at ez
      obtain ⟨rfl,rfl,rfl,rfl⟩:=ez
      have hstz:=hst _ (List.mem_append_right _ (List.mem_singleton.2 rfl))
      have hsti:∀ t∈init,StT t:=fun t ht=>hst t (List.mem_append_left _ ht)
      have hidx:((init.length:Int)+1) - 1=(init.length:Int):=by omega
      have hcapp:cntL (init++[.node zk zx zm zks])=cntL init+cntT (.node zk zx zm zks):=by rw [cntL_app,cntL_one]
      have hci:=cntL_pos init
      have hcz:=cntT_pos (.node zk zx zm zks)
      have hsc0:init.length+1≤sc:=by simpa using hsc
      have hsc1:init.length≤sc:=by omega
      have hsc2:¬ sc<init.length:=by omega
      have hsc3:¬ sc=0:=by omega
      simp only [List.length_append,List.length_singleton] at hk3 hsc hsl hlss
      replace hz14:zk=14:=hz14
      subst hz14
      obtain ⟨e,rfl,rfl,rfl,hxe⟩:∃ e,zx=empty∧zm=0∧zks=[e]∧ExT e:=by
       cases hstz with
       | ret he=>exact ⟨_,rfl,rfl,rfl,he⟩
      have hrett:retL (init++[.node 14 empty 0 [e]])=true:=by rw [retL_snoc];rfl
      obtain rfl:j=ps.length:=by omega
      rw [List.take_of_length_le (jE _)] at hI
      have hub:∀ b,u'.ownBlock=some b→b<wr.heap.size:=fun b e=>(hI.rl.lt _ e).2
      have hNr:=hN2'.fr hFr (by omega) (by simp [Value.ownBlock])
      have hPr:=hP2'.fr hFr (by omega) (by simp [Value.ownBlock])
      have hBg:=hI.begin (by omega) (by omega)
      have l1:=hN2'.lt
      have l2:=hP2'.lt
      have hnb:u'.ownBlock≠some w.heap.size:=fun e=>by rcases hFr.own _ e with h5 | h5;cases h5;omega
      have hpb:u'.ownBlock≠some w1.heap.size:=fun e=>by rcases hFr.own _ e with h5 | h5;cases h5;omega
      have hNlt:=hNr.lt
      have hPlt:=hPr.lt
      clear hpar
      go_wp2_with (go_at_call 81;refine hBg.mono ?_;rintro e w3 ⟨rfl,hw3⟩;have hI3:CS w0 w3 D Kb kn kf (vsOf (parL ps)) u' (at_+1+ps.length+1):=by { rw [hw3];exact hI.setAt _ };have hN3:BoxC w3 w.heap.size #[.int .i64 4,.string x,.int .i64 m,.slice (some ⟨g,o,none⟩) (ps.length+1) c] 25:=by { rw [hw3];exact hNr.other (by omega) _ };have hP3:BoxC w3 w1.heap.size #[.string qn,.bool qb,.slice za ps.length zc,.int .i64 qw,.bool true,.int .i64 qv] 80:=by { rw [hw3];exact hPr.other (by omega) _ };have hs3:wr.heap.size≤w3.heap.size:=by { rw [hw3,World.size_setCell];exact jE _ };clear hw3;have n3:=hN3.cell 3 rfl;have q3:=hP3.cell 3 rfl;have q4:=hP3.cell 4 rfl;have q4':=cell_new q4 (.cells #[.int .i64 qw,.int .i64 0] 179);have j3:=(hI3.bs.cell (p:=⟨g,o+ps.length*4+3,none⟩) hg).trans hk3;have y0:=cell_new ((hI3.bs.cell (p:=⟨g2,o2+init.length*4,none⟩) hg2).trans z0) (.cells #[.int .i64 qw,.int .i64 0] 179))
      have hI4:=hI3.alloc (.cells #[.int .i64 qw,.int .i64 0] 179)
      have HB:Hid _:=HR.out.symm.trans (HN2.out init (.node 14 empty 0 [e]) hrett)
      have hsb:(w3.alloc (.cells #[.int .i64 qw,.int .i64 0] 179)).cell? ⟨w3.heap.size,0,none⟩=some (.int .i64 qw)∧(w3.alloc (.cells #[.int .i64 qw,.int .i64 0] 179)).cell? ⟨w3.heap.size,1,none⟩=some (.int .i64 0):=⟨by simp,by simp⟩
      have hP4:=hP3.alloc (.cells #[.int .i64 qw,.int .i64 0] 179)
      have hC:=hS init hsti qw 1 0 (parL ps) u' (some ⟨g2,o2,none⟩) sc (w3.alloc (.cells #[.int .i64 qw,.int .i64 0] 179)).drew (at_+1+ps.length+1) (fun _=>⟨g2,o2,rfl,hg2,liesAt_init hat2⟩) (parL_inv ps) (parL_lab ps) (by rw [parL_len];exact hP) hlab.2.1 (by omega) hI4.drew (by omega) (by omega)
      have HX:Hid (∀ s,stsN E ⟨true,qv⟩ qw 1 init (parL ps) (at_+1+ps.length+1)=.ok s→Ext 1 (parL ps) s.1∧s.2=at_+1+ps.length+1+cntL init∧s.1.length≤20):=fun s hs=>by
       obtain ⟨a1,a2,a3⟩:=stsN_ok E _ init _ _ _ _ _ hsti hs
       exact ⟨a1,a2,a3 (by rw [parL_len];exact hP)⟩
      generalize stsN E ⟨true,qv⟩ qw 1 init (parL ps) (at_+1+ps.length+1)=X at *
      clear HR HN0 HN1 HN2 n3 q3 q4 q4' j3 y0 hS
      have hub4:∀ b,u'.ownBlock=some b→b<w3.heap.size:=fun b e=>by have:=hub b e;omega
      refine wp_region_held_drew (S:=fun W=>W.cell? ⟨w3.heap.size,0,none⟩=some (.int .i64 qw)∧W.cell? ⟨w3.heap.size,1,none⟩=some (.int .i64 0)) (by kernel_rfl) (show (fun W=>W.cell? ⟨w3.heap.size,0,none⟩=some (.int .i64 qw)∧W.cell? ⟨w3.heap.size,1,none⟩=some (.int .i64 0)) (w3.alloc (.cells #[.int .i64 qw,.int .i64 0] 179)).drew from hsb) (fun hHeld=>?_)
      clear hHeld
      replace hI4:=hI4.drew
      replace hsb:(fun W=>W.cell? ⟨w3.heap.size,0,none⟩=some (.int .i64 qw)∧W.cell? ⟨w3.heap.size,1,none⟩=some (.int .i64 0)) (w3.alloc (.cells #[.int .i64 qw,.int .i64 0] 179)).drew:=hsb
      replace hP4:BoxC (w3.alloc (.cells #[.int .i64 qw,.int .i64 0] 179)).drew w1.heap.size #[.string qn,.bool qb,.slice za ps.length zc,.int .i64 qw,.bool true,.int .i64 qv] 80:=hP4
      have hbl4:w3.heap.size<(w3.alloc (.cells #[.int .i64 qw,.int .i64 0] 179)).drew.heap.size:=by show _<(w3.alloc (.cells #[.int .i64 qw,.int .i64 0] 179)).heap.size;simp
      generalize (w3.alloc (.cells #[.int .i64 qw,.int .i64 0] 179)).drew=W4 at *
      refine tkP 0 (.pointer (some ⟨D,0,none⟩)) hsb ?_
      simp only [Act.put,jA,jB,jC]
      refine tkP 1 (.slice (some ⟨g2,o2,none⟩) (init.length+1) sc) hsb ?_
      simp only [Act.put,jA,jB,jC]
      refine tkP 2 (.int .i64 init.length) hsb ?_
      simp only [Act.put,jA,jB,jC]
      refine tkP 3 (.slice (some ⟨g2,o2,none⟩) init.length sc) hsb ?_
      simp only [Act.put,jA,jB,jC]
      refine tkP 4 (.agg #[.int .i64 qw,.int .i64 0]) hsb ?_
      simp only [Act.put,jA,jB,jC]
      refine oneH 5 fun K hK=>?_
      go_simp
      go_at_call 133
      refine hC.mono ?_
      cases X with
      | bad cc bb =>
       have HC:Hid (R=.bad cc bb):=HB.out
       rintro e5 w5 ⟨rfl,hb5⟩
       go_wp2
       exact ⟨rfl,PR.mkBad HC.out hb5⟩
      | ok s =>
       obtain ⟨L2,a2⟩:=s
       obtain ⟨hx1,hx2,hx3⟩:=HX.out _ rfl
       dsimp only at hx1 hx2 hx3
       subst hx2
       rintro e5 w5 ⟨rfl,u5,hI5,hf5⟩
       dsimp only at hI5
       have hsb5:(fun W=>W.cell? ⟨w3.heap.size,0,none⟩=some (.int .i64 qw)∧W.cell? ⟨w3.heap.size,1,none⟩=some (.int .i64 0)) w5:=⟨(hf5.cell hbl4 (by omega) (fun e=>by have:=hub4 _ e;omega)).trans hsb.1,(hf5.cell hbl4 (by omega) (fun e=>by have:=hub4 _ e;omega)).trans hsb.2⟩
       have hP5:=hP4.fr hf5 (by omega) hpb
       have hlp5:w1.heap.size<w5.drew.heap.size:=hP5.lt
       have hnp5:u5.ownBlock≠some w1.heap.size:=fun e=>by rcases hf5.own _ e with h5 | h5;exact hpb h5;omega
       go_wp2
       refine hK.out _ _ hsb5 (fun hHeld=>?_)
       clear hK K hHeld
       refine wpAnyH_done (by kernel_rfl) ?_ _
       have hR5:=oResult e hxe hT ⟨qn,qb,qps,qw,true,qv⟩ za ps.length zc rfl hlab.2.2 L2 u5 _ w5.drew _ hlz (hx1.lab (parL_lab ps)) hx3 hI5.drew (by omega) (by omega)
       unfold procV at hR5
       dsimp only at hR5
       have hS20:(fun W=>W.cell? ⟨g2,o2+init.length*4,none⟩=some (.int .i64 14)∧W.cell? ⟨g2,o2+init.length*4+1,none⟩=some (.string empty)∧W.cell? ⟨g2,o2+init.length*4+2,none⟩=some (.int .i64 0)∧W.cell? ⟨g2,o2+init.length*4+3,none⟩=some (.slice za2 [e].length zc2)∧W.cell? ⟨w1.heap.size,0,none⟩=some (.string qn)∧W.cell? ⟨w1.heap.size,1,none⟩=some (.bool qb)∧W.cell? ⟨w1.heap.size,2,none⟩=some (.slice za ps.length zc)∧W.cell? ⟨w1.heap.size,3,none⟩=some (.int .i64 qw)∧W.cell? ⟨w1.heap.size,4,none⟩=some (.bool true)∧W.cell? ⟨w1.heap.size,5,none⟩=some (.int .i64 qv)) w5.drew:=⟨(hI5.bs.cell (p:=⟨g2,o2+init.length*4,none⟩) hg2).trans z0,(hI5.bs.cell (p:=⟨g2,o2+init.length*4+1,none⟩) hg2).trans z1,(hI5.bs.cell (p:=⟨g2,o2+init.length*4+2,none⟩) hg2).trans z2,(hI5.bs.cell (p:=⟨g2,o2+init.length*4+3,none⟩) hg2).trans z3,hP5.cell 0 rfl,hP5.cell 1 rfl,hP5.cell 2 rfl,hP5.cell 3 rfl,hP5.cell 4 rfl,hP5.cell 5 rfl⟩
       have HB2:Hid _:=HB.out
       generalize stF E ⟨true,qv⟩ qw 1 true (.node 14 empty 0 [e]) L2 (at_+1+ps.length+1+cntL init)=Y at *
       clear hT hlz hC HX HB
       go_wp2
       refine wp_region_held_drew (S:=fun W=>W.cell? ⟨g2,o2+init.length*4,none⟩=some (.int .i64 14)∧W.cell? ⟨g2,o2+init.length*4+1,none⟩=some (.string empty)∧W.cell? ⟨g2,o2+init.length*4+2,none⟩=some (.int .i64 0)∧W.cell? ⟨g2,o2+init.length*4+3,none⟩=some (.slice za2 [e].length zc2)∧W.cell? ⟨w1.heap.size,0,none⟩=some (.string qn)∧W.cell? ⟨w1.heap.size,1,none⟩=some (.bool qb)∧W.cell? ⟨w1.heap.size,2,none⟩=some (.slice za ps.length zc)∧W.cell? ⟨w1.heap.size,3,none⟩=some (.int .i64 qw)∧W.cell? ⟨w1.heap.size,4,none⟩=some (.bool true)∧W.cell? ⟨w1.heap.size,5,none⟩=some (.int .i64 qv)) (by kernel_rfl) hS20 (fun hHeld=>?_)
       clear hHeld
       generalize w5.drew=W5 at *
       refine tkP 0 (.pointer (some ⟨D,0,none⟩)) hS20 ?_
       simp only [Act.put,jA,jB,jC]
       refine tkP 1 (.slice (some ⟨g2,o2,none⟩) (init.length+1) sc) hS20 ?_
       simp only [Act.put,jA,jB,jC]
       refine tkP 2 (.int .i64 init.length) hS20 ?_
       simp only [Act.put,jA,jB,jC]
       refine tkP 3 (.pointer (some ⟨g2,o2+init.length*4,none⟩)) hS20 ?_
       simp only [Act.put,jA,jB,jC]
       refine tkP 4 (.agg #[.int .i64 14,.string empty,.int .i64 0,.slice za2 [e].length zc2]) hS20 ?_
       simp only [Act.put,jA,jB,jC]
       refine tkP 5 (.agg #[.string qn,.bool qb,.slice za ps.length zc,.int .i64 qw,.bool true,.int .i64 qv]) hS20 ?_
       simp only [Act.put,jA,jB,jC]
       refine oneH 6 fun K hK=>?_
       go_simp
       go_at_call 134
       refine hR5.mono ?_
       cases Y with
       | bad cc bb =>
        have HC:Hid (R=.bad cc bb):=HB2.out
        rintro e5 w6 ⟨rfl,hb5⟩
        go_wp2
        exact ⟨rfl,PR.mkBad HC.out hb5⟩
       | ok s2 =>
        have HC:Hid (R=.ok s2.2):=HB2.out
        rintro e5 w6 ⟨rfl,u6,hI6,hf6⟩
        have hS6:(fun W=>W.cell? ⟨g2,o2+init.length*4,none⟩=some (.int .i64 14)∧W.cell? ⟨g2,o2+init.length*4+1,none⟩=some (.string empty)∧W.cell? ⟨g2,o2+init.length*4+2,none⟩=some (.int .i64 0)∧W.cell? ⟨g2,o2+init.length*4+3,none⟩=some (.slice za2 [e].length zc2)∧W.cell? ⟨w1.heap.size,0,none⟩=some (.string qn)∧W.cell? ⟨w1.heap.size,1,none⟩=some (.bool qb)∧W.cell? ⟨w1.heap.size,2,none⟩=some (.slice za ps.length zc)∧W.cell? ⟨w1.heap.size,3,none⟩=some (.int .i64 qw)∧W.cell? ⟨w1.heap.size,4,none⟩=some (.bool true)∧W.cell? ⟨w1.heap.size,5,none⟩=some (.int .i64 qv)) w6:=⟨(hI6.bs.cell (p:=⟨g2,o2+init.length*4,none⟩) hg2).trans z0,(hI6.bs.cell (p:=⟨g2,o2+init.length*4+1,none⟩) hg2).trans z1,(hI6.bs.cell (p:=⟨g2,o2+init.length*4+2,none⟩) hg2).trans z2,(hI6.bs.cell (p:=⟨g2,o2+init.length*4+3,none⟩) hg2).trans z3,(hf6.cell hlp5 (by omega) hnp5).trans hS20.2.2.2.2.1,(hf6.cell hlp5 (by omega) hnp5).trans hS20.2.2.2.2.2.1,(hf6.cell hlp5 (by omega) hnp5).trans hS20.2.2.2.2.2.2.1,(hf6.cell hlp5 (by omega) hnp5).trans hS20.2.2.2.2.2.2.2.1,(hf6.cell hlp5 (by omega) hnp5).trans hS20.2.2.2.2.2.2.2.2.1,(hf6.cell hlp5 (by omega) hnp5).trans hS20.2.2.2.2.2.2.2.2.2⟩
        go_wp2
        refine hK.out _ _ hS6 (fun hHeld=>?_)
        clear hK K hHeld
        refine wpAnyH_done (by kernel_rfl) ?_ _
        go_wp2
        go_end0
        exact PR.mkOk HC.out hI6
     ·skip
      obtain ⟨g2,o2,rfl,hg2,hat2⟩:=hss (by simp)
      obtain ⟨zv,⟨x0,x1,x2,x3,rfl,z0,z1,z2,z3⟩,hlz⟩:=hat2.get init.length (by simp)
      rw [List.getElem_append_right (jE _)] at hlz
      simp only [Nat.sub_self,List.getElem_cons_zero] at hlz
      obtain ⟨zk,zx,zm,zks⟩:=z
      have hlz2:=hlz
      unfold Lies at hlz2
      obtain ⟨za2,zc2,ez,_,_⟩:=hlz2
      injection ez with ez
      simp only [Array.mk.injEq,List.cons.injEq,and_true] at ez
      obtain ⟨rfl,rfl,rfl,rfl⟩:=ez
      have hstz:=hst _ (List.mem_append_right _ (List.mem_singleton.2 rfl))
      have hsti:∀ t∈init,StT t:=fun t ht=>hst t (List.mem_append_left _ ht)
      have hidx:((init.length:Int)+1) - 1=(init.length:Int):=by omega
      have hcapp:cntL (init++[.node zk zx zm zks])=cntL init+cntT (.node zk zx zm zks):=by rw [cntL_app,cntL_one]
      have hci:=cntL_pos init
      have hcz:=cntT_pos (.node zk zx zm zks)
      have hsc0:init.length+1≤sc:=by simpa using hsc
      have hsc1:init.length≤sc:=by omega
      have hsc2:¬ sc<init.length:=by omega
      have hsc3:¬ sc=0:=by omega
      simp only [List.length_append,List.length_singleton] at hk3 hsc hsl hlss
      replace hz14:¬ zk=14:=hz14
      have hretf:retL (init++[.node zk zx zm zks])=false:=by rw [retL_snoc];simp [retL,hz14]
      have hz14':(zk==14)=false:=by simp [hz14]
      have hz14'':decide (zk=14)=false:=by simp [hz14]
      have hz14n:(zk != 14)=true:=by simp [hz14]
      obtain rfl:j=ps.length:=by omega
      rw [List.take_of_length_le (jE _)] at hI
      have hub:∀ b,u'.ownBlock=some b→b<wr.heap.size:=fun b e=>(hI.rl.lt _ e).2
      have hNr:=hN2'.fr hFr (by omega) (by simp [Value.ownBlock])
      have hPr:=hP2'.fr hFr (by omega) (by simp [Value.ownBlock])
      have hBg:=hI.begin (by omega) (by omega)
      have l1:=hN2'.lt
      have l2:=hP2'.lt
      have hnb:u'.ownBlock≠some w.heap.size:=fun e=>by rcases hFr.own _ e with h5 | h5;cases h5;omega
      have hpb:u'.ownBlock≠some w1.heap.size:=fun e=>by rcases hFr.own _ e with h5 | h5;cases h5;omega
      have hNlt:=hNr.lt
      have hPlt:=hPr.lt
      clear hpar
      go_wp2_with (go_at_call 81;refine hBg.mono ?_;rintro e w3 ⟨rfl,hw3⟩;have hI3:CS w0 w3 D Kb kn kf (vsOf (parL ps)) u' (at_+1+ps.length+1):=by { rw [hw3];exact hI.setAt _ };have hN3:BoxC w3 w.heap.size #[.int .i64 4,.string x,.int .i64 m,.slice (some ⟨g,o,none⟩) (ps.length+1) c] 25:=by { rw [hw3];exact hNr.other (by omega) _ };have hP3:BoxC w3 w1.heap.size #[.string qn,.bool qb,.slice za ps.length zc,.int .i64 qw,.bool true,.int .i64 qv] 80:=by { rw [hw3];exact hPr.other (by omega) _ };have hs3:wr.heap.size≤w3.heap.size:=by { rw [hw3,World.size_setCell];exact jE _ };clear hw3;have n3:=hN3.cell 3 rfl;have q3:=hP3.cell 3 rfl;have q4:=hP3.cell 4 rfl;have q4':=cell_new q4 (.cells #[.int .i64 qw,.int .i64 0] 179);have j3:=(hI3.bs.cell (p:=⟨g,o+ps.length*4+3,none⟩) hg).trans hk3;have y0:=cell_new ((hI3.bs.cell (p:=⟨g2,o2+init.length*4,none⟩) hg2).trans z0) (.cells #[.int .i64 qw,.int .i64 0] 179))
      have hI4:=hI3.alloc (.cells #[.int .i64 qw,.int .i64 0] 179)
      have hC:=hS (init++[.node zk zx zm zks]) hst qw 1 0 (parL ps) u' (some ⟨g2,o2,none⟩) sc _ (at_+1+ps.length+1) hss (parL_inv ps) (parL_lab ps) (by rw [parL_len];exact hP) hlab.2.1 (by omega) hI4 (by omega) (by omega)
      simp only [List.length_append,List.length_singleton] at hC
      refine hC.mono ?_
      have HB:Hid _:=HR.out.symm.trans (HN1.out (by first | rfl | trivial) hretf)
      generalize stsN E ⟨true,qv⟩ qw 1 (init++[.node zk zx zm zks]) (parL ps) (at_+1+ps.length+1)=X at *
      clear HR HN0 HN1 HN2 hC
      cases X with
      | bad cc bb =>
       rintro e w5 ⟨rfl,hb5⟩
       go_wp2
       exact ⟨rfl,PR.mkBad HB.out hb5⟩
      | ok s =>
       have HB2:Hid (R=.bad 2 at_):=HB.out
       rintro e w5 ⟨rfl,u5,hI5,hf5⟩
       go_wp2_with (go_at_call 131;refine (oRefuseC 2 at_ _).mono ?_;rintro e w6 ⟨rfl,hw6⟩;rw [hw6])
       exact ⟨rfl,PR.mkBad HB2.out hI5.bs⟩
end
end chk
namespace face
open Go.RowKit Go.Maps
open syn
def AP (Z:Nat) (w:World) (D Bm Bd:Nat) (vv iv:Value) (mo:ByteArray) (V:List VarD) (P:List (ProcD × Value)) (is ms ns:List ByteArray) (at_:Int) (x:ByteArray) (p l:Bool) (gv:Option Bool) (ps:List (ByteArray × Bool)) (e:Ending) (w':World):Prop :=
 Below Bm w w' ∧
  ((among ns x=true∧e=.panicked (Thrown 5 at_))∨(among ns x=false∧20≤ns.length∧e=.panicked (Thrown 1 at_)) ∨
   (among ns x=false∧ns.length<20∧5<ps.length∧e=.panicked (Thrown 1 at_)) ∨
   (among ns x=false∧ns.length<20∧ps.length≤5∧e=.returned (.tuple #[])∧KZ Z w w'∧∃ b0 pv' P',DI w' D Bm Bd (some b0) vv pv' iv mo V P' is ms (ns++[x]) [] at_∧P'.map (·.1)=P.map (·.1)++if p then [procD x p l gv ps] else []))
set_option maxHeartbeats 4000000 in
theorem oAddProc {D Bm Bd:Nat} {mp:Option Nat} {vv pv iv:Value} {mo:ByteArray} {V:List VarD} {P:List (ProcD × Value)} {is ms ns qs:List ByteArray} {at_:Int} (x:ByteArray) (p l:Bool) (gv:Option Bool) (ps:List (ByteArray × Bool)) (b:Tree) (v:Value) (w:World) (hv:Lies (·<Bm) w (Kid.proc x p l gv ps b).tree v)
  (h:DI w D Bm Bd mp vv pv iv mo V P is ms ns qs at_) (hx:x.size≤16) (hns:ns.length≤20) (hP:P.length≤20) (hps:ps.length≤1000) (hInT:InT b) (Z:Nat) (hZ:Z<w.heap.size) (hZD:D<Z) (hZp:pv.ownBlock≠some Z) :
  Calls Tryz.prog 119 #[.pointer (some ⟨D,0,none⟩),v] w (AP Z w D Bm Bd vv iv mo V P is ms ns at_ x p l gv ps):=by
 have c24:=kc25
 have c6:Tryz.prog.cellsOf 80=6:=cell6
 obtain ⟨i0,hi,hz0,hz1,hz2⟩:=info_parts infoP
 have hmm0:=@run_makeMap Tryz.prog
 have hv0:=hv
 rw [Kid.tree_is] at hv
 unfold Lies at hv
 obtain ⟨a,c,rfl,hl,hk⟩:=hv
 simp only [Kid.kind,Kid.text,Kid.num] at *
 have hmB:Bm≤w.heap.size:=by have:=h.lm;have:=h.ld;have:=h.dc.lt;omega
 have hPr:∀ W,Below Bm w W→Calls Tryz.prog 130 #[.agg #[.int .i64 4,.string x,.int .i64 (2*bI p+bI l+gI gv),.slice a (Kid.proc x p l gv ps b).kids.length c]] W fun e w'=>∃ u,e=.returned (procV (procD x p l gv ps) u)∧w'.ownsRow W.heap.size 3 1 u ps.length (intV (ps.map fun q=>bI q.2))∧Below W.heap.size W w':=fun W hW=>oProcOf x p l gv ps b _ W (hv0.to (fun b hb=>by have:=hW.size;show b<W.heap.size;have hb':b<Bm:=hb;omega) (fun b hb o=>hW.cell (p:=⟨b,o,none⟩) hb)) hps hInT
 clear hk hl hv0
 generalize 2*bI p+bI l+gI gv=m at *
 generalize (Kid.proc x p l gv ps b).kids.length=kl at *
 have hd:=h.dc.lt
 have hmm:=h.lm
 have hdd:=h.ld
 have hI0:=h.below (bal (.cells #[.int .i64 4,.string x,.int .i64 m,.slice a kl c] 25))
 have hI:DI (w.alloc (.cells #[.int .i64 4,.string x,.int .i64 m,.slice a kl c] 25)).drew D Bm Bd mp vv pv iv mo V P is ms ns qs at_:=hI0.below ⟨rfl,rfl,rfl,jE _,fun _ _=>rfl⟩
 clear hI0
 have hQ:Q4 w.heap.size (.int .i64 4) (.string x) (.int .i64 m) (.slice a kl c) (w.alloc (.cells #[.int .i64 4,.string x,.int .i64 m,.slice a kl c] 25)).drew:=⟨by simp,by simp,by simp,by simp⟩
 have hB:Below w.heap.size w (w.alloc (.cells #[.int .i64 4,.string x,.int .i64 m,.slice a kl c] 25)).drew:=(bal _).drew
 have hKZ:KZ Z w (w.alloc (.cells #[.int .i64 4,.string x,.int .i64 m,.slice a kl c] 25)).drew:=((KZ.mk rfl hZ).alloc _).drew
 have hS:(w.alloc (.cells #[.int .i64 4,.string x,.int .i64 m,.slice a kl c] 25)).drew.cell? ⟨D,5,none⟩=some (.map (some Bd))∧(w.alloc (.cells #[.int .i64 4,.string x,.int .i64 m,.slice a kl c] 25)).drew.cell? ⟨w.heap.size,1,none⟩=some (.string x):=⟨hI.dc.c5,hQ.2.1⟩
 go_enter Tryz.func119,Tryz.ntmps119
 go_wp2
 refine wp_region_held_drew (S:=fun W=>W.cell? ⟨D,5,none⟩=some (.map (some Bd))∧W.cell? ⟨w.heap.size,1,none⟩=some (.string x)) (by kernel_rfl) hS (fun hHeld=>?_)
 clear hHeld
 generalize (w.alloc (.cells #[.int .i64 4,.string x,.int .i64 m,.slice a kl c] 25)).drew=W at *
 refine tkP 0 (.pointer (some ⟨D,0,none⟩)) hS ?_
 simp only [Act.put,jA,jB,jC]
 refine tkP 1 (.pointer (some ⟨D,0,none⟩)) hS ?_
 simp only [Act.put,jA,jB,jC]
 refine tkP 2 (.pointer (some ⟨D,0,none⟩)) hS ?_
 simp only [Act.put,jA,jB,jC]
 refine tkP 3 (.pointer (some ⟨D,5,none⟩)) hS ?_
 simp only [Act.put,jA,jB,jC]
 refine tkP 4 (.map (some Bd)) hS ?_
 simp only [Act.put,jA,jB,jC]
 refine tkP 5 (.pointer (some ⟨w.heap.size,1,none⟩)) hS ?_
 simp only [Act.put,jA,jB,jC]
 refine tkP 6 (.string x) hS ?_
 simp only [Act.put,jA,jB,jC]
 refine oneH 7 fun K hK=>?_
 go_simp
 go_at_call 117
 refine (oEnter D Bd ns x 20 at_ W hI.dc.c7 hI.od hI.ad (by omega) (by omega) (by omega)).mono ?_
 rintro e W1 (⟨hm1,rfl,hb⟩|⟨hm1,hle,rfl,hb⟩|⟨hm1,hlt,rfl,hom,ham,hg⟩)
 ·go_wp2
  exact ⟨rfl,(hB.trans (hb.mono hB.size)).mono (by omega),.inl ⟨hm1,rfl⟩⟩
 ·go_wp2
  exact ⟨rfl,(hB.trans (hb.mono hB.size)).mono (by omega),.inr (.inl ⟨hm1,hle,rfl⟩)⟩
 go_wp2
 replace hQ:=Q4.grown hQ hg (by simp;omega)
 have hI1:=hI.enterD hom ham hg
 have hB1:Below Bm w W1:=(hB.mono (by omega)).grown hg (by have:=hB.size;omega) (fun k e=>by cases e;omega)
 have hKZ1:=hKZ.grown hg (by simp;omega)
 clear hB hom ham hg hI hKZ
 refine hK.out _ _ ⟨hI1.dc.c5,hQ.2.1⟩ (fun hHeld=>?_)
 clear hK K hHeld
 refine wpAnyH_done (by kernel_rfl) ?_ _
 obtain ⟨q0,q1,q2,q3⟩:=id hQ
 have hs1:=hB1.size
 by_cases h5:5<ps.length
 ·go_wp2_with first
   | (go_at_call 130;refine (hPr _ hB1).mono ?_;rintro e w2 ⟨u,rfl,hou,hb2⟩;unfold procV procD;obtain ⟨au,cu,rfl,_,_⟩:=lexs.own_shape hou;have hI2:=(hI1.below hb2).below (bal (.cells #[.string x,.bool p,.slice au ps.length cu,.int .i64 (bI l),.bool gv.isSome,.int .i64 (bI (gv.getD false))] 80)))
   | (go_at_call 151;refine (oRefuse D _ at_ _ hI2.dc.c7).mono ?_;rintro e w3 ⟨rfl,hw3⟩;obtain rfl:=hw3.symm)
  exact ⟨rfl,(hB1.trans (hb2.mono (by omega))).alloc (by have:=hb2.size;omega) _,.inr (.inr (.inl ⟨hm1,hlt,h5,rfl⟩))⟩
 have HS:Hid (ps.length≤5):=by show _≤_;omega
 cases p
 ·go_wp2_with first
   | (go_at_call 130;refine (hPr _ hB1).mono ?_;rintro e w2 ⟨u,rfl,hou,hb2⟩;unfold procV procD;obtain ⟨au,cu,rfl,_,_⟩:=lexs.own_shape hou;have hI2:=(hI1.below hb2).below (bal (.cells #[.string x,.bool false,.slice au ps.length cu,.int .i64 (bI l),.bool gv.isSome,.int .i64 (bI (gv.getD false))] 80));have hI3:=hI2.below (bal (.map #[] 0));have m6:=hI3.dc.c6;have mf:=hI3.dc.fz 6)
  have hfin:=hI2.newP (bal (.map #[] 0)) (World.ownsMap_made _ _ _ _)
  have hs2:=hb2.size
  go_end0
  exact ⟨((((hB1.trans (hb2.mono (by omega))).alloc (by omega) _).alloc (by simp;omega) _).setCell (by show Bm≤D;omega) _),.inr (.inr (.inr ⟨hm1,hlt,HS.out,rfl,(((hKZ1.below hb2).alloc _).alloc _).set (by omega) _,_,pv,P,by simpa using hfin,by simp⟩))⟩
 have HD:Hid (procD x true l gv ps=⟨x,true,ps.map fun q=>bI q.2,bI l,gv.isSome,bI (gv.getD false)⟩):=rfl
 unfold procV procD at hPr
 simp only at hPr
 generalize gv.isSome=gs at *
 generalize bI (gv.getD false)=gd at *
 go_wp2_with first
  | (go_at_call 130;refine (hPr _ hB1).mono ?_;rintro e w2 ⟨u,rfl,hou,hb2⟩;obtain ⟨au,cu,rfl,_,_⟩:=lexs.own_shape hou)
 have hs2:=hb2.size
 have hpar:ParIn (fun b=>W1.heap.size≤b∧b<w2.heap.size) w2 (.slice au ps.length cu) (ps.map fun q=>bI q.2):=ParIn.own (by rw [List.length_map];exact hou)
 have hI2:DI (w2.alloc (.cells #[.string x,.bool true,.slice au ps.length cu,.int .i64 (bI l),.bool gs,.int .i64 gd] 80)).drew D Bm Bd mp vv pv iv mo V P is ms (ns++[x]) qs at_:=((hI1.below hb2).below (bal (.cells #[.string x,.bool true,.slice au ps.length cu,.int .i64 (bI l),.bool gs,.int .i64 gd] 80))).below ⟨rfl,rfl,rfl,jE _,fun _ _=>rfl⟩
 have hB2:Below Bm w (w2.alloc (.cells #[.string x,.bool true,.slice au ps.length cu,.int .i64 (bI l),.bool gs,.int .i64 gd] 80)).drew:=((hB1.trans (hb2.mono (by omega))).alloc (by omega) _).drew
 have hKZ2:KZ Z w (w2.alloc (.cells #[.string x,.bool true,.slice au ps.length cu,.int .i64 (bI l),.bool gs,.int .i64 gd] 80)).drew:=((hKZ1.below hb2).alloc _).drew
 have hbW:Below w2.heap.size w2 (w2.alloc (.cells #[.string x,.bool true,.slice au ps.length cu,.int .i64 (bI l),.bool gs,.int .i64 gd] 80)).drew:=(bal _).drew
 have hS2:Box6 (w2.alloc (.cells #[.string x,.bool true,.slice au ps.length cu,.int .i64 (bI l),.bool gs,.int .i64 gd] 80)).drew w2.heap.size (.string x) (.bool true) (.slice au ps.length cu) (.int .i64 (bI l)) (.bool gs) (.int .i64 gd):=(Box6.new w2 _ _ _ _ _ _ _).drew
 have hold:∀ k,(vv.ownBlock=some k∨pv.ownBlock=some k∨iv.ownBlock=some k∨mp=some k)→k<W1.heap.size:=fun k e=>by
  rcases e with e | e | e | e
  ·exact (hI1.fr.ov.lt _ e).2
  ·exact (hI1.fr.op.lt _ e).2
  ·exact (hI1.oi.lt _ e).2
  ·exact (hI1.op k e).lt
 have hDw:=hI1.dc.lt
 clear hKZ1 hI1 hB1 hQ q0 q1 q2 q3 hou hb2
 refine wp_region_held_drew (S:=fun W=>Box6 W w2.heap.size (.string x) (.bool true) (.slice au ps.length cu) (.int .i64 (bI l)) (.bool gs) (.int .i64 gd)) (by kernel_rfl) hS2 (fun hHeld=>?_)
 clear hHeld
 generalize (w2.alloc (.cells #[.string x,.bool true,.slice au ps.length cu,.int .i64 (bI l),.bool gs,.int .i64 gd] 80)).drew=W2 at *
 generalize hN:w2.heap.size=N at *
 obtain ⟨ap,cp,rfl⟩:=hI2.fr.shapeP
 refine tkP 0 (.pointer (some ⟨D,0,none⟩)) hS2 ?_
 simp only [Act.put,jA,jB,jC]
 refine tkP 1 (.pointer (some ⟨D,0,none⟩)) hS2 ?_
 simp only [Act.put,jA,jB,jC]
 refine tkP 2 (.pointer (some ⟨D,0,none⟩)) hS2 ?_
 simp only [Act.put,jA,jB,jC]
 refine tkP 3 (.pointer (some ⟨D,0,none⟩)) hS2 ?_
 simp only [Act.put,jA,jB,jC]
 refine tkP 4 (.pointer (some ⟨D,2,none⟩)) hS2 ?_
 simp only [Act.put,jA,jB,jC]
 refine tkP 6 (.agg #[.string x,.bool true,.slice au ps.length cu,.int .i64 (bI l),.bool gs,.int .i64 gd] ) hS2 ?_
 simp only [Act.put,jA,jB,jC]
 refine wpAnyH_ready (rs:=[5,7]) (by kernel_rfl) (by simp) ?_
 refine AllReadyH.cons rfl (fun K hK=>?_) ?_
 ·skip
  have m1:=hI2.dc.c2
  go_simp
  refine hK.out _ _ hS2 (fun hHeld=>?_)
  clear hK K hHeld m1
  refine oneH 7 fun K hK=>?_
  go_simp
  have hsl:∀ j u,[Value.string x,.bool true,.slice au ps.length cu,.int .i64 (bI l),.bool gs,.int .i64 gd][j]?=some u→(W2.alloc (.cells #[.string x,.bool true,.slice au ps.length cu,.int .i64 (bI l),.bool gs,.int .i64 gd] 80)).cell? ((⟨W2.heap.size,0,none⟩:Addr).add j)=some u:=news_new _ #[.string x,.bool true,.slice au ps.length cu,.int .i64 (bI l),.bool gs,.int .i64 gd] _ _ rfl
  have hss:W2.heap.size+1=(W2.alloc (.cells #[.string x,.bool true,.slice au ps.length cu,.int .i64 (bI l),.bool gs,.int .i64 gd] 80)).heap.size:=by simp
  replace hKZ2:=hKZ2.alloc (.cells #[.string x,.bool true,.slice au ps.length cu,.int .i64 (bI l),.bool gs,.int .i64 gd] 80)
  replace hB2:=hB2.alloc (by have:=hI2.dc.lt;omega) (.cells #[.string x,.bool true,.slice au ps.length cu,.int .i64 (bI l),.bool gs,.int .i64 gd] 80)
  replace hbW:=hbW.alloc (by have:=hbW.size;omega) (.cells #[.string x,.bool true,.slice au ps.length cu,.int .i64 (bI l),.bool gs,.int .i64 gd] 80)
  replace hI2:=hI2.below (bal (.cells #[.string x,.bool true,.slice au ps.length cu,.int .i64 (bI l),.bool gs,.int .i64 gd] 80))
  replace hS2:=hS2.alloc (.cells #[.string x,.bool true,.slice au ps.length cu,.int .i64 (bI l),.bool gs,.int .i64 gd] 80)
  refine hK.out _ _ hS2 (fun hHeld=>?_)
  clear hK K hHeld
  generalize W2.alloc (.cells #[.string x,.bool true,.slice au ps.length cu,.int .i64 (bI l),.bool gs,.int .i64 gd] 80)=W3 at *
  generalize W2.heap.size=s0 at *
  refine oneH 8 fun K hK=>?_
  refine step_append_lies _ (by rfl) (.tmp 28) (.tmp 30) 42 (by rfl) (D+1) 80 i0 (.agg #[.string ⟨#[]⟩,.bool false,.slice none 0 0,.int .i64 0,.bool false,.int .i64 0]) 6 72 Tryz.underlying42 hi hz0 hz1 hz2 rfl (by decide) (.slice ap P.length cp) P.length (procCells P) (by simp [Act.eval,Act.put]) hI2.fr.op ⟨s0,0,none⟩ 1 1 [.string x,.bool true,.slice au ps.length cu,.int .i64 (bI l),.bool gs,.int .i64 gd] (by simp [Act.eval,Act.put]) rfl hsl (by intro u hu;simp at hu;rcases hu with rfl | rfl | rfl | rfl | rfl | rfl<;>rfl) (by omega) (by unfold maxLen;omega) (by omega) (by have:=hI2.dc.lt;omega) (s0+1) hss.symm ?_
  intro g5 cap5 w5 hown5 hgrow5 hat5 hlt5
  have hrN:(Value.slice ap P.length cp).ownBlock≠some N:=fun e=>by have:=hold _ (.inr (.inl e));omega
  have hrD:(Value.slice ap P.length cp).ownBlock≠some D:=fun e=>by have:=(hI2.fr.op.lt _ e).1;omega
  have hq:ParIn (fun b=>D+1≤b∧b<W3.heap.size∧vv.ownBlock≠some b∧(Value.slice ap P.length cp).ownBlock≠some b∧¬ (iv.ownBlock=some b∨mp=some b)) W3 (.slice au ps.length cu) (ps.map fun q=>bI q.2) :=
   hpar.to (fun b hb=>⟨by omega,by have:=hbW.size;omega,fun e=>by have:=hold _ (.inl e);omega,fun e=>by have:=hold _ (.inr (.inl e));omega,fun e=>by rcases e with e | e;have:=hold _ (.inr (.inr (.inl e)));omega;have:=hold _ (.inr (.inr (.inr e)));omega⟩) (fun b hb o v hc=>(hbW.cell (p:=⟨b,o,none⟩) (by show b<N;omega)).trans hc)
  have hfin:=hI2.pushP (q:=(⟨x,true,ps.map fun q=>bI q.2,bI l,gs,gd⟩,.slice au ps.length cu)) hown5 hgrow5 (hat5.imp id (fun e=>e.trans hss)) hq
  replace hS2:=hS2.grown hgrow5 hrN
  replace hKZ2:=hKZ2.grown hgrow5 hZp
  replace hB2:=hB2.grown hgrow5 (by have:=hI2.dc.lt;omega) (fun k e=>by have:=(hI2.fr.op.lt _ e).1;omega)
  have hdc:=hI2.dc.grown hgrow5 hrD
  have m1:=hdc.c2
  have mf:=hdc.fz 2
  clear hI2 hdc hq
  refine hK.out _ _ hS2 (fun hHeld=>?_)
  clear hK K hHeld
  simp only [Act.put,jA,jB,jC]
  refine tkP 9 (.pointer (some ⟨D,0,none⟩)) hS2 ?_
  simp only [Act.put,jA,jB,jC]
  refine tkP 10 (.pointer (some ⟨D,0,none⟩)) hS2 ?_
  simp only [Act.put,jA,jB,jC]
  refine tkP 11 (.pointer (some ⟨D,2,none⟩)) hS2 ?_
  simp only [Act.put,jA,jB,jC]
  refine oneH 12 fun K hK=>?_
  go_simp
  refine hK.out _ _ (hS2.other (by omega) _) (fun hHeld=>?_)
  clear hK K hHeld m1 mf hS2
  refine wpAnyH_done (by kernel_rfl) ?_ _
  replace hKZ2:=hKZ2.set (D:=D) (o:=2) (by omega) (.slice (some ⟨g5,0,none⟩) (P.length+1) cap5)
  replace hB2:=hB2.setCell (p:=⟨D,2,none⟩) (by show Bm≤D;omega) (.slice (some ⟨g5,0,none⟩) (P.length+1) cap5)
  generalize (World.setCell w5 ⟨D,2,none⟩ _)=W6 at *
  have hI3:=hfin.below (bal (.map #[] 0))
  have m6:=hI3.dc.c6
  have mf6:=hI3.dc.fz 6
  have hend:=hfin.newP (bal (.map #[] 0)) (World.ownsMap_made _ _ _ _)
  have hsz6:=hfin.dc.lt
  go_wp2
  go_end0
  exact ⟨(hB2.setCell (by show Bm≤D;omega) _).alloc (by rw [World.size_setCell];omega) _,.inr (.inr (.inr ⟨hm1,hlt,HS.out,rfl,(hKZ2.set (by omega) _).alloc _,W6.heap.size,.slice (some ⟨g5,0,none⟩) (P.length+1) cap5,P++[(⟨x,true,ps.map fun q=>bI q.2,bI l,gs,gd⟩,.slice au ps.length cu)],by rw [← World.setCell_alloc_past (hn:=hsz6)];exact hend,by rw [if_pos rfl,HD.out,List.map_append];rfl⟩))⟩
 refine AllReadyH.cons rfl (fun K hK=>?_) AllReadyH.nil
 go_simp
 have hsl:∀ j u,[Value.string x,.bool true,.slice au ps.length cu,.int .i64 (bI l),.bool gs,.int .i64 gd][j]?=some u→(W2.alloc (.cells #[.string x,.bool true,.slice au ps.length cu,.int .i64 (bI l),.bool gs,.int .i64 gd] 80)).cell? ((⟨W2.heap.size,0,none⟩:Addr).add j)=some u:=news_new _ #[.string x,.bool true,.slice au ps.length cu,.int .i64 (bI l),.bool gs,.int .i64 gd] _ _ rfl
 have hss:W2.heap.size+1=(W2.alloc (.cells #[.string x,.bool true,.slice au ps.length cu,.int .i64 (bI l),.bool gs,.int .i64 gd] 80)).heap.size:=by simp
 replace hKZ2:=hKZ2.alloc (.cells #[.string x,.bool true,.slice au ps.length cu,.int .i64 (bI l),.bool gs,.int .i64 gd] 80)
 replace hB2:=hB2.alloc (by have:=hI2.dc.lt;omega) (.cells #[.string x,.bool true,.slice au ps.length cu,.int .i64 (bI l),.bool gs,.int .i64 gd] 80)
 replace hbW:=hbW.alloc (by have:=hbW.size;omega) (.cells #[.string x,.bool true,.slice au ps.length cu,.int .i64 (bI l),.bool gs,.int .i64 gd] 80)
 replace hI2:=hI2.below (bal (.cells #[.string x,.bool true,.slice au ps.length cu,.int .i64 (bI l),.bool gs,.int .i64 gd] 80))
 replace hS2:=hS2.alloc (.cells #[.string x,.bool true,.slice au ps.length cu,.int .i64 (bI l),.bool gs,.int .i64 gd] 80)
 refine hK.out _ _ hS2 (fun hHeld=>?_)
 clear hK K hHeld
 generalize W2.alloc (.cells #[.string x,.bool true,.slice au ps.length cu,.int .i64 (bI l),.bool gs,.int .i64 gd] 80)=W3 at *
 generalize W2.heap.size=s0 at *
 refine oneH 5 fun K hK=>?_
 have m1:=hI2.dc.c2
 go_simp
 refine hK.out _ _ hS2 (fun hHeld=>?_)
 clear hK K hHeld m1
 refine oneH 8 fun K hK=>?_
 refine step_append_lies _ (by rfl) (.tmp 28) (.tmp 30) 42 (by rfl) (D+1) 80 i0 (.agg #[.string ⟨#[]⟩,.bool false,.slice none 0 0,.int .i64 0,.bool false,.int .i64 0]) 6 72 Tryz.underlying42 hi hz0 hz1 hz2 rfl (by decide) (.slice ap P.length cp) P.length (procCells P) (by simp [Act.eval,Act.put]) hI2.fr.op ⟨s0,0,none⟩ 1 1 [.string x,.bool true,.slice au ps.length cu,.int .i64 (bI l),.bool gs,.int .i64 gd] (by simp [Act.eval,Act.put]) rfl hsl (by intro u hu;simp at hu;rcases hu with rfl | rfl | rfl | rfl | rfl | rfl<;>rfl) (by omega) (by unfold maxLen;omega) (by omega) (by have:=hI2.dc.lt;omega) (s0+1) hss.symm ?_
 intro g5 cap5 w5 hown5 hgrow5 hat5 hlt5
 have hrN:(Value.slice ap P.length cp).ownBlock≠some N:=fun e=>by have:=hold _ (.inr (.inl e));omega
 have hrD:(Value.slice ap P.length cp).ownBlock≠some D:=fun e=>by have:=(hI2.fr.op.lt _ e).1;omega
 have hq:ParIn (fun b=>D+1≤b∧b<W3.heap.size∧vv.ownBlock≠some b∧(Value.slice ap P.length cp).ownBlock≠some b∧¬ (iv.ownBlock=some b∨mp=some b)) W3 (.slice au ps.length cu) (ps.map fun q=>bI q.2) :=
  hpar.to (fun b hb=>⟨by omega,by have:=hbW.size;omega,fun e=>by have:=hold _ (.inl e);omega,fun e=>by have:=hold _ (.inr (.inl e));omega,fun e=>by rcases e with e | e;have:=hold _ (.inr (.inr (.inl e)));omega;have:=hold _ (.inr (.inr (.inr e)));omega⟩) (fun b hb o v hc=>(hbW.cell (p:=⟨b,o,none⟩) (by show b<N;omega)).trans hc)
 have hfin:=hI2.pushP (q:=(⟨x,true,ps.map fun q=>bI q.2,bI l,gs,gd⟩,.slice au ps.length cu)) hown5 hgrow5 (hat5.imp id (fun e=>e.trans hss)) hq
 replace hS2:=hS2.grown hgrow5 hrN
 replace hKZ2:=hKZ2.grown hgrow5 hZp
 replace hB2:=hB2.grown hgrow5 (by have:=hI2.dc.lt;omega) (fun k e=>by have:=(hI2.fr.op.lt _ e).1;omega)
 have hdc:=hI2.dc.grown hgrow5 hrD
 have m1:=hdc.c2
 have mf:=hdc.fz 2
 clear hI2 hdc hq
 refine hK.out _ _ hS2 (fun hHeld=>?_)
 clear hK K hHeld
 simp only [Act.put,jA,jB,jC]
 refine tkP 9 (.pointer (some ⟨D,0,none⟩)) hS2 ?_
 simp only [Act.put,jA,jB,jC]
 refine tkP 10 (.pointer (some ⟨D,0,none⟩)) hS2 ?_
 simp only [Act.put,jA,jB,jC]
 refine tkP 11 (.pointer (some ⟨D,2,none⟩)) hS2 ?_
 simp only [Act.put,jA,jB,jC]
 refine oneH 12 fun K hK=>?_
 go_simp
 refine hK.out _ _ (hS2.other (by omega) _) (fun hHeld=>?_)
 clear hK K hHeld m1 mf hS2
 refine wpAnyH_done (by kernel_rfl) ?_ _
 replace hKZ2:=hKZ2.set (D:=D) (o:=2) (by omega) (.slice (some ⟨g5,0,none⟩) (P.length+1) cap5)
 replace hB2:=hB2.setCell (p:=⟨D,2,none⟩) (by show Bm≤D;omega) (.slice (some ⟨g5,0,none⟩) (P.length+1) cap5)
 generalize (World.setCell w5 ⟨D,2,none⟩ _)=W6 at *
 have hI3:=hfin.below (bal (.map #[] 0))
 have m6:=hI3.dc.c6
 have mf6:=hI3.dc.fz 6
 have hend:=hfin.newP (bal (.map #[] 0)) (World.ownsMap_made _ _ _ _)
 have hsz6:=hfin.dc.lt
 go_wp2
 go_end0
 exact ⟨(hB2.setCell (by show Bm≤D;omega) _).alloc (by rw [World.size_setCell];omega) _,.inr (.inr (.inr ⟨hm1,hlt,HS.out,rfl,(hKZ2.set (by omega) _).alloc _,W6.heap.size,.slice (some ⟨g5,0,none⟩) (P.length+1) cap5,P++[(⟨x,true,ps.map fun q=>bI q.2,bI l,gs,gd⟩,.slice au ps.length cu)],by rw [← World.setCell_alloc_past (hn:=hsz6)];exact hend,by rw [if_pos rfl,HD.out,List.map_append];rfl⟩))⟩
end face
end Go.Proofs.YtfopddgjdaoidaaGreatDoor
