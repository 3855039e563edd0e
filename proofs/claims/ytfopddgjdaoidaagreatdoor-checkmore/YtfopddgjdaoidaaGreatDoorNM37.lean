/- What the program's statements, and its blocks, come to. -/
import Derived.Test.YtfopddgjdaoidaaGreatDoorNM35
import Derived.Test.YtfopddgjdaoidaaGreatDoorNM36
set_option linter.unusedVariables false
set_option linter.unusedSimpArgs false
set_option maxRecDepth 100000
namespace Go.Proofs.YtfopddgjdaoidaaGreatDoor.chk
open Go.RowKit Go.Shelf
open syn face
theorem blsF_step (E:Env) (p:Pr) (ctx deep:Int) (ks:List Tree) (j:Nat) (hj:j<ks.length) (L:List Loc) (a:Int):blsF E p ctx deep (ks.drop j) L a=match blF E p ctx deep ks[j] L a with
    | .bad c b=>.bad c b
    | .ok q=>blsF E p ctx deep (ks.drop (j+1)) q.1 q.2:=by
  rw [List.drop_eq_getElem_cons hj]
  simp only [blsF]
  rfl
section
variable {E:Env} {p:Pr} {w0:World} {D Kb kn:Nat} {kf:KF}
set_option maxHeartbeats 4000000 in
theorem oStatIf (k:Int) (hk:k=10∨k=11) (x:ByteArray) (m:Int) (e:Tree) (r:List Tree) (hx:ExT e) (hr:∀ t ∈ r,BlT t) (hne:0<r.length) (hT:∀ L,LabL L→Tab E L kf (vsOf L)) (hcap:∀ g o c,Lies (·<w0.heap.size) w0 (.node k x m (e :: r)) (.agg #[.int .i64 k,.string x,.int .i64 m,.slice (some ⟨g,o,none⟩) (r.length+1) c])→r.length+1≤c)
    (ih:∀ j (hj:j<r.length),BlockC E p w0 D Kb kn kf r[j]):StatC E p w0 D Kb kn kf (.node k x m (e :: r)):=by
  intro ctx deep first L u v w at_ hv hInv hLab h20 hctx hdeep h h0 hm
  have c24:Tryz.prog.cellsOf 25=4:=by kernel_rfl
  have c2:Tryz.prog.cellsOf 179=2:=by kernel_rfl
  have c4:Tryz.prog.cellsOf 76=4:=cell4
  have hTab:=hT L hLab
  have hvs:(vsOf L).length≤1000:=by rw [vsOf_len];omega
  rw [cntN] at hm
  have hcl:=cntL_pos (e :: r)
  obtain ⟨g,o,c,rfl,hg,hl,hkid⟩:=lies_kid hv (by simp)
  obtain ⟨kk,xx,mm,aa,na,ca,k0,k1,k2,k3,hle⟩:=hkid 0 (by simp)
  simp only [Nat.zero_mul,Nat.add_zero,List.getElem_cons_zero,List.length_cons] at k0 k1 k2 k3 hle hl ⊢
  have hcp2:=hcap _ _ _ hv
  have hkid2:∀ j (hj:j<r.length),∃ kk xx mm aa na ca,w0.cell? ⟨g,o+4+j * 4,none⟩=some (.int .i64 kk)∧w0.cell? ⟨g,o+4+j * 4+1,none⟩=some (.string xx)∧w0.cell? ⟨g,o+4+j * 4+2,none⟩=some (.int .i64 mm)∧w0.cell? ⟨g,o+4+j * 4+3,none⟩=some (.slice aa na ca)∧Lies (·<w0.heap.size) w0 r[j] (.agg #[.int .i64 kk,.string xx,.int .i64 mm,.slice aa na ca]):=fun j hj=>by
    have:=hkid (j+1) (by simp;omega)
    rw [show o+(j+1) * 4=o+4+j * 4 by omega] at this
    simpa using this
  have HR:=show Hid _ from st_if (E:=E) (L:=L) p ctx deep at_ hk x m e r
  obtain ⟨R,hR⟩:∃ R,stF E p ctx deep false (.node k x m (e :: r)) L at_=R:=⟨_,rfl⟩
  rw [hR] at HR ⊢
  clear hR hkid hv
  have hub:∀ b,u.ownBlock=some b→b<w.heap.size:=fun b e=>(h.rl.lt _ e).2
  have hd:=h.lt
  have hI0:=(h.alloc (.cells #[.int .i64 k,.string x,.int .i64 m,.slice (some ⟨g,o,none⟩) (r.length+1) c] 25)).alloc (.cells #[.int .i64 ctx,.int .i64 (first:Int)] 179)
  have hf0:=((FrU.refl D u w).alloc (.cells #[.int .i64 k,.string x,.int .i64 m,.slice (some ⟨g,o,none⟩) (r.length+1) c] 25)).alloc (.cells #[.int .i64 ctx,.int .i64 (first:Int)] 179)
  have hBg:=hI0.begin h0 (by omega)
  have hS0:HS w.heap.size g o (.int .i64 k) (.string x) (.int .i64 m) (.slice (some ⟨g,o,none⟩) (r.length+1) c) (.int .i64 kk) (.string xx) (.int .i64 mm) (.slice aa na ca) (.int .i64 ctx) (.int .i64 (first:Int)) ((w.alloc (.cells #[.int .i64 k,.string x,.int .i64 m,.slice (some ⟨g,o,none⟩) (r.length+1) c] 25)).alloc (.cells #[.int .i64 ctx,.int .i64 (first:Int)] 179)) :=
    HS.new hI0.bs hg k0 k1 k2 k3
  have hgD:g≠D:=by have:=h.hD;omega
  have hKb:=h.mp.lt
  have hfm:=h.fm
  have hcp:=cntT_pos e
  have hcr:=cntL_pos r
  have hlr:=len_cnt r
  have hce:cntL (e :: r)=cntT e+cntL r:=rfl
  have hC:=fun W (hI1:CS w0 W D Kb kn kf (vsOf L) u (at_+1))=>oExpr E L ctx (hTab.agr ctx) hvs e _ W (at_+1) hx hle hI1 (by omega) (by omega)
  have HA:Hid (∀ q,exF E L ctx false e (at_+1)=.ok q→q.2=at_+1+cntT e):=fun q hq=>exF_at E L ctx _ _ _ _ hq
  clear hle k0 k1 k2 k3 hx hTab hT hcap
  generalize exF E L ctx false e (at_+1)=X at *
  have hk7:¬ k=7:=by omega
  have hk8:¬ k=8:=by omega
  have hk9:¬ k=9:=by omega
  go_enter Tryz.func157,Tryz.ntmps157
  go_wp2_with (go_at_call 81;refine hBg.mono ?_;rintro e w1 ⟨rfl,hw1⟩;have hI1:CS w0 w1 D Kb kn kf (vsOf L) u (at_+1):=by { rw [hw1];exact hI0.setAt _ };have hS1:HS w.heap.size g o (.int .i64 k) (.string x) (.int .i64 m) (.slice (some ⟨g,o,none⟩) (r.length+1) c) (.int .i64 kk) (.string xx) (.int .i64 mm) (.slice aa na ca) (.int .i64 ctx) (.int .i64 (first:Int)) w1:=by { rw [hw1];exact hS0.setD (by omega) (by omega) hgD _ _ };have hf1:FrU D u u w w1:=by { rw [hw1];exact hf0.set _ _ (fun _ e=>e) };have hsz1:w.heap.size+2≤w1.heap.size:=by { rw [hw1,World.size_setCell];simp };clear hw1;obtain ⟨y0,y1,y2,y3,y4,y5,y6,y7,y8,y9⟩:=id hS1)
  clear y0 y1 y2 y3 y4 y5 y6 y7 y8 y9 hI0 hf0 hS0 hBg
  all_goals
    have hS:HS w.heap.size g o (.int .i64 k) (.string x) (.int .i64 m) (.slice (some ⟨g,o,none⟩) (r.length+1) c) (.int .i64 kk) (.string xx) (.int .i64 mm) (.slice aa na ca) (.int .i64 ctx) (.int .i64 (first:Int)) w1.drew:=hS1
    refine wp_region_held_drew (S:=HS w.heap.size g o (.int .i64 k) (.string x) (.int .i64 m) (.slice (some ⟨g,o,none⟩) (r.length+1) c) (.int .i64 kk) (.string xx) (.int .i64 mm) (.slice aa na ca) (.int .i64 ctx) (.int .i64 (first:Int))) (by kernel_rfl) hS (fun hHeld=>?_)
    clear hHeld
    replace hI1:=hI1.drew
    replace hf1:=hf1.drew
    replace hsz1:w.heap.size+2≤w1.drew.heap.size:=hsz1
    generalize w1.drew=W at *
    refine tkH (i:=0) (v:=.pointer (some ⟨D,0,none⟩)) rfl (Or.inl ⟨by rfl,fun w hSw=>by obtain ⟨y0,y1,y2,y3,y4,y5,y6,y7,y8,y9⟩:=hSw;go_simp⟩) hS ?_
    simp only [Act.put,jA,jB,jC]
    refine tkH (i:=1) (v:=.pointer (some ⟨w.heap.size,3,none⟩)) rfl (Or.inl ⟨by rfl,fun w hSw=>by obtain ⟨y0,y1,y2,y3,y4,y5,y6,y7,y8,y9⟩:=hSw;go_simp⟩) hS ?_
    simp only [Act.put,jA,jB,jC]
    refine tkH (i:=2) (v:=.slice (some ⟨g,o,none⟩) (r.length+1) c) rfl (Or.inl ⟨by rfl,fun w hSw=>by obtain ⟨y0,y1,y2,y3,y4,y5,y6,y7,y8,y9⟩:=hSw;go_simp⟩) hS ?_
    simp only [Act.put,jA,jB,jC]
    refine tkH (i:=3) (v:=.pointer (some ⟨g,o,none⟩)) rfl (Or.inl ⟨by rfl,fun w hSw=>by obtain ⟨y0,y1,y2,y3,y4,y5,y6,y7,y8,y9⟩:=hSw;go_simp⟩) hS ?_
    simp only [Act.put,jA,jB,jC]
    refine tkH (i:=4) (v:=.agg #[.int .i64 kk,.string xx,.int .i64 mm,.slice aa na ca]) rfl (Or.inl ⟨by rfl,fun w hSw=>by obtain ⟨y0,y1,y2,y3,y4,y5,y6,y7,y8,y9⟩:=hSw;go_simp⟩) hS ?_
    simp only [Act.put,jA,jB,jC]
    refine tkH (i:=5) (v:=.pointer (some ⟨w.heap.size+1,0,none⟩)) rfl (Or.inl ⟨by rfl,fun w hSw=>by obtain ⟨y0,y1,y2,y3,y4,y5,y6,y7,y8,y9⟩:=hSw;go_simp⟩) hS ?_
    simp only [Act.put,jA,jB,jC]
    refine tkH (i:=6) (v:=.int .i64 ctx) rfl (Or.inl ⟨by rfl,fun w hSw=>by obtain ⟨y0,y1,y2,y3,y4,y5,y6,y7,y8,y9⟩:=hSw;go_simp⟩) hS ?_
    simp only [Act.put,jA,jB,jC]
    refine wpAnyH_ready (rs:=[7]) (by kernel_rfl) (by simp) ?_
    refine AllReadyH.cons rfl (fun K hK=>?_) AllReadyH.nil
    go_simp
    go_at_call 159
    refine (hC W hI1).mono ?_
    cases X with
    | bad cc bb =>
      have HB:Hid (R=.bad cc bb):=HR.out
      rintro e w2 ⟨rfl,hb2⟩
      go_wp2
      exact ⟨rfl,SR.mkBad HB.out hb2⟩
    | ok q =>
      have HAT:=HA.out q rfl
      obtain ⟨l1,a1⟩:=q
      dsimp only at HAT
      subst HAT
      have HB:Hid (R=blsF E p (jn ctx l1) (deep+1) r L (at_+1+cntT e)):=HR.out
      clear HR HA
      rintro e9 w2 ⟨rfl,hI2,hF2⟩
      dsimp only at hI2
      have hS2:=hS.fr (FrU.of hF2 u) hI1.bs hI2.bs hg (by omega) (by omega) (fun e=>by have:=hub _ e;omega) (fun e=>by have:=hub _ e;omega)
      have hf2:=hf1.trans (FrU.of hF2 u)
      have hsz2:w.heap.size+2≤w2.heap.size:=Nat.le_trans hsz1 hF2.size
      clear hF2 hS hI1 hf1 hC hsz1
      go_wp2
      refine hK.out _ _ hS2 (fun hHeld=>?_)
      clear hK K hHeld
      refine tkH (i:=8) (v:=.int .i64 l1) rfl (Or.inl ⟨by rfl,fun w hSw=>by go_simp⟩) hS2 ?_
      simp only [Act.put,jA,jB,jC]
      simp only [List.getElem_toArray,List.getElem_cons_succ,List.getElem_cons_zero,List.setIfInBounds_toArray,List.set_cons_zero,List.set_cons_succ]
      refine wpAnyH_done (by kernel_rfl) ?_ _
      obtain ⟨y0,y1,y2,y3,y4,y5,y6,y7,y8,y9⟩:=id hS2
      have hc1:¬ c=1:=by omega
      go_wp2
      clear y0 y1 y2 y3 y4 y5 y6 y7 y8 y9
      go_loopw [104] (fun t wr=>∃ (j:Nat) (u':Value),j≤r.length∧t=.int .i64 j∧CS w0 wr D Kb kn kf (vsOf L) u' (at_+1+cntT e+cntL (r.take j))∧FrU D u u' w2 wr∧Hid (R=blsF E p (jn ctx l1) (deep+1) (r.drop j) L (at_+1+cntT e+cntL (r.take j)))) (fun t _=>r.length - (intOf t).toNat)
      case atStart =>
        refine ⟨0,u,Nat.zero_le _,rfl,by simpa [cntL] using hI2,FrU.refl _ _ _,?_⟩
        show _=_
        rw [HB.out,List.drop_zero]
        simp only [List.take_zero,cntL,Int.add_zero]
      case round =>
        obtain ⟨j,u',hj,rfl,hI,hFr,HRR⟩:=hrel
        have hS6:=hS2.fr hFr hI2.bs hI.bs hg (by omega) (by omega) (fun e=>by have:=hub _ e;omega) (fun e=>by have:=hub _ e;omega)
        have hub':∀ b,u'.ownBlock=some b→b<wr.heap.size:=fun b e=>(hI.rl.lt _ e).2
        by_cases hlt:j<r.length
        · obtain ⟨jk,jx,jm,ja,jn2,jc,c0,c1',c2',c3,hlk⟩:=hkid2 j hlt
          have q0:=(hI.bs.cell (p:=⟨g,o+4+j * 4,none⟩) hg).trans c0
          have q1:=(hI.bs.cell (p:=⟨g,o+4+j * 4+1,none⟩) hg).trans c1'
          have q2:=(hI.bs.cell (p:=⟨g,o+4+j * 4+2,none⟩) hg).trans c2'
          have q3:=(hI.bs.cell (p:=⟨g,o+4+j * 4+3,none⟩) hg).trans c3
          have hs1:=cntL_take r j hlt
          have hs2:=cntL_take_le r (j+1)
          have hs3:=cntT_pos r[j]
          have hs4:=cntL_pos (r.take j)
          have hI1:=hI.alloc (.cells #[.int .i64 jk,.string jx,.int .i64 jm,.slice ja jn2 jc] 25)
          have hFr1:=hFr.alloc (.cells #[.int .i64 jk,.string jx,.int .i64 jm,.slice ja jn2 jc] 25)
          have hszr:w2.heap.size≤wr.heap.size:=hFr.size
          have hC:=fun W hIW=>ih j hlt (jn ctx l1) deep first L u' _ W (at_+1+cntT e+cntL (r.take j)) hlk hInv hLab h20 (jn_lab _ _) hdeep hIW (by omega) (by omega)
          have HP:Hid (R=match blF E p (jn ctx l1) (deep+1) r[j] L (at_+1+cntT e+cntL (r.take j)) with
              | .bad c b=>.bad c b
              | .ok q=>blsF E p (jn ctx l1) (deep+1) (r.drop (j+1)) q.1 q.2):=HRR.out.trans (blsF_step E p _ _ r j hlt L _)
          have HA2:Hid (∀ q,blF E p (jn ctx l1) (deep+1) r[j] L (at_+1+cntT e+cntL (r.take j))=.ok q→q.1=L∧q.2=at_+1+cntT e+cntL (r.take (j+1))):=fun q hq=>by
            obtain ⟨h1,h2⟩:=blF_ok E p _ _ _ _ _ _ (hr _ (List.getElem_mem hlt)) hq
            exact ⟨h1,by omega⟩
          clear c0 c1' c2' c3 hlk HRR hs1 hs2 hs3 hs4 ih hkid2 HB
          generalize blF E p (jn ctx l1) (deep+1) r[j] L (at_+1+cntT e+cntL (r.take j))=Y at *
          have n0:=cell_new hS6.2.2.2.2.2.2.2.2.1 (.cells #[.int .i64 jk,.string jx,.int .i64 jm,.slice ja jn2 jc] 25)
          have hS8:(fun W=>W.cell? ⟨wr.heap.size,0,none⟩=some (.int .i64 jk)∧W.cell? ⟨wr.heap.size,1,none⟩=some (.string jx)∧W.cell? ⟨wr.heap.size,2,none⟩=some (.int .i64 jm)∧W.cell? ⟨wr.heap.size,3,none⟩=some (.slice ja jn2 jc)∧W.cell? ⟨w.heap.size+1,0,none⟩=some (.int .i64 ctx)) (wr.alloc (.cells #[.int .i64 jk,.string jx,.int .i64 jm,.slice ja jn2 jc] 25)).drew:=⟨by simp,by simp,by simp,by simp,n0⟩
          go_wp2
          refine wp_region_held_drew (S:=fun W=>W.cell? ⟨wr.heap.size,0,none⟩=some (.int .i64 jk)∧W.cell? ⟨wr.heap.size,1,none⟩=some (.string jx)∧W.cell? ⟨wr.heap.size,2,none⟩=some (.int .i64 jm)∧W.cell? ⟨wr.heap.size,3,none⟩=some (.slice ja jn2 jc)∧W.cell? ⟨w.heap.size+1,0,none⟩=some (.int .i64 ctx)) (by kernel_rfl) hS8 (fun hHeld=>?_)
          clear hHeld q0 q1 q2 q3
          replace hI1:=hI1.drew
          replace hFr1:=hFr1.drew
          have hlt8:wr.heap.size<(wr.alloc (.cells #[.int .i64 jk,.string jx,.int .i64 jm,.slice ja jn2 jc] 25)).drew.heap.size:=by show _<(wr.alloc (.cells #[.int .i64 jk,.string jx,.int .i64 jm,.slice ja jn2 jc] 25)).heap.size;simp
          generalize (wr.alloc (.cells #[.int .i64 jk,.string jx,.int .i64 jm,.slice ja jn2 jc] 25)).drew=W8 at *
          refine tkH (i:=0) (v:=.pointer (some ⟨D,0,none⟩)) rfl (Or.inl ⟨by rfl,fun w hSw=>by obtain ⟨y0,y1,y2,y3,y4⟩:=hSw;go_simp⟩) hS8 ?_
          simp only [Act.put,jA,jB,jC]
          refine tkH (i:=1) (v:=.agg #[.int .i64 jk,.string jx,.int .i64 jm,.slice ja jn2 jc]) rfl (Or.inl ⟨by rfl,fun w hSw=>by obtain ⟨y0,y1,y2,y3,y4⟩:=hSw;go_simp⟩) hS8 ?_
          simp only [Act.put,jA,jB,jC]
          refine tkH (i:=2) (v:=.pointer (some ⟨w.heap.size+1,0,none⟩)) rfl (Or.inl ⟨by rfl,fun w hSw=>by obtain ⟨y0,y1,y2,y3,y4⟩:=hSw;go_simp⟩) hS8 ?_
          simp only [Act.put,jA,jB,jC]
          refine tkH (i:=3) (v:=.int .i64 ctx) rfl (Or.inl ⟨by rfl,fun w hSw=>by obtain ⟨y0,y1,y2,y3,y4⟩:=hSw;go_simp⟩) hS8 ?_
          simp only [Act.put,jA,jB,jC]
          refine tkH (i:=4) (v:=.int .i64 l1) rfl (Or.inl ⟨by rfl,fun w hSw=>by obtain ⟨y0,y1,y2,y3,y4⟩:=hSw;go_simp⟩) hS8 ?_
          simp only [Act.put,jA,jB,jC]
          refine wpAnyH_ready (rs:=[5]) (by kernel_rfl) (by simp) ?_
          refine AllReadyH.cons rfl (fun K hK=>?_) AllReadyH.nil
          go_simp
          go_at_call 188
          refine (oJoin _ _ _).mono ?_
          rintro e6 w6 ⟨rfl,hw6⟩
          obtain rfl:=hw6.symm
          go_wp2
          refine hK.out _ _ hS8 (fun hHeld=>?_)
          clear hK K hHeld
          refine wpAnyH_ready (rs:=[6]) (by kernel_rfl) (by simp) ?_
          refine AllReadyH.cons rfl (fun K hK=>?_) AllReadyH.nil
          go_simp
          go_at_call 187
          refine (hC _ hI1).mono ?_
          cases Y with
          | bad cc bb =>
            have HC:Hid (R=.bad cc bb):=HP.out
            rintro e6 w9 ⟨rfl,hb2⟩
            go_wp2
            exact ⟨rfl,SR.mkBad HC.out hb2⟩
          | ok q =>
            obtain ⟨L2,a2⟩:=q
            obtain ⟨g1,g2⟩:=HA2.out _ rfl
            dsimp only at g1 g2
            subst g1 g2
            have HC:Hid (R=blsF E p (jn ctx l1) (deep+1) (r.drop (j+1)) L2 (at_+1+cntT e+cntL (r.take (j+1)))):=HP.out
            clear HP HA2
            rintro e6 w9 ⟨rfl,u9,hI9,hf9⟩
            dsimp only at hI9
            have hS9:(fun W=>W.cell? ⟨wr.heap.size,0,none⟩=some (.int .i64 jk)∧W.cell? ⟨wr.heap.size,1,none⟩=some (.string jx)∧W.cell? ⟨wr.heap.size,2,none⟩=some (.int .i64 jm)∧W.cell? ⟨wr.heap.size,3,none⟩=some (.slice ja jn2 jc)∧W.cell? ⟨w.heap.size+1,0,none⟩=some (.int .i64 ctx)) w9:=⟨(hf9.cell hlt8 (by omega) (fun e=>by have:=hub' _ e;omega)).trans hS8.1,(hf9.cell hlt8 (by omega) (fun e=>by have:=hub' _ e;omega)).trans hS8.2.1,(hf9.cell hlt8 (by omega) (fun e=>by have:=hub' _ e;omega)).trans hS8.2.2.1,(hf9.cell hlt8 (by omega) (fun e=>by have:=hub' _ e;omega)).trans hS8.2.2.2.1,(hf9.cell (by omega) (by omega) (fun e=>by rcases hFr.own _ e with h5 | h5;have:=hub _ h5;omega;omega)).trans hS8.2.2.2.2⟩
            go_wp2
            refine hK.out _ _ hS9 (fun hHeld=>?_)
            clear hK K hHeld
            refine wpAnyH_done (by kernel_rfl) ?_ _
            go_wp2
            exact ⟨⟨j+1,u9,by omega,by simp,hI9,hFr1.trans hf9,HC.out⟩,by simp [intOf];omega⟩
        · obtain rfl:j=r.length:=by omega
          have HX:Hid (R=.ok (L,at_+1+cntT e+cntL r)):=by
            show _=_
            rw [HRR.out,List.drop_eq_nil_of_le (by omega),List.take_of_length_le (by omega)]
            simp only [blsF]
          rw [List.take_of_length_le (by omega)] at hI
          clear ih HRR hkid2 HB
          go_wp2
          go_end0
          exact SR.mkOk HX.out hI (hf2.trans hFr)
end
def HP (N g o:Nat) (n0 n1 n2 n3 k0 k1 k2 k3 s3 s5:Value) (W:World):Prop :=
  W.cell? ⟨N,0,none⟩=some n0∧W.cell? ⟨N,1,none⟩=some n1∧W.cell? ⟨N,2,none⟩=some n2∧W.cell? ⟨N,3,none⟩=some n3 ∧
  W.cell? ⟨g,o,none⟩=some k0∧W.cell? ⟨g,o+1,none⟩=some k1∧W.cell? ⟨g,o+2,none⟩=some k2∧W.cell? ⟨g,o+3,none⟩=some k3 ∧
  W.cell? ⟨N+1,3,none⟩=some s3∧W.cell? ⟨N+1,5,none⟩=some s5
theorem HP.to {N g o:Nat} {n0 n1 n2 n3 k0 k1 k2 k3 s3 s5:Value} {w w':World} (h:HP N g o n0 n1 n2 n3 k0 k1 k2 k3 s3 s5 w) (a1:∀ i,w'.cell? ⟨N,i,none⟩=w.cell? ⟨N,i,none⟩) (a2:∀ i,w'.cell? ⟨N+1,i,none⟩=w.cell? ⟨N+1,i,none⟩) (a3:∀ i,w'.cell? ⟨g,i,none⟩=w.cell? ⟨g,i,none⟩):HP N g o n0 n1 n2 n3 k0 k1 k2 k3 s3 s5 w':=by
  unfold HP
  rw [a1,a1,a1,a1,a2,a2,a3,a3,a3,a3]
  exact h
theorem HP.setD {N g o D:Nat} {n0 n1 n2 n3 k0 k1 k2 k3 s3 s5:Value} {w:World} (h:HP N g o n0 n1 n2 n3 k0 k1 k2 k3 s3 s5 w) (h1:N≠D) (h2:N+1≠D) (h3:g≠D) (j:Nat) (v:Value):HP N g o n0 n1 n2 n3 k0 k1 k2 k3 s3 s5 (w.setCell ⟨D,j,none⟩ v) :=
  h.to (fun i=>World.cell?_of_block (a:=⟨N,i,none⟩) (Below.heap_setCell w ⟨D,j,none⟩ v N h1)) (fun i=>World.cell?_of_block (a:=⟨N+1,i,none⟩) (Below.heap_setCell w ⟨D,j,none⟩ v (N+1) h2)) (fun i=>World.cell?_of_block (a:=⟨g,i,none⟩) (Below.heap_setCell w ⟨D,j,none⟩ v g h3))
theorem HP.fr {N g o D:Nat} {n0 n1 n2 n3 k0 k1 k2 k3 s3 s5:Value} {w0 w w':World} {u u':Value} (h:HP N g o n0 n1 n2 n3 k0 k1 k2 k3 s3 s5 w) (hf:FrU D u u' w w') (b0:Below w0.heap.size w0 w) (b1:Below w0.heap.size w0 w') (hg:g<w0.heap.size) (hN:N≠D) (hN1:N+1≠D) (hu:u.ownBlock≠some N) (hu1:u.ownBlock≠some (N+1)):HP N g o n0 n1 n2 n3 k0 k1 k2 k3 s3 s5 w' :=
  h.to (fun i=>hf.cell (World.block_lt_of_cell? w ⟨N,0,none⟩ h.1) hN hu) (fun i=>hf.cell (World.block_lt_of_cell? w ⟨N+1,3,none⟩ h.2.2.2.2.2.2.2.2.1) hN1 hu1) (fun i=>(b1.cell (p:=⟨g,i,none⟩) hg).trans (b0.cell (p:=⟨g,i,none⟩) hg).symm)
section
variable {E:Env} {p:Pr} {w0:World} {D Kb kn:Nat} {kf:KF}
set_option maxHeartbeats 4000000 in
theorem oResult (e:Tree) (hx:ExT e) (hT:∀ L,LabL L→Tab E L kf (vsOf L)) (q:ProcD) (za:Option Addr) (zn zc:Nat) (hgv:q.gives=true) (hlg:Lab q.given) (L:List Loc) (u v:Value) (w:World) (at_:Int) (hv:Lies (·<w0.heap.size) w0 (.node 14 empty 0 [e]) v) (hLab:LabL L) (h20:L.length≤20) (h:CS w0 w D Kb kn kf (vsOf L) u at_) (h0:0≤at_) (hm:at_+cntT (.node 14 empty 0 [e])≤1000000) :
    Calls Tryz.prog 134 #[.pointer (some ⟨D,0,none⟩),v,procV q (.slice za zn zc)] w (SR w0 D Kb kn kf u w (stF E ⟨q.gives,q.given⟩ q.writes 1 true (.node 14 empty 0 [e]) L at_)):=by
  have c24:Tryz.prog.cellsOf 25=4:=by kernel_rfl
  have c6:Tryz.prog.cellsOf 80=6:=cell6
  have hTab:=hT L hLab
  have hvs:(vsOf L).length≤1000:=by rw [vsOf_len];omega
  rw [cntN,cntL_one] at hm
  have hcp:=cntT_pos e
  obtain ⟨g,o,c,rfl,hg,hl,hkid⟩:=lies_kid hv (by simp)
  obtain ⟨kk,xx,mm,aa,na,ca,k0,k1,k2,k3,hle⟩:=hkid 0 (by simp)
  simp only [Nat.zero_mul,Nat.add_zero,List.getElem_cons_zero,List.length_singleton] at k0 k1 k2 k3 hle ⊢
  have HR:=show Hid _ from st_last (E:=E) (L:=L) ⟨q.gives,q.given⟩ q.writes 1 at_ hTab hgv hlg e
  obtain ⟨R,hR⟩:∃ R,stF E ⟨q.gives,q.given⟩ q.writes 1 true (.node 14 empty 0 [e]) L at_=R:=⟨_,rfl⟩
  rw [hR] at HR ⊢
  clear hR hkid hv hgv
  unfold procV
  have hub:∀ b,u.ownBlock=some b→b<w.heap.size:=fun b e=>(h.rl.lt _ e).2
  have hd:=h.lt
  have hI0:=(h.alloc (.cells #[.int .i64 14,.string empty,.int .i64 0,.slice (some ⟨g,o,none⟩) 1 c] 25)).alloc (.cells #[.string q.name,.bool q.pub,.slice za zn zc,.int .i64 q.writes,.bool q.gives,.int .i64 q.given] 80)
  have hf0:=((FrU.refl D u w).alloc (.cells #[.int .i64 14,.string empty,.int .i64 0,.slice (some ⟨g,o,none⟩) 1 c] 25)).alloc (.cells #[.string q.name,.bool q.pub,.slice za zn zc,.int .i64 q.writes,.bool q.gives,.int .i64 q.given] 80)
  have hBg:=hI0.begin h0 (by omega)
  have hS0:HP w.heap.size g o (.int .i64 14) (.string empty) (.int .i64 0) (.slice (some ⟨g,o,none⟩) 1 c) (.int .i64 kk) (.string xx) (.int .i64 mm) (.slice aa na ca) (.int .i64 q.writes) (.int .i64 q.given) ((w.alloc (.cells #[.int .i64 14,.string empty,.int .i64 0,.slice (some ⟨g,o,none⟩) 1 c] 25)).alloc (.cells #[.string q.name,.bool q.pub,.slice za zn zc,.int .i64 q.writes,.bool q.gives,.int .i64 q.given] 80)) :=
    ⟨by simp,by simp,by simp,by simp,(hI0.bs.cell (p:=⟨g,o,none⟩) hg).trans k0,(hI0.bs.cell (p:=⟨g,o+1,none⟩) hg).trans k1,(hI0.bs.cell (p:=⟨g,o+2,none⟩) hg).trans k2,(hI0.bs.cell (p:=⟨g,o+3,none⟩) hg).trans k3,news_new _ #[.string q.name,.bool q.pub,.slice za zn zc,.int .i64 q.writes,.bool q.gives,.int .i64 q.given] _ (w.heap.size+1) (by simp) 3 _ rfl,news_new _ #[.string q.name,.bool q.pub,.slice za zn zc,.int .i64 q.writes,.bool q.gives,.int .i64 q.given] _ (w.heap.size+1) (by simp) 5 _ rfl⟩
  have hgD:g≠D:=by have:=h.hD;omega
  have hC:=fun W (hI1:CS w0 W D Kb kn kf (vsOf L) u (at_+1))=>oExpr E L q.writes (hTab.agr q.writes) hvs e _ W (at_+1) hx hle hI1 (by omega) (by omega)
  clear hle k0 k1 k2 k3 hx hTab hT
  generalize exF E L q.writes false e (at_+1)=X at *
  go_enter Tryz.func134,Tryz.ntmps134
  go_wp2_with (go_at_call 81;refine hBg.mono ?_;rintro e w1 ⟨rfl,hw1⟩;have hI1:CS w0 w1 D Kb kn kf (vsOf L) u (at_+1):=by { rw [hw1];exact hI0.setAt _ };have hS1:HP w.heap.size g o (.int .i64 14) (.string empty) (.int .i64 0) (.slice (some ⟨g,o,none⟩) 1 c) (.int .i64 kk) (.string xx) (.int .i64 mm) (.slice aa na ca) (.int .i64 q.writes) (.int .i64 q.given) w1:=by { rw [hw1];exact hS0.setD (by omega) (by omega) hgD _ _ };have hf1:FrU D u u w w1:=by { rw [hw1];exact hf0.set _ _ (fun _ e=>e) };clear hw1)
  clear hI0 hf0 hS0 hBg
  have hS:HP w.heap.size g o (.int .i64 14) (.string empty) (.int .i64 0) (.slice (some ⟨g,o,none⟩) 1 c) (.int .i64 kk) (.string xx) (.int .i64 mm) (.slice aa na ca) (.int .i64 q.writes) (.int .i64 q.given) w1.drew:=hS1
  refine wp_region_held_drew (S:=HP w.heap.size g o (.int .i64 14) (.string empty) (.int .i64 0) (.slice (some ⟨g,o,none⟩) 1 c) (.int .i64 kk) (.string xx) (.int .i64 mm) (.slice aa na ca) (.int .i64 q.writes) (.int .i64 q.given)) (by kernel_rfl) hS (fun hHeld=>?_)
  clear hHeld hS1
  replace hI1:=hI1.drew
  replace hf1:=hf1.drew
  generalize w1.drew=W at *
  refine tkH (i:=0) (v:=.int .i64 at_) rfl (Or.inl ⟨by rfl,fun w hSw=>by obtain ⟨y0,y1,y2,y3,y4,y5,y6,y7,y8,y9⟩:=hSw;go_simp⟩) hS ?_
  simp only [Act.put,jA,jB,jC]
  refine tkH (i:=1) (v:=.pointer (some ⟨w.heap.size+1,5,none⟩)) rfl (Or.inl ⟨by rfl,fun w hSw=>by obtain ⟨y0,y1,y2,y3,y4,y5,y6,y7,y8,y9⟩:=hSw;go_simp⟩) hS ?_
  simp only [Act.put,jA,jB,jC]
  refine tkH (i:=2) (v:=.int .i64 q.given) rfl (Or.inl ⟨by rfl,fun w hSw=>by obtain ⟨y0,y1,y2,y3,y4,y5,y6,y7,y8,y9⟩:=hSw;go_simp⟩) hS ?_
  simp only [Act.put,jA,jB,jC]
  refine tkH (i:=3) (v:=.pointer (some ⟨D,0,none⟩)) rfl (Or.inl ⟨by rfl,fun w hSw=>by obtain ⟨y0,y1,y2,y3,y4,y5,y6,y7,y8,y9⟩:=hSw;go_simp⟩) hS ?_
  simp only [Act.put,jA,jB,jC]
  refine tkH (i:=4) (v:=.pointer (some ⟨w.heap.size,3,none⟩)) rfl (Or.inl ⟨by rfl,fun w hSw=>by obtain ⟨y0,y1,y2,y3,y4,y5,y6,y7,y8,y9⟩:=hSw;go_simp⟩) hS ?_
  simp only [Act.put,jA,jB,jC]
  refine tkH (i:=5) (v:=.slice (some ⟨g,o,none⟩) 1 c) rfl (Or.inl ⟨by rfl,fun w hSw=>by obtain ⟨y0,y1,y2,y3,y4,y5,y6,y7,y8,y9⟩:=hSw;go_simp⟩) hS ?_
  simp only [Act.put,jA,jB,jC]
  refine tkH (i:=6) (v:=.pointer (some ⟨g,o,none⟩)) rfl (Or.inl ⟨by rfl,fun w hSw=>by obtain ⟨y0,y1,y2,y3,y4,y5,y6,y7,y8,y9⟩:=hSw;go_simp⟩) hS ?_
  simp only [Act.put,jA,jB,jC]
  refine tkH (i:=7) (v:=.agg #[.int .i64 kk,.string xx,.int .i64 mm,.slice aa na ca]) rfl (Or.inl ⟨by rfl,fun w hSw=>by obtain ⟨y0,y1,y2,y3,y4,y5,y6,y7,y8,y9⟩:=hSw;go_simp⟩) hS ?_
  simp only [Act.put,jA,jB,jC]
  refine tkH (i:=8) (v:=.pointer (some ⟨w.heap.size+1,3,none⟩)) rfl (Or.inl ⟨by rfl,fun w hSw=>by obtain ⟨y0,y1,y2,y3,y4,y5,y6,y7,y8,y9⟩:=hSw;go_simp⟩) hS ?_
  simp only [Act.put,jA,jB,jC]
  refine tkH (i:=9) (v:=.int .i64 q.writes) rfl (Or.inl ⟨by rfl,fun w hSw=>by obtain ⟨y0,y1,y2,y3,y4,y5,y6,y7,y8,y9⟩:=hSw;go_simp⟩) hS ?_
  simp only [Act.put,jA,jB,jC]
  refine wpAnyH_ready (rs:=[10]) (by kernel_rfl) (by simp) ?_
  refine AllReadyH.cons rfl (fun K hK=>?_) AllReadyH.nil
  go_simp
  go_at_call 159
  refine (hC W hI1).mono ?_
  cases X with
  | bad cc bb =>
    have HB:Hid (R=.bad cc bb):=HR.out
    rintro e w2 ⟨rfl,hb2⟩
    go_wp2
    exact ⟨rfl,SR.mkBad HB.out hb2⟩
  | ok qq =>
    obtain ⟨l1,a1⟩:=qq
    have HB:Hid (R=if flows q.given [l1]=false then .bad 7 at_ else .ok (L,a1)):=HR.out
    clear HR
    rintro e w2 ⟨rfl,hI2,hF2⟩
    dsimp only at hI2
    have hS2:=hS.fr (FrU.of hF2 u) hI1.bs hI2.bs hg (by omega) (by omega) (fun e=>by have:=hub _ e;omega) (fun e=>by have:=hub _ e;omega)
    have hf2:=hf1.trans (FrU.of hF2 u)
    clear hF2 hS hI1 hf1 hC
    go_wp2
    refine hK.out _ _ hS2 (fun hHeld=>?_)
    clear hK K hHeld
    refine wpAnyH_ready (rs:=[11]) (by kernel_rfl) (by simp) ?_
    refine AllReadyH.cons rfl (fun K hK=>?_) AllReadyH.nil
    go_simp
    have hIn:=ints_one w2 l1
    have hI3:=hI2.alloc (.cells #[.int .i64 l1] 3)
    have hS3:=hS2.fr ((FrU.refl D u w2).alloc (.cells #[.int .i64 l1] 3)) hI2.bs hI3.bs hg (by omega) (by omega) (fun e=>by have:=hub _ e;omega) (fun e=>by have:=hub _ e;omega)
    have hf3:=hf2.alloc (.cells #[.int .i64 l1] 3)
    refine hK.out _ _ hS3 (fun hHeld=>?_)
    clear hK K hHeld hS2 hI2 hf2
    generalize w2.alloc (.cells #[.int .i64 l1] 3)=W3 at *
    generalize w2.heap.size=B3 at *
    refine wpAnyH_ready (rs:=[12]) (by kernel_rfl) (by simp) ?_
    refine AllReadyH.cons rfl (fun K hK=>?_) AllReadyH.nil
    go_simp
    go_at_call 158
    refine (oFlow at_ q.given [l1] _ _ hIn).mono ?_
    rintro e w6 (⟨hfl,rfl,rfl⟩ | ⟨hfl,rfl,rfl⟩)
    · have HC:Hid (R=.ok (L,a1)):=HB.out.trans (if_neg (by rw [hfl];decide))
      clear hfl HB
      go_wp2
      refine hK.out _ _ hS3 (fun hHeld=>?_)
      clear hK K hHeld
      refine wpAnyH_done (by kernel_rfl) ?_ _
      go_wp2
      go_end0
      exact SR.mkOk HC.out hI3 hf3
    · have HC:Hid (R=.bad 7 at_):=HB.out.trans (if_pos hfl)
      clear hfl HB
      go_wp2
      exact ⟨rfl,SR.mkBad HC.out hI3.bs⟩
end
theorem lies_cap {w:World} {P:Nat→Prop} {k:Int} {x:ByteArray} {m:Int} {ks:List Tree} {a:Option Addr} {n c:Nat} (h:Lies P w (.node k x m ks) (.agg #[.int .i64 k,.string x,.int .i64 m,.slice a n c])):ks.length≤c:=by
  unfold Lies at h
  obtain ⟨a',c',e,⟨h1,h2⟩,_⟩:=h
  injection e with e
  simp only [Array.mk.injEq,List.cons.injEq,and_true,true_and,Value.slice.injEq] at e
  omega
section
variable {E:Env} {p:Pr} {w0:World} {D Kb kn:Nat} {kf:KF}
theorem oStat_all (hT:∀ L,LabL L→Tab E L kf (vsOf L)):∀ n:Nat,(∀ t:Tree,SizeOf.sizeOf t≤n→StT t→StatC E p w0 D Kb kn kf t)∧(∀ t:Tree,SizeOf.sizeOf t≤n→BlT t→BlockC E p w0 D Kb kn kf t):=by
  intro n
  induction n with
  | zero =>
    refine ⟨fun t h=>?_,fun t h=>?_⟩ <;> (obtain ⟨k,x,m,ks⟩:=t;simp at h)
  | succ n ih =>
    obtain ⟨ihS,ihB⟩:=ih
    have hkid:∀ {k:Int} {x:ByteArray} {m:Int} {ks:List Tree},SizeOf.sizeOf (Tree.node k x m ks)≤n+1→∀ t ∈ ks,SizeOf.sizeOf t≤n:=fun h t ht=>by
      have h1:=List.sizeOf_lt_of_mem ht
      simp at h
      omega
    refine ⟨fun t h hs=>?_,fun t h hb=>?_⟩
    · cases hs with
      | loc l hx he=>exact oStatLocal _ l _ he hT
      | set hp he =>
        cases hp with
        | nam hx=>exact oStatSet 16 _ 0 [] _ (.nam hx) he hx (fun t ht=>by cases ht) hT
        | item hx hi=>exact oStatSet 17 _ 0 _ _ (.item hx hi) he hx (fun t ht=>by simp only [List.mem_singleton] at ht;subst ht;exact hi) hT
      | dd hc =>
        cases hc with
        | mk hx hk=>exact oStatDo _ 0 _ hx hk hT
      | ift he hb =>
        exact oStatIf 10 (.inl rfl) _ _ _ _ he (fun t ht=>by simp only [List.mem_singleton] at ht;subst ht;exact hb) (by simp) hT (fun g o c hv=>lies_cap hv) (fun j hj=>by
          have hm:=List.getElem_mem hj
          exact ihB _ (hkid h _ (List.mem_cons_of_mem _ hm)) (by simp only [List.mem_singleton] at hm;rw [hm];exact hb))
      | ife he hb hc =>
        exact oStatIf 10 (.inl rfl) _ _ _ _ he (fun t ht=>by simp only [List.mem_cons,List.not_mem_nil,or_false] at ht;rcases ht with rfl | rfl;exact hb;exact hc) (by simp) hT (fun g o c hv=>lies_cap hv) (fun j hj=>by
          have hm:=List.getElem_mem hj
          refine ihB _ (hkid h _ (List.mem_cons_of_mem _ hm)) ?_
          generalize ([_,_]:List Tree)[j]=t at hm
          simp only [List.mem_cons,List.not_mem_nil,or_false] at hm
          rcases hm with rfl | rfl
          · exact hb
          · exact hc)
      | whi he hb =>
        exact oStatIf 11 (.inr rfl) _ _ _ _ he (fun t ht=>by simp only [List.mem_singleton] at ht;subst ht;exact hb) (by simp) hT (fun g o c hv=>lies_cap hv) (fun j hj=>by
          have hm:=List.getElem_mem hj
          exact ihB _ (hkid h _ (List.mem_cons_of_mem _ hm)) (by simp only [List.mem_singleton] at hm;rw [hm];exact hb))
      | out l he=>exact oStatOut l _ he hT
      | inn l hp =>
        cases hp with
        | nam hx=>exact oStatIn l 16 _ 0 [] (.nam hx) hx (fun t ht=>by cases ht) hT
        | item hx hi=>exact oStatIn l 17 _ 0 _ (.item hx hi) hx (fun t ht=>by simp only [List.mem_singleton] at ht;subst ht;exact hi) hT
      | ret he=>exact oStatRet _ he hT
    · obtain ⟨k,x,m,ks⟩:=t
      have hst:∀ t ∈ ks,StT t:=by cases hb with | mk h=>exact h
      exact oBlock k x m ks hb (oStats ks hst (fun j hj=>ihS _ (hkid h _ (List.getElem_mem hj)) (hst _ (List.getElem_mem hj))))
theorem oStatsAll (hT:∀ L,LabL L→Tab E L kf (vsOf L)) (ks:List Tree) (hst:∀ t ∈ ks,StT t):StatsC E p w0 D Kb kn kf ks :=
  oStats ks hst (fun j hj=>(oStat_all hT _).1 _ (jE _) (hst _ (List.getElem_mem hj)))
end
end Go.Proofs.YtfopddgjdaoidaaGreatDoor.chk
